/- The law of layer 3 on words of two strings. -/
import Derived.Test.YtgcpagnnkmpeoaaDoorTxWordsR
set_option linter.unusedVariables false
namespace Go.Proofs.YtgcpagnnkmpeoaaDoor
open Go.RowKit

/-- k words, each with a space behind it. -/
def spc (ls : List (List UInt8)) (k : Nat) : List UInt8 := ((ls.take k).map (· ++ [32])).flatten
theorem spc_more (ls : List (List UInt8)) (k : Nat) (h : k < ls.length) : spc ls (k + 1) = spc ls k ++ ls[k] ++ [32] := by
  unfold spc
  rw [List.take_succ_eq_append_getElem h, List.map_append, List.flatten_append]
  simp only [List.map_cons, List.map_nil, List.flatten_cons, List.flatten_nil, List.append_nil, List.append_assoc]
theorem spc_len (ls : List (List UInt8)) (k : Nat) : (spc ls k).length ≤ (ls.map (·.length)).sum + ls.length := by
  have h1 : ∀ ys : List (List UInt8), ((ys.map (· ++ [32])).flatten).length = (ys.map (·.length)).sum + ys.length := by
    intro ys
    induction ys with
    | nil => rfl
    | cons y r ih => simp only [List.map_cons, List.flatten_cons, List.length_append, List.sum_cons, List.length_cons, ih, List.length_nil]; omega
  unfold spc
  rw [h1]
  have h3 : ((ls.take k).map (·.length)).sum ≤ (ls.map (·.length)).sum := by
    have e := congrArg (fun l => (List.map (fun x : List UInt8 => x.length) l).sum) (List.take_append_drop k ls)
    simp only [List.map_append, List.sum_append] at e
    omega
  have h4 : (ls.take k).length ≤ ls.length := by rw [List.length_take]; omega
  omega
theorem own_below {w w' : World} {B n : Nat} {t : TypeId} {v : Value} {xs : List Value} (h : w.ownsRow B t 1 v n xs) (hb : Below w.heap.size w w') : w'.ownsRow B t 1 v n xs := by
  refine ⟨h.1, ?_⟩
  rcases h.2 with h2 | ⟨g, cap, cur, hv, hg, hh, r⟩
  · exact .inl h2
  · exact .inr ⟨g, cap, cur, hv, hg, (hb.block g (Array.getElem?_eq_some_iff.1 hh).1).trans hh, r⟩
theorem own_len {w : World} {B n : Nat} {v : Value} {xs : List (List UInt8)} (h : w.ownsRow B 9 1 v n (strs3 xs)) : n = xs.length := by
  have := h.1; rw [strs_len] at this; omega
theorem cat_data (s t : ByteArray) (c : UInt8) : (s ++ ⟨#[c]⟩ ++ t).data.toList = s.data.toList ++ c :: t.data.toList := by
  simp [ByteArray.data_append]

/-- 'append(v, m...)' where v is the call's own and m is another slice that the call has made. -/
theorem app_all {w : World} {ops : Array Oper} {rest : List Oper} {o : Oper} {a : Act} {Q : Exit → Act → World → Prop} (hgd : o.guard = none) (s x : Operand)
    (ho : o.op = .call { callee := .builtin .append, args := #[s, x], argTypes := #[22, 22] })
    (B B2 : Nat) (v v2 : Value) (n m : Nat) (xs ys : List (List UInt8)) (hs : a.eval s = v) (hx : a.eval x = v2) (hown : w.ownsRow B 9 1 v n (strs3 xs)) (hown2 : w.ownsRow B2 9 1 v2 m (strs3 ys))
    (hB : B ≤ w.heap.size) (hn : n + m ≤ 1000000000)
    (h : ∀ v' w', w'.ownsRow B 9 1 v' (n + m) (strs3 (xs ++ ys)) → (∀ A0, Below B A0 w → Below B A0 w') → wpList Tryd.prog ops Q rest (a.put o.dst v') w') :
    wpList Tryd.prog ops Q (o :: rest) a w := by
  obtain ⟨i0, hi, hz0, hz1, hz2⟩ := info_parts infoS
  have hlen := own_len hown2
  rcases Joins.ownsRow_forms hown2 with ⟨rfl, h0⟩ | ⟨g, cap, rfl⟩
  · refine wpList_append_own_none hgd s x 22 ho B 9 i0 1 Tryd.underlying22 hi v n (strs3 xs) hs hown hx ?_
    have hy : ys = [] := List.eq_nil_of_length_eq_zero (by omega)
    subst hy
    have := h v w (by rw [List.append_nil, h0]; exact hown) (fun A0 hb => hb)
    exact this
  · refine wpList_append_own w hgd s x 22 ho B 9 i0 (.string ByteArray.empty) 1 16 Tryd.underlying22 hi hz0 hz1 hz2 rfl (by decide) v n (strs3 xs) hs hown ⟨g, 0, none⟩ m cap (strs3 ys) hx (by rw [strs_len]; omega) (hown2.cells rfl) (strs_one ys) (by unfold maxLen; omega) (by omega) hB ?_
    intro v' w' hown' hgrow _
    rw [← strs_app] at hown'
    exact h v' w' hown' fun A0 hb => hb.grown hgrow hB (fun j e => (hown.lt j e).1)

set_option maxHeartbeats 4000000 in
theorem law_words1 (s t : ByteArray) (a : Int) (w : World) (hs : s.size + t.size ≤ 1048576) :
    Calls Tryd.prog 10 #[.string s, .string t, .int .i64 1] w fun e w' => e = .returned (.bool true) ∧ Below w.heap.size w w' := by
  have c1 := wds_count s.data.toList
  have c2 := wds_count t.data.toList
  have m1 := wds_sum s.data.toList
  rw [size_len] at c1 c2 m1
  have H1 : Hid (∀ w, Calls Tryd.prog 14 #[.string s] w fun e w' => ∃ v n, e = .returned v ∧ SA w' v (wds s.data.toList) ∧ w'.ownsRow w.heap.size 9 1 v n (strs3 (wds s.data.toList)) ∧ Below w.heap.size w w') := fun w => words_any s w (by omega)
  have H2 : Hid (∀ w, Calls Tryd.prog 14 #[.string t] w fun e w' => ∃ v n, e = .returned v ∧ SA w' v (wds t.data.toList) ∧ w'.ownsRow w.heap.size 9 1 v n (strs3 (wds t.data.toList)) ∧ Below w.heap.size w w') := fun w => words_any t w (by omega)
  have hsp := wds_spaced (wds s.data.toList) (wds_plain s.data.toList)
  have hsl : ∀ k, (spc (wds s.data.toList) k).length ≤ 4194304 := fun k => by have := spc_len (wds s.data.toList) k; omega
  have H3 : Hid (∀ w, Calls Tryd.prog 14 #[.string (mk (spc (wds s.data.toList) (wds s.data.toList).length))] w fun e w' => ∃ v n, e = .returned v ∧ SA w' v (wds s.data.toList) ∧ w'.ownsRow w.heap.size 9 1 v n (strs3 (wds s.data.toList)) ∧ Below w.heap.size w w') := fun w => by
    have h := words_any (mk (spc (wds s.data.toList) (wds s.data.toList).length)) w (by rw [mk_size]; have := hsl (wds s.data.toList).length; omega)
    have e : wds (mk (spc (wds s.data.toList) (wds s.data.toList).length)).data.toList = wds s.data.toList := by
      rw [mk_data]; unfold spc; rw [List.take_length]; exact hsp
    rw [e] at h
    exact h
  have hcs : (s ++ ⟨#[9]⟩ ++ t).size = s.size + 1 + t.size := by rw [← size_len, cat_data, List.length_append, List.length_cons, size_len, size_len]; omega
  have H4 : Hid (∀ w, Calls Tryd.prog 14 #[.string (s ++ ⟨#[9]⟩ ++ t)] w fun e w' => ∃ v, e = .returned v ∧ SA w' v (wds s.data.toList ++ wds t.data.toList) ∧ Below w.heap.size w w') := fun w => by
    have h := words_any (s ++ ⟨#[9]⟩ ++ t) w (by omega)
    rw [cat_data, wds_mid 9 _ _ (by decide)] at h
    exact h.mono fun e w' ⟨v, n, h1, h2, _, h3⟩ => ⟨v, h1, h2, h3⟩
  have H5 : Hid (∀ v1 v2 w, SA w v1 (wds s.data.toList) → SA w v2 (wds s.data.toList) → Calls Tryd.prog 13 #[v1, v2] w fun e w' => e = .returned (.bool true) ∧ Below w.heap.size w w') := fun v1 v2 w h1 h2 => by
    have := same_any v1 v2 _ _ w h1 h2 (by omega)
    rw [decide_eq_true rfl] at this
    exact this
  have H6 : Hid (∀ v1 v2 w, SA w v1 (wds s.data.toList ++ wds t.data.toList) → SA w v2 (wds s.data.toList ++ wds t.data.toList) → Calls Tryd.prog 13 #[v1, v2] w fun e w' => e = .returned (.bool true) ∧ Below w.heap.size w w') := fun v1 v2 w h1 h2 => by
    have := same_any v1 v2 _ _ w h1 h2 (by rw [List.length_append]; omega)
    rw [decide_eq_true rfl] at this
    exact this
  have HA := Lib.hid awake_any
  have hl1 : (wds s.data.toList).length ≤ 1048577 := by omega
  have hl2 : (wds t.data.toList).length ≤ 1048577 := by omega
  have HSL := Lib.hid hsl
  clear hsp hsl m1 c1 c2
  generalize hxs : wds s.data.toList = xs at *
  generalize hys : wds t.data.toList = ys at *
  have hz1 : s.size ≤ 1048576 := by omega
  have hz2 : t.size ≤ 1048576 := by omega
  clear hxs hys
  go_enter Tryd.func10, Tryd.ntmps10
  go_wp2_with (first
    | (go_at_call 14; with_reducible refine (H1.out _).mono ?_; rintro e w1 ⟨v1, n1, rfl, hs1, ho1, hb1⟩; have HS1 := Lib.hid hs1; have HO1 := Lib.hid ho1; have HB1 := Lib.hid hb1; clear hs1 ho1 hb1)
    | (go_at_call 14; with_reducible refine (H2.out _).mono ?_; rintro e w2 ⟨v2, n2, rfl, hs2, ho2, hb2⟩; have HS2 := Lib.hid hs2; have HO2 := Lib.hid ho2; have HS1b := Lib.hid (HS1.out.below hb2); have HO1b := Lib.hid (own_below HO1.out hb2); have HB2 := Lib.hid (bnext HB1.out hb2); have HW12 := Lib.hid hb2; clear hs2 ho2 hb2))
  have hn1 := own_len HO1b.out
  have hn2 := own_len HO2.out
  obtain ⟨a1, k1, hv1, hk1, hx1⟩ := HS1b.out
  subst hv1
  have HX := Lib.hid hx1
  clear hx1
  go_loopw [9, 10] (fun sv i wr => ∃ (k m : Nat) (v0 : Value), v0 = sv ∧ k ≤ xs.length ∧ i = .int .i64 k ∧ m ≤ 4194304 ∧ Hid (m = (spc xs k).length) ∧ Hid (wr.ownsRow w2.heap.size 5 1 v0 m (ints (spc xs k))) ∧ Hid (Below w2.heap.size w2 wr)) (fun _ i _ => xs.length - (intOf i).toNat)
  case atStart => exact ⟨0, 0, _, rfl, Nat.zero_le _, rfl, Nat.zero_le _, rfl, World.ownsRow_nil _ _ _ _, Below.refl _ _⟩
  case round =>
    obtain ⟨k, m, v0, rfl, hk, rfl, hm9, hm, hown, hb⟩ := hrel
    by_cases hlt : k < xs.length
    · obtain ⟨b1, o1, rfl, hb1, hc1⟩ := SA.get (c := k1) HX.out k hlt
      rw [← hb.out.cell (p := ⟨b1, o1 + k, none⟩) hb1] at hc1
      have hlen1 := HSL.out (k + 1)
      have hBs := hb.out.size
      have hp := spc_more xs k hlt
      have hy : (spc xs (k + 1)).length = m + xs[k].length + 1 := by rw [hp, List.length_append, List.length_append, ← hm.out]; rfl
      have hy2 : m + xs[k].length ≤ 1000000000000 := by omega
      have hy3 : m + xs[k].length + 1 ≤ 4194304 := by omega
      have HP := Lib.hid hp
      have HY := Lib.hid hy
      have HO : Hid (wr.ownsRow w2.heap.size 5 1 v0 m (ints (spc xs k))) := hown
      have HB := hb
      clear hp hy hlen1 hown hm hb
      generalize hY : xs[k] = y at *
      clear hY
      go_wp2_with (first
        | (at_builtin; refine app_str rfl _ _ rfl w2.heap.size v0 m _ y rfl HO.out rfl hBs hy2 ?_; intro v3 w3 hown3 hb3; have HO3 := Lib.hid hown3; have HB3 := Lib.hid (hb3 w2 HB.out); have hBs3 := HB3.out.size; clear hown3 hb3)
        | (at_builtin; refine app_lit 42 5 (.int .u8 0) 1 Tryd.underlying42 infoB rfl w3 rfl _ _ rfl w2.heap.size v3 _ _ _ _ rfl rfl HO3.out rfl rfl (by simp [Value.oneCell']) hBs3 (by unfold maxLen; omega) (by omega) ?_; intro v4 w4 hown4 hb4; have HO4 := Lib.hid (own_app (r := [32]) hown4 rfl); have HB4 := Lib.hid (hb4 w2 HB3.out); clear hown4 hb4))
      go_roundw
      case rel => exact ⟨k + 1, m + y.length + 1, _, rfl, by omega, by go_num, hy3, HY.out.symm, by show World.ownsRow _ _ _ _ _ _ _; rw [HP.out]; exact HO4.out, HB4.out⟩
      case measure => simp [intOf]; omega
    · have hke : k = xs.length := by omega
      have e1 : spc xs k = spc xs xs.length := by rw [hke]
      rw [e1] at hm hown
      have hcv := conv_own hown.out hm.out
      have HO1c := Lib.hid (own_below HO1b.out hb.out)
      have HO2c := Lib.hid (own_below HO2.out hb.out)
      have HBr := Lib.hid (bnext HB2.out hb.out)
      clear e1 hm hown hb
      go_wp2_with (first
        | (go_at_call 14; with_reducible refine (H3.out _).mono ?_; rintro e w5 ⟨v5, n5, rfl, hs5, ho5, hb5⟩; have HS5 := Lib.hid hs5; have HO1d := Lib.hid (own_below HO1c.out hb5); have HO2d := Lib.hid (own_below HO2c.out hb5); have HB5 := Lib.hid (bnext HBr.out hb5); clear hs5 ho5 hb5)
        | (go_at_call 13; with_reducible refine (H5.out _ _ _ HS5.out (sa_own HO1d.out)).mono ?_; rintro e w6 ⟨rfl, hb6⟩; have HO1e := Lib.hid (own_below HO1d.out hb6); have HO2e := Lib.hid (own_below HO2d.out hb6); have HB6 := Lib.hid (bnext HB5.out hb6); have hB6 := HB6.out.size; clear hb6)
        | (at_builtin; refine app_all rfl _ _ rfl w.heap.size w1.heap.size _ v2 _ n2 xs ys rfl rfl HO1e.out HO2e.out hB6 (by omega) ?_; intro v7 w7 hown7 hb7; have HS7 := Lib.hid (sa_own hown7); have HB7 := Lib.hid (hb7 w HB6.out); clear hown7 hb7)
        | (go_at_call 14; with_reducible refine (H4.out _).mono ?_; rintro e w8 ⟨v8, rfl, hs8, hb8⟩; have HS8 := Lib.hid hs8; have HS7b := Lib.hid (HS7.out.below hb8); have HB8 := Lib.hid (bnext HB7.out hb8); clear hs8 hb8)
        | (go_at_call 13; with_reducible refine (H6.out _ _ _ HS8.out HS7b.out).mono ?_; rintro e w9 ⟨rfl, hb9⟩; have HB9 := Lib.hid (bnext HB8.out hb9); clear hb9)
        | (go_at_call 16; refine (HA.out _).mono ?_; rintro e wa ⟨rfl, hba⟩; have HBa := Lib.hid (bnext HB9.out hba); clear hba))
      go_ret
      exact ⟨rfl, HBa.out⟩

set_option maxHeartbeats 4000000 in
theorem law_words2 (s t : ByteArray) (a : Int) (w : World) (hs : s.size + t.size ≤ 1048576) :
    Calls Tryd.prog 10 #[.string s, .string t, .int .i64 2] w fun e w' => e = .returned (.bool true) ∧ Below w.heap.size w w' := by
  have c1 := wds_count s.data.toList
  have c2 := wds_count t.data.toList
  have m1 := wds_sum s.data.toList
  rw [size_len] at c1 c2 m1
  have H1 : Hid (∀ w, Calls Tryd.prog 14 #[.string s] w fun e w' => ∃ v n, e = .returned v ∧ SA w' v (wds s.data.toList) ∧ w'.ownsRow w.heap.size 9 1 v n (strs3 (wds s.data.toList)) ∧ Below w.heap.size w w') := fun w => words_any s w (by omega)
  have H2 : Hid (∀ w, Calls Tryd.prog 14 #[.string t] w fun e w' => ∃ v n, e = .returned v ∧ SA w' v (wds t.data.toList) ∧ w'.ownsRow w.heap.size 9 1 v n (strs3 (wds t.data.toList)) ∧ Below w.heap.size w w') := fun w => words_any t w (by omega)
  have hsp := wds_spaced (wds s.data.toList) (wds_plain s.data.toList)
  have hsl : ∀ k, (spc (wds s.data.toList) k).length ≤ 4194304 := fun k => by have := spc_len (wds s.data.toList) k; omega
  have H3 : Hid (∀ w, Calls Tryd.prog 14 #[.string (mk (spc (wds s.data.toList) (wds s.data.toList).length))] w fun e w' => ∃ v n, e = .returned v ∧ SA w' v (wds s.data.toList) ∧ w'.ownsRow w.heap.size 9 1 v n (strs3 (wds s.data.toList)) ∧ Below w.heap.size w w') := fun w => by
    have h := words_any (mk (spc (wds s.data.toList) (wds s.data.toList).length)) w (by rw [mk_size]; have := hsl (wds s.data.toList).length; omega)
    have e : wds (mk (spc (wds s.data.toList) (wds s.data.toList).length)).data.toList = wds s.data.toList := by
      rw [mk_data]; unfold spc; rw [List.take_length]; exact hsp
    rw [e] at h
    exact h
  have hcs : (s ++ ⟨#[10]⟩ ++ t).size = s.size + 1 + t.size := by rw [← size_len, cat_data, List.length_append, List.length_cons, size_len, size_len]; omega
  have H4 : Hid (∀ w, Calls Tryd.prog 14 #[.string (s ++ ⟨#[10]⟩ ++ t)] w fun e w' => ∃ v, e = .returned v ∧ SA w' v (wds s.data.toList ++ wds t.data.toList) ∧ Below w.heap.size w w') := fun w => by
    have h := words_any (s ++ ⟨#[10]⟩ ++ t) w (by omega)
    rw [cat_data, wds_mid 10 _ _ (by decide)] at h
    exact h.mono fun e w' ⟨v, n, h1, h2, _, h3⟩ => ⟨v, h1, h2, h3⟩
  have H5 : Hid (∀ v1 v2 w, SA w v1 (wds s.data.toList) → SA w v2 (wds s.data.toList) → Calls Tryd.prog 13 #[v1, v2] w fun e w' => e = .returned (.bool true) ∧ Below w.heap.size w w') := fun v1 v2 w h1 h2 => by
    have := same_any v1 v2 _ _ w h1 h2 (by omega)
    rw [decide_eq_true rfl] at this
    exact this
  have H6 : Hid (∀ v1 v2 w, SA w v1 (wds s.data.toList ++ wds t.data.toList) → SA w v2 (wds s.data.toList ++ wds t.data.toList) → Calls Tryd.prog 13 #[v1, v2] w fun e w' => e = .returned (.bool true) ∧ Below w.heap.size w w') := fun v1 v2 w h1 h2 => by
    have := same_any v1 v2 _ _ w h1 h2 (by rw [List.length_append]; omega)
    rw [decide_eq_true rfl] at this
    exact this
  have HA := Lib.hid awake_any
  have hl1 : (wds s.data.toList).length ≤ 1048577 := by omega
  have hl2 : (wds t.data.toList).length ≤ 1048577 := by omega
  have HSL := Lib.hid hsl
  clear hsp hsl m1 c1 c2
  generalize hxs : wds s.data.toList = xs at *
  generalize hys : wds t.data.toList = ys at *
  have hz1 : s.size ≤ 1048576 := by omega
  have hz2 : t.size ≤ 1048576 := by omega
  clear hxs hys
  go_enter Tryd.func10, Tryd.ntmps10
  go_wp2_with (first
    | (go_at_call 14; with_reducible refine (H1.out _).mono ?_; rintro e w1 ⟨v1, n1, rfl, hs1, ho1, hb1⟩; have HS1 := Lib.hid hs1; have HO1 := Lib.hid ho1; have HB1 := Lib.hid hb1; clear hs1 ho1 hb1)
    | (go_at_call 14; with_reducible refine (H2.out _).mono ?_; rintro e w2 ⟨v2, n2, rfl, hs2, ho2, hb2⟩; have HS2 := Lib.hid hs2; have HO2 := Lib.hid ho2; have HS1b := Lib.hid (HS1.out.below hb2); have HO1b := Lib.hid (own_below HO1.out hb2); have HB2 := Lib.hid (bnext HB1.out hb2); have HW12 := Lib.hid hb2; clear hs2 ho2 hb2))
  have hn1 := own_len HO1b.out
  have hn2 := own_len HO2.out
  obtain ⟨a1, k1, hv1, hk1, hx1⟩ := HS1b.out
  subst hv1
  have HX := Lib.hid hx1
  clear hx1
  go_loopw [9, 10] (fun sv i wr => ∃ (k m : Nat) (v0 : Value), v0 = sv ∧ k ≤ xs.length ∧ i = .int .i64 k ∧ m ≤ 4194304 ∧ Hid (m = (spc xs k).length) ∧ Hid (wr.ownsRow w2.heap.size 5 1 v0 m (ints (spc xs k))) ∧ Hid (Below w2.heap.size w2 wr)) (fun _ i _ => xs.length - (intOf i).toNat)
  case atStart => exact ⟨0, 0, _, rfl, Nat.zero_le _, rfl, Nat.zero_le _, rfl, World.ownsRow_nil _ _ _ _, Below.refl _ _⟩
  case round =>
    obtain ⟨k, m, v0, rfl, hk, rfl, hm9, hm, hown, hb⟩ := hrel
    by_cases hlt : k < xs.length
    · obtain ⟨b1, o1, rfl, hb1, hc1⟩ := SA.get (c := k1) HX.out k hlt
      rw [← hb.out.cell (p := ⟨b1, o1 + k, none⟩) hb1] at hc1
      have hlen1 := HSL.out (k + 1)
      have hBs := hb.out.size
      have hp := spc_more xs k hlt
      have hy : (spc xs (k + 1)).length = m + xs[k].length + 1 := by rw [hp, List.length_append, List.length_append, ← hm.out]; rfl
      have hy2 : m + xs[k].length ≤ 1000000000000 := by omega
      have hy3 : m + xs[k].length + 1 ≤ 4194304 := by omega
      have HP := Lib.hid hp
      have HY := Lib.hid hy
      have HO : Hid (wr.ownsRow w2.heap.size 5 1 v0 m (ints (spc xs k))) := hown
      have HB := hb
      clear hp hy hlen1 hown hm hb
      generalize hY : xs[k] = y at *
      clear hY
      go_wp2_with (first
        | (at_builtin; refine app_str rfl _ _ rfl w2.heap.size v0 m _ y rfl HO.out rfl hBs hy2 ?_; intro v3 w3 hown3 hb3; have HO3 := Lib.hid hown3; have HB3 := Lib.hid (hb3 w2 HB.out); have hBs3 := HB3.out.size; clear hown3 hb3)
        | (at_builtin; refine app_lit 42 5 (.int .u8 0) 1 Tryd.underlying42 infoB rfl w3 rfl _ _ rfl w2.heap.size v3 _ _ _ _ rfl rfl HO3.out rfl rfl (by simp [Value.oneCell']) hBs3 (by unfold maxLen; omega) (by omega) ?_; intro v4 w4 hown4 hb4; have HO4 := Lib.hid (own_app (r := [32]) hown4 rfl); have HB4 := Lib.hid (hb4 w2 HB3.out); clear hown4 hb4))
      go_roundw
      case rel => exact ⟨k + 1, m + y.length + 1, _, rfl, by omega, by go_num, hy3, HY.out.symm, by show World.ownsRow _ _ _ _ _ _ _; rw [HP.out]; exact HO4.out, HB4.out⟩
      case measure => simp [intOf]; omega
    · have hke : k = xs.length := by omega
      have e1 : spc xs k = spc xs xs.length := by rw [hke]
      rw [e1] at hm hown
      have hcv := conv_own hown.out hm.out
      have HO1c := Lib.hid (own_below HO1b.out hb.out)
      have HO2c := Lib.hid (own_below HO2.out hb.out)
      have HBr := Lib.hid (bnext HB2.out hb.out)
      clear e1 hm hown hb
      go_wp2_with (first
        | (go_at_call 14; with_reducible refine (H3.out _).mono ?_; rintro e w5 ⟨v5, n5, rfl, hs5, ho5, hb5⟩; have HS5 := Lib.hid hs5; have HO1d := Lib.hid (own_below HO1c.out hb5); have HO2d := Lib.hid (own_below HO2c.out hb5); have HB5 := Lib.hid (bnext HBr.out hb5); clear hs5 ho5 hb5)
        | (go_at_call 13; with_reducible refine (H5.out _ _ _ HS5.out (sa_own HO1d.out)).mono ?_; rintro e w6 ⟨rfl, hb6⟩; have HO1e := Lib.hid (own_below HO1d.out hb6); have HO2e := Lib.hid (own_below HO2d.out hb6); have HB6 := Lib.hid (bnext HB5.out hb6); have hB6 := HB6.out.size; clear hb6)
        | (at_builtin; refine app_all rfl _ _ rfl w.heap.size w1.heap.size _ v2 _ n2 xs ys rfl rfl HO1e.out HO2e.out hB6 (by omega) ?_; intro v7 w7 hown7 hb7; have HS7 := Lib.hid (sa_own hown7); have HB7 := Lib.hid (hb7 w HB6.out); clear hown7 hb7)
        | (go_at_call 14; with_reducible refine (H4.out _).mono ?_; rintro e w8 ⟨v8, rfl, hs8, hb8⟩; have HS8 := Lib.hid hs8; have HS7b := Lib.hid (HS7.out.below hb8); have HB8 := Lib.hid (bnext HB7.out hb8); clear hs8 hb8)
        | (go_at_call 13; with_reducible refine (H6.out _ _ _ HS8.out HS7b.out).mono ?_; rintro e w9 ⟨rfl, hb9⟩; have HB9 := Lib.hid (bnext HB8.out hb9); clear hb9)
        | (go_at_call 16; refine (HA.out _).mono ?_; rintro e wa ⟨rfl, hba⟩; have HBa := Lib.hid (bnext HB9.out hba); clear hba))
      go_ret
      exact ⟨rfl, HBa.out⟩

set_option maxHeartbeats 4000000 in
theorem law_words0 (s t : ByteArray) (a : Int) (w : World) (hs : s.size + t.size ≤ 1048576) (h1 : a ≠ 1) (h2 : a ≠ 2) :
    Calls Tryd.prog 10 #[.string s, .string t, .int .i64 a] w fun e w' => e = .returned (.bool true) ∧ Below w.heap.size w w' := by
  have c1 := wds_count s.data.toList
  have c2 := wds_count t.data.toList
  have m1 := wds_sum s.data.toList
  rw [size_len] at c1 c2 m1
  have H1 : Hid (∀ w, Calls Tryd.prog 14 #[.string s] w fun e w' => ∃ v n, e = .returned v ∧ SA w' v (wds s.data.toList) ∧ w'.ownsRow w.heap.size 9 1 v n (strs3 (wds s.data.toList)) ∧ Below w.heap.size w w') := fun w => words_any s w (by omega)
  have H2 : Hid (∀ w, Calls Tryd.prog 14 #[.string t] w fun e w' => ∃ v n, e = .returned v ∧ SA w' v (wds t.data.toList) ∧ w'.ownsRow w.heap.size 9 1 v n (strs3 (wds t.data.toList)) ∧ Below w.heap.size w w') := fun w => words_any t w (by omega)
  have hsp := wds_spaced (wds s.data.toList) (wds_plain s.data.toList)
  have hsl : ∀ k, (spc (wds s.data.toList) k).length ≤ 4194304 := fun k => by have := spc_len (wds s.data.toList) k; omega
  have H3 : Hid (∀ w, Calls Tryd.prog 14 #[.string (mk (spc (wds s.data.toList) (wds s.data.toList).length))] w fun e w' => ∃ v n, e = .returned v ∧ SA w' v (wds s.data.toList) ∧ w'.ownsRow w.heap.size 9 1 v n (strs3 (wds s.data.toList)) ∧ Below w.heap.size w w') := fun w => by
    have h := words_any (mk (spc (wds s.data.toList) (wds s.data.toList).length)) w (by rw [mk_size]; have := hsl (wds s.data.toList).length; omega)
    have e : wds (mk (spc (wds s.data.toList) (wds s.data.toList).length)).data.toList = wds s.data.toList := by
      rw [mk_data]; unfold spc; rw [List.take_length]; exact hsp
    rw [e] at h
    exact h
  have hcs : (s ++ ⟨#[32]⟩ ++ t).size = s.size + 1 + t.size := by rw [← size_len, cat_data, List.length_append, List.length_cons, size_len, size_len]; omega
  have H4 : Hid (∀ w, Calls Tryd.prog 14 #[.string (s ++ ⟨#[32]⟩ ++ t)] w fun e w' => ∃ v, e = .returned v ∧ SA w' v (wds s.data.toList ++ wds t.data.toList) ∧ Below w.heap.size w w') := fun w => by
    have h := words_any (s ++ ⟨#[32]⟩ ++ t) w (by omega)
    rw [cat_data, wds_mid 32 _ _ (by decide)] at h
    exact h.mono fun e w' ⟨v, n, h1, h2, _, h3⟩ => ⟨v, h1, h2, h3⟩
  have H5 : Hid (∀ v1 v2 w, SA w v1 (wds s.data.toList) → SA w v2 (wds s.data.toList) → Calls Tryd.prog 13 #[v1, v2] w fun e w' => e = .returned (.bool true) ∧ Below w.heap.size w w') := fun v1 v2 w h1 h2 => by
    have := same_any v1 v2 _ _ w h1 h2 (by omega)
    rw [decide_eq_true rfl] at this
    exact this
  have H6 : Hid (∀ v1 v2 w, SA w v1 (wds s.data.toList ++ wds t.data.toList) → SA w v2 (wds s.data.toList ++ wds t.data.toList) → Calls Tryd.prog 13 #[v1, v2] w fun e w' => e = .returned (.bool true) ∧ Below w.heap.size w w') := fun v1 v2 w h1 h2 => by
    have := same_any v1 v2 _ _ w h1 h2 (by rw [List.length_append]; omega)
    rw [decide_eq_true rfl] at this
    exact this
  have HA := Lib.hid awake_any
  have hl1 : (wds s.data.toList).length ≤ 1048577 := by omega
  have hl2 : (wds t.data.toList).length ≤ 1048577 := by omega
  have HSL := Lib.hid hsl
  clear hsp hsl m1 c1 c2
  generalize hxs : wds s.data.toList = xs at *
  generalize hys : wds t.data.toList = ys at *
  have hz1 : s.size ≤ 1048576 := by omega
  have hz2 : t.size ≤ 1048576 := by omega
  clear hxs hys
  have q1 : (a == 1) = false := beq_eq_false_iff_ne.2 h1
  have q2 : (a == 2) = false := beq_eq_false_iff_ne.2 h2
  clear h1 h2
  go_enter Tryd.func10, Tryd.ntmps10
  go_wp2_with (first
    | (go_at_call 14; with_reducible refine (H1.out _).mono ?_; rintro e w1 ⟨v1, n1, rfl, hs1, ho1, hb1⟩; have HS1 := Lib.hid hs1; have HO1 := Lib.hid ho1; have HB1 := Lib.hid hb1; clear hs1 ho1 hb1)
    | (go_at_call 14; with_reducible refine (H2.out _).mono ?_; rintro e w2 ⟨v2, n2, rfl, hs2, ho2, hb2⟩; have HS2 := Lib.hid hs2; have HO2 := Lib.hid ho2; have HS1b := Lib.hid (HS1.out.below hb2); have HO1b := Lib.hid (own_below HO1.out hb2); have HB2 := Lib.hid (bnext HB1.out hb2); have HW12 := Lib.hid hb2; clear hs2 ho2 hb2))
  have hn1 := own_len HO1b.out
  have hn2 := own_len HO2.out
  obtain ⟨a1, k1, hv1, hk1, hx1⟩ := HS1b.out
  subst hv1
  have HX := Lib.hid hx1
  clear hx1
  go_loopw [9, 10] (fun sv i wr => ∃ (k m : Nat) (v0 : Value), v0 = sv ∧ k ≤ xs.length ∧ i = .int .i64 k ∧ m ≤ 4194304 ∧ Hid (m = (spc xs k).length) ∧ Hid (wr.ownsRow w2.heap.size 5 1 v0 m (ints (spc xs k))) ∧ Hid (Below w2.heap.size w2 wr)) (fun _ i _ => xs.length - (intOf i).toNat)
  case atStart => exact ⟨0, 0, _, rfl, Nat.zero_le _, rfl, Nat.zero_le _, rfl, World.ownsRow_nil _ _ _ _, Below.refl _ _⟩
  case round =>
    obtain ⟨k, m, v0, rfl, hk, rfl, hm9, hm, hown, hb⟩ := hrel
    by_cases hlt : k < xs.length
    · obtain ⟨b1, o1, rfl, hb1, hc1⟩ := SA.get (c := k1) HX.out k hlt
      rw [← hb.out.cell (p := ⟨b1, o1 + k, none⟩) hb1] at hc1
      have hlen1 := HSL.out (k + 1)
      have hBs := hb.out.size
      have hp := spc_more xs k hlt
      have hy : (spc xs (k + 1)).length = m + xs[k].length + 1 := by rw [hp, List.length_append, List.length_append, ← hm.out]; rfl
      have hy2 : m + xs[k].length ≤ 1000000000000 := by omega
      have hy3 : m + xs[k].length + 1 ≤ 4194304 := by omega
      have HP := Lib.hid hp
      have HY := Lib.hid hy
      have HO : Hid (wr.ownsRow w2.heap.size 5 1 v0 m (ints (spc xs k))) := hown
      have HB := hb
      clear hp hy hlen1 hown hm hb
      generalize hY : xs[k] = y at *
      clear hY
      go_wp2_with (first
        | (at_builtin; refine app_str rfl _ _ rfl w2.heap.size v0 m _ y rfl HO.out rfl hBs hy2 ?_; intro v3 w3 hown3 hb3; have HO3 := Lib.hid hown3; have HB3 := Lib.hid (hb3 w2 HB.out); have hBs3 := HB3.out.size; clear hown3 hb3)
        | (at_builtin; refine app_lit 42 5 (.int .u8 0) 1 Tryd.underlying42 infoB rfl w3 rfl _ _ rfl w2.heap.size v3 _ _ _ _ rfl rfl HO3.out rfl rfl (by simp [Value.oneCell']) hBs3 (by unfold maxLen; omega) (by omega) ?_; intro v4 w4 hown4 hb4; have HO4 := Lib.hid (own_app (r := [32]) hown4 rfl); have HB4 := Lib.hid (hb4 w2 HB3.out); clear hown4 hb4))
      go_roundw
      case rel => exact ⟨k + 1, m + y.length + 1, _, rfl, by omega, by go_num, hy3, HY.out.symm, by show World.ownsRow _ _ _ _ _ _ _; rw [HP.out]; exact HO4.out, HB4.out⟩
      case measure => simp [intOf]; omega
    · have hke : k = xs.length := by omega
      have e1 : spc xs k = spc xs xs.length := by rw [hke]
      rw [e1] at hm hown
      have hcv := conv_own hown.out hm.out
      have HO1c := Lib.hid (own_below HO1b.out hb.out)
      have HO2c := Lib.hid (own_below HO2.out hb.out)
      have HBr := Lib.hid (bnext HB2.out hb.out)
      clear e1 hm hown hb
      go_wp2_with (first
        | (go_at_call 14; with_reducible refine (H3.out _).mono ?_; rintro e w5 ⟨v5, n5, rfl, hs5, ho5, hb5⟩; have HS5 := Lib.hid hs5; have HO1d := Lib.hid (own_below HO1c.out hb5); have HO2d := Lib.hid (own_below HO2c.out hb5); have HB5 := Lib.hid (bnext HBr.out hb5); clear hs5 ho5 hb5)
        | (go_at_call 13; with_reducible refine (H5.out _ _ _ HS5.out (sa_own HO1d.out)).mono ?_; rintro e w6 ⟨rfl, hb6⟩; have HO1e := Lib.hid (own_below HO1d.out hb6); have HO2e := Lib.hid (own_below HO2d.out hb6); have HB6 := Lib.hid (bnext HB5.out hb6); have hB6 := HB6.out.size; clear hb6)
        | (at_builtin; refine app_all rfl _ _ rfl w.heap.size w1.heap.size _ v2 _ n2 xs ys rfl rfl HO1e.out HO2e.out hB6 (by omega) ?_; intro v7 w7 hown7 hb7; have HS7 := Lib.hid (sa_own hown7); have HB7 := Lib.hid (hb7 w HB6.out); clear hown7 hb7)
        | (go_at_call 14; with_reducible refine (H4.out _).mono ?_; rintro e w8 ⟨v8, rfl, hs8, hb8⟩; have HS8 := Lib.hid hs8; have HS7b := Lib.hid (HS7.out.below hb8); have HB8 := Lib.hid (bnext HB7.out hb8); clear hs8 hb8)
        | (go_at_call 13; with_reducible refine (H6.out _ _ _ HS8.out HS7b.out).mono ?_; rintro e w9 ⟨rfl, hb9⟩; have HB9 := Lib.hid (bnext HB8.out hb9); clear hb9)
        | (go_at_call 16; refine (HA.out _).mono ?_; rintro e wa ⟨rfl, hba⟩; have HBa := Lib.hid (bnext HB9.out hba); clear hba))
      go_ret
      exact ⟨rfl, HBa.out⟩

theorem law_words (s t : ByteArray) (a : Int) (w : World) (hs : s.size + t.size ≤ 1048576) :
    Calls Tryd.prog 10 #[.string s, .string t, .int .i64 a] w fun e w' => e = .returned (.bool true) ∧ Below w.heap.size w w' := by
  by_cases h1 : a = 1
  · subst h1; exact law_words1 s t 1 w hs
  · by_cases h2 : a = 2
    · subst h2; exact law_words2 s t 2 w hs
    · exact law_words0 s t a w hs h1 h2
end Go.Proofs.YtgcpagnnkmpeoaaDoor
