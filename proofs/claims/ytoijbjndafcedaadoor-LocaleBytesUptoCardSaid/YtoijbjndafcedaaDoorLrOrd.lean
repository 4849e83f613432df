/- The reference's order, and the order of bytes. -/
import Derived.Test.YtoijbjndafcedaaDoorRows
import Derived.Test.YtoijbjndafcedaaDoorLpSplit
set_option linter.unusedVariables false
namespace Go.Proofs.YtoijbjndafcedaaDoor
open Go.RowKit

/-- A list of numbers in memory. -/
def NL (w : World) (v : Value) (X : List Int) : Prop := SL 1 X.length (fun j _ => .int .i64 (X.getD j 0)) w v
theorem NL.below {w w' : World} {v : Value} {X : List Int} (h : NL w v X) (hb : Below w.heap.size w w') : NL w' v X := SL.below h hb
theorem own_NL {w : World} {B n : Nat} {v : Value} {X : List Int} (h : w.ownsRow B 3 1 v n (nums X)) (hn : n = X.length) : NL w v X := by
  subst hn
  rcases Joins.ownsRow_forms h with ⟨rfl, h0⟩ | ⟨g, cap, rfl⟩
  · have hX : X = [] := List.eq_nil_of_length_eq_zero h0
    subst hX
    exact SL_nil _ _ _
  · refine own_SL h _ fun j hj => ?_
    unfold nums
    rw [List.getElem?_map, List.getElem?_eq_getElem hj]
    simp [List.getD, List.getElem?_eq_getElem hj]
theorem ord_step (X Y : List Int) (k : Nat) (hx : k < X.length) (hy : k < Y.length) : ord (X.drop k) (Y.drop k) = if X.getD k 0 < Y.getD k 0 then -1 else if Y.getD k 0 < X.getD k 0 then 1 else ord (X.drop (k + 1)) (Y.drop (k + 1)) := by
  rw [List.drop_eq_getElem_cons hx, List.drop_eq_getElem_cons hy]
  simp only [ord, List.getD, List.getElem?_eq_getElem hx, List.getElem?_eq_getElem hy, Option.getD_some]
theorem ord_left (Y : List Int) (k : Nat) (X : List Int) (hx : X.length ≤ k) : ord (X.drop k) (Y.drop k) = if k < Y.length then -1 else 0 := by
  rw [List.drop_eq_nil_of_le hx]
  by_cases h : k < Y.length
  · rw [if_pos h, List.drop_eq_getElem_cons h]
    rfl
  · rw [if_neg h, List.drop_eq_nil_of_le (by omega)]
    rfl
theorem ord_right (X Y : List Int) (k : Nat) (hx : k < X.length) (hy : Y.length ≤ k) : ord (X.drop k) (Y.drop k) = 1 := by
  rw [List.drop_eq_nil_of_le hy, List.drop_eq_getElem_cons hx]
  rfl

set_option maxRecDepth 100000 in
set_option maxHeartbeats 8000000 in
theorem order_any (X Y : List Int) (hX : X.length ≤ 4294967280) (hY : Y.length ≤ 4294967280) (u v : Value) (w : World) (hu : NL w u X) (hv : NL w v Y) :
    Calls Tryd.prog 54 #[u, v] w fun e w' => e = .returned (.int .i64 (ord X Y)) ∧ Below w.heap.size w w' := by
  obtain ⟨R, hR⟩ : ∃ R, ord X Y = R := ⟨_, rfl⟩
  rw [hR]
  have HR : Hid (R = ord (X.drop 0) (Y.drop 0)) := hR.symm
  clear hR
  obtain ⟨au, capu, rfl, hcu, hu⟩ := hu
  obtain ⟨av, capv, rfl, hcv, hv⟩ := hv
  have HUc := Lib.hid hu
  have HVc := Lib.hid hv
  have HS := Lib.hid (ord_step X Y)
  have HLf := Lib.hid (fun k => ord_left Y k X)
  have HRt := Lib.hid (ord_right X Y)
  obtain ⟨n, hn⟩ : ∃ n, X.length = n := ⟨_, rfl⟩
  obtain ⟨m, hm⟩ : ∃ m, Y.length = m := ⟨_, rfl⟩
  rw [hn] at HUc HS HRt hX ⊢
  simp only [hn] at HLf
  rw [hm] at HVc HS HRt hY ⊢
  simp only [hm] at HLf
  clear hu hv hcu hcv hn hm
  have hni : (n : Int) ≤ 4294967280 := by omega
  have hmi : (m : Int) ≤ 4294967280 := by omega
  go_enter Tryd.func54, Tryd.ntmps54
  go_wp2
  go_loopw [5] (fun i wr => ∃ k : Nat, k ≤ n ∧ k ≤ m ∧ i = .int .i64 k ∧ Hid (R = ord (X.drop k) (Y.drop k)) ∧ Hid (Below w.heap.size w wr)) (fun i _ => n - (intOf i).toNat)
  case atStart => exact ⟨0, Nat.zero_le _, Nat.zero_le _, rfl, HR.out, Below.refl _ _⟩
  case round =>
    obtain ⟨k, hk, hk2, rfl, HK, HB⟩ := hrel
    by_cases hkn : k < n
    · have ki : (k : Int) < n := by omega
      have ki0 : (0 : Int) ≤ k := by omega
      by_cases hkm : k < m
      · have kj : (k : Int) < m := by omega
        rcases HUc.out with h0 | ⟨b, off, rfl, hlt, hc⟩
        · omega
        rcases HVc.out with h0 | ⟨b2, off2, rfl, hlt2, hc2⟩
        · omega
        have c1 : wr.cell? ⟨b, off + k, none⟩ = some (.int .i64 (X.getD k 0)) := by
          rw [HB.out.cell (by exact hlt)]
          have := hc k 0 hkn (by decide)
          simpa using this
        have c2 : wr.cell? ⟨b2, off2 + k, none⟩ = some (.int .i64 (Y.getD k 0)) := by
          rw [HB.out.cell (by exact hlt2)]
          have := hc2 k 0 hkm (by decide)
          simpa using this
        have HSk := Lib.hid (HK.out.trans (HS.out k hkn hkm))
        clear hc hc2 hlt hlt2
        generalize X.getD k 0 = x at c1 HSk
        generalize Y.getD k 0 = y at c2 HSk
        by_cases h1 : x < y
        · have HN : Hid (R = -1) := by
            have := HSk.out
            rw [if_pos h1] at this
            exact this
          go_wp2
          go_quiet (fail)
          go_wp2
          go_ret
          exact ⟨by rw [HN.out] <;> rfl, below_drewN HB.out _⟩
        · by_cases h2 : y < x
          · have HN : Hid (R = 1) := by
              have := HSk.out
              rw [if_neg h1, if_pos h2] at this
              exact this
            go_wp2
            go_quiet (fail)
            go_wp2
            go_quiet (fail)
            go_wp2
            go_ret
            exact ⟨by rw [HN.out] <;> rfl, below_drewN (below_drewN HB.out _) _⟩
          · have HN : Hid (R = ord (X.drop (k + 1)) (Y.drop (k + 1))) := by
              have := HSk.out
              rw [if_neg h1, if_neg h2] at this
              exact this
            go_wp2
            go_quiet (fail)
            go_wp2
            go_quiet (fail)
            go_wp2
            go_roundw
            case rel => exact ⟨k + 1, by omega, by omega, by go_num, HN.out, below_drewN HB.out _⟩
            case measure => simp [intOf]; omega
      · have kj : ¬ (k : Int) < m := by omega
        have n1 : ¬ (n : Int) < m := by omega
        have n2 : (m : Int) < n := by omega
        have HN : Hid (R = 1) := HK.out.trans (HRt.out k hkn (by omega))
        go_wp2
        go_ret
        exact ⟨by rw [HN.out] <;> rfl, HB.out⟩
    · obtain rfl : k = n := by omega
      by_cases hkm : k < m
      · have n1 : (k : Int) < m := by omega
        have HN : Hid (R = -1) := by
          have := HK.out.trans (HLf.out k (Nat.le_refl _))
          rw [if_pos hkm] at this
          exact this
        go_wp2
        go_ret
        exact ⟨by rw [HN.out] <;> rfl, HB.out⟩
      · have n1 : ¬ (k : Int) < m := by omega
        have n2 : ¬ (m : Int) < k := by omega
        have HN : Hid (R = 0) := by
          have := HK.out.trans (HLf.out k (Nat.le_refl _))
          rw [if_neg hkm] at this
          exact this
        go_wp2
        go_ret
        exact ⟨by rw [HN.out] <;> rfl, HB.out⟩

theorem nums_bI (l : List UInt8) (k : Nat) (h : k < l.length) : nums (bI (l.take (k + 1))) = nums (bI (l.take k)) ++ [.int .i64 ((l[k]).toNat : Int)] := by
  unfold bI nums
  rw [List.take_add_one, List.getElem?_eq_getElem h, List.map_append, List.map_append]
  rfl
theorem bI_len (l : List UInt8) : (bI l).length = l.length := by unfold bI; simp

set_option maxRecDepth 100000 in
set_option maxHeartbeats 8000000 in
theorem rBytes_any (a b : ByteArray) (ha : a.size ≤ 4294967280) (hb : b.size ≤ 4294967280) (w : World) :
    Calls Tryd.prog 35 #[.string a, .string b] w fun e w' => e = .returned (.int .i64 (ord (bI a.data.toList) (bI b.data.toList))) ∧ Below w.heap.size w w' := by
  have HO := Lib.hid (order_any (bI a.data.toList) (bI b.data.toList) (by rw [bI_len, size_data]; exact ha) (by rw [bI_len, size_data]; exact hb))
  obtain ⟨R, hR⟩ : ∃ R, ord (bI a.data.toList) (bI b.data.toList) = R := ⟨_, rfl⟩
  rw [hR] at HO ⊢
  clear hR
  have hai : (a.size : Int) ≤ 4294967280 := by omega
  have hbi : (b.size : Int) ≤ 4294967280 := by omega
  go_enter Tryd.func35, Tryd.ntmps35
  go_wp2
  go_loopw [5, 7] (fun o i wr => ∃ (k : Nat) (v : Value), v = o ∧ k ≤ a.size ∧ i = .int .i64 k ∧ Hid (wr.ownsRow w.heap.size 3 1 v k (nums (bI (a.data.toList.take k)))) ∧ Hid (Below w.heap.size w wr)) (fun _ i _ => a.size - (intOf i).toNat)
  case atStart => exact ⟨0, _, rfl, Nat.zero_le _, rfl, World.ownsRow_nil _ _ _ _, Below.refl _ _⟩
  case round =>
    obtain ⟨k, v, rfl, hk, rfl, HW, HB⟩ := hrel
    by_cases hlt : k < a.size
    · have hi : (k : Int) < a.size := by omega
      have hi0 : (0 : Int) ≤ k := by omega
      have HM := nums_bI a.data.toList k (by rw [size_data]; exact hlt)
      have e : (a.data.toList[k]'(by rw [size_data]; exact hlt)) = a[k] := rfl
      rw [e] at HM
      obtain ⟨c, hc⟩ : ∃ c, a[k].toNat = c := ⟨_, rfl⟩
      have c256 : (c : Int) < 256 := by have := a[k].toNat_lt; omega
      have c0 : (0 : Int) ≤ c := by omega
      simp only [hc] at HM
      have HM := Lib.hid HM
      clear e
      go_wp2_with (first
        | (at_builtin; refine app_row 22 3 (.int .i64 0) 8 Tryd.underlying22 infoI rfl wr rfl _ _ rfl w.heap.size v _ _ _ _ rfl rfl HW.out rfl rfl ?c1 ?c0 ?c2 ?c3 ?_))
      case c1 => simp [Value.oneCell']
      case c0 => exact HB.out.size
      case c2 => unfold maxLen; omega
      case c3 => omega
      intro v' w' hown' hb'
      have HB1 := Lib.hid (hb' w HB.out)
      have HO1 : Hid (w'.ownsRow w.heap.size 3 1 v' (k + 1) (nums (bI (a.data.toList.take (k + 1))))) := by
        show World.ownsRow _ _ _ _ _ _ _
        rw [HM.out]
        exact hown'
      clear hown' hb'
      go_wp2
      go_roundw
      case rel => exact ⟨k + 1, _, rfl, by omega, by go_num, HO1.out, HB1.out⟩
      case measure => simp [intOf]; omega
    · obtain rfl : k = a.size := by omega
      have h1 := HW.out
      rw [List.take_of_length_le (by rw [size_data]; exact Nat.le_refl _)] at h1
      have HN1 := Lib.hid (own_NL h1 (by rw [bI_len, size_data]))
      have HBa := Lib.hid HB.out
      clear h1 HW HB hlt hk
      rename World => wA
      go_wp2
      go_loopw [6, 8] (fun o i wx => ∃ (k : Nat) (v : Value), v = o ∧ k ≤ b.size ∧ i = .int .i64 k ∧ Hid (wx.ownsRow wA.heap.size 3 1 v k (nums (bI (b.data.toList.take k)))) ∧ Hid (Below wA.heap.size wA wx)) (fun _ i _ => b.size - (intOf i).toNat)
      case atStart => exact ⟨0, _, rfl, Nat.zero_le _, rfl, World.ownsRow_nil _ _ _ _, Below.refl _ _⟩
      case round =>
        obtain ⟨k, v2, rfl, hk, rfl, HW, HB⟩ := hrel
        by_cases hlt : k < b.size
        · have hi : (k : Int) < b.size := by omega
          have hi0 : (0 : Int) ≤ k := by omega
          have HM := nums_bI b.data.toList k (by rw [size_data]; exact hlt)
          have e : (b.data.toList[k]'(by rw [size_data]; exact hlt)) = b[k] := rfl
          rw [e] at HM
          obtain ⟨c, hc⟩ : ∃ c, b[k].toNat = c := ⟨_, rfl⟩
          have c256 : (c : Int) < 256 := by have := b[k].toNat_lt; omega
          have c0 : (0 : Int) ≤ c := by omega
          simp only [hc] at HM
          have HM := Lib.hid HM
          clear e
          go_wp2_with (first
            | (at_builtin; refine app_row 22 3 (.int .i64 0) 8 Tryd.underlying22 infoI rfl wr rfl _ _ rfl wA.heap.size v2 _ _ _ _ rfl rfl HW.out rfl rfl ?c1 ?c0 ?c2 ?c3 ?_))
          case c1 => simp [Value.oneCell']
          case c0 => exact HB.out.size
          case c2 => unfold maxLen; omega
          case c3 => omega
          intro v' w' hown' hb'
          have HB1 := Lib.hid (hb' wA HB.out)
          have HO1 : Hid (w'.ownsRow wA.heap.size 3 1 v' (k + 1) (nums (bI (b.data.toList.take (k + 1))))) := by
            show World.ownsRow _ _ _ _ _ _ _
            rw [HM.out]
            exact hown'
          clear hown' hb'
          go_wp2
          go_roundw
          case rel => exact ⟨k + 1, _, rfl, by omega, by go_num, HO1.out, HB1.out⟩
          case measure => simp [intOf]; omega
        · obtain rfl : k = b.size := by omega
          have h1 := HW.out
          rw [List.take_of_length_le (by rw [size_data]; exact Nat.le_refl _)] at h1
          have HN2 := Lib.hid (own_NL h1 (by rw [bI_len, size_data]))
          have HBb := Lib.hid HB.out
          clear h1 HW HB hlt hk
          go_wp2_with (go_at_call 54; refine (HO.out _ _ _ (HN1.out.below HBb.out) HN2.out).mono ?_; rintro e w5 ⟨rfl, hb⟩; have HB5 := Lib.hid ((HBa.out.trans (HBb.out.mono HBa.out.size)).trans (hb.mono (by have h1 := HBa.out.size; have h2 := HBb.out.size; omega))); clear hb)
          go_ret
          exact ⟨rfl, HB5.out⟩
end Go.Proofs.YtoijbjndafcedaaDoor
