/- The reference's Join, and the law's test of lines. -/
import Derived.Test.YtblaldcioneooaaDoorTxSame
import Derived.Test.YtblaldcioneooaaDoorTxEscW
set_option linter.unusedVariables false
namespace Go.Proofs.YtblaldcioneooaaDoor
open Go.RowKit

theorem bnext {w w1 w2 : World} (h : Below w.heap.size w w1) (k : Below w1.heap.size w1 w2) : Below w.heap.size w w2 := h.trans (k.mono h.size)

/-- 'append(b, s...)' where b is the call's own. -/
theorem app_str {w : World} {ops : Array Oper} {rest : List Oper} {o : Oper} {a : Act} {Q : Exit → Act → World → Prop} (hgd : o.guard = none) (s x : Operand)
    (ho : o.op = .call { callee := .builtin .append, args := #[s, x], argTypes := #[62, 9] })
    (B : Nat) (v : Value) (n : Nat) (l y : List UInt8) (hs : a.eval s = v) (hown : w.ownsRow B 5 1 v n (ints l)) (hx : a.eval x = .string (mk y))
    (hB : B ≤ w.heap.size) (hn : n + y.length ≤ 1000000000000)
    (h : ∀ v' w', w'.ownsRow B 5 1 v' (n + y.length) (ints (l ++ y)) → (∀ A0, Below B A0 w → Below B A0 w') → wpList Tryd.prog ops Q rest (a.put o.dst v') w') :
    wpList Tryd.prog ops Q (o :: rest) a w := by
  obtain ⟨i0, hi, hz0, hz1, hz2⟩ := info_parts infoB
  have e : (mk y).size = y.length := mk_size y
  refine Lib.wpList_append_own_string w hgd s x 62 9 ho B 5 i0 Tryd.underlying62 Tryd.underlying9 hi hz0 hz1 hz2 v n (ints l) hs hown (mk y) hx (by unfold maxLen; omega) (by omega) hB ?_
  intro v' w' hown' hgrow _
  have e2 : ints l ++ Lib.strCells (mk y) = ints (l ++ y) := by rw [ints_app]; rfl
  rw [e, e2] at hown'
  exact h v' w' hown' fun A0 hb => hb.grown hgrow hB (fun j e => (hown.lt j e).1)

set_option maxHeartbeats 1000000 in
theorem rjoin_any (v : Value) (xs : List (List UInt8)) (b : Bool) (w : World) (hv : SA w v xs) (hN : (xs.map (·.length)).sum + xs.length ≤ 4294967281) :
    Calls Tryd.prog 25 #[v, .bool b] w fun e w' => e = .returned (.string (mk (jn xs b))) ∧ Below w.heap.size w w' := by
  obtain ⟨a, c, rfl, hc, hx⟩ := hv
  have HX := Lib.hid hx
  have HL : Hid (∀ k, (pj xs b k).length ≤ 4294967281) := fun k => Nat.le_trans (pj_len xs b k) hN
  have HE : Hid (mk (jn xs b) = mk (pj xs b xs.length)) := by show _ = _; rw [pj_end]
  rw [HE.out]
  have hn : xs.length ≤ 4294967281 := by omega
  generalize hm : xs.length = n at *
  have HM := Lib.hid hm
  clear hx hm hN HE hc
  generalize hR : mk (pj xs b n) = R
  have HR := Lib.hid hR
  clear hR
  go_enter Tryd.func25, Tryd.ntmps25
  go_wp2
  go_loopw [5, 6] (fun sv i wr => ∃ (k m : Nat) (v0 : Value), v0 = sv ∧ k ≤ n ∧ i = .int .i64 k ∧ m ≤ 4294967281 ∧ Hid (m = (pj xs b k).length) ∧ Hid (wr.ownsRow w.heap.size 5 1 v0 m (ints (pj xs b k))) ∧ Hid (Below w.heap.size w wr)) (fun _ i _ => n - (intOf i).toNat)
  case atStart => exact ⟨0, 0, _, rfl, Nat.zero_le _, rfl, Nat.zero_le _, by show _ = _; rw [pj_zero]; rfl, by show World.ownsRow _ _ _ _ _ _ _; rw [pj_zero]; exact World.ownsRow_nil _ _ _ _, Below.refl _ _⟩
  case round =>
    obtain ⟨k, m, v0, rfl, hk, rfl, hm9, hm, hown, hb⟩ := hrel
    by_cases hlt : k < n
    · have k1 : k < xs.length := by rw [HM.out]; exact hlt
      obtain ⟨b1, o1, rfl, hb1, hc1⟩ := SA.get (c := c) HX.out k k1
      rw [← hb.out.cell (p := ⟨b1, o1 + k, none⟩) hb1] at hc1
      have hlen1 := HL.out (k + 1)
      have hBs := hb.out.size
      have hcase : (b = true ∨ k + 1 < n) ∨ (b = false ∧ ¬ k + 1 < n) := by
        cases b with
        | true => exact .inl (.inl rfl)
        | false =>
          by_cases h : k + 1 < n
          · exact .inl (.inr h)
          · exact .inr ⟨rfl, h⟩
      rcases hcase with hmore | ⟨rfl, hlast⟩
      · have hp := pj_more xs b k k1 (by rw [HM.out]; exact hmore)
        have hy : (pj xs b (k + 1)).length = m + xs[k].length + 1 := by rw [hp, List.length_append, List.length_append, ← hm.out]; rfl
        have hy2 : m + xs[k].length ≤ 1000000000000 := by omega
        have hy3 : m + xs[k].length + 1 ≤ 4294967281 := by omega
        have HP := Lib.hid hp
        have HY := Lib.hid hy
        have HO : Hid (wr.ownsRow w.heap.size 5 1 v0 m (ints (pj xs b k))) := hown
        have HB := hb
        have i1 : b = false → (k : Int) + 1 < (n : Int) := fun e => by rcases hmore with h | h; rw [h] at e; cases e; omega
        clear hp hy hlen1 hown hm hmore hb
        generalize hY : xs[k] = y at *
        clear hY
        cases b
        · have i2 := i1 rfl
          clear i1
          go_wp2_with (first
            | (at_builtin; refine app_str rfl _ _ rfl w.heap.size v0 m _ y rfl HO.out rfl hBs hy2 ?_; intro v1 w1 hown1 hb1'; have HO1 := Lib.hid hown1; have HB1 := Lib.hid (hb1' w HB.out); have hBs1 := HB1.out.size; clear hown1 hb1')
            | (at_builtin; refine app_lit 62 5 (.int .u8 0) 1 Tryd.underlying62 infoB rfl w1 rfl _ _ rfl w.heap.size v1 _ _ _ _ rfl rfl HO1.out rfl rfl (by simp [Value.oneCell']) hBs1 (by unfold maxLen; omega) (by omega) ?_; intro v2 w2 hown2 hb2'; have HO2 := Lib.hid (own_app (r := [10]) hown2 rfl); have HB2 := Lib.hid (hb2' w HB1.out); clear hown2 hb2'))
          go_roundw
          case rel => exact ⟨k + 1, m + y.length + 1, _, rfl, by omega, by go_num, hy3, HY.out.symm, by show World.ownsRow _ _ _ _ _ _ _; rw [HP.out]; exact HO2.out, HB2.out⟩
          case measure => simp [intOf]; omega
        · clear i1
          go_wp2_with (first
            | (at_builtin; refine app_str rfl _ _ rfl w.heap.size v0 m _ y rfl HO.out rfl hBs hy2 ?_; intro v1 w1 hown1 hb1'; have HO1 := Lib.hid hown1; have HB1 := Lib.hid (hb1' w HB.out); have hBs1 := HB1.out.size; clear hown1 hb1')
            | (at_builtin; refine app_lit 62 5 (.int .u8 0) 1 Tryd.underlying62 infoB rfl w1 rfl _ _ rfl w.heap.size v1 _ _ _ _ rfl rfl HO1.out rfl rfl (by simp [Value.oneCell']) hBs1 (by unfold maxLen; omega) (by omega) ?_; intro v2 w2 hown2 hb2'; have HO2 := Lib.hid (own_app (r := [10]) hown2 rfl); have HB2 := Lib.hid (hb2' w HB1.out); clear hown2 hb2'))
          go_roundw
          case rel => exact ⟨k + 1, m + y.length + 1, _, rfl, by omega, by go_num, hy3, HY.out.symm, by show World.ownsRow _ _ _ _ _ _ _; rw [HP.out]; exact HO2.out, HB2.out⟩
          case measure => simp [intOf]; omega
      · have hp := pj_last xs k k1 (by rw [HM.out]; exact hlast)
        have hy : (pj xs false (k + 1)).length = m + xs[k].length := by rw [hp, List.length_append, ← hm.out]
        have hy2 : m + xs[k].length ≤ 1000000000000 := by omega
        have hy3 : m + xs[k].length ≤ 4294967281 := by omega
        have HP := Lib.hid hp
        have HY := Lib.hid hy
        have HO : Hid (wr.ownsRow w.heap.size 5 1 v0 m (ints (pj xs false k))) := hown
        have HB := hb
        have i2 : ¬ (k : Int) + 1 < (n : Int) := by omega
        clear hp hy hlen1 hown hm hb
        generalize hY : xs[k] = y at *
        clear hY
        go_wp2_with (first
          | (at_builtin; refine app_str rfl _ _ rfl w.heap.size v0 m _ y rfl HO.out rfl hBs hy2 ?_; intro v1 w1 hown1 hb1'; have HO1 := Lib.hid hown1; have HB1 := Lib.hid (hb1' w HB.out); have hBs1 := HB1.out.size; clear hown1 hb1'))
        go_roundw
        case rel => exact ⟨k + 1, m + y.length, _, rfl, by omega, by go_num, hy3, HY.out.symm, by show World.ownsRow _ _ _ _ _ _ _; rw [HP.out]; exact HO1.out, HB1.out⟩
        case measure => simp [intOf]; omega
    · obtain rfl : k = n := by omega
      have hcv := conv_own hown.out hm.out
      rw [HR.out] at hcv
      go_wp2
      go_ret
      exact ⟨rfl, hb.out⟩

theorem sum_mem : ∀ (xs : List (List UInt8)) (x : List UInt8), x ∈ xs → x.length ≤ (xs.map (·.length)).sum
  | [], x, h => by cases h
  | y :: r, x, h => by
    rw [List.map_cons, List.sum_cons]
    rcases List.mem_cons.1 h with rfl | h
    · omega
    · have := sum_mem r x h; omega
theorem plainL_true (xs : List (List UInt8)) (h : (xs.all fun x => no isL x) = true) : plainL xs true = true := by unfold plainL; rw [h]; rfl
theorem plainL_last (q : List (List UInt8)) (t : List UInt8) (h : ((q ++ [t]).all fun x => no isL x) = true) : plainL (q ++ [t]) false = !t.isEmpty := by
  unfold plainL; rw [h, List.getLast?_append]
  cases t <;> simp
theorem plainL_bad (xs : List (List UInt8)) (b : Bool) (k : Nat) (hk : k < xs.length) (h : no isL xs[k] = false) : plainL xs b = false := by
  have : (xs.all fun x => no isL x) = false := by
    rw [List.all_eq_false]
    exact ⟨xs[k], List.getElem_mem hk, by rw [h]; exact Bool.false_ne_true⟩
  unfold plainL; rw [this]; rfl
theorem no_bad (p : UInt8 → Bool) (l : List UInt8) (k : Nat) (hk : k < l.length) (h : p l[k] = true) : no p l = false := by
  unfold no
  rw [List.all_eq_false]
  exact ⟨l[k], List.getElem_mem hk, by rw [h]; decide⟩
theorem no_take_step (p : UInt8 → Bool) (l : List UInt8) (k : Nat) (hk : k < l.length) (h : no p (l.take k) = true) (hc : p l[k] = false) : no p (l.take (k + 1)) = true := by
  rw [List.take_succ_eq_append_getElem hk, no_snoc, h, hc]; rfl

end Go.Proofs.YtblaldcioneooaaDoor
