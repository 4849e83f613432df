/- combined; the rule of Length whole. -/
import Derived.Test.YtpfbpgbgedbalaaRtLc
import Derived.StillTactics
set_option linter.unusedVariables false
set_option linter.unusedSimpArgs false
set_option maxRecDepth 100000
set_option maxHeartbeats 8000000
namespace Go.Proofs.Ytpfbpgbgedbalaa
open Go.RowKit

theorem rule_l : Rule_l LOk lenT := by
  intro w n0 t ad cap ps pv hpv hP
  obtain ⟨qad, qcap, rfl⟩ := own_sl hpv
  obtain ⟨op, st, lo, hi, g, args⟩ := t
  obtain ⟨hrep, hone, htwo, hinv, hlen⟩ := hP
  dsimp only at *
  have h1 : (op = 5 ∨ op = 6 ∨ op = 9) → ∃ x q, qad = some ⟨q, 0, none⟩ ∧ ps = [x] ∧ w.cell? ⟨q, 0, none⟩ = some (.int .i64 x.1) ∧ w.cell? ⟨q, 1, none⟩ = some (.int .i64 x.2) ∧ q < w.heap.size := by
    intro ho
    have hl1 : ps.length = 1 := by
      rcases ho with ho | ho
      · exact (hrep ho).1
      · exact hone ho
    obtain ⟨x, rfl⟩ := List.length_eq_one_iff.1 hl1
    obtain ⟨q, c2, hs⟩ := own_more hpv (by simp)
    cases hs
    exact ⟨x, q, rfl, rfl, by have := hpv.get clen_l 0 (by simp) 0 (by decide); exact this, by have := hpv.get clen_l 0 (by simp) 1 (by decide); exact this, (own_at hpv q rfl).2⟩
  by_cases o2 : op = 2
  · subst o2
    clear h1 hpv hinv
    go_enter Try.func28, Try.ntmps28
    go_wp2_with fail
    refine bodyPost_ret (v := .agg #[.int .i64 1, .int .i64 1]) (results_cell_row rfl _ _ (w.heap.size + 1) _ #[.int .i64 1, .int .i64 1] (0, 0) _ rfl (by have := heap_alloc_new (w.alloc (.cells #[.int .i64 2, .int .u64 (wd st 0 64 : Nat), .int .u64 (wd st 64 64 : Nat), .int .u64 (wd st 128 64 : Nat), .int .u64 (wd st 192 64 : Nat), .int .i64 lo, .int .i64 hi, .int .i64 g, .slice ad args.len cap] 28)) (.cells #[.int .i64 1, .int .i64 1] 55); simpa using this) Try.underlying55 rfl isz_l) rfl ?_
    exact ⟨rfl, ((Below.refl _ _).alloc (Nat.le_refl _) _).alloc (by simp) _⟩
  by_cases o3 : op = 3
  · subst o3
    have h2 := htwo (.inl rfl)
    obtain ⟨W2, hW2⟩ : ∃ W2, W2 = ((w.alloc (.cells #[.int .i64 3, .int .u64 (wd st 0 64 : Nat), .int .u64 (wd st 64 64 : Nat), .int .u64 (wd st 128 64 : Nat), .int .u64 (wd st 192 64 : Nat), .int .i64 lo, .int .i64 hi, .int .i64 g, .slice ad args.len cap] 28)).alloc (.cells #[.int .i64 0, .int .i64 0] 55)) := ⟨_, rfl⟩
    have hb : Below w.heap.size w W2 := by rw [hW2]; exact ((Below.refl _ _).alloc (Nat.le_refl _) _).alloc (by simp) _
    have hr : W2.heap[w.heap.size + 1]? = some (.cells #[.int .i64 0, .int .i64 0] 55 (0, 0)) := by
      have := heap_alloc_new (w.alloc (.cells #[.int .i64 3, .int .u64 (wd st 0 64 : Nat), .int .u64 (wd st 64 64 : Nat), .int .u64 (wd st 128 64 : Nat), .int .u64 (wd st 192 64 : Nat), .int .i64 lo, .int .i64 hi, .int .i64 g, .slice ad args.len cap] 28)) (.cells #[.int .i64 0, .int .i64 0] 55)
      rw [hW2]
      simpa using this
    have HC := Lib.hid (comb_sum sumT sumT pair_sum ps _ n0 W2 (hpv.below hb) h2 hlen hinv)
    have HR := Lib.hid hr
    have HB := Lib.hid hb
    have HW2 := Lib.hid hW2
    have hl2 : w.heap.size + 1 < W2.heap.size := (Array.getElem?_eq_some_iff.1 hr).1
    have HL2 := Lib.hid hl2
    clear hb hr hW2 hpv h1 hinv hl2
    go_enter Try.func28, Try.ntmps28
    go_wp2_with (first
      | (go_at_call 54; rw [← HW2.out]; (with_reducible refine HC.out.mono ?_); rintro e w1 ⟨rfl, hb1⟩
         have HB1 := Lib.hid (HB.out.trans (hb1.mono HB.out.size))
         have HR1 := Lib.hid ((hb1.block (w.heap.size + 1) HL2.out).trans HR.out)
         clear hb1)
      | (refine wpList_store_row rfl 55 (.tmp 4) (.tmp 13) rfl (w.heap.size + 1) #[.int .i64 (comT sumT sumT ps).1, .int .i64 (comT sumT sumT ps).2] rfl rfl 55 _ HR1.out isz_l rfl (by simp [Value.oneCell']) ?_))
    refine bodyPost_ret (v := .agg #[.int .i64 (comT sumT sumT ps).1, .int .i64 (comT sumT sumT ps).2]) (results_cell_row rfl _ _ (w.heap.size + 1) _ #[.int .i64 (comT sumT sumT ps).1, .int .i64 (comT sumT sumT ps).2] (0, 0) _ rfl (setRow_heap w1 _ _ _ _ _ HR1.out) Try.underlying55 rfl isz_l) rfl ?_
    exact ⟨rfl, below_setRow HB1.out (by omega) _⟩
  by_cases o4 : op = 4
  · subst o4
    have h2 := htwo (.inr rfl)
    obtain ⟨W2, hW2⟩ : ∃ W2, W2 = ((w.alloc (.cells #[.int .i64 4, .int .u64 (wd st 0 64 : Nat), .int .u64 (wd st 64 64 : Nat), .int .u64 (wd st 128 64 : Nat), .int .u64 (wd st 192 64 : Nat), .int .i64 lo, .int .i64 hi, .int .i64 g, .slice ad args.len cap] 28)).alloc (.cells #[.int .i64 0, .int .i64 0] 55)) := ⟨_, rfl⟩
    have hb : Below w.heap.size w W2 := by rw [hW2]; exact ((Below.refl _ _).alloc (Nat.le_refl _) _).alloc (by simp) _
    have hr : W2.heap[w.heap.size + 1]? = some (.cells #[.int .i64 0, .int .i64 0] 55 (0, 0)) := by
      have := heap_alloc_new (w.alloc (.cells #[.int .i64 4, .int .u64 (wd st 0 64 : Nat), .int .u64 (wd st 64 64 : Nat), .int .u64 (wd st 128 64 : Nat), .int .u64 (wd st 192 64 : Nat), .int .i64 lo, .int .i64 hi, .int .i64 g, .slice ad args.len cap] 28)) (.cells #[.int .i64 0, .int .i64 0] 55)
      rw [hW2]
      simpa using this
    have HC := Lib.hid (comb_alt lesT greT pair_alt ps _ n0 W2 (hpv.below hb) h2 hlen hinv)
    have HR := Lib.hid hr
    have HB := Lib.hid hb
    have HW2 := Lib.hid hW2
    have hl2 : w.heap.size + 1 < W2.heap.size := (Array.getElem?_eq_some_iff.1 hr).1
    have HL2 := Lib.hid hl2
    clear hb hr hW2 hpv h1 hinv hl2
    go_enter Try.func28, Try.ntmps28
    go_wp2_with (first
      | (go_at_call 54; rw [← HW2.out]; (with_reducible refine HC.out.mono ?_); rintro e w1 ⟨rfl, hb1⟩
         have HB1 := Lib.hid (HB.out.trans (hb1.mono HB.out.size))
         have HR1 := Lib.hid ((hb1.block (w.heap.size + 1) HL2.out).trans HR.out)
         clear hb1)
      | (refine wpList_store_row rfl 55 (.tmp 4) (.tmp 17) rfl (w.heap.size + 1) #[.int .i64 (comT lesT greT ps).1, .int .i64 (comT lesT greT ps).2] rfl rfl 55 _ HR1.out isz_l rfl (by simp [Value.oneCell']) ?_))
    refine bodyPost_ret (v := .agg #[.int .i64 (comT lesT greT ps).1, .int .i64 (comT lesT greT ps).2]) (results_cell_row rfl _ _ (w.heap.size + 1) _ #[.int .i64 (comT lesT greT ps).1, .int .i64 (comT lesT greT ps).2] (0, 0) _ rfl (setRow_heap w1 _ _ _ _ _ HR1.out) Try.underlying55 rfl isz_l) rfl ?_
    exact ⟨rfl, below_setRow HB1.out (by omega) _⟩
  by_cases o5 : op = 5
  · subst o5
    obtain ⟨x, q, rfl, rfl, hc0, hc1, hq⟩ := h1 (.inl rfl)
    have hx := hinv x (List.mem_cons_self ..)
    obtain ⟨_, hr1, hr2, hr3⟩ := hrep rfl
    have HX := Lib.hid hx
    have HRp := Lib.hid (show (-1 ≤ lo ∧ lo ≤ 64) ∧ (-1 ≤ hi ∧ hi ≤ 64) from ⟨⟨by omega, hr2⟩, by omega, by omega⟩)
    obtain ⟨W2, hW2⟩ : ∃ W2, W2 = ((w.alloc (.cells #[.int .i64 5, .int .u64 (wd st 0 64 : Nat), .int .u64 (wd st 64 64 : Nat), .int .u64 (wd st 128 64 : Nat), .int .u64 (wd st 192 64 : Nat), .int .i64 lo, .int .i64 hi, .int .i64 g, .slice ad args.len cap] 28)).alloc (.cells #[.int .i64 0, .int .i64 0] 55)) := ⟨_, rfl⟩
    have hb : Below w.heap.size w W2 := by rw [hW2]; exact ((Below.refl _ _).alloc (Nat.le_refl _) _).alloc (by simp) _
    have hr : W2.heap[w.heap.size + 1]? = some (.cells #[.int .i64 0, .int .i64 0] 55 (0, 0)) := by
      have := heap_alloc_new (w.alloc (.cells #[.int .i64 5, .int .u64 (wd st 0 64 : Nat), .int .u64 (wd st 64 64 : Nat), .int .u64 (wd st 128 64 : Nat), .int .u64 (wd st 192 64 : Nat), .int .i64 lo, .int .i64 hi, .int .i64 g, .slice ad args.len cap] 28)) (.cells #[.int .i64 0, .int .i64 0] 55)
      rw [hW2]
      simpa using this
    have he : W2.heap[w.heap.size]? = some (.cells #[.int .i64 5, .int .u64 (wd st 0 64 : Nat), .int .u64 (wd st 64 64 : Nat), .int .u64 (wd st 128 64 : Nat), .int .u64 (wd st 192 64 : Nat), .int .i64 lo, .int .i64 hi, .int .i64 g, .slice ad args.len cap] 28 (0, 0)) := by
      rw [hW2, Below.heap_alloc _ _ _ (by simp)]
      exact heap_alloc_new w _
    rw [← hb.cell (by exact hq)] at hc0 hc1
    obtain ⟨⟨⟨a0, a1, a2⟩, a3, a4, a5⟩, a6, a7, a8⟩ := nine he
    have HR : Hid (W2.drew.heap[w.heap.size + 1]? = some (.cells #[.int .i64 0, .int .i64 0] 55 (0, 0))) := Lib.hid hr
    have HB := Lib.hid hb
    clear hpv h1 hinv hrep hone htwo hb hr he hr1 hr2 hr3 hx
    go_enter Try.func28, Try.ntmps28
    go_upto_region 9 with fail
    rw [← hW2]
    clear hW2
    go_still_tail 15, (by kernel_rfl)
    still_call (prod_any _ _ ⟨by have := HX.out.1.1; omega, HX.out.1.2⟩ HRp.out.1 _)
    repeat still_step
    still_call (prod_any _ _ HX.out.2 HRp.out.2 _)
    repeat still_step
    refine wpStill_nil ?_
    change wpList _ _ _ _ _ W2.drew
    go_wp2_with (first
      | (refine wpList_store_row rfl 55 (.tmp 4) (.tmp 34) rfl (w.heap.size + 1) #[.int .i64 (prodT x.1 lo), .int .i64 (prodT x.2 hi)] rfl rfl 55 _ HR.out isz_l rfl (by simp [Value.oneCell']) ?_))
    refine bodyPost_ret (v := .agg #[.int .i64 (prodT x.1 lo), .int .i64 (prodT x.2 hi)]) (results_cell_row rfl _ _ (w.heap.size + 1) _ #[.int .i64 (prodT x.1 lo), .int .i64 (prodT x.2 hi)] (0, 0) _ rfl (setRow_heap _ _ _ _ _ _ HR.out) Try.underlying55 rfl isz_l) rfl ?_
    exact ⟨rfl, below_setRow HB.out.drew (by omega) _⟩
  by_cases o6 : op = 6
  · subst o6
    obtain ⟨x, q, rfl, rfl, hc0, hc1, hq⟩ := h1 (.inr (.inl rfl))
    clear h1 hpv hinv
    go_enter Try.func28, Try.ntmps28
    go_wp2_with fail
    refine bodyPost_ret (v := .agg #[.int .i64 x.1, .int .i64 x.2]) (results_cell_row rfl _ _ (w.heap.size + 1) _ #[.int .i64 x.1, .int .i64 x.2] (0, 0) _ rfl (by have := heap_alloc_new (w.alloc (.cells #[.int .i64 6, .int .u64 (wd st 0 64 : Nat), .int .u64 (wd st 64 64 : Nat), .int .u64 (wd st 128 64 : Nat), .int .u64 (wd st 192 64 : Nat), .int .i64 lo, .int .i64 hi, .int .i64 g, .slice ad args.len cap] 28)) (.cells #[.int .i64 x.1, .int .i64 x.2] 55); simpa using this) Try.underlying55 rfl isz_l) rfl ?_
    exact ⟨rfl, ((Below.refl _ _).alloc (Nat.le_refl _) _).alloc (by simp) _⟩
  by_cases o9 : op = 9
  · subst o9
    obtain ⟨x, q, rfl, rfl, hc0, hc1, hq⟩ := h1 (.inr (.inr rfl))
    clear h1 hpv hinv
    go_enter Try.func28, Try.ntmps28
    go_wp2_with fail
    refine bodyPost_ret (v := .agg #[.int .i64 x.1, .int .i64 x.2]) (results_cell_row rfl _ _ (w.heap.size + 1) _ #[.int .i64 x.1, .int .i64 x.2] (0, 0) _ rfl (by have := heap_alloc_new (w.alloc (.cells #[.int .i64 9, .int .u64 (wd st 0 64 : Nat), .int .u64 (wd st 64 64 : Nat), .int .u64 (wd st 128 64 : Nat), .int .u64 (wd st 192 64 : Nat), .int .i64 lo, .int .i64 hi, .int .i64 g, .slice ad args.len cap] 28)) (.cells #[.int .i64 x.1, .int .i64 x.2] 55); simpa using this) Try.underlying55 rfl isz_l) rfl ?_
    exact ⟨rfl, ((Below.refl _ _).alloc (Nat.le_refl _) _).alloc (by simp) _⟩
  have e2 : (op == 2) = false := by simpa using o2
  have e3 : (op == 3) = false := by simpa using o3
  have e4 : (op == 4) = false := by simpa using o4
  have e5 : (op == 5) = false := by simpa using o5
  have e6 : (op == 6) = false := by simpa using o6
  have e9 : (op == 9) = false := by simpa using o9
  have er : lenT ⟨op, st, lo, hi, g, args⟩ ps = (0, 0) := by simp [lenT, o2, o3, o4, o5, o6, o9]
  rw [er]
  clear h1 hpv hinv er
  go_enter Try.func28, Try.ntmps28
  go_wp2_with fail
  refine bodyPost_ret (v := .agg #[.int .i64 0, .int .i64 0]) (results_cell_row rfl _ _ (w.heap.size + 1) _ #[.int .i64 0, .int .i64 0] (0, 0) _ rfl (by have := heap_alloc_new (w.alloc (.cells #[.int .i64 op, .int .u64 (wd st 0 64 : Nat), .int .u64 (wd st 64 64 : Nat), .int .u64 (wd st 128 64 : Nat), .int .u64 (wd st 192 64 : Nat), .int .i64 lo, .int .i64 hi, .int .i64 g, .slice ad args.len cap] 28)) (.cells #[.int .i64 0, .int .i64 0] 55); simpa using this) Try.underlying55 rfl isz_l) rfl ?_
  exact ⟨rfl, ((Below.refl _ _).alloc (Nat.le_refl _) _).alloc (by simp) _⟩
end Go.Proofs.Ytpfbpgbgedbalaa
