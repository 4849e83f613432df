/- combined; the rule of Length whole. -/
import Derived.Test.YtpfbpgbgedbalaaRtL
import Derived.StillTactics
set_option linter.unusedVariables false
set_option linter.unusedSimpArgs false
set_option maxRecDepth 100000
set_option maxHeartbeats 8000000
namespace Go.Proofs.Ytpfbpgbgedbalaa
open Go.RowKit

theorem comb_sum (f g : Int → Int → Int) (hp : Pair2 55 55 f g) (ps : List (Int × Int)) (pv : Value) (n0 : Nat) (w : World) (h : PV 55 2 cells_l w n0 ps pv) (h1 : 2 ≤ ps.length) (h6 : ps.length ≤ 600) (hI : ∀ x, x ∈ ps → LOk x) :
    Calls Try.prog 54 #[pv, .func (.func 55) #[] #[], .func (.func 55) #[] #[]] w fun e w' => e = .returned (.agg #[.int .i64 (comT f g ps).1, .int .i64 (comT f g ps).2]) ∧ Below w.heap.size w w' := by
  obtain ⟨q, cap, rfl⟩ := own_more h (by omega)
  have hq := (own_at h q rfl).2
  have hcap : ps.length ≤ cap := by
    rcases h.2 with ⟨e, _⟩ | ⟨g', cap', cur, e, hB, hg, hn, _⟩
    · cases e
    · cases e; exact hn
  obtain ⟨x, r, rfl⟩ : ∃ x r, ps = x :: r := by
    cases ps with
    | nil => simp at h1
    | cons x r => exact ⟨x, r, rfl⟩
  have hx0 := h.get clen_l 0 (by simp) 0 (by decide)
  have hx1 := h.get clen_l 0 (by simp) 1 (by decide)
  replace hx0 : w.cell? ⟨q, 0, none⟩ = some (.int .i64 x.1) := hx0
  replace hx1 : w.cell? ⟨q, 1, none⟩ = some (.int .i64 x.2) := hx1
  have hr : ∀ k (hk : k < r.length), w.cell? ⟨q, 2 + k * 2, none⟩ = some (.int .i64 r[k].1) ∧ w.cell? ⟨q, 2 + k * 2 + 1, none⟩ = some (.int .i64 r[k].2) := by
    intro k hk
    have a0 := h.get clen_l (k + 1) (by simpa using hk) 0 (by decide)
    have a1 := h.get clen_l (k + 1) (by simpa using hk) 1 (by decide)
    have e0 : (k + 1) * 2 + 0 = 2 + k * 2 := by omega
    have e1 : (k + 1) * 2 + 1 = 2 + k * 2 + 1 := by omega
    rw [e0] at a0
    rw [e1] at a1
    exact ⟨a0, a1⟩
  have hlen : (x :: r).length = r.length + 1 := rfl
  rw [hlen] at h6 hcap h1
  have hcx : ((cap : Int) == 1) = false := by simp; omega
  have hcy : ¬ cap = 1 := by omega
  rw [hlen]
  have hr1 : 1 ≤ r.length := by omega
  have hr6 : (r.length : Int) ≤ 600 := by omega
  have hcap1 : (r.length : Int) + 1 ≤ (cap : Int) := by omega
  obtain ⟨W1, hW1⟩ : ∃ W1, W1 = (w.alloc (.cells #[.int .i64 0, .int .i64 0] 55)).alloc (.cells #[.int .i64 x.1, .int .i64 x.2] 55) := ⟨_, rfl⟩
  have hb1 : Below w.heap.size w W1 := by rw [hW1]; exact ((Below.refl _ _).alloc (Nat.le_refl _) _).alloc (by simp) _
  have hz1 : W1.heap.size = w.heap.size + 1 + 1 := by rw [hW1]; simp
  have hp6 : W1.heap[w.heap.size]? = some (.cells #[.int .i64 0, .int .i64 0] 55 (0, 0)) := by
    rw [hW1, Below.heap_alloc _ _ _ (by simp)]
    exact heap_alloc_new w _
  have hp7 : W1.heap[w.heap.size + 1]? = some (.cells #[.int .i64 x.1, .int .i64 x.2] 55 (0, 0)) := by
    have := heap_alloc_new (w.alloc (.cells #[.int .i64 0, .int .i64 0] 55)) (.cells #[.int .i64 x.1, .int .i64 x.2] 55)
    rw [← hW1] at this
    simpa using this
  have hIx := hI x (List.mem_cons_self ..)
  have hIr : ∀ y, y ∈ r → LOk y := fun y hy => hI y (List.mem_cons_of_mem _ hy)
  have HB1 := Lib.hid hb1
  have HP6 := Lib.hid hp6
  have HP7 := Lib.hid hp7
  have HW1 := Lib.hid hW1
  have HR := Lib.hid hr
  have HIx := Lib.hid hIx
  have HIr := Lib.hid hIr
  have HQ := Lib.hid hq
  have HPr := Lib.hid hp
  have HCm : Hid (comT f g (x :: r) = r.foldl (fun a p => (f a.1 p.1, g a.2 p.2)) x) := Lib.hid rfl
  have hcap2 : ¬ (cap : Int) < (r.length : Int) + 1 := by omega
  clear h hb1 hz1 hp6 hp7 hW1 hr hI hIx hIr hlen h1 hp
  go_enter Try.func54, Try.ntmps54
  go_wp2_with fail
  go_loopw [16] (fun i wr => ∃ (k : Nat) (y : Int × Int), k ≤ r.length ∧ i = .int .i64 k ∧ Hid (Below w.heap.size w wr ∧ LOk y ∧ wr.heap[w.heap.size]? = some (.cells #[.int .i64 0, .int .i64 0] 55 (0, 0)) ∧ wr.heap[w.heap.size + 1]? = some (.cells #[.int .i64 y.1, .int .i64 y.2] 55 (0, 0)) ∧ r.foldl (fun a p => (f a.1 p.1, g a.2 p.2)) x = (r.drop k).foldl (fun a p => (f a.1 p.1, g a.2 p.2)) y)) (fun i _ => r.length - (intOf i).toNat)
  case atStart =>
    refine ⟨0, x, Nat.zero_le _, rfl, ?_⟩
    rw [← HW1.out]
    exact Lib.hid ⟨HB1.out, HIx.out, HP6.out, HP7.out, by rw [List.drop_zero]⟩
  case round =>
    obtain ⟨k, y, hk, rfl, HB⟩ := hrel
    by_cases hkn : k < r.length
    · have ki : (k : Int) < r.length := by omega
      have ki0 : (0 : Int) ≤ k := by omega
      obtain ⟨c0, c1⟩ := HR.out k hkn
      rw [← HB.out.1.cell (by exact HQ.out)] at c0 c1
      have hz := HIr.out r[k] (List.getElem_mem hkn)
      have hstep := HB.out.2.2.2.2
      rw [List.drop_eq_getElem_cons hkn, List.foldl_cons] at hstep
      generalize r[k] = z at *
      have HZ := Lib.hid hz
      have HStep := Lib.hid hstep
      have hw7 : w.heap.size + 1 < wr.heap.size := (Array.getElem?_eq_some_iff.1 HB.out.2.2.2.1).1
      have HW7 := Lib.hid hw7
      clear hz hstep
      go_upto_region 5 with fail
      have hbW : Below wr.heap.size wr (wr.alloc (.cells #[.int .i64 z.1, .int .i64 z.2] 55)) := (Below.refl _ _).alloc (Nat.le_refl _) _
      have hp9 : (wr.alloc (.cells #[.int .i64 z.1, .int .i64 z.2] 55)).heap[wr.heap.size]? = some (.cells #[.int .i64 z.1, .int .i64 z.2] 55 (0, 0)) := heap_alloc_new wr _
      have hp7 := (hbW.block _ hw7).trans HB.out.2.2.2.1
      have hp6 := (hbW.block w.heap.size (by omega)).trans HB.out.2.2.1
      have hbw := HB.out.1.trans (hbW.mono HB.out.1.size)
      generalize wr.alloc (.cells #[.int .i64 z.1, .int .i64 z.2] 55) = W at *
      have d0 := cell_of_row W (w.heap.size + 1) 0 _ _ _ hp7
      have d1 := cell_of_row W (w.heap.size + 1) 1 _ _ _ hp7
      have e0 := cell_of_row W wr.heap.size 0 _ _ _ hp9
      have e1 := cell_of_row W wr.heap.size 1 _ _ _ hp9
      replace d0 : W.cell? ⟨w.heap.size + 1, 0, none⟩ = some (.int .i64 y.1) := d0
      replace d1 : W.cell? ⟨w.heap.size + 1, 1, none⟩ = some (.int .i64 y.2) := d1
      replace e0 : W.cell? ⟨wr.heap.size, 0, none⟩ = some (.int .i64 z.1) := e0
      replace e1 : W.cell? ⟨wr.heap.size, 1, none⟩ = some (.int .i64 z.2) := e1
      have HP7b := Lib.hid hp7
      have HP6b := Lib.hid hp6
      have HBw := Lib.hid hbw
      clear c0 c1 hbW hp9 hp7 hp6 hbw hw7
      go_still_tail 13, (by kernel_rfl)
      still_call (HPr.out.c1 _ _ _ HB.out.2.1.1 HZ.out.1)
      repeat still_step
      still_call (HPr.out.c2 _ _ _ HB.out.2.1.2 HZ.out.2)
      repeat still_step
      refine wpStill_nil ?_
      change wpList _ _ _ _ _ W.drew
      have HP7c : Hid (W.drew.heap[w.heap.size + 1]? = some (.cells #[.int .i64 y.1, .int .i64 y.2] 55 (0, 0))) := HP7b
      go_wp2_with (first
        | (refine wpList_store_row rfl 55 (.tmp 7) (.tmp 32) rfl (w.heap.size + 1) #[.int .i64 (f y.1 z.1), .int .i64 (g y.2 z.2)] rfl rfl 55 _ HP7c.out isz_l rfl (by simp [Value.oneCell']) ?_))
      go_roundw
      case rel =>
        refine ⟨k + 1, (f y.1 z.1, g y.2 z.2), by omega, by go_num, Lib.hid ⟨below_setRow HBw.out.drew (by omega) _, ⟨HPr.out.o1 _ _ HB.out.2.1.1 HZ.out.1, HPr.out.o2 _ _ HB.out.2.1.2 HZ.out.2⟩, ?_, setRow_heap _ _ _ _ _ _ HP7c.out, HStep.out⟩⟩
        rw [setRow_other _ _ _ _ (by omega)]
        exact HP6b.out
      case measure => simp [intOf]; omega
    · obtain rfl : k = r.length := by omega
      have hend := HB.out.2.2.2.2
      rw [List.drop_length, List.foldl_nil] at hend
      have HEnd := Lib.hid hend
      have h6w := HB.out.2.2.1
      have h7w := HB.out.2.2.2.1
      clear hend
      go_wp2_with (first
        | (refine wpList_load_row rfl 55 _ rfl (w.heap.size + 1) rfl 55 #[.int .i64 y.1, .int .i64 y.2] (0, 0) _ h7w Try.underlying55 rfl isz_l ?_)
        | (refine wpList_store_row rfl 55 (.tmp 6) (.tmp 34) rfl w.heap.size #[.int .i64 y.1, .int .i64 y.2] rfl rfl 55 _ h6w isz_l rfl (by simp [Value.oneCell']) ?_))
      rw [HCm.out, HEnd.out]
      refine bodyPost_ret (v := .agg #[.int .i64 y.1, .int .i64 y.2]) (results_cell_row rfl _ _ w.heap.size _ #[.int .i64 y.1, .int .i64 y.2] (0, 0) _ rfl (setRow_heap wr _ _ _ _ _ h6w) Try.underlying55 rfl isz_l) rfl ?_
      exact ⟨rfl, below_setRow HB.out.1 (by omega) _⟩
theorem comb_alt (f g : Int → Int → Int) (hp : Pair2 56 57 f g) (ps : List (Int × Int)) (pv : Value) (n0 : Nat) (w : World) (h : PV 55 2 cells_l w n0 ps pv) (h1 : 2 ≤ ps.length) (h6 : ps.length ≤ 600) (hI : ∀ x, x ∈ ps → LOk x) :
    Calls Try.prog 54 #[pv, .func (.func 56) #[] #[], .func (.func 57) #[] #[]] w fun e w' => e = .returned (.agg #[.int .i64 (comT f g ps).1, .int .i64 (comT f g ps).2]) ∧ Below w.heap.size w w' := by
  obtain ⟨q, cap, rfl⟩ := own_more h (by omega)
  have hq := (own_at h q rfl).2
  have hcap : ps.length ≤ cap := by
    rcases h.2 with ⟨e, _⟩ | ⟨g', cap', cur, e, hB, hg, hn, _⟩
    · cases e
    · cases e; exact hn
  obtain ⟨x, r, rfl⟩ : ∃ x r, ps = x :: r := by
    cases ps with
    | nil => simp at h1
    | cons x r => exact ⟨x, r, rfl⟩
  have hx0 := h.get clen_l 0 (by simp) 0 (by decide)
  have hx1 := h.get clen_l 0 (by simp) 1 (by decide)
  replace hx0 : w.cell? ⟨q, 0, none⟩ = some (.int .i64 x.1) := hx0
  replace hx1 : w.cell? ⟨q, 1, none⟩ = some (.int .i64 x.2) := hx1
  have hr : ∀ k (hk : k < r.length), w.cell? ⟨q, 2 + k * 2, none⟩ = some (.int .i64 r[k].1) ∧ w.cell? ⟨q, 2 + k * 2 + 1, none⟩ = some (.int .i64 r[k].2) := by
    intro k hk
    have a0 := h.get clen_l (k + 1) (by simpa using hk) 0 (by decide)
    have a1 := h.get clen_l (k + 1) (by simpa using hk) 1 (by decide)
    have e0 : (k + 1) * 2 + 0 = 2 + k * 2 := by omega
    have e1 : (k + 1) * 2 + 1 = 2 + k * 2 + 1 := by omega
    rw [e0] at a0
    rw [e1] at a1
    exact ⟨a0, a1⟩
  have hlen : (x :: r).length = r.length + 1 := rfl
  rw [hlen] at h6 hcap h1
  have hcx : ((cap : Int) == 1) = false := by simp; omega
  have hcy : ¬ cap = 1 := by omega
  rw [hlen]
  have hr1 : 1 ≤ r.length := by omega
  have hr6 : (r.length : Int) ≤ 600 := by omega
  have hcap1 : (r.length : Int) + 1 ≤ (cap : Int) := by omega
  obtain ⟨W1, hW1⟩ : ∃ W1, W1 = (w.alloc (.cells #[.int .i64 0, .int .i64 0] 55)).alloc (.cells #[.int .i64 x.1, .int .i64 x.2] 55) := ⟨_, rfl⟩
  have hb1 : Below w.heap.size w W1 := by rw [hW1]; exact ((Below.refl _ _).alloc (Nat.le_refl _) _).alloc (by simp) _
  have hz1 : W1.heap.size = w.heap.size + 1 + 1 := by rw [hW1]; simp
  have hp6 : W1.heap[w.heap.size]? = some (.cells #[.int .i64 0, .int .i64 0] 55 (0, 0)) := by
    rw [hW1, Below.heap_alloc _ _ _ (by simp)]
    exact heap_alloc_new w _
  have hp7 : W1.heap[w.heap.size + 1]? = some (.cells #[.int .i64 x.1, .int .i64 x.2] 55 (0, 0)) := by
    have := heap_alloc_new (w.alloc (.cells #[.int .i64 0, .int .i64 0] 55)) (.cells #[.int .i64 x.1, .int .i64 x.2] 55)
    rw [← hW1] at this
    simpa using this
  have hIx := hI x (List.mem_cons_self ..)
  have hIr : ∀ y, y ∈ r → LOk y := fun y hy => hI y (List.mem_cons_of_mem _ hy)
  have HB1 := Lib.hid hb1
  have HP6 := Lib.hid hp6
  have HP7 := Lib.hid hp7
  have HW1 := Lib.hid hW1
  have HR := Lib.hid hr
  have HIx := Lib.hid hIx
  have HIr := Lib.hid hIr
  have HQ := Lib.hid hq
  have HPr := Lib.hid hp
  have HCm : Hid (comT f g (x :: r) = r.foldl (fun a p => (f a.1 p.1, g a.2 p.2)) x) := Lib.hid rfl
  have hcap2 : ¬ (cap : Int) < (r.length : Int) + 1 := by omega
  clear h hb1 hz1 hp6 hp7 hW1 hr hI hIx hIr hlen h1 hp
  go_enter Try.func54, Try.ntmps54
  go_wp2_with fail
  go_loopw [16] (fun i wr => ∃ (k : Nat) (y : Int × Int), k ≤ r.length ∧ i = .int .i64 k ∧ Hid (Below w.heap.size w wr ∧ LOk y ∧ wr.heap[w.heap.size]? = some (.cells #[.int .i64 0, .int .i64 0] 55 (0, 0)) ∧ wr.heap[w.heap.size + 1]? = some (.cells #[.int .i64 y.1, .int .i64 y.2] 55 (0, 0)) ∧ r.foldl (fun a p => (f a.1 p.1, g a.2 p.2)) x = (r.drop k).foldl (fun a p => (f a.1 p.1, g a.2 p.2)) y)) (fun i _ => r.length - (intOf i).toNat)
  case atStart =>
    refine ⟨0, x, Nat.zero_le _, rfl, ?_⟩
    rw [← HW1.out]
    exact Lib.hid ⟨HB1.out, HIx.out, HP6.out, HP7.out, by rw [List.drop_zero]⟩
  case round =>
    obtain ⟨k, y, hk, rfl, HB⟩ := hrel
    by_cases hkn : k < r.length
    · have ki : (k : Int) < r.length := by omega
      have ki0 : (0 : Int) ≤ k := by omega
      obtain ⟨c0, c1⟩ := HR.out k hkn
      rw [← HB.out.1.cell (by exact HQ.out)] at c0 c1
      have hz := HIr.out r[k] (List.getElem_mem hkn)
      have hstep := HB.out.2.2.2.2
      rw [List.drop_eq_getElem_cons hkn, List.foldl_cons] at hstep
      generalize r[k] = z at *
      have HZ := Lib.hid hz
      have HStep := Lib.hid hstep
      have hw7 : w.heap.size + 1 < wr.heap.size := (Array.getElem?_eq_some_iff.1 HB.out.2.2.2.1).1
      have HW7 := Lib.hid hw7
      clear hz hstep
      go_upto_region 5 with fail
      have hbW : Below wr.heap.size wr (wr.alloc (.cells #[.int .i64 z.1, .int .i64 z.2] 55)) := (Below.refl _ _).alloc (Nat.le_refl _) _
      have hp9 : (wr.alloc (.cells #[.int .i64 z.1, .int .i64 z.2] 55)).heap[wr.heap.size]? = some (.cells #[.int .i64 z.1, .int .i64 z.2] 55 (0, 0)) := heap_alloc_new wr _
      have hp7 := (hbW.block _ hw7).trans HB.out.2.2.2.1
      have hp6 := (hbW.block w.heap.size (by omega)).trans HB.out.2.2.1
      have hbw := HB.out.1.trans (hbW.mono HB.out.1.size)
      generalize wr.alloc (.cells #[.int .i64 z.1, .int .i64 z.2] 55) = W at *
      have d0 := cell_of_row W (w.heap.size + 1) 0 _ _ _ hp7
      have d1 := cell_of_row W (w.heap.size + 1) 1 _ _ _ hp7
      have e0 := cell_of_row W wr.heap.size 0 _ _ _ hp9
      have e1 := cell_of_row W wr.heap.size 1 _ _ _ hp9
      replace d0 : W.cell? ⟨w.heap.size + 1, 0, none⟩ = some (.int .i64 y.1) := d0
      replace d1 : W.cell? ⟨w.heap.size + 1, 1, none⟩ = some (.int .i64 y.2) := d1
      replace e0 : W.cell? ⟨wr.heap.size, 0, none⟩ = some (.int .i64 z.1) := e0
      replace e1 : W.cell? ⟨wr.heap.size, 1, none⟩ = some (.int .i64 z.2) := e1
      have HP7b := Lib.hid hp7
      have HP6b := Lib.hid hp6
      have HBw := Lib.hid hbw
      clear c0 c1 hbW hp9 hp7 hp6 hbw hw7
      go_still_tail 13, (by kernel_rfl)
      still_call (HPr.out.c1 _ _ _ HB.out.2.1.1 HZ.out.1)
      repeat still_step
      still_call (HPr.out.c2 _ _ _ HB.out.2.1.2 HZ.out.2)
      repeat still_step
      refine wpStill_nil ?_
      change wpList _ _ _ _ _ W.drew
      have HP7c : Hid (W.drew.heap[w.heap.size + 1]? = some (.cells #[.int .i64 y.1, .int .i64 y.2] 55 (0, 0))) := HP7b
      go_wp2_with (first
        | (refine wpList_store_row rfl 55 (.tmp 7) (.tmp 32) rfl (w.heap.size + 1) #[.int .i64 (f y.1 z.1), .int .i64 (g y.2 z.2)] rfl rfl 55 _ HP7c.out isz_l rfl (by simp [Value.oneCell']) ?_))
      go_roundw
      case rel =>
        refine ⟨k + 1, (f y.1 z.1, g y.2 z.2), by omega, by go_num, Lib.hid ⟨below_setRow HBw.out.drew (by omega) _, ⟨HPr.out.o1 _ _ HB.out.2.1.1 HZ.out.1, HPr.out.o2 _ _ HB.out.2.1.2 HZ.out.2⟩, ?_, setRow_heap _ _ _ _ _ _ HP7c.out, HStep.out⟩⟩
        rw [setRow_other _ _ _ _ (by omega)]
        exact HP6b.out
      case measure => simp [intOf]; omega
    · obtain rfl : k = r.length := by omega
      have hend := HB.out.2.2.2.2
      rw [List.drop_length, List.foldl_nil] at hend
      have HEnd := Lib.hid hend
      have h6w := HB.out.2.2.1
      have h7w := HB.out.2.2.2.1
      clear hend
      go_wp2_with (first
        | (refine wpList_load_row rfl 55 _ rfl (w.heap.size + 1) rfl 55 #[.int .i64 y.1, .int .i64 y.2] (0, 0) _ h7w Try.underlying55 rfl isz_l ?_)
        | (refine wpList_store_row rfl 55 (.tmp 6) (.tmp 34) rfl w.heap.size #[.int .i64 y.1, .int .i64 y.2] rfl rfl 55 _ h6w isz_l rfl (by simp [Value.oneCell']) ?_))
      rw [HCm.out, HEnd.out]
      refine bodyPost_ret (v := .agg #[.int .i64 y.1, .int .i64 y.2]) (results_cell_row rfl _ _ w.heap.size _ #[.int .i64 y.1, .int .i64 y.2] (0, 0) _ rfl (setRow_heap wr _ _ _ _ _ h6w) Try.underlying55 rfl isz_l) rfl ?_
      exact ⟨rfl, below_setRow HB.out.1 (by omega) _⟩
end Go.Proofs.Ytpfbpgbgedbalaa
