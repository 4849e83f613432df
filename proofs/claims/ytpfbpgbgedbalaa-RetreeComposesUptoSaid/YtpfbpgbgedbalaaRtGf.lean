/- firstSet. -/
import Derived.Test.YtpfbpgbgedbalaaRtG
set_option linter.unusedVariables false
set_option linter.unusedSimpArgs false
set_option maxRecDepth 100000
set_option maxHeartbeats 8000000
namespace Go.Proofs.Ytpfbpgbgedbalaa
open Go.RowKit

theorem first_5 (lo hi g : Int) (st : Nat → Bool) (args : F) (hz : (hi == 0) = false) (hz2 : ¬ hi = 0) (ad : Option Addr) (cap : Nat) (ps : List ((Nat → Bool) × Bool)) (qad : Option Addr) (qcap : Nat) (n0 : Nat) (w : World) (h : PV 63 5 cells_g w n0 ps (.slice qad ps.length qcap)) (h6 : ps.length ≤ 600) :
    Calls Try.prog 63 #[.agg #[.int .i64 5, .int .u64 (wd st 0 64 : Nat), .int .u64 (wd st 64 64 : Nat), .int .u64 (wd st 128 64 : Nat), .int .u64 (wd st 192 64 : Nat), .int .i64 lo, .int .i64 hi, .int .i64 g, .slice ad args.len cap], .slice qad ps.length qcap] w fun e w' => e = .returned (.agg (cl (fstL false ps noSet))) ∧ Below w.heap.size w w' := by
  have hl' : (ps.length : Int) ≤ 600 := by omega
  obtain ⟨W2, hW2⟩ : ∃ W2, W2 = ((w.alloc (.cells #[.int .i64 5, .int .u64 (wd st 0 64 : Nat), .int .u64 (wd st 64 64 : Nat), .int .u64 (wd st 128 64 : Nat), .int .u64 (wd st 192 64 : Nat), .int .i64 lo, .int .i64 hi, .int .i64 g, .slice ad args.len cap] 28)).alloc (.cells #[.int .u64 0, .int .u64 0, .int .u64 0, .int .u64 0] 25)).alloc (.cells #[.int .u64 0, .int .u64 0, .int .u64 0, .int .u64 0] 25) := ⟨_, rfl⟩
  have hb : Below w.heap.size w W2 := by rw [hW2]; exact (((Below.refl _ _).alloc (Nat.le_refl _) _).alloc (by simp) _).alloc (by simp; omega) _
  have hz2 : W2.heap.size = w.heap.size + 1 + 1 + 1 := by rw [hW2]; simp
  have he : W2.heap[w.heap.size]? = some (.cells #[.int .i64 5, .int .u64 (wd st 0 64 : Nat), .int .u64 (wd st 64 64 : Nat), .int .u64 (wd st 128 64 : Nat), .int .u64 (wd st 192 64 : Nat), .int .i64 lo, .int .i64 hi, .int .i64 g, .slice ad args.len cap] 28 (0, 0)) := by
    rw [hW2, Below.heap_alloc _ _ _ (by simp; omega), Below.heap_alloc _ _ _ (by simp)]
    exact heap_alloc_new w _
  have hr : At W2 (w.heap.size + 1) noSet := by
    have := heap_alloc_new (w.alloc (.cells #[.int .i64 5, .int .u64 (wd st 0 64 : Nat), .int .u64 (wd st 64 64 : Nat), .int .u64 (wd st 128 64 : Nat), .int .u64 (wd st 192 64 : Nat), .int .i64 lo, .int .i64 hi, .int .i64 g, .slice ad args.len cap] 28)) (.cells #[.int .u64 0, .int .u64 0, .int .u64 0, .int .u64 0] 25)
    unfold At
    rw [show cl noSet = #[.int .u64 0, .int .u64 0, .int .u64 0, .int .u64 0] from cl_zero.symm, hW2, Below.heap_alloc _ _ _ (by simp)]
    simpa using this
  have hs : At W2 (w.heap.size + 1 + 1) noSet := by
    have := heap_alloc_new ((w.alloc (.cells #[.int .i64 5, .int .u64 (wd st 0 64 : Nat), .int .u64 (wd st 64 64 : Nat), .int .u64 (wd st 128 64 : Nat), .int .u64 (wd st 192 64 : Nat), .int .i64 lo, .int .i64 hi, .int .i64 g, .slice ad args.len cap] 28)).alloc (.cells #[.int .u64 0, .int .u64 0, .int .u64 0, .int .u64 0] 25)) (.cells #[.int .u64 0, .int .u64 0, .int .u64 0, .int .u64 0] 25)
    unfold At
    rw [show cl noSet = #[.int .u64 0, .int .u64 0, .int .u64 0, .int .u64 0] from cl_zero.symm, hW2]
    simpa using this
  have HP := Lib.hid h
  have HS0 := Lib.hid (And.intro hb (And.intro he (And.intro hr hs)))
  have HW2 := Lib.hid hW2
  clear h hb hz2 he hr hs hW2
  go_enter Try.func63, Try.ntmps63
  go_wp2_with fail
  go_loopw [26] (fun i wr => ∃ (j : Nat) (acc : Nat → Bool), j ≤ ps.length ∧ i = .int .i64 j ∧ Hid (Below w.heap.size w wr ∧ wr.heap[w.heap.size]? = some (.cells #[.int .i64 5, .int .u64 (wd st 0 64 : Nat), .int .u64 (wd st 64 64 : Nat), .int .u64 (wd st 128 64 : Nat), .int .u64 (wd st 192 64 : Nat), .int .i64 lo, .int .i64 hi, .int .i64 g, .slice ad args.len cap] 28 (0, 0)) ∧ At wr (w.heap.size + 1) noSet ∧ At wr (w.heap.size + 1 + 1) acc ∧ fstL false ps noSet = fstL false (ps.drop j) acc)) (fun i _ => ps.length - (intOf i).toNat)
  case atStart =>
    refine ⟨0, noSet, Nat.zero_le _, rfl, ?_⟩
    rw [← HW2.out]
    exact Lib.hid ⟨HS0.out.1, HS0.out.2.1, HS0.out.2.2.1, HS0.out.2.2.2, by rw [List.drop_zero]⟩
  case round =>
    obtain ⟨j, acc, hj, rfl, HB⟩ := hrel
    have hw3 : w.heap.size + 1 + 1 < wr.heap.size := HB.out.2.2.2.1.lt
    by_cases hjn : j < ps.length
    · have ki : (j : Int) < ps.length := by omega
      have ki0 : (0 : Int) ≤ j := by omega
      obtain ⟨q, c2, hs⟩ := own_more HP.out (by omega)
      cases hs
      have hpw : PV 63 5 cells_g wr n0 ps (.slice (some ⟨q, 0, none⟩) ps.length qcap) := HP.out.below HB.out.1
      have c0 := hpw.get clen_g j hjn 0 (by decide)
      have c1 := hpw.get clen_g j hjn 1 (by decide)
      have c2 := hpw.get clen_g j hjn 2 (by decide)
      have c3 := hpw.get clen_g j hjn 3 (by decide)
      have c4 := hpw.get clen_g j hjn 4 (by decide)
      have hstep := HB.out.2.2.2.2
      rw [List.drop_eq_getElem_cons hjn, fstL] at hstep
      generalize ps[j] = x at *
      obtain ⟨xp, xb⟩ := x
      replace c0 : wr.cell? ⟨q, j * 5, none⟩ = some (.int .u64 (wd xp 0 64 : Nat)) := c0
      replace c1 : wr.cell? ⟨q, j * 5 + 1, none⟩ = some (.int .u64 (wd xp 64 64 : Nat)) := c1
      replace c2 : wr.cell? ⟨q, j * 5 + 2, none⟩ = some (.int .u64 (wd xp 128 64 : Nat)) := c2
      replace c3 : wr.cell? ⟨q, j * 5 + 3, none⟩ = some (.int .u64 (wd xp 192 64 : Nat)) := c3
      replace c4 : wr.cell? ⟨q, j * 5 + 4, none⟩ = some (.bool xb) := c4
      have HUn : Hid (∀ W, Calls Try.prog 80 #[.agg (cl acc), .agg #[.int .u64 (wd xp 0 64 : Nat), .int .u64 (wd xp 64 64 : Nat), .int .u64 (wd xp 128 64 : Nat), .int .u64 (wd xp 192 64 : Nat)]] W fun e w' => e = .returned (.agg (cl (uniP acc xp))) ∧ Below W.heap.size W w') := Lib.hid (fun W => union_any acc xp W)
      have HStep := Lib.hid hstep
      clear hpw hstep
      go_upto_region 9 with fail
      have hbx : Below wr.heap.size wr (wr.alloc (.cells #[.int .u64 (wd xp 0 64 : Nat), .int .u64 (wd xp 64 64 : Nat), .int .u64 (wd xp 128 64 : Nat), .int .u64 (wd xp 192 64 : Nat), .bool xb] 63)) := (Below.refl _ _).alloc (Nat.le_refl _) _
      have hx := heap_alloc_new wr (.cells #[.int .u64 (wd xp 0 64 : Nat), .int .u64 (wd xp 64 64 : Nat), .int .u64 (wd xp 128 64 : Nat), .int .u64 (wd xp 192 64 : Nat), .bool xb] 63)
      generalize wr.alloc (.cells #[.int .u64 (wd xp 0 64 : Nat), .int .u64 (wd xp 64 64 : Nat), .int .u64 (wd xp 128 64 : Nat), .int .u64 (wd xp 192 64 : Nat), .bool xb] 63) = W at *
      have hAc : At W (w.heap.size + 1 + 1) acc := HB.out.2.2.2.1.below hbx hw3
      have d0 := cell_of_row W wr.heap.size 0 _ _ _ hx
      have d1 := cell_of_row W wr.heap.size 1 _ _ _ hx
      have d2 := cell_of_row W wr.heap.size 2 _ _ _ hx
      have d3 := cell_of_row W wr.heap.size 3 _ _ _ hx
      replace d0 : W.cell? ⟨wr.heap.size, 0, none⟩ = some (.int .u64 (wd xp 0 64 : Nat)) := d0
      replace d1 : W.cell? ⟨wr.heap.size, 1, none⟩ = some (.int .u64 (wd xp 64 64 : Nat)) := d1
      replace d2 : W.cell? ⟨wr.heap.size, 2, none⟩ = some (.int .u64 (wd xp 128 64 : Nat)) := d2
      replace d3 : W.cell? ⟨wr.heap.size, 3, none⟩ = some (.int .u64 (wd xp 192 64 : Nat)) := d3
      have HBx := Lib.hid hbx
      have HXx := Lib.hid hx
      have HAc := Lib.hid hAc
      clear c0 c1 c2 c3 c4 hbx hx hAc
      go_upto_region 10 with (first
        | (refine wpList_load_row rfl 25 _ rfl (w.heap.size + 1 + 1) rfl 25 (cl acc) (0, 0) _ HAc.out Try.underlying25 rfl info_cs ?_)
        | (go_at_call 80; (with_reducible refine (HUn.out _).mono ?_); rintro e w1 ⟨rfl, hb⟩
           have HB1 := Lib.hid hb
           have HA1 := Lib.hid (HAc.out.below hb HAc.out.lt)
           clear hb d0 d1 d2 d3)
        | (refine wpList_store_row rfl 25 (.tmp 5) (.tmp 33) rfl (w.heap.size + 1 + 1) (cl (uniP acc xp)) rfl rfl 25 _ HA1.out info_cs ((cl_size _).trans (cl_size _).symm) (cl_one _) ?_))
      have hsz := HBx.out.size
      have HF : Hid (Below w.heap.size w (w1.setRow (w.heap.size + 1 + 1) (cl (uniP acc xp))) ∧ (w1.setRow (w.heap.size + 1 + 1) (cl (uniP acc xp))).heap[w.heap.size]? = some (.cells #[.int .i64 5, .int .u64 (wd st 0 64 : Nat), .int .u64 (wd st 64 64 : Nat), .int .u64 (wd st 128 64 : Nat), .int .u64 (wd st 192 64 : Nat), .int .i64 lo, .int .i64 hi, .int .i64 g, .slice ad args.len cap] 28 (0, 0)) ∧ At (w1.setRow (w.heap.size + 1 + 1) (cl (uniP acc xp))) (w.heap.size + 1) noSet ∧ At (w1.setRow (w.heap.size + 1 + 1) (cl (uniP acc xp))) (w.heap.size + 1 + 1) (uniP acc xp)) := by
        have hb1 := HBx.out.trans (HB1.out.mono HBx.out.size)
        refine Lib.hid ⟨below_setRow (HB.out.1.trans (hb1.mono HB.out.1.size)) (by omega) _, ?_, ?_, HA1.out.set _⟩
        · rw [setRow_other _ _ _ _ (by omega)]
          exact (hb1.block w.heap.size (by omega)).trans HB.out.2.1
        · exact (HB.out.2.2.1.below hb1 (by omega)).other _ (by omega)
      have hxc : (w1.setRow (w.heap.size + 1 + 1) (cl (uniP acc xp))).cell? ⟨wr.heap.size, 4, none⟩ = some (.bool xb) := by
        rw [cell_same (setRow_other w1 (w.heap.size + 1 + 1) wr.heap.size _ (by omega)), cell_same (HB1.out.block wr.heap.size (Array.getElem?_eq_some_iff.1 HXx.out).1)]
        exact cell_of_row W wr.heap.size 4 _ _ _ HXx.out
      have hec := nine HF.out.2.1
      clear hsz
      generalize w1.setRow (w.heap.size + 1 + 1) (cl (uniP acc xp)) = W3 at *
      obtain ⟨⟨⟨a0, a1, a2⟩, a3, a4, a5⟩, a6, a7, a8⟩ := hec
      have hst := HStep.out
      rw [if_neg (by simp)] at hst
      have HSt := Lib.hid hst
      clear hst
      go_wp2_with fail
      go_roundw
      case rel => exact ⟨j + 1, uniP acc xp, by omega, by go_num, Lib.hid ⟨HF.out.1, HF.out.2.1, HF.out.2.2.1, HF.out.2.2.2, HSt.out⟩⟩
      case measure => simp [intOf]; omega
    · obtain rfl : j = ps.length := by omega
      have hst := HB.out.2.2.2.2
      rw [List.drop_length] at hst
      have hst : fstL false ps noSet = acc := hst
      have HSt := Lib.hid hst
      have HA1 : Hid (wr.heap[w.heap.size + 1]? = some (.cells (cl noSet) 25 (0, 0))) := Lib.hid HB.out.2.2.1
      have HA2 : Hid (wr.heap[w.heap.size + 1 + 1]? = some (.cells (cl acc) 25 (0, 0))) := Lib.hid HB.out.2.2.2.1
      clear hst
      go_wp2_with (first
        | (refine wpList_load_row rfl 25 _ rfl (w.heap.size + 1 + 1) rfl 25 (cl acc) (0, 0) _ HA2.out Try.underlying25 rfl info_cs ?_)
        | (refine wpList_store_row rfl 25 (.tmp 4) (.tmp 43) rfl (w.heap.size + 1) (cl acc) rfl rfl 25 _ HA1.out info_cs ((cl_size _).trans (cl_size _).symm) (cl_one _) ?_))
      rw [HSt.out]
      refine bodyPost_ret (v := .agg (cl acc)) (results_cell_row rfl _ _ (w.heap.size + 1) _ (cl acc) (0, 0) _ rfl (setRow_heap wr _ _ _ _ _ HA1.out) Try.underlying25 rfl info_cs) rfl ?_
      exact ⟨rfl, below_setRow HB.out.1 (by omega) _⟩
theorem first_3 (lo hi g : Int) (st : Nat → Bool) (args : F)  (ad : Option Addr) (cap : Nat) (ps : List ((Nat → Bool) × Bool)) (qad : Option Addr) (qcap : Nat) (n0 : Nat) (w : World) (h : PV 63 5 cells_g w n0 ps (.slice qad ps.length qcap)) (h6 : ps.length ≤ 600) :
    Calls Try.prog 63 #[.agg #[.int .i64 3, .int .u64 (wd st 0 64 : Nat), .int .u64 (wd st 64 64 : Nat), .int .u64 (wd st 128 64 : Nat), .int .u64 (wd st 192 64 : Nat), .int .i64 lo, .int .i64 hi, .int .i64 g, .slice ad args.len cap], .slice qad ps.length qcap] w fun e w' => e = .returned (.agg (cl (fstL true ps noSet))) ∧ Below w.heap.size w w' := by
  have hl' : (ps.length : Int) ≤ 600 := by omega
  obtain ⟨W2, hW2⟩ : ∃ W2, W2 = ((w.alloc (.cells #[.int .i64 3, .int .u64 (wd st 0 64 : Nat), .int .u64 (wd st 64 64 : Nat), .int .u64 (wd st 128 64 : Nat), .int .u64 (wd st 192 64 : Nat), .int .i64 lo, .int .i64 hi, .int .i64 g, .slice ad args.len cap] 28)).alloc (.cells #[.int .u64 0, .int .u64 0, .int .u64 0, .int .u64 0] 25)).alloc (.cells #[.int .u64 0, .int .u64 0, .int .u64 0, .int .u64 0] 25) := ⟨_, rfl⟩
  have hb : Below w.heap.size w W2 := by rw [hW2]; exact (((Below.refl _ _).alloc (Nat.le_refl _) _).alloc (by simp) _).alloc (by simp; omega) _
  have hz2 : W2.heap.size = w.heap.size + 1 + 1 + 1 := by rw [hW2]; simp
  have he : W2.heap[w.heap.size]? = some (.cells #[.int .i64 3, .int .u64 (wd st 0 64 : Nat), .int .u64 (wd st 64 64 : Nat), .int .u64 (wd st 128 64 : Nat), .int .u64 (wd st 192 64 : Nat), .int .i64 lo, .int .i64 hi, .int .i64 g, .slice ad args.len cap] 28 (0, 0)) := by
    rw [hW2, Below.heap_alloc _ _ _ (by simp; omega), Below.heap_alloc _ _ _ (by simp)]
    exact heap_alloc_new w _
  have hr : At W2 (w.heap.size + 1) noSet := by
    have := heap_alloc_new (w.alloc (.cells #[.int .i64 3, .int .u64 (wd st 0 64 : Nat), .int .u64 (wd st 64 64 : Nat), .int .u64 (wd st 128 64 : Nat), .int .u64 (wd st 192 64 : Nat), .int .i64 lo, .int .i64 hi, .int .i64 g, .slice ad args.len cap] 28)) (.cells #[.int .u64 0, .int .u64 0, .int .u64 0, .int .u64 0] 25)
    unfold At
    rw [show cl noSet = #[.int .u64 0, .int .u64 0, .int .u64 0, .int .u64 0] from cl_zero.symm, hW2, Below.heap_alloc _ _ _ (by simp)]
    simpa using this
  have hs : At W2 (w.heap.size + 1 + 1) noSet := by
    have := heap_alloc_new ((w.alloc (.cells #[.int .i64 3, .int .u64 (wd st 0 64 : Nat), .int .u64 (wd st 64 64 : Nat), .int .u64 (wd st 128 64 : Nat), .int .u64 (wd st 192 64 : Nat), .int .i64 lo, .int .i64 hi, .int .i64 g, .slice ad args.len cap] 28)).alloc (.cells #[.int .u64 0, .int .u64 0, .int .u64 0, .int .u64 0] 25)) (.cells #[.int .u64 0, .int .u64 0, .int .u64 0, .int .u64 0] 25)
    unfold At
    rw [show cl noSet = #[.int .u64 0, .int .u64 0, .int .u64 0, .int .u64 0] from cl_zero.symm, hW2]
    simpa using this
  have HP := Lib.hid h
  have HS0 := Lib.hid (And.intro hb (And.intro he (And.intro hr hs)))
  have HW2 := Lib.hid hW2
  clear h hb hz2 he hr hs hW2
  go_enter Try.func63, Try.ntmps63
  go_wp2_with fail
  go_loopw [26] (fun i wr => ∃ (j : Nat) (acc : Nat → Bool), j ≤ ps.length ∧ i = .int .i64 j ∧ Hid (Below w.heap.size w wr ∧ wr.heap[w.heap.size]? = some (.cells #[.int .i64 3, .int .u64 (wd st 0 64 : Nat), .int .u64 (wd st 64 64 : Nat), .int .u64 (wd st 128 64 : Nat), .int .u64 (wd st 192 64 : Nat), .int .i64 lo, .int .i64 hi, .int .i64 g, .slice ad args.len cap] 28 (0, 0)) ∧ At wr (w.heap.size + 1) noSet ∧ At wr (w.heap.size + 1 + 1) acc ∧ fstL true ps noSet = fstL true (ps.drop j) acc)) (fun i _ => ps.length - (intOf i).toNat)
  case atStart =>
    refine ⟨0, noSet, Nat.zero_le _, rfl, ?_⟩
    rw [← HW2.out]
    exact Lib.hid ⟨HS0.out.1, HS0.out.2.1, HS0.out.2.2.1, HS0.out.2.2.2, by rw [List.drop_zero]⟩
  case round =>
    obtain ⟨j, acc, hj, rfl, HB⟩ := hrel
    have hw3 : w.heap.size + 1 + 1 < wr.heap.size := HB.out.2.2.2.1.lt
    by_cases hjn : j < ps.length
    · have ki : (j : Int) < ps.length := by omega
      have ki0 : (0 : Int) ≤ j := by omega
      obtain ⟨q, c2, hs⟩ := own_more HP.out (by omega)
      cases hs
      have hpw : PV 63 5 cells_g wr n0 ps (.slice (some ⟨q, 0, none⟩) ps.length qcap) := HP.out.below HB.out.1
      have c0 := hpw.get clen_g j hjn 0 (by decide)
      have c1 := hpw.get clen_g j hjn 1 (by decide)
      have c2 := hpw.get clen_g j hjn 2 (by decide)
      have c3 := hpw.get clen_g j hjn 3 (by decide)
      have c4 := hpw.get clen_g j hjn 4 (by decide)
      have hstep := HB.out.2.2.2.2
      rw [List.drop_eq_getElem_cons hjn, fstL] at hstep
      generalize ps[j] = x at *
      obtain ⟨xp, xb⟩ := x
      replace c0 : wr.cell? ⟨q, j * 5, none⟩ = some (.int .u64 (wd xp 0 64 : Nat)) := c0
      replace c1 : wr.cell? ⟨q, j * 5 + 1, none⟩ = some (.int .u64 (wd xp 64 64 : Nat)) := c1
      replace c2 : wr.cell? ⟨q, j * 5 + 2, none⟩ = some (.int .u64 (wd xp 128 64 : Nat)) := c2
      replace c3 : wr.cell? ⟨q, j * 5 + 3, none⟩ = some (.int .u64 (wd xp 192 64 : Nat)) := c3
      replace c4 : wr.cell? ⟨q, j * 5 + 4, none⟩ = some (.bool xb) := c4
      have HUn : Hid (∀ W, Calls Try.prog 80 #[.agg (cl acc), .agg #[.int .u64 (wd xp 0 64 : Nat), .int .u64 (wd xp 64 64 : Nat), .int .u64 (wd xp 128 64 : Nat), .int .u64 (wd xp 192 64 : Nat)]] W fun e w' => e = .returned (.agg (cl (uniP acc xp))) ∧ Below W.heap.size W w') := Lib.hid (fun W => union_any acc xp W)
      have HStep := Lib.hid hstep
      clear hpw hstep
      go_upto_region 9 with fail
      have hbx : Below wr.heap.size wr (wr.alloc (.cells #[.int .u64 (wd xp 0 64 : Nat), .int .u64 (wd xp 64 64 : Nat), .int .u64 (wd xp 128 64 : Nat), .int .u64 (wd xp 192 64 : Nat), .bool xb] 63)) := (Below.refl _ _).alloc (Nat.le_refl _) _
      have hx := heap_alloc_new wr (.cells #[.int .u64 (wd xp 0 64 : Nat), .int .u64 (wd xp 64 64 : Nat), .int .u64 (wd xp 128 64 : Nat), .int .u64 (wd xp 192 64 : Nat), .bool xb] 63)
      generalize wr.alloc (.cells #[.int .u64 (wd xp 0 64 : Nat), .int .u64 (wd xp 64 64 : Nat), .int .u64 (wd xp 128 64 : Nat), .int .u64 (wd xp 192 64 : Nat), .bool xb] 63) = W at *
      have hAc : At W (w.heap.size + 1 + 1) acc := HB.out.2.2.2.1.below hbx hw3
      have d0 := cell_of_row W wr.heap.size 0 _ _ _ hx
      have d1 := cell_of_row W wr.heap.size 1 _ _ _ hx
      have d2 := cell_of_row W wr.heap.size 2 _ _ _ hx
      have d3 := cell_of_row W wr.heap.size 3 _ _ _ hx
      replace d0 : W.cell? ⟨wr.heap.size, 0, none⟩ = some (.int .u64 (wd xp 0 64 : Nat)) := d0
      replace d1 : W.cell? ⟨wr.heap.size, 1, none⟩ = some (.int .u64 (wd xp 64 64 : Nat)) := d1
      replace d2 : W.cell? ⟨wr.heap.size, 2, none⟩ = some (.int .u64 (wd xp 128 64 : Nat)) := d2
      replace d3 : W.cell? ⟨wr.heap.size, 3, none⟩ = some (.int .u64 (wd xp 192 64 : Nat)) := d3
      have HBx := Lib.hid hbx
      have HXx := Lib.hid hx
      have HAc := Lib.hid hAc
      clear c0 c1 c2 c3 c4 hbx hx hAc
      go_upto_region 10 with (first
        | (refine wpList_load_row rfl 25 _ rfl (w.heap.size + 1 + 1) rfl 25 (cl acc) (0, 0) _ HAc.out Try.underlying25 rfl info_cs ?_)
        | (go_at_call 80; (with_reducible refine (HUn.out _).mono ?_); rintro e w1 ⟨rfl, hb⟩
           have HB1 := Lib.hid hb
           have HA1 := Lib.hid (HAc.out.below hb HAc.out.lt)
           clear hb d0 d1 d2 d3)
        | (refine wpList_store_row rfl 25 (.tmp 5) (.tmp 33) rfl (w.heap.size + 1 + 1) (cl (uniP acc xp)) rfl rfl 25 _ HA1.out info_cs ((cl_size _).trans (cl_size _).symm) (cl_one _) ?_))
      have hsz := HBx.out.size
      have HF : Hid (Below w.heap.size w (w1.setRow (w.heap.size + 1 + 1) (cl (uniP acc xp))) ∧ (w1.setRow (w.heap.size + 1 + 1) (cl (uniP acc xp))).heap[w.heap.size]? = some (.cells #[.int .i64 3, .int .u64 (wd st 0 64 : Nat), .int .u64 (wd st 64 64 : Nat), .int .u64 (wd st 128 64 : Nat), .int .u64 (wd st 192 64 : Nat), .int .i64 lo, .int .i64 hi, .int .i64 g, .slice ad args.len cap] 28 (0, 0)) ∧ At (w1.setRow (w.heap.size + 1 + 1) (cl (uniP acc xp))) (w.heap.size + 1) noSet ∧ At (w1.setRow (w.heap.size + 1 + 1) (cl (uniP acc xp))) (w.heap.size + 1 + 1) (uniP acc xp)) := by
        have hb1 := HBx.out.trans (HB1.out.mono HBx.out.size)
        refine Lib.hid ⟨below_setRow (HB.out.1.trans (hb1.mono HB.out.1.size)) (by omega) _, ?_, ?_, HA1.out.set _⟩
        · rw [setRow_other _ _ _ _ (by omega)]
          exact (hb1.block w.heap.size (by omega)).trans HB.out.2.1
        · exact (HB.out.2.2.1.below hb1 (by omega)).other _ (by omega)
      have hxc : (w1.setRow (w.heap.size + 1 + 1) (cl (uniP acc xp))).cell? ⟨wr.heap.size, 4, none⟩ = some (.bool xb) := by
        rw [cell_same (setRow_other w1 (w.heap.size + 1 + 1) wr.heap.size _ (by omega)), cell_same (HB1.out.block wr.heap.size (Array.getElem?_eq_some_iff.1 HXx.out).1)]
        exact cell_of_row W wr.heap.size 4 _ _ _ HXx.out
      have hec := nine HF.out.2.1
      clear hsz
      generalize w1.setRow (w.heap.size + 1 + 1) (cl (uniP acc xp)) = W3 at *
      obtain ⟨⟨⟨a0, a1, a2⟩, a3, a4, a5⟩, a6, a7, a8⟩ := hec
      cases xb with
      | false =>
        have hst := HStep.out
        rw [if_pos (by rfl)] at hst
        have HSt := Lib.hid hst
        clear hst
        go_wp2_with (first
          | (refine wpList_load_row rfl 25 _ rfl (w.heap.size + 1 + 1) rfl 25 (cl (uniP acc xp)) (0, 0) _ HF.out.2.2.2 Try.underlying25 rfl info_cs ?_)
          | (refine wpList_store_row rfl 25 (.tmp 4) (.tmp 43) rfl (w.heap.size + 1) (cl (uniP acc xp)) rfl rfl 25 _ HF.out.2.2.1 info_cs ((cl_size _).trans (cl_size _).symm) (cl_one _) ?_))
        rw [HSt.out]
        refine bodyPost_ret (v := .agg (cl (uniP acc xp))) (results_cell_row rfl _ _ (w.heap.size + 1) _ (cl (uniP acc xp)) (0, 0) _ rfl (setRow_heap W3 _ _ _ _ _ HF.out.2.2.1) Try.underlying25 rfl info_cs) rfl ?_
        exact ⟨rfl, below_setRow HF.out.1 (by omega) _⟩
      | true =>
        have hst := HStep.out
        rw [if_neg (by decide)] at hst
        have HSt := Lib.hid hst
        clear hst
        go_wp2_with fail
        go_roundw
        case rel => exact ⟨j + 1, uniP acc xp, by omega, by go_num, Lib.hid ⟨HF.out.1, HF.out.2.1, HF.out.2.2.1, HF.out.2.2.2, HSt.out⟩⟩
        case measure => simp [intOf]; omega
    · obtain rfl : j = ps.length := by omega
      have hst := HB.out.2.2.2.2
      rw [List.drop_length] at hst
      have hst : fstL true ps noSet = acc := hst
      have HSt := Lib.hid hst
      have HA1 : Hid (wr.heap[w.heap.size + 1]? = some (.cells (cl noSet) 25 (0, 0))) := Lib.hid HB.out.2.2.1
      have HA2 : Hid (wr.heap[w.heap.size + 1 + 1]? = some (.cells (cl acc) 25 (0, 0))) := Lib.hid HB.out.2.2.2.1
      clear hst
      go_wp2_with (first
        | (refine wpList_load_row rfl 25 _ rfl (w.heap.size + 1 + 1) rfl 25 (cl acc) (0, 0) _ HA2.out Try.underlying25 rfl info_cs ?_)
        | (refine wpList_store_row rfl 25 (.tmp 4) (.tmp 43) rfl (w.heap.size + 1) (cl acc) rfl rfl 25 _ HA1.out info_cs ((cl_size _).trans (cl_size _).symm) (cl_one _) ?_))
      rw [HSt.out]
      refine bodyPost_ret (v := .agg (cl acc)) (results_cell_row rfl _ _ (w.heap.size + 1) _ (cl acc) (0, 0) _ rfl (setRow_heap wr _ _ _ _ _ HA1.out) Try.underlying25 rfl info_cs) rfl ?_
      exact ⟨rfl, below_setRow HB.out.1 (by omega) _⟩
theorem first_x (op lo hi g : Int) (st : Nat → Bool) (args : F) (e2 : (op == 2) = false) (o2 : ¬ op = 2) (e3 : (op == 3) = false) (o3 : ¬ op = 3) (e5 : (op == 5) = false) (o5 : ¬ op = 5) (ad : Option Addr) (cap : Nat) (ps : List ((Nat → Bool) × Bool)) (qad : Option Addr) (qcap : Nat) (n0 : Nat) (w : World) (h : PV 63 5 cells_g w n0 ps (.slice qad ps.length qcap)) (h6 : ps.length ≤ 600) :
    Calls Try.prog 63 #[.agg #[.int .i64 op, .int .u64 (wd st 0 64 : Nat), .int .u64 (wd st 64 64 : Nat), .int .u64 (wd st 128 64 : Nat), .int .u64 (wd st 192 64 : Nat), .int .i64 lo, .int .i64 hi, .int .i64 g, .slice ad args.len cap], .slice qad ps.length qcap] w fun e w' => e = .returned (.agg (cl (fstL false ps noSet))) ∧ Below w.heap.size w w' := by
  have hl' : (ps.length : Int) ≤ 600 := by omega
  obtain ⟨W2, hW2⟩ : ∃ W2, W2 = ((w.alloc (.cells #[.int .i64 op, .int .u64 (wd st 0 64 : Nat), .int .u64 (wd st 64 64 : Nat), .int .u64 (wd st 128 64 : Nat), .int .u64 (wd st 192 64 : Nat), .int .i64 lo, .int .i64 hi, .int .i64 g, .slice ad args.len cap] 28)).alloc (.cells #[.int .u64 0, .int .u64 0, .int .u64 0, .int .u64 0] 25)).alloc (.cells #[.int .u64 0, .int .u64 0, .int .u64 0, .int .u64 0] 25) := ⟨_, rfl⟩
  have hb : Below w.heap.size w W2 := by rw [hW2]; exact (((Below.refl _ _).alloc (Nat.le_refl _) _).alloc (by simp) _).alloc (by simp; omega) _
  have hz2 : W2.heap.size = w.heap.size + 1 + 1 + 1 := by rw [hW2]; simp
  have he : W2.heap[w.heap.size]? = some (.cells #[.int .i64 op, .int .u64 (wd st 0 64 : Nat), .int .u64 (wd st 64 64 : Nat), .int .u64 (wd st 128 64 : Nat), .int .u64 (wd st 192 64 : Nat), .int .i64 lo, .int .i64 hi, .int .i64 g, .slice ad args.len cap] 28 (0, 0)) := by
    rw [hW2, Below.heap_alloc _ _ _ (by simp; omega), Below.heap_alloc _ _ _ (by simp)]
    exact heap_alloc_new w _
  have hr : At W2 (w.heap.size + 1) noSet := by
    have := heap_alloc_new (w.alloc (.cells #[.int .i64 op, .int .u64 (wd st 0 64 : Nat), .int .u64 (wd st 64 64 : Nat), .int .u64 (wd st 128 64 : Nat), .int .u64 (wd st 192 64 : Nat), .int .i64 lo, .int .i64 hi, .int .i64 g, .slice ad args.len cap] 28)) (.cells #[.int .u64 0, .int .u64 0, .int .u64 0, .int .u64 0] 25)
    unfold At
    rw [show cl noSet = #[.int .u64 0, .int .u64 0, .int .u64 0, .int .u64 0] from cl_zero.symm, hW2, Below.heap_alloc _ _ _ (by simp)]
    simpa using this
  have hs : At W2 (w.heap.size + 1 + 1) noSet := by
    have := heap_alloc_new ((w.alloc (.cells #[.int .i64 op, .int .u64 (wd st 0 64 : Nat), .int .u64 (wd st 64 64 : Nat), .int .u64 (wd st 128 64 : Nat), .int .u64 (wd st 192 64 : Nat), .int .i64 lo, .int .i64 hi, .int .i64 g, .slice ad args.len cap] 28)).alloc (.cells #[.int .u64 0, .int .u64 0, .int .u64 0, .int .u64 0] 25)) (.cells #[.int .u64 0, .int .u64 0, .int .u64 0, .int .u64 0] 25)
    unfold At
    rw [show cl noSet = #[.int .u64 0, .int .u64 0, .int .u64 0, .int .u64 0] from cl_zero.symm, hW2]
    simpa using this
  have HP := Lib.hid h
  have HS0 := Lib.hid (And.intro hb (And.intro he (And.intro hr hs)))
  have HW2 := Lib.hid hW2
  clear h hb hz2 he hr hs hW2
  go_enter Try.func63, Try.ntmps63
  go_wp2_with fail
  go_loopw [26] (fun i wr => ∃ (j : Nat) (acc : Nat → Bool), j ≤ ps.length ∧ i = .int .i64 j ∧ Hid (Below w.heap.size w wr ∧ wr.heap[w.heap.size]? = some (.cells #[.int .i64 op, .int .u64 (wd st 0 64 : Nat), .int .u64 (wd st 64 64 : Nat), .int .u64 (wd st 128 64 : Nat), .int .u64 (wd st 192 64 : Nat), .int .i64 lo, .int .i64 hi, .int .i64 g, .slice ad args.len cap] 28 (0, 0)) ∧ At wr (w.heap.size + 1) noSet ∧ At wr (w.heap.size + 1 + 1) acc ∧ fstL false ps noSet = fstL false (ps.drop j) acc)) (fun i _ => ps.length - (intOf i).toNat)
  case atStart =>
    refine ⟨0, noSet, Nat.zero_le _, rfl, ?_⟩
    rw [← HW2.out]
    exact Lib.hid ⟨HS0.out.1, HS0.out.2.1, HS0.out.2.2.1, HS0.out.2.2.2, by rw [List.drop_zero]⟩
  case round =>
    obtain ⟨j, acc, hj, rfl, HB⟩ := hrel
    have hw3 : w.heap.size + 1 + 1 < wr.heap.size := HB.out.2.2.2.1.lt
    by_cases hjn : j < ps.length
    · have ki : (j : Int) < ps.length := by omega
      have ki0 : (0 : Int) ≤ j := by omega
      obtain ⟨q, c2, hs⟩ := own_more HP.out (by omega)
      cases hs
      have hpw : PV 63 5 cells_g wr n0 ps (.slice (some ⟨q, 0, none⟩) ps.length qcap) := HP.out.below HB.out.1
      have c0 := hpw.get clen_g j hjn 0 (by decide)
      have c1 := hpw.get clen_g j hjn 1 (by decide)
      have c2 := hpw.get clen_g j hjn 2 (by decide)
      have c3 := hpw.get clen_g j hjn 3 (by decide)
      have c4 := hpw.get clen_g j hjn 4 (by decide)
      have hstep := HB.out.2.2.2.2
      rw [List.drop_eq_getElem_cons hjn, fstL] at hstep
      generalize ps[j] = x at *
      obtain ⟨xp, xb⟩ := x
      replace c0 : wr.cell? ⟨q, j * 5, none⟩ = some (.int .u64 (wd xp 0 64 : Nat)) := c0
      replace c1 : wr.cell? ⟨q, j * 5 + 1, none⟩ = some (.int .u64 (wd xp 64 64 : Nat)) := c1
      replace c2 : wr.cell? ⟨q, j * 5 + 2, none⟩ = some (.int .u64 (wd xp 128 64 : Nat)) := c2
      replace c3 : wr.cell? ⟨q, j * 5 + 3, none⟩ = some (.int .u64 (wd xp 192 64 : Nat)) := c3
      replace c4 : wr.cell? ⟨q, j * 5 + 4, none⟩ = some (.bool xb) := c4
      have HUn : Hid (∀ W, Calls Try.prog 80 #[.agg (cl acc), .agg #[.int .u64 (wd xp 0 64 : Nat), .int .u64 (wd xp 64 64 : Nat), .int .u64 (wd xp 128 64 : Nat), .int .u64 (wd xp 192 64 : Nat)]] W fun e w' => e = .returned (.agg (cl (uniP acc xp))) ∧ Below W.heap.size W w') := Lib.hid (fun W => union_any acc xp W)
      have HStep := Lib.hid hstep
      clear hpw hstep
      go_upto_region 9 with fail
      have hbx : Below wr.heap.size wr (wr.alloc (.cells #[.int .u64 (wd xp 0 64 : Nat), .int .u64 (wd xp 64 64 : Nat), .int .u64 (wd xp 128 64 : Nat), .int .u64 (wd xp 192 64 : Nat), .bool xb] 63)) := (Below.refl _ _).alloc (Nat.le_refl _) _
      have hx := heap_alloc_new wr (.cells #[.int .u64 (wd xp 0 64 : Nat), .int .u64 (wd xp 64 64 : Nat), .int .u64 (wd xp 128 64 : Nat), .int .u64 (wd xp 192 64 : Nat), .bool xb] 63)
      generalize wr.alloc (.cells #[.int .u64 (wd xp 0 64 : Nat), .int .u64 (wd xp 64 64 : Nat), .int .u64 (wd xp 128 64 : Nat), .int .u64 (wd xp 192 64 : Nat), .bool xb] 63) = W at *
      have hAc : At W (w.heap.size + 1 + 1) acc := HB.out.2.2.2.1.below hbx hw3
      have d0 := cell_of_row W wr.heap.size 0 _ _ _ hx
      have d1 := cell_of_row W wr.heap.size 1 _ _ _ hx
      have d2 := cell_of_row W wr.heap.size 2 _ _ _ hx
      have d3 := cell_of_row W wr.heap.size 3 _ _ _ hx
      replace d0 : W.cell? ⟨wr.heap.size, 0, none⟩ = some (.int .u64 (wd xp 0 64 : Nat)) := d0
      replace d1 : W.cell? ⟨wr.heap.size, 1, none⟩ = some (.int .u64 (wd xp 64 64 : Nat)) := d1
      replace d2 : W.cell? ⟨wr.heap.size, 2, none⟩ = some (.int .u64 (wd xp 128 64 : Nat)) := d2
      replace d3 : W.cell? ⟨wr.heap.size, 3, none⟩ = some (.int .u64 (wd xp 192 64 : Nat)) := d3
      have HBx := Lib.hid hbx
      have HXx := Lib.hid hx
      have HAc := Lib.hid hAc
      clear c0 c1 c2 c3 c4 hbx hx hAc
      go_upto_region 10 with (first
        | (refine wpList_load_row rfl 25 _ rfl (w.heap.size + 1 + 1) rfl 25 (cl acc) (0, 0) _ HAc.out Try.underlying25 rfl info_cs ?_)
        | (go_at_call 80; (with_reducible refine (HUn.out _).mono ?_); rintro e w1 ⟨rfl, hb⟩
           have HB1 := Lib.hid hb
           have HA1 := Lib.hid (HAc.out.below hb HAc.out.lt)
           clear hb d0 d1 d2 d3)
        | (refine wpList_store_row rfl 25 (.tmp 5) (.tmp 33) rfl (w.heap.size + 1 + 1) (cl (uniP acc xp)) rfl rfl 25 _ HA1.out info_cs ((cl_size _).trans (cl_size _).symm) (cl_one _) ?_))
      have hsz := HBx.out.size
      have HF : Hid (Below w.heap.size w (w1.setRow (w.heap.size + 1 + 1) (cl (uniP acc xp))) ∧ (w1.setRow (w.heap.size + 1 + 1) (cl (uniP acc xp))).heap[w.heap.size]? = some (.cells #[.int .i64 op, .int .u64 (wd st 0 64 : Nat), .int .u64 (wd st 64 64 : Nat), .int .u64 (wd st 128 64 : Nat), .int .u64 (wd st 192 64 : Nat), .int .i64 lo, .int .i64 hi, .int .i64 g, .slice ad args.len cap] 28 (0, 0)) ∧ At (w1.setRow (w.heap.size + 1 + 1) (cl (uniP acc xp))) (w.heap.size + 1) noSet ∧ At (w1.setRow (w.heap.size + 1 + 1) (cl (uniP acc xp))) (w.heap.size + 1 + 1) (uniP acc xp)) := by
        have hb1 := HBx.out.trans (HB1.out.mono HBx.out.size)
        refine Lib.hid ⟨below_setRow (HB.out.1.trans (hb1.mono HB.out.1.size)) (by omega) _, ?_, ?_, HA1.out.set _⟩
        · rw [setRow_other _ _ _ _ (by omega)]
          exact (hb1.block w.heap.size (by omega)).trans HB.out.2.1
        · exact (HB.out.2.2.1.below hb1 (by omega)).other _ (by omega)
      have hxc : (w1.setRow (w.heap.size + 1 + 1) (cl (uniP acc xp))).cell? ⟨wr.heap.size, 4, none⟩ = some (.bool xb) := by
        rw [cell_same (setRow_other w1 (w.heap.size + 1 + 1) wr.heap.size _ (by omega)), cell_same (HB1.out.block wr.heap.size (Array.getElem?_eq_some_iff.1 HXx.out).1)]
        exact cell_of_row W wr.heap.size 4 _ _ _ HXx.out
      have hec := nine HF.out.2.1
      clear hsz
      generalize w1.setRow (w.heap.size + 1 + 1) (cl (uniP acc xp)) = W3 at *
      obtain ⟨⟨⟨a0, a1, a2⟩, a3, a4, a5⟩, a6, a7, a8⟩ := hec
      have hst := HStep.out
      rw [if_neg (by simp)] at hst
      have HSt := Lib.hid hst
      clear hst
      go_wp2_with fail
      go_roundw
      case rel => exact ⟨j + 1, uniP acc xp, by omega, by go_num, Lib.hid ⟨HF.out.1, HF.out.2.1, HF.out.2.2.1, HF.out.2.2.2, HSt.out⟩⟩
      case measure => simp [intOf]; omega
    · obtain rfl : j = ps.length := by omega
      have hst := HB.out.2.2.2.2
      rw [List.drop_length] at hst
      have hst : fstL false ps noSet = acc := hst
      have HSt := Lib.hid hst
      have HA1 : Hid (wr.heap[w.heap.size + 1]? = some (.cells (cl noSet) 25 (0, 0))) := Lib.hid HB.out.2.2.1
      have HA2 : Hid (wr.heap[w.heap.size + 1 + 1]? = some (.cells (cl acc) 25 (0, 0))) := Lib.hid HB.out.2.2.2.1
      clear hst
      go_wp2_with (first
        | (refine wpList_load_row rfl 25 _ rfl (w.heap.size + 1 + 1) rfl 25 (cl acc) (0, 0) _ HA2.out Try.underlying25 rfl info_cs ?_)
        | (refine wpList_store_row rfl 25 (.tmp 4) (.tmp 43) rfl (w.heap.size + 1) (cl acc) rfl rfl 25 _ HA1.out info_cs ((cl_size _).trans (cl_size _).symm) (cl_one _) ?_))
      rw [HSt.out]
      refine bodyPost_ret (v := .agg (cl acc)) (results_cell_row rfl _ _ (w.heap.size + 1) _ (cl acc) (0, 0) _ rfl (setRow_heap wr _ _ _ _ _ HA1.out) Try.underlying25 rfl info_cs) rfl ?_
      exact ⟨rfl, below_setRow HB.out.1 (by omega) _⟩
theorem first_any (t : TN) (ad : Option Addr) (cap : Nat) (ps : List ((Nat → Bool) × Bool)) (pv : Value) (n0 : Nat) (w : World) (h : PV 63 5 cells_g w n0 ps pv) (h6 : ps.length ≤ 600) :
    Calls Try.prog 63 #[.agg #[.int .i64 t.op, .int .u64 (wd t.st 0 64 : Nat), .int .u64 (wd t.st 64 64 : Nat), .int .u64 (wd t.st 128 64 : Nat), .int .u64 (wd t.st 192 64 : Nat), .int .i64 t.lo, .int .i64 t.hi, .int .i64 t.g, .slice ad t.args.len cap], pv] w fun e w' => e = .returned (.agg (cl (fstT t ps))) ∧ Below w.heap.size w w' := by
  obtain ⟨qad, qcap, rfl⟩ := own_sl h
  obtain ⟨op, st, lo, hi, g, args⟩ := t
  dsimp only
  have hl' : (ps.length : Int) ≤ 600 := by omega
  by_cases o2 : op = 2
  · subst o2
    clear h
    go_enter Try.func63, Try.ntmps63
    go_wp2_with fail
    refine bodyPost_ret (v := .agg (cl st)) (results_cell_row rfl _ _ (w.heap.size + 1) _ (cl st) (0, 0) _ rfl (by have := heap_alloc_new (w.alloc (.cells #[.int .i64 2, .int .u64 (wd st 0 64 : Nat), .int .u64 (wd st 64 64 : Nat), .int .u64 (wd st 128 64 : Nat), .int .u64 (wd st 192 64 : Nat), .int .i64 lo, .int .i64 hi, .int .i64 g, .slice ad args.len cap] 28)) (.cells (cl st) 25); rw [show ∀ o, (w.alloc o).heap.size = w.heap.size + 1 from fun o => by simp] at this; exact this) Try.underlying25 rfl info_cs) rfl ?_
    exact ⟨rfl, ((Below.refl _ _).alloc (Nat.le_refl _) _).alloc (by simp) _⟩
  have e2 : (op == 2) = false := by simpa using o2
  by_cases oh : op = 5 ∧ hi = 0
  · obtain ⟨rfl, rfl⟩ := oh
    have hz : fstT ⟨5, st, lo, 0, g, args⟩ ps = noSet := by simp [fstT]
    rw [hz]
    have HZ0 : Hid (cl noSet = #[.int .u64 0, .int .u64 0, .int .u64 0, .int .u64 0]) := Lib.hid (cl_zero).symm
    clear h hz
    go_enter Try.func63, Try.ntmps63
    go_wp2_with fail
    rw [HZ0.out]
    refine bodyPost_ret (v := .agg #[.int .u64 0, .int .u64 0, .int .u64 0, .int .u64 0]) (results_cell_row rfl _ _ (w.heap.size + 1) _ #[.int .u64 0, .int .u64 0, .int .u64 0, .int .u64 0] (0, 0) _ rfl (by have := heap_alloc_new (w.alloc (.cells #[.int .i64 5, .int .u64 (wd st 0 64 : Nat), .int .u64 (wd st 64 64 : Nat), .int .u64 (wd st 128 64 : Nat), .int .u64 (wd st 192 64 : Nat), .int .i64 lo, .int .i64 0, .int .i64 g, .slice ad args.len cap] 28)) (.cells #[.int .u64 0, .int .u64 0, .int .u64 0, .int .u64 0] 25); simpa using this) Try.underlying25 rfl info_cs) rfl ?_
    exact ⟨rfl, ((Below.refl _ _).alloc (Nat.le_refl _) _).alloc (by simp) _⟩
  have hfs : fstT ⟨op, st, lo, hi, g, args⟩ ps = fstL (decide (op = 3)) ps noSet := by unfold fstT; rw [if_neg o2, if_neg oh]
  rw [hfs]
  by_cases o5 : op = 5
  · subst o5
    have hz : ¬ hi = 0 := fun k => oh ⟨rfl, k⟩
    exact first_5 lo hi g st args (by simpa using hz) hz ad cap ps qad qcap n0 w h h6
  by_cases o3 : op = 3
  · subst o3
    exact first_3 lo hi g st args ad cap ps qad qcap n0 w h h6
  have e3 : decide (op = 3) = false := by simpa using o3
  rw [e3]
  exact first_x op lo hi g st args e2 o2 (by simpa using o3) o3 (by simpa using o5) o5 ad cap ps qad qcap n0 w h h6
end Go.Proofs.Ytpfbpgbgedbalaa
