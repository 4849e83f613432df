/- LpCheck. -/
import Derived.Test.YtphiaagppcbefaaGreatDoorRows
import Derived.Test.YtphiaagppcbefaaGreatDoorPs2
set_option linter.unusedVariables false
namespace Go.Proofs.YtphiaagppcbefaaGreatDoor
open Go.RowKit
set_option maxRecDepth 100000 in
set_option maxHeartbeats 4000000 in
theorem pCheckClasses_any (n : Nat) (f : Nat → Nat → Value) (c : Nat → ByteArray) (u : Nat → Nat → Int) (hc : ∀ j, f j 0 = .string (c j)) (hu : ∀ j i, f j (i + 1) = .int .u64 (u j i)) (sv : Value) (w : World) (hS : SL 5 n f w sv) :
    Calls Tryz.prog 162 #[sv] w fun e w' => e = .returned (.int .i64 (clsErr n c)) ∧ Below w.heap.size w w' := by
  have hmf : ∀ (fn : Fn) (first cap : Array Value) (w : World), (Instr.makeFunc fn first cap).run Tryz.prog w = .ok (.func fn first cap) w := fun _ _ _ _ => rfl
  obtain ⟨R, hR⟩ : ∃ R, R = clsErr n c := ⟨_, rfl⟩
  rw [← hR]
  have HSL := Lib.hid hS
  obtain ⟨a, cap, rfl, hcap, hcells⟩ := hS
  have hcapi : (n : Int) ≤ cap := by omega
  by_cases hn : n ≤ 24
  · have hR1 : R = firstErr (clsAt c) n := by rw [hR]; unfold clsErr; rw [if_pos hn]
    have HR := Lib.hid hR1
    clear hR hR1
    have i24 : ¬ (24 : Int) < n := by omega
    have hn24 : (n : Int) ≤ 24 := by omega
    rcases hcells with h0 | ⟨b, off, rfl, hlt, hcells⟩
    · subst h0
      have HN : Hid (R = 0) := HR.out
      go_enter Tryz.func162, Tryz.ntmps162
      go_wp2
      go_loopw [10] (fun i wr => i = .int .i64 0 ∧ wr = w) (fun _ _ => 0)
      case atStart => exact ⟨rfl, rfl⟩
      case round =>
        obtain ⟨rfl, rfl⟩ := hrel
        go_wp2
        go_ret
        exact ⟨by rw [HN.out] <;> rfl, Below.refl _ _⟩
    · have HC := Lib.hid hcells
      have HLt := Lib.hid hlt
      clear hcells hlt
      go_enter Tryz.func162, Tryz.ntmps162
      go_wp2
      go_loopw [10] (fun i wr => ∃ k : Nat, k ≤ n ∧ i = .int .i64 k ∧ Hid (firstErr (clsAt c) k = 0) ∧ Hid (Below w.heap.size w wr)) (fun i _ => n - (intOf i).toNat)
      case atStart => exact ⟨0, Nat.zero_le _, rfl, rfl, Below.refl _ _⟩
      case round =>
        obtain ⟨k, hk, rfl, HE, HB⟩ := hrel
        by_cases hin : k < n
        · have ii : (k : Int) < n := by omega
          have ii0 : (0 : Int) ≤ k := by omega
          have iic : (k : Int) ≤ cap := by omega
          have ck0 : wr.cell? ⟨b, off + k * 5, none⟩ = some (f k 0) := by
            rw [HB.out.cell (by exact HLt.out)]
            exact HC.out k 0 hin (by decide)
          have ck1 : wr.cell? ⟨b, off + k * 5 + 1, none⟩ = some (f k 1) := by
            rw [HB.out.cell (by exact HLt.out)]
            exact HC.out k 1 hin (by decide)
          have ck2 : wr.cell? ⟨b, off + k * 5 + 2, none⟩ = some (f k 2) := by
            rw [HB.out.cell (by exact HLt.out)]
            exact HC.out k 2 hin (by decide)
          have ck3 : wr.cell? ⟨b, off + k * 5 + 3, none⟩ = some (f k 3) := by
            rw [HB.out.cell (by exact HLt.out)]
            exact HC.out k 3 hin (by decide)
          have ck4 : wr.cell? ⟨b, off + k * 5 + 4, none⟩ = some (f k 4) := by
            rw [HB.out.cell (by exact HLt.out)]
            exact HC.out k 4 hin (by decide)
          rw [hc k] at ck0
          rw [hu k 0] at ck1
          rw [hu k 1] at ck2
          rw [hu k 2] at ck3
          rw [hu k 3] at ck4
          have hbn : Below wr.heap.size wr (wr.alloc (.cells #[.string (c k), .int .u64 (u k 0), .int .u64 (u k 1), .int .u64 (u k 2), .int .u64 (u k 3)] 109)) := (Below.refl _ _).alloc (Nat.le_refl _) _
          have HBn := Lib.hid hbn
          have HD := Lib.hid (conCls_any k f c hc (.slice (some ⟨b, off, none⟩) k cap) (c k) wr.heap.size (wr.alloc (.cells #[.string (c k), .int .u64 (u k 0), .int .u64 (u k 1), .int .u64 (u k 2), .int .u64 (u k 3)] 109)) (((HSL.out.below HB.out).upto (Nat.le_of_lt hin)).below hbn) (by omega) (by simp) (by
            rw [cell_of_row _ wr.heap.size 0 _ _ (0, 0) (heap_alloc_new wr _)]
            rfl))
          rw [any_dup] at HD
          clear hbn
          generalize u k 0 = x1 at *
          generalize u k 1 = x2 at *
          generalize u k 2 = x3 at *
          generalize u k 3 = x4 at *
          have HNm := Lib.hid (pIsName_any (c k))
          obtain ⟨B, hB⟩ : ∃ B, nmB (c k) = B := ⟨_, rfl⟩
          obtain ⟨D, hD⟩ : ∃ D, dup c k = D := ⟨_, rfl⟩
          rw [hB] at HNm
          rw [hD] at HD
          have HBv := Lib.hid hB
          have HDv := Lib.hid hD
          clear hB hD
          rcases bool_tf B with hb | hb
          · subst hb
            rcases bool_tf D with hd | hd
            · subst hd
              have HF : Hid (clsAt c k = 6) := by
                show clsAt c k = 6
                unfold clsAt
                rw [if_pos HBv.out, if_pos HDv.out]
              have HN : Hid (R = 6) := by
                have h6 : clsAt c k ≠ 0 := by rw [HF.out]; decide
                exact HR.out.trans ((firstErr_stop _ k n HE.out h6 hin).trans HF.out)
              go_wp2_with (first
                | (go_at_call 159; refine (HNm.out _).mono ?_; rintro e w1 ⟨rfl, rfl⟩)
                | (go_at_call 172; refine HD.out.mono ?_; rintro e w1 ⟨rfl, hb⟩; have HB1 := Lib.hid ((HB.out.trans (HBn.out.mono HB.out.size)).trans (hb.mono (by have := HB.out.size; simp; omega))); clear hb))
              go_ret
              exact ⟨by rw [HN.out] <;> rfl, HB1.out⟩
            · subst hd
              have HF : Hid (clsAt c k = 0) := by
                show clsAt c k = 0
                unfold clsAt
                rw [if_pos HBv.out, if_neg (by rw [HDv.out]; decide)]
              go_wp2_with (first
                | (go_at_call 159; refine (HNm.out _).mono ?_; rintro e w1 ⟨rfl, rfl⟩)
                | (go_at_call 172; refine HD.out.mono ?_; rintro e w1 ⟨rfl, hb⟩; have HB1 := Lib.hid ((HB.out.trans (HBn.out.mono HB.out.size)).trans (hb.mono (by have := HB.out.size; simp; omega))); clear hb))
              go_roundw
              case rel => exact ⟨k + 1, by omega, by go_num, (firstErr_next _ k HE.out).trans HF.out, HB1.out⟩
              case measure => simp [intOf]; omega
          · subst hb
            have HF : Hid (clsAt c k = 4) := by
              show clsAt c k = 4
              unfold clsAt
              rw [if_neg (by rw [HBv.out]; decide)]
            have HN : Hid (R = 4) := by
              have h4 : clsAt c k ≠ 0 := by rw [HF.out]; decide
              exact HR.out.trans ((firstErr_stop _ k n HE.out h4 hin).trans HF.out)
            go_wp2_with (first
              | (go_at_call 159; refine (HNm.out _).mono ?_; rintro e w1 ⟨rfl, rfl⟩))
            go_ret
            exact ⟨by rw [HN.out] <;> rfl, HB.out.trans (HBn.out.mono HB.out.size)⟩
        · obtain rfl : k = n := by omega
          go_wp2
          go_ret
          exact ⟨by rw [HR.out, HE.out] <;> rfl, HB.out⟩
  · have hR1 : R = 3 := by rw [hR]; unfold clsErr; rw [if_neg hn]
    have i24 : (24 : Int) < n := by omega
    subst hR1
    clear hR hcells
    go_enter Tryz.func162, Tryz.ntmps162
    go_wp2
    go_ret
    exact ⟨rfl, Below.refl _ _⟩
set_option maxRecDepth 100000 in
set_option maxHeartbeats 4000000 in
theorem pCheckElements_any (n : Nat) (f : Nat → Nat → Value) (c : Nat → ByteArray) (x : Nat → Int) (hc : ∀ j, f j 0 = .string (c j)) (hx : ∀ j, f j 1 = .int .i64 (x j)) (sv : Value) (w : World) (hS : SL 2 n f w sv) :
    Calls Tryz.prog 163 #[sv] w fun e w' => e = .returned (.int .i64 (elmErr n c x)) ∧ Below w.heap.size w w' := by
  have hmf : ∀ (fn : Fn) (first cap : Array Value) (w : World), (Instr.makeFunc fn first cap).run Tryz.prog w = .ok (.func fn first cap) w := fun _ _ _ _ => rfl
  obtain ⟨R, hR⟩ : ∃ R, R = elmErr n c x := ⟨_, rfl⟩
  rw [← hR]
  have HSL := Lib.hid hS
  obtain ⟨a, cap, rfl, hcap, hcells⟩ := hS
  have hcapi : (n : Int) ≤ cap := by omega
  by_cases hn : n ≤ 64
  · have hR1 : R = firstErr (elmAt c x) n := by rw [hR]; unfold elmErr; rw [if_pos hn]
    have HR := Lib.hid hR1
    clear hR hR1
    have i24 : ¬ (64 : Int) < n := by omega
    have hn24 : (n : Int) ≤ 64 := by omega
    rcases hcells with h0 | ⟨b, off, rfl, hlt, hcells⟩
    · subst h0
      have HN : Hid (R = 0) := HR.out
      go_enter Tryz.func163, Tryz.ntmps163
      go_wp2
      go_loopw [10] (fun i wr => i = .int .i64 0 ∧ wr = w) (fun _ _ => 0)
      case atStart => exact ⟨rfl, rfl⟩
      case round =>
        obtain ⟨rfl, rfl⟩ := hrel
        go_wp2
        go_ret
        exact ⟨by rw [HN.out] <;> rfl, Below.refl _ _⟩
    · have HC := Lib.hid hcells
      have HLt := Lib.hid hlt
      clear hcells hlt
      go_enter Tryz.func163, Tryz.ntmps163
      go_wp2
      go_loopw [10] (fun i wr => ∃ k : Nat, k ≤ n ∧ i = .int .i64 k ∧ Hid (firstErr (elmAt c x) k = 0) ∧ Hid (Below w.heap.size w wr)) (fun i _ => n - (intOf i).toNat)
      case atStart => exact ⟨0, Nat.zero_le _, rfl, rfl, Below.refl _ _⟩
      case round =>
        obtain ⟨k, hk, rfl, HE, HB⟩ := hrel
        by_cases hin : k < n
        · have ii : (k : Int) < n := by omega
          have ii0 : (0 : Int) ≤ k := by omega
          have iic : (k : Int) ≤ cap := by omega
          have ck0 : wr.cell? ⟨b, off + k * 2, none⟩ = some (f k 0) := by
            rw [HB.out.cell (by exact HLt.out)]
            exact HC.out k 0 hin (by decide)
          have ck1 : wr.cell? ⟨b, off + k * 2 + 1, none⟩ = some (f k 1) := by
            rw [HB.out.cell (by exact HLt.out)]
            exact HC.out k 1 hin (by decide)
          rw [hc k] at ck0
          rw [hx k] at ck1
          have hbn : Below wr.heap.size wr (wr.alloc (.cells #[.string (c k), .int .i64 (x k)] 111)) := (Below.refl _ _).alloc (Nat.le_refl _) _
          have HBn := Lib.hid hbn
          have HD := Lib.hid (conElm_any k f c hc (.slice (some ⟨b, off, none⟩) k cap) (c k) wr.heap.size (wr.alloc (.cells #[.string (c k), .int .i64 (x k)] 111)) (((HSL.out.below HB.out).upto (Nat.le_of_lt hin)).below hbn) (by omega) (by simp) (by
            rw [cell_of_row _ wr.heap.size 0 _ _ (0, 0) (heap_alloc_new wr _)]
            rfl))
          rw [any_dup] at HD
          clear hbn
          have HNm := Lib.hid (pIsNoWeight_any (x k))
          obtain ⟨X, hX⟩ : ∃ X, x k = X := ⟨_, rfl⟩
          obtain ⟨B, hB⟩ : ∃ B, (decide (0 ≤ x k) && decide (x k ≤ 65535)) = B := ⟨_, rfl⟩
          obtain ⟨D, hD⟩ : ∃ D, dup c k = D := ⟨_, rfl⟩
          rw [hB] at HNm
          rw [hD] at HD
          have HBv := Lib.hid hB
          have HDv := Lib.hid hD
          clear hB hD hX
          by_cases hsz : (c k).size = 2
          · have e2 : (((c k).size : Int) != 2) = false := by rw [bne_eq_false_iff_eq]; omega
            have e3 : ((c k).size != 2) = false := by rw [bne_eq_false_iff_eq]; exact hsz
            have HSz := Lib.hid hsz
            clear hsz
            rcases bool_tf B with hb | hb
            · subst hb
              simp only [Bool.not_true] at HNm
              rcases bool_tf D with hd | hd
              · subst hd
                have HF : Hid (elmAt c x k = 6) := by
                  show elmAt c x k = 6
                  unfold elmAt
                  rw [if_pos ⟨HSz.out, light_pos HBv.out⟩, if_pos HDv.out]
                have HN : Hid (R = 6) := by
                  have h6 : elmAt c x k ≠ 0 := by rw [HF.out]; decide
                  exact HR.out.trans ((firstErr_stop _ k n HE.out h6 hin).trans HF.out)
                go_wp2_with (first
                  | (go_at_call 161; refine (HNm.out _).mono ?_; rintro e w1 ⟨rfl, rfl⟩)
                  | (go_at_call 174; refine HD.out.mono ?_; rintro e w1 ⟨rfl, hb⟩; have HB1 := Lib.hid ((HB.out.trans (HBn.out.mono HB.out.size)).trans (hb.mono (by have := HB.out.size; simp; omega))); clear hb))
                go_ret
                exact ⟨by rw [HN.out] <;> rfl, HB1.out⟩
              · subst hd
                have HF : Hid (elmAt c x k = 0) := by
                  show elmAt c x k = 0
                  unfold elmAt
                  rw [if_pos ⟨HSz.out, light_pos HBv.out⟩, if_neg (by rw [HDv.out]; decide)]
                go_wp2_with (first
                  | (go_at_call 161; refine (HNm.out _).mono ?_; rintro e w1 ⟨rfl, rfl⟩)
                  | (go_at_call 174; refine HD.out.mono ?_; rintro e w1 ⟨rfl, hb⟩; have HB1 := Lib.hid ((HB.out.trans (HBn.out.mono HB.out.size)).trans (hb.mono (by have := HB.out.size; simp; omega))); clear hb))
                go_roundw
                case rel => exact ⟨k + 1, by omega, by go_num, (firstErr_next _ k HE.out).trans HF.out, HB1.out⟩
                case measure => simp [intOf]; omega
            · subst hb
              simp only [Bool.not_false] at HNm
              have HF : Hid (elmAt c x k = 2) := by
                show elmAt c x k = 2
                unfold elmAt
                rw [if_neg (fun h => light_neg HBv.out h.2)]
              have HN : Hid (R = 2) := by
                have h4 : elmAt c x k ≠ 0 := by rw [HF.out]; decide
                exact HR.out.trans ((firstErr_stop _ k n HE.out h4 hin).trans HF.out)
              go_wp2_with (first
                | (go_at_call 161; refine (HNm.out _).mono ?_; rintro e w1 ⟨rfl, rfl⟩))
              go_ret
              exact ⟨by rw [HN.out] <;> rfl, HB.out.trans (HBn.out.mono HB.out.size)⟩
          · have e2 : (((c k).size : Int) != 2) = true := by rw [bne_iff_ne]; omega
            have e3 : ((c k).size != 2) = true := by rw [bne_iff_ne]; exact hsz
            have HF : Hid (elmAt c x k = 2) := by
              show elmAt c x k = 2
              unfold elmAt
              rw [if_neg (fun h => hsz h.1)]
            have HN : Hid (R = 2) := by
              have h4 : elmAt c x k ≠ 0 := by rw [HF.out]; decide
              exact HR.out.trans ((firstErr_stop _ k n HE.out h4 hin).trans HF.out)
            clear hsz
            go_wp2
            go_ret
            exact ⟨by rw [HN.out] <;> rfl, HB.out.trans (HBn.out.mono HB.out.size)⟩
        · obtain rfl : k = n := by omega
          go_wp2
          go_ret
          exact ⟨by rw [HR.out, HE.out] <;> rfl, HB.out⟩
  · have hR1 : R = 3 := by rw [hR]; unfold elmErr; rw [if_neg hn]
    have i24 : (64 : Int) < n := by omega
    subst hR1
    clear hR hcells
    go_enter Tryz.func163, Tryz.ntmps163
    go_wp2
    go_ret
    exact ⟨rfl, Below.refl _ _⟩
theorem clsF_word (L : Loc) (j i : Nat) : clsF L j (i + 1) = .int .u64 ((wd (L.cset j) (64 * i) 64 : Nat) : Int) := by
  unfold clsF
  rw [if_neg (Nat.succ_ne_zero i), Nat.add_sub_cancel]
theorem firstErr_succ (f : Nat → Int) (n : Nat) : firstErr f (n + 1) = if firstErr f n = 0 then f n else firstErr f n := rfl
theorem wts_err (x : Nat → Int) (n : Nat) : ((List.range n).any fun j => heavyN (x j)) = false ↔ firstErr (wtAt x) n = 0 := by
  induction n with
  | zero => simp [firstErr]
  | succ n ih =>
    rw [List.range_succ, List.any_append, Bool.or_eq_false_iff, ih, firstErr_succ]
    constructor
    · rintro ⟨h1, h2⟩
      rw [if_pos h1]
      unfold wtAt
      rw [if_pos]
      simpa [heavyN] using h2
    · intro h
      by_cases h1 : firstErr (wtAt x) n = 0
      · rw [if_pos h1] at h
        refine ⟨h1, ?_⟩
        unfold wtAt at h
        by_cases h2 : (decide (0 ≤ x n) && decide (x n ≤ 65535)) = true
        · simp [heavyN] at h2 ⊢
          omega
        · rw [if_neg h2] at h
          omega
      · rw [if_neg h1] at h
        exact absurd h h1
theorem wts_two (x : Nat → Int) (n : Nat) (h : firstErr (wtAt x) n ≠ 0) : firstErr (wtAt x) n = 2 := by
  induction n with
  | zero => exact absurd rfl h
  | succ n ih =>
    rw [firstErr_succ] at h ⊢
    by_cases h1 : firstErr (wtAt x) n = 0
    · rw [if_pos h1] at h ⊢
      unfold wtAt at h ⊢
      by_cases h2 : (decide (0 ≤ x n) && decide (x n ≤ 65535)) = true
      · rw [if_pos h2] at h
        exact absurd rfl h
      · rw [if_neg h2]
    · rw [if_neg h1]
      exact ih h1
set_option maxRecDepth 100000 in
set_option maxHeartbeats 8000000 in
theorem pCheck_any (L : Loc) (W C E : Value) (w : World) (hM : LocM w L W C E) :
    Calls Tryz.prog 146 #[.agg (lcl L W C E)] w fun e w' => e = .returned (.int .i64 (chk L)) ∧ Below w.heap.size w w' := by
  have hB : Below w.heap.size w (w.alloc (.cells (lcl L W C E) 26)) := (Below.refl _ _).alloc (Nat.le_refl _) _
  have HM := Lib.hid (hM.below hB)
  have HB := Lib.hid hB
  obtain ⟨⟨aw, capw, rfl, hcw, hw⟩, hC, hE⟩ := hM
  have HNm := Lib.hid (pIsName_any L.name)
  obtain ⟨R, hR⟩ : ∃ R, chk L = R := ⟨_, rfl⟩
  rw [hR]
  have HR := Lib.hid hR
  clear hR hB hC hE hw
  unfold lcl at *
  by_cases hn : nmB L.name = true
  · rw [hn] at HNm
    by_cases h256 : L.nw = 256
    · have hSW := HM.out.1
      rw [h256] at hSW
      have HK : Hid (R = if firstErr (wtAt L.wt) 256 = 0 then (if L.lower.size = 256 ∧ L.upper.size = 256 then (if clsErr L.nc L.cn = 0 then elmErr L.ne L.et L.ew else clsErr L.nc L.cn) else 2) else firstErr (wtAt L.wt) 256) := by
        show R = _
        rw [← HR.out]
        unfold chk
        rw [if_pos hn, if_pos h256]
      have HW := Lib.hid (conNum_any 256 L.wt _ _ hSW (Nat.le_refl _))
      have HE := Lib.hid (wts_err L.wt 256)
      rw [h256] at HM HB ⊢
      clear hn h256 hcw hSW
      obtain ⟨X, hX⟩ : ∃ X, ((List.range 256).any fun j => heavyN (L.wt j)) = X := ⟨_, rfl⟩
      rw [hX] at HW HE
      clear hX
      rcases bool_tf X with hx | hx
      · subst hx
        have HN : Hid (R = 2) := by
          have h1 : firstErr (wtAt L.wt) 256 ≠ 0 := fun h => by
            have := HE.out.2 h
            cases this
          show R = 2
          rw [HK.out, if_neg h1, wts_two _ _ h1]
        go_enter Tryz.func146, Tryz.ntmps146
        go_wp2_with (first
          | (go_at_call 159; refine (HNm.out _).mono ?_; rintro e w1 ⟨rfl, rfl⟩)
          | (go_at_call 160; refine HW.out.mono ?_; rintro e w1 ⟨rfl, rfl⟩))
        go_ret
        exact ⟨by rw [HN.out] <;> rfl, HB.out⟩
      · subst hx
        have HK2 : Hid (R = if L.lower.size = 256 ∧ L.upper.size = 256 then (if clsErr L.nc L.cn = 0 then elmErr L.ne L.et L.ew else clsErr L.nc L.cn) else 2) := by
          show R = _
          rw [HK.out, if_pos (HE.out.1 rfl)]
        by_cases hl : L.lower.size = 256
        · have l1 : ((L.lower.size : Int) != 256) = false := by rw [bne_eq_false_iff_eq]; omega
          have l2 : (L.lower.size != 256) = false := by rw [bne_eq_false_iff_eq]; exact hl
          by_cases hu : L.upper.size = 256
          · have u1 : ((L.upper.size : Int) != 256) = false := by rw [bne_eq_false_iff_eq]; omega
            have u2 : (L.upper.size != 256) = false := by rw [bne_eq_false_iff_eq]; exact hu
            have HK3 : Hid (R = if clsErr L.nc L.cn = 0 then elmErr L.ne L.et L.ew else clsErr L.nc L.cn) := by
              show R = _
              rw [HK2.out, if_pos ⟨hl, hu⟩]
            have HCc := Lib.hid (pCheckClasses_any L.nc (clsF L) L.cn (fun j i => ((wd (L.cset j) (64 * i) 64 : Nat) : Int)) (fun j => rfl) (clsF_word L) C)
            have HEe := Lib.hid (pCheckElements_any L.ne (elmF L) L.et L.ew (fun j => rfl) (fun j => rfl) E)
            clear hl hu
            obtain ⟨X, hX⟩ : ∃ X, clsErr L.nc L.cn = X := ⟨_, rfl⟩
            rw [hX] at HCc HK3
            by_cases hx : X = 0
            · subst hx
              have HN : Hid (R = elmErr L.ne L.et L.ew) := by
                show R = _
                rw [HK3.out, if_pos rfl]
              clear hX
              go_enter Tryz.func146, Tryz.ntmps146
              go_wp2_with (first
                | (go_at_call 159; refine (HNm.out _).mono ?_; rintro e w1 ⟨rfl, rfl⟩)
                | (go_at_call 160; refine HW.out.mono ?_; rintro e w1 ⟨rfl, rfl⟩)
                | (go_at_call 162
                   refine (HCc.out _ (by exact HM.out.2.1)).mono ?_
                   rintro e w1 ⟨rfl, hb⟩
                   have c5 : w1.cell? ⟨w.heap.size, 5, none⟩ = some E := by
                     rw [hb.cell (by simp), cell_of_row _ w.heap.size 5 _ _ (0, 0) (heap_alloc_new w _)]
                     rfl
                   have HE1 := Lib.hid (HM.out.2.2.below hb)
                   have HB1 := Lib.hid (HB.out.trans (hb.mono HB.out.size))
                   clear hb)
                | (go_at_call 163
                   refine (HEe.out _ (by exact HE1.out)).mono ?_
                   rintro e w2 ⟨rfl, hb⟩
                   have HB2 := Lib.hid (HB1.out.trans (hb.mono HB1.out.size))
                   clear hb))
              go_ret
              exact ⟨by rw [HN.out] <;> rfl, HB2.out⟩
            · have HN : Hid (R = X) := by
                show R = X
                rw [HK3.out, if_neg hx]
              have x1 : (X != 0) = true := by rw [bne_iff_ne]; exact hx
              clear hX hx
              go_enter Tryz.func146, Tryz.ntmps146
              go_wp2_with (first
                | (go_at_call 159; refine (HNm.out _).mono ?_; rintro e w1 ⟨rfl, rfl⟩)
                | (go_at_call 160; refine HW.out.mono ?_; rintro e w1 ⟨rfl, rfl⟩)
                | (go_at_call 162
                   refine (HCc.out _ (by exact HM.out.2.1)).mono ?_
                   rintro e w1 ⟨rfl, hb⟩
                   have HB1 := Lib.hid (HB.out.trans (hb.mono HB.out.size))
                   clear hb))
              go_ret
              exact ⟨by rw [HN.out] <;> rfl, HB1.out⟩
          · have u1 : ((L.upper.size : Int) != 256) = true := by rw [bne_iff_ne]; omega
            have u2 : (L.upper.size != 256) = true := by rw [bne_iff_ne]; exact hu
            have HN : Hid (R = 2) := by
              show R = 2
              rw [HK2.out, if_neg (fun h => hu h.2)]
            clear hu hl
            go_enter Tryz.func146, Tryz.ntmps146
            go_wp2_with (first
              | (go_at_call 159; refine (HNm.out _).mono ?_; rintro e w1 ⟨rfl, rfl⟩)
              | (go_at_call 160; refine HW.out.mono ?_; rintro e w1 ⟨rfl, rfl⟩))
            go_ret
            exact ⟨by rw [HN.out] <;> rfl, HB.out⟩
        · have l1 : ((L.lower.size : Int) != 256) = true := by rw [bne_iff_ne]; omega
          have l2 : (L.lower.size != 256) = true := by rw [bne_iff_ne]; exact hl
          have HN : Hid (R = 2) := by
            show R = 2
            rw [HK2.out, if_neg (fun h => hl h.1)]
          clear hl
          go_enter Tryz.func146, Tryz.ntmps146
          go_wp2_with (first
            | (go_at_call 159; refine (HNm.out _).mono ?_; rintro e w1 ⟨rfl, rfl⟩)
            | (go_at_call 160; refine HW.out.mono ?_; rintro e w1 ⟨rfl, rfl⟩))
          go_ret
          exact ⟨by rw [HN.out] <;> rfl, HB.out⟩
    · have HN : Hid (R = 2) := by
        show R = 2
        rw [← HR.out]
        unfold chk
        rw [if_pos hn, if_neg h256]
      have e1 : ((L.nw : Int) != 256) = true := by rw [bne_iff_ne]; omega
      have e2 : (L.nw != 256) = true := by rw [bne_iff_ne]; exact h256
      clear hn h256 hcw
      go_enter Tryz.func146, Tryz.ntmps146
      go_wp2_with (first | (go_at_call 159; refine (HNm.out _).mono ?_; rintro e w1 ⟨rfl, rfl⟩))
      go_ret
      exact ⟨by rw [HN.out] <;> rfl, HB.out⟩
  · have hn2 : nmB L.name = false := by simpa using hn
    have HN : Hid (R = 4) := by
      show R = 4
      rw [← HR.out]
      unfold chk
      rw [if_neg hn]
    rw [hn2] at HNm
    clear hn hn2 hcw
    go_enter Tryz.func146, Tryz.ntmps146
    go_wp2_with (first | (go_at_call 159; refine (HNm.out _).mono ?_; rintro e w1 ⟨rfl, rfl⟩))
    go_ret
    exact ⟨by rw [HN.out] <;> rfl, HB.out⟩
end Go.Proofs.YtphiaagppcbefaaGreatDoor
