/- What the products, powers and roundings of layer 2 hand back: the program's and the reference's. -/
import Derived.Test.YtdgbfblhiongoaaDoorDecWalks
namespace Go.Proofs.YtdgbfblhiongoaaDoor
open Go.RowKit

theorem add_yes (a b : Int) (w : World) (ha : fits a) (hb : fits b) (h : fits (a + b)) :
    Calls Tryd.prog 44 #[.int .i64 a, .int .i64 b] w fun e w' => e = .returned (.tuple #[.int .i64 (a + b), .int .i64 0]) ∧ w = w' :=
  (add_any a b w ha hb).mono fun e w' ⟨h1, h2⟩ => ⟨by rw [h1, addV, addE, if_pos h, if_pos h], h2⟩
theorem add_no (a b : Int) (w : World) (ha : fits a) (hb : fits b) (h : ¬ fits (a + b)) :
    Calls Tryd.prog 44 #[.int .i64 a, .int .i64 b] w fun e w' => e = .returned (.tuple #[.int .i64 0, .int .i64 9]) ∧ w = w' :=
  (add_any a b w ha hb).mono fun e w' ⟨h1, h2⟩ => ⟨by rw [h1, addV, addE, if_neg h, if_neg h], h2⟩

theorem chk_no (d : Int) (h : vB d = false) : chkV d = 0 ∧ chkE d = 9 := by unfold chkV chkE; rw [h]; exact ⟨rfl, rfl⟩

set_option maxHeartbeats 800000 in
theorem dmul_any (a b : Int) (w : World) : Calls Tryd.prog 15 #[.int .i64 a, .int .i64 b] w fun e w' => e = .returned (.tuple #[.int .i64 (proV a b), .int .i64 (proE a b)]) ∧ w = w' := by
  have VA : Hid (∀ w, Calls Tryd.prog 21 #[.int .i64 a] w fun e w' => e = .returned (.bool (vB a)) ∧ w = w') := fun w => valid_any a w
  have VB : Hid (∀ w, Calls Tryd.prog 21 #[.int .i64 b] w fun e w' => e = .returned (.bool (vB b)) ∧ w = w') := fun w => valid_any b w
  unfold proV proE okAB
  rcases tf (vB a) with ha | ha
  rotate_left
  · rw [ha] at VA ⊢
    clear ha
    go_enter Tryd.func15, Tryd.ntmps15
    go_wp2_with (go_at_call 21; first | ((with_reducible refine (VA.out _).mono ?_); rintro e w' ⟨rfl, rfl⟩) | ((with_reducible refine (VB.out _).mono ?_); rintro e w' ⟨rfl, rfl⟩))
    go_ret2
    exact ⟨rfl, rfl⟩
  rcases tf (vB b) with hb | hb
  rotate_left
  · rw [ha] at VA
    rw [ha, hb] at ⊢
    rw [hb] at VB
    clear ha hb
    go_enter Tryd.func15, Tryd.ntmps15
    go_wp2_with (go_at_call 21; first | ((with_reducible refine (VA.out _).mono ?_); rintro e w' ⟨rfl, rfl⟩) | ((with_reducible refine (VB.out _).mono ?_); rintro e w' ⟨rfl, rfl⟩))
    go_ret2
    exact ⟨rfl, rfl⟩
  rw [ha] at VA
  rw [hb] at VB
  rw [ha, hb]
  simp only [Bool.and_self, if_true]
  have hp := parts a b
  obtain ⟨⟨f1, f2⟩, f3, f4⟩ := frac_lt a b hb
  obtain ⟨a1, a2⟩ := (vB_iff a).1 ha
  obtain ⟨b1, b2⟩ := (vB_iff b).1 hb
  obtain ⟨g1, g2⟩ := tdivk_lt a 1000000000 (by omega)
  obtain ⟨g3, g4⟩ := tmodk_lt a
  clear ha hb
  by_cases hm : fits (a.tdiv 10000 * b)
  · have HM : Hid (∀ w, Calls Tryd.prog 43 #[.int .i64 (a.tdiv 10000), .int .i64 b] w fun e w' => e = .returned (.tuple #[.int .i64 (a.tdiv 10000 * b), .int .i64 0]) ∧ w = w') :=
      fun w => mul_yes _ _ w ⟨by omega, by omega⟩ ⟨by omega, by omega⟩ hm
    by_cases hs : fits (a.tdiv 10000 * b + (a.tmod 10000 * b).tdiv 10000)
    · have HS : Hid (∀ w, Calls Tryd.prog 44 #[.int .i64 (a.tdiv 10000 * b), .int .i64 ((a.tmod 10000 * b).tdiv 10000)] w fun e w' => e = .returned (.tuple #[.int .i64 ((a * b).tdiv 10000), .int .i64 0]) ∧ w = w') :=
        fun w => by rw [← hp]; exact add_yes _ _ w hm ⟨by omega, by omega⟩ hs
      have HC : Hid (∀ w, Calls Tryd.prog 41 #[.int .i64 ((a * b).tdiv 10000)] w fun e w' => e = .returned (.tuple #[.int .i64 (chkV ((a * b).tdiv 10000)), .int .i64 (chkE ((a * b).tdiv 10000))]) ∧ w = w') := fun w => chk_any _ w
      clear hp hs hm
      generalize chkV ((a * b).tdiv 10000) = x at *
      generalize chkE ((a * b).tdiv 10000) = y at *
      generalize (a * b).tdiv 10000 = p at *
      generalize a.tdiv 10000 * b = m at *
      go_enter Tryd.func15, Tryd.ntmps15
      go_wp2_with (first | (go_at_call 21; first | ((with_reducible refine (VA.out _).mono ?_); rintro e w' ⟨rfl, rfl⟩) | ((with_reducible refine (VB.out _).mono ?_); rintro e w' ⟨rfl, rfl⟩)) | (go_at_call 43; refine (HM.out _).mono ?_; rintro e w' ⟨rfl, rfl⟩) | (go_at_call 44; refine (HS.out _).mono ?_; rintro e w' ⟨rfl, rfl⟩) | (go_at_call 41; refine (HC.out _).mono ?_; rintro e w' ⟨rfl, rfl⟩))
      go_ret2
      exact ⟨rfl, rfl⟩
    · have HS : Hid (∀ w, Calls Tryd.prog 44 #[.int .i64 (a.tdiv 10000 * b), .int .i64 ((a.tmod 10000 * b).tdiv 10000)] w fun e w' => e = .returned (.tuple #[.int .i64 0, .int .i64 9]) ∧ w = w') :=
        fun w => add_no _ _ w hm ⟨by omega, by omega⟩ hs
      obtain ⟨e1, e2⟩ := chk_no ((a * b).tdiv 10000) ((vB_not _).2 (by unfold fits at hs; omega))
      rw [e1, e2]
      clear hp hs hm e1 e2
      generalize a.tdiv 10000 * b = m at *
      go_enter Tryd.func15, Tryd.ntmps15
      go_wp2_with (first | (go_at_call 21; first | ((with_reducible refine (VA.out _).mono ?_); rintro e w' ⟨rfl, rfl⟩) | ((with_reducible refine (VB.out _).mono ?_); rintro e w' ⟨rfl, rfl⟩)) | (go_at_call 43; refine (HM.out _).mono ?_; rintro e w' ⟨rfl, rfl⟩) | (go_at_call 44; refine (HS.out _).mono ?_; rintro e w' ⟨rfl, rfl⟩))
      go_ret2
      exact ⟨rfl, rfl⟩
  · have HM : Hid (∀ w, Calls Tryd.prog 43 #[.int .i64 (a.tdiv 10000), .int .i64 b] w fun e w' => e = .returned (.tuple #[.int .i64 0, .int .i64 9]) ∧ w = w') :=
      fun w => mul_no _ _ w ⟨by omega, by omega⟩ ⟨by omega, by omega⟩ hm
    obtain ⟨e1, e2⟩ := chk_no ((a * b).tdiv 10000) ((vB_not _).2 (by unfold fits at hm; omega))
    rw [e1, e2]
    clear hp hm e1 e2
    go_enter Tryd.func15, Tryd.ntmps15
    go_wp2_with (first | (go_at_call 21; first | ((with_reducible refine (VA.out _).mono ?_); rintro e w' ⟨rfl, rfl⟩) | ((with_reducible refine (VB.out _).mono ?_); rintro e w' ⟨rfl, rfl⟩)) | (go_at_call 43; refine (HM.out _).mono ?_; rintro e w' ⟨rfl, rfl⟩))
    go_ret2
    exact ⟨rfl, rfl⟩

set_option maxHeartbeats 800000 in
theorem rdmul_any (a b : Int) (w : World) : Calls Tryd.prog 16 #[.int .i64 a, .int .i64 b] w fun e w' => e = .returned (.tuple #[.int .i64 (proV a b), .int .i64 (proE a b)]) ∧ w = w' := by
  have VA : Hid (∀ w, Calls Tryd.prog 22 #[.int .i64 a] w fun e w' => e = .returned (.bool (vB a)) ∧ w = w') := fun w => rvalid_any a w
  have VB : Hid (∀ w, Calls Tryd.prog 22 #[.int .i64 b] w fun e w' => e = .returned (.bool (vB b)) ∧ w = w') := fun w => rvalid_any b w
  unfold proV proE okAB
  rcases tf (vB a) with ha | ha
  rotate_left
  · rw [ha] at VA ⊢
    clear ha
    go_enter Tryd.func16, Tryd.ntmps16
    go_wp2_with (go_at_call 22; first | ((with_reducible refine (VA.out _).mono ?_); rintro e w' ⟨rfl, rfl⟩) | ((with_reducible refine (VB.out _).mono ?_); rintro e w' ⟨rfl, rfl⟩))
    go_ret2
    exact ⟨rfl, rfl⟩
  rcases tf (vB b) with hb | hb
  rotate_left
  · rw [ha] at VA
    rw [ha, hb] at ⊢
    rw [hb] at VB
    clear ha hb
    go_enter Tryd.func16, Tryd.ntmps16
    go_wp2_with (go_at_call 22; first | ((with_reducible refine (VA.out _).mono ?_); rintro e w' ⟨rfl, rfl⟩) | ((with_reducible refine (VB.out _).mono ?_); rintro e w' ⟨rfl, rfl⟩))
    go_ret2
    exact ⟨rfl, rfl⟩
  rw [ha] at VA
  rw [hb] at VB
  rw [ha, hb]
  simp only [Bool.and_self, if_true]
  obtain ⟨a1, a2⟩ := (vB_iff a).1 ha
  obtain ⟨b1, b2⟩ := (vB_iff b).1 hb
  clear ha hb
  have HC : Hid (∀ w, Calls Tryd.prog 42 #[.int .i64 ((a * b).tdiv 10000)] w fun e w' => e = .returned (.tuple #[.int .i64 (chkV ((a * b).tdiv 10000)), .int .i64 (chkE ((a * b).tdiv 10000))]) ∧ w = w') := fun w => rfits_any _ w
  by_cases h0 : a = 0
  · subst h0
    rw [Int.zero_mul, Int.zero_tdiv] at HC ⊢
    generalize chkV 0 = x at *
    generalize chkE 0 = y at *
    go_enter Tryd.func16, Tryd.ntmps16
    go_wp2_with (first | (go_at_call 22; first | ((with_reducible refine (VA.out _).mono ?_); rintro e w' ⟨rfl, rfl⟩) | ((with_reducible refine (VB.out _).mono ?_); rintro e w' ⟨rfl, rfl⟩)) | (go_at_call 42; refine (HC.out _).mono ?_; rintro e w' ⟨rfl, rfl⟩))
    go_ret2
    exact ⟨rfl, rfl⟩
  · have h0' : (a != 0) = true := by simpa using h0
    have ht := ref_test a b h0
    have SA : Hid (∀ w, Calls Tryd.prog 45 #[.int .i64 a] w fun e w' => e = .returned (.int .i64 (abV a)) ∧ w = w') := fun w => rsize_any a w ⟨by omega, by omega⟩
    have SB : Hid (∀ w, Calls Tryd.prog 45 #[.int .i64 b] w fun e w' => e = .returned (.int .i64 (abV b)) ∧ w = w') := fun w => rsize_any b w ⟨by omega, by omega⟩
    have s1 : 0 < abV a := by unfold abV; split <;> omega
    have s2 : abV a ≤ 10000000000000 := (abV_le _ _).2 ⟨by omega, by omega⟩
    have s3 : 0 ≤ abV b := abV_pos b
    have s4 : abV b ≤ 10000000000000 := (abV_le _ _).2 ⟨by omega, by omega⟩
    have s5 : 0 ≤ 100000000000009999 / abV a := Int.ediv_nonneg (by omega) (by omega)
    have s6 : 100000000000009999 / abV a ≤ 100000000000009999 := Int.ediv_le_self _ (by omega)
    have s0 : ¬ abV a = 0 := by omega
    have s0' : (abV a == 0) = false := by simpa using s0
    rcases tf (vB ((a * b).tdiv 10000)) with hv | hv
    · obtain ⟨m1, m2⟩ := ref_fits a b hv
      have hn : ¬ 100000000000009999 / abV a < abV b := fun hc => by rw [ht.1 hc] at hv; cases hv
      clear ht hv
      generalize abV a = sa at *
      generalize abV b = sb at *
      generalize chkV ((a * b).tdiv 10000) = x at *
      generalize chkE ((a * b).tdiv 10000) = y at *
      go_enter Tryd.func16, Tryd.ntmps16
      go_wp2_with (first | (go_at_call 22; first | ((with_reducible refine (VA.out _).mono ?_); rintro e w' ⟨rfl, rfl⟩) | ((with_reducible refine (VB.out _).mono ?_); rintro e w' ⟨rfl, rfl⟩)) | (go_at_call 45; first | ((with_reducible refine (SA.out _).mono ?_); rintro e w' ⟨rfl, rfl⟩) | ((with_reducible refine (SB.out _).mono ?_); rintro e w' ⟨rfl, rfl⟩)) | (go_at_call 42; refine (HC.out _).mono ?_; rintro e w' ⟨rfl, rfl⟩))
      go_ret2
      exact ⟨rfl, rfl⟩
    · have hn := ht.2 hv
      obtain ⟨e1, e2⟩ := chk_no _ hv
      rw [e1, e2]
      clear ht hv e1 e2
      generalize abV a = sa at *
      generalize abV b = sb at *
      go_enter Tryd.func16, Tryd.ntmps16
      go_wp2_with (first | (go_at_call 22; first | ((with_reducible refine (VA.out _).mono ?_); rintro e w' ⟨rfl, rfl⟩) | ((with_reducible refine (VB.out _).mono ?_); rintro e w' ⟨rfl, rfl⟩)) | (go_at_call 45; first | ((with_reducible refine (SA.out _).mono ?_); rintro e w' ⟨rfl, rfl⟩) | ((with_reducible refine (SB.out _).mono ?_); rintro e w' ⟨rfl, rfl⟩)))
      go_ret2
      exact ⟨rfl, rfl⟩

end Go.Proofs.YtdgbfblhiongoaaDoor
