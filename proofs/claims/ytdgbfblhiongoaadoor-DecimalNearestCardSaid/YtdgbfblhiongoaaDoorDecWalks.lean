/- What the functions of layer 2 that compute with decimal numbers hand back: the program's and the reference's. None changes the world. -/
import Derived.Test.YtdgbfblhiongoaaDoorRows
import Derived.Test.YtdgbfblhiongoaaDoorDecMath
import Derived.Test.YtdgbfblhiongoaaDoorNumParseB
import Derived.WalkKit
import Derived.WalkSpells
import Derived.WalkLawsBesides
import Derived.BigGuardPart
import Derived.Lib.Hide
namespace Go.Proofs.YtdgbfblhiongoaaDoor
open Go.RowKit

theorem valid_any (d : Int) (w : World) : Calls Tryd.prog 21 #[.int .i64 d] w fun e w' => e = .returned (.bool (vB d)) ∧ w = w' := by
  unfold vB
  by_cases h1 : -10000000000000 ≤ d
  · by_cases h2 : d ≤ 10000000000000
    all_goals
      go_enter Tryd.func21, Tryd.ntmps21
      go_wp2
      go_ret
      exact ⟨by simp [h1, h2], rfl⟩
  · go_enter Tryd.func21, Tryd.ntmps21
    go_wp2
    go_ret
    exact ⟨by simp; omega, rfl⟩

theorem rvalid_any (d : Int) (w : World) : Calls Tryd.prog 22 #[.int .i64 d] w fun e w' => e = .returned (.bool (vB d)) ∧ w = w' := by
  unfold vB
  by_cases h1 : -10000000000000 ≤ d
  · by_cases h2 : d ≤ 10000000000000
    all_goals
      go_enter Tryd.func22, Tryd.ntmps22
      go_wp2
      go_ret
      exact ⟨by simp [h1, h2], rfl⟩
  · go_enter Tryd.func22, Tryd.ntmps22
    go_wp2
    go_ret
    exact ⟨by simp; omega, rfl⟩

theorem near_any (d : Int) (w : World) : Calls Tryd.prog 48 #[.int .i64 d] w fun e w' => e = .returned (.int .i64 (nearV d)) ∧ w = w' := by
  unfold nearV
  by_cases h1 : d < -10000000000000
  · rw [if_pos h1]
    go_enter Tryd.func48, Tryd.ntmps48
    go_wp2
    go_ret
    exact ⟨rfl, rfl⟩
  · rw [if_neg h1]
    by_cases h2 : 10000000000000 < d
    · rw [if_pos h2]
      go_enter Tryd.func48, Tryd.ntmps48
      go_wp2
      go_ret
      exact ⟨rfl, rfl⟩
    · rw [if_neg h2]
      go_enter Tryd.func48, Tryd.ntmps48
      go_wp2
      go_ret
      exact ⟨rfl, rfl⟩

theorem rnear_any (d : Int) (w : World) : Calls Tryd.prog 49 #[.int .i64 d] w fun e w' => e = .returned (.int .i64 (nearV d)) ∧ w = w' := by
  unfold nearV
  by_cases h1 : d < -10000000000000
  · rw [if_pos h1]
    go_enter Tryd.func49, Tryd.ntmps49
    go_wp2
    go_ret
    exact ⟨rfl, rfl⟩
  · rw [if_neg h1]
    by_cases h2 : 10000000000000 < d
    · rw [if_pos h2]
      go_enter Tryd.func49, Tryd.ntmps49
      go_wp2
      go_ret
      exact ⟨rfl, rfl⟩
    · rw [if_neg h2]
      go_enter Tryd.func49, Tryd.ntmps49
      go_wp2
      go_ret
      exact ⟨rfl, rfl⟩

theorem chk_any (d : Int) (w : World) : Calls Tryd.prog 41 #[.int .i64 d] w fun e w' => e = .returned (.tuple #[.int .i64 (chkV d), .int .i64 (chkE d)]) ∧ w = w' := by
  have HV : Hid (∀ w, Calls Tryd.prog 21 #[.int .i64 d] w fun e w' => e = .returned (.bool (vB d)) ∧ w = w') := fun w => valid_any d w
  unfold chkV chkE
  generalize vB d = b at *
  cases b
  all_goals
    go_enter Tryd.func41, Tryd.ntmps41
    go_wp2_with (go_at_call 21; refine (HV.out _).mono ?_; rintro e w' ⟨rfl, rfl⟩)
    go_ret2
    exact ⟨rfl, rfl⟩

theorem rfits_any (d : Int) (w : World) : Calls Tryd.prog 42 #[.int .i64 d] w fun e w' => e = .returned (.tuple #[.int .i64 (chkV d), .int .i64 (chkE d)]) ∧ w = w' := by
  have HV : Hid (∀ w, Calls Tryd.prog 22 #[.int .i64 d] w fun e w' => e = .returned (.bool (vB d)) ∧ w = w') := fun w => rvalid_any d w
  unfold chkV chkE
  generalize vB d = b at *
  cases b
  all_goals
    go_enter Tryd.func42, Tryd.ntmps42
    go_wp2_with (go_at_call 22; refine (HV.out _).mono ?_; rintro e w' ⟨rfl, rfl⟩)
    go_ret2
    exact ⟨rfl, rfl⟩

theorem rsize_any (d : Int) (w : World) (hd : -9223372036854775807 ≤ d ∧ d ≤ 9223372036854775807) : Calls Tryd.prog 45 #[.int .i64 d] w fun e w' => e = .returned (.int .i64 (abV d)) ∧ w = w' := by
  obtain ⟨d1, d2⟩ := hd
  unfold abV
  by_cases h1 : d < 0
  · rw [if_pos h1]
    go_enter Tryd.func45, Tryd.ntmps45
    go_wp2
    go_ret
    exact ⟨rfl, rfl⟩
  · rw [if_neg h1]
    go_enter Tryd.func45, Tryd.ntmps45
    go_wp2
    go_ret
    exact ⟨rfl, rfl⟩

def frV (n : Int) : Int := if -1000000000 ≤ n ∧ n ≤ 1000000000 then n * 10000 else 0
def frE (n : Int) : Int := if -1000000000 ≤ n ∧ n ≤ 1000000000 then 0 else 9

theorem fromint_any (n : Int) (w : World) : Calls Tryd.prog 26 #[.int .i64 n] w fun e w' => e = .returned (.tuple #[.int .i64 (frV n), .int .i64 (frE n)]) ∧ w = w' := by
  unfold frV frE
  by_cases h1 : n < -1000000000
  · rw [if_neg (by omega), if_neg (by omega)]
    go_enter Tryd.func26, Tryd.ntmps26
    go_wp2
    go_ret2
    exact ⟨rfl, rfl⟩
  · by_cases h2 : 1000000000 < n
    · rw [if_neg (by omega), if_neg (by omega)]
      go_enter Tryd.func26, Tryd.ntmps26
      go_wp2
      go_ret2
      exact ⟨rfl, rfl⟩
    · rw [if_pos (by omega), if_pos (by omega)]
      go_enter Tryd.func26, Tryd.ntmps26
      go_wp2
      go_ret2
      exact ⟨rfl, rfl⟩

theorem rfromint_any (n : Int) (w : World) : Calls Tryd.prog 27 #[.int .i64 n] w fun e w' => e = .returned (.tuple #[.int .i64 (frV n), .int .i64 (frE n)]) ∧ w = w' := by
  unfold frV frE
  by_cases h1 : n < -1000000000
  · rw [if_neg (by omega), if_neg (by omega)]
    go_enter Tryd.func27, Tryd.ntmps27
    go_wp2
    go_ret2
    exact ⟨rfl, rfl⟩
  · by_cases h2 : 1000000000 < n
    · rw [if_neg (by omega), if_neg (by omega)]
      go_enter Tryd.func27, Tryd.ntmps27
      go_wp2
      go_ret2
      exact ⟨rfl, rfl⟩
    · rw [if_pos (by omega), if_pos (by omega)]
      go_enter Tryd.func27, Tryd.ntmps27
      go_wp2
      go_ret2
      exact ⟨rfl, rfl⟩

theorem int_any (d : Int) (w : World) : Calls Tryd.prog 28 #[.int .i64 d] w fun e w' => e = .returned (.int .i64 ((nearV d).tdiv 10000)) ∧ w = w' := by
  have HN : Hid (∀ w, Calls Tryd.prog 48 #[.int .i64 d] w fun e w' => e = .returned (.int .i64 (nearV d)) ∧ w = w') := fun w => near_any d w
  obtain ⟨h1, h2⟩ := near_valid d
  generalize nearV d = x at *
  go_enter Tryd.func28, Tryd.ntmps28
  go_wp2_with (go_at_call 48; refine (HN.out _).mono ?_; rintro e w' ⟨rfl, rfl⟩)
  go_ret
  exact ⟨rfl, rfl⟩

theorem rint_any (d : Int) (w : World) : Calls Tryd.prog 29 #[.int .i64 d] w fun e w' => e = .returned (.int .i64 ((nearV d).tdiv 10000)) ∧ w = w' := by
  have HN : Hid (∀ w, Calls Tryd.prog 49 #[.int .i64 d] w fun e w' => e = .returned (.int .i64 (nearV d)) ∧ w = w') := fun w => rnear_any d w
  obtain ⟨h1, h2⟩ := near_valid d
  generalize nearV d = x at *
  go_enter Tryd.func29, Tryd.ntmps29
  go_wp2_with (go_at_call 49; refine (HN.out _).mono ?_; rintro e w' ⟨rfl, rfl⟩)
  go_ret
  exact ⟨rfl, rfl⟩

set_option maxHeartbeats 400000 in
theorem dadd_any (a b : Int) (w : World) : Calls Tryd.prog 11 #[.int .i64 a, .int .i64 b] w fun e w' => e = .returned (.tuple #[.int .i64 (sumV a b), .int .i64 (sumE a b)]) ∧ w = w' := by
  have VA : Hid (∀ w, Calls Tryd.prog 21 #[.int .i64 a] w fun e w' => e = .returned (.bool (vB a)) ∧ w = w') := fun w => valid_any a w
  have VB : Hid (∀ w, Calls Tryd.prog 21 #[.int .i64 b] w fun e w' => e = .returned (.bool (vB b)) ∧ w = w') := fun w => valid_any b w
  unfold sumV sumE okAB
  rcases tf (vB a) with ha | ha
  rotate_left
  · rw [ha] at VA ⊢
    clear ha
    go_enter Tryd.func11, Tryd.ntmps11
    go_wp2_with (go_at_call 21; first | ((with_reducible refine (VA.out _).mono ?_); rintro e w' ⟨rfl, rfl⟩) | ((with_reducible refine (VB.out _).mono ?_); rintro e w' ⟨rfl, rfl⟩))
    go_ret2
    exact ⟨rfl, rfl⟩
  rcases tf (vB b) with hb | hb
  rotate_left
  · rw [ha] at VA
    rw [ha, hb] at ⊢
    rw [hb] at VB
    clear ha hb
    go_enter Tryd.func11, Tryd.ntmps11
    go_wp2_with (go_at_call 21; first | ((with_reducible refine (VA.out _).mono ?_); rintro e w' ⟨rfl, rfl⟩) | ((with_reducible refine (VB.out _).mono ?_); rintro e w' ⟨rfl, rfl⟩))
    go_ret2
    exact ⟨rfl, rfl⟩
  rw [ha] at VA
  rw [hb] at VB
  rw [ha, hb]
  simp only [Bool.and_self, if_true]
  have HA := Lib.hid ha
  have HB := Lib.hid hb
  clear ha hb
  obtain ⟨a1, a2⟩ := (vB_iff a).1 HA.out
  obtain ⟨b1, b2⟩ := (vB_iff b).1 HB.out
  have HC : Hid (∀ w, Calls Tryd.prog 41 #[.int .i64 (a + b)] w fun e w' => e = .returned (.tuple #[.int .i64 (chkV (a + b)), .int .i64 (chkE (a + b))]) ∧ w = w') := fun w => chk_any _ w
  generalize chkV (a + b) = x at *
  generalize chkE (a + b) = y at *
  go_enter Tryd.func11, Tryd.ntmps11
  go_wp2_with (first | (go_at_call 21; first | ((with_reducible refine (VA.out _).mono ?_); rintro e w' ⟨rfl, rfl⟩) | ((with_reducible refine (VB.out _).mono ?_); rintro e w' ⟨rfl, rfl⟩)) | (go_at_call 41; refine (HC.out _).mono ?_; rintro e w' ⟨rfl, rfl⟩))
  go_ret2
  exact ⟨rfl, rfl⟩

set_option maxHeartbeats 400000 in
theorem radd_any (a b : Int) (w : World) : Calls Tryd.prog 12 #[.int .i64 a, .int .i64 b] w fun e w' => e = .returned (.tuple #[.int .i64 (sumV a b), .int .i64 (sumE a b)]) ∧ w = w' := by
  have VA : Hid (∀ w, Calls Tryd.prog 22 #[.int .i64 a] w fun e w' => e = .returned (.bool (vB a)) ∧ w = w') := fun w => rvalid_any a w
  have VB : Hid (∀ w, Calls Tryd.prog 22 #[.int .i64 b] w fun e w' => e = .returned (.bool (vB b)) ∧ w = w') := fun w => rvalid_any b w
  unfold sumV sumE okAB
  rcases tf (vB a) with ha | ha
  rotate_left
  · rw [ha] at VA ⊢
    clear ha
    go_enter Tryd.func12, Tryd.ntmps12
    go_wp2_with (go_at_call 22; first | ((with_reducible refine (VA.out _).mono ?_); rintro e w' ⟨rfl, rfl⟩) | ((with_reducible refine (VB.out _).mono ?_); rintro e w' ⟨rfl, rfl⟩))
    go_ret2
    exact ⟨rfl, rfl⟩
  rcases tf (vB b) with hb | hb
  rotate_left
  · rw [ha] at VA
    rw [ha, hb] at ⊢
    rw [hb] at VB
    clear ha hb
    go_enter Tryd.func12, Tryd.ntmps12
    go_wp2_with (go_at_call 22; first | ((with_reducible refine (VA.out _).mono ?_); rintro e w' ⟨rfl, rfl⟩) | ((with_reducible refine (VB.out _).mono ?_); rintro e w' ⟨rfl, rfl⟩))
    go_ret2
    exact ⟨rfl, rfl⟩
  rw [ha] at VA
  rw [hb] at VB
  rw [ha, hb]
  simp only [Bool.and_self, if_true]
  have HA := Lib.hid ha
  have HB := Lib.hid hb
  clear ha hb
  obtain ⟨a1, a2⟩ := (vB_iff a).1 HA.out
  obtain ⟨b1, b2⟩ := (vB_iff b).1 HB.out
  have HC : Hid (∀ w, Calls Tryd.prog 42 #[.int .i64 (a + b)] w fun e w' => e = .returned (.tuple #[.int .i64 (chkV (a + b)), .int .i64 (chkE (a + b))]) ∧ w = w') := fun w => rfits_any _ w
  generalize chkV (a + b) = x at *
  generalize chkE (a + b) = y at *
  go_enter Tryd.func12, Tryd.ntmps12
  go_wp2_with (first | (go_at_call 22; first | ((with_reducible refine (VA.out _).mono ?_); rintro e w' ⟨rfl, rfl⟩) | ((with_reducible refine (VB.out _).mono ?_); rintro e w' ⟨rfl, rfl⟩)) | (go_at_call 42; refine (HC.out _).mono ?_; rintro e w' ⟨rfl, rfl⟩))
  go_ret2
  exact ⟨rfl, rfl⟩

set_option maxHeartbeats 400000 in
theorem dsub_any (a b : Int) (w : World) : Calls Tryd.prog 13 #[.int .i64 a, .int .i64 b] w fun e w' => e = .returned (.tuple #[.int .i64 (difV a b), .int .i64 (difE a b)]) ∧ w = w' := by
  have VA : Hid (∀ w, Calls Tryd.prog 21 #[.int .i64 a] w fun e w' => e = .returned (.bool (vB a)) ∧ w = w') := fun w => valid_any a w
  have VB : Hid (∀ w, Calls Tryd.prog 21 #[.int .i64 b] w fun e w' => e = .returned (.bool (vB b)) ∧ w = w') := fun w => valid_any b w
  unfold difV difE okAB
  rcases tf (vB a) with ha | ha
  rotate_left
  · rw [ha] at VA ⊢
    clear ha
    go_enter Tryd.func13, Tryd.ntmps13
    go_wp2_with (go_at_call 21; first | ((with_reducible refine (VA.out _).mono ?_); rintro e w' ⟨rfl, rfl⟩) | ((with_reducible refine (VB.out _).mono ?_); rintro e w' ⟨rfl, rfl⟩))
    go_ret2
    exact ⟨rfl, rfl⟩
  rcases tf (vB b) with hb | hb
  rotate_left
  · rw [ha] at VA
    rw [ha, hb] at ⊢
    rw [hb] at VB
    clear ha hb
    go_enter Tryd.func13, Tryd.ntmps13
    go_wp2_with (go_at_call 21; first | ((with_reducible refine (VA.out _).mono ?_); rintro e w' ⟨rfl, rfl⟩) | ((with_reducible refine (VB.out _).mono ?_); rintro e w' ⟨rfl, rfl⟩))
    go_ret2
    exact ⟨rfl, rfl⟩
  rw [ha] at VA
  rw [hb] at VB
  rw [ha, hb]
  simp only [Bool.and_self, if_true]
  have HA := Lib.hid ha
  have HB := Lib.hid hb
  clear ha hb
  obtain ⟨a1, a2⟩ := (vB_iff a).1 HA.out
  obtain ⟨b1, b2⟩ := (vB_iff b).1 HB.out
  have HC : Hid (∀ w, Calls Tryd.prog 41 #[.int .i64 (a - b)] w fun e w' => e = .returned (.tuple #[.int .i64 (chkV (a - b)), .int .i64 (chkE (a - b))]) ∧ w = w') := fun w => chk_any _ w
  generalize chkV (a - b) = x at *
  generalize chkE (a - b) = y at *
  go_enter Tryd.func13, Tryd.ntmps13
  go_wp2_with (first | (go_at_call 21; first | ((with_reducible refine (VA.out _).mono ?_); rintro e w' ⟨rfl, rfl⟩) | ((with_reducible refine (VB.out _).mono ?_); rintro e w' ⟨rfl, rfl⟩)) | (go_at_call 41; refine (HC.out _).mono ?_; rintro e w' ⟨rfl, rfl⟩))
  go_ret2
  exact ⟨rfl, rfl⟩

set_option maxHeartbeats 400000 in
theorem rsub_any (a b : Int) (w : World) : Calls Tryd.prog 14 #[.int .i64 a, .int .i64 b] w fun e w' => e = .returned (.tuple #[.int .i64 (difV a b), .int .i64 (difE a b)]) ∧ w = w' := by
  have VA : Hid (∀ w, Calls Tryd.prog 22 #[.int .i64 a] w fun e w' => e = .returned (.bool (vB a)) ∧ w = w') := fun w => rvalid_any a w
  have VB : Hid (∀ w, Calls Tryd.prog 22 #[.int .i64 b] w fun e w' => e = .returned (.bool (vB b)) ∧ w = w') := fun w => rvalid_any b w
  unfold difV difE okAB
  rcases tf (vB a) with ha | ha
  rotate_left
  · rw [ha] at VA ⊢
    clear ha
    go_enter Tryd.func14, Tryd.ntmps14
    go_wp2_with (go_at_call 22; first | ((with_reducible refine (VA.out _).mono ?_); rintro e w' ⟨rfl, rfl⟩) | ((with_reducible refine (VB.out _).mono ?_); rintro e w' ⟨rfl, rfl⟩))
    go_ret2
    exact ⟨rfl, rfl⟩
  rcases tf (vB b) with hb | hb
  rotate_left
  · rw [ha] at VA
    rw [ha, hb] at ⊢
    rw [hb] at VB
    clear ha hb
    go_enter Tryd.func14, Tryd.ntmps14
    go_wp2_with (go_at_call 22; first | ((with_reducible refine (VA.out _).mono ?_); rintro e w' ⟨rfl, rfl⟩) | ((with_reducible refine (VB.out _).mono ?_); rintro e w' ⟨rfl, rfl⟩))
    go_ret2
    exact ⟨rfl, rfl⟩
  rw [ha] at VA
  rw [hb] at VB
  rw [ha, hb]
  simp only [Bool.and_self, if_true]
  have HA := Lib.hid ha
  have HB := Lib.hid hb
  clear ha hb
  obtain ⟨a1, a2⟩ := (vB_iff a).1 HA.out
  obtain ⟨b1, b2⟩ := (vB_iff b).1 HB.out
  have HC : Hid (∀ w, Calls Tryd.prog 42 #[.int .i64 (a - b)] w fun e w' => e = .returned (.tuple #[.int .i64 (chkV (a - b)), .int .i64 (chkE (a - b))]) ∧ w = w') := fun w => rfits_any _ w
  generalize chkV (a - b) = x at *
  generalize chkE (a - b) = y at *
  go_enter Tryd.func14, Tryd.ntmps14
  go_wp2_with (first | (go_at_call 22; first | ((with_reducible refine (VA.out _).mono ?_); rintro e w' ⟨rfl, rfl⟩) | ((with_reducible refine (VB.out _).mono ?_); rintro e w' ⟨rfl, rfl⟩)) | (go_at_call 42; refine (HC.out _).mono ?_; rintro e w' ⟨rfl, rfl⟩))
  go_ret2
  exact ⟨rfl, rfl⟩

set_option maxHeartbeats 400000 in
theorem ddiv_any (a b : Int) (w : World) : Calls Tryd.prog 17 #[.int .i64 a, .int .i64 b] w fun e w' => e = .returned (.tuple #[.int .i64 (quoV a b), .int .i64 (quoE a b)]) ∧ w = w' := by
  have VA : Hid (∀ w, Calls Tryd.prog 21 #[.int .i64 a] w fun e w' => e = .returned (.bool (vB a)) ∧ w = w') := fun w => valid_any a w
  have VB : Hid (∀ w, Calls Tryd.prog 21 #[.int .i64 b] w fun e w' => e = .returned (.bool (vB b)) ∧ w = w') := fun w => valid_any b w
  unfold quoV quoE okAB
  rcases tf (vB a) with ha | ha
  rotate_left
  · rw [ha] at VA ⊢
    clear ha
    go_enter Tryd.func17, Tryd.ntmps17
    go_wp2_with (go_at_call 21; first | ((with_reducible refine (VA.out _).mono ?_); rintro e w' ⟨rfl, rfl⟩) | ((with_reducible refine (VB.out _).mono ?_); rintro e w' ⟨rfl, rfl⟩))
    go_ret2
    exact ⟨rfl, rfl⟩
  rcases tf (vB b) with hb | hb
  rotate_left
  · rw [ha] at VA
    rw [ha, hb] at ⊢
    rw [hb] at VB
    clear ha hb
    go_enter Tryd.func17, Tryd.ntmps17
    go_wp2_with (go_at_call 21; first | ((with_reducible refine (VA.out _).mono ?_); rintro e w' ⟨rfl, rfl⟩) | ((with_reducible refine (VB.out _).mono ?_); rintro e w' ⟨rfl, rfl⟩))
    go_ret2
    exact ⟨rfl, rfl⟩
  rw [ha] at VA
  rw [hb] at VB
  rw [ha, hb]
  simp only [Bool.and_self, if_true]
  have HA := Lib.hid ha
  have HB := Lib.hid hb
  clear ha hb
  obtain ⟨a1, a2⟩ := (vB_iff a).1 HA.out
  obtain ⟨b1, b2⟩ := (vB_iff b).1 HB.out
  by_cases h0 : b = 0
  · subst h0
    rw [if_pos rfl, if_pos rfl]
    go_enter Tryd.func17, Tryd.ntmps17
    go_wp2_with (go_at_call 21; first | ((with_reducible refine (VA.out _).mono ?_); rintro e w' ⟨rfl, rfl⟩) | ((with_reducible refine (VB.out _).mono ?_); rintro e w' ⟨rfl, rfl⟩))
    go_ret2
    exact ⟨rfl, rfl⟩
  · rw [if_neg h0, if_neg h0]
    have h0' : (b == 0) = false := by simpa using h0
    obtain ⟨q1, q2⟩ := quo_bd a b HA.out
    have HC : Hid (∀ w, Calls Tryd.prog 41 #[.int .i64 ((a * 10000).tdiv b)] w fun e w' => e = .returned (.tuple #[.int .i64 (chkV ((a * 10000).tdiv b)), .int .i64 (chkE ((a * 10000).tdiv b))]) ∧ w = w') := fun w => chk_any _ w
    generalize chkV ((a * 10000).tdiv b) = x at *
    generalize chkE ((a * 10000).tdiv b) = y at *
    go_enter Tryd.func17, Tryd.ntmps17
    go_wp2_with (first | (go_at_call 21; first | ((with_reducible refine (VA.out _).mono ?_); rintro e w' ⟨rfl, rfl⟩) | ((with_reducible refine (VB.out _).mono ?_); rintro e w' ⟨rfl, rfl⟩)) | (go_at_call 41; refine (HC.out _).mono ?_; rintro e w' ⟨rfl, rfl⟩))
    go_ret2
    exact ⟨rfl, rfl⟩

set_option maxHeartbeats 400000 in
theorem rdiv_any (a b : Int) (w : World) : Calls Tryd.prog 18 #[.int .i64 a, .int .i64 b] w fun e w' => e = .returned (.tuple #[.int .i64 (quoV a b), .int .i64 (quoE a b)]) ∧ w = w' := by
  have VA : Hid (∀ w, Calls Tryd.prog 22 #[.int .i64 a] w fun e w' => e = .returned (.bool (vB a)) ∧ w = w') := fun w => rvalid_any a w
  have VB : Hid (∀ w, Calls Tryd.prog 22 #[.int .i64 b] w fun e w' => e = .returned (.bool (vB b)) ∧ w = w') := fun w => rvalid_any b w
  unfold quoV quoE okAB
  rcases tf (vB a) with ha | ha
  rotate_left
  · rw [ha] at VA ⊢
    clear ha
    go_enter Tryd.func18, Tryd.ntmps18
    go_wp2_with (go_at_call 22; first | ((with_reducible refine (VA.out _).mono ?_); rintro e w' ⟨rfl, rfl⟩) | ((with_reducible refine (VB.out _).mono ?_); rintro e w' ⟨rfl, rfl⟩))
    go_ret2
    exact ⟨rfl, rfl⟩
  rcases tf (vB b) with hb | hb
  rotate_left
  · rw [ha] at VA
    rw [ha, hb] at ⊢
    rw [hb] at VB
    clear ha hb
    go_enter Tryd.func18, Tryd.ntmps18
    go_wp2_with (go_at_call 22; first | ((with_reducible refine (VA.out _).mono ?_); rintro e w' ⟨rfl, rfl⟩) | ((with_reducible refine (VB.out _).mono ?_); rintro e w' ⟨rfl, rfl⟩))
    go_ret2
    exact ⟨rfl, rfl⟩
  rw [ha] at VA
  rw [hb] at VB
  rw [ha, hb]
  simp only [Bool.and_self, if_true]
  have HA := Lib.hid ha
  have HB := Lib.hid hb
  clear ha hb
  obtain ⟨a1, a2⟩ := (vB_iff a).1 HA.out
  obtain ⟨b1, b2⟩ := (vB_iff b).1 HB.out
  by_cases h0 : b = 0
  · subst h0
    rw [if_pos rfl, if_pos rfl]
    go_enter Tryd.func18, Tryd.ntmps18
    go_wp2_with (go_at_call 22; first | ((with_reducible refine (VA.out _).mono ?_); rintro e w' ⟨rfl, rfl⟩) | ((with_reducible refine (VB.out _).mono ?_); rintro e w' ⟨rfl, rfl⟩))
    go_ret2
    exact ⟨rfl, rfl⟩
  · rw [if_neg h0, if_neg h0]
    have h0' : (b == 0) = false := by simpa using h0
    obtain ⟨q1, q2⟩ := quo_bd a b HA.out
    have HC : Hid (∀ w, Calls Tryd.prog 42 #[.int .i64 ((a * 10000).tdiv b)] w fun e w' => e = .returned (.tuple #[.int .i64 (chkV ((a * 10000).tdiv b)), .int .i64 (chkE ((a * 10000).tdiv b))]) ∧ w = w') := fun w => rfits_any _ w
    generalize chkV ((a * 10000).tdiv b) = x at *
    generalize chkE ((a * 10000).tdiv b) = y at *
    go_enter Tryd.func18, Tryd.ntmps18
    go_wp2_with (first | (go_at_call 22; first | ((with_reducible refine (VA.out _).mono ?_); rintro e w' ⟨rfl, rfl⟩) | ((with_reducible refine (VB.out _).mono ?_); rintro e w' ⟨rfl, rfl⟩)) | (go_at_call 42; refine (HC.out _).mono ?_; rintro e w' ⟨rfl, rfl⟩))
    go_ret2
    exact ⟨rfl, rfl⟩

set_option maxHeartbeats 400000 in
theorem dmod_any (a b : Int) (w : World) : Calls Tryd.prog 19 #[.int .i64 a, .int .i64 b] w fun e w' => e = .returned (.tuple #[.int .i64 (modV a b), .int .i64 (modE a b)]) ∧ w = w' := by
  have VA : Hid (∀ w, Calls Tryd.prog 21 #[.int .i64 a] w fun e w' => e = .returned (.bool (vB a)) ∧ w = w') := fun w => valid_any a w
  have VB : Hid (∀ w, Calls Tryd.prog 21 #[.int .i64 b] w fun e w' => e = .returned (.bool (vB b)) ∧ w = w') := fun w => valid_any b w
  unfold modV modE okAB
  rcases tf (vB a) with ha | ha
  rotate_left
  · rw [ha] at VA ⊢
    clear ha
    go_enter Tryd.func19, Tryd.ntmps19
    go_wp2_with (go_at_call 21; first | ((with_reducible refine (VA.out _).mono ?_); rintro e w' ⟨rfl, rfl⟩) | ((with_reducible refine (VB.out _).mono ?_); rintro e w' ⟨rfl, rfl⟩))
    go_ret2
    exact ⟨rfl, rfl⟩
  rcases tf (vB b) with hb | hb
  rotate_left
  · rw [ha] at VA
    rw [ha, hb] at ⊢
    rw [hb] at VB
    clear ha hb
    go_enter Tryd.func19, Tryd.ntmps19
    go_wp2_with (go_at_call 21; first | ((with_reducible refine (VA.out _).mono ?_); rintro e w' ⟨rfl, rfl⟩) | ((with_reducible refine (VB.out _).mono ?_); rintro e w' ⟨rfl, rfl⟩))
    go_ret2
    exact ⟨rfl, rfl⟩
  rw [ha] at VA
  rw [hb] at VB
  rw [ha, hb]
  simp only [Bool.and_self, if_true]
  have HA := Lib.hid ha
  have HB := Lib.hid hb
  clear ha hb
  obtain ⟨a1, a2⟩ := (vB_iff a).1 HA.out
  obtain ⟨b1, b2⟩ := (vB_iff b).1 HB.out
  by_cases h0 : b = 0
  · subst h0
    rw [if_pos rfl, if_pos rfl]
    go_enter Tryd.func19, Tryd.ntmps19
    go_wp2_with (go_at_call 21; first | ((with_reducible refine (VA.out _).mono ?_); rintro e w' ⟨rfl, rfl⟩) | ((with_reducible refine (VB.out _).mono ?_); rintro e w' ⟨rfl, rfl⟩))
    go_ret2
    exact ⟨rfl, rfl⟩
  · rw [if_neg h0, if_neg h0]
    have h0' : (b == 0) = false := by simpa using h0
    obtain ⟨q5, q6⟩ := tmod_bd a b HA.out
    go_enter Tryd.func19, Tryd.ntmps19
    go_wp2_with (go_at_call 21; first | ((with_reducible refine (VA.out _).mono ?_); rintro e w' ⟨rfl, rfl⟩) | ((with_reducible refine (VB.out _).mono ?_); rintro e w' ⟨rfl, rfl⟩))
    go_ret2
    exact ⟨rfl, rfl⟩

set_option maxHeartbeats 400000 in
theorem rmod_any (a b : Int) (w : World) : Calls Tryd.prog 20 #[.int .i64 a, .int .i64 b] w fun e w' => e = .returned (.tuple #[.int .i64 (modV a b), .int .i64 (modE a b)]) ∧ w = w' := by
  have VA : Hid (∀ w, Calls Tryd.prog 22 #[.int .i64 a] w fun e w' => e = .returned (.bool (vB a)) ∧ w = w') := fun w => rvalid_any a w
  have VB : Hid (∀ w, Calls Tryd.prog 22 #[.int .i64 b] w fun e w' => e = .returned (.bool (vB b)) ∧ w = w') := fun w => rvalid_any b w
  unfold modV modE okAB
  rcases tf (vB a) with ha | ha
  rotate_left
  · rw [ha] at VA ⊢
    clear ha
    go_enter Tryd.func20, Tryd.ntmps20
    go_wp2_with (go_at_call 22; first | ((with_reducible refine (VA.out _).mono ?_); rintro e w' ⟨rfl, rfl⟩) | ((with_reducible refine (VB.out _).mono ?_); rintro e w' ⟨rfl, rfl⟩))
    go_ret2
    exact ⟨rfl, rfl⟩
  rcases tf (vB b) with hb | hb
  rotate_left
  · rw [ha] at VA
    rw [ha, hb] at ⊢
    rw [hb] at VB
    clear ha hb
    go_enter Tryd.func20, Tryd.ntmps20
    go_wp2_with (go_at_call 22; first | ((with_reducible refine (VA.out _).mono ?_); rintro e w' ⟨rfl, rfl⟩) | ((with_reducible refine (VB.out _).mono ?_); rintro e w' ⟨rfl, rfl⟩))
    go_ret2
    exact ⟨rfl, rfl⟩
  rw [ha] at VA
  rw [hb] at VB
  rw [ha, hb]
  simp only [Bool.and_self, if_true]
  have HA := Lib.hid ha
  have HB := Lib.hid hb
  clear ha hb
  obtain ⟨a1, a2⟩ := (vB_iff a).1 HA.out
  obtain ⟨b1, b2⟩ := (vB_iff b).1 HB.out
  by_cases h0 : b = 0
  · subst h0
    rw [if_pos rfl, if_pos rfl]
    go_enter Tryd.func20, Tryd.ntmps20
    go_wp2_with (go_at_call 22; first | ((with_reducible refine (VA.out _).mono ?_); rintro e w' ⟨rfl, rfl⟩) | ((with_reducible refine (VB.out _).mono ?_); rintro e w' ⟨rfl, rfl⟩))
    go_ret2
    exact ⟨rfl, rfl⟩
  · rw [if_neg h0, if_neg h0]
    have h0' : (b == 0) = false := by simpa using h0
    obtain ⟨q1, q2⟩ := tdiv_bd a b HA.out
    obtain ⟨q3, q4⟩ := tdiv_mul_bd a b HA.out
    have HS := tdiv_mul_sub a b
    obtain ⟨q5, q6⟩ := tmod_bd a b HA.out
    go_enter Tryd.func20, Tryd.ntmps20
    go_wp2_with (go_at_call 22; first | ((with_reducible refine (VA.out _).mono ?_); rintro e w' ⟨rfl, rfl⟩) | ((with_reducible refine (VB.out _).mono ?_); rintro e w' ⟨rfl, rfl⟩))
    go_ret2
    exact ⟨rfl, rfl⟩

end Go.Proofs.YtdgbfblhiongoaaDoor
