/- What the powers and roundings of layer 2 hand back: the program's and the reference's. -/
import Derived.Test.YtdgbfblhiongoaaDoorDecMul
namespace Go.Proofs.YtdgbfblhiongoaaDoor
open Go.RowKit

/-- The product after k factors, and its error. -/
def powS (a : Int) : Nat → Int × Int
  | 0 => (10000, 0)
  | k + 1 => if (powS a k).2 = 0 then (if proE (powS a k).1 a = 0 then (proV (powS a k).1 a, 0) else (0, proE (powS a k).1 a)) else (0, (powS a k).2)
theorem powS_ok (a : Int) (k : Nat) (h : (powS a k).2 = 0) (h2 : proE (powS a k).1 a = 0) : powS a (k + 1) = (proV (powS a k).1 a, 0) := by
  rw [powS, if_pos h, if_pos h2]
theorem powS_bad (a : Int) (k : Nat) (h : (powS a k).2 = 0) (h2 : ¬ proE (powS a k).1 a = 0) : powS a (k + 1) = (0, proE (powS a k).1 a) := by
  rw [powS, if_pos h, if_neg h2]
theorem powS_stays (a : Int) (k : Nat) (x : Int) (h : powS a k = (0, x)) (hx : x ≠ 0) : ∀ m, powS a (k + m) = (0, x)
  | 0 => h
  | m + 1 => by
    have := powS_stays a k x h hx m
    rw [← Nat.add_assoc, powS, this, if_neg hx]
theorem powS_le (a : Int) (k n : Nat) (x : Int) (h : powS a k = (0, x)) (hx : x ≠ 0) (hn : k ≤ n) : powS a n = (0, x) := by
  have := powS_stays a k x h hx (n - k)
  rw [show k + (n - k) = n by omega] at this
  exact this

set_option maxHeartbeats 400000 in
theorem rep_any (a : Int) (n : Nat) (w : World) (hn : n ≤ 64) :
    Calls Tryd.prog 46 #[.int .i64 a, .int .i64 n] w fun e w' => e = .returned (.tuple #[.int .i64 (powS a n).1, .int .i64 (powS a n).2]) ∧ w = w' := by
  generalize hP : powS a n = R
  obtain ⟨r1, r2⟩ := R
  have HP := Lib.hid hP
  clear hP
  go_enter Tryd.func46, Tryd.ntmps46
  go_wp2
  go_loop [6, 9] (fun p i => ∃ (k : Nat) (x : Int), k ≤ n ∧ i = .int .i64 k ∧ p = .int .i64 x ∧ Hid (powS a k = (x, 0))) (fun _ i => n - (intOf i).toNat)
  case atStart => exact ⟨0, 10000, Nat.zero_le _, rfl, rfl, rfl⟩
  case round =>
    obtain ⟨k, x, hk, rfl, rfl, hx⟩ := hrel
    by_cases hlt : k < n
    · by_cases he : proE x a = 0
      · have HS : Hid (powS a (k + 1) = (proV x a, 0)) := by
          have := powS_ok a k (by rw [hx.out]) (by rw [hx.out]; exact he)
          rw [hx.out] at this; exact this
        have HM : Hid (∀ w, Calls Tryd.prog 15 #[.int .i64 x, .int .i64 a] w fun e w' => e = .returned (.tuple #[.int .i64 (proV x a), .int .i64 0]) ∧ w = w') := fun w => by
          have := dmul_any x a w
          rw [he] at this; exact this
        clear he
        generalize proV x a = y at *
        go_wp2_with (go_at_call 15; refine (HM.out _).mono ?_; rintro e w' ⟨rfl, rfl⟩)
        go_round
        case rel => exact ⟨k + 1, y, by omega, by go_num, rfl, HS⟩
        case measure => simp [intOf]; omega
      · have HS : Hid (powS a n = (0, proE x a)) := by
          have := powS_bad a k (by rw [hx.out]) (by rw [hx.out]; exact he)
          rw [hx.out] at this
          exact powS_le a (k + 1) n _ this he hlt
        have HM : Hid (∀ w, Calls Tryd.prog 15 #[.int .i64 x, .int .i64 a] w fun e w' => e = .returned (.tuple #[.int .i64 (proV x a), .int .i64 (proE x a)]) ∧ w = w') := fun w => dmul_any x a w
        have he' : (proE x a != 0) = true := by simpa using he
        have HR : Hid ((r1, r2) = ((0 : Int), proE x a)) := by rw [← HP.out, HS.out]; rfl
        clear he HS
        generalize proV x a = y at *
        generalize proE x a = z at *
        go_wp2_with (go_at_call 15; refine (HM.out _).mono ?_; rintro e w' ⟨rfl, rfl⟩)
        go_ret2
        exact ⟨ret_two (congrArg Prod.fst HR.out).symm (congrArg Prod.snd HR.out).symm, rfl⟩
    · obtain rfl : k = n := by omega
      have HR : Hid ((r1, r2) = (x, (0 : Int))) := by rw [← HP.out, hx.out]; rfl
      go_wp2
      go_ret2
      exact ⟨ret_two (congrArg Prod.fst HR.out).symm (congrArg Prod.snd HR.out).symm, rfl⟩

set_option maxHeartbeats 400000 in
theorem rrep_any (a : Int) (n : Nat) (w : World) (hn : n ≤ 64) :
    Calls Tryd.prog 47 #[.int .i64 a, .int .i64 n] w fun e w' => e = .returned (.tuple #[.int .i64 (powS a n).1, .int .i64 (powS a n).2]) ∧ w = w' := by
  generalize hP : powS a n = R
  obtain ⟨r1, r2⟩ := R
  have HP := Lib.hid hP
  clear hP
  go_enter Tryd.func47, Tryd.ntmps47
  go_wp2
  go_loop [6, 7] (fun p i => ∃ (k : Nat) (x : Int), k ≤ n ∧ i = .int .i64 k ∧ p = .int .i64 x ∧ Hid (powS a k = (x, 0))) (fun _ i => n - (intOf i).toNat)
  case atStart => exact ⟨0, 10000, Nat.zero_le _, rfl, rfl, rfl⟩
  case round =>
    obtain ⟨k, x, hk, rfl, rfl, hx⟩ := hrel
    by_cases hlt : k < n
    · by_cases he : proE x a = 0
      · have HS : Hid (powS a (k + 1) = (proV x a, 0)) := by
          have := powS_ok a k (by rw [hx.out]) (by rw [hx.out]; exact he)
          rw [hx.out] at this; exact this
        have HM : Hid (∀ w, Calls Tryd.prog 16 #[.int .i64 x, .int .i64 a] w fun e w' => e = .returned (.tuple #[.int .i64 (proV x a), .int .i64 0]) ∧ w = w') := fun w => by
          have := rdmul_any x a w
          rw [he] at this; exact this
        clear he
        generalize proV x a = y at *
        go_wp2_with (go_at_call 16; refine (HM.out _).mono ?_; rintro e w' ⟨rfl, rfl⟩)
        go_round
        case rel => exact ⟨k + 1, y, by omega, by go_num, rfl, HS⟩
        case measure => simp [intOf]; omega
      · have HS : Hid (powS a n = (0, proE x a)) := by
          have := powS_bad a k (by rw [hx.out]) (by rw [hx.out]; exact he)
          rw [hx.out] at this
          exact powS_le a (k + 1) n _ this he hlt
        have HM : Hid (∀ w, Calls Tryd.prog 16 #[.int .i64 x, .int .i64 a] w fun e w' => e = .returned (.tuple #[.int .i64 (proV x a), .int .i64 (proE x a)]) ∧ w = w') := fun w => rdmul_any x a w
        have he' : (proE x a != 0) = true := by simpa using he
        have HR : Hid ((r1, r2) = ((0 : Int), proE x a)) := by rw [← HP.out, HS.out]; rfl
        clear he HS
        generalize proV x a = y at *
        generalize proE x a = z at *
        go_wp2_with (go_at_call 16; refine (HM.out _).mono ?_; rintro e w' ⟨rfl, rfl⟩)
        go_ret2
        exact ⟨ret_two (congrArg Prod.fst HR.out).symm (congrArg Prod.snd HR.out).symm, rfl⟩
    · obtain rfl : k = n := by omega
      have HR : Hid ((r1, r2) = (x, (0 : Int))) := by rw [← HP.out, hx.out]; rfl
      go_wp2
      go_ret2
      exact ⟨ret_two (congrArg Prod.fst HR.out).symm (congrArg Prod.snd HR.out).symm, rfl⟩

def pwOk (a n : Int) : Bool := vB a && (decide (-64 ≤ n) && decide (n ≤ 64))
def pwV (a n : Int) : Int := if pwOk a n then (if 0 ≤ n then (powS a n.toNat).1 else if (powS a (-n).toNat).2 = 0 then quoV 10000 (powS a (-n).toNat).1 else 0) else 0
def pwE (a n : Int) : Int := if pwOk a n then (if 0 ≤ n then (powS a n.toNat).2 else if (powS a (-n).toNat).2 = 0 then quoE 10000 (powS a (-n).toNat).1 else (powS a (-n).toNat).2) else 2

set_option maxHeartbeats 400000 in
theorem dpow_any (a n : Int) (w : World) : Calls Tryd.prog 24 #[.int .i64 a, .int .i64 n] w fun e w' => e = .returned (.tuple #[.int .i64 (pwV a n), .int .i64 (pwE a n)]) ∧ w = w' := by
  have VA : Hid (∀ w, Calls Tryd.prog 21 #[.int .i64 a] w fun e w' => e = .returned (.bool (vB a)) ∧ w = w') := fun w => valid_any a w
  unfold pwV pwE pwOk
  rcases tf (vB a) with ha | ha
  rotate_left
  · rw [ha] at VA ⊢
    clear ha
    go_enter Tryd.func24, Tryd.ntmps24
    go_wp2_with (go_at_call 21; refine (VA.out _).mono ?_; rintro e w' ⟨rfl, rfl⟩)
    all_goals first | (exfalso; omega) | (go_ret2; exact ⟨rfl, rfl⟩)
  rw [ha] at VA ⊢
  clear ha
  by_cases h1 : n < -64
  · have e1 : decide (-64 ≤ n) = false := by simp; omega
    rw [e1]
    clear e1
    go_enter Tryd.func24, Tryd.ntmps24
    go_wp2_with (go_at_call 21; refine (VA.out _).mono ?_; rintro e w' ⟨rfl, rfl⟩)
    all_goals first | (exfalso; omega) | (go_ret2; exact ⟨rfl, rfl⟩)
  have h1' : -64 ≤ n := by omega
  by_cases h2 : 64 < n
  · have e1 : decide (n ≤ 64) = false := by simp; omega
    rw [e1]
    simp only [Bool.and_false, Bool.false_eq_true, if_false]
    clear e1
    go_enter Tryd.func24, Tryd.ntmps24
    go_wp2_with (go_at_call 21; refine (VA.out _).mono ?_; rintro e w' ⟨rfl, rfl⟩)
    all_goals first | (exfalso; omega) | (go_ret2; exact ⟨rfl, rfl⟩)
  have e1 : decide (-64 ≤ n) = true := by simp; omega
  have e2 : decide (n ≤ 64) = true := by simp; omega
  rw [e1, e2]
  simp only [Bool.and_self, if_true]
  clear e1 e2
  have h2' : n ≤ 64 := by omega
  by_cases h3 : 0 ≤ n
  · rw [if_pos h3, if_pos h3]
    have HR : Hid (∀ w, Calls Tryd.prog 46 #[.int .i64 a, .int .i64 n] w fun e w' => e = .returned (.tuple #[.int .i64 (powS a n.toNat).1, .int .i64 (powS a n.toNat).2]) ∧ w = w') := fun w => by
      have := rep_any a n.toNat w (by omega)
      rw [Int.toNat_of_nonneg h3] at this; exact this
    generalize powS a n.toNat = R at *
    obtain ⟨x, y⟩ := R
    go_enter Tryd.func24, Tryd.ntmps24
    go_wp2_with (first | (go_at_call 21; refine (VA.out _).mono ?_; rintro e w' ⟨rfl, rfl⟩) | (go_at_call 46; refine (HR.out _).mono ?_; rintro e w' ⟨rfl, rfl⟩))
    all_goals first | (exfalso; omega) | (go_ret2; exact ⟨rfl, rfl⟩)
  · rw [if_neg h3, if_neg h3]
    have h3' : n < 0 := by omega
    have HR : Hid (∀ w, Calls Tryd.prog 46 #[.int .i64 a, .int .i64 (-n)] w fun e w' => e = .returned (.tuple #[.int .i64 (powS a (-n).toNat).1, .int .i64 (powS a (-n).toNat).2]) ∧ w = w') := fun w => by
      have := rep_any a (-n).toNat w (by omega)
      rw [Int.toNat_of_nonneg (by omega)] at this; exact this
    generalize powS a (-n).toNat = R at *
    obtain ⟨x, y⟩ := R
    simp only at HR ⊢
    by_cases hy : y = 0
    · subst hy
      rw [if_pos rfl, if_pos rfl]
      have HD : Hid (∀ w, Calls Tryd.prog 17 #[.int .i64 10000, .int .i64 x] w fun e w' => e = .returned (.tuple #[.int .i64 (quoV 10000 x), .int .i64 (quoE 10000 x)]) ∧ w = w') := fun w => ddiv_any 10000 x w
      generalize quoV 10000 x = u at *
      generalize quoE 10000 x = v at *
      go_enter Tryd.func24, Tryd.ntmps24
      go_wp2_with (first | (go_at_call 21; refine (VA.out _).mono ?_; rintro e w' ⟨rfl, rfl⟩) | (go_at_call 46; refine (HR.out _).mono ?_; rintro e w' ⟨rfl, rfl⟩) | (go_at_call 17; refine (HD.out _).mono ?_; rintro e w' ⟨rfl, rfl⟩))
      all_goals first | (exfalso; omega) | (go_ret2; exact ⟨rfl, rfl⟩)
    · rw [if_neg hy, if_neg hy]
      have hy' : (y != 0) = true := by simpa using hy
      go_enter Tryd.func24, Tryd.ntmps24
      go_wp2_with (first | (go_at_call 21; refine (VA.out _).mono ?_; rintro e w' ⟨rfl, rfl⟩) | (go_at_call 46; refine (HR.out _).mono ?_; rintro e w' ⟨rfl, rfl⟩))
      all_goals first | (exfalso; omega) | (go_ret2; exact ⟨rfl, rfl⟩)

set_option maxHeartbeats 400000 in
theorem rdpow_any (a n : Int) (w : World) : Calls Tryd.prog 25 #[.int .i64 a, .int .i64 n] w fun e w' => e = .returned (.tuple #[.int .i64 (pwV a n), .int .i64 (pwE a n)]) ∧ w = w' := by
  have VA : Hid (∀ w, Calls Tryd.prog 22 #[.int .i64 a] w fun e w' => e = .returned (.bool (vB a)) ∧ w = w') := fun w => rvalid_any a w
  unfold pwV pwE pwOk
  rcases tf (vB a) with ha | ha
  rotate_left
  · rw [ha] at VA ⊢
    clear ha
    go_enter Tryd.func25, Tryd.ntmps25
    go_wp2_with (go_at_call 22; refine (VA.out _).mono ?_; rintro e w' ⟨rfl, rfl⟩)
    all_goals first | (exfalso; omega) | (go_ret2; exact ⟨rfl, rfl⟩)
  rw [ha] at VA ⊢
  clear ha
  by_cases h1 : n < -64
  · have e1 : decide (-64 ≤ n) = false := by simp; omega
    rw [e1]
    clear e1
    go_enter Tryd.func25, Tryd.ntmps25
    go_wp2_with (go_at_call 22; refine (VA.out _).mono ?_; rintro e w' ⟨rfl, rfl⟩)
    all_goals first | (exfalso; omega) | (go_ret2; exact ⟨rfl, rfl⟩)
  have h1' : -64 ≤ n := by omega
  by_cases h2 : 64 < n
  · have e1 : decide (n ≤ 64) = false := by simp; omega
    rw [e1]
    simp only [Bool.and_false, Bool.false_eq_true, if_false]
    clear e1
    go_enter Tryd.func25, Tryd.ntmps25
    go_wp2_with (go_at_call 22; refine (VA.out _).mono ?_; rintro e w' ⟨rfl, rfl⟩)
    all_goals first | (exfalso; omega) | (go_ret2; exact ⟨rfl, rfl⟩)
  have e1 : decide (-64 ≤ n) = true := by simp; omega
  have e2 : decide (n ≤ 64) = true := by simp; omega
  rw [e1, e2]
  simp only [Bool.and_self, if_true]
  clear e1 e2
  have h2' : n ≤ 64 := by omega
  by_cases h3 : 0 ≤ n
  · rw [if_pos h3, if_pos h3]
    have HR : Hid (∀ w, Calls Tryd.prog 47 #[.int .i64 a, .int .i64 n] w fun e w' => e = .returned (.tuple #[.int .i64 (powS a n.toNat).1, .int .i64 (powS a n.toNat).2]) ∧ w = w') := fun w => by
      have := rrep_any a n.toNat w (by omega)
      rw [Int.toNat_of_nonneg h3] at this; exact this
    generalize powS a n.toNat = R at *
    obtain ⟨x, y⟩ := R
    go_enter Tryd.func25, Tryd.ntmps25
    go_wp2_with (first | (go_at_call 22; refine (VA.out _).mono ?_; rintro e w' ⟨rfl, rfl⟩) | (go_at_call 47; refine (HR.out _).mono ?_; rintro e w' ⟨rfl, rfl⟩))
    all_goals first | (exfalso; omega) | (go_ret2; exact ⟨rfl, rfl⟩)
  · rw [if_neg h3, if_neg h3]
    have h3' : n < 0 := by omega
    have HR : Hid (∀ w, Calls Tryd.prog 47 #[.int .i64 a, .int .i64 (-n)] w fun e w' => e = .returned (.tuple #[.int .i64 (powS a (-n).toNat).1, .int .i64 (powS a (-n).toNat).2]) ∧ w = w') := fun w => by
      have := rrep_any a (-n).toNat w (by omega)
      rw [Int.toNat_of_nonneg (by omega)] at this; exact this
    generalize powS a (-n).toNat = R at *
    obtain ⟨x, y⟩ := R
    simp only at HR ⊢
    by_cases hy : y = 0
    · subst hy
      rw [if_pos rfl, if_pos rfl]
      have HD : Hid (∀ w, Calls Tryd.prog 18 #[.int .i64 10000, .int .i64 x] w fun e w' => e = .returned (.tuple #[.int .i64 (quoV 10000 x), .int .i64 (quoE 10000 x)]) ∧ w = w') := fun w => rdiv_any 10000 x w
      generalize quoV 10000 x = u at *
      generalize quoE 10000 x = v at *
      go_enter Tryd.func25, Tryd.ntmps25
      go_wp2_with (first | (go_at_call 22; refine (VA.out _).mono ?_; rintro e w' ⟨rfl, rfl⟩) | (go_at_call 47; refine (HR.out _).mono ?_; rintro e w' ⟨rfl, rfl⟩) | (go_at_call 18; refine (HD.out _).mono ?_; rintro e w' ⟨rfl, rfl⟩))
      all_goals first | (exfalso; omega) | (go_ret2; exact ⟨rfl, rfl⟩)
    · rw [if_neg hy, if_neg hy]
      have hy' : (y != 0) = true := by simpa using hy
      go_enter Tryd.func25, Tryd.ntmps25
      go_wp2_with (first | (go_at_call 22; refine (VA.out _).mono ?_; rintro e w' ⟨rfl, rfl⟩) | (go_at_call 47; refine (HR.out _).mono ?_; rintro e w' ⟨rfl, rfl⟩))
      all_goals first | (exfalso; omega) | (go_ret2; exact ⟨rfl, rfl⟩)

end Go.Proofs.YtdgbfblhiongoaaDoor
