/- What each function of layer 1 that computes with numbers does to the world: nothing; and what it hands back. -/
import Derived.Test.YticfhbffoajgcaaGreatDoorRows
import Derived.Test.YticfhbffoajgcaaGreatDoorNumMath
import Derived.WalkKit
import Derived.WalkSpells
import Derived.WalkLawsBesides
import Derived.BigGuardPart
import Derived.Lib.Hide
namespace Go.Proofs.YticfhbffoajgcaaGreatDoor
open Go.RowKit

set_option maxHeartbeats 400000 in
theorem sub_any (a b : Int) (w : World) (ha : fits a) (hb : fits b) :
    Calls Tryz.prog 208 #[.int .i64 a, .int .i64 b] w fun e w' => e = .returned (.tuple #[.int .i64 (subV a b), .int .i64 (subE a b)]) ∧ w = w' := by
  have ht := sub_test a b ha hb
  unfold subV subE
  by_cases h : fits (a - b)
  · rw [if_pos h, if_pos h]
    have h1 : ¬ bits .and .i64 (bits .xor .i64 a b) (bits .xor .i64 a (a - b)) < 0 := by
      rw [IntWalk.wrap64_in _ h] at ht
      exact fun hc => (ht.1 hc) h
    obtain ⟨h2, h3⟩ := h
    clear ht ha hb
    go_enter Tryz.func208, Tryz.ntmps208
    go_wp2
    go_ret2
    exact ⟨rfl, rfl⟩
  · rw [if_neg h, if_neg h]
    have h1 := ht.2 h
    clear ht ha hb h
    go_enter Tryz.func208, Tryz.ntmps208
    go_wp2
    go_ret2
    exact ⟨rfl, rfl⟩


set_option maxHeartbeats 400000 in
theorem least_any (a b : Int) (w : World) :
    Calls Tryz.prog 244 #[.int .i64 a, .int .i64 b] w fun e w' => e = .returned (.bool (leastB a b)) ∧ w = w' := by
  unfold leastB
  by_cases h : (a == -9223372036854775808) = true
  · rw [h]
    obtain rfl : a = -9223372036854775808 := by simpa using h
    clear h
    go_enter Tryz.func244, Tryz.ntmps244
    go_wp2
    go_ret
    exact ⟨by simp, rfl⟩
  · have h1 : (a == -9223372036854775808) = false := by simpa using h
    rw [h1]
    clear h
    go_enter Tryz.func244, Tryz.ntmps244
    go_wp2
    go_ret
    exact ⟨by simp, rfl⟩

theorem least_no (a b : Int) (w : World) (h : leastB a b = false) :
    Calls Tryz.prog 244 #[.int .i64 a, .int .i64 b] w fun e w' => e = .returned (.bool false) ∧ w = w' :=
  (least_any a b w).mono fun e w' ⟨h1, h2⟩ => ⟨by rw [h1, h], h2⟩

set_option maxHeartbeats 400000 in
theorem mul_any (a b : Int) (w : World) (ha : fits a) (hb : fits b) :
    Calls Tryz.prog 232 #[.int .i64 a, .int .i64 b] w fun e w' => e = .returned (.tuple #[.int .i64 (mulV a b), .int .i64 (mulE a b)]) ∧ w = w' := by
  unfold mulV mulE
  by_cases h0 : b = 0
  · subst h0
    rw [if_pos (mul_zero_fits a), if_pos (mul_zero_fits a), Int.mul_zero]
    clear ha hb
    go_enter Tryz.func232, Tryz.ntmps232
    go_wp2
    go_ret2
    exact ⟨rfl, rfl⟩
  · have hb0 : (b == 0) = false := by simpa using h0
    by_cases hx : a = -9223372036854775808 ∧ b = -1
    · obtain ⟨rfl, rfl⟩ := hx
      rw [if_neg least_fits, if_neg least_fits]
      clear h0 hb0 ha hb
      go_enter Tryz.func232, Tryz.ntmps232
      go_wp2
      go_ret2
      exact ⟨rfl, rfl⟩
    · have hq := mul_quo a b hb h0 hx
      have hf := mul_quo_fits a b ha hx
      have hl := (leastB_not a b).2 hx
      have HL : Hid (leastB a b = false) := hl
      clear hl
      by_cases h : fits (a * b)
      · rw [if_pos h, if_pos h]
        have h2 := hq.2 h
        rw [IntWalk.wrap64_in _ h] at h2 hf
        obtain ⟨h4, h5⟩ := h
        obtain ⟨h6, h7⟩ := ha
        clear hq h2 hx hf hb
        go_enter Tryz.func232, Tryz.ntmps232
        go_wp2_with (go_at_call 244; refine (least_no _ _ _ HL.out).mono ?_; rintro e w' ⟨rfl, rfl⟩)
        go_ret2
        exact ⟨rfl, rfl⟩
      · rw [if_neg h, if_neg h]
        have h2 : ¬ (wrap64 (a * b)).tdiv b = a := fun hc => h (hq.1 hc)
        have h3 : ((wrap64 (a * b)).tdiv b != a) = true := by simpa using h2
        obtain ⟨h6, h7⟩ := hf
        clear hq h2 hx ha hb h
        go_enter Tryz.func232, Tryz.ntmps232
        go_wp2_with (go_at_call 244; refine (least_no _ _ _ HL.out).mono ?_; rintro e w' ⟨rfl, rfl⟩)
        go_ret2
        exact ⟨rfl, rfl⟩

end Go.Proofs.YticfhbffoajgcaaGreatDoor
