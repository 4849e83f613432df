/- The reference's sum, difference and product: they are the functions of XNumMath. -/
import Derived.Test.YtpaoiomnaopalaaNumWalks
namespace Go.Proofs.Ytpaoiomnaopalaa
open Go.RowKit

set_option maxHeartbeats 400000 in
theorem radd_any (a b : Int) (w : World) (ha : fits a) (hb : fits b) :
    Calls Try.prog 9 #[.int .i64 a, .int .i64 b] w fun e w' => e = .returned (.tuple #[.int .i64 (addV a b), .int .i64 (addE a b)]) ∧ w = w' := by
  obtain ⟨a1, a2⟩ := ha
  obtain ⟨b1, b2⟩ := hb
  unfold addV addE
  by_cases h : fits (a + b)
  · rw [if_pos h, if_pos h]
    obtain ⟨h1, h2⟩ := h
    have hs : (0 < b ∧ ¬ 9223372036854775807 - b < a) ∨ (b < 0 ∧ ¬ a < -9223372036854775808 - b) ∨ b = 0 := by omega
    rcases hs with ⟨hs, ht⟩ | ⟨hs, ht⟩ | rfl
    rotate_left 2
    · rw [Int.add_zero] at *
      go_enter Try.func9, Try.ntmps9
      go_wp2
      all_goals (go_ret2; exact ⟨rfl, rfl⟩)
    all_goals
      go_enter Try.func9, Try.ntmps9
      go_wp2
      all_goals (go_ret2; exact ⟨rfl, rfl⟩)
  · rw [if_neg h, if_neg h]
    have hs : (0 < b ∧ 9223372036854775807 - b < a) ∨ (b < 0 ∧ a < -9223372036854775808 - b) := by unfold fits at h; omega
    clear h
    rcases hs with ⟨hs, ht⟩ | ⟨hs, ht⟩
    all_goals
      go_enter Try.func9, Try.ntmps9
      go_wp2
      all_goals (go_ret2; exact ⟨rfl, rfl⟩)

set_option maxHeartbeats 400000 in
theorem rsub_any (a b : Int) (w : World) (ha : fits a) (hb : fits b) :
    Calls Try.prog 11 #[.int .i64 a, .int .i64 b] w fun e w' => e = .returned (.tuple #[.int .i64 (subV a b), .int .i64 (subE a b)]) ∧ w = w' := by
  obtain ⟨a1, a2⟩ := ha
  obtain ⟨b1, b2⟩ := hb
  unfold subV subE
  by_cases h : fits (a - b)
  · rw [if_pos h, if_pos h]
    obtain ⟨h1, h2⟩ := h
    have hs : (b < 0 ∧ ¬ 9223372036854775807 + b < a) ∨ (0 < b ∧ ¬ a < -9223372036854775808 + b) ∨ b = 0 := by omega
    rcases hs with ⟨hs, ht⟩ | ⟨hs, ht⟩ | rfl
    rotate_left 2
    · rw [Int.sub_zero] at *
      go_enter Try.func11, Try.ntmps11
      go_wp2
      all_goals (go_ret2; exact ⟨rfl, rfl⟩)
    all_goals
      go_enter Try.func11, Try.ntmps11
      go_wp2
      all_goals (go_ret2; exact ⟨rfl, rfl⟩)
  · rw [if_neg h, if_neg h]
    have hs : (b < 0 ∧ 9223372036854775807 + b < a) ∨ (0 < b ∧ a < -9223372036854775808 + b) := by unfold fits at h; omega
    clear h
    rcases hs with ⟨hs, ht⟩ | ⟨hs, ht⟩
    all_goals
      go_enter Try.func11, Try.ntmps11
      go_wp2
      all_goals (go_ret2; exact ⟨rfl, rfl⟩)

theorem minus_least (b : Int) (h : b = -9223372036854775808) : ¬ fits (-1 * b) := by subst h; decide
theorem beq_tf {a b : Int} (h : ¬ (a == b) = true) : (a == b) = false := by simpa using h

set_option maxHeartbeats 400000 in
theorem rmul_any (a b : Int) (w : World) (ha : fits a) (hb : fits b) :
    Calls Try.prog 13 #[.int .i64 a, .int .i64 b] w fun e w' => e = .returned (.tuple #[.int .i64 (mulV a b), .int .i64 (mulE a b)]) ∧ w = w' := by
  unfold mulV mulE
  by_cases z0 : a = 0
  · subst z0
    rw [if_pos (by rw [Int.zero_mul]; decide), if_pos (by rw [Int.zero_mul]; decide), Int.zero_mul]
    clear ha hb
    go_enter Try.func13, Try.ntmps13
    go_wp2
    all_goals (go_ret2; exact ⟨rfl, rfl⟩)
  · have za : (a == 0) = false := by simpa using z0
    by_cases h0 : b = 0
    · subst h0
      rw [if_pos (mul_zero_fits a), if_pos (mul_zero_fits a), Int.mul_zero]
      clear ha hb z0
      go_enter Try.func13, Try.ntmps13
      go_wp2
      all_goals (go_ret2; exact ⟨rfl, rfl⟩)
    · have zb : (b == 0) = false := by simpa using h0
      by_cases hx : a = -9223372036854775808 ∧ b = -1
      · obtain ⟨rfl, rfl⟩ := hx
        rw [if_neg least_fits, if_neg least_fits]
        clear ha hb z0 za h0 zb
        go_enter Try.func13, Try.ntmps13
        go_wp2
        all_goals (go_ret2; exact ⟨rfl, rfl⟩)
      · by_cases hy : a = -1 ∧ b = -9223372036854775808
        · obtain ⟨rfl, rfl⟩ := hy
          rw [if_neg (minus_least _ rfl), if_neg (minus_least _ rfl)]
          clear ha hb z0 za h0 zb hx
          go_enter Try.func13, Try.ntmps13
          go_wp2
          all_goals (go_ret2; exact ⟨rfl, rfl⟩)
        · have hq := mul_quo a b hb h0 hx
          have hf := mul_quo_fits a b ha hx
          have s1 : (a == -1) = true ∧ (b == -9223372036854775808) = false ∨ (a == -1) = false := by
            by_cases q : a = -1
            · exact .inl ⟨by simpa using q, by simp; exact fun hc => hy ⟨q, hc⟩⟩
            · exact .inr (by simpa using q)
          have s2 : (b == -1) = true ∧ (a == -9223372036854775808) = false ∨ (b == -1) = false := by
            by_cases q : b = -1
            · exact .inl ⟨by simpa using q, by simp; exact fun hc => hx ⟨hc, q⟩⟩
            · exact .inr (by simpa using q)
          clear hx hy
          by_cases h : fits (a * b)
          · rw [if_pos h, if_pos h]
            obtain ⟨h4, h5⟩ := h
            obtain ⟨h6, h7⟩ := ha
            clear hq hf hb
            rcases s1 with ⟨s1, s3⟩ | s1 <;> rcases s2 with ⟨s2, s4⟩ | s2
            all_goals
              go_enter Try.func13, Try.ntmps13
              go_wp2
              all_goals (go_ret2; exact ⟨rfl, rfl⟩)
          · rw [if_neg h, if_neg h]
            have h2 : ¬ (wrap64 (a * b)).tdiv b = a := fun hc => h (hq.1 hc)
            have h3 : ((wrap64 (a * b)).tdiv b != a) = true := by simpa using h2
            obtain ⟨h6, h7⟩ := hf
            clear hq h2 ha hb h
            rcases s1 with ⟨s1, s3⟩ | s1 <;> rcases s2 with ⟨s2, s4⟩ | s2
            all_goals
              go_enter Try.func13, Try.ntmps13
              go_wp2
              all_goals (go_ret2; exact ⟨rfl, rfl⟩)

end Go.Proofs.Ytpaoiomnaopalaa
