/- Layer 2: the laws of a ring, as far as nothing overflows. -/
import Derived.Test.YtdgbfblhiongoaaDoorDecCutsB
namespace Go.Proofs.YtdgbfblhiongoaaDoor
open Go.RowKit
set_option linter.unusedVariables false      -- the frame binds names that not every walk uses

theorem small_yes (d : Int) (w : World) (h1 : -1000000000 ≤ d) (h2 : d ≤ 1000000000) : Calls Tryd.prog 39 #[.int .i64 d] w fun e w' => e = .returned (.bool true) ∧ w = w' := by
  go_enter Tryd.func39, Tryd.ntmps39
  go_wp2
  go_ret
  exact ⟨rfl, rfl⟩
theorem small_no (d : Int) (w : World) (h : d < -1000000000 ∨ (-1000000000 ≤ d ∧ 1000000000 < d)) : Calls Tryd.prog 39 #[.int .i64 d] w fun e w' => e = .returned (.bool false) ∧ w = w' := by
  rcases h with h | ⟨h, h2⟩
  · have h3 : decide (-1000000000 ≤ d) = false := decide_eq_false (by omega)
    go_enter Tryd.func39, Tryd.ntmps39
    go_wp2
    go_ret
    exact ⟨rfl, rfl⟩
  · have h3 : decide (d ≤ 1000000000) = false := decide_eq_false (by omega)
    go_enter Tryd.func39, Tryd.ntmps39
    go_wp2
    go_ret
    exact ⟨rfl, rfl⟩

set_option maxHeartbeats 1000000 in
theorem rest_z (a b m q k0 k p sm sb : Int) (w : World) (b0 : (b == 0) = false) (sm1 : ¬ sb ≤ sm) (m0 : (m != 0) = false)
    (H1 : Hid (∀ w, Calls Tryd.prog 19 #[.int .i64 a, .int .i64 b] w fun e w' => e = .returned (.tuple #[.int .i64 m, .int .i64 0]) ∧ w = w'))
    (H2 : Hid (∀ w, Calls Tryd.prog 17 #[.int .i64 a, .int .i64 b] w fun e w' => e = .returned (.tuple #[.int .i64 q, .int .i64 0]) ∧ w = w'))
    (H3 : Hid (∀ w, Calls Tryd.prog 28 #[.int .i64 q] w fun e w' => e = .returned (.int .i64 k0) ∧ w = w'))
    (H4 : Hid (∀ w, Calls Tryd.prog 26 #[.int .i64 k0] w fun e w' => e = .returned (.tuple #[.int .i64 k, .int .i64 0]) ∧ w = w'))
    (H5 : Hid (∀ w, Calls Tryd.prog 15 #[.int .i64 b, .int .i64 k] w fun e w' => e = .returned (.tuple #[.int .i64 p, .int .i64 0]) ∧ w = w'))
    (H6 : Hid (∀ w, Calls Tryd.prog 38 #[.int .i64 m] w fun e w' => e = .returned (.int .i64 sm) ∧ w = w'))
    (H7 : Hid (∀ w, Calls Tryd.prog 38 #[.int .i64 b] w fun e w' => e = .returned (.int .i64 sb) ∧ w = w'))
    (H8 : Hid (∀ w, Calls Tryd.prog 11 #[.int .i64 p, .int .i64 m] w fun e w' => e = .returned (.tuple #[.int .i64 a, .int .i64 0]) ∧ w = w')) :
    Calls Tryd.prog 40 #[.int .i64 a, .int .i64 b] w fun e w' => e = .returned (.bool true) ∧ w = w' := by
  go_enter Tryd.func40, Tryd.ntmps40
  go_wp2_with (first | (go_at_call 19; first | ((with_reducible refine (H1.out _).mono ?_); rintro e w' ⟨rfl, rfl⟩)) | (go_at_call 17; first | ((with_reducible refine (H2.out _).mono ?_); rintro e w' ⟨rfl, rfl⟩)) | (go_at_call 28; first | ((with_reducible refine (H3.out _).mono ?_); rintro e w' ⟨rfl, rfl⟩)) | (go_at_call 26; first | ((with_reducible refine (H4.out _).mono ?_); rintro e w' ⟨rfl, rfl⟩)) | (go_at_call 15; first | ((with_reducible refine (H5.out _).mono ?_); rintro e w' ⟨rfl, rfl⟩)) | (go_at_call 38; first | ((with_reducible refine (H6.out _).mono ?_); rintro e w' ⟨rfl, rfl⟩) | ((with_reducible refine (H7.out _).mono ?_); rintro e w' ⟨rfl, rfl⟩)) | (go_at_call 11; first | ((with_reducible refine (H8.out _).mono ?_); rintro e w' ⟨rfl, rfl⟩)))
  all_goals first | (exfalso; omega) | (go_ret; exact ⟨rfl, rfl⟩)

set_option maxHeartbeats 1000000 in
theorem rest_n (a b m q k0 k p sm sb : Int) (w : World) (b0 : (b == 0) = false) (sm1 : ¬ sb ≤ sm) (m0 : (m != 0) = true) (sg : (decide (0 < m) = true ∧ decide (0 < a) = true) ∨ (decide (0 < m) = false ∧ decide (0 < a) = false))
    (H1 : Hid (∀ w, Calls Tryd.prog 19 #[.int .i64 a, .int .i64 b] w fun e w' => e = .returned (.tuple #[.int .i64 m, .int .i64 0]) ∧ w = w'))
    (H2 : Hid (∀ w, Calls Tryd.prog 17 #[.int .i64 a, .int .i64 b] w fun e w' => e = .returned (.tuple #[.int .i64 q, .int .i64 0]) ∧ w = w'))
    (H3 : Hid (∀ w, Calls Tryd.prog 28 #[.int .i64 q] w fun e w' => e = .returned (.int .i64 k0) ∧ w = w'))
    (H4 : Hid (∀ w, Calls Tryd.prog 26 #[.int .i64 k0] w fun e w' => e = .returned (.tuple #[.int .i64 k, .int .i64 0]) ∧ w = w'))
    (H5 : Hid (∀ w, Calls Tryd.prog 15 #[.int .i64 b, .int .i64 k] w fun e w' => e = .returned (.tuple #[.int .i64 p, .int .i64 0]) ∧ w = w'))
    (H6 : Hid (∀ w, Calls Tryd.prog 38 #[.int .i64 m] w fun e w' => e = .returned (.int .i64 sm) ∧ w = w'))
    (H7 : Hid (∀ w, Calls Tryd.prog 38 #[.int .i64 b] w fun e w' => e = .returned (.int .i64 sb) ∧ w = w'))
    (H8 : Hid (∀ w, Calls Tryd.prog 11 #[.int .i64 p, .int .i64 m] w fun e w' => e = .returned (.tuple #[.int .i64 a, .int .i64 0]) ∧ w = w')) :
    Calls Tryd.prog 40 #[.int .i64 a, .int .i64 b] w fun e w' => e = .returned (.bool true) ∧ w = w' := by
  rcases sg with ⟨g1, g2⟩ | ⟨g1, g2⟩
  all_goals
    go_enter Tryd.func40, Tryd.ntmps40
    go_wp2_with (first | (go_at_call 19; first | ((with_reducible refine (H1.out _).mono ?_); rintro e w' ⟨rfl, rfl⟩)) | (go_at_call 17; first | ((with_reducible refine (H2.out _).mono ?_); rintro e w' ⟨rfl, rfl⟩)) | (go_at_call 28; first | ((with_reducible refine (H3.out _).mono ?_); rintro e w' ⟨rfl, rfl⟩)) | (go_at_call 26; first | ((with_reducible refine (H4.out _).mono ?_); rintro e w' ⟨rfl, rfl⟩)) | (go_at_call 15; first | ((with_reducible refine (H5.out _).mono ?_); rintro e w' ⟨rfl, rfl⟩)) | (go_at_call 38; first | ((with_reducible refine (H6.out _).mono ?_); rintro e w' ⟨rfl, rfl⟩) | ((with_reducible refine (H7.out _).mono ?_); rintro e w' ⟨rfl, rfl⟩)) | (go_at_call 11; first | ((with_reducible refine (H8.out _).mono ?_); rintro e w' ⟨rfl, rfl⟩)))
    all_goals first | (exfalso; omega) | (go_ret; exact ⟨rfl, rfl⟩)

theorem rest_0 (a : Int) (w : World) (H1 : Hid (∀ w, Calls Tryd.prog 19 #[.int .i64 a, .int .i64 0] w fun e w' => e = .returned (.tuple #[.int .i64 0, .int .i64 10]) ∧ w = w')) :
    Calls Tryd.prog 40 #[.int .i64 a, .int .i64 0] w fun e w' => e = .returned (.bool true) ∧ w = w' := by
  go_enter Tryd.func40, Tryd.ntmps40
  go_wp2_with (go_at_call 19; refine (H1.out _).mono ?_; rintro e w' ⟨rfl, rfl⟩)
  go_ret
  exact ⟨rfl, rfl⟩

theorem rest_any (a b : Int) (w : World) (ha : -1000000000 ≤ a ∧ a ≤ 1000000000) (hb : -1000000000 ≤ b ∧ b ≤ 1000000000) :
    Calls Tryd.prog 40 #[.int .i64 a, .int .i64 b] w fun e w' => e = .returned (.bool true) ∧ w = w' := by
  have va : vB a = true := vB_of a 1000000000 ha (by decide)
  have vb : vB b = true := vB_of b 1000000000 hb (by decide)
  by_cases h0 : b = 0
  · subst h0
    refine rest_0 a w (fun w => ?_)
    have := dmod_any a 0 w
    unfold modV modE at this
    rw [ok_of a 0 va vb, if_pos rfl, if_pos rfl, if_pos rfl, if_pos rfl] at this
    exact this
  · have aa0 := abV_pos a
    have aa1 : abV a ≤ 1000000000 := (abV_le _ _).2 ha
    have ab1 : 0 < abV b := by unfold abV; split <;> omega
    have h10 : abV (10000 : Int) = 10000 := by decide
    have hq : -10000000000000 ≤ (a * 10000).tdiv b ∧ (a * 10000).tdiv b ≤ 10000000000000 := by
      have := abs_tdiv_le (a * 10000) b
      have h1 : abV (a * 10000) = abV a * 10000 := by rw [← abV_mul, h10]
      omega
    have hw := quo_whole a b
    have hk : -1000000000 ≤ a.tdiv b ∧ a.tdiv b ≤ 1000000000 := by
      have := abs_tdiv_le a b; omega
    have vq := vB_of _ 10000000000000 hq (Int.le_refl _)
    have vk : vB (a.tdiv b * 10000) = true := vB_of _ 10000000000000 ⟨by omega, by omega⟩ (Int.le_refl _)
    have hp : (b * (a.tdiv b * 10000)).tdiv 10000 = a.tdiv b * b := by
      rw [← Int.mul_assoc, Int.mul_tdiv_cancel _ (by decide), Int.mul_comm]
    have hpb := tdiv_mul_bd a b va
    have vp := vB_of _ 10000000000000 hpb (Int.le_refl _)
    have hmb := tmod_bd a b va
    have vm := vB_of _ 10000000000000 hmb (Int.le_refl _)
    have hs := tmod_add a b
    have hlt := tmod_lt a b h0
    obtain ⟨x1, x2⟩ := mod_yes a b va vb h0
    obtain ⟨x3, x4⟩ := quo_yes a b _ va vb h0 rfl vq
    obtain ⟨x5, x6⟩ := pro_yes b (a.tdiv b * 10000) _ vb vk hp vp
    obtain ⟨x7, x8⟩ := sum_yes (a.tdiv b * b) (a.tmod b) vp vm (by rw [hs]; exact va)
    have H1 : Hid (∀ w, Calls Tryd.prog 19 #[.int .i64 a, .int .i64 b] w fun e w' => e = .returned (.tuple #[.int .i64 (a.tmod b), .int .i64 0]) ∧ w = w') := fun w => by have := dmod_any a b w; rw [x1, x2] at this; exact this
    have H2 : Hid (∀ w, Calls Tryd.prog 17 #[.int .i64 a, .int .i64 b] w fun e w' => e = .returned (.tuple #[.int .i64 ((a * 10000).tdiv b), .int .i64 0]) ∧ w = w') := fun w => by have := ddiv_any a b w; rw [x3, x4] at this; exact this
    have H3 : Hid (∀ w, Calls Tryd.prog 28 #[.int .i64 ((a * 10000).tdiv b)] w fun e w' => e = .returned (.int .i64 (a.tdiv b)) ∧ w = w') := fun w => by have := int_any ((a * 10000).tdiv b) w; rw [near_same _ vq, hw] at this; exact this
    have H4 : Hid (∀ w, Calls Tryd.prog 26 #[.int .i64 (a.tdiv b)] w fun e w' => e = .returned (.tuple #[.int .i64 (a.tdiv b * 10000), .int .i64 0]) ∧ w = w') := fun w => by have := fromint_any (a.tdiv b) w; rw [frV, frE, if_pos hk, if_pos hk] at this; exact this
    have H5 : Hid (∀ w, Calls Tryd.prog 15 #[.int .i64 b, .int .i64 (a.tdiv b * 10000)] w fun e w' => e = .returned (.tuple #[.int .i64 (a.tdiv b * b), .int .i64 0]) ∧ w = w') := fun w => by have := dmul_any b (a.tdiv b * 10000) w; rw [x5, x6] at this; exact this
    have H6 : Hid (∀ w, Calls Tryd.prog 38 #[.int .i64 (a.tmod b)] w fun e w' => e = .returned (.int .i64 (abV (a.tmod b))) ∧ w = w') := fun w => lsize_any _ w ⟨by omega, by omega⟩
    have H7 : Hid (∀ w, Calls Tryd.prog 38 #[.int .i64 b] w fun e w' => e = .returned (.int .i64 (abV b)) ∧ w = w') := fun w => lsize_any _ w ⟨by omega, by omega⟩
    have H8 : Hid (∀ w, Calls Tryd.prog 11 #[.int .i64 (a.tdiv b * b), .int .i64 (a.tmod b)] w fun e w' => e = .returned (.tuple #[.int .i64 a, .int .i64 0]) ∧ w = w') := fun w => by have := dadd_any (a.tdiv b * b) (a.tmod b) w; rw [x7, x8, hs] at this; exact this
    by_cases hm : a.tmod b = 0
    · exact rest_z a b _ _ _ _ _ _ _ w (by simpa using h0) (by omega) (by rw [hm]; rfl) H1 H2 H3 H4 H5 H6 H7 H8
    · obtain ⟨s1, s2⟩ := tmod_sign a b
      refine rest_n a b _ _ _ _ _ _ _ w (by simpa using h0) (by omega) (by simpa using hm) ?_ H1 H2 H3 H4 H5 H6 H7 H8
      rcases Int.lt_trichotomy a 0 with h | h | h
      · have := s2 (by omega); exact .inr ⟨decide_eq_false (by omega), decide_eq_false (by omega)⟩
      · subst h; exact absurd (Int.zero_tmod b) hm
      · have := s1 (by omega); exact .inl ⟨decide_eq_true (by omega), decide_eq_true h⟩

set_option maxHeartbeats 1000000 in
set_option maxRecDepth 100000 in
theorem field_z (a b n c s x y wh p er : Int) (w : World) (n1 : ¬ n < -1000) (n1' : -1000 ≤ n) (n2 : ¬ 1000 < n) (n0 : (n != 0) = false) (HU : Hid (unitsAt w))
    (Z1 : Hid (∀ w, Calls Tryd.prog 39 #[.int .i64 a] w fun e w' => e = .returned (.bool true) ∧ w = w'))
    (Z2 : Hid (∀ w, Calls Tryd.prog 39 #[.int .i64 b] w fun e w' => e = .returned (.bool true) ∧ w = w'))
    (G1 : Hid (∀ w, Calls Tryd.prog 26 #[.int .i64 n] w fun e w' => e = .returned (.tuple #[.int .i64 c, .int .i64 0]) ∧ w = w'))
    (G2 : Hid (∀ w, Calls Tryd.prog 11 #[.int .i64 a, .int .i64 b] w fun e w' => e = .returned (.tuple #[.int .i64 s, .int .i64 0]) ∧ w = w'))
    (G3 : Hid (∀ w, Calls Tryd.prog 11 #[.int .i64 b, .int .i64 a] w fun e w' => e = .returned (.tuple #[.int .i64 s, .int .i64 0]) ∧ w = w'))
    (G4 : Hid (∀ w, Calls Tryd.prog 11 #[.int .i64 x, .int .i64 y] w fun e w' => e = .returned (.tuple #[.int .i64 wh, .int .i64 0]) ∧ w = w'))
    (G5 : Hid (∀ w, Calls Tryd.prog 13 #[.int .i64 s, .int .i64 b] w fun e w' => e = .returned (.tuple #[.int .i64 a, .int .i64 0]) ∧ w = w'))
    (G6 : Hid (∀ w, Calls Tryd.prog 28 #[.int .i64 c] w fun e w' => e = .returned (.int .i64 n) ∧ w = w'))
    (G7 : Hid (∀ w, Calls Tryd.prog 15 #[.int .i64 c, .int .i64 s] w fun e w' => e = .returned (.tuple #[.int .i64 wh, .int .i64 0]) ∧ w = w'))
    (G8 : Hid (∀ w, Calls Tryd.prog 15 #[.int .i64 c, .int .i64 a] w fun e w' => e = .returned (.tuple #[.int .i64 x, .int .i64 0]) ∧ w = w'))
    (G9 : Hid (∀ w, Calls Tryd.prog 15 #[.int .i64 b, .int .i64 c] w fun e w' => e = .returned (.tuple #[.int .i64 y, .int .i64 0]) ∧ w = w'))
    (G10 : Hid (∀ w, Calls Tryd.prog 15 #[.int .i64 a, .int .i64 b] w fun e w' => e = .returned (.tuple #[.int .i64 p, .int .i64 er]) ∧ w = w'))
    (G11 : Hid (∀ w, Calls Tryd.prog 15 #[.int .i64 b, .int .i64 a] w fun e w' => e = .returned (.tuple #[.int .i64 p, .int .i64 er]) ∧ w = w'))
    (G12 : Hid (∀ w, Calls Tryd.prog 40 #[.int .i64 a, .int .i64 b] w fun e w' => e = .returned (.bool true) ∧ w = w')) :
    Calls Tryd.prog 10 #[.int .i64 a, .int .i64 b, .int .i64 n] w fun e w' => e = .returned (.bool true) ∧ Below w.heap.size w w' := by
  go_enter Tryd.func10, Tryd.ntmps10
  go_wp2_with (first | (go_at_call 39; first | ((with_reducible refine (Z1.out _).mono ?_); rintro e w' ⟨rfl, rfl⟩) | ((with_reducible refine (Z2.out _).mono ?_); rintro e w' ⟨rfl, rfl⟩)) | (go_at_call 26; first | ((with_reducible refine (G1.out _).mono ?_); rintro e w' ⟨rfl, rfl⟩)) | (go_at_call 11; first | ((with_reducible refine (G2.out _).mono ?_); rintro e w' ⟨rfl, rfl⟩) | ((with_reducible refine (G3.out _).mono ?_); rintro e w' ⟨rfl, rfl⟩) | ((with_reducible refine (G4.out _).mono ?_); rintro e w' ⟨rfl, rfl⟩)) | (go_at_call 13; first | ((with_reducible refine (G5.out _).mono ?_); rintro e w' ⟨rfl, rfl⟩)) | (go_at_call 28; first | ((with_reducible refine (G6.out _).mono ?_); rintro e w' ⟨rfl, rfl⟩)) | (go_at_call 15; first | ((with_reducible refine (G7.out _).mono ?_); rintro e w' ⟨rfl, rfl⟩) | ((with_reducible refine (G8.out _).mono ?_); rintro e w' ⟨rfl, rfl⟩) | ((with_reducible refine (G9.out _).mono ?_); rintro e w' ⟨rfl, rfl⟩) | ((with_reducible refine (G10.out _).mono ?_); rintro e w' ⟨rfl, rfl⟩) | ((with_reducible refine (G11.out _).mono ?_); rintro e w' ⟨rfl, rfl⟩)) | (go_at_call 40; first | ((with_reducible refine (G12.out _).mono ?_); rintro e w' ⟨rfl, rfl⟩)) | (go_at_call 23; refine (awake_any _ HU.out).mono ?_; rintro e w1 ⟨rfl, hb⟩))
  all_goals first | (exfalso; omega) | (go_ret; exact ⟨rfl, hb⟩)

set_option maxHeartbeats 1000000 in
set_option maxRecDepth 100000 in
theorem field_n (a b n c s x y wh p er : Int) (w : World) (n1 : ¬ n < -1000) (n1' : -1000 ≤ n) (n2 : ¬ 1000 < n) (n0 : (n != 0) = true) (HU : Hid (unitsAt w))
    (Z1 : Hid (∀ w, Calls Tryd.prog 39 #[.int .i64 a] w fun e w' => e = .returned (.bool true) ∧ w = w'))
    (Z2 : Hid (∀ w, Calls Tryd.prog 39 #[.int .i64 b] w fun e w' => e = .returned (.bool true) ∧ w = w'))
    (G1 : Hid (∀ w, Calls Tryd.prog 26 #[.int .i64 n] w fun e w' => e = .returned (.tuple #[.int .i64 c, .int .i64 0]) ∧ w = w'))
    (G2 : Hid (∀ w, Calls Tryd.prog 11 #[.int .i64 a, .int .i64 b] w fun e w' => e = .returned (.tuple #[.int .i64 s, .int .i64 0]) ∧ w = w'))
    (G3 : Hid (∀ w, Calls Tryd.prog 11 #[.int .i64 b, .int .i64 a] w fun e w' => e = .returned (.tuple #[.int .i64 s, .int .i64 0]) ∧ w = w'))
    (G4 : Hid (∀ w, Calls Tryd.prog 11 #[.int .i64 x, .int .i64 y] w fun e w' => e = .returned (.tuple #[.int .i64 wh, .int .i64 0]) ∧ w = w'))
    (G5 : Hid (∀ w, Calls Tryd.prog 13 #[.int .i64 s, .int .i64 b] w fun e w' => e = .returned (.tuple #[.int .i64 a, .int .i64 0]) ∧ w = w'))
    (G6 : Hid (∀ w, Calls Tryd.prog 28 #[.int .i64 c] w fun e w' => e = .returned (.int .i64 n) ∧ w = w'))
    (G7 : Hid (∀ w, Calls Tryd.prog 15 #[.int .i64 c, .int .i64 s] w fun e w' => e = .returned (.tuple #[.int .i64 wh, .int .i64 0]) ∧ w = w'))
    (G8 : Hid (∀ w, Calls Tryd.prog 15 #[.int .i64 c, .int .i64 a] w fun e w' => e = .returned (.tuple #[.int .i64 x, .int .i64 0]) ∧ w = w'))
    (G9 : Hid (∀ w, Calls Tryd.prog 15 #[.int .i64 b, .int .i64 c] w fun e w' => e = .returned (.tuple #[.int .i64 y, .int .i64 0]) ∧ w = w'))
    (G10 : Hid (∀ w, Calls Tryd.prog 15 #[.int .i64 a, .int .i64 b] w fun e w' => e = .returned (.tuple #[.int .i64 p, .int .i64 er]) ∧ w = w'))
    (G11 : Hid (∀ w, Calls Tryd.prog 15 #[.int .i64 b, .int .i64 a] w fun e w' => e = .returned (.tuple #[.int .i64 p, .int .i64 er]) ∧ w = w'))
    (G12 : Hid (∀ w, Calls Tryd.prog 40 #[.int .i64 a, .int .i64 b] w fun e w' => e = .returned (.bool true) ∧ w = w'))
    (G13 : Hid (∀ w, Calls Tryd.prog 17 #[.int .i64 x, .int .i64 c] w fun e w' => e = .returned (.tuple #[.int .i64 a, .int .i64 0]) ∧ w = w')) :
    Calls Tryd.prog 10 #[.int .i64 a, .int .i64 b, .int .i64 n] w fun e w' => e = .returned (.bool true) ∧ Below w.heap.size w w' := by
  go_enter Tryd.func10, Tryd.ntmps10
  go_wp2_with (first | (go_at_call 39; first | ((with_reducible refine (Z1.out _).mono ?_); rintro e w' ⟨rfl, rfl⟩) | ((with_reducible refine (Z2.out _).mono ?_); rintro e w' ⟨rfl, rfl⟩)) | (go_at_call 26; first | ((with_reducible refine (G1.out _).mono ?_); rintro e w' ⟨rfl, rfl⟩)) | (go_at_call 11; first | ((with_reducible refine (G2.out _).mono ?_); rintro e w' ⟨rfl, rfl⟩) | ((with_reducible refine (G3.out _).mono ?_); rintro e w' ⟨rfl, rfl⟩) | ((with_reducible refine (G4.out _).mono ?_); rintro e w' ⟨rfl, rfl⟩)) | (go_at_call 13; first | ((with_reducible refine (G5.out _).mono ?_); rintro e w' ⟨rfl, rfl⟩)) | (go_at_call 28; first | ((with_reducible refine (G6.out _).mono ?_); rintro e w' ⟨rfl, rfl⟩)) | (go_at_call 15; first | ((with_reducible refine (G7.out _).mono ?_); rintro e w' ⟨rfl, rfl⟩) | ((with_reducible refine (G8.out _).mono ?_); rintro e w' ⟨rfl, rfl⟩) | ((with_reducible refine (G9.out _).mono ?_); rintro e w' ⟨rfl, rfl⟩) | ((with_reducible refine (G10.out _).mono ?_); rintro e w' ⟨rfl, rfl⟩) | ((with_reducible refine (G11.out _).mono ?_); rintro e w' ⟨rfl, rfl⟩)) | (go_at_call 40; first | ((with_reducible refine (G12.out _).mono ?_); rintro e w' ⟨rfl, rfl⟩)) | (go_at_call 17; first | ((with_reducible refine (G13.out _).mono ?_); rintro e w' ⟨rfl, rfl⟩)) | (go_at_call 23; refine (awake_any _ HU.out).mono ?_; rintro e w1 ⟨rfl, hb⟩))
  all_goals first | (exfalso; omega) | (go_ret; exact ⟨rfl, hb⟩)

set_option maxRecDepth 100000 in
/-- Numbers that are not small. -/
theorem field_out1 (a b n : Int) (w : World) (HU : Hid (unitsAt w)) (Z1 : Hid (∀ w, Calls Tryd.prog 39 #[.int .i64 a] w fun e w' => e = .returned (.bool false) ∧ w = w')) :
    Calls Tryd.prog 10 #[.int .i64 a, .int .i64 b, .int .i64 n] w fun e w' => e = .returned (.bool true) ∧ Below w.heap.size w w' := by
  go_enter Tryd.func10, Tryd.ntmps10
  go_wp2_with (first | (go_at_call 39; refine (Z1.out _).mono ?_; rintro e w' ⟨rfl, rfl⟩) | (go_at_call 23; refine (awake_any _ HU.out).mono ?_; rintro e w1 ⟨rfl, hb⟩))
  go_ret
  exact ⟨rfl, hb⟩
set_option maxRecDepth 100000 in
theorem field_out2 (a b n : Int) (w : World) (HU : Hid (unitsAt w)) (Z1 : Hid (∀ w, Calls Tryd.prog 39 #[.int .i64 a] w fun e w' => e = .returned (.bool true) ∧ w = w')) (Z2 : Hid (∀ w, Calls Tryd.prog 39 #[.int .i64 b] w fun e w' => e = .returned (.bool false) ∧ w = w')) :
    Calls Tryd.prog 10 #[.int .i64 a, .int .i64 b, .int .i64 n] w fun e w' => e = .returned (.bool true) ∧ Below w.heap.size w w' := by
  go_enter Tryd.func10, Tryd.ntmps10
  go_wp2_with (first | (go_at_call 39; first | ((with_reducible refine (Z1.out _).mono ?_); rintro e w' ⟨rfl, rfl⟩) | ((with_reducible refine (Z2.out _).mono ?_); rintro e w' ⟨rfl, rfl⟩)) | (go_at_call 23; refine (awake_any _ HU.out).mono ?_; rintro e w1 ⟨rfl, hb⟩))
  go_ret
  exact ⟨rfl, hb⟩
set_option maxRecDepth 100000 in
theorem field_out3 (a b n : Int) (w : World) (HU : Hid (unitsAt w)) (Z1 : Hid (∀ w, Calls Tryd.prog 39 #[.int .i64 a] w fun e w' => e = .returned (.bool true) ∧ w = w')) (Z2 : Hid (∀ w, Calls Tryd.prog 39 #[.int .i64 b] w fun e w' => e = .returned (.bool true) ∧ w = w')) (hn : n < -1000 ∨ (¬ n < -1000 ∧ 1000 < n)) :
    Calls Tryd.prog 10 #[.int .i64 a, .int .i64 b, .int .i64 n] w fun e w' => e = .returned (.bool true) ∧ Below w.heap.size w w' := by
  rcases hn with hn | ⟨hn, hn2⟩
  all_goals
    go_enter Tryd.func10, Tryd.ntmps10
    go_wp2_with (first | (go_at_call 39; first | ((with_reducible refine (Z1.out _).mono ?_); rintro e w' ⟨rfl, rfl⟩) | ((with_reducible refine (Z2.out _).mono ?_); rintro e w' ⟨rfl, rfl⟩)) | (go_at_call 23; refine (awake_any _ HU.out).mono ?_; rintro e w1 ⟨rfl, hb⟩))
    all_goals first | (exfalso; omega) | (go_ret; exact ⟨rfl, hb⟩)

theorem pro_whole (n a : Int) : (n * 10000 * a).tdiv 10000 = n * a := by
  rw [Int.mul_assoc, Int.mul_comm 10000 a, ← Int.mul_assoc, Int.mul_tdiv_cancel _ (by decide)]

set_option maxHeartbeats 1000000 in
theorem law_field (a b n : Int) (w : World) (hU : unitsAt w) :
    Calls Tryd.prog 10 #[.int .i64 a, .int .i64 b, .int .i64 n] w fun e w' => e = .returned (.bool true) ∧ Below w.heap.size w w' := by
  by_cases ha : -1000000000 ≤ a ∧ a ≤ 1000000000
  rotate_left
  · exact field_out1 a b n w hU (fun w => small_no a w (by omega))
  by_cases hb : -1000000000 ≤ b ∧ b ≤ 1000000000
  rotate_left
  · exact field_out2 a b n w hU (fun w => small_yes a w ha.1 ha.2) (fun w => small_no b w (by omega))
  by_cases hn : -1000 ≤ n ∧ n ≤ 1000
  rotate_left
  · exact field_out3 a b n w hU (fun w => small_yes a w ha.1 ha.2) (fun w => small_yes b w hb.1 hb.2) (by omega)
  have va : vB a = true := vB_of a 1000000000 ha (by decide)
  have vb : vB b = true := vB_of b 1000000000 hb (by decide)
  have vs : vB (a + b) = true := vB_of _ 2000000000 ⟨by omega, by omega⟩ (by decide)
  have vc : vB (n * 10000) = true := vB_of _ 10000000 ⟨by omega, by omega⟩ (by decide)
  have bx := abs_mul_le n a 1000 1000000000 hn ha
  have bz := abs_mul_le n b 1000 1000000000 hn hb
  have bs := abs_mul_le n (a + b) 1000 2000000000 hn ⟨by omega, by omega⟩
  have vx : vB (n * a) = true := vB_of _ 2000000000000 ⟨by omega, by omega⟩ (by decide)
  have vy : vB (n * b) = true := vB_of _ 2000000000000 ⟨by omega, by omega⟩ (by decide)
  have vw : vB (n * (a + b)) = true := vB_of _ 2000000000000 ⟨by omega, by omega⟩ (by decide)
  have hd : n * a + n * b = n * (a + b) := (Int.mul_add n a b).symm
  have hnn : -1000000000 ≤ n ∧ n ≤ 1000000000 := by omega
  obtain ⟨s1, s2⟩ := sum_yes a b va vb vs
  obtain ⟨s3, s4⟩ := sum_yes b a vb va (by rw [Int.add_comm]; exact vs)
  rw [Int.add_comm b a] at s3
  obtain ⟨s5, s6⟩ := dif_yes (a + b) b vs vb (by rw [Int.add_sub_cancel]; exact va)
  rw [Int.add_sub_cancel] at s5
  obtain ⟨x1, x2⟩ := pro_yes (n * 10000) (a + b) _ vc vs (pro_whole n (a + b)) vw
  obtain ⟨x3, x4⟩ := pro_yes (n * 10000) a _ vc va (pro_whole n a) vx
  obtain ⟨x5, x6⟩ := pro_yes b (n * 10000) (n * b) vb vc (by rw [Int.mul_comm b]; exact pro_whole n b) vy
  obtain ⟨s7, s8⟩ := sum_yes (n * a) (n * b) vx vy (by rw [hd]; exact vw)
  rw [hd] at s7
  have cm1 : proV b a = proV a b := by unfold proV okAB; rw [Int.mul_comm, Bool.and_comm]
  have cm2 : proE b a = proE a b := by unfold proE okAB; rw [Int.mul_comm, Bool.and_comm]
  have hi : (nearV (n * 10000)).tdiv 10000 = n := by rw [near_same _ vc]; exact Int.mul_tdiv_cancel n (by decide)
  have G1 : Hid (∀ w, Calls Tryd.prog 26 #[.int .i64 n] w fun e w' => e = .returned (.tuple #[.int .i64 (n * 10000), .int .i64 0]) ∧ w = w') := fun w => by have := fromint_any n w; rw [frV, frE, if_pos hnn, if_pos hnn] at this; exact this
  have G2 : Hid (∀ w, Calls Tryd.prog 11 #[.int .i64 a, .int .i64 b] w fun e w' => e = .returned (.tuple #[.int .i64 (a + b), .int .i64 0]) ∧ w = w') := fun w => by have := dadd_any a b w; rw [s1, s2] at this; exact this
  have G3 : Hid (∀ w, Calls Tryd.prog 11 #[.int .i64 b, .int .i64 a] w fun e w' => e = .returned (.tuple #[.int .i64 (a + b), .int .i64 0]) ∧ w = w') := fun w => by have := dadd_any b a w; rw [s3, s4] at this; exact this
  have G4 : Hid (∀ w, Calls Tryd.prog 11 #[.int .i64 (n * a), .int .i64 (n * b)] w fun e w' => e = .returned (.tuple #[.int .i64 (n * (a + b)), .int .i64 0]) ∧ w = w') := fun w => by have := dadd_any (n * a) (n * b) w; rw [s7, s8] at this; exact this
  have G5 : Hid (∀ w, Calls Tryd.prog 13 #[.int .i64 (a + b), .int .i64 b] w fun e w' => e = .returned (.tuple #[.int .i64 a, .int .i64 0]) ∧ w = w') := fun w => by have := dsub_any (a + b) b w; rw [s5, s6] at this; exact this
  have G6 : Hid (∀ w, Calls Tryd.prog 28 #[.int .i64 (n * 10000)] w fun e w' => e = .returned (.int .i64 n) ∧ w = w') := fun w => by have := int_any (n * 10000) w; rw [hi] at this; exact this
  have G7 : Hid (∀ w, Calls Tryd.prog 15 #[.int .i64 (n * 10000), .int .i64 (a + b)] w fun e w' => e = .returned (.tuple #[.int .i64 (n * (a + b)), .int .i64 0]) ∧ w = w') := fun w => by have := dmul_any (n * 10000) (a + b) w; rw [x1, x2] at this; exact this
  have G8 : Hid (∀ w, Calls Tryd.prog 15 #[.int .i64 (n * 10000), .int .i64 a] w fun e w' => e = .returned (.tuple #[.int .i64 (n * a), .int .i64 0]) ∧ w = w') := fun w => by have := dmul_any (n * 10000) a w; rw [x3, x4] at this; exact this
  have G9 : Hid (∀ w, Calls Tryd.prog 15 #[.int .i64 b, .int .i64 (n * 10000)] w fun e w' => e = .returned (.tuple #[.int .i64 (n * b), .int .i64 0]) ∧ w = w') := fun w => by have := dmul_any b (n * 10000) w; rw [x5, x6] at this; exact this
  have G10 : Hid (∀ w, Calls Tryd.prog 15 #[.int .i64 a, .int .i64 b] w fun e w' => e = .returned (.tuple #[.int .i64 (proV a b), .int .i64 (proE a b)]) ∧ w = w') := fun w => dmul_any a b w
  have G11 : Hid (∀ w, Calls Tryd.prog 15 #[.int .i64 b, .int .i64 a] w fun e w' => e = .returned (.tuple #[.int .i64 (proV a b), .int .i64 (proE a b)]) ∧ w = w') := fun w => by have := dmul_any b a w; rw [cm1, cm2] at this; exact this
  have G12 : Hid (∀ w, Calls Tryd.prog 40 #[.int .i64 a, .int .i64 b] w fun e w' => e = .returned (.bool true) ∧ w = w') := fun w => rest_any a b w ha hb
  by_cases h0 : n = 0
  · exact field_z a b n _ _ _ _ _ _ _ w (by omega) hn.1 (by omega) (by rw [h0]; rfl) hU (fun w => small_yes a w ha.1 ha.2) (fun w => small_yes b w hb.1 hb.2) G1 G2 G3 G4 G5 G6 G7 G8 G9 G10 G11 G12
  · obtain ⟨q1, q2⟩ := quo_yes (n * a) (n * 10000) a vx vc (by omega) (by
      rw [show n * a * 10000 = a * (n * 10000) by rw [Int.mul_comm n a, Int.mul_assoc]]
      exact Int.mul_tdiv_cancel a (by omega)) va
    have G13 : Hid (∀ w, Calls Tryd.prog 17 #[.int .i64 (n * a), .int .i64 (n * 10000)] w fun e w' => e = .returned (.tuple #[.int .i64 a, .int .i64 0]) ∧ w = w') := fun w => by have := ddiv_any (n * a) (n * 10000) w; rw [q1, q2] at this; exact this
    exact field_n a b n _ _ _ _ _ _ _ w (by omega) hn.1 (by omega) (by simpa using h0) hU (fun w => small_yes a w ha.1 ha.2) (fun w => small_yes b w hb.1 hb.2) G1 G2 G3 G4 G5 G6 G7 G8 G9 G10 G11 G12 G13

end Go.Proofs.YtdgbfblhiongoaaDoor
