/- Layer 2: the law of cuts, for every two numbers. -/
import Derived.Test.YtdgbfblhiongoaaDoorDecCuts
namespace Go.Proofs.YtdgbfblhiongoaaDoor
open Go.RowKit

theorem left_sign (a b l : Int) (h : (a * b).tmod 10000 = l) (l0 : l ≠ 0) : (decide (0 < a) = true ∧ decide (0 < b) = true ∧ decide (0 < l) = true) ∨ (decide (0 < a) = true ∧ decide (0 < b) = false ∧ decide (0 < l) = false) ∨ (decide (0 < a) = false ∧ decide (0 < b) = true ∧ decide (0 < l) = false) ∨ (decide (0 < a) = false ∧ decide (0 < b) = false ∧ decide (0 < l) = true) := by
  simp only [decide_eq_true_eq, decide_eq_false_iff_not]
  obtain ⟨s1, s2⟩ := tmod_sign (a * b) 10000
  obtain ⟨p1, p2, p3, p4⟩ := mul_sign a b
  have ha : a ≠ 0 := by rintro rfl; rw [Int.zero_mul] at h; exact l0 (by rw [← h]; rfl)
  have hb : b ≠ 0 := by rintro rfl; rw [Int.mul_zero] at h; exact l0 (by rw [← h]; rfl)
  rw [h] at s1 s2
  rcases Int.lt_or_lt_of_ne ha with a1 | a1 <;> rcases Int.lt_or_lt_of_ne hb with b1 | b1
  · have := s1 (Int.le_of_lt (p2 a1 b1)); exact .inr (.inr (.inr ⟨by omega, by omega, by omega⟩))
  · have := s2 (Int.le_of_lt (p4 a1 b1)); exact .inr (.inr (.inl ⟨by omega, by omega, by omega⟩))
  · have := s2 (Int.le_of_lt (p3 a1 b1)); exact .inr (.inl ⟨by omega, by omega, by omega⟩)
  · have := s1 (Int.le_of_lt (p1 a1 b1)); exact .inl ⟨by omega, by omega, by omega⟩
theorem rest_sign (a b k : Int) (h : (a * 10000).tmod b = k) (k0 : k ≠ 0) : (decide (0 < a) = true ∧ decide (0 < k) = true) ∨ (decide (0 < a) = false ∧ decide (0 < k) = false) := by
  simp only [decide_eq_true_eq, decide_eq_false_iff_not]
  obtain ⟨s1, s2⟩ := tmod_sign (a * 10000) b
  rw [h] at s1 s2
  rcases Int.lt_trichotomy a 0 with h1 | h1 | h1
  · have := s2 (by omega); exact .inr ⟨by omega, by omega⟩
  · exact .inr ⟨by omega, by have := s2 (by omega); omega⟩
  · have := s1 (by omega); exact .inl ⟨h1, by omega⟩

set_option maxHeartbeats 1000000 in
theorem law_cuts (m n : Int) (w : World) (hU : unitsAt w) :
    Calls Tryd.prog 9 #[.int .i64 m, .int .i64 n] w fun e w' => e = .returned (.bool true) ∧ Below w.heap.size w w' := by
  generalize hA : m.tmod 1000000001 = a
  generalize hB : n.tmod 1000000001 = b
  have ha := cut_big m
  have hb := cut_big n
  rw [hA] at ha
  rw [hB] at hb
  have va : vB a = true := vB_of a 1000000000 ha (by decide)
  have vb : vB b = true := vB_of b 1000000000 hb (by decide)
  obtain ⟨m1, m2⟩ := mul_bd a b ha hb
  have hP : ∀ p, (a * b).tdiv 10000 = p → a * b - p * 10000 = (a * b).tmod 10000 := fun p hp => by rw [← hp]; exact left_pro a b
  have hls : ∀ d w, -9223372036854775807 ≤ d ∧ d ≤ 9223372036854775807 → Calls Tryd.prog 38 #[.int .i64 d] w fun e w' => e = .returned (.int .i64 (abV d)) ∧ w = w' := fun d w h => lsize_any d w h
  have h10 : abV (10000 : Int) = 10000 := by decide
  have hy := tmod_lt (a * b) 10000 (by decide)
  rw [h10] at hy
  have hyb := (abV_le ((a * b).tmod 10000) 9999).1 (by omega)
  -- the quotient
  have hq0 : b ≠ 0 → ∃ q, (a * 10000).tdiv b = q ∧ (-10000000000000 ≤ q ∧ q ≤ 10000000000000) ∧ (-10000000000000 ≤ q * b ∧ q * b ≤ 10000000000000) ∧ quoV a b = q ∧ quoE a b = 0 ∧ a * 10000 - q * b = (a * 10000).tmod b ∧ abV q = abV a * 10000 / abV b := by
    intro h0
    have h1 : abV (a * 10000) = abV a * 10000 := by rw [← abV_mul, h10]
    have e1 := abV_tdiv2 (a * 10000) b
    rw [h1] at e1
    have ab1 : 0 < abV b := by unfold abV; split <;> omega
    have aa1 : abV a ≤ 1000000000 := (abV_le _ _).2 ha
    have aa0 := abV_pos a
    have e2 : abV a * 10000 / abV b ≤ abV a * 10000 := Int.ediv_le_self _ (by omega)
    have e3 := (abV_le ((a * 10000).tdiv b) 10000000000000).1 (by omega)
    have e4 := tmod_add (a * 10000) b
    have e5 : abV ((a * 10000).tdiv b * b) ≤ 10000000000000 := by
      have : ((a * 10000).tdiv b * b).natAbs ≤ (a * 10000).natAbs := by
        rw [Int.natAbs_mul, Int.natAbs_tdiv]; exact Nat.div_mul_le_self _ _
      rw [abV_nat]; omega
    obtain ⟨y1, y2⟩ := quo_yes a b _ va vb h0 rfl (vB_of _ 10000000000000 e3 (Int.le_refl _))
    exact ⟨_, rfl, e3, (abV_le _ _).1 e5, y1, y2, by omega, e1⟩
  have hdz : b = 0 → ∀ w, Calls Tryd.prog 17 #[.int .i64 a, .int .i64 b] w fun e w' => e = .returned (.tuple #[.int .i64 0, .int .i64 10]) ∧ w = w' := fun h0 w => by
    have := ddiv_any a b w
    unfold quoV quoE at this
    rw [ok_of a b va vb, if_pos rfl, if_pos rfl, if_pos h0, if_pos h0] at this
    exact this
  have div : ∀ (G : Prop),
      (b = 0 → G) →
      (∀ (q sq sa sb : Int), (b == 0) = false → (-10000000000000 ≤ q ∧ q ≤ 10000000000000) → (-10000000000000 ≤ q * b ∧ q * b ≤ 10000000000000) → (0 ≤ sa ∧ sa ≤ 1000000000) → (0 < sb ∧ sb ≤ 1000000000) → ¬ sb = 0 → (sb == 0) = false → (0 ≤ sa * 10000 / sb ∧ sa * 10000 / sb ≤ 10000000000000) → ¬ sa * 10000 / sb < sq →
        (∀ w, Calls Tryd.prog 17 #[.int .i64 a, .int .i64 b] w fun e w' => e = .returned (.tuple #[.int .i64 q, .int .i64 0]) ∧ w = w') →
        (∀ w, Calls Tryd.prog 21 #[.int .i64 q] w fun e w' => e = .returned (.bool true) ∧ w = w') →
        (∀ w, Calls Tryd.prog 38 #[.int .i64 q] w fun e w' => e = .returned (.int .i64 sq) ∧ w = w') →
        (∀ w, Calls Tryd.prog 38 #[.int .i64 a] w fun e w' => e = .returned (.int .i64 sa) ∧ w = w') →
        (∀ w, Calls Tryd.prog 38 #[.int .i64 b] w fun e w' => e = .returned (.int .i64 sb) ∧ w = w') →
        (a * 10000 - q * b = 0 ∨ ∃ k yk, a * 10000 - q * b = k ∧ (k == 0) = false ∧ yk < sb ∧ (∀ w, Calls Tryd.prog 38 #[.int .i64 k] w fun e w' => e = .returned (.int .i64 yk) ∧ w = w') ∧ ((decide (0 < a) = true ∧ decide (0 < k) = true) ∨ (decide (0 < a) = false ∧ decide (0 < k) = false))) → G) → G := by
    intro G g1 g2
    by_cases h0 : b = 0
    · exact g1 h0
    · obtain ⟨q, e1, e2, e3, e4, e5, e6, e7⟩ := hq0 h0
      have ab1 : 0 < abV b := by unfold abV; split <;> omega
      have ab2 : abV b ≤ 1000000000 := (abV_le _ _).2 hb
      have aa0 := abV_pos a
      have aa1 : abV a ≤ 1000000000 := (abV_le _ _).2 ha
      have d1 : 0 ≤ abV a * 10000 / abV b := Int.ediv_nonneg (by omega) (by omega)
      have d2 : abV a * 10000 / abV b ≤ abV a * 10000 := Int.ediv_le_self _ (by omega)
      refine g2 q (abV q) (abV a) (abV b) (by simpa using h0) e2 e3 ⟨aa0, aa1⟩ ⟨ab1, ab2⟩ (by omega) (by simp; omega) ⟨d1, by omega⟩ (by omega) (fun w => ?_) (fun w => ?_) (fun w => hls q w ⟨by omega, by omega⟩) (fun w => hls a w ⟨by omega, by omega⟩) (fun w => hls b w ⟨by omega, by omega⟩) ?_
      · have := ddiv_any a b w
        rw [e4, e5] at this; exact this
      · have := valid_any q w
        rw [(vB_iff q).2 e2] at this; exact this
      · by_cases hk : a * 10000 - q * b = 0
        · exact .inl hk
        · have ht := tmod_lt (a * 10000) b h0
          refine .inr ⟨a * 10000 - q * b, abV (a * 10000 - q * b), rfl, by simpa using hk, by rw [e6]; exact ht, fun w => hls _ w ⟨by omega, by omega⟩, rest_sign a b _ e6.symm hk⟩
  rcases tf (vB ((a * b).tdiv 10000)) with hv | hv
  · obtain ⟨v1, v2⟩ := (vB_iff _).1 hv
    obtain ⟨w1, w2⟩ := pro_yes a b _ va vb rfl hv
    have HM : ∀ w, Calls Tryd.prog 15 #[.int .i64 a, .int .i64 b] w fun e w' => e = .returned (.tuple #[.int .i64 ((a * b).tdiv 10000), .int .i64 0]) ∧ w = w' := fun w => by
      have := dmul_any a b w
      rw [w1, w2] at this; exact this
    have HV : ∀ w, Calls Tryd.prog 21 #[.int .i64 ((a * b).tdiv 10000)] w fun e w' => e = .returned (.bool true) ∧ w = w' := fun w => by
      have := valid_any ((a * b).tdiv 10000) w
      rw [hv] at this; exact this
    have hl := hP _ rfl
    generalize (a * b).tdiv 10000 = p at *
    by_cases l0 : (a * b).tmod 10000 = 0
    · rw [l0] at hl
      refine div _ (fun h0 => ?_) (fun q sq sa sb z0 e2 e3 e4 e5 e6 e7 e8 e9 D1 D2 D3 D4 D5 D6 => ?_)
      · exact cuts_zb m n a b w hA hB ha.1 ha.2 hb.1 hb.2 m1 m2 hU p v1 v2 HM HV hl (fun w => hls 0 w (by decide)) (by simpa using h0) (hdz h0)
      · rcases D6 with hk | ⟨k, yk, hk, k0, k1, k2, k3⟩
        · exact cuts_zz m n a b w hA hB ha.1 ha.2 hb.1 hb.2 m1 m2 hU p v1 v2 HM HV hl (fun w => hls 0 w (by decide)) z0 q sq sa sb e2.1 e2.2 e3.1 e3.2 e4.1 e4.2 e5.1 e5.2 e6 e7 e8.1 e8.2 e9 D1 D2 D3 D4 D5 hk (fun w => hls 0 w (by decide))
        · exact cuts_zn m n a b w hA hB ha.1 ha.2 hb.1 hb.2 m1 m2 hU p v1 v2 HM HV hl (fun w => hls 0 w (by decide)) z0 q sq sa sb e2.1 e2.2 e3.1 e3.2 e4.1 e4.2 e5.1 e5.2 e6 e7 e8.1 e8.2 e9 D1 D2 D3 D4 D5 k yk hk k0 k1 k2 k3
    · have sg := left_sign a b _ rfl l0
      have l0' : ((a * b).tmod 10000 != 0) = true := by simpa using l0
      have HY : ∀ w, Calls Tryd.prog 38 #[.int .i64 ((a * b).tmod 10000)] w fun e w' => e = .returned (.int .i64 (abV ((a * b).tmod 10000))) ∧ w = w' := fun w => hls _ w ⟨by omega, by omega⟩
      have y1 : ¬ 10000 ≤ abV ((a * b).tmod 10000) := by omega
      generalize abV ((a * b).tmod 10000) = y at *
      generalize (a * b).tmod 10000 = l at *
      refine div _ (fun h0 => ?_) (fun q sq sa sb z0 e2 e3 e4 e5 e6 e7 e8 e9 D1 D2 D3 D4 D5 D6 => ?_)
      · exact cuts_nb m n a b w hA hB ha.1 ha.2 hb.1 hb.2 m1 m2 hU p v1 v2 HM HV l y hl l0' y1 HY (by simpa using h0) (hdz h0) sg
      · rcases D6 with hk | ⟨k, yk, hk, k0, k1, k2, k3⟩
        · exact cuts_nz m n a b w hA hB ha.1 ha.2 hb.1 hb.2 m1 m2 hU p v1 v2 HM HV l y hl l0' y1 HY z0 q sq sa sb e2.1 e2.2 e3.1 e3.2 e4.1 e4.2 e5.1 e5.2 e6 e7 e8.1 e8.2 e9 D1 D2 D3 D4 D5 hk (fun w => hls 0 w (by decide)) sg
        · exact cuts_nn m n a b w hA hB ha.1 ha.2 hb.1 hb.2 m1 m2 hU p v1 v2 HM HV l y hl l0' y1 HY z0 q sq sa sb e2.1 e2.2 e3.1 e3.2 e4.1 e4.2 e5.1 e5.2 e6 e7 e8.1 e8.2 e9 D1 D2 D3 D4 D5 k yk hk k0 k1 k2 sg k3
  · have HM : ∀ w, Calls Tryd.prog 15 #[.int .i64 a, .int .i64 b] w fun e w' => e = .returned (.tuple #[.int .i64 0, .int .i64 9]) ∧ w = w' := fun w => by
      have := dmul_any a b w
      unfold proV proE at this
      rw [ok_of a b va vb, if_pos rfl, if_pos rfl, (chk_no _ hv).1, (chk_no _ hv).2] at this
      exact this
    have hbig : ¬ abV (a * b) / 10000 ≤ 10000000000000 := by
      have h1 := abV_tdiv (a * b) 10000 (by decide)
      rw [← h1, abV_le]
      have := (vB_not _).1 hv
      omega
    have y0 := abV_pos (a * b)
    have y1 : abV (a * b) ≤ 1000000000000000000 := (abV_le _ _).2 ⟨m1, m2⟩
    have HY : ∀ w, Calls Tryd.prog 38 #[.int .i64 (a * b)] w fun e w' => e = .returned (.int .i64 (abV (a * b))) ∧ w = w' := fun w => hls _ w ⟨by omega, by omega⟩
    generalize abV (a * b) = y at *
    refine div _ (fun h0 => ?_) (fun q sq sa sb z0 e2 e3 e4 e5 e6 e7 e8 e9 D1 D2 D3 D4 D5 D6 => ?_)
    · exact cuts_ob m n a b w hA hB ha.1 ha.2 hb.1 hb.2 m1 m2 hU y y0 y1 hbig HM HY (by simpa using h0) (hdz h0)
    · rcases D6 with hk | ⟨k, yk, hk, k0, k1, k2, k3⟩
      · exact cuts_oz m n a b w hA hB ha.1 ha.2 hb.1 hb.2 m1 m2 hU y y0 y1 hbig HM HY z0 q sq sa sb e2.1 e2.2 e3.1 e3.2 e4.1 e4.2 e5.1 e5.2 e6 e7 e8.1 e8.2 e9 D1 D2 D3 D4 D5 hk (fun w => hls 0 w (by decide))
      · exact cuts_on m n a b w hA hB ha.1 ha.2 hb.1 hb.2 m1 m2 hU y y0 y1 hbig HM HY z0 q sq sa sb e2.1 e2.2 e3.1 e3.2 e4.1 e4.2 e5.1 e5.2 e6 e7 e8.1 e8.2 e9 D1 D2 D3 D4 D5 k yk hk k0 k1 k2 k3

end Go.Proofs.YtdgbfblhiongoaaDoor
