/- What the roundings of layer 2 hand back: the program's (over its table of units) and the reference's. -/
import Derived.Test.YtdgbfblhiongoaaDoorDecPow
import Derived.Below
namespace Go.Proofs.YtdgbfblhiongoaaDoor
open Go.RowKit

/-- The table 'units' holds what its initialiser lays. -/
def unitsAt (w : World) : Prop := 0 < w.heap.size ∧ w.cell? ⟨0, 0, none⟩ = some (.int .i64 10000) ∧ w.cell? ⟨0, 1, none⟩ = some (.int .i64 1000) ∧ w.cell? ⟨0, 2, none⟩ = some (.int .i64 100) ∧ w.cell? ⟨0, 3, none⟩ = some (.int .i64 10) ∧ w.cell? ⟨0, 4, none⟩ = some (.int .i64 1)
theorem unitsAt.below {w w' : World} (h : unitsAt w) (hb : Below w.heap.size w w') : unitsAt w' := by
  obtain ⟨h0, h1, h2, h3, h4, h5⟩ := h
  have hc : ∀ o, w'.cell? ⟨0, o, none⟩ = w.cell? ⟨0, o, none⟩ := fun o => hb.cell (p := ⟨0, o, none⟩) h0
  exact ⟨Nat.lt_of_lt_of_le h0 hb.size, by rw [hc, h1], by rw [hc, h2], by rw [hc, h3], by rw [hc, h4], by rw [hc, h5]⟩

def unitV (p : Int) : Int := if p < 1 then 10000 else if p = 1 then 1000 else if p = 2 then 100 else if p = 3 then 10 else 1
def rouP (x u : Int) : Int := if x < 0 then -((-x + u / 2) / u * u) else (x + u / 2) / u * u
def rouV (d p : Int) : Int := rouP (nearV d) (unitV p)

theorem unit_cases (p : Int) : p < 1 ∧ unitV p = 10000 ∨ p = 1 ∧ unitV p = 1000 ∨ p = 2 ∧ unitV p = 100 ∨ p = 3 ∧ unitV p = 10 ∨ 4 ≤ p ∧ unitV p = 1 := by
  unfold unitV
  by_cases h1 : p < 1
  · exact .inl ⟨h1, if_pos h1⟩
  · rw [if_neg h1]
    by_cases h2 : p = 1
    · exact .inr (.inl ⟨h2, if_pos h2⟩)
    · rw [if_neg h2]
      by_cases h3 : p = 2
      · exact .inr (.inr (.inl ⟨h3, if_pos h3⟩))
      · rw [if_neg h3]
        by_cases h4 : p = 3
        · exact .inr (.inr (.inr (.inl ⟨h4, if_pos h4⟩)))
        · rw [if_neg h4]
          exact .inr (.inr (.inr (.inr ⟨by omega, rfl⟩)))

theorem ret_i {a b : Int} (h : a = b) : Ending.returned (.int .i64 a) = .returned (.int .i64 b) := by rw [h]

theorem runit_any (p : Int) (w : World) : Calls Tryd.prog 50 #[.int .i64 p] w fun e w' => e = .returned (.int .i64 (unitV p)) ∧ w = w' := by
  have hu : Hid (∀ k : Int, (4 ≤ k ∨ p ≤ k) → 0 ≤ k → (k = 0 ∨ k ≤ p) → unitV k = unitV p) := by
    intro k h1 h2 h3
    rcases unit_cases k with ⟨a, e⟩ | ⟨a, e⟩ | ⟨a, e⟩ | ⟨a, e⟩ | ⟨a, e⟩ <;> rcases unit_cases p with ⟨b, f⟩ | ⟨b, f⟩ | ⟨b, f⟩ | ⟨b, f⟩ | ⟨b, f⟩ <;> rw [e, f] <;> omega
  go_enter Tryd.func50, Tryd.ntmps50
  go_wp2
  go_loop [3, 4] (fun u i => ∃ (k : Nat) (x : Int), k ≤ 4 ∧ ((k : Int) = 0 ∨ (k : Int) ≤ p) ∧ i = .int .i64 k ∧ u = .int .i64 x ∧ 1 ≤ x ∧ x ≤ 10000 ∧ Hid (unitV k = x)) (fun _ i => 4 - (intOf i).toNat)
  case atStart => exact ⟨0, 10000, by omega, .inl rfl, rfl, rfl, by omega, by omega, rfl⟩
  case round =>
    obtain ⟨k, x, hk, hkp, rfl, rfl, x1, x2, hx⟩ := hrel
    by_cases hlt : (k : Int) < p
    · by_cases h4 : (k : Int) < 4
      · have hn : Hid (unitV ((k : Int) + 1) = x / 10) := by
          have := hx.out
          show unitV ((k : Int) + 1) = x / 10
          rcases unit_cases k with ⟨a, e⟩ | ⟨a, e⟩ | ⟨a, e⟩ | ⟨a, e⟩ | ⟨a, e⟩ <;> rcases unit_cases ((k : Int) + 1) with ⟨b, f⟩ | ⟨b, f⟩ | ⟨b, f⟩ | ⟨b, f⟩ | ⟨b, f⟩ <;> omega
        have x3 : 1 ≤ x / 10 := by
          have := hn.out
          rcases unit_cases ((k : Int) + 1) with ⟨b, f⟩ | ⟨b, f⟩ | ⟨b, f⟩ | ⟨b, f⟩ | ⟨b, f⟩ <;> omega
        clear hx hkp
        go_wp2
        go_round
        case rel => exact ⟨k + 1, x / 10, by omega, .inr (by omega), by go_num, rfl, x3, by omega, hn⟩
        case measure => simp [intOf]; omega
      · have hr : Hid (x = unitV p) := by
          show x = unitV p
          rw [← hx.out]; exact hu.out k (.inl (by omega)) (by omega) hkp
        clear hx hkp
        go_wp2
        go_ret
        exact ⟨ret_i hr.out, rfl⟩
    · have hr : Hid (x = unitV p) := by
        show x = unitV p
        rw [← hx.out]; exact hu.out k (.inr (by omega)) (by omega) hkp
      clear hx hkp
      go_wp2
      go_ret
      exact ⟨ret_i hr.out, rfl⟩

set_option maxHeartbeats 1000000 in
theorem rround_any (d p : Int) (w : World) : Calls Tryd.prog 31 #[.int .i64 d, .int .i64 p] w fun e w' => e = .returned (.int .i64 (rouV d p)) ∧ w = w' := by
  have HU : Hid (∀ w, Calls Tryd.prog 50 #[.int .i64 p] w fun e w' => e = .returned (.int .i64 (unitV p)) ∧ w = w') := fun w => runit_any p w
  have HN : Hid (∀ w, Calls Tryd.prog 49 #[.int .i64 d] w fun e w' => e = .returned (.int .i64 (nearV d)) ∧ w = w') := fun w => rnear_any d w
  obtain ⟨d1, d2⟩ := near_valid d
  unfold rouV
  generalize nearV d = x at *
  have HZ : Hid (∀ w, Calls Tryd.prog 45 #[.int .i64 x] w fun e w' => e = .returned (.int .i64 (abV x)) ∧ w = w') := fun w => rsize_any x w ⟨by omega, by omega⟩
  have hu : unitV p = 10000 ∨ unitV p = 1000 ∨ unitV p = 100 ∨ unitV p = 10 ∨ unitV p = 1 := by
    rcases unit_cases p with ⟨b, f⟩ | ⟨b, f⟩ | ⟨b, f⟩ | ⟨b, f⟩ | ⟨b, f⟩ <;> rw [f] <;> simp
  generalize unitV p = u at *
  unfold rouP
  by_cases hx : x < 0
  · rw [if_pos hx]
    have ha : abV x = -x := by unfold abV; rw [if_pos hx]
    rw [ha] at HZ
    clear ha
    obtain ⟨y, rfl⟩ : ∃ y : Int, x = -y := ⟨-x, by omega⟩
    rw [Int.neg_neg] at HZ ⊢
    have hy : 0 < y := by omega
    have hy2 : y ≤ 10000000000000 := by omega
    clear d1 d2
    rcases hu with rfl | rfl | rfl | rfl | rfl
    all_goals
      go_enter Tryd.func31, Tryd.ntmps31
      go_wp2_with (first | (go_at_call 50; refine (HU.out _).mono ?_; rintro e w' ⟨rfl, rfl⟩) | (go_at_call 49; refine (HN.out _).mono ?_; rintro e w' ⟨rfl, rfl⟩) | (go_at_call 45; refine (HZ.out _).mono ?_; rintro e w' ⟨rfl, rfl⟩))
      go_ret
      exact ⟨ret_i (by simp), rfl⟩
  · rw [if_neg hx]
    have ha : abV x = x := by unfold abV; rw [if_neg hx]
    rw [ha] at HZ
    have d1 : 0 ≤ x := by omega
    clear ha
    rcases hu with rfl | rfl | rfl | rfl | rfl
    all_goals
      go_enter Tryd.func31, Tryd.ntmps31
      go_wp2_with (first | (go_at_call 50; refine (HU.out _).mono ?_; rintro e w' ⟨rfl, rfl⟩) | (go_at_call 49; refine (HN.out _).mono ?_; rintro e w' ⟨rfl, rfl⟩) | (go_at_call 45; refine (HZ.out _).mono ?_; rintro e w' ⟨rfl, rfl⟩))
      go_ret
      exact ⟨ret_i (by simp), rfl⟩

theorem tdiv_negs (x k : Int) (h : x ≤ 0) (_hk : 0 ≤ k) : x.tmod k = -((-x) % k) := by
  have e : x = -(-x) := by omega
  rw [e, Int.neg_tmod, Int.tmod_eq_emod_of_nonneg (by omega)]
  simp

set_option maxHeartbeats 1000000 in
theorem round_any (d p : Int) (w : World) (hU : unitsAt w) : Calls Tryd.prog 30 #[.int .i64 d, .int .i64 p] w fun e w' => e = .returned (.int .i64 (rouV d p)) ∧ w = w' := by
  have HN : Hid (∀ w, Calls Tryd.prog 48 #[.int .i64 d] w fun e w' => e = .returned (.int .i64 (nearV d)) ∧ w = w') := fun w => near_any d w
  obtain ⟨d1, d2⟩ := near_valid d
  obtain ⟨_, u0, u1, u2, u3, u4⟩ := hU
  unfold rouV
  generalize nearV d = x at *
  have hp : p < 0 ∨ p = 0 ∨ p = 1 ∨ p = 2 ∨ p = 3 ∨ p = 4 ∨ 4 < p := by omega
  have hu : Hid (p < 1 ∧ unitV p = 10000 ∨ p = 1 ∧ unitV p = 1000 ∨ p = 2 ∧ unitV p = 100 ∨ p = 3 ∧ unitV p = 10 ∨ 4 ≤ p ∧ unitV p = 1) := unit_cases p
  by_cases hx : x < 0
  · have HE : Hid (∀ u, rouP x u = -((-x + u / 2) / u * u)) := fun u => by unfold rouP; rw [if_pos hx]
    have t1 := tdiv_negs (x - 5000) 10000 (by omega) (by omega)
    have t2 := tdiv_negs (x - 500) 1000 (by omega) (by omega)
    have t3 := tdiv_negs (x - 50) 100 (by omega) (by omega)
    have t4 := tdiv_negs (x - 5) 10 (by omega) (by omega)
    have T := Lib.hid (And.intro t1 (And.intro t2 (And.intro t3 t4)))
    have b1 : -10000 ≤ (x - 5000).tmod 10000 ∧ (x - 5000).tmod 10000 ≤ 0 := by rw [t1]; omega
    have b2 : -10000 ≤ (x - 500).tmod 1000 ∧ (x - 500).tmod 1000 ≤ 0 := by rw [t2]; omega
    have b3 : -10000 ≤ (x - 50).tmod 100 ∧ (x - 50).tmod 100 ≤ 0 := by rw [t3]; omega
    have b4 : -10000 ≤ (x - 5).tmod 10 ∧ (x - 5).tmod 10 ≤ 0 := by rw [t4]; omega
    obtain ⟨b11, b12⟩ := b1
    obtain ⟨b21, b22⟩ := b2
    obtain ⟨b31, b32⟩ := b3
    obtain ⟨b41, b42⟩ := b4
    clear t1 t2 t3 t4
    rcases hp with hp | rfl | rfl | rfl | rfl | rfl | hp
    all_goals
      go_enter Tryd.func30, Tryd.ntmps30
      go_wp2_with (go_at_call 48; refine (HN.out _).mono ?_; rintro e w' ⟨rfl, rfl⟩)
      go_ret
      exact ⟨ret_i (by
        have hu := hu.out
        have := T.out
        rw [HE.out]
        rcases hu with ⟨b, f⟩ | ⟨b, f⟩ | ⟨b, f⟩ | ⟨b, f⟩ | ⟨b, f⟩ <;> rw [f] <;> omega), rfl⟩
  · have HE : Hid (∀ u, rouP x u = (x + u / 2) / u * u) := fun u => by unfold rouP; rw [if_neg hx]
    rcases hp with hp | rfl | rfl | rfl | rfl | rfl | hp
    all_goals
      go_enter Tryd.func30, Tryd.ntmps30
      go_wp2_with (go_at_call 48; refine (HN.out _).mono ?_; rintro e w' ⟨rfl, rfl⟩)
      go_ret
      exact ⟨ret_i (by
        have hu := hu.out
        rw [HE.out]
        rcases hu with ⟨b, f⟩ | ⟨b, f⟩ | ⟨b, f⟩ | ⟨b, f⟩ | ⟨b, f⟩ <;> rw [f] <;> omega), rfl⟩

end Go.Proofs.YtdgbfblhiongoaaDoor
