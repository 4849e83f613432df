/- The laws of layer 2 that don't use the reference: nearest multiples, cuts. -/
import Derived.Test.YtdgbfblhiongoaaDoorDecLaws
import Derived.Test.YtdgbfblhiongoaaDoorDecLawMath
namespace Go.Proofs.YtdgbfblhiongoaaDoor
open Go.RowKit

theorem lsize_any (d : Int) (w : World) (hd : -9223372036854775807 ≤ d ∧ d ≤ 9223372036854775807) : Calls Tryd.prog 38 #[.int .i64 d] w fun e w' => e = .returned (.int .i64 (abV d)) ∧ w = w' := by
  obtain ⟨d1, d2⟩ := hd
  unfold abV
  by_cases h1 : d < 0
  · rw [if_pos h1]
    go_enter Tryd.func38, Tryd.ntmps38
    go_wp2
    go_ret
    exact ⟨rfl, rfl⟩
  · rw [if_neg h1]
    go_enter Tryd.func38, Tryd.ntmps38
    go_wp2
    go_ret
    exact ⟨rfl, rfl⟩

/-- The walk of the law of nearest multiples: u is the unit, r the rounded number, y its distance. -/
theorem near_walk (d p u r y : Int) (w : World) (d1 : -10000000000000 ≤ d) (d2 : d ≤ 10000000000000) (p1 : 0 ≤ p) (p2 : p ≤ 4) (r1 : -10000000000000 ≤ r) (r2 : r ≤ 10000000000000)
    (u1 : 1 ≤ u) (u2 : u ≤ 10000) (hu : Hid (unitV p = u)) (hm : (r.tmod u != 0) = false) (y1 : 0 ≤ y) (y2 : y ≤ 10000) (hy : ¬ u < 2 * y) (hz : 2 * y < u ∨ ¬ 2 * y < u ∧ abV d < abV r)
    (HU : Hid (unitsAt w))
    (HR : Hid (∀ w, unitsAt w → Calls Tryd.prog 30 #[.int .i64 d, .int .i64 p] w fun e w' => e = .returned (.int .i64 r) ∧ w = w'))
    (HQ : Hid (∀ w, unitsAt w → Calls Tryd.prog 30 #[.int .i64 r, .int .i64 p] w fun e w' => e = .returned (.int .i64 r) ∧ w = w'))
    (HV : Hid (∀ w, Calls Tryd.prog 21 #[.int .i64 r] w fun e w' => e = .returned (.bool true) ∧ w = w'))
    (HY : Hid (∀ w, Calls Tryd.prog 38 #[.int .i64 (r - d)] w fun e w' => e = .returned (.int .i64 y) ∧ w = w'))
    (HA : Hid (∀ w, Calls Tryd.prog 38 #[.int .i64 r] w fun e w' => e = .returned (.int .i64 (abV r)) ∧ w = w'))
    (HB : Hid (∀ w, Calls Tryd.prog 38 #[.int .i64 d] w fun e w' => e = .returned (.int .i64 (abV d)) ∧ w = w')) :
    Calls Tryd.prog 8 #[.int .i64 d, .int .i64 p] w fun e w' => e = .returned (.bool true) ∧ Below w.heap.size w w' := by
  have u0 : ¬ u = 0 := by omega
  have u0' : (u == 0) = false := by simpa using u0
  have hrr : (r != r) = false := by simp
  generalize abV d = ad at *
  generalize abV r = ar at *
  obtain ⟨P, rfl⟩ : ∃ P : Nat, p = (P : Int) := ⟨p.toNat, by omega⟩
  go_enter Tryd.func8, Tryd.ntmps8
  go_wp2
  go_loop [5, 6] (fun v i => ∃ (k : Nat) (x : Int), k ≤ P ∧ i = .int .i64 k ∧ v = .int .i64 x ∧ 1 ≤ x ∧ x ≤ 10000 ∧ Hid (unitV k = x)) (fun _ i => P - (intOf i).toNat)
  case atStart => exact ⟨0, 10000, Nat.zero_le _, rfl, rfl, by omega, by omega, rfl⟩
  case round =>
    obtain ⟨k, x, hk, rfl, rfl, x1, x2, hx⟩ := hrel
    by_cases hlt : k < P
    · have hn : Hid (unitV ((k : Int) + 1) = x / 10) := by
        have := hx.out
        show unitV ((k : Int) + 1) = x / 10
        rcases unit_cases k with ⟨a, e⟩ | ⟨a, e⟩ | ⟨a, e⟩ | ⟨a, e⟩ | ⟨a, e⟩ <;> rcases unit_cases ((k : Int) + 1) with ⟨b, f⟩ | ⟨b, f⟩ | ⟨b, f⟩ | ⟨b, f⟩ | ⟨b, f⟩ <;> omega
      have x3 : 1 ≤ x / 10 := by
        have := hn.out
        rcases unit_cases ((k : Int) + 1) with ⟨b, f⟩ | ⟨b, f⟩ | ⟨b, f⟩ | ⟨b, f⟩ | ⟨b, f⟩ <;> omega
      clear hx
      go_wp2
      go_round
      case rel => exact ⟨k + 1, x / 10, by omega, by go_num, rfl, x3, by omega, hn⟩
      case measure => simp [intOf]; omega
    · obtain rfl : k = P := by omega
      obtain rfl : x = u := by rw [← hx.out, ← hu.out]
      clear hx
      rcases hz with hz | ⟨hz, hz2⟩
      all_goals
        go_wp2_with (first | (go_at_call 30; first | ((with_reducible refine (HR.out _ HU.out).mono ?_); rintro e w' ⟨rfl, rfl⟩) | ((with_reducible refine (HQ.out _ HU.out).mono ?_); rintro e w' ⟨rfl, rfl⟩)) | (go_at_call 21; refine (HV.out _).mono ?_; rintro e w' ⟨rfl, rfl⟩) | (go_at_call 38; first | ((with_reducible refine (HY.out _).mono ?_); rintro e w' ⟨rfl, rfl⟩) | ((with_reducible refine (HA.out _).mono ?_); rintro e w' ⟨rfl, rfl⟩) | ((with_reducible refine (HB.out _).mono ?_); rintro e w' ⟨rfl, rfl⟩)) | (go_at_call 23; refine (awake_any _ HU.out).mono ?_; rintro e w1 ⟨rfl, hb⟩))
        go_ret
        exact ⟨rfl, hb⟩

set_option maxHeartbeats 400000 in
theorem law_nearest (d p : Int) (w : World) (hU : unitsAt w) :
    Calls Tryd.prog 8 #[.int .i64 d, .int .i64 p] w fun e w' => e = .returned (.bool true) ∧ Below w.heap.size w w' := by
  by_cases hd : vB d = true
  · obtain ⟨d1, d2⟩ := (vB_iff d).1 hd
    by_cases p1 : 0 ≤ p
    · by_cases p2 : p ≤ 4
      · obtain ⟨n1, n2, n3, n4, n5⟩ := nearest d p hd
        obtain ⟨r1, r2⟩ := (vB_iff _).1 n1
        have hu : 1 ≤ unitV p ∧ unitV p ≤ 10000 := by
          rcases unit_cases p with ⟨_, e⟩ | ⟨_, e⟩ | ⟨_, e⟩ | ⟨_, e⟩ | ⟨_, e⟩ <;> rw [e] <;> omega
        refine near_walk d p (unitV p) (rouV d p) (abV (rouV d p - d)) w d1 d2 p1 p2 r1 r2 hu.1 hu.2 rfl (by rw [n2]; rfl) (abV_pos _) (by omega) (by omega) ?_ hU ?_ ?_ ?_ ?_ ?_ ?_
        · by_cases h : 2 * abV (rouV d p - d) < unitV p
          · exact .inl h
          · exact .inr ⟨h, n5.resolve_left h⟩
        · exact fun w h => round_any d p w h
        · intro w h
          have := round_any (rouV d p) p w h
          rw [n4] at this; exact this
        · intro w
          have := valid_any (rouV d p) w
          rw [n1] at this; exact this
        · exact fun w => lsize_any _ w ⟨by omega, by omega⟩
        · exact fun w => lsize_any _ w ⟨by omega, by omega⟩
        · exact fun w => lsize_any _ w ⟨by omega, by omega⟩
      · have p3 : ¬ p < 0 := by omega
        have p4 : 4 < p := by omega
        have HU := Lib.hid hU
        clear hU hd p2
        go_enter Tryd.func8, Tryd.ntmps8
        go_wp2_with (go_at_call 23; refine (awake_any _ HU.out).mono ?_; rintro e w1 ⟨rfl, hb⟩)
        all_goals first | (exfalso; omega) | (go_ret; exact ⟨rfl, hb⟩)
    · have p3 : p < 0 := by omega
      have HU := Lib.hid hU
      clear hU hd p1
      go_enter Tryd.func8, Tryd.ntmps8
      go_wp2_with (go_at_call 23; refine (awake_any _ HU.out).mono ?_; rintro e w1 ⟨rfl, hb⟩)
      all_goals first | (exfalso; omega) | (go_ret; exact ⟨rfl, hb⟩)
  · have hx : d < -10000000000000 ∨ (¬ d < -10000000000000 ∧ 10000000000000 < d) := by
      have := (vB_not d).1 (by simpa using hd)
      omega
    have HU := Lib.hid hU
    clear hU hd
    rcases hx with hx | ⟨hx, hx2⟩
    all_goals
      go_enter Tryd.func8, Tryd.ntmps8
      go_wp2_with (go_at_call 23; refine (awake_any _ HU.out).mono ?_; rintro e w1 ⟨rfl, hb⟩)
      all_goals first | (exfalso; omega) | (go_ret; exact ⟨rfl, hb⟩)

end Go.Proofs.YtdgbfblhiongoaaDoor
