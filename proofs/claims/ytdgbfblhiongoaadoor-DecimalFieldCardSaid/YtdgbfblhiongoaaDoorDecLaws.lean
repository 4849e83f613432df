/- The laws of layer 2 against the reference: sums, products and quotients, powers, conversions. -/
import Derived.Test.YtdgbfblhiongoaaDoorDecAwake
namespace Go.Proofs.YtdgbfblhiongoaaDoor
open Go.RowKit

theorem fits_of {n : Int} (h : (Lit.int .i64 n).wf = true) : fits n := by
  simp [Lit.wf, IntKind.min, IntKind.max, IntKind.signed, IntKind.bits] at h
  unfold fits; omega

set_option maxHeartbeats 1000000 in
theorem law_arith (a b : Int) (w : World) (hU : unitsAt w) :
    Calls Tryd.prog 3 #[.int .i64 a, .int .i64 b] w fun e w' => e = .returned (.bool true) ∧ Below w.heap.size w w' := by
  have H1 : Hid (∀ w, Calls Tryd.prog 11 #[.int .i64 a, .int .i64 b] w fun e w' => e = .returned (.tuple #[.int .i64 (sumV a b), .int .i64 (sumE a b)]) ∧ w = w') := fun w => dadd_any a b w
  have H2 : Hid (∀ w, Calls Tryd.prog 12 #[.int .i64 a, .int .i64 b] w fun e w' => e = .returned (.tuple #[.int .i64 (sumV a b), .int .i64 (sumE a b)]) ∧ w = w') := fun w => radd_any a b w
  have H3 : Hid (∀ w, Calls Tryd.prog 13 #[.int .i64 a, .int .i64 b] w fun e w' => e = .returned (.tuple #[.int .i64 (difV a b), .int .i64 (difE a b)]) ∧ w = w') := fun w => dsub_any a b w
  have H4 : Hid (∀ w, Calls Tryd.prog 14 #[.int .i64 a, .int .i64 b] w fun e w' => e = .returned (.tuple #[.int .i64 (difV a b), .int .i64 (difE a b)]) ∧ w = w') := fun w => rsub_any a b w
  have H5 : Hid (∀ w, Calls Tryd.prog 15 #[.int .i64 a, .int .i64 b] w fun e w' => e = .returned (.tuple #[.int .i64 (proV a b), .int .i64 (proE a b)]) ∧ w = w') := fun w => dmul_any a b w
  have H6 : Hid (∀ w, Calls Tryd.prog 16 #[.int .i64 a, .int .i64 b] w fun e w' => e = .returned (.tuple #[.int .i64 (proV a b), .int .i64 (proE a b)]) ∧ w = w') := fun w => rdmul_any a b w
  have H7 : Hid (∀ w, Calls Tryd.prog 17 #[.int .i64 a, .int .i64 b] w fun e w' => e = .returned (.tuple #[.int .i64 (quoV a b), .int .i64 (quoE a b)]) ∧ w = w') := fun w => ddiv_any a b w
  have H8 : Hid (∀ w, Calls Tryd.prog 18 #[.int .i64 a, .int .i64 b] w fun e w' => e = .returned (.tuple #[.int .i64 (quoV a b), .int .i64 (quoE a b)]) ∧ w = w') := fun w => rdiv_any a b w
  have H9 : Hid (∀ w, Calls Tryd.prog 19 #[.int .i64 a, .int .i64 b] w fun e w' => e = .returned (.tuple #[.int .i64 (modV a b), .int .i64 (modE a b)]) ∧ w = w') := fun w => dmod_any a b w
  have H10 : Hid (∀ w, Calls Tryd.prog 20 #[.int .i64 a, .int .i64 b] w fun e w' => e = .returned (.tuple #[.int .i64 (modV a b), .int .i64 (modE a b)]) ∧ w = w') := fun w => rmod_any a b w
  have H11 : Hid (∀ w, Calls Tryd.prog 21 #[.int .i64 a] w fun e w' => e = .returned (.bool (vB a)) ∧ w = w') := fun w => valid_any a w
  have H12 : Hid (∀ w, Calls Tryd.prog 22 #[.int .i64 a] w fun e w' => e = .returned (.bool (vB a)) ∧ w = w') := fun w => rvalid_any a w
  have HU := Lib.hid hU
  clear hU
  generalize sumV a b = x1 at *
  generalize sumE a b = x2 at *
  generalize difV a b = y1 at *
  generalize difE a b = y2 at *
  generalize proV a b = z1 at *
  generalize proE a b = z2 at *
  generalize quoV a b = u1 at *
  generalize quoE a b = u2 at *
  generalize modV a b = v1 at *
  generalize modE a b = v2 at *
  generalize vB a = t at *
  cases t
  all_goals
    go_enter Tryd.func3, Tryd.ntmps3
    go_wp2_with (first | (go_at_call 11; refine (H1.out _).mono ?_; rintro e w' ⟨rfl, rfl⟩) | (go_at_call 12; refine (H2.out _).mono ?_; rintro e w' ⟨rfl, rfl⟩) | (go_at_call 13; refine (H3.out _).mono ?_; rintro e w' ⟨rfl, rfl⟩) | (go_at_call 14; refine (H4.out _).mono ?_; rintro e w' ⟨rfl, rfl⟩) | (go_at_call 15; refine (H5.out _).mono ?_; rintro e w' ⟨rfl, rfl⟩) | (go_at_call 16; refine (H6.out _).mono ?_; rintro e w' ⟨rfl, rfl⟩) | (go_at_call 17; refine (H7.out _).mono ?_; rintro e w' ⟨rfl, rfl⟩) | (go_at_call 18; refine (H8.out _).mono ?_; rintro e w' ⟨rfl, rfl⟩) | (go_at_call 19; refine (H9.out _).mono ?_; rintro e w' ⟨rfl, rfl⟩) | (go_at_call 20; refine (H10.out _).mono ?_; rintro e w' ⟨rfl, rfl⟩) | (go_at_call 21; refine (H11.out _).mono ?_; rintro e w' ⟨rfl, rfl⟩) | (go_at_call 22; refine (H12.out _).mono ?_; rintro e w' ⟨rfl, rfl⟩) | (go_at_call 23; refine (awake_any _ HU.out).mono ?_; rintro e w1 ⟨rfl, hb⟩))
    go_ret
    exact ⟨rfl, hb⟩

theorem law_powers (a n : Int) (w : World) (hU : unitsAt w) :
    Calls Tryd.prog 4 #[.int .i64 a, .int .i64 n] w fun e w' => e = .returned (.bool true) ∧ Below w.heap.size w w' := by
  have H1 : Hid (∀ w, Calls Tryd.prog 24 #[.int .i64 a, .int .i64 n] w fun e w' => e = .returned (.tuple #[.int .i64 (pwV a n), .int .i64 (pwE a n)]) ∧ w = w') := fun w => dpow_any a n w
  have H2 : Hid (∀ w, Calls Tryd.prog 25 #[.int .i64 a, .int .i64 n] w fun e w' => e = .returned (.tuple #[.int .i64 (pwV a n), .int .i64 (pwE a n)]) ∧ w = w') := fun w => rdpow_any a n w
  have HU := Lib.hid hU
  clear hU
  generalize pwV a n = x1 at *
  generalize pwE a n = x2 at *
  go_enter Tryd.func4, Tryd.ntmps4
  go_wp2_with (first | (go_at_call 24; refine (H1.out _).mono ?_; rintro e w' ⟨rfl, rfl⟩) | (go_at_call 25; refine (H2.out _).mono ?_; rintro e w' ⟨rfl, rfl⟩) | (go_at_call 23; refine (awake_any _ HU.out).mono ?_; rintro e w1 ⟨rfl, hb⟩))
  go_ret
  exact ⟨rfl, hb⟩

theorem law_converts (d n : Int) (w : World) (hU : unitsAt w) :
    Calls Tryd.prog 5 #[.int .i64 d, .int .i64 n] w fun e w' => e = .returned (.bool true) ∧ Below w.heap.size w w' := by
  have H1 : Hid (∀ w, Calls Tryd.prog 26 #[.int .i64 n] w fun e w' => e = .returned (.tuple #[.int .i64 (frV n), .int .i64 (frE n)]) ∧ w = w') := fun w => fromint_any n w
  have H2 : Hid (∀ w, Calls Tryd.prog 27 #[.int .i64 n] w fun e w' => e = .returned (.tuple #[.int .i64 (frV n), .int .i64 (frE n)]) ∧ w = w') := fun w => rfromint_any n w
  have H3 : Hid (∀ w, Calls Tryd.prog 28 #[.int .i64 d] w fun e w' => e = .returned (.int .i64 ((nearV d).tdiv 10000)) ∧ w = w') := fun w => int_any d w
  have H4 : Hid (∀ w, Calls Tryd.prog 29 #[.int .i64 d] w fun e w' => e = .returned (.int .i64 ((nearV d).tdiv 10000)) ∧ w = w') := fun w => rint_any d w
  have H5 : Hid (∀ w, unitsAt w → Calls Tryd.prog 30 #[.int .i64 d, .int .i64 n] w fun e w' => e = .returned (.int .i64 (rouV d n)) ∧ w = w') := fun w h => round_any d n w h
  have H6 : Hid (∀ w, Calls Tryd.prog 31 #[.int .i64 d, .int .i64 n] w fun e w' => e = .returned (.int .i64 (rouV d n)) ∧ w = w') := fun w => rround_any d n w
  have HU := Lib.hid hU
  clear hU
  generalize frV n = x1 at *
  generalize frE n = x2 at *
  generalize (nearV d).tdiv 10000 = x3 at *
  generalize rouV d n = x4 at *
  go_enter Tryd.func5, Tryd.ntmps5
  go_wp2_with (first | (go_at_call 26; refine (H1.out _).mono ?_; rintro e w' ⟨rfl, rfl⟩) | (go_at_call 27; refine (H2.out _).mono ?_; rintro e w' ⟨rfl, rfl⟩) | (go_at_call 28; refine (H3.out _).mono ?_; rintro e w' ⟨rfl, rfl⟩) | (go_at_call 29; refine (H4.out _).mono ?_; rintro e w' ⟨rfl, rfl⟩) | (go_at_call 30; refine (H5.out _ HU.out).mono ?_; rintro e w' ⟨rfl, rfl⟩) | (go_at_call 31; refine (H6.out _).mono ?_; rintro e w' ⟨rfl, rfl⟩) | (go_at_call 23; refine (awake_any _ HU.out).mono ?_; rintro e w1 ⟨rfl, hb⟩))
  go_ret
  exact ⟨rfl, hb⟩

end Go.Proofs.YtdgbfblhiongoaaDoor
