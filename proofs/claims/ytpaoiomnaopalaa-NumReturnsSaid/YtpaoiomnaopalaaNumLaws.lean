/- The laws of layer 1 that compute with numbers: sums, quotients and what undoes them. -/
import Derived.Test.YtpaoiomnaopalaaNumParseC
import Derived.RowKit3
namespace Go.Proofs.Ytpaoiomnaopalaa
open Go.RowKit

theorem parse5 (w : World) : Calls Try.prog 16 #[.string ⟨#[45, 53]⟩] w fun e w' => e = .returned (.tuple #[.int .i64 (-5), .int .i64 0]) ∧ w = w' :=
  parse_any ⟨#[45, 53]⟩ w (by decide)
theorem div7 (w : World) : Calls Try.prog 15 #[.int .i64 (-7), .int .i64 2] w fun e w' => e = .returned (.tuple #[.int .i64 (-4), .int .i64 0]) ∧ w = w' :=
  div_any (-7) 2 w (by decide)
theorem mulbig (w : World) : Calls Try.prog 12 #[.int .i64 3037000500, .int .i64 3037000500] w fun e w' => e = .returned (.tuple #[.int .i64 0, .int .i64 9]) ∧ w = w' :=
  mul_any 3037000500 3037000500 w (by decide) (by decide)

theorem awake_any (w : World) : Calls Try.prog 14 #[] w fun e w' => e = .returned (.bool true) ∧ w = w' := by
  go_enter Try.func14, Try.ntmps14
  go_wp2_with (first | (go_at_call 16; refine (parse5 _).mono ?_; rintro e w' ⟨rfl, rfl⟩) | (go_at_call 15; refine (div7 _).mono ?_; rintro e w' ⟨rfl, rfl⟩) | (go_at_call 12; refine (mulbig _).mono ?_; rintro e w' ⟨rfl, rfl⟩))
  go_ret
  exact ⟨rfl, rfl⟩

set_option maxHeartbeats 400000 in
theorem law_adds (a b : Int) (w : World) (ha : fits a) (hb : fits b) :
    Calls Try.prog 3 #[.int .i64 a, .int .i64 b] w fun e w' => e = .returned (.bool true) ∧ w = w' := by
  have H1 : Hid (∀ w, Calls Try.prog 8 #[.int .i64 a, .int .i64 b] w fun e w' => e = .returned (.tuple #[.int .i64 (addV a b), .int .i64 (addE a b)]) ∧ w = w') := fun w => add_any a b w ha hb
  have H2 : Hid (∀ w, Calls Try.prog 9 #[.int .i64 a, .int .i64 b] w fun e w' => e = .returned (.tuple #[.int .i64 (addV a b), .int .i64 (addE a b)]) ∧ w = w') := fun w => radd_any a b w ha hb
  have H3 : Hid (∀ w, Calls Try.prog 10 #[.int .i64 a, .int .i64 b] w fun e w' => e = .returned (.tuple #[.int .i64 (subV a b), .int .i64 (subE a b)]) ∧ w = w') := fun w => sub_any a b w ha hb
  have H4 : Hid (∀ w, Calls Try.prog 11 #[.int .i64 a, .int .i64 b] w fun e w' => e = .returned (.tuple #[.int .i64 (subV a b), .int .i64 (subE a b)]) ∧ w = w') := fun w => rsub_any a b w ha hb
  have H5 : Hid (∀ w, Calls Try.prog 12 #[.int .i64 a, .int .i64 b] w fun e w' => e = .returned (.tuple #[.int .i64 (mulV a b), .int .i64 (mulE a b)]) ∧ w = w') := fun w => mul_any a b w ha hb
  have H6 : Hid (∀ w, Calls Try.prog 13 #[.int .i64 a, .int .i64 b] w fun e w' => e = .returned (.tuple #[.int .i64 (mulV a b), .int .i64 (mulE a b)]) ∧ w = w') := fun w => rmul_any a b w ha hb
  generalize addV a b = x1 at *
  generalize addE a b = x2 at *
  generalize subV a b = y1 at *
  generalize subE a b = y2 at *
  generalize mulV a b = z1 at *
  generalize mulE a b = z2 at *
  clear ha hb
  go_enter Try.func3, Try.ntmps3
  go_wp2_with (first | (go_at_call 8; refine (H1.out _).mono ?_; rintro e w' ⟨rfl, rfl⟩) | (go_at_call 9; refine (H2.out _).mono ?_; rintro e w' ⟨rfl, rfl⟩) | (go_at_call 10; refine (H3.out _).mono ?_; rintro e w' ⟨rfl, rfl⟩) | (go_at_call 11; refine (H4.out _).mono ?_; rintro e w' ⟨rfl, rfl⟩) | (go_at_call 12; refine (H5.out _).mono ?_; rintro e w' ⟨rfl, rfl⟩) | (go_at_call 13; refine (H6.out _).mono ?_; rintro e w' ⟨rfl, rfl⟩) | (go_at_call 14; refine (awake_any _).mono ?_; rintro e w' ⟨rfl, rfl⟩))
  go_ret
  exact ⟨rfl, rfl⟩

set_option maxHeartbeats 400000 in
theorem law_divides (a b : Int) (w : World) (ha : fits a) :
    Calls Try.prog 4 #[.int .i64 a, .int .i64 b] w fun e w' => e = .returned (.bool true) ∧ w = w' := by
  have H0 := fun w => div_any a b w ha
  unfold divV divE at H0
  by_cases h0 : b = 0
  · subst h0
    simp only [if_true] at H0
    have H1 := Lib.hid H0
    clear H0 ha
    go_enter Try.func4, Try.ntmps4
    go_wp2_with (first | (go_at_call 15; refine (H1.out _).mono ?_; rintro e w' ⟨rfl, rfl⟩) | (go_at_call 14; refine (awake_any _).mono ?_; rintro e w' ⟨rfl, rfl⟩))
    go_ret
    exact ⟨rfl, rfl⟩
  · rw [if_neg h0, if_neg h0] at H0
    have zb : (b == 0) = false := by simpa using h0
    by_cases hx : a = -9223372036854775808 ∧ b = -1
    · rw [if_pos hx, if_pos hx] at H0
      obtain ⟨rfl, rfl⟩ := hx
      have H1 := Lib.hid H0
      clear H0 ha h0 zb
      go_enter Try.func4, Try.ntmps4
      go_wp2_with (first | (go_at_call 15; refine (H1.out _).mono ?_; rintro e w' ⟨rfl, rfl⟩) | (go_at_call 14; refine (awake_any _).mono ?_; rintro e w' ⟨rfl, rfl⟩))
      go_ret
      exact ⟨rfl, rfl⟩
    · rw [if_neg hx, if_neg hx] at H0
      have s2 : (b == -1) = true ∧ (a == -9223372036854775808) = false ∨ (b == -1) = false := by
        by_cases q : b = -1
        · exact .inl ⟨by simpa using q, by simp; exact fun hc => hx ⟨hc, q⟩⟩
        · exact .inr (by simpa using q)
      obtain ⟨h6, h7⟩ := tdiv_fits a b ha hx
      by_cases hm : (a.tmod b != 0) = true
      · obtain ⟨h8, h9⟩ := tdiv_low a b ha (by simpa using hm)
        have hd : divS a b = (decide (a < 0) != decide (b < 0)) := by unfold divS; rw [hm]; rfl
        rw [hd] at H0
        have sa := tf (decide (a < 0))
        have sb := tf (decide (b < 0))
        clear hx ha hd
        rcases sa with sa | sa <;> rcases sb with sb | sb <;> rw [sa, sb] at H0 <;> simp only [bne_self_eq_false, Bool.true_bne, Bool.false_bne, Bool.not_false, Bool.false_eq_true, if_true, if_false] at H0
        all_goals
          have H1 := Lib.hid H0
          clear H0
          rcases s2 with ⟨s2, s4⟩ | s2
          all_goals
            go_enter Try.func4, Try.ntmps4
            go_wp2_with (first | (go_at_call 15; refine (H1.out _).mono ?_; rintro e w' ⟨rfl, rfl⟩) | (go_at_call 14; refine (awake_any _).mono ?_; rintro e w' ⟨rfl, rfl⟩))
            all_goals (go_ret; exact ⟨rfl, rfl⟩)
      · have hm : (a.tmod b != 0) = false := by simpa using hm
        have H2 : divS a b = false := by unfold divS; rw [hm]; rfl
        rw [H2] at H0
        simp only [Bool.false_eq_true, if_false] at H0
        have H1 := Lib.hid H0
        clear H0 H2 hx ha
        rcases s2 with ⟨s2, s4⟩ | s2
        all_goals
          go_enter Try.func4, Try.ntmps4
          go_wp2_with (first | (go_at_call 15; refine (H1.out _).mono ?_; rintro e w' ⟨rfl, rfl⟩) | (go_at_call 14; refine (awake_any _).mono ?_; rintro e w' ⟨rfl, rfl⟩))
          all_goals (go_ret; exact ⟨rfl, rfl⟩)

theorem addV_comm (a b : Int) : addV b a = addV a b := by unfold addV; rw [Int.add_comm]
theorem addE_comm (a b : Int) : addE b a = addE a b := by unfold addE; rw [Int.add_comm]
theorem mulV_comm (a b : Int) : mulV b a = mulV a b := by unfold mulV; rw [Int.mul_comm]
theorem mulE_comm (a b : Int) : mulE b a = mulE a b := by unfold mulE; rw [Int.mul_comm]

/-- A product divided by one factor is the other one, without a remainder. -/
theorem div_mul (a b : Int) (w : World) (ha : fits a) (h0 : b ≠ 0) (h : fits (a * b)) :
    Calls Try.prog 15 #[.int .i64 (a * b), .int .i64 b] w fun e w' => e = .returned (.tuple #[.int .i64 a, .int .i64 0]) ∧ w = w' := by
  have hx : ¬ (a * b = -9223372036854775808 ∧ b = -1) := by
    rintro ⟨h1, rfl⟩
    unfold fits at ha
    omega
  have hs : divS (a * b) b = false := by
    have : (a * b).tmod b = 0 := by rw [Int.mul_comm]; exact Int.mul_tmod_right b a
    unfold divS; rw [this]; rfl
  refine (div_any (a * b) b w h).mono fun e w' ⟨h1, h2⟩ => ⟨?_, h2⟩
  rw [h1, divV, divE, if_neg h0, if_neg h0, if_neg hx, if_neg hx, hs, mul_fits_div a b h0]
  rfl

/-- The walk of the law, whatever the sum (x, e) and the product (y, f) are; the errors are known. -/
theorem undo_walk (a b x y e f : Int) (w : World)
    (A1 : Hid (∀ w, Calls Try.prog 8 #[.int .i64 a, .int .i64 b] w fun r w' => r = .returned (.tuple #[.int .i64 x, .int .i64 e]) ∧ w = w'))
    (A2 : Hid (∀ w, Calls Try.prog 8 #[.int .i64 b, .int .i64 a] w fun r w' => r = .returned (.tuple #[.int .i64 x, .int .i64 e]) ∧ w = w'))
    (M1 : Hid (∀ w, Calls Try.prog 12 #[.int .i64 a, .int .i64 b] w fun r w' => r = .returned (.tuple #[.int .i64 y, .int .i64 f]) ∧ w = w'))
    (M2 : Hid (∀ w, Calls Try.prog 12 #[.int .i64 b, .int .i64 a] w fun r w' => r = .returned (.tuple #[.int .i64 y, .int .i64 f]) ∧ w = w'))
    (S1 : Hid (e = 0 → ∀ w, Calls Try.prog 10 #[.int .i64 x, .int .i64 b] w fun r w' => r = .returned (.tuple #[.int .i64 a, .int .i64 0]) ∧ w = w'))
    (D1 : Hid (f = 0 → b ≠ 0 → ∀ w, Calls Try.prog 15 #[.int .i64 y, .int .i64 b] w fun r w' => r = .returned (.tuple #[.int .i64 a, .int .i64 0]) ∧ w = w')) :
    Calls Try.prog 7 #[.int .i64 a, .int .i64 b] w fun e w' => e = .returned (.bool true) ∧ w = w' := by
  have ze : (e == 0) = true ∧ Hid (e = 0) ∨ (e == 0) = false := by by_cases q : e = 0; exact .inl ⟨by simpa using q, q⟩; exact .inr (by simpa using q)
  have zf : (f == 0) = true ∧ Hid (f = 0) ∨ (f == 0) = false := by by_cases q : f = 0; exact .inl ⟨by simpa using q, q⟩; exact .inr (by simpa using q)
  have zb : (b != 0) = false ∨ (b != 0) = true ∧ Hid (b ≠ 0) := by by_cases q : b = 0; exact .inl (by simpa using q); exact .inr ⟨by simpa using q, q⟩
  rcases ze with ⟨ze, z1⟩ | ze <;> rcases zf with ⟨zf, z2⟩ | zf <;> rcases zb with zb | ⟨zb, z3⟩
  all_goals
    go_enter Try.func7, Try.ntmps7
    go_wp2_with (first | (go_at_call 8; first | ((with_reducible refine (A1.out _).mono ?_); rintro e w' ⟨rfl, rfl⟩) | ((with_reducible refine (A2.out _).mono ?_); rintro e w' ⟨rfl, rfl⟩)) | (go_at_call 12; first | ((with_reducible refine (M1.out _).mono ?_); rintro e w' ⟨rfl, rfl⟩) | ((with_reducible refine (M2.out _).mono ?_); rintro e w' ⟨rfl, rfl⟩)) | (go_at_call 10; refine (S1.out z1.out _).mono ?_; rintro e w' ⟨rfl, rfl⟩) | (go_at_call 15; refine (D1.out z2.out z3.out _).mono ?_; rintro e w' ⟨rfl, rfl⟩) | (go_at_call 14; refine (awake_any _).mono ?_; rintro e w' ⟨rfl, rfl⟩))
    all_goals (go_ret; exact ⟨rfl, rfl⟩)

theorem law_undoes (a b : Int) (w : World) (ha : fits a) (hb : fits b) :
    Calls Try.prog 7 #[.int .i64 a, .int .i64 b] w fun e w' => e = .returned (.bool true) ∧ w = w' := by
  have A2 := fun w => add_any b a w hb ha
  have M2 := fun w => mul_any b a w hb ha
  rw [addV_comm, addE_comm] at A2
  rw [mulV_comm, mulE_comm] at M2
  refine undo_walk a b (addV a b) (mulV a b) (addE a b) (mulE a b) w (fun w => add_any a b w ha hb) A2 (fun w => mul_any a b w ha hb) M2 ?_ ?_
  · intro he w
    have hf : fits (a + b) := by
      unfold addE at he
      by_cases q : fits (a + b)
      · exact q
      · rw [if_neg q] at he; cases he
    have := sub_yes (a + b) b w hf hb (by rw [Int.add_sub_cancel]; exact ha)
    rw [Int.add_sub_cancel] at this
    rw [addV, if_pos hf]; exact this
  · intro he h0 w
    have hf : fits (a * b) := by
      unfold mulE at he
      by_cases q : fits (a * b)
      · exact q
      · rw [if_neg q] at he; cases he
    rw [mulV, if_pos hf]
    exact div_mul a b w ha h0 hf

theorem fits_of {n : Int} (h : (Lit.int .i64 n).wf = true) : fits n := by
  simp [Lit.wf, IntKind.min, IntKind.max, IntKind.signed, IntKind.bits] at h
  unfold fits; omega
theorem grown_of {w w' : World} (h : w = w') : Grown w w' := h ▸ Grown.refl _

end Go.Proofs.Ytpaoiomnaopalaa
