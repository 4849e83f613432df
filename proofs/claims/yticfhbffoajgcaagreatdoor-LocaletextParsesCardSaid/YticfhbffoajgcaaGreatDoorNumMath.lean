/- Plain arithmetic of 64-bit integers for layer 1: the sign of a bitwise word, sums and products that leave the range. It speaks of no program. -/
import Derived.WalkKit
import Derived.WalkLawsBesides
namespace Go.Proofs.YticfhbffoajgcaaGreatDoor
open Go.RowKit

/-- 'n' fits an int. -/
def fits (n : Int) : Prop := -9223372036854775808 ≤ n ∧ n ≤ 9223372036854775807
instance (n : Int) : Decidable (fits n) := by unfold fits; infer_instance

theorem toInt_of (x : Int) (h : fits x) : (BitVec.ofInt 64 x).toInt = x := by
  unfold fits at h
  rw [BitVec.toInt_ofInt, Int.bmod_def]
  split <;> omega

theorem wrap_toNat (v : BitVec 64) : IntKind.i64.wrap (v.toNat : Int) = v.toInt := by
  rw [BitVec.toInt_eq_toNat_cond]
  have := v.isLt
  simp [IntKind.wrap, IntKind.bits, IntKind.signed]
  split <;> split <;> omega

theorem msb_of (x : Int) (h : fits x) : (BitVec.ofInt 64 x).msb = decide (x < 0) := by
  rw [BitVec.msb_eq_toInt, toInt_of x h]

theorem xor_neg (x y : Int) (hx : fits x) (hy : fits y) : bits .xor .i64 x y < 0 ↔ (decide (x < 0) ^^ decide (y < 0)) = true := by
  show IntKind.i64.wrap ((BitVec.ofInt 64 x ^^^ BitVec.ofInt 64 y).toNat : Int) < 0 ↔ _
  rw [wrap_toNat, ← msb_of x hx, ← msb_of y hy, ← BitVec.msb_xor, BitVec.msb_eq_toInt]
  simp

theorem and_neg (x y : Int) (hx : fits x) (hy : fits y) : bits .and .i64 x y < 0 ↔ x < 0 ∧ y < 0 := by
  show IntKind.i64.wrap ((BitVec.ofInt 64 x &&& BitVec.ofInt 64 y).toNat : Int) < 0 ↔ _
  rw [wrap_toNat]
  have : ((BitVec.ofInt 64 x &&& BitVec.ofInt 64 y).msb = true) ↔ (x < 0 ∧ y < 0) := by
    rw [BitVec.msb_and, msb_of x hx, msb_of y hy]; simp
  rw [← this, BitVec.msb_eq_toInt]
  simp

theorem bits_fits (op : BinOp) (x y : Int) : fits (bits op .i64 x y) := ⟨bits_lo_i64 op x y, bits_hi_i64 op x y⟩
theorem wrap64_fits (n : Int) : fits (wrap64 n) := by unfold fits wrap64; omega

/-- The sum's test of overflow. -/
theorem add_test (a b : Int) (ha : fits a) (hb : fits b) : bits .and .i64 (bits .xor .i64 (wrap64 (a + b)) a) (bits .xor .i64 (wrap64 (a + b)) b) < 0 ↔ ¬ fits (a + b) := by
  rw [and_neg _ _ (bits_fits ..) (bits_fits ..), xor_neg _ _ (wrap64_fits _) ha, xor_neg _ _ (wrap64_fits _) hb]
  unfold fits at *
  have h : wrap64 (a + b) = (a + b + 9223372036854775808) % 18446744073709551616 - 9223372036854775808 := by unfold wrap64; rfl
  by_cases h1 : wrap64 (a + b) < 0 <;> by_cases h2 : a < 0 <;> by_cases h3 : b < 0 <;> simp [h1, h2, h3] <;> omega

/-- The difference's test of overflow. -/
theorem sub_test (a b : Int) (ha : fits a) (hb : fits b) : bits .and .i64 (bits .xor .i64 a b) (bits .xor .i64 a (wrap64 (a - b))) < 0 ↔ ¬ fits (a - b) := by
  rw [and_neg _ _ (bits_fits ..) (bits_fits ..), xor_neg _ _ ha hb, xor_neg _ _ ha (wrap64_fits _)]
  unfold fits at *
  have h : wrap64 (a - b) = (a - b + 9223372036854775808) % 18446744073709551616 - 9223372036854775808 := by unfold wrap64; rfl
  by_cases h1 : wrap64 (a - b) < 0 <;> by_cases h2 : a < 0 <;> by_cases h3 : b < 0 <;> simp [h1, h2, h3] <;> omega


/-! ### What the functions are -/
def addV (a b : Int) : Int := if fits (a + b) then a + b else 0
def addE (a b : Int) : Int := if fits (a + b) then 0 else 9
def subV (a b : Int) : Int := if fits (a - b) then a - b else 0
def subE (a b : Int) : Int := if fits (a - b) then 0 else 9
def mulV (a b : Int) : Int := if fits (a * b) then a * b else 0
def mulE (a b : Int) : Int := if fits (a * b) then 0 else 9
/-- Does a division leave a remainder with the opposite sign of the divisor? -/
def divS (a b : Int) : Bool := a.tmod b != 0 && (decide (a < 0) != decide (b < 0))
def divV (a b : Int) : Int := if b = 0 then 0 else if a = -9223372036854775808 ∧ b = -1 then 0 else if divS a b = true then a.tdiv b - 1 else a.tdiv b
def divE (a b : Int) : Int := if b = 0 then 10 else if a = -9223372036854775808 ∧ b = -1 then 9 else 0

def leastB (a b : Int) : Bool := a == -9223372036854775808 && b == -1
theorem leastB_iff (a b : Int) : leastB a b = true ↔ (a = -9223372036854775808 ∧ b = -1) := by unfold leastB; simp
theorem leastB_not (a b : Int) : leastB a b = false ↔ ¬ (a = -9223372036854775808 ∧ b = -1) := by rw [← leastB_iff]; simp

/-! ### The product's test of overflow -/
theorem mul_fits_div (a b : Int) (hb : b ≠ 0) : (a * b).tdiv b = a := Int.mul_tdiv_cancel a hb

theorem tdiv_fits (a b : Int) (ha : fits a) (h : ¬ (a = -9223372036854775808 ∧ b = -1)) : fits (a.tdiv b) := by
  unfold fits at *
  by_cases hb : b = -1
  · subst hb
    rw [Int.tdiv_neg, Int.tdiv_one]
    omega
  · have h1 : (a.tdiv b).natAbs = a.natAbs / b.natAbs := Int.natAbs_tdiv a b
    by_cases hz : b = 0
    · subst hz; rw [Int.tdiv_zero]; omega
    · by_cases hm : a = -9223372036854775808
      · have hb2 : 2 ≤ b.natAbs ∨ b = 1 := by omega
        rcases hb2 with hb2 | rfl
        · have : a.natAbs / b.natAbs ≤ a.natAbs / 2 := Nat.div_le_div_left hb2 (by omega)
          omega
        · rw [Int.tdiv_one]; omega
      · have : a.natAbs / b.natAbs ≤ a.natAbs := Nat.div_le_self _ _
        omega

theorem tdiv_low (a b : Int) (ha : fits a) (hr : a.tmod b ≠ 0) : fits (a.tdiv b - 1) := by
  have hb1 : b ≠ 1 := by rintro rfl; exact hr (Int.tmod_one a)
  have hb2 : b ≠ -1 := by rintro rfl; exact hr (by rw [Int.tmod_neg, Int.tmod_one])
  have h1 : (a.tdiv b).natAbs = a.natAbs / b.natAbs := Int.natAbs_tdiv a b
  unfold fits at *
  by_cases hz : b = 0
  · subst hz; rw [Int.tdiv_zero]; omega
  · have : a.natAbs / b.natAbs ≤ a.natAbs / 2 := Nat.div_le_div_left (by omega) (by omega)
    omega

/-- If the wrapped product divided by one factor gives the other one, then the product fits. -/
theorem mul_test (a b : Int) (hb : fits b) (h0 : b ≠ 0) (hx : ¬ (a = -9223372036854775808 ∧ b = -1)) (h : (wrap64 (a * b)).tdiv b = a) : fits (a * b) := by
  have hw : wrap64 (a * b) = (a * b + 9223372036854775808) % 18446744073709551616 - 9223372036854775808 := by unfold wrap64; rfl
  have hf := wrap64_fits (a * b)
  generalize hW : wrap64 (a * b) = W at *
  have hd : W = b * a + W.tmod b := by
    have := Int.mul_tdiv_add_tmod W b
    rw [h] at this; omega
  have hr : (W.tmod b).natAbs < b.natAbs := by
    rw [Int.natAbs_tmod]; exact Nat.mod_lt _ (by omega)
  rw [Int.mul_comm b a] at hd
  unfold fits at *
  generalize a * b = P at *
  omega

/-- The quotient of the wrapped product fits, but for the least int by -1. -/
theorem mul_quo_fits (a b : Int) (ha : fits a) (hx : ¬ (a = -9223372036854775808 ∧ b = -1)) : fits ((wrap64 (a * b)).tdiv b) := by
  apply tdiv_fits _ _ (wrap64_fits _)
  rintro ⟨h1, h2⟩
  subst h2
  have hw : wrap64 (a * -1) = (a * -1 + 9223372036854775808) % 18446744073709551616 - 9223372036854775808 := by unfold wrap64; rfl
  unfold fits at ha
  omega

/-- The product's test: is the quotient another number than the first factor? -/
theorem mul_quo (a b : Int) (hb : fits b) (h0 : b ≠ 0) (hx : ¬ (a = -9223372036854775808 ∧ b = -1)) : ((wrap64 (a * b)).tdiv b = a) ↔ fits (a * b) := by
  constructor
  · intro h; exact mul_test a b hb h0 hx h
  · intro h
    rw [IntWalk.wrap64_in _ h]
    exact mul_fits_div a b h0

theorem least_fits : ¬ fits (-9223372036854775808 * -1) := by decide
theorem least_wrap : wrap64 (-9223372036854775808 * -1) = -9223372036854775808 := by unfold wrap64; decide
theorem mul_zero_fits (a : Int) : fits (a * 0) := by unfold fits; omega

end Go.Proofs.YticfhbffoajgcaaGreatDoor
