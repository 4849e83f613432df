/- Plain arithmetic for layer 2: what the functions on decimal numbers hand back, and the sums and quotients behind them. It speaks of no program. -/
import Derived.Test.YtdgbfblhiongoaaDoorNumMath
import Derived.Lib.Hide
namespace Go.Proofs.YtdgbfblhiongoaaDoor
open Go.RowKit

/-- Is a number of units valid? -/
def vB (d : Int) : Bool := decide (-10000000000000 ≤ d) && decide (d ≤ 10000000000000)
theorem vB_iff (d : Int) : vB d = true ↔ -10000000000000 ≤ d ∧ d ≤ 10000000000000 := by unfold vB; simp
theorem vB_not (d : Int) : vB d = false ↔ d < -10000000000000 ∨ 10000000000000 < d := by unfold vB; simp; omega
/-- A result, or the error of one that is not valid. -/
def chkV (d : Int) : Int := if vB d then d else 0
def chkE (d : Int) : Int := if vB d then 0 else 9
def nearV (d : Int) : Int := if d < -10000000000000 then -10000000000000 else if 10000000000000 < d then 10000000000000 else d
theorem near_valid (d : Int) : -10000000000000 ≤ nearV d ∧ nearV d ≤ 10000000000000 := by unfold nearV; split <;> (try split) <;> omega
theorem near_same (d : Int) (h : vB d = true) : nearV d = d := by
  obtain ⟨h1, h2⟩ := (vB_iff d).1 h
  unfold nearV; rw [if_neg (by omega), if_neg (by omega)]

def okAB (a b : Int) : Bool := vB a && vB b
def sumV (a b : Int) : Int := if okAB a b then chkV (a + b) else 0
def sumE (a b : Int) : Int := if okAB a b then chkE (a + b) else 2
def difV (a b : Int) : Int := if okAB a b then chkV (a - b) else 0
def difE (a b : Int) : Int := if okAB a b then chkE (a - b) else 2
def proV (a b : Int) : Int := if okAB a b then chkV ((a * b).tdiv 10000) else 0
def proE (a b : Int) : Int := if okAB a b then chkE ((a * b).tdiv 10000) else 2
def quoV (a b : Int) : Int := if okAB a b then (if b = 0 then 0 else chkV ((a * 10000).tdiv b)) else 0
def quoE (a b : Int) : Int := if okAB a b then (if b = 0 then 10 else chkE ((a * 10000).tdiv b)) else 2
def modV (a b : Int) : Int := if okAB a b then (if b = 0 then 0 else a.tmod b) else 0
def modE (a b : Int) : Int := if okAB a b then (if b = 0 then 10 else 0) else 2

theorem tdivk (x : Int) (h : x ≤ 0) : x.tdiv 10000 = -((-x) / 10000) := by
  have e : x = -(-x) := by omega
  rw [e, Int.neg_tdiv, Int.tdiv_eq_ediv_of_nonneg (by omega)]
  simp
theorem tmodk (x : Int) (h : x ≤ 0) : x.tmod 10000 = -((-x) % 10000) := by
  have e : x = -(-x) := by omega
  rw [e, Int.neg_tmod, Int.tmod_eq_emod_of_nonneg (by omega)]
  simp

theorem tdiv_sum (x y : Int) (h : 0 ≤ x ∧ 0 ≤ y ∨ x ≤ 0 ∧ y ≤ 0) : (10000 * x + y).tdiv 10000 = x + y.tdiv 10000 := by
  rcases h with ⟨h1, h2⟩ | ⟨h1, h2⟩
  · rw [Int.tdiv_eq_ediv_of_nonneg (by omega), Int.tdiv_eq_ediv_of_nonneg h2]; omega
  · rw [tdivk _ (by omega), tdivk _ h2]; omega

/-- The product by parts is the product. -/
theorem parts (a b : Int) : a.tdiv 10000 * b + (a.tmod 10000 * b).tdiv 10000 = (a * b).tdiv 10000 := by
  have ha : a * b = 10000 * (a.tdiv 10000 * b) + a.tmod 10000 * b := by
    have h := Int.mul_tdiv_add_tmod a 10000
    rw [← Int.mul_assoc, ← Int.add_mul, h]
  rw [ha, tdiv_sum]
  rcases Int.le_total 0 a with h | h
  · have q : 0 ≤ a.tdiv 10000 := by rw [Int.tdiv_eq_ediv_of_nonneg h]; omega
    have r : 0 ≤ a.tmod 10000 := by rw [Int.tmod_eq_emod_of_nonneg h]; omega
    rcases Int.le_total 0 b with h' | h'
    · exact .inl ⟨Int.mul_nonneg q h', Int.mul_nonneg r h'⟩
    · exact .inr ⟨Int.mul_nonpos_of_nonneg_of_nonpos q h', Int.mul_nonpos_of_nonneg_of_nonpos r h'⟩
  · have q : a.tdiv 10000 ≤ 0 := by rw [tdivk _ h]; omega
    have r : a.tmod 10000 ≤ 0 := by rw [tmodk _ h]; omega
    rcases Int.le_total 0 b with h' | h'
    · exact .inr ⟨Int.mul_nonpos_of_nonpos_of_nonneg q h', Int.mul_nonpos_of_nonpos_of_nonneg r h'⟩
    · exact .inl ⟨Int.mul_nonneg_of_nonpos_of_nonpos q h', Int.mul_nonneg_of_nonpos_of_nonpos r h'⟩

theorem abs_mul_le (x y X Y : Int) (hx : -X ≤ x ∧ x ≤ X) (hy : -Y ≤ y ∧ y ≤ Y) : -(X * Y) ≤ x * y ∧ x * y ≤ X * Y := by
  have h : (x * y).natAbs ≤ (X * Y).natAbs := by
    rw [Int.natAbs_mul, Int.natAbs_mul]
    exact Nat.mul_le_mul (by omega) (by omega)
  have h2 : 0 ≤ X * Y := Int.mul_nonneg (by omega) (by omega)
  omega

theorem tmodk_lt (a : Int) : -9999 ≤ a.tmod 10000 ∧ a.tmod 10000 ≤ 9999 := by
  rcases Int.le_total 0 a with h | h
  · rw [Int.tmod_eq_emod_of_nonneg h]; omega
  · rw [tmodk _ h]; omega
theorem tdivk_lt (a : Int) (X : Int) (h : -(10000 * X) ≤ a ∧ a ≤ 10000 * X) : -X ≤ a.tdiv 10000 ∧ a.tdiv 10000 ≤ X := by
  rcases Int.le_total 0 a with h' | h'
  · rw [Int.tdiv_eq_ediv_of_nonneg h']; omega
  · rw [tdivk _ h']; omega
/-- The second part of a product. -/
theorem frac_lt (a b : Int) (hb : vB b = true) : (-99990000000000000 ≤ a.tmod 10000 * b ∧ a.tmod 10000 * b ≤ 99990000000000000) ∧ (-9999000000000 ≤ (a.tmod 10000 * b).tdiv 10000 ∧ (a.tmod 10000 * b).tdiv 10000 ≤ 9999000000000) := by
  have h1 := abs_mul_le _ _ 9999 10000000000000 (tmodk_lt a) ((vB_iff b).1 hb)
  have h2 := tdivk_lt _ 9999000000000 h1
  exact ⟨h1, h2⟩

def abV (d : Int) : Int := if d < 0 then -d else d
theorem abV_pos (d : Int) : 0 ≤ abV d := by unfold abV; split <;> omega
theorem abV_nat (d : Int) : abV d = d.natAbs := by unfold abV; split <;> omega
theorem abV_le (d X : Int) : abV d ≤ X ↔ -X ≤ d ∧ d ≤ X := by unfold abV; split <;> omega
theorem abV_mul (a b : Int) : abV a * abV b = abV (a * b) := by rw [abV_nat, abV_nat, abV_nat, Int.natAbs_mul]; simp

/-- The reference's test of a product. -/
theorem ref_test (a b : Int) (h0 : a ≠ 0) : 100000000000009999 / abV a < abV b ↔ vB ((a * b).tdiv 10000) = false := by
  have hp : 0 < abV a := by unfold abV; split <;> omega
  rw [Int.ediv_lt_iff_lt_mul hp, Int.mul_comm, abV_mul, vB_not]
  rcases Int.le_total 0 (a * b) with h | h
  · rw [Int.tdiv_eq_ediv_of_nonneg h]; unfold abV; split <;> omega
  · rw [tdivk _ h]; unfold abV; split <;> omega
theorem ref_fits (a b : Int) (h : vB ((a * b).tdiv 10000) = true) : -100000000000009999 ≤ a * b ∧ a * b ≤ 100000000000009999 := by
  obtain ⟨h1, h2⟩ := (vB_iff _).1 h
  rcases Int.le_total 0 (a * b) with h' | h'
  · rw [Int.tdiv_eq_ediv_of_nonneg h'] at h1 h2; omega
  · rw [tdivk _ h'] at h1 h2; omega

theorem abs_tdiv_le (a b : Int) : -(abV a) ≤ a.tdiv b ∧ a.tdiv b ≤ abV a := by
  have h1 : (a.tdiv b).natAbs = a.natAbs / b.natAbs := Int.natAbs_tdiv a b
  have : a.natAbs / b.natAbs ≤ a.natAbs := Nat.div_le_self _ _
  rw [abV_nat]; omega
theorem quo_bd (a b : Int) (ha : vB a = true) : -100000000000000000 ≤ (a * 10000).tdiv b ∧ (a * 10000).tdiv b ≤ 100000000000000000 := by
  have h := abs_tdiv_le (a * 10000) b
  have h2 : abV (a * 10000) ≤ 100000000000000000 := by
    rw [abV_le]; have := (vB_iff a).1 ha; omega
  omega
theorem tdiv_bd (a b : Int) (ha : vB a = true) : -10000000000000 ≤ a.tdiv b ∧ a.tdiv b ≤ 10000000000000 := by
  have h := abs_tdiv_le a b
  have h2 : abV a ≤ 10000000000000 := by
    rw [abV_le]; have := (vB_iff a).1 ha; omega
  omega
theorem tdiv_mul_bd (a b : Int) (ha : vB a = true) : -10000000000000 ≤ a.tdiv b * b ∧ a.tdiv b * b ≤ 10000000000000 := by
  have h1 : (a.tdiv b * b).natAbs ≤ a.natAbs := by
    rw [Int.natAbs_mul, Int.natAbs_tdiv]; exact Nat.div_mul_le_self _ _
  have := (vB_iff a).1 ha
  omega
theorem tdiv_mul_sub (a b : Int) : a - a.tdiv b * b = a.tmod b := by
  have := Int.mul_tdiv_add_tmod a b
  rw [Int.mul_comm] at this; omega
theorem tmod_bd (a b : Int) (ha : vB a = true) : -10000000000000 ≤ a.tmod b ∧ a.tmod b ≤ 10000000000000 := by
  have h1 : (a.tmod b).natAbs ≤ a.natAbs := by rw [Int.natAbs_tmod]; exact Nat.mod_le _ _
  have := (vB_iff a).1 ha
  omega

end Go.Proofs.YtdgbfblhiongoaaDoor
