/- Plain arithmetic behind the laws of layer 2 that don't use the reference: nearest multiples, cuts, whole factors. It speaks of no program. -/
import Derived.Test.YtdgbfblhiongoaaDoorDecRound
namespace Go.Proofs.YtdgbfblhiongoaaDoor
open Go.RowKit

theorem tmod_pos (x k : Int) (h : 0 ≤ x) : x.tmod k = x % k := Int.tmod_eq_emod_of_nonneg h

/-- What a rounded number is. -/
theorem nearest (d p : Int) (hd : vB d = true) :
    vB (rouV d p) = true ∧ (rouV d p).tmod (unitV p) = 0 ∧ 2 * abV (rouV d p - d) ≤ unitV p ∧ rouV (rouV d p) p = rouV d p ∧ (2 * abV (rouV d p - d) < unitV p ∨ abV d < abV (rouV d p)) := by
  obtain ⟨d1, d2⟩ := (vB_iff d).1 hd
  have hn := near_same d hd
  have key : ∀ u, unitV p = u → ∀ r, rouV d p = r → -10000000000000 ≤ r → r ≤ 10000000000000 → r.tmod u = 0 → rouP r u = r → 2 * abV (r - d) ≤ u → (2 * abV (r - d) < u ∨ abV d < abV r) →
      vB (rouV d p) = true ∧ (rouV d p).tmod (unitV p) = 0 ∧ 2 * abV (rouV d p - d) ≤ unitV p ∧ rouV (rouV d p) p = rouV d p ∧ (2 * abV (rouV d p - d) < unitV p ∨ abV d < abV (rouV d p)) := by
    intro u hu r hr r1 r2 h1 h2 h3 h4
    have hv : vB r = true := (vB_iff r).2 ⟨r1, r2⟩
    rw [hu, hr]
    refine ⟨hv, h1, h3, ?_, h4⟩
    unfold rouV
    rw [near_same r hv, hu, h2]
  by_cases hx : d < 0
  · have hr : ∀ u, unitV p = u → rouV d p = -((-d + u / 2) / u * u) := fun u hu => by
      unfold rouV rouP; rw [hn, hu, if_pos hx]
    rcases unit_cases p with ⟨_, hu⟩ | ⟨_, hu⟩ | ⟨_, hu⟩ | ⟨_, hu⟩ | ⟨_, hu⟩
    all_goals
      refine key _ hu _ (hr _ hu) (by omega) (by omega) ?_ ?_ ?_ ?_
      · rw [tdiv_negs _ _ (by omega) (by omega)]; omega
      · unfold rouP; split <;> omega
      · unfold abV; split <;> omega
      · unfold abV; (repeat' split) <;> omega
  · have hr : ∀ u, unitV p = u → rouV d p = (d + u / 2) / u * u := fun u hu => by
      unfold rouV rouP; rw [hn, hu, if_neg hx]
    rcases unit_cases p with ⟨_, hu⟩ | ⟨_, hu⟩ | ⟨_, hu⟩ | ⟨_, hu⟩ | ⟨_, hu⟩
    all_goals
      refine key _ hu _ (hr _ hu) (by omega) (by omega) ?_ ?_ ?_ ?_
      · rw [tmod_pos _ _ (by omega)]; omega
      · unfold rouP; split <;> omega
      · unfold abV; split <;> omega
      · unfold abV; (repeat' split) <;> omega

/-! ### Remainders and their signs -/
theorem tmod_nat (a b : Int) : (a.tmod b).natAbs = a.natAbs % b.natAbs := Int.natAbs_tmod a b
theorem tmod_lt (a b : Int) (h : b ≠ 0) : abV (a.tmod b) < abV b := by
  rw [abV_nat, abV_nat, tmod_nat]
  have := Nat.mod_lt a.natAbs (y := b.natAbs) (by omega)
  omega
theorem tmod_sign (a b : Int) : (0 ≤ a → 0 ≤ a.tmod b) ∧ (a ≤ 0 → a.tmod b ≤ 0) := by
  constructor
  · intro h; rw [tmod_pos a b h]
    by_cases hb : b = 0
    · subst hb; rw [Int.emod_zero]; exact h
    · exact Int.emod_nonneg _ hb
  · intro h
    have e : a = -(-a) := by omega
    have h2 : 0 ≤ (-a).tmod b := by
      rw [tmod_pos _ b (by omega)]
      by_cases hb : b = 0
      · subst hb; rw [Int.emod_zero]; omega
      · exact Int.emod_nonneg _ hb
    rw [e, Int.neg_tmod]; omega
theorem tmod_add (a b : Int) : a.tdiv b * b + a.tmod b = a := by
  have := Int.mul_tdiv_add_tmod a b
  rw [Int.mul_comm] at this; exact this
theorem cut_big (m : Int) : -1000000000 ≤ m.tmod 1000000001 ∧ m.tmod 1000000001 ≤ 1000000000 := by
  have := tmod_lt m 1000000001 (by decide)
  have e : abV 1000000001 = 1000000001 := by decide
  rw [e] at this
  have := (abV_le (m.tmod 1000000001) 1000000000).1 (by omega)
  exact this

/-! ### Whole factors -/
theorem tdiv_cancel (x k : Int) (h : k ≠ 0) : (x * k).tdiv k = x := Int.mul_tdiv_cancel x h
theorem quo_nat (a b : Nat) : (((a : Int) * 10000).tdiv b).tdiv 10000 = (a : Int).tdiv b := by
  have h1 : ((a : Int) * 10000).tdiv b = ((a * 10000 / b : Nat) : Int) := by
    rw [Int.ofNat_tdiv, Int.natCast_mul]; rfl
  have h2 : ((a * 10000 / b : Nat) : Int).tdiv 10000 = ((a * 10000 / b / 10000 : Nat) : Int) := by
    rw [Int.ofNat_tdiv (a * 10000 / b) 10000]; rfl
  rw [h1, h2, ← Int.ofNat_tdiv, Nat.div_div_eq_div_mul, Nat.mul_div_mul_right _ _ (by decide)]
theorem quo_whole (a b : Int) : ((a * 10000).tdiv b).tdiv 10000 = a.tdiv b := by
  obtain ⟨m, rfl | rfl⟩ := Int.eq_nat_or_neg a <;> obtain ⟨n, rfl | rfl⟩ := Int.eq_nat_or_neg b
  · exact quo_nat m n
  · rw [Int.tdiv_neg, Int.neg_tdiv, quo_nat, Int.tdiv_neg]
  · rw [Int.neg_mul, Int.neg_tdiv, Int.neg_tdiv, quo_nat, Int.neg_tdiv]
  · rw [Int.neg_mul, Int.tdiv_neg, Int.neg_tdiv, Int.neg_tdiv, Int.neg_tdiv, Int.neg_neg, quo_nat, Int.tdiv_neg, Int.neg_tdiv, Int.neg_neg]

/-! ### A product and a quotient that were cut -/
theorem left_pro (a b : Int) : a * b - (a * b).tdiv 10000 * 10000 = (a * b).tmod 10000 := by
  have := tmod_add (a * b) 10000; omega
theorem mul_bd (a b : Int) (ha : -1000000000 ≤ a ∧ a ≤ 1000000000) (hb : -1000000000 ≤ b ∧ b ≤ 1000000000) : -1000000000000000000 ≤ a * b ∧ a * b ≤ 1000000000000000000 := by
  exact abs_mul_le a b 1000000000 1000000000 ha hb
theorem mul_sign (a b : Int) : (0 < a → 0 < b → 0 < a * b) ∧ (a < 0 → b < 0 → 0 < a * b) ∧ (0 < a → b < 0 → a * b < 0) ∧ (a < 0 → 0 < b → a * b < 0) :=
  ⟨Int.mul_pos, Int.mul_pos_of_neg_of_neg, Int.mul_neg_of_pos_of_neg, Int.mul_neg_of_neg_of_pos⟩
theorem abV_tdiv (x k : Int) (hk : 0 < k) : abV (x.tdiv k) = abV x / k := by
  have h : (x.tdiv k).natAbs = x.natAbs / k.natAbs := Int.natAbs_tdiv x k
  rw [abV_nat, abV_nat, h, Int.natCast_ediv]
  congr 1
  omega
theorem abV_tdiv2 (x y : Int) : abV (x.tdiv y) = abV x / abV y := by
  have h : (x.tdiv y).natAbs = x.natAbs / y.natAbs := Int.natAbs_tdiv x y
  rw [abV_nat, abV_nat, abV_nat, h, Int.natCast_ediv]

end Go.Proofs.YtdgbfblhiongoaaDoor
