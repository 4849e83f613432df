/- The set of the bytes of a string, and of those between two: the program's. -/
import Derived.Test.YtpfbpgbgedbalaaRows
import Derived.Test.YtpfbpgbgedbalaaCsOps
import Derived.StillTailTactics
set_option linter.unusedVariables false
namespace Go.Proofs.Ytpfbpgbgedbalaa
open Go.RowKit

/-- The set of the bytes of a list. -/
def setOf (l : List UInt8) : Nat → Bool := fun c => l.any fun b => c == b.toNat
theorem setOf_nil : setOf [] = fun _ => false := rfl
theorem setOf_next (l : List UInt8) (k : Nat) (h : k < l.length) : setOf (l.take (k + 1)) = ins (setOf (l.take k)) (l[k]).toNat := by
  funext c
  unfold setOf ins
  rw [List.take_add_one, List.getElem?_eq_getElem h, List.any_append]
  simp

/-- From lo on, below n. -/
def rng (lo n : Nat) : Nat → Bool := fun c => decide (lo ≤ c) && decide (c < n)
theorem rng_empty (lo : Nat) : rng lo lo = fun _ => false := by
  funext c
  unfold rng
  by_cases h : lo ≤ c
  · have : ¬ c < lo := by omega
    simp [this]
  · simp [h]
theorem rng_next (lo n : Nat) (h : lo ≤ n) : rng lo (n + 1) = ins (rng lo n) n := by
  funext c
  unfold rng ins
  by_cases h1 : c = n
  · subst h1
    simp [h]
  · by_cases h2 : c < n
    · have : c < n + 1 := by omega
      simp [h1, h2, this]
    · have : ¬ c < n + 1 := by omega
      simp [h1, h2, this]
/-- From lo to hi. -/
def between (lo hi : Nat) : Nat → Bool := fun c => decide (lo ≤ c) && decide (c ≤ hi)
theorem rng_done (lo hi n : Nat) (h1 : hi < n) (h2 : n ≤ hi + 1 ∨ n = lo) : rng lo n = between lo hi := by
  funext c
  unfold rng between
  by_cases a : lo ≤ c
  · rcases h2 with h2 | h2
    · have e : (c < n) = (c ≤ hi) := by simp; omega
      simp [e]
    · have e : ¬ c < n := by omega
      have e2 : ¬ c ≤ hi := by omega
      simp [e, e2]
  · simp [a]

/-- Room for the result and for the set that is made. -/
def V2 (w : World) : World := (w.alloc (.cells #[.int .u64 0, .int .u64 0, .int .u64 0, .int .u64 0] 25)).alloc (.cells #[.int .u64 0, .int .u64 0, .int .u64 0, .int .u64 0] 25)
theorem V2_below (w : World) : Below w.heap.size w (V2 w) := ((Below.refl _ _).alloc (Nat.le_refl _) _).alloc (by simp) _
theorem V2_at (w : World) : At (V2 w) w.heap.size (fun _ => false) ∧ At (V2 w) (w.heap.size + 1) (fun _ => false) := by
  unfold V2
  rw [cl_zero]
  refine ⟨(At.new w _).alloc _, ?_⟩
  have := At.new (w.alloc (.cells (cl fun _ => false) 25)) (fun _ => false)
  simpa using this

theorem or_ins (p : Nat → Bool) (c j : Nat) (h : c / 64 = j) : bits BinOp.or IntKind.u64 ((wd p (64 * j) 64 : Nat) : Int) ((2 : Int) ^ (c % 64)) = ((wd (ins p c) (64 * j) 64 : Nat) : Int) := by
  subst h
  rw [show ((2 : Int) ^ (c % 64)) = ((2 ^ (c % 64) : Nat) : Int) by simp, bits_or_u64_nat _ _ (wd_lt64 _ _) (pow_lt64 c), wd_ins_or]


end Go.Proofs.Ytpfbpgbgedbalaa
