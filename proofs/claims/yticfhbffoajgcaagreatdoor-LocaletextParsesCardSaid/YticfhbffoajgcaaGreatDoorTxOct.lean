/- Octal digits and escape sequences, as the program and the reference of layer 3 read them. -/
import Derived.Test.YticfhbffoajgcaaGreatDoorTxSmall
set_option linter.unusedVariables false
namespace Go.Proofs.YticfhbffoajgcaaGreatDoor
open Go.RowKit

theorem ret_2 {k1 k2 : IntKind} {a b c d : Int} (h1 : a = b) (h2 : c = d) : Ending.returned (.tuple #[.int k1 a, .int k2 c]) = .returned (.tuple #[.int k1 b, .int k2 d]) := by rw [h1, h2]

/-- One more digit. -/
theorem octL_more (f : Nat) (l : List UInt8) (k v : Nat) (h : k < l.length) (hc : isO l[k] = true) : octL (f + 1) (l.drop k) v k = octL f (l.drop (k + 1)) (v * 8 + (l[k].toNat - 48)) (k + 1) := by
  rw [List.drop_eq_getElem_cons h, octL, if_pos hc]
theorem octL_stop (f : Nat) (l : List UInt8) (k v j : Nat) (h : f = 0 ∨ l.length ≤ k ∨ ∃ h : k < l.length, isO l[k] = false) : octL f (l.drop k) v j = (v, j) := by
  cases f with
  | zero => rw [octL]
  | succ f =>
    rcases h with h | h | ⟨h, hc⟩
    · cases h
    · rw [List.drop_eq_nil_of_le h, octL]
    · rw [List.drop_eq_getElem_cons h, octL, if_neg (by rw [hc]; exact Bool.false_ne_true)]
theorem pow8 (k : Nat) (h : k ≤ 3) : 8 ^ k ≤ 512 := by
  have : 8 ^ k ≤ 8 ^ 3 := Nat.pow_le_pow_right (by omega) h
  exact this
theorem pow8s (k v d : Nat) (hv : v < 8 ^ k) (hd : d < 8) : v * 8 + d < 8 ^ (k + 1) := by rw [Nat.pow_succ]; omega


end Go.Proofs.YticfhbffoajgcaaGreatDoor
