/- The reference's find: the collating element with which a string continues. -/
import Derived.Test.YticfhbffoajgcaaGreatDoorRows
import Derived.Test.YticfhbffoajgcaaGreatDoorLcCheck
set_option linter.unusedVariables false
namespace Go.Proofs.YticfhbffoajgcaaGreatDoor
open Go.RowKit

/-- Does the string continue at 'o' with element k? -/
def hit (L : Loc) (s : ByteArray) (o k : Nat) : Bool := decide (o + 2 ≤ s.size) && eqS (s.extract o (o + 2)) (L.et k)
def findL (L : Loc) (s : ByteArray) (o : Nat) : Int := match (List.range L.ne).find? (hit L s o) with
  | some k => (k : Int)
  | none => -1
theorem find_at (L : Loc) (s : ByteArray) (o k : Nat) (hk : k < L.ne) (h : hit L s o k = true) (hb : ∀ q, q < k → hit L s o q = false) : findL L s o = (k : Int) := by
  have e : (List.range L.ne).find? (hit L s o) = some k := by
    rw [List.find?_range_eq_some]
    exact ⟨h, by simpa using hk, fun j hj => by simp [hb j hj]⟩
  unfold findL
  rw [e]
theorem find_none (L : Loc) (s : ByteArray) (o : Nat) (hb : ∀ q, q < L.ne → hit L s o q = false) : findL L s o = -1 := by
  have e : (List.range L.ne).find? (hit L s o) = none := by
    rw [List.find?_eq_none]
    intro x hx
    simp [hb x (by simpa using hx)]
  unfold findL
  rw [e]

end Go.Proofs.YticfhbffoajgcaaGreatDoor
