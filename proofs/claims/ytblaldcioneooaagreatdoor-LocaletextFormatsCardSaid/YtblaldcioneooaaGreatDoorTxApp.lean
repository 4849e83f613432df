/- Escape: the bytes that the program appends. -/
import Derived.Test.YtblaldcioneooaaGreatDoorTxOwn
set_option linter.unusedVariables false
namespace Go.Proofs.YtblaldcioneooaaGreatDoor
open Go.RowKit

def AppPost (B n : Nat) (l : List UInt8) (r : List UInt8) (w : World) (e : Ending) (w' : World) : Prop :=
  ∃ v', e = .returned v' ∧ w'.ownsRow B 5 1 v' (n + r.length) (ints (l ++ r)) ∧ Below B w w'
theorem app_post {B n m : Nat} {l r : List UInt8} {vs : List Value} {w w' : World} {v' : Value} (hown : w'.ownsRow B 5 1 v' (n + m) (ints l ++ vs)) (hm : m = r.length) (hv : vs = ints r) (hb : Below B w w') : AppPost B n l r w (.returned v') w' := by
  refine ⟨v', rfl, ?_, hb⟩
  rw [ints_app, ← hm, ← hv]; exact hown

theorem oct_ints (c : UInt8) : ([.int .u8 92, .int .u8 (48 + (c.toNat : Int) / 64), .int .u8 (48 + (c.toNat : Int) / 8 % 8), .int .u8 (48 + (c.toNat : Int) % 8)] : List Value) = ints (oct3 c) := by
  have h := c.toNat_lt
  unfold ints oct3
  simp only [List.map_cons, List.map_nil, List.cons.injEq, Value.int.injEq, true_and, and_true]
  refine ⟨rfl, ?_, ?_, ?_⟩
  all_goals (simp; omega)
theorem oct_ints2 (c : UInt8) : ([.int .u8 92, .int .u8 ((48 + (c.toNat : Int) / 64) % 256), .int .u8 ((48 + (c.toNat : Int) / 8 % 8) % 256), .int .u8 ((48 + (c.toNat : Int) % 8) % 256)] : List Value) = ints (oct3 c) := by
  have h := c.toNat_lt
  rw [← oct_ints c]
  simp only [List.cons.injEq, Value.int.injEq, true_and, and_true]
  omega
theorem bits7 (c : UInt8) : bits .and .u8 ((c.toNat : Int) / 8) 7 = (c.toNat : Int) / 8 % 8 ∧ bits .and .u8 (c.toNat : Int) 7 = (c.toNat : Int) % 8 := by
  revert c; apply all_bytes; decide +kernel

end Go.Proofs.YtblaldcioneooaaGreatDoor
