/- What the small functions of layer 3 and its reference hand back: tests on bytes, digits, offsets. None changes the world. -/
import Derived.Test.YticfhbffoajgcaaGreatDoorTxEsc
import Derived.Test.YticfhbffoajgcaaGreatDoorTxLaid
import Derived.WalkKit
import Derived.WalkSpells
import Derived.WalkLawsBesides
import Derived.BigGuardPart
import Derived.Lib.Hide
import Derived.Deep.QuietTactic
import Derived.BigQuiet
set_option linter.unusedVariables false
namespace Go.Proofs.YticfhbffoajgcaaGreatDoor
open Go.RowKit

theorem ttf (b : Bool) : b = true ∨ b = false := by cases b <;> simp
theorem ret_b {a b : Bool} (h : a = b) : Ending.returned (.bool a) = .returned (.bool b) := by rw [h]
theorem ret_i {k : IntKind} {a b : Int} (h : a = b) : Ending.returned (.int k a) = .returned (.int k b) := by rw [h]
theorem ret_s {a b : ByteArray} (h : a = b) : Ending.returned (.string a) = .returned (.string b) := by rw [h]
theorem tbelow_drewN {B : Nat} {a w : World} (h : Below B a w) : ∀ n, Below B a (w.drewN n)
  | 0 => h
  | n + 1 => (tbelow_drewN h n).drew
theorem beq_byte (c d : UInt8) : ((c.toNat : Int) == (d.toNat : Int)) = (c == d) := by
  by_cases h : c = d
  · subst h; simp
  · have h1 : (c == d) = false := by simpa using h
    rw [h1, beq_eq_false_iff_ne]
    intro e; exact h (UInt8.toNat_inj.1 (by omega))
theorem sp_int (c : UInt8) : sp c = ((c.toNat : Int) == 32 || (c.toNat : Int) == 9 || (c.toNat : Int) == 10) := by
  unfold sp
  rw [← beq_byte c 32, ← beq_byte c 9, ← beq_byte c 10]; rfl
theorem isL_int (c : UInt8) : isL c = ((c.toNat : Int) == 10) := by
  unfold isL; rw [← beq_byte c 10]; rfl
theorem byte_le (c : UInt8) : 0 ≤ (c.toNat : Int) ∧ (c.toNat : Int) ≤ 255 := by have := c.toNat_lt; omega

theorem sep_any (c : UInt8) (w : World) : Calls Tryz.prog 88 #[.int .u8 (c.toNat : Int)] w fun e w' => e = .returned (.bool (sp c)) ∧ w = w' := by
  rw [sp_int]
  rcases ttf ((c.toNat : Int) == 32) with h1 | h1
  all_goals
    rcases ttf ((c.toNat : Int) == 9) with h2 | h2
    all_goals
      go_enter Tryz.func88, Tryz.ntmps88
      go_wp2
      go_ret
      refine ⟨?_, rfl⟩
      simp [h1, h2]
theorem space_any (c : UInt8) (w : World) : Calls Tryz.prog 53 #[.int .u8 (c.toNat : Int)] w fun e w' => e = .returned (.bool (sp c)) ∧ w = w' := by
  rw [sp_int]
  rcases ttf ((c.toNat : Int) == 32) with h1 | h1
  all_goals
    rcases ttf ((c.toNat : Int) == 9) with h2 | h2
    all_goals
      go_enter Tryz.func53, Tryz.ntmps53
      go_wp2
      go_ret
      refine ⟨?_, rfl⟩
      simp [h1, h2]

theorem isO_int (c : UInt8) : isO c = (decide (48 ≤ (c.toNat : Int)) && decide ((c.toNat : Int) ≤ 55)) := by
  unfold isO
  congr 1 <;> (congr 1; apply propext; omega)
theorem lett_int (c : UInt8) : ((lett c).toNat : Int) = if ((c.toNat : Int) == 7) = true then 97 else if ((c.toNat : Int) == 8) = true then 98 else if ((c.toNat : Int) == 9) = true then 116 else if ((c.toNat : Int) == 10) = true then 110 else if ((c.toNat : Int) == 11) = true then 118 else if ((c.toNat : Int) == 12) = true then 102 else if ((c.toNat : Int) == 13) = true then 114 else if ((c.toNat : Int) == 92) = true then 92 else 0 := by
  revert c; apply all_bytes; decide +kernel
end Go.Proofs.YticfhbffoajgcaaGreatDoor
