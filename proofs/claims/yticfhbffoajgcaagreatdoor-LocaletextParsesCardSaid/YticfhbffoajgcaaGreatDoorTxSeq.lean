/- Escape sequences as the program and the reference of layer 3 read them. -/
import Derived.Test.YticfhbffoajgcaaGreatDoorTxOct
set_option linter.unusedVariables false
namespace Go.Proofs.YticfhbffoajgcaaGreatDoor
open Go.RowKit

theorem ib_any (l : List UInt8) (c : UInt8) (w : World) : Calls Tryz.prog 171 #[.string (mk l), .int .u8 (c.toNat : Int)] w fun e w' => e = .returned (.int .i64 (Lib.indexByte l c)) ∧ w = w' := by
  have h := Any.strings_IndexByte Tryz.lays137 (mk l) (c.toNat : Int) w
  have e : ((c.toNat : Int).toNat.toUInt8) = c := by simp
  rw [e] at h
  exact h.mono fun e w' ⟨h1, h2⟩ => ⟨h1, h2.symm⟩

theorem tempty_of (s : ByteArray) (h : s.size = 0) : s = ⟨#[]⟩ := by
  apply ByteArray.ext; exact Array.eq_empty_of_size_eq_zero h
theorem not_empty_of (s : ByteArray) (h : 0 < s.size) : s.toList.isEmpty = false := by
  rw [ByteArray.toList_eq]
  obtain ⟨⟨l⟩⟩ := s
  cases l with
  | nil => exact absurd h (Nat.lt_irrefl 0)
  | cons a r => rfl
theorem ib_letters (c : UInt8) : Lib.indexByte letters c = -1 ∨ ∃ i : Nat, i ≤ 6 ∧ Lib.indexByte letters c = (i : Int) := by
  have : Lib.indexByte letters c = -1 ∨ Lib.indexByte letters c = 0 ∨ Lib.indexByte letters c = 1 ∨ Lib.indexByte letters c = 2 ∨ Lib.indexByte letters c = 3 ∨ Lib.indexByte letters c = 4 ∨ Lib.indexByte letters c = 5 ∨ Lib.indexByte letters c = 6 := by
    revert c; apply all_bytes; decide +kernel
  rcases this with h | h | h | h | h | h | h | h
  · exact .inl h
  · rw [h]; exact .inr ⟨0, by omega, rfl⟩
  · rw [h]; exact .inr ⟨1, by omega, rfl⟩
  · rw [h]; exact .inr ⟨2, by omega, rfl⟩
  · rw [h]; exact .inr ⟨3, by omega, rfl⟩
  · rw [h]; exact .inr ⟨4, by omega, rfl⟩
  · rw [h]; exact .inr ⟨5, by omega, rfl⟩
  · rw [h]; exact .inr ⟨6, by omega, rfl⟩
theorem ib_quot (c : UInt8) : Lib.indexByte quotable c = -1 ∨ 0 ≤ Lib.indexByte quotable c := by
  revert c; apply all_bytes; decide +kernel

end Go.Proofs.YticfhbffoajgcaaGreatDoor
