/- What the small functions of layer 4 hand back: the bit of a byte, the number of ones of a word, its lowest one. None changes the world. -/
import Derived.Test.YtpfbpgbgedbalaaRows
import Derived.Test.YtpfbpgbgedbalaaCsMath
import Derived.WalkKit
import Derived.WalkSpells
import Derived.WalkLawsBesides
import Derived.Laws.Bits64b
import Derived.Laws.BitsAllLaws
import Derived.Shelf.Spec.TrailingZeros
import Derived.Below
import Derived.IntWalk
namespace Go.Proofs.Ytpfbpgbgedbalaa
open Go.RowKit

theorem pow_lt64 (c : Nat) : 2 ^ (c % 64) < 18446744073709551616 := by
  have : 2 ^ (c % 64) < 2 ^ 64 := Nat.pow_lt_pow_right (by decide) (by omega)
  simpa using this

theorem pow_cast (c : Nat) : IntKind.u64.wrap ((2 : Int) ^ (c % 64)) = ((2 ^ (c % 64) : Nat) : Int) := by
  have h := pow_lt64 c
  rw [IntKind.wrap_u64, show ((2 : Int) ^ (c % 64)) = ((2 ^ (c % 64) : Nat) : Int) by simp]
  generalize 2 ^ (c % 64) = y at h ⊢
  omega



theorem and64 (a m : Nat) (ha : a < 18446744073709551616) (hm : m < 18446744073709551616) : bits BinOp.and IntKind.u64 (a : Int) (m : Int) = ((a &&& m : Nat) : Int) := bits_and_u64_nat a m ha hm
theorem add64 (a b : Nat) (h : a + b < 18446744073709551616) : IntKind.u64.wrap ((a : Int) + (b : Int)) = ((a + b : Nat) : Int) := by
  rw [IntKind.wrap_u64]
  omega
theorem and127 (a : Nat) (h : a < 4611686018427387904) : bits BinOp.and IntKind.i64 (a : Int) 127 = ((a % 128 : Nat) : Int) := by
  have h1 : (BitVec.ofInt 64 (a : Int)).toNat = a := by
    rw [BitVec.ofInt_natCast, BitVec.toNat_ofNat]; exact Nat.mod_eq_of_lt (by omega)
  have e : (a &&& 127) = a % 128 := Nat.and_two_pow_sub_one_eq_mod a 7
  show IntKind.i64.wrap ((BitVec.ofInt 64 (a : Int) &&& BitVec.ofInt 64 127).toNat : Int) = _
  rw [BitVec.toNat_and, h1, show (BitVec.ofInt 64 127).toNat = 127 by decide, e]
  have : a % 128 < 128 := Nat.mod_lt _ (by decide)
  exact IntWalk.i64_in _ (by omega)




end Go.Proofs.Ytpfbpgbgedbalaa
