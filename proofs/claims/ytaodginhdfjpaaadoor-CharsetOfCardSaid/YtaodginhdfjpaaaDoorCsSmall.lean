/- What the small functions of layer 4 hand back: the bit of a byte, the number of ones of a word, its lowest one. None changes the world. -/
import Derived.Test.YtaodginhdfjpaaaDoorRows
import Derived.Test.YtaodginhdfjpaaaDoorCsMath
import Derived.WalkKit
import Derived.WalkSpells
import Derived.WalkLawsBesides
import Derived.Laws.Bits64b
import Derived.Laws.BitsAllLaws
import Derived.Shelf.Spec.TrailingZeros
import Derived.Below
import Derived.IntWalk
namespace Go.Proofs.YtaodginhdfjpaaaDoor
open Go.RowKit

theorem pow_lt64 (c : Nat) : 2 ^ (c % 64) < 18446744073709551616 := by
  have : 2 ^ (c % 64) < 2 ^ 64 := Nat.pow_lt_pow_right (by decide) (by omega)
  simpa using this

theorem pow_cast (c : Nat) : IntKind.u64.wrap ((2 : Int) ^ (c % 64)) = ((2 ^ (c % 64) : Nat) : Int) := by
  have h := pow_lt64 c
  rw [IntKind.wrap_u64, show ((2 : Int) ^ (c % 64)) = ((2 ^ (c % 64) : Nat) : Int) by simp]
  generalize 2 ^ (c % 64) = y at h ⊢
  omega

theorem bit_any (c : Nat) (hc : c < 256) (w : World) : Calls Tryd.prog 27 #[.int .u8 c] w fun e w' => e = .returned (.int .u64 ((2 ^ (c % 64) : Nat) : Int)) ∧ w = w' := by
  go_enter Tryd.func27, Tryd.ntmps27
  go_wp2
  go_ret
  exact ⟨by simp [pow_cast], rfl⟩

theorem ones_words (x X1 X2 X3 X4 X5 X6 X7 r a1 a2 a3 a4 s : Nat) (w : World)
    (k1 : bits BinOp.and IntKind.u64 ((x : Int) / 2) 6148914691236517205 = (a1 : Int)) (k2 : bits BinOp.and IntKind.u64 (x : Int) 6148914691236517205 = (a2 : Int)) (k3 : IntKind.u64.wrap ((a1 : Int) + (a2 : Int)) = (X1 : Int))
    (k4 : bits BinOp.and IntKind.u64 ((X1 : Int) / 4) 3689348814741910323 = (a3 : Int)) (k5 : bits BinOp.and IntKind.u64 (X1 : Int) 3689348814741910323 = (a4 : Int)) (k6 : IntKind.u64.wrap ((a3 : Int) + (a4 : Int)) = (X2 : Int))
    (k7 : IntKind.u64.wrap ((X2 : Int) / 16 + (X2 : Int)) = (s : Int)) (k8 : bits BinOp.and IntKind.u64 (s : Int) 1085102592571150095 = (X3 : Int))
    (k9 : IntKind.u64.wrap ((X3 : Int) + (X3 : Int) / 256) = (X4 : Int)) (k10 : IntKind.u64.wrap ((X4 : Int) + (X4 : Int) / 65536) = (X5 : Int)) (k11 : IntKind.u64.wrap ((X5 : Int) + (X5 : Int) / 4294967296) = (X6 : Int))
    (k12 : IntKind.i64.wrap (X6 : Int) = (X7 : Int)) (k13 : bits BinOp.and IntKind.i64 (X7 : Int) 127 = (r : Int)) :
    Calls Tryd.prog 30 #[.int .u64 (x : Int)] w fun e w' => e = .returned (.int .i64 (r : Int)) ∧ w = w' := by
  go_enter Tryd.func30, Tryd.ntmps30
  go_wp2
  go_ret
  exact ⟨by simp [*], rfl⟩

theorem and64 (a m : Nat) (ha : a < 18446744073709551616) (hm : m < 18446744073709551616) : bits BinOp.and IntKind.u64 (a : Int) (m : Int) = ((a &&& m : Nat) : Int) := bits_and_u64_nat a m ha hm
theorem add64 (a b : Nat) (h : a + b < 18446744073709551616) : IntKind.u64.wrap ((a : Int) + (b : Int)) = ((a + b : Nat) : Int) := by
  rw [IntKind.wrap_u64]
  omega
theorem and127 (a : Nat) (h : a < 4611686018427387904) : bits BinOp.and IntKind.i64 (a : Int) 127 = ((a % 128 : Nat) : Int) := by
  have h1 : (BitVec.ofInt 64 (a : Int)).toNat = a := by
    rw [BitVec.ofInt_natCast, BitVec.toNat_ofNat]; exact Nat.mod_eq_of_lt (by omega)
  have e : (a &&& 127) = a % 128 := Nat.and_two_pow_sub_one_eq_mod a 7
  show IntKind.i64.wrap ((BitVec.ofInt 64 (a : Int) &&& BitVec.ofInt 64 127).toNat : Int) = _
  rw [BitVec.toNat_and, h1, show (BitVec.ofInt 64 127).toNat = 127 by decide, e]
  have : a % 128 < 128 := Nat.mod_lt _ (by decide)
  exact IntWalk.i64_in _ (by omega)

theorem ones_any (p : Nat → Bool) (b : Nat) (w : World) : Calls Tryd.prog 30 #[.int .u64 (wd p b 64 : Nat)] w fun e w' => e = .returned (.int .i64 (ct p b 64 : Nat)) ∧ w = w' := by
  obtain ⟨q0, q1, q2, q3, q4, q5, q6, q7, hq, e3, hs, b1, b2, b3⟩ := pop_steps p b
  obtain ⟨z0, z1, z2, z3, z4⟩ := pop_tail q0 q1 q2 q3 q4 q5 q6 q7 hq _ _ _ _ e3 rfl rfl rfl
  have hx := wd_lt64 p b
  generalize wd p b 64 = x at *
  rw [← hs, ← z4]
  have L1 : x / 2 < 18446744073709551616 := by omega
  have e1 : h1 x = (x / 2 &&& 6148914691236517205) + (x &&& 6148914691236517205) := rfl
  have e2 : h2 (h1 x) = (h1 x / 4 &&& 3689348814741910323) + (h1 x &&& 3689348814741910323) := rfl
  have e3 : h3 (h2 (h1 x)) = (h2 (h1 x) / 16 + h2 (h1 x)) &&& 1085102592571150095 := rfl
  generalize h3 (h2 (h1 x)) = X3 at *
  generalize h2 (h1 x) = X2 at *
  generalize h1 x = X1 at *
  refine ones_words x X1 X2 X3 (X3 + X3 / 256) (X3 + X3 / 256 + (X3 + X3 / 256) / 65536) (X3 + X3 / 256 + (X3 + X3 / 256) / 65536 + (X3 + X3 / 256 + (X3 + X3 / 256) / 65536) / 4294967296) (X3 + X3 / 256 + (X3 + X3 / 256) / 65536 + (X3 + X3 / 256 + (X3 + X3 / 256) / 65536) / 4294967296) _ (x / 2 &&& 6148914691236517205) (x &&& 6148914691236517205) (X1 / 4 &&& 3689348814741910323) (X1 &&& 3689348814741910323) (X2 / 16 + X2) w ?_ (and64 _ _ hx (by decide)) ?_ ?_ (and64 _ _ b1 (by decide)) ?_ ?_ (and64 _ _ b3 (by decide) |>.trans (by rw [← e3])) ?_ ?_ ?_ ?_ (and127 _ z3)
  · have := and64 (x / 2) 6148914691236517205 L1 (by decide)
    simpa using this
  · rw [add64 _ _ (by omega), ← e1]
  · have := and64 (X1 / 4) 3689348814741910323 (by omega) (by decide)
    simpa using this
  · rw [add64 _ _ (by omega), ← e2]
  · have := add64 (X2 / 16) X2 (by omega)
    simpa using this
  · have := add64 X3 (X3 / 256) (by omega)
    simpa using this
  · have := add64 (X3 + X3 / 256) ((X3 + X3 / 256) / 65536) (by omega)
    simpa using this
  · have := add64 ((X3 + X3 / 256) + (X3 + X3 / 256) / 65536) (((X3 + X3 / 256) + (X3 + X3 / 256) / 65536) / 4294967296) (by omega)
    simpa using this
  · exact IntWalk.i64_in _ (by omega)

/-- The library's table of lowest ones, as it is laid. -/
def tabAt (w : World) : Prop := ∀ j, j < Lib.deBruijn64tab.length → w.cell? ⟨0, j, none⟩ = some (.int .u8 (Lib.deBruijn64tab.getD j 0))

theorem tz_core (x k idx : Nat) (w : World) (hx0 : ((x : Int) == 0) = false)
    (key : IntKind.u64.wrap (bits BinOp.and IntKind.u64 (x : Int) (IntKind.u64.wrap (-(x : Int))) * 285870213051353865) / 288230376151711744 = (idx : Int))
    (hi : idx < 64) (hk : k < 64) (hcell : w.cell? ⟨0, idx, none⟩ = some (.int .u8 k)) :
    Calls Tryd.prog 29 #[.int .u64 x] w fun e w' => e = .returned (.int .i64 k) ∧ w = w' := by
  go_enter Tryd.func29, Tryd.ntmps29
  go_wp2_with (simp only [key])
  go_ret
  exact ⟨rfl, rfl⟩

/-- The lowest one of a word that is not 0. -/
theorem tz_any (x : Nat) (hx : x < 18446744073709551616) (hx0 : x ≠ 0) (w : World) (hT : tabAt w) :
    Calls Tryd.prog 29 #[.int .u64 (x : Int)] w fun e w' => e = .returned (.int .i64 ((Lib.ctz 64 x : Nat) : Int)) ∧ w = w' := by
  obtain ⟨hlow, hk⟩ := Lib.lowest_bit 64 x hx0 hx
  obtain ⟨hi, htab⟩ := Lib.deBruijn64_at _ hk
  have hcell := hT _ hi
  rw [htab] at hcell
  exact tz_core x _ _ w (by simp; omega) (tz64_key x _ hx hx0 hlow) hi hk hcell
end Go.Proofs.YtaodginhdfjpaaaDoor
