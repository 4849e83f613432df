/- A set in memory, and the functions of layer 4 that look into one or put a byte into one. -/
import Derived.Test.YtpfbpgbgedbalaaRows
import Derived.Test.YtpfbpgbgedbalaaCsSmall
import Derived.WalkKit
import Derived.WalkSpells
import Derived.WalkLawsBesides
import Derived.BigGuardPart
import Derived.BigQuiet
import Derived.Lib.Hide
namespace Go.Proofs.Ytpfbpgbgedbalaa
open Go.RowKit

/-- The four words of a set. -/
def cl (p : Nat → Bool) : Array Value := #[.int .u64 (wd p 0 64 : Nat), .int .u64 (wd p 64 64 : Nat), .int .u64 (wd p 128 64 : Nat), .int .u64 (wd p 192 64 : Nat)]
/-- A set as a value. -/
def cs (p : Nat → Bool) : Value := .agg (cl p)

theorem below_drewN {B : Nat} {a w : World} (h : Below B a w) (n : Nat) : Below B a (w.drewN n) := by
  induction n generalizing w with
  | zero => exact h
  | succ n ih => exact (ih h).drew

theorem wd_base (p : Nat → Bool) (c k : Nat) (h : c / 64 = k) (x b : Nat) (hb : b = 64 * k) (hx : x = wd p b 64) : x = wd p (64 * (c / 64)) 64 := by
  rw [h, hx, hb]

theorem and_test (p : Nat → Bool) (c x : Nat) (hx : x = wd p (64 * (c / 64)) 64) : (bits BinOp.and IntKind.u64 (x : Int) ((2 : Int) ^ (c % 64)) != 0) = p c := by
  have hm := wd_mask p c
  have h2 := pow_lt64 c
  have h3 : 0 < 2 ^ (c % 64) := Nat.two_pow_pos _
  rw [← hx] at hm
  have hlt : x < 18446744073709551616 := by rw [hx]; exact wd_lt64 _ _
  rw [show ((2 : Int) ^ (c % 64)) = ((2 ^ (c % 64) : Nat) : Int) by simp, and64 _ _ hlt h2, hm]
  generalize 2 ^ (c % 64) = y at h3
  cases p c
  · simp
  · simp only [if_true]
    have : ¬ y = 0 := by omega
    simp [this]


theorem shr_test (p : Nat → Bool) (c x : Nat) (hx : x = wd p (64 * (c / 64)) 64) : (bits BinOp.and IntKind.u64 ((x : Int) / (2 : Int) ^ (c % 64)) 1 == 1) = p c := by
  have hm := wd_shift p c
  rw [← hx] at hm
  have hlt : x < 18446744073709551616 := by rw [hx]; exact wd_lt64 _ _
  have e : (x : Int) / (2 : Int) ^ (c % 64) = ((x / 2 ^ (c % 64) : Nat) : Int) := by simp
  have l2 : x / 2 ^ (c % 64) < 18446744073709551616 := Nat.lt_of_le_of_lt (Nat.div_le_self _ _) hlt
  have := and64 (x / 2 ^ (c % 64)) 1 l2 (by decide)
  rw [Nat.and_one_is_mod, hm] at this
  have t2 : bits BinOp.and IntKind.u64 ((x / 2 ^ (c % 64) : Nat) : Int) 1 = (((p c).toNat : Nat) : Int) := this
  rw [e, t2]
  cases p c <;> rfl

theorem rhas_any (p : Nat → Bool) (c : Nat) (hc : c < 256) (w : World) : Calls Try.prog 18 #[cs p, .int .u8 c] w fun e w' => e = .returned (.bool (p c)) ∧ Below w.heap.size w w' := by
  unfold cs cl
  have h4 : c / 64 = 0 ∨ c / 64 = 1 ∨ c / 64 = 2 ∨ c / 64 = 3 := by omega
  rcases h4 with h | h | h | h
  · have hq : (c : Int) / 64 = 0 := by omega
    have HT := Lib.hid (shr_test p c _ (wd_base p c _ h _ 0 rfl rfl))
    go_enter Try.func18, Try.ntmps18
    go_wp2
    go_ret
    exact ⟨congrArg (fun b => Ending.returned (Value.bool b)) HT.out, (Below.refl _ _).alloc (Nat.le_refl _) _⟩
  · have hq : (c : Int) / 64 = 1 := by omega
    have HT := Lib.hid (shr_test p c _ (wd_base p c _ h _ 64 rfl rfl))
    go_enter Try.func18, Try.ntmps18
    go_wp2
    go_ret
    exact ⟨congrArg (fun b => Ending.returned (Value.bool b)) HT.out, (Below.refl _ _).alloc (Nat.le_refl _) _⟩
  · have hq : (c : Int) / 64 = 2 := by omega
    have HT := Lib.hid (shr_test p c _ (wd_base p c _ h _ 128 rfl rfl))
    go_enter Try.func18, Try.ntmps18
    go_wp2
    go_ret
    exact ⟨congrArg (fun b => Ending.returned (Value.bool b)) HT.out, (Below.refl _ _).alloc (Nat.le_refl _) _⟩
  · have hq : (c : Int) / 64 = 3 := by omega
    have HT := Lib.hid (shr_test p c _ (wd_base p c _ h _ 192 rfl rfl))
    go_enter Try.func18, Try.ntmps18
    go_wp2
    go_ret
    exact ⟨congrArg (fun b => Ending.returned (Value.bool b)) HT.out, (Below.refl _ _).alloc (Nat.le_refl _) _⟩
end Go.Proofs.Ytpfbpgbgedbalaa
