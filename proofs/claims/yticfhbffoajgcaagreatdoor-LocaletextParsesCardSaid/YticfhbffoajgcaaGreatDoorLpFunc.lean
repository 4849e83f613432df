/- slices.ContainsFunc at numbers, classes and elements, with the program's predicates. -/
import Derived.Test.YticfhbffoajgcaaGreatDoorRows
import Derived.Test.YticfhbffoajgcaaGreatDoorLcCheck
import Derived.Test.YticfhbffoajgcaaGreatDoorLpSmall
set_option linter.unusedVariables false
namespace Go.Proofs.YticfhbffoajgcaaGreatDoor
open Go.RowKit

/-- The first of n numbers that answers. -/
def first (p : Nat → Bool) (n : Nat) : Int := match (List.range n).find? p with
  | some k => (k : Int)
  | none => -1
theorem first_at (p : Nat → Bool) (n k : Nat) (hk : k < n) (h : p k = true) (hb : ∀ q, q < k → p q = false) : first p n = (k : Int) := by
  have e : (List.range n).find? p = some k := by
    rw [List.find?_range_eq_some]
    exact ⟨h, by simpa using hk, fun j hj => by simp [hb j hj]⟩
  unfold first
  rw [e]
theorem first_none (p : Nat → Bool) (n : Nat) (hb : ∀ q, q < n → p q = false) : first p n = -1 := by
  have e : (List.range n).find? p = none := by
    rw [List.find?_eq_none]
    intro x hx
    simp [hb x (by simpa using hx)]
  unfold first
  rw [e]
theorem first_any (p : Nat → Bool) (n : Nat) : decide (0 ≤ first p n) = (List.range n).any p := by
  unfold first
  cases h : (List.range n).find? p with
  | none =>
    have h2 := List.find?_eq_none.1 h
    have : (List.range n).any p = false := by
      rw [List.any_eq_false]
      exact h2
    rw [this]
    rfl
  | some k =>
    have h1 := List.find?_some h
    have h2 := List.mem_of_find?_eq_some h
    have : (List.range n).any p = true := List.any_eq_true.2 ⟨k, h2, h1⟩
    rw [this]
    simp
theorem first_range (p : Nat → Bool) (n : Nat) : -1 ≤ first p n := by
  unfold first
  split <;> omega

/-- Is it no weight? -/
def heavyN (x : Int) : Bool := !(decide (0 ≤ x) && decide (x ≤ 65535))
set_option maxRecDepth 100000 in
set_option maxHeartbeats 4000000 in
theorem ixNum_any (n : Nat) (x : Nat → Int) (sv : Value) (w : World) (hS : SL 1 n (fun j _ => .int .i64 (x j)) w sv) (hn : n ≤ 256) :
    Calls Tryz.prog 140 #[sv, .func (.func 100) #[] #[]] w fun e w' => e = .returned (.int .i64 (first (fun j => heavyN (x j)) n)) ∧ w = w' := by
  obtain ⟨R, hR⟩ : ∃ R, first (fun j => heavyN (x j)) n = R := ⟨_, rfl⟩
  rw [hR]
  have HR := Lib.hid hR
  clear hR
  obtain ⟨a, cap, rfl, hcap, hcells⟩ := hS
  have i256 : (n : Int) ≤ 256 := by omega
  rcases hcells with h0 | ⟨b, off, rfl, hlt, hcells⟩
  · subst h0
    have HN : Hid (R = -1) := HR.out.symm.trans (first_none _ _ fun q hq => by omega)
    go_enter Tryz.func140, Tryz.ntmps140
    go_wp2
    go_loopw [8] (fun i wr => i = .int .i64 0 ∧ wr = w) (fun _ _ => 0)
    case atStart => exact ⟨rfl, rfl⟩
    case round =>
      obtain ⟨rfl, rfl⟩ := hrel
      go_wp2
      go_ret
      exact ⟨by rw [HN.out] <;> rfl, rfl⟩
  · have HC := Lib.hid hcells
    clear hcells
    go_enter Tryz.func140, Tryz.ntmps140
    go_wp2
    go_loopw [8] (fun i wr => ∃ k : Nat, k ≤ n ∧ i = .int .i64 k ∧ Hid (∀ q, q < k → heavyN (x q) = false) ∧ wr = w) (fun i _ => n - (intOf i).toNat)
    case atStart => exact ⟨0, Nat.zero_le _, rfl, fun q hq => by omega, rfl⟩
    case round =>
      obtain ⟨k, hk, rfl, HQ, rfl⟩ := hrel
      by_cases hkn : k < n
      · have ki : (k : Int) < n := by omega
        have ki0 : (0 : Int) ≤ k := by omega
        have ck : wr.cell? ⟨b, off + k, none⟩ = some (.int .i64 (x k)) := by
          have := HC.out k 0 hkn (by decide)
          simpa using this
        have HP := Lib.hid (pIsNoWeight_any (x k))
        obtain ⟨X, hX⟩ : ∃ X, x k = X := ⟨_, rfl⟩
        obtain ⟨B, hB⟩ : ∃ B, (!(decide (0 ≤ x k) && decide (x k ≤ 65535))) = B := ⟨_, rfl⟩
        rw [hB] at HP
        have HB : Hid (heavyN (x k) = B) := hB
        clear hB hX
        rcases bool_tf B with hb | hb
        · subst hb
          have HN : Hid (R = (k : Int)) := HR.out.symm.trans (first_at _ n k hkn HB.out HQ.out)
          go_wp2_with (go_at_call 100; refine (HP.out _).mono ?_; rintro e w1 ⟨rfl, rfl⟩)
          go_ret
          exact ⟨by rw [HN.out] <;> rfl, rfl⟩
        · subst hb
          go_wp2_with (go_at_call 100; refine (HP.out _).mono ?_; rintro e w1 ⟨rfl, rfl⟩)
          go_roundw
          case rel =>
            refine ⟨k + 1, by omega, by go_num, fun q hq => ?_, trivial⟩
            by_cases e : q = k
            · subst e; exact HB.out
            · exact HQ.out q (by omega)
          case measure => simp [intOf]; omega
      · obtain rfl : k = n := by omega
        have HN : Hid (R = -1) := HR.out.symm.trans (first_none _ _ HQ.out)
        go_wp2
        go_ret
        exact ⟨by rw [HN.out] <;> rfl, rfl⟩
theorem conNum_any (n : Nat) (x : Nat → Int) (sv : Value) (w : World) (hS : SL 1 n (fun j _ => .int .i64 (x j)) w sv) (hn : n ≤ 256) :
    Calls Tryz.prog 99 #[sv, .func (.func 100) #[] #[]] w fun e w' => e = .returned (.bool ((List.range n).any fun j => heavyN (x j))) ∧ w = w' := by
  have HI := Lib.hid (ixNum_any n x sv w hS hn)
  have HA := Lib.hid (first_any (fun j => heavyN (x j)) n)
  generalize first (fun j => heavyN (x j)) n = I at HI HA
  go_enter Tryz.func99, Tryz.ntmps99
  go_wp2_with (go_at_call 140; refine HI.out.mono ?_; rintro e w1 ⟨rfl, rfl⟩)
  go_ret
  exact ⟨by rw [← HA.out] <;> rfl, rfl⟩
end Go.Proofs.YticfhbffoajgcaaGreatDoor
