/- The parts of the survey: canHave, hasItsBounds, hasItsFields. -/
import Derived.Test.YtpfbpgbgedbalaaRtValid
import Derived.WalkKit
import Derived.WalkSpells
import Derived.WalkLawsBesides
import Derived.BigGuardPart
import Derived.BigQuiet
import Derived.Lib.Hide
import Derived.Outline
set_option linter.unusedVariables false
set_option linter.unusedSimpArgs false
set_option maxRecDepth 100000
set_option maxHeartbeats 8000000
namespace Go.Proofs.Ytpfbpgbgedbalaa
open Go.RowKit

theorem beq_dec (a b : Int) : (a == b) = decide (a = b) := by by_cases h : a = b <;> simp [h]
theorem bnd_any (o l h g : Int) (st : Nat → Bool) (sv : Value) (w : World) : Calls Try.prog 83 #[.agg #[.int .i64 o, .int .u64 (wd st 0 64 : Nat), .int .u64 (wd st 64 64 : Nat), .int .u64 (wd st 128 64 : Nat), .int .u64 (wd st 192 64 : Nat), .int .i64 l, .int .i64 h, .int .i64 g, sv]] w fun e w' => e = .returned (.bool (bndT l h)) ∧ Below w.heap.size w w' := by
  go_enter Try.func83, Try.ntmps83
  go_wp2
  all_goals go_ret
  all_goals refine ⟨?_, (Below.refl _ _).alloc (Nat.le_refl _) _⟩
  all_goals (unfold bndT; congr 2; simp only [decide_eq_true_eq, *]; first | rfl | (simp; omega) | omega | simp_all)

theorem have_any (o : Int) (n : Nat) (w : World) : Calls Try.prog 87 #[.int .i64 o, .int .i64 (n : Int)] w fun e w' => e = .returned (.bool (havT o n)) ∧ w' = w := by
  go_enter Try.func87, Try.ntmps87
  go_wp2
  all_goals go_ret
  all_goals refine ⟨?_, rfl⟩
  all_goals (unfold havT; congr 2; simp_all [beq_dec] <;> omega)

theorem flds_any (o l h g : Int) (st : Nat → Bool) (n : Nat) (ad : Option Addr) (cap : Nat) (w : World) : Calls Try.prog 82 #[.agg #[.int .i64 o, .int .u64 (wd st 0 64 : Nat), .int .u64 (wd st 64 64 : Nat), .int .u64 (wd st 128 64 : Nat), .int .u64 (wd st 192 64 : Nat), .int .i64 l, .int .i64 h, .int .i64 g, .slice ad n cap]] w fun e w' => e = .returned (.bool (fldT o st l h g n)) ∧ Below w.heap.size w w' := by
  have HH : Hid (∀ (x : Int) (W : World), x = o → Calls Try.prog 87 #[.int .i64 x, .int .i64 (n : Int)] W fun e w' => e = .returned (.bool (havT o n)) ∧ w' = W) := Lib.hid (fun x W hx => by rw [hx]; exact have_any o n W)
  cases hv : havT o n
  all_goals (cases hs : eqc st noSet)
  all_goals (first | have hcmp := cmp_full hs | have hcmp := cmp_none hs)
  all_goals rw [hv] at HH
  all_goals
    (go_enter Try.func82, Try.ntmps82
     go_wp2_with (first | (go_at_call 87; (with_reducible refine (HH.out _ _ (by first | rfl | (symm; assumption) | assumption)).mono ?_); rintro e w1 ⟨rfl, rfl⟩)))
  all_goals go_ret
  all_goals refine ⟨?_, (Below.refl _ _).alloc (Nat.le_refl _) _⟩
  all_goals (unfold fldT; congr 2; simp_all [beq_dec])

theorem closed_any (g : Int) (B : Nat) (c : List Bool) (sv : Value) (w : World) (hg1 : -9223372036854775808 ≤ g) (hg2 : g ≤ 9223372036854775807) (hc : w.cell? ⟨B, 3, none⟩ = some sv) (ho : w.ownsRow (B + 1) 4 1 sv c.length (c.map fun b => .bool b)) :
    Calls Try.prog 84 #[.pointer (some ⟨B, 0, none⟩), .int .i64 g] w fun e w' => e = .returned (.bool (clB c g)) ∧ w' = w := by
  obtain ⟨ad, cap, rfl⟩ : ∃ ad cap, sv = .slice ad c.length cap := by
    rcases ho.2 with ⟨rfl, h0⟩ | ⟨g, cap, cur, rfl, _⟩
    · exact ⟨none, 0, by rw [h0]⟩
    · exact ⟨_, cap, rfl⟩
  by_cases h1 : 1 ≤ g
  case neg =>
    go_enter Try.func84, Try.ntmps84
    go_wp2
    go_ret
    exact ⟨by unfold clB; rw [show decide (1 ≤ g) = false by rw [decide_eq_false_iff_not]; omega]; rfl, rfl⟩
  by_cases h2 : g ≤ (c.length : Int)
  case neg =>
    go_enter Try.func84, Try.ntmps84
    go_wp2
    go_ret
    exact ⟨by unfold clB; rw [show decide (g ≤ (c.length : Int)) = false by rw [decide_eq_false_iff_not]; omega]; simp, rfl⟩
  obtain ⟨k, rfl⟩ : ∃ k : Nat, g = (k : Int) + 1 := ⟨(g - 1).toNat, by omega⟩
  have hk : k < c.length := by omega
  have hcell : ∃ b, ad = some ⟨b, 0, none⟩ ∧ w.cell? ⟨b, k, none⟩ = some (.bool (c.getD k false)) := by
    rcases ho.2 with ⟨_, h0⟩ | ⟨b, cap', cur, e, _⟩
    · omega
    · cases e
      refine ⟨b, rfl, ?_⟩
      have := ho.cells (g := b) rfl k (.bool (c.getD k false)) (by rw [List.getElem?_map, List.getElem?_eq_getElem hk]; simp [List.getD, List.getElem?_eq_getElem hk])
      rwa [add_at] at this
  obtain ⟨b, rfl, hcb⟩ := hcell
  have e1 : clB c ((k : Int) + 1) = c.getD k false := by
    unfold clB
    have e : ((k : Int) + 1 - 1).toNat = k := by omega
    rw [e]
    simp [h1, h2]
  rw [e1]
  have hk2 : (k : Int) < c.length := by omega
  have hk0 : (0 : Int) ≤ k := by omega
  clear ho e1
  generalize c.getD k false = x at hcb ⊢
  go_enter Try.func84, Try.ntmps84
  go_wp2
  go_ret
  exact ⟨rfl, rfl⟩
end Go.Proofs.Ytpfbpgbgedbalaa
