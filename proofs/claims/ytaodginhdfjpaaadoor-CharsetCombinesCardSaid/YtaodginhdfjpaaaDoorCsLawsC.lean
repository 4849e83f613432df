/- The law on the union, the intersection, the difference and the complement of sets. -/
import Derived.Test.YtaodginhdfjpaaaDoorRows
import Derived.Test.YtaodginhdfjpaaaDoorCsLawsB
set_option linter.unusedVariables false
namespace Go.Proofs.YtaodginhdfjpaaaDoor
open Go.RowKit

/-- The world in which a law stands that has boxed two sets. -/
def B2 (w : World) (p q : Nat → Bool) : World := (w.alloc (.cells (cl p) 26)).alloc (.cells (cl q) 26)
/-- What a law that has boxed two sets holds of the world. -/
abbrev L2 (w0 : World) (p q : Nat → Bool) (w : World) : Prop := Wds w w0.heap.size p ∧ Wds w (w0.heap.size + 1) q ∧ tabAt w ∧ Below w0.heap.size w0 w
theorem L2.start (w0 : World) (p q : Nat → Bool) (h : tabAt w0) : L2 w0 p q (B2 w0 p q) :=
  have hb : Below w0.heap.size w0 (B2 w0 p q) := ((Below.refl _ _).alloc (Nat.le_refl _) _).alloc (by simp) _
  have h2 : At (B2 w0 p q) (w0.heap.size + 1) q := by
    have := At.new (w0.alloc (.cells (cl p) 26)) q
    unfold B2
    simpa using this
  ⟨Wds.of ((At.new w0 p).alloc _), Wds.of h2, tab_keep h hb, hb⟩
theorem L2.drew {w0 w : World} {p q : Nat → Bool} (h : L2 w0 p q w) : L2 w0 p q w.drew := ⟨h.1, h.2.1, h.2.2.1, h.2.2.2.drew⟩
theorem L2.keep {w0 w w' : World} {p q : Nat → Bool} (hb : Below w.heap.size w w') (h : L2 w0 p q w) : L2 w0 p q w' :=
  ⟨h.1.keep hb, h.2.1.keep hb, tab_keep h.2.2.1 hb, h.2.2.2.trans (hb.mono h.2.2.2.size)⟩
theorem L2.tab {w0 w : World} {p q : Nat → Bool} (h : L2 w0 p q w) : tabAt w := h.2.2.1

set_option maxHeartbeats 16000000 in
theorem charsetCombines_law (p q : Nat → Bool) (w : World) (hT : tabAt w) :
    Calls Tryd.prog 5 #[cs p, cs q] w fun e w' => e = .returned (.bool true) ∧ Below w.heap.size w w' := by
  have HS := Lib.hid (L2.start w p q hT)
  clear hT
  have HA := Lib.hid awake_any
  have H1 := Lib.hid (union_any p q)
  have H2 := Lib.hid (runion_any p q)
  have H3 := Lib.hid (inter_any p q)
  have H4 := Lib.hid (rinter_any p q)
  have H5 := Lib.hid (minus_any p q)
  have H6 := Lib.hid (rminus_any p q)
  have H7 := Lib.hid (compl_any p)
  have H8 := Lib.hid (rcompl_any p)
  obtain ⟨f1, h1⟩ : ∃ f : Nat → Bool, f = fun c => p c || q c := ⟨_, rfl⟩
  obtain ⟨f2, h2⟩ : ∃ f : Nat → Bool, f = fun c => p c && q c := ⟨_, rfl⟩
  obtain ⟨f3, h3⟩ : ∃ f : Nat → Bool, f = fun c => p c && !q c := ⟨_, rfl⟩
  obtain ⟨f4, h4⟩ : ∃ f : Nat → Bool, f = fun c => !p c := ⟨_, rfl⟩
  rw [← h1] at H1 H2
  rw [← h2] at H3 H4
  rw [← h3] at H5 H6
  rw [← h4] at H7 H8
  clear h1 h2 h3 h4
  have hg := eq_guard
  unfold cs cl at *
  have he1 := eql_same (wd f1 0 64 : Nat) (wd f1 64 64 : Nat) (wd f1 128 64 : Nat) (wd f1 192 64 : Nat)
  have he2 := eql_same (wd f2 0 64 : Nat) (wd f2 64 64 : Nat) (wd f2 128 64 : Nat) (wd f2 192 64 : Nat)
  have he3 := eql_same (wd f3 0 64 : Nat) (wd f3 64 64 : Nat) (wd f3 128 64 : Nat) (wd f3 192 64 : Nat)
  have he4 := eql_same (wd f4 0 64 : Nat) (wd f4 64 64 : Nat) (wd f4 128 64 : Nat) (wd f4 192 64 : Nat)
  go_enter Tryd.func5, Tryd.ntmps5
  go_wp2
  generalize hW : (w.alloc (.cells _ 26)).alloc (.cells _ 26) = W
  have hU : B2 w p q = W := hW
  rw [hU] at HS
  clear hU hW
  go_region_held3 (fun w' => L2 w p q w')
    (first | exact L2.drew HS.out | exact L2.keep hb ‹_›)
    (first
      | (go_at_call 19; refine (H1.out _).mono ?_; rintro e w1 ⟨rfl, hb⟩)
      | (go_at_call 20; refine (H2.out _).mono ?_; rintro e w1 ⟨rfl, hb⟩)
      | (go_at_call 21; refine (H3.out _).mono ?_; rintro e w1 ⟨rfl, hb⟩)
      | (go_at_call 22; refine (H4.out _).mono ?_; rintro e w1 ⟨rfl, hb⟩)
      | (go_at_call 23; refine (H5.out _).mono ?_; rintro e w1 ⟨rfl, hb⟩)
      | (go_at_call 24; refine (H6.out _).mono ?_; rintro e w1 ⟨rfl, hb⟩)
      | (go_at_call 25; refine (H7.out _).mono ?_; rintro e w1 ⟨rfl, hb⟩)
      | (go_at_call 26; refine (H8.out _).mono ?_; rintro e w1 ⟨rfl, hb⟩)
      | (go_at_call 8; refine (HA.out _ (by exact L2.tab (w0 := w) (p := p) (q := q) (by assumption))).mono ?_; rintro e w1 ⟨rfl, hb⟩))
  rename_i hS
  have HZ := Lib.hid hS.2.2.2
  clear hS
  go_wp2
  go_ret
  exact ⟨rfl, HZ.out⟩
end Go.Proofs.YtaodginhdfjpaaaDoor
