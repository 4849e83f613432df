/- The locale by which all functions but Check go: the given one, or the default one. -/
import Derived.Test.YtblaldcioneooaaGreatDoorRows
import Derived.Test.YtblaldcioneooaaGreatDoorLcDefB
set_option linter.unusedVariables false
namespace Go.Proofs.YtblaldcioneooaaGreatDoor
open Go.RowKit

def vld (L : Loc) : Loc := if chk L = 0 then L else Ldef
theorem LAt.six {w : World} {g : Nat} {x0 x1 x2 x3 x4 x5 : Value} (h : LAt w g #[x0, x1, x2, x3, x4, x5]) :
    (w.cell? ⟨g, 0, none⟩ = some x0 ∧ w.cell? ⟨g, 1, none⟩ = some x1 ∧ w.cell? ⟨g, 2, none⟩ = some x2) ∧ (w.cell? ⟨g, 3, none⟩ = some x3 ∧ w.cell? ⟨g, 4, none⟩ = some x4 ∧ w.cell? ⟨g, 5, none⟩ = some x5) ∧ ∀ j, w.frozen? ⟨g, j, none⟩ = false :=
  ⟨⟨h.cell 0, h.cell 1, h.cell 2⟩, ⟨h.cell 3, h.cell 4, h.cell 5⟩, h.free⟩
/-- The world of a function that has boxed one locale and made room for its result. -/
def VL2 (w : World) (c : Array Value) : World := (w.alloc (.cells c 26)).alloc (.cells zeroL 26)
theorem VL2_one (w : World) (c : Array Value) : LAt (VL2 w c) w.heap.size c := by
  unfold LAt VL2
  rw [heap_alloc_old _ _ (by simp)]
  exact heap_alloc_new w _
theorem VL2_two (w : World) (c : Array Value) : LAt (VL2 w c) (w.heap.size + 1) zeroL := by
  have e1 : (w.alloc (.cells c 26)).heap.size = w.heap.size + 1 := by simp
  unfold LAt VL2
  rw [← e1]
  exact heap_alloc_new _ _
theorem VL2_below (w : World) (c : Array Value) : Below w.heap.size w (VL2 w c) := ((Below.refl _ _).alloc (Nat.le_refl _) _).alloc (by simp) _
theorem VL2_size (w : World) (c : Array Value) : (VL2 w c).heap.size = w.heap.size + 2 := by unfold VL2; simp
theorem LocM.put6 {w : World} {L : Loc} {W C E : Value} {B : Nat} (h : LocM w L W C E) (hB : w.heap.size ≤ B) (c0 c1 c2 c3 c4 c5 : Value) : LocM (Go.Proofs.YtblaldcioneooaaGreatDoor.put6 w B c0 c1 c2 c3 c4 c5) L W C E := h.below (below_put6 (Below.refl _ _) B hB c0 c1 c2 c3 c4 c5)
theorem put6_far (w : World) (g k : Nat) (h : k ≠ g) (c0 c1 c2 c3 c4 c5 : Value) : (Go.Proofs.YtblaldcioneooaaGreatDoor.put6 w g c0 c1 c2 c3 c4 c5).heap[k]? = w.heap[k]? := by
  unfold Go.Proofs.YtblaldcioneooaaGreatDoor.put6
  rw [Below.heap_setCell _ ⟨g, 5, none⟩ _ k h, Below.heap_setCell _ ⟨g, 4, none⟩ _ k h, Below.heap_setCell _ ⟨g, 3, none⟩ _ k h, Below.heap_setCell _ ⟨g, 2, none⟩ _ k h, Below.heap_setCell _ ⟨g, 1, none⟩ _ k h, Below.heap_setCell _ ⟨g, 0, none⟩ _ k h]
theorem put6_size (w : World) (g : Nat) (c0 c1 c2 c3 c4 c5 : Value) : (Go.Proofs.YtblaldcioneooaaGreatDoor.put6 w g c0 c1 c2 c3 c4 c5).heap.size = w.heap.size := by
  unfold Go.Proofs.YtblaldcioneooaaGreatDoor.put6
  simp
theorem SL.put6 {k n x y g : Nat} {f : Nat → Nat → Value} {w : World} (h : SL k n f w (.slice (some ⟨x, 0, none⟩) n y)) (hx : x ≠ g) (c0 c1 c2 c3 c4 c5 : Value) : SL k n f (Go.Proofs.YtblaldcioneooaaGreatDoor.put6 w g c0 c1 c2 c3 c4 c5) (.slice (some ⟨x, 0, none⟩) n y) := by
  obtain ⟨a, cap, e, hc, h⟩ := h
  refine ⟨a, cap, e, hc, ?_⟩
  rcases h with h | ⟨b, off, ha, hlt, h⟩
  · exact .inl h
  · have hb : b = x := by
      rw [ha] at e
      simp at e
      omega
    refine .inr ⟨b, off, ha, Nat.lt_of_lt_of_eq hlt (put6_size w g c0 c1 c2 c3 c4 c5).symm, fun j i hj hi => ?_⟩
    rw [World.cell?_of_block (w := w) (a := ⟨b, off + j * k + i, none⟩) (put6_far w g b (by rw [hb]; exact hx) c0 c1 c2 c3 c4 c5)]
    exact h j i hj hi
theorem locM_wt {w : World} {W C E : Value} (h : LocM w Ldef W C E) : SL 1 256 (wtF Ldef) w W := h.1
attribute [local irreducible] Ldef

end Go.Proofs.YtblaldcioneooaaGreatDoor
