/- The reference's Equivalent and Between. (Written by gen_lrsets.py.) -/
import Derived.Test.YtblaldcioneooaaDoorRows
import Derived.Test.YtblaldcioneooaaDoorLrSplit
set_option linter.unusedVariables false
namespace Go.Proofs.YtblaldcioneooaaDoor
open Go.RowKit

theorem SL.setf {k n g : Nat} {f : Nat → Nat → Value} {w : World} {sv : Value} (h : SL k n f w sv) (hA : AtAny w g) (i0 : Nat) (hi0 : i0 < k) (hv : ∀ n', f 0 i0 ≠ .int .u64 n') (c : Array Value) : SL k n f (w.setRow g c) sv := by
  obtain ⟨r, hA⟩ := hA
  obtain ⟨a, cap, e, hc, h⟩ := h
  refine ⟨a, cap, e, hc, ?_⟩
  by_cases hn : n = 0
  · exact .inl hn
  rcases h with h | ⟨b, off, ha, hlt, h⟩
  · exact .inl h
  · have hb : b ≠ g := at_ne hA (h 0 i0 (by omega) hi0) hv
    refine .inr ⟨b, off, ha, by rw [size_setRow]; exact hlt, fun j i hj hi => ?_⟩
    rw [World.cell?_of_block (w := w) (a := ⟨b, off + j * k + i, none⟩) (setRow_other w g b c hb)]
    exact h j i hj hi
/-- The locale in its block, and a set that is to be written. -/
def RQ (w0 : World) (g : Nat) (V : Loc) (W C E : Value) (w : World) : Prop := RS w0 V W C E w ∧ AtAny w g
theorem RQ.drew {w0 w : World} {g : Nat} {V : Loc} {W C E : Value} (h : RQ w0 g V W C E w) : RQ w0 g V W C E w.drew := ⟨h.1.drew, h.2⟩
theorem RQ.keep {w0 w w' : World} {g : Nat} {V : Loc} {W C E : Value} (hb : Below w.heap.size w w') (h : RQ w0 g V W C E w) : RQ w0 g V W C E w' := ⟨RS.keep hb h.1, h.2.below hb⟩
theorem RQ.set {w0 w : World} {g : Nat} {V : Loc} {W C E : Value} (hg : w0.heap.size < g) (h : RQ w0 g V W C E w) (q : Nat → Bool) : RQ w0 g V W C E (w.setRow g (cl q)) := by
  have h2 := h.2
  obtain ⟨r, hr⟩ := h2
  refine ⟨⟨(setRow_other w g w0.heap.size _ (by omega)).trans h.1.1, ⟨?_, ?_, ?_⟩, below_setRow h.1.2.2 (by omega) _⟩, ⟨q, hr.set q⟩⟩
  · exact SL.setf h.1.2.1.1 h.2 0 (by decide) (fun n' e => by cases e) _
  · exact SL.setf h.1.2.1.2.1 h.2 0 (by decide) (fun n' e => by cases e) _
  · exact SL.setf h.1.2.1.2.2 h.2 0 (by decide) (fun n' e => by cases e) _
theorem RS.wt {w0 w : World} {V : Loc} {b o m cap c : Nat} {C E : Value} (h : RS w0 V (.slice (some ⟨b, o, none⟩) m cap) C E w) (hc : c < V.nw) : w.cell? ⟨b, o + c, none⟩ = some (.int .i64 (V.wt c)) := by
  obtain ⟨a, cap', e, _, h⟩ := h.2.1.1
  rcases h with h | ⟨b', o', ha, _, h⟩
  · omega
  simp only [Value.slice.injEq] at e
  obtain ⟨rfl, -, -⟩ := e
  simp only [Option.some.injEq, Addr.mk.injEq] at ha
  obtain ⟨rfl, rfl, -⟩ := ha
  have := h c 0 hc (by decide)
  simpa [wtF] using this

end Go.Proofs.YtblaldcioneooaaDoor
