/- The reference's Compare, Split, Lower and Upper. (Written by gen_lrc.py.) -/
import Derived.Test.YtblaldcioneooaaDoorRows
import Derived.Test.YtblaldcioneooaaDoorLrWts
import Derived.Test.YtblaldcioneooaaDoorLpCase
set_option linter.unusedVariables false
namespace Go.Proofs.YtblaldcioneooaaDoor
open Go.RowKit

theorem lat_ne {w : World} {g b o : Nat} {s0 s2 s3 : ByteArray} {a1 a4 a5 : Option Addr} {n1 n4 n5 c1 c4 c5 : Nat} {k : IntKind} {x : Int} (hA : LAt w g #[.string s0, .slice a1 n1 c1, .string s2, .string s3, .slice a4 n4 c4, .slice a5 n5 c5]) (h : w.cell? ⟨b, o, none⟩ = some (.int k x)) : b ≠ g := by
  rintro rfl
  rw [hA.cell o] at h
  match o, h with
  | 0, h => simp at h
  | 1, h => simp at h
  | 2, h => simp at h
  | 3, h => simp at h
  | 4, h => simp at h
  | 5, h => simp at h
  | o + 6, h => simp at h
theorem SL.putf {k n g : Nat} {f : Nat → Nat → Value} {w : World} {sv : Value} (h : SL k n f w sv) (i0 : Nat) (hi0 : i0 < k) (hne : ∀ b o, 0 < n → w.cell? ⟨b, o, none⟩ = some (f 0 i0) → b ≠ g) (c0 c1 c2 c3 c4 c5 : Value) : SL k n f (Go.Proofs.YtblaldcioneooaaDoor.put6 w g c0 c1 c2 c3 c4 c5) sv := by
  obtain ⟨a, cap, e, hc, h⟩ := h
  refine ⟨a, cap, e, hc, ?_⟩
  by_cases hn : n = 0
  · exact .inl hn
  rcases h with h | ⟨b, off, ha, hlt, h⟩
  · exact .inl h
  · have hb := hne b _ (by omega) (h 0 i0 (by omega) hi0)
    refine .inr ⟨b, off, ha, Nat.lt_of_lt_of_eq hlt (put6_size w g c0 c1 c2 c3 c4 c5).symm, fun j i hj hi => ?_⟩
    rw [World.cell?_of_block (w := w) (a := ⟨b, off + j * k + i, none⟩) (put6_far w g b hb c0 c1 c2 c3 c4 c5)]
    exact h j i hj hi
/-- A function that goes by a valid locale has it in its first block. -/
def RS (w0 : World) (V : Loc) (W C E : Value) (w : World) : Prop := LAt w w0.heap.size (lcl V W C E) ∧ LocM w V W C E ∧ Below w0.heap.size w0 w
theorem RS.start {w0 w1 : World} {L V : Loc} {aw ac ae : Option Addr} {nw nc ne cw cc ce : Nat} {W1 C1 E1 : Value} (hA : LAt w1 w0.heap.size (lcl L (.slice aw nw cw) (.slice ac nc cc) (.slice ae ne ce))) (hm : LocM w1 V W1 C1 E1) (hb : Below w0.heap.size w0 w1) :
    RS w0 V W1 C1 E1 (put6 w1 w0.heap.size (.string V.name) W1 (.string V.lower) (.string V.upper) C1 E1) := by
  unfold lcl at hA
  refine ⟨LAt.put6 hA _ _ _ _ _ _, ⟨?_, ?_, ?_⟩, below_put6 hb _ (Nat.le_refl _) _ _ _ _ _ _⟩
  · exact SL.putf hm.1 0 (by decide) (fun b o _ h => lat_ne hA h) _ _ _ _ _ _
  · exact SL.putf hm.2.1 1 (by decide) (fun b o _ h => by rw [clsF_word V 0 0] at h; exact lat_ne hA h) _ _ _ _ _ _
  · exact SL.putf hm.2.2 1 (by decide) (fun b o _ h => lat_ne hA h) _ _ _ _ _ _
theorem RS.drew {w0 w : World} {V : Loc} {W C E : Value} (h : RS w0 V W C E w) : RS w0 V W C E w.drew := ⟨h.1, h.2.1.below (Below.refl _ _).drew, h.2.2.drew⟩
theorem RS.keep {w0 w w' : World} {V : Loc} {W C E : Value} (hb : Below w.heap.size w w') (h : RS w0 V W C E w) : RS w0 V W C E w' := ⟨h.1.under hb h.1.lt, h.2.1.below hb, h.2.2.trans (hb.mono h.2.2.size)⟩
theorem wts_len (V : Loc) (l : List UInt8) : (wts V l).length ≤ l.length := by
  have := pcs_len V l
  unfold pcs at this
  unfold wts
  rw [List.length_map] at this ⊢
  exact this

end Go.Proofs.YtblaldcioneooaaDoor
