/- The reference's Union, Intersect, Minus, Complement. -/
import Derived.Test.YticfhbffoajgcaaGreatDoorRows
import Derived.Test.YticfhbffoajgcaaGreatDoorCsRef
set_option linter.unusedVariables false
namespace Go.Proofs.YticfhbffoajgcaaGreatDoor
open Go.RowKit

theorem runion_any (p q : Nat → Bool) (w : World) : Calls Tryz.prog 24 #[cs p, cs q] w fun e w' => e = .returned (cs fun c => p c || q c) ∧ Below w.heap.size w w' := by
  have HU := Lib.hid (U3_at w p q)
  have HB := Lib.hid (U3_below w p q)
  have Hc := Lib.hid (ror_any p q)
  unfold cs cl at *
  go_enter Tryz.func24, Tryz.ntmps24
  go_wp2_with (first
    | (go_at_call 46
       refine (Hc.out _).mono ?_
       rintro e w1 ⟨rfl, hb⟩
       have a4 := HU.out.2.2.below hb HU.out.2.2.lt
       obtain ⟨⟨d0, d1⟩, ⟨d2, d3⟩, hg⟩ := a4.words
       have HY := Lib.hid (And.intro (HB.out.trans (hb.mono HB.out.size)) a4)
       clear a4 hb))
  exact bodyPost_ret (v := cs fun c => p c || q c) (ret_cs (q := fun c => p c || q c) Tryz.results24 _ _ (w.heap.size + 2) (by simp) (HY.out.2.put4 _)) rfl ⟨rfl, below_put4 HY.out.1 _ (by omega) _⟩


theorem rminus_any (p q : Nat → Bool) (w : World) : Calls Tryz.prog 224 #[cs p, cs q] w fun e w' => e = .returned (cs fun c => p c && !q c) ∧ Below w.heap.size w w' := by
  have HU := Lib.hid (U3_at w p q)
  have HB := Lib.hid (U3_below w p q)
  have Hc := Lib.hid (rdiff_any p q)
  unfold cs cl at *
  go_enter Tryz.func224, Tryz.ntmps224
  go_wp2_with (first
    | (go_at_call 46
       refine (Hc.out _).mono ?_
       rintro e w1 ⟨rfl, hb⟩
       have a4 := HU.out.2.2.below hb HU.out.2.2.lt
       obtain ⟨⟨d0, d1⟩, ⟨d2, d3⟩, hg⟩ := a4.words
       have HY := Lib.hid (And.intro (HB.out.trans (hb.mono HB.out.size)) a4)
       clear a4 hb))
  exact bodyPost_ret (v := cs fun c => p c && !q c) (ret_cs (q := fun c => p c && !q c) Tryz.results224 _ _ (w.heap.size + 2) (by simp) (HY.out.2.put4 _)) rfl ⟨rfl, below_put4 HY.out.1 _ (by omega) _⟩

/-- What a function that has boxed one set and made room for its result holds of the world. -/
abbrev S1 (w0 : World) (p : Nat → Bool) (w : World) : Prop :=
  Wds w w0.heap.size p ∧ Wany w (w0.heap.size + 1) ∧ (∀ j, w.frozen? ⟨w0.heap.size + 1, j, none⟩ = false) ∧ Below w0.heap.size w0 w ∧ AtAny w (w0.heap.size + 1)
theorem S1.start (w0 : World) (p : Nat → Bool) : S1 w0 p (W2 w0 p).drew :=
  have h1 := W2_one w0 p
  have h2 := W2_two w0 p
  ⟨Wds.of h1.drew, AtAny.cells ⟨_, h2.drew⟩, h2.drew.free, (W2_below w0 p).drew, ⟨_, h2.drew⟩⟩
theorem S1.keep {w0 w w' : World} {p : Nat → Bool} (hb : Below w.heap.size w w') (h : S1 w0 p w) : S1 w0 p w' :=
  have a := h.2.2.2.2.below hb
  ⟨h.1.keep hb, a.cells, a.free, h.2.2.2.1.trans (hb.mono h.2.2.2.1.size), a⟩
theorem S1.put {w0 w : World} {p : Nat → Bool} (h : S1 w0 p w) (f : Nat → Bool) : S1 w0 p (put4 w (w0.heap.size + 1) f) :=
  have a := h.2.2.2.2.put f
  ⟨h.1.put (by omega) f, AtAny.cells ⟨_, a⟩, a.free, below_put4 h.2.2.2.1 _ (by omega) f, ⟨_, a⟩⟩

theorem between_all (p : Nat → Bool) : cs (fun c => between 0 255 c && !p c) = cs fun c => !p c := cs_congr _ _ fun c hc => by
  have h : between 0 255 c = true := by
    unfold between
    have : c ≤ 255 := by omega
    simp [this]
  simp [h]

set_option maxHeartbeats 2000000 in
theorem rcompl_any (p : Nat → Bool) (w : World) : Calls Tryz.prog 226 #[cs p] w fun e w' => e = .returned (cs fun c => !p c) ∧ Below w.heap.size w w' := by
  rw [← between_all]
  have HS := Lib.hid (S1.start w p)
  have Hr := Lib.hid (rrange_any 0 255 (by decide) (by decide))
  have Hi := Lib.hid (rdiff_any (between 0 255) p)
  unfold cs cl at *
  go_enter Tryz.func226, Tryz.ntmps226
  go_wp2
  generalize hW : (w.alloc (.cells _ 37)).alloc (.cells _ 37) = W
  have hU : W2 w p = W := hW
  rw [hU] at HS
  clear hU hW
  go_region_held3 (fun w' => S1 w p w')
    (first | exact HS.out | exact S1.keep hb ‹_› | exact S1.put ‹_› (fun c => between 0 255 c && !p c))
    (first
      | (go_at_call 162; refine (Hr.out _).mono ?_; rintro e w1 ⟨rfl, hb⟩)
      | (go_at_call 46; refine (Hi.out _).mono ?_; rintro e w1 ⟨rfl, hb⟩))
  rename_i hS
  obtain ⟨_, _, _, hB, hA⟩ := hS
  have HD := Lib.hid (And.intro hB (AtAny.done (f := fun c => between 0 255 c && !p c) hA))
  clear hB hA
  go_wp2
  exact bodyPost_ret (v := cs fun c => between 0 255 c && !p c) (ret_cs (q := fun c => between 0 255 c && !p c) Tryz.results226 _ _ (w.heap.size + 1) (by simp) HD.out.2) rfl ⟨rfl, HD.out.1⟩
end Go.Proofs.YticfhbffoajgcaaGreatDoor
