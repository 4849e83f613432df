/- The reference's Union, Intersect, Minus, Complement. -/
import Derived.Test.YtpfbpgbgedbalaaRows
import Derived.Test.YtpfbpgbgedbalaaCsRef
set_option linter.unusedVariables false
namespace Go.Proofs.Ytpfbpgbgedbalaa
open Go.RowKit

theorem runion_any (p q : Nat → Bool) (w : World) : Calls Try.prog 26 #[cs p, cs q] w fun e w' => e = .returned (cs fun c => p c || q c) ∧ Below w.heap.size w w' := by
  have HU := Lib.hid (U3_at w p q)
  have HB := Lib.hid (U3_below w p q)
  have Hc := Lib.hid (ror_any p q)
  unfold cs cl at *
  go_enter Try.func26, Try.ntmps26
  go_wp2_with (first
    | (go_at_call 51
       refine (Hc.out _).mono ?_
       rintro e w1 ⟨rfl, hb⟩
       have a4 := HU.out.2.2.below hb HU.out.2.2.lt
       obtain ⟨⟨d0, d1⟩, ⟨d2, d3⟩, hg⟩ := a4.words
       have HY := Lib.hid (And.intro (HB.out.trans (hb.mono HB.out.size)) a4)
       clear a4 hb))
  exact bodyPost_ret (v := cs fun c => p c || q c) (ret_cs (q := fun c => p c || q c) Try.results26 _ _ (w.heap.size + 2) (by simp) (HY.out.2.put4 _)) rfl ⟨rfl, below_put4 HY.out.1 _ (by omega) _⟩



/-- What a function that has boxed one set and made room for its result holds of the world. -/
abbrev S1 (w0 : World) (p : Nat → Bool) (w : World) : Prop :=
  Wds w w0.heap.size p ∧ Wany w (w0.heap.size + 1) ∧ (∀ j, w.frozen? ⟨w0.heap.size + 1, j, none⟩ = false) ∧ Below w0.heap.size w0 w ∧ AtAny w (w0.heap.size + 1)
theorem S1.start (w0 : World) (p : Nat → Bool) : S1 w0 p (W2 w0 p).drew :=
  have h1 := W2_one w0 p
  have h2 := W2_two w0 p
  ⟨Wds.of h1.drew, AtAny.cells ⟨_, h2.drew⟩, h2.drew.free, (W2_below w0 p).drew, ⟨_, h2.drew⟩⟩
theorem S1.keep {w0 w w' : World} {p : Nat → Bool} (hb : Below w.heap.size w w') (h : S1 w0 p w) : S1 w0 p w' :=
  have a := h.2.2.2.2.below hb
  ⟨h.1.keep hb, a.cells, a.free, h.2.2.2.1.trans (hb.mono h.2.2.2.1.size), a⟩
theorem S1.put {w0 w : World} {p : Nat → Bool} (h : S1 w0 p w) (f : Nat → Bool) : S1 w0 p (put4 w (w0.heap.size + 1) f) :=
  have a := h.2.2.2.2.put f
  ⟨h.1.put (by omega) f, AtAny.cells ⟨_, a⟩, a.free, below_put4 h.2.2.2.1 _ (by omega) f, ⟨_, a⟩⟩

theorem between_all (p : Nat → Bool) : cs (fun c => between 0 255 c && !p c) = cs fun c => !p c := cs_congr _ _ fun c hc => by
  have h : between 0 255 c = true := by
    unfold between
    have : c ≤ 255 := by omega
    simp [this]
  simp [h]

end Go.Proofs.Ytpfbpgbgedbalaa
