/- RtX6. -/
import Derived.Test.YtbjobbkipmkndaaDoorPj11
set_option linter.unusedVariables false
set_option linter.unusedSimpArgs false
set_option maxRecDepth 100000
set_option maxHeartbeats 4000000
namespace Go.Proofs.YtbjobbkipmkndaaDoor
open Go.RowKit
theorem expg_of (f : F) (hch : ∀ i, i < f.len → ExpG (f.nth i).args) : ExpG f := by
  intro o l h g st sv w S hsv hS hok
  by_cases o5 : o = 5
  · subst o5
    obtain ⟨h1, hl, hh⟩ := hok.1.2 rfl
    obtain ⟨o1, s1, l1, h2, g1, a1, rfl⟩ := len1 h1
    obtain ⟨zs, ad, cap, rfl, hcap, hfv, hcells⟩ := hsv
    obtain ⟨sva, ys, rfl, hsa, hys⟩ := FV.cons.1 hfv
    cases hys
    rw [List.append_nil] at hcells
    rcases hcells with h0 | ⟨b, i, rfl, hSb, hlt, hce⟩
    · cases h0
    obtain ⟨ad2, cp2, rfl⟩ := slice_form hsa
    have hx := exp_5 ⟨o1, s1, l1, h2, g1, a1⟩ (hch 0 (Nat.zero_lt_succ _)) l h g st b i cap ad2 cp2 w S hlt hce hsa hS hok.2.1 hl hh _ rfl
    exact hx
  · have e5 : (o == 5) = false := by simpa using o5
    have hx := exp_x f hch o l h g st sv w S hsv hS hok e5 o5
    have he : expT ⟨o, st, l, h, g, f⟩ = ⟨o, st, l, h, g, expF f⟩ := by unfold expT expN; rw [if_neg o5]
    rw [he]
    exact hx
theorem expg_all : ∀ f : F, (∀ i, i < f.len → ExpG (f.nth i).args)
  | .nil, _, h => by cases h
  | .cons o s l h g a r, 0, _ => expg_of a (expg_all a)
  | .cons o s l h g a r, i + 1, hi => expg_all r i (by have hi : i + 1 < r.len + 1 := hi; omega)
theorem expg_any (f : F) : ExpG f := expg_of f (expg_all f)
end Go.Proofs.YtbjobbkipmkndaaDoor
