/- The table 'units' of layer 2 as the card lists it. -/
import Derived.Test.YtdgbfblhiongoaaDoorDecRound
import Derived.ProofKit
import Derived.LaidMore
import Derived.OpenShut
import Derived.Stop.Joined
import Derived.Lib.LaidU8
namespace Go.Proofs.YtdgbfblhiongoaaDoor
open Go.RowKit Go.ChangeShapes Go.WideShapes Go.ChangeAt

def laid3 : List (String × DataW Unit) := [("unicode/utf8.acceptRanges", Rows.laid_unicode_utf8_acceptRanges), ("texttools/decimal.units", Rows.laid_texttools_decimal_units), ("unicode/utf8.first", Rows.laid_unicode_utf8_first)]
theorem gUnits : Tryd.prog.globalNamed "texttools/decimal.units" = some 0 := by kernel_rfl
theorem tUnits : (Tryd.prog.globals[0]?).map (·.type) = some 45 := by kernel_rfl

theorem units_of_reads {W : World} (h : Lib.VarReads Tryd.prog W "texttools/decimal.units" Rows.laid_texttools_decimal_units) : unitsAt W := by
  obtain ⟨g, t, cs, f, p, hg, ht, hv, hd⟩ := h
  obtain rfl := Option.some.inj (gUnits.symm.trans hg)
  obtain rfl := Option.some.inj (tUnits.symm.trans ht)
  obtain ⟨xs, m1, rfl, hx1, hlen, hn5, hel⟩ := DataW.trod_array Tryd.underlying45 hd
  have cE : Tryd.prog.cellsOf 22 = 1 := by kernel_rfl
  have cA : Tryd.prog.cellsOf 45 = 5 := by kernel_rfl
  rw [cA] at hlen
  have e0 := hel 0 (by decide)
  have e1 := hel 1 (by decide)
  have e2 := hel 2 (by decide)
  have e3 := hel 3 (by decide)
  have e4 := hel 4 (by decide)
  rw [cE] at e0 e1 e2 e3 e4
  obtain ⟨cl⟩ := cs
  match xs, hn5, cl, hlen with
  | [x0, x1, x2, x3, x4], _, [c0, c1, c2, c3, c4], _ =>
    obtain ⟨k0, a0, b0, _⟩ := DataW.trod_int Tryd.underlying22 (show DataW.trod _ Tryd.prog W 0 _ _ m1 22 [c0] = some x0 from e0)
    obtain ⟨k1, a1, b1, _⟩ := DataW.trod_int Tryd.underlying22 (show DataW.trod _ Tryd.prog W 0 _ _ m1 22 [c1] = some x1 from e1)
    obtain ⟨k2, a2, b2, _⟩ := DataW.trod_int Tryd.underlying22 (show DataW.trod _ Tryd.prog W 0 _ _ m1 22 [c2] = some x2 from e2)
    obtain ⟨k3, a3, b3, _⟩ := DataW.trod_int Tryd.underlying22 (show DataW.trod _ Tryd.prog W 0 _ _ m1 22 [c3] = some x3 from e3)
    obtain ⟨k4, a4, b4, _⟩ := DataW.trod_int Tryd.underlying22 (show DataW.trod _ Tryd.prog W 0 _ _ m1 22 [c4] = some x4 from e4)
    subst b0 b1 b2 b3 b4
    simp only [List.cons.injEq, and_true] at a0 a1 a2 a3 a4
    subst a0 a1 a2 a3 a4
    simp [Rows.laid_texttools_decimal_units] at hx1
    obtain ⟨⟨rfl, rfl, rfl, rfl, rfl⟩, _⟩ := hx1
    have q0 := World.var?_cell hg hv 0
    have q1 := World.var?_cell hg hv 1
    have q2 := World.var?_cell hg hv 2
    have q3 := World.var?_cell hg hv 3
    have q4 := World.var?_cell hg hv 4
    exact ⟨World.block_lt_of_cell? W _ q0, q0, q1, q2, q3, q4⟩

theorem units_of_laid {W : World} (h : laidMetH Tryd.prog laid3 W) : unitsAt W := by
  rw [MakeChecks.laidMetH_plain _ _ _ (by kernel_rfl)] at h
  exact units_of_reads (Lib.laidMet.reads h (.tail _ (.head _)))

end Go.Proofs.YtdgbfblhiongoaaDoor
