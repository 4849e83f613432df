/- Several texts in one (a claim has at most 60 files). -/
import Derived.Test.YtblaldcioneooaaDoorMG
import Derived.Test.YtblaldcioneooaaDoorMB
/- The law of the round trip. (Written by gen_ltlaw1.py.) -/
set_option linter.unusedVariables false
set_option maxRecDepth 100000
namespace Go.Proofs.YtblaldcioneooaaDoor
open Go.RowKit

set_option maxHeartbeats 8000000 in
theorem rt_bad (L : Loc) (hc : chk L ≠ 0) (W C E : Value) (w : World) (hT : tabAt w) (hM : LocM w L W C E) :
    Calls Tryd.prog 5 #[.agg (lcl L W C E)] w fun e w' => e = .returned (.bool true) ∧ Below w.heap.size w w' := by
  have HB : Hid (Below w.heap.size w (w.alloc (.cells (lcl L W C E) 26))) := (Below.refl _ _).alloc (Nat.le_refl _) _
  have HA : Hid (LAt (w.alloc (.cells (lcl L W C E) 26)) w.heap.size (lcl L W C E)) := heap_alloc_new w _
  have HM0 := Lib.hid hM
  have HT := Lib.hid hT
  have HCk := Lib.hid (pCheck_any L W C E)
  have HFn := Lib.hid (format_no L hc W C E)
  have HAw := Lib.hid ltAwake_any
  generalize chk L = c at hc HCk
  have hcn : (c != 0) = true := by simpa using hc
  unfold lcl at *
  obtain ⟨⟨x0, x1, x2⟩, ⟨x3, x4, x5⟩, xf⟩ := HA.out.six
  clear hM hT
  go_enter Tryd.func5, Tryd.ntmps5
  go_wp2_with (first
    | (go_at_call 19
       refine (HFn.out _ (HM0.out.below HB.out)).mono ?_
       rintro e w1 ⟨rfl, hb⟩
       have HB1 := Lib.hid (HB.out.trans (hb.mono HB.out.size))
       have HA1 := Lib.hid (HA.out.under hb HA.out.lt)
       clear x0 x1 x2 x3 x4 x5 xf hb
       obtain ⟨⟨x0, x1, x2⟩, ⟨x3, x4, x5⟩, xf⟩ := HA1.out.six)
    | (go_at_call 20
       refine (HCk.out _ (HM0.out.below HB1.out)).mono ?_
       rintro e w2 ⟨rfl, hb⟩
       have HB2 := Lib.hid (HB1.out.trans (hb.mono HB1.out.size))
       clear x0 x1 x2 x3 x4 x5 xf hb)
    | (go_at_call 21
       refine (HAw.out _ (tab_keep HT.out HB2.out)).mono ?_
       rintro e w3 ⟨rfl, hb⟩
       have HB3 := Lib.hid (HB2.out.trans (hb.mono HB2.out.size))
       clear hb))
  go_ret
  exact ⟨rfl, HB3.out⟩
set_option maxHeartbeats 16000000 in
theorem rt_good (L : Loc) (hv : VL L) (W C E : Value) (w : World) (hT : tabAt w) (hM : LocM w L W C E) :
    Calls Tryd.prog 5 #[.agg (lcl L W C E)] w fun e w' => e = .returned (.bool true) ∧ Below w.heap.size w w' := by
  have HM0 := Lib.hid hM
  have HT := Lib.hid hT
  have hCk := pCheck_any L W C E
  rw [(VL.iff L).2 hv] at hCk
  have HCk := Lib.hid hCk
  have HFo := Lib.hid (format_ok L hv W C E)
  have HPb := Lib.hid (parse_back L hv)
  have HAw := Lib.hid ltAwake_any
  have HSl := Lib.hid (sl_any L (by rw [hv.nw]; decide) (by have := hv.nc; omega) (by have := hv.ne; omega))
  obtain ⟨S, hS⟩ : ∃ S, mk (fmtL (ofLoc L)) = S := ⟨_, rfl⟩
  have hSz : S.size ≤ 65536 := by
    rw [← hS, mk_size, fmtL_len]
    exact Nat.le_trans (fmt_cost _ hv.vp) (by decide)
  have hSi : (S.size : Int) ≤ 65536 := by omega
  rw [hS] at HFo HPb
  obtain ⟨⟨aw0, cw0, hw0, -⟩, ⟨ac0, cc0, hc0, -⟩, ⟨ae0, ce0, he0, -⟩⟩ := hM
  rw [hv.nw] at hw0
  subst hw0
  subst hc0
  subst he0
  have HB : Hid (Below w.heap.size w (w.alloc (.cells (lcl L (.slice aw0 256 cw0) (.slice ac0 L.nc cc0) (.slice ae0 L.ne ce0)) 26))) := (Below.refl _ _).alloc (Nat.le_refl _) _
  have HA : Hid (LAt (w.alloc (.cells (lcl L (.slice aw0 256 cw0) (.slice ac0 L.nc cc0) (.slice ae0 L.ne ce0)) 26)) w.heap.size (lcl L (.slice aw0 256 cw0) (.slice ac0 L.nc cc0) (.slice ae0 L.ne ce0))) := heap_alloc_new w _
  unfold lcl at *
  obtain ⟨⟨x0, x1, x2⟩, ⟨x3, x4, x5⟩, xf⟩ := HA.out.six
  clear hT hCk hS hSz
  go_enter Tryd.func5, Tryd.ntmps5
  go_wp2_with (first
    | (go_at_call 19
       refine (HFo.out _ (HM0.out.below HB.out) (tab_keep HT.out HB.out)).mono ?_
       rintro e w1 ⟨rfl, hb⟩
       have HB1 := Lib.hid (HB.out.trans (hb.mono HB.out.size))
       have HA1 := Lib.hid (HA.out.under hb HA.out.lt)
       clear x0 x1 x2 x3 x4 x5 xf hb
       obtain ⟨⟨x0, x1, x2⟩, ⟨x3, x4, x5⟩, xf⟩ := HA1.out.six)
    | (go_at_call 20
       refine (HCk.out _ (HM0.out.below HB1.out)).mono ?_
       rintro e w2 ⟨rfl, hb⟩
       have HB2 := Lib.hid (HB1.out.trans (hb.mono HB1.out.size))
       have HA2 := Lib.hid (HA1.out.under hb HA1.out.lt)
       clear x0 x1 x2 x3 x4 x5 xf hb
       obtain ⟨⟨x0, x1, x2⟩, ⟨x3, x4, x5⟩, xf⟩ := HA2.out.six)
    | (go_at_call 22
       refine (HPb.out _).mono ?_
       rintro e w3 ⟨aw, cw, ac, cc, ae, ce, rfl, hm3, hb⟩
       have HB3 := Lib.hid (HB2.out.trans (hb.mono HB2.out.size))
       have HA3 := Lib.hid (HA2.out.under hb HA2.out.lt)
       have HM3 := Lib.hid hm3
       have HBx : Hid (Below w3.heap.size w3 (w3.alloc (.cells #[.string L.name, .slice aw 256 cw, .string L.lower, .string L.upper, .slice ac L.nc cc, .slice ae L.ne ce] 26))) := (Below.refl _ _).alloc (Nat.le_refl _) _
       have HA4 : Hid (LAt (w3.alloc (.cells #[.string L.name, .slice aw 256 cw, .string L.lower, .string L.upper, .slice ac L.nc cc, .slice ae L.ne ce] 26)) w3.heap.size #[.string L.name, .slice aw 256 cw, .string L.lower, .string L.upper, .slice ac L.nc cc, .slice ae L.ne ce]) := heap_alloc_new w3 _
       have HAx := Lib.hid (HA3.out.under HBx.out HA3.out.lt)
       have HB4 := Lib.hid (HB3.out.trans (HBx.out.mono HB3.out.size))
       clear x0 x1 x2 x3 x4 x5 xf hb hm3
       obtain ⟨⟨x0, x1, x2⟩, ⟨x3, x4, x5⟩, xf⟩ := HAx.out.six
       obtain ⟨⟨y0, y1, y2⟩, ⟨y3, y4, y5⟩, yf⟩ := HA4.out.six)
    | (go_at_call 23
       refine (HSl.out _ _ _ _ _ _ _ (HM0.out.below HB4.out) (HM3.out.below HBx.out)).mono ?_
       rintro e w5 ⟨rfl, hb⟩
       have HB5 := Lib.hid (HB4.out.trans (hb.mono HB4.out.size))
       clear hb)
    | (go_at_call 21
       refine (HAw.out _ (tab_keep HT.out HB5.out)).mono ?_
       rintro e w6 ⟨rfl, hb⟩
       have HB6 := Lib.hid (HB5.out.trans (hb.mono HB5.out.size))
       clear hb))
  go_ret
  exact ⟨rfl, HB6.out⟩
theorem roundtrips_law (L : Loc) (W C E : Value) (w : World) (hT : tabAt w) (hM : LocM w L W C E) :
    Calls Tryd.prog 5 #[.agg (lcl L W C E)] w fun e w' => e = .returned (.bool true) ∧ Below w.heap.size w w' := by
  by_cases hc : chk L = 0
  · exact rt_good L ((VL.iff L).1 hc) W C E w hT hM
  · exact rt_bad L hc W C E w hT hM
end Go.Proofs.YtblaldcioneooaaDoor
