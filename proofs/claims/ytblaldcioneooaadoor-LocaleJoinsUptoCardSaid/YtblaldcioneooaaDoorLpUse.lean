/- The locale by which the program's functions go: the given one, or the default one. -/
import Derived.Test.YtblaldcioneooaaDoorRows
import Derived.Test.YtblaldcioneooaaDoorLpDef
set_option linter.unusedVariables false
namespace Go.Proofs.YtblaldcioneooaaDoor
open Go.RowKit
attribute [local irreducible] Ldef

set_option maxRecDepth 100000 in
set_option maxHeartbeats 4000000 in
theorem usable_own (L : Loc) (W C E : Value) (w : World) (hM : LocM w L W C E) (hX : chk L = 0) :
    Calls Tryd.prog 33 #[.agg (lcl L W C E)] w fun e w' => e = .returned (.agg (lcl L W C E)) ∧ LocM w' L W C E ∧ Below w.heap.size w w' := by
  have HC := Lib.hid (pCheck_any L W C E)
  have HM := Lib.hid (hM.below (VL2_below w (lcl L W C E)))
  have HO := Lib.hid (VL2_one w (lcl L W C E))
  have HT := Lib.hid (VL2_two w (lcl L W C E))
  have HB := Lib.hid (VL2_below w (lcl L W C E))
  have HW := Lib.hid hM
  rw [hX] at HC
  clear hX
  obtain ⟨⟨aw, capw, rfl, _⟩, ⟨ac, capc, rfl, _⟩, ⟨ae, cape, rfl, _⟩⟩ := hM
  unfold lcl at *
  go_enter Tryd.func33, Tryd.ntmps33
  go_wp2_with (first
    | (go_at_call 20
       refine (HC.out _ (by exact HM.out)).mono ?_
       rintro e w1 ⟨rfl, hb⟩
       have l1 := HO.out.under hb HO.out.lt
       have z1 := HT.out.under hb HT.out.lt
       have HZ := Lib.hid z1
       have HB1 := Lib.hid (HB.out.trans (hb.mono (by exact HB.out.size)))
       obtain ⟨⟨e0, e1, e2⟩, ⟨e3, e4, e5⟩, hf⟩ := l1.six
       obtain ⟨⟨y0, y1, y2⟩, ⟨y3, y4, y5⟩, hg⟩ := z1.six
       clear l1 z1 hb))
  exact bodyPost_ret (ret_loc Tryd.results33 _ _ (w.heap.size + 1) _ rfl rfl (HZ.out.put6 _ _ _ _ _ _)) rfl ⟨rfl, HW.out.below (below_put6 HB1.out _ (by omega) _ _ _ _ _ _), below_put6 HB1.out _ (by omega) _ _ _ _ _ _⟩

set_option maxRecDepth 100000 in
set_option maxHeartbeats 4000000 in
theorem usable_not (L : Loc) (W C E : Value) (w : World) (hM : LocM w L W C E) (hX : chk L ≠ 0) :
    Calls Tryd.prog 33 #[.agg (lcl L W C E)] w fun e w' => ∃ x y : Nat, w.heap.size ≤ x ∧ e = .returned (.agg (lcl Ldef (.slice (some ⟨x, 0, none⟩) 256 y) (.slice none 0 0) (.slice none 0 0))) ∧ LocM w' Ldef (.slice (some ⟨x, 0, none⟩) 256 y) (.slice none 0 0) (.slice none 0 0) ∧ Below w.heap.size w w' := by
  have HC := Lib.hid (pCheck_any L W C E)
  have HM := Lib.hid (hM.below (VL2_below w (lcl L W C E)))
  have HT := Lib.hid (VL2_two w (lcl L W C E))
  have HB := Lib.hid (VL2_below w (lcl L W C E))
  have HD := Lib.hid pDefault_any
  obtain ⟨X, hX2⟩ : ∃ X, chk L = X := ⟨_, rfl⟩
  rw [hX2] at HC hX
  have x1 : (X != 0) = true := by rw [bne_iff_ne]; exact hX
  clear hX hX2
  obtain ⟨⟨aw, capw, rfl, _⟩, ⟨ac, capc, rfl, _⟩, ⟨ae, cape, rfl, _⟩⟩ := hM
  unfold lcl at *
  go_enter Tryd.func33, Tryd.ntmps33
  go_wp2_with (first
    | (go_at_call 20
       refine (HC.out _ (by exact HM.out)).mono ?_
       rintro e w1 ⟨rfl, hb⟩
       have HT1 := Lib.hid (HT.out.under hb HT.out.lt)
       have HB1 := Lib.hid (HB.out.trans (hb.mono (by exact HB.out.size)))
       clear hb)
    | (go_at_call 40
       refine (HD.out _).mono ?_
       rintro e w2 ⟨x, y, hx, rfl, hm, hb⟩
       have hsx : w.heap.size + 2 ≤ x := Nat.le_trans HT1.out.lt hx
       have z1 := HT1.out.under hb HT1.out.lt
       have HZ := Lib.hid z1
       have HB2 := Lib.hid (HB1.out.trans (hb.mono HB1.out.size))
       have HM2 := Lib.hid hm
       have HS := Lib.hid hm
       obtain ⟨⟨y0, y1, y2⟩, ⟨y3, y4, y5⟩, hg⟩ := z1.six
       clear z1 hb hm))
  exact bodyPost_ret (ret_loc Tryd.results33 _ _ (w.heap.size + 1) _ rfl rfl (HZ.out.put6 _ _ _ _ _ _)) rfl ⟨x, y, by omega, rfl, locM_def (SL.put6 (locM_wt HM2.out) (by omega) _ _ _ _ _ _), below_put6 HB2.out _ (by omega) _ _ _ _ _ _⟩

/-- The locale by which the functions go, in memory. -/
theorem usable_any (L : Loc) (W C E : Value) (w : World) (hM : LocM w L W C E) :
    Calls Tryd.prog 33 #[.agg (lcl L W C E)] w fun e w' => ∃ W' C' E', e = .returned (.agg (lcl (vld L) W' C' E')) ∧ LocM w' (vld L) W' C' E' ∧ Below w.heap.size w w' := by
  by_cases hX : chk L = 0
  · have e : vld L = L := by unfold vld; rw [if_pos hX]
    rw [e]
    exact (usable_own L W C E w hM hX).mono fun e w' h => ⟨W, C, E, h⟩
  · have e : vld L = Ldef := by unfold vld; rw [if_neg hX]
    rw [e]
    exact (usable_not L W C E w hM hX).mono fun e w' ⟨x, y, _, h⟩ => ⟨_, _, _, h⟩
end Go.Proofs.YtblaldcioneooaaDoor
