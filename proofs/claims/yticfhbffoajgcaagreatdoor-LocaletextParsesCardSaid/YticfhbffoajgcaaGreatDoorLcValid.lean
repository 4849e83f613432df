/- The locale by which all functions but Check go: the given one, or the default one. -/
import Derived.Test.YticfhbffoajgcaaGreatDoorRows
import Derived.Test.YticfhbffoajgcaaGreatDoorLcDefB
set_option linter.unusedVariables false
namespace Go.Proofs.YticfhbffoajgcaaGreatDoor
open Go.RowKit

def vld (L : Loc) : Loc := if chk L = 0 then L else Ldef
theorem LAt.six {w : World} {g : Nat} {x0 x1 x2 x3 x4 x5 : Value} (h : LAt w g #[x0, x1, x2, x3, x4, x5]) :
    (w.cell? ⟨g, 0, none⟩ = some x0 ∧ w.cell? ⟨g, 1, none⟩ = some x1 ∧ w.cell? ⟨g, 2, none⟩ = some x2) ∧ (w.cell? ⟨g, 3, none⟩ = some x3 ∧ w.cell? ⟨g, 4, none⟩ = some x4 ∧ w.cell? ⟨g, 5, none⟩ = some x5) ∧ ∀ j, w.frozen? ⟨g, j, none⟩ = false :=
  ⟨⟨h.cell 0, h.cell 1, h.cell 2⟩, ⟨h.cell 3, h.cell 4, h.cell 5⟩, h.free⟩
/-- The world of a function that has boxed one locale and made room for its result. -/
def VL2 (w : World) (c : Array Value) : World := (w.alloc (.cells c 26)).alloc (.cells zeroL 26)
theorem VL2_one (w : World) (c : Array Value) : LAt (VL2 w c) w.heap.size c := by
  unfold LAt VL2
  rw [heap_alloc_old _ _ (by simp)]
  exact heap_alloc_new w _
theorem VL2_two (w : World) (c : Array Value) : LAt (VL2 w c) (w.heap.size + 1) zeroL := by
  have e1 : (w.alloc (.cells c 26)).heap.size = w.heap.size + 1 := by simp
  unfold LAt VL2
  rw [← e1]
  exact heap_alloc_new _ _
theorem VL2_below (w : World) (c : Array Value) : Below w.heap.size w (VL2 w c) := ((Below.refl _ _).alloc (Nat.le_refl _) _).alloc (by simp) _
theorem VL2_size (w : World) (c : Array Value) : (VL2 w c).heap.size = w.heap.size + 2 := by unfold VL2; simp
theorem LocM.put6 {w : World} {L : Loc} {W C E : Value} {B : Nat} (h : LocM w L W C E) (hB : w.heap.size ≤ B) (c0 c1 c2 c3 c4 c5 : Value) : LocM (Go.Proofs.YticfhbffoajgcaaGreatDoor.put6 w B c0 c1 c2 c3 c4 c5) L W C E := h.below (below_put6 (Below.refl _ _) B hB c0 c1 c2 c3 c4 c5)
theorem put6_far (w : World) (g k : Nat) (h : k ≠ g) (c0 c1 c2 c3 c4 c5 : Value) : (Go.Proofs.YticfhbffoajgcaaGreatDoor.put6 w g c0 c1 c2 c3 c4 c5).heap[k]? = w.heap[k]? := by
  unfold Go.Proofs.YticfhbffoajgcaaGreatDoor.put6
  rw [Below.heap_setCell _ ⟨g, 5, none⟩ _ k h, Below.heap_setCell _ ⟨g, 4, none⟩ _ k h, Below.heap_setCell _ ⟨g, 3, none⟩ _ k h, Below.heap_setCell _ ⟨g, 2, none⟩ _ k h, Below.heap_setCell _ ⟨g, 1, none⟩ _ k h, Below.heap_setCell _ ⟨g, 0, none⟩ _ k h]
theorem put6_size (w : World) (g : Nat) (c0 c1 c2 c3 c4 c5 : Value) : (Go.Proofs.YticfhbffoajgcaaGreatDoor.put6 w g c0 c1 c2 c3 c4 c5).heap.size = w.heap.size := by
  unfold Go.Proofs.YticfhbffoajgcaaGreatDoor.put6
  simp
theorem SL.put6 {k n x y g : Nat} {f : Nat → Nat → Value} {w : World} (h : SL k n f w (.slice (some ⟨x, 0, none⟩) n y)) (hx : x ≠ g) (c0 c1 c2 c3 c4 c5 : Value) : SL k n f (Go.Proofs.YticfhbffoajgcaaGreatDoor.put6 w g c0 c1 c2 c3 c4 c5) (.slice (some ⟨x, 0, none⟩) n y) := by
  obtain ⟨a, cap, e, hc, h⟩ := h
  refine ⟨a, cap, e, hc, ?_⟩
  rcases h with h | ⟨b, off, ha, hlt, h⟩
  · exact .inl h
  · have hb : b = x := by
      rw [ha] at e
      simp at e
      omega
    refine .inr ⟨b, off, ha, Nat.lt_of_lt_of_eq hlt (put6_size w g c0 c1 c2 c3 c4 c5).symm, fun j i hj hi => ?_⟩
    rw [World.cell?_of_block (w := w) (a := ⟨b, off + j * k + i, none⟩) (put6_far w g b (by rw [hb]; exact hx) c0 c1 c2 c3 c4 c5)]
    exact h j i hj hi
theorem locM_wt {w : World} {W C E : Value} (h : LocM w Ldef W C E) : SL 1 256 (wtF Ldef) w W := h.1
attribute [local irreducible] Ldef

set_option maxRecDepth 100000 in
set_option maxHeartbeats 4000000 in
theorem valid_own (L : Loc) (W C E : Value) (w : World) (hM : LocM w L W C E) (hX : chk L = 0) :
    Calls Tryz.prog 48 #[.agg (lcl L W C E)] w fun e w' => e = .returned (.agg (lcl L W C E)) ∧ LocM w' L W C E ∧ Below w.heap.size w w' := by
  have HC := Lib.hid (check_any L W C E)
  have HM := Lib.hid (hM.below (VL2_below w (lcl L W C E)))
  have HO := Lib.hid (VL2_one w (lcl L W C E))
  have HT := Lib.hid (VL2_two w (lcl L W C E))
  have HB := Lib.hid (VL2_below w (lcl L W C E))
  have HW := Lib.hid hM
  rw [hX] at HC
  clear hX
  obtain ⟨⟨aw, capw, rfl, _⟩, ⟨ac, capc, rfl, _⟩, ⟨ae, cape, rfl, _⟩⟩ := hM
  unfold lcl at *
  go_enter Tryz.func48, Tryz.ntmps48
  go_wp2_with (first
    | (go_at_call 85
       refine (HC.out _ (by exact HM.out)).mono ?_
       rintro e w1 ⟨rfl, hb⟩
       have l1 := HO.out.under hb HO.out.lt
       have z1 := HT.out.under hb HT.out.lt
       have HZ := Lib.hid z1
       have HB1 := Lib.hid (HB.out.trans (hb.mono (by exact HB.out.size)))
       obtain ⟨⟨e0, e1, e2⟩, ⟨e3, e4, e5⟩, hf⟩ := l1.six
       obtain ⟨⟨y0, y1, y2⟩, ⟨y3, y4, y5⟩, hg⟩ := z1.six
       clear l1 z1 hb))
  exact bodyPost_ret (ret_loc Tryz.results48 _ _ (w.heap.size + 1) _ rfl rfl (HZ.out.put6 _ _ _ _ _ _)) rfl ⟨rfl, HW.out.below (below_put6 HB1.out _ (by omega) _ _ _ _ _ _), below_put6 HB1.out _ (by omega) _ _ _ _ _ _⟩

set_option maxRecDepth 100000 in
set_option maxHeartbeats 4000000 in
theorem valid_not (L : Loc) (W C E : Value) (w : World) (hM : LocM w L W C E) (hX : chk L ≠ 0) :
    Calls Tryz.prog 48 #[.agg (lcl L W C E)] w fun e w' => ∃ x y : Nat, w.heap.size ≤ x ∧ e = .returned (.agg (lcl Ldef (.slice (some ⟨x, 0, none⟩) 256 y) (.slice none 0 0) (.slice none 0 0))) ∧ LocM w' Ldef (.slice (some ⟨x, 0, none⟩) 256 y) (.slice none 0 0) (.slice none 0 0) ∧ Below w.heap.size w w' := by
  have HC := Lib.hid (check_any L W C E)
  have HM := Lib.hid (hM.below (VL2_below w (lcl L W C E)))
  have HT := Lib.hid (VL2_two w (lcl L W C E))
  have HB := Lib.hid (VL2_below w (lcl L W C E))
  have HD := Lib.hid default_any
  obtain ⟨X, hX2⟩ : ∃ X, chk L = X := ⟨_, rfl⟩
  rw [hX2] at HC hX
  have x1 : (X != 0) = true := by rw [bne_iff_ne]; exact hX
  clear hX hX2
  obtain ⟨⟨aw, capw, rfl, _⟩, ⟨ac, capc, rfl, _⟩, ⟨ae, cape, rfl, _⟩⟩ := hM
  unfold lcl at *
  go_enter Tryz.func48, Tryz.ntmps48
  go_wp2_with (first
    | (go_at_call 85
       refine (HC.out _ (by exact HM.out)).mono ?_
       rintro e w1 ⟨rfl, hb⟩
       have HT1 := Lib.hid (HT.out.under hb HT.out.lt)
       have HB1 := Lib.hid (HB.out.trans (hb.mono (by exact HB.out.size)))
       clear hb)
    | (go_at_call 21
       refine (HD.out _).mono ?_
       rintro e w2 ⟨x, y, hx, rfl, hm, hb⟩
       have hsx : w.heap.size + 2 ≤ x := Nat.le_trans HT1.out.lt hx
       have z1 := HT1.out.under hb HT1.out.lt
       have HZ := Lib.hid z1
       have HB2 := Lib.hid (HB1.out.trans (hb.mono HB1.out.size))
       have HM2 := Lib.hid hm
       have HS := Lib.hid hm
       obtain ⟨⟨y0, y1, y2⟩, ⟨y3, y4, y5⟩, hg⟩ := z1.six
       clear z1 hb hm))
  exact bodyPost_ret (ret_loc Tryz.results48 _ _ (w.heap.size + 1) _ rfl rfl (HZ.out.put6 _ _ _ _ _ _)) rfl ⟨x, y, by omega, rfl, locM_def (SL.put6 (locM_wt HM2.out) (by omega) _ _ _ _ _ _), below_put6 HB2.out _ (by omega) _ _ _ _ _ _⟩

/-- The locale by which the functions go, in memory. -/
theorem valid_any (L : Loc) (W C E : Value) (w : World) (hM : LocM w L W C E) :
    Calls Tryz.prog 48 #[.agg (lcl L W C E)] w fun e w' => ∃ W' C' E', e = .returned (.agg (lcl (vld L) W' C' E')) ∧ LocM w' (vld L) W' C' E' ∧ Below w.heap.size w w' := by
  by_cases hX : chk L = 0
  · have e : vld L = L := by unfold vld; rw [if_pos hX]
    rw [e]
    exact (valid_own L W C E w hM hX).mono fun e w' h => ⟨W, C, E, h⟩
  · have e : vld L = Ldef := by unfold vld; rw [if_neg hX]
    rw [e]
    exact (valid_not L W C E w hM hX).mono fun e w' ⟨x, y, _, h⟩ => ⟨_, _, _, h⟩
end Go.Proofs.YticfhbffoajgcaaGreatDoor
