/- beginningOf: the rule of First. (Written by gen_rtgb.py.) -/
import Derived.Test.YtpfbpgbgedbalaaRtGf
import Derived.Deep.RegionHeld3
set_option linter.unusedVariables false
set_option linter.unusedSimpArgs false
set_option maxRecDepth 100000
set_option maxHeartbeats 8000000
namespace Go.Proofs.Ytpfbpgbgedbalaa
open Go.RowKit

def SB (w : World) (e : Array Value) (w' : World) : Prop := Below w.heap.size w w' ∧ w'.heap[w.heap.size]? = some (.cells e 28 (0, 0)) ∧ ∃ a b c d x, w'.heap[w.heap.size + 1]? = some (.cells #[a, b, c, d, x] 63 (0, 0))
theorem SB.lt {w w' : World} {e : Array Value} (h : SB w e w') : w.heap.size + 1 < w'.heap.size := by
  obtain ⟨_, _, a, b, c, d, x, hr⟩ := h
  exact (Array.getElem?_eq_some_iff.1 hr).1
theorem SB.keep {w w' w2 : World} {e : Array Value} (h : SB w e w') (hb : Below w'.heap.size w' w2) : SB w e w2 := by
  have hl := h.lt
  obtain ⟨h1, h2, a, b, c, d, x, hr⟩ := h
  exact ⟨h1.trans (hb.mono h1.size), (hb.block _ (by omega)).trans h2, a, b, c, d, x, (hb.block _ (by omega)).trans hr⟩
def put5 (w : World) (g : Nat) (a b c d x : Value) : World := ((((w.setCell ⟨g, 0, none⟩ a).setCell ⟨g, 1, none⟩ b).setCell ⟨g, 2, none⟩ c).setCell ⟨g, 3, none⟩ d).setCell ⟨g, 4, none⟩ x
theorem put5_heap {w : World} {g : Nat} {ty : TypeId} {a b c d x : Value} (h : w.heap[g]? = some (.cells #[a, b, c, d, x] ty (0, 0))) (a' b' c' d' x' : Value) : (put5 w g a' b' c' d' x').heap[g]? = some (.cells #[a', b', c', d', x'] ty (0, 0)) := by
  have h1 := heap_setCell_same w g 0 _ _ a' h
  have h2 := heap_setCell_same _ g 1 _ _ b' h1
  have h3 := heap_setCell_same _ g 2 _ _ c' h2
  have h4 := heap_setCell_same _ g 3 _ _ d' h3
  have h5 := heap_setCell_same _ g 4 _ _ x' h4
  exact h5
theorem put5_below {B : Nat} {a w : World} (h : Below B a w) (g : Nat) (hB : B ≤ g) (a' b' c' d' x' : Value) : Below B a (put5 w g a' b' c' d' x') :=
  ((((h.setCell (p := ⟨g, 0, none⟩) hB _).setCell (p := ⟨g, 1, none⟩) hB _).setCell (p := ⟨g, 2, none⟩) hB _).setCell (p := ⟨g, 3, none⟩) hB _).setCell (p := ⟨g, 4, none⟩) hB _
theorem put5_other {w : World} {g k : Nat} (hk : k ≠ g) (a' b' c' d' x' : Value) : (put5 w g a' b' c' d' x').heap[k]? = w.heap[k]? := by
  unfold put5
  rw [Below.heap_setCell _ ⟨g, 4, none⟩ _ k hk, Below.heap_setCell _ ⟨g, 3, none⟩ _ k hk, Below.heap_setCell _ ⟨g, 2, none⟩ _ k hk, Below.heap_setCell _ ⟨g, 1, none⟩ _ k hk, Below.heap_setCell _ ⟨g, 0, none⟩ _ k hk]
theorem rule_g : Rule_g (fun _ => True) begT := by
  intro w n0 t ad cap ps pv hpv hP
  obtain ⟨qad, qcap, rfl⟩ := own_sl hpv
  obtain ⟨fs, hfs⟩ : ∃ fs, fstT t ps = fs := ⟨_, rfl⟩
  have HFs := Lib.hid (fun W (hb : Below w.heap.size w W) => by have := first_any t ad cap ps _ n0 W (hpv.below hb) hP.len; rw [hfs] at this; unfold cl at this; exact this)
  have HMp := Lib.hid (fun W (hb : Below w.heap.size w W) => mapgb_any ps _ n0 W (hpv.below hb) hP.len)
  have hPb : PN (fun _ => True) t (ps.map (·.2)) := ⟨fun h => by rw [List.length_map]; exact hP.rep h, fun h => by rw [List.length_map]; exact hP.one h, fun h => by rw [List.length_map]; exact hP.two h, fun _ _ => trivial, by rw [List.length_map]; exact hP.len⟩
  have hbe : begT t ps = (fstT t ps, nullT t (ps.map (·.2))) := rfl
  obtain ⟨ys, hys⟩ : ∃ ys, ps.map (·.2) = ys := ⟨_, rfl⟩
  rw [hys] at hPb hbe
  rw [hfs] at hbe
  have HMp2 := Lib.hid (fun W (hb : Below w.heap.size w W) => by have := HMp.out W hb; rw [hys] at this; exact this)
  have HNu := Lib.hid (fun W n1 rv (h : PV 4 1 cells_b W n1 ys rv) => rule_b W n1 t ad cap ys rv h hPb)
  have HBe := Lib.hid hbe
  clear hys hbe HMp hfs
  obtain ⟨W2, hW2⟩ : ∃ W2, W2 = (w.alloc (.cells #[.int .i64 t.op, .int .u64 (wd t.st 0 64 : Nat), .int .u64 (wd t.st 64 64 : Nat), .int .u64 (wd t.st 128 64 : Nat), .int .u64 (wd t.st 192 64 : Nat), .int .i64 t.lo, .int .i64 t.hi, .int .i64 t.g, .slice ad t.args.len cap] 28)).alloc (.cells #[.int .u64 0, .int .u64 0, .int .u64 0, .int .u64 0, .bool false] 63) := ⟨_, rfl⟩
  have hb : Below w.heap.size w W2 := by rw [hW2]; exact ((Below.refl _ _).alloc (Nat.le_refl _) _).alloc (by simp) _
  have he : W2.heap[w.heap.size]? = some (.cells #[.int .i64 t.op, .int .u64 (wd t.st 0 64 : Nat), .int .u64 (wd t.st 64 64 : Nat), .int .u64 (wd t.st 128 64 : Nat), .int .u64 (wd t.st 192 64 : Nat), .int .i64 t.lo, .int .i64 t.hi, .int .i64 t.g, .slice ad t.args.len cap] 28 (0, 0)) := by
    rw [hW2, Below.heap_alloc _ _ _ (by simp)]
    exact heap_alloc_new w _
  have hr : W2.heap[w.heap.size + 1]? = some (.cells #[.int .u64 0, .int .u64 0, .int .u64 0, .int .u64 0, .bool false] 63 (0, 0)) := by
    have := heap_alloc_new (w.alloc (.cells #[.int .i64 t.op, .int .u64 (wd t.st 0 64 : Nat), .int .u64 (wd t.st 64 64 : Nat), .int .u64 (wd t.st 128 64 : Nat), .int .u64 (wd t.st 192 64 : Nat), .int .i64 t.lo, .int .i64 t.hi, .int .i64 t.g, .slice ad t.args.len cap] 28)) (.cells #[.int .u64 0, .int .u64 0, .int .u64 0, .int .u64 0, .bool false] 63)
    rw [hW2]
    simpa using this
  have HS2 : Hid (SB w #[.int .i64 t.op, .int .u64 (wd t.st 0 64 : Nat), .int .u64 (wd t.st 64 64 : Nat), .int .u64 (wd t.st 128 64 : Nat), .int .u64 (wd t.st 192 64 : Nat), .int .i64 t.lo, .int .i64 t.hi, .int .i64 t.g, .slice ad t.args.len cap] W2.drew) := Lib.hid ⟨hb.drew, he, _, _, _, _, _, hr⟩
  clear hpv hP hPb hb he hr
  go_enter Try.func31, Try.ntmps31
  go_upto_region 2 with fail
  rw [← hW2]
  clear hW2
  refine wp_region_held_drew (S := SB w #[.int .i64 t.op, .int .u64 (wd t.st 0 64 : Nat), .int .u64 (wd t.st 64 64 : Nat), .int .u64 (wd t.st 128 64 : Nat), .int .u64 (wd t.st 192 64 : Nat), .int .i64 t.lo, .int .i64 t.hi, .int .i64 t.g, .slice ad t.args.len cap]) (by kernel_rfl) ?_ (fun hHeld => ?_)
  · exact HS2.out
  refine wpAnyH_take (i := 0) (v := ?av0) rfl (by kernel_rfl) (by kernel_rfl) (by kernel_rfl) (fun _ _ _ h => h) (Or.inl ⟨by rfl, ?ay0⟩) (by assumption) ?ar0
  case ay0 =>
    intro wx hSw
    have hs6 := nine hSw.2.1
    obtain ⟨⟨⟨z0, z1, z2⟩, z3, z4, z5⟩, z6, z7, z8⟩ := hs6
    clear hSw
    go_simp
    first | done | (with_reducible rfl)
  (try simp only [Act.put, List.getElem_toArray, List.getElem_cons_zero, List.setIfInBounds_toArray, List.set_cons_zero, List.set_cons_succ])
  refine wpAnyH_take (i := 1) (v := ?av1) rfl (by kernel_rfl) (by kernel_rfl) (by kernel_rfl) (fun _ _ _ h => h) (Or.inl ⟨by rfl, ?ay1⟩) (by assumption) ?ar1
  case ay1 =>
    intro wx hSw
    clear hSw
    go_simp
    first | done | (with_reducible rfl)
  (try simp only [Act.put, List.getElem_toArray, List.getElem_cons_succ, List.getElem_cons_zero, List.setIfInBounds_toArray, List.set_cons_zero, List.set_cons_succ])
  refine wpAnyH_take (i := 3) (v := ?av3) rfl (by kernel_rfl) (by kernel_rfl) (by kernel_rfl) (fun _ _ _ h => h) (Or.inl ⟨by rfl, ?ay3⟩) (by assumption) ?ar3
  case ay3 =>
    intro wx hSw
    have hs6 := nine hSw.2.1
    obtain ⟨⟨⟨z0, z1, z2⟩, z3, z4, z5⟩, z6, z7, z8⟩ := hs6
    clear hSw
    go_simp
    first | done | (with_reducible rfl)
  (try simp only [Act.put, List.getElem_toArray, List.getElem_cons_succ, List.getElem_cons_zero, List.setIfInBounds_toArray, List.set_cons_zero, List.set_cons_succ])
  refine wpAnyH_take (i := 4) (v := ?av4) rfl (by kernel_rfl) (by kernel_rfl) (by kernel_rfl) (fun _ _ _ h => h) (Or.inl ⟨by rfl, ?ay4⟩) (by assumption) ?ar4
  case ay4 =>
    intro wx hSw
    clear hSw
    go_simp
    first | done | (with_reducible rfl)
  (try simp only [Act.put, List.getElem_toArray, List.getElem_cons_succ, List.getElem_cons_zero, List.setIfInBounds_toArray, List.set_cons_zero, List.set_cons_succ])
  refine wpAnyH_take (i := 5) (v := ?av5) rfl (by kernel_rfl) (by kernel_rfl) (by kernel_rfl) (fun _ _ _ h => h) (Or.inl ⟨by rfl, ?ay5⟩) (by assumption) ?ar5
  case ay5 =>
    intro wx hSw
    clear hSw
    go_simp
    first | done | (with_reducible rfl)
  (try simp only [Act.put, List.getElem_toArray, List.getElem_cons_succ, List.getElem_cons_zero, List.setIfInBounds_toArray, List.set_cons_zero, List.set_cons_succ])
  refine wpAnyH_ready (rs := [2]) (by kernel_rfl) (by simp) ?_
  refine AllReadyH.cons rfl (fun K hK => ?_) AllReadyH.nil
  go_simp
  go_at_call 63
  refine (HFs.out _ hHeld.1).mono ?_
  rintro e w1 ⟨rfl, hb1⟩
  refine hK.out _ _ ?_ (fun hHeld1 => ?_)
  · exact hHeld.keep hb1
  clear hK K
  (try simp only [Act.put, List.getElem_toArray, List.getElem_cons_succ, List.getElem_cons_zero, List.setIfInBounds_toArray, List.set_cons_zero, List.set_cons_succ])
  refine wpAnyH_ready (rs := [6]) (by kernel_rfl) (by simp) ?_
  refine AllReadyH.cons rfl (fun K hK => ?_) AllReadyH.nil
  go_simp
  go_at_call 64
  refine (HMp2.out _ hHeld1.1).mono ?_
  rintro e w2 ⟨rv, rfl, hpv2, hb2⟩
  refine hK.out _ _ ?_ (fun hHeld2 => ?_)
  · exact hHeld1.keep hb2
  clear hK K
  have HPV2 := Lib.hid hpv2
  clear hpv2
  obtain ⟨rad, rcap, rfl⟩ := own_sl HPV2.out
  (try simp only [Act.put, List.getElem_toArray, List.getElem_cons_succ, List.getElem_cons_zero, List.setIfInBounds_toArray, List.set_cons_zero, List.set_cons_succ])
  refine wpAnyH_ready (rs := [7]) (by kernel_rfl) (by simp) ?_
  refine AllReadyH.cons rfl (fun K hK => ?_) AllReadyH.nil
  go_simp
  go_at_call 33
  (with_reducible refine (HNu.out w2 _ _ HPV2.out).mono ?_)
  rintro e w3 ⟨rfl, hb3⟩
  refine hK.out _ _ ?_ (fun hHeld3 => ?_)
  · exact hHeld2.keep hb3
  clear hK K
  (try simp only [Act.put, List.getElem_toArray, List.getElem_cons_succ, List.getElem_cons_zero, List.setIfInBounds_toArray, List.set_cons_zero, List.set_cons_succ])
  refine wpAnyH_take (i := 8) (v := ?bv8) rfl (by kernel_rfl) (by kernel_rfl) (by kernel_rfl) (fun _ _ _ h => h) (Or.inl ⟨by rfl, ?by8⟩) (by assumption) ?br8
  case by8 =>
    intro wx hSw
    clear hSw
    go_simp
    first | done | (with_reducible rfl)
  (try simp only [Act.put, List.getElem_toArray, List.getElem_cons_succ, List.getElem_cons_zero, List.setIfInBounds_toArray, List.set_cons_zero, List.set_cons_succ])
  refine wpAnyH_ready (rs := [9]) (by kernel_rfl) (by simp) ?_
  refine AllReadyH.cons rfl (fun K hK => ?_) AllReadyH.nil
  obtain ⟨x1, x2, xa, xb, xc, xd, xx, xr⟩ := hHeld3
  have fr := fun j => frozen_of_row w3 (w.heap.size + 1) j _ _ xr
  have y0 := cell_of_row w3 (w.heap.size + 1) 0 _ _ _ xr
  have y1 := cell_of_row w3 (w.heap.size + 1) 1 _ _ _ xr
  have y2 := cell_of_row w3 (w.heap.size + 1) 2 _ _ _ xr
  have y3 := cell_of_row w3 (w.heap.size + 1) 3 _ _ _ xr
  have y4 := cell_of_row w3 (w.heap.size + 1) 4 _ _ _ xr
  replace y0 : w3.cell? ⟨w.heap.size + 1, 0, none⟩ = some xa := y0
  replace y1 : w3.cell? ⟨w.heap.size + 1, 1, none⟩ = some xb := y1
  replace y2 : w3.cell? ⟨w.heap.size + 1, 2, none⟩ = some xc := y2
  replace y3 : w3.cell? ⟨w.heap.size + 1, 3, none⟩ = some xd := y3
  replace y4 : w3.cell? ⟨w.heap.size + 1, 4, none⟩ = some xx := y4
  go_simp
  have hp := put5_heap xr (.int .u64 (wd fs 0 64 : Nat)) (.int .u64 (wd fs 64 64 : Nat)) (.int .u64 (wd fs 128 64 : Nat)) (.int .u64 (wd fs 192 64 : Nat)) (.bool (nullT t ys))
  have hq := put5_below x1 (w.heap.size + 1) (by omega) (.int .u64 (wd fs 0 64 : Nat)) (.int .u64 (wd fs 64 64 : Nat)) (.int .u64 (wd fs 128 64 : Nat)) (.int .u64 (wd fs 192 64 : Nat)) (.bool (nullT t ys))
  have ho := put5_other (w := w3) (g := w.heap.size + 1) (k := w.heap.size) (by omega) (.int .u64 (wd fs 0 64 : Nat)) (.int .u64 (wd fs 64 64 : Nat)) (.int .u64 (wd fs 128 64 : Nat)) (.int .u64 (wd fs 192 64 : Nat)) (.bool (nullT t ys))
  have HPq := Lib.hid (And.intro hp (And.intro hq ho))
  refine hK.out _ _ ?_ (fun hHeld4 => ?_)
  · exact ⟨HPq.out.2.1, HPq.out.2.2.trans x2, _, _, _, _, _, HPq.out.1⟩
  clear hK K
  refine wpAnyH_done (by kernel_rfl) ?_ _
  clear y0 y1 y2 y3 y4 fr hp hq ho
  go_wp2_with fail
  rw [HBe.out]
  refine bodyPost_ret (v := .agg #[.int .u64 (wd fs 0 64 : Nat), .int .u64 (wd fs 64 64 : Nat), .int .u64 (wd fs 128 64 : Nat), .int .u64 (wd fs 192 64 : Nat), .bool (nullT t ys)]) (results_cell_row rfl _ _ (w.heap.size + 1) _ #[.int .u64 (wd fs 0 64 : Nat), .int .u64 (wd fs 64 64 : Nat), .int .u64 (wd fs 128 64 : Nat), .int .u64 (wd fs 192 64 : Nat), .bool (nullT t ys)] (0, 0) _ rfl HPq.out.1 Try.underlying63 rfl isz_g) rfl ?_
  exact ⟨rfl, HPq.out.2.1⟩
end Go.Proofs.Ytpfbpgbgedbalaa
