/- expanded, of a node that is no repetition. -/
import Derived.Test.YtpfbpgbgedbalaaRtXm
set_option linter.unusedVariables false
set_option linter.unusedSimpArgs false
set_option maxRecDepth 100000
set_option maxHeartbeats 8000000
namespace Go.Proofs.Ytpfbpgbgedbalaa
open Go.RowKit

theorem exp_x (f : F) (hch : ∀ i, i < f.len → ExpG (f.nth i).args) (o l h g : Int) (st : Nat → Bool) (sv : Value) (w : World) (S : Nat → Prop) (hsv : SV w S f sv) (hS : ∀ b, S b → b < w.heap.size) (hok : okE (.cons o st l h g f .nil)) (e5 : (o == 5) = false) (o5 : ¬ o = 5) :
    Calls Try.prog 50 #[.agg #[.int .i64 o, .int .u64 (wd st 0 64 : Nat), .int .u64 (wd st 64 64 : Nat), .int .u64 (wd st 128 64 : Nat), .int .u64 (wd st 192 64 : Nat), .int .i64 l, .int .i64 h, .int .i64 g, sv]] w fun e w' => ∃ sv', e = .returned (.agg #[.int .i64 o, .int .u64 (wd st 0 64 : Nat), .int .u64 (wd st 64 64 : Nat), .int .u64 (wd st 128 64 : Nat), .int .u64 (wd st 192 64 : Nat), .int .i64 l, .int .i64 h, .int .i64 g, sv']) ∧ SV w' (Frm w.heap.size) (expF f) sv' ∧ Below w.heap.size w w' := by
  obtain ⟨ad, cap, rfl⟩ := slice_form hsv
  obtain ⟨W2, hW2⟩ : ∃ W2, W2 = (w.alloc (.cells #[.int .i64 o, .int .u64 (wd st 0 64 : Nat), .int .u64 (wd st 64 64 : Nat), .int .u64 (wd st 128 64 : Nat), .int .u64 (wd st 192 64 : Nat), .int .i64 l, .int .i64 h, .int .i64 g, .slice ad f.len cap] 28)).alloc (.cells #[.int .i64 0, .int .u64 0, .int .u64 0, .int .u64 0, .int .u64 0, .int .i64 0, .int .i64 0, .int .i64 0, .slice none 0 0] 28) := ⟨_, rfl⟩
  have hb : Below w.heap.size w W2 := by rw [hW2]; exact ((Below.refl _ _).alloc (Nat.le_refl _) _).alloc (by simp) _
  have hz : W2.heap.size = w.heap.size + 1 + 1 := by rw [hW2]; simp
  have he : W2.heap[w.heap.size]? = some (.cells #[.int .i64 o, .int .u64 (wd st 0 64 : Nat), .int .u64 (wd st 64 64 : Nat), .int .u64 (wd st 128 64 : Nat), .int .u64 (wd st 192 64 : Nat), .int .i64 l, .int .i64 h, .int .i64 g, .slice ad f.len cap] 28 (0, 0)) := by
    rw [hW2, Below.heap_alloc _ _ _ (by simp)]
    exact heap_alloc_new w _
  have hr : W2.heap[w.heap.size + 1]? = some (.cells #[.int .i64 0, .int .u64 0, .int .u64 0, .int .u64 0, .int .u64 0, .int .i64 0, .int .i64 0, .int .i64 0, .slice none 0 0] 28 (0, 0)) := by
    have := heap_alloc_new (w.alloc (.cells #[.int .i64 o, .int .u64 (wd st 0 64 : Nat), .int .u64 (wd st 64 64 : Nat), .int .u64 (wd st 128 64 : Nat), .int .u64 (wd st 192 64 : Nat), .int .i64 l, .int .i64 h, .int .i64 g, .slice ad f.len cap] 28)) (.cells #[.int .i64 0, .int .u64 0, .int .u64 0, .int .u64 0, .int .u64 0, .int .i64 0, .int .i64 0, .int .i64 0, .slice none 0 0] 28)
    rw [hW2]
    simpa using this
  have HM := Lib.hid (mapre_any f hch _ W2 S (hsv.far (Afar.below hb)) (fun b h => by have := hS b h; omega) hok.2.1 hok.1.1)
  have HB := Lib.hid hb
  have HE := Lib.hid he
  have HR := Lib.hid hr
  have HW2 := Lib.hid hW2
  have HZ := Lib.hid hz
  have HL := Lib.hid (expF_len f)
  clear hsv hS hok hb he hr hW2 hz hch
  go_enter Try.func50, Try.ntmps50
  go_upto_region 3 with (first
    | (go_at_call 76; rw [← HW2.out]; (with_reducible refine HM.out.mono ?_); rintro e w1 ⟨rv, rfl, hsv1, hb1⟩
       obtain ⟨rad, rcap, rfl⟩ := slice_form hsv1
       have HV1 := Lib.hid hsv1
       have HB1 := Lib.hid hb1
       have he1 := (hb1.block w.heap.size (by have := HZ.out; omega)).trans HE.out
       have HE1 := Lib.hid he1
       have fe := fun j => frozen_of_row w1 w.heap.size j _ _ he1
       have ce : w1.cell? ⟨w.heap.size, 8, none⟩ = some (.slice ad f.len cap) := cell_of_row w1 w.heap.size 8 _ _ _ he1
       have le := (Array.getElem?_eq_some_iff.1 he1).1
       clear hsv1 hb1 he1)
    )
  have hs1 := HB1.out.size
  have hz := HZ.out
  have hE2 := heap_setCell_same w1 w.heap.size 8 _ _ (.slice rad (expF f).len rcap) HE1.out
  have hR2 := (Below.heap_setCell w1 ⟨w.heap.size, 8, none⟩ (.slice rad (expF f).len rcap) (w.heap.size + 1) (by simp)).trans ((HB1.out.block (w.heap.size + 1) (by omega)).trans HR.out)
  have hV2 : SV (w1.setCell ⟨w.heap.size, 8, none⟩ (.slice rad (expF f).len rcap)) (Frm W2.heap.size) (expF f) (.slice rad (expF f).len rcap) := HV1.out.far ⟨by simp [World.setCell], fun b h1 _ => ⟨h1, Below.heap_setCell w1 ⟨w.heap.size, 8, none⟩ _ b (by have h1 : W2.heap.size ≤ b := h1; simp; omega)⟩⟩
  have hB2 : Below w.heap.size w (w1.setCell ⟨w.heap.size, 8, none⟩ (.slice rad (expF f).len rcap)) := (HB.out.trans (HB1.out.mono HB.out.size)).setCell (p := ⟨w.heap.size, 8, none⟩) (Nat.le_refl _) _
  have HE2 : Hid ((w1.setCell ⟨w.heap.size, 8, none⟩ (.slice rad (expF f).len rcap)).heap[w.heap.size]? = some (.cells #[.int .i64 o, .int .u64 (wd st 0 64 : Nat), .int .u64 (wd st 64 64 : Nat), .int .u64 (wd st 128 64 : Nat), .int .u64 (wd st 192 64 : Nat), .int .i64 l, .int .i64 h, .int .i64 g, .slice rad (expF f).len rcap] 28 (0, 0))) := Lib.hid hE2
  have HR2 := Lib.hid hR2
  have HV2 := Lib.hid hV2
  have HB2 := Lib.hid hB2
  clear fe ce le hs1 hE2 hR2 hV2 hB2
  generalize w1.setCell ⟨w.heap.size, 8, none⟩ (.slice rad (expF f).len rcap) = W3 at *
  go_wp2_with (first
    | (refine wpList_load_row rfl 28 _ rfl w.heap.size rfl 28 #[.int .i64 o, .int .u64 (wd st 0 64 : Nat), .int .u64 (wd st 64 64 : Nat), .int .u64 (wd st 128 64 : Nat), .int .u64 (wd st 192 64 : Nat), .int .i64 l, .int .i64 h, .int .i64 g, .slice rad (expF f).len rcap] (0, 0) _ HE2.out Try.underlying28 rfl isz_re ?_)
    | (refine wpList_store_row rfl 28 (.tmp 2) (.tmp 12) rfl (w.heap.size + 1) #[.int .i64 o, .int .u64 (wd st 0 64 : Nat), .int .u64 (wd st 64 64 : Nat), .int .u64 (wd st 128 64 : Nat), .int .u64 (wd st 192 64 : Nat), .int .i64 l, .int .i64 h, .int .i64 g, .slice rad (expF f).len rcap] rfl rfl 28 _ HR2.out isz_re rfl (by simp [Value.oneCell']) ?_))
  refine bodyPost_ret (v := .agg #[.int .i64 o, .int .u64 (wd st 0 64 : Nat), .int .u64 (wd st 64 64 : Nat), .int .u64 (wd st 128 64 : Nat), .int .u64 (wd st 192 64 : Nat), .int .i64 l, .int .i64 h, .int .i64 g, .slice rad (expF f).len rcap]) (results_cell_row rfl _ _ (w.heap.size + 1) _ #[.int .i64 o, .int .u64 (wd st 0 64 : Nat), .int .u64 (wd st 64 64 : Nat), .int .u64 (wd st 128 64 : Nat), .int .u64 (wd st 192 64 : Nat), .int .i64 l, .int .i64 h, .int .i64 g, .slice rad (expF f).len rcap] (0, 0) _ rfl (setRow_heap W3 _ _ _ _ _ HR2.out) Try.underlying28 rfl isz_re) rfl ?_
  refine ⟨_, rfl, HV2.out.far ⟨by rw [setRow_size]; exact Nat.le_refl _, fun b h1 _ => ?_⟩, below_setRow HB2.out (by omega) _⟩
  have h1 : W2.heap.size ≤ b := h1
  have hz := HZ.out
  exact ⟨by show w.heap.size ≤ b; omega, setRow_other W3 _ b _ (by omega)⟩
end Go.Proofs.Ytpfbpgbgedbalaa
