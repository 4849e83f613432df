/- RpJn. -/
import Derived.Test.YtbjobbkipmkndaaDoorPj27
set_option linter.unusedVariables false
set_option linter.unusedSimpArgs false
set_option maxRecDepth 100000
set_option maxHeartbeats 16000000
namespace Go.Proofs.YtbjobbkipmkndaaDoor
open Go.RowKit
theorem joins_law (a b : TN) (sva svb : Value) (w : World) (ha : TI w a sva) (hb0 : TI w b svb) (hfa : fitN a) (hfb : fitN b) (hsa : a.args.len ≤ 1599289640354 ∧ shF a.args) (hsb : b.args.len ≤ 1599289640354 ∧ shF b.args) (hK : KT w) : Calls Tryd.prog 6 #[.agg #[.int .i64 a.op, .int .u64 (wd a.st 0 64 : Nat), .int .u64 (wd a.st 64 64 : Nat), .int .u64 (wd a.st 128 64 : Nat), .int .u64 (wd a.st 192 64 : Nat), .int .i64 a.lo, .int .i64 a.hi, .int .i64 a.g, sva], .agg #[.int .i64 b.op, .int .u64 (wd b.st 0 64 : Nat), .int .u64 (wd b.st 64 64 : Nat), .int .u64 (wd b.st 128 64 : Nat), .int .u64 (wd b.st 192 64 : Nat), .int .i64 b.lo, .int .i64 b.hi, .int .i64 b.g, svb]] w fun e w' => e = .returned (.bool true) ∧ Below w.heap.size w w' := by
  obtain ⟨ad, cap, rfl⟩ := ha.form
  obtain ⟨ad', cap', rfl⟩ := hb0.form
  have hb : Below w.heap.size w ((w.alloc (.cells #[.int .i64 a.op, .int .u64 (wd a.st 0 64 : Nat), .int .u64 (wd a.st 64 64 : Nat), .int .u64 (wd a.st 128 64 : Nat), .int .u64 (wd a.st 192 64 : Nat), .int .i64 a.lo, .int .i64 a.hi, .int .i64 a.g, (.slice ad a.args.len cap)] 34)).alloc (.cells #[.int .i64 b.op, .int .u64 (wd b.st 0 64 : Nat), .int .u64 (wd b.st 64 64 : Nat), .int .u64 (wd b.st 128 64 : Nat), .int .u64 (wd b.st 192 64 : Nat), .int .i64 b.lo, .int .i64 b.hi, .int .i64 b.g, (.slice ad' b.args.len cap')] 34)) := ((Below.refl _ _).alloc (Nat.le_refl _) _).alloc (by simp) _
  have he1 := heap_alloc_new w (.cells #[.int .i64 a.op, .int .u64 (wd a.st 0 64 : Nat), .int .u64 (wd a.st 64 64 : Nat), .int .u64 (wd a.st 128 64 : Nat), .int .u64 (wd a.st 192 64 : Nat), .int .i64 a.lo, .int .i64 a.hi, .int .i64 a.g, (.slice ad a.args.len cap)] 34)
  have hs : (w.alloc (.cells #[.int .i64 a.op, .int .u64 (wd a.st 0 64 : Nat), .int .u64 (wd a.st 64 64 : Nat), .int .u64 (wd a.st 128 64 : Nat), .int .u64 (wd a.st 192 64 : Nat), .int .i64 a.lo, .int .i64 a.hi, .int .i64 a.g, (.slice ad a.args.len cap)] 34)).heap.size = w.heap.size + 1 := by simp
  have he2 := heap_alloc_new (w.alloc (.cells #[.int .i64 a.op, .int .u64 (wd a.st 0 64 : Nat), .int .u64 (wd a.st 64 64 : Nat), .int .u64 (wd a.st 128 64 : Nat), .int .u64 (wd a.st 192 64 : Nat), .int .i64 a.lo, .int .i64 a.hi, .int .i64 a.g, (.slice ad a.args.len cap)] 34)) (.cells #[.int .i64 b.op, .int .u64 (wd b.st 0 64 : Nat), .int .u64 (wd b.st 64 64 : Nat), .int .u64 (wd b.st 128 64 : Nat), .int .u64 (wd b.st 192 64 : Nat), .int .i64 b.lo, .int .i64 b.hi, .int .i64 b.g, (.slice ad' b.args.len cap')] 34)
  rw [hs] at he2
  have he1' := (Below.heap_alloc (w.alloc (.cells #[.int .i64 a.op, .int .u64 (wd a.st 0 64 : Nat), .int .u64 (wd a.st 64 64 : Nat), .int .u64 (wd a.st 128 64 : Nat), .int .u64 (wd a.st 192 64 : Nat), .int .i64 a.lo, .int .i64 a.hi, .int .i64 a.g, (.slice ad a.args.len cap)] 34)) (.cells #[.int .i64 b.op, .int .u64 (wd b.st 0 64 : Nat), .int .u64 (wd b.st 64 64 : Nat), .int .u64 (wd b.st 128 64 : Nat), .int .u64 (wd b.st 192 64 : Nat), .int .i64 b.lo, .int .i64 b.hi, .int .i64 b.g, (.slice ad' b.args.len cap')] 34) w.heap.size (by omega)).trans he1
  obtain ⟨W, hW⟩ : ∃ W, W = ((w.alloc (.cells #[.int .i64 a.op, .int .u64 (wd a.st 0 64 : Nat), .int .u64 (wd a.st 64 64 : Nat), .int .u64 (wd a.st 128 64 : Nat), .int .u64 (wd a.st 192 64 : Nat), .int .i64 a.lo, .int .i64 a.hi, .int .i64 a.g, (.slice ad a.args.len cap)] 34)).alloc (.cells #[.int .i64 b.op, .int .u64 (wd b.st 0 64 : Nat), .int .u64 (wd b.st 64 64 : Nat), .int .u64 (wd b.st 128 64 : Nat), .int .u64 (wd b.st 192 64 : Nat), .int .i64 b.lo, .int .i64 b.hi, .int .i64 b.g, (.slice ad' b.args.len cap')] 34)) := ⟨_, rfl⟩
  rw [← hW] at hb he2 he1'
  have HW := Lib.hid hW
  have HB := Lib.hid hb
  have hl2 : w.heap.size + 1 < W.heap.size := (Array.getElem?_eq_some_iff.1 he2).1
  have hl1 : w.heap.size < W.heap.size := by omega
  have HP1 := Lib.hid (fun W2 (hw : Below W.heap.size W W2) => plain_sv ha (hb.trans (hw.mono hb.size)) hfa hsa)
  have HP2 := Lib.hid (fun W2 (hw : Below W.heap.size W W2) => plain_sv hb0 (hb.trans (hw.mono hb.size)) hfb hsb)
  have HKT := Lib.hid (hK.below hb)
  have HKl := Lib.hid (World.block_lt_of_cell? w _ (hK 0 _ rfl))
  have HE1 := Lib.hid he1'
  have HE2 := Lib.hid he2
  obtain ⟨⟨⟨a0, a1, a2⟩, a3, a4, a5⟩, a6, a7, a8⟩ := nine he1'
  obtain ⟨⟨⟨b0, b1, b2⟩, b3, b4, b5⟩, b6, b7, b8⟩ := nine he2
  have HFx := Lib.hid (pl_fitN hfa)
  have HFy := Lib.hid (pl_fitN hfb)
  obtain ⟨X, hX⟩ : ∃ X, X = plT a := ⟨_, rfl⟩
  obtain ⟨Y, hY⟩ : ∃ Y, Y = plT b := ⟨_, rfl⟩
  rw [← hX] at HP1 HFx
  rw [← hY] at HP2 HFy
  clear ha hb0 hfa hfb hsa hsb hK hb he1 he2 he1' hW hs hX hY
  go_enter Tryd.func6, Tryd.ntmps6
  go_upto_region 1 with fail
  rw [← HW.out]
  go_region_law
    (first
      | (go_simp; go_at_call 14; (with_reducible refine (HP1.out _ (Below.refl _ _).drew).mono ?_); rintro e w1 ⟨svx, rfl, hx, hb⟩
         have HB1 : Hid (Below W.heap.size W w1) := Lib.hid ((Below.refl _ _).drew.trans hb)
         have HX1 : Hid (SV w1 (Frm W.heap.size) X.args svx) := Lib.hid hx
         clear b0 b1 b2 b3 b4 b5 b6 b7 b8
         obtain ⟨⟨⟨b0, b1, b2⟩, b3, b4, b5⟩, b6, b7, b8⟩ := nine ((HB1.out.block (w.heap.size + 1) hl2).trans HE2.out)
         have hl21 : w.heap.size + 1 < w1.heap.size := Nat.lt_of_lt_of_le hl2 HB1.out.size
         clear hx hb)
      | (go_simp; go_at_call 14; (with_reducible refine (HP2.out _ HB1.out).mono ?_); rintro e w2 ⟨svy, rfl, hy, hb⟩
         have HB2 : Hid (Below W.heap.size W w2) := Lib.hid (HB1.out.trans (hb.mono HB1.out.size))
         have HX2 : Hid (SV w2 (Frm W.heap.size) X.args svx) := Lib.hid (HX1.out.far ⟨hb.size, fun b hbb hl => ⟨hbb, hb.block b hl⟩⟩)
         have HY2 : Hid (SV w2 (Frm W.heap.size) Y.args svy) := Lib.hid (hy.far ⟨Nat.le_refl _, fun b hbb hl => ⟨Nat.le_trans HB1.out.size hbb, rfl⟩⟩)
         have HR1 := Lib.hid ((HB2.out.block w.heap.size hl1).trans HE1.out)
         have HR2 := Lib.hid ((HB2.out.block (w.heap.size + 1) hl2).trans HE2.out)
         obtain ⟨xad, xcap, rfl⟩ := slice_form HX2.out
         obtain ⟨yad, ycap, rfl⟩ := slice_form HY2.out
         clear b0 b1 b2 b3 b4 b5 b6 b7 b8
         obtain ⟨⟨⟨b0, b1, b2⟩, b3, b4, b5⟩, b6, b7, b8⟩ := nine HR2.out
         obtain ⟨⟨⟨p0, p1, p2⟩, p3, p4, p5⟩, p6, p7, p8⟩ := nine HR1.out
         have fP : ∀ j, w2.frozen? ⟨w.heap.size, j, none⟩ = false := fun j => frozen_of_row w2 w.heap.size j _ _ HR1.out
         have fQ : ∀ j, w2.frozen? ⟨w.heap.size + 1, j, none⟩ = false := fun j => frozen_of_row w2 (w.heap.size + 1) j _ _ HR2.out
         have hl22 : w.heap.size + 1 < w2.heap.size := Nat.lt_of_lt_of_le hl2 HB2.out.size
         clear hy hb))
  all_goals
    have hp3 := (nine_other ((((((((((w2).setCell ⟨w.heap.size, 0, none⟩ (.int .i64 X.op)).setCell ⟨w.heap.size, 1, none⟩ (.int .u64 (wd X.st 0 64 : Nat))).setCell ⟨w.heap.size, 2, none⟩ (.int .u64 (wd X.st 64 64 : Nat))).setCell ⟨w.heap.size, 3, none⟩ (.int .u64 (wd X.st 128 64 : Nat))).setCell ⟨w.heap.size, 4, none⟩ (.int .u64 (wd X.st 192 64 : Nat))).setCell ⟨w.heap.size, 5, none⟩ (.int .i64 X.lo)).setCell ⟨w.heap.size, 6, none⟩ (.int .i64 X.hi)).setCell ⟨w.heap.size, 7, none⟩ (.int .i64 X.g)).setCell ⟨w.heap.size, 8, none⟩ (.slice xad X.args.len xcap)) (w.heap.size + 1) w.heap.size (by omega) (.int .i64 Y.op) (.int .u64 (wd Y.st 0 64 : Nat)) (.int .u64 (wd Y.st 64 64 : Nat)) (.int .u64 (wd Y.st 128 64 : Nat)) (.int .u64 (wd Y.st 192 64 : Nat)) (.int .i64 Y.lo) (.int .i64 Y.hi) (.int .i64 Y.g) (.slice yad Y.args.len ycap)).trans (nine_set w2 w.heap.size (.int .i64 X.op) (.int .u64 (wd X.st 0 64 : Nat)) (.int .u64 (wd X.st 64 64 : Nat)) (.int .u64 (wd X.st 128 64 : Nat)) (.int .u64 (wd X.st 192 64 : Nat)) (.int .i64 X.lo) (.int .i64 X.hi) (.int .i64 X.g) (.slice xad X.args.len xcap) _ _ (by rfl) HR1.out)
    have hq3 := nine_set ((((((((((w2).setCell ⟨w.heap.size, 0, none⟩ (.int .i64 X.op)).setCell ⟨w.heap.size, 1, none⟩ (.int .u64 (wd X.st 0 64 : Nat))).setCell ⟨w.heap.size, 2, none⟩ (.int .u64 (wd X.st 64 64 : Nat))).setCell ⟨w.heap.size, 3, none⟩ (.int .u64 (wd X.st 128 64 : Nat))).setCell ⟨w.heap.size, 4, none⟩ (.int .u64 (wd X.st 192 64 : Nat))).setCell ⟨w.heap.size, 5, none⟩ (.int .i64 X.lo)).setCell ⟨w.heap.size, 6, none⟩ (.int .i64 X.hi)).setCell ⟨w.heap.size, 7, none⟩ (.int .i64 X.g)).setCell ⟨w.heap.size, 8, none⟩ (.slice xad X.args.len xcap)) (w.heap.size + 1) (.int .i64 Y.op) (.int .u64 (wd Y.st 0 64 : Nat)) (.int .u64 (wd Y.st 64 64 : Nat)) (.int .u64 (wd Y.st 128 64 : Nat)) (.int .u64 (wd Y.st 192 64 : Nat)) (.int .i64 Y.lo) (.int .i64 Y.hi) (.int .i64 Y.g) (.slice yad Y.args.len ycap) _ _ (by rfl) ((nine_other w2 w.heap.size (w.heap.size + 1) (by omega) (.int .i64 X.op) (.int .u64 (wd X.st 0 64 : Nat)) (.int .u64 (wd X.st 64 64 : Nat)) (.int .u64 (wd X.st 128 64 : Nat)) (.int .u64 (wd X.st 192 64 : Nat)) (.int .i64 X.lo) (.int .i64 X.hi) (.int .i64 X.g) (.slice xad X.args.len xcap)).trans HR2.out)
    have hot : ∀ k, k ≠ w.heap.size → k ≠ w.heap.size + 1 → (((((((((((((((((((w2).setCell ⟨w.heap.size, 0, none⟩ (.int .i64 X.op)).setCell ⟨w.heap.size, 1, none⟩ (.int .u64 (wd X.st 0 64 : Nat))).setCell ⟨w.heap.size, 2, none⟩ (.int .u64 (wd X.st 64 64 : Nat))).setCell ⟨w.heap.size, 3, none⟩ (.int .u64 (wd X.st 128 64 : Nat))).setCell ⟨w.heap.size, 4, none⟩ (.int .u64 (wd X.st 192 64 : Nat))).setCell ⟨w.heap.size, 5, none⟩ (.int .i64 X.lo)).setCell ⟨w.heap.size, 6, none⟩ (.int .i64 X.hi)).setCell ⟨w.heap.size, 7, none⟩ (.int .i64 X.g)).setCell ⟨w.heap.size, 8, none⟩ (.slice xad X.args.len xcap)).setCell ⟨(w.heap.size + 1), 0, none⟩ (.int .i64 Y.op)).setCell ⟨(w.heap.size + 1), 1, none⟩ (.int .u64 (wd Y.st 0 64 : Nat))).setCell ⟨(w.heap.size + 1), 2, none⟩ (.int .u64 (wd Y.st 64 64 : Nat))).setCell ⟨(w.heap.size + 1), 3, none⟩ (.int .u64 (wd Y.st 128 64 : Nat))).setCell ⟨(w.heap.size + 1), 4, none⟩ (.int .u64 (wd Y.st 192 64 : Nat))).setCell ⟨(w.heap.size + 1), 5, none⟩ (.int .i64 Y.lo)).setCell ⟨(w.heap.size + 1), 6, none⟩ (.int .i64 Y.hi)).setCell ⟨(w.heap.size + 1), 7, none⟩ (.int .i64 Y.g)).setCell ⟨(w.heap.size + 1), 8, none⟩ (.slice yad Y.args.len ycap)).heap[k]? = w2.heap[k]? := fun k k1 k2 => (nine_other ((((((((((w2).setCell ⟨w.heap.size, 0, none⟩ (.int .i64 X.op)).setCell ⟨w.heap.size, 1, none⟩ (.int .u64 (wd X.st 0 64 : Nat))).setCell ⟨w.heap.size, 2, none⟩ (.int .u64 (wd X.st 64 64 : Nat))).setCell ⟨w.heap.size, 3, none⟩ (.int .u64 (wd X.st 128 64 : Nat))).setCell ⟨w.heap.size, 4, none⟩ (.int .u64 (wd X.st 192 64 : Nat))).setCell ⟨w.heap.size, 5, none⟩ (.int .i64 X.lo)).setCell ⟨w.heap.size, 6, none⟩ (.int .i64 X.hi)).setCell ⟨w.heap.size, 7, none⟩ (.int .i64 X.g)).setCell ⟨w.heap.size, 8, none⟩ (.slice xad X.args.len xcap)) (w.heap.size + 1) k k2 (.int .i64 Y.op) (.int .u64 (wd Y.st 0 64 : Nat)) (.int .u64 (wd Y.st 64 64 : Nat)) (.int .u64 (wd Y.st 128 64 : Nat)) (.int .u64 (wd Y.st 192 64 : Nat)) (.int .i64 Y.lo) (.int .i64 Y.hi) (.int .i64 Y.g) (.slice yad Y.args.len ycap)).trans (nine_other w2 w.heap.size k k1 (.int .i64 X.op) (.int .u64 (wd X.st 0 64 : Nat)) (.int .u64 (wd X.st 64 64 : Nat)) (.int .u64 (wd X.st 128 64 : Nat)) (.int .u64 (wd X.st 192 64 : Nat)) (.int .i64 X.lo) (.int .i64 X.hi) (.int .i64 X.g) (.slice xad X.args.len xcap))
    have hsz3 : (((((((((((((((((((w2).setCell ⟨w.heap.size, 0, none⟩ (.int .i64 X.op)).setCell ⟨w.heap.size, 1, none⟩ (.int .u64 (wd X.st 0 64 : Nat))).setCell ⟨w.heap.size, 2, none⟩ (.int .u64 (wd X.st 64 64 : Nat))).setCell ⟨w.heap.size, 3, none⟩ (.int .u64 (wd X.st 128 64 : Nat))).setCell ⟨w.heap.size, 4, none⟩ (.int .u64 (wd X.st 192 64 : Nat))).setCell ⟨w.heap.size, 5, none⟩ (.int .i64 X.lo)).setCell ⟨w.heap.size, 6, none⟩ (.int .i64 X.hi)).setCell ⟨w.heap.size, 7, none⟩ (.int .i64 X.g)).setCell ⟨w.heap.size, 8, none⟩ (.slice xad X.args.len xcap)).setCell ⟨(w.heap.size + 1), 0, none⟩ (.int .i64 Y.op)).setCell ⟨(w.heap.size + 1), 1, none⟩ (.int .u64 (wd Y.st 0 64 : Nat))).setCell ⟨(w.heap.size + 1), 2, none⟩ (.int .u64 (wd Y.st 64 64 : Nat))).setCell ⟨(w.heap.size + 1), 3, none⟩ (.int .u64 (wd Y.st 128 64 : Nat))).setCell ⟨(w.heap.size + 1), 4, none⟩ (.int .u64 (wd Y.st 192 64 : Nat))).setCell ⟨(w.heap.size + 1), 5, none⟩ (.int .i64 Y.lo)).setCell ⟨(w.heap.size + 1), 6, none⟩ (.int .i64 Y.hi)).setCell ⟨(w.heap.size + 1), 7, none⟩ (.int .i64 Y.g)).setCell ⟨(w.heap.size + 1), 8, none⟩ (.slice yad Y.args.len ycap)).heap.size = w2.heap.size := (nine_size ((((((((((w2).setCell ⟨w.heap.size, 0, none⟩ (.int .i64 X.op)).setCell ⟨w.heap.size, 1, none⟩ (.int .u64 (wd X.st 0 64 : Nat))).setCell ⟨w.heap.size, 2, none⟩ (.int .u64 (wd X.st 64 64 : Nat))).setCell ⟨w.heap.size, 3, none⟩ (.int .u64 (wd X.st 128 64 : Nat))).setCell ⟨w.heap.size, 4, none⟩ (.int .u64 (wd X.st 192 64 : Nat))).setCell ⟨w.heap.size, 5, none⟩ (.int .i64 X.lo)).setCell ⟨w.heap.size, 6, none⟩ (.int .i64 X.hi)).setCell ⟨w.heap.size, 7, none⟩ (.int .i64 X.g)).setCell ⟨w.heap.size, 8, none⟩ (.slice xad X.args.len xcap)) (w.heap.size + 1) (.int .i64 Y.op) (.int .u64 (wd Y.st 0 64 : Nat)) (.int .u64 (wd Y.st 64 64 : Nat)) (.int .u64 (wd Y.st 128 64 : Nat)) (.int .u64 (wd Y.st 192 64 : Nat)) (.int .i64 Y.lo) (.int .i64 Y.hi) (.int .i64 Y.g) (.slice yad Y.args.len ycap)).trans (nine_size w2 w.heap.size (.int .i64 X.op) (.int .u64 (wd X.st 0 64 : Nat)) (.int .u64 (wd X.st 64 64 : Nat)) (.int .u64 (wd X.st 128 64 : Nat)) (.int .u64 (wd X.st 192 64 : Nat)) (.int .i64 X.lo) (.int .i64 X.hi) (.int .i64 X.g) (.slice xad X.args.len xcap))
    have hbl3 : Below w.heap.size w (((((((((((((((((((w2).setCell ⟨w.heap.size, 0, none⟩ (.int .i64 X.op)).setCell ⟨w.heap.size, 1, none⟩ (.int .u64 (wd X.st 0 64 : Nat))).setCell ⟨w.heap.size, 2, none⟩ (.int .u64 (wd X.st 64 64 : Nat))).setCell ⟨w.heap.size, 3, none⟩ (.int .u64 (wd X.st 128 64 : Nat))).setCell ⟨w.heap.size, 4, none⟩ (.int .u64 (wd X.st 192 64 : Nat))).setCell ⟨w.heap.size, 5, none⟩ (.int .i64 X.lo)).setCell ⟨w.heap.size, 6, none⟩ (.int .i64 X.hi)).setCell ⟨w.heap.size, 7, none⟩ (.int .i64 X.g)).setCell ⟨w.heap.size, 8, none⟩ (.slice xad X.args.len xcap)).setCell ⟨(w.heap.size + 1), 0, none⟩ (.int .i64 Y.op)).setCell ⟨(w.heap.size + 1), 1, none⟩ (.int .u64 (wd Y.st 0 64 : Nat))).setCell ⟨(w.heap.size + 1), 2, none⟩ (.int .u64 (wd Y.st 64 64 : Nat))).setCell ⟨(w.heap.size + 1), 3, none⟩ (.int .u64 (wd Y.st 128 64 : Nat))).setCell ⟨(w.heap.size + 1), 4, none⟩ (.int .u64 (wd Y.st 192 64 : Nat))).setCell ⟨(w.heap.size + 1), 5, none⟩ (.int .i64 Y.lo)).setCell ⟨(w.heap.size + 1), 6, none⟩ (.int .i64 Y.hi)).setCell ⟨(w.heap.size + 1), 7, none⟩ (.int .i64 Y.g)).setCell ⟨(w.heap.size + 1), 8, none⟩ (.slice yad Y.args.len ycap)) := nine_below (w.heap.size + 1) (.int .i64 Y.op) (.int .u64 (wd Y.st 0 64 : Nat)) (.int .u64 (wd Y.st 64 64 : Nat)) (.int .u64 (wd Y.st 128 64 : Nat)) (.int .u64 (wd Y.st 192 64 : Nat)) (.int .i64 Y.lo) (.int .i64 Y.hi) (.int .i64 Y.g) (.slice yad Y.args.len ycap) (nine_below w.heap.size (.int .i64 X.op) (.int .u64 (wd X.st 0 64 : Nat)) (.int .u64 (wd X.st 64 64 : Nat)) (.int .u64 (wd X.st 128 64 : Nat)) (.int .u64 (wd X.st 192 64 : Nat)) (.int .i64 X.lo) (.int .i64 X.hi) (.int .i64 X.g) (.slice xad X.args.len xcap) (HB.out.trans (HB2.out.mono HB.out.size)) (Nat.le_refl _)) (by omega)
    clear b0 b1 b2 b3 b4 b5 b6 b7 b8 p0 p1 p2 p3 p4 p5 p6 p7 p8 fP fQ a0 a1 a2 a3 a4 a5 a6 a7 a8
    generalize ((((((((((((((((((w2).setCell ⟨w.heap.size, 0, none⟩ (.int .i64 X.op)).setCell ⟨w.heap.size, 1, none⟩ (.int .u64 (wd X.st 0 64 : Nat))).setCell ⟨w.heap.size, 2, none⟩ (.int .u64 (wd X.st 64 64 : Nat))).setCell ⟨w.heap.size, 3, none⟩ (.int .u64 (wd X.st 128 64 : Nat))).setCell ⟨w.heap.size, 4, none⟩ (.int .u64 (wd X.st 192 64 : Nat))).setCell ⟨w.heap.size, 5, none⟩ (.int .i64 X.lo)).setCell ⟨w.heap.size, 6, none⟩ (.int .i64 X.hi)).setCell ⟨w.heap.size, 7, none⟩ (.int .i64 X.g)).setCell ⟨w.heap.size, 8, none⟩ (.slice xad X.args.len xcap)).setCell ⟨(w.heap.size + 1), 0, none⟩ (.int .i64 Y.op)).setCell ⟨(w.heap.size + 1), 1, none⟩ (.int .u64 (wd Y.st 0 64 : Nat))).setCell ⟨(w.heap.size + 1), 2, none⟩ (.int .u64 (wd Y.st 64 64 : Nat))).setCell ⟨(w.heap.size + 1), 3, none⟩ (.int .u64 (wd Y.st 128 64 : Nat))).setCell ⟨(w.heap.size + 1), 4, none⟩ (.int .u64 (wd Y.st 192 64 : Nat))).setCell ⟨(w.heap.size + 1), 5, none⟩ (.int .i64 Y.lo)).setCell ⟨(w.heap.size + 1), 6, none⟩ (.int .i64 Y.hi)).setCell ⟨(w.heap.size + 1), 7, none⟩ (.int .i64 Y.g)).setCell ⟨(w.heap.size + 1), 8, none⟩ (.slice yad Y.args.len ycap) = W3 at *
    have HW3 := Lib.hid (And.intro hsz3 hbl3)
    have hP3 : w.heap.size < W3.heap.size := (Array.getElem?_eq_some_iff.1 hp3).1
    have hQ3 : w.heap.size + 1 < W3.heap.size := (Array.getElem?_eq_some_iff.1 hq3).1
    have htx : TI W3 X (.slice xad X.args.len xcap) := ti_sv (HX2.out.far ⟨Nat.le_of_eq hsz3.symm, fun k hk hl => ⟨hk, by have hk : W.heap.size ≤ k := hk; exact hot k (by omega) (by omega)⟩⟩) HFx.out
    have hty : TI W3 Y (.slice yad Y.args.len ycap) := ti_sv (HY2.out.far ⟨Nat.le_of_eq hsz3.symm, fun k hk hl => ⟨hk, by have hk : W.heap.size ≤ k := hk; exact hot k (by omega) (by omega)⟩⟩) HFy.out
    have hkt : KT W3 := fun j v hj => (cell_same (hot _ (by have := HKl.out; omega) (by have := HKl.out; omega))).trans ((HKT.out.below HB2.out) j v hj)
    have HTX := Lib.hid htx
    have HTY := Lib.hid hty
    have HK3 := Lib.hid hkt
    have HP3 := Lib.hid hp3
    have HQ3 := Lib.hid hq3
    obtain ⟨⟨⟨p0, p1, p2⟩, p3, p4, p5⟩, p6, p7, p8⟩ := nine hp3
    have HCX := Lib.hid (fun W' (hw : Below W3.heap.size W3 W') => compile_ti (htx.below hw) false)
    have HCY := Lib.hid (fun W' (hw : Below W3.heap.size W3 W') => compile_ti (hty.below hw) false)
    have HAw := Lib.hid (fun W' (hw : Below W3.heap.size W3 W') => awake_any W' (hkt.below hw))
    simp only [Bool.false_and] at HCX HCY
    have HMx := Lib.hid (fun (h : (cmpT X).2 = 0) => cmp_ok h)
    have HMy := Lib.hid (fun (h : (cmpT Y).2 = 0) => cmp_ok h)
    have HMx0 := Lib.hid (fun (h : (cmpT X).2 ≠ 0) => cmp_err h)
    have HMc := Lib.hid (fun (h : (cmpT (catN X Y)).2 = 0) => cmp_ok h)
    have HMo := Lib.hid (fun (h : (cmpT (optN X)).2 = 0) => cmp_ok h)
    have HNd : Hid (∀ (W' : World) (g : Nat), Calls Tryd.prog 16 #[.int .i64 3, .slice (some ⟨g, 0, none⟩) 2 2] W' fun e w' => e = .returned (.agg #[.int .i64 3, .int .u64 (wd noSet 0 64 : Nat), .int .u64 (wd noSet 64 64 : Nat), .int .u64 (wd noSet 128 64 : Nat), .int .u64 (wd noSet 192 64 : Nat), .int .i64 0, .int .i64 0, .int .i64 0, .slice (some ⟨g, 0, none⟩) 2 2]) ∧ Below W'.heap.size W' w') := Lib.hid fun W' g => node_any 3 (some ⟨g, 0, none⟩) 2 2 W'
    have HCC : Hid (∀ (V W' : World), Below W3.heap.size W3 V → Below (V.alloc (.cells #[.int .i64 X.op, .int .u64 (wd X.st 0 64 : Nat), .int .u64 (wd X.st 64 64 : Nat), .int .u64 (wd X.st 128 64 : Nat), .int .u64 (wd X.st 192 64 : Nat), .int .i64 X.lo, .int .i64 X.hi, .int .i64 X.g, .slice xad X.args.len xcap, .int .i64 Y.op, .int .u64 (wd Y.st 0 64 : Nat), .int .u64 (wd Y.st 64 64 : Nat), .int .u64 (wd Y.st 128 64 : Nat), .int .u64 (wd Y.st 192 64 : Nat), .int .i64 Y.lo, .int .i64 Y.hi, .int .i64 Y.g, .slice yad Y.args.len ycap] 34)).heap.size (V.alloc (.cells #[.int .i64 X.op, .int .u64 (wd X.st 0 64 : Nat), .int .u64 (wd X.st 64 64 : Nat), .int .u64 (wd X.st 128 64 : Nat), .int .u64 (wd X.st 192 64 : Nat), .int .i64 X.lo, .int .i64 X.hi, .int .i64 X.g, .slice xad X.args.len xcap, .int .i64 Y.op, .int .u64 (wd Y.st 0 64 : Nat), .int .u64 (wd Y.st 64 64 : Nat), .int .u64 (wd Y.st 128 64 : Nat), .int .u64 (wd Y.st 192 64 : Nat), .int .i64 Y.lo, .int .i64 Y.hi, .int .i64 Y.g, .slice yad Y.args.len ycap] 34)) W' → Calls Tryd.prog 13 #[.agg #[.int .i64 3, .int .u64 (wd noSet 0 64 : Nat), .int .u64 (wd noSet 64 64 : Nat), .int .u64 (wd noSet 128 64 : Nat), .int .u64 (wd noSet 192 64 : Nat), .int .i64 0, .int .i64 0, .int .i64 0, .slice (some ⟨V.heap.size, 0, none⟩) 2 2], .bool false] W' fun e w' => ∃ pv, e = .returned (.tuple #[.agg #[pv, .bool false], .int .i64 (cmpT (catN X Y)).2]) ∧ PI w' W'.heap.size (cmpT (catN X Y)).1 pv ∧ Below W'.heap.size W' w') := Lib.hid fun V W' hv hw => by
      have h1 : TI (V.alloc (.cells #[.int .i64 X.op, .int .u64 (wd X.st 0 64 : Nat), .int .u64 (wd X.st 64 64 : Nat), .int .u64 (wd X.st 128 64 : Nat), .int .u64 (wd X.st 192 64 : Nat), .int .i64 X.lo, .int .i64 X.hi, .int .i64 X.g, .slice xad X.args.len xcap, .int .i64 Y.op, .int .u64 (wd Y.st 0 64 : Nat), .int .u64 (wd Y.st 64 64 : Nat), .int .u64 (wd Y.st 128 64 : Nat), .int .u64 (wd Y.st 192 64 : Nat), .int .i64 Y.lo, .int .i64 Y.hi, .int .i64 Y.g, .slice yad Y.args.len ycap] 34)) (catN X Y) (.slice (some ⟨V.heap.size, 0, none⟩) 2 2) := ti_two (htx.below hv) (hty.below hv) HFx.out HFy.out 3 0 0 0 noSet (by decide)
      have h2 := compile_ti (h1.below hw) false
      simp only [Bool.false_and] at h2
      exact h2
    have HCO : Hid (∀ (V W' : World), Below W3.heap.size W3 V → Below (V.alloc (.cells #[.int .i64 X.op, .int .u64 (wd X.st 0 64 : Nat), .int .u64 (wd X.st 64 64 : Nat), .int .u64 (wd X.st 128 64 : Nat), .int .u64 (wd X.st 192 64 : Nat), .int .i64 X.lo, .int .i64 X.hi, .int .i64 X.g, (.slice xad X.args.len xcap)] 34)).heap.size (V.alloc (.cells #[.int .i64 X.op, .int .u64 (wd X.st 0 64 : Nat), .int .u64 (wd X.st 64 64 : Nat), .int .u64 (wd X.st 128 64 : Nat), .int .u64 (wd X.st 192 64 : Nat), .int .i64 X.lo, .int .i64 X.hi, .int .i64 X.g, (.slice xad X.args.len xcap)] 34)) W' → Calls Tryd.prog 13 #[.agg #[.int .i64 5, .int .u64 0, .int .u64 0, .int .u64 0, .int .u64 0, .int .i64 0, .int .i64 1, .int .i64 0, .slice (some ⟨V.heap.size, 0, none⟩) 1 1], .bool false] W' fun e w' => ∃ pv, e = .returned (.tuple #[.agg #[pv, .bool false], .int .i64 (cmpT (optN X)).2]) ∧ PI w' W'.heap.size (cmpT (optN X)).1 pv ∧ Below W'.heap.size W' w') := Lib.hid fun V W' hv hw => by
      have h1 : TI (V.alloc (.cells #[.int .i64 X.op, .int .u64 (wd X.st 0 64 : Nat), .int .u64 (wd X.st 64 64 : Nat), .int .u64 (wd X.st 128 64 : Nat), .int .u64 (wd X.st 192 64 : Nat), .int .i64 X.lo, .int .i64 X.hi, .int .i64 X.g, (.slice xad X.args.len xcap)] 34)) (optN X) (.slice (some ⟨V.heap.size, 0, none⟩) 1 1) := ti_one (htx.below hv) HFx.out 5 0 1 0 noSet (by decide)
      have h2 := compile_ti (h1.below hw) false
      simp only [Bool.false_and] at h2
      have h3 : Calls Tryd.prog 13 #[.agg #[.int .i64 5, .int .u64 (wd noSet 0 64 : Nat), .int .u64 (wd noSet 64 64 : Nat), .int .u64 (wd noSet 128 64 : Nat), .int .u64 (wd noSet 192 64 : Nat), .int .i64 0, .int .i64 1, .int .i64 0, .slice (some ⟨V.heap.size, 0, none⟩) 1 1], .bool false] W' fun e w' => ∃ pv, e = .returned (.tuple #[.agg #[pv, .bool false], .int .i64 (cmpT (optN X)).2]) ∧ PI w' W'.heap.size (cmpT (optN X)).1 pv ∧ Below W'.heap.size W' w' := h2
      rw [wd_noSet.1, wd_noSet.2.1, wd_noSet.2.2.1, wd_noSet.2.2.2] at h3
      exact h3
    clear hsz3 hbl3 htx hty hkt hp3 hq3 hot HP1 HP2 HX1 HX2 HY2 HR1 HR2 HE1 HE2 HW HB1 HB2
    generalize (cmpT X).2 = eX at *
    generalize (cmpT X).1 = LX at *
    generalize (cmpT Y).2 = eY at *
    generalize (cmpT Y).1 = LY at *
    generalize (cmpT (catN X Y)).2 = eC at *
    generalize (cmpT (catN X Y)).1 = LC at *
    generalize (cmpT (optN X)).2 = eO at *
    generalize (cmpT (optN X)).1 = LO at *
    go_upto_region 3 with (first
      | (go_at_call 13; (with_reducible refine (HCX.out _ (Below.refl _ _)).mono ?_); rintro e w5 ⟨pX, rfl, hpX, hb⟩
         have HQ5 := Lib.hid hpX
         obtain ⟨aX, cX, rfl⟩ := hpX.form
         have HB5 := Lib.hid hb
         clear hb hpX p0 p1 p2 p3 p4 p5 p6 p7 p8))
    have hal := (Below.refl w5.heap.size w5).alloc (Nat.le_refl _) (.cells #[.slice aX LX.length cX, .bool false] 24)
    have hbx := heap_alloc_new w5 (.cells #[.slice aX LX.length cX, .bool false] 24)
    generalize w5.alloc (.cells #[.slice aX LX.length cX, .bool false] 24) = A5 at *
    obtain ⟨gX, hgX⟩ : ∃ g, g = w5.heap.size := ⟨_, rfl⟩
    rw [← hgX] at hbx ⊢
    have HgX := Lib.hid hgX
    have HAA5 : Hid (Below W3.heap.size W3 A5) := Lib.hid (HB5.out.trans (hal.mono HB5.out.size))
    have HXA5 := Lib.hid hbx
    have HLA5 := Lib.hid hal
    clear hal hbx hgX
    have hQA5 : w.heap.size + 1 < A5.heap.size := Nat.lt_of_lt_of_le hQ3 HAA5.out.size
    obtain ⟨⟨⟨q0, q1, q2⟩, q3, q4, q5⟩, q6, q7, q8⟩ := nine ((HAA5.out.block _ hQ3).trans HQ3.out)
    go_upto_region 4 with (first
      | (go_at_call 13; (with_reducible refine (HCY.out _ HAA5.out).mono ?_); rintro e w6 ⟨pY, rfl, hpY, hb⟩
         have HQ6 := Lib.hid hpY
         obtain ⟨aY, cY, rfl⟩ := hpY.form
         have HB6 := Lib.hid (HAA5.out.trans (hb.mono HAA5.out.size))
         have HL6 := Lib.hid hb
         clear hb hpY q0 q1 q2 q3 q4 q5 q6 q7 q8))
    have hal := (Below.refl w6.heap.size w6).alloc (Nat.le_refl _) (.cells #[.slice aY LY.length cY, .bool false] 24)
    have hbx := heap_alloc_new w6 (.cells #[.slice aY LY.length cY, .bool false] 24)
    generalize w6.alloc (.cells #[.slice aY LY.length cY, .bool false] 24) = A6 at *
    obtain ⟨gY, hgY⟩ : ∃ g, g = w6.heap.size := ⟨_, rfl⟩
    rw [← hgY] at hbx ⊢
    have HgY := Lib.hid hgY
    have HAA6 : Hid (Below W3.heap.size W3 A6) := Lib.hid (HB6.out.trans (hal.mono HB6.out.size))
    have HXA6 := Lib.hid hbx
    have HLA6 := Lib.hid hal
    clear hal hbx hgY
    have hQA6 : w.heap.size + 1 < A6.heap.size := Nat.lt_of_lt_of_le hQ3 HAA6.out.size
    have hPA6 : w.heap.size < A6.heap.size := Nat.lt_of_lt_of_le hP3 HAA6.out.size
    obtain ⟨⟨⟨q0, q1, q2⟩, q3, q4, q5⟩, q6, q7, q8⟩ := nine ((HAA6.out.block _ hQ3).trans HQ3.out)
    obtain ⟨⟨⟨p0, p1, p2⟩, p3, p4, p5⟩, p6, p7, p8⟩ := nine ((HAA6.out.block _ hP3).trans HP3.out)
    have hal6 : Below A6.heap.size A6 (A6.alloc (.cells #[.int .i64 X.op, .int .u64 (wd X.st 0 64 : Nat), .int .u64 (wd X.st 64 64 : Nat), .int .u64 (wd X.st 128 64 : Nat), .int .u64 (wd X.st 192 64 : Nat), .int .i64 X.lo, .int .i64 X.hi, .int .i64 X.g, .slice xad X.args.len xcap, .int .i64 Y.op, .int .u64 (wd Y.st 0 64 : Nat), .int .u64 (wd Y.st 64 64 : Nat), .int .u64 (wd Y.st 128 64 : Nat), .int .u64 (wd Y.st 192 64 : Nat), .int .i64 Y.lo, .int .i64 Y.hi, .int .i64 Y.g, .slice yad Y.args.len ycap] 34)) := (Below.refl _ _).alloc (Nat.le_refl _) _
    have HM6 := Lib.hid hal6
    have HCC6 := Lib.hid (fun W' hw => HCC.out A6 W' HAA6.out hw)
    clear hal6
    go_upto_region 5 with (first
      | (go_at_call 16; (with_reducible refine (HNd.out _ _).mono ?_); rintro e w7 ⟨rfl, hb⟩
         have HB7 := Lib.hid hb
         clear hb q0 q1 q2 q3 q4 q5 q6 q7 q8 p0 p1 p2 p3 p4 p5 p6 p7 p8)
      | (go_at_call 13; (with_reducible refine (HCC6.out _ HB7.out).mono ?_); rintro e w8 ⟨pC, rfl, hpC, hb⟩
         have HQ8 := Lib.hid hpC
         obtain ⟨aC, cC, rfl⟩ := hpC.form
         have HL8 : Hid (Below A6.heap.size A6 w8) := Lib.hid ((HM6.out.trans (HB7.out.mono HM6.out.size)).trans (hb.mono (HM6.out.trans (HB7.out.mono HM6.out.size)).size))
         have HB8 := Lib.hid (HAA6.out.trans (HL8.out.mono HAA6.out.size))
         clear hb hpC))
    have hal := (Below.refl w8.heap.size w8).alloc (Nat.le_refl _) (.cells #[.slice aC LC.length cC, .bool false] 24)
    have hbx := heap_alloc_new w8 (.cells #[.slice aC LC.length cC, .bool false] 24)
    generalize w8.alloc (.cells #[.slice aC LC.length cC, .bool false] 24) = A8 at *
    obtain ⟨gC, hgC⟩ : ∃ g, g = w8.heap.size := ⟨_, rfl⟩
    rw [← hgC] at hbx ⊢
    have HgC := Lib.hid hgC
    have HAA8 : Hid (Below W3.heap.size W3 A8) := Lib.hid (HB8.out.trans (hal.mono HB8.out.size))
    have HXA8 := Lib.hid hbx
    have HLA8 := Lib.hid hal
    clear hal hbx hgC
    have hPA8 : w.heap.size < A8.heap.size := Nat.lt_of_lt_of_le hP3 HAA8.out.size
    obtain ⟨⟨⟨p0, p1, p2⟩, p3, p4, p5⟩, p6, p7, p8⟩ := nine ((HAA8.out.block _ hP3).trans HP3.out)
    have hal8 : Below A8.heap.size A8 (A8.alloc (.cells #[.int .i64 X.op, .int .u64 (wd X.st 0 64 : Nat), .int .u64 (wd X.st 64 64 : Nat), .int .u64 (wd X.st 128 64 : Nat), .int .u64 (wd X.st 192 64 : Nat), .int .i64 X.lo, .int .i64 X.hi, .int .i64 X.g, (.slice xad X.args.len xcap)] 34)) := (Below.refl _ _).alloc (Nat.le_refl _) _
    have HM8 := Lib.hid hal8
    have HCO8 := Lib.hid (HCO.out A8 _ HAA8.out (Below.refl _ _))
    clear hal8
    go_upto_region 6 with (first
      | (go_at_call 13; (with_reducible refine HCO8.out.mono ?_); rintro e w9 ⟨pO, rfl, hpO, hb⟩
         have HQ9 := Lib.hid hpO
         obtain ⟨aO, cO, rfl⟩ := hpO.form
         have HL9 : Hid (Below A8.heap.size A8 w9) := Lib.hid (HM8.out.trans (hb.mono HM8.out.size))
         have HB9 := Lib.hid (HAA8.out.trans (HL9.out.mono HAA8.out.size))
         clear hb hpO p0 p1 p2 p3 p4 p5 p6 p7 p8))
    have hal := (Below.refl w9.heap.size w9).alloc (Nat.le_refl _) (.cells #[.slice aO LO.length cO, .bool false] 24)
    have hbx := heap_alloc_new w9 (.cells #[.slice aO LO.length cO, .bool false] 24)
    generalize w9.alloc (.cells #[.slice aO LO.length cO, .bool false] 24) = A9 at *
    obtain ⟨gO, hgO⟩ : ∃ g, g = w9.heap.size := ⟨_, rfl⟩
    rw [← hgO] at hbx ⊢
    have HgO := Lib.hid hgO
    have HAA9 : Hid (Below W3.heap.size W3 A9) := Lib.hid (HB9.out.trans (hal.mono HB9.out.size))
    have HXA9 := Lib.hid hbx
    have HLA9 := Lib.hid hal
    clear hal hbx hgO
    have t56 : Below A5.heap.size A5 A6 := HL6.out.trans (HLA6.out.mono HL6.out.size)
    have t68 : Below A6.heap.size A6 A8 := HL8.out.trans (HLA8.out.mono HL8.out.size)
    have t89 : Below A8.heap.size A8 A9 := HL9.out.trans (HLA9.out.mono HL9.out.size)
    have t69 : Below A6.heap.size A6 A9 := t68.trans (t89.mono t68.size)
    have t59 : Below A5.heap.size A5 A9 := t56.trans (t69.mono t56.size)
    have rX := (t59.block gX (Array.getElem?_eq_some_iff.1 HXA5.out).1).trans HXA5.out
    have rY := (t69.block gY (Array.getElem?_eq_some_iff.1 HXA6.out).1).trans HXA6.out
    have rC := (t89.block gC (Array.getElem?_eq_some_iff.1 HXA8.out).1).trans HXA8.out
    have rO := HXA9.out
    have HPX := Lib.hid ((HQ5.out.below HLA5.out).below t59)
    have HPY := Lib.hid ((HQ6.out.below HLA6.out).below t69)
    have HPC := Lib.hid ((HQ8.out.below HLA8.out).below t89)
    have HPO := Lib.hid (HQ9.out.below HLA9.out)
    have HBo : Hid (∀ W', Below A9.heap.size A9 W' → ((W'.cell? ⟨gX, 0, none⟩ = some (.slice aX LX.length cX) ∧ gX < W'.heap.size) ∧ W'.cell? ⟨gY, 0, none⟩ = some (.slice aY LY.length cY) ∧ gY < W'.heap.size) ∧ (W'.cell? ⟨gC, 0, none⟩ = some (.slice aC LC.length cC) ∧ gC < W'.heap.size) ∧ W'.cell? ⟨gO, 0, none⟩ = some (.slice aO LO.length cO) ∧ gO < W'.heap.size) := Lib.hid fun W' hw => by
      have k1 := (hw.block gX (Array.getElem?_eq_some_iff.1 rX).1).trans rX
      have k2 := (hw.block gY (Array.getElem?_eq_some_iff.1 rY).1).trans rY
      have k3 := (hw.block gC (Array.getElem?_eq_some_iff.1 rC).1).trans rC
      have k4 := (hw.block gO (Array.getElem?_eq_some_iff.1 rO).1).trans rO
      exact ⟨⟨⟨cell_of_row W' gX 0 _ _ _ k1, (Array.getElem?_eq_some_iff.1 k1).1⟩, cell_of_row W' gY 0 _ _ _ k2, (Array.getElem?_eq_some_iff.1 k2).1⟩, ⟨cell_of_row W' gC 0 _ _ _ k3, (Array.getElem?_eq_some_iff.1 k3).1⟩, cell_of_row W' gO 0 _ _ _ k4, (Array.getElem?_eq_some_iff.1 k4).1⟩
    have HBf : Hid (Below w.heap.size w A9) := Lib.hid (HW3.out.2.trans (HAA9.out.mono HW3.out.2.size))
    have HAw9 := Lib.hid (fun W' (hw : Below A9.heap.size A9 W') => HAw.out W' (HAA9.out.trans (hw.mono HAA9.out.size)))
    obtain ⟨⟨⟨x0, x1⟩, y0, y1⟩, ⟨z0, z1⟩, o0, o1⟩ := HBo.out A9 (Below.refl _ _)
    clear t56 t68 t89 t69 t59 rX rY rC rO HL6 HLA6 HL8 HLA8 HL9 HLA9 HLA5 HXA5 HXA6 HXA8 HXA9 HQ5 HQ6 HQ8 HQ9 HAA5 HAA6 HAA8 HB5 HB6 HB8 HB9 HM6 HM8 HCC6 HCO8 HCX HCY HCC HCO HNd HB7 HgX HgY HgC HgO HTX HTY HP3 HQ3 HK3 HKT HW3 HB HAw
    by_cases hX : eX = 0
    case neg =>
      have x2 : (eX == 0) = false := beq_no hX
      have x3 : (eX != 0) = true := by simpa using hX
      clear hX
      go_wp2_with (first
        | (go_at_call 12; (with_reducible refine (HAw9.out _ (Below.refl _ _)).mono ?_); rintro e v1 ⟨rfl, hb⟩; have HV1 := Lib.hid hb; clear hb))
      go_ret
      exact ⟨rfl, HBf.out.trans (HV1.out.mono HBf.out.size)⟩
    obtain ⟨mx1, mx2, mx3, mx4, mx5⟩ := HMx.out hX
    have hlX : 1 ≤ LX.length := by rw [mx5, prg_len]; omega
    have hlX4 : LX.length ≤ 4096 := by rw [mx5]; exact mx4
    have hlXI : (0 : Int) < (LX.length : Int) := by omega
    have hlX0 : ((LX.length : Int) == 0) = false := beq_no (by omega)
    by_cases hY : eY = 0
    case neg =>
      have y2 : (eY == 0) = false := beq_no hY
      have y3 : (eY != 0) = true := by simpa using hY
      clear hY mx1 mx2 mx3 mx4 mx5
      subst hX
      go_wp2_with (first
        | (go_at_call 12; (with_reducible refine (HAw9.out _ (Below.refl _ _)).mono ?_); rintro e v1 ⟨rfl, hb⟩; have HV1 := Lib.hid hb; clear hb))
      go_ret
      exact ⟨rfl, HBf.out.trans (HV1.out.mono HBf.out.size)⟩
    obtain ⟨my1, my2, my3, my4, my5⟩ := HMy.out hY
    have HEx := Lib.hid mx5
    have HEy := Lib.hid my5
    have hlY : 1 ≤ LY.length := by rw [my5, prg_len]; omega
    have hlY4 : LY.length ≤ 4096 := by rw [my5]; exact my4
    clear mx1 mx2 mx3 mx4 mx5 my1 my2 my3 my4 my5
    subst hX
    subst hY
    obtain ⟨hcX, bX, iX, rfl, hrX⟩ := pi_rows HPX.out hlX
    have HRX := Lib.hid hrX
    have HBX := Lib.hid (bd_prg (expT X) (by rw [← HEx.out]; exact hlX4))
    have HBY := Lib.hid (bd_prg (expT Y) (by rw [← HEy.out]; exact hlY4))
    rw [← HEx.out] at HBX
    rw [← HEy.out] at HBY
    have HGc : Hid (eC = 0 → LC = LX.take (LX.length - 1) ++ LY.map (shI ((LX.length - 1 : Nat) : Int))) := Lib.hid fun h => by
      have := (HMc.out h).2.2.2.2
      rw [prg_cat, ← HEx.out, ← HEy.out] at this
      exact this
    have HGo : Hid (eO = 0 → LO = sp 1 (LX.length : Int) :: LX.map (shI 1)) := Lib.hid fun h => by
      have := (HMo.out h).2.2.2.2
      rw [prg_opt, ← HEx.out] at this
      exact this
    have HShX := Lib.hid (fun W' (hw : Below A9.heap.size A9 W') => shifted_any LX _ _ 1 ⟨by decide, by decide⟩ W' (HPX.out.below hw) hlX4 HBX.out)
    have HShY := Lib.hid (fun (d : Int) (hd : 0 ≤ d ∧ d ≤ 4096) W' (hw : Below A9.heap.size A9 W') => shifted_any LY _ _ d hd W' (HPY.out.below hw) hlY4 HBY.out)
    obtain ⟨m, hm⟩ : ∃ m, LX.length = m + 1 := ⟨LX.length - 1, by omega⟩
    have hmt : (LX.take m).length = m := by rw [List.length_take]; omega
    have HMt := Lib.hid hmt
    have HLm := Lib.hid hm
    rw [hm, Nat.add_sub_cancel] at HGc
    rw [hm] at x0 HBo HGo hcX hlX0 hlXI HShX ⊢
    have hm4 : (m : Int) + 1 ≤ 4096 := by omega
    have hm0 : (0 : Int) ≤ m := by omega
    have hcI : (m : Int) + 1 ≤ (cX : Int) := by omega
    have HShm := Lib.hid (HShY.out (m : Int) ⟨by omega, by omega⟩)
    clear hm hmt hrX hlX HMx HMy HMx0 HMc HMo HPX HPY HShY HEx HEy HBX HBY
    go_upto_region 10 with fail
    have HOn : Hid (∀ B W, World.ownsRow W B 39 7 (.slice none 0 0) 0 (rowsI [])) := Lib.hid fun B W => World.ownsRow_nil _ _ _ _
    generalize (Value.slice none 0 0) = nv at HOn ⊢
    go_upto_region 11 with (first
      | (at_builtin; refine wpList_app_rows rfl _ _ rfl A9.heap.size nv 0 [] rfl (HOn.out _ _) ⟨bX, iX, none⟩ m _ (LX.take m) rfl HMt.out (HRX.out m) (by omega) (Nat.le_refl _) ?_; intro vw1 v1 ho1 hb1; have HO1 := Lib.hid ho1; have HV1 := Lib.hid hb1; clear ho1 hb1))
    clear x0 x1 y0 y1 z0 z1 o0 o1
    obtain ⟨⟨⟨x0, x1⟩, y0, y1⟩, ⟨z0, z1⟩, o0, o1⟩ := HBo.out v1 HV1.out
    have hO1 : A9.heap.size ≤ v1.heap.size := HV1.out.size
    go_upto_region 12 with (first
      | (go_at_call 17; (with_reducible refine (HShm.out v1 HV1.out).mono ?_); rintro e v2 ⟨vs, rfl, hs2, hb2⟩
         have HO2 := Lib.hid (own_below HO1.out hb2)
         have HV2 := Lib.hid (HV1.out.trans (hb2.mono hO1))
         obtain ⟨g2, c2, rfl⟩ := own_more hs2 (by omega)
         have HC2 := Lib.hid (World.ownsRow.cells hs2 (g := g2) rfl)
         have hO2 : A9.heap.size ≤ v2.heap.size := HV2.out.size
         clear hs2 hb2 x0 x1 y0 y1 z0 z1 o0 o1)
      | (at_builtin; refine wpList_app_rows rfl _ _ rfl A9.heap.size vw1 (0 + m) _ rfl HO2.out ⟨g2, 0, none⟩ LY.length _ (LY.map (shI (m : Int))) rfl (List.length_map ..) HC2.out (by omega) hO2 ?_; intro vw2 v3 ho3 hb3; have HO3 := Lib.hid ho3; have HV3 := Lib.hid (HV2.out.trans hb3); clear ho3 hb3))
    have HWant : Hid (PI v3 A9.heap.size (LX.take m ++ LY.map (shI (m : Int))) vw2) := Lib.hid (PI.own (by
      have h := HO3.out
      have e : 0 + m + LY.length = (LX.take m ++ LY.map (shI (m : Int))).length := by rw [List.length_append, HMt.out, List.length_map]; omega
      rw [e, List.nil_append] at h
      exact h))
    clear HO1 HO2 HO3 HC2
    obtain ⟨⟨⟨x0, x1⟩, y0, y1⟩, ⟨z0, z1⟩, o0, o1⟩ := HBo.out v3 HV3.out
    have hO3 : A9.heap.size ≤ v3.heap.size := HV3.out.size
    have hal3 := (Below.refl v3.heap.size v3).alloc (Nat.le_refl _) (.cells #[.int .i64 2, .int .u64 0, .int .u64 0, .int .u64 0, .int .u64 0, .int .i64 1, .int .i64 ((m : Int) + 1)] 39)
    have HL3 := Lib.hid hal3
    have HNw : Hid (∀ j u, (rowsI [sp 1 ((m : Int) + 1)])[j]? = some u → (v3.alloc (.cells #[.int .i64 2, .int .u64 0, .int .u64 0, .int .u64 0, .int .u64 0, .int .i64 1, .int .i64 ((m : Int) + 1)] 39)).cell? ((⟨v3.heap.size, 0, none⟩ : Addr).add j) = some u) := Lib.hid fun j u hu => by
      have e : rowsI [sp 1 ((m : Int) + 1)] = [.int .i64 2, .int .u64 0, .int .u64 0, .int .u64 0, .int .u64 0, .int .i64 1, .int .i64 ((m : Int) + 1)] := by rw [show rowsI [sp 1 ((m : Int) + 1)] = rowI (sp 1 ((m : Int) + 1)) from List.append_nil _, sp_row]
      rw [e] at hu
      exact new_cells v3 _ _ j u hu
    clear hal3
    go_upto_region 13 with (first
      | (at_builtin; refine wpList_app_rows rfl _ _ rfl v3.heap.size nv 0 [] rfl (HOn.out _ _) ⟨v3.heap.size, 0, none⟩ 1 _ [sp 1 ((m : Int) + 1)] rfl rfl HNw.out (by omega) (by have := HL3.out.size; exact this) ?_; intro vo1 v4 ho4 hb4; have HO4 := Lib.hid ho4; have HV4 : Hid (Below v3.heap.size v3 v4) := Lib.hid (HL3.out.trans hb4); clear ho4 hb4))
    have HA4 : Hid (Below A9.heap.size A9 v4) := Lib.hid (HV3.out.trans (HV4.out.mono hO3))
    clear x0 x1 y0 y1 z0 z1 o0 o1
    obtain ⟨⟨⟨x0, x1⟩, y0, y1⟩, ⟨z0, z1⟩, o0, o1⟩ := HBo.out v4 HA4.out
    have hO4 : v3.heap.size ≤ v4.heap.size := HV4.out.size
    go_upto_region 14 with (first
      | (go_at_call 17; (with_reducible refine (HShX.out v4 HA4.out).mono ?_); rintro e v5 ⟨vs, rfl, hs5, hb5⟩
         have HO5 := Lib.hid (own_below HO4.out hb5)
         have HV5 := Lib.hid (HV4.out.trans (hb5.mono hO4))
         obtain ⟨g5, c5, rfl⟩ := own_more hs5 (by omega)
         have HC5 := Lib.hid (World.ownsRow.cells hs5 (g := g5) rfl)
         have hO5 : v3.heap.size ≤ v5.heap.size := HV5.out.size
         clear hs5 hb5 x0 x1 y0 y1 z0 z1 o0 o1)
      | (at_builtin; refine wpList_app_rows rfl _ _ rfl v3.heap.size vo1 (0 + 1) _ rfl HO5.out ⟨g5, 0, none⟩ (m + 1) _ (LX.map (shI 1)) rfl (by rw [List.length_map]; exact HLm.out) HC5.out (by omega) hO5 ?_; intro vo2 v6 ho6 hb6; have HO6 := Lib.hid ho6; have HV6 : Hid (Below v3.heap.size v3 v6) := Lib.hid (HV5.out.trans hb6); clear ho6 hb6))
    have HA6 : Hid (Below A9.heap.size A9 v6) := Lib.hid (HV3.out.trans (HV6.out.mono hO3))
    have HOth : Hid (PI v6 v3.heap.size (sp 1 ((m : Int) + 1) :: LX.map (shI 1)) vo2) := Lib.hid (PI.own (by
      have h := HO6.out
      have e : 0 + 1 + (m + 1) = (sp 1 ((m : Int) + 1) :: LX.map (shI 1)).length := by rw [List.length_cons, List.length_map, HLm.out]; omega
      rw [e, List.nil_append] at h
      exact h))
    have HWn6 := Lib.hid (HWant.out.below HV6.out)
    have HLC : Hid (eC = 0 → ∀ W', Below v6.heap.size v6 W' → Calls Tryd.prog 15 #[.slice aC LC.length cC, vw2] W' fun e w' => e = .returned (.bool true) ∧ Below W'.heap.size W' w') := Lib.hid fun h W' hw => by
      have e := HGc.out h
      have h2 := HWn6.out.below hw
      rw [← e] at h2
      exact same_any LC _ _ _ _ W' ((HPC.out.below HA6.out).below hw) h2 (by rw [e, List.length_append, HMt.out, List.length_map]; omega)
    have HLO : Hid (eO = 0 → ∀ W', Below v6.heap.size v6 W' → Calls Tryd.prog 15 #[.slice aO LO.length cO, vo2] W' fun e w' => e = .returned (.bool true) ∧ Below W'.heap.size W' w') := Lib.hid fun h W' hw => by
      have e := HGo.out h
      have e2 : ((m + 1 : Nat) : Int) = (m : Int) + 1 := by omega
      rw [e2] at e
      have h2 := HOth.out.below hw
      rw [← e] at h2
      exact same_any LO _ _ _ _ W' ((HPO.out.below HA6.out).below hw) h2 (by rw [e, List.length_cons, List.length_map, HLm.out]; omega)
    have HAw6 := Lib.hid (fun W' (hw : Below v6.heap.size v6 W') => HAw9.out W' (HA6.out.trans (hw.mono HA6.out.size)))
    have HB6o : Hid (∀ W', Below v6.heap.size v6 W' → (W'.cell? ⟨gC, 0, none⟩ = some (.slice aC LC.length cC) ∧ gC < W'.heap.size) ∧ W'.cell? ⟨gO, 0, none⟩ = some (.slice aO LO.length cO) ∧ gO < W'.heap.size) := Lib.hid fun W' hw => (HBo.out W' (HA6.out.trans (hw.mono HA6.out.size))).2
    have HBz := Lib.hid (HBf.out.trans (HA6.out.mono HBf.out.size))
    obtain ⟨⟨z0, z1⟩, o0, o1⟩ := HB6o.out v6 (Below.refl _ _)
    clear HO4 HO5 HO6 HC5 HWant HOth HWn6 HGc HGo HPC HPO HBo HShX HShm HNw HOn
    by_cases hC : eC = 0
    · by_cases hO : eO = 0
      · have HSc := Lib.hid (HLC.out hC)
        have HSo := Lib.hid (HLO.out hO)
        subst hC
        subst hO
        go_wp2_with (first
          | (go_at_call 15; (with_reducible refine (HSc.out _ (Below.refl _ _)).mono ?_); rintro e u1 ⟨rfl, hb⟩; have HU1 : Hid (Below v6.heap.size v6 u1) := Lib.hid hb; clear hb z0 z1 o0 o1; obtain ⟨⟨z0, z1⟩, o0, o1⟩ := HB6o.out u1 HU1.out)
          | (go_at_call 15; (with_reducible refine (HSo.out _ HU1.out).mono ?_); rintro e u2 ⟨rfl, hb⟩; have HU2 : Hid (Below v6.heap.size v6 u2) := Lib.hid (HU1.out.trans (hb.mono HU1.out.size)); clear hb z0 z1 o0 o1)
          | (go_at_call 12; (with_reducible refine (HAw6.out _ HU2.out).mono ?_); rintro e u3 ⟨rfl, hb⟩; have HU3 : Hid (Below v6.heap.size v6 u3) := Lib.hid (HU2.out.trans (hb.mono HU2.out.size)); clear hb))
        go_ret
        exact ⟨rfl, HBz.out.trans (HU3.out.mono HBz.out.size)⟩
      · have HSc := Lib.hid (HLC.out hC)
        subst hC
        have o2 : (eO == 0) = false := beq_no hO
        have o3 : (eO != 0) = true := by simpa using hO
        clear hO
        go_wp2_with (first
          | (go_at_call 15; (with_reducible refine (HSc.out _ (Below.refl _ _)).mono ?_); rintro e u1 ⟨rfl, hb⟩; have HU1 : Hid (Below v6.heap.size v6 u1) := Lib.hid hb; clear hb z0 z1 o0 o1)
          | (go_at_call 12; (with_reducible refine (HAw6.out _ HU1.out).mono ?_); rintro e u3 ⟨rfl, hb⟩; have HU3 : Hid (Below v6.heap.size v6 u3) := Lib.hid (HU1.out.trans (hb.mono HU1.out.size)); clear hb))
        go_ret
        exact ⟨rfl, HBz.out.trans (HU3.out.mono HBz.out.size)⟩
    · have c2' : (eC == 0) = false := beq_no hC
      have c3' : (eC != 0) = true := by simpa using hC
      clear hC
      by_cases hO : eO = 0
      · have HSo := Lib.hid (HLO.out hO)
        subst hO
        go_wp2_with (first
          | (go_at_call 15; (with_reducible refine (HSo.out _ (Below.refl _ _)).mono ?_); rintro e u2 ⟨rfl, hb⟩; have HU2 : Hid (Below v6.heap.size v6 u2) := Lib.hid hb; clear hb z0 z1 o0 o1)
          | (go_at_call 12; (with_reducible refine (HAw6.out _ HU2.out).mono ?_); rintro e u3 ⟨rfl, hb⟩; have HU3 : Hid (Below v6.heap.size v6 u3) := Lib.hid (HU2.out.trans (hb.mono HU2.out.size)); clear hb))
        go_ret
        exact ⟨rfl, HBz.out.trans (HU3.out.mono HBz.out.size)⟩
      · have o2 : (eO == 0) = false := beq_no hO
        have o3 : (eO != 0) = true := by simpa using hO
        clear hO
        go_wp2_with (first
          | (go_at_call 12; (with_reducible refine (HAw6.out _ (Below.refl _ _)).mono ?_); rintro e u3 ⟨rfl, hb⟩; have HU3 : Hid (Below v6.heap.size v6 u3) := Lib.hid hb; clear hb))
        go_ret
        exact ⟨rfl, HBz.out.trans (HU3.out.mono HBz.out.size)⟩
end Go.Proofs.YtbjobbkipmkndaaDoor
