/- RpLawT. -/
import Derived.Test.YtbjobbkipmkndaaDoorPp31
import Derived.Test.YtbjobbkipmkndaaDoorPp28
set_option linter.unusedVariables false
set_option linter.unusedSimpArgs false
set_option maxRecDepth 100000
set_option maxHeartbeats 16000000
namespace Go.Proofs.YtbjobbkipmkndaaDoor
open Go.RowKit
theorem texts_law (L M : List IN) (pv qv : Value) (ln lm : Bool) (w : World) (h : PI w 0 L pv) (h' : PI w 0 M qv) (hF : (∀ i ∈ L, fits i.x ∧ fits i.y) ∧ L.length ≤ 9223372036854775807) (hG : (∀ i ∈ M, fits i.x ∧ fits i.y) ∧ M.length ≤ 9223372036854775807) (hT : KT w ∧ tabAt w) : Calls Tryd.prog 7 #[.agg #[pv, .bool ln], .agg #[qv, .bool lm]] w fun e w' => e = .returned (.bool true) ∧ Below w.heap.size w w' := by
  obtain ⟨ad, cap, rfl⟩ := h.form
  obtain ⟨ad', cap', rfl⟩ := h'.form
  have hb : Below w.heap.size w ((w.alloc (.cells #[.slice ad L.length cap, .bool ln] 24)).alloc (.cells #[.slice ad' M.length cap', .bool lm] 24)) := ((Below.refl _ _).alloc (Nat.le_refl _) _).alloc (by simp) _
  have he1 := heap_alloc_new w (.cells #[.slice ad L.length cap, .bool ln] 24)
  have hs : (w.alloc (.cells #[.slice ad L.length cap, .bool ln] 24)).heap.size = w.heap.size + 1 := by simp
  have he2 := heap_alloc_new (w.alloc (.cells #[.slice ad L.length cap, .bool ln] 24)) (.cells #[.slice ad' M.length cap', .bool lm] 24)
  rw [hs] at he2
  have he1' := (Below.heap_alloc (w.alloc (.cells #[.slice ad L.length cap, .bool ln] 24)) (.cells #[.slice ad' M.length cap', .bool lm] 24) w.heap.size (by omega)).trans he1
  obtain ⟨W, hW⟩ : ∃ W, W = (w.alloc (.cells #[.slice ad L.length cap, .bool ln] 24)).alloc (.cells #[.slice ad' M.length cap', .bool lm] 24) := ⟨_, rfl⟩
  rw [← hW] at hb he2 he1'
  have HW := Lib.hid hW
  have HB := Lib.hid hb
  have hl2 : w.heap.size + 1 < W.heap.size := (Array.getElem?_eq_some_iff.1 he2).1
  have HP := Lib.hid (h.below hb)
  have HQ := Lib.hid (h'.below hb)
  have HKT := Lib.hid (hT.1.below hb)
  have HTa := Lib.hid (tab_keep hT.2 hb)
  have HBo : Hid (∀ W2, Below W.heap.size W W2 → ((W2.cell? ⟨w.heap.size, 0, none⟩ = some (.slice ad L.length cap) ∧ W2.cell? ⟨w.heap.size, 1, none⟩ = some (.bool ln)) ∧ W2.cell? ⟨w.heap.size + 1, 0, none⟩ = some (.slice ad' M.length cap') ∧ W2.cell? ⟨w.heap.size + 1, 1, none⟩ = some (.bool lm)) ∧ w.heap.size < W2.heap.size ∧ w.heap.size + 1 < W2.heap.size) := Lib.hid fun W2 hw => by
    have hx := (hw.block w.heap.size (by omega)).trans he1'
    have hy := (hw.block (w.heap.size + 1) hl2).trans he2
    exact ⟨⟨⟨cell_of_row W2 w.heap.size 0 _ _ _ hx, cell_of_row W2 w.heap.size 1 _ _ _ hx⟩, cell_of_row W2 (w.heap.size + 1) 0 _ _ _ hy, cell_of_row W2 (w.heap.size + 1) 1 _ _ _ hy⟩, (Array.getElem?_eq_some_iff.1 hx).1, (Array.getElem?_eq_some_iff.1 hy).1⟩
  have HV1 := Lib.hid (fun W2 (hw : Below W.heap.size W W2) => valid_any L (.slice ad L.length cap) 0 ln W2 (HP.out.below hw) (HKT.out.below hw))
  have HV2 := Lib.hid (fun W2 (hw : Below W.heap.size W W2) => valid_any M (.slice ad' M.length cap') 0 lm W2 (HQ.out.below hw) (HKT.out.below hw))
  have HP1 := Lib.hid (fun W2 (hw : Below W.heap.size W W2) => print_any L (.slice ad L.length cap) 0 ln W2 (HP.out.below hw) hF.1 (HKT.out.below hw) (tab_keep HTa.out hw))
  have HP2 := Lib.hid (fun W2 (hw : Below W.heap.size W W2) => print_any M (.slice ad' M.length cap') 0 lm W2 (HQ.out.below hw) hG.1 (HKT.out.below hw) (tab_keep HTa.out hw))
  have HAl := Lib.hid (fun W2 (hw : Below W.heap.size W W2) => alike_any L M (.slice ad L.length cap) (.slice ad' M.length cap') ln lm W2 (HP.out.below hw) (HQ.out.below hw) hF.2 hG.2)
  have HAw := Lib.hid (fun W2 (hw : Below W.heap.size W W2) => awake_any W2 (HKT.out.below hw))
  have heq := pr_eq L M ln lm
  obtain ⟨⟨⟨b0, b1⟩, c0, c1⟩, bl, cl2⟩ := HBo.out W (Below.refl _ _)
  clear h h' hb he1 he2 he1' hW hs hF hG hT
  go_enter Tryd.func7, Tryd.ntmps7
  go_upto_region 1 with fail
  rw [← HW.out]
  cases hv1 : valL L
  · rw [hv1] at HV1
    clear heq hv1
    go_wp2_with (first
      | (go_at_call 8; (with_reducible refine (HV1.out _ (Below.refl _ _)).mono ?_); rintro e w1 ⟨rfl, hb⟩; have HB1 : Hid (Below W.heap.size W w1) := Lib.hid hb; clear hb b0 b1 c0 c1)
      | (go_at_call 12; (with_reducible refine (HAw.out _ HB1.out).mono ?_); rintro e w2 ⟨rfl, hb⟩; have HB2 := Lib.hid (HB1.out.trans (hb.mono HB1.out.size)); clear hb))
    go_ret
    exact ⟨rfl, HB.out.trans (HB2.out.mono HB.out.size)⟩
  cases hv2 : valL M
  · rw [hv1] at HV1
    rw [hv2] at HV2
    clear heq hv1 hv2
    go_wp2_with (first
      | (go_at_call 8; (with_reducible refine (HV1.out _ (Below.refl _ _)).mono ?_); rintro e w1 ⟨rfl, hb⟩; have HB1 : Hid (Below W.heap.size W w1) := Lib.hid hb; clear hb b0 b1 c0 c1 bl cl2; obtain ⟨⟨⟨b0, b1⟩, c0, c1⟩, bl, cl2⟩ := HBo.out w1 HB1.out)
      | (go_at_call 8; (with_reducible refine (HV2.out _ HB1.out).mono ?_); rintro e w3 ⟨rfl, hb⟩; have HB3 : Hid (Below W.heap.size W w3) := Lib.hid (HB1.out.trans (hb.mono HB1.out.size)); clear hb b0 b1 c0 c1)
      | (go_at_call 12; (with_reducible refine (HAw.out _ HB3.out).mono ?_); rintro e w2 ⟨rfl, hb⟩; have HB2 := Lib.hid (HB3.out.trans (hb.mono HB3.out.size)); clear hb))
    go_ret
    exact ⟨rfl, HB.out.trans (HB2.out.mono HB.out.size)⟩
  have heq := heq hv1 hv2
  rw [hv1] at HV1
  rw [hv2] at HV2
  generalize bs (prT ln L) = T1 at *
  generalize bs (prT lm M) = T2 at *
  generalize ((ln == lm) && alL L M) = al at *
  have hvv : (al == al) = true := by cases al <;> rfl
  clear hv1 hv2
  go_upto_region 3 with (first
    | (go_at_call 8; (with_reducible refine (HV1.out _ (Below.refl _ _)).mono ?_); rintro e w1 ⟨rfl, hb⟩; have HB1 : Hid (Below W.heap.size W w1) := Lib.hid hb; clear hb b0 b1 c0 c1 bl cl2; obtain ⟨⟨⟨b0, b1⟩, c0, c1⟩, bl, cl2⟩ := HBo.out w1 HB1.out)
    | (go_at_call 8; (with_reducible refine (HV2.out _ HB1.out).mono ?_); rintro e w3 ⟨rfl, hb⟩; have HB3 : Hid (Below W.heap.size W w3) := Lib.hid (HB1.out.trans (hb.mono HB1.out.size)); clear hb b0 b1 c0 c1 bl cl2; obtain ⟨⟨⟨b0, b1⟩, c0, c1⟩, bl, cl2⟩ := HBo.out w3 HB3.out))
  go_region_law
    (first
      | (go_simp; go_at_call 10; (with_reducible refine (HP1.out _ (HB3.out.drew)).mono ?_); rintro e w4 ⟨rfl, hb⟩
         have HB4 : Hid (Below W.heap.size W w4) := Lib.hid (HB3.out.trans (((Below.refl _ _).drew.trans hb).mono HB3.out.size))
         clear b0 b1 c0 c1 bl cl2
         obtain ⟨⟨⟨b0, b1⟩, c0, c1⟩, bl, cl2⟩ := HBo.out w4 HB4.out
         clear hb)
      | (go_simp; go_at_call 10; (with_reducible refine (HP2.out _ HB4.out).mono ?_); rintro e w5 ⟨rfl, hb⟩
         have HB5 : Hid (Below W.heap.size W w5) := Lib.hid (HB4.out.trans (hb.mono HB4.out.size))
         clear b0 b1 c0 c1 bl cl2
         obtain ⟨⟨⟨b0, b1⟩, c0, c1⟩, bl, cl2⟩ := HBo.out w5 HB5.out
         clear hb)
      | (go_simp; go_at_call 18; (with_reducible refine (HAl.out _ HB5.out).mono ?_); rintro e w6 ⟨rfl, hb⟩
         have HB6 : Hid (Below W.heap.size W w6) := Lib.hid (HB5.out.trans (hb.mono HB5.out.size))
         clear b0 b1 c0 c1 bl cl2
         clear hb)
      | (go_simp; go_at_call 12; (with_reducible refine (HAw.out _ HB6.out).mono ?_); rintro e w7 ⟨rfl, hb⟩
         have HB7 : Hid (Below W.heap.size W w7) := Lib.hid (HB6.out.trans (hb.mono HB6.out.size))
         clear hb))
  all_goals
    go_wp2_with fail
    go_ret
    exact ⟨rfl, HB.out.trans (HB7.out.mono HB.out.size)⟩
end Go.Proofs.YtbjobbkipmkndaaDoor
