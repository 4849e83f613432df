/- RxSame. -/
import Derived.Test.YtphiaagppcbefaaGreatDoorPk37
import Derived.Test.YtphiaagppcbefaaGreatDoorPk35
import Derived.StillTailTactics
import Derived.Deep.CutRange
import Derived.Deep.Cut
import Derived.Deep.DeepCutAuto
set_option linter.unusedVariables false
namespace Go.Proofs.YtphiaagppcbefaaGreatDoor
open Go.RowKit
def SameOk (f : F) : Prop := ∀ (o l h g : Int) (st : Nat → Bool) (sv sx : Value) (w : World) (S R : Nat → Prop), SV w S f sv → SV w R f sx → f.len ≤ 1000000 ∧ widF f ≤ 1000000 →
  Calls Tryz.prog 13 #[.agg #[.int .i64 o, .int .u64 (wd st 0 64 : Nat), .int .u64 (wd st 64 64 : Nat), .int .u64 (wd st 128 64 : Nat), .int .u64 (wd st 192 64 : Nat), .int .i64 l, .int .i64 h, .int .i64 g, sv],
    .agg #[.int .i64 o, .int .u64 (wd st 0 64 : Nat), .int .u64 (wd st 64 64 : Nat), .int .u64 (wd st 128 64 : Nat), .int .u64 (wd st 192 64 : Nat), .int .i64 l, .int .i64 h, .int .i64 g, sx]] w fun e w' => e = .returned (.bool true) ∧ Below w.heap.size w w'
abbrev nodeC (o l h g : Int) (st : Nat → Bool) (sv : Value) : Array Value := #[.int .i64 o, .int .u64 (wd st 0 64 : Nat), .int .u64 (wd st 64 64 : Nat), .int .u64 (wd st 128 64 : Nat), .int .u64 (wd st 192 64 : Nat), .int .i64 l, .int .i64 h, .int .i64 g, sv]
set_option maxRecDepth 100000 in
set_option maxHeartbeats 8000000 in
theorem same_node (f : F) (hch : ∀ i, i < f.len → SameOk (f.nth i).args) : SameOk f := by
  intro o l h g st sv sx w S R hsv hsx hwd
  have hfl : (f.len : Int) ≤ 1000000 := by omega
  have HW := Lib.hid hwd
  obtain ⟨zs, ad, cap, rfl, hcap, hfv, hcells⟩ := hsv
  obtain ⟨zt, at_, cat, rfl, hcat, hft, hcelt⟩ := hsx
  have HCh := Lib.hid hch
  have HFV := Lib.hid hfv
  have HFT := Lib.hid hft
  have HCe := Lib.hid hcells
  have HCt := Lib.hid hcelt
  obtain ⟨W2, hW2⟩ : ∃ W2, W2 = ((w.alloc (.cells (nodeC o l h g st (.slice ad f.len cap)) 35)).alloc (.cells (nodeC o l h g st (.slice at_ f.len cat)) 35)) := ⟨_, rfl⟩
  have hx : Below w.heap.size w W2 := by rw [hW2]; exact ((Below.refl _ _).alloc (Nat.le_refl _) _).alloc (by simp) _
  have hz2 : W2.heap.size = w.heap.size + 2 := by rw [hW2]; simp
  have hg0 : W2.heap[w.heap.size]? = some (.cells (nodeC o l h g st (.slice ad f.len cap)) 35 (0, 0)) := by
    rw [hW2, heap_alloc_old _ _ (by simp)]
    exact heap_alloc_new w _
  have hg1 : W2.heap[w.heap.size + 1]? = some (.cells (nodeC o l h g st (.slice at_ f.len cat)) 35 (0, 0)) := by
    have e1 : (w.alloc (.cells (nodeC o l h g st (.slice ad f.len cap)) 35)).heap.size = w.heap.size + 1 := by simp
    rw [hW2, ← e1]
    exact heap_alloc_new _ _
  have HX := Lib.hid hx
  have HG0 := Lib.hid hg0
  have HG1 := Lib.hid hg1
  have HZ := Lib.hid hz2
  have HW2 := Lib.hid hW2
  have hcmp : ∀ w, (binOp .neq 32 (.agg #[.int .u64 (wd st 0 64 : Nat), .int .u64 (wd st 64 64 : Nat), .int .u64 (wd st 128 64 : Nat), .int .u64 (wd st 192 64 : Nat)]) (.agg #[.int .u64 (wd st 0 64 : Nat), .int .u64 (wd st 64 64 : Nat), .int .u64 (wd st 128 64 : Nat), .int .u64 (wd st 192 64 : Nat)])).run Tryz.prog w = .ok (.bool false) w := fun w => by
    have := neq_cs st st w
    rw [eqc_self] at this
    exact this
  clear hch hfv hcells hft hcelt hx hcap hcat hwd hg0 hg1 hz2 hW2
  go_enter Tryz.func13, Tryz.ntmps13
  go_wp2
  go_loopw [5] (fun i wr => ∃ k : Nat, k ≤ f.len ∧ i = .int .i64 k ∧ Hid (Below W2.heap.size W2 wr)) (fun i _ => f.len - (intOf i).toNat)
  case atStart => exact ⟨0, Nat.zero_le _, rfl, by rw [HW2.out]; exact Lib.hid (Below.refl _ _)⟩
  case round =>
    obtain ⟨k, hk, rfl, HB⟩ := hrel
    by_cases hkn : k < f.len
    · have ki : (k : Int) < f.len := by omega
      have ki0 : (0 : Int) ≤ k := by omega
      obtain ⟨b, i0, rfl, _, hbl, hce⟩ : ∃ b i, ad = some ⟨b, i, none⟩ ∧ S b ∧ b < w.heap.size ∧ ∀ j u, zs[j]? = some u → w.cell? ⟨b, i + j, none⟩ = some u := by
        rcases HCe.out with h0 | h0
        · omega
        · exact h0
      obtain ⟨b2, i2, rfl, _, hbl2, hce2⟩ : ∃ b i, at_ = some ⟨b, i, none⟩ ∧ R b ∧ b < w.heap.size ∧ ∀ j u, zt[j]? = some u → w.cell? ⟨b, i + j, none⟩ = some u := by
        rcases HCt.out with h0 | h0
        · omega
        · exact h0
      obtain ⟨sv2, hsv2, hrow⟩ := FV.nth k HFV.out hkn
      obtain ⟨ad2, cp2, rfl⟩ := slice_form hsv2
      obtain ⟨sv3, hsv3, hrow3⟩ := FV.nth k HFT.out hkn
      obtain ⟨ad3, cp3, rfl⟩ := slice_form hsv3
      have CF : Hid (∀ wx, Below W2.heap.size W2 wx → wx.cell? ⟨b, i0 + k * 9, none⟩ = some (.int .i64 (f.nth k).op) ∧ wx.cell? ⟨b, i0 + k * 9 + 1, none⟩ = some (.int .u64 (wd (f.nth k).st 0 64 : Nat)) ∧ wx.cell? ⟨b, i0 + k * 9 + 2, none⟩ = some (.int .u64 (wd (f.nth k).st 64 64 : Nat)) ∧ wx.cell? ⟨b, i0 + k * 9 + 3, none⟩ = some (.int .u64 (wd (f.nth k).st 128 64 : Nat)) ∧ wx.cell? ⟨b, i0 + k * 9 + 4, none⟩ = some (.int .u64 (wd (f.nth k).st 192 64 : Nat)) ∧ wx.cell? ⟨b, i0 + k * 9 + 5, none⟩ = some (.int .i64 (f.nth k).lo) ∧ wx.cell? ⟨b, i0 + k * 9 + 6, none⟩ = some (.int .i64 (f.nth k).hi) ∧ wx.cell? ⟨b, i0 + k * 9 + 7, none⟩ = some (.int .i64 (f.nth k).g) ∧ wx.cell? ⟨b, i0 + k * 9 + 8, none⟩ = some (.slice ad2 (f.nth k).args.len cp2)) := Lib.hid fun wx hb => by
        have hcell : ∀ j u, (rowV (f.nth k).op (f.nth k).st (f.nth k).lo (f.nth k).hi (f.nth k).g (.slice ad2 (f.nth k).args.len cp2))[j]? = some u → wx.cell? ⟨b, i0 + k * 9 + j, none⟩ = some u := fun j u hu => by
          rw [hb.cell (by have := HZ.out; show b < W2.heap.size; omega), HX.out.cell (by exact hbl), Nat.add_assoc]
          exact hce _ u (hrow j u hu)
        exact ⟨hcell 0 _ rfl, hcell 1 _ rfl, hcell 2 _ rfl, hcell 3 _ rfl, hcell 4 _ rfl, hcell 5 _ rfl, hcell 6 _ rfl, hcell 7 _ rfl, hcell 8 _ rfl⟩
      have CG : Hid (∀ wx, Below W2.heap.size W2 wx → wx.cell? ⟨b2, i2 + k * 9, none⟩ = some (.int .i64 (f.nth k).op) ∧ wx.cell? ⟨b2, i2 + k * 9 + 1, none⟩ = some (.int .u64 (wd (f.nth k).st 0 64 : Nat)) ∧ wx.cell? ⟨b2, i2 + k * 9 + 2, none⟩ = some (.int .u64 (wd (f.nth k).st 64 64 : Nat)) ∧ wx.cell? ⟨b2, i2 + k * 9 + 3, none⟩ = some (.int .u64 (wd (f.nth k).st 128 64 : Nat)) ∧ wx.cell? ⟨b2, i2 + k * 9 + 4, none⟩ = some (.int .u64 (wd (f.nth k).st 192 64 : Nat)) ∧ wx.cell? ⟨b2, i2 + k * 9 + 5, none⟩ = some (.int .i64 (f.nth k).lo) ∧ wx.cell? ⟨b2, i2 + k * 9 + 6, none⟩ = some (.int .i64 (f.nth k).hi) ∧ wx.cell? ⟨b2, i2 + k * 9 + 7, none⟩ = some (.int .i64 (f.nth k).g) ∧ wx.cell? ⟨b2, i2 + k * 9 + 8, none⟩ = some (.slice ad3 (f.nth k).args.len cp3)) := Lib.hid fun wx hb => by
        have hcell : ∀ j u, (rowV (f.nth k).op (f.nth k).st (f.nth k).lo (f.nth k).hi (f.nth k).g (.slice ad3 (f.nth k).args.len cp3))[j]? = some u → wx.cell? ⟨b2, i2 + k * 9 + j, none⟩ = some u := fun j u hu => by
          rw [hb.cell (by have := HZ.out; show b2 < W2.heap.size; omega), HX.out.cell (by exact hbl2), Nat.add_assoc]
          exact hce2 _ u (hrow3 j u hu)
        exact ⟨hcell 0 _ rfl, hcell 1 _ rfl, hcell 2 _ rfl, hcell 3 _ rfl, hcell 4 _ rfl, hcell 5 _ rfl, hcell 6 _ rfl, hcell 7 _ rfl, hcell 8 _ rfl⟩
      have HC := HCh.out k hkn
      have HL := Lib.hid (fun W (hW : SV W S (f.nth k).args (.slice ad2 (f.nth k).args.len cp2)) (hV : SV W R (f.nth k).args (.slice ad3 (f.nth k).args.len cp3)) => HC (f.nth k).op (f.nth k).lo (f.nth k).hi (f.nth k).g (f.nth k).st _ _ W S R hW hV (by have h1 := wid_nth f k hkn; have := HW.out; omega))
      have HS2 : Hid (SV W2 S (f.nth k).args (.slice ad2 (f.nth k).args.len cp2)) := Lib.hid (hsv2.far (Afar.below HX.out))
      have HS3 : Hid (SV W2 R (f.nth k).args (.slice ad3 (f.nth k).args.len cp3)) := Lib.hid (hsv3.far (Afar.below HX.out))
      have BX : Hid (∀ wx, Below W2.heap.size W2 wx → wx.cell? ⟨w.heap.size, 8, none⟩ = some (.slice (some ⟨b, i0, none⟩) f.len cap)) := Lib.hid fun wx hb => cell_of_row wx w.heap.size 8 _ _ _ ((hb.block _ (by have := HZ.out; omega)).trans HG0.out)
      have BY : Hid (∀ wx, Below W2.heap.size W2 wx → wx.cell? ⟨w.heap.size + 1, 8, none⟩ = some (.slice (some ⟨b2, i2, none⟩) f.len cat)) := Lib.hid fun wx hb => cell_of_row wx (w.heap.size + 1) 8 _ _ _ ((hb.block _ (by have := HZ.out; omega)).trans HG1.out)
      have bx := BX.out wr HB.out
      clear hce hrow hsv2 hce2 hrow3 hsv3 HC
      go_upto_region 6 with fail
      clear bx
      refine wp_region_held_drew (S := Below W2.heap.size W2) (by kernel_rfl) ?_ (fun hHeld => ?_)
      · exact HB.out.drew
      refine wpAnyH_take (i := 0) (v := ?ev0) rfl (by kernel_rfl) (by kernel_rfl) (by kernel_rfl) (fun _ _ _ h => h) (Or.inl ⟨by rfl, ?ey0⟩) (by assumption) ?er0
      case ey0 =>
        intro wx hSw
        clear hSw
        go_simp
        first | done | (with_reducible rfl)
      (try simp only [Act.put, List.getElem_toArray, List.getElem_cons_zero, List.setIfInBounds_toArray, List.set_cons_zero, List.set_cons_succ])
      refine wpAnyH_take (i := 1) (v := ?ev1) rfl (by kernel_rfl) (by kernel_rfl) (by kernel_rfl) (fun _ _ _ h => h) (Or.inl ⟨by rfl, ?ey1⟩) (by assumption) ?er1
      case ey1 =>
        intro wx hSw
        have hcell := BX.out _ hSw
        clear hSw
        go_simp
        first | done | (with_reducible rfl)
      (try simp only [Act.put, List.getElem_toArray, List.getElem_cons_succ, List.getElem_cons_zero, List.setIfInBounds_toArray, List.set_cons_zero, List.set_cons_succ])
      refine wpAnyH_take (i := 2) (v := ?ev2) rfl (by kernel_rfl) (by kernel_rfl) (by kernel_rfl) (fun _ _ _ h => h) (Or.inl ⟨by rfl, ?ey2⟩) (by assumption) ?er2
      case ey2 =>
        intro wx hSw
        clear hSw
        go_simp
        first | done | (with_reducible rfl)
      (try simp only [Act.put, List.getElem_toArray, List.getElem_cons_succ, List.getElem_cons_zero, List.setIfInBounds_toArray, List.set_cons_zero, List.set_cons_succ])
      refine wpAnyH_take (i := 3) (v := ?ev3) rfl (by kernel_rfl) (by kernel_rfl) (by kernel_rfl) (fun _ _ _ h => h) (Or.inl ⟨by rfl, ?ey3⟩) (by assumption) ?er3
      case ey3 =>
        intro wx hSw
        clear hSw
        go_simp
        first | done | (with_reducible rfl)
      (try simp only [Act.put, List.getElem_toArray, List.getElem_cons_succ, List.getElem_cons_zero, List.setIfInBounds_toArray, List.set_cons_zero, List.set_cons_succ])
      refine wpAnyH_take (i := 4) (v := ?ev4) rfl (by kernel_rfl) (by kernel_rfl) (by kernel_rfl) (fun _ _ _ h => h) (Or.inl ⟨by rfl, ?ey4⟩) (by assumption) ?er4
      case ey4 =>
        intro wx hSw
        have ⟨c0, c1, c2, c3, c4, c5, c6, c7, c8⟩ := CF.out _ hSw
        clear hSw
        go_simp
        first | done | (with_reducible rfl)
      (try simp only [Act.put, List.getElem_toArray, List.getElem_cons_succ, List.getElem_cons_zero, List.setIfInBounds_toArray, List.set_cons_zero, List.set_cons_succ])
      refine wpAnyH_take (i := 5) (v := ?ev5) rfl (by kernel_rfl) (by kernel_rfl) (by kernel_rfl) (fun _ _ _ h => h) (Or.inl ⟨by rfl, ?ey5⟩) (by assumption) ?er5
      case ey5 =>
        intro wx hSw
        clear hSw
        go_simp
        first | done | (with_reducible rfl)
      (try simp only [Act.put, List.getElem_toArray, List.getElem_cons_succ, List.getElem_cons_zero, List.setIfInBounds_toArray, List.set_cons_zero, List.set_cons_succ])
      refine wpAnyH_take (i := 6) (v := ?ev6) rfl (by kernel_rfl) (by kernel_rfl) (by kernel_rfl) (fun _ _ _ h => h) (Or.inl ⟨by rfl, ?ey6⟩) (by assumption) ?er6
      case ey6 =>
        intro wx hSw
        have hcell := BY.out _ hSw
        clear hSw
        go_simp
        first | done | (with_reducible rfl)
      (try simp only [Act.put, List.getElem_toArray, List.getElem_cons_succ, List.getElem_cons_zero, List.setIfInBounds_toArray, List.set_cons_zero, List.set_cons_succ])
      refine wpAnyH_take (i := 7) (v := ?ev7) rfl (by kernel_rfl) (by kernel_rfl) (by kernel_rfl) (fun _ _ _ h => h) (Or.inl ⟨by rfl, ?ey7⟩) (by assumption) ?er7
      case ey7 =>
        intro wx hSw
        clear hSw
        go_simp
        first | done | (with_reducible rfl)
      (try simp only [Act.put, List.getElem_toArray, List.getElem_cons_succ, List.getElem_cons_zero, List.setIfInBounds_toArray, List.set_cons_zero, List.set_cons_succ])
      refine wpAnyH_take (i := 8) (v := ?ev8) rfl (by kernel_rfl) (by kernel_rfl) (by kernel_rfl) (fun _ _ _ h => h) (Or.inl ⟨by rfl, ?ey8⟩) (by assumption) ?er8
      case ey8 =>
        intro wx hSw
        clear hSw
        go_simp
        first | done | (with_reducible rfl)
      (try simp only [Act.put, List.getElem_toArray, List.getElem_cons_succ, List.getElem_cons_zero, List.setIfInBounds_toArray, List.set_cons_zero, List.set_cons_succ])
      refine wpAnyH_take (i := 9) (v := ?ev9) rfl (by kernel_rfl) (by kernel_rfl) (by kernel_rfl) (fun _ _ _ h => h) (Or.inl ⟨by rfl, ?ey9⟩) (by assumption) ?er9
      case ey9 =>
        intro wx hSw
        have ⟨c0, c1, c2, c3, c4, c5, c6, c7, c8⟩ := CG.out _ hSw
        clear hSw
        go_simp
        first | done | (with_reducible rfl)
      (try simp only [Act.put, List.getElem_toArray, List.getElem_cons_succ, List.getElem_cons_zero, List.setIfInBounds_toArray, List.set_cons_zero, List.set_cons_succ])
      refine wpAnyH_ready (rs := [10]) (by kernel_rfl) (by simp) ?_
      refine AllReadyH.cons rfl (fun K hK => ?_) AllReadyH.nil
      go_simp
      go_at_call 13
      refine (HL.out _ (HS2.out.far (Afar.below hHeld)) (HS3.out.far (Afar.below hHeld))).mono ?_
      rintro e w1 ⟨rfl, hb⟩
      refine hK.out _ _ ?_ (fun hHeld1 => ?_)
      · exact hHeld.trans (hb.mono hHeld.size)
      clear hK K
      (try simp only [Act.put, List.getElem_toArray, List.getElem_cons_succ, List.getElem_cons_zero, List.setIfInBounds_toArray, List.set_cons_zero, List.set_cons_succ])
      refine wpAnyH_take (i := 11) (v := ?fv11) rfl (by kernel_rfl) (by kernel_rfl) (by kernel_rfl) (fun _ _ _ h => h) (Or.inl ⟨by rfl, ?fy11⟩) (by assumption) ?fr11
      case fy11 =>
        intro wx hSw
        clear hSw
        go_simp
        first | done | (with_reducible rfl)
      (try simp only [Act.put, List.getElem_toArray, List.getElem_cons_succ, List.getElem_cons_zero, List.setIfInBounds_toArray, List.set_cons_zero, List.set_cons_succ])
      refine wpAnyH_done (by kernel_rfl) ?_ _
      have HB1 := Lib.hid hHeld1
      clear hHeld hHeld1 hb
      go_wp2
      go_roundw
      case rel => exact ⟨k + 1, by omega, by go_num, HB1.out⟩
      case measure => simp [intOf]; omega
    · obtain rfl : k = f.len := by omega
      have bx : wr.cell? ⟨w.heap.size, 8, none⟩ = some (.slice ad f.len cap) := cell_of_row wr w.heap.size 8 _ _ _ ((HB.out.block _ (by have := HZ.out; omega)).trans HG0.out)
      go_wp2
      go_ret
      exact ⟨rfl, HX.out.trans (HB.out.mono (by have := HZ.out; omega))⟩
theorem same_all : ∀ (f : F) (i : Nat), i < f.len → SameOk (f.nth i).args
  | .nil, i, h => by cases h
  | .cons o s l h g a r, 0, hi => same_node a (same_all a)
  | .cons o s l h g a r, i + 1, hi => same_all r i (by have : i + 1 < r.len + 1 := hi; omega)
theorem same_any (f : F) : SameOk f := same_node f (same_all f)
end Go.Proofs.YtphiaagppcbefaaGreatDoor
