/- RsRefA. -/
import Derived.Test.YtfgcnknmiclfnaaDoorPb10
set_option linter.unusedVariables false
set_option linter.unusedSimpArgs false
set_option maxRecDepth 100000
set_option maxHeartbeats 8000000
namespace Go.Proofs.YtfgcnknmiclfnaaDoor
open Go.RowKit
def spF : F → Prop
  | .nil => True
  | .cons o _ _ _ _ a r => (o = 2 ∨ o = 3 ∨ o = 4) ∧ spF a ∧ spF r
theorem spF.nth : ∀ {f : F} (k : Nat), spF f → k < f.len → ((f.nth k).op = 2 ∨ (f.nth k).op = 3 ∨ (f.nth k).op = 4) ∧ spF (f.nth k).args
  | .nil, _, _, h => by cases h
  | .cons o s l h g a r, 0, hp, _ => ⟨hp.1, hp.2.1⟩
  | .cons o s l h g a r, k + 1, hp, hk => spF.nth (f := r) k hp.2.2 (by have : k + 1 < r.len + 1 := hk; omega)
def BackOk (f : F) : Prop := ∀ (o l h g : Int) (st : Nat → Bool) (sv : Value) (w : World) (S : Nat → Prop), SV w S f sv → f.len ≤ maxLen ∧ f.fits → spF f → (o = 2 ∨ o = 3 ∨ o = 4) →
  Calls Tryd.prog 30 #[.agg #[.int .i64 o, .int .u64 (wd st 0 64 : Nat), .int .u64 (wd st 64 64 : Nat), .int .u64 (wd st 128 64 : Nat), .int .u64 (wd st 192 64 : Nat), .int .i64 l, .int .i64 h, .int .i64 g, sv]] w fun e w' => e = .returned (.bool false) ∧ Below w.heap.size w w'
theorem back_node (f : F) (hch : ∀ i, i < f.len → BackOk (f.nth i).args) : BackOk f := by
  intro o l h g st sv w S hsv hft hpl ho
  have HSV := Lib.hid hsv
  have HCh := Lib.hid hch
  have HF := Lib.hid hft
  obtain ⟨ad, cap, rfl⟩ := slice_form hsv
  obtain ⟨W2, hW2⟩ : ∃ W2, W2 = w.alloc (.cells #[.int .i64 o, .int .u64 (wd st 0 64 : Nat), .int .u64 (wd st 64 64 : Nat), .int .u64 (wd st 128 64 : Nat), .int .u64 (wd st 192 64 : Nat), .int .i64 l, .int .i64 h, .int .i64 g, .slice ad f.len cap] 55) := ⟨_, rfl⟩
  have hx : Below w.heap.size w W2 := by rw [hW2]; exact (Below.refl _ _).alloc (Nat.le_refl _) _
  have hz2 : W2.heap.size = w.heap.size + 1 := by rw [hW2]; simp
  have hg0 : W2.heap[w.heap.size]? = some (.cells #[.int .i64 o, .int .u64 (wd st 0 64 : Nat), .int .u64 (wd st 64 64 : Nat), .int .u64 (wd st 128 64 : Nat), .int .u64 (wd st 192 64 : Nat), .int .i64 l, .int .i64 h, .int .i64 g, .slice ad f.len cap] 55 (0, 0)) := by
    rw [hW2]
    exact heap_alloc_new w _
  have HX := Lib.hid hx
  have HG0 := Lib.hid hg0
  have HZ := Lib.hid hz2
  have HW2 := Lib.hid hW2
  have BX : Hid (∀ wx, Below W2.heap.size W2 wx → Below w.heap.size w wx ∧ wx.cell? ⟨w.heap.size, 0, none⟩ = some (.int .i64 o) ∧ wx.cell? ⟨w.heap.size, 8, none⟩ = some (.slice ad f.len cap)) := Lib.hid fun wx hb => by
    have hr := (hb.block _ (by have := HZ.out; omega)).trans HG0.out
    exact ⟨HX.out.trans (hb.mono HX.out.size), cell_of_row wx w.heap.size 0 _ _ _ hr, cell_of_row wx w.heap.size 8 _ _ _ hr⟩
  clear hsv hch hft hx hz2 hg0 hW2
  have hfl : (f.len : Int) ≤ 9223372036854775807 := by have := HF.out.1; unfold maxLen at this; omega
  go_enter Tryd.func30, Tryd.ntmps30
  have ho9 : (o == 9) = false := by rcases ho with rfl | rfl | rfl <;> rfl
  clear ho
  have HPl := Lib.hid hpl
  have a0 : W2.cell? ⟨w.heap.size, 0, none⟩ = some (.int .i64 o) := (BX.out W2 (Below.refl _ _)).2.1
  go_upto_region 1 with fail
  rw [← HW2.out]
  go_wp2_with fail
  go_loopw [3] (fun i wr => ∃ (k : Nat), k ≤ f.len ∧ i = .int .i64 k ∧ Hid (Below W2.heap.size W2 wr)) (fun i _ => f.len - (intOf i).toNat)
  case atStart => exact ⟨0, Nat.zero_le _, rfl, Lib.hid (Below.refl _ _)⟩
  case round =>
    obtain ⟨k, hk, rfl, HB⟩ := hrel
    obtain ⟨hbw, _, bx⟩ := BX.out wr HB.out
    have HBW := Lib.hid hbw
    clear hbw a0
    by_cases hkn : k < f.len
    · have ki : (k : Int) < f.len := by omega
      have ki0 : (0 : Int) ≤ k := by omega
      obtain ⟨b, i0, ad2, cp2, rfl, hsv2, c0, c1, c2, c3, c4, c5, c6, c7, c8⟩ := kid HSV.out (Afar.below HBW.out) k hkn
      have HS2 := Lib.hid hsv2
      clear hsv2
      have HL := Lib.hid (fun W hW => HCh.out k hkn (f.nth k).op (f.nth k).lo (f.nth k).hi (f.nth k).g (f.nth k).st (.slice ad2 (f.nth k).args.len cp2) W S hW (F.fits_nth k HF.out.2 hkn) (HPl.out.nth k hkn).2 (HPl.out.nth k hkn).1)
      go_wp2_with (first
          | (go_at_call 30; (with_reducible refine (HL.out _ HS2.out).mono ?_); rintro e w2 ⟨rfl, hb⟩; have HB1 := Lib.hid (HB.out.trans (hb.mono HB.out.size)); clear hb bx c0 c1 c2 c3 c4 c5 c6 c7 c8))
      go_roundw
      case rel => exact ⟨k + 1, by omega, by go_num, HB1⟩
      case measure => simp [intOf]; omega
    · obtain rfl : k = f.len := by omega
      go_wp2_with fail
      go_ret
      exact ⟨rfl, HBW.out⟩
theorem back_all : ∀ (f : F) (i : Nat), i < f.len → BackOk (f.nth i).args
  | .nil, i, h => by cases h
  | .cons o s l h g a r, 0, hi => back_node a (back_all a)
  | .cons o s l h g a r, i + 1, hi => back_all r i (by have : i + 1 < r.len + 1 := hi; omega)
theorem back_pl (f : F) : BackOk f := back_node f (back_all f)
theorem limited_any (n : Nat) (hn : n ≤ 4096) (w : World) : Calls Tryd.prog 76 #[.int .i64 (n : Int)] w fun e w' => e = .returned (.int .i64 (n : Int)) ∧ w' = w := by
  have h1 : ¬ ((4096 : Int) < (n : Int)) := by omega
  go_enter Tryd.func76, Tryd.ntmps76
  go_wp2
  go_ret
  exact ⟨rfl, rfl⟩
def GrownOk (f : F) : Prop := ∀ (o l h g : Int) (st : Nat → Bool) (sv : Value) (w : World) (S : Nat → Prop), SV w S f sv → f.len ≤ maxLen ∧ f.fits → spF f → (o = 2 ∨ o = 3 ∨ o = 4) → szF f + 1 ≤ 4096 →
  Calls Tryd.prog 50 #[.agg #[.int .i64 o, .int .u64 (wd st 0 64 : Nat), .int .u64 (wd st 64 64 : Nat), .int .u64 (wd st 128 64 : Nat), .int .u64 (wd st 192 64 : Nat), .int .i64 l, .int .i64 h, .int .i64 g, sv]] w fun e w' => e = .returned (.int .i64 ((szF f + 1 : Nat) : Int)) ∧ Below w.heap.size w w'
theorem grown_node (f : F) (hch : ∀ i, i < f.len → GrownOk (f.nth i).args) : GrownOk f := by
  intro o l h g st sv w S hsv hft hpl ho hbd
  have HSV := Lib.hid hsv
  have HCh := Lib.hid hch
  have HF := Lib.hid hft
  obtain ⟨ad, cap, rfl⟩ := slice_form hsv
  obtain ⟨W2, hW2⟩ : ∃ W2, W2 = w.alloc (.cells #[.int .i64 o, .int .u64 (wd st 0 64 : Nat), .int .u64 (wd st 64 64 : Nat), .int .u64 (wd st 128 64 : Nat), .int .u64 (wd st 192 64 : Nat), .int .i64 l, .int .i64 h, .int .i64 g, .slice ad f.len cap] 55) := ⟨_, rfl⟩
  have hx : Below w.heap.size w W2 := by rw [hW2]; exact (Below.refl _ _).alloc (Nat.le_refl _) _
  have hz2 : W2.heap.size = w.heap.size + 1 := by rw [hW2]; simp
  have hg0 : W2.heap[w.heap.size]? = some (.cells #[.int .i64 o, .int .u64 (wd st 0 64 : Nat), .int .u64 (wd st 64 64 : Nat), .int .u64 (wd st 128 64 : Nat), .int .u64 (wd st 192 64 : Nat), .int .i64 l, .int .i64 h, .int .i64 g, .slice ad f.len cap] 55 (0, 0)) := by
    rw [hW2]
    exact heap_alloc_new w _
  have HX := Lib.hid hx
  have HG0 := Lib.hid hg0
  have HZ := Lib.hid hz2
  have HW2 := Lib.hid hW2
  have BX : Hid (∀ wx, Below W2.heap.size W2 wx → Below w.heap.size w wx ∧ wx.cell? ⟨w.heap.size, 0, none⟩ = some (.int .i64 o) ∧ wx.cell? ⟨w.heap.size, 8, none⟩ = some (.slice ad f.len cap)) := Lib.hid fun wx hb => by
    have hr := (hb.block _ (by have := HZ.out; omega)).trans HG0.out
    exact ⟨HX.out.trans (hb.mono HX.out.size), cell_of_row wx w.heap.size 0 _ _ _ hr, cell_of_row wx w.heap.size 8 _ _ _ hr⟩
  clear hsv hch hft hx hz2 hg0 hW2
  have hfl : (f.len : Int) ≤ 9223372036854775807 := by have := HF.out.1; unfold maxLen at this; omega
  go_enter Tryd.func50, Tryd.ntmps50
  have ho5 : (o != 5) = true := by rcases ho with rfl | rfl | rfl <;> rfl
  have ho6 : ¬ o = 5 := by rcases ho with rfl | rfl | rfl <;> decide
  clear ho
  have HPl := Lib.hid hpl
  have HLm := Lib.hid (fun (n : Nat) (hn : n ≤ 4096) (w : World) => limited_any n hn w)
  go_upto_region 1 with fail
  rw [← HW2.out]
  go_wp2_with fail
  go_loopw [3, 4] (fun n i wr => ∃ (k m : Nat), k ≤ f.len ∧ i = .int .i64 k ∧ n = .int .i64 m ∧ m + szF (f.drop k) = szF f ∧ Hid (Below W2.heap.size W2 wr)) (fun _ i _ => f.len - (intOf i).toNat)
  case atStart => exact ⟨0, 0, Nat.zero_le _, rfl, rfl, by (have : f.drop 0 = f := by cases f <;> rfl); rw [this]; omega, Lib.hid (Below.refl _ _)⟩
  case round =>
    obtain ⟨k, m, hk, rfl, rfl, hm, HB⟩ := hrel
    obtain ⟨hbw, a0, bx⟩ := BX.out wr HB.out
    have HBW := Lib.hid hbw
    clear hbw
    by_cases hkn : k < f.len
    · have ki : (k : Int) < f.len := by omega
      have ki0 : (0 : Int) ≤ k := by omega
      obtain ⟨b, i0, ad2, cp2, rfl, hsv2, c0, c1, c2, c3, c4, c5, c6, c7, c8⟩ := kid HSV.out (Afar.below HBW.out) k hkn
      have HS2 := Lib.hid hsv2
      clear hsv2 a0
      have hst := sz_step f k hkn
      rw [hst] at hm
      have hz2 : szF (f.nth k).args + 1 ≤ 4096 := by have := sz_nth f k hkn; omega
      have HL := Lib.hid (fun W hW => HCh.out k hkn (f.nth k).op (f.nth k).lo (f.nth k).hi (f.nth k).g (f.nth k).st (.slice ad2 (f.nth k).args.len cp2) W S hW (F.fits_nth k HF.out.2 hkn) (HPl.out.nth k hkn).2 (HPl.out.nth k hkn).1 hz2)
      have hwr : IntKind.i64.wrap ((m : Int) + ((szF (f.nth k).args + 1 : Nat) : Int)) = ((m + (szF (f.nth k).args + 1) : Nat) : Int) := by rw [IntKind.wrap_i64]; omega
      have HLm2 := Lib.hid (fun w => HLm.out (m + (szF (f.nth k).args + 1)) (by omega) w)
      generalize hZ : szF (f.nth k).args = Z at *
      clear hZ hst
      go_wp2_with (first
          | (go_at_call 50; (with_reducible refine (HL.out _ HS2.out).mono ?_); rintro e w2 ⟨rfl, hb⟩; have HB1 := Lib.hid (HB.out.trans (hb.mono HB.out.size)); clear hb bx c0 c1 c2 c3 c4 c5 c6 c7 c8)
          | (go_at_call 76; (refine (HLm2.out _).mono ?_); rintro e w3 ⟨rfl, rfl⟩))
      go_roundw
      case rel => exact ⟨k + 1, m + (Z + 1), by omega, by go_num, by first | rfl | (congr 1; omega), by omega, HB1⟩
      case measure => simp [intOf]; omega
    · obtain rfl : k = f.len := by omega
      rw [F.drop_len] at hm
      have hm : m = szF f := hm
      have hwr : IntKind.i64.wrap ((m : Int) + 1) = ((m + 1 : Nat) : Int) := by rw [IntKind.wrap_i64]; omega
      have HLm2 := Lib.hid (fun w => HLm.out (m + 1) (by omega) w)
      have HM := Lib.hid hm
      clear hm
      go_wp2_with (first
          | (go_at_call 76; (refine (HLm2.out _).mono ?_); rintro e w3 ⟨rfl, rfl⟩))
      go_ret
      refine ⟨congrArg (fun z : Int => Ending.returned (Value.int .i64 z)) (?_ : _ = ((szF f + 1 : Nat) : Int)), HBW.out⟩
      have := HM.out
      omega
theorem grown_all : ∀ (f : F) (i : Nat), i < f.len → GrownOk (f.nth i).args
  | .nil, i, h => by cases h
  | .cons o s l h g a r, 0, hi => grown_node a (grown_all a)
  | .cons o s l h g a r, i + 1, hi => grown_all r i (by have : i + 1 < r.len + 1 := hi; omega)
theorem grown_pl (f : F) : GrownOk f := grown_node f (grown_all f)
end Go.Proofs.YtfgcnknmiclfnaaDoor
