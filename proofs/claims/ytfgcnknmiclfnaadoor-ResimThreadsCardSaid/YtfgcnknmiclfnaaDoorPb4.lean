/- RbD. -/
import Derived.Test.YtfgcnknmiclfnaaDoorPb2
import Derived.Test.YtfgcnknmiclfnaaDoorPb3
import Derived.Deep.Cut
import Derived.Deep.CutRange
import Derived.Deep.DeepCutAuto
import Derived.Deep.QuietTactic
import Derived.RegionTactic
import Derived.ChangeAlike
set_option linter.unusedVariables false
set_option linter.unusedSimpArgs false
set_option maxRecDepth 100000
set_option maxHeartbeats 8000000
namespace Go.Proofs.YtfgcnknmiclfnaaDoor
open Go.RowKit
theorem kid {w wr : World} {S : Nat → Prop} {f : F} {ad : Option Addr} {cap : Nat} (h : SV w S f (.slice ad f.len cap)) (hf : Afar S S w wr) (k : Nat) (hk : k < f.len) :
    ∃ b i0 ad2 cp2, ad = some ⟨b, i0, none⟩ ∧ SV wr S (f.nth k).args (.slice ad2 (f.nth k).args.len cp2) ∧ wr.cell? ⟨b, i0 + k * 9, none⟩ = some (.int .i64 (f.nth k).op) ∧ wr.cell? ⟨b, i0 + k * 9 + 1, none⟩ = some (.int .u64 (wd (f.nth k).st 0 64 : Nat)) ∧ wr.cell? ⟨b, i0 + k * 9 + 2, none⟩ = some (.int .u64 (wd (f.nth k).st 64 64 : Nat)) ∧ wr.cell? ⟨b, i0 + k * 9 + 3, none⟩ = some (.int .u64 (wd (f.nth k).st 128 64 : Nat)) ∧ wr.cell? ⟨b, i0 + k * 9 + 4, none⟩ = some (.int .u64 (wd (f.nth k).st 192 64 : Nat)) ∧ wr.cell? ⟨b, i0 + k * 9 + 5, none⟩ = some (.int .i64 (f.nth k).lo) ∧ wr.cell? ⟨b, i0 + k * 9 + 6, none⟩ = some (.int .i64 (f.nth k).hi) ∧ wr.cell? ⟨b, i0 + k * 9 + 7, none⟩ = some (.int .i64 (f.nth k).g) ∧ wr.cell? ⟨b, i0 + k * 9 + 8, none⟩ = some (.slice ad2 (f.nth k).args.len cp2) := by
  obtain ⟨zs, ad', cap', e, _, hfv, hcells⟩ := h.far hf
  cases e
  obtain ⟨b, i0, rfl, _, _, hce⟩ : ∃ b i, ad = some ⟨b, i, none⟩ ∧ S b ∧ b < wr.heap.size ∧ ∀ j u, zs[j]? = some u → wr.cell? ⟨b, i + j, none⟩ = some u := by
    rcases hcells with h0 | h0
    · omega
    · exact h0
  obtain ⟨sv2, hsv2, hrow⟩ := FV.nth k hfv hk
  obtain ⟨ad2, cp2, rfl⟩ := slice_form hsv2
  have hcell : ∀ j u, (rowV (f.nth k).op (f.nth k).st (f.nth k).lo (f.nth k).hi (f.nth k).g (.slice ad2 (f.nth k).args.len cp2))[j]? = some u → wr.cell? ⟨b, i0 + k * 9 + j, none⟩ = some u := fun j u hu => by
    rw [Nat.add_assoc]
    exact hce _ u (hrow j u hu)
  exact ⟨b, i0, ad2, cp2, rfl, hsv2, hcell 0 _ rfl, hcell 1 _ rfl, hcell 2 _ rfl, hcell 3 _ rfl, hcell 4 _ rfl, hcell 5 _ rfl, hcell 6 _ rfl, hcell 7 _ rfl, hcell 8 _ rfl⟩
theorem F.fits_kid : ∀ {f : F} (k : Nat), f.fits → k < f.len → (f.nth k).args.len ≤ maxLen ∧ (f.nth k).args.fits ∧ -9223372036854775808 ≤ (f.nth k).g ∧ (f.nth k).g ≤ 9223372036854775807
  | .nil, _, _, h => by cases h
  | .cons o s l h g a r, 0, hf, _ => ⟨hf.2.1, hf.2.2.1, hf.1.2.2.2⟩
  | .cons o s l h g a r, k + 1, hf, hk => F.fits_kid (f := r) k hf.2.2.2 (by have : k + 1 < r.len + 1 := hk; omega)
theorem counted_any (o l h g : Int) (st : Nat → Bool) (sv : Value) (w : World) : Calls Tryd.prog 74 #[.agg #[.int .i64 o, .int .u64 (wd st 0 64 : Nat), .int .u64 (wd st 64 64 : Nat), .int .u64 (wd st 128 64 : Nat), .int .u64 (wd st 192 64 : Nat), .int .i64 l, .int .i64 h, .int .i64 g, sv]] w fun e w' => e = .returned (.bool (bndT l h)) ∧ Below w.heap.size w w' := by
  go_enter Tryd.func74, Tryd.ntmps74
  go_wp2
  all_goals go_ret
  all_goals refine ⟨?_, (Below.refl _ _).alloc (Nat.le_refl _) _⟩
  all_goals (unfold bndT; congr 2; simp only [decide_eq_true_eq, *]; first | rfl | (simp; omega) | omega | simp_all)
theorem shaped_any (o l h g : Int) (st : Nat → Bool) (n : Nat) (ad : Option Addr) (cap : Nat) (w : World) : Calls Tryd.prog 73 #[.agg #[.int .i64 o, .int .u64 (wd st 0 64 : Nat), .int .u64 (wd st 64 64 : Nat), .int .u64 (wd st 128 64 : Nat), .int .u64 (wd st 192 64 : Nat), .int .i64 l, .int .i64 h, .int .i64 g, .slice ad n cap]] w fun e w' => e = .returned (.bool (fldT o st l h g n)) ∧ Below w.heap.size w w' := by
  cases hs : eqc st noSet
  all_goals (first | have hcmp := cmp_full hs | have hcmp := cmp_none hs)
  all_goals
    (go_enter Tryd.func73, Tryd.ntmps73
     go_wp2_with fail)
  all_goals go_ret
  all_goals refine ⟨?_, (Below.refl _ _).alloc (Nat.le_refl _) _⟩
  all_goals (unfold fldT havT; congr 2; simp_all [beq_dec] <;> omega)
def TypOk (f : F) : Prop := ∀ (o l h g : Int) (st : Nat → Bool) (sv : Value) (w : World) (S : Nat → Prop), SV w S f sv → f.len ≤ maxLen ∧ f.fits →
  Calls Tryd.prog 44 #[.agg #[.int .i64 o, .int .u64 (wd st 0 64 : Nat), .int .u64 (wd st 64 64 : Nat), .int .u64 (wd st 128 64 : Nat), .int .u64 (wd st 192 64 : Nat), .int .i64 l, .int .i64 h, .int .i64 g, sv]] w fun e w' => e = .returned (.bool (fldT o st l h g f.len && typF f)) ∧ Below w.heap.size w w'
theorem typF_step (f : F) (k : Nat) (hk : k < f.len) : typF (f.drop k) = (fldT (f.nth k).op (f.nth k).st (f.nth k).lo (f.nth k).hi (f.nth k).g (f.nth k).args.len && typF (f.nth k).args && typF (f.drop (k + 1))) := by
  rw [F.drop_step f k hk, typF, Bool.and_assoc]
theorem typ_node (f : F) (hch : ∀ i, i < f.len → TypOk (f.nth i).args) : TypOk f := by
  intro o l h g st sv w S hsv hft
  have HSV := Lib.hid hsv
  have HCh := Lib.hid hch
  have HF := Lib.hid hft
  obtain ⟨ad, cap, rfl⟩ := slice_form hsv
  obtain ⟨W2, hW2⟩ : ∃ W2, W2 = w.alloc (.cells #[.int .i64 o, .int .u64 (wd st 0 64 : Nat), .int .u64 (wd st 64 64 : Nat), .int .u64 (wd st 128 64 : Nat), .int .u64 (wd st 192 64 : Nat), .int .i64 l, .int .i64 h, .int .i64 g, .slice ad f.len cap] 55) := ⟨_, rfl⟩
  have hx : Below w.heap.size w W2 := by rw [hW2]; exact (Below.refl _ _).alloc (Nat.le_refl _) _
  have hz2 : W2.heap.size = w.heap.size + 1 := by rw [hW2]; simp
  have hg0 : W2.heap[w.heap.size]? = some (.cells #[.int .i64 o, .int .u64 (wd st 0 64 : Nat), .int .u64 (wd st 64 64 : Nat), .int .u64 (wd st 128 64 : Nat), .int .u64 (wd st 192 64 : Nat), .int .i64 l, .int .i64 h, .int .i64 g, .slice ad f.len cap] 55 (0, 0)) := by
    rw [hW2]
    exact heap_alloc_new w _
  have HX := Lib.hid hx
  have HG0 := Lib.hid hg0
  have HZ := Lib.hid hz2
  have HW2 := Lib.hid hW2
  have BX : Hid (∀ wx, Below W2.heap.size W2 wx → Below w.heap.size w wx ∧ wx.cell? ⟨w.heap.size, 0, none⟩ = some (.int .i64 o) ∧ wx.cell? ⟨w.heap.size, 7, none⟩ = some (.int .i64 g) ∧ wx.cell? ⟨w.heap.size, 8, none⟩ = some (.slice ad f.len cap)) := Lib.hid fun wx hb => by
    have hr := (hb.block _ (by have := HZ.out; omega)).trans HG0.out
    exact ⟨HX.out.trans (hb.mono HX.out.size), cell_of_row wx w.heap.size 0 _ _ _ hr, cell_of_row wx w.heap.size 7 _ _ _ hr, cell_of_row wx w.heap.size 8 _ _ _ hr⟩
  clear hsv hch hft hx hz2 hg0 hW2
  have hfl : (f.len : Int) ≤ 9223372036854775807 := by have := HF.out.1; unfold maxLen at this; omega
  have HFn := Lib.hid fun W => shaped_any o l h g st f.len ad cap W
  generalize hC0 : fldT o st l h g f.len = C0 at HFn ⊢
  clear hC0
  cases C0
  · go_enter Tryd.func44, Tryd.ntmps44
    go_wp2_with (first
      | (go_at_call 73; (with_reducible refine (HFn.out _).mono ?_); rintro e w1 ⟨rfl, hb⟩
         have HB1 := Lib.hid (HX.out.trans ((show Below W2.heap.size W2 w1 by rw [HW2.out]; exact hb).mono HX.out.size)); clear hb))
    go_ret
    exact ⟨rfl, HB1.out⟩
  go_enter Tryd.func44, Tryd.ntmps44
  go_wp2_with (first
    | (go_at_call 73; (with_reducible refine (HFn.out _).mono ?_); rintro e w1 ⟨rfl, hb⟩
       have HB1 := Lib.hid (show Below W2.heap.size W2 w1 by rw [HW2.out]; exact hb); clear hb))
  go_loopw [3] (fun i wr => ∃ k : Nat, k ≤ f.len ∧ i = .int .i64 k ∧ Hid (Below W2.heap.size W2 wr ∧ typF f = typF (f.drop k))) (fun i _ => f.len - (intOf i).toNat)
  case atStart => exact ⟨0, Nat.zero_le _, rfl, Lib.hid ⟨HB1.out, by cases f <;> rfl⟩⟩
  case round =>
    obtain ⟨k, hk, rfl, HB⟩ := hrel
    obtain ⟨hbw, _, _, bx⟩ := BX.out wr HB.out.1
    have HBW := Lib.hid hbw
    clear hbw
    by_cases hkn : k < f.len
    · have ki : (k : Int) < f.len := by omega
      have ki0 : (0 : Int) ≤ k := by omega
      obtain ⟨b, i0, ad2, cp2, rfl, hsv2, c0, c1, c2, c3, c4, c5, c6, c7, c8⟩ := kid HSV.out (Afar.below HBW.out) k hkn
      have HS2 := Lib.hid hsv2
      clear hsv2
      have HL := Lib.hid (fun W hW => HCh.out k hkn (f.nth k).op (f.nth k).lo (f.nth k).hi (f.nth k).g (f.nth k).st (.slice ad2 (f.nth k).args.len cp2) W S hW (F.fits_nth k HF.out.2 hkn))
      have HSt : Hid (typF f = (fldT (f.nth k).op (f.nth k).st (f.nth k).lo (f.nth k).hi (f.nth k).g (f.nth k).args.len && typF (f.nth k).args && typF (f.drop (k + 1)))) := Lib.hid (HB.out.2.trans (typF_step f k hkn))
      obtain ⟨B, hB⟩ : ∃ B, B = (fldT (f.nth k).op (f.nth k).st (f.nth k).lo (f.nth k).hi (f.nth k).g (f.nth k).args.len && typF (f.nth k).args) := ⟨_, rfl⟩
      rw [← hB] at HSt HL
      clear hB
      cases B
      · go_wp2_with (first
          | (go_at_call 44; (with_reducible refine (HL.out _ HS2.out).mono ?_); rintro e w2 ⟨rfl, hb⟩; have HB1 := Lib.hid (HB.out.1.trans (hb.mono HB.out.1.size)); clear hb bx c0 c1 c2 c3 c4 c5 c6 c7 c8))
        go_ret
        rw [HSt.out]
        exact ⟨rfl, HX.out.trans (HB1.out.mono HX.out.size)⟩
      · go_wp2_with (first
          | (go_at_call 44; (with_reducible refine (HL.out _ HS2.out).mono ?_); rintro e w2 ⟨rfl, hb⟩; have HB1 := Lib.hid (HB.out.1.trans (hb.mono HB.out.1.size)); clear hb bx c0 c1 c2 c3 c4 c5 c6 c7 c8))
        go_roundw
        case rel => exact ⟨k + 1, by omega, by go_num, Lib.hid ⟨HB1.out, by rw [HSt.out]; rfl⟩⟩
        case measure => simp [intOf]; omega
    · obtain rfl : k = f.len := by omega
      have hd := HB.out.2
      rw [F.drop_len] at hd
      have HD := Lib.hid hd
      clear hd
      go_wp2_with fail
      go_ret
      rw [HD.out]
      exact ⟨rfl, HBW.out⟩
theorem typ_all : ∀ (f : F) (i : Nat), i < f.len → TypOk (f.nth i).args
  | .nil, i, h => by cases h
  | .cons o s l h g a r, 0, hi => typ_node a (typ_all a)
  | .cons o s l h g a r, i + 1, hi => typ_all r i (by have : i + 1 < r.len + 1 := hi; omega)
theorem typ_any (f : F) : TypOk f := typ_node f (typ_all f)
def SizOk (f : F) : Prop := ∀ (o l h g : Int) (st : Nat → Bool) (sv : Value) (w : World) (S : Nat → Prop), SV w S f sv → f.len ≤ maxLen ∧ f.fits → szF f ≤ 2000000 →
  Calls Tryd.prog 47 #[.agg #[.int .i64 o, .int .u64 (wd st 0 64 : Nat), .int .u64 (wd st 64 64 : Nat), .int .u64 (wd st 128 64 : Nat), .int .u64 (wd st 192 64 : Nat), .int .i64 l, .int .i64 h, .int .i64 g, sv]] w fun e w' => e = .returned (.int .i64 ((szF f + 1 : Nat) : Int)) ∧ Below w.heap.size w w'
theorem sz_step (f : F) (k : Nat) (hk : k < f.len) : szF (f.drop k) = szF (f.nth k).args + 1 + szF (f.drop (k + 1)) := by
  rw [F.drop_step f k hk, szF]
theorem sz_nth : ∀ (f : F) (k : Nat), k < f.len → szF (f.nth k).args + 1 ≤ szF f
  | .nil, _, h => by cases h
  | .cons o s l h g a r, 0, _ => by show szF a + 1 ≤ szF a + 1 + szF r; omega
  | .cons o s l h g a r, k + 1, hk => by have := sz_nth r k (by have : k + 1 < r.len + 1 := hk; omega); show szF (r.nth k).args + 1 ≤ szF a + 1 + szF r; omega
theorem siz_node (f : F) (hch : ∀ i, i < f.len → SizOk (f.nth i).args) : SizOk f := by
  intro o l h g st sv w S hsv hft hbd
  have HSV := Lib.hid hsv
  have HCh := Lib.hid hch
  have HF := Lib.hid hft
  obtain ⟨ad, cap, rfl⟩ := slice_form hsv
  obtain ⟨W2, hW2⟩ : ∃ W2, W2 = w.alloc (.cells #[.int .i64 o, .int .u64 (wd st 0 64 : Nat), .int .u64 (wd st 64 64 : Nat), .int .u64 (wd st 128 64 : Nat), .int .u64 (wd st 192 64 : Nat), .int .i64 l, .int .i64 h, .int .i64 g, .slice ad f.len cap] 55) := ⟨_, rfl⟩
  have hx : Below w.heap.size w W2 := by rw [hW2]; exact (Below.refl _ _).alloc (Nat.le_refl _) _
  have hz2 : W2.heap.size = w.heap.size + 1 := by rw [hW2]; simp
  have hg0 : W2.heap[w.heap.size]? = some (.cells #[.int .i64 o, .int .u64 (wd st 0 64 : Nat), .int .u64 (wd st 64 64 : Nat), .int .u64 (wd st 128 64 : Nat), .int .u64 (wd st 192 64 : Nat), .int .i64 l, .int .i64 h, .int .i64 g, .slice ad f.len cap] 55 (0, 0)) := by
    rw [hW2]
    exact heap_alloc_new w _
  have HX := Lib.hid hx
  have HG0 := Lib.hid hg0
  have HZ := Lib.hid hz2
  have HW2 := Lib.hid hW2
  have BX : Hid (∀ wx, Below W2.heap.size W2 wx → Below w.heap.size w wx ∧ wx.cell? ⟨w.heap.size, 0, none⟩ = some (.int .i64 o) ∧ wx.cell? ⟨w.heap.size, 7, none⟩ = some (.int .i64 g) ∧ wx.cell? ⟨w.heap.size, 8, none⟩ = some (.slice ad f.len cap)) := Lib.hid fun wx hb => by
    have hr := (hb.block _ (by have := HZ.out; omega)).trans HG0.out
    exact ⟨HX.out.trans (hb.mono HX.out.size), cell_of_row wx w.heap.size 0 _ _ _ hr, cell_of_row wx w.heap.size 7 _ _ _ hr, cell_of_row wx w.heap.size 8 _ _ _ hr⟩
  clear hsv hch hft hx hz2 hg0 hW2
  have hfl : (f.len : Int) ≤ 9223372036854775807 := by have := HF.out.1; unfold maxLen at this; omega
  go_enter Tryd.func47, Tryd.ntmps47
  go_wp2_with fail
  go_loopw [3, 4] (fun n i wr => ∃ (k m : Nat), k ≤ f.len ∧ i = .int .i64 k ∧ n = .int .i64 m ∧ m + szF (f.drop k) = szF f + 1 ∧ Hid (Below W2.heap.size W2 wr)) (fun _ i _ => f.len - (intOf i).toNat)
  case atStart => exact ⟨0, 1, Nat.zero_le _, rfl, rfl, by (have : f.drop 0 = f := by cases f <;> rfl); rw [this]; omega, by rw [HW2.out]; exact Lib.hid (Below.refl _ _)⟩
  case round =>
    obtain ⟨k, m, hk, rfl, rfl, hm, HB⟩ := hrel
    obtain ⟨hbw, _, _, bx⟩ := BX.out wr HB.out
    have HBW := Lib.hid hbw
    clear hbw
    by_cases hkn : k < f.len
    · have ki : (k : Int) < f.len := by omega
      have ki0 : (0 : Int) ≤ k := by omega
      obtain ⟨b, i0, ad2, cp2, rfl, hsv2, c0, c1, c2, c3, c4, c5, c6, c7, c8⟩ := kid HSV.out (Afar.below HBW.out) k hkn
      have HS2 := Lib.hid hsv2
      clear hsv2
      have hst := sz_step f k hkn
      rw [hst] at hm
      have hz2 : szF (f.nth k).args ≤ 2000000 := by have := sz_nth f k hkn; omega
      have HL := Lib.hid (fun W hW => HCh.out k hkn (f.nth k).op (f.nth k).lo (f.nth k).hi (f.nth k).g (f.nth k).st (.slice ad2 (f.nth k).args.len cp2) W S hW (F.fits_nth k HF.out.2 hkn) hz2)
      have hwr : IntKind.i64.wrap ((m : Int) + ((szF (f.nth k).args + 1 : Nat) : Int)) = ((m + (szF (f.nth k).args + 1) : Nat) : Int) := by rw [IntKind.wrap_i64]; omega
      generalize hZ : szF (f.nth k).args = Z at *
      clear hZ hst
      go_wp2_with (first
          | (go_at_call 47; (with_reducible refine (HL.out _ HS2.out).mono ?_); rintro e w2 ⟨rfl, hb⟩; have HB1 := Lib.hid (HB.out.trans (hb.mono HB.out.size)); clear hb bx c0 c1 c2 c3 c4 c5 c6 c7 c8))
      go_roundw
      case rel => exact ⟨k + 1, m + (Z + 1), by omega, by go_num, by first | rfl | (congr 1; omega), by omega, HB1⟩
      case measure => simp [intOf]; omega
    · obtain rfl : k = f.len := by omega
      rw [F.drop_len] at hm
      go_wp2_with fail
      go_ret
      refine ⟨?_, HBW.out⟩
      have : m = szF f + 1 := hm
      rw [this]
      rfl
theorem siz_all : ∀ (f : F) (i : Nat), i < f.len → SizOk (f.nth i).args
  | .nil, i, h => by cases h
  | .cons o s l h g a r, 0, hi => siz_node a (siz_all a)
  | .cons o s l h g a r, i + 1, hi => siz_all r i (by have : i + 1 < r.len + 1 := hi; omega)
theorem siz_any (f : F) : SizOk f := siz_node f (siz_all f)
def GrpOk (f : F) : Prop := ∀ (o l h g : Int) (st : Nat → Bool) (sv : Value) (w : World) (S : Nat → Prop), SV w S f sv → f.len ≤ maxLen ∧ f.fits → szF f ≤ 2000000 →
  Calls Tryd.prog 48 #[.agg #[.int .i64 o, .int .u64 (wd st 0 64 : Nat), .int .u64 (wd st 64 64 : Nat), .int .u64 (wd st 128 64 : Nat), .int .u64 (wd st 192 64 : Nat), .int .i64 l, .int .i64 h, .int .i64 g, sv]] w fun e w' => e = .returned (.int .i64 (((if o = 6 then 1 else 0) + grF f : Nat) : Int)) ∧ Below w.heap.size w w'
theorem gr_step (f : F) (k : Nat) (hk : k < f.len) : grF (f.drop k) = (if (f.nth k).op = 6 then 1 else 0) + grF (f.nth k).args + grF (f.drop (k + 1)) := by
  rw [F.drop_step f k hk, grF, Nat.add_assoc]
theorem gr_sz : ∀ f : F, grF f ≤ szF f
  | .nil => Nat.le_refl _
  | .cons o s l h g a r => by
    have h1 := gr_sz a
    have h2 := gr_sz r
    show (if o = 6 then 1 else 0) + (grF a + grF r) ≤ szF a + 1 + szF r
    split <;> omega
theorem grp_6 (f : F) (hch : ∀ i, i < f.len → GrpOk (f.nth i).args) (l h g : Int) (st : Nat → Bool) (sv : Value) (w : World) (S : Nat → Prop) (hsv : SV w S f sv) (hft : f.len ≤ maxLen ∧ f.fits) (hbd : szF f ≤ 2000000) :
    Calls Tryd.prog 48 #[.agg #[.int .i64 6, .int .u64 (wd st 0 64 : Nat), .int .u64 (wd st 64 64 : Nat), .int .u64 (wd st 128 64 : Nat), .int .u64 (wd st 192 64 : Nat), .int .i64 l, .int .i64 h, .int .i64 g, sv]] w fun e w' => e = .returned (.int .i64 ((1 + grF f : Nat) : Int)) ∧ Below w.heap.size w w' := by
  have HSV := Lib.hid hsv
  have HCh := Lib.hid hch
  have HF := Lib.hid hft
  obtain ⟨ad, cap, rfl⟩ := slice_form hsv
  obtain ⟨W2, hW2⟩ : ∃ W2, W2 = w.alloc (.cells #[.int .i64 6, .int .u64 (wd st 0 64 : Nat), .int .u64 (wd st 64 64 : Nat), .int .u64 (wd st 128 64 : Nat), .int .u64 (wd st 192 64 : Nat), .int .i64 l, .int .i64 h, .int .i64 g, .slice ad f.len cap] 55) := ⟨_, rfl⟩
  have hx : Below w.heap.size w W2 := by rw [hW2]; exact (Below.refl _ _).alloc (Nat.le_refl _) _
  have hz2 : W2.heap.size = w.heap.size + 1 := by rw [hW2]; simp
  have hg0 : W2.heap[w.heap.size]? = some (.cells #[.int .i64 6, .int .u64 (wd st 0 64 : Nat), .int .u64 (wd st 64 64 : Nat), .int .u64 (wd st 128 64 : Nat), .int .u64 (wd st 192 64 : Nat), .int .i64 l, .int .i64 h, .int .i64 g, .slice ad f.len cap] 55 (0, 0)) := by
    rw [hW2]
    exact heap_alloc_new w _
  have HX := Lib.hid hx
  have HG0 := Lib.hid hg0
  have HZ := Lib.hid hz2
  have HW2 := Lib.hid hW2
  have BX : Hid (∀ wx, Below W2.heap.size W2 wx → Below w.heap.size w wx ∧ wx.cell? ⟨w.heap.size, 0, none⟩ = some (.int .i64 6) ∧ wx.cell? ⟨w.heap.size, 7, none⟩ = some (.int .i64 g) ∧ wx.cell? ⟨w.heap.size, 8, none⟩ = some (.slice ad f.len cap)) := Lib.hid fun wx hb => by
    have hr := (hb.block _ (by have := HZ.out; omega)).trans HG0.out
    exact ⟨HX.out.trans (hb.mono HX.out.size), cell_of_row wx w.heap.size 0 _ _ _ hr, cell_of_row wx w.heap.size 7 _ _ _ hr, cell_of_row wx w.heap.size 8 _ _ _ hr⟩
  clear hsv hch hft hx hz2 hg0 hW2
  have hfl : (f.len : Int) ≤ 9223372036854775807 := by have := HF.out.1; unfold maxLen at this; omega
  have hgz := gr_sz f
  go_enter Tryd.func48, Tryd.ntmps48
  go_wp2_with fail
  go_loopw [3, 4] (fun n i wr => ∃ (k m : Nat), k ≤ f.len ∧ i = .int .i64 k ∧ n = .int .i64 m ∧ m + grF (f.drop k) = 1 + grF f ∧ Hid (Below W2.heap.size W2 wr)) (fun _ i _ => f.len - (intOf i).toNat)
  case atStart => exact ⟨0, 1, Nat.zero_le _, rfl, rfl, by (have : f.drop 0 = f := by cases f <;> rfl); rw [this], by rw [HW2.out]; exact Lib.hid (Below.refl _ _)⟩
  case round =>
    obtain ⟨k, m, hk, rfl, rfl, hm, HB⟩ := hrel
    obtain ⟨hbw, _, _, bx⟩ := BX.out wr HB.out
    have HBW := Lib.hid hbw
    clear hbw
    by_cases hkn : k < f.len
    · have ki : (k : Int) < f.len := by omega
      have ki0 : (0 : Int) ≤ k := by omega
      obtain ⟨b, i0, ad2, cp2, rfl, hsv2, c0, c1, c2, c3, c4, c5, c6, c7, c8⟩ := kid HSV.out (Afar.below HBW.out) k hkn
      have HS2 := Lib.hid hsv2
      clear hsv2
      have hst := gr_step f k hkn
      rw [hst] at hm
      have hz2 : szF (f.nth k).args ≤ 2000000 := by have := sz_nth f k hkn; omega
      have HL := Lib.hid (fun W hW => HCh.out k hkn (f.nth k).op (f.nth k).lo (f.nth k).hi (f.nth k).g (f.nth k).st (.slice ad2 (f.nth k).args.len cp2) W S hW (F.fits_nth k HF.out.2 hkn) hz2)
      generalize hZ : (if (f.nth k).op = 6 then 1 else 0) + grF (f.nth k).args = Z at *
      have hwr : IntKind.i64.wrap ((m : Int) + (Z : Int)) = ((m + Z : Nat) : Int) := by rw [IntKind.wrap_i64]; omega
      clear hZ hst
      go_wp2_with (first
          | (go_at_call 48; (with_reducible refine (HL.out _ HS2.out).mono ?_); rintro e w2 ⟨rfl, hb⟩; have HB1 := Lib.hid (HB.out.trans (hb.mono HB.out.size)); clear hb bx c0 c1 c2 c3 c4 c5 c6 c7 c8))
      go_roundw
      case rel => exact ⟨k + 1, m + Z, by omega, by go_num, by first | rfl | (congr 1; omega), by omega, HB1⟩
      case measure => simp [intOf]; omega
    · obtain rfl : k = f.len := by omega
      rw [F.drop_len] at hm
      go_wp2_with fail
      go_ret
      refine ⟨?_, HBW.out⟩
      have : m = 1 + grF f := hm
      rw [this]
      rfl
theorem grp_x (f : F) (hch : ∀ i, i < f.len → GrpOk (f.nth i).args) (o l h g : Int) (st : Nat → Bool) (sv : Value) (w : World) (S : Nat → Prop) (hsv : SV w S f sv) (hft : f.len ≤ maxLen ∧ f.fits) (hbd : szF f ≤ 2000000) (e6 : (o == 6) = false) (o6 : ¬ o = 6) :
    Calls Tryd.prog 48 #[.agg #[.int .i64 o, .int .u64 (wd st 0 64 : Nat), .int .u64 (wd st 64 64 : Nat), .int .u64 (wd st 128 64 : Nat), .int .u64 (wd st 192 64 : Nat), .int .i64 l, .int .i64 h, .int .i64 g, sv]] w fun e w' => e = .returned (.int .i64 ((0 + grF f : Nat) : Int)) ∧ Below w.heap.size w w' := by
  have HSV := Lib.hid hsv
  have HCh := Lib.hid hch
  have HF := Lib.hid hft
  obtain ⟨ad, cap, rfl⟩ := slice_form hsv
  obtain ⟨W2, hW2⟩ : ∃ W2, W2 = w.alloc (.cells #[.int .i64 o, .int .u64 (wd st 0 64 : Nat), .int .u64 (wd st 64 64 : Nat), .int .u64 (wd st 128 64 : Nat), .int .u64 (wd st 192 64 : Nat), .int .i64 l, .int .i64 h, .int .i64 g, .slice ad f.len cap] 55) := ⟨_, rfl⟩
  have hx : Below w.heap.size w W2 := by rw [hW2]; exact (Below.refl _ _).alloc (Nat.le_refl _) _
  have hz2 : W2.heap.size = w.heap.size + 1 := by rw [hW2]; simp
  have hg0 : W2.heap[w.heap.size]? = some (.cells #[.int .i64 o, .int .u64 (wd st 0 64 : Nat), .int .u64 (wd st 64 64 : Nat), .int .u64 (wd st 128 64 : Nat), .int .u64 (wd st 192 64 : Nat), .int .i64 l, .int .i64 h, .int .i64 g, .slice ad f.len cap] 55 (0, 0)) := by
    rw [hW2]
    exact heap_alloc_new w _
  have HX := Lib.hid hx
  have HG0 := Lib.hid hg0
  have HZ := Lib.hid hz2
  have HW2 := Lib.hid hW2
  have BX : Hid (∀ wx, Below W2.heap.size W2 wx → Below w.heap.size w wx ∧ wx.cell? ⟨w.heap.size, 0, none⟩ = some (.int .i64 o) ∧ wx.cell? ⟨w.heap.size, 7, none⟩ = some (.int .i64 g) ∧ wx.cell? ⟨w.heap.size, 8, none⟩ = some (.slice ad f.len cap)) := Lib.hid fun wx hb => by
    have hr := (hb.block _ (by have := HZ.out; omega)).trans HG0.out
    exact ⟨HX.out.trans (hb.mono HX.out.size), cell_of_row wx w.heap.size 0 _ _ _ hr, cell_of_row wx w.heap.size 7 _ _ _ hr, cell_of_row wx w.heap.size 8 _ _ _ hr⟩
  clear hsv hch hft hx hz2 hg0 hW2
  have hfl : (f.len : Int) ≤ 9223372036854775807 := by have := HF.out.1; unfold maxLen at this; omega
  have hgz := gr_sz f
  go_enter Tryd.func48, Tryd.ntmps48
  go_wp2_with fail
  go_loopw [3, 4] (fun n i wr => ∃ (k m : Nat), k ≤ f.len ∧ i = .int .i64 k ∧ n = .int .i64 m ∧ m + grF (f.drop k) = 0 + grF f ∧ Hid (Below W2.heap.size W2 wr)) (fun _ i _ => f.len - (intOf i).toNat)
  case atStart => exact ⟨0, 0, Nat.zero_le _, rfl, rfl, by (have : f.drop 0 = f := by cases f <;> rfl); rw [this], by rw [HW2.out]; exact Lib.hid (Below.refl _ _)⟩
  case round =>
    obtain ⟨k, m, hk, rfl, rfl, hm, HB⟩ := hrel
    obtain ⟨hbw, _, _, bx⟩ := BX.out wr HB.out
    have HBW := Lib.hid hbw
    clear hbw
    by_cases hkn : k < f.len
    · have ki : (k : Int) < f.len := by omega
      have ki0 : (0 : Int) ≤ k := by omega
      obtain ⟨b, i0, ad2, cp2, rfl, hsv2, c0, c1, c2, c3, c4, c5, c6, c7, c8⟩ := kid HSV.out (Afar.below HBW.out) k hkn
      have HS2 := Lib.hid hsv2
      clear hsv2
      have hst := gr_step f k hkn
      rw [hst] at hm
      have hz2 : szF (f.nth k).args ≤ 2000000 := by have := sz_nth f k hkn; omega
      have HL := Lib.hid (fun W hW => HCh.out k hkn (f.nth k).op (f.nth k).lo (f.nth k).hi (f.nth k).g (f.nth k).st (.slice ad2 (f.nth k).args.len cp2) W S hW (F.fits_nth k HF.out.2 hkn) hz2)
      generalize hZ : (if (f.nth k).op = 6 then 1 else 0) + grF (f.nth k).args = Z at *
      have hwr : IntKind.i64.wrap ((m : Int) + (Z : Int)) = ((m + Z : Nat) : Int) := by rw [IntKind.wrap_i64]; omega
      clear hZ hst
      go_wp2_with (first
          | (go_at_call 48; (with_reducible refine (HL.out _ HS2.out).mono ?_); rintro e w2 ⟨rfl, hb⟩; have HB1 := Lib.hid (HB.out.trans (hb.mono HB.out.size)); clear hb bx c0 c1 c2 c3 c4 c5 c6 c7 c8))
      go_roundw
      case rel => exact ⟨k + 1, m + Z, by omega, by go_num, by first | rfl | (congr 1; omega), by omega, HB1⟩
      case measure => simp [intOf]; omega
    · obtain rfl : k = f.len := by omega
      rw [F.drop_len] at hm
      go_wp2_with fail
      go_ret
      refine ⟨?_, HBW.out⟩
      have : m = 0 + grF f := hm
      rw [this]
      rfl
theorem grp_node (f : F) (hch : ∀ i, i < f.len → GrpOk (f.nth i).args) : GrpOk f := by
  intro o l h g st sv w S hsv hft hbd
  by_cases o6 : o = 6
  · subst o6
    exact grp_6 f hch l h g st sv w S hsv hft hbd
  · rw [if_neg o6]
    exact grp_x f hch o l h g st sv w S hsv hft hbd (by simpa using o6) o6
theorem grp_all : ∀ (f : F) (i : Nat), i < f.len → GrpOk (f.nth i).args
  | .nil, i, h => by cases h
  | .cons o s l h g a r, 0, hi => grp_node a (grp_all a)
  | .cons o s l h g a r, i + 1, hi => grp_all r i (by have : i + 1 < r.len + 1 := hi; omega)
theorem grp_any (f : F) : GrpOk f := grp_node f (grp_all f)
def LevOk8 (f : F) : Prop := ∀ (o l h g : Int) (st : Nat → Bool) (sv : Value) (w : World) (S : Nat → Prop), SV w S f sv → f.len ≤ maxLen ∧ f.fits → szF f ≤ 2000000 →
  Calls Tryd.prog 49 #[.agg #[.int .i64 o, .int .u64 (wd st 0 64 : Nat), .int .u64 (wd st 64 64 : Nat), .int .u64 (wd st 128 64 : Nat), .int .u64 (wd st 192 64 : Nat), .int .i64 l, .int .i64 h, .int .i64 g, sv]] w fun e w' => e = .returned (.int .i64 ((lvlF f + 1 : Nat) : Int)) ∧ Below w.heap.size w w'
theorem lv_step (f : F) (k : Nat) (hk : k < f.len) : lvlF (f.drop k) = max (lvlF (f.nth k).args + 1) (lvlF (f.drop (k + 1))) := by
  rw [F.drop_step f k hk, lvlF]
theorem lv_sz : ∀ f : F, lvlF f ≤ szF f
  | .nil => Nat.le_refl _
  | .cons o s l h g a r => by
    have h1 := lv_sz a
    have h2 := lv_sz r
    show max (lvlF a + 1) (lvlF r) ≤ szF a + 1 + szF r
    omega
theorem lev_node (f : F) (hch : ∀ i, i < f.len → LevOk8 (f.nth i).args) : LevOk8 f := by
  intro o l h g st sv w S hsv hft hbd
  have HSV := Lib.hid hsv
  have HCh := Lib.hid hch
  have HF := Lib.hid hft
  obtain ⟨ad, cap, rfl⟩ := slice_form hsv
  obtain ⟨W2, hW2⟩ : ∃ W2, W2 = w.alloc (.cells #[.int .i64 o, .int .u64 (wd st 0 64 : Nat), .int .u64 (wd st 64 64 : Nat), .int .u64 (wd st 128 64 : Nat), .int .u64 (wd st 192 64 : Nat), .int .i64 l, .int .i64 h, .int .i64 g, .slice ad f.len cap] 55) := ⟨_, rfl⟩
  have hx : Below w.heap.size w W2 := by rw [hW2]; exact (Below.refl _ _).alloc (Nat.le_refl _) _
  have hz2 : W2.heap.size = w.heap.size + 1 := by rw [hW2]; simp
  have hg0 : W2.heap[w.heap.size]? = some (.cells #[.int .i64 o, .int .u64 (wd st 0 64 : Nat), .int .u64 (wd st 64 64 : Nat), .int .u64 (wd st 128 64 : Nat), .int .u64 (wd st 192 64 : Nat), .int .i64 l, .int .i64 h, .int .i64 g, .slice ad f.len cap] 55 (0, 0)) := by
    rw [hW2]
    exact heap_alloc_new w _
  have HX := Lib.hid hx
  have HG0 := Lib.hid hg0
  have HZ := Lib.hid hz2
  have HW2 := Lib.hid hW2
  have BX : Hid (∀ wx, Below W2.heap.size W2 wx → Below w.heap.size w wx ∧ wx.cell? ⟨w.heap.size, 0, none⟩ = some (.int .i64 o) ∧ wx.cell? ⟨w.heap.size, 7, none⟩ = some (.int .i64 g) ∧ wx.cell? ⟨w.heap.size, 8, none⟩ = some (.slice ad f.len cap)) := Lib.hid fun wx hb => by
    have hr := (hb.block _ (by have := HZ.out; omega)).trans HG0.out
    exact ⟨HX.out.trans (hb.mono HX.out.size), cell_of_row wx w.heap.size 0 _ _ _ hr, cell_of_row wx w.heap.size 7 _ _ _ hr, cell_of_row wx w.heap.size 8 _ _ _ hr⟩
  clear hsv hch hft hx hz2 hg0 hW2
  have hfl : (f.len : Int) ≤ 9223372036854775807 := by have := HF.out.1; unfold maxLen at this; omega
  have hgz := lv_sz f
  go_enter Tryd.func49, Tryd.ntmps49
  go_wp2_with fail
  go_loopw [3, 4] (fun n i wr => ∃ (k m : Nat), k ≤ f.len ∧ i = .int .i64 k ∧ n = .int .i64 m ∧ max m (lvlF (f.drop k)) = lvlF f ∧ Hid (Below W2.heap.size W2 wr)) (fun _ i _ => f.len - (intOf i).toNat)
  case atStart => exact ⟨0, 0, Nat.zero_le _, rfl, rfl, by (have : f.drop 0 = f := by cases f <;> rfl); rw [this]; omega, by rw [HW2.out]; exact Lib.hid (Below.refl _ _)⟩
  case round =>
    obtain ⟨k, m, hk, rfl, rfl, hm, HB⟩ := hrel
    obtain ⟨hbw, _, _, bx⟩ := BX.out wr HB.out
    have HBW := Lib.hid hbw
    clear hbw
    by_cases hkn : k < f.len
    · have ki : (k : Int) < f.len := by omega
      have ki0 : (0 : Int) ≤ k := by omega
      obtain ⟨b, i0, ad2, cp2, rfl, hsv2, c0, c1, c2, c3, c4, c5, c6, c7, c8⟩ := kid HSV.out (Afar.below HBW.out) k hkn
      have HS2 := Lib.hid hsv2
      clear hsv2
      have hst := lv_step f k hkn
      rw [hst] at hm
      have hz2 : szF (f.nth k).args ≤ 2000000 := by have := sz_nth f k hkn; omega
      have HL := Lib.hid (fun W hW => HCh.out k hkn (f.nth k).op (f.nth k).lo (f.nth k).hi (f.nth k).g (f.nth k).st (.slice ad2 (f.nth k).args.len cp2) W S hW (F.fits_nth k HF.out.2 hkn) hz2)
      generalize hZ : lvlF (f.nth k).args + 1 = Z at *
      clear hZ hst
      by_cases hgt : m < Z
      · have hgi : (m : Int) < (Z : Int) := by omega
        go_wp2_with (first
            | (go_at_call 49; (with_reducible refine (HL.out _ HS2.out).mono ?_); rintro e w2 ⟨rfl, hb⟩; have HB1 := Lib.hid (HB.out.trans (hb.mono HB.out.size)); clear hb bx c0 c1 c2 c3 c4 c5 c6 c7 c8))
        go_roundw
        case rel => exact ⟨k + 1, Z, by omega, by go_num, rfl, by omega, HB1⟩
        case measure => simp [intOf]; omega
      · have hgi : ¬ (m : Int) < (Z : Int) := by omega
        go_wp2_with (first
            | (go_at_call 49; (with_reducible refine (HL.out _ HS2.out).mono ?_); rintro e w2 ⟨rfl, hb⟩; have HB1 := Lib.hid (HB.out.trans (hb.mono HB.out.size)); clear hb bx c0 c1 c2 c3 c4 c5 c6 c7 c8))
        go_roundw
        case rel => exact ⟨k + 1, m, by omega, by go_num, rfl, by omega, HB1⟩
        case measure => simp [intOf]; omega
    · obtain rfl : k = f.len := by omega
      rw [F.drop_len] at hm
      have hm2 : m = lvlF f := by have : lvlF .nil = 0 := rfl; omega
      have hwr : IntKind.i64.wrap ((m : Int) + 1) = ((lvlF f + 1 : Nat) : Int) := by rw [IntKind.wrap_i64]; omega
      go_wp2_with fail
      go_ret
      refine ⟨?_, HBW.out⟩
      rw [← hm2]
      first | rfl | (congr 2; omega)
theorem lev_all : ∀ (f : F) (i : Nat), i < f.len → LevOk8 (f.nth i).args
  | .nil, i, h => by cases h
  | .cons o s l h g a r, 0, hi => lev_node a (lev_all a)
  | .cons o s l h g a r, i + 1, hi => lev_all r i (by have : i + 1 < r.len + 1 := hi; omega)
theorem lev_any (f : F) : LevOk8 f := lev_node f (lev_all f)
end Go.Proofs.YtfgcnknmiclfnaaDoor
