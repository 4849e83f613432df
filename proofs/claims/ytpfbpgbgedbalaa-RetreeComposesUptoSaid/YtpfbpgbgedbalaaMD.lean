/- Several texts in one (a claim has at most 60 files). -/
import Derived.Test.YtpfbpgbgedbalaaMB
import Derived.Test.YtpfbpgbgedbalaaRtWA
import Derived.Test.YtpfbpgbgedbalaaRtOwn
import Derived.Deep.QuietTactic
import Derived.RegionTactic
import Derived.ChangeAlike
import Derived.Test.YtpfbpgbgedbalaaRtVi
/- The reference's Check, in parts: shaped, counted, typed, Size, Groups, levels, ranged. -/

set_option linter.unusedVariables false
set_option linter.unusedSimpArgs false
set_option maxRecDepth 100000
set_option maxHeartbeats 8000000
namespace Go.Proofs.Ytpfbpgbgedbalaa
open Go.RowKit

/-- Child k of a slice of trees. -/
theorem kid {w wr : World} {S : Nat → Prop} {f : F} {ad : Option Addr} {cap : Nat} (h : SV w S f (.slice ad f.len cap)) (hf : Afar S S w wr) (k : Nat) (hk : k < f.len) :
    ∃ b i0 ad2 cp2, ad = some ⟨b, i0, none⟩ ∧ SV wr S (f.nth k).args (.slice ad2 (f.nth k).args.len cp2) ∧ wr.cell? ⟨b, i0 + k * 9, none⟩ = some (.int .i64 (f.nth k).op) ∧ wr.cell? ⟨b, i0 + k * 9 + 1, none⟩ = some (.int .u64 (wd (f.nth k).st 0 64 : Nat)) ∧ wr.cell? ⟨b, i0 + k * 9 + 2, none⟩ = some (.int .u64 (wd (f.nth k).st 64 64 : Nat)) ∧ wr.cell? ⟨b, i0 + k * 9 + 3, none⟩ = some (.int .u64 (wd (f.nth k).st 128 64 : Nat)) ∧ wr.cell? ⟨b, i0 + k * 9 + 4, none⟩ = some (.int .u64 (wd (f.nth k).st 192 64 : Nat)) ∧ wr.cell? ⟨b, i0 + k * 9 + 5, none⟩ = some (.int .i64 (f.nth k).lo) ∧ wr.cell? ⟨b, i0 + k * 9 + 6, none⟩ = some (.int .i64 (f.nth k).hi) ∧ wr.cell? ⟨b, i0 + k * 9 + 7, none⟩ = some (.int .i64 (f.nth k).g) ∧ wr.cell? ⟨b, i0 + k * 9 + 8, none⟩ = some (.slice ad2 (f.nth k).args.len cp2) := by
  obtain ⟨zs, ad', cap', e, _, hfv, hcells⟩ := h.far hf
  cases e
  obtain ⟨b, i0, rfl, _, _, hce⟩ : ∃ b i, ad = some ⟨b, i, none⟩ ∧ S b ∧ b < wr.heap.size ∧ ∀ j u, zs[j]? = some u → wr.cell? ⟨b, i + j, none⟩ = some u := by
    rcases hcells with h0 | h0
    · omega
    · exact h0
  obtain ⟨sv2, hsv2, hrow⟩ := FV.nth k hfv hk
  obtain ⟨ad2, cp2, rfl⟩ := slice_form hsv2
  have hcell : ∀ j u, (rowV (f.nth k).op (f.nth k).st (f.nth k).lo (f.nth k).hi (f.nth k).g (.slice ad2 (f.nth k).args.len cp2))[j]? = some u → wr.cell? ⟨b, i0 + k * 9 + j, none⟩ = some u := fun j u hu => by
    rw [Nat.add_assoc]
    exact hce _ u (hrow j u hu)
  exact ⟨b, i0, ad2, cp2, rfl, hsv2, hcell 0 _ rfl, hcell 1 _ rfl, hcell 2 _ rfl, hcell 3 _ rfl, hcell 4 _ rfl, hcell 5 _ rfl, hcell 6 _ rfl, hcell 7 _ rfl, hcell 8 _ rfl⟩
theorem F.fits_kid : ∀ {f : F} (k : Nat), f.fits → k < f.len → (f.nth k).args.len ≤ maxLen ∧ (f.nth k).args.fits ∧ -9223372036854775808 ≤ (f.nth k).g ∧ (f.nth k).g ≤ 9223372036854775807
  | .nil, _, _, h => by cases h
  | .cons o s l h g a r, 0, hf, _ => ⟨hf.2.1, hf.2.2.1, hf.1.2.2.2⟩
  | .cons o s l h g a r, k + 1, hf, hk => F.fits_kid (f := r) k hf.2.2.2 (by have : k + 1 < r.len + 1 := hk; omega)
theorem counted_any (o l h g : Int) (st : Nat → Bool) (sv : Value) (w : World) : Calls Try.prog 70 #[.agg #[.int .i64 o, .int .u64 (wd st 0 64 : Nat), .int .u64 (wd st 64 64 : Nat), .int .u64 (wd st 128 64 : Nat), .int .u64 (wd st 192 64 : Nat), .int .i64 l, .int .i64 h, .int .i64 g, sv]] w fun e w' => e = .returned (.bool (bndT l h)) ∧ Below w.heap.size w w' := by
  go_enter Try.func70, Try.ntmps70
  go_wp2
  all_goals go_ret
  all_goals refine ⟨?_, (Below.refl _ _).alloc (Nat.le_refl _) _⟩
  all_goals (unfold bndT; congr 2; simp only [decide_eq_true_eq, *]; first | rfl | (simp; omega) | omega | simp_all)
theorem shaped_any (o l h g : Int) (st : Nat → Bool) (n : Nat) (ad : Option Addr) (cap : Nat) (w : World) : Calls Try.prog 69 #[.agg #[.int .i64 o, .int .u64 (wd st 0 64 : Nat), .int .u64 (wd st 64 64 : Nat), .int .u64 (wd st 128 64 : Nat), .int .u64 (wd st 192 64 : Nat), .int .i64 l, .int .i64 h, .int .i64 g, .slice ad n cap]] w fun e w' => e = .returned (.bool (fldT o st l h g n)) ∧ Below w.heap.size w w' := by
  cases hs : eqc st noSet
  all_goals (first | have hcmp := cmp_full hs | have hcmp := cmp_none hs)
  all_goals
    (go_enter Try.func69, Try.ntmps69
     go_wp2_with fail)
  all_goals go_ret
  all_goals refine ⟨?_, (Below.refl _ _).alloc (Nat.le_refl _) _⟩
  all_goals (unfold fldT havT; congr 2; simp_all [beq_dec] <;> omega)

def TypOk (f : F) : Prop := ∀ (o l h g : Int) (st : Nat → Bool) (sv : Value) (w : World) (S : Nat → Prop), SV w S f sv → f.len ≤ maxLen ∧ f.fits →
  Calls Try.prog 38 #[.agg #[.int .i64 o, .int .u64 (wd st 0 64 : Nat), .int .u64 (wd st 64 64 : Nat), .int .u64 (wd st 128 64 : Nat), .int .u64 (wd st 192 64 : Nat), .int .i64 l, .int .i64 h, .int .i64 g, sv]] w fun e w' => e = .returned (.bool (fldT o st l h g f.len && typF f)) ∧ Below w.heap.size w w'
theorem typF_step (f : F) (k : Nat) (hk : k < f.len) : typF (f.drop k) = (fldT (f.nth k).op (f.nth k).st (f.nth k).lo (f.nth k).hi (f.nth k).g (f.nth k).args.len && typF (f.nth k).args && typF (f.drop (k + 1))) := by
  rw [F.drop_step f k hk, typF, Bool.and_assoc]
theorem typ_node (f : F) (hch : ∀ i, i < f.len → TypOk (f.nth i).args) : TypOk f := by
  intro o l h g st sv w S hsv hft
  have HSV := Lib.hid hsv
  have HCh := Lib.hid hch
  have HF := Lib.hid hft
  obtain ⟨ad, cap, rfl⟩ := slice_form hsv
  obtain ⟨W2, hW2⟩ : ∃ W2, W2 = w.alloc (.cells #[.int .i64 o, .int .u64 (wd st 0 64 : Nat), .int .u64 (wd st 64 64 : Nat), .int .u64 (wd st 128 64 : Nat), .int .u64 (wd st 192 64 : Nat), .int .i64 l, .int .i64 h, .int .i64 g, .slice ad f.len cap] 28) := ⟨_, rfl⟩
  have hx : Below w.heap.size w W2 := by rw [hW2]; exact (Below.refl _ _).alloc (Nat.le_refl _) _
  have hz2 : W2.heap.size = w.heap.size + 1 := by rw [hW2]; simp
  have hg0 : W2.heap[w.heap.size]? = some (.cells #[.int .i64 o, .int .u64 (wd st 0 64 : Nat), .int .u64 (wd st 64 64 : Nat), .int .u64 (wd st 128 64 : Nat), .int .u64 (wd st 192 64 : Nat), .int .i64 l, .int .i64 h, .int .i64 g, .slice ad f.len cap] 28 (0, 0)) := by
    rw [hW2]
    exact heap_alloc_new w _
  have HX := Lib.hid hx
  have HG0 := Lib.hid hg0
  have HZ := Lib.hid hz2
  have HW2 := Lib.hid hW2
  have BX : Hid (∀ wx, Below W2.heap.size W2 wx → Below w.heap.size w wx ∧ wx.cell? ⟨w.heap.size, 0, none⟩ = some (.int .i64 o) ∧ wx.cell? ⟨w.heap.size, 7, none⟩ = some (.int .i64 g) ∧ wx.cell? ⟨w.heap.size, 8, none⟩ = some (.slice ad f.len cap)) := Lib.hid fun wx hb => by
    have hr := (hb.block _ (by have := HZ.out; omega)).trans HG0.out
    exact ⟨HX.out.trans (hb.mono HX.out.size), cell_of_row wx w.heap.size 0 _ _ _ hr, cell_of_row wx w.heap.size 7 _ _ _ hr, cell_of_row wx w.heap.size 8 _ _ _ hr⟩
  clear hsv hch hft hx hz2 hg0 hW2
  have hfl : (f.len : Int) ≤ 9223372036854775807 := by have := HF.out.1; unfold maxLen at this; omega
  have HFn := Lib.hid fun W => shaped_any o l h g st f.len ad cap W
  generalize hC0 : fldT o st l h g f.len = C0 at HFn ⊢
  clear hC0
  cases C0
  · go_enter Try.func38, Try.ntmps38
    go_wp2_with (first
      | (go_at_call 69; (with_reducible refine (HFn.out _).mono ?_); rintro e w1 ⟨rfl, hb⟩
         have HB1 := Lib.hid (HX.out.trans ((show Below W2.heap.size W2 w1 by rw [HW2.out]; exact hb).mono HX.out.size)); clear hb))
    go_ret
    exact ⟨rfl, HB1.out⟩
  go_enter Try.func38, Try.ntmps38
  go_wp2_with (first
    | (go_at_call 69; (with_reducible refine (HFn.out _).mono ?_); rintro e w1 ⟨rfl, hb⟩
       have HB1 := Lib.hid (show Below W2.heap.size W2 w1 by rw [HW2.out]; exact hb); clear hb))
  go_loopw [3] (fun i wr => ∃ k : Nat, k ≤ f.len ∧ i = .int .i64 k ∧ Hid (Below W2.heap.size W2 wr ∧ typF f = typF (f.drop k))) (fun i _ => f.len - (intOf i).toNat)
  case atStart => exact ⟨0, Nat.zero_le _, rfl, Lib.hid ⟨HB1.out, by cases f <;> rfl⟩⟩
  case round =>
    obtain ⟨k, hk, rfl, HB⟩ := hrel
    obtain ⟨hbw, _, _, bx⟩ := BX.out wr HB.out.1
    have HBW := Lib.hid hbw
    clear hbw
    by_cases hkn : k < f.len
    · have ki : (k : Int) < f.len := by omega
      have ki0 : (0 : Int) ≤ k := by omega
      obtain ⟨b, i0, ad2, cp2, rfl, hsv2, c0, c1, c2, c3, c4, c5, c6, c7, c8⟩ := kid HSV.out (Afar.below HBW.out) k hkn
      have HS2 := Lib.hid hsv2
      clear hsv2
      have HL := Lib.hid (fun W hW => HCh.out k hkn (f.nth k).op (f.nth k).lo (f.nth k).hi (f.nth k).g (f.nth k).st (.slice ad2 (f.nth k).args.len cp2) W S hW (F.fits_nth k HF.out.2 hkn))
      have HSt : Hid (typF f = (fldT (f.nth k).op (f.nth k).st (f.nth k).lo (f.nth k).hi (f.nth k).g (f.nth k).args.len && typF (f.nth k).args && typF (f.drop (k + 1)))) := Lib.hid (HB.out.2.trans (typF_step f k hkn))
      obtain ⟨B, hB⟩ : ∃ B, B = (fldT (f.nth k).op (f.nth k).st (f.nth k).lo (f.nth k).hi (f.nth k).g (f.nth k).args.len && typF (f.nth k).args) := ⟨_, rfl⟩
      rw [← hB] at HSt HL
      clear hB
      cases B
      · go_wp2_with (first
          | (go_at_call 38; (with_reducible refine (HL.out _ HS2.out).mono ?_); rintro e w2 ⟨rfl, hb⟩; have HB1 := Lib.hid (HB.out.1.trans (hb.mono HB.out.1.size)); clear hb bx c0 c1 c2 c3 c4 c5 c6 c7 c8))
        go_ret
        rw [HSt.out]
        exact ⟨rfl, HX.out.trans (HB1.out.mono HX.out.size)⟩
      · go_wp2_with (first
          | (go_at_call 38; (with_reducible refine (HL.out _ HS2.out).mono ?_); rintro e w2 ⟨rfl, hb⟩; have HB1 := Lib.hid (HB.out.1.trans (hb.mono HB.out.1.size)); clear hb bx c0 c1 c2 c3 c4 c5 c6 c7 c8))
        go_roundw
        case rel => exact ⟨k + 1, by omega, by go_num, Lib.hid ⟨HB1.out, by rw [HSt.out]; rfl⟩⟩
        case measure => simp [intOf]; omega
    · obtain rfl : k = f.len := by omega
      have hd := HB.out.2
      rw [F.drop_len] at hd
      have HD := Lib.hid hd
      clear hd
      go_wp2_with fail
      go_ret
      rw [HD.out]
      exact ⟨rfl, HBW.out⟩
theorem typ_all : ∀ (f : F) (i : Nat), i < f.len → TypOk (f.nth i).args
  | .nil, i, h => by cases h
  | .cons o s l h g a r, 0, hi => typ_node a (typ_all a)
  | .cons o s l h g a r, i + 1, hi => typ_all r i (by have : i + 1 < r.len + 1 := hi; omega)
theorem typ_any (f : F) : TypOk f := typ_node f (typ_all f)

def SizOk (f : F) : Prop := ∀ (o l h g : Int) (st : Nat → Bool) (sv : Value) (w : World) (S : Nat → Prop), SV w S f sv → f.len ≤ maxLen ∧ f.fits → szF f ≤ 2000000 →
  Calls Try.prog 41 #[.agg #[.int .i64 o, .int .u64 (wd st 0 64 : Nat), .int .u64 (wd st 64 64 : Nat), .int .u64 (wd st 128 64 : Nat), .int .u64 (wd st 192 64 : Nat), .int .i64 l, .int .i64 h, .int .i64 g, sv]] w fun e w' => e = .returned (.int .i64 ((szF f + 1 : Nat) : Int)) ∧ Below w.heap.size w w'
theorem sz_step (f : F) (k : Nat) (hk : k < f.len) : szF (f.drop k) = szF (f.nth k).args + 1 + szF (f.drop (k + 1)) := by
  rw [F.drop_step f k hk, szF]
theorem sz_nth : ∀ (f : F) (k : Nat), k < f.len → szF (f.nth k).args + 1 ≤ szF f
  | .nil, _, h => by cases h
  | .cons o s l h g a r, 0, _ => by show szF a + 1 ≤ szF a + 1 + szF r; omega
  | .cons o s l h g a r, k + 1, hk => by have := sz_nth r k (by have : k + 1 < r.len + 1 := hk; omega); show szF (r.nth k).args + 1 ≤ szF a + 1 + szF r; omega
theorem siz_node (f : F) (hch : ∀ i, i < f.len → SizOk (f.nth i).args) : SizOk f := by
  intro o l h g st sv w S hsv hft hbd
  have HSV := Lib.hid hsv
  have HCh := Lib.hid hch
  have HF := Lib.hid hft
  obtain ⟨ad, cap, rfl⟩ := slice_form hsv
  obtain ⟨W2, hW2⟩ : ∃ W2, W2 = w.alloc (.cells #[.int .i64 o, .int .u64 (wd st 0 64 : Nat), .int .u64 (wd st 64 64 : Nat), .int .u64 (wd st 128 64 : Nat), .int .u64 (wd st 192 64 : Nat), .int .i64 l, .int .i64 h, .int .i64 g, .slice ad f.len cap] 28) := ⟨_, rfl⟩
  have hx : Below w.heap.size w W2 := by rw [hW2]; exact (Below.refl _ _).alloc (Nat.le_refl _) _
  have hz2 : W2.heap.size = w.heap.size + 1 := by rw [hW2]; simp
  have hg0 : W2.heap[w.heap.size]? = some (.cells #[.int .i64 o, .int .u64 (wd st 0 64 : Nat), .int .u64 (wd st 64 64 : Nat), .int .u64 (wd st 128 64 : Nat), .int .u64 (wd st 192 64 : Nat), .int .i64 l, .int .i64 h, .int .i64 g, .slice ad f.len cap] 28 (0, 0)) := by
    rw [hW2]
    exact heap_alloc_new w _
  have HX := Lib.hid hx
  have HG0 := Lib.hid hg0
  have HZ := Lib.hid hz2
  have HW2 := Lib.hid hW2
  have BX : Hid (∀ wx, Below W2.heap.size W2 wx → Below w.heap.size w wx ∧ wx.cell? ⟨w.heap.size, 0, none⟩ = some (.int .i64 o) ∧ wx.cell? ⟨w.heap.size, 7, none⟩ = some (.int .i64 g) ∧ wx.cell? ⟨w.heap.size, 8, none⟩ = some (.slice ad f.len cap)) := Lib.hid fun wx hb => by
    have hr := (hb.block _ (by have := HZ.out; omega)).trans HG0.out
    exact ⟨HX.out.trans (hb.mono HX.out.size), cell_of_row wx w.heap.size 0 _ _ _ hr, cell_of_row wx w.heap.size 7 _ _ _ hr, cell_of_row wx w.heap.size 8 _ _ _ hr⟩
  clear hsv hch hft hx hz2 hg0 hW2
  have hfl : (f.len : Int) ≤ 9223372036854775807 := by have := HF.out.1; unfold maxLen at this; omega
  go_enter Try.func41, Try.ntmps41
  go_wp2_with fail
  go_loopw [3, 4] (fun n i wr => ∃ (k m : Nat), k ≤ f.len ∧ i = .int .i64 k ∧ n = .int .i64 m ∧ m + szF (f.drop k) = szF f + 1 ∧ Hid (Below W2.heap.size W2 wr)) (fun _ i _ => f.len - (intOf i).toNat)
  case atStart => exact ⟨0, 1, Nat.zero_le _, rfl, rfl, by (have : f.drop 0 = f := by cases f <;> rfl); rw [this]; omega, by rw [HW2.out]; exact Lib.hid (Below.refl _ _)⟩
  case round =>
    obtain ⟨k, m, hk, rfl, rfl, hm, HB⟩ := hrel
    obtain ⟨hbw, _, _, bx⟩ := BX.out wr HB.out
    have HBW := Lib.hid hbw
    clear hbw
    by_cases hkn : k < f.len
    · have ki : (k : Int) < f.len := by omega
      have ki0 : (0 : Int) ≤ k := by omega
      obtain ⟨b, i0, ad2, cp2, rfl, hsv2, c0, c1, c2, c3, c4, c5, c6, c7, c8⟩ := kid HSV.out (Afar.below HBW.out) k hkn
      have HS2 := Lib.hid hsv2
      clear hsv2
      have hst := sz_step f k hkn
      rw [hst] at hm
      have hz2 : szF (f.nth k).args ≤ 2000000 := by have := sz_nth f k hkn; omega
      have HL := Lib.hid (fun W hW => HCh.out k hkn (f.nth k).op (f.nth k).lo (f.nth k).hi (f.nth k).g (f.nth k).st (.slice ad2 (f.nth k).args.len cp2) W S hW (F.fits_nth k HF.out.2 hkn) hz2)
      have hwr : IntKind.i64.wrap ((m : Int) + ((szF (f.nth k).args + 1 : Nat) : Int)) = ((m + (szF (f.nth k).args + 1) : Nat) : Int) := by rw [IntKind.wrap_i64]; omega
      generalize hZ : szF (f.nth k).args = Z at *
      clear hZ hst
      go_wp2_with (first
          | (go_at_call 41; (with_reducible refine (HL.out _ HS2.out).mono ?_); rintro e w2 ⟨rfl, hb⟩; have HB1 := Lib.hid (HB.out.trans (hb.mono HB.out.size)); clear hb bx c0 c1 c2 c3 c4 c5 c6 c7 c8))
      go_roundw
      case rel => exact ⟨k + 1, m + (Z + 1), by omega, by go_num, by first | rfl | (congr 1; omega), by omega, HB1⟩
      case measure => simp [intOf]; omega
    · obtain rfl : k = f.len := by omega
      rw [F.drop_len] at hm
      go_wp2_with fail
      go_ret
      refine ⟨?_, HBW.out⟩
      have : m = szF f + 1 := hm
      rw [this]
      rfl
theorem siz_all : ∀ (f : F) (i : Nat), i < f.len → SizOk (f.nth i).args
  | .nil, i, h => by cases h
  | .cons o s l h g a r, 0, hi => siz_node a (siz_all a)
  | .cons o s l h g a r, i + 1, hi => siz_all r i (by have : i + 1 < r.len + 1 := hi; omega)
theorem siz_any (f : F) : SizOk f := siz_node f (siz_all f)

def GrpOk (f : F) : Prop := ∀ (o l h g : Int) (st : Nat → Bool) (sv : Value) (w : World) (S : Nat → Prop), SV w S f sv → f.len ≤ maxLen ∧ f.fits → szF f ≤ 2000000 →
  Calls Try.prog 16 #[.agg #[.int .i64 o, .int .u64 (wd st 0 64 : Nat), .int .u64 (wd st 64 64 : Nat), .int .u64 (wd st 128 64 : Nat), .int .u64 (wd st 192 64 : Nat), .int .i64 l, .int .i64 h, .int .i64 g, sv]] w fun e w' => e = .returned (.int .i64 (((if o = 6 then 1 else 0) + grF f : Nat) : Int)) ∧ Below w.heap.size w w'
theorem gr_step (f : F) (k : Nat) (hk : k < f.len) : grF (f.drop k) = (if (f.nth k).op = 6 then 1 else 0) + grF (f.nth k).args + grF (f.drop (k + 1)) := by
  rw [F.drop_step f k hk, grF, Nat.add_assoc]
theorem gr_sz : ∀ f : F, grF f ≤ szF f
  | .nil => Nat.le_refl _
  | .cons o s l h g a r => by
    have h1 := gr_sz a
    have h2 := gr_sz r
    show (if o = 6 then 1 else 0) + (grF a + grF r) ≤ szF a + 1 + szF r
    split <;> omega

theorem grp_6 (f : F) (hch : ∀ i, i < f.len → GrpOk (f.nth i).args) (l h g : Int) (st : Nat → Bool) (sv : Value) (w : World) (S : Nat → Prop) (hsv : SV w S f sv) (hft : f.len ≤ maxLen ∧ f.fits) (hbd : szF f ≤ 2000000) :
    Calls Try.prog 16 #[.agg #[.int .i64 6, .int .u64 (wd st 0 64 : Nat), .int .u64 (wd st 64 64 : Nat), .int .u64 (wd st 128 64 : Nat), .int .u64 (wd st 192 64 : Nat), .int .i64 l, .int .i64 h, .int .i64 g, sv]] w fun e w' => e = .returned (.int .i64 ((1 + grF f : Nat) : Int)) ∧ Below w.heap.size w w' := by
  have HSV := Lib.hid hsv
  have HCh := Lib.hid hch
  have HF := Lib.hid hft
  obtain ⟨ad, cap, rfl⟩ := slice_form hsv
  obtain ⟨W2, hW2⟩ : ∃ W2, W2 = w.alloc (.cells #[.int .i64 6, .int .u64 (wd st 0 64 : Nat), .int .u64 (wd st 64 64 : Nat), .int .u64 (wd st 128 64 : Nat), .int .u64 (wd st 192 64 : Nat), .int .i64 l, .int .i64 h, .int .i64 g, .slice ad f.len cap] 28) := ⟨_, rfl⟩
  have hx : Below w.heap.size w W2 := by rw [hW2]; exact (Below.refl _ _).alloc (Nat.le_refl _) _
  have hz2 : W2.heap.size = w.heap.size + 1 := by rw [hW2]; simp
  have hg0 : W2.heap[w.heap.size]? = some (.cells #[.int .i64 6, .int .u64 (wd st 0 64 : Nat), .int .u64 (wd st 64 64 : Nat), .int .u64 (wd st 128 64 : Nat), .int .u64 (wd st 192 64 : Nat), .int .i64 l, .int .i64 h, .int .i64 g, .slice ad f.len cap] 28 (0, 0)) := by
    rw [hW2]
    exact heap_alloc_new w _
  have HX := Lib.hid hx
  have HG0 := Lib.hid hg0
  have HZ := Lib.hid hz2
  have HW2 := Lib.hid hW2
  have BX : Hid (∀ wx, Below W2.heap.size W2 wx → Below w.heap.size w wx ∧ wx.cell? ⟨w.heap.size, 0, none⟩ = some (.int .i64 6) ∧ wx.cell? ⟨w.heap.size, 7, none⟩ = some (.int .i64 g) ∧ wx.cell? ⟨w.heap.size, 8, none⟩ = some (.slice ad f.len cap)) := Lib.hid fun wx hb => by
    have hr := (hb.block _ (by have := HZ.out; omega)).trans HG0.out
    exact ⟨HX.out.trans (hb.mono HX.out.size), cell_of_row wx w.heap.size 0 _ _ _ hr, cell_of_row wx w.heap.size 7 _ _ _ hr, cell_of_row wx w.heap.size 8 _ _ _ hr⟩
  clear hsv hch hft hx hz2 hg0 hW2
  have hfl : (f.len : Int) ≤ 9223372036854775807 := by have := HF.out.1; unfold maxLen at this; omega
  have hgz := gr_sz f
  go_enter Try.func16, Try.ntmps16
  go_wp2_with fail
  go_loopw [3, 4] (fun n i wr => ∃ (k m : Nat), k ≤ f.len ∧ i = .int .i64 k ∧ n = .int .i64 m ∧ m + grF (f.drop k) = 1 + grF f ∧ Hid (Below W2.heap.size W2 wr)) (fun _ i _ => f.len - (intOf i).toNat)
  case atStart => exact ⟨0, 1, Nat.zero_le _, rfl, rfl, by (have : f.drop 0 = f := by cases f <;> rfl); rw [this], by rw [HW2.out]; exact Lib.hid (Below.refl _ _)⟩
  case round =>
    obtain ⟨k, m, hk, rfl, rfl, hm, HB⟩ := hrel
    obtain ⟨hbw, _, _, bx⟩ := BX.out wr HB.out
    have HBW := Lib.hid hbw
    clear hbw
    by_cases hkn : k < f.len
    · have ki : (k : Int) < f.len := by omega
      have ki0 : (0 : Int) ≤ k := by omega
      obtain ⟨b, i0, ad2, cp2, rfl, hsv2, c0, c1, c2, c3, c4, c5, c6, c7, c8⟩ := kid HSV.out (Afar.below HBW.out) k hkn
      have HS2 := Lib.hid hsv2
      clear hsv2
      have hst := gr_step f k hkn
      rw [hst] at hm
      have hz2 : szF (f.nth k).args ≤ 2000000 := by have := sz_nth f k hkn; omega
      have HL := Lib.hid (fun W hW => HCh.out k hkn (f.nth k).op (f.nth k).lo (f.nth k).hi (f.nth k).g (f.nth k).st (.slice ad2 (f.nth k).args.len cp2) W S hW (F.fits_nth k HF.out.2 hkn) hz2)
      generalize hZ : (if (f.nth k).op = 6 then 1 else 0) + grF (f.nth k).args = Z at *
      have hwr : IntKind.i64.wrap ((m : Int) + (Z : Int)) = ((m + Z : Nat) : Int) := by rw [IntKind.wrap_i64]; omega
      clear hZ hst
      go_wp2_with (first
          | (go_at_call 16; (with_reducible refine (HL.out _ HS2.out).mono ?_); rintro e w2 ⟨rfl, hb⟩; have HB1 := Lib.hid (HB.out.trans (hb.mono HB.out.size)); clear hb bx c0 c1 c2 c3 c4 c5 c6 c7 c8))
      go_roundw
      case rel => exact ⟨k + 1, m + Z, by omega, by go_num, by first | rfl | (congr 1; omega), by omega, HB1⟩
      case measure => simp [intOf]; omega
    · obtain rfl : k = f.len := by omega
      rw [F.drop_len] at hm
      go_wp2_with fail
      go_ret
      refine ⟨?_, HBW.out⟩
      have : m = 1 + grF f := hm
      rw [this]
      rfl

theorem grp_x (f : F) (hch : ∀ i, i < f.len → GrpOk (f.nth i).args) (o l h g : Int) (st : Nat → Bool) (sv : Value) (w : World) (S : Nat → Prop) (hsv : SV w S f sv) (hft : f.len ≤ maxLen ∧ f.fits) (hbd : szF f ≤ 2000000) (e6 : (o == 6) = false) (o6 : ¬ o = 6) :
    Calls Try.prog 16 #[.agg #[.int .i64 o, .int .u64 (wd st 0 64 : Nat), .int .u64 (wd st 64 64 : Nat), .int .u64 (wd st 128 64 : Nat), .int .u64 (wd st 192 64 : Nat), .int .i64 l, .int .i64 h, .int .i64 g, sv]] w fun e w' => e = .returned (.int .i64 ((0 + grF f : Nat) : Int)) ∧ Below w.heap.size w w' := by
  have HSV := Lib.hid hsv
  have HCh := Lib.hid hch
  have HF := Lib.hid hft
  obtain ⟨ad, cap, rfl⟩ := slice_form hsv
  obtain ⟨W2, hW2⟩ : ∃ W2, W2 = w.alloc (.cells #[.int .i64 o, .int .u64 (wd st 0 64 : Nat), .int .u64 (wd st 64 64 : Nat), .int .u64 (wd st 128 64 : Nat), .int .u64 (wd st 192 64 : Nat), .int .i64 l, .int .i64 h, .int .i64 g, .slice ad f.len cap] 28) := ⟨_, rfl⟩
  have hx : Below w.heap.size w W2 := by rw [hW2]; exact (Below.refl _ _).alloc (Nat.le_refl _) _
  have hz2 : W2.heap.size = w.heap.size + 1 := by rw [hW2]; simp
  have hg0 : W2.heap[w.heap.size]? = some (.cells #[.int .i64 o, .int .u64 (wd st 0 64 : Nat), .int .u64 (wd st 64 64 : Nat), .int .u64 (wd st 128 64 : Nat), .int .u64 (wd st 192 64 : Nat), .int .i64 l, .int .i64 h, .int .i64 g, .slice ad f.len cap] 28 (0, 0)) := by
    rw [hW2]
    exact heap_alloc_new w _
  have HX := Lib.hid hx
  have HG0 := Lib.hid hg0
  have HZ := Lib.hid hz2
  have HW2 := Lib.hid hW2
  have BX : Hid (∀ wx, Below W2.heap.size W2 wx → Below w.heap.size w wx ∧ wx.cell? ⟨w.heap.size, 0, none⟩ = some (.int .i64 o) ∧ wx.cell? ⟨w.heap.size, 7, none⟩ = some (.int .i64 g) ∧ wx.cell? ⟨w.heap.size, 8, none⟩ = some (.slice ad f.len cap)) := Lib.hid fun wx hb => by
    have hr := (hb.block _ (by have := HZ.out; omega)).trans HG0.out
    exact ⟨HX.out.trans (hb.mono HX.out.size), cell_of_row wx w.heap.size 0 _ _ _ hr, cell_of_row wx w.heap.size 7 _ _ _ hr, cell_of_row wx w.heap.size 8 _ _ _ hr⟩
  clear hsv hch hft hx hz2 hg0 hW2
  have hfl : (f.len : Int) ≤ 9223372036854775807 := by have := HF.out.1; unfold maxLen at this; omega
  have hgz := gr_sz f
  go_enter Try.func16, Try.ntmps16
  go_wp2_with fail
  go_loopw [3, 4] (fun n i wr => ∃ (k m : Nat), k ≤ f.len ∧ i = .int .i64 k ∧ n = .int .i64 m ∧ m + grF (f.drop k) = 0 + grF f ∧ Hid (Below W2.heap.size W2 wr)) (fun _ i _ => f.len - (intOf i).toNat)
  case atStart => exact ⟨0, 0, Nat.zero_le _, rfl, rfl, by (have : f.drop 0 = f := by cases f <;> rfl); rw [this], by rw [HW2.out]; exact Lib.hid (Below.refl _ _)⟩
  case round =>
    obtain ⟨k, m, hk, rfl, rfl, hm, HB⟩ := hrel
    obtain ⟨hbw, _, _, bx⟩ := BX.out wr HB.out
    have HBW := Lib.hid hbw
    clear hbw
    by_cases hkn : k < f.len
    · have ki : (k : Int) < f.len := by omega
      have ki0 : (0 : Int) ≤ k := by omega
      obtain ⟨b, i0, ad2, cp2, rfl, hsv2, c0, c1, c2, c3, c4, c5, c6, c7, c8⟩ := kid HSV.out (Afar.below HBW.out) k hkn
      have HS2 := Lib.hid hsv2
      clear hsv2
      have hst := gr_step f k hkn
      rw [hst] at hm
      have hz2 : szF (f.nth k).args ≤ 2000000 := by have := sz_nth f k hkn; omega
      have HL := Lib.hid (fun W hW => HCh.out k hkn (f.nth k).op (f.nth k).lo (f.nth k).hi (f.nth k).g (f.nth k).st (.slice ad2 (f.nth k).args.len cp2) W S hW (F.fits_nth k HF.out.2 hkn) hz2)
      generalize hZ : (if (f.nth k).op = 6 then 1 else 0) + grF (f.nth k).args = Z at *
      have hwr : IntKind.i64.wrap ((m : Int) + (Z : Int)) = ((m + Z : Nat) : Int) := by rw [IntKind.wrap_i64]; omega
      clear hZ hst
      go_wp2_with (first
          | (go_at_call 16; (with_reducible refine (HL.out _ HS2.out).mono ?_); rintro e w2 ⟨rfl, hb⟩; have HB1 := Lib.hid (HB.out.trans (hb.mono HB.out.size)); clear hb bx c0 c1 c2 c3 c4 c5 c6 c7 c8))
      go_roundw
      case rel => exact ⟨k + 1, m + Z, by omega, by go_num, by first | rfl | (congr 1; omega), by omega, HB1⟩
      case measure => simp [intOf]; omega
    · obtain rfl : k = f.len := by omega
      rw [F.drop_len] at hm
      go_wp2_with fail
      go_ret
      refine ⟨?_, HBW.out⟩
      have : m = 0 + grF f := hm
      rw [this]
      rfl

theorem grp_node (f : F) (hch : ∀ i, i < f.len → GrpOk (f.nth i).args) : GrpOk f := by
  intro o l h g st sv w S hsv hft hbd
  by_cases o6 : o = 6
  · subst o6
    exact grp_6 f hch l h g st sv w S hsv hft hbd
  · rw [if_neg o6]
    exact grp_x f hch o l h g st sv w S hsv hft hbd (by simpa using o6) o6
theorem grp_all : ∀ (f : F) (i : Nat), i < f.len → GrpOk (f.nth i).args
  | .nil, i, h => by cases h
  | .cons o s l h g a r, 0, hi => grp_node a (grp_all a)
  | .cons o s l h g a r, i + 1, hi => grp_all r i (by have : i + 1 < r.len + 1 := hi; omega)
theorem grp_any (f : F) : GrpOk f := grp_node f (grp_all f)

def LevOk8 (f : F) : Prop := ∀ (o l h g : Int) (st : Nat → Bool) (sv : Value) (w : World) (S : Nat → Prop), SV w S f sv → f.len ≤ maxLen ∧ f.fits → szF f ≤ 2000000 →
  Calls Try.prog 42 #[.agg #[.int .i64 o, .int .u64 (wd st 0 64 : Nat), .int .u64 (wd st 64 64 : Nat), .int .u64 (wd st 128 64 : Nat), .int .u64 (wd st 192 64 : Nat), .int .i64 l, .int .i64 h, .int .i64 g, sv]] w fun e w' => e = .returned (.int .i64 ((lvlF f + 1 : Nat) : Int)) ∧ Below w.heap.size w w'
theorem lv_step (f : F) (k : Nat) (hk : k < f.len) : lvlF (f.drop k) = max (lvlF (f.nth k).args + 1) (lvlF (f.drop (k + 1))) := by
  rw [F.drop_step f k hk, lvlF]
theorem lv_sz : ∀ f : F, lvlF f ≤ szF f
  | .nil => Nat.le_refl _
  | .cons o s l h g a r => by
    have h1 := lv_sz a
    have h2 := lv_sz r
    show max (lvlF a + 1) (lvlF r) ≤ szF a + 1 + szF r
    omega
theorem lev_node (f : F) (hch : ∀ i, i < f.len → LevOk8 (f.nth i).args) : LevOk8 f := by
  intro o l h g st sv w S hsv hft hbd
  have HSV := Lib.hid hsv
  have HCh := Lib.hid hch
  have HF := Lib.hid hft
  obtain ⟨ad, cap, rfl⟩ := slice_form hsv
  obtain ⟨W2, hW2⟩ : ∃ W2, W2 = w.alloc (.cells #[.int .i64 o, .int .u64 (wd st 0 64 : Nat), .int .u64 (wd st 64 64 : Nat), .int .u64 (wd st 128 64 : Nat), .int .u64 (wd st 192 64 : Nat), .int .i64 l, .int .i64 h, .int .i64 g, .slice ad f.len cap] 28) := ⟨_, rfl⟩
  have hx : Below w.heap.size w W2 := by rw [hW2]; exact (Below.refl _ _).alloc (Nat.le_refl _) _
  have hz2 : W2.heap.size = w.heap.size + 1 := by rw [hW2]; simp
  have hg0 : W2.heap[w.heap.size]? = some (.cells #[.int .i64 o, .int .u64 (wd st 0 64 : Nat), .int .u64 (wd st 64 64 : Nat), .int .u64 (wd st 128 64 : Nat), .int .u64 (wd st 192 64 : Nat), .int .i64 l, .int .i64 h, .int .i64 g, .slice ad f.len cap] 28 (0, 0)) := by
    rw [hW2]
    exact heap_alloc_new w _
  have HX := Lib.hid hx
  have HG0 := Lib.hid hg0
  have HZ := Lib.hid hz2
  have HW2 := Lib.hid hW2
  have BX : Hid (∀ wx, Below W2.heap.size W2 wx → Below w.heap.size w wx ∧ wx.cell? ⟨w.heap.size, 0, none⟩ = some (.int .i64 o) ∧ wx.cell? ⟨w.heap.size, 7, none⟩ = some (.int .i64 g) ∧ wx.cell? ⟨w.heap.size, 8, none⟩ = some (.slice ad f.len cap)) := Lib.hid fun wx hb => by
    have hr := (hb.block _ (by have := HZ.out; omega)).trans HG0.out
    exact ⟨HX.out.trans (hb.mono HX.out.size), cell_of_row wx w.heap.size 0 _ _ _ hr, cell_of_row wx w.heap.size 7 _ _ _ hr, cell_of_row wx w.heap.size 8 _ _ _ hr⟩
  clear hsv hch hft hx hz2 hg0 hW2
  have hfl : (f.len : Int) ≤ 9223372036854775807 := by have := HF.out.1; unfold maxLen at this; omega
  have hgz := lv_sz f
  go_enter Try.func42, Try.ntmps42
  go_wp2_with fail
  go_loopw [3, 4] (fun n i wr => ∃ (k m : Nat), k ≤ f.len ∧ i = .int .i64 k ∧ n = .int .i64 m ∧ max m (lvlF (f.drop k)) = lvlF f ∧ Hid (Below W2.heap.size W2 wr)) (fun _ i _ => f.len - (intOf i).toNat)
  case atStart => exact ⟨0, 0, Nat.zero_le _, rfl, rfl, by (have : f.drop 0 = f := by cases f <;> rfl); rw [this]; omega, by rw [HW2.out]; exact Lib.hid (Below.refl _ _)⟩
  case round =>
    obtain ⟨k, m, hk, rfl, rfl, hm, HB⟩ := hrel
    obtain ⟨hbw, _, _, bx⟩ := BX.out wr HB.out
    have HBW := Lib.hid hbw
    clear hbw
    by_cases hkn : k < f.len
    · have ki : (k : Int) < f.len := by omega
      have ki0 : (0 : Int) ≤ k := by omega
      obtain ⟨b, i0, ad2, cp2, rfl, hsv2, c0, c1, c2, c3, c4, c5, c6, c7, c8⟩ := kid HSV.out (Afar.below HBW.out) k hkn
      have HS2 := Lib.hid hsv2
      clear hsv2
      have hst := lv_step f k hkn
      rw [hst] at hm
      have hz2 : szF (f.nth k).args ≤ 2000000 := by have := sz_nth f k hkn; omega
      have HL := Lib.hid (fun W hW => HCh.out k hkn (f.nth k).op (f.nth k).lo (f.nth k).hi (f.nth k).g (f.nth k).st (.slice ad2 (f.nth k).args.len cp2) W S hW (F.fits_nth k HF.out.2 hkn) hz2)
      generalize hZ : lvlF (f.nth k).args + 1 = Z at *
      clear hZ hst
      by_cases hgt : m < Z
      · have hgi : (m : Int) < (Z : Int) := by omega
        go_wp2_with (first
            | (go_at_call 42; (with_reducible refine (HL.out _ HS2.out).mono ?_); rintro e w2 ⟨rfl, hb⟩; have HB1 := Lib.hid (HB.out.trans (hb.mono HB.out.size)); clear hb bx c0 c1 c2 c3 c4 c5 c6 c7 c8))
        go_roundw
        case rel => exact ⟨k + 1, Z, by omega, by go_num, rfl, by omega, HB1⟩
        case measure => simp [intOf]; omega
      · have hgi : ¬ (m : Int) < (Z : Int) := by omega
        go_wp2_with (first
            | (go_at_call 42; (with_reducible refine (HL.out _ HS2.out).mono ?_); rintro e w2 ⟨rfl, hb⟩; have HB1 := Lib.hid (HB.out.trans (hb.mono HB.out.size)); clear hb bx c0 c1 c2 c3 c4 c5 c6 c7 c8))
        go_roundw
        case rel => exact ⟨k + 1, m, by omega, by go_num, rfl, by omega, HB1⟩
        case measure => simp [intOf]; omega
    · obtain rfl : k = f.len := by omega
      rw [F.drop_len] at hm
      have hm2 : m = lvlF f := by have : lvlF .nil = 0 := rfl; omega
      have hwr : IntKind.i64.wrap ((m : Int) + 1) = ((lvlF f + 1 : Nat) : Int) := by rw [IntKind.wrap_i64]; omega
      go_wp2_with fail
      go_ret
      refine ⟨?_, HBW.out⟩
      rw [← hm2]
      first | rfl | (congr 2; omega)
theorem lev_all : ∀ (f : F) (i : Nat), i < f.len → LevOk8 (f.nth i).args
  | .nil, i, h => by cases h
  | .cons o s l h g a r, 0, hi => lev_node a (lev_all a)
  | .cons o s l h g a r, i + 1, hi => lev_all r i (by have : i + 1 < r.len + 1 := hi; omega)
theorem lev_any (f : F) : LevOk8 f := lev_node f (lev_all f)
end Go.Proofs.Ytpfbpgbgedbalaa
/- The reference's Check, in parts: ranged, has, named. -/
set_option linter.unusedVariables false
set_option linter.unusedSimpArgs false
set_option maxRecDepth 100000
set_option maxHeartbeats 8000000
namespace Go.Proofs.Ytpfbpgbgedbalaa
open Go.RowKit

/-- An answer with a flag, as far as the flag says. -/
def RngR (r : Option Nat) (m : Int) (b : Bool) : Prop := match r with | some k => m = k ∧ b = true | none => b = false
def RngOk (f : F) : Prop := ∀ (o l h g : Int) (st : Nat → Bool) (sv : Value) (w : World) (S : Nat → Prop) (n : Nat), SV w S f sv → f.len ≤ maxLen ∧ f.fits → -9223372036854775808 ≤ g ∧ g ≤ 9223372036854775807 → n + szF f + 1 ≤ 4000000 →
  Calls Try.prog 39 #[.agg #[.int .i64 o, .int .u64 (wd st 0 64 : Nat), .int .u64 (wd st 64 64 : Nat), .int .u64 (wd st 128 64 : Nat), .int .u64 (wd st 192 64 : Nat), .int .i64 l, .int .i64 h, .int .i64 g, sv], .int .i64 n] w fun e w' => (∃ m b, e = .returned (.tuple #[.int .i64 m, .bool b]) ∧ RngR (rngN o l h g f n) m b) ∧ Below w.heap.size w w'
theorem rng_step (f : F) (k : Nat) (hk : k < f.len) (n : Nat) : rngF (f.drop k) n = match rngN (f.nth k).op (f.nth k).lo (f.nth k).hi (f.nth k).g (f.nth k).args n with | none => none | some m => rngF (f.drop (k + 1)) m := by
  rw [F.drop_step f k hk, rngF_cons]
  cases rngN (f.nth k).op (f.nth k).lo (f.nth k).hi (f.nth k).g (f.nth k).args n <;> rfl
theorem rngN_le {o l h g : Int} {a : F} {n m : Nat} (hm : rngN o l h g a n = some m) : m ≤ n + szF a + 1 := by
  unfold rngN at hm
  split at hm
  · cases hm
  · split at hm
    · cases hm
    · have i := rngF_gr a _ m hm
      have j := gr_sz a
      split at i <;> omega

theorem rng_5 (f : F) (hch : ∀ i, i < f.len → RngOk (f.nth i).args) (l h g : Int) (st : Nat → Bool) (sv : Value) (w : World) (S : Nat → Prop) (n : Nat) (hsv : SV w S f sv) (hft : f.len ≤ maxLen ∧ f.fits) (hbd : n + szF f + 1 ≤ 4000000) (hbo : bndT l h = true) :
    Calls Try.prog 39 #[.agg #[.int .i64 5, .int .u64 (wd st 0 64 : Nat), .int .u64 (wd st 64 64 : Nat), .int .u64 (wd st 128 64 : Nat), .int .u64 (wd st 192 64 : Nat), .int .i64 l, .int .i64 h, .int .i64 (g), sv], .int .i64 n] w fun e w' => (∃ m b, e = .returned (.tuple #[.int .i64 m, .bool b]) ∧ RngR (rngF f (n)) m b) ∧ Below w.heap.size w w' := by
  have HSV := Lib.hid hsv
  have HCh := Lib.hid hch
  have HF := Lib.hid hft
  obtain ⟨ad, cap, rfl⟩ := slice_form hsv
  obtain ⟨W2, hW2⟩ : ∃ W2, W2 = w.alloc (.cells #[.int .i64 5, .int .u64 (wd st 0 64 : Nat), .int .u64 (wd st 64 64 : Nat), .int .u64 (wd st 128 64 : Nat), .int .u64 (wd st 192 64 : Nat), .int .i64 l, .int .i64 h, .int .i64 (g), .slice ad f.len cap] 28) := ⟨_, rfl⟩
  have hx : Below w.heap.size w W2 := by rw [hW2]; exact (Below.refl _ _).alloc (Nat.le_refl _) _
  have hz2 : W2.heap.size = w.heap.size + 1 := by rw [hW2]; simp
  have hg0 : W2.heap[w.heap.size]? = some (.cells #[.int .i64 5, .int .u64 (wd st 0 64 : Nat), .int .u64 (wd st 64 64 : Nat), .int .u64 (wd st 128 64 : Nat), .int .u64 (wd st 192 64 : Nat), .int .i64 l, .int .i64 h, .int .i64 (g), .slice ad f.len cap] 28 (0, 0)) := by
    rw [hW2]
    exact heap_alloc_new w _
  have HX := Lib.hid hx
  have HG0 := Lib.hid hg0
  have HZ := Lib.hid hz2
  have HW2 := Lib.hid hW2
  have BX : Hid (∀ wx, Below W2.heap.size W2 wx → Below w.heap.size w wx ∧ wx.cell? ⟨w.heap.size, 0, none⟩ = some (.int .i64 5) ∧ wx.cell? ⟨w.heap.size, 7, none⟩ = some (.int .i64 (g)) ∧ wx.cell? ⟨w.heap.size, 8, none⟩ = some (.slice ad f.len cap)) := Lib.hid fun wx hb => by
    have hr := (hb.block _ (by have := HZ.out; omega)).trans HG0.out
    exact ⟨HX.out.trans (hb.mono HX.out.size), cell_of_row wx w.heap.size 0 _ _ _ hr, cell_of_row wx w.heap.size 7 _ _ _ hr, cell_of_row wx w.heap.size 8 _ _ _ hr⟩
  clear hsv hch hft hx hz2 hg0 hW2
  have hfl : (f.len : Int) ≤ 9223372036854775807 := by have := HF.out.1; unfold maxLen at this; omega
  have hn4 : (n : Int) ≤ 4000000 := by omega
  have HC := Lib.hid fun W => counted_any 5 l h g st (.slice ad f.len cap) W
  rw [hbo] at HC
  go_enter Try.func39, Try.ntmps39
  go_wp2_with (first
    | (go_at_call 70; (with_reducible refine (HC.out _).mono ?_); rintro e w1 ⟨rfl, hb⟩
       have hb1 : Below W2.heap.size W2 w1 := by rw [HW2.out]; exact hb
       obtain ⟨_, b0, b7, b8⟩ := BX.out w1 hb1
       have HB1 := Lib.hid hb1; clear hb hb1))
  go_loopw [1, 6] (fun b i wr => ∃ (k m : Nat), k ≤ f.len ∧ i = .int .i64 k ∧ b = .int .i64 m ∧ m + szF (f.drop k) ≤ 4000000 ∧ Hid (Below W2.heap.size W2 wr ∧ rngF f (n) = rngF (f.drop k) m)) (fun _ i _ => f.len - (intOf i).toNat)
  case atStart => exact ⟨0, n, Nat.zero_le _, rfl, by first | rfl | (congr 1; omega), by (have : f.drop 0 = f := by cases f <;> rfl); rw [this]; omega, Lib.hid ⟨HB1.out, by cases f <;> rfl⟩⟩
  case round =>
    obtain ⟨k, m, hk, rfl, rfl, hm, HB⟩ := hrel
    obtain ⟨hbw, _, _, bx⟩ := BX.out wr HB.out.1
    have HBW := Lib.hid hbw
    clear hbw
    by_cases hkn : k < f.len
    · have ki : (k : Int) < f.len := by omega
      have ki0 : (0 : Int) ≤ k := by omega
      obtain ⟨b, i0, ad2, cp2, rfl, hsv2, c0, c1, c2, c3, c4, c5, c6, c7, c8⟩ := kid HSV.out (Afar.below HBW.out) k hkn
      have HS2 := Lib.hid hsv2
      clear hsv2
      have hst := sz_step f k hkn
      rw [hst] at hm
      have hgk := (F.fits_kid k HF.out.2 hkn).2.2
      have HL := Lib.hid (fun W hW => HCh.out k hkn (f.nth k).op (f.nth k).lo (f.nth k).hi (f.nth k).g (f.nth k).st (.slice ad2 (f.nth k).args.len cp2) W S m hW (F.fits_nth k HF.out.2 hkn) hgk (by omega))
      have HSt := Lib.hid (HB.out.2.trans (rng_step f k hkn m))
      obtain ⟨R, hR⟩ : ∃ R, R = rngN (f.nth k).op (f.nth k).lo (f.nth k).hi (f.nth k).g (f.nth k).args m := ⟨_, rfl⟩
      have HR := Lib.hid hR
      rw [← hR] at HSt HL
      clear hst hgk hR
      cases R with
      | none =>
        go_wp2_with (first
          | (go_at_call 39; (with_reducible refine (HL.out _ HS2.out).mono ?_); rintro e w2 ⟨⟨m2, b2, rfl, hb2⟩, hb⟩; have hb2 : b2 = false := hb2; subst hb2; have HB1 := Lib.hid (HB.out.1.trans (hb.mono HB.out.1.size)); clear hb bx c0 c1 c2 c3 c4 c5 c6 c7 c8))
        go_ret2
        refine ⟨⟨_, _, rfl, ?_⟩, HX.out.trans (HB1.out.mono HX.out.size)⟩
        rw [HSt.out]
        rfl
      | some m3 =>
        go_wp2_with (first
          | (go_at_call 39; (with_reducible refine (HL.out _ HS2.out).mono ?_); rintro e w2 ⟨⟨m2, b2, rfl, hb2⟩, hb⟩; obtain ⟨rfl, rfl⟩ : m2 = (m3 : Int) ∧ b2 = true := hb2; have HB1 := Lib.hid (HB.out.1.trans (hb.mono HB.out.1.size)); clear hb bx c0 c1 c2 c3 c4 c5 c6 c7 c8))
        go_roundw
        case rel => exact ⟨k + 1, m3, by omega, by go_num, rfl, by have := rngN_le HR.out.symm; omega, Lib.hid ⟨HB1.out, HSt.out⟩⟩
        case measure => simp [intOf]; omega
    · obtain rfl : k = f.len := by omega
      have hd := HB.out.2
      rw [F.drop_len] at hd
      have HD := Lib.hid hd
      clear hd
      go_wp2_with fail
      go_ret2
      exact ⟨⟨_, _, rfl, by rw [HD.out]; exact ⟨rfl, rfl⟩⟩, HBW.out⟩

theorem rng_5n (f : F) (l h g : Int) (st : Nat → Bool) (sv : Value) (w : World) (n : Nat) (hsv : ∃ ad cap, sv = .slice ad f.len cap) (hbo : bndT l h = false) :
    Calls Try.prog 39 #[.agg #[.int .i64 5, .int .u64 (wd st 0 64 : Nat), .int .u64 (wd st 64 64 : Nat), .int .u64 (wd st 128 64 : Nat), .int .u64 (wd st 192 64 : Nat), .int .i64 l, .int .i64 h, .int .i64 g, sv], .int .i64 n] w fun e w' => (∃ m b, e = .returned (.tuple #[.int .i64 m, .bool b]) ∧ RngR none m b) ∧ Below w.heap.size w w' := by
  obtain ⟨ad, cap, rfl⟩ := hsv
  have HC := Lib.hid fun W => counted_any 5 l h g st (.slice ad f.len cap) W
  rw [hbo] at HC
  have HX := Lib.hid ((Below.refl w.heap.size w).alloc (Nat.le_refl _) (.cells #[.int .i64 5, .int .u64 (wd st 0 64 : Nat), .int .u64 (wd st 64 64 : Nat), .int .u64 (wd st 128 64 : Nat), .int .u64 (wd st 192 64 : Nat), .int .i64 l, .int .i64 h, .int .i64 g, .slice ad f.len cap] 28))
  go_enter Try.func39, Try.ntmps39
  go_wp2_with (first
    | (go_at_call 70; (with_reducible refine (HC.out _).mono ?_); rintro e w1 ⟨rfl, hb⟩
       have HB1 := Lib.hid (HX.out.trans (hb.mono HX.out.size)); clear hb))
  go_ret2
  exact ⟨⟨_, _, rfl, rfl⟩, HB1.out⟩

theorem rng_6 (f : F) (hch : ∀ i, i < f.len → RngOk (f.nth i).args) (l h : Int) (st : Nat → Bool) (sv : Value) (w : World) (S : Nat → Prop) (n : Nat) (hsv : SV w S f sv) (hft : f.len ≤ maxLen ∧ f.fits) (hbd : n + szF f + 1 ≤ 4000000) :
    Calls Try.prog 39 #[.agg #[.int .i64 6, .int .u64 (wd st 0 64 : Nat), .int .u64 (wd st 64 64 : Nat), .int .u64 (wd st 128 64 : Nat), .int .u64 (wd st 192 64 : Nat), .int .i64 l, .int .i64 h, .int .i64 ((n : Int) + 1), sv], .int .i64 n] w fun e w' => (∃ m b, e = .returned (.tuple #[.int .i64 m, .bool b]) ∧ RngR (rngF f (n + 1)) m b) ∧ Below w.heap.size w w' := by
  have HSV := Lib.hid hsv
  have HCh := Lib.hid hch
  have HF := Lib.hid hft
  obtain ⟨ad, cap, rfl⟩ := slice_form hsv
  obtain ⟨W2, hW2⟩ : ∃ W2, W2 = w.alloc (.cells #[.int .i64 6, .int .u64 (wd st 0 64 : Nat), .int .u64 (wd st 64 64 : Nat), .int .u64 (wd st 128 64 : Nat), .int .u64 (wd st 192 64 : Nat), .int .i64 l, .int .i64 h, .int .i64 ((n : Int) + 1), .slice ad f.len cap] 28) := ⟨_, rfl⟩
  have hx : Below w.heap.size w W2 := by rw [hW2]; exact (Below.refl _ _).alloc (Nat.le_refl _) _
  have hz2 : W2.heap.size = w.heap.size + 1 := by rw [hW2]; simp
  have hg0 : W2.heap[w.heap.size]? = some (.cells #[.int .i64 6, .int .u64 (wd st 0 64 : Nat), .int .u64 (wd st 64 64 : Nat), .int .u64 (wd st 128 64 : Nat), .int .u64 (wd st 192 64 : Nat), .int .i64 l, .int .i64 h, .int .i64 ((n : Int) + 1), .slice ad f.len cap] 28 (0, 0)) := by
    rw [hW2]
    exact heap_alloc_new w _
  have HX := Lib.hid hx
  have HG0 := Lib.hid hg0
  have HZ := Lib.hid hz2
  have HW2 := Lib.hid hW2
  have BX : Hid (∀ wx, Below W2.heap.size W2 wx → Below w.heap.size w wx ∧ wx.cell? ⟨w.heap.size, 0, none⟩ = some (.int .i64 6) ∧ wx.cell? ⟨w.heap.size, 7, none⟩ = some (.int .i64 ((n : Int) + 1)) ∧ wx.cell? ⟨w.heap.size, 8, none⟩ = some (.slice ad f.len cap)) := Lib.hid fun wx hb => by
    have hr := (hb.block _ (by have := HZ.out; omega)).trans HG0.out
    exact ⟨HX.out.trans (hb.mono HX.out.size), cell_of_row wx w.heap.size 0 _ _ _ hr, cell_of_row wx w.heap.size 7 _ _ _ hr, cell_of_row wx w.heap.size 8 _ _ _ hr⟩
  clear hsv hch hft hx hz2 hg0 hW2
  have hfl : (f.len : Int) ≤ 9223372036854775807 := by have := HF.out.1; unfold maxLen at this; omega
  have hn4 : (n : Int) ≤ 4000000 := by omega
  have hw1 : IntKind.i64.wrap ((n : Int) + 1 - 1) = (n : Int) := by rw [IntKind.wrap_i64]; omega
  have hw2 : IntKind.i64.wrap ((n : Int) + 1) = ((n + 1 : Nat) : Int) := by rw [IntKind.wrap_i64]; omega
  have hw3 : ((n : Int) == (n : Int)) = true := by simp
  go_enter Try.func39, Try.ntmps39
  go_wp2_with fail
  go_loopw [1, 6] (fun b i wr => ∃ (k m : Nat), k ≤ f.len ∧ i = .int .i64 k ∧ b = .int .i64 m ∧ m + szF (f.drop k) ≤ 4000000 ∧ Hid (Below W2.heap.size W2 wr ∧ rngF f (n + 1) = rngF (f.drop k) m)) (fun _ i _ => f.len - (intOf i).toNat)
  case atStart => exact ⟨0, n + 1, Nat.zero_le _, rfl, by first | rfl | (congr 1; omega), by (have : f.drop 0 = f := by cases f <;> rfl); rw [this]; omega, Lib.hid ⟨by rw [HW2.out]; exact Below.refl _ _, by cases f <;> rfl⟩⟩
  case round =>
    obtain ⟨k, m, hk, rfl, rfl, hm, HB⟩ := hrel
    obtain ⟨hbw, _, _, bx⟩ := BX.out wr HB.out.1
    have HBW := Lib.hid hbw
    clear hbw
    by_cases hkn : k < f.len
    · have ki : (k : Int) < f.len := by omega
      have ki0 : (0 : Int) ≤ k := by omega
      obtain ⟨b, i0, ad2, cp2, rfl, hsv2, c0, c1, c2, c3, c4, c5, c6, c7, c8⟩ := kid HSV.out (Afar.below HBW.out) k hkn
      have HS2 := Lib.hid hsv2
      clear hsv2
      have hst := sz_step f k hkn
      rw [hst] at hm
      have hgk := (F.fits_kid k HF.out.2 hkn).2.2
      have HL := Lib.hid (fun W hW => HCh.out k hkn (f.nth k).op (f.nth k).lo (f.nth k).hi (f.nth k).g (f.nth k).st (.slice ad2 (f.nth k).args.len cp2) W S m hW (F.fits_nth k HF.out.2 hkn) hgk (by omega))
      have HSt := Lib.hid (HB.out.2.trans (rng_step f k hkn m))
      obtain ⟨R, hR⟩ : ∃ R, R = rngN (f.nth k).op (f.nth k).lo (f.nth k).hi (f.nth k).g (f.nth k).args m := ⟨_, rfl⟩
      have HR := Lib.hid hR
      rw [← hR] at HSt HL
      clear hst hgk hR
      cases R with
      | none =>
        go_wp2_with (first
          | (go_at_call 39; (with_reducible refine (HL.out _ HS2.out).mono ?_); rintro e w2 ⟨⟨m2, b2, rfl, hb2⟩, hb⟩; have hb2 : b2 = false := hb2; subst hb2; have HB1 := Lib.hid (HB.out.1.trans (hb.mono HB.out.1.size)); clear hb bx c0 c1 c2 c3 c4 c5 c6 c7 c8))
        go_ret2
        refine ⟨⟨_, _, rfl, ?_⟩, HX.out.trans (HB1.out.mono HX.out.size)⟩
        rw [HSt.out]
        rfl
      | some m3 =>
        go_wp2_with (first
          | (go_at_call 39; (with_reducible refine (HL.out _ HS2.out).mono ?_); rintro e w2 ⟨⟨m2, b2, rfl, hb2⟩, hb⟩; obtain ⟨rfl, rfl⟩ : m2 = (m3 : Int) ∧ b2 = true := hb2; have HB1 := Lib.hid (HB.out.1.trans (hb.mono HB.out.1.size)); clear hb bx c0 c1 c2 c3 c4 c5 c6 c7 c8))
        go_roundw
        case rel => exact ⟨k + 1, m3, by omega, by go_num, rfl, by have := rngN_le HR.out.symm; omega, Lib.hid ⟨HB1.out, HSt.out⟩⟩
        case measure => simp [intOf]; omega
    · obtain rfl : k = f.len := by omega
      have hd := HB.out.2
      rw [F.drop_len] at hd
      have HD := Lib.hid hd
      clear hd
      go_wp2_with fail
      go_ret2
      exact ⟨⟨_, _, rfl, by rw [HD.out]; exact ⟨rfl, rfl⟩⟩, HBW.out⟩

theorem rng_6n (f : F) (l h g : Int) (st : Nat → Bool) (sv : Value) (w : World) (n : Nat) (hsv : ∃ ad cap, sv = .slice ad f.len cap) (hn : n ≤ 4000000) (hg : -9223372036854775808 ≤ g ∧ g ≤ 9223372036854775807) (hne : ¬ g = (n : Int) + 1) :
    Calls Try.prog 39 #[.agg #[.int .i64 6, .int .u64 (wd st 0 64 : Nat), .int .u64 (wd st 64 64 : Nat), .int .u64 (wd st 128 64 : Nat), .int .u64 (wd st 192 64 : Nat), .int .i64 l, .int .i64 h, .int .i64 g, sv], .int .i64 n] w fun e w' => (∃ m b, e = .returned (.tuple #[.int .i64 m, .bool b]) ∧ RngR none m b) ∧ Below w.heap.size w w' := by
  obtain ⟨ad, cap, rfl⟩ := hsv
  have HX := Lib.hid ((Below.refl w.heap.size w).alloc (Nat.le_refl _) (.cells #[.int .i64 6, .int .u64 (wd st 0 64 : Nat), .int .u64 (wd st 64 64 : Nat), .int .u64 (wd st 128 64 : Nat), .int .u64 (wd st 192 64 : Nat), .int .i64 l, .int .i64 h, .int .i64 g, .slice ad f.len cap] 28))
  have hq : (IntKind.i64.wrap (g - 1) == (n : Int)) = false := by
    rw [beq_eq_false_iff_ne, IntKind.wrap_i64]
    omega
  obtain ⟨Y, hY⟩ : ∃ Y, IntKind.i64.wrap (g - 1) = Y := ⟨_, rfl⟩
  rw [hY] at hq
  clear hg hne
  go_enter Try.func39, Try.ntmps39
  go_wp2_with fail
  go_ret2
  exact ⟨⟨_, _, rfl, rfl⟩, HX.out⟩

theorem rng_x (f : F) (hch : ∀ i, i < f.len → RngOk (f.nth i).args) (o l h g : Int) (st : Nat → Bool) (sv : Value) (w : World) (S : Nat → Prop) (n : Nat) (hsv : SV w S f sv) (hft : f.len ≤ maxLen ∧ f.fits) (hbd : n + szF f + 1 ≤ 4000000) (e5 : (o == 5) = false) (e6 : (o == 6) = false) (o5 : ¬ o = 5) (o6 : ¬ o = 6) :
    Calls Try.prog 39 #[.agg #[.int .i64 o, .int .u64 (wd st 0 64 : Nat), .int .u64 (wd st 64 64 : Nat), .int .u64 (wd st 128 64 : Nat), .int .u64 (wd st 192 64 : Nat), .int .i64 l, .int .i64 h, .int .i64 (g), sv], .int .i64 n] w fun e w' => (∃ m b, e = .returned (.tuple #[.int .i64 m, .bool b]) ∧ RngR (rngF f (n)) m b) ∧ Below w.heap.size w w' := by
  have HSV := Lib.hid hsv
  have HCh := Lib.hid hch
  have HF := Lib.hid hft
  obtain ⟨ad, cap, rfl⟩ := slice_form hsv
  obtain ⟨W2, hW2⟩ : ∃ W2, W2 = w.alloc (.cells #[.int .i64 o, .int .u64 (wd st 0 64 : Nat), .int .u64 (wd st 64 64 : Nat), .int .u64 (wd st 128 64 : Nat), .int .u64 (wd st 192 64 : Nat), .int .i64 l, .int .i64 h, .int .i64 (g), .slice ad f.len cap] 28) := ⟨_, rfl⟩
  have hx : Below w.heap.size w W2 := by rw [hW2]; exact (Below.refl _ _).alloc (Nat.le_refl _) _
  have hz2 : W2.heap.size = w.heap.size + 1 := by rw [hW2]; simp
  have hg0 : W2.heap[w.heap.size]? = some (.cells #[.int .i64 o, .int .u64 (wd st 0 64 : Nat), .int .u64 (wd st 64 64 : Nat), .int .u64 (wd st 128 64 : Nat), .int .u64 (wd st 192 64 : Nat), .int .i64 l, .int .i64 h, .int .i64 (g), .slice ad f.len cap] 28 (0, 0)) := by
    rw [hW2]
    exact heap_alloc_new w _
  have HX := Lib.hid hx
  have HG0 := Lib.hid hg0
  have HZ := Lib.hid hz2
  have HW2 := Lib.hid hW2
  have BX : Hid (∀ wx, Below W2.heap.size W2 wx → Below w.heap.size w wx ∧ wx.cell? ⟨w.heap.size, 0, none⟩ = some (.int .i64 o) ∧ wx.cell? ⟨w.heap.size, 7, none⟩ = some (.int .i64 (g)) ∧ wx.cell? ⟨w.heap.size, 8, none⟩ = some (.slice ad f.len cap)) := Lib.hid fun wx hb => by
    have hr := (hb.block _ (by have := HZ.out; omega)).trans HG0.out
    exact ⟨HX.out.trans (hb.mono HX.out.size), cell_of_row wx w.heap.size 0 _ _ _ hr, cell_of_row wx w.heap.size 7 _ _ _ hr, cell_of_row wx w.heap.size 8 _ _ _ hr⟩
  clear hsv hch hft hx hz2 hg0 hW2
  have hfl : (f.len : Int) ≤ 9223372036854775807 := by have := HF.out.1; unfold maxLen at this; omega
  have hn4 : (n : Int) ≤ 4000000 := by omega
  go_enter Try.func39, Try.ntmps39
  go_wp2_with fail
  go_loopw [1, 6] (fun b i wr => ∃ (k m : Nat), k ≤ f.len ∧ i = .int .i64 k ∧ b = .int .i64 m ∧ m + szF (f.drop k) ≤ 4000000 ∧ Hid (Below W2.heap.size W2 wr ∧ rngF f (n) = rngF (f.drop k) m)) (fun _ i _ => f.len - (intOf i).toNat)
  case atStart => exact ⟨0, n, Nat.zero_le _, rfl, by first | rfl | (congr 1; omega), by (have : f.drop 0 = f := by cases f <;> rfl); rw [this]; omega, Lib.hid ⟨by rw [HW2.out]; exact Below.refl _ _, by cases f <;> rfl⟩⟩
  case round =>
    obtain ⟨k, m, hk, rfl, rfl, hm, HB⟩ := hrel
    obtain ⟨hbw, _, _, bx⟩ := BX.out wr HB.out.1
    have HBW := Lib.hid hbw
    clear hbw
    by_cases hkn : k < f.len
    · have ki : (k : Int) < f.len := by omega
      have ki0 : (0 : Int) ≤ k := by omega
      obtain ⟨b, i0, ad2, cp2, rfl, hsv2, c0, c1, c2, c3, c4, c5, c6, c7, c8⟩ := kid HSV.out (Afar.below HBW.out) k hkn
      have HS2 := Lib.hid hsv2
      clear hsv2
      have hst := sz_step f k hkn
      rw [hst] at hm
      have hgk := (F.fits_kid k HF.out.2 hkn).2.2
      have HL := Lib.hid (fun W hW => HCh.out k hkn (f.nth k).op (f.nth k).lo (f.nth k).hi (f.nth k).g (f.nth k).st (.slice ad2 (f.nth k).args.len cp2) W S m hW (F.fits_nth k HF.out.2 hkn) hgk (by omega))
      have HSt := Lib.hid (HB.out.2.trans (rng_step f k hkn m))
      obtain ⟨R, hR⟩ : ∃ R, R = rngN (f.nth k).op (f.nth k).lo (f.nth k).hi (f.nth k).g (f.nth k).args m := ⟨_, rfl⟩
      have HR := Lib.hid hR
      rw [← hR] at HSt HL
      clear hst hgk hR
      cases R with
      | none =>
        go_wp2_with (first
          | (go_at_call 39; (with_reducible refine (HL.out _ HS2.out).mono ?_); rintro e w2 ⟨⟨m2, b2, rfl, hb2⟩, hb⟩; have hb2 : b2 = false := hb2; subst hb2; have HB1 := Lib.hid (HB.out.1.trans (hb.mono HB.out.1.size)); clear hb bx c0 c1 c2 c3 c4 c5 c6 c7 c8))
        go_ret2
        refine ⟨⟨_, _, rfl, ?_⟩, HX.out.trans (HB1.out.mono HX.out.size)⟩
        rw [HSt.out]
        rfl
      | some m3 =>
        go_wp2_with (first
          | (go_at_call 39; (with_reducible refine (HL.out _ HS2.out).mono ?_); rintro e w2 ⟨⟨m2, b2, rfl, hb2⟩, hb⟩; obtain ⟨rfl, rfl⟩ : m2 = (m3 : Int) ∧ b2 = true := hb2; have HB1 := Lib.hid (HB.out.1.trans (hb.mono HB.out.1.size)); clear hb bx c0 c1 c2 c3 c4 c5 c6 c7 c8))
        go_roundw
        case rel => exact ⟨k + 1, m3, by omega, by go_num, rfl, by have := rngN_le HR.out.symm; omega, Lib.hid ⟨HB1.out, HSt.out⟩⟩
        case measure => simp [intOf]; omega
    · obtain rfl : k = f.len := by omega
      have hd := HB.out.2
      rw [F.drop_len] at hd
      have HD := Lib.hid hd
      clear hd
      go_wp2_with fail
      go_ret2
      exact ⟨⟨_, _, rfl, by rw [HD.out]; exact ⟨rfl, rfl⟩⟩, HBW.out⟩

theorem rng_node (f : F) (hch : ∀ i, i < f.len → RngOk (f.nth i).args) : RngOk f := by
  intro o l h g st sv w S n hsv hft hg hbd
  unfold rngN
  by_cases o5 : o = 5
  · subst o5
    cases hb : bndT l h
    · rw [if_pos ⟨rfl, rfl⟩]
      exact rng_5n f l h g st sv w n (slice_form hsv) hb
    · rw [if_neg (by simp), if_neg (by simp), if_neg (by decide)]
      exact rng_5 f hch l h g st sv w S n hsv hft hbd hb
  rw [if_neg (fun k => o5 k.1)]
  by_cases o6 : o = 6
  · subst o6
    by_cases hq : g = (n : Int) + 1
    · subst hq
      rw [if_neg (by simp), if_pos rfl]
      exact rng_6 f hch l h st sv w S n hsv hft hbd
    · rw [if_pos ⟨rfl, hq⟩]
      exact rng_6n f l h g st sv w n (slice_form hsv) (by omega) hg hq
  · rw [if_neg (fun k => o6 k.1), if_neg o6]
    exact rng_x f hch o l h g st sv w S n hsv hft hbd (by simpa using o5) (by simpa using o6) o5 o6
theorem rng_all : ∀ (f : F) (i : Nat), i < f.len → RngOk (f.nth i).args
  | .nil, i, h => by cases h
  | .cons o s l h g a r, 0, hi => rng_node a (rng_all a)
  | .cons o s l h g a r, i + 1, hi => rng_all r i (by have : i + 1 < r.len + 1 := hi; omega)
theorem rng_any (f : F) : RngOk f := rng_node f (rng_all f)
/-- Is a number in a list? -/
theorem has_any (n0 : Nat) (xs : List Int) (v : Value) (g : Int) (w : World) (h : PV 3 1 cells_i w n0 xs v) (hl : xs.length ≤ 4000000) :
    Calls Try.prog 71 #[v, .int .i64 g] w fun e w' => e = .returned (.bool (xs.contains g)) ∧ w' = w := by
  obtain ⟨ad, cap, rfl⟩ := own_sl h
  have hxl : (xs.length : Int) ≤ 9223372036854775807 := by omega
  clear hl
  have H := Lib.hid h
  obtain ⟨A, hA⟩ : ∃ A, A = xs.contains g := ⟨_, rfl⟩
  rw [← hA]
  have HA := Lib.hid hA
  clear h hA
  go_enter Try.func71, Try.ntmps71
  go_wp2_with fail
  go_loop [5] (fun i => ∃ k : Nat, k ≤ xs.length ∧ i = .int .i64 k ∧ Hid (A = (xs.drop k).contains g)) (fun i => xs.length - (intOf i).toNat)
  case atStart => exact ⟨0, Nat.zero_le _, rfl, Lib.hid HA.out⟩
  case round =>
    obtain ⟨k, hk, rfl, HC⟩ := hrel
    by_cases hkn : k < xs.length
    · have ki : (k : Int) < xs.length := by omega
      have ki0 : (0 : Int) ≤ k := by omega
      obtain ⟨b, cap2, hs⟩ := own_more H.out (by omega)
      cases hs
      have hc := H.out.get clen_i k hkn 0 (by decide)
      rw [Nat.mul_one, Nat.add_zero] at hc
      have hd : xs.drop k = xs[k] :: xs.drop (k + 1) := List.drop_eq_getElem_cons hkn
      have hI := HC.out
      rw [hd, List.contains_cons] at hI
      replace hc : w.cell? ⟨b, k, none⟩ = some (.int .i64 xs[k]) := hc
      generalize xs[k] = x at hc hI
      by_cases hx : x = g
      · subst hx
        rw [show (x == x) = true by simp, Bool.true_or] at hI
        clear hd HC HA
        subst hI
        go_wp2_with fail
        go_ret
        exact ⟨rfl, rfl⟩
      · have hq : (x == g) = false := by simpa using hx
        rw [beq_eq_false_iff_ne.2 (fun e => hx e.symm), Bool.false_or] at hI
        have HI2 := Lib.hid hI
        clear hI hd hx
        go_wp2_with fail
        go_round
        case rel => exact ⟨k + 1, by omega, by go_num, HI2⟩
        case measure => simp [intOf]; omega
    · obtain rfl : k = xs.length := by omega
      have hI := HC.out
      rw [List.drop_length] at hI
      replace hI : A = false := hI
      clear HC HA
      subst hI
      go_wp2_with fail
      go_ret
      exact ⟨rfl, rfl⟩
end Go.Proofs.Ytpfbpgbgedbalaa
/- The reference's named and Check. -/
set_option linter.unusedVariables false
set_option linter.unusedSimpArgs false
set_option maxRecDepth 100000
set_option maxHeartbeats 8000000
namespace Go.Proofs.Ytpfbpgbgedbalaa
open Go.RowKit

theorem PV.keep {T : Type} {E : TypeId} {k : Nat} {c : T → List Value} {w w' : World} {n0 : Nat} {xs : List T} {v : Value} {S : Nat → Prop} (h : PV E k c w n0 xs v) (hb : Keep S w w') (hS : ∀ g, v.ownBlock = some g → ¬ S g) : PV E k c w' n0 xs v := own_keep h hb hS
theorem Keep.afar {S T : Nat → Prop} {w w' : World} (h : Keep S w w') (hT : ∀ b, T b → ¬ S b) : Afar T T w w' := ⟨h.size, fun b h1 h2 => ⟨h1, h.block b h2 (hT b h1)⟩⟩
/-- What named answers: the groups that are closed, in a list of its own. -/
def NamR (r : Option (List Int)) (n0 : Nat) (v : Value) (w w' : World) (cv : Value) (b : Bool) : Prop := match r with
  | some ys => b = true ∧ PV 3 1 cells_i w' n0 ys cv ∧ ∀ g, cv.ownBlock = some g → v.ownBlock = some g ∨ w.heap.size ≤ g
  | none => b = false
def NamOk (f : F) : Prop := ∀ (o l h g : Int) (st : Nat → Bool) (sv : Value) (w : World) (S : Nat → Prop) (n0 : Nat) (xs : List Int) (v : Value), SV w S f sv → f.len ≤ maxLen ∧ f.fits → (∀ b, S b → b < n0) → n0 ≤ w.heap.size → PV 3 1 cells_i w n0 xs v → xs.length + szF f + 1 ≤ 4000000 →
  Calls Try.prog 40 #[.agg #[.int .i64 o, .int .u64 (wd st 0 64 : Nat), .int .u64 (wd st 64 64 : Nat), .int .u64 (wd st 128 64 : Nat), .int .u64 (wd st 192 64 : Nat), .int .i64 l, .int .i64 h, .int .i64 g, sv], v] w fun e w' => (∃ cv b, e = .returned (.tuple #[cv, .bool b]) ∧ NamR (nmdN o g f xs) n0 v w w' cv b) ∧ Keep (fun b => v.ownBlock = some b) w w'
theorem nmd_step (f : F) (k : Nat) (hk : k < f.len) (n : List Int) : nmdF (f.drop k) n = match nmdN (f.nth k).op (f.nth k).g (f.nth k).args n with | none => none | some m => nmdF (f.drop (k + 1)) m := by
  rw [F.drop_step f k hk, nmdF_cons]
  cases nmdN (f.nth k).op (f.nth k).g (f.nth k).args n <;> rfl
theorem nmdF_le : ∀ (f : F) (n m : List Int), nmdF f n = some m → m.length ≤ n.length + szF f
  | .nil, n, m, h => by obtain rfl := Option.some.inj h; exact Nat.le_refl _
  | .cons o s l hh g a r, n, m, h => by
    rw [nmdF] at h
    split at h
    · cases h
    · cases hn : nmdF a n with
      | none => rw [hn] at h; cases h
      | some d =>
        rw [hn] at h
        have i := nmdF_le a n d hn
        have j := nmdF_le r _ m h
        show m.length ≤ n.length + (szF a + 1 + szF r)
        split at j
        · rw [List.length_append] at j
          simp only [List.length_cons, List.length_nil] at j
          omega
        · omega
theorem nmdN_le {o g : Int} {a : F} {n m : List Int} (hm : nmdN o g a n = some m) : m.length ≤ n.length + szF a + 1 := by
  unfold nmdN at hm
  split at hm
  · cases hm
  · cases hn : nmdF a n with
    | none => rw [hn] at hm; cases hm
    | some d =>
      rw [hn] at hm
      have i := nmdF_le a n d hn
      have hm : some (if o = 6 then d ++ [g] else d) = some m := hm
      obtain rfl := Option.some.inj hm
      split
      · rw [List.length_append]
        simp only [List.length_cons, List.length_nil]
        omega
      · omega

theorem nam_x (f : F) (hch : ∀ i, i < f.len → NamOk (f.nth i).args) (o l h g : Int) (st : Nat → Bool) (sv : Value) (w : World) (S : Nat → Prop) (n0 : Nat) (xs : List Int) (v : Value) (hsv : SV w S f sv) (hft : f.len ≤ maxLen ∧ f.fits) (hS : ∀ b, S b → b < n0) (hn0 : n0 ≤ w.heap.size) (hpv : PV 3 1 cells_i w n0 xs v) (hbd : xs.length + szF f + 1 ≤ 4000000) (e9 : (o == 9) = false) (e6 : (o == 6) = false) :
    Calls Try.prog 40 #[.agg #[.int .i64 o, .int .u64 (wd st 0 64 : Nat), .int .u64 (wd st 64 64 : Nat), .int .u64 (wd st 128 64 : Nat), .int .u64 (wd st 192 64 : Nat), .int .i64 l, .int .i64 h, .int .i64 g, sv], v] w fun e w' => (∃ cv b, e = .returned (.tuple #[cv, .bool b]) ∧ NamR (nmdF f xs) n0 v w w' cv b) ∧ Keep (fun b => v.ownBlock = some b) w w' := by
  have HSV := Lib.hid hsv
  have HCh := Lib.hid hch
  have HF := Lib.hid hft
  obtain ⟨ad, cap, rfl⟩ := slice_form hsv
  obtain ⟨W2, hW2⟩ : ∃ W2, W2 = w.alloc (.cells #[.int .i64 o, .int .u64 (wd st 0 64 : Nat), .int .u64 (wd st 64 64 : Nat), .int .u64 (wd st 128 64 : Nat), .int .u64 (wd st 192 64 : Nat), .int .i64 l, .int .i64 h, .int .i64 g, .slice ad f.len cap] 28) := ⟨_, rfl⟩
  have hx : Below w.heap.size w W2 := by rw [hW2]; exact (Below.refl _ _).alloc (Nat.le_refl _) _
  have hz2 : W2.heap.size = w.heap.size + 1 := by rw [hW2]; simp
  have hg0 : W2.heap[w.heap.size]? = some (.cells #[.int .i64 o, .int .u64 (wd st 0 64 : Nat), .int .u64 (wd st 64 64 : Nat), .int .u64 (wd st 128 64 : Nat), .int .u64 (wd st 192 64 : Nat), .int .i64 l, .int .i64 h, .int .i64 g, .slice ad f.len cap] 28 (0, 0)) := by
    rw [hW2]
    exact heap_alloc_new w _
  have HX := Lib.hid hx
  have HG0 := Lib.hid hg0
  have HZ := Lib.hid hz2
  have HW2 := Lib.hid hW2
  have BX : Hid (∀ wx, Below W2.heap.size W2 wx → Below w.heap.size w wx ∧ wx.cell? ⟨w.heap.size, 0, none⟩ = some (.int .i64 o) ∧ wx.cell? ⟨w.heap.size, 7, none⟩ = some (.int .i64 g) ∧ wx.cell? ⟨w.heap.size, 8, none⟩ = some (.slice ad f.len cap)) := Lib.hid fun wx hb => by
    have hr := (hb.block _ (by have := HZ.out; omega)).trans HG0.out
    exact ⟨HX.out.trans (hb.mono HX.out.size), cell_of_row wx w.heap.size 0 _ _ _ hr, cell_of_row wx w.heap.size 7 _ _ _ hr, cell_of_row wx w.heap.size 8 _ _ _ hr⟩
  clear hsv hch hft hx hz2 hg0 hW2
  have hfl : (f.len : Int) ≤ 9223372036854775807 := by have := HF.out.1; unfold maxLen at this; omega
  have HPV := Lib.hid (show PV 3 1 cells_i W2 n0 xs v from by rw [HW2.out]; exact hpv.below ((Below.refl _ _).alloc (Nat.le_refl _) _))
  have HN := Lib.hid hn0
  have HS := Lib.hid hS
  have HBd := Lib.hid hbd
  have HOB := Lib.hid (fun g (hg : v.ownBlock = some g) => (own_at hpv g hg))
  obtain ⟨vad, vcap, rfl⟩ := own_sl hpv
  generalize hxl : xs.length = xl at *
  have HXl := Lib.hid hxl
  clear hpv hn0 hS hbd hxl
  go_enter Try.func40, Try.ntmps40
  go_wp2_with fail
  go_loopw [1, 6] (fun c i wr => ∃ (k : Nat) (ys : List Int), k ≤ f.len ∧ i = .int .i64 k ∧ Hid (ys.length + szF (f.drop k) ≤ 4000000 ∧ PV 3 1 cells_i wr n0 ys c ∧ (∀ g, c.ownBlock = some g → (Value.slice vad xl vcap).ownBlock = some g ∨ W2.heap.size ≤ g) ∧ Keep (fun b => (Value.slice vad xl vcap).ownBlock = some b) W2 wr ∧ nmdF f xs = nmdF (f.drop k) ys)) (fun _ i _ => f.len - (intOf i).toNat)
  case atStart =>
    refine ⟨0, xs, Nat.zero_le _, rfl, Lib.hid ⟨?_, (by rw [← HW2.out]; exact HPV.out), fun g hg => .inl hg, (by rw [← HW2.out]; exact Keep.refl _ _), by cases f <;> rfl⟩⟩
    have : f.drop 0 = f := by cases f <;> rfl
    rw [this, HXl.out]
    have := HBd.out
    omega
  case round =>
    obtain ⟨k, ys, hk, rfl, HB⟩ := hrel
    have hkw : Keep (fun b => (Value.slice vad xl vcap).ownBlock = some b) w wr := ((Keep.of_below HX.out).trans HB.out.2.2.2.1 (fun _ _ h => h)).mono (fun _ h => h)
    have hnb : ¬ (Value.slice vad xl vcap).ownBlock = some w.heap.size := fun e => by have := (HOB.out _ e).2; omega
    have hbox : wr.heap[w.heap.size]? = some (.cells #[.int .i64 o, .int .u64 (wd st 0 64 : Nat), .int .u64 (wd st 64 64 : Nat), .int .u64 (wd st 128 64 : Nat), .int .u64 (wd st 192 64 : Nat), .int .i64 l, .int .i64 h, .int .i64 g, .slice ad f.len cap] 28 (0, 0)) := (HB.out.2.2.2.1.block _ (by have := HZ.out; omega) hnb).trans HG0.out
    have b0 := cell_of_row wr w.heap.size 0 _ _ _ hbox
    have b7 := cell_of_row wr w.heap.size 7 _ _ _ hbox
    have bx := cell_of_row wr w.heap.size 8 _ _ _ hbox
    replace b0 : wr.cell? ⟨w.heap.size, 0, none⟩ = some (.int .i64 o) := b0
    replace b7 : wr.cell? ⟨w.heap.size, 7, none⟩ = some (.int .i64 g) := b7
    replace bx : wr.cell? ⟨w.heap.size, 8, none⟩ = some (.slice ad f.len cap) := bx
    have hlt : w.heap.size < wr.heap.size := (Array.getElem?_eq_some_iff.1 hbox).1
    have HLT := Lib.hid hlt
    have HKW := Lib.hid hkw
    have HBox := Lib.hid hbox
    clear hkw hnb hbox hlt
    by_cases hkn : k < f.len
    · have ki : (k : Int) < f.len := by omega
      have ki0 : (0 : Int) ≤ k := by omega
      obtain ⟨b, i0, ad2, cp2, rfl, hsv2, c0, c1, c2, c3, c4, c5, c6, c7, c8⟩ := kid HSV.out (HKW.out.afar (fun b hb e => by have := HS.out b hb; have := (HOB.out b e).1; omega)) k hkn
      have HS2 := Lib.hid hsv2
      have hst := sz_step f k hkn
      have hle := HB.out.1
      rw [hst] at hle
      obtain ⟨cad, ccap, rfl⟩ := own_sl HB.out.2.1
      have HL := Lib.hid (fun W hW hn (hP : PV 3 1 cells_i W n0 ys (.slice cad ys.length ccap)) => HCh.out k hkn (f.nth k).op (f.nth k).lo (f.nth k).hi (f.nth k).g (f.nth k).st (.slice ad2 (f.nth k).args.len cp2) W S n0 ys (.slice cad ys.length ccap) hW (F.fits_nth k HF.out.2 hkn) HS.out hn hP (by omega))
      have HSt := Lib.hid (HB.out.2.2.2.2.trans (nmd_step f k hkn ys))
      obtain ⟨R, hR⟩ : ∃ R, R = nmdN (f.nth k).op (f.nth k).g (f.nth k).args ys := ⟨_, rfl⟩
      have HR := Lib.hid hR
      have HLe := Lib.hid hle
      rw [← hR] at HSt HL
      clear hst hle hR hsv2
      cases R with
      | none =>
        go_wp2_with (first
          | (go_at_call 40; (with_reducible refine (HL.out _ HS2.out (by have := HN.out; have := HLT.out; omega) HB.out.2.1).mono ?_); rintro e w2 ⟨⟨m2, b2, rfl, hb2⟩, hb⟩; replace hb2 : b2 = false := hb2; subst hb2; have HB1 := Lib.hid hb; clear hb bx b0 b7 c0 c1 c2 c3 c4 c5 c6 c7 c8))
        go_ret2
        refine ⟨⟨_, _, rfl, ?_⟩, ?_⟩
        · rw [HSt.out]; rfl
        · exact HKW.out.trans HB1.out (fun g hg h => by
            rcases HB.out.2.2.1 g h with h1 | h1
            · exact h1
            · have := HZ.out; omega)
      | some zs =>
        go_wp2_with (first
          | (go_at_call 40; (with_reducible refine (HL.out _ HS2.out (by have := HN.out; have := HLT.out; omega) HB.out.2.1).mono ?_); rintro e w2 ⟨⟨m2, b2, rfl, hb2⟩, hb⟩; obtain ⟨rfl, hp2, ho2⟩ : b2 = true ∧ PV 3 1 cells_i w2 n0 zs m2 ∧ (∀ g, m2.ownBlock = some g → (Value.slice cad ys.length ccap).ownBlock = some g ∨ wr.heap.size ≤ g) := hb2; have HB1 := Lib.hid hb; have HP2 := Lib.hid hp2; have HO2 := Lib.hid ho2; clear hb bx b0 b7 c0 c1 c2 c3 c4 c5 c6 c7 c8 hp2 ho2))
        go_roundw
        case rel =>
          refine ⟨k + 1, zs, by omega, by go_num, Lib.hid ⟨by have := nmdN_le HR.out.symm; have := HLe.out; omega, HP2.out, fun g hg => ?_, ?_, HSt.out⟩⟩
          · rcases HO2.out g hg with h1 | h1
            · exact HB.out.2.2.1 g h1
            · right; have := HLT.out; have := HB.out.2.2.2.1.size; omega
          · exact HB.out.2.2.2.1.trans HB1.out (fun g hg h => by
              rcases HB.out.2.2.1 g h with h1 | h1
              · exact h1
              · omega)
        case measure => simp [intOf]; omega
    · obtain rfl : k = f.len := by omega
      have hd := HB.out.2.2.2.2
      rw [F.drop_len] at hd
      have HD := Lib.hid hd
      clear hd
      obtain ⟨cad, ccap, rfl⟩ := own_sl HB.out.2.1
      go_wp2_with fail
      go_ret2
      refine ⟨⟨_, _, rfl, ?_⟩, HKW.out⟩
      rw [HD.out]
      refine ⟨rfl, HB.out.2.1, fun g hg => ?_⟩
      rcases HB.out.2.2.1 g hg with h1 | h1
      · exact .inl h1
      · right; have := HZ.out; omega


theorem nam_6 (f : F) (hch : ∀ i, i < f.len → NamOk (f.nth i).args) (l h g : Int) (st : Nat → Bool) (sv : Value) (w : World) (S : Nat → Prop) (n0 : Nat) (xs : List Int) (v : Value) (hsv : SV w S f sv) (hft : f.len ≤ maxLen ∧ f.fits) (hS : ∀ b, S b → b < n0) (hn0 : n0 ≤ w.heap.size) (hpv : PV 3 1 cells_i w n0 xs v) (hbd : xs.length + szF f + 1 ≤ 4000000) :
    Calls Try.prog 40 #[.agg #[.int .i64 6, .int .u64 (wd st 0 64 : Nat), .int .u64 (wd st 64 64 : Nat), .int .u64 (wd st 128 64 : Nat), .int .u64 (wd st 192 64 : Nat), .int .i64 l, .int .i64 h, .int .i64 g, sv], v] w fun e w' => (∃ cv b, e = .returned (.tuple #[cv, .bool b]) ∧ NamR ((nmdF f xs).map fun d => d ++ [g]) n0 v w w' cv b) ∧ Keep (fun b => v.ownBlock = some b) w w' := by
  have HSV := Lib.hid hsv
  have HCh := Lib.hid hch
  have HF := Lib.hid hft
  obtain ⟨ad, cap, rfl⟩ := slice_form hsv
  obtain ⟨W2, hW2⟩ : ∃ W2, W2 = w.alloc (.cells #[.int .i64 6, .int .u64 (wd st 0 64 : Nat), .int .u64 (wd st 64 64 : Nat), .int .u64 (wd st 128 64 : Nat), .int .u64 (wd st 192 64 : Nat), .int .i64 l, .int .i64 h, .int .i64 g, .slice ad f.len cap] 28) := ⟨_, rfl⟩
  have hx : Below w.heap.size w W2 := by rw [hW2]; exact (Below.refl _ _).alloc (Nat.le_refl _) _
  have hz2 : W2.heap.size = w.heap.size + 1 := by rw [hW2]; simp
  have hg0 : W2.heap[w.heap.size]? = some (.cells #[.int .i64 6, .int .u64 (wd st 0 64 : Nat), .int .u64 (wd st 64 64 : Nat), .int .u64 (wd st 128 64 : Nat), .int .u64 (wd st 192 64 : Nat), .int .i64 l, .int .i64 h, .int .i64 g, .slice ad f.len cap] 28 (0, 0)) := by
    rw [hW2]
    exact heap_alloc_new w _
  have HX := Lib.hid hx
  have HG0 := Lib.hid hg0
  have HZ := Lib.hid hz2
  have HW2 := Lib.hid hW2
  have BX : Hid (∀ wx, Below W2.heap.size W2 wx → Below w.heap.size w wx ∧ wx.cell? ⟨w.heap.size, 0, none⟩ = some (.int .i64 6) ∧ wx.cell? ⟨w.heap.size, 7, none⟩ = some (.int .i64 g) ∧ wx.cell? ⟨w.heap.size, 8, none⟩ = some (.slice ad f.len cap)) := Lib.hid fun wx hb => by
    have hr := (hb.block _ (by have := HZ.out; omega)).trans HG0.out
    exact ⟨HX.out.trans (hb.mono HX.out.size), cell_of_row wx w.heap.size 0 _ _ _ hr, cell_of_row wx w.heap.size 7 _ _ _ hr, cell_of_row wx w.heap.size 8 _ _ _ hr⟩
  clear hsv hch hft hx hz2 hg0 hW2
  have hfl : (f.len : Int) ≤ 9223372036854775807 := by have := HF.out.1; unfold maxLen at this; omega
  have HPV := Lib.hid (show PV 3 1 cells_i W2 n0 xs v from by rw [HW2.out]; exact hpv.below ((Below.refl _ _).alloc (Nat.le_refl _) _))
  have HN := Lib.hid hn0
  have HS := Lib.hid hS
  have HBd := Lib.hid hbd
  have HOB := Lib.hid (fun g (hg : v.ownBlock = some g) => (own_at hpv g hg))
  obtain ⟨vad, vcap, rfl⟩ := own_sl hpv
  generalize hxl : xs.length = xl at *
  have HXl := Lib.hid hxl
  clear hpv hn0 hS hbd hxl
  go_enter Try.func40, Try.ntmps40
  go_wp2_with fail
  go_loopw [1, 6] (fun c i wr => ∃ (k : Nat) (ys : List Int), k ≤ f.len ∧ i = .int .i64 k ∧ Hid (ys.length + szF (f.drop k) ≤ 4000000 ∧ PV 3 1 cells_i wr n0 ys c ∧ (∀ g, c.ownBlock = some g → (Value.slice vad xl vcap).ownBlock = some g ∨ W2.heap.size ≤ g) ∧ Keep (fun b => (Value.slice vad xl vcap).ownBlock = some b) W2 wr ∧ nmdF f xs = nmdF (f.drop k) ys)) (fun _ i _ => f.len - (intOf i).toNat)
  case atStart =>
    refine ⟨0, xs, Nat.zero_le _, rfl, Lib.hid ⟨?_, (by rw [← HW2.out]; exact HPV.out), fun g hg => .inl hg, (by rw [← HW2.out]; exact Keep.refl _ _), by cases f <;> rfl⟩⟩
    have : f.drop 0 = f := by cases f <;> rfl
    rw [this, HXl.out]
    have := HBd.out
    omega
  case round =>
    obtain ⟨k, ys, hk, rfl, HB⟩ := hrel
    have hkw : Keep (fun b => (Value.slice vad xl vcap).ownBlock = some b) w wr := ((Keep.of_below HX.out).trans HB.out.2.2.2.1 (fun _ _ h => h)).mono (fun _ h => h)
    have hnb : ¬ (Value.slice vad xl vcap).ownBlock = some w.heap.size := fun e => by have := (HOB.out _ e).2; omega
    have hbox : wr.heap[w.heap.size]? = some (.cells #[.int .i64 6, .int .u64 (wd st 0 64 : Nat), .int .u64 (wd st 64 64 : Nat), .int .u64 (wd st 128 64 : Nat), .int .u64 (wd st 192 64 : Nat), .int .i64 l, .int .i64 h, .int .i64 g, .slice ad f.len cap] 28 (0, 0)) := (HB.out.2.2.2.1.block _ (by have := HZ.out; omega) hnb).trans HG0.out
    have b0 := cell_of_row wr w.heap.size 0 _ _ _ hbox
    have b7 := cell_of_row wr w.heap.size 7 _ _ _ hbox
    have bx := cell_of_row wr w.heap.size 8 _ _ _ hbox
    replace b0 : wr.cell? ⟨w.heap.size, 0, none⟩ = some (.int .i64 6) := b0
    replace b7 : wr.cell? ⟨w.heap.size, 7, none⟩ = some (.int .i64 g) := b7
    replace bx : wr.cell? ⟨w.heap.size, 8, none⟩ = some (.slice ad f.len cap) := bx
    have hlt : w.heap.size < wr.heap.size := (Array.getElem?_eq_some_iff.1 hbox).1
    have HLT := Lib.hid hlt
    have HKW := Lib.hid hkw
    have HBox := Lib.hid hbox
    clear hkw hnb hbox hlt
    by_cases hkn : k < f.len
    · have ki : (k : Int) < f.len := by omega
      have ki0 : (0 : Int) ≤ k := by omega
      obtain ⟨b, i0, ad2, cp2, rfl, hsv2, c0, c1, c2, c3, c4, c5, c6, c7, c8⟩ := kid HSV.out (HKW.out.afar (fun b hb e => by have := HS.out b hb; have := (HOB.out b e).1; omega)) k hkn
      have HS2 := Lib.hid hsv2
      have hst := sz_step f k hkn
      have hle := HB.out.1
      rw [hst] at hle
      obtain ⟨cad, ccap, rfl⟩ := own_sl HB.out.2.1
      have HL := Lib.hid (fun W hW hn (hP : PV 3 1 cells_i W n0 ys (.slice cad ys.length ccap)) => HCh.out k hkn (f.nth k).op (f.nth k).lo (f.nth k).hi (f.nth k).g (f.nth k).st (.slice ad2 (f.nth k).args.len cp2) W S n0 ys (.slice cad ys.length ccap) hW (F.fits_nth k HF.out.2 hkn) HS.out hn hP (by omega))
      have HSt := Lib.hid (HB.out.2.2.2.2.trans (nmd_step f k hkn ys))
      obtain ⟨R, hR⟩ : ∃ R, R = nmdN (f.nth k).op (f.nth k).g (f.nth k).args ys := ⟨_, rfl⟩
      have HR := Lib.hid hR
      have HLe := Lib.hid hle
      rw [← hR] at HSt HL
      clear hst hle hR hsv2
      cases R with
      | none =>
        go_wp2_with (first
          | (go_at_call 40; (with_reducible refine (HL.out _ HS2.out (by have := HN.out; have := HLT.out; omega) HB.out.2.1).mono ?_); rintro e w2 ⟨⟨m2, b2, rfl, hb2⟩, hb⟩; replace hb2 : b2 = false := hb2; subst hb2; have HB1 := Lib.hid hb; clear hb bx b0 b7 c0 c1 c2 c3 c4 c5 c6 c7 c8))
        go_ret2
        refine ⟨⟨_, _, rfl, ?_⟩, ?_⟩
        · rw [HSt.out]; rfl
        · exact HKW.out.trans HB1.out (fun g hg h => by
            rcases HB.out.2.2.1 g h with h1 | h1
            · exact h1
            · have := HZ.out; omega)
      | some zs =>
        go_wp2_with (first
          | (go_at_call 40; (with_reducible refine (HL.out _ HS2.out (by have := HN.out; have := HLT.out; omega) HB.out.2.1).mono ?_); rintro e w2 ⟨⟨m2, b2, rfl, hb2⟩, hb⟩; obtain ⟨rfl, hp2, ho2⟩ : b2 = true ∧ PV 3 1 cells_i w2 n0 zs m2 ∧ (∀ g, m2.ownBlock = some g → (Value.slice cad ys.length ccap).ownBlock = some g ∨ wr.heap.size ≤ g) := hb2; have HB1 := Lib.hid hb; have HP2 := Lib.hid hp2; have HO2 := Lib.hid ho2; clear hb bx b0 b7 c0 c1 c2 c3 c4 c5 c6 c7 c8 hp2 ho2))
        go_roundw
        case rel =>
          refine ⟨k + 1, zs, by omega, by go_num, Lib.hid ⟨by have := nmdN_le HR.out.symm; have := HLe.out; omega, HP2.out, fun g hg => ?_, ?_, HSt.out⟩⟩
          · rcases HO2.out g hg with h1 | h1
            · exact HB.out.2.2.1 g h1
            · right; have := HLT.out; have := HB.out.2.2.2.1.size; omega
          · exact HB.out.2.2.2.1.trans HB1.out (fun g hg h => by
              rcases HB.out.2.2.1 g h with h1 | h1
              · exact h1
              · omega)
        case measure => simp [intOf]; omega
    · obtain rfl : k = f.len := by omega
      have hd := HB.out.2.2.2.2
      rw [F.drop_len] at hd
      have HD := Lib.hid hd
      clear hd
      obtain ⟨cad, ccap, rfl⟩ := own_sl HB.out.2.1
      have hsz : ys.length ≤ 4000000 := by have := HB.out.1; omega
      have HYs := Lib.hid hsz
      have HGk := Lib.hid (fun j => frozen_of_row wr w.heap.size j _ _ HBox.out)
      clear hsz HCh HF
      go_wp2_with (at_builtin; refine app1 n0 35 3 (.int .i64 0) 1 8 Try.underlying35 info_i rfl (by decide) wr rfl (.tmp 44) (.tmp 47) rfl (by have := HN.out; have := HLT.out; omega) (.slice cad ys.length ccap) ys.length _ (cells_i g) rfl rfl HB.out.2.1 _ rfl rfl rfl ?d1 ?d2 ?d3 ?_)
      case d1 => simp [cells_i, Value.oneCell']
      case d2 => have := HYs.out; unfold maxLen; omega
      case d3 => have := HYs.out; omega
      intro g0 cap0 w8 ho8 hk8 hg8
      have HO8 := Lib.hid ho8
      have HK8 := Lib.hid hk8
      have HG8 := Lib.hid hg8
      clear ho8 hk8 hg8
      go_wp2_with fail
      go_ret2
      refine ⟨⟨_, _, rfl, ?_⟩, ?_⟩
      · rw [HD.out]
        show true = true ∧ _ ∧ _
        refine ⟨rfl, ?_, fun x hx => ?_⟩
        · unfold PV
          rw [List.length_append, List.flatMap_append]
          have : ([g] : List Int).flatMap cells_i = cells_i g := by simp
          rw [this]
          exact HO8.out
        · have hx : some g0 = some x := hx
          cases hx
          rcases HG8.out with h1 | h1
          · rcases HB.out.2.2.1 g0 h1 with h2 | h2
            · exact .inl h2
            · right; have := HZ.out; omega
          · right; have := HLT.out; omega
      · exact HKW.out.trans HK8.out (fun x hx h => by
          rcases HB.out.2.2.1 x h with h1 | h1
          · exact h1
          · have := HZ.out; omega)


theorem nam_9 (f : F) (hch : ∀ i, i < f.len → NamOk (f.nth i).args) (l h g : Int) (st : Nat → Bool) (sv : Value) (w : World) (S : Nat → Prop) (n0 : Nat) (xs : List Int) (v : Value) (hsv : SV w S f sv) (hft : f.len ≤ maxLen ∧ f.fits) (hS : ∀ b, S b → b < n0) (hn0 : n0 ≤ w.heap.size) (hpv : PV 3 1 cells_i w n0 xs v) (hbd : xs.length + szF f + 1 ≤ 4000000) (hcon : xs.contains g = true) :
    Calls Try.prog 40 #[.agg #[.int .i64 9, .int .u64 (wd st 0 64 : Nat), .int .u64 (wd st 64 64 : Nat), .int .u64 (wd st 128 64 : Nat), .int .u64 (wd st 192 64 : Nat), .int .i64 l, .int .i64 h, .int .i64 g, sv], v] w fun e w' => (∃ cv b, e = .returned (.tuple #[cv, .bool b]) ∧ NamR (nmdF f xs) n0 v w w' cv b) ∧ Keep (fun b => v.ownBlock = some b) w w' := by
  have HSV := Lib.hid hsv
  have HCh := Lib.hid hch
  have HF := Lib.hid hft
  obtain ⟨ad, cap, rfl⟩ := slice_form hsv
  obtain ⟨W2, hW2⟩ : ∃ W2, W2 = w.alloc (.cells #[.int .i64 9, .int .u64 (wd st 0 64 : Nat), .int .u64 (wd st 64 64 : Nat), .int .u64 (wd st 128 64 : Nat), .int .u64 (wd st 192 64 : Nat), .int .i64 l, .int .i64 h, .int .i64 g, .slice ad f.len cap] 28) := ⟨_, rfl⟩
  have hx : Below w.heap.size w W2 := by rw [hW2]; exact (Below.refl _ _).alloc (Nat.le_refl _) _
  have hz2 : W2.heap.size = w.heap.size + 1 := by rw [hW2]; simp
  have hg0 : W2.heap[w.heap.size]? = some (.cells #[.int .i64 9, .int .u64 (wd st 0 64 : Nat), .int .u64 (wd st 64 64 : Nat), .int .u64 (wd st 128 64 : Nat), .int .u64 (wd st 192 64 : Nat), .int .i64 l, .int .i64 h, .int .i64 g, .slice ad f.len cap] 28 (0, 0)) := by
    rw [hW2]
    exact heap_alloc_new w _
  have HX := Lib.hid hx
  have HG0 := Lib.hid hg0
  have HZ := Lib.hid hz2
  have HW2 := Lib.hid hW2
  have BX : Hid (∀ wx, Below W2.heap.size W2 wx → Below w.heap.size w wx ∧ wx.cell? ⟨w.heap.size, 0, none⟩ = some (.int .i64 9) ∧ wx.cell? ⟨w.heap.size, 7, none⟩ = some (.int .i64 g) ∧ wx.cell? ⟨w.heap.size, 8, none⟩ = some (.slice ad f.len cap)) := Lib.hid fun wx hb => by
    have hr := (hb.block _ (by have := HZ.out; omega)).trans HG0.out
    exact ⟨HX.out.trans (hb.mono HX.out.size), cell_of_row wx w.heap.size 0 _ _ _ hr, cell_of_row wx w.heap.size 7 _ _ _ hr, cell_of_row wx w.heap.size 8 _ _ _ hr⟩
  clear hsv hch hft hx hz2 hg0 hW2
  have hfl : (f.len : Int) ≤ 9223372036854775807 := by have := HF.out.1; unfold maxLen at this; omega
  have HPV := Lib.hid (show PV 3 1 cells_i W2 n0 xs v from by rw [HW2.out]; exact hpv.below ((Below.refl _ _).alloc (Nat.le_refl _) _))
  have HN := Lib.hid hn0
  have HS := Lib.hid hS
  have HBd := Lib.hid hbd
  have HOB := Lib.hid (fun g (hg : v.ownBlock = some g) => (own_at hpv g hg))
  obtain ⟨vad, vcap, rfl⟩ := own_sl hpv
  generalize hxl : xs.length = xl at *
  have HXl := Lib.hid hxl
  clear hpv hn0 hS hbd hxl
  have HHs := Lib.hid (fun W (hP : PV 3 1 cells_i W n0 xs (.slice vad xl vcap)) => has_any n0 xs (.slice vad xl vcap) g W hP (by have := HBd.out; have := HXl.out; omega))
  rw [hcon] at HHs
  go_enter Try.func40, Try.ntmps40
  go_wp2_with (first
    | (go_at_call 71; (with_reducible refine (HHs.out _ (by rw [← HW2.out]; exact HPV.out)).mono ?_); rintro e w1 ⟨rfl, rfl⟩))
  go_loopw [1, 6] (fun c i wr => ∃ (k : Nat) (ys : List Int), k ≤ f.len ∧ i = .int .i64 k ∧ Hid (ys.length + szF (f.drop k) ≤ 4000000 ∧ PV 3 1 cells_i wr n0 ys c ∧ (∀ g, c.ownBlock = some g → (Value.slice vad xl vcap).ownBlock = some g ∨ W2.heap.size ≤ g) ∧ Keep (fun b => (Value.slice vad xl vcap).ownBlock = some b) W2 wr ∧ nmdF f xs = nmdF (f.drop k) ys)) (fun _ i _ => f.len - (intOf i).toNat)
  case atStart =>
    refine ⟨0, xs, Nat.zero_le _, rfl, Lib.hid ⟨?_, (by rw [← HW2.out]; exact HPV.out), fun g hg => .inl hg, (by rw [← HW2.out]; exact Keep.refl _ _), by cases f <;> rfl⟩⟩
    have : f.drop 0 = f := by cases f <;> rfl
    rw [this, HXl.out]
    have := HBd.out
    omega
  case round =>
    obtain ⟨k, ys, hk, rfl, HB⟩ := hrel
    have hkw : Keep (fun b => (Value.slice vad xl vcap).ownBlock = some b) w wr := ((Keep.of_below HX.out).trans HB.out.2.2.2.1 (fun _ _ h => h)).mono (fun _ h => h)
    have hnb : ¬ (Value.slice vad xl vcap).ownBlock = some w.heap.size := fun e => by have := (HOB.out _ e).2; omega
    have hbox : wr.heap[w.heap.size]? = some (.cells #[.int .i64 9, .int .u64 (wd st 0 64 : Nat), .int .u64 (wd st 64 64 : Nat), .int .u64 (wd st 128 64 : Nat), .int .u64 (wd st 192 64 : Nat), .int .i64 l, .int .i64 h, .int .i64 g, .slice ad f.len cap] 28 (0, 0)) := (HB.out.2.2.2.1.block _ (by have := HZ.out; omega) hnb).trans HG0.out
    have b0 := cell_of_row wr w.heap.size 0 _ _ _ hbox
    have b7 := cell_of_row wr w.heap.size 7 _ _ _ hbox
    have bx := cell_of_row wr w.heap.size 8 _ _ _ hbox
    replace b0 : wr.cell? ⟨w.heap.size, 0, none⟩ = some (.int .i64 9) := b0
    replace b7 : wr.cell? ⟨w.heap.size, 7, none⟩ = some (.int .i64 g) := b7
    replace bx : wr.cell? ⟨w.heap.size, 8, none⟩ = some (.slice ad f.len cap) := bx
    have hlt : w.heap.size < wr.heap.size := (Array.getElem?_eq_some_iff.1 hbox).1
    have HLT := Lib.hid hlt
    have HKW := Lib.hid hkw
    have HBox := Lib.hid hbox
    clear hkw hnb hbox hlt
    by_cases hkn : k < f.len
    · have ki : (k : Int) < f.len := by omega
      have ki0 : (0 : Int) ≤ k := by omega
      obtain ⟨b, i0, ad2, cp2, rfl, hsv2, c0, c1, c2, c3, c4, c5, c6, c7, c8⟩ := kid HSV.out (HKW.out.afar (fun b hb e => by have := HS.out b hb; have := (HOB.out b e).1; omega)) k hkn
      have HS2 := Lib.hid hsv2
      have hst := sz_step f k hkn
      have hle := HB.out.1
      rw [hst] at hle
      obtain ⟨cad, ccap, rfl⟩ := own_sl HB.out.2.1
      have HL := Lib.hid (fun W hW hn (hP : PV 3 1 cells_i W n0 ys (.slice cad ys.length ccap)) => HCh.out k hkn (f.nth k).op (f.nth k).lo (f.nth k).hi (f.nth k).g (f.nth k).st (.slice ad2 (f.nth k).args.len cp2) W S n0 ys (.slice cad ys.length ccap) hW (F.fits_nth k HF.out.2 hkn) HS.out hn hP (by omega))
      have HSt := Lib.hid (HB.out.2.2.2.2.trans (nmd_step f k hkn ys))
      obtain ⟨R, hR⟩ : ∃ R, R = nmdN (f.nth k).op (f.nth k).g (f.nth k).args ys := ⟨_, rfl⟩
      have HR := Lib.hid hR
      have HLe := Lib.hid hle
      rw [← hR] at HSt HL
      clear hst hle hR hsv2
      cases R with
      | none =>
        go_wp2_with (first
          | (go_at_call 40; (with_reducible refine (HL.out _ HS2.out (by have := HN.out; have := HLT.out; omega) HB.out.2.1).mono ?_); rintro e w2 ⟨⟨m2, b2, rfl, hb2⟩, hb⟩; replace hb2 : b2 = false := hb2; subst hb2; have HB1 := Lib.hid hb; clear hb bx b0 b7 c0 c1 c2 c3 c4 c5 c6 c7 c8))
        go_ret2
        refine ⟨⟨_, _, rfl, ?_⟩, ?_⟩
        · rw [HSt.out]; rfl
        · exact HKW.out.trans HB1.out (fun g hg h => by
            rcases HB.out.2.2.1 g h with h1 | h1
            · exact h1
            · have := HZ.out; omega)
      | some zs =>
        go_wp2_with (first
          | (go_at_call 40; (with_reducible refine (HL.out _ HS2.out (by have := HN.out; have := HLT.out; omega) HB.out.2.1).mono ?_); rintro e w2 ⟨⟨m2, b2, rfl, hb2⟩, hb⟩; obtain ⟨rfl, hp2, ho2⟩ : b2 = true ∧ PV 3 1 cells_i w2 n0 zs m2 ∧ (∀ g, m2.ownBlock = some g → (Value.slice cad ys.length ccap).ownBlock = some g ∨ wr.heap.size ≤ g) := hb2; have HB1 := Lib.hid hb; have HP2 := Lib.hid hp2; have HO2 := Lib.hid ho2; clear hb bx b0 b7 c0 c1 c2 c3 c4 c5 c6 c7 c8 hp2 ho2))
        go_roundw
        case rel =>
          refine ⟨k + 1, zs, by omega, by go_num, Lib.hid ⟨by have := nmdN_le HR.out.symm; have := HLe.out; omega, HP2.out, fun g hg => ?_, ?_, HSt.out⟩⟩
          · rcases HO2.out g hg with h1 | h1
            · exact HB.out.2.2.1 g h1
            · right; have := HLT.out; have := HB.out.2.2.2.1.size; omega
          · exact HB.out.2.2.2.1.trans HB1.out (fun g hg h => by
              rcases HB.out.2.2.1 g h with h1 | h1
              · exact h1
              · omega)
        case measure => simp [intOf]; omega
    · obtain rfl : k = f.len := by omega
      have hd := HB.out.2.2.2.2
      rw [F.drop_len] at hd
      have HD := Lib.hid hd
      clear hd
      obtain ⟨cad, ccap, rfl⟩ := own_sl HB.out.2.1
      go_wp2_with fail
      go_ret2
      refine ⟨⟨_, _, rfl, ?_⟩, HKW.out⟩
      rw [HD.out]
      refine ⟨rfl, HB.out.2.1, fun g hg => ?_⟩
      rcases HB.out.2.2.1 g hg with h1 | h1
      · exact .inl h1
      · right; have := HZ.out; omega


theorem nam_9n (f : F) (l h g : Int) (st : Nat → Bool) (sv : Value) (w : World) (n0 : Nat) (xs : List Int) (v : Value) (hsv : ∃ ad cap, sv = .slice ad f.len cap) (hpv : PV 3 1 cells_i w n0 xs v) (hl : xs.length ≤ 4000000) (hcon : xs.contains g = false) :
    Calls Try.prog 40 #[.agg #[.int .i64 9, .int .u64 (wd st 0 64 : Nat), .int .u64 (wd st 64 64 : Nat), .int .u64 (wd st 128 64 : Nat), .int .u64 (wd st 192 64 : Nat), .int .i64 l, .int .i64 h, .int .i64 g, sv], v] w fun e w' => (∃ cv b, e = .returned (.tuple #[cv, .bool b]) ∧ NamR none n0 v w w' cv b) ∧ Keep (fun b => v.ownBlock = some b) w w' := by
  obtain ⟨ad, cap, rfl⟩ := hsv
  have HX := Lib.hid ((Below.refl w.heap.size w).alloc (Nat.le_refl _) (.cells #[.int .i64 9, .int .u64 (wd st 0 64 : Nat), .int .u64 (wd st 64 64 : Nat), .int .u64 (wd st 128 64 : Nat), .int .u64 (wd st 192 64 : Nat), .int .i64 l, .int .i64 h, .int .i64 g, .slice ad f.len cap] 28))
  have HPV := Lib.hid (hpv.below HX.out)
  obtain ⟨vad, vcap, rfl⟩ := own_sl hpv
  have HHs := Lib.hid (fun W (hP : PV 3 1 cells_i W n0 xs (.slice vad xs.length vcap)) => has_any n0 xs (.slice vad xs.length vcap) g W hP hl)
  rw [hcon] at HHs
  clear hpv hl hcon
  go_enter Try.func40, Try.ntmps40
  go_wp2_with (first
    | (go_at_call 71; (with_reducible refine (HHs.out _ HPV.out).mono ?_); rintro e w1 ⟨rfl, rfl⟩))
  go_ret2
  exact ⟨⟨_, _, rfl, rfl⟩, Keep.of_below HX.out⟩
theorem nam_node (f : F) (hch : ∀ i, i < f.len → NamOk (f.nth i).args) : NamOk f := by
  intro o l h g st sv w S n0 xs v hsv hft hS hn0 hpv hbd
  unfold nmdN
  by_cases o9 : o = 9
  · subst o9
    cases hc : xs.contains g
    · rw [if_pos ⟨rfl, rfl⟩]
      exact nam_9n f l h g st sv w n0 xs v (slice_form hsv) hpv (by omega) hc
    · rw [if_neg (by simp)]
      have := nam_9 f hch l h g st sv w S n0 xs v hsv hft hS hn0 hpv hbd hc
      cases hn : nmdF f xs with
      | none => rw [hn] at this; exact this
      | some d => rw [hn] at this; exact this
  rw [if_neg (fun k => o9 k.1)]
  by_cases o6 : o = 6
  · subst o6
    have := nam_6 f hch l h g st sv w S n0 xs v hsv hft hS hn0 hpv hbd
    cases hn : nmdF f xs with
    | none => rw [hn] at this; exact this
    | some d => rw [hn] at this; exact this
  · have := nam_x f hch o l h g st sv w S n0 xs v hsv hft hS hn0 hpv hbd (by simpa using o9) (by simpa using o6)
    cases hn : nmdF f xs with
    | none => rw [hn] at this; exact this
    | some d =>
      rw [hn] at this
      simp only [if_neg o6]
      exact this
theorem nam_all : ∀ (f : F) (i : Nat), i < f.len → NamOk (f.nth i).args
  | .nil, i, h => by cases h
  | .cons o s l h g a r, 0, hi => nam_node a (nam_all a)
  | .cons o s l h g a r, i + 1, hi => nam_all r i (by have : i + 1 < r.len + 1 := hi; omega)
theorem nam_any (f : F) : NamOk f := nam_node f (nam_all f)
end Go.Proofs.Ytpfbpgbgedbalaa
