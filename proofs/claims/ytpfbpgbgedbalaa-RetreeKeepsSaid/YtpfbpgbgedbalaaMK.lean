/- Several texts in one (a claim has at most 60 files). -/
import Derived.Test.YtpfbpgbgedbalaaMX
import Derived.StillTailTactics
import Derived.Deep.CutRange
import Derived.Deep.Cut
import Derived.Deep.DeepCutAuto
import Derived.Deep.RegionHeld
/- plain of texttoolslaw08. (Written by gen_rtpl.py.) -/
set_option linter.unusedVariables false
set_option linter.unusedSimpArgs false
set_option maxRecDepth 100000
set_option maxHeartbeats 4000000
namespace Go.Proofs.Ytpfbpgbgedbalaa
open Go.RowKit

/-- Has a tree only the repetitions that Expand leaves? -/
def simT (l h : Int) : Bool := (decide (l = 0) && decide (h = 1)) || ((decide (l = 0) || decide (l = 1)) && decide (h = -1))
def plF : F → Bool
  | .nil => true
  | .cons o _ l h _ a r => ((!decide (o = 5) || simT l h) && plF a) && plF r
def plN (o l h : Int) (f : F) : Bool := (!decide (o = 5) || simT l h) && plF f
def PlainOk (f : F) : Prop := ∀ (o l h g : Int) (st : Nat → Bool) (sv : Value) (w : World) (S : Nat → Prop), SV w S f sv → f.len ≤ 600 ∧ okE f →
  Calls Try.prog 22 #[.agg #[.int .i64 o, .int .u64 (wd st 0 64 : Nat), .int .u64 (wd st 64 64 : Nat), .int .u64 (wd st 128 64 : Nat), .int .u64 (wd st 192 64 : Nat), .int .i64 l, .int .i64 h, .int .i64 g, sv]] w fun e w' => e = .returned (.bool (plN o l h f)) ∧ Below w.heap.size w w'
theorem pl_no (f : F) (hch : ∀ i, i < f.len → PlainOk (f.nth i).args) (o l h g : Int) (st : Nat → Bool) (sv : Value) (w : World) (S : Nat → Prop) (hsv : SV w S f sv) (hwd : f.len ≤ 600 ∧ okE f) (e5 : (o == 5) = false) (o5 : ¬ o = 5) :
    Calls Try.prog 22 #[.agg #[.int .i64 o, .int .u64 (wd st 0 64 : Nat), .int .u64 (wd st 64 64 : Nat), .int .u64 (wd st 128 64 : Nat), .int .u64 (wd st 192 64 : Nat), .int .i64 l, .int .i64 h, .int .i64 g, sv]] w fun e w' => e = .returned (.bool (plF f)) ∧ Below w.heap.size w w' := by
  obtain ⟨zs, ad, cap, rfl, hcap, hfv, hcells⟩ := hsv
  have HCh := Lib.hid hch
  have HFV := Lib.hid hfv
  have HCe := Lib.hid hcells
  have HW := Lib.hid hwd
  have hfl : (f.len : Int) ≤ 600 := by omega
  obtain ⟨W2, hW2⟩ : ∃ W2, W2 = w.alloc (.cells #[.int .i64 o, .int .u64 (wd st 0 64 : Nat), .int .u64 (wd st 64 64 : Nat), .int .u64 (wd st 128 64 : Nat), .int .u64 (wd st 192 64 : Nat), .int .i64 l, .int .i64 h, .int .i64 g, .slice ad f.len cap] 28) := ⟨_, rfl⟩
  have hx : Below w.heap.size w W2 := by rw [hW2]; exact (Below.refl _ _).alloc (Nat.le_refl _) _
  have hz2 : W2.heap.size = w.heap.size + 1 := by rw [hW2]; simp
  have hg0 : W2.heap[w.heap.size]? = some (.cells #[.int .i64 o, .int .u64 (wd st 0 64 : Nat), .int .u64 (wd st 64 64 : Nat), .int .u64 (wd st 128 64 : Nat), .int .u64 (wd st 192 64 : Nat), .int .i64 l, .int .i64 h, .int .i64 g, .slice ad f.len cap] 28 (0, 0)) := by
    rw [hW2]
    exact heap_alloc_new w _
  have HX := Lib.hid hx
  have HG0 := Lib.hid hg0
  have HZ := Lib.hid hz2
  have HW2 := Lib.hid hW2
  clear hch hfv hcells hcap hwd hx hz2 hg0 hW2
  go_enter Try.func22, Try.ntmps22
  go_wp2_with fail
  go_loopw [3] (fun i wr => ∃ k : Nat, k ≤ f.len ∧ i = .int .i64 k ∧ Hid (Below W2.heap.size W2 wr ∧ plF f = plF (f.drop k))) (fun i _ => f.len - (intOf i).toNat)
  case atStart => exact ⟨0, Nat.zero_le _, rfl, by rw [HW2.out]; exact Lib.hid ⟨Below.refl _ _, by cases f <;> rfl⟩⟩
  case round =>
    obtain ⟨k, hk, rfl, HB⟩ := hrel
    have bx : wr.cell? ⟨w.heap.size, 8, none⟩ = some (.slice ad f.len cap) := cell_of_row wr w.heap.size 8 _ _ _ ((HB.out.1.block _ (by have := HZ.out; omega)).trans HG0.out)
    by_cases hkn : k < f.len
    · have ki : (k : Int) < f.len := by omega
      have ki0 : (0 : Int) ≤ k := by omega
      obtain ⟨b, i0, rfl, _, hbl, hce⟩ : ∃ b i, ad = some ⟨b, i, none⟩ ∧ S b ∧ b < w.heap.size ∧ ∀ j u, zs[j]? = some u → w.cell? ⟨b, i + j, none⟩ = some u := by
        rcases HCe.out with h0 | h0
        · omega
        · exact h0
      obtain ⟨sv2, hsv2, hrow⟩ := FV.nth k HFV.out hkn
      obtain ⟨ad2, cp2, rfl⟩ := slice_form hsv2
      have hcell : ∀ j u, (rowV (f.nth k).op (f.nth k).st (f.nth k).lo (f.nth k).hi (f.nth k).g (.slice ad2 (f.nth k).args.len cp2))[j]? = some u → wr.cell? ⟨b, i0 + k * 9 + j, none⟩ = some u := fun j u hu => by
        rw [HB.out.1.cell (by have := HZ.out; show b < W2.heap.size; omega), HX.out.cell (by exact hbl), Nat.add_assoc]
        exact hce _ u (hrow j u hu)
      have c0 : wr.cell? ⟨b, i0 + k * 9, none⟩ = some (.int .i64 (f.nth k).op) := hcell 0 _ rfl
      have c1 : wr.cell? ⟨b, i0 + k * 9 + 1, none⟩ = some (.int .u64 (wd (f.nth k).st 0 64 : Nat)) := hcell 1 _ rfl
      have c2 : wr.cell? ⟨b, i0 + k * 9 + 2, none⟩ = some (.int .u64 (wd (f.nth k).st 64 64 : Nat)) := hcell 2 _ rfl
      have c3 : wr.cell? ⟨b, i0 + k * 9 + 3, none⟩ = some (.int .u64 (wd (f.nth k).st 128 64 : Nat)) := hcell 3 _ rfl
      have c4 : wr.cell? ⟨b, i0 + k * 9 + 4, none⟩ = some (.int .u64 (wd (f.nth k).st 192 64 : Nat)) := hcell 4 _ rfl
      have c5 : wr.cell? ⟨b, i0 + k * 9 + 5, none⟩ = some (.int .i64 (f.nth k).lo) := hcell 5 _ rfl
      have c6 : wr.cell? ⟨b, i0 + k * 9 + 6, none⟩ = some (.int .i64 (f.nth k).hi) := hcell 6 _ rfl
      have c7 : wr.cell? ⟨b, i0 + k * 9 + 7, none⟩ = some (.int .i64 (f.nth k).g) := hcell 7 _ rfl
      have c8 : wr.cell? ⟨b, i0 + k * 9 + 8, none⟩ = some (.slice ad2 (f.nth k).args.len cp2) := hcell 8 _ rfl
      have HC := HCh.out k hkn
      have HL := Lib.hid (fun W (hW : SV W S (f.nth k).args (.slice ad2 (f.nth k).args.len cp2)) => HC (f.nth k).op (f.nth k).lo (f.nth k).hi (f.nth k).g (f.nth k).st _ W S hW (by have h1 := okE_nth f k HW.out.2 hkn; exact ⟨h1.1.1, h1.2.1⟩))
      have HS2 : Hid (SV wr S (f.nth k).args (.slice ad2 (f.nth k).args.len cp2)) := Lib.hid ((hsv2.far (Afar.below HX.out)).far (Afar.below HB.out.1))
      have HSt : Hid (plF f = (plN (f.nth k).op (f.nth k).lo (f.nth k).hi (f.nth k).args && plF (f.drop (k + 1)))) := Lib.hid (by rw [HB.out.2, F.drop_step f k hkn]; rfl)
      obtain ⟨B, hB⟩ : ∃ B, B = plN (f.nth k).op (f.nth k).lo (f.nth k).hi (f.nth k).args := ⟨_, rfl⟩
      rw [← hB] at HSt HL
      clear hcell hce hrow hsv2 HC hB
      cases B
      · go_wp2_with (first
          | (go_at_call 22; (with_reducible refine (HL.out _ HS2.out).mono ?_); rintro e w1 ⟨rfl, hb⟩; have HB1 := Lib.hid (HB.out.1.trans (hb.mono HB.out.1.size)); clear hb bx c0 c1 c2 c3 c4 c5 c6 c7 c8))
        go_ret
        rw [HSt.out]
        exact ⟨rfl, HX.out.trans (HB1.out.mono HX.out.size)⟩
      · go_wp2_with (first
          | (go_at_call 22; (with_reducible refine (HL.out _ HS2.out).mono ?_); rintro e w1 ⟨rfl, hb⟩; have HB1 := Lib.hid (HB.out.1.trans (hb.mono HB.out.1.size)); clear hb bx c0 c1 c2 c3 c4 c5 c6 c7 c8))
        go_roundw
        case rel => exact ⟨k + 1, by omega, by go_num, Lib.hid ⟨HB1.out, by rw [HSt.out]; rfl⟩⟩
        case measure => simp [intOf]; omega
    · obtain rfl : k = f.len := by omega
      have hd := HB.out.2
      rw [F.drop_len] at hd
      have HD := Lib.hid hd
      clear hd
      go_wp2_with fail
      go_ret
      rw [HD.out]
      exact ⟨rfl, HX.out.trans (HB.out.1.mono HX.out.size)⟩
theorem pl_01 (f : F) (hch : ∀ i, i < f.len → PlainOk (f.nth i).args) (g : Int) (st : Nat → Bool) (sv : Value) (w : World) (S : Nat → Prop) (hsv : SV w S f sv) (hwd : f.len ≤ 600 ∧ okE f) :
    Calls Try.prog 22 #[.agg #[.int .i64 5, .int .u64 (wd st 0 64 : Nat), .int .u64 (wd st 64 64 : Nat), .int .u64 (wd st 128 64 : Nat), .int .u64 (wd st 192 64 : Nat), .int .i64 0, .int .i64 1, .int .i64 g, sv]] w fun e w' => e = .returned (.bool (plF f)) ∧ Below w.heap.size w w' := by
  obtain ⟨zs, ad, cap, rfl, hcap, hfv, hcells⟩ := hsv
  have HCh := Lib.hid hch
  have HFV := Lib.hid hfv
  have HCe := Lib.hid hcells
  have HW := Lib.hid hwd
  have hfl : (f.len : Int) ≤ 600 := by omega
  obtain ⟨W2, hW2⟩ : ∃ W2, W2 = w.alloc (.cells #[.int .i64 5, .int .u64 (wd st 0 64 : Nat), .int .u64 (wd st 64 64 : Nat), .int .u64 (wd st 128 64 : Nat), .int .u64 (wd st 192 64 : Nat), .int .i64 0, .int .i64 1, .int .i64 g, .slice ad f.len cap] 28) := ⟨_, rfl⟩
  have hx : Below w.heap.size w W2 := by rw [hW2]; exact (Below.refl _ _).alloc (Nat.le_refl _) _
  have hz2 : W2.heap.size = w.heap.size + 1 := by rw [hW2]; simp
  have hg0 : W2.heap[w.heap.size]? = some (.cells #[.int .i64 5, .int .u64 (wd st 0 64 : Nat), .int .u64 (wd st 64 64 : Nat), .int .u64 (wd st 128 64 : Nat), .int .u64 (wd st 192 64 : Nat), .int .i64 0, .int .i64 1, .int .i64 g, .slice ad f.len cap] 28 (0, 0)) := by
    rw [hW2]
    exact heap_alloc_new w _
  have HX := Lib.hid hx
  have HG0 := Lib.hid hg0
  have HZ := Lib.hid hz2
  have HW2 := Lib.hid hW2
  clear hch hfv hcells hcap hwd hx hz2 hg0 hW2
  go_enter Try.func22, Try.ntmps22
  go_wp2_with fail
  go_loopw [3] (fun i wr => ∃ k : Nat, k ≤ f.len ∧ i = .int .i64 k ∧ Hid (Below W2.heap.size W2 wr ∧ plF f = plF (f.drop k))) (fun i _ => f.len - (intOf i).toNat)
  case atStart => exact ⟨0, Nat.zero_le _, rfl, by rw [HW2.out]; exact Lib.hid ⟨Below.refl _ _, by cases f <;> rfl⟩⟩
  case round =>
    obtain ⟨k, hk, rfl, HB⟩ := hrel
    have bx : wr.cell? ⟨w.heap.size, 8, none⟩ = some (.slice ad f.len cap) := cell_of_row wr w.heap.size 8 _ _ _ ((HB.out.1.block _ (by have := HZ.out; omega)).trans HG0.out)
    by_cases hkn : k < f.len
    · have ki : (k : Int) < f.len := by omega
      have ki0 : (0 : Int) ≤ k := by omega
      obtain ⟨b, i0, rfl, _, hbl, hce⟩ : ∃ b i, ad = some ⟨b, i, none⟩ ∧ S b ∧ b < w.heap.size ∧ ∀ j u, zs[j]? = some u → w.cell? ⟨b, i + j, none⟩ = some u := by
        rcases HCe.out with h0 | h0
        · omega
        · exact h0
      obtain ⟨sv2, hsv2, hrow⟩ := FV.nth k HFV.out hkn
      obtain ⟨ad2, cp2, rfl⟩ := slice_form hsv2
      have hcell : ∀ j u, (rowV (f.nth k).op (f.nth k).st (f.nth k).lo (f.nth k).hi (f.nth k).g (.slice ad2 (f.nth k).args.len cp2))[j]? = some u → wr.cell? ⟨b, i0 + k * 9 + j, none⟩ = some u := fun j u hu => by
        rw [HB.out.1.cell (by have := HZ.out; show b < W2.heap.size; omega), HX.out.cell (by exact hbl), Nat.add_assoc]
        exact hce _ u (hrow j u hu)
      have c0 : wr.cell? ⟨b, i0 + k * 9, none⟩ = some (.int .i64 (f.nth k).op) := hcell 0 _ rfl
      have c1 : wr.cell? ⟨b, i0 + k * 9 + 1, none⟩ = some (.int .u64 (wd (f.nth k).st 0 64 : Nat)) := hcell 1 _ rfl
      have c2 : wr.cell? ⟨b, i0 + k * 9 + 2, none⟩ = some (.int .u64 (wd (f.nth k).st 64 64 : Nat)) := hcell 2 _ rfl
      have c3 : wr.cell? ⟨b, i0 + k * 9 + 3, none⟩ = some (.int .u64 (wd (f.nth k).st 128 64 : Nat)) := hcell 3 _ rfl
      have c4 : wr.cell? ⟨b, i0 + k * 9 + 4, none⟩ = some (.int .u64 (wd (f.nth k).st 192 64 : Nat)) := hcell 4 _ rfl
      have c5 : wr.cell? ⟨b, i0 + k * 9 + 5, none⟩ = some (.int .i64 (f.nth k).lo) := hcell 5 _ rfl
      have c6 : wr.cell? ⟨b, i0 + k * 9 + 6, none⟩ = some (.int .i64 (f.nth k).hi) := hcell 6 _ rfl
      have c7 : wr.cell? ⟨b, i0 + k * 9 + 7, none⟩ = some (.int .i64 (f.nth k).g) := hcell 7 _ rfl
      have c8 : wr.cell? ⟨b, i0 + k * 9 + 8, none⟩ = some (.slice ad2 (f.nth k).args.len cp2) := hcell 8 _ rfl
      have HC := HCh.out k hkn
      have HL := Lib.hid (fun W (hW : SV W S (f.nth k).args (.slice ad2 (f.nth k).args.len cp2)) => HC (f.nth k).op (f.nth k).lo (f.nth k).hi (f.nth k).g (f.nth k).st _ W S hW (by have h1 := okE_nth f k HW.out.2 hkn; exact ⟨h1.1.1, h1.2.1⟩))
      have HS2 : Hid (SV wr S (f.nth k).args (.slice ad2 (f.nth k).args.len cp2)) := Lib.hid ((hsv2.far (Afar.below HX.out)).far (Afar.below HB.out.1))
      have HSt : Hid (plF f = (plN (f.nth k).op (f.nth k).lo (f.nth k).hi (f.nth k).args && plF (f.drop (k + 1)))) := Lib.hid (by rw [HB.out.2, F.drop_step f k hkn]; rfl)
      obtain ⟨B, hB⟩ : ∃ B, B = plN (f.nth k).op (f.nth k).lo (f.nth k).hi (f.nth k).args := ⟨_, rfl⟩
      rw [← hB] at HSt HL
      clear hcell hce hrow hsv2 HC hB
      cases B
      · go_wp2_with (first
          | (go_at_call 22; (with_reducible refine (HL.out _ HS2.out).mono ?_); rintro e w1 ⟨rfl, hb⟩; have HB1 := Lib.hid (HB.out.1.trans (hb.mono HB.out.1.size)); clear hb bx c0 c1 c2 c3 c4 c5 c6 c7 c8))
        go_ret
        rw [HSt.out]
        exact ⟨rfl, HX.out.trans (HB1.out.mono HX.out.size)⟩
      · go_wp2_with (first
          | (go_at_call 22; (with_reducible refine (HL.out _ HS2.out).mono ?_); rintro e w1 ⟨rfl, hb⟩; have HB1 := Lib.hid (HB.out.1.trans (hb.mono HB.out.1.size)); clear hb bx c0 c1 c2 c3 c4 c5 c6 c7 c8))
        go_roundw
        case rel => exact ⟨k + 1, by omega, by go_num, Lib.hid ⟨HB1.out, by rw [HSt.out]; rfl⟩⟩
        case measure => simp [intOf]; omega
    · obtain rfl : k = f.len := by omega
      have hd := HB.out.2
      rw [F.drop_len] at hd
      have HD := Lib.hid hd
      clear hd
      go_wp2_with fail
      go_ret
      rw [HD.out]
      exact ⟨rfl, HX.out.trans (HB.out.1.mono HX.out.size)⟩
theorem pl_0x (f : F) (hch : ∀ i, i < f.len → PlainOk (f.nth i).args) (g : Int) (st : Nat → Bool) (sv : Value) (w : World) (S : Nat → Prop) (hsv : SV w S f sv) (hwd : f.len ≤ 600 ∧ okE f) :
    Calls Try.prog 22 #[.agg #[.int .i64 5, .int .u64 (wd st 0 64 : Nat), .int .u64 (wd st 64 64 : Nat), .int .u64 (wd st 128 64 : Nat), .int .u64 (wd st 192 64 : Nat), .int .i64 0, .int .i64 (-1), .int .i64 g, sv]] w fun e w' => e = .returned (.bool (plF f)) ∧ Below w.heap.size w w' := by
  obtain ⟨zs, ad, cap, rfl, hcap, hfv, hcells⟩ := hsv
  have HCh := Lib.hid hch
  have HFV := Lib.hid hfv
  have HCe := Lib.hid hcells
  have HW := Lib.hid hwd
  have hfl : (f.len : Int) ≤ 600 := by omega
  obtain ⟨W2, hW2⟩ : ∃ W2, W2 = w.alloc (.cells #[.int .i64 5, .int .u64 (wd st 0 64 : Nat), .int .u64 (wd st 64 64 : Nat), .int .u64 (wd st 128 64 : Nat), .int .u64 (wd st 192 64 : Nat), .int .i64 0, .int .i64 (-1), .int .i64 g, .slice ad f.len cap] 28) := ⟨_, rfl⟩
  have hx : Below w.heap.size w W2 := by rw [hW2]; exact (Below.refl _ _).alloc (Nat.le_refl _) _
  have hz2 : W2.heap.size = w.heap.size + 1 := by rw [hW2]; simp
  have hg0 : W2.heap[w.heap.size]? = some (.cells #[.int .i64 5, .int .u64 (wd st 0 64 : Nat), .int .u64 (wd st 64 64 : Nat), .int .u64 (wd st 128 64 : Nat), .int .u64 (wd st 192 64 : Nat), .int .i64 0, .int .i64 (-1), .int .i64 g, .slice ad f.len cap] 28 (0, 0)) := by
    rw [hW2]
    exact heap_alloc_new w _
  have HX := Lib.hid hx
  have HG0 := Lib.hid hg0
  have HZ := Lib.hid hz2
  have HW2 := Lib.hid hW2
  clear hch hfv hcells hcap hwd hx hz2 hg0 hW2
  go_enter Try.func22, Try.ntmps22
  go_wp2_with fail
  go_loopw [3] (fun i wr => ∃ k : Nat, k ≤ f.len ∧ i = .int .i64 k ∧ Hid (Below W2.heap.size W2 wr ∧ plF f = plF (f.drop k))) (fun i _ => f.len - (intOf i).toNat)
  case atStart => exact ⟨0, Nat.zero_le _, rfl, by rw [HW2.out]; exact Lib.hid ⟨Below.refl _ _, by cases f <;> rfl⟩⟩
  case round =>
    obtain ⟨k, hk, rfl, HB⟩ := hrel
    have bx : wr.cell? ⟨w.heap.size, 8, none⟩ = some (.slice ad f.len cap) := cell_of_row wr w.heap.size 8 _ _ _ ((HB.out.1.block _ (by have := HZ.out; omega)).trans HG0.out)
    by_cases hkn : k < f.len
    · have ki : (k : Int) < f.len := by omega
      have ki0 : (0 : Int) ≤ k := by omega
      obtain ⟨b, i0, rfl, _, hbl, hce⟩ : ∃ b i, ad = some ⟨b, i, none⟩ ∧ S b ∧ b < w.heap.size ∧ ∀ j u, zs[j]? = some u → w.cell? ⟨b, i + j, none⟩ = some u := by
        rcases HCe.out with h0 | h0
        · omega
        · exact h0
      obtain ⟨sv2, hsv2, hrow⟩ := FV.nth k HFV.out hkn
      obtain ⟨ad2, cp2, rfl⟩ := slice_form hsv2
      have hcell : ∀ j u, (rowV (f.nth k).op (f.nth k).st (f.nth k).lo (f.nth k).hi (f.nth k).g (.slice ad2 (f.nth k).args.len cp2))[j]? = some u → wr.cell? ⟨b, i0 + k * 9 + j, none⟩ = some u := fun j u hu => by
        rw [HB.out.1.cell (by have := HZ.out; show b < W2.heap.size; omega), HX.out.cell (by exact hbl), Nat.add_assoc]
        exact hce _ u (hrow j u hu)
      have c0 : wr.cell? ⟨b, i0 + k * 9, none⟩ = some (.int .i64 (f.nth k).op) := hcell 0 _ rfl
      have c1 : wr.cell? ⟨b, i0 + k * 9 + 1, none⟩ = some (.int .u64 (wd (f.nth k).st 0 64 : Nat)) := hcell 1 _ rfl
      have c2 : wr.cell? ⟨b, i0 + k * 9 + 2, none⟩ = some (.int .u64 (wd (f.nth k).st 64 64 : Nat)) := hcell 2 _ rfl
      have c3 : wr.cell? ⟨b, i0 + k * 9 + 3, none⟩ = some (.int .u64 (wd (f.nth k).st 128 64 : Nat)) := hcell 3 _ rfl
      have c4 : wr.cell? ⟨b, i0 + k * 9 + 4, none⟩ = some (.int .u64 (wd (f.nth k).st 192 64 : Nat)) := hcell 4 _ rfl
      have c5 : wr.cell? ⟨b, i0 + k * 9 + 5, none⟩ = some (.int .i64 (f.nth k).lo) := hcell 5 _ rfl
      have c6 : wr.cell? ⟨b, i0 + k * 9 + 6, none⟩ = some (.int .i64 (f.nth k).hi) := hcell 6 _ rfl
      have c7 : wr.cell? ⟨b, i0 + k * 9 + 7, none⟩ = some (.int .i64 (f.nth k).g) := hcell 7 _ rfl
      have c8 : wr.cell? ⟨b, i0 + k * 9 + 8, none⟩ = some (.slice ad2 (f.nth k).args.len cp2) := hcell 8 _ rfl
      have HC := HCh.out k hkn
      have HL := Lib.hid (fun W (hW : SV W S (f.nth k).args (.slice ad2 (f.nth k).args.len cp2)) => HC (f.nth k).op (f.nth k).lo (f.nth k).hi (f.nth k).g (f.nth k).st _ W S hW (by have h1 := okE_nth f k HW.out.2 hkn; exact ⟨h1.1.1, h1.2.1⟩))
      have HS2 : Hid (SV wr S (f.nth k).args (.slice ad2 (f.nth k).args.len cp2)) := Lib.hid ((hsv2.far (Afar.below HX.out)).far (Afar.below HB.out.1))
      have HSt : Hid (plF f = (plN (f.nth k).op (f.nth k).lo (f.nth k).hi (f.nth k).args && plF (f.drop (k + 1)))) := Lib.hid (by rw [HB.out.2, F.drop_step f k hkn]; rfl)
      obtain ⟨B, hB⟩ : ∃ B, B = plN (f.nth k).op (f.nth k).lo (f.nth k).hi (f.nth k).args := ⟨_, rfl⟩
      rw [← hB] at HSt HL
      clear hcell hce hrow hsv2 HC hB
      cases B
      · go_wp2_with (first
          | (go_at_call 22; (with_reducible refine (HL.out _ HS2.out).mono ?_); rintro e w1 ⟨rfl, hb⟩; have HB1 := Lib.hid (HB.out.1.trans (hb.mono HB.out.1.size)); clear hb bx c0 c1 c2 c3 c4 c5 c6 c7 c8))
        go_ret
        rw [HSt.out]
        exact ⟨rfl, HX.out.trans (HB1.out.mono HX.out.size)⟩
      · go_wp2_with (first
          | (go_at_call 22; (with_reducible refine (HL.out _ HS2.out).mono ?_); rintro e w1 ⟨rfl, hb⟩; have HB1 := Lib.hid (HB.out.1.trans (hb.mono HB.out.1.size)); clear hb bx c0 c1 c2 c3 c4 c5 c6 c7 c8))
        go_roundw
        case rel => exact ⟨k + 1, by omega, by go_num, Lib.hid ⟨HB1.out, by rw [HSt.out]; rfl⟩⟩
        case measure => simp [intOf]; omega
    · obtain rfl : k = f.len := by omega
      have hd := HB.out.2
      rw [F.drop_len] at hd
      have HD := Lib.hid hd
      clear hd
      go_wp2_with fail
      go_ret
      rw [HD.out]
      exact ⟨rfl, HX.out.trans (HB.out.1.mono HX.out.size)⟩
theorem pl_1x (f : F) (hch : ∀ i, i < f.len → PlainOk (f.nth i).args) (g : Int) (st : Nat → Bool) (sv : Value) (w : World) (S : Nat → Prop) (hsv : SV w S f sv) (hwd : f.len ≤ 600 ∧ okE f) :
    Calls Try.prog 22 #[.agg #[.int .i64 5, .int .u64 (wd st 0 64 : Nat), .int .u64 (wd st 64 64 : Nat), .int .u64 (wd st 128 64 : Nat), .int .u64 (wd st 192 64 : Nat), .int .i64 1, .int .i64 (-1), .int .i64 g, sv]] w fun e w' => e = .returned (.bool (plF f)) ∧ Below w.heap.size w w' := by
  obtain ⟨zs, ad, cap, rfl, hcap, hfv, hcells⟩ := hsv
  have HCh := Lib.hid hch
  have HFV := Lib.hid hfv
  have HCe := Lib.hid hcells
  have HW := Lib.hid hwd
  have hfl : (f.len : Int) ≤ 600 := by omega
  obtain ⟨W2, hW2⟩ : ∃ W2, W2 = w.alloc (.cells #[.int .i64 5, .int .u64 (wd st 0 64 : Nat), .int .u64 (wd st 64 64 : Nat), .int .u64 (wd st 128 64 : Nat), .int .u64 (wd st 192 64 : Nat), .int .i64 1, .int .i64 (-1), .int .i64 g, .slice ad f.len cap] 28) := ⟨_, rfl⟩
  have hx : Below w.heap.size w W2 := by rw [hW2]; exact (Below.refl _ _).alloc (Nat.le_refl _) _
  have hz2 : W2.heap.size = w.heap.size + 1 := by rw [hW2]; simp
  have hg0 : W2.heap[w.heap.size]? = some (.cells #[.int .i64 5, .int .u64 (wd st 0 64 : Nat), .int .u64 (wd st 64 64 : Nat), .int .u64 (wd st 128 64 : Nat), .int .u64 (wd st 192 64 : Nat), .int .i64 1, .int .i64 (-1), .int .i64 g, .slice ad f.len cap] 28 (0, 0)) := by
    rw [hW2]
    exact heap_alloc_new w _
  have HX := Lib.hid hx
  have HG0 := Lib.hid hg0
  have HZ := Lib.hid hz2
  have HW2 := Lib.hid hW2
  clear hch hfv hcells hcap hwd hx hz2 hg0 hW2
  go_enter Try.func22, Try.ntmps22
  go_wp2_with fail
  go_loopw [3] (fun i wr => ∃ k : Nat, k ≤ f.len ∧ i = .int .i64 k ∧ Hid (Below W2.heap.size W2 wr ∧ plF f = plF (f.drop k))) (fun i _ => f.len - (intOf i).toNat)
  case atStart => exact ⟨0, Nat.zero_le _, rfl, by rw [HW2.out]; exact Lib.hid ⟨Below.refl _ _, by cases f <;> rfl⟩⟩
  case round =>
    obtain ⟨k, hk, rfl, HB⟩ := hrel
    have bx : wr.cell? ⟨w.heap.size, 8, none⟩ = some (.slice ad f.len cap) := cell_of_row wr w.heap.size 8 _ _ _ ((HB.out.1.block _ (by have := HZ.out; omega)).trans HG0.out)
    by_cases hkn : k < f.len
    · have ki : (k : Int) < f.len := by omega
      have ki0 : (0 : Int) ≤ k := by omega
      obtain ⟨b, i0, rfl, _, hbl, hce⟩ : ∃ b i, ad = some ⟨b, i, none⟩ ∧ S b ∧ b < w.heap.size ∧ ∀ j u, zs[j]? = some u → w.cell? ⟨b, i + j, none⟩ = some u := by
        rcases HCe.out with h0 | h0
        · omega
        · exact h0
      obtain ⟨sv2, hsv2, hrow⟩ := FV.nth k HFV.out hkn
      obtain ⟨ad2, cp2, rfl⟩ := slice_form hsv2
      have hcell : ∀ j u, (rowV (f.nth k).op (f.nth k).st (f.nth k).lo (f.nth k).hi (f.nth k).g (.slice ad2 (f.nth k).args.len cp2))[j]? = some u → wr.cell? ⟨b, i0 + k * 9 + j, none⟩ = some u := fun j u hu => by
        rw [HB.out.1.cell (by have := HZ.out; show b < W2.heap.size; omega), HX.out.cell (by exact hbl), Nat.add_assoc]
        exact hce _ u (hrow j u hu)
      have c0 : wr.cell? ⟨b, i0 + k * 9, none⟩ = some (.int .i64 (f.nth k).op) := hcell 0 _ rfl
      have c1 : wr.cell? ⟨b, i0 + k * 9 + 1, none⟩ = some (.int .u64 (wd (f.nth k).st 0 64 : Nat)) := hcell 1 _ rfl
      have c2 : wr.cell? ⟨b, i0 + k * 9 + 2, none⟩ = some (.int .u64 (wd (f.nth k).st 64 64 : Nat)) := hcell 2 _ rfl
      have c3 : wr.cell? ⟨b, i0 + k * 9 + 3, none⟩ = some (.int .u64 (wd (f.nth k).st 128 64 : Nat)) := hcell 3 _ rfl
      have c4 : wr.cell? ⟨b, i0 + k * 9 + 4, none⟩ = some (.int .u64 (wd (f.nth k).st 192 64 : Nat)) := hcell 4 _ rfl
      have c5 : wr.cell? ⟨b, i0 + k * 9 + 5, none⟩ = some (.int .i64 (f.nth k).lo) := hcell 5 _ rfl
      have c6 : wr.cell? ⟨b, i0 + k * 9 + 6, none⟩ = some (.int .i64 (f.nth k).hi) := hcell 6 _ rfl
      have c7 : wr.cell? ⟨b, i0 + k * 9 + 7, none⟩ = some (.int .i64 (f.nth k).g) := hcell 7 _ rfl
      have c8 : wr.cell? ⟨b, i0 + k * 9 + 8, none⟩ = some (.slice ad2 (f.nth k).args.len cp2) := hcell 8 _ rfl
      have HC := HCh.out k hkn
      have HL := Lib.hid (fun W (hW : SV W S (f.nth k).args (.slice ad2 (f.nth k).args.len cp2)) => HC (f.nth k).op (f.nth k).lo (f.nth k).hi (f.nth k).g (f.nth k).st _ W S hW (by have h1 := okE_nth f k HW.out.2 hkn; exact ⟨h1.1.1, h1.2.1⟩))
      have HS2 : Hid (SV wr S (f.nth k).args (.slice ad2 (f.nth k).args.len cp2)) := Lib.hid ((hsv2.far (Afar.below HX.out)).far (Afar.below HB.out.1))
      have HSt : Hid (plF f = (plN (f.nth k).op (f.nth k).lo (f.nth k).hi (f.nth k).args && plF (f.drop (k + 1)))) := Lib.hid (by rw [HB.out.2, F.drop_step f k hkn]; rfl)
      obtain ⟨B, hB⟩ : ∃ B, B = plN (f.nth k).op (f.nth k).lo (f.nth k).hi (f.nth k).args := ⟨_, rfl⟩
      rw [← hB] at HSt HL
      clear hcell hce hrow hsv2 HC hB
      cases B
      · go_wp2_with (first
          | (go_at_call 22; (with_reducible refine (HL.out _ HS2.out).mono ?_); rintro e w1 ⟨rfl, hb⟩; have HB1 := Lib.hid (HB.out.1.trans (hb.mono HB.out.1.size)); clear hb bx c0 c1 c2 c3 c4 c5 c6 c7 c8))
        go_ret
        rw [HSt.out]
        exact ⟨rfl, HX.out.trans (HB1.out.mono HX.out.size)⟩
      · go_wp2_with (first
          | (go_at_call 22; (with_reducible refine (HL.out _ HS2.out).mono ?_); rintro e w1 ⟨rfl, hb⟩; have HB1 := Lib.hid (HB.out.1.trans (hb.mono HB.out.1.size)); clear hb bx c0 c1 c2 c3 c4 c5 c6 c7 c8))
        go_roundw
        case rel => exact ⟨k + 1, by omega, by go_num, Lib.hid ⟨HB1.out, by rw [HSt.out]; rfl⟩⟩
        case measure => simp [intOf]; omega
    · obtain rfl : k = f.len := by omega
      have hd := HB.out.2
      rw [F.drop_len] at hd
      have HD := Lib.hid hd
      clear hd
      go_wp2_with fail
      go_ret
      rw [HD.out]
      exact ⟨rfl, HX.out.trans (HB.out.1.mono HX.out.size)⟩
theorem pl_b0 (f : F) (h g : Int) (st : Nat → Bool) (sv : Value) (w : World) (S : Nat → Prop) (hsv : SV w S f sv) (e1 : (h == 1) = false) (h1 : ¬ h = 1) (e2 : (h == -1) = false) (h2 : ¬ h = -1) :
    Calls Try.prog 22 #[.agg #[.int .i64 5, .int .u64 (wd st 0 64 : Nat), .int .u64 (wd st 64 64 : Nat), .int .u64 (wd st 128 64 : Nat), .int .u64 (wd st 192 64 : Nat), .int .i64 0, .int .i64 h, .int .i64 g, sv]] w fun e w' => e = .returned (.bool false) ∧ Below w.heap.size w w' := by
  obtain ⟨ad, cap, rfl⟩ := slice_form hsv
  have HX := Lib.hid ((Below.refl w.heap.size w).alloc (Nat.le_refl _) (.cells #[.int .i64 5, .int .u64 (wd st 0 64 : Nat), .int .u64 (wd st 64 64 : Nat), .int .u64 (wd st 128 64 : Nat), .int .u64 (wd st 192 64 : Nat), .int .i64 0, .int .i64 h, .int .i64 g, .slice ad f.len cap] 28))
  clear hsv
  go_enter Try.func22, Try.ntmps22
  go_wp2_with fail
  go_ret
  exact ⟨rfl, HX.out⟩
theorem pl_b1 (f : F) (h g : Int) (st : Nat → Bool) (sv : Value) (w : World) (S : Nat → Prop) (hsv : SV w S f sv) (e2 : (h == -1) = false) (h2 : ¬ h = -1) :
    Calls Try.prog 22 #[.agg #[.int .i64 5, .int .u64 (wd st 0 64 : Nat), .int .u64 (wd st 64 64 : Nat), .int .u64 (wd st 128 64 : Nat), .int .u64 (wd st 192 64 : Nat), .int .i64 1, .int .i64 h, .int .i64 g, sv]] w fun e w' => e = .returned (.bool false) ∧ Below w.heap.size w w' := by
  obtain ⟨ad, cap, rfl⟩ := slice_form hsv
  have HX := Lib.hid ((Below.refl w.heap.size w).alloc (Nat.le_refl _) (.cells #[.int .i64 5, .int .u64 (wd st 0 64 : Nat), .int .u64 (wd st 64 64 : Nat), .int .u64 (wd st 128 64 : Nat), .int .u64 (wd st 192 64 : Nat), .int .i64 1, .int .i64 h, .int .i64 g, .slice ad f.len cap] 28))
  clear hsv
  go_enter Try.func22, Try.ntmps22
  go_wp2_with fail
  go_ret
  exact ⟨rfl, HX.out⟩
theorem pl_bx (f : F) (l h g : Int) (st : Nat → Bool) (sv : Value) (w : World) (S : Nat → Prop) (hsv : SV w S f sv) (e1 : (l == 0) = false) (h1 : ¬ l = 0) (e2 : (l == 1) = false) (h2 : ¬ l = 1) :
    Calls Try.prog 22 #[.agg #[.int .i64 5, .int .u64 (wd st 0 64 : Nat), .int .u64 (wd st 64 64 : Nat), .int .u64 (wd st 128 64 : Nat), .int .u64 (wd st 192 64 : Nat), .int .i64 l, .int .i64 h, .int .i64 g, sv]] w fun e w' => e = .returned (.bool false) ∧ Below w.heap.size w w' := by
  obtain ⟨ad, cap, rfl⟩ := slice_form hsv
  have HX := Lib.hid ((Below.refl w.heap.size w).alloc (Nat.le_refl _) (.cells #[.int .i64 5, .int .u64 (wd st 0 64 : Nat), .int .u64 (wd st 64 64 : Nat), .int .u64 (wd st 128 64 : Nat), .int .u64 (wd st 192 64 : Nat), .int .i64 l, .int .i64 h, .int .i64 g, .slice ad f.len cap] 28))
  clear hsv
  go_enter Try.func22, Try.ntmps22
  go_wp2_with fail
  go_ret
  exact ⟨rfl, HX.out⟩
theorem plain_node (f : F) (hch : ∀ i, i < f.len → PlainOk (f.nth i).args) : PlainOk f := by
  intro o l h g st sv w S hsv hwd
  by_cases o5 : o = 5
  case neg =>
    have e : plN o l h f = plF f := by unfold plN; rw [decide_eq_false o5]; rfl
    rw [e]
    exact pl_no f hch o l h g st sv w S hsv hwd (by simpa using o5) o5
  subst o5
  by_cases l0 : l = 0
  · subst l0
    by_cases h1 : h = 1
    · subst h1
      have e : plN 5 0 1 f = plF f := by unfold plN simT; simp
      rw [e]
      exact pl_01 f hch g st sv w S hsv hwd
    by_cases h2 : h = -1
    · subst h2
      have e : plN 5 0 (-1) f = plF f := by unfold plN simT; simp
      rw [e]
      exact pl_0x f hch g st sv w S hsv hwd
    · have e : plN 5 0 h f = false := by unfold plN simT; simp [h1, h2]
      rw [e]
      exact pl_b0 f h g st sv w S hsv (by simpa using h1) h1 (by simpa using h2) h2
  by_cases l1 : l = 1
  · subst l1
    by_cases h2 : h = -1
    · subst h2
      have e : plN 5 1 (-1) f = plF f := by unfold plN simT; simp
      rw [e]
      exact pl_1x f hch g st sv w S hsv hwd
    · have e : plN 5 1 h f = false := by unfold plN simT; simp [h2]
      rw [e]
      exact pl_b1 f h g st sv w S hsv (by simpa using h2) h2
  · have e : plN 5 l h f = false := by unfold plN simT; simp [l0, l1]
    rw [e]
    exact pl_bx f l h g st sv w S hsv (by simpa using l0) l0 (by simpa using l1) l1
theorem plain_all : ∀ (f : F) (i : Nat), i < f.len → PlainOk (f.nth i).args
  | .nil, i, h => by cases h
  | .cons o s l h g a r, 0, hi => plain_node a (plain_all a)
  | .cons o s l h g a r, i + 1, hi => plain_all r i (by have : i + 1 < r.len + 1 := hi; omega)
theorem plain_any (f : F) : PlainOk f := plain_node f (plain_all f)
end Go.Proofs.Ytpfbpgbgedbalaa
/- The values of an expanded tree are those of the tree: plain mathematics. -/
set_option linter.unusedVariables false
set_option linter.unusedSimpArgs false
namespace Go.Proofs.Ytpfbpgbgedbalaa
open Go.RowKit

theorem getD_app {c : List Bool} {k : Nat} (h : (c ++ [false]).getD k false = true) : k < c.length ∧ c.getD k false = true := by
  by_cases hkl : k < c.length
  · rw [List.getD, List.getElem?_append_left hkl] at h
    exact ⟨hkl, h⟩
  · rw [List.getD, List.getElem?_append_right (by omega)] at h
    by_cases h0 : k - c.length = 0
    · rw [h0] at h; cases h
    · rw [List.getElem?_eq_none (by simp; omega)] at h; cases h
theorem getD_left {c : List Bool} {k : Nat} (h : c.getD k false = true) : (c ++ [false]).getD k false = true := by
  have hkl : k < c.length := by
    refine Decidable.byContradiction fun hn => ?_
    rw [List.getD, List.getElem?_eq_none (by omega)] at h
    cases h
  rw [List.getD, List.getElem?_append_left hkl]
  exact h
/-- The groups before a tree stay as they are. -/
theorem vF_old : ∀ (f : F) (c d : List Bool), vF f c = some d → ∀ k, k < c.length → d.getD k false = c.getD k false
  | .nil, c, d, h, k, hk => by obtain rfl := Option.some.inj h; rfl
  | .cons o s l hh g a r, c, d, h, k, hk => by
    rw [vF] at h
    by_cases hok : okN o s l hh g a.len c = true
    case neg => rw [if_neg hok] at h; cases h
    rw [if_pos hok] at h
    cases hva : vF a (if o = 6 then c ++ [false] else c) with
    | none => rw [hva] at h; cases h
    | some e =>
      rw [hva] at h
      replace h : vF r (if o = 6 then e.set c.length true else e) = some d := h
      have ga := vF_grow a _ _ hva
      by_cases h6 : o = 6
      · rw [if_pos h6] at h hva ga
        rw [List.length_append] at ga
        have ga1 : c.length + 1 ≤ e.length := ga.1
        rw [vF_old r _ d h k (by rw [List.length_set]; omega), List.getD, List.getElem?_set_ne (by omega)]
        have := vF_old a _ e hva k (by rw [List.length_append]; omega)
        rw [List.getD] at this
        rw [this, List.getD, List.getElem?_append_left hk]
        rfl
      · rw [if_neg h6] at h hva ga
        rw [vF_old r _ d h k (by omega), vF_old a _ e hva k hk]
section
variable {T : Type} (R : TN → List T → T)
/-- The values of trees when the groups have these Args' values. -/
def valV (V : Nat → List T) : F → List T
  | .nil => []
  | .cons o s l h g a r => (if o = 9 then R ⟨o, s, l, h, g, a⟩ (V g.toNat) else R ⟨o, s, l, h, g, a⟩ (valV V a)) :: valV V r
def valY (V : Nat → List T) (t : TN) : T := if t.op = 9 then R t (V t.g.toNat) else R t (valV R V t.args)
/-- The groups do have them. -/
def consF (V : Nat → List T) : F → Prop
  | .nil => True
  | .cons o s l h g a r => (o = 6 → V g.toNat = valV R V a) ∧ consF V a ∧ consF V r
def consN (V : Nat → List T) (t : TN) : Prop := (t.op = 6 → V t.g.toNat = valV R V t.args) ∧ consF R V t.args
theorem valV_cons (V : Nat → List T) (o : Int) (s : Nat → Bool) (l h g : Int) (a r : F) : valV R V (.cons o s l h g a r) = valY R V ⟨o, s, l, h, g, a⟩ :: valV R V r := rfl
theorem valV_push (V : Nat → List T) (t : TN) : ∀ f : F, valV R V (f.push t) = valV R V f ++ [valY R V t]
  | .nil => rfl
  | .cons o s l h g a r => by
    show _ :: valV R V (r.push t) = _
    rw [valV_push V t r]
    rfl
theorem valV_times (V : Nat → List T) (t : TN) : ∀ (n : Nat) (f : F), valV R V (timesF n t f) = valV R V f ++ List.replicate n (valY R V t)
  | 0, f => by simp [timesF]
  | n + 1, f => by
    rw [timesF, valV_times V t n, valV_push, List.append_assoc]
    rfl
theorem consF_push (V : Nat → List T) {t : TN} (ht : consN R V t) : ∀ {f : F}, consF R V f → consF R V (f.push t)
  | .nil, _ => ⟨ht.1, ht.2, trivial⟩
  | .cons o s l h g a r, hf => ⟨hf.1, hf.2.1, consF_push V ht hf.2.2⟩
theorem consF_times (V : Nat → List T) {t : TN} (ht : consN R V t) : ∀ (n : Nat) {f : F}, consF R V f → consF R V (timesF n t f)
  | 0, _, hf => hf
  | n + 1, f, hf => consF_times V ht n (consF_push R V ht hf)
/-- What the groups have at last. -/
theorem consB (V : Nat → List T) : ∀ (f : F) (c d : List Bool) (G : Nat → List T), vF f c = some d → (∀ k, d.getD k false = true → (valF R f G).2 (k + 1) = V (k + 1)) →
    consF R V f ∧ (valF R f G).1 = valV R V f ∧ ∀ k, c.getD k false = true → G (k + 1) = V (k + 1)
  | .nil, c, d, G, h, hV => by
    obtain rfl := Option.some.inj h
    exact ⟨trivial, rfl, hV⟩
  | .cons o s l hh g a r, c, d, G, h, hV => by
    rw [vF] at h
    by_cases hok : okN o s l hh g a.len c = true
    case neg => rw [if_neg hok] at h; cases h
    rw [if_pos hok] at h
    have hp := okN_parts hok
    have hhav : havT o a.len = true := by have := hp.1; unfold fldT at this; simp only [Bool.and_eq_true] at this; exact this.1
    cases hva : vF a (if o = 6 then c ++ [false] else c) with
    | none => rw [hva] at h; cases h
    | some e =>
      rw [hva] at h
      replace h : vF r (if o = 6 then e.set c.length true else e) = some d := h
      have ga := vF_grow a _ _ hva
      rw [valF] at hV ⊢
      rw [valV]
      by_cases o9 : o = 9
      · subst o9
        have hl0 : a.len = 0 := by simpa [havT] using hhav
        obtain rfl := len0 hl0
        rw [if_neg (by decide)] at hva h
        obtain rfl : c = e := Option.some.inj hva
        obtain ⟨g1, g2, g3⟩ := clB_of (hp.2.2.1 rfl)
        have gn : g.toNat - 1 + 1 = g.toNat := by omega
        rw [if_pos rfl] at hV ⊢
        obtain ⟨j1, j2, j3⟩ := consB V r c d G h hV
        refine ⟨⟨fun k => absurd (show (9 : Int) = 6 from k) (by decide), trivial, j1⟩, ?_, j3⟩
        have := j3 _ g3
        rw [gn] at this
        rw [this, if_pos rfl]
        show _ :: (valF R r G).1 = _
        rw [j2]
      · rw [if_neg o9] at hV ⊢
        rw [if_neg o9]
        by_cases h6 : o = 6
        · have hg := hp.2.2.2 h6
          have hgn : g.toNat = c.length + 1 := by omega
          rw [if_pos h6] at h hva ga hV ⊢
          rw [List.length_append] at ga
          have ga1 : c.length + 1 ≤ e.length := ga.1
          obtain ⟨j1, j2, j3⟩ := consB V r _ d _ h hV
          have hE : ∀ k, e.getD k false = true → (valF R a G).2 (k + 1) = V (k + 1) := fun k hk => by
            have hne : k ≠ c.length := fun e0 => by
              have := vF_old a _ e hva c.length (by simp)
              rw [e0] at hk
              rw [this] at hk
              have := (getD_app hk).1
              omega
            have := j3 k (by rw [List.getD, List.getElem?_set_ne (by omega)]; exact hk)
            unfold upG at this
            rw [if_neg (by omega)] at this
            exact this
          obtain ⟨i1, i2, i3⟩ := consB V a _ e G hva hE
          have hv : V g.toNat = valV R V a := by
            have := j3 c.length (by rw [List.getD, List.getElem?_set_self (by omega)]; rfl)
            unfold upG at this
            rw [if_pos hgn.symm] at this
            rw [hgn, ← this, i2]
          refine ⟨⟨fun _ => hv, i1, j1⟩, ?_, fun k hk => i3 k (getD_left hk)⟩
          show _ :: _ = _
          rw [j2, i2]
        · rw [if_neg h6] at h hva ga hV ⊢
          obtain ⟨j1, j2, j3⟩ := consB V r _ d _ h hV
          obtain ⟨i1, i2, i3⟩ := consB V a _ e G hva j3
          refine ⟨⟨fun k => absurd k h6, i1, j1⟩, ?_, i3⟩
          show _ :: _ = _
          rw [i2, j2]
/-- And what they have on the way. -/
theorem consD (V : Nat → List T) : ∀ (f : F) (c d : List Bool) (G : Nat → List T), consF R V f → vF f c = some d → (∀ k, c.getD k false = true → G (k + 1) = V (k + 1)) →
    (valF R f G).1 = valV R V f ∧ ∀ k, d.getD k false = true → (valF R f G).2 (k + 1) = V (k + 1)
  | .nil, c, d, G, _, h, hV => by
    obtain rfl := Option.some.inj h
    exact ⟨rfl, hV⟩
  | .cons o s l hh g a r, c, d, G, hc, h, hV => by
    rw [vF] at h
    by_cases hok : okN o s l hh g a.len c = true
    case neg => rw [if_neg hok] at h; cases h
    rw [if_pos hok] at h
    have hp := okN_parts hok
    have hhav : havT o a.len = true := by have := hp.1; unfold fldT at this; simp only [Bool.and_eq_true] at this; exact this.1
    cases hva : vF a (if o = 6 then c ++ [false] else c) with
    | none => rw [hva] at h; cases h
    | some e =>
      rw [hva] at h
      replace h : vF r (if o = 6 then e.set c.length true else e) = some d := h
      have ga := vF_grow a _ _ hva
      rw [valF, valV]
      by_cases o9 : o = 9
      · subst o9
        have hl0 : a.len = 0 := by simpa [havT] using hhav
        obtain rfl := len0 hl0
        rw [if_neg (by decide)] at hva h
        obtain rfl : c = e := Option.some.inj hva
        obtain ⟨g1, g2, g3⟩ := clB_of (hp.2.2.1 rfl)
        have gn : g.toNat - 1 + 1 = g.toNat := by omega
        rw [if_pos rfl, if_pos rfl]
        obtain ⟨j1, j2⟩ := consD V r c d G hc.2.2 h hV
        refine ⟨?_, j2⟩
        have := hV _ g3
        rw [gn] at this
        rw [this]
        show _ :: (valF R r G).1 = _
        rw [j1]
      · rw [if_neg o9, if_neg o9]
        by_cases h6 : o = 6
        · have hg := hp.2.2.2 h6
          have hgn : g.toNat = c.length + 1 := by omega
          rw [if_pos h6] at h hva ga ⊢
          rw [List.length_append] at ga
          have ga1 : c.length + 1 ≤ e.length := ga.1
          obtain ⟨i1, i2⟩ := consD V a _ e G hc.2.1 hva (fun k hk => hV k (getD_app hk).2)
          obtain ⟨j1, j2⟩ := consD V r _ d (upG (valF R a G).2 g.toNat (valF R a G).1) hc.2.2 h (fun k hk => by
            unfold upG
            by_cases hk6 : k = c.length
            · rw [if_pos (by omega), i1, hk6, ← hgn, hc.1 h6]
            · rw [if_neg (by omega)]
              rw [List.getD, List.getElem?_set_ne (by omega)] at hk
              exact i2 k hk)
          refine ⟨?_, j2⟩
          show _ :: _ = _
          rw [j1, i1]
        · rw [if_neg h6] at h hva ga ⊢
          obtain ⟨i1, i2⟩ := consD V a _ e G hc.2.1 hva hV
          obtain ⟨j1, j2⟩ := consD V r _ d _ hc.2.2 h i2
          refine ⟨?_, j2⟩
          show _ :: _ = _
          rw [i1, j1]
/-- The values are in their bounds. -/
theorem valV_in (I : T → Prop) (hI : ∀ (t : TN) (ps : List T), (∀ x, x ∈ ps → I x) → (t.op = 5 → (0 ≤ t.lo ∧ t.lo ≤ 64) ∧ (t.hi = -1 ∨ (t.lo ≤ t.hi ∧ t.hi ≤ 64))) → I (R t ps)) (V : Nat → List T) (hV : ∀ k x, x ∈ V k → I x) : ∀ f : F, okE f → ∀ x, x ∈ valV R V f → I x
  | .nil, _, x, hx => by cases hx
  | .cons o s l h g a r, hok, x, hx => by
    rw [valV] at hx
    rcases List.mem_cons.1 hx with rfl | hx
    · split
      · exact hI _ _ (fun y hy => hV _ y hy) (fun o5 => (hok.1.2 o5).2)
      · exact hI _ _ (valV_in I hI V hV a hok.2.1) (fun o5 => (hok.1.2 o5).2)
    · exact valV_in I hI V hV r hok.2.2 x hx
/-- The laws of a rule that make its value that of the expanded tree. -/
structure ExpL (I : T → Prop) : Prop where
  keep : ∀ (t : TN) (ps : List T), (∀ x, x ∈ ps → I x) → (t.op = 5 → (0 ≤ t.lo ∧ t.lo ≤ 64) ∧ (t.hi = -1 ∨ (t.lo ≤ t.hi ∧ t.hi ≤ 64))) → I (R t ps)
  args : ∀ (o l h g : Int) (s : Nat → Bool) (a a' : F) (ps : List T), R ⟨o, s, l, h, g, a⟩ ps = R ⟨o, s, l, h, g, a'⟩ ps
  none : ∀ (l h g : Int) (s : Nat → Bool) (a : F) (x : T), I x → (0 ≤ l ∧ l ≤ 64) → (h = -1 ∨ (l ≤ h ∧ h ≤ 64)) → cpT l h = 0 → rpT l h = 0 → R ⟨1, noSet, 0, 0, 0, .nil⟩ [] = R ⟨5, s, l, h, g, a⟩ [x]
  copy : ∀ (l h g : Int) (s : Nat → Bool) (a : F) (x : T), I x → (0 ≤ l ∧ l ≤ 64) → (h = -1 ∨ (l ≤ h ∧ h ≤ 64)) → cpT l h = 1 → rpT l h = 0 → x = R ⟨5, s, l, h, g, a⟩ [x]
  rep : ∀ (l h g : Int) (s : Nat → Bool) (a a' : F) (x : T), I x → (0 ≤ l ∧ l ≤ 64) → (h = -1 ∨ (l ≤ h ∧ h ≤ 64)) → cpT l h = 0 → rpT l h = 1 → R ⟨5, noSet, loT l h, hiT l h, 0, a'⟩ [x] = R ⟨5, s, l, h, g, a⟩ [x]
  cat : ∀ (l h g : Int) (s : Nat → Bool) (a a' a2 : F) (x : T), I x → (0 ≤ l ∧ l ≤ 64) → (h = -1 ∨ (l ≤ h ∧ h ≤ 64)) → 2 ≤ (cpT l h).toNat + (rpT l h).toNat →
    R ⟨3, noSet, 0, 0, 0, a2⟩ (List.replicate (cpT l h).toNat x ++ List.replicate (rpT l h).toNat (R ⟨5, noSet, loT l h, hiT l h, 0, a'⟩ [x])) = R ⟨5, s, l, h, g, a⟩ [x]
variable {R}
theorem seq_val {I : T → Prop} (L : ExpL R I) (V : Nat → List T) (y : TN) (l h g : Int) (s : Nat → Bool) (a : F) (hx : I (valY R V y)) (hl : 0 ≤ l ∧ l ≤ 64) (hh : h = -1 ∨ (l ≤ h ∧ h ≤ 64)) (hy : consN R V y) :
    consN R V (catT (seqF ⟨5, s, l, h, g, a⟩ y)) ∧ valY R V (catT (seqF ⟨5, s, l, h, g, a⟩ y)) = R ⟨5, s, l, h, g, a⟩ [valY R V y] := by
  obtain ⟨⟨c1, c2⟩, ⟨e1, e2⟩⟩ := bounds_cr l h hl hh
  have hrep : consN R V (repT (loT l h) (hiT l h) y) := ⟨fun k => absurd (show (5 : Int) = 6 from k) (by decide), consF_push R V hy (f := .nil) trivial⟩
  have hvr : valY R V (repT (loT l h) (hiT l h) y) = R ⟨5, noSet, loT l h, hiT l h, 0, F.nil.push y⟩ [valY R V y] := rfl
  have hseq : seqF ⟨5, s, l, h, g, a⟩ y = timesF (rpT l h).toNat (repT (loT l h) (hiT l h) y) (timesF (cpT l h).toNat y .nil) := rfl
  have hcF : consF R V (seqF ⟨5, s, l, h, g, a⟩ y) := by rw [hseq]; exact consF_times R V hrep _ (consF_times R V hy _ trivial)
  have hval : valV R V (seqF ⟨5, s, l, h, g, a⟩ y) = List.replicate (cpT l h).toNat (valY R V y) ++ List.replicate (rpT l h).toNat (R ⟨5, noSet, loT l h, hiT l h, 0, F.nil.push y⟩ [valY R V y]) := by
    rw [hseq, valV_times, valV_times, hvr]
    rfl
  have hlen : (seqF ⟨5, s, l, h, g, a⟩ y).len = (cpT l h).toNat + (rpT l h).toNat := by
    rw [hseq, timesF_len, timesF_len]
    show 0 + _ + _ = _
    omega
  generalize seqF ⟨5, s, l, h, g, a⟩ y = q at *
  by_cases h0 : q.len = 0
  · obtain rfl := len0 h0
    exact ⟨⟨fun k => absurd (show (1 : Int) = 6 from k) (by decide), trivial⟩, L.none l h g s a _ hx hl hh (by omega) (by omega)⟩
  by_cases h1 : q.len = 1
  · obtain ⟨o1, s1, l1, h2, g1, a1, rfl⟩ := len1 h1
    have hv1 : valY R V ⟨o1, s1, l1, h2, g1, a1⟩ = R ⟨5, s, l, h, g, a⟩ [valY R V y] := by
      have hv : [valY R V ⟨o1, s1, l1, h2, g1, a1⟩] = List.replicate (cpT l h).toNat (valY R V y) ++ List.replicate (rpT l h).toNat (R ⟨5, noSet, loT l h, hiT l h, 0, F.nil.push y⟩ [valY R V y]) := hval
      rcases (show ((cpT l h).toNat = 1 ∧ (rpT l h).toNat = 0) ∨ ((cpT l h).toNat = 0 ∧ (rpT l h).toNat = 1) by omega) with ⟨k1, k2⟩ | ⟨k1, k2⟩
      · rw [k1, k2] at hv
        have : valY R V ⟨o1, s1, l1, h2, g1, a1⟩ = valY R V y := by simpa using hv
        rw [this]
        exact L.copy l h g s a _ hx hl hh (by omega) (by omega)
      · rw [k1, k2] at hv
        have : valY R V ⟨o1, s1, l1, h2, g1, a1⟩ = R ⟨5, noSet, loT l h, hiT l h, 0, F.nil.push y⟩ [valY R V y] := by simpa using hv
        rw [this]
        exact L.rep l h g s a _ _ hx hl hh (by omega) (by omega)
    exact ⟨⟨hcF.1, hcF.2.1⟩, hv1⟩
  · rw [catT_many (by omega)]
    refine ⟨⟨fun k => absurd (show (3 : Int) = 6 from k) (by decide), hcF⟩, ?_⟩
    show R ⟨3, noSet, 0, 0, 0, q⟩ (valV R V q) = _
    rw [hval]
    exact L.cat l h g s a _ _ _ hx hl hh (by omega)
theorem expV {I : T → Prop} (L : ExpL R I) (V : Nat → List T) (hV : ∀ k x, x ∈ V k → I x) : ∀ f : F, okE f → consF R V f → consF R V (expF f) ∧ valV R V (expF f) = valV R V f
  | .nil, _, _ => ⟨trivial, rfl⟩
  | .cons o s l h g a r, hok, hc => by
    obtain ⟨r1, r2⟩ := expV L V hV r hok.2.2 hc.2.2
    obtain ⟨a1, a2⟩ := expV L V hV a hok.2.1 hc.2.1
    have key : consN R V (expN ⟨o, s, l, h, g, a⟩ (expF a)) ∧ valY R V (expN ⟨o, s, l, h, g, a⟩ (expF a)) = valY R V ⟨o, s, l, h, g, a⟩ := by
      unfold expN
      by_cases o5 : o = 5
      · rw [if_pos o5]
        subst o5
        obtain ⟨h1, hl, hh⟩ := hok.1.2 rfl
        obtain ⟨o1, s1, l1, h2, g1, a1', rfl⟩ := len1 h1
        have hin := valV_in R I L.keep V hV _ hok.2.1
        have e0 : expF (.cons o1 s1 l1 h2 g1 a1' .nil) = .cons (expT ⟨o1, s1, l1, h2, g1, a1'⟩).op (expT ⟨o1, s1, l1, h2, g1, a1'⟩).st (expT ⟨o1, s1, l1, h2, g1, a1'⟩).lo (expT ⟨o1, s1, l1, h2, g1, a1'⟩).hi (expT ⟨o1, s1, l1, h2, g1, a1'⟩).g (expT ⟨o1, s1, l1, h2, g1, a1'⟩).args .nil := rfl
        rw [e0] at a1 a2 ⊢
        have hy : valY R V (expT ⟨o1, s1, l1, h2, g1, a1'⟩) = valY R V ⟨o1, s1, l1, h2, g1, a1'⟩ := (List.cons.inj a2).1
        have hs := seq_val L V (expT ⟨o1, s1, l1, h2, g1, a1'⟩) l h g s (.cons o1 s1 l1 h2 g1 a1' .nil) (by rw [hy]; exact hin _ (List.mem_cons_self ..)) hl hh ⟨a1.1, a1.2.1⟩
        refine ⟨hs.1, hs.2.trans ?_⟩
        rw [hy]
        rfl
      · rw [if_neg o5]
        refine ⟨⟨fun k => by show V g.toNat = valV R V (expF a); rw [a2]; exact hc.1 k, a1⟩, ?_⟩
        unfold valY
        by_cases o9 : o = 9
        · rw [if_pos o9, if_pos o9]
          exact L.args ..
        · rw [if_neg o9, if_neg o9]
          show R ⟨o, s, l, h, g, expF a⟩ (valV R V (expF a)) = R ⟨o, s, l, h, g, a⟩ (valV R V a)
          rw [a2]
          exact L.args ..
    refine ⟨⟨key.1.1, key.1.2, r1⟩, ?_⟩
    show valY R V (expN ⟨o, s, l, h, g, a⟩ (expF a)) :: valV R V (expF r) = valY R V ⟨o, s, l, h, g, a⟩ :: valV R V r
    rw [key.2, r2]
theorem valT_exp {I : T → Prop} (L : ExpL R I) (hR : ∀ t ps, PN I t ps → I (R t ps)) (t : TN) (h : Valid t) (k : Valid (expT t)) : valT R (expT t) = valT R t := by
  have hok := okE_valid h
  obtain ⟨c, h1, h2, h3, h4⟩ := h
  obtain ⟨d, k1, _⟩ := k
  have hp := preF_of hR t.f [] c G0 h1 h2 h3 ⟨fun k hk => by simp at hk, fun k x hx => by cases hx⟩
  obtain ⟨b1, b2, b3⟩ := consB R (valF R t.f G0).2 t.f [] c G0 h1 (fun _ _ => rfl)
  obtain ⟨e1, e2⟩ := expV L (valF R t.f G0).2 hp.2.1.2 t.f hok b1
  have ef : (expT t).f = expF t.f := rfl
  rw [ef] at k1
  obtain ⟨d1, d2⟩ := consD R (valF R t.f G0).2 (expF t.f) [] d G0 e1 k1 (fun k hk => by simp at hk)
  have ha : (valF R t.f G0).1 = [valT R t] := by
    unfold TN.f
    rw [valF_cons]
    rfl
  have hb : (valF R (expF t.f) G0).1 = [valT R (expT t)] := by
    rw [← ef]
    unfold TN.f
    rw [valF_cons]
    rfl
  rw [ha] at b2
  rw [hb] at d1
  rw [e2, ← b2] at d1
  exact (List.cons.inj d1).1
end
end Go.Proofs.Ytpfbpgbgedbalaa
/- The rules of Length and First give an expanded tree what they give the tree. -/
set_option linter.unusedVariables false
set_option linter.unusedSimpArgs false
namespace Go.Proofs.Ytpfbpgbgedbalaa
open Go.RowKit

theorem satS (acc a : Int) (h : 0 ≤ acc ∧ acc ≤ 2147483647) (k : 0 ≤ a ∧ a ≤ 2147483647) : sumT acc a = min (acc + a) 2147483647 := by
  unfold sumT
  rw [if_neg (by omega)]
  split <;> omega
theorem foldS (a : Int) (k : 0 ≤ a ∧ a ≤ 2147483647) : ∀ (n : Nat) (acc : Int), (0 ≤ acc ∧ acc ≤ 2147483647) → (List.replicate n a).foldl sumT acc = min (acc + n * a) 2147483647
  | 0, acc, h => by simp; omega
  | n + 1, acc, h => by
    rw [List.replicate_succ, List.foldl_cons, satS acc a h k, foldS a k n _ (by omega)]
    have e : ((n + 1 : Nat) : Int) * a = n * a + a := by rw [Int.natCast_add, Int.add_mul]; simp
    rw [e]
    have hp : 0 ≤ (n : Int) * a := Int.mul_nonneg (by omega) k.1
    generalize (n : Int) * a = p at *
    omega
theorem foldN : ∀ L : List Int, L.foldl sumT (-1) = -1
  | [] => rfl
  | x :: r => by rw [List.foldl_cons, show sumT (-1) x = -1 by unfold sumT; rw [if_pos (.inl rfl)], foldN r]
theorem foldM (n : Nat) (acc : Int) (hn : 0 < n) : (List.replicate n (-1)).foldl sumT acc = -1 := by
  obtain ⟨m, rfl⟩ : ∃ m, n = m + 1 := ⟨n - 1, by omega⟩
  rw [List.replicate_succ, List.foldl_cons, show sumT acc (-1) = -1 by unfold sumT; rw [if_pos (.inr rfl)], foldN]
theorem prodS (a b : Int) (h : 0 ≤ a ∧ a ≤ 2147483647) (k : 0 ≤ b) : prodT a b = min (a * b) 2147483647 := by
  unfold prodT
  by_cases h0 : a = 0 ∨ b = 0
  · rw [if_pos h0]
    rcases h0 with rfl | rfl
    · rw [Int.zero_mul]; rfl
    · rw [Int.mul_zero]; rfl
  · rw [if_neg h0, if_neg (by omega)]
    have hb : 0 < b := by omega
    by_cases hm : 2147483647 / b < a
    · rw [if_pos hm]
      have := (Int.ediv_lt_iff_lt_mul hb).1 hm
      omega
    · rw [if_neg hm]
      have : ¬ 2147483647 < a * b := fun hx => hm ((Int.ediv_lt_iff_lt_mul hb).2 hx)
      omega
theorem sum0 (x : Int) (h : -1 ≤ x ∧ x ≤ 2147483647) : sumT 0 x = x := by
  unfold sumT
  by_cases h1 : x = -1
  · rw [if_pos (.inr h1)]; omega
  · rw [if_neg (by omega), if_neg (by omega)]; omega
theorem com_fold (L : List (Int × Int)) (acc : Int × Int) : L.foldl (fun a p => (sumT a.1 p.1, sumT a.2 p.2)) acc = ((L.map (·.1)).foldl sumT acc.1, (L.map (·.2)).foldl sumT acc.2) := by
  induction L generalizing acc with
  | nil => rfl
  | cons x r ih => rw [List.foldl_cons, ih]; rfl
theorem com_sum (L : List (Int × Int)) (h : ∀ x, x ∈ L → LOk x) : comT sumT sumT L = ((L.map (·.1)).foldl sumT 0, (L.map (·.2)).foldl sumT 0) := by
  cases L with
  | nil => rfl
  | cons x r =>
    obtain ⟨h1, h2⟩ := h x (List.mem_cons_self ..)
    show r.foldl (fun a p => (sumT a.1 p.1, sumT a.2 p.2)) x = _
    rw [com_fold]
    show _ = ((r.map (·.1)).foldl sumT (sumT 0 x.1), (r.map (·.2)).foldl sumT (sumT 0 x.2))
    rw [sum0 x.1 (by omega), sum0 x.2 h2]
theorem lenT_in (t : TN) (ps : List (Int × Int)) (hps : ∀ x, x ∈ ps → LOk x) (hb : t.op = 5 → (0 ≤ t.lo ∧ t.lo ≤ 64) ∧ (t.hi = -1 ∨ (t.lo ≤ t.hi ∧ t.hi ≤ 64))) : LOk (lenT t ps) := by
  unfold lenT
  have h0 : LOk (0, 0) := by unfold LOk; decide
  have hd : LOk (ps.headD (0, 0)) := by
    cases ps with
    | nil => exact h0
    | cons x r => exact hps x (List.mem_cons_self ..)
  have hc : ∀ {F1 F2 : Nat} {f g : Int → Int → Int}, Pair2 F1 F2 f g → LOk (comT f g ps) := fun hp => by
    cases ps with
    | nil => exact h0
    | cons x r => exact fold_ok hp r x (hps x (List.mem_cons_self ..)) (fun y hy => hps y (List.mem_cons_of_mem _ hy))
  by_cases o2 : t.op = 2
  · rw [if_pos o2]; unfold LOk; decide
  rw [if_neg o2]
  by_cases o3 : t.op = 3
  · rw [if_pos o3]; exact hc pair_sum
  rw [if_neg o3]
  by_cases o4 : t.op = 4
  · rw [if_pos o4]; exact hc pair_alt
  rw [if_neg o4]
  by_cases o5 : t.op = 5
  · rw [if_pos o5]
    have hr := hb o5
    exact ⟨⟨prodT_pos _ _ hd.1 hr.1, (prodT_ok _ _ ⟨by have := hd.1.1; omega, hd.1.2⟩ ⟨by omega, hr.1.2⟩).2⟩, prodT_ok _ _ hd.2 ⟨by omega, by omega⟩⟩
  rw [if_neg o5]
  split
  · exact hd
  · exact h0
theorem rep_same {l h : Int} (hl : 0 ≤ l ∧ l ≤ 64) (hh : h = -1 ∨ (l ≤ h ∧ h ≤ 64)) (hc : cpT l h = 0) (hr : rpT l h = 1) : loT l h = l ∧ hiT l h = h := by
  unfold cpT rpT at *
  unfold loT hiT
  by_cases h1 : h = -1
  · rw [if_pos h1] at hc hr
    rw [if_pos h1, if_pos h1]
    split at hc <;> (split <;> omega)
  · rw [if_neg h1] at hc hr
    rw [if_neg h1, if_neg h1]
    omega
theorem len_rep (s : Nat → Bool) (l h g : Int) (a : F) (x : Int × Int) : lenT ⟨5, s, l, h, g, a⟩ [x] = (prodT x.1 l, prodT x.2 h) := rfl
theorem expL_len : ExpL lenT LOk where
  keep := lenT_in
  args := fun _ _ _ _ _ _ _ _ => rfl
  none := fun l h g s a x hx hl hh hc hr => by
    rw [len_rep]
    show ((0 : Int), (0 : Int)) = _
    have h1 : ¬ h = -1 := fun e => by unfold rpT at hr; rw [if_pos e] at hr; omega
    unfold cpT at hc
    unfold rpT at hr
    rw [if_neg h1] at hc hr
    obtain rfl : l = 0 := hc
    obtain rfl : h = 0 := by omega
    unfold prodT
    rw [if_pos (.inr rfl), if_pos (.inr rfl)]
  copy := fun l h g s a x hx hl hh hc hr => by
    rw [len_rep]
    have h1 : ¬ h = -1 := fun e => by unfold rpT at hr; rw [if_pos e] at hr; omega
    unfold cpT at hc
    unfold rpT at hr
    rw [if_neg h1] at hc hr
    obtain rfl : l = 1 := hc
    obtain rfl : h = 1 := by omega
    obtain ⟨x1, x2⟩ := x
    obtain ⟨k1, k2⟩ := hx
    have e1 : prodT x1 1 = x1 := by rw [prodS x1 1 k1 (by decide)]; have := k1.2; omega
    have e2 : prodT x2 1 = x2 := by
      by_cases hm : x2 = -1
      · rw [hm]; rfl
      · rw [prodS x2 1 ⟨by have := k2.1; omega, k2.2⟩ (by decide)]; have := k2.2; omega
    rw [e1, e2]
  rep := fun l h g s a a' x hx hl hh hc hr => by
    obtain ⟨e1, e2⟩ := rep_same hl hh hc hr
    rw [e1, e2]
    rfl
  cat := fun l h g s a a' a2 x hx hl hh hn => by
    rw [len_rep, len_rep]
    obtain ⟨x1, x2⟩ := x
    obtain ⟨k1, k2⟩ := hx
    show comT sumT sumT _ = _
    have p1 : 0 ≤ prodT x1 (loT l h) ∧ prodT x1 (loT l h) ≤ 2147483647 := by
      have hlo : 0 ≤ loT l h ∧ loT l h ≤ 64 := by unfold loT; split <;> (try split) <;> omega
      exact ⟨prodT_pos _ _ k1 hlo, (prodT_ok _ _ ⟨by have := k1.1; omega, k1.2⟩ ⟨by omega, hlo.2⟩).2⟩
    have p2 : -1 ≤ prodT x2 (hiT l h) ∧ prodT x2 (hiT l h) ≤ 2147483647 := prodT_ok _ _ k2 (by unfold hiT; split <;> omega)
    rw [com_sum _ (fun y hy => by
      rcases List.mem_append.1 hy with hy | hy
      · rw [List.eq_of_mem_replicate hy]; exact ⟨k1, k2⟩
      · rw [List.eq_of_mem_replicate hy]; exact ⟨p1, p2⟩)]
    simp only [List.map_append, List.map_replicate, List.foldl_append]
    by_cases h1 : h = -1
    · subst h1
      have ec : cpT l (-1) = if l - 1 < 0 then 0 else l - 1 := rfl
      have er : rpT l (-1) = 1 := rfl
      have elo : loT l (-1) = if 1 < l then 1 else l := rfl
      have ehi : hiT l (-1) = -1 := rfl
      rw [er] at hn ⊢
      rw [ec] at hn ⊢
      have hl2 : 2 ≤ l := by
        by_cases hlt : l - 1 < 0
        · rw [if_pos hlt] at hn; exact absurd hn (by decide)
        · rw [if_neg hlt] at hn; omega
      have hnl : ¬ l - 1 < 0 := by omega
      have hnp : 1 < l := by omega
      rw [if_neg hnl] at hn ⊢
      rw [ehi, elo, if_pos hnp]
      have ep1 : prodT x1 1 = x1 := by rw [prodS x1 1 k1 (by decide)]; have := k1.2; omega
      rw [ep1]
      refine Prod.ext ?_ ?_
      · show List.foldl sumT (List.foldl sumT 0 (List.replicate (l - 1).toNat x1)) [x1] = prodT x1 l
        rw [foldS x1 k1 _ _ ⟨by omega, by omega⟩, prodS x1 l k1 hl.1]
        have hq : 0 ≤ ((l - 1).toNat : Int) * x1 := Int.mul_nonneg (by omega) k1.1
        show sumT _ x1 = _
        rw [satS _ _ (by omega) k1]
        have e : x1 * l = ((l - 1).toNat : Int) * x1 + x1 := by
          have : ((l - 1).toNat : Int) = l - 1 := by omega
          rw [this, Int.sub_mul, Int.mul_comm x1 l]
          omega
        rw [e]
        generalize ((l - 1).toNat : Int) * x1 = q at *
        omega
      · show List.foldl sumT (List.foldl sumT 0 (List.replicate (l - 1).toNat x2)) [prodT x2 (-1)] = prodT x2 (-1)
        show sumT _ (prodT x2 (-1)) = _
        by_cases z : x2 = 0
        · subst z
          rw [foldS 0 (by decide) _ _ (by decide)]
          show sumT _ 0 = 0
          rw [satS _ _ (by omega) (by decide)]
          omega
        · have : prodT x2 (-1) = -1 := by unfold prodT; rw [if_neg (by omega), if_pos (.inr rfl)]
          rw [this]
          unfold sumT
          rw [if_pos (.inr rfl)]
    · have ec : cpT l h = l := by unfold cpT; rw [if_neg h1]
      have er : rpT l h = h - l := by unfold rpT; rw [if_neg h1]
      have elo : loT l h = 0 := by unfold loT; rw [if_neg h1]
      have ehi : hiT l h = 1 := by unfold hiT; rw [if_neg h1]
      rw [ec, er] at hn ⊢
      rw [elo, ehi]
      have hp0 : prodT x1 0 = 0 := by unfold prodT; rw [if_pos (.inr rfl)]
      rw [hp0]
      refine Prod.ext ?_ ?_
      · show List.foldl sumT (List.foldl sumT 0 (List.replicate l.toNat x1)) (List.replicate (h - l).toNat 0) = prodT x1 l
        have hq : 0 ≤ (l.toNat : Int) * x1 := Int.mul_nonneg (by omega) k1.1
        rw [foldS x1 k1 _ _ ⟨by omega, by omega⟩, foldS 0 (by decide) _ _ (by omega), prodS x1 l k1 hl.1]
        have e : x1 * l = (l.toNat : Int) * x1 := by
          have : (l.toNat : Int) = l := by omega
          rw [this, Int.mul_comm]
        rw [e, Int.mul_zero]
        omega
      · show List.foldl sumT (List.foldl sumT 0 (List.replicate l.toNat x2)) (List.replicate (h - l).toNat (prodT x2 1)) = prodT x2 h
        by_cases z : x2 = -1
        · subst z
          have e2 : prodT (-1) 1 = -1 := rfl
          have e3 : prodT (-1) h = -1 := by unfold prodT; rw [if_neg (by omega), if_pos (.inl rfl)]
          rw [e2, e3]
          by_cases zl : l.toNat = 0
          · rw [zl]
            exact foldM _ _ (by omega)
          · rw [foldM l.toNat 0 (by omega), foldN]
        · have k3 : 0 ≤ x2 ∧ x2 ≤ 2147483647 := by omega
          have e2 : prodT x2 1 = x2 := by rw [prodS x2 1 k3 (by decide)]; omega
          have hq : 0 ≤ (l.toNat : Int) * x2 := Int.mul_nonneg (by omega) k3.1
          rw [e2, foldS x2 k3 l.toNat 0 (by omega)]
          rw [foldS x2 k3 (h - l).toNat _ (by omega), prodS x2 h k3 (by omega)]
          have hq2 : 0 ≤ ((h - l).toNat : Int) * x2 := Int.mul_nonneg (by omega) k3.1
          have e : x2 * h = (l.toNat : Int) * x2 + ((h - l).toNat : Int) * x2 := by
            have a1 : (l.toNat : Int) = l := by omega
            have a2 : ((h - l).toNat : Int) = h - l := by omega
            rw [a1, a2, Int.sub_mul, Int.mul_comm x2 h]
            omega
          rw [e]
          generalize (l.toNat : Int) * x2 = q at *
          generalize ((h - l).toNat : Int) * x2 = q2 at *
          omega
end Go.Proofs.Ytpfbpgbgedbalaa
/- The rule of First gives an expanded tree what it gives the tree; Nullable is its second half. -/
set_option linter.unusedVariables false
set_option linter.unusedSimpArgs false
namespace Go.Proofs.Ytpfbpgbgedbalaa
open Go.RowKit

theorem uni_no (p : Nat → Bool) : uniP noSet p = p := by funext c; simp [uniP, noSet]
theorem uni_self (p : Nat → Bool) : uniP p p = p := by funext c; simp [uniP]
theorem fstL_same (ct : Bool) (p : Nat → Bool) : ∀ L : List ((Nat → Bool) × Bool), (∀ x, x ∈ L → x.1 = p) → fstL ct L p = p
  | [], _ => rfl
  | x :: r, h => by
    rw [fstL, h x (List.mem_cons_self ..), uni_self, fstL_same ct p r (fun y hy => h y (List.mem_cons_of_mem _ hy))]
    split <;> rfl
theorem fstL_first (ct : Bool) (p : Nat → Bool) (L : List ((Nat → Bool) × Bool)) (h : ∀ x, x ∈ L → x.1 = p) (hl : 0 < L.length) : fstL ct L noSet = p := by
  cases L with
  | nil => cases hl
  | cons x r =>
    rw [fstL, h x (List.mem_cons_self ..), uni_no, fstL_same ct p r (fun y hy => h y (List.mem_cons_of_mem _ hy))]
    split <;> rfl
theorem beg_rep (s : Nat → Bool) (l h g : Int) (a : F) (p : Nat → Bool) (e : Bool) : begT ⟨5, s, l, h, g, a⟩ [(p, e)] = (if h = 0 then noSet else p, decide (l = 0) || e) := by
  have e1 : begT ⟨5, s, l, h, g, a⟩ [(p, e)] = (if (5 : Int) = 5 ∧ h = 0 then noSet else fstL (decide ((5 : Int) = 3)) [(p, e)] noSet, decide (l = 0) || e) := rfl
  rw [e1, fstL_first _ p [(p, e)] (fun x hx => by rw [List.mem_singleton.1 hx]) (Nat.zero_lt_succ _)]
  by_cases hh : h = 0
  · rw [if_pos ⟨rfl, hh⟩, if_pos hh]
  · rw [if_neg (fun k => hh k.2), if_neg hh]
theorem not_in (L : List Bool) : (!L.contains false) = L.all id := by
  induction L with
  | nil => rfl
  | cons x r ih =>
    rw [List.contains_cons, Bool.not_or, ih]
    cases x <;> rfl
theorem all_rep (n : Nat) (e : Bool) : (List.replicate n e).all id = (decide (n = 0) || e) := by
  cases n with
  | zero => rfl
  | succ n => cases e <;> simp
theorem expL_beg : ExpL begT (fun _ => True) where
  keep := fun _ _ _ _ => trivial
  args := fun _ _ _ _ _ _ _ _ => rfl
  none := fun l h g s a x hx hl hh hc hr => by
    obtain ⟨p, e⟩ := x
    rw [beg_rep]
    have h1 : ¬ h = -1 := fun e => by unfold rpT at hr; rw [if_pos e] at hr; omega
    unfold cpT at hc
    unfold rpT at hr
    rw [if_neg h1] at hc hr
    obtain rfl : l = 0 := hc
    obtain rfl : h = 0 := by omega
    rfl
  copy := fun l h g s a x hx hl hh hc hr => by
    obtain ⟨p, e⟩ := x
    rw [beg_rep]
    have h1 : ¬ h = -1 := fun e => by unfold rpT at hr; rw [if_pos e] at hr; omega
    unfold cpT at hc
    unfold rpT at hr
    rw [if_neg h1] at hc hr
    obtain rfl : l = 1 := hc
    obtain rfl : h = 1 := by omega
    rfl
  rep := fun l h g s a a' x hx hl hh hc hr => by
    obtain ⟨e1, e2⟩ := rep_same hl hh hc hr
    rw [e1, e2]
    rfl
  cat := fun l h g s a a' a2 x hx hl hh hn => by
    obtain ⟨p, e⟩ := x
    rw [beg_rep, beg_rep]
    have hi0 : ¬ hiT l h = 0 := by unfold hiT; split <;> decide
    rw [if_neg hi0]
    have e3 : ∀ L, begT ⟨3, noSet, 0, 0, 0, a2⟩ L = (fstL true L noSet, (L.map (·.2)).all id) := fun L => by
      have : begT ⟨3, noSet, 0, 0, 0, a2⟩ L = (fstL true L noSet, !(L.map (·.2)).contains false) := rfl
      rw [this, not_in]
    rw [e3, fstL_first true p _ (fun y hy => by
      rcases List.mem_append.1 hy with hy | hy
      · rw [List.eq_of_mem_replicate hy]
      · rw [List.eq_of_mem_replicate hy]) (by rw [List.length_append, List.length_replicate, List.length_replicate]; omega)]
    have hh0 : ¬ h = 0 := fun k => by
      subst k
      have e1 : cpT l 0 = l := rfl
      have e2 : rpT l 0 = 0 - l := rfl
      rw [e1, e2] at hn
      omega
    rw [if_neg hh0, List.map_append, List.map_replicate, List.map_replicate, List.all_append, all_rep, all_rep]
    refine Prod.ext rfl ?_
    show ((decide ((cpT l h).toNat = 0) || e) && (decide ((rpT l h).toNat = 0) || (decide (loT l h = 0) || e))) = (decide (l = 0) || e)
    by_cases h1 : h = -1
    · subst h1
      have ec : cpT l (-1) = if l - 1 < 0 then 0 else l - 1 := rfl
      have er : rpT l (-1) = 1 := rfl
      have elo : loT l (-1) = if 1 < l then 1 else l := rfl
      rw [er] at hn ⊢
      rw [ec] at hn ⊢
      have hl2 : 2 ≤ l := by
        by_cases hlt : l - 1 < 0
        · rw [if_pos hlt] at hn; exact absurd hn (by decide)
        · rw [if_neg hlt] at hn; omega
      have hnl : ¬ l - 1 < 0 := by omega
      have hnp : 1 < l := by omega
      rw [if_neg hnl, elo, if_pos hnp]
      have z1 : decide ((l - 1).toNat = 0) = false := decide_eq_false (by omega)
      have z2 : decide (l = 0) = false := decide_eq_false (by omega)
      rw [z1, z2]
      cases e <;> rfl
    · have ec : cpT l h = l := by unfold cpT; rw [if_neg h1]
      have er : rpT l h = h - l := by unfold rpT; rw [if_neg h1]
      have elo : loT l h = 0 := by unfold loT; rw [if_neg h1]
      rw [ec, elo]
      have z : decide (l.toNat = 0) = decide (l = 0) := by
        by_cases zl : l = 0
        · subst zl; rfl
        · rw [decide_eq_false zl, decide_eq_false (by omega)]
      rw [z]
      simp
section
variable {T U : Type} {R : TN → List T → T} {Q : TN → List U → U} {φ : T → U}
/-- A rule that another one follows. -/
theorem hom_F (hom : ∀ t ps, φ (R t ps) = Q t (ps.map φ)) : ∀ (f : F) (G : Nat → List T), valF Q f (fun k => (G k).map φ) = ((valF R f G).1.map φ, fun k => ((valF R f G).2 k).map φ)
  | .nil, G => rfl
  | .cons o s l h g a r, G => by
    rw [valF, valF]
    by_cases o9 : o = 9
    · rw [if_pos o9, if_pos o9]
      dsimp only
      rw [hom_F hom r G, ← hom]
      rfl
    · rw [if_neg o9, if_neg o9]
      dsimp only
      rw [hom_F hom a G]
      dsimp only
      by_cases o6 : o = 6
      · rw [if_pos o6, if_pos o6]
        have e : upG (fun k => ((valF R a G).2 k).map φ) g.toNat ((valF R a G).1.map φ) = fun k => (upG (valF R a G).2 g.toNat (valF R a G).1 k).map φ := by
          funext k
          unfold upG
          by_cases hk : k = g.toNat
          · rw [if_pos hk, if_pos hk]
          · rw [if_neg hk, if_neg hk]
        rw [e, hom_F hom r _, ← hom]
        rfl
      · rw [if_neg o6, if_neg o6, hom_F hom r _, ← hom]
        rfl
theorem hom_T (hom : ∀ t ps, φ (R t ps) = Q t (ps.map φ)) (t : TN) : valT Q t = φ (valT R t) := by
  have h := hom_F hom t.f G0
  have ha : (valF R t.f G0).1 = [valT R t] := by unfold TN.f; rw [valF_cons]; rfl
  have hb : (valF Q t.f G0).1 = [valT Q t] := by unfold TN.f; rw [valF_cons]; rfl
  have e : (fun k => (G0 (T := T) k).map φ) = (G0 : Nat → List U) := rfl
  rw [e] at h
  rw [h] at hb
  have hb' : (valF R t.f G0).1.map φ = [valT Q t] := hb
  rw [ha] at hb'
  exact (List.cons.inj hb').1.symm
end
theorem null_of_beg (t : TN) : valT nullT t = (valT begT t).2 := hom_T (R := begT) (φ := (·.2)) (fun _ _ => rfl) t
theorem len_exp {t : TN} (h : Valid t) (k : Valid (expT t)) : valT lenT (expT t) = valT lenT t := valT_exp expL_len lenT_ok t h k
theorem beg_exp {t : TN} (h : Valid t) (k : Valid (expT t)) : valT begT (expT t) = valT begT t := valT_exp expL_beg (fun _ _ _ => trivial) t h k
end Go.Proofs.Ytpfbpgbgedbalaa
/- What Expand leaves: only simple repetitions, and nothing changed where there were no others. -/
set_option linter.unusedVariables false
set_option linter.unusedSimpArgs false
namespace Go.Proofs.Ytpfbpgbgedbalaa
open Go.RowKit

theorem okE_push {t : TN} (ht : okE (.cons t.op t.st t.lo t.hi t.g t.args .nil)) : ∀ {f : F}, okE f → okE (f.push t)
  | .nil, _ => ht
  | .cons o s l h g a r, hf => ⟨hf.1, hf.2.1, okE_push ht hf.2.2⟩
theorem okE_times {t : TN} (ht : okE (.cons t.op t.st t.lo t.hi t.g t.args .nil)) : ∀ (n : Nat) {f : F}, okE f → okE (timesF n t f)
  | 0, _, hf => hf
  | n + 1, f, hf => okE_times ht n (okE_push ht hf)
def okN1 (t : TN) : Prop := okE (.cons t.op t.st t.lo t.hi t.g t.args .nil)
theorem okN1_cat {f : F} (h : okE f) (hl : f.len ≤ 600) : okN1 (catT f) := by
  cases f with
  | nil => exact ⟨⟨Nat.zero_le _, fun k => absurd (show (1 : Int) = 5 from k) (by decide)⟩, trivial, trivial⟩
  | cons o s l h' g a r => cases r with
    | nil => exact h
    | cons _ _ _ _ _ _ _ => exact ⟨⟨hl, fun k => absurd (show (3 : Int) = 5 from k) (by decide)⟩, h, trivial⟩
theorem rep_bnd {l h : Int} (hl : 0 ≤ l ∧ l ≤ 64) : (0 ≤ loT l h ∧ loT l h ≤ 64) ∧ (hiT l h = -1 ∨ (loT l h ≤ hiT l h ∧ hiT l h ≤ 64)) := by
  unfold loT hiT
  by_cases h1 : h = -1
  · rw [if_pos h1, if_pos h1]
    split <;> omega
  · rw [if_neg h1, if_neg h1]
    omega
theorem okE_exp : ∀ f : F, okE f → okE (expF f)
  | .nil, _ => trivial
  | .cons o s l h g a r, hok => by
    have hr := okE_exp r hok.2.2
    have ha := okE_exp a hok.2.1
    have key : okN1 (expN ⟨o, s, l, h, g, a⟩ (expF a)) := by
      unfold expN
      by_cases o5 : o = 5
      · rw [if_pos o5]
        obtain ⟨h1, hl, hh⟩ := hok.1.2 o5
        obtain ⟨o1, s1, l1, h2, g1, a1, rfl⟩ := len1 h1
        have hy : okN1 ((expF (.cons o1 s1 l1 h2 g1 a1 .nil)).nth 0) := ha
        obtain ⟨⟨c1, c2⟩, ⟨e1, e2⟩⟩ := bounds_cr l h hl hh
        have hb := rep_bnd (h := h) hl
        refine okN1_cat (okE_times ?_ _ (okE_times hy _ trivial)) ?_
        · exact ⟨⟨by show 1 ≤ 600; decide, fun _ => ⟨rfl, hb.1, hb.2⟩⟩, okE_push hy (f := .nil) trivial, trivial⟩
        · unfold seqF
          rw [timesF_len, timesF_len]
          show 0 + (cpT l h).toNat + (rpT l h).toNat ≤ 600
          omega
      · rw [if_neg o5]
        exact ⟨⟨by show (expF a).len ≤ 600; rw [expF_len]; exact hok.1.1, fun k => absurd k o5⟩, ha, trivial⟩
    exact ⟨key.1, key.2.1, hr⟩
theorem plF_push {t : TN} (ht : plN t.op t.lo t.hi t.args = true) : ∀ {f : F}, plF f = true → plF (f.push t) = true
  | .nil, _ => by
    show (plN t.op t.lo t.hi t.args && true) = true
    rw [ht]; rfl
  | .cons o s l h g a r, hf => by
    have hf : (plN o l h a && plF r) = true := hf
    rw [Bool.and_eq_true] at hf
    show (plN o l h a && plF (r.push t)) = true
    rw [hf.1, plF_push ht hf.2]; rfl
theorem plF_times {t : TN} (ht : plN t.op t.lo t.hi t.args = true) : ∀ (n : Nat) {f : F}, plF f = true → plF (timesF n t f) = true
  | 0, _, hf => hf
  | n + 1, f, hf => plF_times ht n (plF_push ht hf)
theorem plN_cat {f : F} (h : plF f = true) : plN (catT f).op (catT f).lo (catT f).hi (catT f).args = true := by
  cases f with
  | nil => rfl
  | cons o s l h' g a r => cases r with
    | nil =>
      have h : (plN o l h' a && true) = true := h
      rw [Bool.and_true] at h
      exact h
    | cons _ _ _ _ _ _ _ => exact h
theorem sim_rep {l h : Int} (hl : 0 ≤ l ∧ l ≤ 64) : simT (loT l h) (hiT l h) = true := by
  unfold loT hiT simT
  by_cases h1 : h = -1
  · rw [if_pos h1, if_pos h1]
    have : (if 1 < l then 1 else l) = 0 ∨ (if 1 < l then 1 else l) = 1 := by split <;> omega
    rcases this with e | e <;> rw [e] <;> rfl
  · rw [if_neg h1, if_neg h1]
    rfl
theorem pl_exp : ∀ f : F, okE f → plF (expF f) = true
  | .nil, _ => rfl
  | .cons o s l h g a r, hok => by
    have hr := pl_exp r hok.2.2
    have ha := pl_exp a hok.2.1
    have key : plN (expN ⟨o, s, l, h, g, a⟩ (expF a)).op (expN ⟨o, s, l, h, g, a⟩ (expF a)).lo (expN ⟨o, s, l, h, g, a⟩ (expF a)).hi (expN ⟨o, s, l, h, g, a⟩ (expF a)).args = true := by
      unfold expN
      by_cases o5 : o = 5
      · rw [if_pos o5]
        obtain ⟨h1, hl, hh⟩ := hok.1.2 o5
        obtain ⟨o1, s1, l1, h2, g1, a1, rfl⟩ := len1 h1
        have e0 : expF (.cons o1 s1 l1 h2 g1 a1 .nil) = .cons (expT ⟨o1, s1, l1, h2, g1, a1⟩).op (expT ⟨o1, s1, l1, h2, g1, a1⟩).st (expT ⟨o1, s1, l1, h2, g1, a1⟩).lo (expT ⟨o1, s1, l1, h2, g1, a1⟩).hi (expT ⟨o1, s1, l1, h2, g1, a1⟩).g (expT ⟨o1, s1, l1, h2, g1, a1⟩).args .nil := rfl
        rw [e0] at ha ⊢
        have hy : plN (expT ⟨o1, s1, l1, h2, g1, a1⟩).op (expT ⟨o1, s1, l1, h2, g1, a1⟩).lo (expT ⟨o1, s1, l1, h2, g1, a1⟩).hi (expT ⟨o1, s1, l1, h2, g1, a1⟩).args = true := by
          have ha : (plN _ _ _ _ && true) = true := ha
          rw [Bool.and_true] at ha
          exact ha
        refine plN_cat (plF_times ?_ _ (plF_times hy _ rfl))
        show ((!decide ((5 : Int) = 5) || simT (loT l h) (hiT l h)) && plF (F.nil.push (expT ⟨o1, s1, l1, h2, g1, a1⟩))) = true
        rw [sim_rep hl, plF_push hy (f := .nil) rfl, Bool.or_true]
        rfl
      · rw [if_neg o5]
        show ((!decide (o = 5) || simT l h) && plF (expF a)) = true
        rw [ha, decide_eq_false o5]
        rfl
    show (plN _ _ _ _ && plF (expF r)) = true
    rw [key, hr]
    rfl
/-- The same trees, but for bytes that no set has. -/
def eqF : F → F → Prop
  | .nil, .nil => True
  | .cons o s l h g a r, .cons o' s' l' h' g' a' r' => (o = o' ∧ eqc s s' = true ∧ l = l' ∧ h = h' ∧ g = g') ∧ eqF a a' ∧ eqF r r'
  | _, _ => False
theorem eqc_wd {p q : Nat → Bool} (h : eqc p q = true) : wd p 0 64 = wd q 0 64 ∧ wd p 64 64 = wd q 64 64 ∧ wd p 128 64 = wd q 128 64 ∧ wd p 192 64 = wd q 192 64 := by
  have hk := (eqc_iff p q).1 h
  exact ⟨wd_congr p q 0 64 fun k hk' => hk _ (by omega), wd_congr p q 64 64 fun k hk' => hk _ (by omega), wd_congr p q 128 64 fun k hk' => hk _ (by omega), wd_congr p q 192 64 fun k hk' => hk _ (by omega)⟩
theorem eqF_len : ∀ {f g : F}, eqF f g → f.len = g.len
  | .nil, .nil, _ => rfl
  | .cons _ _ _ _ _ _ r, .cons _ _ _ _ _ _ r', h => by show r.len + 1 = r'.len + 1; rw [eqF_len h.2.2]
  | .nil, .cons _ _ _ _ _ _ _, h => h.elim
  | .cons _ _ _ _ _ _ _, .nil, h => h.elim
theorem FV.congr {w : World} {S : Nat → Prop} : ∀ {f f' : F} {xs : List Value}, eqF f f' → FV w S f xs → FV w S f' xs
  | .nil, .nil, _, _, h => h
  | .cons o s l h g a r, .cons o' s' l' h' g' a' r', xs, he, hf => by
    obtain ⟨⟨rfl, hs, rfl, rfl, rfl⟩, ha, hr⟩ := he
    obtain ⟨sv, ys, rfl, hsv, hys⟩ := FV.cons.1 hf
    obtain ⟨w0, w1, w2, w3⟩ := eqc_wd hs
    refine FV.cons.2 ⟨sv, ys, ?_, ?_, FV.congr hr hys⟩
    · unfold rowV
      rw [w0, w1, w2, w3]
    · obtain ⟨zs, ad, cap, rfl, h1, h2, h3⟩ := hsv
      have el := eqF_len ha
      exact ⟨zs, ad, cap, by rw [el], by omega, FV.congr ha h2, h3.imp (fun z => by omega) id⟩
  | .nil, .cons _ _ _ _ _ _ _, _, h, _ => h.elim
  | .cons _ _ _ _ _ _ _, .nil, _, h, _ => h.elim
theorem SV.congr {w : World} {S : Nat → Prop} {f f' : F} {sv : Value} (he : eqF f f') (h : SV w S f sv) : SV w S f' sv := by
  obtain ⟨zs, ad, cap, rfl, h1, h2, h3⟩ := h
  have el := eqF_len he
  exact ⟨zs, ad, cap, by rw [el], by omega, FV.congr he h2, h3.imp (fun z => by omega) id⟩
theorem sim_cases {l h : Int} (hs : simT l h = true) : (l = 0 ∧ h = 1) ∨ (l = 0 ∧ h = -1) ∨ (l = 1 ∧ h = -1) := by
  unfold simT at hs
  simp only [Bool.or_eq_true, Bool.and_eq_true, decide_eq_true_eq] at hs
  omega
theorem eq_exp : ∀ (f : F) (c d : List Bool), vF f c = some d → okE f → plF f = true → eqF (expF f) f
  | .nil, _, _, _, _, _ => trivial
  | .cons o s l hh g a r, c, d, h, hok, hpl => by
    rw [vF] at h
    by_cases hk : okN o s l hh g a.len c = true
    case neg => rw [if_neg hk] at h; cases h
    rw [if_pos hk] at h
    have hp := okN_parts hk
    cases hva : vF a (if o = 6 then c ++ [false] else c) with
    | none => rw [hva] at h; cases h
    | some e =>
      rw [hva] at h
      replace h : vF r (if o = 6 then e.set c.length true else e) = some d := h
      have hpl : ((!decide (o = 5) || simT l hh) && plF a && plF r) = true := hpl
      simp only [Bool.and_eq_true] at hpl
      obtain ⟨⟨p1, p2⟩, p3⟩ := hpl
      have ha := eq_exp a _ _ hva hok.2.1 p2
      have hr := eq_exp r _ _ h hok.2.2 p3
      have key : eqF (.cons (expN ⟨o, s, l, hh, g, a⟩ (expF a)).op (expN ⟨o, s, l, hh, g, a⟩ (expF a)).st (expN ⟨o, s, l, hh, g, a⟩ (expF a)).lo (expN ⟨o, s, l, hh, g, a⟩ (expF a)).hi (expN ⟨o, s, l, hh, g, a⟩ (expF a)).g (expN ⟨o, s, l, hh, g, a⟩ (expF a)).args .nil) (.cons o s l hh g a .nil) := by
        unfold expN
        by_cases o5 : o = 5
        · rw [if_pos o5]
          subst o5
          obtain ⟨h1, hl, hb⟩ := hok.1.2 rfl
          obtain ⟨o1, s1, l1, h2, g1, a1, rfl⟩ := len1 h1
          have hf := hp.1
          unfold fldT at hf
          simp only [Bool.and_eq_true, beq_iff_eq] at hf
          have hs0 : eqc s noSet = true := by
            have h2 := hf.2.1
            have e5 : decide ((5 : Int) = 2) = false := by decide
            rw [e5] at h2
            simpa using h2
          have hg0 : g = 0 := by
            have h2 := hf.2.2.2
            simpa using h2
          subst hg0
          have hs1 : eqc noSet s = true := (eqc_iff _ _).2 fun k hk => ((eqc_iff _ _).1 hs0 k hk).symm
          have hsim : simT l hh = true := by simpa using p1
          rcases sim_cases hsim with ⟨rfl, rfl⟩ | ⟨rfl, rfl⟩ | ⟨rfl, rfl⟩
          all_goals exact ⟨⟨rfl, hs1, rfl, rfl, rfl⟩, ha, trivial⟩
        · rw [if_neg o5]
          exact ⟨⟨rfl, eqc_self s, rfl, rfl, rfl⟩, ha, trivial⟩
      exact ⟨key.1, key.2.1, hr⟩
end Go.Proofs.Ytpfbpgbgedbalaa
/- The reference's comparison of two trees that are equal. -/
set_option linter.unusedVariables false
namespace Go.Proofs.Ytpfbpgbgedbalaa
open Go.RowKit

/-- Two nodes with the same fields, over equal forests. -/
def SameOk (f : F) : Prop := ∀ (o l h g : Int) (st : Nat → Bool) (sv sx : Value) (w : World) (S R : Nat → Prop), SV w S f sv → SV w R f sx → f.len ≤ 600 ∧ okE f →
  Calls Try.prog 21 #[.agg #[.int .i64 o, .int .u64 (wd st 0 64 : Nat), .int .u64 (wd st 64 64 : Nat), .int .u64 (wd st 128 64 : Nat), .int .u64 (wd st 192 64 : Nat), .int .i64 l, .int .i64 h, .int .i64 g, sv],
    .agg #[.int .i64 o, .int .u64 (wd st 0 64 : Nat), .int .u64 (wd st 64 64 : Nat), .int .u64 (wd st 128 64 : Nat), .int .u64 (wd st 192 64 : Nat), .int .i64 l, .int .i64 h, .int .i64 g, sx]] w fun e w' => e = .returned (.bool true) ∧ Below w.heap.size w w'
abbrev nodeC (o l h g : Int) (st : Nat → Bool) (sv : Value) : Array Value := #[.int .i64 o, .int .u64 (wd st 0 64 : Nat), .int .u64 (wd st 64 64 : Nat), .int .u64 (wd st 128 64 : Nat), .int .u64 (wd st 192 64 : Nat), .int .i64 l, .int .i64 h, .int .i64 g, sv]
set_option maxRecDepth 100000 in
set_option maxHeartbeats 8000000 in
theorem same_node (f : F) (hch : ∀ i, i < f.len → SameOk (f.nth i).args) : SameOk f := by
  intro o l h g st sv sx w S R hsv hsx hwd
  have hfl : (f.len : Int) ≤ 600 := by omega
  have HW := Lib.hid hwd
  obtain ⟨zs, ad, cap, rfl, hcap, hfv, hcells⟩ := hsv
  obtain ⟨zt, at_, cat, rfl, hcat, hft, hcelt⟩ := hsx
  have HCh := Lib.hid hch
  have HFV := Lib.hid hfv
  have HFT := Lib.hid hft
  have HCe := Lib.hid hcells
  have HCt := Lib.hid hcelt
  obtain ⟨W2, hW2⟩ : ∃ W2, W2 = ((w.alloc (.cells (nodeC o l h g st (.slice ad f.len cap)) 28)).alloc (.cells (nodeC o l h g st (.slice at_ f.len cat)) 28)) := ⟨_, rfl⟩
  have hx : Below w.heap.size w W2 := by rw [hW2]; exact ((Below.refl _ _).alloc (Nat.le_refl _) _).alloc (by simp) _
  have hz2 : W2.heap.size = w.heap.size + 2 := by rw [hW2]; simp
  have hg0 : W2.heap[w.heap.size]? = some (.cells (nodeC o l h g st (.slice ad f.len cap)) 28 (0, 0)) := by
    rw [hW2, Below.heap_alloc _ _ _ (by simp)]
    exact heap_alloc_new w _
  have hg1 : W2.heap[w.heap.size + 1]? = some (.cells (nodeC o l h g st (.slice at_ f.len cat)) 28 (0, 0)) := by
    have e1 : (w.alloc (.cells (nodeC o l h g st (.slice ad f.len cap)) 28)).heap.size = w.heap.size + 1 := by simp
    rw [hW2, ← e1]
    exact heap_alloc_new _ _
  have HX := Lib.hid hx
  have HG0 := Lib.hid hg0
  have HG1 := Lib.hid hg1
  have HZ := Lib.hid hz2
  have HW2 := Lib.hid hW2
  have hcmp : ∀ w, (binOp .neq 25 (.agg #[.int .u64 (wd st 0 64 : Nat), .int .u64 (wd st 64 64 : Nat), .int .u64 (wd st 128 64 : Nat), .int .u64 (wd st 192 64 : Nat)]) (.agg #[.int .u64 (wd st 0 64 : Nat), .int .u64 (wd st 64 64 : Nat), .int .u64 (wd st 128 64 : Nat), .int .u64 (wd st 192 64 : Nat)])).run Try.prog w = .ok (.bool false) w := fun w => by
    have := neq_cs st st w
    rw [eqc_self] at this
    exact this
  clear hch hfv hcells hft hcelt hx hcap hcat hwd hg0 hg1 hz2 hW2
  go_enter Try.func21, Try.ntmps21
  go_wp2
  go_loopw [5] (fun i wr => ∃ k : Nat, k ≤ f.len ∧ i = .int .i64 k ∧ Hid (Below W2.heap.size W2 wr)) (fun i _ => f.len - (intOf i).toNat)
  case atStart => exact ⟨0, Nat.zero_le _, rfl, by rw [HW2.out]; exact Lib.hid (Below.refl _ _)⟩
  case round =>
    obtain ⟨k, hk, rfl, HB⟩ := hrel
    by_cases hkn : k < f.len
    · have ki : (k : Int) < f.len := by omega
      have ki0 : (0 : Int) ≤ k := by omega
      obtain ⟨b, i0, rfl, _, hbl, hce⟩ : ∃ b i, ad = some ⟨b, i, none⟩ ∧ S b ∧ b < w.heap.size ∧ ∀ j u, zs[j]? = some u → w.cell? ⟨b, i + j, none⟩ = some u := by
        rcases HCe.out with h0 | h0
        · omega
        · exact h0
      obtain ⟨b2, i2, rfl, _, hbl2, hce2⟩ : ∃ b i, at_ = some ⟨b, i, none⟩ ∧ R b ∧ b < w.heap.size ∧ ∀ j u, zt[j]? = some u → w.cell? ⟨b, i + j, none⟩ = some u := by
        rcases HCt.out with h0 | h0
        · omega
        · exact h0
      obtain ⟨sv2, hsv2, hrow⟩ := FV.nth k HFV.out hkn
      obtain ⟨ad2, cp2, rfl⟩ := slice_form hsv2
      obtain ⟨sv3, hsv3, hrow3⟩ := FV.nth k HFT.out hkn
      obtain ⟨ad3, cp3, rfl⟩ := slice_form hsv3
      have CF : Hid (∀ wx, Below W2.heap.size W2 wx → wx.cell? ⟨b, i0 + k * 9, none⟩ = some (.int .i64 (f.nth k).op) ∧ wx.cell? ⟨b, i0 + k * 9 + 1, none⟩ = some (.int .u64 (wd (f.nth k).st 0 64 : Nat)) ∧ wx.cell? ⟨b, i0 + k * 9 + 2, none⟩ = some (.int .u64 (wd (f.nth k).st 64 64 : Nat)) ∧ wx.cell? ⟨b, i0 + k * 9 + 3, none⟩ = some (.int .u64 (wd (f.nth k).st 128 64 : Nat)) ∧ wx.cell? ⟨b, i0 + k * 9 + 4, none⟩ = some (.int .u64 (wd (f.nth k).st 192 64 : Nat)) ∧ wx.cell? ⟨b, i0 + k * 9 + 5, none⟩ = some (.int .i64 (f.nth k).lo) ∧ wx.cell? ⟨b, i0 + k * 9 + 6, none⟩ = some (.int .i64 (f.nth k).hi) ∧ wx.cell? ⟨b, i0 + k * 9 + 7, none⟩ = some (.int .i64 (f.nth k).g) ∧ wx.cell? ⟨b, i0 + k * 9 + 8, none⟩ = some (.slice ad2 (f.nth k).args.len cp2)) := Lib.hid fun wx hb => by
        have hcell : ∀ j u, (rowV (f.nth k).op (f.nth k).st (f.nth k).lo (f.nth k).hi (f.nth k).g (.slice ad2 (f.nth k).args.len cp2))[j]? = some u → wx.cell? ⟨b, i0 + k * 9 + j, none⟩ = some u := fun j u hu => by
          rw [hb.cell (by have := HZ.out; show b < W2.heap.size; omega), HX.out.cell (by exact hbl), Nat.add_assoc]
          exact hce _ u (hrow j u hu)
        exact ⟨hcell 0 _ rfl, hcell 1 _ rfl, hcell 2 _ rfl, hcell 3 _ rfl, hcell 4 _ rfl, hcell 5 _ rfl, hcell 6 _ rfl, hcell 7 _ rfl, hcell 8 _ rfl⟩
      have CG : Hid (∀ wx, Below W2.heap.size W2 wx → wx.cell? ⟨b2, i2 + k * 9, none⟩ = some (.int .i64 (f.nth k).op) ∧ wx.cell? ⟨b2, i2 + k * 9 + 1, none⟩ = some (.int .u64 (wd (f.nth k).st 0 64 : Nat)) ∧ wx.cell? ⟨b2, i2 + k * 9 + 2, none⟩ = some (.int .u64 (wd (f.nth k).st 64 64 : Nat)) ∧ wx.cell? ⟨b2, i2 + k * 9 + 3, none⟩ = some (.int .u64 (wd (f.nth k).st 128 64 : Nat)) ∧ wx.cell? ⟨b2, i2 + k * 9 + 4, none⟩ = some (.int .u64 (wd (f.nth k).st 192 64 : Nat)) ∧ wx.cell? ⟨b2, i2 + k * 9 + 5, none⟩ = some (.int .i64 (f.nth k).lo) ∧ wx.cell? ⟨b2, i2 + k * 9 + 6, none⟩ = some (.int .i64 (f.nth k).hi) ∧ wx.cell? ⟨b2, i2 + k * 9 + 7, none⟩ = some (.int .i64 (f.nth k).g) ∧ wx.cell? ⟨b2, i2 + k * 9 + 8, none⟩ = some (.slice ad3 (f.nth k).args.len cp3)) := Lib.hid fun wx hb => by
        have hcell : ∀ j u, (rowV (f.nth k).op (f.nth k).st (f.nth k).lo (f.nth k).hi (f.nth k).g (.slice ad3 (f.nth k).args.len cp3))[j]? = some u → wx.cell? ⟨b2, i2 + k * 9 + j, none⟩ = some u := fun j u hu => by
          rw [hb.cell (by have := HZ.out; show b2 < W2.heap.size; omega), HX.out.cell (by exact hbl2), Nat.add_assoc]
          exact hce2 _ u (hrow3 j u hu)
        exact ⟨hcell 0 _ rfl, hcell 1 _ rfl, hcell 2 _ rfl, hcell 3 _ rfl, hcell 4 _ rfl, hcell 5 _ rfl, hcell 6 _ rfl, hcell 7 _ rfl, hcell 8 _ rfl⟩
      have HC := HCh.out k hkn
      have HL := Lib.hid (fun W (hW : SV W S (f.nth k).args (.slice ad2 (f.nth k).args.len cp2)) (hV : SV W R (f.nth k).args (.slice ad3 (f.nth k).args.len cp3)) => HC (f.nth k).op (f.nth k).lo (f.nth k).hi (f.nth k).g (f.nth k).st _ _ W S R hW hV (by have h1 := okE_nth f k HW.out.2 hkn; exact ⟨h1.1.1, h1.2.1⟩))
      have HS2 : Hid (SV W2 S (f.nth k).args (.slice ad2 (f.nth k).args.len cp2)) := Lib.hid (hsv2.far (Afar.below HX.out))
      have HS3 : Hid (SV W2 R (f.nth k).args (.slice ad3 (f.nth k).args.len cp3)) := Lib.hid (hsv3.far (Afar.below HX.out))
      have BX : Hid (∀ wx, Below W2.heap.size W2 wx → wx.cell? ⟨w.heap.size, 8, none⟩ = some (.slice (some ⟨b, i0, none⟩) f.len cap)) := Lib.hid fun wx hb => cell_of_row wx w.heap.size 8 _ _ _ ((hb.block _ (by have := HZ.out; omega)).trans HG0.out)
      have BY : Hid (∀ wx, Below W2.heap.size W2 wx → wx.cell? ⟨w.heap.size + 1, 8, none⟩ = some (.slice (some ⟨b2, i2, none⟩) f.len cat)) := Lib.hid fun wx hb => cell_of_row wx (w.heap.size + 1) 8 _ _ _ ((hb.block _ (by have := HZ.out; omega)).trans HG1.out)
      have bx := BX.out wr HB.out
      clear hce hrow hsv2 hce2 hrow3 hsv3 HC
      go_upto_region 6 with fail
      clear bx
      refine wp_region_held_drew (S := Below W2.heap.size W2) (by kernel_rfl) ?_ (fun hHeld => ?_)
      · exact HB.out.drew
      refine wpAnyH_take (i := 0) (v := ?ev0) rfl (by kernel_rfl) (by kernel_rfl) (by kernel_rfl) (fun _ _ _ h => h) (Or.inl ⟨by rfl, ?ey0⟩) (by assumption) ?er0
      case ey0 =>
        intro wx hSw
        clear hSw
        go_simp
        first | done | (with_reducible rfl)
      (try simp only [Act.put, List.getElem_toArray, List.getElem_cons_zero, List.setIfInBounds_toArray, List.set_cons_zero, List.set_cons_succ])
      refine wpAnyH_take (i := 1) (v := ?ev1) rfl (by kernel_rfl) (by kernel_rfl) (by kernel_rfl) (fun _ _ _ h => h) (Or.inl ⟨by rfl, ?ey1⟩) (by assumption) ?er1
      case ey1 =>
        intro wx hSw
        have hcell := BX.out _ hSw
        clear hSw
        go_simp
        first | done | (with_reducible rfl)
      (try simp only [Act.put, List.getElem_toArray, List.getElem_cons_succ, List.getElem_cons_zero, List.setIfInBounds_toArray, List.set_cons_zero, List.set_cons_succ])
      refine wpAnyH_take (i := 2) (v := ?ev2) rfl (by kernel_rfl) (by kernel_rfl) (by kernel_rfl) (fun _ _ _ h => h) (Or.inl ⟨by rfl, ?ey2⟩) (by assumption) ?er2
      case ey2 =>
        intro wx hSw
        clear hSw
        go_simp
        first | done | (with_reducible rfl)
      (try simp only [Act.put, List.getElem_toArray, List.getElem_cons_succ, List.getElem_cons_zero, List.setIfInBounds_toArray, List.set_cons_zero, List.set_cons_succ])
      refine wpAnyH_take (i := 3) (v := ?ev3) rfl (by kernel_rfl) (by kernel_rfl) (by kernel_rfl) (fun _ _ _ h => h) (Or.inl ⟨by rfl, ?ey3⟩) (by assumption) ?er3
      case ey3 =>
        intro wx hSw
        clear hSw
        go_simp
        first | done | (with_reducible rfl)
      (try simp only [Act.put, List.getElem_toArray, List.getElem_cons_succ, List.getElem_cons_zero, List.setIfInBounds_toArray, List.set_cons_zero, List.set_cons_succ])
      refine wpAnyH_take (i := 4) (v := ?ev4) rfl (by kernel_rfl) (by kernel_rfl) (by kernel_rfl) (fun _ _ _ h => h) (Or.inl ⟨by rfl, ?ey4⟩) (by assumption) ?er4
      case ey4 =>
        intro wx hSw
        have ⟨c0, c1, c2, c3, c4, c5, c6, c7, c8⟩ := CF.out _ hSw
        clear hSw
        go_simp
        first | done | (with_reducible rfl)
      (try simp only [Act.put, List.getElem_toArray, List.getElem_cons_succ, List.getElem_cons_zero, List.setIfInBounds_toArray, List.set_cons_zero, List.set_cons_succ])
      refine wpAnyH_take (i := 5) (v := ?ev5) rfl (by kernel_rfl) (by kernel_rfl) (by kernel_rfl) (fun _ _ _ h => h) (Or.inl ⟨by rfl, ?ey5⟩) (by assumption) ?er5
      case ey5 =>
        intro wx hSw
        clear hSw
        go_simp
        first | done | (with_reducible rfl)
      (try simp only [Act.put, List.getElem_toArray, List.getElem_cons_succ, List.getElem_cons_zero, List.setIfInBounds_toArray, List.set_cons_zero, List.set_cons_succ])
      refine wpAnyH_take (i := 6) (v := ?ev6) rfl (by kernel_rfl) (by kernel_rfl) (by kernel_rfl) (fun _ _ _ h => h) (Or.inl ⟨by rfl, ?ey6⟩) (by assumption) ?er6
      case ey6 =>
        intro wx hSw
        have hcell := BY.out _ hSw
        clear hSw
        go_simp
        first | done | (with_reducible rfl)
      (try simp only [Act.put, List.getElem_toArray, List.getElem_cons_succ, List.getElem_cons_zero, List.setIfInBounds_toArray, List.set_cons_zero, List.set_cons_succ])
      refine wpAnyH_take (i := 7) (v := ?ev7) rfl (by kernel_rfl) (by kernel_rfl) (by kernel_rfl) (fun _ _ _ h => h) (Or.inl ⟨by rfl, ?ey7⟩) (by assumption) ?er7
      case ey7 =>
        intro wx hSw
        clear hSw
        go_simp
        first | done | (with_reducible rfl)
      (try simp only [Act.put, List.getElem_toArray, List.getElem_cons_succ, List.getElem_cons_zero, List.setIfInBounds_toArray, List.set_cons_zero, List.set_cons_succ])
      refine wpAnyH_take (i := 8) (v := ?ev8) rfl (by kernel_rfl) (by kernel_rfl) (by kernel_rfl) (fun _ _ _ h => h) (Or.inl ⟨by rfl, ?ey8⟩) (by assumption) ?er8
      case ey8 =>
        intro wx hSw
        clear hSw
        go_simp
        first | done | (with_reducible rfl)
      (try simp only [Act.put, List.getElem_toArray, List.getElem_cons_succ, List.getElem_cons_zero, List.setIfInBounds_toArray, List.set_cons_zero, List.set_cons_succ])
      refine wpAnyH_take (i := 9) (v := ?ev9) rfl (by kernel_rfl) (by kernel_rfl) (by kernel_rfl) (fun _ _ _ h => h) (Or.inl ⟨by rfl, ?ey9⟩) (by assumption) ?er9
      case ey9 =>
        intro wx hSw
        have ⟨c0, c1, c2, c3, c4, c5, c6, c7, c8⟩ := CG.out _ hSw
        clear hSw
        go_simp
        first | done | (with_reducible rfl)
      (try simp only [Act.put, List.getElem_toArray, List.getElem_cons_succ, List.getElem_cons_zero, List.setIfInBounds_toArray, List.set_cons_zero, List.set_cons_succ])
      refine wpAnyH_ready (rs := [10]) (by kernel_rfl) (by simp) ?_
      refine AllReadyH.cons rfl (fun K hK => ?_) AllReadyH.nil
      go_simp
      go_at_call 21
      refine (HL.out _ (HS2.out.far (Afar.below hHeld)) (HS3.out.far (Afar.below hHeld))).mono ?_
      rintro e w1 ⟨rfl, hb⟩
      refine hK.out _ _ ?_ (fun hHeld1 => ?_)
      · exact hHeld.trans (hb.mono hHeld.size)
      clear hK K
      (try simp only [Act.put, List.getElem_toArray, List.getElem_cons_succ, List.getElem_cons_zero, List.setIfInBounds_toArray, List.set_cons_zero, List.set_cons_succ])
      refine wpAnyH_take (i := 11) (v := ?fv11) rfl (by kernel_rfl) (by kernel_rfl) (by kernel_rfl) (fun _ _ _ h => h) (Or.inl ⟨by rfl, ?fy11⟩) (by assumption) ?fr11
      case fy11 =>
        intro wx hSw
        clear hSw
        go_simp
        first | done | (with_reducible rfl)
      (try simp only [Act.put, List.getElem_toArray, List.getElem_cons_succ, List.getElem_cons_zero, List.setIfInBounds_toArray, List.set_cons_zero, List.set_cons_succ])
      refine wpAnyH_done (by kernel_rfl) ?_ _
      have HB1 := Lib.hid hHeld1
      clear hHeld hHeld1 hb
      go_wp2
      go_roundw
      case rel => exact ⟨k + 1, by omega, by go_num, HB1.out⟩
      case measure => simp [intOf]; omega
    · obtain rfl : k = f.len := by omega
      have bx : wr.cell? ⟨w.heap.size, 8, none⟩ = some (.slice ad f.len cap) := cell_of_row wr w.heap.size 8 _ _ _ ((HB.out.block _ (by have := HZ.out; omega)).trans HG0.out)
      go_wp2
      go_ret
      exact ⟨rfl, HX.out.trans (HB.out.mono (by have := HZ.out; omega))⟩
theorem same_all : ∀ (f : F) (i : Nat), i < f.len → SameOk (f.nth i).args
  | .nil, i, h => by cases h
  | .cons o s l h g a r, 0, hi => same_node a (same_all a)
  | .cons o s l h g a r, i + 1, hi => same_all r i (by have : i + 1 < r.len + 1 := hi; omega)
theorem same_any (f : F) : SameOk f := same_node f (same_all f)
end Go.Proofs.Ytpfbpgbgedbalaa
