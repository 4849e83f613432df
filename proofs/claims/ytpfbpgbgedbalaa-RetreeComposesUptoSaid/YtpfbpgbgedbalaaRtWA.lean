/- The survey's walk through the Args of a node, and the walk whole. -/
import Derived.Test.YtpfbpgbgedbalaaRtWx
import Derived.Test.YtpfbpgbgedbalaaRtW5
import Derived.Test.YtpfbpgbgedbalaaRtW9
import Derived.Test.YtpfbpgbgedbalaaRtW6
set_option linter.unusedVariables false
set_option linter.unusedSimpArgs false
set_option maxRecDepth 100000
set_option maxHeartbeats 8000000
namespace Go.Proofs.Ytpfbpgbgedbalaa
open Go.RowKit

/-- The walk at a node with these Args. -/
def WalkG (f : F) : Prop := ∀ (o l h g : Int) (st : Nat → Bool) (sv : Value) (w : World) (S : Nat → Prop) (B : Nat) (q : SQ) (lvl : Nat), SV w S f sv → (∀ b, S b → b < B) → SM w B q → q.Ok → lvl ≤ 65537 → f.len ≤ maxLen → f.fits → -9223372036854775808 ≤ g → g ≤ 9223372036854775807 →
  Calls Try.prog 72 #[.pointer (some ⟨B, 0, none⟩), .agg #[.int .i64 o, .int .u64 (wd st 0 64 : Nat), .int .u64 (wd st 64 64 : Nat), .int .u64 (wd st 128 64 : Nat), .int .u64 (wd st 192 64 : Nat), .int .i64 l, .int .i64 h, .int .i64 g, sv], .int .i64 (lvl : Int)] w fun e w' => e = .returned (.tuple #[]) ∧ SM w' B (walkT ⟨o, st, l, h, g, f⟩ lvl q) ∧ Below B w w'
theorem F.fits_g : ∀ {f : F} (k : Nat), f.fits → k < f.len → -9223372036854775808 ≤ (f.nth k).g ∧ (f.nth k).g ≤ 9223372036854775807
  | .nil, _, _, h => by cases h
  | .cons o s l h g a r, 0, hf, _ => hf.1.2.2.2
  | .cons o s l h g a r, k + 1, hf, hk => F.fits_g (f := r) k hf.2.2.2 (by have : k + 1 < r.len + 1 := hk; omega)
theorem walkargs_any (f : F) (hch : ∀ i, i < f.len → WalkG (f.nth i).args) (o l h g : Int) (st : Nat → Bool) (sv : Value) (w : World) (S : Nat → Prop) (B : Nat) (q : SQ) (lvl : Nat) (hsv : SV w S f sv) (hS : ∀ b, S b → b < B) (h0 : SM w B q) (hq : q.Ok) (hl : lvl ≤ 65536) (hlen : f.len ≤ maxLen) (hfit : f.fits) :
    Calls Try.prog 85 #[.pointer (some ⟨B, 0, none⟩), .agg #[.int .i64 o, .int .u64 (wd st 0 64 : Nat), .int .u64 (wd st 64 64 : Nat), .int .u64 (wd st 128 64 : Nat), .int .u64 (wd st 192 64 : Nat), .int .i64 l, .int .i64 h, .int .i64 g, sv], .int .i64 (lvl : Int)] w fun e w' => e = .returned (.tuple #[]) ∧ SM w' B (walkF f (lvl + 1) q) ∧ Below B w w' := by
  obtain ⟨zs, ad, cap, rfl, hcap, hfv, hcells⟩ := hsv
  have hfl : (f.len : Int) ≤ 9223372036854775807 := by unfold maxLen at hlen; omega
  have hBl : B < w.heap.size := by obtain ⟨_, h1, _⟩ := h0; exact h1.lt
  obtain ⟨W2, hW2⟩ : ∃ W2, W2 = w.alloc (.cells #[.int .i64 o, .int .u64 (wd st 0 64 : Nat), .int .u64 (wd st 64 64 : Nat), .int .u64 (wd st 128 64 : Nat), .int .u64 (wd st 192 64 : Nat), .int .i64 l, .int .i64 h, .int .i64 g, .slice ad f.len cap] 28) := ⟨_, rfl⟩
  have hx : Below w.heap.size w W2 := by rw [hW2]; exact (Below.refl _ _).alloc (Nat.le_refl _) _
  have hxB : Below B w W2 := hx.mono (by omega)
  have HXB := Lib.hid hxB
  have HW2 := Lib.hid hW2
  have HSM := Lib.hid (h0.below hx)
  have HS := Lib.hid hS
  have HCh := Lib.hid hch
  have HFV := Lib.hid hfv
  have HCe := Lib.hid hcells
  have HFt := Lib.hid hfit
  have HQ := Lib.hid hq
  have HBL := Lib.hid hBl
  have HL := Lib.hid hl
  clear h0 hq hx hxB hW2 hS hch hfv hcells hfit hcap hlen hBl
  go_enter Try.func85, Try.ntmps85
  go_wp2_with fail
  go_loopw [11] (fun i wr => ∃ (k : Nat) (q' : SQ), k ≤ f.len ∧ i = .int .i64 k ∧ Hid (Below B w wr ∧ SM wr B q' ∧ q'.Ok ∧ walkF f (lvl + 1) q = walkF (f.drop k) (lvl + 1) q')) (fun i _ => f.len - (intOf i).toNat)
  case atStart =>
    refine ⟨0, q, Nat.zero_le _, rfl, ?_⟩
    rw [← HW2.out]
    exact Lib.hid ⟨HXB.out, HSM.out, HQ.out, by rw [show f.drop 0 = f by cases f <;> rfl]⟩
  case round =>
    obtain ⟨k, q', hk, rfl, HB⟩ := hrel
    by_cases hkn : k < f.len
    · have ki : (k : Int) < f.len := by omega
      have ki0 : (0 : Int) ≤ k := by omega
      have hstep := HB.out.2.2.2
      rw [F.drop_step f k hkn, walkF_cons] at hstep
      have HStep := Lib.hid hstep
      clear hstep
      obtain ⟨b, i0, rfl, hSb, hbl, hce⟩ : ∃ b i, ad = some ⟨b, i, none⟩ ∧ S b ∧ b < w.heap.size ∧ ∀ j u, zs[j]? = some u → w.cell? ⟨b, i + j, none⟩ = some u := by
        rcases HCe.out with h0 | h0
        · omega
        · exact h0
      obtain ⟨sv2, hsv2, hrow⟩ := FV.nth k HFV.out hkn
      obtain ⟨ad2, cp2, rfl⟩ := slice_form hsv2
      have hcell : ∀ j u, (rowV (f.nth k).op (f.nth k).st (f.nth k).lo (f.nth k).hi (f.nth k).g (.slice ad2 (f.nth k).args.len cp2))[j]? = some u → wr.cell? ⟨b, i0 + k * 9 + j, none⟩ = some u := fun j u hu => by
        rw [HB.out.1.cell (by exact HS.out b hSb), Nat.add_assoc]
        exact hce _ u (hrow j u hu)
      have c0 := hcell 0 _ rfl
      have c1 := hcell 1 _ rfl
      have c2 := hcell 2 _ rfl
      have c3 := hcell 3 _ rfl
      have c4 := hcell 4 _ rfl
      have c5 := hcell 5 _ rfl
      have c6 := hcell 6 _ rfl
      have c7 := hcell 7 _ rfl
      have c8 := hcell 8 _ rfl
      rw [Nat.add_zero] at c0
      have elv : ((lvl + 1 : Nat) : Int) = (lvl : Int) + 1 := by omega
      have lv0 : (0 : Int) ≤ lvl := by omega
      have lv1 : (lvl : Int) ≤ 65536 := by omega
      have HS2 : Hid (SV wr S (f.nth k).args (.slice ad2 (f.nth k).args.len cp2)) := Lib.hid (hsv2.far ⟨HB.out.1.size, fun b h1 h2 => ⟨h1, HB.out.1.block b (HS.out b h1)⟩⟩)
      have HC := Lib.hid (fun W (hW : SV W S (f.nth k).args (.slice ad2 (f.nth k).args.len cp2)) (hN : SM W B q') => by
        have := HCh.out k hkn (f.nth k).op (f.nth k).lo (f.nth k).hi (f.nth k).g (f.nth k).st _ W S B q' (lvl + 1) hW HS.out hN HB.out.2.2.1 (by have := HL.out; omega) (F.fits_nth k HFt.out hkn).1 (F.fits_nth k HFt.out hkn).2 (F.fits_g k HFt.out hkn).1 (F.fits_g k HFt.out hkn).2
        rw [elv] at this
        exact this)
      clear hcell hce hrow hsv2 hSb elv
      go_wp2_with (first
        | (go_at_call 72; refine (HC.out _ (HS2.out.far (Afar.below ((Below.refl _ _).alloc (Nat.le_refl _) _))) (HB.out.2.1.below ((Below.refl _ _).alloc (Nat.le_refl _) _))).mono ?_; rintro e w1 ⟨rfl, hs, hb⟩; have HB1 := Lib.hid ((HB.out.1.alloc (by have := HB.out.1.size; have := HBL.out; omega) _).trans hb); have HN1 := Lib.hid hs; clear hs hb)
        )
      go_roundw
      case rel => exact ⟨k + 1, _, by omega, by go_num, Lib.hid ⟨HB1.out, HN1.out, walkT_ok _ _ _ HB.out.2.2.1, HStep.out⟩⟩
      case measure => simp [intOf]; omega
    · obtain rfl : k = f.len := by omega
      have hend := HB.out.2.2.2
      rw [F.drop_len] at hend
      have hend : walkF f (lvl + 1) q = q' := hend
      have HEnd := Lib.hid hend
      clear hend
      go_wp2_with fail
      go_end0
      rw [HEnd.out]
      exact ⟨rfl, HB.out.2.1, HB.out.1⟩

theorem walk_node (f : F) (hch : ∀ i, i < f.len → WalkG (f.nth i).args) : WalkG f := by
  intro o l h g st sv w S B q lvl hsv hS h0 hq hl hlen hfit hg1 hg2
  obtain ⟨ad, cap, rfl⟩ := slice_form hsv
  by_cases hs : stopB lvl q = true
  · rw [walkT, if_pos hs]
    exact walk_stop o l h g st ad f.len cap B lvl w q h0 hq hl hs
  have hb := stop_or hq hs
  have HWA : Hid (∀ W q', SM W B q' → Below B w W → q'.Ok → Calls Try.prog 85 #[.pointer (some ⟨B, 0, none⟩), .agg #[.int .i64 o, .int .u64 (wd st 0 64 : Nat), .int .u64 (wd st 64 64 : Nat), .int .u64 (wd st 128 64 : Nat), .int .u64 (wd st 192 64 : Nat), .int .i64 l, .int .i64 h, .int .i64 g, .slice ad f.len cap], .int .i64 (lvl : Int)] W fun e w' => e = .returned (.tuple #[]) ∧ SM w' B (walkF f (lvl + 1) q') ∧ Below B W w') := Lib.hid (fun W q' h1 h2 h3 =>
    walkargs_any f hch o l h g st _ W S B q' lvl (hsv.far ⟨h2.size, fun b k1 k2 => ⟨k1, h2.block b (hS b k1)⟩⟩) hS h1 h3 hb.2.1 hlen hfit)
  have HFi := Lib.hid (fun W => flds_any o l h g st f.len ad cap W)
  have HBn := Lib.hid (fun W => bnd_any o l h g st (.slice ad f.len cap) W)
  obtain ⟨sv, hA, hO⟩ := h0
  obtain ⟨n, lv, bk, c, wt, wr, wn, sp⟩ := q
  obtain rfl : sp = false := hb.2.2
  rw [walkT, if_neg hs]
  by_cases o6 : o = 6
  · subst o6
    exact walk_6 f l h g st ad f.len cap B lvl n lv w c sv bk wt wr wn _ _ _ hA hO hb.1 hq.2.1 hb.2.1 hq.2.2 hg1 hg2 HFi HBn rfl HWA
  show Calls _ _ _ _ fun e w' => e = .returned (.tuple #[]) ∧ SM w' B (if o = 6 then _ else walkF f (lvl + 1) _) ∧ Below B w w'
  rw [if_neg o6]
  by_cases o5 : o = 5
  · subst o5
    exact walk_5 f l h g st ad f.len cap B lvl n lv w c sv bk wt wr wn _ _ _ hA hO hb.1 hq.2.1 hb.2.1 hq.2.2 hg1 hg2 HFi HBn rfl HWA
  by_cases o9 : o = 9
  · subst o9
    exact walk_9 f l h g st ad f.len cap B lvl n lv w c sv bk wt wr wn _ _ _ hA hO hb.1 hq.2.1 hb.2.1 hq.2.2 hg1 hg2 HFi HBn rfl HWA
  · have e5 : decide (o = 5) = false := by simp [o5]
    have e9 : decide (o = 9) = false := by simp [o9]
    have := walk_x f o l h g st ad f.len cap B lvl n lv w c sv bk wt wr wn _ _ _ (by simpa using o5) o5 (by simpa using o6) o6 (by simpa using o9) o9 hA hO hb.1 hq.2.1 hb.2.1 hq.2.2 hg1 hg2 HFi HBn rfl HWA
    unfold preQ
    rw [e5, e9]
    exact this
theorem walk_all : ∀ (f : F) (i : Nat), i < f.len → WalkG (f.nth i).args
  | .nil, i, h => by cases h
  | .cons o s l h g a r, 0, hi => walk_node a (walk_all a)
  | .cons o s l h g a r, i + 1, hi => walk_all r i (by have : i + 1 < r.len + 1 := hi; omega)
theorem walk_any (f : F) : WalkG f := walk_node f (walk_all f)
end Go.Proofs.Ytpfbpgbgedbalaa
