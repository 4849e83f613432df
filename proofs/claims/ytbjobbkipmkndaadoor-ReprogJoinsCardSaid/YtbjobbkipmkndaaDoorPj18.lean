/- RpTree. -/
import Derived.Test.YtbjobbkipmkndaaDoorPj17
set_option linter.unusedVariables false
set_option linter.unusedSimpArgs false
set_option maxRecDepth 100000
set_option maxHeartbeats 8000000
namespace Go.Proofs.YtbjobbkipmkndaaDoor
open Go.RowKit
theorem add_no (o x y : Int) (P : Nat) (v : Value) (L : List IN) (w : World) (h : WM w P v L) (hl : L.length < 1000000) : Calls Tryd.prog 42 #[.pointer (some ⟨P, 0, none⟩), .agg #[.int .i64 o, .int .u64 0, .int .u64 0, .int .u64 0, .int .u64 0, .int .i64 x, .int .i64 y]] w fun e w' => e = .returned (.int .i64 (L.length : Int)) ∧ ∃ v', WM w' P v' (L ++ [⟨o, noSet, x, y⟩]) ∧ Mv P v w v' w' := by
  have := add_any ⟨o, noSet, x, y⟩ P v L w h hl
  simp only [wd_noSet.1, wd_noSet.2.1, wd_noSet.2.2.1, wd_noSet.2.2.2] at this
  exact this
def TreeG (f : F) : Prop := ∀ (o l h g : Int) (st : Nat → Bool) (sv : Value) (w : World) (S : Nat → Prop) (P : Nat) (v : Value) (L : List IN), SV w S f sv → (∀ b, S b → b < P) → WM w P v L → ((o = 4 ∨ o = 5) → 1 ≤ f.len) → wfC f → f.len ≤ maxLen → f.fits → L.length + (codN o st l h (cods f) L.length).length ≤ 900000 →
  Calls Tryd.prog 41 #[.pointer (some ⟨P, 0, none⟩), .agg #[.int .i64 o, .int .u64 (wd st 0 64 : Nat), .int .u64 (wd st 64 64 : Nat), .int .u64 (wd st 128 64 : Nat), .int .u64 (wd st 192 64 : Nat), .int .i64 l, .int .i64 h, .int .i64 g, sv]] w fun e w' => e = .returned (.tuple #[]) ∧ ∃ v', WM w' P v' (L ++ codN o st l h (cods f) L.length) ∧ Mv P v w v' w'
theorem beq_no {o k : Int} (h : ¬ o = k) : (o == k) = false := by simpa using h
theorem tree_leaf (f : F) (o l h g : Int) (st : Nat → Bool) (sv : Value) (w : World) (P : Nat) (v : Value) (L : List IN) (hs : ∃ ad cap, sv = .slice ad f.len cap) (hM : WM w P v L) (hL : L.length ≤ 900000) (ho : ¬ o = 3 ∧ ¬ o = 6 ∧ ¬ o = 4 ∧ ¬ o = 5) :
    Calls Tryd.prog 41 #[.pointer (some ⟨P, 0, none⟩), .agg #[.int .i64 o, .int .u64 (wd st 0 64 : Nat), .int .u64 (wd st 64 64 : Nat), .int .u64 (wd st 128 64 : Nat), .int .u64 (wd st 192 64 : Nat), .int .i64 l, .int .i64 h, .int .i64 g, sv]] w fun e w' => e = .returned (.tuple #[]) ∧ ∃ v', WM w' P v' (L ++ codN o st l h (cods f) L.length) ∧ Mv P v w v' w' := by
  obtain ⟨ad, cap, rfl⟩ := hs
  obtain ⟨o3, o6, o4, o5⟩ := ho
  have b3 := beq_no o3
  have b6 := beq_no o6
  have b4 := beq_no o4
  have b5 := beq_no o5
  have hb : Below w.heap.size w (w.alloc (.cells #[.int .i64 o, .int .u64 (wd st 0 64 : Nat), .int .u64 (wd st 64 64 : Nat), .int .u64 (wd st 128 64 : Nat), .int .u64 (wd st 192 64 : Nat), .int .i64 l, .int .i64 h, .int .i64 g, .slice ad f.len cap] 34)) := (Below.refl _ _).alloc (Nat.le_refl _) _
  have HM := Lib.hid (hM.below hb)
  have HV : Hid (Mv P v w v _) := Lib.hid (Mv.of_below (P := P) (v := v) hb)
  have H1 := Lib.hid (fun W (hW : WM W P v L) => add_any ⟨1, st, 0, 0⟩ P v L W hW (by omega))
  have HN := Lib.hid (fun (x : Int) W (hW : WM W P v L) => add_no x 0 0 P v L W hW (by omega))
  clear hM hb
  by_cases o2 : o = 2
  · subst o2
    have hc : codN 2 st l h (cods f) L.length = [⟨1, st, 0, 0⟩] := by simp [codN]
    rw [hc]
    clear b3 b6 b4 b5 o3 o6 o4 o5
    go_enter Tryd.func41, Tryd.ntmps41
    go_wp2_with (first
      | (go_at_call 42; (with_reducible refine (H1.out _ HM.out).mono ?_); rintro e w1 ⟨rfl, v', hm, hv⟩; have HR := Lib.hid (And.intro hm (HV.out.trans hv)); clear hm hv))
    go_end0
    exact ⟨rfl, v', HR.out.1, HR.out.2⟩
  have b2 := beq_no o2
  by_cases o7 : o = 7
  · subst o7
    have hc : codN 7 st l h (cods f) L.length = [⟨4, noSet, 0, 0⟩] := by simp [codN]
    rw [hc]
    clear b3 b6 b4 b5 o3 o6 o4 o5 b2 o2
    go_enter Tryd.func41, Tryd.ntmps41
    go_wp2_with (first
      | (go_at_call 42; (with_reducible refine (HN.out _ _ HM.out).mono ?_); rintro e w1 ⟨rfl, v', hm, hv⟩; have HR := Lib.hid (And.intro hm (HV.out.trans hv)); clear hm hv))
    go_end0
    exact ⟨rfl, v', HR.out.1, HR.out.2⟩
  have b7 := beq_no o7
  by_cases o8 : o = 8
  · subst o8
    have hc : codN 8 st l h (cods f) L.length = [⟨5, noSet, 0, 0⟩] := by simp [codN]
    rw [hc]
    clear b3 b6 b4 b5 o3 o6 o4 o5 b2 o2 b7 o7
    go_enter Tryd.func41, Tryd.ntmps41
    go_wp2_with (first
      | (go_at_call 42; (with_reducible refine (HN.out _ _ HM.out).mono ?_); rintro e w1 ⟨rfl, v', hm, hv⟩; have HR := Lib.hid (And.intro hm (HV.out.trans hv)); clear hm hv))
    go_end0
    exact ⟨rfl, v', HR.out.1, HR.out.2⟩
  have b8 := beq_no o8
  have hc : codN o st l h (cods f) L.length = [] := by simp [codN, o2, o3, o4, o5, o6, o7, o8]
  rw [hc, List.append_nil]
  go_enter Tryd.func41, Tryd.ntmps41
  go_wp2_with fail
  go_end0
  exact ⟨rfl, v, HM.out, HV.out⟩
theorem tree_3 (f : F) (hch : ∀ i, i < f.len → TreeG (f.nth i).args) (l h g : Int) (st : Nat → Bool) (sv : Value) (w : World) (S : Nat → Prop) (P : Nat) (v : Value) (L : List IN) (hsv : SV w S f sv) (hS : ∀ b, S b → b < P) (hM : WM w P v L) (hwf : wfC f) (hlen : f.len ≤ maxLen) (hfit : f.fits) (hL : L.length + (catC (cods f) L.length).length ≤ 900000) :
    Calls Tryd.prog 41 #[.pointer (some ⟨P, 0, none⟩), .agg #[.int .i64 3, .int .u64 (wd st 0 64 : Nat), .int .u64 (wd st 64 64 : Nat), .int .u64 (wd st 128 64 : Nat), .int .u64 (wd st 192 64 : Nat), .int .i64 l, .int .i64 h, .int .i64 g, sv]] w fun e w' => e = .returned (.tuple #[]) ∧ ∃ v', WM w' P v' (L ++ catC (cods f) L.length) ∧ Mv P v w v' w' := by
  obtain ⟨zs, ad, cap, rfl, hcap, hfv, hcells⟩ := hsv
  have hfl : (f.len : Int) ≤ 9223372036854775807 := by unfold maxLen at hlen; omega
  have hb : Below w.heap.size w (w.alloc (.cells #[.int .i64 3, .int .u64 (wd st 0 64 : Nat), .int .u64 (wd st 64 64 : Nat), .int .u64 (wd st 128 64 : Nat), .int .u64 (wd st 192 64 : Nat), .int .i64 l, .int .i64 h, .int .i64 g, .slice ad f.len cap] 34)) := (Below.refl _ _).alloc (Nat.le_refl _) _
  obtain ⟨W2, hW2⟩ : ∃ W2, W2 = w.alloc (.cells #[.int .i64 3, .int .u64 (wd st 0 64 : Nat), .int .u64 (wd st 64 64 : Nat), .int .u64 (wd st 128 64 : Nat), .int .u64 (wd st 192 64 : Nat), .int .i64 l, .int .i64 h, .int .i64 g, .slice ad f.len cap] 34) := ⟨_, rfl⟩
  rw [← hW2] at hb
  have HW2 := Lib.hid hW2
  have HM2 := Lib.hid (hM.below hb)
  have HV2 : Hid (Mv P v w v W2) := Lib.hid (Mv.of_below hb)
  have HM := Lib.hid hM
  have HS := Lib.hid hS
  have HCh := Lib.hid hch
  have HFV := Lib.hid hfv
  have HCe := Lib.hid hcells
  have HFt := Lib.hid hfit
  have HWf := Lib.hid hwf
  have HL := Lib.hid hL
  clear hM hS hch hfv hcells hfit hwf hL hcap hlen hb hW2
  go_enter Tryd.func41, Tryd.ntmps41
  go_wp2_with fail
  go_loopw [31] (fun i wr => ∃ (k : Nat) (C : List IN) (v1 : Value), k ≤ f.len ∧ i = .int .i64 k ∧ Hid (Mv P v w v1 wr ∧ WM wr P v1 (L ++ C) ∧ catC (cods f) L.length = C ++ catC ((cods f).drop k) (L.length + C.length))) (fun i _ => f.len - (intOf i).toNat)
  case atStart =>
    refine ⟨0, [], v, Nat.zero_le _, rfl, ?_⟩
    rw [← HW2.out]
    exact Lib.hid ⟨HV2.out, by rw [List.append_nil]; exact HM2.out, by simp⟩
  case round =>
    obtain ⟨k, C, v1, hk, rfl, HB⟩ := hrel
    by_cases hkn : k < f.len
    · have ki : (k : Int) < f.len := by omega
      have ki0 : (0 : Int) ≤ k := by omega
      have hstep := HB.out.2.2
      rw [List.drop_eq_getElem_cons (by rw [cods_len]; exact hkn), cods_get f k hkn] at hstep
      have HStep := Lib.hid hstep
      clear hstep
      obtain ⟨b, i0, rfl, hSb, hbl, hce⟩ : ∃ b i, ad = some ⟨b, i, none⟩ ∧ S b ∧ b < w.heap.size ∧ ∀ j u, zs[j]? = some u → w.cell? ⟨b, i + j, none⟩ = some u := by
        rcases HCe.out with h0 | h0
        · omega
        · exact h0
      obtain ⟨sv2, hsv2, hrow⟩ := FV.nth k HFV.out hkn
      obtain ⟨ad2, cp2, rfl⟩ := slice_form hsv2
      have hcell : ∀ j u, (rowV (f.nth k).op (f.nth k).st (f.nth k).lo (f.nth k).hi (f.nth k).g (.slice ad2 (f.nth k).args.len cp2))[j]? = some u → wr.cell? ⟨b, i0 + k * 9 + j, none⟩ = some u := fun j u hu => by
        rw [(HB.out.1.bel HM.out).cell (by exact HS.out b hSb), Nat.add_assoc]
        exact hce _ u (hrow j u hu)
      have c0 := hcell 0 _ rfl
      have c1 := hcell 1 _ rfl
      have c2 := hcell 2 _ rfl
      have c3 := hcell 3 _ rfl
      have c4 := hcell 4 _ rfl
      have c5 := hcell 5 _ rfl
      have c6 := hcell 6 _ rfl
      have c7 := hcell 7 _ rfl
      have c8 := hcell 8 _ rfl
      rw [Nat.add_zero] at c0
      have HS2 : Hid (SV wr S (f.nth k).args (.slice ad2 (f.nth k).args.len cp2)) := Lib.hid (hsv2.far ⟨HB.out.1.size, fun b h1 h2 => ⟨h1, (HB.out.1.bel HM.out).block b (HS.out b h1)⟩⟩)
      have HC := Lib.hid (fun W (hW : SV W S (f.nth k).args (.slice ad2 (f.nth k).args.len cp2)) (hN : WM W P v1 (L ++ C)) => by
        have hw := wfC_nth f k HWf.out hkn
        have hf := F.fits_nth k HFt.out hkn
        have hlen : (L ++ C).length + (codT (f.nth k) (L ++ C).length).length ≤ 900000 := by
          have h1 := HL.out
          have h2 := HStep.out
          rw [h2] at h1
          simp only [catC, List.length_append] at h1 ⊢
          omega
        exact HCh.out k hkn (f.nth k).op (f.nth k).lo (f.nth k).hi (f.nth k).g (f.nth k).st _ W S P v1 (L ++ C) hW HS.out hN hw.1 hw.2 hf.1 hf.2 hlen)
      clear hcell hce hrow hsv2 hSb
      go_wp2_with (first
        | (go_at_call 41; refine (HC.out _ (HS2.out.far (Afar.below ((Below.refl _ _).alloc (Nat.le_refl _) _))) (HB.out.2.1.below ((Below.refl _ _).alloc (Nat.le_refl _) _))).mono ?_; rintro e w1 ⟨rfl, v2, hm, hv⟩; have HR := Lib.hid (And.intro hm ((HB.out.1.next ((Below.refl _ _).alloc (Nat.le_refl _) _)).trans hv)); clear hm hv)
        )
      go_roundw
      case rel =>
        refine ⟨k + 1, C ++ codT (f.nth k) (L ++ C).length, v2, by omega, by go_num, Lib.hid ⟨HR.out.2, ?_, ?_⟩⟩
        · have := HR.out.1
          rw [List.append_assoc] at this
          exact this
        · rw [HStep.out, List.append_assoc]
          simp only [catC, List.length_append, Nat.add_assoc]
      case measure => simp [intOf]; omega
    · obtain rfl : k = f.len := by omega
      have hend := HB.out.2.2
      rw [List.drop_eq_nil_of_le (by rw [cods_len]; exact Nat.le_refl _)] at hend
      have hend : catC (cods f) L.length = C := by rw [hend]; simp [catC]
      have HEnd := Lib.hid hend
      clear hend
      go_wp2_with fail
      go_end0
      rw [HEnd.out]
      exact ⟨rfl, v1, HB.out.2.1, HB.out.1⟩
theorem tree_6 (f : F) (hch : ∀ i, i < f.len → TreeG (f.nth i).args) (l h g : Int) (st : Nat → Bool) (sv : Value) (w : World) (S : Nat → Prop) (P : Nat) (v : Value) (L : List IN) (hsv : SV w S f sv) (hS : ∀ b, S b → b < P) (hM : WM w P v L) (hwf : wfC f) (hlen : f.len ≤ maxLen) (hfit : f.fits) (hL : L.length + (catC (cods f) L.length).length ≤ 900000) :
    Calls Tryd.prog 41 #[.pointer (some ⟨P, 0, none⟩), .agg #[.int .i64 6, .int .u64 (wd st 0 64 : Nat), .int .u64 (wd st 64 64 : Nat), .int .u64 (wd st 128 64 : Nat), .int .u64 (wd st 192 64 : Nat), .int .i64 l, .int .i64 h, .int .i64 g, sv]] w fun e w' => e = .returned (.tuple #[]) ∧ ∃ v', WM w' P v' (L ++ catC (cods f) L.length) ∧ Mv P v w v' w' := by
  obtain ⟨zs, ad, cap, rfl, hcap, hfv, hcells⟩ := hsv
  have hfl : (f.len : Int) ≤ 9223372036854775807 := by unfold maxLen at hlen; omega
  have hb : Below w.heap.size w (w.alloc (.cells #[.int .i64 6, .int .u64 (wd st 0 64 : Nat), .int .u64 (wd st 64 64 : Nat), .int .u64 (wd st 128 64 : Nat), .int .u64 (wd st 192 64 : Nat), .int .i64 l, .int .i64 h, .int .i64 g, .slice ad f.len cap] 34)) := (Below.refl _ _).alloc (Nat.le_refl _) _
  obtain ⟨W2, hW2⟩ : ∃ W2, W2 = w.alloc (.cells #[.int .i64 6, .int .u64 (wd st 0 64 : Nat), .int .u64 (wd st 64 64 : Nat), .int .u64 (wd st 128 64 : Nat), .int .u64 (wd st 192 64 : Nat), .int .i64 l, .int .i64 h, .int .i64 g, .slice ad f.len cap] 34) := ⟨_, rfl⟩
  rw [← hW2] at hb
  have HW2 := Lib.hid hW2
  have HM2 := Lib.hid (hM.below hb)
  have HV2 : Hid (Mv P v w v W2) := Lib.hid (Mv.of_below hb)
  have HM := Lib.hid hM
  have HS := Lib.hid hS
  have HCh := Lib.hid hch
  have HFV := Lib.hid hfv
  have HCe := Lib.hid hcells
  have HFt := Lib.hid hfit
  have HWf := Lib.hid hwf
  have HL := Lib.hid hL
  clear hM hS hch hfv hcells hfit hwf hL hcap hlen hb hW2
  go_enter Tryd.func41, Tryd.ntmps41
  go_wp2_with fail
  go_loopw [31] (fun i wr => ∃ (k : Nat) (C : List IN) (v1 : Value), k ≤ f.len ∧ i = .int .i64 k ∧ Hid (Mv P v w v1 wr ∧ WM wr P v1 (L ++ C) ∧ catC (cods f) L.length = C ++ catC ((cods f).drop k) (L.length + C.length))) (fun i _ => f.len - (intOf i).toNat)
  case atStart =>
    refine ⟨0, [], v, Nat.zero_le _, rfl, ?_⟩
    rw [← HW2.out]
    exact Lib.hid ⟨HV2.out, by rw [List.append_nil]; exact HM2.out, by simp⟩
  case round =>
    obtain ⟨k, C, v1, hk, rfl, HB⟩ := hrel
    by_cases hkn : k < f.len
    · have ki : (k : Int) < f.len := by omega
      have ki0 : (0 : Int) ≤ k := by omega
      have hstep := HB.out.2.2
      rw [List.drop_eq_getElem_cons (by rw [cods_len]; exact hkn), cods_get f k hkn] at hstep
      have HStep := Lib.hid hstep
      clear hstep
      obtain ⟨b, i0, rfl, hSb, hbl, hce⟩ : ∃ b i, ad = some ⟨b, i, none⟩ ∧ S b ∧ b < w.heap.size ∧ ∀ j u, zs[j]? = some u → w.cell? ⟨b, i + j, none⟩ = some u := by
        rcases HCe.out with h0 | h0
        · omega
        · exact h0
      obtain ⟨sv2, hsv2, hrow⟩ := FV.nth k HFV.out hkn
      obtain ⟨ad2, cp2, rfl⟩ := slice_form hsv2
      have hcell : ∀ j u, (rowV (f.nth k).op (f.nth k).st (f.nth k).lo (f.nth k).hi (f.nth k).g (.slice ad2 (f.nth k).args.len cp2))[j]? = some u → wr.cell? ⟨b, i0 + k * 9 + j, none⟩ = some u := fun j u hu => by
        rw [(HB.out.1.bel HM.out).cell (by exact HS.out b hSb), Nat.add_assoc]
        exact hce _ u (hrow j u hu)
      have c0 := hcell 0 _ rfl
      have c1 := hcell 1 _ rfl
      have c2 := hcell 2 _ rfl
      have c3 := hcell 3 _ rfl
      have c4 := hcell 4 _ rfl
      have c5 := hcell 5 _ rfl
      have c6 := hcell 6 _ rfl
      have c7 := hcell 7 _ rfl
      have c8 := hcell 8 _ rfl
      rw [Nat.add_zero] at c0
      have HS2 : Hid (SV wr S (f.nth k).args (.slice ad2 (f.nth k).args.len cp2)) := Lib.hid (hsv2.far ⟨HB.out.1.size, fun b h1 h2 => ⟨h1, (HB.out.1.bel HM.out).block b (HS.out b h1)⟩⟩)
      have HC := Lib.hid (fun W (hW : SV W S (f.nth k).args (.slice ad2 (f.nth k).args.len cp2)) (hN : WM W P v1 (L ++ C)) => by
        have hw := wfC_nth f k HWf.out hkn
        have hf := F.fits_nth k HFt.out hkn
        have hlen : (L ++ C).length + (codT (f.nth k) (L ++ C).length).length ≤ 900000 := by
          have h1 := HL.out
          have h2 := HStep.out
          rw [h2] at h1
          simp only [catC, List.length_append] at h1 ⊢
          omega
        exact HCh.out k hkn (f.nth k).op (f.nth k).lo (f.nth k).hi (f.nth k).g (f.nth k).st _ W S P v1 (L ++ C) hW HS.out hN hw.1 hw.2 hf.1 hf.2 hlen)
      clear hcell hce hrow hsv2 hSb
      go_wp2_with (first
        | (go_at_call 41; refine (HC.out _ (HS2.out.far (Afar.below ((Below.refl _ _).alloc (Nat.le_refl _) _))) (HB.out.2.1.below ((Below.refl _ _).alloc (Nat.le_refl _) _))).mono ?_; rintro e w1 ⟨rfl, v2, hm, hv⟩; have HR := Lib.hid (And.intro hm ((HB.out.1.next ((Below.refl _ _).alloc (Nat.le_refl _) _)).trans hv)); clear hm hv)
        )
      go_roundw
      case rel =>
        refine ⟨k + 1, C ++ codT (f.nth k) (L ++ C).length, v2, by omega, by go_num, Lib.hid ⟨HR.out.2, ?_, ?_⟩⟩
        · have := HR.out.1
          rw [List.append_assoc] at this
          exact this
        · rw [HStep.out, List.append_assoc]
          simp only [catC, List.length_append, Nat.add_assoc]
      case measure => simp [intOf]; omega
    · obtain rfl : k = f.len := by omega
      have hend := HB.out.2.2
      rw [List.drop_eq_nil_of_le (by rw [cods_len]; exact Nat.le_refl _)] at hend
      have hend : catC (cods f) L.length = C := by rw [hend]; simp [catC]
      have HEnd := Lib.hid hend
      clear hend
      go_wp2_with fail
      go_end0
      rw [HEnd.out]
      exact ⟨rfl, v1, HB.out.2.1, HB.out.1⟩
end Go.Proofs.YtbjobbkipmkndaaDoor
