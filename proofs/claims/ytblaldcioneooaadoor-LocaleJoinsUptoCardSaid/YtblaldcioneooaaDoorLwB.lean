/- The chapter's examples. (Written by gen_lwb.py.) -/
import Derived.Test.YtblaldcioneooaaDoorRows
import Derived.Test.YtblaldcioneooaaDoorLwA
import Derived.Test.YtblaldcioneooaaDoorLrClass
import Derived.Test.YtblaldcioneooaaDoorLcEq
import Derived.Test.YtblaldcioneooaaDoorLrSets
set_option linter.unusedVariables false
namespace Go.Proofs.YtblaldcioneooaaDoor
open Go.RowKit

theorem chk_sam : chk Lsam = 0 := by decide +kernel
theorem vld_sam : vld Lsam = Lsam := by unfold vld; rw [if_pos chk_sam]
theorem vld_def : vld Ldef = Ldef := by unfold vld; split <;> rfl
theorem aw_pcs : pcs Lsam [101, 99, 104, 104] = [[101], [99, 104], [104]] := by decide +kernel
theorem aw_cmp1 : cmpL Lsam [99, 104] [99, 122] = 1 := by decide +kernel
theorem aw_cmp2 : cmpL Lsam [99] [99, 104] = -1 := by decide +kernel
theorem aw_low : (⟨(mapT Lsam.lower [97, 66]).toArray⟩ : ByteArray) = ⟨#[97, 98]⟩ := by decide +kernel
theorem aw_up : (⟨(mapT Lsam.upper [97, 66]).toArray⟩ : ByteArray) = ⟨#[65, 66]⟩ := by decide +kernel
theorem aw_cls : cs (clsR Ldef ⟨#[98, 108, 97, 110, 107]⟩).1 = cs (setOf [32, 9]) := cs_congr _ _ (by decide +kernel)
theorem aw_ok : (clsR Ldef ⟨#[98, 108, 97, 110, 107]⟩).2 = true := by decide +kernel
theorem aw_btw : cs (btw Ldef 97 99) = cs (setOf [97, 98, 99]) := cs_congr _ _ (by decide +kernel)
theorem aw_le : Ldef.wt 97 ≤ Ldef.wt 99 := by decide

theorem aw_split (W C E : Value) (w : World) (hM : LocM w Lsam W C E) :
    Calls Tryd.prog 11 #[.agg (lcl Lsam W C E), .string ⟨#[101, 99, 104, 104]⟩] w fun e w' => ∃ b o cap, e = .returned (.slice (some ⟨b, o, none⟩) 3 cap) ∧ w'.cell? ⟨b, o + 1, none⟩ = some (.string ⟨#[99, 104]⟩) ∧ Below w.heap.size w w' := by
  refine (pSplit_any Lsam W C E ⟨#[101, 99, 104, 104]⟩ (by decide) w hM).mono ?_
  rintro e w' ⟨v, rfl, hT, hb⟩
  rw [vld_sam, show (⟨#[101, 99, 104, 104]⟩ : ByteArray).data.toList = [101, 99, 104, 104] from rfl, aw_pcs] at hT
  obtain ⟨a, cap, rfl, hc, h⟩ := hT
  rcases h with h | ⟨b, o, rfl, hlt, h⟩
  · cases h
  · exact ⟨b, o, cap, rfl, h 1 0 (by decide) (by decide), hb⟩
theorem aw_class (W C E : Value) (w : World) (hT : ltabAt w) (hM : LocM w Ldef W C E) :
    Calls Tryd.prog 35 #[.agg (lcl Ldef W C E), .string ⟨#[98, 108, 97, 110, 107]⟩] w fun e w' => e = .returned (.tuple #[cs (setOf [32, 9]), .bool true]) ∧ Below w.heap.size w w' := by
  have h := pClass_any Ldef W C E ⟨#[98, 108, 97, 110, 107]⟩ w hT hM
  rw [vld_def, aw_cls, aw_ok] at h
  exact h
theorem aw_between (W C E : Value) (w : World) (hM : LocM w Ldef W C E) :
    Calls Tryd.prog 16 #[.agg (lcl Ldef W C E), .int .u8 97, .int .u8 99] w fun e w' => e = .returned (.tuple #[cs (setOf [97, 98, 99]), .bool true]) ∧ Below w.heap.size w w' := by
  have h := pBetween_any Ldef W C E 97 99 (by decide) (by decide) w hM
  rw [vld_def, if_pos aw_le, aw_btw] at h
  exact h
theorem aw_compare1 (W C E : Value) (w : World) (hM : LocM w Lsam W C E) :
    Calls Tryd.prog 37 #[.agg (lcl Lsam W C E), .string ⟨#[99, 104]⟩, .string ⟨#[99, 122]⟩] w fun e w' => e = .returned (.int .i64 1) ∧ Below w.heap.size w w' := by
  have h := pCompare_any Lsam W C E ⟨#[99, 104]⟩ ⟨#[99, 122]⟩ w hM
  rw [vld_sam, show (⟨#[99, 104]⟩ : ByteArray).data.toList = [99, 104] from rfl, show (⟨#[99, 122]⟩ : ByteArray).data.toList = [99, 122] from rfl, aw_cmp1] at h
  exact h
theorem aw_compare2 (W C E : Value) (w : World) (hM : LocM w Lsam W C E) :
    Calls Tryd.prog 37 #[.agg (lcl Lsam W C E), .string ⟨#[99]⟩, .string ⟨#[99, 104]⟩] w fun e w' => e = .returned (.int .i64 (-1)) ∧ Below w.heap.size w w' := by
  have h := pCompare_any Lsam W C E ⟨#[99]⟩ ⟨#[99, 104]⟩ w hM
  rw [vld_sam, show (⟨#[99]⟩ : ByteArray).data.toList = [99] from rfl, show (⟨#[99, 104]⟩ : ByteArray).data.toList = [99, 104] from rfl, aw_cmp2] at h
  exact h
theorem aw_lower (W C E : Value) (w : World) (hM : LocM w Lsam W C E) :
    Calls Tryd.prog 38 #[.agg (lcl Lsam W C E), .string ⟨#[97, 66]⟩] w fun e w' => e = .returned (.string ⟨#[97, 98]⟩) ∧ Below w.heap.size w w' := by
  have h := pLower_any Lsam W C E ⟨#[97, 66]⟩ (by decide) w hM
  rw [vld_sam, show (⟨#[97, 66]⟩ : ByteArray).data.toList = [97, 66] from rfl, aw_low] at h
  exact h
theorem aw_upper (W C E : Value) (w : World) (hM : LocM w Lsam W C E) :
    Calls Tryd.prog 39 #[.agg (lcl Lsam W C E), .string ⟨#[97, 66]⟩] w fun e w' => e = .returned (.string ⟨#[65, 66]⟩) ∧ Below w.heap.size w w' := by
  have h := pUpper_any Lsam W C E ⟨#[97, 66]⟩ (by decide) w hM
  rw [vld_sam, show (⟨#[97, 66]⟩ : ByteArray).data.toList = [97, 66] from rfl, aw_up] at h
  exact h
theorem aw_check (W C E : Value) (w : World) (hM : LocM w Lsam W C E) :
    Calls Tryd.prog 20 #[.agg (lcl Lsam W C E)] w fun e w' => e = .returned (.int .i64 0) ∧ Below w.heap.size w w' := by
  have h := pCheck_any Lsam W C E w hM
  rw [chk_sam] at h
  exact h
theorem aw_same (W1 W2 : Value) (w : World) (h1 : LocM w Ldef W1 (.slice none 0 0) (.slice none 0 0)) (h2 : LocM w Ldef W2 (.slice none 0 0) (.slice none 0 0)) :
    Calls Tryd.prog 23 #[.agg (lcl Ldef W1 (.slice none 0 0) (.slice none 0 0)), .agg (lcl Ldef W2 (.slice none 0 0) (.slice none 0 0))] w fun e w' => e = .returned (.bool true) ∧ Below w.heap.size w w' :=
  sameLocale_any Ldef rfl rfl rfl W1 _ _ W2 _ _ w h1 h2
theorem aw_of1 (w : World) : Calls Tryd.prog 36 #[.string ⟨#[32, 9]⟩] w fun e w' => e = .returned (cs (setOf [32, 9])) ∧ Below w.heap.size w w' := rof_any ⟨#[32, 9]⟩ (by decide) w
theorem aw_of2 (w : World) : Calls Tryd.prog 36 #[.string ⟨#[97, 98, 99]⟩] w fun e w' => e = .returned (cs (setOf [97, 98, 99])) ∧ Below w.heap.size w w' := rof_any ⟨#[97, 98, 99]⟩ (by decide) w

/-- What the test of the examples looks at. -/
def AWS (w0 : World) (b o g1 g2 : Nat) (S1 S2 : Nat → Bool) (w : World) : Prop := w.cell? ⟨b, o + 1, none⟩ = some (.string ⟨#[99, 104]⟩) ∧ At w g1 S1 ∧ At w g2 S2 ∧ Below w0.heap.size w0 w
theorem AWS.drew {w0 w : World} {b o g1 g2 : Nat} {S1 S2 : Nat → Bool} (h : AWS w0 b o g1 g2 S1 S2 w) : AWS w0 b o g1 g2 S1 S2 w.drew := ⟨h.1, h.2.1, h.2.2.1, h.2.2.2.drew⟩
theorem AWS.keep {w0 w w' : World} {b o g1 g2 : Nat} {S1 S2 : Nat → Bool} (hb : Below w.heap.size w w') (h : AWS w0 b o g1 g2 S1 S2 w) : AWS w0 b o g1 g2 S1 S2 w' :=
  ⟨keep_words hb h.1, h.2.1.below hb h.2.1.lt, h.2.2.1.below hb h.2.2.1.lt, h.2.2.2.trans (hb.mono h.2.2.2.size)⟩

set_option maxRecDepth 100000 in
set_option maxHeartbeats 16000000 in
theorem awake_any (w : World) (hT : ltabAt w) : Calls Tryd.prog 13 #[] w fun e w' => e = .returned (.bool true) ∧ Below w.heap.size w w' := by
  have HT := Lib.hid hT
  clear hT
  have HTk := Lib.hid (fun (wx : World) (hb : Below w.heap.size w wx) => ltab_keep HT.out hb)
  have HB := Lib.hid (Below.refl w.heap.size w)
  have HSm := Lib.hid sample_any
  have HDf := Lib.hid default_any
  have HPd := Lib.hid pDefault_any
  have HSp := Lib.hid aw_split
  have HCl := Lib.hid aw_class
  have HBt := Lib.hid aw_between
  have HC1 := Lib.hid aw_compare1
  have HC2 := Lib.hid aw_compare2
  have HLo := Lib.hid aw_lower
  have HUp := Lib.hid aw_upper
  have HCk := Lib.hid aw_check
  have HSa := Lib.hid aw_same
  have HO1 := Lib.hid aw_of1
  have HO2 := Lib.hid aw_of2
  obtain ⟨S1, hS1⟩ : ∃ S, setOf [32, 9] = S := ⟨_, rfl⟩
  obtain ⟨S2, hS2⟩ : ∃ S, setOf [97, 98, 99] = S := ⟨_, rfl⟩
  rw [hS1] at HCl HO1
  rw [hS2] at HBt HO2
  have HN1 := Lib.hid (neq_cs S1 S1)
  have HN2 := Lib.hid (neq_cs S2 S2)
  rw [eqc_self] at HN1 HN2
  clear hS1 hS2
  obtain ⟨la, hla⟩ : ∃ l : Value → Value → Value → Array Value, lcl Lsam = l := ⟨_, rfl⟩
  obtain ⟨ld, hld⟩ : ∃ l : Value → Value → Value → Array Value, lcl Ldef = l := ⟨_, rfl⟩
  rw [hla] at HSm HSp HC1 HC2 HLo HUp HCk
  rw [hld] at HDf HPd HCl HBt HSa
  clear hla hld
  unfold cs cl at *
  go_enter Tryd.func13, Tryd.ntmps13
  go_wp2_with (first
    | (go_at_call 34; refine (HSm.out _).mono ?_; rintro e w1 ⟨Ws, Es, rfl, hm, hb⟩; have HMs := Lib.hid hm; have HB := Lib.hid (HB.out.trans (hb.mono HB.out.size)); clear hm hb)
    | (go_at_call 11; refine (HSp.out _ _ _ _ HMs.out).mono ?_; rintro e w2 ⟨b, o, cap, rfl, hcell, hb⟩; have HB2 := Lib.hid (HB.out.trans (hb.mono HB.out.size)); have HCell := Lib.hid hcell; clear hcell hb)
    | (go_at_call 10; refine (HDf.out _).mono ?_; rintro e w3 ⟨x, y, hx, rfl, hm, hb⟩; have HMd := Lib.hid hm; have HB3 := Lib.hid (HB2.out.trans (hb.mono HB2.out.size)); have HCell3 := Lib.hid (keep_words hb HCell.out); clear hm hb hx)
    | (go_at_call 35
       refine (HCl.out _ _ _ _ (HTk.out _ HB3.out) HMd.out).mono ?_
       rintro e w4 ⟨rfl, hb⟩
       have HB4 := Lib.hid ((HB3.out.trans (hb.mono HB3.out.size)).alloc (HB3.out.trans (hb.mono HB3.out.size)).size (.cells (cl S1) 38))
       have HCell4 := Lib.hid (keep_words ((hb.trans (Below.refl _ _)).alloc hb.size (.cells (cl S1) 38)) HCell3.out)
       have HA4 := Lib.hid (At.new w4 S1)
       clear hb)
    | (go_at_call 16
       refine (HBt.out _ _ _ _ HMe.out).mono ?_
       rintro e w6 ⟨rfl, hb⟩
       have hb2 := hb.alloc hb.size (.cells (cl S2) 38)
       have HB6 := Lib.hid (HB5.out.trans (hb2.mono HB5.out.size))
       have HCell6 := Lib.hid (keep_words hb2 HCell5.out)
       have HA6 := Lib.hid (HA5.out.below hb2 HA5.out.lt)
       have HZ6 := Lib.hid (At.new w6 S2)
       clear hb hb2)
    | (go_at_call 10; refine (HDf.out _).mono ?_; rintro e w5 ⟨x5, y5, hx, rfl, hm, hb⟩; have HMe := Lib.hid hm; have HB5 := Lib.hid (HB4.out.trans (hb.mono HB4.out.size)); have HCell5 := Lib.hid (keep_words hb HCell4.out); have HA5 := Lib.hid (HA4.out.below hb HA4.out.lt); clear hm hb hx))
  have HA0 : Hid (AWS w b o w4.heap.size w6.heap.size S1 S2 _) := ⟨HCell6.out, HA6.out, HZ6.out, HB6.out⟩
  clear HCell HCell3 HCell4 HCell5 HCell6 HA4 HA5 HA6 HZ6 HB2 HB3 HB4 HB5 HB6
  refine wp_region_held_drew (S := fun w' => AWS w b o w4.heap.size w6.heap.size S1 S2 w') (by kernel_rfl) ?_ (fun hHeld => ?_)
  · exact HA0.out.drew
  refine wpAnyH_take (i := 0) (v := ?av0) rfl (by kernel_rfl) (by kernel_rfl) (by kernel_rfl) (fun _ _ _ h => h) (Or.inl ⟨by rfl, ?ay0⟩) (by assumption) ?ar0
  case ay0 =>
    intro wx hSw
    clear hSw
    go_simp
    first | done | (with_reducible rfl)
  (try simp only [Act.put, List.getElem_toArray, List.getElem_cons_zero, List.setIfInBounds_toArray, List.set_cons_zero, List.set_cons_succ])
  refine wpAnyH_take (i := 1) (v := ?av1) rfl (by kernel_rfl) (by kernel_rfl) (by kernel_rfl) (fun _ _ _ h => h) (Or.inl ⟨by rfl, ?ay1⟩) (by assumption) ?ar1
  case ay1 =>
    intro wx hSw
    clear hSw
    go_simp
    first | done | (with_reducible rfl)
  (try simp only [Act.put, List.getElem_toArray, List.getElem_cons_succ, List.getElem_cons_zero, List.setIfInBounds_toArray, List.set_cons_zero, List.set_cons_succ])
  refine wpAnyH_take (i := 2) (v := ?av2) rfl (by kernel_rfl) (by kernel_rfl) (by kernel_rfl) (fun _ _ _ h => h) (Or.inl ⟨by rfl, ?ay2⟩) (by assumption) ?ar2
  case ay2 =>
    intro wx hSw
    clear hSw
    go_simp
    first | done | (with_reducible rfl)
  (try simp only [Act.put, List.getElem_toArray, List.getElem_cons_succ, List.getElem_cons_zero, List.setIfInBounds_toArray, List.set_cons_zero, List.set_cons_succ])
  refine wpAnyH_take (i := 3) (v := ?av3) rfl (by kernel_rfl) (by kernel_rfl) (by kernel_rfl) (fun _ _ _ h => h) (Or.inl ⟨by rfl, ?ay3⟩) (by assumption) ?ar3
  case ay3 =>
    intro wx hSw
    clear hSw
    go_simp
    first | done | (with_reducible rfl)
  (try simp only [Act.put, List.getElem_toArray, List.getElem_cons_succ, List.getElem_cons_zero, List.setIfInBounds_toArray, List.set_cons_zero, List.set_cons_succ])
  refine wpAnyH_take (i := 4) (v := ?av4) rfl (by kernel_rfl) (by kernel_rfl) (by kernel_rfl) (fun _ _ _ h => h) (Or.inl ⟨by rfl, ?ay4⟩) (by assumption) ?ar4
  case ay4 =>
    intro wx hSw
    clear hSw
    go_simp
    first | done | (with_reducible rfl)
  (try simp only [Act.put, List.getElem_toArray, List.getElem_cons_succ, List.getElem_cons_zero, List.setIfInBounds_toArray, List.set_cons_zero, List.set_cons_succ])
  refine wpAnyH_take (i := 5) (v := ?av5) rfl (by kernel_rfl) (by kernel_rfl) (by kernel_rfl) (fun _ _ _ h => h) (Or.inl ⟨by rfl, ?ay5⟩) (by assumption) ?ar5
  case ay5 =>
    intro wx hSw
    clear hSw
    go_simp
    first | done | (with_reducible rfl)
  (try simp only [Act.put, List.getElem_toArray, List.getElem_cons_succ, List.getElem_cons_zero, List.setIfInBounds_toArray, List.set_cons_zero, List.set_cons_succ])
  refine wpAnyH_take (i := 6) (v := ?av6) rfl (by kernel_rfl) (by kernel_rfl) (by kernel_rfl) (fun _ _ _ h => h) (Or.inl ⟨by rfl, ?ay6⟩) (by assumption) ?ar6
  case ay6 =>
    intro wx hSw
    have hcell := hSw.1
    clear hSw
    go_simp
    first | done | (with_reducible rfl)
  (try simp only [Act.put, List.getElem_toArray, List.getElem_cons_succ, List.getElem_cons_zero, List.setIfInBounds_toArray, List.set_cons_zero, List.set_cons_succ])
  refine wpAnyH_take (i := 7) (v := ?av7) rfl (by kernel_rfl) (by kernel_rfl) (by kernel_rfl) (fun _ _ _ h => h) (Or.inl ⟨by rfl, ?ay7⟩) (by assumption) ?ar7
  case ay7 =>
    intro wx hSw
    clear hSw
    go_simp
    first | done | (with_reducible rfl)
  (try simp only [Act.put, List.getElem_toArray, List.getElem_cons_succ, List.getElem_cons_zero, List.setIfInBounds_toArray, List.set_cons_zero, List.set_cons_succ])
  refine wpAnyH_take (i := 8) (v := ?av8) rfl (by kernel_rfl) (by kernel_rfl) (by kernel_rfl) (fun _ _ _ h => h) (Or.inl ⟨by rfl, ?ay8⟩) (by assumption) ?ar8
  case ay8 =>
    intro wx hSw
    clear hSw
    go_simp
    first | done | (with_reducible rfl)
  (try simp only [Act.put, List.getElem_toArray, List.getElem_cons_succ, List.getElem_cons_zero, List.setIfInBounds_toArray, List.set_cons_zero, List.set_cons_succ])
  refine wpAnyH_take (i := 9) (v := ?av9) rfl (by kernel_rfl) (by kernel_rfl) (by kernel_rfl) (fun _ _ _ h => h) (Or.inl ⟨by rfl, ?ay9⟩) (by assumption) ?ar9
  case ay9 =>
    intro wx hSw
    clear hSw
    go_simp
    first | done | (with_reducible rfl)
  (try simp only [Act.put, List.getElem_toArray, List.getElem_cons_succ, List.getElem_cons_zero, List.setIfInBounds_toArray, List.set_cons_zero, List.set_cons_succ])
  refine wpAnyH_take (i := 10) (v := ?av10) rfl (by kernel_rfl) (by kernel_rfl) (by kernel_rfl) (fun _ _ _ h => h) (Or.inl ⟨by rfl, ?ay10⟩) (by assumption) ?ar10
  case ay10 =>
    intro wx hSw
    clear hSw
    go_simp
    first | done | (with_reducible rfl)
  (try simp only [Act.put, List.getElem_toArray, List.getElem_cons_succ, List.getElem_cons_zero, List.setIfInBounds_toArray, List.set_cons_zero, List.set_cons_succ])
  refine wpAnyH_take (i := 11) (v := ?av11) rfl (by kernel_rfl) (by kernel_rfl) (by kernel_rfl) (fun _ _ _ h => h) (Or.inl ⟨by rfl, ?ay11⟩) (by assumption) ?ar11
  case ay11 =>
    intro wx hSw
    clear hSw
    go_simp
    first | done | (with_reducible rfl)
  (try simp only [Act.put, List.getElem_toArray, List.getElem_cons_succ, List.getElem_cons_zero, List.setIfInBounds_toArray, List.set_cons_zero, List.set_cons_succ])
  refine wpAnyH_take (i := 12) (v := ?av12) rfl (by kernel_rfl) (by kernel_rfl) (by kernel_rfl) (fun _ _ _ h => h) (Or.inl ⟨by rfl, ?ay12⟩) (by assumption) ?ar12
  case ay12 =>
    intro wx hSw
    clear hSw
    go_simp
    first | done | (with_reducible rfl)
  (try simp only [Act.put, List.getElem_toArray, List.getElem_cons_succ, List.getElem_cons_zero, List.setIfInBounds_toArray, List.set_cons_zero, List.set_cons_succ])
  refine wpAnyH_take (i := 13) (v := ?av13) rfl (by kernel_rfl) (by kernel_rfl) (by kernel_rfl) (fun _ _ _ h => h) (Or.inl ⟨by rfl, ?ay13⟩) (by assumption) ?ar13
  case ay13 =>
    intro wx hSw
    clear hSw
    go_simp
    first | done | (with_reducible rfl)
  (try simp only [Act.put, List.getElem_toArray, List.getElem_cons_succ, List.getElem_cons_zero, List.setIfInBounds_toArray, List.set_cons_zero, List.set_cons_succ])
  refine wpAnyH_take (i := 14) (v := ?av14) rfl (by kernel_rfl) (by kernel_rfl) (by kernel_rfl) (fun _ _ _ h => h) (Or.inl ⟨by rfl, ?ay14⟩) (by assumption) ?ar14
  case ay14 =>
    intro wx hSw
    clear hSw
    go_simp
    first | done | (with_reducible rfl)
  (try simp only [Act.put, List.getElem_toArray, List.getElem_cons_succ, List.getElem_cons_zero, List.setIfInBounds_toArray, List.set_cons_zero, List.set_cons_succ])
  refine wpAnyH_take (i := 15) (v := ?av15) rfl (by kernel_rfl) (by kernel_rfl) (by kernel_rfl) (fun _ _ _ h => h) (Or.inl ⟨by rfl, ?ay15⟩) (by assumption) ?ar15
  case ay15 =>
    intro wx hSw
    clear hSw
    go_simp
    first | done | (with_reducible rfl)
  (try simp only [Act.put, List.getElem_toArray, List.getElem_cons_succ, List.getElem_cons_zero, List.setIfInBounds_toArray, List.set_cons_zero, List.set_cons_succ])
  refine wpAnyH_take (i := 16) (v := ?av16) rfl (by kernel_rfl) (by kernel_rfl) (by kernel_rfl) (fun _ _ _ h => h) (Or.inl ⟨by rfl, ?ay16⟩) (by assumption) ?ar16
  case ay16 =>
    intro wx hSw
    clear hSw
    go_simp
    first | done | (with_reducible rfl)
  (try simp only [Act.put, List.getElem_toArray, List.getElem_cons_succ, List.getElem_cons_zero, List.setIfInBounds_toArray, List.set_cons_zero, List.set_cons_succ])
  refine wpAnyH_take (i := 17) (v := ?av17) rfl (by kernel_rfl) (by kernel_rfl) (by kernel_rfl) (fun _ _ _ h => h) (Or.inl ⟨by rfl, ?ay17⟩) (by assumption) ?ar17
  case ay17 =>
    intro wx hSw
    clear hSw
    go_simp
    first | done | (with_reducible rfl)
  (try simp only [Act.put, List.getElem_toArray, List.getElem_cons_succ, List.getElem_cons_zero, List.setIfInBounds_toArray, List.set_cons_zero, List.set_cons_succ])
  refine wpAnyH_take (i := 18) (v := ?av18) rfl (by kernel_rfl) (by kernel_rfl) (by kernel_rfl) (fun _ _ _ h => h) (Or.inl ⟨by rfl, ?ay18⟩) (by assumption) ?ar18
  case ay18 =>
    intro wx hSw
    have hw := hSw.2.1.words
    unfold cl at hw
    obtain ⟨⟨z0, z1⟩, ⟨z2, z3⟩, z4⟩ := hw
    clear hSw
    go_simp
    first | done | (with_reducible rfl)
  (try simp only [Act.put, List.getElem_toArray, List.getElem_cons_succ, List.getElem_cons_zero, List.setIfInBounds_toArray, List.set_cons_zero, List.set_cons_succ])
  refine wpAnyH_ready (rs := [19]) (by kernel_rfl) (by simp) ?_
  refine AllReadyH.cons rfl (fun K hK => ?_) AllReadyH.nil
  go_simp
  go_at_call 36
  refine (HO1.out _).mono ?_
  rintro e w7 ⟨rfl, hb⟩
  refine hK.out _ _ ?_ (fun hHeld1 => ?_)
  · exact AWS.keep hb hHeld
  clear hK K hb
  (try simp only [Act.put, List.getElem_toArray, List.getElem_cons_succ, List.getElem_cons_zero, List.setIfInBounds_toArray, List.set_cons_zero, List.set_cons_succ])
  refine wpAnyH_take (i := 20) (v := ?bv20) rfl (by kernel_rfl) (by kernel_rfl) (by kernel_rfl) (fun _ _ _ h => h) (Or.inl ⟨by rfl, ?by20⟩) (by assumption) ?br20
  case by20 =>
    intro wx hSw
    have hn := HN1.out
    clear hSw
    go_simp
    first | done | (with_reducible rfl)
  (try simp only [Act.put, List.getElem_toArray, List.getElem_cons_succ, List.getElem_cons_zero, List.setIfInBounds_toArray, List.set_cons_zero, List.set_cons_succ])
  refine wpAnyH_take (i := 21) (v := ?bv21) rfl (by kernel_rfl) (by kernel_rfl) (by kernel_rfl) (fun _ _ _ h => h) (Or.inl ⟨by rfl, ?by21⟩) (by assumption) ?br21
  case by21 =>
    intro wx hSw
    clear hSw
    go_simp
    first | done | (with_reducible rfl)
  (try simp only [Act.put, List.getElem_toArray, List.getElem_cons_succ, List.getElem_cons_zero, List.setIfInBounds_toArray, List.set_cons_zero, List.set_cons_succ])
  refine wpAnyH_take (i := 22) (v := ?bv22) rfl (by kernel_rfl) (by kernel_rfl) (by kernel_rfl) (fun _ _ _ h => h) (Or.inl ⟨by rfl, ?by22⟩) (by assumption) ?br22
  case by22 =>
    intro wx hSw
    clear hSw
    go_simp
    first | done | (with_reducible rfl)
  (try simp only [Act.put, List.getElem_toArray, List.getElem_cons_succ, List.getElem_cons_zero, List.setIfInBounds_toArray, List.set_cons_zero, List.set_cons_succ])
  refine wpAnyH_take (i := 23) (v := ?bv23) rfl (by kernel_rfl) (by kernel_rfl) (by kernel_rfl) (fun _ _ _ h => h) (Or.inl ⟨by rfl, ?by23⟩) (by assumption) ?br23
  case by23 =>
    intro wx hSw
    have hw := hSw.2.2.1.words
    unfold cl at hw
    obtain ⟨⟨z0, z1⟩, ⟨z2, z3⟩, z4⟩ := hw
    clear hSw
    go_simp
    first | done | (with_reducible rfl)
  (try simp only [Act.put, List.getElem_toArray, List.getElem_cons_succ, List.getElem_cons_zero, List.setIfInBounds_toArray, List.set_cons_zero, List.set_cons_succ])
  refine wpAnyH_ready (rs := [24]) (by kernel_rfl) (by simp) ?_
  refine AllReadyH.cons rfl (fun K hK => ?_) AllReadyH.nil
  go_simp
  go_at_call 36
  refine (HO2.out _).mono ?_
  rintro e w8 ⟨rfl, hb⟩
  refine hK.out _ _ ?_ (fun hHeld2 => ?_)
  · exact AWS.keep hb hHeld1
  clear hK K hb
  (try simp only [Act.put, List.getElem_toArray, List.getElem_cons_succ, List.getElem_cons_zero, List.setIfInBounds_toArray, List.set_cons_zero, List.set_cons_succ])
  refine wpAnyH_take (i := 25) (v := ?cv25) rfl (by kernel_rfl) (by kernel_rfl) (by kernel_rfl) (fun _ _ _ h => h) (Or.inl ⟨by rfl, ?cy25⟩) (by assumption) ?cr25
  case cy25 =>
    intro wx hSw
    have hn := HN2.out
    clear hSw
    go_simp
    first | done | (with_reducible rfl)
  (try simp only [Act.put, List.getElem_toArray, List.getElem_cons_succ, List.getElem_cons_zero, List.setIfInBounds_toArray, List.set_cons_zero, List.set_cons_succ])
  refine wpAnyH_take (i := 26) (v := ?cv26) rfl (by kernel_rfl) (by kernel_rfl) (by kernel_rfl) (fun _ _ _ h => h) (Or.inl ⟨by rfl, ?cy26⟩) (by assumption) ?cr26
  case cy26 =>
    intro wx hSw
    clear hSw
    go_simp
    first | done | (with_reducible rfl)
  (try simp only [Act.put, List.getElem_toArray, List.getElem_cons_succ, List.getElem_cons_zero, List.setIfInBounds_toArray, List.set_cons_zero, List.set_cons_succ])
  refine wpAnyH_done (by kernel_rfl) ?_ _
  have HB := Lib.hid hHeld2.2.2.2
  clear hHeld hHeld1 hHeld2 HA0
  go_wp2_with (first
    | (go_at_call 34; refine (HSm.out _).mono ?_; rintro e w1 ⟨Ws, Es, rfl, hm, hb⟩; have HMs := Lib.hid hm; have HB := Lib.hid (HB.out.trans (hb.mono HB.out.size)); clear hm hb)
    | (go_at_call 37; with_reducible refine (HC1.out _ _ _ _ HMs.out).mono ?_; rintro e w1 ⟨rfl, hb⟩; have HB := Lib.hid (HB.out.trans (hb.mono HB.out.size)); clear hb)
    | (go_at_call 37; with_reducible refine (HC2.out _ _ _ _ HMs.out).mono ?_; rintro e w1 ⟨rfl, hb⟩; have HB := Lib.hid (HB.out.trans (hb.mono HB.out.size)); clear hb)
    | (go_at_call 38; refine (HLo.out _ _ _ _ HMs.out).mono ?_; rintro e w1 ⟨rfl, hb⟩; have HB := Lib.hid (HB.out.trans (hb.mono HB.out.size)); clear hb)
    | (go_at_call 39; refine (HUp.out _ _ _ _ HMs.out).mono ?_; rintro e w1 ⟨rfl, hb⟩; have HB := Lib.hid (HB.out.trans (hb.mono HB.out.size)); clear hb)
    | (go_at_call 20; refine (HCk.out _ _ _ _ HMs.out).mono ?_; rintro e w1 ⟨rfl, hb⟩; have HB := Lib.hid (HB.out.trans (hb.mono HB.out.size)); clear hb)
    | (go_at_call 40; refine (HPd.out _).mono ?_; rintro e w1 ⟨xa, ya, hx, rfl, hm, hb⟩; have HMp := Lib.hid hm; have HB := Lib.hid (HB.out.trans (hb.mono HB.out.size)); clear hm hb hx)
    | (go_at_call 10; refine (HDf.out _).mono ?_; rintro e w1 ⟨xb, yb, hx, rfl, hm, hb⟩; have HMq := Lib.hid hm; have HMp2 := Lib.hid (HMp.out.below hb); have HB := Lib.hid (HB.out.trans (hb.mono HB.out.size)); clear hm hb hx)
    | (go_at_call 23; refine (HSa.out _ _ _ HMp2.out HMq.out).mono ?_; rintro e w1 ⟨rfl, hb⟩; have HB := Lib.hid (HB.out.trans (hb.mono HB.out.size)); clear hb))
  go_ret
  exact ⟨rfl, HB.out⟩
end Go.Proofs.YtblaldcioneooaaDoor
