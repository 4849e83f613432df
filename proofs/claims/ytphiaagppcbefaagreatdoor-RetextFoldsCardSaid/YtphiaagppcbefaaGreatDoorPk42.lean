/- RxEx, RxAw, RxUp, RxBit. -/
import Derived.Test.YtphiaagppcbefaaGreatDoorPk38
import Derived.Test.YtphiaagppcbefaaGreatDoorPk41
import Derived.Test.YtphiaagppcbefaaGreatDoorPk6
import Derived.Test.YtphiaagppcbefaaGreatDoorPk2
import Derived.Test.YtphiaagppcbefaaGreatDoorPk12
import Derived.Test.YtphiaagppcbefaaGreatDoorPk13
import Derived.Test.YtphiaagppcbefaaGreatDoorPk15
set_option linter.unusedVariables false
namespace Go.Proofs.YtphiaagppcbefaaGreatDoor
open Go.RowKit
def exF : F := .cons 2 (between 97 97) 0 0 0 .nil (.cons 3 noSet 0 0 0 (.cons 2 (between 98 98) 0 0 0 .nil (.cons 5 noSet 0 (-1) 0 (.cons 2 (between 99 99) 0 0 0 .nil .nil) .nil)) .nil)
def exC1 : CX := ⟨⟨#[97, 124, 98, 99, 42]⟩, 1, Ldef⟩
def exC2 : CX := ⟨⟨#[40, 97, 124, 41]⟩, 1, Ldef⟩
def exC3 : CX := ⟨⟨#[92, 49]⟩, 0, Ldef⟩
theorem ex1 : parT exC1 = (⟨4, noSet, 0, 0, 0, exF⟩, 0, 0) := by kernel_rfl
theorem ex2 : parT exC2 = (T0, 1, 3) := by kernel_rfl
theorem ex3 : parT exC3 = (T0, 4, 0) := by kernel_rfl
theorem exP : prN 4 noSet exF = [97, 124, 98, 99, 42] := by kernel_rfl
end Go.Proofs.YtphiaagppcbefaaGreatDoor
set_option linter.unusedVariables false
namespace Go.Proofs.YtphiaagppcbefaaGreatDoor
open Go.RowKit
theorem blk_lt {w : World} {g j : Nat} {v : Value} (h : w.cell? ⟨g, j, none⟩ = some v) : g < w.heap.size := by
  unfold World.cell? at h
  split at h
  · rename_i hb
    exact (Array.getElem?_eq_some_iff.1 hb).1
  · cases h
theorem vld_defR : vld Ldef = Ldef := by unfold vld; split <;> rfl
def TB (w : World) : Prop := (tabAt w ∧ maxAt w) ∧ ltabAt w
theorem TB.keep {w w' : World} (h : TB w) (hb : Below w.heap.size w w') : TB w' := ⟨⟨tab_keep h.1.1 hb, max_keep h.1.2 hb⟩, ltab_keep h.2 hb⟩
theorem TB.lt {w : World} (h : TB w) : 0 < w.heap.size := blk_lt (h.1.1 0 (by decide))
theorem ex_parse1 (W : World) (x y : Nat) (hM : LocM W Ldef (.slice (some ⟨x, 0, none⟩) 256 y) (.slice none 0 0) (.slice none 0 0)) (hT : TB W) :
    Calls Tryz.prog 11 #[.string ⟨#[97, 124, 98, 99, 42]⟩, .int .i64 1, (.agg (lcl Ldef (.slice (some ⟨x, 0, none⟩) 256 y) (.slice none 0 0) (.slice none 0 0)))] W fun e w' => ∃ ad cap, e = .returned (.tuple #[.agg #[.int .i64 4, .int .u64 0, .int .u64 0, .int .u64 0, .int .u64 0, .int .i64 0, .int .i64 0, .int .i64 0, .slice ad 2 cap], .int .i64 0, .int .i64 0]) ∧ SV w' (Frm W.heap.size) exF (.slice ad 2 cap) ∧ Below W.heap.size W w' := by
  refine (parse_rx W exC1 ⟨_, _, _⟩ hM hT.1 hT.2).mono ?_
  rw [ex1]
  rintro e w' ⟨v, rfl, ⟨sv, rfl, hsv⟩, hb⟩
  obtain ⟨ad, cap, rfl⟩ := slice_form hsv
  refine ⟨ad, cap, ?_, hsv, hb⟩
  unfold rowV
  show Ending.returned (.tuple #[.agg #[.int .i64 4, .int .u64 (wd noSet 0 64 : Nat), .int .u64 (wd noSet 64 64 : Nat), .int .u64 (wd noSet 128 64 : Nat), .int .u64 (wd noSet 192 64 : Nat), .int .i64 0, .int .i64 0, .int .i64 0, .slice ad 2 cap], .int .i64 0, .int .i64 0]) = _
  rw [wd_noSet.1, wd_noSet.2.1, wd_noSet.2.2.1, wd_noSet.2.2.2]
  rfl
theorem ex_parse2 (W : World) (x y : Nat) (hM : LocM W Ldef (.slice (some ⟨x, 0, none⟩) 256 y) (.slice none 0 0) (.slice none 0 0)) (hT : TB W) :
    Calls Tryz.prog 11 #[.string ⟨#[40, 97, 124, 41]⟩, .int .i64 1, (.agg (lcl Ldef (.slice (some ⟨x, 0, none⟩) 256 y) (.slice none 0 0) (.slice none 0 0)))] W fun e w' => ∃ ad cap, e = .returned (.tuple #[.agg #[.int .i64 0, .int .u64 0, .int .u64 0, .int .u64 0, .int .u64 0, .int .i64 0, .int .i64 0, .int .i64 0, .slice ad 0 cap], .int .i64 1, .int .i64 3]) ∧ SV w' (Frm W.heap.size) .nil (.slice ad 0 cap) ∧ Below W.heap.size W w' := by
  refine (parse_rx W exC2 ⟨_, _, _⟩ hM hT.1 hT.2).mono ?_
  rw [ex2]
  rintro e w' ⟨v, rfl, ⟨sv, rfl, hsv⟩, hb⟩
  obtain ⟨ad, cap, rfl⟩ := slice_form hsv
  refine ⟨ad, cap, ?_, hsv, hb⟩
  unfold rowV
  show Ending.returned (.tuple #[.agg #[.int .i64 0, .int .u64 (wd noSet 0 64 : Nat), .int .u64 (wd noSet 64 64 : Nat), .int .u64 (wd noSet 128 64 : Nat), .int .u64 (wd noSet 192 64 : Nat), .int .i64 0, .int .i64 0, .int .i64 0, .slice ad 0 cap], .int .i64 1, .int .i64 3]) = _
  rw [wd_noSet.1, wd_noSet.2.1, wd_noSet.2.2.1, wd_noSet.2.2.2]
  rfl
theorem ex_parse3 (W : World) (x y : Nat) (hM : LocM W Ldef (.slice (some ⟨x, 0, none⟩) 256 y) (.slice none 0 0) (.slice none 0 0)) (hT : TB W) :
    Calls Tryz.prog 11 #[.string ⟨#[92, 49]⟩, .int .i64 0, (.agg (lcl Ldef (.slice (some ⟨x, 0, none⟩) 256 y) (.slice none 0 0) (.slice none 0 0)))] W fun e w' => ∃ ad cap, e = .returned (.tuple #[.agg #[.int .i64 0, .int .u64 0, .int .u64 0, .int .u64 0, .int .u64 0, .int .i64 0, .int .i64 0, .int .i64 0, .slice ad 0 cap], .int .i64 4, .int .i64 0]) ∧ SV w' (Frm W.heap.size) .nil (.slice ad 0 cap) ∧ Below W.heap.size W w' := by
  refine (parse_rx W exC3 ⟨_, _, _⟩ hM hT.1 hT.2).mono ?_
  rw [ex3]
  rintro e w' ⟨v, rfl, ⟨sv, rfl, hsv⟩, hb⟩
  obtain ⟨ad, cap, rfl⟩ := slice_form hsv
  refine ⟨ad, cap, ?_, hsv, hb⟩
  unfold rowV
  show Ending.returned (.tuple #[.agg #[.int .i64 0, .int .u64 (wd noSet 0 64 : Nat), .int .u64 (wd noSet 64 64 : Nat), .int .u64 (wd noSet 128 64 : Nat), .int .u64 (wd noSet 192 64 : Nat), .int .i64 0, .int .i64 0, .int .i64 0, .slice ad 0 cap], .int .i64 4, .int .i64 0]) = _
  rw [wd_noSet.1, wd_noSet.2.1, wd_noSet.2.2.1, wd_noSet.2.2.2]
  rfl
theorem ex_print (W : World) (S : Nat → Prop) (ad : Option Addr) (cap : Nat) (hS : SV W S exF (.slice ad 2 cap)) (hT : TB W) :
    Calls Tryz.prog 15 #[.agg #[.int .i64 4, .int .u64 0, .int .u64 0, .int .u64 0, .int .u64 0, .int .i64 0, .int .i64 0, .int .i64 0, .slice ad 2 cap]] W fun e w' => e = .returned (.tuple #[.string ⟨#[97, 124, 98, 99, 42]⟩, .int .i64 0]) ∧ Below W.heap.size W w' := by
  have ho : ∀ n : Nat, n < 256 → spT (n : Int) true = false → letN 2 (between n n) := fun n h1 h2 _ => ⟨n, h1, h2, rfl⟩
  have hq : ∀ n : Nat, n < 256 → eqc (between n n) noSet = false := fun n h => by
    cases he : eqc (between n n) noSet with
    | false => rfl
    | true =>
      exfalso
      rw [eqc_iff] at he
      have := he n h
      unfold between noSet at this
      simp at this
  have h := print_rx ⟨4, noSet, 0, 0, 0, exF⟩ _ W S hS hT.1.1 hT.lt ⟨rfl, rfl, .inr (.inl ⟨.inr rfl, rfl, rfl, Nat.le_refl 2⟩)⟩
    ⟨⟨rfl, rfl, .inl ⟨rfl, hq 97 (by decide), rfl, rfl⟩⟩, .inr (.inl ⟨rfl, .inl rfl⟩), by decide, trivial,
     ⟨rfl, rfl, .inr (.inl ⟨.inl rfl, rfl, rfl, Nat.le_refl 2⟩)⟩, .inr (.inl ⟨rfl, .inr (.inl rfl)⟩), by decide,
     ⟨⟨rfl, rfl, .inl ⟨rfl, hq 98 (by decide), rfl, rfl⟩⟩, .inl ⟨rfl, .inl rfl⟩, by decide, trivial,
      ⟨rfl, rfl, .inr (.inr ⟨rfl, rfl, rfl, rfl⟩)⟩, .inl ⟨rfl, .inr rfl⟩, by decide,
      ⟨⟨rfl, rfl, .inl ⟨rfl, hq 99 (by decide), rfl, rfl⟩⟩, .inr (.inr ⟨rfl, rfl⟩), by decide, trivial, trivial⟩, trivial⟩, trivial⟩
    (by decide) (fun h => absurd h (by decide))
    ⟨ho 97 (by decide) (by decide), trivial, (fun h => absurd h (by decide)), ⟨ho 98 (by decide) (by decide), trivial, (fun h => absurd h (by decide)), ⟨ho 99 (by decide) (by decide), trivial, trivial⟩, trivial⟩, trivial⟩
    (by show (prN 4 noSet exF).length ≤ 256; rw [exP]; decide)
  have h : Calls Tryz.prog 15 #[.agg #[.int .i64 4, .int .u64 (wd noSet 0 64 : Nat), .int .u64 (wd noSet 64 64 : Nat), .int .u64 (wd noSet 128 64 : Nat), .int .u64 (wd noSet 192 64 : Nat), .int .i64 0, .int .i64 0, .int .i64 0, .slice ad 2 cap]] W fun e w' => e = .returned (.tuple #[.string ⟨(prN 4 noSet exF).toArray⟩, .int .i64 0]) ∧ Below W.heap.size W w' := h
  rw [wd_noSet.1, wd_noSet.2.1, wd_noSet.2.2.1, wd_noSet.2.2.2, exP] at h
  exact h
set_option maxRecDepth 100000 in
set_option maxHeartbeats 8000000 in
theorem aw_rx (w : World) (hT : TB w) : Calls Tryz.prog 10 #[] w fun e w' => e = .returned (.bool true) ∧ Below w.heap.size w w' := by
  have HT := Lib.hid hT
  have HP1 := Lib.hid ex_parse1
  have HP2 := Lib.hid ex_parse2
  have HP3 := Lib.hid ex_parse3
  have HPr := Lib.hid ex_print
  have H0 := Lib.hid (Below.refl w.heap.size w)
  clear hT
  go_enter Tryz.func10, Tryz.ntmps10
  go_upto_region 2 with (first
    | (go_at_call 17; refine (default_any _).mono ?_; rintro e w1 ⟨x1, y1, _, rfl, hM, hb⟩; have HM1 := Lib.hid hM; have HD1 := Lib.hid (H0.out.trans (hb.mono H0.out.size)); clear hM hb)
    | (go_at_call 11; (with_reducible refine (HP1.out _ _ _ HM1.out (HT.out.keep HD1.out)).mono ?_); rintro e v1 ⟨ad1, cap1, rfl, hsv, hb⟩; have HV1 := Lib.hid hsv; have HE1 := Lib.hid (HD1.out.trans (hb.mono HD1.out.size)); clear hsv hb)
    )
  have hbn := HE1.out.alloc HE1.out.size (.cells #[.int .i64 4, .int .u64 0, .int .u64 0, .int .u64 0, .int .u64 0, .int .i64 0, .int .i64 0, .int .i64 0, .slice ad1 2 cap1] 35)
  have hrn : RN (v1.alloc (.cells #[.int .i64 4, .int .u64 0, .int .u64 0, .int .u64 0, .int .u64 0, .int .i64 0, .int .i64 0, .int .i64 0, .slice ad1 2 cap1] 35)) v1.heap.size #[.int .i64 4, .int .u64 0, .int .u64 0, .int .u64 0, .int .u64 0, .int .i64 0, .int .i64 0, .int .i64 0, .slice ad1 2 cap1] := heap_alloc_new v1 _
  have hsn := HV1.out.far (Afar.below ((Below.refl v1.heap.size v1).alloc (Nat.le_refl _) (.cells #[.int .i64 4, .int .u64 0, .int .u64 0, .int .u64 0, .int .u64 0, .int .i64 0, .int .i64 0, .int .i64 0, .slice ad1 2 cap1] 35)))
  have hlb : v1.heap.size < (v1.alloc (.cells #[.int .i64 4, .int .u64 0, .int .u64 0, .int .u64 0, .int .u64 0, .int .i64 0, .int .i64 0, .int .i64 0, .slice ad1 2 cap1] 35)).heap.size := by simp
  generalize (v1.alloc (.cells #[.int .i64 4, .int .u64 0, .int .u64 0, .int .u64 0, .int .u64 0, .int .i64 0, .int .i64 0, .int .i64 0, .slice ad1 2 cap1] 35)) = u1 at hbn hrn hsn hlb ⊢
  generalize v1.heap.size = eb at hrn hlb ⊢
  have HBw := Lib.hid hbn
  have HRn := Lib.hid hrn
  have HSn := Lib.hid hsn
  have HT1 := Lib.hid (HT.out.keep hbn)
  have HU0 := Lib.hid (Below.refl u1.heap.size u1)
  have a0 : u1.cell? ⟨eb, 0, none⟩ = some (.int .i64 4) := hrn.cell 0
  have a1 : u1.cell? ⟨eb, 1, none⟩ = some (.int .u64 0) := hrn.cell 1
  have a2 : u1.cell? ⟨eb, 2, none⟩ = some (.int .u64 0) := hrn.cell 2
  have a3 : u1.cell? ⟨eb, 3, none⟩ = some (.int .u64 0) := hrn.cell 3
  have a4 : u1.cell? ⟨eb, 4, none⟩ = some (.int .u64 0) := hrn.cell 4
  have a5 : u1.cell? ⟨eb, 5, none⟩ = some (.int .i64 0) := hrn.cell 5
  have a6 : u1.cell? ⟨eb, 6, none⟩ = some (.int .i64 0) := hrn.cell 6
  have a7 : u1.cell? ⟨eb, 7, none⟩ = some (.int .i64 0) := hrn.cell 7
  have a8 : u1.cell? ⟨eb, 8, none⟩ = some (.slice ad1 2 cap1) := hrn.cell 8
  clear hbn hrn hsn HM1 HD1 HV1 HE1
  go_upto_region 3 with (first
    | (go_at_call 15; (with_reducible refine (HPr.out _ _ _ _ HSn.out HT1.out).mono ?_); rintro e u2 ⟨rfl, hb⟩; have HU2 := Lib.hid hb; clear hb)
    )
  clear a0 a1 a2 a3 a4 a5 a6 a7 a8
  go_upto_region 4 with (first
    | (go_at_call 17; refine (default_any _).mono ?_; rintro e w3 ⟨x3, y3, _, rfl, hM, hb⟩; have HM3 := Lib.hid hM; have HD3 := Lib.hid (HU2.out.trans (hb.mono HU2.out.size)); clear hM hb)
    | (go_at_call 11; (with_reducible refine (HP2.out _ _ _ HM3.out (HT1.out.keep HD3.out)).mono ?_); rintro e v3 ⟨ad3, cap3, rfl, hsv, hb⟩; have HV3 := Lib.hid hsv; have HE3 := Lib.hid (HD3.out.trans (hb.mono HD3.out.size)); clear hsv hb)
    )
  have HU3 := Lib.hid (HE3.out.alloc HE3.out.size (.cells #[.int .i64 0, .int .u64 0, .int .u64 0, .int .u64 0, .int .u64 0, .int .i64 0, .int .i64 0, .int .i64 0, .slice ad3 0 cap3] 35))
  generalize (v3.alloc (.cells #[.int .i64 0, .int .u64 0, .int .u64 0, .int .u64 0, .int .u64 0, .int .i64 0, .int .i64 0, .int .i64 0, .slice ad3 0 cap3] 35)) = u3 at HU3 ⊢
  clear HM3 HD3 HV3 HE3
  go_upto_region 5 with (first
    | (go_at_call 17; refine (default_any _).mono ?_; rintro e w4 ⟨x4, y4, _, rfl, hM, hb⟩; have HM4 := Lib.hid hM; have HD4 := Lib.hid (HU3.out.trans (hb.mono HU3.out.size)); clear hM hb)
    | (go_at_call 11; (with_reducible refine (HP3.out _ _ _ HM4.out (HT1.out.keep HD4.out)).mono ?_); rintro e v4 ⟨ad4, cap4, rfl, hsv, hb⟩; have HV4 := Lib.hid hsv; have HE4 := Lib.hid (HD4.out.trans (hb.mono HD4.out.size)); clear hsv hb)
    )
  have HU4 := Lib.hid (HE4.out.alloc HE4.out.size (.cells #[.int .i64 0, .int .u64 0, .int .u64 0, .int .u64 0, .int .u64 0, .int .i64 0, .int .i64 0, .int .i64 0, .slice ad4 0 cap4] 35))
  generalize (v4.alloc (.cells #[.int .i64 0, .int .u64 0, .int .u64 0, .int .u64 0, .int .u64 0, .int .i64 0, .int .i64 0, .int .i64 0, .slice ad4 0 cap4] 35)) = u4 at HU4 ⊢
  have hr4 := HRn.out.below HU4.out
  have a0 : u4.cell? ⟨eb, 0, none⟩ = some (.int .i64 4) := hr4.cell 0
  have a8 : u4.cell? ⟨eb, 8, none⟩ = some (.slice ad1 2 cap1) := hr4.cell 8
  clear HM4 HD4 HV4 HE4 hr4
  go_wp2
  go_ret
  exact ⟨rfl, HBw.out.trans (HU4.out.mono HBw.out.size)⟩
end Go.Proofs.YtphiaagppcbefaaGreatDoor
set_option linter.unusedVariables false
namespace Go.Proofs.YtphiaagppcbefaaGreatDoor
open Go.RowKit
set_option maxRecDepth 100000 in
set_option maxHeartbeats 4000000 in
theorem rLow_rx (L : Loc) (W C E : Value) (s : ByteArray) (hs : s.size ≤ 4294967280) (w : World) (hM : LocM w L W C E) :
    Calls Tryz.prog 21 #[.agg (lcl L W C E), .string s] w fun e w' => e = .returned (.string ⟨(mapT (vld L).lower s.data.toList).toArray⟩) ∧ Below w.heap.size w w' := by
  have hfd := fld2
  have HB : Hid (Below w.heap.size w (w.alloc (.cells (lcl L W C E) 26))) := (Below.refl _ _).alloc (Nat.le_refl _) _
  have HA : Hid (LAt (w.alloc (.cells (lcl L W C E) 26)) w.heap.size (lcl L W C E)) := heap_alloc_new w _
  have HU := Lib.hid (valid_any L W C E _ (hM.below HB.out))
  have HV := Lib.hid (ok_vld L)
  have HT := Lib.hid (mapped_any (vld L).lower s (ok_vld L).lo (by omega))
  generalize vld L = V at *
  generalize (⟨(mapT V.lower s.data.toList).toArray⟩ : ByteArray) = R at *
  obtain ⟨⟨aw, capw, rfl, _⟩, ⟨ac, capc, rfl, _⟩, ⟨ae, cape, rfl, _⟩⟩ := hM
  unfold lcl at HB HA HU ⊢
  go_enter Tryz.func21, Tryz.ntmps21
  go_wp2_with (first
    | (go_at_call 37
       refine HU.out.mono ?_
       rintro e w1 ⟨W1, C1, E1, rfl, hm, hb⟩
       have HB1 := Lib.hid (HB.out.trans (hb.mono HB.out.size))
       clear hb hm)
    | (go_at_call 36
       refine (HT.out _).mono ?_
       rintro e w2 ⟨rfl, hb⟩
       have HB2 := Lib.hid (HB1.out.trans (hb.mono HB1.out.size))
       clear hb))
  go_ret
  exact ⟨rfl, HB2.out⟩
set_option maxRecDepth 100000 in
set_option maxHeartbeats 4000000 in
theorem rUp_rx (L : Loc) (W C E : Value) (s : ByteArray) (hs : s.size ≤ 4294967280) (w : World) (hM : LocM w L W C E) :
    Calls Tryz.prog 22 #[.agg (lcl L W C E), .string s] w fun e w' => e = .returned (.string ⟨(mapT (vld L).upper s.data.toList).toArray⟩) ∧ Below w.heap.size w w' := by
  have hfd := fld3
  have HB : Hid (Below w.heap.size w (w.alloc (.cells (lcl L W C E) 26))) := (Below.refl _ _).alloc (Nat.le_refl _) _
  have HA : Hid (LAt (w.alloc (.cells (lcl L W C E) 26)) w.heap.size (lcl L W C E)) := heap_alloc_new w _
  have HU := Lib.hid (valid_any L W C E _ (hM.below HB.out))
  have HV := Lib.hid (ok_vld L)
  have HT := Lib.hid (mapped_any (vld L).upper s (ok_vld L).up (by omega))
  generalize vld L = V at *
  generalize (⟨(mapT V.upper s.data.toList).toArray⟩ : ByteArray) = R at *
  obtain ⟨⟨aw, capw, rfl, _⟩, ⟨ac, capc, rfl, _⟩, ⟨ae, cape, rfl, _⟩⟩ := hM
  unfold lcl at HB HA HU ⊢
  go_enter Tryz.func22, Tryz.ntmps22
  go_wp2_with (first
    | (go_at_call 37
       refine HU.out.mono ?_
       rintro e w1 ⟨W1, C1, E1, rfl, hm, hb⟩
       have HB1 := Lib.hid (HB.out.trans (hb.mono HB.out.size))
       clear hb hm)
    | (go_at_call 36
       refine (HT.out _).mono ?_
       rintro e w2 ⟨rfl, hb⟩
       have HB2 := Lib.hid (HB1.out.trans (hb.mono HB1.out.size))
       clear hb))
  go_ret
  exact ⟨rfl, HB2.out⟩
end Go.Proofs.YtphiaagppcbefaaGreatDoor
set_option linter.unusedVariables false
namespace Go.Proofs.YtphiaagppcbefaaGreatDoor
open Go.RowKit
theorem ofInt_wrap (n : Int) : BitVec.ofInt 64 (IntKind.i64.wrap n) = BitVec.ofInt 64 n := by
  rw [IntKind.wrap_i64]
  apply BitVec.eq_of_toInt_eq
  rw [BitVec.toInt_ofInt, BitVec.toInt_ofInt]
  unfold Int.bmod
  simp only [show ((2 ^ 64 : Nat) : Int) = 18446744073709551616 by decide]
  omega
theorem ofInt_nat (v : BitVec 64) : BitVec.ofInt 64 (v.toNat : Int) = v := by
  apply BitVec.eq_of_toNat_eq
  simp
theorem bits_or (x y : Int) : BitVec.ofInt 64 (bits .or .i64 x y) = BitVec.ofInt 64 x ||| BitVec.ofInt 64 y := by
  show BitVec.ofInt 64 (IntKind.i64.wrap ((BitVec.ofInt 64 x ||| BitVec.ofInt 64 y).toNat : Int)) = _
  rw [ofInt_wrap, ofInt_nat]
theorem bits_not (x y : Int) : BitVec.ofInt 64 (bits .andNot .i64 x y) = BitVec.ofInt 64 x &&& ~~~ BitVec.ofInt 64 y := by
  show BitVec.ofInt 64 (IntKind.i64.wrap ((BitVec.ofInt 64 x &&& ~~~ BitVec.ofInt 64 y).toNat : Int)) = _
  rw [ofInt_wrap, ofInt_nat]
theorem flg_is (x k : Int) : flg x k = !(BitVec.ofInt 64 x &&& BitVec.ofInt 64 k == 0#64) := by
  unfold flg
  have h : bits .and .i64 x k = IntKind.i64.wrap ((BitVec.ofInt 64 x &&& BitVec.ofInt 64 k).toNat : Int) := rfl
  rw [h]
  generalize BitVec.ofInt 64 x &&& BitVec.ofInt 64 k = v
  have hl := v.isLt
  congr 1
  by_cases h0 : v = 0#64
  · subst h0
    rfl
  · have h1 : v.toNat ≠ 0 := fun e => h0 (BitVec.eq_of_toNat_eq (by simpa using e))
    have h2 : (v == 0#64) = false := by simpa using h0
    rw [h2, IntKind.wrap_i64]
    simp only [beq_eq_false_iff_ne, ne_eq]
    omega
theorem flg_on (x : Int) : flg (bits .or .i64 x 2) 2 = true := by
  rw [flg_is, bits_or]
  have h : (BitVec.ofInt 64 x ||| BitVec.ofInt 64 2) &&& BitVec.ofInt 64 2 = BitVec.ofInt 64 2 := by
    ext i
    simp only [BitVec.getElem_and, BitVec.getElem_or]
    cases (BitVec.ofInt 64 x)[i] <;> cases (BitVec.ofInt 64 2)[i] <;> rfl
  rw [h]
  decide
theorem flg_or1 (x : Int) : flg (bits .or .i64 x 1) 2 = flg x 2 := by
  rw [flg_is, flg_is, bits_or]
  have h : (BitVec.ofInt 64 x ||| BitVec.ofInt 64 1) &&& BitVec.ofInt 64 2 = BitVec.ofInt 64 x &&& BitVec.ofInt 64 2 := by
    have h0 : BitVec.ofInt 64 1 &&& BitVec.ofInt 64 2 = 0#64 := by decide
    ext i hi
    have h1 : (BitVec.ofInt 64 1 &&& BitVec.ofInt 64 2)[i] = false := by simp only [h0]; simp
    simp only [BitVec.getElem_and, BitVec.getElem_or] at h1 ⊢
    cases h2 : (BitVec.ofInt 64 x)[i] <;> cases h3 : (BitVec.ofInt 64 1)[i] <;> cases h4 : (BitVec.ofInt 64 2)[i] <;> simp_all
  rw [h]
theorem flg_not1 (x : Int) : flg (bits .andNot .i64 x 1) 2 = flg x 2 := by
  rw [flg_is, flg_is, bits_not]
  have h : (BitVec.ofInt 64 x &&& ~~~ BitVec.ofInt 64 1) &&& BitVec.ofInt 64 2 = BitVec.ofInt 64 x &&& BitVec.ofInt 64 2 := by
    rw [BitVec.and_assoc]
    congr 1
  rw [h]
end Go.Proofs.YtphiaagppcbefaaGreatDoor
