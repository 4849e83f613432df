/- RxEx, RxAw, RxLwF, RxStG. -/
import Derived.Test.YtphiaagppcbefaaGreatDoorPs41
import Derived.Test.YtphiaagppcbefaaGreatDoorPs43
import Derived.Test.YtphiaagppcbefaaGreatDoorPs4
import Derived.Test.YtphiaagppcbefaaGreatDoorPs0
import Derived.Test.YtphiaagppcbefaaGreatDoorPs9
import Derived.Test.YtphiaagppcbefaaGreatDoorPs10
import Derived.Test.YtphiaagppcbefaaGreatDoorPs24
import Derived.Test.YtphiaagppcbefaaGreatDoorPs12
import Derived.Test.YtphiaagppcbefaaGreatDoorPs38
import Derived.StillTailTactics
import Derived.Deep.CutRange
import Derived.Deep.Cut
import Derived.Deep.DeepCutAuto
import Derived.Test.YtphiaagppcbefaaGreatDoorPs28
set_option linter.unusedVariables false
namespace Go.Proofs.YtphiaagppcbefaaGreatDoor
open Go.RowKit
def exF : F := .cons 2 (between 97 97) 0 0 0 .nil (.cons 3 noSet 0 0 0 (.cons 2 (between 98 98) 0 0 0 .nil (.cons 5 noSet 0 (-1) 0 (.cons 2 (between 99 99) 0 0 0 .nil .nil) .nil)) .nil)
def exC1 : CX := ⟨⟨#[97, 124, 98, 99, 42]⟩, 1, Ldef⟩
def exC2 : CX := ⟨⟨#[40, 97, 124, 41]⟩, 1, Ldef⟩
def exC3 : CX := ⟨⟨#[92, 49]⟩, 0, Ldef⟩
theorem ex1 : parT exC1 = (⟨4, noSet, 0, 0, 0, exF⟩, 0, 0) := by kernel_rfl
theorem ex2 : parT exC2 = (T0, 1, 3) := by kernel_rfl
theorem ex3 : parT exC3 = (T0, 4, 0) := by kernel_rfl
theorem exP : prN 4 noSet exF = [97, 124, 98, 99, 42] := by kernel_rfl
end Go.Proofs.YtphiaagppcbefaaGreatDoor
set_option linter.unusedVariables false
namespace Go.Proofs.YtphiaagppcbefaaGreatDoor
open Go.RowKit
theorem blk_lt {w : World} {g j : Nat} {v : Value} (h : w.cell? ⟨g, j, none⟩ = some v) : g < w.heap.size := by
  unfold World.cell? at h
  split at h
  · rename_i hb
    exact (Array.getElem?_eq_some_iff.1 hb).1
  · cases h
def TB (w : World) : Prop := (tabAt w ∧ maxAt w) ∧ ltabAt w
theorem TB.keep {w w' : World} (h : TB w) (hb : Below w.heap.size w w') : TB w' := ⟨⟨tab_keep h.1.1 hb, max_keep h.1.2 hb⟩, ltab_keep h.2 hb⟩
theorem TB.lt {w : World} (h : TB w) : 0 < w.heap.size := blk_lt (h.1.1 0 (by decide))
theorem ex_parse1 (W : World) (x y : Nat) (hM : LocM W Ldef (.slice (some ⟨x, 0, none⟩) 256 y) (.slice none 0 0) (.slice none 0 0)) (hT : TB W) :
    Calls Tryz.prog 11 #[.string ⟨#[97, 124, 98, 99, 42]⟩, .int .i64 1, (.agg (lcl Ldef (.slice (some ⟨x, 0, none⟩) 256 y) (.slice none 0 0) (.slice none 0 0)))] W fun e w' => ∃ ad cap, e = .returned (.tuple #[.agg #[.int .i64 4, .int .u64 0, .int .u64 0, .int .u64 0, .int .u64 0, .int .i64 0, .int .i64 0, .int .i64 0, .slice ad 2 cap], .int .i64 0, .int .i64 0]) ∧ SV w' (Frm W.heap.size) exF (.slice ad 2 cap) ∧ Below W.heap.size W w' := by
  refine (parse_rx W exC1 ⟨_, _, _⟩ hM hT.1 hT.2).mono ?_
  rw [ex1]
  rintro e w' ⟨v, rfl, ⟨sv, rfl, hsv⟩, hb⟩
  obtain ⟨ad, cap, rfl⟩ := slice_form hsv
  refine ⟨ad, cap, ?_, hsv, hb⟩
  unfold rowV
  show Ending.returned (.tuple #[.agg #[.int .i64 4, .int .u64 (wd noSet 0 64 : Nat), .int .u64 (wd noSet 64 64 : Nat), .int .u64 (wd noSet 128 64 : Nat), .int .u64 (wd noSet 192 64 : Nat), .int .i64 0, .int .i64 0, .int .i64 0, .slice ad 2 cap], .int .i64 0, .int .i64 0]) = _
  rw [wd_noSet.1, wd_noSet.2.1, wd_noSet.2.2.1, wd_noSet.2.2.2]
  rfl
theorem ex_parse2 (W : World) (x y : Nat) (hM : LocM W Ldef (.slice (some ⟨x, 0, none⟩) 256 y) (.slice none 0 0) (.slice none 0 0)) (hT : TB W) :
    Calls Tryz.prog 11 #[.string ⟨#[40, 97, 124, 41]⟩, .int .i64 1, (.agg (lcl Ldef (.slice (some ⟨x, 0, none⟩) 256 y) (.slice none 0 0) (.slice none 0 0)))] W fun e w' => ∃ ad cap, e = .returned (.tuple #[.agg #[.int .i64 0, .int .u64 0, .int .u64 0, .int .u64 0, .int .u64 0, .int .i64 0, .int .i64 0, .int .i64 0, .slice ad 0 cap], .int .i64 1, .int .i64 3]) ∧ SV w' (Frm W.heap.size) .nil (.slice ad 0 cap) ∧ Below W.heap.size W w' := by
  refine (parse_rx W exC2 ⟨_, _, _⟩ hM hT.1 hT.2).mono ?_
  rw [ex2]
  rintro e w' ⟨v, rfl, ⟨sv, rfl, hsv⟩, hb⟩
  obtain ⟨ad, cap, rfl⟩ := slice_form hsv
  refine ⟨ad, cap, ?_, hsv, hb⟩
  unfold rowV
  show Ending.returned (.tuple #[.agg #[.int .i64 0, .int .u64 (wd noSet 0 64 : Nat), .int .u64 (wd noSet 64 64 : Nat), .int .u64 (wd noSet 128 64 : Nat), .int .u64 (wd noSet 192 64 : Nat), .int .i64 0, .int .i64 0, .int .i64 0, .slice ad 0 cap], .int .i64 1, .int .i64 3]) = _
  rw [wd_noSet.1, wd_noSet.2.1, wd_noSet.2.2.1, wd_noSet.2.2.2]
  rfl
theorem ex_parse3 (W : World) (x y : Nat) (hM : LocM W Ldef (.slice (some ⟨x, 0, none⟩) 256 y) (.slice none 0 0) (.slice none 0 0)) (hT : TB W) :
    Calls Tryz.prog 11 #[.string ⟨#[92, 49]⟩, .int .i64 0, (.agg (lcl Ldef (.slice (some ⟨x, 0, none⟩) 256 y) (.slice none 0 0) (.slice none 0 0)))] W fun e w' => ∃ ad cap, e = .returned (.tuple #[.agg #[.int .i64 0, .int .u64 0, .int .u64 0, .int .u64 0, .int .u64 0, .int .i64 0, .int .i64 0, .int .i64 0, .slice ad 0 cap], .int .i64 4, .int .i64 0]) ∧ SV w' (Frm W.heap.size) .nil (.slice ad 0 cap) ∧ Below W.heap.size W w' := by
  refine (parse_rx W exC3 ⟨_, _, _⟩ hM hT.1 hT.2).mono ?_
  rw [ex3]
  rintro e w' ⟨v, rfl, ⟨sv, rfl, hsv⟩, hb⟩
  obtain ⟨ad, cap, rfl⟩ := slice_form hsv
  refine ⟨ad, cap, ?_, hsv, hb⟩
  unfold rowV
  show Ending.returned (.tuple #[.agg #[.int .i64 0, .int .u64 (wd noSet 0 64 : Nat), .int .u64 (wd noSet 64 64 : Nat), .int .u64 (wd noSet 128 64 : Nat), .int .u64 (wd noSet 192 64 : Nat), .int .i64 0, .int .i64 0, .int .i64 0, .slice ad 0 cap], .int .i64 4, .int .i64 0]) = _
  rw [wd_noSet.1, wd_noSet.2.1, wd_noSet.2.2.1, wd_noSet.2.2.2]
  rfl
theorem ex_print (W : World) (S : Nat → Prop) (ad : Option Addr) (cap : Nat) (hS : SV W S exF (.slice ad 2 cap)) (hT : TB W) :
    Calls Tryz.prog 15 #[.agg #[.int .i64 4, .int .u64 0, .int .u64 0, .int .u64 0, .int .u64 0, .int .i64 0, .int .i64 0, .int .i64 0, .slice ad 2 cap]] W fun e w' => e = .returned (.tuple #[.string ⟨#[97, 124, 98, 99, 42]⟩, .int .i64 0]) ∧ Below W.heap.size W w' := by
  have ho : ∀ n : Nat, n < 256 → spT (n : Int) true = false → letN 2 (between n n) := fun n h1 h2 _ => ⟨n, h1, h2, rfl⟩
  have hq : ∀ n : Nat, n < 256 → eqc (between n n) noSet = false := fun n h => by
    cases he : eqc (between n n) noSet with
    | false => rfl
    | true =>
      exfalso
      rw [eqc_iff] at he
      have := he n h
      unfold between noSet at this
      simp at this
  have h := print_rx ⟨4, noSet, 0, 0, 0, exF⟩ _ W S hS hT.1.1 hT.lt ⟨rfl, rfl, .inr (.inl ⟨.inr rfl, rfl, rfl, Nat.le_refl 2⟩)⟩
    ⟨⟨rfl, rfl, .inl ⟨rfl, hq 97 (by decide), rfl, rfl⟩⟩, .inr (.inl ⟨rfl, .inl rfl⟩), by decide, trivial,
     ⟨rfl, rfl, .inr (.inl ⟨.inl rfl, rfl, rfl, Nat.le_refl 2⟩)⟩, .inr (.inl ⟨rfl, .inr (.inl rfl)⟩), by decide,
     ⟨⟨rfl, rfl, .inl ⟨rfl, hq 98 (by decide), rfl, rfl⟩⟩, .inl ⟨rfl, .inl rfl⟩, by decide, trivial,
      ⟨rfl, rfl, .inr (.inr ⟨rfl, rfl, rfl, rfl⟩)⟩, .inl ⟨rfl, .inr rfl⟩, by decide,
      ⟨⟨rfl, rfl, .inl ⟨rfl, hq 99 (by decide), rfl, rfl⟩⟩, .inr (.inr ⟨rfl, rfl⟩), by decide, trivial, trivial⟩, trivial⟩, trivial⟩
    (by decide) (fun h => absurd h (by decide))
    ⟨ho 97 (by decide) (by decide), trivial, (fun h => absurd h (by decide)), ⟨ho 98 (by decide) (by decide), trivial, (fun h => absurd h (by decide)), ⟨ho 99 (by decide) (by decide), trivial, trivial⟩, trivial⟩, trivial⟩
    (by show (prN 4 noSet exF).length ≤ 256; rw [exP]; decide)
  have h : Calls Tryz.prog 15 #[.agg #[.int .i64 4, .int .u64 (wd noSet 0 64 : Nat), .int .u64 (wd noSet 64 64 : Nat), .int .u64 (wd noSet 128 64 : Nat), .int .u64 (wd noSet 192 64 : Nat), .int .i64 0, .int .i64 0, .int .i64 0, .slice ad 2 cap]] W fun e w' => e = .returned (.tuple #[.string ⟨(prN 4 noSet exF).toArray⟩, .int .i64 0]) ∧ Below W.heap.size W w' := h
  rw [wd_noSet.1, wd_noSet.2.1, wd_noSet.2.2.1, wd_noSet.2.2.2, exP] at h
  exact h
set_option maxRecDepth 100000 in
set_option maxHeartbeats 8000000 in
theorem aw_rx (w : World) (hT : TB w) : Calls Tryz.prog 10 #[] w fun e w' => e = .returned (.bool true) ∧ Below w.heap.size w w' := by
  have HT := Lib.hid hT
  have HP1 := Lib.hid ex_parse1
  have HP2 := Lib.hid ex_parse2
  have HP3 := Lib.hid ex_parse3
  have HPr := Lib.hid ex_print
  have H0 := Lib.hid (Below.refl w.heap.size w)
  clear hT
  go_enter Tryz.func10, Tryz.ntmps10
  go_upto_region 2 with (first
    | (go_at_call 17; refine (default_any _).mono ?_; rintro e w1 ⟨x1, y1, _, rfl, hM, hb⟩; have HM1 := Lib.hid hM; have HD1 := Lib.hid (H0.out.trans (hb.mono H0.out.size)); clear hM hb)
    | (go_at_call 11; (with_reducible refine (HP1.out _ _ _ HM1.out (HT.out.keep HD1.out)).mono ?_); rintro e v1 ⟨ad1, cap1, rfl, hsv, hb⟩; have HV1 := Lib.hid hsv; have HE1 := Lib.hid (HD1.out.trans (hb.mono HD1.out.size)); clear hsv hb)
    )
  have hbn := HE1.out.alloc HE1.out.size (.cells #[.int .i64 4, .int .u64 0, .int .u64 0, .int .u64 0, .int .u64 0, .int .i64 0, .int .i64 0, .int .i64 0, .slice ad1 2 cap1] 35)
  have hrn : RN (v1.alloc (.cells #[.int .i64 4, .int .u64 0, .int .u64 0, .int .u64 0, .int .u64 0, .int .i64 0, .int .i64 0, .int .i64 0, .slice ad1 2 cap1] 35)) v1.heap.size #[.int .i64 4, .int .u64 0, .int .u64 0, .int .u64 0, .int .u64 0, .int .i64 0, .int .i64 0, .int .i64 0, .slice ad1 2 cap1] := heap_alloc_new v1 _
  have hsn := HV1.out.far (Afar.below ((Below.refl v1.heap.size v1).alloc (Nat.le_refl _) (.cells #[.int .i64 4, .int .u64 0, .int .u64 0, .int .u64 0, .int .u64 0, .int .i64 0, .int .i64 0, .int .i64 0, .slice ad1 2 cap1] 35)))
  have hlb : v1.heap.size < (v1.alloc (.cells #[.int .i64 4, .int .u64 0, .int .u64 0, .int .u64 0, .int .u64 0, .int .i64 0, .int .i64 0, .int .i64 0, .slice ad1 2 cap1] 35)).heap.size := by simp
  generalize (v1.alloc (.cells #[.int .i64 4, .int .u64 0, .int .u64 0, .int .u64 0, .int .u64 0, .int .i64 0, .int .i64 0, .int .i64 0, .slice ad1 2 cap1] 35)) = u1 at hbn hrn hsn hlb ⊢
  generalize v1.heap.size = eb at hrn hlb ⊢
  have HBw := Lib.hid hbn
  have HRn := Lib.hid hrn
  have HSn := Lib.hid hsn
  have HT1 := Lib.hid (HT.out.keep hbn)
  have HU0 := Lib.hid (Below.refl u1.heap.size u1)
  have a0 : u1.cell? ⟨eb, 0, none⟩ = some (.int .i64 4) := hrn.cell 0
  have a1 : u1.cell? ⟨eb, 1, none⟩ = some (.int .u64 0) := hrn.cell 1
  have a2 : u1.cell? ⟨eb, 2, none⟩ = some (.int .u64 0) := hrn.cell 2
  have a3 : u1.cell? ⟨eb, 3, none⟩ = some (.int .u64 0) := hrn.cell 3
  have a4 : u1.cell? ⟨eb, 4, none⟩ = some (.int .u64 0) := hrn.cell 4
  have a5 : u1.cell? ⟨eb, 5, none⟩ = some (.int .i64 0) := hrn.cell 5
  have a6 : u1.cell? ⟨eb, 6, none⟩ = some (.int .i64 0) := hrn.cell 6
  have a7 : u1.cell? ⟨eb, 7, none⟩ = some (.int .i64 0) := hrn.cell 7
  have a8 : u1.cell? ⟨eb, 8, none⟩ = some (.slice ad1 2 cap1) := hrn.cell 8
  clear hbn hrn hsn HM1 HD1 HV1 HE1
  go_upto_region 3 with (first
    | (go_at_call 15; (with_reducible refine (HPr.out _ _ _ _ HSn.out HT1.out).mono ?_); rintro e u2 ⟨rfl, hb⟩; have HU2 := Lib.hid hb; clear hb)
    )
  clear a0 a1 a2 a3 a4 a5 a6 a7 a8
  go_upto_region 4 with (first
    | (go_at_call 17; refine (default_any _).mono ?_; rintro e w3 ⟨x3, y3, _, rfl, hM, hb⟩; have HM3 := Lib.hid hM; have HD3 := Lib.hid (HU2.out.trans (hb.mono HU2.out.size)); clear hM hb)
    | (go_at_call 11; (with_reducible refine (HP2.out _ _ _ HM3.out (HT1.out.keep HD3.out)).mono ?_); rintro e v3 ⟨ad3, cap3, rfl, hsv, hb⟩; have HV3 := Lib.hid hsv; have HE3 := Lib.hid (HD3.out.trans (hb.mono HD3.out.size)); clear hsv hb)
    )
  have HU3 := Lib.hid (HE3.out.alloc HE3.out.size (.cells #[.int .i64 0, .int .u64 0, .int .u64 0, .int .u64 0, .int .u64 0, .int .i64 0, .int .i64 0, .int .i64 0, .slice ad3 0 cap3] 35))
  generalize (v3.alloc (.cells #[.int .i64 0, .int .u64 0, .int .u64 0, .int .u64 0, .int .u64 0, .int .i64 0, .int .i64 0, .int .i64 0, .slice ad3 0 cap3] 35)) = u3 at HU3 ⊢
  clear HM3 HD3 HV3 HE3
  go_upto_region 5 with (first
    | (go_at_call 17; refine (default_any _).mono ?_; rintro e w4 ⟨x4, y4, _, rfl, hM, hb⟩; have HM4 := Lib.hid hM; have HD4 := Lib.hid (HU3.out.trans (hb.mono HU3.out.size)); clear hM hb)
    | (go_at_call 11; (with_reducible refine (HP3.out _ _ _ HM4.out (HT1.out.keep HD4.out)).mono ?_); rintro e v4 ⟨ad4, cap4, rfl, hsv, hb⟩; have HV4 := Lib.hid hsv; have HE4 := Lib.hid (HD4.out.trans (hb.mono HD4.out.size)); clear hsv hb)
    )
  have HU4 := Lib.hid (HE4.out.alloc HE4.out.size (.cells #[.int .i64 0, .int .u64 0, .int .u64 0, .int .u64 0, .int .u64 0, .int .i64 0, .int .i64 0, .int .i64 0, .slice ad4 0 cap4] 35))
  generalize (v4.alloc (.cells #[.int .i64 0, .int .u64 0, .int .u64 0, .int .u64 0, .int .u64 0, .int .i64 0, .int .i64 0, .int .i64 0, .slice ad4 0 cap4] 35)) = u4 at HU4 ⊢
  have hr4 := HRn.out.below HU4.out
  have a0 : u4.cell? ⟨eb, 0, none⟩ = some (.int .i64 4) := hr4.cell 0
  have a8 : u4.cell? ⟨eb, 8, none⟩ = some (.slice ad1 2 cap1) := hr4.cell 8
  clear HM4 HD4 HV4 HE4 hr4
  go_wp2
  go_ret
  exact ⟨rfl, HBw.out.trans (HU4.out.mono HBw.out.size)⟩
end Go.Proofs.YtphiaagppcbefaaGreatDoor
set_option linter.unusedVariables false
namespace Go.Proofs.YtphiaagppcbefaaGreatDoor
open Go.RowKit
def NoB (s : ByteArray) : Prop := ∀ i, i < s.size → (gb s i).toNat ≠ 92 ∧ (gb s i).toNat ≠ 91
instance (s : ByteArray) : Decidable (NoB s) := by unfold NoB; infer_instance
def ParX (W : World) (r : TN × Int × Nat) (e : Ending) (w' : World) : Prop := ∃ ad cap, e = .returned (.tuple #[.agg #[.int .i64 r.1.op, .int .u64 (wd r.1.st 0 64 : Nat), .int .u64 (wd r.1.st 64 64 : Nat), .int .u64 (wd r.1.st 128 64 : Nat), .int .u64 (wd r.1.st 192 64 : Nat), .int .i64 r.1.lo, .int .i64 r.1.hi, .int .i64 r.1.g, .slice ad r.1.args.len cap], .int .i64 r.2.1, .int .i64 (r.2.2 : Int)]) ∧ SV w' (Frm W.heap.size) r.1.args (.slice ad r.1.args.len cap) ∧ Below W.heap.size W w'
theorem par_x (s : ByteArray) (fl : Int) (W : World) (x y : Nat) (hM : LocM W Ldef (.slice (some ⟨x, 0, none⟩) 256 y) (.slice none 0 0) (.slice none 0 0)) (hT : TB W) (r : TN × Int × Nat) (hr : parT ⟨s, fl, Ldef⟩ = r) :
    Calls Tryz.prog 11 #[.string s, .int .i64 fl, (.agg (lcl Ldef (.slice (some ⟨x, 0, none⟩) 256 y) (.slice none 0 0) (.slice none 0 0)))] W (ParX W r) := by
  refine (parse_rx W ⟨s, fl, Ldef⟩ ⟨_, _, _⟩ hM hT.1 hT.2).mono ?_
  rw [hr]
  rintro e w' ⟨v, rfl, ⟨sv, rfl, hsv⟩, hb⟩
  obtain ⟨ad, cap, rfl⟩ := slice_form hsv
  exact ⟨ad, cap, rfl, hsv, hb⟩
end Go.Proofs.YtphiaagppcbefaaGreatDoor
set_option linter.unusedVariables false
namespace Go.Proofs.YtphiaagppcbefaaGreatDoor
open Go.RowKit
def groE (c : CX) (q : PS) (k : Nat) : PS := cloP (if (accT c 41 q).1 = true then (accT c 41 q).2 else unexT c (accT c 41 q).2) k
theorem fin_mr {c : CX} {b : Bool × PS} (g : Gd c b.2) : MR c b.2 (if b.1 = true then b.2 else unexT c b.2) := by
  split
  · exact MR.refl g
  · exact (mr_unex g).1
theorem lat_clo {k n : Nat} {q : PS} (h : Lat k q) : Lat k (cloP q n) := h
section
variable {s t : ByteArray} {m : Nat} {fl : Int} {L : Loc}
theorem rs_clo {n : Nat} {q q' : PS} (h : RS m q q') : RS m (cloP q n) (cloP q' n) := by
  rcases h with ⟨h, h0, h1⟩ | h | h | h
  · have e : q' = q := (Prod.mk.inj h).2
    rw [e]
    exact RV.same (r := ((), cloP q n)) h0 h1
  · exact .inr (.inl h)
  · exact .inr (.inr (.inl h))
  · exact .inr (.inr (.inr h))
theorem rs_groE (hp : Pre s t m) {q q' : PS} (gC : Gd ⟨s, fl, L⟩ q) (gD : Gd ⟨t, fl, L⟩ q') (h : RNN s fl L m q q') (k : Nat) : RS m (groE ⟨s, fl, L⟩ q k) (groE ⟨t, fl, L⟩ q' k) := by
  unfold groE
  apply rs_clo
  rcases h with h | ⟨⟨e0, e1, e2, e3⟩, hx⟩
  · have ha := rv_acc hp 41 (by decide) gC gD h
    have gC1 := MR.gd gC (mr_acc gC 41 (by decide) (by decide)).1
    have gD1 := MR.gd gD (mr_acc gD 41 (by decide) (by decide)).1
    generalize accT ⟨s, fl, L⟩ 41 q = b at *
    generalize accT ⟨t, fl, L⟩ 41 q' = b' at *
    by_cases hA : (b' = b ∧ b.2.err = 0) ∧ b.2.at_ ≤ m ∧ b.1 = true
    · obtain ⟨⟨rfl, h0⟩, h1, h2⟩ := hA
      rw [if_pos h2, if_pos h2]
      exact RV.same (r := ((), b'.2)) h0 h1
    · refine RV.step (r := b) (r' := b') (q := ((), _)) (q' := ((), _)) lx_ld (fin_mr gC1) (fin_mr gD1) (fun h0 hm => ?_) (fun e h0 hm => ?_) ha
      · split
        · exact .inl ⟨h0, hm⟩
        · exact .inr (unex_end hp h0 hm)
      · subst e
        have h2 : ¬ b'.1 = true := fun h2 => hA ⟨⟨rfl, h0⟩, Nat.le_of_lt hm, h2⟩
        rw [if_neg h2, if_neg h2]
        exact (unex_same hp gC1.st h0 hm).wide
  · have : accT ⟨s, fl, L⟩ 41 q = (true, pastT ⟨s, fl, L⟩ q) := by unfold accT; rw [if_pos e2]
    rw [this, if_pos rfl]
    exact .inr (.inr (.inr (.inl ⟨e0, by show m + 1 ≤ q.at_ + szT ⟨s, fl, L⟩ q; omega⟩)))
theorem gnG : ∀ (n : Nat) (c : CX) (p q : PS), Gn n p → MR c p q → Gn n q := fun n c p q h k => h.mr k
theorem gro_unf (c : CX) (n : Nat) {p : PS} (h9 : p.gr ≠ 9) (hk : kdT c p = 40) : (groT c (n + 1) p).2 = groE c (insW c (groT c n) (begP (pastT c (opnP p)))).2 (p.gr + 1) := by
  have hk2 : kdT c (opnP p) = 40 := by
    have : tokT c (opnP p) = tokT c p := kd_same rfl rfl
    unfold kdT
    rw [this]
    exact hk
  have ha : accT c 40 (opnP p) = (true, pastT c (opnP p)) := by
    unfold accT
    rw [if_pos hk2]
  unfold groT groE
  rw [if_neg h9, ha]
theorem gro_beg {c : CX} {p : PS} (g : Gd c p) (h9 : p.gr ≠ 9) (hk : kdT c p = 40) : Gd c (begP (pastT c (opnP p))) ∧ (pastT c (opnP p)).at_ = p.at_ + szT c p := by
  have h9' := g.gr
  have hop : Gd c (opnP p) := ⟨g.at_, g.st, by show p.gr + 1 ≤ 9; omega, by show p.opn + 1 ≤ p.gr + 1; have := g.opn; omega⟩
  have ht : tokT c (opnP p) = tokT c p := kd_same rfl rfl
  have hk2 : kdT c (opnP p) = 40 := by
    unfold kdT
    rw [ht]
    exact hk
  have hb := mr_past hop (by rw [hk2]; decide) (by rw [hk2]; decide)
  refine ⟨⟨hb.1.b, Nat.le_refl _, hop.gr, hop.opn⟩, ?_⟩
  show p.at_ + szT c (opnP p) = _
  unfold szT
  rw [ht]
theorem grp2 (hp : Pre s t m) : ∀ n, Grp2 s t m fl L (Gn n) (groT ⟨s, fl, L⟩ n) (groT ⟨t, fl, L⟩ n)
  | 0 => ⟨gro_mr _ 0, gro_mr _ 0, fun q gC _ g _ _ _ _ _ => by have h1 : 10 ≤ q.gr + 0 := g; have := gC.gr; omega, fun q gC g _ _ => by have h1 : 10 ≤ q.gr + 0 := g; have := gC.gr; omega⟩
  | n + 1 => by
    refine ⟨gro_mr _ (n + 1), gro_mr _ (n + 1), fun q gC gD g h0 hm hk ht hz => ?_, fun q gC g h0 hk => ?_⟩
    · have hkD : kdT ⟨t, fl, L⟩ q = 40 := by unfold kdT; rw [ht]; exact hk
      by_cases h9 : q.gr = 9
      · unfold groT
        rw [if_pos h9, if_pos h9]
        exact RV.fail h0 3 (by decide) _
      · rw [gro_unf _ n h9 hk, gro_unf _ n h9 hkD]
        have bC := gro_beg gC h9 hk
        have bD := gro_beg gD h9 hkD
        have hsz : szT ⟨t, fl, L⟩ q = szT ⟨s, fl, L⟩ q := by unfold szT; rw [ht]
        have hsame : begP (pastT ⟨t, fl, L⟩ (opnP q)) = begP (pastT ⟨s, fl, L⟩ (opnP q)) := by
          have e1 : szT ⟨t, fl, L⟩ (opnP q) = szT ⟨t, fl, L⟩ q := by unfold szT; rw [show tokT ⟨t, fl, L⟩ (opnP q) = tokT ⟨t, fl, L⟩ q from kd_same rfl rfl]
          have e2 : szT ⟨s, fl, L⟩ (opnP q) = szT ⟨s, fl, L⟩ q := by unfold szT; rw [show tokT ⟨s, fl, L⟩ (opnP q) = tokT ⟨s, fl, L⟩ q from kd_same rfl rfl]
          unfold pastT
          rw [e1, e2, hsz]
        have gn : Gn n (begP (pastT ⟨s, fl, L⟩ (opnP q))) := by
          have : 10 ≤ q.gr + (n + 1) := g
          show 10 ≤ q.gr + 1 + n
          omega
        rw [hsame] at bD ⊢
        have hi := rn_ins hp (grp2 hp n) (gnG n) bC.1 bD.1 gn (show (begP (pastT ⟨s, fl, L⟩ (opnP q))).err = 0 from h0) (by show (pastT ⟨s, fl, L⟩ (opnP q)).at_ ≤ m; rw [bC.2]; exact hz)
        exact rs_groE hp (MR.gd bC.1 (ins_mr (gro_mr _ n) (gnG n _) bC.1 gn)) (MR.gd bD.1 (ins_mr (gro_mr _ n) (gnG n _) bD.1 gn)) hi _
    · by_cases h9 : q.gr = 9
      · unfold groT
        rw [if_pos h9]
        unfold failT
        rw [if_pos h0]
        exact .inr ⟨(by decide : (3 : Int) ≠ 0), fun e => absurd e (by decide : (3 : Int) ≠ 1)⟩
      · rw [gro_unf _ n h9 hk]
        have bC := gro_beg gC h9 hk
        have gn : Gn n (begP (pastT ⟨s, fl, L⟩ (opnP q))) := by
          have : 10 ≤ q.gr + (n + 1) := g
          show 10 ≤ q.gr + 1 + n
          omega
        have hi := ins_mr (gro_mr ⟨s, fl, L⟩ n) (gnG n _) bC.1 gn
        have gi := MR.gd bC.1 hi
        have ha := (mr_acc gi 41 (by decide) (by decide)).1
        refine lat_clo (Lat.of (p := begP (pastT ⟨s, fl, L⟩ (opnP q))) h0 ?_ ((hi.trans ha).trans (fin_mr (MR.gd gi ha))))
        show q.at_ + szT ⟨s, fl, L⟩ q ≤ (pastT ⟨s, fl, L⟩ (opnP q)).at_
        rw [bC.2]
        exact Nat.le_refl _
theorem gd0 (c : CX) : Gd c PS0 := ⟨Nat.zero_le _, Nat.le_refl _, Nat.zero_le _, Nat.le_refl _⟩
theorem gn0 : Gn 10 PS0 := Nat.le_refl 10
theorem top_pre (hp : Pre s t m) : RNN s fl L m (uniW ⟨s, fl, L⟩ (groT ⟨s, fl, L⟩ 10) PS0).2 (uniW ⟨t, fl, L⟩ (groT ⟨t, fl, L⟩ 10) PS0).2 :=
  rn_uni hp (grp2 hp 10) (gnG 10) (gd0 _) (gd0 _) gn0 rfl (Nat.zero_le _)
theorem top_mr (c : CX) : MR c PS0 (uniW c (groT c 10) PS0).2 := uni_mr (gro_mr c 10) (gnG 10 c) (gd0 c) gn0
theorem par_zero (c : CX) (h : (parT c).2.1 = 0) : (parT c).2.2 = 0 := by
  unfold parT at h ⊢
  split
  · rename_i h1; rw [if_pos h1] at h; exact absurd h (by decide)
  split
  · rfl
  rename_i h1 h2
  rw [if_neg h1, if_neg h2] at h
  dsimp only at h ⊢
  split
  · rename_i h3; rw [if_pos h3] at h; exact absurd h h3
  split <;> rfl
theorem par_at (c : CX) (hs : c.s.size ≤ 256) (h : (parT c).2.1 ≠ 0) : (parT c).2.2 ≤ c.s.size := by
  unfold parT at h ⊢
  rw [if_neg (by omega)] at h ⊢
  by_cases h2 : c.s.size = 0
  · rw [if_pos h2] at h
    exact absurd rfl h
  rw [if_neg h2] at h ⊢
  dsimp only at h ⊢
  have hm := top_mr c
  by_cases h3 : (uniW c (groT c 10) PS0).2.err ≠ 0
  · rw [if_pos h3]
    rcases hm.fr rfl with h4 | ⟨_, h4, _⟩
    · exact absurd h4 h3
    · exact h4
  · rw [if_neg h3]
    split <;> exact Nat.zero_le _
theorem par_one (c : CX) (hs : c.s.size ≤ 256) (h : (parT c).2.1 = 1) : c.s.size ≠ 0 ∧ (uniW c (groT c 10) PS0).2.err = 1 ∧ (uniW c (groT c 10) PS0).2.ea = (parT c).2.2 := by
  unfold parT at h ⊢
  rw [if_neg (by omega)] at h ⊢
  by_cases h2 : c.s.size = 0
  · rw [if_pos h2] at h
    exact absurd h (by decide)
  rw [if_neg h2] at h ⊢
  dsimp only at h ⊢
  by_cases h3 : (uniW c (groT c 10) PS0).2.err ≠ 0
  · rw [if_pos h3] at h ⊢
    exact ⟨h2, h, rfl⟩
  · rw [if_neg h3] at h
    split at h
    · exact absurd h (show ¬ (3 : Int) = 1 by decide)
    · exact absurd h (show ¬ (0 : Int) = 1 by decide)
theorem par_of_err (c : CX) (hs : c.s.size ≤ 256) (h0 : c.s.size ≠ 0) (h : (uniW c (groT c 10) PS0).2.err ≠ 0) : parT c = (T0, (uniW c (groT c 10) PS0).2.err, (uniW c (groT c 10) PS0).2.ea) := by
  unfold parT
  rw [if_neg (by omega), if_neg h0]
  dsimp only
  rw [if_pos h]
theorem par_of_ok (c : CX) (hs : c.s.size ≤ 256) (h : c.s.size = 0 ∨ (uniW c (groT c 10) PS0).2.err = 0) : (parT c).2.1 = 0 ∨ (parT c).2.1 = 3 := by
  unfold parT
  rw [if_neg (by omega)]
  by_cases h2 : c.s.size = 0
  · rw [if_pos h2]
    exact .inl rfl
  rw [if_neg h2]
  dsimp only
  rw [if_neg (by rcases h with h | h; exact absurd h h2; simpa using h)]
  split
  · exact .inr rfl
  · exact .inl rfl
theorem stop_here (hs : s.size ≤ 256) {at_ : Nat} (h1 : (parT ⟨s, fl, L⟩).2.1 = 1) (h2 : (parT ⟨s, fl, L⟩).2.2 = at_) (hlt : at_ < s.size) (hp : Pre s t (at_ + 1)) : (parT ⟨t, fl, L⟩).2.1 = 1 ∧ (parT ⟨t, fl, L⟩).2.2 = at_ := by
  obtain ⟨a0, a1, a2⟩ := par_one ⟨s, fl, L⟩ hs h1
  rw [h2] at a2
  have hn := top_pre (fl := fl) (L := L) hp
  have hz := hp.size
  rcases hn with (⟨_, h, _⟩ | ⟨_, h3, h4⟩ | ⟨h, _⟩ | h) | ⟨⟨h, _⟩, _⟩
  · have h : (uniW ⟨s, fl, L⟩ (groT ⟨s, fl, L⟩ 10) PS0).2.err = 0 := h
    rw [a1] at h; cases h
  · have h3 : (uniW ⟨t, fl, L⟩ (groT ⟨t, fl, L⟩ 10) PS0).2.err = (uniW ⟨s, fl, L⟩ (groT ⟨s, fl, L⟩ 10) PS0).2.err := h3
    have h4 : (uniW ⟨t, fl, L⟩ (groT ⟨t, fl, L⟩ 10) PS0).2.ea = (uniW ⟨s, fl, L⟩ (groT ⟨s, fl, L⟩ 10) PS0).2.ea := h4
    rw [a1] at h3
    rw [a2] at h4
    rw [par_of_err ⟨t, fl, L⟩ (by show t.size ≤ 256; omega) (by show t.size ≠ 0; omega) (by rw [h3]; decide), h3, h4]
    exact ⟨rfl, rfl⟩
  · rcases h with ⟨h, _⟩ | ⟨_, h⟩
    · have h : (uniW ⟨s, fl, L⟩ (groT ⟨s, fl, L⟩ 10) PS0).2.err = 0 := h
      rw [a1] at h; cases h
    · have h : at_ + 1 ≤ (uniW ⟨s, fl, L⟩ (groT ⟨s, fl, L⟩ 10) PS0).2.ea := h a1
      omega
  · rcases h with ⟨h, _⟩ | ⟨_, h⟩
    · have h : (uniW ⟨s, fl, L⟩ (groT ⟨s, fl, L⟩ 10) PS0).2.err = 0 := h
      rw [a1] at h; cases h
    · have h : at_ + 1 + 1 ≤ (uniW ⟨s, fl, L⟩ (groT ⟨s, fl, L⟩ 10) PS0).2.ea := h a1
      omega
  · rw [a1] at h; cases h
theorem stop_before (hs : s.size ≤ 256) {at_ : Nat} (h1 : (parT ⟨s, fl, L⟩).2.1 = 1) (h2 : (parT ⟨s, fl, L⟩).2.2 = at_) (hp : Pre s t at_) : ((parT ⟨t, fl, L⟩).2.1 = 0 ∨ (parT ⟨t, fl, L⟩).2.1 = 3) ∨ ((parT ⟨t, fl, L⟩).2.1 = 1 ∧ (parT ⟨t, fl, L⟩).2.2 = at_) := by
  obtain ⟨a0, a1, a2⟩ := par_one ⟨s, fl, L⟩ hs h1
  rw [h2] at a2
  have hz := hp.size
  have hle := hp.le
  have hst : (⟨t, fl, L⟩ : CX).s.size ≤ 256 := by show t.size ≤ 256; omega
  by_cases hz0 : t.size = 0
  · exact .inl (par_of_ok ⟨t, fl, L⟩ hst (.inl hz0))
  have hn := top_pre (fl := fl) (L := L) hp
  have hx : Lx at_ (uniW ⟨t, fl, L⟩ (groT ⟨t, fl, L⟩ 10) PS0).2 → ((parT ⟨t, fl, L⟩).2.1 = 1 ∧ (parT ⟨t, fl, L⟩).2.2 = at_) := fun h => by
    rw [par_of_err ⟨t, fl, L⟩ hst hz0 (by rw [h.1]; decide), h.1, h.2]
    exact ⟨rfl, rfl⟩
  rcases hn with (⟨_, h, _⟩ | ⟨_, h3, h4⟩ | ⟨_, h | h⟩ | h) | ⟨⟨h, _⟩, _⟩
  · have h : (uniW ⟨s, fl, L⟩ (groT ⟨s, fl, L⟩ 10) PS0).2.err = 0 := h
    rw [a1] at h; cases h
  · have h3 : (uniW ⟨t, fl, L⟩ (groT ⟨t, fl, L⟩ 10) PS0).2.err = (uniW ⟨s, fl, L⟩ (groT ⟨s, fl, L⟩ 10) PS0).2.err := h3
    have h4 : (uniW ⟨t, fl, L⟩ (groT ⟨t, fl, L⟩ 10) PS0).2.ea = (uniW ⟨s, fl, L⟩ (groT ⟨s, fl, L⟩ 10) PS0).2.ea := h4
    exact .inr (hx ⟨h3.trans a1, h4.trans a2⟩)
  · exact .inl (par_of_ok ⟨t, fl, L⟩ hst (.inr h.1))
  · exact .inr (hx h)
  · rcases h with ⟨h, _⟩ | ⟨_, h⟩
    · have h : (uniW ⟨s, fl, L⟩ (groT ⟨s, fl, L⟩ 10) PS0).2.err = 0 := h
      rw [a1] at h; cases h
    · have h : at_ + 1 ≤ (uniW ⟨s, fl, L⟩ (groT ⟨s, fl, L⟩ 10) PS0).2.ea := h a1
      omega
  · rw [a1] at h; cases h
theorem pre_ext (s : ByteArray) (m : Nat) (h : m ≤ s.size) : Pre s (s.extract 0 m) m := by
  have hz : (s.extract 0 m).size = m := by rw [ByteArray.size_extract]; omega
  refine ⟨hz, h, fun i hi => ?_⟩
  have h1 : (s.extract 0 m).data.toList[i]? = s.data.toList[i]? := by
    rw [ext_data, List.getElem?_take, List.drop_zero]
    rw [if_pos (by omega)]
  rw [gb_list, gb_list, if_pos (by rw [hz]; exact hi), if_pos (by omega)] at h1
  exact Option.some.inj h1
end
end Go.Proofs.YtphiaagppcbefaaGreatDoor
