/- RxS, RxJ. -/
import Derived.Test.YtphiaagppcbefaaGreatDoorPk26
import Derived.StillTailTactics
import Derived.Deep.CutRange
import Derived.Deep.Cut
import Derived.Deep.DeepCutAuto
import Derived.Test.YtphiaagppcbefaaGreatDoorPk21
import Derived.Deep.RegionHeld3
import Derived.Laws.Concat
set_option linter.unusedVariables false
namespace Go.Proofs.YtphiaagppcbefaaGreatDoor
open Go.RowKit
theorem PM.opened {w : World} {B : Nat} {c : CX} {V : LV} {p : PS} (h : PM w B c V p) (h9 : p.gr ≠ 9) : Stp w B c V (opnP p) ((w.setCell ⟨B, 10, none⟩ (.int .i64 ((p.gr + 1 : Nat) : Int))).setCell ⟨B, 11, none⟩ (.int .i64 ((p.opn + 1 : Nat) : Int))) := by
  have ho : Only B w ((w.setCell ⟨B, 10, none⟩ (.int .i64 ((p.gr + 1 : Nat) : Int))).setCell ⟨B, 11, none⟩ (.int .i64 ((p.opn + 1 : Nat) : Int))) := ((Only.refl B w).put 10 _).put 11 _
  exact ⟨⟨(h.pa.putGr (p.gr + 1)).putOp (p.opn + 1), h.lk.only ho, h.sz, h.at_, h.st, by show p.gr + 1 ≤ 9; have := h.gr; omega, by show p.opn + 1 ≤ p.gr + 1; have := h.opn; omega⟩, ho⟩
theorem PM.begun {w : World} {B : Nat} {c : CX} {V : LV} {p : PS} (h : PM w B c V p) : Stp w B c V (begP p) (w.setCell ⟨B, 9, none⟩ (.int .i64 (p.at_ : Int))) :=
  ⟨⟨h.pa.putSt p.at_, h.lk.only ((Only.refl B w).put 9 _), h.sz, h.at_, Nat.le_refl _, h.gr, h.opn⟩, (Only.refl B w).put 9 _⟩
theorem PA.putCl {w : World} {B : Nat} {c : CX} {V : LV} {p : PS} (h : PA w B c V p) (k : Nat) (hk : k < 10) : PA (w.setCell ⟨B, 12 + k, none⟩ (.bool true)) B c V { p with cl := fun j => if j = k then true else p.cl j } := by
  have : k = 0 ∨ k = 1 ∨ k = 2 ∨ k = 3 ∨ k = 4 ∨ k = 5 ∨ k = 6 ∨ k = 7 ∨ k = 8 ∨ k = 9 := by omega
  rcases this with rfl | rfl | rfl | rfl | rfl | rfl | rfl | rfl | rfl | rfl
  · exact h.put 12 _
  · exact h.put 13 _
  · exact h.put 14 _
  · exact h.put 15 _
  · exact h.put 16 _
  · exact h.put 17 _
  · exact h.put 18 _
  · exact h.put 19 _
  · exact h.put 20 _
  · exact h.put 21 _
theorem PM.shut {w : World} {B : Nat} {c : CX} {V : LV} {p : PS} (h : PM w B c V p) (k : Nat) (hk : k < 10) : Stp w B c V (cloP p k) ((w.setCell ⟨B, 11, none⟩ (.int .i64 ((p.opn - 1 : Nat) : Int))).setCell ⟨B, 12 + k, none⟩ (.bool true)) := by
  have ho : Only B w ((w.setCell ⟨B, 11, none⟩ (.int .i64 ((p.opn - 1 : Nat) : Int))).setCell ⟨B, 12 + k, none⟩ (.bool true)) := ((Only.refl B w).put 11 _).put (12 + k) _
  exact ⟨⟨(h.pa.putOp (p.opn - 1)).putCl k hk, h.lk.only ho, h.sz, h.at_, h.st, h.gr, by show p.opn - 1 ≤ p.gr; have := h.opn; omega⟩, ho⟩
set_option maxRecDepth 100000 in
set_option maxHeartbeats 8000000 in
theorem grd_y (w : World) (B : Nat) (c : CX) (V : LV) (p : PS) (h : PM w B c V p) (n : Nat) (grp : PS → TN × PS) (hgrp : GrpOk c (Gn n) grp) (hG : Gn n p) (HPie : Hid (∀ W q, PM W B c V q → Gn n q → Calls Tryz.prog 60 #[.pointer (some ⟨B, 0, none⟩)] W (Ret W B c V (pieW c grp q)))) (hE : flg c.fl 1 = true) (hk : kdT c p = 41) :
    Calls Tryz.prog 105 #[.pointer (some ⟨B, 0, none⟩)] w (Ret w B c V ((leafT 1, p))) := by
  have hx : Below w.heap.size w (w.alloc (.cells #[.int .i64 0, .int .u64 0, .int .u64 0, .int .u64 0, .int .u64 0, .int .i64 0, .int .i64 0, .int .i64 0, .slice none 0 0] 35)) := (Below.refl _ _).alloc (Nat.le_refl _) _
  have HS := Lib.hid (Stp.of_below h hx)
  have HR := Lib.hid (RAt.one w #[.int .i64 0, .int .u64 0, .int .u64 0, .int .u64 0, .int .u64 0, .int .i64 0, .int .i64 0, .int .i64 0, .slice none 0 0])
  have HL := Lib.hid h.lt
  have HWZ : Hid (w.heap.size + 1 ≤ (w.alloc (.cells #[.int .i64 0, .int .u64 0, .int .u64 0, .int .u64 0, .int .u64 0, .int .i64 0, .int .i64 0, .int .i64 0, .slice none 0 0] 35)).heap.size) := by show w.heap.size + 1 ≤ _; simp
  have HH := Lib.hid (fun W h => has_is W B c V p h 1 _ hE)
  have HT : Hid (∀ W, PM W B c V p → Calls Tryz.prog 62 #[.pointer (some ⟨B, 0, none⟩)] W fun e w' => e = .returned (.agg #[.int .i32 (kdT c p), .int .u8 (vlT c p), .int .i64 (szT c p : Int)]) ∧ Below W.heap.size W w') := fun W h => token_any W B c V p h
  have HU := Lib.hid (fun W h => union_any_rx W B c V p h n grp hgrp hG HPie)
  have hfd := fldTk0
  have hp := HS.out.1
  obtain ⟨⟨⟨n0, n1, n2⟩, ⟨n3, n4, n5⟩, ⟨n6, n7, n8⟩⟩, nf⟩ := HR.out.all
  rw [hk] at HT
  clear h hx hgrp hG HPie hE hk
  go_enter Tryz.func105, Tryz.ntmps105
  go_wp2_with (first
    | (go_at_call 110; (with_reducible refine (HH.out _ hp).mono ?_); rintro e w' ⟨rfl, rfl⟩)
    | (go_at_call 62; (with_reducible refine (HT.out _ hp).mono ?_); rintro e wa ⟨rfl, hb⟩; have HS := Lib.hid (HS.out.next hb); have HR := Lib.hid (HR.out.below hb); have HWZ := Lib.hid (Nat.le_trans HWZ.out hb.size); clear hp; have hp := HS.out.1; obtain ⟨⟨⟨n0, n1, n2⟩, ⟨n3, n4, n5⟩, ⟨n6, n7, n8⟩⟩, nf⟩ := HR.out.all; clear hb)
    | (go_at_call 24; (with_reducible refine (HU.out _ hp).mono ?_); rintro e w6 ⟨vv, rfl, ht, hs⟩; obtain ⟨sv, rfl, hsv⟩ := ht; obtain ⟨ad, cp, rfl⟩ := slice_form hsv; unfold rowV; have HSV := Lib.hid (hsv.far (Afar.frm (m := w.heap.size + 1) (Below.refl _ _) HWZ.out)); have HR := Lib.hid (HR.out.only hs.2 (by have := HL.out; omega)); have HS := Lib.hid (HS.out.trans hs); obtain ⟨⟨⟨n0, n1, n2⟩, ⟨n3, n4, n5⟩, ⟨n6, n7, n8⟩⟩, nf⟩ := HR.out.all; clear hsv hs)
    )
  refine bodyPost_ret (v := .agg #[.int .i64 1, .int .u64 0, .int .u64 0, .int .u64 0, .int .u64 0, .int .i64 0, .int .i64 0, .int .i64 0, .slice none 0 0]) (ret_re Tryz.results105 _ _ w.heap.size _ rfl (by simp) (HR.out.put9 _ _ _ _ _ _ _ _ _)) rfl ?_
  refine ⟨_, rfl, TV.leaf _ _ 1 0 0 0 noSet, HS.out.put9 HL.out _ (Nat.le_refl _) _ _ _ _ _ _ _ _ _⟩
set_option maxRecDepth 100000 in
set_option maxHeartbeats 8000000 in
theorem grd_n (w : World) (B : Nat) (c : CX) (V : LV) (p : PS) (h : PM w B c V p) (n : Nat) (grp : PS → TN × PS) (hgrp : GrpOk c (Gn n) grp) (hG : Gn n p) (HPie : Hid (∀ W q, PM W B c V q → Gn n q → Calls Tryz.prog 60 #[.pointer (some ⟨B, 0, none⟩)] W (Ret W B c V (pieW c grp q)))) (hE : flg c.fl 1 = true) (hk : kdT c p ≠ 41) :
    Calls Tryz.prog 105 #[.pointer (some ⟨B, 0, none⟩)] w (Ret w B c V (uniW c grp p)) := by
  have hx : Below w.heap.size w (w.alloc (.cells #[.int .i64 0, .int .u64 0, .int .u64 0, .int .u64 0, .int .u64 0, .int .i64 0, .int .i64 0, .int .i64 0, .slice none 0 0] 35)) := (Below.refl _ _).alloc (Nat.le_refl _) _
  have HS := Lib.hid (Stp.of_below h hx)
  have HR := Lib.hid (RAt.one w #[.int .i64 0, .int .u64 0, .int .u64 0, .int .u64 0, .int .u64 0, .int .i64 0, .int .i64 0, .int .i64 0, .slice none 0 0])
  have HL := Lib.hid h.lt
  have HWZ : Hid (w.heap.size + 1 ≤ (w.alloc (.cells #[.int .i64 0, .int .u64 0, .int .u64 0, .int .u64 0, .int .u64 0, .int .i64 0, .int .i64 0, .int .i64 0, .slice none 0 0] 35)).heap.size) := by show w.heap.size + 1 ≤ _; simp
  have HH := Lib.hid (fun W h => has_is W B c V p h 1 _ hE)
  have HT : Hid (∀ W, PM W B c V p → Calls Tryz.prog 62 #[.pointer (some ⟨B, 0, none⟩)] W fun e w' => e = .returned (.agg #[.int .i32 (kdT c p), .int .u8 (vlT c p), .int .i64 (szT c p : Int)]) ∧ Below W.heap.size W w') := fun W h => token_any W B c V p h
  have HU := Lib.hid (fun W h => union_any_rx W B c V p h n grp hgrp hG HPie)
  have hfd := fldTk0
  have hp := HS.out.1
  obtain ⟨⟨⟨n0, n1, n2⟩, ⟨n3, n4, n5⟩, ⟨n6, n7, n8⟩⟩, nf⟩ := HR.out.all
  have r1 : (kdT c p == 41) = false := by simpa using hk
  generalize kdT c p = K at *
  clear h hx hgrp hG HPie hE hk
  go_enter Tryz.func105, Tryz.ntmps105
  go_wp2_with (first
    | (go_at_call 110; (with_reducible refine (HH.out _ hp).mono ?_); rintro e w' ⟨rfl, rfl⟩)
    | (go_at_call 62; (with_reducible refine (HT.out _ hp).mono ?_); rintro e wa ⟨rfl, hb⟩; have HS := Lib.hid (HS.out.next hb); have HR := Lib.hid (HR.out.below hb); have HWZ := Lib.hid (Nat.le_trans HWZ.out hb.size); clear hp; have hp := HS.out.1; obtain ⟨⟨⟨n0, n1, n2⟩, ⟨n3, n4, n5⟩, ⟨n6, n7, n8⟩⟩, nf⟩ := HR.out.all; clear hb)
    | (go_at_call 24; (with_reducible refine (HU.out _ hp).mono ?_); rintro e w6 ⟨vv, rfl, ht, hs⟩; obtain ⟨sv, rfl, hsv⟩ := ht; obtain ⟨ad, cp, rfl⟩ := slice_form hsv; unfold rowV; have HSV := Lib.hid (hsv.far (Afar.frm (m := w.heap.size + 1) (Below.refl _ _) HWZ.out)); have HR := Lib.hid (HR.out.only hs.2 (by have := HL.out; omega)); have HS := Lib.hid (HS.out.trans hs); obtain ⟨⟨⟨n0, n1, n2⟩, ⟨n3, n4, n5⟩, ⟨n6, n7, n8⟩⟩, nf⟩ := HR.out.all; clear hsv hs)
    )
  refine bodyPost_ret (v := .agg #[.int .i64 (uniW c grp p).1.op, .int .u64 (wd (uniW c grp p).1.st 0 64 : Nat), .int .u64 (wd (uniW c grp p).1.st 64 64 : Nat), .int .u64 (wd (uniW c grp p).1.st 128 64 : Nat), .int .u64 (wd (uniW c grp p).1.st 192 64 : Nat), .int .i64 (uniW c grp p).1.lo, .int .i64 (uniW c grp p).1.hi, .int .i64 (uniW c grp p).1.g, .slice ad (uniW c grp p).1.args.len cp]) (ret_re Tryz.results105 _ _ w.heap.size _ rfl (by simp) (HR.out.put9 _ _ _ _ _ _ _ _ _)) rfl ?_
  refine ⟨_, rfl, ⟨_, rfl, HSV.out.far (Afar.put9 _ _ _ _ _ _ _ _ _ fun b hb => ?_)⟩, HS.out.put9 HL.out _ (Nat.le_refl _) _ _ _ _ _ _ _ _ _⟩
  have hb2 : w.heap.size + 1 ≤ b := hb
  exact ⟨by show w.heap.size ≤ b; omega, by omega⟩
set_option maxRecDepth 100000 in
set_option maxHeartbeats 8000000 in
theorem grd_b (w : World) (B : Nat) (c : CX) (V : LV) (p : PS) (h : PM w B c V p) (n : Nat) (grp : PS → TN × PS) (hgrp : GrpOk c (Gn n) grp) (hG : Gn n p) (HPie : Hid (∀ W q, PM W B c V q → Gn n q → Calls Tryz.prog 60 #[.pointer (some ⟨B, 0, none⟩)] W (Ret W B c V (pieW c grp q)))) (hE : flg c.fl 1 = false) :
    Calls Tryz.prog 105 #[.pointer (some ⟨B, 0, none⟩)] w (Ret w B c V (uniW c grp p)) := by
  have hx : Below w.heap.size w (w.alloc (.cells #[.int .i64 0, .int .u64 0, .int .u64 0, .int .u64 0, .int .u64 0, .int .i64 0, .int .i64 0, .int .i64 0, .slice none 0 0] 35)) := (Below.refl _ _).alloc (Nat.le_refl _) _
  have HS := Lib.hid (Stp.of_below h hx)
  have HR := Lib.hid (RAt.one w #[.int .i64 0, .int .u64 0, .int .u64 0, .int .u64 0, .int .u64 0, .int .i64 0, .int .i64 0, .int .i64 0, .slice none 0 0])
  have HL := Lib.hid h.lt
  have HWZ : Hid (w.heap.size + 1 ≤ (w.alloc (.cells #[.int .i64 0, .int .u64 0, .int .u64 0, .int .u64 0, .int .u64 0, .int .i64 0, .int .i64 0, .int .i64 0, .slice none 0 0] 35)).heap.size) := by show w.heap.size + 1 ≤ _; simp
  have HH := Lib.hid (fun W h => has_is W B c V p h 1 _ hE)
  have HT : Hid (∀ W, PM W B c V p → Calls Tryz.prog 62 #[.pointer (some ⟨B, 0, none⟩)] W fun e w' => e = .returned (.agg #[.int .i32 (kdT c p), .int .u8 (vlT c p), .int .i64 (szT c p : Int)]) ∧ Below W.heap.size W w') := fun W h => token_any W B c V p h
  have HU := Lib.hid (fun W h => union_any_rx W B c V p h n grp hgrp hG HPie)
  have hfd := fldTk0
  have hp := HS.out.1
  obtain ⟨⟨⟨n0, n1, n2⟩, ⟨n3, n4, n5⟩, ⟨n6, n7, n8⟩⟩, nf⟩ := HR.out.all
  clear h hx hgrp hG HPie hE 
  go_enter Tryz.func105, Tryz.ntmps105
  go_wp2_with (first
    | (go_at_call 110; (with_reducible refine (HH.out _ hp).mono ?_); rintro e w' ⟨rfl, rfl⟩)
    | (go_at_call 62; (with_reducible refine (HT.out _ hp).mono ?_); rintro e wa ⟨rfl, hb⟩; have HS := Lib.hid (HS.out.next hb); have HR := Lib.hid (HR.out.below hb); have HWZ := Lib.hid (Nat.le_trans HWZ.out hb.size); clear hp; have hp := HS.out.1; obtain ⟨⟨⟨n0, n1, n2⟩, ⟨n3, n4, n5⟩, ⟨n6, n7, n8⟩⟩, nf⟩ := HR.out.all; clear hb)
    | (go_at_call 24; (with_reducible refine (HU.out _ hp).mono ?_); rintro e w6 ⟨vv, rfl, ht, hs⟩; obtain ⟨sv, rfl, hsv⟩ := ht; obtain ⟨ad, cp, rfl⟩ := slice_form hsv; unfold rowV; have HSV := Lib.hid (hsv.far (Afar.frm (m := w.heap.size + 1) (Below.refl _ _) HWZ.out)); have HR := Lib.hid (HR.out.only hs.2 (by have := HL.out; omega)); have HS := Lib.hid (HS.out.trans hs); obtain ⟨⟨⟨n0, n1, n2⟩, ⟨n3, n4, n5⟩, ⟨n6, n7, n8⟩⟩, nf⟩ := HR.out.all; clear hsv hs)
    )
  refine bodyPost_ret (v := .agg #[.int .i64 (uniW c grp p).1.op, .int .u64 (wd (uniW c grp p).1.st 0 64 : Nat), .int .u64 (wd (uniW c grp p).1.st 64 64 : Nat), .int .u64 (wd (uniW c grp p).1.st 128 64 : Nat), .int .u64 (wd (uniW c grp p).1.st 192 64 : Nat), .int .i64 (uniW c grp p).1.lo, .int .i64 (uniW c grp p).1.hi, .int .i64 (uniW c grp p).1.g, .slice ad (uniW c grp p).1.args.len cp]) (ret_re Tryz.results105 _ _ w.heap.size _ rfl (by simp) (HR.out.put9 _ _ _ _ _ _ _ _ _)) rfl ?_
  refine ⟨_, rfl, ⟨_, rfl, HSV.out.far (Afar.put9 _ _ _ _ _ _ _ _ _ fun b hb => ?_)⟩, HS.out.put9 HL.out _ (Nat.le_refl _) _ _ _ _ _ _ _ _ _⟩
  have hb2 : w.heap.size + 1 ≤ b := hb
  exact ⟨by show w.heap.size ≤ b; omega, by omega⟩
theorem grouped_any (w : World) (B : Nat) (c : CX) (V : LV) (p : PS) (h : PM w B c V p) (n : Nat) (grp : PS → TN × PS) (hgrp : GrpOk c (Gn n) grp) (hG : Gn n p) (HPie : Hid (∀ W q, PM W B c V q → Gn n q → Calls Tryz.prog 60 #[.pointer (some ⟨B, 0, none⟩)] W (Ret W B c V (pieW c grp q)))) : Calls Tryz.prog 105 #[.pointer (some ⟨B, 0, none⟩)] w (Ret w B c V (insW c grp p)) := by
  unfold insW
  by_cases hE : flg c.fl 1 = true
  · by_cases hk : kdT c p = 41
    · rw [if_pos ⟨hE, hk⟩]; exact grd_y w B c V p h n grp hgrp hG HPie hE hk
    · rw [if_neg (fun e => hk e.2)]; exact grd_n w B c V p h n grp hgrp hG HPie hE hk
  · rw [if_neg (fun e => hE e.1)]; exact grd_b w B c V p h n grp hgrp hG HPie (by simpa using hE)
end Go.Proofs.YtphiaagppcbefaaGreatDoor
set_option linter.unusedVariables false
namespace Go.Proofs.YtphiaagppcbefaaGreatDoor
open Go.RowKit
theorem PA.lcells {w : World} {B : Nat} {c : CX} {V : LV} {p : PS} (h : PA w B c V p) : ((w.cell? ⟨B, 2, none⟩ = some (.string c.L.name) ∧ w.cell? ⟨B, 3, none⟩ = some V.W ∧ w.cell? ⟨B, 4, none⟩ = some (.string c.L.lower)) ∧ (w.cell? ⟨B, 5, none⟩ = some (.string c.L.upper) ∧ w.cell? ⟨B, 6, none⟩ = some V.C ∧ w.cell? ⟨B, 7, none⟩ = some V.E)) :=
  ⟨⟨h.cell 2, h.cell 3, h.cell 4⟩, ⟨h.cell 5, h.cell 6, h.cell 7⟩⟩
abbrev Fds (w0 : World) (B : Nat) (c : CX) (V : LV) (st : Nat → Bool) (w : World) : Prop :=
  X1s w0 st w ∧ ((w.cell? ⟨B, 2, none⟩ = some (.string c.L.name) ∧ w.cell? ⟨B, 3, none⟩ = some V.W ∧ w.cell? ⟨B, 4, none⟩ = some (.string c.L.lower)) ∧ (w.cell? ⟨B, 5, none⟩ = some (.string c.L.upper) ∧ w.cell? ⟨B, 6, none⟩ = some V.C ∧ w.cell? ⟨B, 7, none⟩ = some V.E)) ∧ LocM w c.L V.W V.C V.E
theorem Fds.of {w0 w : World} {B : Nat} {c : CX} {V : LV} {st : Nat → Bool} {p : PS} (h : X1s w0 st w) (k : PM w B c V p) : Fds w0 B c V st w := ⟨h, k.pa.lcells, k.lk.loc⟩
theorem Fds.keep {w0 w w' : World} {B : Nat} {c : CX} {V : LV} {st : Nat → Bool} (hb : Below w.heap.size w w') (h : Fds w0 B c V st w) : Fds w0 B c V st w' :=
  ⟨h.1.keep hb, ⟨⟨keep_words hb h.2.1.1.1, keep_words hb h.2.1.1.2.1, keep_words hb h.2.1.1.2.2⟩, ⟨keep_words hb h.2.1.2.1, keep_words hb h.2.1.2.2.1, keep_words hb h.2.1.2.2.2⟩⟩, h.2.2.below hb⟩
theorem Fds.put {w0 w : World} {B : Nat} {c : CX} {V : LV} {st : Nat → Bool} (hB : B < w0.heap.size) (hL : ∀ w', Below w0.heap.size w0 w' → LocM w' c.L V.W V.C V.E) (h : Fds w0 B c V st w) (f : Nat → Bool) : Fds w0 B c V st (put4 w (w0.heap.size + 1) f) :=
  have hne : B ≠ w0.heap.size + 1 := by omega
  ⟨h.1.put f, ⟨⟨(cell_put4 hne f 2).trans h.2.1.1.1, (cell_put4 hne f 3).trans h.2.1.1.2.1, (cell_put4 hne f 4).trans h.2.1.1.2.2⟩, ⟨(cell_put4 hne f 5).trans h.2.1.2.1, (cell_put4 hne f 6).trans h.2.1.2.2.1, (cell_put4 hne f 7).trans h.2.1.2.2.2⟩⟩, hL _ (h.1.put f).2.2.2.1⟩
set_option maxHeartbeats 4000000 in
theorem fold_no (w : World) (B : Nat) (c : CX) (V : LV) (p : PS) (h : PM w B c V p) (st : Nat → Bool) (hf : flg c.fl 2 = false) :
    Calls Tryz.prog 87 #[.pointer (some ⟨B, 0, none⟩), cs st] w fun e w' => e = .returned (cs st) ∧ Below w.heap.size w w' := by
  have hV := V2s_at w st
  have hVb := V2s_below w st
  have HM := Lib.hid (h.below hVb)
  have HS := Lib.hid (X1s.of hV.1.drew hV.2.drew hVb.drew)
  have HV := Lib.hid hV
  have HVb := Lib.hid hVb
  have HH := Lib.hid (has_is _ B c V p HM.out 2 _ hf)
  have HQ := Lib.hid (V2q w st st)
  unfold V2s at *
  unfold cs cl at *
  clear h hV hVb hf
  go_enter Tryz.func87, Tryz.ntmps87
  go_wp2_with (first
    | (go_at_call 110; refine HH.out.mono ?_; rintro e w' ⟨rfl, rfl⟩)
    )
  exact bodyPost_ret (v := cs st) (ret_cs (q := st) Tryz.results87 _ _ (w.heap.size + 1) (by simp) HQ.out.1) rfl ⟨rfl, HQ.out.2⟩
theorem bl_len (l : List Nat) : (bl l).length = l.length := by unfold bl; simp
theorem el_le (p : Nat → Bool) : (el p 256).length ≤ 256 := by
  unfold el
  have := List.length_filter_le p (List.range 256)
  simpa using this
set_option maxHeartbeats 8000000 in
theorem fold_yes (w : World) (B : Nat) (c : CX) (V : LV) (p : PS) (h : PM w B c V p) (st : Nat → Bool) (hf : flg c.fl 2 = true) :
    Calls Tryz.prog 87 #[.pointer (some ⟨B, 0, none⟩), cs st] w fun e w' => e = .returned (cs fun x => st x || setOf (mapT (vld c.L).lower (bl (el st 256)) ++ mapT (vld c.L).upper (bl (el st 256))) x) ∧ Below w.heap.size w w' := by
  have hV := V2s_at w st
  have hVb := V2s_below w st
  have HM := Lib.hid (h.below hVb)
  have HS := Lib.hid (X1s.of hV.1 hV.2 hVb)
  have HH := Lib.hid (has_is _ B c V p HM.out 2 _ hf)
  have hl : (⟨(bl (el st 256)).toArray⟩ : ByteArray).size ≤ 256 := by
    rw [mkl_size, bl_len]
    exact el_le st
  have HLi := Lib.hid (list_any st)
  have HTb := Lib.hid (fun W (hb : Below w.heap.size w W) => (h.below hb).lk.tab)
  have HLo := Lib.hid (fun W (hm : LocM W c.L V.W V.C V.E) => pLower_any c.L V.W V.C V.E ⟨(bl (el st 256)).toArray⟩ (by omega) W hm)
  have HUp := Lib.hid (fun W (hm : LocM W c.L V.W V.C V.E) => pUpper_any c.L V.W V.C V.E ⟨(bl (el st 256)).toArray⟩ (by omega) W hm)
  have hd : (⟨(bl (el st 256)).toArray⟩ : ByteArray).data.toList = bl (el st 256) := rfl
  rw [hd] at HLo HUp
  have z1 : (mapT (vld c.L).lower (bl (el st 256))).length ≤ 256 := by unfold mapT; rw [List.length_map, bl_len]; exact el_le st
  have z2 : (mapT (vld c.L).upper (bl (el st 256))).length ≤ 256 := by unfold mapT; rw [List.length_map, bl_len]; exact el_le st
  obtain ⟨SL, hSL⟩ : ∃ s, mk (mapT (vld c.L).lower (bl (el st 256))) = s := ⟨_, rfl⟩
  obtain ⟨SU, hSU⟩ : ∃ s, mk (mapT (vld c.L).upper (bl (el st 256))) = s := ⟨_, rfl⟩
  have y1 : SL.size ≤ 256 := by rw [← hSL]; exact z1
  have y2 : SU.size ≤ 256 := by rw [← hSU]; exact z2
  have e1 : (⟨(mapT (vld c.L).lower (bl (el st 256))).toArray⟩ : ByteArray) = SL := hSL
  have e2 : (⟨(mapT (vld c.L).upper (bl (el st 256))).toArray⟩ : ByteArray) = SU := hSU
  rw [e1] at HLo
  rw [e2] at HUp
  have e3 : (SL ++ SU).data.toList = mapT (vld c.L).lower (bl (el st 256)) ++ mapT (vld c.L).upper (bl (el st 256)) := by
    rw [← hSL, ← hSU, mk_append]
    rfl
  have HOf := Lib.hid (ofw_any (SL ++ SU) (by rw [ByteArray.size_append]; omega))
  rw [e3] at HOf
  generalize setOf (mapT (vld c.L).lower (bl (el st 256)) ++ mapT (vld c.L).upper (bl (el st 256))) = Q at *
  have HUn := Lib.hid (union_any st Q)
  generalize (⟨(bl (el st 256)).toArray⟩ : ByteArray) = LI at *
  have HLt := Lib.hid h.lt
  have HLc := Lib.hid (fun W (hb : Below w.heap.size w W) => (h.below hb).lk.loc)
  have i1 : (SL.size : Int) ≤ 256 := by omega
  have i2 : (SU.size : Int) ≤ 256 := by omega
  have hadd : ∀ w, (Op.stringOp .add SL SU).run Tryz.prog w = .ok (.string (SL ++ SU)) w := fun w => run_string_add w SL SU (by omega) (by omega)
  unfold V2s at *
  unfold cs cl lcl at *
  clear h hV hVb hf hl hd z1 z2 hSL hSU e1 e2 e3
  go_enter Tryz.func87, Tryz.ntmps87
  go_wp2_with (first
    | (go_at_call 110; refine HH.out.mono ?_; rintro e w' ⟨rfl, rfl⟩)
    | (go_at_call 70; refine (HLi.out _ (HTb.out _ HS.out.2.2.2.1)).mono ?_; rintro e w1 ⟨rfl, hb⟩; have HS1 := Lib.hid (Fds.of (HS.out.keep hb) (HM.out.below hb)); clear hb)
    )
  have HS2 := Lib.hid (Fds.keep ((Below.refl _ _).drew) HS1.out)
  go_region_held3 (fun w' => Fds w B c V st w')
    (first | exact HS2.out | exact Fds.keep hb ‹_› | exact Fds.put HLt.out HLc.out ‹_› (fun x => st x || Q x))
    (first
      | (go_at_call 113; refine (HLo.out _ (by exact (‹Fds w B c V st _›).2.2)).mono ?_; rintro e w1 ⟨rfl, hb⟩)
      | (go_at_call 114; refine (HUp.out _ (by exact (‹Fds w B c V st _›).2.2)).mono ?_; rintro e w1 ⟨rfl, hb⟩)
      | (go_at_call 112; refine (HOf.out _).mono ?_; rintro e w1 ⟨rfl, hb⟩)
      | (go_at_call 108; refine (HUn.out _).mono ?_; rintro e w1 ⟨rfl, hb⟩))
  rename_i hS
  obtain ⟨⟨_, _, _, hB, hA⟩, _⟩ := hS
  have HD := Lib.hid (And.intro hB (AtAny.done (f := fun x => st x || Q x) hA))
  clear hB hA
  go_wp2
  exact bodyPost_ret (v := cs fun x => st x || Q x) (ret_cs (q := fun x => st x || Q x) Tryz.results87 _ _ (w.heap.size + 1) (by simp) HD.out.2) rfl ⟨rfl, HD.out.1⟩
theorem folded_any (w : World) (B : Nat) (c : CX) (V : LV) (p : PS) (h : PM w B c V p) (st : Nat → Bool) :
    Calls Tryz.prog 87 #[.pointer (some ⟨B, 0, none⟩), cs st] w fun e w' => e = .returned (cs (foldT c st)) ∧ Below w.heap.size w w' := by
  unfold foldT
  by_cases hf : flg c.fl 2 = true
  · rw [if_pos hf]; exact fold_yes w B c V p h st hf
  · rw [if_neg hf]; exact fold_no w B c V p h st (by simpa using hf)
end Go.Proofs.YtphiaagppcbefaaGreatDoor
