/- RxJ. -/
import Derived.Test.YtphiaagppcbefaaGreatDoorPs18
import Derived.StillTailTactics
import Derived.Deep.CutRange
import Derived.Deep.Cut
import Derived.Deep.DeepCutAuto
import Derived.Deep.RegionHeld3
import Derived.Laws.Concat
set_option linter.unusedVariables false
namespace Go.Proofs.YtphiaagppcbefaaGreatDoor
open Go.RowKit
theorem PA.lcells {w : World} {B : Nat} {c : CX} {V : LV} {p : PS} (h : PA w B c V p) : ((w.cell? ⟨B, 2, none⟩ = some (.string c.L.name) ∧ w.cell? ⟨B, 3, none⟩ = some V.W ∧ w.cell? ⟨B, 4, none⟩ = some (.string c.L.lower)) ∧ (w.cell? ⟨B, 5, none⟩ = some (.string c.L.upper) ∧ w.cell? ⟨B, 6, none⟩ = some V.C ∧ w.cell? ⟨B, 7, none⟩ = some V.E)) :=
  ⟨⟨h.cell 2, h.cell 3, h.cell 4⟩, ⟨h.cell 5, h.cell 6, h.cell 7⟩⟩
abbrev Fds (w0 : World) (B : Nat) (c : CX) (V : LV) (st : Nat → Bool) (w : World) : Prop :=
  X1s w0 st w ∧ ((w.cell? ⟨B, 2, none⟩ = some (.string c.L.name) ∧ w.cell? ⟨B, 3, none⟩ = some V.W ∧ w.cell? ⟨B, 4, none⟩ = some (.string c.L.lower)) ∧ (w.cell? ⟨B, 5, none⟩ = some (.string c.L.upper) ∧ w.cell? ⟨B, 6, none⟩ = some V.C ∧ w.cell? ⟨B, 7, none⟩ = some V.E)) ∧ LocM w c.L V.W V.C V.E
theorem Fds.of {w0 w : World} {B : Nat} {c : CX} {V : LV} {st : Nat → Bool} {p : PS} (h : X1s w0 st w) (k : PM w B c V p) : Fds w0 B c V st w := ⟨h, k.pa.lcells, k.lk.loc⟩
theorem Fds.keep {w0 w w' : World} {B : Nat} {c : CX} {V : LV} {st : Nat → Bool} (hb : Below w.heap.size w w') (h : Fds w0 B c V st w) : Fds w0 B c V st w' :=
  ⟨h.1.keep hb, ⟨⟨keep_words hb h.2.1.1.1, keep_words hb h.2.1.1.2.1, keep_words hb h.2.1.1.2.2⟩, ⟨keep_words hb h.2.1.2.1, keep_words hb h.2.1.2.2.1, keep_words hb h.2.1.2.2.2⟩⟩, h.2.2.below hb⟩
theorem Fds.put {w0 w : World} {B : Nat} {c : CX} {V : LV} {st : Nat → Bool} (hB : B < w0.heap.size) (hL : ∀ w', Below w0.heap.size w0 w' → LocM w' c.L V.W V.C V.E) (h : Fds w0 B c V st w) (f : Nat → Bool) : Fds w0 B c V st (put4 w (w0.heap.size + 1) f) :=
  have hne : B ≠ w0.heap.size + 1 := by omega
  ⟨h.1.put f, ⟨⟨(cell_put4 hne f 2).trans h.2.1.1.1, (cell_put4 hne f 3).trans h.2.1.1.2.1, (cell_put4 hne f 4).trans h.2.1.1.2.2⟩, ⟨(cell_put4 hne f 5).trans h.2.1.2.1, (cell_put4 hne f 6).trans h.2.1.2.2.1, (cell_put4 hne f 7).trans h.2.1.2.2.2⟩⟩, hL _ (h.1.put f).2.2.2.1⟩
set_option maxHeartbeats 4000000 in
theorem fold_no (w : World) (B : Nat) (c : CX) (V : LV) (p : PS) (h : PM w B c V p) (st : Nat → Bool) (hf : flg c.fl 2 = false) :
    Calls Tryz.prog 87 #[.pointer (some ⟨B, 0, none⟩), cs st] w fun e w' => e = .returned (cs st) ∧ Below w.heap.size w w' := by
  have hV := V2s_at w st
  have hVb := V2s_below w st
  have HM := Lib.hid (h.below hVb)
  have HS := Lib.hid (X1s.of hV.1.drew hV.2.drew hVb.drew)
  have HV := Lib.hid hV
  have HVb := Lib.hid hVb
  have HH := Lib.hid (has_is _ B c V p HM.out 2 _ hf)
  have HQ := Lib.hid (V2q w st st)
  unfold V2s at *
  unfold cs cl at *
  clear h hV hVb hf
  go_enter Tryz.func87, Tryz.ntmps87
  go_wp2_with (first
    | (go_at_call 110; refine HH.out.mono ?_; rintro e w' ⟨rfl, rfl⟩)
    )
  exact bodyPost_ret (v := cs st) (ret_cs (q := st) Tryz.results87 _ _ (w.heap.size + 1) (by simp) HQ.out.1) rfl ⟨rfl, HQ.out.2⟩
theorem bl_len (l : List Nat) : (bl l).length = l.length := by unfold bl; simp
theorem el_le (p : Nat → Bool) : (el p 256).length ≤ 256 := by
  unfold el
  have := List.length_filter_le p (List.range 256)
  simpa using this
set_option maxHeartbeats 8000000 in
theorem fold_yes (w : World) (B : Nat) (c : CX) (V : LV) (p : PS) (h : PM w B c V p) (st : Nat → Bool) (hf : flg c.fl 2 = true) :
    Calls Tryz.prog 87 #[.pointer (some ⟨B, 0, none⟩), cs st] w fun e w' => e = .returned (cs fun x => st x || setOf (mapT (vld c.L).lower (bl (el st 256)) ++ mapT (vld c.L).upper (bl (el st 256))) x) ∧ Below w.heap.size w w' := by
  have hV := V2s_at w st
  have hVb := V2s_below w st
  have HM := Lib.hid (h.below hVb)
  have HS := Lib.hid (X1s.of hV.1 hV.2 hVb)
  have HH := Lib.hid (has_is _ B c V p HM.out 2 _ hf)
  have hl : (⟨(bl (el st 256)).toArray⟩ : ByteArray).size ≤ 256 := by
    rw [mkl_size, bl_len]
    exact el_le st
  have HLi := Lib.hid (list_any st)
  have HTb := Lib.hid (fun W (hb : Below w.heap.size w W) => (h.below hb).lk.tab)
  have HLo := Lib.hid (fun W (hm : LocM W c.L V.W V.C V.E) => pLower_any c.L V.W V.C V.E ⟨(bl (el st 256)).toArray⟩ (by omega) W hm)
  have HUp := Lib.hid (fun W (hm : LocM W c.L V.W V.C V.E) => pUpper_any c.L V.W V.C V.E ⟨(bl (el st 256)).toArray⟩ (by omega) W hm)
  have hd : (⟨(bl (el st 256)).toArray⟩ : ByteArray).data.toList = bl (el st 256) := rfl
  rw [hd] at HLo HUp
  have z1 : (mapT (vld c.L).lower (bl (el st 256))).length ≤ 256 := by unfold mapT; rw [List.length_map, bl_len]; exact el_le st
  have z2 : (mapT (vld c.L).upper (bl (el st 256))).length ≤ 256 := by unfold mapT; rw [List.length_map, bl_len]; exact el_le st
  obtain ⟨SL, hSL⟩ : ∃ s, mk (mapT (vld c.L).lower (bl (el st 256))) = s := ⟨_, rfl⟩
  obtain ⟨SU, hSU⟩ : ∃ s, mk (mapT (vld c.L).upper (bl (el st 256))) = s := ⟨_, rfl⟩
  have y1 : SL.size ≤ 256 := by rw [← hSL]; exact z1
  have y2 : SU.size ≤ 256 := by rw [← hSU]; exact z2
  have e1 : (⟨(mapT (vld c.L).lower (bl (el st 256))).toArray⟩ : ByteArray) = SL := hSL
  have e2 : (⟨(mapT (vld c.L).upper (bl (el st 256))).toArray⟩ : ByteArray) = SU := hSU
  rw [e1] at HLo
  rw [e2] at HUp
  have e3 : (SL ++ SU).data.toList = mapT (vld c.L).lower (bl (el st 256)) ++ mapT (vld c.L).upper (bl (el st 256)) := by
    rw [← hSL, ← hSU, mk_append]
    rfl
  have HOf := Lib.hid (ofw_any (SL ++ SU) (by rw [ByteArray.size_append]; omega))
  rw [e3] at HOf
  generalize setOf (mapT (vld c.L).lower (bl (el st 256)) ++ mapT (vld c.L).upper (bl (el st 256))) = Q at *
  have HUn := Lib.hid (union_any st Q)
  generalize (⟨(bl (el st 256)).toArray⟩ : ByteArray) = LI at *
  have HLt := Lib.hid h.lt
  have HLc := Lib.hid (fun W (hb : Below w.heap.size w W) => (h.below hb).lk.loc)
  have i1 : (SL.size : Int) ≤ 256 := by omega
  have i2 : (SU.size : Int) ≤ 256 := by omega
  have hadd : ∀ w, (Op.stringOp .add SL SU).run Tryz.prog w = .ok (.string (SL ++ SU)) w := fun w => run_string_add w SL SU (by omega) (by omega)
  unfold V2s at *
  unfold cs cl lcl at *
  clear h hV hVb hf hl hd z1 z2 hSL hSU e1 e2 e3
  go_enter Tryz.func87, Tryz.ntmps87
  go_wp2_with (first
    | (go_at_call 110; refine HH.out.mono ?_; rintro e w' ⟨rfl, rfl⟩)
    | (go_at_call 70; refine (HLi.out _ (HTb.out _ HS.out.2.2.2.1)).mono ?_; rintro e w1 ⟨rfl, hb⟩; have HS1 := Lib.hid (Fds.of (HS.out.keep hb) (HM.out.below hb)); clear hb)
    )
  have HS2 := Lib.hid (Fds.keep ((Below.refl _ _).drew) HS1.out)
  go_region_held3 (fun w' => Fds w B c V st w')
    (first | exact HS2.out | exact Fds.keep hb ‹_› | exact Fds.put HLt.out HLc.out ‹_› (fun x => st x || Q x))
    (first
      | (go_at_call 113; refine (HLo.out _ (by exact (‹Fds w B c V st _›).2.2)).mono ?_; rintro e w1 ⟨rfl, hb⟩)
      | (go_at_call 114; refine (HUp.out _ (by exact (‹Fds w B c V st _›).2.2)).mono ?_; rintro e w1 ⟨rfl, hb⟩)
      | (go_at_call 112; refine (HOf.out _).mono ?_; rintro e w1 ⟨rfl, hb⟩)
      | (go_at_call 108; refine (HUn.out _).mono ?_; rintro e w1 ⟨rfl, hb⟩))
  rename_i hS
  obtain ⟨⟨_, _, _, hB, hA⟩, _⟩ := hS
  have HD := Lib.hid (And.intro hB (AtAny.done (f := fun x => st x || Q x) hA))
  clear hB hA
  go_wp2
  exact bodyPost_ret (v := cs fun x => st x || Q x) (ret_cs (q := fun x => st x || Q x) Tryz.results87 _ _ (w.heap.size + 1) (by simp) HD.out.2) rfl ⟨rfl, HD.out.1⟩
theorem folded_any (w : World) (B : Nat) (c : CX) (V : LV) (p : PS) (h : PM w B c V p) (st : Nat → Bool) :
    Calls Tryz.prog 87 #[.pointer (some ⟨B, 0, none⟩), cs st] w fun e w' => e = .returned (cs (foldT c st)) ∧ Below w.heap.size w w' := by
  unfold foldT
  by_cases hf : flg c.fl 2 = true
  · rw [if_pos hf]; exact fold_yes w B c V p h st hf
  · rw [if_neg hf]; exact fold_no w B c V p h st (by simpa using hf)
end Go.Proofs.YtphiaagppcbefaaGreatDoor
