/- RxQ, RxS. -/
import Derived.Test.YtphiaagppcbefaaGreatDoorPs23
import Derived.StillTailTactics
import Derived.Deep.CutRange
import Derived.Deep.Cut
import Derived.Deep.DeepCutAuto
set_option linter.unusedVariables false
namespace Go.Proofs.YtphiaagppcbefaaGreatDoor
open Go.RowKit
theorem umore_any (w : World) (B : Nat) (c : CX) (V : LV) (p : PS) (h : PM w B c V p) (X : Nat) (hX : w.cell? ⟨X, 0, none⟩ = some (.pointer (some ⟨B, 0, none⟩))) :
    Calls Tryz.prog 40 #[.pointer (some ⟨X, 0, none⟩)] w fun e w' => e = .returned (.bool (accT c 124 p).1) ∧ Stp w B c V (accT c 124 p).2 w' := by
  have HA := Lib.hid (accept_any w B c V p h 124 (by decide) (by decide))
  clear h
  go_enter Tryz.func40, Tryz.ntmps40
  go_wp2_with (first
    | (go_at_call 41; refine HA.out.mono ?_; rintro e w1 ⟨rfl, hs⟩; have HS := Lib.hid hs; clear hs)
    )
  go_ret
  exact ⟨rfl, HS.out⟩
theorem fldTk0 (a b d : Value) (w : World) : (Instr.field 88 (.agg #[a, b, d]) 0).run Tryz.prog w = .ok a w := by kernel_rfl
set_option maxHeartbeats 4000000 in
theorem bmore_end (w : World) (B : Nat) (c : CX) (V : LV) (p : PS) (h : PM w B c V p) (X : Nat) (hX : w.cell? ⟨X, 0, none⟩ = some (.pointer (some ⟨B, 0, none⟩))) (hXB : X ≠ B) (hk : kdT c p = -1) :
    Calls Tryz.prog 61 #[.pointer (some ⟨X, 0, none⟩)] w fun e w' => e = .returned (.bool (false)) ∧ Stp w B c V p w' := by
  have HT := Lib.hid (token_any w B c V p h)
  unfold tokV at HT
  have hfd := fldTk0
  rw [show (tokT c p).1 = -1 from hk] at HT
  have HP := Lib.hid h
  have HXc := Lib.hid hX
  clear h hk
  go_enter Tryz.func61, Tryz.ntmps61
  go_wp2_with (first
    | (go_at_call 62; refine HT.out.mono ?_; rintro e w1 ⟨rfl, hb⟩; have HS := Lib.hid (Stp.of_below HP.out hb); obtain ⟨⟨x0, x1, x2, x3, x4, x5, x6, x7⟩, xf⟩ := HS.out.1.pa.all; have hX1 := keep_words hb HXc.out; clear hb)
    )
  go_ret
  exact ⟨rfl, HS.out⟩
set_option maxHeartbeats 4000000 in
theorem bmore_bar (w : World) (B : Nat) (c : CX) (V : LV) (p : PS) (h : PM w B c V p) (X : Nat) (hX : w.cell? ⟨X, 0, none⟩ = some (.pointer (some ⟨B, 0, none⟩))) (hXB : X ≠ B) (hk : kdT c p = 124) :
    Calls Tryz.prog 61 #[.pointer (some ⟨X, 0, none⟩)] w fun e w' => e = .returned (.bool (false)) ∧ Stp w B c V p w' := by
  have HT := Lib.hid (token_any w B c V p h)
  unfold tokV at HT
  have hfd := fldTk0
  rw [show (tokT c p).1 = 124 from hk] at HT
  have HP := Lib.hid h
  have HXc := Lib.hid hX
  clear h hk
  go_enter Tryz.func61, Tryz.ntmps61
  go_wp2_with (first
    | (go_at_call 62; refine HT.out.mono ?_; rintro e w1 ⟨rfl, hb⟩; have HS := Lib.hid (Stp.of_below HP.out hb); obtain ⟨⟨x0, x1, x2, x3, x4, x5, x6, x7⟩, xf⟩ := HS.out.1.pa.all; have hX1 := keep_words hb HXc.out; clear hb)
    )
  go_ret
  exact ⟨rfl, HS.out⟩
set_option maxHeartbeats 4000000 in
theorem bmore_cl0 (w : World) (B : Nat) (c : CX) (V : LV) (p : PS) (h : PM w B c V p) (X : Nat) (hX : w.cell? ⟨X, 0, none⟩ = some (.pointer (some ⟨B, 0, none⟩))) (hXB : X ≠ B) (hk : kdT c p = 41) (ho : p.opn = 0) :
    Calls Tryz.prog 61 #[.pointer (some ⟨X, 0, none⟩)] w fun e w' => e = .returned (.bool (true)) ∧ Stp w B c V p w' := by
  have HT := Lib.hid (token_any w B c V p h)
  unfold tokV at HT
  have hfd := fldTk0
  rw [show (tokT c p).1 = 41 from hk] at HT
  have HP := Lib.hid h
  have HXc := Lib.hid hX
  have q1 : ((p.opn : Int) == 0) = true := by simp; omega
  clear h hk
  go_enter Tryz.func61, Tryz.ntmps61
  go_wp2_with (first
    | (go_at_call 62; refine HT.out.mono ?_; rintro e w1 ⟨rfl, hb⟩; have HS := Lib.hid (Stp.of_below HP.out hb); obtain ⟨⟨x0, x1, x2, x3, x4, x5, x6, x7⟩, xf⟩ := HS.out.1.pa.all; have hX1 := keep_words hb HXc.out; clear hb)
    )
  go_ret
  exact ⟨rfl, HS.out⟩
set_option maxHeartbeats 4000000 in
theorem bmore_cl1 (w : World) (B : Nat) (c : CX) (V : LV) (p : PS) (h : PM w B c V p) (X : Nat) (hX : w.cell? ⟨X, 0, none⟩ = some (.pointer (some ⟨B, 0, none⟩))) (hXB : X ≠ B) (hk : kdT c p = 41) (ho : p.opn ≠ 0) :
    Calls Tryz.prog 61 #[.pointer (some ⟨X, 0, none⟩)] w fun e w' => e = .returned (.bool (false)) ∧ Stp w B c V p w' := by
  have HT := Lib.hid (token_any w B c V p h)
  unfold tokV at HT
  have hfd := fldTk0
  rw [show (tokT c p).1 = 41 from hk] at HT
  have HP := Lib.hid h
  have HXc := Lib.hid hX
  have q1 : ((p.opn : Int) == 0) = false := by simp; omega
  clear h hk
  go_enter Tryz.func61, Tryz.ntmps61
  go_wp2_with (first
    | (go_at_call 62; refine HT.out.mono ?_; rintro e w1 ⟨rfl, hb⟩; have HS := Lib.hid (Stp.of_below HP.out hb); obtain ⟨⟨x0, x1, x2, x3, x4, x5, x6, x7⟩, xf⟩ := HS.out.1.pa.all; have hX1 := keep_words hb HXc.out; clear hb)
    )
  go_ret
  exact ⟨rfl, HS.out⟩
set_option maxHeartbeats 4000000 in
theorem bmore_oth (w : World) (B : Nat) (c : CX) (V : LV) (p : PS) (h : PM w B c V p) (X : Nat) (hX : w.cell? ⟨X, 0, none⟩ = some (.pointer (some ⟨B, 0, none⟩))) (hXB : X ≠ B) (K : Int) (hk : kdT c p = K) (k1 : K ≠ -1) (k2 : K ≠ 124) (k3 : K ≠ 41) :
    Calls Tryz.prog 61 #[.pointer (some ⟨X, 0, none⟩)] w fun e w' => e = .returned (.bool (true)) ∧ Stp w B c V p w' := by
  have HT := Lib.hid (token_any w B c V p h)
  unfold tokV at HT
  have hfd := fldTk0
  rw [show (tokT c p).1 = K from hk] at HT
  have HP := Lib.hid h
  have HXc := Lib.hid hX
  have q1 : (K == -1) = false := by simpa using k1
  have q2 : (K == 124) = false := by simpa using k2
  have q3 : (K == 41) = false := by simpa using k3
  clear h hk
  go_enter Tryz.func61, Tryz.ntmps61
  go_wp2_with (first
    | (go_at_call 62; refine HT.out.mono ?_; rintro e w1 ⟨rfl, hb⟩; have HS := Lib.hid (Stp.of_below HP.out hb); obtain ⟨⟨x0, x1, x2, x3, x4, x5, x6, x7⟩, xf⟩ := HS.out.1.pa.all; have hX1 := keep_words hb HXc.out; clear hb)
    )
  go_ret
  exact ⟨rfl, HS.out⟩
theorem bmore_any (w : World) (B : Nat) (c : CX) (V : LV) (p : PS) (h : PM w B c V p) (X : Nat) (hX : w.cell? ⟨X, 0, none⟩ = some (.pointer (some ⟨B, 0, none⟩))) (hXB : X ≠ B) :
    Calls Tryz.prog 61 #[.pointer (some ⟨X, 0, none⟩)] w fun e w' => e = .returned (.bool (morB c p).1) ∧ Stp w B c V (morB c p).2 w' := by
  unfold morB
  by_cases k1 : kdT c p = -1
  · rw [if_pos (.inl k1)]; exact bmore_end w B c V p h X hX hXB k1
  by_cases k2 : kdT c p = 124
  · rw [if_pos (.inr k2)]; exact bmore_bar w B c V p h X hX hXB k2
  rw [if_neg (by rintro (e | e); exact k1 e; exact k2 e)]
  by_cases k3 : kdT c p = 41
  · rw [if_pos k3]
    by_cases ho : p.opn = 0
    · rw [decide_eq_true ho]; exact bmore_cl0 w B c V p h X hX hXB k3 ho
    · rw [decide_eq_false ho]; exact bmore_cl1 w B c V p h X hX hXB k3 ho
  · rw [if_neg k3]; exact bmore_oth w B c V p h X hX hXB _ rfl k1 k2 k3
set_option maxRecDepth 100000 in
set_option maxHeartbeats 8000000 in
theorem branch_any (w : World) (B : Nat) (c : CX) (V : LV) (p : PS) (h : PM w B c V p) (n : Nat) (grp : PS → TN × PS) (hgrp : GrpOk c (Gn n) grp) (hG : Gn n p) (HPie : Hid (∀ W q, PM W B c V q → Gn n q → Calls Tryz.prog 60 #[.pointer (some ⟨B, 0, none⟩)] W (Ret W B c V (pieW c grp q)))) :
    Calls Tryz.prog 39 #[.pointer (some ⟨B, 0, none⟩)] w (Ret w B c V (braW c grp p)) := by
  have hx : Below w.heap.size w ((w.alloc (.cells #[.pointer (some ⟨B, 0, none⟩)] 69)).alloc (.cells #[.int .i64 0, .int .u64 0, .int .u64 0, .int .u64 0, .int .u64 0, .int .i64 0, .int .i64 0, .int .i64 0, .slice none 0 0] 35)) := ((Below.refl _ _).alloc (Nat.le_refl _) _).alloc (by simp) _
  have hS0 := Stp.of_below h hx
  have HS0 := Lib.hid hS0
  have HR0 := Lib.hid (RAt.two w (.cells #[.pointer (some ⟨B, 0, none⟩)] 69) #[.int .i64 0, .int .u64 0, .int .u64 0, .int .u64 0, .int .u64 0, .int .i64 0, .int .i64 0, .int .i64 0, .slice none 0 0])
  have HL := Lib.hid h.lt
  have hX : ((w.alloc (.cells #[.pointer (some ⟨B, 0, none⟩)] 69)).alloc (.cells #[.int .i64 0, .int .u64 0, .int .u64 0, .int .u64 0, .int .u64 0, .int .i64 0, .int .i64 0, .int .i64 0, .slice none 0 0] 35)).cell? ⟨w.heap.size, 0, none⟩ = some (.pointer (some ⟨B, 0, none⟩)) := by simp
  have hne : w.heap.size ≠ B := by have := h.lt; omega
  have hmf : ∀ (fn : Fn) (first cap : Array Value) (w : World), (Instr.makeFunc fn first cap).run Tryz.prog w = .ok (.func fn first cap) w := fun _ _ _ _ => rfl
  have HJ := Lib.hid (join_piece _ B c V p hS0.1 w.heap.size hX hne 3 (morB c) (pieW c grp) (Gn n) HPie (Lib.hid fun W q hq hc => bmore_any W B c V q hq w.heap.size hc hne) (Lib.hid fun q h1 h2 => ⟨h2.mv (mv_pie hgrp h1 h2).1, h2⟩) hG (Lib.hid fun q h1 h2 hm => (mv_pie hgrp h1 h2).2 ((mv_mor h1).2 hm)))
  clear h hx hS0 hX hne
  go_enter Tryz.func39, Tryz.ntmps39
  go_wp2_with (first
    | (go_at_call 38; (with_reducible refine HJ.out.mono ?_); rintro e w2 ⟨v, rfl, ht, hs⟩; obtain ⟨sv, rfl, hsv⟩ := ht; obtain ⟨ad, cp, rfl⟩ := slice_form hsv; unfold rowV; have HT := Lib.hid (And.intro hsv (HS0.out.trans hs)); have HR2 := Lib.hid (HR0.out.only hs.2 (by have := HL.out; omega)); have HSZ := Lib.hid hs.2.size; obtain ⟨⟨⟨n0, n1, n2⟩, ⟨n3, n4, n5⟩, ⟨n6, n7, n8⟩⟩, nf⟩ := HR2.out.all; clear hsv hs)
    )
  refine bodyPost_ret (v := .agg #[.int .i64 (joiT c 3 (morB c) (pieW c grp) p).1.op, .int .u64 (wd (joiT c 3 (morB c) (pieW c grp) p).1.st 0 64 : Nat), .int .u64 (wd (joiT c 3 (morB c) (pieW c grp) p).1.st 64 64 : Nat), .int .u64 (wd (joiT c 3 (morB c) (pieW c grp) p).1.st 128 64 : Nat), .int .u64 (wd (joiT c 3 (morB c) (pieW c grp) p).1.st 192 64 : Nat), .int .i64 (joiT c 3 (morB c) (pieW c grp) p).1.lo, .int .i64 (joiT c 3 (morB c) (pieW c grp) p).1.hi, .int .i64 (joiT c 3 (morB c) (pieW c grp) p).1.g, .slice ad (joiT c 3 (morB c) (pieW c grp) p).1.args.len cp]) (ret_re Tryz.results39 _ _ (w.heap.size + 1) _ rfl (by simp) (HR2.out.put9 _ _ _ _ _ _ _ _ _)) rfl ?_
  refine ⟨_, rfl, ⟨_, rfl, HT.out.1.far (Afar.put9 _ _ _ _ _ _ _ _ _ fun b hb => ?_)⟩, HT.out.2.put9 HL.out _ (by omega) _ _ _ _ _ _ _ _ _⟩
  have hb2 : ((w.alloc (.cells #[.pointer (some ⟨B, 0, none⟩)] 69)).alloc (.cells #[.int .i64 0, .int .u64 0, .int .u64 0, .int .u64 0, .int .u64 0, .int .i64 0, .int .i64 0, .int .i64 0, .slice none 0 0] 35)).heap.size ≤ b := hb
  have hsz : ((w.alloc (.cells #[.pointer (some ⟨B, 0, none⟩)] 69)).alloc (.cells #[.int .i64 0, .int .u64 0, .int .u64 0, .int .u64 0, .int .u64 0, .int .i64 0, .int .i64 0, .int .i64 0, .slice none 0 0] 35)).heap.size = w.heap.size + 1 + 1 := by simp
  exact ⟨by show w.heap.size ≤ b; omega, by omega⟩
set_option maxRecDepth 100000 in
set_option maxHeartbeats 8000000 in
theorem union_any_rx (w : World) (B : Nat) (c : CX) (V : LV) (p : PS) (h : PM w B c V p) (n : Nat) (grp : PS → TN × PS) (hgrp : GrpOk c (Gn n) grp) (hG : Gn n p) (HPie : Hid (∀ W q, PM W B c V q → Gn n q → Calls Tryz.prog 60 #[.pointer (some ⟨B, 0, none⟩)] W (Ret W B c V (pieW c grp q)))) :
    Calls Tryz.prog 24 #[.pointer (some ⟨B, 0, none⟩)] w (Ret w B c V (uniW c grp p)) := by
  have hx : Below w.heap.size w ((w.alloc (.cells #[.pointer (some ⟨B, 0, none⟩)] 69)).alloc (.cells #[.int .i64 0, .int .u64 0, .int .u64 0, .int .u64 0, .int .u64 0, .int .i64 0, .int .i64 0, .int .i64 0, .slice none 0 0] 35)) := ((Below.refl _ _).alloc (Nat.le_refl _) _).alloc (by simp) _
  have hS0 := Stp.of_below h hx
  have HS0 := Lib.hid hS0
  have HR0 := Lib.hid (RAt.two w (.cells #[.pointer (some ⟨B, 0, none⟩)] 69) #[.int .i64 0, .int .u64 0, .int .u64 0, .int .u64 0, .int .u64 0, .int .i64 0, .int .i64 0, .int .i64 0, .slice none 0 0])
  have HL := Lib.hid h.lt
  have hX : ((w.alloc (.cells #[.pointer (some ⟨B, 0, none⟩)] 69)).alloc (.cells #[.int .i64 0, .int .u64 0, .int .u64 0, .int .u64 0, .int .u64 0, .int .i64 0, .int .i64 0, .int .i64 0, .slice none 0 0] 35)).cell? ⟨w.heap.size, 0, none⟩ = some (.pointer (some ⟨B, 0, none⟩)) := by simp
  have hne : w.heap.size ≠ B := by have := h.lt; omega
  have hmf : ∀ (fn : Fn) (first cap : Array Value) (w : World), (Instr.makeFunc fn first cap).run Tryz.prog w = .ok (.func fn first cap) w := fun _ _ _ _ => rfl
  have HJ := Lib.hid (join_branch _ B c V p hS0.1 w.heap.size hX hne 4 (accT c 124) (braW c grp) (Gn n) (Lib.hid fun W q hq h2 => branch_any W B c V q hq n grp hgrp h2 HPie) (Lib.hid fun W q hq hc => umore_any W B c V q hq w.heap.size hc) (Lib.hid fun q h1 h2 => ⟨h2.mv (mv_bra hgrp h1 h2), h2.mv (mv_acc h1 124 (by decide) (by decide)).1⟩) hG (Lib.hid fun q h1 h2 hm => Nat.lt_of_lt_of_le ((mv_acc h1 124 (by decide) (by decide)).2 hm) (mv_bra hgrp (Mv.gd h1 (mv_acc h1 124 (by decide) (by decide)).1) (h2.mv (mv_acc h1 124 (by decide) (by decide)).1)).a))
  clear h hx hS0 hX hne
  go_enter Tryz.func24, Tryz.ntmps24
  go_wp2_with (first
    | (go_at_call 38; (with_reducible refine HJ.out.mono ?_); rintro e w2 ⟨v, rfl, ht, hs⟩; obtain ⟨sv, rfl, hsv⟩ := ht; obtain ⟨ad, cp, rfl⟩ := slice_form hsv; unfold rowV; have HT := Lib.hid (And.intro hsv (HS0.out.trans hs)); have HR2 := Lib.hid (HR0.out.only hs.2 (by have := HL.out; omega)); have HSZ := Lib.hid hs.2.size; obtain ⟨⟨⟨n0, n1, n2⟩, ⟨n3, n4, n5⟩, ⟨n6, n7, n8⟩⟩, nf⟩ := HR2.out.all; clear hsv hs)
    )
  refine bodyPost_ret (v := .agg #[.int .i64 (joiT c 4 (accT c 124) (braW c grp) p).1.op, .int .u64 (wd (joiT c 4 (accT c 124) (braW c grp) p).1.st 0 64 : Nat), .int .u64 (wd (joiT c 4 (accT c 124) (braW c grp) p).1.st 64 64 : Nat), .int .u64 (wd (joiT c 4 (accT c 124) (braW c grp) p).1.st 128 64 : Nat), .int .u64 (wd (joiT c 4 (accT c 124) (braW c grp) p).1.st 192 64 : Nat), .int .i64 (joiT c 4 (accT c 124) (braW c grp) p).1.lo, .int .i64 (joiT c 4 (accT c 124) (braW c grp) p).1.hi, .int .i64 (joiT c 4 (accT c 124) (braW c grp) p).1.g, .slice ad (joiT c 4 (accT c 124) (braW c grp) p).1.args.len cp]) (ret_re Tryz.results24 _ _ (w.heap.size + 1) _ rfl (by simp) (HR2.out.put9 _ _ _ _ _ _ _ _ _)) rfl ?_
  refine ⟨_, rfl, ⟨_, rfl, HT.out.1.far (Afar.put9 _ _ _ _ _ _ _ _ _ fun b hb => ?_)⟩, HT.out.2.put9 HL.out _ (by omega) _ _ _ _ _ _ _ _ _⟩
  have hb2 : ((w.alloc (.cells #[.pointer (some ⟨B, 0, none⟩)] 69)).alloc (.cells #[.int .i64 0, .int .u64 0, .int .u64 0, .int .u64 0, .int .u64 0, .int .i64 0, .int .i64 0, .int .i64 0, .slice none 0 0] 35)).heap.size ≤ b := hb
  have hsz : ((w.alloc (.cells #[.pointer (some ⟨B, 0, none⟩)] 69)).alloc (.cells #[.int .i64 0, .int .u64 0, .int .u64 0, .int .u64 0, .int .u64 0, .int .i64 0, .int .i64 0, .int .i64 0, .slice none 0 0] 35)).heap.size = w.heap.size + 1 + 1 := by simp
  exact ⟨by show w.heap.size ≤ b; omega, by omega⟩
end Go.Proofs.YtphiaagppcbefaaGreatDoor
set_option linter.unusedVariables false
namespace Go.Proofs.YtphiaagppcbefaaGreatDoor
open Go.RowKit
theorem PM.opened {w : World} {B : Nat} {c : CX} {V : LV} {p : PS} (h : PM w B c V p) (h9 : p.gr ≠ 9) : Stp w B c V (opnP p) ((w.setCell ⟨B, 10, none⟩ (.int .i64 ((p.gr + 1 : Nat) : Int))).setCell ⟨B, 11, none⟩ (.int .i64 ((p.opn + 1 : Nat) : Int))) := by
  have ho : Only B w ((w.setCell ⟨B, 10, none⟩ (.int .i64 ((p.gr + 1 : Nat) : Int))).setCell ⟨B, 11, none⟩ (.int .i64 ((p.opn + 1 : Nat) : Int))) := ((Only.refl B w).put 10 _).put 11 _
  exact ⟨⟨(h.pa.putGr (p.gr + 1)).putOp (p.opn + 1), h.lk.only ho, h.sz, h.at_, h.st, by show p.gr + 1 ≤ 9; have := h.gr; omega, by show p.opn + 1 ≤ p.gr + 1; have := h.opn; omega⟩, ho⟩
theorem PM.begun {w : World} {B : Nat} {c : CX} {V : LV} {p : PS} (h : PM w B c V p) : Stp w B c V (begP p) (w.setCell ⟨B, 9, none⟩ (.int .i64 (p.at_ : Int))) :=
  ⟨⟨h.pa.putSt p.at_, h.lk.only ((Only.refl B w).put 9 _), h.sz, h.at_, Nat.le_refl _, h.gr, h.opn⟩, (Only.refl B w).put 9 _⟩
theorem PA.putCl {w : World} {B : Nat} {c : CX} {V : LV} {p : PS} (h : PA w B c V p) (k : Nat) (hk : k < 10) : PA (w.setCell ⟨B, 12 + k, none⟩ (.bool true)) B c V { p with cl := fun j => if j = k then true else p.cl j } := by
  have : k = 0 ∨ k = 1 ∨ k = 2 ∨ k = 3 ∨ k = 4 ∨ k = 5 ∨ k = 6 ∨ k = 7 ∨ k = 8 ∨ k = 9 := by omega
  rcases this with rfl | rfl | rfl | rfl | rfl | rfl | rfl | rfl | rfl | rfl
  · exact h.put 12 _
  · exact h.put 13 _
  · exact h.put 14 _
  · exact h.put 15 _
  · exact h.put 16 _
  · exact h.put 17 _
  · exact h.put 18 _
  · exact h.put 19 _
  · exact h.put 20 _
  · exact h.put 21 _
theorem PM.shut {w : World} {B : Nat} {c : CX} {V : LV} {p : PS} (h : PM w B c V p) (k : Nat) (hk : k < 10) : Stp w B c V (cloP p k) ((w.setCell ⟨B, 11, none⟩ (.int .i64 ((p.opn - 1 : Nat) : Int))).setCell ⟨B, 12 + k, none⟩ (.bool true)) := by
  have ho : Only B w ((w.setCell ⟨B, 11, none⟩ (.int .i64 ((p.opn - 1 : Nat) : Int))).setCell ⟨B, 12 + k, none⟩ (.bool true)) := ((Only.refl B w).put 11 _).put (12 + k) _
  exact ⟨⟨(h.pa.putOp (p.opn - 1)).putCl k hk, h.lk.only ho, h.sz, h.at_, h.st, h.gr, by show p.opn - 1 ≤ p.gr; have := h.opn; omega⟩, ho⟩
set_option maxRecDepth 100000 in
set_option maxHeartbeats 8000000 in
theorem grd_y (w : World) (B : Nat) (c : CX) (V : LV) (p : PS) (h : PM w B c V p) (n : Nat) (grp : PS → TN × PS) (hgrp : GrpOk c (Gn n) grp) (hG : Gn n p) (HPie : Hid (∀ W q, PM W B c V q → Gn n q → Calls Tryz.prog 60 #[.pointer (some ⟨B, 0, none⟩)] W (Ret W B c V (pieW c grp q)))) (hE : flg c.fl 1 = true) (hk : kdT c p = 41) :
    Calls Tryz.prog 105 #[.pointer (some ⟨B, 0, none⟩)] w (Ret w B c V ((leafT 1, p))) := by
  have hx : Below w.heap.size w (w.alloc (.cells #[.int .i64 0, .int .u64 0, .int .u64 0, .int .u64 0, .int .u64 0, .int .i64 0, .int .i64 0, .int .i64 0, .slice none 0 0] 35)) := (Below.refl _ _).alloc (Nat.le_refl _) _
  have HS := Lib.hid (Stp.of_below h hx)
  have HR := Lib.hid (RAt.one w #[.int .i64 0, .int .u64 0, .int .u64 0, .int .u64 0, .int .u64 0, .int .i64 0, .int .i64 0, .int .i64 0, .slice none 0 0])
  have HL := Lib.hid h.lt
  have HWZ : Hid (w.heap.size + 1 ≤ (w.alloc (.cells #[.int .i64 0, .int .u64 0, .int .u64 0, .int .u64 0, .int .u64 0, .int .i64 0, .int .i64 0, .int .i64 0, .slice none 0 0] 35)).heap.size) := by show w.heap.size + 1 ≤ _; simp
  have HH := Lib.hid (fun W h => has_is W B c V p h 1 _ hE)
  have HT : Hid (∀ W, PM W B c V p → Calls Tryz.prog 62 #[.pointer (some ⟨B, 0, none⟩)] W fun e w' => e = .returned (.agg #[.int .i32 (kdT c p), .int .u8 (vlT c p), .int .i64 (szT c p : Int)]) ∧ Below W.heap.size W w') := fun W h => token_any W B c V p h
  have HU := Lib.hid (fun W h => union_any_rx W B c V p h n grp hgrp hG HPie)
  have hfd := fldTk0
  have hp := HS.out.1
  obtain ⟨⟨⟨n0, n1, n2⟩, ⟨n3, n4, n5⟩, ⟨n6, n7, n8⟩⟩, nf⟩ := HR.out.all
  rw [hk] at HT
  clear h hx hgrp hG HPie hE hk
  go_enter Tryz.func105, Tryz.ntmps105
  go_wp2_with (first
    | (go_at_call 110; (with_reducible refine (HH.out _ hp).mono ?_); rintro e w' ⟨rfl, rfl⟩)
    | (go_at_call 62; (with_reducible refine (HT.out _ hp).mono ?_); rintro e wa ⟨rfl, hb⟩; have HS := Lib.hid (HS.out.next hb); have HR := Lib.hid (HR.out.below hb); have HWZ := Lib.hid (Nat.le_trans HWZ.out hb.size); clear hp; have hp := HS.out.1; obtain ⟨⟨⟨n0, n1, n2⟩, ⟨n3, n4, n5⟩, ⟨n6, n7, n8⟩⟩, nf⟩ := HR.out.all; clear hb)
    | (go_at_call 24; (with_reducible refine (HU.out _ hp).mono ?_); rintro e w6 ⟨vv, rfl, ht, hs⟩; obtain ⟨sv, rfl, hsv⟩ := ht; obtain ⟨ad, cp, rfl⟩ := slice_form hsv; unfold rowV; have HSV := Lib.hid (hsv.far (Afar.frm (m := w.heap.size + 1) (Below.refl _ _) HWZ.out)); have HR := Lib.hid (HR.out.only hs.2 (by have := HL.out; omega)); have HS := Lib.hid (HS.out.trans hs); obtain ⟨⟨⟨n0, n1, n2⟩, ⟨n3, n4, n5⟩, ⟨n6, n7, n8⟩⟩, nf⟩ := HR.out.all; clear hsv hs)
    )
  refine bodyPost_ret (v := .agg #[.int .i64 1, .int .u64 0, .int .u64 0, .int .u64 0, .int .u64 0, .int .i64 0, .int .i64 0, .int .i64 0, .slice none 0 0]) (ret_re Tryz.results105 _ _ w.heap.size _ rfl (by simp) (HR.out.put9 _ _ _ _ _ _ _ _ _)) rfl ?_
  refine ⟨_, rfl, TV.leaf _ _ 1 0 0 0 noSet, HS.out.put9 HL.out _ (Nat.le_refl _) _ _ _ _ _ _ _ _ _⟩
set_option maxRecDepth 100000 in
set_option maxHeartbeats 8000000 in
theorem grd_n (w : World) (B : Nat) (c : CX) (V : LV) (p : PS) (h : PM w B c V p) (n : Nat) (grp : PS → TN × PS) (hgrp : GrpOk c (Gn n) grp) (hG : Gn n p) (HPie : Hid (∀ W q, PM W B c V q → Gn n q → Calls Tryz.prog 60 #[.pointer (some ⟨B, 0, none⟩)] W (Ret W B c V (pieW c grp q)))) (hE : flg c.fl 1 = true) (hk : kdT c p ≠ 41) :
    Calls Tryz.prog 105 #[.pointer (some ⟨B, 0, none⟩)] w (Ret w B c V (uniW c grp p)) := by
  have hx : Below w.heap.size w (w.alloc (.cells #[.int .i64 0, .int .u64 0, .int .u64 0, .int .u64 0, .int .u64 0, .int .i64 0, .int .i64 0, .int .i64 0, .slice none 0 0] 35)) := (Below.refl _ _).alloc (Nat.le_refl _) _
  have HS := Lib.hid (Stp.of_below h hx)
  have HR := Lib.hid (RAt.one w #[.int .i64 0, .int .u64 0, .int .u64 0, .int .u64 0, .int .u64 0, .int .i64 0, .int .i64 0, .int .i64 0, .slice none 0 0])
  have HL := Lib.hid h.lt
  have HWZ : Hid (w.heap.size + 1 ≤ (w.alloc (.cells #[.int .i64 0, .int .u64 0, .int .u64 0, .int .u64 0, .int .u64 0, .int .i64 0, .int .i64 0, .int .i64 0, .slice none 0 0] 35)).heap.size) := by show w.heap.size + 1 ≤ _; simp
  have HH := Lib.hid (fun W h => has_is W B c V p h 1 _ hE)
  have HT : Hid (∀ W, PM W B c V p → Calls Tryz.prog 62 #[.pointer (some ⟨B, 0, none⟩)] W fun e w' => e = .returned (.agg #[.int .i32 (kdT c p), .int .u8 (vlT c p), .int .i64 (szT c p : Int)]) ∧ Below W.heap.size W w') := fun W h => token_any W B c V p h
  have HU := Lib.hid (fun W h => union_any_rx W B c V p h n grp hgrp hG HPie)
  have hfd := fldTk0
  have hp := HS.out.1
  obtain ⟨⟨⟨n0, n1, n2⟩, ⟨n3, n4, n5⟩, ⟨n6, n7, n8⟩⟩, nf⟩ := HR.out.all
  have r1 : (kdT c p == 41) = false := by simpa using hk
  generalize kdT c p = K at *
  clear h hx hgrp hG HPie hE hk
  go_enter Tryz.func105, Tryz.ntmps105
  go_wp2_with (first
    | (go_at_call 110; (with_reducible refine (HH.out _ hp).mono ?_); rintro e w' ⟨rfl, rfl⟩)
    | (go_at_call 62; (with_reducible refine (HT.out _ hp).mono ?_); rintro e wa ⟨rfl, hb⟩; have HS := Lib.hid (HS.out.next hb); have HR := Lib.hid (HR.out.below hb); have HWZ := Lib.hid (Nat.le_trans HWZ.out hb.size); clear hp; have hp := HS.out.1; obtain ⟨⟨⟨n0, n1, n2⟩, ⟨n3, n4, n5⟩, ⟨n6, n7, n8⟩⟩, nf⟩ := HR.out.all; clear hb)
    | (go_at_call 24; (with_reducible refine (HU.out _ hp).mono ?_); rintro e w6 ⟨vv, rfl, ht, hs⟩; obtain ⟨sv, rfl, hsv⟩ := ht; obtain ⟨ad, cp, rfl⟩ := slice_form hsv; unfold rowV; have HSV := Lib.hid (hsv.far (Afar.frm (m := w.heap.size + 1) (Below.refl _ _) HWZ.out)); have HR := Lib.hid (HR.out.only hs.2 (by have := HL.out; omega)); have HS := Lib.hid (HS.out.trans hs); obtain ⟨⟨⟨n0, n1, n2⟩, ⟨n3, n4, n5⟩, ⟨n6, n7, n8⟩⟩, nf⟩ := HR.out.all; clear hsv hs)
    )
  refine bodyPost_ret (v := .agg #[.int .i64 (uniW c grp p).1.op, .int .u64 (wd (uniW c grp p).1.st 0 64 : Nat), .int .u64 (wd (uniW c grp p).1.st 64 64 : Nat), .int .u64 (wd (uniW c grp p).1.st 128 64 : Nat), .int .u64 (wd (uniW c grp p).1.st 192 64 : Nat), .int .i64 (uniW c grp p).1.lo, .int .i64 (uniW c grp p).1.hi, .int .i64 (uniW c grp p).1.g, .slice ad (uniW c grp p).1.args.len cp]) (ret_re Tryz.results105 _ _ w.heap.size _ rfl (by simp) (HR.out.put9 _ _ _ _ _ _ _ _ _)) rfl ?_
  refine ⟨_, rfl, ⟨_, rfl, HSV.out.far (Afar.put9 _ _ _ _ _ _ _ _ _ fun b hb => ?_)⟩, HS.out.put9 HL.out _ (Nat.le_refl _) _ _ _ _ _ _ _ _ _⟩
  have hb2 : w.heap.size + 1 ≤ b := hb
  exact ⟨by show w.heap.size ≤ b; omega, by omega⟩
set_option maxRecDepth 100000 in
set_option maxHeartbeats 8000000 in
theorem grd_b (w : World) (B : Nat) (c : CX) (V : LV) (p : PS) (h : PM w B c V p) (n : Nat) (grp : PS → TN × PS) (hgrp : GrpOk c (Gn n) grp) (hG : Gn n p) (HPie : Hid (∀ W q, PM W B c V q → Gn n q → Calls Tryz.prog 60 #[.pointer (some ⟨B, 0, none⟩)] W (Ret W B c V (pieW c grp q)))) (hE : flg c.fl 1 = false) :
    Calls Tryz.prog 105 #[.pointer (some ⟨B, 0, none⟩)] w (Ret w B c V (uniW c grp p)) := by
  have hx : Below w.heap.size w (w.alloc (.cells #[.int .i64 0, .int .u64 0, .int .u64 0, .int .u64 0, .int .u64 0, .int .i64 0, .int .i64 0, .int .i64 0, .slice none 0 0] 35)) := (Below.refl _ _).alloc (Nat.le_refl _) _
  have HS := Lib.hid (Stp.of_below h hx)
  have HR := Lib.hid (RAt.one w #[.int .i64 0, .int .u64 0, .int .u64 0, .int .u64 0, .int .u64 0, .int .i64 0, .int .i64 0, .int .i64 0, .slice none 0 0])
  have HL := Lib.hid h.lt
  have HWZ : Hid (w.heap.size + 1 ≤ (w.alloc (.cells #[.int .i64 0, .int .u64 0, .int .u64 0, .int .u64 0, .int .u64 0, .int .i64 0, .int .i64 0, .int .i64 0, .slice none 0 0] 35)).heap.size) := by show w.heap.size + 1 ≤ _; simp
  have HH := Lib.hid (fun W h => has_is W B c V p h 1 _ hE)
  have HT : Hid (∀ W, PM W B c V p → Calls Tryz.prog 62 #[.pointer (some ⟨B, 0, none⟩)] W fun e w' => e = .returned (.agg #[.int .i32 (kdT c p), .int .u8 (vlT c p), .int .i64 (szT c p : Int)]) ∧ Below W.heap.size W w') := fun W h => token_any W B c V p h
  have HU := Lib.hid (fun W h => union_any_rx W B c V p h n grp hgrp hG HPie)
  have hfd := fldTk0
  have hp := HS.out.1
  obtain ⟨⟨⟨n0, n1, n2⟩, ⟨n3, n4, n5⟩, ⟨n6, n7, n8⟩⟩, nf⟩ := HR.out.all
  clear h hx hgrp hG HPie hE 
  go_enter Tryz.func105, Tryz.ntmps105
  go_wp2_with (first
    | (go_at_call 110; (with_reducible refine (HH.out _ hp).mono ?_); rintro e w' ⟨rfl, rfl⟩)
    | (go_at_call 62; (with_reducible refine (HT.out _ hp).mono ?_); rintro e wa ⟨rfl, hb⟩; have HS := Lib.hid (HS.out.next hb); have HR := Lib.hid (HR.out.below hb); have HWZ := Lib.hid (Nat.le_trans HWZ.out hb.size); clear hp; have hp := HS.out.1; obtain ⟨⟨⟨n0, n1, n2⟩, ⟨n3, n4, n5⟩, ⟨n6, n7, n8⟩⟩, nf⟩ := HR.out.all; clear hb)
    | (go_at_call 24; (with_reducible refine (HU.out _ hp).mono ?_); rintro e w6 ⟨vv, rfl, ht, hs⟩; obtain ⟨sv, rfl, hsv⟩ := ht; obtain ⟨ad, cp, rfl⟩ := slice_form hsv; unfold rowV; have HSV := Lib.hid (hsv.far (Afar.frm (m := w.heap.size + 1) (Below.refl _ _) HWZ.out)); have HR := Lib.hid (HR.out.only hs.2 (by have := HL.out; omega)); have HS := Lib.hid (HS.out.trans hs); obtain ⟨⟨⟨n0, n1, n2⟩, ⟨n3, n4, n5⟩, ⟨n6, n7, n8⟩⟩, nf⟩ := HR.out.all; clear hsv hs)
    )
  refine bodyPost_ret (v := .agg #[.int .i64 (uniW c grp p).1.op, .int .u64 (wd (uniW c grp p).1.st 0 64 : Nat), .int .u64 (wd (uniW c grp p).1.st 64 64 : Nat), .int .u64 (wd (uniW c grp p).1.st 128 64 : Nat), .int .u64 (wd (uniW c grp p).1.st 192 64 : Nat), .int .i64 (uniW c grp p).1.lo, .int .i64 (uniW c grp p).1.hi, .int .i64 (uniW c grp p).1.g, .slice ad (uniW c grp p).1.args.len cp]) (ret_re Tryz.results105 _ _ w.heap.size _ rfl (by simp) (HR.out.put9 _ _ _ _ _ _ _ _ _)) rfl ?_
  refine ⟨_, rfl, ⟨_, rfl, HSV.out.far (Afar.put9 _ _ _ _ _ _ _ _ _ fun b hb => ?_)⟩, HS.out.put9 HL.out _ (Nat.le_refl _) _ _ _ _ _ _ _ _ _⟩
  have hb2 : w.heap.size + 1 ≤ b := hb
  exact ⟨by show w.heap.size ≤ b; omega, by omega⟩
theorem grouped_any (w : World) (B : Nat) (c : CX) (V : LV) (p : PS) (h : PM w B c V p) (n : Nat) (grp : PS → TN × PS) (hgrp : GrpOk c (Gn n) grp) (hG : Gn n p) (HPie : Hid (∀ W q, PM W B c V q → Gn n q → Calls Tryz.prog 60 #[.pointer (some ⟨B, 0, none⟩)] W (Ret W B c V (pieW c grp q)))) : Calls Tryz.prog 105 #[.pointer (some ⟨B, 0, none⟩)] w (Ret w B c V (insW c grp p)) := by
  unfold insW
  by_cases hE : flg c.fl 1 = true
  · by_cases hk : kdT c p = 41
    · rw [if_pos ⟨hE, hk⟩]; exact grd_y w B c V p h n grp hgrp hG HPie hE hk
    · rw [if_neg (fun e => hk e.2)]; exact grd_n w B c V p h n grp hgrp hG HPie hE hk
  · rw [if_neg (fun e => hE e.1)]; exact grd_b w B c V p h n grp hgrp hG HPie (by simpa using hE)
end Go.Proofs.YtphiaagppcbefaaGreatDoor
