/- RxX. -/
import Derived.Test.YtphiaagppcbefaaGreatDoorPs35
import Derived.StillTailTactics
import Derived.Deep.CutRange
import Derived.Deep.Cut
import Derived.Deep.DeepCutAuto
import Derived.Test.YtphiaagppcbefaaGreatDoorPs30
import Derived.Test.YtphiaagppcbefaaGreatDoorPs9
import Derived.Test.YtphiaagppcbefaaGreatDoorPs8
set_option linter.unusedVariables false
namespace Go.Proofs.YtphiaagppcbefaaGreatDoor
open Go.RowKit
set_option maxRecDepth 100000 in
set_option maxHeartbeats 8000000 in
theorem cls_none (w : World) (B : Nat) (c : CX) (V : LV) (p : PS) (h : PM w B c V p) (h2 : p.at_ + 2 ≤ c.s.size) (he : endC c.s (c.s.size + 1) (p.at_ + 2) = none) :
    Calls Tryz.prog 129 #[.pointer (some ⟨B, 0, none⟩)] w fun e w' => e = .returned (cs noSet) ∧ Stp w B c V (failT c p 1 c.s.size) w' := by
  have hx : Below w.heap.size w (w.alloc (.cells #[.int .u64 0, .int .u64 0, .int .u64 0, .int .u64 0] 32)) := (Below.refl _ _).alloc (Nat.le_refl _) _
  have HS := Lib.hid (Stp.of_below h hx)
  have HR := Lib.hid (At.nw w)
  have HL := Lib.hid h.lt
  have hp := HS.out.1
  have hsz := h.sz
  have b2 : (p.at_ : Int) + 2 ≤ c.s.size := by omega
  have b3 : (c.s.size : Int) ≤ 256 := by omega
  obtain ⟨⟨x0, x1, x2, x3, x4, x5, x6, x7⟩, xf⟩ := HS.out.1.pa.all
  have HCut := Lib.hid (fun W hm => cut_none h2 he W hm hsz)
  clear h hx hsz he h2
  go_enter Tryz.func129, Tryz.ntmps129
  go_wp2_with (first
    | (go_at_call 142; refine (HCut.out _ hp.lk.max).mono ?_; rintro e wc ⟨⟨ca, cb, rfl⟩, nq, rfl⟩; have HR := Lib.hid (HR.out.below (below_drewN (Below.refl _ _) nq) HR.out.lt); have HS := Lib.hid (HS.out.next (below_drewN (Below.refl _ _) nq)); clear x0 x1 x2 x3 x4 x5 x6 x7 xf; clear hp; generalize World.drewN _ nq = wc at HS HR ⊢; obtain ⟨⟨x0, x1, x2, x3, x4, x5, x6, x7⟩, xf⟩ := HS.out.1.pa.all; have hp := HS.out.1; obtain ⟨⟨r0, r1⟩, ⟨r2, r3⟩, rf⟩ := HR.out.words; obtain ⟨⟨l0, l1, l2⟩, ⟨l3, l4, l5⟩⟩ := hp.pa.lcells)
    | (go_at_call 104; refine (fail_any _ B c V _ HS.out.1 1 c.s.size).mono ?_; rintro e wz ⟨rfl, hs⟩; have HR := Lib.hid (HR.out.only hs.2 (by have := HL.out; omega)); have HS := Lib.hid (HS.out.trans hs); clear r0 r1 r2 r3 rf; clear x0 x1 x2 x3 x4 x5 x6 x7 xf; obtain ⟨⟨r0, r1⟩, ⟨r2, r3⟩, rf⟩ := HR.out.words; clear hs)
    )
  exact bodyPost_ret (v := cs noSet) (ret_cs (q := noSet) Tryz.results129 _ _ w.heap.size (by simp) (HR.out.put4 noSet)) rfl ⟨rfl, HS.out.put4 HL.out _ (Nat.le_refl _) noSet⟩
set_option maxRecDepth 100000 in
set_option maxHeartbeats 8000000 in
theorem cls_no (w : World) (B : Nat) (c : CX) (V : LV) (p : PS) (h : PM w B c V p) (h2 : p.at_ + 2 ≤ c.s.size) (k : Nat) (he : endC c.s (c.s.size + 1) (p.at_ + 2) = some k) (Q : Nat → Bool) (hq : clsR (vld c.L) (c.s.extract (p.at_ + 2) k) = (Q, false)) :
    Calls Tryz.prog 129 #[.pointer (some ⟨B, 0, none⟩)] w fun e w' => e = .returned (cs noSet) ∧ Stp w B c V (failT c p 4 p.at_) w' := by
  have hx : Below w.heap.size w (w.alloc (.cells #[.int .u64 0, .int .u64 0, .int .u64 0, .int .u64 0] 32)) := (Below.refl _ _).alloc (Nat.le_refl _) _
  have HS := Lib.hid (Stp.of_below h hx)
  have HR := Lib.hid (At.nw w)
  have HL := Lib.hid h.lt
  have hp := HS.out.1
  have hsz := h.sz
  have b2 : (p.at_ : Int) + 2 ≤ c.s.size := by omega
  have b3 : (c.s.size : Int) ≤ 256 := by omega
  obtain ⟨⟨x0, x1, x2, x3, x4, x5, x6, x7⟩, xf⟩ := HS.out.1.pa.all
  have hCut := fun W hm => cut_some h2 k he W hm hsz
  have hk := endC_le _ _ _ _ he
  have hns : (c.s.extract (p.at_ + 2) k).size = k - (p.at_ + 2) := by rw [ByteArray.size_extract]; omega
  generalize c.s.extract (p.at_ + 2) k = NM at *
  have HCut := Lib.hid hCut
  have HCl : Hid (∀ W, ltabAt W → LocM W c.L V.W V.C V.E → Calls Tryz.prog 143 #[.agg (lcl c.L V.W V.C V.E), .string NM] W fun e w' => e = .returned (.tuple #[cs Q, .bool false]) ∧ Below W.heap.size W w') := fun W ht hM => by
    have := pClass_any c.L V.W V.C V.E NM W ht hM
    rw [hq] at this
    exact this
  have b4 : (NM.size : Int) ≤ 256 := by omega
  have HNM : Hid (((k + 2 : Nat) : Int) = (p.at_ : Int) + (2 + (NM.size : Int) + 2)) := by show ((k + 2 : Nat) : Int) = _; omega
  have HK := Lib.hid hk
  unfold cs cl lcl at HCl
  clear h hx hsz he h2 hq hCut hk hns
  go_enter Tryz.func129, Tryz.ntmps129
  go_wp2_with (first
    | (go_at_call 142; refine (HCut.out _ hp.lk.max).mono ?_; rintro e wc ⟨⟨cb, rfl⟩, nq, rfl⟩; have HR := Lib.hid (HR.out.below (below_drewN (Below.refl _ _) nq) HR.out.lt); have HS := Lib.hid (HS.out.next (below_drewN (Below.refl _ _) nq)); clear x0 x1 x2 x3 x4 x5 x6 x7 xf; clear hp; generalize World.drewN _ nq = wc at HS HR ⊢; obtain ⟨⟨x0, x1, x2, x3, x4, x5, x6, x7⟩, xf⟩ := HS.out.1.pa.all; have hp := HS.out.1; obtain ⟨⟨r0, r1⟩, ⟨r2, r3⟩, rf⟩ := HR.out.words; obtain ⟨⟨l0, l1, l2⟩, ⟨l3, l4, l5⟩⟩ := hp.pa.lcells)
    | (go_at_call 143; refine (HCl.out _ hp.lk.ltab hp.lk.loc).mono ?_; rintro e wv ⟨rfl, hb⟩; have hx9 : Below _ _ (wv.alloc (.cells #[.int .u64 (wd Q 0 64 : Nat), .int .u64 (wd Q 64 64 : Nat), .int .u64 (wd Q 128 64 : Nat), .int .u64 (wd Q 192 64 : Nat)] 32)) := hb.alloc hb.size _; have HR := Lib.hid (HR.out.below hx9 HR.out.lt); have HS := Lib.hid (HS.out.next hx9); have HQ := Lib.hid (At.new wv Q); clear r0 r1 r2 r3 rf l0 l1 l2 l3 l4 l5; clear x0 x1 x2 x3 x4 x5 x6 x7 xf; clear hb hp hx9; have hp := HS.out.1; obtain ⟨⟨x0, x1, x2, x3, x4, x5, x6, x7⟩, xf⟩ := hp.pa.all; obtain ⟨⟨r0, r1⟩, ⟨r2, r3⟩, rf⟩ := HR.out.words; obtain ⟨⟨t0, t1⟩, ⟨t2, t3⟩, tf⟩ := HQ.out.words)
    | (go_at_call 104; refine (fail_any _ B c V _ HS.out.1 4 p.at_).mono ?_; rintro e wz ⟨rfl, hs⟩; have HR := Lib.hid (HR.out.only hs.2 (by have := HL.out; omega)); have HS := Lib.hid (HS.out.trans hs); clear r0 r1 r2 r3 rf; clear x0 x1 x2 x3 x4 x5 x6 x7 xf; obtain ⟨⟨r0, r1⟩, ⟨r2, r3⟩, rf⟩ := HR.out.words; clear hs)
    )
  exact bodyPost_ret (v := cs noSet) (ret_cs (q := noSet) Tryz.results129 _ _ w.heap.size (by simp) (HR.out.put4 noSet)) rfl ⟨rfl, HS.out.put4 HL.out _ (Nat.le_refl _) noSet⟩
set_option maxRecDepth 100000 in
set_option maxHeartbeats 8000000 in
theorem cls_ok (w : World) (B : Nat) (c : CX) (V : LV) (p : PS) (h : PM w B c V p) (h2 : p.at_ + 2 ≤ c.s.size) (k : Nat) (he : endC c.s (c.s.size + 1) (p.at_ + 2) = some k) (Q : Nat → Bool) (hq : clsR (vld c.L) (c.s.extract (p.at_ + 2) k) = (Q, true)) :
    Calls Tryz.prog 129 #[.pointer (some ⟨B, 0, none⟩)] w fun e w' => e = .returned (cs Q) ∧ Stp w B c V (p.to (k + 2)) w' := by
  have hx : Below w.heap.size w (w.alloc (.cells #[.int .u64 0, .int .u64 0, .int .u64 0, .int .u64 0] 32)) := (Below.refl _ _).alloc (Nat.le_refl _) _
  have HS := Lib.hid (Stp.of_below h hx)
  have HR := Lib.hid (At.nw w)
  have HL := Lib.hid h.lt
  have hp := HS.out.1
  have hsz := h.sz
  have b2 : (p.at_ : Int) + 2 ≤ c.s.size := by omega
  have b3 : (c.s.size : Int) ≤ 256 := by omega
  obtain ⟨⟨x0, x1, x2, x3, x4, x5, x6, x7⟩, xf⟩ := HS.out.1.pa.all
  have hCut := fun W hm => cut_some h2 k he W hm hsz
  have hk := endC_le _ _ _ _ he
  have hns : (c.s.extract (p.at_ + 2) k).size = k - (p.at_ + 2) := by rw [ByteArray.size_extract]; omega
  generalize c.s.extract (p.at_ + 2) k = NM at *
  have HCut := Lib.hid hCut
  have HCl : Hid (∀ W, ltabAt W → LocM W c.L V.W V.C V.E → Calls Tryz.prog 143 #[.agg (lcl c.L V.W V.C V.E), .string NM] W fun e w' => e = .returned (.tuple #[cs Q, .bool true]) ∧ Below W.heap.size W w') := fun W ht hM => by
    have := pClass_any c.L V.W V.C V.E NM W ht hM
    rw [hq] at this
    exact this
  have b4 : (NM.size : Int) ≤ 256 := by omega
  have HNM : Hid (((k + 2 : Nat) : Int) = (p.at_ : Int) + (2 + (NM.size : Int) + 2)) := by show ((k + 2 : Nat) : Int) = _; omega
  have HK := Lib.hid hk
  unfold cs cl lcl at HCl
  clear h hx hsz he h2 hq hCut hk hns
  go_enter Tryz.func129, Tryz.ntmps129
  go_wp2_with (first
    | (go_at_call 142; refine (HCut.out _ hp.lk.max).mono ?_; rintro e wc ⟨⟨cb, rfl⟩, nq, rfl⟩; have HR := Lib.hid (HR.out.below (below_drewN (Below.refl _ _) nq) HR.out.lt); have HS := Lib.hid (HS.out.next (below_drewN (Below.refl _ _) nq)); clear x0 x1 x2 x3 x4 x5 x6 x7 xf; clear hp; generalize World.drewN _ nq = wc at HS HR ⊢; obtain ⟨⟨x0, x1, x2, x3, x4, x5, x6, x7⟩, xf⟩ := HS.out.1.pa.all; have hp := HS.out.1; obtain ⟨⟨r0, r1⟩, ⟨r2, r3⟩, rf⟩ := HR.out.words; obtain ⟨⟨l0, l1, l2⟩, ⟨l3, l4, l5⟩⟩ := hp.pa.lcells)
    | (go_at_call 143; refine (HCl.out _ hp.lk.ltab hp.lk.loc).mono ?_; rintro e wv ⟨rfl, hb⟩; have hx9 : Below _ _ (wv.alloc (.cells #[.int .u64 (wd Q 0 64 : Nat), .int .u64 (wd Q 64 64 : Nat), .int .u64 (wd Q 128 64 : Nat), .int .u64 (wd Q 192 64 : Nat)] 32)) := hb.alloc hb.size _; have HR := Lib.hid (HR.out.below hx9 HR.out.lt); have HS := Lib.hid (HS.out.next hx9); have HQ := Lib.hid (At.new wv Q); clear r0 r1 r2 r3 rf l0 l1 l2 l3 l4 l5; clear x0 x1 x2 x3 x4 x5 x6 x7 xf; clear hb hp hx9; have hp := HS.out.1; obtain ⟨⟨x0, x1, x2, x3, x4, x5, x6, x7⟩, xf⟩ := hp.pa.all; obtain ⟨⟨r0, r1⟩, ⟨r2, r3⟩, rf⟩ := HR.out.words; obtain ⟨⟨t0, t1⟩, ⟨t2, t3⟩, tf⟩ := HQ.out.words)
    )
  have HE := Lib.hid (HS.out.moved (k + 2) HK.out.2 (by have := HK.out.1; omega))
  have HR2 := Lib.hid (HR.out.only ((Only.refl B _).put 8 (.int .i64 ((k + 2 : Nat) : Int))) (by have := HL.out; omega))
  rw [HNM.out] at HE HR2
  exact bodyPost_ret (v := cs Q) (ret_cs (q := Q) Tryz.results129 _ _ w.heap.size (by simp) (HR2.out.put4 Q)) rfl ⟨rfl, HE.out.put4 HL.out _ (Nat.le_refl _) Q⟩
theorem pclass_any (w : World) (B : Nat) (c : CX) (V : LV) (p : PS) (h : PM w B c V p) (h2 : p.at_ + 2 ≤ c.s.size) :
    Calls Tryz.prog 129 #[.pointer (some ⟨B, 0, none⟩)] w fun e w' => e = .returned (cs (clsT c p).1) ∧ Stp w B c V (clsT c p).2 w' := by
  unfold clsT
  cases he : endC c.s (c.s.size + 1) (p.at_ + 2) with
  | none => exact cls_none w B c V p h h2 he
  | some k =>
    obtain ⟨⟨Q, b⟩, hq⟩ : ∃ r, clsR (vld c.L) (c.s.extract (p.at_ + 2) k) = r := ⟨_, rfl⟩
    simp only [hq]
    cases b with
    | true => exact cls_ok w B c V p h h2 k he Q hq
    | false => exact cls_no w B c V p h h2 k he Q hq
end Go.Proofs.YtphiaagppcbefaaGreatDoor
