/- RxU. -/
import Derived.Test.YtphiaagppcbefaaGreatDoorPs29
import Derived.StillTailTactics
import Derived.Deep.CutRange
import Derived.Deep.Cut
import Derived.Deep.DeepCutAuto
import Derived.Test.YtphiaagppcbefaaGreatDoorPs31
set_option linter.unusedVariables false
namespace Go.Proofs.YtphiaagppcbefaaGreatDoor
open Go.RowKit
set_option maxRecDepth 100000 in
set_option maxHeartbeats 8000000 in
theorem gro_4_y (w : World) (B : Nat) (c : CX) (V : LV) (p : PS) (h : PM w B c V p) (n : Nat) (HIns : Hid (∀ W q, PM W B c V q → Gn n q → Calls Tryz.prog 105 #[.pointer (some ⟨B, 0, none⟩)] W (Ret W B c V (insW c (groT c n) q)))) (hg : p.gr = 4) (hk : kdT c p = 40) (hG : Gn (n + 1) p) (a : TN × PS) (ha : insW c (groT c n) (begP (pastT c (opnP p))) = a) (hao : a.2.opn = p.opn + 1) (hc : kdT c a.2 = 41) :
    Calls Tryz.prog 83 #[.pointer (some ⟨B, 0, none⟩)] w (Ret w B c V (grpR 5 a.1, cloP (pastT c a.2) 5)) := by
  have hx : Below w.heap.size w (w.alloc (.cells #[.int .i64 0, .int .u64 0, .int .u64 0, .int .u64 0, .int .u64 0, .int .i64 0, .int .i64 0, .int .i64 0, .slice none 0 0] 35)) := (Below.refl _ _).alloc (Nat.le_refl _) _
  have HS := Lib.hid (Stp.of_below h hx)
  have HR := Lib.hid (RAt.one w #[.int .i64 0, .int .u64 0, .int .u64 0, .int .u64 0, .int .u64 0, .int .i64 0, .int .i64 0, .int .i64 0, .slice none 0 0])
  have HL := Lib.hid h.lt
  have hop := h.opn
  have hgr := h.gr
  have hk2 : kdT c (opnP p) = 40 := by
    have : tokT c (opnP p) = tokT c p := kd_same rfl rfl
    unfold kdT
    rw [this]
    exact hk
  have hgq : (pastT c (opnP p)).gr = p.gr + 1 := rfl
  obtain ⟨q, hq⟩ : ∃ q, pastT c (opnP p) = q := ⟨_, rfl⟩
  rw [hq] at ha hgq
  have HA : Hid (∀ W, PM W B c V (opnP p) → Calls Tryz.prog 41 #[.pointer (some ⟨B, 0, none⟩), .int .i32 40] W fun e w' => e = .returned (.bool true) ∧ Stp W B c V q w') := fun W h => by
    rw [← hq]
    exact accept_yes W B c V (opnP p) h 40 (by decide) (by decide) hk2
  have HI : Hid (∀ W, PM W B c V (begP q) → Calls Tryz.prog 105 #[.pointer (some ⟨B, 0, none⟩)] W (Ret W B c V a)) := fun W hW => by
    rw [← ha]
    exact HIns.out W _ hW (by have h2 : 10 ≤ p.gr + (n + 1) := hG; show 10 ≤ q.gr + n; omega)
  have HC := Lib.hid (fun W h => accept_yes W B c V a.2 h 41 (by decide) (by decide) hc)
  obtain ⟨⟨x0, x1, x2, x3, x4, x5, x6, x7⟩, xf⟩ := HS.out.1.pa.all
  have HO := Lib.hid (HS.out.1.opened (by omega))
  rw [show ((p.gr + 1 : Nat) : Int) = 5 by omega, show ((p.opn + 1 : Nat) : Int) = (p.opn : Int) + 1 by omega] at HO
  rw [hg] at x4
  have ob : (p.opn : Int) ≤ 9 := by omega
  have HGP := Lib.hid hg
  have HAO := Lib.hid hao
  have HWZ : Hid (w.heap.size + 1 ≤ (w.alloc (.cells #[.int .i64 0, .int .u64 0, .int .u64 0, .int .u64 0, .int .u64 0, .int .i64 0, .int .i64 0, .int .i64 0, .slice none 0 0] 35)).heap.size) := by show w.heap.size + 1 ≤ _; simp
  have hob : (a.2.opn : Int) = (p.opn : Int) + 1 := by omega
  have HOB := Lib.hid hob
  clear h hx hg hk hG ha hao hc hop hgr hk2 hob hq hgq
  go_enter Tryz.func83, Tryz.ntmps83
  go_upto_region 6 with fail
  have HR := Lib.hid (HR.out.only HO.out.2 (by have := HL.out; omega))
  have HWZ := Lib.hid (Nat.le_trans HWZ.out HO.out.2.size)
  have HS := Lib.hid (HS.out.trans HO.out)
  generalize (World.setCell _ ⟨B, 11, none⟩ _) = W1 at HS HR HWZ ⊢
  clear x0 x1 x2 x3 x4 x5 x6 x7 xf
  obtain ⟨⟨x0, x1, x2, x3, x4, x5, x6, x7⟩, xf⟩ := HS.out.1.pa.all
  have e10 : (((opnP p).gr : Nat) : Int) = 5 := by show ((p.gr + 1 : Nat) : Int) = 5; have := HGP.out; omega
  rw [e10] at x4
  have hp := HS.out.1
  clear e10
  go_upto_region 8 with (first
    | (go_at_call 41; (with_reducible refine (HA.out _ hp).mono ?_); rintro e wz ⟨rfl, hs⟩; have HR := Lib.hid (HR.out.only hs.2 (by have := HL.out; omega)); have HWZ := Lib.hid (Nat.le_trans HWZ.out hs.2.size); have HS := Lib.hid (HS.out.trans hs); clear x0 x1 x2 x3 x4 x5 x6 x7 xf; obtain ⟨⟨x0, x1, x2, x3, x4, x5, x6, x7⟩, xf⟩ := HS.out.1.pa.all; clear hp hs; have hp := HS.out.1)
    )
  have HB2 := Lib.hid HS.out.1.begun
  go_upto_region 9 with fail
  have HR := Lib.hid (HR.out.only HB2.out.2 (by have := HL.out; omega))
  have HWZ := Lib.hid (Nat.le_trans HWZ.out HB2.out.2.size)
  have HS := Lib.hid (HS.out.trans HB2.out)
  generalize (World.setCell _ ⟨B, 9, none⟩ _) = W2 at HS HR HWZ ⊢
  clear x0 x1 x2 x3 x4 x5 x6 x7 xf
  clear hp
  have hp := HS.out.1
  go_upto_region 12 with (first
    | (go_at_call 105; (with_reducible refine (HI.out _ hp).mono ?_); rintro e w5 ⟨vv, rfl, ht, hs⟩; obtain ⟨sv, rfl, hsv⟩ := ht; obtain ⟨ad, cp, rfl⟩ := slice_form hsv; unfold rowV; have hx5 : Below w5.heap.size w5 (w5.alloc (.cells #[.int .i64 a.1.op, .int .u64 (wd a.1.st 0 64 : Nat), .int .u64 (wd a.1.st 64 64 : Nat), .int .u64 (wd a.1.st 128 64 : Nat), .int .u64 (wd a.1.st 192 64 : Nat), .int .i64 a.1.lo, .int .i64 a.1.hi, .int .i64 a.1.g, .slice ad a.1.args.len cp] 35)) := (Below.refl _ _).alloc (Nat.le_refl _) _; have hwz := HWZ.out; have HSV := Lib.hid (hsv.far (Afar.frm (m := w.heap.size + 1) hx5 hwz)); have HR := Lib.hid ((HR.out.only hs.2 (by have := HL.out; omega)).below hx5); have HWZ := Lib.hid (Nat.le_trans (Nat.le_trans hwz hs.2.size) hx5.size); have HS := Lib.hid (HS.out.trans (hs.next hx5)); have HX := Lib.hid (RAt.one w5 #[.int .i64 a.1.op, .int .u64 (wd a.1.st 0 64 : Nat), .int .u64 (wd a.1.st 64 64 : Nat), .int .u64 (wd a.1.st 128 64 : Nat), .int .u64 (wd a.1.st 192 64 : Nat), .int .i64 a.1.lo, .int .i64 a.1.hi, .int .i64 a.1.g, .slice ad a.1.args.len cp]); have HXN := Lib.hid (Nat.le_trans hwz hs.2.size); clear hp hs hsv hwz hx5; have hp := HS.out.1)
    | (go_at_call 41; (with_reducible refine (HC.out _ hp).mono ?_); rintro e wz ⟨rfl, hs⟩; have HX := Lib.hid (HX.out.only hs.2 (by have := HXN.out; have := HL.out; omega)); have HSV := Lib.hid (HSV.out.far (Afar.only hs.2 (by have := HL.out; omega) (Nat.le_refl _))); have HR := Lib.hid (HR.out.only hs.2 (by have := HL.out; omega)); have HWZ := Lib.hid (Nat.le_trans HWZ.out hs.2.size); have HS := Lib.hid (HS.out.trans hs); clear hp hs; have hp := HS.out.1)
    | (go_at_call 90; refine (unexpected_any _ B c V _ hp).mono ?_; rintro e wz ⟨rfl, hs⟩; have HX := Lib.hid (HX.out.only hs.2 (by have := HXN.out; have := HL.out; omega)); have HSV := Lib.hid (HSV.out.far (Afar.only hs.2 (by have := HL.out; omega) (Nat.le_refl _))); have HR := Lib.hid (HR.out.only hs.2 (by have := HL.out; omega)); have HWZ := Lib.hid (Nat.le_trans HWZ.out hs.2.size); have HS := Lib.hid (HS.out.trans hs); clear hp hs; have hp := HS.out.1)
    )
  clear hp
  obtain ⟨⟨x0, x1, x2, x3, x4, x5, x6, x7⟩, xf⟩ := HS.out.1.pa.all
  have hro0 : (pastT c a.2).opn = a.2.opn := by
    rfl
  have hro : ((pastT c a.2).opn : Int) = (p.opn : Int) + 1 := by
    rw [hro0]
    exact HOB.out
  have xcl : wz.cell? ⟨B, 17, none⟩ = some (.bool ((pastT c a.2).cl 5)) := HS.out.1.pa.closed 5 (by omega)
  rw [hro] at x5
  have HCl : Hid (Stp wz B c V (cloP (pastT c a.2) 5) ((wz.setCell ⟨B, 11, none⟩ (.int .i64 (p.opn : Int))).setCell ⟨B, 17, none⟩ (.bool true))) := by
    have := HS.out.1.shut 5 (by omega)
    rw [show (((pastT c a.2).opn - 1 : Nat) : Int) = (p.opn : Int) by omega] at this
    exact this
  clear hro hro0
  go_upto_region 14 with fail
  have HX := Lib.hid (HX.out.only HCl.out.2 (by have := HXN.out; have := HL.out; omega))
  have HSV := Lib.hid (HSV.out.far (Afar.only HCl.out.2 (by have := HL.out; omega) (Nat.le_refl _)))
  have HR := Lib.hid (HR.out.only HCl.out.2 (by have := HL.out; omega))
  have HWZ := Lib.hid (Nat.le_trans HWZ.out HCl.out.2.size)
  have HS := Lib.hid (HS.out.trans HCl.out)
  clear HCl
  generalize (World.setCell _ ⟨B, 17, none⟩ _) = w7 at HX HSV HR HWZ HS ⊢
  clear x0 x1 x2 x3 x4 x5 x6 x7 xf
  clear xcl
  have hx7 : Below w7.heap.size w7 (w7.alloc (.cells #[.int .i64 a.1.op, .int .u64 (wd a.1.st 0 64 : Nat), .int .u64 (wd a.1.st 64 64 : Nat), .int .u64 (wd a.1.st 128 64 : Nat), .int .u64 (wd a.1.st 192 64 : Nat), .int .i64 a.1.lo, .int .i64 a.1.hi, .int .i64 a.1.g, .slice ad a.1.args.len cp] 35)) := (Below.refl _ _).alloc (Nat.le_refl _) _
  have HX7 := Lib.hid hx7
  have hcl : RAt (w7.alloc (.cells #[.int .i64 a.1.op, .int .u64 (wd a.1.st 0 64 : Nat), .int .u64 (wd a.1.st 64 64 : Nat), .int .u64 (wd a.1.st 128 64 : Nat), .int .u64 (wd a.1.st 192 64 : Nat), .int .i64 a.1.lo, .int .i64 a.1.hi, .int .i64 a.1.g, .slice ad a.1.args.len cp] 35)) w.heap.size #[.int .i64 0, .int .u64 0, .int .u64 0, .int .u64 0, .int .u64 0, .int .i64 0, .int .i64 0, .int .i64 0, .slice none 0 0] := HR.out.below hx7
  have HR7 := Lib.hid hcl
  obtain ⟨⟨⟨n0, n1, n2⟩, ⟨n3, n4, n5⟩, ⟨n6, n7, n8⟩⟩, nf⟩ := hcl.all
  obtain ⟨⟨⟨m0, m1, m2⟩, ⟨m3, m4, m5⟩, ⟨m6, m7, m8⟩⟩, mf⟩ := HX.out.all
  clear hx7 hcl
  go_wp2
  refine bodyPost_ret (v := .agg #[.int .i64 6, .int .u64 0, .int .u64 0, .int .u64 0, .int .u64 0, .int .i64 0, .int .i64 0, .int .i64 5, .slice (some ⟨w7.heap.size, 0, none⟩) 1 1]) (ret_re Tryz.results83 _ _ w.heap.size _ rfl (by simp) (HR7.out.put9 _ _ _ _ _ _ _ _ _)) rfl ?_
  refine ⟨_, rfl, ⟨_, rfl, SV.one (t := a.1) (HSV.out.far ((Afar.frm HX7.out (Nat.le_refl _)).trans (Afar.put9 _ _ _ _ _ _ _ _ _ fun b hb => ?_))) ?_ ((RAt.one w7 #[.int .i64 a.1.op, .int .u64 (wd a.1.st 0 64 : Nat), .int .u64 (wd a.1.st 64 64 : Nat), .int .u64 (wd a.1.st 128 64 : Nat), .int .u64 (wd a.1.st 192 64 : Nat), .int .i64 a.1.lo, .int .i64 a.1.hi, .int .i64 a.1.g, .slice ad a.1.args.len cp]).same (put9_other _ _ _ _ _ _ _ _ _ _ _ _ ?_))⟩, (HS.out.next HX7.out).put9 HL.out _ (Nat.le_refl _) _ _ _ _ _ _ _ _ _⟩
  · have hb2 : w.heap.size + 1 ≤ b := hb
    exact ⟨by show w.heap.size ≤ b; omega, by omega⟩
  · have := HWZ.out
    show w.heap.size ≤ w7.heap.size
    omega
  · have := HWZ.out
    omega
set_option maxRecDepth 100000 in
set_option maxHeartbeats 8000000 in
theorem gro_4_n (w : World) (B : Nat) (c : CX) (V : LV) (p : PS) (h : PM w B c V p) (n : Nat) (HIns : Hid (∀ W q, PM W B c V q → Gn n q → Calls Tryz.prog 105 #[.pointer (some ⟨B, 0, none⟩)] W (Ret W B c V (insW c (groT c n) q)))) (hg : p.gr = 4) (hk : kdT c p = 40) (hG : Gn (n + 1) p) (a : TN × PS) (ha : insW c (groT c n) (begP (pastT c (opnP p))) = a) (hao : a.2.opn = p.opn + 1) (hc : kdT c a.2 ≠ 41) :
    Calls Tryz.prog 83 #[.pointer (some ⟨B, 0, none⟩)] w (Ret w B c V (grpR 5 a.1, cloP (unexT c a.2) 5)) := by
  have hx : Below w.heap.size w (w.alloc (.cells #[.int .i64 0, .int .u64 0, .int .u64 0, .int .u64 0, .int .u64 0, .int .i64 0, .int .i64 0, .int .i64 0, .slice none 0 0] 35)) := (Below.refl _ _).alloc (Nat.le_refl _) _
  have HS := Lib.hid (Stp.of_below h hx)
  have HR := Lib.hid (RAt.one w #[.int .i64 0, .int .u64 0, .int .u64 0, .int .u64 0, .int .u64 0, .int .i64 0, .int .i64 0, .int .i64 0, .slice none 0 0])
  have HL := Lib.hid h.lt
  have hop := h.opn
  have hgr := h.gr
  have hk2 : kdT c (opnP p) = 40 := by
    have : tokT c (opnP p) = tokT c p := kd_same rfl rfl
    unfold kdT
    rw [this]
    exact hk
  have hgq : (pastT c (opnP p)).gr = p.gr + 1 := rfl
  obtain ⟨q, hq⟩ : ∃ q, pastT c (opnP p) = q := ⟨_, rfl⟩
  rw [hq] at ha hgq
  have HA : Hid (∀ W, PM W B c V (opnP p) → Calls Tryz.prog 41 #[.pointer (some ⟨B, 0, none⟩), .int .i32 40] W fun e w' => e = .returned (.bool true) ∧ Stp W B c V q w') := fun W h => by
    rw [← hq]
    exact accept_yes W B c V (opnP p) h 40 (by decide) (by decide) hk2
  have HI : Hid (∀ W, PM W B c V (begP q) → Calls Tryz.prog 105 #[.pointer (some ⟨B, 0, none⟩)] W (Ret W B c V a)) := fun W hW => by
    rw [← ha]
    exact HIns.out W _ hW (by have h2 : 10 ≤ p.gr + (n + 1) := hG; show 10 ≤ q.gr + n; omega)
  have HC := Lib.hid (fun W h => accept_no W B c V a.2 h 41 (by decide) (by decide) hc)
  obtain ⟨⟨x0, x1, x2, x3, x4, x5, x6, x7⟩, xf⟩ := HS.out.1.pa.all
  have HO := Lib.hid (HS.out.1.opened (by omega))
  rw [show ((p.gr + 1 : Nat) : Int) = 5 by omega, show ((p.opn + 1 : Nat) : Int) = (p.opn : Int) + 1 by omega] at HO
  rw [hg] at x4
  have ob : (p.opn : Int) ≤ 9 := by omega
  have HGP := Lib.hid hg
  have HAO := Lib.hid hao
  have HWZ : Hid (w.heap.size + 1 ≤ (w.alloc (.cells #[.int .i64 0, .int .u64 0, .int .u64 0, .int .u64 0, .int .u64 0, .int .i64 0, .int .i64 0, .int .i64 0, .slice none 0 0] 35)).heap.size) := by show w.heap.size + 1 ≤ _; simp
  have hob : (a.2.opn : Int) = (p.opn : Int) + 1 := by omega
  have HOB := Lib.hid hob
  clear h hx hg hk hG ha hao hc hop hgr hk2 hob hq hgq
  go_enter Tryz.func83, Tryz.ntmps83
  go_upto_region 6 with fail
  have HR := Lib.hid (HR.out.only HO.out.2 (by have := HL.out; omega))
  have HWZ := Lib.hid (Nat.le_trans HWZ.out HO.out.2.size)
  have HS := Lib.hid (HS.out.trans HO.out)
  generalize (World.setCell _ ⟨B, 11, none⟩ _) = W1 at HS HR HWZ ⊢
  clear x0 x1 x2 x3 x4 x5 x6 x7 xf
  obtain ⟨⟨x0, x1, x2, x3, x4, x5, x6, x7⟩, xf⟩ := HS.out.1.pa.all
  have e10 : (((opnP p).gr : Nat) : Int) = 5 := by show ((p.gr + 1 : Nat) : Int) = 5; have := HGP.out; omega
  rw [e10] at x4
  have hp := HS.out.1
  clear e10
  go_upto_region 8 with (first
    | (go_at_call 41; (with_reducible refine (HA.out _ hp).mono ?_); rintro e wz ⟨rfl, hs⟩; have HR := Lib.hid (HR.out.only hs.2 (by have := HL.out; omega)); have HWZ := Lib.hid (Nat.le_trans HWZ.out hs.2.size); have HS := Lib.hid (HS.out.trans hs); clear x0 x1 x2 x3 x4 x5 x6 x7 xf; obtain ⟨⟨x0, x1, x2, x3, x4, x5, x6, x7⟩, xf⟩ := HS.out.1.pa.all; clear hp hs; have hp := HS.out.1)
    )
  have HB2 := Lib.hid HS.out.1.begun
  go_upto_region 9 with fail
  have HR := Lib.hid (HR.out.only HB2.out.2 (by have := HL.out; omega))
  have HWZ := Lib.hid (Nat.le_trans HWZ.out HB2.out.2.size)
  have HS := Lib.hid (HS.out.trans HB2.out)
  generalize (World.setCell _ ⟨B, 9, none⟩ _) = W2 at HS HR HWZ ⊢
  clear x0 x1 x2 x3 x4 x5 x6 x7 xf
  clear hp
  have hp := HS.out.1
  go_upto_region 12 with (first
    | (go_at_call 105; (with_reducible refine (HI.out _ hp).mono ?_); rintro e w5 ⟨vv, rfl, ht, hs⟩; obtain ⟨sv, rfl, hsv⟩ := ht; obtain ⟨ad, cp, rfl⟩ := slice_form hsv; unfold rowV; have hx5 : Below w5.heap.size w5 (w5.alloc (.cells #[.int .i64 a.1.op, .int .u64 (wd a.1.st 0 64 : Nat), .int .u64 (wd a.1.st 64 64 : Nat), .int .u64 (wd a.1.st 128 64 : Nat), .int .u64 (wd a.1.st 192 64 : Nat), .int .i64 a.1.lo, .int .i64 a.1.hi, .int .i64 a.1.g, .slice ad a.1.args.len cp] 35)) := (Below.refl _ _).alloc (Nat.le_refl _) _; have hwz := HWZ.out; have HSV := Lib.hid (hsv.far (Afar.frm (m := w.heap.size + 1) hx5 hwz)); have HR := Lib.hid ((HR.out.only hs.2 (by have := HL.out; omega)).below hx5); have HWZ := Lib.hid (Nat.le_trans (Nat.le_trans hwz hs.2.size) hx5.size); have HS := Lib.hid (HS.out.trans (hs.next hx5)); have HX := Lib.hid (RAt.one w5 #[.int .i64 a.1.op, .int .u64 (wd a.1.st 0 64 : Nat), .int .u64 (wd a.1.st 64 64 : Nat), .int .u64 (wd a.1.st 128 64 : Nat), .int .u64 (wd a.1.st 192 64 : Nat), .int .i64 a.1.lo, .int .i64 a.1.hi, .int .i64 a.1.g, .slice ad a.1.args.len cp]); have HXN := Lib.hid (Nat.le_trans hwz hs.2.size); clear hp hs hsv hwz hx5; have hp := HS.out.1)
    | (go_at_call 41; (with_reducible refine (HC.out _ hp).mono ?_); rintro e wz ⟨rfl, hs⟩; have HX := Lib.hid (HX.out.only hs.2 (by have := HXN.out; have := HL.out; omega)); have HSV := Lib.hid (HSV.out.far (Afar.only hs.2 (by have := HL.out; omega) (Nat.le_refl _))); have HR := Lib.hid (HR.out.only hs.2 (by have := HL.out; omega)); have HWZ := Lib.hid (Nat.le_trans HWZ.out hs.2.size); have HS := Lib.hid (HS.out.trans hs); clear hp hs; have hp := HS.out.1)
    | (go_at_call 90; refine (unexpected_any _ B c V _ hp).mono ?_; rintro e wz ⟨rfl, hs⟩; have HX := Lib.hid (HX.out.only hs.2 (by have := HXN.out; have := HL.out; omega)); have HSV := Lib.hid (HSV.out.far (Afar.only hs.2 (by have := HL.out; omega) (Nat.le_refl _))); have HR := Lib.hid (HR.out.only hs.2 (by have := HL.out; omega)); have HWZ := Lib.hid (Nat.le_trans HWZ.out hs.2.size); have HS := Lib.hid (HS.out.trans hs); clear hp hs; have hp := HS.out.1)
    )
  clear hp
  obtain ⟨⟨x0, x1, x2, x3, x4, x5, x6, x7⟩, xf⟩ := HS.out.1.pa.all
  have hro0 : (unexT c a.2).opn = a.2.opn := by
    unfold unexT failT; split <;> rfl
  have hro : ((unexT c a.2).opn : Int) = (p.opn : Int) + 1 := by
    rw [hro0]
    exact HOB.out
  have xcl : wz.cell? ⟨B, 17, none⟩ = some (.bool ((unexT c a.2).cl 5)) := HS.out.1.pa.closed 5 (by omega)
  rw [hro] at x5
  have HCl : Hid (Stp wz B c V (cloP (unexT c a.2) 5) ((wz.setCell ⟨B, 11, none⟩ (.int .i64 (p.opn : Int))).setCell ⟨B, 17, none⟩ (.bool true))) := by
    have := HS.out.1.shut 5 (by omega)
    rw [show (((unexT c a.2).opn - 1 : Nat) : Int) = (p.opn : Int) by omega] at this
    exact this
  clear hro hro0
  go_upto_region 14 with fail
  have HX := Lib.hid (HX.out.only HCl.out.2 (by have := HXN.out; have := HL.out; omega))
  have HSV := Lib.hid (HSV.out.far (Afar.only HCl.out.2 (by have := HL.out; omega) (Nat.le_refl _)))
  have HR := Lib.hid (HR.out.only HCl.out.2 (by have := HL.out; omega))
  have HWZ := Lib.hid (Nat.le_trans HWZ.out HCl.out.2.size)
  have HS := Lib.hid (HS.out.trans HCl.out)
  clear HCl
  generalize (World.setCell _ ⟨B, 17, none⟩ _) = w7 at HX HSV HR HWZ HS ⊢
  clear x0 x1 x2 x3 x4 x5 x6 x7 xf
  clear xcl
  have hx7 : Below w7.heap.size w7 (w7.alloc (.cells #[.int .i64 a.1.op, .int .u64 (wd a.1.st 0 64 : Nat), .int .u64 (wd a.1.st 64 64 : Nat), .int .u64 (wd a.1.st 128 64 : Nat), .int .u64 (wd a.1.st 192 64 : Nat), .int .i64 a.1.lo, .int .i64 a.1.hi, .int .i64 a.1.g, .slice ad a.1.args.len cp] 35)) := (Below.refl _ _).alloc (Nat.le_refl _) _
  have HX7 := Lib.hid hx7
  have hcl : RAt (w7.alloc (.cells #[.int .i64 a.1.op, .int .u64 (wd a.1.st 0 64 : Nat), .int .u64 (wd a.1.st 64 64 : Nat), .int .u64 (wd a.1.st 128 64 : Nat), .int .u64 (wd a.1.st 192 64 : Nat), .int .i64 a.1.lo, .int .i64 a.1.hi, .int .i64 a.1.g, .slice ad a.1.args.len cp] 35)) w.heap.size #[.int .i64 0, .int .u64 0, .int .u64 0, .int .u64 0, .int .u64 0, .int .i64 0, .int .i64 0, .int .i64 0, .slice none 0 0] := HR.out.below hx7
  have HR7 := Lib.hid hcl
  obtain ⟨⟨⟨n0, n1, n2⟩, ⟨n3, n4, n5⟩, ⟨n6, n7, n8⟩⟩, nf⟩ := hcl.all
  obtain ⟨⟨⟨m0, m1, m2⟩, ⟨m3, m4, m5⟩, ⟨m6, m7, m8⟩⟩, mf⟩ := HX.out.all
  clear hx7 hcl
  go_wp2
  refine bodyPost_ret (v := .agg #[.int .i64 6, .int .u64 0, .int .u64 0, .int .u64 0, .int .u64 0, .int .i64 0, .int .i64 0, .int .i64 5, .slice (some ⟨w7.heap.size, 0, none⟩) 1 1]) (ret_re Tryz.results83 _ _ w.heap.size _ rfl (by simp) (HR7.out.put9 _ _ _ _ _ _ _ _ _)) rfl ?_
  refine ⟨_, rfl, ⟨_, rfl, SV.one (t := a.1) (HSV.out.far ((Afar.frm HX7.out (Nat.le_refl _)).trans (Afar.put9 _ _ _ _ _ _ _ _ _ fun b hb => ?_))) ?_ ((RAt.one w7 #[.int .i64 a.1.op, .int .u64 (wd a.1.st 0 64 : Nat), .int .u64 (wd a.1.st 64 64 : Nat), .int .u64 (wd a.1.st 128 64 : Nat), .int .u64 (wd a.1.st 192 64 : Nat), .int .i64 a.1.lo, .int .i64 a.1.hi, .int .i64 a.1.g, .slice ad a.1.args.len cp]).same (put9_other _ _ _ _ _ _ _ _ _ _ _ _ ?_))⟩, (HS.out.next HX7.out).put9 HL.out _ (Nat.le_refl _) _ _ _ _ _ _ _ _ _⟩
  · have hb2 : w.heap.size + 1 ≤ b := hb
    exact ⟨by show w.heap.size ≤ b; omega, by omega⟩
  · have := HWZ.out
    show w.heap.size ≤ w7.heap.size
    omega
  · have := HWZ.out
    omega
set_option maxRecDepth 100000 in
set_option maxHeartbeats 8000000 in
theorem gro_5_y (w : World) (B : Nat) (c : CX) (V : LV) (p : PS) (h : PM w B c V p) (n : Nat) (HIns : Hid (∀ W q, PM W B c V q → Gn n q → Calls Tryz.prog 105 #[.pointer (some ⟨B, 0, none⟩)] W (Ret W B c V (insW c (groT c n) q)))) (hg : p.gr = 5) (hk : kdT c p = 40) (hG : Gn (n + 1) p) (a : TN × PS) (ha : insW c (groT c n) (begP (pastT c (opnP p))) = a) (hao : a.2.opn = p.opn + 1) (hc : kdT c a.2 = 41) :
    Calls Tryz.prog 83 #[.pointer (some ⟨B, 0, none⟩)] w (Ret w B c V (grpR 6 a.1, cloP (pastT c a.2) 6)) := by
  have hx : Below w.heap.size w (w.alloc (.cells #[.int .i64 0, .int .u64 0, .int .u64 0, .int .u64 0, .int .u64 0, .int .i64 0, .int .i64 0, .int .i64 0, .slice none 0 0] 35)) := (Below.refl _ _).alloc (Nat.le_refl _) _
  have HS := Lib.hid (Stp.of_below h hx)
  have HR := Lib.hid (RAt.one w #[.int .i64 0, .int .u64 0, .int .u64 0, .int .u64 0, .int .u64 0, .int .i64 0, .int .i64 0, .int .i64 0, .slice none 0 0])
  have HL := Lib.hid h.lt
  have hop := h.opn
  have hgr := h.gr
  have hk2 : kdT c (opnP p) = 40 := by
    have : tokT c (opnP p) = tokT c p := kd_same rfl rfl
    unfold kdT
    rw [this]
    exact hk
  have hgq : (pastT c (opnP p)).gr = p.gr + 1 := rfl
  obtain ⟨q, hq⟩ : ∃ q, pastT c (opnP p) = q := ⟨_, rfl⟩
  rw [hq] at ha hgq
  have HA : Hid (∀ W, PM W B c V (opnP p) → Calls Tryz.prog 41 #[.pointer (some ⟨B, 0, none⟩), .int .i32 40] W fun e w' => e = .returned (.bool true) ∧ Stp W B c V q w') := fun W h => by
    rw [← hq]
    exact accept_yes W B c V (opnP p) h 40 (by decide) (by decide) hk2
  have HI : Hid (∀ W, PM W B c V (begP q) → Calls Tryz.prog 105 #[.pointer (some ⟨B, 0, none⟩)] W (Ret W B c V a)) := fun W hW => by
    rw [← ha]
    exact HIns.out W _ hW (by have h2 : 10 ≤ p.gr + (n + 1) := hG; show 10 ≤ q.gr + n; omega)
  have HC := Lib.hid (fun W h => accept_yes W B c V a.2 h 41 (by decide) (by decide) hc)
  obtain ⟨⟨x0, x1, x2, x3, x4, x5, x6, x7⟩, xf⟩ := HS.out.1.pa.all
  have HO := Lib.hid (HS.out.1.opened (by omega))
  rw [show ((p.gr + 1 : Nat) : Int) = 6 by omega, show ((p.opn + 1 : Nat) : Int) = (p.opn : Int) + 1 by omega] at HO
  rw [hg] at x4
  have ob : (p.opn : Int) ≤ 9 := by omega
  have HGP := Lib.hid hg
  have HAO := Lib.hid hao
  have HWZ : Hid (w.heap.size + 1 ≤ (w.alloc (.cells #[.int .i64 0, .int .u64 0, .int .u64 0, .int .u64 0, .int .u64 0, .int .i64 0, .int .i64 0, .int .i64 0, .slice none 0 0] 35)).heap.size) := by show w.heap.size + 1 ≤ _; simp
  have hob : (a.2.opn : Int) = (p.opn : Int) + 1 := by omega
  have HOB := Lib.hid hob
  clear h hx hg hk hG ha hao hc hop hgr hk2 hob hq hgq
  go_enter Tryz.func83, Tryz.ntmps83
  go_upto_region 6 with fail
  have HR := Lib.hid (HR.out.only HO.out.2 (by have := HL.out; omega))
  have HWZ := Lib.hid (Nat.le_trans HWZ.out HO.out.2.size)
  have HS := Lib.hid (HS.out.trans HO.out)
  generalize (World.setCell _ ⟨B, 11, none⟩ _) = W1 at HS HR HWZ ⊢
  clear x0 x1 x2 x3 x4 x5 x6 x7 xf
  obtain ⟨⟨x0, x1, x2, x3, x4, x5, x6, x7⟩, xf⟩ := HS.out.1.pa.all
  have e10 : (((opnP p).gr : Nat) : Int) = 6 := by show ((p.gr + 1 : Nat) : Int) = 6; have := HGP.out; omega
  rw [e10] at x4
  have hp := HS.out.1
  clear e10
  go_upto_region 8 with (first
    | (go_at_call 41; (with_reducible refine (HA.out _ hp).mono ?_); rintro e wz ⟨rfl, hs⟩; have HR := Lib.hid (HR.out.only hs.2 (by have := HL.out; omega)); have HWZ := Lib.hid (Nat.le_trans HWZ.out hs.2.size); have HS := Lib.hid (HS.out.trans hs); clear x0 x1 x2 x3 x4 x5 x6 x7 xf; obtain ⟨⟨x0, x1, x2, x3, x4, x5, x6, x7⟩, xf⟩ := HS.out.1.pa.all; clear hp hs; have hp := HS.out.1)
    )
  have HB2 := Lib.hid HS.out.1.begun
  go_upto_region 9 with fail
  have HR := Lib.hid (HR.out.only HB2.out.2 (by have := HL.out; omega))
  have HWZ := Lib.hid (Nat.le_trans HWZ.out HB2.out.2.size)
  have HS := Lib.hid (HS.out.trans HB2.out)
  generalize (World.setCell _ ⟨B, 9, none⟩ _) = W2 at HS HR HWZ ⊢
  clear x0 x1 x2 x3 x4 x5 x6 x7 xf
  clear hp
  have hp := HS.out.1
  go_upto_region 12 with (first
    | (go_at_call 105; (with_reducible refine (HI.out _ hp).mono ?_); rintro e w5 ⟨vv, rfl, ht, hs⟩; obtain ⟨sv, rfl, hsv⟩ := ht; obtain ⟨ad, cp, rfl⟩ := slice_form hsv; unfold rowV; have hx5 : Below w5.heap.size w5 (w5.alloc (.cells #[.int .i64 a.1.op, .int .u64 (wd a.1.st 0 64 : Nat), .int .u64 (wd a.1.st 64 64 : Nat), .int .u64 (wd a.1.st 128 64 : Nat), .int .u64 (wd a.1.st 192 64 : Nat), .int .i64 a.1.lo, .int .i64 a.1.hi, .int .i64 a.1.g, .slice ad a.1.args.len cp] 35)) := (Below.refl _ _).alloc (Nat.le_refl _) _; have hwz := HWZ.out; have HSV := Lib.hid (hsv.far (Afar.frm (m := w.heap.size + 1) hx5 hwz)); have HR := Lib.hid ((HR.out.only hs.2 (by have := HL.out; omega)).below hx5); have HWZ := Lib.hid (Nat.le_trans (Nat.le_trans hwz hs.2.size) hx5.size); have HS := Lib.hid (HS.out.trans (hs.next hx5)); have HX := Lib.hid (RAt.one w5 #[.int .i64 a.1.op, .int .u64 (wd a.1.st 0 64 : Nat), .int .u64 (wd a.1.st 64 64 : Nat), .int .u64 (wd a.1.st 128 64 : Nat), .int .u64 (wd a.1.st 192 64 : Nat), .int .i64 a.1.lo, .int .i64 a.1.hi, .int .i64 a.1.g, .slice ad a.1.args.len cp]); have HXN := Lib.hid (Nat.le_trans hwz hs.2.size); clear hp hs hsv hwz hx5; have hp := HS.out.1)
    | (go_at_call 41; (with_reducible refine (HC.out _ hp).mono ?_); rintro e wz ⟨rfl, hs⟩; have HX := Lib.hid (HX.out.only hs.2 (by have := HXN.out; have := HL.out; omega)); have HSV := Lib.hid (HSV.out.far (Afar.only hs.2 (by have := HL.out; omega) (Nat.le_refl _))); have HR := Lib.hid (HR.out.only hs.2 (by have := HL.out; omega)); have HWZ := Lib.hid (Nat.le_trans HWZ.out hs.2.size); have HS := Lib.hid (HS.out.trans hs); clear hp hs; have hp := HS.out.1)
    | (go_at_call 90; refine (unexpected_any _ B c V _ hp).mono ?_; rintro e wz ⟨rfl, hs⟩; have HX := Lib.hid (HX.out.only hs.2 (by have := HXN.out; have := HL.out; omega)); have HSV := Lib.hid (HSV.out.far (Afar.only hs.2 (by have := HL.out; omega) (Nat.le_refl _))); have HR := Lib.hid (HR.out.only hs.2 (by have := HL.out; omega)); have HWZ := Lib.hid (Nat.le_trans HWZ.out hs.2.size); have HS := Lib.hid (HS.out.trans hs); clear hp hs; have hp := HS.out.1)
    )
  clear hp
  obtain ⟨⟨x0, x1, x2, x3, x4, x5, x6, x7⟩, xf⟩ := HS.out.1.pa.all
  have hro0 : (pastT c a.2).opn = a.2.opn := by
    rfl
  have hro : ((pastT c a.2).opn : Int) = (p.opn : Int) + 1 := by
    rw [hro0]
    exact HOB.out
  have xcl : wz.cell? ⟨B, 18, none⟩ = some (.bool ((pastT c a.2).cl 6)) := HS.out.1.pa.closed 6 (by omega)
  rw [hro] at x5
  have HCl : Hid (Stp wz B c V (cloP (pastT c a.2) 6) ((wz.setCell ⟨B, 11, none⟩ (.int .i64 (p.opn : Int))).setCell ⟨B, 18, none⟩ (.bool true))) := by
    have := HS.out.1.shut 6 (by omega)
    rw [show (((pastT c a.2).opn - 1 : Nat) : Int) = (p.opn : Int) by omega] at this
    exact this
  clear hro hro0
  go_upto_region 14 with fail
  have HX := Lib.hid (HX.out.only HCl.out.2 (by have := HXN.out; have := HL.out; omega))
  have HSV := Lib.hid (HSV.out.far (Afar.only HCl.out.2 (by have := HL.out; omega) (Nat.le_refl _)))
  have HR := Lib.hid (HR.out.only HCl.out.2 (by have := HL.out; omega))
  have HWZ := Lib.hid (Nat.le_trans HWZ.out HCl.out.2.size)
  have HS := Lib.hid (HS.out.trans HCl.out)
  clear HCl
  generalize (World.setCell _ ⟨B, 18, none⟩ _) = w7 at HX HSV HR HWZ HS ⊢
  clear x0 x1 x2 x3 x4 x5 x6 x7 xf
  clear xcl
  have hx7 : Below w7.heap.size w7 (w7.alloc (.cells #[.int .i64 a.1.op, .int .u64 (wd a.1.st 0 64 : Nat), .int .u64 (wd a.1.st 64 64 : Nat), .int .u64 (wd a.1.st 128 64 : Nat), .int .u64 (wd a.1.st 192 64 : Nat), .int .i64 a.1.lo, .int .i64 a.1.hi, .int .i64 a.1.g, .slice ad a.1.args.len cp] 35)) := (Below.refl _ _).alloc (Nat.le_refl _) _
  have HX7 := Lib.hid hx7
  have hcl : RAt (w7.alloc (.cells #[.int .i64 a.1.op, .int .u64 (wd a.1.st 0 64 : Nat), .int .u64 (wd a.1.st 64 64 : Nat), .int .u64 (wd a.1.st 128 64 : Nat), .int .u64 (wd a.1.st 192 64 : Nat), .int .i64 a.1.lo, .int .i64 a.1.hi, .int .i64 a.1.g, .slice ad a.1.args.len cp] 35)) w.heap.size #[.int .i64 0, .int .u64 0, .int .u64 0, .int .u64 0, .int .u64 0, .int .i64 0, .int .i64 0, .int .i64 0, .slice none 0 0] := HR.out.below hx7
  have HR7 := Lib.hid hcl
  obtain ⟨⟨⟨n0, n1, n2⟩, ⟨n3, n4, n5⟩, ⟨n6, n7, n8⟩⟩, nf⟩ := hcl.all
  obtain ⟨⟨⟨m0, m1, m2⟩, ⟨m3, m4, m5⟩, ⟨m6, m7, m8⟩⟩, mf⟩ := HX.out.all
  clear hx7 hcl
  go_wp2
  refine bodyPost_ret (v := .agg #[.int .i64 6, .int .u64 0, .int .u64 0, .int .u64 0, .int .u64 0, .int .i64 0, .int .i64 0, .int .i64 6, .slice (some ⟨w7.heap.size, 0, none⟩) 1 1]) (ret_re Tryz.results83 _ _ w.heap.size _ rfl (by simp) (HR7.out.put9 _ _ _ _ _ _ _ _ _)) rfl ?_
  refine ⟨_, rfl, ⟨_, rfl, SV.one (t := a.1) (HSV.out.far ((Afar.frm HX7.out (Nat.le_refl _)).trans (Afar.put9 _ _ _ _ _ _ _ _ _ fun b hb => ?_))) ?_ ((RAt.one w7 #[.int .i64 a.1.op, .int .u64 (wd a.1.st 0 64 : Nat), .int .u64 (wd a.1.st 64 64 : Nat), .int .u64 (wd a.1.st 128 64 : Nat), .int .u64 (wd a.1.st 192 64 : Nat), .int .i64 a.1.lo, .int .i64 a.1.hi, .int .i64 a.1.g, .slice ad a.1.args.len cp]).same (put9_other _ _ _ _ _ _ _ _ _ _ _ _ ?_))⟩, (HS.out.next HX7.out).put9 HL.out _ (Nat.le_refl _) _ _ _ _ _ _ _ _ _⟩
  · have hb2 : w.heap.size + 1 ≤ b := hb
    exact ⟨by show w.heap.size ≤ b; omega, by omega⟩
  · have := HWZ.out
    show w.heap.size ≤ w7.heap.size
    omega
  · have := HWZ.out
    omega
set_option maxRecDepth 100000 in
set_option maxHeartbeats 8000000 in
theorem gro_5_n (w : World) (B : Nat) (c : CX) (V : LV) (p : PS) (h : PM w B c V p) (n : Nat) (HIns : Hid (∀ W q, PM W B c V q → Gn n q → Calls Tryz.prog 105 #[.pointer (some ⟨B, 0, none⟩)] W (Ret W B c V (insW c (groT c n) q)))) (hg : p.gr = 5) (hk : kdT c p = 40) (hG : Gn (n + 1) p) (a : TN × PS) (ha : insW c (groT c n) (begP (pastT c (opnP p))) = a) (hao : a.2.opn = p.opn + 1) (hc : kdT c a.2 ≠ 41) :
    Calls Tryz.prog 83 #[.pointer (some ⟨B, 0, none⟩)] w (Ret w B c V (grpR 6 a.1, cloP (unexT c a.2) 6)) := by
  have hx : Below w.heap.size w (w.alloc (.cells #[.int .i64 0, .int .u64 0, .int .u64 0, .int .u64 0, .int .u64 0, .int .i64 0, .int .i64 0, .int .i64 0, .slice none 0 0] 35)) := (Below.refl _ _).alloc (Nat.le_refl _) _
  have HS := Lib.hid (Stp.of_below h hx)
  have HR := Lib.hid (RAt.one w #[.int .i64 0, .int .u64 0, .int .u64 0, .int .u64 0, .int .u64 0, .int .i64 0, .int .i64 0, .int .i64 0, .slice none 0 0])
  have HL := Lib.hid h.lt
  have hop := h.opn
  have hgr := h.gr
  have hk2 : kdT c (opnP p) = 40 := by
    have : tokT c (opnP p) = tokT c p := kd_same rfl rfl
    unfold kdT
    rw [this]
    exact hk
  have hgq : (pastT c (opnP p)).gr = p.gr + 1 := rfl
  obtain ⟨q, hq⟩ : ∃ q, pastT c (opnP p) = q := ⟨_, rfl⟩
  rw [hq] at ha hgq
  have HA : Hid (∀ W, PM W B c V (opnP p) → Calls Tryz.prog 41 #[.pointer (some ⟨B, 0, none⟩), .int .i32 40] W fun e w' => e = .returned (.bool true) ∧ Stp W B c V q w') := fun W h => by
    rw [← hq]
    exact accept_yes W B c V (opnP p) h 40 (by decide) (by decide) hk2
  have HI : Hid (∀ W, PM W B c V (begP q) → Calls Tryz.prog 105 #[.pointer (some ⟨B, 0, none⟩)] W (Ret W B c V a)) := fun W hW => by
    rw [← ha]
    exact HIns.out W _ hW (by have h2 : 10 ≤ p.gr + (n + 1) := hG; show 10 ≤ q.gr + n; omega)
  have HC := Lib.hid (fun W h => accept_no W B c V a.2 h 41 (by decide) (by decide) hc)
  obtain ⟨⟨x0, x1, x2, x3, x4, x5, x6, x7⟩, xf⟩ := HS.out.1.pa.all
  have HO := Lib.hid (HS.out.1.opened (by omega))
  rw [show ((p.gr + 1 : Nat) : Int) = 6 by omega, show ((p.opn + 1 : Nat) : Int) = (p.opn : Int) + 1 by omega] at HO
  rw [hg] at x4
  have ob : (p.opn : Int) ≤ 9 := by omega
  have HGP := Lib.hid hg
  have HAO := Lib.hid hao
  have HWZ : Hid (w.heap.size + 1 ≤ (w.alloc (.cells #[.int .i64 0, .int .u64 0, .int .u64 0, .int .u64 0, .int .u64 0, .int .i64 0, .int .i64 0, .int .i64 0, .slice none 0 0] 35)).heap.size) := by show w.heap.size + 1 ≤ _; simp
  have hob : (a.2.opn : Int) = (p.opn : Int) + 1 := by omega
  have HOB := Lib.hid hob
  clear h hx hg hk hG ha hao hc hop hgr hk2 hob hq hgq
  go_enter Tryz.func83, Tryz.ntmps83
  go_upto_region 6 with fail
  have HR := Lib.hid (HR.out.only HO.out.2 (by have := HL.out; omega))
  have HWZ := Lib.hid (Nat.le_trans HWZ.out HO.out.2.size)
  have HS := Lib.hid (HS.out.trans HO.out)
  generalize (World.setCell _ ⟨B, 11, none⟩ _) = W1 at HS HR HWZ ⊢
  clear x0 x1 x2 x3 x4 x5 x6 x7 xf
  obtain ⟨⟨x0, x1, x2, x3, x4, x5, x6, x7⟩, xf⟩ := HS.out.1.pa.all
  have e10 : (((opnP p).gr : Nat) : Int) = 6 := by show ((p.gr + 1 : Nat) : Int) = 6; have := HGP.out; omega
  rw [e10] at x4
  have hp := HS.out.1
  clear e10
  go_upto_region 8 with (first
    | (go_at_call 41; (with_reducible refine (HA.out _ hp).mono ?_); rintro e wz ⟨rfl, hs⟩; have HR := Lib.hid (HR.out.only hs.2 (by have := HL.out; omega)); have HWZ := Lib.hid (Nat.le_trans HWZ.out hs.2.size); have HS := Lib.hid (HS.out.trans hs); clear x0 x1 x2 x3 x4 x5 x6 x7 xf; obtain ⟨⟨x0, x1, x2, x3, x4, x5, x6, x7⟩, xf⟩ := HS.out.1.pa.all; clear hp hs; have hp := HS.out.1)
    )
  have HB2 := Lib.hid HS.out.1.begun
  go_upto_region 9 with fail
  have HR := Lib.hid (HR.out.only HB2.out.2 (by have := HL.out; omega))
  have HWZ := Lib.hid (Nat.le_trans HWZ.out HB2.out.2.size)
  have HS := Lib.hid (HS.out.trans HB2.out)
  generalize (World.setCell _ ⟨B, 9, none⟩ _) = W2 at HS HR HWZ ⊢
  clear x0 x1 x2 x3 x4 x5 x6 x7 xf
  clear hp
  have hp := HS.out.1
  go_upto_region 12 with (first
    | (go_at_call 105; (with_reducible refine (HI.out _ hp).mono ?_); rintro e w5 ⟨vv, rfl, ht, hs⟩; obtain ⟨sv, rfl, hsv⟩ := ht; obtain ⟨ad, cp, rfl⟩ := slice_form hsv; unfold rowV; have hx5 : Below w5.heap.size w5 (w5.alloc (.cells #[.int .i64 a.1.op, .int .u64 (wd a.1.st 0 64 : Nat), .int .u64 (wd a.1.st 64 64 : Nat), .int .u64 (wd a.1.st 128 64 : Nat), .int .u64 (wd a.1.st 192 64 : Nat), .int .i64 a.1.lo, .int .i64 a.1.hi, .int .i64 a.1.g, .slice ad a.1.args.len cp] 35)) := (Below.refl _ _).alloc (Nat.le_refl _) _; have hwz := HWZ.out; have HSV := Lib.hid (hsv.far (Afar.frm (m := w.heap.size + 1) hx5 hwz)); have HR := Lib.hid ((HR.out.only hs.2 (by have := HL.out; omega)).below hx5); have HWZ := Lib.hid (Nat.le_trans (Nat.le_trans hwz hs.2.size) hx5.size); have HS := Lib.hid (HS.out.trans (hs.next hx5)); have HX := Lib.hid (RAt.one w5 #[.int .i64 a.1.op, .int .u64 (wd a.1.st 0 64 : Nat), .int .u64 (wd a.1.st 64 64 : Nat), .int .u64 (wd a.1.st 128 64 : Nat), .int .u64 (wd a.1.st 192 64 : Nat), .int .i64 a.1.lo, .int .i64 a.1.hi, .int .i64 a.1.g, .slice ad a.1.args.len cp]); have HXN := Lib.hid (Nat.le_trans hwz hs.2.size); clear hp hs hsv hwz hx5; have hp := HS.out.1)
    | (go_at_call 41; (with_reducible refine (HC.out _ hp).mono ?_); rintro e wz ⟨rfl, hs⟩; have HX := Lib.hid (HX.out.only hs.2 (by have := HXN.out; have := HL.out; omega)); have HSV := Lib.hid (HSV.out.far (Afar.only hs.2 (by have := HL.out; omega) (Nat.le_refl _))); have HR := Lib.hid (HR.out.only hs.2 (by have := HL.out; omega)); have HWZ := Lib.hid (Nat.le_trans HWZ.out hs.2.size); have HS := Lib.hid (HS.out.trans hs); clear hp hs; have hp := HS.out.1)
    | (go_at_call 90; refine (unexpected_any _ B c V _ hp).mono ?_; rintro e wz ⟨rfl, hs⟩; have HX := Lib.hid (HX.out.only hs.2 (by have := HXN.out; have := HL.out; omega)); have HSV := Lib.hid (HSV.out.far (Afar.only hs.2 (by have := HL.out; omega) (Nat.le_refl _))); have HR := Lib.hid (HR.out.only hs.2 (by have := HL.out; omega)); have HWZ := Lib.hid (Nat.le_trans HWZ.out hs.2.size); have HS := Lib.hid (HS.out.trans hs); clear hp hs; have hp := HS.out.1)
    )
  clear hp
  obtain ⟨⟨x0, x1, x2, x3, x4, x5, x6, x7⟩, xf⟩ := HS.out.1.pa.all
  have hro0 : (unexT c a.2).opn = a.2.opn := by
    unfold unexT failT; split <;> rfl
  have hro : ((unexT c a.2).opn : Int) = (p.opn : Int) + 1 := by
    rw [hro0]
    exact HOB.out
  have xcl : wz.cell? ⟨B, 18, none⟩ = some (.bool ((unexT c a.2).cl 6)) := HS.out.1.pa.closed 6 (by omega)
  rw [hro] at x5
  have HCl : Hid (Stp wz B c V (cloP (unexT c a.2) 6) ((wz.setCell ⟨B, 11, none⟩ (.int .i64 (p.opn : Int))).setCell ⟨B, 18, none⟩ (.bool true))) := by
    have := HS.out.1.shut 6 (by omega)
    rw [show (((unexT c a.2).opn - 1 : Nat) : Int) = (p.opn : Int) by omega] at this
    exact this
  clear hro hro0
  go_upto_region 14 with fail
  have HX := Lib.hid (HX.out.only HCl.out.2 (by have := HXN.out; have := HL.out; omega))
  have HSV := Lib.hid (HSV.out.far (Afar.only HCl.out.2 (by have := HL.out; omega) (Nat.le_refl _)))
  have HR := Lib.hid (HR.out.only HCl.out.2 (by have := HL.out; omega))
  have HWZ := Lib.hid (Nat.le_trans HWZ.out HCl.out.2.size)
  have HS := Lib.hid (HS.out.trans HCl.out)
  clear HCl
  generalize (World.setCell _ ⟨B, 18, none⟩ _) = w7 at HX HSV HR HWZ HS ⊢
  clear x0 x1 x2 x3 x4 x5 x6 x7 xf
  clear xcl
  have hx7 : Below w7.heap.size w7 (w7.alloc (.cells #[.int .i64 a.1.op, .int .u64 (wd a.1.st 0 64 : Nat), .int .u64 (wd a.1.st 64 64 : Nat), .int .u64 (wd a.1.st 128 64 : Nat), .int .u64 (wd a.1.st 192 64 : Nat), .int .i64 a.1.lo, .int .i64 a.1.hi, .int .i64 a.1.g, .slice ad a.1.args.len cp] 35)) := (Below.refl _ _).alloc (Nat.le_refl _) _
  have HX7 := Lib.hid hx7
  have hcl : RAt (w7.alloc (.cells #[.int .i64 a.1.op, .int .u64 (wd a.1.st 0 64 : Nat), .int .u64 (wd a.1.st 64 64 : Nat), .int .u64 (wd a.1.st 128 64 : Nat), .int .u64 (wd a.1.st 192 64 : Nat), .int .i64 a.1.lo, .int .i64 a.1.hi, .int .i64 a.1.g, .slice ad a.1.args.len cp] 35)) w.heap.size #[.int .i64 0, .int .u64 0, .int .u64 0, .int .u64 0, .int .u64 0, .int .i64 0, .int .i64 0, .int .i64 0, .slice none 0 0] := HR.out.below hx7
  have HR7 := Lib.hid hcl
  obtain ⟨⟨⟨n0, n1, n2⟩, ⟨n3, n4, n5⟩, ⟨n6, n7, n8⟩⟩, nf⟩ := hcl.all
  obtain ⟨⟨⟨m0, m1, m2⟩, ⟨m3, m4, m5⟩, ⟨m6, m7, m8⟩⟩, mf⟩ := HX.out.all
  clear hx7 hcl
  go_wp2
  refine bodyPost_ret (v := .agg #[.int .i64 6, .int .u64 0, .int .u64 0, .int .u64 0, .int .u64 0, .int .i64 0, .int .i64 0, .int .i64 6, .slice (some ⟨w7.heap.size, 0, none⟩) 1 1]) (ret_re Tryz.results83 _ _ w.heap.size _ rfl (by simp) (HR7.out.put9 _ _ _ _ _ _ _ _ _)) rfl ?_
  refine ⟨_, rfl, ⟨_, rfl, SV.one (t := a.1) (HSV.out.far ((Afar.frm HX7.out (Nat.le_refl _)).trans (Afar.put9 _ _ _ _ _ _ _ _ _ fun b hb => ?_))) ?_ ((RAt.one w7 #[.int .i64 a.1.op, .int .u64 (wd a.1.st 0 64 : Nat), .int .u64 (wd a.1.st 64 64 : Nat), .int .u64 (wd a.1.st 128 64 : Nat), .int .u64 (wd a.1.st 192 64 : Nat), .int .i64 a.1.lo, .int .i64 a.1.hi, .int .i64 a.1.g, .slice ad a.1.args.len cp]).same (put9_other _ _ _ _ _ _ _ _ _ _ _ _ ?_))⟩, (HS.out.next HX7.out).put9 HL.out _ (Nat.le_refl _) _ _ _ _ _ _ _ _ _⟩
  · have hb2 : w.heap.size + 1 ≤ b := hb
    exact ⟨by show w.heap.size ≤ b; omega, by omega⟩
  · have := HWZ.out
    show w.heap.size ≤ w7.heap.size
    omega
  · have := HWZ.out
    omega
set_option maxRecDepth 100000 in
set_option maxHeartbeats 8000000 in
theorem gro_6_y (w : World) (B : Nat) (c : CX) (V : LV) (p : PS) (h : PM w B c V p) (n : Nat) (HIns : Hid (∀ W q, PM W B c V q → Gn n q → Calls Tryz.prog 105 #[.pointer (some ⟨B, 0, none⟩)] W (Ret W B c V (insW c (groT c n) q)))) (hg : p.gr = 6) (hk : kdT c p = 40) (hG : Gn (n + 1) p) (a : TN × PS) (ha : insW c (groT c n) (begP (pastT c (opnP p))) = a) (hao : a.2.opn = p.opn + 1) (hc : kdT c a.2 = 41) :
    Calls Tryz.prog 83 #[.pointer (some ⟨B, 0, none⟩)] w (Ret w B c V (grpR 7 a.1, cloP (pastT c a.2) 7)) := by
  have hx : Below w.heap.size w (w.alloc (.cells #[.int .i64 0, .int .u64 0, .int .u64 0, .int .u64 0, .int .u64 0, .int .i64 0, .int .i64 0, .int .i64 0, .slice none 0 0] 35)) := (Below.refl _ _).alloc (Nat.le_refl _) _
  have HS := Lib.hid (Stp.of_below h hx)
  have HR := Lib.hid (RAt.one w #[.int .i64 0, .int .u64 0, .int .u64 0, .int .u64 0, .int .u64 0, .int .i64 0, .int .i64 0, .int .i64 0, .slice none 0 0])
  have HL := Lib.hid h.lt
  have hop := h.opn
  have hgr := h.gr
  have hk2 : kdT c (opnP p) = 40 := by
    have : tokT c (opnP p) = tokT c p := kd_same rfl rfl
    unfold kdT
    rw [this]
    exact hk
  have hgq : (pastT c (opnP p)).gr = p.gr + 1 := rfl
  obtain ⟨q, hq⟩ : ∃ q, pastT c (opnP p) = q := ⟨_, rfl⟩
  rw [hq] at ha hgq
  have HA : Hid (∀ W, PM W B c V (opnP p) → Calls Tryz.prog 41 #[.pointer (some ⟨B, 0, none⟩), .int .i32 40] W fun e w' => e = .returned (.bool true) ∧ Stp W B c V q w') := fun W h => by
    rw [← hq]
    exact accept_yes W B c V (opnP p) h 40 (by decide) (by decide) hk2
  have HI : Hid (∀ W, PM W B c V (begP q) → Calls Tryz.prog 105 #[.pointer (some ⟨B, 0, none⟩)] W (Ret W B c V a)) := fun W hW => by
    rw [← ha]
    exact HIns.out W _ hW (by have h2 : 10 ≤ p.gr + (n + 1) := hG; show 10 ≤ q.gr + n; omega)
  have HC := Lib.hid (fun W h => accept_yes W B c V a.2 h 41 (by decide) (by decide) hc)
  obtain ⟨⟨x0, x1, x2, x3, x4, x5, x6, x7⟩, xf⟩ := HS.out.1.pa.all
  have HO := Lib.hid (HS.out.1.opened (by omega))
  rw [show ((p.gr + 1 : Nat) : Int) = 7 by omega, show ((p.opn + 1 : Nat) : Int) = (p.opn : Int) + 1 by omega] at HO
  rw [hg] at x4
  have ob : (p.opn : Int) ≤ 9 := by omega
  have HGP := Lib.hid hg
  have HAO := Lib.hid hao
  have HWZ : Hid (w.heap.size + 1 ≤ (w.alloc (.cells #[.int .i64 0, .int .u64 0, .int .u64 0, .int .u64 0, .int .u64 0, .int .i64 0, .int .i64 0, .int .i64 0, .slice none 0 0] 35)).heap.size) := by show w.heap.size + 1 ≤ _; simp
  have hob : (a.2.opn : Int) = (p.opn : Int) + 1 := by omega
  have HOB := Lib.hid hob
  clear h hx hg hk hG ha hao hc hop hgr hk2 hob hq hgq
  go_enter Tryz.func83, Tryz.ntmps83
  go_upto_region 6 with fail
  have HR := Lib.hid (HR.out.only HO.out.2 (by have := HL.out; omega))
  have HWZ := Lib.hid (Nat.le_trans HWZ.out HO.out.2.size)
  have HS := Lib.hid (HS.out.trans HO.out)
  generalize (World.setCell _ ⟨B, 11, none⟩ _) = W1 at HS HR HWZ ⊢
  clear x0 x1 x2 x3 x4 x5 x6 x7 xf
  obtain ⟨⟨x0, x1, x2, x3, x4, x5, x6, x7⟩, xf⟩ := HS.out.1.pa.all
  have e10 : (((opnP p).gr : Nat) : Int) = 7 := by show ((p.gr + 1 : Nat) : Int) = 7; have := HGP.out; omega
  rw [e10] at x4
  have hp := HS.out.1
  clear e10
  go_upto_region 8 with (first
    | (go_at_call 41; (with_reducible refine (HA.out _ hp).mono ?_); rintro e wz ⟨rfl, hs⟩; have HR := Lib.hid (HR.out.only hs.2 (by have := HL.out; omega)); have HWZ := Lib.hid (Nat.le_trans HWZ.out hs.2.size); have HS := Lib.hid (HS.out.trans hs); clear x0 x1 x2 x3 x4 x5 x6 x7 xf; obtain ⟨⟨x0, x1, x2, x3, x4, x5, x6, x7⟩, xf⟩ := HS.out.1.pa.all; clear hp hs; have hp := HS.out.1)
    )
  have HB2 := Lib.hid HS.out.1.begun
  go_upto_region 9 with fail
  have HR := Lib.hid (HR.out.only HB2.out.2 (by have := HL.out; omega))
  have HWZ := Lib.hid (Nat.le_trans HWZ.out HB2.out.2.size)
  have HS := Lib.hid (HS.out.trans HB2.out)
  generalize (World.setCell _ ⟨B, 9, none⟩ _) = W2 at HS HR HWZ ⊢
  clear x0 x1 x2 x3 x4 x5 x6 x7 xf
  clear hp
  have hp := HS.out.1
  go_upto_region 12 with (first
    | (go_at_call 105; (with_reducible refine (HI.out _ hp).mono ?_); rintro e w5 ⟨vv, rfl, ht, hs⟩; obtain ⟨sv, rfl, hsv⟩ := ht; obtain ⟨ad, cp, rfl⟩ := slice_form hsv; unfold rowV; have hx5 : Below w5.heap.size w5 (w5.alloc (.cells #[.int .i64 a.1.op, .int .u64 (wd a.1.st 0 64 : Nat), .int .u64 (wd a.1.st 64 64 : Nat), .int .u64 (wd a.1.st 128 64 : Nat), .int .u64 (wd a.1.st 192 64 : Nat), .int .i64 a.1.lo, .int .i64 a.1.hi, .int .i64 a.1.g, .slice ad a.1.args.len cp] 35)) := (Below.refl _ _).alloc (Nat.le_refl _) _; have hwz := HWZ.out; have HSV := Lib.hid (hsv.far (Afar.frm (m := w.heap.size + 1) hx5 hwz)); have HR := Lib.hid ((HR.out.only hs.2 (by have := HL.out; omega)).below hx5); have HWZ := Lib.hid (Nat.le_trans (Nat.le_trans hwz hs.2.size) hx5.size); have HS := Lib.hid (HS.out.trans (hs.next hx5)); have HX := Lib.hid (RAt.one w5 #[.int .i64 a.1.op, .int .u64 (wd a.1.st 0 64 : Nat), .int .u64 (wd a.1.st 64 64 : Nat), .int .u64 (wd a.1.st 128 64 : Nat), .int .u64 (wd a.1.st 192 64 : Nat), .int .i64 a.1.lo, .int .i64 a.1.hi, .int .i64 a.1.g, .slice ad a.1.args.len cp]); have HXN := Lib.hid (Nat.le_trans hwz hs.2.size); clear hp hs hsv hwz hx5; have hp := HS.out.1)
    | (go_at_call 41; (with_reducible refine (HC.out _ hp).mono ?_); rintro e wz ⟨rfl, hs⟩; have HX := Lib.hid (HX.out.only hs.2 (by have := HXN.out; have := HL.out; omega)); have HSV := Lib.hid (HSV.out.far (Afar.only hs.2 (by have := HL.out; omega) (Nat.le_refl _))); have HR := Lib.hid (HR.out.only hs.2 (by have := HL.out; omega)); have HWZ := Lib.hid (Nat.le_trans HWZ.out hs.2.size); have HS := Lib.hid (HS.out.trans hs); clear hp hs; have hp := HS.out.1)
    | (go_at_call 90; refine (unexpected_any _ B c V _ hp).mono ?_; rintro e wz ⟨rfl, hs⟩; have HX := Lib.hid (HX.out.only hs.2 (by have := HXN.out; have := HL.out; omega)); have HSV := Lib.hid (HSV.out.far (Afar.only hs.2 (by have := HL.out; omega) (Nat.le_refl _))); have HR := Lib.hid (HR.out.only hs.2 (by have := HL.out; omega)); have HWZ := Lib.hid (Nat.le_trans HWZ.out hs.2.size); have HS := Lib.hid (HS.out.trans hs); clear hp hs; have hp := HS.out.1)
    )
  clear hp
  obtain ⟨⟨x0, x1, x2, x3, x4, x5, x6, x7⟩, xf⟩ := HS.out.1.pa.all
  have hro0 : (pastT c a.2).opn = a.2.opn := by
    rfl
  have hro : ((pastT c a.2).opn : Int) = (p.opn : Int) + 1 := by
    rw [hro0]
    exact HOB.out
  have xcl : wz.cell? ⟨B, 19, none⟩ = some (.bool ((pastT c a.2).cl 7)) := HS.out.1.pa.closed 7 (by omega)
  rw [hro] at x5
  have HCl : Hid (Stp wz B c V (cloP (pastT c a.2) 7) ((wz.setCell ⟨B, 11, none⟩ (.int .i64 (p.opn : Int))).setCell ⟨B, 19, none⟩ (.bool true))) := by
    have := HS.out.1.shut 7 (by omega)
    rw [show (((pastT c a.2).opn - 1 : Nat) : Int) = (p.opn : Int) by omega] at this
    exact this
  clear hro hro0
  go_upto_region 14 with fail
  have HX := Lib.hid (HX.out.only HCl.out.2 (by have := HXN.out; have := HL.out; omega))
  have HSV := Lib.hid (HSV.out.far (Afar.only HCl.out.2 (by have := HL.out; omega) (Nat.le_refl _)))
  have HR := Lib.hid (HR.out.only HCl.out.2 (by have := HL.out; omega))
  have HWZ := Lib.hid (Nat.le_trans HWZ.out HCl.out.2.size)
  have HS := Lib.hid (HS.out.trans HCl.out)
  clear HCl
  generalize (World.setCell _ ⟨B, 19, none⟩ _) = w7 at HX HSV HR HWZ HS ⊢
  clear x0 x1 x2 x3 x4 x5 x6 x7 xf
  clear xcl
  have hx7 : Below w7.heap.size w7 (w7.alloc (.cells #[.int .i64 a.1.op, .int .u64 (wd a.1.st 0 64 : Nat), .int .u64 (wd a.1.st 64 64 : Nat), .int .u64 (wd a.1.st 128 64 : Nat), .int .u64 (wd a.1.st 192 64 : Nat), .int .i64 a.1.lo, .int .i64 a.1.hi, .int .i64 a.1.g, .slice ad a.1.args.len cp] 35)) := (Below.refl _ _).alloc (Nat.le_refl _) _
  have HX7 := Lib.hid hx7
  have hcl : RAt (w7.alloc (.cells #[.int .i64 a.1.op, .int .u64 (wd a.1.st 0 64 : Nat), .int .u64 (wd a.1.st 64 64 : Nat), .int .u64 (wd a.1.st 128 64 : Nat), .int .u64 (wd a.1.st 192 64 : Nat), .int .i64 a.1.lo, .int .i64 a.1.hi, .int .i64 a.1.g, .slice ad a.1.args.len cp] 35)) w.heap.size #[.int .i64 0, .int .u64 0, .int .u64 0, .int .u64 0, .int .u64 0, .int .i64 0, .int .i64 0, .int .i64 0, .slice none 0 0] := HR.out.below hx7
  have HR7 := Lib.hid hcl
  obtain ⟨⟨⟨n0, n1, n2⟩, ⟨n3, n4, n5⟩, ⟨n6, n7, n8⟩⟩, nf⟩ := hcl.all
  obtain ⟨⟨⟨m0, m1, m2⟩, ⟨m3, m4, m5⟩, ⟨m6, m7, m8⟩⟩, mf⟩ := HX.out.all
  clear hx7 hcl
  go_wp2
  refine bodyPost_ret (v := .agg #[.int .i64 6, .int .u64 0, .int .u64 0, .int .u64 0, .int .u64 0, .int .i64 0, .int .i64 0, .int .i64 7, .slice (some ⟨w7.heap.size, 0, none⟩) 1 1]) (ret_re Tryz.results83 _ _ w.heap.size _ rfl (by simp) (HR7.out.put9 _ _ _ _ _ _ _ _ _)) rfl ?_
  refine ⟨_, rfl, ⟨_, rfl, SV.one (t := a.1) (HSV.out.far ((Afar.frm HX7.out (Nat.le_refl _)).trans (Afar.put9 _ _ _ _ _ _ _ _ _ fun b hb => ?_))) ?_ ((RAt.one w7 #[.int .i64 a.1.op, .int .u64 (wd a.1.st 0 64 : Nat), .int .u64 (wd a.1.st 64 64 : Nat), .int .u64 (wd a.1.st 128 64 : Nat), .int .u64 (wd a.1.st 192 64 : Nat), .int .i64 a.1.lo, .int .i64 a.1.hi, .int .i64 a.1.g, .slice ad a.1.args.len cp]).same (put9_other _ _ _ _ _ _ _ _ _ _ _ _ ?_))⟩, (HS.out.next HX7.out).put9 HL.out _ (Nat.le_refl _) _ _ _ _ _ _ _ _ _⟩
  · have hb2 : w.heap.size + 1 ≤ b := hb
    exact ⟨by show w.heap.size ≤ b; omega, by omega⟩
  · have := HWZ.out
    show w.heap.size ≤ w7.heap.size
    omega
  · have := HWZ.out
    omega
set_option maxRecDepth 100000 in
set_option maxHeartbeats 8000000 in
theorem gro_6_n (w : World) (B : Nat) (c : CX) (V : LV) (p : PS) (h : PM w B c V p) (n : Nat) (HIns : Hid (∀ W q, PM W B c V q → Gn n q → Calls Tryz.prog 105 #[.pointer (some ⟨B, 0, none⟩)] W (Ret W B c V (insW c (groT c n) q)))) (hg : p.gr = 6) (hk : kdT c p = 40) (hG : Gn (n + 1) p) (a : TN × PS) (ha : insW c (groT c n) (begP (pastT c (opnP p))) = a) (hao : a.2.opn = p.opn + 1) (hc : kdT c a.2 ≠ 41) :
    Calls Tryz.prog 83 #[.pointer (some ⟨B, 0, none⟩)] w (Ret w B c V (grpR 7 a.1, cloP (unexT c a.2) 7)) := by
  have hx : Below w.heap.size w (w.alloc (.cells #[.int .i64 0, .int .u64 0, .int .u64 0, .int .u64 0, .int .u64 0, .int .i64 0, .int .i64 0, .int .i64 0, .slice none 0 0] 35)) := (Below.refl _ _).alloc (Nat.le_refl _) _
  have HS := Lib.hid (Stp.of_below h hx)
  have HR := Lib.hid (RAt.one w #[.int .i64 0, .int .u64 0, .int .u64 0, .int .u64 0, .int .u64 0, .int .i64 0, .int .i64 0, .int .i64 0, .slice none 0 0])
  have HL := Lib.hid h.lt
  have hop := h.opn
  have hgr := h.gr
  have hk2 : kdT c (opnP p) = 40 := by
    have : tokT c (opnP p) = tokT c p := kd_same rfl rfl
    unfold kdT
    rw [this]
    exact hk
  have hgq : (pastT c (opnP p)).gr = p.gr + 1 := rfl
  obtain ⟨q, hq⟩ : ∃ q, pastT c (opnP p) = q := ⟨_, rfl⟩
  rw [hq] at ha hgq
  have HA : Hid (∀ W, PM W B c V (opnP p) → Calls Tryz.prog 41 #[.pointer (some ⟨B, 0, none⟩), .int .i32 40] W fun e w' => e = .returned (.bool true) ∧ Stp W B c V q w') := fun W h => by
    rw [← hq]
    exact accept_yes W B c V (opnP p) h 40 (by decide) (by decide) hk2
  have HI : Hid (∀ W, PM W B c V (begP q) → Calls Tryz.prog 105 #[.pointer (some ⟨B, 0, none⟩)] W (Ret W B c V a)) := fun W hW => by
    rw [← ha]
    exact HIns.out W _ hW (by have h2 : 10 ≤ p.gr + (n + 1) := hG; show 10 ≤ q.gr + n; omega)
  have HC := Lib.hid (fun W h => accept_no W B c V a.2 h 41 (by decide) (by decide) hc)
  obtain ⟨⟨x0, x1, x2, x3, x4, x5, x6, x7⟩, xf⟩ := HS.out.1.pa.all
  have HO := Lib.hid (HS.out.1.opened (by omega))
  rw [show ((p.gr + 1 : Nat) : Int) = 7 by omega, show ((p.opn + 1 : Nat) : Int) = (p.opn : Int) + 1 by omega] at HO
  rw [hg] at x4
  have ob : (p.opn : Int) ≤ 9 := by omega
  have HGP := Lib.hid hg
  have HAO := Lib.hid hao
  have HWZ : Hid (w.heap.size + 1 ≤ (w.alloc (.cells #[.int .i64 0, .int .u64 0, .int .u64 0, .int .u64 0, .int .u64 0, .int .i64 0, .int .i64 0, .int .i64 0, .slice none 0 0] 35)).heap.size) := by show w.heap.size + 1 ≤ _; simp
  have hob : (a.2.opn : Int) = (p.opn : Int) + 1 := by omega
  have HOB := Lib.hid hob
  clear h hx hg hk hG ha hao hc hop hgr hk2 hob hq hgq
  go_enter Tryz.func83, Tryz.ntmps83
  go_upto_region 6 with fail
  have HR := Lib.hid (HR.out.only HO.out.2 (by have := HL.out; omega))
  have HWZ := Lib.hid (Nat.le_trans HWZ.out HO.out.2.size)
  have HS := Lib.hid (HS.out.trans HO.out)
  generalize (World.setCell _ ⟨B, 11, none⟩ _) = W1 at HS HR HWZ ⊢
  clear x0 x1 x2 x3 x4 x5 x6 x7 xf
  obtain ⟨⟨x0, x1, x2, x3, x4, x5, x6, x7⟩, xf⟩ := HS.out.1.pa.all
  have e10 : (((opnP p).gr : Nat) : Int) = 7 := by show ((p.gr + 1 : Nat) : Int) = 7; have := HGP.out; omega
  rw [e10] at x4
  have hp := HS.out.1
  clear e10
  go_upto_region 8 with (first
    | (go_at_call 41; (with_reducible refine (HA.out _ hp).mono ?_); rintro e wz ⟨rfl, hs⟩; have HR := Lib.hid (HR.out.only hs.2 (by have := HL.out; omega)); have HWZ := Lib.hid (Nat.le_trans HWZ.out hs.2.size); have HS := Lib.hid (HS.out.trans hs); clear x0 x1 x2 x3 x4 x5 x6 x7 xf; obtain ⟨⟨x0, x1, x2, x3, x4, x5, x6, x7⟩, xf⟩ := HS.out.1.pa.all; clear hp hs; have hp := HS.out.1)
    )
  have HB2 := Lib.hid HS.out.1.begun
  go_upto_region 9 with fail
  have HR := Lib.hid (HR.out.only HB2.out.2 (by have := HL.out; omega))
  have HWZ := Lib.hid (Nat.le_trans HWZ.out HB2.out.2.size)
  have HS := Lib.hid (HS.out.trans HB2.out)
  generalize (World.setCell _ ⟨B, 9, none⟩ _) = W2 at HS HR HWZ ⊢
  clear x0 x1 x2 x3 x4 x5 x6 x7 xf
  clear hp
  have hp := HS.out.1
  go_upto_region 12 with (first
    | (go_at_call 105; (with_reducible refine (HI.out _ hp).mono ?_); rintro e w5 ⟨vv, rfl, ht, hs⟩; obtain ⟨sv, rfl, hsv⟩ := ht; obtain ⟨ad, cp, rfl⟩ := slice_form hsv; unfold rowV; have hx5 : Below w5.heap.size w5 (w5.alloc (.cells #[.int .i64 a.1.op, .int .u64 (wd a.1.st 0 64 : Nat), .int .u64 (wd a.1.st 64 64 : Nat), .int .u64 (wd a.1.st 128 64 : Nat), .int .u64 (wd a.1.st 192 64 : Nat), .int .i64 a.1.lo, .int .i64 a.1.hi, .int .i64 a.1.g, .slice ad a.1.args.len cp] 35)) := (Below.refl _ _).alloc (Nat.le_refl _) _; have hwz := HWZ.out; have HSV := Lib.hid (hsv.far (Afar.frm (m := w.heap.size + 1) hx5 hwz)); have HR := Lib.hid ((HR.out.only hs.2 (by have := HL.out; omega)).below hx5); have HWZ := Lib.hid (Nat.le_trans (Nat.le_trans hwz hs.2.size) hx5.size); have HS := Lib.hid (HS.out.trans (hs.next hx5)); have HX := Lib.hid (RAt.one w5 #[.int .i64 a.1.op, .int .u64 (wd a.1.st 0 64 : Nat), .int .u64 (wd a.1.st 64 64 : Nat), .int .u64 (wd a.1.st 128 64 : Nat), .int .u64 (wd a.1.st 192 64 : Nat), .int .i64 a.1.lo, .int .i64 a.1.hi, .int .i64 a.1.g, .slice ad a.1.args.len cp]); have HXN := Lib.hid (Nat.le_trans hwz hs.2.size); clear hp hs hsv hwz hx5; have hp := HS.out.1)
    | (go_at_call 41; (with_reducible refine (HC.out _ hp).mono ?_); rintro e wz ⟨rfl, hs⟩; have HX := Lib.hid (HX.out.only hs.2 (by have := HXN.out; have := HL.out; omega)); have HSV := Lib.hid (HSV.out.far (Afar.only hs.2 (by have := HL.out; omega) (Nat.le_refl _))); have HR := Lib.hid (HR.out.only hs.2 (by have := HL.out; omega)); have HWZ := Lib.hid (Nat.le_trans HWZ.out hs.2.size); have HS := Lib.hid (HS.out.trans hs); clear hp hs; have hp := HS.out.1)
    | (go_at_call 90; refine (unexpected_any _ B c V _ hp).mono ?_; rintro e wz ⟨rfl, hs⟩; have HX := Lib.hid (HX.out.only hs.2 (by have := HXN.out; have := HL.out; omega)); have HSV := Lib.hid (HSV.out.far (Afar.only hs.2 (by have := HL.out; omega) (Nat.le_refl _))); have HR := Lib.hid (HR.out.only hs.2 (by have := HL.out; omega)); have HWZ := Lib.hid (Nat.le_trans HWZ.out hs.2.size); have HS := Lib.hid (HS.out.trans hs); clear hp hs; have hp := HS.out.1)
    )
  clear hp
  obtain ⟨⟨x0, x1, x2, x3, x4, x5, x6, x7⟩, xf⟩ := HS.out.1.pa.all
  have hro0 : (unexT c a.2).opn = a.2.opn := by
    unfold unexT failT; split <;> rfl
  have hro : ((unexT c a.2).opn : Int) = (p.opn : Int) + 1 := by
    rw [hro0]
    exact HOB.out
  have xcl : wz.cell? ⟨B, 19, none⟩ = some (.bool ((unexT c a.2).cl 7)) := HS.out.1.pa.closed 7 (by omega)
  rw [hro] at x5
  have HCl : Hid (Stp wz B c V (cloP (unexT c a.2) 7) ((wz.setCell ⟨B, 11, none⟩ (.int .i64 (p.opn : Int))).setCell ⟨B, 19, none⟩ (.bool true))) := by
    have := HS.out.1.shut 7 (by omega)
    rw [show (((unexT c a.2).opn - 1 : Nat) : Int) = (p.opn : Int) by omega] at this
    exact this
  clear hro hro0
  go_upto_region 14 with fail
  have HX := Lib.hid (HX.out.only HCl.out.2 (by have := HXN.out; have := HL.out; omega))
  have HSV := Lib.hid (HSV.out.far (Afar.only HCl.out.2 (by have := HL.out; omega) (Nat.le_refl _)))
  have HR := Lib.hid (HR.out.only HCl.out.2 (by have := HL.out; omega))
  have HWZ := Lib.hid (Nat.le_trans HWZ.out HCl.out.2.size)
  have HS := Lib.hid (HS.out.trans HCl.out)
  clear HCl
  generalize (World.setCell _ ⟨B, 19, none⟩ _) = w7 at HX HSV HR HWZ HS ⊢
  clear x0 x1 x2 x3 x4 x5 x6 x7 xf
  clear xcl
  have hx7 : Below w7.heap.size w7 (w7.alloc (.cells #[.int .i64 a.1.op, .int .u64 (wd a.1.st 0 64 : Nat), .int .u64 (wd a.1.st 64 64 : Nat), .int .u64 (wd a.1.st 128 64 : Nat), .int .u64 (wd a.1.st 192 64 : Nat), .int .i64 a.1.lo, .int .i64 a.1.hi, .int .i64 a.1.g, .slice ad a.1.args.len cp] 35)) := (Below.refl _ _).alloc (Nat.le_refl _) _
  have HX7 := Lib.hid hx7
  have hcl : RAt (w7.alloc (.cells #[.int .i64 a.1.op, .int .u64 (wd a.1.st 0 64 : Nat), .int .u64 (wd a.1.st 64 64 : Nat), .int .u64 (wd a.1.st 128 64 : Nat), .int .u64 (wd a.1.st 192 64 : Nat), .int .i64 a.1.lo, .int .i64 a.1.hi, .int .i64 a.1.g, .slice ad a.1.args.len cp] 35)) w.heap.size #[.int .i64 0, .int .u64 0, .int .u64 0, .int .u64 0, .int .u64 0, .int .i64 0, .int .i64 0, .int .i64 0, .slice none 0 0] := HR.out.below hx7
  have HR7 := Lib.hid hcl
  obtain ⟨⟨⟨n0, n1, n2⟩, ⟨n3, n4, n5⟩, ⟨n6, n7, n8⟩⟩, nf⟩ := hcl.all
  obtain ⟨⟨⟨m0, m1, m2⟩, ⟨m3, m4, m5⟩, ⟨m6, m7, m8⟩⟩, mf⟩ := HX.out.all
  clear hx7 hcl
  go_wp2
  refine bodyPost_ret (v := .agg #[.int .i64 6, .int .u64 0, .int .u64 0, .int .u64 0, .int .u64 0, .int .i64 0, .int .i64 0, .int .i64 7, .slice (some ⟨w7.heap.size, 0, none⟩) 1 1]) (ret_re Tryz.results83 _ _ w.heap.size _ rfl (by simp) (HR7.out.put9 _ _ _ _ _ _ _ _ _)) rfl ?_
  refine ⟨_, rfl, ⟨_, rfl, SV.one (t := a.1) (HSV.out.far ((Afar.frm HX7.out (Nat.le_refl _)).trans (Afar.put9 _ _ _ _ _ _ _ _ _ fun b hb => ?_))) ?_ ((RAt.one w7 #[.int .i64 a.1.op, .int .u64 (wd a.1.st 0 64 : Nat), .int .u64 (wd a.1.st 64 64 : Nat), .int .u64 (wd a.1.st 128 64 : Nat), .int .u64 (wd a.1.st 192 64 : Nat), .int .i64 a.1.lo, .int .i64 a.1.hi, .int .i64 a.1.g, .slice ad a.1.args.len cp]).same (put9_other _ _ _ _ _ _ _ _ _ _ _ _ ?_))⟩, (HS.out.next HX7.out).put9 HL.out _ (Nat.le_refl _) _ _ _ _ _ _ _ _ _⟩
  · have hb2 : w.heap.size + 1 ≤ b := hb
    exact ⟨by show w.heap.size ≤ b; omega, by omega⟩
  · have := HWZ.out
    show w.heap.size ≤ w7.heap.size
    omega
  · have := HWZ.out
    omega
set_option maxRecDepth 100000 in
set_option maxHeartbeats 8000000 in
theorem gro_7_y (w : World) (B : Nat) (c : CX) (V : LV) (p : PS) (h : PM w B c V p) (n : Nat) (HIns : Hid (∀ W q, PM W B c V q → Gn n q → Calls Tryz.prog 105 #[.pointer (some ⟨B, 0, none⟩)] W (Ret W B c V (insW c (groT c n) q)))) (hg : p.gr = 7) (hk : kdT c p = 40) (hG : Gn (n + 1) p) (a : TN × PS) (ha : insW c (groT c n) (begP (pastT c (opnP p))) = a) (hao : a.2.opn = p.opn + 1) (hc : kdT c a.2 = 41) :
    Calls Tryz.prog 83 #[.pointer (some ⟨B, 0, none⟩)] w (Ret w B c V (grpR 8 a.1, cloP (pastT c a.2) 8)) := by
  have hx : Below w.heap.size w (w.alloc (.cells #[.int .i64 0, .int .u64 0, .int .u64 0, .int .u64 0, .int .u64 0, .int .i64 0, .int .i64 0, .int .i64 0, .slice none 0 0] 35)) := (Below.refl _ _).alloc (Nat.le_refl _) _
  have HS := Lib.hid (Stp.of_below h hx)
  have HR := Lib.hid (RAt.one w #[.int .i64 0, .int .u64 0, .int .u64 0, .int .u64 0, .int .u64 0, .int .i64 0, .int .i64 0, .int .i64 0, .slice none 0 0])
  have HL := Lib.hid h.lt
  have hop := h.opn
  have hgr := h.gr
  have hk2 : kdT c (opnP p) = 40 := by
    have : tokT c (opnP p) = tokT c p := kd_same rfl rfl
    unfold kdT
    rw [this]
    exact hk
  have hgq : (pastT c (opnP p)).gr = p.gr + 1 := rfl
  obtain ⟨q, hq⟩ : ∃ q, pastT c (opnP p) = q := ⟨_, rfl⟩
  rw [hq] at ha hgq
  have HA : Hid (∀ W, PM W B c V (opnP p) → Calls Tryz.prog 41 #[.pointer (some ⟨B, 0, none⟩), .int .i32 40] W fun e w' => e = .returned (.bool true) ∧ Stp W B c V q w') := fun W h => by
    rw [← hq]
    exact accept_yes W B c V (opnP p) h 40 (by decide) (by decide) hk2
  have HI : Hid (∀ W, PM W B c V (begP q) → Calls Tryz.prog 105 #[.pointer (some ⟨B, 0, none⟩)] W (Ret W B c V a)) := fun W hW => by
    rw [← ha]
    exact HIns.out W _ hW (by have h2 : 10 ≤ p.gr + (n + 1) := hG; show 10 ≤ q.gr + n; omega)
  have HC := Lib.hid (fun W h => accept_yes W B c V a.2 h 41 (by decide) (by decide) hc)
  obtain ⟨⟨x0, x1, x2, x3, x4, x5, x6, x7⟩, xf⟩ := HS.out.1.pa.all
  have HO := Lib.hid (HS.out.1.opened (by omega))
  rw [show ((p.gr + 1 : Nat) : Int) = 8 by omega, show ((p.opn + 1 : Nat) : Int) = (p.opn : Int) + 1 by omega] at HO
  rw [hg] at x4
  have ob : (p.opn : Int) ≤ 9 := by omega
  have HGP := Lib.hid hg
  have HAO := Lib.hid hao
  have HWZ : Hid (w.heap.size + 1 ≤ (w.alloc (.cells #[.int .i64 0, .int .u64 0, .int .u64 0, .int .u64 0, .int .u64 0, .int .i64 0, .int .i64 0, .int .i64 0, .slice none 0 0] 35)).heap.size) := by show w.heap.size + 1 ≤ _; simp
  have hob : (a.2.opn : Int) = (p.opn : Int) + 1 := by omega
  have HOB := Lib.hid hob
  clear h hx hg hk hG ha hao hc hop hgr hk2 hob hq hgq
  go_enter Tryz.func83, Tryz.ntmps83
  go_upto_region 6 with fail
  have HR := Lib.hid (HR.out.only HO.out.2 (by have := HL.out; omega))
  have HWZ := Lib.hid (Nat.le_trans HWZ.out HO.out.2.size)
  have HS := Lib.hid (HS.out.trans HO.out)
  generalize (World.setCell _ ⟨B, 11, none⟩ _) = W1 at HS HR HWZ ⊢
  clear x0 x1 x2 x3 x4 x5 x6 x7 xf
  obtain ⟨⟨x0, x1, x2, x3, x4, x5, x6, x7⟩, xf⟩ := HS.out.1.pa.all
  have e10 : (((opnP p).gr : Nat) : Int) = 8 := by show ((p.gr + 1 : Nat) : Int) = 8; have := HGP.out; omega
  rw [e10] at x4
  have hp := HS.out.1
  clear e10
  go_upto_region 8 with (first
    | (go_at_call 41; (with_reducible refine (HA.out _ hp).mono ?_); rintro e wz ⟨rfl, hs⟩; have HR := Lib.hid (HR.out.only hs.2 (by have := HL.out; omega)); have HWZ := Lib.hid (Nat.le_trans HWZ.out hs.2.size); have HS := Lib.hid (HS.out.trans hs); clear x0 x1 x2 x3 x4 x5 x6 x7 xf; obtain ⟨⟨x0, x1, x2, x3, x4, x5, x6, x7⟩, xf⟩ := HS.out.1.pa.all; clear hp hs; have hp := HS.out.1)
    )
  have HB2 := Lib.hid HS.out.1.begun
  go_upto_region 9 with fail
  have HR := Lib.hid (HR.out.only HB2.out.2 (by have := HL.out; omega))
  have HWZ := Lib.hid (Nat.le_trans HWZ.out HB2.out.2.size)
  have HS := Lib.hid (HS.out.trans HB2.out)
  generalize (World.setCell _ ⟨B, 9, none⟩ _) = W2 at HS HR HWZ ⊢
  clear x0 x1 x2 x3 x4 x5 x6 x7 xf
  clear hp
  have hp := HS.out.1
  go_upto_region 12 with (first
    | (go_at_call 105; (with_reducible refine (HI.out _ hp).mono ?_); rintro e w5 ⟨vv, rfl, ht, hs⟩; obtain ⟨sv, rfl, hsv⟩ := ht; obtain ⟨ad, cp, rfl⟩ := slice_form hsv; unfold rowV; have hx5 : Below w5.heap.size w5 (w5.alloc (.cells #[.int .i64 a.1.op, .int .u64 (wd a.1.st 0 64 : Nat), .int .u64 (wd a.1.st 64 64 : Nat), .int .u64 (wd a.1.st 128 64 : Nat), .int .u64 (wd a.1.st 192 64 : Nat), .int .i64 a.1.lo, .int .i64 a.1.hi, .int .i64 a.1.g, .slice ad a.1.args.len cp] 35)) := (Below.refl _ _).alloc (Nat.le_refl _) _; have hwz := HWZ.out; have HSV := Lib.hid (hsv.far (Afar.frm (m := w.heap.size + 1) hx5 hwz)); have HR := Lib.hid ((HR.out.only hs.2 (by have := HL.out; omega)).below hx5); have HWZ := Lib.hid (Nat.le_trans (Nat.le_trans hwz hs.2.size) hx5.size); have HS := Lib.hid (HS.out.trans (hs.next hx5)); have HX := Lib.hid (RAt.one w5 #[.int .i64 a.1.op, .int .u64 (wd a.1.st 0 64 : Nat), .int .u64 (wd a.1.st 64 64 : Nat), .int .u64 (wd a.1.st 128 64 : Nat), .int .u64 (wd a.1.st 192 64 : Nat), .int .i64 a.1.lo, .int .i64 a.1.hi, .int .i64 a.1.g, .slice ad a.1.args.len cp]); have HXN := Lib.hid (Nat.le_trans hwz hs.2.size); clear hp hs hsv hwz hx5; have hp := HS.out.1)
    | (go_at_call 41; (with_reducible refine (HC.out _ hp).mono ?_); rintro e wz ⟨rfl, hs⟩; have HX := Lib.hid (HX.out.only hs.2 (by have := HXN.out; have := HL.out; omega)); have HSV := Lib.hid (HSV.out.far (Afar.only hs.2 (by have := HL.out; omega) (Nat.le_refl _))); have HR := Lib.hid (HR.out.only hs.2 (by have := HL.out; omega)); have HWZ := Lib.hid (Nat.le_trans HWZ.out hs.2.size); have HS := Lib.hid (HS.out.trans hs); clear hp hs; have hp := HS.out.1)
    | (go_at_call 90; refine (unexpected_any _ B c V _ hp).mono ?_; rintro e wz ⟨rfl, hs⟩; have HX := Lib.hid (HX.out.only hs.2 (by have := HXN.out; have := HL.out; omega)); have HSV := Lib.hid (HSV.out.far (Afar.only hs.2 (by have := HL.out; omega) (Nat.le_refl _))); have HR := Lib.hid (HR.out.only hs.2 (by have := HL.out; omega)); have HWZ := Lib.hid (Nat.le_trans HWZ.out hs.2.size); have HS := Lib.hid (HS.out.trans hs); clear hp hs; have hp := HS.out.1)
    )
  clear hp
  obtain ⟨⟨x0, x1, x2, x3, x4, x5, x6, x7⟩, xf⟩ := HS.out.1.pa.all
  have hro0 : (pastT c a.2).opn = a.2.opn := by
    rfl
  have hro : ((pastT c a.2).opn : Int) = (p.opn : Int) + 1 := by
    rw [hro0]
    exact HOB.out
  have xcl : wz.cell? ⟨B, 20, none⟩ = some (.bool ((pastT c a.2).cl 8)) := HS.out.1.pa.closed 8 (by omega)
  rw [hro] at x5
  have HCl : Hid (Stp wz B c V (cloP (pastT c a.2) 8) ((wz.setCell ⟨B, 11, none⟩ (.int .i64 (p.opn : Int))).setCell ⟨B, 20, none⟩ (.bool true))) := by
    have := HS.out.1.shut 8 (by omega)
    rw [show (((pastT c a.2).opn - 1 : Nat) : Int) = (p.opn : Int) by omega] at this
    exact this
  clear hro hro0
  go_upto_region 14 with fail
  have HX := Lib.hid (HX.out.only HCl.out.2 (by have := HXN.out; have := HL.out; omega))
  have HSV := Lib.hid (HSV.out.far (Afar.only HCl.out.2 (by have := HL.out; omega) (Nat.le_refl _)))
  have HR := Lib.hid (HR.out.only HCl.out.2 (by have := HL.out; omega))
  have HWZ := Lib.hid (Nat.le_trans HWZ.out HCl.out.2.size)
  have HS := Lib.hid (HS.out.trans HCl.out)
  clear HCl
  generalize (World.setCell _ ⟨B, 20, none⟩ _) = w7 at HX HSV HR HWZ HS ⊢
  clear x0 x1 x2 x3 x4 x5 x6 x7 xf
  clear xcl
  have hx7 : Below w7.heap.size w7 (w7.alloc (.cells #[.int .i64 a.1.op, .int .u64 (wd a.1.st 0 64 : Nat), .int .u64 (wd a.1.st 64 64 : Nat), .int .u64 (wd a.1.st 128 64 : Nat), .int .u64 (wd a.1.st 192 64 : Nat), .int .i64 a.1.lo, .int .i64 a.1.hi, .int .i64 a.1.g, .slice ad a.1.args.len cp] 35)) := (Below.refl _ _).alloc (Nat.le_refl _) _
  have HX7 := Lib.hid hx7
  have hcl : RAt (w7.alloc (.cells #[.int .i64 a.1.op, .int .u64 (wd a.1.st 0 64 : Nat), .int .u64 (wd a.1.st 64 64 : Nat), .int .u64 (wd a.1.st 128 64 : Nat), .int .u64 (wd a.1.st 192 64 : Nat), .int .i64 a.1.lo, .int .i64 a.1.hi, .int .i64 a.1.g, .slice ad a.1.args.len cp] 35)) w.heap.size #[.int .i64 0, .int .u64 0, .int .u64 0, .int .u64 0, .int .u64 0, .int .i64 0, .int .i64 0, .int .i64 0, .slice none 0 0] := HR.out.below hx7
  have HR7 := Lib.hid hcl
  obtain ⟨⟨⟨n0, n1, n2⟩, ⟨n3, n4, n5⟩, ⟨n6, n7, n8⟩⟩, nf⟩ := hcl.all
  obtain ⟨⟨⟨m0, m1, m2⟩, ⟨m3, m4, m5⟩, ⟨m6, m7, m8⟩⟩, mf⟩ := HX.out.all
  clear hx7 hcl
  go_wp2
  refine bodyPost_ret (v := .agg #[.int .i64 6, .int .u64 0, .int .u64 0, .int .u64 0, .int .u64 0, .int .i64 0, .int .i64 0, .int .i64 8, .slice (some ⟨w7.heap.size, 0, none⟩) 1 1]) (ret_re Tryz.results83 _ _ w.heap.size _ rfl (by simp) (HR7.out.put9 _ _ _ _ _ _ _ _ _)) rfl ?_
  refine ⟨_, rfl, ⟨_, rfl, SV.one (t := a.1) (HSV.out.far ((Afar.frm HX7.out (Nat.le_refl _)).trans (Afar.put9 _ _ _ _ _ _ _ _ _ fun b hb => ?_))) ?_ ((RAt.one w7 #[.int .i64 a.1.op, .int .u64 (wd a.1.st 0 64 : Nat), .int .u64 (wd a.1.st 64 64 : Nat), .int .u64 (wd a.1.st 128 64 : Nat), .int .u64 (wd a.1.st 192 64 : Nat), .int .i64 a.1.lo, .int .i64 a.1.hi, .int .i64 a.1.g, .slice ad a.1.args.len cp]).same (put9_other _ _ _ _ _ _ _ _ _ _ _ _ ?_))⟩, (HS.out.next HX7.out).put9 HL.out _ (Nat.le_refl _) _ _ _ _ _ _ _ _ _⟩
  · have hb2 : w.heap.size + 1 ≤ b := hb
    exact ⟨by show w.heap.size ≤ b; omega, by omega⟩
  · have := HWZ.out
    show w.heap.size ≤ w7.heap.size
    omega
  · have := HWZ.out
    omega
set_option maxRecDepth 100000 in
set_option maxHeartbeats 8000000 in
theorem gro_7_n (w : World) (B : Nat) (c : CX) (V : LV) (p : PS) (h : PM w B c V p) (n : Nat) (HIns : Hid (∀ W q, PM W B c V q → Gn n q → Calls Tryz.prog 105 #[.pointer (some ⟨B, 0, none⟩)] W (Ret W B c V (insW c (groT c n) q)))) (hg : p.gr = 7) (hk : kdT c p = 40) (hG : Gn (n + 1) p) (a : TN × PS) (ha : insW c (groT c n) (begP (pastT c (opnP p))) = a) (hao : a.2.opn = p.opn + 1) (hc : kdT c a.2 ≠ 41) :
    Calls Tryz.prog 83 #[.pointer (some ⟨B, 0, none⟩)] w (Ret w B c V (grpR 8 a.1, cloP (unexT c a.2) 8)) := by
  have hx : Below w.heap.size w (w.alloc (.cells #[.int .i64 0, .int .u64 0, .int .u64 0, .int .u64 0, .int .u64 0, .int .i64 0, .int .i64 0, .int .i64 0, .slice none 0 0] 35)) := (Below.refl _ _).alloc (Nat.le_refl _) _
  have HS := Lib.hid (Stp.of_below h hx)
  have HR := Lib.hid (RAt.one w #[.int .i64 0, .int .u64 0, .int .u64 0, .int .u64 0, .int .u64 0, .int .i64 0, .int .i64 0, .int .i64 0, .slice none 0 0])
  have HL := Lib.hid h.lt
  have hop := h.opn
  have hgr := h.gr
  have hk2 : kdT c (opnP p) = 40 := by
    have : tokT c (opnP p) = tokT c p := kd_same rfl rfl
    unfold kdT
    rw [this]
    exact hk
  have hgq : (pastT c (opnP p)).gr = p.gr + 1 := rfl
  obtain ⟨q, hq⟩ : ∃ q, pastT c (opnP p) = q := ⟨_, rfl⟩
  rw [hq] at ha hgq
  have HA : Hid (∀ W, PM W B c V (opnP p) → Calls Tryz.prog 41 #[.pointer (some ⟨B, 0, none⟩), .int .i32 40] W fun e w' => e = .returned (.bool true) ∧ Stp W B c V q w') := fun W h => by
    rw [← hq]
    exact accept_yes W B c V (opnP p) h 40 (by decide) (by decide) hk2
  have HI : Hid (∀ W, PM W B c V (begP q) → Calls Tryz.prog 105 #[.pointer (some ⟨B, 0, none⟩)] W (Ret W B c V a)) := fun W hW => by
    rw [← ha]
    exact HIns.out W _ hW (by have h2 : 10 ≤ p.gr + (n + 1) := hG; show 10 ≤ q.gr + n; omega)
  have HC := Lib.hid (fun W h => accept_no W B c V a.2 h 41 (by decide) (by decide) hc)
  obtain ⟨⟨x0, x1, x2, x3, x4, x5, x6, x7⟩, xf⟩ := HS.out.1.pa.all
  have HO := Lib.hid (HS.out.1.opened (by omega))
  rw [show ((p.gr + 1 : Nat) : Int) = 8 by omega, show ((p.opn + 1 : Nat) : Int) = (p.opn : Int) + 1 by omega] at HO
  rw [hg] at x4
  have ob : (p.opn : Int) ≤ 9 := by omega
  have HGP := Lib.hid hg
  have HAO := Lib.hid hao
  have HWZ : Hid (w.heap.size + 1 ≤ (w.alloc (.cells #[.int .i64 0, .int .u64 0, .int .u64 0, .int .u64 0, .int .u64 0, .int .i64 0, .int .i64 0, .int .i64 0, .slice none 0 0] 35)).heap.size) := by show w.heap.size + 1 ≤ _; simp
  have hob : (a.2.opn : Int) = (p.opn : Int) + 1 := by omega
  have HOB := Lib.hid hob
  clear h hx hg hk hG ha hao hc hop hgr hk2 hob hq hgq
  go_enter Tryz.func83, Tryz.ntmps83
  go_upto_region 6 with fail
  have HR := Lib.hid (HR.out.only HO.out.2 (by have := HL.out; omega))
  have HWZ := Lib.hid (Nat.le_trans HWZ.out HO.out.2.size)
  have HS := Lib.hid (HS.out.trans HO.out)
  generalize (World.setCell _ ⟨B, 11, none⟩ _) = W1 at HS HR HWZ ⊢
  clear x0 x1 x2 x3 x4 x5 x6 x7 xf
  obtain ⟨⟨x0, x1, x2, x3, x4, x5, x6, x7⟩, xf⟩ := HS.out.1.pa.all
  have e10 : (((opnP p).gr : Nat) : Int) = 8 := by show ((p.gr + 1 : Nat) : Int) = 8; have := HGP.out; omega
  rw [e10] at x4
  have hp := HS.out.1
  clear e10
  go_upto_region 8 with (first
    | (go_at_call 41; (with_reducible refine (HA.out _ hp).mono ?_); rintro e wz ⟨rfl, hs⟩; have HR := Lib.hid (HR.out.only hs.2 (by have := HL.out; omega)); have HWZ := Lib.hid (Nat.le_trans HWZ.out hs.2.size); have HS := Lib.hid (HS.out.trans hs); clear x0 x1 x2 x3 x4 x5 x6 x7 xf; obtain ⟨⟨x0, x1, x2, x3, x4, x5, x6, x7⟩, xf⟩ := HS.out.1.pa.all; clear hp hs; have hp := HS.out.1)
    )
  have HB2 := Lib.hid HS.out.1.begun
  go_upto_region 9 with fail
  have HR := Lib.hid (HR.out.only HB2.out.2 (by have := HL.out; omega))
  have HWZ := Lib.hid (Nat.le_trans HWZ.out HB2.out.2.size)
  have HS := Lib.hid (HS.out.trans HB2.out)
  generalize (World.setCell _ ⟨B, 9, none⟩ _) = W2 at HS HR HWZ ⊢
  clear x0 x1 x2 x3 x4 x5 x6 x7 xf
  clear hp
  have hp := HS.out.1
  go_upto_region 12 with (first
    | (go_at_call 105; (with_reducible refine (HI.out _ hp).mono ?_); rintro e w5 ⟨vv, rfl, ht, hs⟩; obtain ⟨sv, rfl, hsv⟩ := ht; obtain ⟨ad, cp, rfl⟩ := slice_form hsv; unfold rowV; have hx5 : Below w5.heap.size w5 (w5.alloc (.cells #[.int .i64 a.1.op, .int .u64 (wd a.1.st 0 64 : Nat), .int .u64 (wd a.1.st 64 64 : Nat), .int .u64 (wd a.1.st 128 64 : Nat), .int .u64 (wd a.1.st 192 64 : Nat), .int .i64 a.1.lo, .int .i64 a.1.hi, .int .i64 a.1.g, .slice ad a.1.args.len cp] 35)) := (Below.refl _ _).alloc (Nat.le_refl _) _; have hwz := HWZ.out; have HSV := Lib.hid (hsv.far (Afar.frm (m := w.heap.size + 1) hx5 hwz)); have HR := Lib.hid ((HR.out.only hs.2 (by have := HL.out; omega)).below hx5); have HWZ := Lib.hid (Nat.le_trans (Nat.le_trans hwz hs.2.size) hx5.size); have HS := Lib.hid (HS.out.trans (hs.next hx5)); have HX := Lib.hid (RAt.one w5 #[.int .i64 a.1.op, .int .u64 (wd a.1.st 0 64 : Nat), .int .u64 (wd a.1.st 64 64 : Nat), .int .u64 (wd a.1.st 128 64 : Nat), .int .u64 (wd a.1.st 192 64 : Nat), .int .i64 a.1.lo, .int .i64 a.1.hi, .int .i64 a.1.g, .slice ad a.1.args.len cp]); have HXN := Lib.hid (Nat.le_trans hwz hs.2.size); clear hp hs hsv hwz hx5; have hp := HS.out.1)
    | (go_at_call 41; (with_reducible refine (HC.out _ hp).mono ?_); rintro e wz ⟨rfl, hs⟩; have HX := Lib.hid (HX.out.only hs.2 (by have := HXN.out; have := HL.out; omega)); have HSV := Lib.hid (HSV.out.far (Afar.only hs.2 (by have := HL.out; omega) (Nat.le_refl _))); have HR := Lib.hid (HR.out.only hs.2 (by have := HL.out; omega)); have HWZ := Lib.hid (Nat.le_trans HWZ.out hs.2.size); have HS := Lib.hid (HS.out.trans hs); clear hp hs; have hp := HS.out.1)
    | (go_at_call 90; refine (unexpected_any _ B c V _ hp).mono ?_; rintro e wz ⟨rfl, hs⟩; have HX := Lib.hid (HX.out.only hs.2 (by have := HXN.out; have := HL.out; omega)); have HSV := Lib.hid (HSV.out.far (Afar.only hs.2 (by have := HL.out; omega) (Nat.le_refl _))); have HR := Lib.hid (HR.out.only hs.2 (by have := HL.out; omega)); have HWZ := Lib.hid (Nat.le_trans HWZ.out hs.2.size); have HS := Lib.hid (HS.out.trans hs); clear hp hs; have hp := HS.out.1)
    )
  clear hp
  obtain ⟨⟨x0, x1, x2, x3, x4, x5, x6, x7⟩, xf⟩ := HS.out.1.pa.all
  have hro0 : (unexT c a.2).opn = a.2.opn := by
    unfold unexT failT; split <;> rfl
  have hro : ((unexT c a.2).opn : Int) = (p.opn : Int) + 1 := by
    rw [hro0]
    exact HOB.out
  have xcl : wz.cell? ⟨B, 20, none⟩ = some (.bool ((unexT c a.2).cl 8)) := HS.out.1.pa.closed 8 (by omega)
  rw [hro] at x5
  have HCl : Hid (Stp wz B c V (cloP (unexT c a.2) 8) ((wz.setCell ⟨B, 11, none⟩ (.int .i64 (p.opn : Int))).setCell ⟨B, 20, none⟩ (.bool true))) := by
    have := HS.out.1.shut 8 (by omega)
    rw [show (((unexT c a.2).opn - 1 : Nat) : Int) = (p.opn : Int) by omega] at this
    exact this
  clear hro hro0
  go_upto_region 14 with fail
  have HX := Lib.hid (HX.out.only HCl.out.2 (by have := HXN.out; have := HL.out; omega))
  have HSV := Lib.hid (HSV.out.far (Afar.only HCl.out.2 (by have := HL.out; omega) (Nat.le_refl _)))
  have HR := Lib.hid (HR.out.only HCl.out.2 (by have := HL.out; omega))
  have HWZ := Lib.hid (Nat.le_trans HWZ.out HCl.out.2.size)
  have HS := Lib.hid (HS.out.trans HCl.out)
  clear HCl
  generalize (World.setCell _ ⟨B, 20, none⟩ _) = w7 at HX HSV HR HWZ HS ⊢
  clear x0 x1 x2 x3 x4 x5 x6 x7 xf
  clear xcl
  have hx7 : Below w7.heap.size w7 (w7.alloc (.cells #[.int .i64 a.1.op, .int .u64 (wd a.1.st 0 64 : Nat), .int .u64 (wd a.1.st 64 64 : Nat), .int .u64 (wd a.1.st 128 64 : Nat), .int .u64 (wd a.1.st 192 64 : Nat), .int .i64 a.1.lo, .int .i64 a.1.hi, .int .i64 a.1.g, .slice ad a.1.args.len cp] 35)) := (Below.refl _ _).alloc (Nat.le_refl _) _
  have HX7 := Lib.hid hx7
  have hcl : RAt (w7.alloc (.cells #[.int .i64 a.1.op, .int .u64 (wd a.1.st 0 64 : Nat), .int .u64 (wd a.1.st 64 64 : Nat), .int .u64 (wd a.1.st 128 64 : Nat), .int .u64 (wd a.1.st 192 64 : Nat), .int .i64 a.1.lo, .int .i64 a.1.hi, .int .i64 a.1.g, .slice ad a.1.args.len cp] 35)) w.heap.size #[.int .i64 0, .int .u64 0, .int .u64 0, .int .u64 0, .int .u64 0, .int .i64 0, .int .i64 0, .int .i64 0, .slice none 0 0] := HR.out.below hx7
  have HR7 := Lib.hid hcl
  obtain ⟨⟨⟨n0, n1, n2⟩, ⟨n3, n4, n5⟩, ⟨n6, n7, n8⟩⟩, nf⟩ := hcl.all
  obtain ⟨⟨⟨m0, m1, m2⟩, ⟨m3, m4, m5⟩, ⟨m6, m7, m8⟩⟩, mf⟩ := HX.out.all
  clear hx7 hcl
  go_wp2
  refine bodyPost_ret (v := .agg #[.int .i64 6, .int .u64 0, .int .u64 0, .int .u64 0, .int .u64 0, .int .i64 0, .int .i64 0, .int .i64 8, .slice (some ⟨w7.heap.size, 0, none⟩) 1 1]) (ret_re Tryz.results83 _ _ w.heap.size _ rfl (by simp) (HR7.out.put9 _ _ _ _ _ _ _ _ _)) rfl ?_
  refine ⟨_, rfl, ⟨_, rfl, SV.one (t := a.1) (HSV.out.far ((Afar.frm HX7.out (Nat.le_refl _)).trans (Afar.put9 _ _ _ _ _ _ _ _ _ fun b hb => ?_))) ?_ ((RAt.one w7 #[.int .i64 a.1.op, .int .u64 (wd a.1.st 0 64 : Nat), .int .u64 (wd a.1.st 64 64 : Nat), .int .u64 (wd a.1.st 128 64 : Nat), .int .u64 (wd a.1.st 192 64 : Nat), .int .i64 a.1.lo, .int .i64 a.1.hi, .int .i64 a.1.g, .slice ad a.1.args.len cp]).same (put9_other _ _ _ _ _ _ _ _ _ _ _ _ ?_))⟩, (HS.out.next HX7.out).put9 HL.out _ (Nat.le_refl _) _ _ _ _ _ _ _ _ _⟩
  · have hb2 : w.heap.size + 1 ≤ b := hb
    exact ⟨by show w.heap.size ≤ b; omega, by omega⟩
  · have := HWZ.out
    show w.heap.size ≤ w7.heap.size
    omega
  · have := HWZ.out
    omega
set_option maxRecDepth 100000 in
set_option maxHeartbeats 8000000 in
theorem gro_8_y (w : World) (B : Nat) (c : CX) (V : LV) (p : PS) (h : PM w B c V p) (n : Nat) (HIns : Hid (∀ W q, PM W B c V q → Gn n q → Calls Tryz.prog 105 #[.pointer (some ⟨B, 0, none⟩)] W (Ret W B c V (insW c (groT c n) q)))) (hg : p.gr = 8) (hk : kdT c p = 40) (hG : Gn (n + 1) p) (a : TN × PS) (ha : insW c (groT c n) (begP (pastT c (opnP p))) = a) (hao : a.2.opn = p.opn + 1) (hc : kdT c a.2 = 41) :
    Calls Tryz.prog 83 #[.pointer (some ⟨B, 0, none⟩)] w (Ret w B c V (grpR 9 a.1, cloP (pastT c a.2) 9)) := by
  have hx : Below w.heap.size w (w.alloc (.cells #[.int .i64 0, .int .u64 0, .int .u64 0, .int .u64 0, .int .u64 0, .int .i64 0, .int .i64 0, .int .i64 0, .slice none 0 0] 35)) := (Below.refl _ _).alloc (Nat.le_refl _) _
  have HS := Lib.hid (Stp.of_below h hx)
  have HR := Lib.hid (RAt.one w #[.int .i64 0, .int .u64 0, .int .u64 0, .int .u64 0, .int .u64 0, .int .i64 0, .int .i64 0, .int .i64 0, .slice none 0 0])
  have HL := Lib.hid h.lt
  have hop := h.opn
  have hgr := h.gr
  have hk2 : kdT c (opnP p) = 40 := by
    have : tokT c (opnP p) = tokT c p := kd_same rfl rfl
    unfold kdT
    rw [this]
    exact hk
  have hgq : (pastT c (opnP p)).gr = p.gr + 1 := rfl
  obtain ⟨q, hq⟩ : ∃ q, pastT c (opnP p) = q := ⟨_, rfl⟩
  rw [hq] at ha hgq
  have HA : Hid (∀ W, PM W B c V (opnP p) → Calls Tryz.prog 41 #[.pointer (some ⟨B, 0, none⟩), .int .i32 40] W fun e w' => e = .returned (.bool true) ∧ Stp W B c V q w') := fun W h => by
    rw [← hq]
    exact accept_yes W B c V (opnP p) h 40 (by decide) (by decide) hk2
  have HI : Hid (∀ W, PM W B c V (begP q) → Calls Tryz.prog 105 #[.pointer (some ⟨B, 0, none⟩)] W (Ret W B c V a)) := fun W hW => by
    rw [← ha]
    exact HIns.out W _ hW (by have h2 : 10 ≤ p.gr + (n + 1) := hG; show 10 ≤ q.gr + n; omega)
  have HC := Lib.hid (fun W h => accept_yes W B c V a.2 h 41 (by decide) (by decide) hc)
  obtain ⟨⟨x0, x1, x2, x3, x4, x5, x6, x7⟩, xf⟩ := HS.out.1.pa.all
  have HO := Lib.hid (HS.out.1.opened (by omega))
  rw [show ((p.gr + 1 : Nat) : Int) = 9 by omega, show ((p.opn + 1 : Nat) : Int) = (p.opn : Int) + 1 by omega] at HO
  rw [hg] at x4
  have ob : (p.opn : Int) ≤ 9 := by omega
  have HGP := Lib.hid hg
  have HAO := Lib.hid hao
  have HWZ : Hid (w.heap.size + 1 ≤ (w.alloc (.cells #[.int .i64 0, .int .u64 0, .int .u64 0, .int .u64 0, .int .u64 0, .int .i64 0, .int .i64 0, .int .i64 0, .slice none 0 0] 35)).heap.size) := by show w.heap.size + 1 ≤ _; simp
  have hob : (a.2.opn : Int) = (p.opn : Int) + 1 := by omega
  have HOB := Lib.hid hob
  clear h hx hg hk hG ha hao hc hop hgr hk2 hob hq hgq
  go_enter Tryz.func83, Tryz.ntmps83
  go_upto_region 6 with fail
  have HR := Lib.hid (HR.out.only HO.out.2 (by have := HL.out; omega))
  have HWZ := Lib.hid (Nat.le_trans HWZ.out HO.out.2.size)
  have HS := Lib.hid (HS.out.trans HO.out)
  generalize (World.setCell _ ⟨B, 11, none⟩ _) = W1 at HS HR HWZ ⊢
  clear x0 x1 x2 x3 x4 x5 x6 x7 xf
  obtain ⟨⟨x0, x1, x2, x3, x4, x5, x6, x7⟩, xf⟩ := HS.out.1.pa.all
  have e10 : (((opnP p).gr : Nat) : Int) = 9 := by show ((p.gr + 1 : Nat) : Int) = 9; have := HGP.out; omega
  rw [e10] at x4
  have hp := HS.out.1
  clear e10
  go_upto_region 8 with (first
    | (go_at_call 41; (with_reducible refine (HA.out _ hp).mono ?_); rintro e wz ⟨rfl, hs⟩; have HR := Lib.hid (HR.out.only hs.2 (by have := HL.out; omega)); have HWZ := Lib.hid (Nat.le_trans HWZ.out hs.2.size); have HS := Lib.hid (HS.out.trans hs); clear x0 x1 x2 x3 x4 x5 x6 x7 xf; obtain ⟨⟨x0, x1, x2, x3, x4, x5, x6, x7⟩, xf⟩ := HS.out.1.pa.all; clear hp hs; have hp := HS.out.1)
    )
  have HB2 := Lib.hid HS.out.1.begun
  go_upto_region 9 with fail
  have HR := Lib.hid (HR.out.only HB2.out.2 (by have := HL.out; omega))
  have HWZ := Lib.hid (Nat.le_trans HWZ.out HB2.out.2.size)
  have HS := Lib.hid (HS.out.trans HB2.out)
  generalize (World.setCell _ ⟨B, 9, none⟩ _) = W2 at HS HR HWZ ⊢
  clear x0 x1 x2 x3 x4 x5 x6 x7 xf
  clear hp
  have hp := HS.out.1
  go_upto_region 12 with (first
    | (go_at_call 105; (with_reducible refine (HI.out _ hp).mono ?_); rintro e w5 ⟨vv, rfl, ht, hs⟩; obtain ⟨sv, rfl, hsv⟩ := ht; obtain ⟨ad, cp, rfl⟩ := slice_form hsv; unfold rowV; have hx5 : Below w5.heap.size w5 (w5.alloc (.cells #[.int .i64 a.1.op, .int .u64 (wd a.1.st 0 64 : Nat), .int .u64 (wd a.1.st 64 64 : Nat), .int .u64 (wd a.1.st 128 64 : Nat), .int .u64 (wd a.1.st 192 64 : Nat), .int .i64 a.1.lo, .int .i64 a.1.hi, .int .i64 a.1.g, .slice ad a.1.args.len cp] 35)) := (Below.refl _ _).alloc (Nat.le_refl _) _; have hwz := HWZ.out; have HSV := Lib.hid (hsv.far (Afar.frm (m := w.heap.size + 1) hx5 hwz)); have HR := Lib.hid ((HR.out.only hs.2 (by have := HL.out; omega)).below hx5); have HWZ := Lib.hid (Nat.le_trans (Nat.le_trans hwz hs.2.size) hx5.size); have HS := Lib.hid (HS.out.trans (hs.next hx5)); have HX := Lib.hid (RAt.one w5 #[.int .i64 a.1.op, .int .u64 (wd a.1.st 0 64 : Nat), .int .u64 (wd a.1.st 64 64 : Nat), .int .u64 (wd a.1.st 128 64 : Nat), .int .u64 (wd a.1.st 192 64 : Nat), .int .i64 a.1.lo, .int .i64 a.1.hi, .int .i64 a.1.g, .slice ad a.1.args.len cp]); have HXN := Lib.hid (Nat.le_trans hwz hs.2.size); clear hp hs hsv hwz hx5; have hp := HS.out.1)
    | (go_at_call 41; (with_reducible refine (HC.out _ hp).mono ?_); rintro e wz ⟨rfl, hs⟩; have HX := Lib.hid (HX.out.only hs.2 (by have := HXN.out; have := HL.out; omega)); have HSV := Lib.hid (HSV.out.far (Afar.only hs.2 (by have := HL.out; omega) (Nat.le_refl _))); have HR := Lib.hid (HR.out.only hs.2 (by have := HL.out; omega)); have HWZ := Lib.hid (Nat.le_trans HWZ.out hs.2.size); have HS := Lib.hid (HS.out.trans hs); clear hp hs; have hp := HS.out.1)
    | (go_at_call 90; refine (unexpected_any _ B c V _ hp).mono ?_; rintro e wz ⟨rfl, hs⟩; have HX := Lib.hid (HX.out.only hs.2 (by have := HXN.out; have := HL.out; omega)); have HSV := Lib.hid (HSV.out.far (Afar.only hs.2 (by have := HL.out; omega) (Nat.le_refl _))); have HR := Lib.hid (HR.out.only hs.2 (by have := HL.out; omega)); have HWZ := Lib.hid (Nat.le_trans HWZ.out hs.2.size); have HS := Lib.hid (HS.out.trans hs); clear hp hs; have hp := HS.out.1)
    )
  clear hp
  obtain ⟨⟨x0, x1, x2, x3, x4, x5, x6, x7⟩, xf⟩ := HS.out.1.pa.all
  have hro0 : (pastT c a.2).opn = a.2.opn := by
    rfl
  have hro : ((pastT c a.2).opn : Int) = (p.opn : Int) + 1 := by
    rw [hro0]
    exact HOB.out
  have xcl : wz.cell? ⟨B, 21, none⟩ = some (.bool ((pastT c a.2).cl 9)) := HS.out.1.pa.closed 9 (by omega)
  rw [hro] at x5
  have HCl : Hid (Stp wz B c V (cloP (pastT c a.2) 9) ((wz.setCell ⟨B, 11, none⟩ (.int .i64 (p.opn : Int))).setCell ⟨B, 21, none⟩ (.bool true))) := by
    have := HS.out.1.shut 9 (by omega)
    rw [show (((pastT c a.2).opn - 1 : Nat) : Int) = (p.opn : Int) by omega] at this
    exact this
  clear hro hro0
  go_upto_region 14 with fail
  have HX := Lib.hid (HX.out.only HCl.out.2 (by have := HXN.out; have := HL.out; omega))
  have HSV := Lib.hid (HSV.out.far (Afar.only HCl.out.2 (by have := HL.out; omega) (Nat.le_refl _)))
  have HR := Lib.hid (HR.out.only HCl.out.2 (by have := HL.out; omega))
  have HWZ := Lib.hid (Nat.le_trans HWZ.out HCl.out.2.size)
  have HS := Lib.hid (HS.out.trans HCl.out)
  clear HCl
  generalize (World.setCell _ ⟨B, 21, none⟩ _) = w7 at HX HSV HR HWZ HS ⊢
  clear x0 x1 x2 x3 x4 x5 x6 x7 xf
  clear xcl
  have hx7 : Below w7.heap.size w7 (w7.alloc (.cells #[.int .i64 a.1.op, .int .u64 (wd a.1.st 0 64 : Nat), .int .u64 (wd a.1.st 64 64 : Nat), .int .u64 (wd a.1.st 128 64 : Nat), .int .u64 (wd a.1.st 192 64 : Nat), .int .i64 a.1.lo, .int .i64 a.1.hi, .int .i64 a.1.g, .slice ad a.1.args.len cp] 35)) := (Below.refl _ _).alloc (Nat.le_refl _) _
  have HX7 := Lib.hid hx7
  have hcl : RAt (w7.alloc (.cells #[.int .i64 a.1.op, .int .u64 (wd a.1.st 0 64 : Nat), .int .u64 (wd a.1.st 64 64 : Nat), .int .u64 (wd a.1.st 128 64 : Nat), .int .u64 (wd a.1.st 192 64 : Nat), .int .i64 a.1.lo, .int .i64 a.1.hi, .int .i64 a.1.g, .slice ad a.1.args.len cp] 35)) w.heap.size #[.int .i64 0, .int .u64 0, .int .u64 0, .int .u64 0, .int .u64 0, .int .i64 0, .int .i64 0, .int .i64 0, .slice none 0 0] := HR.out.below hx7
  have HR7 := Lib.hid hcl
  obtain ⟨⟨⟨n0, n1, n2⟩, ⟨n3, n4, n5⟩, ⟨n6, n7, n8⟩⟩, nf⟩ := hcl.all
  obtain ⟨⟨⟨m0, m1, m2⟩, ⟨m3, m4, m5⟩, ⟨m6, m7, m8⟩⟩, mf⟩ := HX.out.all
  clear hx7 hcl
  go_wp2
  refine bodyPost_ret (v := .agg #[.int .i64 6, .int .u64 0, .int .u64 0, .int .u64 0, .int .u64 0, .int .i64 0, .int .i64 0, .int .i64 9, .slice (some ⟨w7.heap.size, 0, none⟩) 1 1]) (ret_re Tryz.results83 _ _ w.heap.size _ rfl (by simp) (HR7.out.put9 _ _ _ _ _ _ _ _ _)) rfl ?_
  refine ⟨_, rfl, ⟨_, rfl, SV.one (t := a.1) (HSV.out.far ((Afar.frm HX7.out (Nat.le_refl _)).trans (Afar.put9 _ _ _ _ _ _ _ _ _ fun b hb => ?_))) ?_ ((RAt.one w7 #[.int .i64 a.1.op, .int .u64 (wd a.1.st 0 64 : Nat), .int .u64 (wd a.1.st 64 64 : Nat), .int .u64 (wd a.1.st 128 64 : Nat), .int .u64 (wd a.1.st 192 64 : Nat), .int .i64 a.1.lo, .int .i64 a.1.hi, .int .i64 a.1.g, .slice ad a.1.args.len cp]).same (put9_other _ _ _ _ _ _ _ _ _ _ _ _ ?_))⟩, (HS.out.next HX7.out).put9 HL.out _ (Nat.le_refl _) _ _ _ _ _ _ _ _ _⟩
  · have hb2 : w.heap.size + 1 ≤ b := hb
    exact ⟨by show w.heap.size ≤ b; omega, by omega⟩
  · have := HWZ.out
    show w.heap.size ≤ w7.heap.size
    omega
  · have := HWZ.out
    omega
set_option maxRecDepth 100000 in
set_option maxHeartbeats 8000000 in
theorem gro_8_n (w : World) (B : Nat) (c : CX) (V : LV) (p : PS) (h : PM w B c V p) (n : Nat) (HIns : Hid (∀ W q, PM W B c V q → Gn n q → Calls Tryz.prog 105 #[.pointer (some ⟨B, 0, none⟩)] W (Ret W B c V (insW c (groT c n) q)))) (hg : p.gr = 8) (hk : kdT c p = 40) (hG : Gn (n + 1) p) (a : TN × PS) (ha : insW c (groT c n) (begP (pastT c (opnP p))) = a) (hao : a.2.opn = p.opn + 1) (hc : kdT c a.2 ≠ 41) :
    Calls Tryz.prog 83 #[.pointer (some ⟨B, 0, none⟩)] w (Ret w B c V (grpR 9 a.1, cloP (unexT c a.2) 9)) := by
  have hx : Below w.heap.size w (w.alloc (.cells #[.int .i64 0, .int .u64 0, .int .u64 0, .int .u64 0, .int .u64 0, .int .i64 0, .int .i64 0, .int .i64 0, .slice none 0 0] 35)) := (Below.refl _ _).alloc (Nat.le_refl _) _
  have HS := Lib.hid (Stp.of_below h hx)
  have HR := Lib.hid (RAt.one w #[.int .i64 0, .int .u64 0, .int .u64 0, .int .u64 0, .int .u64 0, .int .i64 0, .int .i64 0, .int .i64 0, .slice none 0 0])
  have HL := Lib.hid h.lt
  have hop := h.opn
  have hgr := h.gr
  have hk2 : kdT c (opnP p) = 40 := by
    have : tokT c (opnP p) = tokT c p := kd_same rfl rfl
    unfold kdT
    rw [this]
    exact hk
  have hgq : (pastT c (opnP p)).gr = p.gr + 1 := rfl
  obtain ⟨q, hq⟩ : ∃ q, pastT c (opnP p) = q := ⟨_, rfl⟩
  rw [hq] at ha hgq
  have HA : Hid (∀ W, PM W B c V (opnP p) → Calls Tryz.prog 41 #[.pointer (some ⟨B, 0, none⟩), .int .i32 40] W fun e w' => e = .returned (.bool true) ∧ Stp W B c V q w') := fun W h => by
    rw [← hq]
    exact accept_yes W B c V (opnP p) h 40 (by decide) (by decide) hk2
  have HI : Hid (∀ W, PM W B c V (begP q) → Calls Tryz.prog 105 #[.pointer (some ⟨B, 0, none⟩)] W (Ret W B c V a)) := fun W hW => by
    rw [← ha]
    exact HIns.out W _ hW (by have h2 : 10 ≤ p.gr + (n + 1) := hG; show 10 ≤ q.gr + n; omega)
  have HC := Lib.hid (fun W h => accept_no W B c V a.2 h 41 (by decide) (by decide) hc)
  obtain ⟨⟨x0, x1, x2, x3, x4, x5, x6, x7⟩, xf⟩ := HS.out.1.pa.all
  have HO := Lib.hid (HS.out.1.opened (by omega))
  rw [show ((p.gr + 1 : Nat) : Int) = 9 by omega, show ((p.opn + 1 : Nat) : Int) = (p.opn : Int) + 1 by omega] at HO
  rw [hg] at x4
  have ob : (p.opn : Int) ≤ 9 := by omega
  have HGP := Lib.hid hg
  have HAO := Lib.hid hao
  have HWZ : Hid (w.heap.size + 1 ≤ (w.alloc (.cells #[.int .i64 0, .int .u64 0, .int .u64 0, .int .u64 0, .int .u64 0, .int .i64 0, .int .i64 0, .int .i64 0, .slice none 0 0] 35)).heap.size) := by show w.heap.size + 1 ≤ _; simp
  have hob : (a.2.opn : Int) = (p.opn : Int) + 1 := by omega
  have HOB := Lib.hid hob
  clear h hx hg hk hG ha hao hc hop hgr hk2 hob hq hgq
  go_enter Tryz.func83, Tryz.ntmps83
  go_upto_region 6 with fail
  have HR := Lib.hid (HR.out.only HO.out.2 (by have := HL.out; omega))
  have HWZ := Lib.hid (Nat.le_trans HWZ.out HO.out.2.size)
  have HS := Lib.hid (HS.out.trans HO.out)
  generalize (World.setCell _ ⟨B, 11, none⟩ _) = W1 at HS HR HWZ ⊢
  clear x0 x1 x2 x3 x4 x5 x6 x7 xf
  obtain ⟨⟨x0, x1, x2, x3, x4, x5, x6, x7⟩, xf⟩ := HS.out.1.pa.all
  have e10 : (((opnP p).gr : Nat) : Int) = 9 := by show ((p.gr + 1 : Nat) : Int) = 9; have := HGP.out; omega
  rw [e10] at x4
  have hp := HS.out.1
  clear e10
  go_upto_region 8 with (first
    | (go_at_call 41; (with_reducible refine (HA.out _ hp).mono ?_); rintro e wz ⟨rfl, hs⟩; have HR := Lib.hid (HR.out.only hs.2 (by have := HL.out; omega)); have HWZ := Lib.hid (Nat.le_trans HWZ.out hs.2.size); have HS := Lib.hid (HS.out.trans hs); clear x0 x1 x2 x3 x4 x5 x6 x7 xf; obtain ⟨⟨x0, x1, x2, x3, x4, x5, x6, x7⟩, xf⟩ := HS.out.1.pa.all; clear hp hs; have hp := HS.out.1)
    )
  have HB2 := Lib.hid HS.out.1.begun
  go_upto_region 9 with fail
  have HR := Lib.hid (HR.out.only HB2.out.2 (by have := HL.out; omega))
  have HWZ := Lib.hid (Nat.le_trans HWZ.out HB2.out.2.size)
  have HS := Lib.hid (HS.out.trans HB2.out)
  generalize (World.setCell _ ⟨B, 9, none⟩ _) = W2 at HS HR HWZ ⊢
  clear x0 x1 x2 x3 x4 x5 x6 x7 xf
  clear hp
  have hp := HS.out.1
  go_upto_region 12 with (first
    | (go_at_call 105; (with_reducible refine (HI.out _ hp).mono ?_); rintro e w5 ⟨vv, rfl, ht, hs⟩; obtain ⟨sv, rfl, hsv⟩ := ht; obtain ⟨ad, cp, rfl⟩ := slice_form hsv; unfold rowV; have hx5 : Below w5.heap.size w5 (w5.alloc (.cells #[.int .i64 a.1.op, .int .u64 (wd a.1.st 0 64 : Nat), .int .u64 (wd a.1.st 64 64 : Nat), .int .u64 (wd a.1.st 128 64 : Nat), .int .u64 (wd a.1.st 192 64 : Nat), .int .i64 a.1.lo, .int .i64 a.1.hi, .int .i64 a.1.g, .slice ad a.1.args.len cp] 35)) := (Below.refl _ _).alloc (Nat.le_refl _) _; have hwz := HWZ.out; have HSV := Lib.hid (hsv.far (Afar.frm (m := w.heap.size + 1) hx5 hwz)); have HR := Lib.hid ((HR.out.only hs.2 (by have := HL.out; omega)).below hx5); have HWZ := Lib.hid (Nat.le_trans (Nat.le_trans hwz hs.2.size) hx5.size); have HS := Lib.hid (HS.out.trans (hs.next hx5)); have HX := Lib.hid (RAt.one w5 #[.int .i64 a.1.op, .int .u64 (wd a.1.st 0 64 : Nat), .int .u64 (wd a.1.st 64 64 : Nat), .int .u64 (wd a.1.st 128 64 : Nat), .int .u64 (wd a.1.st 192 64 : Nat), .int .i64 a.1.lo, .int .i64 a.1.hi, .int .i64 a.1.g, .slice ad a.1.args.len cp]); have HXN := Lib.hid (Nat.le_trans hwz hs.2.size); clear hp hs hsv hwz hx5; have hp := HS.out.1)
    | (go_at_call 41; (with_reducible refine (HC.out _ hp).mono ?_); rintro e wz ⟨rfl, hs⟩; have HX := Lib.hid (HX.out.only hs.2 (by have := HXN.out; have := HL.out; omega)); have HSV := Lib.hid (HSV.out.far (Afar.only hs.2 (by have := HL.out; omega) (Nat.le_refl _))); have HR := Lib.hid (HR.out.only hs.2 (by have := HL.out; omega)); have HWZ := Lib.hid (Nat.le_trans HWZ.out hs.2.size); have HS := Lib.hid (HS.out.trans hs); clear hp hs; have hp := HS.out.1)
    | (go_at_call 90; refine (unexpected_any _ B c V _ hp).mono ?_; rintro e wz ⟨rfl, hs⟩; have HX := Lib.hid (HX.out.only hs.2 (by have := HXN.out; have := HL.out; omega)); have HSV := Lib.hid (HSV.out.far (Afar.only hs.2 (by have := HL.out; omega) (Nat.le_refl _))); have HR := Lib.hid (HR.out.only hs.2 (by have := HL.out; omega)); have HWZ := Lib.hid (Nat.le_trans HWZ.out hs.2.size); have HS := Lib.hid (HS.out.trans hs); clear hp hs; have hp := HS.out.1)
    )
  clear hp
  obtain ⟨⟨x0, x1, x2, x3, x4, x5, x6, x7⟩, xf⟩ := HS.out.1.pa.all
  have hro0 : (unexT c a.2).opn = a.2.opn := by
    unfold unexT failT; split <;> rfl
  have hro : ((unexT c a.2).opn : Int) = (p.opn : Int) + 1 := by
    rw [hro0]
    exact HOB.out
  have xcl : wz.cell? ⟨B, 21, none⟩ = some (.bool ((unexT c a.2).cl 9)) := HS.out.1.pa.closed 9 (by omega)
  rw [hro] at x5
  have HCl : Hid (Stp wz B c V (cloP (unexT c a.2) 9) ((wz.setCell ⟨B, 11, none⟩ (.int .i64 (p.opn : Int))).setCell ⟨B, 21, none⟩ (.bool true))) := by
    have := HS.out.1.shut 9 (by omega)
    rw [show (((unexT c a.2).opn - 1 : Nat) : Int) = (p.opn : Int) by omega] at this
    exact this
  clear hro hro0
  go_upto_region 14 with fail
  have HX := Lib.hid (HX.out.only HCl.out.2 (by have := HXN.out; have := HL.out; omega))
  have HSV := Lib.hid (HSV.out.far (Afar.only HCl.out.2 (by have := HL.out; omega) (Nat.le_refl _)))
  have HR := Lib.hid (HR.out.only HCl.out.2 (by have := HL.out; omega))
  have HWZ := Lib.hid (Nat.le_trans HWZ.out HCl.out.2.size)
  have HS := Lib.hid (HS.out.trans HCl.out)
  clear HCl
  generalize (World.setCell _ ⟨B, 21, none⟩ _) = w7 at HX HSV HR HWZ HS ⊢
  clear x0 x1 x2 x3 x4 x5 x6 x7 xf
  clear xcl
  have hx7 : Below w7.heap.size w7 (w7.alloc (.cells #[.int .i64 a.1.op, .int .u64 (wd a.1.st 0 64 : Nat), .int .u64 (wd a.1.st 64 64 : Nat), .int .u64 (wd a.1.st 128 64 : Nat), .int .u64 (wd a.1.st 192 64 : Nat), .int .i64 a.1.lo, .int .i64 a.1.hi, .int .i64 a.1.g, .slice ad a.1.args.len cp] 35)) := (Below.refl _ _).alloc (Nat.le_refl _) _
  have HX7 := Lib.hid hx7
  have hcl : RAt (w7.alloc (.cells #[.int .i64 a.1.op, .int .u64 (wd a.1.st 0 64 : Nat), .int .u64 (wd a.1.st 64 64 : Nat), .int .u64 (wd a.1.st 128 64 : Nat), .int .u64 (wd a.1.st 192 64 : Nat), .int .i64 a.1.lo, .int .i64 a.1.hi, .int .i64 a.1.g, .slice ad a.1.args.len cp] 35)) w.heap.size #[.int .i64 0, .int .u64 0, .int .u64 0, .int .u64 0, .int .u64 0, .int .i64 0, .int .i64 0, .int .i64 0, .slice none 0 0] := HR.out.below hx7
  have HR7 := Lib.hid hcl
  obtain ⟨⟨⟨n0, n1, n2⟩, ⟨n3, n4, n5⟩, ⟨n6, n7, n8⟩⟩, nf⟩ := hcl.all
  obtain ⟨⟨⟨m0, m1, m2⟩, ⟨m3, m4, m5⟩, ⟨m6, m7, m8⟩⟩, mf⟩ := HX.out.all
  clear hx7 hcl
  go_wp2
  refine bodyPost_ret (v := .agg #[.int .i64 6, .int .u64 0, .int .u64 0, .int .u64 0, .int .u64 0, .int .i64 0, .int .i64 0, .int .i64 9, .slice (some ⟨w7.heap.size, 0, none⟩) 1 1]) (ret_re Tryz.results83 _ _ w.heap.size _ rfl (by simp) (HR7.out.put9 _ _ _ _ _ _ _ _ _)) rfl ?_
  refine ⟨_, rfl, ⟨_, rfl, SV.one (t := a.1) (HSV.out.far ((Afar.frm HX7.out (Nat.le_refl _)).trans (Afar.put9 _ _ _ _ _ _ _ _ _ fun b hb => ?_))) ?_ ((RAt.one w7 #[.int .i64 a.1.op, .int .u64 (wd a.1.st 0 64 : Nat), .int .u64 (wd a.1.st 64 64 : Nat), .int .u64 (wd a.1.st 128 64 : Nat), .int .u64 (wd a.1.st 192 64 : Nat), .int .i64 a.1.lo, .int .i64 a.1.hi, .int .i64 a.1.g, .slice ad a.1.args.len cp]).same (put9_other _ _ _ _ _ _ _ _ _ _ _ _ ?_))⟩, (HS.out.next HX7.out).put9 HL.out _ (Nat.le_refl _) _ _ _ _ _ _ _ _ _⟩
  · have hb2 : w.heap.size + 1 ≤ b := hb
    exact ⟨by show w.heap.size ≤ b; omega, by omega⟩
  · have := HWZ.out
    show w.heap.size ≤ w7.heap.size
    omega
  · have := HWZ.out
    omega
end Go.Proofs.YtphiaagppcbefaaGreatDoor
