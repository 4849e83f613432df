/- Several texts in one (a claim has at most 60 files). -/
import Derived.Test.YtpfbpgbgedbalaaMK
import Derived.Test.YtpfbpgbgedbalaaMA
/- RetreeKeeps. (Written by gen_rtlk.py.) -/
set_option linter.unusedVariables false
set_option linter.unusedSimpArgs false
set_option maxRecDepth 100000
set_option maxHeartbeats 8000000
namespace Go.Proofs.Ytpfbpgbgedbalaa
open Go.RowKit

theorem plain_ti {w : World} {t : TN} {sv : Value} (h : TI w t sv) (hok : okN1 t) : Calls Try.prog 22 #[.agg #[.int .i64 t.op, .int .u64 (wd t.st 0 64 : Nat), .int .u64 (wd t.st 64 64 : Nat), .int .u64 (wd t.st 128 64 : Nat), .int .u64 (wd t.st 192 64 : Nat), .int .i64 t.lo, .int .i64 t.hi, .int .i64 t.g, sv]] w fun e w' => e = .returned (.bool (plN t.op t.lo t.hi t.args)) ∧ Below w.heap.size w w' := by
  obtain ⟨S, h1, _⟩ := h
  exact plain_any t.args t.op t.lo t.hi t.g t.st sv w S h1 ⟨hok.1.1, hok.2.1⟩
theorem same_ti {w : World} {x t : TN} {sx sv : Value} (hx : TI w x sx) (ht : TI w t sv) (he : eqF x.f t.f) (hok : okN1 t) : Calls Try.prog 21 #[.agg #[.int .i64 x.op, .int .u64 (wd x.st 0 64 : Nat), .int .u64 (wd x.st 64 64 : Nat), .int .u64 (wd x.st 128 64 : Nat), .int .u64 (wd x.st 192 64 : Nat), .int .i64 x.lo, .int .i64 x.hi, .int .i64 x.g, sx], .agg #[.int .i64 t.op, .int .u64 (wd t.st 0 64 : Nat), .int .u64 (wd t.st 64 64 : Nat), .int .u64 (wd t.st 128 64 : Nat), .int .u64 (wd t.st 192 64 : Nat), .int .i64 t.lo, .int .i64 t.hi, .int .i64 t.g, sv]] w fun e w' => e = .returned (.bool true) ∧ Below w.heap.size w w' := by
  obtain ⟨S, h1, _⟩ := ht
  obtain ⟨R, k1, _⟩ := hx
  obtain ⟨⟨e1, e2, e3, e4, e5⟩, e6, _⟩ := he
  obtain ⟨w0, w1, w2, w3⟩ := eqc_wd e2
  have hr : #[.int .i64 x.op, .int .u64 (wd x.st 0 64 : Nat), .int .u64 (wd x.st 64 64 : Nat), .int .u64 (wd x.st 128 64 : Nat), .int .u64 (wd x.st 192 64 : Nat), .int .i64 x.lo, .int .i64 x.hi, .int .i64 x.g, sx] = #[.int .i64 t.op, .int .u64 (wd t.st 0 64 : Nat), .int .u64 (wd t.st 64 64 : Nat), .int .u64 (wd t.st 128 64 : Nat), .int .u64 (wd t.st 192 64 : Nat), .int .i64 t.lo, .int .i64 t.hi, .int .i64 t.g, sx] := by rw [e1, w0, w1, w2, w3, e3, e4, e5]
  rw [hr]
  exact same_any t.args t.op t.lo t.hi t.g t.st sx sv w R S (k1.congr e6) h1 ⟨hok.1.1, hok.2.1⟩
theorem pl_expT {t : TN} (hok : okN1 t) : plN (expT t).op (expT t).lo (expT t).hi (expT t).args = true := by
  have h := pl_exp t.f hok
  have h : (plN (expT t).op (expT t).lo (expT t).hi (expT t).args && true) = true := h
  rw [Bool.and_true] at h
  exact h
theorem eq_expT {t : TN} (hv : Valid t) (hp : plN t.op t.lo t.hi t.args = true) : eqF (expT t).f t.f := by
  have hok := okE_valid hv
  obtain ⟨c, h1, _⟩ := hv
  exact eq_exp t.f [] c h1 hok (by show (plN t.op t.lo t.hi t.args && true) = true; rw [hp]; rfl)
/-- Two rows stand. -/
abbrev KW (W0 : World) (eb xb : Nat) (E X : TN) (sE sX : Value) (w : World) : Prop := w.heap[eb]? = some (.cells #[.int .i64 E.op, .int .u64 (wd E.st 0 64 : Nat), .int .u64 (wd E.st 64 64 : Nat), .int .u64 (wd E.st 128 64 : Nat), .int .u64 (wd E.st 192 64 : Nat), .int .i64 E.lo, .int .i64 E.hi, .int .i64 E.g, sE] 28 (0, 0)) ∧ w.heap[xb]? = some (.cells #[.int .i64 X.op, .int .u64 (wd X.st 0 64 : Nat), .int .u64 (wd X.st 64 64 : Nat), .int .u64 (wd X.st 128 64 : Nat), .int .u64 (wd X.st 192 64 : Nat), .int .i64 X.lo, .int .i64 X.hi, .int .i64 X.g, sX] 28 (0, 0)) ∧ Below W0.heap.size W0 w
theorem KW.keep {W0 w w' : World} {eb xb : Nat} {E X : TN} {sE sX : Value} (h : KW W0 eb xb E X sE sX w) (hb : Below w.heap.size w w') : KW W0 eb xb E X sE sX w' :=
  ⟨(hb.block eb (Array.getElem?_eq_some_iff.1 h.1).1).trans h.1, (hb.block xb (Array.getElem?_eq_some_iff.1 h.2.1).1).trans h.2.1, h.2.2.trans (hb.mono h.2.2.size)⟩
/-- Expand says no. -/
theorem keeps_no (t : TN) (sv : Value) (w : World) (h : TI w t sv) (k : Int) (hx : expdT t = (T0, k)) (hk0 : ¬ k = 0) (hk : k = 3 ∨ k = checkT t) :
    Calls Try.prog 5 #[.agg #[.int .i64 t.op, .int .u64 (wd t.st 0 64 : Nat), .int .u64 (wd t.st 64 64 : Nat), .int .u64 (wd t.st 128 64 : Nat), .int .u64 (wd t.st 192 64 : Nat), .int .i64 t.lo, .int .i64 t.hi, .int .i64 t.g, sv]] w fun e w' => e = .returned (.bool true) ∧ Below w.heap.size w w' := by
  obtain ⟨ad, cap, rfl⟩ := h.form
  have hb0 : Below w.heap.size w (w.alloc (.cells #[.int .i64 t.op, .int .u64 (wd t.st 0 64 : Nat), .int .u64 (wd t.st 64 64 : Nat), .int .u64 (wd t.st 128 64 : Nat), .int .u64 (wd t.st 192 64 : Nat), .int .i64 t.lo, .int .i64 t.hi, .int .i64 t.g, .slice ad t.args.len cap] 28)) := (Below.refl _ _).alloc (Nat.le_refl _) _
  have he0 := heap_alloc_new w (.cells #[.int .i64 t.op, .int .u64 (wd t.st 0 64 : Nat), .int .u64 (wd t.st 64 64 : Nat), .int .u64 (wd t.st 128 64 : Nat), .int .u64 (wd t.st 192 64 : Nat), .int .i64 t.lo, .int .i64 t.hi, .int .i64 t.g, .slice ad t.args.len cap] 28)
  have hT0 := h.below hb0
  have hl0 : w.heap.size < (w.alloc (.cells #[.int .i64 t.op, .int .u64 (wd t.st 0 64 : Nat), .int .u64 (wd t.st 64 64 : Nat), .int .u64 (wd t.st 128 64 : Nat), .int .u64 (wd t.st 192 64 : Nat), .int .i64 t.lo, .int .i64 t.hi, .int .i64 t.g, .slice ad t.args.len cap] 28)).heap.size := by simp
  have HX : Hid (∀ (w : World) (_ : TI w t (.slice ad t.args.len cap)), Calls Try.prog 19 #[.agg #[.int .i64 t.op, .int .u64 (wd t.st 0 64 : Nat), .int .u64 (wd t.st 64 64 : Nat), .int .u64 (wd t.st 128 64 : Nat), .int .u64 (wd t.st 192 64 : Nat), .int .i64 t.lo, .int .i64 t.hi, .int .i64 t.g, .slice ad t.args.len cap]] w fun e w' => ∃ ax cx, e = .returned (.tuple #[.agg #[.int .i64 0, .int .u64 0, .int .u64 0, .int .u64 0, .int .u64 0, .int .i64 0, .int .i64 0, .int .i64 0, .slice ax 0 cx], .int .i64 k]) ∧ TI w' T0 (.slice ax 0 cx) ∧ Below w.heap.size w w') := Lib.hid (fun W hW => by
    refine (expand_tj hW).mono ?_
    rintro e w' ⟨sv', rfl, hT, hb⟩
    rw [hx] at hT ⊢
    obtain ⟨ax, cx, rfl⟩ := hT.form
    refine ⟨ax, cx, ?_, hT, hb⟩
    simp only [T0, wd_noSet.1, wd_noSet.2.1, wd_noSet.2.2.1, wd_noSet.2.2.2]
    rfl)
  have HS : Hid (∀ (ax : Option Addr) (cx : Nat), ∀ (w : World) (_ : TI w T0 (.slice ax 0 cx)), Calls Try.prog 21 #[.agg #[.int .i64 0, .int .u64 0, .int .u64 0, .int .u64 0, .int .u64 0, .int .i64 0, .int .i64 0, .int .i64 0, .slice ax 0 cx], .agg #[.int .i64 0, .int .u64 0, .int .u64 0, .int .u64 0, .int .u64 0, .int .i64 0, .int .i64 0, .int .i64 0, .slice none 0 0]] w fun e w' => e = .returned (.bool true) ∧ Below w.heap.size w w') := Lib.hid (fun ax cx W hW => by
    have := same_ti hW (ti_leaf W 0 0 0 noSet) ⟨⟨rfl, eqc_self _, rfl, rfl, rfl⟩, trivial, trivial⟩ ⟨⟨Nat.zero_le _, fun k => absurd (show (0 : Int) = 5 from k) (by decide)⟩, trivial, trivial⟩
    simp only [T0, wd_noSet.1, wd_noSet.2.1, wd_noSet.2.2.1, wd_noSet.2.2.2] at this
    exact this)
  have HA := Lib.hid aw08
  have HB0 := Lib.hid hb0
  have HE0 := Lib.hid he0
  have HT0 := Lib.hid hT0
  have e0 : (k == 0) = false := by simpa using hk0
  obtain ⟨⟨⟨a0, a1, a2⟩, a3, a4, a5⟩, a6, a7, a8⟩ := nine he0
  by_cases k3 : k = 3
  · subst k3
    clear h hx hk hb0 he0 hT0 hk0
    go_enter Try.func5, Try.ntmps5
    go_upto_region 2 with (first
      | (go_at_call 19; (with_reducible refine (HX.out _ HT0.out).mono ?_); rintro e u1 ⟨ax, cx, rfl, hT, hb⟩
         have HB1 := Lib.hid (HB0.out.trans (hb.mono HB0.out.size))
         have HTx := Lib.hid hT
         clear a0 a1 a2 a3 a4 a5 a6 a7 a8 hb hT))
    have hbx : Below u1.heap.size u1 (u1.alloc (.cells #[.int .i64 0, .int .u64 0, .int .u64 0, .int .u64 0, .int .u64 0, .int .i64 0, .int .i64 0, .int .i64 0, .slice ax 0 cx] 28)) := (Below.refl _ _).alloc (Nat.le_refl _) _
    have hxx := nine (heap_alloc_new u1 (.cells #[.int .i64 0, .int .u64 0, .int .u64 0, .int .u64 0, .int .u64 0, .int .i64 0, .int .i64 0, .int .i64 0, .slice ax 0 cx] 28))
    have HB2 := Lib.hid (HB1.out.trans (hbx.mono HB1.out.size))
    have HTx2 := Lib.hid (HTx.out.below hbx)
    clear hbx HB1 HTx hl0
    generalize u1.alloc (.cells #[.int .i64 0, .int .u64 0, .int .u64 0, .int .u64 0, .int .u64 0, .int .i64 0, .int .i64 0, .int .i64 0, .slice ax 0 cx] 28) = U at *
    generalize u1.heap.size = xb at *
    obtain ⟨⟨⟨x0, x1, x2⟩, x3, x4, x5⟩, x6, x7, x8⟩ := hxx
    go_wp2_with (first
      | (go_at_call 21; (with_reducible refine (HS.out _ _ _ HTx2.out).mono ?_); rintro e u3 ⟨rfl, hb⟩
         have HB3 := Lib.hid (HB2.out.trans (hb.mono HB2.out.size))
         clear x0 x1 x2 x3 x4 x5 x6 x7 x8 hb)
      | (go_at_call 13; (with_reducible refine (HA.out _).mono ?_); rintro e u4 ⟨rfl, hb⟩
         have HB4 := Lib.hid (HB3.out.trans (hb.mono HB3.out.size))
         clear hb))
    go_ret
    exact ⟨rfl, HB4.out⟩
  · have hkc : k = checkT t := hk.resolve_left k3
    have e3 : (k == 3) = false := by simpa using k3
    have HC : Hid (∀ (w : World) (_ : TI w t (.slice ad t.args.len cap)), Calls Try.prog 20 #[.agg #[.int .i64 t.op, .int .u64 (wd t.st 0 64 : Nat), .int .u64 (wd t.st 64 64 : Nat), .int .u64 (wd t.st 128 64 : Nat), .int .u64 (wd t.st 192 64 : Nat), .int .i64 t.lo, .int .i64 t.hi, .int .i64 t.g, .slice ad t.args.len cap]] w fun e w' => e = .returned (.int .i64 k) ∧ Below w.heap.size w w') := Lib.hid (fun W hW => by rw [hkc]; exact check_ti hW)
    have HL0 := Lib.hid hl0
    clear h hx hk hb0 he0 hT0 hkc hl0
    go_enter Try.func5, Try.ntmps5
    go_upto_region 2 with (first
      | (go_at_call 19; (with_reducible refine (HX.out _ HT0.out).mono ?_); rintro e u1 ⟨ax, cx, rfl, hT, hb⟩
         have HB1 := Lib.hid (HB0.out.trans (hb.mono HB0.out.size))
         have HTx := Lib.hid hT
         have HE1 := Lib.hid ((hb.block w.heap.size HL0.out).trans HE0.out)
         have HT1 := Lib.hid (HT0.out.below hb)
         have hl1 : w.heap.size < u1.heap.size := by have := hb.size; have := HL0.out; omega
         clear a0 a1 a2 a3 a4 a5 a6 a7 a8 hb hT))
    have hbx : Below u1.heap.size u1 (u1.alloc (.cells #[.int .i64 0, .int .u64 0, .int .u64 0, .int .u64 0, .int .u64 0, .int .i64 0, .int .i64 0, .int .i64 0, .slice ax 0 cx] 28)) := (Below.refl _ _).alloc (Nat.le_refl _) _
    have HXx := Lib.hid (heap_alloc_new u1 (.cells #[.int .i64 0, .int .u64 0, .int .u64 0, .int .u64 0, .int .u64 0, .int .i64 0, .int .i64 0, .int .i64 0, .slice ax 0 cx] 28))
    have HE2 := Lib.hid ((hbx.block w.heap.size hl1).trans HE1.out)
    have HB2 := Lib.hid (HB1.out.trans (hbx.mono HB1.out.size))
    have HTx2 := Lib.hid (HTx.out.below hbx)
    have HT2 := Lib.hid (HT1.out.below hbx)
    have hlx : u1.heap.size < (u1.alloc (.cells #[.int .i64 0, .int .u64 0, .int .u64 0, .int .u64 0, .int .u64 0, .int .i64 0, .int .i64 0, .int .i64 0, .slice ax 0 cx] 28)).heap.size := by simp
    clear hbx HB1 HTx hl1 HE1 HT1
    generalize u1.alloc (.cells #[.int .i64 0, .int .u64 0, .int .u64 0, .int .u64 0, .int .u64 0, .int .i64 0, .int .i64 0, .int .i64 0, .slice ax 0 cx] 28) = U at *
    generalize u1.heap.size = xb at *
    obtain ⟨⟨⟨a0, a1, a2⟩, a3, a4, a5⟩, a6, a7, a8⟩ := nine HE2.out
    go_wp2_with (first
      | (go_at_call 20; (with_reducible refine (HC.out _ HT2.out).mono ?_); rintro e u2 ⟨rfl, hb⟩
         have HB3 := Lib.hid (HB2.out.trans (hb.mono HB2.out.size))
         have HTx3 := Lib.hid (HTx2.out.below hb)
         obtain ⟨⟨⟨x0, x1, x2⟩, x3, x4, x5⟩, x6, x7, x8⟩ := nine ((hb.block xb hlx).trans HXx.out)
         clear a0 a1 a2 a3 a4 a5 a6 a7 a8 hb)
      | (go_at_call 21; (with_reducible refine (HS.out _ _ _ HTx3.out).mono ?_); rintro e u3 ⟨rfl, hb⟩
         have HB4 := Lib.hid (HB3.out.trans (hb.mono HB3.out.size))
         clear x0 x1 x2 x3 x4 x5 x6 x7 x8 hb)
      | (go_at_call 13; (with_reducible refine (HA.out _).mono ?_); rintro e u4 ⟨rfl, hb⟩
         have HB5 := Lib.hid (HB4.out.trans (hb.mono HB4.out.size))
         clear hb))
    go_ret
    exact ⟨rfl, HB5.out⟩
/-- Expand says yes. -/
theorem keeps_yes (t : TN) (sv : Value) (w : World) (h : TI w t sv) (hx : expdT t = (expT t, 0)) (hc : checkT t = 0) :
    Calls Try.prog 5 #[.agg #[.int .i64 t.op, .int .u64 (wd t.st 0 64 : Nat), .int .u64 (wd t.st 64 64 : Nat), .int .u64 (wd t.st 128 64 : Nat), .int .u64 (wd t.st 192 64 : Nat), .int .i64 t.lo, .int .i64 t.hi, .int .i64 t.g, sv]] w fun e w' => e = .returned (.bool true) ∧ Below w.heap.size w w' := by
  obtain ⟨ad, cap, rfl⟩ := h.form
  have hv := (checkT_iff t).1 hc
  have hok := okE_valid hv
  have hok2 : okN1 (expT t) := okE_exp t.f hok
  have hb0 : Below w.heap.size w (w.alloc (.cells #[.int .i64 t.op, .int .u64 (wd t.st 0 64 : Nat), .int .u64 (wd t.st 64 64 : Nat), .int .u64 (wd t.st 128 64 : Nat), .int .u64 (wd t.st 192 64 : Nat), .int .i64 t.lo, .int .i64 t.hi, .int .i64 t.g, .slice ad t.args.len cap] 28)) := (Below.refl _ _).alloc (Nat.le_refl _) _
  have he0 := heap_alloc_new w (.cells #[.int .i64 t.op, .int .u64 (wd t.st 0 64 : Nat), .int .u64 (wd t.st 64 64 : Nat), .int .u64 (wd t.st 128 64 : Nat), .int .u64 (wd t.st 192 64 : Nat), .int .i64 t.lo, .int .i64 t.hi, .int .i64 t.g, .slice ad t.args.len cap] 28)
  have hT0 := h.below hb0
  have hl0 : w.heap.size < (w.alloc (.cells #[.int .i64 t.op, .int .u64 (wd t.st 0 64 : Nat), .int .u64 (wd t.st 64 64 : Nat), .int .u64 (wd t.st 128 64 : Nat), .int .u64 (wd t.st 192 64 : Nat), .int .i64 t.lo, .int .i64 t.hi, .int .i64 t.g, .slice ad t.args.len cap] 28)).heap.size := by simp
  have HX : Hid (∀ (w : World) (_ : TI w t (.slice ad t.args.len cap)), Calls Try.prog 19 #[.agg #[.int .i64 t.op, .int .u64 (wd t.st 0 64 : Nat), .int .u64 (wd t.st 64 64 : Nat), .int .u64 (wd t.st 128 64 : Nat), .int .u64 (wd t.st 192 64 : Nat), .int .i64 t.lo, .int .i64 t.hi, .int .i64 t.g, .slice ad t.args.len cap]] w fun e w' => ∃ ax cx, e = .returned (.tuple #[.agg #[.int .i64 (expT t).op, .int .u64 (wd (expT t).st 0 64 : Nat), .int .u64 (wd (expT t).st 64 64 : Nat), .int .u64 (wd (expT t).st 128 64 : Nat), .int .u64 (wd (expT t).st 192 64 : Nat), .int .i64 (expT t).lo, .int .i64 (expT t).hi, .int .i64 (expT t).g, .slice ax (expT t).args.len cx], .int .i64 0]) ∧ TI w' (expT t) (.slice ax (expT t).args.len cx) ∧ Below w.heap.size w w') := Lib.hid (fun W hW => by
    refine (expand_tj hW).mono ?_
    rintro e w' ⟨sv', rfl, hT, hb⟩
    rw [hx] at hT ⊢
    obtain ⟨ax, cx, rfl⟩ := hT.form
    exact ⟨ax, cx, rfl, hT, hb⟩)
  obtain ⟨B, hB⟩ : ∃ B, B = plN t.op t.lo t.hi t.args := ⟨_, rfl⟩
  have HPx : Hid (∀ (sx : Value) (w : World) (_ : TI w (expT t) sx), Calls Try.prog 22 #[.agg #[.int .i64 (expT t).op, .int .u64 (wd (expT t).st 0 64 : Nat), .int .u64 (wd (expT t).st 64 64 : Nat), .int .u64 (wd (expT t).st 128 64 : Nat), .int .u64 (wd (expT t).st 192 64 : Nat), .int .i64 (expT t).lo, .int .i64 (expT t).hi, .int .i64 (expT t).g, sx]] w fun e w' => e = .returned (.bool true) ∧ Below w.heap.size w w') := Lib.hid (fun sx W hW => by have := plain_ti hW hok2; rw [pl_expT hok] at this; exact this)
  have HPe : Hid (∀ (w : World) (_ : TI w t (.slice ad t.args.len cap)), Calls Try.prog 22 #[.agg #[.int .i64 t.op, .int .u64 (wd t.st 0 64 : Nat), .int .u64 (wd t.st 64 64 : Nat), .int .u64 (wd t.st 128 64 : Nat), .int .u64 (wd t.st 192 64 : Nat), .int .i64 t.lo, .int .i64 t.hi, .int .i64 t.g, .slice ad t.args.len cap]] w fun e w' => e = .returned (.bool B) ∧ Below w.heap.size w w') := Lib.hid (fun W hW => by have := plain_ti hW hok; rw [← hB] at this; exact this)
  have HSm : Hid (B = true → ∀ (sx : Value) (w : World) (_ : TI w (expT t) sx) (_ : TI w t (.slice ad t.args.len cap)), Calls Try.prog 21 #[.agg #[.int .i64 (expT t).op, .int .u64 (wd (expT t).st 0 64 : Nat), .int .u64 (wd (expT t).st 64 64 : Nat), .int .u64 (wd (expT t).st 128 64 : Nat), .int .u64 (wd (expT t).st 192 64 : Nat), .int .i64 (expT t).lo, .int .i64 (expT t).hi, .int .i64 (expT t).g, sx], .agg #[.int .i64 t.op, .int .u64 (wd t.st 0 64 : Nat), .int .u64 (wd t.st 64 64 : Nat), .int .u64 (wd t.st 128 64 : Nat), .int .u64 (wd t.st 192 64 : Nat), .int .i64 t.lo, .int .i64 t.hi, .int .i64 t.g, .slice ad t.args.len cap]] w fun e w' => e = .returned (.bool true) ∧ Below w.heap.size w w') := Lib.hid (fun hb sx W hW hE => same_ti hW hE (eq_expT hv (hB.symm.trans hb)) hok)
  have HCe : Hid (∀ (w : World) (_ : TI w t (.slice ad t.args.len cap)), Calls Try.prog 20 #[.agg #[.int .i64 t.op, .int .u64 (wd t.st 0 64 : Nat), .int .u64 (wd t.st 64 64 : Nat), .int .u64 (wd t.st 128 64 : Nat), .int .u64 (wd t.st 192 64 : Nat), .int .i64 t.lo, .int .i64 t.hi, .int .i64 t.g, .slice ad t.args.len cap]] w fun e w' => e = .returned (.int .i64 0) ∧ Below w.heap.size w w') := Lib.hid (fun W hW => by have := check_ti hW; rw [hc] at this; exact this)
  obtain ⟨kx, hkx⟩ : ∃ kx, kx = checkT (expT t) := ⟨_, rfl⟩
  have HCx : Hid (∀ (sx : Value) (w : World) (_ : TI w (expT t) sx), Calls Try.prog 20 #[.agg #[.int .i64 (expT t).op, .int .u64 (wd (expT t).st 0 64 : Nat), .int .u64 (wd (expT t).st 64 64 : Nat), .int .u64 (wd (expT t).st 128 64 : Nat), .int .u64 (wd (expT t).st 192 64 : Nat), .int .i64 (expT t).lo, .int .i64 (expT t).hi, .int .i64 (expT t).g, sx]] w fun e w' => e = .returned (.int .i64 kx) ∧ Below w.heap.size w w') := Lib.hid (fun sx W hW => by rw [hkx]; exact check_ti hW)
  obtain ⟨a, ha⟩ : ∃ a, a = (lenOf t).1 := ⟨_, rfl⟩
  obtain ⟨b, hb⟩ : ∃ b, b = (lenOf t).2 := ⟨_, rfl⟩
  obtain ⟨p, hp⟩ : ∃ p, p = (fstOf t).1 := ⟨_, rfl⟩
  obtain ⟨n, hn⟩ : ∃ n, n = (fstOf t).2 := ⟨_, rfl⟩
  have HLe : Hid (∀ (w : World) (_ : TI w t (.slice ad t.args.len cap)), Calls Try.prog 7 #[.agg #[.int .i64 t.op, .int .u64 (wd t.st 0 64 : Nat), .int .u64 (wd t.st 64 64 : Nat), .int .u64 (wd t.st 128 64 : Nat), .int .u64 (wd t.st 192 64 : Nat), .int .i64 t.lo, .int .i64 t.hi, .int .i64 t.g, .slice ad t.args.len cap]] w fun e w' => e = .returned (.tuple #[.int .i64 a, .int .i64 b]) ∧ Below w.heap.size w w') := Lib.hid (fun W hW => by rw [ha, hb]; exact length_ti hW)
  have HFe : Hid (∀ (w : World) (_ : TI w t (.slice ad t.args.len cap)), Calls Try.prog 9 #[.agg #[.int .i64 t.op, .int .u64 (wd t.st 0 64 : Nat), .int .u64 (wd t.st 64 64 : Nat), .int .u64 (wd t.st 128 64 : Nat), .int .u64 (wd t.st 192 64 : Nat), .int .i64 t.lo, .int .i64 t.hi, .int .i64 t.g, .slice ad t.args.len cap]] w fun e w' => e = .returned (.tuple #[.agg #[.int .u64 (wd p 0 64 : Nat), .int .u64 (wd p 64 64 : Nat), .int .u64 (wd p 128 64 : Nat), .int .u64 (wd p 192 64 : Nat)], .bool n]) ∧ Below w.heap.size w w') := Lib.hid (fun W hW => by rw [hp, hn]; exact first_ti hW)
  have hlx : kx = 0 → lenOf (expT t) = lenOf t := fun h0 => by
    have hv2 := (checkT_iff _).1 (hkx.symm.trans h0)
    unfold lenOf
    rw [if_pos hc, if_pos (hkx.symm.trans h0), len_exp hv hv2]
  have hfx : kx = 0 → fstOf (expT t) = fstOf t := fun h0 => by
    have hv2 := (checkT_iff _).1 (hkx.symm.trans h0)
    unfold fstOf
    rw [if_pos hc, if_pos (hkx.symm.trans h0), beg_exp hv hv2]
  have hnx : kx = 0 → nulOf (expT t) = n := fun h0 => by
    have hv2 := (checkT_iff _).1 (hkx.symm.trans h0)
    rw [hn, ← hfx h0]
    unfold nulOf fstOf
    rw [if_pos (hkx.symm.trans h0), decide_eq_true (hkx.symm.trans h0), null_of_beg]
    rfl
  have HLx : Hid (kx = 0 → ∀ (sx : Value) (w : World) (_ : TI w (expT t) sx), Calls Try.prog 7 #[.agg #[.int .i64 (expT t).op, .int .u64 (wd (expT t).st 0 64 : Nat), .int .u64 (wd (expT t).st 64 64 : Nat), .int .u64 (wd (expT t).st 128 64 : Nat), .int .u64 (wd (expT t).st 192 64 : Nat), .int .i64 (expT t).lo, .int .i64 (expT t).hi, .int .i64 (expT t).g, sx]] w fun e w' => e = .returned (.tuple #[.int .i64 a, .int .i64 b]) ∧ Below w.heap.size w w') := Lib.hid (fun h0 sx W hW => by have := length_ti hW; rw [hlx h0, ← ha, ← hb] at this; exact this)
  have HFx : Hid (kx = 0 → ∀ (sx : Value) (w : World) (_ : TI w (expT t) sx), Calls Try.prog 9 #[.agg #[.int .i64 (expT t).op, .int .u64 (wd (expT t).st 0 64 : Nat), .int .u64 (wd (expT t).st 64 64 : Nat), .int .u64 (wd (expT t).st 128 64 : Nat), .int .u64 (wd (expT t).st 192 64 : Nat), .int .i64 (expT t).lo, .int .i64 (expT t).hi, .int .i64 (expT t).g, sx]] w fun e w' => e = .returned (.tuple #[.agg #[.int .u64 (wd p 0 64 : Nat), .int .u64 (wd p 64 64 : Nat), .int .u64 (wd p 128 64 : Nat), .int .u64 (wd p 192 64 : Nat)], .bool n]) ∧ Below w.heap.size w w') := Lib.hid (fun h0 sx W hW => by have := first_ti hW; rw [hfx h0, ← hp, ← hn] at this; exact this)
  have HNx : Hid (kx = 0 → ∀ (sx : Value) (w : World) (_ : TI w (expT t) sx), Calls Try.prog 11 #[.agg #[.int .i64 (expT t).op, .int .u64 (wd (expT t).st 0 64 : Nat), .int .u64 (wd (expT t).st 64 64 : Nat), .int .u64 (wd (expT t).st 128 64 : Nat), .int .u64 (wd (expT t).st 192 64 : Nat), .int .i64 (expT t).lo, .int .i64 (expT t).hi, .int .i64 (expT t).g, sx]] w fun e w' => e = .returned (.bool n) ∧ Below w.heap.size w w') := Lib.hid (fun h0 sx W hW => by have := nullable_ti hW; rw [hnx h0] at this; exact this)
  have hcmp : ∀ w, (binOp .eql 25 (.agg #[.int .u64 (wd p 0 64 : Nat), .int .u64 (wd p 64 64 : Nat), .int .u64 (wd p 128 64 : Nat), .int .u64 (wd p 192 64 : Nat)]) (.agg #[.int .u64 (wd p 0 64 : Nat), .int .u64 (wd p 64 64 : Nat), .int .u64 (wd p 128 64 : Nat), .int .u64 (wd p 192 64 : Nat)])).run Try.prog w = .ok (.bool true) w := fun w => by
    have := eql_cs p p w
    rw [eqc_self] at this
    exact this
  have HA := Lib.hid aw08
  have HB0 := Lib.hid hb0
  have HE0 := Lib.hid he0
  have HT0 := Lib.hid hT0
  have HL0 := Lib.hid hl0
  obtain ⟨⟨⟨a0, a1, a2⟩, a3, a4, a5⟩, a6, a7, a8⟩ := nine he0
  clear h hx hb0 he0 hT0 hl0 hlx hfx hnx ha hb hp hn hB hv hok hok2 hc hkx
  generalize expT t = X at *
  go_enter Try.func5, Try.ntmps5
  go_upto_region 2 with (first
    | (go_at_call 19; (with_reducible refine (HX.out _ HT0.out).mono ?_); rintro e u1 ⟨ax, cx, rfl, hT, hb⟩
       have HB1 := Lib.hid (HB0.out.trans (hb.mono HB0.out.size))
       have HTx := Lib.hid hT
       have HE1 := Lib.hid ((hb.block w.heap.size HL0.out).trans HE0.out)
       have HT1 := Lib.hid (HT0.out.below hb)
       have hl1 : w.heap.size < u1.heap.size := by have := hb.size; have := HL0.out; omega
       clear a0 a1 a2 a3 a4 a5 a6 a7 a8 hb hT))
  have hbx : Below u1.heap.size u1 (u1.alloc (.cells #[.int .i64 X.op, .int .u64 (wd X.st 0 64 : Nat), .int .u64 (wd X.st 64 64 : Nat), .int .u64 (wd X.st 128 64 : Nat), .int .u64 (wd X.st 192 64 : Nat), .int .i64 X.lo, .int .i64 X.hi, .int .i64 X.g, .slice ax X.args.len cx] 28)) := (Below.refl _ _).alloc (Nat.le_refl _) _
  have HXx := Lib.hid (heap_alloc_new u1 (.cells #[.int .i64 X.op, .int .u64 (wd X.st 0 64 : Nat), .int .u64 (wd X.st 64 64 : Nat), .int .u64 (wd X.st 128 64 : Nat), .int .u64 (wd X.st 192 64 : Nat), .int .i64 X.lo, .int .i64 X.hi, .int .i64 X.g, .slice ax X.args.len cx] 28))
  have HE2 := Lib.hid ((hbx.block w.heap.size hl1).trans HE1.out)
  have HB2 := Lib.hid (HB1.out.trans (hbx.mono HB1.out.size))
  have TIx := Lib.hid (HTx.out.below hbx)
  have TIe := Lib.hid (HT1.out.below hbx)
  clear hbx HB1 HTx hl1 HE1 HT1 HB0 HE0 HT0 HL0
  generalize u1.alloc (.cells #[.int .i64 X.op, .int .u64 (wd X.st 0 64 : Nat), .int .u64 (wd X.st 64 64 : Nat), .int .u64 (wd X.st 128 64 : Nat), .int .u64 (wd X.st 192 64 : Nat), .int .i64 X.lo, .int .i64 X.hi, .int .i64 X.g, .slice ax X.args.len cx] 28) = v0 at *
  generalize u1.heap.size = xb at *
  have K0 : Hid (KW v0 w.heap.size xb t X (.slice ad t.args.len cap) (.slice ax X.args.len cx) v0) := Lib.hid ⟨HE2.out, HXx.out, Below.refl _ _⟩
  clear HE2 HXx
  have hk := K0.out; obtain ⟨⟨⟨a0, a1, a2⟩, a3, a4, a5⟩, a6, a7, a8⟩ := nine hk.1; obtain ⟨⟨⟨x0, x1, x2⟩, x3, x4, x5⟩, x6, x7, x8⟩ := nine hk.2.1; clear hk
  by_cases hk : kx = 0
  · subst hk
    replace HLx := Lib.hid (HLx.out rfl)
    replace HFx := Lib.hid (HFx.out rfl)
    replace HNx := Lib.hid (HNx.out rfl)
    cases B
    · clear HSm
      go_upto_region 11 with (first
        | (go_at_call 22; (with_reducible refine (HPx.out _ _ (TIx.out.below K0.out.2.2)).mono ?_); rintro e v1 ⟨rfl, hb⟩
           have K1 := Lib.hid (K0.out.keep hb)
           clear a0 a1 a2 a3 a4 a5 a6 a7 a8 x0 x1 x2 x3 x4 x5 x6 x7 x8 hb
           have hk := K1.out; obtain ⟨⟨⟨a0, a1, a2⟩, a3, a4, a5⟩, a6, a7, a8⟩ := nine hk.1; obtain ⟨⟨⟨x0, x1, x2⟩, x3, x4, x5⟩, x6, x7, x8⟩ := nine hk.2.1; clear hk)
        | (go_at_call 22; (with_reducible refine (HPe.out _ (TIe.out.below K1.out.2.2)).mono ?_); rintro e v2 ⟨rfl, hb⟩
           have K2 := Lib.hid (K1.out.keep hb)
           clear a0 a1 a2 a3 a4 a5 a6 a7 a8 x0 x1 x2 x3 x4 x5 x6 x7 x8 hb
           have hk := K2.out; obtain ⟨⟨⟨a0, a1, a2⟩, a3, a4, a5⟩, a6, a7, a8⟩ := nine hk.1; obtain ⟨⟨⟨x0, x1, x2⟩, x3, x4, x5⟩, x6, x7, x8⟩ := nine hk.2.1; clear hk)
        | (go_at_call 20; (with_reducible refine (HCe.out _ (TIe.out.below K2.out.2.2)).mono ?_); rintro e v3 ⟨rfl, hb⟩
           have K3 := Lib.hid (K2.out.keep hb)
           clear a0 a1 a2 a3 a4 a5 a6 a7 a8 x0 x1 x2 x3 x4 x5 x6 x7 x8 hb
           have hk := K3.out; obtain ⟨⟨⟨a0, a1, a2⟩, a3, a4, a5⟩, a6, a7, a8⟩ := nine hk.1; obtain ⟨⟨⟨x0, x1, x2⟩, x3, x4, x5⟩, x6, x7, x8⟩ := nine hk.2.1; clear hk)
        | (go_at_call 20; (with_reducible refine (HCx.out _ _ (TIx.out.below K3.out.2.2)).mono ?_); rintro e v4 ⟨rfl, hb⟩
           have K4 := Lib.hid (K3.out.keep hb)
           clear a0 a1 a2 a3 a4 a5 a6 a7 a8 x0 x1 x2 x3 x4 x5 x6 x7 x8 hb
           have hk := K4.out; obtain ⟨⟨⟨a0, a1, a2⟩, a3, a4, a5⟩, a6, a7, a8⟩ := nine hk.1; obtain ⟨⟨⟨x0, x1, x2⟩, x3, x4, x5⟩, x6, x7, x8⟩ := nine hk.2.1; clear hk)
        | (go_at_call 7; (with_reducible refine (HLe.out _ (TIe.out.below K4.out.2.2)).mono ?_); rintro e v5 ⟨rfl, hb⟩
           have K5 := Lib.hid (K4.out.keep hb)
           clear a0 a1 a2 a3 a4 a5 a6 a7 a8 x0 x1 x2 x3 x4 x5 x6 x7 x8 hb
           have hk := K5.out; obtain ⟨⟨⟨a0, a1, a2⟩, a3, a4, a5⟩, a6, a7, a8⟩ := nine hk.1; obtain ⟨⟨⟨x0, x1, x2⟩, x3, x4, x5⟩, x6, x7, x8⟩ := nine hk.2.1; clear hk)
        | (go_at_call 7; (with_reducible refine (HLx.out _ _ (TIx.out.below K5.out.2.2)).mono ?_); rintro e v6 ⟨rfl, hb⟩
           have K6 := Lib.hid (K5.out.keep hb)
           clear a0 a1 a2 a3 a4 a5 a6 a7 a8 x0 x1 x2 x3 x4 x5 x6 x7 x8 hb
           have hk := K6.out; obtain ⟨⟨⟨a0, a1, a2⟩, a3, a4, a5⟩, a6, a7, a8⟩ := nine hk.1; obtain ⟨⟨⟨x0, x1, x2⟩, x3, x4, x5⟩, x6, x7, x8⟩ := nine hk.2.1; clear hk)
        | (go_at_call 9; (with_reducible refine (HFe.out _ (TIe.out.below K6.out.2.2)).mono ?_); rintro e v7 ⟨rfl, hb⟩
           have K7 := Lib.hid (K6.out.keep hb)
           clear a0 a1 a2 a3 a4 a5 a6 a7 a8 x0 x1 x2 x3 x4 x5 x6 x7 x8 hb
           have hk := K7.out; obtain ⟨⟨⟨a0, a1, a2⟩, a3, a4, a5⟩, a6, a7, a8⟩ := nine hk.1; obtain ⟨⟨⟨x0, x1, x2⟩, x3, x4, x5⟩, x6, x7, x8⟩ := nine hk.2.1; clear hk))
      have hbs : Below v7.heap.size v7 (v7.alloc (.cells #[.int .u64 (wd p 0 64 : Nat), .int .u64 (wd p 64 64 : Nat), .int .u64 (wd p 128 64 : Nat), .int .u64 (wd p 192 64 : Nat)] 25)) := (Below.refl _ _).alloc (Nat.le_refl _) _
      have HSsb := Lib.hid (heap_alloc_new v7 (.cells #[.int .u64 (wd p 0 64 : Nat), .int .u64 (wd p 64 64 : Nat), .int .u64 (wd p 128 64 : Nat), .int .u64 (wd p 192 64 : Nat)] 25))
      have K8 := Lib.hid (K7.out.keep hbs)
      clear hbs a0 a1 a2 a3 a4 a5 a6 a7 a8 x0 x1 x2 x3 x4 x5 x6 x7 x8
      generalize v7.alloc (.cells #[.int .u64 (wd p 0 64 : Nat), .int .u64 (wd p 64 64 : Nat), .int .u64 (wd p 128 64 : Nat), .int .u64 (wd p 192 64 : Nat)] 25) = v8 at *
      generalize v7.heap.size = sb at *
      have hk := K8.out; obtain ⟨⟨⟨a0, a1, a2⟩, a3, a4, a5⟩, a6, a7, a8⟩ := nine hk.1; obtain ⟨⟨⟨x0, x1, x2⟩, x3, x4, x5⟩, x6, x7, x8⟩ := nine hk.2.1; clear hk
      go_upto_region 12 with (first
        | (go_at_call 9; (with_reducible refine (HFx.out _ _ (TIx.out.below K8.out.2.2)).mono ?_); rintro e v9 ⟨rfl, hb⟩
           have K9 := Lib.hid (K8.out.keep hb)
           have HSsb1 := Lib.hid ((hb.block sb (Array.getElem?_eq_some_iff.1 HSsb.out).1).trans HSsb.out)
           clear a0 a1 a2 a3 a4 a5 a6 a7 a8 x0 x1 x2 x3 x4 x5 x6 x7 x8 hb
           have hk := K9.out; obtain ⟨⟨⟨a0, a1, a2⟩, a3, a4, a5⟩, a6, a7, a8⟩ := nine hk.1; obtain ⟨⟨⟨x0, x1, x2⟩, x3, x4, x5⟩, x6, x7, x8⟩ := nine hk.2.1; clear hk))
      clear HSsb
      have HSsb := HSsb1
      clear HSsb1
      have hbs : Below v9.heap.size v9 (v9.alloc (.cells #[.int .u64 (wd p 0 64 : Nat), .int .u64 (wd p 64 64 : Nat), .int .u64 (wd p 128 64 : Nat), .int .u64 (wd p 192 64 : Nat)] 25)) := (Below.refl _ _).alloc (Nat.le_refl _) _
      have HStb := Lib.hid (heap_alloc_new v9 (.cells #[.int .u64 (wd p 0 64 : Nat), .int .u64 (wd p 64 64 : Nat), .int .u64 (wd p 128 64 : Nat), .int .u64 (wd p 192 64 : Nat)] 25))
      have K10 := Lib.hid (K9.out.keep hbs)
      have HSsbb := Lib.hid ((hbs.block sb (Array.getElem?_eq_some_iff.1 HSsb.out).1).trans HSsb.out)
      clear hbs a0 a1 a2 a3 a4 a5 a6 a7 a8 x0 x1 x2 x3 x4 x5 x6 x7 x8
      generalize v9.alloc (.cells #[.int .u64 (wd p 0 64 : Nat), .int .u64 (wd p 64 64 : Nat), .int .u64 (wd p 128 64 : Nat), .int .u64 (wd p 192 64 : Nat)] 25) = v10 at *
      generalize v9.heap.size = tb at *
      have hk := K10.out; obtain ⟨⟨⟨a0, a1, a2⟩, a3, a4, a5⟩, a6, a7, a8⟩ := nine hk.1; obtain ⟨⟨⟨x0, x1, x2⟩, x3, x4, x5⟩, x6, x7, x8⟩ := nine hk.2.1; clear hk
      have s0 := cell_of_row v10 sb 0 _ _ _ HSsbb.out
      have s1 := cell_of_row v10 sb 1 _ _ _ HSsbb.out
      have s2 := cell_of_row v10 sb 2 _ _ _ HSsbb.out
      have s3 := cell_of_row v10 sb 3 _ _ _ HSsbb.out
      have t0 := cell_of_row v10 tb 0 _ _ _ HStb.out
      have t1 := cell_of_row v10 tb 1 _ _ _ HStb.out
      have t2 := cell_of_row v10 tb 2 _ _ _ HStb.out
      have t3 := cell_of_row v10 tb 3 _ _ _ HStb.out
      replace s0 : v10.cell? ⟨sb, 0, none⟩ = some (.int .u64 (wd p 0 64 : Nat)) := s0
      replace s1 : v10.cell? ⟨sb, 1, none⟩ = some (.int .u64 (wd p 64 64 : Nat)) := s1
      replace s2 : v10.cell? ⟨sb, 2, none⟩ = some (.int .u64 (wd p 128 64 : Nat)) := s2
      replace s3 : v10.cell? ⟨sb, 3, none⟩ = some (.int .u64 (wd p 192 64 : Nat)) := s3
      replace t0 : v10.cell? ⟨tb, 0, none⟩ = some (.int .u64 (wd p 0 64 : Nat)) := t0
      replace t1 : v10.cell? ⟨tb, 1, none⟩ = some (.int .u64 (wd p 64 64 : Nat)) := t1
      replace t2 : v10.cell? ⟨tb, 2, none⟩ = some (.int .u64 (wd p 128 64 : Nat)) := t2
      replace t3 : v10.cell? ⟨tb, 3, none⟩ = some (.int .u64 (wd p 192 64 : Nat)) := t3
      go_wp2_with (first
        | (go_at_call 11; (with_reducible refine (HNx.out _ _ (TIx.out.below K10.out.2.2)).mono ?_); rintro e v11 ⟨rfl, hb⟩
           have K11 := Lib.hid (K10.out.keep hb)
           clear a0 a1 a2 a3 a4 a5 a6 a7 a8 x0 x1 x2 x3 x4 x5 x6 x7 x8 hb s0 s1 s2 s3 t0 t1 t2 t3)
        | (go_at_call 13; (with_reducible refine (HA.out _).mono ?_); rintro e v12 ⟨rfl, hb⟩
           have K12 := Lib.hid (K11.out.keep hb)
           clear hb))
      go_ret
      exact ⟨rfl, HB2.out.trans (K12.out.2.2.mono HB2.out.size)⟩
    · replace HSm := Lib.hid (HSm.out rfl)
      go_upto_region 11 with (first
        | (go_at_call 22; (with_reducible refine (HPx.out _ _ (TIx.out.below K0.out.2.2)).mono ?_); rintro e v1 ⟨rfl, hb⟩
           have K1 := Lib.hid (K0.out.keep hb)
           clear a0 a1 a2 a3 a4 a5 a6 a7 a8 x0 x1 x2 x3 x4 x5 x6 x7 x8 hb
           have hk := K1.out; obtain ⟨⟨⟨a0, a1, a2⟩, a3, a4, a5⟩, a6, a7, a8⟩ := nine hk.1; obtain ⟨⟨⟨x0, x1, x2⟩, x3, x4, x5⟩, x6, x7, x8⟩ := nine hk.2.1; clear hk)
        | (go_at_call 22; (with_reducible refine (HPe.out _ (TIe.out.below K1.out.2.2)).mono ?_); rintro e v2 ⟨rfl, hb⟩
           have K2 := Lib.hid (K1.out.keep hb)
           clear a0 a1 a2 a3 a4 a5 a6 a7 a8 x0 x1 x2 x3 x4 x5 x6 x7 x8 hb
           have hk := K2.out; obtain ⟨⟨⟨a0, a1, a2⟩, a3, a4, a5⟩, a6, a7, a8⟩ := nine hk.1; obtain ⟨⟨⟨x0, x1, x2⟩, x3, x4, x5⟩, x6, x7, x8⟩ := nine hk.2.1; clear hk)
        | (go_at_call 21; (with_reducible refine (HSm.out _ _ (TIx.out.below K2.out.2.2) (TIe.out.below K2.out.2.2)).mono ?_); rintro e v3 ⟨rfl, hb⟩
           have K3 := Lib.hid (K2.out.keep hb)
           clear a0 a1 a2 a3 a4 a5 a6 a7 a8 x0 x1 x2 x3 x4 x5 x6 x7 x8 hb
           have hk := K3.out; obtain ⟨⟨⟨a0, a1, a2⟩, a3, a4, a5⟩, a6, a7, a8⟩ := nine hk.1; obtain ⟨⟨⟨x0, x1, x2⟩, x3, x4, x5⟩, x6, x7, x8⟩ := nine hk.2.1; clear hk)
        | (go_at_call 20; (with_reducible refine (HCe.out _ (TIe.out.below K3.out.2.2)).mono ?_); rintro e v4 ⟨rfl, hb⟩
           have K4 := Lib.hid (K3.out.keep hb)
           clear a0 a1 a2 a3 a4 a5 a6 a7 a8 x0 x1 x2 x3 x4 x5 x6 x7 x8 hb
           have hk := K4.out; obtain ⟨⟨⟨a0, a1, a2⟩, a3, a4, a5⟩, a6, a7, a8⟩ := nine hk.1; obtain ⟨⟨⟨x0, x1, x2⟩, x3, x4, x5⟩, x6, x7, x8⟩ := nine hk.2.1; clear hk)
        | (go_at_call 20; (with_reducible refine (HCx.out _ _ (TIx.out.below K4.out.2.2)).mono ?_); rintro e v5 ⟨rfl, hb⟩
           have K5 := Lib.hid (K4.out.keep hb)
           clear a0 a1 a2 a3 a4 a5 a6 a7 a8 x0 x1 x2 x3 x4 x5 x6 x7 x8 hb
           have hk := K5.out; obtain ⟨⟨⟨a0, a1, a2⟩, a3, a4, a5⟩, a6, a7, a8⟩ := nine hk.1; obtain ⟨⟨⟨x0, x1, x2⟩, x3, x4, x5⟩, x6, x7, x8⟩ := nine hk.2.1; clear hk)
        | (go_at_call 7; (with_reducible refine (HLe.out _ (TIe.out.below K5.out.2.2)).mono ?_); rintro e v6 ⟨rfl, hb⟩
           have K6 := Lib.hid (K5.out.keep hb)
           clear a0 a1 a2 a3 a4 a5 a6 a7 a8 x0 x1 x2 x3 x4 x5 x6 x7 x8 hb
           have hk := K6.out; obtain ⟨⟨⟨a0, a1, a2⟩, a3, a4, a5⟩, a6, a7, a8⟩ := nine hk.1; obtain ⟨⟨⟨x0, x1, x2⟩, x3, x4, x5⟩, x6, x7, x8⟩ := nine hk.2.1; clear hk)
        | (go_at_call 7; (with_reducible refine (HLx.out _ _ (TIx.out.below K6.out.2.2)).mono ?_); rintro e v7 ⟨rfl, hb⟩
           have K7 := Lib.hid (K6.out.keep hb)
           clear a0 a1 a2 a3 a4 a5 a6 a7 a8 x0 x1 x2 x3 x4 x5 x6 x7 x8 hb
           have hk := K7.out; obtain ⟨⟨⟨a0, a1, a2⟩, a3, a4, a5⟩, a6, a7, a8⟩ := nine hk.1; obtain ⟨⟨⟨x0, x1, x2⟩, x3, x4, x5⟩, x6, x7, x8⟩ := nine hk.2.1; clear hk)
        | (go_at_call 9; (with_reducible refine (HFe.out _ (TIe.out.below K7.out.2.2)).mono ?_); rintro e v8 ⟨rfl, hb⟩
           have K8 := Lib.hid (K7.out.keep hb)
           clear a0 a1 a2 a3 a4 a5 a6 a7 a8 x0 x1 x2 x3 x4 x5 x6 x7 x8 hb
           have hk := K8.out; obtain ⟨⟨⟨a0, a1, a2⟩, a3, a4, a5⟩, a6, a7, a8⟩ := nine hk.1; obtain ⟨⟨⟨x0, x1, x2⟩, x3, x4, x5⟩, x6, x7, x8⟩ := nine hk.2.1; clear hk))
      have hbs : Below v8.heap.size v8 (v8.alloc (.cells #[.int .u64 (wd p 0 64 : Nat), .int .u64 (wd p 64 64 : Nat), .int .u64 (wd p 128 64 : Nat), .int .u64 (wd p 192 64 : Nat)] 25)) := (Below.refl _ _).alloc (Nat.le_refl _) _
      have HSsb := Lib.hid (heap_alloc_new v8 (.cells #[.int .u64 (wd p 0 64 : Nat), .int .u64 (wd p 64 64 : Nat), .int .u64 (wd p 128 64 : Nat), .int .u64 (wd p 192 64 : Nat)] 25))
      have K9 := Lib.hid (K8.out.keep hbs)
      clear hbs a0 a1 a2 a3 a4 a5 a6 a7 a8 x0 x1 x2 x3 x4 x5 x6 x7 x8
      generalize v8.alloc (.cells #[.int .u64 (wd p 0 64 : Nat), .int .u64 (wd p 64 64 : Nat), .int .u64 (wd p 128 64 : Nat), .int .u64 (wd p 192 64 : Nat)] 25) = v9 at *
      generalize v8.heap.size = sb at *
      have hk := K9.out; obtain ⟨⟨⟨a0, a1, a2⟩, a3, a4, a5⟩, a6, a7, a8⟩ := nine hk.1; obtain ⟨⟨⟨x0, x1, x2⟩, x3, x4, x5⟩, x6, x7, x8⟩ := nine hk.2.1; clear hk
      go_upto_region 12 with (first
        | (go_at_call 9; (with_reducible refine (HFx.out _ _ (TIx.out.below K9.out.2.2)).mono ?_); rintro e v10 ⟨rfl, hb⟩
           have K10 := Lib.hid (K9.out.keep hb)
           have HSsb1 := Lib.hid ((hb.block sb (Array.getElem?_eq_some_iff.1 HSsb.out).1).trans HSsb.out)
           clear a0 a1 a2 a3 a4 a5 a6 a7 a8 x0 x1 x2 x3 x4 x5 x6 x7 x8 hb
           have hk := K10.out; obtain ⟨⟨⟨a0, a1, a2⟩, a3, a4, a5⟩, a6, a7, a8⟩ := nine hk.1; obtain ⟨⟨⟨x0, x1, x2⟩, x3, x4, x5⟩, x6, x7, x8⟩ := nine hk.2.1; clear hk))
      clear HSsb
      have HSsb := HSsb1
      clear HSsb1
      have hbs : Below v10.heap.size v10 (v10.alloc (.cells #[.int .u64 (wd p 0 64 : Nat), .int .u64 (wd p 64 64 : Nat), .int .u64 (wd p 128 64 : Nat), .int .u64 (wd p 192 64 : Nat)] 25)) := (Below.refl _ _).alloc (Nat.le_refl _) _
      have HStb := Lib.hid (heap_alloc_new v10 (.cells #[.int .u64 (wd p 0 64 : Nat), .int .u64 (wd p 64 64 : Nat), .int .u64 (wd p 128 64 : Nat), .int .u64 (wd p 192 64 : Nat)] 25))
      have K11 := Lib.hid (K10.out.keep hbs)
      have HSsbb := Lib.hid ((hbs.block sb (Array.getElem?_eq_some_iff.1 HSsb.out).1).trans HSsb.out)
      clear hbs a0 a1 a2 a3 a4 a5 a6 a7 a8 x0 x1 x2 x3 x4 x5 x6 x7 x8
      generalize v10.alloc (.cells #[.int .u64 (wd p 0 64 : Nat), .int .u64 (wd p 64 64 : Nat), .int .u64 (wd p 128 64 : Nat), .int .u64 (wd p 192 64 : Nat)] 25) = v11 at *
      generalize v10.heap.size = tb at *
      have hk := K11.out; obtain ⟨⟨⟨a0, a1, a2⟩, a3, a4, a5⟩, a6, a7, a8⟩ := nine hk.1; obtain ⟨⟨⟨x0, x1, x2⟩, x3, x4, x5⟩, x6, x7, x8⟩ := nine hk.2.1; clear hk
      have s0 := cell_of_row v11 sb 0 _ _ _ HSsbb.out
      have s1 := cell_of_row v11 sb 1 _ _ _ HSsbb.out
      have s2 := cell_of_row v11 sb 2 _ _ _ HSsbb.out
      have s3 := cell_of_row v11 sb 3 _ _ _ HSsbb.out
      have t0 := cell_of_row v11 tb 0 _ _ _ HStb.out
      have t1 := cell_of_row v11 tb 1 _ _ _ HStb.out
      have t2 := cell_of_row v11 tb 2 _ _ _ HStb.out
      have t3 := cell_of_row v11 tb 3 _ _ _ HStb.out
      replace s0 : v11.cell? ⟨sb, 0, none⟩ = some (.int .u64 (wd p 0 64 : Nat)) := s0
      replace s1 : v11.cell? ⟨sb, 1, none⟩ = some (.int .u64 (wd p 64 64 : Nat)) := s1
      replace s2 : v11.cell? ⟨sb, 2, none⟩ = some (.int .u64 (wd p 128 64 : Nat)) := s2
      replace s3 : v11.cell? ⟨sb, 3, none⟩ = some (.int .u64 (wd p 192 64 : Nat)) := s3
      replace t0 : v11.cell? ⟨tb, 0, none⟩ = some (.int .u64 (wd p 0 64 : Nat)) := t0
      replace t1 : v11.cell? ⟨tb, 1, none⟩ = some (.int .u64 (wd p 64 64 : Nat)) := t1
      replace t2 : v11.cell? ⟨tb, 2, none⟩ = some (.int .u64 (wd p 128 64 : Nat)) := t2
      replace t3 : v11.cell? ⟨tb, 3, none⟩ = some (.int .u64 (wd p 192 64 : Nat)) := t3
      go_wp2_with (first
        | (go_at_call 11; (with_reducible refine (HNx.out _ _ (TIx.out.below K11.out.2.2)).mono ?_); rintro e v12 ⟨rfl, hb⟩
           have K12 := Lib.hid (K11.out.keep hb)
           clear a0 a1 a2 a3 a4 a5 a6 a7 a8 x0 x1 x2 x3 x4 x5 x6 x7 x8 hb s0 s1 s2 s3 t0 t1 t2 t3)
        | (go_at_call 13; (with_reducible refine (HA.out _).mono ?_); rintro e v13 ⟨rfl, hb⟩
           have K13 := Lib.hid (K12.out.keep hb)
           clear hb))
      go_ret
      exact ⟨rfl, HB2.out.trans (K13.out.2.2.mono HB2.out.size)⟩
  · have ek : (kx == 0) = false := by simpa using hk
    clear HLx HFx HNx HLe HFe
    cases B
    · clear HSm
      go_wp2_with (first
        | (go_at_call 22; (with_reducible refine (HPx.out _ _ (TIx.out.below K0.out.2.2)).mono ?_); rintro e v1 ⟨rfl, hb⟩
           have K1 := Lib.hid (K0.out.keep hb)
           clear a0 a1 a2 a3 a4 a5 a6 a7 a8 x0 x1 x2 x3 x4 x5 x6 x7 x8 hb
           have hk := K1.out; obtain ⟨⟨⟨a0, a1, a2⟩, a3, a4, a5⟩, a6, a7, a8⟩ := nine hk.1; obtain ⟨⟨⟨x0, x1, x2⟩, x3, x4, x5⟩, x6, x7, x8⟩ := nine hk.2.1; clear hk)
        | (go_at_call 22; (with_reducible refine (HPe.out _ (TIe.out.below K1.out.2.2)).mono ?_); rintro e v2 ⟨rfl, hb⟩
           have K2 := Lib.hid (K1.out.keep hb)
           clear a0 a1 a2 a3 a4 a5 a6 a7 a8 x0 x1 x2 x3 x4 x5 x6 x7 x8 hb
           have hk := K2.out; obtain ⟨⟨⟨a0, a1, a2⟩, a3, a4, a5⟩, a6, a7, a8⟩ := nine hk.1; obtain ⟨⟨⟨x0, x1, x2⟩, x3, x4, x5⟩, x6, x7, x8⟩ := nine hk.2.1; clear hk)
        | (go_at_call 20; (with_reducible refine (HCe.out _ (TIe.out.below K2.out.2.2)).mono ?_); rintro e v3 ⟨rfl, hb⟩
           have K3 := Lib.hid (K2.out.keep hb)
           clear a0 a1 a2 a3 a4 a5 a6 a7 a8 x0 x1 x2 x3 x4 x5 x6 x7 x8 hb
           have hk := K3.out; obtain ⟨⟨⟨a0, a1, a2⟩, a3, a4, a5⟩, a6, a7, a8⟩ := nine hk.1; obtain ⟨⟨⟨x0, x1, x2⟩, x3, x4, x5⟩, x6, x7, x8⟩ := nine hk.2.1; clear hk)
        | (go_at_call 20; (with_reducible refine (HCx.out _ _ (TIx.out.below K3.out.2.2)).mono ?_); rintro e v4 ⟨rfl, hb⟩
           have K4 := Lib.hid (K3.out.keep hb)
           clear a0 a1 a2 a3 a4 a5 a6 a7 a8 x0 x1 x2 x3 x4 x5 x6 x7 x8 hb
           have hk := K4.out; obtain ⟨⟨⟨a0, a1, a2⟩, a3, a4, a5⟩, a6, a7, a8⟩ := nine hk.1; obtain ⟨⟨⟨x0, x1, x2⟩, x3, x4, x5⟩, x6, x7, x8⟩ := nine hk.2.1; clear hk)
        | (go_at_call 13; (with_reducible refine (HA.out _).mono ?_); rintro e v5 ⟨rfl, hb⟩
           have K5 := Lib.hid (K4.out.keep hb)
           clear a0 a1 a2 a3 a4 a5 a6 a7 a8 x0 x1 x2 x3 x4 x5 x6 x7 x8 hb
           have hk := K5.out; obtain ⟨⟨⟨a0, a1, a2⟩, a3, a4, a5⟩, a6, a7, a8⟩ := nine hk.1; obtain ⟨⟨⟨x0, x1, x2⟩, x3, x4, x5⟩, x6, x7, x8⟩ := nine hk.2.1; clear hk))
      go_ret
      exact ⟨rfl, HB2.out.trans (K5.out.2.2.mono HB2.out.size)⟩
    · replace HSm := Lib.hid (HSm.out rfl)
      go_wp2_with (first
        | (go_at_call 22; (with_reducible refine (HPx.out _ _ (TIx.out.below K0.out.2.2)).mono ?_); rintro e v1 ⟨rfl, hb⟩
           have K1 := Lib.hid (K0.out.keep hb)
           clear a0 a1 a2 a3 a4 a5 a6 a7 a8 x0 x1 x2 x3 x4 x5 x6 x7 x8 hb
           have hk := K1.out; obtain ⟨⟨⟨a0, a1, a2⟩, a3, a4, a5⟩, a6, a7, a8⟩ := nine hk.1; obtain ⟨⟨⟨x0, x1, x2⟩, x3, x4, x5⟩, x6, x7, x8⟩ := nine hk.2.1; clear hk)
        | (go_at_call 22; (with_reducible refine (HPe.out _ (TIe.out.below K1.out.2.2)).mono ?_); rintro e v2 ⟨rfl, hb⟩
           have K2 := Lib.hid (K1.out.keep hb)
           clear a0 a1 a2 a3 a4 a5 a6 a7 a8 x0 x1 x2 x3 x4 x5 x6 x7 x8 hb
           have hk := K2.out; obtain ⟨⟨⟨a0, a1, a2⟩, a3, a4, a5⟩, a6, a7, a8⟩ := nine hk.1; obtain ⟨⟨⟨x0, x1, x2⟩, x3, x4, x5⟩, x6, x7, x8⟩ := nine hk.2.1; clear hk)
        | (go_at_call 21; (with_reducible refine (HSm.out _ _ (TIx.out.below K2.out.2.2) (TIe.out.below K2.out.2.2)).mono ?_); rintro e v3 ⟨rfl, hb⟩
           have K3 := Lib.hid (K2.out.keep hb)
           clear a0 a1 a2 a3 a4 a5 a6 a7 a8 x0 x1 x2 x3 x4 x5 x6 x7 x8 hb
           have hk := K3.out; obtain ⟨⟨⟨a0, a1, a2⟩, a3, a4, a5⟩, a6, a7, a8⟩ := nine hk.1; obtain ⟨⟨⟨x0, x1, x2⟩, x3, x4, x5⟩, x6, x7, x8⟩ := nine hk.2.1; clear hk)
        | (go_at_call 20; (with_reducible refine (HCe.out _ (TIe.out.below K3.out.2.2)).mono ?_); rintro e v4 ⟨rfl, hb⟩
           have K4 := Lib.hid (K3.out.keep hb)
           clear a0 a1 a2 a3 a4 a5 a6 a7 a8 x0 x1 x2 x3 x4 x5 x6 x7 x8 hb
           have hk := K4.out; obtain ⟨⟨⟨a0, a1, a2⟩, a3, a4, a5⟩, a6, a7, a8⟩ := nine hk.1; obtain ⟨⟨⟨x0, x1, x2⟩, x3, x4, x5⟩, x6, x7, x8⟩ := nine hk.2.1; clear hk)
        | (go_at_call 20; (with_reducible refine (HCx.out _ _ (TIx.out.below K4.out.2.2)).mono ?_); rintro e v5 ⟨rfl, hb⟩
           have K5 := Lib.hid (K4.out.keep hb)
           clear a0 a1 a2 a3 a4 a5 a6 a7 a8 x0 x1 x2 x3 x4 x5 x6 x7 x8 hb
           have hk := K5.out; obtain ⟨⟨⟨a0, a1, a2⟩, a3, a4, a5⟩, a6, a7, a8⟩ := nine hk.1; obtain ⟨⟨⟨x0, x1, x2⟩, x3, x4, x5⟩, x6, x7, x8⟩ := nine hk.2.1; clear hk)
        | (go_at_call 13; (with_reducible refine (HA.out _).mono ?_); rintro e v6 ⟨rfl, hb⟩
           have K6 := Lib.hid (K5.out.keep hb)
           clear a0 a1 a2 a3 a4 a5 a6 a7 a8 x0 x1 x2 x3 x4 x5 x6 x7 x8 hb
           have hk := K6.out; obtain ⟨⟨⟨a0, a1, a2⟩, a3, a4, a5⟩, a6, a7, a8⟩ := nine hk.1; obtain ⟨⟨⟨x0, x1, x2⟩, x3, x4, x5⟩, x6, x7, x8⟩ := nine hk.2.1; clear hk))
      go_ret
      exact ⟨rfl, HB2.out.trans (K6.out.2.2.mono HB2.out.size)⟩
theorem keeps_law (t : TN) (sv : Value) (w : World) (h : TI w t sv) :
    Calls Try.prog 5 #[.agg #[.int .i64 t.op, .int .u64 (wd t.st 0 64 : Nat), .int .u64 (wd t.st 64 64 : Nat), .int .u64 (wd t.st 128 64 : Nat), .int .u64 (wd t.st 192 64 : Nat), .int .i64 t.lo, .int .i64 t.hi, .int .i64 t.g, sv]] w fun e w' => e = .returned (.bool true) ∧ Below w.heap.size w w' := by
  by_cases hc : checkT t = 0
  · by_cases hy : 4096 < valT exsT t
    · exact keeps_no t sv w h 3 (by unfold expdT; rw [if_pos hc, if_pos hy]) (by decide) (.inl rfl)
    · exact keeps_yes t sv w h (by unfold expdT; rw [if_pos hc, if_neg hy]) hc
  · exact keeps_no t sv w h (checkT t) (by unfold expdT; rw [if_neg hc]) hc (.inr rfl)
end Go.Proofs.Ytpfbpgbgedbalaa
