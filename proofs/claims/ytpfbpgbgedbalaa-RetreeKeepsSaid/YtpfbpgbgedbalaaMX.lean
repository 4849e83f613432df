/- Several texts in one (a claim has at most 60 files). -/
import Derived.Test.YtpfbpgbgedbalaaRtX5
/- expanded, of every tree. -/
set_option linter.unusedVariables false
set_option linter.unusedSimpArgs false
set_option maxRecDepth 100000
set_option maxHeartbeats 4000000
namespace Go.Proofs.Ytpfbpgbgedbalaa
open Go.RowKit

theorem expg_of (f : F) (hch : ∀ i, i < f.len → ExpG (f.nth i).args) : ExpG f := by
  intro o l h g st sv w S hsv hS hok
  by_cases o5 : o = 5
  · subst o5
    obtain ⟨h1, hl, hh⟩ := hok.1.2 rfl
    obtain ⟨o1, s1, l1, h2, g1, a1, rfl⟩ := len1 h1
    obtain ⟨zs, ad, cap, rfl, hcap, hfv, hcells⟩ := hsv
    obtain ⟨sva, ys, rfl, hsa, hys⟩ := FV.cons.1 hfv
    cases hys
    rw [List.append_nil] at hcells
    rcases hcells with h0 | ⟨b, i, rfl, hSb, hlt, hce⟩
    · cases h0
    obtain ⟨ad2, cp2, rfl⟩ := slice_form hsa
    have hx := exp_5 ⟨o1, s1, l1, h2, g1, a1⟩ (hch 0 (Nat.zero_lt_succ _)) l h g st b i cap ad2 cp2 w S hlt hce hsa hS hok.2.1 hl hh _ rfl
    exact hx
  · have e5 : (o == 5) = false := by simpa using o5
    have hx := exp_x f hch o l h g st sv w S hsv hS hok e5 o5
    have he : expT ⟨o, st, l, h, g, f⟩ = ⟨o, st, l, h, g, expF f⟩ := by unfold expT expN; rw [if_neg o5]
    rw [he]
    exact hx
theorem expg_all : ∀ f : F, (∀ i, i < f.len → ExpG (f.nth i).args)
  | .nil, _, h => by cases h
  | .cons o s l h g a r, 0, _ => expg_of a (expg_all a)
  | .cons o s l h g a r, i + 1, hi => expg_all r i (by have hi : i + 1 < r.len + 1 := hi; omega)
theorem expg_any (f : F) : ExpG f := expg_of f (expg_all f)
end Go.Proofs.Ytpfbpgbgedbalaa
/- Expand. (Written by gen_rtx7.py.) -/
set_option linter.unusedVariables false
set_option linter.unusedSimpArgs false
set_option maxRecDepth 100000
set_option maxHeartbeats 4000000
namespace Go.Proofs.Ytpfbpgbgedbalaa
open Go.RowKit

theorem results_re2 {fn : Func} {p u : Tmp} (h : fn.results = #[.cell p 28, .tmp u]) (tmps : Array Value) (w : World) (g : Nat) (t : TypeId) (cs : Array Value) (fr : Nat × Nat) (v : Value)
    (hp : tmps.getD p undef = .pointer (some ⟨g, 0, none⟩)) (hv : tmps.getD u undef = v) (hg : w.heap[g]? = some (.cells cs t fr)) (hi : (Try.prog.info? 28).map (·.size) = some cs.size) :
    (results fn tmps).run Try.prog w = .ok (.tuple #[.agg cs, v]) w := by
  rw [results_cell_tmp h, hp, hv]
  simp [asAddr, run_loadVar_row w g t 28 cs fr _ hg Try.underlying28 rfl hi]
def expdT (t : TN) : TN × Int := if checkT t = 0 then (if 4096 < valT exsT t then (T0, 3) else (expT t, 0)) else (T0, checkT t)
theorem okE_valid {t : TN} (h : Valid t) : okE (.cons t.op t.st t.lo t.hi t.g t.args .nil) := by
  obtain ⟨c, h1, _, h2, _⟩ := h
  exact okE_of t.f [] c h1 h2
theorem expand_ti {w : World} {t : TN} {sv : Value} (h : TI w t sv) : Calls Try.prog 19 #[.agg #[.int .i64 t.op, .int .u64 (wd t.st 0 64 : Nat), .int .u64 (wd t.st 64 64 : Nat), .int .u64 (wd t.st 128 64 : Nat), .int .u64 (wd t.st 192 64 : Nat), .int .i64 t.lo, .int .i64 t.hi, .int .i64 t.g, sv]] w fun e w' => ∃ sv', e = .returned (.tuple #[.agg #[.int .i64 (expdT t).1.op, .int .u64 (wd (expdT t).1.st 0 64 : Nat), .int .u64 (wd (expdT t).1.st 64 64 : Nat), .int .u64 (wd (expdT t).1.st 128 64 : Nat), .int .u64 (wd (expdT t).1.st 192 64 : Nat), .int .i64 (expdT t).1.lo, .int .i64 (expdT t).1.hi, .int .i64 (expdT t).1.g, sv'], .int .i64 (expdT t).2]) ∧ SV w' (Frm w.heap.size) (expdT t).1.args sv' ∧ Below w.heap.size w w' := by
  obtain ⟨ad, cap, rfl⟩ := h.form
  have hb : Below w.heap.size w ((w.alloc (.cells #[.int .i64 t.op, .int .u64 (wd t.st 0 64 : Nat), .int .u64 (wd t.st 64 64 : Nat), .int .u64 (wd t.st 128 64 : Nat), .int .u64 (wd t.st 192 64 : Nat), .int .i64 t.lo, .int .i64 t.hi, .int .i64 t.g, .slice ad t.args.len cap] 28)).alloc (.cells #[.int .i64 0, .int .u64 0, .int .u64 0, .int .u64 0, .int .u64 0, .int .i64 0, .int .i64 0, .int .i64 0, .slice none 0 0] 28)) := ((Below.refl _ _).alloc (Nat.le_refl _) _).alloc (by simp) _
  have he : ((w.alloc (.cells #[.int .i64 t.op, .int .u64 (wd t.st 0 64 : Nat), .int .u64 (wd t.st 64 64 : Nat), .int .u64 (wd t.st 128 64 : Nat), .int .u64 (wd t.st 192 64 : Nat), .int .i64 t.lo, .int .i64 t.hi, .int .i64 t.g, .slice ad t.args.len cap] 28)).alloc (.cells #[.int .i64 0, .int .u64 0, .int .u64 0, .int .u64 0, .int .u64 0, .int .i64 0, .int .i64 0, .int .i64 0, .slice none 0 0] 28)).heap[w.heap.size]? = some (.cells #[.int .i64 t.op, .int .u64 (wd t.st 0 64 : Nat), .int .u64 (wd t.st 64 64 : Nat), .int .u64 (wd t.st 128 64 : Nat), .int .u64 (wd t.st 192 64 : Nat), .int .i64 t.lo, .int .i64 t.hi, .int .i64 t.g, .slice ad t.args.len cap] 28 (0, 0)) := by
    rw [Below.heap_alloc _ _ _ (by simp)]
    exact heap_alloc_new w _
  have hr : ((w.alloc (.cells #[.int .i64 t.op, .int .u64 (wd t.st 0 64 : Nat), .int .u64 (wd t.st 64 64 : Nat), .int .u64 (wd t.st 128 64 : Nat), .int .u64 (wd t.st 192 64 : Nat), .int .i64 t.lo, .int .i64 t.hi, .int .i64 t.g, .slice ad t.args.len cap] 28)).alloc (.cells #[.int .i64 0, .int .u64 0, .int .u64 0, .int .u64 0, .int .u64 0, .int .i64 0, .int .i64 0, .int .i64 0, .slice none 0 0] 28)).heap[w.heap.size + 1]? = some (.cells #[.int .i64 0, .int .u64 0, .int .u64 0, .int .u64 0, .int .u64 0, .int .i64 0, .int .i64 0, .int .i64 0, .slice none 0 0] 28 (0, 0)) := by
    have := heap_alloc_new (w.alloc (.cells #[.int .i64 t.op, .int .u64 (wd t.st 0 64 : Nat), .int .u64 (wd t.st 64 64 : Nat), .int .u64 (wd t.st 128 64 : Nat), .int .u64 (wd t.st 192 64 : Nat), .int .i64 t.lo, .int .i64 t.hi, .int .i64 t.g, .slice ad t.args.len cap] 28)) (.cells #[.int .i64 0, .int .u64 0, .int .u64 0, .int .u64 0, .int .u64 0, .int .i64 0, .int .i64 0, .int .i64 0, .slice none 0 0] 28)
    simpa using this
  have HT := Lib.hid (h.below hb)
  have HC := Lib.hid (check_ti (h.below hb))
  have HB := Lib.hid hb
  have HE := Lib.hid he
  have HR := Lib.hid hr
  have hl : w.heap.size + 1 < ((w.alloc (.cells #[.int .i64 t.op, .int .u64 (wd t.st 0 64 : Nat), .int .u64 (wd t.st 64 64 : Nat), .int .u64 (wd t.st 128 64 : Nat), .int .u64 (wd t.st 192 64 : Nat), .int .i64 t.lo, .int .i64 t.hi, .int .i64 t.g, .slice ad t.args.len cap] 28)).alloc (.cells #[.int .i64 0, .int .u64 0, .int .u64 0, .int .u64 0, .int .u64 0, .int .i64 0, .int .i64 0, .int .i64 0, .slice none 0 0] 28)).heap.size := by simp
  have HL := Lib.hid hl
  clear h hb he hr hl
  unfold expdT
  by_cases hc : checkT t = 0
  case neg =>
    have hc2 : (checkT t == 0) = false := by simpa using hc
    rw [if_neg hc]
    clear HT
    go_enter Try.func19, Try.ntmps19
    go_wp2_with (first
      | (go_at_call 20; (with_reducible refine HC.out.mono ?_); rintro e w1 ⟨rfl, hb⟩; have HB1 := Lib.hid (HB.out.trans (hb.mono HB.out.size)); have HR1 := Lib.hid ((hb.block (w.heap.size + 1) HL.out).trans HR.out); clear hb)
      | (refine wpList_store_row rfl 28 (.tmp 2) (.tmp 9) rfl (w.heap.size + 1) #[.int .i64 0, .int .u64 0, .int .u64 0, .int .u64 0, .int .u64 0, .int .i64 0, .int .i64 0, .int .i64 0, .slice none 0 0] rfl rfl 28 _ HR1.out isz_re rfl (by simp [Value.oneCell']) ?_))
    refine bodyPost_ret (v := .tuple #[.agg #[.int .i64 0, .int .u64 0, .int .u64 0, .int .u64 0, .int .u64 0, .int .i64 0, .int .i64 0, .int .i64 0, .slice none 0 0], .int .i64 (checkT t)]) (results_re2 rfl _ _ (w.heap.size + 1) _ #[.int .i64 0, .int .u64 0, .int .u64 0, .int .u64 0, .int .u64 0, .int .i64 0, .int .i64 0, .int .i64 0, .slice none 0 0] (0, 0) (.int .i64 (checkT t)) rfl rfl (setRow_heap w1 _ _ _ _ _ HR1.out) isz_re) rfl ?_
    refine ⟨.slice none 0 0, ?_, .nil _ _, below_setRow HB1.out (by omega) _⟩
    simp only [T0, wd_noSet.1, wd_noSet.2.1, wd_noSet.2.2.1, wd_noSet.2.2.2]
    rfl
  case pos =>
    have hv : Valid t := (checkT_iff t).1 hc
    have hp := preN_of (I := EOk) (R := exsT) exsT_ok t hv
    have HOk := Lib.hid (okE_valid hv)
    have HV : Hid (∀ W, TI W t (.slice ad t.args.len cap) → Calls Try.prog 48 #[.agg #[.int .i64 t.op, .int .u64 (wd t.st 0 64 : Nat), .int .u64 (wd t.st 64 64 : Nat), .int .u64 (wd t.st 128 64 : Nat), .int .u64 (wd t.st 192 64 : Nat), .int .i64 t.lo, .int .i64 t.hi, .int .i64 t.g, .slice ad t.args.len cap], .func (.func 49) #[] #[]] W fun e w' => e = .returned (.int .i64 (valT exsT t)) ∧ Below W.heap.size W w') := Lib.hid (fun W hW => by
      obtain ⟨S, k1, k2, _⟩ := hW
      exact valueof_i EOk exsT (Lib.hid rule_i) t _ W S k1 k2 hp.1)
    have HX : Hid (∀ W, TI W t (.slice ad t.args.len cap) → Calls Try.prog 50 #[.agg #[.int .i64 t.op, .int .u64 (wd t.st 0 64 : Nat), .int .u64 (wd t.st 64 64 : Nat), .int .u64 (wd t.st 128 64 : Nat), .int .u64 (wd t.st 192 64 : Nat), .int .i64 t.lo, .int .i64 t.hi, .int .i64 t.g, .slice ad t.args.len cap]] W fun e w' => ∃ sv', e = .returned (.agg #[.int .i64 (expT t).op, .int .u64 (wd (expT t).st 0 64 : Nat), .int .u64 (wd (expT t).st 64 64 : Nat), .int .u64 (wd (expT t).st 128 64 : Nat), .int .u64 (wd (expT t).st 192 64 : Nat), .int .i64 (expT t).lo, .int .i64 (expT t).hi, .int .i64 (expT t).g, sv']) ∧ SV w' (Frm W.heap.size) (expT t).args sv' ∧ Below W.heap.size W w') := Lib.hid (fun W hW => by
      obtain ⟨S, k1, k2, _⟩ := hW
      exact expg_any t.args t.op t.lo t.hi t.g t.st _ W S k1 k2 HOk.out)
    clear hv hp HOk
    rw [hc] at HC
    rw [if_pos hc]
    clear hc
    generalize valT exsT t = Y at *
    generalize expT t = Z at *
    by_cases hy : 4096 < Y
    · rw [if_pos hy]
      clear HX
      go_enter Try.func19, Try.ntmps19
      go_wp2_with (first
      | (go_at_call 20; (with_reducible refine HC.out.mono ?_); rintro e w1 ⟨rfl, hb⟩
         have HB1 := Lib.hid (HB.out.trans (hb.mono HB.out.size))
         have HT1 := Lib.hid (HT.out.below hb)
         have hn := nine ((hb.block w.heap.size (by have := HL.out; omega)).trans HE.out)
         obtain ⟨⟨⟨a0, a1, a2⟩, a3, a4, a5⟩, a6, a7, a8⟩ := hn
         have hl1 : w.heap.size < w1.heap.size := by have := hb.size; have := HL.out; omega
         have HR1 := Lib.hid ((hb.block (w.heap.size + 1) HL.out).trans HR.out)
         clear hb)
      | (go_at_call 48; (with_reducible refine (HV.out _ HT1.out).mono ?_); rintro e w2 ⟨rfl, hb⟩
         have HB2 := Lib.hid (HB1.out.trans (hb.mono HB1.out.size))
         have HR2 := Lib.hid ((hb.block (w.heap.size + 1) (Array.getElem?_eq_some_iff.1 HR1.out).1).trans HR1.out)
         clear hb a0 a1 a2 a3 a4 a5 a6 a7 a8 hl1)
      | (refine wpList_store_row rfl 28 (.tmp 2) (.tmp 14) rfl (w.heap.size + 1) #[.int .i64 0, .int .u64 0, .int .u64 0, .int .u64 0, .int .u64 0, .int .i64 0, .int .i64 0, .int .i64 0, .slice none 0 0] rfl rfl 28 _ HR2.out isz_re rfl (by simp [Value.oneCell']) ?_))
      refine bodyPost_ret (v := .tuple #[.agg #[.int .i64 0, .int .u64 0, .int .u64 0, .int .u64 0, .int .u64 0, .int .i64 0, .int .i64 0, .int .i64 0, .slice none 0 0], .int .i64 3]) (results_re2 rfl _ _ (w.heap.size + 1) _ #[.int .i64 0, .int .u64 0, .int .u64 0, .int .u64 0, .int .u64 0, .int .i64 0, .int .i64 0, .int .i64 0, .slice none 0 0] (0, 0) (.int .i64 3) rfl rfl (setRow_heap w2 _ _ _ _ _ HR2.out) isz_re) rfl ?_
      refine ⟨.slice none 0 0, ?_, .nil _ _, below_setRow HB2.out (by omega) _⟩
      simp only [T0, wd_noSet.1, wd_noSet.2.1, wd_noSet.2.2.1, wd_noSet.2.2.2]
      rfl
    · rw [if_neg hy]
      go_enter Try.func19, Try.ntmps19
      go_wp2_with (first
      | (go_at_call 20; (with_reducible refine HC.out.mono ?_); rintro e w1 ⟨rfl, hb⟩
         have HB1 := Lib.hid (HB.out.trans (hb.mono HB.out.size))
         have HT1 := Lib.hid (HT.out.below hb)
         have HE1 := Lib.hid ((hb.block w.heap.size (by have := HL.out; omega)).trans HE.out)
         have hn := nine HE1.out
         obtain ⟨⟨⟨a0, a1, a2⟩, a3, a4, a5⟩, a6, a7, a8⟩ := hn
         have hl1 : w.heap.size < w1.heap.size := by have := hb.size; have := HL.out; omega
         have HR1 := Lib.hid ((hb.block (w.heap.size + 1) HL.out).trans HR.out)
         clear hb)
      | (go_at_call 48; (with_reducible refine (HV.out _ HT1.out).mono ?_); rintro e w2 ⟨rfl, hb⟩
         have HB2 := Lib.hid (HB1.out.trans (hb.mono HB1.out.size))
         have HT2 := Lib.hid (HT1.out.below hb)
         clear a0 a1 a2 a3 a4 a5 a6 a7 a8
         have HE2 := Lib.hid ((hb.block w.heap.size hl1).trans HE1.out)
         have hn := nine HE2.out
         obtain ⟨⟨⟨a0, a1, a2⟩, a3, a4, a5⟩, a6, a7, a8⟩ := hn
         have hl2 : w.heap.size < w2.heap.size := by have := hb.size; omega
         have HR2 := Lib.hid ((hb.block (w.heap.size + 1) (Array.getElem?_eq_some_iff.1 HR1.out).1).trans HR1.out)
         clear hb hl1)
      | (go_at_call 50; (with_reducible refine (HX.out _ HT2.out).mono ?_); rintro e w3 ⟨sv3, rfl, hsv3, hb⟩
         have HB3 := Lib.hid (HB2.out.trans (hb.mono HB2.out.size))
         have HS3 := Lib.hid hsv3
         have HZ3 := Lib.hid (Nat.lt_of_lt_of_le (Nat.lt_of_lt_of_le HL.out (Nat.le_refl _)) (Nat.le_refl _))
         have HR3 := Lib.hid ((hb.block (w.heap.size + 1) (Array.getElem?_eq_some_iff.1 HR2.out).1).trans HR2.out)
         have HR2s := Lib.hid (Array.getElem?_eq_some_iff.1 HR2.out).1
         clear hb hsv3 a0 a1 a2 a3 a4 a5 a6 a7 a8 hl2)
      | (refine wpList_store_row rfl 28 (.tmp 2) (.tmp 16) rfl (w.heap.size + 1) #[.int .i64 Z.op, .int .u64 (wd Z.st 0 64 : Nat), .int .u64 (wd Z.st 64 64 : Nat), .int .u64 (wd Z.st 128 64 : Nat), .int .u64 (wd Z.st 192 64 : Nat), .int .i64 Z.lo, .int .i64 Z.hi, .int .i64 Z.g, sv3] rfl rfl 28 _ HR3.out isz_re rfl (by obtain ⟨ad4, cap4, rfl⟩ := slice_form HS3.out; simp [Value.oneCell']) ?_))
      refine bodyPost_ret (v := .tuple #[.agg #[.int .i64 Z.op, .int .u64 (wd Z.st 0 64 : Nat), .int .u64 (wd Z.st 64 64 : Nat), .int .u64 (wd Z.st 128 64 : Nat), .int .u64 (wd Z.st 192 64 : Nat), .int .i64 Z.lo, .int .i64 Z.hi, .int .i64 Z.g, sv3], .int .i64 0]) (results_re2 rfl _ _ (w.heap.size + 1) _ #[.int .i64 Z.op, .int .u64 (wd Z.st 0 64 : Nat), .int .u64 (wd Z.st 64 64 : Nat), .int .u64 (wd Z.st 128 64 : Nat), .int .u64 (wd Z.st 192 64 : Nat), .int .i64 Z.lo, .int .i64 Z.hi, .int .i64 Z.g, sv3] (0, 0) (.int .i64 0) rfl rfl (setRow_heap w3 _ _ _ _ _ HR3.out) isz_re) rfl ?_
      have hz2 := HR2s.out
      refine ⟨sv3, rfl, HS3.out.far ⟨by rw [setRow_size]; exact Nat.le_refl _, fun b hb1 _ => ?_⟩, below_setRow HB3.out (by omega) _⟩
      have hb1 : w2.heap.size ≤ b := hb1
      exact ⟨by show w.heap.size ≤ b; omega, setRow_other w3 _ b _ (by omega)⟩
end Go.Proofs.Ytpfbpgbgedbalaa
/- Expanded trees are small in every field; Expand in the words of TI. -/
set_option linter.unusedVariables false
set_option linter.unusedSimpArgs false
set_option maxRecDepth 100000
namespace Go.Proofs.Ytpfbpgbgedbalaa
open Go.RowKit

theorem i0 : (-9223372036854775808 : Int) ≤ 0 ∧ (0 : Int) ≤ 9223372036854775807 := by decide
theorem i3 : (-9223372036854775808 : Int) ≤ 3 ∧ (3 : Int) ≤ 9223372036854775807 := by decide
theorem i5 : (-9223372036854775808 : Int) ≤ 5 ∧ (5 : Int) ≤ 9223372036854775807 := by decide
/-- A node's fields fit. -/
def fitN (t : TN) : Prop := F.fits (.cons t.op t.st t.lo t.hi t.g t.args .nil)
theorem fits_cons {o l h g : Int} {s : Nat → Bool} {a r : F} : F.fits (.cons o s l h g a r) ↔ fitN ⟨o, s, l, h, g, a⟩ ∧ r.fits :=
  ⟨fun h => ⟨⟨h.1, h.2.1, h.2.2.1, trivial⟩, h.2.2.2⟩, fun h => ⟨h.1.1, h.1.2.1, h.1.2.2.1, h.2⟩⟩
theorem fits_push : ∀ {f : F} {t : TN}, f.fits → fitN t → (f.push t).fits
  | .nil, _, _, ht => ht
  | .cons o s l h g a r, t, hf, ht => ⟨hf.1, hf.2.1, hf.2.2.1, fits_push hf.2.2.2 ht⟩
theorem fits_times : ∀ (n : Nat) {t : TN} {f : F}, f.fits → fitN t → (timesF n t f).fits
  | 0, _, _, hf, _ => hf
  | n + 1, t, f, hf, ht => fits_times n (fits_push hf ht) ht
theorem fitN_cat {f : F} (h : f.fits) (hl : f.len ≤ maxLen) : fitN (catT f) := by
  cases f with
  | nil => simp [catT, fitN, F.fits, F.len, maxLen]
  | cons o s l h' g a r => cases r with
    | nil => exact h
    | cons _ _ _ _ _ _ _ => exact ⟨⟨i3, i0, i0, i0⟩, hl, h, trivial⟩
theorem fitN_seq {t x : TN} (hx : fitN x) (hl : 0 ≤ t.lo ∧ t.lo ≤ 64) (hh : t.hi = -1 ∨ (t.lo ≤ t.hi ∧ t.hi ≤ 64)) : fitN (catT (seqF t x)) := by
  obtain ⟨⟨c1, c2⟩, ⟨e1, e2⟩⟩ := bounds_cr t.lo t.hi hl hh
  refine fitN_cat ?_ ?_
  · refine fits_times _ (fits_times _ trivial hx) ?_
    refine ⟨⟨i5, ?_, ?_, i0⟩, ?_, ?_, trivial⟩
    · show -9223372036854775808 ≤ loT t.lo t.hi ∧ loT t.lo t.hi ≤ 9223372036854775807
      unfold loT
      split
      · split <;> omega
      · omega
    · show -9223372036854775808 ≤ hiT t.lo t.hi ∧ hiT t.lo t.hi ≤ 9223372036854775807
      unfold hiT
      split <;> omega
    · show 1 ≤ maxLen
      decide
    · exact fits_push (f := .nil) trivial hx
  · unfold seqF
    rw [timesF_len, timesF_len]
    have : F.nil.len = 0 := rfl
    unfold maxLen
    omega
theorem fits_nth0 {f : F} (h : f.fits) (hl : 0 < f.len) : fitN (f.nth 0) := by
  cases f with
  | nil => cases hl
  | cons o s l h' g a r => exact ⟨h.1, h.2.1, h.2.2.1, trivial⟩
theorem fitN_exp {t : TN} (h : fitN t) (hk : (expF t.args).fits) (hok : okE (.cons t.op t.st t.lo t.hi t.g t.args .nil)) : fitN (expT t) := by
  unfold expT expN
  by_cases o5 : t.op = 5
  · rw [if_pos o5]
    obtain ⟨h1, hl, hh⟩ := hok.1.2 o5
    exact fitN_seq (fits_nth0 hk (by rw [expF_len]; omega)) hl hh
  · rw [if_neg o5]
    exact ⟨h.1, by show (expF t.args).len ≤ maxLen; rw [expF_len]; exact h.2.1, hk, trivial⟩
theorem fits_exp : ∀ f : F, f.fits → okE f → (expF f).fits
  | .nil, _, _ => trivial
  | .cons o s l h g a r, hf, hok => by
    have h1 := fitN_exp (t := ⟨o, s, l, h, g, a⟩) ⟨hf.1, hf.2.1, hf.2.2.1, trivial⟩ (fits_exp a hf.2.2.1 hok.2.1) ⟨hok.1, hok.2.1, trivial⟩
    exact fits_cons.2 ⟨h1, fits_exp r hf.2.2.2 hok.2.2⟩
theorem SV.low {w : World} {S : Nat → Prop} {f : F} {sv : Value} (h : SV w S f sv) : SV w (fun b => S b ∧ b < w.heap.size) f sv := h.far ⟨Nat.le_refl _, fun b h1 h2 => ⟨⟨h1, h2⟩, rfl⟩⟩
theorem valid_ranges {t : TN} (h : Valid t) : (1 ≤ t.op ∧ t.op ≤ 9) ∧ (0 ≤ t.lo ∧ t.lo ≤ 64) ∧ (-1 ≤ t.hi ∧ t.hi ≤ 64) := by
  obtain ⟨c, h1, _⟩ := h
  unfold TN.f at h1
  rw [vF] at h1
  by_cases hok : okN t.op t.st t.lo t.hi t.g t.args.len [] = true
  case neg => rw [if_neg hok] at h1; cases h1
  unfold okN fldT havT bndT at hok
  simp only [Bool.and_eq_true, Bool.or_eq_true, Bool.not_eq_true', decide_eq_true_eq, decide_eq_false_iff_not] at hok
  obtain ⟨⟨h2, _, h4, _⟩, h6, _⟩ := hok
  refine ⟨?_, ?_⟩
  · by_cases o1 : t.op = 1 ∨ t.op = 2 ∨ t.op = 7 ∨ t.op = 8 ∨ t.op = 9
    · omega
    · rw [if_neg o1] at h2
      by_cases o2 : t.op = 5 ∨ t.op = 6
      · omega
      · rw [if_neg o2] at h2
        by_cases o3 : t.op = 3 ∨ t.op = 4
        · omega
        · rw [if_neg o3] at h2
          cases h2
  · omega
theorem expand_tj {w : World} {t : TN} {sv : Value} (h : TI w t sv) : Calls Try.prog 19 #[.agg #[.int .i64 t.op, .int .u64 (wd t.st 0 64 : Nat), .int .u64 (wd t.st 64 64 : Nat), .int .u64 (wd t.st 128 64 : Nat), .int .u64 (wd t.st 192 64 : Nat), .int .i64 t.lo, .int .i64 t.hi, .int .i64 t.g, sv]] w fun e w' => ∃ sv', e = .returned (.tuple #[.agg #[.int .i64 (expdT t).1.op, .int .u64 (wd (expdT t).1.st 0 64 : Nat), .int .u64 (wd (expdT t).1.st 64 64 : Nat), .int .u64 (wd (expdT t).1.st 128 64 : Nat), .int .u64 (wd (expdT t).1.st 192 64 : Nat), .int .i64 (expdT t).1.lo, .int .i64 (expdT t).1.hi, .int .i64 (expdT t).1.g, sv'], .int .i64 (expdT t).2]) ∧ TI w' (expdT t).1 sv' ∧ Below w.heap.size w w' := by
  refine (expand_ti h).mono ?_
  rintro e w' ⟨sv', rfl, h1, h2⟩
  have hfit : ((expdT t).1.args.len ≤ maxLen ∧ (expdT t).1.args.fits) ∧ (-9223372036854775808 ≤ (expdT t).1.g ∧ (expdT t).1.g ≤ 9223372036854775807) := by
    unfold expdT
    by_cases hc : checkT t = 0
    · rw [if_pos hc]
      split
      · exact ⟨⟨Nat.zero_le _, trivial⟩, i0⟩
      · have hv := (checkT_iff t).1 hc
        have hok := okE_valid hv
        obtain ⟨S, k1, k2, k3, k4, k5⟩ := h
        obtain ⟨⟨r1, r2⟩, ⟨r3, r4⟩, r5, r6⟩ := valid_ranges hv
        have hn : fitN t := ⟨⟨⟨by omega, by omega⟩, ⟨by omega, by omega⟩, ⟨by omega, by omega⟩, k4, k5⟩, k3.1, k3.2, trivial⟩
        have hx := fitN_exp hn (fits_exp t.args k3.2 hok.2.1) hok
        exact ⟨⟨hx.2.1, hx.2.2.1⟩, hx.1.2.2.2⟩
    · rw [if_neg hc]
      exact ⟨⟨Nat.zero_le _, trivial⟩, i0⟩
  exact ⟨sv', rfl, ⟨_, h1.low, fun b hb => hb.2, hfit.1, hfit.2⟩, h2⟩
end Go.Proofs.Ytpfbpgbgedbalaa
