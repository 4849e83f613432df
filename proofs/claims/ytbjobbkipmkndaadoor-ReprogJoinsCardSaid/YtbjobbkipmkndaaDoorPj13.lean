/- RtX7. -/
import Derived.Test.YtbjobbkipmkndaaDoorPj12
set_option linter.unusedVariables false
set_option linter.unusedSimpArgs false
set_option maxRecDepth 100000
set_option maxHeartbeats 4000000
namespace Go.Proofs.YtbjobbkipmkndaaDoor
open Go.RowKit
theorem results_re2 {fn : Func} {p u : Tmp} (h : fn.results = #[.cell p 34, .tmp u]) (tmps : Array Value) (w : World) (g : Nat) (t : TypeId) (cs : Array Value) (fr : Nat × Nat) (v : Value)
    (hp : tmps.getD p undef = .pointer (some ⟨g, 0, none⟩)) (hv : tmps.getD u undef = v) (hg : w.heap[g]? = some (.cells cs t fr)) (hi : (Tryd.prog.info? 34).map (·.size) = some cs.size) :
    (results fn tmps).run Tryd.prog w = .ok (.tuple #[.agg cs, v]) w := by
  rw [results_cell_tmp h, hp, hv]
  simp [asAddr, run_loadVar_row w g t 34 cs fr _ hg Tryd.underlying34 rfl hi]
def expdT (t : TN) : TN × Int := if checkT t = 0 then (if 4096 < valT exsT t then (T0, 3) else (expT t, 0)) else (T0, checkT t)
theorem okE_valid {t : TN} (h : Valid t) : okE (.cons t.op t.st t.lo t.hi t.g t.args .nil) := by
  obtain ⟨c, h1, _, h2, _⟩ := h
  exact okE_of t.f [] c h1 h2
theorem expand_ti {w : World} {t : TN} {sv : Value} (h : TI w t sv) : Calls Tryd.prog 29 #[.agg #[.int .i64 t.op, .int .u64 (wd t.st 0 64 : Nat), .int .u64 (wd t.st 64 64 : Nat), .int .u64 (wd t.st 128 64 : Nat), .int .u64 (wd t.st 192 64 : Nat), .int .i64 t.lo, .int .i64 t.hi, .int .i64 t.g, sv]] w fun e w' => ∃ sv', e = .returned (.tuple #[.agg #[.int .i64 (expdT t).1.op, .int .u64 (wd (expdT t).1.st 0 64 : Nat), .int .u64 (wd (expdT t).1.st 64 64 : Nat), .int .u64 (wd (expdT t).1.st 128 64 : Nat), .int .u64 (wd (expdT t).1.st 192 64 : Nat), .int .i64 (expdT t).1.lo, .int .i64 (expdT t).1.hi, .int .i64 (expdT t).1.g, sv'], .int .i64 (expdT t).2]) ∧ SV w' (Frm w.heap.size) (expdT t).1.args sv' ∧ Below w.heap.size w w' := by
  obtain ⟨ad, cap, rfl⟩ := h.form
  have hb : Below w.heap.size w ((w.alloc (.cells #[.int .i64 t.op, .int .u64 (wd t.st 0 64 : Nat), .int .u64 (wd t.st 64 64 : Nat), .int .u64 (wd t.st 128 64 : Nat), .int .u64 (wd t.st 192 64 : Nat), .int .i64 t.lo, .int .i64 t.hi, .int .i64 t.g, .slice ad t.args.len cap] 34)).alloc (.cells #[.int .i64 0, .int .u64 0, .int .u64 0, .int .u64 0, .int .u64 0, .int .i64 0, .int .i64 0, .int .i64 0, .slice none 0 0] 34)) := ((Below.refl _ _).alloc (Nat.le_refl _) _).alloc (by simp) _
  have he : ((w.alloc (.cells #[.int .i64 t.op, .int .u64 (wd t.st 0 64 : Nat), .int .u64 (wd t.st 64 64 : Nat), .int .u64 (wd t.st 128 64 : Nat), .int .u64 (wd t.st 192 64 : Nat), .int .i64 t.lo, .int .i64 t.hi, .int .i64 t.g, .slice ad t.args.len cap] 34)).alloc (.cells #[.int .i64 0, .int .u64 0, .int .u64 0, .int .u64 0, .int .u64 0, .int .i64 0, .int .i64 0, .int .i64 0, .slice none 0 0] 34)).heap[w.heap.size]? = some (.cells #[.int .i64 t.op, .int .u64 (wd t.st 0 64 : Nat), .int .u64 (wd t.st 64 64 : Nat), .int .u64 (wd t.st 128 64 : Nat), .int .u64 (wd t.st 192 64 : Nat), .int .i64 t.lo, .int .i64 t.hi, .int .i64 t.g, .slice ad t.args.len cap] 34 (0, 0)) := by
    rw [Below.heap_alloc _ _ _ (by simp)]
    exact heap_alloc_new w _
  have hr : ((w.alloc (.cells #[.int .i64 t.op, .int .u64 (wd t.st 0 64 : Nat), .int .u64 (wd t.st 64 64 : Nat), .int .u64 (wd t.st 128 64 : Nat), .int .u64 (wd t.st 192 64 : Nat), .int .i64 t.lo, .int .i64 t.hi, .int .i64 t.g, .slice ad t.args.len cap] 34)).alloc (.cells #[.int .i64 0, .int .u64 0, .int .u64 0, .int .u64 0, .int .u64 0, .int .i64 0, .int .i64 0, .int .i64 0, .slice none 0 0] 34)).heap[w.heap.size + 1]? = some (.cells #[.int .i64 0, .int .u64 0, .int .u64 0, .int .u64 0, .int .u64 0, .int .i64 0, .int .i64 0, .int .i64 0, .slice none 0 0] 34 (0, 0)) := by
    have := heap_alloc_new (w.alloc (.cells #[.int .i64 t.op, .int .u64 (wd t.st 0 64 : Nat), .int .u64 (wd t.st 64 64 : Nat), .int .u64 (wd t.st 128 64 : Nat), .int .u64 (wd t.st 192 64 : Nat), .int .i64 t.lo, .int .i64 t.hi, .int .i64 t.g, .slice ad t.args.len cap] 34)) (.cells #[.int .i64 0, .int .u64 0, .int .u64 0, .int .u64 0, .int .u64 0, .int .i64 0, .int .i64 0, .int .i64 0, .slice none 0 0] 34)
    simpa using this
  have HT := Lib.hid (h.below hb)
  have HC := Lib.hid (check_ti (h.below hb))
  have HB := Lib.hid hb
  have HE := Lib.hid he
  have HR := Lib.hid hr
  have hl : w.heap.size + 1 < ((w.alloc (.cells #[.int .i64 t.op, .int .u64 (wd t.st 0 64 : Nat), .int .u64 (wd t.st 64 64 : Nat), .int .u64 (wd t.st 128 64 : Nat), .int .u64 (wd t.st 192 64 : Nat), .int .i64 t.lo, .int .i64 t.hi, .int .i64 t.g, .slice ad t.args.len cap] 34)).alloc (.cells #[.int .i64 0, .int .u64 0, .int .u64 0, .int .u64 0, .int .u64 0, .int .i64 0, .int .i64 0, .int .i64 0, .slice none 0 0] 34)).heap.size := by simp
  have HL := Lib.hid hl
  clear h hb he hr hl
  unfold expdT
  by_cases hc : checkT t = 0
  case neg =>
    have hc2 : (checkT t == 0) = false := by simpa using hc
    rw [if_neg hc]
    clear HT
    go_enter Tryd.func29, Tryd.ntmps29
    go_wp2_with (first
      | (go_at_call 27; (with_reducible refine HC.out.mono ?_); rintro e w1 ⟨rfl, hb⟩; have HB1 := Lib.hid (HB.out.trans (hb.mono HB.out.size)); have HR1 := Lib.hid ((hb.block (w.heap.size + 1) HL.out).trans HR.out); clear hb)
      | (refine wpList_store_row rfl 34 (.tmp 2) (.tmp 9) rfl (w.heap.size + 1) #[.int .i64 0, .int .u64 0, .int .u64 0, .int .u64 0, .int .u64 0, .int .i64 0, .int .i64 0, .int .i64 0, .slice none 0 0] rfl rfl 34 _ HR1.out isz_re rfl (by simp [Value.oneCell']) ?_))
    refine bodyPost_ret (v := .tuple #[.agg #[.int .i64 0, .int .u64 0, .int .u64 0, .int .u64 0, .int .u64 0, .int .i64 0, .int .i64 0, .int .i64 0, .slice none 0 0], .int .i64 (checkT t)]) (results_re2 rfl _ _ (w.heap.size + 1) _ #[.int .i64 0, .int .u64 0, .int .u64 0, .int .u64 0, .int .u64 0, .int .i64 0, .int .i64 0, .int .i64 0, .slice none 0 0] (0, 0) (.int .i64 (checkT t)) rfl rfl (setRow_heap w1 _ _ _ _ _ HR1.out) isz_re) rfl ?_
    refine ⟨.slice none 0 0, ?_, .nil _ _, below_setRow HB1.out (by omega) _⟩
    simp only [T0, wd_noSet.1, wd_noSet.2.1, wd_noSet.2.2.1, wd_noSet.2.2.2]
    rfl
  case pos =>
    have hv : Valid t := (checkT_iff t).1 hc
    have hp := preN_of (I := EOk) (R := exsT) exsT_ok t hv
    have HOk := Lib.hid (okE_valid hv)
    have HV : Hid (∀ W, TI W t (.slice ad t.args.len cap) → Calls Tryd.prog 38 #[.agg #[.int .i64 t.op, .int .u64 (wd t.st 0 64 : Nat), .int .u64 (wd t.st 64 64 : Nat), .int .u64 (wd t.st 128 64 : Nat), .int .u64 (wd t.st 192 64 : Nat), .int .i64 t.lo, .int .i64 t.hi, .int .i64 t.g, .slice ad t.args.len cap], .func (.func 39) #[] #[]] W fun e w' => e = .returned (.int .i64 (valT exsT t)) ∧ Below W.heap.size W w') := Lib.hid (fun W hW => by
      obtain ⟨S, k1, k2, _⟩ := hW
      exact valueof_i EOk exsT (Lib.hid rule_i) t _ W S k1 k2 hp.1)
    have HX : Hid (∀ W, TI W t (.slice ad t.args.len cap) → Calls Tryd.prog 40 #[.agg #[.int .i64 t.op, .int .u64 (wd t.st 0 64 : Nat), .int .u64 (wd t.st 64 64 : Nat), .int .u64 (wd t.st 128 64 : Nat), .int .u64 (wd t.st 192 64 : Nat), .int .i64 t.lo, .int .i64 t.hi, .int .i64 t.g, .slice ad t.args.len cap]] W fun e w' => ∃ sv', e = .returned (.agg #[.int .i64 (expT t).op, .int .u64 (wd (expT t).st 0 64 : Nat), .int .u64 (wd (expT t).st 64 64 : Nat), .int .u64 (wd (expT t).st 128 64 : Nat), .int .u64 (wd (expT t).st 192 64 : Nat), .int .i64 (expT t).lo, .int .i64 (expT t).hi, .int .i64 (expT t).g, sv']) ∧ SV w' (Frm W.heap.size) (expT t).args sv' ∧ Below W.heap.size W w') := Lib.hid (fun W hW => by
      obtain ⟨S, k1, k2, _⟩ := hW
      exact expg_any t.args t.op t.lo t.hi t.g t.st _ W S k1 k2 HOk.out)
    clear hv hp HOk
    rw [hc] at HC
    rw [if_pos hc]
    clear hc
    generalize valT exsT t = Y at *
    generalize expT t = Z at *
    by_cases hy : 4096 < Y
    · rw [if_pos hy]
      clear HX
      go_enter Tryd.func29, Tryd.ntmps29
      go_wp2_with (first
      | (go_at_call 27; (with_reducible refine HC.out.mono ?_); rintro e w1 ⟨rfl, hb⟩
         have HB1 := Lib.hid (HB.out.trans (hb.mono HB.out.size))
         have HT1 := Lib.hid (HT.out.below hb)
         have hn := nine ((hb.block w.heap.size (by have := HL.out; omega)).trans HE.out)
         obtain ⟨⟨⟨a0, a1, a2⟩, a3, a4, a5⟩, a6, a7, a8⟩ := hn
         have hl1 : w.heap.size < w1.heap.size := by have := hb.size; have := HL.out; omega
         have HR1 := Lib.hid ((hb.block (w.heap.size + 1) HL.out).trans HR.out)
         clear hb)
      | (go_at_call 38; (with_reducible refine (HV.out _ HT1.out).mono ?_); rintro e w2 ⟨rfl, hb⟩
         have HB2 := Lib.hid (HB1.out.trans (hb.mono HB1.out.size))
         have HR2 := Lib.hid ((hb.block (w.heap.size + 1) (Array.getElem?_eq_some_iff.1 HR1.out).1).trans HR1.out)
         clear hb a0 a1 a2 a3 a4 a5 a6 a7 a8 hl1)
      | (refine wpList_store_row rfl 34 (.tmp 2) (.tmp 14) rfl (w.heap.size + 1) #[.int .i64 0, .int .u64 0, .int .u64 0, .int .u64 0, .int .u64 0, .int .i64 0, .int .i64 0, .int .i64 0, .slice none 0 0] rfl rfl 34 _ HR2.out isz_re rfl (by simp [Value.oneCell']) ?_))
      refine bodyPost_ret (v := .tuple #[.agg #[.int .i64 0, .int .u64 0, .int .u64 0, .int .u64 0, .int .u64 0, .int .i64 0, .int .i64 0, .int .i64 0, .slice none 0 0], .int .i64 3]) (results_re2 rfl _ _ (w.heap.size + 1) _ #[.int .i64 0, .int .u64 0, .int .u64 0, .int .u64 0, .int .u64 0, .int .i64 0, .int .i64 0, .int .i64 0, .slice none 0 0] (0, 0) (.int .i64 3) rfl rfl (setRow_heap w2 _ _ _ _ _ HR2.out) isz_re) rfl ?_
      refine ⟨.slice none 0 0, ?_, .nil _ _, below_setRow HB2.out (by omega) _⟩
      simp only [T0, wd_noSet.1, wd_noSet.2.1, wd_noSet.2.2.1, wd_noSet.2.2.2]
      rfl
    · rw [if_neg hy]
      go_enter Tryd.func29, Tryd.ntmps29
      go_wp2_with (first
      | (go_at_call 27; (with_reducible refine HC.out.mono ?_); rintro e w1 ⟨rfl, hb⟩
         have HB1 := Lib.hid (HB.out.trans (hb.mono HB.out.size))
         have HT1 := Lib.hid (HT.out.below hb)
         have HE1 := Lib.hid ((hb.block w.heap.size (by have := HL.out; omega)).trans HE.out)
         have hn := nine HE1.out
         obtain ⟨⟨⟨a0, a1, a2⟩, a3, a4, a5⟩, a6, a7, a8⟩ := hn
         have hl1 : w.heap.size < w1.heap.size := by have := hb.size; have := HL.out; omega
         have HR1 := Lib.hid ((hb.block (w.heap.size + 1) HL.out).trans HR.out)
         clear hb)
      | (go_at_call 38; (with_reducible refine (HV.out _ HT1.out).mono ?_); rintro e w2 ⟨rfl, hb⟩
         have HB2 := Lib.hid (HB1.out.trans (hb.mono HB1.out.size))
         have HT2 := Lib.hid (HT1.out.below hb)
         clear a0 a1 a2 a3 a4 a5 a6 a7 a8
         have HE2 := Lib.hid ((hb.block w.heap.size hl1).trans HE1.out)
         have hn := nine HE2.out
         obtain ⟨⟨⟨a0, a1, a2⟩, a3, a4, a5⟩, a6, a7, a8⟩ := hn
         have hl2 : w.heap.size < w2.heap.size := by have := hb.size; omega
         have HR2 := Lib.hid ((hb.block (w.heap.size + 1) (Array.getElem?_eq_some_iff.1 HR1.out).1).trans HR1.out)
         clear hb hl1)
      | (go_at_call 40; (with_reducible refine (HX.out _ HT2.out).mono ?_); rintro e w3 ⟨sv3, rfl, hsv3, hb⟩
         have HB3 := Lib.hid (HB2.out.trans (hb.mono HB2.out.size))
         have HS3 := Lib.hid hsv3
         have HZ3 := Lib.hid (Nat.lt_of_lt_of_le (Nat.lt_of_lt_of_le HL.out (Nat.le_refl _)) (Nat.le_refl _))
         have HR3 := Lib.hid ((hb.block (w.heap.size + 1) (Array.getElem?_eq_some_iff.1 HR2.out).1).trans HR2.out)
         have HR2s := Lib.hid (Array.getElem?_eq_some_iff.1 HR2.out).1
         clear hb hsv3 a0 a1 a2 a3 a4 a5 a6 a7 a8 hl2)
      | (refine wpList_store_row rfl 34 (.tmp 2) (.tmp 16) rfl (w.heap.size + 1) #[.int .i64 Z.op, .int .u64 (wd Z.st 0 64 : Nat), .int .u64 (wd Z.st 64 64 : Nat), .int .u64 (wd Z.st 128 64 : Nat), .int .u64 (wd Z.st 192 64 : Nat), .int .i64 Z.lo, .int .i64 Z.hi, .int .i64 Z.g, sv3] rfl rfl 34 _ HR3.out isz_re rfl (by obtain ⟨ad4, cap4, rfl⟩ := slice_form HS3.out; simp [Value.oneCell']) ?_))
      refine bodyPost_ret (v := .tuple #[.agg #[.int .i64 Z.op, .int .u64 (wd Z.st 0 64 : Nat), .int .u64 (wd Z.st 64 64 : Nat), .int .u64 (wd Z.st 128 64 : Nat), .int .u64 (wd Z.st 192 64 : Nat), .int .i64 Z.lo, .int .i64 Z.hi, .int .i64 Z.g, sv3], .int .i64 0]) (results_re2 rfl _ _ (w.heap.size + 1) _ #[.int .i64 Z.op, .int .u64 (wd Z.st 0 64 : Nat), .int .u64 (wd Z.st 64 64 : Nat), .int .u64 (wd Z.st 128 64 : Nat), .int .u64 (wd Z.st 192 64 : Nat), .int .i64 Z.lo, .int .i64 Z.hi, .int .i64 Z.g, sv3] (0, 0) (.int .i64 0) rfl rfl (setRow_heap w3 _ _ _ _ _ HR3.out) isz_re) rfl ?_
      have hz2 := HR2s.out
      refine ⟨sv3, rfl, HS3.out.far ⟨by rw [setRow_size]; exact Nat.le_refl _, fun b hb1 _ => ?_⟩, below_setRow HB3.out (by omega) _⟩
      have hb1 : w2.heap.size ≤ b := hb1
      exact ⟨by show w.heap.size ≤ b; omega, setRow_other w3 _ b _ (by omega)⟩
end Go.Proofs.YtbjobbkipmkndaaDoor
