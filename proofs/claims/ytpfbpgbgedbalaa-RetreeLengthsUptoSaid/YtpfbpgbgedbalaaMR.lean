/- Several texts in one (a claim has at most 60 files). -/
import Derived.Test.YtpfbpgbgedbalaaMO
import Derived.Test.YtpfbpgbgedbalaaMA
import Derived.Deep.RegionHeld3
/- RetreeBounds. -/
set_option linter.unusedVariables false
set_option linter.unusedSimpArgs false
set_option maxRecDepth 100000
set_option maxHeartbeats 8000000
namespace Go.Proofs.Ytpfbpgbgedbalaa
open Go.RowKit

theorem len_kn (t : TN) : lenOf t = ((knF t).lo, (knF t).hi) := by
  unfold lenOf knF
  by_cases h : checkT t = 0
  · rw [if_pos h, if_pos h]
    exact (fac_vals t ((checkT_iff t).1 h)).2.1
  · rw [if_neg h, if_neg h]; rfl
theorem fst_kn (t : TN) : fstOf t = ((knF t).st, (knF t).nul) := by
  unfold fstOf knF
  by_cases h : checkT t = 0
  · rw [if_pos h, if_pos h]
    exact (fac_vals t ((checkT_iff t).1 h)).2.2.1
  · rw [if_neg h, if_neg h]; rfl
theorem nul_kn (t : TN) : nulOf t = (knF t).nul := by
  unfold nulOf knF
  by_cases h : checkT t = 0
  · rw [if_pos h, decide_eq_true h, Bool.true_and]
    exact (fac_vals t ((checkT_iff t).1 h)).1
  · rw [if_neg h, decide_eq_false h]; rfl
/-- A tree's cells, and those of two equal sets. -/
abbrev BW (W0 : World) (eb sb tb : Nat) (t : TN) (sv : Value) (p : Nat → Bool) (w : World) : Prop := (((w.cell? ⟨eb, 0, none⟩ = some (.int .i64 t.op) ∧ w.cell? ⟨eb, 1, none⟩ = some (.int .u64 (wd t.st 0 64 : Nat)) ∧ w.cell? ⟨eb, 2, none⟩ = some (.int .u64 (wd t.st 64 64 : Nat))) ∧ (w.cell? ⟨eb, 3, none⟩ = some (.int .u64 (wd t.st 128 64 : Nat)) ∧ w.cell? ⟨eb, 4, none⟩ = some (.int .u64 (wd t.st 192 64 : Nat)) ∧ w.cell? ⟨eb, 5, none⟩ = some (.int .i64 t.lo))) ∧ (w.cell? ⟨eb, 6, none⟩ = some (.int .i64 t.hi) ∧ w.cell? ⟨eb, 7, none⟩ = some (.int .i64 t.g) ∧ w.cell? ⟨eb, 8, none⟩ = some (sv))) ∧ ((w.cell? ⟨sb, 0, none⟩ = some (.int .u64 (wd p 0 64 : Nat)) ∧ w.cell? ⟨sb, 1, none⟩ = some (.int .u64 (wd p 64 64 : Nat)) ∧ w.cell? ⟨sb, 2, none⟩ = some (.int .u64 (wd p 128 64 : Nat)) ∧ w.cell? ⟨sb, 3, none⟩ = some (.int .u64 (wd p 192 64 : Nat))) ∧ (w.cell? ⟨tb, 0, none⟩ = some (.int .u64 (wd p 0 64 : Nat)) ∧ w.cell? ⟨tb, 1, none⟩ = some (.int .u64 (wd p 64 64 : Nat)) ∧ w.cell? ⟨tb, 2, none⟩ = some (.int .u64 (wd p 128 64 : Nat)) ∧ w.cell? ⟨tb, 3, none⟩ = some (.int .u64 (wd p 192 64 : Nat)))) ∧ Below W0.heap.size W0 w
theorem BW.keep {W0 w w' : World} {eb sb tb : Nat} {t : TN} {sv : Value} {p : Nat → Bool} (hb : Below w.heap.size w w') (h : BW W0 eb sb tb t sv p w) : BW W0 eb sb tb t sv p w' := by
  have hc : ∀ {a : Addr} {v : Value}, w.cell? a = some v → w'.cell? a = some v := fun {a v} h => keep_cell hb h
  exact ⟨⟨⟨⟨hc h.1.1.1.1, hc h.1.1.1.2.1, hc h.1.1.1.2.2⟩, hc h.1.1.2.1, hc h.1.1.2.2.1, hc h.1.1.2.2.2⟩, hc h.1.2.1, hc h.1.2.2.1, hc h.1.2.2.2⟩, ⟨⟨hc h.2.1.1.1, hc h.2.1.1.2.1, hc h.2.1.1.2.2.1, hc h.2.1.1.2.2.2⟩, hc h.2.1.2.1, hc h.2.1.2.2.1, hc h.2.1.2.2.2.1, hc h.2.1.2.2.2.2⟩, h.2.2.trans (hb.mono h.2.2.size)⟩
theorem BW.bel {W0 w : World} {eb sb tb : Nat} {t : TN} {sv : Value} {p : Nat → Bool} (h : BW W0 eb sb tb t sv p w) : Below W0.heap.size W0 w := h.2.2
theorem bounds_law (t : TN) (sv : Value) (w : World) (h : TI w t sv) (hz : szF t.f ≤ 1048576) :
    Calls Try.prog 3 #[.agg #[.int .i64 t.op, .int .u64 (wd t.st 0 64 : Nat), .int .u64 (wd t.st 64 64 : Nat), .int .u64 (wd t.st 128 64 : Nat), .int .u64 (wd t.st 192 64 : Nat), .int .i64 t.lo, .int .i64 t.hi, .int .i64 t.g, sv]] w fun e w' => e = .returned (.bool true) ∧ Below w.heap.size w w' := by
  obtain ⟨ad, cap, rfl⟩ := h.form
  have HLp := Lib.hid (fun W (hb : Below w.heap.size w W) => length_ti (h.below hb))
  have HLr := Lib.hid (fun W (hb : Below w.heap.size w W) => rlength_ti (h.below hb) hz)
  have HFp := Lib.hid (fun W (hb : Below w.heap.size w W) => first_ti (h.below hb))
  have HFr := Lib.hid (fun W (hb : Below w.heap.size w W) => rfirst_ti (h.below hb) hz)
  have HNp := Lib.hid (fun W (hb : Below w.heap.size w W) => nullable_ti (h.below hb))
  have HNr := Lib.hid (fun W (hb : Below w.heap.size w W) => rnullable_ti (h.below hb) hz)
  have HA := Lib.hid aw08
  rw [len_kn] at HLp
  rw [fst_kn] at HFp
  rw [nul_kn] at HNp
  generalize knF t = Y at *
  obtain ⟨yb, yl, yh, p⟩ := Y
  have HCl : Hid (cl p = #[.int .u64 (wd p 0 64 : Nat), .int .u64 (wd p 64 64 : Nat), .int .u64 (wd p 128 64 : Nat), .int .u64 (wd p 192 64 : Nat)]) := Lib.hid rfl
  simp only at HLp HLr HFp HFr HNp HNr
  rw [HCl.out] at HFp HFr
  obtain ⟨W2, hW2⟩ : ∃ W2, W2 = w.alloc (.cells #[.int .i64 t.op, .int .u64 (wd t.st 0 64 : Nat), .int .u64 (wd t.st 64 64 : Nat), .int .u64 (wd t.st 128 64 : Nat), .int .u64 (wd t.st 192 64 : Nat), .int .i64 t.lo, .int .i64 t.hi, .int .i64 t.g, .slice ad t.args.len cap] 28) := ⟨_, rfl⟩
  have hx : Below w.heap.size w W2 := by rw [hW2]; exact (Below.refl _ _).alloc (Nat.le_refl _) _
  have hz2 : W2.heap.size = w.heap.size + 1 := by rw [hW2]; simp
  have hg0 : W2.heap[w.heap.size]? = some (.cells #[.int .i64 t.op, .int .u64 (wd t.st 0 64 : Nat), .int .u64 (wd t.st 64 64 : Nat), .int .u64 (wd t.st 128 64 : Nat), .int .u64 (wd t.st 192 64 : Nat), .int .i64 t.lo, .int .i64 t.hi, .int .i64 t.g, .slice ad t.args.len cap] 28 (0, 0)) := by
    rw [hW2]
    exact heap_alloc_new w _
  have HX := Lib.hid hx
  have HZ := Lib.hid hz2
  have HW2 := Lib.hid hW2
  have CF : Hid (∀ W, Below W2.heap.size W2 W → W.heap[w.heap.size]? = some (.cells #[.int .i64 t.op, .int .u64 (wd t.st 0 64 : Nat), .int .u64 (wd t.st 64 64 : Nat), .int .u64 (wd t.st 128 64 : Nat), .int .u64 (wd t.st 192 64 : Nat), .int .i64 t.lo, .int .i64 t.hi, .int .i64 t.g, .slice ad t.args.len cap] 28 (0, 0))) := Lib.hid fun W hb => (hb.block _ (by omega)).trans hg0
  have HB0 := Lib.hid (Below.refl W2.heap.size W2)
  obtain ⟨⟨⟨a0, a1, a2⟩, a3, a4, a5⟩, a6, a7, a8⟩ := nine hg0
  clear h hz hx hz2 hg0 hW2
  go_enter Try.func3, Try.ntmps3
  go_upto_region 4 with (first
    | (go_at_call 7; rw [← HW2.out]; (with_reducible refine (HLp.out _ HX.out).mono ?_); rintro e w1 ⟨rfl, hb⟩
       have HB1 := Lib.hid (HB0.out.trans (hb.mono HB0.out.size))
       clear a0 a1 a2 a3 a4 a5 a6 a7 a8 hb
       obtain ⟨⟨⟨a0, a1, a2⟩, a3, a4, a5⟩, a6, a7, a8⟩ := nine (CF.out _ HB1.out))
    | (go_at_call 8; (with_reducible refine (HLr.out _ (HX.out.trans (HB1.out.mono HX.out.size))).mono ?_); rintro e w2 ⟨rfl, hb⟩
       have HB2 := Lib.hid (HB1.out.trans (hb.mono HB1.out.size))
       clear a0 a1 a2 a3 a4 a5 a6 a7 a8 hb
       obtain ⟨⟨⟨a0, a1, a2⟩, a3, a4, a5⟩, a6, a7, a8⟩ := nine (CF.out _ HB2.out))
    | (go_at_call 9; (with_reducible refine (HFp.out _ (HX.out.trans (HB2.out.mono HX.out.size))).mono ?_); rintro e w3 ⟨rfl, hb⟩
       have HB3 := Lib.hid (HB2.out.trans (hb.mono HB2.out.size))
       clear a0 a1 a2 a3 a4 a5 a6 a7 a8 hb
       obtain ⟨⟨⟨a0, a1, a2⟩, a3, a4, a5⟩, a6, a7, a8⟩ := nine (CF.out _ HB3.out)))
  have hs := heap_alloc_new w3 (.cells #[.int .u64 (wd p 0 64 : Nat), .int .u64 (wd p 64 64 : Nat), .int .u64 (wd p 128 64 : Nat), .int .u64 (wd p 192 64 : Nat)] 25)
  have hbs : Below w3.heap.size w3 (w3.alloc (.cells #[.int .u64 (wd p 0 64 : Nat), .int .u64 (wd p 64 64 : Nat), .int .u64 (wd p 128 64 : Nat), .int .u64 (wd p 192 64 : Nat)] 25)) := (Below.refl _ _).alloc (Nat.le_refl _) _
  have HB4 := Lib.hid (HB3.out.trans (hbs.mono HB3.out.size))
  have HS := Lib.hid hs
  clear a0 a1 a2 a3 a4 a5 a6 a7 a8 hs hbs
  generalize w3.alloc (.cells #[.int .u64 (wd p 0 64 : Nat), .int .u64 (wd p 64 64 : Nat), .int .u64 (wd p 128 64 : Nat), .int .u64 (wd p 192 64 : Nat)] 25) = w4 at *
  obtain ⟨⟨⟨a0, a1, a2⟩, a3, a4, a5⟩, a6, a7, a8⟩ := nine (CF.out _ HB4.out)
  go_upto_region 5 with (first
    | (go_at_call 10; (with_reducible refine (HFr.out _ (HX.out.trans (HB4.out.mono HX.out.size))).mono ?_); rintro e w5 ⟨rfl, hb⟩
       have HB5 := Lib.hid (HB4.out.trans (hb.mono HB4.out.size))
       have HS5 := Lib.hid ((hb.block w3.heap.size (Array.getElem?_eq_some_iff.1 HS.out).1).trans HS.out)
       clear a0 a1 a2 a3 a4 a5 a6 a7 a8 hb
       obtain ⟨⟨⟨a0, a1, a2⟩, a3, a4, a5⟩, a6, a7, a8⟩ := nine (CF.out _ HB5.out)))
  have hs := heap_alloc_new w5 (.cells #[.int .u64 (wd p 0 64 : Nat), .int .u64 (wd p 64 64 : Nat), .int .u64 (wd p 128 64 : Nat), .int .u64 (wd p 192 64 : Nat)] 25)
  have hbs : Below w5.heap.size w5 (w5.alloc (.cells #[.int .u64 (wd p 0 64 : Nat), .int .u64 (wd p 64 64 : Nat), .int .u64 (wd p 128 64 : Nat), .int .u64 (wd p 192 64 : Nat)] 25)) := (Below.refl _ _).alloc (Nat.le_refl _) _
  have HB6 := Lib.hid (HB5.out.trans (hbs.mono HB5.out.size))
  have hs6 := (hbs.block w3.heap.size (Array.getElem?_eq_some_iff.1 HS5.out).1).trans HS5.out
  clear a0 a1 a2 a3 a4 a5 a6 a7 a8 hbs HS HS5
  generalize w5.alloc (.cells #[.int .u64 (wd p 0 64 : Nat), .int .u64 (wd p 64 64 : Nat), .int .u64 (wd p 128 64 : Nat), .int .u64 (wd p 192 64 : Nat)] 25) = U at *
  generalize w3.heap.size = sb at *
  generalize w5.heap.size = tb at *
  have hA : BW U w.heap.size sb tb t (.slice ad t.args.len cap) p U := ⟨nine (CF.out _ HB6.out), ⟨⟨cell_of_row U sb 0 _ _ _ hs6, cell_of_row U sb 1 _ _ _ hs6, cell_of_row U sb 2 _ _ _ hs6, cell_of_row U sb 3 _ _ _ hs6⟩, cell_of_row U tb 0 _ _ _ hs, cell_of_row U tb 1 _ _ _ hs, cell_of_row U tb 2 _ _ _ hs, cell_of_row U tb 3 _ _ _ hs⟩, Below.refl _ _⟩
  have HAw := Lib.hid hA
  have H6 := Lib.hid (HX.out.trans (HB6.out.mono HX.out.size))
  clear hs hs6 hA HLp HLr HFp HFr CF
  have hcmp : ∀ w, (binOp .eql 25 (.agg #[.int .u64 (wd p 0 64 : Nat), .int .u64 (wd p 64 64 : Nat), .int .u64 (wd p 128 64 : Nat), .int .u64 (wd p 192 64 : Nat)]) (.agg #[.int .u64 (wd p 0 64 : Nat), .int .u64 (wd p 64 64 : Nat), .int .u64 (wd p 128 64 : Nat), .int .u64 (wd p 192 64 : Nat)])).run Try.prog w = .ok (.bool true) w := fun w => by
    have := eql_cs p p w
    rw [eqc_self] at this
    exact this
  go_region_held3 (fun w' => BW U w.heap.size sb tb t (.slice ad t.args.len cap) p w')
    (first | exact BW.keep (Below.drew (Below.refl _ _)) HAw.out | exact BW.keep hb ‹_›)
    (first
      | (go_at_call 11; (with_reducible refine (HNp.out _ (H6.out.trans ((BW.bel (by assumption)).mono H6.out.size))).mono ?_); rintro e u4 ⟨rfl, hb⟩; skip)
      | (go_at_call 12; (with_reducible refine (HNr.out _ (H6.out.trans ((BW.bel (by assumption)).mono H6.out.size))).mono ?_); rintro e u5 ⟨rfl, hb⟩; skip)
      | (go_at_call 13; (with_reducible refine (HA.out _).mono ?_); rintro e u6 ⟨rfl, hb⟩; skip))
  rename_i hS0
  clear hcmp
  go_wp2_with fail
  go_ret
  exact ⟨rfl, H6.out.trans ((BW.bel hS0).mono H6.out.size)⟩
end Go.Proofs.Ytpfbpgbgedbalaa
