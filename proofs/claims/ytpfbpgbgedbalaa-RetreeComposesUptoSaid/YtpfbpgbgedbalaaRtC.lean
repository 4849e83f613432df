/- Check, Size, Groups, Back. -/
import Derived.Test.YtpfbpgbgedbalaaRtWA
set_option linter.unusedVariables false
set_option linter.unusedSimpArgs false
set_option maxRecDepth 100000
set_option maxHeartbeats 8000000
namespace Go.Proofs.Ytpfbpgbgedbalaa
open Go.RowKit

theorem below_setRow {B g : Nat} {a w : World} (h : Below B a w) (hg : B ≤ g) (c : Array Value) : Below B a (w.setRow g c) :=
  ⟨h.os, h.tape, h.output, by rw [setRow_size]; exact h.size, fun k hk => (setRow_other w g k c (by omega)).trans (h.block k hk)⟩
theorem info_sv : (Try.prog.info? 76).map (·.size) = some 8 := by kernel_rfl
theorem survey_any (t : TN) (sv : Value) (w : World) (S : Nat → Prop) (hsv : SV w S t.args sv) (hS : ∀ b, S b → b < w.heap.size) (hlen : t.args.len ≤ maxLen) (hfit : t.args.fits) (hg1 : -9223372036854775808 ≤ t.g) (hg2 : t.g ≤ 9223372036854775807) :
    Calls Try.prog 43 #[.agg #[.int .i64 t.op, .int .u64 (wd t.st 0 64 : Nat), .int .u64 (wd t.st 64 64 : Nat), .int .u64 (wd t.st 128 64 : Nat), .int .u64 (wd t.st 192 64 : Nat), .int .i64 t.lo, .int .i64 t.hi, .int .i64 t.g, sv]] w fun e w' => (∃ ad cap, e = .returned (.agg (scells (survT t) (.slice ad (survT t).cl.length cap)))) ∧ Below w.heap.size w w' := by
  obtain ⟨ad, cap, rfl⟩ := slice_form hsv
  have HWk : Hid (∀ W B, SV W S t.args (.slice ad t.args.len cap) → (∀ b, S b → b < B) → SM W B SQ0 → Calls Try.prog 72 #[.pointer (some ⟨B, 0, none⟩), .agg #[.int .i64 t.op, .int .u64 (wd t.st 0 64 : Nat), .int .u64 (wd t.st 64 64 : Nat), .int .u64 (wd t.st 128 64 : Nat), .int .u64 (wd t.st 192 64 : Nat), .int .i64 t.lo, .int .i64 t.hi, .int .i64 t.g, .slice ad t.args.len cap], .int .i64 1] W fun e w' => e = .returned (.tuple #[]) ∧ SM w' B (survT t) ∧ Below B W w') := Lib.hid (fun W B h1 h2 h3 => walk_any t.args t.op t.lo t.hi t.g t.st _ W S B SQ0 1 h1 h2 h3 ⟨by decide, by decide, by decide⟩ (by decide) hlen hfit hg1 hg2)
  obtain ⟨W1, hW1⟩ : ∃ W1, W1 = (w.alloc (.cells #[.int .i64 t.op, .int .u64 (wd t.st 0 64 : Nat), .int .u64 (wd t.st 64 64 : Nat), .int .u64 (wd t.st 128 64 : Nat), .int .u64 (wd t.st 192 64 : Nat), .int .i64 t.lo, .int .i64 t.hi, .int .i64 t.g, .slice ad t.args.len cap] 28)).alloc (.cells #[.int .i64 0, .int .i64 0, .bool false, .slice none 0 0, .bool false, .bool false, .bool false, .bool false] 76) := ⟨_, rfl⟩
  have hz1 : W1.heap.size = w.heap.size + 2 := by rw [hW1]; simp
  have hx1 : Below w.heap.size w W1 := by rw [hW1]; exact ((Below.refl _ _).alloc (Nat.le_refl _) _).alloc (by simp) _
  obtain ⟨W2, hW2⟩ : ∃ W2, W2 = W1.alloc (.cells #[.int .i64 0, .int .i64 0, .bool false, .slice none 0 0, .bool false, .bool false, .bool false, .bool false] 76) := ⟨_, rfl⟩
  have hx2 : Below w.heap.size w W2 := by rw [hW2]; exact hx1.alloc (by omega) _
  have hA2 : SA W2 (w.heap.size + 1 + 1) SQ0 (.slice none 0 0) := by rw [hW2, show w.heap.size + 1 + 1 = W1.heap.size by omega]; exact heap_alloc_new W1 _
  have hSM : SM W2 (w.heap.size + 1 + 1) SQ0 := ⟨_, hA2, ⟨rfl, .inl ⟨rfl, rfl⟩⟩⟩
  have hR1 : W2.heap[w.heap.size + 1]? = some (.cells #[.int .i64 0, .int .i64 0, .bool false, .slice none 0 0, .bool false, .bool false, .bool false, .bool false] 76 (0, 0)) := by
    rw [hW2, Below.heap_alloc _ _ _ (by omega), hW1]
    have := heap_alloc_new (w.alloc (.cells #[.int .i64 t.op, .int .u64 (wd t.st 0 64 : Nat), .int .u64 (wd t.st 64 64 : Nat), .int .u64 (wd t.st 128 64 : Nat), .int .u64 (wd t.st 192 64 : Nat), .int .i64 t.lo, .int .i64 t.hi, .int .i64 t.g, .slice ad t.args.len cap] 28)) (.cells #[.int .i64 0, .int .i64 0, .bool false, .slice none 0 0, .bool false, .bool false, .bool false, .bool false] 76)
    simpa using this
  have HSV := Lib.hid (hsv.far (Afar.below hx2))
  have HSB := Lib.hid (show ∀ b, S b → b < w.heap.size + 1 + 1 from fun b h => by have := hS b h; omega)
  have HSM := Lib.hid hSM
  have HR1 := Lib.hid hR1
  have HX2 := Lib.hid hx2
  rw [hW1] at hW2
  have HW2 := Lib.hid hW2
  clear hsv hS hlen hfit hz1 hx1 hx2 hA2 hSM hR1 hW1 hW2 W1
  go_enter Try.func43, Try.ntmps43
  go_upto_region 3 with (first
    | (go_at_call 72; rw [← HW2.out]; (with_reducible refine (HWk.out _ (w.heap.size + 1 + 1) HSV.out HSB.out HSM.out).mono ?_); rintro e w1 ⟨rfl, hs, hb⟩; have HS1 := Lib.hid hs; have HB1 := Lib.hid hb; clear hs hb)
    )
  obtain ⟨sv1, hA1, hO1⟩ := HS1.out
  obtain ⟨ad1, cap1, rfl⟩ := own_sl hO1
  have hR := (HB1.out.block (w.heap.size + 1) (by omega)).trans HR1.out
  have HRR := Lib.hid hR
  have HX := Lib.hid (HX2.out.trans (HB1.out.mono (by omega)))
  have HA1 := Lib.hid hA1
  clear hA1 hO1 hR
  go_wp2_with (first
    | (refine wpList_load_row rfl 76 _ rfl (w.heap.size + 1 + 1) rfl 76 (scells (survT t) (.slice ad1 (survT t).cl.length cap1)) (0, 0) _ HA1.out Try.underlying76 rfl info_sv ?_)
    | (refine wpList_store_row rfl 76 (.tmp 2) (.tmp 6) rfl (w.heap.size + 1) (scells (survT t) (.slice ad1 (survT t).cl.length cap1)) rfl rfl 76 _ HRR.out info_sv rfl (by simp [scells, Value.oneCell']) ?_))
  refine bodyPost_ret (v := .agg (scells (survT t) (.slice ad1 (survT t).cl.length cap1))) (results_cell_row rfl _ _ (w.heap.size + 1) _ (scells (survT t) (.slice ad1 (survT t).cl.length cap1)) (0, 0) _ rfl (setRow_heap w1 _ _ _ _ _ HRR.out) Try.underlying76 rfl info_sv) rfl ?_
  exact ⟨⟨ad1, cap1, rfl⟩, below_setRow HX.out (by omega) _⟩
theorem fv0 (a b c d e f g h : Value) (w : World) : (Instr.field 76 (.agg #[a, b, c, d, e, f, g, h]) 0).run Try.prog w = .ok a w := by kernel_rfl
theorem fv2 (a b c d e f g h : Value) (w : World) : (Instr.field 76 (.agg #[a, b, c, d, e, f, g, h]) 2).run Try.prog w = .ok c w := by kernel_rfl
theorem fv3 (a b c d e f g h : Value) (w : World) : (Instr.field 76 (.agg #[a, b, c, d, e, f, g, h]) 3).run Try.prog w = .ok d w := by kernel_rfl
theorem size_any (t : TN) (sv : Value) (w : World) (S : Nat → Prop) (hsv : SV w S t.args sv) (hS : ∀ b, S b → b < w.heap.size) (hlen : t.args.len ≤ maxLen) (hfit : t.args.fits) (hg1 : -9223372036854775808 ≤ t.g) (hg2 : t.g ≤ 9223372036854775807) :
    Calls Try.prog 24 #[.agg #[.int .i64 t.op, .int .u64 (wd t.st 0 64 : Nat), .int .u64 (wd t.st 64 64 : Nat), .int .u64 (wd t.st 128 64 : Nat), .int .u64 (wd t.st 192 64 : Nat), .int .i64 t.lo, .int .i64 t.hi, .int .i64 t.g, sv]] w fun e w' => e = .returned (.int .i64 ((survT t).n : Int)) ∧ Below w.heap.size w w' := by
  obtain ⟨ad, cap, rfl⟩ := slice_form hsv
  have hb0 : Below w.heap.size w (w.alloc (.cells #[.int .i64 t.op, .int .u64 (wd t.st 0 64 : Nat), .int .u64 (wd t.st 64 64 : Nat), .int .u64 (wd t.st 128 64 : Nat), .int .u64 (wd t.st 192 64 : Nat), .int .i64 t.lo, .int .i64 t.hi, .int .i64 t.g, .slice ad t.args.len cap] 28)) := (Below.refl _ _).alloc (Nat.le_refl _) _
  have HSu : Hid (Calls Try.prog 43 #[.agg #[.int .i64 t.op, .int .u64 (wd t.st 0 64 : Nat), .int .u64 (wd t.st 64 64 : Nat), .int .u64 (wd t.st 128 64 : Nat), .int .u64 (wd t.st 192 64 : Nat), .int .i64 t.lo, .int .i64 t.hi, .int .i64 t.g, .slice ad t.args.len cap]] (w.alloc (.cells #[.int .i64 t.op, .int .u64 (wd t.st 0 64 : Nat), .int .u64 (wd t.st 64 64 : Nat), .int .u64 (wd t.st 128 64 : Nat), .int .u64 (wd t.st 192 64 : Nat), .int .i64 t.lo, .int .i64 t.hi, .int .i64 t.g, .slice ad t.args.len cap] 28)) fun e w' => (∃ ad cap, e = .returned (.agg (scells (survT t) (.slice ad (survT t).cl.length cap)))) ∧ Below w.heap.size w w') := Lib.hid (Calls.mono (survey_any t _ _ S (hsv.far (Afar.below hb0)) (fun b h => by have := hS b h; have := hb0.size; omega) hlen hfit hg1 hg2) fun e w' hh => ⟨hh.1, hb0.trans (hh.2.mono hb0.size)⟩)
  have hok := surv_ok t
  generalize survT t = q at *
  clear hsv hS hlen hfit hb0 hok
  have v0 := fv0
  have v2 := fv2
  have v3 := fv3
  go_enter Try.func24, Try.ntmps24
  go_wp2_with (first
    | (go_at_call 43; (with_reducible refine HSu.out.mono ?_); rintro e w1 ⟨⟨a1, c1, rfl⟩, hb⟩; unfold scells; have HB1 := Lib.hid hb; clear hb)
    )
  go_ret
  exact ⟨rfl, HB1.out⟩
theorem groups_any (t : TN) (sv : Value) (w : World) (S : Nat → Prop) (hsv : SV w S t.args sv) (hS : ∀ b, S b → b < w.heap.size) (hlen : t.args.len ≤ maxLen) (hfit : t.args.fits) (hg1 : -9223372036854775808 ≤ t.g) (hg2 : t.g ≤ 9223372036854775807) :
    Calls Try.prog 15 #[.agg #[.int .i64 t.op, .int .u64 (wd t.st 0 64 : Nat), .int .u64 (wd t.st 64 64 : Nat), .int .u64 (wd t.st 128 64 : Nat), .int .u64 (wd t.st 192 64 : Nat), .int .i64 t.lo, .int .i64 t.hi, .int .i64 t.g, sv]] w fun e w' => e = .returned (.int .i64 ((survT t).cl.length : Int)) ∧ Below w.heap.size w w' := by
  obtain ⟨ad, cap, rfl⟩ := slice_form hsv
  have hb0 : Below w.heap.size w (w.alloc (.cells #[.int .i64 t.op, .int .u64 (wd t.st 0 64 : Nat), .int .u64 (wd t.st 64 64 : Nat), .int .u64 (wd t.st 128 64 : Nat), .int .u64 (wd t.st 192 64 : Nat), .int .i64 t.lo, .int .i64 t.hi, .int .i64 t.g, .slice ad t.args.len cap] 28)) := (Below.refl _ _).alloc (Nat.le_refl _) _
  have HSu : Hid (Calls Try.prog 43 #[.agg #[.int .i64 t.op, .int .u64 (wd t.st 0 64 : Nat), .int .u64 (wd t.st 64 64 : Nat), .int .u64 (wd t.st 128 64 : Nat), .int .u64 (wd t.st 192 64 : Nat), .int .i64 t.lo, .int .i64 t.hi, .int .i64 t.g, .slice ad t.args.len cap]] (w.alloc (.cells #[.int .i64 t.op, .int .u64 (wd t.st 0 64 : Nat), .int .u64 (wd t.st 64 64 : Nat), .int .u64 (wd t.st 128 64 : Nat), .int .u64 (wd t.st 192 64 : Nat), .int .i64 t.lo, .int .i64 t.hi, .int .i64 t.g, .slice ad t.args.len cap] 28)) fun e w' => (∃ ad cap, e = .returned (.agg (scells (survT t) (.slice ad (survT t).cl.length cap)))) ∧ Below w.heap.size w w') := Lib.hid (Calls.mono (survey_any t _ _ S (hsv.far (Afar.below hb0)) (fun b h => by have := hS b h; have := hb0.size; omega) hlen hfit hg1 hg2) fun e w' hh => ⟨hh.1, hb0.trans (hh.2.mono hb0.size)⟩)
  have hok := surv_ok t
  generalize survT t = q at *
  clear hsv hS hlen hfit hb0 hok
  have v0 := fv0
  have v2 := fv2
  have v3 := fv3
  go_enter Try.func15, Try.ntmps15
  go_wp2_with (first
    | (go_at_call 43; (with_reducible refine HSu.out.mono ?_); rintro e w1 ⟨⟨a1, c1, rfl⟩, hb⟩; unfold scells; have HB1 := Lib.hid hb; clear hb)
    )
  go_ret
  exact ⟨rfl, HB1.out⟩
theorem back_any (t : TN) (sv : Value) (w : World) (S : Nat → Prop) (hsv : SV w S t.args sv) (hS : ∀ b, S b → b < w.heap.size) (hlen : t.args.len ≤ maxLen) (hfit : t.args.fits) (hg1 : -9223372036854775808 ≤ t.g) (hg2 : t.g ≤ 9223372036854775807) :
    Calls Try.prog 37 #[.agg #[.int .i64 t.op, .int .u64 (wd t.st 0 64 : Nat), .int .u64 (wd t.st 64 64 : Nat), .int .u64 (wd t.st 128 64 : Nat), .int .u64 (wd t.st 192 64 : Nat), .int .i64 t.lo, .int .i64 t.hi, .int .i64 t.g, sv]] w fun e w' => e = .returned (.bool (survT t).bk) ∧ Below w.heap.size w w' := by
  obtain ⟨ad, cap, rfl⟩ := slice_form hsv
  have hb0 : Below w.heap.size w (w.alloc (.cells #[.int .i64 t.op, .int .u64 (wd t.st 0 64 : Nat), .int .u64 (wd t.st 64 64 : Nat), .int .u64 (wd t.st 128 64 : Nat), .int .u64 (wd t.st 192 64 : Nat), .int .i64 t.lo, .int .i64 t.hi, .int .i64 t.g, .slice ad t.args.len cap] 28)) := (Below.refl _ _).alloc (Nat.le_refl _) _
  have HSu : Hid (Calls Try.prog 43 #[.agg #[.int .i64 t.op, .int .u64 (wd t.st 0 64 : Nat), .int .u64 (wd t.st 64 64 : Nat), .int .u64 (wd t.st 128 64 : Nat), .int .u64 (wd t.st 192 64 : Nat), .int .i64 t.lo, .int .i64 t.hi, .int .i64 t.g, .slice ad t.args.len cap]] (w.alloc (.cells #[.int .i64 t.op, .int .u64 (wd t.st 0 64 : Nat), .int .u64 (wd t.st 64 64 : Nat), .int .u64 (wd t.st 128 64 : Nat), .int .u64 (wd t.st 192 64 : Nat), .int .i64 t.lo, .int .i64 t.hi, .int .i64 t.g, .slice ad t.args.len cap] 28)) fun e w' => (∃ ad cap, e = .returned (.agg (scells (survT t) (.slice ad (survT t).cl.length cap)))) ∧ Below w.heap.size w w') := Lib.hid (Calls.mono (survey_any t _ _ S (hsv.far (Afar.below hb0)) (fun b h => by have := hS b h; have := hb0.size; omega) hlen hfit hg1 hg2) fun e w' hh => ⟨hh.1, hb0.trans (hh.2.mono hb0.size)⟩)
  have hok := surv_ok t
  generalize survT t = q at *
  clear hsv hS hlen hfit hb0 hok
  have v0 := fv0
  have v2 := fv2
  have v3 := fv3
  go_enter Try.func37, Try.ntmps37
  go_wp2_with (first
    | (go_at_call 43; (with_reducible refine HSu.out.mono ?_); rintro e w1 ⟨⟨a1, c1, rfl⟩, hb⟩; unfold scells; have HB1 := Lib.hid hb; clear hb)
    )
  go_ret
  exact ⟨rfl, HB1.out⟩
theorem check_any (t : TN) (sv : Value) (w : World) (S : Nat → Prop) (hsv : SV w S t.args sv) (hS : ∀ b, S b → b < w.heap.size) (hlen : t.args.len ≤ maxLen) (hfit : t.args.fits) (hg1 : -9223372036854775808 ≤ t.g) (hg2 : t.g ≤ 9223372036854775807) :
    Calls Try.prog 20 #[.agg #[.int .i64 t.op, .int .u64 (wd t.st 0 64 : Nat), .int .u64 (wd t.st 64 64 : Nat), .int .u64 (wd t.st 128 64 : Nat), .int .u64 (wd t.st 192 64 : Nat), .int .i64 t.lo, .int .i64 t.hi, .int .i64 t.g, sv]] w fun e w' => e = .returned (.int .i64 (checkT t)) ∧ Below w.heap.size w w' := by
  obtain ⟨ad, cap, rfl⟩ := slice_form hsv
  have hb0 : Below w.heap.size w (w.alloc (.cells #[.int .i64 t.op, .int .u64 (wd t.st 0 64 : Nat), .int .u64 (wd t.st 64 64 : Nat), .int .u64 (wd t.st 128 64 : Nat), .int .u64 (wd t.st 192 64 : Nat), .int .i64 t.lo, .int .i64 t.hi, .int .i64 t.g, .slice ad t.args.len cap] 28)) := (Below.refl _ _).alloc (Nat.le_refl _) _
  have HSu : Hid (Calls Try.prog 43 #[.agg #[.int .i64 t.op, .int .u64 (wd t.st 0 64 : Nat), .int .u64 (wd t.st 64 64 : Nat), .int .u64 (wd t.st 128 64 : Nat), .int .u64 (wd t.st 192 64 : Nat), .int .i64 t.lo, .int .i64 t.hi, .int .i64 t.g, .slice ad t.args.len cap]] (w.alloc (.cells #[.int .i64 t.op, .int .u64 (wd t.st 0 64 : Nat), .int .u64 (wd t.st 64 64 : Nat), .int .u64 (wd t.st 128 64 : Nat), .int .u64 (wd t.st 192 64 : Nat), .int .i64 t.lo, .int .i64 t.hi, .int .i64 t.g, .slice ad t.args.len cap] 28)) fun e w' => (∃ ad cap, e = .returned (.agg (scells (survT t) (.slice ad (survT t).cl.length cap)))) ∧ Below w.heap.size w w') := Lib.hid (Calls.mono (survey_any t _ _ S (hsv.far (Afar.below hb0)) (fun b h => by have := hS b h; have := hb0.size; omega) hlen hfit hg1 hg2) fun e w' hh => ⟨hh.1, hb0.trans (hh.2.mono hb0.size)⟩)
  have hok := surv_ok t
  unfold checkT
  generalize survT t = q at *
  obtain ⟨n, lv, bk, c, wt, wr, wn, sp⟩ := q
  obtain ⟨q1, q2, q3⟩ := hok
  have q1' : n ≤ 2147483647 := q1
  have q2' : lv ≤ 65536 := q2
  have q3' : c.length ≤ n := q3
  clear hsv hS hlen hfit hb0 q1 q2 q3
  go_enter Try.func20, Try.ntmps20
  go_wp2_with (first
    | (go_at_call 43; (with_reducible refine HSu.out.mono ?_); rintro e w1 ⟨⟨a1, c1, rfl⟩, hb⟩; unfold scells; have HB1 := Lib.hid hb; clear hb)
    )
  all_goals go_ret
  all_goals refine ⟨?_, HB1.out.alloc HB1.out.size _⟩
  all_goals (clear HB1 HSu; unfold errQ; congr 2; simp_all <;> omega)
end Go.Proofs.Ytpfbpgbgedbalaa
