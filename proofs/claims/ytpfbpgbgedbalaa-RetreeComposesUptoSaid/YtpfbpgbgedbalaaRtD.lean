/- Nullable, Length, First. -/
import Derived.Test.YtpfbpgbgedbalaaRtGb
import Derived.Test.YtpfbpgbgedbalaaRtLd
import Derived.RegionTactic
import Derived.ChangeAlike
import Derived.Deep.QuietTactic
import Derived.BigQuiet
import Derived.Laws.ResultCell
import Derived.Deep.RegionHeld3
set_option linter.unusedVariables false
set_option linter.unusedSimpArgs false
set_option maxRecDepth 100000
set_option maxHeartbeats 8000000
namespace Go.Proofs.Ytpfbpgbgedbalaa
open Go.RowKit

/-- A tree that stands in memory. -/
def TI (w : World) (t : TN) (sv : Value) : Prop := ∃ S, SV w S t.args sv ∧ (∀ b, S b → b < w.heap.size) ∧ (t.args.len ≤ maxLen ∧ t.args.fits) ∧ -9223372036854775808 ≤ t.g ∧ t.g ≤ 9223372036854775807
theorem TI.below {w w' : World} {t : TN} {sv : Value} (h : TI w t sv) (hb : Below w.heap.size w w') : TI w' t sv := by
  obtain ⟨S, h1, h2, h3⟩ := h
  exact ⟨S, h1.far (Afar.below hb), fun b hS => by have := h2 b hS; have := hb.size; omega, h3⟩
theorem TI.form {w : World} {t : TN} {sv : Value} (h : TI w t sv) : ∃ ad cap, sv = .slice ad t.args.len cap := by
  obtain ⟨S, h1, _⟩ := h
  exact slice_form h1
theorem check_ti {w : World} {t : TN} {sv : Value} (h : TI w t sv) : Calls Try.prog 20 #[.agg #[.int .i64 t.op, .int .u64 (wd t.st 0 64 : Nat), .int .u64 (wd t.st 64 64 : Nat), .int .u64 (wd t.st 128 64 : Nat), .int .u64 (wd t.st 192 64 : Nat), .int .i64 t.lo, .int .i64 t.hi, .int .i64 t.g, sv]] w fun e w' => e = .returned (.int .i64 (checkT t)) ∧ Below w.heap.size w w' := by
  obtain ⟨S, h1, h2, h3, h4, h5⟩ := h
  exact check_any t sv w S h1 h2 h3.1 h3.2 h4 h5
theorem size_ti {w : World} {t : TN} {sv : Value} (h : TI w t sv) : Calls Try.prog 24 #[.agg #[.int .i64 t.op, .int .u64 (wd t.st 0 64 : Nat), .int .u64 (wd t.st 64 64 : Nat), .int .u64 (wd t.st 128 64 : Nat), .int .u64 (wd t.st 192 64 : Nat), .int .i64 t.lo, .int .i64 t.hi, .int .i64 t.g, sv]] w fun e w' => e = .returned (.int .i64 ((survT t).n : Int)) ∧ Below w.heap.size w w' := by
  obtain ⟨S, h1, h2, h3, h4, h5⟩ := h
  exact size_any t sv w S h1 h2 h3.1 h3.2 h4 h5
theorem groups_ti {w : World} {t : TN} {sv : Value} (h : TI w t sv) : Calls Try.prog 15 #[.agg #[.int .i64 t.op, .int .u64 (wd t.st 0 64 : Nat), .int .u64 (wd t.st 64 64 : Nat), .int .u64 (wd t.st 128 64 : Nat), .int .u64 (wd t.st 192 64 : Nat), .int .i64 t.lo, .int .i64 t.hi, .int .i64 t.g, sv]] w fun e w' => e = .returned (.int .i64 ((survT t).cl.length : Int)) ∧ Below w.heap.size w w' := by
  obtain ⟨S, h1, h2, h3, h4, h5⟩ := h
  exact groups_any t sv w S h1 h2 h3.1 h3.2 h4 h5
theorem back_ti {w : World} {t : TN} {sv : Value} (h : TI w t sv) : Calls Try.prog 37 #[.agg #[.int .i64 t.op, .int .u64 (wd t.st 0 64 : Nat), .int .u64 (wd t.st 64 64 : Nat), .int .u64 (wd t.st 128 64 : Nat), .int .u64 (wd t.st 192 64 : Nat), .int .i64 t.lo, .int .i64 t.hi, .int .i64 t.g, sv]] w fun e w' => e = .returned (.bool (survT t).bk) ∧ Below w.heap.size w w' := by
  obtain ⟨S, h1, h2, h3, h4, h5⟩ := h
  exact back_any t sv w S h1 h2 h3.1 h3.2 h4 h5
theorem lenT_ok (t : TN) (ps : List (Int × Int)) (h : PN LOk t ps) : LOk (lenT t ps) := by
  unfold lenT
  have h0 : LOk (0, 0) := by unfold LOk; decide
  have hd : LOk (ps.headD (0, 0)) := by
    cases ps with
    | nil => exact h0
    | cons x r => exact h.inv x (List.mem_cons_self ..)
  have hc : ∀ {F1 F2 : Nat} {f g : Int → Int → Int}, Pair2 F1 F2 f g → LOk (comT f g ps) := fun hp => by
    cases ps with
    | nil => exact h0
    | cons x r => exact fold_ok hp r x (h.inv x (List.mem_cons_self ..)) (fun y hy => h.inv y (List.mem_cons_of_mem _ hy))
  by_cases o2 : t.op = 2
  · rw [if_pos o2]; unfold LOk; decide
  rw [if_neg o2]
  by_cases o3 : t.op = 3
  · rw [if_pos o3]; exact hc pair_sum
  rw [if_neg o3]
  by_cases o4 : t.op = 4
  · rw [if_pos o4]; exact hc pair_alt
  rw [if_neg o4]
  by_cases o5 : t.op = 5
  · rw [if_pos o5]
    have hr := (h.rep o5).2
    exact ⟨⟨prodT_pos _ _ hd.1 ⟨hr.1, hr.2.1⟩, (prodT_ok _ _ ⟨by have := hd.1.1; omega, hd.1.2⟩ ⟨by omega, hr.2.1⟩).2⟩, prodT_ok _ _ hd.2 ⟨by omega, by omega⟩⟩
  rw [if_neg o5]
  split
  · exact hd
  · exact h0
/-- While First stores its set: the beginning in block P, some set in the result's block. -/
def SF (w : World) (P : Nat) (ya : Nat → Bool) (yb : Bool) (w' : World) : Prop := Below w.heap.size w w' ∧ (w'.cell? ⟨P, 0, none⟩ = some (.int .u64 (wd ya 0 64 : Nat)) ∧ w'.cell? ⟨P, 1, none⟩ = some (.int .u64 (wd ya 64 64 : Nat)) ∧ w'.cell? ⟨P, 2, none⟩ = some (.int .u64 (wd ya 128 64 : Nat)) ∧ w'.cell? ⟨P, 3, none⟩ = some (.int .u64 (wd ya 192 64 : Nat)) ∧ w'.cell? ⟨P, 4, none⟩ = some (.bool yb)) ∧ P ≠ w.heap.size + 1 ∧ ∃ a b c d, w'.heap[w.heap.size + 1]? = some (.cells #[a, b, c, d] 25 (0, 0))
def put4v (w : World) (g : Nat) (a b c d : Value) : World := (((w.setCell ⟨g, 0, none⟩ a).setCell ⟨g, 1, none⟩ b).setCell ⟨g, 2, none⟩ c).setCell ⟨g, 3, none⟩ d
theorem put4v_heap {w : World} {g : Nat} {ty : TypeId} {a b c d : Value} (h : w.heap[g]? = some (.cells #[a, b, c, d] ty (0, 0))) (a' b' c' d' : Value) : (put4v w g a' b' c' d').heap[g]? = some (.cells #[a', b', c', d'] ty (0, 0)) := by
  have h1 := heap_setCell_same w g 0 _ _ a' h
  have h2 := heap_setCell_same _ g 1 _ _ b' h1
  have h3 := heap_setCell_same _ g 2 _ _ c' h2
  have h4 := heap_setCell_same _ g 3 _ _ d' h3
  exact h4
theorem put4v_below {B : Nat} {a w : World} (h : Below B a w) (g : Nat) (hB : B ≤ g) (a' b' c' d' : Value) : Below B a (put4v w g a' b' c' d') :=
  (((h.setCell (p := ⟨g, 0, none⟩) hB _).setCell (p := ⟨g, 1, none⟩) hB _).setCell (p := ⟨g, 2, none⟩) hB _).setCell (p := ⟨g, 3, none⟩) hB _
theorem put4v_other {w : World} {g k : Nat} (hk : k ≠ g) (a' b' c' d' : Value) : (put4v w g a' b' c' d').heap[k]? = w.heap[k]? := by
  unfold put4v
  rw [Below.heap_setCell _ ⟨g, 3, none⟩ _ k hk, Below.heap_setCell _ ⟨g, 2, none⟩ _ k hk, Below.heap_setCell _ ⟨g, 1, none⟩ _ k hk, Below.heap_setCell _ ⟨g, 0, none⟩ _ k hk]
theorem SF.put {w w' : World} {P : Nat} {ya : Nat → Bool} {yb : Bool} (h : SF w P ya yb w') (a b c d : Value) : SF w P ya yb (put4v w' (w.heap.size + 1) a b c d) ∧ (put4v w' (w.heap.size + 1) a b c d).heap[w.heap.size + 1]? = some (.cells #[a, b, c, d] 25 (0, 0)) := by
  obtain ⟨h1, ⟨z0, z1, z2, z3, z4⟩, hP, x, y, z, u, hr⟩ := h
  have e : ∀ j, (put4v w' (w.heap.size + 1) a b c d).cell? ⟨P, j, none⟩ = w'.cell? ⟨P, j, none⟩ := fun j => cell_same (put4v_other hP a b c d)
  exact ⟨⟨put4v_below h1 _ (by omega) _ _ _ _, ⟨(e 0).trans z0, (e 1).trans z1, (e 2).trans z2, (e 3).trans z3, (e 4).trans z4⟩, hP, _, _, _, _, put4v_heap hr a b c d⟩, put4v_heap hr a b c d⟩
theorem SF.drew {w w' : World} {P : Nat} {ya : Nat → Bool} {yb : Bool} (h : SF w P ya yb w') : SF w P ya yb w'.drew := ⟨h.1.drew, h.2⟩
theorem results_row2 {fn : Func} {p u : Tmp} (h : fn.results = #[.cell p 25, .tmp u]) (tmps : Array Value) (w : World) (g : Nat) (t : TypeId) (cs : Array Value) (fr : Nat × Nat) (v : Value)
    (hp : tmps.getD p undef = .pointer (some ⟨g, 0, none⟩)) (hv : tmps.getD u undef = v) (hg : w.heap[g]? = some (.cells cs t fr)) (hi : (Try.prog.info? 25).map (·.size) = some cs.size) :
    (results fn tmps).run Try.prog w = .ok (.tuple #[.agg cs, v]) w := by
  rw [results_cell_tmp h, hp, hv]
  simp [asAddr, run_loadVar_row w g t 25 cs fr _ hg Try.underlying25 rfl hi]
def nulOf (t : TN) : Bool := decide (checkT t = 0) && valT nullT t
def lenOf (t : TN) : Int × Int := if checkT t = 0 then valT lenT t else (0, 0)
def fstOf (t : TN) : (Nat → Bool) × Bool := if checkT t = 0 then valT begT t else (noSet, false)
theorem nullable_ti {w : World} {t : TN} {sv : Value} (h : TI w t sv) : Calls Try.prog 11 #[.agg #[.int .i64 t.op, .int .u64 (wd t.st 0 64 : Nat), .int .u64 (wd t.st 64 64 : Nat), .int .u64 (wd t.st 128 64 : Nat), .int .u64 (wd t.st 192 64 : Nat), .int .i64 t.lo, .int .i64 t.hi, .int .i64 t.g, sv]] w fun e w' => e = .returned (.bool (nulOf t)) ∧ Below w.heap.size w w' := by
  obtain ⟨ad, cap, rfl⟩ := h.form
  have hb : Below w.heap.size w (w.alloc (.cells #[.int .i64 t.op, .int .u64 (wd t.st 0 64 : Nat), .int .u64 (wd t.st 64 64 : Nat), .int .u64 (wd t.st 128 64 : Nat), .int .u64 (wd t.st 192 64 : Nat), .int .i64 t.lo, .int .i64 t.hi, .int .i64 t.g, .slice ad t.args.len cap] 28)) := (Below.refl _ _).alloc (Nat.le_refl _) _
  have he : (w.alloc (.cells #[.int .i64 t.op, .int .u64 (wd t.st 0 64 : Nat), .int .u64 (wd t.st 64 64 : Nat), .int .u64 (wd t.st 128 64 : Nat), .int .u64 (wd t.st 192 64 : Nat), .int .i64 t.lo, .int .i64 t.hi, .int .i64 t.g, .slice ad t.args.len cap] 28)).heap[w.heap.size]? = some (.cells #[.int .i64 t.op, .int .u64 (wd t.st 0 64 : Nat), .int .u64 (wd t.st 64 64 : Nat), .int .u64 (wd t.st 128 64 : Nat), .int .u64 (wd t.st 192 64 : Nat), .int .i64 t.lo, .int .i64 t.hi, .int .i64 t.g, .slice ad t.args.len cap] 28 (0, 0)) := by
    skip
    exact heap_alloc_new w _
  have HT := Lib.hid (h.below hb)
  have HC := Lib.hid (check_ti (h.below hb))
  have HB := Lib.hid hb
  have HE := Lib.hid he
  have hl : w.heap.size < (w.alloc (.cells #[.int .i64 t.op, .int .u64 (wd t.st 0 64 : Nat), .int .u64 (wd t.st 64 64 : Nat), .int .u64 (wd t.st 128 64 : Nat), .int .u64 (wd t.st 192 64 : Nat), .int .i64 t.lo, .int .i64 t.hi, .int .i64 t.g, .slice ad t.args.len cap] 28)).heap.size := by simp
  have HL := Lib.hid hl
  clear h hb he hl
  unfold nulOf
  by_cases hc : checkT t = 0
  case neg =>
    have hc2 : (checkT t == 0) = false := by simpa using hc
    have hd : decide (checkT t = 0) = false := by simpa using hc
    rw [hd]
    clear HT hd
    go_enter Try.func11, Try.ntmps11
    go_wp2_with (first
      | (go_at_call 20; (with_reducible refine HC.out.mono ?_); rintro e w1 ⟨rfl, hb⟩; have HB1 := Lib.hid (HB.out.trans (hb.mono HB.out.size)); clear hb))
    go_ret
    exact ⟨rfl, HB1.out⟩
  case pos =>
    have hv : Valid t := (checkT_iff t).1 hc
    have hp := preN_of (I := (fun _ => True)) (R := nullT) (fun _ _ _ => trivial) t hv
    have HV : Hid (∀ W, TI W t (.slice ad t.args.len cap) → Calls Try.prog 32 #[.agg #[.int .i64 t.op, .int .u64 (wd t.st 0 64 : Nat), .int .u64 (wd t.st 64 64 : Nat), .int .u64 (wd t.st 128 64 : Nat), .int .u64 (wd t.st 192 64 : Nat), .int .i64 t.lo, .int .i64 t.hi, .int .i64 t.g, .slice ad t.args.len cap], .func (.func 33) #[] #[]] W fun e w' => e = .returned (.bool (valT nullT t)) ∧ Below W.heap.size W w') := Lib.hid (fun W hW => by
      obtain ⟨S, k1, k2, _⟩ := hW
      exact valueof_b (fun _ => True) nullT (Lib.hid rule_b) t _ W S k1 k2 hp.1)
    clear hv hp
    rw [hc] at HC
    have hd : decide (checkT t = 0) = true := by simpa using hc
    rw [hd, Bool.true_and]
    clear hd hc
    generalize valT nullT t = Y at *
    go_enter Try.func11, Try.ntmps11
    go_wp2_with (first
    | (go_at_call 20; (with_reducible refine HC.out.mono ?_); rintro e w1 ⟨rfl, hb⟩
       have HB1 := Lib.hid (HB.out.trans (hb.mono HB.out.size))
       have HT1 := Lib.hid (HT.out.below hb)
       have hn := nine ((hb.block w.heap.size (by have := HL.out; omega)).trans HE.out)
       obtain ⟨⟨⟨a0, a1, a2⟩, a3, a4, a5⟩, a6, a7, a8⟩ := hn
       have hl1 : w.heap.size < w1.heap.size := by have := hb.size; have := HL.out; omega
       skip
       clear hb)
    | (go_at_call 32; (with_reducible refine (HV.out _ HT1.out).mono ?_); rintro e w2 ⟨rfl, hb⟩
       have HB2 := Lib.hid (HB1.out.trans (hb.mono HB1.out.size))
       skip
       clear hb a0 a1 a2 a3 a4 a5 a6 a7 a8))
    go_ret
    exact ⟨rfl, HB2.out⟩
theorem length_ti {w : World} {t : TN} {sv : Value} (h : TI w t sv) : Calls Try.prog 7 #[.agg #[.int .i64 t.op, .int .u64 (wd t.st 0 64 : Nat), .int .u64 (wd t.st 64 64 : Nat), .int .u64 (wd t.st 128 64 : Nat), .int .u64 (wd t.st 192 64 : Nat), .int .i64 t.lo, .int .i64 t.hi, .int .i64 t.g, sv]] w fun e w' => e = .returned (.tuple #[.int .i64 (lenOf t).1, .int .i64 (lenOf t).2]) ∧ Below w.heap.size w w' := by
  obtain ⟨ad, cap, rfl⟩ := h.form
  have hb : Below w.heap.size w (w.alloc (.cells #[.int .i64 t.op, .int .u64 (wd t.st 0 64 : Nat), .int .u64 (wd t.st 64 64 : Nat), .int .u64 (wd t.st 128 64 : Nat), .int .u64 (wd t.st 192 64 : Nat), .int .i64 t.lo, .int .i64 t.hi, .int .i64 t.g, .slice ad t.args.len cap] 28)) := (Below.refl _ _).alloc (Nat.le_refl _) _
  have he : (w.alloc (.cells #[.int .i64 t.op, .int .u64 (wd t.st 0 64 : Nat), .int .u64 (wd t.st 64 64 : Nat), .int .u64 (wd t.st 128 64 : Nat), .int .u64 (wd t.st 192 64 : Nat), .int .i64 t.lo, .int .i64 t.hi, .int .i64 t.g, .slice ad t.args.len cap] 28)).heap[w.heap.size]? = some (.cells #[.int .i64 t.op, .int .u64 (wd t.st 0 64 : Nat), .int .u64 (wd t.st 64 64 : Nat), .int .u64 (wd t.st 128 64 : Nat), .int .u64 (wd t.st 192 64 : Nat), .int .i64 t.lo, .int .i64 t.hi, .int .i64 t.g, .slice ad t.args.len cap] 28 (0, 0)) := by
    skip
    exact heap_alloc_new w _
  have HT := Lib.hid (h.below hb)
  have HC := Lib.hid (check_ti (h.below hb))
  have HB := Lib.hid hb
  have HE := Lib.hid he
  have hl : w.heap.size < (w.alloc (.cells #[.int .i64 t.op, .int .u64 (wd t.st 0 64 : Nat), .int .u64 (wd t.st 64 64 : Nat), .int .u64 (wd t.st 128 64 : Nat), .int .u64 (wd t.st 192 64 : Nat), .int .i64 t.lo, .int .i64 t.hi, .int .i64 t.g, .slice ad t.args.len cap] 28)).heap.size := by simp
  have HL := Lib.hid hl
  clear h hb he hl
  unfold lenOf
  by_cases hc : checkT t = 0
  case neg =>
    have hc2 : (checkT t == 0) = false := by simpa using hc
    rw [if_neg hc]
    clear HT
    go_enter Try.func7, Try.ntmps7
    go_wp2_with (first
      | (go_at_call 20; (with_reducible refine HC.out.mono ?_); rintro e w1 ⟨rfl, hb⟩; have HB1 := Lib.hid (HB.out.trans (hb.mono HB.out.size)); clear hb))
    go_ret2
    exact ⟨rfl, HB1.out⟩
  case pos =>
    have hv : Valid t := (checkT_iff t).1 hc
    have hp := preN_of (I := LOk) (R := lenT) lenT_ok t hv
    have HV : Hid (∀ W, TI W t (.slice ad t.args.len cap) → Calls Try.prog 27 #[.agg #[.int .i64 t.op, .int .u64 (wd t.st 0 64 : Nat), .int .u64 (wd t.st 64 64 : Nat), .int .u64 (wd t.st 128 64 : Nat), .int .u64 (wd t.st 192 64 : Nat), .int .i64 t.lo, .int .i64 t.hi, .int .i64 t.g, .slice ad t.args.len cap], .func (.func 28) #[] #[]] W fun e w' => e = .returned (.agg #[.int .i64 (valT lenT t).1, .int .i64 (valT lenT t).2]) ∧ Below W.heap.size W w') := Lib.hid (fun W hW => by
      obtain ⟨S, k1, k2, _⟩ := hW
      exact valueof_l LOk lenT (Lib.hid rule_l) t _ W S k1 k2 hp.1)
    clear hv hp
    rw [hc] at HC
    rw [if_pos hc]
    clear hc
    generalize valT lenT t = Y at *
    obtain ⟨ya, yb⟩ := Y
    go_enter Try.func7, Try.ntmps7
    go_wp2_with (first
    | (go_at_call 20; (with_reducible refine HC.out.mono ?_); rintro e w1 ⟨rfl, hb⟩
       have HB1 := Lib.hid (HB.out.trans (hb.mono HB.out.size))
       have HT1 := Lib.hid (HT.out.below hb)
       have hn := nine ((hb.block w.heap.size (by have := HL.out; omega)).trans HE.out)
       obtain ⟨⟨⟨a0, a1, a2⟩, a3, a4, a5⟩, a6, a7, a8⟩ := hn
       have hl1 : w.heap.size < w1.heap.size := by have := hb.size; have := HL.out; omega
       skip
       clear hb)
    | (go_at_call 27; (with_reducible refine (HV.out _ HT1.out).mono ?_); rintro e w2 ⟨rfl, hb⟩
       have HB2 := Lib.hid (HB1.out.trans (hb.mono HB1.out.size))
       skip
       clear hb a0 a1 a2 a3 a4 a5 a6 a7 a8))
    go_quiet (fail)
    go_wp2_with fail
    go_ret2
    exact ⟨rfl, below_drewN (HB2.out.alloc HB2.out.size _) _⟩
theorem first_ti {w : World} {t : TN} {sv : Value} (h : TI w t sv) : Calls Try.prog 9 #[.agg #[.int .i64 t.op, .int .u64 (wd t.st 0 64 : Nat), .int .u64 (wd t.st 64 64 : Nat), .int .u64 (wd t.st 128 64 : Nat), .int .u64 (wd t.st 192 64 : Nat), .int .i64 t.lo, .int .i64 t.hi, .int .i64 t.g, sv]] w fun e w' => e = .returned (.tuple #[.agg (cl (fstOf t).1), .bool (fstOf t).2]) ∧ Below w.heap.size w w' := by
  obtain ⟨ad, cap, rfl⟩ := h.form
  have hb : Below w.heap.size w ((w.alloc (.cells #[.int .i64 t.op, .int .u64 (wd t.st 0 64 : Nat), .int .u64 (wd t.st 64 64 : Nat), .int .u64 (wd t.st 128 64 : Nat), .int .u64 (wd t.st 192 64 : Nat), .int .i64 t.lo, .int .i64 t.hi, .int .i64 t.g, .slice ad t.args.len cap] 28)).alloc (.cells #[.int .u64 0, .int .u64 0, .int .u64 0, .int .u64 0] 25)) := ((Below.refl _ _).alloc (Nat.le_refl _) _).alloc (by simp) _
  have he : ((w.alloc (.cells #[.int .i64 t.op, .int .u64 (wd t.st 0 64 : Nat), .int .u64 (wd t.st 64 64 : Nat), .int .u64 (wd t.st 128 64 : Nat), .int .u64 (wd t.st 192 64 : Nat), .int .i64 t.lo, .int .i64 t.hi, .int .i64 t.g, .slice ad t.args.len cap] 28)).alloc (.cells #[.int .u64 0, .int .u64 0, .int .u64 0, .int .u64 0] 25)).heap[w.heap.size]? = some (.cells #[.int .i64 t.op, .int .u64 (wd t.st 0 64 : Nat), .int .u64 (wd t.st 64 64 : Nat), .int .u64 (wd t.st 128 64 : Nat), .int .u64 (wd t.st 192 64 : Nat), .int .i64 t.lo, .int .i64 t.hi, .int .i64 t.g, .slice ad t.args.len cap] 28 (0, 0)) := by
    rw [Below.heap_alloc _ _ _ (by simp)]
    exact heap_alloc_new w _
  have hr : ((w.alloc (.cells #[.int .i64 t.op, .int .u64 (wd t.st 0 64 : Nat), .int .u64 (wd t.st 64 64 : Nat), .int .u64 (wd t.st 128 64 : Nat), .int .u64 (wd t.st 192 64 : Nat), .int .i64 t.lo, .int .i64 t.hi, .int .i64 t.g, .slice ad t.args.len cap] 28)).alloc (.cells #[.int .u64 0, .int .u64 0, .int .u64 0, .int .u64 0] 25)).heap[w.heap.size + 1]? = some (.cells #[.int .u64 0, .int .u64 0, .int .u64 0, .int .u64 0] 25 (0, 0)) := by
    have := heap_alloc_new (w.alloc (.cells #[.int .i64 t.op, .int .u64 (wd t.st 0 64 : Nat), .int .u64 (wd t.st 64 64 : Nat), .int .u64 (wd t.st 128 64 : Nat), .int .u64 (wd t.st 192 64 : Nat), .int .i64 t.lo, .int .i64 t.hi, .int .i64 t.g, .slice ad t.args.len cap] 28)) (.cells #[.int .u64 0, .int .u64 0, .int .u64 0, .int .u64 0] 25)
    simpa using this
  have HT := Lib.hid (h.below hb)
  have HC := Lib.hid (check_ti (h.below hb))
  have HB := Lib.hid hb
  have HE := Lib.hid he
  have HR := Lib.hid hr
  have hl : w.heap.size + 1 < ((w.alloc (.cells #[.int .i64 t.op, .int .u64 (wd t.st 0 64 : Nat), .int .u64 (wd t.st 64 64 : Nat), .int .u64 (wd t.st 128 64 : Nat), .int .u64 (wd t.st 192 64 : Nat), .int .i64 t.lo, .int .i64 t.hi, .int .i64 t.g, .slice ad t.args.len cap] 28)).alloc (.cells #[.int .u64 0, .int .u64 0, .int .u64 0, .int .u64 0] 25)).heap.size := by simp
  have HL := Lib.hid hl
  clear h hb he hr hl
  unfold fstOf
  by_cases hc : checkT t = 0
  case neg =>
    have hc2 : (checkT t == 0) = false := by simpa using hc
    rw [if_neg hc]
    have HZ0 : Hid (cl noSet = #[.int .u64 0, .int .u64 0, .int .u64 0, .int .u64 0]) := Lib.hid (cl_zero).symm
    clear HT
    go_enter Try.func9, Try.ntmps9
    go_wp2_with (first
      | (go_at_call 20; (with_reducible refine HC.out.mono ?_); rintro e w1 ⟨rfl, hb⟩; have HB1 := Lib.hid (HB.out.trans (hb.mono HB.out.size)); have HR1 := Lib.hid ((hb.block (w.heap.size + 1) HL.out).trans HR.out); clear hb)
      | (refine wpList_store_row rfl 25 (.tmp 2) (.tmp 8) rfl (w.heap.size + 1) #[.int .u64 0, .int .u64 0, .int .u64 0, .int .u64 0] rfl rfl 25 _ HR1.out info_cs rfl (by simp [Value.oneCell']) ?_))
    rw [HZ0.out]
    refine bodyPost_ret (v := .tuple #[.agg #[.int .u64 0, .int .u64 0, .int .u64 0, .int .u64 0], .bool false]) (results_row2 rfl _ _ (w.heap.size + 1) _ #[.int .u64 0, .int .u64 0, .int .u64 0, .int .u64 0] (0, 0) (.bool false) rfl rfl (setRow_heap w1 _ _ _ _ _ HR1.out) info_cs) rfl ?_
    exact ⟨rfl, below_setRow HB1.out (by omega) _⟩
  case pos =>
    have hv : Valid t := (checkT_iff t).1 hc
    have hp := preN_of (I := fun _ => True) (R := begT) (fun _ _ _ => trivial) t hv
    have HV : Hid (∀ W, TI W t (.slice ad t.args.len cap) → Calls Try.prog 30 #[.agg #[.int .i64 t.op, .int .u64 (wd t.st 0 64 : Nat), .int .u64 (wd t.st 64 64 : Nat), .int .u64 (wd t.st 128 64 : Nat), .int .u64 (wd t.st 192 64 : Nat), .int .i64 t.lo, .int .i64 t.hi, .int .i64 t.g, .slice ad t.args.len cap], .func (.func 31) #[] #[]] W fun e w' => e = .returned (.agg #[.int .u64 (wd (valT begT t).1 0 64 : Nat), .int .u64 (wd (valT begT t).1 64 64 : Nat), .int .u64 (wd (valT begT t).1 128 64 : Nat), .int .u64 (wd (valT begT t).1 192 64 : Nat), .bool (valT begT t).2]) ∧ Below W.heap.size W w') := Lib.hid (fun W hW => by
      obtain ⟨S, k1, k2, _⟩ := hW
      exact valueof_g (fun _ => True) begT (Lib.hid rule_g) t _ W S k1 k2 hp.1)
    clear hv hp
    rw [hc] at HC
    rw [if_pos hc]
    clear hc
    generalize valT begT t = Y at *
    obtain ⟨ya, yb⟩ := Y
    have HCl : Hid (cl ya = #[.int .u64 (wd ya 0 64 : Nat), .int .u64 (wd ya 64 64 : Nat), .int .u64 (wd ya 128 64 : Nat), .int .u64 (wd ya 192 64 : Nat)]) := Lib.hid rfl
    go_enter Try.func9, Try.ntmps9
    go_upto_region 4 with (first
    | (go_at_call 20; (with_reducible refine HC.out.mono ?_); rintro e w1 ⟨rfl, hb⟩
       have HB1 := Lib.hid (HB.out.trans (hb.mono HB.out.size))
       have HT1 := Lib.hid (HT.out.below hb)
       have hn := nine ((hb.block w.heap.size (by have := HL.out; omega)).trans HE.out)
       obtain ⟨⟨⟨a0, a1, a2⟩, a3, a4, a5⟩, a6, a7, a8⟩ := hn
       have hl1 : w.heap.size < w1.heap.size := by have := hb.size; have := HL.out; omega
       have HR1 := Lib.hid ((hb.block (w.heap.size + 1) HL.out).trans HR.out)
       clear hb)
    | (go_at_call 30; (with_reducible refine (HV.out _ HT1.out).mono ?_); rintro e w2 ⟨rfl, hb⟩
       have HB2 := Lib.hid (HB1.out.trans (hb.mono HB1.out.size))
       have HR2 := Lib.hid ((hb.block (w.heap.size + 1) (Array.getElem?_eq_some_iff.1 HR1.out).1).trans HR1.out)
       clear hb a0 a1 a2 a3 a4 a5 a6 a7 a8 hl1))
    have hx := heap_alloc_new w2 (.cells #[.int .u64 (wd ya 0 64 : Nat), .int .u64 (wd ya 64 64 : Nat), .int .u64 (wd ya 128 64 : Nat), .int .u64 (wd ya 192 64 : Nat), .bool yb] 63)
    have hbx : Below w2.heap.size w2 (w2.alloc (.cells #[.int .u64 (wd ya 0 64 : Nat), .int .u64 (wd ya 64 64 : Nat), .int .u64 (wd ya 128 64 : Nat), .int .u64 (wd ya 192 64 : Nat), .bool yb] 63)) := (Below.refl _ _).alloc (Nat.le_refl _) _
    generalize w2.alloc (.cells #[.int .u64 (wd ya 0 64 : Nat), .int .u64 (wd ya 64 64 : Nat), .int .u64 (wd ya 128 64 : Nat), .int .u64 (wd ya 192 64 : Nat), .bool yb] 63) = W at *
    have d0 := cell_of_row W w2.heap.size 0 _ _ _ hx
    have d1 := cell_of_row W w2.heap.size 1 _ _ _ hx
    have d2 := cell_of_row W w2.heap.size 2 _ _ _ hx
    have d3 := cell_of_row W w2.heap.size 3 _ _ _ hx
    have d4 := cell_of_row W w2.heap.size 4 _ _ _ hx
    replace d0 : W.cell? ⟨w2.heap.size, 0, none⟩ = some (.int .u64 (wd ya 0 64 : Nat)) := d0
    replace d1 : W.cell? ⟨w2.heap.size, 1, none⟩ = some (.int .u64 (wd ya 64 64 : Nat)) := d1
    replace d2 : W.cell? ⟨w2.heap.size, 2, none⟩ = some (.int .u64 (wd ya 128 64 : Nat)) := d2
    replace d3 : W.cell? ⟨w2.heap.size, 3, none⟩ = some (.int .u64 (wd ya 192 64 : Nat)) := d3
    replace d4 : W.cell? ⟨w2.heap.size, 4, none⟩ = some (.bool yb) := d4
    have HR3 : Hid (W.drew.heap[w.heap.size + 1]? = some (.cells #[.int .u64 0, .int .u64 0, .int .u64 0, .int .u64 0] 25 (0, 0))) := Lib.hid ((hbx.block _ (Array.getElem?_eq_some_iff.1 HR2.out).1).trans HR2.out)
    have HB3 := Lib.hid (HB2.out.trans (hbx.mono HB2.out.size))
    clear hx hbx
    have hlr := (Array.getElem?_eq_some_iff.1 HR2.out).1
    have HS0 : Hid (SF w w2.heap.size ya yb W) := Lib.hid ⟨HB3.out, ⟨d0, d1, d2, d3, d4⟩, (by omega), _, _, _, _, HR3.out⟩
    clear hlr d0 d1 d2 d3 d4
    refine wp_region_held_drew (S := SF w w2.heap.size ya yb) (by kernel_rfl) ?_ (fun hHeld => ?_)
    · exact HS0.out.drew
    refine wpAnyH_take (i := 0) (v := ?cv0) rfl (by kernel_rfl) (by kernel_rfl) (by kernel_rfl) (fun _ _ _ h => h) (Or.inl ⟨by rfl, ?cy0⟩) (by assumption) ?cr0
    case cy0 =>
      intro wx hSw
      have hs6 := hSw.2.1
      obtain ⟨z0, z1, z2, z3, z4⟩ := hs6
      clear hSw
      go_simp
      first | done | (with_reducible rfl)
    (try simp only [Act.put, List.getElem_toArray, List.getElem_cons_zero, List.setIfInBounds_toArray, List.set_cons_zero, List.set_cons_succ])
    refine wpAnyH_take (i := 1) (v := ?cv1) rfl (by kernel_rfl) (by kernel_rfl) (by kernel_rfl) (fun _ _ _ h => h) (Or.inl ⟨by rfl, ?cy1⟩) (by assumption) ?cr1
    case cy1 =>
      intro wx hSw
      have hs6 := hSw.2.1
      obtain ⟨z0, z1, z2, z3, z4⟩ := hs6
      clear hSw
      go_simp
      first | done | (with_reducible rfl)
    (try simp only [Act.put, List.getElem_toArray, List.getElem_cons_succ, List.getElem_cons_zero, List.setIfInBounds_toArray, List.set_cons_zero, List.set_cons_succ])
    refine wpAnyH_take (i := 2) (v := ?cv2) rfl (by kernel_rfl) (by kernel_rfl) (by kernel_rfl) (fun _ _ _ h => h) (Or.inl ⟨by rfl, ?cy2⟩) (by assumption) ?cr2
    case cy2 =>
      intro wx hSw
      have hs6 := hSw.2.1
      obtain ⟨z0, z1, z2, z3, z4⟩ := hs6
      clear hSw
      go_simp
      first | done | (with_reducible rfl)
    (try simp only [Act.put, List.getElem_toArray, List.getElem_cons_succ, List.getElem_cons_zero, List.setIfInBounds_toArray, List.set_cons_zero, List.set_cons_succ])
    refine wpAnyH_take (i := 3) (v := ?cv3) rfl (by kernel_rfl) (by kernel_rfl) (by kernel_rfl) (fun _ _ _ h => h) (Or.inl ⟨by rfl, ?cy3⟩) (by assumption) ?cr3
    case cy3 =>
      intro wx hSw
      have hs6 := hSw.2.1
      obtain ⟨z0, z1, z2, z3, z4⟩ := hs6
      clear hSw
      go_simp
      first | done | (with_reducible rfl)
    (try simp only [Act.put, List.getElem_toArray, List.getElem_cons_succ, List.getElem_cons_zero, List.setIfInBounds_toArray, List.set_cons_zero, List.set_cons_succ])
    refine wpAnyH_ready (rs := [4]) (by kernel_rfl) (by simp) ?_
    refine AllReadyH.cons rfl (fun K hK => ?_) AllReadyH.nil
    obtain ⟨x1, x2, x9, xa, xb, xc, xd, xr⟩ := hHeld
    have fr := fun j => frozen_of_row W.drew (w.heap.size + 1) j _ _ xr
    have y0 := cell_of_row W.drew (w.heap.size + 1) 0 _ _ _ xr
    have y1 := cell_of_row W.drew (w.heap.size + 1) 1 _ _ _ xr
    have y2 := cell_of_row W.drew (w.heap.size + 1) 2 _ _ _ xr
    have y3 := cell_of_row W.drew (w.heap.size + 1) 3 _ _ _ xr
    replace y0 : W.cell? ⟨w.heap.size + 1, 0, none⟩ = some xa := y0
    replace y1 : W.cell? ⟨w.heap.size + 1, 1, none⟩ = some xb := y1
    replace y2 : W.cell? ⟨w.heap.size + 1, 2, none⟩ = some xc := y2
    replace y3 : W.cell? ⟨w.heap.size + 1, 3, none⟩ = some xd := y3
    replace fr : ∀ j, W.frozen? ⟨w.heap.size + 1, j, none⟩ = false := fr
    go_simp
    have HPt := Lib.hid (HS0.out.put (.int .u64 (wd ya 0 64 : Nat)) (.int .u64 (wd ya 64 64 : Nat)) (.int .u64 (wd ya 128 64 : Nat)) (.int .u64 (wd ya 192 64 : Nat)))
    refine hK.out _ _ ?_ (fun hHeld4 => ?_)
    · exact HPt.out.1.drew
    clear hK K
    refine wpAnyH_take (i := 5) (v := ?ev5) rfl (by kernel_rfl) (by kernel_rfl) (by kernel_rfl) (fun _ _ _ h => h) (Or.inl ⟨by rfl, ?ey5⟩) (by assumption) ?er5
    case ey5 =>
      intro wx hSw
      clear hSw
      go_simp
      first | done | (with_reducible rfl)
    (try simp only [Act.put, List.getElem_toArray, List.getElem_cons_succ, List.getElem_cons_zero, List.setIfInBounds_toArray, List.set_cons_zero, List.set_cons_succ])
    refine wpAnyH_done (by kernel_rfl) ?_ _
    clear y0 y1 y2 y3 fr
    go_wp2_with fail
    rw [HCl.out]
    refine bodyPost_ret (v := .tuple #[.agg #[.int .u64 (wd ya 0 64 : Nat), .int .u64 (wd ya 64 64 : Nat), .int .u64 (wd ya 128 64 : Nat), .int .u64 (wd ya 192 64 : Nat)], .bool yb]) (results_row2 rfl _ _ (w.heap.size + 1) _ #[.int .u64 (wd ya 0 64 : Nat), .int .u64 (wd ya 64 64 : Nat), .int .u64 (wd ya 128 64 : Nat), .int .u64 (wd ya 192 64 : Nat)] (0, 0) (.bool yb) rfl rfl HPt.out.2 info_cs) rfl ?_
    exact ⟨rfl, HPt.out.1.1.drew⟩
end Go.Proofs.Ytpfbpgbgedbalaa
