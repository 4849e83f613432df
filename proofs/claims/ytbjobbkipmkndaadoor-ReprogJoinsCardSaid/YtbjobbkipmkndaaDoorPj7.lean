/- RtC, RtVM, RtVi. -/
import Derived.Test.YtbjobbkipmkndaaDoorPj6
import Derived.Test.YtbjobbkipmkndaaDoorPj2
import Derived.StillTailTactics
set_option linter.unusedVariables false
set_option linter.unusedSimpArgs false
set_option maxRecDepth 100000
set_option maxHeartbeats 8000000
namespace Go.Proofs.YtbjobbkipmkndaaDoor
open Go.RowKit
theorem below_setRow {B g : Nat} {a w : World} (h : Below B a w) (hg : B ≤ g) (c : Array Value) : Below B a (w.setRow g c) :=
  ⟨h.os, h.tape, h.output, by rw [setRow_size]; exact h.size, fun k hk => (setRow_other w g k c (by omega)).trans (h.block k hk)⟩
theorem info_sv : (Tryd.prog.info? 73).map (·.size) = some 8 := by kernel_rfl
theorem survey_any (t : TN) (sv : Value) (w : World) (S : Nat → Prop) (hsv : SV w S t.args sv) (hS : ∀ b, S b → b < w.heap.size) (hlen : t.args.len ≤ maxLen) (hfit : t.args.fits) (hg1 : -9223372036854775808 ≤ t.g) (hg2 : t.g ≤ 9223372036854775807) :
    Calls Tryd.prog 37 #[.agg #[.int .i64 t.op, .int .u64 (wd t.st 0 64 : Nat), .int .u64 (wd t.st 64 64 : Nat), .int .u64 (wd t.st 128 64 : Nat), .int .u64 (wd t.st 192 64 : Nat), .int .i64 t.lo, .int .i64 t.hi, .int .i64 t.g, sv]] w fun e w' => (∃ ad cap, e = .returned (.agg (scells (survT t) (.slice ad (survT t).cl.length cap)))) ∧ Below w.heap.size w w' := by
  obtain ⟨ad, cap, rfl⟩ := slice_form hsv
  have HWk : Hid (∀ W B, SV W S t.args (.slice ad t.args.len cap) → (∀ b, S b → b < B) → SM W B SQ0 → Calls Tryd.prog 47 #[.pointer (some ⟨B, 0, none⟩), .agg #[.int .i64 t.op, .int .u64 (wd t.st 0 64 : Nat), .int .u64 (wd t.st 64 64 : Nat), .int .u64 (wd t.st 128 64 : Nat), .int .u64 (wd t.st 192 64 : Nat), .int .i64 t.lo, .int .i64 t.hi, .int .i64 t.g, .slice ad t.args.len cap], .int .i64 1] W fun e w' => e = .returned (.tuple #[]) ∧ SM w' B (survT t) ∧ Below B W w') := Lib.hid (fun W B h1 h2 h3 => walk_any t.args t.op t.lo t.hi t.g t.st _ W S B SQ0 1 h1 h2 h3 ⟨by decide, by decide, by decide⟩ (by decide) hlen hfit hg1 hg2)
  obtain ⟨W1, hW1⟩ : ∃ W1, W1 = (w.alloc (.cells #[.int .i64 t.op, .int .u64 (wd t.st 0 64 : Nat), .int .u64 (wd t.st 64 64 : Nat), .int .u64 (wd t.st 128 64 : Nat), .int .u64 (wd t.st 192 64 : Nat), .int .i64 t.lo, .int .i64 t.hi, .int .i64 t.g, .slice ad t.args.len cap] 34)).alloc (.cells #[.int .i64 0, .int .i64 0, .bool false, .slice none 0 0, .bool false, .bool false, .bool false, .bool false] 73) := ⟨_, rfl⟩
  have hz1 : W1.heap.size = w.heap.size + 2 := by rw [hW1]; simp
  have hx1 : Below w.heap.size w W1 := by rw [hW1]; exact ((Below.refl _ _).alloc (Nat.le_refl _) _).alloc (by simp) _
  obtain ⟨W2, hW2⟩ : ∃ W2, W2 = W1.alloc (.cells #[.int .i64 0, .int .i64 0, .bool false, .slice none 0 0, .bool false, .bool false, .bool false, .bool false] 73) := ⟨_, rfl⟩
  have hx2 : Below w.heap.size w W2 := by rw [hW2]; exact hx1.alloc (by omega) _
  have hA2 : SA W2 (w.heap.size + 1 + 1) SQ0 (.slice none 0 0) := by rw [hW2, show w.heap.size + 1 + 1 = W1.heap.size by omega]; exact heap_alloc_new W1 _
  have hSM : SM W2 (w.heap.size + 1 + 1) SQ0 := ⟨_, hA2, ⟨rfl, .inl ⟨rfl, rfl⟩⟩⟩
  have hR1 : W2.heap[w.heap.size + 1]? = some (.cells #[.int .i64 0, .int .i64 0, .bool false, .slice none 0 0, .bool false, .bool false, .bool false, .bool false] 73 (0, 0)) := by
    rw [hW2, Below.heap_alloc _ _ _ (by omega), hW1]
    have := heap_alloc_new (w.alloc (.cells #[.int .i64 t.op, .int .u64 (wd t.st 0 64 : Nat), .int .u64 (wd t.st 64 64 : Nat), .int .u64 (wd t.st 128 64 : Nat), .int .u64 (wd t.st 192 64 : Nat), .int .i64 t.lo, .int .i64 t.hi, .int .i64 t.g, .slice ad t.args.len cap] 34)) (.cells #[.int .i64 0, .int .i64 0, .bool false, .slice none 0 0, .bool false, .bool false, .bool false, .bool false] 73)
    simpa using this
  have HSV := Lib.hid (hsv.far (Afar.below hx2))
  have HSB := Lib.hid (show ∀ b, S b → b < w.heap.size + 1 + 1 from fun b h => by have := hS b h; omega)
  have HSM := Lib.hid hSM
  have HR1 := Lib.hid hR1
  have HX2 := Lib.hid hx2
  rw [hW1] at hW2
  have HW2 := Lib.hid hW2
  clear hsv hS hlen hfit hz1 hx1 hx2 hA2 hSM hR1 hW1 hW2 W1
  go_enter Tryd.func37, Tryd.ntmps37
  go_upto_region 3 with (first
    | (go_at_call 47; rw [← HW2.out]; (with_reducible refine (HWk.out _ (w.heap.size + 1 + 1) HSV.out HSB.out HSM.out).mono ?_); rintro e w1 ⟨rfl, hs, hb⟩; have HS1 := Lib.hid hs; have HB1 := Lib.hid hb; clear hs hb)
    )
  obtain ⟨sv1, hA1, hO1⟩ := HS1.out
  obtain ⟨ad1, cap1, rfl⟩ := own_sl hO1
  have hR := (HB1.out.block (w.heap.size + 1) (by omega)).trans HR1.out
  have HRR := Lib.hid hR
  have HX := Lib.hid (HX2.out.trans (HB1.out.mono (by omega)))
  have HA1 := Lib.hid hA1
  clear hA1 hO1 hR
  go_wp2_with (first
    | (refine wpList_load_row rfl 73 _ rfl (w.heap.size + 1 + 1) rfl 73 (scells (survT t) (.slice ad1 (survT t).cl.length cap1)) (0, 0) _ HA1.out Tryd.underlying73 rfl info_sv ?_)
    | (refine wpList_store_row rfl 73 (.tmp 2) (.tmp 6) rfl (w.heap.size + 1) (scells (survT t) (.slice ad1 (survT t).cl.length cap1)) rfl rfl 73 _ HRR.out info_sv rfl (by simp [scells, Value.oneCell']) ?_))
  refine bodyPost_ret (v := .agg (scells (survT t) (.slice ad1 (survT t).cl.length cap1))) (results_cell_row rfl _ _ (w.heap.size + 1) _ (scells (survT t) (.slice ad1 (survT t).cl.length cap1)) (0, 0) _ rfl (setRow_heap w1 _ _ _ _ _ HRR.out) Tryd.underlying73 rfl info_sv) rfl ?_
  exact ⟨⟨ad1, cap1, rfl⟩, below_setRow HX.out (by omega) _⟩
theorem fv0 (a b c d e f g h : Value) (w : World) : (Instr.field 73 (.agg #[a, b, c, d, e, f, g, h]) 0).run Tryd.prog w = .ok a w := by kernel_rfl
theorem fv2 (a b c d e f g h : Value) (w : World) : (Instr.field 73 (.agg #[a, b, c, d, e, f, g, h]) 2).run Tryd.prog w = .ok c w := by kernel_rfl
theorem fv3 (a b c d e f g h : Value) (w : World) : (Instr.field 73 (.agg #[a, b, c, d, e, f, g, h]) 3).run Tryd.prog w = .ok d w := by kernel_rfl
theorem back_any (t : TN) (sv : Value) (w : World) (S : Nat → Prop) (hsv : SV w S t.args sv) (hS : ∀ b, S b → b < w.heap.size) (hlen : t.args.len ≤ maxLen) (hfit : t.args.fits) (hg1 : -9223372036854775808 ≤ t.g) (hg2 : t.g ≤ 9223372036854775807) :
    Calls Tryd.prog 28 #[.agg #[.int .i64 t.op, .int .u64 (wd t.st 0 64 : Nat), .int .u64 (wd t.st 64 64 : Nat), .int .u64 (wd t.st 128 64 : Nat), .int .u64 (wd t.st 192 64 : Nat), .int .i64 t.lo, .int .i64 t.hi, .int .i64 t.g, sv]] w fun e w' => e = .returned (.bool (survT t).bk) ∧ Below w.heap.size w w' := by
  obtain ⟨ad, cap, rfl⟩ := slice_form hsv
  have hb0 : Below w.heap.size w (w.alloc (.cells #[.int .i64 t.op, .int .u64 (wd t.st 0 64 : Nat), .int .u64 (wd t.st 64 64 : Nat), .int .u64 (wd t.st 128 64 : Nat), .int .u64 (wd t.st 192 64 : Nat), .int .i64 t.lo, .int .i64 t.hi, .int .i64 t.g, .slice ad t.args.len cap] 34)) := (Below.refl _ _).alloc (Nat.le_refl _) _
  have HSu : Hid (Calls Tryd.prog 37 #[.agg #[.int .i64 t.op, .int .u64 (wd t.st 0 64 : Nat), .int .u64 (wd t.st 64 64 : Nat), .int .u64 (wd t.st 128 64 : Nat), .int .u64 (wd t.st 192 64 : Nat), .int .i64 t.lo, .int .i64 t.hi, .int .i64 t.g, .slice ad t.args.len cap]] (w.alloc (.cells #[.int .i64 t.op, .int .u64 (wd t.st 0 64 : Nat), .int .u64 (wd t.st 64 64 : Nat), .int .u64 (wd t.st 128 64 : Nat), .int .u64 (wd t.st 192 64 : Nat), .int .i64 t.lo, .int .i64 t.hi, .int .i64 t.g, .slice ad t.args.len cap] 34)) fun e w' => (∃ ad cap, e = .returned (.agg (scells (survT t) (.slice ad (survT t).cl.length cap)))) ∧ Below w.heap.size w w') := Lib.hid (Calls.mono (survey_any t _ _ S (hsv.far (Afar.below hb0)) (fun b h => by have := hS b h; have := hb0.size; omega) hlen hfit hg1 hg2) fun e w' hh => ⟨hh.1, hb0.trans (hh.2.mono hb0.size)⟩)
  have hok := surv_ok t
  generalize survT t = q at *
  clear hsv hS hlen hfit hb0 hok
  have v0 := fv0
  have v2 := fv2
  have v3 := fv3
  go_enter Tryd.func28, Tryd.ntmps28
  go_wp2_with (first
    | (go_at_call 37; (with_reducible refine HSu.out.mono ?_); rintro e w1 ⟨⟨a1, c1, rfl⟩, hb⟩; unfold scells; have HB1 := Lib.hid hb; clear hb)
    )
  go_ret
  exact ⟨rfl, HB1.out⟩
theorem check_any (t : TN) (sv : Value) (w : World) (S : Nat → Prop) (hsv : SV w S t.args sv) (hS : ∀ b, S b → b < w.heap.size) (hlen : t.args.len ≤ maxLen) (hfit : t.args.fits) (hg1 : -9223372036854775808 ≤ t.g) (hg2 : t.g ≤ 9223372036854775807) :
    Calls Tryd.prog 27 #[.agg #[.int .i64 t.op, .int .u64 (wd t.st 0 64 : Nat), .int .u64 (wd t.st 64 64 : Nat), .int .u64 (wd t.st 128 64 : Nat), .int .u64 (wd t.st 192 64 : Nat), .int .i64 t.lo, .int .i64 t.hi, .int .i64 t.g, sv]] w fun e w' => e = .returned (.int .i64 (checkT t)) ∧ Below w.heap.size w w' := by
  obtain ⟨ad, cap, rfl⟩ := slice_form hsv
  have hb0 : Below w.heap.size w (w.alloc (.cells #[.int .i64 t.op, .int .u64 (wd t.st 0 64 : Nat), .int .u64 (wd t.st 64 64 : Nat), .int .u64 (wd t.st 128 64 : Nat), .int .u64 (wd t.st 192 64 : Nat), .int .i64 t.lo, .int .i64 t.hi, .int .i64 t.g, .slice ad t.args.len cap] 34)) := (Below.refl _ _).alloc (Nat.le_refl _) _
  have HSu : Hid (Calls Tryd.prog 37 #[.agg #[.int .i64 t.op, .int .u64 (wd t.st 0 64 : Nat), .int .u64 (wd t.st 64 64 : Nat), .int .u64 (wd t.st 128 64 : Nat), .int .u64 (wd t.st 192 64 : Nat), .int .i64 t.lo, .int .i64 t.hi, .int .i64 t.g, .slice ad t.args.len cap]] (w.alloc (.cells #[.int .i64 t.op, .int .u64 (wd t.st 0 64 : Nat), .int .u64 (wd t.st 64 64 : Nat), .int .u64 (wd t.st 128 64 : Nat), .int .u64 (wd t.st 192 64 : Nat), .int .i64 t.lo, .int .i64 t.hi, .int .i64 t.g, .slice ad t.args.len cap] 34)) fun e w' => (∃ ad cap, e = .returned (.agg (scells (survT t) (.slice ad (survT t).cl.length cap)))) ∧ Below w.heap.size w w') := Lib.hid (Calls.mono (survey_any t _ _ S (hsv.far (Afar.below hb0)) (fun b h => by have := hS b h; have := hb0.size; omega) hlen hfit hg1 hg2) fun e w' hh => ⟨hh.1, hb0.trans (hh.2.mono hb0.size)⟩)
  have hok := surv_ok t
  unfold checkT
  generalize survT t = q at *
  obtain ⟨n, lv, bk, c, wt, wr, wn, sp⟩ := q
  obtain ⟨q1, q2, q3⟩ := hok
  have q1' : n ≤ 2147483647 := q1
  have q2' : lv ≤ 65536 := q2
  have q3' : c.length ≤ n := q3
  clear hsv hS hlen hfit hb0 q1 q2 q3
  go_enter Tryd.func27, Tryd.ntmps27
  go_wp2_with (first
    | (go_at_call 37; (with_reducible refine HSu.out.mono ?_); rintro e w1 ⟨⟨a1, c1, rfl⟩, hb⟩; unfold scells; have HB1 := Lib.hid hb; clear hb)
    )
  all_goals go_ret
  all_goals refine ⟨?_, HB1.out.alloc HB1.out.size _⟩
  all_goals (clear HB1 HSu; unfold errQ; congr 2; simp_all <;> omega)
end Go.Proofs.YtbjobbkipmkndaaDoor
set_option linter.unusedVariables false
namespace Go.Proofs.YtbjobbkipmkndaaDoor
open Go.RowKit
section
variable {T : Type}
def PV (E : TypeId) (k : Nat) (c : T → List Value) (w : World) (n0 : Nat) (xs : List T) (v : Value) : Prop := w.ownsRow n0 E k v xs.length (xs.flatMap c)
theorem own_base {w : World} {B B' n k : Nat} {t : TypeId} {v : Value} {xs : List Value} (h : w.ownsRow B t k v n xs) (hB : B' ≤ B) : w.ownsRow B' t k v n xs := by
  obtain ⟨h1, h2⟩ := h
  refine ⟨h1, ?_⟩
  rcases h2 with h2 | ⟨g, cap, cur, e, hb, r⟩
  · exact .inl h2
  · exact .inr ⟨g, cap, cur, e, by omega, r⟩
theorem PV.nil (E : TypeId) (k : Nat) (c : T → List Value) (w : World) (n0 : Nat) : PV E k c w n0 [] (.slice none 0 0) := ⟨by simp, .inl ⟨rfl, rfl⟩⟩
theorem PV.below {E : TypeId} {k : Nat} {c : T → List Value} {w w' : World} {n0 : Nat} {xs : List T} {v : Value} (h : PV E k c w n0 xs v) (hb : Below w.heap.size w w') : PV E k c w' n0 xs v := own_below h hb
theorem PV.only {E : TypeId} {k : Nat} {c : T → List Value} {w w' : World} {n0 G : Nat} {xs : List T} {v : Value} (h : PV E k c w n0 xs v) (hG : G < n0) (hb : Only G w w') : PV E k c w' n0 xs v := by
  refine own_keep h (S := fun b => b = G) ⟨hb.os, hb.tape, hb.output, hb.size, hb.block⟩ fun g hg e => ?_
  have := (own_at h g hg).1
  omega
theorem flat_get {c : T → List Value} {k : Nat} (hc : ∀ x, (c x).length = k) : ∀ (xs : List T) (j : Nat) (hj : j < xs.length) (i : Nat), i < k → (xs.flatMap c)[j * k + i]? = (c xs[j])[i]?
  | [], j, hj, _, _ => by cases hj
  | x :: xs, 0, _, i, hi => by
    rw [List.flatMap_cons, Nat.zero_mul, Nat.zero_add, List.getElem?_append_left (by rw [hc]; exact hi)]
    rfl
  | x :: xs, j + 1, hj, i, hi => by
    have e : (j + 1) * k + i = k + (j * k + i) := by rw [Nat.add_mul]; omega
    rw [List.flatMap_cons, e, List.getElem?_append_right (by rw [hc]; omega), hc, Nat.add_sub_cancel_left]
    exact flat_get hc xs j (by have : j + 1 < xs.length + 1 := hj; omega) i hi
theorem PV.get {E : TypeId} {k : Nat} {c : T → List Value} {w : World} {n0 g n cap : Nat} {xs : List T} (h : PV E k c w n0 xs (.slice (some ⟨g, 0, none⟩) n cap)) (hc : ∀ x, (c x).length = k) (j : Nat) (hj : j < xs.length) (i : Nat) (hi : i < k) : w.cell? ⟨g, j * k + i, none⟩ = (c xs[j])[i]? := by
  have hu : (xs.flatMap c)[j * k + i]? = some ((c xs[j])[i]'(by rw [hc]; exact hi)) := by rw [flat_get hc xs j hj i hi, List.getElem?_eq_getElem]
  have := World.ownsRow.cells (g := g) h rfl (j * k + i) _ hu
  rw [add_at] at this
  rw [this, List.getElem?_eq_getElem (by rw [hc]; exact hi)]
def gcl (gv : Nat → Value) : Array Value := #[gv 0, gv 1, gv 2, gv 3, gv 4, gv 5, gv 6, gv 7, gv 8, gv 9]
theorem gcl_get (gv : Nat → Value) (k : Nat) (hk : k < 10) : (gcl gv)[k]? = some (gv k) := by
  have : k = 0 ∨ k = 1 ∨ k = 2 ∨ k = 3 ∨ k = 4 ∨ k = 5 ∨ k = 6 ∨ k = 7 ∨ k = 8 ∨ k = 9 := by omega
  rcases this with rfl | rfl | rfl | rfl | rfl | rfl | rfl | rfl | rfl | rfl <;> rfl
def upV (gv : Nat → Value) (k : Nat) (v : Value) : Nat → Value := fun j => if j = k then v else gv j
theorem gcl_set (gv : Nat → Value) (k : Nat) (hk : k < 10) (v : Value) : (gcl gv).setIfInBounds k v = gcl (upV gv k v) := by
  have : k = 0 ∨ k = 1 ∨ k = 2 ∨ k = 3 ∨ k = 4 ∨ k = 5 ∨ k = 6 ∨ k = 7 ∨ k = 8 ∨ k = 9 := by omega
  rcases this with rfl | rfl | rfl | rfl | rfl | rfl | rfl | rfl | rfl | rfl <;> rfl
structure GMv (AT E : TypeId) (k : Nat) (c : T → List Value) (w : World) (G : Nat) (grp : Nat → List T) (gv : Nat → Value) : Prop where
  box : w.heap[G]? = some (.cells (gcl gv) AT (0, 0))
  pv : ∀ j, j < 10 → PV E k c w (G + 1) (grp j) (gv j)
def Mov (gv gv' : Nat → Value) (n : Nat) : Prop := ∀ j b, j < 10 → (gv' j).ownBlock = some b → (gv j).ownBlock = some b ∨ n ≤ b
theorem Mov.refl (gv : Nat → Value) (n : Nat) : Mov gv gv n := fun _ _ _ h => .inl h
theorem Mov.trans {a b c : Nat → Value} {n m : Nat} (h : Mov a b n) (k : Mov b c m) (hm : n ≤ m) : Mov a c n := fun j x hj hx => by
  rcases k j x hj hx with k | k
  · exact h j x hj k
  · exact .inr (by omega)
theorem GMv.lt {AT E : TypeId} {k : Nat} {c : T → List Value} {w : World} {G : Nat} {grp : Nat → List T} {gv : Nat → Value} (h : GMv AT E k c w G grp gv) : G < w.heap.size := (Array.getElem?_eq_some_iff.1 h.box).1
theorem GMv.below {AT E : TypeId} {k : Nat} {c : T → List Value} {w w' : World} {G : Nat} {grp : Nat → List T} {gv : Nat → Value} (h : GMv AT E k c w G grp gv) (hb : Below w.heap.size w w') : GMv AT E k c w' G grp gv :=
  ⟨(hb.block G h.lt).trans h.box, fun j hj => (h.pv j hj).below hb⟩
theorem GMv.keep {AT E : TypeId} {k : Nat} {c : T → List Value} {w w' : World} {G : Nat} {grp : Nat → List T} {gv : Nat → Value} {S : Nat → Prop} (h : GMv AT E k c w G grp gv) (hb : Keep S w w') (hG : ¬ S G) (hS : ∀ j g, j < 10 → (gv j).ownBlock = some g → ¬ S g) : GMv AT E k c w' G grp gv :=
  ⟨(hb.block G h.lt hG).trans h.box, fun j hj => own_keep (h.pv j hj) hb (fun g hg => hS j g hj hg)⟩
theorem GMv.cell {AT E : TypeId} {k : Nat} {c : T → List Value} {w : World} {G : Nat} {grp : Nat → List T} {gv : Nat → Value} (h : GMv AT E k c w G grp gv) (j : Nat) (hj : j < 10) : w.cell? ⟨G, j, none⟩ = some (gv j) := (cell_of_row w G j _ _ _ h.box).trans (gcl_get gv j hj)
theorem GMv.free {AT E : TypeId} {k : Nat} {c : T → List Value} {w : World} {G : Nat} {grp : Nat → List T} {gv : Nat → Value} (h : GMv AT E k c w G grp gv) (j : Nat) : w.frozen? ⟨G, j, none⟩ = false := frozen_of_row w G j _ _ h.box
theorem GMv.put {AT E : TypeId} {k : Nat} {c : T → List Value} {w : World} {G : Nat} {grp : Nat → List T} {gv : Nat → Value} (h : GMv AT E k c w G grp gv) (g : Nat) (hg : g < 10) {ps : List T} {v : Value} (hp : PV E k c w (G + 1) ps v) : GMv AT E k c (w.setCell ⟨G, g, none⟩ v) G (upG grp g ps) (upV gv g v) := by
  refine ⟨?_, fun j hj => ?_⟩
  · rw [← gcl_set gv g hg v]
    exact heap_setCell_same w G g _ _ v h.box
  · unfold upG upV
    by_cases e : j = g
    · rw [if_pos e, if_pos e]
      exact hp.only (by omega) ((Only.refl G w).put g v)
    · rw [if_neg e, if_neg e]
      exact (h.pv j hj).only (by omega) ((Only.refl G w).put g v)
theorem GMv.row {AT E : TypeId} {k : Nat} {c : T → List Value} {w : World} {G P : Nat} {grp : Nat → List T} {gv : Nat → Value} (h : GMv AT E k c w G grp gv) (hP : G ≠ P ∧ ∀ j, j < 10 → (gv j).ownBlock ≠ some P) (cs : Array Value) : GMv AT E k c (w.setRow P cs) G grp gv :=
  h.keep (S := fun b => b = P) ⟨rfl, rfl, rfl, by rw [setRow_size]; exact Nat.le_refl _, fun b _ hb => setRow_other w P b cs hb⟩ hP.1 (fun j g hj hg e => hP.2 j hj (by rw [← e]; exact hg))
structure Env (RU VA : Nat) (w : World) (G X1 X3 : Nat) : Prop where
  c1 : w.cell? ⟨X1, 0, none⟩ = some (.func (.func RU) #[] #[])
  c3 : w.cell? ⟨X3, 0, none⟩ = some (.func (.func VA) #[] #[.pointer (some ⟨X1, 0, none⟩), .pointer (some ⟨G, 0, none⟩), .pointer (some ⟨X3, 0, none⟩)])
  n1 : X1 ≠ G
  n3 : X3 ≠ G
theorem Env.only {RU VA : Nat} {w w' : World} {G X1 X3 : Nat} (h : Env RU VA w G X1 X3) (k : Only G w w') : Env RU VA w' G X1 X3 :=
  ⟨(cell_same (k.block X1 (World.block_lt_of_cell? w _ h.c1) h.n1)).trans h.c1, (cell_same (k.block X3 (World.block_lt_of_cell? w _ h.c3) h.n3)).trans h.c3, h.n1, h.n3⟩
theorem valF_step (R : TN → List T → T) (f : F) (k : Nat) (hk : k < f.len) (G : Nat → List T) : valF R (f.drop k) G = ((valN R (f.nth k) G).1 :: (valF R (f.drop (k + 1)) (valN R (f.nth k) G).2).1, (valF R (f.drop (k + 1)) (valN R (f.nth k) G).2).2) := by
  rw [F.drop_step f k hk, valF_cons]
theorem preF_step (I : T → Prop) (R : TN → List T → T) (f : F) (k : Nat) (hk : k < f.len) (G : Nat → List T) : preF I R (f.drop k) G ↔ preN I R (f.nth k) G ∧ preF I R (f.drop (k + 1)) (valN R (f.nth k) G).2 := by
  rw [F.drop_step f k hk, preF_cons]
end
end Go.Proofs.YtbjobbkipmkndaaDoor
set_option linter.unusedVariables false
set_option linter.unusedSimpArgs false
set_option maxRecDepth 100000
set_option maxHeartbeats 8000000
namespace Go.Proofs.YtbjobbkipmkndaaDoor
open Go.RowKit
def cells_i (x : Int) : List Value := [.int .i64 x]
theorem clen_i (x : Int) : (cells_i x).length = 1 := rfl
theorem info_i : (Tryd.prog.info? 3).map (fun i => (i.zero, i.size, i.bytes)) = some (some (.int .i64 0), 1, 8) := by kernel_rfl
abbrev Rule_i (I : Int → Prop) (R : TN → List Int → Int) : Prop := ∀ (W : World) (n0 : Nat) (t : TN) (ad : Option Addr) (cap : Nat) (ps : List Int) (pv : Value), PV 3 1 cells_i W n0 ps pv → PN I t ps →
  Calls Tryd.prog 39 #[.agg #[.int .i64 t.op, .int .u64 (wd t.st 0 64 : Nat), .int .u64 (wd t.st 64 64 : Nat), .int .u64 (wd t.st 128 64 : Nat), .int .u64 (wd t.st 192 64 : Nat), .int .i64 t.lo, .int .i64 t.hi, .int .i64 t.g, .slice ad t.args.len cap], pv] W fun e w' => e = .returned (.int .i64 (R t ps)) ∧ Below W.heap.size W w'
def Val_i (I : Int → Prop) (R : TN → List Int → Int) (f : F) : Prop := ∀ (o l h g : Int) (st : Nat → Bool) (sv : Value) (w : World) (S : Nat → Prop) (G X1 X3 : Nat) (grp : Nat → List Int) (gv : Nat → Value), SV w S f sv → (∀ b, S b → b < G) → GMv 85 3 1 cells_i w G grp gv → Env 39 48 w G X1 X3 → preN I R ⟨o, st, l, h, g, f⟩ grp →
  Calls Tryd.prog 48 #[.agg #[.int .i64 o, .int .u64 (wd st 0 64 : Nat), .int .u64 (wd st 64 64 : Nat), .int .u64 (wd st 128 64 : Nat), .int .u64 (wd st 192 64 : Nat), .int .i64 l, .int .i64 h, .int .i64 g, sv], .pointer (some ⟨X1, 0, none⟩), .pointer (some ⟨G, 0, none⟩), .pointer (some ⟨X3, 0, none⟩)] w fun e w' => e = .returned (.int .i64 (valN R ⟨o, st, l, h, g, f⟩ grp).1) ∧ (∃ gv', GMv 85 3 1 cells_i w' G (valN R ⟨o, st, l, h, g, f⟩ grp).2 gv' ∧ Mov gv gv' w.heap.size) ∧ Only G w w'
theorem mapped_i (I : Int → Prop) (R : TN → List Int → Int) (f : F) (hch : ∀ i, i < f.len → Val_i I R (f.nth i).args) (sv : Value) (w : World) (S : Nat → Prop) (G X1 X3 : Nat) (grp : Nat → List Int) (gv : Nat → Value) (hsv : SV w S f sv) (hS : ∀ b, S b → b < G) (h0 : GMv 85 3 1 cells_i w G grp gv) (hE : Env 39 48 w G X1 X3) (hpre : preF I R f grp) (hlen : f.len ≤ 600) :
    Calls Tryd.prog 49 #[sv, .func (.func 48) #[] #[.pointer (some ⟨X1, 0, none⟩), .pointer (some ⟨G, 0, none⟩), .pointer (some ⟨X3, 0, none⟩)]] w fun e w' => ∃ rv, e = .returned rv ∧ PV 3 1 cells_i w' w.heap.size (valF R f grp).1 rv ∧ (∃ gv', GMv 85 3 1 cells_i w' G (valF R f grp).2 gv' ∧ Mov gv gv' w.heap.size) ∧ Only G w w' := by
  obtain ⟨zs, ad, cap, rfl, hcap, hfv, hcells⟩ := hsv
  have hfl : (f.len : Int) ≤ 600 := by omega
  have hGl := h0.lt
  have HGL := Lib.hid hGl
  have HS := Lib.hid hS
  have HCh := Lib.hid hch
  have HFV := Lib.hid hfv
  have HCe := Lib.hid hcells
  have H0 := Lib.hid h0
  have HE := Lib.hid hE
  have HP := Lib.hid hpre
  clear h0 hE hpre hS hch hfv hcells hcap hGl
  go_enter Tryd.func49, Tryd.ntmps49
  go_wp2_with fail
  go_loopw [5, 10] (fun v i wr => ∃ (j : Nat) (ys : List Int) (grp' : Nat → List Int) (gv' : Nat → Value), j ≤ f.len ∧ i = .int .i64 j ∧ Hid (ys.length = j ∧ PV 3 1 cells_i wr w.heap.size ys v ∧ GMv 85 3 1 cells_i wr G grp' gv' ∧ Mov gv gv' w.heap.size ∧ (∀ a b, a < 10 → v.ownBlock = some b → (gv' a).ownBlock ≠ some b) ∧ Only G w wr ∧ preF I R (f.drop j) grp' ∧ valF R f grp = (ys ++ (valF R (f.drop j) grp').1, (valF R (f.drop j) grp').2))) (fun _ i _ => f.len - (intOf i).toNat)
  case atStart =>
    refine ⟨0, [], grp, gv, Nat.zero_le _, rfl, Lib.hid ⟨rfl, PV.nil _ _ _ _ _, H0.out, Mov.refl _ _, fun a b _ hb => (by cases hb), Only.refl G w, ?_, ?_⟩⟩
    · rw [show f.drop 0 = f by cases f <;> rfl]; exact HP.out
    · rw [show f.drop 0 = f by cases f <;> rfl]; rfl
  case round =>
    obtain ⟨j, ys, grp', gv', hj, rfl, HB⟩ := hrel
    by_cases hjn : j < f.len
    · have ki : (j : Int) < f.len := by omega
      have ki0 : (0 : Int) ≤ j := by omega
      obtain ⟨b, i0, rfl, hSb, hbl, hce⟩ : ∃ b i, ad = some ⟨b, i, none⟩ ∧ S b ∧ b < w.heap.size ∧ ∀ j u, zs[j]? = some u → w.cell? ⟨b, i + j, none⟩ = some u := by
        rcases HCe.out with h0 | h0
        · omega
        · exact h0
      obtain ⟨sv2, hsv2, hrow⟩ := FV.nth j HFV.out hjn
      obtain ⟨ad2, cp2, rfl⟩ := slice_form hsv2
      obtain ⟨rad, rcap, rfl⟩ := own_sl HB.out.2.1
      have hon := HB.out.2.2.2.2.2.1
      have hcell : ∀ j' u, (rowV (f.nth j).op (f.nth j).st (f.nth j).lo (f.nth j).hi (f.nth j).g (.slice ad2 (f.nth j).args.len cp2))[j']? = some u → wr.cell? ⟨b, i0 + j * 9 + j', none⟩ = some u := fun j' u hu => by
        rw [cell_same (hon.block b hbl (by have := HS.out b hSb; omega)), Nat.add_assoc]
        exact hce _ u (hrow j' u hu)
      have c0 := hcell 0 _ rfl
      have c1 := hcell 1 _ rfl
      have c2 := hcell 2 _ rfl
      have c3 := hcell 3 _ rfl
      have c4 := hcell 4 _ rfl
      have c5 := hcell 5 _ rfl
      have c6 := hcell 6 _ rfl
      have c7 := hcell 7 _ rfl
      have c8 := hcell 8 _ rfl
      rw [Nat.add_zero] at c0
      have hp1 := (preF_step I R f j hjn grp').1 HB.out.2.2.2.2.2.2.1
      have he1 := HB.out.2.2.2.2.2.2.2
      rw [valF_step R f j hjn grp'] at he1
      have HP1 := Lib.hid hp1
      have HE1 := Lib.hid he1
      have HEr := Lib.hid (HE.out.only hon)
      have HSr : Hid (SV wr S (f.nth j).args (.slice ad2 (f.nth j).args.len cp2)) := Lib.hid (hsv2.far (Afar.only_ne hon (fun b h => by have := HS.out b h; omega)))
      have HCk := Lib.hid (HCh.out j hjn (f.nth j).op (f.nth j).lo (f.nth j).hi (f.nth j).g (f.nth j).st (.slice ad2 (f.nth j).args.len cp2))
      obtain ⟨Y, hY⟩ : ∃ Y, valN R (f.nth j) grp' = Y := ⟨_, rfl⟩
      have HY := Lib.hid hY
      have HC2 : Hid (∀ W, SV W S (f.nth j).args (.slice ad2 (f.nth j).args.len cp2) → GMv 85 3 1 cells_i W G grp' gv' → Env 39 48 W G X1 X3 → Calls Tryd.prog 48 #[.agg #[.int .i64 (f.nth j).op, .int .u64 (wd (f.nth j).st 0 64 : Nat), .int .u64 (wd (f.nth j).st 64 64 : Nat), .int .u64 (wd (f.nth j).st 128 64 : Nat), .int .u64 (wd (f.nth j).st 192 64 : Nat), .int .i64 (f.nth j).lo, .int .i64 (f.nth j).hi, .int .i64 (f.nth j).g, .slice ad2 (f.nth j).args.len cp2], .pointer (some ⟨X1, 0, none⟩), .pointer (some ⟨G, 0, none⟩), .pointer (some ⟨X3, 0, none⟩)] W fun e w' => e = .returned (.int .i64 Y.1) ∧ (∃ gv'', GMv 85 3 1 cells_i w' G Y.2 gv'' ∧ Mov gv' gv'' W.heap.size) ∧ Only G W w') := Lib.hid (fun W h1 h2 h3 => by rw [← HY.out]; exact HCk.out W S G X1 X3 grp' gv' h1 HS.out h2 h3 HP1.out.1)
      rw [hY] at he1 hp1
      have HP2 := Lib.hid hp1.2
      have HE2 := Lib.hid he1
      clear hcell hce hrow hsv2 hSb hbl hp1 he1 hY HP1 HE1 HCk hon
      obtain ⟨yc, yG⟩ := Y
      go_wp2_with (first
        | (go_at_call 48; (with_reducible refine (HC2.out _ (HSr.out.far (Afar.below ((Below.refl _ _).alloc (Nat.le_refl _) _))) (HB.out.2.2.1.below ((Below.refl _ _).alloc (Nat.le_refl _) _)) (HEr.out.only (Only.of_below ((Below.refl _ _).alloc (Nat.le_refl _) _)))).mono ?_); rintro e w1 ⟨rfl, ⟨gv2, hg2, hm2⟩, ho2⟩
           have HG2 := Lib.hid hg2
           have HM2 := Lib.hid hm2
           have HO2 := Lib.hid ((Only.of_below (B := G) ((Below.refl wr.heap.size wr).alloc (Nat.le_refl _) _)).trans ho2)
           have HPV := Lib.hid (HB.out.2.1.only HGL.out HO2.out)
           clear hg2 hm2 ho2 c0 c1 c2 c3 c4 c5 c6 c7 c8)
        | (at_builtin; refine app1 w.heap.size 51 3 (.int .i64 0) 1 8 Tryd.underlying51 info_i rfl (by decide) w1 rfl (.tmp 14) (.tmp 18) rfl (by have := HB.out.2.2.2.2.2.1.size; have := HO2.out.size; omega) (.slice rad ys.length rcap) ys.length _ (cells_i (yc, yG).1) rfl rfl HPV.out _ rfl rfl rfl ?d1 ?d2 ?d3 ?_))
      case d1 => simp [cells_i, Value.oneCell']
      case d2 => have := HB.out.1; unfold maxLen; omega
      case d3 => have := HB.out.1; omega
      intro g0 cap0 w8 ho8 hk8 hg8
      have hn8 : ∀ a b, a < 10 → (gv2 a).ownBlock = some b → (Value.slice rad ys.length rcap).ownBlock ≠ some b := fun a b ha hb e => by
        rcases HM2.out a b ha hb with h1 | h1
        · exact HB.out.2.2.2.2.1 a b ha e h1
        · have := (own_at HB.out.2.1 b e).2
          simp at h1
          omega
      have hG8 : ¬ (Value.slice rad ys.length rcap).ownBlock = some G := fun e => by have := (own_at HB.out.2.1 G e).1; have := HGL.out; omega
      have HF : Hid ((ys ++ [yc]).length = j + 1 ∧ PV 3 1 cells_i w8 w.heap.size (ys ++ [yc]) (.slice (some ⟨g0, 0, none⟩) (ys.length + 1) cap0) ∧ GMv 85 3 1 cells_i w8 G yG gv2 ∧ Mov gv gv2 w.heap.size ∧ (∀ a b, a < 10 → (Value.slice (some ⟨g0, 0, none⟩) (ys.length + 1) cap0).ownBlock = some b → (gv2 a).ownBlock ≠ some b) ∧ Only G w w8) := by
        refine Lib.hid ⟨by rw [List.length_append, HB.out.1]; rfl, ?_, HG2.out.keep hk8 hG8 (fun a b ha hb e => hn8 a b ha hb e), HB.out.2.2.2.1.trans HM2.out (by have := HB.out.2.2.2.2.2.1.size; simp; omega), ?_, ?_⟩
        · unfold PV
          rw [List.length_append, List.flatMap_append]
          have : ([yc] : List Int).flatMap cells_i = cells_i yc := by simp
          rw [this]
          exact ho8
        · intro a b ha hb e
          have hb : some g0 = some b := hb
          cases hb
          rcases hg8 with h1 | h1
          · exact hn8 a g0 ha e h1
          · have := (own_at (HG2.out.pv a ha) g0 e).2
            omega
        · have h1 := HB.out.2.2.2.2.2.1.trans HO2.out
          exact ⟨hk8.os.trans h1.os, hk8.tape.trans h1.tape, hk8.output.trans h1.output, Nat.le_trans h1.size hk8.size, fun b hb hne => (hk8.block b (by have := h1.size; omega) (fun e => by have := (own_at HB.out.2.1 b e).1; omega)).trans (h1.block b hb hne)⟩
      clear ho8 hk8 hg8 hn8 hG8
      go_wp2_with fail
      go_roundw
      case rel => exact ⟨j + 1, ys ++ [yc], yG, gv2, by omega, by go_num, Lib.hid ⟨HF.out.1, HF.out.2.1, HF.out.2.2.1, HF.out.2.2.2.1, HF.out.2.2.2.2.1, HF.out.2.2.2.2.2, HP2.out, by rw [HE2.out, List.append_assoc]; rfl⟩⟩
      case measure => simp [intOf]; omega
    · obtain rfl : j = f.len := by omega
      have hend := HB.out.2.2.2.2.2.2.2
      rw [F.drop_len] at hend
      have hend : valF R f grp = (ys ++ [], grp') := hend
      rw [List.append_nil] at hend
      have HEnd := Lib.hid hend
      clear hend
      obtain ⟨rad, rcap, rfl⟩ := own_sl HB.out.2.1
      go_wp2_with fail
      go_ret
      rw [HEnd.out]
      exact ⟨_, rfl, HB.out.2.1, ⟨gv', HB.out.2.2.1, HB.out.2.2.2.1⟩, HB.out.2.2.2.2.2.1⟩
end Go.Proofs.YtbjobbkipmkndaaDoor
