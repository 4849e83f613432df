/- Several texts in one (a claim has at most 60 files). -/
import Derived.Test.YtpfbpgbgedbalaaMB
import Derived.Test.YtpfbpgbgedbalaaMD
import Derived.Test.YtpfbpgbgedbalaaMA
import Derived.Deep.RegionHeld3
import Derived.BigRegion
import Derived.BigQuiet
import Derived.StillTailTactics
/- A tree that comes in, of a bounded bulk, with one to spare. -/
set_option linter.unusedVariables false
set_option maxRecDepth 100000
namespace Go.Proofs.Ytpfbpgbgedbalaa
open Go.ChangeShapes Go.WideShapes Go.ChangeAt Go.RowKit
theorem bulk_pos {H : Type} (d : DataW H) : 1 ≤ Rows.uptoBulk d := by
  cases d with
  | lit l => cases l <;> simp [Rows.uptoBulk]
  | _ => simp [Rows.uptoBulk]
namespace Tree
section
variable {H : Type} {enc : TypeId × Value → H} {W : World} {base : Nat} {sp : Nat → Bool} {hd : Bool}
/-- A tree's nine cells, for every fuel. -/
theorem open_rowC (fuel : Nat) : ∀ {cs : List Value} {x : DataW H × List MemPlace}, cs.length = 9 → DataW.trod enc Try.prog W base sp hd fuel 28 cs = some x →
    ∃ o s l g' g a sv, cs = rowV o s l g' g sv ∧ SV W (Std W) a sv ∧ (F.cons o s l g' g a .nil).fits ∧ szF a + 2 ≤ Rows.uptoBulk x.1 := by
  induction fuel using Nat.strongRecOn with
  | ind fuel ih =>
  intro cs x hl9 h
  obtain ⟨f0, f1, f2, f3, f4, f5, hu, ⟨⟨a0, o0⟩, ⟨a1, o1⟩, ⟨a2, o2⟩⟩, ⟨a3, o3⟩, ⟨a4, o4⟩, a5, o5⟩ := fieldsR
  obtain ⟨c0, c1, c2, c3, c4, c5, c6, c7, c8, rfl⟩ := list9' cs hl9
  obtain ⟨xs, n, rfl, hxe, hl, hlen, hf⟩ := DataW.trod_struct hu h
  obtain ⟨y0, y1, y2, y3, y4, y5, rfl⟩ := list6' xs (by simpa using hlen)
  have t0 := hf 0 f0 rfl
  have t1 := hf 1 f1 rfl
  have t2 := hf 2 f2 rfl
  have t3 := hf 3 f3 rfl
  have t4 := hf 4 f4 rfl
  have t5 := hf 5 f5 rfl
  rw [a0, o0, cells_int] at t0
  rw [a1, o1, cells_cs] at t1
  rw [a2, o2, cells_int] at t2
  rw [a3, o3, cells_int] at t3
  rw [a4, o4, cells_int] at t4
  rw [a5, o5, cells_sre] at t5
  obtain ⟨z0, e0, _, w0⟩ := DataW.trod_int Try.underlying3 (by simpa using t0)
  obtain ⟨z2, e2, _, w2⟩ := DataW.trod_int Try.underlying3 (by simpa using t2)
  obtain ⟨z3, e3, _, w3⟩ := DataW.trod_int Try.underlying3 (by simpa using t3)
  obtain ⟨z4, e4, _, w4⟩ := DataW.trod_int Try.underlying3 (by simpa using t4)
  obtain ⟨P, hP⟩ := open_words (c0 := c1) (c1 := c2) (c2 := c3) (c3 := c4) (by simpa using t1)
  simp only [List.cons.injEq, and_true] at e0 e2 e3 e4
  subst e0 e2 e3 e4
  have b0 := bounds_i64 w0
  have b2 := bounds_i64 w2
  have b3 := bounds_i64 w3
  have b4 := bounds_i64 w4
  have hc : [Value.int .i64 z0, c1, c2, c3, c4, .int .i64 z2, .int .i64 z3, .int .i64 z4, c8] = rowV z0 P z2 z3 z4 c8 := by
    have hP' : [c1, c2, c3, c4] = (cl P).toList := hP
    unfold cl at hP'
    simp only [List.cons.injEq, and_true] at hP'
    obtain ⟨p1, p2, p3, p4⟩ := hP'
    subst p1 p2 p3 p4
    rfl
  have t5' : DataW.trod enc Try.prog W base sp hd n 26 [c8] = some y5 := by simpa using t5
  rcases DataW.trod_slice Try.underlying26 t5' with ⟨e, _⟩ | ⟨ad, len, cap, elems, rest, m, rfl, e, hy5, hb, hle, hcap, hel, hx, _, _⟩
  · obtain rfl : c8 = .slice none 0 0 := by simpa using e
    exact ⟨z0, P, z2, z3, z4, .nil, _, hc, SV.nil _ _, ⟨⟨by omega, by omega, by omega, by omega⟩, Nat.zero_le _, trivial, trivial⟩, by rw [hxe]; simp only [List.map_cons, Rows.uptoBulk, Rows.uptoBulkAll]; have hp0 := bulk_pos y0.1; show 0 + 2 ≤ _; omega⟩
  · obtain rfl : c8 = .slice (some ad) len cap := by simpa using e
    rw [cells_re] at hx
    have hrow : ∀ i, i < len → ∃ cs', W.cells? base (ad.add (i * 9)) 9 = some cs' ∧ ∃ o s l g' g a sv, cs' = rowV o s l g' g sv ∧ SV W (Std W) a sv ∧ (F.cons o s l g' g a .nil).fits ∧ ∀ y, elems[i]? = some y → szF a + 1 ≤ Rows.uptoBulk y.1 := by
      intro i hi
      have h1 := hx i hi
      rw [List.getElem?_eq_getElem (by omega)] at h1
      obtain ⟨cs', h2, h3⟩ := Option.bind_eq_some_iff.1 h1
      obtain ⟨o, s, l, g', g, a, sv, q1, q2, q3, q4⟩ := ih m (by omega) (World.cells?_some h2).2.1 h3
      exact ⟨cs', h2, o, s, l, g', g, a, sv, q1, q2, q3, fun y hy => by
        rw [List.getElem?_eq_getElem (by omega)] at hy
        obtain rfl := Option.some.inj hy
        exact Nat.le_of_succ_le q4⟩
    obtain ⟨R, hR⟩ := Deep.choose_lt (α := List Value) (n := len) (p := fun i cs' => W.cells? base (ad.add (i * 9)) 9 = some cs' ∧ ∃ o s l g' g a sv, cs' = rowV o s l g' g sv ∧ SV W (Std W) a sv ∧ (F.cons o s l g' g a .nil).fits ∧ ∀ y, elems[i]? = some y → szF a + 1 ≤ Rows.uptoBulk y.1) hrow
    obtain ⟨f, zs, hv, hfl, hft, hz, hbk⟩ := FV.joinB (n := len) (R := R) (E := elems.map (·.1)) (by simpa using hel) (fun i hi => by
      obtain ⟨_, o, s, l, g', g, a, sv, q1, q2, q3, q4⟩ := hR i hi
      exact ⟨o, s, l, g', g, a, sv, q1, q2, q3, fun y hy => by
        rw [List.getElem?_map] at hy
        obtain ⟨z, hz1, rfl⟩ := Option.map_eq_some_iff.1 hy
        exact q4 z hz1⟩)
    refine ⟨z0, P, z2, z3, z4, f, _, hc, ⟨zs, some ad, cap, by rw [hfl], by omega, hv, ?_⟩, ⟨⟨by omega, by omega, by omega, by omega⟩, by omega, hft, trivial⟩, by
      rw [hxe]
      simp only [List.map_cons, hy5, Rows.uptoBulk, Rows.uptoBulkAll]
      omega⟩
    by_cases h0 : len = 0
    · exact .inl (by omega)
    obtain ⟨ha, hlt⟩ := elem_spot (k := 9) (by decide) (hR 0 (by omega)).1
    obtain ⟨b, off, spot⟩ := ad
    simp only [Addr.mk.injEq, true_and] at ha
    subst ha
    refine .inr ⟨b, off, rfl, hlt, hlt, fun j u hj => ?_⟩
    rw [hz] at hj
    obtain ⟨h1, h2⟩ := flat_at (k := 9) (fun i hi => (World.cells?_some (hR i hi).1).2.1) (by decide) j u hj
    rw [← h2, ← elem_cell (hR _ h1).1 (j % 9) (Nat.mod_lt _ (by decide))]
    have : off + j / 9 * 9 + j % 9 = off + j := by have := Nat.div_add_mod j 9; omega
    rw [this]
/-- A tree that came in, as the walks want it. -/
theorem open_reC {v : Value} {b0 : Nat} {d : DataW H} {p : List MemPlace} (hv : Value.okWide Try.prog W .any b0 28 v)
    (h : DataW.Trod enc Try.prog W base sp hd 28 v d p) : ∃ t : TN, TV W (Std W) t v ∧ (F.cons t.op t.st t.lo t.hi t.g t.args .nil).fits ∧ szF t.f + 1 ≤ Rows.uptoBulk d := by
  obtain ⟨f0, f1, f2, f3, f4, f5, hu, _⟩ := fieldsR
  obtain ⟨cells, rfl, hsz⟩ := okWide_struct hu hv
  rw [cells_re] at hsz
  obtain ⟨fuel, hf⟩ := h
  obtain ⟨o, s, l, g', g, a, sv, e, hs, hft, hbk⟩ := open_rowC fuel (cs := cells.toList) (by simpa using hsz) hf
  refine ⟨⟨o, s, l, g', g, a⟩, ⟨sv, ?_, hs⟩, hft, by show szF a + 1 + 0 + 1 ≤ _; omega⟩
  rw [← e]
end
end Tree
end Go.Proofs.Ytpfbpgbgedbalaa
/- The reference's Check; what is known of a tree, in retree's words. -/
set_option linter.unusedVariables false
set_option linter.unusedSimpArgs false
set_option maxRecDepth 100000
set_option maxHeartbeats 8000000
namespace Go.Proofs.Ytpfbpgbgedbalaa
open Go.RowKit

theorem rcheck_ti {w : World} {t : TN} {sv : Value} (h : TI w t sv) (hz : szF t.f ≤ 1048576) : Calls Try.prog 14 #[.agg #[.int .i64 t.op, .int .u64 (wd t.st 0 64 : Nat), .int .u64 (wd t.st 64 64 : Nat), .int .u64 (wd t.st 128 64 : Nat), .int .u64 (wd t.st 192 64 : Nat), .int .i64 t.lo, .int .i64 t.hi, .int .i64 t.g, sv]] w fun e w' => (∃ k, e = .returned (.int .i64 k) ∧ (k = 0 ↔ Valid t)) ∧ Below w.heap.size w w' := by
  obtain ⟨S, h1, h2, h3, h4, h5⟩ := h
  have hz' : szF t.args + 1 + 0 ≤ 1048576 := hz
  have hV := valid_ref t
  have e1 : typF t.f = (fldT t.op t.st t.lo t.hi t.g t.args.len && typF t.args) := by unfold TN.f; rw [typF, typF, Bool.and_true]
  have e2 : (rngF t.f 0).isSome = (rngN t.op t.lo t.hi t.g t.args 0).isSome := by
    unfold TN.f
    rw [rngF_cons]
    cases rngN t.op t.lo t.hi t.g t.args 0 <;> rfl
  have e3 : (nmdF t.f []).isSome = (nmdN t.op t.g t.args []).isSome := by
    unfold TN.f
    rw [nmdF_cons]
    cases nmdN t.op t.g t.args [] <;> rfl
  have e4 : szF t.f = szF t.args + 1 := rfl
  have e5 : grF t.f = (if t.op = 6 then 1 else 0) + grF t.args := rfl
  have e6 : lvlF t.f = lvlF t.args + 1 := by show max (lvlF t.args + 1) 0 = _; omega
  rw [e1, e2, e3, e4, e5, e6] at hV
  have HT := Lib.hid (fun W (hb : Below w.heap.size w W) => typ_any t.args t.op t.lo t.hi t.g t.st sv W S (h1.far (Afar.below hb)) h3)
  have HR := Lib.hid (fun W (hb : Below w.heap.size w W) => rng_any t.args t.op t.lo t.hi t.g t.st sv W S 0 (h1.far (Afar.below hb)) h3 ⟨h4, h5⟩ (by omega))
  simp only [Int.natCast_zero] at HR
  have HN := Lib.hid (fun W (hb : Below w.heap.size w W) => nam_any t.args t.op t.lo t.hi t.g t.st sv W S w.heap.size [] (.slice none 0 0) (h1.far (Afar.below hb)) h3 h2 hb.size (PV.nil _ _ _ _ _) (by show 0 + _ + 1 ≤ _; omega))
  have HS := Lib.hid (fun W (hb : Below w.heap.size w W) => siz_any t.args t.op t.lo t.hi t.g t.st sv W S (h1.far (Afar.below hb)) h3 (by omega))
  have HG := Lib.hid (fun W (hb : Below w.heap.size w W) => grp_any t.args t.op t.lo t.hi t.g t.st sv W S (h1.far (Afar.below hb)) h3 (by omega))
  have HL := Lib.hid (fun W (hb : Below w.heap.size w W) => lev_any t.args t.op t.lo t.hi t.g t.st sv W S (h1.far (Afar.below hb)) h3 (by omega))
  have hsl : szF t.args + 1 ≤ 1048576 := hz'
  have hgl := gr_sz t.args
  have hll := lv_sz t.args
  obtain ⟨ad, cap, rfl⟩ := slice_form h1
  generalize (fldT t.op t.st t.lo t.hi t.g t.args.len && typF t.args) = B1 at *
  generalize rngN t.op t.lo t.hi t.g t.args 0 = B2 at *
  generalize nmdN t.op t.g t.args [] = B3 at *
  generalize hZ : szF t.args + 1 = Z at *
  generalize hQ : (if t.op = 6 then 1 else 0) + grF t.args = Q at *
  have hQ2 : Q ≤ 1048577 := by rw [← hQ]; split <;> omega
  generalize hD : lvlF t.args + 1 = D at *
  have hD2 : D ≤ 1048577 := by omega
  have hx : Below w.heap.size w (w.alloc (.cells #[.int .i64 t.op, .int .u64 (wd t.st 0 64 : Nat), .int .u64 (wd t.st 64 64 : Nat), .int .u64 (wd t.st 128 64 : Nat), .int .u64 (wd t.st 192 64 : Nat), .int .i64 t.lo, .int .i64 t.hi, .int .i64 t.g, .slice ad t.args.len cap] 28)) := (Below.refl _ _).alloc (Nat.le_refl _) _
  have hg0 := nine (heap_alloc_new w (.cells #[.int .i64 t.op, .int .u64 (wd t.st 0 64 : Nat), .int .u64 (wd t.st 64 64 : Nat), .int .u64 (wd t.st 128 64 : Nat), .int .u64 (wd t.st 192 64 : Nat), .int .i64 t.lo, .int .i64 t.hi, .int .i64 t.g, .slice ad t.args.len cap] 28))
  have HX := Lib.hid hx
  have HV := Lib.hid hV
  have CF : Hid (∀ W, Below (w.alloc (.cells #[.int .i64 t.op, .int .u64 (wd t.st 0 64 : Nat), .int .u64 (wd t.st 64 64 : Nat), .int .u64 (wd t.st 128 64 : Nat), .int .u64 (wd t.st 192 64 : Nat), .int .i64 t.lo, .int .i64 t.hi, .int .i64 t.g, .slice ad t.args.len cap] 28)).heap.size (w.alloc (.cells #[.int .i64 t.op, .int .u64 (wd t.st 0 64 : Nat), .int .u64 (wd t.st 64 64 : Nat), .int .u64 (wd t.st 128 64 : Nat), .int .u64 (wd t.st 192 64 : Nat), .int .i64 t.lo, .int .i64 t.hi, .int .i64 t.g, .slice ad t.args.len cap] 28)) W → W.heap[w.heap.size]? = some (.cells #[.int .i64 t.op, .int .u64 (wd t.st 0 64 : Nat), .int .u64 (wd t.st 64 64 : Nat), .int .u64 (wd t.st 128 64 : Nat), .int .u64 (wd t.st 192 64 : Nat), .int .i64 t.lo, .int .i64 t.hi, .int .i64 t.g, .slice ad t.args.len cap] 28 (0, 0))) := Lib.hid fun W hb => (hb.block _ (by simp)).trans (heap_alloc_new w _)
  obtain ⟨⟨⟨a0, a1, a2⟩, a3, a4, a5⟩, a6, a7, a8⟩ := hg0
  generalize hW2 : w.alloc (.cells #[.int .i64 t.op, .int .u64 (wd t.st 0 64 : Nat), .int .u64 (wd t.st 64 64 : Nat), .int .u64 (wd t.st 128 64 : Nat), .int .u64 (wd t.st 192 64 : Nat), .int .i64 t.lo, .int .i64 t.hi, .int .i64 t.g, .slice ad t.args.len cap] 28) = W2 at *
  have HBr := Lib.hid (Below.refl W2.heap.size W2)
  clear h1 h2 h3 h4 h5 hz hz' hV e1 e2 e3 e4 e5 e6 hgl hll hZ hQ hD hsl hx
  cases B1
  case false =>
    go_enter Try.func14, Try.ntmps14
    go_wp2_with (first
      | (go_at_call 38; (with_reducible refine (HT.out _ HX.out).mono ?_); rintro e w1 ⟨rfl, hb⟩
         have HB1 := Lib.hid (HBr.out.trans (hb.mono HBr.out.size))
         have H1 := Lib.hid (HX.out.trans (HB1.out.mono HX.out.size))
         clear a0 a1 a2 a3 a4 a5 a6 a7 a8 hb
         obtain ⟨⟨⟨a0, a1, a2⟩, a3, a4, a5⟩, a6, a7, a8⟩ := nine (CF.out _ HB1.out)))
    go_ret
    refine ⟨⟨7, rfl, ?_⟩, HX.out.trans (HB1.out.mono HX.out.size)⟩
    · rw [HV.out]; simp
  cases B2 with
  | none =>
    go_enter Try.func14, Try.ntmps14
    go_wp2_with (first
      | (go_at_call 38; (with_reducible refine (HT.out _ HX.out).mono ?_); rintro e w1 ⟨rfl, hb⟩
         have HB1 := Lib.hid (HBr.out.trans (hb.mono HBr.out.size))
         have H1 := Lib.hid (HX.out.trans (HB1.out.mono HX.out.size))
         clear a0 a1 a2 a3 a4 a5 a6 a7 a8 hb
         obtain ⟨⟨⟨a0, a1, a2⟩, a3, a4, a5⟩, a6, a7, a8⟩ := nine (CF.out _ HB1.out))
      | (go_at_call 39; (with_reducible refine (HR.out _ H1.out).mono ?_); rintro e w2 ⟨⟨m2, b2, rfl, hb2⟩, hb⟩
         replace hb2 : b2 = false := hb2; subst hb2
         have HB2 := Lib.hid (HB1.out.trans (hb.mono HB1.out.size))
         have H2 := Lib.hid (HX.out.trans (HB2.out.mono HX.out.size))
         clear a0 a1 a2 a3 a4 a5 a6 a7 a8 hb
         obtain ⟨⟨⟨a0, a1, a2⟩, a3, a4, a5⟩, a6, a7, a8⟩ := nine (CF.out _ HB2.out)))
    go_ret
    refine ⟨⟨2, rfl, ?_⟩, HX.out.trans (HB2.out.mono HX.out.size)⟩
    · rw [HV.out]; simp
  | some m3 =>
  cases B3 with
  | none =>
    go_enter Try.func14, Try.ntmps14
    go_wp2_with (first
      | (go_at_call 38; (with_reducible refine (HT.out _ HX.out).mono ?_); rintro e w1 ⟨rfl, hb⟩
         have HB1 := Lib.hid (HBr.out.trans (hb.mono HBr.out.size))
         have H1 := Lib.hid (HX.out.trans (HB1.out.mono HX.out.size))
         clear a0 a1 a2 a3 a4 a5 a6 a7 a8 hb
         obtain ⟨⟨⟨a0, a1, a2⟩, a3, a4, a5⟩, a6, a7, a8⟩ := nine (CF.out _ HB1.out))
      | (go_at_call 39; (with_reducible refine (HR.out _ H1.out).mono ?_); rintro e w2 ⟨⟨m2, b2, rfl, hb2⟩, hb⟩
         obtain ⟨rfl, rfl⟩ : m2 = (m3 : Int) ∧ b2 = true := hb2
         have HB2 := Lib.hid (HB1.out.trans (hb.mono HB1.out.size))
         have H2 := Lib.hid (HX.out.trans (HB2.out.mono HX.out.size))
         clear a0 a1 a2 a3 a4 a5 a6 a7 a8 hb
         obtain ⟨⟨⟨a0, a1, a2⟩, a3, a4, a5⟩, a6, a7, a8⟩ := nine (CF.out _ HB2.out))
      | (go_at_call 40; (with_reducible refine (HN.out _ H2.out).mono ?_); rintro e w3 ⟨⟨cv, b3, rfl, hb3⟩, hb⟩
         replace hb3 : b3 = false := hb3; subst hb3
         have HB3 := Lib.hid (HB2.out.trans ((hb.below (Nat.le_refl _) (fun g e => by cases e)).mono HB2.out.size))
         have H3 := Lib.hid (HX.out.trans (HB3.out.mono HX.out.size))
         clear a0 a1 a2 a3 a4 a5 a6 a7 a8 hb
         obtain ⟨⟨⟨a0, a1, a2⟩, a3, a4, a5⟩, a6, a7, a8⟩ := nine (CF.out _ HB3.out)))
    go_ret
    refine ⟨⟨4, rfl, ?_⟩, HX.out.trans (HB3.out.mono HX.out.size)⟩
    · rw [HV.out]; simp
  | some L3 =>
  by_cases hz : 600 < Z
  · have hzd : decide ((600 : Int) < (Z : Int)) = true := by rw [decide_eq_true_iff]; omega
    go_enter Try.func14, Try.ntmps14
    go_wp2_with (first
      | (go_at_call 38; (with_reducible refine (HT.out _ HX.out).mono ?_); rintro e w1 ⟨rfl, hb⟩
         have HB1 := Lib.hid (HBr.out.trans (hb.mono HBr.out.size))
         have H1 := Lib.hid (HX.out.trans (HB1.out.mono HX.out.size))
         clear a0 a1 a2 a3 a4 a5 a6 a7 a8 hb
         obtain ⟨⟨⟨a0, a1, a2⟩, a3, a4, a5⟩, a6, a7, a8⟩ := nine (CF.out _ HB1.out))
      | (go_at_call 39; (with_reducible refine (HR.out _ H1.out).mono ?_); rintro e w2 ⟨⟨m2, b2, rfl, hb2⟩, hb⟩
         obtain ⟨rfl, rfl⟩ : m2 = (m3 : Int) ∧ b2 = true := hb2
         have HB2 := Lib.hid (HB1.out.trans (hb.mono HB1.out.size))
         have H2 := Lib.hid (HX.out.trans (HB2.out.mono HX.out.size))
         clear a0 a1 a2 a3 a4 a5 a6 a7 a8 hb
         obtain ⟨⟨⟨a0, a1, a2⟩, a3, a4, a5⟩, a6, a7, a8⟩ := nine (CF.out _ HB2.out))
      | (go_at_call 40; (with_reducible refine (HN.out _ H2.out).mono ?_); rintro e w3 ⟨⟨cv, b3, rfl, hb3⟩, hb⟩
         replace hb3 : b3 = true ∧ _ := hb3; obtain ⟨rfl, hp3, _⟩ := hb3; obtain ⟨cad, ccap, rfl⟩ := own_sl hp3; clear hp3
         have HB3 := Lib.hid (HB2.out.trans ((hb.below (Nat.le_refl _) (fun g e => by cases e)).mono HB2.out.size))
         have H3 := Lib.hid (HX.out.trans (HB3.out.mono HX.out.size))
         clear a0 a1 a2 a3 a4 a5 a6 a7 a8 hb
         obtain ⟨⟨⟨a0, a1, a2⟩, a3, a4, a5⟩, a6, a7, a8⟩ := nine (CF.out _ HB3.out))
      | (go_at_call 41; (with_reducible refine (HS.out _ H3.out).mono ?_); rintro e w4 ⟨rfl, hb⟩
         have HB4 := Lib.hid (HB3.out.trans (hb.mono HB3.out.size))
         have H4 := Lib.hid (HX.out.trans (HB4.out.mono HX.out.size))
         clear a0 a1 a2 a3 a4 a5 a6 a7 a8 hb
         obtain ⟨⟨⟨a0, a1, a2⟩, a3, a4, a5⟩, a6, a7, a8⟩ := nine (CF.out _ HB4.out)))
    go_ret
    refine ⟨⟨3, rfl, ?_⟩, HX.out.trans (HB4.out.mono HX.out.size)⟩
    · rw [HV.out]; constructor
      · intro h; cases h
      · rintro ⟨_, _, _, h, _, _⟩; omega
  have hzd : decide ((600 : Int) < (Z : Int)) = false := by rw [decide_eq_false_iff_not]; omega
  by_cases hq : 9 < Q
  · have hqd : decide ((9 : Int) < (Q : Int)) = true := by rw [decide_eq_true_iff]; omega
    go_enter Try.func14, Try.ntmps14
    go_wp2_with (first
      | (go_at_call 38; (with_reducible refine (HT.out _ HX.out).mono ?_); rintro e w1 ⟨rfl, hb⟩
         have HB1 := Lib.hid (HBr.out.trans (hb.mono HBr.out.size))
         have H1 := Lib.hid (HX.out.trans (HB1.out.mono HX.out.size))
         clear a0 a1 a2 a3 a4 a5 a6 a7 a8 hb
         obtain ⟨⟨⟨a0, a1, a2⟩, a3, a4, a5⟩, a6, a7, a8⟩ := nine (CF.out _ HB1.out))
      | (go_at_call 39; (with_reducible refine (HR.out _ H1.out).mono ?_); rintro e w2 ⟨⟨m2, b2, rfl, hb2⟩, hb⟩
         obtain ⟨rfl, rfl⟩ : m2 = (m3 : Int) ∧ b2 = true := hb2
         have HB2 := Lib.hid (HB1.out.trans (hb.mono HB1.out.size))
         have H2 := Lib.hid (HX.out.trans (HB2.out.mono HX.out.size))
         clear a0 a1 a2 a3 a4 a5 a6 a7 a8 hb
         obtain ⟨⟨⟨a0, a1, a2⟩, a3, a4, a5⟩, a6, a7, a8⟩ := nine (CF.out _ HB2.out))
      | (go_at_call 40; (with_reducible refine (HN.out _ H2.out).mono ?_); rintro e w3 ⟨⟨cv, b3, rfl, hb3⟩, hb⟩
         replace hb3 : b3 = true ∧ _ := hb3; obtain ⟨rfl, hp3, _⟩ := hb3; obtain ⟨cad, ccap, rfl⟩ := own_sl hp3; clear hp3
         have HB3 := Lib.hid (HB2.out.trans ((hb.below (Nat.le_refl _) (fun g e => by cases e)).mono HB2.out.size))
         have H3 := Lib.hid (HX.out.trans (HB3.out.mono HX.out.size))
         clear a0 a1 a2 a3 a4 a5 a6 a7 a8 hb
         obtain ⟨⟨⟨a0, a1, a2⟩, a3, a4, a5⟩, a6, a7, a8⟩ := nine (CF.out _ HB3.out))
      | (go_at_call 41; (with_reducible refine (HS.out _ H3.out).mono ?_); rintro e w4 ⟨rfl, hb⟩
         have HB4 := Lib.hid (HB3.out.trans (hb.mono HB3.out.size))
         have H4 := Lib.hid (HX.out.trans (HB4.out.mono HX.out.size))
         clear a0 a1 a2 a3 a4 a5 a6 a7 a8 hb
         obtain ⟨⟨⟨a0, a1, a2⟩, a3, a4, a5⟩, a6, a7, a8⟩ := nine (CF.out _ HB4.out))
      | (go_at_call 16; (with_reducible refine (HG.out _ H4.out).mono ?_); rintro e w5 ⟨rfl, hb⟩
         have HB5 := Lib.hid (HB4.out.trans (hb.mono HB4.out.size))
         have H5 := Lib.hid (HX.out.trans (HB5.out.mono HX.out.size))
         clear a0 a1 a2 a3 a4 a5 a6 a7 a8 hb
         obtain ⟨⟨⟨a0, a1, a2⟩, a3, a4, a5⟩, a6, a7, a8⟩ := nine (CF.out _ HB5.out)))
    go_ret
    refine ⟨⟨3, rfl, ?_⟩, HX.out.trans (HB5.out.mono HX.out.size)⟩
    · rw [HV.out]; constructor
      · intro h; cases h
      · rintro ⟨_, _, _, _, h, _⟩; omega
  have hqd : decide ((9 : Int) < (Q : Int)) = false := by rw [decide_eq_false_iff_not]; omega
  by_cases hd : 32 < D
  · have hdd : decide ((32 : Int) < (D : Int)) = true := by rw [decide_eq_true_iff]; omega
    go_enter Try.func14, Try.ntmps14
    go_wp2_with (first
      | (go_at_call 38; (with_reducible refine (HT.out _ HX.out).mono ?_); rintro e w1 ⟨rfl, hb⟩
         have HB1 := Lib.hid (HBr.out.trans (hb.mono HBr.out.size))
         have H1 := Lib.hid (HX.out.trans (HB1.out.mono HX.out.size))
         clear a0 a1 a2 a3 a4 a5 a6 a7 a8 hb
         obtain ⟨⟨⟨a0, a1, a2⟩, a3, a4, a5⟩, a6, a7, a8⟩ := nine (CF.out _ HB1.out))
      | (go_at_call 39; (with_reducible refine (HR.out _ H1.out).mono ?_); rintro e w2 ⟨⟨m2, b2, rfl, hb2⟩, hb⟩
         obtain ⟨rfl, rfl⟩ : m2 = (m3 : Int) ∧ b2 = true := hb2
         have HB2 := Lib.hid (HB1.out.trans (hb.mono HB1.out.size))
         have H2 := Lib.hid (HX.out.trans (HB2.out.mono HX.out.size))
         clear a0 a1 a2 a3 a4 a5 a6 a7 a8 hb
         obtain ⟨⟨⟨a0, a1, a2⟩, a3, a4, a5⟩, a6, a7, a8⟩ := nine (CF.out _ HB2.out))
      | (go_at_call 40; (with_reducible refine (HN.out _ H2.out).mono ?_); rintro e w3 ⟨⟨cv, b3, rfl, hb3⟩, hb⟩
         replace hb3 : b3 = true ∧ _ := hb3; obtain ⟨rfl, hp3, _⟩ := hb3; obtain ⟨cad, ccap, rfl⟩ := own_sl hp3; clear hp3
         have HB3 := Lib.hid (HB2.out.trans ((hb.below (Nat.le_refl _) (fun g e => by cases e)).mono HB2.out.size))
         have H3 := Lib.hid (HX.out.trans (HB3.out.mono HX.out.size))
         clear a0 a1 a2 a3 a4 a5 a6 a7 a8 hb
         obtain ⟨⟨⟨a0, a1, a2⟩, a3, a4, a5⟩, a6, a7, a8⟩ := nine (CF.out _ HB3.out))
      | (go_at_call 41; (with_reducible refine (HS.out _ H3.out).mono ?_); rintro e w4 ⟨rfl, hb⟩
         have HB4 := Lib.hid (HB3.out.trans (hb.mono HB3.out.size))
         have H4 := Lib.hid (HX.out.trans (HB4.out.mono HX.out.size))
         clear a0 a1 a2 a3 a4 a5 a6 a7 a8 hb
         obtain ⟨⟨⟨a0, a1, a2⟩, a3, a4, a5⟩, a6, a7, a8⟩ := nine (CF.out _ HB4.out))
      | (go_at_call 16; (with_reducible refine (HG.out _ H4.out).mono ?_); rintro e w5 ⟨rfl, hb⟩
         have HB5 := Lib.hid (HB4.out.trans (hb.mono HB4.out.size))
         have H5 := Lib.hid (HX.out.trans (HB5.out.mono HX.out.size))
         clear a0 a1 a2 a3 a4 a5 a6 a7 a8 hb
         obtain ⟨⟨⟨a0, a1, a2⟩, a3, a4, a5⟩, a6, a7, a8⟩ := nine (CF.out _ HB5.out))
      | (go_at_call 42; (with_reducible refine (HL.out _ H5.out).mono ?_); rintro e w6 ⟨rfl, hb⟩
         have HB6 := Lib.hid (HB5.out.trans (hb.mono HB5.out.size))
         clear a0 a1 a2 a3 a4 a5 a6 a7 a8 hb
         obtain ⟨⟨⟨a0, a1, a2⟩, a3, a4, a5⟩, a6, a7, a8⟩ := nine (CF.out _ HB6.out)))
    go_ret
    refine ⟨⟨3, rfl, ?_⟩, HX.out.trans (HB6.out.mono HX.out.size)⟩
    · rw [HV.out]; constructor
      · intro h; cases h
      · rintro ⟨_, _, _, _, _, h⟩; omega
  · have hdd : decide ((32 : Int) < (D : Int)) = false := by rw [decide_eq_false_iff_not]; omega
    go_enter Try.func14, Try.ntmps14
    go_wp2_with (first
      | (go_at_call 38; (with_reducible refine (HT.out _ HX.out).mono ?_); rintro e w1 ⟨rfl, hb⟩
         have HB1 := Lib.hid (HBr.out.trans (hb.mono HBr.out.size))
         have H1 := Lib.hid (HX.out.trans (HB1.out.mono HX.out.size))
         clear a0 a1 a2 a3 a4 a5 a6 a7 a8 hb
         obtain ⟨⟨⟨a0, a1, a2⟩, a3, a4, a5⟩, a6, a7, a8⟩ := nine (CF.out _ HB1.out))
      | (go_at_call 39; (with_reducible refine (HR.out _ H1.out).mono ?_); rintro e w2 ⟨⟨m2, b2, rfl, hb2⟩, hb⟩
         obtain ⟨rfl, rfl⟩ : m2 = (m3 : Int) ∧ b2 = true := hb2
         have HB2 := Lib.hid (HB1.out.trans (hb.mono HB1.out.size))
         have H2 := Lib.hid (HX.out.trans (HB2.out.mono HX.out.size))
         clear a0 a1 a2 a3 a4 a5 a6 a7 a8 hb
         obtain ⟨⟨⟨a0, a1, a2⟩, a3, a4, a5⟩, a6, a7, a8⟩ := nine (CF.out _ HB2.out))
      | (go_at_call 40; (with_reducible refine (HN.out _ H2.out).mono ?_); rintro e w3 ⟨⟨cv, b3, rfl, hb3⟩, hb⟩
         replace hb3 : b3 = true ∧ _ := hb3; obtain ⟨rfl, hp3, _⟩ := hb3; obtain ⟨cad, ccap, rfl⟩ := own_sl hp3; clear hp3
         have HB3 := Lib.hid (HB2.out.trans ((hb.below (Nat.le_refl _) (fun g e => by cases e)).mono HB2.out.size))
         have H3 := Lib.hid (HX.out.trans (HB3.out.mono HX.out.size))
         clear a0 a1 a2 a3 a4 a5 a6 a7 a8 hb
         obtain ⟨⟨⟨a0, a1, a2⟩, a3, a4, a5⟩, a6, a7, a8⟩ := nine (CF.out _ HB3.out))
      | (go_at_call 41; (with_reducible refine (HS.out _ H3.out).mono ?_); rintro e w4 ⟨rfl, hb⟩
         have HB4 := Lib.hid (HB3.out.trans (hb.mono HB3.out.size))
         have H4 := Lib.hid (HX.out.trans (HB4.out.mono HX.out.size))
         clear a0 a1 a2 a3 a4 a5 a6 a7 a8 hb
         obtain ⟨⟨⟨a0, a1, a2⟩, a3, a4, a5⟩, a6, a7, a8⟩ := nine (CF.out _ HB4.out))
      | (go_at_call 16; (with_reducible refine (HG.out _ H4.out).mono ?_); rintro e w5 ⟨rfl, hb⟩
         have HB5 := Lib.hid (HB4.out.trans (hb.mono HB4.out.size))
         have H5 := Lib.hid (HX.out.trans (HB5.out.mono HX.out.size))
         clear a0 a1 a2 a3 a4 a5 a6 a7 a8 hb
         obtain ⟨⟨⟨a0, a1, a2⟩, a3, a4, a5⟩, a6, a7, a8⟩ := nine (CF.out _ HB5.out))
      | (go_at_call 42; (with_reducible refine (HL.out _ H5.out).mono ?_); rintro e w6 ⟨rfl, hb⟩
         have HB6 := Lib.hid (HB5.out.trans (hb.mono HB5.out.size))
         clear a0 a1 a2 a3 a4 a5 a6 a7 a8 hb
         obtain ⟨⟨⟨a0, a1, a2⟩, a3, a4, a5⟩, a6, a7, a8⟩ := nine (CF.out _ HB6.out)))
    go_ret
    refine ⟨⟨0, rfl, ?_⟩, HX.out.trans (HB6.out.mono HX.out.size)⟩
    · rw [HV.out]; exact ⟨fun _ => ⟨by simp, by simp, by simp, by omega, by omega, by omega⟩, fun _ => rfl⟩
/-- What is known of a tree. -/
def knF (t : TN) : FC := if checkT t = 0 then valT facR t else FC0
theorem len_kn (t : TN) : lenOf t = ((knF t).lo, (knF t).hi) := by
  unfold lenOf knF
  by_cases h : checkT t = 0
  · rw [if_pos h, if_pos h]
    exact (fac_vals t ((checkT_iff t).1 h)).2.1
  · rw [if_neg h, if_neg h]; rfl
theorem fst_kn (t : TN) : fstOf t = ((knF t).st, (knF t).nul) := by
  unfold fstOf knF
  by_cases h : checkT t = 0
  · rw [if_pos h, if_pos h]
    exact (fac_vals t ((checkT_iff t).1 h)).2.2.1
  · rw [if_neg h, if_neg h]; rfl
theorem nul_kn (t : TN) : nulOf t = (knF t).nul := by
  unfold nulOf knF
  by_cases h : checkT t = 0
  · rw [if_pos h, decide_eq_true h, Bool.true_and]
    exact (fac_vals t ((checkT_iff t).1 h)).1
  · rw [if_neg h, decide_eq_false h]; rfl
end Go.Proofs.Ytpfbpgbgedbalaa
/- Two trees without groups, one behind the other, and as alternatives: plain mathematics; the law's sum. -/
set_option linter.unusedVariables false
set_option linter.unusedSimpArgs false
set_option maxRecDepth 100000
set_option maxHeartbeats 8000000
namespace Go.Proofs.Ytpfbpgbgedbalaa
open Go.RowKit

theorem vF0 (f : F) (d : List Bool) (h : vF f [] = some d) (hg : grF f = 0) : d = [] := by
  obtain ⟨_, i2, _⟩ := vF_ref f [] d [] h Rel.nil
  have := rngF_gr _ _ _ i2
  simp only [List.length_nil] at this
  exact List.eq_nil_of_length_eq_zero (by omega)
theorem vF_cons0 (o : Int) (s : Nat → Bool) (l h g : Int) (a r : F) (d : List Bool) (hv : vF (.cons o s l h g a r) [] = some d) (hg : grF (.cons o s l h g a r) = 0) :
    (o ≠ 6 ∧ o ≠ 9) ∧ okN o s l h g a.len [] = true ∧ (vF a [] = some [] ∧ grF a = 0) ∧ vF r [] = some [] ∧ grF r = 0 := by
  have hg' : (if o = 6 then 1 else 0) + (grF a + grF r) = 0 := hg
  have h6 : o ≠ 6 := fun e => by rw [if_pos e] at hg'; omega
  rw [if_neg h6] at hg'
  rw [vF] at hv
  by_cases hok : okN o s l h g a.len [] = true
  case neg => rw [if_neg hok] at hv; cases hv
  rw [if_pos hok] at hv
  have h9 : o ≠ 9 := fun e => by
    obtain ⟨g1, g2, g3⟩ := clB_of ((okN_parts hok).2.2.1 e)
    rw [List.getD_nil] at g3
    cases g3
  rw [if_neg h6] at hv
  cases hva : vF a [] with
  | none => rw [hva] at hv; cases hv
  | some e =>
    have he := vF0 a e hva (by omega)
    subst he
    rw [hva] at hv
    replace hv : vF r (if o = 6 then List.set [] 0 true else []) = some d := hv
    rw [if_neg h6] at hv
    have hd := vF0 r d hv (by omega)
    subst hd
    exact ⟨⟨h6, h9⟩, hok, ⟨rfl, by omega⟩, hv, by omega⟩
theorem vF_back (o : Int) (s : Nat → Bool) (l h g : Int) (a r : F) (h6 : o ≠ 6) (hok : okN o s l h g a.len [] = true) (ha : vF a [] = some []) (hr : vF r [] = some []) : vF (.cons o s l h g a r) [] = some [] := by
  rw [vF, if_pos hok, if_neg h6, ha]
  show vF r (if o = 6 then _ else []) = some []
  rw [if_neg h6]
  exact hr
theorem facS_same : ∀ (f : F), vF f [] = some [] → grF f = 0 → ∀ X Y : Nat → FC, facS X f = facS Y f
  | .nil, _, _, _, _ => rfl
  | .cons o s l h g a r, hv, hg, X, Y => by
    obtain ⟨⟨h6, h9⟩, _, ⟨ha, ga⟩, hr, gr⟩ := vF_cons0 o s l h g a r _ hv hg
    rw [facS, facS, if_neg h9, if_neg h9, facS_same a ha ga X Y, facS_same r hr gr X Y]
theorem TN.f0 (t : TN) (h : Valid t) (hg : grF t.f = 0) : vF t.f [] = some [] := by
  obtain ⟨c, hv, _⟩ := h
  rw [hv, vF0 t.f c hv hg]
theorem sta0 (t : TN) (h : Valid t) : (survT t).n = szF t.f ∧ (survT t).cl.length = grF t.f ∧ (∃ X, facSN X t = knF t) ∧ FOk (knF t) := by
  have hk : knF t = valT facR t := by unfold knF; rw [if_pos ((checkT_iff t).2 h)]
  have hf := (fac_vals t h).2.2.2
  rw [← hk] at hf
  obtain ⟨c, hv, h9, hsz, hlv⟩ := h
  obtain ⟨_, i2, _⟩ := vF_ref t.f [] c [] hv Rel.nil
  have hg := rngF_gr _ _ _ i2
  simp only [List.length_nil, Nat.zero_add] at hg
  have hp := preK_of (grF t.f) t.f [] c hv (by omega) hsz
  obtain ⟨_, j2, j3⟩ := facF_stat t.f [] c (fun _ => FC0) (facF t.f (fun _ => FC0)).2 hv (fun _ _ => rfl)
  have hw := walkF_right t.f 1 SQ0 c rfl hv (by show 0 + _ ≤ 600; omega) (by omega)
  refine ⟨?_, ?_, ⟨(facF t.f (fun _ => FC0)).2, ?_⟩, hf⟩
  · show (walkF t.f 1 SQ0).n = _
    rw [hw.2.2.2.2.2.1]
    exact Nat.zero_add _
  · show (walkF t.f 1 SQ0).cl.length = _
    rw [hw.1]; exact hg
  · rw [hk, ← facN_val _ t hp]
    have e1 : facS (facF t.f (fun _ => FC0)).2 t.f = [facSN (facF t.f (fun _ => FC0)).2 t] := by
      generalize (facF t.f (fun _ => FC0)).2 = Z
      rfl
    have e2 : (facF t.f (fun _ => FC0)).1 = [(facN t (fun _ => FC0)).1] := by
      show (facF (.cons t.op t.st t.lo t.hi t.g t.args .nil) (fun _ => FC0)).1 = _
      rw [facF_cons]
      rfl
    rw [e1, e2] at j2
    exact (List.cons.inj j2).1
theorem kn0 (t : TN) (h : Valid t) (hg : grF t.f = 0) (X : Nat → FC) : knF t = facR t (facS X t.args) := by
  obtain ⟨Z, hZ⟩ := (sta0 t h).2.2.1
  obtain ⟨⟨_, h9⟩, _, ⟨ha, ga⟩, _⟩ := vF_cons0 _ _ _ _ _ _ _ _ (TN.f0 t h hg) hg
  rw [← hZ]
  unfold facSN
  rw [if_neg h9, facS_same t.args ha ga Z X]
def ctT (a b : TN) : TN := ⟨3, noSet, 0, 0, 0, two a b⟩
def alT (a b : TN) : TN := ⟨4, noSet, 0, 0, 0, two a b⟩
theorem catS_one (x : FC) (h : FOk x) : catS FC1 x = x := by
  obtain ⟨b, l, hh, s⟩ := x
  have h' : (0 ≤ l ∧ l ≤ 2147483647) ∧ (-1 ≤ hh ∧ hh ≤ 2147483647) := h
  have e1 : rsum 0 l = l := by unfold rsum; rw [if_neg (by omega), if_neg (by omega)]; omega
  have e2 : rsum 0 hh = hh := by
    unfold rsum
    by_cases k : hh < 0
    · rw [if_pos (by omega)]; omega
    · rw [if_neg (by omega), if_neg (by omega)]; omega
  unfold catS FC1
  simp only [Bool.true_and, if_true, e1, e2]
  rfl
theorem comp_of (a b : TN) (h : Valid (ctT a b)) (hg : grF (ctT a b).f = 0) :
    (Valid a ∧ Valid b ∧ Valid (alT a b)) ∧ (grF a.f = 0 ∧ grF b.f = 0 ∧ grF (alT a b).f = 0) ∧
    (szF (ctT a b).f = szF a.f + szF b.f + 1 ∧ szF (alT a b).f = szF (ctT a b).f) ∧
    knF (ctT a b) = catS (knF a) (knF b) ∧ knF (alT a b) = altS (knF a) (knF b) := by
  have hV := h
  have hv := TN.f0 _ h hg
  obtain ⟨c, _, _, hsz, hlv⟩ := h
  have hvc : vF (.cons 3 noSet 0 0 0 (two a b) .nil) [] = some [] := hv
  have hgc : grF (.cons 3 noSet 0 0 0 (two a b) .nil) = 0 := hg
  obtain ⟨_, hok, ⟨h2, g2⟩, _, _⟩ := vF_cons0 _ _ _ _ _ _ _ _ hvc hgc
  have h2' : vF (.cons a.op a.st a.lo a.hi a.g a.args (.cons b.op b.st b.lo b.hi b.g b.args .nil)) [] = some [] := h2
  obtain ⟨⟨a6, a9⟩, aok, ⟨av, ag⟩, bv, bg⟩ := vF_cons0 _ _ _ _ _ _ _ _ h2' g2
  obtain ⟨⟨b6, b9⟩, bok, ⟨bav, bag⟩, _, _⟩ := vF_cons0 _ _ _ _ _ _ _ _ bv bg
  have va : vF a.f [] = some [] := vF_back _ _ _ _ _ _ _ a6 aok av rfl
  have vb : vF b.f [] = some [] := bv
  have vl : vF (alT a b).f [] = some [] := vF_back _ _ _ _ _ _ _ (show (4 : Int) ≠ 6 by decide) (by show okN 4 noSet 0 0 0 2 [] = true; decide) h2 rfl
  have s0 : szF (ctT a b).f = szF a.args + 1 + (szF b.args + 1 + 0) + 1 + 0 := rfl
  have s1 : szF a.f = szF a.args + 1 + 0 := rfl
  have s2 : szF b.f = szF b.args + 1 + 0 := rfl
  have s3 : szF (alT a b).f = szF (ctT a b).f := rfl
  have l0 : lvlF (ctT a b).f = max (max (lvlF a.args + 1) (max (lvlF b.args + 1) 0) + 1) 0 := rfl
  have l1 : lvlF a.f = max (lvlF a.args + 1) 0 := rfl
  have l2 : lvlF b.f = max (lvlF b.args + 1) 0 := rfl
  have l3 : lvlF (alT a b).f = lvlF (ctT a b).f := rfl
  have Va : Valid a := ⟨[], va, by decide, by omega, by omega⟩
  have Vb : Valid b := ⟨[], vb, by decide, by omega, by omega⟩
  have Vl : Valid (alT a b) := ⟨[], vl, by decide, by omega, by omega⟩
  have ga : grF a.f = 0 := by show (if a.op = 6 then 1 else 0) + (grF a.args + 0) = 0; rw [if_neg a6]; omega
  have gb : grF b.f = 0 := bg
  have gl : grF (alT a b).f = 0 := by
    show (if (4 : Int) = 6 then 1 else 0) + (grF (two a b) + 0) = 0
    rw [if_neg (by decide)]; omega
  refine ⟨⟨Va, Vb, Vl⟩, ⟨ga, gb, gl⟩, ⟨by omega, s3⟩, ?_, ?_⟩
  · rw [kn0 _ hV hg (fun _ => FC0), kn0 a Va ga (fun _ => FC0), kn0 b Vb gb (fun _ => FC0)]
    have e1 : facS (fun _ => FC0) (ctT a b).args = [facR a (facS (fun _ => FC0) a.args), facR b (facS (fun _ => FC0) b.args)] := by
      show (if a.op = 9 then _ else _) :: (if b.op = 9 then _ else _) :: [] = _
      rw [if_neg a9, if_neg b9]
    have e2 : ∀ ps, facR (ctT a b) ps = ps.foldl catS FC1 := fun ps => by
      unfold facR ctT
      simp
    rw [e1, e2]
    show catS (catS FC1 _) _ = _
    rw [catS_one]
    rw [← kn0 a Va ga]
    exact (sta0 a Va).2.2.2
  · rw [kn0 _ Vl gl (fun _ => FC0), kn0 a Va ga (fun _ => FC0), kn0 b Vb gb (fun _ => FC0)]
    have e1 : facS (fun _ => FC0) (alT a b).args = [facR a (facS (fun _ => FC0) a.args), facR b (facS (fun _ => FC0) b.args)] := by
      show (if a.op = 9 then _ else _) :: (if b.op = 9 then _ else _) :: [] = _
      rw [if_neg a9, if_neg b9]
    have e2 : ∀ ps, facR (alT a b) ps = altL ps := fun ps => by
      unfold facR alT
      simp
    rw [e1, e2]
    rfl
theorem lsum_any (a b : Int) (ha : -1 ≤ a ∧ a ≤ 2147483647) (hb : -1 ≤ b ∧ b ≤ 2147483647) (w : World) : Calls Try.prog 25 #[.int .i64 a, .int .i64 b] w fun e w' => e = .returned (.int .i64 (rsum a b)) ∧ Below w.heap.size w w' := by
  have hw : IntKind.i64.wrap (2147483647 - b) = 2147483647 - b := by rw [IntKind.wrap_i64]; omega
  have hw2 : IntKind.i64.wrap (a + b) = a + b := by rw [IntKind.wrap_i64]; omega
  by_cases h1 : a < 0
  · have e1 : rsum a b = -1 := by unfold rsum; rw [if_pos (Or.inl h1)]
    rw [e1]
    go_enter Try.func25, Try.ntmps25
    go_wp2_with fail
    go_ret
    exact ⟨rfl, Below.refl _ _⟩
  by_cases h2 : b < 0
  · have e1 : rsum a b = -1 := by unfold rsum; rw [if_pos (Or.inr h2)]
    rw [e1]
    go_enter Try.func25, Try.ntmps25
    go_wp2_with fail
    go_ret
    exact ⟨rfl, Below.refl _ _⟩
  by_cases h3 : a > 2147483647 - b
  · have e1 : rsum a b = 2147483647 := by unfold rsum; rw [if_neg (by omega), if_pos (by omega)]
    rw [e1]
    go_enter Try.func25, Try.ntmps25
    go_wp2_with fail
    go_ret
    exact ⟨rfl, Below.refl _ _⟩
  · have e1 : rsum a b = a + b := by unfold rsum; rw [if_neg (by omega), if_neg (by omega)]
    rw [e1]
    go_enter Try.func25, Try.ntmps25
    go_wp2_with fail
    go_ret
    exact ⟨rfl, Below.refl _ _⟩
end Go.Proofs.Ytpfbpgbgedbalaa
/- RetreeComposes: the making of the two trees, what stands at each state of the region that makes them. -/
set_option linter.unusedVariables false
set_option linter.unusedSimpArgs false
set_option maxRecDepth 100000
set_option maxHeartbeats 8000000
namespace Go.Proofs.Ytpfbpgbgedbalaa
open Go.RowKit

theorem abs_any {P : Program} {md : Region.Mode} {ops : Array Oper} {Q : Exit → Act → World → Prop} {S : World → Prop} {fuel : Nat} {listed : Array Bool} {a : Act} {w : World}
    (h : ∀ G : Nat → Array Bool → Act → World → Prop, (∀ f l l' a w, l' = l → wpAnyH P md ops Q S f l' a w → G f l a w) → (∀ f l l' a w, l' = l → G f l a w → wpAnyH P md ops Q S f l' a w) → G fuel listed a w) : wpAnyH P md ops Q S fuel listed a w :=
  h (wpAnyH P md ops Q S) (fun _ _ _ _ _ e h => e ▸ h) (fun _ _ _ _ _ e h => e ▸ h)
/-- What stands at a state: the lists made (k5, k6), the trees' blocks made (g5, g6). -/
structure RS (W2 : World) (a b : TN) (sa sb : Value) (k5 k6 g5 g6 : Option Nat) (u : World) : Prop where
  low : Below W2.heap.size W2 u
  c5 : ∀ k, k5 = some k → W2.heap.size ≤ k ∧ u.heap[k]? = some (.cells #[.int .i64 a.op, .int .u64 (wd a.st 0 64 : Nat), .int .u64 (wd a.st 64 64 : Nat), .int .u64 (wd a.st 128 64 : Nat), .int .u64 (wd a.st 192 64 : Nat), .int .i64 a.lo, .int .i64 a.hi, .int .i64 a.g, sa, .int .i64 b.op, .int .u64 (wd b.st 0 64 : Nat), .int .u64 (wd b.st 64 64 : Nat), .int .u64 (wd b.st 128 64 : Nat), .int .u64 (wd b.st 192 64 : Nat), .int .i64 b.lo, .int .i64 b.hi, .int .i64 b.g, sb] 28 (0, 0))
  c6 : ∀ k, k6 = some k → W2.heap.size ≤ k ∧ u.heap[k]? = some (.cells #[.int .i64 a.op, .int .u64 (wd a.st 0 64 : Nat), .int .u64 (wd a.st 64 64 : Nat), .int .u64 (wd a.st 128 64 : Nat), .int .u64 (wd a.st 192 64 : Nat), .int .i64 a.lo, .int .i64 a.hi, .int .i64 a.g, sa, .int .i64 b.op, .int .u64 (wd b.st 0 64 : Nat), .int .u64 (wd b.st 64 64 : Nat), .int .u64 (wd b.st 128 64 : Nat), .int .u64 (wd b.st 192 64 : Nat), .int .i64 b.lo, .int .i64 b.hi, .int .i64 b.g, sb] 28 (0, 0))
  z5 : ∀ k, g5 = some k → W2.heap.size ≤ k ∧ u.heap[k]? = some (.cells #[.int .i64 0, .int .u64 0, .int .u64 0, .int .u64 0, .int .u64 0, .int .i64 0, .int .i64 0, .int .i64 0, .slice none 0 0] 28 (0, 0))
  z6 : ∀ k, g6 = some k → W2.heap.size ≤ k ∧ u.heap[k]? = some (.cells #[.int .i64 0, .int .u64 0, .int .u64 0, .int .u64 0, .int .u64 0, .int .i64 0, .int .i64 0, .int .i64 0, .slice none 0 0] 28 (0, 0))
  n5 : ∀ g, g5 = some g → g6 ≠ some g ∧ k5 ≠ some g ∧ k6 ≠ some g
  n6 : ∀ g, g6 = some g → k5 ≠ some g ∧ k6 ≠ some g
section
variable {W2 u u' : World} {a b : TN} {sa sb : Value} {k5 k6 g5 g6 : Option Nat}
theorem RS.start (h : Below W2.heap.size W2 u) : RS W2 a b sa sb none none none none u :=
  ⟨h, fun _ e => (by cases e), fun _ e => (by cases e), fun _ e => (by cases e), fun _ e => (by cases e), fun _ e => (by cases e), fun _ e => (by cases e)⟩
theorem RS.call (h : RS W2 a b sa sb k5 k6 g5 g6 u) (hb : Below u.heap.size u u') : RS W2 a b sa sb k5 k6 g5 g6 u' := by
  have hk : ∀ {k : Nat} {o : Obj}, u.heap[k]? = some o → u'.heap[k]? = some o := fun hq => (hb.block _ (Array.getElem?_eq_some_iff.1 hq).1).trans hq
  exact ⟨h.low.trans (hb.mono h.low.size), fun k e => ⟨(h.c5 k e).1, hk (h.c5 k e).2⟩, fun k e => ⟨(h.c6 k e).1, hk (h.c6 k e).2⟩, fun k e => ⟨(h.z5 k e).1, hk (h.z5 k e).2⟩, fun k e => ⟨(h.z6 k e).1, hk (h.z6 k e).2⟩, h.n5, h.n6⟩
theorem RS.old (h : RS W2 a b sa sb k5 k6 g5 g6 u) : (k5 ≠ some u.heap.size ∧ k6 ≠ some u.heap.size) ∧ g5 ≠ some u.heap.size ∧ g6 ≠ some u.heap.size := by
  have hl : ∀ {k : Nat} {o : Obj}, u.heap[k]? = some o → k < u.heap.size := fun hq => (Array.getElem?_eq_some_iff.1 hq).1
  exact ⟨⟨fun e => absurd (hl (h.c5 _ e).2) (by omega), fun e => absurd (hl (h.c6 _ e).2) (by omega)⟩, fun e => absurd (hl (h.z5 _ e).2) (by omega), fun e => absurd (hl (h.z6 _ e).2) (by omega)⟩
theorem RS.bs5 (h : RS W2 a b sa sb none k6 g5 g6 u) : RS W2 a b sa sb (some u.heap.size) k6 g5 g6 (u.alloc (.cells #[.int .i64 a.op, .int .u64 (wd a.st 0 64 : Nat), .int .u64 (wd a.st 64 64 : Nat), .int .u64 (wd a.st 128 64 : Nat), .int .u64 (wd a.st 192 64 : Nat), .int .i64 a.lo, .int .i64 a.hi, .int .i64 a.g, sa, .int .i64 b.op, .int .u64 (wd b.st 0 64 : Nat), .int .u64 (wd b.st 64 64 : Nat), .int .u64 (wd b.st 128 64 : Nat), .int .u64 (wd b.st 192 64 : Nat), .int .i64 b.lo, .int .i64 b.hi, .int .i64 b.g, sb] 28)) := by
  have h' := h.call ((Below.refl u.heap.size u).alloc (Nat.le_refl _) (.cells #[.int .i64 a.op, .int .u64 (wd a.st 0 64 : Nat), .int .u64 (wd a.st 64 64 : Nat), .int .u64 (wd a.st 128 64 : Nat), .int .u64 (wd a.st 192 64 : Nat), .int .i64 a.lo, .int .i64 a.hi, .int .i64 a.g, sa, .int .i64 b.op, .int .u64 (wd b.st 0 64 : Nat), .int .u64 (wd b.st 64 64 : Nat), .int .u64 (wd b.st 128 64 : Nat), .int .u64 (wd b.st 192 64 : Nat), .int .i64 b.lo, .int .i64 b.hi, .int .i64 b.g, sb] 28))
  have ho := h.old
  have hn := heap_alloc_new u (.cells #[.int .i64 a.op, .int .u64 (wd a.st 0 64 : Nat), .int .u64 (wd a.st 64 64 : Nat), .int .u64 (wd a.st 128 64 : Nat), .int .u64 (wd a.st 192 64 : Nat), .int .i64 a.lo, .int .i64 a.hi, .int .i64 a.g, sa, .int .i64 b.op, .int .u64 (wd b.st 0 64 : Nat), .int .u64 (wd b.st 64 64 : Nat), .int .u64 (wd b.st 128 64 : Nat), .int .u64 (wd b.st 192 64 : Nat), .int .i64 b.lo, .int .i64 b.hi, .int .i64 b.g, sb] 28)
  exact ⟨h'.low, fun k e => by cases e; exact ⟨h.low.size, hn⟩, h'.c6, h'.z5, h'.z6, fun g e => ⟨(h.n5 g e).1, fun e2 => by cases e2; exact ho.2.1 e, (h.n5 g e).2.2⟩, fun g e => ⟨fun e2 => by cases e2; exact ho.2.2 e, (h.n6 g e).2⟩⟩
theorem RS.bs6 (h : RS W2 a b sa sb k5 none g5 g6 u) : RS W2 a b sa sb k5 (some u.heap.size) g5 g6 (u.alloc (.cells #[.int .i64 a.op, .int .u64 (wd a.st 0 64 : Nat), .int .u64 (wd a.st 64 64 : Nat), .int .u64 (wd a.st 128 64 : Nat), .int .u64 (wd a.st 192 64 : Nat), .int .i64 a.lo, .int .i64 a.hi, .int .i64 a.g, sa, .int .i64 b.op, .int .u64 (wd b.st 0 64 : Nat), .int .u64 (wd b.st 64 64 : Nat), .int .u64 (wd b.st 128 64 : Nat), .int .u64 (wd b.st 192 64 : Nat), .int .i64 b.lo, .int .i64 b.hi, .int .i64 b.g, sb] 28)) := by
  have h' := h.call ((Below.refl u.heap.size u).alloc (Nat.le_refl _) (.cells #[.int .i64 a.op, .int .u64 (wd a.st 0 64 : Nat), .int .u64 (wd a.st 64 64 : Nat), .int .u64 (wd a.st 128 64 : Nat), .int .u64 (wd a.st 192 64 : Nat), .int .i64 a.lo, .int .i64 a.hi, .int .i64 a.g, sa, .int .i64 b.op, .int .u64 (wd b.st 0 64 : Nat), .int .u64 (wd b.st 64 64 : Nat), .int .u64 (wd b.st 128 64 : Nat), .int .u64 (wd b.st 192 64 : Nat), .int .i64 b.lo, .int .i64 b.hi, .int .i64 b.g, sb] 28))
  have ho := h.old
  have hn := heap_alloc_new u (.cells #[.int .i64 a.op, .int .u64 (wd a.st 0 64 : Nat), .int .u64 (wd a.st 64 64 : Nat), .int .u64 (wd a.st 128 64 : Nat), .int .u64 (wd a.st 192 64 : Nat), .int .i64 a.lo, .int .i64 a.hi, .int .i64 a.g, sa, .int .i64 b.op, .int .u64 (wd b.st 0 64 : Nat), .int .u64 (wd b.st 64 64 : Nat), .int .u64 (wd b.st 128 64 : Nat), .int .u64 (wd b.st 192 64 : Nat), .int .i64 b.lo, .int .i64 b.hi, .int .i64 b.g, sb] 28)
  exact ⟨h'.low, h'.c5, fun k e => by cases e; exact ⟨h.low.size, hn⟩, h'.z5, h'.z6, fun g e => ⟨(h.n5 g e).1, (h.n5 g e).2.1, fun e2 => by cases e2; exact ho.2.1 e⟩, fun g e => ⟨(h.n6 g e).1, fun e2 => by cases e2; exact ho.2.2 e⟩⟩
theorem RS.al5 (h : RS W2 a b sa sb k5 k6 none g6 u) : RS W2 a b sa sb k5 k6 (some u.heap.size) g6 (u.alloc (.cells #[.int .i64 0, .int .u64 0, .int .u64 0, .int .u64 0, .int .u64 0, .int .i64 0, .int .i64 0, .int .i64 0, .slice none 0 0] 28)) := by
  have h' := h.call ((Below.refl u.heap.size u).alloc (Nat.le_refl _) (.cells #[.int .i64 0, .int .u64 0, .int .u64 0, .int .u64 0, .int .u64 0, .int .i64 0, .int .i64 0, .int .i64 0, .slice none 0 0] 28))
  have ho := h.old
  have hn := heap_alloc_new u (.cells #[.int .i64 0, .int .u64 0, .int .u64 0, .int .u64 0, .int .u64 0, .int .i64 0, .int .i64 0, .int .i64 0, .slice none 0 0] 28)
  exact ⟨h'.low, h'.c5, h'.c6, fun k e => by cases e; exact ⟨h.low.size, hn⟩, h'.z6, fun g e => by cases e; exact ⟨ho.2.2, ho.1.1, ho.1.2⟩, h.n6⟩
theorem RS.al6 (h : RS W2 a b sa sb k5 k6 g5 none u) : RS W2 a b sa sb k5 k6 g5 (some u.heap.size) (u.alloc (.cells #[.int .i64 0, .int .u64 0, .int .u64 0, .int .u64 0, .int .u64 0, .int .i64 0, .int .i64 0, .int .i64 0, .slice none 0 0] 28)) := by
  have h' := h.call ((Below.refl u.heap.size u).alloc (Nat.le_refl _) (.cells #[.int .i64 0, .int .u64 0, .int .u64 0, .int .u64 0, .int .u64 0, .int .i64 0, .int .i64 0, .int .i64 0, .slice none 0 0] 28))
  have ho := h.old
  have hn := heap_alloc_new u (.cells #[.int .i64 0, .int .u64 0, .int .u64 0, .int .u64 0, .int .u64 0, .int .i64 0, .int .i64 0, .int .i64 0, .slice none 0 0] 28)
  exact ⟨h'.low, h'.c5, h'.c6, h'.z5, fun k e => by cases e; exact ⟨h.low.size, hn⟩, fun g e => ⟨fun e2 => by cases e2; exact ho.2.1 e, (h.n5 g e).2⟩, fun g e => by cases e; exact ⟨ho.1.1, ho.1.2⟩⟩
end
theorem ti_at {w : World} {a b : TN} {sa sb : Value} {k : Nat} (h : TI w a sa) (k' : TI w b sb) (hx : F.fits (.cons a.op a.st a.lo a.hi a.g a.args .nil)) (hy : F.fits (.cons b.op b.st b.lo b.hi b.g b.args .nil))
    (hr : w.heap[k]? = some (.cells #[.int .i64 a.op, .int .u64 (wd a.st 0 64 : Nat), .int .u64 (wd a.st 64 64 : Nat), .int .u64 (wd a.st 128 64 : Nat), .int .u64 (wd a.st 192 64 : Nat), .int .i64 a.lo, .int .i64 a.hi, .int .i64 a.g, sa, .int .i64 b.op, .int .u64 (wd b.st 0 64 : Nat), .int .u64 (wd b.st 64 64 : Nat), .int .u64 (wd b.st 128 64 : Nat), .int .u64 (wd b.st 192 64 : Nat), .int .i64 b.lo, .int .i64 b.hi, .int .i64 b.g, sb] 28 (0, 0))) (op : Int) : TI w ⟨op, noSet, 0, 0, 0, two a b⟩ (.slice (some ⟨k, 0, none⟩) 2 2) := by
  obtain ⟨S, h1, h2, h3, h4⟩ := h
  obtain ⟨T, k1, k2, k3, k4⟩ := k'
  have hl : k < w.heap.size := (Array.getElem?_eq_some_iff.1 hr).1
  have ha : Afar S (fun g => (S g ∨ T g) ∨ g = k) w w := ⟨Nat.le_refl _, fun g hg _ => ⟨.inl (.inl hg), rfl⟩⟩
  have hc : Afar T (fun g => (S g ∨ T g) ∨ g = k) w w := ⟨Nat.le_refl _, fun g hg _ => ⟨.inl (.inr hg), rfl⟩⟩
  refine ⟨fun g => (S g ∨ T g) ∨ g = k, ⟨rowV a.op a.st a.lo a.hi a.g sa ++ (rowV b.op b.st b.lo b.hi b.g sb ++ []), _, 2, rfl, Nat.le_refl _, FV.cons.2 ⟨sa, _, rfl, h1.far ha, FV.cons.2 ⟨sb, [], rfl, k1.far hc, rfl⟩⟩, .inr ⟨k, 0, rfl, .inr rfl, hl, fun j u hu => ?_⟩⟩, fun g hg => ?_, ⟨?_, hx.1, hx.2.1, hx.2.2.1, hy⟩, (by show (-9223372036854775808 : Int) ≤ 0; decide), (by show (0 : Int) ≤ 9223372036854775807; decide)⟩
  · rw [Nat.zero_add, cell_of_row _ k j _ _ (0, 0) hr]
    simpa [rowV] using hu
  · rcases hg with (hg | hg) | rfl
    · exact h2 g hg
    · exact k2 g hg
    · exact hl
  · show 2 ≤ maxLen
    decide
theorem RS.fin {W2 u : World} {a b : TN} {sa sb : Value} {k5 k6 g5 g6 : Nat} (h : RS W2 a b sa sb (some k5) (some k6) (some g5) (some g6) u) (ha : TI W2 a sa) (hb : TI W2 b sb)
    (fa : F.fits (.cons a.op a.st a.lo a.hi a.g a.args .nil)) (fb : F.fits (.cons b.op b.st b.lo b.hi b.g b.args .nil)) (c5 c6 : Array Value) :
    (TI ((u.setRow g5 c5).setRow g6 c6) (ctT a b) (.slice (some ⟨k5, 0, none⟩) 2 2) ∧ TI ((u.setRow g5 c5).setRow g6 c6) (alT a b) (.slice (some ⟨k6, 0, none⟩) 2 2)) ∧
    ((u.setRow g5 c5).heap[g6]? = some (.cells #[.int .i64 0, .int .u64 0, .int .u64 0, .int .u64 0, .int .u64 0, .int .i64 0, .int .i64 0, .int .i64 0, .slice none 0 0] 28 (0, 0)) ∧ Below W2.heap.size W2 (u.setRow g5 c5)) ∧
    (((u.setRow g5 c5).setRow g6 c6).heap[g5]? = some (.cells c5 28 (0, 0)) ∧ ((u.setRow g5 c5).setRow g6 c6).heap[g6]? = some (.cells c6 28 (0, 0))) ∧ Below W2.heap.size W2 ((u.setRow g5 c5).setRow g6 c6) := by
  obtain ⟨n1, n2, n3⟩ := h.n5 g5 rfl
  obtain ⟨n4, n5⟩ := h.n6 g6 rfl
  have n1' : g6 ≠ g5 := fun e => n1 (e ▸ rfl)
  have n2' : k5 ≠ g5 := fun e => n2 (e ▸ rfl)
  have n3' : k6 ≠ g5 := fun e => n3 (e ▸ rfl)
  have n4' : k5 ≠ g6 := fun e => n4 (e ▸ rfl)
  have n5' : k6 ≠ g6 := fun e => n5 (e ▸ rfl)
  have q5 : ((u.setRow g5 c5).setRow g6 c6).heap[k5]? = _ := (setRow_other _ _ _ _ n4').trans ((setRow_other _ _ _ _ n2').trans (h.c5 k5 rfl).2)
  have q6 : ((u.setRow g5 c5).setRow g6 c6).heap[k6]? = _ := (setRow_other _ _ _ _ n5').trans ((setRow_other _ _ _ _ n3').trans (h.c6 k6 rfl).2)
  have b1 : Below W2.heap.size W2 (u.setRow g5 c5) := below_setRow h.low (h.z5 g5 rfl).1 _
  have b2 : Below W2.heap.size W2 ((u.setRow g5 c5).setRow g6 c6) := below_setRow b1 (h.z6 g6 rfl).1 _
  have z6 : (u.setRow g5 c5).heap[g6]? = _ := (setRow_other _ _ _ _ n1').trans (h.z6 g6 rfl).2
  exact ⟨⟨ti_at (ha.below b2) (hb.below b2) fa fb q5 3, ti_at (ha.below b2) (hb.below b2) fa fb q6 4⟩, ⟨z6, b1⟩, ⟨(setRow_other _ _ _ _ (Ne.symm n1')).trans (setRow_heap _ _ _ _ _ _ (h.z5 g5 rfl).2), setRow_heap _ _ _ _ _ _ z6⟩, b2⟩
end Go.Proofs.Ytpfbpgbgedbalaa
/- RetreeComposes: cells. -/
set_option linter.unusedVariables false
set_option linter.unusedSimpArgs false
set_option maxRecDepth 100000
set_option maxHeartbeats 8000000
namespace Go.Proofs.Ytpfbpgbgedbalaa
open Go.RowKit

abbrev U : Value := undef
abbrev N9 (eb : Nat) (t : TN) (sv : Value) (w : World) : Prop := ((w.cell? ⟨eb, 0, none⟩ = some (.int .i64 t.op) ∧ w.cell? ⟨eb, 1, none⟩ = some (.int .u64 (wd t.st 0 64 : Nat)) ∧ w.cell? ⟨eb, 2, none⟩ = some (.int .u64 (wd t.st 64 64 : Nat))) ∧ (w.cell? ⟨eb, 3, none⟩ = some (.int .u64 (wd t.st 128 64 : Nat)) ∧ w.cell? ⟨eb, 4, none⟩ = some (.int .u64 (wd t.st 192 64 : Nat)) ∧ w.cell? ⟨eb, 5, none⟩ = some (.int .i64 t.lo))) ∧ (w.cell? ⟨eb, 6, none⟩ = some (.int .i64 t.hi) ∧ w.cell? ⟨eb, 7, none⟩ = some (.int .i64 t.g) ∧ w.cell? ⟨eb, 8, none⟩ = some sv)
abbrev N4 (sb : Nat) (p : Nat → Bool) (w : World) : Prop := (w.cell? ⟨sb, 0, none⟩ = some (.int .u64 (wd p 0 64 : Nat)) ∧ w.cell? ⟨sb, 1, none⟩ = some (.int .u64 (wd p 64 64 : Nat))) ∧ w.cell? ⟨sb, 2, none⟩ = some (.int .u64 (wd p 128 64 : Nat)) ∧ w.cell? ⟨sb, 3, none⟩ = some (.int .u64 (wd p 192 64 : Nat))
theorem N9.keep {eb : Nat} {t : TN} {sv : Value} {w w' : World} (h : N9 eb t sv w) (hb : Below w.heap.size w w') : N9 eb t sv w' := by
  have hc : ∀ {a : Addr} {v : Value}, w.cell? a = some v → w'.cell? a = some v := fun {a v} h => keep_cell hb h
  exact ⟨⟨⟨hc h.1.1.1, hc h.1.1.2.1, hc h.1.1.2.2⟩, hc h.1.2.1, hc h.1.2.2.1, hc h.1.2.2.2⟩, hc h.2.1, hc h.2.2.1, hc h.2.2.2⟩
theorem N4.keep {sb : Nat} {p : Nat → Bool} {w w' : World} (h : N4 sb p w) (hb : Below w.heap.size w w') : N4 sb p w' := by
  have hc : ∀ {a : Addr} {v : Value}, w.cell? a = some v → w'.cell? a = some v := fun {a v} h => keep_cell hb h
  exact ⟨⟨hc h.1.1, hc h.1.2⟩, hc h.2.1, hc h.2.2⟩
theorem n4_new (w : World) (p : Nat → Bool) : N4 w.heap.size p (w.alloc (.cells #[.int .u64 (wd p 0 64 : Nat), .int .u64 (wd p 64 64 : Nat), .int .u64 (wd p 128 64 : Nat), .int .u64 (wd p 192 64 : Nat)] 25)) := by
  have hs := heap_alloc_new w (.cells #[.int .u64 (wd p 0 64 : Nat), .int .u64 (wd p 64 64 : Nat), .int .u64 (wd p 128 64 : Nat), .int .u64 (wd p 192 64 : Nat)] 25)
  exact ⟨⟨cell_of_row _ _ 0 _ _ _ hs, cell_of_row _ _ 1 _ _ _ hs⟩, cell_of_row _ _ 2 _ _ _ hs, cell_of_row _ _ 3 _ _ _ hs⟩
/-- The four trees' cells. -/
abbrev CW (W0 : World) (ea eb ec el : Nat) (a b c l : TN) (sa sb sc sl : Value) (w : World) : Prop := ((N9 ea a sa w ∧ N9 eb b sb w) ∧ (N9 ec c sc w ∧ N9 el l sl w)) ∧ Below W0.heap.size W0 w
theorem CW.keep {W0 : World} {ea eb ec el : Nat} {a b c l : TN} {sa sb sc sl : Value} {w w' : World} (hb : Below w.heap.size w w') (h : CW W0 ea eb ec el a b c l sa sb sc sl w) : CW W0 ea eb ec el a b c l sa sb sc sl w' := ⟨⟨⟨h.1.1.1.keep hb, h.1.1.2.keep hb⟩, h.1.2.1.keep hb, h.1.2.2.keep hb⟩, h.2.trans (hb.mono h.2.size)⟩
theorem CW.bel {W0 : World} {ea eb ec el : Nat} {a b c l : TN} {sa sb sc sl : Value} {w : World} (h : CW W0 ea eb ec el a b c l sa sb sc sl w) : Below W0.heap.size W0 w := h.2
/-- The four sets' cells. -/
abbrev CS (W0 : World) (gs gt gu gv : Nat) (p q r v : Nat → Bool) (w : World) : Prop := ((N4 gs p w ∧ N4 gt q w) ∧ (N4 gu r w ∧ N4 gv v w)) ∧ Below W0.heap.size W0 w
theorem CS.keep {W0 : World} {gs gt gu gv : Nat} {p q r v : Nat → Bool} {w w' : World} (hb : Below w.heap.size w w') (h : CS W0 gs gt gu gv p q r v w) : CS W0 gs gt gu gv p q r v w' := ⟨⟨⟨h.1.1.1.keep hb, h.1.1.2.keep hb⟩, h.1.2.1.keep hb, h.1.2.2.keep hb⟩, h.2.trans (hb.mono h.2.size)⟩
theorem CS.bel {W0 : World} {gs gt gu gv : Nat} {p q r v : Nat → Bool} {w : World} (h : CS W0 gs gt gu gv p q r v w) : Below W0.heap.size W0 w := h.2
end Go.Proofs.Ytpfbpgbgedbalaa
