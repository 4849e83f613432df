/- Several texts in one (a claim has at most 60 files). -/
import Derived.Test.YtpfbpgbgedbalaaMM
/- The reference's Check, known, Length, First, Nullable. -/
set_option linter.unusedVariables false
set_option linter.unusedSimpArgs false
set_option maxRecDepth 100000
set_option maxHeartbeats 8000000
namespace Go.Proofs.Ytpfbpgbgedbalaa
open Go.RowKit

theorem rcheck_ti {w : World} {t : TN} {sv : Value} (h : TI w t sv) (hz : szF t.f ≤ 1048576) : Calls Try.prog 14 #[.agg #[.int .i64 t.op, .int .u64 (wd t.st 0 64 : Nat), .int .u64 (wd t.st 64 64 : Nat), .int .u64 (wd t.st 128 64 : Nat), .int .u64 (wd t.st 192 64 : Nat), .int .i64 t.lo, .int .i64 t.hi, .int .i64 t.g, sv]] w fun e w' => (∃ k, e = .returned (.int .i64 k) ∧ (k = 0 ↔ Valid t)) ∧ Below w.heap.size w w' := by
  obtain ⟨S, h1, h2, h3, h4, h5⟩ := h
  have hz' : szF t.args + 1 + 0 ≤ 1048576 := hz
  have hV := valid_ref t
  have e1 : typF t.f = (fldT t.op t.st t.lo t.hi t.g t.args.len && typF t.args) := by unfold TN.f; rw [typF, typF, Bool.and_true]
  have e2 : (rngF t.f 0).isSome = (rngN t.op t.lo t.hi t.g t.args 0).isSome := by
    unfold TN.f
    rw [rngF_cons]
    cases rngN t.op t.lo t.hi t.g t.args 0 <;> rfl
  have e3 : (nmdF t.f []).isSome = (nmdN t.op t.g t.args []).isSome := by
    unfold TN.f
    rw [nmdF_cons]
    cases nmdN t.op t.g t.args [] <;> rfl
  have e4 : szF t.f = szF t.args + 1 := rfl
  have e5 : grF t.f = (if t.op = 6 then 1 else 0) + grF t.args := rfl
  have e6 : lvlF t.f = lvlF t.args + 1 := by show max (lvlF t.args + 1) 0 = _; omega
  rw [e1, e2, e3, e4, e5, e6] at hV
  have HT := Lib.hid (fun W (hb : Below w.heap.size w W) => typ_any t.args t.op t.lo t.hi t.g t.st sv W S (h1.far (Afar.below hb)) h3)
  have HR := Lib.hid (fun W (hb : Below w.heap.size w W) => rng_any t.args t.op t.lo t.hi t.g t.st sv W S 0 (h1.far (Afar.below hb)) h3 ⟨h4, h5⟩ (by omega))
  simp only [Int.natCast_zero] at HR
  have HN := Lib.hid (fun W (hb : Below w.heap.size w W) => nam_any t.args t.op t.lo t.hi t.g t.st sv W S w.heap.size [] (.slice none 0 0) (h1.far (Afar.below hb)) h3 h2 hb.size (PV.nil _ _ _ _ _) (by show 0 + _ + 1 ≤ _; omega))
  have HS := Lib.hid (fun W (hb : Below w.heap.size w W) => siz_any t.args t.op t.lo t.hi t.g t.st sv W S (h1.far (Afar.below hb)) h3 (by omega))
  have HG := Lib.hid (fun W (hb : Below w.heap.size w W) => grp_any t.args t.op t.lo t.hi t.g t.st sv W S (h1.far (Afar.below hb)) h3 (by omega))
  have HL := Lib.hid (fun W (hb : Below w.heap.size w W) => lev_any t.args t.op t.lo t.hi t.g t.st sv W S (h1.far (Afar.below hb)) h3 (by omega))
  have hsl : szF t.args + 1 ≤ 1048576 := hz'
  have hgl := gr_sz t.args
  have hll := lv_sz t.args
  obtain ⟨ad, cap, rfl⟩ := slice_form h1
  generalize (fldT t.op t.st t.lo t.hi t.g t.args.len && typF t.args) = B1 at *
  generalize rngN t.op t.lo t.hi t.g t.args 0 = B2 at *
  generalize nmdN t.op t.g t.args [] = B3 at *
  generalize hZ : szF t.args + 1 = Z at *
  generalize hQ : (if t.op = 6 then 1 else 0) + grF t.args = Q at *
  have hQ2 : Q ≤ 1048577 := by rw [← hQ]; split <;> omega
  generalize hD : lvlF t.args + 1 = D at *
  have hD2 : D ≤ 1048577 := by omega
  have hx : Below w.heap.size w (w.alloc (.cells #[.int .i64 t.op, .int .u64 (wd t.st 0 64 : Nat), .int .u64 (wd t.st 64 64 : Nat), .int .u64 (wd t.st 128 64 : Nat), .int .u64 (wd t.st 192 64 : Nat), .int .i64 t.lo, .int .i64 t.hi, .int .i64 t.g, .slice ad t.args.len cap] 28)) := (Below.refl _ _).alloc (Nat.le_refl _) _
  have hg0 := nine (heap_alloc_new w (.cells #[.int .i64 t.op, .int .u64 (wd t.st 0 64 : Nat), .int .u64 (wd t.st 64 64 : Nat), .int .u64 (wd t.st 128 64 : Nat), .int .u64 (wd t.st 192 64 : Nat), .int .i64 t.lo, .int .i64 t.hi, .int .i64 t.g, .slice ad t.args.len cap] 28))
  have HX := Lib.hid hx
  have HV := Lib.hid hV
  have CF : Hid (∀ W, Below (w.alloc (.cells #[.int .i64 t.op, .int .u64 (wd t.st 0 64 : Nat), .int .u64 (wd t.st 64 64 : Nat), .int .u64 (wd t.st 128 64 : Nat), .int .u64 (wd t.st 192 64 : Nat), .int .i64 t.lo, .int .i64 t.hi, .int .i64 t.g, .slice ad t.args.len cap] 28)).heap.size (w.alloc (.cells #[.int .i64 t.op, .int .u64 (wd t.st 0 64 : Nat), .int .u64 (wd t.st 64 64 : Nat), .int .u64 (wd t.st 128 64 : Nat), .int .u64 (wd t.st 192 64 : Nat), .int .i64 t.lo, .int .i64 t.hi, .int .i64 t.g, .slice ad t.args.len cap] 28)) W → W.heap[w.heap.size]? = some (.cells #[.int .i64 t.op, .int .u64 (wd t.st 0 64 : Nat), .int .u64 (wd t.st 64 64 : Nat), .int .u64 (wd t.st 128 64 : Nat), .int .u64 (wd t.st 192 64 : Nat), .int .i64 t.lo, .int .i64 t.hi, .int .i64 t.g, .slice ad t.args.len cap] 28 (0, 0))) := Lib.hid fun W hb => (hb.block _ (by simp)).trans (heap_alloc_new w _)
  obtain ⟨⟨⟨a0, a1, a2⟩, a3, a4, a5⟩, a6, a7, a8⟩ := hg0
  generalize hW2 : w.alloc (.cells #[.int .i64 t.op, .int .u64 (wd t.st 0 64 : Nat), .int .u64 (wd t.st 64 64 : Nat), .int .u64 (wd t.st 128 64 : Nat), .int .u64 (wd t.st 192 64 : Nat), .int .i64 t.lo, .int .i64 t.hi, .int .i64 t.g, .slice ad t.args.len cap] 28) = W2 at *
  have HBr := Lib.hid (Below.refl W2.heap.size W2)
  clear h1 h2 h3 h4 h5 hz hz' hV e1 e2 e3 e4 e5 e6 hgl hll hZ hQ hD hsl hx
  cases B1
  case false =>
    go_enter Try.func14, Try.ntmps14
    go_wp2_with (first
      | (go_at_call 38; (with_reducible refine (HT.out _ HX.out).mono ?_); rintro e w1 ⟨rfl, hb⟩
         have HB1 := Lib.hid (HBr.out.trans (hb.mono HBr.out.size))
         have H1 := Lib.hid (HX.out.trans (HB1.out.mono HX.out.size))
         clear a0 a1 a2 a3 a4 a5 a6 a7 a8 hb
         obtain ⟨⟨⟨a0, a1, a2⟩, a3, a4, a5⟩, a6, a7, a8⟩ := nine (CF.out _ HB1.out)))
    go_ret
    refine ⟨⟨7, rfl, ?_⟩, HX.out.trans (HB1.out.mono HX.out.size)⟩
    · rw [HV.out]; simp
  cases B2 with
  | none =>
    go_enter Try.func14, Try.ntmps14
    go_wp2_with (first
      | (go_at_call 38; (with_reducible refine (HT.out _ HX.out).mono ?_); rintro e w1 ⟨rfl, hb⟩
         have HB1 := Lib.hid (HBr.out.trans (hb.mono HBr.out.size))
         have H1 := Lib.hid (HX.out.trans (HB1.out.mono HX.out.size))
         clear a0 a1 a2 a3 a4 a5 a6 a7 a8 hb
         obtain ⟨⟨⟨a0, a1, a2⟩, a3, a4, a5⟩, a6, a7, a8⟩ := nine (CF.out _ HB1.out))
      | (go_at_call 39; (with_reducible refine (HR.out _ H1.out).mono ?_); rintro e w2 ⟨⟨m2, b2, rfl, hb2⟩, hb⟩
         replace hb2 : b2 = false := hb2; subst hb2
         have HB2 := Lib.hid (HB1.out.trans (hb.mono HB1.out.size))
         have H2 := Lib.hid (HX.out.trans (HB2.out.mono HX.out.size))
         clear a0 a1 a2 a3 a4 a5 a6 a7 a8 hb
         obtain ⟨⟨⟨a0, a1, a2⟩, a3, a4, a5⟩, a6, a7, a8⟩ := nine (CF.out _ HB2.out)))
    go_ret
    refine ⟨⟨2, rfl, ?_⟩, HX.out.trans (HB2.out.mono HX.out.size)⟩
    · rw [HV.out]; simp
  | some m3 =>
  cases B3 with
  | none =>
    go_enter Try.func14, Try.ntmps14
    go_wp2_with (first
      | (go_at_call 38; (with_reducible refine (HT.out _ HX.out).mono ?_); rintro e w1 ⟨rfl, hb⟩
         have HB1 := Lib.hid (HBr.out.trans (hb.mono HBr.out.size))
         have H1 := Lib.hid (HX.out.trans (HB1.out.mono HX.out.size))
         clear a0 a1 a2 a3 a4 a5 a6 a7 a8 hb
         obtain ⟨⟨⟨a0, a1, a2⟩, a3, a4, a5⟩, a6, a7, a8⟩ := nine (CF.out _ HB1.out))
      | (go_at_call 39; (with_reducible refine (HR.out _ H1.out).mono ?_); rintro e w2 ⟨⟨m2, b2, rfl, hb2⟩, hb⟩
         obtain ⟨rfl, rfl⟩ : m2 = (m3 : Int) ∧ b2 = true := hb2
         have HB2 := Lib.hid (HB1.out.trans (hb.mono HB1.out.size))
         have H2 := Lib.hid (HX.out.trans (HB2.out.mono HX.out.size))
         clear a0 a1 a2 a3 a4 a5 a6 a7 a8 hb
         obtain ⟨⟨⟨a0, a1, a2⟩, a3, a4, a5⟩, a6, a7, a8⟩ := nine (CF.out _ HB2.out))
      | (go_at_call 40; (with_reducible refine (HN.out _ H2.out).mono ?_); rintro e w3 ⟨⟨cv, b3, rfl, hb3⟩, hb⟩
         replace hb3 : b3 = false := hb3; subst hb3
         have HB3 := Lib.hid (HB2.out.trans ((hb.below (Nat.le_refl _) (fun g e => by cases e)).mono HB2.out.size))
         have H3 := Lib.hid (HX.out.trans (HB3.out.mono HX.out.size))
         clear a0 a1 a2 a3 a4 a5 a6 a7 a8 hb
         obtain ⟨⟨⟨a0, a1, a2⟩, a3, a4, a5⟩, a6, a7, a8⟩ := nine (CF.out _ HB3.out)))
    go_ret
    refine ⟨⟨4, rfl, ?_⟩, HX.out.trans (HB3.out.mono HX.out.size)⟩
    · rw [HV.out]; simp
  | some L3 =>
  by_cases hz : 600 < Z
  · have hzd : decide ((600 : Int) < (Z : Int)) = true := by rw [decide_eq_true_iff]; omega
    go_enter Try.func14, Try.ntmps14
    go_wp2_with (first
      | (go_at_call 38; (with_reducible refine (HT.out _ HX.out).mono ?_); rintro e w1 ⟨rfl, hb⟩
         have HB1 := Lib.hid (HBr.out.trans (hb.mono HBr.out.size))
         have H1 := Lib.hid (HX.out.trans (HB1.out.mono HX.out.size))
         clear a0 a1 a2 a3 a4 a5 a6 a7 a8 hb
         obtain ⟨⟨⟨a0, a1, a2⟩, a3, a4, a5⟩, a6, a7, a8⟩ := nine (CF.out _ HB1.out))
      | (go_at_call 39; (with_reducible refine (HR.out _ H1.out).mono ?_); rintro e w2 ⟨⟨m2, b2, rfl, hb2⟩, hb⟩
         obtain ⟨rfl, rfl⟩ : m2 = (m3 : Int) ∧ b2 = true := hb2
         have HB2 := Lib.hid (HB1.out.trans (hb.mono HB1.out.size))
         have H2 := Lib.hid (HX.out.trans (HB2.out.mono HX.out.size))
         clear a0 a1 a2 a3 a4 a5 a6 a7 a8 hb
         obtain ⟨⟨⟨a0, a1, a2⟩, a3, a4, a5⟩, a6, a7, a8⟩ := nine (CF.out _ HB2.out))
      | (go_at_call 40; (with_reducible refine (HN.out _ H2.out).mono ?_); rintro e w3 ⟨⟨cv, b3, rfl, hb3⟩, hb⟩
         replace hb3 : b3 = true ∧ _ := hb3; obtain ⟨rfl, hp3, _⟩ := hb3; obtain ⟨cad, ccap, rfl⟩ := own_sl hp3; clear hp3
         have HB3 := Lib.hid (HB2.out.trans ((hb.below (Nat.le_refl _) (fun g e => by cases e)).mono HB2.out.size))
         have H3 := Lib.hid (HX.out.trans (HB3.out.mono HX.out.size))
         clear a0 a1 a2 a3 a4 a5 a6 a7 a8 hb
         obtain ⟨⟨⟨a0, a1, a2⟩, a3, a4, a5⟩, a6, a7, a8⟩ := nine (CF.out _ HB3.out))
      | (go_at_call 41; (with_reducible refine (HS.out _ H3.out).mono ?_); rintro e w4 ⟨rfl, hb⟩
         have HB4 := Lib.hid (HB3.out.trans (hb.mono HB3.out.size))
         have H4 := Lib.hid (HX.out.trans (HB4.out.mono HX.out.size))
         clear a0 a1 a2 a3 a4 a5 a6 a7 a8 hb
         obtain ⟨⟨⟨a0, a1, a2⟩, a3, a4, a5⟩, a6, a7, a8⟩ := nine (CF.out _ HB4.out)))
    go_ret
    refine ⟨⟨3, rfl, ?_⟩, HX.out.trans (HB4.out.mono HX.out.size)⟩
    · rw [HV.out]; constructor
      · intro h; cases h
      · rintro ⟨_, _, _, h, _, _⟩; omega
  have hzd : decide ((600 : Int) < (Z : Int)) = false := by rw [decide_eq_false_iff_not]; omega
  by_cases hq : 9 < Q
  · have hqd : decide ((9 : Int) < (Q : Int)) = true := by rw [decide_eq_true_iff]; omega
    go_enter Try.func14, Try.ntmps14
    go_wp2_with (first
      | (go_at_call 38; (with_reducible refine (HT.out _ HX.out).mono ?_); rintro e w1 ⟨rfl, hb⟩
         have HB1 := Lib.hid (HBr.out.trans (hb.mono HBr.out.size))
         have H1 := Lib.hid (HX.out.trans (HB1.out.mono HX.out.size))
         clear a0 a1 a2 a3 a4 a5 a6 a7 a8 hb
         obtain ⟨⟨⟨a0, a1, a2⟩, a3, a4, a5⟩, a6, a7, a8⟩ := nine (CF.out _ HB1.out))
      | (go_at_call 39; (with_reducible refine (HR.out _ H1.out).mono ?_); rintro e w2 ⟨⟨m2, b2, rfl, hb2⟩, hb⟩
         obtain ⟨rfl, rfl⟩ : m2 = (m3 : Int) ∧ b2 = true := hb2
         have HB2 := Lib.hid (HB1.out.trans (hb.mono HB1.out.size))
         have H2 := Lib.hid (HX.out.trans (HB2.out.mono HX.out.size))
         clear a0 a1 a2 a3 a4 a5 a6 a7 a8 hb
         obtain ⟨⟨⟨a0, a1, a2⟩, a3, a4, a5⟩, a6, a7, a8⟩ := nine (CF.out _ HB2.out))
      | (go_at_call 40; (with_reducible refine (HN.out _ H2.out).mono ?_); rintro e w3 ⟨⟨cv, b3, rfl, hb3⟩, hb⟩
         replace hb3 : b3 = true ∧ _ := hb3; obtain ⟨rfl, hp3, _⟩ := hb3; obtain ⟨cad, ccap, rfl⟩ := own_sl hp3; clear hp3
         have HB3 := Lib.hid (HB2.out.trans ((hb.below (Nat.le_refl _) (fun g e => by cases e)).mono HB2.out.size))
         have H3 := Lib.hid (HX.out.trans (HB3.out.mono HX.out.size))
         clear a0 a1 a2 a3 a4 a5 a6 a7 a8 hb
         obtain ⟨⟨⟨a0, a1, a2⟩, a3, a4, a5⟩, a6, a7, a8⟩ := nine (CF.out _ HB3.out))
      | (go_at_call 41; (with_reducible refine (HS.out _ H3.out).mono ?_); rintro e w4 ⟨rfl, hb⟩
         have HB4 := Lib.hid (HB3.out.trans (hb.mono HB3.out.size))
         have H4 := Lib.hid (HX.out.trans (HB4.out.mono HX.out.size))
         clear a0 a1 a2 a3 a4 a5 a6 a7 a8 hb
         obtain ⟨⟨⟨a0, a1, a2⟩, a3, a4, a5⟩, a6, a7, a8⟩ := nine (CF.out _ HB4.out))
      | (go_at_call 16; (with_reducible refine (HG.out _ H4.out).mono ?_); rintro e w5 ⟨rfl, hb⟩
         have HB5 := Lib.hid (HB4.out.trans (hb.mono HB4.out.size))
         have H5 := Lib.hid (HX.out.trans (HB5.out.mono HX.out.size))
         clear a0 a1 a2 a3 a4 a5 a6 a7 a8 hb
         obtain ⟨⟨⟨a0, a1, a2⟩, a3, a4, a5⟩, a6, a7, a8⟩ := nine (CF.out _ HB5.out)))
    go_ret
    refine ⟨⟨3, rfl, ?_⟩, HX.out.trans (HB5.out.mono HX.out.size)⟩
    · rw [HV.out]; constructor
      · intro h; cases h
      · rintro ⟨_, _, _, _, h, _⟩; omega
  have hqd : decide ((9 : Int) < (Q : Int)) = false := by rw [decide_eq_false_iff_not]; omega
  by_cases hd : 32 < D
  · have hdd : decide ((32 : Int) < (D : Int)) = true := by rw [decide_eq_true_iff]; omega
    go_enter Try.func14, Try.ntmps14
    go_wp2_with (first
      | (go_at_call 38; (with_reducible refine (HT.out _ HX.out).mono ?_); rintro e w1 ⟨rfl, hb⟩
         have HB1 := Lib.hid (HBr.out.trans (hb.mono HBr.out.size))
         have H1 := Lib.hid (HX.out.trans (HB1.out.mono HX.out.size))
         clear a0 a1 a2 a3 a4 a5 a6 a7 a8 hb
         obtain ⟨⟨⟨a0, a1, a2⟩, a3, a4, a5⟩, a6, a7, a8⟩ := nine (CF.out _ HB1.out))
      | (go_at_call 39; (with_reducible refine (HR.out _ H1.out).mono ?_); rintro e w2 ⟨⟨m2, b2, rfl, hb2⟩, hb⟩
         obtain ⟨rfl, rfl⟩ : m2 = (m3 : Int) ∧ b2 = true := hb2
         have HB2 := Lib.hid (HB1.out.trans (hb.mono HB1.out.size))
         have H2 := Lib.hid (HX.out.trans (HB2.out.mono HX.out.size))
         clear a0 a1 a2 a3 a4 a5 a6 a7 a8 hb
         obtain ⟨⟨⟨a0, a1, a2⟩, a3, a4, a5⟩, a6, a7, a8⟩ := nine (CF.out _ HB2.out))
      | (go_at_call 40; (with_reducible refine (HN.out _ H2.out).mono ?_); rintro e w3 ⟨⟨cv, b3, rfl, hb3⟩, hb⟩
         replace hb3 : b3 = true ∧ _ := hb3; obtain ⟨rfl, hp3, _⟩ := hb3; obtain ⟨cad, ccap, rfl⟩ := own_sl hp3; clear hp3
         have HB3 := Lib.hid (HB2.out.trans ((hb.below (Nat.le_refl _) (fun g e => by cases e)).mono HB2.out.size))
         have H3 := Lib.hid (HX.out.trans (HB3.out.mono HX.out.size))
         clear a0 a1 a2 a3 a4 a5 a6 a7 a8 hb
         obtain ⟨⟨⟨a0, a1, a2⟩, a3, a4, a5⟩, a6, a7, a8⟩ := nine (CF.out _ HB3.out))
      | (go_at_call 41; (with_reducible refine (HS.out _ H3.out).mono ?_); rintro e w4 ⟨rfl, hb⟩
         have HB4 := Lib.hid (HB3.out.trans (hb.mono HB3.out.size))
         have H4 := Lib.hid (HX.out.trans (HB4.out.mono HX.out.size))
         clear a0 a1 a2 a3 a4 a5 a6 a7 a8 hb
         obtain ⟨⟨⟨a0, a1, a2⟩, a3, a4, a5⟩, a6, a7, a8⟩ := nine (CF.out _ HB4.out))
      | (go_at_call 16; (with_reducible refine (HG.out _ H4.out).mono ?_); rintro e w5 ⟨rfl, hb⟩
         have HB5 := Lib.hid (HB4.out.trans (hb.mono HB4.out.size))
         have H5 := Lib.hid (HX.out.trans (HB5.out.mono HX.out.size))
         clear a0 a1 a2 a3 a4 a5 a6 a7 a8 hb
         obtain ⟨⟨⟨a0, a1, a2⟩, a3, a4, a5⟩, a6, a7, a8⟩ := nine (CF.out _ HB5.out))
      | (go_at_call 42; (with_reducible refine (HL.out _ H5.out).mono ?_); rintro e w6 ⟨rfl, hb⟩
         have HB6 := Lib.hid (HB5.out.trans (hb.mono HB5.out.size))
         clear a0 a1 a2 a3 a4 a5 a6 a7 a8 hb
         obtain ⟨⟨⟨a0, a1, a2⟩, a3, a4, a5⟩, a6, a7, a8⟩ := nine (CF.out _ HB6.out)))
    go_ret
    refine ⟨⟨3, rfl, ?_⟩, HX.out.trans (HB6.out.mono HX.out.size)⟩
    · rw [HV.out]; constructor
      · intro h; cases h
      · rintro ⟨_, _, _, _, _, h⟩; omega
  · have hdd : decide ((32 : Int) < (D : Int)) = false := by rw [decide_eq_false_iff_not]; omega
    go_enter Try.func14, Try.ntmps14
    go_wp2_with (first
      | (go_at_call 38; (with_reducible refine (HT.out _ HX.out).mono ?_); rintro e w1 ⟨rfl, hb⟩
         have HB1 := Lib.hid (HBr.out.trans (hb.mono HBr.out.size))
         have H1 := Lib.hid (HX.out.trans (HB1.out.mono HX.out.size))
         clear a0 a1 a2 a3 a4 a5 a6 a7 a8 hb
         obtain ⟨⟨⟨a0, a1, a2⟩, a3, a4, a5⟩, a6, a7, a8⟩ := nine (CF.out _ HB1.out))
      | (go_at_call 39; (with_reducible refine (HR.out _ H1.out).mono ?_); rintro e w2 ⟨⟨m2, b2, rfl, hb2⟩, hb⟩
         obtain ⟨rfl, rfl⟩ : m2 = (m3 : Int) ∧ b2 = true := hb2
         have HB2 := Lib.hid (HB1.out.trans (hb.mono HB1.out.size))
         have H2 := Lib.hid (HX.out.trans (HB2.out.mono HX.out.size))
         clear a0 a1 a2 a3 a4 a5 a6 a7 a8 hb
         obtain ⟨⟨⟨a0, a1, a2⟩, a3, a4, a5⟩, a6, a7, a8⟩ := nine (CF.out _ HB2.out))
      | (go_at_call 40; (with_reducible refine (HN.out _ H2.out).mono ?_); rintro e w3 ⟨⟨cv, b3, rfl, hb3⟩, hb⟩
         replace hb3 : b3 = true ∧ _ := hb3; obtain ⟨rfl, hp3, _⟩ := hb3; obtain ⟨cad, ccap, rfl⟩ := own_sl hp3; clear hp3
         have HB3 := Lib.hid (HB2.out.trans ((hb.below (Nat.le_refl _) (fun g e => by cases e)).mono HB2.out.size))
         have H3 := Lib.hid (HX.out.trans (HB3.out.mono HX.out.size))
         clear a0 a1 a2 a3 a4 a5 a6 a7 a8 hb
         obtain ⟨⟨⟨a0, a1, a2⟩, a3, a4, a5⟩, a6, a7, a8⟩ := nine (CF.out _ HB3.out))
      | (go_at_call 41; (with_reducible refine (HS.out _ H3.out).mono ?_); rintro e w4 ⟨rfl, hb⟩
         have HB4 := Lib.hid (HB3.out.trans (hb.mono HB3.out.size))
         have H4 := Lib.hid (HX.out.trans (HB4.out.mono HX.out.size))
         clear a0 a1 a2 a3 a4 a5 a6 a7 a8 hb
         obtain ⟨⟨⟨a0, a1, a2⟩, a3, a4, a5⟩, a6, a7, a8⟩ := nine (CF.out _ HB4.out))
      | (go_at_call 16; (with_reducible refine (HG.out _ H4.out).mono ?_); rintro e w5 ⟨rfl, hb⟩
         have HB5 := Lib.hid (HB4.out.trans (hb.mono HB4.out.size))
         have H5 := Lib.hid (HX.out.trans (HB5.out.mono HX.out.size))
         clear a0 a1 a2 a3 a4 a5 a6 a7 a8 hb
         obtain ⟨⟨⟨a0, a1, a2⟩, a3, a4, a5⟩, a6, a7, a8⟩ := nine (CF.out _ HB5.out))
      | (go_at_call 42; (with_reducible refine (HL.out _ H5.out).mono ?_); rintro e w6 ⟨rfl, hb⟩
         have HB6 := Lib.hid (HB5.out.trans (hb.mono HB5.out.size))
         clear a0 a1 a2 a3 a4 a5 a6 a7 a8 hb
         obtain ⟨⟨⟨a0, a1, a2⟩, a3, a4, a5⟩, a6, a7, a8⟩ := nine (CF.out _ HB6.out)))
    go_ret
    refine ⟨⟨0, rfl, ?_⟩, HX.out.trans (HB6.out.mono HX.out.size)⟩
    · rw [HV.out]; exact ⟨fun _ => ⟨by simp, by simp, by simp, by omega, by omega, by omega⟩, fun _ => rfl⟩
end Go.Proofs.Ytpfbpgbgedbalaa
/- The reference's known, Length, First, Nullable. -/
set_option linter.unusedVariables false
set_option linter.unusedSimpArgs false
set_option maxRecDepth 100000
set_option maxHeartbeats 8000000
namespace Go.Proofs.Ytpfbpgbgedbalaa
open Go.RowKit

/-- What is known of a tree. -/
def knF (t : TN) : FC := if checkT t = 0 then valT facR t else FC0
theorem made_at (n i j : Nat) (hi : i < n) (hj : j < 7) : (madeCells z7 (n * 7))[i * 7 + j]? = (cells_f FC0)[j]? := by
  have h1 : i * 7 + j < n * 7 := by omega
  unfold madeCells
  rw [Array.getElem?_map, Array.getElem?_range, if_pos h1]
  have h2 : (i * 7 + j) % z7.size = j := by show (i * 7 + j) % 7 = j; omega
  show some (z7[(i * 7 + j) % z7.size]!) = _
  rw [h2]
  have : j = 0 ∨ j = 1 ∨ j = 2 ∨ j = 3 ∨ j = 4 ∨ j = 5 ∨ j = 6 := by omega
  unfold cells_f FC0
  rw [wd_noSet.1, wd_noSet.2.1, wd_noSet.2.2.1, wd_noSet.2.2.2]
  rcases this with rfl | rfl | rfl | rfl | rfl | rfl | rfl <;> rfl
theorem make_f (n : Nat) (hn : n ≤ 9) (w : World) : (Instr.makeSlice 92 (.int .i64 (n : Int)) (.int .i64 (n : Int))).run Try.prog w = .ok (.slice (some ⟨w.heap.size, 0, none⟩) n n) (w.alloc (.cells (madeCells z7 (n * 7)) 59)) := by
  obtain ⟨i, hi, h0, h1, h2⟩ := info_parts info_f
  have := run_makeSlice (P := Try.prog) w 92 59 i (.agg z7) Try.underlying92 hi h0 .i64 .i64 (n : Int) (n : Int) (by omega) (Int.le_refl _) (by rw [h1]; omega) (by rw [h2]; omega) (by omega)
  rw [Int.toNat_natCast, h1] at this
  exact this
theorem KN.made (w : World) (n : Nat) (T : TypeId) : KN ((w.alloc (.cells (madeCells z7 (n * 7)) 59)).alloc (.cells #[.slice (some ⟨w.heap.size, 0, none⟩) n n] T)) (w.heap.size + 1) w.heap.size n (fun _ => FC0) := by
  have hb : Below (w.alloc (.cells (madeCells z7 (n * 7)) 59)).heap.size (w.alloc (.cells (madeCells z7 (n * 7)) 59)) ((w.alloc (.cells (madeCells z7 (n * 7)) 59)).alloc (.cells #[.slice (some ⟨w.heap.size, 0, none⟩) n n] T)) := (Below.refl _ _).alloc (Nat.le_refl _) _
  have hk := (hb.block w.heap.size (by simp)).trans (heap_alloc_new w (.cells (madeCells z7 (n * 7)) 59))
  have hp := heap_alloc_new (w.alloc (.cells (madeCells z7 (n * 7)) 59)) (.cells #[.slice (some ⟨w.heap.size, 0, none⟩) n n] T)
  have hz : (w.alloc (.cells (madeCells z7 (n * 7)) 59)).heap.size = w.heap.size + 1 := by simp
  rw [hz] at hp
  refine ⟨cell_of_row _ _ 0 _ _ _ hp, fun i hi j u hu => ?_, fun off => frozen_of_row _ _ off _ _ hk, by omega, by simp; omega⟩
  have hj : j < 7 := (List.getElem?_eq_some_iff.1 hu).1
  rw [cell_of_row _ _ (i * 7 + j) _ _ _ hk, made_at n i j hi hj]
  exact hu
theorem results_row2f {fn : Func} {p u : Tmp} (h : fn.results = #[.cell p 59, .tmp u]) (tmps : Array Value) (w : World) (g : Nat) (t : TypeId) (cs : Array Value) (fr : Nat × Nat) (v : Value)
    (hp : tmps.getD p undef = .pointer (some ⟨g, 0, none⟩)) (hv : tmps.getD u undef = v) (hg : w.heap[g]? = some (.cells cs t fr)) (hi : (Try.prog.info? 59).map (·.size) = some cs.size) :
    (results fn tmps).run Try.prog w = .ok (.tuple #[.agg cs, v]) w := by
  rw [results_cell_tmp h, hp, hv]
  simp [asAddr, run_loadVar_row w g t 59 cs fr _ hg Try.underlying59 rfl hi]
theorem known_ti {w : World} {t : TN} {sv : Value} (h : TI w t sv) (hz : szF t.f ≤ 1048576) : Calls Try.prog 29 #[.agg #[.int .i64 t.op, .int .u64 (wd t.st 0 64 : Nat), .int .u64 (wd t.st 64 64 : Nat), .int .u64 (wd t.st 128 64 : Nat), .int .u64 (wd t.st 192 64 : Nat), .int .i64 t.lo, .int .i64 t.hi, .int .i64 t.g, sv]] w fun e w' => (∃ b, e = .returned (.tuple #[.agg (fc7 (knF t)), .bool b])) ∧ Below w.heap.size w w' := by
  have HC := Lib.hid (fun W (hb : Below w.heap.size w W) => rcheck_ti (h.below hb) hz)
  have hlb : w.heap.size ≤ w.heap.size := Nat.le_refl _
  have hval : Valid t → grF t.f ≤ 9 ∧ NdK (grF t.f) t.op t.lo t.hi t.g t.args ∧ preK (grF t.f) t.f := fun hv => by
    have h9 := ((valid_ref t).1 hv).2.2.2.2.1
    obtain ⟨c, h1, h2, h3, h4⟩ := hv
    obtain ⟨_, i2, _⟩ := vF_ref t.f [] c [] h1 Rel.nil
    have h5 := rngF_gr _ _ _ i2
    simp only [List.length_nil, Nat.zero_add] at h5
    have hp := preK_of (grF t.f) t.f [] c h1 (by omega) h3
    have hp2 : preK (grF t.f) (.cons t.op t.st t.lo t.hi t.g t.args .nil) := hp
    exact ⟨h9, ⟨hp2.1, hp2.2.1, hp2.2.2.1, hp2.2.2.2.1, hp2.2.2.2.2.1⟩, hp⟩
  have hkn : (Valid t → knF t = valT facR t) ∧ (¬ Valid t → knF t = FC0) := by
    unfold knF
    exact ⟨fun hv => if_pos ((checkT_iff t).2 hv), fun hv => if_neg (fun k => hv ((checkT_iff t).1 k))⟩
  obtain ⟨S, h1, h2, h3, h4, h5⟩ := h
  have hz' : szF t.args + 1 + 0 ≤ 1048576 := hz
  have HG := Lib.hid (fun W (hb : Below w.heap.size w W) => grp_any t.args t.op t.lo t.hi t.g t.st sv W S (h1.far (Afar.below hb)) h3 (by omega))
  have HO := Lib.hid (fun W (hb : Below w.heap.size w W) PB KB n hn (hS : w.heap.size ≤ KB) K hk hf hnd => of_any n hn t.args t.op t.lo t.hi t.g t.st sv W S PB KB K (h1.far (Afar.below hb)) (fun b hb2 => by have := h2 b hb2; omega) hk hf hnd)
  obtain ⟨ad, cap, rfl⟩ := slice_form h1
  obtain ⟨W2, hW2⟩ : ∃ W2, W2 = (w.alloc (.cells #[.int .i64 t.op, .int .u64 (wd t.st 0 64 : Nat), .int .u64 (wd t.st 64 64 : Nat), .int .u64 (wd t.st 128 64 : Nat), .int .u64 (wd t.st 192 64 : Nat), .int .i64 t.lo, .int .i64 t.hi, .int .i64 t.g, .slice ad t.args.len cap] 28)).alloc (.cells z7 59) := ⟨_, rfl⟩
  have hx : Below w.heap.size w W2 := by rw [hW2]; exact ((Below.refl _ _).alloc (Nat.le_refl _) _).alloc (by simp) _
  have hz2 : W2.heap.size = w.heap.size + 2 := by rw [hW2]; simp
  have hg0 : W2.heap[w.heap.size]? = some (.cells #[.int .i64 t.op, .int .u64 (wd t.st 0 64 : Nat), .int .u64 (wd t.st 64 64 : Nat), .int .u64 (wd t.st 128 64 : Nat), .int .u64 (wd t.st 192 64 : Nat), .int .i64 t.lo, .int .i64 t.hi, .int .i64 t.g, .slice ad t.args.len cap] 28 (0, 0)) := by
    rw [hW2, Below.heap_alloc _ _ _ (by simp)]
    exact heap_alloc_new w _
  have hg1 : W2.heap[w.heap.size + 1]? = some (.cells z7 59 (0, 0)) := by
    have := heap_alloc_new (w.alloc (.cells #[.int .i64 t.op, .int .u64 (wd t.st 0 64 : Nat), .int .u64 (wd t.st 64 64 : Nat), .int .u64 (wd t.st 128 64 : Nat), .int .u64 (wd t.st 192 64 : Nat), .int .i64 t.lo, .int .i64 t.hi, .int .i64 t.g, .slice ad t.args.len cap] 28)) (.cells z7 59)
    rw [hW2]
    simpa using this
  have HX := Lib.hid hx
  have HZ := Lib.hid hz2
  have HW2 := Lib.hid hW2
  have CF : Hid (∀ W, Below W2.heap.size W2 W → W.heap[w.heap.size]? = some (.cells #[.int .i64 t.op, .int .u64 (wd t.st 0 64 : Nat), .int .u64 (wd t.st 64 64 : Nat), .int .u64 (wd t.st 128 64 : Nat), .int .u64 (wd t.st 192 64 : Nat), .int .i64 t.lo, .int .i64 t.hi, .int .i64 t.g, .slice ad t.args.len cap] 28 (0, 0)) ∧ W.heap[w.heap.size + 1]? = some (.cells z7 59 (0, 0))) := Lib.hid fun W hb => ⟨(hb.block _ (by omega)).trans hg0, (hb.block _ (by omega)).trans hg1⟩
  have HV := Lib.hid hval
  have HKn := Lib.hid hkn
  obtain ⟨⟨⟨a0, a1, a2⟩, a3, a4, a5⟩, a6, a7, a8⟩ := nine hg0
  have HBr := Lib.hid (Below.refl W2.heap.size W2)
  clear h1 h2 h3 h4 h5 hz hz' hval hkn hx hz2 hg0 hg1 hlb hW2
  by_cases hv : Valid t
  · have hk0 : knF t = valT facR t := HKn.out.1 hv
    obtain ⟨n9, hnd, hpk⟩ := HV.out hv
    have hfv := facN_val (grF t.f) t hpk
    have eT : (⟨t.op, t.st, t.lo, t.hi, t.g, t.args⟩ : TN) = t := rfl
    have hgr : ((if t.op = 6 then 1 else 0) + grF t.args) = grF t.f := rfl
    rw [hgr] at HG
    rw [hk0, ← hfv]
    rw [eT] at HO
    generalize grF t.f = n at *
    have hmk := make_f n n9
    have HNd := Lib.hid hnd
    have HN9 := Lib.hid n9
    generalize hR : facN t (fun _ => FC0) = R at *
    have HOk := Lib.hid (fun W (hb : Below w.heap.size w W) PB KB (hS : w.heap.size ≤ KB) (hk : KN W PB KB n (fun _ => FC0)) => HO.out W hb PB KB n (by have := HN9.out; omega) hS (fun _ => FC0) hk (fun _ => fok0) HNd.out)
    simp only [hR] at HOk
    have hv1 := Lib.hid hv
    clear hfv hpk hnd eT hgr HO hk0 hR hv
    go_enter Try.func29, Try.ntmps29
    go_wp2_with (first
      | (go_at_call 14; rw [← HW2.out]; (with_reducible refine (HC.out _ HX.out).mono ?_); rintro e w1 ⟨⟨k, rfl, hk⟩, hb⟩
         have hk0 : k = 0 := hk.2 hv1.out
         subst hk0
         have HB1 := Lib.hid (HBr.out.trans (hb.mono HBr.out.size))
         have H1 := Lib.hid (HX.out.trans (HB1.out.mono HX.out.size))
         clear a0 a1 a2 a3 a4 a5 a6 a7 a8 hb hk
         obtain ⟨⟨⟨a0, a1, a2⟩, a3, a4, a5⟩, a6, a7, a8⟩ := nine (CF.out _ HB1.out).1)
      | (go_at_call 16; (with_reducible refine (HG.out _ H1.out).mono ?_); rintro e w2 ⟨rfl, hb⟩
         have HB2 := Lib.hid (HB1.out.trans (hb.mono HB1.out.size))
         have H2 := Lib.hid (HX.out.trans (HB2.out.mono HX.out.size))
         have hkn := KN.made w2 n 94
         have hbm : Below w2.heap.size w2 ((w2.alloc (.cells (madeCells z7 (n * 7)) 59)).alloc (.cells #[.slice (some ⟨w2.heap.size, 0, none⟩) n n] 94)) := ((Below.refl _ _).alloc (Nat.le_refl _) _).alloc (by simp) _
         have HBm := Lib.hid hbm
         have HKm := Lib.hid hkn
         have hlt2 : w.heap.size < w2.heap.size := by have := HB2.out.size; have := HZ.out; omega
         clear a0 a1 a2 a3 a4 a5 a6 a7 a8 hb hkn hbm
         obtain ⟨⟨⟨a0, a1, a2⟩, a3, a4, a5⟩, a6, a7, a8⟩ := nine (CF.out _ HB2.out).1)
      | (go_at_call 59; (with_reducible refine (HOk.out _ (H2.out.trans (HBm.out.mono H2.out.size)) (w2.heap.size + 1) w2.heap.size H2.out.size HKm.out).mono ?_); rintro e w3 ⟨rfl, hk3, ho3⟩
         have HO3 := Lib.hid ho3
         have HRS : w3.heap[w.heap.size + 1]? = some (.cells z7 59 (0, 0)) := (ho3.block _ (by have := HBm.out.size; have := HB2.out.size; have := HZ.out; omega) (by have := HB2.out.size; have := HZ.out; omega)).trans ((HBm.out.block _ (by have := HB2.out.size; have := HZ.out; omega)).trans (CF.out _ HB2.out).2)
         clear a0 a1 a2 a3 a4 a5 a6 a7 a8 hk3 ho3)
      | (refine wpList_store_row rfl 59 (.tmp 2) (.tmp 16) rfl (w.heap.size + 1) (fc7 R.1) rfl rfl 59 _ HRS isz_f rfl (by simp [Value.oneCell']) ?_))
    refine bodyPost_ret (v := .tuple #[.agg (fc7 R.1), .bool true]) (results_row2f rfl _ _ (w.heap.size + 1) _ (fc7 R.1) (0, 0) (.bool true) rfl rfl (setRow_heap _ _ _ _ _ _ HRS) isz_f) rfl ?_
    refine ⟨⟨_, rfl⟩, below_setRow ?_ (by omega) _⟩
    have h0 := H2.out.trans (HBm.out.mono H2.out.size)
    exact ⟨HO3.out.os.trans h0.os, HO3.out.tape.trans h0.tape, HO3.out.output.trans h0.output, Nat.le_trans h0.size HO3.out.size, fun b hb => (HO3.out.block b (by have := h0.size; omega) (by have := H2.out.size; omega)).trans (h0.block b hb)⟩
  · have hk0 : knF t = FC0 := HKn.out.2 hv
    have e0 : fc7 FC0 = z7 := by
      unfold fc7 FC0 z7
      rw [wd_noSet.1, wd_noSet.2.1, wd_noSet.2.2.1, wd_noSet.2.2.2]
      rfl
    rw [hk0, e0]
    have hv1 := Lib.hid hv
    clear hk0 e0 HO HG hv
    go_enter Try.func29, Try.ntmps29
    go_wp2_with (first
      | (go_at_call 14; rw [← HW2.out]; (with_reducible refine (HC.out _ HX.out).mono ?_); rintro e w1 ⟨⟨k, rfl, hk⟩, hb⟩
         have hk0 : (k == 0) = false := by
           rw [beq_eq_false_iff_ne]
           exact fun e => hv1.out (hk.1 e)
         have HB1 := Lib.hid (HBr.out.trans (hb.mono HBr.out.size))
         have HRS := (CF.out _ HB1.out).2
         clear a0 a1 a2 a3 a4 a5 a6 a7 a8 hb hk)
      | (refine wpList_store_row rfl 59 (.tmp 2) (.tmp 8) rfl (w.heap.size + 1) z7 rfl rfl 59 _ HRS isz_f rfl (by simp [Value.oneCell']) ?_))
    refine bodyPost_ret (v := .tuple #[.agg z7, .bool false]) (results_row2f rfl _ _ (w.heap.size + 1) _ z7 (0, 0) (.bool false) rfl rfl (setRow_heap _ _ _ _ _ _ HRS) isz_f) rfl ?_
    exact ⟨⟨_, rfl⟩, below_setRow (HX.out.trans (HB1.out.mono HX.out.size)) (by omega) _⟩
end Go.Proofs.Ytpfbpgbgedbalaa
/- The reference's Length, First, Nullable. -/
set_option linter.unusedVariables false
set_option linter.unusedSimpArgs false
set_option maxRecDepth 100000
set_option maxHeartbeats 8000000
namespace Go.Proofs.Ytpfbpgbgedbalaa
open Go.RowKit

theorem rlength_ti {w : World} {t : TN} {sv : Value} (h : TI w t sv) (hz : szF t.f ≤ 1048576) : Calls Try.prog 8 #[.agg #[.int .i64 t.op, .int .u64 (wd t.st 0 64 : Nat), .int .u64 (wd t.st 64 64 : Nat), .int .u64 (wd t.st 128 64 : Nat), .int .u64 (wd t.st 192 64 : Nat), .int .i64 t.lo, .int .i64 t.hi, .int .i64 t.g, sv]] w fun e w' => e = .returned (.tuple #[.int .i64 (knF t).lo, .int .i64 (knF t).hi]) ∧ Below w.heap.size w w' := by
  obtain ⟨ad, cap, rfl⟩ := h.form
  have hb : Below w.heap.size w (w.alloc (.cells #[.int .i64 t.op, .int .u64 (wd t.st 0 64 : Nat), .int .u64 (wd t.st 64 64 : Nat), .int .u64 (wd t.st 128 64 : Nat), .int .u64 (wd t.st 192 64 : Nat), .int .i64 t.lo, .int .i64 t.hi, .int .i64 t.g, .slice ad t.args.len cap] 28)) := (Below.refl _ _).alloc (Nat.le_refl _) _
  have HK := Lib.hid (known_ti (h.below hb) hz)
  have HB := Lib.hid hb
  clear h hb hz
  generalize knF t = Y at *
  obtain ⟨yn, yl, yh, ys⟩ := Y
  go_enter Try.func8, Try.ntmps8
  go_wp2_with (first
    | (go_at_call 29; (with_reducible refine HK.out.mono ?_); rintro e w1 ⟨⟨b, rfl⟩, hb⟩
       have HB1 := Lib.hid (HB.out.trans (hb.mono HB.out.size))
       clear hb))
  go_quiet (fail)
  go_wp2_with fail
  go_ret2
  exact ⟨rfl, below_drewN (HB1.out.alloc HB1.out.size _) _⟩
theorem rnullable_ti {w : World} {t : TN} {sv : Value} (h : TI w t sv) (hz : szF t.f ≤ 1048576) : Calls Try.prog 12 #[.agg #[.int .i64 t.op, .int .u64 (wd t.st 0 64 : Nat), .int .u64 (wd t.st 64 64 : Nat), .int .u64 (wd t.st 128 64 : Nat), .int .u64 (wd t.st 192 64 : Nat), .int .i64 t.lo, .int .i64 t.hi, .int .i64 t.g, sv]] w fun e w' => e = .returned (.bool (knF t).nul) ∧ Below w.heap.size w w' := by
  obtain ⟨ad, cap, rfl⟩ := h.form
  have hb : Below w.heap.size w (w.alloc (.cells #[.int .i64 t.op, .int .u64 (wd t.st 0 64 : Nat), .int .u64 (wd t.st 64 64 : Nat), .int .u64 (wd t.st 128 64 : Nat), .int .u64 (wd t.st 192 64 : Nat), .int .i64 t.lo, .int .i64 t.hi, .int .i64 t.g, .slice ad t.args.len cap] 28)) := (Below.refl _ _).alloc (Nat.le_refl _) _
  have HK := Lib.hid (known_ti (h.below hb) hz)
  have HB := Lib.hid hb
  clear h hb hz
  generalize knF t = Y at *
  obtain ⟨yn, yl, yh, ys⟩ := Y
  go_enter Try.func12, Try.ntmps12
  go_wp2_with (first
    | (go_at_call 29; (with_reducible refine HK.out.mono ?_); rintro e w1 ⟨⟨b, rfl⟩, hb⟩
       have HB1 := Lib.hid (HB.out.trans (hb.mono HB.out.size))
       clear hb))
  go_ret
  exact ⟨rfl, HB1.out.alloc HB1.out.size _⟩
/-- While the reference's First stores its set: the facts in block P, some set in the result's block. -/
def SG (w : World) (P : Nat) (ya : Nat → Bool) (yb : Bool) (w' : World) : Prop := Below w.heap.size w w' ∧ (w'.cell? ⟨P, 3, none⟩ = some (.int .u64 (wd ya 0 64 : Nat)) ∧ w'.cell? ⟨P, 4, none⟩ = some (.int .u64 (wd ya 64 64 : Nat)) ∧ w'.cell? ⟨P, 5, none⟩ = some (.int .u64 (wd ya 128 64 : Nat)) ∧ w'.cell? ⟨P, 6, none⟩ = some (.int .u64 (wd ya 192 64 : Nat)) ∧ w'.cell? ⟨P, 0, none⟩ = some (.bool yb)) ∧ P ≠ w.heap.size + 1 ∧ ∃ a b c d, w'.heap[w.heap.size + 1]? = some (.cells #[a, b, c, d] 25 (0, 0))
theorem SG.put {w w' : World} {P : Nat} {ya : Nat → Bool} {yb : Bool} (h : SG w P ya yb w') (a b c d : Value) : SG w P ya yb (put4v w' (w.heap.size + 1) a b c d) ∧ (put4v w' (w.heap.size + 1) a b c d).heap[w.heap.size + 1]? = some (.cells #[a, b, c, d] 25 (0, 0)) := by
  obtain ⟨h1, ⟨z0, z1, z2, z3, z4⟩, hP, x, y, z, u, hr⟩ := h
  have e : ∀ j, (put4v w' (w.heap.size + 1) a b c d).cell? ⟨P, j, none⟩ = w'.cell? ⟨P, j, none⟩ := fun j => cell_same (put4v_other hP a b c d)
  exact ⟨⟨put4v_below h1 _ (by omega) _ _ _ _, ⟨(e 3).trans z0, (e 4).trans z1, (e 5).trans z2, (e 6).trans z3, (e 0).trans z4⟩, hP, _, _, _, _, put4v_heap hr a b c d⟩, put4v_heap hr a b c d⟩
theorem SG.drew {w w' : World} {P : Nat} {ya : Nat → Bool} {yb : Bool} (h : SG w P ya yb w') : SG w P ya yb w'.drew := ⟨h.1.drew, h.2⟩
theorem rfirst_ti {w : World} {t : TN} {sv : Value} (h : TI w t sv) (hz : szF t.f ≤ 1048576) : Calls Try.prog 10 #[.agg #[.int .i64 t.op, .int .u64 (wd t.st 0 64 : Nat), .int .u64 (wd t.st 64 64 : Nat), .int .u64 (wd t.st 128 64 : Nat), .int .u64 (wd t.st 192 64 : Nat), .int .i64 t.lo, .int .i64 t.hi, .int .i64 t.g, sv]] w fun e w' => e = .returned (.tuple #[.agg (cl (knF t).st), .bool (knF t).nul]) ∧ Below w.heap.size w w' := by
  obtain ⟨ad, cap, rfl⟩ := h.form
  obtain ⟨W2, hW2⟩ : ∃ W2, W2 = (w.alloc (.cells #[.int .i64 t.op, .int .u64 (wd t.st 0 64 : Nat), .int .u64 (wd t.st 64 64 : Nat), .int .u64 (wd t.st 128 64 : Nat), .int .u64 (wd t.st 192 64 : Nat), .int .i64 t.lo, .int .i64 t.hi, .int .i64 t.g, .slice ad t.args.len cap] 28)).alloc (.cells #[.int .u64 0, .int .u64 0, .int .u64 0, .int .u64 0] 25) := ⟨_, rfl⟩
  have hb : Below w.heap.size w W2 := by rw [hW2]; exact ((Below.refl _ _).alloc (Nat.le_refl _) _).alloc (by simp) _
  have hz2 : W2.heap.size = w.heap.size + 2 := by rw [hW2]; simp
  have hr : W2.heap[w.heap.size + 1]? = some (.cells #[.int .u64 0, .int .u64 0, .int .u64 0, .int .u64 0] 25 (0, 0)) := by
    have := heap_alloc_new (w.alloc (.cells #[.int .i64 t.op, .int .u64 (wd t.st 0 64 : Nat), .int .u64 (wd t.st 64 64 : Nat), .int .u64 (wd t.st 128 64 : Nat), .int .u64 (wd t.st 192 64 : Nat), .int .i64 t.lo, .int .i64 t.hi, .int .i64 t.g, .slice ad t.args.len cap] 28)) (.cells #[.int .u64 0, .int .u64 0, .int .u64 0, .int .u64 0] 25)
    rw [hW2]
    simpa using this
  have HK := Lib.hid (known_ti (h.below hb) hz)
  have HB := Lib.hid hb
  have HR := Lib.hid hr
  have HZ := Lib.hid hz2
  rw [hW2] at HK
  have HW2 := Lib.hid hW2
  clear h hb hr hz2 hz hW2
  generalize knF t = Y at *
  obtain ⟨yb, yl, yh, ya⟩ := Y
  have HCl : Hid (cl ya = #[.int .u64 (wd ya 0 64 : Nat), .int .u64 (wd ya 64 64 : Nat), .int .u64 (wd ya 128 64 : Nat), .int .u64 (wd ya 192 64 : Nat)]) := Lib.hid rfl
  go_enter Try.func10, Try.ntmps10
  go_upto_region 2 with (first
    | (go_at_call 29; (with_reducible refine HK.out.mono ?_); rintro e w2 ⟨⟨b, rfl⟩, hb⟩
       rw [← HW2.out] at hb
       have HB2 := Lib.hid (HB.out.trans (hb.mono HB.out.size))
       have HR2 := Lib.hid ((hb.block (w.heap.size + 1) (by have := HZ.out; omega)).trans HR.out)
       clear hb))
  have hx := heap_alloc_new w2 (.cells #[.bool yb, .int .i64 yl, .int .i64 yh, .int .u64 (wd ya 0 64 : Nat), .int .u64 (wd ya 64 64 : Nat), .int .u64 (wd ya 128 64 : Nat), .int .u64 (wd ya 192 64 : Nat)] 59)
  have hbx : Below w2.heap.size w2 (w2.alloc (.cells #[.bool yb, .int .i64 yl, .int .i64 yh, .int .u64 (wd ya 0 64 : Nat), .int .u64 (wd ya 64 64 : Nat), .int .u64 (wd ya 128 64 : Nat), .int .u64 (wd ya 192 64 : Nat)] 59)) := (Below.refl _ _).alloc (Nat.le_refl _) _
  generalize w2.alloc (.cells #[.bool yb, .int .i64 yl, .int .i64 yh, .int .u64 (wd ya 0 64 : Nat), .int .u64 (wd ya 64 64 : Nat), .int .u64 (wd ya 128 64 : Nat), .int .u64 (wd ya 192 64 : Nat)] 59) = W at *
  have d0 := cell_of_row W w2.heap.size 3 _ _ _ hx
  have d1 := cell_of_row W w2.heap.size 4 _ _ _ hx
  have d2 := cell_of_row W w2.heap.size 5 _ _ _ hx
  have d3 := cell_of_row W w2.heap.size 6 _ _ _ hx
  have d4 := cell_of_row W w2.heap.size 0 _ _ _ hx
  replace d0 : W.cell? ⟨w2.heap.size, 3, none⟩ = some (.int .u64 (wd ya 0 64 : Nat)) := d0
  replace d1 : W.cell? ⟨w2.heap.size, 4, none⟩ = some (.int .u64 (wd ya 64 64 : Nat)) := d1
  replace d2 : W.cell? ⟨w2.heap.size, 5, none⟩ = some (.int .u64 (wd ya 128 64 : Nat)) := d2
  replace d3 : W.cell? ⟨w2.heap.size, 6, none⟩ = some (.int .u64 (wd ya 192 64 : Nat)) := d3
  replace d4 : W.cell? ⟨w2.heap.size, 0, none⟩ = some (.bool yb) := d4
  have HR3 : Hid (W.drew.heap[w.heap.size + 1]? = some (.cells #[.int .u64 0, .int .u64 0, .int .u64 0, .int .u64 0] 25 (0, 0))) := Lib.hid ((hbx.block _ (Array.getElem?_eq_some_iff.1 HR2.out).1).trans HR2.out)
  have HB3 := Lib.hid (HB2.out.trans (hbx.mono HB2.out.size))
  clear hx hbx
  have hlr := (Array.getElem?_eq_some_iff.1 HR2.out).1
  have HS0 : Hid (SG w w2.heap.size ya yb W) := Lib.hid ⟨HB3.out, ⟨d0, d1, d2, d3, d4⟩, (by omega), _, _, _, _, HR3.out⟩
  clear hlr d0 d1 d2 d3 d4
  refine wp_region_held_drew (S := SG w w2.heap.size ya yb) (by kernel_rfl) ?_ (fun hHeld => ?_)
  · exact HS0.out.drew
  refine wpAnyH_take (i := 0) (v := ?cv0) rfl (by kernel_rfl) (by kernel_rfl) (by kernel_rfl) (fun _ _ _ h => h) (Or.inl ⟨by rfl, ?cy0⟩) (by assumption) ?cr0
  case cy0 =>
    intro wx hSw
    have hs6 := hSw.2.1
    obtain ⟨z0, z1, z2, z3, z4⟩ := hs6
    clear hSw
    go_simp
    first | done | (with_reducible rfl)
  (try simp only [Act.put, List.getElem_toArray, List.getElem_cons_zero, List.setIfInBounds_toArray, List.set_cons_zero, List.set_cons_succ])
  refine wpAnyH_take (i := 1) (v := ?cv1) rfl (by kernel_rfl) (by kernel_rfl) (by kernel_rfl) (fun _ _ _ h => h) (Or.inl ⟨by rfl, ?cy1⟩) (by assumption) ?cr1
  case cy1 =>
    intro wx hSw
    have hs6 := hSw.2.1
    obtain ⟨z0, z1, z2, z3, z4⟩ := hs6
    clear hSw
    go_simp
    first | done | (with_reducible rfl)
  (try simp only [Act.put, List.getElem_toArray, List.getElem_cons_succ, List.getElem_cons_zero, List.setIfInBounds_toArray, List.set_cons_zero, List.set_cons_succ])
  refine wpAnyH_take (i := 2) (v := ?cv2) rfl (by kernel_rfl) (by kernel_rfl) (by kernel_rfl) (fun _ _ _ h => h) (Or.inl ⟨by rfl, ?cy2⟩) (by assumption) ?cr2
  case cy2 =>
    intro wx hSw
    have hs6 := hSw.2.1
    obtain ⟨z0, z1, z2, z3, z4⟩ := hs6
    clear hSw
    go_simp
    first | done | (with_reducible rfl)
  (try simp only [Act.put, List.getElem_toArray, List.getElem_cons_succ, List.getElem_cons_zero, List.setIfInBounds_toArray, List.set_cons_zero, List.set_cons_succ])
  refine wpAnyH_take (i := 3) (v := ?cv3) rfl (by kernel_rfl) (by kernel_rfl) (by kernel_rfl) (fun _ _ _ h => h) (Or.inl ⟨by rfl, ?cy3⟩) (by assumption) ?cr3
  case cy3 =>
    intro wx hSw
    have hs6 := hSw.2.1
    obtain ⟨z0, z1, z2, z3, z4⟩ := hs6
    clear hSw
    go_simp
    first | done | (with_reducible rfl)
  (try simp only [Act.put, List.getElem_toArray, List.getElem_cons_succ, List.getElem_cons_zero, List.setIfInBounds_toArray, List.set_cons_zero, List.set_cons_succ])
  refine wpAnyH_ready (rs := [4]) (by kernel_rfl) (by simp) ?_
  refine AllReadyH.cons rfl (fun K hK => ?_) AllReadyH.nil
  obtain ⟨x1, x2, x9, xa, xb, xc, xd, xr⟩ := hHeld
  have fr := fun j => frozen_of_row W.drew (w.heap.size + 1) j _ _ xr
  have y0 := cell_of_row W.drew (w.heap.size + 1) 0 _ _ _ xr
  have y1 := cell_of_row W.drew (w.heap.size + 1) 1 _ _ _ xr
  have y2 := cell_of_row W.drew (w.heap.size + 1) 2 _ _ _ xr
  have y3 := cell_of_row W.drew (w.heap.size + 1) 3 _ _ _ xr
  replace y0 : W.cell? ⟨w.heap.size + 1, 0, none⟩ = some xa := y0
  replace y1 : W.cell? ⟨w.heap.size + 1, 1, none⟩ = some xb := y1
  replace y2 : W.cell? ⟨w.heap.size + 1, 2, none⟩ = some xc := y2
  replace y3 : W.cell? ⟨w.heap.size + 1, 3, none⟩ = some xd := y3
  replace fr : ∀ j, W.frozen? ⟨w.heap.size + 1, j, none⟩ = false := fr
  go_simp
  have HPt := Lib.hid (HS0.out.put (.int .u64 (wd ya 0 64 : Nat)) (.int .u64 (wd ya 64 64 : Nat)) (.int .u64 (wd ya 128 64 : Nat)) (.int .u64 (wd ya 192 64 : Nat)))
  refine hK.out _ _ ?_ (fun hHeld4 => ?_)
  · exact HPt.out.1.drew
  clear hK K
  refine wpAnyH_take (i := 5) (v := ?ev5) rfl (by kernel_rfl) (by kernel_rfl) (by kernel_rfl) (fun _ _ _ h => h) (Or.inl ⟨by rfl, ?ey5⟩) (by assumption) ?er5
  case ey5 =>
    intro wx hSw
    clear hSw
    go_simp
    first | done | (with_reducible rfl)
  (try simp only [Act.put, List.getElem_toArray, List.getElem_cons_succ, List.getElem_cons_zero, List.setIfInBounds_toArray, List.set_cons_zero, List.set_cons_succ])
  refine wpAnyH_done (by kernel_rfl) ?_ _
  clear y0 y1 y2 y3 fr
  go_wp2_with fail
  rw [HCl.out]
  refine bodyPost_ret (v := .tuple #[.agg #[.int .u64 (wd ya 0 64 : Nat), .int .u64 (wd ya 64 64 : Nat), .int .u64 (wd ya 128 64 : Nat), .int .u64 (wd ya 192 64 : Nat)], .bool yb]) (results_row2 rfl _ _ (w.heap.size + 1) _ #[.int .u64 (wd ya 0 64 : Nat), .int .u64 (wd ya 64 64 : Nat), .int .u64 (wd ya 128 64 : Nat), .int .u64 (wd ya 192 64 : Nat)] (0, 0) (.bool yb) rfl rfl HPt.out.2 info_cs) rfl ?_
  exact ⟨rfl, HPt.out.1.1.drew⟩
end Go.Proofs.Ytpfbpgbgedbalaa
