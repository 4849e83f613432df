/- RtX8, RbN, RpMath, RpMem, RpTree, RpAll. -/
import Derived.Test.YtfgcnknmiclfnaaDoorPb8
import Derived.Test.YtfgcnknmiclfnaaDoorPb6
import Derived.Test.YtfgcnknmiclfnaaDoorPb2
import Derived.Test.YtfgcnknmiclfnaaDoorPb7
import Derived.Test.YtfgcnknmiclfnaaDoorPb4
import Derived.Test.YtfgcnknmiclfnaaDoorPb9
import Derived.Deep.RegionHeld3
import Derived.OneCell
import Derived.Deep.AppendLies
import Derived.Deep.RegionLaw
import Derived.StillTailTactics
import Derived.Deep.QuietTactic
import Derived.BigQuiet
import Derived.RegionTactic
import Derived.ChangeAlike
import Derived.StillTactics
set_option linter.unusedVariables false
set_option linter.unusedSimpArgs false
set_option maxRecDepth 100000
namespace Go.Proofs.YtfgcnknmiclfnaaDoor
open Go.RowKit
theorem i0 : (-9223372036854775808 : Int) ≤ 0 ∧ (0 : Int) ≤ 9223372036854775807 := by decide
theorem i3 : (-9223372036854775808 : Int) ≤ 3 ∧ (3 : Int) ≤ 9223372036854775807 := by decide
theorem i5 : (-9223372036854775808 : Int) ≤ 5 ∧ (5 : Int) ≤ 9223372036854775807 := by decide
theorem SV.low {w : World} {S : Nat → Prop} {f : F} {sv : Value} (h : SV w S f sv) : SV w (fun b => S b ∧ b < w.heap.size) f sv := h.far ⟨Nat.le_refl _, fun b h1 h2 => ⟨⟨h1, h2⟩, rfl⟩⟩
end Go.Proofs.YtfgcnknmiclfnaaDoor
set_option linter.unusedVariables false
set_option linter.unusedSimpArgs false
set_option maxRecDepth 100000
set_option maxHeartbeats 8000000
namespace Go.Proofs.YtfgcnknmiclfnaaDoor
open Go.RowKit
theorem rcheck_ti {w : World} {t : TN} {sv : Value} (h : TI w t sv) (hz : szF t.f ≤ 1048576) : Calls Tryd.prog 29 #[.agg #[.int .i64 t.op, .int .u64 (wd t.st 0 64 : Nat), .int .u64 (wd t.st 64 64 : Nat), .int .u64 (wd t.st 128 64 : Nat), .int .u64 (wd t.st 192 64 : Nat), .int .i64 t.lo, .int .i64 t.hi, .int .i64 t.g, sv]] w fun e w' => (∃ k, e = .returned (.int .i64 k) ∧ (k = 0 ↔ Valid t)) ∧ Below w.heap.size w w' := by
  obtain ⟨S, h1, h2, h3, h4, h5⟩ := h
  have hz' : szF t.args + 1 + 0 ≤ 1048576 := hz
  have hV := valid_ref t
  have e1 : typF t.f = (fldT t.op t.st t.lo t.hi t.g t.args.len && typF t.args) := by unfold TN.f; rw [typF, typF, Bool.and_true]
  have e2 : (rngF t.f 0).isSome = (rngN t.op t.lo t.hi t.g t.args 0).isSome := by
    unfold TN.f
    rw [rngF_cons]
    cases rngN t.op t.lo t.hi t.g t.args 0 <;> rfl
  have e3 : (nmdF t.f []).isSome = (nmdN t.op t.g t.args []).isSome := by
    unfold TN.f
    rw [nmdF_cons]
    cases nmdN t.op t.g t.args [] <;> rfl
  have e4 : szF t.f = szF t.args + 1 := rfl
  have e5 : grF t.f = (if t.op = 6 then 1 else 0) + grF t.args := rfl
  have e6 : lvlF t.f = lvlF t.args + 1 := by show max (lvlF t.args + 1) 0 = _; omega
  rw [e1, e2, e3, e4, e5, e6] at hV
  have HT := Lib.hid (fun W (hb : Below w.heap.size w W) => typ_any t.args t.op t.lo t.hi t.g t.st sv W S (h1.far (Afar.below hb)) h3)
  have HR := Lib.hid (fun W (hb : Below w.heap.size w W) => rng_any t.args t.op t.lo t.hi t.g t.st sv W S 0 (h1.far (Afar.below hb)) h3 ⟨h4, h5⟩ (by omega))
  simp only [Int.natCast_zero] at HR
  have HN := Lib.hid (fun W (hb : Below w.heap.size w W) => nam_any t.args t.op t.lo t.hi t.g t.st sv W S w.heap.size [] (.slice none 0 0) (h1.far (Afar.below hb)) h3 h2 hb.size (PV.nil _ _ _ _ _) (by show 0 + _ + 1 ≤ _; omega))
  have HS := Lib.hid (fun W (hb : Below w.heap.size w W) => siz_any t.args t.op t.lo t.hi t.g t.st sv W S (h1.far (Afar.below hb)) h3 (by omega))
  have HG := Lib.hid (fun W (hb : Below w.heap.size w W) => grp_any t.args t.op t.lo t.hi t.g t.st sv W S (h1.far (Afar.below hb)) h3 (by omega))
  have HL := Lib.hid (fun W (hb : Below w.heap.size w W) => lev_any t.args t.op t.lo t.hi t.g t.st sv W S (h1.far (Afar.below hb)) h3 (by omega))
  have hsl : szF t.args + 1 ≤ 1048576 := hz'
  have hgl := gr_sz t.args
  have hll := lv_sz t.args
  obtain ⟨ad, cap, rfl⟩ := slice_form h1
  generalize (fldT t.op t.st t.lo t.hi t.g t.args.len && typF t.args) = B1 at *
  generalize rngN t.op t.lo t.hi t.g t.args 0 = B2 at *
  generalize nmdN t.op t.g t.args [] = B3 at *
  generalize hZ : szF t.args + 1 = Z at *
  generalize hQ : (if t.op = 6 then 1 else 0) + grF t.args = Q at *
  have hQ2 : Q ≤ 1048577 := by rw [← hQ]; split <;> omega
  generalize hD : lvlF t.args + 1 = D at *
  have hD2 : D ≤ 1048577 := by omega
  have hx : Below w.heap.size w (w.alloc (.cells #[.int .i64 t.op, .int .u64 (wd t.st 0 64 : Nat), .int .u64 (wd t.st 64 64 : Nat), .int .u64 (wd t.st 128 64 : Nat), .int .u64 (wd t.st 192 64 : Nat), .int .i64 t.lo, .int .i64 t.hi, .int .i64 t.g, .slice ad t.args.len cap] 55)) := (Below.refl _ _).alloc (Nat.le_refl _) _
  have hg0 := nine (heap_alloc_new w (.cells #[.int .i64 t.op, .int .u64 (wd t.st 0 64 : Nat), .int .u64 (wd t.st 64 64 : Nat), .int .u64 (wd t.st 128 64 : Nat), .int .u64 (wd t.st 192 64 : Nat), .int .i64 t.lo, .int .i64 t.hi, .int .i64 t.g, .slice ad t.args.len cap] 55))
  have HX := Lib.hid hx
  have HV := Lib.hid hV
  have CF : Hid (∀ W, Below (w.alloc (.cells #[.int .i64 t.op, .int .u64 (wd t.st 0 64 : Nat), .int .u64 (wd t.st 64 64 : Nat), .int .u64 (wd t.st 128 64 : Nat), .int .u64 (wd t.st 192 64 : Nat), .int .i64 t.lo, .int .i64 t.hi, .int .i64 t.g, .slice ad t.args.len cap] 55)).heap.size (w.alloc (.cells #[.int .i64 t.op, .int .u64 (wd t.st 0 64 : Nat), .int .u64 (wd t.st 64 64 : Nat), .int .u64 (wd t.st 128 64 : Nat), .int .u64 (wd t.st 192 64 : Nat), .int .i64 t.lo, .int .i64 t.hi, .int .i64 t.g, .slice ad t.args.len cap] 55)) W → W.heap[w.heap.size]? = some (.cells #[.int .i64 t.op, .int .u64 (wd t.st 0 64 : Nat), .int .u64 (wd t.st 64 64 : Nat), .int .u64 (wd t.st 128 64 : Nat), .int .u64 (wd t.st 192 64 : Nat), .int .i64 t.lo, .int .i64 t.hi, .int .i64 t.g, .slice ad t.args.len cap] 55 (0, 0))) := Lib.hid fun W hb => (hb.block _ (by simp)).trans (heap_alloc_new w _)
  obtain ⟨⟨⟨a0, a1, a2⟩, a3, a4, a5⟩, a6, a7, a8⟩ := hg0
  generalize hW2 : w.alloc (.cells #[.int .i64 t.op, .int .u64 (wd t.st 0 64 : Nat), .int .u64 (wd t.st 64 64 : Nat), .int .u64 (wd t.st 128 64 : Nat), .int .u64 (wd t.st 192 64 : Nat), .int .i64 t.lo, .int .i64 t.hi, .int .i64 t.g, .slice ad t.args.len cap] 55) = W2 at *
  have HBr := Lib.hid (Below.refl W2.heap.size W2)
  clear h1 h2 h3 h4 h5 hz hz' hV e1 e2 e3 e4 e5 e6 hgl hll hZ hQ hD hsl hx
  cases B1
  case false =>
    go_enter Tryd.func29, Tryd.ntmps29
    go_wp2_with (first
      | (go_at_call 44; (with_reducible refine (HT.out _ HX.out).mono ?_); rintro e w1 ⟨rfl, hb⟩
         have HB1 := Lib.hid (HBr.out.trans (hb.mono HBr.out.size))
         have H1 := Lib.hid (HX.out.trans (HB1.out.mono HX.out.size))
         clear a0 a1 a2 a3 a4 a5 a6 a7 a8 hb
         obtain ⟨⟨⟨a0, a1, a2⟩, a3, a4, a5⟩, a6, a7, a8⟩ := nine (CF.out _ HB1.out)))
    go_ret
    refine ⟨⟨7, rfl, ?_⟩, HX.out.trans (HB1.out.mono HX.out.size)⟩
    · rw [HV.out]; simp
  cases B2 with
  | none =>
    go_enter Tryd.func29, Tryd.ntmps29
    go_wp2_with (first
      | (go_at_call 44; (with_reducible refine (HT.out _ HX.out).mono ?_); rintro e w1 ⟨rfl, hb⟩
         have HB1 := Lib.hid (HBr.out.trans (hb.mono HBr.out.size))
         have H1 := Lib.hid (HX.out.trans (HB1.out.mono HX.out.size))
         clear a0 a1 a2 a3 a4 a5 a6 a7 a8 hb
         obtain ⟨⟨⟨a0, a1, a2⟩, a3, a4, a5⟩, a6, a7, a8⟩ := nine (CF.out _ HB1.out))
      | (go_at_call 45; (with_reducible refine (HR.out _ H1.out).mono ?_); rintro e w2 ⟨⟨m2, b2, rfl, hb2⟩, hb⟩
         replace hb2 : b2 = false := hb2; subst hb2
         have HB2 := Lib.hid (HB1.out.trans (hb.mono HB1.out.size))
         have H2 := Lib.hid (HX.out.trans (HB2.out.mono HX.out.size))
         clear a0 a1 a2 a3 a4 a5 a6 a7 a8 hb
         obtain ⟨⟨⟨a0, a1, a2⟩, a3, a4, a5⟩, a6, a7, a8⟩ := nine (CF.out _ HB2.out)))
    go_ret
    refine ⟨⟨2, rfl, ?_⟩, HX.out.trans (HB2.out.mono HX.out.size)⟩
    · rw [HV.out]; simp
  | some m3 =>
  cases B3 with
  | none =>
    go_enter Tryd.func29, Tryd.ntmps29
    go_wp2_with (first
      | (go_at_call 44; (with_reducible refine (HT.out _ HX.out).mono ?_); rintro e w1 ⟨rfl, hb⟩
         have HB1 := Lib.hid (HBr.out.trans (hb.mono HBr.out.size))
         have H1 := Lib.hid (HX.out.trans (HB1.out.mono HX.out.size))
         clear a0 a1 a2 a3 a4 a5 a6 a7 a8 hb
         obtain ⟨⟨⟨a0, a1, a2⟩, a3, a4, a5⟩, a6, a7, a8⟩ := nine (CF.out _ HB1.out))
      | (go_at_call 45; (with_reducible refine (HR.out _ H1.out).mono ?_); rintro e w2 ⟨⟨m2, b2, rfl, hb2⟩, hb⟩
         obtain ⟨rfl, rfl⟩ : m2 = (m3 : Int) ∧ b2 = true := hb2
         have HB2 := Lib.hid (HB1.out.trans (hb.mono HB1.out.size))
         have H2 := Lib.hid (HX.out.trans (HB2.out.mono HX.out.size))
         clear a0 a1 a2 a3 a4 a5 a6 a7 a8 hb
         obtain ⟨⟨⟨a0, a1, a2⟩, a3, a4, a5⟩, a6, a7, a8⟩ := nine (CF.out _ HB2.out))
      | (go_at_call 46; (with_reducible refine (HN.out _ H2.out).mono ?_); rintro e w3 ⟨⟨cv, b3, rfl, hb3⟩, hb⟩
         replace hb3 : b3 = false := hb3; subst hb3
         have HB3 := Lib.hid (HB2.out.trans ((hb.below (Nat.le_refl _) (fun g e => by cases e)).mono HB2.out.size))
         have H3 := Lib.hid (HX.out.trans (HB3.out.mono HX.out.size))
         clear a0 a1 a2 a3 a4 a5 a6 a7 a8 hb
         obtain ⟨⟨⟨a0, a1, a2⟩, a3, a4, a5⟩, a6, a7, a8⟩ := nine (CF.out _ HB3.out)))
    go_ret
    refine ⟨⟨4, rfl, ?_⟩, HX.out.trans (HB3.out.mono HX.out.size)⟩
    · rw [HV.out]; simp
  | some L3 =>
  by_cases hz : 600 < Z
  · have hzd : decide ((600 : Int) < (Z : Int)) = true := by rw [decide_eq_true_iff]; omega
    go_enter Tryd.func29, Tryd.ntmps29
    go_wp2_with (first
      | (go_at_call 44; (with_reducible refine (HT.out _ HX.out).mono ?_); rintro e w1 ⟨rfl, hb⟩
         have HB1 := Lib.hid (HBr.out.trans (hb.mono HBr.out.size))
         have H1 := Lib.hid (HX.out.trans (HB1.out.mono HX.out.size))
         clear a0 a1 a2 a3 a4 a5 a6 a7 a8 hb
         obtain ⟨⟨⟨a0, a1, a2⟩, a3, a4, a5⟩, a6, a7, a8⟩ := nine (CF.out _ HB1.out))
      | (go_at_call 45; (with_reducible refine (HR.out _ H1.out).mono ?_); rintro e w2 ⟨⟨m2, b2, rfl, hb2⟩, hb⟩
         obtain ⟨rfl, rfl⟩ : m2 = (m3 : Int) ∧ b2 = true := hb2
         have HB2 := Lib.hid (HB1.out.trans (hb.mono HB1.out.size))
         have H2 := Lib.hid (HX.out.trans (HB2.out.mono HX.out.size))
         clear a0 a1 a2 a3 a4 a5 a6 a7 a8 hb
         obtain ⟨⟨⟨a0, a1, a2⟩, a3, a4, a5⟩, a6, a7, a8⟩ := nine (CF.out _ HB2.out))
      | (go_at_call 46; (with_reducible refine (HN.out _ H2.out).mono ?_); rintro e w3 ⟨⟨cv, b3, rfl, hb3⟩, hb⟩
         replace hb3 : b3 = true ∧ _ := hb3; obtain ⟨rfl, hp3, _⟩ := hb3; obtain ⟨cad, ccap, rfl⟩ := own_sl hp3; clear hp3
         have HB3 := Lib.hid (HB2.out.trans ((hb.below (Nat.le_refl _) (fun g e => by cases e)).mono HB2.out.size))
         have H3 := Lib.hid (HX.out.trans (HB3.out.mono HX.out.size))
         clear a0 a1 a2 a3 a4 a5 a6 a7 a8 hb
         obtain ⟨⟨⟨a0, a1, a2⟩, a3, a4, a5⟩, a6, a7, a8⟩ := nine (CF.out _ HB3.out))
      | (go_at_call 47; (with_reducible refine (HS.out _ H3.out).mono ?_); rintro e w4 ⟨rfl, hb⟩
         have HB4 := Lib.hid (HB3.out.trans (hb.mono HB3.out.size))
         have H4 := Lib.hid (HX.out.trans (HB4.out.mono HX.out.size))
         clear a0 a1 a2 a3 a4 a5 a6 a7 a8 hb
         obtain ⟨⟨⟨a0, a1, a2⟩, a3, a4, a5⟩, a6, a7, a8⟩ := nine (CF.out _ HB4.out)))
    go_ret
    refine ⟨⟨3, rfl, ?_⟩, HX.out.trans (HB4.out.mono HX.out.size)⟩
    · rw [HV.out]; constructor
      · intro h; cases h
      · rintro ⟨_, _, _, h, _, _⟩; omega
  have hzd : decide ((600 : Int) < (Z : Int)) = false := by rw [decide_eq_false_iff_not]; omega
  by_cases hq : 9 < Q
  · have hqd : decide ((9 : Int) < (Q : Int)) = true := by rw [decide_eq_true_iff]; omega
    go_enter Tryd.func29, Tryd.ntmps29
    go_wp2_with (first
      | (go_at_call 44; (with_reducible refine (HT.out _ HX.out).mono ?_); rintro e w1 ⟨rfl, hb⟩
         have HB1 := Lib.hid (HBr.out.trans (hb.mono HBr.out.size))
         have H1 := Lib.hid (HX.out.trans (HB1.out.mono HX.out.size))
         clear a0 a1 a2 a3 a4 a5 a6 a7 a8 hb
         obtain ⟨⟨⟨a0, a1, a2⟩, a3, a4, a5⟩, a6, a7, a8⟩ := nine (CF.out _ HB1.out))
      | (go_at_call 45; (with_reducible refine (HR.out _ H1.out).mono ?_); rintro e w2 ⟨⟨m2, b2, rfl, hb2⟩, hb⟩
         obtain ⟨rfl, rfl⟩ : m2 = (m3 : Int) ∧ b2 = true := hb2
         have HB2 := Lib.hid (HB1.out.trans (hb.mono HB1.out.size))
         have H2 := Lib.hid (HX.out.trans (HB2.out.mono HX.out.size))
         clear a0 a1 a2 a3 a4 a5 a6 a7 a8 hb
         obtain ⟨⟨⟨a0, a1, a2⟩, a3, a4, a5⟩, a6, a7, a8⟩ := nine (CF.out _ HB2.out))
      | (go_at_call 46; (with_reducible refine (HN.out _ H2.out).mono ?_); rintro e w3 ⟨⟨cv, b3, rfl, hb3⟩, hb⟩
         replace hb3 : b3 = true ∧ _ := hb3; obtain ⟨rfl, hp3, _⟩ := hb3; obtain ⟨cad, ccap, rfl⟩ := own_sl hp3; clear hp3
         have HB3 := Lib.hid (HB2.out.trans ((hb.below (Nat.le_refl _) (fun g e => by cases e)).mono HB2.out.size))
         have H3 := Lib.hid (HX.out.trans (HB3.out.mono HX.out.size))
         clear a0 a1 a2 a3 a4 a5 a6 a7 a8 hb
         obtain ⟨⟨⟨a0, a1, a2⟩, a3, a4, a5⟩, a6, a7, a8⟩ := nine (CF.out _ HB3.out))
      | (go_at_call 47; (with_reducible refine (HS.out _ H3.out).mono ?_); rintro e w4 ⟨rfl, hb⟩
         have HB4 := Lib.hid (HB3.out.trans (hb.mono HB3.out.size))
         have H4 := Lib.hid (HX.out.trans (HB4.out.mono HX.out.size))
         clear a0 a1 a2 a3 a4 a5 a6 a7 a8 hb
         obtain ⟨⟨⟨a0, a1, a2⟩, a3, a4, a5⟩, a6, a7, a8⟩ := nine (CF.out _ HB4.out))
      | (go_at_call 48; (with_reducible refine (HG.out _ H4.out).mono ?_); rintro e w5 ⟨rfl, hb⟩
         have HB5 := Lib.hid (HB4.out.trans (hb.mono HB4.out.size))
         have H5 := Lib.hid (HX.out.trans (HB5.out.mono HX.out.size))
         clear a0 a1 a2 a3 a4 a5 a6 a7 a8 hb
         obtain ⟨⟨⟨a0, a1, a2⟩, a3, a4, a5⟩, a6, a7, a8⟩ := nine (CF.out _ HB5.out)))
    go_ret
    refine ⟨⟨3, rfl, ?_⟩, HX.out.trans (HB5.out.mono HX.out.size)⟩
    · rw [HV.out]; constructor
      · intro h; cases h
      · rintro ⟨_, _, _, _, h, _⟩; omega
  have hqd : decide ((9 : Int) < (Q : Int)) = false := by rw [decide_eq_false_iff_not]; omega
  by_cases hd : 32 < D
  · have hdd : decide ((32 : Int) < (D : Int)) = true := by rw [decide_eq_true_iff]; omega
    go_enter Tryd.func29, Tryd.ntmps29
    go_wp2_with (first
      | (go_at_call 44; (with_reducible refine (HT.out _ HX.out).mono ?_); rintro e w1 ⟨rfl, hb⟩
         have HB1 := Lib.hid (HBr.out.trans (hb.mono HBr.out.size))
         have H1 := Lib.hid (HX.out.trans (HB1.out.mono HX.out.size))
         clear a0 a1 a2 a3 a4 a5 a6 a7 a8 hb
         obtain ⟨⟨⟨a0, a1, a2⟩, a3, a4, a5⟩, a6, a7, a8⟩ := nine (CF.out _ HB1.out))
      | (go_at_call 45; (with_reducible refine (HR.out _ H1.out).mono ?_); rintro e w2 ⟨⟨m2, b2, rfl, hb2⟩, hb⟩
         obtain ⟨rfl, rfl⟩ : m2 = (m3 : Int) ∧ b2 = true := hb2
         have HB2 := Lib.hid (HB1.out.trans (hb.mono HB1.out.size))
         have H2 := Lib.hid (HX.out.trans (HB2.out.mono HX.out.size))
         clear a0 a1 a2 a3 a4 a5 a6 a7 a8 hb
         obtain ⟨⟨⟨a0, a1, a2⟩, a3, a4, a5⟩, a6, a7, a8⟩ := nine (CF.out _ HB2.out))
      | (go_at_call 46; (with_reducible refine (HN.out _ H2.out).mono ?_); rintro e w3 ⟨⟨cv, b3, rfl, hb3⟩, hb⟩
         replace hb3 : b3 = true ∧ _ := hb3; obtain ⟨rfl, hp3, _⟩ := hb3; obtain ⟨cad, ccap, rfl⟩ := own_sl hp3; clear hp3
         have HB3 := Lib.hid (HB2.out.trans ((hb.below (Nat.le_refl _) (fun g e => by cases e)).mono HB2.out.size))
         have H3 := Lib.hid (HX.out.trans (HB3.out.mono HX.out.size))
         clear a0 a1 a2 a3 a4 a5 a6 a7 a8 hb
         obtain ⟨⟨⟨a0, a1, a2⟩, a3, a4, a5⟩, a6, a7, a8⟩ := nine (CF.out _ HB3.out))
      | (go_at_call 47; (with_reducible refine (HS.out _ H3.out).mono ?_); rintro e w4 ⟨rfl, hb⟩
         have HB4 := Lib.hid (HB3.out.trans (hb.mono HB3.out.size))
         have H4 := Lib.hid (HX.out.trans (HB4.out.mono HX.out.size))
         clear a0 a1 a2 a3 a4 a5 a6 a7 a8 hb
         obtain ⟨⟨⟨a0, a1, a2⟩, a3, a4, a5⟩, a6, a7, a8⟩ := nine (CF.out _ HB4.out))
      | (go_at_call 48; (with_reducible refine (HG.out _ H4.out).mono ?_); rintro e w5 ⟨rfl, hb⟩
         have HB5 := Lib.hid (HB4.out.trans (hb.mono HB4.out.size))
         have H5 := Lib.hid (HX.out.trans (HB5.out.mono HX.out.size))
         clear a0 a1 a2 a3 a4 a5 a6 a7 a8 hb
         obtain ⟨⟨⟨a0, a1, a2⟩, a3, a4, a5⟩, a6, a7, a8⟩ := nine (CF.out _ HB5.out))
      | (go_at_call 49; (with_reducible refine (HL.out _ H5.out).mono ?_); rintro e w6 ⟨rfl, hb⟩
         have HB6 := Lib.hid (HB5.out.trans (hb.mono HB5.out.size))
         clear a0 a1 a2 a3 a4 a5 a6 a7 a8 hb
         obtain ⟨⟨⟨a0, a1, a2⟩, a3, a4, a5⟩, a6, a7, a8⟩ := nine (CF.out _ HB6.out)))
    go_ret
    refine ⟨⟨3, rfl, ?_⟩, HX.out.trans (HB6.out.mono HX.out.size)⟩
    · rw [HV.out]; constructor
      · intro h; cases h
      · rintro ⟨_, _, _, _, _, h⟩; omega
  · have hdd : decide ((32 : Int) < (D : Int)) = false := by rw [decide_eq_false_iff_not]; omega
    go_enter Tryd.func29, Tryd.ntmps29
    go_wp2_with (first
      | (go_at_call 44; (with_reducible refine (HT.out _ HX.out).mono ?_); rintro e w1 ⟨rfl, hb⟩
         have HB1 := Lib.hid (HBr.out.trans (hb.mono HBr.out.size))
         have H1 := Lib.hid (HX.out.trans (HB1.out.mono HX.out.size))
         clear a0 a1 a2 a3 a4 a5 a6 a7 a8 hb
         obtain ⟨⟨⟨a0, a1, a2⟩, a3, a4, a5⟩, a6, a7, a8⟩ := nine (CF.out _ HB1.out))
      | (go_at_call 45; (with_reducible refine (HR.out _ H1.out).mono ?_); rintro e w2 ⟨⟨m2, b2, rfl, hb2⟩, hb⟩
         obtain ⟨rfl, rfl⟩ : m2 = (m3 : Int) ∧ b2 = true := hb2
         have HB2 := Lib.hid (HB1.out.trans (hb.mono HB1.out.size))
         have H2 := Lib.hid (HX.out.trans (HB2.out.mono HX.out.size))
         clear a0 a1 a2 a3 a4 a5 a6 a7 a8 hb
         obtain ⟨⟨⟨a0, a1, a2⟩, a3, a4, a5⟩, a6, a7, a8⟩ := nine (CF.out _ HB2.out))
      | (go_at_call 46; (with_reducible refine (HN.out _ H2.out).mono ?_); rintro e w3 ⟨⟨cv, b3, rfl, hb3⟩, hb⟩
         replace hb3 : b3 = true ∧ _ := hb3; obtain ⟨rfl, hp3, _⟩ := hb3; obtain ⟨cad, ccap, rfl⟩ := own_sl hp3; clear hp3
         have HB3 := Lib.hid (HB2.out.trans ((hb.below (Nat.le_refl _) (fun g e => by cases e)).mono HB2.out.size))
         have H3 := Lib.hid (HX.out.trans (HB3.out.mono HX.out.size))
         clear a0 a1 a2 a3 a4 a5 a6 a7 a8 hb
         obtain ⟨⟨⟨a0, a1, a2⟩, a3, a4, a5⟩, a6, a7, a8⟩ := nine (CF.out _ HB3.out))
      | (go_at_call 47; (with_reducible refine (HS.out _ H3.out).mono ?_); rintro e w4 ⟨rfl, hb⟩
         have HB4 := Lib.hid (HB3.out.trans (hb.mono HB3.out.size))
         have H4 := Lib.hid (HX.out.trans (HB4.out.mono HX.out.size))
         clear a0 a1 a2 a3 a4 a5 a6 a7 a8 hb
         obtain ⟨⟨⟨a0, a1, a2⟩, a3, a4, a5⟩, a6, a7, a8⟩ := nine (CF.out _ HB4.out))
      | (go_at_call 48; (with_reducible refine (HG.out _ H4.out).mono ?_); rintro e w5 ⟨rfl, hb⟩
         have HB5 := Lib.hid (HB4.out.trans (hb.mono HB4.out.size))
         have H5 := Lib.hid (HX.out.trans (HB5.out.mono HX.out.size))
         clear a0 a1 a2 a3 a4 a5 a6 a7 a8 hb
         obtain ⟨⟨⟨a0, a1, a2⟩, a3, a4, a5⟩, a6, a7, a8⟩ := nine (CF.out _ HB5.out))
      | (go_at_call 49; (with_reducible refine (HL.out _ H5.out).mono ?_); rintro e w6 ⟨rfl, hb⟩
         have HB6 := Lib.hid (HB5.out.trans (hb.mono HB5.out.size))
         clear a0 a1 a2 a3 a4 a5 a6 a7 a8 hb
         obtain ⟨⟨⟨a0, a1, a2⟩, a3, a4, a5⟩, a6, a7, a8⟩ := nine (CF.out _ HB6.out)))
    go_ret
    refine ⟨⟨0, rfl, ?_⟩, HX.out.trans (HB6.out.mono HX.out.size)⟩
    · rw [HV.out]; exact ⟨fun _ => ⟨by simp, by simp, by simp, by omega, by omega, by omega⟩, fun _ => rfl⟩
end Go.Proofs.YtfgcnknmiclfnaaDoor
set_option linter.unusedVariables false
namespace Go.Proofs.YtfgcnknmiclfnaaDoor
open Go.RowKit
structure IN where
  op : Int
  st : Nat → Bool
  x : Int
  y : Int
def sp (x y : Int) : IN := ⟨2, noSet, x, y⟩
end Go.Proofs.YtfgcnknmiclfnaaDoor
set_option linter.unusedVariables false
set_option linter.unusedSimpArgs false
set_option maxRecDepth 100000
set_option maxHeartbeats 8000000
namespace Go.Proofs.YtfgcnknmiclfnaaDoor
open Go.RowKit
def rowI (i : IN) : List Value := [.int .i64 i.op, .int .u64 (wd i.st 0 64 : Nat), .int .u64 (wd i.st 64 64 : Nat), .int .u64 (wd i.st 128 64 : Nat), .int .u64 (wd i.st 192 64 : Nat), .int .i64 i.x, .int .i64 i.y]
def rowsI (L : List IN) : List Value := L.flatMap rowI
theorem rowI_len (i : IN) : (rowI i).length = 7 := rfl
theorem rowsI_snoc (L : List IN) (i : IN) : rowsI (L ++ [i]) = rowsI L ++ rowI i := by simp [rowsI]
theorem rowsI_get : ∀ (L : List IN) (k : Nat) (hk : k < L.length) (j : Nat), j < 7 → (rowsI L)[k * 7 + j]? = (rowI (L[k]'hk))[j]?
  | [], _, h, _, _ => by cases h
  | i :: r, 0, _, j, hj => by
    show (rowI i ++ rowsI r)[0 * 7 + j]? = _
    rw [Nat.zero_mul, Nat.zero_add, List.getElem?_append_left (by rw [rowI_len]; exact hj)]
    rfl
  | i :: r, k + 1, hk, j, hj => by
    show (rowI i ++ rowsI r)[(k + 1) * 7 + j]? = _
    rw [List.getElem?_append_right (by rw [rowI_len]; omega), rowI_len, show (k + 1) * 7 + j - 7 = k * 7 + j by omega]
    exact rowsI_get r k (by have : k + 1 < r.length + 1 := hk; omega) j hj
theorem rowsI_set : ∀ (L : List IN) (k : Nat) (i : IN) (hk : k < L.length) (j : Nat) (v : Value), j < 7 → (rowI (L[k]'hk)).set j v = rowI i → (rowsI L).set (k * 7 + j) v = rowsI (L.set k i)
  | [], _, _, h, _, _, _, _ => by cases h
  | a :: r, 0, i, _, j, v, hj, e => by
    show (rowI a ++ rowsI r).set (0 * 7 + j) v = rowI i ++ rowsI r
    rw [Nat.zero_mul, Nat.zero_add, List.set_append_left _ _ (by rw [rowI_len]; exact hj)]
    have e : (rowI a).set j v = rowI i := e
    rw [e]
  | a :: r, k + 1, i, hk, j, v, hj, e => by
    show (rowI a ++ rowsI r).set ((k + 1) * 7 + j) v = rowI a ++ rowsI (r.set k i)
    rw [List.set_append_right _ _ (by rw [rowI_len]; omega), rowI_len, show (k + 1) * 7 + j - 7 = k * 7 + j by omega]
    rw [rowsI_set r k i (by have : k + 1 < r.length + 1 := hk; omega) j v hj e]
theorem infoI : (Tryd.prog.info? 43).map (fun i => (i.zero, i.size, i.bytes)) = some (some (.agg #[.int .i64 0, .int .u64 0, .int .u64 0, .int .u64 0, .int .u64 0, .int .i64 0, .int .i64 0]), 7, 56) := by kernel_rfl
structure Mv (P : Nat) (v : Value) (w : World) (v' : Value) (w' : World) : Prop where
  keep : Keep (fun b => b = P ∨ v.ownBlock = some b) w w'
  own : ∀ g, v'.ownBlock = some g → v.ownBlock = some g ∨ w.heap.size ≤ g
theorem Mv.refl (P : Nat) (v : Value) (w : World) : Mv P v w v w := ⟨.refl _ _, fun _ h => .inl h⟩
theorem Mv.of_below {P : Nat} {v : Value} {w w' : World} (h : Below w.heap.size w w') : Mv P v w v w' := ⟨.of_below h, fun _ h => .inl h⟩
theorem Mv.trans {P : Nat} {u v x : Value} {a b c : World} (h : Mv P u a v b) (k : Mv P v b x c) : Mv P u a x c := by
  refine ⟨h.keep.trans k.keep fun g hg hs => ?_, fun g hg => ?_⟩
  · rcases hs with hs | hs
    · exact .inl hs
    · rcases h.own g hs with e | e
      · exact .inr e
      · omega
  · rcases k.own g hg with e | e
    · exact h.own g e
    · right; have := h.keep.size; omega
theorem Mv.next {P : Nat} {u v : Value} {a b c : World} (h : Mv P u a v b) (k : Below b.heap.size b c) : Mv P u a v c := h.trans (.of_below k)
theorem Mv.drew {P : Nat} {u v : Value} {a b : World} (h : Mv P u a v b) : Mv P u a v b.drew := ⟨h.keep.drew, h.own⟩
theorem Mv.size {P : Nat} {u v : Value} {a b : World} (h : Mv P u a v b) : a.heap.size ≤ b.heap.size := h.keep.size
end Go.Proofs.YtfgcnknmiclfnaaDoor
set_option linter.unusedVariables false
set_option linter.unusedSimpArgs false
set_option maxRecDepth 100000
set_option maxHeartbeats 8000000
namespace Go.Proofs.YtfgcnknmiclfnaaDoor
open Go.RowKit
theorem beq_no {o k : Int} (h : ¬ o = k) : (o == k) = false := by simpa using h
end Go.Proofs.YtfgcnknmiclfnaaDoor
set_option linter.unusedVariables false
set_option linter.unusedSimpArgs false
set_option maxRecDepth 100000
set_option maxHeartbeats 8000000
namespace Go.Proofs.YtfgcnknmiclfnaaDoor
open Go.RowKit
def PI (w : World) (n : Nat) (L : List IN) (v : Value) : Prop := ∃ ad cap, v = .slice ad L.length cap ∧ L.length ≤ cap ∧ (L.length = 0 ∨ ∃ b i, ad = some ⟨b, i, none⟩ ∧ n ≤ b ∧ b < w.heap.size ∧ ∀ (k : Nat) (hk : k < L.length) (j : Nat), j < 7 → w.cell? ⟨b, i + k * 7 + j, none⟩ = (rowI (L[k]'hk))[j]?)
theorem PI.turn {w w' : World} {n : Nat} {L : List IN} {v : Value} (h : PI w n L v) (hs : w.heap.size ≤ w'.heap.size) (hb : ∀ b, n ≤ b → b < w.heap.size → w'.heap[b]? = w.heap[b]?) : PI w' n L v := by
  obtain ⟨ad, cap, h1, h2, h3⟩ := h
  refine ⟨ad, cap, h1, h2, ?_⟩
  rcases h3 with h3 | ⟨b, i, e, hn, hl, hc⟩
  · exact .inl h3
  · exact .inr ⟨b, i, e, hn, by omega, fun k hk j hj => (cell_same (hb b hn hl)).trans (hc k hk j hj)⟩
theorem PI.below {w w' : World} {n : Nat} {L : List IN} {v : Value} (h : PI w n L v) (hb : Below w.heap.size w w') : PI w' n L v := h.turn hb.size (fun b _ hl => hb.block b hl)
theorem PI.low {w : World} {n m : Nat} {L : List IN} {v : Value} (h : PI w n L v) (hm : m ≤ n) : PI w m L v := by
  obtain ⟨ad, cap, h1, h2, h3⟩ := h
  refine ⟨ad, cap, h1, h2, ?_⟩
  rcases h3 with h3 | ⟨b, i, e, hn, r⟩
  · exact .inl h3
  · exact .inr ⟨b, i, e, by omega, r⟩
theorem PI.form {w : World} {n : Nat} {L : List IN} {v : Value} (h : PI w n L v) : ∃ ad cap, v = .slice ad L.length cap := by
  obtain ⟨ad, cap, h1, _⟩ := h
  exact ⟨ad, cap, h1⟩
theorem PI.nil (w : World) (n : Nat) : PI w n [] (.slice none 0 0) := ⟨none, 0, rfl, Nat.le_refl _, .inl rfl⟩
theorem PI.own {w : World} {B : Nat} {L : List IN} {v : Value} (h : w.ownsRow B 43 7 v L.length (rowsI L)) : PI w B L v := by
  rcases h.2 with ⟨rfl, h0⟩ | ⟨g, cap, cur, rfl, hB, hg, hn, _⟩
  · exact ⟨none, 0, by rw [h0], by omega, .inl h0⟩
  · refine ⟨_, cap, rfl, hn, .inr ⟨g, 0, rfl, hB, (Array.getElem?_eq_some_iff.1 hg).1, fun k hk j hj => ?_⟩⟩
    rw [Nat.zero_add, h.cellAt (k * 7 + j) (by omega), rowsI_get L k hk j hj]
end Go.Proofs.YtfgcnknmiclfnaaDoor
