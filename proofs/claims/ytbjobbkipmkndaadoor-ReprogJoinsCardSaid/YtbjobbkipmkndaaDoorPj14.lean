/- RtX8. -/
import Derived.Test.YtbjobbkipmkndaaDoorPj13
set_option linter.unusedVariables false
set_option linter.unusedSimpArgs false
set_option maxRecDepth 100000
namespace Go.Proofs.YtbjobbkipmkndaaDoor
open Go.RowKit
theorem i0 : (-9223372036854775808 : Int) ≤ 0 ∧ (0 : Int) ≤ 9223372036854775807 := by decide
theorem i3 : (-9223372036854775808 : Int) ≤ 3 ∧ (3 : Int) ≤ 9223372036854775807 := by decide
theorem i5 : (-9223372036854775808 : Int) ≤ 5 ∧ (5 : Int) ≤ 9223372036854775807 := by decide
def fitN (t : TN) : Prop := F.fits (.cons t.op t.st t.lo t.hi t.g t.args .nil)
theorem fits_cons {o l h g : Int} {s : Nat → Bool} {a r : F} : F.fits (.cons o s l h g a r) ↔ fitN ⟨o, s, l, h, g, a⟩ ∧ r.fits :=
  ⟨fun h => ⟨⟨h.1, h.2.1, h.2.2.1, trivial⟩, h.2.2.2⟩, fun h => ⟨h.1.1, h.1.2.1, h.1.2.2.1, h.2⟩⟩
theorem fits_push : ∀ {f : F} {t : TN}, f.fits → fitN t → (f.push t).fits
  | .nil, _, _, ht => ht
  | .cons o s l h g a r, t, hf, ht => ⟨hf.1, hf.2.1, hf.2.2.1, fits_push hf.2.2.2 ht⟩
theorem fits_times : ∀ (n : Nat) {t : TN} {f : F}, f.fits → fitN t → (timesF n t f).fits
  | 0, _, _, hf, _ => hf
  | n + 1, t, f, hf, ht => fits_times n (fits_push hf ht) ht
theorem fitN_cat {f : F} (h : f.fits) (hl : f.len ≤ maxLen) : fitN (catT f) := by
  cases f with
  | nil => simp [catT, fitN, F.fits, F.len, maxLen]
  | cons o s l h' g a r => cases r with
    | nil => exact h
    | cons _ _ _ _ _ _ _ => exact ⟨⟨i3, i0, i0, i0⟩, hl, h, trivial⟩
theorem fitN_seq {t x : TN} (hx : fitN x) (hl : 0 ≤ t.lo ∧ t.lo ≤ 64) (hh : t.hi = -1 ∨ (t.lo ≤ t.hi ∧ t.hi ≤ 64)) : fitN (catT (seqF t x)) := by
  obtain ⟨⟨c1, c2⟩, ⟨e1, e2⟩⟩ := bounds_cr t.lo t.hi hl hh
  refine fitN_cat ?_ ?_
  · refine fits_times _ (fits_times _ trivial hx) ?_
    refine ⟨⟨i5, ?_, ?_, i0⟩, ?_, ?_, trivial⟩
    · show -9223372036854775808 ≤ loT t.lo t.hi ∧ loT t.lo t.hi ≤ 9223372036854775807
      unfold loT
      split
      · split <;> omega
      · omega
    · show -9223372036854775808 ≤ hiT t.lo t.hi ∧ hiT t.lo t.hi ≤ 9223372036854775807
      unfold hiT
      split <;> omega
    · show 1 ≤ maxLen
      decide
    · exact fits_push (f := .nil) trivial hx
  · unfold seqF
    rw [timesF_len, timesF_len]
    have : F.nil.len = 0 := rfl
    unfold maxLen
    omega
theorem fits_nth0 {f : F} (h : f.fits) (hl : 0 < f.len) : fitN (f.nth 0) := by
  cases f with
  | nil => cases hl
  | cons o s l h' g a r => exact ⟨h.1, h.2.1, h.2.2.1, trivial⟩
theorem fitN_exp {t : TN} (h : fitN t) (hk : (expF t.args).fits) (hok : okE (.cons t.op t.st t.lo t.hi t.g t.args .nil)) : fitN (expT t) := by
  unfold expT expN
  by_cases o5 : t.op = 5
  · rw [if_pos o5]
    obtain ⟨h1, hl, hh⟩ := hok.1.2 o5
    exact fitN_seq (fits_nth0 hk (by rw [expF_len]; omega)) hl hh
  · rw [if_neg o5]
    exact ⟨h.1, by show (expF t.args).len ≤ maxLen; rw [expF_len]; exact h.2.1, hk, trivial⟩
theorem fits_exp : ∀ f : F, f.fits → okE f → (expF f).fits
  | .nil, _, _ => trivial
  | .cons o s l h g a r, hf, hok => by
    have h1 := fitN_exp (t := ⟨o, s, l, h, g, a⟩) ⟨hf.1, hf.2.1, hf.2.2.1, trivial⟩ (fits_exp a hf.2.2.1 hok.2.1) ⟨hok.1, hok.2.1, trivial⟩
    exact fits_cons.2 ⟨h1, fits_exp r hf.2.2.2 hok.2.2⟩
theorem SV.low {w : World} {S : Nat → Prop} {f : F} {sv : Value} (h : SV w S f sv) : SV w (fun b => S b ∧ b < w.heap.size) f sv := h.far ⟨Nat.le_refl _, fun b h1 h2 => ⟨⟨h1, h2⟩, rfl⟩⟩
theorem valid_ranges {t : TN} (h : Valid t) : (1 ≤ t.op ∧ t.op ≤ 9) ∧ (0 ≤ t.lo ∧ t.lo ≤ 64) ∧ (-1 ≤ t.hi ∧ t.hi ≤ 64) := by
  obtain ⟨c, h1, _⟩ := h
  unfold TN.f at h1
  rw [vF] at h1
  by_cases hok : okN t.op t.st t.lo t.hi t.g t.args.len [] = true
  case neg => rw [if_neg hok] at h1; cases h1
  unfold okN fldT havT bndT at hok
  simp only [Bool.and_eq_true, Bool.or_eq_true, Bool.not_eq_true', decide_eq_true_eq, decide_eq_false_iff_not] at hok
  obtain ⟨⟨h2, _, h4, _⟩, h6, _⟩ := hok
  refine ⟨?_, ?_⟩
  · by_cases o1 : t.op = 1 ∨ t.op = 2 ∨ t.op = 7 ∨ t.op = 8 ∨ t.op = 9
    · omega
    · rw [if_neg o1] at h2
      by_cases o2 : t.op = 5 ∨ t.op = 6
      · omega
      · rw [if_neg o2] at h2
        by_cases o3 : t.op = 3 ∨ t.op = 4
        · omega
        · rw [if_neg o3] at h2
          cases h2
  · omega
theorem expand_tj {w : World} {t : TN} {sv : Value} (h : TI w t sv) : Calls Tryd.prog 29 #[.agg #[.int .i64 t.op, .int .u64 (wd t.st 0 64 : Nat), .int .u64 (wd t.st 64 64 : Nat), .int .u64 (wd t.st 128 64 : Nat), .int .u64 (wd t.st 192 64 : Nat), .int .i64 t.lo, .int .i64 t.hi, .int .i64 t.g, sv]] w fun e w' => ∃ sv', e = .returned (.tuple #[.agg #[.int .i64 (expdT t).1.op, .int .u64 (wd (expdT t).1.st 0 64 : Nat), .int .u64 (wd (expdT t).1.st 64 64 : Nat), .int .u64 (wd (expdT t).1.st 128 64 : Nat), .int .u64 (wd (expdT t).1.st 192 64 : Nat), .int .i64 (expdT t).1.lo, .int .i64 (expdT t).1.hi, .int .i64 (expdT t).1.g, sv'], .int .i64 (expdT t).2]) ∧ TI w' (expdT t).1 sv' ∧ Below w.heap.size w w' := by
  refine (expand_ti h).mono ?_
  rintro e w' ⟨sv', rfl, h1, h2⟩
  have hfit : ((expdT t).1.args.len ≤ maxLen ∧ (expdT t).1.args.fits) ∧ (-9223372036854775808 ≤ (expdT t).1.g ∧ (expdT t).1.g ≤ 9223372036854775807) := by
    unfold expdT
    by_cases hc : checkT t = 0
    · rw [if_pos hc]
      split
      · exact ⟨⟨Nat.zero_le _, trivial⟩, i0⟩
      · have hv := (checkT_iff t).1 hc
        have hok := okE_valid hv
        obtain ⟨S, k1, k2, k3, k4, k5⟩ := h
        obtain ⟨⟨r1, r2⟩, ⟨r3, r4⟩, r5, r6⟩ := valid_ranges hv
        have hn : fitN t := ⟨⟨⟨by omega, by omega⟩, ⟨by omega, by omega⟩, ⟨by omega, by omega⟩, k4, k5⟩, k3.1, k3.2, trivial⟩
        have hx := fitN_exp hn (fits_exp t.args k3.2 hok.2.1) hok
        exact ⟨⟨hx.2.1, hx.2.2.1⟩, hx.1.2.2.2⟩
    · rw [if_neg hc]
      exact ⟨⟨Nat.zero_le _, trivial⟩, i0⟩
  exact ⟨sv', rfl, ⟨_, h1.low, fun b hb => hb.2, hfit.1, hfit.2⟩, h2⟩
end Go.Proofs.YtbjobbkipmkndaaDoor
