/- RtX8, RpMath, RpMem. -/
import Derived.Test.YtbjobbkipmkndaaDoorPp13
import Derived.OneCell
import Derived.Deep.AppendLies
import Derived.Deep.RegionLaw
import Derived.StillTailTactics
import Derived.Deep.QuietTactic
import Derived.BigQuiet
import Derived.RegionTactic
import Derived.ChangeAlike
set_option linter.unusedVariables false
set_option linter.unusedSimpArgs false
set_option maxRecDepth 100000
namespace Go.Proofs.YtbjobbkipmkndaaDoor
open Go.RowKit
theorem i0 : (-9223372036854775808 : Int) ≤ 0 ∧ (0 : Int) ≤ 9223372036854775807 := by decide
theorem i3 : (-9223372036854775808 : Int) ≤ 3 ∧ (3 : Int) ≤ 9223372036854775807 := by decide
theorem i5 : (-9223372036854775808 : Int) ≤ 5 ∧ (5 : Int) ≤ 9223372036854775807 := by decide
def fitN (t : TN) : Prop := F.fits (.cons t.op t.st t.lo t.hi t.g t.args .nil)
theorem fits_cons {o l h g : Int} {s : Nat → Bool} {a r : F} : F.fits (.cons o s l h g a r) ↔ fitN ⟨o, s, l, h, g, a⟩ ∧ r.fits :=
  ⟨fun h => ⟨⟨h.1, h.2.1, h.2.2.1, trivial⟩, h.2.2.2⟩, fun h => ⟨h.1.1, h.1.2.1, h.1.2.2.1, h.2⟩⟩
theorem fits_push : ∀ {f : F} {t : TN}, f.fits → fitN t → (f.push t).fits
  | .nil, _, _, ht => ht
  | .cons o s l h g a r, t, hf, ht => ⟨hf.1, hf.2.1, hf.2.2.1, fits_push hf.2.2.2 ht⟩
theorem fits_times : ∀ (n : Nat) {t : TN} {f : F}, f.fits → fitN t → (timesF n t f).fits
  | 0, _, _, hf, _ => hf
  | n + 1, t, f, hf, ht => fits_times n (fits_push hf ht) ht
theorem fitN_cat {f : F} (h : f.fits) (hl : f.len ≤ maxLen) : fitN (catT f) := by
  cases f with
  | nil => simp [catT, fitN, F.fits, F.len, maxLen]
  | cons o s l h' g a r => cases r with
    | nil => exact h
    | cons _ _ _ _ _ _ _ => exact ⟨⟨i3, i0, i0, i0⟩, hl, h, trivial⟩
theorem fitN_seq {t x : TN} (hx : fitN x) (hl : 0 ≤ t.lo ∧ t.lo ≤ 64) (hh : t.hi = -1 ∨ (t.lo ≤ t.hi ∧ t.hi ≤ 64)) : fitN (catT (seqF t x)) := by
  obtain ⟨⟨c1, c2⟩, ⟨e1, e2⟩⟩ := bounds_cr t.lo t.hi hl hh
  refine fitN_cat ?_ ?_
  · refine fits_times _ (fits_times _ trivial hx) ?_
    refine ⟨⟨i5, ?_, ?_, i0⟩, ?_, ?_, trivial⟩
    · show -9223372036854775808 ≤ loT t.lo t.hi ∧ loT t.lo t.hi ≤ 9223372036854775807
      unfold loT
      split
      · split <;> omega
      · omega
    · show -9223372036854775808 ≤ hiT t.lo t.hi ∧ hiT t.lo t.hi ≤ 9223372036854775807
      unfold hiT
      split <;> omega
    · show 1 ≤ maxLen
      decide
    · exact fits_push (f := .nil) trivial hx
  · unfold seqF
    rw [timesF_len, timesF_len]
    have : F.nil.len = 0 := rfl
    unfold maxLen
    omega
theorem fits_nth0 {f : F} (h : f.fits) (hl : 0 < f.len) : fitN (f.nth 0) := by
  cases f with
  | nil => cases hl
  | cons o s l h' g a r => exact ⟨h.1, h.2.1, h.2.2.1, trivial⟩
theorem fitN_exp {t : TN} (h : fitN t) (hk : (expF t.args).fits) (hok : okE (.cons t.op t.st t.lo t.hi t.g t.args .nil)) : fitN (expT t) := by
  unfold expT expN
  by_cases o5 : t.op = 5
  · rw [if_pos o5]
    obtain ⟨h1, hl, hh⟩ := hok.1.2 o5
    exact fitN_seq (fits_nth0 hk (by rw [expF_len]; omega)) hl hh
  · rw [if_neg o5]
    exact ⟨h.1, by show (expF t.args).len ≤ maxLen; rw [expF_len]; exact h.2.1, hk, trivial⟩
theorem fits_exp : ∀ f : F, f.fits → okE f → (expF f).fits
  | .nil, _, _ => trivial
  | .cons o s l h g a r, hf, hok => by
    have h1 := fitN_exp (t := ⟨o, s, l, h, g, a⟩) ⟨hf.1, hf.2.1, hf.2.2.1, trivial⟩ (fits_exp a hf.2.2.1 hok.2.1) ⟨hok.1, hok.2.1, trivial⟩
    exact fits_cons.2 ⟨h1, fits_exp r hf.2.2.2 hok.2.2⟩
theorem SV.low {w : World} {S : Nat → Prop} {f : F} {sv : Value} (h : SV w S f sv) : SV w (fun b => S b ∧ b < w.heap.size) f sv := h.far ⟨Nat.le_refl _, fun b h1 h2 => ⟨⟨h1, h2⟩, rfl⟩⟩
theorem valid_ranges {t : TN} (h : Valid t) : (1 ≤ t.op ∧ t.op ≤ 9) ∧ (0 ≤ t.lo ∧ t.lo ≤ 64) ∧ (-1 ≤ t.hi ∧ t.hi ≤ 64) := by
  obtain ⟨c, h1, _⟩ := h
  unfold TN.f at h1
  rw [vF] at h1
  by_cases hok : okN t.op t.st t.lo t.hi t.g t.args.len [] = true
  case neg => rw [if_neg hok] at h1; cases h1
  unfold okN fldT havT bndT at hok
  simp only [Bool.and_eq_true, Bool.or_eq_true, Bool.not_eq_true', decide_eq_true_eq, decide_eq_false_iff_not] at hok
  obtain ⟨⟨h2, _, h4, _⟩, h6, _⟩ := hok
  refine ⟨?_, ?_⟩
  · by_cases o1 : t.op = 1 ∨ t.op = 2 ∨ t.op = 7 ∨ t.op = 8 ∨ t.op = 9
    · omega
    · rw [if_neg o1] at h2
      by_cases o2 : t.op = 5 ∨ t.op = 6
      · omega
      · rw [if_neg o2] at h2
        by_cases o3 : t.op = 3 ∨ t.op = 4
        · omega
        · rw [if_neg o3] at h2
          cases h2
  · omega
theorem expand_tj {w : World} {t : TN} {sv : Value} (h : TI w t sv) : Calls Tryd.prog 29 #[.agg #[.int .i64 t.op, .int .u64 (wd t.st 0 64 : Nat), .int .u64 (wd t.st 64 64 : Nat), .int .u64 (wd t.st 128 64 : Nat), .int .u64 (wd t.st 192 64 : Nat), .int .i64 t.lo, .int .i64 t.hi, .int .i64 t.g, sv]] w fun e w' => ∃ sv', e = .returned (.tuple #[.agg #[.int .i64 (expdT t).1.op, .int .u64 (wd (expdT t).1.st 0 64 : Nat), .int .u64 (wd (expdT t).1.st 64 64 : Nat), .int .u64 (wd (expdT t).1.st 128 64 : Nat), .int .u64 (wd (expdT t).1.st 192 64 : Nat), .int .i64 (expdT t).1.lo, .int .i64 (expdT t).1.hi, .int .i64 (expdT t).1.g, sv'], .int .i64 (expdT t).2]) ∧ TI w' (expdT t).1 sv' ∧ Below w.heap.size w w' := by
  refine (expand_ti h).mono ?_
  rintro e w' ⟨sv', rfl, h1, h2⟩
  have hfit : ((expdT t).1.args.len ≤ maxLen ∧ (expdT t).1.args.fits) ∧ (-9223372036854775808 ≤ (expdT t).1.g ∧ (expdT t).1.g ≤ 9223372036854775807) := by
    unfold expdT
    by_cases hc : checkT t = 0
    · rw [if_pos hc]
      split
      · exact ⟨⟨Nat.zero_le _, trivial⟩, i0⟩
      · have hv := (checkT_iff t).1 hc
        have hok := okE_valid hv
        obtain ⟨S, k1, k2, k3, k4, k5⟩ := h
        obtain ⟨⟨r1, r2⟩, ⟨r3, r4⟩, r5, r6⟩ := valid_ranges hv
        have hn : fitN t := ⟨⟨⟨by omega, by omega⟩, ⟨by omega, by omega⟩, ⟨by omega, by omega⟩, k4, k5⟩, k3.1, k3.2, trivial⟩
        have hx := fitN_exp hn (fits_exp t.args k3.2 hok.2.1) hok
        exact ⟨⟨hx.2.1, hx.2.2.1⟩, hx.1.2.2.2⟩
    · rw [if_neg hc]
      exact ⟨⟨Nat.zero_le _, trivial⟩, i0⟩
  exact ⟨sv', rfl, ⟨_, h1.low, fun b hb => hb.2, hfit.1, hfit.2⟩, h2⟩
end Go.Proofs.YtbjobbkipmkndaaDoor
set_option linter.unusedVariables false
namespace Go.Proofs.YtbjobbkipmkndaaDoor
open Go.RowKit
structure IN where
  op : Int
  st : Nat → Bool
  x : Int
  y : Int
def sp (x y : Int) : IN := ⟨2, noSet, x, y⟩
def jm (x : Int) : IN := ⟨3, noSet, x, 0⟩
abbrev Cd := Nat → List IN
def nilC : Cd := fun _ => []
def catC : List Cd → Cd
  | [], _ => []
  | c :: r, b => c b ++ catC r (b + (c b).length)
def altP (e : Int) : List Cd → Cd
  | [], _ => []
  | c :: r, b => sp ((b + 1 : Nat) : Int) ((b + (c (b + 1)).length + 2 : Nat) : Int) :: (c (b + 1) ++ jm e :: altP e r (b + (c (b + 1)).length + 2))
def posL : List Cd → Nat → List Nat
  | [], _ => []
  | c :: r, b => (b + 1 + (c (b + 1)).length) :: posL r (b + (c (b + 1)).length + 2)
def altE (ini : List Cd) (c : Cd) : Cd := fun b => altP ((b + (altP 0 ini b).length + (c (b + (altP 0 ini b).length)).length : Nat) : Int) ini b ++ c (b + (altP 0 ini b).length)
def altC (cs : List Cd) : Cd := altE cs.dropLast (cs.getLastD nilC)
def repC (l h : Int) (c : Cd) : Cd := fun b =>
  if l = 1 then c b ++ [sp (b : Int) ((b + (c b).length + 1 : Nat) : Int)]
  else if h = -1 then sp ((b + 1 : Nat) : Int) ((b + (c (b + 1)).length + 2 : Nat) : Int) :: (c (b + 1) ++ [jm (b : Int)])
  else sp ((b + 1 : Nat) : Int) ((b + (c (b + 1)).length + 1 : Nat) : Int) :: c (b + 1)
def codN (o : Int) (st : Nat → Bool) (l h : Int) (cs : List Cd) : Cd := fun b =>
  if o = 2 then [⟨1, st, 0, 0⟩] else if o = 7 then [⟨4, noSet, 0, 0⟩] else if o = 8 then [⟨5, noSet, 0, 0⟩]
  else if o = 3 ∨ o = 6 then catC cs b else if o = 4 then altC cs b else if o = 5 then repC l h (cs.headD nilC) b else []
def cods : F → List Cd
  | .nil => []
  | .cons o s l h _ a r => codN o s l h (cods a) :: cods r
def codT (t : TN) : Cd := codN t.op t.st t.lo t.hi (cods t.args)
theorem cods_len : ∀ f : F, (cods f).length = f.len
  | .nil => rfl
  | .cons o s l h g a r => by show (cods r).length + 1 = r.len + 1; rw [cods_len r]
theorem cods_get : ∀ (f : F) (k : Nat) (hk : k < f.len), (cods f)[k]'(by rw [cods_len]; exact hk) = codT (f.nth k)
  | .nil, _, h => by cases h
  | .cons o s l h g a r, 0, _ => rfl
  | .cons o s l h g a r, k + 1, hk => cods_get r k (by have : k + 1 < r.len + 1 := hk; omega)
def prgT (t : TN) : List IN := codT t 0 ++ [⟨6, noSet, 0, 0⟩]
theorem altP_len (e e' : Int) : ∀ (r : List Cd) (b : Nat), (altP e r b).length = (altP e' r b).length
  | [], _ => rfl
  | c :: r, b => by simp only [altP, List.length_cons, List.length_append]; rw [altP_len e e' r]
theorem posL_lt : ∀ (cs : List Cd) (b j : Nat), j ∈ posL cs b → b ≤ j ∧ j < b + (altP 0 cs b).length
  | [], _, _, h => by cases h
  | c :: r, b, j, h => by
    have hl : (altP 0 (c :: r) b).length = (c (b + 1)).length + 2 + (altP 0 r (b + (c (b + 1)).length + 2)).length := by simp [altP]; omega
    rw [hl]
    rcases List.mem_cons.1 h with rfl | h
    · omega
    · have := posL_lt r _ j h
      omega
def wfC : F → Prop
  | .nil => True
  | .cons o _ _ _ _ a r => ((o = 4 ∨ o = 5) → 1 ≤ a.len) ∧ wfC a ∧ wfC r
theorem wfC_nth : ∀ (f : F) (k : Nat), wfC f → k < f.len → (((f.nth k).op = 4 ∨ (f.nth k).op = 5) → 1 ≤ (f.nth k).args.len) ∧ wfC (f.nth k).args
  | .nil, _, _, h => by cases h
  | .cons o s l h g a r, 0, hf, _ => ⟨hf.1, hf.2.1⟩
  | .cons o s l h g a r, k + 1, hf, hk => wfC_nth r k hf.2.2 (by have : k + 1 < r.len + 1 := hk; omega)
theorem wfC_push {t : TN} (ht : ((t.op = 4 ∨ t.op = 5) → 1 ≤ t.args.len) ∧ wfC t.args) : ∀ {f : F}, wfC f → wfC (f.push t)
  | .nil, _ => ⟨ht.1, ht.2, trivial⟩
  | .cons o s l h g a r, hf => ⟨hf.1, hf.2.1, wfC_push ht hf.2.2⟩
theorem wfC_times {t : TN} (ht : ((t.op = 4 ∨ t.op = 5) → 1 ≤ t.args.len) ∧ wfC t.args) : ∀ (n : Nat) {f : F}, wfC f → wfC (timesF n t f)
  | 0, _, hf => hf
  | n + 1, f, hf => wfC_times ht n (wfC_push ht hf)
def wfN (t : TN) : Prop := ((t.op = 4 ∨ t.op = 5) → 1 ≤ t.args.len) ∧ wfC t.args
theorem wfN_cat {f : F} (h : wfC f) : wfN (catT f) := by
  cases f with
  | nil => exact ⟨fun h => by have : (1 : Int) = 4 ∨ (1 : Int) = 5 := h; omega, trivial⟩
  | cons o s l h' g a r => cases r with
    | nil => exact ⟨h.1, h.2.1⟩
    | cons _ _ _ _ _ _ _ => exact ⟨fun h => by have : (3 : Int) = 4 ∨ (3 : Int) = 5 := h; omega, h⟩
def alt1 : F → Prop
  | .nil => True
  | .cons o _ _ _ _ a r => ((o = 3 ∨ o = 4) → 2 ≤ a.len) ∧ alt1 a ∧ alt1 r
theorem havT_34 {o : Int} {n : Nat} (h : havT o n = true) (ho : o = 3 ∨ o = 4) : 2 ≤ n := by
  unfold havT at h
  rw [if_neg (by omega), if_neg (by omega), if_pos ho] at h
  exact of_decide_eq_true h
theorem alt1_of : ∀ (f : F) (c d : List Bool), vF f c = some d → alt1 f
  | .nil, _, _, _ => trivial
  | .cons o s l hh g a r, c, d, h => by
    rw [vF] at h
    by_cases hok : okN o s l hh g a.len c = true
    case neg => rw [if_neg hok] at h; cases h
    rw [if_pos hok] at h
    have hp := okN_parts hok
    have hhav : havT o a.len = true := by have := hp.1; unfold fldT at this; simp only [Bool.and_eq_true] at this; exact this.1
    cases hva : vF a (if o = 6 then c ++ [false] else c) with
    | none => rw [hva] at h; cases h
    | some e =>
      rw [hva] at h
      replace h : vF r (if o = 6 then e.set c.length true else e) = some d := h
      exact ⟨havT_34 hhav, alt1_of a _ _ hva, alt1_of r _ _ h⟩
theorem nth0_wf {f : F} (h : wfC f) (hl : 0 < f.len) : wfN (f.nth 0) := by
  cases f with
  | nil => cases hl
  | cons o s l h' g a r => exact ⟨h.1, h.2.1⟩
theorem wf_exp : ∀ f : F, okE f → alt1 f → wfC (expF f)
  | .nil, _, _ => trivial
  | .cons o s l h g a r, hok, ha => by
    have h1 := wf_exp a hok.2.1 ha.2.1
    have key : wfN (expN ⟨o, s, l, h, g, a⟩ (expF a)) := by
      unfold expN
      by_cases o5 : o = 5
      · rw [if_pos o5]
        have hl := (hok.1.2 o5).1
        have hy : wfN ((expF a).nth 0) := nth0_wf h1 (by rw [expF_len]; omega)
        refine wfN_cat (wfC_times ⟨fun _ => ?_, ?_⟩ _ (wfC_times hy _ trivial))
        · show 1 ≤ 1
          exact Nat.le_refl _
        · exact wfC_push (f := .nil) hy trivial
      · rw [if_neg o5]
        refine ⟨fun k => ?_, h1⟩
        have k : o = 4 ∨ o = 5 := k
        show 1 ≤ (expF a).len
        rw [expF_len]
        have := ha.1 (by omega)
        omega
    exact ⟨key.1, key.2, wf_exp r hok.2.2 ha.2.2⟩
theorem wf_expT {t : TN} (h : Valid t) : wfN (expT t) := by
  have hok := okE_valid h
  obtain ⟨c, h1, _⟩ := h
  have := wf_exp t.f hok (alt1_of t.f _ _ h1)
  exact ⟨this.1, this.2.1⟩
end Go.Proofs.YtbjobbkipmkndaaDoor
set_option linter.unusedVariables false
set_option linter.unusedSimpArgs false
set_option maxRecDepth 100000
set_option maxHeartbeats 8000000
namespace Go.Proofs.YtbjobbkipmkndaaDoor
open Go.RowKit
def rowI (i : IN) : List Value := [.int .i64 i.op, .int .u64 (wd i.st 0 64 : Nat), .int .u64 (wd i.st 64 64 : Nat), .int .u64 (wd i.st 128 64 : Nat), .int .u64 (wd i.st 192 64 : Nat), .int .i64 i.x, .int .i64 i.y]
def rowsI (L : List IN) : List Value := L.flatMap rowI
theorem rowI_len (i : IN) : (rowI i).length = 7 := rfl
theorem rowsI_snoc (L : List IN) (i : IN) : rowsI (L ++ [i]) = rowsI L ++ rowI i := by simp [rowsI]
theorem rowsI_get : ∀ (L : List IN) (k : Nat) (hk : k < L.length) (j : Nat), j < 7 → (rowsI L)[k * 7 + j]? = (rowI (L[k]'hk))[j]?
  | [], _, h, _, _ => by cases h
  | i :: r, 0, _, j, hj => by
    show (rowI i ++ rowsI r)[0 * 7 + j]? = _
    rw [Nat.zero_mul, Nat.zero_add, List.getElem?_append_left (by rw [rowI_len]; exact hj)]
    rfl
  | i :: r, k + 1, hk, j, hj => by
    show (rowI i ++ rowsI r)[(k + 1) * 7 + j]? = _
    rw [List.getElem?_append_right (by rw [rowI_len]; omega), rowI_len, show (k + 1) * 7 + j - 7 = k * 7 + j by omega]
    exact rowsI_get r k (by have : k + 1 < r.length + 1 := hk; omega) j hj
theorem rowsI_set : ∀ (L : List IN) (k : Nat) (i : IN) (hk : k < L.length) (j : Nat) (v : Value), j < 7 → (rowI (L[k]'hk)).set j v = rowI i → (rowsI L).set (k * 7 + j) v = rowsI (L.set k i)
  | [], _, _, h, _, _, _, _ => by cases h
  | a :: r, 0, i, _, j, v, hj, e => by
    show (rowI a ++ rowsI r).set (0 * 7 + j) v = rowI i ++ rowsI r
    rw [Nat.zero_mul, Nat.zero_add, List.set_append_left _ _ (by rw [rowI_len]; exact hj)]
    have e : (rowI a).set j v = rowI i := e
    rw [e]
  | a :: r, k + 1, i, hk, j, v, hj, e => by
    show (rowI a ++ rowsI r).set ((k + 1) * 7 + j) v = rowI a ++ rowsI (r.set k i)
    rw [List.set_append_right _ _ (by rw [rowI_len]; omega), rowI_len, show (k + 1) * 7 + j - 7 = k * 7 + j by omega]
    rw [rowsI_set r k i (by have : k + 1 < r.length + 1 := hk; omega) j v hj e]
theorem infoI : (Tryd.prog.info? 39).map (fun i => (i.zero, i.size, i.bytes)) = some (some (.agg #[.int .i64 0, .int .u64 0, .int .u64 0, .int .u64 0, .int .u64 0, .int .i64 0, .int .i64 0]), 7, 56) := by kernel_rfl
theorem isz_in : (Tryd.prog.info? 39).map (·.size) = some 7 := by kernel_rfl
structure WM (w : World) (P : Nat) (v : Value) (L : List IN) : Prop where
  wr : w.heap[P]? = some (.cells #[v] 78 (0, 0))
  own : w.ownsRow (P + 1) 39 7 v L.length (rowsI L)
theorem WM.lt {w : World} {P : Nat} {v : Value} {L : List IN} (h : WM w P v L) : P < w.heap.size := (Array.getElem?_eq_some_iff.1 h.wr).1
theorem WM.below {w w' : World} {P : Nat} {v : Value} {L : List IN} (h : WM w P v L) (hb : Below w.heap.size w w') : WM w' P v L := ⟨(hb.block P h.lt).trans h.wr, own_below h.own hb⟩
theorem WM.drew {w : World} {P : Nat} {v : Value} {L : List IN} (h : WM w P v L) : WM w.drew P v L := ⟨h.wr, h.own⟩
theorem WM.cell {w : World} {P : Nat} {v : Value} {L : List IN} (h : WM w P v L) : w.cell? ⟨P, 0, none⟩ = some v := cell_of_row w P 0 _ _ _ h.wr
theorem WM.free {w : World} {P : Nat} {v : Value} {L : List IN} (h : WM w P v L) (j : Nat) : w.frozen? ⟨P, j, none⟩ = false := frozen_of_row w P j _ _ h.wr
theorem WM.ne {w : World} {P : Nat} {v : Value} {L : List IN} (h : WM w P v L) : ¬ v.ownBlock = some P := fun e => by have := (own_at h.own P e).1; omega
structure Mv (P : Nat) (v : Value) (w : World) (v' : Value) (w' : World) : Prop where
  keep : Keep (fun b => b = P ∨ v.ownBlock = some b) w w'
  own : ∀ g, v'.ownBlock = some g → v.ownBlock = some g ∨ w.heap.size ≤ g
theorem Mv.refl (P : Nat) (v : Value) (w : World) : Mv P v w v w := ⟨.refl _ _, fun _ h => .inl h⟩
theorem Mv.of_below {P : Nat} {v : Value} {w w' : World} (h : Below w.heap.size w w') : Mv P v w v w' := ⟨.of_below h, fun _ h => .inl h⟩
theorem Mv.trans {P : Nat} {u v x : Value} {a b c : World} (h : Mv P u a v b) (k : Mv P v b x c) : Mv P u a x c := by
  refine ⟨h.keep.trans k.keep fun g hg hs => ?_, fun g hg => ?_⟩
  · rcases hs with hs | hs
    · exact .inl hs
    · rcases h.own g hs with e | e
      · exact .inr e
      · omega
  · rcases k.own g hg with e | e
    · exact h.own g e
    · right; have := h.keep.size; omega
theorem Mv.next {P : Nat} {u v : Value} {a b c : World} (h : Mv P u a v b) (k : Below b.heap.size b c) : Mv P u a v c := h.trans (.of_below k)
theorem Mv.drew {P : Nat} {u v : Value} {a b : World} (h : Mv P u a v b) : Mv P u a v b.drew := ⟨h.keep.drew, h.own⟩
theorem Mv.size {P : Nat} {u v : Value} {a b : World} (h : Mv P u a v b) : a.heap.size ≤ b.heap.size := h.keep.size
theorem Mv.block {P : Nat} {u v : Value} {a b : World} (h : Mv P u a v b) {L : List IN} (hw : WM a P u L) {k : Nat} (hk : k < a.heap.size) (h1 : k ≠ P) (h2 : ¬ u.ownBlock = some k) : b.heap[k]? = a.heap[k]? := h.keep.block k hk (fun e => by rcases e with e | e; exact h1 e; exact h2 e)
theorem Mv.low {P : Nat} {u v : Value} {a b : World} (h : Mv P u a v b) {L : List IN} (hw : WM a P u L) {k : Nat} (hk : k < P) : b.heap[k]? = a.heap[k]? := h.keep.block k (by have := hw.lt; omega) (fun e => by
  rcases e with e | e
  · omega
  · have := (own_at hw.own k e).1; omega)
theorem Mv.bel {P : Nat} {u v : Value} {a b : World} (h : Mv P u a v b) {L : List IN} (hw : WM a P u L) : Below P a b := h.keep.below (by have := hw.lt; omega) (fun g hg => by
  rcases hg with hg | hg
  · omega
  · have := (own_at hw.own g hg).1; omega)
theorem next_any (P : Nat) (v : Value) (L : List IN) (w : World) (h : WM w P v L) : Calls Tryd.prog 60 #[.pointer (some ⟨P, 0, none⟩)] w fun e w' => e = .returned (.int .i64 (L.length : Int)) ∧ w' = w := by
  obtain ⟨ad, cap, rfl⟩ := own_sl h.own
  have c0 := h.cell
  have f0 := h.free
  clear h
  go_enter Tryd.func60, Tryd.ntmps60
  go_wp2
  go_ret
  exact ⟨rfl, rfl⟩
theorem add_any (i : IN) (P : Nat) (v : Value) (L : List IN) (w : World) (h : WM w P v L) (hl : L.length < 1000000) : Calls Tryd.prog 42 #[.pointer (some ⟨P, 0, none⟩), .agg #[.int .i64 i.op, .int .u64 (wd i.st 0 64 : Nat), .int .u64 (wd i.st 64 64 : Nat), .int .u64 (wd i.st 128 64 : Nat), .int .u64 (wd i.st 192 64 : Nat), .int .i64 i.x, .int .i64 i.y]] w fun e w' => e = .returned (.int .i64 (L.length : Int)) ∧ ∃ v', WM w' P v' (L ++ [i]) ∧ Mv P v w v' w' := by
  obtain ⟨ad, cap, rfl⟩ := own_sl h.own
  have hlt := h.lt
  have hb : Below w.heap.size w (w.alloc (.cells #[.int .i64 i.op, .int .u64 (wd i.st 0 64 : Nat), .int .u64 (wd i.st 64 64 : Nat), .int .u64 (wd i.st 128 64 : Nat), .int .u64 (wd i.st 192 64 : Nat), .int .i64 i.x, .int .i64 i.y] 39)) := (Below.refl _ _).alloc (Nat.le_refl _) _
  obtain ⟨W, hW⟩ : ∃ W, W = w.alloc (.cells #[.int .i64 i.op, .int .u64 (wd i.st 0 64 : Nat), .int .u64 (wd i.st 64 64 : Nat), .int .u64 (wd i.st 128 64 : Nat), .int .u64 (wd i.st 192 64 : Nat), .int .i64 i.x, .int .i64 i.y] 39) := ⟨_, rfl⟩
  have hrow : W.heap[w.heap.size]? = some (.cells #[.int .i64 i.op, .int .u64 (wd i.st 0 64 : Nat), .int .u64 (wd i.st 64 64 : Nat), .int .u64 (wd i.st 128 64 : Nat), .int .u64 (wd i.st 192 64 : Nat), .int .i64 i.x, .int .i64 i.y] 39 (0, 0)) := by rw [hW]; exact heap_alloc_new w _
  rw [← hW] at hb
  have HM := Lib.hid (h.below hb)
  have HB := Lib.hid hb
  have hlW : P < W.heap.size := HM.out.lt
  have HW := Lib.hid hW
  clear h hb hW
  obtain ⟨i0, hi0, hz0, hz1, hz2⟩ := info_parts infoI
  go_enter Tryd.func42, Tryd.ntmps42
  go_upto_region 1 with fail
  rw [← HW.out]
  have cW := HM.out.cell
  have fW := HM.out.free 0
  have cWa : (W.alloc (.cells #[.int .i64 i.op, .int .u64 (wd i.st 0 64 : Nat), .int .u64 (wd i.st 64 64 : Nat), .int .u64 (wd i.st 128 64 : Nat), .int .u64 (wd i.st 192 64 : Nat), .int .i64 i.x, .int .i64 i.y] 39)).cell? ⟨P, 0, none⟩ = some (.slice ad L.length cap) := (World.cell?_of_block (w := W) (Below.heap_alloc W (.cells #[.int .i64 i.op, .int .u64 (wd i.st 0 64 : Nat), .int .u64 (wd i.st 64 64 : Nat), .int .u64 (wd i.st 128 64 : Nat), .int .u64 (wd i.st 192 64 : Nat), .int .i64 i.x, .int .i64 i.y] 39) P (by omega))).trans cW
  have r0 := cell_of_row W w.heap.size 0 _ _ _ hrow
  have r1 := cell_of_row W w.heap.size 1 _ _ _ hrow
  have r2 := cell_of_row W w.heap.size 2 _ _ _ hrow
  have r3 := cell_of_row W w.heap.size 3 _ _ _ hrow
  have r4 := cell_of_row W w.heap.size 4 _ _ _ hrow
  have r5 := cell_of_row W w.heap.size 5 _ _ _ hrow
  have r6 := cell_of_row W w.heap.size 6 _ _ _ hrow
  have hnP : ¬ (Value.slice ad L.length cap).ownBlock = some P := HM.out.ne
  go_region_law
    ((refine step_append_lies _ (by rfl) _ _ _ (by rfl) (P + 1) 39 i0 _ 7 56 Tryd.underlying22 hi0 hz0 hz1 hz2 rfl (by omega) (.slice ad L.length cap) L.length (rowsI L) (by rfl) (HM.out.own.alloc (.cells #[.int .i64 i.op, .int .u64 (wd i.st 0 64 : Nat), .int .u64 (wd i.st 64 64 : Nat), .int .u64 (wd i.st 128 64 : Nat), .int .u64 (wd i.st 192 64 : Nat), .int .i64 i.x, .int .i64 i.y] 39))
        ⟨W.heap.size, 0, none⟩ 1 1 (rowI i) (by rfl) (by rfl) (World.news_of_block (cs := #[.int .i64 i.op, .int .u64 (wd i.st 0 64 : Nat), .int .u64 (wd i.st 64 64 : Nat), .int .u64 (wd i.st 128 64 : Nat), .int .u64 (wd i.st 192 64 : Nat), .int .i64 i.x, .int .i64 i.y]) (t := 39) (fr := (0, 0)) (heap_alloc_new W _)) (by simp [rowI, Value.oneCell'])
        (by omega) (by unfold maxLen; omega) (by omega) (by simp; omega) (W.heap.size + 1) (by simp) ?_; intro gg cp w1 hown1 hgrow hat hlt1; have fW1 : w1.frozen? ⟨P, 0, none⟩ = false := (hgrow.frozen_far _ (by simp; omega) (Ne.symm hnP)).trans ((World.frozen?_of_block (w := W) (Below.heap_alloc W (.cells #[.int .i64 i.op, .int .u64 (wd i.st 0 64 : Nat), .int .u64 (wd i.st 64 64 : Nat), .int .u64 (wd i.st 128 64 : Nat), .int .u64 (wd i.st 192 64 : Nat), .int .i64 i.x, .int .i64 i.y] 39) P (by omega))).trans fW); have cW1 : w1.cell? ⟨P, 0, none⟩ = some (.slice ad L.length cap) := (hgrow.cell_far _ (by simp; omega) (Ne.symm hnP)).trans ((World.cell?_of_block (w := W) (Below.heap_alloc W (.cells #[.int .i64 i.op, .int .u64 (wd i.st 0 64 : Nat), .int .u64 (wd i.st 64 64 : Nat), .int .u64 (wd i.st 128 64 : Nat), .int .u64 (wd i.st 192 64 : Nat), .int .i64 i.x, .int .i64 i.y] 39) P (by omega))).trans cW)))
  all_goals
    have hmv : WM (w1.setCell ⟨P, 0, none⟩ (.slice (some ⟨gg, 0, none⟩) (L.length + 1) cp)) P (.slice (some ⟨gg, 0, none⟩) (L.length + 1) cp) (L ++ [i]) ∧ Mv P (.slice ad L.length cap) w (.slice (some ⟨gg, 0, none⟩) (L.length + 1) cp) (w1.setCell ⟨P, 0, none⟩ (.slice (some ⟨gg, 0, none⟩) (L.length + 1) cp)) := by
      have hbW : w1.heap[P]? = some (.cells #[.slice ad L.length cap] 78 (0, 0)) := (hgrow.block P (by simp; omega) (Ne.symm hnP)).trans ((Below.heap_alloc W _ P (by omega)).trans HM.out.wr)
      have hsz := HB.out.size
      refine ⟨⟨one_setCell hbW, ?_⟩, ?_, ?_⟩
      · rw [List.length_append, rowsI_snoc]
        exact ownsRow_setCell_below hown1 (by show P < P + 1; omega) _
      · have k1 : Keep (fun b => b = P ∨ (Value.slice ad L.length cap).ownBlock = some b) w w1 := ((Keep.of_below HB.out).alloc _).drew.grown hgrow (fun k e _ => .inr e)
        exact k1.put P 0 (.inl (.inl rfl)) _
      · intro g hg
        cases hg
        rcases hat with hat | hat
        · exact .inl hat
        · right; show w.heap.size ≤ gg; omega
    have HMv := Lib.hid hmv
    have cN := hmv.1.cell
    clear hmv hown1 hgrow hat hlt1 cW1 fW1 cWa cW fW r0 r1 r2 r3 r4 r5 r6
    go_wp2
    go_ret
    first
      | exact ⟨congrArg (fun x : Int => Ending.returned (Value.int .i64 x)) (by omega), _, HMv.out.1, HMv.out.2⟩
      | exact ⟨rfl, _, HMv.out.1, HMv.out.2⟩
end Go.Proofs.YtbjobbkipmkndaaDoor
