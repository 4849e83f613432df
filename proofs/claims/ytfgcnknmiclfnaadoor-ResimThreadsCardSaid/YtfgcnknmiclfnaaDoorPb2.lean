/- RtValid, RtVal, RbA, RtA. -/
import Derived.Test.YtfgcnknmiclfnaaDoorPb1
import Derived.WalkKit
import Derived.WalkSpells
import Derived.WalkLawsBesides
import Derived.BigGuardPart
import Derived.BigQuiet
import Derived.Lib.Hide
import Derived.Outline
set_option linter.unusedVariables false
namespace Go.Proofs.YtfgcnknmiclfnaaDoor
open Go.RowKit
def clB (c : List Bool) (g : Int) : Bool := decide (1 ≤ g) && (decide (g ≤ (c.length : Int)) && c.getD (g - 1).toNat false)
def okN (o : Int) (s : Nat → Bool) (l h g : Int) (n : Nat) (c : List Bool) : Bool :=
  fldT o s l h g n && ((!decide (o = 5) || bndT l h) && ((!decide (o = 9) || clB c g) && (!decide (o = 6) || decide (g = (c.length : Int) + 1))))
def vF : F → List Bool → Option (List Bool)
  | .nil, c => some c
  | .cons o s l h g a r, c =>
    if okN o s l h g a.len c = true then
      match vF a (if o = 6 then c ++ [false] else c) with
      | none => none
      | some d => vF r (if o = 6 then d.set c.length true else d)
    else none
def szF : F → Nat
  | .nil => 0
  | .cons _ _ _ _ _ a r => szF a + 1 + szF r
def lvlF : F → Nat
  | .nil => 0
  | .cons _ _ _ _ _ a r => max (lvlF a + 1) (lvlF r)
def bkF : F → Bool
  | .nil => false
  | .cons o _ _ _ _ a r => decide (o = 9) || (bkF a || bkF r)
def TN.f (t : TN) : F := .cons t.op t.st t.lo t.hi t.g t.args .nil
def Valid (t : TN) : Prop := ∃ c, vF t.f [] = some c ∧ c.length ≤ 9 ∧ szF t.f ≤ 600 ∧ lvlF t.f ≤ 32
structure SQ.Le (q q' : SQ) : Prop where
  n : q.n ≤ q'.n
  lv : q.lv ≤ q'.lv
  wt : q.wt = true → q'.wt = true
  wr : q.wr = true → q'.wr = true
  wn : q.wn = true → q'.wn = true
  st : q.st = true → q'.st = true
  cl : q.cl.length ≤ q'.cl.length
theorem SQ.Le.refl (q : SQ) : q.Le q := ⟨Nat.le_refl _, Nat.le_refl _, id, id, id, id, Nat.le_refl _⟩
theorem SQ.Le.trans {a b c : SQ} (h : a.Le b) (k : b.Le c) : a.Le c := ⟨Nat.le_trans h.n k.n, Nat.le_trans h.lv k.lv, fun x => k.wt (h.wt x), fun x => k.wr (h.wr x), fun x => k.wn (h.wn x), fun x => k.st (h.st x), Nat.le_trans h.cl k.cl⟩
theorem pre_le (o : Int) (s : Nat → Bool) (l h g : Int) (n lvl : Nat) (q : SQ) : q.Le (preQ o s l h g n lvl q) :=
  ⟨Nat.le_succ _, Nat.le_max_left _ _, fun x => by show (q.wt || _) = true; rw [x]; rfl, fun x => by show (q.wr || _) = true; rw [x]; rfl, fun x => by show (q.wn || _) = true; rw [x]; rfl, id, Nat.le_refl _⟩
theorem open_le (g : Int) (q : SQ) : q.Le (openQ g q) :=
  ⟨Nat.le_refl _, Nat.le_refl _, id, fun x => by show (q.wr || _) = true; rw [x]; rfl, id, id, by show _ ≤ (q.cl ++ [false]).length; simp⟩
theorem close_le (i : Nat) (q : SQ) : q.Le (closeQ i q) :=
  ⟨Nat.le_refl _, Nat.le_refl _, id, id, id, id, by show _ ≤ (q.cl.set i true).length; simp⟩
theorem st_le (q : SQ) : q.Le { q with st := true } := ⟨Nat.le_refl _, Nat.le_refl _, id, id, id, fun _ => rfl, Nat.le_refl _⟩
theorem walkF_le : ∀ (f : F) (lvl : Nat) (q : SQ), q.Le (walkF f lvl q)
  | .nil, _, q => .refl q
  | .cons o s l h g a r, lvl, q => by
    rw [walkF]
    refine .trans ?_ (walkF_le r lvl _)
    by_cases hs : stopB lvl q = true
    · rw [if_pos hs]
      exact st_le q
    · rw [if_neg hs]
      by_cases h6 : o = 6
      · rw [if_pos h6]
        exact (((pre_le o s l h g a.len lvl q).trans (open_le g _)).trans (walkF_le a (lvl + 1) _)).trans (close_le _ _)
      · rw [if_neg h6]
        exact (pre_le o s l h g a.len lvl q).trans (walkF_le a (lvl + 1) _)
structure SQ.Fine (q : SQ) : Prop where
  wt : q.wt = false
  wr : q.wr = false
  wn : q.wn = false
  n : q.n ≤ 600
  lv : q.lv ≤ 32
theorem SQ.Le.fine {q q' : SQ} (h : q.Le q') (k : q'.Fine) : q.Fine := by
  refine ⟨?_, ?_, ?_, Nat.le_trans h.n k.n, Nat.le_trans h.lv k.lv⟩
  · cases e : q.wt
    · rfl
    · have := h.wt e; rw [k.wt] at this; cases this
  · cases e : q.wr
    · rfl
    · have := h.wr e; rw [k.wr] at this; cases this
  · cases e : q.wn
    · rfl
    · have := h.wn e; rw [k.wn] at this; cases this
theorem okN_of {o : Int} {s : Nat → Bool} {l h g : Int} {n lvl : Nat} {q : SQ} (h1 : (preQ o s l h g n lvl q).Fine) (h2 : o = 6 → (openQ g (preQ o s l h g n lvl q)).Fine) : okN o s l h g n q.cl = true := by
  have a1 : (q.wt || !fldT o s l h g n) = false := h1.wt
  have a2 : (q.wr || (decide (o = 5) && !bndT l h)) = false := h1.wr
  have a3 : (q.wn || (decide (o = 9) && !q.closed g)) = false := h1.wn
  simp only [Bool.or_eq_false_iff] at a1 a2 a3
  unfold okN
  have b1 : fldT o s l h g n = true := by simpa using a1.2
  have b2 : (!decide (o = 5) || bndT l h) = true := by
    have := a2.2
    cases hh : decide (o = 5) <;> simp_all
  have b3 : (!decide (o = 9) || clB q.cl g) = true := by
    have := a3.2
    show (!decide (o = 9) || q.closed g) = true
    cases hh : decide (o = 9) <;> simp_all
  have b4 : (!decide (o = 6) || decide (g = (q.cl.length : Int) + 1)) = true := by
    by_cases h6 : o = 6
    · have := (h2 h6).wr
      have a4 : ((preQ o s l h g n lvl q).wr || !decide (g = (q.cl.length : Int) + 1)) = false := this
      simp only [Bool.or_eq_false_iff] at a4
      have := a4.2
      simp_all
    · simp [h6]
  rw [b1, b2, b3, b4]
  rfl
theorem walkF_fine : ∀ (f : F) (lvl : Nat) (q : SQ), q.st = false → lvl ≤ q.lv + 1 → (walkF f lvl q).Fine →
    vF f q.cl = some (walkF f lvl q).cl ∧ (walkF f lvl q).n = q.n + szF f ∧ (walkF f lvl q).lv = max q.lv (lvl + lvlF f - 1) ∧ (walkF f lvl q).st = false ∧ (walkF f lvl q).bk = (q.bk || bkF f)
  | .nil, lvl, q, hs, hl, hf => by
    refine ⟨rfl, rfl, ?_, hs, ?_⟩
    · show q.lv = max q.lv (lvl + 0 - 1); omega
    · show q.bk = (q.bk || false); simp
  | .cons o s l h g a r, lvl, q, hs, hl, hf => by
    have hq := (walkF_le (.cons o s l h g a r) lvl q).fine hf
    have hstop : ¬ stopB lvl q = true := by
      unfold stopB
      simp only [Bool.or_eq_true, decide_eq_true_eq, not_or]
      have := hq.n
      have := hq.lv
      exact ⟨by simp [hs], by omega, by omega⟩
    rw [walkF, if_neg hstop] at hf ⊢
    by_cases h6 : o = 6
    · rw [if_pos h6] at hf ⊢
      have f1 := (walkF_le r lvl _).fine hf
      have f2 := (close_le _ _).fine f1
      have f3 := (walkF_le a (lvl + 1) _).fine f2
      have f4 := (open_le _ _).fine f3
      have hok := okN_of f4 (fun _ => f3)
      obtain ⟨i1, i2, i3, i4, i5⟩ := walkF_fine a (lvl + 1) (openQ g (preQ o s l h g a.len lvl q)) hs (by show lvl + 1 ≤ max q.lv lvl + 1; omega) f2
      generalize walkF a (lvl + 1) (openQ g (preQ o s l h g a.len lvl q)) = qa at *
      obtain ⟨j1, j2, j3, j4, j5⟩ := walkF_fine r lvl (closeQ q.cl.length qa) i4 (by show lvl ≤ qa.lv + 1; rw [i3]; show lvl ≤ max (max q.lv lvl) _ + 1; omega) hf
      generalize walkF r lvl (closeQ q.cl.length qa) = qr at *
      refine ⟨?_, ?_, ?_, j4, ?_⟩
      · rw [vF, if_pos hok, if_pos h6]
        have i1' : vF a (q.cl ++ [false]) = some qa.cl := i1
        rw [i1']
        show vF r (if o = 6 then qa.cl.set q.cl.length true else qa.cl) = _
        rw [if_pos h6]
        exact j1
      · rw [j2]
        show qa.n + szF r = q.n + (szF a + 1 + szF r)
        rw [i2]
        show q.n + 1 + szF a + szF r = _
        omega
      · rw [j3]
        show max qa.lv _ = max q.lv (lvl + max (lvlF a + 1) (lvlF r) - 1)
        rw [i3]
        show max (max (max q.lv lvl) (lvl + 1 + lvlF a - 1)) (lvl + lvlF r - 1) = _
        omega
      · rw [j5]
        show (qa.bk || bkF r) = _
        rw [i5]
        show ((q.bk || decide (o = 9)) || bkF a || bkF r) = (q.bk || (decide (o = 9) || (bkF a || bkF r)))
        cases q.bk <;> cases decide (o = 9) <;> rfl
    · rw [if_neg h6] at hf ⊢
      have f1 := (walkF_le r lvl _).fine hf
      have f3 := (walkF_le a (lvl + 1) _).fine f1
      have hok := okN_of f3 (fun k => absurd k h6)
      obtain ⟨i1, i2, i3, i4, i5⟩ := walkF_fine a (lvl + 1) (preQ o s l h g a.len lvl q) hs (by show lvl + 1 ≤ max q.lv lvl + 1; omega) f1
      generalize walkF a (lvl + 1) (preQ o s l h g a.len lvl q) = qa at *
      obtain ⟨j1, j2, j3, j4, j5⟩ := walkF_fine r lvl qa i4 (by rw [i3]; show lvl ≤ max (max q.lv lvl) _ + 1; omega) hf
      generalize walkF r lvl qa = qr at *
      refine ⟨?_, ?_, ?_, j4, ?_⟩
      · rw [vF, if_pos hok, if_neg h6]
        have i1' : vF a q.cl = some qa.cl := i1
        rw [i1']
        show vF r (if o = 6 then qa.cl.set q.cl.length true else qa.cl) = _
        rw [if_neg h6]
        exact j1
      · rw [j2, i2]
        show q.n + 1 + szF a + szF r = q.n + (szF a + 1 + szF r)
        omega
      · rw [j3, i3]
        show max (max (max q.lv lvl) (lvl + 1 + lvlF a - 1)) (lvl + lvlF r - 1) = max q.lv (lvl + max (lvlF a + 1) (lvlF r) - 1)
        omega
      · rw [j5, i5]
        show ((q.bk || decide (o = 9)) || bkF a || bkF r) = (q.bk || (decide (o = 9) || (bkF a || bkF r)))
        cases q.bk <;> cases decide (o = 9) <;> rfl
theorem okN_pre {o : Int} {s : Nat → Bool} {l h g : Int} {n lvl : Nat} {q : SQ} (hk : okN o s l h g n q.cl = true) : (preQ o s l h g n lvl q).wt = q.wt ∧ (preQ o s l h g n lvl q).wr = q.wr ∧ (preQ o s l h g n lvl q).wn = q.wn ∧ (o = 6 → (openQ g (preQ o s l h g n lvl q)).wr = q.wr) := by
  unfold okN at hk
  simp only [Bool.and_eq_true] at hk
  obtain ⟨h1, h2, h3, h4⟩ := hk
  refine ⟨?_, ?_, ?_, fun h6 => ?_⟩
  · show (q.wt || !fldT o s l h g n) = q.wt; rw [h1]; simp
  · show (q.wr || (decide (o = 5) && !bndT l h)) = q.wr
    cases hh : decide (o = 5) <;> simp_all
  · show (q.wn || (decide (o = 9) && !q.closed g)) = q.wn
    have h3' : (!decide (o = 9) || q.closed g) = true := h3
    cases hh : decide (o = 9) <;> simp_all
  · show ((q.wr || (decide (o = 5) && !bndT l h)) || !decide (g = (q.cl.length : Int) + 1)) = q.wr
    subst h6
    simp_all
theorem walkF_right : ∀ (f : F) (lvl : Nat) (q : SQ) (c : List Bool), q.st = false → vF f q.cl = some c → q.n + szF f ≤ 600 → lvl + lvlF f ≤ 33 →
    (walkF f lvl q).cl = c ∧ (walkF f lvl q).wt = q.wt ∧ (walkF f lvl q).wr = q.wr ∧ (walkF f lvl q).wn = q.wn ∧ (walkF f lvl q).st = false ∧ (walkF f lvl q).n = q.n + szF f ∧ (q.lv ≤ 32 → (walkF f lvl q).lv ≤ 32)
  | .nil, lvl, q, c, hs, hv, hn, hl => ⟨Option.some.inj hv, rfl, rfl, rfl, hs, rfl, id⟩
  | .cons o s l h g a r, lvl, q, c, hs, hv, hn, hl => by
    have hn' : q.n + (szF a + 1 + szF r) ≤ 600 := hn
    have hl' : lvl + max (lvlF a + 1) (lvlF r) ≤ 33 := hl
    have hstop : ¬ stopB lvl q = true := by
      unfold stopB
      simp only [Bool.or_eq_true, decide_eq_true_eq, not_or]
      exact ⟨by simp [hs], by omega, by omega⟩
    rw [vF] at hv
    by_cases hok : okN o s l h g a.len q.cl = true
    case neg => rw [if_neg hok] at hv; cases hv
    rw [if_pos hok] at hv
    have hp := okN_pre (lvl := lvl) hok
    rw [walkF, if_neg hstop]
    by_cases h6 : o = 6
    · rw [if_pos h6] at hv ⊢
      cases hva : vF a (q.cl ++ [false]) with
      | none => rw [hva] at hv; cases hv
      | some d =>
        rw [hva] at hv
        replace hv : vF r (if o = 6 then d.set q.cl.length true else d) = some c := hv
        rw [if_pos h6] at hv
        obtain ⟨i1, i2, i3, i4, i5, i6, i7⟩ := walkF_right a (lvl + 1) (openQ g (preQ o s l h g a.len lvl q)) d hs hva (by show q.n + 1 + szF a ≤ 600; omega) (by omega)
        generalize walkF a (lvl + 1) (openQ g (preQ o s l h g a.len lvl q)) = qa at *
        have i6' : qa.n = q.n + 1 + szF a := i6
        obtain ⟨j1, j2, j3, j4, j5, j6, j7⟩ := walkF_right r lvl (closeQ q.cl.length qa) c i5 (by show vF r (qa.cl.set _ true) = _; rw [i1]; exact hv) (by show qa.n + _ ≤ 600; omega) (by omega)
        refine ⟨j1, j2.trans (i2.trans hp.1), j3.trans (i3.trans (hp.2.2.2 h6)), j4.trans (i4.trans hp.2.2.1), j5, ?_, fun k => j7 (i7 ?_)⟩
        · rw [j6]
          show qa.n + szF r = q.n + (szF a + 1 + szF r)
          omega
        · show max q.lv lvl ≤ 32; omega
    · rw [if_neg h6] at hv ⊢
      cases hva : vF a q.cl with
      | none => rw [hva] at hv; cases hv
      | some d =>
        rw [hva] at hv
        replace hv : vF r (if o = 6 then d.set q.cl.length true else d) = some c := hv
        rw [if_neg h6] at hv
        obtain ⟨i1, i2, i3, i4, i5, i6, i7⟩ := walkF_right a (lvl + 1) (preQ o s l h g a.len lvl q) d hs hva (by show q.n + 1 + szF a ≤ 600; omega) (by omega)
        generalize walkF a (lvl + 1) (preQ o s l h g a.len lvl q) = qa at *
        have i6' : qa.n = q.n + 1 + szF a := i6
        obtain ⟨j1, j2, j3, j4, j5, j6, j7⟩ := walkF_right r lvl qa c i5 (by rw [i1]; exact hv) (by omega) (by omega)
        refine ⟨j1, j2.trans (i2.trans hp.1), j3.trans (i3.trans hp.2.1), j4.trans (i4.trans hp.2.2.1), j5, ?_, fun k => j7 (i7 ?_)⟩
        · rw [j6]
          show qa.n + szF r = q.n + (szF a + 1 + szF r)
          omega
        · show max q.lv lvl ≤ 32; omega
theorem checkT_iff (t : TN) : checkT t = 0 ↔ Valid t := by
  constructor
  · intro h
    have hw : survT t = walkF t.f 1 SQ0 := rfl
    unfold checkT errQ at h
    rw [hw] at h
    generalize hq : walkF t.f 1 SQ0 = q at h
    by_cases h1 : q.wt = true
    · rw [if_pos h1] at h; cases h
    rw [if_neg h1] at h
    by_cases h2 : q.wr = true
    · rw [if_pos h2] at h; cases h
    rw [if_neg h2] at h
    by_cases h3 : q.wn = true
    · rw [if_pos h3] at h; cases h
    rw [if_neg h3] at h
    by_cases h4 : 600 < q.n ∨ 9 < q.cl.length ∨ 32 < q.lv
    · rw [if_pos h4] at h; cases h
    have hf : (walkF t.f 1 SQ0).Fine := by rw [hq]; exact ⟨by simpa using h1, by simpa using h2, by simpa using h3, by omega, by omega⟩
    obtain ⟨i1, i2, i3, i4, i5⟩ := walkF_fine t.f 1 SQ0 rfl (by decide) hf
    rw [hq] at i1 i2 i3
    refine ⟨q.cl, i1, by omega, ?_, ?_⟩
    · have : q.n = 0 + szF t.f := i2
      omega
    · have : q.lv = max 0 (1 + lvlF t.f - 1) := i3
      omega
  · rintro ⟨c, h1, h2, h3, h4⟩
    obtain ⟨i1, i2, i3, i4, i5, i6, i7⟩ := walkF_right t.f 1 SQ0 c rfl h1 (by show 0 + _ ≤ _; omega) (by omega)
    have hw : survT t = walkF t.f 1 SQ0 := rfl
    unfold checkT errQ
    rw [hw, if_neg (by rw [i2]; simp [SQ0]), if_neg (by rw [i3]; simp [SQ0]), if_neg (by rw [i4]; simp [SQ0]), if_neg]
    have e6 : (walkF t.f 1 SQ0).n = 0 + szF t.f := i6
    have e7 := i7 (by decide)
    rw [i1, e6]
    omega
end Go.Proofs.YtfgcnknmiclfnaaDoor
set_option linter.unusedVariables false
namespace Go.Proofs.YtfgcnknmiclfnaaDoor
open Go.RowKit
section
variable {T : Type}
theorem vF_grow : ∀ (f : F) (c d : List Bool), vF f c = some d → c.length ≤ d.length ∧ ∀ k, c.getD k false = true → d.getD k false = true
  | .nil, c, d, h => by obtain rfl := Option.some.inj h; exact ⟨Nat.le_refl _, fun _ => id⟩
  | .cons o s l hh g a r, c, d, h => by
    rw [vF] at h
    by_cases hok : okN o s l hh g a.len c = true
    case neg => rw [if_neg hok] at h; cases h
    rw [if_pos hok] at h
    cases hva : vF a (if o = 6 then c ++ [false] else c) with
    | none => rw [hva] at h; cases h
    | some e =>
      rw [hva] at h
      replace h : vF r (if o = 6 then e.set c.length true else e) = some d := h
      have i := vF_grow a _ _ hva
      have j := vF_grow r _ _ h
      by_cases h6 : o = 6
      · rw [if_pos h6] at i j
        simp only [List.length_append, List.length_set, List.length_cons, List.length_nil] at i j
        refine ⟨by omega, fun k hk => j.2 k ?_⟩
        have hkl : k < c.length := by
          refine Decidable.byContradiction fun hn => ?_
          rw [List.getD, List.getElem?_eq_none (by omega)] at hk
          cases hk
        have := i.2 k (by rw [List.getD, List.getElem?_append_left hkl]; exact hk)
        rw [List.getD, List.getElem?_set_ne (by omega)]
        exact this
      · rw [if_neg h6] at i j
        exact ⟨by omega, fun k hk => j.2 k (i.2 k hk)⟩
end
end Go.Proofs.YtfgcnknmiclfnaaDoor
set_option linter.unusedVariables false
namespace Go.Proofs.YtfgcnknmiclfnaaDoor
open Go.RowKit
def typF : F → Bool
  | .nil => true
  | .cons o s l h g a r => fldT o s l h g a.len && (typF a && typF r)
def rngF : F → Nat → Option Nat
  | .nil, n => some n
  | .cons o s l h g a r, n =>
    if o = 5 ∧ bndT l h = false then none
    else if o = 6 ∧ ¬ g = (n : Int) + 1 then none
    else match rngF a (if o = 6 then n + 1 else n) with
      | none => none
      | some m => rngF r m
def nmdF : F → List Int → Option (List Int)
  | .nil, c => some c
  | .cons o s l h g a r, c =>
    if o = 9 ∧ c.contains g = false then none
    else match nmdF a c with
      | none => none
      | some d => nmdF r (if o = 6 then d ++ [g] else d)
def grF : F → Nat
  | .nil => 0
  | .cons o _ _ _ _ a r => (if o = 6 then 1 else 0) + (grF a + grF r)
def rngN (o l h g : Int) (a : F) (n : Nat) : Option Nat :=
  if o = 5 ∧ bndT l h = false then none else if o = 6 ∧ ¬ g = (n : Int) + 1 then none else rngF a (if o = 6 then n + 1 else n)
def nmdN (o g : Int) (a : F) (c : List Int) : Option (List Int) :=
  if o = 9 ∧ c.contains g = false then none else match nmdF a c with
    | none => none
    | some d => some (if o = 6 then d ++ [g] else d)
theorem rngF_cons (o l h g : Int) (s : Nat → Bool) (a r : F) (n : Nat) : rngF (.cons o s l h g a r) n = match rngN o l h g a n with | none => none | some m => rngF r m := by
  rw [rngF, rngN]
  split
  · rfl
  · split
    · rfl
    · rfl
theorem nmdF_cons (o l h g : Int) (s : Nat → Bool) (a r : F) (c : List Int) : nmdF (.cons o s l h g a r) c = match nmdN o g a c with | none => none | some d => nmdF r d := by
  rw [nmdF, nmdN]
  split
  · rfl
  · cases nmdF a c <;> rfl
theorem rngF_gr : ∀ (f : F) (n m : Nat), rngF f n = some m → m = n + grF f
  | .nil, n, m, h => by obtain rfl := Option.some.inj h; rfl
  | .cons o s l hh g a r, n, m, h => by
    rw [rngF_cons] at h
    cases hk : rngN o l hh g a n with
    | none => rw [hk] at h; cases h
    | some k =>
      rw [hk] at h
      have j := rngF_gr r k m h
      unfold rngN at hk
      split at hk
      · cases hk
      · split at hk
        · cases hk
        · have i := rngF_gr a _ k hk
          show m = n + ((if o = 6 then 1 else 0) + (grF a + grF r))
          split at i <;> simp_all <;> omega
def Rel (c : List Bool) (L : List Int) : Prop := ∀ g, L.contains g = clB c g
theorem clB_app (c : List Bool) (g : Int) : clB (c ++ [false]) g = clB c g := by
  unfold clB
  by_cases h1 : 1 ≤ g
  · by_cases h2 : g ≤ (c.length : Int)
    · have h3 : g ≤ ((c ++ [false]).length : Int) := by simp; omega
      rw [decide_eq_true h1, decide_eq_true h2, decide_eq_true h3, List.getD, List.getD, List.getElem?_append_left (by omega)]
    · rw [decide_eq_false h2]
      by_cases h3 : g ≤ ((c ++ [false]).length : Int)
      · have : (g - 1).toNat = c.length := by simp at h3; omega
        rw [List.getD, this, List.getElem?_append_right (Nat.le_refl _), Nat.sub_self]
        simp
      · rw [decide_eq_false h3, Bool.false_and, Bool.false_and]
  · rw [decide_eq_false h1]; rfl
theorem Rel.app {c : List Bool} {L : List Int} (h : Rel c L) : Rel (c ++ [false]) L := fun g => (h g).trans (clB_app c g).symm
theorem clB_set (e : List Bool) (k : Nat) (hk : k < e.length) (g : Int) : clB (e.set k true) g = (clB e g || decide (g = (k : Int) + 1)) := by
  unfold clB
  rw [List.length_set]
  by_cases h1 : 1 ≤ g
  · by_cases h2 : g ≤ (e.length : Int)
    · rw [decide_eq_true h1, decide_eq_true h2, List.getD, List.getD, List.getElem?_set]
      by_cases h3 : k = (g - 1).toNat
      · rw [if_pos h3, if_pos hk, decide_eq_true (show g = (k : Int) + 1 by omega)]
        simp
      · rw [if_neg h3, decide_eq_false (show ¬ g = (k : Int) + 1 by omega)]
        simp
    · rw [decide_eq_false h2, decide_eq_false (show ¬ g = (k : Int) + 1 by omega)]
      simp
  · rw [decide_eq_false h1, decide_eq_false (show ¬ g = (k : Int) + 1 by omega)]
    simp
theorem Rel.set {e : List Bool} {L : List Int} (h : Rel e L) (k : Nat) (hk : k < e.length) : Rel (e.set k true) (L ++ [(k : Int) + 1]) := fun g => by
  rw [clB_set e k hk, ← h g]
  rw [Bool.eq_iff_iff]
  simp
theorem okN_iff (o : Int) (s : Nat → Bool) (l h g : Int) (n : Nat) (c : List Bool) : okN o s l h g n c = true ↔ fldT o s l h g n = true ∧ ¬ (o = 5 ∧ bndT l h = false) ∧ ¬ (o = 9 ∧ clB c g = false) ∧ ¬ (o = 6 ∧ ¬ g = (c.length : Int) + 1) := by
  unfold okN
  by_cases h5 : o = 5 <;> by_cases h9 : o = 9 <;> by_cases h6 : o = 6 <;> cases fldT o s l h g n <;> cases bndT l h <;> cases clB c g <;> by_cases hg : g = (c.length : Int) + 1 <;> simp [*]
theorem vF_ref : ∀ (f : F) (c d : List Bool) (L : List Int), vF f c = some d → Rel c L → typF f = true ∧ rngF f c.length = some d.length ∧ ∃ M, nmdF f L = some M ∧ Rel d M
  | .nil, c, d, L, h, hR => by obtain rfl := Option.some.inj h; exact ⟨rfl, rfl, L, rfl, hR⟩
  | .cons o s l hh g a r, c, d, L, h, hR => by
    rw [vF] at h
    by_cases hok : okN o s l hh g a.len c = true
    case neg => rw [if_neg hok] at h; cases h
    rw [if_pos hok] at h
    obtain ⟨k1, k2, k3, k4⟩ := (okN_iff ..).1 hok
    cases hva : vF a (if o = 6 then c ++ [false] else c) with
    | none => rw [hva] at h; cases h
    | some e =>
      rw [hva] at h
      replace h : vF r (if o = 6 then e.set c.length true else e) = some d := h
      have ga := vF_grow a _ _ hva
      have hRa : Rel (if o = 6 then c ++ [false] else c) L := by
        split
        · exact hR.app
        · exact hR
      obtain ⟨i1, i2, M, i3, i4⟩ := vF_ref a _ e L hva hRa
      have hlen : (if o = 6 then c ++ [false] else c).length = if o = 6 then c.length + 1 else c.length := by split <;> simp
      have hRe : Rel (if o = 6 then e.set c.length true else e) (if o = 6 then M ++ [g] else M) := by
        by_cases h6 : o = 6
        · rw [if_pos h6, if_pos h6]
          have hg : g = (c.length : Int) + 1 := Decidable.byContradiction fun hn => k4 ⟨h6, hn⟩
          rw [hg]
          refine i4.set _ ?_
          have := ga.1
          rw [if_pos h6, List.length_append] at this
          exact this
        · rw [if_neg h6, if_neg h6]; exact i4
      obtain ⟨j1, j2, N, j3, j4⟩ := vF_ref r _ d _ h hRe
      refine ⟨?_, ?_, N, ?_, j4⟩
      · rw [typF, k1, i1, j1]; rfl
      · rw [rngF, if_neg k2, if_neg k4, ← hlen, i2]
        have : (if o = 6 then e.set c.length true else e).length = e.length := by split <;> simp
        rw [this] at j2
        exact j2
      · rw [nmdF, if_neg (by rw [hR g]; exact k3), i3]
        exact j3
theorem ref_vF : ∀ (f : F) (c : List Bool) (n : Nat) (L M : List Int), typF f = true → rngF f c.length = some n → nmdF f L = some M → Rel c L → ∃ d, vF f c = some d ∧ d.length = n ∧ Rel d M
  | .nil, c, n, L, M, _, h2, h3, hR => by
    obtain rfl := Option.some.inj h2
    obtain rfl := Option.some.inj h3
    exact ⟨c, rfl, rfl, hR⟩
  | .cons o s l hh g a r, c, n, L, M, h1, h2, h3, hR => by
    rw [typF] at h1
    simp only [Bool.and_eq_true] at h1
    rw [rngF] at h2
    rw [nmdF] at h3
    by_cases k2 : o = 5 ∧ bndT l hh = false
    · rw [if_pos k2] at h2; cases h2
    by_cases k4 : o = 6 ∧ ¬ g = (c.length : Int) + 1
    · rw [if_neg k2, if_pos k4] at h2; cases h2
    by_cases k3 : o = 9 ∧ L.contains g = false
    · rw [if_pos k3] at h3; cases h3
    rw [if_neg k2, if_neg k4] at h2
    rw [if_neg k3] at h3
    cases hn : nmdF a L with
    | none => rw [hn] at h3; cases h3
    | some M1 =>
      rw [hn] at h3
      have hlen : (if o = 6 then c ++ [false] else c).length = if o = 6 then c.length + 1 else c.length := by split <;> simp
      rw [← hlen] at h2
      cases hr : rngF a (if o = 6 then c ++ [false] else c).length with
      | none => rw [hr] at h2; cases h2
      | some m =>
        rw [hr] at h2
        have hRa : Rel (if o = 6 then c ++ [false] else c) L := by
          split
          · exact hR.app
          · exact hR
        obtain ⟨e, i1, i2, i3⟩ := ref_vF a _ m L M1 h1.2.1 hr hn hRa
        have ga := vF_grow a _ _ i1
        have hRe : Rel (if o = 6 then e.set c.length true else e) (if o = 6 then M1 ++ [g] else M1) := by
          by_cases h6 : o = 6
          · rw [if_pos h6, if_pos h6]
            have hg : g = (c.length : Int) + 1 := Decidable.byContradiction fun hn => k4 ⟨h6, hn⟩
            rw [hg]
            refine i3.set _ ?_
            have := ga.1
            rw [if_pos h6, List.length_append] at this
            exact this
          · rw [if_neg h6, if_neg h6]; exact i3
        have hle : (if o = 6 then e.set c.length true else e).length = m := by rw [← i2]; split <;> simp
        obtain ⟨d, j1, j2, j3⟩ := ref_vF r _ n _ M h1.2.2 (by rw [hle]; exact h2) h3 hRe
        refine ⟨d, ?_, j2, j3⟩
        rw [vF, if_pos ((okN_iff ..).2 ⟨h1.1, k2, by rw [← hR g]; exact k3, k4⟩), i1]
        exact j1
theorem Rel.nil : Rel [] [] := fun g => by
  unfold clB
  simp
theorem valid_ref (t : TN) : Valid t ↔ typF t.f = true ∧ (rngF t.f 0).isSome = true ∧ (nmdF t.f []).isSome = true ∧ szF t.f ≤ 600 ∧ grF t.f ≤ 9 ∧ lvlF t.f ≤ 32 := by
  constructor
  · rintro ⟨c, h1, h2, h3, h4⟩
    obtain ⟨i1, i2, M, i3, _⟩ := vF_ref t.f [] c [] h1 Rel.nil
    have := rngF_gr _ _ _ i2
    simp only [List.length_nil] at i2 this
    exact ⟨i1, by rw [i2]; rfl, by rw [i3]; rfl, h3, by omega, h4⟩
  · rintro ⟨h1, h2, h3, h4, h5, h6⟩
    obtain ⟨n, hn⟩ := Option.isSome_iff_exists.1 h2
    obtain ⟨M, hM⟩ := Option.isSome_iff_exists.1 h3
    obtain ⟨d, i1, i2, _⟩ := ref_vF t.f [] n [] M h1 hn hM Rel.nil
    have := rngF_gr _ _ _ hn
    exact ⟨d, i1, by omega, h4, h6⟩
end Go.Proofs.YtfgcnknmiclfnaaDoor
set_option linter.unusedVariables false
set_option linter.unusedSimpArgs false
set_option maxRecDepth 100000
set_option maxHeartbeats 8000000
namespace Go.Proofs.YtfgcnknmiclfnaaDoor
open Go.RowKit
theorem beq_dec (a b : Int) : (a == b) = decide (a = b) := by by_cases h : a = b <;> simp [h]
end Go.Proofs.YtfgcnknmiclfnaaDoor
