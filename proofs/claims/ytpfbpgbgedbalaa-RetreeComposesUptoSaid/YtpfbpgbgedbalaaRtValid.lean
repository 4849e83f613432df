/- Trees that Check accepts: one condition a node. -/
import Derived.Test.YtpfbpgbgedbalaaRtMath
set_option linter.unusedVariables false
namespace Go.Proofs.Ytpfbpgbgedbalaa
open Go.RowKit

/-- Is a group closed? -/
def clB (c : List Bool) (g : Int) : Bool := decide (1 ≤ g) && (decide (g ≤ (c.length : Int)) && c.getD (g - 1).toNat false)
/-- What is asked of one node, behind groups that are closed or open. -/
def okN (o : Int) (s : Nat → Bool) (l h g : Int) (n : Nat) (c : List Bool) : Bool :=
  fldT o s l h g n && ((!decide (o = 5) || bndT l h) && ((!decide (o = 9) || clB c g) && (!decide (o = 6) || decide (g = (c.length : Int) + 1))))
/-- Are all nodes right? Then: the groups behind them. -/
def vF : F → List Bool → Option (List Bool)
  | .nil, c => some c
  | .cons o s l h g a r, c =>
    if okN o s l h g a.len c = true then
      match vF a (if o = 6 then c ++ [false] else c) with
      | none => none
      | some d => vF r (if o = 6 then d.set c.length true else d)
    else none
def szF : F → Nat
  | .nil => 0
  | .cons _ _ _ _ _ a r => szF a + 1 + szF r
def lvlF : F → Nat
  | .nil => 0
  | .cons _ _ _ _ _ a r => max (lvlF a + 1) (lvlF r)
def bkF : F → Bool
  | .nil => false
  | .cons o _ _ _ _ a r => decide (o = 9) || (bkF a || bkF r)
def TN.f (t : TN) : F := .cons t.op t.st t.lo t.hi t.g t.args .nil
/-- Check says OK. -/
def Valid (t : TN) : Prop := ∃ c, vF t.f [] = some c ∧ c.length ≤ 9 ∧ szF t.f ≤ 600 ∧ lvlF t.f ≤ 32

/-- q' came behind q. -/
structure SQ.Le (q q' : SQ) : Prop where
  n : q.n ≤ q'.n
  lv : q.lv ≤ q'.lv
  wt : q.wt = true → q'.wt = true
  wr : q.wr = true → q'.wr = true
  wn : q.wn = true → q'.wn = true
  st : q.st = true → q'.st = true
  cl : q.cl.length ≤ q'.cl.length
theorem SQ.Le.refl (q : SQ) : q.Le q := ⟨Nat.le_refl _, Nat.le_refl _, id, id, id, id, Nat.le_refl _⟩
theorem SQ.Le.trans {a b c : SQ} (h : a.Le b) (k : b.Le c) : a.Le c := ⟨Nat.le_trans h.n k.n, Nat.le_trans h.lv k.lv, fun x => k.wt (h.wt x), fun x => k.wr (h.wr x), fun x => k.wn (h.wn x), fun x => k.st (h.st x), Nat.le_trans h.cl k.cl⟩
theorem pre_le (o : Int) (s : Nat → Bool) (l h g : Int) (n lvl : Nat) (q : SQ) : q.Le (preQ o s l h g n lvl q) :=
  ⟨Nat.le_succ _, Nat.le_max_left _ _, fun x => by show (q.wt || _) = true; rw [x]; rfl, fun x => by show (q.wr || _) = true; rw [x]; rfl, fun x => by show (q.wn || _) = true; rw [x]; rfl, id, Nat.le_refl _⟩
theorem open_le (g : Int) (q : SQ) : q.Le (openQ g q) :=
  ⟨Nat.le_refl _, Nat.le_refl _, id, fun x => by show (q.wr || _) = true; rw [x]; rfl, id, id, by show _ ≤ (q.cl ++ [false]).length; simp⟩
theorem close_le (i : Nat) (q : SQ) : q.Le (closeQ i q) :=
  ⟨Nat.le_refl _, Nat.le_refl _, id, id, id, id, by show _ ≤ (q.cl.set i true).length; simp⟩
theorem st_le (q : SQ) : q.Le { q with st := true } := ⟨Nat.le_refl _, Nat.le_refl _, id, id, id, fun _ => rfl, Nat.le_refl _⟩
theorem walkF_le : ∀ (f : F) (lvl : Nat) (q : SQ), q.Le (walkF f lvl q)
  | .nil, _, q => .refl q
  | .cons o s l h g a r, lvl, q => by
    rw [walkF]
    refine .trans ?_ (walkF_le r lvl _)
    by_cases hs : stopB lvl q = true
    · rw [if_pos hs]
      exact st_le q
    · rw [if_neg hs]
      by_cases h6 : o = 6
      · rw [if_pos h6]
        exact (((pre_le o s l h g a.len lvl q).trans (open_le g _)).trans (walkF_le a (lvl + 1) _)).trans (close_le _ _)
      · rw [if_neg h6]
        exact (pre_le o s l h g a.len lvl q).trans (walkF_le a (lvl + 1) _)
/-- No fault, and within the document's bounds. -/
structure SQ.Fine (q : SQ) : Prop where
  wt : q.wt = false
  wr : q.wr = false
  wn : q.wn = false
  n : q.n ≤ 600
  lv : q.lv ≤ 32
theorem SQ.Le.fine {q q' : SQ} (h : q.Le q') (k : q'.Fine) : q.Fine := by
  refine ⟨?_, ?_, ?_, Nat.le_trans h.n k.n, Nat.le_trans h.lv k.lv⟩
  · cases e : q.wt
    · rfl
    · have := h.wt e; rw [k.wt] at this; cases this
  · cases e : q.wr
    · rfl
    · have := h.wr e; rw [k.wr] at this; cases this
  · cases e : q.wn
    · rfl
    · have := h.wn e; rw [k.wn] at this; cases this
theorem okN_of {o : Int} {s : Nat → Bool} {l h g : Int} {n lvl : Nat} {q : SQ} (h1 : (preQ o s l h g n lvl q).Fine) (h2 : o = 6 → (openQ g (preQ o s l h g n lvl q)).Fine) : okN o s l h g n q.cl = true := by
  have a1 : (q.wt || !fldT o s l h g n) = false := h1.wt
  have a2 : (q.wr || (decide (o = 5) && !bndT l h)) = false := h1.wr
  have a3 : (q.wn || (decide (o = 9) && !q.closed g)) = false := h1.wn
  simp only [Bool.or_eq_false_iff] at a1 a2 a3
  unfold okN
  have b1 : fldT o s l h g n = true := by simpa using a1.2
  have b2 : (!decide (o = 5) || bndT l h) = true := by
    have := a2.2
    cases hh : decide (o = 5) <;> simp_all
  have b3 : (!decide (o = 9) || clB q.cl g) = true := by
    have := a3.2
    show (!decide (o = 9) || q.closed g) = true
    cases hh : decide (o = 9) <;> simp_all
  have b4 : (!decide (o = 6) || decide (g = (q.cl.length : Int) + 1)) = true := by
    by_cases h6 : o = 6
    · have := (h2 h6).wr
      have a4 : ((preQ o s l h g n lvl q).wr || !decide (g = (q.cl.length : Int) + 1)) = false := this
      simp only [Bool.or_eq_false_iff] at a4
      have := a4.2
      simp_all
    · simp [h6]
  rw [b1, b2, b3, b4]
  rfl
/-- A walk that ends without a fault. -/
theorem walkF_fine : ∀ (f : F) (lvl : Nat) (q : SQ), q.st = false → lvl ≤ q.lv + 1 → (walkF f lvl q).Fine →
    vF f q.cl = some (walkF f lvl q).cl ∧ (walkF f lvl q).n = q.n + szF f ∧ (walkF f lvl q).lv = max q.lv (lvl + lvlF f - 1) ∧ (walkF f lvl q).st = false ∧ (walkF f lvl q).bk = (q.bk || bkF f)
  | .nil, lvl, q, hs, hl, hf => by
    refine ⟨rfl, rfl, ?_, hs, ?_⟩
    · show q.lv = max q.lv (lvl + 0 - 1); omega
    · show q.bk = (q.bk || false); simp
  | .cons o s l h g a r, lvl, q, hs, hl, hf => by
    have hq := (walkF_le (.cons o s l h g a r) lvl q).fine hf
    have hstop : ¬ stopB lvl q = true := by
      unfold stopB
      simp only [Bool.or_eq_true, decide_eq_true_eq, not_or]
      have := hq.n
      have := hq.lv
      exact ⟨by simp [hs], by omega, by omega⟩
    rw [walkF, if_neg hstop] at hf ⊢
    by_cases h6 : o = 6
    · rw [if_pos h6] at hf ⊢
      have f1 := (walkF_le r lvl _).fine hf
      have f2 := (close_le _ _).fine f1
      have f3 := (walkF_le a (lvl + 1) _).fine f2
      have f4 := (open_le _ _).fine f3
      have hok := okN_of f4 (fun _ => f3)
      obtain ⟨i1, i2, i3, i4, i5⟩ := walkF_fine a (lvl + 1) (openQ g (preQ o s l h g a.len lvl q)) hs (by show lvl + 1 ≤ max q.lv lvl + 1; omega) f2
      generalize walkF a (lvl + 1) (openQ g (preQ o s l h g a.len lvl q)) = qa at *
      obtain ⟨j1, j2, j3, j4, j5⟩ := walkF_fine r lvl (closeQ q.cl.length qa) i4 (by show lvl ≤ qa.lv + 1; rw [i3]; show lvl ≤ max (max q.lv lvl) _ + 1; omega) hf
      generalize walkF r lvl (closeQ q.cl.length qa) = qr at *
      refine ⟨?_, ?_, ?_, j4, ?_⟩
      · rw [vF, if_pos hok, if_pos h6]
        have i1' : vF a (q.cl ++ [false]) = some qa.cl := i1
        rw [i1']
        show vF r (if o = 6 then qa.cl.set q.cl.length true else qa.cl) = _
        rw [if_pos h6]
        exact j1
      · rw [j2]
        show qa.n + szF r = q.n + (szF a + 1 + szF r)
        rw [i2]
        show q.n + 1 + szF a + szF r = _
        omega
      · rw [j3]
        show max qa.lv _ = max q.lv (lvl + max (lvlF a + 1) (lvlF r) - 1)
        rw [i3]
        show max (max (max q.lv lvl) (lvl + 1 + lvlF a - 1)) (lvl + lvlF r - 1) = _
        omega
      · rw [j5]
        show (qa.bk || bkF r) = _
        rw [i5]
        show ((q.bk || decide (o = 9)) || bkF a || bkF r) = (q.bk || (decide (o = 9) || (bkF a || bkF r)))
        cases q.bk <;> cases decide (o = 9) <;> rfl
    · rw [if_neg h6] at hf ⊢
      have f1 := (walkF_le r lvl _).fine hf
      have f3 := (walkF_le a (lvl + 1) _).fine f1
      have hok := okN_of f3 (fun k => absurd k h6)
      obtain ⟨i1, i2, i3, i4, i5⟩ := walkF_fine a (lvl + 1) (preQ o s l h g a.len lvl q) hs (by show lvl + 1 ≤ max q.lv lvl + 1; omega) f1
      generalize walkF a (lvl + 1) (preQ o s l h g a.len lvl q) = qa at *
      obtain ⟨j1, j2, j3, j4, j5⟩ := walkF_fine r lvl qa i4 (by rw [i3]; show lvl ≤ max (max q.lv lvl) _ + 1; omega) hf
      generalize walkF r lvl qa = qr at *
      refine ⟨?_, ?_, ?_, j4, ?_⟩
      · rw [vF, if_pos hok, if_neg h6]
        have i1' : vF a q.cl = some qa.cl := i1
        rw [i1']
        show vF r (if o = 6 then qa.cl.set q.cl.length true else qa.cl) = _
        rw [if_neg h6]
        exact j1
      · rw [j2, i2]
        show q.n + 1 + szF a + szF r = q.n + (szF a + 1 + szF r)
        omega
      · rw [j3, i3]
        show max (max (max q.lv lvl) (lvl + 1 + lvlF a - 1)) (lvl + lvlF r - 1) = max q.lv (lvl + max (lvlF a + 1) (lvlF r) - 1)
        omega
      · rw [j5, i5]
        show ((q.bk || decide (o = 9)) || bkF a || bkF r) = (q.bk || (decide (o = 9) || (bkF a || bkF r)))
        cases q.bk <;> cases decide (o = 9) <;> rfl
theorem okN_pre {o : Int} {s : Nat → Bool} {l h g : Int} {n lvl : Nat} {q : SQ} (hk : okN o s l h g n q.cl = true) : (preQ o s l h g n lvl q).wt = q.wt ∧ (preQ o s l h g n lvl q).wr = q.wr ∧ (preQ o s l h g n lvl q).wn = q.wn ∧ (o = 6 → (openQ g (preQ o s l h g n lvl q)).wr = q.wr) := by
  unfold okN at hk
  simp only [Bool.and_eq_true] at hk
  obtain ⟨h1, h2, h3, h4⟩ := hk
  refine ⟨?_, ?_, ?_, fun h6 => ?_⟩
  · show (q.wt || !fldT o s l h g n) = q.wt; rw [h1]; simp
  · show (q.wr || (decide (o = 5) && !bndT l h)) = q.wr
    cases hh : decide (o = 5) <;> simp_all
  · show (q.wn || (decide (o = 9) && !q.closed g)) = q.wn
    have h3' : (!decide (o = 9) || q.closed g) = true := h3
    cases hh : decide (o = 9) <;> simp_all
  · show ((q.wr || (decide (o = 5) && !bndT l h)) || !decide (g = (q.cl.length : Int) + 1)) = q.wr
    subst h6
    simp_all
/-- A walk over right nodes finds no fault. -/
theorem walkF_right : ∀ (f : F) (lvl : Nat) (q : SQ) (c : List Bool), q.st = false → vF f q.cl = some c → q.n + szF f ≤ 600 → lvl + lvlF f ≤ 33 →
    (walkF f lvl q).cl = c ∧ (walkF f lvl q).wt = q.wt ∧ (walkF f lvl q).wr = q.wr ∧ (walkF f lvl q).wn = q.wn ∧ (walkF f lvl q).st = false ∧ (walkF f lvl q).n = q.n + szF f ∧ (q.lv ≤ 32 → (walkF f lvl q).lv ≤ 32)
  | .nil, lvl, q, c, hs, hv, hn, hl => ⟨Option.some.inj hv, rfl, rfl, rfl, hs, rfl, id⟩
  | .cons o s l h g a r, lvl, q, c, hs, hv, hn, hl => by
    have hn' : q.n + (szF a + 1 + szF r) ≤ 600 := hn
    have hl' : lvl + max (lvlF a + 1) (lvlF r) ≤ 33 := hl
    have hstop : ¬ stopB lvl q = true := by
      unfold stopB
      simp only [Bool.or_eq_true, decide_eq_true_eq, not_or]
      exact ⟨by simp [hs], by omega, by omega⟩
    rw [vF] at hv
    by_cases hok : okN o s l h g a.len q.cl = true
    case neg => rw [if_neg hok] at hv; cases hv
    rw [if_pos hok] at hv
    have hp := okN_pre (lvl := lvl) hok
    rw [walkF, if_neg hstop]
    by_cases h6 : o = 6
    · rw [if_pos h6] at hv ⊢
      cases hva : vF a (q.cl ++ [false]) with
      | none => rw [hva] at hv; cases hv
      | some d =>
        rw [hva] at hv
        replace hv : vF r (if o = 6 then d.set q.cl.length true else d) = some c := hv
        rw [if_pos h6] at hv
        obtain ⟨i1, i2, i3, i4, i5, i6, i7⟩ := walkF_right a (lvl + 1) (openQ g (preQ o s l h g a.len lvl q)) d hs hva (by show q.n + 1 + szF a ≤ 600; omega) (by omega)
        generalize walkF a (lvl + 1) (openQ g (preQ o s l h g a.len lvl q)) = qa at *
        have i6' : qa.n = q.n + 1 + szF a := i6
        obtain ⟨j1, j2, j3, j4, j5, j6, j7⟩ := walkF_right r lvl (closeQ q.cl.length qa) c i5 (by show vF r (qa.cl.set _ true) = _; rw [i1]; exact hv) (by show qa.n + _ ≤ 600; omega) (by omega)
        refine ⟨j1, j2.trans (i2.trans hp.1), j3.trans (i3.trans (hp.2.2.2 h6)), j4.trans (i4.trans hp.2.2.1), j5, ?_, fun k => j7 (i7 ?_)⟩
        · rw [j6]
          show qa.n + szF r = q.n + (szF a + 1 + szF r)
          omega
        · show max q.lv lvl ≤ 32; omega
    · rw [if_neg h6] at hv ⊢
      cases hva : vF a q.cl with
      | none => rw [hva] at hv; cases hv
      | some d =>
        rw [hva] at hv
        replace hv : vF r (if o = 6 then d.set q.cl.length true else d) = some c := hv
        rw [if_neg h6] at hv
        obtain ⟨i1, i2, i3, i4, i5, i6, i7⟩ := walkF_right a (lvl + 1) (preQ o s l h g a.len lvl q) d hs hva (by show q.n + 1 + szF a ≤ 600; omega) (by omega)
        generalize walkF a (lvl + 1) (preQ o s l h g a.len lvl q) = qa at *
        have i6' : qa.n = q.n + 1 + szF a := i6
        obtain ⟨j1, j2, j3, j4, j5, j6, j7⟩ := walkF_right r lvl qa c i5 (by rw [i1]; exact hv) (by omega) (by omega)
        refine ⟨j1, j2.trans (i2.trans hp.1), j3.trans (i3.trans hp.2.1), j4.trans (i4.trans hp.2.2.1), j5, ?_, fun k => j7 (i7 ?_)⟩
        · rw [j6]
          show qa.n + szF r = q.n + (szF a + 1 + szF r)
          omega
        · show max q.lv lvl ≤ 32; omega
theorem checkT_iff (t : TN) : checkT t = 0 ↔ Valid t := by
  constructor
  · intro h
    have hw : survT t = walkF t.f 1 SQ0 := rfl
    unfold checkT errQ at h
    rw [hw] at h
    generalize hq : walkF t.f 1 SQ0 = q at h
    by_cases h1 : q.wt = true
    · rw [if_pos h1] at h; cases h
    rw [if_neg h1] at h
    by_cases h2 : q.wr = true
    · rw [if_pos h2] at h; cases h
    rw [if_neg h2] at h
    by_cases h3 : q.wn = true
    · rw [if_pos h3] at h; cases h
    rw [if_neg h3] at h
    by_cases h4 : 600 < q.n ∨ 9 < q.cl.length ∨ 32 < q.lv
    · rw [if_pos h4] at h; cases h
    have hf : (walkF t.f 1 SQ0).Fine := by rw [hq]; exact ⟨by simpa using h1, by simpa using h2, by simpa using h3, by omega, by omega⟩
    obtain ⟨i1, i2, i3, i4, i5⟩ := walkF_fine t.f 1 SQ0 rfl (by decide) hf
    rw [hq] at i1 i2 i3
    refine ⟨q.cl, i1, by omega, ?_, ?_⟩
    · have : q.n = 0 + szF t.f := i2
      omega
    · have : q.lv = max 0 (1 + lvlF t.f - 1) := i3
      omega
  · rintro ⟨c, h1, h2, h3, h4⟩
    obtain ⟨i1, i2, i3, i4, i5, i6, i7⟩ := walkF_right t.f 1 SQ0 c rfl h1 (by show 0 + _ ≤ _; omega) (by omega)
    have hw : survT t = walkF t.f 1 SQ0 := rfl
    unfold checkT errQ
    rw [hw, if_neg (by rw [i2]; simp [SQ0]), if_neg (by rw [i3]; simp [SQ0]), if_neg (by rw [i4]; simp [SQ0]), if_neg]
    have e6 : (walkF t.f 1 SQ0).n = 0 + szF t.f := i6
    have e7 := i7 (by decide)
    rw [i1, e6]
    omega
end Go.Proofs.Ytpfbpgbgedbalaa
