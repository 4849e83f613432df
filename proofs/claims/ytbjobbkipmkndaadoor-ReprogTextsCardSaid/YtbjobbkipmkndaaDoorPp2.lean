/- RtValid, RtVal. -/
import Derived.Test.YtbjobbkipmkndaaDoorPp1
set_option linter.unusedVariables false
namespace Go.Proofs.YtbjobbkipmkndaaDoor
open Go.RowKit
def clB (c : List Bool) (g : Int) : Bool := decide (1 ≤ g) && (decide (g ≤ (c.length : Int)) && c.getD (g - 1).toNat false)
def okN (o : Int) (s : Nat → Bool) (l h g : Int) (n : Nat) (c : List Bool) : Bool :=
  fldT o s l h g n && ((!decide (o = 5) || bndT l h) && ((!decide (o = 9) || clB c g) && (!decide (o = 6) || decide (g = (c.length : Int) + 1))))
def vF : F → List Bool → Option (List Bool)
  | .nil, c => some c
  | .cons o s l h g a r, c =>
    if okN o s l h g a.len c = true then
      match vF a (if o = 6 then c ++ [false] else c) with
      | none => none
      | some d => vF r (if o = 6 then d.set c.length true else d)
    else none
def szF : F → Nat
  | .nil => 0
  | .cons _ _ _ _ _ a r => szF a + 1 + szF r
def lvlF : F → Nat
  | .nil => 0
  | .cons _ _ _ _ _ a r => max (lvlF a + 1) (lvlF r)
def bkF : F → Bool
  | .nil => false
  | .cons o _ _ _ _ a r => decide (o = 9) || (bkF a || bkF r)
def TN.f (t : TN) : F := .cons t.op t.st t.lo t.hi t.g t.args .nil
def Valid (t : TN) : Prop := ∃ c, vF t.f [] = some c ∧ c.length ≤ 9 ∧ szF t.f ≤ 600 ∧ lvlF t.f ≤ 32
structure SQ.Le (q q' : SQ) : Prop where
  n : q.n ≤ q'.n
  lv : q.lv ≤ q'.lv
  wt : q.wt = true → q'.wt = true
  wr : q.wr = true → q'.wr = true
  wn : q.wn = true → q'.wn = true
  st : q.st = true → q'.st = true
  cl : q.cl.length ≤ q'.cl.length
theorem SQ.Le.refl (q : SQ) : q.Le q := ⟨Nat.le_refl _, Nat.le_refl _, id, id, id, id, Nat.le_refl _⟩
theorem SQ.Le.trans {a b c : SQ} (h : a.Le b) (k : b.Le c) : a.Le c := ⟨Nat.le_trans h.n k.n, Nat.le_trans h.lv k.lv, fun x => k.wt (h.wt x), fun x => k.wr (h.wr x), fun x => k.wn (h.wn x), fun x => k.st (h.st x), Nat.le_trans h.cl k.cl⟩
theorem pre_le (o : Int) (s : Nat → Bool) (l h g : Int) (n lvl : Nat) (q : SQ) : q.Le (preQ o s l h g n lvl q) :=
  ⟨Nat.le_succ _, Nat.le_max_left _ _, fun x => by show (q.wt || _) = true; rw [x]; rfl, fun x => by show (q.wr || _) = true; rw [x]; rfl, fun x => by show (q.wn || _) = true; rw [x]; rfl, id, Nat.le_refl _⟩
theorem open_le (g : Int) (q : SQ) : q.Le (openQ g q) :=
  ⟨Nat.le_refl _, Nat.le_refl _, id, fun x => by show (q.wr || _) = true; rw [x]; rfl, id, id, by show _ ≤ (q.cl ++ [false]).length; simp⟩
theorem close_le (i : Nat) (q : SQ) : q.Le (closeQ i q) :=
  ⟨Nat.le_refl _, Nat.le_refl _, id, id, id, id, by show _ ≤ (q.cl.set i true).length; simp⟩
theorem st_le (q : SQ) : q.Le { q with st := true } := ⟨Nat.le_refl _, Nat.le_refl _, id, id, id, fun _ => rfl, Nat.le_refl _⟩
theorem walkF_le : ∀ (f : F) (lvl : Nat) (q : SQ), q.Le (walkF f lvl q)
  | .nil, _, q => .refl q
  | .cons o s l h g a r, lvl, q => by
    rw [walkF]
    refine .trans ?_ (walkF_le r lvl _)
    by_cases hs : stopB lvl q = true
    · rw [if_pos hs]
      exact st_le q
    · rw [if_neg hs]
      by_cases h6 : o = 6
      · rw [if_pos h6]
        exact (((pre_le o s l h g a.len lvl q).trans (open_le g _)).trans (walkF_le a (lvl + 1) _)).trans (close_le _ _)
      · rw [if_neg h6]
        exact (pre_le o s l h g a.len lvl q).trans (walkF_le a (lvl + 1) _)
structure SQ.Fine (q : SQ) : Prop where
  wt : q.wt = false
  wr : q.wr = false
  wn : q.wn = false
  n : q.n ≤ 600
  lv : q.lv ≤ 32
theorem SQ.Le.fine {q q' : SQ} (h : q.Le q') (k : q'.Fine) : q.Fine := by
  refine ⟨?_, ?_, ?_, Nat.le_trans h.n k.n, Nat.le_trans h.lv k.lv⟩
  · cases e : q.wt
    · rfl
    · have := h.wt e; rw [k.wt] at this; cases this
  · cases e : q.wr
    · rfl
    · have := h.wr e; rw [k.wr] at this; cases this
  · cases e : q.wn
    · rfl
    · have := h.wn e; rw [k.wn] at this; cases this
theorem okN_of {o : Int} {s : Nat → Bool} {l h g : Int} {n lvl : Nat} {q : SQ} (h1 : (preQ o s l h g n lvl q).Fine) (h2 : o = 6 → (openQ g (preQ o s l h g n lvl q)).Fine) : okN o s l h g n q.cl = true := by
  have a1 : (q.wt || !fldT o s l h g n) = false := h1.wt
  have a2 : (q.wr || (decide (o = 5) && !bndT l h)) = false := h1.wr
  have a3 : (q.wn || (decide (o = 9) && !q.closed g)) = false := h1.wn
  simp only [Bool.or_eq_false_iff] at a1 a2 a3
  unfold okN
  have b1 : fldT o s l h g n = true := by simpa using a1.2
  have b2 : (!decide (o = 5) || bndT l h) = true := by
    have := a2.2
    cases hh : decide (o = 5) <;> simp_all
  have b3 : (!decide (o = 9) || clB q.cl g) = true := by
    have := a3.2
    show (!decide (o = 9) || q.closed g) = true
    cases hh : decide (o = 9) <;> simp_all
  have b4 : (!decide (o = 6) || decide (g = (q.cl.length : Int) + 1)) = true := by
    by_cases h6 : o = 6
    · have := (h2 h6).wr
      have a4 : ((preQ o s l h g n lvl q).wr || !decide (g = (q.cl.length : Int) + 1)) = false := this
      simp only [Bool.or_eq_false_iff] at a4
      have := a4.2
      simp_all
    · simp [h6]
  rw [b1, b2, b3, b4]
  rfl
theorem walkF_fine : ∀ (f : F) (lvl : Nat) (q : SQ), q.st = false → lvl ≤ q.lv + 1 → (walkF f lvl q).Fine →
    vF f q.cl = some (walkF f lvl q).cl ∧ (walkF f lvl q).n = q.n + szF f ∧ (walkF f lvl q).lv = max q.lv (lvl + lvlF f - 1) ∧ (walkF f lvl q).st = false ∧ (walkF f lvl q).bk = (q.bk || bkF f)
  | .nil, lvl, q, hs, hl, hf => by
    refine ⟨rfl, rfl, ?_, hs, ?_⟩
    · show q.lv = max q.lv (lvl + 0 - 1); omega
    · show q.bk = (q.bk || false); simp
  | .cons o s l h g a r, lvl, q, hs, hl, hf => by
    have hq := (walkF_le (.cons o s l h g a r) lvl q).fine hf
    have hstop : ¬ stopB lvl q = true := by
      unfold stopB
      simp only [Bool.or_eq_true, decide_eq_true_eq, not_or]
      have := hq.n
      have := hq.lv
      exact ⟨by simp [hs], by omega, by omega⟩
    rw [walkF, if_neg hstop] at hf ⊢
    by_cases h6 : o = 6
    · rw [if_pos h6] at hf ⊢
      have f1 := (walkF_le r lvl _).fine hf
      have f2 := (close_le _ _).fine f1
      have f3 := (walkF_le a (lvl + 1) _).fine f2
      have f4 := (open_le _ _).fine f3
      have hok := okN_of f4 (fun _ => f3)
      obtain ⟨i1, i2, i3, i4, i5⟩ := walkF_fine a (lvl + 1) (openQ g (preQ o s l h g a.len lvl q)) hs (by show lvl + 1 ≤ max q.lv lvl + 1; omega) f2
      generalize walkF a (lvl + 1) (openQ g (preQ o s l h g a.len lvl q)) = qa at *
      obtain ⟨j1, j2, j3, j4, j5⟩ := walkF_fine r lvl (closeQ q.cl.length qa) i4 (by show lvl ≤ qa.lv + 1; rw [i3]; show lvl ≤ max (max q.lv lvl) _ + 1; omega) hf
      generalize walkF r lvl (closeQ q.cl.length qa) = qr at *
      refine ⟨?_, ?_, ?_, j4, ?_⟩
      · rw [vF, if_pos hok, if_pos h6]
        have i1' : vF a (q.cl ++ [false]) = some qa.cl := i1
        rw [i1']
        show vF r (if o = 6 then qa.cl.set q.cl.length true else qa.cl) = _
        rw [if_pos h6]
        exact j1
      · rw [j2]
        show qa.n + szF r = q.n + (szF a + 1 + szF r)
        rw [i2]
        show q.n + 1 + szF a + szF r = _
        omega
      · rw [j3]
        show max qa.lv _ = max q.lv (lvl + max (lvlF a + 1) (lvlF r) - 1)
        rw [i3]
        show max (max (max q.lv lvl) (lvl + 1 + lvlF a - 1)) (lvl + lvlF r - 1) = _
        omega
      · rw [j5]
        show (qa.bk || bkF r) = _
        rw [i5]
        show ((q.bk || decide (o = 9)) || bkF a || bkF r) = (q.bk || (decide (o = 9) || (bkF a || bkF r)))
        cases q.bk <;> cases decide (o = 9) <;> rfl
    · rw [if_neg h6] at hf ⊢
      have f1 := (walkF_le r lvl _).fine hf
      have f3 := (walkF_le a (lvl + 1) _).fine f1
      have hok := okN_of f3 (fun k => absurd k h6)
      obtain ⟨i1, i2, i3, i4, i5⟩ := walkF_fine a (lvl + 1) (preQ o s l h g a.len lvl q) hs (by show lvl + 1 ≤ max q.lv lvl + 1; omega) f1
      generalize walkF a (lvl + 1) (preQ o s l h g a.len lvl q) = qa at *
      obtain ⟨j1, j2, j3, j4, j5⟩ := walkF_fine r lvl qa i4 (by rw [i3]; show lvl ≤ max (max q.lv lvl) _ + 1; omega) hf
      generalize walkF r lvl qa = qr at *
      refine ⟨?_, ?_, ?_, j4, ?_⟩
      · rw [vF, if_pos hok, if_neg h6]
        have i1' : vF a q.cl = some qa.cl := i1
        rw [i1']
        show vF r (if o = 6 then qa.cl.set q.cl.length true else qa.cl) = _
        rw [if_neg h6]
        exact j1
      · rw [j2, i2]
        show q.n + 1 + szF a + szF r = q.n + (szF a + 1 + szF r)
        omega
      · rw [j3, i3]
        show max (max (max q.lv lvl) (lvl + 1 + lvlF a - 1)) (lvl + lvlF r - 1) = max q.lv (lvl + max (lvlF a + 1) (lvlF r) - 1)
        omega
      · rw [j5, i5]
        show ((q.bk || decide (o = 9)) || bkF a || bkF r) = (q.bk || (decide (o = 9) || (bkF a || bkF r)))
        cases q.bk <;> cases decide (o = 9) <;> rfl
theorem okN_pre {o : Int} {s : Nat → Bool} {l h g : Int} {n lvl : Nat} {q : SQ} (hk : okN o s l h g n q.cl = true) : (preQ o s l h g n lvl q).wt = q.wt ∧ (preQ o s l h g n lvl q).wr = q.wr ∧ (preQ o s l h g n lvl q).wn = q.wn ∧ (o = 6 → (openQ g (preQ o s l h g n lvl q)).wr = q.wr) := by
  unfold okN at hk
  simp only [Bool.and_eq_true] at hk
  obtain ⟨h1, h2, h3, h4⟩ := hk
  refine ⟨?_, ?_, ?_, fun h6 => ?_⟩
  · show (q.wt || !fldT o s l h g n) = q.wt; rw [h1]; simp
  · show (q.wr || (decide (o = 5) && !bndT l h)) = q.wr
    cases hh : decide (o = 5) <;> simp_all
  · show (q.wn || (decide (o = 9) && !q.closed g)) = q.wn
    have h3' : (!decide (o = 9) || q.closed g) = true := h3
    cases hh : decide (o = 9) <;> simp_all
  · show ((q.wr || (decide (o = 5) && !bndT l h)) || !decide (g = (q.cl.length : Int) + 1)) = q.wr
    subst h6
    simp_all
theorem walkF_right : ∀ (f : F) (lvl : Nat) (q : SQ) (c : List Bool), q.st = false → vF f q.cl = some c → q.n + szF f ≤ 600 → lvl + lvlF f ≤ 33 →
    (walkF f lvl q).cl = c ∧ (walkF f lvl q).wt = q.wt ∧ (walkF f lvl q).wr = q.wr ∧ (walkF f lvl q).wn = q.wn ∧ (walkF f lvl q).st = false ∧ (walkF f lvl q).n = q.n + szF f ∧ (q.lv ≤ 32 → (walkF f lvl q).lv ≤ 32)
  | .nil, lvl, q, c, hs, hv, hn, hl => ⟨Option.some.inj hv, rfl, rfl, rfl, hs, rfl, id⟩
  | .cons o s l h g a r, lvl, q, c, hs, hv, hn, hl => by
    have hn' : q.n + (szF a + 1 + szF r) ≤ 600 := hn
    have hl' : lvl + max (lvlF a + 1) (lvlF r) ≤ 33 := hl
    have hstop : ¬ stopB lvl q = true := by
      unfold stopB
      simp only [Bool.or_eq_true, decide_eq_true_eq, not_or]
      exact ⟨by simp [hs], by omega, by omega⟩
    rw [vF] at hv
    by_cases hok : okN o s l h g a.len q.cl = true
    case neg => rw [if_neg hok] at hv; cases hv
    rw [if_pos hok] at hv
    have hp := okN_pre (lvl := lvl) hok
    rw [walkF, if_neg hstop]
    by_cases h6 : o = 6
    · rw [if_pos h6] at hv ⊢
      cases hva : vF a (q.cl ++ [false]) with
      | none => rw [hva] at hv; cases hv
      | some d =>
        rw [hva] at hv
        replace hv : vF r (if o = 6 then d.set q.cl.length true else d) = some c := hv
        rw [if_pos h6] at hv
        obtain ⟨i1, i2, i3, i4, i5, i6, i7⟩ := walkF_right a (lvl + 1) (openQ g (preQ o s l h g a.len lvl q)) d hs hva (by show q.n + 1 + szF a ≤ 600; omega) (by omega)
        generalize walkF a (lvl + 1) (openQ g (preQ o s l h g a.len lvl q)) = qa at *
        have i6' : qa.n = q.n + 1 + szF a := i6
        obtain ⟨j1, j2, j3, j4, j5, j6, j7⟩ := walkF_right r lvl (closeQ q.cl.length qa) c i5 (by show vF r (qa.cl.set _ true) = _; rw [i1]; exact hv) (by show qa.n + _ ≤ 600; omega) (by omega)
        refine ⟨j1, j2.trans (i2.trans hp.1), j3.trans (i3.trans (hp.2.2.2 h6)), j4.trans (i4.trans hp.2.2.1), j5, ?_, fun k => j7 (i7 ?_)⟩
        · rw [j6]
          show qa.n + szF r = q.n + (szF a + 1 + szF r)
          omega
        · show max q.lv lvl ≤ 32; omega
    · rw [if_neg h6] at hv ⊢
      cases hva : vF a q.cl with
      | none => rw [hva] at hv; cases hv
      | some d =>
        rw [hva] at hv
        replace hv : vF r (if o = 6 then d.set q.cl.length true else d) = some c := hv
        rw [if_neg h6] at hv
        obtain ⟨i1, i2, i3, i4, i5, i6, i7⟩ := walkF_right a (lvl + 1) (preQ o s l h g a.len lvl q) d hs hva (by show q.n + 1 + szF a ≤ 600; omega) (by omega)
        generalize walkF a (lvl + 1) (preQ o s l h g a.len lvl q) = qa at *
        have i6' : qa.n = q.n + 1 + szF a := i6
        obtain ⟨j1, j2, j3, j4, j5, j6, j7⟩ := walkF_right r lvl qa c i5 (by rw [i1]; exact hv) (by omega) (by omega)
        refine ⟨j1, j2.trans (i2.trans hp.1), j3.trans (i3.trans hp.2.1), j4.trans (i4.trans hp.2.2.1), j5, ?_, fun k => j7 (i7 ?_)⟩
        · rw [j6]
          show qa.n + szF r = q.n + (szF a + 1 + szF r)
          omega
        · show max q.lv lvl ≤ 32; omega
theorem checkT_iff (t : TN) : checkT t = 0 ↔ Valid t := by
  constructor
  · intro h
    have hw : survT t = walkF t.f 1 SQ0 := rfl
    unfold checkT errQ at h
    rw [hw] at h
    generalize hq : walkF t.f 1 SQ0 = q at h
    by_cases h1 : q.wt = true
    · rw [if_pos h1] at h; cases h
    rw [if_neg h1] at h
    by_cases h2 : q.wr = true
    · rw [if_pos h2] at h; cases h
    rw [if_neg h2] at h
    by_cases h3 : q.wn = true
    · rw [if_pos h3] at h; cases h
    rw [if_neg h3] at h
    by_cases h4 : 600 < q.n ∨ 9 < q.cl.length ∨ 32 < q.lv
    · rw [if_pos h4] at h; cases h
    have hf : (walkF t.f 1 SQ0).Fine := by rw [hq]; exact ⟨by simpa using h1, by simpa using h2, by simpa using h3, by omega, by omega⟩
    obtain ⟨i1, i2, i3, i4, i5⟩ := walkF_fine t.f 1 SQ0 rfl (by decide) hf
    rw [hq] at i1 i2 i3
    refine ⟨q.cl, i1, by omega, ?_, ?_⟩
    · have : q.n = 0 + szF t.f := i2
      omega
    · have : q.lv = max 0 (1 + lvlF t.f - 1) := i3
      omega
  · rintro ⟨c, h1, h2, h3, h4⟩
    obtain ⟨i1, i2, i3, i4, i5, i6, i7⟩ := walkF_right t.f 1 SQ0 c rfl h1 (by show 0 + _ ≤ _; omega) (by omega)
    have hw : survT t = walkF t.f 1 SQ0 := rfl
    unfold checkT errQ
    rw [hw, if_neg (by rw [i2]; simp [SQ0]), if_neg (by rw [i3]; simp [SQ0]), if_neg (by rw [i4]; simp [SQ0]), if_neg]
    have e6 : (walkF t.f 1 SQ0).n = 0 + szF t.f := i6
    have e7 := i7 (by decide)
    rw [i1, e6]
    omega
end Go.Proofs.YtbjobbkipmkndaaDoor
set_option linter.unusedVariables false
namespace Go.Proofs.YtbjobbkipmkndaaDoor
open Go.RowKit
section
variable {T : Type}
def upG (G : Nat → List T) (g : Nat) (ps : List T) : Nat → List T := fun k => if k = g then ps else G k
def valF (R : TN → List T → T) : F → (Nat → List T) → List T × (Nat → List T)
  | .nil, G => ([], G)
  | .cons o s l h g a r, G =>
    if o = 9 then (R ⟨o, s, l, h, g, a⟩ (G g.toNat) :: (valF R r G).1, (valF R r G).2)
    else (R ⟨o, s, l, h, g, a⟩ (valF R a G).1 :: (valF R r (if o = 6 then upG (valF R a G).2 g.toNat (valF R a G).1 else (valF R a G).2)).1, (valF R r (if o = 6 then upG (valF R a G).2 g.toNat (valF R a G).1 else (valF R a G).2)).2)
def valN (R : TN → List T → T) (t : TN) (G : Nat → List T) : T × (Nat → List T) :=
  if t.op = 9 then (R t (G t.g.toNat), G) else (R t (valF R t.args G).1, if t.op = 6 then upG (valF R t.args G).2 t.g.toNat (valF R t.args G).1 else (valF R t.args G).2)
theorem valF_cons (R : TN → List T → T) (o : Int) (s : Nat → Bool) (l h g : Int) (a r : F) (G : Nat → List T) :
    valF R (.cons o s l h g a r) G = ((valN R ⟨o, s, l, h, g, a⟩ G).1 :: (valF R r (valN R ⟨o, s, l, h, g, a⟩ G).2).1, (valF R r (valN R ⟨o, s, l, h, g, a⟩ G).2).2) := by
  rw [valF, valN]
  by_cases h9 : o = 9
  · rw [if_pos h9, if_pos h9]
  · rw [if_neg h9, if_neg h9]
theorem valF_len (R : TN → List T → T) : ∀ (f : F) (G : Nat → List T), (valF R f G).1.length = f.len
  | .nil, _ => rfl
  | .cons o s l h g a r, G => by
    rw [valF_cons]
    show (valF R r _).1.length + 1 = r.len + 1
    rw [valF_len R r]
def G0 : Nat → List T := fun _ => []
def valT (R : TN → List T → T) (t : TN) : T := (valN R t G0).1
structure PN (I : T → Prop) (t : TN) (ps : List T) : Prop where
  rep : t.op = 5 → ps.length = 1 ∧ 0 ≤ t.lo ∧ t.lo ≤ 64 ∧ (t.hi = -1 ∨ (t.lo ≤ t.hi ∧ t.hi ≤ 64))
  one : t.op = 6 ∨ t.op = 9 → ps.length = 1
  two : t.op = 3 ∨ t.op = 4 → 2 ≤ ps.length
  inv : ∀ x, x ∈ ps → I x
  len : ps.length ≤ 600
def preF (I : T → Prop) (R : TN → List T → T) : F → (Nat → List T) → Prop
  | .nil, _ => True
  | .cons o s l h g a r, G =>
    (o = 6 ∨ o = 9 → 1 ≤ g ∧ g ≤ 9) ∧ (if o = 9 then PN I ⟨o, s, l, h, g, a⟩ (G g.toNat) ∧ preF I R r G
      else preF I R a G ∧ PN I ⟨o, s, l, h, g, a⟩ (valF R a G).1 ∧ preF I R r (if o = 6 then upG (valF R a G).2 g.toNat (valF R a G).1 else (valF R a G).2))
def preN (I : T → Prop) (R : TN → List T → T) (t : TN) (G : Nat → List T) : Prop :=
  (t.op = 6 ∨ t.op = 9 → 1 ≤ t.g ∧ t.g ≤ 9) ∧ (if t.op = 9 then PN I t (G t.g.toNat) else preF I R t.args G ∧ PN I t (valF R t.args G).1)
theorem preF_cons (I : T → Prop) (R : TN → List T → T) (o : Int) (s : Nat → Bool) (l h g : Int) (a r : F) (G : Nat → List T) :
    preF I R (.cons o s l h g a r) G ↔ preN I R ⟨o, s, l, h, g, a⟩ G ∧ preF I R r (valN R ⟨o, s, l, h, g, a⟩ G).2 := by
  rw [preF, preN, valN]
  by_cases h9 : o = 9
  · simp only [if_pos h9, and_assoc]
  · simp only [if_neg h9, and_assoc]
def GOk (I : T → Prop) (c : List Bool) (G : Nat → List T) : Prop :=
  (∀ k, c.getD k false = true → (G (k + 1)).length = 1) ∧ ∀ k x, x ∈ G k → I x
theorem havT_5 {n : Nat} (h : havT 5 n = true) : n = 1 := by simpa [havT] using h
theorem havT_6 {n : Nat} (h : havT 6 n = true) : n = 1 := by simpa [havT] using h
theorem havT_3 {n : Nat} (h : havT 3 n = true) : 2 ≤ n := by simpa [havT] using h
theorem havT_4 {n : Nat} (h : havT 4 n = true) : 2 ≤ n := by simpa [havT] using h
theorem vF_grow : ∀ (f : F) (c d : List Bool), vF f c = some d → c.length ≤ d.length ∧ ∀ k, c.getD k false = true → d.getD k false = true
  | .nil, c, d, h => by obtain rfl := Option.some.inj h; exact ⟨Nat.le_refl _, fun _ => id⟩
  | .cons o s l hh g a r, c, d, h => by
    rw [vF] at h
    by_cases hok : okN o s l hh g a.len c = true
    case neg => rw [if_neg hok] at h; cases h
    rw [if_pos hok] at h
    cases hva : vF a (if o = 6 then c ++ [false] else c) with
    | none => rw [hva] at h; cases h
    | some e =>
      rw [hva] at h
      replace h : vF r (if o = 6 then e.set c.length true else e) = some d := h
      have i := vF_grow a _ _ hva
      have j := vF_grow r _ _ h
      by_cases h6 : o = 6
      · rw [if_pos h6] at i j
        simp only [List.length_append, List.length_set, List.length_cons, List.length_nil] at i j
        refine ⟨by omega, fun k hk => j.2 k ?_⟩
        have hkl : k < c.length := by
          refine Decidable.byContradiction fun hn => ?_
          rw [List.getD, List.getElem?_eq_none (by omega)] at hk
          cases hk
        have := i.2 k (by rw [List.getD, List.getElem?_append_left hkl]; exact hk)
        rw [List.getD, List.getElem?_set_ne (by omega)]
        exact this
      · rw [if_neg h6] at i j
        exact ⟨by omega, fun k hk => j.2 k (i.2 k hk)⟩
theorem len_sz : ∀ f : F, f.len ≤ szF f
  | .nil => Nat.le_refl _
  | .cons o s l h g a r => by
    have := len_sz r
    show r.len + 1 ≤ szF a + 1 + szF r
    omega
theorem okN_parts {o : Int} {s : Nat → Bool} {l h g : Int} {n : Nat} {c : List Bool} (hk : okN o s l h g n c = true) :
    fldT o s l h g n = true ∧ (o = 5 → bndT l h = true) ∧ (o = 9 → clB c g = true) ∧ (o = 6 → g = (c.length : Int) + 1) := by
  unfold okN at hk
  simp only [Bool.and_eq_true] at hk
  obtain ⟨h1, h2, h3, h4⟩ := hk
  refine ⟨h1, fun e => ?_, fun e => ?_, fun e => ?_⟩
  · subst e; simpa using h2
  · subst e; simpa using h3
  · subst e; simpa using h4
theorem clB_of {c : List Bool} {g : Int} (h : clB c g = true) : 1 ≤ g ∧ g ≤ (c.length : Int) ∧ c.getD (g.toNat - 1) false = true := by
  unfold clB at h
  simp only [Bool.and_eq_true, decide_eq_true_eq] at h
  have e : (g - 1).toNat = g.toNat - 1 := by omega
  rw [e] at h
  exact ⟨h.1, h.2.1, h.2.2⟩
theorem bnd_of {l h : Int} (hb : bndT l h = true) : 0 ≤ l ∧ l ≤ 64 ∧ (h = -1 ∨ (l ≤ h ∧ h ≤ 64)) := by
  unfold bndT at hb
  simp only [Bool.and_eq_true, Bool.or_eq_true, decide_eq_true_eq] at hb
  exact hb
theorem GOk.set {I : T → Prop} {e c : List Bool} {G : Nat → List T} {ps : List T} (h : GOk I e G) (hl : ps.length = 1) (hi : ∀ x, x ∈ ps → I x) (i : Nat) : GOk I (e.set i true) (upG G (i + 1) ps) := by
  constructor
  · intro k hk
    unfold upG
    by_cases hki : k = i
    · subst hki; rw [if_pos rfl]; exact hl
    · rw [if_neg (by omega)]
      refine h.1 k ?_
      rw [List.getD, List.getElem?_set_ne (by omega)] at hk
      exact hk
  · intro k x hx
    unfold upG at hx
    split at hx
    · exact hi x hx
    · exact h.2 k x hx
theorem preF_of {I : T → Prop} {R : TN → List T → T} (hR : ∀ t ps, PN I t ps → I (R t ps)) : ∀ (f : F) (c d : List Bool) (G : Nat → List T), vF f c = some d → d.length ≤ 9 → szF f ≤ 600 → GOk I c G →
    preF I R f G ∧ GOk I d (valF R f G).2 ∧ ∀ x, x ∈ (valF R f G).1 → I x
  | .nil, c, d, G, h, _, _, hG => by
    obtain rfl := Option.some.inj h
    exact ⟨trivial, hG, fun x hx => by cases hx⟩
  | .cons o s l hh g a r, c, d, G, h, h9, hz, hG => by
    have hz' : szF a + 1 + szF r ≤ 600 := hz
    rw [vF] at h
    by_cases hok : okN o s l hh g a.len c = true
    case neg => rw [if_neg hok] at h; cases h
    rw [if_pos hok] at h
    have hp := okN_parts hok
    have hhav : havT o a.len = true := by have := hp.1; unfold fldT at this; simp only [Bool.and_eq_true] at this; exact this.1
    cases hva : vF a (if o = 6 then c ++ [false] else c) with
    | none => rw [hva] at h; cases h
    | some e =>
      rw [hva] at h
      replace h : vF r (if o = 6 then e.set c.length true else e) = some d := h
      have gr := vF_grow r _ _ h
      have ga := vF_grow a _ _ hva
      rw [preF, valF]
      by_cases o9 : o = 9
      · subst o9
        have hl0 : a.len = 0 := by simpa [havT] using hhav
        have ha : a = .nil := by cases a with
          | nil => rfl
          | cons _ _ _ _ _ _ _ => cases hl0
        subst ha
        rw [if_neg (by decide)] at hva h
        obtain rfl : c = e := Option.some.inj hva
        obtain ⟨g1, g2, g3⟩ := clB_of (hp.2.2.1 rfl)
        have gl : (c.length : Int) ≤ 9 := by have := gr.1; rw [if_neg (by decide)] at this; omega
        have gn : g.toNat - 1 + 1 = g.toNat := by omega
        have hP : PN I ⟨9, s, l, hh, g, .nil⟩ (G g.toNat) := by
          have hone := hG.1 _ g3
          rw [gn] at hone
          exact ⟨fun k => absurd (show (9 : Int) = 5 from k) (by omega), fun _ => hone, fun k => k.elim (fun k => absurd (show (9 : Int) = 3 from k) (by omega)) (fun k => absurd (show (9 : Int) = 4 from k) (by omega)), fun x hx => hG.2 _ x hx, by omega⟩
        obtain ⟨j1, j2, j3⟩ := preF_of hR r c d G h h9 (by omega) hG
        rw [if_pos rfl, if_pos rfl]
        refine ⟨⟨fun _ => ⟨g1, by omega⟩, hP, j1⟩, j2, fun x hx => ?_⟩
        rcases List.mem_cons.1 hx with rfl | hx
        · exact hR _ _ hP
        · exact j3 x hx
      · have hGa : GOk I (if o = 6 then c ++ [false] else c) G := by
          by_cases h6 : o = 6
          · rw [if_pos h6]
            refine ⟨fun k hk => hG.1 k ?_, hG.2⟩
            by_cases hkl : k < c.length
            · rw [List.getD, List.getElem?_append_left hkl] at hk
              exact hk
            · rw [List.getD, List.getElem?_append_right (by omega)] at hk
              by_cases h0 : k - c.length = 0
              · rw [h0] at hk; cases hk
              · rw [List.getElem?_eq_none (by simp; omega)] at hk; cases hk
          · rw [if_neg h6]; exact hG
        have hel : e.length ≤ 9 := by
          have := gr.1
          by_cases h6 : o = 6
          · rw [if_pos h6, List.length_set] at this; omega
          · rw [if_neg h6] at this; omega
        obtain ⟨i1, i2, i3⟩ := preF_of hR a _ e G hva hel (by omega) hGa
        have hlen := valF_len R a G
        have has := len_sz a
        have hP : PN I ⟨o, s, l, hh, g, a⟩ (valF R a G).1 := by
          refine ⟨fun k => ?_, fun k => ?_, fun k => ?_, i3, by omega⟩
          · have k : o = 5 := k
            subst k
            have := havT_5 hhav
            exact ⟨by omega, bnd_of (hp.2.1 rfl)⟩
          · rcases k with k | k
            · have k : o = 6 := k
              subst k
              have := havT_6 hhav
              omega
            · exact absurd k o9
          · rcases k with k | k
            · have k : o = 3 := k
              subst k
              have := havT_3 hhav
              omega
            · have k : o = 4 := k
              subst k
              have := havT_4 hhav
              omega
        rw [if_neg o9, if_neg o9]
        by_cases h6 : o = 6
        · have hg := hp.2.2.2 h6
          have hgn : g.toNat = c.length + 1 := by omega
          rw [if_pos h6] at h gr hva ga ⊢
          rw [List.length_set] at gr
          rw [List.length_append] at ga
          have ga1 : c.length + 1 ≤ e.length := ga.1
          have hGr : GOk I (e.set c.length true) (upG (valF R a G).2 g.toNat (valF R a G).1) := by
            rw [hgn]
            exact GOk.set (c := c) i2 (hP.one (.inl h6)) i3 c.length
          obtain ⟨j1, j2, j3⟩ := preF_of hR r _ d _ h h9 (by omega) hGr
          refine ⟨⟨fun _ => by omega, i1, hP, j1⟩, j2, fun x hx => ?_⟩
          rcases List.mem_cons.1 hx with rfl | hx
          · exact hR _ _ hP
          · exact j3 x hx
        · rw [if_neg h6] at h gr hva ga ⊢
          obtain ⟨j1, j2, j3⟩ := preF_of hR r _ d _ h h9 (by omega) i2
          refine ⟨⟨fun k => ?_, i1, hP, j1⟩, j2, fun x hx => ?_⟩
          · rcases k with k | k
            · exact absurd k h6
            · exact absurd k o9
          rcases List.mem_cons.1 hx with rfl | hx
          · exact hR _ _ hP
          · exact j3 x hx
theorem preN_of {I : T → Prop} {R : TN → List T → T} (hR : ∀ t ps, PN I t ps → I (R t ps)) (t : TN) (h : Valid t) : preN I R t G0 ∧ I (valT R t) := by
  obtain ⟨c, h1, h2, h3, h4⟩ := h
  obtain ⟨j1, j2, j3⟩ := preF_of hR t.f [] c G0 h1 h2 h3 ⟨fun k hk => by simp at hk, fun k x hx => by cases hx⟩
  unfold TN.f at j1 j3
  rw [preF_cons] at j1
  rw [valF_cons] at j3
  exact ⟨j1.1, j3 _ (List.mem_cons_self ..)⟩
end
end Go.Proofs.YtbjobbkipmkndaaDoor
