/- Trees of regular expressions: what the program's survey finds, in plain mathematics. -/
import Derived.Test.YtpfbpgbgedbalaaRtTree
import Derived.Test.YtpfbpgbgedbalaaRtEq
set_option linter.unusedVariables false
namespace Go.Proofs.Ytpfbpgbgedbalaa
open Go.RowKit

/-- What a walk through a tree has found so far. -/
structure SQ where
  n : Nat
  lv : Nat
  bk : Bool
  cl : List Bool
  wt : Bool
  wr : Bool
  wn : Bool
  st : Bool
def SQ0 : SQ := ⟨0, 0, false, [], false, false, false, false⟩
/-- Can a node with this operator have so many Args? -/
def havT (o : Int) (n : Nat) : Bool :=
  if o = 1 ∨ o = 2 ∨ o = 7 ∨ o = 8 ∨ o = 9 then decide (n = 0) else if o = 5 ∨ o = 6 then decide (n = 1) else if o = 3 ∨ o = 4 then decide (2 ≤ n) else false
/-- Has a node the fields of its operator, and no others? -/
def fldT (o : Int) (s : Nat → Bool) (l h g : Int) (n : Nat) : Bool :=
  havT o n && (((!eqc s noSet) == decide (o = 2)) && ((decide (o = 5) || (decide (l = 0) && decide (h = 0))) && ((decide (o = 6) || decide (o = 9)) || decide (g = 0))))
/-- Are the bounds of a repetition in the range? -/
def bndT (l h : Int) : Bool := decide (0 ≤ l) && (decide (l ≤ 64) && (decide (h = -1) || (decide (l ≤ h) && decide (h ≤ 64))))
def SQ.closed (q : SQ) (g : Int) : Bool := decide (1 ≤ g) && (decide (g ≤ (q.cl.length : Int)) && q.cl.getD (g - 1).toNat false)
/-- Is the walk beyond its bounds here? -/
def stopB (lvl : Nat) (q : SQ) : Bool := q.st || (decide (65536 < lvl) || decide (q.n = 2147483647))
/-- What a node itself adds. -/
def preQ (o : Int) (s : Nat → Bool) (l h g : Int) (n : Nat) (lvl : Nat) (q : SQ) : SQ :=
  { q with n := q.n + 1, lv := max q.lv lvl, bk := q.bk || decide (o = 9), wt := q.wt || !fldT o s l h g n, wr := q.wr || (decide (o = 5) && !bndT l h), wn := q.wn || (decide (o = 9) && !q.closed g) }
def openQ (g : Int) (q : SQ) : SQ := { q with wr := q.wr || !decide (g = (q.cl.length : Int) + 1), cl := q.cl ++ [false] }
def closeQ (i : Nat) (q : SQ) : SQ := { q with cl := q.cl.set i true }
/-- The walk through trees that stand on a level. -/
def walkF : F → Nat → SQ → SQ
  | .nil, _, q => q
  | .cons o s l h g a r, lvl, q =>
    walkF r lvl (if stopB lvl q = true then { q with st := true } else
      if o = 6 then closeQ q.cl.length (walkF a (lvl + 1) (openQ g (preQ o s l h g a.len lvl q))) else walkF a (lvl + 1) (preQ o s l h g a.len lvl q))
/-- The walk through one tree. -/
def walkT (t : TN) (lvl : Nat) (q : SQ) : SQ :=
  if stopB lvl q = true then { q with st := true } else
    if t.op = 6 then closeQ q.cl.length (walkF t.args (lvl + 1) (openQ t.g (preQ t.op t.st t.lo t.hi t.g t.args.len lvl q))) else walkF t.args (lvl + 1) (preQ t.op t.st t.lo t.hi t.g t.args.len lvl q)
theorem walkF_cons (o : Int) (s : Nat → Bool) (l h g : Int) (a r : F) (lvl : Nat) (q : SQ) : walkF (.cons o s l h g a r) lvl q = walkF r lvl (walkT ⟨o, s, l, h, g, a⟩ lvl q) := rfl
def survT (t : TN) : SQ := walkT t 1 SQ0
/-- Check. -/
def errQ (q : SQ) : Int := if q.wt then 7 else if q.wr then 2 else if q.wn then 4 else if 600 < q.n ∨ 9 < q.cl.length ∨ 32 < q.lv then 3 else 0
def checkT (t : TN) : Int := errQ (survT t)
/-- The bounds that a walk keeps. -/
def SQ.Ok (q : SQ) : Prop := q.n ≤ 2147483647 ∧ q.lv ≤ 65536 ∧ q.cl.length ≤ q.n
theorem stop_or {lvl : Nat} {q : SQ} (hq : q.Ok) (h : ¬ stopB lvl q = true) : q.n < 2147483647 ∧ lvl ≤ 65536 ∧ q.st = false := by
  unfold stopB at h
  simp only [Bool.or_eq_true, decide_eq_true_eq, not_or] at h
  have := hq.1
  exact ⟨by omega, by omega, by simpa using h.1⟩
theorem pre_ok {o : Int} {s : Nat → Bool} {l h g : Int} {n lvl : Nat} {q : SQ} (hq : q.Ok) (hn : q.n < 2147483647) (hl : lvl ≤ 65536) : (preQ o s l h g n lvl q).Ok := by
  obtain ⟨h1, h2, h3⟩ := hq
  refine ⟨?_, ?_, ?_⟩
  · show q.n + 1 ≤ _; omega
  · show max q.lv lvl ≤ _; omega
  · show q.cl.length ≤ q.n + 1; omega
theorem open_ok {o : Int} {s : Nat → Bool} {l h g : Int} {n lvl : Nat} {q : SQ} (hq : q.Ok) (hn : q.n < 2147483647) (hl : lvl ≤ 65536) : (openQ g (preQ o s l h g n lvl q)).Ok := by
  obtain ⟨h1, h2, h3⟩ := hq
  refine ⟨?_, ?_, ?_⟩
  · show q.n + 1 ≤ _; omega
  · show max q.lv lvl ≤ _; omega
  · show (q.cl ++ [false]).length ≤ q.n + 1; rw [List.length_append]; show q.cl.length + 1 ≤ _; omega
theorem close_ok {i : Nat} {q : SQ} (hq : q.Ok) : (closeQ i q).Ok := ⟨hq.1, hq.2.1, by show (q.cl.set i true).length ≤ q.n; rw [List.length_set]; exact hq.2.2⟩
theorem walkF_ok : ∀ (f : F) (lvl : Nat) (q : SQ), q.Ok → (walkF f lvl q).Ok ∧ q.cl.length ≤ (walkF f lvl q).cl.length
  | .nil, _, q, hq => ⟨hq, Nat.le_refl _⟩
  | .cons o s l h g a r, lvl, q, hq => by
    rw [walkF]
    by_cases hs : stopB lvl q = true
    · rw [if_pos hs]
      exact walkF_ok r lvl { q with st := true } hq
    · rw [if_neg hs]
      have hb := stop_or hq hs
      by_cases h6 : o = 6
      · rw [if_pos h6]
        have h1 := walkF_ok a (lvl + 1) _ (open_ok (o := o) (s := s) (l := l) (h := h) (g := g) (n := a.len) (lvl := lvl) hq hb.1 hb.2.1)
        have h2 := walkF_ok r lvl _ (close_ok (i := q.cl.length) h1.1)
        refine ⟨h2.1, Nat.le_trans ?_ h2.2⟩
        have : (openQ g (preQ o s l h g a.len lvl q)).cl.length = q.cl.length + 1 := by show (q.cl ++ [false]).length = _; simp
        show q.cl.length ≤ (List.set _ _ _).length
        rw [List.length_set]
        have := h1.2
        omega
      · rw [if_neg h6]
        have h1 := walkF_ok a (lvl + 1) _ (pre_ok (o := o) (s := s) (l := l) (h := h) (g := g) (n := a.len) (lvl := lvl) hq hb.1 hb.2.1)
        have h2 := walkF_ok r lvl _ h1.1
        exact ⟨h2.1, Nat.le_trans h1.2 h2.2⟩
theorem walkT_ok (t : TN) (lvl : Nat) (q : SQ) (hq : q.Ok) : (walkT t lvl q).Ok := by
  have := (walkF_ok (.cons t.op t.st t.lo t.hi t.g t.args .nil) lvl q hq).1
  exact this
theorem surv_ok (t : TN) : (survT t).Ok := walkT_ok t 1 SQ0 ⟨by decide, by decide, by decide⟩
end Go.Proofs.Ytpfbpgbgedbalaa
