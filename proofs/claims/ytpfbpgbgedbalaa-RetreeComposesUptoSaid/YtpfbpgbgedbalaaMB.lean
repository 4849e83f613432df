/- Several texts in one (a claim has at most 60 files). -/
import Derived.Test.YtpfbpgbgedbalaaRtVal
import Derived.Test.YtpfbpgbgedbalaaRtD
import Derived.Test.YtpfbpgbgedbalaaRtFrame
/- What the reference's Check asks of a tree, in plain mathematics. -/
set_option linter.unusedVariables false
namespace Go.Proofs.Ytpfbpgbgedbalaa
open Go.RowKit

def typF : F → Bool
  | .nil => true
  | .cons o s l h g a r => fldT o s l h g a.len && (typF a && typF r)
/-- The number of groups before and in trees, if bounds and numbers are right. -/
def rngF : F → Nat → Option Nat
  | .nil, n => some n
  | .cons o s l h g a r, n =>
    if o = 5 ∧ bndT l h = false then none
    else if o = 6 ∧ ¬ g = (n : Int) + 1 then none
    else match rngF a (if o = 6 then n + 1 else n) with
      | none => none
      | some m => rngF r m
/-- The groups that are closed before the end, if references are right. -/
def nmdF : F → List Int → Option (List Int)
  | .nil, c => some c
  | .cons o s l h g a r, c =>
    if o = 9 ∧ c.contains g = false then none
    else match nmdF a c with
      | none => none
      | some d => nmdF r (if o = 6 then d ++ [g] else d)
def grF : F → Nat
  | .nil => 0
  | .cons o _ _ _ _ a r => (if o = 6 then 1 else 0) + (grF a + grF r)
def rngN (o l h g : Int) (a : F) (n : Nat) : Option Nat :=
  if o = 5 ∧ bndT l h = false then none else if o = 6 ∧ ¬ g = (n : Int) + 1 then none else rngF a (if o = 6 then n + 1 else n)
def nmdN (o g : Int) (a : F) (c : List Int) : Option (List Int) :=
  if o = 9 ∧ c.contains g = false then none else match nmdF a c with
    | none => none
    | some d => some (if o = 6 then d ++ [g] else d)
theorem rngF_cons (o l h g : Int) (s : Nat → Bool) (a r : F) (n : Nat) : rngF (.cons o s l h g a r) n = match rngN o l h g a n with | none => none | some m => rngF r m := by
  rw [rngF, rngN]
  split
  · rfl
  · split
    · rfl
    · rfl
theorem nmdF_cons (o l h g : Int) (s : Nat → Bool) (a r : F) (c : List Int) : nmdF (.cons o s l h g a r) c = match nmdN o g a c with | none => none | some d => nmdF r d := by
  rw [nmdF, nmdN]
  split
  · rfl
  · cases nmdF a c <;> rfl
theorem rngF_gr : ∀ (f : F) (n m : Nat), rngF f n = some m → m = n + grF f
  | .nil, n, m, h => by obtain rfl := Option.some.inj h; rfl
  | .cons o s l hh g a r, n, m, h => by
    rw [rngF_cons] at h
    cases hk : rngN o l hh g a n with
    | none => rw [hk] at h; cases h
    | some k =>
      rw [hk] at h
      have j := rngF_gr r k m h
      unfold rngN at hk
      split at hk
      · cases hk
      · split at hk
        · cases hk
        · have i := rngF_gr a _ k hk
          show m = n + ((if o = 6 then 1 else 0) + (grF a + grF r))
          split at i <;> simp_all <;> omega
/-- The same groups are closed. -/
def Rel (c : List Bool) (L : List Int) : Prop := ∀ g, L.contains g = clB c g
theorem clB_app (c : List Bool) (g : Int) : clB (c ++ [false]) g = clB c g := by
  unfold clB
  by_cases h1 : 1 ≤ g
  · by_cases h2 : g ≤ (c.length : Int)
    · have h3 : g ≤ ((c ++ [false]).length : Int) := by simp; omega
      rw [decide_eq_true h1, decide_eq_true h2, decide_eq_true h3, List.getD, List.getD, List.getElem?_append_left (by omega)]
    · rw [decide_eq_false h2]
      by_cases h3 : g ≤ ((c ++ [false]).length : Int)
      · have : (g - 1).toNat = c.length := by simp at h3; omega
        rw [List.getD, this, List.getElem?_append_right (Nat.le_refl _), Nat.sub_self]
        simp
      · rw [decide_eq_false h3, Bool.false_and, Bool.false_and]
  · rw [decide_eq_false h1]; rfl
theorem Rel.app {c : List Bool} {L : List Int} (h : Rel c L) : Rel (c ++ [false]) L := fun g => (h g).trans (clB_app c g).symm
theorem clB_set (e : List Bool) (k : Nat) (hk : k < e.length) (g : Int) : clB (e.set k true) g = (clB e g || decide (g = (k : Int) + 1)) := by
  unfold clB
  rw [List.length_set]
  by_cases h1 : 1 ≤ g
  · by_cases h2 : g ≤ (e.length : Int)
    · rw [decide_eq_true h1, decide_eq_true h2, List.getD, List.getD, List.getElem?_set]
      by_cases h3 : k = (g - 1).toNat
      · rw [if_pos h3, if_pos hk, decide_eq_true (show g = (k : Int) + 1 by omega)]
        simp
      · rw [if_neg h3, decide_eq_false (show ¬ g = (k : Int) + 1 by omega)]
        simp
    · rw [decide_eq_false h2, decide_eq_false (show ¬ g = (k : Int) + 1 by omega)]
      simp
  · rw [decide_eq_false h1, decide_eq_false (show ¬ g = (k : Int) + 1 by omega)]
    simp
theorem Rel.set {e : List Bool} {L : List Int} (h : Rel e L) (k : Nat) (hk : k < e.length) : Rel (e.set k true) (L ++ [(k : Int) + 1]) := fun g => by
  rw [clB_set e k hk, ← h g]
  rw [Bool.eq_iff_iff]
  simp
theorem okN_iff (o : Int) (s : Nat → Bool) (l h g : Int) (n : Nat) (c : List Bool) : okN o s l h g n c = true ↔ fldT o s l h g n = true ∧ ¬ (o = 5 ∧ bndT l h = false) ∧ ¬ (o = 9 ∧ clB c g = false) ∧ ¬ (o = 6 ∧ ¬ g = (c.length : Int) + 1) := by
  unfold okN
  by_cases h5 : o = 5 <;> by_cases h9 : o = 9 <;> by_cases h6 : o = 6 <;> cases fldT o s l h g n <;> cases bndT l h <;> cases clB c g <;> by_cases hg : g = (c.length : Int) + 1 <;> simp [*]
theorem vF_ref : ∀ (f : F) (c d : List Bool) (L : List Int), vF f c = some d → Rel c L → typF f = true ∧ rngF f c.length = some d.length ∧ ∃ M, nmdF f L = some M ∧ Rel d M
  | .nil, c, d, L, h, hR => by obtain rfl := Option.some.inj h; exact ⟨rfl, rfl, L, rfl, hR⟩
  | .cons o s l hh g a r, c, d, L, h, hR => by
    rw [vF] at h
    by_cases hok : okN o s l hh g a.len c = true
    case neg => rw [if_neg hok] at h; cases h
    rw [if_pos hok] at h
    obtain ⟨k1, k2, k3, k4⟩ := (okN_iff ..).1 hok
    cases hva : vF a (if o = 6 then c ++ [false] else c) with
    | none => rw [hva] at h; cases h
    | some e =>
      rw [hva] at h
      replace h : vF r (if o = 6 then e.set c.length true else e) = some d := h
      have ga := vF_grow a _ _ hva
      have hRa : Rel (if o = 6 then c ++ [false] else c) L := by
        split
        · exact hR.app
        · exact hR
      obtain ⟨i1, i2, M, i3, i4⟩ := vF_ref a _ e L hva hRa
      have hlen : (if o = 6 then c ++ [false] else c).length = if o = 6 then c.length + 1 else c.length := by split <;> simp
      have hRe : Rel (if o = 6 then e.set c.length true else e) (if o = 6 then M ++ [g] else M) := by
        by_cases h6 : o = 6
        · rw [if_pos h6, if_pos h6]
          have hg : g = (c.length : Int) + 1 := Decidable.byContradiction fun hn => k4 ⟨h6, hn⟩
          rw [hg]
          refine i4.set _ ?_
          have := ga.1
          rw [if_pos h6, List.length_append] at this
          exact this
        · rw [if_neg h6, if_neg h6]; exact i4
      obtain ⟨j1, j2, N, j3, j4⟩ := vF_ref r _ d _ h hRe
      refine ⟨?_, ?_, N, ?_, j4⟩
      · rw [typF, k1, i1, j1]; rfl
      · rw [rngF, if_neg k2, if_neg k4, ← hlen, i2]
        have : (if o = 6 then e.set c.length true else e).length = e.length := by split <;> simp
        rw [this] at j2
        exact j2
      · rw [nmdF, if_neg (by rw [hR g]; exact k3), i3]
        exact j3
theorem ref_vF : ∀ (f : F) (c : List Bool) (n : Nat) (L M : List Int), typF f = true → rngF f c.length = some n → nmdF f L = some M → Rel c L → ∃ d, vF f c = some d ∧ d.length = n ∧ Rel d M
  | .nil, c, n, L, M, _, h2, h3, hR => by
    obtain rfl := Option.some.inj h2
    obtain rfl := Option.some.inj h3
    exact ⟨c, rfl, rfl, hR⟩
  | .cons o s l hh g a r, c, n, L, M, h1, h2, h3, hR => by
    rw [typF] at h1
    simp only [Bool.and_eq_true] at h1
    rw [rngF] at h2
    rw [nmdF] at h3
    by_cases k2 : o = 5 ∧ bndT l hh = false
    · rw [if_pos k2] at h2; cases h2
    by_cases k4 : o = 6 ∧ ¬ g = (c.length : Int) + 1
    · rw [if_neg k2, if_pos k4] at h2; cases h2
    by_cases k3 : o = 9 ∧ L.contains g = false
    · rw [if_pos k3] at h3; cases h3
    rw [if_neg k2, if_neg k4] at h2
    rw [if_neg k3] at h3
    cases hn : nmdF a L with
    | none => rw [hn] at h3; cases h3
    | some M1 =>
      rw [hn] at h3
      have hlen : (if o = 6 then c ++ [false] else c).length = if o = 6 then c.length + 1 else c.length := by split <;> simp
      rw [← hlen] at h2
      cases hr : rngF a (if o = 6 then c ++ [false] else c).length with
      | none => rw [hr] at h2; cases h2
      | some m =>
        rw [hr] at h2
        have hRa : Rel (if o = 6 then c ++ [false] else c) L := by
          split
          · exact hR.app
          · exact hR
        obtain ⟨e, i1, i2, i3⟩ := ref_vF a _ m L M1 h1.2.1 hr hn hRa
        have ga := vF_grow a _ _ i1
        have hRe : Rel (if o = 6 then e.set c.length true else e) (if o = 6 then M1 ++ [g] else M1) := by
          by_cases h6 : o = 6
          · rw [if_pos h6, if_pos h6]
            have hg : g = (c.length : Int) + 1 := Decidable.byContradiction fun hn => k4 ⟨h6, hn⟩
            rw [hg]
            refine i3.set _ ?_
            have := ga.1
            rw [if_pos h6, List.length_append] at this
            exact this
          · rw [if_neg h6, if_neg h6]; exact i3
        have hle : (if o = 6 then e.set c.length true else e).length = m := by rw [← i2]; split <;> simp
        obtain ⟨d, j1, j2, j3⟩ := ref_vF r _ n _ M h1.2.2 (by rw [hle]; exact h2) h3 hRe
        refine ⟨d, ?_, j2, j3⟩
        rw [vF, if_pos ((okN_iff ..).2 ⟨h1.1, k2, by rw [← hR g]; exact k3, k4⟩), i1]
        exact j1
theorem Rel.nil : Rel [] [] := fun g => by
  unfold clB
  simp
/-- Check says OK, as the reference asks it. -/
theorem valid_ref (t : TN) : Valid t ↔ typF t.f = true ∧ (rngF t.f 0).isSome = true ∧ (nmdF t.f []).isSome = true ∧ szF t.f ≤ 600 ∧ grF t.f ≤ 9 ∧ lvlF t.f ≤ 32 := by
  constructor
  · rintro ⟨c, h1, h2, h3, h4⟩
    obtain ⟨i1, i2, M, i3, _⟩ := vF_ref t.f [] c [] h1 Rel.nil
    have := rngF_gr _ _ _ i2
    simp only [List.length_nil] at i2 this
    exact ⟨i1, by rw [i2]; rfl, by rw [i3]; rfl, h3, by omega, h4⟩
  · rintro ⟨h1, h2, h3, h4, h5, h6⟩
    obtain ⟨n, hn⟩ := Option.isSome_iff_exists.1 h2
    obtain ⟨M, hM⟩ := Option.isSome_iff_exists.1 h3
    obtain ⟨d, i1, i2, _⟩ := ref_vF t.f [] n [] M h1 hn hM Rel.nil
    have := rngF_gr _ _ _ hn
    exact ⟨d, i1, by omega, h4, h6⟩
end Go.Proofs.Ytpfbpgbgedbalaa
/- What the reference knows of a tree, in plain mathematics: the facts of its nodes, and that they are the program's values. -/
set_option linter.unusedVariables false
namespace Go.Proofs.Ytpfbpgbgedbalaa
open Go.RowKit

structure FC where
  nul : Bool
  lo : Int
  hi : Int
  st : Nat → Bool
def FC0 : FC := ⟨false, 0, 0, noSet⟩
def rsum (a b : Int) : Int := if a < 0 ∨ b < 0 then -1 else if 2147483647 < a + b then 2147483647 else a + b
def rtim (a n : Int) : Int := if n = 0 ∨ a = 0 then 0 else if a < 0 ∨ n < 0 then -1 else if 2147483647 < a * n then 2147483647 else a * n
def catS (x p : FC) : FC := ⟨x.nul && p.nul, rsum x.lo p.lo, rsum x.hi p.hi, if x.nul = true then uniP x.st p.st else x.st⟩
def FC1 : FC := ⟨true, 0, 0, noSet⟩
def altS (x p : FC) : FC := ⟨x.nul || p.nul, if p.lo < x.lo then p.lo else x.lo, if 0 ≤ x.hi ∧ (p.hi < 0 ∨ x.hi < p.hi) then p.hi else x.hi, uniP x.st p.st⟩
def altL : List FC → FC
  | [] => FC0
  | x :: r => r.foldl altS x
def repS (lo hi : Int) (x : FC) : FC := ⟨decide (lo = 0) || x.nul, rtim x.lo lo, rtim x.hi hi, if hi = 0 then noSet else x.st⟩
/-- The facts of a node, from those of its Args. -/
def facR (t : TN) (ps : List FC) : FC :=
  if t.op = 2 then ⟨false, 1, 1, t.st⟩ else if t.op = 3 then ps.foldl catS FC1 else if t.op = 4 then altL ps
  else if t.op = 5 then repS t.lo t.hi (ps.headD FC0) else if t.op = 6 ∨ t.op = 9 then ps.headD FC0 else ⟨true, 0, 0, fstL false (ps.map fun y => (y.st, y.nul)) noSet⟩
def FOk (x : FC) : Prop := LOk (x.lo, x.hi)
theorem rsum_eq {a b : Int} (ha : -1 ≤ a ∧ a ≤ 2147483647) (hb : -1 ≤ b ∧ b ≤ 2147483647) : rsum a b = sumT a b := by
  unfold rsum sumT
  by_cases h : a = -1 ∨ b = -1
  · rw [if_pos h, if_pos (by omega)]
  · rw [if_neg h, if_neg (by omega)]
    by_cases h2 : 2147483647 < a + b
    · rw [if_pos h2, if_pos (by omega)]
    · rw [if_neg h2, if_neg (by omega)]
theorem rtim_eq {a b : Int} (ha : -1 ≤ a ∧ a ≤ 2147483647) (hb : -1 ≤ b ∧ b ≤ 64) : rtim a b = prodT a b := by
  unfold rtim prodT
  by_cases h0 : a = 0 ∨ b = 0
  · rw [if_pos h0, if_pos h0.symm]
  · rw [if_neg h0, if_neg (fun h => h0 h.symm)]
    by_cases h1 : a = -1 ∨ b = -1
    · rw [if_pos h1, if_pos (by omega)]
    · rw [if_neg h1, if_neg (by omega)]
      have hbp : 0 < b := by omega
      have key : 2147483647 / b < a ↔ 2147483647 < a * b := by
        rw [Int.ediv_lt_iff_lt_mul hbp]
      by_cases h2 : 2147483647 < a * b
      · rw [if_pos h2, if_pos (key.2 h2)]
      · rw [if_neg h2, if_neg (fun h => h2 (key.1 h))]
theorem uni_no (p : Nat → Bool) : uniP noSet p = p := funext fun _ => rfl
theorem cat_fold : ∀ (r : List FC) (x : FC), FOk x → (∀ y, y ∈ r → FOk y) →
    (r.foldl catS x).nul = (x.nul && !(r.map (·.nul)).contains false) ∧ ((r.foldl catS x).lo, (r.foldl catS x).hi) = (r.map fun y => (y.lo, y.hi)).foldl (fun a p => (sumT a.1 p.1, sumT a.2 p.2)) (x.lo, x.hi) ∧
      (r.foldl catS x).st = (if x.nul = true then fstL true (r.map fun y => (y.st, y.nul)) x.st else x.st) ∧ FOk (r.foldl catS x)
  | [], x, hx, _ => ⟨by simp, rfl, by cases x.nul <;> rfl, hx⟩
  | y :: r, x, hx, hr => by
    have hy := hr y (List.mem_cons_self ..)
    have e1 : rsum x.lo y.lo = sumT x.lo y.lo := rsum_eq ⟨by have := hx.1.1; show -1 ≤ (x.lo, x.hi).1; omega, hx.1.2⟩ ⟨by have := hy.1.1; show -1 ≤ (y.lo, y.hi).1; omega, hy.1.2⟩
    have e2 : rsum x.hi y.hi = sumT x.hi y.hi := rsum_eq hx.2 hy.2
    have hs : FOk (catS x y) := by
      unfold FOk catS
      simp only [e1, e2]
      exact ⟨sumT_pos _ _ hx.1 hy.1, sumT_ok _ _ hx.2 hy.2⟩
    obtain ⟨i1, i2, i3, i4⟩ := cat_fold r (catS x y) hs (fun z hz => hr z (List.mem_cons_of_mem _ hz))
    rw [List.foldl_cons]
    refine ⟨?_, ?_, ?_, i4⟩
    · rw [i1]
      show ((x.nul && y.nul) && _) = _
      rw [List.map_cons]
      cases x.nul <;> cases hyn : y.nul <;> simp
    · rw [i2, List.map_cons, List.foldl_cons]
      show List.foldl _ (rsum x.lo y.lo, rsum x.hi y.hi) _ = _
      rw [e1, e2]
    · rw [i3, List.map_cons]
      show (if (x.nul && y.nul) = true then fstL true _ (if x.nul = true then uniP x.st y.st else x.st) else (if x.nul = true then uniP x.st y.st else x.st)) = (if x.nul = true then fstL true ((y.st, y.nul) :: _) x.st else x.st)
      rw [fstL]
      cases x.nul <;> cases y.nul <;> simp
theorem les_eq (a b : Int) : (if b < a then b else a) = lesT a b := rfl
theorem gre_eq {a b : Int} (ha : -1 ≤ a) (hb : -1 ≤ b) : (if 0 ≤ a ∧ (b < 0 ∨ a < b) then b else a) = greT a b := by
  unfold greT
  by_cases h : a = -1 ∨ b = -1
  · rw [if_pos h]
    split <;> omega
  · rw [if_neg h]
    by_cases h2 : a < b
    · rw [if_pos h2, if_pos (by omega)]
    · rw [if_neg h2, if_neg (by omega)]
theorem alt_fold : ∀ (r : List FC) (x : FC), FOk x → (∀ y, y ∈ r → FOk y) →
    (r.foldl altS x).nul = (x.nul || (r.map (·.nul)).contains true) ∧ ((r.foldl altS x).lo, (r.foldl altS x).hi) = (r.map fun y => (y.lo, y.hi)).foldl (fun a p => (lesT a.1 p.1, greT a.2 p.2)) (x.lo, x.hi) ∧
      (r.foldl altS x).st = fstL false (r.map fun y => (y.st, y.nul)) x.st ∧ FOk (r.foldl altS x)
  | [], x, hx, _ => ⟨by simp, rfl, rfl, hx⟩
  | y :: r, x, hx, hr => by
    have hy := hr y (List.mem_cons_self ..)
    have e2 := gre_eq hx.2.1 hy.2.1
    have hs : FOk (altS x y) := by
      unfold FOk altS
      simp only [les_eq]
      refine ⟨lesT_ok _ _ hx.1 hy.1, ?_⟩
      show -1 ≤ (if 0 ≤ x.hi ∧ (y.hi < 0 ∨ x.hi < y.hi) then y.hi else x.hi) ∧ _
      rw [show (if 0 ≤ x.hi ∧ (y.hi < 0 ∨ x.hi < y.hi) then y.hi else x.hi) = greT x.hi y.hi from e2]
      exact greT_ok _ _ hx.2 hy.2
    obtain ⟨i1, i2, i3, i4⟩ := alt_fold r (altS x y) hs (fun z hz => hr z (List.mem_cons_of_mem _ hz))
    rw [List.foldl_cons]
    refine ⟨?_, ?_, ?_, i4⟩
    · rw [i1]
      show ((x.nul || y.nul) || _) = _
      rw [List.map_cons]
      cases x.nul <;> cases hyn : y.nul <;> simp
    · rw [i2, List.map_cons, List.foldl_cons]
      show List.foldl _ (lesT x.lo y.lo, if 0 ≤ x.hi ∧ (y.hi < 0 ∨ x.hi < y.hi) then y.hi else x.hi) _ = _
      rw [show (if 0 ≤ x.hi ∧ (y.hi < 0 ∨ x.hi < y.hi) then y.hi else x.hi) = greT x.hi y.hi from e2]
    · rw [i3, List.map_cons]
      show fstL false _ (uniP x.st y.st) = fstL false ((y.st, y.nul) :: _) x.st
      rw [fstL]
      simp
theorem fok0 : FOk FC0 := by unfold FOk LOk FC0; decide
theorem fok1 : FOk FC1 := by unfold FOk LOk FC1; decide
theorem head_ok {ps : List FC} (h : ∀ y, y ∈ ps → FOk y) : FOk (ps.headD FC0) := by
  cases ps with
  | nil => exact fok0
  | cons x r => exact h x (List.mem_cons_self ..)
theorem rep_ok {lo hi : Int} {x : FC} (hx : FOk x) (h1 : 0 ≤ lo ∧ lo ≤ 64) (h2 : -1 ≤ hi ∧ hi ≤ 64) : FOk (repS lo hi x) ∧ (repS lo hi x).lo = prodT x.lo lo ∧ (repS lo hi x).hi = prodT x.hi hi := by
  have e1 : rtim x.lo lo = prodT x.lo lo := rtim_eq ⟨by have := hx.1.1; show -1 ≤ (x.lo, x.hi).1; omega, hx.1.2⟩ ⟨by omega, h1.2⟩
  have e2 : rtim x.hi hi = prodT x.hi hi := rtim_eq hx.2 h2
  refine ⟨?_, e1, e2⟩
  unfold FOk repS
  simp only [e1, e2]
  exact ⟨⟨prodT_pos _ _ hx.1 h1, (prodT_ok _ _ ⟨by have := hx.1.1; show -1 ≤ (x.lo, x.hi).1; omega, hx.1.2⟩ ⟨by omega, h1.2⟩).2⟩, prodT_ok _ _ hx.2 h2⟩
/-- The facts of a node are the values that the program's rules give. -/
theorem facR_all (t : TN) (ps : List FC) (h : PN FOk t ps) : FOk (facR t ps) ∧ (facR t ps).nul = nullT t (ps.map (·.nul)) ∧ ((facR t ps).lo, (facR t ps).hi) = lenT t (ps.map fun y => (y.lo, y.hi)) ∧ ((facR t ps).st, (facR t ps).nul) = begT t (ps.map fun y => (y.st, y.nul)) := by
  have hbeg : (facR t ps).nul = nullT t (ps.map (·.nul)) → (facR t ps).st = fstT t (ps.map fun y => (y.st, y.nul)) → ((facR t ps).st, (facR t ps).nul) = begT t (ps.map fun y => (y.st, y.nul)) := fun h1 h2 => by
    unfold begT
    rw [h1, h2, List.map_map]
    rfl
  suffices hs : FOk (facR t ps) ∧ (facR t ps).nul = nullT t (ps.map (·.nul)) ∧ ((facR t ps).lo, (facR t ps).hi) = lenT t (ps.map fun y => (y.lo, y.hi)) ∧ (facR t ps).st = fstT t (ps.map fun y => (y.st, y.nul)) from ⟨hs.1, hs.2.1, hs.2.2.1, hbeg hs.2.1 hs.2.2.2⟩
  have hd := head_ok h.inv
  have hh1 : (ps.map (·.nul)).headD false = (ps.headD FC0).nul := by cases ps <;> rfl
  have hh2 : (ps.map fun y => (y.lo, y.hi)).headD (0, 0) = ((ps.headD FC0).lo, (ps.headD FC0).hi) := by cases ps <;> rfl
  unfold facR nullT lenT fstT
  by_cases o2 : t.op = 2
  · simp only [if_pos o2]
    refine ⟨?_, ?_, ?_, ?_⟩ <;> first | trivial | rfl | (show LOk (1, 1); unfold LOk; decide)
  simp only [if_neg o2]
  by_cases o3 : t.op = 3
  · simp only [if_pos o3]
    obtain ⟨i1, i2, i3, i4⟩ := cat_fold ps FC1 fok1 h.inv
    refine ⟨i4, by rw [i1]; rfl, ?_, ?_⟩
    · rw [i2]
      cases ps with
      | nil => have := h.two (.inl o3); simp at this
      | cons x r =>
        have hx := h.inv x (List.mem_cons_self ..)
        show List.foldl _ (sumT 0 x.lo, sumT 0 x.hi) (r.map _) = List.foldl _ (x.lo, x.hi) (r.map _)
        have e1 : sumT 0 x.lo = x.lo := by
          have h1 := hx.1.1; have h2 := hx.1.2
          simp only at h1 h2
          unfold sumT
          rw [if_neg (by omega), if_neg (by omega)]
          omega
        have e2 : sumT 0 x.hi = x.hi := by
          have h1 := hx.2.1; have h2 := hx.2.2
          simp only at h1 h2
          unfold sumT
          by_cases hm : x.hi = -1
          · rw [if_pos (.inr hm), hm]
          · rw [if_neg (by omega), if_neg (by omega)]
            omega
        rw [e1, e2]
    · rw [i3, if_pos (show FC1.nul = true from rfl), if_neg (show ¬ (t.op = 5 ∧ t.hi = 0) by omega), decide_eq_true o3]
      rfl
  simp only [if_neg o3]
  by_cases o4 : t.op = 4
  · simp only [if_pos o4]
    rw [if_neg (by omega)]
    cases ps with
    | nil => have := h.two (.inr o4); simp at this
    | cons x r =>
      obtain ⟨i1, i2, i3, i4⟩ := alt_fold r x (h.inv x (List.mem_cons_self ..)) (fun y hy => h.inv y (List.mem_cons_of_mem _ hy))
      refine ⟨i4, ?_, i2, ?_⟩
      · show (r.foldl altS x).nul = _
        rw [i1, List.map_cons]
        cases x.nul <;> simp
      · show (r.foldl altS x).st = fstL (decide (t.op = 3)) ((x.st, x.nul) :: _) noSet
        rw [i3, fstL, decide_eq_false o3, uni_no]
        simp
  simp only [if_neg o4]
  by_cases o5 : t.op = 5
  · simp only [if_pos o5]
    obtain ⟨r0, r1, r2, r3⟩ := h.rep o5
    obtain ⟨j1, j2, j3⟩ := rep_ok hd ⟨r1, r2⟩ (show -1 ≤ t.hi ∧ t.hi ≤ 64 by omega)
    refine ⟨j1, ?_, ?_, ?_⟩
    · rw [hh1]; rfl
    · rw [hh2, j2, j3]
    · cases ps with
      | nil => simp at r0
      | cons x r =>
        have : r = [] := by simpa using r0
        subst this
        show (if t.hi = 0 then noSet else x.st) = _
        by_cases hz : t.hi = 0
        · rw [if_pos hz, if_pos ⟨o5, hz⟩]
        · rw [if_neg hz, if_neg (fun k => hz k.2), decide_eq_false o3]
          simp [fstL, uni_no]
  simp only [if_neg o5]
  rw [if_neg (show ¬ (t.op = 5 ∧ t.hi = 0) from fun k => o5 k.1)]
  by_cases o6 : t.op = 6 ∨ t.op = 9
  · simp only [if_pos o6]
    refine ⟨hd, hh1.symm, hh2.symm, ?_⟩
    have h1 := h.one o6
    cases ps with
    | nil => simp at h1
    | cons x r =>
      have : r = [] := by simpa using h1
      subst this
      rw [decide_eq_false o3]
      simp [fstL, uni_no]
  · simp only [if_neg o6]
    rw [decide_eq_false o3]
    refine ⟨?_, ?_, ?_, ?_⟩ <;> first | exact fok1 | trivial | rfl
/-- Facts and values, tree by tree. -/
theorem valF_hom {T U : Type} {φ : T → U} {R : TN → List T → T} {Q : TN → List U → U} {I : T → Prop} (hom : ∀ t ps, PN I t ps → φ (R t ps) = Q t (ps.map φ)) : ∀ (f : F) (G : Nat → List T), preF I R f G →
    valF Q f (fun k => (G k).map φ) = ((valF R f G).1.map φ, fun k => ((valF R f G).2 k).map φ)
  | .nil, G, _ => rfl
  | .cons o s l h g a r, G, hp => by
    rw [preF] at hp
    rw [valF, valF]
    by_cases h9 : o = 9
    · rw [if_pos h9, if_pos h9]
      rw [if_pos h9] at hp
      rw [valF_hom hom r G hp.2.2, ← hom _ _ hp.2.1]
      rfl
    · rw [if_neg h9, if_neg h9]
      rw [if_neg h9] at hp
      have hu : (if o = 6 then upG (fun k => ((valF R a G).2 k).map φ) g.toNat ((valF R a G).1.map φ) else fun k => ((valF R a G).2 k).map φ) = fun k => ((if o = 6 then upG (valF R a G).2 g.toNat (valF R a G).1 else (valF R a G).2) k).map φ := by
        split
        · funext k
          unfold upG
          split <;> rfl
        · rfl
      rw [valF_hom hom a G hp.2.1]
      simp only
      rw [hu, valF_hom hom r _ hp.2.2.2, ← hom _ _ hp.2.2.1]
      rfl
theorem valT_hom {T U : Type} {φ : T → U} {R : TN → List T → T} {Q : TN → List U → U} {I : T → Prop} (hR : ∀ t ps, PN I t ps → I (R t ps)) (hom : ∀ t ps, PN I t ps → φ (R t ps) = Q t (ps.map φ)) (t : TN) (h : Valid t) : valT Q t = φ (valT R t) := by
  obtain ⟨c, h1, h2, h3, h4⟩ := h
  obtain ⟨j1, _, _⟩ := preF_of hR t.f [] c G0 h1 h2 h3 ⟨fun k hk => by simp at hk, fun k x hx => by cases hx⟩
  have hm := valF_hom hom t.f G0 j1
  have ha : (valF R t.f G0).1 = [valT R t] := by unfold TN.f; rw [valF_cons]; rfl
  have hb : (valF Q t.f G0).1 = [valT Q t] := by unfold TN.f; rw [valF_cons]; rfl
  have hg : (fun k => ((G0 : Nat → List T) k).map φ) = (G0 : Nat → List U) := rfl
  rw [hg] at hm
  have := congrArg Prod.fst hm
  simp only [ha, hb, List.map_cons, List.map_nil, List.cons.injEq, and_true] at this
  exact this
theorem fac_vals (t : TN) (h : Valid t) : valT nullT t = (valT facR t).nul ∧ valT lenT t = ((valT facR t).lo, (valT facR t).hi) ∧ valT begT t = ((valT facR t).st, (valT facR t).nul) ∧ FOk (valT facR t) :=
  ⟨valT_hom (φ := (·.nul)) (fun t ps hp => (facR_all t ps hp).1) (fun t ps hp => (facR_all t ps hp).2.1) t h, valT_hom (φ := fun y => (y.lo, y.hi)) (fun t ps hp => (facR_all t ps hp).1) (fun t ps hp => (facR_all t ps hp).2.2.1) t h,
    valT_hom (φ := fun y => (y.st, y.nul)) (fun t ps hp => (facR_all t ps hp).1) (fun t ps hp => (facR_all t ps hp).2.2.2) t h, (preN_of (fun t ps hp => (facR_all t ps hp).1) t h).2⟩
end Go.Proofs.Ytpfbpgbgedbalaa
/- The facts of trees as the reference keeps them: one entry for each group that is closed. -/
set_option linter.unusedVariables false
namespace Go.Proofs.Ytpfbpgbgedbalaa
open Go.RowKit

/-- What a tree that Check accepts has, node by node, when there are n groups. -/
def preK (n : Nat) : F → Prop
  | .nil => True
  | .cons o s l h g a r => (o = 6 ∨ o = 9 → 1 ≤ g ∧ g ≤ (n : Int)) ∧ havT o a.len = true ∧ (o = 5 → bndT l h = true) ∧ a.len ≤ 600 ∧ preK n a ∧ preK n r
theorem preK_of (n : Nat) : ∀ (f : F) (c d : List Bool), vF f c = some d → d.length ≤ n → szF f ≤ 600 → preK n f
  | .nil, _, _, _, _, _ => trivial
  | .cons o s l hh g a r, c, d, h, hn, hz => by
    have hz' : szF a + 1 + szF r ≤ 600 := hz
    rw [vF] at h
    by_cases hok : okN o s l hh g a.len c = true
    case neg => rw [if_neg hok] at h; cases h
    rw [if_pos hok] at h
    have hp := okN_parts hok
    have hhav : havT o a.len = true := by have := hp.1; unfold fldT at this; simp only [Bool.and_eq_true] at this; exact this.1
    cases hva : vF a (if o = 6 then c ++ [false] else c) with
    | none => rw [hva] at h; cases h
    | some e =>
      rw [hva] at h
      replace h : vF r (if o = 6 then e.set c.length true else e) = some d := h
      have gr := vF_grow r _ _ h
      have ga := vF_grow a _ _ hva
      have hel : e.length ≤ n := by
        have := gr.1
        by_cases h6 : o = 6
        · rw [if_pos h6, List.length_set] at this; omega
        · rw [if_neg h6] at this; omega
      have hcl : c.length ≤ e.length := by
        have := ga.1
        by_cases h6 : o = 6
        · rw [if_pos h6, List.length_append] at this; omega
        · rw [if_neg h6] at this; omega
      refine ⟨fun k => ?_, hhav, hp.2.1, by have := len_sz a; omega, preK_of n a _ _ hva hel (by omega), preK_of n r _ _ h hn (by omega)⟩
      rcases k with k | k
      · have hg := hp.2.2.2 k
        have := ga.1
        rw [if_pos k, List.length_append] at this
        have h1 : c.length + 1 ≤ e.length := this
        omega
      · obtain ⟨g1, g2, _⟩ := clB_of (hp.2.2.1 k)
        omega
def updK (K : Nat → FC) (i : Nat) (x : FC) : Nat → FC := fun k => if k = i then x else K k
/-- The facts of trees one behind the other, and of the groups that are closed behind them. -/
def facF : F → (Nat → FC) → List FC × (Nat → FC)
  | .nil, K => ([], K)
  | .cons o s l h g a r, K =>
    ((if o = 9 then (facF a K).2 (g - 1).toNat else facR ⟨o, s, l, h, g, a⟩ (facF a K).1) :: (facF r (if o = 6 then updK (facF a K).2 (g - 1).toNat ((facF a K).1.headD FC0) else (facF a K).2)).1,
      (facF r (if o = 6 then updK (facF a K).2 (g - 1).toNat ((facF a K).1.headD FC0) else (facF a K).2)).2)
def facN (t : TN) (K : Nat → FC) : FC × (Nat → FC) :=
  (if t.op = 9 then (facF t.args K).2 (t.g - 1).toNat else facR t (facF t.args K).1, if t.op = 6 then updK (facF t.args K).2 (t.g - 1).toNat ((facF t.args K).1.headD FC0) else (facF t.args K).2)
theorem facF_cons (o : Int) (s : Nat → Bool) (l h g : Int) (a r : F) (K : Nat → FC) : facF (.cons o s l h g a r) K = ((facN ⟨o, s, l, h, g, a⟩ K).1 :: (facF r (facN ⟨o, s, l, h, g, a⟩ K).2).1, (facF r (facN ⟨o, s, l, h, g, a⟩ K).2).2) := by
  rw [facF, facN]
theorem facF_len : ∀ (f : F) (K : Nat → FC), (facF f K).1.length = f.len
  | .nil, _ => rfl
  | .cons o s l h g a r, K => by
    rw [facF_cons]
    show (facF r _).1.length + 1 = r.len + 1
    rw [facF_len r]
theorem len_nil {a : F} (h : a.len = 0) : a = .nil := by
  cases a with
  | nil => rfl
  | cons _ _ _ _ _ _ _ => cases h
/-- They are the values of the rule of facts. -/
theorem facF_val (n : Nat) : ∀ (f : F) (K : Nat → FC) (G : Nat → List FC), preK n f → (∀ k, (G (k + 1)).headD FC0 = K k) → (facF f K).1 = (valF facR f G).1 ∧ ∀ k, ((valF facR f G).2 (k + 1)).headD FC0 = (facF f K).2 k
  | .nil, K, G, _, hG => ⟨rfl, hG⟩
  | .cons o s l h g a r, K, G, hp, hG => by
    obtain ⟨p1, p2, p3, p4, p5, p6⟩ := hp
    rw [facF, valF]
    by_cases h9 : o = 9
    · subst h9
      obtain rfl := len_nil (a := a) (by simpa [havT] using p2)
      have hg := p1 (.inr rfl)
      have eg : (g - 1).toNat + 1 = g.toNat := by omega
      simp only [if_pos]
      rw [if_neg (by decide)]
      obtain ⟨j1, j2⟩ := facF_val n r K G p6 hG
      refine ⟨?_, j2⟩
      show K (g - 1).toNat :: (facF r K).1 = facR _ (G g.toNat) :: _
      rw [← hG (g - 1).toNat, eg, j1]
      rfl
    · rw [if_neg h9, if_neg h9]
      obtain ⟨i1, i2⟩ := facF_val n a K G p5 hG
      have hG2 : ∀ k, ((if o = 6 then upG (valF facR a G).2 g.toNat (valF facR a G).1 else (valF facR a G).2) (k + 1)).headD FC0 = (if o = 6 then updK (facF a K).2 (g - 1).toNat ((facF a K).1.headD FC0) else (facF a K).2) k := fun k => by
        by_cases h6 : o = 6
        · rw [if_pos h6, if_pos h6]
          have hg := p1 (.inl h6)
          unfold upG updK
          by_cases hk : k = (g - 1).toNat
          · rw [if_pos hk, if_pos (by omega), i1]
          · rw [if_neg hk, if_neg (by omega)]
            exact i2 k
        · rw [if_neg h6, if_neg h6]
          exact i2 k
      obtain ⟨j1, j2⟩ := facF_val n r _ _ p6 hG2
      refine ⟨?_, j2⟩
      rw [j1, i1]
theorem facN_val (n : Nat) (t : TN) (hp : preK n t.f) : (facN t (fun _ => FC0)).1 = valT facR t := by
  obtain ⟨j, _⟩ := facF_val n t.f (fun _ => FC0) G0 hp (fun k => rfl)
  unfold TN.f at j
  rw [facF_cons, valF_cons] at j
  exact (List.cons.inj j).1
/-- The facts stay in their bounds. -/
theorem catS_ok : ∀ (r : List FC) (x : FC), FOk x → (∀ y, y ∈ r → FOk y) → FOk (r.foldl catS x) := fun r x hx hr => (cat_fold r x hx hr).2.2.2
theorem altL_ok (r : List FC) (hr : ∀ y, y ∈ r → FOk y) : FOk (altL r) := by
  cases r with
  | nil => exact fok0
  | cons x r => exact (alt_fold r x (hr x (List.mem_cons_self ..)) (fun y hy => hr y (List.mem_cons_of_mem _ hy))).2.2.2
theorem facR_ok (t : TN) (ps : List FC) (hr : ∀ y, y ∈ ps → FOk y) (h5 : t.op = 5 → bndT t.lo t.hi = true) : FOk (facR t ps) := by
  unfold facR
  split
  · show LOk (1, 1)
    unfold LOk; decide
  · split
    · exact catS_ok ps FC1 fok1 hr
    · split
      · exact altL_ok ps hr
      · split
        · rename_i h
          have hb := bnd_of (h5 h)
          exact (rep_ok (head_ok hr) ⟨hb.1, hb.2.1⟩ (by omega)).1
        · split
          · exact head_ok hr
          · exact fok1
theorem facF_ok (n : Nat) : ∀ (f : F) (K : Nat → FC), preK n f → (∀ k, FOk (K k)) → (∀ y, y ∈ (facF f K).1 → FOk y) ∧ ∀ k, FOk ((facF f K).2 k)
  | .nil, K, _, hK => ⟨fun y hy => (by cases hy), hK⟩
  | .cons o s l h g a r, K, hp, hK => by
    obtain ⟨p1, p2, p3, p4, p5, p6⟩ := hp
    obtain ⟨i1, i2⟩ := facF_ok n a K p5 hK
    rw [facF]
    have hK2 : ∀ k, FOk ((if o = 6 then updK (facF a K).2 (g - 1).toNat ((facF a K).1.headD FC0) else (facF a K).2) k) := fun k => by
      split
      · unfold updK
        split
        · exact head_ok i1
        · exact i2 k
      · exact i2 k
    obtain ⟨j1, j2⟩ := facF_ok n r _ p6 hK2
    refine ⟨fun y hy => ?_, j2⟩
    rcases List.mem_cons.1 hy with rfl | hy
    · split
      · exact i2 _
      · exact facR_ok _ _ i1 p3
    · exact j1 y hy
end Go.Proofs.Ytpfbpgbgedbalaa
/- The strings that a tree gives have the lengths and the beginnings that are known of it: plain mathematics. -/
set_option linter.unusedVariables false
namespace Go.Proofs.Ytpfbpgbgedbalaa
open Go.RowKit

/-- The facts of trees, when those of all groups are given. -/
def facS (X : Nat → FC) : F → List FC
  | .nil => []
  | .cons o s l h g a r => (if o = 9 then X (g - 1).toNat else facR ⟨o, s, l, h, g, a⟩ (facS X a)) :: facS X r
def con (X : Nat → FC) : F → Prop
  | .nil => True
  | .cons o s l h g a r => (o = 6 → X (g - 1).toNat = (facS X a).headD FC0) ∧ con X a ∧ con X r
theorem vF_keep : ∀ (f : F) (c d : List Bool), vF f c = some d → c.length ≤ d.length ∧ ∀ k, k < c.length → d.getD k false = c.getD k false
  | .nil, c, d, h => by obtain rfl := Option.some.inj h; exact ⟨Nat.le_refl _, fun _ _ => rfl⟩
  | .cons o s l hh g a r, c, d, h => by
    rw [vF] at h
    by_cases hok : okN o s l hh g a.len c = true
    case neg => rw [if_neg hok] at h; cases h
    rw [if_pos hok] at h
    cases hva : vF a (if o = 6 then c ++ [false] else c) with
    | none => rw [hva] at h; cases h
    | some e =>
      rw [hva] at h
      replace h : vF r (if o = 6 then e.set c.length true else e) = some d := h
      have i := vF_keep a _ _ hva
      have j := vF_keep r _ _ h
      by_cases h6 : o = 6
      · rw [if_pos h6] at i j
        simp only [List.length_append, List.length_set, List.length_cons, List.length_nil] at i j
        refine ⟨by omega, fun k hk => ?_⟩
        rw [j.2 k (by omega), List.getD, List.getElem?_set_ne (by omega), ← List.getD, i.2 k (by omega), List.getD, List.getElem?_append_left hk, ← List.getD]
      · rw [if_neg h6] at i j
        exact ⟨by omega, fun k hk => (j.2 k (by omega)).trans (i.2 k hk)⟩
theorem facF_stat : ∀ (f : F) (c d : List Bool) (K X : Nat → FC), vF f c = some d → (∀ k, d.getD k false = true → X k = (facF f K).2 k) →
    (∀ k, c.getD k false = true → (facF f K).2 k = K k) ∧ facS X f = (facF f K).1 ∧ con X f
  | .nil, c, d, K, X, h, hX => ⟨fun _ _ => rfl, rfl, trivial⟩
  | .cons o s l hh g a r, c, d, K, X, h, hX => by
    rw [facF] at hX ⊢
    rw [vF] at h
    by_cases hok : okN o s l hh g a.len c = true
    case neg => rw [if_neg hok] at h; cases h
    rw [if_pos hok] at h
    have hp := okN_parts hok
    have hhav : havT o a.len = true := by have := hp.1; unfold fldT at this; simp only [Bool.and_eq_true] at this; exact this.1
    cases hva : vF a (if o = 6 then c ++ [false] else c) with
    | none => rw [hva] at h; cases h
    | some e =>
      rw [hva] at h
      replace h : vF r (if o = 6 then e.set c.length true else e) = some d := h
      have ga := vF_keep a _ _ hva
      have gg := vF_grow a _ _ hva
      have gr := vF_grow r _ _ h
      have hX' : ∀ k, d.getD k false = true → X k = (facF r (if o = 6 then updK (facF a K).2 (g - 1).toNat ((facF a K).1.headD FC0) else (facF a K).2)).2 k := hX
      obtain ⟨j1, j2, j3⟩ := facF_stat r _ d _ X h hX'
      have hX2 : ∀ k, (if o = 6 then e.set c.length true else e).getD k false = true → X k = (if o = 6 then updK (facF a K).2 (g - 1).toNat ((facF a K).1.headD FC0) else (facF a K).2) k := fun k hk => (hX' k (gr.2 k hk)).trans (j1 k hk)
      have hg6 : o = 6 → (g - 1).toNat = c.length ∧ c.length < e.length ∧ e.getD c.length false = false := fun h6 => by
        have hg := hp.2.2.2 h6
        rw [if_pos h6, List.length_append] at ga
        have h1 : c.length + 1 ≤ e.length := ga.1
        refine ⟨by omega, by omega, ?_⟩
        rw [ga.2 c.length (by simp), List.getD, List.getElem?_append_right (Nat.le_refl _), Nat.sub_self]
        rfl
      have hXa : ∀ k, e.getD k false = true → X k = (facF a K).2 k := fun k hk => by
        have hk2 : (if o = 6 then e.set c.length true else e).getD k false = true := by
          by_cases h6 : o = 6
          · rw [if_pos h6, List.getD, List.getElem?_set]
            split
            · split
              · rfl
              · rename_i h1 h2
                subst h1
                exact absurd (hg6 h6).2.1 h2
            · exact hk
          · rw [if_neg h6]; exact hk
        rw [hX2 k hk2]
        by_cases h6 : o = 6
        · rw [if_pos h6]
          unfold updK
          rw [if_neg]
          intro e1
          rw [e1, (hg6 h6).1, (hg6 h6).2.2] at hk
          cases hk
        · rw [if_neg h6]
      obtain ⟨i1, i2, i3⟩ := facF_stat a _ e K X hva hXa
      have hc1 : ∀ k, c.getD k false = true → (if o = 6 then c ++ [false] else c).getD k false = true := fun k hk => by
        by_cases h6 : o = 6
        · rw [if_pos h6]
          by_cases hkl : k < c.length
          · rw [List.getD, List.getElem?_append_left hkl]; exact hk
          · rw [List.getD, List.getElem?_eq_none (by omega)] at hk; cases hk
        · rw [if_neg h6]; exact hk
      have hc2 : ∀ k, c.getD k false = true → (if o = 6 then updK (facF a K).2 (g - 1).toNat ((facF a K).1.headD FC0) else (facF a K).2) k = K k ∧ (if o = 6 then e.set c.length true else e).getD k false = true := fun k hk => by
        have hkl : k < c.length := by
          refine Decidable.byContradiction fun hn => ?_
          rw [List.getD, List.getElem?_eq_none (by omega)] at hk
          cases hk
        have ek := i1 k (hc1 k hk)
        have gk := gg.2 k (hc1 k hk)
        by_cases h6 : o = 6
        · rw [if_pos h6, if_pos h6]
          unfold updK
          rw [if_neg (by rw [(hg6 h6).1]; omega), List.getD, List.getElem?_set_ne (by omega)]
          exact ⟨ek, gk⟩
        · rw [if_neg h6, if_neg h6]
          exact ⟨ek, gk⟩
      refine ⟨fun k hk => (j1 k (hc2 k hk).2).trans (hc2 k hk).1, ?_, ?_, i3, j3⟩
      · rw [facS, j2, i2]
        by_cases h9 : o = 9
        · rw [if_pos h9, if_pos h9]
          obtain ⟨g1, g2, g3⟩ := clB_of (hp.2.2.1 h9)
          have eg : (g - 1).toNat = g.toNat - 1 := by omega
          have := hc2 _ g3
          rw [eg, hX2 _ this.2, if_neg (by omega)]
        · rw [if_neg h9, if_neg h9]
      · intro h6
        obtain ⟨q1, q2, q3⟩ := hg6 h6
        rw [hX2 _ (by rw [if_pos h6, q1, List.getD, List.getElem?_set, if_pos rfl, if_pos q2]; rfl), if_pos h6, i2]
        unfold updK
        rw [if_pos rfl]
/-- A string has the length and the beginning that are known. -/
structure Fit (x : FC) (s : List UInt8) : Prop where
  lo : x.lo ≤ s.length
  hi : x.hi < 0 ∨ (s.length : Int) ≤ x.hi
  nul : s = [] → x.nul = true
  fst : ∀ b r, s = b :: r → x.st b.toNat = true
theorem Fit.fc1 : Fit FC1 [] := ⟨by decide, .inr (by decide), fun _ => rfl, fun b r h => by cases h⟩
theorem Fit.set {p : Nat → Bool} {b : UInt8} (h : p b.toNat = true) : Fit ⟨false, 1, 1, p⟩ [b] := by
  refine ⟨Int.le_refl _, .inr (Int.le_refl _), fun e => ?_, fun b' r e => ?_⟩
  · cases e
  · cases e; exact h
theorem Fit.cat {x p : FC} {s u : List UInt8} (hs : Fit x s) (hu : Fit p u) (hl : (s ++ u).length ≤ 2147483647) : Fit (catS x p) (s ++ u) := by
  have hl2 : s.length + u.length ≤ 2147483647 := by rw [← List.length_append]; exact hl
  refine ⟨?_, ?_, fun h => ?_, fun b r h => ?_⟩
  · show rsum x.lo p.lo ≤ _
    have h1 := hs.lo; have h2 := hu.lo
    rw [List.length_append]
    unfold rsum
    split
    · omega
    · split <;> omega
  · show rsum x.hi p.hi < 0 ∨ _ ≤ rsum x.hi p.hi
    rw [List.length_append]
    unfold rsum
    have h1 := hs.hi; have h2 := hu.hi
    split
    · left; decide
    · split <;> omega
  · obtain ⟨rfl, rfl⟩ := List.append_eq_nil_iff.1 h
    show (x.nul && p.nul) = true
    rw [hs.nul rfl, hu.nul rfl]; rfl
  · show (if x.nul = true then uniP x.st p.st else x.st) b.toNat = true
    cases s with
    | nil =>
      rw [if_pos (hs.nul rfl)]
      unfold uniP
      rw [hu.fst b r h, Bool.or_true]
    | cons b' r' =>
      have e : b' = b := (List.cons.inj h).1
      subst e
      have := hs.fst b' r' rfl
      split
      · unfold uniP; rw [this, Bool.true_or]
      · exact this
theorem Fit.inL {x p : FC} {s : List UInt8} (h : Fit x s) : Fit (altS x p) s := by
  refine ⟨?_, ?_, fun e => ?_, fun b r e => ?_⟩
  · show (if p.lo < x.lo then p.lo else x.lo) ≤ _
    have := h.lo
    split <;> omega
  · show (if 0 ≤ x.hi ∧ (p.hi < 0 ∨ x.hi < p.hi) then p.hi else x.hi) < 0 ∨ _ ≤ (if 0 ≤ x.hi ∧ (p.hi < 0 ∨ x.hi < p.hi) then p.hi else x.hi)
    have := h.hi
    split <;> omega
  · show (x.nul || p.nul) = true
    rw [h.nul e]; rfl
  · show (x.st b.toNat || p.st b.toNat) = true
    rw [h.fst b r e]; rfl
theorem Fit.inR {x p : FC} {s : List UInt8} (h : Fit p s) : Fit (altS x p) s := by
  refine ⟨?_, ?_, fun e => ?_, fun b r e => ?_⟩
  · show (if p.lo < x.lo then p.lo else x.lo) ≤ _
    have := h.lo
    split <;> omega
  · show (if 0 ≤ x.hi ∧ (p.hi < 0 ∨ x.hi < p.hi) then p.hi else x.hi) < 0 ∨ _ ≤ (if 0 ≤ x.hi ∧ (p.hi < 0 ∨ x.hi < p.hi) then p.hi else x.hi)
    have := h.hi
    split <;> omega
  · show (x.nul || p.nul) = true
    rw [h.nul e, Bool.or_true]
  · show (x.st b.toNat || p.st b.toNat) = true
    rw [h.fst b r e, Bool.or_true]
theorem Fit.altF : ∀ (r : List FC) (x : FC) (s : List UInt8), Fit x s → Fit (r.foldl altS x) s
  | [], _, _, h => h
  | y :: r, x, s, h => Fit.altF r _ s h.inL
theorem Fit.altM : ∀ (r : List FC) (x y : FC) (s : List UInt8), y ∈ r → Fit y s → Fit (r.foldl altS x) s
  | z :: r, x, y, s, hy, h => by
    rw [List.foldl_cons]
    rcases List.mem_cons.1 hy with rfl | hy
    · exact Fit.altF r _ s h.inR
    · exact Fit.altM r _ y s hy h
theorem Fit.alt {ps : List FC} {y : FC} {s : List UInt8} (hy : y ∈ ps) (h : Fit y s) : Fit (altL ps) s := by
  cases ps with
  | nil => cases hy
  | cons x r =>
    rcases List.mem_cons.1 hy with rfl | hy
    · exact Fit.altF r _ s h
    · exact Fit.altM r _ y s hy h
/-- A string of k strings of one tree. -/
structure Rept (x : FC) (k : Nat) (s : List UInt8) : Prop where
  lo : (k : Int) * x.lo ≤ s.length
  hi : x.hi < 0 ∨ (s.length : Int) ≤ k * x.hi
  nul : s = [] → k = 0 ∨ x.nul = true
  fst : ∀ b r, s = b :: r → x.st b.toNat = true ∧ 0 < k
theorem Rept.zero (x : FC) : Rept x 0 [] := ⟨by simp, .inr (by simp), fun _ => Or.inl rfl, fun b r h => by cases h⟩
theorem Rept.step {x : FC} {k : Nat} {s u : List UInt8} (h : Rept x k s) (hu : Fit x u) : Rept x (k + 1) (s ++ u) := by
  refine ⟨?_, ?_, fun e => ?_, fun b r e => ?_⟩
  · have h1 := h.lo; have h2 := hu.lo
    rw [List.length_append]
    have : ((k + 1 : Nat) : Int) * x.lo = (k : Int) * x.lo + x.lo := by rw [Int.natCast_add, Int.add_mul]; simp
    omega
  · rw [List.length_append]
    have : ((k + 1 : Nat) : Int) * x.hi = (k : Int) * x.hi + x.hi := by rw [Int.natCast_add, Int.add_mul]; simp
    have h1 := h.hi; have h2 := hu.hi
    omega
  · obtain ⟨rfl, rfl⟩ := List.append_eq_nil_iff.1 e
    exact .inr (hu.nul rfl)
  · refine ⟨?_, by omega⟩
    cases s with
    | nil => exact hu.fst b r e
    | cons b' r' =>
      have e2 : b' = b := (List.cons.inj e).1
      subst e2
      exact (h.fst b' r' rfl).1
theorem Rept.fit {x : FC} {k : Nat} {s : List UInt8} (h : Rept x k s) (hx : FOk x) {lo hi : Int} (h0 : 0 ≤ lo) (h1 : lo ≤ k) (h2 : hi < 0 ∨ (k : Int) ≤ hi) (hl : s.length ≤ 2147483647) : Fit (repS lo hi x) s := by
  have hx1 := hx.1.1
  simp only at hx1
  refine ⟨?_, ?_, fun e => ?_, fun b r e => ?_⟩
  · show rtim x.lo lo ≤ _
    have h3 := h.lo
    have h4 : lo * x.lo ≤ (k : Int) * x.lo := Int.mul_le_mul_of_nonneg_right h1 hx1
    rw [Int.mul_comm lo] at h4
    unfold rtim
    split
    · omega
    · split
      · omega
      · split <;> omega
  · show rtim x.hi hi < 0 ∨ _ ≤ rtim x.hi hi
    unfold rtim
    have h3 := h.hi
    by_cases a0 : hi = 0 ∨ x.hi = 0
    · rw [if_pos a0]
      right
      rcases a0 with a0 | a0
      · obtain rfl : k = 0 := by omega
        cases s with
        | nil => simp
        | cons b r => have := (h.fst b r rfl).2; omega
      · rw [a0] at h3
        simp only [Int.mul_zero] at h3
        omega
    · rw [if_neg a0]
      by_cases a1 : x.hi < 0 ∨ hi < 0
      · rw [if_pos a1]; left; decide
      · rw [if_neg a1]
        have h4 : (k : Int) * x.hi ≤ hi * x.hi := Int.mul_le_mul_of_nonneg_right (by omega) (by omega)
        rw [Int.mul_comm hi] at h4
        split <;> omega
  · show (decide (lo = 0) || x.nul) = true
    rcases h.nul e with hk | hn
    · rw [decide_eq_true (show lo = 0 by omega)]; rfl
    · rw [hn, Bool.or_true]
  · have := h.fst b r e
    show (if hi = 0 then noSet else x.st) b.toNat = true
    rw [if_neg (by omega)]
    exact this.1
/-- The first k trees of a list, one after the other. -/
def catK (ps : List FC) (k : Nat) : FC := (ps.take k).foldl catS FC1
theorem catK_step (ps : List FC) (k : Nat) (hk : k < ps.length) : catK ps (k + 1) = catS (catK ps k) ps[k] := by
  unfold catK
  rw [List.take_succ_eq_append_getElem hk, List.foldl_append]
  rfl
theorem facS_len (X : Nat → FC) : ∀ f : F, (facS X f).length = f.len
  | .nil => rfl
  | .cons o s l h g a r => by show (facS X r).length + 1 = r.len + 1; rw [facS_len X r]
def facSN (X : Nat → FC) (t : TN) : FC := if t.op = 9 then X (t.g - 1).toNat else facR t (facS X t.args)
theorem facS_nth (X : Nat → FC) : ∀ (f : F) (k : Nat), k < f.len → (facS X f)[k]? = some (facSN X (f.nth k))
  | .nil, _, h => by cases h
  | .cons o s l h g a r, 0, _ => rfl
  | .cons o s l h g a r, k + 1, hk => facS_nth X r k (by have : k + 1 < r.len + 1 := hk; omega)
theorem con_nth (X : Nat → FC) : ∀ (f : F) (k : Nat), k < f.len → con X f → ((f.nth k).op = 6 → X ((f.nth k).g - 1).toNat = (facS X (f.nth k).args).headD FC0) ∧ con X (f.nth k).args
  | .nil, _, h, _ => by cases h
  | .cons o s l h g a r, 0, _, hc => ⟨hc.1, hc.2.1⟩
  | .cons o s l h g a r, k + 1, hk, hc => con_nth X r k (by have : k + 1 < r.len + 1 := hk; omega) hc.2.2
theorem preK_nth (n : Nat) : ∀ (f : F) (k : Nat), k < f.len → preK n f → ((f.nth k).op = 6 ∨ (f.nth k).op = 9 → 1 ≤ (f.nth k).g ∧ (f.nth k).g ≤ (n : Int)) ∧ havT (f.nth k).op (f.nth k).args.len = true ∧ ((f.nth k).op = 5 → bndT (f.nth k).lo (f.nth k).hi = true) ∧ (f.nth k).args.len ≤ 600 ∧ preK n (f.nth k).args
  | .nil, _, h, _ => by cases h
  | .cons o s l h g a r, 0, _, hc => ⟨hc.1, hc.2.1, hc.2.2.1, hc.2.2.2.1, hc.2.2.2.2.1⟩
  | .cons o s l h g a r, k + 1, hk, hc => preK_nth n r k (by have : k + 1 < r.len + 1 := hk; omega) hc.2.2.2.2.2
end Go.Proofs.Ytpfbpgbgedbalaa
/- What the frames of the proofs on trees share: a tree that comes in, of a bounded bulk. -/
set_option linter.unusedVariables false
set_option maxRecDepth 100000
namespace Go.Proofs.Ytpfbpgbgedbalaa
open Go.ChangeShapes Go.WideShapes Go.ChangeAt Go.RowKit
theorem FV.joinB {H : Type} {w : World} {S : Nat → Prop} {n : Nat} {R : Nat → List Value} {E : List (DataW H)} (hE : E.length = n) (h : ∀ i, i < n → ∃ o s l g' g a sv, R i = rowV o s l g' g sv ∧ SV w S a sv ∧ (F.cons o s l g' g a .nil).fits ∧ ∀ y, E[i]? = some y → szF a + 1 ≤ Rows.uptoBulk y) : ∃ f zs, FV w S f zs ∧ f.len = n ∧ f.fits ∧ zs = (List.range n).flatMap R ∧ szF f ≤ Rows.uptoBulkAll E := by
  induction n generalizing R E with
  | zero => exact ⟨.nil, [], rfl, rfl, trivial, rfl, Nat.zero_le _⟩
  | succ n ih =>
    cases E with
    | nil => cases hE
    | cons y E =>
    obtain ⟨o, s, l, g', g, a, sv, e, hs, hf, hb⟩ := h 0 (by omega)
    obtain ⟨f, zs, hv, hl, hft, hz, hbk⟩ := ih (R := fun i => R (i + 1)) (E := E) (by simpa using hE) (fun i hi => h (i + 1) (by omega))
    refine ⟨.cons o s l g' g a f, rowV o s l g' g sv ++ zs, FV.cons.2 ⟨sv, zs, rfl, hs, hv⟩, ?_, ⟨hf.1, hf.2.1, hf.2.2.1, hft⟩, ?_, ?_⟩
    · show f.len + 1 = n + 1
      rw [hl]
    · rw [List.range_succ_eq_map, List.flatMap_cons, List.flatMap_map, e, hz]
    · have := hb y rfl
      simp only [Rows.uptoBulkAll]
      show szF a + 1 + szF f ≤ _
      omega
namespace Tree
section
variable {H : Type} {enc : TypeId × Value → H} {W : World} {base : Nat} {sp : Nat → Bool} {hd : Bool}
/-- A tree's nine cells, for every fuel. -/
theorem open_rowB (fuel : Nat) : ∀ {cs : List Value} {x : DataW H × List MemPlace}, cs.length = 9 → DataW.trod enc Try.prog W base sp hd fuel 28 cs = some x →
    ∃ o s l g' g a sv, cs = rowV o s l g' g sv ∧ SV W (Std W) a sv ∧ (F.cons o s l g' g a .nil).fits ∧ szF a + 1 ≤ Rows.uptoBulk x.1 := by
  induction fuel using Nat.strongRecOn with
  | ind fuel ih =>
  intro cs x hl9 h
  obtain ⟨f0, f1, f2, f3, f4, f5, hu, ⟨⟨a0, o0⟩, ⟨a1, o1⟩, ⟨a2, o2⟩⟩, ⟨a3, o3⟩, ⟨a4, o4⟩, a5, o5⟩ := fieldsR
  obtain ⟨c0, c1, c2, c3, c4, c5, c6, c7, c8, rfl⟩ := list9' cs hl9
  obtain ⟨xs, n, rfl, hxe, hl, hlen, hf⟩ := DataW.trod_struct hu h
  obtain ⟨y0, y1, y2, y3, y4, y5, rfl⟩ := list6' xs (by simpa using hlen)
  have t0 := hf 0 f0 rfl
  have t1 := hf 1 f1 rfl
  have t2 := hf 2 f2 rfl
  have t3 := hf 3 f3 rfl
  have t4 := hf 4 f4 rfl
  have t5 := hf 5 f5 rfl
  rw [a0, o0, cells_int] at t0
  rw [a1, o1, cells_cs] at t1
  rw [a2, o2, cells_int] at t2
  rw [a3, o3, cells_int] at t3
  rw [a4, o4, cells_int] at t4
  rw [a5, o5, cells_sre] at t5
  obtain ⟨z0, e0, _, w0⟩ := DataW.trod_int Try.underlying3 (by simpa using t0)
  obtain ⟨z2, e2, _, w2⟩ := DataW.trod_int Try.underlying3 (by simpa using t2)
  obtain ⟨z3, e3, _, w3⟩ := DataW.trod_int Try.underlying3 (by simpa using t3)
  obtain ⟨z4, e4, _, w4⟩ := DataW.trod_int Try.underlying3 (by simpa using t4)
  obtain ⟨P, hP⟩ := open_words (c0 := c1) (c1 := c2) (c2 := c3) (c3 := c4) (by simpa using t1)
  simp only [List.cons.injEq, and_true] at e0 e2 e3 e4
  subst e0 e2 e3 e4
  have b0 := bounds_i64 w0
  have b2 := bounds_i64 w2
  have b3 := bounds_i64 w3
  have b4 := bounds_i64 w4
  have hc : [Value.int .i64 z0, c1, c2, c3, c4, .int .i64 z2, .int .i64 z3, .int .i64 z4, c8] = rowV z0 P z2 z3 z4 c8 := by
    have hP' : [c1, c2, c3, c4] = (cl P).toList := hP
    unfold cl at hP'
    simp only [List.cons.injEq, and_true] at hP'
    obtain ⟨p1, p2, p3, p4⟩ := hP'
    subst p1 p2 p3 p4
    rfl
  have t5' : DataW.trod enc Try.prog W base sp hd n 26 [c8] = some y5 := by simpa using t5
  rcases DataW.trod_slice Try.underlying26 t5' with ⟨e, _⟩ | ⟨ad, len, cap, elems, rest, m, rfl, e, hy5, hb, hle, hcap, hel, hx, _, _⟩
  · obtain rfl : c8 = .slice none 0 0 := by simpa using e
    exact ⟨z0, P, z2, z3, z4, .nil, _, hc, SV.nil _ _, ⟨⟨by omega, by omega, by omega, by omega⟩, Nat.zero_le _, trivial, trivial⟩, by rw [hxe]; simp only [Rows.uptoBulk]; show 0 + 1 ≤ _; omega⟩
  · obtain rfl : c8 = .slice (some ad) len cap := by simpa using e
    rw [cells_re] at hx
    have hrow : ∀ i, i < len → ∃ cs', W.cells? base (ad.add (i * 9)) 9 = some cs' ∧ ∃ o s l g' g a sv, cs' = rowV o s l g' g sv ∧ SV W (Std W) a sv ∧ (F.cons o s l g' g a .nil).fits ∧ ∀ y, elems[i]? = some y → szF a + 1 ≤ Rows.uptoBulk y.1 := by
      intro i hi
      have h1 := hx i hi
      rw [List.getElem?_eq_getElem (by omega)] at h1
      obtain ⟨cs', h2, h3⟩ := Option.bind_eq_some_iff.1 h1
      obtain ⟨o, s, l, g', g, a, sv, q1, q2, q3, q4⟩ := ih m (by omega) (World.cells?_some h2).2.1 h3
      exact ⟨cs', h2, o, s, l, g', g, a, sv, q1, q2, q3, fun y hy => by
        rw [List.getElem?_eq_getElem (by omega)] at hy
        obtain rfl := Option.some.inj hy
        exact q4⟩
    obtain ⟨R, hR⟩ := Deep.choose_lt (α := List Value) (n := len) (p := fun i cs' => W.cells? base (ad.add (i * 9)) 9 = some cs' ∧ ∃ o s l g' g a sv, cs' = rowV o s l g' g sv ∧ SV W (Std W) a sv ∧ (F.cons o s l g' g a .nil).fits ∧ ∀ y, elems[i]? = some y → szF a + 1 ≤ Rows.uptoBulk y.1) hrow
    obtain ⟨f, zs, hv, hfl, hft, hz, hbk⟩ := FV.joinB (n := len) (R := R) (E := elems.map (·.1)) (by simpa using hel) (fun i hi => by
      obtain ⟨_, o, s, l, g', g, a, sv, q1, q2, q3, q4⟩ := hR i hi
      exact ⟨o, s, l, g', g, a, sv, q1, q2, q3, fun y hy => by
        rw [List.getElem?_map] at hy
        obtain ⟨z, hz1, rfl⟩ := Option.map_eq_some_iff.1 hy
        exact q4 z hz1⟩)
    refine ⟨z0, P, z2, z3, z4, f, _, hc, ⟨zs, some ad, cap, by rw [hfl], by omega, hv, ?_⟩, ⟨⟨by omega, by omega, by omega, by omega⟩, by omega, hft, trivial⟩, by
      rw [hxe]
      simp only [List.map_cons, hy5, Rows.uptoBulk, Rows.uptoBulkAll]
      omega⟩
    by_cases h0 : len = 0
    · exact .inl (by omega)
    obtain ⟨ha, hlt⟩ := elem_spot (k := 9) (by decide) (hR 0 (by omega)).1
    obtain ⟨b, off, spot⟩ := ad
    simp only [Addr.mk.injEq, true_and] at ha
    subst ha
    refine .inr ⟨b, off, rfl, hlt, hlt, fun j u hj => ?_⟩
    rw [hz] at hj
    obtain ⟨h1, h2⟩ := flat_at (k := 9) (fun i hi => (World.cells?_some (hR i hi).1).2.1) (by decide) j u hj
    rw [← h2, ← elem_cell (hR _ h1).1 (j % 9) (Nat.mod_lt _ (by decide))]
    have : off + j / 9 * 9 + j % 9 = off + j := by have := Nat.div_add_mod j 9; omega
    rw [this]
/-- A tree that came in, as the walks want it. -/
theorem open_reB {v : Value} {b0 : Nat} {d : DataW H} {p : List MemPlace} (hv : Value.okWide Try.prog W .any b0 28 v)
    (h : DataW.Trod enc Try.prog W base sp hd 28 v d p) : ∃ t : TN, TV W (Std W) t v ∧ (F.cons t.op t.st t.lo t.hi t.g t.args .nil).fits ∧ szF t.f ≤ Rows.uptoBulk d := by
  obtain ⟨f0, f1, f2, f3, f4, f5, hu, _⟩ := fieldsR
  obtain ⟨cells, rfl, hsz⟩ := okWide_struct hu hv
  rw [cells_re] at hsz
  obtain ⟨fuel, hf⟩ := h
  obtain ⟨o, s, l, g', g, a, sv, e, hs, hft, hbk⟩ := open_rowB fuel (cs := cells.toList) (by simpa using hsz) hf
  refine ⟨⟨o, s, l, g', g, a⟩, ⟨sv, ?_, hs⟩, hft, by show szF a + 1 + 0 ≤ _; omega⟩
  rw [← e]
end
end Tree
end Go.Proofs.Ytpfbpgbgedbalaa
