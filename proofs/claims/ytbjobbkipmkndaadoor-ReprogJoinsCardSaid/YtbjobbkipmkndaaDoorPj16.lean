/- RpMath, RpLen. -/
import Derived.Test.YtbjobbkipmkndaaDoorPj14
set_option linter.unusedVariables false
namespace Go.Proofs.YtbjobbkipmkndaaDoor
open Go.RowKit
structure IN where
  op : Int
  st : Nat → Bool
  x : Int
  y : Int
def sp (x y : Int) : IN := ⟨2, noSet, x, y⟩
def jm (x : Int) : IN := ⟨3, noSet, x, 0⟩
abbrev Cd := Nat → List IN
def nilC : Cd := fun _ => []
def catC : List Cd → Cd
  | [], _ => []
  | c :: r, b => c b ++ catC r (b + (c b).length)
def altP (e : Int) : List Cd → Cd
  | [], _ => []
  | c :: r, b => sp ((b + 1 : Nat) : Int) ((b + (c (b + 1)).length + 2 : Nat) : Int) :: (c (b + 1) ++ jm e :: altP e r (b + (c (b + 1)).length + 2))
def posL : List Cd → Nat → List Nat
  | [], _ => []
  | c :: r, b => (b + 1 + (c (b + 1)).length) :: posL r (b + (c (b + 1)).length + 2)
def altE (ini : List Cd) (c : Cd) : Cd := fun b => altP ((b + (altP 0 ini b).length + (c (b + (altP 0 ini b).length)).length : Nat) : Int) ini b ++ c (b + (altP 0 ini b).length)
def altC (cs : List Cd) : Cd := altE cs.dropLast (cs.getLastD nilC)
def repC (l h : Int) (c : Cd) : Cd := fun b =>
  if l = 1 then c b ++ [sp (b : Int) ((b + (c b).length + 1 : Nat) : Int)]
  else if h = -1 then sp ((b + 1 : Nat) : Int) ((b + (c (b + 1)).length + 2 : Nat) : Int) :: (c (b + 1) ++ [jm (b : Int)])
  else sp ((b + 1 : Nat) : Int) ((b + (c (b + 1)).length + 1 : Nat) : Int) :: c (b + 1)
def codN (o : Int) (st : Nat → Bool) (l h : Int) (cs : List Cd) : Cd := fun b =>
  if o = 2 then [⟨1, st, 0, 0⟩] else if o = 7 then [⟨4, noSet, 0, 0⟩] else if o = 8 then [⟨5, noSet, 0, 0⟩]
  else if o = 3 ∨ o = 6 then catC cs b else if o = 4 then altC cs b else if o = 5 then repC l h (cs.headD nilC) b else []
def cods : F → List Cd
  | .nil => []
  | .cons o s l h _ a r => codN o s l h (cods a) :: cods r
def codT (t : TN) : Cd := codN t.op t.st t.lo t.hi (cods t.args)
theorem cods_cons (o : Int) (s : Nat → Bool) (l h g : Int) (a r : F) : cods (.cons o s l h g a r) = codT ⟨o, s, l, h, g, a⟩ :: cods r := rfl
theorem cods_len : ∀ f : F, (cods f).length = f.len
  | .nil => rfl
  | .cons o s l h g a r => by show (cods r).length + 1 = r.len + 1; rw [cods_len r]
theorem cods_get : ∀ (f : F) (k : Nat) (hk : k < f.len), (cods f)[k]'(by rw [cods_len]; exact hk) = codT (f.nth k)
  | .nil, _, h => by cases h
  | .cons o s l h g a r, 0, _ => rfl
  | .cons o s l h g a r, k + 1, hk => cods_get r k (by have : k + 1 < r.len + 1 := hk; omega)
theorem cods_push (t : TN) : ∀ f : F, cods (f.push t) = cods f ++ [codT t]
  | .nil => rfl
  | .cons o s l h g a r => by show _ :: cods (r.push t) = _; rw [cods_push t r]; rfl
theorem cods_times (t : TN) : ∀ (n : Nat) (f : F), cods (timesF n t f) = cods f ++ List.replicate n (codT t)
  | 0, f => by simp [timesF]
  | n + 1, f => by
    rw [timesF, cods_times t n, cods_push, List.append_assoc]
    rfl
def prgT (t : TN) : List IN := codT t 0 ++ [⟨6, noSet, 0, 0⟩]
theorem catC_one (c : Cd) : catC [c] = c := by
  funext b
  simp [catC]
theorem altP_len (e e' : Int) : ∀ (r : List Cd) (b : Nat), (altP e r b).length = (altP e' r b).length
  | [], _ => rfl
  | c :: r, b => by simp only [altP, List.length_cons, List.length_append]; rw [altP_len e e' r]
theorem posL_lt : ∀ (cs : List Cd) (b j : Nat), j ∈ posL cs b → b ≤ j ∧ j < b + (altP 0 cs b).length
  | [], _, _, h => by cases h
  | c :: r, b, j, h => by
    have hl : (altP 0 (c :: r) b).length = (c (b + 1)).length + 2 + (altP 0 r (b + (c (b + 1)).length + 2)).length := by simp [altP]; omega
    rw [hl]
    rcases List.mem_cons.1 h with rfl | h
    · omega
    · have := posL_lt r _ j h
      omega
def wfC : F → Prop
  | .nil => True
  | .cons o _ _ _ _ a r => ((o = 4 ∨ o = 5) → 1 ≤ a.len) ∧ wfC a ∧ wfC r
theorem wfC_nth : ∀ (f : F) (k : Nat), wfC f → k < f.len → (((f.nth k).op = 4 ∨ (f.nth k).op = 5) → 1 ≤ (f.nth k).args.len) ∧ wfC (f.nth k).args
  | .nil, _, _, h => by cases h
  | .cons o s l h g a r, 0, hf, _ => ⟨hf.1, hf.2.1⟩
  | .cons o s l h g a r, k + 1, hf, hk => wfC_nth r k hf.2.2 (by have : k + 1 < r.len + 1 := hk; omega)
theorem wfC_push {t : TN} (ht : ((t.op = 4 ∨ t.op = 5) → 1 ≤ t.args.len) ∧ wfC t.args) : ∀ {f : F}, wfC f → wfC (f.push t)
  | .nil, _ => ⟨ht.1, ht.2, trivial⟩
  | .cons o s l h g a r, hf => ⟨hf.1, hf.2.1, wfC_push ht hf.2.2⟩
theorem wfC_times {t : TN} (ht : ((t.op = 4 ∨ t.op = 5) → 1 ≤ t.args.len) ∧ wfC t.args) : ∀ (n : Nat) {f : F}, wfC f → wfC (timesF n t f)
  | 0, _, hf => hf
  | n + 1, f, hf => wfC_times ht n (wfC_push ht hf)
def wfN (t : TN) : Prop := ((t.op = 4 ∨ t.op = 5) → 1 ≤ t.args.len) ∧ wfC t.args
theorem wfN_cat {f : F} (h : wfC f) : wfN (catT f) := by
  cases f with
  | nil => exact ⟨fun h => by have : (1 : Int) = 4 ∨ (1 : Int) = 5 := h; omega, trivial⟩
  | cons o s l h' g a r => cases r with
    | nil => exact ⟨h.1, h.2.1⟩
    | cons _ _ _ _ _ _ _ => exact ⟨fun h => by have : (3 : Int) = 4 ∨ (3 : Int) = 5 := h; omega, h⟩
def alt1 : F → Prop
  | .nil => True
  | .cons o _ _ _ _ a r => ((o = 3 ∨ o = 4) → 2 ≤ a.len) ∧ alt1 a ∧ alt1 r
theorem havT_34 {o : Int} {n : Nat} (h : havT o n = true) (ho : o = 3 ∨ o = 4) : 2 ≤ n := by
  unfold havT at h
  rw [if_neg (by omega), if_neg (by omega), if_pos ho] at h
  exact of_decide_eq_true h
theorem alt1_of : ∀ (f : F) (c d : List Bool), vF f c = some d → alt1 f
  | .nil, _, _, _ => trivial
  | .cons o s l hh g a r, c, d, h => by
    rw [vF] at h
    by_cases hok : okN o s l hh g a.len c = true
    case neg => rw [if_neg hok] at h; cases h
    rw [if_pos hok] at h
    have hp := okN_parts hok
    have hhav : havT o a.len = true := by have := hp.1; unfold fldT at this; simp only [Bool.and_eq_true] at this; exact this.1
    cases hva : vF a (if o = 6 then c ++ [false] else c) with
    | none => rw [hva] at h; cases h
    | some e =>
      rw [hva] at h
      replace h : vF r (if o = 6 then e.set c.length true else e) = some d := h
      exact ⟨havT_34 hhav, alt1_of a _ _ hva, alt1_of r _ _ h⟩
theorem nth0_wf {f : F} (h : wfC f) (hl : 0 < f.len) : wfN (f.nth 0) := by
  cases f with
  | nil => cases hl
  | cons o s l h' g a r => exact ⟨h.1, h.2.1⟩
theorem wf_exp : ∀ f : F, okE f → alt1 f → wfC (expF f)
  | .nil, _, _ => trivial
  | .cons o s l h g a r, hok, ha => by
    have h1 := wf_exp a hok.2.1 ha.2.1
    have key : wfN (expN ⟨o, s, l, h, g, a⟩ (expF a)) := by
      unfold expN
      by_cases o5 : o = 5
      · rw [if_pos o5]
        have hl := (hok.1.2 o5).1
        have hy : wfN ((expF a).nth 0) := nth0_wf h1 (by rw [expF_len]; omega)
        refine wfN_cat (wfC_times ⟨fun _ => ?_, ?_⟩ _ (wfC_times hy _ trivial))
        · show 1 ≤ 1
          exact Nat.le_refl _
        · exact wfC_push (f := .nil) hy trivial
      · rw [if_neg o5]
        refine ⟨fun k => ?_, h1⟩
        have k : o = 4 ∨ o = 5 := k
        show 1 ≤ (expF a).len
        rw [expF_len]
        have := ha.1 (by omega)
        omega
    exact ⟨key.1, key.2, wf_exp r hok.2.2 ha.2.2⟩
theorem wf_expT {t : TN} (h : Valid t) : wfN (expT t) := by
  have hok := okE_valid h
  obtain ⟨c, h1, _⟩ := h
  have := wf_exp t.f hok (alt1_of t.f _ _ h1)
  exact ⟨this.1, this.2.1⟩
end Go.Proofs.YtbjobbkipmkndaaDoor
set_option linter.unusedVariables false
namespace Go.Proofs.YtbjobbkipmkndaaDoor
open Go.RowKit
def zsF : F → List Nat
  | .nil => []
  | .cons _ _ _ _ _ a r => (szF a + 1) :: zsF r
theorem zsF_sum : ∀ f : F, (zsF f).sum = szF f
  | .nil => rfl
  | .cons o s l h g a r => by show (szF a + 1) + (zsF r).sum = szF a + 1 + szF r; rw [zsF_sum r]
def BL : List Cd → List Nat → Prop
  | [], [] => True
  | c :: r, n :: m => (∀ b, (c b).length + 2 ≤ 4 * n) ∧ BL r m
  | _, _ => False
theorem BL.cat : ∀ {cs : List Cd} {ns : List Nat}, BL cs ns → ∀ b, (catC cs b).length + 2 * cs.length ≤ 4 * ns.sum
  | [], [], _, b => by simp [catC]
  | [], _ :: _, h, _ => h.elim
  | _ :: _, [], h, _ => h.elim
  | c :: r, n :: m, h, b => by
    have h1 := h.1 b
    have h2 := BL.cat h.2 (b + (c b).length)
    simp only [catC, List.length_append, List.length_cons, List.sum_cons]
    omega
theorem BL.alt : ∀ {cs : List Cd} {ns : List Nat}, BL cs ns → cs ≠ [] → ∀ b b', (altP 0 cs.dropLast b).length + ((cs.getLastD nilC) b').length + 2 ≤ 4 * ns.sum
  | [], _, _, h, _, _ => (h rfl).elim
  | _ :: _, [], h, _, _, _ => h.elim
  | [c], n :: m, h, _, b, b' => by
    have h1 := h.1 b'
    simp only [List.dropLast_singleton, altP, List.length_nil, List.getLastD_cons, List.getLastD_nil, List.sum_cons]
    omega
  | c :: d :: r, n :: m, h, _, b, b' => by
    have h1 := h.1 (b + 1)
    have h2 := BL.alt h.2 (by simp) (b + (c (b + 1)).length + 2) b'
    have e1 : (c :: d :: r).dropLast = c :: (d :: r).dropLast := rfl
    have e2 : (c :: d :: r).getLastD nilC = (d :: r).getLastD nilC := by simp
    rw [e1, e2]
    simp only [altP, List.length_append, List.length_cons, List.sum_cons]
    omega
theorem BL.head {cs : List Cd} {ns : List Nat} (h : BL cs ns) (b : Nat) : ((cs.headD nilC) b).length ≤ 4 * ns.sum := by
  match cs, ns, h with
  | [], [], _ => simp [nilC]
  | c :: r, n :: m, h =>
    have h1 := h.1 b
    simp only [List.headD_cons, List.sum_cons]
    omega
theorem BL_all : ∀ f : F, BL (cods f) (zsF f)
  | .nil => trivial
  | .cons o s l h g a r => by
    refine ⟨fun b => ?_, BL_all r⟩
    have ha := BL_all a
    have hs := zsF_sum a
    have h1 := ha.cat b
    unfold codN
    split
    · simp; omega
    split
    · simp; omega
    split
    · simp; omega
    split
    · omega
    split
    · cases hc : cods a with
      | nil =>
        have e : altC [] b = [] := by simp [altC, altE, altP, nilC]
        rw [e]
        simp
        omega
      | cons c t =>
        rw [← hc]
        have h2 := ha.alt (by rw [hc]; simp) b (b + (altP 0 (cods a).dropLast b).length)
        unfold altC altE
        rw [List.length_append, altP_len _ 0]
        omega
    split
    · have h2 := ha.head b
      have h3 := ha.head (b + 1)
      generalize (cods a).headD nilC = c0 at *
      unfold repC
      split
      · simp; omega
      · split
        · simp; omega
        · simp; omega
    · simp; omega
theorem codT_len (t : TN) (b : Nat) : (codT t b).length + 2 ≤ 4 * (szF t.args + 1) := (BL_all (.cons t.op t.st t.lo t.hi t.g t.args .nil)).1 b
def EXP : F → List Int → Prop
  | .nil, [] => True
  | .cons _ _ _ _ _ a r, x :: xs => 0 ≤ x ∧ (x ≤ 4096 → ((szF a : Nat) : Int) + 1 ≤ x) ∧ EXP r xs
  | _, _ => False
theorem foldl_sum : ∀ (ps : List Int) (a : Int), ps.foldl (· + ·) a = a + ps.sum
  | [], a => by simp
  | x :: r, a => by rw [List.foldl_cons, foldl_sum r, List.sum_cons]; omega
theorem EXP.sum : ∀ {f : F} {ps : List Int}, EXP f ps → 0 ≤ ps.sum ∧ (ps.sum ≤ 4096 → ((szF f : Nat) : Int) ≤ ps.sum)
  | .nil, [], _ => by simp [szF]
  | .nil, _ :: _, h => h.elim
  | .cons .., [], h => h.elim
  | .cons o s l hh g a r, x :: xs, h => by
    obtain ⟨h1, h2, h3⟩ := h
    obtain ⟨k1, k2⟩ := EXP.sum h3
    rw [List.sum_cons]
    refine ⟨by omega, fun h4 => ?_⟩
    have := h2 (by omega)
    have := k2 (by omega)
    show ((szF a + 1 + szF r : Nat) : Int) ≤ _
    omega
theorem szF_push (t : TN) : ∀ f : F, szF (f.push t) = szF f + (szF t.args + 1)
  | .nil => by show szF t.args + 1 + 0 = 0 + _; omega
  | .cons o s l h g a r => by show szF a + 1 + szF (r.push t) = szF a + 1 + szF r + _; rw [szF_push t r]; omega
theorem szF_times (t : TN) : ∀ (n : Nat) (f : F), szF (timesF n t f) = szF f + n * (szF t.args + 1)
  | 0, f => by simp [timesF]
  | n + 1, f => by rw [timesF, szF_times t n, szF_push, Nat.succ_mul]; omega
theorem sz_catT (f : F) : szF (catT f).args + 1 = if f.len = 1 then szF f else szF f + 1 := by
  cases f with
  | nil => rfl
  | cons o s l h g a r => cases r with
    | nil => show szF a + 1 = if 0 + 1 = 1 then szF a + 1 + 0 else _; simp
    | cons o2 s2 l2 h2 g2 a2 r2 => show _ = if r2.len + 1 + 1 = 1 then _ else _; rw [if_neg (by omega)]; rfl
theorem capI (u n : Int) (h : u ≤ 4096 → n ≤ u) : (if 4097 < u then (4097 : Int) else u) ≤ 4096 → n ≤ if 4097 < u then 4097 else u := by
  intro hle
  by_cases hu : 4097 < u
  · rw [if_pos hu] at hle
    omega
  · rw [if_neg hu] at hle ⊢
    exact h hle
theorem EXP_all : ∀ (f : F) (G : Nat → List Int), okE f → bkF f = false → EXP (expF f) (valF exsT f G).1
  | .nil, _, _, _ => trivial
  | .cons o s l h g a r, G, hok, hbk => by
    simp only [bkF, Bool.or_eq_false_iff, decide_eq_false_iff_not] at hbk
    obtain ⟨o9, hba, hbr⟩ := hbk
    rw [valF, if_neg o9]
    have ha := EXP_all a G hok.2.1 hba
    obtain ⟨s0, s1⟩ := ha.sum
    refine ⟨?_, ?_, EXP_all r _ hok.2.2 hbr⟩
    all_goals generalize (valF exsT a G).1 = ps at *
    · unfold exsT
      rw [if_neg o9]
      by_cases o5 : o = 5
      · rw [if_pos o5]
        obtain ⟨hl1, hl, hh⟩ := hok.1.2 o5
        obtain ⟨⟨c1, c2⟩, ⟨e1, e2⟩⟩ := bounds_cr l h hl hh
        obtain ⟨o1, s1', l1, h1, g1, a1, rfl⟩ := len1 hl1
        cases ps with
        | nil => exact ha.elim
        | cons x xs =>
          have hx : 0 ≤ x := ha.1
          have m1 := Int.mul_nonneg c1 hx
          have m2 := Int.mul_nonneg e1 (show (0 : Int) ≤ x + 1 by omega)
          show (0 : Int) ≤ if 4097 < _ then _ else _
          simp only [List.headD_cons]
          split <;> split <;> omega
      · rw [if_neg o5]
        dsimp only
        rw [foldl_sum]
        split <;> omega
    · unfold exsT
      rw [if_neg o9]
      unfold expN
      by_cases o5 : o = 5
      · rw [if_pos o5, if_pos o5]
        obtain ⟨hl1, hl, hh⟩ := hok.1.2 o5
        obtain ⟨⟨c1, c2⟩, ⟨e1, e2⟩⟩ := bounds_cr l h hl hh
        obtain ⟨o1, s1', l1, h1, g1, a1, rfl⟩ := len1 hl1
        cases ps with
        | nil => exact ha.elim
        | cons x xs =>
          have hx : 0 ≤ x := ha.1
          have hy : x ≤ 4096 → ((szF ((expF (.cons o1 s1' l1 h1 g1 a1 .nil)).nth 0).args : Nat) : Int) + 1 ≤ x := ha.2.1
          generalize (expF (.cons o1 s1' l1 h1 g1 a1 .nil)).nth 0 = y at *
          have m1 := Int.mul_nonneg c1 hx
          have m2 := Int.mul_nonneg e1 (show (0 : Int) ≤ x + 1 by omega)
          have hlen : (seqF ⟨o, s, l, h, g, .cons o1 s1' l1 h1 g1 a1 .nil⟩ y).len = (cpT l h).toNat + (rpT l h).toNat := by
            show (timesF (rpT l h).toNat (repT (loT l h) (hiT l h) y) (timesF (cpT l h).toNat y .nil)).len = _
            rw [timesF_len, timesF_len]
            show 0 + (cpT l h).toNat + (rpT l h).toNat = _
            omega
          have hsz : szF (seqF ⟨o, s, l, h, g, .cons o1 s1' l1 h1 g1 a1 .nil⟩ y) = (cpT l h).toNat * (szF y.args + 1) + (rpT l h).toNat * (szF y.args + 2) := by
            show szF (timesF (rpT l h).toNat (repT (loT l h) (hiT l h) y) (timesF (cpT l h).toNat y .nil)) = _
            rw [szF_times, szF_times]
            have e : szF (repT (loT l h) (hiT l h) y).args = szF y.args + 1 := by show szF y.args + 1 + 0 = _; omega
            rw [e]
            show 0 + (cpT l h).toNat * _ + (rpT l h).toNat * (szF y.args + 2) = _
            omega
          show (if 4097 < _ then (4097 : Int) else _) ≤ 4096 → ((szF (catT _).args : Nat) : Int) + 1 ≤ if 4097 < _ then (4097 : Int) else _
          simp only [List.headD_cons]
          refine capI _ _ (fun hle => ?_)
          have hc := sz_catT (seqF ⟨o, s, l, h, g, .cons o1 s1' l1 h1 g1 a1 .nil⟩ y)
          rw [hlen, hsz] at hc
          generalize seqF ⟨o, s, l, h, g, .cons o1 s1' l1 h1 g1 a1 .nil⟩ y = q at *
          obtain ⟨C, hC⟩ : ∃ C : Nat, cpT l h = (C : Int) := ⟨(cpT l h).toNat, by omega⟩
          obtain ⟨R, hR⟩ : ∃ R : Nat, rpT l h = (R : Int) := ⟨(rpT l h).toNat, by omega⟩
          simp only [hC, hR] at hle hc m1 m2 ⊢
          simp only [Int.toNat_natCast] at hc
          have key : x ≤ 4096 → ((C * (szF y.args + 1) + R * (szF y.args + 2) : Nat) : Int) ≤ C * x + R * (x + 1) := fun hx4 => by
            have hy' := hy hx4
            have k1 : ((C : Int)) * ((szF y.args : Int) + 1) ≤ C * x := Int.mul_le_mul_of_nonneg_left hy' (by omega)
            have k2 : ((R : Int)) * ((szF y.args : Int) + 2) ≤ R * (x + 1) := Int.mul_le_mul_of_nonneg_left (by omega) (by omega)
            simp only [Int.natCast_add, Int.natCast_mul]
            have e1 : ((1 : Nat) : Int) = 1 := rfl
            have e2 : ((2 : Nat) : Int) = 2 := rfl
            rw [e1, e2]
            omega
          have big : ¬ x ≤ 4096 → 1 ≤ C + R → 4096 < (C : Int) * x + R * (x + 1) := fun h1 h2 => by
            by_cases hC0 : C = 0
            · have hR1 : (1 : Int) ≤ R := by omega
              have := Int.mul_le_mul_of_nonneg_right hR1 (show (0 : Int) ≤ x + 1 by omega)
              omega
            · have hC1 : (1 : Int) ≤ C := by omega
              have := Int.mul_le_mul_of_nonneg_right hC1 hx
              omega
          by_cases h01 : C + R = 0
          · have h0 : C = 0 := by omega
            have h1 : R = 0 := by omega
            subst h0 h1
            simp at hc hle ⊢
            omega
          by_cases hCR : C + R = 1
          · have hCI : (C : Int) + R = 1 := by omega
            rw [if_pos hCR] at hc
            rw [if_pos hCI] at hle ⊢
            by_cases hx4 : x ≤ 4096
            · have := key hx4
              omega
            · have := big hx4 (by omega)
              omega
          · have hCI : ¬ (C : Int) + R = 1 := by omega
            rw [if_neg hCR] at hc
            rw [if_neg hCI] at hle ⊢
            by_cases hx4 : x ≤ 4096
            · have := key hx4
              omega
            · have := big hx4 (by omega)
              omega
      · rw [if_neg o5, if_neg o5]
        dsimp only
        rw [foldl_sum]
        intro hle
        split at hle
        · omega
        · split
          · omega
          · have := s1 (by omega)
            omega
theorem exp_size {t : TN} (hok : okE t.f) (hbk : bkF t.f = false) (h : valT exsT t ≤ 4096) : szF (expT t).args + 1 ≤ 4096 := by
  have h1 := EXP_all t.f G0 hok hbk
  unfold TN.f at h1
  rw [valF_cons] at h1
  obtain ⟨_, h2, _⟩ := h1
  have h3 := h2 h
  have h4 : ((szF (expT t).args : Nat) : Int) + 1 ≤ valT exsT t := h3
  omega
theorem cod_short {t : TN} (hok : okE t.f) (hbk : bkF t.f = false) (h : valT exsT t ≤ 4096) (b : Nat) : (codT (expT t) b).length ≤ 16384 := by
  have h1 := exp_size hok hbk h
  have h2 := codT_len (expT t) b
  omega
end Go.Proofs.YtbjobbkipmkndaaDoor
