/- RpPlm, RpLawG. -/
import Derived.Test.YtbjobbkipmkndaaDoorPv25
import Derived.Test.YtbjobbkipmkndaaDoorPv18
import Derived.Test.YtbjobbkipmkndaaDoorPv21
import Derived.Test.YtbjobbkipmkndaaDoorPv23
import Derived.Deep.QuietTactic
import Derived.BigQuiet
set_option linter.unusedVariables false
set_option linter.unusedSimpArgs false
namespace Go.Proofs.YtbjobbkipmkndaaDoor
open Go.RowKit
theorem codT_T0 : codT T0 = nilC := by funext b; rfl
theorem nth0_cod (f : F) : codT (f.nth 0) = (cods f).headD nilC := by
  cases f with
  | nil => exact codT_T0
  | cons o s l h g a r => rfl
theorem codT_catT (f : F) : codT (catT f) = catC (cods f) := by
  cases f with
  | nil => funext b; rfl
  | cons o s l h g a r => cases r with
    | nil => rw [cods_cons]; exact (catC_one _).symm
    | cons _ _ _ _ _ _ _ =>
      funext b
      show codN 3 noSet 0 0 (cods _) b = _
      unfold codN
      rw [if_neg (by decide), if_neg (by decide), if_neg (by decide), if_pos (by decide)]
      rfl
theorem codT_repT (l h : Int) (y : TN) : codT (repT l h y) = repC l h (codT y) := by
  funext b
  show codN 5 noSet l h (cods (F.nil.push y)) b = _
  simp [codN, F.push, cods, codT]
theorem cods_seqF (t y : TN) : cods (seqF t y) = List.replicate (cpT t.lo t.hi).toNat (codT y) ++ List.replicate (rpT t.lo t.hi).toNat (repC (loT t.lo t.hi) (hiT t.lo t.hi) (codT y)) := by
  unfold seqF
  rw [cods_times, cods_times, codT_repT]
  rfl
def xcN (o : Int) (st : Nat → Bool) (l h : Int) (cs : List Cd) : Cd :=
  if o = 5 then catC (List.replicate (cpT l h).toNat (cs.headD nilC) ++ List.replicate (rpT l h).toNat (repC (loT l h) (hiT l h) (cs.headD nilC))) else codN o st l h cs
theorem codT_expN (t : TN) (ea : F) : codT (expN t ea) = xcN t.op t.st t.lo t.hi (cods ea) := by
  unfold expN xcN
  by_cases o5 : t.op = 5
  · rw [if_pos o5, if_pos o5, codT_catT, cods_seqF, nth0_cod]
  · rw [if_neg o5, if_neg o5]
    rfl
theorem cods_expF_cons (o : Int) (s : Nat → Bool) (l h g : Int) (a r : F) : cods (expF (.cons o s l h g a r)) = xcN o s l h (cods (expF a)) :: cods (expF r) := by
  show codT (expN ⟨o, s, l, h, g, a⟩ (expF a)) :: _ = _
  rw [codT_expN]
theorem codT_expT (t : TN) : codT (expT t) = xcN t.op t.st t.lo t.hi (cods (expF t.args)) := codT_expN t _
theorem codT_grp (t : TN) (h6 : t.op = 6) (h1 : t.args.len = 1) : codT (expT t) = (cods (expF t.args)).headD nilC := by
  rw [codT_expT, h6]
  unfold xcN
  rw [if_neg (by decide)]
  obtain ⟨o1, s1, l1, h1', g1, a1, e⟩ := len1 h1
  rw [e]
  funext b
  have e2 : cods (expF (.cons o1 s1 l1 h1' g1 a1 .nil)) = [xcN o1 s1 l1 h1' (cods (expF a1))] := by rw [cods_expF_cons]; rfl
  rw [e2]
  simp [codN, catC]
theorem cods_pl : ∀ f : F, cods (expF (plF f)) = cods (expF f)
  | .nil => rfl
  | .cons o s l h g a r => by
    have ha := cods_pl a
    have hr := cods_pl r
    have key : codT (expT (plN ⟨o, s, l, h, g, a⟩ (plF a))) = codT (expT ⟨o, s, l, h, g, a⟩) := by
      unfold plN
      by_cases h6 : o = 6 ∧ a.len = 1
      · rw [if_pos h6, codT_grp ⟨o, s, l, h, g, a⟩ h6.1 h6.2]
        show codT (expT ((plF a).nth 0)) = (cods (expF a)).headD nilC
        rw [← ha, ← nth0_cod, expF_nth _ _ (by rw [plF_len]; omega)]
      · rw [if_neg h6, codT_expT, codT_expT, ha]
    show codT (expT (plN ⟨o, s, l, h, g, a⟩ (plF a))) :: cods (expF (plF r)) = codT (expT ⟨o, s, l, h, g, a⟩) :: cods (expF r)
    rw [key, hr]
theorem prg_pl (t : TN) : prgT (expT (plT t)) = prgT (expT t) := by
  have h := cods_pl (.cons t.op t.st t.lo t.hi t.g t.args .nil)
  have h1 : codT (expT (plT t)) = codT (expT t) := (List.cons.inj h).1
  unfold prgT
  rw [h1]
theorem pl_bk : ∀ f : F, bkF f = false → bkF (plF f) = false
  | .nil, _ => rfl
  | .cons o s l h g a r, hb => by
    simp only [bkF, Bool.or_eq_false_iff, decide_eq_false_iff_not] at hb
    obtain ⟨h9, ha, hr⟩ := hb
    have pa := pl_bk a ha
    have pr := pl_bk r hr
    show bkF (.cons (plN ⟨o, s, l, h, g, a⟩ (plF a)).op _ _ _ _ (plN ⟨o, s, l, h, g, a⟩ (plF a)).args (plF r)) = false
    unfold plN
    by_cases h6 : o = 6 ∧ a.len = 1
    · rw [if_pos h6]
      obtain ⟨o1, s1, l1, h1, g1, a1, e⟩ := len1 (show (plF a).len = 1 by rw [plF_len]; exact h6.2)
      rw [e] at pa ⊢
      simp only [bkF, Bool.or_eq_false_iff] at pa ⊢
      exact ⟨pa.1, pa.2.1, pr⟩
    · rw [if_neg h6]
      simp only [bkF, Bool.or_eq_false_iff, decide_eq_false_iff_not]
      exact ⟨h9, pa, pr⟩
theorem pl_sz : ∀ f : F, szF (plF f) ≤ szF f ∧ lvlF (plF f) ≤ lvlF f
  | .nil => ⟨Nat.le_refl _, Nat.le_refl _⟩
  | .cons o s l h g a r => by
    obtain ⟨a1, a2⟩ := pl_sz a
    obtain ⟨r1, r2⟩ := pl_sz r
    show szF (.cons _ _ _ _ _ (plN ⟨o, s, l, h, g, a⟩ (plF a)).args (plF r)) ≤ _ ∧ lvlF (.cons _ _ _ _ _ (plN ⟨o, s, l, h, g, a⟩ (plF a)).args (plF r)) ≤ _
    unfold plN
    by_cases h6 : o = 6 ∧ a.len = 1
    · rw [if_pos h6]
      obtain ⟨o1, s1, l1, h1, g1, a1', e⟩ := len1 (show (plF a).len = 1 by rw [plF_len]; exact h6.2)
      rw [e] at a1 a2 ⊢
      have a1 : szF a1' + 1 + 0 ≤ szF a := a1
      have a2 : max (lvlF a1' + 1) 0 ≤ lvlF a := a2
      constructor
      · show szF a1' + 1 + szF (plF r) ≤ szF a + 1 + szF r
        omega
      · show max (lvlF a1' + 1) (lvlF (plF r)) ≤ max (lvlF a + 1) (lvlF r)
        omega
    · rw [if_neg h6]
      constructor
      · show szF (plF a) + 1 + szF (plF r) ≤ szF a + 1 + szF r
        omega
      · show max (lvlF (plF a) + 1) (lvlF (plF r)) ≤ max (lvlF a + 1) (lvlF r)
        omega
theorem havT_6' {n : Nat} (h : havT 6 n = true) : n = 1 := by simpa [havT] using h
theorem okN_any {o : Int} {s : Nat → Bool} {l h g : Int} {n : Nat} {c c0 : List Bool} (h1 : okN o s l h g n c = true) (h6 : ¬ o = 6) (h9 : ¬ o = 9) : okN o s l h g n c0 = true := by
  unfold okN at h1 ⊢
  rw [decide_eq_false h6, decide_eq_false h9] at h1 ⊢
  exact h1
theorem pl_vF : ∀ (f : F) (c d c0 : List Bool), vF f c = some d → bkF f = false → vF (plF f) c0 = some c0
  | .nil, _, _, _, _, _ => rfl
  | .cons o s l hh g a r, c, d, c0, h, hb => by
    simp only [bkF, Bool.or_eq_false_iff, decide_eq_false_iff_not] at hb
    obtain ⟨h9, hba, hbr⟩ := hb
    rw [vF] at h
    by_cases hok : okN o s l hh g a.len c = true
    case neg => rw [if_neg hok] at h; cases h
    rw [if_pos hok] at h
    have hp := okN_parts hok
    have hhav : havT o a.len = true := by have := hp.1; unfold fldT at this; simp only [Bool.and_eq_true] at this; exact this.1
    cases hva : vF a (if o = 6 then c ++ [false] else c) with
    | none => rw [hva] at h; cases h
    | some e =>
      rw [hva] at h
      replace h : vF r (if o = 6 then e.set c.length true else e) = some d := h
      have ka := pl_vF a _ _ c0 hva hba
      have kr := pl_vF r _ _ c0 h hbr
      show vF (.cons (plN ⟨o, s, l, hh, g, a⟩ (plF a)).op (plN ⟨o, s, l, hh, g, a⟩ (plF a)).st (plN ⟨o, s, l, hh, g, a⟩ (plF a)).lo (plN ⟨o, s, l, hh, g, a⟩ (plF a)).hi (plN ⟨o, s, l, hh, g, a⟩ (plF a)).g (plN ⟨o, s, l, hh, g, a⟩ (plF a)).args (plF r)) c0 = some c0
      unfold plN
      by_cases h6 : o = 6
      · subst h6
        have h1 := havT_6' hhav
        rw [if_pos ⟨rfl, h1⟩]
        obtain ⟨o1, s1, l1, h1', g1, a1, e1⟩ := len1 (show (plF a).len = 1 by rw [plF_len]; exact h1)
        rw [e1] at ka ⊢
        rw [vF] at ka
        show vF (.cons o1 s1 l1 h1' g1 a1 (plF r)) c0 = some c0
        rw [vF]
        by_cases hok1 : okN o1 s1 l1 h1' g1 a1.len c0 = true
        case neg => rw [if_neg hok1] at ka; cases ka
        rw [if_pos hok1] at ka ⊢
        cases hv1 : vF a1 (if o1 = 6 then c0 ++ [false] else c0) with
        | none => rw [hv1] at ka; cases ka
        | some e2 =>
          rw [hv1] at ka
          have ka : some (if o1 = 6 then e2.set c0.length true else e2) = some c0 := ka
          show vF (plF r) (if o1 = 6 then e2.set c0.length true else e2) = some c0
          rw [Option.some.inj ka]
          exact kr
      · rw [if_neg (fun k => h6 k.1)]
        rw [vF]
        have hok1 : okN o s l hh g (plF a).len c0 = true := by rw [plF_len]; exact okN_any hok h6 h9
        rw [if_pos hok1, if_neg h6, ka]
        show vF (plF r) (if o = 6 then c0.set c0.length true else c0) = some c0
        rw [if_neg h6]
        exact kr
theorem pl_valid {t : TN} (h : Valid t) (hb : bkF t.f = false) : Valid (plT t) ∧ bkF (plT t).f = false := by
  obtain ⟨c, h1, h2, h3, h4⟩ := h
  have e : (plT t).f = plF t.f := rfl
  have hs := pl_sz t.f
  exact ⟨⟨[], by rw [e]; exact pl_vF t.f _ _ [] h1 hb, by simp, by rw [e]; omega, by rw [e]; omega⟩, by rw [e]; exact pl_bk _ hb⟩
def PLE : List Int → List Int → Prop
  | [], [] => True
  | x :: xs, y :: ys => (0 ≤ x ∧ x ≤ y) ∧ PLE xs ys
  | _, _ => False
theorem PLE.sum : ∀ {xs ys : List Int}, PLE xs ys → 0 ≤ xs.sum ∧ xs.sum ≤ ys.sum
  | [], [], _ => ⟨Int.le_refl _, Int.le_refl _⟩
  | [], _ :: _, h => h.elim
  | _ :: _, [], h => h.elim
  | x :: xs, y :: ys, h => by
    have := PLE.sum h.2
    have := h.1
    simp only [List.sum_cons]
    omega
theorem PLE.head {xs ys : List Int} (h : PLE xs ys) : 0 ≤ xs.headD 0 ∧ xs.headD 0 ≤ ys.headD 0 := by
  match xs, ys, h with
  | [], [], _ => exact ⟨Int.le_refl _, Int.le_refl _⟩
  | x :: xs, y :: ys, h => exact h.1
theorem exs_mono (o l h g : Int) (s : Nat → Bool) (a a' : F) (xs ys : List Int) (hx : PLE xs ys) (hl : o = 5 → (0 ≤ l ∧ l ≤ 64) ∧ (h = -1 ∨ (l ≤ h ∧ h ≤ 64))) : 0 ≤ exsT ⟨o, s, l, h, g, a⟩ xs ∧ exsT ⟨o, s, l, h, g, a⟩ xs ≤ exsT ⟨o, s, l, h, g, a'⟩ ys := by
  unfold exsT
  dsimp only
  by_cases o9 : o = 9
  · rw [if_pos o9, if_pos o9]; decide
  rw [if_neg o9, if_neg o9]
  by_cases o5 : o = 5
  · rw [if_pos o5, if_pos o5]
    obtain ⟨r1, r2⟩ := hl o5
    obtain ⟨⟨c1, c2⟩, ⟨e1, e2⟩⟩ := bounds_cr l h r1 r2
    obtain ⟨h0, h1⟩ := hx.head
    generalize xs.headD 0 = x at *
    generalize ys.headD 0 = y at *
    have m1 := Int.mul_le_mul_of_nonneg_left h1 c1
    have m2 := Int.mul_le_mul_of_nonneg_left (show x + 1 ≤ y + 1 by omega) e1
    have m3 := Int.mul_nonneg c1 h0
    have m4 := Int.mul_nonneg e1 (show (0 : Int) ≤ x + 1 by omega)
    by_cases hc : cpT l h + rpT l h = 1
    · simp only [if_pos hc]
      constructor
      · split <;> omega
      · split <;> split <;> omega
    · simp only [if_neg hc]
      constructor
      · split <;> omega
      · split <;> split <;> omega
  · rw [if_neg o5, if_neg o5]
    rw [foldl_sum, foldl_sum]
    have := hx.sum
    constructor
    · split <;> omega
    · split <;> split <;> omega
theorem exs_grp (l h g : Int) (s : Nat → Bool) (a : F) (y : Int) : exsT ⟨6, s, l, h, g, a⟩ [y] = if 4097 < 1 + y then 4097 else 1 + y := by
  unfold exsT
  rw [if_neg (show ¬ (6 : Int) = 9 by decide), if_neg (show ¬ (6 : Int) = 5 by decide)]
  rfl
theorem pl_exs : ∀ (f : F) (G G' : Nat → List Int), okE f → bkF f = false → PLE (valF exsT (plF f) G).1 (valF exsT f G').1 ∧ ∀ x, x ∈ (valF exsT (plF f) G).1 → x ≤ 4097
  | .nil, _, _, _, _ => ⟨trivial, fun _ h => by cases h⟩
  | .cons o s l h g a r, G, G', hok, hbk => by
    simp only [bkF, Bool.or_eq_false_iff, decide_eq_false_iff_not] at hbk
    obtain ⟨o9, hba, hbr⟩ := hbk
    have hcap : ∀ (t : TN) (ps : List Int), exsT t ps ≤ 4097 := fun t ps => by
      unfold exsT
      split
      · decide
      · split
        · dsimp only; split <;> split <;> omega
        · dsimp only; split <;> omega
    rw [show valF exsT (.cons o s l h g a r) G' = (exsT ⟨o, s, l, h, g, a⟩ (valF exsT a G').1 :: (valF exsT r (if o = 6 then upG (valF exsT a G').2 g.toNat (valF exsT a G').1 else (valF exsT a G').2)).1, (valF exsT r (if o = 6 then upG (valF exsT a G').2 g.toNat (valF exsT a G').1 else (valF exsT a G').2)).2) by rw [valF, if_neg o9]]
    rw [show plF (.cons o s l h g a r) = .cons (plN ⟨o, s, l, h, g, a⟩ (plF a)).op (plN ⟨o, s, l, h, g, a⟩ (plF a)).st (plN ⟨o, s, l, h, g, a⟩ (plF a)).lo (plN ⟨o, s, l, h, g, a⟩ (plF a)).hi (plN ⟨o, s, l, h, g, a⟩ (plF a)).g (plN ⟨o, s, l, h, g, a⟩ (plF a)).args (plF r) from rfl, valF_cons]
    have hr := pl_exs r (valN exsT (plN ⟨o, s, l, h, g, a⟩ (plF a)) G).2 (if o = 6 then upG (valF exsT a G').2 g.toNat (valF exsT a G').1 else (valF exsT a G').2) hok.2.2 hbr
    have ha := pl_exs a G G' hok.2.1 hba
    have key : (0 ≤ (valN exsT (plN ⟨o, s, l, h, g, a⟩ (plF a)) G).1 ∧ (valN exsT (plN ⟨o, s, l, h, g, a⟩ (plF a)) G).1 ≤ exsT ⟨o, s, l, h, g, a⟩ (valF exsT a G').1) ∧ (valN exsT (plN ⟨o, s, l, h, g, a⟩ (plF a)) G).1 ≤ 4097 := by
      unfold plN
      by_cases h6 : o = 6 ∧ a.len = 1
      · rw [if_pos h6]
        obtain ⟨h6a, h6b⟩ := h6
        subst h6a
        obtain ⟨o1, s1, l1, h1, g1, a1, e⟩ := len1 (show (plF a).len = 1 by rw [plF_len]; exact h6b)
        rw [e] at ha ⊢
        rw [valF_cons] at ha
        obtain ⟨hp, hc⟩ := ha
        have hv := hc _ (List.mem_cons_self ..)
        show (0 ≤ (valN exsT ⟨o1, s1, l1, h1, g1, a1⟩ G).1 ∧ (valN exsT ⟨o1, s1, l1, h1, g1, a1⟩ G).1 ≤ _) ∧ (valN exsT ⟨o1, s1, l1, h1, g1, a1⟩ G).1 ≤ 4097
        generalize (valN exsT ⟨o1, s1, l1, h1, g1, a1⟩ G).1 = x at *
        match hq : (valF exsT a G').1, hp with
        | [], hp => exact hp.elim
        | y :: ys, hp =>
          have hl := valF_len exsT a G'
          rw [hq, h6b] at hl
          have : ys = [] := List.eq_nil_of_length_eq_zero (by simpa using hl)
          subst this
          rw [exs_grp]
          have := hp.1
          refine ⟨⟨hp.1.1, ?_⟩, hv⟩
          split <;> omega
      · rw [if_neg h6]
        show (0 ≤ (valN exsT ⟨o, s, l, h, g, plF a⟩ G).1 ∧ _) ∧ _
        rw [valN, if_neg o9]
        have := exs_mono o l h g s (plF a) a _ _ ha.1 (fun o5 => (hok.1.2 o5).2)
        exact ⟨this, hcap _ _⟩
    refine ⟨⟨key.1, hr.1⟩, fun x hx => ?_⟩
    rcases List.mem_cons.1 hx with rfl | hx
    · exact key.2
    · exact hr.2 x hx
theorem pl_exsT {t : TN} (hok : okE t.f) (hb : bkF t.f = false) : valT exsT (plT t) ≤ valT exsT t := by
  have h := (pl_exs t.f G0 G0 hok hb).1
  unfold TN.f at h
  rw [show plF (.cons t.op t.st t.lo t.hi t.g t.args .nil) = .cons (plT t).op (plT t).st (plT t).lo (plT t).hi (plT t).g (plT t).args .nil from rfl, valF_cons, valF_cons] at h
  exact h.1.2
theorem cmp_pl {t : TN} (h : (cmpT t).2 = 0) : cmpT (plT t) = (prgT (expT t), 0) := by
  obtain ⟨h1, h2, h3, h4, h5⟩ := cmp_ok h
  have hv := (checkT_iff t).1 h1
  have hb : bkF t.f = false := by rw [← survT_bk h1]; exact h2
  obtain ⟨p1, p2⟩ := pl_valid hv hb
  have q1 := (checkT_iff _).2 p1
  have q2 : (survT (plT t)).bk = false := by rw [survT_bk q1]; exact p2
  have q3 := pl_exsT (okE_valid hv) hb
  unfold cmpT
  rw [if_pos q1, if_neg (by rw [q2]; decide), if_neg (by omega), prg_pl, if_neg (by omega)]
end Go.Proofs.YtbjobbkipmkndaaDoor
set_option linter.unusedVariables false
set_option linter.unusedSimpArgs false
set_option maxRecDepth 100000
set_option maxHeartbeats 8000000
namespace Go.Proofs.YtbjobbkipmkndaaDoor
open Go.RowKit
theorem pl_step (f : F) (hch : ∀ i, i < f.len → PlG (f.nth i).args) : PlG f := by
  intro o l h g st sv w S hsv hS hlen hsh
  unfold plT plN
  by_cases o6 : o = 6
  · subst o6
    by_cases h1 : f.len = 1
    · rw [if_pos ⟨rfl, h1⟩]
      have := pl_group f hch h1 l h g st sv w S hsv hS hsh
      rw [show (plF (⟨6, st, l, h, g, f⟩ : TN).args).nth 0 = plT (f.nth 0) from plF_nth f 0 (by omega)]
      exact this
    · rw [if_neg (fun k => h1 k.2)]
      exact pl_nodeb f hch l h g st sv w S hsv hS hlen hsh h1
  · rw [if_neg (fun k => o6 k.1)]
    exact pl_nodea f hch o l h g st sv w S hsv hS hlen hsh (by simpa using o6)
theorem pl_all : ∀ (f : F) (i : Nat), i < f.len → PlG (f.nth i).args
  | .nil, i, h => by cases h
  | .cons o s l h g a r, 0, hi => pl_step a (pl_all a)
  | .cons o s l h g a r, i + 1, hi => pl_all r i (by have : i + 1 < r.len + 1 := hi; omega)
theorem pl_any (f : F) : PlG f := pl_step f (pl_all f)
theorem pl_fits : ∀ f : F, f.fits → (plF f).fits
  | .nil, _ => trivial
  | .cons o s l h g a r, hf => by
    have ha := pl_fits a hf.2.2.1
    have hr := pl_fits r hf.2.2.2
    refine fits_cons.2 ⟨?_, hr⟩
    show fitN (plN ⟨o, s, l, h, g, a⟩ (plF a))
    unfold plN
    by_cases h6 : o = 6 ∧ a.len = 1
    · rw [if_pos h6]
      exact fits_nth0 ha (by rw [plF_len]; omega)
    · rw [if_neg h6]
      exact ⟨hf.1, by show (plF a).len ≤ maxLen; rw [plF_len]; exact hf.2.1, ha, trivial⟩
theorem pl_fitN {t : TN} (h : fitN t) : fitN (plT t) := by
  have := pl_fits (.cons t.op t.st t.lo t.hi t.g t.args .nil) h
  exact (fits_cons.1 this).1
theorem plain_ti {w : World} {t : TN} {sv : Value} (h : TI w t sv) (hN : fitN t) (hs : t.args.len ≤ 1599289640354 ∧ shF t.args) : Calls Tryd.prog 14 #[.agg #[.int .i64 t.op, .int .u64 (wd t.st 0 64 : Nat), .int .u64 (wd t.st 64 64 : Nat), .int .u64 (wd t.st 128 64 : Nat), .int .u64 (wd t.st 192 64 : Nat), .int .i64 t.lo, .int .i64 t.hi, .int .i64 t.g, sv]] w fun e w' => ∃ sv', e = .returned (.agg #[.int .i64 (plT t).op, .int .u64 (wd (plT t).st 0 64 : Nat), .int .u64 (wd (plT t).st 64 64 : Nat), .int .u64 (wd (plT t).st 128 64 : Nat), .int .u64 (wd (plT t).st 192 64 : Nat), .int .i64 (plT t).lo, .int .i64 (plT t).hi, .int .i64 (plT t).g, sv']) ∧ TI w' (plT t) sv' ∧ Below w.heap.size w w' := by
  obtain ⟨S, h1, h2, h3⟩ := h
  refine (pl_any t.args t.op t.lo t.hi t.g t.st sv w S h1 h2 hs.1 hs.2).mono ?_
  rintro e w' ⟨sv', rfl, k1, k2⟩
  have hf := pl_fitN hN
  exact ⟨sv', rfl, ⟨_, SV.low k1, fun b hb => hb.2, ⟨hf.2.1, hf.2.2.1⟩, hf.1.2.2.2⟩, k2⟩
theorem sh_of_sz : ∀ f : F, szF f ≤ 600 → f.len ≤ 600 ∧ shF f
  | .nil, _ => ⟨Nat.zero_le _, trivial⟩
  | .cons o s l h g a r, hz => by
    have hz' : szF a + 1 + szF r ≤ 600 := hz
    have ha := sh_of_sz a (by omega)
    have hr := sh_of_sz r (by omega)
    have hl := len_sz r
    exact ⟨by show r.len + 1 ≤ 600; omega, by omega, ha.2, hr.2⟩
theorem same_any (L : List IN) (v1 v2 : Value) (n m : Nat) (w : World) (h1 : PI w n L v1) (h2 : PI w m L v2) (hl : L.length ≤ 1000000) : Calls Tryd.prog 15 #[v1, v2] w fun e w' => e = .returned (.bool true) ∧ Below w.heap.size w w' := by
  obtain ⟨ad1, cap1, rfl, hc1, hce1⟩ := h1
  obtain ⟨ad2, cap2, rfl, hc2, hce2⟩ := h2
  have hlI : (L.length : Int) ≤ 1000000 := by omega
  have HC1 := Lib.hid hce1
  have HC2 := Lib.hid hce2
  clear hce1 hce2 hc1 hc2
  go_enter Tryd.func15, Tryd.ntmps15
  go_wp2_with fail
  go_loopw [5] (fun i wr => ∃ (k : Nat), k ≤ L.length ∧ i = .int .i64 k ∧ Hid (Below w.heap.size w wr)) (fun i _ => L.length - (intOf i).toNat)
  case atStart => exact ⟨0, Nat.zero_le _, rfl, Lib.hid (Below.refl _ _)⟩
  case round =>
    obtain ⟨k, hk, rfl, HR⟩ := hrel
    by_cases hkn : k < L.length
    · have ki : (k : Int) < L.length := by omega
      have ki0 : (0 : Int) ≤ k := by omega
      obtain ⟨b1, i1, rfl, hbl1, hcc1⟩ : ∃ b i, ad1 = some ⟨b, i, none⟩ ∧ b < w.heap.size ∧ ∀ (k : Nat) (hk : k < L.length) (j : Nat), j < 7 → w.cell? ⟨b, i + k * 7 + j, none⟩ = (rowI (L[k]'hk))[j]? := by
        rcases HC1.out with h1 | ⟨b, i, e1, _, e2, e3⟩
        · omega
        · exact ⟨b, i, e1, e2, e3⟩
      obtain ⟨b2, i2, rfl, hbl2, hcc2⟩ : ∃ b i, ad2 = some ⟨b, i, none⟩ ∧ b < w.heap.size ∧ ∀ (k : Nat) (hk : k < L.length) (j : Nat), j < 7 → w.cell? ⟨b, i + k * 7 + j, none⟩ = (rowI (L[k]'hk))[j]? := by
        rcases HC2.out with h1 | ⟨b, i, e1, _, e2, e3⟩
        · omega
        · exact ⟨b, i, e1, e2, e3⟩
      have hp : ∀ j u, (rowI L[k])[j]? = some u → j < 7 → wr.cell? ⟨b1, i1 + k * 7 + j, none⟩ = some u := fun j u hu hj => (HR.out.cell (by exact hbl1)).trans ((hcc1 k hkn j hj).trans hu)
      have hq : ∀ j u, (rowI L[k])[j]? = some u → j < 7 → wr.cell? ⟨b2, i2 + k * 7 + j, none⟩ = some u := fun j u hu hj => (HR.out.cell (by exact hbl2)).trans ((hcc2 k hkn j hj).trans hu)
      generalize L[k] = i at *
      have p0 := hp 0 _ rfl (by decide)
      have q0 := hq 0 _ rfl (by decide)
      have p1 := hp 1 _ rfl (by decide)
      have q1 := hq 1 _ rfl (by decide)
      have p2 := hp 2 _ rfl (by decide)
      have q2 := hq 2 _ rfl (by decide)
      have p3 := hp 3 _ rfl (by decide)
      have q3 := hq 3 _ rfl (by decide)
      have p4 := hp 4 _ rfl (by decide)
      have q4 := hq 4 _ rfl (by decide)
      have p5 := hp 5 _ rfl (by decide)
      have q5 := hq 5 _ rfl (by decide)
      have p6 := hp 6 _ rfl (by decide)
      have q6 := hq 6 _ rfl (by decide)
      rw [Nat.add_zero] at p0 q0
      have HNq := neq_IN i i
      have he : eqIN i i = true := by unfold eqIN; rw [eqc_self]; simp
      rw [he] at HNq
      clear hp hq hcc1 hcc2 he
      go_upto_region 6 with fail
      go_quiet (fail)
      go_wp2_with fail
      go_roundw
      case rel => exact ⟨k + 1, by omega, by go_num, Lib.hid (below_drewN HR.out _)⟩
      case measure => simp [intOf]; omega
    · obtain rfl : k = L.length := by omega
      go_wp2_with fail
      go_ret
      exact ⟨rfl, HR.out⟩
theorem groups_law (t : TN) (sv : Value) (ln : Bool) (w : World) (h : TI w t sv) (hN : t.args.fits) (hK : KT w) : Calls Tryd.prog 5 #[.agg #[.int .i64 t.op, .int .u64 (wd t.st 0 64 : Nat), .int .u64 (wd t.st 64 64 : Nat), .int .u64 (wd t.st 128 64 : Nat), .int .u64 (wd t.st 192 64 : Nat), .int .i64 t.lo, .int .i64 t.hi, .int .i64 t.g, sv], .bool ln] w fun e w' => e = .returned (.bool true) ∧ Below w.heap.size w w' := by
  obtain ⟨ad, cap, rfl⟩ := h.form
  have hb : Below w.heap.size w (w.alloc (.cells #[.int .i64 t.op, .int .u64 (wd t.st 0 64 : Nat), .int .u64 (wd t.st 64 64 : Nat), .int .u64 (wd t.st 128 64 : Nat), .int .u64 (wd t.st 192 64 : Nat), .int .i64 t.lo, .int .i64 t.hi, .int .i64 t.g, .slice ad t.args.len cap] 34)) := (Below.refl _ _).alloc (Nat.le_refl _) _
  have he := heap_alloc_new w (.cells #[.int .i64 t.op, .int .u64 (wd t.st 0 64 : Nat), .int .u64 (wd t.st 64 64 : Nat), .int .u64 (wd t.st 128 64 : Nat), .int .u64 (wd t.st 192 64 : Nat), .int .i64 t.lo, .int .i64 t.hi, .int .i64 t.g, .slice ad t.args.len cap] 34)
  have HB := Lib.hid hb
  have HC := Lib.hid (compile_ti (h.below hb) ln)
  have HKT := Lib.hid hK
  have HA := Lib.hid (fun W (hW : Below w.heap.size w W) => awake_any W (hK.below hW))
  by_cases hE : (cmpT t).2 = 0
  case neg =>
    have hE2 : ((cmpT t).2 == 0) = false := beq_no hE
    have hl := cmp_err hE
    rw [hl] at HC
    generalize decide ((cmpT t).2 = 0) = db at *
    generalize (cmpT t).2 = er at *
    clear hl h hb hK he
    go_enter Tryd.func5, Tryd.ntmps5
    go_wp2_with (first
      | (go_at_call 13; (with_reducible refine HC.out.mono ?_); rintro e w1 ⟨pv, rfl, hp, hb⟩; have HB1 := Lib.hid (HB.out.trans (hb.mono HB.out.size)); obtain ⟨ap, cp, rfl⟩ := hp.form; have HB1a := Lib.hid (fun x => HB1.out.alloc HB1.out.size x); clear hb hp)
      | (go_at_call 12; (with_reducible refine (HA.out _ (HB1a.out _)).mono ?_); rintro e w2 ⟨rfl, hb⟩; have HB2 := Lib.hid ((HB1a.out _).trans (hb.mono (HB1a.out _).size)); clear hb))
    all_goals go_ret
    all_goals exact ⟨rfl, HB2.out⟩
  case pos =>
    obtain ⟨hc1, hc2, hc3, hc4, hc5⟩ := cmp_ok hE
    have hpl := cmp_pl hE
    have hv := (checkT_iff t).1 hc1
    have hsz : szF t.args ≤ 600 := by
      obtain ⟨c, _, _, h3, _⟩ := hv
      have : szF t.args + 1 + 0 ≤ 600 := h3
      omega
    have hsh := sh_of_sz _ hsz
    have hfN : fitN t := by
      obtain ⟨⟨r1, r2⟩, ⟨r3, r4⟩, r5, r6⟩ := valid_ranges hv
      obtain ⟨S, _, _, k3, k4, k5⟩ := h
      exact ⟨⟨⟨by omega, by omega⟩, ⟨by omega, by omega⟩, ⟨by omega, by omega⟩, k4, k5⟩, k3.1, k3.2, trivial⟩
    rw [hc5, hE] at HC
    simp only [decide_true, Bool.and_true] at HC
    have HP := Lib.hid (fun W (hW : TI W t (.slice ad t.args.len cap)) => plain_ti hW hfN ⟨by omega, hsh.2⟩)
    have HC2 := Lib.hid (fun W sv' (hW : TI W (plT t) sv') => compile_ti hW ln)
    rw [hpl] at HC2
    simp only [decide_true, Bool.and_true] at HC2
    have HTI := Lib.hid (h.below hb)
    generalize plT t = X at *
    generalize prgT (expT t) = L at *
    have HS := Lib.hid (fun W v1 v2 n m (h1 : PI W n L v1) (h2 : PI W m L v2) => same_any L v1 v2 n m W h1 h2 (by omega))
    have HE := Lib.hid he
    obtain ⟨W, hW⟩ : ∃ W, W = w.alloc (.cells #[.int .i64 t.op, .int .u64 (wd t.st 0 64 : Nat), .int .u64 (wd t.st 64 64 : Nat), .int .u64 (wd t.st 128 64 : Nat), .int .u64 (wd t.st 192 64 : Nat), .int .i64 t.lo, .int .i64 t.hi, .int .i64 t.g, .slice ad t.args.len cap] 34) := ⟨_, rfl⟩
    rw [← hW] at HB HC HTI HE
    have HW := Lib.hid hW
    obtain ⟨⟨⟨a0, a1, a2⟩, a3, a4, a5⟩, a6, a7, a8⟩ := nine HE.out
    have hl0 : w.heap.size < W.heap.size := (Array.getElem?_eq_some_iff.1 HE.out).1
    clear h hb hK he hW hc1 hc2 hc3 hc4 hc5 hE hpl hv hsz hsh hfN hN
    go_enter Tryd.func5, Tryd.ntmps5
    go_upto_region 1 with fail
    rw [← HW.out]
    go_wp2_with (first
      | (go_at_call 13; (with_reducible refine HC.out.mono ?_); rintro e w1 ⟨pv, rfl, hp, hb⟩
         have HB1 := Lib.hid (HB.out.trans (hb.mono HB.out.size))
         have HP1 := Lib.hid hp
         have HT1 := Lib.hid (HTI.out.below hb)
         have hr1 := (hb.block w.heap.size hl0).trans HE.out
         obtain ⟨ap, cp, rfl⟩ := hp.form
         clear a0 a1 a2 a3 a4 a5 a6 a7 a8
         obtain ⟨⟨⟨a0, a1, a2⟩, a3, a4, a5⟩, a6, a7, a8⟩ := nine hr1
         have hl1 : w.heap.size < w1.heap.size := (Array.getElem?_eq_some_iff.1 hr1).1
         have HB1a := Lib.hid (fun x => (Below.refl w1.heap.size w1).alloc (Nat.le_refl _) x)
         clear hb hp hr1 hl0)
      | (go_at_call 14; (with_reducible refine (HP.out _ (HT1.out.below (HB1a.out _))).mono ?_); rintro e w2 ⟨sx, rfl, hx, hb⟩
         have hb12 := (HB1a.out (.cells #[.slice ap L.length cp, .bool ln] 24)).trans (hb.mono (HB1a.out _).size)
         have HB2 := Lib.hid (HB1.out.trans (hb12.mono HB1.out.size))
         have HP2 := Lib.hid (HP1.out.below hb12)
         have hbx := (hb.block w1.heap.size (by simp)).trans (heap_alloc_new w1 (.cells #[.slice ap L.length cp, .bool ln] 24))
         have HX2 := Lib.hid hbx
         have HT2 := Lib.hid hx
         clear hb hx hb12 hbx a0 a1 a2 a3 a4 a5 a6 a7 a8 hl1)
      | (go_at_call 13; (with_reducible refine (HC2.out _ _ HT2.out).mono ?_); rintro e w3 ⟨pv3, rfl, hp, hb⟩
         have HB3 := Lib.hid (HB2.out.trans (hb.mono HB2.out.size))
         have HP3 := Lib.hid (HP2.out.below hb)
         have HQ3 := Lib.hid hp
         have hbx := (hb.block w1.heap.size (Array.getElem?_eq_some_iff.1 HX2.out).1).trans HX2.out
         obtain ⟨aq, cq, rfl⟩ := hp.form
         have x0 := cell_of_row w3 w1.heap.size 0 _ _ _ hbx
         have hlx : w1.heap.size < w3.heap.size := (Array.getElem?_eq_some_iff.1 hbx).1
         have HB3a := Lib.hid (fun x => (Below.refl w3.heap.size w3).alloc (Nat.le_refl _) x)
         clear hb hp hbx)
      | (go_at_call 15; (with_reducible refine (HS.out _ _ _ _ _ (HP3.out.below (HB3a.out _)) (HQ3.out.below (HB3a.out _))).mono ?_); rintro e w4 ⟨rfl, hb⟩
         have HB4 := Lib.hid ((HB3.out.trans ((HB3a.out _).mono HB3.out.size)).trans (hb.mono (HB3.out.trans ((HB3a.out _).mono HB3.out.size)).size))
         clear hb)
      | (go_at_call 12; (with_reducible refine (HA.out _ HB4.out).mono ?_); rintro e w5 ⟨rfl, hb⟩; have HB5 := Lib.hid (HB4.out.trans (hb.mono HB4.out.size)); clear hb))
    all_goals go_ret
    all_goals exact ⟨rfl, HB5.out⟩
end Go.Proofs.YtbjobbkipmkndaaDoor
