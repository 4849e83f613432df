/- Values of trees, from the values of their Args: plain mathematics. -/
import Derived.Test.YtpfbpgbgedbalaaRtValid
set_option linter.unusedVariables false
namespace Go.Proofs.Ytpfbpgbgedbalaa
open Go.RowKit

section
variable {T : Type}
def upG (G : Nat → List T) (g : Nat) (ps : List T) : Nat → List T := fun k => if k = g then ps else G k
/-- The values of trees one behind the other, and the Args of the groups behind them. -/
def valF (R : TN → List T → T) : F → (Nat → List T) → List T × (Nat → List T)
  | .nil, G => ([], G)
  | .cons o s l h g a r, G =>
    if o = 9 then (R ⟨o, s, l, h, g, a⟩ (G g.toNat) :: (valF R r G).1, (valF R r G).2)
    else (R ⟨o, s, l, h, g, a⟩ (valF R a G).1 :: (valF R r (if o = 6 then upG (valF R a G).2 g.toNat (valF R a G).1 else (valF R a G).2)).1, (valF R r (if o = 6 then upG (valF R a G).2 g.toNat (valF R a G).1 else (valF R a G).2)).2)
def valN (R : TN → List T → T) (t : TN) (G : Nat → List T) : T × (Nat → List T) :=
  if t.op = 9 then (R t (G t.g.toNat), G) else (R t (valF R t.args G).1, if t.op = 6 then upG (valF R t.args G).2 t.g.toNat (valF R t.args G).1 else (valF R t.args G).2)
theorem valF_cons (R : TN → List T → T) (o : Int) (s : Nat → Bool) (l h g : Int) (a r : F) (G : Nat → List T) :
    valF R (.cons o s l h g a r) G = ((valN R ⟨o, s, l, h, g, a⟩ G).1 :: (valF R r (valN R ⟨o, s, l, h, g, a⟩ G).2).1, (valF R r (valN R ⟨o, s, l, h, g, a⟩ G).2).2) := by
  rw [valF, valN]
  by_cases h9 : o = 9
  · rw [if_pos h9, if_pos h9]
  · rw [if_neg h9, if_neg h9]
theorem valF_len (R : TN → List T → T) : ∀ (f : F) (G : Nat → List T), (valF R f G).1.length = f.len
  | .nil, _ => rfl
  | .cons o s l h g a r, G => by
    rw [valF_cons]
    show (valF R r _).1.length + 1 = r.len + 1
    rw [valF_len R r]
def G0 : Nat → List T := fun _ => []
/-- The value of a whole tree. -/
def valT (R : TN → List T → T) (t : TN) : T := (valN R t G0).1

/-- What a rule may count on. -/
structure PN (I : T → Prop) (t : TN) (ps : List T) : Prop where
  rep : t.op = 5 → ps.length = 1 ∧ 0 ≤ t.lo ∧ t.lo ≤ 64 ∧ (t.hi = -1 ∨ (t.lo ≤ t.hi ∧ t.hi ≤ 64))
  one : t.op = 6 ∨ t.op = 9 → ps.length = 1
  two : t.op = 3 ∨ t.op = 4 → 2 ≤ ps.length
  inv : ∀ x, x ∈ ps → I x
  len : ps.length ≤ 600
/-- A rule may be asked at every node; groups have numbers from 1 to 9. -/
def preF (I : T → Prop) (R : TN → List T → T) : F → (Nat → List T) → Prop
  | .nil, _ => True
  | .cons o s l h g a r, G =>
    (o = 6 ∨ o = 9 → 1 ≤ g ∧ g ≤ 9) ∧ (if o = 9 then PN I ⟨o, s, l, h, g, a⟩ (G g.toNat) ∧ preF I R r G
      else preF I R a G ∧ PN I ⟨o, s, l, h, g, a⟩ (valF R a G).1 ∧ preF I R r (if o = 6 then upG (valF R a G).2 g.toNat (valF R a G).1 else (valF R a G).2))
def preN (I : T → Prop) (R : TN → List T → T) (t : TN) (G : Nat → List T) : Prop :=
  (t.op = 6 ∨ t.op = 9 → 1 ≤ t.g ∧ t.g ≤ 9) ∧ (if t.op = 9 then PN I t (G t.g.toNat) else preF I R t.args G ∧ PN I t (valF R t.args G).1)
theorem preF_cons (I : T → Prop) (R : TN → List T → T) (o : Int) (s : Nat → Bool) (l h g : Int) (a r : F) (G : Nat → List T) :
    preF I R (.cons o s l h g a r) G ↔ preN I R ⟨o, s, l, h, g, a⟩ G ∧ preF I R r (valN R ⟨o, s, l, h, g, a⟩ G).2 := by
  rw [preF, preN, valN]
  by_cases h9 : o = 9
  · simp only [if_pos h9, and_assoc]
  · simp only [if_neg h9, and_assoc]
/-- The groups that are closed have one Arg, and all values are right. -/
def GOk (I : T → Prop) (c : List Bool) (G : Nat → List T) : Prop :=
  (∀ k, c.getD k false = true → (G (k + 1)).length = 1) ∧ ∀ k x, x ∈ G k → I x
theorem havT_5 {n : Nat} (h : havT 5 n = true) : n = 1 := by simpa [havT] using h
theorem havT_6 {n : Nat} (h : havT 6 n = true) : n = 1 := by simpa [havT] using h
theorem havT_3 {n : Nat} (h : havT 3 n = true) : 2 ≤ n := by simpa [havT] using h
theorem havT_4 {n : Nat} (h : havT 4 n = true) : 2 ≤ n := by simpa [havT] using h
theorem vF_grow : ∀ (f : F) (c d : List Bool), vF f c = some d → c.length ≤ d.length ∧ ∀ k, c.getD k false = true → d.getD k false = true
  | .nil, c, d, h => by obtain rfl := Option.some.inj h; exact ⟨Nat.le_refl _, fun _ => id⟩
  | .cons o s l hh g a r, c, d, h => by
    rw [vF] at h
    by_cases hok : okN o s l hh g a.len c = true
    case neg => rw [if_neg hok] at h; cases h
    rw [if_pos hok] at h
    cases hva : vF a (if o = 6 then c ++ [false] else c) with
    | none => rw [hva] at h; cases h
    | some e =>
      rw [hva] at h
      replace h : vF r (if o = 6 then e.set c.length true else e) = some d := h
      have i := vF_grow a _ _ hva
      have j := vF_grow r _ _ h
      by_cases h6 : o = 6
      · rw [if_pos h6] at i j
        simp only [List.length_append, List.length_set, List.length_cons, List.length_nil] at i j
        refine ⟨by omega, fun k hk => j.2 k ?_⟩
        have hkl : k < c.length := by
          refine Decidable.byContradiction fun hn => ?_
          rw [List.getD, List.getElem?_eq_none (by omega)] at hk
          cases hk
        have := i.2 k (by rw [List.getD, List.getElem?_append_left hkl]; exact hk)
        rw [List.getD, List.getElem?_set_ne (by omega)]
        exact this
      · rw [if_neg h6] at i j
        exact ⟨by omega, fun k hk => j.2 k (i.2 k hk)⟩
theorem len_sz : ∀ f : F, f.len ≤ szF f
  | .nil => Nat.le_refl _
  | .cons o s l h g a r => by
    have := len_sz r
    show r.len + 1 ≤ szF a + 1 + szF r
    omega
theorem okN_parts {o : Int} {s : Nat → Bool} {l h g : Int} {n : Nat} {c : List Bool} (hk : okN o s l h g n c = true) :
    fldT o s l h g n = true ∧ (o = 5 → bndT l h = true) ∧ (o = 9 → clB c g = true) ∧ (o = 6 → g = (c.length : Int) + 1) := by
  unfold okN at hk
  simp only [Bool.and_eq_true] at hk
  obtain ⟨h1, h2, h3, h4⟩ := hk
  refine ⟨h1, fun e => ?_, fun e => ?_, fun e => ?_⟩
  · subst e; simpa using h2
  · subst e; simpa using h3
  · subst e; simpa using h4
theorem clB_of {c : List Bool} {g : Int} (h : clB c g = true) : 1 ≤ g ∧ g ≤ (c.length : Int) ∧ c.getD (g.toNat - 1) false = true := by
  unfold clB at h
  simp only [Bool.and_eq_true, decide_eq_true_eq] at h
  have e : (g - 1).toNat = g.toNat - 1 := by omega
  rw [e] at h
  exact ⟨h.1, h.2.1, h.2.2⟩
theorem bnd_of {l h : Int} (hb : bndT l h = true) : 0 ≤ l ∧ l ≤ 64 ∧ (h = -1 ∨ (l ≤ h ∧ h ≤ 64)) := by
  unfold bndT at hb
  simp only [Bool.and_eq_true, Bool.or_eq_true, decide_eq_true_eq] at hb
  exact hb
theorem GOk.set {I : T → Prop} {e c : List Bool} {G : Nat → List T} {ps : List T} (h : GOk I e G) (hl : ps.length = 1) (hi : ∀ x, x ∈ ps → I x) (i : Nat) : GOk I (e.set i true) (upG G (i + 1) ps) := by
  constructor
  · intro k hk
    unfold upG
    by_cases hki : k = i
    · subst hki; rw [if_pos rfl]; exact hl
    · rw [if_neg (by omega)]
      refine h.1 k ?_
      rw [List.getD, List.getElem?_set_ne (by omega)] at hk
      exact hk
  · intro k x hx
    unfold upG at hx
    split at hx
    · exact hi x hx
    · exact h.2 k x hx
/-- What a rule may count on holds in trees that Check accepts. -/
theorem preF_of {I : T → Prop} {R : TN → List T → T} (hR : ∀ t ps, PN I t ps → I (R t ps)) : ∀ (f : F) (c d : List Bool) (G : Nat → List T), vF f c = some d → d.length ≤ 9 → szF f ≤ 600 → GOk I c G →
    preF I R f G ∧ GOk I d (valF R f G).2 ∧ ∀ x, x ∈ (valF R f G).1 → I x
  | .nil, c, d, G, h, _, _, hG => by
    obtain rfl := Option.some.inj h
    exact ⟨trivial, hG, fun x hx => by cases hx⟩
  | .cons o s l hh g a r, c, d, G, h, h9, hz, hG => by
    have hz' : szF a + 1 + szF r ≤ 600 := hz
    rw [vF] at h
    by_cases hok : okN o s l hh g a.len c = true
    case neg => rw [if_neg hok] at h; cases h
    rw [if_pos hok] at h
    have hp := okN_parts hok
    have hhav : havT o a.len = true := by have := hp.1; unfold fldT at this; simp only [Bool.and_eq_true] at this; exact this.1
    cases hva : vF a (if o = 6 then c ++ [false] else c) with
    | none => rw [hva] at h; cases h
    | some e =>
      rw [hva] at h
      replace h : vF r (if o = 6 then e.set c.length true else e) = some d := h
      have gr := vF_grow r _ _ h
      have ga := vF_grow a _ _ hva
      rw [preF, valF]
      by_cases o9 : o = 9
      · subst o9
        have hl0 : a.len = 0 := by simpa [havT] using hhav
        have ha : a = .nil := by cases a with
          | nil => rfl
          | cons _ _ _ _ _ _ _ => cases hl0
        subst ha
        rw [if_neg (by decide)] at hva h
        obtain rfl : c = e := Option.some.inj hva
        obtain ⟨g1, g2, g3⟩ := clB_of (hp.2.2.1 rfl)
        have gl : (c.length : Int) ≤ 9 := by have := gr.1; rw [if_neg (by decide)] at this; omega
        have gn : g.toNat - 1 + 1 = g.toNat := by omega
        have hP : PN I ⟨9, s, l, hh, g, .nil⟩ (G g.toNat) := by
          have hone := hG.1 _ g3
          rw [gn] at hone
          exact ⟨fun k => absurd (show (9 : Int) = 5 from k) (by omega), fun _ => hone, fun k => k.elim (fun k => absurd (show (9 : Int) = 3 from k) (by omega)) (fun k => absurd (show (9 : Int) = 4 from k) (by omega)), fun x hx => hG.2 _ x hx, by omega⟩
        obtain ⟨j1, j2, j3⟩ := preF_of hR r c d G h h9 (by omega) hG
        rw [if_pos rfl, if_pos rfl]
        refine ⟨⟨fun _ => ⟨g1, by omega⟩, hP, j1⟩, j2, fun x hx => ?_⟩
        rcases List.mem_cons.1 hx with rfl | hx
        · exact hR _ _ hP
        · exact j3 x hx
      · have hGa : GOk I (if o = 6 then c ++ [false] else c) G := by
          by_cases h6 : o = 6
          · rw [if_pos h6]
            refine ⟨fun k hk => hG.1 k ?_, hG.2⟩
            by_cases hkl : k < c.length
            · rw [List.getD, List.getElem?_append_left hkl] at hk
              exact hk
            · rw [List.getD, List.getElem?_append_right (by omega)] at hk
              by_cases h0 : k - c.length = 0
              · rw [h0] at hk; cases hk
              · rw [List.getElem?_eq_none (by simp; omega)] at hk; cases hk
          · rw [if_neg h6]; exact hG
        have hel : e.length ≤ 9 := by
          have := gr.1
          by_cases h6 : o = 6
          · rw [if_pos h6, List.length_set] at this; omega
          · rw [if_neg h6] at this; omega
        obtain ⟨i1, i2, i3⟩ := preF_of hR a _ e G hva hel (by omega) hGa
        have hlen := valF_len R a G
        have has := len_sz a
        have hP : PN I ⟨o, s, l, hh, g, a⟩ (valF R a G).1 := by
          refine ⟨fun k => ?_, fun k => ?_, fun k => ?_, i3, by omega⟩
          · have k : o = 5 := k
            subst k
            have := havT_5 hhav
            exact ⟨by omega, bnd_of (hp.2.1 rfl)⟩
          · rcases k with k | k
            · have k : o = 6 := k
              subst k
              have := havT_6 hhav
              omega
            · exact absurd k o9
          · rcases k with k | k
            · have k : o = 3 := k
              subst k
              have := havT_3 hhav
              omega
            · have k : o = 4 := k
              subst k
              have := havT_4 hhav
              omega
        rw [if_neg o9, if_neg o9]
        by_cases h6 : o = 6
        · have hg := hp.2.2.2 h6
          have hgn : g.toNat = c.length + 1 := by omega
          rw [if_pos h6] at h gr hva ga ⊢
          rw [List.length_set] at gr
          rw [List.length_append] at ga
          have ga1 : c.length + 1 ≤ e.length := ga.1
          have hGr : GOk I (e.set c.length true) (upG (valF R a G).2 g.toNat (valF R a G).1) := by
            rw [hgn]
            exact GOk.set (c := c) i2 (hP.one (.inl h6)) i3 c.length
          obtain ⟨j1, j2, j3⟩ := preF_of hR r _ d _ h h9 (by omega) hGr
          refine ⟨⟨fun _ => by omega, i1, hP, j1⟩, j2, fun x hx => ?_⟩
          rcases List.mem_cons.1 hx with rfl | hx
          · exact hR _ _ hP
          · exact j3 x hx
        · rw [if_neg h6] at h gr hva ga ⊢
          obtain ⟨j1, j2, j3⟩ := preF_of hR r _ d _ h h9 (by omega) i2
          refine ⟨⟨fun k => ?_, i1, hP, j1⟩, j2, fun x hx => ?_⟩
          · rcases k with k | k
            · exact absurd k h6
            · exact absurd k o9
          rcases List.mem_cons.1 hx with rfl | hx
          · exact hR _ _ hP
          · exact j3 x hx
theorem preN_of {I : T → Prop} {R : TN → List T → T} (hR : ∀ t ps, PN I t ps → I (R t ps)) (t : TN) (h : Valid t) : preN I R t G0 ∧ I (valT R t) := by
  obtain ⟨c, h1, h2, h3, h4⟩ := h
  obtain ⟨j1, j2, j3⟩ := preF_of hR t.f [] c G0 h1 h2 h3 ⟨fun k hk => by simp at hk, fun k x hx => by cases hx⟩
  unfold TN.f at j1 j3
  rw [preF_cons] at j1
  rw [valF_cons] at j3
  exact ⟨j1.1, j3 _ (List.mem_cons_self ..)⟩
end
end Go.Proofs.Ytpfbpgbgedbalaa
