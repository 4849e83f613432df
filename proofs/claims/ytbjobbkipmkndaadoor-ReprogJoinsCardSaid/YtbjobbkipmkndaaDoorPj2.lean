/- RtVal, RtA, RtOwn. -/
import Derived.Test.YtbjobbkipmkndaaDoorPj1
import Derived.WalkKit
import Derived.WalkSpells
import Derived.WalkLawsBesides
import Derived.BigGuardPart
import Derived.BigQuiet
import Derived.Lib.Hide
import Derived.Outline
import Derived.Test.YtbjobbkipmkndaaDoorPj0
import Derived.Deep.AppendLies
set_option linter.unusedVariables false
namespace Go.Proofs.YtbjobbkipmkndaaDoor
open Go.RowKit
section
variable {T : Type}
def upG (G : Nat → List T) (g : Nat) (ps : List T) : Nat → List T := fun k => if k = g then ps else G k
def valF (R : TN → List T → T) : F → (Nat → List T) → List T × (Nat → List T)
  | .nil, G => ([], G)
  | .cons o s l h g a r, G =>
    if o = 9 then (R ⟨o, s, l, h, g, a⟩ (G g.toNat) :: (valF R r G).1, (valF R r G).2)
    else (R ⟨o, s, l, h, g, a⟩ (valF R a G).1 :: (valF R r (if o = 6 then upG (valF R a G).2 g.toNat (valF R a G).1 else (valF R a G).2)).1, (valF R r (if o = 6 then upG (valF R a G).2 g.toNat (valF R a G).1 else (valF R a G).2)).2)
def valN (R : TN → List T → T) (t : TN) (G : Nat → List T) : T × (Nat → List T) :=
  if t.op = 9 then (R t (G t.g.toNat), G) else (R t (valF R t.args G).1, if t.op = 6 then upG (valF R t.args G).2 t.g.toNat (valF R t.args G).1 else (valF R t.args G).2)
theorem valF_cons (R : TN → List T → T) (o : Int) (s : Nat → Bool) (l h g : Int) (a r : F) (G : Nat → List T) :
    valF R (.cons o s l h g a r) G = ((valN R ⟨o, s, l, h, g, a⟩ G).1 :: (valF R r (valN R ⟨o, s, l, h, g, a⟩ G).2).1, (valF R r (valN R ⟨o, s, l, h, g, a⟩ G).2).2) := by
  rw [valF, valN]
  by_cases h9 : o = 9
  · rw [if_pos h9, if_pos h9]
  · rw [if_neg h9, if_neg h9]
theorem valF_len (R : TN → List T → T) : ∀ (f : F) (G : Nat → List T), (valF R f G).1.length = f.len
  | .nil, _ => rfl
  | .cons o s l h g a r, G => by
    rw [valF_cons]
    show (valF R r _).1.length + 1 = r.len + 1
    rw [valF_len R r]
def G0 : Nat → List T := fun _ => []
def valT (R : TN → List T → T) (t : TN) : T := (valN R t G0).1
structure PN (I : T → Prop) (t : TN) (ps : List T) : Prop where
  rep : t.op = 5 → ps.length = 1 ∧ 0 ≤ t.lo ∧ t.lo ≤ 64 ∧ (t.hi = -1 ∨ (t.lo ≤ t.hi ∧ t.hi ≤ 64))
  one : t.op = 6 ∨ t.op = 9 → ps.length = 1
  two : t.op = 3 ∨ t.op = 4 → 2 ≤ ps.length
  inv : ∀ x, x ∈ ps → I x
  len : ps.length ≤ 600
def preF (I : T → Prop) (R : TN → List T → T) : F → (Nat → List T) → Prop
  | .nil, _ => True
  | .cons o s l h g a r, G =>
    (o = 6 ∨ o = 9 → 1 ≤ g ∧ g ≤ 9) ∧ (if o = 9 then PN I ⟨o, s, l, h, g, a⟩ (G g.toNat) ∧ preF I R r G
      else preF I R a G ∧ PN I ⟨o, s, l, h, g, a⟩ (valF R a G).1 ∧ preF I R r (if o = 6 then upG (valF R a G).2 g.toNat (valF R a G).1 else (valF R a G).2))
def preN (I : T → Prop) (R : TN → List T → T) (t : TN) (G : Nat → List T) : Prop :=
  (t.op = 6 ∨ t.op = 9 → 1 ≤ t.g ∧ t.g ≤ 9) ∧ (if t.op = 9 then PN I t (G t.g.toNat) else preF I R t.args G ∧ PN I t (valF R t.args G).1)
theorem preF_cons (I : T → Prop) (R : TN → List T → T) (o : Int) (s : Nat → Bool) (l h g : Int) (a r : F) (G : Nat → List T) :
    preF I R (.cons o s l h g a r) G ↔ preN I R ⟨o, s, l, h, g, a⟩ G ∧ preF I R r (valN R ⟨o, s, l, h, g, a⟩ G).2 := by
  rw [preF, preN, valN]
  by_cases h9 : o = 9
  · simp only [if_pos h9, and_assoc]
  · simp only [if_neg h9, and_assoc]
def GOk (I : T → Prop) (c : List Bool) (G : Nat → List T) : Prop :=
  (∀ k, c.getD k false = true → (G (k + 1)).length = 1) ∧ ∀ k x, x ∈ G k → I x
theorem havT_5 {n : Nat} (h : havT 5 n = true) : n = 1 := by simpa [havT] using h
theorem havT_6 {n : Nat} (h : havT 6 n = true) : n = 1 := by simpa [havT] using h
theorem havT_3 {n : Nat} (h : havT 3 n = true) : 2 ≤ n := by simpa [havT] using h
theorem havT_4 {n : Nat} (h : havT 4 n = true) : 2 ≤ n := by simpa [havT] using h
theorem vF_grow : ∀ (f : F) (c d : List Bool), vF f c = some d → c.length ≤ d.length ∧ ∀ k, c.getD k false = true → d.getD k false = true
  | .nil, c, d, h => by obtain rfl := Option.some.inj h; exact ⟨Nat.le_refl _, fun _ => id⟩
  | .cons o s l hh g a r, c, d, h => by
    rw [vF] at h
    by_cases hok : okN o s l hh g a.len c = true
    case neg => rw [if_neg hok] at h; cases h
    rw [if_pos hok] at h
    cases hva : vF a (if o = 6 then c ++ [false] else c) with
    | none => rw [hva] at h; cases h
    | some e =>
      rw [hva] at h
      replace h : vF r (if o = 6 then e.set c.length true else e) = some d := h
      have i := vF_grow a _ _ hva
      have j := vF_grow r _ _ h
      by_cases h6 : o = 6
      · rw [if_pos h6] at i j
        simp only [List.length_append, List.length_set, List.length_cons, List.length_nil] at i j
        refine ⟨by omega, fun k hk => j.2 k ?_⟩
        have hkl : k < c.length := by
          refine Decidable.byContradiction fun hn => ?_
          rw [List.getD, List.getElem?_eq_none (by omega)] at hk
          cases hk
        have := i.2 k (by rw [List.getD, List.getElem?_append_left hkl]; exact hk)
        rw [List.getD, List.getElem?_set_ne (by omega)]
        exact this
      · rw [if_neg h6] at i j
        exact ⟨by omega, fun k hk => j.2 k (i.2 k hk)⟩
theorem len_sz : ∀ f : F, f.len ≤ szF f
  | .nil => Nat.le_refl _
  | .cons o s l h g a r => by
    have := len_sz r
    show r.len + 1 ≤ szF a + 1 + szF r
    omega
theorem okN_parts {o : Int} {s : Nat → Bool} {l h g : Int} {n : Nat} {c : List Bool} (hk : okN o s l h g n c = true) :
    fldT o s l h g n = true ∧ (o = 5 → bndT l h = true) ∧ (o = 9 → clB c g = true) ∧ (o = 6 → g = (c.length : Int) + 1) := by
  unfold okN at hk
  simp only [Bool.and_eq_true] at hk
  obtain ⟨h1, h2, h3, h4⟩ := hk
  refine ⟨h1, fun e => ?_, fun e => ?_, fun e => ?_⟩
  · subst e; simpa using h2
  · subst e; simpa using h3
  · subst e; simpa using h4
theorem clB_of {c : List Bool} {g : Int} (h : clB c g = true) : 1 ≤ g ∧ g ≤ (c.length : Int) ∧ c.getD (g.toNat - 1) false = true := by
  unfold clB at h
  simp only [Bool.and_eq_true, decide_eq_true_eq] at h
  have e : (g - 1).toNat = g.toNat - 1 := by omega
  rw [e] at h
  exact ⟨h.1, h.2.1, h.2.2⟩
theorem bnd_of {l h : Int} (hb : bndT l h = true) : 0 ≤ l ∧ l ≤ 64 ∧ (h = -1 ∨ (l ≤ h ∧ h ≤ 64)) := by
  unfold bndT at hb
  simp only [Bool.and_eq_true, Bool.or_eq_true, decide_eq_true_eq] at hb
  exact hb
theorem GOk.set {I : T → Prop} {e c : List Bool} {G : Nat → List T} {ps : List T} (h : GOk I e G) (hl : ps.length = 1) (hi : ∀ x, x ∈ ps → I x) (i : Nat) : GOk I (e.set i true) (upG G (i + 1) ps) := by
  constructor
  · intro k hk
    unfold upG
    by_cases hki : k = i
    · subst hki; rw [if_pos rfl]; exact hl
    · rw [if_neg (by omega)]
      refine h.1 k ?_
      rw [List.getD, List.getElem?_set_ne (by omega)] at hk
      exact hk
  · intro k x hx
    unfold upG at hx
    split at hx
    · exact hi x hx
    · exact h.2 k x hx
theorem preF_of {I : T → Prop} {R : TN → List T → T} (hR : ∀ t ps, PN I t ps → I (R t ps)) : ∀ (f : F) (c d : List Bool) (G : Nat → List T), vF f c = some d → d.length ≤ 9 → szF f ≤ 600 → GOk I c G →
    preF I R f G ∧ GOk I d (valF R f G).2 ∧ ∀ x, x ∈ (valF R f G).1 → I x
  | .nil, c, d, G, h, _, _, hG => by
    obtain rfl := Option.some.inj h
    exact ⟨trivial, hG, fun x hx => by cases hx⟩
  | .cons o s l hh g a r, c, d, G, h, h9, hz, hG => by
    have hz' : szF a + 1 + szF r ≤ 600 := hz
    rw [vF] at h
    by_cases hok : okN o s l hh g a.len c = true
    case neg => rw [if_neg hok] at h; cases h
    rw [if_pos hok] at h
    have hp := okN_parts hok
    have hhav : havT o a.len = true := by have := hp.1; unfold fldT at this; simp only [Bool.and_eq_true] at this; exact this.1
    cases hva : vF a (if o = 6 then c ++ [false] else c) with
    | none => rw [hva] at h; cases h
    | some e =>
      rw [hva] at h
      replace h : vF r (if o = 6 then e.set c.length true else e) = some d := h
      have gr := vF_grow r _ _ h
      have ga := vF_grow a _ _ hva
      rw [preF, valF]
      by_cases o9 : o = 9
      · subst o9
        have hl0 : a.len = 0 := by simpa [havT] using hhav
        have ha : a = .nil := by cases a with
          | nil => rfl
          | cons _ _ _ _ _ _ _ => cases hl0
        subst ha
        rw [if_neg (by decide)] at hva h
        obtain rfl : c = e := Option.some.inj hva
        obtain ⟨g1, g2, g3⟩ := clB_of (hp.2.2.1 rfl)
        have gl : (c.length : Int) ≤ 9 := by have := gr.1; rw [if_neg (by decide)] at this; omega
        have gn : g.toNat - 1 + 1 = g.toNat := by omega
        have hP : PN I ⟨9, s, l, hh, g, .nil⟩ (G g.toNat) := by
          have hone := hG.1 _ g3
          rw [gn] at hone
          exact ⟨fun k => absurd (show (9 : Int) = 5 from k) (by omega), fun _ => hone, fun k => k.elim (fun k => absurd (show (9 : Int) = 3 from k) (by omega)) (fun k => absurd (show (9 : Int) = 4 from k) (by omega)), fun x hx => hG.2 _ x hx, by omega⟩
        obtain ⟨j1, j2, j3⟩ := preF_of hR r c d G h h9 (by omega) hG
        rw [if_pos rfl, if_pos rfl]
        refine ⟨⟨fun _ => ⟨g1, by omega⟩, hP, j1⟩, j2, fun x hx => ?_⟩
        rcases List.mem_cons.1 hx with rfl | hx
        · exact hR _ _ hP
        · exact j3 x hx
      · have hGa : GOk I (if o = 6 then c ++ [false] else c) G := by
          by_cases h6 : o = 6
          · rw [if_pos h6]
            refine ⟨fun k hk => hG.1 k ?_, hG.2⟩
            by_cases hkl : k < c.length
            · rw [List.getD, List.getElem?_append_left hkl] at hk
              exact hk
            · rw [List.getD, List.getElem?_append_right (by omega)] at hk
              by_cases h0 : k - c.length = 0
              · rw [h0] at hk; cases hk
              · rw [List.getElem?_eq_none (by simp; omega)] at hk; cases hk
          · rw [if_neg h6]; exact hG
        have hel : e.length ≤ 9 := by
          have := gr.1
          by_cases h6 : o = 6
          · rw [if_pos h6, List.length_set] at this; omega
          · rw [if_neg h6] at this; omega
        obtain ⟨i1, i2, i3⟩ := preF_of hR a _ e G hva hel (by omega) hGa
        have hlen := valF_len R a G
        have has := len_sz a
        have hP : PN I ⟨o, s, l, hh, g, a⟩ (valF R a G).1 := by
          refine ⟨fun k => ?_, fun k => ?_, fun k => ?_, i3, by omega⟩
          · have k : o = 5 := k
            subst k
            have := havT_5 hhav
            exact ⟨by omega, bnd_of (hp.2.1 rfl)⟩
          · rcases k with k | k
            · have k : o = 6 := k
              subst k
              have := havT_6 hhav
              omega
            · exact absurd k o9
          · rcases k with k | k
            · have k : o = 3 := k
              subst k
              have := havT_3 hhav
              omega
            · have k : o = 4 := k
              subst k
              have := havT_4 hhav
              omega
        rw [if_neg o9, if_neg o9]
        by_cases h6 : o = 6
        · have hg := hp.2.2.2 h6
          have hgn : g.toNat = c.length + 1 := by omega
          rw [if_pos h6] at h gr hva ga ⊢
          rw [List.length_set] at gr
          rw [List.length_append] at ga
          have ga1 : c.length + 1 ≤ e.length := ga.1
          have hGr : GOk I (e.set c.length true) (upG (valF R a G).2 g.toNat (valF R a G).1) := by
            rw [hgn]
            exact GOk.set (c := c) i2 (hP.one (.inl h6)) i3 c.length
          obtain ⟨j1, j2, j3⟩ := preF_of hR r _ d _ h h9 (by omega) hGr
          refine ⟨⟨fun _ => by omega, i1, hP, j1⟩, j2, fun x hx => ?_⟩
          rcases List.mem_cons.1 hx with rfl | hx
          · exact hR _ _ hP
          · exact j3 x hx
        · rw [if_neg h6] at h gr hva ga ⊢
          obtain ⟨j1, j2, j3⟩ := preF_of hR r _ d _ h h9 (by omega) i2
          refine ⟨⟨fun k => ?_, i1, hP, j1⟩, j2, fun x hx => ?_⟩
          · rcases k with k | k
            · exact absurd k h6
            · exact absurd k o9
          rcases List.mem_cons.1 hx with rfl | hx
          · exact hR _ _ hP
          · exact j3 x hx
theorem preN_of {I : T → Prop} {R : TN → List T → T} (hR : ∀ t ps, PN I t ps → I (R t ps)) (t : TN) (h : Valid t) : preN I R t G0 ∧ I (valT R t) := by
  obtain ⟨c, h1, h2, h3, h4⟩ := h
  obtain ⟨j1, j2, j3⟩ := preF_of hR t.f [] c G0 h1 h2 h3 ⟨fun k hk => by simp at hk, fun k x hx => by cases hx⟩
  unfold TN.f at j1 j3
  rw [preF_cons] at j1
  rw [valF_cons] at j3
  exact ⟨j1.1, j3 _ (List.mem_cons_self ..)⟩
end
end Go.Proofs.YtbjobbkipmkndaaDoor
set_option linter.unusedVariables false
set_option linter.unusedSimpArgs false
set_option maxRecDepth 100000
set_option maxHeartbeats 8000000
namespace Go.Proofs.YtbjobbkipmkndaaDoor
open Go.RowKit
theorem beq_dec (a b : Int) : (a == b) = decide (a = b) := by by_cases h : a = b <;> simp [h]
theorem bnd_any (o l h g : Int) (st : Nat → Bool) (sv : Value) (w : World) : Calls Tryd.prog 56 #[.agg #[.int .i64 o, .int .u64 (wd st 0 64 : Nat), .int .u64 (wd st 64 64 : Nat), .int .u64 (wd st 128 64 : Nat), .int .u64 (wd st 192 64 : Nat), .int .i64 l, .int .i64 h, .int .i64 g, sv]] w fun e w' => e = .returned (.bool (bndT l h)) ∧ Below w.heap.size w w' := by
  go_enter Tryd.func56, Tryd.ntmps56
  go_wp2
  all_goals go_ret
  all_goals refine ⟨?_, (Below.refl _ _).alloc (Nat.le_refl _) _⟩
  all_goals (unfold bndT; congr 2; simp only [decide_eq_true_eq, *]; first | rfl | (simp; omega) | omega | simp_all)
theorem have_any (o : Int) (n : Nat) (w : World) : Calls Tryd.prog 61 #[.int .i64 o, .int .i64 (n : Int)] w fun e w' => e = .returned (.bool (havT o n)) ∧ w' = w := by
  go_enter Tryd.func61, Tryd.ntmps61
  go_wp2
  all_goals go_ret
  all_goals refine ⟨?_, rfl⟩
  all_goals (unfold havT; congr 2; simp_all [beq_dec] <;> omega)
theorem flds_any (o l h g : Int) (st : Nat → Bool) (n : Nat) (ad : Option Addr) (cap : Nat) (w : World) : Calls Tryd.prog 55 #[.agg #[.int .i64 o, .int .u64 (wd st 0 64 : Nat), .int .u64 (wd st 64 64 : Nat), .int .u64 (wd st 128 64 : Nat), .int .u64 (wd st 192 64 : Nat), .int .i64 l, .int .i64 h, .int .i64 g, .slice ad n cap]] w fun e w' => e = .returned (.bool (fldT o st l h g n)) ∧ Below w.heap.size w w' := by
  have HH : Hid (∀ (x : Int) (W : World), x = o → Calls Tryd.prog 61 #[.int .i64 x, .int .i64 (n : Int)] W fun e w' => e = .returned (.bool (havT o n)) ∧ w' = W) := Lib.hid (fun x W hx => by rw [hx]; exact have_any o n W)
  cases hv : havT o n
  all_goals (cases hs : eqc st noSet)
  all_goals (first | have hcmp := cmp_full hs | have hcmp := cmp_none hs)
  all_goals rw [hv] at HH
  all_goals
    (go_enter Tryd.func55, Tryd.ntmps55
     go_wp2_with (first | (go_at_call 61; (with_reducible refine (HH.out _ _ (by first | rfl | (symm; assumption) | assumption)).mono ?_); rintro e w1 ⟨rfl, rfl⟩)))
  all_goals go_ret
  all_goals refine ⟨?_, (Below.refl _ _).alloc (Nat.le_refl _) _⟩
  all_goals (unfold fldT; congr 2; simp_all [beq_dec])
theorem closed_any (g : Int) (B : Nat) (c : List Bool) (sv : Value) (w : World) (hg1 : -9223372036854775808 ≤ g) (hg2 : g ≤ 9223372036854775807) (hc : w.cell? ⟨B, 3, none⟩ = some sv) (ho : w.ownsRow (B + 1) 4 1 sv c.length (c.map fun b => .bool b)) :
    Calls Tryd.prog 57 #[.pointer (some ⟨B, 0, none⟩), .int .i64 g] w fun e w' => e = .returned (.bool (clB c g)) ∧ w' = w := by
  obtain ⟨ad, cap, rfl⟩ : ∃ ad cap, sv = .slice ad c.length cap := by
    rcases ho.2 with ⟨rfl, h0⟩ | ⟨g, cap, cur, rfl, _⟩
    · exact ⟨none, 0, by rw [h0]⟩
    · exact ⟨_, cap, rfl⟩
  by_cases h1 : 1 ≤ g
  case neg =>
    go_enter Tryd.func57, Tryd.ntmps57
    go_wp2
    go_ret
    exact ⟨by unfold clB; rw [show decide (1 ≤ g) = false by rw [decide_eq_false_iff_not]; omega]; rfl, rfl⟩
  by_cases h2 : g ≤ (c.length : Int)
  case neg =>
    go_enter Tryd.func57, Tryd.ntmps57
    go_wp2
    go_ret
    exact ⟨by unfold clB; rw [show decide (g ≤ (c.length : Int)) = false by rw [decide_eq_false_iff_not]; omega]; simp, rfl⟩
  obtain ⟨k, rfl⟩ : ∃ k : Nat, g = (k : Int) + 1 := ⟨(g - 1).toNat, by omega⟩
  have hk : k < c.length := by omega
  have hcell : ∃ b, ad = some ⟨b, 0, none⟩ ∧ w.cell? ⟨b, k, none⟩ = some (.bool (c.getD k false)) := by
    rcases ho.2 with ⟨_, h0⟩ | ⟨b, cap', cur, e, _⟩
    · omega
    · cases e
      refine ⟨b, rfl, ?_⟩
      have := ho.cells (g := b) rfl k (.bool (c.getD k false)) (by rw [List.getElem?_map, List.getElem?_eq_getElem hk]; simp [List.getD, List.getElem?_eq_getElem hk])
      rwa [add_at] at this
  obtain ⟨b, rfl, hcb⟩ := hcell
  have e1 : clB c ((k : Int) + 1) = c.getD k false := by
    unfold clB
    have e : ((k : Int) + 1 - 1).toNat = k := by omega
    rw [e]
    simp [h1, h2]
  rw [e1]
  have hk2 : (k : Int) < c.length := by omega
  have hk0 : (0 : Int) ≤ k := by omega
  clear ho e1
  generalize c.getD k false = x at hcb ⊢
  go_enter Tryd.func57, Tryd.ntmps57
  go_wp2
  go_ret
  exact ⟨rfl, rfl⟩
end Go.Proofs.YtbjobbkipmkndaaDoor
set_option linter.unusedVariables false
namespace Go.Proofs.YtbjobbkipmkndaaDoor
open Go.RowKit
structure Keep (S : Nat → Prop) (w w' : World) : Prop where
  os : w'.os = w.os
  tape : w'.tape = w.tape
  output : w'.output = w.output
  size : w.heap.size ≤ w'.heap.size
  block : ∀ k, k < w.heap.size → ¬ S k → w'.heap[k]? = w.heap[k]?
theorem Keep.refl (S : Nat → Prop) (w : World) : Keep S w w := ⟨rfl, rfl, rfl, Nat.le_refl _, fun _ _ _ => rfl⟩
theorem Keep.of_below {S : Nat → Prop} {w w' : World} (h : Below w.heap.size w w') : Keep S w w' := ⟨h.os, h.tape, h.output, h.size, fun k hk _ => h.block k hk⟩
theorem Keep.trans {S : Nat → Prop} {a b c : World} (h : Keep S a b) {S2 : Nat → Prop} (k : Keep S2 b c) (hS : ∀ g, g < a.heap.size → S2 g → S g) : Keep S a c :=
  ⟨k.os.trans h.os, k.tape.trans h.tape, k.output.trans h.output, Nat.le_trans h.size k.size, fun g hg hn => (k.block g (Nat.lt_of_lt_of_le hg h.size) (fun e => hn (hS g hg e))).trans (h.block g hg hn)⟩
theorem Keep.below {S : Nat → Prop} {w w' : World} {B : Nat} (h : Keep S w w') (hB : B ≤ w.heap.size) (hS : ∀ g, S g → B ≤ g) : Below B w w' :=
  ⟨h.os, h.tape, h.output, h.size, fun k hk => h.block k (by omega) (fun e => by have := hS k e; omega)⟩
theorem Keep.mono {S T : Nat → Prop} {w w' : World} (h : Keep S w w') (hST : ∀ g, S g → T g) : Keep T w w' := ⟨h.os, h.tape, h.output, h.size, fun k hk hn => h.block k hk (fun e => hn (hST k e))⟩
theorem Keep.next {S : Nat → Prop} {a b c : World} (h : Keep S a b) (k : Below b.heap.size b c) : Keep S a c := h.trans (Keep.of_below (S := fun _ => False) k) (fun _ _ e => e.elim)
theorem Keep.drew {S : Nat → Prop} {a w : World} (h : Keep S a w) : Keep S a w.drew := ⟨h.os, h.tape, h.output, h.size, h.block⟩
theorem Keep.alloc {S : Nat → Prop} {a w : World} (h : Keep S a w) (o : Obj) : Keep S a (w.alloc o) := h.next ((Below.refl _ _).alloc (Nat.le_refl _) _)
theorem Keep.put {S : Nat → Prop} {a w : World} (h : Keep S a w) (g j : Nat) (hg : S g ∨ a.heap.size ≤ g) (v : Value) : Keep S a (w.setCell ⟨g, j, none⟩ v) :=
  ⟨h.os, h.tape, h.output, by simpa [World.setCell] using h.size, fun k hk hn => (Below.heap_setCell w ⟨g, j, none⟩ v k (fun e => by
    have e2 : k = g := e
    subst e2
    rcases hg with hg | hg
    · exact hn hg
    · omega)).trans (h.block k hk hn)⟩
theorem Keep.grown {S : Nat → Prop} {a w w' : World} {row : Option Nat} (h : Keep S a w) (hg : w.grownBy w' row) (hr : ∀ k, row = some k → k < a.heap.size → S k) : Keep S a w' :=
  ⟨hg.os.trans h.os, hg.tape.trans h.tape, hg.output.trans h.output, Nat.le_trans h.size hg.size, fun k hk hn => (hg.block k (Nat.lt_of_lt_of_le hk h.size) (fun e => hn (hr k e.symm hk))).trans (h.block k hk hn)⟩
theorem new_cells (w : World) (cs : List Value) (t : TypeId) (j : Nat) (u : Value) (h : cs[j]? = some u) : (w.alloc (.cells cs.toArray t)).cell? ((⟨w.heap.size, 0, none⟩ : Addr).add j) = some u := by
  have e : (⟨w.heap.size, 0, none⟩ : Addr).add j = ⟨w.heap.size, j, none⟩ := by unfold Addr.add; split <;> simp_all
  rw [e, cell_of_row _ w.heap.size j cs.toArray t (0, 0) (heap_alloc_new w _)]
  simpa using h
theorem app1 (B : Nat) (T E : TypeId) (z : Value) (k bytes : Nat) (ht : Tryd.prog.underlying T = some (.slice E)) (hif : (Tryd.prog.info? E).map (fun i => (i.zero, i.size, i.bytes)) = some (some z, k, bytes)) (hz : z.cells.size = k) (hk : 0 < k)
    {W : World} {ops : Array Oper} {rest : List Oper} {o : Oper} {a : Act} {Q : Exit → Act → World → Prop} (w : World) (hgd : o.guard = none) (s x : Operand)
    (ho : o.op = .call { callee := .builtin .append, args := #[s, x], argTypes := #[T, T] })
    (hB : B ≤ w.heap.size) (v : Value) (n : Nat) (xs vs : List Value) (hW : W = w.alloc (.cells vs.toArray E)) (hs : a.eval s = v) (hown : w.ownsRow B E k v n xs) (g0 : Nat) (hg0 : w.heap.size = g0) (hx : a.eval x = .slice (some ⟨g0, 0, none⟩) 1 1) (hl : vs.length = k) (h1 : ∀ u ∈ vs, u.oneCell' = true)
    (h63 : n + 1 ≤ maxLen) (hby : (n + 1) * bytes ≤ 140737488355328)
    (h : ∀ g cap w', w'.ownsRow B E k (.slice (some ⟨g, 0, none⟩) (n + 1) cap) (n + 1) (xs ++ vs) → Keep (fun b => v.ownBlock = some b) w w' → (v.ownBlock = some g ∨ w.heap.size ≤ g) → wpList Tryd.prog ops Q rest (a.put o.dst (.slice (some ⟨g, 0, none⟩) (n + 1) cap)) w') :
    wpList Tryd.prog ops Q (o :: rest) a W := by
  subst hg0
  subst hW
  obtain ⟨i0, hi, hz0, hz1, hz2⟩ := info_parts hif
  refine wpList_append_lies _ hgd s x T ho B E i0 z k bytes ht hi hz0 hz1 hz2 hz hk v n xs hs (hown.alloc _) ⟨w.heap.size, 0, none⟩ 1 1 vs hx (by omega) (fun j u hu => new_cells w vs E j u hu) h1 (by decide) h63 hby (by simp; omega) _ rfl ?_
  intro g cap w' hown' hgrow hat hlt
  refine h g cap w' hown' (((Keep.refl _ _).alloc _).grown hgrow (fun j e _ => e)) ?_
  rcases hat with hat | hat
  · exact .inl hat
  · right; rw [hat]; simp
theorem own_below {w w' : World} {B n k : Nat} {t : TypeId} {v : Value} {xs : List Value} (h : w.ownsRow B t k v n xs) (hb : Below w.heap.size w w') : w'.ownsRow B t k v n xs := by
  obtain ⟨h1, h2⟩ := h
  refine ⟨h1, ?_⟩
  rcases h2 with h2 | ⟨g, cap, cur, e, hB, hg, r⟩
  · exact .inl h2
  · exact .inr ⟨g, cap, cur, e, hB, (hb.block g (Array.getElem?_eq_some_iff.1 hg).1).trans hg, r⟩
theorem own_keep {S : Nat → Prop} {w w' : World} {B n k : Nat} {t : TypeId} {v : Value} {xs : List Value} (h : w.ownsRow B t k v n xs) (hb : Keep S w w') (hS : ∀ g, v.ownBlock = some g → ¬ S g) : w'.ownsRow B t k v n xs := by
  obtain ⟨h1, h2⟩ := h
  refine ⟨h1, ?_⟩
  rcases h2 with h2 | ⟨g, cap, cur, e, hB, hg, r⟩
  · exact .inl h2
  · exact .inr ⟨g, cap, cur, e, hB, (hb.block g (Array.getElem?_eq_some_iff.1 hg).1 (hS g (by rw [e]; rfl))).trans hg, r⟩
theorem own_only {w w' : World} {B n k : Nat} {t : TypeId} {v : Value} {xs : List Value} (h : w.ownsRow (B + 1) t k v n xs) (hb : Only B w w') : w'.ownsRow (B + 1) t k v n xs := by
  obtain ⟨h1, h2⟩ := h
  refine ⟨h1, ?_⟩
  rcases h2 with h2 | ⟨g, cap, cur, e, hB, hg, r⟩
  · exact .inl h2
  · exact .inr ⟨g, cap, cur, e, hB, (hb.block g (Array.getElem?_eq_some_iff.1 hg).1 (by omega)).trans hg, r⟩
theorem own_sl {w : World} {B n k : Nat} {t : TypeId} {v : Value} {xs : List Value} (ho : w.ownsRow B t k v n xs) : ∃ ad cap, v = .slice ad n cap := by
  rcases ho.2 with ⟨rfl, h0⟩ | ⟨g, cap, cur, rfl, _⟩
  · exact ⟨none, 0, by rw [h0]⟩
  · exact ⟨_, cap, rfl⟩
theorem own_at {w : World} {B n k : Nat} {t : TypeId} {v : Value} {xs : List Value} (ho : w.ownsRow B t k v n xs) (g : Nat) (hg : v.ownBlock = some g) : B ≤ g ∧ g < w.heap.size := by
  rcases ho.2 with ⟨rfl, h0⟩ | ⟨g', cap, cur, rfl, hB, hh, _⟩
  · cases hg
  · cases hg
    exact ⟨hB, (Array.getElem?_eq_some_iff.1 hh).1⟩
theorem own_more {w : World} {B n k : Nat} {t : TypeId} {v : Value} {xs : List Value} (ho : w.ownsRow B t k v n xs) (hn : 0 < n) : ∃ g cap, v = .slice (some ⟨g, 0, none⟩) n cap := by
  rcases ho.2 with ⟨rfl, h0⟩ | ⟨g, cap, cur, rfl, _⟩
  · omega
  · exact ⟨g, cap, rfl⟩
end Go.Proofs.YtbjobbkipmkndaaDoor
