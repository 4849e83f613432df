/- RxP, RxStA. -/
import Derived.Test.YtphiaagppcbefaaGreatDoorPs22
set_option linter.unusedVariables false
namespace Go.Proofs.YtphiaagppcbefaaGreatDoor
open Go.RowKit
theorem endC_le (s : ByteArray) : ∀ (n i k : Nat), endC s n i = some k → i ≤ k ∧ k + 2 ≤ s.size
  | 0, i, k, h => by cases h
  | n + 1, i, k, h => by
    unfold endC at h
    split at h
    · rename_i hk
      have h2 := pk_lt (s := s) (i := i + 1) (by rw [hk.2]; decide)
      cases h
      omega
    · have := endC_le s n (i + 1) k h
      omega
theorem mv_cls {c : CX} {p : PS} (h : Gd c p) : Mv c p (clsT c p).2 := by
  unfold clsT
  split
  · exact (mv_fail h _ _).1
  · rename_i k hk
    have h1 := endC_le _ _ _ _ hk
    split
    · exact mv_to h _ (by omega) (by omega)
    · exact (mv_fail h _ _).1
theorem mv_itm {c : CX} {p : PS} (h : Gd c p) : Mv c p (itmT c p).2 := by
  unfold itmT
  split
  · exact mv_cls h
  split
  · exact mv_enc h _ (by omega)
  · have h1 := mv_rnd h
    generalize rndT c p = a at *
    simp only
    split
    · rename_i hk
      have hl := pk_lt (s := c.s) (i := a.2.at_) (by rw [hk.1]; decide)
      have g1 := Mv.gd h h1
      have h2 := h1.trans (mv_to g1 (a.2.at_ + 1) (by omega) (by omega))
      have h3 := h2.trans (mv_rnd (Mv.gd h h2))
      split
      · exact h3
      · exact h3.trans (mv_fail (Mv.gd h h3) _ _).1
    · exact h1
theorem mv_its {c : CX} : ∀ (n : Nat) (st : Nat → Bool) {p : PS}, Gd c p → Mv c p (itsT c n st p).2
  | 0, st, p, h => Mv.refl h
  | n + 1, st, p, h => by
    unfold itsT
    split
    · exact Mv.refl h
    · have h1 := mv_itm h
      exact h1.trans (mv_its n _ (Mv.gd h h1))
theorem kd_91 {c : CX} {p : PS} (h : kdT c p = 91) : pkT c.s p.at_ = 91 := by
  unfold kdT tokT at h
  split at h
  · cases h
  split at h
  · unfold escT at h
    simp only at h
    repeat (split at h <;> try (first | (cases h; done) | omega))
  split at h
  · exact h
  · cases h
theorem mv_brk {c : CX} {p : PS} (h : Gd c p) (hk : pkT c.s p.at_ = 91) : Mv c p (brkT c p).2 ∧ p.at_ < (brkT c p).2.at_ := by
  have hl := pk_lt (s := c.s) (i := p.at_) (by rw [hk]; decide)
  unfold brkT
  simp only
  have h1 : Mv c p (acbT c 91 p).2 ∧ p.at_ < (acbT c 91 p).2.at_ := by
    unfold acbT
    rw [if_pos hk]
    exact ⟨mv_to h _ (by omega) (by omega), by show p.at_ < p.at_ + 1; omega⟩
  have h2 := h1.1.trans (mv_acb (Mv.gd h h1.1) 94 (by omega))
  have s2 := (mv_acb (Mv.gd h h1.1) 94 (by omega)).a
  generalize acbT c 94 (acbT c 91 p).2 = inv at *
  have h3 := h2.trans (mv_itm (Mv.gd h h2))
  have s3 := (mv_itm (Mv.gd h h2)).a
  generalize itmT c inv.2 = a at *
  have h4 := h3.trans (mv_its (c.s.size + 1) a.1 (Mv.gd h h3))
  have s4 := (mv_its (c.s.size + 1) a.1 (Mv.gd h h3)).a
  generalize itsT c (c.s.size + 1) a.1 a.2 = b at *
  have h5 := h4.trans (mv_exp (Mv.gd h h4) 93 (by omega))
  have s5 := (mv_exp (Mv.gd h h4) 93 (by omega)).a
  have := h1.2
  split
  · have h6 := mv_fail (Mv.gd h h5) 2 p.at_
    exact ⟨h5.trans h6.1, by have := h6.1.a; omega⟩
  · exact ⟨h5, by omega⟩
def GrpOk (c : CX) (G : PS → Prop) (grp : PS → TN × PS) : Prop := ∀ q, Gd c q → G q → kdT c q = 40 → Mv c q (grp q).2 ∧ q.at_ < (grp q).2.at_
theorem mv_pie {c : CX} {G : PS → Prop} {grp : PS → TN × PS} (hg : GrpOk c G grp) {p : PS} (h : Gd c p) (hG : G p) : Mv c p (pieW c grp p).2 ∧ (p.at_ < c.s.size → p.at_ < (pieW c grp p).2.at_) := by
  unfold pieW
  split
  · rename_i hk
    have := mv_past h (by rw [hk]; decide) (by rw [hk]; decide)
    exact ⟨this.1, fun _ => this.2⟩
  split
  · rename_i hk
    have := mv_past h (by rw [hk]; decide) (by rw [hk]; decide)
    exact ⟨this.1, fun _ => this.2⟩
  split
  · rename_i hk
    have h1 := hg p h hG hk
    have h2 := mv_suf (Mv.gd h h1.1) (grp p).1
    exact ⟨h1.1.trans h2, fun _ => Nat.lt_of_lt_of_le h1.2 h2.a⟩
  split
  · rename_i hk
    have h1 := mv_brk h (kd_91 hk)
    have h2 := mv_suf (Mv.gd h h1.1) (brkT c p).1
    exact ⟨h1.1.trans h2, fun _ => Nat.lt_of_lt_of_le h1.2 h2.a⟩
  split
  · rename_i hk
    have h1 := mv_past h (by rw [hk]; decide) (by rw [hk]; decide)
    have h2 := mv_suf (Mv.gd h h1.1) (setR (linT c fun x => !noSet x))
    exact ⟨h1.1.trans h2, fun _ => Nat.lt_of_lt_of_le h1.2 h2.a⟩
  split
  · rename_i hk
    have h1 := mv_past h (by rw [hk]; decide) (by rw [hk]; decide)
    have h2 := mv_suf (Mv.gd h h1.1) (setR (foldT c (between (vlT c p).toNat (vlT c p).toNat)))
    exact ⟨h1.1.trans h2, fun _ => Nat.lt_of_lt_of_le h1.2 h2.a⟩
  split
  · rename_i hk
    have h1 := mv_bac h (vlT c p) (by rw [hk]; decide) (by rw [hk]; decide)
    have h2 := mv_suf (Mv.gd h h1.1) (bacT c (vlT c p) p).1
    exact ⟨h1.1.trans h2, fun _ => Nat.lt_of_lt_of_le h1.2 h2.a⟩
  · have h1 := mv_unex h
    exact ⟨h1.1, fun hl => by show p.at_ < (unexT c p).at_; rw [h1.2]; exact hl⟩
theorem mv_mor {c : CX} {p : PS} (h : Gd c p) : (morB c p).2 = p ∧ ((morB c p).1 = true → p.at_ < c.s.size) := by
  refine ⟨rfl, fun e => ?_⟩
  unfold morB at e
  by_cases hk : kdT c p = -1 ∨ kdT c p = 124
  · simp [hk] at e
  · refine pk_lt (s := c.s) (fun h0 => hk (.inl ?_))
    unfold kdT tokT
    rw [if_pos h0]
theorem mv_lop {c : CX} {G : PS → Prop} {more : PS → Bool × PS} {step : PS → TN × PS} (hs : ∀ q, Gd c q → G q → Mv c q (step q).2 ∧ G (step q).2) (hm : ∀ q, Gd c q → G q → Mv c q (more q).2 ∧ G (more q).2) :
    ∀ (n : Nat) (f : F) {p : PS}, Gd c p → G p → Mv c p (lopT more step n f p).2
  | 0, f, p, h, hG => Mv.refl h
  | n + 1, f, p, h, hG => by
    unfold lopT
    have h1 := hm p h hG
    split
    · have h2 := hs _ (Mv.gd h h1.1) h1.2
      have h3 := h1.1.trans h2.1
      exact h3.trans (mv_lop hs hm n _ (Mv.gd h h3) h2.2)
    · exact h1.1
theorem mv_joi {c : CX} {G : PS → Prop} {more : PS → Bool × PS} {step : PS → TN × PS} (hs : ∀ q, Gd c q → G q → Mv c q (step q).2 ∧ G (step q).2) (hm : ∀ q, Gd c q → G q → Mv c q (more q).2 ∧ G (more q).2) (op : Int) {p : PS} (h : Gd c p) (hG : G p) : Mv c p (joiT c op more step p).2 := by
  unfold joiT
  have h1 := hs p h hG
  exact h1.1.trans (mv_lop hs hm _ _ (Mv.gd h h1.1) h1.2)
def Gn (n : Nat) : PS → Prop := fun q => 10 ≤ q.gr + n
theorem Gn.mv {c : CX} {n : Nat} {p q : PS} (h : Gn n p) (k : Mv c p q) : Gn n q := Nat.le_trans h (Nat.add_le_add_right k.g n)
theorem mv_bra {c : CX} {n : Nat} {grp : PS → TN × PS} (hg : GrpOk c (Gn n) grp) {p : PS} (h : Gd c p) (hG : Gn n p) : Mv c p (braW c grp p).2 :=
  mv_joi (G := Gn n) (fun q h1 h2 => ⟨(mv_pie hg h1 h2).1, h2.mv (mv_pie hg h1 h2).1⟩) (fun q h1 h2 => ⟨Mv.refl h1, h2⟩) 3 h hG
theorem mv_uni {c : CX} {n : Nat} {grp : PS → TN × PS} (hg : GrpOk c (Gn n) grp) {p : PS} (h : Gd c p) (hG : Gn n p) : Mv c p (uniW c grp p).2 :=
  mv_joi (G := Gn n) (fun q h1 h2 => ⟨mv_bra hg h1 h2, h2.mv (mv_bra hg h1 h2)⟩) (fun q h1 h2 => ⟨(mv_acc h1 124 (by decide) (by decide)).1, h2.mv (mv_acc h1 124 (by decide) (by decide)).1⟩) 4 h hG
theorem mv_ins {c : CX} {n : Nat} {grp : PS → TN × PS} (hg : GrpOk c (Gn n) grp) {p : PS} (h : Gd c p) (hG : Gn n p) : Mv c p (insW c grp p).2 := by
  unfold insW
  split
  · exact Mv.refl h
  · exact mv_uni hg h hG
theorem kd_same {c : CX} {p q : PS} (h1 : p.at_ = q.at_) (h2 : p.st = q.st) : tokT c p = tokT c q := by
  unfold tokT opT asT
  rw [h1, h2]
theorem gro_ok (c : CX) : ∀ n, GrpOk c (Gn n) (groT c n)
  | 0, q, h, hG, hk => by
    have : 10 ≤ q.gr + 0 := hG
    have := h.gr
    omega
  | n + 1, p, h, hG, hk => by
    unfold groT
    have hfit := tok_fit (c := c) (p := p) (by rw [hk]; decide) (by rw [hk]; decide)
    have hsz := sz_le c p
    split
    · have h1 := mv_fail h 3 p.at_
      exact ⟨h1.1, by rw [h1.2]; omega⟩
    · rename_i h9
      have hgr := h.gr
      have hop : Gd c (opnP p) := ⟨h.at_, h.st, by show p.gr + 1 ≤ 9; omega, by show p.opn + 1 ≤ p.gr + 1; have := h.opn; omega⟩
      have hk2 : kdT c (opnP p) = 40 := by
        have : tokT c (opnP p) = tokT c p := kd_same rfl rfl
        unfold kdT
        rw [this]
        exact hk
      have ha : accT c 40 (opnP p) = (true, pastT c (opnP p)) := by
        unfold accT
        rw [if_pos hk2]
      have hb := mv_past hop (by rw [hk2]; decide) (by rw [hk2]; decide)
      rw [ha]
      have hG2 : Gn n (begP (pastT c (opnP p))) := by
        have : 10 ≤ p.gr + (n + 1) := hG
        show 10 ≤ p.gr + 1 + n
        omega
      have gb : Gd c (begP (pastT c (opnP p))) := ⟨hb.1.b, Nat.le_refl _, hop.gr, hop.opn⟩
      have hi := mv_ins (gro_ok c n) gb hG2
      simp only
      generalize insW c (groT c n) (begP (pastT c (opnP p))) = a at *
      have ga := Mv.gd gb hi
      have hlt : p.at_ < a.2.at_ := Nat.lt_of_lt_of_le hb.2 hi.a
      have hcl : ∀ r, Mv c a.2 r → Mv c p (cloP r (p.gr + 1)) ∧ p.at_ < (cloP r (p.gr + 1)).at_ := fun r k => by
        have e1 : a.2.opn = p.opn + 1 := hi.o
        have e2 : r.opn = a.2.opn := k.o
        have e3 : p.gr + 1 ≤ a.2.gr := hi.g
        have e4 := k.g
        have e5 := k.a
        exact ⟨⟨by show p.at_ ≤ r.at_; omega, k.b, by show p.gr ≤ r.gr; omega, k.g9, by show r.opn - 1 = p.opn; omega, k.s⟩, by show p.at_ < r.at_; omega⟩
      by_cases hb2 : (accT c 41 a.2).1 = true
      · rw [if_pos hb2]
        exact hcl _ (mv_acc ga 41 (by decide) (by decide)).1
      · rw [if_neg hb2]
        have : (accT c 41 a.2).2 = a.2 := by
          unfold accT at hb2 ⊢
          split
          · rename_i e; simp [e] at hb2
          · rfl
        rw [this]
        exact hcl _ (mv_unex ga).1
end Go.Proofs.YtphiaagppcbefaaGreatDoor
set_option linter.unusedVariables false
namespace Go.Proofs.YtphiaagppcbefaaGreatDoor
open Go.RowKit
structure MR (c : CX) (p q : PS) : Prop where
  a : p.at_ ≤ q.at_
  b : q.at_ ≤ c.s.size
  g : p.gr ≤ q.gr
  g9 : q.gr ≤ 9
  o : q.opn = p.opn
  s : q.st ≤ q.at_
  kp : p.err ≠ 0 → q.err = p.err ∧ q.ea = p.ea
  fr : p.err = 0 → q.err = 0 ∨ (q.err ≠ 0 ∧ q.ea ≤ c.s.size ∧ (q.err = 1 → p.at_ ≤ q.ea))
theorem MR.refl {c : CX} {p : PS} (h : Gd c p) : MR c p p := ⟨Nat.le_refl _, h.at_, Nat.le_refl _, h.gr, rfl, h.st, fun _ => ⟨rfl, rfl⟩, fun e => .inl e⟩
theorem MR.trans {c : CX} {p q r : PS} (h : MR c p q) (k : MR c q r) : MR c p r := by
  refine ⟨Nat.le_trans h.a k.a, k.b, Nat.le_trans h.g k.g, k.g9, k.o.trans h.o, k.s, fun e => ?_, fun e => ?_⟩
  · obtain ⟨h1, h2⟩ := h.kp e
    obtain ⟨k1, k2⟩ := k.kp (by rw [h1]; exact e)
    exact ⟨k1.trans h1, k2.trans h2⟩
  · rcases h.fr e with h1 | ⟨h1, h2, h3⟩
    · rcases k.fr h1 with k1 | ⟨k1, k2, k3⟩
      · exact .inl k1
      · exact .inr ⟨k1, k2, fun e2 => Nat.le_trans h.a (k3 e2)⟩
    · obtain ⟨k1, k2⟩ := k.kp h1
      exact .inr ⟨by rw [k1]; exact h1, by rw [k2]; exact h2, fun e2 => by rw [k2]; exact h3 (by rw [← k1]; exact e2)⟩
theorem MR.gd {c : CX} {p q : PS} (h : Gd c p) (k : MR c p q) : Gd c q := ⟨k.b, k.s, k.g9, by have := k.o; have := k.g; have := h.opn; omega⟩
theorem mr_to {c : CX} {p : PS} (h : Gd c p) (n : Nat) (h1 : p.at_ ≤ n) (h2 : n ≤ c.s.size) : MR c p (p.to n) := ⟨h1, h2, Nat.le_refl _, h.gr, rfl, Nat.le_trans h.st h1, fun _ => ⟨rfl, rfl⟩, fun e => .inl e⟩
theorem sz_fit {c : CX} {p : PS} (h : p.at_ ≤ c.s.size) : p.at_ + szT c p - 1 ≤ c.s.size := by
  unfold szT tokT
  split
  · show p.at_ + 1 - 1 ≤ _
    omega
  split
  · rename_i h1 h2
    have := pk_lt (s := c.s) (i := p.at_) (by omega)
    show p.at_ + 2 - 1 ≤ _
    omega
  split
  · show p.at_ + 1 - 1 ≤ _
    omega
  · show p.at_ + 1 - 1 ≤ _
    omega
theorem mr_fail {c : CX} {p : PS} (h : Gd c p) (e : Int) (i : Nat) (hi : i ≤ c.s.size ∧ e ≠ 0 ∧ (e = 1 → p.at_ ≤ i)) : MR c p (failT c p e i) ∧ (failT c p e i).at_ = c.s.size := by
  unfold failT
  split
  · rename_i h0
    exact ⟨⟨h.at_, Nat.le_refl _, Nat.le_refl _, h.gr, rfl, Nat.le_trans h.st h.at_, fun e => absurd h0 e, fun _ => .inr ⟨hi.2.1, hi.1, hi.2.2⟩⟩, rfl⟩
  · rename_i h0
    exact ⟨⟨h.at_, Nat.le_refl _, Nat.le_refl _, h.gr, rfl, Nat.le_trans h.st h.at_, fun _ => ⟨rfl, rfl⟩, fun e => absurd e h0⟩, rfl⟩
theorem mr_exp {c : CX} {p : PS} (h : Gd c p) (x : Int) (hx : 0 ≤ x) : MR c p (expT c x p) := by
  unfold expT
  split
  · rename_i hk
    have := pk_lt (s := c.s) (i := p.at_) (by omega)
    exact mr_to h _ (by omega) (by omega)
  · exact (mr_fail h _ _ (by first | exact ⟨h.at_, by decide, fun _ => Nat.le_refl _⟩ | exact ⟨h.at_, by decide, fun e => absurd e (by decide)⟩ | exact ⟨Nat.le_refl _, by decide, fun _ => h.at_⟩ | exact ⟨sz_fit h.at_, by decide, fun _ => by have := sz_le c p; omega⟩ | exact ⟨(MR.gd h (by assumption)).at_, by decide, fun _ => Nat.le_refl _⟩ | exact ⟨by omega, by decide, fun e => absurd e (by decide)⟩)).1
theorem mr_acb {c : CX} {p : PS} (h : Gd c p) (x : Int) (hx : 0 ≤ x) : MR c p (acbT c x p).2 := by
  unfold acbT
  split
  · rename_i hk
    have := pk_lt (s := c.s) (i := p.at_) (by omega)
    exact mr_to h _ (by omega) (by omega)
  · exact MR.refl h
theorem mr_past {c : CX} {p : PS} (h : Gd c p) (h1 : kdT c p ≠ -1) (h4 : kdT c p ≠ -4) : MR c p (pastT c p) ∧ p.at_ < (pastT c p).at_ := by
  have h5 := tok_fit h1 h4
  have h6 := sz_le c p
  exact ⟨mr_to h _ (by omega) h5, by show p.at_ < p.at_ + szT c p; omega⟩
theorem mr_acc {c : CX} {p : PS} (h : Gd c p) (k : Int) (h1 : k ≠ -1) (h4 : k ≠ -4) : MR c p (accT c k p).2 ∧ ((accT c k p).1 = true → p.at_ < (accT c k p).2.at_) := by
  unfold accT
  by_cases hk : kdT c p = k
  · simp only [if_pos hk]
    have := mr_past h (by rw [hk]; exact h1) (by rw [hk]; exact h4)
    exact ⟨this.1, fun _ => this.2⟩
  · simp only [if_neg hk]
    exact ⟨MR.refl h, fun e => by cases e⟩
theorem mr_unex {c : CX} {p : PS} (h : Gd c p) : MR c p (unexT c p) ∧ (unexT c p).at_ = c.s.size := mr_fail h _ _ (by first | exact ⟨h.at_, by decide, fun _ => Nat.le_refl _⟩ | exact ⟨h.at_, by decide, fun e => absurd e (by decide)⟩ | exact ⟨Nat.le_refl _, by decide, fun _ => h.at_⟩ | exact ⟨sz_fit h.at_, by decide, fun _ => by have := sz_le c p; omega⟩ | exact ⟨(MR.gd h (by assumption)).at_, by decide, fun _ => Nat.le_refl _⟩ | exact ⟨by omega, by decide, fun e => absurd e (by decide)⟩)
theorem mr_nmr {c : CX} {p : PS} (h : Gd c p) (least : Int) : MR c p (nmrT c least p).2 := by
  unfold nmrT
  split
  · rename_i hd
    have h1 := numE_le hd
    have h2 := mr_to h (numE c p) h1.2 h1.1
    split
    · exact h2.trans (mr_fail (MR.gd h h2) _ _ (by first | exact ⟨h.at_, by decide, fun _ => Nat.le_refl _⟩ | exact ⟨h.at_, by decide, fun e => absurd e (by decide)⟩ | exact ⟨Nat.le_refl _, by decide, fun _ => h.at_⟩ | exact ⟨sz_fit h.at_, by decide, fun _ => by have := sz_le c p; omega⟩ | exact ⟨(MR.gd h (by assumption)).at_, by decide, fun _ => Nat.le_refl _⟩ | exact ⟨by omega, by decide, fun e => absurd e (by decide)⟩)).1
    split
    · exact h2.trans (mr_fail (MR.gd h h2) _ _ (by first | exact ⟨h.at_, by decide, fun _ => Nat.le_refl _⟩ | exact ⟨h.at_, by decide, fun e => absurd e (by decide)⟩ | exact ⟨Nat.le_refl _, by decide, fun _ => h.at_⟩ | exact ⟨sz_fit h.at_, by decide, fun _ => by have := sz_le c p; omega⟩ | exact ⟨(MR.gd h (by assumption)).at_, by decide, fun _ => Nat.le_refl _⟩ | exact ⟨by omega, by decide, fun e => absurd e (by decide)⟩)).1
    · exact h2
  · exact (mr_fail h _ _ (by first | exact ⟨h.at_, by decide, fun _ => Nat.le_refl _⟩ | exact ⟨h.at_, by decide, fun e => absurd e (by decide)⟩ | exact ⟨Nat.le_refl _, by decide, fun _ => h.at_⟩ | exact ⟨sz_fit h.at_, by decide, fun _ => by have := sz_le c p; omega⟩ | exact ⟨(MR.gd h (by assumption)).at_, by decide, fun _ => Nat.le_refl _⟩ | exact ⟨by omega, by decide, fun e => absurd e (by decide)⟩)).1
theorem mr_bndE {c : CX} {p : PS} (h : Gd c p) : MR c p (bndE c p) := by
  unfold bndE
  split
  · exact mr_exp h _ (by omega)
  · have h1 := mr_exp h 92 (by omega)
    exact h1.trans (mr_exp (MR.gd h h1) _ (by omega))
theorem mr_bnd {c : CX} {p : PS} (h : Gd c p) : MR c p (bndT c p).2 := by
  unfold bndT
  have h1 := mr_nmr h 0
  generalize nmrT c 0 p = a at *
  have g1 := MR.gd h h1
  simp only
  split
  · rename_i hk
    have hl := pk_lt (s := c.s) (i := a.2.at_) (by omega)
    have h2 := h1.trans (mr_to g1 (a.2.at_ + 1) (by omega) (by omega))
    have g2 := MR.gd h h2
    split
    · have h3 := h2.trans (mr_nmr g2 a.1)
      exact h3.trans (mr_bndE (MR.gd h h3))
    · exact h2.trans (mr_bndE g2)
  · exact h1.trans (mr_bndE g1)
theorem mr_suf {c : CX} {p : PS} (h : Gd c p) (t : TN) : MR c p (sufT c t p).2 := by
  unfold sufT
  split
  · rename_i hk; exact (mr_past h (by rw [hk]; decide) (by rw [hk]; decide)).1
  split
  · rename_i hk; exact (mr_past h (by rw [hk]; decide) (by rw [hk]; decide)).1
  split
  · rename_i hk; exact (mr_past h (by rw [hk]; decide) (by rw [hk]; decide)).1
  split
  · rename_i hk
    have h1 := (mr_past h (by rw [hk]; decide) (by rw [hk]; decide)).1
    exact h1.trans (mr_bnd (MR.gd h h1))
  · exact MR.refl h
theorem mr_any {c : CX} {p : PS} (h : Gd c p) : MR c p (anyT c p).2 := by
  unfold anyT
  split
  · exact (mr_fail h _ _ (by first | exact ⟨h.at_, by decide, fun _ => Nat.le_refl _⟩ | exact ⟨h.at_, by decide, fun e => absurd e (by decide)⟩ | exact ⟨Nat.le_refl _, by decide, fun _ => h.at_⟩ | exact ⟨sz_fit h.at_, by decide, fun _ => by have := sz_le c p; omega⟩ | exact ⟨(MR.gd h (by assumption)).at_, by decide, fun _ => Nat.le_refl _⟩ | exact ⟨by omega, by decide, fun e => absurd e (by decide)⟩)).1
  · rename_i hk
    have := pk_lt hk
    exact mr_to h _ (by omega) (by omega)
theorem mr_enc {c : CX} {p : PS} (h : Gd c p) (m : Int) (hm : 0 ≤ m) : MR c p (encT c m p).2 := by
  unfold encT
  have h1 := mr_exp h 91 (by omega)
  have h2 := h1.trans (mr_exp (MR.gd h h1) m hm)
  have h3 := h2.trans (mr_any (MR.gd h h2))
  have h4 := h3.trans (mr_exp (MR.gd h h3) m hm)
  exact h4.trans (mr_exp (MR.gd h h4) 93 (by omega))
theorem mr_rnd {c : CX} {p : PS} (h : Gd c p) : MR c p (rndT c p).2 := by
  unfold rndT
  split
  · exact mr_enc h _ (by omega)
  · have h1 := mr_any h
    simp only
    split
    · exact h1.trans (mr_fail (MR.gd h h1) _ _ (by first | exact ⟨h.at_, by decide, fun _ => Nat.le_refl _⟩ | exact ⟨h.at_, by decide, fun e => absurd e (by decide)⟩ | exact ⟨Nat.le_refl _, by decide, fun _ => h.at_⟩ | exact ⟨sz_fit h.at_, by decide, fun _ => by have := sz_le c p; omega⟩ | exact ⟨(MR.gd h (by assumption)).at_, by decide, fun _ => Nat.le_refl _⟩ | exact ⟨by omega, by decide, fun e => absurd e (by decide)⟩)).1
    · exact h1
theorem mr_bac {c : CX} {p : PS} (h : Gd c p) (v : Int) (h1 : kdT c p ≠ -1) (h4 : kdT c p ≠ -4) : MR c p (bacT c v p).2 ∧ p.at_ < (bacT c v p).2.at_ := by
  have h2 := mr_past h h1 h4
  unfold bacT
  split
  · exact h2
  · have h3 := mr_fail h 4 p.at_ ⟨h.at_, by decide, fun e => absurd e (by decide)⟩
    have h5 := tok_fit h1 h4
    have h6 := sz_le c p
    exact ⟨h3.1, by rw [h3.2]; omega⟩
theorem mr_cls {c : CX} {p : PS} (h : Gd c p) : MR c p (clsT c p).2 := by
  unfold clsT
  split
  · exact (mr_fail h _ _ (by first | exact ⟨h.at_, by decide, fun _ => Nat.le_refl _⟩ | exact ⟨h.at_, by decide, fun e => absurd e (by decide)⟩ | exact ⟨Nat.le_refl _, by decide, fun _ => h.at_⟩ | exact ⟨sz_fit h.at_, by decide, fun _ => by have := sz_le c p; omega⟩ | exact ⟨(MR.gd h (by assumption)).at_, by decide, fun _ => Nat.le_refl _⟩ | exact ⟨by omega, by decide, fun e => absurd e (by decide)⟩)).1
  · rename_i k hk
    have h1 := endC_le _ _ _ _ hk
    split
    · exact mr_to h _ (by omega) (by omega)
    · exact (mr_fail h _ _ (by first | exact ⟨h.at_, by decide, fun _ => Nat.le_refl _⟩ | exact ⟨h.at_, by decide, fun e => absurd e (by decide)⟩ | exact ⟨Nat.le_refl _, by decide, fun _ => h.at_⟩ | exact ⟨sz_fit h.at_, by decide, fun _ => by have := sz_le c p; omega⟩ | exact ⟨(MR.gd h (by assumption)).at_, by decide, fun _ => Nat.le_refl _⟩ | exact ⟨by omega, by decide, fun e => absurd e (by decide)⟩)).1
theorem mr_itm {c : CX} {p : PS} (h : Gd c p) : MR c p (itmT c p).2 := by
  unfold itmT
  split
  · exact mr_cls h
  split
  · exact mr_enc h _ (by omega)
  · have h1 := mr_rnd h
    generalize rndT c p = a at *
    simp only
    split
    · rename_i hk
      have hl := pk_lt (s := c.s) (i := a.2.at_) (by rw [hk.1]; decide)
      have g1 := MR.gd h h1
      have h2 := h1.trans (mr_to g1 (a.2.at_ + 1) (by omega) (by omega))
      have h3 := h2.trans (mr_rnd (MR.gd h h2))
      split
      · exact h3
      · exact h3.trans (mr_fail (MR.gd h h3) _ _ (by first | exact ⟨h.at_, by decide, fun _ => Nat.le_refl _⟩ | exact ⟨h.at_, by decide, fun e => absurd e (by decide)⟩ | exact ⟨Nat.le_refl _, by decide, fun _ => h.at_⟩ | exact ⟨sz_fit h.at_, by decide, fun _ => by have := sz_le c p; omega⟩ | exact ⟨(MR.gd h (by assumption)).at_, by decide, fun _ => Nat.le_refl _⟩ | exact ⟨by omega, by decide, fun e => absurd e (by decide)⟩)).1
    · exact h1
theorem mr_its {c : CX} : ∀ (n : Nat) (st : Nat → Bool) {p : PS}, Gd c p → MR c p (itsT c n st p).2
  | 0, st, p, h => MR.refl h
  | n + 1, st, p, h => by
    unfold itsT
    split
    · exact MR.refl h
    · have h1 := mr_itm h
      exact h1.trans (mr_its n _ (MR.gd h h1))
theorem mr_brk {c : CX} {p : PS} (h : Gd c p) (hk : pkT c.s p.at_ = 91) : MR c p (brkT c p).2 ∧ p.at_ < (brkT c p).2.at_ := by
  have hl := pk_lt (s := c.s) (i := p.at_) (by rw [hk]; decide)
  unfold brkT
  simp only
  have h1 : MR c p (acbT c 91 p).2 ∧ p.at_ < (acbT c 91 p).2.at_ := by
    unfold acbT
    rw [if_pos hk]
    exact ⟨mr_to h _ (by omega) (by omega), by show p.at_ < p.at_ + 1; omega⟩
  have h2 := h1.1.trans (mr_acb (MR.gd h h1.1) 94 (by omega))
  have s2 := (mr_acb (MR.gd h h1.1) 94 (by omega)).a
  generalize acbT c 94 (acbT c 91 p).2 = inv at *
  have h3 := h2.trans (mr_itm (MR.gd h h2))
  have s3 := (mr_itm (MR.gd h h2)).a
  generalize itmT c inv.2 = a at *
  have h4 := h3.trans (mr_its (c.s.size + 1) a.1 (MR.gd h h3))
  have s4 := (mr_its (c.s.size + 1) a.1 (MR.gd h h3)).a
  generalize itsT c (c.s.size + 1) a.1 a.2 = b at *
  have h5 := h4.trans (mr_exp (MR.gd h h4) 93 (by omega))
  have s5 := (mr_exp (MR.gd h h4) 93 (by omega)).a
  have := h1.2
  split
  · have h6 := mr_fail (MR.gd h h5) 2 p.at_ ⟨h.at_, by decide, fun e => absurd e (by decide)⟩
    exact ⟨h5.trans h6.1, by have := h6.1.a; omega⟩
  · exact ⟨h5, by omega⟩
def GrpMR (c : CX) (G : PS → Prop) (grp : PS → TN × PS) : Prop := ∀ q, Gd c q → G q → kdT c q = 40 → MR c q (grp q).2 ∧ q.at_ < (grp q).2.at_
theorem mr_pie {c : CX} {G : PS → Prop} {grp : PS → TN × PS} (hg : GrpMR c G grp) {p : PS} (h : Gd c p) (hG : G p) : MR c p (pieW c grp p).2 ∧ (p.at_ < c.s.size → p.at_ < (pieW c grp p).2.at_) := by
  unfold pieW
  split
  · rename_i hk
    have := mr_past h (by rw [hk]; decide) (by rw [hk]; decide)
    exact ⟨this.1, fun _ => this.2⟩
  split
  · rename_i hk
    have := mr_past h (by rw [hk]; decide) (by rw [hk]; decide)
    exact ⟨this.1, fun _ => this.2⟩
  split
  · rename_i hk
    have h1 := hg p h hG hk
    have h2 := mr_suf (MR.gd h h1.1) (grp p).1
    exact ⟨h1.1.trans h2, fun _ => Nat.lt_of_lt_of_le h1.2 h2.a⟩
  split
  · rename_i hk
    have h1 := mr_brk h (kd_91 hk)
    have h2 := mr_suf (MR.gd h h1.1) (brkT c p).1
    exact ⟨h1.1.trans h2, fun _ => Nat.lt_of_lt_of_le h1.2 h2.a⟩
  split
  · rename_i hk
    have h1 := mr_past h (by rw [hk]; decide) (by rw [hk]; decide)
    have h2 := mr_suf (MR.gd h h1.1) (setR (linT c fun x => !noSet x))
    exact ⟨h1.1.trans h2, fun _ => Nat.lt_of_lt_of_le h1.2 h2.a⟩
  split
  · rename_i hk
    have h1 := mr_past h (by rw [hk]; decide) (by rw [hk]; decide)
    have h2 := mr_suf (MR.gd h h1.1) (setR (foldT c (between (vlT c p).toNat (vlT c p).toNat)))
    exact ⟨h1.1.trans h2, fun _ => Nat.lt_of_lt_of_le h1.2 h2.a⟩
  split
  · rename_i hk
    have h1 := mr_bac h (vlT c p) (by rw [hk]; decide) (by rw [hk]; decide)
    have h2 := mr_suf (MR.gd h h1.1) (bacT c (vlT c p) p).1
    exact ⟨h1.1.trans h2, fun _ => Nat.lt_of_lt_of_le h1.2 h2.a⟩
  · have h1 := mr_unex h
    exact ⟨h1.1, fun hl => by show p.at_ < (unexT c p).at_; rw [h1.2]; exact hl⟩
theorem mr_lop {c : CX} {G : PS → Prop} {more : PS → Bool × PS} {step : PS → TN × PS} (hs : ∀ q, Gd c q → G q → MR c q (step q).2 ∧ G (step q).2) (hm : ∀ q, Gd c q → G q → MR c q (more q).2 ∧ G (more q).2) :
    ∀ (n : Nat) (f : F) {p : PS}, Gd c p → G p → MR c p (lopT more step n f p).2
  | 0, f, p, h, hG => MR.refl h
  | n + 1, f, p, h, hG => by
    unfold lopT
    have h1 := hm p h hG
    split
    · have h2 := hs _ (MR.gd h h1.1) h1.2
      have h3 := h1.1.trans h2.1
      exact h3.trans (mr_lop hs hm n _ (MR.gd h h3) h2.2)
    · exact h1.1
theorem mr_joi {c : CX} {G : PS → Prop} {more : PS → Bool × PS} {step : PS → TN × PS} (hs : ∀ q, Gd c q → G q → MR c q (step q).2 ∧ G (step q).2) (hm : ∀ q, Gd c q → G q → MR c q (more q).2 ∧ G (more q).2) (op : Int) {p : PS} (h : Gd c p) (hG : G p) : MR c p (joiT c op more step p).2 := by
  unfold joiT
  have h1 := hs p h hG
  exact h1.1.trans (mr_lop hs hm _ _ (MR.gd h h1.1) h1.2)
theorem Gn.mr {c : CX} {n : Nat} {p q : PS} (h : Gn n p) (k : MR c p q) : Gn n q := Nat.le_trans h (Nat.add_le_add_right k.g n)
theorem mr_bra {c : CX} {n : Nat} {grp : PS → TN × PS} (hg : GrpMR c (Gn n) grp) {p : PS} (h : Gd c p) (hG : Gn n p) : MR c p (braW c grp p).2 :=
  mr_joi (G := Gn n) (fun q h1 h2 => ⟨(mr_pie hg h1 h2).1, h2.mr (mr_pie hg h1 h2).1⟩) (fun q h1 h2 => ⟨MR.refl h1, h2⟩) 3 h hG
theorem mr_uni {c : CX} {n : Nat} {grp : PS → TN × PS} (hg : GrpMR c (Gn n) grp) {p : PS} (h : Gd c p) (hG : Gn n p) : MR c p (uniW c grp p).2 :=
  mr_joi (G := Gn n) (fun q h1 h2 => ⟨mr_bra hg h1 h2, h2.mr (mr_bra hg h1 h2)⟩) (fun q h1 h2 => ⟨(mr_acc h1 124 (by decide) (by decide)).1, h2.mr (mr_acc h1 124 (by decide) (by decide)).1⟩) 4 h hG
theorem mr_ins {c : CX} {n : Nat} {grp : PS → TN × PS} (hg : GrpMR c (Gn n) grp) {p : PS} (h : Gd c p) (hG : Gn n p) : MR c p (insW c grp p).2 := by
  unfold insW
  split
  · exact MR.refl h
  · exact mr_uni hg h hG
theorem gro_mr (c : CX) : ∀ n, GrpMR c (Gn n) (groT c n)
  | 0, q, h, hG, hk => by
    have : 10 ≤ q.gr + 0 := hG
    have := h.gr
    omega
  | n + 1, p, h, hG, hk => by
    unfold groT
    have hfit := tok_fit (c := c) (p := p) (by rw [hk]; decide) (by rw [hk]; decide)
    have hsz := sz_le c p
    split
    · have h1 := mr_fail h 3 p.at_ ⟨h.at_, by decide, fun e => absurd e (by decide)⟩
      exact ⟨h1.1, by rw [h1.2]; omega⟩
    · rename_i h9
      have hgr := h.gr
      have hop : Gd c (opnP p) := ⟨h.at_, h.st, by show p.gr + 1 ≤ 9; omega, by show p.opn + 1 ≤ p.gr + 1; have := h.opn; omega⟩
      have hk2 : kdT c (opnP p) = 40 := by
        have : tokT c (opnP p) = tokT c p := kd_same rfl rfl
        unfold kdT
        rw [this]
        exact hk
      have ha : accT c 40 (opnP p) = (true, pastT c (opnP p)) := by
        unfold accT
        rw [if_pos hk2]
      have hb := mr_past hop (by rw [hk2]; decide) (by rw [hk2]; decide)
      rw [ha]
      have hG2 : Gn n (begP (pastT c (opnP p))) := by
        have : 10 ≤ p.gr + (n + 1) := hG
        show 10 ≤ p.gr + 1 + n
        omega
      have gb : Gd c (begP (pastT c (opnP p))) := ⟨hb.1.b, Nat.le_refl _, hop.gr, hop.opn⟩
      have hi := mr_ins (gro_mr c n) gb hG2
      simp only
      generalize insW c (groT c n) (begP (pastT c (opnP p))) = a at *
      have ga := MR.gd gb hi
      have hlt : p.at_ < a.2.at_ := Nat.lt_of_lt_of_le hb.2 hi.a
      have hcl : ∀ r, MR c a.2 r → MR c p (cloP r (p.gr + 1)) ∧ p.at_ < (cloP r (p.gr + 1)).at_ := fun r k => by
        have e1 : a.2.opn = p.opn + 1 := hi.o
        have e2 : r.opn = a.2.opn := k.o
        have e3 : p.gr + 1 ≤ a.2.gr := hi.g
        have e4 := k.g
        have e5 := k.a
        have hT : MR c (opnP p) r := ((⟨hb.1.a, hb.1.b, hb.1.g, hb.1.g9, hb.1.o, Nat.le_refl _, hb.1.kp, hb.1.fr⟩ : MR c (opnP p) (begP (pastT c (opnP p)))).trans hi).trans k
        exact ⟨⟨by show p.at_ ≤ r.at_; omega, k.b, by show p.gr ≤ r.gr; omega, k.g9, by show r.opn - 1 = p.opn; omega, k.s, hT.kp, hT.fr⟩, by show p.at_ < r.at_; omega⟩
      by_cases hb2 : (accT c 41 a.2).1 = true
      · rw [if_pos hb2]
        exact hcl _ (mr_acc ga 41 (by decide) (by decide)).1
      · rw [if_neg hb2]
        have : (accT c 41 a.2).2 = a.2 := by
          unfold accT at hb2 ⊢
          split
          · rename_i e; simp [e] at hb2
          · rfl
        rw [this]
        exact hcl _ (mr_unex ga).1
end Go.Proofs.YtphiaagppcbefaaGreatDoor
