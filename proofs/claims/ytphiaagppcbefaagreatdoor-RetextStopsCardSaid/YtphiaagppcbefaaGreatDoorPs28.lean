/- RxStF. -/
import Derived.Test.YtphiaagppcbefaaGreatDoorPs27
set_option linter.unusedVariables false
namespace Go.Proofs.YtphiaagppcbefaaGreatDoor
open Go.RowKit
section
variable {s t : ByteArray} {m : Nat} {fl : Int} {L : Loc}
def NN (s : ByteArray) (fl : Int) (L : Loc) (m : Nat) (q q' : PS) : Prop := (q.err = 0 ∧ q.at_ + 1 = m ∧ kdT ⟨s, fl, L⟩ q = 41 ∧ szT ⟨s, fl, L⟩ q = 2) ∧ Lx m q'
def RNN (s : ByteArray) (fl : Int) (L : Loc) (m : Nat) (q q' : PS) : Prop := RS m q q' ∨ NN s fl L m q q'
theorem lopB_mr {c : CX} {G : PS → Prop} {grp : PS → TN × PS} (hm : GrpMR c G grp) (hG : ∀ p q, G p → MR c p q → G q) (n : Nat) (f : F) {p : PS} (g : Gd c p) (gp : G p) : MR c p (lopT (morB c) (pieW c grp) n f p).2 :=
  mr_lop (G := G) (fun q h1 h2 => ⟨(mr_pie hm h1 h2).1, hG _ _ h2 (mr_pie hm h1 h2).1⟩) (fun q h1 h2 => ⟨MR.refl h1, h2⟩) n f g gp
theorem bra_mr {c : CX} {G : PS → Prop} {grp : PS → TN × PS} (hm : GrpMR c G grp) (hG : ∀ p q, G p → MR c p q → G q) {p : PS} (g : Gd c p) (gp : G p) : MR c p (braW c grp p).2 := by
  have h1 := (mr_pie hm g gp).1
  exact h1.trans (lopB_mr hm hG _ _ (MR.gd g h1) (hG _ _ gp h1))
theorem lopU_mr {c : CX} {G : PS → Prop} {grp : PS → TN × PS} (hm : GrpMR c G grp) (hG : ∀ p q, G p → MR c p q → G q) (n : Nat) (f : F) {p : PS} (g : Gd c p) (gp : G p) : MR c p (lopT (accT c 124) (braW c grp) n f p).2 :=
  mr_lop (G := G) (fun q h1 h2 => ⟨bra_mr hm hG h1 h2, hG _ _ h2 (bra_mr hm hG h1 h2)⟩) (fun q h1 h2 => ⟨(mr_acc h1 124 (by decide) (by decide)).1, hG _ _ h2 (mr_acc h1 124 (by decide) (by decide)).1⟩) n f g gp
theorem uni_mr {c : CX} {G : PS → Prop} {grp : PS → TN × PS} (hm : GrpMR c G grp) (hG : ∀ p q, G p → MR c p q → G q) {p : PS} (g : Gd c p) (gp : G p) : MR c p (uniW c grp p).2 := by
  have h1 := bra_mr hm hG g gp
  exact h1.trans (lopU_mr hm hG _ _ (MR.gd g h1) (hG _ _ gp h1))
theorem lopB_end (hp : Pre s t m) (b : PS → TN × PS) (n : Nat) (f : F) {p : PS} (h0 : p.err = 0) (hm : p.at_ = m) : Ld m (lopT (morB ⟨t, fl, L⟩) (pieW ⟨t, fl, L⟩ b) n f p).2 := by
  cases n with
  | zero => exact .inl ⟨h0, hm⟩
  | succ n =>
    unfold lopT
    have : morB ⟨t, fl, L⟩ p = (false, p) := by
      unfold morB kdT
      rw [tkD_end hp hm, if_pos (.inl rfl)]
    rw [this]
    exact .inl ⟨h0, hm⟩
section
variable {G : PS → Prop} {a b : PS → TN × PS}
theorem rn_lop (hp : Pre s t m) (hG : Grp2 s t m fl L G a b) (gG : ∀ c p q, G p → MR c p q → G q) : ∀ (n n' : Nat) (f f' : F) (p : PS), Gd ⟨s, fl, L⟩ p → Gd ⟨t, fl, L⟩ p → G p → p.err = 0 → p.at_ ≤ m → s.size < n + p.at_ → m < n' + p.at_ →
    RNN s fl L m (lopT (morB ⟨s, fl, L⟩) (pieW ⟨s, fl, L⟩ a) n f p).2 (lopT (morB ⟨t, fl, L⟩) (pieW ⟨t, fl, L⟩ b) n' f' p).2
  | 0, n', f, f', p, gC, gD, g, h0, hm, h1, h2 => by have : p.at_ ≤ s.size := gC.at_; omega
  | n + 1, 0, f, f', p, gC, gD, g, h0, hm, h1, h2 => by omega
  | n + 1, n' + 1, f, f', p, gC, gD, g, h0, hm, h1, h2 => by
    have hle := hp.le
    by_cases hlt : p.at_ < m
    · -- both go on
      have both : (morB ⟨s, fl, L⟩ p).1 = true → (morB ⟨t, fl, L⟩ p).1 = true → RNN s fl L m (lopT (morB ⟨s, fl, L⟩) (pieW ⟨s, fl, L⟩ a) (n + 1) f p).2 (lopT (morB ⟨t, fl, L⟩) (pieW ⟨t, fl, L⟩ b) (n' + 1) f' p).2 := fun e1 e2 => by
        have hpi := rs_pie hp hG gC gD g h0 hlt
        have mC := mr_pie hG.mC gC g
        have mD := mr_pie hG.mD gD g
        have hadv := mC.2 (show p.at_ < s.size by omega)
        unfold lopT
        rw [if_pos e1, if_pos e2]
        show RNN s fl L m (lopT (morB ⟨s, fl, L⟩) (pieW ⟨s, fl, L⟩ a) n (f.push (pieW ⟨s, fl, L⟩ a p).1) (pieW ⟨s, fl, L⟩ a p).2).2 (lopT (morB ⟨t, fl, L⟩) (pieW ⟨t, fl, L⟩ b) n' (f'.push (pieW ⟨t, fl, L⟩ b p).1) (pieW ⟨t, fl, L⟩ b p).2).2
        have gC1 := MR.gd gC mC.1
        have gD1 := MR.gd gD mD.1
        have g1 := gG _ _ _ g mC.1
        have g2 := gG _ _ _ g mD.1
        generalize pieW ⟨s, fl, L⟩ a p = x at *
        generalize pieW ⟨t, fl, L⟩ b p = x' at *
        by_cases hA : x'.2 = x.2 ∧ x.2.err = 0 ∧ x.2.at_ ≤ m
        · rw [hA.1] at gD1 ⊢
          exact rn_lop hp hG gG n n' _ _ x.2 gC1 gD1 g1 hA.2.1 hA.2.2 (by omega) (by omega)
        · refine .inl ?_
          refine RV.step (r := ((), x.2)) (r' := ((), x'.2)) (q := ((), _)) (q' := ((), _)) lx_ld (lopB_mr hG.mC (gG _) n _ gC1 g1) (lopB_mr hG.mD (gG _) n' _ gD1 g2) (lopB_end hp b n' _) (fun e e0 e1 => absurd ⟨(Prod.mk.inj e).2, e0, Nat.le_of_lt e1⟩ hA) hpi
      cases tok_pre (fl := fl) (L := L) hp gC.st hlt with
      | same k1 k2 =>
        have hmor : morB ⟨t, fl, L⟩ p = morB ⟨s, fl, L⟩ p := by unfold morB kdT; rw [k1]
        by_cases e : (morB ⟨s, fl, L⟩ p).1 = true
        · exact both e (by rw [hmor]; exact e)
        · refine .inl ?_
          unfold lopT
          rw [if_neg e, if_neg (by rw [hmor]; exact e)]
          exact RV.same (r := ((), p)) h0 hm
      | esc k1 k2 k3 k4 k5 =>
        have eD : (morB ⟨t, fl, L⟩ p).1 = true := by
          unfold morB
          rw [if_neg (by rw [k3]; decide), if_neg (by rw [k3]; decide)]
        by_cases e : (morB ⟨s, fl, L⟩ p).1 = true
        · exact both e eD
        · have k41 : kdT ⟨s, fl, L⟩ p = 41 := by
            by_cases h : kdT ⟨s, fl, L⟩ p = 41
            · exact h
            · exfalso
              apply e
              unfold morB
              rw [if_neg (by omega), if_neg h]
          have mD := mr_pie hG.mD gD g
          refine .inr ⟨?_, ?_⟩
          · unfold lopT
            rw [if_neg e]
            exact ⟨h0, k1, k41, k2⟩
          · unfold lopT
            rw [if_pos eD]
            have hx : Lx m (pieW ⟨t, fl, L⟩ b p).2 := by
              rw [pie_out (c := ⟨t, fl, L⟩) (by rw [k3]; decide)]
              unfold unexT
              rw [k4]
              have : p.at_ + 2 - 1 = m := by omega
              rw [this]
              exact lx_failm h0 m
            exact hx.mr (lopB_mr hG.mD (gG _) n' _ (MR.gd gD mD.1) (gG _ _ _ g mD.1))
      | dol k1 k2 k3 k4 k5 =>
        refine both ?_ ?_
        · unfold morB
          rw [if_neg (by omega), if_neg (by omega)]
        · unfold morB
          rw [if_neg (by omega), if_neg (by omega)]
    · exact .inl (.inr (.inr (.inl ⟨Lat.of h0 (by omega) (lopB_mr hG.mC (gG _) (n + 1) f gC g), lopB_end hp b (n' + 1) f' h0 (by omega)⟩)))
theorem bra_end (hp : Pre s t m) (hG : Grp2 s t m fl L G a b) (gG : ∀ c p q, G p → MR c p q → G q) {p : PS} (gD : Gd ⟨t, fl, L⟩ p) (g : G p) (h0 : p.err = 0) (hm : p.at_ = m) : Lx m (braW ⟨t, fl, L⟩ b p).2 := by
  have mD := mr_pie hG.mD gD g
  exact (pie_end hp b h0 hm).mr (lopB_mr hG.mD (gG _) _ _ (MR.gd gD mD.1) (gG _ _ _ g mD.1))
theorem rn_bra (hp : Pre s t m) (hG : Grp2 s t m fl L G a b) (gG : ∀ c p q, G p → MR c p q → G q) {p : PS} (gC : Gd ⟨s, fl, L⟩ p) (gD : Gd ⟨t, fl, L⟩ p) (g : G p) (h0 : p.err = 0) (hm : p.at_ ≤ m) : RNN s fl L m (braW ⟨s, fl, L⟩ a p).2 (braW ⟨t, fl, L⟩ b p).2 := by
  have hle := hp.le
  have hsz := hp.size
  by_cases hlt : p.at_ < m
  · have hpi := rs_pie hp hG gC gD g h0 hlt
    have mC := mr_pie hG.mC gC g
    have mD := mr_pie hG.mD gD g
    unfold braW joiT
    show RNN s fl L m (lopT (morB ⟨s, fl, L⟩) (pieW ⟨s, fl, L⟩ a) (s.size + 1) (F.nil.push (pieW ⟨s, fl, L⟩ a p).1) (pieW ⟨s, fl, L⟩ a p).2).2 (lopT (morB ⟨t, fl, L⟩) (pieW ⟨t, fl, L⟩ b) (t.size + 1) (F.nil.push (pieW ⟨t, fl, L⟩ b p).1) (pieW ⟨t, fl, L⟩ b p).2).2
    have gC1 := MR.gd gC mC.1
    have gD1 := MR.gd gD mD.1
    have g1 := gG _ _ _ g mC.1
    have g2 := gG _ _ _ g mD.1
    generalize pieW ⟨s, fl, L⟩ a p = x at *
    generalize pieW ⟨t, fl, L⟩ b p = x' at *
    by_cases hA : x'.2 = x.2 ∧ x.2.err = 0 ∧ x.2.at_ ≤ m
    · rw [hA.1] at gD1 ⊢
      exact rn_lop hp hG gG (s.size + 1) (t.size + 1) _ _ x.2 gC1 gD1 g1 hA.2.1 hA.2.2 (by omega) (by omega)
    · refine .inl ?_
      refine RV.step (r := ((), x.2)) (r' := ((), x'.2)) (q := ((), _)) (q' := ((), _)) lx_ld (lopB_mr hG.mC (gG _) _ _ gC1 g1) (lopB_mr hG.mD (gG _) _ _ gD1 g2) (lopB_end hp b _ _) (fun e e0 e1 => absurd ⟨(Prod.mk.inj e).2, e0, Nat.le_of_lt e1⟩ hA) hpi
  · exact .inl (.inr (.inr (.inl ⟨Lat.of h0 (by omega) (bra_mr hG.mC (gG _) gC g), .inr (bra_end hp hG gG gD g h0 (by omega))⟩)))
theorem lopU_end (hp : Pre s t m) (b : PS → TN × PS) (n : Nat) (f : F) {p : PS} (h0 : p.err = 0) (hm : p.at_ = m) : Ld m (lopT (accT ⟨t, fl, L⟩ 124) (braW ⟨t, fl, L⟩ b) n f p).2 := by
  cases n with
  | zero => exact .inl ⟨h0, hm⟩
  | succ n =>
    have : accT ⟨t, fl, L⟩ 124 p = (false, p) := by
      unfold accT kdT
      rw [tkD_end hp hm, if_neg (by decide)]
    unfold lopT
    rw [this]
    exact .inl ⟨h0, hm⟩
theorem rn_lopU (hp : Pre s t m) (hG : Grp2 s t m fl L G a b) (gG : ∀ c p q, G p → MR c p q → G q) : ∀ (n n' : Nat) (f f' : F) (p p' : PS), Gd ⟨s, fl, L⟩ p → Gd ⟨t, fl, L⟩ p' → G p → G p' → RNN s fl L m p p' → s.size < n + p.at_ → m < n' + p'.at_ →
    RNN s fl L m (lopT (accT ⟨s, fl, L⟩ 124) (braW ⟨s, fl, L⟩ a) n f p).2 (lopT (accT ⟨t, fl, L⟩ 124) (braW ⟨t, fl, L⟩ b) n' f' p').2
  | 0, n', f, f', p, p', gC, gD, g, g', hr, h1, h2 => by have : p.at_ ≤ s.size := gC.at_; omega
  | n + 1, 0, f, f', p, p', gC, gD, g, g', hr, h1, h2 => by have : p'.at_ ≤ t.size := gD.at_; have := hp.size; omega
  | n + 1, n' + 1, f, f', p, p', gC, gD, g, g', hr, h1, h2 => by
    have hle := hp.le
    have hsz := hp.size
    rcases hr with hr | ⟨⟨e0, e1, e2, e3⟩, hx⟩
    · by_cases hA : (p' = p ∧ p.err = 0) ∧ p.at_ < m
      · obtain ⟨⟨rfl, h0⟩, hlt⟩ := hA
        have hacc := rv_acc hp 124 (by decide) gC gD (RV.same (r := ((), p')) h0 (Nat.le_of_lt hlt))
        have aC := mr_acc gC 124 (by decide) (by decide)
        have aD := mr_acc gD 124 (by decide) (by decide)
        unfold lopT
        have gC1 := MR.gd gC aC.1
        have gD1 := MR.gd gD aD.1
        have g1 := gG _ _ _ g aC.1
        have g2 := gG _ _ _ g aD.1
        have hadv := aC.2
        generalize accT ⟨s, fl, L⟩ 124 p' = x at *
        generalize accT ⟨t, fl, L⟩ 124 p' = x' at *
        have mC : MR ⟨s, fl, L⟩ x.2 (if x.1 = true then lopT (accT ⟨s, fl, L⟩ 124) (braW ⟨s, fl, L⟩ a) n (f.push (braW ⟨s, fl, L⟩ a x.2).1) (braW ⟨s, fl, L⟩ a x.2).2 else (f, x.2)).2 := by
          split
          · have k := bra_mr hG.mC (gG _) gC1 g1
            exact k.trans (lopU_mr hG.mC (gG _) n _ (MR.gd gC1 k) (gG _ _ _ g1 k))
          · exact MR.refl gC1
        have mD : MR ⟨t, fl, L⟩ x'.2 (if x'.1 = true then lopT (accT ⟨t, fl, L⟩ 124) (braW ⟨t, fl, L⟩ b) n' (f'.push (braW ⟨t, fl, L⟩ b x'.2).1) (braW ⟨t, fl, L⟩ b x'.2).2 else (f', x'.2)).2 := by
          split
          · have k := bra_mr hG.mD (gG _) gD1 g2
            exact k.trans (lopU_mr hG.mD (gG _) n' _ (MR.gd gD1 k) (gG _ _ _ g2 k))
          · exact MR.refl gD1
        by_cases hB : (x' = x ∧ x.2.err = 0) ∧ x.2.at_ ≤ m
        · obtain ⟨⟨rfl, b0⟩, b1⟩ := hB
          by_cases hb : x'.1 = true
          · rw [if_pos hb, if_pos hb]
            have k1 := bra_mr hG.mC (gG _) gC1 g1
            have k2 := bra_mr hG.mD (gG _) gD1 g2
            have hlt2 := hadv hb
            exact rn_lopU hp hG gG n n' _ _ _ _ (MR.gd gC1 k1) (MR.gd gD1 k2) (gG _ _ _ g1 k1) (gG _ _ _ g2 k2) (rn_bra hp hG gG gC1 gD1 g1 b0 b1) (by have := k1.a; omega) (by have := k2.a; omega)
          · rw [if_neg hb, if_neg hb]
            exact .inl (RV.same (r := ((), x'.2)) b0 b1)
        · refine .inl ?_
          refine RV.step (r := x) (r' := x') (q := ((), _)) (q' := ((), _)) lx_ld mC mD (fun c0 c1 => ?_) (fun e c0 c1 => absurd ⟨⟨e, c0⟩, Nat.le_of_lt c1⟩ hB) hacc
          split
          · have k := bra_mr hG.mD (gG _) gD1 g2
            exact .inr ((bra_end hp hG gG gD1 g2 c0 c1).mr (lopU_mr hG.mD (gG _) n' _ (MR.gd gD1 k) (gG _ _ _ g2 k)))
          · exact .inl ⟨c0, c1⟩
      · refine .inl ?_
        exact RV.step (r := ((), p)) (r' := ((), p')) (q := ((), _)) (q' := ((), _)) lx_ld (lopU_mr hG.mC (gG _) (n + 1) f gC g) (lopU_mr hG.mD (gG _) (n' + 1) f' gD g') (lopU_end hp b (n' + 1) f') (fun e c0 c1 => absurd ⟨⟨(Prod.mk.inj e).2, c0⟩, c1⟩ hA) hr
    · refine .inr ⟨?_, hx.mr (lopU_mr hG.mD (gG _) (n' + 1) f' gD g')⟩
      have : accT ⟨s, fl, L⟩ 124 p = (false, p) := by
        unfold accT
        rw [if_neg (by rw [e2]; decide)]
      unfold lopT
      rw [this]
      exact ⟨e0, e1, e2, e3⟩
theorem uni_end (hp : Pre s t m) (hG : Grp2 s t m fl L G a b) (gG : ∀ c p q, G p → MR c p q → G q) {p : PS} (gD : Gd ⟨t, fl, L⟩ p) (g : G p) (h0 : p.err = 0) (hm : p.at_ = m) : Lx m (uniW ⟨t, fl, L⟩ b p).2 := by
  have k := bra_mr hG.mD (gG _) gD g
  exact (bra_end hp hG gG gD g h0 hm).mr (lopU_mr hG.mD (gG _) _ _ (MR.gd gD k) (gG _ _ _ g k))
theorem rn_uni (hp : Pre s t m) (hG : Grp2 s t m fl L G a b) (gG : ∀ c p q, G p → MR c p q → G q) {p : PS} (gC : Gd ⟨s, fl, L⟩ p) (gD : Gd ⟨t, fl, L⟩ p) (g : G p) (h0 : p.err = 0) (hm : p.at_ ≤ m) : RNN s fl L m (uniW ⟨s, fl, L⟩ a p).2 (uniW ⟨t, fl, L⟩ b p).2 := by
  have hsz := hp.size
  have k1 := bra_mr hG.mC (gG _) gC g
  have k2 := bra_mr hG.mD (gG _) gD g
  unfold uniW joiT
  exact rn_lopU hp hG gG (s.size + 1) (t.size + 1) _ _ _ _ (MR.gd gC k1) (MR.gd gD k2) (gG _ _ _ g k1) (gG _ _ _ g k2) (rn_bra hp hG gG gC gD g h0 hm) (by omega) (by omega)
theorem ins_mr {c : CX} {grp : PS → TN × PS} (hm : GrpMR c G grp) (hG : ∀ p q, G p → MR c p q → G q) {p : PS} (g : Gd c p) (gp : G p) : MR c p (insW c grp p).2 := by
  unfold insW
  split
  · exact MR.refl g
  · exact uni_mr hm hG g gp
theorem rn_ins (hp : Pre s t m) (hG : Grp2 s t m fl L G a b) (gG : ∀ c p q, G p → MR c p q → G q) {p : PS} (gC : Gd ⟨s, fl, L⟩ p) (gD : Gd ⟨t, fl, L⟩ p) (g : G p) (h0 : p.err = 0) (hm : p.at_ ≤ m) : RNN s fl L m (insW ⟨s, fl, L⟩ a p).2 (insW ⟨t, fl, L⟩ b p).2 := by
  by_cases hlt : p.at_ < m
  · cases tok_pre (fl := fl) (L := L) hp gC.st hlt with
    | same k1 k2 =>
      have hkd : kdT ⟨t, fl, L⟩ p = kdT ⟨s, fl, L⟩ p := by unfold kdT; rw [k1]
      unfold insW
      by_cases e : (⟨s, fl, L⟩ : CX).ext = true ∧ kdT ⟨s, fl, L⟩ p = 41
      · rw [if_pos e, if_pos (show (⟨t, fl, L⟩ : CX).ext = true ∧ kdT ⟨t, fl, L⟩ p = 41 from ⟨e.1, hkd.trans e.2⟩)]
        exact .inl (RV.same (r := ((), p)) h0 hm)
      · rw [if_neg e, if_neg (show ¬ ((⟨t, fl, L⟩ : CX).ext = true ∧ kdT ⟨t, fl, L⟩ p = 41) from fun h => e ⟨h.1, hkd.symm.trans h.2⟩)]
        exact rn_uni hp hG gG gC gD g h0 hm
    | esc k1 k2 k3 k4 k5 =>
      unfold insW
      rw [if_neg (show ¬ ((⟨t, fl, L⟩ : CX).ext = true ∧ kdT ⟨t, fl, L⟩ p = 41) by rw [k3]; rintro ⟨_, h⟩; cases h)]
      by_cases e : (⟨s, fl, L⟩ : CX).ext = true ∧ kdT ⟨s, fl, L⟩ p = 41
      · rw [if_pos e]
        refine .inr ⟨⟨h0, k1, e.2, k2⟩, ?_⟩
        have mD := mr_pie hG.mD gD g
        have hx : Lx m (pieW ⟨t, fl, L⟩ b p).2 := by
          rw [pie_out (c := ⟨t, fl, L⟩) (by rw [k3]; decide)]
          unfold unexT
          rw [k4]
          have : p.at_ + 2 - 1 = m := by omega
          rw [this]
          exact lx_failm h0 m
        have hb : Lx m (braW ⟨t, fl, L⟩ b p).2 := hx.mr (lopB_mr hG.mD (gG _) _ _ (MR.gd gD mD.1) (gG _ _ _ g mD.1))
        have k := bra_mr hG.mD (gG _) gD g
        exact hb.mr (lopU_mr hG.mD (gG _) _ _ (MR.gd gD k) (gG _ _ _ g k))
      · rw [if_neg e]
        exact rn_uni hp hG gG gC gD g h0 hm
    | dol k1 k2 k3 k4 k5 =>
      unfold insW
      rw [if_neg (show ¬ ((⟨t, fl, L⟩ : CX).ext = true ∧ kdT ⟨t, fl, L⟩ p = 41) by omega), if_neg (show ¬ ((⟨s, fl, L⟩ : CX).ext = true ∧ kdT ⟨s, fl, L⟩ p = 41) by omega)]
      exact rn_uni hp hG gG gC gD g h0 hm
  · refine .inl (.inr (.inr (.inl ⟨Lat.of h0 (by omega) (ins_mr hG.mC (gG _) gC g), .inr ?_⟩)))
    unfold insW
    rw [if_neg (show ¬ ((⟨t, fl, L⟩ : CX).ext = true ∧ kdT ⟨t, fl, L⟩ p = 41) by unfold kdT; rw [tkD_end hp (by omega)]; rintro ⟨_, h⟩; cases h)]
    exact uni_end hp hG gG gD g h0 (by omega)
end
end
end Go.Proofs.YtphiaagppcbefaaGreatDoor
