/- RxStD. -/
import Derived.Test.YtphiaagppcbefaaGreatDoorPs25
set_option linter.unusedVariables false
namespace Go.Proofs.YtphiaagppcbefaaGreatDoor
open Go.RowKit
section
variable {s t : ByteArray} {m : Nat} {fl : Int} {L : Loc}
theorem its_end (hp : Pre s t m) (n : Nat) (st : Nat → Bool) {p : PS} (h0 : p.err = 0) (hm : p.at_ = m) : Ld m (itsT ⟨t, fl, L⟩ n st p).2 := by
  cases n with
  | zero => exact .inl ⟨h0, hm⟩
  | succ n =>
    unfold itsT
    rw [if_pos (.inr (show pkT t p.at_ = -1 from hp.no (by omega)))]
    exact .inl ⟨h0, hm⟩
theorem its_dash (n : Nat) (st : Nat → Bool) {p : PS} (gC : Gd ⟨s, fl, L⟩ p) (h0 : p.err = 0) (hm : p.at_ + 1 = m) (hk : pkT s p.at_ = 45) : Lat m (itsT ⟨s, fl, L⟩ (n + 1) st p).2 := by
  unfold itsT
  rw [if_neg (by rintro (h | h) <;> (have h : pkT s p.at_ = _ := h; rw [hk] at h; cases h))]
  have h1 := itm_adv gC h0 (show pkT s p.at_ ≠ -1 by rw [hk]; decide)
  rw [hm] at h1
  exact h1.mr (mr_its n _ (MR.gd gC (mr_itm gC)))
theorem rv_its (hp : Pre s t m) : ∀ (n n' : Nat) (st : Nat → Bool) (p : PS), Gd ⟨s, fl, L⟩ p → Gd ⟨t, fl, L⟩ p → p.err = 0 → p.at_ ≤ m → s.size < n + p.at_ → m < n' + p.at_ → RD m (itsT ⟨s, fl, L⟩ n st p) (itsT ⟨t, fl, L⟩ n' st p)
  | 0, n', st, p, gC, gD, h0, hm, h1, h2 => by have := gC.at_; have : p.at_ ≤ s.size := this; omega
  | n + 1, 0, st, p, gC, gD, h0, hm, h1, h2 => by omega
  | n + 1, n' + 1, st, p, gC, gD, h0, hm, h1, h2 => by
    by_cases hlt : p.at_ < m
    · have hle := hp.le
      have hk : pkT t p.at_ = pkT s p.at_ := hp.pk hlt
      have hne : pkT s p.at_ ≠ -1 := by rw [pk_in (by omega)]; omega
      by_cases h93 : pkT s p.at_ = 93
      · unfold itsT
        rw [if_pos (.inl h93), if_pos (.inl (show pkT t p.at_ = 93 by rw [hk]; exact h93))]
        exact RV.same h0 hm
      · have hadv := itm_adv gC h0 (show pkT s p.at_ ≠ -1 from hne)
        have hi := rv_itm hp gC gD h0 hlt
        have mC := mr_itm gC
        have mD := mr_itm gD
        unfold itsT
        rw [if_neg (by rintro (h | h); exact h93 h; exact hne h), if_neg (show ¬ (pkT t p.at_ = 93 ∨ pkT t p.at_ = -1) by rw [hk]; rintro (h | h); exact h93 h; exact hne h)]
        generalize itmT ⟨s, fl, L⟩ p = a at *
        generalize itmT ⟨t, fl, L⟩ p = a' at *
        have gC1 := MR.gd gC mC
        have gD1 := MR.gd gD mD
        rcases hi with hi | ⟨⟨e0, e1, e2⟩, hx⟩
        · have hi2 := hi
          rcases hi with ⟨e, e0, e1⟩ | hi | hi | hi
          · subst e
            have hat : p.at_ + 1 ≤ a'.2.at_ := by
              rcases hadv with ⟨_, h⟩ | ⟨h, _⟩
              · exact h
              · exact absurd e0 h
            exact rv_its hp n n' _ a'.2 gC1 gD1 e0 e1 (by omega) (by omega)
          all_goals exact RV.step (r := a) (r' := a') lx_ld (mr_its n _ gC1) (mr_its n' _ gD1) (its_end hp n' _) (fun e e0 e1 => by
            subst e
            have hat : p.at_ + 1 ≤ a'.2.at_ := by
              rcases hadv with ⟨_, h⟩ | ⟨h, _⟩
              · exact h
              · exact absurd e0 h
            exact rv_its hp n n' _ a'.2 gC1 gD1 e0 (Nat.le_of_lt e1) (by omega) (by omega)) hi2
        · have hn : ∃ q, n = q + 1 := ⟨n - 1, by omega⟩
          obtain ⟨q, rfl⟩ := hn
          exact .inr (.inr (.inl ⟨its_dash q _ gC1 e0 e1 e2, .inr (hx.mr (mr_its n' _ gD1))⟩))
    · exact .inr (.inr (.inl ⟨Lat.of h0 (by omega) (mr_its (n + 1) st gC), its_end hp (n' + 1) st h0 (by omega)⟩))
theorem rv_acb (hp : Pre s t m) (x : Int) (hx : 0 ≤ x) {p p' : PS} (gC : Gd ⟨s, fl, L⟩ p) (gD : Gd ⟨t, fl, L⟩ p') (h : RD m ((), p) ((), p')) : RD m (acbT ⟨s, fl, L⟩ x p) (acbT ⟨t, fl, L⟩ x p') := by
  refine RV.step lx_ld (mr_acb gC x hx) (mr_acb gD x hx) (fun h0 hm => ?_) (fun e h0 hm => ?_) h
  · unfold acbT
    rw [if_neg (by show ¬ pkT t p'.at_ = x; rw [hp.no (by have hm : p'.at_ = m := hm; omega)]; omega)]
    exact .inl ⟨h0, hm⟩
  · obtain rfl : p' = p := congrArg Prod.snd e
    have hm : p'.at_ < m := hm
    unfold acbT
    show RD m (if pkT s p'.at_ = x then _ else _) (if pkT t p'.at_ = x then _ else _)
    rw [hp.pk hm]
    split
    · exact RV.same (r := (true, p'.to (p'.at_ + 1))) h0 hm
    · exact RV.same (r := (false, p')) h0 (Nat.le_of_lt hm)
def brkR (c : CX) (p : PS) (r : (Bool × (Nat → Bool)) × PS) : TN × PS :=
  let b := itsT c (c.s.size + 1) r.1.2 r.2
  let q := expT c 93 b.2
  (setR (brkS c r.1.1 b.1), if el (brkS c r.1.1 b.1) 256 = [] then failT c q 2 p.at_ else q)
theorem mr_brkE {c : CX} {p q : PS} (g : Gd c q) (hpz : p.at_ ≤ c.s.size) (X : Nat → Bool) : MR c q (if el X 256 = [] then failT c q 2 p.at_ else q) := by
  split
  · exact (mr_fail g 2 p.at_ ⟨hpz, by decide, fun e => absurd e (by decide)⟩).1
  · exact MR.refl g
theorem mr_brkR {c : CX} {p : PS} {r : (Bool × (Nat → Bool)) × PS} (g : Gd c r.2) (hpz : p.at_ ≤ c.s.size) : MR c r.2 (brkR c p r).2 := by
  unfold brkR
  dsimp only
  have h4 := mr_its (c.s.size + 1) r.1.2 g
  generalize itsT c (c.s.size + 1) r.1.2 r.2 = b at *
  have h5 := h4.trans (mr_exp (MR.gd g h4) 93 (by omega))
  exact h5.trans (mr_brkE (MR.gd g h5) hpz _)
theorem brkR_end (hp : Pre s t m) {p : PS} {r : (Bool × (Nat → Bool)) × PS} (g : Gd ⟨t, fl, L⟩ r.2) (hpz : p.at_ ≤ t.size) (h0 : r.2.err = 0) (hm : r.2.at_ = m) : Lx m (brkR ⟨t, fl, L⟩ p r).2 := by
  unfold brkR
  dsimp only
  have h4 := mr_its (t.size + 1) r.1.2 g
  have he := its_end (fl := fl) (L := L) hp (t.size + 1) r.1.2 h0 hm
  generalize itsT ⟨t, fl, L⟩ (t.size + 1) r.1.2 r.2 = b at *
  have g4 := MR.gd g h4
  have hx : Lx m (expT ⟨t, fl, L⟩ 93 b.2) := by
    rcases he with ⟨h1, h2⟩ | he
    · exact exp_end hp 93 (by omega) h1 h2
    · exact he.mr (mr_exp g4 93 (by omega))
  exact hx.mr (mr_brkE (MR.gd g4 (mr_exp g4 93 (by omega))) hpz _)
theorem brk_is (c : CX) (p : PS) (h : pkT c.s p.at_ = 91) : brkT c p = brkR c p (((acbT c 94 (p.to (p.at_ + 1))).1, (itmT c (acbT c 94 (p.to (p.at_ + 1))).2).1), (itmT c (acbT c 94 (p.to (p.at_ + 1))).2).2) := by
  have e : acbT c 91 p = (true, p.to (p.at_ + 1)) := by unfold acbT; rw [if_pos h]
  unfold brkT brkR
  rw [e]
theorem rv_brkR (hp : Pre s t m) {p : PS} (hpm : p.at_ ≤ m) {r r' : (Bool × (Nat → Bool)) × PS} (gC : Gd ⟨s, fl, L⟩ r.2) (gD : Gd ⟨t, fl, L⟩ r'.2) (h : RD m r r' ∨ Dash s m r.2 r'.2) : RX m (brkR ⟨s, fl, L⟩ p r) (brkR ⟨t, fl, L⟩ p r') := by
  have hle := hp.le
  have hsz := hp.size
  have pzC : p.at_ ≤ (⟨s, fl, L⟩ : CX).s.size := by show p.at_ ≤ s.size; omega
  have pzD : p.at_ ≤ (⟨t, fl, L⟩ : CX).s.size := by show p.at_ ≤ t.size; omega
  rcases h with h | ⟨⟨e0, e1, e2⟩, hx⟩
  · refine RV.step lx_lx (mr_brkR gC pzC) (mr_brkR gD pzD) (brkR_end hp gD pzD) (fun e h0 hm => ?_) h
    subst e
    have hi := rv_its hp (s.size + 1) (t.size + 1) r'.1.2 r'.2 gC gD h0 (Nat.le_of_lt hm) (by omega) (by omega)
    have mC := mr_its (s.size + 1) r'.1.2 gC
    have mD := mr_its (t.size + 1) r'.1.2 gD
    unfold brkR
    dsimp only
    generalize itsT ⟨s, fl, L⟩ (s.size + 1) r'.1.2 r'.2 = b at *
    generalize itsT ⟨t, fl, L⟩ (t.size + 1) r'.1.2 r'.2 = b' at *
    have gC1 := MR.gd gC mC
    have gD1 := MR.gd gD mD
    have c2 := mr_exp gC1 93 (by omega)
    have d2 := mr_exp gD1 93 (by omega)
    have gC2 := MR.gd gC1 c2
    have gD2 := MR.gd gD1 d2
    have key : ∀ (X : Nat → Bool) (q : PS), Gd ⟨s, fl, L⟩ q → q.err = 0 → q.at_ ≤ m → RX m (setR X, if el X 256 = [] then failT ⟨s, fl, L⟩ q 2 p.at_ else q) (setR X, if el X 256 = [] then failT ⟨t, fl, L⟩ q 2 p.at_ else q) := fun X q _ q0 qm => by
      split
      · exact RV.fail q0 2 (by decide) _
      · exact RV.same (r := (setR X, q)) q0 qm
    -- first past the bracket's end, then the empty set
    have hb := RV.step (q := (b.1, expT ⟨s, fl, L⟩ 93 b.2)) (q' := (b'.1, expT ⟨t, fl, L⟩ 93 b'.2)) lx_lx c2 d2 (exp_end hp 93 (by omega)) (fun e h0 hm => by
      subst e
      exact (rv_exp hp 93 (by omega) gC1 gD1 (RV.same (r := ((), b'.2)) h0 (Nat.le_of_lt hm))).map fun _ => b'.1) hi
    refine RV.stepx (r := (b.1, expT ⟨s, fl, L⟩ 93 b.2)) (r' := (b'.1, expT ⟨t, fl, L⟩ 93 b'.2)) lx_lx (mr_brkE gC2 pzC _) (mr_brkE gD2 pzD _) (fun e h0 hm => ?_) hb
    have e1 : b'.1 = b.1 := (Prod.mk.inj e).1
    have e2 : expT ⟨t, fl, L⟩ 93 b'.2 = expT ⟨s, fl, L⟩ 93 b.2 := (Prod.mk.inj e).2
    rw [e1, e2]
    exact key (brkS ⟨s, fl, L⟩ r'.1.1 b.1) _ gC2 h0 hm
  · refine .inr (.inr (.inl ⟨?_, hx.mr (mr_brkR gD pzD)⟩))
    unfold brkR
    dsimp only
    have h1 := its_dash (fl := fl) (L := L) s.size r.1.2 gC e0 e1 e2
    have h2 := mr_its (s.size + 1) r.1.2 gC
    have g2 := MR.gd gC h2
    have h3 := mr_exp g2 93 (by omega)
    exact (h1.mr h3).mr (mr_brkE (MR.gd g2 h3) pzC _)
theorem rv_brk (hp : Pre s t m) {p : PS} (gC : Gd ⟨s, fl, L⟩ p) (gD : Gd ⟨t, fl, L⟩ p) (h0 : p.err = 0) (hm : p.at_ < m) (hk : pkT s p.at_ = 91) : RX m (brkT ⟨s, fl, L⟩ p) (brkT ⟨t, fl, L⟩ p) := by
  have hle := hp.le
  have hsz := hp.size
  have hkt : pkT t p.at_ = 91 := by rw [hp.pk hm]; exact hk
  rw [brk_is ⟨s, fl, L⟩ p hk, brk_is ⟨t, fl, L⟩ p hkt]
  have gC1 : Gd ⟨s, fl, L⟩ (p.to (p.at_ + 1)) := MR.gd gC (mr_to gC _ (by omega) (by show p.at_ + 1 ≤ s.size; omega))
  have gD1 : Gd ⟨t, fl, L⟩ (p.to (p.at_ + 1)) := MR.gd gD (mr_to gD _ (by omega) (by show p.at_ + 1 ≤ t.size; omega))
  have ha := rv_acb hp 94 (by omega) gC1 gD1 (RV.same (r := ((), p.to (p.at_ + 1))) h0 hm)
  have mC := mr_acb gC1 94 (by omega)
  have mD := mr_acb gD1 94 (by omega)
  generalize acbT ⟨s, fl, L⟩ 94 (p.to (p.at_ + 1)) = v at *
  generalize acbT ⟨t, fl, L⟩ 94 (p.to (p.at_ + 1)) = v' at *
  have gC2 := MR.gd gC1 mC
  have gD2 := MR.gd gD1 mD
  refine rv_brkR hp (Nat.le_of_lt hm) (MR.gd gC2 (mr_itm gC2)) (MR.gd gD2 (mr_itm gD2)) ?_
  by_cases hA : (v' = v ∧ v.2.err = 0) ∧ v.2.at_ < m
  · obtain ⟨⟨rfl, e0⟩, e1⟩ := hA
    rcases rv_itm hp gC2 gD2 e0 e1 with h | h
    · exact .inl (h.map fun x => (v'.1, x))
    · exact .inr h
  · refine .inl (RV.step (r := v) (r' := v') lx_ld (mr_itm gC2) (mr_itm gD2) (fun a b => .inr (itm_end hp gD2 a b)) (fun e e0 e1 => absurd ⟨⟨e, e0⟩, e1⟩ hA) ha)
theorem dgs_ge (s : ByteArray) : ∀ (n i : Nat), i ≤ dgsT s n i
  | 0, i => Nat.le_refl _
  | n + 1, i => by
    unfold dgsT
    split
    · have := dgs_ge s n (i + 1)
      omega
    · exact Nat.le_refl _
theorem dgs_pre (hp : Pre s t m) : ∀ (n n' i : Nat), s.size ≤ n + i → m ≤ n' + i → i ≤ m → dgsT t n' i = min (dgsT s n i) m
  | 0, n', i, h1, h2, h3 => by
    have hle := hp.le
    have : i = m := by omega
    show _ = min i m
    cases n' with
    | zero => show i = _; omega
    | succ n' =>
      unfold dgsT
      rw [hp.no (by omega), if_neg (by decide)]
      omega
  | n + 1, 0, i, h1, h2, h3 => by
    have hi : i = m := by omega
    have : i ≤ dgsT s (n + 1) i := dgs_ge s (n + 1) i
    show i = _
    omega
  | n + 1, n' + 1, i, h1, h2, h3 => by
    by_cases hm : i < m
    · unfold dgsT
      rw [hp.pk hm]
      split
      · exact dgs_pre hp n n' (i + 1) (by omega) (by omega) (by omega)
      · omega
    · have : i ≤ dgsT s (n + 1) i := dgs_ge s (n + 1) i
      have hi : i = m := by omega
      unfold dgsT
      rw [hp.no (by omega), if_neg (by decide)]
      unfold dgsT at this
      omega
theorem nmr_end (hp : Pre s t m) (least : Int) {p : PS} (h0 : p.err = 0) (hm : p.at_ = m) : Lx m (nmrT ⟨t, fl, L⟩ least p).2 := by
  unfold nmrT
  rw [if_neg (by show ¬ dgT (pkT t p.at_) = true; rw [hp.no (by omega)]; decide)]
  exact lx_fail h0 m hm
theorem rv_nmr (hp : Pre s t m) (least : Int) {p p' : PS} (gC : Gd ⟨s, fl, L⟩ p) (gD : Gd ⟨t, fl, L⟩ p') (h : RD m ((), p) ((), p')) : RX m (nmrT ⟨s, fl, L⟩ least p) (nmrT ⟨t, fl, L⟩ least p') := by
  refine RV.step lx_lx (mr_nmr gC least) (mr_nmr gD least) (nmr_end hp least) (fun e h0 hm => ?_) h
  obtain rfl : p' = p := congrArg Prod.snd e
  have hm : p'.at_ < m := hm
  have h0 : p'.err = 0 := h0
  have hk : pkT t p'.at_ = pkT s p'.at_ := hp.pk hm
  have hle := hp.le
  have hsz := hp.size
  by_cases hd : dgT (pkT s p'.at_) = true
  · have hE : numE ⟨t, fl, L⟩ p' = min (numE ⟨s, fl, L⟩ p') m := by
      show (if pkT t p'.at_ = 48 then p'.at_ + 1 else dgsT t t.size p'.at_) = min (if pkT s p'.at_ = 48 then p'.at_ + 1 else dgsT s s.size p'.at_) m
      rw [hk]
      split
      · omega
      · exact dgs_pre hp s.size t.size p'.at_ (by omega) (by omega) (by omega)
    have hw : numE ⟨s, fl, L⟩ p' ≤ m → numW ⟨t, fl, L⟩ p' = numW ⟨s, fl, L⟩ p' := fun hEm => by
      unfold numW
      rw [hE, Nat.min_eq_left hEm]
      show (t.extract p'.at_ _).data.toList = (s.extract p'.at_ _).data.toList
      rw [hp.ext p'.at_ _ hEm]
    by_cases hEm : numE ⟨s, fl, L⟩ p' ≤ m
    · unfold nmrT
      rw [if_pos (show dgT (pkT s p'.at_) = true from hd), if_pos (show dgT (pkT t p'.at_) = true by rw [hk]; exact hd), hw hEm, hE, Nat.min_eq_left hEm]
      split
      · exact RV.fail (p := p'.to (numE ⟨s, fl, L⟩ p')) h0 3 (by decide) _
      split
      · exact RV.fail (p := p'.to (numE ⟨s, fl, L⟩ p')) h0 2 (by decide) _
      · exact RV.same (r := (_, p'.to (numE ⟨s, fl, L⟩ p'))) h0 hEm
    · refine .inr (.inr (.inr ?_))
      unfold nmrT
      rw [if_pos (show dgT (pkT s p'.at_) = true from hd)]
      split
      · unfold failT
        rw [if_pos (show (p'.to (numE ⟨s, fl, L⟩ p')).err = 0 from h0)]
        exact .inr ⟨(by decide : (3 : Int) ≠ 0), fun e => absurd e (by decide : (3 : Int) ≠ 1)⟩
      split
      · unfold failT
        rw [if_pos (show (p'.to (numE ⟨s, fl, L⟩ p')).err = 0 from h0)]
        exact .inr ⟨(by decide : (2 : Int) ≠ 0), fun e => absurd e (by decide : (2 : Int) ≠ 1)⟩
      · exact .inl ⟨h0, by show m + 1 ≤ numE ⟨s, fl, L⟩ p'; omega⟩
  · unfold nmrT
    rw [if_neg (show ¬ dgT (pkT s p'.at_) = true from hd), if_neg (show ¬ dgT (pkT t p'.at_) = true by rw [hk]; exact hd)]
    exact RV.fail h0 1 (by decide) _
theorem bndE_end (hp : Pre s t m) {p : PS} (gD : Gd ⟨t, fl, L⟩ p) (h0 : p.err = 0) (hm : p.at_ = m) : Lx m (bndE ⟨t, fl, L⟩ p) := by
  unfold bndE
  split
  · exact exp_end hp 125 (by omega) h0 hm
  · exact (exp_end hp 92 (by omega) h0 hm).mr (mr_exp (MR.gd gD (mr_exp gD 92 (by omega))) 125 (by omega))
theorem rv_bndE (hp : Pre s t m) {p p' : PS} (gC : Gd ⟨s, fl, L⟩ p) (gD : Gd ⟨t, fl, L⟩ p') (h : RD m ((), p) ((), p')) : RX m ((), bndE ⟨s, fl, L⟩ p) ((), bndE ⟨t, fl, L⟩ p') := by
  unfold bndE
  show RX m ((), expT ⟨s, fl, L⟩ 125 (if flg fl 1 = true then p else expT ⟨s, fl, L⟩ 92 p)) ((), expT ⟨t, fl, L⟩ 125 (if flg fl 1 = true then p' else expT ⟨t, fl, L⟩ 92 p'))
  split
  · exact rv_exp hp 125 (by omega) gC gD h
  · exact rv_exp hp 125 (by omega) (MR.gd gC (mr_exp gC 92 (by omega))) (MR.gd gD (mr_exp gD 92 (by omega))) (rv_exp hp 92 (by omega) gC gD h).wide
def bndR (c : CX) (a : Int × PS) : (Int × Int) × PS :=
  if pkT c.s a.2.at_ = 44 then
    let q := a.2.to (a.2.at_ + 1)
    if dgT (pkT c.s q.at_) = true then
      let b := nmrT c a.1 q
      ((a.1, b.1), bndE c b.2)
    else ((a.1, -1), bndE c q)
  else ((a.1, a.1), bndE c a.2)
theorem bnd_is (c : CX) (p : PS) : bndT c p = bndR c (nmrT c 0 p) := rfl
theorem mr_bndR {c : CX} {a : Int × PS} (g : Gd c a.2) : MR c a.2 (bndR c a).2 := by
  unfold bndR
  split
  · rename_i hk
    have hl := pk_lt (s := c.s) (i := a.2.at_) (by rw [hk]; decide)
    have h2 := mr_to g (a.2.at_ + 1) (by omega) (by omega)
    have g2 := MR.gd g h2
    dsimp only
    split
    · have h3 := h2.trans (mr_nmr g2 a.1)
      exact h3.trans (mr_bndE (MR.gd g h3))
    · exact h2.trans (mr_bndE g2)
  · exact mr_bndE g
theorem rv_bnd (hp : Pre s t m) {p p' : PS} (gC : Gd ⟨s, fl, L⟩ p) (gD : Gd ⟨t, fl, L⟩ p') (h : RD m ((), p) ((), p')) : RX m (bndT ⟨s, fl, L⟩ p) (bndT ⟨t, fl, L⟩ p') := by
  have hle := hp.le
  have hsz := hp.size
  rw [bnd_is, bnd_is]
  have h1 := rv_nmr hp 0 gC gD h
  have c1 := mr_nmr gC 0
  have d1 := mr_nmr gD 0
  generalize nmrT ⟨s, fl, L⟩ 0 p = a at *
  generalize nmrT ⟨t, fl, L⟩ 0 p' = a' at *
  have gC1 := MR.gd gC c1
  have gD1 := MR.gd gD d1
  refine RV.step lx_lx (mr_bndR gC1) (mr_bndR gD1) (fun h0 hm => ?_) (fun e h0 hm => ?_) h1.wide
  · unfold bndR
    rw [if_neg (by show ¬ pkT t a'.2.at_ = 44; rw [hp.no (by omega)]; decide)]
    exact bndE_end hp gD1 h0 hm
  · subst e
    have hk : pkT t a'.2.at_ = pkT s a'.2.at_ := hp.pk hm
    by_cases h44 : pkT s a'.2.at_ = 44
    · have g1 : Gd ⟨s, fl, L⟩ (a'.2.to (a'.2.at_ + 1)) := MR.gd gC1 (mr_to gC1 _ (by omega) (by show a'.2.at_ + 1 ≤ s.size; omega))
      have g2 : Gd ⟨t, fl, L⟩ (a'.2.to (a'.2.at_ + 1)) := MR.gd gD1 (mr_to gD1 _ (by omega) (by show a'.2.at_ + 1 ≤ t.size; omega))
      have hq : RD m ((), a'.2.to (a'.2.at_ + 1)) ((), a'.2.to (a'.2.at_ + 1)) := RV.same (r := ((), a'.2.to (a'.2.at_ + 1))) h0 hm
      unfold bndR
      rw [if_pos (show pkT s a'.2.at_ = 44 from h44), if_pos (show pkT t a'.2.at_ = 44 by rw [hk]; exact h44)]
      dsimp only
      by_cases hm1 : a'.2.at_ + 1 < m
      · have hk1 : pkT t (a'.2.at_ + 1) = pkT s (a'.2.at_ + 1) := hp.pk hm1
        by_cases hdg : dgT (pkT s (a'.2.at_ + 1)) = true
        · rw [if_pos hdg, if_pos (show dgT (pkT t (a'.2.at_ + 1)) = true by rw [hk1]; exact hdg)]
          have hb := rv_nmr hp a'.1 g1 g2 hq
          have k1 := mr_nmr g1 a'.1
          have k2 := mr_nmr g2 a'.1
          generalize nmrT ⟨s, fl, L⟩ a'.1 (a'.2.to (a'.2.at_ + 1)) = b at *
          generalize nmrT ⟨t, fl, L⟩ a'.1 (a'.2.to (a'.2.at_ + 1)) = b' at *
          have gb1 := MR.gd g1 k1
          have gb2 := MR.gd g2 k2
          refine RV.stepx lx_lx (mr_bndE gb1) (mr_bndE gb2) (fun e h0 hm => ?_) hb
          subst e
          exact (rv_bndE hp gb1 gb2 (RV.same (r := ((), b'.2)) h0 hm)).map fun _ => (a'.1, b'.1)
        · rw [if_neg hdg, if_neg (show ¬ dgT (pkT t (a'.2.at_ + 1)) = true by rw [hk1]; exact hdg)]
          exact (rv_bndE hp g1 g2 hq).map fun _ => (a'.1, -1)
      · rw [if_neg (show ¬ dgT (pkT t (a'.2.at_ + 1)) = true by rw [hp.no (i := a'.2.at_ + 1) (by omega)]; decide)]
        refine .inr (.inr (.inl ⟨?_, bndE_end hp g2 h0 (by show a'.2.at_ + 1 = m; omega)⟩))
        split
        · have k1 := mr_nmr g1 a'.1
          exact Lat.of (p := a'.2.to (a'.2.at_ + 1)) h0 (by show m ≤ a'.2.at_ + 1; omega) (k1.trans (mr_bndE (MR.gd g1 k1)))
        · exact Lat.of (p := a'.2.to (a'.2.at_ + 1)) h0 (by show m ≤ a'.2.at_ + 1; omega) (mr_bndE g1)
    · unfold bndR
      rw [if_neg (show ¬ pkT s a'.2.at_ = 44 from h44), if_neg (show ¬ pkT t a'.2.at_ = 44 by rw [hk]; exact h44)]
      exact (rv_bndE hp gC1 gD1 (RV.same (r := ((), a'.2)) h0 (Nat.le_of_lt hm))).map fun _ => (a'.1, a'.1)
end
end Go.Proofs.YtphiaagppcbefaaGreatDoor
