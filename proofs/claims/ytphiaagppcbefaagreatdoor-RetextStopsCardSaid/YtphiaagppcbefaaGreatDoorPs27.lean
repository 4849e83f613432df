/- RxStE. -/
import Derived.Test.YtphiaagppcbefaaGreatDoorPs26
set_option linter.unusedVariables false
namespace Go.Proofs.YtphiaagppcbefaaGreatDoor
open Go.RowKit
abbrev RS (m : Nat) (p p' : PS) : Prop := RD m ((), p) ((), p')
theorem esc_kinds (c : CX) (x : Int) : (escT c x).1 = -2 ∨ (escT c x).1 = -3 ∨ (escT c x).1 = -4 ∨ (escT c x).1 = 40 ∨ (escT c x).1 = 41 ∨ (escT c x).1 = 123 := by
  unfold escT
  split
  · exact .inl rfl
  split
  · exact .inl rfl
  split
  · exact .inr (.inl rfl)
  split
  · exact .inl rfl
  split
  · exact .inl rfl
  split
  · rename_i h
    rcases h.2 with h | h | h
    · exact .inr (.inr (.inr (.inl h)))
    · exact .inr (.inr (.inr (.inr (.inl h))))
    · exact .inr (.inr (.inr (.inr (.inr h))))
  · exact .inr (.inr (.inl rfl))
theorem esc_out (c : CX) : (escT c (-1)).1 = -4 := by
  unfold escT
  rw [if_neg (by decide), if_neg (by decide), if_neg (by decide), if_neg (by decide), if_neg (by unfold spT; rw [if_neg (by decide), if_neg (by decide)]; decide), if_neg (by rintro ⟨_, h⟩; revert h; decide)]
section
variable {s t : ByteArray} {m : Nat} {fl : Int} {L : Loc}
inductive Tk (s t : ByteArray) (m : Nat) (fl : Int) (L : Loc) (p : PS) : Prop where
  | same (h : tokT ⟨t, fl, L⟩ p = tokT ⟨s, fl, L⟩ p) (h2 : kdT ⟨s, fl, L⟩ p ≠ -4 → p.at_ + szT ⟨s, fl, L⟩ p ≤ m)
  | esc (h1 : p.at_ + 1 = m) (h2 : szT ⟨s, fl, L⟩ p = 2) (h3 : kdT ⟨t, fl, L⟩ p = -4) (h4 : szT ⟨t, fl, L⟩ p = 2)
      (h5 : kdT ⟨s, fl, L⟩ p = -2 ∨ kdT ⟨s, fl, L⟩ p = -3 ∨ kdT ⟨s, fl, L⟩ p = -4 ∨ kdT ⟨s, fl, L⟩ p = 40 ∨ kdT ⟨s, fl, L⟩ p = 41 ∨ kdT ⟨s, fl, L⟩ p = 123)
  | dol (h1 : kdT ⟨s, fl, L⟩ p = 36 ∨ kdT ⟨s, fl, L⟩ p = -2) (h2 : kdT ⟨t, fl, L⟩ p = 36 ∨ kdT ⟨t, fl, L⟩ p = -2) (h3 : szT ⟨s, fl, L⟩ p = 1) (h4 : szT ⟨t, fl, L⟩ p = 1)
      (h5 : p.at_ + 1 = m ∨ (p.at_ + 2 = m ∧ pkT s (p.at_ + 1) = 92))
theorem tok_pre (hp : Pre s t m) {p : PS} (hst : p.st ≤ p.at_) (hm : p.at_ < m) : Tk s t m fl L p := by
  have hle := hp.le
  have hsz := hp.size
  have hk : pkT t p.at_ = pkT s p.at_ := hp.pk hm
  have hne : pkT s p.at_ ≠ -1 := by rw [pk_in (by omega)]; omega
  have hext : (⟨t, fl, L⟩ : CX).ext = (⟨s, fl, L⟩ : CX).ext := rfl
  by_cases h92 : pkT s p.at_ = 92
  · have eC : tokT ⟨s, fl, L⟩ p = ((escT ⟨s, fl, L⟩ (pkT s (p.at_ + 1))).1, (escT ⟨s, fl, L⟩ (pkT s (p.at_ + 1))).2, 2) := by
      unfold tokT
      rw [if_neg hne, if_pos h92]
    have eD : tokT ⟨t, fl, L⟩ p = ((escT ⟨s, fl, L⟩ (pkT t (p.at_ + 1))).1, (escT ⟨s, fl, L⟩ (pkT t (p.at_ + 1))).2, 2) := by
      unfold tokT
      show (if pkT t p.at_ = -1 then _ else if pkT t p.at_ = 92 then _ else _) = _
      rw [hk, if_neg hne, if_pos h92]
      rfl
    by_cases hm1 : p.at_ + 1 < m
    · refine .same (by rw [eC, eD, hp.pk hm1]) fun _ => ?_
      unfold szT
      rw [eC]
      show p.at_ + 2 ≤ m
      omega
    · refine .esc (by omega) (by unfold szT; rw [eC]) ?_ (by unfold szT; rw [eD]) ?_
      · unfold kdT
        rw [eD, hp.no (by omega)]
        exact esc_out _
      · unfold kdT
        rw [eC]
        exact esc_kinds _ _
  · have eC : tokT ⟨s, fl, L⟩ p = if opT ⟨s, fl, L⟩ p (pkT s p.at_) = true then (pkT s p.at_, 0, 1) else (-2, pkT s p.at_, 1) := by
      unfold tokT
      rw [if_neg hne, if_neg h92]
    have eD : tokT ⟨t, fl, L⟩ p = if opT ⟨t, fl, L⟩ p (pkT s p.at_) = true then (pkT s p.at_, 0, 1) else (-2, pkT s p.at_, 1) := by
      unfold tokT
      show (if pkT t p.at_ = -1 then _ else if pkT t p.at_ = 92 then _ else if opT ⟨t, fl, L⟩ p (pkT t p.at_) = true then (pkT t p.at_, 0, 1) else (-2, pkT t p.at_, 1)) = _
      rw [hk, if_neg hne, if_neg h92]
    have zC : szT ⟨s, fl, L⟩ p = 1 := by unfold szT; rw [eC]; split <;> rfl
    have zD : szT ⟨t, fl, L⟩ p = 1 := by unfold szT; rw [eD]; split <;> rfl
    have hsame : opT ⟨t, fl, L⟩ p (pkT s p.at_) = opT ⟨s, fl, L⟩ p (pkT s p.at_) → Tk s t m fl L p := fun h => .same (by rw [eC, eD, h]) fun _ => by rw [zC]; exact hm
    by_cases hd : pkT s p.at_ = 36 ∧ (⟨s, fl, L⟩ : CX).ext = false ∧ (p.at_ + 1 = m ∨ (p.at_ + 2 = m ∧ pkT s (p.at_ + 1) = 92))
    · refine .dol ?_ ?_ zC zD hd.2.2
      · unfold kdT
        rw [eC]
        split
        · exact .inl hd.1
        · exact .inr rfl
      · unfold kdT
        rw [eD]
        split
        · exact .inl hd.1
        · exact .inr rfl
    · apply hsame
      unfold opT
      have has : asT ⟨t, fl, L⟩ p = asT ⟨s, fl, L⟩ p := by
        unfold asT
        show (_ || (_ && decide (gb t p.st = 94))) = (_ || (_ && decide (gb s p.st = 94)))
        rw [hp.eq p.st (by omega)]
      rw [has]
      show (if _ then _ else if _ then _ else if _ then _ else if pkT s p.at_ = 36 ∧ _ then (decide (p.at_ + 1 = t.size) || (decide (pkT t (p.at_ + 1) = 92) && decide (pkT t (p.at_ + 2) = 41))) else _) = if _ then _ else if _ then _ else if _ then _ else if pkT s p.at_ = 36 ∧ _ then (decide (p.at_ + 1 = s.size) || (decide (pkT s (p.at_ + 1) = 92) && decide (pkT s (p.at_ + 2) = 41))) else _
      by_cases h36 : pkT s p.at_ = 36 ∧ (⟨s, fl, L⟩ : CX).ext = false
      · have hm1 : p.at_ + 1 < m := by
          by_cases h : p.at_ + 1 = m
          · exact absurd ⟨h36.1, h36.2, .inl h⟩ hd
          · omega
        have e1 : decide (p.at_ + 1 = t.size) = false := decide_eq_false (by omega)
        have e2 : decide (p.at_ + 1 = s.size) = false := decide_eq_false (by omega)
        have e3 : (decide (pkT t (p.at_ + 1) = 92) && decide (pkT t (p.at_ + 2) = 41)) = (decide (pkT s (p.at_ + 1) = 92) && decide (pkT s (p.at_ + 2) = 41)) := by
          rw [hp.pk hm1]
          by_cases h92b : pkT s (p.at_ + 1) = 92
          · have hm2 : p.at_ + 2 < m := by
              by_cases h : p.at_ + 2 = m
              · exact absurd ⟨h36.1, h36.2, .inr ⟨h, h92b⟩⟩ hd
              · omega
            rw [hp.pk hm2]
          · rw [decide_eq_false h92b]
            rfl
        rw [e1, e2, e3]
      · rw [if_neg (c := pkT s p.at_ = 36 ∧ (⟨t, fl, L⟩ : CX).ext = false) h36, if_neg (c := pkT s p.at_ = 36 ∧ (⟨s, fl, L⟩ : CX).ext = false) h36]
theorem tkD_end (hp : Pre s t m) {p : PS} (hm : p.at_ = m) : tokT ⟨t, fl, L⟩ p = (-1, 0, 1) := tk_out p (by show t.size ≤ p.at_; have := hp.size; omega)
theorem rv_acc (hp : Pre s t m) (k : Int) (hk : k ≠ 36 ∧ k ≠ -2 ∧ k ≠ -1 ∧ k ≠ -4) {p p' : PS} (gC : Gd ⟨s, fl, L⟩ p) (gD : Gd ⟨t, fl, L⟩ p') (h : RS m p p') : RD m (accT ⟨s, fl, L⟩ k p) (accT ⟨t, fl, L⟩ k p') := by
  refine RV.step lx_ld (mr_acc gC k hk.2.2.1 hk.2.2.2).1 (mr_acc gD k hk.2.2.1 hk.2.2.2).1 (fun h0 hm => ?_) (fun e h0 hm => ?_) h
  · unfold accT kdT
    rw [tkD_end hp hm, if_neg (fun e => hk.2.2.1 e.symm)]
    exact .inl ⟨h0, hm⟩
  · obtain rfl : p' = p := congrArg Prod.snd e
    have hm : p'.at_ < m := hm
    have h0 : p'.err = 0 := h0
    cases tok_pre (fl := fl) (L := L) hp gC.st hm with
    | same h1 h2 =>
      unfold accT pastT szT kdT
      unfold szT kdT at h2
      rw [h1]
      split
      · rename_i e
        exact RV.same (r := (true, p'.to _)) h0 (h2 (by rw [e]; exact hk.2.2.2))
      · exact RV.same (r := (false, p')) h0 (Nat.le_of_lt hm)
    | esc h1 h2 h3 h4 h5 =>
      unfold accT
      rw [if_neg (show ¬ kdT ⟨t, fl, L⟩ p' = k by rw [h3]; exact fun e => hk.2.2.2 e.symm)]
      split
      · refine .inr (.inr (.inr (.inl ⟨h0, ?_⟩)))
        show m + 1 ≤ p'.at_ + szT ⟨s, fl, L⟩ p'
        omega
      · exact RV.same (r := (false, p')) h0 (Nat.le_of_lt hm)
    | dol h1 h2 h3 h4 h5 =>
      unfold accT
      rw [if_neg (show ¬ kdT ⟨t, fl, L⟩ p' = k by rcases h2 with h | h <;> rw [h]; exact fun e => hk.1 e.symm; exact fun e => hk.2.1 e.symm), if_neg (show ¬ kdT ⟨s, fl, L⟩ p' = k by rcases h1 with h | h <;> rw [h]; exact fun e => hk.1 e.symm; exact fun e => hk.2.1 e.symm)]
      exact RV.same (r := (false, p')) h0 (Nat.le_of_lt hm)
theorem unex_end (hp : Pre s t m) {p : PS} (h0 : p.err = 0) (hm : p.at_ = m) : Lx m (unexT ⟨t, fl, L⟩ p) := by
  unfold unexT szT
  rw [tkD_end hp hm]
  have : p.at_ + 1 - 1 = m := by omega
  show Lx m (failT ⟨t, fl, L⟩ p 1 (p.at_ + 1 - 1))
  rw [this]
  exact lx_failm h0 m
theorem unex_same (hp : Pre s t m) {p : PS} (hst : p.st ≤ p.at_) (h0 : p.err = 0) (hm : p.at_ < m) : RX m ((), unexT ⟨s, fl, L⟩ p) ((), unexT ⟨t, fl, L⟩ p) := by
  have hz : szT ⟨t, fl, L⟩ p = szT ⟨s, fl, L⟩ p := by
    cases tok_pre (fl := fl) (L := L) hp hst hm with
    | same h1 h2 => unfold szT; rw [h1]
    | esc h1 h2 h3 h4 h5 => rw [h2, h4]
    | dol h1 h2 h3 h4 h5 => rw [h3, h4]
  unfold unexT
  rw [hz]
  exact RV.fail h0 1 (by decide) _
theorem suf_no {c : CX} {p : PS} (h : kdT c p ≠ 42 ∧ kdT c p ≠ 43 ∧ kdT c p ≠ 63 ∧ kdT c p ≠ 123) (x : TN) : sufT c x p = (x, p) := by
  unfold sufT
  rw [if_neg h.1, if_neg h.2.1, if_neg h.2.2.1, if_neg h.2.2.2]
theorem rv_suf (hp : Pre s t m) (x y : TN) {p p' : PS} (gC : Gd ⟨s, fl, L⟩ p) (gD : Gd ⟨t, fl, L⟩ p') (h : RS m p p') : RS m (sufT ⟨s, fl, L⟩ x p).2 (sufT ⟨t, fl, L⟩ y p').2 := by
  refine RV.step lx_ld (q := ((), (sufT ⟨s, fl, L⟩ x p).2)) (q' := ((), (sufT ⟨t, fl, L⟩ y p').2)) (mr_suf gC x) (mr_suf gD y) (fun h0 hm => ?_) (fun e h0 hm => ?_) h
  · rw [suf_no (by unfold kdT; rw [tkD_end hp hm]; decide)]
    exact .inl ⟨h0, hm⟩
  · obtain rfl : p' = p := congrArg Prod.snd e
    have hm : p'.at_ < m := hm
    have h0 : p'.err = 0 := h0
    cases tok_pre (fl := fl) (L := L) hp gC.st hm with
    | same h1 h2 =>
      have hkd : kdT ⟨t, fl, L⟩ p' = kdT ⟨s, fl, L⟩ p' := by unfold kdT; rw [h1]
      have hpa : pastT ⟨t, fl, L⟩ p' = pastT ⟨s, fl, L⟩ p' := by unfold pastT szT; rw [h1]
      have hA : kdT ⟨s, fl, L⟩ p' ≠ -4 → RS m (pastT ⟨s, fl, L⟩ p') (pastT ⟨s, fl, L⟩ p') := fun hk => RV.same (r := ((), pastT ⟨s, fl, L⟩ p')) h0 (h2 hk)
      by_cases k1 : kdT ⟨s, fl, L⟩ p' = 42
      · unfold sufT
        rw [if_pos k1, if_pos (hkd.trans k1), hpa]
        exact hA (by rw [k1]; decide)
      by_cases k2 : kdT ⟨s, fl, L⟩ p' = 43
      · unfold sufT
        rw [if_neg k1, if_pos k2, if_neg (by rw [hkd]; exact k1), if_pos (hkd.trans k2), hpa]
        exact hA (by rw [k2]; decide)
      by_cases k3 : kdT ⟨s, fl, L⟩ p' = 63
      · unfold sufT
        rw [if_neg k1, if_neg k2, if_pos k3, if_neg (by rw [hkd]; exact k1), if_neg (by rw [hkd]; exact k2), if_pos (hkd.trans k3), hpa]
        exact hA (by rw [k3]; decide)
      by_cases k4 : kdT ⟨s, fl, L⟩ p' = 123
      · have g1 := MR.gd gC (mr_past gC (by rw [k4]; decide) (by rw [k4]; decide)).1
        have g2 := MR.gd gD (mr_past gD (by rw [hkd, k4]; decide) (by rw [hkd, k4]; decide)).1
        rw [hpa] at g2
        have hb := rv_bnd hp g1 g2 (hA (by rw [k4]; decide))
        unfold sufT
        rw [if_neg k1, if_neg k2, if_neg k3, if_pos k4, if_neg (by rw [hkd]; exact k1), if_neg (by rw [hkd]; exact k2), if_neg (by rw [hkd]; exact k3), if_pos (hkd.trans k4), hpa]
        exact hb.wide.st
      · rw [suf_no ⟨k1, k2, k3, k4⟩, suf_no (by rw [hkd]; exact ⟨k1, k2, k3, k4⟩)]
        exact RV.same (r := ((), p')) h0 (Nat.le_of_lt hm)
    | esc h1 h2 h3 h4 h5 =>
      rw [suf_no (c := ⟨t, fl, L⟩) (by rw [h3]; decide)]
      by_cases k4 : kdT ⟨s, fl, L⟩ p' = 123
      · have g1 := MR.gd gC (mr_past gC (by rw [k4]; decide) (by rw [k4]; decide)).1
        refine .inr (.inr (.inr ?_))
        unfold sufT
        rw [if_neg (by rw [k4]; decide), if_neg (by rw [k4]; decide), if_neg (by rw [k4]; decide), if_pos k4]
        exact Lat.of (p := pastT ⟨s, fl, L⟩ p') h0 (by show m + 1 ≤ p'.at_ + szT ⟨s, fl, L⟩ p'; omega) (mr_bnd g1)
      · rw [suf_no (c := ⟨s, fl, L⟩) (by omega)]
        exact RV.same (r := ((), p')) h0 (Nat.le_of_lt hm)
    | dol h1 h2 h3 h4 h5 =>
      rw [suf_no (c := ⟨t, fl, L⟩) (by omega), suf_no (c := ⟨s, fl, L⟩) (by omega)]
      exact RV.same (r := ((), p')) h0 (Nat.le_of_lt hm)
structure Grp2 (s t : ByteArray) (m : Nat) (fl : Int) (L : Loc) (G : PS → Prop) (a b : PS → TN × PS) : Prop where
  mC : GrpMR ⟨s, fl, L⟩ G a
  mD : GrpMR ⟨t, fl, L⟩ G b
  two : ∀ q, Gd ⟨s, fl, L⟩ q → Gd ⟨t, fl, L⟩ q → G q → q.err = 0 → q.at_ < m → kdT ⟨s, fl, L⟩ q = 40 → tokT ⟨t, fl, L⟩ q = tokT ⟨s, fl, L⟩ q → q.at_ + szT ⟨s, fl, L⟩ q ≤ m → RS m (a q).2 (b q).2
  adv : ∀ q, Gd ⟨s, fl, L⟩ q → G q → q.err = 0 → kdT ⟨s, fl, L⟩ q = 40 → Lat (q.at_ + szT ⟨s, fl, L⟩ q) (a q).2
theorem pie_out {c : CX} {grp : PS → TN × PS} {p : PS} (h : kdT c p ≠ 94 ∧ kdT c p ≠ 36 ∧ kdT c p ≠ 40 ∧ kdT c p ≠ 91 ∧ kdT c p ≠ 46 ∧ kdT c p ≠ -2 ∧ kdT c p ≠ -3) : pieW c grp p = (T0, unexT c p) := by
  unfold pieW
  rw [if_neg h.1, if_neg h.2.1, if_neg h.2.2.1, if_neg h.2.2.2.1, if_neg h.2.2.2.2.1, if_neg h.2.2.2.2.2.1, if_neg h.2.2.2.2.2.2]
theorem pie_end (hp : Pre s t m) (grp : PS → TN × PS) {p : PS} (h0 : p.err = 0) (hm : p.at_ = m) : Lx m (pieW ⟨t, fl, L⟩ grp p).2 := by
  rw [pie_out (by unfold kdT; rw [tkD_end hp hm]; decide)]
  exact unex_end hp h0 hm
theorem rs_pie (hp : Pre s t m) {G : PS → Prop} {a b : PS → TN × PS} (hG : Grp2 s t m fl L G a b) {p : PS} (gC : Gd ⟨s, fl, L⟩ p) (gD : Gd ⟨t, fl, L⟩ p) (g : G p) (h0 : p.err = 0) (hm : p.at_ < m) : RS m (pieW ⟨s, fl, L⟩ a p).2 (pieW ⟨t, fl, L⟩ b p).2 := by
  cases tok_pre (fl := fl) (L := L) hp gC.st hm with
  | same h1 h2 =>
    have hkd : kdT ⟨t, fl, L⟩ p = kdT ⟨s, fl, L⟩ p := by unfold kdT; rw [h1]
    have hvl : vlT ⟨t, fl, L⟩ p = vlT ⟨s, fl, L⟩ p := by unfold vlT; rw [h1]
    have hsz2 : szT ⟨t, fl, L⟩ p = szT ⟨s, fl, L⟩ p := by unfold szT; rw [h1]
    have hpa : pastT ⟨t, fl, L⟩ p = pastT ⟨s, fl, L⟩ p := by unfold pastT; rw [hsz2]
    have hA : kdT ⟨s, fl, L⟩ p ≠ -4 → RS m (pastT ⟨s, fl, L⟩ p) (pastT ⟨s, fl, L⟩ p) := fun hk => RV.same (r := ((), pastT ⟨s, fl, L⟩ p)) h0 (h2 hk)
    have hgd : kdT ⟨s, fl, L⟩ p ≠ -4 → kdT ⟨s, fl, L⟩ p ≠ -1 → Gd ⟨s, fl, L⟩ (pastT ⟨s, fl, L⟩ p) ∧ Gd ⟨t, fl, L⟩ (pastT ⟨s, fl, L⟩ p) := fun k4 k1 => ⟨MR.gd gC (mr_past gC k1 k4).1, by rw [← hpa]; exact MR.gd gD (mr_past gD (by rw [hkd]; exact k1) (by rw [hkd]; exact k4)).1⟩
    unfold pieW
    rw [hkd, hpa]
    by_cases k1 : kdT ⟨s, fl, L⟩ p = 94
    · rw [if_pos k1, if_pos k1]
      exact hA (by rw [k1]; decide)
    rw [if_neg k1, if_neg k1]
    by_cases k2 : kdT ⟨s, fl, L⟩ p = 36
    · rw [if_pos k2, if_pos k2]
      exact hA (by rw [k2]; decide)
    rw [if_neg k2, if_neg k2]
    by_cases k3 : kdT ⟨s, fl, L⟩ p = 40
    · rw [if_pos k3, if_pos k3]
      exact rv_suf hp _ _ (MR.gd gC (hG.mC p gC g k3).1) (MR.gd gD (hG.mD p gD g (hkd.trans k3)).1) (hG.two p gC gD g h0 hm k3 h1 (h2 (by rw [k3]; decide)))
    rw [if_neg k3, if_neg k3]
    by_cases k4 : kdT ⟨s, fl, L⟩ p = 91
    · rw [if_pos k4, if_pos k4]
      have k5 := kd_91 k4
      have k6 := kd_91 (hkd.trans k4)
      exact rv_suf hp _ _ (MR.gd gC (mr_brk gC k5).1) (MR.gd gD (mr_brk gD k6).1) (rv_brk hp gC gD h0 hm k5).wide.st
    rw [if_neg k4, if_neg k4]
    by_cases k5 : kdT ⟨s, fl, L⟩ p = 46
    · rw [if_pos k5, if_pos k5]
      have hg := hgd (by rw [k5]; decide) (by rw [k5]; decide)
      exact rv_suf hp _ _ hg.1 hg.2 (hA (by rw [k5]; decide))
    rw [if_neg k5, if_neg k5]
    by_cases k6 : kdT ⟨s, fl, L⟩ p = -2
    · rw [if_pos k6, if_pos k6]
      have hg := hgd (by rw [k6]; decide) (by rw [k6]; decide)
      exact rv_suf hp _ _ hg.1 hg.2 (hA (by rw [k6]; decide))
    rw [if_neg k6, if_neg k6]
    by_cases k7 : kdT ⟨s, fl, L⟩ p = -3
    · rw [if_pos k7, if_pos k7, hvl]
      have mC := (mr_bac gC (vlT ⟨s, fl, L⟩ p) (by rw [k7]; decide) (by rw [k7]; decide)).1
      have mD := (mr_bac gD (vlT ⟨s, fl, L⟩ p) (by rw [hkd, k7]; decide) (by rw [hkd, k7]; decide)).1
      refine rv_suf hp _ _ (MR.gd gC mC) (MR.gd gD mD) ?_
      unfold bacT
      rw [hsz2]
      split
      · exact hA (by rw [k7]; decide)
      · exact RV.fail h0 4 (by decide) _
    · rw [if_neg k7, if_neg k7]
      exact (unex_same hp gC.st h0 hm).wide
  | esc h1 h2 h3 h4 h5 =>
    rw [pie_out (c := ⟨t, fl, L⟩) (by rw [h3]; decide)]
    have hun := (unex_same (fl := fl) (L := L) hp gC.st h0 hm).wide
    have hpast : Lat (m + 1) (pastT ⟨s, fl, L⟩ p) := .inl ⟨h0, by show m + 1 ≤ p.at_ + szT ⟨s, fl, L⟩ p; omega⟩
    rcases h5 with k | k | k | k | k | k
    · refine .inr (.inr (.inr ?_))
      unfold pieW
      rw [if_neg (by rw [k]; decide), if_neg (by rw [k]; decide), if_neg (by rw [k]; decide), if_neg (by rw [k]; decide), if_neg (by rw [k]; decide), if_pos k]
      exact hpast.mr (mr_suf (MR.gd gC (mr_past gC (by rw [k]; decide) (by rw [k]; decide)).1) _)
    · refine .inr (.inr (.inr ?_))
      unfold pieW
      rw [if_neg (by rw [k]; decide), if_neg (by rw [k]; decide), if_neg (by rw [k]; decide), if_neg (by rw [k]; decide), if_neg (by rw [k]; decide), if_neg (by rw [k]; decide), if_pos k]
      have mC := (mr_bac gC (vlT ⟨s, fl, L⟩ p) (by rw [k]; decide) (by rw [k]; decide)).1
      refine Lat.mr ?_ (mr_suf (MR.gd gC mC) _)
      unfold bacT
      split
      · exact hpast
      · unfold failT
        rw [if_pos h0]
        exact .inr ⟨(by decide : (4 : Int) ≠ 0), fun e => absurd e (by decide : (4 : Int) ≠ 1)⟩
    · rw [pie_out (c := ⟨s, fl, L⟩) (by rw [k]; decide)]
      exact hun
    · refine .inr (.inr (.inr ?_))
      unfold pieW
      rw [if_neg (by rw [k]; decide), if_neg (by rw [k]; decide), if_pos k]
      exact ((hG.adv p gC g h0 k).le (by omega)).mr (mr_suf (MR.gd gC (hG.mC p gC g k).1) _)
    · rw [pie_out (c := ⟨s, fl, L⟩) (by rw [k]; decide)]
      exact hun
    · rw [pie_out (c := ⟨s, fl, L⟩) (by rw [k]; decide)]
      exact hun
  | dol h1 h2 h3 h4 h5 =>
    have hle := hp.le
    have hsz := hp.size
    have pC : pastT ⟨s, fl, L⟩ p = p.to (p.at_ + 1) := by unfold pastT; rw [h3]
    have pD : pastT ⟨t, fl, L⟩ p = p.to (p.at_ + 1) := by unfold pastT; rw [h4]
    have g1 : Gd ⟨s, fl, L⟩ (p.to (p.at_ + 1)) := MR.gd gC (mr_to gC _ (by omega) (by show p.at_ + 1 ≤ s.size; omega))
    have g2 : Gd ⟨t, fl, L⟩ (p.to (p.at_ + 1)) := MR.gd gD (mr_to gD _ (by omega) (by show p.at_ + 1 ≤ t.size; omega))
    -- behind the dollar the beginning has no suffix
    have hno : ∀ y, (sufT ⟨t, fl, L⟩ y (p.to (p.at_ + 1))).2 = p.to (p.at_ + 1) := fun y => by
      have hk : kdT ⟨t, fl, L⟩ (p.to (p.at_ + 1)) = -1 ∨ kdT ⟨t, fl, L⟩ (p.to (p.at_ + 1)) = -4 := by
        rcases h5 with h5 | ⟨h5, h6⟩
        · left
          unfold kdT
          rw [tkD_end hp h5]
        · right
          have e1 : pkT t (p.at_ + 1) = 92 := by rw [hp.pk (by omega)]; exact h6
          have e2 : pkT t (p.at_ + 1 + 1) = -1 := hp.no (by omega)
          unfold kdT tokT
          show (if pkT t (p.at_ + 1) = -1 then (-1, 0, 1) else if pkT t (p.at_ + 1) = 92 then ((escT ⟨t, fl, L⟩ (pkT t (p.at_ + 1 + 1))).1, (escT ⟨t, fl, L⟩ (pkT t (p.at_ + 1 + 1))).2, 2) else _).1 = -4
          rw [e1, e2, if_neg (by decide), if_pos rfl]
          exact esc_out _
      rw [suf_no (by omega)]
    have hD : (pieW ⟨t, fl, L⟩ b p).2 = p.to (p.at_ + 1) := by
      unfold pieW
      rcases h2 with k | k
      · rw [if_neg (by rw [k]; decide), if_pos k, pD]
      · rw [if_neg (by rw [k]; decide), if_neg (by rw [k]; decide), if_neg (by rw [k]; decide), if_neg (by rw [k]; decide), if_neg (by rw [k]; decide), if_pos k, pD, hno]
    rw [hD]
    have hA : RS m (p.to (p.at_ + 1)) (p.to (p.at_ + 1)) := RV.same (r := ((), p.to (p.at_ + 1))) h0 hm
    unfold pieW
    rcases h1 with k | k
    · rw [if_neg (by rw [k]; decide), if_pos k, pC]
      exact hA
    · rw [if_neg (by rw [k]; decide), if_neg (by rw [k]; decide), if_neg (by rw [k]; decide), if_neg (by rw [k]; decide), if_neg (by rw [k]; decide), if_pos k, pC]
      have := rv_suf hp (setR (foldT ⟨s, fl, L⟩ (between (vlT ⟨s, fl, L⟩ p).toNat (vlT ⟨s, fl, L⟩ p).toNat))) T0 g1 g2 hA
      rw [hno] at this
      exact this
end
end Go.Proofs.YtphiaagppcbefaaGreatDoor
