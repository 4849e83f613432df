/- RxStC. -/
import Derived.Test.YtphiaagppcbefaaGreatDoorPs24
set_option linter.unusedVariables false
namespace Go.Proofs.YtphiaagppcbefaaGreatDoor
open Go.RowKit
theorem endC_pre {s t : ByteArray} {m : Nat} (hp : Pre s t m) : ∀ (n n' i : Nat), s.size < n + i → m < n' + i →
    (∃ k, endC s n i = some k ∧ endC t n' i = some k ∧ k + 2 ≤ m) ∨ (endC t n' i = none ∧ ∀ k, endC s n i = some k → m < k + 2)
  | 0, n', i, h1, h2 => by
    refine .inr ⟨?_, fun k h => by cases h⟩
    cases h : endC t n' i with
    | none => rfl
    | some k =>
      have := endC_le t n' i k h
      have := hp.size
      have := hp.le
      omega
  | n + 1, 0, i, h1, h2 => by
    refine .inr ⟨rfl, fun k h => ?_⟩
    have := endC_le s (n + 1) i k h
    omega
  | n + 1, n' + 1, i, h1, h2 => by
    unfold endC
    by_cases hm : i + 2 ≤ m
    · rw [hp.pk (i := i) (by omega), hp.pk (i := i + 1) (by omega)]
      by_cases hk : pkT s i = 58 ∧ pkT s (i + 1) = 93
      · rw [if_pos hk, if_pos hk]
        exact .inl ⟨i, rfl, rfl, hm⟩
      · rw [if_neg hk, if_neg hk]
        exact endC_pre hp n n' (i + 1) (by omega) (by omega)
    · rw [if_neg (show ¬ (pkT t i = 58 ∧ pkT t (i + 1) = 93) by rw [hp.no (i := i + 1) (by omega)]; rintro ⟨_, h⟩; cases h)]
      refine .inr ⟨?_, fun k h => ?_⟩
      · cases h : endC t n' (i + 1) with
        | none => rfl
        | some k =>
          have := endC_le t n' (i + 1) k h
          have := hp.size
          omega
      · by_cases hk : pkT s i = 58 ∧ pkT s (i + 1) = 93
        · rw [if_pos hk] at h
          cases h
          omega
        · rw [if_neg hk] at h
          have := endC_le s n (i + 1) k h
          omega
section
variable {s t : ByteArray} {m : Nat} {fl : Int} {L : Loc}
theorem lx_failm {D : CX} {p : PS} (h0 : p.err = 0) (i : Nat) : Lx i (failT D p 1 i) := by
  unfold failT
  rw [if_pos h0]
  exact ⟨rfl, rfl⟩
theorem rv_cls (hp : Pre s t m) {p : PS} (gC : Gd ⟨s, fl, L⟩ p) (h0 : p.err = 0) (hm : p.at_ + 2 ≤ m) : RX m (clsT ⟨s, fl, L⟩ p) (clsT ⟨t, fl, L⟩ p) := by
  have hle := hp.le
  have hsz := hp.size
  rcases endC_pre hp (s.size + 1) (t.size + 1) (p.at_ + 2) (by omega) (by omega) with ⟨k, h1, h2, h3⟩ | ⟨h1, h2⟩
  · have hk := endC_le t _ _ _ h2
    unfold clsT
    show RX m (match endC s (s.size + 1) (p.at_ + 2) with | none => _ | some k => if (clsR (vld L) (s.extract (p.at_ + 2) k)).2 = true then ((clsR (vld L) (s.extract (p.at_ + 2) k)).1, p.to (k + 2)) else _) (match endC t (t.size + 1) (p.at_ + 2) with | none => _ | some k => if (clsR (vld L) (t.extract (p.at_ + 2) k)).2 = true then ((clsR (vld L) (t.extract (p.at_ + 2) k)).1, p.to (k + 2)) else _)
    rw [h1, h2]
    dsimp only
    rw [hp.ext (p.at_ + 2) k (by omega)]
    split
    · exact RV.same (r := (_, p.to (k + 2))) h0 h3
    · exact RV.fail h0 4 (by decide) _
  · have hD : Lx m (clsT ⟨t, fl, L⟩ p).2 := by
      unfold clsT
      show Lx m (match endC t (t.size + 1) (p.at_ + 2) with | none => (noSet, failT ⟨t, fl, L⟩ p 1 t.size) | some k => _).2
      rw [h1, hsz]
      exact lx_failm h0 m
    have hC : Lat m (clsT ⟨s, fl, L⟩ p).2 := by
      unfold clsT
      show Lat m (match endC s (s.size + 1) (p.at_ + 2) with | none => (noSet, failT ⟨s, fl, L⟩ p 1 s.size) | some k => if (clsR (vld L) (s.extract (p.at_ + 2) k)).2 = true then ((clsR (vld L) (s.extract (p.at_ + 2) k)).1, p.to (k + 2)) else (noSet, failT ⟨s, fl, L⟩ p 4 p.at_)).2
      cases he : endC s (s.size + 1) (p.at_ + 2) with
      | none =>
        dsimp only
        have := lx_failm (D := ⟨s, fl, L⟩) h0 s.size
        exact .inr ⟨by rw [this.1]; decide, fun _ => by rw [this.2]; exact hle⟩
      | some k =>
        have hk := h2 k he
        dsimp only
        split
        · exact .inl ⟨h0, by show m ≤ k + 2; omega⟩
        · unfold failT
          rw [if_pos h0]
          exact .inr ⟨(by decide : (4 : Int) ≠ 0), fun e => absurd e (by decide : (4 : Int) ≠ 1)⟩
    exact .inr (.inr (.inl ⟨hC, hD⟩))
def itmR (c : CX) (p : PS) (a : Int × PS) : (Nat → Bool) × PS :=
  if pkT c.s a.2.at_ = 45 ∧ pkT c.s (a.2.at_ + 1) ≠ 93 then
    let b := rndT c (a.2.to (a.2.at_ + 1))
    if (vld c.L).wt a.1.toNat ≤ (vld c.L).wt b.1.toNat then (btw (vld c.L) a.1.toNat b.1.toNat, b.2) else (noSet, failT c b.2 2 p.at_)
  else (between a.1.toNat a.1.toNat, a.2)
theorem mr_itmR {c : CX} {p : PS} {a : Int × PS} (g : Gd c a.2) (hpz : p.at_ ≤ c.s.size) : MR c a.2 (itmR c p a).2 := by
  unfold itmR
  split
  · rename_i hk
    have hl := pk_lt (s := c.s) (i := a.2.at_) (by rw [hk.1]; decide)
    have h2 := mr_to g (a.2.at_ + 1) (by omega) (by omega)
    have h3 := h2.trans (mr_rnd (MR.gd g h2))
    dsimp only
    split
    · exact h3
    · exact h3.trans (mr_fail (MR.gd g h3) 2 p.at_ ⟨hpz, by decide, fun e => absurd e (by decide)⟩).1
  · exact MR.refl g
theorem itm_third {c : CX} {p : PS} (h1 : ¬ (pkT c.s p.at_ = 91 ∧ pkT c.s (p.at_ + 1) = 58)) (h2 : ¬ (pkT c.s p.at_ = 91 ∧ pkT c.s (p.at_ + 1) = 61)) : itmT c p = itmR c p (rndT c p) := by
  unfold itmT itmR
  rw [if_neg h1, if_neg h2]
theorem itm_adv {c : CX} {p : PS} (g : Gd c p) (h0 : p.err = 0) (hk : pkT c.s p.at_ ≠ -1) : Lat (p.at_ + 1) (itmT c p).2 := by
  have hl := pk_lt hk
  by_cases h1 : pkT c.s p.at_ = 91 ∧ pkT c.s (p.at_ + 1) = 58
  · unfold itmT
    rw [if_pos h1]
    unfold clsT
    cases he : endC c.s (c.s.size + 1) (p.at_ + 2) with
    | none =>
      dsimp only
      have := lx_failm (D := c) h0 c.s.size
      exact .inr ⟨by rw [this.1]; decide, fun _ => by rw [this.2]; exact hl⟩
    | some k =>
      have := endC_le _ _ _ _ he
      dsimp only
      split
      · exact .inl ⟨h0, by show p.at_ + 1 ≤ k + 2; omega⟩
      · unfold failT
        rw [if_pos h0]
        exact .inr ⟨(by decide : (4 : Int) ≠ 0), fun e => absurd e (by decide : (4 : Int) ≠ 1)⟩
  · by_cases h2 : pkT c.s p.at_ = 91 ∧ pkT c.s (p.at_ + 1) = 61
    · unfold itmT
      rw [if_neg h1, if_pos h2]
      have e1 : expT c 91 p = p.to (p.at_ + 1) := by unfold expT; rw [if_pos h2.1]
      have g1 : Gd c (p.to (p.at_ + 1)) := MR.gd g (mr_to g _ (by omega) (by omega))
      have c2 := mr_exp g1 61 (by omega)
      have c3 := mr_any (MR.gd g1 c2)
      have c4 := mr_exp (MR.gd (MR.gd g1 c2) c3) 61 (by omega)
      have c5 := mr_exp (MR.gd (MR.gd (MR.gd g1 c2) c3) c4) 93 (by omega)
      show Lat (p.at_ + 1) (encT c 61 p).2
      unfold encT
      dsimp only
      rw [e1]
      exact Lat.of (p := p.to (p.at_ + 1)) h0 (Nat.le_refl _) (((c2.trans c3).trans c4).trans c5)
    · rw [itm_third h1 h2]
      have h3 := rnd_adv g h0 hk
      exact h3.mr (mr_itmR (MR.gd g (mr_rnd g)) g.at_)
def Dash (s : ByteArray) (m : Nat) (q q' : PS) : Prop := (q.err = 0 ∧ q.at_ + 1 = m ∧ pkT s q.at_ = 45) ∧ Lx m q'
theorem itm_end (hp : Pre s t m) {p : PS} (gD : Gd ⟨t, fl, L⟩ p) (h0 : p.err = 0) (hm : p.at_ = m) : Lx m (itmT ⟨t, fl, L⟩ p).2 := by
  have hno : pkT t p.at_ = -1 := hp.no (by omega)
  rw [itm_third (c := ⟨t, fl, L⟩) (by rintro ⟨h, _⟩; have h : pkT t p.at_ = 91 := h; rw [hno] at h; cases h) (by rintro ⟨h, _⟩; have h : pkT t p.at_ = 91 := h; rw [hno] at h; cases h)]
  exact (rnd_end hp h0 hm).mr (mr_itmR (MR.gd gD (mr_rnd gD)) gD.at_)
theorem rv_itmR (hp : Pre s t m) {p : PS} (hpm : p.at_ ≤ m) {a a' : Int × PS} (gC : Gd ⟨s, fl, L⟩ a.2) (gD : Gd ⟨t, fl, L⟩ a'.2) (h : RX m a a') : RD m (itmR ⟨s, fl, L⟩ p a) (itmR ⟨t, fl, L⟩ p a') ∨ Dash s m (itmR ⟨s, fl, L⟩ p a).2 (itmR ⟨t, fl, L⟩ p a').2 := by
  have hle := hp.le
  have hsz := hp.size
  have mC := mr_itmR (p := p) gC (by show p.at_ ≤ s.size; omega)
  have mD := mr_itmR (p := p) gD (by show p.at_ ≤ t.size; omega)
  by_cases hd : (a' = a ∧ a.2.err = 0) ∧ a.2.at_ + 1 = m ∧ pkT s a.2.at_ = 45 ∧ pkT s (a.2.at_ + 1) = 93
  · obtain ⟨⟨rfl, h0⟩, h1, h2, h3⟩ := hd
    refine .inr ⟨?_, ?_⟩
    · unfold itmR
      rw [if_neg (fun h => h.2 h3)]
      exact ⟨h0, h1, h2⟩
    · unfold itmR
      rw [if_pos (show pkT t a'.2.at_ = 45 ∧ pkT t (a'.2.at_ + 1) ≠ 93 by rw [hp.pk (by omega), hp.no (i := a'.2.at_ + 1) (by omega)]; exact ⟨h2, by decide⟩)]
      dsimp only
      have g1 : Gd ⟨t, fl, L⟩ (a'.2.to (a'.2.at_ + 1)) := MR.gd gD (mr_to gD _ (by omega) (by show a'.2.at_ + 1 ≤ t.size; omega))
      have hx := rnd_end (fl := fl) (L := L) hp (p := a'.2.to (a'.2.at_ + 1)) h0 h1
      split
      · exact hx
      · exact hx.mr (mr_fail (MR.gd g1 (mr_rnd g1)) 2 p.at_ ⟨by show p.at_ ≤ t.size; omega, by decide, fun e => absurd e (by decide)⟩).1
  · left
    refine RV.step lx_ld mC mD (fun h0 hm => ?_) (fun e h0 hm => ?_) h.wide
    · unfold itmR
      rw [if_neg (by rintro ⟨h1, _⟩; have h1 : pkT t a'.2.at_ = 45 := h1; rw [hp.no (by omega)] at h1; cases h1)]
      exact .inl ⟨h0, hm⟩
    · subst e
      have hk : pkT t a'.2.at_ = pkT s a'.2.at_ := hp.pk hm
      by_cases h1 : pkT s a'.2.at_ = 45
      · by_cases hm1 : a'.2.at_ + 1 < m
        · have hk1 : pkT t (a'.2.at_ + 1) = pkT s (a'.2.at_ + 1) := hp.pk hm1
          by_cases h2 : pkT s (a'.2.at_ + 1) = 93
          · unfold itmR
            rw [if_neg (fun h => h.2 h2), if_neg (show ¬ (pkT t a'.2.at_ = 45 ∧ pkT t (a'.2.at_ + 1) ≠ 93) by rw [hk1]; exact fun h => h.2 h2)]
            exact RV.same h0 (Nat.le_of_lt hm)
          · have g1 : Gd ⟨s, fl, L⟩ (a'.2.to (a'.2.at_ + 1)) := MR.gd gC (mr_to gC _ (by omega) (by show a'.2.at_ + 1 ≤ s.size; omega))
            have g2 : Gd ⟨t, fl, L⟩ (a'.2.to (a'.2.at_ + 1)) := MR.gd gD (mr_to gD _ (by omega) (by show a'.2.at_ + 1 ≤ t.size; omega))
            have hb := rv_rnd hp g1 g2 (RV.same (r := ((), a'.2.to (a'.2.at_ + 1))) h0 (Nat.le_of_lt hm1))
            have b1 := mr_rnd g1
            have b2 := mr_rnd g2
            unfold itmR
            rw [if_pos ⟨h1, h2⟩, if_pos (show pkT t a'.2.at_ = 45 ∧ pkT t (a'.2.at_ + 1) ≠ 93 by rw [hk, hk1]; exact ⟨h1, h2⟩)]
            dsimp only
            generalize rndT ⟨s, fl, L⟩ (a'.2.to (a'.2.at_ + 1)) = b at *
            generalize rndT ⟨t, fl, L⟩ (a'.2.to (a'.2.at_ + 1)) = b' at *
            have k1 : MR ⟨s, fl, L⟩ b.2 (if (vld L).wt a'.1.toNat ≤ (vld L).wt b.1.toNat then (btw (vld L) a'.1.toNat b.1.toNat, b.2) else (noSet, failT ⟨s, fl, L⟩ b.2 2 p.at_)).2 := by
              split
              · exact MR.refl (MR.gd g1 b1)
              · exact (mr_fail (MR.gd g1 b1) 2 p.at_ ⟨by show p.at_ ≤ s.size; omega, by decide, fun e => absurd e (by decide)⟩).1
            have k2 : MR ⟨t, fl, L⟩ b'.2 (if (vld L).wt a'.1.toNat ≤ (vld L).wt b'.1.toNat then (btw (vld L) a'.1.toNat b'.1.toNat, b'.2) else (noSet, failT ⟨t, fl, L⟩ b'.2 2 p.at_)).2 := by
              split
              · exact MR.refl (MR.gd g2 b2)
              · exact (mr_fail (MR.gd g2 b2) 2 p.at_ ⟨by show p.at_ ≤ t.size; omega, by decide, fun e => absurd e (by decide)⟩).1
            refine RV.stepx lx_ld k1 k2 (fun e h0 hm => ?_) hb
            subst e
            split
            · exact RV.same h0 hm
            · exact RV.fail h0 2 (by decide) _
        · have hne : pkT s (a'.2.at_ + 1) ≠ 93 := fun h3 => hd ⟨⟨rfl, h0⟩, by omega, h1, h3⟩
          have g1 : Gd ⟨s, fl, L⟩ (a'.2.to (a'.2.at_ + 1)) := MR.gd gC (mr_to gC _ (by omega) (by show a'.2.at_ + 1 ≤ s.size; omega))
          have g2 : Gd ⟨t, fl, L⟩ (a'.2.to (a'.2.at_ + 1)) := MR.gd gD (mr_to gD _ (by omega) (by show a'.2.at_ + 1 ≤ t.size; omega))
          refine .inr (.inr (.inl ⟨?_, .inr ?_⟩))
          · unfold itmR
            rw [if_pos ⟨h1, hne⟩]
            dsimp only
            have k := mr_rnd g1
            split
            · exact Lat.of (p := a'.2.to (a'.2.at_ + 1)) h0 (by show m ≤ a'.2.at_ + 1; omega) k
            · exact Lat.of (p := a'.2.to (a'.2.at_ + 1)) h0 (by show m ≤ a'.2.at_ + 1; omega) (k.trans (mr_fail (MR.gd g1 k) 2 p.at_ ⟨by show p.at_ ≤ s.size; omega, by decide, fun e => absurd e (by decide)⟩).1)
          · unfold itmR
            rw [if_pos (show pkT t a'.2.at_ = 45 ∧ pkT t (a'.2.at_ + 1) ≠ 93 by rw [hk, hp.no (i := a'.2.at_ + 1) (by omega)]; exact ⟨h1, by decide⟩)]
            dsimp only
            have hx := rnd_end (fl := fl) (L := L) hp (p := a'.2.to (a'.2.at_ + 1)) h0 (by show a'.2.at_ + 1 = m; omega)
            split
            · exact hx
            · exact hx.mr (mr_fail (MR.gd g2 (mr_rnd g2)) 2 p.at_ ⟨by show p.at_ ≤ t.size; omega, by decide, fun e => absurd e (by decide)⟩).1
      · unfold itmR
        rw [if_neg (fun h => h1 h.1), if_neg (show ¬ (pkT t a'.2.at_ = 45 ∧ pkT t (a'.2.at_ + 1) ≠ 93) by rw [hk]; exact fun h => h1 h.1)]
        exact RV.same h0 (Nat.le_of_lt hm)
theorem rv_itm (hp : Pre s t m) {p : PS} (gC : Gd ⟨s, fl, L⟩ p) (gD : Gd ⟨t, fl, L⟩ p) (h0 : p.err = 0) (hm : p.at_ < m) : RD m (itmT ⟨s, fl, L⟩ p) (itmT ⟨t, fl, L⟩ p) ∨ Dash s m (itmT ⟨s, fl, L⟩ p).2 (itmT ⟨t, fl, L⟩ p).2 := by
  have hle := hp.le
  have hk : pkT t p.at_ = pkT s p.at_ := hp.pk hm
  have hne : pkT s p.at_ ≠ -1 := by rw [pk_in (by omega)]; omega
  have hthird : ¬ (pkT s p.at_ = 91 ∧ pkT s (p.at_ + 1) = 58) → ¬ (pkT s p.at_ = 91 ∧ pkT s (p.at_ + 1) = 61) → ¬ (pkT t p.at_ = 91 ∧ pkT t (p.at_ + 1) = 58) → ¬ (pkT t p.at_ = 91 ∧ pkT t (p.at_ + 1) = 61) → RD m (itmT ⟨s, fl, L⟩ p) (itmT ⟨t, fl, L⟩ p) ∨ Dash s m (itmT ⟨s, fl, L⟩ p).2 (itmT ⟨t, fl, L⟩ p).2 := fun a1 a2 a3 a4 => by
    rw [itm_third (c := ⟨s, fl, L⟩) a1 a2, itm_third (c := ⟨t, fl, L⟩) a3 a4]
    exact rv_itmR hp (Nat.le_of_lt hm) (MR.gd gC (mr_rnd gC)) (MR.gd gD (mr_rnd gD)) (rv_rnd hp gC gD (RV.same (r := ((), p)) h0 (Nat.le_of_lt hm)))
  by_cases h91 : pkT s p.at_ = 91
  · by_cases hm1 : p.at_ + 1 < m
    · have hk1 : pkT t (p.at_ + 1) = pkT s (p.at_ + 1) := hp.pk hm1
      by_cases h1 : pkT s (p.at_ + 1) = 58
      · left
        unfold itmT
        rw [if_pos ⟨h91, h1⟩, if_pos (show pkT t p.at_ = 91 ∧ pkT t (p.at_ + 1) = 58 by rw [hk, hk1]; exact ⟨h91, h1⟩)]
        exact (rv_cls hp gC h0 (by omega)).wide
      · by_cases h2 : pkT s (p.at_ + 1) = 61
        · left
          unfold itmT
          rw [if_neg (fun h => h1 h.2), if_neg (show ¬ (pkT t p.at_ = 91 ∧ pkT t (p.at_ + 1) = 58) by rw [hk1]; exact fun h => h1 h.2), if_pos ⟨h91, h2⟩, if_pos (show pkT t p.at_ = 91 ∧ pkT t (p.at_ + 1) = 61 by rw [hk, hk1]; exact ⟨h91, h2⟩)]
          exact ((rv_enc hp 61 (by omega) gC gD (RV.same (r := ((), p)) h0 (Nat.le_of_lt hm))).wide).map fun x => eqv (vld L) x.toNat
        · exact hthird (fun h => h1 h.2) (fun h => h2 h.2) (by rw [hk1]; exact fun h => h1 h.2) (by rw [hk1]; exact fun h => h2 h.2)
    · left
      refine .inr (.inr (.inl ⟨(itm_adv gC h0 hne).le (by omega), .inr ?_⟩))
      have hn1 : pkT t (p.at_ + 1) = -1 := hp.no (by omega)
      rw [itm_third (c := ⟨t, fl, L⟩) (by rintro ⟨_, h⟩; have h : pkT t (p.at_ + 1) = 58 := h; rw [hn1] at h; cases h) (by rintro ⟨_, h⟩; have h : pkT t (p.at_ + 1) = 61 := h; rw [hn1] at h; cases h)]
      refine Lx.mr ?_ (mr_itmR (MR.gd gD (mr_rnd gD)) gD.at_)
      have eD : anyT ⟨t, fl, L⟩ p = (91, p.to (p.at_ + 1)) := by
        unfold anyT
        rw [if_neg (by show pkT t p.at_ ≠ -1; rw [hk]; exact hne)]
        show (pkT t p.at_, _) = _
        rw [hk, h91]
      unfold rndT
      rw [if_neg (show ¬ (pkT t p.at_ = 91 ∧ pkT t (p.at_ + 1) = 46) by rw [hn1]; rintro ⟨_, h⟩; cases h), eD]
      dsimp only
      rw [if_pos ⟨rfl, .inr (.inr hn1)⟩]
      exact lx_fail (p := p.to (p.at_ + 1)) h0 m (by show p.at_ + 1 = m; omega)
  · exact hthird (fun h => h91 h.1) (fun h => h91 h.1) (by rw [hk]; exact fun h => h91 h.1) (by rw [hk]; exact fun h => h91 h.1)
end
end Go.Proofs.YtphiaagppcbefaaGreatDoor
