/- RxP, RxQ. -/
import Derived.Test.YtphiaagppcbefaaGreatDoorPk25
import Derived.StillTailTactics
import Derived.Deep.CutRange
import Derived.Deep.Cut
import Derived.Deep.DeepCutAuto
set_option linter.unusedVariables false
namespace Go.Proofs.YtphiaagppcbefaaGreatDoor
open Go.RowKit
theorem endC_le (s : ByteArray) : ∀ (n i k : Nat), endC s n i = some k → i ≤ k ∧ k + 2 ≤ s.size
  | 0, i, k, h => by cases h
  | n + 1, i, k, h => by
    unfold endC at h
    split at h
    · rename_i hk
      have h2 := pk_lt (s := s) (i := i + 1) (by rw [hk.2]; decide)
      cases h
      omega
    · have := endC_le s n (i + 1) k h
      omega
theorem mv_cls {c : CX} {p : PS} (h : Gd c p) : Mv c p (clsT c p).2 := by
  unfold clsT
  split
  · exact (mv_fail h _ _).1
  · rename_i k hk
    have h1 := endC_le _ _ _ _ hk
    split
    · exact mv_to h _ (by omega) (by omega)
    · exact (mv_fail h _ _).1
theorem mv_itm {c : CX} {p : PS} (h : Gd c p) : Mv c p (itmT c p).2 := by
  unfold itmT
  split
  · exact mv_cls h
  split
  · exact mv_enc h _ (by omega)
  · have h1 := mv_rnd h
    generalize rndT c p = a at *
    simp only
    split
    · rename_i hk
      have hl := pk_lt (s := c.s) (i := a.2.at_) (by rw [hk.1]; decide)
      have g1 := Mv.gd h h1
      have h2 := h1.trans (mv_to g1 (a.2.at_ + 1) (by omega) (by omega))
      have h3 := h2.trans (mv_rnd (Mv.gd h h2))
      split
      · exact h3
      · exact h3.trans (mv_fail (Mv.gd h h3) _ _).1
    · exact h1
theorem mv_its {c : CX} : ∀ (n : Nat) (st : Nat → Bool) {p : PS}, Gd c p → Mv c p (itsT c n st p).2
  | 0, st, p, h => Mv.refl h
  | n + 1, st, p, h => by
    unfold itsT
    split
    · exact Mv.refl h
    · have h1 := mv_itm h
      exact h1.trans (mv_its n _ (Mv.gd h h1))
theorem kd_91 {c : CX} {p : PS} (h : kdT c p = 91) : pkT c.s p.at_ = 91 := by
  unfold kdT tokT at h
  split at h
  · cases h
  split at h
  · unfold escT at h
    simp only at h
    repeat (split at h <;> try (first | (cases h; done) | omega))
  split at h
  · exact h
  · cases h
theorem mv_brk {c : CX} {p : PS} (h : Gd c p) (hk : pkT c.s p.at_ = 91) : Mv c p (brkT c p).2 ∧ p.at_ < (brkT c p).2.at_ := by
  have hl := pk_lt (s := c.s) (i := p.at_) (by rw [hk]; decide)
  unfold brkT
  simp only
  have h1 : Mv c p (acbT c 91 p).2 ∧ p.at_ < (acbT c 91 p).2.at_ := by
    unfold acbT
    rw [if_pos hk]
    exact ⟨mv_to h _ (by omega) (by omega), by show p.at_ < p.at_ + 1; omega⟩
  have h2 := h1.1.trans (mv_acb (Mv.gd h h1.1) 94 (by omega))
  have s2 := (mv_acb (Mv.gd h h1.1) 94 (by omega)).a
  generalize acbT c 94 (acbT c 91 p).2 = inv at *
  have h3 := h2.trans (mv_itm (Mv.gd h h2))
  have s3 := (mv_itm (Mv.gd h h2)).a
  generalize itmT c inv.2 = a at *
  have h4 := h3.trans (mv_its (c.s.size + 1) a.1 (Mv.gd h h3))
  have s4 := (mv_its (c.s.size + 1) a.1 (Mv.gd h h3)).a
  generalize itsT c (c.s.size + 1) a.1 a.2 = b at *
  have h5 := h4.trans (mv_exp (Mv.gd h h4) 93 (by omega))
  have s5 := (mv_exp (Mv.gd h h4) 93 (by omega)).a
  have := h1.2
  split
  · have h6 := mv_fail (Mv.gd h h5) 2 p.at_
    exact ⟨h5.trans h6.1, by have := h6.1.a; omega⟩
  · exact ⟨h5, by omega⟩
def GrpOk (c : CX) (G : PS → Prop) (grp : PS → TN × PS) : Prop := ∀ q, Gd c q → G q → kdT c q = 40 → Mv c q (grp q).2 ∧ q.at_ < (grp q).2.at_
theorem mv_pie {c : CX} {G : PS → Prop} {grp : PS → TN × PS} (hg : GrpOk c G grp) {p : PS} (h : Gd c p) (hG : G p) : Mv c p (pieW c grp p).2 ∧ (p.at_ < c.s.size → p.at_ < (pieW c grp p).2.at_) := by
  unfold pieW
  split
  · rename_i hk
    have := mv_past h (by rw [hk]; decide) (by rw [hk]; decide)
    exact ⟨this.1, fun _ => this.2⟩
  split
  · rename_i hk
    have := mv_past h (by rw [hk]; decide) (by rw [hk]; decide)
    exact ⟨this.1, fun _ => this.2⟩
  split
  · rename_i hk
    have h1 := hg p h hG hk
    have h2 := mv_suf (Mv.gd h h1.1) (grp p).1
    exact ⟨h1.1.trans h2, fun _ => Nat.lt_of_lt_of_le h1.2 h2.a⟩
  split
  · rename_i hk
    have h1 := mv_brk h (kd_91 hk)
    have h2 := mv_suf (Mv.gd h h1.1) (brkT c p).1
    exact ⟨h1.1.trans h2, fun _ => Nat.lt_of_lt_of_le h1.2 h2.a⟩
  split
  · rename_i hk
    have h1 := mv_past h (by rw [hk]; decide) (by rw [hk]; decide)
    have h2 := mv_suf (Mv.gd h h1.1) (setR (linT c fun x => !noSet x))
    exact ⟨h1.1.trans h2, fun _ => Nat.lt_of_lt_of_le h1.2 h2.a⟩
  split
  · rename_i hk
    have h1 := mv_past h (by rw [hk]; decide) (by rw [hk]; decide)
    have h2 := mv_suf (Mv.gd h h1.1) (setR (foldT c (between (vlT c p).toNat (vlT c p).toNat)))
    exact ⟨h1.1.trans h2, fun _ => Nat.lt_of_lt_of_le h1.2 h2.a⟩
  split
  · rename_i hk
    have h1 := mv_bac h (vlT c p) (by rw [hk]; decide) (by rw [hk]; decide)
    have h2 := mv_suf (Mv.gd h h1.1) (bacT c (vlT c p) p).1
    exact ⟨h1.1.trans h2, fun _ => Nat.lt_of_lt_of_le h1.2 h2.a⟩
  · have h1 := mv_unex h
    exact ⟨h1.1, fun hl => by show p.at_ < (unexT c p).at_; rw [h1.2]; exact hl⟩
theorem mv_mor {c : CX} {p : PS} (h : Gd c p) : (morB c p).2 = p ∧ ((morB c p).1 = true → p.at_ < c.s.size) := by
  refine ⟨rfl, fun e => ?_⟩
  unfold morB at e
  by_cases hk : kdT c p = -1 ∨ kdT c p = 124
  · simp [hk] at e
  · refine pk_lt (s := c.s) (fun h0 => hk (.inl ?_))
    unfold kdT tokT
    rw [if_pos h0]
theorem mv_lop {c : CX} {G : PS → Prop} {more : PS → Bool × PS} {step : PS → TN × PS} (hs : ∀ q, Gd c q → G q → Mv c q (step q).2 ∧ G (step q).2) (hm : ∀ q, Gd c q → G q → Mv c q (more q).2 ∧ G (more q).2) :
    ∀ (n : Nat) (f : F) {p : PS}, Gd c p → G p → Mv c p (lopT more step n f p).2
  | 0, f, p, h, hG => Mv.refl h
  | n + 1, f, p, h, hG => by
    unfold lopT
    have h1 := hm p h hG
    split
    · have h2 := hs _ (Mv.gd h h1.1) h1.2
      have h3 := h1.1.trans h2.1
      exact h3.trans (mv_lop hs hm n _ (Mv.gd h h3) h2.2)
    · exact h1.1
theorem mv_joi {c : CX} {G : PS → Prop} {more : PS → Bool × PS} {step : PS → TN × PS} (hs : ∀ q, Gd c q → G q → Mv c q (step q).2 ∧ G (step q).2) (hm : ∀ q, Gd c q → G q → Mv c q (more q).2 ∧ G (more q).2) (op : Int) {p : PS} (h : Gd c p) (hG : G p) : Mv c p (joiT c op more step p).2 := by
  unfold joiT
  have h1 := hs p h hG
  exact h1.1.trans (mv_lop hs hm _ _ (Mv.gd h h1.1) h1.2)
def Gn (n : Nat) : PS → Prop := fun q => 10 ≤ q.gr + n
theorem Gn.mv {c : CX} {n : Nat} {p q : PS} (h : Gn n p) (k : Mv c p q) : Gn n q := Nat.le_trans h (Nat.add_le_add_right k.g n)
theorem mv_bra {c : CX} {n : Nat} {grp : PS → TN × PS} (hg : GrpOk c (Gn n) grp) {p : PS} (h : Gd c p) (hG : Gn n p) : Mv c p (braW c grp p).2 :=
  mv_joi (G := Gn n) (fun q h1 h2 => ⟨(mv_pie hg h1 h2).1, h2.mv (mv_pie hg h1 h2).1⟩) (fun q h1 h2 => ⟨Mv.refl h1, h2⟩) 3 h hG
theorem mv_uni {c : CX} {n : Nat} {grp : PS → TN × PS} (hg : GrpOk c (Gn n) grp) {p : PS} (h : Gd c p) (hG : Gn n p) : Mv c p (uniW c grp p).2 :=
  mv_joi (G := Gn n) (fun q h1 h2 => ⟨mv_bra hg h1 h2, h2.mv (mv_bra hg h1 h2)⟩) (fun q h1 h2 => ⟨(mv_acc h1 124 (by decide) (by decide)).1, h2.mv (mv_acc h1 124 (by decide) (by decide)).1⟩) 4 h hG
theorem mv_ins {c : CX} {n : Nat} {grp : PS → TN × PS} (hg : GrpOk c (Gn n) grp) {p : PS} (h : Gd c p) (hG : Gn n p) : Mv c p (insW c grp p).2 := by
  unfold insW
  split
  · exact Mv.refl h
  · exact mv_uni hg h hG
theorem kd_same {c : CX} {p q : PS} (h1 : p.at_ = q.at_) (h2 : p.st = q.st) : tokT c p = tokT c q := by
  unfold tokT opT asT
  rw [h1, h2]
theorem gro_ok (c : CX) : ∀ n, GrpOk c (Gn n) (groT c n)
  | 0, q, h, hG, hk => by
    have : 10 ≤ q.gr + 0 := hG
    have := h.gr
    omega
  | n + 1, p, h, hG, hk => by
    unfold groT
    have hfit := tok_fit (c := c) (p := p) (by rw [hk]; decide) (by rw [hk]; decide)
    have hsz := sz_le c p
    split
    · have h1 := mv_fail h 3 p.at_
      exact ⟨h1.1, by rw [h1.2]; omega⟩
    · rename_i h9
      have hgr := h.gr
      have hop : Gd c (opnP p) := ⟨h.at_, h.st, by show p.gr + 1 ≤ 9; omega, by show p.opn + 1 ≤ p.gr + 1; have := h.opn; omega⟩
      have hk2 : kdT c (opnP p) = 40 := by
        have : tokT c (opnP p) = tokT c p := kd_same rfl rfl
        unfold kdT
        rw [this]
        exact hk
      have ha : accT c 40 (opnP p) = (true, pastT c (opnP p)) := by
        unfold accT
        rw [if_pos hk2]
      have hb := mv_past hop (by rw [hk2]; decide) (by rw [hk2]; decide)
      rw [ha]
      have hG2 : Gn n (begP (pastT c (opnP p))) := by
        have : 10 ≤ p.gr + (n + 1) := hG
        show 10 ≤ p.gr + 1 + n
        omega
      have gb : Gd c (begP (pastT c (opnP p))) := ⟨hb.1.b, Nat.le_refl _, hop.gr, hop.opn⟩
      have hi := mv_ins (gro_ok c n) gb hG2
      simp only
      generalize insW c (groT c n) (begP (pastT c (opnP p))) = a at *
      have ga := Mv.gd gb hi
      have hlt : p.at_ < a.2.at_ := Nat.lt_of_lt_of_le hb.2 hi.a
      have hcl : ∀ r, Mv c a.2 r → Mv c p (cloP r (p.gr + 1)) ∧ p.at_ < (cloP r (p.gr + 1)).at_ := fun r k => by
        have e1 : a.2.opn = p.opn + 1 := hi.o
        have e2 : r.opn = a.2.opn := k.o
        have e3 : p.gr + 1 ≤ a.2.gr := hi.g
        have e4 := k.g
        have e5 := k.a
        exact ⟨⟨by show p.at_ ≤ r.at_; omega, k.b, by show p.gr ≤ r.gr; omega, k.g9, by show r.opn - 1 = p.opn; omega, k.s⟩, by show p.at_ < r.at_; omega⟩
      by_cases hb2 : (accT c 41 a.2).1 = true
      · rw [if_pos hb2]
        exact hcl _ (mv_acc ga 41 (by decide) (by decide)).1
      · rw [if_neg hb2]
        have : (accT c 41 a.2).2 = a.2 := by
          unfold accT at hb2 ⊢
          split
          · rename_i e; simp [e] at hb2
          · rfl
        rw [this]
        exact hcl _ (mv_unex ga).1
end Go.Proofs.YtphiaagppcbefaaGreatDoor
set_option linter.unusedVariables false
namespace Go.Proofs.YtphiaagppcbefaaGreatDoor
open Go.RowKit
theorem umore_any (w : World) (B : Nat) (c : CX) (V : LV) (p : PS) (h : PM w B c V p) (X : Nat) (hX : w.cell? ⟨X, 0, none⟩ = some (.pointer (some ⟨B, 0, none⟩))) :
    Calls Tryz.prog 40 #[.pointer (some ⟨X, 0, none⟩)] w fun e w' => e = .returned (.bool (accT c 124 p).1) ∧ Stp w B c V (accT c 124 p).2 w' := by
  have HA := Lib.hid (accept_any w B c V p h 124 (by decide) (by decide))
  clear h
  go_enter Tryz.func40, Tryz.ntmps40
  go_wp2_with (first
    | (go_at_call 41; refine HA.out.mono ?_; rintro e w1 ⟨rfl, hs⟩; have HS := Lib.hid hs; clear hs)
    )
  go_ret
  exact ⟨rfl, HS.out⟩
theorem fldTk0 (a b d : Value) (w : World) : (Instr.field 88 (.agg #[a, b, d]) 0).run Tryz.prog w = .ok a w := by kernel_rfl
set_option maxHeartbeats 4000000 in
theorem bmore_end (w : World) (B : Nat) (c : CX) (V : LV) (p : PS) (h : PM w B c V p) (X : Nat) (hX : w.cell? ⟨X, 0, none⟩ = some (.pointer (some ⟨B, 0, none⟩))) (hXB : X ≠ B) (hk : kdT c p = -1) :
    Calls Tryz.prog 61 #[.pointer (some ⟨X, 0, none⟩)] w fun e w' => e = .returned (.bool (false)) ∧ Stp w B c V p w' := by
  have HT := Lib.hid (token_any w B c V p h)
  unfold tokV at HT
  have hfd := fldTk0
  rw [show (tokT c p).1 = -1 from hk] at HT
  have HP := Lib.hid h
  have HXc := Lib.hid hX
  clear h hk
  go_enter Tryz.func61, Tryz.ntmps61
  go_wp2_with (first
    | (go_at_call 62; refine HT.out.mono ?_; rintro e w1 ⟨rfl, hb⟩; have HS := Lib.hid (Stp.of_below HP.out hb); obtain ⟨⟨x0, x1, x2, x3, x4, x5, x6, x7⟩, xf⟩ := HS.out.1.pa.all; have hX1 := keep_words hb HXc.out; clear hb)
    )
  go_ret
  exact ⟨rfl, HS.out⟩
set_option maxHeartbeats 4000000 in
theorem bmore_bar (w : World) (B : Nat) (c : CX) (V : LV) (p : PS) (h : PM w B c V p) (X : Nat) (hX : w.cell? ⟨X, 0, none⟩ = some (.pointer (some ⟨B, 0, none⟩))) (hXB : X ≠ B) (hk : kdT c p = 124) :
    Calls Tryz.prog 61 #[.pointer (some ⟨X, 0, none⟩)] w fun e w' => e = .returned (.bool (false)) ∧ Stp w B c V p w' := by
  have HT := Lib.hid (token_any w B c V p h)
  unfold tokV at HT
  have hfd := fldTk0
  rw [show (tokT c p).1 = 124 from hk] at HT
  have HP := Lib.hid h
  have HXc := Lib.hid hX
  clear h hk
  go_enter Tryz.func61, Tryz.ntmps61
  go_wp2_with (first
    | (go_at_call 62; refine HT.out.mono ?_; rintro e w1 ⟨rfl, hb⟩; have HS := Lib.hid (Stp.of_below HP.out hb); obtain ⟨⟨x0, x1, x2, x3, x4, x5, x6, x7⟩, xf⟩ := HS.out.1.pa.all; have hX1 := keep_words hb HXc.out; clear hb)
    )
  go_ret
  exact ⟨rfl, HS.out⟩
set_option maxHeartbeats 4000000 in
theorem bmore_cl0 (w : World) (B : Nat) (c : CX) (V : LV) (p : PS) (h : PM w B c V p) (X : Nat) (hX : w.cell? ⟨X, 0, none⟩ = some (.pointer (some ⟨B, 0, none⟩))) (hXB : X ≠ B) (hk : kdT c p = 41) (ho : p.opn = 0) :
    Calls Tryz.prog 61 #[.pointer (some ⟨X, 0, none⟩)] w fun e w' => e = .returned (.bool (true)) ∧ Stp w B c V p w' := by
  have HT := Lib.hid (token_any w B c V p h)
  unfold tokV at HT
  have hfd := fldTk0
  rw [show (tokT c p).1 = 41 from hk] at HT
  have HP := Lib.hid h
  have HXc := Lib.hid hX
  have q1 : ((p.opn : Int) == 0) = true := by simp; omega
  clear h hk
  go_enter Tryz.func61, Tryz.ntmps61
  go_wp2_with (first
    | (go_at_call 62; refine HT.out.mono ?_; rintro e w1 ⟨rfl, hb⟩; have HS := Lib.hid (Stp.of_below HP.out hb); obtain ⟨⟨x0, x1, x2, x3, x4, x5, x6, x7⟩, xf⟩ := HS.out.1.pa.all; have hX1 := keep_words hb HXc.out; clear hb)
    )
  go_ret
  exact ⟨rfl, HS.out⟩
set_option maxHeartbeats 4000000 in
theorem bmore_cl1 (w : World) (B : Nat) (c : CX) (V : LV) (p : PS) (h : PM w B c V p) (X : Nat) (hX : w.cell? ⟨X, 0, none⟩ = some (.pointer (some ⟨B, 0, none⟩))) (hXB : X ≠ B) (hk : kdT c p = 41) (ho : p.opn ≠ 0) :
    Calls Tryz.prog 61 #[.pointer (some ⟨X, 0, none⟩)] w fun e w' => e = .returned (.bool (false)) ∧ Stp w B c V p w' := by
  have HT := Lib.hid (token_any w B c V p h)
  unfold tokV at HT
  have hfd := fldTk0
  rw [show (tokT c p).1 = 41 from hk] at HT
  have HP := Lib.hid h
  have HXc := Lib.hid hX
  have q1 : ((p.opn : Int) == 0) = false := by simp; omega
  clear h hk
  go_enter Tryz.func61, Tryz.ntmps61
  go_wp2_with (first
    | (go_at_call 62; refine HT.out.mono ?_; rintro e w1 ⟨rfl, hb⟩; have HS := Lib.hid (Stp.of_below HP.out hb); obtain ⟨⟨x0, x1, x2, x3, x4, x5, x6, x7⟩, xf⟩ := HS.out.1.pa.all; have hX1 := keep_words hb HXc.out; clear hb)
    )
  go_ret
  exact ⟨rfl, HS.out⟩
set_option maxHeartbeats 4000000 in
theorem bmore_oth (w : World) (B : Nat) (c : CX) (V : LV) (p : PS) (h : PM w B c V p) (X : Nat) (hX : w.cell? ⟨X, 0, none⟩ = some (.pointer (some ⟨B, 0, none⟩))) (hXB : X ≠ B) (K : Int) (hk : kdT c p = K) (k1 : K ≠ -1) (k2 : K ≠ 124) (k3 : K ≠ 41) :
    Calls Tryz.prog 61 #[.pointer (some ⟨X, 0, none⟩)] w fun e w' => e = .returned (.bool (true)) ∧ Stp w B c V p w' := by
  have HT := Lib.hid (token_any w B c V p h)
  unfold tokV at HT
  have hfd := fldTk0
  rw [show (tokT c p).1 = K from hk] at HT
  have HP := Lib.hid h
  have HXc := Lib.hid hX
  have q1 : (K == -1) = false := by simpa using k1
  have q2 : (K == 124) = false := by simpa using k2
  have q3 : (K == 41) = false := by simpa using k3
  clear h hk
  go_enter Tryz.func61, Tryz.ntmps61
  go_wp2_with (first
    | (go_at_call 62; refine HT.out.mono ?_; rintro e w1 ⟨rfl, hb⟩; have HS := Lib.hid (Stp.of_below HP.out hb); obtain ⟨⟨x0, x1, x2, x3, x4, x5, x6, x7⟩, xf⟩ := HS.out.1.pa.all; have hX1 := keep_words hb HXc.out; clear hb)
    )
  go_ret
  exact ⟨rfl, HS.out⟩
theorem bmore_any (w : World) (B : Nat) (c : CX) (V : LV) (p : PS) (h : PM w B c V p) (X : Nat) (hX : w.cell? ⟨X, 0, none⟩ = some (.pointer (some ⟨B, 0, none⟩))) (hXB : X ≠ B) :
    Calls Tryz.prog 61 #[.pointer (some ⟨X, 0, none⟩)] w fun e w' => e = .returned (.bool (morB c p).1) ∧ Stp w B c V (morB c p).2 w' := by
  unfold morB
  by_cases k1 : kdT c p = -1
  · rw [if_pos (.inl k1)]; exact bmore_end w B c V p h X hX hXB k1
  by_cases k2 : kdT c p = 124
  · rw [if_pos (.inr k2)]; exact bmore_bar w B c V p h X hX hXB k2
  rw [if_neg (by rintro (e | e); exact k1 e; exact k2 e)]
  by_cases k3 : kdT c p = 41
  · rw [if_pos k3]
    by_cases ho : p.opn = 0
    · rw [decide_eq_true ho]; exact bmore_cl0 w B c V p h X hX hXB k3 ho
    · rw [decide_eq_false ho]; exact bmore_cl1 w B c V p h X hX hXB k3 ho
  · rw [if_neg k3]; exact bmore_oth w B c V p h X hX hXB _ rfl k1 k2 k3
set_option maxRecDepth 100000 in
set_option maxHeartbeats 8000000 in
theorem branch_any (w : World) (B : Nat) (c : CX) (V : LV) (p : PS) (h : PM w B c V p) (n : Nat) (grp : PS → TN × PS) (hgrp : GrpOk c (Gn n) grp) (hG : Gn n p) (HPie : Hid (∀ W q, PM W B c V q → Gn n q → Calls Tryz.prog 60 #[.pointer (some ⟨B, 0, none⟩)] W (Ret W B c V (pieW c grp q)))) :
    Calls Tryz.prog 39 #[.pointer (some ⟨B, 0, none⟩)] w (Ret w B c V (braW c grp p)) := by
  have hx : Below w.heap.size w ((w.alloc (.cells #[.pointer (some ⟨B, 0, none⟩)] 69)).alloc (.cells #[.int .i64 0, .int .u64 0, .int .u64 0, .int .u64 0, .int .u64 0, .int .i64 0, .int .i64 0, .int .i64 0, .slice none 0 0] 35)) := ((Below.refl _ _).alloc (Nat.le_refl _) _).alloc (by simp) _
  have hS0 := Stp.of_below h hx
  have HS0 := Lib.hid hS0
  have HR0 := Lib.hid (RAt.two w (.cells #[.pointer (some ⟨B, 0, none⟩)] 69) #[.int .i64 0, .int .u64 0, .int .u64 0, .int .u64 0, .int .u64 0, .int .i64 0, .int .i64 0, .int .i64 0, .slice none 0 0])
  have HL := Lib.hid h.lt
  have hX : ((w.alloc (.cells #[.pointer (some ⟨B, 0, none⟩)] 69)).alloc (.cells #[.int .i64 0, .int .u64 0, .int .u64 0, .int .u64 0, .int .u64 0, .int .i64 0, .int .i64 0, .int .i64 0, .slice none 0 0] 35)).cell? ⟨w.heap.size, 0, none⟩ = some (.pointer (some ⟨B, 0, none⟩)) := by simp
  have hne : w.heap.size ≠ B := by have := h.lt; omega
  have hmf : ∀ (fn : Fn) (first cap : Array Value) (w : World), (Instr.makeFunc fn first cap).run Tryz.prog w = .ok (.func fn first cap) w := fun _ _ _ _ => rfl
  have HJ := Lib.hid (join_piece _ B c V p hS0.1 w.heap.size hX hne 3 (morB c) (pieW c grp) (Gn n) HPie (Lib.hid fun W q hq hc => bmore_any W B c V q hq w.heap.size hc hne) (Lib.hid fun q h1 h2 => ⟨h2.mv (mv_pie hgrp h1 h2).1, h2⟩) hG (Lib.hid fun q h1 h2 hm => (mv_pie hgrp h1 h2).2 ((mv_mor h1).2 hm)))
  clear h hx hS0 hX hne
  go_enter Tryz.func39, Tryz.ntmps39
  go_wp2_with (first
    | (go_at_call 38; (with_reducible refine HJ.out.mono ?_); rintro e w2 ⟨v, rfl, ht, hs⟩; obtain ⟨sv, rfl, hsv⟩ := ht; obtain ⟨ad, cp, rfl⟩ := slice_form hsv; unfold rowV; have HT := Lib.hid (And.intro hsv (HS0.out.trans hs)); have HR2 := Lib.hid (HR0.out.only hs.2 (by have := HL.out; omega)); have HSZ := Lib.hid hs.2.size; obtain ⟨⟨⟨n0, n1, n2⟩, ⟨n3, n4, n5⟩, ⟨n6, n7, n8⟩⟩, nf⟩ := HR2.out.all; clear hsv hs)
    )
  refine bodyPost_ret (v := .agg #[.int .i64 (joiT c 3 (morB c) (pieW c grp) p).1.op, .int .u64 (wd (joiT c 3 (morB c) (pieW c grp) p).1.st 0 64 : Nat), .int .u64 (wd (joiT c 3 (morB c) (pieW c grp) p).1.st 64 64 : Nat), .int .u64 (wd (joiT c 3 (morB c) (pieW c grp) p).1.st 128 64 : Nat), .int .u64 (wd (joiT c 3 (morB c) (pieW c grp) p).1.st 192 64 : Nat), .int .i64 (joiT c 3 (morB c) (pieW c grp) p).1.lo, .int .i64 (joiT c 3 (morB c) (pieW c grp) p).1.hi, .int .i64 (joiT c 3 (morB c) (pieW c grp) p).1.g, .slice ad (joiT c 3 (morB c) (pieW c grp) p).1.args.len cp]) (ret_re Tryz.results39 _ _ (w.heap.size + 1) _ rfl (by simp) (HR2.out.put9 _ _ _ _ _ _ _ _ _)) rfl ?_
  refine ⟨_, rfl, ⟨_, rfl, HT.out.1.far (Afar.put9 _ _ _ _ _ _ _ _ _ fun b hb => ?_)⟩, HT.out.2.put9 HL.out _ (by omega) _ _ _ _ _ _ _ _ _⟩
  have hb2 : ((w.alloc (.cells #[.pointer (some ⟨B, 0, none⟩)] 69)).alloc (.cells #[.int .i64 0, .int .u64 0, .int .u64 0, .int .u64 0, .int .u64 0, .int .i64 0, .int .i64 0, .int .i64 0, .slice none 0 0] 35)).heap.size ≤ b := hb
  have hsz : ((w.alloc (.cells #[.pointer (some ⟨B, 0, none⟩)] 69)).alloc (.cells #[.int .i64 0, .int .u64 0, .int .u64 0, .int .u64 0, .int .u64 0, .int .i64 0, .int .i64 0, .int .i64 0, .slice none 0 0] 35)).heap.size = w.heap.size + 1 + 1 := by simp
  exact ⟨by show w.heap.size ≤ b; omega, by omega⟩
set_option maxRecDepth 100000 in
set_option maxHeartbeats 8000000 in
theorem union_any_rx (w : World) (B : Nat) (c : CX) (V : LV) (p : PS) (h : PM w B c V p) (n : Nat) (grp : PS → TN × PS) (hgrp : GrpOk c (Gn n) grp) (hG : Gn n p) (HPie : Hid (∀ W q, PM W B c V q → Gn n q → Calls Tryz.prog 60 #[.pointer (some ⟨B, 0, none⟩)] W (Ret W B c V (pieW c grp q)))) :
    Calls Tryz.prog 24 #[.pointer (some ⟨B, 0, none⟩)] w (Ret w B c V (uniW c grp p)) := by
  have hx : Below w.heap.size w ((w.alloc (.cells #[.pointer (some ⟨B, 0, none⟩)] 69)).alloc (.cells #[.int .i64 0, .int .u64 0, .int .u64 0, .int .u64 0, .int .u64 0, .int .i64 0, .int .i64 0, .int .i64 0, .slice none 0 0] 35)) := ((Below.refl _ _).alloc (Nat.le_refl _) _).alloc (by simp) _
  have hS0 := Stp.of_below h hx
  have HS0 := Lib.hid hS0
  have HR0 := Lib.hid (RAt.two w (.cells #[.pointer (some ⟨B, 0, none⟩)] 69) #[.int .i64 0, .int .u64 0, .int .u64 0, .int .u64 0, .int .u64 0, .int .i64 0, .int .i64 0, .int .i64 0, .slice none 0 0])
  have HL := Lib.hid h.lt
  have hX : ((w.alloc (.cells #[.pointer (some ⟨B, 0, none⟩)] 69)).alloc (.cells #[.int .i64 0, .int .u64 0, .int .u64 0, .int .u64 0, .int .u64 0, .int .i64 0, .int .i64 0, .int .i64 0, .slice none 0 0] 35)).cell? ⟨w.heap.size, 0, none⟩ = some (.pointer (some ⟨B, 0, none⟩)) := by simp
  have hne : w.heap.size ≠ B := by have := h.lt; omega
  have hmf : ∀ (fn : Fn) (first cap : Array Value) (w : World), (Instr.makeFunc fn first cap).run Tryz.prog w = .ok (.func fn first cap) w := fun _ _ _ _ => rfl
  have HJ := Lib.hid (join_branch _ B c V p hS0.1 w.heap.size hX hne 4 (accT c 124) (braW c grp) (Gn n) (Lib.hid fun W q hq h2 => branch_any W B c V q hq n grp hgrp h2 HPie) (Lib.hid fun W q hq hc => umore_any W B c V q hq w.heap.size hc) (Lib.hid fun q h1 h2 => ⟨h2.mv (mv_bra hgrp h1 h2), h2.mv (mv_acc h1 124 (by decide) (by decide)).1⟩) hG (Lib.hid fun q h1 h2 hm => Nat.lt_of_lt_of_le ((mv_acc h1 124 (by decide) (by decide)).2 hm) (mv_bra hgrp (Mv.gd h1 (mv_acc h1 124 (by decide) (by decide)).1) (h2.mv (mv_acc h1 124 (by decide) (by decide)).1)).a))
  clear h hx hS0 hX hne
  go_enter Tryz.func24, Tryz.ntmps24
  go_wp2_with (first
    | (go_at_call 38; (with_reducible refine HJ.out.mono ?_); rintro e w2 ⟨v, rfl, ht, hs⟩; obtain ⟨sv, rfl, hsv⟩ := ht; obtain ⟨ad, cp, rfl⟩ := slice_form hsv; unfold rowV; have HT := Lib.hid (And.intro hsv (HS0.out.trans hs)); have HR2 := Lib.hid (HR0.out.only hs.2 (by have := HL.out; omega)); have HSZ := Lib.hid hs.2.size; obtain ⟨⟨⟨n0, n1, n2⟩, ⟨n3, n4, n5⟩, ⟨n6, n7, n8⟩⟩, nf⟩ := HR2.out.all; clear hsv hs)
    )
  refine bodyPost_ret (v := .agg #[.int .i64 (joiT c 4 (accT c 124) (braW c grp) p).1.op, .int .u64 (wd (joiT c 4 (accT c 124) (braW c grp) p).1.st 0 64 : Nat), .int .u64 (wd (joiT c 4 (accT c 124) (braW c grp) p).1.st 64 64 : Nat), .int .u64 (wd (joiT c 4 (accT c 124) (braW c grp) p).1.st 128 64 : Nat), .int .u64 (wd (joiT c 4 (accT c 124) (braW c grp) p).1.st 192 64 : Nat), .int .i64 (joiT c 4 (accT c 124) (braW c grp) p).1.lo, .int .i64 (joiT c 4 (accT c 124) (braW c grp) p).1.hi, .int .i64 (joiT c 4 (accT c 124) (braW c grp) p).1.g, .slice ad (joiT c 4 (accT c 124) (braW c grp) p).1.args.len cp]) (ret_re Tryz.results24 _ _ (w.heap.size + 1) _ rfl (by simp) (HR2.out.put9 _ _ _ _ _ _ _ _ _)) rfl ?_
  refine ⟨_, rfl, ⟨_, rfl, HT.out.1.far (Afar.put9 _ _ _ _ _ _ _ _ _ fun b hb => ?_)⟩, HT.out.2.put9 HL.out _ (by omega) _ _ _ _ _ _ _ _ _⟩
  have hb2 : ((w.alloc (.cells #[.pointer (some ⟨B, 0, none⟩)] 69)).alloc (.cells #[.int .i64 0, .int .u64 0, .int .u64 0, .int .u64 0, .int .u64 0, .int .i64 0, .int .i64 0, .int .i64 0, .slice none 0 0] 35)).heap.size ≤ b := hb
  have hsz : ((w.alloc (.cells #[.pointer (some ⟨B, 0, none⟩)] 69)).alloc (.cells #[.int .i64 0, .int .u64 0, .int .u64 0, .int .u64 0, .int .u64 0, .int .i64 0, .int .i64 0, .int .i64 0, .slice none 0 0] 35)).heap.size = w.heap.size + 1 + 1 := by simp
  exact ⟨by show w.heap.size ≤ b; omega, by omega⟩
end Go.Proofs.YtphiaagppcbefaaGreatDoor
