/- RxW. -/
import Derived.Test.YtphiaagppcbefaaGreatDoorPs23
import Derived.StillTailTactics
import Derived.Deep.CutRange
import Derived.Deep.Cut
import Derived.Deep.DeepCutAuto
import Derived.Test.YtphiaagppcbefaaGreatDoorPs18
import Derived.Test.YtphiaagppcbefaaGreatDoorPs34
import Derived.Lib.CutLaws
import Derived.Deep.QuietTactic
import Derived.BigQuiet
set_option linter.unusedVariables false
namespace Go.Proofs.YtphiaagppcbefaaGreatDoor
open Go.RowKit
theorem index_endC (s : ByteArray) : ∀ (n i : Nat), i ≤ s.size → s.size < i + n → (endC s n i = none → Lib.index (s.data.toList.drop i) [58, 93] = -1) ∧ (∀ k, endC s n i = some k → Lib.index (s.data.toList.drop i) [58, 93] = ((k - i : Nat) : Int) ∧ i ≤ k)
  | 0, i, h1, h2 => by omega
  | n + 1, i, h1, h2 => by
    have hp := pre2 s i 58 93
    rw [Lib.extract_to_end s i] at hp
    have hpp : (decide (pkT s i = ((58 : UInt8).toNat : Int)) && decide (pkT s (i + 1) = ((93 : UInt8).toNat : Int))) = decide (pkT s i = 58 ∧ pkT s (i + 1) = 93) := by
      by_cases a : pkT s i = 58 <;> by_cases b : pkT s (i + 1) = 93 <;> simp [a, b]
    rw [hpp] at hp
    cases hd : s.data.toList.drop i with
    | nil =>
      have hn := pk_nil hd
      have hsz : s.size ≤ i := by
        have := congrArg List.length hd
        simp at this
        omega
      have hn2 : pkT s (i + 1) = -1 := by unfold pkT; rw [if_neg (by omega)]
      have hend : endC s (n + 1) i = endC s n (i + 1) := by
        show (if pkT s i = 58 ∧ pkT s (i + 1) = 93 then _ else _) = _
        rw [if_neg (by rw [hn]; rintro ⟨e, _⟩; cases e)]
      have hz : ∀ (m j : Nat), s.size ≤ j → endC s m j = none := by
        intro m
        induction m with
        | zero => intro j _; rfl
        | succ m ih =>
          intro j hj
          have hj1 : pkT s j = -1 := by unfold pkT; rw [if_neg (by omega)]
          show (if pkT s j = 58 ∧ pkT s (j + 1) = 93 then _ else _) = _
          rw [if_neg (by rw [hj1]; rintro ⟨e, _⟩; cases e)]
          exact ih (j + 1) (by omega)
      refine ⟨fun _ => rfl, fun k hk => ?_⟩
      rw [hend, hz n (i + 1) (by omega)] at hk
      cases hk
    | cons b l =>
      have hnx := drop_next hd
      have hlt : i < s.size := by
        have := congrArg List.length hd
        simp at this
        omega
      have ih := index_endC s n (i + 1) (by omega) (by omega)
      rw [hnx] at ih
      rw [hd] at hp
      by_cases hc : pkT s i = 58 ∧ pkT s (i + 1) = 93
      · have e1 : endC s (n + 1) i = some i := by
          show (if pkT s i = 58 ∧ pkT s (i + 1) = 93 then _ else _) = _
          rw [if_pos hc]
        rw [decide_eq_true hc] at hp
        have e2 : Lib.index (b :: l) [58, 93] = 0 := by
          show (if List.isPrefixOf [58, 93] (b :: l) = true then _ else _) = _
          rw [if_pos hp]
        rw [e1, e2]
        exact ⟨fun e => (by cases e), fun k hk => by cases hk; exact ⟨by simp, Nat.le_refl _⟩⟩
      · have e1 : endC s (n + 1) i = endC s n (i + 1) := by
          show (if pkT s i = 58 ∧ pkT s (i + 1) = 93 then _ else _) = _
          rw [if_neg hc]
        rw [decide_eq_false hc] at hp
        have e2 : Lib.index (b :: l) [58, 93] = if (Lib.index l [58, 93] == -1) = true then -1 else Lib.index l [58, 93] + 1 := by
          show (if List.isPrefixOf [58, 93] (b :: l) = true then _ else _) = _
          rw [if_neg (by rw [hp]; decide)]
        rw [e1, e2]
        refine ⟨fun e => ?_, fun k hk => ?_⟩
        · rw [ih.1 e]; rfl
        · have h3 := ih.2 k hk
          rw [h3.1]
          have : ((((k - (i + 1) : Nat) : Int) == -1) = true) = False := by simp <;> omega
          rw [if_neg (by rw [this]; exact id)]
          refine ⟨?_, by omega⟩
          have := h3.2
          omega
set_option maxRecDepth 100000 in
set_option maxHeartbeats 4000000 in
theorem rnd_enc (w : World) (B : Nat) (c : CX) (V : LV) (p : PS) (h : PM w B c V p) (hd : pkT c.s p.at_ = 91 ∧ pkT c.s (p.at_ + 1) = 46) :
    Calls Tryz.prog 132 #[.pointer (some ⟨B, 0, none⟩)] w fun e w' => e = .returned (.int .u8 ((encT c 46 p).1)) ∧ Stp w B c V ((encT c 46 p).2) w' := by
  have HS := Lib.hid h.same
  obtain ⟨⟨x0, x1, x2, x3, x4, x5, x6, x7⟩, xf⟩ := h.pa.all
  have b1 : (p.at_ : Int) ≤ c.s.size := by have := h.at_; omega
  have hpre : List.isPrefixOf [91, 46] (c.s.extract p.at_ c.s.size).data.toList = true := by
    rw [pre2 c.s p.at_ 91 46]
    show (decide (pkT c.s p.at_ = 91) && decide (pkT c.s (p.at_ + 1) = 46)) = true
    rw [decide_eq_true hd.1, decide_eq_true hd.2]
    rfl
  have HPr : Hid (∀ W, Calls Tryz.prog 118 #[.string (c.s.extract p.at_ c.s.size), .string ⟨#[91, 46]⟩] W fun e w' => e = .returned (.bool true) ∧ w' = W) := fun W => by
    have hh := hp_any (c.s.extract p.at_ c.s.size) ⟨#[91, 46]⟩ W
    rw [show (⟨#[91, 46]⟩ : ByteArray).data.toList = [91, 46] from rfl, hpre] at hh
    exact hh.mono fun _ _ h => ⟨h.1, h.2.symm⟩
  have HE := Lib.hid (fun W h => enclosed_any W B c V p h 46 (by omega))
  clear h hd hpre 
  go_enter Tryz.func132, Tryz.ntmps132
  go_wp2
  go_quiet ((go_at_call 118; exact Calls.quiet_of_same (HPr.out _)))
  have HS := Lib.hid (HS.out.next (below_drewN (Below.refl _ _) nq))
  clear x0 x1 x2 x3 x4 x5 x6 x7 xf
  generalize World.drewN _ nq = wq at HS ⊢
  obtain ⟨⟨x0, x1, x2, x3, x4, x5, x6, x7⟩, xf⟩ := HS.out.1.pa.all
  have hp := HS.out.1
  go_wp2_with (first
    | (go_at_call 131; (with_reducible refine (HE.out _ hp).mono ?_); rintro e wz ⟨rfl, hs⟩; have HS := Lib.hid (HS.out.trans hs); clear x0 x1 x2 x3 x4 x5 x6 x7 xf; obtain ⟨⟨x0, x1, x2, x3, x4, x5, x6, x7⟩, xf⟩ := HS.out.1.pa.all; clear hs hp; have hp := HS.out.1)
    )
  go_ret
  exact ⟨rfl, HS.out⟩
set_option maxRecDepth 100000 in
set_option maxHeartbeats 4000000 in
theorem rnd_f58 (w : World) (B : Nat) (c : CX) (V : LV) (p : PS) (h : PM w B c V p) (hd : ¬ (pkT c.s p.at_ = 91 ∧ pkT c.s (p.at_ + 1) = 46)) (A1 : Int) (q1 : PS) (hr : anyT c p = (A1, q1)) (PK : Int) (hpk : pkT c.s q1.at_ = PK) (hA : A1 = 91) (hk : PK = 58) :
    Calls Tryz.prog 132 #[.pointer (some ⟨B, 0, none⟩)] w fun e w' => e = .returned (.int .u8 (91)) ∧ Stp w B c V (failT c q1 1 q1.at_) w' := by
  have HS := Lib.hid h.same
  obtain ⟨⟨x0, x1, x2, x3, x4, x5, x6, x7⟩, xf⟩ := h.pa.all
  have b1 : (p.at_ : Int) ≤ c.s.size := by have := h.at_; omega
  have hpre : List.isPrefixOf [91, 46] (c.s.extract p.at_ c.s.size).data.toList = false := by
    rw [pre2 c.s p.at_ 91 46]
    show (decide (pkT c.s p.at_ = 91) && decide (pkT c.s (p.at_ + 1) = 46)) = false
    by_cases h1 : pkT c.s p.at_ = 91
    · rw [decide_eq_false (p := pkT c.s (p.at_ + 1) = 46) (fun e => hd ⟨h1, e⟩), Bool.and_false]
    · rw [decide_eq_false h1, Bool.false_and]
  have HPr : Hid (∀ W, Calls Tryz.prog 118 #[.string (c.s.extract p.at_ c.s.size), .string ⟨#[91, 46]⟩] W fun e w' => e = .returned (.bool false) ∧ w' = W) := fun W => by
    have hh := hp_any (c.s.extract p.at_ c.s.size) ⟨#[91, 46]⟩ W
    rw [show (⟨#[91, 46]⟩ : ByteArray).data.toList = [91, 46] from rfl, hpre] at hh
    exact hh.mono fun _ _ h => ⟨h.1, h.2.symm⟩
  have HAn : Hid (∀ W, PM W B c V p → Calls Tryz.prog 145 #[.pointer (some ⟨B, 0, none⟩)] W fun e w' => e = .returned (.int .u8 A1) ∧ Stp W B c V q1 w') := fun W h => by
    have := anyByte_any W B c V p h
    rw [hr] at this
    exact this
  have HPk : Hid (∀ W, PM W B c V q1 → Calls Tryz.prog 91 #[.pointer (some ⟨B, 0, none⟩)] W fun e w' => e = .returned (.int .i32 PK) ∧ W = w') := fun W h => by
    have := peek_any W B c V q1 h
    rw [hpk] at this
    exact this
  rw [hA] at HAn
  rw [hk] at HPk
  have HF := Lib.hid (fun W h => fail_any W B c V q1 h 1 q1.at_)
  clear h hd hpre hr hpk hA hk
  go_enter Tryz.func132, Tryz.ntmps132
  go_wp2
  go_quiet ((go_at_call 118; exact Calls.quiet_of_same (HPr.out _)))
  have HS := Lib.hid (HS.out.next (below_drewN (Below.refl _ _) nq))
  clear x0 x1 x2 x3 x4 x5 x6 x7 xf
  generalize World.drewN _ nq = wq at HS ⊢
  obtain ⟨⟨x0, x1, x2, x3, x4, x5, x6, x7⟩, xf⟩ := HS.out.1.pa.all
  have hp := HS.out.1
  go_wp2_with (first
    | (go_at_call 145; (with_reducible refine (HAn.out _ hp).mono ?_); rintro e wz ⟨rfl, hs⟩; have HS := Lib.hid (HS.out.trans hs); clear x0 x1 x2 x3 x4 x5 x6 x7 xf; obtain ⟨⟨x0, x1, x2, x3, x4, x5, x6, x7⟩, xf⟩ := HS.out.1.pa.all; clear hs hp; have hp := HS.out.1)
    | (go_at_call 91; (with_reducible refine (HPk.out _ hp).mono ?_); rintro e w' ⟨rfl, rfl⟩)
    | (go_at_call 104; (with_reducible refine (HF.out _ hp).mono ?_); rintro e wz ⟨rfl, hs⟩; have HS := Lib.hid (HS.out.trans hs); clear x0 x1 x2 x3 x4 x5 x6 x7 xf; obtain ⟨⟨x0, x1, x2, x3, x4, x5, x6, x7⟩, xf⟩ := HS.out.1.pa.all; clear hs hp; have hp := HS.out.1)
    )
  go_ret
  exact ⟨rfl, HS.out⟩
set_option maxRecDepth 100000 in
set_option maxHeartbeats 4000000 in
theorem rnd_f61 (w : World) (B : Nat) (c : CX) (V : LV) (p : PS) (h : PM w B c V p) (hd : ¬ (pkT c.s p.at_ = 91 ∧ pkT c.s (p.at_ + 1) = 46)) (A1 : Int) (q1 : PS) (hr : anyT c p = (A1, q1)) (PK : Int) (hpk : pkT c.s q1.at_ = PK) (hA : A1 = 91) (hk : PK = 61) :
    Calls Tryz.prog 132 #[.pointer (some ⟨B, 0, none⟩)] w fun e w' => e = .returned (.int .u8 (91)) ∧ Stp w B c V (failT c q1 1 q1.at_) w' := by
  have HS := Lib.hid h.same
  obtain ⟨⟨x0, x1, x2, x3, x4, x5, x6, x7⟩, xf⟩ := h.pa.all
  have b1 : (p.at_ : Int) ≤ c.s.size := by have := h.at_; omega
  have hpre : List.isPrefixOf [91, 46] (c.s.extract p.at_ c.s.size).data.toList = false := by
    rw [pre2 c.s p.at_ 91 46]
    show (decide (pkT c.s p.at_ = 91) && decide (pkT c.s (p.at_ + 1) = 46)) = false
    by_cases h1 : pkT c.s p.at_ = 91
    · rw [decide_eq_false (p := pkT c.s (p.at_ + 1) = 46) (fun e => hd ⟨h1, e⟩), Bool.and_false]
    · rw [decide_eq_false h1, Bool.false_and]
  have HPr : Hid (∀ W, Calls Tryz.prog 118 #[.string (c.s.extract p.at_ c.s.size), .string ⟨#[91, 46]⟩] W fun e w' => e = .returned (.bool false) ∧ w' = W) := fun W => by
    have hh := hp_any (c.s.extract p.at_ c.s.size) ⟨#[91, 46]⟩ W
    rw [show (⟨#[91, 46]⟩ : ByteArray).data.toList = [91, 46] from rfl, hpre] at hh
    exact hh.mono fun _ _ h => ⟨h.1, h.2.symm⟩
  have HAn : Hid (∀ W, PM W B c V p → Calls Tryz.prog 145 #[.pointer (some ⟨B, 0, none⟩)] W fun e w' => e = .returned (.int .u8 A1) ∧ Stp W B c V q1 w') := fun W h => by
    have := anyByte_any W B c V p h
    rw [hr] at this
    exact this
  have HPk : Hid (∀ W, PM W B c V q1 → Calls Tryz.prog 91 #[.pointer (some ⟨B, 0, none⟩)] W fun e w' => e = .returned (.int .i32 PK) ∧ W = w') := fun W h => by
    have := peek_any W B c V q1 h
    rw [hpk] at this
    exact this
  rw [hA] at HAn
  rw [hk] at HPk
  have HF := Lib.hid (fun W h => fail_any W B c V q1 h 1 q1.at_)
  clear h hd hpre hr hpk hA hk
  go_enter Tryz.func132, Tryz.ntmps132
  go_wp2
  go_quiet ((go_at_call 118; exact Calls.quiet_of_same (HPr.out _)))
  have HS := Lib.hid (HS.out.next (below_drewN (Below.refl _ _) nq))
  clear x0 x1 x2 x3 x4 x5 x6 x7 xf
  generalize World.drewN _ nq = wq at HS ⊢
  obtain ⟨⟨x0, x1, x2, x3, x4, x5, x6, x7⟩, xf⟩ := HS.out.1.pa.all
  have hp := HS.out.1
  go_wp2_with (first
    | (go_at_call 145; (with_reducible refine (HAn.out _ hp).mono ?_); rintro e wz ⟨rfl, hs⟩; have HS := Lib.hid (HS.out.trans hs); clear x0 x1 x2 x3 x4 x5 x6 x7 xf; obtain ⟨⟨x0, x1, x2, x3, x4, x5, x6, x7⟩, xf⟩ := HS.out.1.pa.all; clear hs hp; have hp := HS.out.1)
    | (go_at_call 91; (with_reducible refine (HPk.out _ hp).mono ?_); rintro e w' ⟨rfl, rfl⟩)
    | (go_at_call 104; (with_reducible refine (HF.out _ hp).mono ?_); rintro e wz ⟨rfl, hs⟩; have HS := Lib.hid (HS.out.trans hs); clear x0 x1 x2 x3 x4 x5 x6 x7 xf; obtain ⟨⟨x0, x1, x2, x3, x4, x5, x6, x7⟩, xf⟩ := HS.out.1.pa.all; clear hs hp; have hp := HS.out.1)
    )
  go_ret
  exact ⟨rfl, HS.out⟩
set_option maxRecDepth 100000 in
set_option maxHeartbeats 4000000 in
theorem rnd_f1 (w : World) (B : Nat) (c : CX) (V : LV) (p : PS) (h : PM w B c V p) (hd : ¬ (pkT c.s p.at_ = 91 ∧ pkT c.s (p.at_ + 1) = 46)) (A1 : Int) (q1 : PS) (hr : anyT c p = (A1, q1)) (PK : Int) (hpk : pkT c.s q1.at_ = PK) (hA : A1 = 91) (hk : PK = -1) :
    Calls Tryz.prog 132 #[.pointer (some ⟨B, 0, none⟩)] w fun e w' => e = .returned (.int .u8 (91)) ∧ Stp w B c V (failT c q1 1 q1.at_) w' := by
  have HS := Lib.hid h.same
  obtain ⟨⟨x0, x1, x2, x3, x4, x5, x6, x7⟩, xf⟩ := h.pa.all
  have b1 : (p.at_ : Int) ≤ c.s.size := by have := h.at_; omega
  have hpre : List.isPrefixOf [91, 46] (c.s.extract p.at_ c.s.size).data.toList = false := by
    rw [pre2 c.s p.at_ 91 46]
    show (decide (pkT c.s p.at_ = 91) && decide (pkT c.s (p.at_ + 1) = 46)) = false
    by_cases h1 : pkT c.s p.at_ = 91
    · rw [decide_eq_false (p := pkT c.s (p.at_ + 1) = 46) (fun e => hd ⟨h1, e⟩), Bool.and_false]
    · rw [decide_eq_false h1, Bool.false_and]
  have HPr : Hid (∀ W, Calls Tryz.prog 118 #[.string (c.s.extract p.at_ c.s.size), .string ⟨#[91, 46]⟩] W fun e w' => e = .returned (.bool false) ∧ w' = W) := fun W => by
    have hh := hp_any (c.s.extract p.at_ c.s.size) ⟨#[91, 46]⟩ W
    rw [show (⟨#[91, 46]⟩ : ByteArray).data.toList = [91, 46] from rfl, hpre] at hh
    exact hh.mono fun _ _ h => ⟨h.1, h.2.symm⟩
  have HAn : Hid (∀ W, PM W B c V p → Calls Tryz.prog 145 #[.pointer (some ⟨B, 0, none⟩)] W fun e w' => e = .returned (.int .u8 A1) ∧ Stp W B c V q1 w') := fun W h => by
    have := anyByte_any W B c V p h
    rw [hr] at this
    exact this
  have HPk : Hid (∀ W, PM W B c V q1 → Calls Tryz.prog 91 #[.pointer (some ⟨B, 0, none⟩)] W fun e w' => e = .returned (.int .i32 PK) ∧ W = w') := fun W h => by
    have := peek_any W B c V q1 h
    rw [hpk] at this
    exact this
  rw [hA] at HAn
  rw [hk] at HPk
  have HF := Lib.hid (fun W h => fail_any W B c V q1 h 1 q1.at_)
  clear h hd hpre hr hpk hA hk
  go_enter Tryz.func132, Tryz.ntmps132
  go_wp2
  go_quiet ((go_at_call 118; exact Calls.quiet_of_same (HPr.out _)))
  have HS := Lib.hid (HS.out.next (below_drewN (Below.refl _ _) nq))
  clear x0 x1 x2 x3 x4 x5 x6 x7 xf
  generalize World.drewN _ nq = wq at HS ⊢
  obtain ⟨⟨x0, x1, x2, x3, x4, x5, x6, x7⟩, xf⟩ := HS.out.1.pa.all
  have hp := HS.out.1
  go_wp2_with (first
    | (go_at_call 145; (with_reducible refine (HAn.out _ hp).mono ?_); rintro e wz ⟨rfl, hs⟩; have HS := Lib.hid (HS.out.trans hs); clear x0 x1 x2 x3 x4 x5 x6 x7 xf; obtain ⟨⟨x0, x1, x2, x3, x4, x5, x6, x7⟩, xf⟩ := HS.out.1.pa.all; clear hs hp; have hp := HS.out.1)
    | (go_at_call 91; (with_reducible refine (HPk.out _ hp).mono ?_); rintro e w' ⟨rfl, rfl⟩)
    | (go_at_call 104; (with_reducible refine (HF.out _ hp).mono ?_); rintro e wz ⟨rfl, hs⟩; have HS := Lib.hid (HS.out.trans hs); clear x0 x1 x2 x3 x4 x5 x6 x7 xf; obtain ⟨⟨x0, x1, x2, x3, x4, x5, x6, x7⟩, xf⟩ := HS.out.1.pa.all; clear hs hp; have hp := HS.out.1)
    )
  go_ret
  exact ⟨rfl, HS.out⟩
set_option maxRecDepth 100000 in
set_option maxHeartbeats 4000000 in
theorem rnd_o (w : World) (B : Nat) (c : CX) (V : LV) (p : PS) (h : PM w B c V p) (hd : ¬ (pkT c.s p.at_ = 91 ∧ pkT c.s (p.at_ + 1) = 46)) (A1 : Int) (q1 : PS) (hr : anyT c p = (A1, q1)) (PK : Int) (hpk : pkT c.s q1.at_ = PK) (hA : A1 = 91) (k1 : PK ≠ 58) (k2 : PK ≠ 61) (k3 : PK ≠ -1) :
    Calls Tryz.prog 132 #[.pointer (some ⟨B, 0, none⟩)] w fun e w' => e = .returned (.int .u8 (91)) ∧ Stp w B c V (q1) w' := by
  have HS := Lib.hid h.same
  obtain ⟨⟨x0, x1, x2, x3, x4, x5, x6, x7⟩, xf⟩ := h.pa.all
  have b1 : (p.at_ : Int) ≤ c.s.size := by have := h.at_; omega
  have hpre : List.isPrefixOf [91, 46] (c.s.extract p.at_ c.s.size).data.toList = false := by
    rw [pre2 c.s p.at_ 91 46]
    show (decide (pkT c.s p.at_ = 91) && decide (pkT c.s (p.at_ + 1) = 46)) = false
    by_cases h1 : pkT c.s p.at_ = 91
    · rw [decide_eq_false (p := pkT c.s (p.at_ + 1) = 46) (fun e => hd ⟨h1, e⟩), Bool.and_false]
    · rw [decide_eq_false h1, Bool.false_and]
  have HPr : Hid (∀ W, Calls Tryz.prog 118 #[.string (c.s.extract p.at_ c.s.size), .string ⟨#[91, 46]⟩] W fun e w' => e = .returned (.bool false) ∧ w' = W) := fun W => by
    have hh := hp_any (c.s.extract p.at_ c.s.size) ⟨#[91, 46]⟩ W
    rw [show (⟨#[91, 46]⟩ : ByteArray).data.toList = [91, 46] from rfl, hpre] at hh
    exact hh.mono fun _ _ h => ⟨h.1, h.2.symm⟩
  have HAn : Hid (∀ W, PM W B c V p → Calls Tryz.prog 145 #[.pointer (some ⟨B, 0, none⟩)] W fun e w' => e = .returned (.int .u8 A1) ∧ Stp W B c V q1 w') := fun W h => by
    have := anyByte_any W B c V p h
    rw [hr] at this
    exact this
  have HPk : Hid (∀ W, PM W B c V q1 → Calls Tryz.prog 91 #[.pointer (some ⟨B, 0, none⟩)] W fun e w' => e = .returned (.int .i32 PK) ∧ W = w') := fun W h => by
    have := peek_any W B c V q1 h
    rw [hpk] at this
    exact this
  rw [hA] at HAn
  have r1 : (PK == 58) = false := by simpa using k1
  have r2 : (PK == 61) = false := by simpa using k2
  have r3 : (PK == -1) = false := by simpa using k3
  clear h hd hpre hr hpk k1 k2 k3 hA
  go_enter Tryz.func132, Tryz.ntmps132
  go_wp2
  go_quiet ((go_at_call 118; exact Calls.quiet_of_same (HPr.out _)))
  have HS := Lib.hid (HS.out.next (below_drewN (Below.refl _ _) nq))
  clear x0 x1 x2 x3 x4 x5 x6 x7 xf
  generalize World.drewN _ nq = wq at HS ⊢
  obtain ⟨⟨x0, x1, x2, x3, x4, x5, x6, x7⟩, xf⟩ := HS.out.1.pa.all
  have hp := HS.out.1
  go_wp2_with (first
    | (go_at_call 145; (with_reducible refine (HAn.out _ hp).mono ?_); rintro e wz ⟨rfl, hs⟩; have HS := Lib.hid (HS.out.trans hs); clear x0 x1 x2 x3 x4 x5 x6 x7 xf; obtain ⟨⟨x0, x1, x2, x3, x4, x5, x6, x7⟩, xf⟩ := HS.out.1.pa.all; clear hs hp; have hp := HS.out.1)
    | (go_at_call 91; (with_reducible refine (HPk.out _ hp).mono ?_); rintro e w' ⟨rfl, rfl⟩)
    )
  go_ret
  exact ⟨rfl, HS.out⟩
set_option maxRecDepth 100000 in
set_option maxHeartbeats 4000000 in
theorem rnd_n (w : World) (B : Nat) (c : CX) (V : LV) (p : PS) (h : PM w B c V p) (hd : ¬ (pkT c.s p.at_ = 91 ∧ pkT c.s (p.at_ + 1) = 46)) (A1 : Int) (q1 : PS) (hr : anyT c p = (A1, q1)) (PK : Int) (hpk : pkT c.s q1.at_ = PK) (hA : A1 ≠ 91) :
    Calls Tryz.prog 132 #[.pointer (some ⟨B, 0, none⟩)] w fun e w' => e = .returned (.int .u8 (A1)) ∧ Stp w B c V (q1) w' := by
  have HS := Lib.hid h.same
  obtain ⟨⟨x0, x1, x2, x3, x4, x5, x6, x7⟩, xf⟩ := h.pa.all
  have b1 : (p.at_ : Int) ≤ c.s.size := by have := h.at_; omega
  have hpre : List.isPrefixOf [91, 46] (c.s.extract p.at_ c.s.size).data.toList = false := by
    rw [pre2 c.s p.at_ 91 46]
    show (decide (pkT c.s p.at_ = 91) && decide (pkT c.s (p.at_ + 1) = 46)) = false
    by_cases h1 : pkT c.s p.at_ = 91
    · rw [decide_eq_false (p := pkT c.s (p.at_ + 1) = 46) (fun e => hd ⟨h1, e⟩), Bool.and_false]
    · rw [decide_eq_false h1, Bool.false_and]
  have HPr : Hid (∀ W, Calls Tryz.prog 118 #[.string (c.s.extract p.at_ c.s.size), .string ⟨#[91, 46]⟩] W fun e w' => e = .returned (.bool false) ∧ w' = W) := fun W => by
    have hh := hp_any (c.s.extract p.at_ c.s.size) ⟨#[91, 46]⟩ W
    rw [show (⟨#[91, 46]⟩ : ByteArray).data.toList = [91, 46] from rfl, hpre] at hh
    exact hh.mono fun _ _ h => ⟨h.1, h.2.symm⟩
  have HAn : Hid (∀ W, PM W B c V p → Calls Tryz.prog 145 #[.pointer (some ⟨B, 0, none⟩)] W fun e w' => e = .returned (.int .u8 A1) ∧ Stp W B c V q1 w') := fun W h => by
    have := anyByte_any W B c V p h
    rw [hr] at this
    exact this
  have HPk : Hid (∀ W, PM W B c V q1 → Calls Tryz.prog 91 #[.pointer (some ⟨B, 0, none⟩)] W fun e w' => e = .returned (.int .i32 PK) ∧ W = w') := fun W h => by
    have := peek_any W B c V q1 h
    rw [hpk] at this
    exact this
  have r1 : (A1 == 91) = false := by simpa using hA
  clear h hd hpre hr hpk hA
  go_enter Tryz.func132, Tryz.ntmps132
  go_wp2
  go_quiet ((go_at_call 118; exact Calls.quiet_of_same (HPr.out _)))
  have HS := Lib.hid (HS.out.next (below_drewN (Below.refl _ _) nq))
  clear x0 x1 x2 x3 x4 x5 x6 x7 xf
  generalize World.drewN _ nq = wq at HS ⊢
  obtain ⟨⟨x0, x1, x2, x3, x4, x5, x6, x7⟩, xf⟩ := HS.out.1.pa.all
  have hp := HS.out.1
  go_wp2_with (first
    | (go_at_call 145; (with_reducible refine (HAn.out _ hp).mono ?_); rintro e wz ⟨rfl, hs⟩; have HS := Lib.hid (HS.out.trans hs); clear x0 x1 x2 x3 x4 x5 x6 x7 xf; obtain ⟨⟨x0, x1, x2, x3, x4, x5, x6, x7⟩, xf⟩ := HS.out.1.pa.all; clear hs hp; have hp := HS.out.1)
    )
  go_ret
  exact ⟨rfl, HS.out⟩
theorem rangeEnd_any (w : World) (B : Nat) (c : CX) (V : LV) (p : PS) (h : PM w B c V p) :
    Calls Tryz.prog 132 #[.pointer (some ⟨B, 0, none⟩)] w fun e w' => e = .returned (.int .u8 (rndT c p).1) ∧ Stp w B c V (rndT c p).2 w' := by
  unfold rndT
  by_cases hd : pkT c.s p.at_ = 91 ∧ pkT c.s (p.at_ + 1) = 46
  · rw [if_pos hd]; exact rnd_enc w B c V p h hd
  rw [if_neg hd]
  obtain ⟨⟨A1, q1⟩, hr⟩ : ∃ r, anyT c p = r := ⟨_, rfl⟩
  rw [hr]
  simp only
  by_cases hA : A1 = 91
  · by_cases hk : pkT c.s q1.at_ = 58 ∨ pkT c.s q1.at_ = 61 ∨ pkT c.s q1.at_ = -1
    · rw [if_pos ⟨hA, hk⟩, hA]
      rcases hk with hk | hk | hk
      · exact rnd_f58 w B c V p h hd A1 q1 hr _ rfl hA hk
      · exact rnd_f61 w B c V p h hd A1 q1 hr _ rfl hA hk
      · exact rnd_f1 w B c V p h hd A1 q1 hr _ rfl hA hk
    · rw [if_neg (fun e => hk e.2)]
      have := rnd_o w B c V p h hd A1 q1 hr _ rfl hA (fun e => hk (.inl e)) (fun e => hk (.inr (.inl e))) (fun e => hk (.inr (.inr e)))
      rw [← hA] at this
      exact this
  · rw [if_neg (fun e => hA e.1)]
    exact rnd_n w B c V p h hd A1 q1 hr _ rfl hA
theorem At.nw (w : World) : At (w.alloc (.cells #[.int .u64 0, .int .u64 0, .int .u64 0, .int .u64 0] 32)) w.heap.size (fun _ => false) := by
  rw [cl_zero]
  exact At.new w _
theorem cut_none {c : CX} {p : PS} (h : p.at_ + 2 ≤ c.s.size) (he : endC c.s (c.s.size + 1) (p.at_ + 2) = none) (W : World) (hm : maxAt W) (hs : c.s.size ≤ 256) :
    Calls Tryz.prog 142 #[.string (c.s.extract (p.at_ + 2) c.s.size), .string ⟨#[58, 93]⟩] W fun e w' => (∃ a b : ByteArray, e = .returned (.tuple #[.string a, .string b, .bool false])) ∧ ∃ n, w' = W.drewN n := by
  obtain ⟨m, hm⟩ := hm
  have hi := (index_endC c.s (c.s.size + 1) (p.at_ + 2) h (by omega)).1 he
  refine (Any.strings_Cut (ρ := Tryz.lays145_ren) Tryz.lays145 (c.s.extract (p.at_ + 2) c.s.size) ⟨#[58, 93]⟩ m W (by rw [ByteArray.size_extract]; omega) hm).mono ?_
  rintro e w' ⟨rfl, hw⟩
  have e2 : (Lib.cut (c.s.extract (p.at_ + 2) c.s.size).data.toList (⟨#[58, 93]⟩ : ByteArray).data.toList).2.2 = false := by
    rw [Lib.extract_to_end]
    unfold Lib.cut
    rw [show Lib.index (List.drop (p.at_ + 2) c.s.data.toList) (⟨#[58, 93]⟩ : ByteArray).data.toList = -1 from hi, if_neg (by decide)]
  rw [e2]
  exact ⟨⟨_, _, rfl⟩, hw⟩
theorem cut_some {c : CX} {p : PS} (h : p.at_ + 2 ≤ c.s.size) (k : Nat) (he : endC c.s (c.s.size + 1) (p.at_ + 2) = some k) (W : World) (hm : maxAt W) (hs : c.s.size ≤ 256) :
    Calls Tryz.prog 142 #[.string (c.s.extract (p.at_ + 2) c.s.size), .string ⟨#[58, 93]⟩] W fun e w' => (∃ b : ByteArray, e = .returned (.tuple #[.string (c.s.extract (p.at_ + 2) k), .string b, .bool true])) ∧ ∃ n, w' = W.drewN n := by
  obtain ⟨m, hm⟩ := hm
  obtain ⟨hi, hk⟩ := (index_endC c.s (c.s.size + 1) (p.at_ + 2) h (by omega)).2 k he
  refine (Any.strings_Cut (ρ := Tryz.lays145_ren) Tryz.lays145 (c.s.extract (p.at_ + 2) c.s.size) ⟨#[58, 93]⟩ m W (by rw [ByteArray.size_extract]; omega) hm).mono ?_
  rintro e w' ⟨rfl, hw⟩
  have hkl := (endC_le _ _ _ _ he).2
  have e2 := Lib.cutB_hit (c.s.extract (p.at_ + 2) c.s.size) ⟨#[58, 93]⟩ (k - (p.at_ + 2)) (by
    show Lib.index _ _ = _
    rw [Lib.extract_to_end]
    exact hi)
  rw [e2.1, e2.2.2]
  have e3 : (c.s.extract (p.at_ + 2) c.s.size).extract 0 (k - (p.at_ + 2)) = c.s.extract (p.at_ + 2) k := by
    apply ByteArray.ext
    apply Array.ext'
    rw [Lib.extract_data, Lib.extract_to_end, Lib.extract_data]
    simp
  rw [e3]
  exact ⟨⟨_, rfl⟩, hw⟩
end Go.Proofs.YtphiaagppcbefaaGreatDoor
