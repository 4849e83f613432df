/- RxH. -/
import Derived.Test.YtphiaagppcbefaaGreatDoorPs16
import Derived.StillTailTactics
import Derived.Deep.CutRange
import Derived.Deep.Cut
import Derived.Deep.DeepCutAuto
import Derived.Test.YtphiaagppcbefaaGreatDoorPs11
import Derived.Deep.QuietTactic
import Derived.BigQuiet
import Derived.Deep.LoopGhost
set_option linter.unusedVariables false
namespace Go.Proofs.YtphiaagppcbefaaGreatDoor
open Go.RowKit
theorem pk_dg {s : ByteArray} {i : Nat} (h : dgT (pkT s i) = true) : i < s.size := by
  refine pk_lt (fun e => ?_)
  rw [e] at h
  cases h
theorem dgs_le (s : ByteArray) : ∀ (n i : Nat), i ≤ s.size → dgsT s n i ≤ s.size ∧ i ≤ dgsT s n i
  | 0, i, h => ⟨h, Nat.le_refl _⟩
  | n + 1, i, h => by
    unfold dgsT
    split
    · rename_i hd
      have h2 := pk_dg hd
      have := dgs_le s n (i + 1) (by omega)
      omega
    · exact ⟨h, Nat.le_refl _⟩
theorem numE_le {c : CX} {p : PS} (h : dgT (pkT c.s p.at_) = true) : numE c p ≤ c.s.size ∧ p.at_ ≤ numE c p := by
  have hl := pk_dg h
  unfold numE
  split
  · omega
  · exact dgs_le c.s _ _ (by omega)
set_option maxHeartbeats 4000000 in
theorem num_none (w : World) (B : Nat) (c : CX) (V : LV) (p : PS) (h : PM w B c V p) (least : Int) (hd : dgT (pkT c.s p.at_) = false) :
    Calls Tryz.prog 127 #[.pointer (some ⟨B, 0, none⟩), .int .i64 least] w fun e w' => e = .returned (.int .i64 0) ∧ Stp w B c V (failT c p 1 p.at_) w' := by
  have HS := Lib.hid h.same
  obtain ⟨⟨x0, x1, x2, x3, x4, x5, x6, x7⟩, xf⟩ := h.pa.all
  clear h
  go_enter Tryz.func127, Tryz.ntmps127
  go_wp2_with (first
    | (go_at_call 91; refine (peek_any _ B c V _ HS.out.1 ).mono ?_; rintro e w' ⟨rfl, rfl⟩)
    | (go_at_call 128; refine (isDigit_rx _ _).mono ?_; rintro e w' ⟨rfl, rfl⟩)
    | (go_at_call 104; refine (fail_any _ B c V _ HS.out.1 _ p.at_).mono ?_; rintro e wz ⟨rfl, hs⟩; have HS := Lib.hid (HS.out.trans hs); clear x0 x1 x2 x3 x4 x5 x6 x7 xf; obtain ⟨⟨x0, x1, x2, x3, x4, x5, x6, x7⟩, xf⟩ := HS.out.1.pa.all; clear hs)
    )
  go_ret
  exact ⟨rfl, HS.out⟩
set_option maxRecDepth 100000 in
set_option maxHeartbeats 4000000 in
theorem num_bad1_z (w : World) (B : Nat) (c : CX) (V : LV) (p : PS) (h : PM w B c V p) (least X Z : Int) (hX : parseV (numW c p) = X) (hZ : parseE (numW c p) = Z) (hd : dgT (pkT c.s p.at_) = true) (hk : pkT c.s p.at_ = 48) (hz : Z ≠ 0) :
    Calls Tryz.prog 127 #[.pointer (some ⟨B, 0, none⟩), .int .i64 least] w fun e w' => e = .returned (.int .i64 0) ∧ Stp w B c V (failT c (p.to (numE c p)) 3 p.at_) w' := by
  have HS := Lib.hid h.same
  obtain ⟨⟨x0, x1, x2, x3, x4, x5, x6, x7⟩, xf⟩ := h.pa.all
  obtain ⟨hE1, hE2⟩ := numE_le hd
  obtain ⟨E, hE⟩ : ∃ E, numE c p = E := ⟨_, rfl⟩
  have h8 := h.sz
  rw [hE] at hE1 hE2
  have HN : Hid (∀ W, Calls Tryz.prog 141 #[.string (c.s.extract p.at_ E)] W fun e w' => e = .returned (.tuple #[.int .i64 X, .int .i64 Z]) ∧ w' = W) := fun W => by
    refine (parse_any (c.s.extract p.at_ E) W (by rw [ByteArray.size_extract]; unfold maxLen; omega)).mono ?_
    rintro e w' ⟨rfl, rfl⟩
    rw [← hX, ← hZ]
    unfold numW
    rw [hE]
    exact ⟨rfl, rfl⟩
  rw [hE]
  have b1 : (p.at_ : Int) ≤ E := by omega
  have b2 : (E : Int) ≤ c.s.size := by omega
  have HD : Hid (∀ W, Calls Tryz.prog 128 #[.int .i32 (pkT c.s p.at_)] W fun e w' => e = .returned (.bool true) ∧ W = w') := fun W => by rw [← hd]; exact isDigit_rx _ W
  have HA := Lib.hid (acceptByte_any w B c V p h 48 (by omega))
  unfold acbT at HA
  simp only [if_pos hk] at HA
  have hE0 : p.at_ + 1 = E := by rw [← hE]; unfold numE; rw [if_pos hk]
  rw [hE0] at HA
  have z1 : (Z == 0) = false := by simpa using hz
  have z2 : (Z != 0) = true := by simpa using hz
  clear h hk hE0 h8 hE1 hE2 hE hd hX hZ
  go_enter Tryz.func127, Tryz.ntmps127
  go_upto_region 8 with (first
    | (go_at_call 91; refine (peek_any _ B c V _ HS.out.1 ).mono ?_; rintro e w' ⟨rfl, rfl⟩)
    | (go_at_call 128; with_reducible refine (HD.out _).mono ?_; rintro e w' ⟨rfl, rfl⟩)
    | (go_at_call 106; refine HA.out.mono ?_; rintro e wz ⟨rfl, hs⟩; have HS := Lib.hid hs; clear x0 x1 x2 x3 x4 x5 x6 x7 xf; obtain ⟨⟨x0, x1, x2, x3, x4, x5, x6, x7⟩, xf⟩ := HS.out.1.pa.all; clear hs)
    )
  · skip
    go_quiet ((go_at_call 141; exact Calls.quiet_of_same (HN.out _)))
    have HS := Lib.hid (HS.out.next (below_drewN (Below.refl _ _) nq))
    clear x0 x1 x2 x3 x4 x5 x6 x7 xf
    generalize World.drewN _ nq = wq at HS ⊢
    obtain ⟨⟨x0, x1, x2, x3, x4, x5, x6, x7⟩, xf⟩ := HS.out.1.pa.all
    go_wp2_with (first
      | (go_at_call 104; refine (fail_any _ B c V _ HS.out.1 _ p.at_).mono ?_; rintro e wz ⟨rfl, hs⟩; have HS := Lib.hid (HS.out.trans hs); clear x0 x1 x2 x3 x4 x5 x6 x7 xf; obtain ⟨⟨x0, x1, x2, x3, x4, x5, x6, x7⟩, xf⟩ := HS.out.1.pa.all; clear hs)
      )
    go_ret
    exact ⟨rfl, HS.out⟩
set_option maxRecDepth 100000 in
set_option maxHeartbeats 4000000 in
theorem num_bad1_n (w : World) (B : Nat) (c : CX) (V : LV) (p : PS) (h : PM w B c V p) (least X Z : Int) (hX : parseV (numW c p) = X) (hZ : parseE (numW c p) = Z) (hd : dgT (pkT c.s p.at_) = true) (hk : pkT c.s p.at_ ≠ 48) (hz : Z ≠ 0) :
    Calls Tryz.prog 127 #[.pointer (some ⟨B, 0, none⟩), .int .i64 least] w fun e w' => e = .returned (.int .i64 0) ∧ Stp w B c V (failT c (p.to (numE c p)) 3 p.at_) w' := by
  have HS := Lib.hid h.same
  obtain ⟨⟨x0, x1, x2, x3, x4, x5, x6, x7⟩, xf⟩ := h.pa.all
  obtain ⟨hE1, hE2⟩ := numE_le hd
  obtain ⟨E, hE⟩ : ∃ E, numE c p = E := ⟨_, rfl⟩
  have h8 := h.sz
  rw [hE] at hE1 hE2
  have HN : Hid (∀ W, Calls Tryz.prog 141 #[.string (c.s.extract p.at_ E)] W fun e w' => e = .returned (.tuple #[.int .i64 X, .int .i64 Z]) ∧ w' = W) := fun W => by
    refine (parse_any (c.s.extract p.at_ E) W (by rw [ByteArray.size_extract]; unfold maxLen; omega)).mono ?_
    rintro e w' ⟨rfl, rfl⟩
    rw [← hX, ← hZ]
    unfold numW
    rw [hE]
    exact ⟨rfl, rfl⟩
  rw [hE]
  have b1 : (p.at_ : Int) ≤ E := by omega
  have b2 : (E : Int) ≤ c.s.size := by omega
  have HD : Hid (∀ W, Calls Tryz.prog 128 #[.int .i32 (pkT c.s p.at_)] W fun e w' => e = .returned (.bool true) ∧ W = w') := fun W => by rw [← hd]; exact isDigit_rx _ W
  have HA := Lib.hid (acceptByte_any w B c V p h 48 (by omega))
  unfold acbT at HA
  simp only [if_neg hk] at HA
  have HE0 : Hid (dgsT c.s c.s.size p.at_ = E) := by rw [← hE]; unfold numE; rw [if_neg hk]; rfl
  have hat := h.at_
  have z1 : (Z == 0) = false := by simpa using hz
  have z2 : (Z != 0) = true := by simpa using hz
  clear h hk hE hd hX hZ
  go_enter Tryz.func127, Tryz.ntmps127
  go_wp2_with (first
    | (go_at_call 91; refine (peek_any _ B c V _ HS.out.1 ).mono ?_; rintro e w' ⟨rfl, rfl⟩)
    | (go_at_call 128; with_reducible refine (HD.out _).mono ?_; rintro e w' ⟨rfl, rfl⟩)
    | (go_at_call 106; refine HA.out.mono ?_; rintro e wz ⟨rfl, hs⟩; have HS := Lib.hid hs; clear x0 x1 x2 x3 x4 x5 x6 x7 xf; obtain ⟨⟨x0, x1, x2, x3, x4, x5, x6, x7⟩, xf⟩ := HS.out.1.pa.all; clear hs)
    )
  clear x0 x1 x2 x3 x4 x5 x6 x7 xf
  go_loopg [] c.s.size (fun k wr => ∃ i : Nat, Hid (p.at_ ≤ i ∧ i ≤ c.s.size ∧ c.s.size ≤ i + k ∧ dgsT c.s k i = E) ∧ Hid (Stp w B c V (p.to i) wr))
  case atStart => exact ⟨p.at_, ⟨Nat.le_refl _, hat, by omega, HE0.out⟩, HS.out⟩
  case round =>
    obtain ⟨i, HI, HS⟩ := hrel
    clear HE0
    obtain ⟨i1, i2, i3, i4⟩ := HI.out
    obtain ⟨⟨x0, x1, x2, x3, x4, x5, x6, x7⟩, xf⟩ := HS.out.1.pa.all
    by_cases hdi : dgT (pkT c.s i) = true
    · have hil := pk_dg hdi
      have HDi : Hid (∀ W, Calls Tryz.prog 128 #[.int .i32 (pkT c.s i)] W fun e w' => e = .returned (.bool true) ∧ W = w') := fun W => by rw [← hdi]; exact isDigit_rx _ W
      have hib : (i : Int) ≤ 256 := by omega
      obtain ⟨k, hgk⟩ : ∃ k, gk = k + 1 := ⟨gk - 1, by omega⟩
      have HI2 : Hid (dgsT c.s k (i + 1) = E) := by
        rw [← i4, hgk]
        show _ = if dgT (pkT c.s i) = true then dgsT c.s k (i + 1) else i
        rw [if_pos hdi]
      have HG := Lib.hid hgk
      have HX := Lib.hid i3
      clear hdi i4 hgk i3 b1 b2
      go_wp2_with (first
        | (go_at_call 91; refine (peek_any _ B c V _ HS.out.1 ).mono ?_; rintro e w' ⟨rfl, rfl⟩)
        | (go_at_call 128; with_reducible refine (HDi.out _).mono ?_; rintro e w' ⟨rfl, rfl⟩)
        )
      go_roundg k
      case measure => have := HG.out; omega
      case rel => exact ⟨i + 1, ⟨by omega, by omega, by have := HG.out; have := HX.out; omega, HI2.out⟩, HS.out.moved (i + 1) (by omega) (by show i ≤ i + 1; omega)⟩
    · have hdi2 : dgT (pkT c.s i) = false := by simpa using hdi
      have HDi : Hid (∀ W, Calls Tryz.prog 128 #[.int .i32 (pkT c.s i)] W fun e w' => e = .returned (.bool false) ∧ W = w') := fun W => by rw [← hdi2]; exact isDigit_rx _ W
      have hiE : i = E := by
        rw [← i4]
        cases gk with
        | zero => rfl
        | succ k => show i = if dgT (pkT c.s i) = true then dgsT c.s k (i + 1) else i; rw [if_neg hdi]
      subst hiE
      clear hdi hdi2 i1 i2 i3 i4 HI
      go_upto_region 8 with (first
        | (go_at_call 91; refine (peek_any _ B c V _ HS.out.1 ).mono ?_; rintro e w' ⟨rfl, rfl⟩)
        | (go_at_call 128; with_reducible refine (HDi.out _).mono ?_; rintro e w' ⟨rfl, rfl⟩)
        )
      go_quiet ((go_at_call 141; exact Calls.quiet_of_same (HN.out _)))
      have HS := Lib.hid (HS.out.next (below_drewN (Below.refl _ _) nq))
      clear x0 x1 x2 x3 x4 x5 x6 x7 xf
      generalize World.drewN _ nq = wq at HS ⊢
      obtain ⟨⟨x0, x1, x2, x3, x4, x5, x6, x7⟩, xf⟩ := HS.out.1.pa.all
      go_wp2_with (first
        | (go_at_call 104; refine (fail_any _ B c V _ HS.out.1 _ p.at_).mono ?_; rintro e wz ⟨rfl, hs⟩; have HS := Lib.hid (HS.out.trans hs); clear x0 x1 x2 x3 x4 x5 x6 x7 xf; obtain ⟨⟨x0, x1, x2, x3, x4, x5, x6, x7⟩, xf⟩ := HS.out.1.pa.all; clear hs)
        )
      go_ret
      exact ⟨rfl, HS.out⟩
set_option maxRecDepth 100000 in
set_option maxHeartbeats 4000000 in
theorem num_bad2_z (w : World) (B : Nat) (c : CX) (V : LV) (p : PS) (h : PM w B c V p) (least X Z : Int) (hX : parseV (numW c p) = X) (hZ : parseE (numW c p) = Z) (hd : dgT (pkT c.s p.at_) = true) (hk : pkT c.s p.at_ = 48) (hz : Z = 0) (h64 : 64 < X) :
    Calls Tryz.prog 127 #[.pointer (some ⟨B, 0, none⟩), .int .i64 least] w fun e w' => e = .returned (.int .i64 0) ∧ Stp w B c V (failT c (p.to (numE c p)) 3 p.at_) w' := by
  have HS := Lib.hid h.same
  obtain ⟨⟨x0, x1, x2, x3, x4, x5, x6, x7⟩, xf⟩ := h.pa.all
  obtain ⟨hE1, hE2⟩ := numE_le hd
  obtain ⟨E, hE⟩ : ∃ E, numE c p = E := ⟨_, rfl⟩
  have h8 := h.sz
  rw [hE] at hE1 hE2
  have HN : Hid (∀ W, Calls Tryz.prog 141 #[.string (c.s.extract p.at_ E)] W fun e w' => e = .returned (.tuple #[.int .i64 X, .int .i64 Z]) ∧ w' = W) := fun W => by
    refine (parse_any (c.s.extract p.at_ E) W (by rw [ByteArray.size_extract]; unfold maxLen; omega)).mono ?_
    rintro e w' ⟨rfl, rfl⟩
    rw [← hX, ← hZ]
    unfold numW
    rw [hE]
    exact ⟨rfl, rfl⟩
  rw [hE]
  have b1 : (p.at_ : Int) ≤ E := by omega
  have b2 : (E : Int) ≤ c.s.size := by omega
  have HD : Hid (∀ W, Calls Tryz.prog 128 #[.int .i32 (pkT c.s p.at_)] W fun e w' => e = .returned (.bool true) ∧ W = w') := fun W => by rw [← hd]; exact isDigit_rx _ W
  have HA := Lib.hid (acceptByte_any w B c V p h 48 (by omega))
  unfold acbT at HA
  simp only [if_pos hk] at HA
  have hE0 : p.at_ + 1 = E := by rw [← hE]; unfold numE; rw [if_pos hk]
  rw [hE0] at HA
  subst hz
  clear h hk hE0 h8 hE1 hE2 hE hd hX hZ
  go_enter Tryz.func127, Tryz.ntmps127
  go_upto_region 8 with (first
    | (go_at_call 91; refine (peek_any _ B c V _ HS.out.1 ).mono ?_; rintro e w' ⟨rfl, rfl⟩)
    | (go_at_call 128; with_reducible refine (HD.out _).mono ?_; rintro e w' ⟨rfl, rfl⟩)
    | (go_at_call 106; refine HA.out.mono ?_; rintro e wz ⟨rfl, hs⟩; have HS := Lib.hid hs; clear x0 x1 x2 x3 x4 x5 x6 x7 xf; obtain ⟨⟨x0, x1, x2, x3, x4, x5, x6, x7⟩, xf⟩ := HS.out.1.pa.all; clear hs)
    )
  · skip
    go_quiet ((go_at_call 141; exact Calls.quiet_of_same (HN.out _)))
    have HS := Lib.hid (HS.out.next (below_drewN (Below.refl _ _) nq))
    clear x0 x1 x2 x3 x4 x5 x6 x7 xf
    generalize World.drewN _ nq = wq at HS ⊢
    obtain ⟨⟨x0, x1, x2, x3, x4, x5, x6, x7⟩, xf⟩ := HS.out.1.pa.all
    go_wp2_with (first
      | (go_at_call 104; refine (fail_any _ B c V _ HS.out.1 _ p.at_).mono ?_; rintro e wz ⟨rfl, hs⟩; have HS := Lib.hid (HS.out.trans hs); clear x0 x1 x2 x3 x4 x5 x6 x7 xf; obtain ⟨⟨x0, x1, x2, x3, x4, x5, x6, x7⟩, xf⟩ := HS.out.1.pa.all; clear hs)
      )
    go_ret
    exact ⟨rfl, HS.out⟩
set_option maxRecDepth 100000 in
set_option maxHeartbeats 4000000 in
theorem num_bad2_n (w : World) (B : Nat) (c : CX) (V : LV) (p : PS) (h : PM w B c V p) (least X Z : Int) (hX : parseV (numW c p) = X) (hZ : parseE (numW c p) = Z) (hd : dgT (pkT c.s p.at_) = true) (hk : pkT c.s p.at_ ≠ 48) (hz : Z = 0) (h64 : 64 < X) :
    Calls Tryz.prog 127 #[.pointer (some ⟨B, 0, none⟩), .int .i64 least] w fun e w' => e = .returned (.int .i64 0) ∧ Stp w B c V (failT c (p.to (numE c p)) 3 p.at_) w' := by
  have HS := Lib.hid h.same
  obtain ⟨⟨x0, x1, x2, x3, x4, x5, x6, x7⟩, xf⟩ := h.pa.all
  obtain ⟨hE1, hE2⟩ := numE_le hd
  obtain ⟨E, hE⟩ : ∃ E, numE c p = E := ⟨_, rfl⟩
  have h8 := h.sz
  rw [hE] at hE1 hE2
  have HN : Hid (∀ W, Calls Tryz.prog 141 #[.string (c.s.extract p.at_ E)] W fun e w' => e = .returned (.tuple #[.int .i64 X, .int .i64 Z]) ∧ w' = W) := fun W => by
    refine (parse_any (c.s.extract p.at_ E) W (by rw [ByteArray.size_extract]; unfold maxLen; omega)).mono ?_
    rintro e w' ⟨rfl, rfl⟩
    rw [← hX, ← hZ]
    unfold numW
    rw [hE]
    exact ⟨rfl, rfl⟩
  rw [hE]
  have b1 : (p.at_ : Int) ≤ E := by omega
  have b2 : (E : Int) ≤ c.s.size := by omega
  have HD : Hid (∀ W, Calls Tryz.prog 128 #[.int .i32 (pkT c.s p.at_)] W fun e w' => e = .returned (.bool true) ∧ W = w') := fun W => by rw [← hd]; exact isDigit_rx _ W
  have HA := Lib.hid (acceptByte_any w B c V p h 48 (by omega))
  unfold acbT at HA
  simp only [if_neg hk] at HA
  have HE0 : Hid (dgsT c.s c.s.size p.at_ = E) := by rw [← hE]; unfold numE; rw [if_neg hk]; rfl
  have hat := h.at_
  subst hz
  clear h hk hE hd hX hZ
  go_enter Tryz.func127, Tryz.ntmps127
  go_wp2_with (first
    | (go_at_call 91; refine (peek_any _ B c V _ HS.out.1 ).mono ?_; rintro e w' ⟨rfl, rfl⟩)
    | (go_at_call 128; with_reducible refine (HD.out _).mono ?_; rintro e w' ⟨rfl, rfl⟩)
    | (go_at_call 106; refine HA.out.mono ?_; rintro e wz ⟨rfl, hs⟩; have HS := Lib.hid hs; clear x0 x1 x2 x3 x4 x5 x6 x7 xf; obtain ⟨⟨x0, x1, x2, x3, x4, x5, x6, x7⟩, xf⟩ := HS.out.1.pa.all; clear hs)
    )
  clear x0 x1 x2 x3 x4 x5 x6 x7 xf
  go_loopg [] c.s.size (fun k wr => ∃ i : Nat, Hid (p.at_ ≤ i ∧ i ≤ c.s.size ∧ c.s.size ≤ i + k ∧ dgsT c.s k i = E) ∧ Hid (Stp w B c V (p.to i) wr))
  case atStart => exact ⟨p.at_, ⟨Nat.le_refl _, hat, by omega, HE0.out⟩, HS.out⟩
  case round =>
    obtain ⟨i, HI, HS⟩ := hrel
    clear HE0
    obtain ⟨i1, i2, i3, i4⟩ := HI.out
    obtain ⟨⟨x0, x1, x2, x3, x4, x5, x6, x7⟩, xf⟩ := HS.out.1.pa.all
    by_cases hdi : dgT (pkT c.s i) = true
    · have hil := pk_dg hdi
      have HDi : Hid (∀ W, Calls Tryz.prog 128 #[.int .i32 (pkT c.s i)] W fun e w' => e = .returned (.bool true) ∧ W = w') := fun W => by rw [← hdi]; exact isDigit_rx _ W
      have hib : (i : Int) ≤ 256 := by omega
      obtain ⟨k, hgk⟩ : ∃ k, gk = k + 1 := ⟨gk - 1, by omega⟩
      have HI2 : Hid (dgsT c.s k (i + 1) = E) := by
        rw [← i4, hgk]
        show _ = if dgT (pkT c.s i) = true then dgsT c.s k (i + 1) else i
        rw [if_pos hdi]
      have HG := Lib.hid hgk
      have HX := Lib.hid i3
      clear hdi i4 hgk i3 b1 b2
      go_wp2_with (first
        | (go_at_call 91; refine (peek_any _ B c V _ HS.out.1 ).mono ?_; rintro e w' ⟨rfl, rfl⟩)
        | (go_at_call 128; with_reducible refine (HDi.out _).mono ?_; rintro e w' ⟨rfl, rfl⟩)
        )
      go_roundg k
      case measure => have := HG.out; omega
      case rel => exact ⟨i + 1, ⟨by omega, by omega, by have := HG.out; have := HX.out; omega, HI2.out⟩, HS.out.moved (i + 1) (by omega) (by show i ≤ i + 1; omega)⟩
    · have hdi2 : dgT (pkT c.s i) = false := by simpa using hdi
      have HDi : Hid (∀ W, Calls Tryz.prog 128 #[.int .i32 (pkT c.s i)] W fun e w' => e = .returned (.bool false) ∧ W = w') := fun W => by rw [← hdi2]; exact isDigit_rx _ W
      have hiE : i = E := by
        rw [← i4]
        cases gk with
        | zero => rfl
        | succ k => show i = if dgT (pkT c.s i) = true then dgsT c.s k (i + 1) else i; rw [if_neg hdi]
      subst hiE
      clear hdi hdi2 i1 i2 i3 i4 HI
      go_upto_region 8 with (first
        | (go_at_call 91; refine (peek_any _ B c V _ HS.out.1 ).mono ?_; rintro e w' ⟨rfl, rfl⟩)
        | (go_at_call 128; with_reducible refine (HDi.out _).mono ?_; rintro e w' ⟨rfl, rfl⟩)
        )
      go_quiet ((go_at_call 141; exact Calls.quiet_of_same (HN.out _)))
      have HS := Lib.hid (HS.out.next (below_drewN (Below.refl _ _) nq))
      clear x0 x1 x2 x3 x4 x5 x6 x7 xf
      generalize World.drewN _ nq = wq at HS ⊢
      obtain ⟨⟨x0, x1, x2, x3, x4, x5, x6, x7⟩, xf⟩ := HS.out.1.pa.all
      go_wp2_with (first
        | (go_at_call 104; refine (fail_any _ B c V _ HS.out.1 _ p.at_).mono ?_; rintro e wz ⟨rfl, hs⟩; have HS := Lib.hid (HS.out.trans hs); clear x0 x1 x2 x3 x4 x5 x6 x7 xf; obtain ⟨⟨x0, x1, x2, x3, x4, x5, x6, x7⟩, xf⟩ := HS.out.1.pa.all; clear hs)
        )
      go_ret
      exact ⟨rfl, HS.out⟩
set_option maxRecDepth 100000 in
set_option maxHeartbeats 4000000 in
theorem num_low_z (w : World) (B : Nat) (c : CX) (V : LV) (p : PS) (h : PM w B c V p) (least X Z : Int) (hX : parseV (numW c p) = X) (hZ : parseE (numW c p) = Z) (hd : dgT (pkT c.s p.at_) = true) (hk : pkT c.s p.at_ = 48) (hz : Z = 0) (h64 : ¬ 64 < X) (hl : X < least) :
    Calls Tryz.prog 127 #[.pointer (some ⟨B, 0, none⟩), .int .i64 least] w fun e w' => e = .returned (.int .i64 0) ∧ Stp w B c V (failT c (p.to (numE c p)) 2 p.at_) w' := by
  have HS := Lib.hid h.same
  obtain ⟨⟨x0, x1, x2, x3, x4, x5, x6, x7⟩, xf⟩ := h.pa.all
  obtain ⟨hE1, hE2⟩ := numE_le hd
  obtain ⟨E, hE⟩ : ∃ E, numE c p = E := ⟨_, rfl⟩
  have h8 := h.sz
  rw [hE] at hE1 hE2
  have HN : Hid (∀ W, Calls Tryz.prog 141 #[.string (c.s.extract p.at_ E)] W fun e w' => e = .returned (.tuple #[.int .i64 X, .int .i64 Z]) ∧ w' = W) := fun W => by
    refine (parse_any (c.s.extract p.at_ E) W (by rw [ByteArray.size_extract]; unfold maxLen; omega)).mono ?_
    rintro e w' ⟨rfl, rfl⟩
    rw [← hX, ← hZ]
    unfold numW
    rw [hE]
    exact ⟨rfl, rfl⟩
  rw [hE]
  have b1 : (p.at_ : Int) ≤ E := by omega
  have b2 : (E : Int) ≤ c.s.size := by omega
  have HD : Hid (∀ W, Calls Tryz.prog 128 #[.int .i32 (pkT c.s p.at_)] W fun e w' => e = .returned (.bool true) ∧ W = w') := fun W => by rw [← hd]; exact isDigit_rx _ W
  have HA := Lib.hid (acceptByte_any w B c V p h 48 (by omega))
  unfold acbT at HA
  simp only [if_pos hk] at HA
  have hE0 : p.at_ + 1 = E := by rw [← hE]; unfold numE; rw [if_pos hk]
  rw [hE0] at HA
  subst hz
  clear h hk hE0 h8 hE1 hE2 hE hd hX hZ
  go_enter Tryz.func127, Tryz.ntmps127
  go_upto_region 8 with (first
    | (go_at_call 91; refine (peek_any _ B c V _ HS.out.1 ).mono ?_; rintro e w' ⟨rfl, rfl⟩)
    | (go_at_call 128; with_reducible refine (HD.out _).mono ?_; rintro e w' ⟨rfl, rfl⟩)
    | (go_at_call 106; refine HA.out.mono ?_; rintro e wz ⟨rfl, hs⟩; have HS := Lib.hid hs; clear x0 x1 x2 x3 x4 x5 x6 x7 xf; obtain ⟨⟨x0, x1, x2, x3, x4, x5, x6, x7⟩, xf⟩ := HS.out.1.pa.all; clear hs)
    )
  · skip
    go_quiet ((go_at_call 141; exact Calls.quiet_of_same (HN.out _)))
    have HS := Lib.hid (HS.out.next (below_drewN (Below.refl _ _) nq))
    clear x0 x1 x2 x3 x4 x5 x6 x7 xf
    generalize World.drewN _ nq = wq at HS ⊢
    obtain ⟨⟨x0, x1, x2, x3, x4, x5, x6, x7⟩, xf⟩ := HS.out.1.pa.all
    go_wp2_with (first
      | (go_at_call 104; refine (fail_any _ B c V _ HS.out.1 _ p.at_).mono ?_; rintro e wz ⟨rfl, hs⟩; have HS := Lib.hid (HS.out.trans hs); clear x0 x1 x2 x3 x4 x5 x6 x7 xf; obtain ⟨⟨x0, x1, x2, x3, x4, x5, x6, x7⟩, xf⟩ := HS.out.1.pa.all; clear hs)
      )
    go_ret
    exact ⟨rfl, HS.out⟩
set_option maxRecDepth 100000 in
set_option maxHeartbeats 4000000 in
theorem num_low_n (w : World) (B : Nat) (c : CX) (V : LV) (p : PS) (h : PM w B c V p) (least X Z : Int) (hX : parseV (numW c p) = X) (hZ : parseE (numW c p) = Z) (hd : dgT (pkT c.s p.at_) = true) (hk : pkT c.s p.at_ ≠ 48) (hz : Z = 0) (h64 : ¬ 64 < X) (hl : X < least) :
    Calls Tryz.prog 127 #[.pointer (some ⟨B, 0, none⟩), .int .i64 least] w fun e w' => e = .returned (.int .i64 0) ∧ Stp w B c V (failT c (p.to (numE c p)) 2 p.at_) w' := by
  have HS := Lib.hid h.same
  obtain ⟨⟨x0, x1, x2, x3, x4, x5, x6, x7⟩, xf⟩ := h.pa.all
  obtain ⟨hE1, hE2⟩ := numE_le hd
  obtain ⟨E, hE⟩ : ∃ E, numE c p = E := ⟨_, rfl⟩
  have h8 := h.sz
  rw [hE] at hE1 hE2
  have HN : Hid (∀ W, Calls Tryz.prog 141 #[.string (c.s.extract p.at_ E)] W fun e w' => e = .returned (.tuple #[.int .i64 X, .int .i64 Z]) ∧ w' = W) := fun W => by
    refine (parse_any (c.s.extract p.at_ E) W (by rw [ByteArray.size_extract]; unfold maxLen; omega)).mono ?_
    rintro e w' ⟨rfl, rfl⟩
    rw [← hX, ← hZ]
    unfold numW
    rw [hE]
    exact ⟨rfl, rfl⟩
  rw [hE]
  have b1 : (p.at_ : Int) ≤ E := by omega
  have b2 : (E : Int) ≤ c.s.size := by omega
  have HD : Hid (∀ W, Calls Tryz.prog 128 #[.int .i32 (pkT c.s p.at_)] W fun e w' => e = .returned (.bool true) ∧ W = w') := fun W => by rw [← hd]; exact isDigit_rx _ W
  have HA := Lib.hid (acceptByte_any w B c V p h 48 (by omega))
  unfold acbT at HA
  simp only [if_neg hk] at HA
  have HE0 : Hid (dgsT c.s c.s.size p.at_ = E) := by rw [← hE]; unfold numE; rw [if_neg hk]; rfl
  have hat := h.at_
  subst hz
  clear h hk hE hd hX hZ
  go_enter Tryz.func127, Tryz.ntmps127
  go_wp2_with (first
    | (go_at_call 91; refine (peek_any _ B c V _ HS.out.1 ).mono ?_; rintro e w' ⟨rfl, rfl⟩)
    | (go_at_call 128; with_reducible refine (HD.out _).mono ?_; rintro e w' ⟨rfl, rfl⟩)
    | (go_at_call 106; refine HA.out.mono ?_; rintro e wz ⟨rfl, hs⟩; have HS := Lib.hid hs; clear x0 x1 x2 x3 x4 x5 x6 x7 xf; obtain ⟨⟨x0, x1, x2, x3, x4, x5, x6, x7⟩, xf⟩ := HS.out.1.pa.all; clear hs)
    )
  clear x0 x1 x2 x3 x4 x5 x6 x7 xf
  go_loopg [] c.s.size (fun k wr => ∃ i : Nat, Hid (p.at_ ≤ i ∧ i ≤ c.s.size ∧ c.s.size ≤ i + k ∧ dgsT c.s k i = E) ∧ Hid (Stp w B c V (p.to i) wr))
  case atStart => exact ⟨p.at_, ⟨Nat.le_refl _, hat, by omega, HE0.out⟩, HS.out⟩
  case round =>
    obtain ⟨i, HI, HS⟩ := hrel
    clear HE0
    obtain ⟨i1, i2, i3, i4⟩ := HI.out
    obtain ⟨⟨x0, x1, x2, x3, x4, x5, x6, x7⟩, xf⟩ := HS.out.1.pa.all
    by_cases hdi : dgT (pkT c.s i) = true
    · have hil := pk_dg hdi
      have HDi : Hid (∀ W, Calls Tryz.prog 128 #[.int .i32 (pkT c.s i)] W fun e w' => e = .returned (.bool true) ∧ W = w') := fun W => by rw [← hdi]; exact isDigit_rx _ W
      have hib : (i : Int) ≤ 256 := by omega
      obtain ⟨k, hgk⟩ : ∃ k, gk = k + 1 := ⟨gk - 1, by omega⟩
      have HI2 : Hid (dgsT c.s k (i + 1) = E) := by
        rw [← i4, hgk]
        show _ = if dgT (pkT c.s i) = true then dgsT c.s k (i + 1) else i
        rw [if_pos hdi]
      have HG := Lib.hid hgk
      have HX := Lib.hid i3
      clear hdi i4 hgk i3 b1 b2
      go_wp2_with (first
        | (go_at_call 91; refine (peek_any _ B c V _ HS.out.1 ).mono ?_; rintro e w' ⟨rfl, rfl⟩)
        | (go_at_call 128; with_reducible refine (HDi.out _).mono ?_; rintro e w' ⟨rfl, rfl⟩)
        )
      go_roundg k
      case measure => have := HG.out; omega
      case rel => exact ⟨i + 1, ⟨by omega, by omega, by have := HG.out; have := HX.out; omega, HI2.out⟩, HS.out.moved (i + 1) (by omega) (by show i ≤ i + 1; omega)⟩
    · have hdi2 : dgT (pkT c.s i) = false := by simpa using hdi
      have HDi : Hid (∀ W, Calls Tryz.prog 128 #[.int .i32 (pkT c.s i)] W fun e w' => e = .returned (.bool false) ∧ W = w') := fun W => by rw [← hdi2]; exact isDigit_rx _ W
      have hiE : i = E := by
        rw [← i4]
        cases gk with
        | zero => rfl
        | succ k => show i = if dgT (pkT c.s i) = true then dgsT c.s k (i + 1) else i; rw [if_neg hdi]
      subst hiE
      clear hdi hdi2 i1 i2 i3 i4 HI
      go_upto_region 8 with (first
        | (go_at_call 91; refine (peek_any _ B c V _ HS.out.1 ).mono ?_; rintro e w' ⟨rfl, rfl⟩)
        | (go_at_call 128; with_reducible refine (HDi.out _).mono ?_; rintro e w' ⟨rfl, rfl⟩)
        )
      go_quiet ((go_at_call 141; exact Calls.quiet_of_same (HN.out _)))
      have HS := Lib.hid (HS.out.next (below_drewN (Below.refl _ _) nq))
      clear x0 x1 x2 x3 x4 x5 x6 x7 xf
      generalize World.drewN _ nq = wq at HS ⊢
      obtain ⟨⟨x0, x1, x2, x3, x4, x5, x6, x7⟩, xf⟩ := HS.out.1.pa.all
      go_wp2_with (first
        | (go_at_call 104; refine (fail_any _ B c V _ HS.out.1 _ p.at_).mono ?_; rintro e wz ⟨rfl, hs⟩; have HS := Lib.hid (HS.out.trans hs); clear x0 x1 x2 x3 x4 x5 x6 x7 xf; obtain ⟨⟨x0, x1, x2, x3, x4, x5, x6, x7⟩, xf⟩ := HS.out.1.pa.all; clear hs)
        )
      go_ret
      exact ⟨rfl, HS.out⟩
set_option maxRecDepth 100000 in
set_option maxHeartbeats 4000000 in
theorem num_ok_z (w : World) (B : Nat) (c : CX) (V : LV) (p : PS) (h : PM w B c V p) (least X Z : Int) (hX : parseV (numW c p) = X) (hZ : parseE (numW c p) = Z) (hd : dgT (pkT c.s p.at_) = true) (hk : pkT c.s p.at_ = 48) (hz : Z = 0) (h64 : ¬ 64 < X) (hl : ¬ X < least) :
    Calls Tryz.prog 127 #[.pointer (some ⟨B, 0, none⟩), .int .i64 least] w fun e w' => e = .returned (.int .i64 X) ∧ Stp w B c V (p.to (numE c p)) w' := by
  have HS := Lib.hid h.same
  obtain ⟨⟨x0, x1, x2, x3, x4, x5, x6, x7⟩, xf⟩ := h.pa.all
  obtain ⟨hE1, hE2⟩ := numE_le hd
  obtain ⟨E, hE⟩ : ∃ E, numE c p = E := ⟨_, rfl⟩
  have h8 := h.sz
  rw [hE] at hE1 hE2
  have HN : Hid (∀ W, Calls Tryz.prog 141 #[.string (c.s.extract p.at_ E)] W fun e w' => e = .returned (.tuple #[.int .i64 X, .int .i64 Z]) ∧ w' = W) := fun W => by
    refine (parse_any (c.s.extract p.at_ E) W (by rw [ByteArray.size_extract]; unfold maxLen; omega)).mono ?_
    rintro e w' ⟨rfl, rfl⟩
    rw [← hX, ← hZ]
    unfold numW
    rw [hE]
    exact ⟨rfl, rfl⟩
  rw [hE]
  have b1 : (p.at_ : Int) ≤ E := by omega
  have b2 : (E : Int) ≤ c.s.size := by omega
  have HD : Hid (∀ W, Calls Tryz.prog 128 #[.int .i32 (pkT c.s p.at_)] W fun e w' => e = .returned (.bool true) ∧ W = w') := fun W => by rw [← hd]; exact isDigit_rx _ W
  have HA := Lib.hid (acceptByte_any w B c V p h 48 (by omega))
  unfold acbT at HA
  simp only [if_pos hk] at HA
  have hE0 : p.at_ + 1 = E := by rw [← hE]; unfold numE; rw [if_pos hk]
  rw [hE0] at HA
  subst hz
  clear h hk hE0 h8 hE1 hE2 hE hd hX hZ
  go_enter Tryz.func127, Tryz.ntmps127
  go_upto_region 8 with (first
    | (go_at_call 91; refine (peek_any _ B c V _ HS.out.1 ).mono ?_; rintro e w' ⟨rfl, rfl⟩)
    | (go_at_call 128; with_reducible refine (HD.out _).mono ?_; rintro e w' ⟨rfl, rfl⟩)
    | (go_at_call 106; refine HA.out.mono ?_; rintro e wz ⟨rfl, hs⟩; have HS := Lib.hid hs; clear x0 x1 x2 x3 x4 x5 x6 x7 xf; obtain ⟨⟨x0, x1, x2, x3, x4, x5, x6, x7⟩, xf⟩ := HS.out.1.pa.all; clear hs)
    )
  · skip
    go_quiet ((go_at_call 141; exact Calls.quiet_of_same (HN.out _)))
    have HS := Lib.hid (HS.out.next (below_drewN (Below.refl _ _) nq))
    clear x0 x1 x2 x3 x4 x5 x6 x7 xf
    generalize World.drewN _ nq = wq at HS ⊢
    obtain ⟨⟨x0, x1, x2, x3, x4, x5, x6, x7⟩, xf⟩ := HS.out.1.pa.all
    go_wp2_with (first
      | (go_at_call 104; refine (fail_any _ B c V _ HS.out.1 _ p.at_).mono ?_; rintro e wz ⟨rfl, hs⟩; have HS := Lib.hid (HS.out.trans hs); clear x0 x1 x2 x3 x4 x5 x6 x7 xf; obtain ⟨⟨x0, x1, x2, x3, x4, x5, x6, x7⟩, xf⟩ := HS.out.1.pa.all; clear hs)
      )
    go_ret
    exact ⟨rfl, HS.out⟩
set_option maxRecDepth 100000 in
set_option maxHeartbeats 4000000 in
theorem num_ok_n (w : World) (B : Nat) (c : CX) (V : LV) (p : PS) (h : PM w B c V p) (least X Z : Int) (hX : parseV (numW c p) = X) (hZ : parseE (numW c p) = Z) (hd : dgT (pkT c.s p.at_) = true) (hk : pkT c.s p.at_ ≠ 48) (hz : Z = 0) (h64 : ¬ 64 < X) (hl : ¬ X < least) :
    Calls Tryz.prog 127 #[.pointer (some ⟨B, 0, none⟩), .int .i64 least] w fun e w' => e = .returned (.int .i64 X) ∧ Stp w B c V (p.to (numE c p)) w' := by
  have HS := Lib.hid h.same
  obtain ⟨⟨x0, x1, x2, x3, x4, x5, x6, x7⟩, xf⟩ := h.pa.all
  obtain ⟨hE1, hE2⟩ := numE_le hd
  obtain ⟨E, hE⟩ : ∃ E, numE c p = E := ⟨_, rfl⟩
  have h8 := h.sz
  rw [hE] at hE1 hE2
  have HN : Hid (∀ W, Calls Tryz.prog 141 #[.string (c.s.extract p.at_ E)] W fun e w' => e = .returned (.tuple #[.int .i64 X, .int .i64 Z]) ∧ w' = W) := fun W => by
    refine (parse_any (c.s.extract p.at_ E) W (by rw [ByteArray.size_extract]; unfold maxLen; omega)).mono ?_
    rintro e w' ⟨rfl, rfl⟩
    rw [← hX, ← hZ]
    unfold numW
    rw [hE]
    exact ⟨rfl, rfl⟩
  rw [hE]
  have b1 : (p.at_ : Int) ≤ E := by omega
  have b2 : (E : Int) ≤ c.s.size := by omega
  have HD : Hid (∀ W, Calls Tryz.prog 128 #[.int .i32 (pkT c.s p.at_)] W fun e w' => e = .returned (.bool true) ∧ W = w') := fun W => by rw [← hd]; exact isDigit_rx _ W
  have HA := Lib.hid (acceptByte_any w B c V p h 48 (by omega))
  unfold acbT at HA
  simp only [if_neg hk] at HA
  have HE0 : Hid (dgsT c.s c.s.size p.at_ = E) := by rw [← hE]; unfold numE; rw [if_neg hk]; rfl
  have hat := h.at_
  subst hz
  clear h hk hE hd hX hZ
  go_enter Tryz.func127, Tryz.ntmps127
  go_wp2_with (first
    | (go_at_call 91; refine (peek_any _ B c V _ HS.out.1 ).mono ?_; rintro e w' ⟨rfl, rfl⟩)
    | (go_at_call 128; with_reducible refine (HD.out _).mono ?_; rintro e w' ⟨rfl, rfl⟩)
    | (go_at_call 106; refine HA.out.mono ?_; rintro e wz ⟨rfl, hs⟩; have HS := Lib.hid hs; clear x0 x1 x2 x3 x4 x5 x6 x7 xf; obtain ⟨⟨x0, x1, x2, x3, x4, x5, x6, x7⟩, xf⟩ := HS.out.1.pa.all; clear hs)
    )
  clear x0 x1 x2 x3 x4 x5 x6 x7 xf
  go_loopg [] c.s.size (fun k wr => ∃ i : Nat, Hid (p.at_ ≤ i ∧ i ≤ c.s.size ∧ c.s.size ≤ i + k ∧ dgsT c.s k i = E) ∧ Hid (Stp w B c V (p.to i) wr))
  case atStart => exact ⟨p.at_, ⟨Nat.le_refl _, hat, by omega, HE0.out⟩, HS.out⟩
  case round =>
    obtain ⟨i, HI, HS⟩ := hrel
    clear HE0
    obtain ⟨i1, i2, i3, i4⟩ := HI.out
    obtain ⟨⟨x0, x1, x2, x3, x4, x5, x6, x7⟩, xf⟩ := HS.out.1.pa.all
    by_cases hdi : dgT (pkT c.s i) = true
    · have hil := pk_dg hdi
      have HDi : Hid (∀ W, Calls Tryz.prog 128 #[.int .i32 (pkT c.s i)] W fun e w' => e = .returned (.bool true) ∧ W = w') := fun W => by rw [← hdi]; exact isDigit_rx _ W
      have hib : (i : Int) ≤ 256 := by omega
      obtain ⟨k, hgk⟩ : ∃ k, gk = k + 1 := ⟨gk - 1, by omega⟩
      have HI2 : Hid (dgsT c.s k (i + 1) = E) := by
        rw [← i4, hgk]
        show _ = if dgT (pkT c.s i) = true then dgsT c.s k (i + 1) else i
        rw [if_pos hdi]
      have HG := Lib.hid hgk
      have HX := Lib.hid i3
      clear hdi i4 hgk i3 b1 b2
      go_wp2_with (first
        | (go_at_call 91; refine (peek_any _ B c V _ HS.out.1 ).mono ?_; rintro e w' ⟨rfl, rfl⟩)
        | (go_at_call 128; with_reducible refine (HDi.out _).mono ?_; rintro e w' ⟨rfl, rfl⟩)
        )
      go_roundg k
      case measure => have := HG.out; omega
      case rel => exact ⟨i + 1, ⟨by omega, by omega, by have := HG.out; have := HX.out; omega, HI2.out⟩, HS.out.moved (i + 1) (by omega) (by show i ≤ i + 1; omega)⟩
    · have hdi2 : dgT (pkT c.s i) = false := by simpa using hdi
      have HDi : Hid (∀ W, Calls Tryz.prog 128 #[.int .i32 (pkT c.s i)] W fun e w' => e = .returned (.bool false) ∧ W = w') := fun W => by rw [← hdi2]; exact isDigit_rx _ W
      have hiE : i = E := by
        rw [← i4]
        cases gk with
        | zero => rfl
        | succ k => show i = if dgT (pkT c.s i) = true then dgsT c.s k (i + 1) else i; rw [if_neg hdi]
      subst hiE
      clear hdi hdi2 i1 i2 i3 i4 HI
      go_upto_region 8 with (first
        | (go_at_call 91; refine (peek_any _ B c V _ HS.out.1 ).mono ?_; rintro e w' ⟨rfl, rfl⟩)
        | (go_at_call 128; with_reducible refine (HDi.out _).mono ?_; rintro e w' ⟨rfl, rfl⟩)
        )
      go_quiet ((go_at_call 141; exact Calls.quiet_of_same (HN.out _)))
      have HS := Lib.hid (HS.out.next (below_drewN (Below.refl _ _) nq))
      clear x0 x1 x2 x3 x4 x5 x6 x7 xf
      generalize World.drewN _ nq = wq at HS ⊢
      obtain ⟨⟨x0, x1, x2, x3, x4, x5, x6, x7⟩, xf⟩ := HS.out.1.pa.all
      go_wp2_with (first
        | (go_at_call 104; refine (fail_any _ B c V _ HS.out.1 _ p.at_).mono ?_; rintro e wz ⟨rfl, hs⟩; have HS := Lib.hid (HS.out.trans hs); clear x0 x1 x2 x3 x4 x5 x6 x7 xf; obtain ⟨⟨x0, x1, x2, x3, x4, x5, x6, x7⟩, xf⟩ := HS.out.1.pa.all; clear hs)
        )
      go_ret
      exact ⟨rfl, HS.out⟩
theorem number_any (w : World) (B : Nat) (c : CX) (V : LV) (p : PS) (h : PM w B c V p) (least : Int) :
    Calls Tryz.prog 127 #[.pointer (some ⟨B, 0, none⟩), .int .i64 least] w fun e w' => e = .returned (.int .i64 (nmrT c least p).1) ∧ Stp w B c V (nmrT c least p).2 w' := by
  unfold nmrT
  by_cases hd : dgT (pkT c.s p.at_) = true
  · rw [if_pos hd]
    by_cases hk : pkT c.s p.at_ = 48
    · by_cases hz : parseE (numW c p) = 0
      · by_cases h64 : 64 < parseV (numW c p)
        · rw [if_pos (.inr h64)]
          exact num_bad2_z w B c V p h least _ _ rfl rfl hd hk hz h64
        · rw [if_neg (by rintro (e | e); exact e hz; exact h64 e)]
          by_cases hl : parseV (numW c p) < least
          · rw [if_pos hl]
            exact num_low_z w B c V p h least _ _ rfl rfl hd hk hz h64 hl
          · rw [if_neg hl]
            exact num_ok_z w B c V p h least _ _ rfl rfl hd hk hz h64 hl
      · rw [if_pos (.inl hz)]
        exact num_bad1_z w B c V p h least _ _ rfl rfl hd hk hz
    · by_cases hz : parseE (numW c p) = 0
      · by_cases h64 : 64 < parseV (numW c p)
        · rw [if_pos (.inr h64)]
          exact num_bad2_n w B c V p h least _ _ rfl rfl hd hk hz h64
        · rw [if_neg (by rintro (e | e); exact e hz; exact h64 e)]
          by_cases hl : parseV (numW c p) < least
          · rw [if_pos hl]
            exact num_low_n w B c V p h least _ _ rfl rfl hd hk hz h64 hl
          · rw [if_neg hl]
            exact num_ok_n w B c V p h least _ _ rfl rfl hd hk hz h64 hl
      · rw [if_pos (.inl hz)]
        exact num_bad1_n w B c V p h least _ _ rfl rfl hd hk hz
  · rw [if_neg hd]
    exact num_none w B c V p h least (by simpa using hd)
end Go.Proofs.YtphiaagppcbefaaGreatDoor
