/- RxG, RxOf, RxI. -/
import Derived.Test.YtphiaagppcbefaaGreatDoorPs17
import Derived.StillTailTactics
import Derived.Deep.CutRange
import Derived.Deep.Cut
import Derived.Deep.DeepCutAuto
import Derived.Test.YtphiaagppcbefaaGreatDoorPs7
import Derived.Test.YtphiaagppcbefaaGreatDoorPs6
import Derived.Test.YtphiaagppcbefaaGreatDoorPs10
import Derived.Deep.RegionHeld
import Derived.Deep.RegionHeld3
set_option linter.unusedVariables false
namespace Go.Proofs.YtphiaagppcbefaaGreatDoor
open Go.RowKit
set_option maxHeartbeats 4000000 in
theorem enclosed_any (w : World) (B : Nat) (c : CX) (V : LV) (p : PS) (h : PM w B c V p) (m : Int) (hm : 0 ≤ m) :
    Calls Tryz.prog 131 #[.pointer (some ⟨B, 0, none⟩), .int .i32 m] w fun e w' => e = .returned (.int .u8 (encT c m p).1) ∧ Stp w B c V (encT c m p).2 w' := by
  have HS := Lib.hid h.same
  obtain ⟨⟨x0, x1, x2, x3, x4, x5, x6, x7⟩, xf⟩ := h.pa.all
  have h91 : (0 : Int) ≤ 91 := by omega
  have h93 : (0 : Int) ≤ 93 := by omega
  unfold encT
  clear h
  go_enter Tryz.func131, Tryz.ntmps131
  go_wp2_with (first
    | (go_at_call 109; refine (expectByte_any _ B c V _ HS.out.1 _ (by assumption)).mono ?_; rintro e wz ⟨rfl, hs⟩; have HS := Lib.hid (HS.out.trans hs); clear x0 x1 x2 x3 x4 x5 x6 x7 xf; obtain ⟨⟨x0, x1, x2, x3, x4, x5, x6, x7⟩, xf⟩ := HS.out.1.pa.all; clear hs)
    | (go_at_call 145; refine (anyByte_any _ B c V _ HS.out.1 ).mono ?_; rintro e wz ⟨rfl, hs⟩; have HS := Lib.hid (HS.out.trans hs); clear x0 x1 x2 x3 x4 x5 x6 x7 xf; obtain ⟨⟨x0, x1, x2, x3, x4, x5, x6, x7⟩, xf⟩ := HS.out.1.pa.all; clear hs)
    )
  go_ret
  exact ⟨rfl, HS.out⟩
theorem acceptByte_yes (w : World) (B : Nat) (c : CX) (V : LV) (p : PS) (h : PM w B c V p) (x : Int) (hx : 0 ≤ x) (hk : pkT c.s p.at_ = x) :
    Calls Tryz.prog 106 #[.pointer (some ⟨B, 0, none⟩), .int .i32 x] w fun e w' => e = .returned (.bool true) ∧ Stp w B c V (p.to (p.at_ + 1)) w' := by
  have := acceptByte_any w B c V p h x hx
  unfold acbT at this
  simpa only [if_pos hk] using this
theorem acceptByte_no (w : World) (B : Nat) (c : CX) (V : LV) (p : PS) (h : PM w B c V p) (x : Int) (hx : 0 ≤ x) (hk : pkT c.s p.at_ ≠ x) :
    Calls Tryz.prog 106 #[.pointer (some ⟨B, 0, none⟩), .int .i32 x] w fun e w' => e = .returned (.bool false) ∧ Stp w B c V p w' := by
  have := acceptByte_any w B c V p h x hx
  unfold acbT at this
  simpa only [if_neg hk] using this
theorem has_is (w : World) (B : Nat) (c : CX) (V : LV) (p : PS) (h : PM w B c V p) (k : Int) (E : Bool) (hE : flg c.fl k = E) :
    Calls Tryz.prog 110 #[.pointer (some ⟨B, 0, none⟩), .int .i64 k] w fun e w' => e = .returned (.bool E) ∧ w = w' := by
  rw [← hE]
  exact has_any w B c V p h k
theorem isDigit_is (x : Int) (E : Bool) (hE : dgT x = E) (w : World) : Calls Tryz.prog 128 #[.int .i32 x] w fun e w' => e = .returned (.bool E) ∧ w = w' := by
  rw [← hE]
  exact isDigit_rx x w
set_option maxHeartbeats 4000000 in
theorem bnd_111 (w : World) (B : Nat) (c : CX) (V : LV) (p : PS) (h : PM w B c V p) (a1 : Int) (q0 : PS) (hr : nmrT c 0 p = (a1, q0)) (hk : pkT c.s q0.at_ = 44) (hd : dgT (pkT c.s (q0.at_ + 1)) = true) (b1 : Int) (q2 : PS) (hr2 : nmrT c a1 (q0.to (q0.at_ + 1)) = (b1, q2)) (hE : flg c.fl 1 = true) :
    Calls Tryz.prog 103 #[.pointer (some ⟨B, 0, none⟩)] w fun e w' => e = .returned (.tuple #[.int .i64 a1, .int .i64 b1]) ∧ Stp w B c V (expT c 125 q2) w' := by
  have HS := Lib.hid h.same
  obtain ⟨⟨x0, x1, x2, x3, x4, x5, x6, x7⟩, xf⟩ := h.pa.all
  have HN1 : Hid (Calls Tryz.prog 127 #[.pointer (some ⟨B, 0, none⟩), .int .i64 0] w fun e w' => e = .returned (.int .i64 a1) ∧ Stp w B c V q0 w') := by
    have := number_any w B c V p h 0
    rw [hr] at this
    exact this
  have HK := Lib.hid (fun W h => acceptByte_yes W B c V q0 h 44 (by omega) hk)
  have HD := Lib.hid (isDigit_is (pkT c.s (q0.at_ + 1)) _ hd)
  have HN2 : Hid (∀ W, PM W B c V (q0.to (q0.at_ + 1)) → Calls Tryz.prog 127 #[.pointer (some ⟨B, 0, none⟩), .int .i64 a1] W fun e w' => e = .returned (.int .i64 b1) ∧ Stp W B c V q2 w') := fun W h => by
    have := number_any W B c V _ h a1
    rw [hr2] at this
    exact this
  have HH := Lib.hid (fun W q h => has_is W B c V q h 1 _ hE)
  have h92 : (0 : Int) ≤ 92 := by omega
  have h125 : (0 : Int) ≤ 125 := by omega
  clear h hr hk hE hd hr2
  go_enter Tryz.func103, Tryz.ntmps103
  go_wp2_with (first
    | (go_at_call 127; (with_reducible refine (HN1.out).mono ?_); rintro e wz ⟨rfl, hs⟩; have HS := Lib.hid (HS.out.trans hs); clear x0 x1 x2 x3 x4 x5 x6 x7 xf; obtain ⟨⟨x0, x1, x2, x3, x4, x5, x6, x7⟩, xf⟩ := HS.out.1.pa.all; clear hs)
    | (go_at_call 127; refine (HN2.out _ HS.out.1).mono ?_; rintro e wz ⟨rfl, hs⟩; have HS := Lib.hid (HS.out.trans hs); clear x0 x1 x2 x3 x4 x5 x6 x7 xf; obtain ⟨⟨x0, x1, x2, x3, x4, x5, x6, x7⟩, xf⟩ := HS.out.1.pa.all; clear hs)
    | (go_at_call 106; refine (HK.out _ HS.out.1).mono ?_; rintro e wz ⟨rfl, hs⟩; have HS := Lib.hid (HS.out.trans hs); clear x0 x1 x2 x3 x4 x5 x6 x7 xf; obtain ⟨⟨x0, x1, x2, x3, x4, x5, x6, x7⟩, xf⟩ := HS.out.1.pa.all; clear hs)
    | (go_at_call 91; refine (peek_any _ B c V _ HS.out.1 ).mono ?_; rintro e w' ⟨rfl, rfl⟩)
    | (go_at_call 128; refine (HD.out _).mono ?_; rintro e w' ⟨rfl, rfl⟩)
    | (go_at_call 110; refine (HH.out _ _ HS.out.1).mono ?_; rintro e w' ⟨rfl, rfl⟩)
    | (go_at_call 109; refine (expectByte_any _ B c V _ HS.out.1 _ (by assumption)).mono ?_; rintro e wz ⟨rfl, hs⟩; have HS := Lib.hid (HS.out.trans hs); clear x0 x1 x2 x3 x4 x5 x6 x7 xf; obtain ⟨⟨x0, x1, x2, x3, x4, x5, x6, x7⟩, xf⟩ := HS.out.1.pa.all; clear hs)
    )
  go_ret2
  exact ⟨rfl, HS.out⟩
set_option maxHeartbeats 4000000 in
theorem bnd_110 (w : World) (B : Nat) (c : CX) (V : LV) (p : PS) (h : PM w B c V p) (a1 : Int) (q0 : PS) (hr : nmrT c 0 p = (a1, q0)) (hk : pkT c.s q0.at_ = 44) (hd : dgT (pkT c.s (q0.at_ + 1)) = true) (b1 : Int) (q2 : PS) (hr2 : nmrT c a1 (q0.to (q0.at_ + 1)) = (b1, q2)) (hE : flg c.fl 1 = false) :
    Calls Tryz.prog 103 #[.pointer (some ⟨B, 0, none⟩)] w fun e w' => e = .returned (.tuple #[.int .i64 a1, .int .i64 b1]) ∧ Stp w B c V (expT c 125 (expT c 92 q2)) w' := by
  have HS := Lib.hid h.same
  obtain ⟨⟨x0, x1, x2, x3, x4, x5, x6, x7⟩, xf⟩ := h.pa.all
  have HN1 : Hid (Calls Tryz.prog 127 #[.pointer (some ⟨B, 0, none⟩), .int .i64 0] w fun e w' => e = .returned (.int .i64 a1) ∧ Stp w B c V q0 w') := by
    have := number_any w B c V p h 0
    rw [hr] at this
    exact this
  have HK := Lib.hid (fun W h => acceptByte_yes W B c V q0 h 44 (by omega) hk)
  have HD := Lib.hid (isDigit_is (pkT c.s (q0.at_ + 1)) _ hd)
  have HN2 : Hid (∀ W, PM W B c V (q0.to (q0.at_ + 1)) → Calls Tryz.prog 127 #[.pointer (some ⟨B, 0, none⟩), .int .i64 a1] W fun e w' => e = .returned (.int .i64 b1) ∧ Stp W B c V q2 w') := fun W h => by
    have := number_any W B c V _ h a1
    rw [hr2] at this
    exact this
  have HH := Lib.hid (fun W q h => has_is W B c V q h 1 _ hE)
  have h92 : (0 : Int) ≤ 92 := by omega
  have h125 : (0 : Int) ≤ 125 := by omega
  clear h hr hk hE hd hr2
  go_enter Tryz.func103, Tryz.ntmps103
  go_wp2_with (first
    | (go_at_call 127; (with_reducible refine (HN1.out).mono ?_); rintro e wz ⟨rfl, hs⟩; have HS := Lib.hid (HS.out.trans hs); clear x0 x1 x2 x3 x4 x5 x6 x7 xf; obtain ⟨⟨x0, x1, x2, x3, x4, x5, x6, x7⟩, xf⟩ := HS.out.1.pa.all; clear hs)
    | (go_at_call 127; refine (HN2.out _ HS.out.1).mono ?_; rintro e wz ⟨rfl, hs⟩; have HS := Lib.hid (HS.out.trans hs); clear x0 x1 x2 x3 x4 x5 x6 x7 xf; obtain ⟨⟨x0, x1, x2, x3, x4, x5, x6, x7⟩, xf⟩ := HS.out.1.pa.all; clear hs)
    | (go_at_call 106; refine (HK.out _ HS.out.1).mono ?_; rintro e wz ⟨rfl, hs⟩; have HS := Lib.hid (HS.out.trans hs); clear x0 x1 x2 x3 x4 x5 x6 x7 xf; obtain ⟨⟨x0, x1, x2, x3, x4, x5, x6, x7⟩, xf⟩ := HS.out.1.pa.all; clear hs)
    | (go_at_call 91; refine (peek_any _ B c V _ HS.out.1 ).mono ?_; rintro e w' ⟨rfl, rfl⟩)
    | (go_at_call 128; refine (HD.out _).mono ?_; rintro e w' ⟨rfl, rfl⟩)
    | (go_at_call 110; refine (HH.out _ _ HS.out.1).mono ?_; rintro e w' ⟨rfl, rfl⟩)
    | (go_at_call 109; refine (expectByte_any _ B c V _ HS.out.1 _ (by assumption)).mono ?_; rintro e wz ⟨rfl, hs⟩; have HS := Lib.hid (HS.out.trans hs); clear x0 x1 x2 x3 x4 x5 x6 x7 xf; obtain ⟨⟨x0, x1, x2, x3, x4, x5, x6, x7⟩, xf⟩ := HS.out.1.pa.all; clear hs)
    )
  go_ret2
  exact ⟨rfl, HS.out⟩
set_option maxHeartbeats 4000000 in
theorem bnd_101 (w : World) (B : Nat) (c : CX) (V : LV) (p : PS) (h : PM w B c V p) (a1 : Int) (q0 : PS) (hr : nmrT c 0 p = (a1, q0)) (hk : pkT c.s q0.at_ = 44) (hd : dgT (pkT c.s (q0.at_ + 1)) = false) (hE : flg c.fl 1 = true) :
    Calls Tryz.prog 103 #[.pointer (some ⟨B, 0, none⟩)] w fun e w' => e = .returned (.tuple #[.int .i64 a1, .int .i64 (-1)]) ∧ Stp w B c V (expT c 125 (q0.to (q0.at_ + 1))) w' := by
  have HS := Lib.hid h.same
  obtain ⟨⟨x0, x1, x2, x3, x4, x5, x6, x7⟩, xf⟩ := h.pa.all
  have HN1 : Hid (Calls Tryz.prog 127 #[.pointer (some ⟨B, 0, none⟩), .int .i64 0] w fun e w' => e = .returned (.int .i64 a1) ∧ Stp w B c V q0 w') := by
    have := number_any w B c V p h 0
    rw [hr] at this
    exact this
  have HK := Lib.hid (fun W h => acceptByte_yes W B c V q0 h 44 (by omega) hk)
  have HD := Lib.hid (isDigit_is (pkT c.s (q0.at_ + 1)) _ hd)
  have HH := Lib.hid (fun W q h => has_is W B c V q h 1 _ hE)
  have h92 : (0 : Int) ≤ 92 := by omega
  have h125 : (0 : Int) ≤ 125 := by omega
  clear h hr hk hE hd 
  go_enter Tryz.func103, Tryz.ntmps103
  go_wp2_with (first
    | (go_at_call 127; (with_reducible refine (HN1.out).mono ?_); rintro e wz ⟨rfl, hs⟩; have HS := Lib.hid (HS.out.trans hs); clear x0 x1 x2 x3 x4 x5 x6 x7 xf; obtain ⟨⟨x0, x1, x2, x3, x4, x5, x6, x7⟩, xf⟩ := HS.out.1.pa.all; clear hs)
    | (go_at_call 106; refine (HK.out _ HS.out.1).mono ?_; rintro e wz ⟨rfl, hs⟩; have HS := Lib.hid (HS.out.trans hs); clear x0 x1 x2 x3 x4 x5 x6 x7 xf; obtain ⟨⟨x0, x1, x2, x3, x4, x5, x6, x7⟩, xf⟩ := HS.out.1.pa.all; clear hs)
    | (go_at_call 91; refine (peek_any _ B c V _ HS.out.1 ).mono ?_; rintro e w' ⟨rfl, rfl⟩)
    | (go_at_call 128; refine (HD.out _).mono ?_; rintro e w' ⟨rfl, rfl⟩)
    | (go_at_call 110; refine (HH.out _ _ HS.out.1).mono ?_; rintro e w' ⟨rfl, rfl⟩)
    | (go_at_call 109; refine (expectByte_any _ B c V _ HS.out.1 _ (by assumption)).mono ?_; rintro e wz ⟨rfl, hs⟩; have HS := Lib.hid (HS.out.trans hs); clear x0 x1 x2 x3 x4 x5 x6 x7 xf; obtain ⟨⟨x0, x1, x2, x3, x4, x5, x6, x7⟩, xf⟩ := HS.out.1.pa.all; clear hs)
    )
  go_ret2
  exact ⟨rfl, HS.out⟩
set_option maxHeartbeats 4000000 in
theorem bnd_100 (w : World) (B : Nat) (c : CX) (V : LV) (p : PS) (h : PM w B c V p) (a1 : Int) (q0 : PS) (hr : nmrT c 0 p = (a1, q0)) (hk : pkT c.s q0.at_ = 44) (hd : dgT (pkT c.s (q0.at_ + 1)) = false) (hE : flg c.fl 1 = false) :
    Calls Tryz.prog 103 #[.pointer (some ⟨B, 0, none⟩)] w fun e w' => e = .returned (.tuple #[.int .i64 a1, .int .i64 (-1)]) ∧ Stp w B c V (expT c 125 (expT c 92 (q0.to (q0.at_ + 1)))) w' := by
  have HS := Lib.hid h.same
  obtain ⟨⟨x0, x1, x2, x3, x4, x5, x6, x7⟩, xf⟩ := h.pa.all
  have HN1 : Hid (Calls Tryz.prog 127 #[.pointer (some ⟨B, 0, none⟩), .int .i64 0] w fun e w' => e = .returned (.int .i64 a1) ∧ Stp w B c V q0 w') := by
    have := number_any w B c V p h 0
    rw [hr] at this
    exact this
  have HK := Lib.hid (fun W h => acceptByte_yes W B c V q0 h 44 (by omega) hk)
  have HD := Lib.hid (isDigit_is (pkT c.s (q0.at_ + 1)) _ hd)
  have HH := Lib.hid (fun W q h => has_is W B c V q h 1 _ hE)
  have h92 : (0 : Int) ≤ 92 := by omega
  have h125 : (0 : Int) ≤ 125 := by omega
  clear h hr hk hE hd 
  go_enter Tryz.func103, Tryz.ntmps103
  go_wp2_with (first
    | (go_at_call 127; (with_reducible refine (HN1.out).mono ?_); rintro e wz ⟨rfl, hs⟩; have HS := Lib.hid (HS.out.trans hs); clear x0 x1 x2 x3 x4 x5 x6 x7 xf; obtain ⟨⟨x0, x1, x2, x3, x4, x5, x6, x7⟩, xf⟩ := HS.out.1.pa.all; clear hs)
    | (go_at_call 106; refine (HK.out _ HS.out.1).mono ?_; rintro e wz ⟨rfl, hs⟩; have HS := Lib.hid (HS.out.trans hs); clear x0 x1 x2 x3 x4 x5 x6 x7 xf; obtain ⟨⟨x0, x1, x2, x3, x4, x5, x6, x7⟩, xf⟩ := HS.out.1.pa.all; clear hs)
    | (go_at_call 91; refine (peek_any _ B c V _ HS.out.1 ).mono ?_; rintro e w' ⟨rfl, rfl⟩)
    | (go_at_call 128; refine (HD.out _).mono ?_; rintro e w' ⟨rfl, rfl⟩)
    | (go_at_call 110; refine (HH.out _ _ HS.out.1).mono ?_; rintro e w' ⟨rfl, rfl⟩)
    | (go_at_call 109; refine (expectByte_any _ B c V _ HS.out.1 _ (by assumption)).mono ?_; rintro e wz ⟨rfl, hs⟩; have HS := Lib.hid (HS.out.trans hs); clear x0 x1 x2 x3 x4 x5 x6 x7 xf; obtain ⟨⟨x0, x1, x2, x3, x4, x5, x6, x7⟩, xf⟩ := HS.out.1.pa.all; clear hs)
    )
  go_ret2
  exact ⟨rfl, HS.out⟩
set_option maxHeartbeats 4000000 in
theorem bnd_001 (w : World) (B : Nat) (c : CX) (V : LV) (p : PS) (h : PM w B c V p) (a1 : Int) (q0 : PS) (hr : nmrT c 0 p = (a1, q0)) (hk : pkT c.s q0.at_ ≠ 44) (hE : flg c.fl 1 = true) :
    Calls Tryz.prog 103 #[.pointer (some ⟨B, 0, none⟩)] w fun e w' => e = .returned (.tuple #[.int .i64 a1, .int .i64 a1]) ∧ Stp w B c V (expT c 125 q0) w' := by
  have HS := Lib.hid h.same
  obtain ⟨⟨x0, x1, x2, x3, x4, x5, x6, x7⟩, xf⟩ := h.pa.all
  have HN1 : Hid (Calls Tryz.prog 127 #[.pointer (some ⟨B, 0, none⟩), .int .i64 0] w fun e w' => e = .returned (.int .i64 a1) ∧ Stp w B c V q0 w') := by
    have := number_any w B c V p h 0
    rw [hr] at this
    exact this
  have HK := Lib.hid (fun W h => acceptByte_no W B c V q0 h 44 (by omega) hk)
  have HH := Lib.hid (fun W q h => has_is W B c V q h 1 _ hE)
  have h92 : (0 : Int) ≤ 92 := by omega
  have h125 : (0 : Int) ≤ 125 := by omega
  clear h hr hk hE  
  go_enter Tryz.func103, Tryz.ntmps103
  go_wp2_with (first
    | (go_at_call 127; (with_reducible refine (HN1.out).mono ?_); rintro e wz ⟨rfl, hs⟩; have HS := Lib.hid (HS.out.trans hs); clear x0 x1 x2 x3 x4 x5 x6 x7 xf; obtain ⟨⟨x0, x1, x2, x3, x4, x5, x6, x7⟩, xf⟩ := HS.out.1.pa.all; clear hs)
    | (go_at_call 106; refine (HK.out _ HS.out.1).mono ?_; rintro e wz ⟨rfl, hs⟩; have HS := Lib.hid (HS.out.trans hs); clear x0 x1 x2 x3 x4 x5 x6 x7 xf; obtain ⟨⟨x0, x1, x2, x3, x4, x5, x6, x7⟩, xf⟩ := HS.out.1.pa.all; clear hs)
    | (go_at_call 110; refine (HH.out _ _ HS.out.1).mono ?_; rintro e w' ⟨rfl, rfl⟩)
    | (go_at_call 109; refine (expectByte_any _ B c V _ HS.out.1 _ (by assumption)).mono ?_; rintro e wz ⟨rfl, hs⟩; have HS := Lib.hid (HS.out.trans hs); clear x0 x1 x2 x3 x4 x5 x6 x7 xf; obtain ⟨⟨x0, x1, x2, x3, x4, x5, x6, x7⟩, xf⟩ := HS.out.1.pa.all; clear hs)
    )
  go_ret2
  exact ⟨rfl, HS.out⟩
set_option maxHeartbeats 4000000 in
theorem bnd_000 (w : World) (B : Nat) (c : CX) (V : LV) (p : PS) (h : PM w B c V p) (a1 : Int) (q0 : PS) (hr : nmrT c 0 p = (a1, q0)) (hk : pkT c.s q0.at_ ≠ 44) (hE : flg c.fl 1 = false) :
    Calls Tryz.prog 103 #[.pointer (some ⟨B, 0, none⟩)] w fun e w' => e = .returned (.tuple #[.int .i64 a1, .int .i64 a1]) ∧ Stp w B c V (expT c 125 (expT c 92 q0)) w' := by
  have HS := Lib.hid h.same
  obtain ⟨⟨x0, x1, x2, x3, x4, x5, x6, x7⟩, xf⟩ := h.pa.all
  have HN1 : Hid (Calls Tryz.prog 127 #[.pointer (some ⟨B, 0, none⟩), .int .i64 0] w fun e w' => e = .returned (.int .i64 a1) ∧ Stp w B c V q0 w') := by
    have := number_any w B c V p h 0
    rw [hr] at this
    exact this
  have HK := Lib.hid (fun W h => acceptByte_no W B c V q0 h 44 (by omega) hk)
  have HH := Lib.hid (fun W q h => has_is W B c V q h 1 _ hE)
  have h92 : (0 : Int) ≤ 92 := by omega
  have h125 : (0 : Int) ≤ 125 := by omega
  clear h hr hk hE  
  go_enter Tryz.func103, Tryz.ntmps103
  go_wp2_with (first
    | (go_at_call 127; (with_reducible refine (HN1.out).mono ?_); rintro e wz ⟨rfl, hs⟩; have HS := Lib.hid (HS.out.trans hs); clear x0 x1 x2 x3 x4 x5 x6 x7 xf; obtain ⟨⟨x0, x1, x2, x3, x4, x5, x6, x7⟩, xf⟩ := HS.out.1.pa.all; clear hs)
    | (go_at_call 106; refine (HK.out _ HS.out.1).mono ?_; rintro e wz ⟨rfl, hs⟩; have HS := Lib.hid (HS.out.trans hs); clear x0 x1 x2 x3 x4 x5 x6 x7 xf; obtain ⟨⟨x0, x1, x2, x3, x4, x5, x6, x7⟩, xf⟩ := HS.out.1.pa.all; clear hs)
    | (go_at_call 110; refine (HH.out _ _ HS.out.1).mono ?_; rintro e w' ⟨rfl, rfl⟩)
    | (go_at_call 109; refine (expectByte_any _ B c V _ HS.out.1 _ (by assumption)).mono ?_; rintro e wz ⟨rfl, hs⟩; have HS := Lib.hid (HS.out.trans hs); clear x0 x1 x2 x3 x4 x5 x6 x7 xf; obtain ⟨⟨x0, x1, x2, x3, x4, x5, x6, x7⟩, xf⟩ := HS.out.1.pa.all; clear hs)
    )
  go_ret2
  exact ⟨rfl, HS.out⟩
theorem bounds_any (w : World) (B : Nat) (c : CX) (V : LV) (p : PS) (h : PM w B c V p) :
    Calls Tryz.prog 103 #[.pointer (some ⟨B, 0, none⟩)] w fun e w' => e = .returned (.tuple #[.int .i64 (bndT c p).1.1, .int .i64 (bndT c p).1.2]) ∧ Stp w B c V (bndT c p).2 w' := by
  obtain ⟨⟨a1, q0⟩, hr⟩ : ∃ r, nmrT c 0 p = r := ⟨_, rfl⟩
  unfold bndT bndE CX.ext
  rw [hr]
  by_cases hk : pkT c.s q0.at_ = 44
  · simp only [if_pos hk]
    by_cases hd : dgT (pkT c.s (q0.at_ + 1)) = true
    · obtain ⟨⟨b1, q2⟩, hr2⟩ : ∃ r, nmrT c a1 (q0.to (q0.at_ + 1)) = r := ⟨_, rfl⟩
      have hr3 := hr2
      unfold PS.to at hr3
      simp only [if_pos hd, hr3]
      by_cases hE : flg c.fl 1 = true
      · simp only [if_pos hE]
        exact bnd_111 w B c V p h a1 q0 hr hk hd b1 q2 hr2 hE
      · simp only [if_neg hE]
        exact bnd_110 w B c V p h a1 q0 hr hk hd b1 q2 hr2 (by simpa using hE)
    · simp only [if_neg hd]
      by_cases hE : flg c.fl 1 = true
      · simp only [if_pos hE]
        exact bnd_101 w B c V p h a1 q0 hr hk (by simpa using hd) hE
      · simp only [if_neg hE]
        exact bnd_100 w B c V p h a1 q0 hr hk (by simpa using hd) (by simpa using hE)
  · simp only [if_neg hk]
    by_cases hE : flg c.fl 1 = true
    · simp only [if_pos hE]
      exact bnd_001 w B c V p h a1 q0 hr hk hE
    · simp only [if_neg hE]
      exact bnd_000 w B c V p h a1 q0 hr hk (by simpa using hE)
end Go.Proofs.YtphiaagppcbefaaGreatDoor
set_option linter.unusedVariables false
namespace Go.Proofs.YtphiaagppcbefaaGreatDoor
open Go.RowKit
set_option maxHeartbeats 4000000 in
theorem ofw_any (s : ByteArray) (hs : s.size ≤ 1000) (w : World) : Calls Tryz.prog 112 #[.string s] w fun e w' => e = .returned (cs (setOf s.data.toList)) ∧ Below w.heap.size w w' := by
  have HV := Lib.hid (V2_at w)
  have HB := Lib.hid (V2_below w)
  unfold cs cl
  have hS : (s.size : Int) ≤ 1000 := by omega
  go_enter Tryz.func112, Tryz.ntmps112
  go_wp2
  go_loopw [7] (fun i wr => ∃ k : Nat, k ≤ s.size ∧ i = .int .i64 k ∧ Hid (Below w.heap.size w wr ∧ At wr w.heap.size (fun _ => false) ∧ At wr (w.heap.size + 1) (setOf (s.data.toList.take k)))) (fun i _ => s.size - (intOf i).toNat)
  case atStart => exact ⟨0, Nat.zero_le _, rfl, HB.out, HV.out.1, HV.out.2⟩
  case round =>
    obtain ⟨k, hk, rfl, HR⟩ := hrel
    by_cases hlt : k < s.size
    · have hi : (k : Int) < s.size := by omega
      obtain ⟨c, hsc⟩ : ∃ c, s[k].toNat = c := ⟨_, rfl⟩
      have hc : c < 256 := by rw [← hsc]; exact s[k].toNat_lt
      have HN0 := Lib.hid (setOf_next s.data.toList k (by simpa using hlt))
      have e : (s.data.toList[k]'(by simpa using hlt)).toNat = c := hsc
      rw [e] at HN0
      obtain ⟨j, hj⟩ : ∃ j, c / 64 = j := ⟨_, rfl⟩
      have hj4 : j < 4 := by omega
      have hq : (c : Int) / 64 = (j : Int) := by omega
      have hz : IntKind.u8.wrap (j : Int) = (j : Int) := IntWalk.u8_in _ (by omega)
      have hj0 : (j : Int) < 4 := by omega
      obtain ⟨b0, a3, a4⟩ := HR.out
      have c4 := a4.got j hj4
      have f4 := a4.free
      have hk2 := or_ins (setOf (s.data.toList.take k)) c j hj
      have HN := Lib.hid (a4.word (setOf (s.data.toList.take (k + 1))) j hj4 (by rw [HN0.out, ← hj]; exact ins_other _ c) (.int .u64 ((wd (ins (setOf (s.data.toList.take k)) c) (64 * j) 64 : Nat) : Int)) (by rw [HN0.out]))
      clear b0 a3 a4 e
      have hb := Lib.hid (bit_any c hc)
      go_wp2
      go_region_with ((go_at_call 115; refine (hb.out _).mono ?_; rintro e w1 ⟨rfl, rfl⟩))
      all_goals
        go_wp2
        go_roundw
        case rel => exact ⟨k + 1, by omega, by go_num, (HR.out.1.setCell (by simp) _).drew, (HR.out.2.1.apart _ (by omega)).drew, HN.out.drew⟩
        case measure => simp [intOf]; omega
    · obtain rfl : k = s.size := by omega
      obtain ⟨b0, a3, a4⟩ := HR.out
      rw [List.take_of_length_le (by simp)] at a4
      have HA := Lib.hid a3
      obtain ⟨⟨c0, c1⟩, ⟨c2, c3⟩, hf⟩ := a4.words
      obtain ⟨⟨d0, d1⟩, ⟨d2, d3⟩, hg⟩ := a3.words
      clear b0 a3 a4
      go_wp2
      exact bodyPost_ret (v := cs (setOf s.data.toList)) (ret_cs (q := setOf s.data.toList) Tryz.results112 _ _ w.heap.size (by simp) (HA.out.put4 _)) rfl ⟨rfl, below_put4 HR.out.1 _ (by omega) _⟩
end Go.Proofs.YtphiaagppcbefaaGreatDoor
set_option linter.unusedVariables false
namespace Go.Proofs.YtphiaagppcbefaaGreatDoor
open Go.RowKit
theorem PM.belowB {w w' : World} {B : Nat} {c : CX} {V : LV} {p : PS} (h : PM w B c V p) (hb : Below (B + 1) w w') : PM w' B c V p := by
  obtain ⟨w0, h1, h2, h3, h4, h5⟩ := h.lk
  exact ⟨h.pa.block (hb.block B (by omega)), ⟨w0, h1, h2, h3, h4, h5.trans (hb.mono (by omega))⟩, h.sz, h.at_, h.st, h.gr, h.opn⟩
theorem Stp.putNew {a w : World} {B : Nat} {c : CX} {V : LV} {q : PS} (h : Stp a B c V q w) (hB : B < a.heap.size) (g j : Nat) (hg : a.heap.size ≤ g) (v : Value) : Stp a B c V q (w.setCell ⟨g, j, none⟩ v) :=
  ⟨h.1.belowB ((Below.refl _ _).setCell (p := ⟨g, j, none⟩) (by show B + 1 ≤ g; omega) v), ⟨h.2.os, h.2.tape, h.2.output, by simpa [World.setCell] using h.2.size, fun k hk hn => (Below.heap_setCell w ⟨g, j, none⟩ v k (by intro e; have e2 : k = g := e; omega)).trans (h.2.block k hk hn)⟩⟩
theorem Stp.put4 {a w : World} {B : Nat} {c : CX} {V : LV} {q : PS} (h : Stp a B c V q w) (hB : B < a.heap.size) (g : Nat) (hg : a.heap.size ≤ g) (s : Nat → Bool) : Stp a B c V q (Go.Proofs.YtphiaagppcbefaaGreatDoor.put4 w g s) :=
  (((h.putNew hB g 0 hg _).putNew hB g 1 hg _).putNew hB g 2 hg _).putNew hB g 3 hg _
theorem At.only {w w' : World} {g B : Nat} {p : Nat → Bool} (h : At w g p) (k : Only B w w') (hg : g ≠ B) : At w' g p := (k.block g (Array.getElem?_eq_some_iff.1 h).1 hg).trans h
def setV (st : Nat → Bool) : Value := .agg #[.int .i64 2, .int .u64 (wd st 0 64 : Nat), .int .u64 (wd st 64 64 : Nat), .int .u64 (wd st 128 64 : Nat), .int .u64 (wd st 192 64 : Nat), .int .i64 0, .int .i64 0, .int .i64 0, .slice none 0 0]
theorem setV_tv (w : World) (S : Nat → Prop) (st : Nat → Bool) : TV w S (setR st) (setV st) := TV.leaf w S _ _ _ _ _
def Ret (w : World) (B : Nat) (c : CX) (V : LV) (r : TN × PS) (e : Ending) (w' : World) : Prop := ∃ v, e = .returned v ∧ TV w' (Frm w.heap.size) r.1 v ∧ Stp w B c V r.2 w'
set_option maxHeartbeats 4000000 in
theorem setOf_any (st : Nat → Bool) (w : World) :
    Calls Tryz.prog 85 #[cs st] w fun e w' => e = .returned (setV st) ∧ Below w.heap.size w w' := by
  unfold cs cl setV
  go_enter Tryz.func85, Tryz.ntmps85
  go_wp2
  exact bodyPost_ret (v := .agg #[.int .i64 2, .int .u64 (wd st 0 64 : Nat), .int .u64 (wd st 64 64 : Nat), .int .u64 (wd st 128 64 : Nat), .int .u64 (wd st 192 64 : Nat), .int .i64 0, .int .i64 0, .int .i64 0, .slice none 0 0]) (by simp [results, Tryz.results85, go_sem]) rfl ⟨rfl, (by repeat (first | exact Below.refl _ _ | refine Below.setCell ?_ (by simp) _ | refine Below.alloc ?_ (by simp) _))⟩
abbrev X1s (w0 : World) (p : Nat → Bool) (w : World) : Prop :=
  Wds w w0.heap.size p ∧ Wany w (w0.heap.size + 1) ∧ (∀ j, w.frozen? ⟨w0.heap.size + 1, j, none⟩ = false) ∧ Below w0.heap.size w0 w ∧ AtAny w (w0.heap.size + 1)
def V2s (w : World) (p : Nat → Bool) : World := (w.alloc (.cells (cl p) 32)).alloc (.cells #[.int .u64 0, .int .u64 0, .int .u64 0, .int .u64 0] 32)
theorem V2s_below (w : World) (p : Nat → Bool) : Below w.heap.size w (V2s w p) := ((Below.refl _ _).alloc (Nat.le_refl _) _).alloc (by simp) _
theorem V2s_at (w : World) (p : Nat → Bool) : At (V2s w p) w.heap.size p ∧ At (V2s w p) (w.heap.size + 1) (fun _ => false) := by
  unfold V2s
  rw [cl_zero]
  refine ⟨(At.new w p).alloc _, ?_⟩
  have := At.new (w.alloc (.cells (cl p) 32)) (fun _ => false)
  simpa using this
theorem V2q (w : World) (p q : Nat → Bool) : At ((w.alloc (.cells (cl p) 32)).alloc (.cells (cl q) 32)) (w.heap.size + 1) q ∧ Below w.heap.size w ((w.alloc (.cells (cl p) 32)).alloc (.cells (cl q) 32)) := by
  refine ⟨?_, ((Below.refl _ _).alloc (Nat.le_refl _) _).alloc (by simp) _⟩
  have := At.new (w.alloc (.cells (cl p) 32)) q
  simpa using this
theorem X1s.of {w0 w : World} {p q : Nat → Bool} (h1 : At w w0.heap.size p) (h2 : At w (w0.heap.size + 1) q) (h3 : Below w0.heap.size w0 w) : X1s w0 p w :=
  ⟨Wds.of h1, AtAny.cells ⟨_, h2⟩, h2.free, h3, ⟨_, h2⟩⟩
theorem X1s.keep {w0 w w' : World} {p : Nat → Bool} (hb : Below w.heap.size w w') (h : X1s w0 p w) : X1s w0 p w' :=
  have a := h.2.2.2.2.below hb
  ⟨h.1.keep hb, a.cells, a.free, h.2.2.2.1.trans (hb.mono h.2.2.2.1.size), a⟩
theorem X1s.put {w0 w : World} {p : Nat → Bool} (h : X1s w0 p w) (f : Nat → Bool) : X1s w0 p (put4 w (w0.heap.size + 1) f) :=
  have a := h.2.2.2.2.put f
  ⟨h.1.put (by omega) f, AtAny.cells ⟨_, a⟩, a.free, below_put4 h.2.2.2.1 _ (by omega) f, ⟨_, a⟩⟩
set_option maxHeartbeats 4000000 in
theorem lin_no (w : World) (B : Nat) (c : CX) (V : LV) (p : PS) (h : PM w B c V p) (st : Nat → Bool) (hf : flg c.fl 4 = false) :
    Calls Tryz.prog 86 #[.pointer (some ⟨B, 0, none⟩), cs st] w fun e w' => e = .returned (cs st) ∧ Below w.heap.size w w' := by
  have hV := V2s_at w st
  have hVb := V2s_below w st
  have HM := Lib.hid (h.below hVb)
  have HS := Lib.hid (X1s.of hV.1.drew hV.2.drew hVb.drew)
  have HV := Lib.hid hV
  have HVb := Lib.hid hVb
  have HH := Lib.hid (has_is _ B c V p HM.out 4 _ hf)
  have HQ := Lib.hid (V2q w st st)
  unfold V2s at *
  unfold cs cl at *
  clear h hV hVb hf
  go_enter Tryz.func86, Tryz.ntmps86
  go_wp2_with (first
    | (go_at_call 110; refine HH.out.mono ?_; rintro e w' ⟨rfl, rfl⟩)
    )
  exact bodyPost_ret (v := cs st) (ret_cs (q := st) Tryz.results86 _ _ (w.heap.size + 1) (by simp) HQ.out.1) rfl ⟨rfl, HQ.out.2⟩
set_option maxHeartbeats 4000000 in
theorem lin_yes (w : World) (B : Nat) (c : CX) (V : LV) (p : PS) (h : PM w B c V p) (st : Nat → Bool) (hf : flg c.fl 4 = true) :
    Calls Tryz.prog 86 #[.pointer (some ⟨B, 0, none⟩), cs st] w fun e w' => e = .returned (cs fun x => st x && !setOf [10] x) ∧ Below w.heap.size w w' := by
  have hV := V2s_at w st
  have hVb := V2s_below w st
  have HM := Lib.hid (h.below hVb)
  have HS := Lib.hid (X1s.of hV.1.drew hV.2.drew hVb.drew)
  have HV := Lib.hid hV
  have HVb := Lib.hid hVb
  have HH := Lib.hid (has_is _ B c V p HM.out 4 _ hf)
  have HOf := Lib.hid (ofw_any ⟨#[10]⟩ (by decide))
  rw [show (⟨#[10]⟩ : ByteArray).data.toList = [10] from rfl] at HOf
  have HMi := Lib.hid (minus_any st (setOf [10]))
  unfold V2s at *
  unfold cs cl at *
  clear h hV hVb hf
  go_enter Tryz.func86, Tryz.ntmps86
  go_wp2_with (first
    | (go_at_call 110; refine HH.out.mono ?_; rintro e w' ⟨rfl, rfl⟩)
    )
  generalize hW : ((w.alloc (.cells _ 32)).alloc (.cells _ 32)) = W
  rw [hW] at HS
  clear hW
  go_region_held3 (fun w' => X1s w st w')
    (first | exact HS.out | exact X1s.keep hb ‹_› | exact X1s.put ‹_› (fun x => st x && !setOf [10] x))
    (first
      | (go_at_call 112; refine (HOf.out _).mono ?_; rintro e w1 ⟨rfl, hb⟩)
      | (go_at_call 111; refine (HMi.out _).mono ?_; rintro e w1 ⟨rfl, hb⟩))
  rename_i hS
  obtain ⟨_, _, _, hB, hA⟩ := hS
  have HD := Lib.hid (And.intro hB (AtAny.done (f := fun x => st x && !setOf [10] x) hA))
  clear hB hA
  go_wp2
  exact bodyPost_ret (v := cs fun x => st x && !setOf [10] x) (ret_cs (q := fun x => st x && !setOf [10] x) Tryz.results86 _ _ (w.heap.size + 1) (by simp) HD.out.2) rfl ⟨rfl, HD.out.1⟩
theorem lin_any (w : World) (B : Nat) (c : CX) (V : LV) (p : PS) (h : PM w B c V p) (st : Nat → Bool) :
    Calls Tryz.prog 86 #[.pointer (some ⟨B, 0, none⟩), cs st] w fun e w' => e = .returned (cs (linT c st)) ∧ Below w.heap.size w w' := by
  unfold linT
  by_cases hf : flg c.fl 4 = true
  · rw [if_pos hf]; exact lin_yes w B c V p h st hf
  · rw [if_neg hf]; exact lin_no w B c V p h st (by simpa using hf)
end Go.Proofs.YtphiaagppcbefaaGreatDoor
