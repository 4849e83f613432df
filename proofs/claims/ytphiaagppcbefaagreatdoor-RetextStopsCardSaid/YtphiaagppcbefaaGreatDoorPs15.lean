/- RxE. -/
import Derived.Test.YtphiaagppcbefaaGreatDoorPs14
set_option linter.unusedVariables false
namespace Go.Proofs.YtphiaagppcbefaaGreatDoor
open Go.RowKit
theorem bcell {w w1 : World} (hb : Below w.heap.size w w1) : (∀ b o, b < w.heap.size → w1.cell? ⟨b, o, none⟩ = w.cell? ⟨b, o, none⟩) ∧ (∀ b o, b < w.heap.size → w1.frozen? ⟨b, o, none⟩ = w.frozen? ⟨b, o, none⟩) :=
  ⟨fun b o h => hb.cell (p := ⟨b, o, none⟩) h, fun b o h => hb.frozen (p := ⟨b, o, none⟩) h⟩
set_option maxHeartbeats 4000000 in
theorem iso_rb (w : World) (B : Nat) (c : CX) (V : LV) (p : PS) (h : PM w B c V p)  :
    Calls Tryz.prog 93 #[.pointer (some ⟨B, 0, none⟩), .int .i32 93] w fun e w' => e = .returned (.bool false) ∧ Below w.heap.size w w' := by
  have HH := Lib.hid (has_any w B c V p h 1)
  obtain ⟨⟨x0, x1, x2, x3, x4, x5, x6, x7⟩, xf⟩ := h.pa.all
  generalize flg c.fl 1 = E at *
  clear h 
  go_enter Tryz.func93, Tryz.ntmps93
  go_wp2_with (first
    | (go_at_call 110; refine HH.out.mono ?_; rintro e w' ⟨rfl, rfl⟩)
    )
  go_ret
  exact ⟨rfl, Below.refl _ _⟩
set_option maxHeartbeats 4000000 in
theorem iso_rc (w : World) (B : Nat) (c : CX) (V : LV) (p : PS) (h : PM w B c V p)  :
    Calls Tryz.prog 93 #[.pointer (some ⟨B, 0, none⟩), .int .i32 125] w fun e w' => e = .returned (.bool false) ∧ Below w.heap.size w w' := by
  have HH := Lib.hid (has_any w B c V p h 1)
  obtain ⟨⟨x0, x1, x2, x3, x4, x5, x6, x7⟩, xf⟩ := h.pa.all
  generalize flg c.fl 1 = E at *
  clear h 
  go_enter Tryz.func93, Tryz.ntmps93
  go_wp2_with (first
    | (go_at_call 110; refine HH.out.mono ?_; rintro e w' ⟨rfl, rfl⟩)
    )
  go_ret
  exact ⟨rfl, Below.refl _ _⟩
set_option maxHeartbeats 4000000 in
theorem iso_star (w : World) (B : Nat) (c : CX) (V : LV) (p : PS) (h : PM w B c V p) (hE : flg c.fl 1 = false) :
    Calls Tryz.prog 93 #[.pointer (some ⟨B, 0, none⟩), .int .i32 42] w fun e w' => e = .returned (.bool (!(asT c p))) ∧ Below w.heap.size w w' := by
  have HH := Lib.hid (has_any w B c V p h 1)
  obtain ⟨⟨x0, x1, x2, x3, x4, x5, x6, x7⟩, xf⟩ := h.pa.all
  rw [hE] at HH
  have HA := Lib.hid (afterStart_any w B c V p h)
  clear h hE
  go_enter Tryz.func93, Tryz.ntmps93
  go_wp2_with (first
    | (go_at_call 110; refine HH.out.mono ?_; rintro e w' ⟨rfl, rfl⟩)
    | (go_at_call 117; refine HA.out.mono ?_; rintro e w1 ⟨rfl, hb⟩; have HB := Lib.hid hb; clear hb)
    )
  go_ret
  exact ⟨rfl, HB.out⟩
set_option maxHeartbeats 4000000 in
theorem iso_hat_y (w : World) (B : Nat) (c : CX) (V : LV) (p : PS) (h : PM w B c V p) (hE : flg c.fl 1 = false) (hq : p.at_ = p.st) :
    Calls Tryz.prog 93 #[.pointer (some ⟨B, 0, none⟩), .int .i32 94] w fun e w' => e = .returned (.bool true) ∧ Below w.heap.size w w' := by
  have HH := Lib.hid (has_any w B c V p h 1)
  obtain ⟨⟨x0, x1, x2, x3, x4, x5, x6, x7⟩, xf⟩ := h.pa.all
  rw [hE] at HH
  rw [hq] at x2
  clear h hE hq
  go_enter Tryz.func93, Tryz.ntmps93
  go_wp2_with (first
    | (go_at_call 110; refine HH.out.mono ?_; rintro e w' ⟨rfl, rfl⟩)
    )
  go_quiet (fail)
  go_wp2
  go_ret
  exact ⟨rfl, below_drewN (Below.refl _ _) _⟩
set_option maxHeartbeats 4000000 in
theorem iso_hat_n (w : World) (B : Nat) (c : CX) (V : LV) (p : PS) (h : PM w B c V p) (hE : flg c.fl 1 = false) (hq : p.at_ ≠ p.st) :
    Calls Tryz.prog 93 #[.pointer (some ⟨B, 0, none⟩), .int .i32 94] w fun e w' => e = .returned (.bool false) ∧ Below w.heap.size w w' := by
  have HH := Lib.hid (has_any w B c V p h 1)
  obtain ⟨⟨x0, x1, x2, x3, x4, x5, x6, x7⟩, xf⟩ := h.pa.all
  rw [hE] at HH
  have q1 : ((p.at_ : Int) == (p.st : Int)) = false := by simp; omega
  have q2 : (p.at_ == p.st) = false := by simpa using hq
  clear h hE hq
  go_enter Tryz.func93, Tryz.ntmps93
  go_wp2_with (first
    | (go_at_call 110; refine HH.out.mono ?_; rintro e w' ⟨rfl, rfl⟩)
    )
  go_quiet (fail)
  go_wp2
  go_ret
  exact ⟨rfl, below_drewN (Below.refl _ _) _⟩
set_option maxHeartbeats 4000000 in
theorem iso_end (w : World) (B : Nat) (c : CX) (V : LV) (p : PS) (h : PM w B c V p) (hE : flg c.fl 1 = false) (hl : p.at_ + 1 = c.s.size) :
    Calls Tryz.prog 93 #[.pointer (some ⟨B, 0, none⟩), .int .i32 36] w fun e w' => e = .returned (.bool true) ∧ Below w.heap.size w w' := by
  have HH := Lib.hid (has_any w B c V p h 1)
  obtain ⟨⟨x0, x1, x2, x3, x4, x5, x6, x7⟩, xf⟩ := h.pa.all
  rw [hE] at HH
  have he := as_empty (s := c.s) hl
  have hb : (p.at_ : Int) + 1 ≤ c.s.size := by omega
  have hsz : (c.s.size : Int) ≤ 256 := by have := h.sz; omega
  clear h hE hl
  go_enter Tryz.func93, Tryz.ntmps93
  go_wp2_with (first
    | (go_at_call 110; refine HH.out.mono ?_; rintro e w' ⟨rfl, rfl⟩)
    | (go_at_call 118; refine (hp_any _ _ _).mono ?_; rintro e w1 ⟨rfl, rfl⟩)
    )
  go_quiet (fail)
  go_wp2_with (first
    | (go_at_call 118; refine (hp_any _ _ _).mono ?_; rintro e w1 ⟨rfl, rfl⟩)
    )
  go_ret
  exact ⟨rfl, below_drewN (Below.refl _ _) _⟩
set_option maxHeartbeats 4000000 in
theorem iso_dol (w : World) (B : Nat) (c : CX) (V : LV) (p : PS) (h : PM w B c V p) (hE : flg c.fl 1 = false) (hl : p.at_ + 1 < c.s.size) :
    Calls Tryz.prog 93 #[.pointer (some ⟨B, 0, none⟩), .int .i32 36] w fun e w' => e = .returned (.bool (decide (pkT c.s (p.at_ + 1) = 92) && decide (pkT c.s (p.at_ + 2) = 41))) ∧ Below w.heap.size w w' := by
  have HH := Lib.hid (has_any w B c V p h 1)
  obtain ⟨⟨x0, x1, x2, x3, x4, x5, x6, x7⟩, xf⟩ := h.pa.all
  rw [hE] at HH
  have he := (as_full (s := c.s) hl (Nat.le_refl _)).1
  have hb : (p.at_ : Int) + 1 < c.s.size := by omega
  have hsz : (c.s.size : Int) ≤ 256 := by have := h.sz; omega
  have hpre : List.isPrefixOf [92, 41] (c.s.extract (p.at_ + 1) c.s.size).data.toList = (decide (pkT c.s (p.at_ + 1) = 92) && decide (pkT c.s (p.at_ + 2) = 41)) := pre2 c.s (p.at_ + 1) 92 41
  generalize (decide (pkT c.s (p.at_ + 1) = 92) && decide (pkT c.s (p.at_ + 2) = 41)) = D at *
  have HPre : Hid (∀ w, Calls Tryz.prog 118 #[.string (c.s.extract (p.at_ + 1) c.s.size), .string ⟨#[92, 41]⟩] w fun e w' => e = .returned (.bool D) ∧ w = w') := fun w => by have hh := hp_any (c.s.extract (p.at_ + 1) c.s.size) ⟨#[92, 41]⟩ w; rw [show (⟨#[92, 41]⟩ : ByteArray).data.toList = [92, 41] from rfl, hpre] at hh; exact hh
  clear hpre
  clear h hE hl
  go_enter Tryz.func93, Tryz.ntmps93
  go_wp2_with (first
    | (go_at_call 110; refine HH.out.mono ?_; rintro e w' ⟨rfl, rfl⟩)
    | (go_at_call 118; refine (HPre.out _).mono ?_; rintro e w1 ⟨rfl, rfl⟩)
    )
  go_quiet (fail)
  go_wp2_with (first
    | (go_at_call 118; refine (HPre.out _).mono ?_; rintro e w1 ⟨rfl, rfl⟩)
    )
  go_ret
  exact ⟨rfl, below_drewN (Below.refl _ _) _⟩
set_option maxHeartbeats 4000000 in
theorem iso_x42 (w : World) (B : Nat) (c : CX) (V : LV) (p : PS) (h : PM w B c V p) (hE : flg c.fl 1 = true) :
    Calls Tryz.prog 93 #[.pointer (some ⟨B, 0, none⟩), .int .i32 42] w fun e w' => e = .returned (.bool (spT 42 true)) ∧ Below w.heap.size w w' := by
  have HH := Lib.hid (has_any w B c V p h 1)
  obtain ⟨⟨x0, x1, x2, x3, x4, x5, x6, x7⟩, xf⟩ := h.pa.all
  rw [hE] at HH
  have HS := Lib.hid (isSpecial_any 42 true)
  clear h hE
  go_enter Tryz.func93, Tryz.ntmps93
  go_wp2_with (first
    | (go_at_call 110; refine HH.out.mono ?_; rintro e w' ⟨rfl, rfl⟩)
    | (go_at_call 72; refine (HS.out _).mono ?_; rintro e w' ⟨rfl, rfl⟩)
    )
  go_ret
  exact ⟨rfl, Below.refl _ _⟩
set_option maxHeartbeats 4000000 in
theorem iso_x94 (w : World) (B : Nat) (c : CX) (V : LV) (p : PS) (h : PM w B c V p) (hE : flg c.fl 1 = true) :
    Calls Tryz.prog 93 #[.pointer (some ⟨B, 0, none⟩), .int .i32 94] w fun e w' => e = .returned (.bool (spT 94 true)) ∧ Below w.heap.size w w' := by
  have HH := Lib.hid (has_any w B c V p h 1)
  obtain ⟨⟨x0, x1, x2, x3, x4, x5, x6, x7⟩, xf⟩ := h.pa.all
  rw [hE] at HH
  have HS := Lib.hid (isSpecial_any 94 true)
  clear h hE
  go_enter Tryz.func93, Tryz.ntmps93
  go_wp2_with (first
    | (go_at_call 110; refine HH.out.mono ?_; rintro e w' ⟨rfl, rfl⟩)
    | (go_at_call 72; refine (HS.out _).mono ?_; rintro e w' ⟨rfl, rfl⟩)
    )
  go_ret
  exact ⟨rfl, Below.refl _ _⟩
set_option maxHeartbeats 4000000 in
theorem iso_x36 (w : World) (B : Nat) (c : CX) (V : LV) (p : PS) (h : PM w B c V p) (hE : flg c.fl 1 = true) :
    Calls Tryz.prog 93 #[.pointer (some ⟨B, 0, none⟩), .int .i32 36] w fun e w' => e = .returned (.bool (spT 36 true)) ∧ Below w.heap.size w w' := by
  have HH := Lib.hid (has_any w B c V p h 1)
  obtain ⟨⟨x0, x1, x2, x3, x4, x5, x6, x7⟩, xf⟩ := h.pa.all
  rw [hE] at HH
  have HS := Lib.hid (isSpecial_any 36 true)
  clear h hE
  go_enter Tryz.func93, Tryz.ntmps93
  go_wp2_with (first
    | (go_at_call 110; refine HH.out.mono ?_; rintro e w' ⟨rfl, rfl⟩)
    | (go_at_call 72; refine (HS.out _).mono ?_; rintro e w' ⟨rfl, rfl⟩)
    )
  go_ret
  exact ⟨rfl, Below.refl _ _⟩
set_option maxHeartbeats 4000000 in
theorem iso_o (w : World) (B : Nat) (c : CX) (V : LV) (p : PS) (h : PM w B c V p) (X : Int) (n1 : X ≠ 93) (n2 : X ≠ 125) (n3 : X ≠ 42) (n4 : X ≠ 94) (n5 : X ≠ 36) :
    Calls Tryz.prog 93 #[.pointer (some ⟨B, 0, none⟩), .int .i32 X] w fun e w' => e = .returned (.bool (spT X (flg c.fl 1))) ∧ Below w.heap.size w w' := by
  have HH := Lib.hid (has_any w B c V p h 1)
  obtain ⟨⟨x0, x1, x2, x3, x4, x5, x6, x7⟩, xf⟩ := h.pa.all
  generalize flg c.fl 1 = E at *
  have q93 : (X == 93) = false := by simp; omega
  have q125 : (X == 125) = false := by simp; omega
  have q42 : (X == 42) = false := by simp; omega
  have q94 : (X == 94) = false := by simp; omega
  have q36 : (X == 36) = false := by simp; omega
  have HS := Lib.hid (isSpecial_any X E)
  generalize spT X E = D at *
  clear h 
  go_enter Tryz.func93, Tryz.ntmps93
  go_wp2_with (first
    | (go_at_call 110; refine HH.out.mono ?_; rintro e w' ⟨rfl, rfl⟩)
    | (go_at_call 72; refine (HS.out _).mono ?_; rintro e w' ⟨rfl, rfl⟩)
    )
  go_ret
  exact ⟨rfl, Below.refl _ _⟩
theorem isOperator_any (w : World) (B : Nat) (c : CX) (V : LV) (p : PS) (h : PM w B c V p) (X : Int) (hX : pkT c.s p.at_ = X) (h1 : X ≠ -1) :
    Calls Tryz.prog 93 #[.pointer (some ⟨B, 0, none⟩), .int .i32 X] w fun e w' => e = .returned (.bool (opT c p X)) ∧ Below w.heap.size w w' := by
  have hlt := pk_lt (by rw [hX]; exact h1)
  obtain ⟨E, hE⟩ : ∃ E, flg c.fl 1 = E := ⟨_, rfl⟩
  have hE2 : c.ext = E := hE
  unfold opT
  rw [hE2]
  by_cases n1 : X = 93
  · subst n1; rw [if_pos (.inl rfl)]; exact iso_rb w B c V p h
  by_cases n2 : X = 125
  · subst n2; rw [if_pos (.inr rfl)]; exact iso_rc w B c V p h
  rw [if_neg (by rintro (e | e); exact n1 e; exact n2 e)]
  cases E with
  | true =>
    rw [if_neg (by rintro ⟨_, e⟩; cases e), if_neg (by rintro ⟨_, e⟩; cases e), if_neg (by rintro ⟨_, e⟩; cases e)]
    by_cases n3 : X = 42
    · subst n3; exact iso_x42 w B c V p h hE
    by_cases n4 : X = 94
    · subst n4; exact iso_x94 w B c V p h hE
    by_cases n5 : X = 36
    · subst n5; exact iso_x36 w B c V p h hE
    have := iso_o w B c V p h X n1 n2 n3 n4 n5
    rw [hE] at this
    exact this
  | false =>
    by_cases n3 : X = 42
    · subst n3; rw [if_pos ⟨rfl, rfl⟩]; exact iso_star w B c V p h hE
    rw [if_neg (fun e => n3 e.1)]
    by_cases n4 : X = 94
    · subst n4
      rw [if_pos ⟨rfl, rfl⟩]
      by_cases hq : p.at_ = p.st
      · rw [decide_eq_true hq]; exact iso_hat_y w B c V p h hE hq
      · rw [decide_eq_false hq]; exact iso_hat_n w B c V p h hE hq
    rw [if_neg (fun e => n4 e.1)]
    by_cases n5 : X = 36
    · subst n5
      rw [if_pos ⟨rfl, rfl⟩]
      by_cases hl : p.at_ + 1 = c.s.size
      · rw [decide_eq_true hl, Bool.true_or]; exact iso_end w B c V p h hE hl
      · rw [decide_eq_false hl, Bool.false_or]; exact iso_dol w B c V p h hE (by omega)
    rw [if_neg (fun e => n5 e.1)]
    have := iso_o w B c V p h X n1 n2 n3 n4 n5
    rw [hE] at this
    exact this
set_option maxHeartbeats 4000000 in
theorem tok_end (w : World) (B : Nat) (c : CX) (V : LV) (p : PS) (h : PM w B c V p) (hX : pkT c.s p.at_ = -1) :
    Calls Tryz.prog 62 #[.pointer (some ⟨B, 0, none⟩)] w fun e w' => e = .returned (.agg #[.int .i32 (-1), .int .u8 0, .int .i64 1]) ∧ Below w.heap.size w w' := by
  have hx : Below w.heap.size w (w.alloc (.cells #[.int .i32 0, .int .u8 0, .int .i64 0] 88)) := (Below.refl w.heap.size w).alloc (Nat.le_refl _) _
  have HM := Lib.hid (h.below hx)
  have HX := Lib.hid hx
  have HK := Lib.hid (peek_any _ B c V p HM.out)
  rw [hX] at HK
  clear h hX hx
  go_enter Tryz.func62, Tryz.ntmps62
  go_wp2_with (first
    | (go_at_call 91; refine HK.out.mono ?_; rintro e w' ⟨rfl, rfl⟩)
    )
  exact bodyPost_ret (v := .agg #[.int .i32 (-1), .int .u8 0, .int .i64 1]) (by simp [results, Tryz.results62, go_sem]) rfl ⟨rfl, (by repeat (first | exact Below.refl _ _ | refine Below.setCell ?_ (by simp) _ | refine Below.alloc ?_ (by simp) _))⟩
set_option maxHeartbeats 4000000 in
theorem tok_esc (w : World) (B : Nat) (c : CX) (V : LV) (p : PS) (h : PM w B c V p) (hX : pkT c.s p.at_ = 92) :
    Calls Tryz.prog 62 #[.pointer (some ⟨B, 0, none⟩)] w fun e w' => e = .returned (.agg #[.int .i32 (escT c (pkT c.s (p.at_ + 1))).1, .int .u8 (escT c (pkT c.s (p.at_ + 1))).2, .int .i64 2]) ∧ Below w.heap.size w w' := by
  have hx : Below w.heap.size w (w.alloc (.cells #[.int .i32 0, .int .u8 0, .int .i64 0] 88)) := (Below.refl w.heap.size w).alloc (Nat.le_refl _) _
  have HM := Lib.hid (h.below hx)
  have HX := Lib.hid hx
  have HK := Lib.hid (peek_any _ B c V p HM.out)
  rw [hX] at HK
  have HE := Lib.hid (escape_any _ B c V p HM.out)
  unfold tokV at HE
  rw [show (((2 : Nat) : Int)) = 2 from rfl] at HE
  generalize (escT c (pkT c.s (p.at_ + 1))).1 = k at *
  generalize (escT c (pkT c.s (p.at_ + 1))).2 = v at *
  clear h hX hx
  go_enter Tryz.func62, Tryz.ntmps62
  go_wp2_with (first
    | (go_at_call 91; refine HK.out.mono ?_; rintro e w' ⟨rfl, rfl⟩)
    | (go_at_call 92; refine HE.out.mono ?_; rintro e w1 ⟨rfl, hb⟩; have HB := Lib.hid (HX.out.trans (hb.mono HX.out.size)); have hz : w.heap.size < w1.heap.size := (by have := hb.size; simp at this; omega); obtain ⟨hc, hf⟩ := bcell hb; clear hb)
    )
  exact bodyPost_ret (v := .agg #[.int .i32 k, .int .u8 v, .int .i64 2]) (by simp [results, Tryz.results62, go_sem, hc]) rfl ⟨rfl, (by repeat (first | exact HB.out | refine Below.setCell ?_ (by simp) _ | refine Below.alloc ?_ (by simp) _))⟩
set_option maxHeartbeats 4000000 in
theorem tok_op_true (w : World) (B : Nat) (c : CX) (V : LV) (p : PS) (h : PM w B c V p) (X : Int) (hX : pkT c.s p.at_ = X) (n1 : X ≠ -1) (n2 : X ≠ 92) (hO : opT c p X = true) :
    Calls Tryz.prog 62 #[.pointer (some ⟨B, 0, none⟩)] w fun e w' => e = .returned (.agg #[.int .i32 X, .int .u8 0, .int .i64 1]) ∧ Below w.heap.size w w' := by
  have hx : Below w.heap.size w (w.alloc (.cells #[.int .i32 0, .int .u8 0, .int .i64 0] 88)) := (Below.refl w.heap.size w).alloc (Nat.le_refl _) _
  have HM := Lib.hid (h.below hx)
  have HX := Lib.hid hx
  have HK := Lib.hid (peek_any _ B c V p HM.out)
  rw [hX] at HK
  have HO := Lib.hid (isOperator_any _ B c V p HM.out X hX n1)
  rw [hO] at HO
  have hr : 0 ≤ X ∧ X < 256 := by rw [← hX]; exact pk_ge (by rw [hX]; exact n1)
  obtain ⟨g0, g1⟩ := hr
  have q1 : (X == -1) = false := by simpa using n1
  have q2 : (X == 92) = false := by simpa using n2
  clear hO
  clear h hX hx
  go_enter Tryz.func62, Tryz.ntmps62
  go_wp2_with (first
    | (go_at_call 91; refine HK.out.mono ?_; rintro e w' ⟨rfl, rfl⟩)
    | (go_at_call 93; refine HO.out.mono ?_; rintro e w1 ⟨rfl, hb⟩; have HB := Lib.hid (HX.out.trans (hb.mono HX.out.size)); have hz : w.heap.size < w1.heap.size := (by have := hb.size; simp at this; omega); obtain ⟨hc, hf⟩ := bcell hb; clear hb)
    )
  exact bodyPost_ret (v := .agg #[.int .i32 X, .int .u8 0, .int .i64 1]) (by simp [results, Tryz.results62, go_sem, hc]) rfl ⟨rfl, (by repeat (first | exact HB.out | refine Below.setCell ?_ (by simp) _ | refine Below.alloc ?_ (by simp) _))⟩
set_option maxHeartbeats 4000000 in
theorem tok_op_false (w : World) (B : Nat) (c : CX) (V : LV) (p : PS) (h : PM w B c V p) (X : Int) (hX : pkT c.s p.at_ = X) (n1 : X ≠ -1) (n2 : X ≠ 92) (hO : opT c p X = false) :
    Calls Tryz.prog 62 #[.pointer (some ⟨B, 0, none⟩)] w fun e w' => e = .returned (.agg #[.int .i32 (-2), .int .u8 X, .int .i64 1]) ∧ Below w.heap.size w w' := by
  have hx : Below w.heap.size w (w.alloc (.cells #[.int .i32 0, .int .u8 0, .int .i64 0] 88)) := (Below.refl w.heap.size w).alloc (Nat.le_refl _) _
  have HM := Lib.hid (h.below hx)
  have HX := Lib.hid hx
  have HK := Lib.hid (peek_any _ B c V p HM.out)
  rw [hX] at HK
  have HO := Lib.hid (isOperator_any _ B c V p HM.out X hX n1)
  rw [hO] at HO
  have hr : 0 ≤ X ∧ X < 256 := by rw [← hX]; exact pk_ge (by rw [hX]; exact n1)
  obtain ⟨g0, g1⟩ := hr
  have q1 : (X == -1) = false := by simpa using n1
  have q2 : (X == 92) = false := by simpa using n2
  clear hO
  clear h hX hx
  go_enter Tryz.func62, Tryz.ntmps62
  go_wp2_with (first
    | (go_at_call 91; refine HK.out.mono ?_; rintro e w' ⟨rfl, rfl⟩)
    | (go_at_call 93; refine HO.out.mono ?_; rintro e w1 ⟨rfl, hb⟩; have HB := Lib.hid (HX.out.trans (hb.mono HX.out.size)); have hz : w.heap.size < w1.heap.size := (by have := hb.size; simp at this; omega); obtain ⟨hc, hf⟩ := bcell hb; clear hb)
    )
  exact bodyPost_ret (v := .agg #[.int .i32 (-2), .int .u8 X, .int .i64 1]) (by simp [results, Tryz.results62, go_sem, hc]) rfl ⟨rfl, (by repeat (first | exact HB.out | refine Below.setCell ?_ (by simp) _ | refine Below.alloc ?_ (by simp) _))⟩
theorem token_any (w : World) (B : Nat) (c : CX) (V : LV) (p : PS) (h : PM w B c V p) :
    Calls Tryz.prog 62 #[.pointer (some ⟨B, 0, none⟩)] w fun e w' => e = .returned (tokV (tokT c p)) ∧ Below w.heap.size w w' := by
  obtain ⟨X, hX⟩ : ∃ X, pkT c.s p.at_ = X := ⟨_, rfl⟩
  unfold tokT
  rw [hX]
  by_cases n1 : X = -1
  · subst n1; rw [if_pos rfl]; exact tok_end w B c V p h hX
  rw [if_neg n1]
  by_cases n2 : X = 92
  · subst n2; rw [if_pos rfl]; exact tok_esc w B c V p h hX
  rw [if_neg n2]
  by_cases hO : opT c p X = true
  · rw [if_pos hO]; exact tok_op_true w B c V p h X hX n1 n2 hO
  · rw [if_neg hO]; exact tok_op_false w B c V p h X hX n1 n2 (by simpa using hO)
end Go.Proofs.YtphiaagppcbefaaGreatDoor
