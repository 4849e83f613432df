/- RxD. -/
import Derived.Test.YtphiaagppcbefaaGreatDoorPs13
set_option linter.unusedVariables false
namespace Go.Proofs.YtphiaagppcbefaaGreatDoor
open Go.RowKit
def tokV (T : Int × Int × Nat) : Value := .agg #[.int .i32 T.1, .int .u8 T.2.1, .int .i64 (T.2.2 : Int)]
set_option maxHeartbeats 4000000 in
theorem esc_n (w : World) (B : Nat) (c : CX) (V : LV) (p : PS) (h : PM w B c V p) (hX : pkT c.s (p.at_ + 1) = 110) :
    Calls Tryz.prog 92 #[.pointer (some ⟨B, 0, none⟩)] w fun e w' => e = .returned (.agg #[.int .i32 (-2), .int .u8 (10), .int .i64 2]) ∧ Below w.heap.size w w' := by
  have HM := Lib.hid (h.below (((Below.refl w.heap.size w).alloc (Nat.le_refl _) _) : Below w.heap.size w (w.alloc (.cells #[.int .i32 0, .int .u8 0, .int .i64 0] 88))))
  have HH := Lib.hid (has_any _ B c V p HM.out 1)
  have HK := Lib.hid (peekAt_any _ B c V p HM.out (p.at_ + 1) (by have := h.at_; have := h.sz; omega))
  have eat : ((p.at_ + 1 : Nat) : Int) = (p.at_ : Int) + 1 := by omega
  rw [eat, hX] at HK
  have hbi : (p.at_ : Int) ≤ 256 := by have := h.at_; have := h.sz; omega
  obtain ⟨⟨x0, x1, x2, x3, x4, x5, x6, x7⟩, xf⟩ := HM.out.pa.all
  generalize flg c.fl 1 = E at *
  clear h eat hX 
  go_enter Tryz.func92, Tryz.ntmps92
  go_wp2_with (first
    | (go_at_call 110; refine HH.out.mono ?_; rintro e w' ⟨rfl, rfl⟩)
    | (go_at_call 116; refine HK.out.mono ?_; rintro e w' ⟨rfl, rfl⟩)
    )
  exact bodyPost_ret (v := .agg #[.int .i32 (-2), .int .u8 (10), .int .i64 2]) (by simp [results, Tryz.results92, go_sem]) rfl ⟨rfl, (by repeat (first | exact Below.refl _ _ | refine Below.setCell ?_ (by simp) _ | refine Below.alloc ?_ (by simp) _))⟩
set_option maxHeartbeats 4000000 in
theorem esc_t (w : World) (B : Nat) (c : CX) (V : LV) (p : PS) (h : PM w B c V p) (hX : pkT c.s (p.at_ + 1) = 116) :
    Calls Tryz.prog 92 #[.pointer (some ⟨B, 0, none⟩)] w fun e w' => e = .returned (.agg #[.int .i32 (-2), .int .u8 (9), .int .i64 2]) ∧ Below w.heap.size w w' := by
  have HM := Lib.hid (h.below (((Below.refl w.heap.size w).alloc (Nat.le_refl _) _) : Below w.heap.size w (w.alloc (.cells #[.int .i32 0, .int .u8 0, .int .i64 0] 88))))
  have HH := Lib.hid (has_any _ B c V p HM.out 1)
  have HK := Lib.hid (peekAt_any _ B c V p HM.out (p.at_ + 1) (by have := h.at_; have := h.sz; omega))
  have eat : ((p.at_ + 1 : Nat) : Int) = (p.at_ : Int) + 1 := by omega
  rw [eat, hX] at HK
  have hbi : (p.at_ : Int) ≤ 256 := by have := h.at_; have := h.sz; omega
  obtain ⟨⟨x0, x1, x2, x3, x4, x5, x6, x7⟩, xf⟩ := HM.out.pa.all
  generalize flg c.fl 1 = E at *
  clear h eat hX 
  go_enter Tryz.func92, Tryz.ntmps92
  go_wp2_with (first
    | (go_at_call 110; refine HH.out.mono ?_; rintro e w' ⟨rfl, rfl⟩)
    | (go_at_call 116; refine HK.out.mono ?_; rintro e w' ⟨rfl, rfl⟩)
    )
  exact bodyPost_ret (v := .agg #[.int .i32 (-2), .int .u8 (9), .int .i64 2]) (by simp [results, Tryz.results92, go_sem]) rfl ⟨rfl, (by repeat (first | exact Below.refl _ _ | refine Below.setCell ?_ (by simp) _ | refine Below.alloc ?_ (by simp) _))⟩
set_option maxHeartbeats 4000000 in
theorem esc_d (w : World) (B : Nat) (c : CX) (V : LV) (p : PS) (h : PM w B c V p) (X : Int) (hX : pkT c.s (p.at_ + 1) = X) (h1 : 49 ≤ X) (h2 : X ≤ 57) :
    Calls Tryz.prog 92 #[.pointer (some ⟨B, 0, none⟩)] w fun e w' => e = .returned (.agg #[.int .i32 (-3), .int .u8 (X), .int .i64 2]) ∧ Below w.heap.size w w' := by
  have HM := Lib.hid (h.below (((Below.refl w.heap.size w).alloc (Nat.le_refl _) _) : Below w.heap.size w (w.alloc (.cells #[.int .i32 0, .int .u8 0, .int .i64 0] 88))))
  have HH := Lib.hid (has_any _ B c V p HM.out 1)
  have HK := Lib.hid (peekAt_any _ B c V p HM.out (p.at_ + 1) (by have := h.at_; have := h.sz; omega))
  have eat : ((p.at_ + 1 : Nat) : Int) = (p.at_ : Int) + 1 := by omega
  rw [eat, hX] at HK
  have hbi : (p.at_ : Int) ≤ 256 := by have := h.at_; have := h.sz; omega
  obtain ⟨⟨x0, x1, x2, x3, x4, x5, x6, x7⟩, xf⟩ := HM.out.pa.all
  generalize flg c.fl 1 = E at *
  have q110 : (X == 110) = false := by simp; omega
  have q116 : (X == 116) = false := by simp; omega
  clear h eat hX 
  go_enter Tryz.func92, Tryz.ntmps92
  go_wp2_with (first
    | (go_at_call 110; refine HH.out.mono ?_; rintro e w' ⟨rfl, rfl⟩)
    | (go_at_call 116; refine HK.out.mono ?_; rintro e w' ⟨rfl, rfl⟩)
    )
  exact bodyPost_ret (v := .agg #[.int .i32 (-3), .int .u8 (X), .int .i64 2]) (by simp [results, Tryz.results92, go_sem]) rfl ⟨rfl, (by repeat (first | exact Below.refl _ _ | refine Below.setCell ?_ (by simp) _ | refine Below.alloc ?_ (by simp) _))⟩
set_option maxHeartbeats 4000000 in
theorem esc_slash (w : World) (B : Nat) (c : CX) (V : LV) (p : PS) (h : PM w B c V p) (hX : pkT c.s (p.at_ + 1) = 47) :
    Calls Tryz.prog 92 #[.pointer (some ⟨B, 0, none⟩)] w fun e w' => e = .returned (.agg #[.int .i32 (-2), .int .u8 (47), .int .i64 2]) ∧ Below w.heap.size w w' := by
  have HM := Lib.hid (h.below (((Below.refl w.heap.size w).alloc (Nat.le_refl _) _) : Below w.heap.size w (w.alloc (.cells #[.int .i32 0, .int .u8 0, .int .i64 0] 88))))
  have HH := Lib.hid (has_any _ B c V p HM.out 1)
  have HK := Lib.hid (peekAt_any _ B c V p HM.out (p.at_ + 1) (by have := h.at_; have := h.sz; omega))
  have eat : ((p.at_ + 1 : Nat) : Int) = (p.at_ : Int) + 1 := by omega
  rw [eat, hX] at HK
  have hbi : (p.at_ : Int) ≤ 256 := by have := h.at_; have := h.sz; omega
  obtain ⟨⟨x0, x1, x2, x3, x4, x5, x6, x7⟩, xf⟩ := HM.out.pa.all
  generalize flg c.fl 1 = E at *
  clear h eat hX 
  go_enter Tryz.func92, Tryz.ntmps92
  go_wp2_with (first
    | (go_at_call 110; refine HH.out.mono ?_; rintro e w' ⟨rfl, rfl⟩)
    | (go_at_call 116; refine HK.out.mono ?_; rintro e w' ⟨rfl, rfl⟩)
    )
  exact bodyPost_ret (v := .agg #[.int .i32 (-2), .int .u8 (47), .int .i64 2]) (by simp [results, Tryz.results92, go_sem]) rfl ⟨rfl, (by repeat (first | exact Below.refl _ _ | refine Below.setCell ?_ (by simp) _ | refine Below.alloc ?_ (by simp) _))⟩
set_option maxHeartbeats 4000000 in
theorem esc_slo_true (w : World) (B : Nat) (c : CX) (V : LV) (p : PS) (h : PM w B c V p) (X : Int) (hX : pkT c.s (p.at_ + 1) = X) (hE : flg c.fl 1 = true) (h1 : X < 49) (n1 : X ≠ 110) (n2 : X ≠ 116) (n3 : X ≠ 47) (hS : spT X true = true) :
    Calls Tryz.prog 92 #[.pointer (some ⟨B, 0, none⟩)] w fun e w' => e = .returned (.agg #[.int .i32 (-2), .int .u8 (X % 256), .int .i64 2]) ∧ Below w.heap.size w w' := by
  have HM := Lib.hid (h.below (((Below.refl w.heap.size w).alloc (Nat.le_refl _) _) : Below w.heap.size w (w.alloc (.cells #[.int .i32 0, .int .u8 0, .int .i64 0] 88))))
  have HH := Lib.hid (has_any _ B c V p HM.out 1)
  have HK := Lib.hid (peekAt_any _ B c V p HM.out (p.at_ + 1) (by have := h.at_; have := h.sz; omega))
  have eat : ((p.at_ + 1 : Nat) : Int) = (p.at_ : Int) + 1 := by omega
  rw [eat, hX] at HK
  have hbi : (p.at_ : Int) ≤ 256 := by have := h.at_; have := h.sz; omega
  obtain ⟨⟨x0, x1, x2, x3, x4, x5, x6, x7⟩, xf⟩ := HM.out.pa.all
  rw [hE] at HH
  have g2 : decide (49 ≤ X) = false := by simp; omega
  have q110 : (X == 110) = false := by simp; omega
  have q116 : (X == 116) = false := by simp; omega
  have q47 : (X == 47) = false := by simp; omega
  have HS : Hid (∀ w, Calls Tryz.prog 72 #[.int .i32 X, .bool true] w fun e w' => e = .returned (.bool true) ∧ w = w') := fun w => by have := isSpecial_any X true w; rw [hS] at this; exact this
  clear hS
  clear h eat hX hE
  go_enter Tryz.func92, Tryz.ntmps92
  go_wp2_with (first
    | (go_at_call 110; refine HH.out.mono ?_; rintro e w' ⟨rfl, rfl⟩)
    | (go_at_call 116; refine HK.out.mono ?_; rintro e w' ⟨rfl, rfl⟩)
    | (go_at_call 72; refine (HS.out _).mono ?_; rintro e w' ⟨rfl, rfl⟩)
    )
  exact bodyPost_ret (v := .agg #[.int .i32 (-2), .int .u8 (X % 256), .int .i64 2]) (by simp [results, Tryz.results92, go_sem]) rfl ⟨rfl, (by repeat (first | exact Below.refl _ _ | refine Below.setCell ?_ (by simp) _ | refine Below.alloc ?_ (by simp) _))⟩
set_option maxHeartbeats 4000000 in
theorem esc_shi_true (w : World) (B : Nat) (c : CX) (V : LV) (p : PS) (h : PM w B c V p) (X : Int) (hX : pkT c.s (p.at_ + 1) = X) (hE : flg c.fl 1 = true) (h1 : 57 < X) (n1 : X ≠ 110) (n2 : X ≠ 116) (n3 : X ≠ 47) (hS : spT X true = true) :
    Calls Tryz.prog 92 #[.pointer (some ⟨B, 0, none⟩)] w fun e w' => e = .returned (.agg #[.int .i32 (-2), .int .u8 (X % 256), .int .i64 2]) ∧ Below w.heap.size w w' := by
  have HM := Lib.hid (h.below (((Below.refl w.heap.size w).alloc (Nat.le_refl _) _) : Below w.heap.size w (w.alloc (.cells #[.int .i32 0, .int .u8 0, .int .i64 0] 88))))
  have HH := Lib.hid (has_any _ B c V p HM.out 1)
  have HK := Lib.hid (peekAt_any _ B c V p HM.out (p.at_ + 1) (by have := h.at_; have := h.sz; omega))
  have eat : ((p.at_ + 1 : Nat) : Int) = (p.at_ : Int) + 1 := by omega
  rw [eat, hX] at HK
  have hbi : (p.at_ : Int) ≤ 256 := by have := h.at_; have := h.sz; omega
  obtain ⟨⟨x0, x1, x2, x3, x4, x5, x6, x7⟩, xf⟩ := HM.out.pa.all
  rw [hE] at HH
  have g1 : 49 ≤ X := by omega
  have g2 : decide (X ≤ 57) = false := by simp; omega
  have q110 : (X == 110) = false := by simp; omega
  have q116 : (X == 116) = false := by simp; omega
  have q47 : (X == 47) = false := by simp; omega
  have HS : Hid (∀ w, Calls Tryz.prog 72 #[.int .i32 X, .bool true] w fun e w' => e = .returned (.bool true) ∧ w = w') := fun w => by have := isSpecial_any X true w; rw [hS] at this; exact this
  clear hS
  clear h eat hX hE
  go_enter Tryz.func92, Tryz.ntmps92
  go_wp2_with (first
    | (go_at_call 110; refine HH.out.mono ?_; rintro e w' ⟨rfl, rfl⟩)
    | (go_at_call 116; refine HK.out.mono ?_; rintro e w' ⟨rfl, rfl⟩)
    | (go_at_call 72; refine (HS.out _).mono ?_; rintro e w' ⟨rfl, rfl⟩)
    )
  exact bodyPost_ret (v := .agg #[.int .i32 (-2), .int .u8 (X % 256), .int .i64 2]) (by simp [results, Tryz.results92, go_sem]) rfl ⟨rfl, (by repeat (first | exact Below.refl _ _ | refine Below.setCell ?_ (by simp) _ | refine Below.alloc ?_ (by simp) _))⟩
set_option maxHeartbeats 4000000 in
theorem esc_slo_false (w : World) (B : Nat) (c : CX) (V : LV) (p : PS) (h : PM w B c V p) (X : Int) (hX : pkT c.s (p.at_ + 1) = X) (hE : flg c.fl 1 = false) (h1 : X < 49) (n1 : X ≠ 110) (n2 : X ≠ 116) (n3 : X ≠ 47) (hS : spT X false = true) :
    Calls Tryz.prog 92 #[.pointer (some ⟨B, 0, none⟩)] w fun e w' => e = .returned (.agg #[.int .i32 (-2), .int .u8 (X % 256), .int .i64 2]) ∧ Below w.heap.size w w' := by
  have HM := Lib.hid (h.below (((Below.refl w.heap.size w).alloc (Nat.le_refl _) _) : Below w.heap.size w (w.alloc (.cells #[.int .i32 0, .int .u8 0, .int .i64 0] 88))))
  have HH := Lib.hid (has_any _ B c V p HM.out 1)
  have HK := Lib.hid (peekAt_any _ B c V p HM.out (p.at_ + 1) (by have := h.at_; have := h.sz; omega))
  have eat : ((p.at_ + 1 : Nat) : Int) = (p.at_ : Int) + 1 := by omega
  rw [eat, hX] at HK
  have hbi : (p.at_ : Int) ≤ 256 := by have := h.at_; have := h.sz; omega
  obtain ⟨⟨x0, x1, x2, x3, x4, x5, x6, x7⟩, xf⟩ := HM.out.pa.all
  rw [hE] at HH
  have g2 : decide (49 ≤ X) = false := by simp; omega
  have q110 : (X == 110) = false := by simp; omega
  have q116 : (X == 116) = false := by simp; omega
  have q47 : (X == 47) = false := by simp; omega
  have HS : Hid (∀ w, Calls Tryz.prog 72 #[.int .i32 X, .bool false] w fun e w' => e = .returned (.bool true) ∧ w = w') := fun w => by have := isSpecial_any X false w; rw [hS] at this; exact this
  clear hS
  clear h eat hX hE
  go_enter Tryz.func92, Tryz.ntmps92
  go_wp2_with (first
    | (go_at_call 110; refine HH.out.mono ?_; rintro e w' ⟨rfl, rfl⟩)
    | (go_at_call 116; refine HK.out.mono ?_; rintro e w' ⟨rfl, rfl⟩)
    | (go_at_call 72; refine (HS.out _).mono ?_; rintro e w' ⟨rfl, rfl⟩)
    )
  exact bodyPost_ret (v := .agg #[.int .i32 (-2), .int .u8 (X % 256), .int .i64 2]) (by simp [results, Tryz.results92, go_sem]) rfl ⟨rfl, (by repeat (first | exact Below.refl _ _ | refine Below.setCell ?_ (by simp) _ | refine Below.alloc ?_ (by simp) _))⟩
set_option maxHeartbeats 4000000 in
theorem esc_shi_false (w : World) (B : Nat) (c : CX) (V : LV) (p : PS) (h : PM w B c V p) (X : Int) (hX : pkT c.s (p.at_ + 1) = X) (hE : flg c.fl 1 = false) (h1 : 57 < X) (n1 : X ≠ 110) (n2 : X ≠ 116) (n3 : X ≠ 47) (hS : spT X false = true) :
    Calls Tryz.prog 92 #[.pointer (some ⟨B, 0, none⟩)] w fun e w' => e = .returned (.agg #[.int .i32 (-2), .int .u8 (X % 256), .int .i64 2]) ∧ Below w.heap.size w w' := by
  have HM := Lib.hid (h.below (((Below.refl w.heap.size w).alloc (Nat.le_refl _) _) : Below w.heap.size w (w.alloc (.cells #[.int .i32 0, .int .u8 0, .int .i64 0] 88))))
  have HH := Lib.hid (has_any _ B c V p HM.out 1)
  have HK := Lib.hid (peekAt_any _ B c V p HM.out (p.at_ + 1) (by have := h.at_; have := h.sz; omega))
  have eat : ((p.at_ + 1 : Nat) : Int) = (p.at_ : Int) + 1 := by omega
  rw [eat, hX] at HK
  have hbi : (p.at_ : Int) ≤ 256 := by have := h.at_; have := h.sz; omega
  obtain ⟨⟨x0, x1, x2, x3, x4, x5, x6, x7⟩, xf⟩ := HM.out.pa.all
  rw [hE] at HH
  have g1 : 49 ≤ X := by omega
  have g2 : decide (X ≤ 57) = false := by simp; omega
  have q110 : (X == 110) = false := by simp; omega
  have q116 : (X == 116) = false := by simp; omega
  have q47 : (X == 47) = false := by simp; omega
  have HS : Hid (∀ w, Calls Tryz.prog 72 #[.int .i32 X, .bool false] w fun e w' => e = .returned (.bool true) ∧ w = w') := fun w => by have := isSpecial_any X false w; rw [hS] at this; exact this
  clear hS
  clear h eat hX hE
  go_enter Tryz.func92, Tryz.ntmps92
  go_wp2_with (first
    | (go_at_call 110; refine HH.out.mono ?_; rintro e w' ⟨rfl, rfl⟩)
    | (go_at_call 116; refine HK.out.mono ?_; rintro e w' ⟨rfl, rfl⟩)
    | (go_at_call 72; refine (HS.out _).mono ?_; rintro e w' ⟨rfl, rfl⟩)
    )
  exact bodyPost_ret (v := .agg #[.int .i32 (-2), .int .u8 (X % 256), .int .i64 2]) (by simp [results, Tryz.results92, go_sem]) rfl ⟨rfl, (by repeat (first | exact Below.refl _ _ | refine Below.setCell ?_ (by simp) _ | refine Below.alloc ?_ (by simp) _))⟩
set_option maxHeartbeats 4000000 in
theorem esc_b40 (w : World) (B : Nat) (c : CX) (V : LV) (p : PS) (h : PM w B c V p) (hX : pkT c.s (p.at_ + 1) = 40) (hE : flg c.fl 1 = false) :
    Calls Tryz.prog 92 #[.pointer (some ⟨B, 0, none⟩)] w fun e w' => e = .returned (.agg #[.int .i32 (40), .int .u8 (40), .int .i64 2]) ∧ Below w.heap.size w w' := by
  have HM := Lib.hid (h.below (((Below.refl w.heap.size w).alloc (Nat.le_refl _) _) : Below w.heap.size w (w.alloc (.cells #[.int .i32 0, .int .u8 0, .int .i64 0] 88))))
  have HH := Lib.hid (has_any _ B c V p HM.out 1)
  have HK := Lib.hid (peekAt_any _ B c V p HM.out (p.at_ + 1) (by have := h.at_; have := h.sz; omega))
  have eat : ((p.at_ + 1 : Nat) : Int) = (p.at_ : Int) + 1 := by omega
  rw [eat, hX] at HK
  have hbi : (p.at_ : Int) ≤ 256 := by have := h.at_; have := h.sz; omega
  obtain ⟨⟨x0, x1, x2, x3, x4, x5, x6, x7⟩, xf⟩ := HM.out.pa.all
  rw [hE] at HH
  have HS : Hid (∀ w, Calls Tryz.prog 72 #[.int .i32 40, .bool false] w fun e w' => e = .returned (.bool false) ∧ w = w') := fun w => isSpecial_any 40 false w
  clear h eat hX hE
  go_enter Tryz.func92, Tryz.ntmps92
  go_wp2_with (first
    | (go_at_call 110; refine HH.out.mono ?_; rintro e w' ⟨rfl, rfl⟩)
    | (go_at_call 116; refine HK.out.mono ?_; rintro e w' ⟨rfl, rfl⟩)
    | (go_at_call 72; refine (HS.out _).mono ?_; rintro e w' ⟨rfl, rfl⟩)
    )
  exact bodyPost_ret (v := .agg #[.int .i32 (40), .int .u8 (40), .int .i64 2]) (by simp [results, Tryz.results92, go_sem]) rfl ⟨rfl, (by repeat (first | exact Below.refl _ _ | refine Below.setCell ?_ (by simp) _ | refine Below.alloc ?_ (by simp) _))⟩
set_option maxHeartbeats 4000000 in
theorem esc_b41 (w : World) (B : Nat) (c : CX) (V : LV) (p : PS) (h : PM w B c V p) (hX : pkT c.s (p.at_ + 1) = 41) (hE : flg c.fl 1 = false) :
    Calls Tryz.prog 92 #[.pointer (some ⟨B, 0, none⟩)] w fun e w' => e = .returned (.agg #[.int .i32 (41), .int .u8 (41), .int .i64 2]) ∧ Below w.heap.size w w' := by
  have HM := Lib.hid (h.below (((Below.refl w.heap.size w).alloc (Nat.le_refl _) _) : Below w.heap.size w (w.alloc (.cells #[.int .i32 0, .int .u8 0, .int .i64 0] 88))))
  have HH := Lib.hid (has_any _ B c V p HM.out 1)
  have HK := Lib.hid (peekAt_any _ B c V p HM.out (p.at_ + 1) (by have := h.at_; have := h.sz; omega))
  have eat : ((p.at_ + 1 : Nat) : Int) = (p.at_ : Int) + 1 := by omega
  rw [eat, hX] at HK
  have hbi : (p.at_ : Int) ≤ 256 := by have := h.at_; have := h.sz; omega
  obtain ⟨⟨x0, x1, x2, x3, x4, x5, x6, x7⟩, xf⟩ := HM.out.pa.all
  rw [hE] at HH
  have HS : Hid (∀ w, Calls Tryz.prog 72 #[.int .i32 41, .bool false] w fun e w' => e = .returned (.bool false) ∧ w = w') := fun w => isSpecial_any 41 false w
  clear h eat hX hE
  go_enter Tryz.func92, Tryz.ntmps92
  go_wp2_with (first
    | (go_at_call 110; refine HH.out.mono ?_; rintro e w' ⟨rfl, rfl⟩)
    | (go_at_call 116; refine HK.out.mono ?_; rintro e w' ⟨rfl, rfl⟩)
    | (go_at_call 72; refine (HS.out _).mono ?_; rintro e w' ⟨rfl, rfl⟩)
    )
  exact bodyPost_ret (v := .agg #[.int .i32 (41), .int .u8 (41), .int .i64 2]) (by simp [results, Tryz.results92, go_sem]) rfl ⟨rfl, (by repeat (first | exact Below.refl _ _ | refine Below.setCell ?_ (by simp) _ | refine Below.alloc ?_ (by simp) _))⟩
set_option maxHeartbeats 4000000 in
theorem esc_b123 (w : World) (B : Nat) (c : CX) (V : LV) (p : PS) (h : PM w B c V p) (hX : pkT c.s (p.at_ + 1) = 123) (hE : flg c.fl 1 = false) :
    Calls Tryz.prog 92 #[.pointer (some ⟨B, 0, none⟩)] w fun e w' => e = .returned (.agg #[.int .i32 (123), .int .u8 (123), .int .i64 2]) ∧ Below w.heap.size w w' := by
  have HM := Lib.hid (h.below (((Below.refl w.heap.size w).alloc (Nat.le_refl _) _) : Below w.heap.size w (w.alloc (.cells #[.int .i32 0, .int .u8 0, .int .i64 0] 88))))
  have HH := Lib.hid (has_any _ B c V p HM.out 1)
  have HK := Lib.hid (peekAt_any _ B c V p HM.out (p.at_ + 1) (by have := h.at_; have := h.sz; omega))
  have eat : ((p.at_ + 1 : Nat) : Int) = (p.at_ : Int) + 1 := by omega
  rw [eat, hX] at HK
  have hbi : (p.at_ : Int) ≤ 256 := by have := h.at_; have := h.sz; omega
  obtain ⟨⟨x0, x1, x2, x3, x4, x5, x6, x7⟩, xf⟩ := HM.out.pa.all
  rw [hE] at HH
  have HS : Hid (∀ w, Calls Tryz.prog 72 #[.int .i32 123, .bool false] w fun e w' => e = .returned (.bool false) ∧ w = w') := fun w => isSpecial_any 123 false w
  clear h eat hX hE
  go_enter Tryz.func92, Tryz.ntmps92
  go_wp2_with (first
    | (go_at_call 110; refine HH.out.mono ?_; rintro e w' ⟨rfl, rfl⟩)
    | (go_at_call 116; refine HK.out.mono ?_; rintro e w' ⟨rfl, rfl⟩)
    | (go_at_call 72; refine (HS.out _).mono ?_; rintro e w' ⟨rfl, rfl⟩)
    )
  exact bodyPost_ret (v := .agg #[.int .i32 (123), .int .u8 (123), .int .i64 2]) (by simp [results, Tryz.results92, go_sem]) rfl ⟨rfl, (by repeat (first | exact Below.refl _ _ | refine Below.setCell ?_ (by simp) _ | refine Below.alloc ?_ (by simp) _))⟩
set_option maxHeartbeats 4000000 in
theorem esc_ilo_true (w : World) (B : Nat) (c : CX) (V : LV) (p : PS) (h : PM w B c V p) (X : Int) (hX : pkT c.s (p.at_ + 1) = X) (hE : flg c.fl 1 = true) (h1 : X < 49) (n1 : X ≠ 110) (n2 : X ≠ 116) (n3 : X ≠ 47) (hS : spT X true = false) :
    Calls Tryz.prog 92 #[.pointer (some ⟨B, 0, none⟩)] w fun e w' => e = .returned (.agg #[.int .i32 (-4), .int .u8 (X % 256), .int .i64 2]) ∧ Below w.heap.size w w' := by
  have HM := Lib.hid (h.below (((Below.refl w.heap.size w).alloc (Nat.le_refl _) _) : Below w.heap.size w (w.alloc (.cells #[.int .i32 0, .int .u8 0, .int .i64 0] 88))))
  have HH := Lib.hid (has_any _ B c V p HM.out 1)
  have HK := Lib.hid (peekAt_any _ B c V p HM.out (p.at_ + 1) (by have := h.at_; have := h.sz; omega))
  have eat : ((p.at_ + 1 : Nat) : Int) = (p.at_ : Int) + 1 := by omega
  rw [eat, hX] at HK
  have hbi : (p.at_ : Int) ≤ 256 := by have := h.at_; have := h.sz; omega
  obtain ⟨⟨x0, x1, x2, x3, x4, x5, x6, x7⟩, xf⟩ := HM.out.pa.all
  rw [hE] at HH
  have g2 : decide (49 ≤ X) = false := by simp; omega
  have q110 : (X == 110) = false := by simp; omega
  have q116 : (X == 116) = false := by simp; omega
  have q47 : (X == 47) = false := by simp; omega
  have HS : Hid (∀ w, Calls Tryz.prog 72 #[.int .i32 X, .bool true] w fun e w' => e = .returned (.bool false) ∧ w = w') := fun w => by have := isSpecial_any X true w; rw [hS] at this; exact this
  clear hS
  clear h eat hX hE
  go_enter Tryz.func92, Tryz.ntmps92
  go_wp2_with (first
    | (go_at_call 110; refine HH.out.mono ?_; rintro e w' ⟨rfl, rfl⟩)
    | (go_at_call 116; refine HK.out.mono ?_; rintro e w' ⟨rfl, rfl⟩)
    | (go_at_call 72; refine (HS.out _).mono ?_; rintro e w' ⟨rfl, rfl⟩)
    )
  exact bodyPost_ret (v := .agg #[.int .i32 (-4), .int .u8 (X % 256), .int .i64 2]) (by simp [results, Tryz.results92, go_sem]) rfl ⟨rfl, (by repeat (first | exact Below.refl _ _ | refine Below.setCell ?_ (by simp) _ | refine Below.alloc ?_ (by simp) _))⟩
set_option maxHeartbeats 4000000 in
theorem esc_ilo_false (w : World) (B : Nat) (c : CX) (V : LV) (p : PS) (h : PM w B c V p) (X : Int) (hX : pkT c.s (p.at_ + 1) = X) (hE : flg c.fl 1 = false) (h1 : X < 49) (n1 : X ≠ 110) (n2 : X ≠ 116) (n3 : X ≠ 47) (n4 : X ≠ 40) (n5 : X ≠ 41) (n6 : X ≠ 123) (hS : spT X false = false) :
    Calls Tryz.prog 92 #[.pointer (some ⟨B, 0, none⟩)] w fun e w' => e = .returned (.agg #[.int .i32 (-4), .int .u8 (X % 256), .int .i64 2]) ∧ Below w.heap.size w w' := by
  have HM := Lib.hid (h.below (((Below.refl w.heap.size w).alloc (Nat.le_refl _) _) : Below w.heap.size w (w.alloc (.cells #[.int .i32 0, .int .u8 0, .int .i64 0] 88))))
  have HH := Lib.hid (has_any _ B c V p HM.out 1)
  have HK := Lib.hid (peekAt_any _ B c V p HM.out (p.at_ + 1) (by have := h.at_; have := h.sz; omega))
  have eat : ((p.at_ + 1 : Nat) : Int) = (p.at_ : Int) + 1 := by omega
  rw [eat, hX] at HK
  have hbi : (p.at_ : Int) ≤ 256 := by have := h.at_; have := h.sz; omega
  obtain ⟨⟨x0, x1, x2, x3, x4, x5, x6, x7⟩, xf⟩ := HM.out.pa.all
  rw [hE] at HH
  have g2 : decide (49 ≤ X) = false := by simp; omega
  have q110 : (X == 110) = false := by simp; omega
  have q116 : (X == 116) = false := by simp; omega
  have q47 : (X == 47) = false := by simp; omega
  have q40 : (X == 40) = false := by simp; omega
  have q41 : (X == 41) = false := by simp; omega
  have q123 : (X == 123) = false := by simp; omega
  have HS : Hid (∀ w, Calls Tryz.prog 72 #[.int .i32 X, .bool false] w fun e w' => e = .returned (.bool false) ∧ w = w') := fun w => by have := isSpecial_any X false w; rw [hS] at this; exact this
  clear hS
  clear h eat hX hE
  go_enter Tryz.func92, Tryz.ntmps92
  go_wp2_with (first
    | (go_at_call 110; refine HH.out.mono ?_; rintro e w' ⟨rfl, rfl⟩)
    | (go_at_call 116; refine HK.out.mono ?_; rintro e w' ⟨rfl, rfl⟩)
    | (go_at_call 72; refine (HS.out _).mono ?_; rintro e w' ⟨rfl, rfl⟩)
    )
  exact bodyPost_ret (v := .agg #[.int .i32 (-4), .int .u8 (X % 256), .int .i64 2]) (by simp [results, Tryz.results92, go_sem]) rfl ⟨rfl, (by repeat (first | exact Below.refl _ _ | refine Below.setCell ?_ (by simp) _ | refine Below.alloc ?_ (by simp) _))⟩
set_option maxHeartbeats 4000000 in
theorem esc_ihi_true (w : World) (B : Nat) (c : CX) (V : LV) (p : PS) (h : PM w B c V p) (X : Int) (hX : pkT c.s (p.at_ + 1) = X) (hE : flg c.fl 1 = true) (h1 : 57 < X) (n1 : X ≠ 110) (n2 : X ≠ 116) (n3 : X ≠ 47) (hS : spT X true = false) :
    Calls Tryz.prog 92 #[.pointer (some ⟨B, 0, none⟩)] w fun e w' => e = .returned (.agg #[.int .i32 (-4), .int .u8 (X % 256), .int .i64 2]) ∧ Below w.heap.size w w' := by
  have HM := Lib.hid (h.below (((Below.refl w.heap.size w).alloc (Nat.le_refl _) _) : Below w.heap.size w (w.alloc (.cells #[.int .i32 0, .int .u8 0, .int .i64 0] 88))))
  have HH := Lib.hid (has_any _ B c V p HM.out 1)
  have HK := Lib.hid (peekAt_any _ B c V p HM.out (p.at_ + 1) (by have := h.at_; have := h.sz; omega))
  have eat : ((p.at_ + 1 : Nat) : Int) = (p.at_ : Int) + 1 := by omega
  rw [eat, hX] at HK
  have hbi : (p.at_ : Int) ≤ 256 := by have := h.at_; have := h.sz; omega
  obtain ⟨⟨x0, x1, x2, x3, x4, x5, x6, x7⟩, xf⟩ := HM.out.pa.all
  rw [hE] at HH
  have g1 : 49 ≤ X := by omega
  have g2 : decide (X ≤ 57) = false := by simp; omega
  have q110 : (X == 110) = false := by simp; omega
  have q116 : (X == 116) = false := by simp; omega
  have q47 : (X == 47) = false := by simp; omega
  have HS : Hid (∀ w, Calls Tryz.prog 72 #[.int .i32 X, .bool true] w fun e w' => e = .returned (.bool false) ∧ w = w') := fun w => by have := isSpecial_any X true w; rw [hS] at this; exact this
  clear hS
  clear h eat hX hE
  go_enter Tryz.func92, Tryz.ntmps92
  go_wp2_with (first
    | (go_at_call 110; refine HH.out.mono ?_; rintro e w' ⟨rfl, rfl⟩)
    | (go_at_call 116; refine HK.out.mono ?_; rintro e w' ⟨rfl, rfl⟩)
    | (go_at_call 72; refine (HS.out _).mono ?_; rintro e w' ⟨rfl, rfl⟩)
    )
  exact bodyPost_ret (v := .agg #[.int .i32 (-4), .int .u8 (X % 256), .int .i64 2]) (by simp [results, Tryz.results92, go_sem]) rfl ⟨rfl, (by repeat (first | exact Below.refl _ _ | refine Below.setCell ?_ (by simp) _ | refine Below.alloc ?_ (by simp) _))⟩
set_option maxHeartbeats 4000000 in
theorem esc_ihi_false (w : World) (B : Nat) (c : CX) (V : LV) (p : PS) (h : PM w B c V p) (X : Int) (hX : pkT c.s (p.at_ + 1) = X) (hE : flg c.fl 1 = false) (h1 : 57 < X) (n1 : X ≠ 110) (n2 : X ≠ 116) (n3 : X ≠ 47) (n4 : X ≠ 40) (n5 : X ≠ 41) (n6 : X ≠ 123) (hS : spT X false = false) :
    Calls Tryz.prog 92 #[.pointer (some ⟨B, 0, none⟩)] w fun e w' => e = .returned (.agg #[.int .i32 (-4), .int .u8 (X % 256), .int .i64 2]) ∧ Below w.heap.size w w' := by
  have HM := Lib.hid (h.below (((Below.refl w.heap.size w).alloc (Nat.le_refl _) _) : Below w.heap.size w (w.alloc (.cells #[.int .i32 0, .int .u8 0, .int .i64 0] 88))))
  have HH := Lib.hid (has_any _ B c V p HM.out 1)
  have HK := Lib.hid (peekAt_any _ B c V p HM.out (p.at_ + 1) (by have := h.at_; have := h.sz; omega))
  have eat : ((p.at_ + 1 : Nat) : Int) = (p.at_ : Int) + 1 := by omega
  rw [eat, hX] at HK
  have hbi : (p.at_ : Int) ≤ 256 := by have := h.at_; have := h.sz; omega
  obtain ⟨⟨x0, x1, x2, x3, x4, x5, x6, x7⟩, xf⟩ := HM.out.pa.all
  rw [hE] at HH
  have g1 : 49 ≤ X := by omega
  have g2 : decide (X ≤ 57) = false := by simp; omega
  have q110 : (X == 110) = false := by simp; omega
  have q116 : (X == 116) = false := by simp; omega
  have q47 : (X == 47) = false := by simp; omega
  have q40 : (X == 40) = false := by simp; omega
  have q41 : (X == 41) = false := by simp; omega
  have q123 : (X == 123) = false := by simp; omega
  have HS : Hid (∀ w, Calls Tryz.prog 72 #[.int .i32 X, .bool false] w fun e w' => e = .returned (.bool false) ∧ w = w') := fun w => by have := isSpecial_any X false w; rw [hS] at this; exact this
  clear hS
  clear h eat hX hE
  go_enter Tryz.func92, Tryz.ntmps92
  go_wp2_with (first
    | (go_at_call 110; refine HH.out.mono ?_; rintro e w' ⟨rfl, rfl⟩)
    | (go_at_call 116; refine HK.out.mono ?_; rintro e w' ⟨rfl, rfl⟩)
    | (go_at_call 72; refine (HS.out _).mono ?_; rintro e w' ⟨rfl, rfl⟩)
    )
  exact bodyPost_ret (v := .agg #[.int .i32 (-4), .int .u8 (X % 256), .int .i64 2]) (by simp [results, Tryz.results92, go_sem]) rfl ⟨rfl, (by repeat (first | exact Below.refl _ _ | refine Below.setCell ?_ (by simp) _ | refine Below.alloc ?_ (by simp) _))⟩
theorem escape_any (w : World) (B : Nat) (c : CX) (V : LV) (p : PS) (h : PM w B c V p) :
    Calls Tryz.prog 92 #[.pointer (some ⟨B, 0, none⟩)] w fun e w' => e = .returned (tokV ((escT c (pkT c.s (p.at_ + 1))).1, (escT c (pkT c.s (p.at_ + 1))).2, 2)) ∧ Below w.heap.size w w' := by
  unfold tokV
  obtain ⟨X, hX⟩ : ∃ X, pkT c.s (p.at_ + 1) = X := ⟨_, rfl⟩
  rw [hX]
  obtain ⟨E, hE⟩ : ∃ E, flg c.fl 1 = E := ⟨_, rfl⟩
  have hE2 : c.ext = E := hE
  unfold escT
  rw [hE2]
  by_cases n1 : X = 110
  · subst n1; exact esc_n w B c V p h hX
  rw [if_neg n1]
  by_cases n2 : X = 116
  · subst n2; exact esc_t w B c V p h hX
  rw [if_neg n2]
  by_cases n0 : 49 ≤ X ∧ X ≤ 57
  · rw [if_pos n0]; exact esc_d w B c V p h X hX n0.1 n0.2
  rw [if_neg n0]
  have hd : X < 49 ∨ 57 < X := by omega
  by_cases n3 : X = 47
  · subst n3; rw [if_pos rfl]; exact esc_slash w B c V p h hX
  rw [if_neg n3]
  by_cases hS : spT X E = true
  · rw [if_pos hS]
    cases E with
    | true => rcases hd with hd | hd
              · exact esc_slo_true w B c V p h X hX hE hd n1 n2 n3 hS
              · exact esc_shi_true w B c V p h X hX hE hd n1 n2 n3 hS
    | false => rcases hd with hd | hd
               · exact esc_slo_false w B c V p h X hX hE hd n1 n2 n3 hS
               · exact esc_shi_false w B c V p h X hX hE hd n1 n2 n3 hS
  have hS2 : spT X E = false := by simpa using hS
  rw [if_neg hS]
  cases E with
  | true =>
    rw [if_neg (by rintro ⟨e, _⟩; cases e)]
    rcases hd with hd | hd
    · exact esc_ilo_true w B c V p h X hX hE hd n1 n2 n3 hS2
    · exact esc_ihi_true w B c V p h X hX hE hd n1 n2 n3 hS2
  | false =>
    by_cases m : X = 40 ∨ X = 41 ∨ X = 123
    · rw [if_pos ⟨rfl, m⟩]
      rcases m with rfl | rfl | rfl
      · exact esc_b40 w B c V p h hX hE
      · exact esc_b41 w B c V p h hX hE
      · exact esc_b123 w B c V p h hX hE
    · rw [if_neg (by rintro ⟨_, e⟩; exact m e)]
      rcases hd with hd | hd
      · exact esc_ilo_false w B c V p h X hX hE hd n1 n2 n3 (fun e => m (.inl e)) (fun e => m (.inr (.inl e))) (fun e => m (.inr (.inr e))) hS2
      · exact esc_ihi_false w B c V p h X hX hE hd n1 n2 n3 (fun e => m (.inl e)) (fun e => m (.inr (.inl e))) (fun e => m (.inr (.inr e))) hS2
end Go.Proofs.YtphiaagppcbefaaGreatDoor
