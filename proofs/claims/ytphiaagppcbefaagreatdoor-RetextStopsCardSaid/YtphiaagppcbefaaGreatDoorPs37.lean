/- RxY. -/
import Derived.Test.YtphiaagppcbefaaGreatDoorPs36
import Derived.StillTailTactics
import Derived.Deep.CutRange
import Derived.Deep.Cut
import Derived.Deep.DeepCutAuto
import Derived.Deep.QuietTactic
import Derived.BigQuiet
set_option linter.unusedVariables false
namespace Go.Proofs.YtphiaagppcbefaaGreatDoor
open Go.RowKit
theorem any_rng (c : CX) (p : PS) : 0 ≤ (anyT c p).1 ∧ (anyT c p).1 < 256 := by
  unfold anyT
  split
  · show (0 : Int) ≤ 0 ∧ (0 : Int) < 256; omega
  · rename_i h; exact pk_ge h
theorem rnd_rng (c : CX) (p : PS) : 0 ≤ (rndT c p).1 ∧ (rndT c p).1 < 256 := by
  unfold rndT
  split
  · exact any_rng c _
  · simp only
    split <;> exact any_rng c p
theorem enc_rng (c : CX) (m : Int) (p : PS) : 0 ≤ (encT c m p).1 ∧ (encT c m p).1 < 256 := any_rng c _
set_option maxRecDepth 100000 in
set_option maxHeartbeats 8000000 in
theorem itm_cls (w : World) (B : Nat) (c : CX) (V : LV) (p : PS) (h : PM w B c V p) (hd1 : pkT c.s p.at_ = 91 ∧ pkT c.s (p.at_ + 1) = 58) (Q : Nat → Bool) (q1 : PS) (hr : clsT c p = (Q, q1)) :
    Calls Tryz.prog 107 #[.pointer (some ⟨B, 0, none⟩)] w fun e w' => e = .returned (cs (Q)) ∧ Stp w B c V (q1) w' := by
  have hx : Below w.heap.size w (w.alloc (.cells #[.int .u64 0, .int .u64 0, .int .u64 0, .int .u64 0] 32)) := (Below.refl _ _).alloc (Nat.le_refl _) _
  have HS := Lib.hid (Stp.of_below h hx)
  have HR := Lib.hid (At.nw w)
  have HL := Lib.hid h.lt
  have b1 : (p.at_ : Int) ≤ c.s.size := by have := h.at_; omega
  have b3 : (c.s.size : Int) ≤ 256 := by have := h.sz; omega
  obtain ⟨⟨x0, x1, x2, x3, x4, x5, x6, x7⟩, xf⟩ := HS.out.1.pa.all
  have HP1 : Hid (∀ W, Calls Tryz.prog 118 #[.string (c.s.extract p.at_ c.s.size), .string ⟨#[91, 58]⟩] W fun e w' => e = .returned (.bool true) ∧ W = w') := fun W => by
    have hh := hp_any (c.s.extract p.at_ c.s.size) ⟨#[91, 58]⟩ W
    have hd := hd1
    have hpre : List.isPrefixOf [91, 58] (c.s.extract p.at_ c.s.size).data.toList = true := by
      rw [pre2 c.s p.at_ 91 58]
      show (decide (pkT c.s p.at_ = 91) && decide (pkT c.s (p.at_ + 1) = 58)) = true
      rw [decide_eq_true hd.1, decide_eq_true hd.2]
      rfl
    rw [show (⟨#[91, 58]⟩ : ByteArray).data.toList = [91, 58] from rfl, hpre] at hh
    exact hh
  have HC : Hid (∀ W, PM W B c V p → Calls Tryz.prog 129 #[.pointer (some ⟨B, 0, none⟩)] W fun e w' => e = .returned (cs Q) ∧ Stp W B c V q1 w') := fun W h => by
    have := pclass_any W B c V p h (by have := pk_lt (s := c.s) (i := p.at_ + 1) (by rw [hd1.2]; decide); omega)
    rw [hr] at this
    exact this
  unfold cs cl at HC
  clear h hx hd1 hr
  go_enter Tryz.func107, Tryz.ntmps107
  go_upto_region 1 with fail
  go_quiet (fail)
  have HR := Lib.hid (HR.out.below (below_drewN (Below.refl _ _) nq) HR.out.lt)
  have HS := Lib.hid (HS.out.next (below_drewN (Below.refl _ _) nq))
  clear x0 x1 x2 x3 x4 x5 x6 x7 xf
  generalize World.drewN _ nq = wq at HS HR ⊢
  obtain ⟨⟨x0, x1, x2, x3, x4, x5, x6, x7⟩, xf⟩ := HS.out.1.pa.all
  have hp := HS.out.1
  obtain ⟨⟨r0, r1⟩, ⟨r2, r3⟩, rf⟩ := HR.out.words
  go_wp2_with (first
    | (go_at_call 118; (with_reducible refine (HP1.out _).mono ?_); rintro e w' ⟨rfl, rfl⟩)
    | (go_at_call 129; (with_reducible refine (HC.out _ hp).mono ?_); rintro e wz ⟨rfl, hs⟩; have HR := Lib.hid (HR.out.only hs.2 (by have := HL.out; omega)); have HS := Lib.hid (HS.out.trans hs); clear r0 r1 r2 r3 rf; clear x0 x1 x2 x3 x4 x5 x6 x7 xf; clear hs hp; have hp := HS.out.1; obtain ⟨⟨x0, x1, x2, x3, x4, x5, x6, x7⟩, xf⟩ := hp.pa.all; obtain ⟨⟨r0, r1⟩, ⟨r2, r3⟩, rf⟩ := HR.out.words; obtain ⟨⟨l0, l1, l2⟩, ⟨l3, l4, l5⟩⟩ := hp.pa.lcells)
    )
  exact bodyPost_ret (v := cs (Q)) (ret_cs (q := Q) Tryz.results107 _ _ w.heap.size (by simp) (HR.out.put4 (Q))) rfl ⟨rfl, HS.out.put4 HL.out _ (Nat.le_refl _) (Q)⟩
set_option maxRecDepth 100000 in
set_option maxHeartbeats 8000000 in
theorem itm_one (w : World) (B : Nat) (c : CX) (V : LV) (p : PS) (h : PM w B c V p) (hd1 : ¬ (pkT c.s p.at_ = 91 ∧ pkT c.s (p.at_ + 1) = 58)) (hd2 : ¬ (pkT c.s p.at_ = 91 ∧ pkT c.s (p.at_ + 1) = 61)) (A : Int) (q1 : PS) (hr : rndT c p = (A, q1)) (K1 K2 : Int) (hk1 : pkT c.s q1.at_ = K1) (hk2 : pkT c.s (q1.at_ + 1) = K2) (k1 : K1 ≠ 45) :
    Calls Tryz.prog 107 #[.pointer (some ⟨B, 0, none⟩)] w fun e w' => e = .returned (cs (between A.toNat A.toNat)) ∧ Stp w B c V (q1) w' := by
  have hx : Below w.heap.size w (w.alloc (.cells #[.int .u64 0, .int .u64 0, .int .u64 0, .int .u64 0] 32)) := (Below.refl _ _).alloc (Nat.le_refl _) _
  have HS := Lib.hid (Stp.of_below h hx)
  have HR := Lib.hid (At.nw w)
  have HL := Lib.hid h.lt
  have b1 : (p.at_ : Int) ≤ c.s.size := by have := h.at_; omega
  have b3 : (c.s.size : Int) ≤ 256 := by have := h.sz; omega
  obtain ⟨⟨x0, x1, x2, x3, x4, x5, x6, x7⟩, xf⟩ := HS.out.1.pa.all
  have HP1 : Hid (∀ W, Calls Tryz.prog 118 #[.string (c.s.extract p.at_ c.s.size), .string ⟨#[91, 58]⟩] W fun e w' => e = .returned (.bool false) ∧ W = w') := fun W => by
    have hh := hp_any (c.s.extract p.at_ c.s.size) ⟨#[91, 58]⟩ W
    have hd := hd1
    have hpre : List.isPrefixOf [91, 58] (c.s.extract p.at_ c.s.size).data.toList = false := by
      rw [pre2 c.s p.at_ 91 58]
      show (decide (pkT c.s p.at_ = 91) && decide (pkT c.s (p.at_ + 1) = 58)) = false
      by_cases h1 : pkT c.s p.at_ = 91
      · rw [decide_eq_false (p := pkT c.s (p.at_ + 1) = 58) (fun e => hd ⟨h1, e⟩), Bool.and_false]
      · rw [decide_eq_false h1, Bool.false_and]
    rw [show (⟨#[91, 58]⟩ : ByteArray).data.toList = [91, 58] from rfl, hpre] at hh
    exact hh
  have HP2 : Hid (∀ W, Calls Tryz.prog 118 #[.string (c.s.extract p.at_ c.s.size), .string ⟨#[91, 61]⟩] W fun e w' => e = .returned (.bool false) ∧ W = w') := fun W => by
    have hh := hp_any (c.s.extract p.at_ c.s.size) ⟨#[91, 61]⟩ W
    have hd := hd2
    have hpre : List.isPrefixOf [91, 61] (c.s.extract p.at_ c.s.size).data.toList = false := by
      rw [pre2 c.s p.at_ 91 61]
      show (decide (pkT c.s p.at_ = 91) && decide (pkT c.s (p.at_ + 1) = 61)) = false
      by_cases h1 : pkT c.s p.at_ = 91
      · rw [decide_eq_false (p := pkT c.s (p.at_ + 1) = 61) (fun e => hd ⟨h1, e⟩), Bool.and_false]
      · rw [decide_eq_false h1, Bool.false_and]
    rw [show (⟨#[91, 61]⟩ : ByteArray).data.toList = [91, 61] from rfl, hpre] at hh
    exact hh
  have HRn : Hid (∀ W, PM W B c V p → Calls Tryz.prog 132 #[.pointer (some ⟨B, 0, none⟩)] W fun e w' => e = .returned (.int .u8 A) ∧ Stp W B c V q1 w') := fun W h => by
    have := rangeEnd_any W B c V p h
    rw [hr] at this
    exact this
  have HPk : Hid (∀ W, PM W B c V q1 → Calls Tryz.prog 91 #[.pointer (some ⟨B, 0, none⟩)] W fun e w' => e = .returned (.int .i32 K1) ∧ W = w') := fun W h => by
    have := peek_any W B c V q1 h
    rw [hk1] at this
    exact this
  have HPa : Hid (∀ W, PM W B c V q1 → Calls Tryz.prog 116 #[.pointer (some ⟨B, 0, none⟩), .int .i64 ((q1.at_ : Int) + 1)] W fun e w' => e = .returned (.int .i32 K2) ∧ W = w') := fun W h => by
    have := peekAt_any W B c V q1 h (q1.at_ + 1) (by have := h.at_; have := h.sz; omega)
    rw [show ((q1.at_ + 1 : Nat) : Int) = (q1.at_ : Int) + 1 by omega, hk2] at this
    exact this
  have hrg := rnd_rng c p
  rw [hr] at hrg
  have hq1 := (mv_rnd h.gd).b
  rw [hr] at hq1
  have b5 : (q1.at_ : Int) ≤ 256 := by have := h.sz; have h9 : q1.at_ ≤ c.s.size := hq1; omega
  have HRg : Hid (∀ W, Calls Tryz.prog 88 #[.int .u8 A, .int .u8 A] W fun e w' => e = .returned (cs (between A.toNat A.toNat)) ∧ Below W.heap.size W w') := fun W => by
    have h9 : 0 ≤ A ∧ A < 256 := hrg
    have := range_any A.toNat A.toNat (by omega) (by omega) W
    rw [show ((A.toNat : Nat) : Int) = A by omega] at this
    exact this
  unfold cs cl at HRg
  have r1z : (K1 == 45) = false := by simpa using k1
  have r1y : (K1 != 45) = true := by simpa using k1
  clear h hx hd1 hd2 hr hk1 hk2 k1 hrg hq1
  go_enter Tryz.func107, Tryz.ntmps107
  go_upto_region 1 with fail
  go_quiet (fail)
  have HR := Lib.hid (HR.out.below (below_drewN (Below.refl _ _) nq) HR.out.lt)
  have HS := Lib.hid (HS.out.next (below_drewN (Below.refl _ _) nq))
  clear x0 x1 x2 x3 x4 x5 x6 x7 xf
  generalize World.drewN _ nq = wq at HS HR ⊢
  obtain ⟨⟨x0, x1, x2, x3, x4, x5, x6, x7⟩, xf⟩ := HS.out.1.pa.all
  have hp := HS.out.1
  obtain ⟨⟨r0, r1⟩, ⟨r2, r3⟩, rf⟩ := HR.out.words
  go_wp2_with (first
    | (go_at_call 118; (with_reducible refine (HP1.out _).mono ?_); rintro e w' ⟨rfl, rfl⟩)
    | (go_at_call 118; (with_reducible refine (HP2.out _).mono ?_); rintro e w' ⟨rfl, rfl⟩)
    | (go_at_call 132; (with_reducible refine (HRn.out _ hp).mono ?_); rintro e wz ⟨rfl, hs⟩; have HR := Lib.hid (HR.out.only hs.2 (by have := HL.out; omega)); have HS := Lib.hid (HS.out.trans hs); clear r0 r1 r2 r3 rf; clear x0 x1 x2 x3 x4 x5 x6 x7 xf; clear hs hp; have hp := HS.out.1; obtain ⟨⟨x0, x1, x2, x3, x4, x5, x6, x7⟩, xf⟩ := hp.pa.all; obtain ⟨⟨r0, r1⟩, ⟨r2, r3⟩, rf⟩ := HR.out.words; obtain ⟨⟨l0, l1, l2⟩, ⟨l3, l4, l5⟩⟩ := hp.pa.lcells)
    | (go_at_call 91; (with_reducible refine (HPk.out _ hp).mono ?_); rintro e w' ⟨rfl, rfl⟩)
    | (go_at_call 88; (with_reducible refine (HRg.out _).mono ?_); rintro e wv ⟨rfl, hb⟩; have HR := Lib.hid (HR.out.below hb HR.out.lt); have HS := Lib.hid (HS.out.next hb); clear r0 r1 r2 r3 rf; clear x0 x1 x2 x3 x4 x5 x6 x7 xf; clear hb hp; have hp := HS.out.1; obtain ⟨⟨x0, x1, x2, x3, x4, x5, x6, x7⟩, xf⟩ := hp.pa.all; obtain ⟨⟨r0, r1⟩, ⟨r2, r3⟩, rf⟩ := HR.out.words)
    )
  exact bodyPost_ret (v := cs (between A.toNat A.toNat)) (ret_cs (q := between A.toNat A.toNat) Tryz.results107 _ _ w.heap.size (by simp) (HR.out.put4 (between A.toNat A.toNat))) rfl ⟨rfl, HS.out.put4 HL.out _ (Nat.le_refl _) (between A.toNat A.toNat)⟩
set_option maxRecDepth 100000 in
set_option maxHeartbeats 8000000 in
theorem itm_two (w : World) (B : Nat) (c : CX) (V : LV) (p : PS) (h : PM w B c V p) (hd1 : ¬ (pkT c.s p.at_ = 91 ∧ pkT c.s (p.at_ + 1) = 58)) (hd2 : ¬ (pkT c.s p.at_ = 91 ∧ pkT c.s (p.at_ + 1) = 61)) (A : Int) (q1 : PS) (hr : rndT c p = (A, q1)) (K1 K2 : Int) (hk1 : pkT c.s q1.at_ = K1) (hk2 : pkT c.s (q1.at_ + 1) = K2) (k1 : K1 = 45) (k2 : K2 = 93) :
    Calls Tryz.prog 107 #[.pointer (some ⟨B, 0, none⟩)] w fun e w' => e = .returned (cs (between A.toNat A.toNat)) ∧ Stp w B c V (q1) w' := by
  have hx : Below w.heap.size w (w.alloc (.cells #[.int .u64 0, .int .u64 0, .int .u64 0, .int .u64 0] 32)) := (Below.refl _ _).alloc (Nat.le_refl _) _
  have HS := Lib.hid (Stp.of_below h hx)
  have HR := Lib.hid (At.nw w)
  have HL := Lib.hid h.lt
  have b1 : (p.at_ : Int) ≤ c.s.size := by have := h.at_; omega
  have b3 : (c.s.size : Int) ≤ 256 := by have := h.sz; omega
  obtain ⟨⟨x0, x1, x2, x3, x4, x5, x6, x7⟩, xf⟩ := HS.out.1.pa.all
  have HP1 : Hid (∀ W, Calls Tryz.prog 118 #[.string (c.s.extract p.at_ c.s.size), .string ⟨#[91, 58]⟩] W fun e w' => e = .returned (.bool false) ∧ W = w') := fun W => by
    have hh := hp_any (c.s.extract p.at_ c.s.size) ⟨#[91, 58]⟩ W
    have hd := hd1
    have hpre : List.isPrefixOf [91, 58] (c.s.extract p.at_ c.s.size).data.toList = false := by
      rw [pre2 c.s p.at_ 91 58]
      show (decide (pkT c.s p.at_ = 91) && decide (pkT c.s (p.at_ + 1) = 58)) = false
      by_cases h1 : pkT c.s p.at_ = 91
      · rw [decide_eq_false (p := pkT c.s (p.at_ + 1) = 58) (fun e => hd ⟨h1, e⟩), Bool.and_false]
      · rw [decide_eq_false h1, Bool.false_and]
    rw [show (⟨#[91, 58]⟩ : ByteArray).data.toList = [91, 58] from rfl, hpre] at hh
    exact hh
  have HP2 : Hid (∀ W, Calls Tryz.prog 118 #[.string (c.s.extract p.at_ c.s.size), .string ⟨#[91, 61]⟩] W fun e w' => e = .returned (.bool false) ∧ W = w') := fun W => by
    have hh := hp_any (c.s.extract p.at_ c.s.size) ⟨#[91, 61]⟩ W
    have hd := hd2
    have hpre : List.isPrefixOf [91, 61] (c.s.extract p.at_ c.s.size).data.toList = false := by
      rw [pre2 c.s p.at_ 91 61]
      show (decide (pkT c.s p.at_ = 91) && decide (pkT c.s (p.at_ + 1) = 61)) = false
      by_cases h1 : pkT c.s p.at_ = 91
      · rw [decide_eq_false (p := pkT c.s (p.at_ + 1) = 61) (fun e => hd ⟨h1, e⟩), Bool.and_false]
      · rw [decide_eq_false h1, Bool.false_and]
    rw [show (⟨#[91, 61]⟩ : ByteArray).data.toList = [91, 61] from rfl, hpre] at hh
    exact hh
  have HRn : Hid (∀ W, PM W B c V p → Calls Tryz.prog 132 #[.pointer (some ⟨B, 0, none⟩)] W fun e w' => e = .returned (.int .u8 A) ∧ Stp W B c V q1 w') := fun W h => by
    have := rangeEnd_any W B c V p h
    rw [hr] at this
    exact this
  have HPk : Hid (∀ W, PM W B c V q1 → Calls Tryz.prog 91 #[.pointer (some ⟨B, 0, none⟩)] W fun e w' => e = .returned (.int .i32 K1) ∧ W = w') := fun W h => by
    have := peek_any W B c V q1 h
    rw [hk1] at this
    exact this
  have HPa : Hid (∀ W, PM W B c V q1 → Calls Tryz.prog 116 #[.pointer (some ⟨B, 0, none⟩), .int .i64 ((q1.at_ : Int) + 1)] W fun e w' => e = .returned (.int .i32 K2) ∧ W = w') := fun W h => by
    have := peekAt_any W B c V q1 h (q1.at_ + 1) (by have := h.at_; have := h.sz; omega)
    rw [show ((q1.at_ + 1 : Nat) : Int) = (q1.at_ : Int) + 1 by omega, hk2] at this
    exact this
  have hrg := rnd_rng c p
  rw [hr] at hrg
  have hq1 := (mv_rnd h.gd).b
  rw [hr] at hq1
  have b5 : (q1.at_ : Int) ≤ 256 := by have := h.sz; have h9 : q1.at_ ≤ c.s.size := hq1; omega
  have HRg : Hid (∀ W, Calls Tryz.prog 88 #[.int .u8 A, .int .u8 A] W fun e w' => e = .returned (cs (between A.toNat A.toNat)) ∧ Below W.heap.size W w') := fun W => by
    have h9 : 0 ≤ A ∧ A < 256 := hrg
    have := range_any A.toNat A.toNat (by omega) (by omega) W
    rw [show ((A.toNat : Nat) : Int) = A by omega] at this
    exact this
  unfold cs cl at HRg
  subst k1 k2
  clear h hx hd1 hd2 hr hk1 hk2 hrg hq1
  go_enter Tryz.func107, Tryz.ntmps107
  go_upto_region 1 with fail
  go_quiet (fail)
  have HR := Lib.hid (HR.out.below (below_drewN (Below.refl _ _) nq) HR.out.lt)
  have HS := Lib.hid (HS.out.next (below_drewN (Below.refl _ _) nq))
  clear x0 x1 x2 x3 x4 x5 x6 x7 xf
  generalize World.drewN _ nq = wq at HS HR ⊢
  obtain ⟨⟨x0, x1, x2, x3, x4, x5, x6, x7⟩, xf⟩ := HS.out.1.pa.all
  have hp := HS.out.1
  obtain ⟨⟨r0, r1⟩, ⟨r2, r3⟩, rf⟩ := HR.out.words
  go_wp2_with (first
    | (go_at_call 118; (with_reducible refine (HP1.out _).mono ?_); rintro e w' ⟨rfl, rfl⟩)
    | (go_at_call 118; (with_reducible refine (HP2.out _).mono ?_); rintro e w' ⟨rfl, rfl⟩)
    | (go_at_call 132; (with_reducible refine (HRn.out _ hp).mono ?_); rintro e wz ⟨rfl, hs⟩; have HR := Lib.hid (HR.out.only hs.2 (by have := HL.out; omega)); have HS := Lib.hid (HS.out.trans hs); clear r0 r1 r2 r3 rf; clear x0 x1 x2 x3 x4 x5 x6 x7 xf; clear hs hp; have hp := HS.out.1; obtain ⟨⟨x0, x1, x2, x3, x4, x5, x6, x7⟩, xf⟩ := hp.pa.all; obtain ⟨⟨r0, r1⟩, ⟨r2, r3⟩, rf⟩ := HR.out.words; obtain ⟨⟨l0, l1, l2⟩, ⟨l3, l4, l5⟩⟩ := hp.pa.lcells)
    | (go_at_call 91; (with_reducible refine (HPk.out _ hp).mono ?_); rintro e w' ⟨rfl, rfl⟩)
    | (go_at_call 116; (with_reducible refine (HPa.out _ hp).mono ?_); rintro e w' ⟨rfl, rfl⟩)
    | (go_at_call 88; (with_reducible refine (HRg.out _).mono ?_); rintro e wv ⟨rfl, hb⟩; have HR := Lib.hid (HR.out.below hb HR.out.lt); have HS := Lib.hid (HS.out.next hb); clear r0 r1 r2 r3 rf; clear x0 x1 x2 x3 x4 x5 x6 x7 xf; clear hb hp; have hp := HS.out.1; obtain ⟨⟨x0, x1, x2, x3, x4, x5, x6, x7⟩, xf⟩ := hp.pa.all; obtain ⟨⟨r0, r1⟩, ⟨r2, r3⟩, rf⟩ := HR.out.words)
    )
  exact bodyPost_ret (v := cs (between A.toNat A.toNat)) (ret_cs (q := between A.toNat A.toNat) Tryz.results107 _ _ w.heap.size (by simp) (HR.out.put4 (between A.toNat A.toNat))) rfl ⟨rfl, HS.out.put4 HL.out _ (Nat.le_refl _) (between A.toNat A.toNat)⟩
set_option maxRecDepth 100000 in
set_option maxHeartbeats 8000000 in
theorem itm_rng1 (w : World) (B : Nat) (c : CX) (V : LV) (p : PS) (h : PM w B c V p) (hd1 : ¬ (pkT c.s p.at_ = 91 ∧ pkT c.s (p.at_ + 1) = 58)) (hd2 : ¬ (pkT c.s p.at_ = 91 ∧ pkT c.s (p.at_ + 1) = 61)) (A : Int) (q1 : PS) (hr : rndT c p = (A, q1)) (K1 K2 : Int) (hk1 : pkT c.s q1.at_ = K1) (hk2 : pkT c.s (q1.at_ + 1) = K2) (k1 : K1 = 45) (k2 : K2 ≠ 93) (A2 : Int) (q2 : PS) (hr2 : rndT c (q1.to (q1.at_ + 1)) = (A2, q2)) (hw : (vld c.L).wt A.toNat ≤ (vld c.L).wt A2.toNat) :
    Calls Tryz.prog 107 #[.pointer (some ⟨B, 0, none⟩)] w fun e w' => e = .returned (cs (btw (vld c.L) A.toNat A2.toNat)) ∧ Stp w B c V (q2) w' := by
  have hx : Below w.heap.size w (w.alloc (.cells #[.int .u64 0, .int .u64 0, .int .u64 0, .int .u64 0] 32)) := (Below.refl _ _).alloc (Nat.le_refl _) _
  have HS := Lib.hid (Stp.of_below h hx)
  have HR := Lib.hid (At.nw w)
  have HL := Lib.hid h.lt
  have b1 : (p.at_ : Int) ≤ c.s.size := by have := h.at_; omega
  have b3 : (c.s.size : Int) ≤ 256 := by have := h.sz; omega
  obtain ⟨⟨x0, x1, x2, x3, x4, x5, x6, x7⟩, xf⟩ := HS.out.1.pa.all
  have HP1 : Hid (∀ W, Calls Tryz.prog 118 #[.string (c.s.extract p.at_ c.s.size), .string ⟨#[91, 58]⟩] W fun e w' => e = .returned (.bool false) ∧ W = w') := fun W => by
    have hh := hp_any (c.s.extract p.at_ c.s.size) ⟨#[91, 58]⟩ W
    have hd := hd1
    have hpre : List.isPrefixOf [91, 58] (c.s.extract p.at_ c.s.size).data.toList = false := by
      rw [pre2 c.s p.at_ 91 58]
      show (decide (pkT c.s p.at_ = 91) && decide (pkT c.s (p.at_ + 1) = 58)) = false
      by_cases h1 : pkT c.s p.at_ = 91
      · rw [decide_eq_false (p := pkT c.s (p.at_ + 1) = 58) (fun e => hd ⟨h1, e⟩), Bool.and_false]
      · rw [decide_eq_false h1, Bool.false_and]
    rw [show (⟨#[91, 58]⟩ : ByteArray).data.toList = [91, 58] from rfl, hpre] at hh
    exact hh
  have HP2 : Hid (∀ W, Calls Tryz.prog 118 #[.string (c.s.extract p.at_ c.s.size), .string ⟨#[91, 61]⟩] W fun e w' => e = .returned (.bool false) ∧ W = w') := fun W => by
    have hh := hp_any (c.s.extract p.at_ c.s.size) ⟨#[91, 61]⟩ W
    have hd := hd2
    have hpre : List.isPrefixOf [91, 61] (c.s.extract p.at_ c.s.size).data.toList = false := by
      rw [pre2 c.s p.at_ 91 61]
      show (decide (pkT c.s p.at_ = 91) && decide (pkT c.s (p.at_ + 1) = 61)) = false
      by_cases h1 : pkT c.s p.at_ = 91
      · rw [decide_eq_false (p := pkT c.s (p.at_ + 1) = 61) (fun e => hd ⟨h1, e⟩), Bool.and_false]
      · rw [decide_eq_false h1, Bool.false_and]
    rw [show (⟨#[91, 61]⟩ : ByteArray).data.toList = [91, 61] from rfl, hpre] at hh
    exact hh
  have HRn : Hid (∀ W, PM W B c V p → Calls Tryz.prog 132 #[.pointer (some ⟨B, 0, none⟩)] W fun e w' => e = .returned (.int .u8 A) ∧ Stp W B c V q1 w') := fun W h => by
    have := rangeEnd_any W B c V p h
    rw [hr] at this
    exact this
  have HPk : Hid (∀ W, PM W B c V q1 → Calls Tryz.prog 91 #[.pointer (some ⟨B, 0, none⟩)] W fun e w' => e = .returned (.int .i32 K1) ∧ W = w') := fun W h => by
    have := peek_any W B c V q1 h
    rw [hk1] at this
    exact this
  have HPa : Hid (∀ W, PM W B c V q1 → Calls Tryz.prog 116 #[.pointer (some ⟨B, 0, none⟩), .int .i64 ((q1.at_ : Int) + 1)] W fun e w' => e = .returned (.int .i32 K2) ∧ W = w') := fun W h => by
    have := peekAt_any W B c V q1 h (q1.at_ + 1) (by have := h.at_; have := h.sz; omega)
    rw [show ((q1.at_ + 1 : Nat) : Int) = (q1.at_ : Int) + 1 by omega, hk2] at this
    exact this
  have hrg := rnd_rng c p
  rw [hr] at hrg
  have hq1 := (mv_rnd h.gd).b
  rw [hr] at hq1
  have b5 : (q1.at_ : Int) ≤ 256 := by have := h.sz; have h9 : q1.at_ ≤ c.s.size := hq1; omega
  subst k1
  have r2z : (K2 == 93) = false := by simpa using k2
  have HAc := Lib.hid (fun W h => acceptByte_yes W B c V q1 h 45 (by omega) hk1)
  have HRn2 : Hid (∀ W, PM W B c V (q1.to (q1.at_ + 1)) → Calls Tryz.prog 132 #[.pointer (some ⟨B, 0, none⟩)] W fun e w' => e = .returned (.int .u8 A2) ∧ Stp W B c V q2 w') := fun W h => by
    have := rangeEnd_any W B c V _ h
    rw [hr2] at this
    exact this
  have hrg2 := rnd_rng c (q1.to (q1.at_ + 1))
  rw [hr2] at hrg2
  have HBt : Hid (∀ W, LocM W c.L V.W V.C V.E → Calls Tryz.prog 133 #[.agg (lcl c.L V.W V.C V.E), .int .u8 A, .int .u8 A2] W fun e w' => e = .returned (.tuple #[cs (btw (vld c.L) A.toNat A2.toNat), .bool true]) ∧ Below W.heap.size W w') := fun W hM => by
    have h9 : 0 ≤ A ∧ A < 256 := hrg
    have h8 : 0 ≤ A2 ∧ A2 < 256 := hrg2
    have := pBetween_any c.L V.W V.C V.E A.toNat A2.toNat (by omega) (by omega) W hM
    rw [show ((A.toNat : Nat) : Int) = A by omega, show ((A2.toNat : Nat) : Int) = A2 by omega] at this
    simp only [if_pos hw] at this
    exact this
  generalize btw (vld c.L) A.toNat A2.toNat = QB at *
  unfold cs cl lcl at HBt
  clear h hx hd1 hd2 hr hk1 hk2 hrg hq1 k2 hr2 hrg2 hw
  go_enter Tryz.func107, Tryz.ntmps107
  go_upto_region 1 with fail
  go_quiet (fail)
  have HR := Lib.hid (HR.out.below (below_drewN (Below.refl _ _) nq) HR.out.lt)
  have HS := Lib.hid (HS.out.next (below_drewN (Below.refl _ _) nq))
  clear x0 x1 x2 x3 x4 x5 x6 x7 xf
  generalize World.drewN _ nq = wq at HS HR ⊢
  obtain ⟨⟨x0, x1, x2, x3, x4, x5, x6, x7⟩, xf⟩ := HS.out.1.pa.all
  have hp := HS.out.1
  obtain ⟨⟨r0, r1⟩, ⟨r2, r3⟩, rf⟩ := HR.out.words
  go_wp2_with (first
    | (go_at_call 118; (with_reducible refine (HP1.out _).mono ?_); rintro e w' ⟨rfl, rfl⟩)
    | (go_at_call 118; (with_reducible refine (HP2.out _).mono ?_); rintro e w' ⟨rfl, rfl⟩)
    | (go_at_call 132; (with_reducible refine (HRn.out _ hp).mono ?_); rintro e wz ⟨rfl, hs⟩; have HR := Lib.hid (HR.out.only hs.2 (by have := HL.out; omega)); have HS := Lib.hid (HS.out.trans hs); clear r0 r1 r2 r3 rf; clear x0 x1 x2 x3 x4 x5 x6 x7 xf; clear hs hp; have hp := HS.out.1; obtain ⟨⟨x0, x1, x2, x3, x4, x5, x6, x7⟩, xf⟩ := hp.pa.all; obtain ⟨⟨r0, r1⟩, ⟨r2, r3⟩, rf⟩ := HR.out.words; obtain ⟨⟨l0, l1, l2⟩, ⟨l3, l4, l5⟩⟩ := hp.pa.lcells)
    | (go_at_call 132; (with_reducible refine (HRn2.out _ hp).mono ?_); rintro e wz ⟨rfl, hs⟩; have HR := Lib.hid (HR.out.only hs.2 (by have := HL.out; omega)); have HS := Lib.hid (HS.out.trans hs); clear r0 r1 r2 r3 rf; clear x0 x1 x2 x3 x4 x5 x6 x7 xf; clear hs hp; have hp := HS.out.1; obtain ⟨⟨x0, x1, x2, x3, x4, x5, x6, x7⟩, xf⟩ := hp.pa.all; obtain ⟨⟨r0, r1⟩, ⟨r2, r3⟩, rf⟩ := HR.out.words; obtain ⟨⟨l0, l1, l2⟩, ⟨l3, l4, l5⟩⟩ := hp.pa.lcells)
    | (go_at_call 91; (with_reducible refine (HPk.out _ hp).mono ?_); rintro e w' ⟨rfl, rfl⟩)
    | (go_at_call 116; (with_reducible refine (HPa.out _ hp).mono ?_); rintro e w' ⟨rfl, rfl⟩)
    | (go_at_call 106; (with_reducible refine (HAc.out _ hp).mono ?_); rintro e wz ⟨rfl, hs⟩; have HR := Lib.hid (HR.out.only hs.2 (by have := HL.out; omega)); have HS := Lib.hid (HS.out.trans hs); clear r0 r1 r2 r3 rf; clear x0 x1 x2 x3 x4 x5 x6 x7 xf; clear hs hp; have hp := HS.out.1; obtain ⟨⟨x0, x1, x2, x3, x4, x5, x6, x7⟩, xf⟩ := hp.pa.all; obtain ⟨⟨r0, r1⟩, ⟨r2, r3⟩, rf⟩ := HR.out.words; obtain ⟨⟨l0, l1, l2⟩, ⟨l3, l4, l5⟩⟩ := hp.pa.lcells)
    | (go_at_call 133; (with_reducible refine (HBt.out _ hp.lk.loc).mono ?_); rintro e wv ⟨rfl, hb⟩; have hx9 : Below _ _ (wv.alloc (.cells #[.int .u64 (wd QB 0 64 : Nat), .int .u64 (wd QB 64 64 : Nat), .int .u64 (wd QB 128 64 : Nat), .int .u64 (wd QB 192 64 : Nat)] 32)) := hb.alloc hb.size _; have HR := Lib.hid (HR.out.below hx9 HR.out.lt); have HS := Lib.hid (HS.out.next hx9); have HQ := Lib.hid (At.new wv QB); have HPB := Lib.hid (Nat.lt_of_lt_of_le hp.lt hb.size); clear r0 r1 r2 r3 rf l0 l1 l2 l3 l4 l5; clear x0 x1 x2 x3 x4 x5 x6 x7 xf; clear hb hp hx9; have hp := HS.out.1; obtain ⟨⟨x0, x1, x2, x3, x4, x5, x6, x7⟩, xf⟩ := hp.pa.all; obtain ⟨⟨r0, r1⟩, ⟨r2, r3⟩, rf⟩ := HR.out.words; obtain ⟨⟨t0, t1⟩, ⟨t2, t3⟩, tf⟩ := HQ.out.words)
    )
  exact bodyPost_ret (v := cs QB) (ret_cs (q := QB) Tryz.results107 _ _ w.heap.size (by simp) (HR.out.put4 QB)) rfl ⟨rfl, HS.out.put4 HL.out _ (Nat.le_refl _) QB⟩
set_option maxRecDepth 100000 in
set_option maxHeartbeats 8000000 in
theorem itm_rng0 (w : World) (B : Nat) (c : CX) (V : LV) (p : PS) (h : PM w B c V p) (hd1 : ¬ (pkT c.s p.at_ = 91 ∧ pkT c.s (p.at_ + 1) = 58)) (hd2 : ¬ (pkT c.s p.at_ = 91 ∧ pkT c.s (p.at_ + 1) = 61)) (A : Int) (q1 : PS) (hr : rndT c p = (A, q1)) (K1 K2 : Int) (hk1 : pkT c.s q1.at_ = K1) (hk2 : pkT c.s (q1.at_ + 1) = K2) (k1 : K1 = 45) (k2 : K2 ≠ 93) (A2 : Int) (q2 : PS) (hr2 : rndT c (q1.to (q1.at_ + 1)) = (A2, q2)) (hw : ¬ (vld c.L).wt A.toNat ≤ (vld c.L).wt A2.toNat) :
    Calls Tryz.prog 107 #[.pointer (some ⟨B, 0, none⟩)] w fun e w' => e = .returned (cs (noSet)) ∧ Stp w B c V (failT c q2 2 p.at_) w' := by
  have hx : Below w.heap.size w (w.alloc (.cells #[.int .u64 0, .int .u64 0, .int .u64 0, .int .u64 0] 32)) := (Below.refl _ _).alloc (Nat.le_refl _) _
  have HS := Lib.hid (Stp.of_below h hx)
  have HR := Lib.hid (At.nw w)
  have HL := Lib.hid h.lt
  have b1 : (p.at_ : Int) ≤ c.s.size := by have := h.at_; omega
  have b3 : (c.s.size : Int) ≤ 256 := by have := h.sz; omega
  obtain ⟨⟨x0, x1, x2, x3, x4, x5, x6, x7⟩, xf⟩ := HS.out.1.pa.all
  have HP1 : Hid (∀ W, Calls Tryz.prog 118 #[.string (c.s.extract p.at_ c.s.size), .string ⟨#[91, 58]⟩] W fun e w' => e = .returned (.bool false) ∧ W = w') := fun W => by
    have hh := hp_any (c.s.extract p.at_ c.s.size) ⟨#[91, 58]⟩ W
    have hd := hd1
    have hpre : List.isPrefixOf [91, 58] (c.s.extract p.at_ c.s.size).data.toList = false := by
      rw [pre2 c.s p.at_ 91 58]
      show (decide (pkT c.s p.at_ = 91) && decide (pkT c.s (p.at_ + 1) = 58)) = false
      by_cases h1 : pkT c.s p.at_ = 91
      · rw [decide_eq_false (p := pkT c.s (p.at_ + 1) = 58) (fun e => hd ⟨h1, e⟩), Bool.and_false]
      · rw [decide_eq_false h1, Bool.false_and]
    rw [show (⟨#[91, 58]⟩ : ByteArray).data.toList = [91, 58] from rfl, hpre] at hh
    exact hh
  have HP2 : Hid (∀ W, Calls Tryz.prog 118 #[.string (c.s.extract p.at_ c.s.size), .string ⟨#[91, 61]⟩] W fun e w' => e = .returned (.bool false) ∧ W = w') := fun W => by
    have hh := hp_any (c.s.extract p.at_ c.s.size) ⟨#[91, 61]⟩ W
    have hd := hd2
    have hpre : List.isPrefixOf [91, 61] (c.s.extract p.at_ c.s.size).data.toList = false := by
      rw [pre2 c.s p.at_ 91 61]
      show (decide (pkT c.s p.at_ = 91) && decide (pkT c.s (p.at_ + 1) = 61)) = false
      by_cases h1 : pkT c.s p.at_ = 91
      · rw [decide_eq_false (p := pkT c.s (p.at_ + 1) = 61) (fun e => hd ⟨h1, e⟩), Bool.and_false]
      · rw [decide_eq_false h1, Bool.false_and]
    rw [show (⟨#[91, 61]⟩ : ByteArray).data.toList = [91, 61] from rfl, hpre] at hh
    exact hh
  have HRn : Hid (∀ W, PM W B c V p → Calls Tryz.prog 132 #[.pointer (some ⟨B, 0, none⟩)] W fun e w' => e = .returned (.int .u8 A) ∧ Stp W B c V q1 w') := fun W h => by
    have := rangeEnd_any W B c V p h
    rw [hr] at this
    exact this
  have HPk : Hid (∀ W, PM W B c V q1 → Calls Tryz.prog 91 #[.pointer (some ⟨B, 0, none⟩)] W fun e w' => e = .returned (.int .i32 K1) ∧ W = w') := fun W h => by
    have := peek_any W B c V q1 h
    rw [hk1] at this
    exact this
  have HPa : Hid (∀ W, PM W B c V q1 → Calls Tryz.prog 116 #[.pointer (some ⟨B, 0, none⟩), .int .i64 ((q1.at_ : Int) + 1)] W fun e w' => e = .returned (.int .i32 K2) ∧ W = w') := fun W h => by
    have := peekAt_any W B c V q1 h (q1.at_ + 1) (by have := h.at_; have := h.sz; omega)
    rw [show ((q1.at_ + 1 : Nat) : Int) = (q1.at_ : Int) + 1 by omega, hk2] at this
    exact this
  have hrg := rnd_rng c p
  rw [hr] at hrg
  have hq1 := (mv_rnd h.gd).b
  rw [hr] at hq1
  have b5 : (q1.at_ : Int) ≤ 256 := by have := h.sz; have h9 : q1.at_ ≤ c.s.size := hq1; omega
  subst k1
  have r2z : (K2 == 93) = false := by simpa using k2
  have HAc := Lib.hid (fun W h => acceptByte_yes W B c V q1 h 45 (by omega) hk1)
  have HRn2 : Hid (∀ W, PM W B c V (q1.to (q1.at_ + 1)) → Calls Tryz.prog 132 #[.pointer (some ⟨B, 0, none⟩)] W fun e w' => e = .returned (.int .u8 A2) ∧ Stp W B c V q2 w') := fun W h => by
    have := rangeEnd_any W B c V _ h
    rw [hr2] at this
    exact this
  have hrg2 := rnd_rng c (q1.to (q1.at_ + 1))
  rw [hr2] at hrg2
  have HBt : Hid (∀ W, LocM W c.L V.W V.C V.E → Calls Tryz.prog 133 #[.agg (lcl c.L V.W V.C V.E), .int .u8 A, .int .u8 A2] W fun e w' => e = .returned (.tuple #[cs (noSet), .bool false]) ∧ Below W.heap.size W w') := fun W hM => by
    have h9 : 0 ≤ A ∧ A < 256 := hrg
    have h8 : 0 ≤ A2 ∧ A2 < 256 := hrg2
    have := pBetween_any c.L V.W V.C V.E A.toNat A2.toNat (by omega) (by omega) W hM
    rw [show ((A.toNat : Nat) : Int) = A by omega, show ((A2.toNat : Nat) : Int) = A2 by omega] at this
    simp only [if_neg hw] at this
    exact this
  generalize noSet = QB at *
  unfold cs cl lcl at HBt
  clear h hx hd1 hd2 hr hk1 hk2 hrg hq1 k2 hr2 hrg2 hw
  go_enter Tryz.func107, Tryz.ntmps107
  go_upto_region 1 with fail
  go_quiet (fail)
  have HR := Lib.hid (HR.out.below (below_drewN (Below.refl _ _) nq) HR.out.lt)
  have HS := Lib.hid (HS.out.next (below_drewN (Below.refl _ _) nq))
  clear x0 x1 x2 x3 x4 x5 x6 x7 xf
  generalize World.drewN _ nq = wq at HS HR ⊢
  obtain ⟨⟨x0, x1, x2, x3, x4, x5, x6, x7⟩, xf⟩ := HS.out.1.pa.all
  have hp := HS.out.1
  obtain ⟨⟨r0, r1⟩, ⟨r2, r3⟩, rf⟩ := HR.out.words
  go_wp2_with (first
    | (go_at_call 118; (with_reducible refine (HP1.out _).mono ?_); rintro e w' ⟨rfl, rfl⟩)
    | (go_at_call 118; (with_reducible refine (HP2.out _).mono ?_); rintro e w' ⟨rfl, rfl⟩)
    | (go_at_call 132; (with_reducible refine (HRn.out _ hp).mono ?_); rintro e wz ⟨rfl, hs⟩; have HR := Lib.hid (HR.out.only hs.2 (by have := HL.out; omega)); have HS := Lib.hid (HS.out.trans hs); clear r0 r1 r2 r3 rf; clear x0 x1 x2 x3 x4 x5 x6 x7 xf; clear hs hp; have hp := HS.out.1; obtain ⟨⟨x0, x1, x2, x3, x4, x5, x6, x7⟩, xf⟩ := hp.pa.all; obtain ⟨⟨r0, r1⟩, ⟨r2, r3⟩, rf⟩ := HR.out.words; obtain ⟨⟨l0, l1, l2⟩, ⟨l3, l4, l5⟩⟩ := hp.pa.lcells)
    | (go_at_call 132; (with_reducible refine (HRn2.out _ hp).mono ?_); rintro e wz ⟨rfl, hs⟩; have HR := Lib.hid (HR.out.only hs.2 (by have := HL.out; omega)); have HS := Lib.hid (HS.out.trans hs); clear r0 r1 r2 r3 rf; clear x0 x1 x2 x3 x4 x5 x6 x7 xf; clear hs hp; have hp := HS.out.1; obtain ⟨⟨x0, x1, x2, x3, x4, x5, x6, x7⟩, xf⟩ := hp.pa.all; obtain ⟨⟨r0, r1⟩, ⟨r2, r3⟩, rf⟩ := HR.out.words; obtain ⟨⟨l0, l1, l2⟩, ⟨l3, l4, l5⟩⟩ := hp.pa.lcells)
    | (go_at_call 91; (with_reducible refine (HPk.out _ hp).mono ?_); rintro e w' ⟨rfl, rfl⟩)
    | (go_at_call 116; (with_reducible refine (HPa.out _ hp).mono ?_); rintro e w' ⟨rfl, rfl⟩)
    | (go_at_call 106; (with_reducible refine (HAc.out _ hp).mono ?_); rintro e wz ⟨rfl, hs⟩; have HR := Lib.hid (HR.out.only hs.2 (by have := HL.out; omega)); have HS := Lib.hid (HS.out.trans hs); clear r0 r1 r2 r3 rf; clear x0 x1 x2 x3 x4 x5 x6 x7 xf; clear hs hp; have hp := HS.out.1; obtain ⟨⟨x0, x1, x2, x3, x4, x5, x6, x7⟩, xf⟩ := hp.pa.all; obtain ⟨⟨r0, r1⟩, ⟨r2, r3⟩, rf⟩ := HR.out.words; obtain ⟨⟨l0, l1, l2⟩, ⟨l3, l4, l5⟩⟩ := hp.pa.lcells)
    | (go_at_call 133; (with_reducible refine (HBt.out _ hp.lk.loc).mono ?_); rintro e wv ⟨rfl, hb⟩; have hx9 : Below _ _ (wv.alloc (.cells #[.int .u64 (wd QB 0 64 : Nat), .int .u64 (wd QB 64 64 : Nat), .int .u64 (wd QB 128 64 : Nat), .int .u64 (wd QB 192 64 : Nat)] 32)) := hb.alloc hb.size _; have HR := Lib.hid (HR.out.below hx9 HR.out.lt); have HS := Lib.hid (HS.out.next hx9); have HQ := Lib.hid (At.new wv QB); have HPB := Lib.hid (Nat.lt_of_lt_of_le hp.lt hb.size); clear r0 r1 r2 r3 rf l0 l1 l2 l3 l4 l5; clear x0 x1 x2 x3 x4 x5 x6 x7 xf; clear hb hp hx9; have hp := HS.out.1; obtain ⟨⟨x0, x1, x2, x3, x4, x5, x6, x7⟩, xf⟩ := hp.pa.all; obtain ⟨⟨r0, r1⟩, ⟨r2, r3⟩, rf⟩ := HR.out.words; obtain ⟨⟨t0, t1⟩, ⟨t2, t3⟩, tf⟩ := HQ.out.words)
    | (go_at_call 104; refine (fail_any _ B c V _ hp 2 p.at_).mono ?_; rintro e wz ⟨rfl, hs⟩; have HQ := Lib.hid (HQ.out.only hs.2 (by have := HPB.out; omega)); have HR := Lib.hid (HR.out.only hs.2 (by have := HL.out; omega)); have HS := Lib.hid (HS.out.trans hs); clear r0 r1 r2 r3 rf t0 t1 t2 t3 tf; clear x0 x1 x2 x3 x4 x5 x6 x7 xf; clear hs hp; obtain ⟨⟨r0, r1⟩, ⟨r2, r3⟩, rf⟩ := HR.out.words; obtain ⟨⟨t0, t1⟩, ⟨t2, t3⟩, tf⟩ := HQ.out.words)
    )
  exact bodyPost_ret (v := cs QB) (ret_cs (q := QB) Tryz.results107 _ _ w.heap.size (by simp) (HR.out.put4 QB)) rfl ⟨rfl, HS.out.put4 HL.out _ (Nat.le_refl _) QB⟩
set_option maxRecDepth 100000 in
set_option maxHeartbeats 8000000 in
theorem itm_eqv (w : World) (B : Nat) (c : CX) (V : LV) (p : PS) (h : PM w B c V p) (hd1 : ¬ (pkT c.s p.at_ = 91 ∧ pkT c.s (p.at_ + 1) = 58)) (hd2 : pkT c.s p.at_ = 91 ∧ pkT c.s (p.at_ + 1) = 61) (A : Int) (q1 : PS) (hr : encT c 61 p = (A, q1)) :
    Calls Tryz.prog 107 #[.pointer (some ⟨B, 0, none⟩)] w fun e w' => e = .returned (cs (eqv (vld c.L) A.toNat)) ∧ Stp w B c V q1 w' := by
  have hx : Below w.heap.size w (w.alloc (.cells #[.int .u64 0, .int .u64 0, .int .u64 0, .int .u64 0] 32)) := (Below.refl _ _).alloc (Nat.le_refl _) _
  have HS := Lib.hid (Stp.of_below h hx)
  have HR := Lib.hid (At.nw w)
  have HL := Lib.hid h.lt
  have b1 : (p.at_ : Int) ≤ c.s.size := by have := h.at_; omega
  have b3 : (c.s.size : Int) ≤ 256 := by have := h.sz; omega
  obtain ⟨⟨x0, x1, x2, x3, x4, x5, x6, x7⟩, xf⟩ := HS.out.1.pa.all
  have HP1 : Hid (∀ W, Calls Tryz.prog 118 #[.string (c.s.extract p.at_ c.s.size), .string ⟨#[91, 58]⟩] W fun e w' => e = .returned (.bool false) ∧ W = w') := fun W => by
    have hh := hp_any (c.s.extract p.at_ c.s.size) ⟨#[91, 58]⟩ W
    have hd := hd1
    have hpre : List.isPrefixOf [91, 58] (c.s.extract p.at_ c.s.size).data.toList = false := by
      rw [pre2 c.s p.at_ 91 58]
      show (decide (pkT c.s p.at_ = 91) && decide (pkT c.s (p.at_ + 1) = 58)) = false
      by_cases h1 : pkT c.s p.at_ = 91
      · rw [decide_eq_false (p := pkT c.s (p.at_ + 1) = 58) (fun e => hd ⟨h1, e⟩), Bool.and_false]
      · rw [decide_eq_false h1, Bool.false_and]
    rw [show (⟨#[91, 58]⟩ : ByteArray).data.toList = [91, 58] from rfl, hpre] at hh
    exact hh
  have HP2 : Hid (∀ W, Calls Tryz.prog 118 #[.string (c.s.extract p.at_ c.s.size), .string ⟨#[91, 61]⟩] W fun e w' => e = .returned (.bool true) ∧ W = w') := fun W => by
    have hh := hp_any (c.s.extract p.at_ c.s.size) ⟨#[91, 61]⟩ W
    have hd := hd2
    have hpre : List.isPrefixOf [91, 61] (c.s.extract p.at_ c.s.size).data.toList = true := by
      rw [pre2 c.s p.at_ 91 61]
      show (decide (pkT c.s p.at_ = 91) && decide (pkT c.s (p.at_ + 1) = 61)) = true
      rw [decide_eq_true hd.1, decide_eq_true hd.2]
      rfl
    rw [show (⟨#[91, 61]⟩ : ByteArray).data.toList = [91, 61] from rfl, hpre] at hh
    exact hh
  have HEn : Hid (∀ W, PM W B c V p → Calls Tryz.prog 131 #[.pointer (some ⟨B, 0, none⟩), .int .i32 61] W fun e w' => e = .returned (.int .u8 A) ∧ Stp W B c V q1 w') := fun W h => by
    have := enclosed_any W B c V p h 61 (by omega)
    rw [hr] at this
    exact this
  have hrg := enc_rng c 61 p
  rw [hr] at hrg
  have HEq : Hid (∀ W, LocM W c.L V.W V.C V.E → Calls Tryz.prog 130 #[.agg (lcl c.L V.W V.C V.E), .int .u8 A] W fun e w' => e = .returned (cs (eqv (vld c.L) A.toNat)) ∧ Below W.heap.size W w') := fun W hM => by
    have h9 : 0 ≤ A ∧ A < 256 := hrg
    have := pEquiv_any c.L V.W V.C V.E A.toNat (by omega) W hM
    rw [show ((A.toNat : Nat) : Int) = A by omega] at this
    exact this
  generalize eqv (vld c.L) A.toNat = QB at *
  unfold cs cl lcl at HEq
  clear h hx hd1 hd2 hr hrg
  go_enter Tryz.func107, Tryz.ntmps107
  go_upto_region 1 with fail
  go_quiet (fail)
  have HR := Lib.hid (HR.out.below (below_drewN (Below.refl _ _) nq) HR.out.lt)
  have HS := Lib.hid (HS.out.next (below_drewN (Below.refl _ _) nq))
  clear x0 x1 x2 x3 x4 x5 x6 x7 xf
  generalize World.drewN _ nq = wq at HS HR ⊢
  obtain ⟨⟨x0, x1, x2, x3, x4, x5, x6, x7⟩, xf⟩ := HS.out.1.pa.all
  have hp := HS.out.1
  obtain ⟨⟨r0, r1⟩, ⟨r2, r3⟩, rf⟩ := HR.out.words
  obtain ⟨⟨l0, l1, l2⟩, ⟨l3, l4, l5⟩⟩ := hp.pa.lcells
  go_upto_region 5 with (first
    | (go_at_call 118; (with_reducible refine (HP1.out _).mono ?_); rintro e w' ⟨rfl, rfl⟩)
    | (go_at_call 118; (with_reducible refine (HP2.out _).mono ?_); rintro e w' ⟨rfl, rfl⟩)
    )
  have HR := Lib.hid (HR.out.drew)
  have HS := Lib.hid (HS.out.drew)
  clear r0 r1 r2 r3 rf l0 l1 l2 l3 l4 l5
  clear x0 x1 x2 x3 x4 x5 x6 x7 xf
  clear hp
  have hp := HS.out.1
  obtain ⟨⟨x0, x1, x2, x3, x4, x5, x6, x7⟩, xf⟩ := hp.pa.all
  obtain ⟨⟨r0, r1⟩, ⟨r2, r3⟩, rf⟩ := HR.out.words
  obtain ⟨⟨l0, l1, l2⟩, ⟨l3, l4, l5⟩⟩ := hp.pa.lcells
  refine wp_region_held_drew (S := fun _ => True) (by kernel_rfl) ?_ (fun hHeld => ?_)
  · exact trivial
  refine wpAnyH_take (i := 0) (v := ?av0) rfl (by kernel_rfl) (by kernel_rfl) (by kernel_rfl) (fun _ _ _ h => h) (Or.inl ⟨by rfl, ?ay0⟩) (by assumption) ?ar0
  case ay0 =>
    intro wx hSw
    clear hSw
    go_simp
    first | done | (with_reducible rfl)
  (try simp only [Act.put, List.getElem_toArray, List.getElem_cons_zero, List.setIfInBounds_toArray, List.set_cons_zero, List.set_cons_succ])
  refine wpAnyH_take (i := 1) (v := ?av1) rfl (by kernel_rfl) (by kernel_rfl) (by kernel_rfl) (fun _ _ _ h => h) (Or.inl ⟨by rfl, ?ay1⟩) (by assumption) ?ar1
  case ay1 =>
    intro wx hSw
    clear hSw
    go_simp
    first | done | (with_reducible rfl)
  (try simp only [Act.put, List.getElem_toArray, List.getElem_cons_succ, List.getElem_cons_zero, List.setIfInBounds_toArray, List.set_cons_zero, List.set_cons_succ])
  refine wpAnyH_take (i := 2) (v := ?av2) rfl (by kernel_rfl) (by kernel_rfl) (by kernel_rfl) (fun _ _ _ h => h) (Or.inl ⟨by rfl, ?ay2⟩) (by assumption) ?ar2
  case ay2 =>
    intro wx hSw
    clear hSw
    go_simp
    first | done | (with_reducible rfl)
  (try simp only [Act.put, List.getElem_toArray, List.getElem_cons_succ, List.getElem_cons_zero, List.setIfInBounds_toArray, List.set_cons_zero, List.set_cons_succ])
  refine wpAnyH_take (i := 4) (v := ?av4) rfl (by kernel_rfl) (by kernel_rfl) (by kernel_rfl) (fun _ _ _ h => h) (Or.inl ⟨by rfl, ?ay4⟩) (by assumption) ?ar4
  case ay4 =>
    intro wx hSw
    clear hSw
    go_simp
    first | done | (with_reducible rfl)
  (try simp only [Act.put, List.getElem_toArray, List.getElem_cons_succ, List.getElem_cons_zero, List.setIfInBounds_toArray, List.set_cons_zero, List.set_cons_succ])
  refine wpAnyH_ready (rs := [3, 5]) (by kernel_rfl) (by simp) ?_
  refine AllReadyH.cons rfl (fun K hK => ?_) (AllReadyH.cons rfl (fun K hK => ?_) AllReadyH.nil)
  · go_simp
    refine hK.out _ _ trivial (fun _ => ?_)
    clear hK K
    (try simp only [Act.put, List.getElem_toArray, List.getElem_cons_succ, List.getElem_cons_zero, List.setIfInBounds_toArray, List.set_cons_zero, List.set_cons_succ])
    refine wpAnyH_ready (rs := [5]) (by kernel_rfl) (by simp) ?_
    refine AllReadyH.cons rfl (fun K hK => ?_) AllReadyH.nil
    go_simp
    go_at_call 131
    refine (HEn.out _ hp).mono ?_
    rintro e wz ⟨rfl, hs⟩
    have HR := Lib.hid (HR.out.only hs.2 (by have := HL.out; omega))
    have HS := Lib.hid (HS.out.trans hs)
    clear r0 r1 r2 r3 rf l0 l1 l2 l3 l4 l5
    clear x0 x1 x2 x3 x4 x5 x6 x7 xf
    clear hs hp
    have hp := HS.out.1
    obtain ⟨⟨x0, x1, x2, x3, x4, x5, x6, x7⟩, xf⟩ := hp.pa.all
    obtain ⟨⟨r0, r1⟩, ⟨r2, r3⟩, rf⟩ := HR.out.words
    obtain ⟨⟨l0, l1, l2⟩, ⟨l3, l4, l5⟩⟩ := hp.pa.lcells
    refine hK.out _ _ trivial (fun _ => ?_)
    clear hK K
    (try simp only [Act.put, List.getElem_toArray, List.getElem_cons_succ, List.getElem_cons_zero, List.setIfInBounds_toArray, List.set_cons_zero, List.set_cons_succ])
    refine wpAnyH_ready (rs := [6]) (by kernel_rfl) (by simp) ?_
    refine AllReadyH.cons rfl (fun K hK => ?_) AllReadyH.nil
    go_simp
    go_at_call 130
    refine (HEq.out _ hp.lk.loc).mono ?_
    rintro e wv ⟨rfl, hb⟩
    have HR := Lib.hid (HR.out.below hb HR.out.lt)
    have HS := Lib.hid (HS.out.next hb)
    clear r0 r1 r2 r3 rf l0 l1 l2 l3 l4 l5
    clear x0 x1 x2 x3 x4 x5 x6 x7 xf
    clear hb hp
    obtain ⟨⟨r0, r1⟩, ⟨r2, r3⟩, rf⟩ := HR.out.words
    refine hK.out _ _ trivial (fun _ => ?_)
    clear hK K
    (try simp only [Act.put, List.getElem_toArray, List.getElem_cons_succ, List.getElem_cons_zero, List.setIfInBounds_toArray, List.set_cons_zero, List.set_cons_succ])
    refine wpAnyH_ready (rs := [7]) (by kernel_rfl) (by simp) ?_
    refine AllReadyH.cons rfl (fun K hK => ?_) AllReadyH.nil
    go_simp
    refine hK.out _ _ trivial (fun _ => ?_)
    clear hK K
    (try simp only [Act.put, List.getElem_toArray, List.getElem_cons_succ, List.getElem_cons_zero, List.setIfInBounds_toArray, List.set_cons_zero, List.set_cons_succ])
    refine wpAnyH_done (by kernel_rfl) ?_ _
    go_wp2
    exact bodyPost_ret (v := cs QB) (ret_cs (q := QB) Tryz.results107 _ _ w.heap.size (by simp) (HR.out.put4 QB)) rfl ⟨rfl, HS.out.put4 HL.out _ (Nat.le_refl _) QB⟩
  · go_simp
    go_at_call 131
    refine (HEn.out _ hp).mono ?_
    rintro e wz ⟨rfl, hs⟩
    have HR := Lib.hid (HR.out.only hs.2 (by have := HL.out; omega))
    have HS := Lib.hid (HS.out.trans hs)
    clear r0 r1 r2 r3 rf l0 l1 l2 l3 l4 l5
    clear x0 x1 x2 x3 x4 x5 x6 x7 xf
    clear hs hp
    have hp := HS.out.1
    obtain ⟨⟨x0, x1, x2, x3, x4, x5, x6, x7⟩, xf⟩ := hp.pa.all
    obtain ⟨⟨r0, r1⟩, ⟨r2, r3⟩, rf⟩ := HR.out.words
    obtain ⟨⟨l0, l1, l2⟩, ⟨l3, l4, l5⟩⟩ := hp.pa.lcells
    refine hK.out _ _ trivial (fun _ => ?_)
    clear hK K
    (try simp only [Act.put, List.getElem_toArray, List.getElem_cons_succ, List.getElem_cons_zero, List.setIfInBounds_toArray, List.set_cons_zero, List.set_cons_succ])
    refine wpAnyH_ready (rs := [3]) (by kernel_rfl) (by simp) ?_
    refine AllReadyH.cons rfl (fun K hK => ?_) AllReadyH.nil
    go_simp
    refine hK.out _ _ trivial (fun _ => ?_)
    clear hK K
    (try simp only [Act.put, List.getElem_toArray, List.getElem_cons_succ, List.getElem_cons_zero, List.setIfInBounds_toArray, List.set_cons_zero, List.set_cons_succ])
    refine wpAnyH_ready (rs := [6]) (by kernel_rfl) (by simp) ?_
    refine AllReadyH.cons rfl (fun K hK => ?_) AllReadyH.nil
    go_simp
    go_at_call 130
    refine (HEq.out _ hp.lk.loc).mono ?_
    rintro e wv ⟨rfl, hb⟩
    have HR := Lib.hid (HR.out.below hb HR.out.lt)
    have HS := Lib.hid (HS.out.next hb)
    clear r0 r1 r2 r3 rf l0 l1 l2 l3 l4 l5
    clear x0 x1 x2 x3 x4 x5 x6 x7 xf
    clear hb hp
    obtain ⟨⟨r0, r1⟩, ⟨r2, r3⟩, rf⟩ := HR.out.words
    refine hK.out _ _ trivial (fun _ => ?_)
    clear hK K
    (try simp only [Act.put, List.getElem_toArray, List.getElem_cons_succ, List.getElem_cons_zero, List.setIfInBounds_toArray, List.set_cons_zero, List.set_cons_succ])
    refine wpAnyH_ready (rs := [7]) (by kernel_rfl) (by simp) ?_
    refine AllReadyH.cons rfl (fun K hK => ?_) AllReadyH.nil
    go_simp
    refine hK.out _ _ trivial (fun _ => ?_)
    clear hK K
    (try simp only [Act.put, List.getElem_toArray, List.getElem_cons_succ, List.getElem_cons_zero, List.setIfInBounds_toArray, List.set_cons_zero, List.set_cons_succ])
    refine wpAnyH_done (by kernel_rfl) ?_ _
    go_wp2
    exact bodyPost_ret (v := cs QB) (ret_cs (q := QB) Tryz.results107 _ _ w.heap.size (by simp) (HR.out.put4 QB)) rfl ⟨rfl, HS.out.put4 HL.out _ (Nat.le_refl _) QB⟩
theorem item_any (w : World) (B : Nat) (c : CX) (V : LV) (p : PS) (h : PM w B c V p) :
    Calls Tryz.prog 107 #[.pointer (some ⟨B, 0, none⟩)] w fun e w' => e = .returned (cs (itmT c p).1) ∧ Stp w B c V (itmT c p).2 w' := by
  unfold itmT
  by_cases hd1 : pkT c.s p.at_ = 91 ∧ pkT c.s (p.at_ + 1) = 58
  · rw [if_pos hd1]; exact itm_cls w B c V p h hd1 _ _ rfl
  rw [if_neg hd1]
  by_cases hd2 : pkT c.s p.at_ = 91 ∧ pkT c.s (p.at_ + 1) = 61
  · rw [if_pos hd2]; exact itm_eqv w B c V p h hd1 hd2 _ _ rfl
  rw [if_neg hd2]
  obtain ⟨⟨A, q1⟩, hr⟩ : ∃ r, rndT c p = r := ⟨_, rfl⟩
  rw [hr]
  simp only
  by_cases k1 : pkT c.s q1.at_ = 45
  · by_cases k2 : pkT c.s (q1.at_ + 1) = 93
    · rw [if_neg (fun e => e.2 k2)]
      exact itm_two w B c V p h hd1 hd2 A q1 hr _ _ rfl rfl k1 k2
    · rw [if_pos ⟨k1, k2⟩]
      obtain ⟨⟨A2, q2⟩, hr2⟩ : ∃ r, rndT c (q1.to (q1.at_ + 1)) = r := ⟨_, rfl⟩
      rw [hr2]
      by_cases hw : (vld c.L).wt A.toNat ≤ (vld c.L).wt A2.toNat
      · rw [if_pos hw]; exact itm_rng1 w B c V p h hd1 hd2 A q1 hr _ _ rfl rfl k1 k2 A2 q2 hr2 hw
      · rw [if_neg hw]; exact itm_rng0 w B c V p h hd1 hd2 A q1 hr _ _ rfl rfl k1 k2 A2 q2 hr2 hw
  · rw [if_neg (fun e => k1 e.1)]
    exact itm_one w B c V p h hd1 hd2 A q1 hr _ _ rfl rfl k1
end Go.Proofs.YtphiaagppcbefaaGreatDoor
