/- What digits denote, as the program and the reference of layer 2 reckon it. -/
import Derived.Test.YtdgbfblhiongoaaDoorDecStrB
namespace Go.Proofs.YtdgbfblhiongoaaDoor
open Go.RowKit

theorem dig_at (s : ByteArray) (k : Nat) (h : k < s.size) (ha : allD s.data.toList = true) : (48 : Int) ≤ (s[k].toNat : Int) ∧ (s[k].toNat : Int) ≤ 57 := by
  have := allD_at s k h ha
  omega

def frK (l : List UInt8) (k : Nat) : Int := ((nv (l.take k) * 10 ^ (4 - k) : Nat) : Int)
theorem frK_step (s : ByteArray) (k : Nat) (h : k < s.size) (h4 : k < 4) (ha : allD s.data.toList = true) (u : Nat) (hu : u = 10 ^ (3 - k)) :
    frK s.data.toList (k + 1) = frK s.data.toList k + ((s[k].toNat : Int) - 48) * (u : Int) := by
  unfold frK
  have hd := dig_at s k h ha
  rw [nv_take _ k (by rw [size_len]; exact h), show 4 - k = (3 - k) + 1 by omega, show 4 - (k + 1) = 3 - k by omega, Nat.pow_succ, ← hu]
  have hg : s.data.toList[k]'(by rw [size_len]; exact h) = s[k] := (get_list s k h).symm
  rw [hg]
  obtain ⟨d, hd'⟩ : ∃ d : Nat, s[k].toNat = d + 48 := ⟨s[k].toNat - 48, by omega⟩
  rw [hd', Nat.add_sub_cancel, Nat.add_mul]
  have e1 : ((d + 48 : Nat) : Int) - 48 = (d : Int) := by omega
  rw [e1, Int.natCast_add, Int.natCast_mul d u]
  congr 2
  rw [Nat.mul_assoc, Nat.mul_comm 10 u]
theorem frK_bd (l : List UInt8) (k : Nat) (_h4 : k ≤ 4) (hl : k ≤ l.length) (ha : allD l = true) : 0 ≤ frK l k ∧ frK l k ≤ 9999 := by
  have h1 := nv_bound (l.take k) (allD_take l k ha)
  rw [List.length_take, Nat.min_eq_left hl] at h1
  unfold frK
  have e : 10 ^ k * 10 ^ (4 - k) = 10000 := by rw [← Nat.pow_add, show k + (4 - k) = 4 by omega]
  have := Nat.mul_lt_mul_of_pos_right h1 (Nat.pow_pos (a := 10) (n := 4 - k) (by omega))
  omega
theorem frK_all (l : List UInt8) : frK l l.length = (fr l : Int) := by
  unfold frK fr; rw [List.take_length]

theorem frK_zero (l : List UInt8) : frK l 0 = 0 := by
  have h : nv (l.take 0) = 0 := rfl
  unfold frK; rw [h, Nat.zero_mul]; rfl

theorem units_cell (w : World) (k : Nat) (h : k < 4) (hU : unitsAt w) : w.cell? ⟨0, k + 1, none⟩ = some (.int .i64 ((10 ^ (3 - k) : Nat) : Int)) := by
  obtain ⟨_, _, u1, u2, u3, u4⟩ := hU
  have hk : k = 0 ∨ k = 1 ∨ k = 2 ∨ k = 3 := by omega
  rcases hk with rfl | rfl | rfl | rfl
  · exact u1
  · exact u2
  · exact u3
  · exact u4

set_option maxHeartbeats 400000 in
theorem frac_any (s : ByteArray) (w : World) (hs : s.size ≤ 4) (hd : allD s.data.toList = true) (hU : unitsAt w) :
    Calls Tryd.prog 57 #[.string s] w fun e w' => e = .returned (.int .i64 (fr s.data.toList)) ∧ Below w.heap.size w w' := by
  have HD : Hid (allD s.data.toList = true) := hd
  have HU : Hid (unitsAt w) := hU
  clear hd hU
  go_enter Tryd.func57, Tryd.ntmps57
  go_wp2
  go_loopw [3, 7] (fun v i wr => ∃ (k : Nat) (x : Int), k ≤ s.size ∧ i = .int .i64 k ∧ v = .int .i64 x ∧ 0 ≤ x ∧ x ≤ 9999 ∧ Hid (frK s.data.toList k = x) ∧ Below w.heap.size w wr) (fun _ i _ => s.size - (intOf i).toNat)
  case atStart => exact ⟨0, 0, Nat.zero_le _, rfl, rfl, by omega, by omega, frK_zero _, Below.refl _ _⟩
  case round =>
    obtain ⟨k, x, hk, rfl, rfl, x1, x2, hx, hb⟩ := hrel
    by_cases hlt : k < s.size
    · obtain ⟨c1, c2⟩ := dig_at s k hlt HD.out
      have hcell := units_cell wr k (by omega) (HU.out.below hb)
      have hstep := frK_step s k hlt (by omega) HD.out (10 ^ (3 - k)) rfl
      have hbd := frK_bd s.data.toList (k + 1) (by omega) (by rw [size_len]; omega) HD.out
      rw [hstep] at hbd
      rw [hx.out] at hstep hbd
      have hu : 1 ≤ 10 ^ (3 - k) ∧ 10 ^ (3 - k) ≤ 1000 := ⟨Nat.pow_pos (by omega), by
        have : 10 ^ (3 - k) ≤ 10 ^ 3 := Nat.pow_le_pow_right (by omega) (by omega)
        exact this⟩
      generalize 10 ^ (3 - k) = u at *
      have p1 : 0 ≤ ((s[k].toNat : Int) - 48) * (u : Int) := Int.mul_nonneg (by omega) (by omega)
      obtain ⟨b1, b2⟩ := hbd
      have HS := Lib.hid hstep
      have HB := Lib.hid hb
      have q1 : IntKind.i64.wrap ((k : Int) + 1) = (k : Int) + 1 := IntWalk.i64_in _ (by omega)
      have q2 : (0 : Int) ≤ (k : Int) + 1 := by omega
      have q3 : ((k : Int) + 1).toNat = k + 1 := by omega
      have q4 : IntKind.u8.wrap ((s[k].toNat : Int) - 48) = (s[k].toNat : Int) - 48 := by simp [IntKind.wrap, IntKind.bits, IntKind.signed]; omega
      have q5 : IntKind.i64.wrap ((s[k].toNat : Int) - 48) = (s[k].toNat : Int) - 48 := IntWalk.i64_in _ (by omega)
      have q6 : IntKind.i64.wrap (((s[k].toNat : Int) - 48) * (u : Int)) = ((s[k].toNat : Int) - 48) * (u : Int) := IntWalk.i64_in _ (by omega)
      have q7 : IntKind.i64.wrap (x + ((s[k].toNat : Int) - 48) * (u : Int)) = x + ((s[k].toNat : Int) - 48) * (u : Int) := IntWalk.i64_in _ (by omega)
      have q8 : (k : Int) + 1 < 5 := by omega
      clear hstep hb hx
      go_wp2
      go_quiet (fail)
      clear q1 q2 q3 q4 q5 q6 q7
      go_wp2
      go_roundw
      case rel => exact ⟨k + 1, _, by omega, by go_num, rfl, b1, b2, HS.out, below_drewN HB.out _⟩
      case measure => simp [intOf]; omega
    · have hr : Hid (x = (fr s.data.toList : Int)) := by
        show x = (fr s.data.toList : Int)
        rw [← hx.out, ← frK_all _, size_len, show k = s.size by omega]
      clear hx
      go_wp2
      go_ret
      exact ⟨ret_i hr.out, hb⟩

set_option maxHeartbeats 400000 in
theorem bw_any (s : ByteArray) (w : World) (hs : s.size ≤ maxLen) (hd : allD s.data.toList = true) :
    Calls Tryd.prog 63 #[.string s] w fun e w' => e = .returned (.int .i64 (bw s.data.toList)) ∧ w = w' := by
  unfold maxLen at hs
  have HD : Hid (allD s.data.toList = true) := hd
  clear hd
  go_enter Tryd.func63, Tryd.ntmps63
  go_wp2
  go_loop [3, 7] (fun v i => ∃ (k x : Nat), k ≤ s.size ∧ i = .int .i64 k ∧ v = .int .i64 x ∧ x ≤ 10000000009 ∧ Hid (bw (s.data.toList.take k) = x)) (fun _ i => s.size - (intOf i).toNat)
  case atStart => exact ⟨0, 0, Nat.zero_le _, rfl, rfl, by omega, rfl⟩
  case round =>
    obtain ⟨k, x, hk, rfl, rfl, x2, hx⟩ := hrel
    by_cases hlt : k < s.size
    · by_cases hbig : (1000000000 : Int) < (x : Int)
      · have hr : Hid ((x : Int) = (bw s.data.toList : Int)) := by
          show (x : Int) = (bw s.data.toList : Int)
          have h1 := bw_take_stays s.data.toList k (by rw [hx.out]; omega)
          rw [h1, hx.out]
        clear hx
        go_wp2
        go_ret
        exact ⟨ret_i hr.out, rfl⟩
      · obtain ⟨c1, c2⟩ := dig_at s k hlt HD.out
        have hstep := bw_take s.data.toList k (by rw [size_len]; exact hlt)
        rw [hx.out, ← get_list s k hlt] at hstep
        unfold bwf at hstep
        rw [if_neg (by omega)] at hstep
        have HS := Lib.hid hstep
        clear hstep hx
        go_wp2
        go_round
        case rel => exact ⟨k + 1, x * 10 + (s[k].toNat - 48), by omega, by go_num, by congr 1; omega, by omega, HS⟩
        case measure => simp [intOf]; omega
    · have hr : Hid ((x : Int) = (bw s.data.toList : Int)) := by
        show (x : Int) = (bw s.data.toList : Int)
        rw [← hx.out, List.take_of_length_le (by rw [size_len]; omega)]
      clear hx
      go_wp2
      go_ret
      exact ⟨ret_i hr.out, rfl⟩

theorem signed_yes (x : Int) (w : World) (h : -9223372036854775807 ≤ x ∧ x ≤ 9223372036854775807) :
    Calls Tryd.prog 56 #[.int .i64 x, .bool true] w fun e w' => e = .returned (.int .i64 (-x)) ∧ w = w' := by
  obtain ⟨h1, h2⟩ := h
  go_enter Tryd.func56, Tryd.ntmps56
  go_wp2
  go_ret
  exact ⟨rfl, rfl⟩
theorem signed_no (x : Int) (w : World) :
    Calls Tryd.prog 56 #[.int .i64 x, .bool false] w fun e w' => e = .returned (.int .i64 x) ∧ w = w' := by
  go_enter Tryd.func56, Tryd.ntmps56
  go_wp2
  go_ret
  exact ⟨rfl, rfl⟩
def sgn (x : Int) (b : Bool) : Int := if b then -x else x
theorem signed_any (x : Int) (b : Bool) (w : World) (h : -9223372036854775807 ≤ x ∧ x ≤ 9223372036854775807) :
    Calls Tryd.prog 56 #[.int .i64 x, .bool b] w fun e w' => e = .returned (.int .i64 (sgn x b)) ∧ w = w' := by
  cases b
  · exact signed_no x w
  · exact signed_yes x w h

/-- A text without its sign. -/
def unsign (l : List UInt8) : List UInt8 := if hd 45 l then l.tail else cutP 43 l
theorem cutsign_any (s : ByteArray) (w : World) (hs : s.size ≤ maxLen) :
    Calls Tryd.prog 60 #[.string s] w fun e w' => e = .returned (.tuple #[.string (mk (unsign s.data.toList)), .bool (hd 45 s.data.toList)]) ∧ w = w' := by
  have HC : Hid (∀ w, Calls Tryd.prog 51 #[.string s, .string ⟨#[45]⟩] w fun e w' => e = .returned (.tuple #[.string (mk (cutP 45 s.data.toList)), .bool (hd 45 s.data.toList)]) ∧ w = w') := fun w => cutp45_any s w hs
  have HT : Hid (∀ w, Calls Tryd.prog 74 #[.string s, .string ⟨#[43]⟩] w fun e w' => e = .returned (.string (mk (cutP 43 s.data.toList))) ∧ w = w') := fun w => trimp_any s w hs
  unfold unsign
  unfold cutP at HC
  rcases tf (hd 45 s.data.toList) with h | h
  · rw [h] at HC ⊢
    simp only [if_true] at HC ⊢
    generalize mk s.data.toList.tail = t at *
    clear h hs
    go_enter Tryd.func60, Tryd.ntmps60
    go_wp2_with (go_at_call 51; refine (HC.out _).mono ?_; rintro e w' ⟨rfl, rfl⟩)
    go_ret2
    exact ⟨rfl, rfl⟩
  · rw [h] at HC ⊢
    simp only [Bool.false_eq_true, if_false] at HC ⊢
    generalize mk (cutP 43 s.data.toList) = t at *
    clear h hs
    go_enter Tryd.func60, Tryd.ntmps60
    go_wp2_with (first | (go_at_call 51; refine (HC.out _).mono ?_; rintro e w' ⟨rfl, rfl⟩) | (go_at_call 74; refine (HT.out _).mono ?_; rintro e w' ⟨rfl, rfl⟩))
    go_ret2
    exact ⟨rfl, rfl⟩

end Go.Proofs.YtdgbfblhiongoaaDoor
