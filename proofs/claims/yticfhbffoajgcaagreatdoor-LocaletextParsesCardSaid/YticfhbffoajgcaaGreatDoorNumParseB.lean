/- The loops that read digits: the program's (by its own product and difference) and the reference's. -/
import Derived.Test.YticfhbffoajgcaaGreatDoorNumParse
namespace Go.Proofs.YticfhbffoajgcaaGreatDoor
open Go.RowKit

theorem mul_yes (a b : Int) (w : World) (ha : fits a) (hb : fits b) (h : fits (a * b)) :
    Calls Tryz.prog 232 #[.int .i64 a, .int .i64 b] w fun e w' => e = .returned (.tuple #[.int .i64 (a * b), .int .i64 0]) ∧ w = w' :=
  (mul_any a b w ha hb).mono fun e w' ⟨h1, h2⟩ => ⟨by rw [h1, mulV, mulE, if_pos h, if_pos h], h2⟩
theorem mul_no (a b : Int) (w : World) (ha : fits a) (hb : fits b) (h : ¬ fits (a * b)) :
    Calls Tryz.prog 232 #[.int .i64 a, .int .i64 b] w fun e w' => e = .returned (.tuple #[.int .i64 0, .int .i64 9]) ∧ w = w' :=
  (mul_any a b w ha hb).mono fun e w' ⟨h1, h2⟩ => ⟨by rw [h1, mulV, mulE, if_neg h, if_neg h], h2⟩
theorem sub_yes (a b : Int) (w : World) (ha : fits a) (hb : fits b) (h : fits (a - b)) :
    Calls Tryz.prog 208 #[.int .i64 a, .int .i64 b] w fun e w' => e = .returned (.tuple #[.int .i64 (a - b), .int .i64 0]) ∧ w = w' :=
  (sub_any a b w ha hb).mono fun e w' ⟨h1, h2⟩ => ⟨by rw [h1, subV, subE, if_pos h, if_pos h], h2⟩
theorem sub_no (a b : Int) (w : World) (ha : fits a) (hb : fits b) (h : ¬ fits (a - b)) :
    Calls Tryz.prog 208 #[.int .i64 a, .int .i64 b] w fun e w' => e = .returned (.tuple #[.int .i64 0, .int .i64 9]) ∧ w = w' :=
  (sub_any a b w ha hb).mono fun e w' ⟨h1, h2⟩ => ⟨by rw [h1, subV, subE, if_neg h, if_neg h], h2⟩

def negV (l : List UInt8) : Int := if fits (val l) then val l else 0
def negE (l : List UInt8) : Int := if fits (val l) then 0 else 9
theorem ret_two {a b c d : Int} (h1 : a = c) (h2 : b = d) : Ending.returned (.tuple #[.int .i64 a, .int .i64 b]) = .returned (.tuple #[.int .i64 c, .int .i64 d]) := by rw [h1, h2]

/-- If a prefix of the digits is already out of range, then the whole is. -/
theorem out_of (s : ByteArray) (k : Nat) (ha : allD s.data.toList = true) (h : ¬ fits (val (s.data.toList.take k))) : ¬ fits (val s.data.toList) := by
  have h1 := val_take s.data.toList k ha
  have h2 := val_nonpos _ (allD_take _ k ha)
  unfold fits at *
  omega

set_option maxHeartbeats 400000 in
theorem negated_any (s : ByteArray) (w : World) (hs : s.size ≤ maxLen) (hd : allD s.data.toList = true) :
    Calls Tryz.prog 207 #[.string s] w fun e w' => e = .returned (.tuple #[.int .i64 (negV s.data.toList), .int .i64 (negE s.data.toList)]) ∧ w = w' := by
  unfold maxLen at hs
  have HD : Hid (allD s.data.toList = true) := hd
  clear hd
  go_enter Tryz.func207, Tryz.ntmps207
  go_wp2
  go_loop [4, 10] (fun v i => ∃ (k : Nat) (n : Int), k ≤ s.size ∧ i = .int .i64 k ∧ v = .int .i64 n ∧ -9223372036854775808 ≤ n ∧ n ≤ 0 ∧ Hid (val (s.data.toList.take k) = n)) (fun _ i => s.size - (intOf i).toNat)
  case atStart => exact ⟨0, 0, Nat.zero_le _, rfl, rfl, by omega, by omega, rfl⟩
  case round =>
    obtain ⟨k, n, hk, rfl, rfl, n1, n2, hv⟩ := hrel
    by_cases hlt : k < s.size
    · obtain ⟨c1, c2⟩ := allD_at s k hlt HD.out
      have c1 : (48 : Int) ≤ (s[k].toNat : Int) := by omega
      have c2 : (s[k].toNat : Int) ≤ 57 := by omega
      have hstep := val_step s k hlt
      rw [hv.out] at hstep
      have HS := Lib.hid hstep
      clear hstep
      have hfn : fits n := ⟨by omega, by omega⟩
      by_cases f1 : fits (n * 10)
      · have HM : Hid (∀ w, Calls Tryz.prog 232 #[.int .i64 n, .int .i64 10] w fun e w' => e = .returned (.tuple #[.int .i64 (n * 10), .int .i64 0]) ∧ w = w') :=
          fun w => mul_yes n 10 w hfn (by decide) f1
        by_cases f2 : fits (n * 10 - ((s[k].toNat : Int) - 48))
        · have HB : Hid (∀ w, Calls Tryz.prog 208 #[.int .i64 (n * 10), .int .i64 ((s[k].toNat : Int) - 48)] w fun e w' => e = .returned (.tuple #[.int .i64 (n * 10 - ((s[k].toNat : Int) - 48)), .int .i64 0]) ∧ w = w') :=
            fun w => sub_yes _ _ w f1 ⟨by omega, by omega⟩ f2
          have hlow := f2.1
          clear hfn f1 f2
          go_wp2_with (first | (go_at_call 232; refine (HM.out _).mono ?_; rintro e w' ⟨rfl, rfl⟩) | (go_at_call 208; refine (HB.out _).mono ?_; rintro e w' ⟨rfl, rfl⟩))
          go_round
          case rel => exact ⟨k + 1, _, by omega, by go_num, rfl, hlow, by omega, HS.out⟩
          case measure => simp [intOf]; omega
        · have HB : Hid (∀ w, Calls Tryz.prog 208 #[.int .i64 (n * 10), .int .i64 ((s[k].toNat : Int) - 48)] w fun e w' => e = .returned (.tuple #[.int .i64 0, .int .i64 9]) ∧ w = w') :=
            fun w => sub_no _ _ w f1 ⟨by omega, by omega⟩ f2
          have HO : Hid (¬ fits (val s.data.toList)) := out_of s (k + 1) HD.out (by rw [HS.out]; exact f2)
          clear hfn f1 f2
          go_wp2_with (first | (go_at_call 232; refine (HM.out _).mono ?_; rintro e w' ⟨rfl, rfl⟩) | (go_at_call 208; refine (HB.out _).mono ?_; rintro e w' ⟨rfl, rfl⟩))
          go_ret2
          exact ⟨ret_two (by rw [negV, if_neg HO.out]) (by rw [negE, if_neg HO.out]), rfl⟩
      · have HM : Hid (∀ w, Calls Tryz.prog 232 #[.int .i64 n, .int .i64 10] w fun e w' => e = .returned (.tuple #[.int .i64 0, .int .i64 9]) ∧ w = w') :=
          fun w => mul_no n 10 w hfn (by decide) f1
        have HO : Hid (¬ fits (val s.data.toList)) := out_of s (k + 1) HD.out (by rw [HS.out]; unfold fits at *; omega)
        clear hfn f1
        go_wp2_with (go_at_call 232; refine (HM.out _).mono ?_; rintro e w' ⟨rfl, rfl⟩)
        go_ret2
        exact ⟨ret_two (by rw [negV, if_neg HO.out]) (by rw [negE, if_neg HO.out]), rfl⟩
    · have HE : Hid (val s.data.toList = n) := by
        have := hv.out
        rw [List.take_of_length_le (by simp; omega)] at this
        exact this
      clear hv
      go_wp2
      go_ret2
      have hf : fits (val s.data.toList) := by rw [HE.out]; exact ⟨by omega, by omega⟩
      exact ⟨ret_two (by rw [negV, if_pos hf, HE.out]) (by rw [negE, if_pos hf]), rfl⟩

end Go.Proofs.YticfhbffoajgcaaGreatDoor
