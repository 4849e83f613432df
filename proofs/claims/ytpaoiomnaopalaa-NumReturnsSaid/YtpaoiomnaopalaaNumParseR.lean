/- Reading an int: the reference's Parse. -/
import Derived.Test.YtpaoiomnaopalaaNumLaws
namespace Go.Proofs.Ytpaoiomnaopalaa
open Go.RowKit

theorem tdiv10 (x : Int) (h : x ≤ 0) : x.tdiv 10 = -((-x) / 10) := by
  have e : x = -(-x) := by omega
  rw [e, Int.neg_tdiv, Int.tdiv_eq_ediv_of_nonneg (by omega)]
  simp

/-- The reference's test: would the next digit lead out of range? -/
theorem rtest (n d : Int) (h1 : 0 ≤ d) (h2 : d ≤ 9) : n < (-9223372036854775808 + d).tdiv 10 ↔ 10 * n - d < -9223372036854775808 := by
  rw [tdiv10 _ (by omega)]; omega
theorem rtest_lo (d : Int) (h1 : 0 ≤ d) (h2 : d ≤ 9) : -9223372036854775808 ≤ (-9223372036854775808 + d).tdiv 10 ∧ (-9223372036854775808 + d).tdiv 10 ≤ 0 := by
  rw [tdiv10 _ (by omega)]; omega

theorem rparse_plain (s : ByteArray) (w : World) (hs : s.size ≤ maxLen) (hp : 0 < s.size) (hm : minus s.data.toList = false) :
    Calls Try.prog 17 #[.string s] w fun e w' => e = .returned (.tuple #[.int .i64 (parseV s.data.toList), .int .i64 (parseE s.data.toList)]) ∧ w = w' := by
  have hmx := hs
  unfold maxLen at hs
  have hg : digitsOf s.data.toList = s.data.toList := by unfold digitsOf; rw [hm]; rfl
  have he : s.toList.isEmpty = false := isEmpty_no s hp
  have hz : (((s[0]'hp).toNat : Int) == 45) = false := by
    rw [← minus_head s hp, ByteArray.toList_eq, Lib.extract_data] at hm
    obtain ⟨⟨l⟩⟩ := s
    cases l with
    | nil => exact absurd hp (Nat.lt_irrefl 0)
    | cons c r =>
      simp at hm
      have h2 : ((ByteArray.mk (c :: r).toArray)[0]'hp) = c := rfl
      rw [h2]; simp
      intro hc
      exact hm (UInt8.toNat_inj.1 (by show c.toNat = 45; omega))
  have HI : Hid (∀ w, Calls Try.prog 24 #[.string s] w fun e w' => e = .returned (.bool (magB s.data.toList)) ∧ w = w') := fun w => rdigits_any s w hmx
  unfold parseV parseE parseBad
  rw [hm, hg]
  simp only [Bool.false_and, Bool.or_false, Bool.false_eq_true, if_false]
  have hne : (s.toList == [45, 48]) = false := by
    rw [ByteArray.toList_eq]
    cases hl : s.data.toList with
    | nil => rfl
    | cons c r =>
      rw [hl] at hm
      unfold minus at hm
      simp at hm
      simp
      intro hc; exact absurd hc hm
  rcases tf (magB s.data.toList) with hb | hb
  rotate_left
  · rw [hb] at HI ⊢
    clear hb hm hg hne
    go_enter Try.func17, Try.ntmps17
    go_wp2_with (go_at_call 24; refine (HI.out _).mono ?_; rintro e w' ⟨rfl, rfl⟩)
    go_ret2
    exact ⟨rfl, rfl⟩
  · have HD : Hid (allD s.data.toList = true) := mag_all _ hb
    rw [hb] at HI ⊢
    simp only [Bool.not_true, Bool.false_eq_true, if_false]
    generalize hRV : (if ¬fits (val s.data.toList) then 0 else subV 0 (val s.data.toList)) = RV
    generalize hRE : (if ¬fits (val s.data.toList) then 9 else subE 0 (val s.data.toList)) = RE
    have HV := Lib.hid hRV
    have HE' := Lib.hid hRE
    clear hb hm hg hRV hRE
    go_enter Try.func17, Try.ntmps17
    go_wp2_with (go_at_call 24; refine (HI.out _).mono ?_; rintro e w' ⟨rfl, rfl⟩)
    go_loop [5, 6] (fun v i => ∃ (k : Nat) (n : Int), k ≤ s.size ∧ i = .int .i64 k ∧ v = .int .i64 n ∧ -9223372036854775808 ≤ n ∧ n ≤ 0 ∧ Hid (val (s.data.toList.take k) = n)) (fun _ i => s.size - (intOf i).toNat)
    case atStart => exact ⟨0, 0, Nat.zero_le _, rfl, rfl, by omega, by omega, rfl⟩
    case round =>
      obtain ⟨k, n, hk, rfl, rfl, n1, n2, hv⟩ := hrel
      by_cases hlt : k < s.size
      · obtain ⟨c1, c2⟩ := allD_at s k hlt HD.out
        have c1 : (48 : Int) ≤ (s[k].toNat : Int) := by omega
        have c2 : (s[k].toNat : Int) ≤ 57 := by omega
        have hstep := val_step s k hlt
        rw [hv.out, Int.mul_comm] at hstep
        have HS := Lib.hid hstep
        clear hstep
        have ht := rtest n ((s[k].toNat : Int) - 48) (by omega) (by omega)
        obtain ⟨l1, l2⟩ := rtest_lo ((s[k].toNat : Int) - 48) (by omega) (by omega)
        by_cases f2 : 10 * n - ((s[k].toNat : Int) - 48) < -9223372036854775808
        · have h1 := ht.2 f2
          have HO : Hid (¬ fits (val s.data.toList)) := out_of s (k + 1) HD.out (by rw [HS.out]; unfold fits; omega)
          clear ht f2
          go_wp2
          go_ret2
          exact ⟨ret_two (by rw [← HV.out, if_pos HO.out]) (by rw [← HE'.out, if_pos HO.out]), rfl⟩
        · have h1 : ¬ n < (-9223372036854775808 + ((s[k].toNat : Int) - 48)).tdiv 10 := fun hc => f2 (ht.1 hc)
          have f3 : -9223372036854775808 ≤ 10 * n - ((s[k].toNat : Int) - 48) := by omega
          clear ht f2
          go_wp2
          go_round
          case rel => exact ⟨k + 1, _, by omega, by go_num, rfl, f3, by omega, HS.out⟩
          case measure => simp [intOf]; omega
      · have HE : Hid (val s.data.toList = n) := by
          have := hv.out
          rw [List.take_of_length_le (by simp; omega)] at this
          exact this
        clear hv
        have hf : Hid (fits (val s.data.toList)) := by rw [HE.out]; exact ⟨by omega, by omega⟩
        by_cases hn : n = -9223372036854775808
        · have h1 : (n == -9223372036854775808) = true := by simpa using hn
          have HN := Lib.hid hn
          clear hn
          go_wp2
          go_ret2
          exact ⟨ret_two (by rw [← HV.out, if_neg (not_not_intro hf.out), HE.out, HN.out]; rfl) (by rw [← HE'.out, if_neg (not_not_intro hf.out), HE.out, HN.out]; rfl), rfl⟩
        · have h1 : (n == -9223372036854775808) = false := by simpa using hn
          have h2 : -9223372036854775808 < n := by omega
          have hfn : Hid (fits (0 - n)) := ⟨by omega, by omega⟩
          clear hn
          go_wp2
          go_ret2
          exact ⟨ret_two (by rw [← HV.out, if_neg (not_not_intro hf.out), HE.out, subV, if_pos hfn.out]; omega) (by rw [← HE'.out, if_neg (not_not_intro hf.out), HE.out, subE, if_pos hfn.out]), rfl⟩

theorem rparse_minus (s : ByteArray) (w : World) (hs : s.size ≤ maxLen) (hp : 0 < s.size) (hm : minus s.data.toList = true) :
    Calls Try.prog 17 #[.string s] w fun e w' => e = .returned (.tuple #[.int .i64 (parseV s.data.toList), .int .i64 (parseE s.data.toList)]) ∧ w = w' := by
  have hmx := hs
  unfold maxLen at hs
  have hcut : cutS s = s.extract 1 s.size := by unfold cutS; rw [hm]; rfl
  have hg : digitsOf s.data.toList = (s.extract 1 s.size).data.toList := by rw [← cutS_list, hcut]
  have he : s.toList.isEmpty = false := isEmpty_no s hp
  have hz : (((s[0]'hp).toNat : Int) == 45) = true := by
    rw [← minus_head s hp, ByteArray.toList_eq, Lib.extract_data] at hm
    obtain ⟨⟨l⟩⟩ := s
    cases l with
    | nil => exact absurd hp (Nat.lt_irrefl 0)
    | cons c r =>
      simp at hm
      have h2 : ((ByteArray.mk (c :: r).toArray)[0]'hp) = c := rfl
      rw [h2, hm]; rfl
  have hts : (s.extract 1 s.size).size = s.size - 1 := by simp
  have HI : Hid (∀ w, Calls Try.prog 24 #[.string (s.extract 1 s.size)] w fun e w' => e = .returned (.bool (magB (s.extract 1 s.size).data.toList)) ∧ w = w') := fun w => rdigits_any _ w (by omega)
  unfold parseV parseE parseBad
  rw [hm, hg]
  simp only [Bool.true_and, if_true]
  have hne : (s.toList == [45, 48]) = ((s.extract 1 s.size).data.toList == [48]) := by
    rw [ByteArray.toList_eq, ← hg]
    unfold digitsOf
    rw [hm]
    unfold minus at hm
    cases hl : s.data.toList with
    | nil => rfl
    | cons c r =>
      rw [hl] at hm
      simp at hm
      subst hm
      simp
  rcases tf (magB (s.extract 1 s.size).data.toList) with hb | hb
  rotate_left
  · rw [hb] at HI ⊢
    clear hb hm hg hne hcut hts
    go_enter Try.func17, Try.ntmps17
    go_wp2_with (go_at_call 24; refine (HI.out _).mono ?_; rintro e w' ⟨rfl, rfl⟩)
    go_ret2
    exact ⟨rfl, rfl⟩
  · have HD : Hid (allD (s.extract 1 s.size).data.toList = true) := mag_all _ hb
    rw [hb] at HI ⊢
    simp only [Bool.not_true, Bool.false_or]
    rcases tf ((s.extract 1 s.size).data.toList == [48]) with hq | hq
    · rw [hq] at hne ⊢
      clear hb hm hg hcut hq hts HD
      go_enter Try.func17, Try.ntmps17
      go_wp2_with (go_at_call 24; refine (HI.out _).mono ?_; rintro e w' ⟨rfl, rfl⟩)
      go_ret2
      exact ⟨rfl, rfl⟩
    · rw [hq] at hne ⊢
      simp only [Bool.false_eq_true, if_false]
      generalize hRV : (if ¬fits (val (s.extract 1 s.size).data.toList) then 0 else val (s.extract 1 s.size).data.toList) = RV
      generalize hRE : (if ¬fits (val (s.extract 1 s.size).data.toList) then (9 : Int) else 0) = RE
      have HV := Lib.hid hRV
      have HE' := Lib.hid hRE
      clear hb hm hg hcut hRV hRE hq
      go_enter Try.func17, Try.ntmps17
      go_wp2_with (go_at_call 24; refine (HI.out _).mono ?_; rintro e w' ⟨rfl, rfl⟩)
      go_loop [5, 6] (fun v i => ∃ (k : Nat) (n : Int), k ≤ s.size - 1 ∧ i = .int .i64 k ∧ v = .int .i64 n ∧ -9223372036854775808 ≤ n ∧ n ≤ 0 ∧ Hid (val ((s.extract 1 s.size).data.toList.take k) = n)) (fun _ i => s.size - (intOf i).toNat)
      case atStart => exact ⟨0, 0, Nat.zero_le _, rfl, rfl, by omega, by omega, rfl⟩
      case round =>
        obtain ⟨k, n, hk, rfl, rfl, n1, n2, hv⟩ := hrel
        by_cases hlt : k < s.size - 1
        · obtain ⟨c1, c2⟩ := allD_at (s.extract 1 s.size) k (by omega) HD.out
          have c1 : (48 : Int) ≤ ((s.extract 1 s.size)[k].toNat : Int) := by omega
          have c2 : ((s.extract 1 s.size)[k].toNat : Int) ≤ 57 := by omega
          have hstep := val_step (s.extract 1 s.size) k (by omega)
          rw [hv.out, Int.mul_comm] at hstep
          have HS := Lib.hid hstep
          clear hstep
          have ht := rtest n (((s.extract 1 s.size)[k].toNat : Int) - 48) (by omega) (by omega)
          obtain ⟨l1, l2⟩ := rtest_lo (((s.extract 1 s.size)[k].toNat : Int) - 48) (by omega) (by omega)
          by_cases f2 : 10 * n - (((s.extract 1 s.size)[k].toNat : Int) - 48) < -9223372036854775808
          · have h1 := ht.2 f2
            have HO : Hid (¬ fits (val (s.extract 1 s.size).data.toList)) := out_of (s.extract 1 s.size) (k + 1) HD.out (by rw [HS.out]; unfold fits; omega)
            clear ht f2
            go_wp2
            go_ret2
            exact ⟨ret_two (by rw [← HV.out, if_pos HO.out]) (by rw [← HE'.out, if_pos HO.out]), rfl⟩
          · have h1 : ¬ n < (-9223372036854775808 + (((s.extract 1 s.size)[k].toNat : Int) - 48)).tdiv 10 := fun hc => f2 (ht.1 hc)
            have f3 : -9223372036854775808 ≤ 10 * n - (((s.extract 1 s.size)[k].toNat : Int) - 48) := by omega
            clear ht f2
            go_wp2
            go_round
            case rel => exact ⟨k + 1, _, by omega, by go_num, rfl, f3, by omega, HS.out⟩
            case measure => simp [intOf]; omega
        · have HE : Hid (val (s.extract 1 s.size).data.toList = n) := by
            have := hv.out
            rw [List.take_of_length_le (by simp; omega)] at this
            exact this
          clear hv
          have hf : Hid (fits (val (s.extract 1 s.size).data.toList)) := by rw [HE.out]; exact ⟨by omega, by omega⟩
          go_wp2
          go_ret2
          exact ⟨ret_two (by rw [← HV.out, if_neg (not_not_intro hf.out), HE.out]) (by rw [← HE'.out, if_neg (not_not_intro hf.out)]), rfl⟩

theorem rparse_any (s : ByteArray) (w : World) (hs : s.size ≤ maxLen) :
    Calls Try.prog 17 #[.string s] w fun e w' => e = .returned (.tuple #[.int .i64 (parseV s.data.toList), .int .i64 (parseE s.data.toList)]) ∧ w = w' := by
  by_cases h0 : s.size = 0
  · obtain rfl := empty_of s h0
    have HI : Hid (∀ w, Calls Try.prog 24 #[.string ByteArray.empty] w fun e w' => e = .returned (.bool false) ∧ w = w') := fun w => rdigits_any ByteArray.empty w (by decide)
    clear hs h0
    go_enter Try.func17, Try.ntmps17
    go_wp2_with (go_at_call 24; refine (HI.out _).mono ?_; rintro e w' ⟨rfl, rfl⟩)
    go_ret2
    exact ⟨rfl, rfl⟩
  · rcases tf (minus s.data.toList) with h | h
    · exact rparse_minus s w hs (by omega) h
    · exact rparse_plain s w hs (by omega) h

set_option maxHeartbeats 400000 in
theorem law_parses (s : ByteArray) (w : World) (hs : s.size ≤ maxLen) :
    Calls Try.prog 5 #[.string s] w fun e w' => e = .returned (.bool true) ∧ w = w' := by
  have H1 : Hid (∀ w, Calls Try.prog 16 #[.string s] w fun e w' => e = .returned (.tuple #[.int .i64 (parseV s.data.toList), .int .i64 (parseE s.data.toList)]) ∧ w = w') := fun w => parse_any s w hs
  have H2 : Hid (∀ w, Calls Try.prog 17 #[.string s] w fun e w' => e = .returned (.tuple #[.int .i64 (parseV s.data.toList), .int .i64 (parseE s.data.toList)]) ∧ w = w') := fun w => rparse_any s w hs
  generalize parseV s.data.toList = x at *
  generalize parseE s.data.toList = y at *
  unfold maxLen at hs
  by_cases hl : (40 : Int) < s.size
  all_goals
    go_enter Try.func5, Try.ntmps5
    go_wp2_with (first | (go_at_call 16; refine (H1.out _).mono ?_; rintro e w' ⟨rfl, rfl⟩) | (go_at_call 17; refine (H2.out _).mono ?_; rintro e w' ⟨rfl, rfl⟩) | (go_at_call 14; refine (awake_any _).mono ?_; rintro e w' ⟨rfl, rfl⟩))
    all_goals (go_ret; exact ⟨rfl, rfl⟩)

end Go.Proofs.Ytpaoiomnaopalaa
