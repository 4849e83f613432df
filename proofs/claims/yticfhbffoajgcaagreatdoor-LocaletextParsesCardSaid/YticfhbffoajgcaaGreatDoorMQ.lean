/- Several texts in one (a claim has at most 60 files). -/
import Derived.Test.YticfhbffoajgcaaGreatDoorNumParseC
import Derived.Test.YticfhbffoajgcaaGreatDoorMA
import Derived.OwnWalk
import Derived.Lib.ConvBytes
import Derived.Test.YticfhbffoajgcaaGreatDoorLcOwn
import Derived.Test.YticfhbffoajgcaaGreatDoorMX
import Derived.Test.YticfhbffoajgcaaGreatDoorCsRefB
import Derived.Test.YticfhbffoajgcaaGreatDoorLcValid
import Derived.Test.YticfhbffoajgcaaGreatDoorLcSmall
import Derived.StillTailTactics
import Derived.Deep.CutRange
import Derived.Deep.Cut
import Derived.Deep.DeepCutAuto
/- Reading an int: the reference's Digits and Parse (layer 1), in this seat. -/
set_option linter.unusedVariables false
namespace Go.Proofs.YticfhbffoajgcaaGreatDoor
open Go.RowKit

set_option maxHeartbeats 400000 in
theorem rdigits_any (s : ByteArray) (w : World) (hs : s.size ≤ maxLen) :
    Calls Tryz.prog 210 #[.string s] w fun e w' => e = .returned (.bool (magB s.data.toList)) ∧ w = w' := by
  unfold maxLen at hs
  by_cases h0 : s.size = 0
  · obtain rfl := empty_of s h0
    go_enter Tryz.func210, Tryz.ntmps210
    go_wp2
    go_ret
    exact ⟨rfl, rfl⟩
  · have hp : 0 < s.size := by omega
    have he : s.toList.isEmpty = false := isEmpty_no s hp
    by_cases hz : (s[0]'hp).toNat = 48 ∧ 1 < s.size
    · have hr := magB_zero s hz.2 hz.1
      rw [hr]
      have hA : (((s[0]'hp).toNat : Int) == 48) = true := by simp; omega
      have hB : (1 : Int) < s.size := by omega
      clear hr hz h0
      go_enter Tryz.func210, Tryz.ntmps210
      go_wp2
      all_goals first | (exfalso; omega) | (go_ret; exact ⟨rfl, rfl⟩)
    · have hr : Hid (magB s.data.toList = allD s.data.toList) := magB_all s hp hz
      rw [hr.out]
      clear hr h0
      have hS : ((((s[0]'hp).toNat : Int) == 48) = true ∧ (s.size : Int) ≤ 1) ∨ ((((s[0]'hp).toNat : Int) == 48) = false ∧ (s.size : Int) ≤ 1) ∨ ((((s[0]'hp).toNat : Int) == 48) = false ∧ (1 : Int) < s.size) := by
        by_cases q : (s[0]'hp).toNat = 48
        · exact .inl ⟨by simp; omega, by omega⟩
        · by_cases q2 : 1 < s.size
          · exact .inr (.inr ⟨by simp; omega, by omega⟩)
          · exact .inr (.inl ⟨by simp; omega, by omega⟩)
      clear hz
      rcases hS with ⟨hA, hB⟩ | ⟨hA, hB⟩ | ⟨hA, hB⟩
      all_goals
        go_enter Tryz.func210, Tryz.ntmps210
        go_wp2
        all_goals
          go_loop [3] (fun i => ∃ k : Nat, k ≤ s.size ∧ i = .int .i64 k ∧ Hid (allD (s.data.toList.take k) = true)) (fun i => s.size - (intOf i).toNat)
          case atStart => exact ⟨0, Nat.zero_le _, rfl, rfl⟩
          case round =>
            obtain ⟨k, hk, rfl, hd⟩ := hrel
            by_cases hlt : k < s.size
            · by_cases hc : 48 ≤ s[k].toNat ∧ s[k].toNat ≤ 57
              · have hn : Hid (allD (s.data.toList.take (k + 1)) = true) := by
                  have := allD_snoc (s.data.toList.take k) s[k]
                  rw [← take_snoc s k hlt, hd.out] at this
                  exact this.trans (by simp [hc.1, hc.2])
                have c1 : (48 : Int) ≤ (s[k].toNat : Int) := by omega
                have c2 : ¬ (57 : Int) < (s[k].toNat : Int) := by omega
                clear hd hc
                go_wp2
                all_goals first
                  | (exfalso; omega)
                  | (go_round
                     case rel => exact ⟨k + 1, by omega, by go_num, hn⟩
                     case measure => simp [intOf]; omega)
              · have hn : Hid (allD s.data.toList = false) := allD_no s k hlt hc
                have hc2 : (s[k].toNat : Int) < 48 ∨ ((48 : Int) ≤ (s[k].toNat : Int) ∧ (57 : Int) < (s[k].toNat : Int)) := by omega
                clear hd hc
                rcases hc2 with c1 | ⟨c1, c2⟩
                all_goals
                  go_wp2
                  all_goals (go_ret; exact ⟨ret_bool (by rw [hn.out]), rfl⟩)
            · have hall : Hid (allD s.data.toList = true) := by
                have := hd.out
                rw [List.take_of_length_le (by simp; omega)] at this
                exact this
              clear hd
              go_wp2
              go_ret
              exact ⟨ret_bool (by rw [hall.out]), rfl⟩


theorem tdiv10 (x : Int) (h : x ≤ 0) : x.tdiv 10 = -((-x) / 10) := by
  have e : x = -(-x) := by omega
  rw [e, Int.neg_tdiv, Int.tdiv_eq_ediv_of_nonneg (by omega)]
  simp

/-- The reference's test: would the next digit lead out of range? -/
theorem rtest (n d : Int) (h1 : 0 ≤ d) (h2 : d ≤ 9) : n < (-9223372036854775808 + d).tdiv 10 ↔ 10 * n - d < -9223372036854775808 := by
  rw [tdiv10 _ (by omega)]; omega
theorem rtest_lo (d : Int) (h1 : 0 ≤ d) (h2 : d ≤ 9) : -9223372036854775808 ≤ (-9223372036854775808 + d).tdiv 10 ∧ (-9223372036854775808 + d).tdiv 10 ≤ 0 := by
  rw [tdiv10 _ (by omega)]; omega

theorem rparse_plain (s : ByteArray) (w : World) (hs : s.size ≤ maxLen) (hp : 0 < s.size) (hm : minus s.data.toList = false) :
    Calls Tryz.prog 174 #[.string s] w fun e w' => e = .returned (.tuple #[.int .i64 (parseV s.data.toList), .int .i64 (parseE s.data.toList)]) ∧ w = w' := by
  have hmx := hs
  unfold maxLen at hs
  have hg : digitsOf s.data.toList = s.data.toList := by unfold digitsOf; rw [hm]; rfl
  have he : s.toList.isEmpty = false := isEmpty_no s hp
  have hz : (((s[0]'hp).toNat : Int) == 45) = false := by
    rw [← minus_head s hp, ByteArray.toList_eq, Lib.extract_data] at hm
    obtain ⟨⟨l⟩⟩ := s
    cases l with
    | nil => exact absurd hp (Nat.lt_irrefl 0)
    | cons c r =>
      simp at hm
      have h2 : ((ByteArray.mk (c :: r).toArray)[0]'hp) = c := rfl
      rw [h2]; simp
      intro hc
      exact hm (UInt8.toNat_inj.1 (by show c.toNat = 45; omega))
  have HI : Hid (∀ w, Calls Tryz.prog 210 #[.string s] w fun e w' => e = .returned (.bool (magB s.data.toList)) ∧ w = w') := fun w => rdigits_any s w hmx
  unfold parseV parseE parseBad
  rw [hm, hg]
  simp only [Bool.false_and, Bool.or_false, Bool.false_eq_true, if_false]
  have hne : (s.toList == [45, 48]) = false := by
    rw [ByteArray.toList_eq]
    cases hl : s.data.toList with
    | nil => rfl
    | cons c r =>
      rw [hl] at hm
      unfold minus at hm
      simp at hm
      simp
      intro hc; exact absurd hc hm
  rcases tf (magB s.data.toList) with hb | hb
  rotate_left
  · rw [hb] at HI ⊢
    clear hb hm hg hne
    go_enter Tryz.func174, Tryz.ntmps174
    go_wp2_with (go_at_call 210; refine (HI.out _).mono ?_; rintro e w' ⟨rfl, rfl⟩)
    go_ret2
    exact ⟨rfl, rfl⟩
  · have HD : Hid (allD s.data.toList = true) := mag_all _ hb
    rw [hb] at HI ⊢
    simp only [Bool.not_true, Bool.false_eq_true, if_false]
    generalize hRV : (if ¬fits (val s.data.toList) then 0 else subV 0 (val s.data.toList)) = RV
    generalize hRE : (if ¬fits (val s.data.toList) then 9 else subE 0 (val s.data.toList)) = RE
    have HV := Lib.hid hRV
    have HE' := Lib.hid hRE
    clear hb hm hg hRV hRE
    go_enter Tryz.func174, Tryz.ntmps174
    go_wp2_with (go_at_call 210; refine (HI.out _).mono ?_; rintro e w' ⟨rfl, rfl⟩)
    go_loop [5, 6] (fun v i => ∃ (k : Nat) (n : Int), k ≤ s.size ∧ i = .int .i64 k ∧ v = .int .i64 n ∧ -9223372036854775808 ≤ n ∧ n ≤ 0 ∧ Hid (val (s.data.toList.take k) = n)) (fun _ i => s.size - (intOf i).toNat)
    case atStart => exact ⟨0, 0, Nat.zero_le _, rfl, rfl, by omega, by omega, rfl⟩
    case round =>
      obtain ⟨k, n, hk, rfl, rfl, n1, n2, hv⟩ := hrel
      by_cases hlt : k < s.size
      · obtain ⟨c1, c2⟩ := allD_at s k hlt HD.out
        have c1 : (48 : Int) ≤ (s[k].toNat : Int) := by omega
        have c2 : (s[k].toNat : Int) ≤ 57 := by omega
        have hstep := val_step s k hlt
        rw [hv.out, Int.mul_comm] at hstep
        have HS := Lib.hid hstep
        clear hstep
        have ht := rtest n ((s[k].toNat : Int) - 48) (by omega) (by omega)
        obtain ⟨l1, l2⟩ := rtest_lo ((s[k].toNat : Int) - 48) (by omega) (by omega)
        by_cases f2 : 10 * n - ((s[k].toNat : Int) - 48) < -9223372036854775808
        · have h1 := ht.2 f2
          have HO : Hid (¬ fits (val s.data.toList)) := out_of s (k + 1) HD.out (by rw [HS.out]; unfold fits; omega)
          clear ht f2
          go_wp2
          go_ret2
          exact ⟨ret_two (by rw [← HV.out, if_pos HO.out]) (by rw [← HE'.out, if_pos HO.out]), rfl⟩
        · have h1 : ¬ n < (-9223372036854775808 + ((s[k].toNat : Int) - 48)).tdiv 10 := fun hc => f2 (ht.1 hc)
          have f3 : -9223372036854775808 ≤ 10 * n - ((s[k].toNat : Int) - 48) := by omega
          clear ht f2
          go_wp2
          go_round
          case rel => exact ⟨k + 1, _, by omega, by go_num, rfl, f3, by omega, HS.out⟩
          case measure => simp [intOf]; omega
      · have HE : Hid (val s.data.toList = n) := by
          have := hv.out
          rw [List.take_of_length_le (by simp; omega)] at this
          exact this
        clear hv
        have hf : Hid (fits (val s.data.toList)) := by rw [HE.out]; exact ⟨by omega, by omega⟩
        by_cases hn : n = -9223372036854775808
        · have h1 : (n == -9223372036854775808) = true := by simpa using hn
          have HN := Lib.hid hn
          clear hn
          go_wp2
          go_ret2
          exact ⟨ret_two (by rw [← HV.out, if_neg (not_not_intro hf.out), HE.out, HN.out]; rfl) (by rw [← HE'.out, if_neg (not_not_intro hf.out), HE.out, HN.out]; rfl), rfl⟩
        · have h1 : (n == -9223372036854775808) = false := by simpa using hn
          have h2 : -9223372036854775808 < n := by omega
          have hfn : Hid (fits (0 - n)) := ⟨by omega, by omega⟩
          clear hn
          go_wp2
          go_ret2
          exact ⟨ret_two (by rw [← HV.out, if_neg (not_not_intro hf.out), HE.out, subV, if_pos hfn.out]; omega) (by rw [← HE'.out, if_neg (not_not_intro hf.out), HE.out, subE, if_pos hfn.out]), rfl⟩

theorem rparse_minus (s : ByteArray) (w : World) (hs : s.size ≤ maxLen) (hp : 0 < s.size) (hm : minus s.data.toList = true) :
    Calls Tryz.prog 174 #[.string s] w fun e w' => e = .returned (.tuple #[.int .i64 (parseV s.data.toList), .int .i64 (parseE s.data.toList)]) ∧ w = w' := by
  have hmx := hs
  unfold maxLen at hs
  have hcut : cutS s = s.extract 1 s.size := by unfold cutS; rw [hm]; rfl
  have hg : digitsOf s.data.toList = (s.extract 1 s.size).data.toList := by rw [← cutS_list, hcut]
  have he : s.toList.isEmpty = false := isEmpty_no s hp
  have hz : (((s[0]'hp).toNat : Int) == 45) = true := by
    rw [← minus_head s hp, ByteArray.toList_eq, Lib.extract_data] at hm
    obtain ⟨⟨l⟩⟩ := s
    cases l with
    | nil => exact absurd hp (Nat.lt_irrefl 0)
    | cons c r =>
      simp at hm
      have h2 : ((ByteArray.mk (c :: r).toArray)[0]'hp) = c := rfl
      rw [h2, hm]; rfl
  have hts : (s.extract 1 s.size).size = s.size - 1 := by simp
  have HI : Hid (∀ w, Calls Tryz.prog 210 #[.string (s.extract 1 s.size)] w fun e w' => e = .returned (.bool (magB (s.extract 1 s.size).data.toList)) ∧ w = w') := fun w => rdigits_any _ w (by omega)
  unfold parseV parseE parseBad
  rw [hm, hg]
  simp only [Bool.true_and, if_true]
  have hne : (s.toList == [45, 48]) = ((s.extract 1 s.size).data.toList == [48]) := by
    rw [ByteArray.toList_eq, ← hg]
    unfold digitsOf
    rw [hm]
    unfold minus at hm
    cases hl : s.data.toList with
    | nil => rfl
    | cons c r =>
      rw [hl] at hm
      simp at hm
      subst hm
      simp
  rcases tf (magB (s.extract 1 s.size).data.toList) with hb | hb
  rotate_left
  · rw [hb] at HI ⊢
    clear hb hm hg hne hcut hts
    go_enter Tryz.func174, Tryz.ntmps174
    go_wp2_with (go_at_call 210; refine (HI.out _).mono ?_; rintro e w' ⟨rfl, rfl⟩)
    go_ret2
    exact ⟨rfl, rfl⟩
  · have HD : Hid (allD (s.extract 1 s.size).data.toList = true) := mag_all _ hb
    rw [hb] at HI ⊢
    simp only [Bool.not_true, Bool.false_or]
    rcases tf ((s.extract 1 s.size).data.toList == [48]) with hq | hq
    · rw [hq] at hne ⊢
      clear hb hm hg hcut hq hts HD
      go_enter Tryz.func174, Tryz.ntmps174
      go_wp2_with (go_at_call 210; refine (HI.out _).mono ?_; rintro e w' ⟨rfl, rfl⟩)
      go_ret2
      exact ⟨rfl, rfl⟩
    · rw [hq] at hne ⊢
      simp only [Bool.false_eq_true, if_false]
      generalize hRV : (if ¬fits (val (s.extract 1 s.size).data.toList) then 0 else val (s.extract 1 s.size).data.toList) = RV
      generalize hRE : (if ¬fits (val (s.extract 1 s.size).data.toList) then (9 : Int) else 0) = RE
      have HV := Lib.hid hRV
      have HE' := Lib.hid hRE
      clear hb hm hg hcut hRV hRE hq
      go_enter Tryz.func174, Tryz.ntmps174
      go_wp2_with (go_at_call 210; refine (HI.out _).mono ?_; rintro e w' ⟨rfl, rfl⟩)
      go_loop [5, 6] (fun v i => ∃ (k : Nat) (n : Int), k ≤ s.size - 1 ∧ i = .int .i64 k ∧ v = .int .i64 n ∧ -9223372036854775808 ≤ n ∧ n ≤ 0 ∧ Hid (val ((s.extract 1 s.size).data.toList.take k) = n)) (fun _ i => s.size - (intOf i).toNat)
      case atStart => exact ⟨0, 0, Nat.zero_le _, rfl, rfl, by omega, by omega, rfl⟩
      case round =>
        obtain ⟨k, n, hk, rfl, rfl, n1, n2, hv⟩ := hrel
        by_cases hlt : k < s.size - 1
        · obtain ⟨c1, c2⟩ := allD_at (s.extract 1 s.size) k (by omega) HD.out
          have c1 : (48 : Int) ≤ ((s.extract 1 s.size)[k].toNat : Int) := by omega
          have c2 : ((s.extract 1 s.size)[k].toNat : Int) ≤ 57 := by omega
          have hstep := val_step (s.extract 1 s.size) k (by omega)
          rw [hv.out, Int.mul_comm] at hstep
          have HS := Lib.hid hstep
          clear hstep
          have ht := rtest n (((s.extract 1 s.size)[k].toNat : Int) - 48) (by omega) (by omega)
          obtain ⟨l1, l2⟩ := rtest_lo (((s.extract 1 s.size)[k].toNat : Int) - 48) (by omega) (by omega)
          by_cases f2 : 10 * n - (((s.extract 1 s.size)[k].toNat : Int) - 48) < -9223372036854775808
          · have h1 := ht.2 f2
            have HO : Hid (¬ fits (val (s.extract 1 s.size).data.toList)) := out_of (s.extract 1 s.size) (k + 1) HD.out (by rw [HS.out]; unfold fits; omega)
            clear ht f2
            go_wp2
            go_ret2
            exact ⟨ret_two (by rw [← HV.out, if_pos HO.out]) (by rw [← HE'.out, if_pos HO.out]), rfl⟩
          · have h1 : ¬ n < (-9223372036854775808 + (((s.extract 1 s.size)[k].toNat : Int) - 48)).tdiv 10 := fun hc => f2 (ht.1 hc)
            have f3 : -9223372036854775808 ≤ 10 * n - (((s.extract 1 s.size)[k].toNat : Int) - 48) := by omega
            clear ht f2
            go_wp2
            go_round
            case rel => exact ⟨k + 1, _, by omega, by go_num, rfl, f3, by omega, HS.out⟩
            case measure => simp [intOf]; omega
        · have HE : Hid (val (s.extract 1 s.size).data.toList = n) := by
            have := hv.out
            rw [List.take_of_length_le (by simp; omega)] at this
            exact this
          clear hv
          have hf : Hid (fits (val (s.extract 1 s.size).data.toList)) := by rw [HE.out]; exact ⟨by omega, by omega⟩
          go_wp2
          go_ret2
          exact ⟨ret_two (by rw [← HV.out, if_neg (not_not_intro hf.out), HE.out]) (by rw [← HE'.out, if_neg (not_not_intro hf.out)]), rfl⟩

theorem rparse_any (s : ByteArray) (w : World) (hs : s.size ≤ maxLen) :
    Calls Tryz.prog 174 #[.string s] w fun e w' => e = .returned (.tuple #[.int .i64 (parseV s.data.toList), .int .i64 (parseE s.data.toList)]) ∧ w = w' := by
  by_cases h0 : s.size = 0
  · obtain rfl := empty_of s h0
    have HI : Hid (∀ w, Calls Tryz.prog 210 #[.string ByteArray.empty] w fun e w' => e = .returned (.bool false) ∧ w = w') := fun w => rdigits_any ByteArray.empty w (by decide)
    clear hs h0
    go_enter Tryz.func174, Tryz.ntmps174
    go_wp2_with (go_at_call 210; refine (HI.out _).mono ?_; rintro e w' ⟨rfl, rfl⟩)
    go_ret2
    exact ⟨rfl, rfl⟩
  · rcases tf (minus s.data.toList) with h | h
    · exact rparse_minus s w hs (by omega) h
    · exact rparse_plain s w hs (by omega) h


end Go.Proofs.YticfhbffoajgcaaGreatDoor
/- The reference's numbers: number and span. -/
set_option linter.unusedVariables false
namespace Go.Proofs.YticfhbffoajgcaaGreatDoor
open Go.RowKit

/-- What a number of the reference ends with. -/
def endR (r : Except Int Nat) : Ending := match r with
  | .ok n => .returned (.tuple #[.int .i64 (n : Int), .int .i64 0])
  | .error x => .returned (.tuple #[.int .i64 0, .int .i64 x])
theorem ret2' {a b c d : Int} (h : a = b) (h2 : c = d) : Ending.returned (.tuple #[.int .i64 a, .int .i64 c]) = .returned (.tuple #[.int .i64 b, .int .i64 d]) := by rw [h, h2]
set_option maxHeartbeats 1600000 in
theorem rnumber_any (s : ByteArray) (m : Nat) (w : World) (hs : s.size ≤ maxLen) (hm : m ≤ 1000000) :
    Calls Tryz.prog 137 #[.string s, .int .i64 (m : Int)] w fun e w' => e = endR (numT s.data.toList m) ∧ w = w' := by
  have HP := Lib.hid (rparse_any s w hs)
  obtain ⟨v, hv⟩ : ∃ v, parseV s.data.toList = v := ⟨_, rfl⟩
  obtain ⟨x, hx⟩ : ∃ x, parseE s.data.toList = x := ⟨_, rfl⟩
  obtain ⟨R, hR⟩ : ∃ R, endR (numT s.data.toList m) = R := ⟨_, rfl⟩
  have htf := parseE_tf s.data.toList
  rw [hv, hx] at HP
  rw [hx] at htf
  rw [hR]
  rcases htf with rfl | rfl | rfl
  · by_cases h0 : 0 ≤ v
    · by_cases h1 : v ≤ (m : Int)
      · rw [numT_in hx (by rw [hv]; exact h0) (by rw [hv]; exact h1), hv] at hR
        have HR := Lib.hid hR
        have hd0 : decide (v < 0) = false := by simpa using h0
        have hd : decide ((m : Int) < v) = false := by simpa using h1
        clear hR hv hx
        go_enter Tryz.func137, Tryz.ntmps137
        go_wp2_with (go_at_call 174; refine HP.out.mono ?_; rintro e w' ⟨rfl, rfl⟩)
        all_goals first
          | (exfalso; omega)
          | (go_ret2; exact ⟨by rw [← HR.out]; exact ret2' (by omega) rfl, rfl⟩)
      · rw [numT_out hx (by rw [hv]; omega)] at hR
        have HR := Lib.hid hR
        have hd0 : decide (v < 0) = false := by simpa using h0
        have hd : decide ((m : Int) < v) = true := by simpa using h1
        clear hR hv hx
        go_enter Tryz.func137, Tryz.ntmps137
        go_wp2_with (go_at_call 174; refine HP.out.mono ?_; rintro e w' ⟨rfl, rfl⟩)
        all_goals first
          | (exfalso; omega)
          | (go_ret2; exact ⟨by rw [← HR.out]; rfl, rfl⟩)
    · rw [numT_out hx (by rw [hv]; omega)] at hR
      have HR := Lib.hid hR
      have hd : decide (v < 0) = true := by simpa using h0
      clear hR hv hx
      go_enter Tryz.func137, Tryz.ntmps137
      go_wp2_with (go_at_call 174; refine HP.out.mono ?_; rintro e w' ⟨rfl, rfl⟩)
      all_goals first
        | (exfalso; omega)
        | (go_ret2; exact ⟨by rw [← HR.out]; rfl, rfl⟩)
  · rw [numT_syn hx] at hR
    have HR := Lib.hid hR
    clear hR hv hx
    go_enter Tryz.func137, Tryz.ntmps137
    go_wp2_with (go_at_call 174; refine HP.out.mono ?_; rintro e w' ⟨rfl, rfl⟩)
    go_ret2
    exact ⟨by rw [← HR.out]; rfl, rfl⟩
  · rw [numT_over hx] at hR
    have HR := Lib.hid hR
    clear hR hv hx
    go_enter Tryz.func137, Tryz.ntmps137
    go_wp2_with (go_at_call 174; refine HP.out.mono ?_; rintro e w' ⟨rfl, rfl⟩)
    go_ret2
    exact ⟨by rw [← HR.out]; rfl, rfl⟩
theorem rnumber_is (s : ByteArray) (m : Nat) (mi : Int) (hmi : (m : Int) = mi) (r : Ending) (w : World) (hs : s.size ≤ maxLen) (hm : m ≤ 1000000) (h : endR (numT s.data.toList m) = r) :
    Calls Tryz.prog 137 #[.string s, .int .i64 mi] w fun e w' => e = r ∧ w = w' := by
  subst hmi; subst h
  exact rnumber_any s m w hs hm
end Go.Proofs.YticfhbffoajgcaaGreatDoor
/- The reference's span. -/
set_option linter.unusedVariables false
namespace Go.Proofs.YticfhbffoajgcaaGreatDoor
open Go.RowKit

def endS (r : Except Int (Nat × Nat)) : Ending := match r with
  | .ok ab => .returned (.tuple #[.int .i64 (ab.1 : Int), .int .i64 (ab.2 : Int), .int .i64 0])
  | .error x => .returned (.tuple #[.int .i64 0, .int .i64 0, .int .i64 x])
/-- What number hands back of a string. -/
def Num1 (S : ByteArray) (n x : Int) : Prop := ∀ w : World, Calls Tryz.prog 137 #[.string S, .int .i64 255] w fun e w' => e = .returned (.tuple #[.int .i64 n, .int .i64 x]) ∧ w = w'
theorem ndash (s : ByteArray) (j : Nat) (hj : 1 ≤ j) (hs : j < s.size) (h : (s.data.toList.drop 1)[j - 1]? ≠ some 45) : ((((s[j]'hs).toNat : Int)) == 45) = false := by
  have e : (s.data.toList.drop 1)[j - 1]? = some (s[j]'hs) := by
    rw [List.getElem?_drop, show 1 + (j - 1) = j by omega, List.getElem?_eq_getElem (by rw [size_len]; exact hs)]
    rfl
  rw [e] at h
  have h2 : (s[j]'hs).toNat ≠ 45 := by
    intro hc
    exact h (congrArg some (UInt8.toNat_inj.1 hc))
  simp; omega
theorem isdash (s : ByteArray) (j : Nat) (hj : 1 ≤ j) (hs : j < s.size) (h : (s.data.toList.drop 1)[j - 1]? = some 45) : ((((s[j]'hs).toNat : Int)) == 45) = true := by
  have e : (s.data.toList.drop 1)[j - 1]? = some (s[j]'hs) := by
    rw [List.getElem?_drop, show 1 + (j - 1) = j by omega, List.getElem?_eq_getElem (by rw [size_len]; exact hs)]
    rfl
  rw [e] at h
  have h2 : (s[j]'hs) = 45 := Option.some.inj h
  rw [h2]; rfl
set_option maxHeartbeats 4000000 in
theorem rspan_one (s : ByteArray) (n x : Int) (w : World) (hs0 : 0 < s.size) (hs : s.size ≤ 1000000) (hD : Lib.indexByte (s.data.toList.drop 1) 45 = -1) (H1 : Num1 s n x) :
    Calls Tryz.prog 173 #[.string s] w fun e w' => e = .returned (.tuple #[.int .i64 n, .int .i64 n, .int .i64 x]) ∧ w = w' := by
  have HN : Hid (∀ j : Nat, 1 ≤ j → ∀ h : j < s.size, (((s[j]'h).toNat : Int) == 45) = false) := fun j hj h => ndash s j hj h (Lib.indexByte_none hD _)
  have HP := Lib.hid H1
  clear hD H1
  go_enter Tryz.func173, Tryz.ntmps173
  go_wp2
  go_loop [5] (fun i => ∃ j : Nat, 1 ≤ j ∧ j ≤ s.size ∧ i = .int .i64 j) (fun i => s.size - (intOf i).toNat)
  case atStart => exact ⟨1, Nat.le_refl _, hs0, rfl⟩
  case round =>
    obtain ⟨j, hj, hj2, rfl⟩ := hrel
    by_cases hlt : j < s.size
    · have hc := HN.out j hj hlt
      have hw : IntKind.i64.wrap ((j : Int) + 1) = ((j + 1 : Nat) : Int) := by rw [IntWalk.i64_in _ (by omega)]; omega
      go_wp2
      all_goals first
        | (exfalso; omega)
        | (go_round
           case rel => exact ⟨j + 1, by omega, by omega, rfl⟩
           case measure => simp [intOf]; omega)
    · go_wp2_with (go_at_call 137; refine (HP.out _).mono ?_; rintro e w' ⟨rfl, rfl⟩)
      all_goals first
        | (exfalso; omega)
        | (go_ret3; exact ⟨rfl, rfl⟩)
set_option maxHeartbeats 4000000 in
theorem rspan_no1 (s : ByteArray) (k : Nat) (n1 x1 n2 x2 : Int) (w : World) (hs0 : 0 < s.size) (hs : s.size ≤ 1000000) (hk : k + 1 < s.size) (hD : Lib.indexByte (s.data.toList.drop 1) 45 = (k : Int)) (H1 : Num1 (s.extract 0 (k + 1)) n1 x1) (H2 : Num1 (s.extract (k + 2) s.size) n2 x2) (h1 : (x1 == 0) = false) :
    Calls Tryz.prog 173 #[.string s] w fun e w' => e = .returned (.tuple #[.int .i64 0, .int .i64 0, .int .i64 x1]) ∧ w = w' := by
  have hib := Lib.indexByte_some hD
  have HN : Hid (∀ j : Nat, 1 ≤ j → j < k + 1 → ∀ h : j < s.size, (((s[j]'h).toNat : Int) == 45) = false) := fun j hj hj2 h => ndash s j hj h (hib.2 _ (by omega))
  have HY : Hid (∀ j : Nat, j = k + 1 → ∀ h : j < s.size, (((s[j]'h).toNat : Int) == 45) = true) := fun j hj h => isdash s j (by omega) h (by rw [show j - 1 = k by omega]; exact hib.1)
  clear hib hD
  unfold Num1 at H1 H2
  have HP1 := Lib.hid H1
  have HP2 := Lib.hid H2
  clear H1 H2
  go_enter Tryz.func173, Tryz.ntmps173
  go_wp2
  go_loop [5] (fun i => ∃ j : Nat, 1 ≤ j ∧ j ≤ k + 1 ∧ i = .int .i64 j) (fun i => s.size - (intOf i).toNat)
  case atStart => exact ⟨1, Nat.le_refl _, by omega, rfl⟩
  case round =>
    obtain ⟨j, hj, hj2, rfl⟩ := hrel
    have hlt : j < s.size := by omega
    have hw : IntKind.i64.wrap ((j : Int) + 1) = ((j + 1 : Nat) : Int) := by rw [IntWalk.i64_in _ (by omega)]; omega
    by_cases hjk : j < k + 1
    · have hc := HN.out j hj hjk hlt
      go_wp2
      all_goals first
        | (exfalso; omega)
        | (go_round
           case rel => exact ⟨j + 1, by omega, by omega, rfl⟩
           case measure => simp [intOf]; omega)
    · have hjk2 : j = k + 1 := by omega
      have hc := HY.out j hjk2 hlt
      obtain ⟨d2, hd2⟩ : ∃ d2 : Nat, d2 = j + 1 := ⟨_, rfl⟩
      rw [← hd2] at hw
      obtain ⟨S1, hS1⟩ : ∃ S1, s.extract 0 j = S1 := ⟨_, rfl⟩
      obtain ⟨S2, hS2⟩ : ∃ S2, s.extract d2 s.size = S2 := ⟨_, rfl⟩
      rw [← hjk2, hS1] at HP1
      rw [show k + 2 = d2 by omega, hS2] at HP2
      have hd2s : (d2 : Int) ≤ s.size := by omega
      have hjs : (j : Int) ≤ s.size := by omega
      clear hjk2 hjk hj2 hd2
      go_wp2_with (first
          | (go_at_call 137; with_reducible refine (HP1.out _).mono ?_; rintro e w' ⟨rfl, rfl⟩))
      all_goals first
        | (exfalso; omega)
        | (go_ret3; exact ⟨rfl, rfl⟩)
set_option maxHeartbeats 4000000 in
theorem rspan_no2 (s : ByteArray) (k : Nat) (n1 x1 n2 x2 : Int) (w : World) (hs0 : 0 < s.size) (hs : s.size ≤ 1000000) (hk : k + 1 < s.size) (hD : Lib.indexByte (s.data.toList.drop 1) 45 = (k : Int)) (H1 : Num1 (s.extract 0 (k + 1)) n1 x1) (H2 : Num1 (s.extract (k + 2) s.size) n2 x2) (h1 : x1 = 0) (h2 : (x2 == 0) = false) :
    Calls Tryz.prog 173 #[.string s] w fun e w' => e = .returned (.tuple #[.int .i64 0, .int .i64 0, .int .i64 x2]) ∧ w = w' := by
  have hib := Lib.indexByte_some hD
  have HN : Hid (∀ j : Nat, 1 ≤ j → j < k + 1 → ∀ h : j < s.size, (((s[j]'h).toNat : Int) == 45) = false) := fun j hj hj2 h => ndash s j hj h (hib.2 _ (by omega))
  have HY : Hid (∀ j : Nat, j = k + 1 → ∀ h : j < s.size, (((s[j]'h).toNat : Int) == 45) = true) := fun j hj h => isdash s j (by omega) h (by rw [show j - 1 = k by omega]; exact hib.1)
  clear hib hD
  subst h1
  unfold Num1 at H1 H2
  have HP1 := Lib.hid H1
  have HP2 := Lib.hid H2
  clear H1 H2
  go_enter Tryz.func173, Tryz.ntmps173
  go_wp2
  go_loop [5] (fun i => ∃ j : Nat, 1 ≤ j ∧ j ≤ k + 1 ∧ i = .int .i64 j) (fun i => s.size - (intOf i).toNat)
  case atStart => exact ⟨1, Nat.le_refl _, by omega, rfl⟩
  case round =>
    obtain ⟨j, hj, hj2, rfl⟩ := hrel
    have hlt : j < s.size := by omega
    have hw : IntKind.i64.wrap ((j : Int) + 1) = ((j + 1 : Nat) : Int) := by rw [IntWalk.i64_in _ (by omega)]; omega
    by_cases hjk : j < k + 1
    · have hc := HN.out j hj hjk hlt
      go_wp2
      all_goals first
        | (exfalso; omega)
        | (go_round
           case rel => exact ⟨j + 1, by omega, by omega, rfl⟩
           case measure => simp [intOf]; omega)
    · have hjk2 : j = k + 1 := by omega
      have hc := HY.out j hjk2 hlt
      obtain ⟨d2, hd2⟩ : ∃ d2 : Nat, d2 = j + 1 := ⟨_, rfl⟩
      rw [← hd2] at hw
      obtain ⟨S1, hS1⟩ : ∃ S1, s.extract 0 j = S1 := ⟨_, rfl⟩
      obtain ⟨S2, hS2⟩ : ∃ S2, s.extract d2 s.size = S2 := ⟨_, rfl⟩
      rw [← hjk2, hS1] at HP1
      rw [show k + 2 = d2 by omega, hS2] at HP2
      have hd2s : (d2 : Int) ≤ s.size := by omega
      have hjs : (j : Int) ≤ s.size := by omega
      clear hjk2 hjk hj2 hd2
      go_wp2_with (first
          | (go_at_call 137; with_reducible refine (HP1.out _).mono ?_; rintro e w' ⟨rfl, rfl⟩)
          | (go_at_call 137; with_reducible refine (HP2.out _).mono ?_; rintro e w' ⟨rfl, rfl⟩))
      all_goals first
        | (exfalso; omega)
        | (go_ret3; exact ⟨rfl, rfl⟩)
set_option maxHeartbeats 4000000 in
theorem rspan_gt (s : ByteArray) (k : Nat) (n1 x1 n2 x2 : Int) (w : World) (hs0 : 0 < s.size) (hs : s.size ≤ 1000000) (hk : k + 1 < s.size) (hD : Lib.indexByte (s.data.toList.drop 1) 45 = (k : Int)) (H1 : Num1 (s.extract 0 (k + 1)) n1 x1) (H2 : Num1 (s.extract (k + 2) s.size) n2 x2) (h1 : x1 = 0) (h2 : x2 = 0) (h3 : n2 < n1) :
    Calls Tryz.prog 173 #[.string s] w fun e w' => e = .returned (.tuple #[.int .i64 0, .int .i64 0, .int .i64 2]) ∧ w = w' := by
  have hib := Lib.indexByte_some hD
  have HN : Hid (∀ j : Nat, 1 ≤ j → j < k + 1 → ∀ h : j < s.size, (((s[j]'h).toNat : Int) == 45) = false) := fun j hj hj2 h => ndash s j hj h (hib.2 _ (by omega))
  have HY : Hid (∀ j : Nat, j = k + 1 → ∀ h : j < s.size, (((s[j]'h).toNat : Int) == 45) = true) := fun j hj h => isdash s j (by omega) h (by rw [show j - 1 = k by omega]; exact hib.1)
  clear hib hD
  subst h1 h2
  have h4 : decide (n2 < n1) = true := by simpa using h3
  unfold Num1 at H1 H2
  have HP1 := Lib.hid H1
  have HP2 := Lib.hid H2
  clear H1 H2
  go_enter Tryz.func173, Tryz.ntmps173
  go_wp2
  go_loop [5] (fun i => ∃ j : Nat, 1 ≤ j ∧ j ≤ k + 1 ∧ i = .int .i64 j) (fun i => s.size - (intOf i).toNat)
  case atStart => exact ⟨1, Nat.le_refl _, by omega, rfl⟩
  case round =>
    obtain ⟨j, hj, hj2, rfl⟩ := hrel
    have hlt : j < s.size := by omega
    have hw : IntKind.i64.wrap ((j : Int) + 1) = ((j + 1 : Nat) : Int) := by rw [IntWalk.i64_in _ (by omega)]; omega
    by_cases hjk : j < k + 1
    · have hc := HN.out j hj hjk hlt
      go_wp2
      all_goals first
        | (exfalso; omega)
        | (go_round
           case rel => exact ⟨j + 1, by omega, by omega, rfl⟩
           case measure => simp [intOf]; omega)
    · have hjk2 : j = k + 1 := by omega
      have hc := HY.out j hjk2 hlt
      obtain ⟨d2, hd2⟩ : ∃ d2 : Nat, d2 = j + 1 := ⟨_, rfl⟩
      rw [← hd2] at hw
      obtain ⟨S1, hS1⟩ : ∃ S1, s.extract 0 j = S1 := ⟨_, rfl⟩
      obtain ⟨S2, hS2⟩ : ∃ S2, s.extract d2 s.size = S2 := ⟨_, rfl⟩
      rw [← hjk2, hS1] at HP1
      rw [show k + 2 = d2 by omega, hS2] at HP2
      have hd2s : (d2 : Int) ≤ s.size := by omega
      have hjs : (j : Int) ≤ s.size := by omega
      clear hjk2 hjk hj2 hd2
      go_wp2_with (first
          | (go_at_call 137; with_reducible refine (HP1.out _).mono ?_; rintro e w' ⟨rfl, rfl⟩)
          | (go_at_call 137; with_reducible refine (HP2.out _).mono ?_; rintro e w' ⟨rfl, rfl⟩))
      all_goals first
        | (exfalso; omega)
        | (go_ret3; exact ⟨rfl, rfl⟩)
set_option maxHeartbeats 4000000 in
theorem rspan_ok (s : ByteArray) (k : Nat) (n1 x1 n2 x2 : Int) (w : World) (hs0 : 0 < s.size) (hs : s.size ≤ 1000000) (hk : k + 1 < s.size) (hD : Lib.indexByte (s.data.toList.drop 1) 45 = (k : Int)) (H1 : Num1 (s.extract 0 (k + 1)) n1 x1) (H2 : Num1 (s.extract (k + 2) s.size) n2 x2) (h1 : x1 = 0) (h2 : x2 = 0) (h3 : n1 ≤ n2) :
    Calls Tryz.prog 173 #[.string s] w fun e w' => e = .returned (.tuple #[.int .i64 n1, .int .i64 n2, .int .i64 0]) ∧ w = w' := by
  have hib := Lib.indexByte_some hD
  have HN : Hid (∀ j : Nat, 1 ≤ j → j < k + 1 → ∀ h : j < s.size, (((s[j]'h).toNat : Int) == 45) = false) := fun j hj hj2 h => ndash s j hj h (hib.2 _ (by omega))
  have HY : Hid (∀ j : Nat, j = k + 1 → ∀ h : j < s.size, (((s[j]'h).toNat : Int) == 45) = true) := fun j hj h => isdash s j (by omega) h (by rw [show j - 1 = k by omega]; exact hib.1)
  clear hib hD
  subst h1 h2
  have h4 : decide (n2 < n1) = false := by simpa using h3
  unfold Num1 at H1 H2
  have HP1 := Lib.hid H1
  have HP2 := Lib.hid H2
  clear H1 H2
  go_enter Tryz.func173, Tryz.ntmps173
  go_wp2
  go_loop [5] (fun i => ∃ j : Nat, 1 ≤ j ∧ j ≤ k + 1 ∧ i = .int .i64 j) (fun i => s.size - (intOf i).toNat)
  case atStart => exact ⟨1, Nat.le_refl _, by omega, rfl⟩
  case round =>
    obtain ⟨j, hj, hj2, rfl⟩ := hrel
    have hlt : j < s.size := by omega
    have hw : IntKind.i64.wrap ((j : Int) + 1) = ((j + 1 : Nat) : Int) := by rw [IntWalk.i64_in _ (by omega)]; omega
    by_cases hjk : j < k + 1
    · have hc := HN.out j hj hjk hlt
      go_wp2
      all_goals first
        | (exfalso; omega)
        | (go_round
           case rel => exact ⟨j + 1, by omega, by omega, rfl⟩
           case measure => simp [intOf]; omega)
    · have hjk2 : j = k + 1 := by omega
      have hc := HY.out j hjk2 hlt
      obtain ⟨d2, hd2⟩ : ∃ d2 : Nat, d2 = j + 1 := ⟨_, rfl⟩
      rw [← hd2] at hw
      obtain ⟨S1, hS1⟩ : ∃ S1, s.extract 0 j = S1 := ⟨_, rfl⟩
      obtain ⟨S2, hS2⟩ : ∃ S2, s.extract d2 s.size = S2 := ⟨_, rfl⟩
      rw [← hjk2, hS1] at HP1
      rw [show k + 2 = d2 by omega, hS2] at HP2
      have hd2s : (d2 : Int) ≤ s.size := by omega
      have hjs : (j : Int) ≤ s.size := by omega
      clear hjk2 hjk hj2 hd2
      go_wp2_with (first
          | (go_at_call 137; with_reducible refine (HP1.out _).mono ?_; rintro e w' ⟨rfl, rfl⟩)
          | (go_at_call 137; with_reducible refine (HP2.out _).mono ?_; rintro e w' ⟨rfl, rfl⟩))
      all_goals first
        | (exfalso; omega)
        | (go_ret3; exact ⟨rfl, rfl⟩)
theorem num1_of (s : ByteArray) (n x : Int) (hs : s.size ≤ maxLen) (h : endR (numT s.data.toList 255) = .returned (.tuple #[.int .i64 n, .int .i64 x])) : Num1 s n x := fun w => rnumber_is s 255 255 rfl _ w hs (by omega) h
theorem numT_ne' {l : List UInt8} {m : Nat} {e : Int} (h : numT l m = .error e) : (e == 0) = false := by
  unfold numT at h
  split at h
  · cases h; rfl
  · split at h
    · cases h
    · cases h; rfl
theorem rspan_any (s : ByteArray) (w : World) (hs0 : 0 < s.size) (hs : s.size ≤ 1000000) :
    Calls Tryz.prog 173 #[.string s] w fun e w' => e = endS (spanT s.data.toList) ∧ w = w' := by
  have hm : s.size ≤ maxLen := by unfold maxLen; omega
  unfold spanT
  rcases ib_lt (s.data.toList.drop 1) 45 with hD | ⟨k, hD, hk⟩
  · rw [if_pos hD]
    cases hn : numT s.data.toList 255 with
    | error x => exact rspan_one s 0 x w hs0 hs hD (num1_of s 0 x hm (by rw [hn]; rfl))
    | ok n => exact rspan_one s n 0 w hs0 hs hD (num1_of s n 0 hm (by rw [hn]; rfl))
  · rw [if_neg (by rw [hD]; omega)]
    have hk1 : k + 1 < s.size := by rw [List.length_drop, size_len] at hk; omega
    have hz1 : (s.extract 0 (k + 1)).size ≤ maxLen := by unfold maxLen; simp; omega
    have hz2 : (s.extract (k + 2) s.size).size ≤ maxLen := by unfold maxLen; simp; omega
    have e1 : (s.extract 0 (k + 1)).data.toList = s.data.toList.take (k + 1) := by rw [ext_take]; rfl
    have e2 : (s.extract (k + 2) s.size).data.toList = s.data.toList.drop (k + 2) := by rw [ext_drop]; rfl
    have ht : (Lib.indexByte (s.data.toList.drop 1) 45).toNat = k := by rw [hD]; rfl
    rw [ht]
    obtain ⟨n2, x2, H2, HX⟩ : ∃ n2 x2 : Int, Num1 (s.extract (k + 2) s.size) n2 x2 ∧ endR (numT (s.data.toList.drop (k + 2)) 255) = .returned (.tuple #[.int .i64 n2, .int .i64 x2]) := by
      cases h2 : numT (s.data.toList.drop (k + 2)) 255 with
      | error y => exact ⟨0, y, num1_of _ 0 y hz2 (by rw [e2, h2]; rfl), rfl⟩
      | ok m => exact ⟨m, 0, num1_of _ m 0 hz2 (by rw [e2, h2]; rfl), rfl⟩
    cases h1 : numT (s.data.toList.take (k + 1)) 255 with
    | error x => exact rspan_no1 s k 0 x n2 x2 w hs0 hs hk1 hD (num1_of _ 0 x hz1 (by rw [e1, h1]; rfl)) H2 (numT_ne' h1)
    | ok n =>
      have H1 := num1_of _ n 0 hz1 (by rw [e1, h1]; rfl)
      cases h2 : numT (s.data.toList.drop (k + 2)) 255 with
      | error y => exact rspan_no2 s k n 0 0 y w hs0 hs hk1 hD H1 (num1_of _ 0 y hz2 (by rw [e2, h2]; rfl)) rfl (numT_ne' h2)
      | ok m =>
        have H2' := num1_of _ m 0 hz2 (by rw [e2, h2]; rfl)
        simp only []
        by_cases hnm : n ≤ m
        · rw [if_pos hnm]
          exact rspan_ok s k n 0 m 0 w hs0 hs hk1 hD H1 H2' rfl rfl (by omega)
        · rw [if_neg hnm]
          exact rspan_gt s k n 0 m 0 w hs0 hs hk1 hD H1 H2' rfl rfl (by omega)
end Go.Proofs.YticfhbffoajgcaaGreatDoor
/- The reference's least: how many words a keyword wants. -/
set_option linter.unusedVariables false
namespace Go.Proofs.YticfhbffoajgcaaGreatDoor
open Go.RowKit

/-- The least number of words of an entry (0: no such keyword), and whether it may have more. -/
def leastT (k : List UInt8) : Nat × Bool :=
  if k = kLoc then (2, false) else if k = kWei then (3, true) else if k = kLow then (3, false) else if k = kUp then (3, false)
  else if k = kCls then (2, true) else if k = kElm then (4, false) else (0, false)
theorem leq {s : ByteArray} {l : List UInt8} (h : ¬ s.data.toList = l) : (s.toList == l) = false := by
  rw [ByteArray.toList_eq]
  exact beq_eq_false_iff_ne.2 h
theorem leq' {s : ByteArray} {l : List UInt8} (h : s.data.toList = l) : (s.toList == l) = true := by
  rw [ByteArray.toList_eq, h]
  exact beq_self_eq_true l
theorem retLeast {a b : Int} {x y : Bool} (h : a = b) (h2 : x = y) : Ending.returned (.tuple #[.int .i64 a, .bool x]) = .returned (.tuple #[.int .i64 b, .bool y]) := by rw [h, h2]
set_option maxHeartbeats 4000000 in
theorem rleast_any (s : ByteArray) (w : World) :
    Calls Tryz.prog 54 #[.string s] w fun e w' => e = .returned (.tuple #[.int .i64 ((leastT s.data.toList).1 : Int), .bool (leastT s.data.toList).2]) ∧ w = w' := by
  obtain ⟨R, hR⟩ : ∃ R, Ending.returned (.tuple #[.int .i64 ((leastT s.data.toList).1 : Int), .bool (leastT s.data.toList).2]) = R := ⟨_, rfl⟩
  rw [hR]
  unfold leastT at hR
  by_cases c1 : s.data.toList = kLoc
  · rw [if_pos c1] at hR
    have HR := Lib.hid hR
    have e1 := leq' c1
    unfold kLoc at e1
    clear hR c1
    go_enter Tryz.func54, Tryz.ntmps54
    go_wp2
    go_ret2
    exact ⟨HR.out, rfl⟩
  rw [if_neg c1] at hR
  have e1 := leq c1
  unfold kLoc at e1
  by_cases c2 : s.data.toList = kWei
  · rw [if_pos c2] at hR
    have HR := Lib.hid hR
    have e2 := leq' c2
    unfold kWei at e2
    clear hR c1 c2
    go_enter Tryz.func54, Tryz.ntmps54
    go_wp2
    go_ret2
    exact ⟨HR.out, rfl⟩
  rw [if_neg c2] at hR
  have e2 := leq c2
  unfold kWei at e2
  by_cases c3 : s.data.toList = kLow
  · rw [if_pos c3] at hR
    have HR := Lib.hid hR
    have e3 := leq' c3
    unfold kLow at e3
    clear hR c1 c2 c3
    go_enter Tryz.func54, Tryz.ntmps54
    go_wp2
    go_ret2
    exact ⟨HR.out, rfl⟩
  rw [if_neg c3] at hR
  have e3 := leq c3
  unfold kLow at e3
  by_cases c4 : s.data.toList = kUp
  · rw [if_pos c4] at hR
    have HR := Lib.hid hR
    have e4 := leq' c4
    unfold kUp at e4
    clear hR c1 c2 c3 c4
    go_enter Tryz.func54, Tryz.ntmps54
    go_wp2
    go_ret2
    exact ⟨HR.out, rfl⟩
  rw [if_neg c4] at hR
  have e4 := leq c4
  unfold kUp at e4
  by_cases c5 : s.data.toList = kCls
  · rw [if_pos c5] at hR
    have HR := Lib.hid hR
    have e5 := leq' c5
    unfold kCls at e5
    clear hR c1 c2 c3 c4 c5
    go_enter Tryz.func54, Tryz.ntmps54
    go_wp2
    go_ret2
    exact ⟨HR.out, rfl⟩
  rw [if_neg c5] at hR
  have e5 := leq c5
  unfold kCls at e5
  by_cases c6 : s.data.toList = kElm
  · rw [if_pos c6] at hR
    have HR := Lib.hid hR
    have e6 := leq' c6
    unfold kElm at e6
    clear hR c1 c2 c3 c4 c5 c6
    go_enter Tryz.func54, Tryz.ntmps54
    go_wp2
    go_ret2
    exact ⟨HR.out, rfl⟩
  rw [if_neg c6] at hR
  have HR := Lib.hid hR
  have e6 := leq c6
  unfold kElm at e6
  clear hR c1 c2 c3 c4 c5 c6
  go_enter Tryz.func54, Tryz.ntmps54
  go_wp2
  go_ret2
  exact ⟨HR.out, rfl⟩
end Go.Proofs.YticfhbffoajgcaaGreatDoor
/- The reference's with: a table of bytes with another byte at a place. -/
set_option linter.unusedVariables false
namespace Go.Proofs.YticfhbffoajgcaaGreatDoor
open Go.RowKit

set_option maxRecDepth 100000 in
set_option maxHeartbeats 4000000 in
theorem rwith_any (T : ByteArray) (a c : Nat) (hT : T.size = 256) (ha : a < 256) (hc : c < 256) (w : World) :
    Calls Tryz.prog 96 #[.string T, .int .i64 (a : Int), .int .i64 (c : Int)] w fun e w' => e = .returned (.string (mk (putB T.data.toList a c))) ∧ Below w.heap.size w w' := by
  obtain ⟨cap, hcap⟩ : ∃ cap, grownCap w T.size 0 5 = cap := ⟨_, rfl⟩
  have hcv := Lib.run_convert_string_bytes (P := Tryz.prog) w 9 80 5 T Tryz.underlying9 Tryz.underlying80 Tryz.underlying5
  have hn := Lib.bytesWorld_at_new w 5 T
  have hcl := Lib.bytesWorld_cell w 5 T a (by omega)
  have hcs : T.size ≤ (Lib.bytesCells w 5 T).size := by simp [Lib.bytesCells]
  obtain ⟨x, hx⟩ : ∃ x : Nat, (T.data.toList.getD a 0).toNat = x := ⟨_, rfl⟩
  rw [hx] at hcl
  clear hx
  obtain ⟨W1, hW1⟩ : ∃ W1, Lib.bytesWorld w 5 T = W1 := ⟨_, rfl⟩
  obtain ⟨C, hC⟩ : ∃ C, Lib.bytesCells w 5 T = C := ⟨_, rfl⟩
  rw [hcap, hW1] at hcv
  rw [hW1, hC] at hn
  rw [hW1] at hcl
  rw [hC] at hcs
  have hfz : W1.frozen? ⟨w.heap.size, a, none⟩ = false := by
    simp [World.frozen?, hn]
    omega
  have hwc : IntKind.u8.wrap (c : Int) = (c : Int) := IntWalk.u8_in _ (by omega)
  obtain ⟨v, hv⟩ : ∃ v : Value, v = .int .u8 (c : Int) := ⟨_, rfl⟩
  have hB : Below w.heap.size w (W1.setCell ⟨w.heap.size, a, none⟩ v) := by
    refine Below.setCell ?_ (show w.heap.size ≤ (⟨w.heap.size, a, none⟩ : Addr).block from Nat.le_refl _) _
    rw [← hW1]
    exact ⟨rfl, rfl, rfl, by rw [Lib.bytesWorld_size]; omega, fun k hk => Lib.bytesWorld_at_old w _ T k hk⟩
  have hbk : (convert 80 9 (.slice (some ⟨w.heap.size, 0, none⟩) 256 cap)).run Tryz.prog (W1.setCell ⟨w.heap.size, a, none⟩ v) = .ok (.string (mk (putB T.data.toList a c))) (W1.setCell ⟨w.heap.size, a, none⟩ v) := by
    have hl : (putB T.data.toList a c).length = 256 := by unfold putB; rw [List.length_set, size_len, hT]
    have := run_convert_bytes_back (P := Tryz.prog) (W1.setCell ⟨w.heap.size, a, none⟩ v) 80 9 5 ⟨w.heap.size, 0, none⟩ cap (putB T.data.toList a c) Tryz.underlying80 Tryz.underlying5 Tryz.underlying9 (fun j hj => by
      rw [hl] at hj
      rw [show (⟨w.heap.size, 0, none⟩ : Addr).add j = ⟨w.heap.size, j, none⟩ by simp [Addr.add]; intro h; exact h.symm]
      by_cases hja : a = j
      · subst hja
        rw [World.cell?_setCell_same' _ _ _ (by rw [hcl]; rfl), hv]
        simp only [putB, List.getElem_set_self]
        rw [UInt8.toNat_ofNat_of_lt' (by simpa using hc)]
      · rw [World.cell?_setCell_other (a := ⟨w.heap.size, a, none⟩) (b := ⟨w.heap.size, j, none⟩) W1 v (by intro h; cases h; exact hja rfl), ← hW1, Lib.bytesWorld_cell w _ T j (by omega)]
        simp only [putB, List.getElem_set_ne hja, List.getD_eq_getElem?_getD]
        rw [List.getElem?_eq_getElem (by rw [size_len]; omega)]
        rfl)
    rw [hl] at this
    exact this
  rw [hv] at hB hbk
  have HB := Lib.hid hB
  clear hB hv
  have h1 : (0 : Int) ≤ a := by omega
  have h2 : (a : Int) < T.size := by omega
  have HC := Lib.hid hC
  have HW := Lib.hid hW1
  clear hC hW1 hcap
  go_enter Tryz.func96, Tryz.ntmps96
  go_wp2
  go_ret
  exact ⟨rfl, HB.out⟩
end Go.Proofs.YticfhbffoajgcaaGreatDoor
/- The reference's numbers: the numbers that words are. -/
set_option linter.unusedVariables false
namespace Go.Proofs.YticfhbffoajgcaaGreatDoor
open Go.RowKit

/-- Bytes, and a last number up to m, from left to right. -/
def numsT : List (List UInt8) → Nat → Except Int (List Nat)
  | [], _ => .ok []
  | x :: r, m => match numT x (if r.isEmpty then m else 255) with
    | .error e => .error e
    | .ok n => match numsT r m with
      | .error e => .error e
      | .ok t => .ok (n :: t)
/-- Words that lie one behind the other. -/
structure WR (w : World) (g o : Nat) (ws : List (List UInt8)) : Prop where
  lt : g < w.heap.size
  at_ : ∀ j (h : j < ws.length), w.cell? ⟨g, o + j, none⟩ = some (.string (mk ws[j]))
theorem WR.below {w w' : World} {g o : Nat} {ws : List (List UInt8)} (h : WR w g o ws) {B : Nat} (hb : Below B w w') (hB : g < B) : WR w' g o ws := by
  refine ⟨Nat.lt_of_lt_of_le h.lt hb.size, fun j hj => ?_⟩
  rw [← h.at_ j hj]
  unfold World.cell?
  rw [hb.block g hB]
def nI (l : List Nat) : List Value := nums (l.map fun (n : Nat) => (n : Int))
theorem nI_snoc (l : List Nat) (n : Nat) : nI (l ++ [n]) = nI l ++ [.int .i64 (n : Int)] := by
  unfold nI; rw [List.map_append, nums_app]; rfl
/-- What is left to be read, behind what has been read. -/
def Left (ws : List (List UInt8)) (m : Nat) (done : List Nat) (k : Nat) : Prop :=
  numsT ws m = match numsT (ws.drop k) m with
    | .error e => .error e
    | .ok t => .ok (done ++ t)
theorem Left.next {ws : List (List UInt8)} {m k n : Nat} {done : List Nat} (h : Left ws m done k) (hk : k < ws.length) (hn : numT ws[k] (if k + 1 = ws.length then m else 255) = .ok n) : Left ws m (done ++ [n]) (k + 1) := by
  unfold Left at h ⊢
  rw [h, List.drop_eq_getElem_cons hk]
  have e : (if (List.drop (k + 1) ws).isEmpty then m else 255) = (if k + 1 = ws.length then m else 255) := by
    by_cases hl : k + 1 = ws.length
    · rw [if_pos hl, List.drop_of_length_le (by omega)]; rfl
    · rw [if_neg hl, List.drop_eq_getElem_cons (by omega)]; rfl
  simp only [numsT]
  rw [e, hn]
  simp only []
  cases numsT (List.drop (k + 1) ws) m with
  | error x => rfl
  | ok t => simp
theorem Left.stop {ws : List (List UInt8)} {m k : Nat} {x : Int} {done : List Nat} (h : Left ws m done k) (hk : k < ws.length) (hn : numT ws[k] (if k + 1 = ws.length then m else 255) = .error x) : numsT ws m = .error x := by
  unfold Left at h
  rw [h, List.drop_eq_getElem_cons hk]
  have e : (if (List.drop (k + 1) ws).isEmpty then m else 255) = (if k + 1 = ws.length then m else 255) := by
    by_cases hl : k + 1 = ws.length
    · rw [if_pos hl, List.drop_of_length_le (by omega)]; rfl
    · rw [if_neg hl, List.drop_eq_getElem_cons (by omega)]; rfl
  simp only [numsT]
  rw [e, hn]
theorem Left.done {ws : List (List UInt8)} {m : Nat} {done : List Nat} (h : Left ws m done ws.length) : numsT ws m = .ok done := by
  unfold Left at h
  rw [h, List.drop_length]
  simp [numsT]
/-- What numbers hands back. -/
def NumsEnd (w : World) (r : Except Int (List Nat)) (e : Ending) (w' : World) : Prop :=
  Below w.heap.size w w' ∧ match r with
    | .error x => e = .returned (.tuple #[.slice none 0 0, .int .i64 x])
    | .ok l => ∃ v, e = .returned (.tuple #[v, .int .i64 0]) ∧ w'.ownsRow w.heap.size 3 1 v l.length (nI l)
set_option maxRecDepth 100000 in
set_option maxHeartbeats 8000000 in
theorem rnumbers_any (ws : List (List UInt8)) (g o c m : Nat) (w : World) (hW : WR w g o ws) (hl : ws.length ≤ 1000000) (hs : ∀ x ∈ ws, x.length ≤ 1000000) (hm : m ≤ 1000000) :
    Calls Tryz.prog 95 #[.slice (some ⟨g, o, none⟩) ws.length c, .int .i64 (m : Int)] w fun e w' => NumsEnd w (numsT ws m) e w' := by
  have HW := Lib.hid hW
  have HS := Lib.hid hs
  clear hW hs
  obtain ⟨N, hN⟩ : ∃ N, ws.length = N := ⟨_, rfl⟩
  have HNl := Lib.hid hN
  rw [hN] at hl ⊢
  clear hN
  go_enter Tryz.func95, Tryz.ntmps95
  go_wp2
  go_loopw [6, 7] (fun v i wr => ∃ (k : Nat) (sv : Value) (done : List Nat), sv = v ∧ k ≤ N ∧ i = .int .i64 k ∧
      Hid (wr.ownsRow w.heap.size 3 1 sv k (nI done)) ∧ Hid (done.length = k) ∧ Hid (Below w.heap.size w wr) ∧ Hid (Left ws m done k)) (fun _ i _ => N - (intOf i).toNat)
  case atStart => exact ⟨0, _, [], rfl, Nat.zero_le _, rfl, World.ownsRow_nil _ _ _ _, rfl, Below.refl _ _, by unfold Hid Left; simp; cases numsT ws m <;> rfl⟩
  case round =>
    obtain ⟨k, v0, done, rfl, hk, rfl, hown, hdl, hb, hL⟩ := hrel
    have hBs := hb.out.size
    by_cases hlt : k < N
    · have hkl : k < ws.length := by rw [HNl.out]; exact hlt
      have hcell := (HW.out.below hb.out HW.out.lt).at_ k hkl
      have hsz : (mk ws[k]).size ≤ maxLen := by
        have := HS.out ws[k] (List.getElem_mem hkl)
        have e : (mk ws[k]).size = ws[k].length := rfl
        unfold maxLen; omega
      have hNw : IntKind.i64.wrap ((N : Int) - 1) = (N : Int) - 1 := IntWalk.i64_in _ (by omega)
      have hkw : IntKind.i64.wrap ((k : Int) + 1) = ((k + 1 : Nat) : Int) := by rw [IntWalk.i64_in _ (by omega)]; omega
      obtain ⟨top, htop⟩ : ∃ top, (if k + 1 = ws.length then m else 255) = top := ⟨_, rfl⟩
      have htm : top ≤ 1000000 := by rw [← htop]; split <;> omega
      obtain ⟨S, hS⟩ : ∃ S, mk ws[k] = S := ⟨_, rfl⟩
      rw [hS] at hcell hsz
      have hSd : S.data.toList = ws[k] := by rw [← hS]; rfl
      have HC := Lib.hid (fun w => rnumber_any S top w hsz htm)
      rw [hSd] at HC
      cases hnk : numT ws[k] top with
      | error x =>
        rw [hnk] at HC
        have HC : Hid (∀ w : World, Calls Tryz.prog 137 #[.string S, .int .i64 (top : Int)] w fun e w' => e = .returned (.tuple #[.int .i64 0, .int .i64 x]) ∧ w = w') := Lib.hid HC.out
        have hx := numT_ne' hnk
        have HZ := Lib.hid (hL.out.stop hkl (by rw [htop]; exact hnk))
        clear hnk hS hSd
        by_cases hlast : k + 1 = N
        · rw [HNl.out, if_pos hlast] at htop
          have ht : (((k : Int)) == (N : Int) - 1) = true := by simp; omega
          subst htop
          go_wp2_with (go_at_call 137; refine (HC.out _).mono ?_; rintro e w' ⟨rfl, rfl⟩)
          go_ret2
          exact ⟨hb.out, by rw [HZ.out]; first | done | rfl⟩
        · rw [HNl.out, if_neg hlast] at htop
          have ht : (((k : Int)) == (N : Int) - 1) = false := by simp; omega
          subst htop
          go_wp2_with (go_at_call 137; refine (HC.out _).mono ?_; rintro e w' ⟨rfl, rfl⟩)
          go_ret2
          exact ⟨hb.out, by rw [HZ.out]; first | done | rfl⟩
      | ok n =>
        rw [hnk] at HC
        have HC : Hid (∀ w : World, Calls Tryz.prog 137 #[.string S, .int .i64 (top : Int)] w fun e w' => e = .returned (.tuple #[.int .i64 (n : Int), .int .i64 0]) ∧ w = w') := Lib.hid HC.out
        have HZ := Lib.hid (hL.out.next hkl (by rw [htop]; exact hnk))
        clear hnk hS hSd hL
        by_cases hlast : k + 1 = N
        · rw [HNl.out, if_pos hlast] at htop
          have ht : (((k : Int)) == (N : Int) - 1) = true := by simp; omega
          subst htop
          go_wp2_with (first
            | (go_at_call 137; refine (HC.out _).mono ?_; rintro e w' ⟨rfl, rfl⟩)
            | (at_builtin; refine app_lit 22 3 (.int .i64 0) 8 Tryz.underlying22 infoI rfl wr rfl _ _ rfl w.heap.size v0 _ _ _ _ rfl rfl hown.out rfl rfl ?c1 hBs ?c2 ?c3 ?_))
          case c1 => simp [Value.oneCell']
          case c2 => unfold maxLen; omega
          case c3 => omega
          intro v' w1 hown' hb'
          have HO : Hid (w1.ownsRow w.heap.size 3 1 v' (k + 1) (nI (done ++ [n]))) := by rw [nI_snoc]; first | exact hown' | (rw [hlast]; exact hown')
          have HB := Lib.hid (hb' w hb.out)
          clear hown' hb'
          go_wp2
          go_roundw
          case rel => exact ⟨k + 1, _, _, rfl, by omega, by go_num, HO.out, by unfold Hid; rw [List.length_append, hdl.out]; rfl, HB.out, HZ.out⟩
          case measure => simp [intOf]; omega
        · rw [HNl.out, if_neg hlast] at htop
          have ht : (((k : Int)) == (N : Int) - 1) = false := by simp; omega
          subst htop
          go_wp2_with (first
            | (go_at_call 137; refine (HC.out _).mono ?_; rintro e w' ⟨rfl, rfl⟩)
            | (at_builtin; refine app_lit 22 3 (.int .i64 0) 8 Tryz.underlying22 infoI rfl wr rfl _ _ rfl w.heap.size v0 _ _ _ _ rfl rfl hown.out rfl rfl ?d1 hBs ?d2 ?d3 ?_))
          case d1 => simp [Value.oneCell']
          case d2 => unfold maxLen; omega
          case d3 => omega
          intro v' w1 hown' hb'
          have HO : Hid (w1.ownsRow w.heap.size 3 1 v' (k + 1) (nI (done ++ [n]))) := by rw [nI_snoc]; first | exact hown' | (rw [hlast]; exact hown')
          have HB := Lib.hid (hb' w hb.out)
          clear hown' hb'
          go_wp2
          go_roundw
          case rel => exact ⟨k + 1, _, _, rfl, by omega, by go_num, HO.out, by unfold Hid; rw [List.length_append, hdl.out]; rfl, HB.out, HZ.out⟩
          case measure => simp [intOf]; omega
    · have hkN : k = N := by omega
      subst hkN
      have HZ : Hid (numsT ws m = .ok done) := by
        have h := hL.out
        rw [← HNl.out] at h
        exact h.done
      clear hL
      go_wp2
      go_ret2
      exact ⟨hb.out, by rw [HZ.out]; exact ⟨_, rfl, by rw [hdl.out]; exact hown.out⟩⟩
end Go.Proofs.YticfhbffoajgcaaGreatDoor
/- The reference's set. (Written by gen_lrp2.py.) -/
set_option linter.unusedVariables false
namespace Go.Proofs.YticfhbffoajgcaaGreatDoor
open Go.RowKit

theorem ret_cs2 {fn : Func} {t0 t1 : Tmp} (hr : fn.results = #[.cell t0 37, .tmp t1]) (tmps : Array Value) (w : World) (g : Nat) (q : Nat → Bool) (v : Value) (hp : tmps.getD t0 undef = .pointer (some ⟨g, 0, none⟩)) (hv : tmps.getD t1 undef = v) (hA : At w g q) :
    (results fn tmps).run Tryz.prog w = .ok (.tuple #[cs q, v]) w := by
  have hp' : tmps[t0]?.getD undef = .pointer (some ⟨g, 0, none⟩) := by simpa using hp
  have hv' : tmps[t1]?.getD undef = v := by simpa using hv
  have hl := run_loadVar_row (P := Tryz.prog) w g 37 37 (cl q) (0, 0) _ hA Tryz.underlying37 rfl (by rw [cl_size]; exact info_cs)
  simp [results, hr, hp', hv', asAddr, hl, cs]

/-- The state of the loop over the ranges: the result's set, the set. -/
def CS0 (w0 : World) (R G : Nat) (p : Nat → Bool) (w : World) : Prop := Below w0.heap.size w0 w ∧ At w G p ∧ At w R (fun _ => false)
theorem CS0.keep {w0 w w' : World} {R G : Nat} {p : Nat → Bool} (hb : Below w.heap.size w w') (h : CS0 w0 R G p w) : CS0 w0 R G p w' := ⟨h.1.trans (hb.mono h.1.size), h.2.1.below hb h.2.1.lt, h.2.2.below hb h.2.2.lt⟩
theorem CS0.drew {w0 w : World} {R G : Nat} {p : Nat → Bool} (h : CS0 w0 R G p w) : CS0 w0 R G p w.drew := h.keep (Below.refl _ _).drew
theorem CS0.set {w0 w : World} {R G : Nat} {p : Nat → Bool} (h : CS0 w0 R G p w) (hG : w0.heap.size ≤ G ∧ R ≠ G) (q : Nat → Bool) : CS0 w0 R G q (w.setRow G (cl q)) := by
  refine ⟨h.1.trans ⟨rfl, rfl, rfl, ?_, fun k hk => setRow_other w G k _ (by omega)⟩, h.2.1.set q, h.2.2.other _ hG.2⟩
  simp [World.setRow]
def SetEnd (w : World) (r : Except Int (Nat → Bool)) (e : Ending) (w' : World) : Prop :=
  Below w.heap.size w w' ∧ match r with
    | .error x => e = .returned (.tuple #[cs (fun _ => false), .int .i64 x])
    | .ok p => e = .returned (.tuple #[cs p, .int .i64 0])
theorem spanT_lt {l : List UInt8} {ab : Nat × Nat} (h : spanT l = .ok ab) : ab.1 < 256 ∧ ab.2 < 256 := by
  unfold spanT at h
  split at h
  · cases hn : numT l 255 with
    | error x => rw [hn] at h; cases h
    | ok n => rw [hn] at h; cases h; have := numT_lt hn; exact ⟨by omega, by omega⟩
  · split at h
    · cases h
    · rename_i a ha
      split at h
      · cases h
      · rename_i b hb
        split at h
        · cases h
          have := numT_lt ha
          have := numT_lt hb
          exact ⟨by omega, by omega⟩
        · cases h
theorem spanT_ne {l : List UInt8} {x : Int} (h : spanT l = .error x) : (x == 0) = false := by
  unfold spanT at h
  split at h
  · cases hn : numT l 255 with
    | error y => rw [hn] at h; cases h; exact numT_ne' hn
    | ok n => rw [hn] at h; cases h
  · split at h
    · rename_i y hy; cases h; exact numT_ne' hy
    · split at h
      · rename_i y hy; cases h; exact numT_ne' hy
      · split at h
        · cases h
        · cases h; rfl
set_option maxRecDepth 100000 in
set_option maxHeartbeats 8000000 in
theorem rset_any (rs : List (List UInt8)) (g o c : Nat) (w : World) (hW : WR w g o rs) (hl : rs.length ≤ 1000000) (hs : ∀ x ∈ rs, 0 < x.length ∧ x.length ≤ 1000000) :
    Calls Tryz.prog 136 #[.slice (some ⟨g, o, none⟩) rs.length c] w fun e w' => SetEnd w (setT rs (fun _ => false)) e w' := by
  have HW := Lib.hid hW
  have HX := Lib.hid hs
  clear hW hs
  obtain ⟨n, hn⟩ : ∃ n, rs.length = n := ⟨_, rfl⟩
  have HNn := Lib.hid hn
  rw [hn] at hl ⊢
  clear hn
  obtain ⟨Q, hQ⟩ : ∃ Q, setT rs (fun _ => false) = Q := ⟨_, rfl⟩
  have HQ := Lib.hid hQ
  rw [hQ]
  clear hQ
  obtain ⟨R, hR⟩ : ∃ R, w.heap.size = R := ⟨_, rfl⟩
  obtain ⟨G, hG⟩ : ∃ G, R + 1 = G := ⟨_, rfl⟩
  have hGw : w.heap.size ≤ G ∧ R ≠ G := ⟨by omega, by omega⟩
  have HS0 : Hid (CS0 w R G (fun _ => false) ((w.alloc (.cells (cl fun _ => false) 37)).alloc (.cells (cl fun _ => false) 37))) := by
    refine ⟨((Below.refl _ _).alloc (Nat.le_refl _) _).alloc (by simp) _, ?_, ?_⟩
    · have := At.new (w.alloc (.cells (cl fun _ => false) 37)) (fun _ => false)
      rw [show (w.alloc (.cells (cl fun _ => false) 37)).heap.size = G by simp; omega] at this
      exact this
    · rw [← hR]; exact (At.new w _).alloc _
  go_enter Tryz.func136, Tryz.ntmps136
  go_wp2
  go_loopw [5] (fun i wr => ∃ (k : Nat) (p : Nat → Bool), k ≤ n ∧ i = .int .i64 k ∧ Hid (setT (rs.take k) (fun _ => false) = .ok p) ∧ Hid (CS0 w R G p wr)) (fun i _ => n - (intOf i).toNat)
  case atStart => exact ⟨0, _, Nat.zero_le _, rfl, rfl, HS0.out⟩
  case round =>
    obtain ⟨k, p, hk, rfl, HT, HC⟩ := hrel
    clear HS0
    by_cases hkn : k < n
    · have hkx : k < rs.length := by rw [HNn.out]; exact hkn
      have c0 := (HW.out.below HC.out.1 HW.out.lt).at_ k hkx
      have hxk := HX.out _ (List.getElem_mem hkx)
      have hkw : IntKind.i64.wrap ((k : Int) + 1) = ((k + 1 : Nat) : Int) := by rw [IntWalk.i64_in _ (by omega)]; omega
      have hsn := setT_snoc (rs.take k) rs[k] (fun _ => false)
      rw [← List.take_succ_eq_append_getElem hkx, HT.out] at hsn
      simp only at hsn
      obtain ⟨⟨u0, u1⟩, ⟨u2, u3⟩, u4⟩ := HC.out.2.1.words
      have HSp := Lib.hid (fun w => rspan_any (mk rs[k]) w hxk.1 hxk.2)
      rw [show (mk rs[k]).data.toList = rs[k] from rfl] at HSp
      cases hsp : spanT rs[k] with
      | error x =>
        rw [hsp] at hsn HSp
        have HSp : Hid (∀ w : World, Calls Tryz.prog 173 #[.string (mk rs[k])] w fun e w' => e = .returned (.tuple #[.int .i64 0, .int .i64 0, .int .i64 x]) ∧ w = w') := Lib.hid HSp.out
        have hxe := spanT_ne hsp
        have hall := setT_err (rs.take (k + 1)) (rs.drop (k + 1)) _ x hsn
        rw [List.take_append_drop] at hall
        have hq := HQ.out
        rw [hall] at hq
        have HQ2 := Lib.hid hq
        generalize mk rs[k] = X at c0 HSp
        clear hsn hsp hall hq hxk
        obtain ⟨⟨r0, r1⟩, ⟨r2, r3⟩, r4⟩ := HC.out.2.2.words
        have z0 : ((wd (fun _ => false) 0 64 : Nat) : Int) = 0 := by rfl
        have z1 : ((wd (fun _ => false) 64 64 : Nat) : Int) = 0 := by rfl
        have z2 : ((wd (fun _ => false) 128 64 : Nat) : Int) = 0 := by rfl
        have z3 : ((wd (fun _ => false) 192 64 : Nat) : Int) = 0 := by rfl
        have hP := HC.out.2.2.put4 (fun _ => false)
        have hPB := below_put4 HC.out.1 R (by omega) (fun _ => false)
        unfold put4 at hP hPB
        rw [z0, z1, z2, z3] at hP hPB
        have HP := Lib.hid hP
        have HPB := Lib.hid hPB
        clear hP hPB z0 z1 z2 z3
        go_wp2_with (go_at_call 173; refine (HSp.out _).mono ?_; rintro e w' ⟨rfl, rfl⟩)
        exact bodyPost_ret (ret_cs2 Tryz.results136 _ _ R (fun _ => false) (.int .i64 x) (by simp) (by simp) HP.out) rfl ⟨by rw [hR]; rw [hR] at HPB; exact HPB.out, by rw [← HQ2.out]; first | done | rfl⟩
      | ok ab =>
        rw [hsp] at hsn HSp
        have hab := spanT_lt hsp
        have HSp : Hid (∀ w : World, Calls Tryz.prog 173 #[.string (mk rs[k])] w fun e w' => e = .returned (.tuple #[.int .i64 (ab.1 : Int), .int .i64 (ab.2 : Int), .int .i64 0]) ∧ w = w') := Lib.hid HSp.out
        simp only at hsn
        have HSn := Lib.hid hsn
        have HRg := Lib.hid (fun w => rrange_any ab.1 ab.2 hab.1 hab.2 w)
        have HU := Lib.hid (fun w => runion_any p (between ab.1 ab.2) w)
        have hc1 : IntKind.u8.wrap (ab.1 : Int) = (ab.1 : Int) := IntWalk.u8_in _ (by omega)
        have hc2 : IntKind.u8.wrap (ab.2 : Int) = (ab.2 : Int) := IntWalk.u8_in _ (by omega)
        generalize (fun c => p c || between ab.1 ab.2 c) = q at HU HSn
        generalize between ab.1 ab.2 = D at HU HRg
        generalize mk rs[k] = X at c0 HSp
        obtain ⟨lo, hi⟩ := ab
        simp only at hc1 hc2 HSp HRg
        unfold cs cl at HU HRg
        clear hsn hsp hxk hab
        go_wp2_with (go_at_call 173; refine (HSp.out _).mono ?_; rintro e w' ⟨rfl, rfl⟩)
        refine wp_region_held_drew (S := fun _ => True) (by kernel_rfl) ?_ (fun hHeld => ?_)
        · exact trivial
        refine wpAnyH_take (i := 1) (v := ?bv1) rfl (by kernel_rfl) (by kernel_rfl) (by kernel_rfl) (fun _ _ _ h => h) (Or.inl ⟨by rfl, ?by1⟩) (by assumption) ?br1
        case by1 =>
          intro wx hSw
          clear hSw
          go_simp
          first | done | (with_reducible rfl)
        (try simp only [Act.put, List.getElem_toArray, List.getElem_cons_succ, List.getElem_cons_zero, List.setIfInBounds_toArray, List.set_cons_zero, List.set_cons_succ])
        refine wpAnyH_take (i := 2) (v := ?bv2) rfl (by kernel_rfl) (by kernel_rfl) (by kernel_rfl) (fun _ _ _ h => h) (Or.inl ⟨by rfl, ?by2⟩) (by assumption) ?br2
        case by2 =>
          intro wx hSw
          clear hSw
          go_simp
          first | done | (with_reducible rfl)
        (try simp only [Act.put, List.getElem_toArray, List.getElem_cons_succ, List.getElem_cons_zero, List.setIfInBounds_toArray, List.set_cons_zero, List.set_cons_succ])
        refine wpAnyH_take (i := 3) (v := ?bv3) rfl (by kernel_rfl) (by kernel_rfl) (by kernel_rfl) (fun _ _ _ h => h) (Or.inl ⟨by rfl, ?by3⟩) (by assumption) ?br3
        case by3 =>
          intro wx hSw
          clear hSw
          go_simp
          first | done | (with_reducible rfl)
        (try simp only [Act.put, List.getElem_toArray, List.getElem_cons_succ, List.getElem_cons_zero, List.setIfInBounds_toArray, List.set_cons_zero, List.set_cons_succ])
        refine wpAnyH_take (i := 4) (v := ?bv4) rfl (by kernel_rfl) (by kernel_rfl) (by kernel_rfl) (fun _ _ _ h => h) (Or.inl ⟨by rfl, ?by4⟩) (by assumption) ?br4
        case by4 =>
          intro wx hSw
          clear hSw
          go_simp
          first | done | (with_reducible rfl)
        (try simp only [Act.put, List.getElem_toArray, List.getElem_cons_succ, List.getElem_cons_zero, List.setIfInBounds_toArray, List.set_cons_zero, List.set_cons_succ])
        refine wpAnyH_ready (rs := [0, 5]) (by kernel_rfl) (by simp) ?_
        refine AllReadyH.cons rfl (fun K hK => ?_) (AllReadyH.cons rfl (fun K hK => ?_) AllReadyH.nil)
        · go_simp
          refine hK.out _ _ trivial (fun _ => ?_)
          clear hK K
          (try simp only [Act.put, List.getElem_toArray, List.getElem_cons_succ, List.getElem_cons_zero, List.setIfInBounds_toArray, List.set_cons_zero, List.set_cons_succ])
          refine wpAnyH_ready (rs := [5]) (by kernel_rfl) (by simp) ?_
          refine AllReadyH.cons rfl (fun K hK => ?_) AllReadyH.nil
          go_simp
          go_at_call 162
          refine (HRg.out _).mono ?_
          rintro e w3 ⟨rfl, hb⟩
          refine hK.out _ _ trivial (fun _ => ?_)
          clear hK K
          have HJ := Lib.hid (CS0.keep hb HC.out.drew)
          clear hb
          (try simp only [Act.put, List.getElem_toArray, List.getElem_cons_succ, List.getElem_cons_zero, List.setIfInBounds_toArray, List.set_cons_zero, List.set_cons_succ])
          refine wpAnyH_ready (rs := [6]) (by kernel_rfl) (by simp) ?_
          refine AllReadyH.cons rfl (fun K hK => ?_) AllReadyH.nil
          go_simp
          go_at_call 24
          refine (HU.out _).mono ?_
          rintro e w4 ⟨rfl, hb⟩
          refine hK.out _ _ trivial (fun _ => ?_)
          clear hK K
          have HL := Lib.hid (CS0.keep hb HJ.out)
          clear HJ
          clear hb
          (try simp only [Act.put, List.getElem_toArray, List.getElem_cons_succ, List.getElem_cons_zero, List.setIfInBounds_toArray, List.set_cons_zero, List.set_cons_succ])
          refine wpAnyH_ready (rs := [7]) (by kernel_rfl) (by simp) ?_
          refine AllReadyH.cons rfl (fun K hK => ?_) AllReadyH.nil
          rw [if_pos (by rfl)]
          refine wp_store_row 37 _ _ rfl (G) (cl q) rfl rfl 37 _ HL.out.2.1 info_cs rfl (cl_one q) ?_
          refine hK.out _ _ trivial (fun _ => ?_)
          clear hK K
          (try simp only [Act.put, List.getElem_toArray, List.getElem_cons_succ, List.getElem_cons_zero])
          refine wpAnyH_done (by kernel_rfl) ?_ _
          have HN3 := Lib.hid (HL.out.set hGw q)
          clear HC HL
          go_wp2
          go_roundw
          case rel => exact ⟨k + 1, q, by omega, by go_num, HSn.out, HN3.out⟩
          case measure => simp [intOf]; omega
        · go_simp
          go_at_call 162
          refine (HRg.out _).mono ?_
          rintro e w3 ⟨rfl, hb⟩
          refine hK.out _ _ trivial (fun _ => ?_)
          clear hK K
          have HJ := Lib.hid (CS0.keep hb HC.out.drew)
          clear u0 u1 u2 u3 u4
          obtain ⟨⟨u0, u1⟩, ⟨u2, u3⟩, u4⟩ := HJ.out.2.1.words
          clear hb
          (try simp only [Act.put, List.getElem_toArray, List.getElem_cons_succ, List.getElem_cons_zero, List.setIfInBounds_toArray, List.set_cons_zero, List.set_cons_succ])
          refine wpAnyH_ready (rs := [0]) (by kernel_rfl) (by simp) ?_
          refine AllReadyH.cons rfl (fun K hK => ?_) AllReadyH.nil
          go_simp
          refine hK.out _ _ trivial (fun _ => ?_)
          clear hK K
          (try simp only [Act.put, List.getElem_toArray, List.getElem_cons_succ, List.getElem_cons_zero, List.setIfInBounds_toArray, List.set_cons_zero, List.set_cons_succ])
          refine wpAnyH_ready (rs := [6]) (by kernel_rfl) (by simp) ?_
          refine AllReadyH.cons rfl (fun K hK => ?_) AllReadyH.nil
          go_simp
          go_at_call 24
          refine (HU.out _).mono ?_
          rintro e w4 ⟨rfl, hb⟩
          refine hK.out _ _ trivial (fun _ => ?_)
          clear hK K
          have HL := Lib.hid (CS0.keep hb HJ.out)
          clear HJ
          clear hb
          (try simp only [Act.put, List.getElem_toArray, List.getElem_cons_succ, List.getElem_cons_zero, List.setIfInBounds_toArray, List.set_cons_zero, List.set_cons_succ])
          refine wpAnyH_ready (rs := [7]) (by kernel_rfl) (by simp) ?_
          refine AllReadyH.cons rfl (fun K hK => ?_) AllReadyH.nil
          rw [if_pos (by rfl)]
          refine wp_store_row 37 _ _ rfl (G) (cl q) rfl rfl 37 _ HL.out.2.1 info_cs rfl (cl_one q) ?_
          refine hK.out _ _ trivial (fun _ => ?_)
          clear hK K
          (try simp only [Act.put, List.getElem_toArray, List.getElem_cons_succ, List.getElem_cons_zero])
          refine wpAnyH_done (by kernel_rfl) ?_ _
          have HN3 := Lib.hid (HL.out.set hGw q)
          clear HC HL
          go_wp2
          go_roundw
          case rel => exact ⟨k + 1, q, by omega, by go_num, HSn.out, HN3.out⟩
          case measure => simp [intOf]; omega
    · obtain rfl : k = n := by omega
      have hset := HT.out
      rw [List.take_of_length_le (by rw [HNn.out]; exact Nat.le_refl _)] at hset
      have hq := HQ.out
      rw [hset] at hq
      have HQ2 := Lib.hid hq
      obtain ⟨⟨u0, u1⟩, ⟨u2, u3⟩, u4⟩ := HC.out.2.1.words
      obtain ⟨⟨r0, r1⟩, ⟨r2, r3⟩, r4⟩ := HC.out.2.2.words
      have HP := Lib.hid (HC.out.2.2.put4 p)
      have HPB := Lib.hid (below_put4 HC.out.1 R (by omega) p)
      go_wp2
      exact bodyPost_ret (ret_cs2 Tryz.results136 _ _ R p (.int .i64 0) (by simp) (by simp) HP.out) rfl ⟨HPB.out, by rw [← HQ2.out]; first | done | rfl⟩
end Go.Proofs.YticfhbffoajgcaaGreatDoor
/- The reference's way of an entry is the program's: plain mathematics. -/
set_option linter.unusedVariables false
set_option linter.unusedSimpArgs false
namespace Go.Proofs.YticfhbffoajgcaaGreatDoor
open Go.RowKit

def elemR (L : PL) (n : List Nat) : Except Int PL :=
  if L.els.any (fun c => c.1 == pairT (n.getD 0 0) (n.getD 1 0)) = true then .error 6 else if 64 ≤ L.els.length then .error 3
  else .ok { L with els := L.els ++ [(pairT (n.getD 0 0) (n.getD 1 0), ((n.getD 2 0 : Nat) : Int))] }
def changeR (L : PL) (k : List UInt8) (r : List (List UInt8)) : Except Int PL :=
  if k = kCls then classT L (r.headD []) r.tail else
  match numsT r (if k = kLow ∨ k = kUp then 255 else 65535) with
  | .error e => .error e
  | .ok n =>
    if k = kLow then .ok { L with lower := putB L.lower (n.getD 0 0) (n.getD 1 0) }
    else if k = kUp then .ok { L with upper := putB L.upper (n.getD 0 0) (n.getD 1 0) }
    else if k = kElm then elemR L n
    else .ok { L with wt := putW L.wt n.dropLast (n.getLastD 0) }
/-- Is an entry refused for its form? -/
def badR (st : Bool) (k : List UInt8) (n : Nat) : Bool :=
  decide ((leastT k).1 = 0) || ((!st) != (k == kLoc)) || decide (n < (leastT k).1) || (decide ((leastT k).1 < n) && !(leastT k).2)
def entryR (st : Bool) (L : PL) (k : List UInt8) (r : List (List UInt8)) : Except Int PL :=
  if badR st k (r.length + 1) = true then .error 1
  else if st = true then changeR L k r else beginT L (r.headD [])
theorem numsT_snoc : ∀ (l : List (List UInt8)) (y : List UInt8) (m : Nat), numsT (l ++ [y]) m = match bytesT l with
    | .error e => .error e
    | .ok b => match numT y m with
      | .error e => .error e
      | .ok v => .ok (b ++ [v]) := by
  intro l
  induction l with
  | nil =>
    intro y m
    simp only [List.nil_append, numsT, bytesT, List.isEmpty_nil, if_true] <;> (cases numT y m <;> rfl)
  | cons x l ih =>
    intro y m
    have e : (l ++ [y]).isEmpty = false := by cases l <;> rfl
    simp only [List.cons_append, numsT, bytesT, e, Bool.false_eq_true, if_false]
    cases numT x 255 with
    | error z => rfl
    | ok n =>
      simp only [ih]
      cases bytesT l with
      | error z => rfl
      | ok b => cases numT y m <;> rfl
theorem tab_eq (t : List UInt8) (x y : List UInt8) : tabT t x y = match numsT [x, y] 255 with
    | .error e => .error e
    | .ok n => .ok (putB t (n.getD 0 0) (n.getD 1 0)) := by
  unfold tabT
  simp only [numsT, List.isEmpty_cons, List.isEmpty_nil, Bool.false_eq_true, if_false, if_true]
  cases numT x 255 with
  | error e => rfl
  | ok a => cases numT y 255 <;> rfl
theorem elem_eq (L : PL) (x y z : List UInt8) : elemT L x y z = match numsT [x, y, z] 65535 with
    | .error e => .error e
    | .ok n => elemR L n := by
  unfold elemT
  simp only [numsT, List.isEmpty_cons, List.isEmpty_nil, Bool.false_eq_true, if_false, if_true]
  cases numT x 255 with
  | error e => rfl
  | ok a =>
    simp only
    cases numT y 255 with
    | error e => rfl
    | ok b =>
      simp only
      cases numT z 65535 <;> rfl
theorem weigh_eq (L : PL) (r : List (List UInt8)) (h : 2 ≤ r.length) : weighT L r.dropLast (r.getLastD []) = match numsT r 65535 with
    | .error e => .error e
    | .ok n => .ok { L with wt := putW L.wt n.dropLast (n.getLastD 0) } := by
  have hne : r ≠ [] := by intro e; subst e; simp at h
  have e : r = r.dropLast ++ [r.getLastD []] := by
    have h2 := (List.dropLast_concat_getLast hne).symm
    rw [List.getLastD_eq_getLast?, List.getLast?_eq_some_getLast hne]
    exact h2
  rw [show numsT r 65535 = numsT (r.dropLast ++ [r.getLastD []]) 65535 by rw [← e], numsT_snoc]
  unfold weighT
  cases bytesT r.dropLast with
  | error x => rfl
  | ok b =>
    simp only
    cases numT (r.getLastD []) 65535 with
    | error x => rfl
    | ok v => simp
theorem entry_eq (st : Bool) (L : PL) (k : List UInt8) (r : List (List UInt8)) : entryR st L k r = entryT st L k r := by
  unfold entryR entryT badR changeR
  by_cases c1 : k = kLoc
  · subst c1
    cases st with
    | true => simp [leastT]
    | false =>
      match r with
      | [] => simp [leastT]
      | [x] => simp [leastT]
      | x :: y :: t => simp [leastT]
  have b1 : (k == kLoc) = false := beq_eq_false_iff_ne.2 c1
  cases st with
  | false =>
    simp [b1]
  | true =>
    simp only [b1, c1, if_false, Bool.false_eq_true]
    by_cases c2 : k = kWei
    · subst c2
      have n1 : kWei ≠ kCls := by decide
      have n2 : ¬ (kWei = kLow ∨ kWei = kUp) := by decide
      have n3 : kWei ≠ kLow := by decide
      have n4 : kWei ≠ kUp := by decide
      have n5 : kWei ≠ kElm := by decide
      have e1 : leastT kWei = (3, true) := by decide
      simp only [e1, n1, n2, n3, n4, n5, if_true, if_false]
      by_cases hl : 2 ≤ r.length
      · rw [if_pos hl, weigh_eq L r hl, if_neg (by simp; omega)]
        rfl
      · rw [if_neg hl, if_pos (by simp; omega)]
    by_cases c3 : k = kLow
    · subst c3
      have n1 : kLow ≠ kCls := by decide
      have n2 : (kLow = kLow ∨ kLow = kUp) := by decide
      have n6 : kLow ≠ kWei := by decide
      have e1 : leastT kLow = (3, false) := by decide
      simp only [e1, n1, n2, n6, if_true, if_false, true_or]
      match r with
      | [] => simp
      | [x] => simp
      | [x, y] =>
        rw [if_neg (by simp)]
        simp only [lowT, tab_eq]
        cases numsT [x, y] 255 <;> rfl
      | x :: y :: z :: t => simp
    by_cases c4 : k = kUp
    · subst c4
      have n1 : kUp ≠ kCls := by decide
      have n2 : (kUp = kLow ∨ kUp = kUp) := by decide
      have n3 : kUp ≠ kLow := by decide
      have n6 : kUp ≠ kWei := by decide
      have e1 : leastT kUp = (3, false) := by decide
      simp only [e1, n1, n2, n3, n6, if_true, if_false, or_true]
      match r with
      | [] => simp
      | [x] => simp
      | [x, y] =>
        rw [if_neg (by simp)]
        simp only [upT, tab_eq]
        cases numsT [x, y] 255 <;> rfl
      | x :: y :: z :: t => simp
    by_cases c5 : k = kCls
    · subst c5
      have n3 : kCls ≠ kLow := by decide
      have n4 : kCls ≠ kUp := by decide
      have n6 : kCls ≠ kWei := by decide
      have e1 : leastT kCls = (2, true) := by decide
      simp only [e1, n3, n4, n6, if_true, if_false]
      match r with
      | [] => simp
      | x :: t => rw [if_neg (by simp)]; rfl
    by_cases c6 : k = kElm
    · subst c6
      have n1 : kElm ≠ kCls := by decide
      have n2 : ¬ (kElm = kLow ∨ kElm = kUp) := by decide
      have n3 : kElm ≠ kLow := by decide
      have n4 : kElm ≠ kUp := by decide
      have n6 : kElm ≠ kWei := by decide
      have e1 : leastT kElm = (4, false) := by decide
      simp only [e1, n1, n2, n3, n4, n6, if_true, if_false]
      match r with
      | [] => simp
      | [x] => simp
      | [x, y] => simp
      | [x, y, z] =>
        rw [if_neg (by simp), if_neg (by simp)]
        exact (elem_eq L x y z).symm
      | x :: y :: z :: u :: t => simp
    have e1 : leastT k = (0, false) := by unfold leastT; simp [c1, c2, c3, c4, c5, c6]
    simp [e1, c2, c3, c4, c5, c6]
end Go.Proofs.YticfhbffoajgcaaGreatDoor
/- The reference's class: a locale with a further class. (Written by gen_lrp3.py.) -/
set_option linter.unusedVariables false
namespace Go.Proofs.YticfhbffoajgcaaGreatDoor
open Go.RowKit

def Sl (v : Value) : Prop := ∃ p n c, v = .slice p n c
theorem Sl.mk' (p : Option Addr) (n c : Nat) : Sl (.slice p n c) := ⟨p, n, c, rfl⟩
theorem LM.lt {S : Nat → Prop} {w : World} {L : PL} {W C E : Value} (h : LM S w L W C E) : (∀ g, C.ownBlock = some g → g < w.heap.size) ∧ (∀ g, E.ownBlock = some g → g < w.heap.size) :=
  ⟨fun g e => (h.cls.lt g e).2, fun g e => (h.els.lt g e).2⟩
theorem LM.addC {S : Nat → Prop} {w w' : World} {L : PL} {W C E : Value} (h : LM S w L W C E) (x : List UInt8) (p : Nat → Bool) (g cap : Nat) {vs : List Value} (hv : vs = clC [(x, p)])
    (ho : w'.ownsRow 0 66 5 (.slice (some ⟨g, 0, none⟩) (L.cls.length + 1) cap) (L.cls.length + 1) (clC L.cls ++ vs)) (hk : Keep (fun b => C.ownBlock = some b) w w') (hg : C.ownBlock = some g ∨ w.heap.size ≤ g) :
    LM (grow S w) w' { L with cls := L.cls ++ [(x, p)] } W (.slice (some ⟨g, 0, none⟩) (L.cls.length + 1) cap) E := by
  subst hv
  obtain ⟨⟨xw, hw1, hw2, hw3, hw4⟩, h4, h5, h6, h7, h8⟩ := h
  have hxl : xw < w.heap.size := by
    obtain ⟨c0, cs, _, _, hh, _⟩ := hw1
    exact (Array.getElem?_eq_some_iff.1 hh).1
  refine ⟨⟨xw, hw1.same fun _ => hk.block xw hxl hw3, .inl hw2, fun e => ?_, hw4⟩, ?_, ?_, ?_, ?_, fun b hb => .inl (h8 b hb)⟩
  · have e2 : g = xw := by simpa [Value.ownBlock] using e
    subst e2
    rcases hg with hg | hg
    · exact hw3 hg
    · omega
  · rw [List.length_append]
    show w'.ownsRow 0 _ 5 _ (L.cls.length + 1) (clC (L.cls ++ [(x, p)]))
    rw [clC_app]
    exact ho
  · exact own_same h5 fun b e hbl => hk.block b hbl (fun e2 => h6 b e2 e)
  · intro b e e2
    have e3 : g = b := by simpa [Value.ownBlock] using e
    subst e3
    have hl := (h5.lt g e2).2
    rcases hg with hg | hg
    · exact h6 g hg e2
    · omega
  · intro b e
    have e3 : g = b := by simpa [Value.ownBlock] using e
    subst e3
    rcases hg with hg | hg
    · exact .inl (h7 g hg)
    · exact .inr hg
theorem LM.addE {S : Nat → Prop} {w w' : World} {L : PL} {W C E : Value} (h : LM S w L W C E) (x : List UInt8) (p : Int) (g cap : Nat) {vs : List Value} (hv : vs = elC [(x, p)])
    (ho : w'.ownsRow 0 68 2 (.slice (some ⟨g, 0, none⟩) (L.els.length + 1) cap) (L.els.length + 1) (elC L.els ++ vs)) (hk : Keep (fun b => E.ownBlock = some b) w w') (hg : E.ownBlock = some g ∨ w.heap.size ≤ g) :
    LM (grow S w) w' { L with els := L.els ++ [(x, p)] } W C (.slice (some ⟨g, 0, none⟩) (L.els.length + 1) cap) := by
  subst hv
  obtain ⟨⟨xw, hw1, hw2, hw3, hw4⟩, h4, h5, h6, h7, h8⟩ := h
  have hxl : xw < w.heap.size := by
    obtain ⟨c0, cs, _, _, hh, _⟩ := hw1
    exact (Array.getElem?_eq_some_iff.1 hh).1
  refine ⟨⟨xw, hw1.same fun _ => hk.block xw hxl hw4, .inl hw2, hw3, fun e => ?_⟩, ?_, ?_, ?_, fun b hb => .inl (h7 b hb), ?_⟩
  · have e2 : g = xw := by simpa [Value.ownBlock] using e
    subst e2
    rcases hg with hg | hg
    · exact hw4 hg
    · omega
  · exact own_same h4 fun b e hbl => hk.block b hbl (fun e2 => h6 b e e2)
  · rw [List.length_append]
    show w'.ownsRow 0 _ 2 _ (L.els.length + 1) (elC (L.els ++ [(x, p)]))
    rw [elC_app]
    exact ho
  · intro b e e2
    have e3 : g = b := by simpa [Value.ownBlock] using e2
    subst e3
    have hl := (h4.lt g e).2
    rcases hg with hg | hg
    · exact h6 g e hg
    · omega
  · intro b e
    have e3 : g = b := by simpa [Value.ownBlock] using e
    subst e3
    rcases hg with hg | hg
    · exact .inl (h8 g hg)
    · exact .inr hg
theorem ret_loc2 {fn : Func} {t0 t1 : Tmp} (hr : fn.results = #[.cell t0 26, .tmp t1]) (tmps : Array Value) (w : World) (g : Nat) (c : Array Value) (v : Value) (hs : c.size = 6) (hp : tmps.getD t0 undef = .pointer (some ⟨g, 0, none⟩)) (hv : tmps.getD t1 undef = v) (hA : LAt w g c) :
    (results fn tmps).run Tryz.prog w = .ok (.tuple #[.agg c, v]) w := by
  have hp' : tmps[t0]?.getD undef = .pointer (some ⟨g, 0, none⟩) := by simpa using hp
  have hv' : tmps[t1]?.getD undef = v := by simpa using hv
  have hl := run_loadVar_row (P := Tryz.prog) w g 26 26 c (0, 0) _ hA Tryz.underlying26 rfl (by rw [hs]; exact info_loc)
  simp [results, hr, hp', hv', asAddr, hl]
def codeR {α : Type} (r : Except Int α) : Int := match r with
  | .error x => x
  | .ok _ => 0
/-- What a function of the reference that changes a locale hands back. -/
def EntR (S : Nat → Prop) (w : World) (r : Except Int PL) (e : Ending) (w' : World) : Prop :=
  ∃ (s0 s2 s3 : ByteArray) (W C E : Value), e = .returned (.tuple #[.agg #[.string s0, W, .string s2, .string s3, C, E], .int .i64 (codeR r)]) ∧ Sl W ∧ Sl C ∧ Sl E ∧ Keep S w w' ∧
    ∀ L', r = .ok L' → s0 = mk L'.name ∧ s2 = mk L'.lower ∧ s3 = mk L'.upper ∧ LM (grow S w) w' L' W C E
theorem entR_err {S : Nat → Prop} {w w' : World} {s0 s2 s3 : ByteArray} {W C E : Value} {x : Int} {r : Except Int PL} (hr : r = .error x) (hk : Keep S w w') (hW : Sl W) (hC : Sl C) (hE : Sl E) :
    EntR S w r (.returned (.tuple #[.agg #[.string s0, W, .string s2, .string s3, C, E], .int .i64 x])) w' := by
  subst hr
  exact ⟨_, _, _, _, _, _, rfl, hW, hC, hE, hk, fun L' h => by cases h⟩
/-- A locale boxed, and room for the result. -/
def RB (w0 : World) (c : Array Value) (w : World) : Prop := Below w0.heap.size w0 w ∧ LAt w w0.heap.size c ∧ LAt w (w0.heap.size + 1) zeroL
theorem RB.start (w : World) (c : Array Value) : RB w c (VL2 w c) := ⟨VL2_below w c, VL2_one w c, VL2_two w c⟩
theorem RB.keep {w0 w w' : World} {c : Array Value} (h : RB w0 c w) (hb : Below w.heap.size w w') : RB w0 c w' := ⟨h.1.trans (hb.mono h.1.size), h.2.1.under hb h.2.1.lt, h.2.2.under hb h.2.2.lt⟩
theorem RB.drew {w0 w : World} {c : Array Value} (h : RB w0 c w) : RB w0 c w.drew := h.keep (Below.refl _ _).drew
theorem cls_cell {S : Nat → Prop} {w : World} {L : PL} {W E : Value} {a : Option Addr} {n c : Nat} (h : LM S w L W (.slice a n c) E) (j : Nat) (hj : j < L.cls.length) :
    ∃ b off, a = some ⟨b, off, none⟩ ∧ b < w.heap.size ∧ w.cell? ⟨b, off + j * 5, none⟩ = some (.string (mk (L.cls[j]).1)) := by
  obtain ⟨a', c', e, hc, hh⟩ := h.loc.2.1
  simp only [Value.slice.injEq] at e
  obtain ⟨rfl, _, rfl⟩ := e
  rcases hh with h0 | ⟨b, off, ha, hb, hcell⟩
  · have : (toLoc 256 L).nc = L.cls.length := rfl
    omega
  · refine ⟨b, off, ha, hb, ?_⟩
    have := hcell j 0 hj (by decide)
    rw [Nat.add_zero] at this
    rw [this]
    simp only [clsF, toLoc, clN, clS, List.getElem?_eq_getElem hj, Option.getD_some]
    rfl
theorem els_cell {S : Nat → Prop} {w : World} {L : PL} {W C : Value} {a : Option Addr} {n c : Nat} (h : LM S w L W C (.slice a n c)) (j : Nat) (hj : j < L.els.length) :
    ∃ b off, a = some ⟨b, off, none⟩ ∧ b < w.heap.size ∧ w.cell? ⟨b, off + j * 2, none⟩ = some (.string (mk (L.els[j]).1)) := by
  obtain ⟨a', c', e, hc, hh⟩ := h.loc.2.2
  simp only [Value.slice.injEq] at e
  obtain ⟨rfl, _, rfl⟩ := e
  rcases hh with h0 | ⟨b, off, ha, hb, hcell⟩
  · have : (toLoc 256 L).ne = L.els.length := rfl
    omega
  · refine ⟨b, off, ha, hb, ?_⟩
    have := hcell j 0 hj (by decide)
    rw [Nat.add_zero] at this
    rw [this]
    simp only [elmF, toLoc, elT, elW, List.getElem?_eq_getElem hj, Option.getD_some]
    rfl
theorem WR.drop {w : World} {g o : Nat} {ws : List (List UInt8)} (h : WR w g o ws) (k : Nat) : WR w g (o + k) (ws.drop k) :=
  ⟨h.lt, fun j hj => by
    have hj2 : k + j < ws.length := by rw [List.length_drop] at hj; omega
    rw [List.getElem_drop, show o + k + j = o + (k + j) by omega]
    exact h.at_ (k + j) hj2⟩
theorem setEnd_form {w w' : World} {r : Except Int (Nat → Bool)} {e : Ending} (h : SetEnd w r e w') : ∃ p, e = .returned (.tuple #[.agg #[.int .u64 ((wd p 0 64 : Nat) : Int), .int .u64 ((wd p 64 64 : Nat) : Int), .int .u64 ((wd p 128 64 : Nat) : Int), .int .u64 ((wd p 192 64 : Nat) : Int)], .int .i64 (codeR r)]) ∧ Below w.heap.size w w' ∧ ∀ q, r = .ok q → p = q := by
  obtain ⟨hb, he⟩ := h
  cases r with
  | error x => exact ⟨fun _ => false, he, hb, fun q h => by cases h⟩
  | ok p => exact ⟨p, he, hb, fun q h => by cases h; rfl⟩
theorem Keep.put6 {S : Nat → Prop} {a w : World} (h : Keep S a w) (g : Nat) (hg : a.heap.size ≤ g) (c0 c1 c2 c3 c4 c5 : Value) : Keep S a (Go.Proofs.YticfhbffoajgcaaGreatDoor.put6 w g c0 c1 c2 c3 c4 c5) :=
  (((((h.put g 0 (.inr hg) c0).put g 1 (.inr hg) c1).put g 2 (.inr hg) c2).put g 3 (.inr hg) c3).put g 4 (.inr hg) c4).put g 5 (.inr hg) c5
theorem entR_class {S : Nat → Prop} {w w' : World} {L : PL} {x : List UInt8} {p : Nat → Bool} {r : Except Int (Nat → Bool)} {Q : Except Int PL} {W C E : Value}
    (hQ : Q = match r with
      | .error e => .error e
      | .ok p => .ok { L with cls := L.cls ++ [(x, p)] }) (hp : ∀ q, r = .ok q → p = q) (hk : Keep S w w') (hM : LM (grow S w) w' { L with cls := L.cls ++ [(x, p)] } W C E) (hW : Sl W) (hC : Sl C) (hE : Sl E) :
    EntR S w Q (.returned (.tuple #[.agg #[.string (mk L.name), W, .string (mk L.lower), .string (mk L.upper), C, E], .int .i64 (codeR r)])) w' := by
  cases r with
  | error e =>
    simp only at hQ
    subst hQ
    exact ⟨_, _, _, _, _, _, rfl, hW, hC, hE, hk, fun L' h => by cases h⟩
  | ok q =>
    obtain rfl := hp q rfl
    simp only at hQ
    subst hQ
    exact ⟨_, _, _, _, _, _, rfl, hW, hC, hE, hk, fun L' h => by cases h; exact ⟨rfl, rfl, rfl, hM⟩⟩
theorem any_no {L : PL} {x : List UInt8} (h : ∀ j (hj : j < L.cls.length), ((L.cls[j]).1 == x) = false) : L.cls.any (fun c => c.1 == x) = false := by
  rw [List.any_eq_false]
  intro c hc
  obtain ⟨j, hj, rfl⟩ := List.mem_iff_getElem.1 hc
  rw [h j hj]; decide
theorem any_yes {L : PL} {x : List UInt8} (j : Nat) (hj : j < L.cls.length) (h : ((L.cls[j]).1 == x) = true) : L.cls.any (fun c => c.1 == x) = true := by
  rw [List.any_eq_true]
  exact ⟨_, List.getElem_mem hj, h⟩
theorem eany_no {L : PL} {x : List UInt8} (h : ∀ j (hj : j < L.els.length), ((L.els[j]).1 == x) = false) : L.els.any (fun c => c.1 == x) = false := by
  rw [List.any_eq_false]
  intro c hc
  obtain ⟨j, hj, rfl⟩ := List.mem_iff_getElem.1 hc
  rw [h j hj]; decide
theorem eany_yes {L : PL} {x : List UInt8} (j : Nat) (hj : j < L.els.length) (h : ((L.els[j]).1 == x) = true) : L.els.any (fun c => c.1 == x) = true := by
  rw [List.any_eq_true]
  exact ⟨_, List.getElem_mem hj, h⟩
set_option maxRecDepth 100000 in
set_option maxHeartbeats 8000000 in
theorem rclass_any (S : Nat → Prop) (g o c : Nat) (w : World) (L : PL) (W C E : Value) (h : LM S w L W C E) (hlt : ∀ b, S b → b < w.heap.size) (hsep : ¬ S g) (k x : List UInt8) (rs : List (List UInt8)) (hW : WR w g o (k :: x :: rs)) (hc : rs.length + 2 ≤ c) (hl : rs.length ≤ 900000) (hs : ∀ y ∈ rs, 0 < y.length ∧ y.length ≤ 1000000) (h24 : L.cls.length ≤ 24) :
    Calls Tryz.prog 94 #[.agg #[.string (mk L.name), W, .string (mk L.lower), .string (mk L.upper), C, E], .slice (some ⟨g, o, none⟩) (rs.length + 2) c] w (EntR S w (classT L x rs)) := by
  obtain ⟨aC, capC, rfl⟩ := own_form h.cls
  obtain ⟨aE, capE, rfl⟩ := own_form h.els
  obtain ⟨xw, ⟨cw, ws, rfl, hcw, hxw, hxf⟩, hxS, hxC, hxE⟩ := h.wts
  have HL := Lib.hid h
  obtain ⟨Q, hQ⟩ : ∃ Q, classT L x rs = Q := ⟨_, rfl⟩
  rw [hQ]
  have HQ := Lib.hid hQ
  have HS := Lib.hid (RB.start w #[.string (mk L.name), .slice (some ⟨xw, 0, none⟩) 256 cw, .string (mk L.lower), .string (mk L.upper), .slice aC L.cls.length capC, .slice aE L.els.length capE])
  obtain ⟨X, hX⟩ : ∃ X, mk x = X := ⟨_, rfl⟩
  have HXx := Lib.hid hX
  have c1 := (hW.below HS.out.1 hW.lt).at_ 1 (by simp)
  simp only [List.getElem_cons_succ, List.getElem_cons_zero] at c1
  rw [hX] at c1
  have HW := Lib.hid hW
  have HX := Lib.hid hs
  have HLt := Lib.hid hlt
  have HSep := Lib.hid hsep
  have HN := Lib.hid (fun w => isName_any (mk x) w)
  rw [show nmB (mk x) = nmL x from rfl, hX] at HN
  unfold VL2 zeroL at c1
  clear hQ hX h hs hW hlt hsep hxw hxf hxS hxC hxE
  cases hn : nmL x with
  | false =>
    rw [hn] at HN
    have HQ2 : Hid (Q = .error 4) := HQ.out.symm.trans (classT_name rs hn)
    clear hn
    go_enter Tryz.func94, Tryz.ntmps94
    go_wp2_with (first | (go_at_call 56; refine (HN.out _).mono ?_; rintro e w1 ⟨rfl, hw⟩; have HR := Lib.hid (show RB w #[.string (mk L.name), .slice (some ⟨xw, 0, none⟩) 256 cw, .string (mk L.lower), .string (mk L.upper), .slice aC L.cls.length capC, .slice aE L.els.length capE] w1 by rw [← hw]; exact HS.out); clear hw; obtain ⟨⟨y0, y1, y2⟩, ⟨y3, y4, y5⟩, yf⟩ := HR.out.2.1.six; obtain ⟨⟨z0, z1, z2⟩, ⟨z3, z4, z5⟩, zf⟩ := LAt.six HR.out.2.2))
    exact bodyPost_ret (ret_loc2 Tryz.results94 _ _ (w.heap.size + 1) _ _ rfl (by simp) (by simp) (HR.out.2.2.put6 _ _ _ _ _ _)) rfl (entR_err HQ2.out (Keep.of_below (below_put6 HR.out.1 _ (by omega) _ _ _ _ _ _)) (Sl.mk' _ _ _) (Sl.mk' _ _ _) (Sl.mk' _ _ _))
  | true =>
    rw [hn] at HN
    have HNm := Lib.hid hn
    clear hn
    go_enter Tryz.func94, Tryz.ntmps94
    go_wp2_with (first | (go_at_call 56; refine (HN.out _).mono ?_; rintro e w1 ⟨rfl, hw⟩; have HR0 := Lib.hid (show RB w #[.string (mk L.name), .slice (some ⟨xw, 0, none⟩) 256 cw, .string (mk L.lower), .string (mk L.upper), .slice aC L.cls.length capC, .slice aE L.els.length capE] w1 by rw [← hw]; exact HS.out); clear hw HS))
    go_loopw [6] (fun i wr => ∃ q : Nat, q ≤ L.cls.length ∧ i = .int .i64 q ∧ Hid (∀ j (hj : j < L.cls.length), j < q → ((L.cls[j]).1 == x) = false) ∧ Hid (RB w #[.string (mk L.name), .slice (some ⟨xw, 0, none⟩) 256 cw, .string (mk L.lower), .string (mk L.upper), .slice aC L.cls.length capC, .slice aE L.els.length capE] wr)) (fun i _ => L.cls.length - (intOf i).toNat)
    case atStart => exact ⟨0, Nat.zero_le _, rfl, fun j hj h0 => by omega, HR0.out⟩
    case round =>
      obtain ⟨q, hq, rfl, HD, HR⟩ := hrel
      clear HR0 c1
      obtain ⟨⟨y0, y1, y2⟩, ⟨y3, y4, y5⟩, yf⟩ := HR.out.2.1.six
      obtain ⟨⟨z0, z1, z2⟩, ⟨z3, z4, z5⟩, zf⟩ := LAt.six HR.out.2.2

      have q0 : (0 : Int) ≤ q := by omega
      by_cases hqn : q < L.cls.length
      · have qn : (q : Int) < L.cls.length := by omega
        obtain ⟨b, off, rfl, hb, hcell⟩ := cls_cell HL.out q hqn
        have cn := hcell
        rw [← HR.out.1.cell (by exact hb)] at cn
        have c1 := (HW.out.below HR.out.1 HW.out.lt).at_ 1 (by simp)
        simp only [List.getElem_cons_succ, List.getElem_cons_zero] at c1
        rw [HXx.out] at c1
        obtain ⟨D, hD⟩ : ∃ D, ((mk (L.cls[q]).1).toList == X.toList) = D := ⟨_, rfl⟩
        have HDx : Hid (((L.cls[q]).1 == x) = D) := by rw [← HXx.out, toList_mk, toList_mk] at hD; exact hD
        have HB := Lib.hid hb
        generalize mk (L.cls[q]).1 = Y at cn hD
        clear hcell hb
        by_cases hd : D = true
        · subst hd
          --B1(
          have HQ2 : Hid (Q = .error 6) := HQ.out.symm.trans (classT_dup rs HNm.out (any_yes q hqn HDx.out))
          go_wp2
          go_region
          have hrd := HR.out.drew
          generalize wr.drew = w9 at hrd ⊢
          have HRd := Lib.hid hrd
          clear y0 y1 y2 y3 y4 y5 yf z0 z1 z2 z3 z4 z5 zf c1 cn
          obtain ⟨⟨y0, y1, y2⟩, ⟨y3, y4, y5⟩, yf⟩ := hrd.2.1.six
          obtain ⟨⟨z0, z1, z2⟩, ⟨z3, z4, z5⟩, zf⟩ := LAt.six hrd.2.2
          clear hrd
          go_wp2
          exact bodyPost_ret (ret_loc2 Tryz.results94 _ _ (w.heap.size + 1) _ _ rfl (by simp) (by simp) (HRd.out.2.2.put6 _ _ _ _ _ _)) rfl (entR_err HQ2.out (Keep.of_below (below_put6 HRd.out.1 _ (by omega) _ _ _ _ _ _)) (Sl.mk' _ _ _) (Sl.mk' _ _ _) (Sl.mk' _ _ _))
          --B1)
        · have hdf : D = false := by simpa using hd
          subst hdf
          clear hd
          --B2(
          go_wp2
          go_region
          have HRd := Lib.hid HR.out.drew
          go_wp2
          go_roundw
          case rel =>
            refine ⟨q + 1, by omega, by go_num, fun j hj h1 => ?_, HRd.out⟩
            by_cases e : j = q
            · subst e; exact HDx.out
            · exact HD.out j hj (by omega)
          case measure => simp [intOf]; omega
          --B2)
      · obtain rfl : q = L.cls.length := by omega
        have hany := any_no (fun j hj => HD.out j hj hj)
        by_cases hm : 24 ≤ L.cls.length
        · have HQ2 : Hid (Q = .error 3) := HQ.out.symm.trans (classT_many rs HNm.out hany hm)
          have hm2 : (24 : Int) ≤ L.cls.length := by omega
          clear hany
          --B3(
          go_wp2
          exact bodyPost_ret (ret_loc2 Tryz.results94 _ _ (w.heap.size + 1) _ _ rfl (by simp) (by simp) (HR.out.2.2.put6 _ _ _ _ _ _)) rfl (entR_err HQ2.out (Keep.of_below (below_put6 HR.out.1 _ (by omega) _ _ _ _ _ _)) (Sl.mk' _ _ _) (Sl.mk' _ _ _) (Sl.mk' _ _ _))
          --B3)
        · have hm2 : ¬ (24 : Int) ≤ L.cls.length := by omega
          have HQ2 := Lib.hid (HQ.out.symm.trans (classT_set rs HNm.out hany hm))
          clear hany
          obtain ⟨m, hmm⟩ : ∃ m, rs.length = m := ⟨_, rfl⟩
          obtain ⟨nn, hnn⟩ : ∃ nn, rs.length + 2 = nn := ⟨_, rfl⟩
          have hci : (2 : Int) ≤ nn := by omega
          have hcn : 2 ≤ nn := by omega
          have hci3 : (1 : Int) < nn := by omega
          have hcn3 : 1 < nn := by omega
          have hci2 : (2 : Int) ≤ c := by omega
          have hnm : nn - 2 = m := by omega
          rw [hnn]
          by_cases hcc : c = 2
          · --B4(
            obtain rfl : rs = [] := List.eq_nil_of_length_eq_zero (by omega)
            have hm0 : m = 0 := by omega
            subst hm0
            have hcb : (c == 2) = true := by simpa using hcc
            have HSet := Lib.hid (rset_any [] g o 0 wr ⟨Nat.lt_of_lt_of_le HW.out.lt HR.out.1.size, fun j hj => by simp at hj⟩ (by simp) (by simp))
            rw [show ([] : List (List UInt8)).length = 0 from rfl] at HSet
            subst hcc
            go_upto_region 11 with (first
              | (go_at_call 136
                 refine HSet.out.mono ?_
                 rintro e w1 hse
                 obtain ⟨p, rfl, hb, hp⟩ := setEnd_form hse
                 have HP := Lib.hid hp
                 have HR1 := Lib.hid (HR.out.keep hb)
                 clear hse hb hp))
            have hr2 : RB w #[.string (mk L.name), .slice (some ⟨xw, 0, none⟩) 256 cw, .string (mk L.lower), .string (mk L.upper), .slice aC L.cls.length capC, .slice aE L.els.length capE] (w1.alloc (.cells #[.int .u64 ((wd p 0 64 : Nat) : Int), .int .u64 ((wd p 64 64 : Nat) : Int), .int .u64 ((wd p 128 64 : Nat) : Int), .int .u64 ((wd p 192 64 : Nat) : Int)] 37)) := HR1.out.keep ((Below.refl _ _).alloc (Nat.le_refl _) _)
            have ha2 : At (w1.alloc (.cells #[.int .u64 ((wd p 0 64 : Nat) : Int), .int .u64 ((wd p 64 64 : Nat) : Int), .int .u64 ((wd p 128 64 : Nat) : Int), .int .u64 ((wd p 192 64 : Nat) : Int)] 37)) w1.heap.size p := At.new w1 p
            generalize (w1.alloc (.cells #[.int .u64 ((wd p 0 64 : Nat) : Int), .int .u64 ((wd p 64 64 : Nat) : Int), .int .u64 ((wd p 128 64 : Nat) : Int), .int .u64 ((wd p 192 64 : Nat) : Int)] 37)) = w2 at hr2 ha2 ⊢
            have hgw : w.heap.size < w1.heap.size := HR1.out.2.1.lt
            generalize w1.heap.size = G at ha2 hgw ⊢
            have HGw := Lib.hid hgw
            clear hgw
            clear y0 y1 y2 y3 y4 y5 yf z0 z1 z2 z3 z4 z5 zf HR1
            obtain ⟨⟨y0, y1, y2⟩, ⟨y3, y4, y5⟩, yf⟩ := hr2.2.1.six
            obtain ⟨⟨u0, u1⟩, ⟨u2, u3⟩, u4⟩ := ha2.words
            have c1 := (HW.out.below hr2.1 HW.out.lt).at_ 1 (by simp)
            simp only [List.getElem_cons_succ, List.getElem_cons_zero] at c1
            rw [HXx.out] at c1
            have hr3 := hr2.drew
            have ha3 : At w2.drew G p := ha2.below (Below.refl _ _).drew ha2.lt
            have c3 : w2.drew.cell? ⟨g, o + 1, none⟩ = some (.string X) := c1
            clear c1 y0 y1 y2 y3 y4 y5 yf u0 u1 u2 u3 u4
            refine wp_region_held_drew (S := fun w' => At w' G p ∧ w'.cell? ⟨g, o + 1, none⟩ = some (.string X)) (by kernel_rfl) ?_ (fun hHeld => ?_)
            · exact ⟨ha3, c3⟩
            refine wpAnyH_take (i := 0) (v := ?bv0) rfl (by kernel_rfl) (by kernel_rfl) (by kernel_rfl) (fun _ _ _ h => h) (Or.inl ⟨by rfl, ?by0⟩) (by assumption) ?br0
            case by0 =>
              intro wx hSw
              clear hSw
              go_simp
              first | done | (with_reducible rfl)
            (try simp only [Act.put, List.getElem_toArray, List.getElem_cons_zero, List.setIfInBounds_toArray, List.set_cons_zero, List.set_cons_succ])
            refine wpAnyH_take (i := 2) (v := ?bv2) rfl (by kernel_rfl) (by kernel_rfl) (by kernel_rfl) (fun _ _ _ h => h) (Or.inl ⟨by rfl, ?by2⟩) (by assumption) ?br2
            case by2 =>
              intro wx hSw
              clear hSw
              go_simp
              first | done | (with_reducible rfl)
            (try simp only [Act.put, List.getElem_toArray, List.getElem_cons_succ, List.getElem_cons_zero, List.setIfInBounds_toArray, List.set_cons_zero, List.set_cons_succ])
            refine wpAnyH_take (i := 3) (v := ?bv3) rfl (by kernel_rfl) (by kernel_rfl) (by kernel_rfl) (fun _ _ _ h => h) (Or.inl ⟨by rfl, ?by3⟩) (by assumption) ?br3
            case by3 =>
              intro wx hSw
              clear hSw
              go_simp
              first | done | (with_reducible rfl)
            (try simp only [Act.put, List.getElem_toArray, List.getElem_cons_succ, List.getElem_cons_zero, List.setIfInBounds_toArray, List.set_cons_zero, List.set_cons_succ])
            refine wpAnyH_take (i := 4) (v := ?bv4) rfl (by kernel_rfl) (by kernel_rfl) (by kernel_rfl) (fun _ _ _ h => h) (Or.inl ⟨by rfl, ?by4⟩) (by assumption) ?br4
            case by4 =>
              intro wx hSw
              have hw := hSw.2
              clear hSw
              go_simp
              first | done | (with_reducible rfl)
            (try simp only [Act.put, List.getElem_toArray, List.getElem_cons_succ, List.getElem_cons_zero, List.setIfInBounds_toArray, List.set_cons_zero, List.set_cons_succ])
            refine wpAnyH_take (i := 5) (v := ?bv5) rfl (by kernel_rfl) (by kernel_rfl) (by kernel_rfl) (fun _ _ _ h => h) (Or.inl ⟨by rfl, ?by5⟩) (by assumption) ?br5
            case by5 =>
              intro wx hSw
              have hw := hSw.1.words
              obtain ⟨⟨u0, u1⟩, ⟨u2, u3⟩, u4⟩ := hw
              clear hSw
              go_simp
              first | done | (with_reducible rfl)
            (try simp only [Act.put, List.getElem_toArray, List.getElem_cons_succ, List.getElem_cons_zero, List.setIfInBounds_toArray, List.set_cons_zero, List.set_cons_succ])
            refine wpAnyH_take (i := 6) (v := ?bv6) rfl (by kernel_rfl) (by kernel_rfl) (by kernel_rfl) (fun _ _ _ h => h) (Or.inl ⟨by rfl, ?by6⟩) (by assumption) ?br6
            case by6 =>
              intro wx hSw
              clear hSw
              go_simp
              first | done | (with_reducible rfl)
            (try simp only [Act.put, List.getElem_toArray, List.getElem_cons_succ, List.getElem_cons_zero, List.setIfInBounds_toArray, List.set_cons_zero, List.set_cons_succ])
            clear ha2 hr2 hHeld
            generalize w2.drew = w3 at hr3 ha3 c3 ⊢
            have HR3 := Lib.hid hr3
            have HL3 := Lib.hid (HL.out.next hr3.1)
            have HA3 := Lib.hid ha3
            have HC3 := Lib.hid c3
            have hm9 : L.cls.length < 24 := by omega
            obtain ⟨i0, hi0, hz0, hz1, hz2⟩ := info_parts infoCl
            have y4 := hr3.2.1.six.2.1.2.1
            have HN3 : Hid (At (w3.alloc (.cells #[.string X, .int .u64 ((wd p 0 64 : Nat) : Int), .int .u64 ((wd p 64 64 : Nat) : Int), .int .u64 ((wd p 128 64 : Nat) : Int), .int .u64 ((wd p 192 64 : Nat) : Int)] 66)) G p ∧ (w3.alloc (.cells #[.string X, .int .u64 ((wd p 0 64 : Nat) : Int), .int .u64 ((wd p 64 64 : Nat) : Int), .int .u64 ((wd p 128 64 : Nat) : Int), .int .u64 ((wd p 192 64 : Nat) : Int)] 66)).cell? ⟨g, o + 1, none⟩ = some (.string X)) :=
              ⟨ha3.below ((Below.refl _ _).alloc (Nat.le_refl _) _) ha3.lt, by rw [((Below.refl _ _).alloc (Nat.le_refl _) _ : Below w3.heap.size w3 _).cell (by exact lt_of_cell c3)]; exact c3⟩
            have yB : (w3.alloc (.cells #[.string X, .int .u64 ((wd p 0 64 : Nat) : Int), .int .u64 ((wd p 64 64 : Nat) : Int), .int .u64 ((wd p 128 64 : Nat) : Int), .int .u64 ((wd p 192 64 : Nat) : Int)] 66)).cell? ⟨w.heap.size, 4, none⟩ = some (.slice aC L.cls.length capC) := by rw [((Below.refl _ _).alloc (Nat.le_refl _) _ : Below w3.heap.size w3 _).cell (by exact hr3.2.1.lt)]; exact y4
            clear hr3 ha3 c3
            refine wpAnyH_ready (rs := [1, 7]) (by kernel_rfl) (by simp) ?_
            refine AllReadyH.cons rfl (fun K hK => ?_) (AllReadyH.cons rfl (fun K hK => ?_) AllReadyH.nil)
            · clear yB
              go_simp
              refine hK.out _ _ ?_ (fun hHeld => ?_)
              · exact ⟨HA3.out, HC3.out⟩
              clear hK K hHeld
              (try simp only [Act.put, List.getElem_toArray, List.getElem_cons_succ, List.getElem_cons_zero, List.setIfInBounds_toArray, List.set_cons_zero, List.set_cons_succ])
              refine wpAnyH_ready (rs := [7]) (by kernel_rfl) (by simp) ?_
              refine AllReadyH.cons rfl (fun K hK => ?_) AllReadyH.nil
              go_simp
              refine hK.out _ _ ?_ (fun hHeld => ?_)
              · exact HN3.out
              clear hK K hHeld
              (try simp only [Act.put, List.getElem_toArray, List.getElem_cons_succ, List.getElem_cons_zero, List.setIfInBounds_toArray, List.set_cons_zero, List.set_cons_succ])
              refine wpAnyH_ready (rs := [8]) (by kernel_rfl) (by simp) ?_
              refine AllReadyH.cons rfl (fun K hK => ?_) AllReadyH.nil
              refine step_append_lies _ (by rfl) (.tmp 45) (.tmp 51) 23 (by rfl) 0 66 i0 _ 5 48 Tryz.underlying23 hi0 hz0 hz1 hz2 (by decide) (by decide) (.slice aC L.cls.length capC) L.cls.length (clC L.cls) (by rfl) (HL3.out.cls.alloc _) ⟨w3.heap.size, 0, none⟩ 1 1 [.string X, .int .u64 ((wd p 0 64 : Nat) : Int), .int .u64 ((wd p 64 64 : Nat) : Int), .int .u64 ((wd p 128 64 : Nat) : Int), .int .u64 ((wd p 192 64 : Nat) : Int)] (by rfl) rfl (fun j u hu => new_cells w3 [.string X, .int .u64 ((wd p 0 64 : Nat) : Int), .int .u64 ((wd p 64 64 : Nat) : Int), .int .u64 ((wd p 128 64 : Nat) : Int), .int .u64 ((wd p 192 64 : Nat) : Int)] 66 j u hu) (by simp [Value.oneCell']) (by decide) (by unfold maxLen; omega) (by omega) (Nat.zero_le _) (w3.heap.size + 1) (by simp) ?_
              intro g2 cap2 w5 ho hg2 hat hlt5
              have hkp : Keep (fun b => (Value.slice aC L.cls.length capC).ownBlock = some b) w3 w5 := ((Keep.refl _ _).alloc _).grown hg2 (fun j e _ => e)
              have hgg : (Value.slice aC L.cls.length capC).ownBlock = some g2 ∨ w3.heap.size ≤ g2 := hat.imp id (fun e => by rw [e]; simp)
              have ha5 : LAt w5 w.heap.size #[.string (mk L.name), .slice (some ⟨xw, 0, none⟩) 256 cw, .string (mk L.lower), .string (mk L.upper), .slice aC L.cls.length capC, .slice aE L.els.length capE] := (hkp.block w.heap.size HR3.out.2.1.lt (fun e => Nat.lt_irrefl _ (HL.out.lt.1 _ e))).trans HR3.out.2.1
              have hz5 : LAt w5 (w.heap.size + 1) zeroL := (hkp.block (w.heap.size + 1) HR3.out.2.2.lt (fun e => by have := HL.out.lt.1 _ e; omega)).trans HR3.out.2.2
              have HA5 := Lib.hid ha5
              have HZ5 := Lib.hid hz5
              have HM5 := Lib.hid (HL3.out.addC x p g2 cap2 (by rw [← HXx.out]; rfl) ho hkp hgg)
              have HK5 := Lib.hid hkp
              have hg5 : w5.cell? ⟨g, o + 1, none⟩ = some (.string X) := (World.cell?_of_block (w := w3) (hkp.block g (lt_of_cell HC3.out) (fun e => HSep.out (HL.out.inC g e)))).trans HC3.out
              have hp5 : At w5 G p := (hkp.block G HA3.out.lt (fun e => by have := HL.out.lt.1 _ e; have := HGw.out; omega)).trans HA3.out
              have HG5 := Lib.hid hg5
              have HP5 := Lib.hid hp5
              obtain ⟨⟨y0, y1, y2⟩, ⟨y3, y4, y5⟩, yf⟩ := ha5.six
              refine hK.out _ _ ⟨hp5, hg5⟩ (fun _ => ?_)
              clear ho hg2 hat hlt5 hkp hgg ha5 hz5 hg5 hp5 hK K
              (try simp only [Act.put, List.getElem_toArray, List.getElem_cons_succ, List.getElem_cons_zero, List.setIfInBounds_toArray, List.set_cons_zero, List.set_cons_succ])
              refine wpAnyH_take (i := 9) (v := ?cv9) rfl (by kernel_rfl) (by kernel_rfl) (by kernel_rfl) (fun _ _ _ h => h) (Or.inl ⟨by rfl, ?cy9⟩) (by assumption) ?cr9
              case cy9 =>
                intro wx hSw
                clear hSw
                go_simp
                first | done | (with_reducible rfl)
              (try simp only [Act.put, List.getElem_toArray, List.getElem_cons_succ, List.getElem_cons_zero, List.setIfInBounds_toArray, List.set_cons_zero, List.set_cons_succ])
              refine wpAnyH_ready (rs := [10]) (by kernel_rfl) (by simp) ?_
              refine AllReadyH.cons rfl (fun K hK => ?_) AllReadyH.nil
              go_simp
              refine hK.out _ _ ⟨HP5.out.apart _ (by have := HGw.out; omega), (World.cell?_of_block (w := w5) (Below.heap_setCell w5 ⟨w.heap.size, 4, none⟩ _ g (by have := HW.out.lt; show g ≠ w.heap.size; omega))).trans HG5.out⟩ (fun _ => ?_)
              clear hK K
              (try simp only [Act.put, List.getElem_toArray, List.getElem_cons_succ, List.getElem_cons_zero, List.setIfInBounds_toArray, List.set_cons_zero, List.set_cons_succ])
              refine wpAnyH_done (by kernel_rfl) ?_ _
              clear y0 y1 y2 y3 y4 y5 yf
              have ha6 : LAt (w5.setCell ⟨w.heap.size, 4, none⟩ (.slice (some ⟨g2, 0, none⟩) (L.cls.length + 1) cap2)) w.heap.size #[.string (mk L.name), .slice (some ⟨xw, 0, none⟩) 256 cw, .string (mk L.lower), .string (mk L.upper), .slice (some ⟨g2, 0, none⟩) (L.cls.length + 1) cap2, .slice aE L.els.length capE] := HA5.out.put 4 _
              have hz6 : LAt (w5.setCell ⟨w.heap.size, 4, none⟩ (.slice (some ⟨g2, 0, none⟩) (L.cls.length + 1) cap2)) (w.heap.size + 1) zeroL := HZ5.out.apart _ (by omega)
              have hk6 : Keep S w (w5.setCell ⟨w.heap.size, 4, none⟩ (.slice (some ⟨g2, 0, none⟩) (L.cls.length + 1) cap2)) := ((Keep.of_below HR3.out.1).trans HK5.out (fun b _ e => HL.out.inC b e)).put _ _ (.inr (Nat.le_refl _)) _
              have hm6 := HM5.out.same (w' := w5.setCell ⟨w.heap.size, 4, none⟩ (.slice (some ⟨g2, 0, none⟩) (L.cls.length + 1) cap2)) (fun b hb _ => Below.heap_setCell w5 ⟨w.heap.size, 4, none⟩ _ b (by
                rcases hb with hb | hb
                · exact Nat.ne_of_lt (HLt.out b hb)
                · have := HR3.out.2.2.lt
                  show b ≠ w.heap.size
                  omega))
              generalize (w5.setCell ⟨w.heap.size, 4, none⟩ (.slice (some ⟨g2, 0, none⟩) (L.cls.length + 1) cap2)) = w6 at ha6 hz6 hk6 hm6 ⊢
              have HZ6 := Lib.hid hz6
              have HK6 := Lib.hid hk6
              have HM6 := Lib.hid hm6
              obtain ⟨⟨y0, y1, y2⟩, ⟨y3, y4, y5⟩, yf⟩ := ha6.six
              obtain ⟨⟨z0, z1, z2⟩, ⟨z3, z4, z5⟩, zf⟩ := LAt.six hz6
              clear ha6 hz6 hk6 hm6
              go_wp2
              exact bodyPost_ret (ret_loc2 Tryz.results94 _ _ (w.heap.size + 1) _ _ rfl (by simp) (by simp) (HZ6.out.put6 _ _ _ _ _ _)) rfl (entR_class HQ2.out HP.out (HK6.out.put6 _ (by omega) _ _ _ _ _ _) ((HM6.out.same (fun b hb _ => put6_far _ _ b (by
                rcases hb with hb | hb
                · have := HLt.out b hb
                  omega
                · have := HR3.out.2.2.lt
                  omega) _ _ _ _ _ _)).more (fun b hb => hb.imp id (fun h => Nat.le_trans HR3.out.1.size h))) (Sl.mk' _ _ _) (Sl.mk' _ _ _) (Sl.mk' _ _ _))
            · clear y4
              go_simp
              refine hK.out _ _ ?_ (fun hHeld => ?_)
              · exact HN3.out
              clear hK K hHeld
              (try simp only [Act.put, List.getElem_toArray, List.getElem_cons_succ, List.getElem_cons_zero, List.setIfInBounds_toArray, List.set_cons_zero, List.set_cons_succ])
              refine wpAnyH_ready (rs := [1]) (by kernel_rfl) (by simp) ?_
              refine AllReadyH.cons rfl (fun K hK => ?_) AllReadyH.nil
              go_simp
              refine hK.out _ _ ?_ (fun hHeld => ?_)
              · exact HN3.out
              clear hK K hHeld
              (try simp only [Act.put, List.getElem_toArray, List.getElem_cons_succ, List.getElem_cons_zero, List.setIfInBounds_toArray, List.set_cons_zero, List.set_cons_succ])
              refine wpAnyH_ready (rs := [8]) (by kernel_rfl) (by simp) ?_
              refine AllReadyH.cons rfl (fun K hK => ?_) AllReadyH.nil
              refine step_append_lies _ (by rfl) (.tmp 45) (.tmp 51) 23 (by rfl) 0 66 i0 _ 5 48 Tryz.underlying23 hi0 hz0 hz1 hz2 (by decide) (by decide) (.slice aC L.cls.length capC) L.cls.length (clC L.cls) (by rfl) (HL3.out.cls.alloc _) ⟨w3.heap.size, 0, none⟩ 1 1 [.string X, .int .u64 ((wd p 0 64 : Nat) : Int), .int .u64 ((wd p 64 64 : Nat) : Int), .int .u64 ((wd p 128 64 : Nat) : Int), .int .u64 ((wd p 192 64 : Nat) : Int)] (by rfl) rfl (fun j u hu => new_cells w3 [.string X, .int .u64 ((wd p 0 64 : Nat) : Int), .int .u64 ((wd p 64 64 : Nat) : Int), .int .u64 ((wd p 128 64 : Nat) : Int), .int .u64 ((wd p 192 64 : Nat) : Int)] 66 j u hu) (by simp [Value.oneCell']) (by decide) (by unfold maxLen; omega) (by omega) (Nat.zero_le _) (w3.heap.size + 1) (by simp) ?_
              intro g2 cap2 w5 ho hg2 hat hlt5
              have hkp : Keep (fun b => (Value.slice aC L.cls.length capC).ownBlock = some b) w3 w5 := ((Keep.refl _ _).alloc _).grown hg2 (fun j e _ => e)
              have hgg : (Value.slice aC L.cls.length capC).ownBlock = some g2 ∨ w3.heap.size ≤ g2 := hat.imp id (fun e => by rw [e]; simp)
              have ha5 : LAt w5 w.heap.size #[.string (mk L.name), .slice (some ⟨xw, 0, none⟩) 256 cw, .string (mk L.lower), .string (mk L.upper), .slice aC L.cls.length capC, .slice aE L.els.length capE] := (hkp.block w.heap.size HR3.out.2.1.lt (fun e => Nat.lt_irrefl _ (HL.out.lt.1 _ e))).trans HR3.out.2.1
              have hz5 : LAt w5 (w.heap.size + 1) zeroL := (hkp.block (w.heap.size + 1) HR3.out.2.2.lt (fun e => by have := HL.out.lt.1 _ e; omega)).trans HR3.out.2.2
              have HA5 := Lib.hid ha5
              have HZ5 := Lib.hid hz5
              have HM5 := Lib.hid (HL3.out.addC x p g2 cap2 (by rw [← HXx.out]; rfl) ho hkp hgg)
              have HK5 := Lib.hid hkp
              have hg5 : w5.cell? ⟨g, o + 1, none⟩ = some (.string X) := (World.cell?_of_block (w := w3) (hkp.block g (lt_of_cell HC3.out) (fun e => HSep.out (HL.out.inC g e)))).trans HC3.out
              have hp5 : At w5 G p := (hkp.block G HA3.out.lt (fun e => by have := HL.out.lt.1 _ e; have := HGw.out; omega)).trans HA3.out
              have HG5 := Lib.hid hg5
              have HP5 := Lib.hid hp5
              obtain ⟨⟨y0, y1, y2⟩, ⟨y3, y4, y5⟩, yf⟩ := ha5.six
              refine hK.out _ _ ⟨hp5, hg5⟩ (fun _ => ?_)
              clear ho hg2 hat hlt5 hkp hgg ha5 hz5 hg5 hp5 hK K
              (try simp only [Act.put, List.getElem_toArray, List.getElem_cons_succ, List.getElem_cons_zero, List.setIfInBounds_toArray, List.set_cons_zero, List.set_cons_succ])
              refine wpAnyH_take (i := 9) (v := ?dv9) rfl (by kernel_rfl) (by kernel_rfl) (by kernel_rfl) (fun _ _ _ h => h) (Or.inl ⟨by rfl, ?dy9⟩) (by assumption) ?dr9
              case dy9 =>
                intro wx hSw
                clear hSw
                go_simp
                first | done | (with_reducible rfl)
              (try simp only [Act.put, List.getElem_toArray, List.getElem_cons_succ, List.getElem_cons_zero, List.setIfInBounds_toArray, List.set_cons_zero, List.set_cons_succ])
              refine wpAnyH_ready (rs := [10]) (by kernel_rfl) (by simp) ?_
              refine AllReadyH.cons rfl (fun K hK => ?_) AllReadyH.nil
              go_simp
              refine hK.out _ _ ⟨HP5.out.apart _ (by have := HGw.out; omega), (World.cell?_of_block (w := w5) (Below.heap_setCell w5 ⟨w.heap.size, 4, none⟩ _ g (by have := HW.out.lt; show g ≠ w.heap.size; omega))).trans HG5.out⟩ (fun _ => ?_)
              clear hK K
              (try simp only [Act.put, List.getElem_toArray, List.getElem_cons_succ, List.getElem_cons_zero, List.setIfInBounds_toArray, List.set_cons_zero, List.set_cons_succ])
              refine wpAnyH_done (by kernel_rfl) ?_ _
              clear y0 y1 y2 y3 y4 y5 yf
              have ha6 : LAt (w5.setCell ⟨w.heap.size, 4, none⟩ (.slice (some ⟨g2, 0, none⟩) (L.cls.length + 1) cap2)) w.heap.size #[.string (mk L.name), .slice (some ⟨xw, 0, none⟩) 256 cw, .string (mk L.lower), .string (mk L.upper), .slice (some ⟨g2, 0, none⟩) (L.cls.length + 1) cap2, .slice aE L.els.length capE] := HA5.out.put 4 _
              have hz6 : LAt (w5.setCell ⟨w.heap.size, 4, none⟩ (.slice (some ⟨g2, 0, none⟩) (L.cls.length + 1) cap2)) (w.heap.size + 1) zeroL := HZ5.out.apart _ (by omega)
              have hk6 : Keep S w (w5.setCell ⟨w.heap.size, 4, none⟩ (.slice (some ⟨g2, 0, none⟩) (L.cls.length + 1) cap2)) := ((Keep.of_below HR3.out.1).trans HK5.out (fun b _ e => HL.out.inC b e)).put _ _ (.inr (Nat.le_refl _)) _
              have hm6 := HM5.out.same (w' := w5.setCell ⟨w.heap.size, 4, none⟩ (.slice (some ⟨g2, 0, none⟩) (L.cls.length + 1) cap2)) (fun b hb _ => Below.heap_setCell w5 ⟨w.heap.size, 4, none⟩ _ b (by
                rcases hb with hb | hb
                · exact Nat.ne_of_lt (HLt.out b hb)
                · have := HR3.out.2.2.lt
                  show b ≠ w.heap.size
                  omega))
              generalize (w5.setCell ⟨w.heap.size, 4, none⟩ (.slice (some ⟨g2, 0, none⟩) (L.cls.length + 1) cap2)) = w6 at ha6 hz6 hk6 hm6 ⊢
              have HZ6 := Lib.hid hz6
              have HK6 := Lib.hid hk6
              have HM6 := Lib.hid hm6
              obtain ⟨⟨y0, y1, y2⟩, ⟨y3, y4, y5⟩, yf⟩ := ha6.six
              obtain ⟨⟨z0, z1, z2⟩, ⟨z3, z4, z5⟩, zf⟩ := LAt.six hz6
              clear ha6 hz6 hk6 hm6
              go_wp2
              exact bodyPost_ret (ret_loc2 Tryz.results94 _ _ (w.heap.size + 1) _ _ rfl (by simp) (by simp) (HZ6.out.put6 _ _ _ _ _ _)) rfl (entR_class HQ2.out HP.out (HK6.out.put6 _ (by omega) _ _ _ _ _ _) ((HM6.out.same (fun b hb _ => put6_far _ _ b (by
                rcases hb with hb | hb
                · have := HLt.out b hb
                  omega
                · have := HR3.out.2.2.lt
                  omega) _ _ _ _ _ _)).more (fun b hb => hb.imp id (fun h => Nat.le_trans HR3.out.1.size h))) (Sl.mk' _ _ _) (Sl.mk' _ _ _) (Sl.mk' _ _ _))

            --B4)
          · --B5(
            have hcb : (c == 2) = false := by simpa using hcc
            have HSet := Lib.hid (rset_any rs g (o + 2) (c - 2) wr ((HW.out.below HR.out.1 HW.out.lt).drop 2) (by omega) HX.out)
            rw [hmm] at HSet
            go_upto_region 11 with (first
              | (go_at_call 136
                 refine HSet.out.mono ?_
                 rintro e w1 hse
                 obtain ⟨p, rfl, hb, hp⟩ := setEnd_form hse
                 have HP := Lib.hid hp
                 have HR1 := Lib.hid (HR.out.keep hb)
                 clear hse hb hp))
            have hr2 : RB w #[.string (mk L.name), .slice (some ⟨xw, 0, none⟩) 256 cw, .string (mk L.lower), .string (mk L.upper), .slice aC L.cls.length capC, .slice aE L.els.length capE] (w1.alloc (.cells #[.int .u64 ((wd p 0 64 : Nat) : Int), .int .u64 ((wd p 64 64 : Nat) : Int), .int .u64 ((wd p 128 64 : Nat) : Int), .int .u64 ((wd p 192 64 : Nat) : Int)] 37)) := HR1.out.keep ((Below.refl _ _).alloc (Nat.le_refl _) _)
            have ha2 : At (w1.alloc (.cells #[.int .u64 ((wd p 0 64 : Nat) : Int), .int .u64 ((wd p 64 64 : Nat) : Int), .int .u64 ((wd p 128 64 : Nat) : Int), .int .u64 ((wd p 192 64 : Nat) : Int)] 37)) w1.heap.size p := At.new w1 p
            generalize (w1.alloc (.cells #[.int .u64 ((wd p 0 64 : Nat) : Int), .int .u64 ((wd p 64 64 : Nat) : Int), .int .u64 ((wd p 128 64 : Nat) : Int), .int .u64 ((wd p 192 64 : Nat) : Int)] 37)) = w2 at hr2 ha2 ⊢
            have hgw : w.heap.size < w1.heap.size := HR1.out.2.1.lt
            generalize w1.heap.size = G at ha2 hgw ⊢
            have HGw := Lib.hid hgw
            clear hgw
            clear y0 y1 y2 y3 y4 y5 yf z0 z1 z2 z3 z4 z5 zf HR1
            obtain ⟨⟨y0, y1, y2⟩, ⟨y3, y4, y5⟩, yf⟩ := hr2.2.1.six
            obtain ⟨⟨u0, u1⟩, ⟨u2, u3⟩, u4⟩ := ha2.words
            have c1 := (HW.out.below hr2.1 HW.out.lt).at_ 1 (by simp)
            simp only [List.getElem_cons_succ, List.getElem_cons_zero] at c1
            rw [HXx.out] at c1
            have hr3 := hr2.drew
            have ha3 : At w2.drew G p := ha2.below (Below.refl _ _).drew ha2.lt
            have c3 : w2.drew.cell? ⟨g, o + 1, none⟩ = some (.string X) := c1
            clear c1 y0 y1 y2 y3 y4 y5 yf u0 u1 u2 u3 u4
            refine wp_region_held_drew (S := fun w' => At w' G p ∧ w'.cell? ⟨g, o + 1, none⟩ = some (.string X)) (by kernel_rfl) ?_ (fun hHeld => ?_)
            · exact ⟨ha3, c3⟩
            refine wpAnyH_take (i := 0) (v := ?kbv0) rfl (by kernel_rfl) (by kernel_rfl) (by kernel_rfl) (fun _ _ _ h => h) (Or.inl ⟨by rfl, ?kby0⟩) (by assumption) ?kbr0
            case kby0 =>
              intro wx hSw
              clear hSw
              go_simp
              first | done | (with_reducible rfl)
            (try simp only [Act.put, List.getElem_toArray, List.getElem_cons_zero, List.setIfInBounds_toArray, List.set_cons_zero, List.set_cons_succ])
            refine wpAnyH_take (i := 2) (v := ?kbv2) rfl (by kernel_rfl) (by kernel_rfl) (by kernel_rfl) (fun _ _ _ h => h) (Or.inl ⟨by rfl, ?kby2⟩) (by assumption) ?kbr2
            case kby2 =>
              intro wx hSw
              clear hSw
              go_simp
              first | done | (with_reducible rfl)
            (try simp only [Act.put, List.getElem_toArray, List.getElem_cons_succ, List.getElem_cons_zero, List.setIfInBounds_toArray, List.set_cons_zero, List.set_cons_succ])
            refine wpAnyH_take (i := 3) (v := ?kbv3) rfl (by kernel_rfl) (by kernel_rfl) (by kernel_rfl) (fun _ _ _ h => h) (Or.inl ⟨by rfl, ?kby3⟩) (by assumption) ?kbr3
            case kby3 =>
              intro wx hSw
              clear hSw
              go_simp
              first | done | (with_reducible rfl)
            (try simp only [Act.put, List.getElem_toArray, List.getElem_cons_succ, List.getElem_cons_zero, List.setIfInBounds_toArray, List.set_cons_zero, List.set_cons_succ])
            refine wpAnyH_take (i := 4) (v := ?kbv4) rfl (by kernel_rfl) (by kernel_rfl) (by kernel_rfl) (fun _ _ _ h => h) (Or.inl ⟨by rfl, ?kby4⟩) (by assumption) ?kbr4
            case kby4 =>
              intro wx hSw
              have hw := hSw.2
              clear hSw
              go_simp
              first | done | (with_reducible rfl)
            (try simp only [Act.put, List.getElem_toArray, List.getElem_cons_succ, List.getElem_cons_zero, List.setIfInBounds_toArray, List.set_cons_zero, List.set_cons_succ])
            refine wpAnyH_take (i := 5) (v := ?kbv5) rfl (by kernel_rfl) (by kernel_rfl) (by kernel_rfl) (fun _ _ _ h => h) (Or.inl ⟨by rfl, ?kby5⟩) (by assumption) ?kbr5
            case kby5 =>
              intro wx hSw
              have hw := hSw.1.words
              obtain ⟨⟨u0, u1⟩, ⟨u2, u3⟩, u4⟩ := hw
              clear hSw
              go_simp
              first | done | (with_reducible rfl)
            (try simp only [Act.put, List.getElem_toArray, List.getElem_cons_succ, List.getElem_cons_zero, List.setIfInBounds_toArray, List.set_cons_zero, List.set_cons_succ])
            refine wpAnyH_take (i := 6) (v := ?kbv6) rfl (by kernel_rfl) (by kernel_rfl) (by kernel_rfl) (fun _ _ _ h => h) (Or.inl ⟨by rfl, ?kby6⟩) (by assumption) ?kbr6
            case kby6 =>
              intro wx hSw
              clear hSw
              go_simp
              first | done | (with_reducible rfl)
            (try simp only [Act.put, List.getElem_toArray, List.getElem_cons_succ, List.getElem_cons_zero, List.setIfInBounds_toArray, List.set_cons_zero, List.set_cons_succ])
            clear ha2 hr2 hHeld
            generalize w2.drew = w3 at hr3 ha3 c3 ⊢
            have HR3 := Lib.hid hr3
            have HL3 := Lib.hid (HL.out.next hr3.1)
            have HA3 := Lib.hid ha3
            have HC3 := Lib.hid c3
            have hm9 : L.cls.length < 24 := by omega
            obtain ⟨i0, hi0, hz0, hz1, hz2⟩ := info_parts infoCl
            have y4 := hr3.2.1.six.2.1.2.1
            have HN3 : Hid (At (w3.alloc (.cells #[.string X, .int .u64 ((wd p 0 64 : Nat) : Int), .int .u64 ((wd p 64 64 : Nat) : Int), .int .u64 ((wd p 128 64 : Nat) : Int), .int .u64 ((wd p 192 64 : Nat) : Int)] 66)) G p ∧ (w3.alloc (.cells #[.string X, .int .u64 ((wd p 0 64 : Nat) : Int), .int .u64 ((wd p 64 64 : Nat) : Int), .int .u64 ((wd p 128 64 : Nat) : Int), .int .u64 ((wd p 192 64 : Nat) : Int)] 66)).cell? ⟨g, o + 1, none⟩ = some (.string X)) :=
              ⟨ha3.below ((Below.refl _ _).alloc (Nat.le_refl _) _) ha3.lt, by rw [((Below.refl _ _).alloc (Nat.le_refl _) _ : Below w3.heap.size w3 _).cell (by exact lt_of_cell c3)]; exact c3⟩
            have yB : (w3.alloc (.cells #[.string X, .int .u64 ((wd p 0 64 : Nat) : Int), .int .u64 ((wd p 64 64 : Nat) : Int), .int .u64 ((wd p 128 64 : Nat) : Int), .int .u64 ((wd p 192 64 : Nat) : Int)] 66)).cell? ⟨w.heap.size, 4, none⟩ = some (.slice aC L.cls.length capC) := by rw [((Below.refl _ _).alloc (Nat.le_refl _) _ : Below w3.heap.size w3 _).cell (by exact hr3.2.1.lt)]; exact y4
            clear hr3 ha3 c3
            refine wpAnyH_ready (rs := [1, 7]) (by kernel_rfl) (by simp) ?_
            refine AllReadyH.cons rfl (fun K hK => ?_) (AllReadyH.cons rfl (fun K hK => ?_) AllReadyH.nil)
            · clear yB
              go_simp
              refine hK.out _ _ ?_ (fun hHeld => ?_)
              · exact ⟨HA3.out, HC3.out⟩
              clear hK K hHeld
              (try simp only [Act.put, List.getElem_toArray, List.getElem_cons_succ, List.getElem_cons_zero, List.setIfInBounds_toArray, List.set_cons_zero, List.set_cons_succ])
              refine wpAnyH_ready (rs := [7]) (by kernel_rfl) (by simp) ?_
              refine AllReadyH.cons rfl (fun K hK => ?_) AllReadyH.nil
              go_simp
              refine hK.out _ _ ?_ (fun hHeld => ?_)
              · exact HN3.out
              clear hK K hHeld
              (try simp only [Act.put, List.getElem_toArray, List.getElem_cons_succ, List.getElem_cons_zero, List.setIfInBounds_toArray, List.set_cons_zero, List.set_cons_succ])
              refine wpAnyH_ready (rs := [8]) (by kernel_rfl) (by simp) ?_
              refine AllReadyH.cons rfl (fun K hK => ?_) AllReadyH.nil
              refine step_append_lies _ (by rfl) (.tmp 45) (.tmp 51) 23 (by rfl) 0 66 i0 _ 5 48 Tryz.underlying23 hi0 hz0 hz1 hz2 (by decide) (by decide) (.slice aC L.cls.length capC) L.cls.length (clC L.cls) (by rfl) (HL3.out.cls.alloc _) ⟨w3.heap.size, 0, none⟩ 1 1 [.string X, .int .u64 ((wd p 0 64 : Nat) : Int), .int .u64 ((wd p 64 64 : Nat) : Int), .int .u64 ((wd p 128 64 : Nat) : Int), .int .u64 ((wd p 192 64 : Nat) : Int)] (by rfl) rfl (fun j u hu => new_cells w3 [.string X, .int .u64 ((wd p 0 64 : Nat) : Int), .int .u64 ((wd p 64 64 : Nat) : Int), .int .u64 ((wd p 128 64 : Nat) : Int), .int .u64 ((wd p 192 64 : Nat) : Int)] 66 j u hu) (by simp [Value.oneCell']) (by decide) (by unfold maxLen; omega) (by omega) (Nat.zero_le _) (w3.heap.size + 1) (by simp) ?_
              intro g2 cap2 w5 ho hg2 hat hlt5
              have hkp : Keep (fun b => (Value.slice aC L.cls.length capC).ownBlock = some b) w3 w5 := ((Keep.refl _ _).alloc _).grown hg2 (fun j e _ => e)
              have hgg : (Value.slice aC L.cls.length capC).ownBlock = some g2 ∨ w3.heap.size ≤ g2 := hat.imp id (fun e => by rw [e]; simp)
              have ha5 : LAt w5 w.heap.size #[.string (mk L.name), .slice (some ⟨xw, 0, none⟩) 256 cw, .string (mk L.lower), .string (mk L.upper), .slice aC L.cls.length capC, .slice aE L.els.length capE] := (hkp.block w.heap.size HR3.out.2.1.lt (fun e => Nat.lt_irrefl _ (HL.out.lt.1 _ e))).trans HR3.out.2.1
              have hz5 : LAt w5 (w.heap.size + 1) zeroL := (hkp.block (w.heap.size + 1) HR3.out.2.2.lt (fun e => by have := HL.out.lt.1 _ e; omega)).trans HR3.out.2.2
              have HA5 := Lib.hid ha5
              have HZ5 := Lib.hid hz5
              have HM5 := Lib.hid (HL3.out.addC x p g2 cap2 (by rw [← HXx.out]; rfl) ho hkp hgg)
              have HK5 := Lib.hid hkp
              have hg5 : w5.cell? ⟨g, o + 1, none⟩ = some (.string X) := (World.cell?_of_block (w := w3) (hkp.block g (lt_of_cell HC3.out) (fun e => HSep.out (HL.out.inC g e)))).trans HC3.out
              have hp5 : At w5 G p := (hkp.block G HA3.out.lt (fun e => by have := HL.out.lt.1 _ e; have := HGw.out; omega)).trans HA3.out
              have HG5 := Lib.hid hg5
              have HP5 := Lib.hid hp5
              obtain ⟨⟨y0, y1, y2⟩, ⟨y3, y4, y5⟩, yf⟩ := ha5.six
              refine hK.out _ _ ⟨hp5, hg5⟩ (fun _ => ?_)
              clear ho hg2 hat hlt5 hkp hgg ha5 hz5 hg5 hp5 hK K
              (try simp only [Act.put, List.getElem_toArray, List.getElem_cons_succ, List.getElem_cons_zero, List.setIfInBounds_toArray, List.set_cons_zero, List.set_cons_succ])
              refine wpAnyH_take (i := 9) (v := ?kcv9) rfl (by kernel_rfl) (by kernel_rfl) (by kernel_rfl) (fun _ _ _ h => h) (Or.inl ⟨by rfl, ?kcy9⟩) (by assumption) ?kcr9
              case kcy9 =>
                intro wx hSw
                clear hSw
                go_simp
                first | done | (with_reducible rfl)
              (try simp only [Act.put, List.getElem_toArray, List.getElem_cons_succ, List.getElem_cons_zero, List.setIfInBounds_toArray, List.set_cons_zero, List.set_cons_succ])
              refine wpAnyH_ready (rs := [10]) (by kernel_rfl) (by simp) ?_
              refine AllReadyH.cons rfl (fun K hK => ?_) AllReadyH.nil
              go_simp
              refine hK.out _ _ ⟨HP5.out.apart _ (by have := HGw.out; omega), (World.cell?_of_block (w := w5) (Below.heap_setCell w5 ⟨w.heap.size, 4, none⟩ _ g (by have := HW.out.lt; show g ≠ w.heap.size; omega))).trans HG5.out⟩ (fun _ => ?_)
              clear hK K
              (try simp only [Act.put, List.getElem_toArray, List.getElem_cons_succ, List.getElem_cons_zero, List.setIfInBounds_toArray, List.set_cons_zero, List.set_cons_succ])
              refine wpAnyH_done (by kernel_rfl) ?_ _
              clear y0 y1 y2 y3 y4 y5 yf
              have ha6 : LAt (w5.setCell ⟨w.heap.size, 4, none⟩ (.slice (some ⟨g2, 0, none⟩) (L.cls.length + 1) cap2)) w.heap.size #[.string (mk L.name), .slice (some ⟨xw, 0, none⟩) 256 cw, .string (mk L.lower), .string (mk L.upper), .slice (some ⟨g2, 0, none⟩) (L.cls.length + 1) cap2, .slice aE L.els.length capE] := HA5.out.put 4 _
              have hz6 : LAt (w5.setCell ⟨w.heap.size, 4, none⟩ (.slice (some ⟨g2, 0, none⟩) (L.cls.length + 1) cap2)) (w.heap.size + 1) zeroL := HZ5.out.apart _ (by omega)
              have hk6 : Keep S w (w5.setCell ⟨w.heap.size, 4, none⟩ (.slice (some ⟨g2, 0, none⟩) (L.cls.length + 1) cap2)) := ((Keep.of_below HR3.out.1).trans HK5.out (fun b _ e => HL.out.inC b e)).put _ _ (.inr (Nat.le_refl _)) _
              have hm6 := HM5.out.same (w' := w5.setCell ⟨w.heap.size, 4, none⟩ (.slice (some ⟨g2, 0, none⟩) (L.cls.length + 1) cap2)) (fun b hb _ => Below.heap_setCell w5 ⟨w.heap.size, 4, none⟩ _ b (by
                rcases hb with hb | hb
                · exact Nat.ne_of_lt (HLt.out b hb)
                · have := HR3.out.2.2.lt
                  show b ≠ w.heap.size
                  omega))
              generalize (w5.setCell ⟨w.heap.size, 4, none⟩ (.slice (some ⟨g2, 0, none⟩) (L.cls.length + 1) cap2)) = w6 at ha6 hz6 hk6 hm6 ⊢
              have HZ6 := Lib.hid hz6
              have HK6 := Lib.hid hk6
              have HM6 := Lib.hid hm6
              obtain ⟨⟨y0, y1, y2⟩, ⟨y3, y4, y5⟩, yf⟩ := ha6.six
              obtain ⟨⟨z0, z1, z2⟩, ⟨z3, z4, z5⟩, zf⟩ := LAt.six hz6
              clear ha6 hz6 hk6 hm6
              go_wp2
              exact bodyPost_ret (ret_loc2 Tryz.results94 _ _ (w.heap.size + 1) _ _ rfl (by simp) (by simp) (HZ6.out.put6 _ _ _ _ _ _)) rfl (entR_class HQ2.out HP.out (HK6.out.put6 _ (by omega) _ _ _ _ _ _) ((HM6.out.same (fun b hb _ => put6_far _ _ b (by
                rcases hb with hb | hb
                · have := HLt.out b hb
                  omega
                · have := HR3.out.2.2.lt
                  omega) _ _ _ _ _ _)).more (fun b hb => hb.imp id (fun h => Nat.le_trans HR3.out.1.size h))) (Sl.mk' _ _ _) (Sl.mk' _ _ _) (Sl.mk' _ _ _))
            · clear y4
              go_simp
              refine hK.out _ _ ?_ (fun hHeld => ?_)
              · exact HN3.out
              clear hK K hHeld
              (try simp only [Act.put, List.getElem_toArray, List.getElem_cons_succ, List.getElem_cons_zero, List.setIfInBounds_toArray, List.set_cons_zero, List.set_cons_succ])
              refine wpAnyH_ready (rs := [1]) (by kernel_rfl) (by simp) ?_
              refine AllReadyH.cons rfl (fun K hK => ?_) AllReadyH.nil
              go_simp
              refine hK.out _ _ ?_ (fun hHeld => ?_)
              · exact HN3.out
              clear hK K hHeld
              (try simp only [Act.put, List.getElem_toArray, List.getElem_cons_succ, List.getElem_cons_zero, List.setIfInBounds_toArray, List.set_cons_zero, List.set_cons_succ])
              refine wpAnyH_ready (rs := [8]) (by kernel_rfl) (by simp) ?_
              refine AllReadyH.cons rfl (fun K hK => ?_) AllReadyH.nil
              refine step_append_lies _ (by rfl) (.tmp 45) (.tmp 51) 23 (by rfl) 0 66 i0 _ 5 48 Tryz.underlying23 hi0 hz0 hz1 hz2 (by decide) (by decide) (.slice aC L.cls.length capC) L.cls.length (clC L.cls) (by rfl) (HL3.out.cls.alloc _) ⟨w3.heap.size, 0, none⟩ 1 1 [.string X, .int .u64 ((wd p 0 64 : Nat) : Int), .int .u64 ((wd p 64 64 : Nat) : Int), .int .u64 ((wd p 128 64 : Nat) : Int), .int .u64 ((wd p 192 64 : Nat) : Int)] (by rfl) rfl (fun j u hu => new_cells w3 [.string X, .int .u64 ((wd p 0 64 : Nat) : Int), .int .u64 ((wd p 64 64 : Nat) : Int), .int .u64 ((wd p 128 64 : Nat) : Int), .int .u64 ((wd p 192 64 : Nat) : Int)] 66 j u hu) (by simp [Value.oneCell']) (by decide) (by unfold maxLen; omega) (by omega) (Nat.zero_le _) (w3.heap.size + 1) (by simp) ?_
              intro g2 cap2 w5 ho hg2 hat hlt5
              have hkp : Keep (fun b => (Value.slice aC L.cls.length capC).ownBlock = some b) w3 w5 := ((Keep.refl _ _).alloc _).grown hg2 (fun j e _ => e)
              have hgg : (Value.slice aC L.cls.length capC).ownBlock = some g2 ∨ w3.heap.size ≤ g2 := hat.imp id (fun e => by rw [e]; simp)
              have ha5 : LAt w5 w.heap.size #[.string (mk L.name), .slice (some ⟨xw, 0, none⟩) 256 cw, .string (mk L.lower), .string (mk L.upper), .slice aC L.cls.length capC, .slice aE L.els.length capE] := (hkp.block w.heap.size HR3.out.2.1.lt (fun e => Nat.lt_irrefl _ (HL.out.lt.1 _ e))).trans HR3.out.2.1
              have hz5 : LAt w5 (w.heap.size + 1) zeroL := (hkp.block (w.heap.size + 1) HR3.out.2.2.lt (fun e => by have := HL.out.lt.1 _ e; omega)).trans HR3.out.2.2
              have HA5 := Lib.hid ha5
              have HZ5 := Lib.hid hz5
              have HM5 := Lib.hid (HL3.out.addC x p g2 cap2 (by rw [← HXx.out]; rfl) ho hkp hgg)
              have HK5 := Lib.hid hkp
              have hg5 : w5.cell? ⟨g, o + 1, none⟩ = some (.string X) := (World.cell?_of_block (w := w3) (hkp.block g (lt_of_cell HC3.out) (fun e => HSep.out (HL.out.inC g e)))).trans HC3.out
              have hp5 : At w5 G p := (hkp.block G HA3.out.lt (fun e => by have := HL.out.lt.1 _ e; have := HGw.out; omega)).trans HA3.out
              have HG5 := Lib.hid hg5
              have HP5 := Lib.hid hp5
              obtain ⟨⟨y0, y1, y2⟩, ⟨y3, y4, y5⟩, yf⟩ := ha5.six
              refine hK.out _ _ ⟨hp5, hg5⟩ (fun _ => ?_)
              clear ho hg2 hat hlt5 hkp hgg ha5 hz5 hg5 hp5 hK K
              (try simp only [Act.put, List.getElem_toArray, List.getElem_cons_succ, List.getElem_cons_zero, List.setIfInBounds_toArray, List.set_cons_zero, List.set_cons_succ])
              refine wpAnyH_take (i := 9) (v := ?kdv9) rfl (by kernel_rfl) (by kernel_rfl) (by kernel_rfl) (fun _ _ _ h => h) (Or.inl ⟨by rfl, ?kdy9⟩) (by assumption) ?kdr9
              case kdy9 =>
                intro wx hSw
                clear hSw
                go_simp
                first | done | (with_reducible rfl)
              (try simp only [Act.put, List.getElem_toArray, List.getElem_cons_succ, List.getElem_cons_zero, List.setIfInBounds_toArray, List.set_cons_zero, List.set_cons_succ])
              refine wpAnyH_ready (rs := [10]) (by kernel_rfl) (by simp) ?_
              refine AllReadyH.cons rfl (fun K hK => ?_) AllReadyH.nil
              go_simp
              refine hK.out _ _ ⟨HP5.out.apart _ (by have := HGw.out; omega), (World.cell?_of_block (w := w5) (Below.heap_setCell w5 ⟨w.heap.size, 4, none⟩ _ g (by have := HW.out.lt; show g ≠ w.heap.size; omega))).trans HG5.out⟩ (fun _ => ?_)
              clear hK K
              (try simp only [Act.put, List.getElem_toArray, List.getElem_cons_succ, List.getElem_cons_zero, List.setIfInBounds_toArray, List.set_cons_zero, List.set_cons_succ])
              refine wpAnyH_done (by kernel_rfl) ?_ _
              clear y0 y1 y2 y3 y4 y5 yf
              have ha6 : LAt (w5.setCell ⟨w.heap.size, 4, none⟩ (.slice (some ⟨g2, 0, none⟩) (L.cls.length + 1) cap2)) w.heap.size #[.string (mk L.name), .slice (some ⟨xw, 0, none⟩) 256 cw, .string (mk L.lower), .string (mk L.upper), .slice (some ⟨g2, 0, none⟩) (L.cls.length + 1) cap2, .slice aE L.els.length capE] := HA5.out.put 4 _
              have hz6 : LAt (w5.setCell ⟨w.heap.size, 4, none⟩ (.slice (some ⟨g2, 0, none⟩) (L.cls.length + 1) cap2)) (w.heap.size + 1) zeroL := HZ5.out.apart _ (by omega)
              have hk6 : Keep S w (w5.setCell ⟨w.heap.size, 4, none⟩ (.slice (some ⟨g2, 0, none⟩) (L.cls.length + 1) cap2)) := ((Keep.of_below HR3.out.1).trans HK5.out (fun b _ e => HL.out.inC b e)).put _ _ (.inr (Nat.le_refl _)) _
              have hm6 := HM5.out.same (w' := w5.setCell ⟨w.heap.size, 4, none⟩ (.slice (some ⟨g2, 0, none⟩) (L.cls.length + 1) cap2)) (fun b hb _ => Below.heap_setCell w5 ⟨w.heap.size, 4, none⟩ _ b (by
                rcases hb with hb | hb
                · exact Nat.ne_of_lt (HLt.out b hb)
                · have := HR3.out.2.2.lt
                  show b ≠ w.heap.size
                  omega))
              generalize (w5.setCell ⟨w.heap.size, 4, none⟩ (.slice (some ⟨g2, 0, none⟩) (L.cls.length + 1) cap2)) = w6 at ha6 hz6 hk6 hm6 ⊢
              have HZ6 := Lib.hid hz6
              have HK6 := Lib.hid hk6
              have HM6 := Lib.hid hm6
              obtain ⟨⟨y0, y1, y2⟩, ⟨y3, y4, y5⟩, yf⟩ := ha6.six
              obtain ⟨⟨z0, z1, z2⟩, ⟨z3, z4, z5⟩, zf⟩ := LAt.six hz6
              clear ha6 hz6 hk6 hm6
              go_wp2
              exact bodyPost_ret (ret_loc2 Tryz.results94 _ _ (w.heap.size + 1) _ _ rfl (by simp) (by simp) (HZ6.out.put6 _ _ _ _ _ _)) rfl (entR_class HQ2.out HP.out (HK6.out.put6 _ (by omega) _ _ _ _ _ _) ((HM6.out.same (fun b hb _ => put6_far _ _ b (by
                rcases hb with hb | hb
                · have := HLt.out b hb
                  omega
                · have := HR3.out.2.2.lt
                  omega) _ _ _ _ _ _)).more (fun b hb => hb.imp id (fun h => Nat.le_trans HR3.out.1.size h))) (Sl.mk' _ _ _) (Sl.mk' _ _ _) (Sl.mk' _ _ _))

            --B5)
end Go.Proofs.YticfhbffoajgcaaGreatDoor
/- The reference's element: a locale with a further element. (Written by gen_lrp4.py.) -/
set_option linter.unusedVariables false
namespace Go.Proofs.YticfhbffoajgcaaGreatDoor
open Go.RowKit

theorem entR_ok {S : Nat → Prop} {w w' : World} {L' : PL} {Q : Except Int PL} {s0 s2 s3 : ByteArray} {W C E : Value} (hQ : Q = .ok L') (h0 : s0 = mk L'.name) (h2 : s2 = mk L'.lower) (h3 : s3 = mk L'.upper) (hk : Keep S w w') (hM : LM (grow S w) w' L' W C E) (hW : Sl W) (hC : Sl C) (hE : Sl E) :
    EntR S w Q (.returned (.tuple #[.agg #[.string s0, W, .string s2, .string s3, C, E], .int .i64 0])) w' := by
  subst hQ h0 h2 h3
  exact ⟨_, _, _, _, _, _, rfl, hW, hC, hE, hk, fun L' h => by cases h; exact ⟨rfl, rfl, rfl, hM⟩⟩
theorem elemR_dup {L : PL} {a b v : Nat} (h : L.els.any (fun c => c.1 == pairT a b) = true) : elemR L [a, b, v] = .error 6 := if_pos h
theorem elemR_many {L : PL} {a b v : Nat} (h : L.els.any (fun c => c.1 == pairT a b) = false) (h2 : 64 ≤ L.els.length) : elemR L [a, b, v] = .error 3 := by
  unfold elemR
  rw [if_neg (by simp only [List.getD_cons_zero, List.getD_cons_succ]; rw [h]; decide), if_pos h2]
theorem elemR_put {L : PL} {a b v : Nat} (h : L.els.any (fun c => c.1 == pairT a b) = false) (h2 : ¬ 64 ≤ L.els.length) : elemR L [a, b, v] = .ok { L with els := L.els ++ [(pairT a b, (v : Int))] } := by
  unfold elemR
  rw [if_neg (by simp only [List.getD_cons_zero, List.getD_cons_succ]; rw [h]; decide), if_neg h2]
  rfl
set_option maxRecDepth 100000 in
set_option maxHeartbeats 8000000 in
theorem relement_any (S : Nat → Prop) (gn cn : Nat) (w : World) (L : PL) (W C E : Value) (h : LM S w L W C E) (hlt : ∀ b, S b → b < w.heap.size) (hsep : ¬ S gn) (a b v : Nat) (ha : a < 256) (hb : b < 256)
    (h0 : w.cell? ⟨gn, 0, none⟩ = some (.int .i64 (a : Int))) (h1 : w.cell? ⟨gn, 1, none⟩ = some (.int .i64 (b : Int))) (h2 : w.cell? ⟨gn, 2, none⟩ = some (.int .i64 (v : Int))) (h64 : L.els.length ≤ 64) :
    Calls Tryz.prog 97 #[.agg #[.string (mk L.name), W, .string (mk L.lower), .string (mk L.upper), C, E], .slice (some ⟨gn, 0, none⟩) 3 cn] w (EntR S w (elemR L [a, b, v])) := by
  obtain ⟨aC, capC, rfl⟩ := own_form h.cls
  obtain ⟨aE, capE, rfl⟩ := own_form h.els
  obtain ⟨xw, ⟨cw, ws, rfl, hcw, hxw, hxf⟩, hxS, hxC, hxE⟩ := h.wts
  have HL := Lib.hid h
  obtain ⟨Q, hQ⟩ : ∃ Q, elemR L [a, b, v] = Q := ⟨_, rfl⟩
  rw [hQ]
  have HQ := Lib.hid hQ
  have hS := RB.start w #[.string (mk L.name), .slice (some ⟨xw, 0, none⟩) 256 cw, .string (mk L.lower), .string (mk L.upper), .slice aC L.cls.length capC, .slice aE L.els.length capE]
  obtain ⟨PP, hPP⟩ : ∃ PP, mk (pairT a b) = PP := ⟨_, rfl⟩
  have HPP := Lib.hid hPP
  have HLt := Lib.hid hlt
  have HSep := Lib.hid hsep
  have HGn := Lib.hid (lt_of_cell h0)
  have HCs := Lib.hid (⟨h0, h1, h2⟩ : w.cell? ⟨gn, 0, none⟩ = some (.int .i64 (a : Int)) ∧ w.cell? ⟨gn, 1, none⟩ = some (.int .i64 (b : Int)) ∧ w.cell? ⟨gn, 2, none⟩ = some (.int .i64 (v : Int)))
  have hwa : IntKind.u8.wrap (a : Int) = (a : Int) := IntWalk.u8_in _ (by omega)
  have hwb : IntKind.u8.wrap (b : Int) = (b : Int) := IntWalk.u8_in _ (by omega)
  clear hQ h h0 h1 h2 hlt hsep hxw hxf hxS hxC hxE
  unfold VL2 zeroL at hS
  go_enter Tryz.func97, Tryz.ntmps97
  go_upto_region 1 with fail
  generalize ((w.alloc (.cells #[.string (mk L.name), .slice (some ⟨xw, 0, none⟩) 256 cw, .string (mk L.lower), .string (mk L.upper), .slice aC L.cls.length capC, .slice aE L.els.length capE] 26)).alloc (.cells #[.string ⟨#[]⟩, .slice none 0 0, .string ⟨#[]⟩, .string ⟨#[]⟩, .slice none 0 0, .slice none 0 0] 26)) = w1 at hS ⊢
  have c0 : w1.cell? ⟨gn, 0, none⟩ = some (.int .i64 (a : Int)) := by rw [hS.1.cell (by exact HGn.out)]; exact HCs.out.1
  have c1 : w1.cell? ⟨gn, 1, none⟩ = some (.int .i64 (b : Int)) := by rw [hS.1.cell (by exact HGn.out)]; exact HCs.out.2.1
  have hS2 := hS.drew
  go_still_tail 8, (by kernel_rfl)
  change wpList _ _ _ _ _ w1.drew
  clear c0 c1 hS
  generalize w1.drew = w2 at hS2 ⊢
  have hcv := conv_pair w2 a b ha hb
  rw [hPP] at hcv
  have HS := Lib.hid (hS2.keep ((Below.refl _ _).alloc (Nat.le_refl _) (.cells #[.int .u8 (a : Int), .int .u8 (b : Int)] 5)))
  clear hS2 hPP
  go_wp2
  clear hcv
  go_loopw [7] (fun i wr => ∃ q : Nat, q ≤ L.els.length ∧ i = .int .i64 q ∧ Hid (∀ j (hj : j < L.els.length), j < q → ((L.els[j]).1 == pairT a b) = false) ∧ Hid (RB w #[.string (mk L.name), .slice (some ⟨xw, 0, none⟩) 256 cw, .string (mk L.lower), .string (mk L.upper), .slice aC L.cls.length capC, .slice aE L.els.length capE] wr)) (fun i _ => L.els.length - (intOf i).toNat)
  case atStart => exact ⟨0, Nat.zero_le _, rfl, fun j hj h0 => by omega, HS.out⟩
  case round =>
    obtain ⟨q, hq, rfl, HD, HR⟩ := hrel
    clear HS
    obtain ⟨⟨y0, y1, y2⟩, ⟨y3, y4, y5⟩, yf⟩ := HR.out.2.1.six
    obtain ⟨⟨z0, z1, z2⟩, ⟨z3, z4, z5⟩, zf⟩ := LAt.six HR.out.2.2
    have q0 : (0 : Int) ≤ q := by omega
    by_cases hqn : q < L.els.length
    · have qn : (q : Int) < L.els.length := by omega
      obtain ⟨b', off, rfl, hb', hcell⟩ := els_cell HL.out q hqn
      have ce := hcell
      rw [← HR.out.1.cell (by exact hb')] at ce
      obtain ⟨D, hD⟩ : ∃ D, ((mk (L.els[q]).1).toList == PP.toList) = D := ⟨_, rfl⟩
      have HDx : Hid (((L.els[q]).1 == pairT a b) = D) := by rw [← HPP.out, toList_mk, toList_mk] at hD; exact hD
      have HB := Lib.hid hb'
      generalize mk (L.els[q]).1 = Y at ce hD
      clear hcell hb'
      by_cases hd : D = true
      · subst hd
        have HQ2 : Hid (Q = .error 6) := HQ.out.symm.trans (elemR_dup (eany_yes q hqn HDx.out))
        go_wp2
        exact bodyPost_ret (ret_loc2 Tryz.results97 _ _ (w.heap.size + 1) _ _ rfl (by simp) (by simp) (HR.out.2.2.put6 _ _ _ _ _ _)) rfl (entR_err HQ2.out (Keep.of_below (below_put6 HR.out.1 _ (by omega) _ _ _ _ _ _)) (Sl.mk' _ _ _) (Sl.mk' _ _ _) (Sl.mk' _ _ _))
      · have hdf : D = false := by simpa using hd
        subst hdf
        clear hd
        go_wp2
        go_roundw
        case rel =>
          refine ⟨q + 1, by omega, by go_num, fun j hj h1 => ?_, HR.out⟩
          by_cases e : j = q
          · subst e; exact HDx.out
          · exact HD.out j hj (by omega)
        case measure => simp [intOf]; omega
    · obtain rfl : q = L.els.length := by omega
      have hany := eany_no (fun j hj => HD.out j hj hj)
      by_cases hm : 64 ≤ L.els.length
      · have HQ2 : Hid (Q = .error 3) := HQ.out.symm.trans (elemR_many hany hm)
        have hm2 : (64 : Int) ≤ L.els.length := by omega
        clear hany
        go_wp2
        exact bodyPost_ret (ret_loc2 Tryz.results97 _ _ (w.heap.size + 1) _ _ rfl (by simp) (by simp) (HR.out.2.2.put6 _ _ _ _ _ _)) rfl (entR_err HQ2.out (Keep.of_below (below_put6 HR.out.1 _ (by omega) _ _ _ _ _ _)) (Sl.mk' _ _ _) (Sl.mk' _ _ _) (Sl.mk' _ _ _))
      · have hm2 : ¬ (64 : Int) ≤ L.els.length := by omega
        have HQ2 := Lib.hid (HQ.out.symm.trans (elemR_put (v := v) hany hm))
        have hm9 : L.els.length < 64 := by omega
        clear hany
        go_upto_region 9 with fail
        have hr3 := HR.out.drew
        have c3 : wr.drew.cell? ⟨gn, 2, none⟩ = some (.int .i64 (v : Int)) := by rw [hr3.1.cell (by exact HGn.out)]; exact HCs.out.2.2
        clear y0 y1 y2 y3 y4 y5 yf z0 z1 z2 z3 z4 z5 zf
        refine wp_region_held_drew (S := fun w' => w'.cell? ⟨gn, 2, none⟩ = some (.int .i64 (v : Int))) (by kernel_rfl) ?_ (fun hHeld => ?_)
        · exact c3
        refine wpAnyH_take (i := 0) (v := ?bv0) rfl (by kernel_rfl) (by kernel_rfl) (by kernel_rfl) (fun _ _ _ h => h) (Or.inl ⟨by rfl, ?by0⟩) (by assumption) ?br0
        case by0 =>
          intro wx hSw
          clear hSw
          go_simp
          first | done | (with_reducible rfl)
        (try simp only [Act.put, List.getElem_toArray, List.getElem_cons_zero, List.setIfInBounds_toArray, List.set_cons_zero, List.set_cons_succ])
        refine wpAnyH_take (i := 2) (v := ?bv2) rfl (by kernel_rfl) (by kernel_rfl) (by kernel_rfl) (fun _ _ _ h => h) (Or.inl ⟨by rfl, ?by2⟩) (by assumption) ?br2
        case by2 =>
          intro wx hSw
          clear hSw
          go_simp
          first | done | (with_reducible rfl)
        (try simp only [Act.put, List.getElem_toArray, List.getElem_cons_succ, List.getElem_cons_zero, List.setIfInBounds_toArray, List.set_cons_zero, List.set_cons_succ])
        refine wpAnyH_take (i := 3) (v := ?bv3) rfl (by kernel_rfl) (by kernel_rfl) (by kernel_rfl) (fun _ _ _ h => h) (Or.inl ⟨by rfl, ?by3⟩) (by assumption) ?br3
        case by3 =>
          intro wx hSw
          clear hSw
          go_simp
          first | done | (with_reducible rfl)
        (try simp only [Act.put, List.getElem_toArray, List.getElem_cons_succ, List.getElem_cons_zero, List.setIfInBounds_toArray, List.set_cons_zero, List.set_cons_succ])
        refine wpAnyH_take (i := 4) (v := ?bv4) rfl (by kernel_rfl) (by kernel_rfl) (by kernel_rfl) (fun _ _ _ h => h) (Or.inl ⟨by rfl, ?by4⟩) (by assumption) ?br4
        case by4 =>
          intro wx hSw
          clear hSw
          go_simp
          first | done | (with_reducible rfl)
        (try simp only [Act.put, List.getElem_toArray, List.getElem_cons_succ, List.getElem_cons_zero, List.setIfInBounds_toArray, List.set_cons_zero, List.set_cons_succ])
        refine wpAnyH_take (i := 5) (v := ?bv5) rfl (by kernel_rfl) (by kernel_rfl) (by kernel_rfl) (fun _ _ _ h => h) (Or.inl ⟨by rfl, ?by5⟩) (by assumption) ?br5
        case by5 =>
          intro wx hSw
          have hw := hSw
          clear hSw
          go_simp
          first | done | (with_reducible rfl)
        (try simp only [Act.put, List.getElem_toArray, List.getElem_cons_succ, List.getElem_cons_zero, List.setIfInBounds_toArray, List.set_cons_zero, List.set_cons_succ])
        refine wpAnyH_take (i := 6) (v := ?bv6) rfl (by kernel_rfl) (by kernel_rfl) (by kernel_rfl) (fun _ _ _ h => h) (Or.inl ⟨by rfl, ?by6⟩) (by assumption) ?br6
        case by6 =>
          intro wx hSw
          clear hSw
          go_simp
          first | done | (with_reducible rfl)
        (try simp only [Act.put, List.getElem_toArray, List.getElem_cons_succ, List.getElem_cons_zero, List.setIfInBounds_toArray, List.set_cons_zero, List.set_cons_succ])
        clear hHeld
        generalize wr.drew = w3 at hr3 c3 ⊢
        have HR3 := Lib.hid hr3
        have HL3 := Lib.hid (HL.out.next hr3.1)
        have HC3 := Lib.hid c3
        obtain ⟨i0, hi0, hz0, hz1, hz2⟩ := info_parts infoEl
        have y5 := hr3.2.1.six.2.1.2.2
        have HN3 : Hid ((w3.alloc (.cells #[.string PP, .int .i64 (v : Int)] 68)).cell? ⟨gn, 2, none⟩ = some (.int .i64 (v : Int))) := by
          show World.cell? _ _ = _
          rw [((Below.refl _ _).alloc (Nat.le_refl _) _ : Below w3.heap.size w3 _).cell (by exact lt_of_cell c3)]; exact c3
        have yB : (w3.alloc (.cells #[.string PP, .int .i64 (v : Int)] 68)).cell? ⟨w.heap.size, 5, none⟩ = some (.slice aE L.els.length capE) := by rw [((Below.refl _ _).alloc (Nat.le_refl _) _ : Below w3.heap.size w3 _).cell (by exact hr3.2.1.lt)]; exact y5
        clear hr3 c3
        refine wpAnyH_ready (rs := [1, 7]) (by kernel_rfl) (by simp) ?_
        refine AllReadyH.cons rfl (fun K hK => ?_) (AllReadyH.cons rfl (fun K hK => ?_) AllReadyH.nil)
        · clear yB
          go_simp
          refine hK.out _ _ ?_ (fun hHeld => ?_)
          · exact HC3.out
          clear hK K hHeld
          (try simp only [Act.put, List.getElem_toArray, List.getElem_cons_succ, List.getElem_cons_zero, List.setIfInBounds_toArray, List.set_cons_zero, List.set_cons_succ])
          refine wpAnyH_ready (rs := [7]) (by kernel_rfl) (by simp) ?_
          refine AllReadyH.cons rfl (fun K hK => ?_) AllReadyH.nil
          go_simp
          refine hK.out _ _ ?_ (fun hHeld => ?_)
          · exact HN3.out
          clear hK K hHeld
          (try simp only [Act.put, List.getElem_toArray, List.getElem_cons_succ, List.getElem_cons_zero, List.setIfInBounds_toArray, List.set_cons_zero, List.set_cons_succ])
          refine wpAnyH_ready (rs := [8]) (by kernel_rfl) (by simp) ?_
          refine AllReadyH.cons rfl (fun K hK => ?_) AllReadyH.nil
          refine step_append_lies _ (by rfl) (.tmp 40) (.tmp 46) 24 (by rfl) 0 68 i0 _ 2 24 Tryz.underlying24 hi0 hz0 hz1 hz2 (by decide) (by decide) (.slice aE L.els.length capE) L.els.length (elC L.els) (by rfl) (HL3.out.els.alloc _) ⟨w3.heap.size, 0, none⟩ 1 1 [.string PP, .int .i64 (v : Int)] (by rfl) rfl (fun j u hu => new_cells w3 [.string PP, .int .i64 (v : Int)] 68 j u hu) (by simp [Value.oneCell']) (by decide) (by unfold maxLen; omega) (by omega) (Nat.zero_le _) (w3.heap.size + 1) (by simp) ?_
          intro g2 cap2 w5 ho hg2 hat hlt5
          have hkp : Keep (fun b => (Value.slice aE L.els.length capE).ownBlock = some b) w3 w5 := ((Keep.refl _ _).alloc _).grown hg2 (fun j e _ => e)
          have hgg : (Value.slice aE L.els.length capE).ownBlock = some g2 ∨ w3.heap.size ≤ g2 := hat.imp id (fun e => by rw [e]; simp)
          have ha5 : LAt w5 w.heap.size #[.string (mk L.name), .slice (some ⟨xw, 0, none⟩) 256 cw, .string (mk L.lower), .string (mk L.upper), .slice aC L.cls.length capC, .slice aE L.els.length capE] := (hkp.block w.heap.size HR3.out.2.1.lt (fun e => Nat.lt_irrefl _ (HL.out.lt.2 _ e))).trans HR3.out.2.1
          have hz5 : LAt w5 (w.heap.size + 1) zeroL := (hkp.block (w.heap.size + 1) HR3.out.2.2.lt (fun e => by have := HL.out.lt.2 _ e; omega)).trans HR3.out.2.2
          have HA5 := Lib.hid ha5
          have HZ5 := Lib.hid hz5
          have HM5 := Lib.hid (HL3.out.addE (pairT a b) (v : Int) g2 cap2 (by rw [← HPP.out]; rfl) ho hkp hgg)
          have HK5 := Lib.hid hkp
          have hg5 : w5.cell? ⟨gn, 2, none⟩ = some (.int .i64 (v : Int)) := (World.cell?_of_block (w := w3) (hkp.block gn (lt_of_cell HC3.out) (fun e => HSep.out (HL.out.inE gn e)))).trans HC3.out
          have HG5 := Lib.hid hg5
          obtain ⟨⟨y0, y1, y2⟩, ⟨y3, y4, y5⟩, yf⟩ := ha5.six
          refine hK.out _ _ hg5 (fun _ => ?_)
          clear ho hg2 hat hlt5 hkp hgg ha5 hz5 hg5 hK K
          (try simp only [Act.put, List.getElem_toArray, List.getElem_cons_succ, List.getElem_cons_zero, List.setIfInBounds_toArray, List.set_cons_zero, List.set_cons_succ])
          refine wpAnyH_take (i := 9) (v := ?cv9) rfl (by kernel_rfl) (by kernel_rfl) (by kernel_rfl) (fun _ _ _ h => h) (Or.inl ⟨by rfl, ?cy9⟩) (by assumption) ?cr9
          case cy9 =>
            intro wx hSw
            clear hSw
            go_simp
            first | done | (with_reducible rfl)
          (try simp only [Act.put, List.getElem_toArray, List.getElem_cons_succ, List.getElem_cons_zero, List.setIfInBounds_toArray, List.set_cons_zero, List.set_cons_succ])
          refine wpAnyH_ready (rs := [10]) (by kernel_rfl) (by simp) ?_
          refine AllReadyH.cons rfl (fun K hK => ?_) AllReadyH.nil
          go_simp
          refine hK.out _ _ ((World.cell?_of_block (w := w5) (Below.heap_setCell w5 ⟨w.heap.size, 5, none⟩ _ gn (by have := HGn.out; show gn ≠ w.heap.size; omega))).trans HG5.out) (fun _ => ?_)
          clear hK K
          (try simp only [Act.put, List.getElem_toArray, List.getElem_cons_succ, List.getElem_cons_zero, List.setIfInBounds_toArray, List.set_cons_zero, List.set_cons_succ])
          refine wpAnyH_done (by kernel_rfl) ?_ _
          clear y0 y1 y2 y3 y4 y5 yf
          have ha6 : LAt (w5.setCell ⟨w.heap.size, 5, none⟩ (.slice (some ⟨g2, 0, none⟩) (L.els.length + 1) cap2)) w.heap.size #[.string (mk L.name), .slice (some ⟨xw, 0, none⟩) 256 cw, .string (mk L.lower), .string (mk L.upper), .slice aC L.cls.length capC, .slice (some ⟨g2, 0, none⟩) (L.els.length + 1) cap2] := HA5.out.put 5 _
          have hz6 : LAt (w5.setCell ⟨w.heap.size, 5, none⟩ (.slice (some ⟨g2, 0, none⟩) (L.els.length + 1) cap2)) (w.heap.size + 1) zeroL := HZ5.out.apart _ (by omega)
          have hk6 : Keep S w (w5.setCell ⟨w.heap.size, 5, none⟩ (.slice (some ⟨g2, 0, none⟩) (L.els.length + 1) cap2)) := ((Keep.of_below HR3.out.1).trans HK5.out (fun b _ e => HL.out.inE b e)).put _ _ (.inr (Nat.le_refl _)) _
          have hm6 := HM5.out.same (w' := w5.setCell ⟨w.heap.size, 5, none⟩ (.slice (some ⟨g2, 0, none⟩) (L.els.length + 1) cap2)) (fun b hb _ => Below.heap_setCell w5 ⟨w.heap.size, 5, none⟩ _ b (by
            rcases hb with hb | hb
            · exact Nat.ne_of_lt (HLt.out b hb)
            · have := HR3.out.2.2.lt
              show b ≠ w.heap.size
              omega))
          generalize (w5.setCell ⟨w.heap.size, 5, none⟩ (.slice (some ⟨g2, 0, none⟩) (L.els.length + 1) cap2)) = w6 at ha6 hz6 hk6 hm6 ⊢
          have HZ6 := Lib.hid hz6
          have HK6 := Lib.hid hk6
          have HM6 := Lib.hid hm6
          obtain ⟨⟨y0, y1, y2⟩, ⟨y3, y4, y5⟩, yf⟩ := ha6.six
          obtain ⟨⟨z0, z1, z2⟩, ⟨z3, z4, z5⟩, zf⟩ := LAt.six hz6
          clear ha6 hz6 hk6 hm6
          go_wp2
          exact bodyPost_ret (ret_loc2 Tryz.results97 _ _ (w.heap.size + 1) _ _ rfl (by simp) (by simp) (HZ6.out.put6 _ _ _ _ _ _)) rfl (entR_ok HQ2.out rfl rfl rfl (HK6.out.put6 _ (by omega) _ _ _ _ _ _) ((HM6.out.same (fun b hb _ => put6_far _ _ b (by
            rcases hb with hb | hb
            · have := HLt.out b hb
              omega
            · have := HR3.out.2.2.lt
              omega) _ _ _ _ _ _)).more (fun b hb => hb.imp id (fun h => Nat.le_trans HR3.out.1.size h))) (Sl.mk' _ _ _) (Sl.mk' _ _ _) (Sl.mk' _ _ _))
        · clear y5
          go_simp
          refine hK.out _ _ ?_ (fun hHeld => ?_)
          · exact HN3.out
          clear hK K hHeld
          (try simp only [Act.put, List.getElem_toArray, List.getElem_cons_succ, List.getElem_cons_zero, List.setIfInBounds_toArray, List.set_cons_zero, List.set_cons_succ])
          refine wpAnyH_ready (rs := [1]) (by kernel_rfl) (by simp) ?_
          refine AllReadyH.cons rfl (fun K hK => ?_) AllReadyH.nil
          go_simp
          refine hK.out _ _ ?_ (fun hHeld => ?_)
          · exact HN3.out
          clear hK K hHeld
          (try simp only [Act.put, List.getElem_toArray, List.getElem_cons_succ, List.getElem_cons_zero, List.setIfInBounds_toArray, List.set_cons_zero, List.set_cons_succ])
          refine wpAnyH_ready (rs := [8]) (by kernel_rfl) (by simp) ?_
          refine AllReadyH.cons rfl (fun K hK => ?_) AllReadyH.nil
          refine step_append_lies _ (by rfl) (.tmp 40) (.tmp 46) 24 (by rfl) 0 68 i0 _ 2 24 Tryz.underlying24 hi0 hz0 hz1 hz2 (by decide) (by decide) (.slice aE L.els.length capE) L.els.length (elC L.els) (by rfl) (HL3.out.els.alloc _) ⟨w3.heap.size, 0, none⟩ 1 1 [.string PP, .int .i64 (v : Int)] (by rfl) rfl (fun j u hu => new_cells w3 [.string PP, .int .i64 (v : Int)] 68 j u hu) (by simp [Value.oneCell']) (by decide) (by unfold maxLen; omega) (by omega) (Nat.zero_le _) (w3.heap.size + 1) (by simp) ?_
          intro g2 cap2 w5 ho hg2 hat hlt5
          have hkp : Keep (fun b => (Value.slice aE L.els.length capE).ownBlock = some b) w3 w5 := ((Keep.refl _ _).alloc _).grown hg2 (fun j e _ => e)
          have hgg : (Value.slice aE L.els.length capE).ownBlock = some g2 ∨ w3.heap.size ≤ g2 := hat.imp id (fun e => by rw [e]; simp)
          have ha5 : LAt w5 w.heap.size #[.string (mk L.name), .slice (some ⟨xw, 0, none⟩) 256 cw, .string (mk L.lower), .string (mk L.upper), .slice aC L.cls.length capC, .slice aE L.els.length capE] := (hkp.block w.heap.size HR3.out.2.1.lt (fun e => Nat.lt_irrefl _ (HL.out.lt.2 _ e))).trans HR3.out.2.1
          have hz5 : LAt w5 (w.heap.size + 1) zeroL := (hkp.block (w.heap.size + 1) HR3.out.2.2.lt (fun e => by have := HL.out.lt.2 _ e; omega)).trans HR3.out.2.2
          have HA5 := Lib.hid ha5
          have HZ5 := Lib.hid hz5
          have HM5 := Lib.hid (HL3.out.addE (pairT a b) (v : Int) g2 cap2 (by rw [← HPP.out]; rfl) ho hkp hgg)
          have HK5 := Lib.hid hkp
          have hg5 : w5.cell? ⟨gn, 2, none⟩ = some (.int .i64 (v : Int)) := (World.cell?_of_block (w := w3) (hkp.block gn (lt_of_cell HC3.out) (fun e => HSep.out (HL.out.inE gn e)))).trans HC3.out
          have HG5 := Lib.hid hg5
          obtain ⟨⟨y0, y1, y2⟩, ⟨y3, y4, y5⟩, yf⟩ := ha5.six
          refine hK.out _ _ hg5 (fun _ => ?_)
          clear ho hg2 hat hlt5 hkp hgg ha5 hz5 hg5 hK K
          (try simp only [Act.put, List.getElem_toArray, List.getElem_cons_succ, List.getElem_cons_zero, List.setIfInBounds_toArray, List.set_cons_zero, List.set_cons_succ])
          refine wpAnyH_take (i := 9) (v := ?dv9) rfl (by kernel_rfl) (by kernel_rfl) (by kernel_rfl) (fun _ _ _ h => h) (Or.inl ⟨by rfl, ?dy9⟩) (by assumption) ?dr9
          case dy9 =>
            intro wx hSw
            clear hSw
            go_simp
            first | done | (with_reducible rfl)
          (try simp only [Act.put, List.getElem_toArray, List.getElem_cons_succ, List.getElem_cons_zero, List.setIfInBounds_toArray, List.set_cons_zero, List.set_cons_succ])
          refine wpAnyH_ready (rs := [10]) (by kernel_rfl) (by simp) ?_
          refine AllReadyH.cons rfl (fun K hK => ?_) AllReadyH.nil
          go_simp
          refine hK.out _ _ ((World.cell?_of_block (w := w5) (Below.heap_setCell w5 ⟨w.heap.size, 5, none⟩ _ gn (by have := HGn.out; show gn ≠ w.heap.size; omega))).trans HG5.out) (fun _ => ?_)
          clear hK K
          (try simp only [Act.put, List.getElem_toArray, List.getElem_cons_succ, List.getElem_cons_zero, List.setIfInBounds_toArray, List.set_cons_zero, List.set_cons_succ])
          refine wpAnyH_done (by kernel_rfl) ?_ _
          clear y0 y1 y2 y3 y4 y5 yf
          have ha6 : LAt (w5.setCell ⟨w.heap.size, 5, none⟩ (.slice (some ⟨g2, 0, none⟩) (L.els.length + 1) cap2)) w.heap.size #[.string (mk L.name), .slice (some ⟨xw, 0, none⟩) 256 cw, .string (mk L.lower), .string (mk L.upper), .slice aC L.cls.length capC, .slice (some ⟨g2, 0, none⟩) (L.els.length + 1) cap2] := HA5.out.put 5 _
          have hz6 : LAt (w5.setCell ⟨w.heap.size, 5, none⟩ (.slice (some ⟨g2, 0, none⟩) (L.els.length + 1) cap2)) (w.heap.size + 1) zeroL := HZ5.out.apart _ (by omega)
          have hk6 : Keep S w (w5.setCell ⟨w.heap.size, 5, none⟩ (.slice (some ⟨g2, 0, none⟩) (L.els.length + 1) cap2)) := ((Keep.of_below HR3.out.1).trans HK5.out (fun b _ e => HL.out.inE b e)).put _ _ (.inr (Nat.le_refl _)) _
          have hm6 := HM5.out.same (w' := w5.setCell ⟨w.heap.size, 5, none⟩ (.slice (some ⟨g2, 0, none⟩) (L.els.length + 1) cap2)) (fun b hb _ => Below.heap_setCell w5 ⟨w.heap.size, 5, none⟩ _ b (by
            rcases hb with hb | hb
            · exact Nat.ne_of_lt (HLt.out b hb)
            · have := HR3.out.2.2.lt
              show b ≠ w.heap.size
              omega))
          generalize (w5.setCell ⟨w.heap.size, 5, none⟩ (.slice (some ⟨g2, 0, none⟩) (L.els.length + 1) cap2)) = w6 at ha6 hz6 hk6 hm6 ⊢
          have HZ6 := Lib.hid hz6
          have HK6 := Lib.hid hk6
          have HM6 := Lib.hid hm6
          obtain ⟨⟨y0, y1, y2⟩, ⟨y3, y4, y5⟩, yf⟩ := ha6.six
          obtain ⟨⟨z0, z1, z2⟩, ⟨z3, z4, z5⟩, zf⟩ := LAt.six hz6
          clear ha6 hz6 hk6 hm6
          go_wp2
          exact bodyPost_ret (ret_loc2 Tryz.results97 _ _ (w.heap.size + 1) _ _ rfl (by simp) (by simp) (HZ6.out.put6 _ _ _ _ _ _)) rfl (entR_ok HQ2.out rfl rfl rfl (HK6.out.put6 _ (by omega) _ _ _ _ _ _) ((HM6.out.same (fun b hb _ => put6_far _ _ b (by
            rcases hb with hb | hb
            · have := HLt.out b hb
              omega
            · have := HR3.out.2.2.lt
              omega) _ _ _ _ _ _)).more (fun b hb => hb.imp id (fun h => Nat.le_trans HR3.out.1.size h))) (Sl.mk' _ _ _) (Sl.mk' _ _ _) (Sl.mk' _ _ _))
end Go.Proofs.YticfhbffoajgcaaGreatDoor
