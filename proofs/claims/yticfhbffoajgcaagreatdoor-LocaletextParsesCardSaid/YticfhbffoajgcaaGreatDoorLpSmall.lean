/- The program's names and weights. -/
import Derived.Test.YticfhbffoajgcaaGreatDoorRows
import Derived.Test.YticfhbffoajgcaaGreatDoorLcSmall
set_option linter.unusedVariables false
namespace Go.Proofs.YticfhbffoajgcaaGreatDoor
open Go.RowKit

theorem bool_tf (b : Bool) : b = true ∨ b = false := by cases b <;> simp
theorem pIsNoWeight_any (n : Int) (w : World) : Calls Tryz.prog 100 #[.int .i64 n] w fun e w' => e = .returned (.bool (!(decide (0 ≤ n) && decide (n ≤ 65535)))) ∧ w = w' := by
  by_cases h1 : 0 ≤ n
  · have j1 : ¬ n < 0 := by omega
    by_cases h2 : n ≤ 65535
    · have j2 : ¬ 65535 < n := by omega
      go_enter Tryz.func100, Tryz.ntmps100
      go_wp2
      go_ret
      exact ⟨by simp <;> omega, rfl⟩
    · have j2 : 65535 < n := by omega
      go_enter Tryz.func100, Tryz.ntmps100
      go_wp2
      go_ret
      exact ⟨by simp <;> omega, rfl⟩
  · have j1 : n < 0 := by omega
    go_enter Tryz.func100, Tryz.ntmps100
    go_wp2
    go_ret
    exact ⟨by simp <;> omega, rfl⟩

/-- A digit, a letter. -/
def dgC (c : Nat) : Bool := decide (48 ≤ c) && decide (c ≤ 57)
def ltC (c : Nat) : Bool := (decide (97 ≤ c) && decide (c ≤ 122)) || (decide (65 ≤ c) && decide (c ≤ 90))
theorem nmC_parts (c : Nat) : nmC c = (ltC c || dgC c || (c == 95)) := rfl

theorem pIsDigit_any (c : Nat) (w : World) : Calls Tryz.prog 138 #[.int .u8 c] w fun e w' => e = .returned (.bool (dgC c)) ∧ w = w' := by
  unfold dgC
  by_cases h1 : 48 ≤ c
  · have j1 : (48 : Int) ≤ c := by omega
    by_cases h2 : c ≤ 57
    · have j2 : (c : Int) ≤ 57 := by omega
      go_enter Tryz.func138, Tryz.ntmps138
      go_wp2
      go_ret
      exact ⟨by simp <;> omega, rfl⟩
    · have j2 : ¬ (c : Int) ≤ 57 := by omega
      go_enter Tryz.func138, Tryz.ntmps138
      go_wp2
      go_ret
      exact ⟨by simp <;> omega, rfl⟩
  · have j1 : ¬ (48 : Int) ≤ c := by omega
    go_enter Tryz.func138, Tryz.ntmps138
    go_wp2
    go_ret
    exact ⟨by simp <;> omega, rfl⟩
theorem pIsLetter_any (c : Nat) (w : World) : Calls Tryz.prog 139 #[.int .u8 c] w fun e w' => e = .returned (.bool (ltC c)) ∧ w = w' := by
  unfold ltC
  have hiv : c < 65 ∨ (65 ≤ c ∧ c ≤ 90) ∨ (91 ≤ c ∧ c ≤ 96) ∨ (97 ≤ c ∧ c ≤ 122) ∨ 122 < c := by omega
  rcases hiv with hv | hv | hv | hv | hv
  · have j0 : ¬ (97 : Int) ≤ c := by omega
    have j2 : ¬ (65 : Int) ≤ c := by omega
    go_enter Tryz.func139, Tryz.ntmps139
    go_wp2
    go_ret
    exact ⟨by simp <;> omega, rfl⟩
  · have j0 : ¬ (97 : Int) ≤ c := by omega
    have j2 : (65 : Int) ≤ c := by omega
    have j3 : (c : Int) ≤ 90 := by omega
    go_enter Tryz.func139, Tryz.ntmps139
    go_wp2
    go_ret
    exact ⟨by simp <;> omega, rfl⟩
  · have j0 : ¬ (97 : Int) ≤ c := by omega
    have j2 : (65 : Int) ≤ c := by omega
    have j3 : ¬ (c : Int) ≤ 90 := by omega
    go_enter Tryz.func139, Tryz.ntmps139
    go_wp2
    go_ret
    exact ⟨by simp <;> omega, rfl⟩
  · have j0 : (97 : Int) ≤ c := by omega
    have j1 : (c : Int) ≤ 122 := by omega
    go_enter Tryz.func139, Tryz.ntmps139
    go_wp2
    go_ret
    exact ⟨by simp <;> omega, rfl⟩
  · have j0 : (97 : Int) ≤ c := by omega
    have j1 : ¬ (c : Int) ≤ 122 := by omega
    have j2 : (65 : Int) ≤ c := by omega
    have j3 : ¬ (c : Int) ≤ 90 := by omega
    go_enter Tryz.func139, Tryz.ntmps139
    go_wp2
    go_ret
    exact ⟨by simp <;> omega, rfl⟩

theorem isEmpty_yes (s : ByteArray) (h : s.size = 0) : s.toList.isEmpty = true := by
  rw [ByteArray.toList_eq]
  have h2 : s.data.toList.length = 0 := by simpa using h
  rw [List.eq_nil_of_length_eq_zero h2]
  rfl
theorem lisEmpty_no (s : ByteArray) (h : 0 < s.size) : s.toList.isEmpty = false := by
  rw [ByteArray.toList_eq]
  have h2 : s.data.toList.length = s.size := by simp
  cases hl : s.data.toList with
  | nil => rw [hl] at h2; simp at h2; omega
  | cons a r => rfl

set_option maxHeartbeats 4000000 in
theorem pIsName_any (s : ByteArray) (w : World) : Calls Tryz.prog 98 #[.string s] w fun e w' => e = .returned (.bool (nmB s)) ∧ w = w' := by
  by_cases h0 : s.size = 0
  · have e0 := isEmpty_yes s h0
    rw [nmB_empty s h0]
    go_enter Tryz.func98, Tryz.ntmps98
    go_wp2
    go_ret
    exact ⟨rfl, rfl⟩
  have hpos : 0 < s.size := by omega
  have e0 := lisEmpty_no s hpos
  obtain ⟨R, hR⟩ : ∃ R, R = nmB s := ⟨_, rfl⟩
  have hN := nmB_cons s hpos
  rw [← hR] at hN ⊢
  by_cases h32 : s.size ≤ 32
  · have i32 : ¬ (32 : Int) < s.size := by omega
    have i32' : (s.size : Int) ≤ 32 := by omega
    obtain ⟨c0, hc0⟩ : ∃ c, s[0].toNat = c := ⟨_, rfl⟩
    have hD := Lib.hid (pIsDigit_any c0)
    have hN2 : R = (!(dgC c0) && s.data.toList.all fun c => nmC c.toNat) := by
      rw [hN, decide_eq_true h32, hc0]
      unfold dgC
      simp
    clear hN hR h32
    rcases bool_tf (dgC c0) with hd | hd
    · rw [hd] at hD hN2
      simp only [Bool.not_true, Bool.false_and] at hN2
      subst hN2
      clear hd
      go_enter Tryz.func98, Tryz.ntmps98
      go_wp2_with (go_at_call 138; refine (hD.out _).mono ?_; rintro e w1 ⟨rfl, rfl⟩)
      go_ret
      exact ⟨rfl, rfl⟩
    · rw [hd] at hD hN2
      simp only [Bool.not_false, Bool.true_and] at hN2
      have HR := Lib.hid hN2
      clear hd hN2
      go_enter Tryz.func98, Tryz.ntmps98
      go_wp2_with (go_at_call 138; refine (hD.out _).mono ?_; rintro e w1 ⟨rfl, rfl⟩)
      go_loopw [18] (fun i wr => ∃ k : Nat, k ≤ s.size ∧ i = .int .i64 k ∧ Hid ((s.data.toList.take k).all (fun c => nmC c.toNat) = true) ∧ wr = w) (fun i _ => s.size - (intOf i).toNat)
      case atStart => exact ⟨0, Nat.zero_le _, rfl, rfl, rfl⟩
      case round =>
        obtain ⟨k, hk, rfl, HA, rfl⟩ := hrel
        by_cases hlt : k < s.size
        · have hi : (k : Int) < s.size := by omega
          obtain ⟨c, hc⟩ : ∃ c, s[k].toNat = c := ⟨_, rfl⟩
          have hkl : k < s.data.toList.length := by simpa using hlt
          have hlist : (s.data.toList[k]).toNat = c := hc
          have HT := Lib.hid (all_take s.data.toList k hkl HA.out)
          have HF := Lib.hid (all_not s.data.toList k hkl)
          rw [hlist, nmC_parts] at HT HF
          clear hlist hkl
          have HL := Lib.hid (pIsLetter_any c)
          have HD := Lib.hid (pIsDigit_any c)
          rcases bool_tf (ltC c) with hl | hl
          · rw [hl] at HT HF HL
            clear HF hl
            go_wp2_with (go_at_call 139; refine (HL.out _).mono ?_; rintro e w1 ⟨rfl, rfl⟩)
            go_roundw
            case rel => exact ⟨k + 1, by omega, by go_num, by show _ = _; rw [HT.out]; simp, trivial⟩
            case measure => simp [intOf]; omega
          · rw [hl] at HT HF HL
            rcases bool_tf (dgC c) with hg | hg
            · rw [hg] at HT HF HD
              clear HF hl hg
              go_wp2_with (first
                | (go_at_call 139; refine (HL.out _).mono ?_; rintro e w1 ⟨rfl, rfl⟩)
                | (go_at_call 138; refine (HD.out _).mono ?_; rintro e w1 ⟨rfl, rfl⟩))
              go_roundw
              case rel => exact ⟨k + 1, by omega, by go_num, by show _ = _; rw [HT.out]; simp, trivial⟩
              case measure => simp [intOf]; omega
            · rw [hg] at HT HF HD
              clear hl hg
              by_cases h95 : c = 95
              · have u1 : ((c : Int) != 95) = false := by rw [bne_eq_false_iff_eq]; omega
                have u2 : (c != 95) = false := by rw [bne_eq_false_iff_eq]; omega
                have HU : Hid ((c == 95) = true) := by show _ = _; rw [h95]; rfl
                clear HF h95
                go_wp2_with (first
                  | (go_at_call 139; refine (HL.out _).mono ?_; rintro e w1 ⟨rfl, rfl⟩)
                  | (go_at_call 138; refine (HD.out _).mono ?_; rintro e w1 ⟨rfl, rfl⟩))
                go_roundw
                case rel => exact ⟨k + 1, by omega, by go_num, by show _ = _; rw [HT.out, HU.out]; simp, trivial⟩
                case measure => simp [intOf]; omega
              · have u1 : ((c : Int) != 95) = true := by rw [bne_iff_ne]; omega
                have u2 : (c != 95) = true := by rw [bne_iff_ne]; omega
                have HN : Hid (R = false) := by
                  show R = false
                  rw [HR.out]
                  apply HF.out
                  have : (c == 95) = false := by rw [beq_eq_false_iff_ne]; exact h95
                  rw [this]
                  rfl
                clear h95
                go_wp2_with (first
                  | (go_at_call 139; refine (HL.out _).mono ?_; rintro e w1 ⟨rfl, rfl⟩)
                  | (go_at_call 138; refine (HD.out _).mono ?_; rintro e w1 ⟨rfl, rfl⟩))
                go_ret
                exact ⟨by rw [HN.out] <;> rfl, rfl⟩
        · obtain rfl : k = s.size := by omega
          have HN : Hid (R = true) := by
            show R = true
            rw [HR.out, ← HA.out, List.take_of_length_le (by simp)]
          go_wp2
          go_ret
          exact ⟨by rw [HN.out] <;> rfl, rfl⟩
  · have i32 : (32 : Int) < s.size := by omega
    have hRf : R = false := by rw [hN]; simp [h32]
    subst hRf
    clear hN hR
    go_enter Tryz.func98, Tryz.ntmps98
    go_wp2
    go_ret
    exact ⟨rfl, rfl⟩
end Go.Proofs.YticfhbffoajgcaaGreatDoor
