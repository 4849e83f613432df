/- What the program's function that knows decimal texts hands back. -/
import Derived.Test.YticfhbffoajgcaaGreatDoorNumWalks
import Derived.Test.YticfhbffoajgcaaGreatDoorNumText
import Derived.WalkSpells
namespace Go.Proofs.YticfhbffoajgcaaGreatDoor
open Go.RowKit

theorem ret_bool {a b : Bool} (h : a = b) : Ending.returned (.bool a) = .returned (.bool b) := by rw [h]
theorem empty_of (s : ByteArray) (h : s.size = 0) : s = ByteArray.empty := by
  obtain ⟨⟨l⟩⟩ := s
  have : l = [] := List.eq_nil_of_length_eq_zero h
  subst this; rfl
theorem isEmpty_no (s : ByteArray) (h : 0 < s.size) : s.toList.isEmpty = false := by
  rw [ByteArray.toList_eq]
  cases hl : s.data.toList with
  | nil => have h2 : s.data.toList.length = s.size := by simp
           rw [hl] at h2; simp at h2; omega
  | cons _ _ => rfl
theorem tf (b : Bool) : b = true ∨ b = false := by cases b <;> simp

set_option maxHeartbeats 400000 in
theorem ismag_any (s : ByteArray) (w : World) (hs : s.size ≤ maxLen) :
    Calls Tryz.prog 206 #[.string s] w fun e w' => e = .returned (.bool (magB s.data.toList)) ∧ w = w' := by
  unfold maxLen at hs
  by_cases h0 : s.size = 0
  · obtain rfl := empty_of s h0
    go_enter Tryz.func206, Tryz.ntmps206
    go_wp2
    go_ret
    exact ⟨rfl, rfl⟩
  · have hp : 0 < s.size := by omega
    have he : s.toList.isEmpty = false := isEmpty_no s hp
    by_cases hz : (s[0]'hp).toNat = 48 ∧ 1 < s.size
    · have hr := magB_zero s hz.2 hz.1
      rw [hr]
      have hA : (((s[0]'hp).toNat : Int) == 48) = true := by simp; omega
      have hB : (1 : Int) < s.size := by omega
      clear hr hz h0
      go_enter Tryz.func206, Tryz.ntmps206
      go_wp2
      go_ret
      exact ⟨rfl, rfl⟩
    · have hr : Hid (magB s.data.toList = allD s.data.toList) := magB_all s hp hz
      rw [hr.out]
      clear hr h0
      have hS : ((((s[0]'hp).toNat : Int) == 48) = true ∧ (s.size : Int) ≤ 1) ∨ ((((s[0]'hp).toNat : Int) == 48) = false ∧ (s.size : Int) ≤ 1) ∨ ((((s[0]'hp).toNat : Int) == 48) = false ∧ (1 : Int) < s.size) := by
        by_cases q : (s[0]'hp).toNat = 48
        · exact .inl ⟨by simp; omega, by omega⟩
        · by_cases q2 : 1 < s.size
          · exact .inr (.inr ⟨by simp; omega, by omega⟩)
          · exact .inr (.inl ⟨by simp; omega, by omega⟩)
      clear hz
      rcases hS with ⟨hA, hB⟩ | ⟨hA, hB⟩ | ⟨hA, hB⟩
      all_goals
        go_enter Tryz.func206, Tryz.ntmps206
        go_wp2
        go_loop [18] (fun i => ∃ k : Nat, k ≤ s.size ∧ i = .int .i64 k ∧ Hid (allD (s.data.toList.take k) = true)) (fun i => s.size - (intOf i).toNat)
        case atStart => exact ⟨0, Nat.zero_le _, rfl, rfl⟩
        case round =>
          obtain ⟨k, hk, rfl, hd⟩ := hrel
          by_cases hlt : k < s.size
          · by_cases hc : 48 ≤ s[k].toNat ∧ s[k].toNat ≤ 57
            · have hn : Hid (allD (s.data.toList.take (k + 1)) = true) := by
                have := allD_snoc (s.data.toList.take k) s[k]
                rw [← take_snoc s k hlt, hd.out] at this
                exact this.trans (by simp [hc.1, hc.2])
              have c1 : (48 : Int) ≤ (s[k].toNat : Int) := by omega
              have c2 : ¬ (57 : Int) < (s[k].toNat : Int) := by omega
              clear hd hc
              go_wp2
              all_goals first
                | (exfalso; omega)
                | (go_round
                   case rel => exact ⟨k + 1, by omega, by go_num, hn⟩
                   case measure => simp [intOf]; omega)
            · have hn : Hid (allD s.data.toList = false) := allD_no s k hlt hc
              have hc2 : (s[k].toNat : Int) < 48 ∨ ((48 : Int) ≤ (s[k].toNat : Int) ∧ (57 : Int) < (s[k].toNat : Int)) := by omega
              clear hd hc
              rcases hc2 with c1 | ⟨c1, c2⟩
              all_goals
                go_wp2
                all_goals (go_ret; exact ⟨ret_bool (by rw [hn.out]), rfl⟩)
          · have hall : Hid (allD s.data.toList = true) := by
              have := hd.out
              rw [List.take_of_length_le (by simp; omega)] at this
              exact this
            clear hd
            go_wp2
            go_ret
            exact ⟨ret_bool (by rw [hall.out]), rfl⟩

end Go.Proofs.YticfhbffoajgcaaGreatDoor
