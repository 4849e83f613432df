/- RxLwQ. -/
import Derived.Test.YtphiaagppcbefaaGreatDoorPk44
set_option linter.unusedVariables false
namespace Go.Proofs.YtphiaagppcbefaaGreatDoor
open Go.RowKit
instance (s : ByteArray) : Decidable (PlS s) := by unfold PlS; infer_instance
theorem or32 : ∀ x : Nat, x < 256 → ∃ c, bits .or .u8 (x : Int) 32 = ((c : Nat) : Int) ∧ c < 256 ∧ (plN x = true ↔ (c = 32 ∨ (97 ≤ c ∧ c ≤ 122)) ∨ (48 ≤ x ∧ x ≤ 57)) := by
  intro x hx
  have h : ∀ x : Nat, x < 256 → bits .or .u8 (x : Int) 32 = ((x ||| 32 : Nat) : Int) ∧ (x ||| 32) < 256 ∧ (plN x = true ↔ ((x ||| 32) = 32 ∨ (97 ≤ (x ||| 32) ∧ (x ||| 32) ≤ 122)) ∨ (48 ≤ x ∧ x ≤ 57)) := by decide +kernel
  exact ⟨x ||| 32, h x hx⟩
set_option maxRecDepth 100000 in
set_option maxHeartbeats 8000000 in
theorem plain_any (s : ByteArray) (hs : s.size ≤ 100000) (w : World) : Calls Tryz.prog 18 #[.string s] w fun e w' => e = .returned (.bool (decide (PlS s))) ∧ w' = w := by
  have hsi : (s.size : Int) ≤ 100000 := by omega
  go_enter Tryz.func18, Tryz.ntmps18
  go_wp2
  go_loopw [3] (fun i wr => ∃ k : Nat, k ≤ s.size ∧ i = .int .i64 k ∧ wr = w ∧ Hid (∀ j, j < k → plN (gb s j).toNat = true)) (fun i _ => s.size - (intOf i).toNat)
  case atStart => exact ⟨0, Nat.zero_le _, rfl, rfl, fun j h => by omega⟩
  case round =>
    obtain ⟨k, hk, rfl, rfl, HN⟩ := hrel
    by_cases hkn : k < s.size
    · have ki : (k : Int) < s.size := by omega
      have ki0 : (0 : Int) ≤ k := by omega
      have hg := gb_at s k hkn
      have hx := s[k].toNat_lt
      obtain ⟨c, hc, hc256, hiff⟩ := or32 s[k].toNat (by omega)
      have HGo : Hid (plN s[k].toNat = true → ∀ j, j < k + 1 → plN (gb s j).toNat = true) := Lib.hid fun hp j hj => by
        by_cases hjk : j < k
        · exact HN.out j hjk
        · obtain rfl : j = k := by omega
          rw [hg]
          exact hp
      have HNo : Hid (¬ plN s[k].toNat = true → decide (PlS s) = false) := Lib.hid fun hp => decide_eq_false fun h => hp (by have := h k hkn; rw [hg] at this; exact this)
      clear hg
      by_cases h1 : c = 32
      · have q1 : (c : Int) = 32 := by omega
        have r1 : ((c : Int) == 32) = true := by simpa using q1
        have t1 : ((c : Int) != 32) = false := by simpa using q1
        have HK := Lib.hid (HGo.out (hiff.2 (by omega)))
        clear hiff HGo HNo h1
        go_wp2
        go_roundw
        case rel => exact ⟨k + 1, by omega, by go_num, by first | rfl | trivial, HK.out⟩
        case measure => simp [intOf]; omega
      · have q1 : ¬ (c : Int) = 32 := by omega
        have r1 : ((c : Int) == 32) = false := by simpa using q1
        have t1 : ((c : Int) != 32) = true := by simpa using q1
        by_cases h2 : c < 97
        · by_cases h4 : s[k].toNat < 48
          · have d1 : ((c : Int) < 97) := by omega
            have e1 : decide ((c : Int) < 97) = true := decide_eq_true d1
            have d7 : ((s[k].toNat : Int) < 48) := by omega
            have e7 : decide ((s[k].toNat : Int) < 48) = true := decide_eq_true d7
            have HF := Lib.hid (HNo.out (fun h => by have := hiff.1 h; omega))
            clear hiff HGo HNo
            go_wp2
            go_ret
            exact ⟨by rw [HF.out] <;> rfl, rfl⟩
          · by_cases h5 : 57 < s[k].toNat
            · have d1 : ((c : Int) < 97) := by omega
              have e1 : decide ((c : Int) < 97) = true := decide_eq_true d1
              have d7 : ¬ ((s[k].toNat : Int) < 48) := by omega
              have e7 : decide ((s[k].toNat : Int) < 48) = false := decide_eq_false d7
              have d8 : ((57 : Int) < (s[k].toNat : Int)) := by omega
              have e8 : decide ((57 : Int) < (s[k].toNat : Int)) = true := decide_eq_true d8
              have HF := Lib.hid (HNo.out (fun h => by have := hiff.1 h; omega))
              clear hiff HGo HNo
              go_wp2
              go_ret
              exact ⟨by rw [HF.out] <;> rfl, rfl⟩
            · have d1 : ((c : Int) < 97) := by omega
              have e1 : decide ((c : Int) < 97) = true := decide_eq_true d1
              have d7 : ¬ ((s[k].toNat : Int) < 48) := by omega
              have e7 : decide ((s[k].toNat : Int) < 48) = false := decide_eq_false d7
              have d8 : ¬ ((57 : Int) < (s[k].toNat : Int)) := by omega
              have e8 : decide ((57 : Int) < (s[k].toNat : Int)) = false := decide_eq_false d8
              have HK := Lib.hid (HGo.out (hiff.2 (by omega)))
              clear hiff HGo HNo
              go_wp2
              go_roundw
              case rel => exact ⟨k + 1, by omega, by go_num, by first | rfl | trivial, HK.out⟩
              case measure => simp [intOf]; omega
        · by_cases h3 : 122 < c
          · by_cases h4 : s[k].toNat < 48
            · have d1 : ¬ ((c : Int) < 97) := by omega
              have e1 : decide ((c : Int) < 97) = false := decide_eq_false d1
              have d2 : ((122 : Int) < (c : Int)) := by omega
              have e2 : decide ((122 : Int) < (c : Int)) = true := decide_eq_true d2
              have d7 : ((s[k].toNat : Int) < 48) := by omega
              have e7 : decide ((s[k].toNat : Int) < 48) = true := decide_eq_true d7
              have HF := Lib.hid (HNo.out (fun h => by have := hiff.1 h; omega))
              clear hiff HGo HNo
              go_wp2
              go_ret
              exact ⟨by rw [HF.out] <;> rfl, rfl⟩
            · by_cases h5 : 57 < s[k].toNat
              · have d1 : ¬ ((c : Int) < 97) := by omega
                have e1 : decide ((c : Int) < 97) = false := decide_eq_false d1
                have d2 : ((122 : Int) < (c : Int)) := by omega
                have e2 : decide ((122 : Int) < (c : Int)) = true := decide_eq_true d2
                have d7 : ¬ ((s[k].toNat : Int) < 48) := by omega
                have e7 : decide ((s[k].toNat : Int) < 48) = false := decide_eq_false d7
                have d8 : ((57 : Int) < (s[k].toNat : Int)) := by omega
                have e8 : decide ((57 : Int) < (s[k].toNat : Int)) = true := decide_eq_true d8
                have HF := Lib.hid (HNo.out (fun h => by have := hiff.1 h; omega))
                clear hiff HGo HNo
                go_wp2
                go_ret
                exact ⟨by rw [HF.out] <;> rfl, rfl⟩
              · have d1 : ¬ ((c : Int) < 97) := by omega
                have e1 : decide ((c : Int) < 97) = false := decide_eq_false d1
                have d2 : ((122 : Int) < (c : Int)) := by omega
                have e2 : decide ((122 : Int) < (c : Int)) = true := decide_eq_true d2
                have d7 : ¬ ((s[k].toNat : Int) < 48) := by omega
                have e7 : decide ((s[k].toNat : Int) < 48) = false := decide_eq_false d7
                have d8 : ¬ ((57 : Int) < (s[k].toNat : Int)) := by omega
                have e8 : decide ((57 : Int) < (s[k].toNat : Int)) = false := decide_eq_false d8
                have HK := Lib.hid (HGo.out (hiff.2 (by omega)))
                clear hiff HGo HNo
                go_wp2
                go_roundw
                case rel => exact ⟨k + 1, by omega, by go_num, by first | rfl | trivial, HK.out⟩
                case measure => simp [intOf]; omega
          · have d1 : ¬ ((c : Int) < 97) := by omega
            have e1 : decide ((c : Int) < 97) = false := decide_eq_false d1
            have d2 : ¬ ((122 : Int) < (c : Int)) := by omega
            have e2 : decide ((122 : Int) < (c : Int)) = false := decide_eq_false d2
            have HK := Lib.hid (HGo.out (hiff.2 (by omega)))
            clear hiff HGo HNo
            go_wp2
            go_roundw
            case rel => exact ⟨k + 1, by omega, by go_num, by first | rfl | trivial, HK.out⟩
            case measure => simp [intOf]; omega
    · obtain rfl : k = s.size := by omega
      have HF := Lib.hid (decide_eq_true (show PlS s from HN.out))
      go_wp2
      go_ret
      exact ⟨by rw [HF.out] <;> rfl, rfl⟩
end Go.Proofs.YtphiaagppcbefaaGreatDoor
