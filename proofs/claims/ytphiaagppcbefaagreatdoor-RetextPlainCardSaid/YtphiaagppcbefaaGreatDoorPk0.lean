/- LcSmall. -/
import Derived.Test.YtphiaagppcbefaaGreatDoorRows
import Derived.WalkKit
import Derived.WalkSpells
import Derived.WalkLawsBesides
import Derived.BigGuardPart
import Derived.BigQuiet
import Derived.Lib.Hide
import Derived.Below
import Derived.IntWalk
set_option linter.unusedVariables false
namespace Go.Proofs.YtphiaagppcbefaaGreatDoor
open Go.RowKit
def nmC (c : Nat) : Bool := (decide (97 ≤ c) && decide (c ≤ 122)) || (decide (65 ≤ c) && decide (c ≤ 90)) || (decide (48 ≤ c) && decide (c ≤ 57)) || (c == 95)
def nmL (l : List UInt8) : Bool := match l with
  | [] => false
  | b :: r => decide ((b :: r).length ≤ 32) && !(decide (48 ≤ b.toNat) && decide (b.toNat ≤ 57)) && (b :: r).all fun c => nmC c.toNat
def nmB (s : ByteArray) : Bool := nmL s.data.toList
theorem nmB_empty (s : ByteArray) (h : s.size = 0) : nmB s = false := by
  have h2 : s.data.toList.length = 0 := by simpa using h
  unfold nmB
  rw [List.eq_nil_of_length_eq_zero h2]
  rfl
theorem nmL_cons (l : List UInt8) (h : 0 < l.length) : nmL l = (decide (l.length ≤ 32) && !(decide (48 ≤ (l[0]).toNat) && decide ((l[0]).toNat ≤ 57)) && l.all fun c => nmC c.toNat) := by
  cases l with
  | nil => simp at h
  | cons b r => rfl
theorem nmB_cons (s : ByteArray) (h : 0 < s.size) : nmB s = (decide (s.size ≤ 32) && !(decide (48 ≤ s[0].toNat) && decide (s[0].toNat ≤ 57)) && s.data.toList.all fun c => nmC c.toNat) := by
  have h2 : s.data.toList.length = s.size := by simp
  have := nmL_cons s.data.toList (by omega)
  have e : decide (s.data.toList.length ≤ 32) = decide (s.size ≤ 32) := by rw [h2]
  unfold nmB
  rw [this, e]
  rfl
theorem light_any (n : Int) (w : World) : Calls Tryz.prog 79 #[.int .i64 n] w fun e w' => e = .returned (.bool (decide (0 ≤ n) && decide (n ≤ 65535))) ∧ w = w' := by
  by_cases h1 : 0 ≤ n
  · by_cases h2 : n ≤ 65535
    all_goals
      go_enter Tryz.func79, Tryz.ntmps79
      go_wp2
      go_ret
      exact ⟨by simp [h1, h2], rfl⟩
  · go_enter Tryz.func79, Tryz.ntmps79
    go_wp2
    go_ret
    exact ⟨by simp; omega, rfl⟩
theorem all_take (l : List UInt8) (k : Nat) (h : k < l.length) (ha : (l.take k).all (fun c => nmC c.toNat) = true) : (l.take (k + 1)).all (fun c => nmC c.toNat) = nmC (l[k]).toNat := by
  rw [List.take_add_one, List.getElem?_eq_getElem h, List.all_append, ha]
  simp
theorem all_not (l : List UInt8) (k : Nat) (h : k < l.length) (hn : nmC (l[k]).toNat = false) : l.all (fun c => nmC c.toNat) = false := by
  apply Bool.eq_false_iff.2
  intro ha
  have := (List.all_eq_true.1 ha) l[k] (List.getElem_mem h)
  rw [hn] at this
  cases this
set_option maxHeartbeats 4000000 in
theorem isName_any (s : ByteArray) (w : World) : Calls Tryz.prog 78 #[.string s] w fun e w' => e = .returned (.bool (nmB s)) ∧ w = w' := by
  by_cases h0 : s.size = 0
  · rw [nmB_empty s h0]
    go_enter Tryz.func78, Tryz.ntmps78
    go_wp2
    go_ret
    exact ⟨rfl, rfl⟩
  have hpos : 0 < s.size := by omega
  obtain ⟨R, hR⟩ : ∃ R, R = nmB s := ⟨_, rfl⟩
  have hN := nmB_cons s hpos
  rw [← hR] at hN ⊢
  have e0 : ((s.size : Int) == 0) = false := by rw [beq_eq_false_iff_ne]; omega
  by_cases h32 : s.size ≤ 32
  · have i32 : ¬ (32 : Int) < s.size := by omega
    by_cases hd : 48 ≤ s[0].toNat ∧ s[0].toNat ≤ 57
    · obtain ⟨c, hc⟩ : ∃ c, s[0].toNat = c := ⟨_, rfl⟩
      rw [hc] at hd hN
      have hRf : R = false := by rw [hN]; simp [hd.1, hd.2]
      have d1 : decide (48 ≤ c) = true := decide_eq_true hd.1
      have d2 : decide (c ≤ 57) = true := decide_eq_true hd.2
      have j1 : (48 : Int) ≤ c := by omega
      have j2 : (c : Int) ≤ 57 := by omega
      clear hN hR
      subst hRf
      go_enter Tryz.func78, Tryz.ntmps78
      go_wp2
      go_ret
      exact ⟨rfl, rfl⟩
    · obtain ⟨c0, hc0⟩ : ∃ c, s[0].toNat = c := ⟨_, rfl⟩
      rw [hc0] at hd hN
      have hRa : R = s.data.toList.all fun c => nmC c.toNat := by
        rw [hN, decide_eq_true h32]
        have : (decide (48 ≤ c0) && decide (c0 ≤ 57)) = false := by
          apply Bool.eq_false_iff.2
          intro h
          simp at h
          exact hd h
        rw [this]
        simp
      have HR := Lib.hid hRa
      clear hN hR hRa
      have hcut : (¬ 48 ≤ c0) ∨ (48 ≤ c0 ∧ ¬ c0 ≤ 57) := by omega
      have hsz : (s.size : Int) ≤ 32 := by omega
      rcases hcut with hc1 | ⟨hc1, hc2⟩
      · have d1 : decide (48 ≤ c0) = false := decide_eq_false hc1
        have j1 : ¬ (48 : Int) ≤ c0 := by omega
        clear hc1 hd
        go_enter Tryz.func78, Tryz.ntmps78
        go_wp2
        go_loopw [3] (fun i wr => ∃ k : Nat, k ≤ s.size ∧ i = .int .i64 k ∧ Hid ((s.data.toList.take k).all (fun c => nmC c.toNat) = true) ∧ wr = w) (fun i _ => s.size - (intOf i).toNat)
        case atStart => exact ⟨0, Nat.zero_le _, rfl, rfl, rfl⟩
        case round =>
          obtain ⟨k, hk, rfl, HA, rfl⟩ := hrel
          by_cases hlt : k < s.size
          · have hi : (k : Int) < s.size := by omega
            obtain ⟨c, hc⟩ : ∃ c, s[k].toNat = c := ⟨_, rfl⟩
            have hkl : k < s.data.toList.length := by simpa using hlt
            have hlist : (s.data.toList[k]).toNat = c := hc
            have HT := Lib.hid (all_take s.data.toList k hkl HA.out)
            have HF := Lib.hid (all_not s.data.toList k hkl)
            rw [hlist] at HT HF
            clear hlist hkl
            have hiv : c < 48 ∨ (48 ≤ c ∧ c ≤ 57) ∨ (58 ≤ c ∧ c ≤ 64) ∨ (65 ≤ c ∧ c ≤ 90) ∨ (91 ≤ c ∧ c ≤ 94) ∨ c = 95 ∨ c = 96 ∨ (97 ≤ c ∧ c ≤ 122) ∨ 122 < c := by omega
            rcases hiv with hv | hv | hv | hv | hv | hv | hv | hv | hv
            · have k0 : decide (97 ≤ c) = false := decide_eq_false (by omega)
              have k1 : decide (c ≤ 122) = true := decide_eq_true (by omega)
              have k2 : decide (65 ≤ c) = false := decide_eq_false (by omega)
              have k3 : decide (c ≤ 90) = true := decide_eq_true (by omega)
              have k4 : decide (48 ≤ c) = false := decide_eq_false (by omega)
              have k5 : decide (c ≤ 57) = true := decide_eq_true (by omega)
              have k6 : (c == 95) = false := by rw [beq_eq_false_iff_ne]; omega
              have j0 : ¬ (97 : Int) ≤ c := by omega
              have j1 : (c : Int) ≤ 122 := by omega
              have j2 : ¬ (65 : Int) ≤ c := by omega
              have j3 : (c : Int) ≤ 90 := by omega
              have j4 : ¬ (48 : Int) ≤ c := by omega
              have j5 : (c : Int) ≤ 57 := by omega
              have j6 : ((c : Int) == 95) = false := by rw [beq_eq_false_iff_ne]; omega
              have hn : nmC c = false := by unfold nmC; rw [k0, k1, k2, k3, k4, k5, k6]; rfl
              clear hv
              have HN : Hid (R = false) := HR.out.trans (HF.out hn)
              clear hn
              go_wp2
              go_ret
              exact ⟨by rw [HN.out]; rfl, rfl⟩
            · have k0 : decide (97 ≤ c) = false := decide_eq_false (by omega)
              have k1 : decide (c ≤ 122) = true := decide_eq_true (by omega)
              have k2 : decide (65 ≤ c) = false := decide_eq_false (by omega)
              have k3 : decide (c ≤ 90) = true := decide_eq_true (by omega)
              have k4 : decide (48 ≤ c) = true := decide_eq_true (by omega)
              have k5 : decide (c ≤ 57) = true := decide_eq_true (by omega)
              have k6 : (c == 95) = false := by rw [beq_eq_false_iff_ne]; omega
              have j0 : ¬ (97 : Int) ≤ c := by omega
              have j1 : (c : Int) ≤ 122 := by omega
              have j2 : ¬ (65 : Int) ≤ c := by omega
              have j3 : (c : Int) ≤ 90 := by omega
              have j4 : (48 : Int) ≤ c := by omega
              have j5 : (c : Int) ≤ 57 := by omega
              have j6 : ((c : Int) == 95) = false := by rw [beq_eq_false_iff_ne]; omega
              have hn : nmC c = true := by unfold nmC; rw [k0, k1, k2, k3, k4, k5, k6]; rfl
              clear hv
              have HN : Hid ((s.data.toList.take (k + 1)).all (fun c => nmC c.toNat) = true) := HT.out.trans hn
              clear hn
              go_wp2
              go_roundw
              case rel => exact ⟨k + 1, by omega, by go_num, HN.out, trivial⟩
              case measure => simp [intOf]; omega
            · have k0 : decide (97 ≤ c) = false := decide_eq_false (by omega)
              have k1 : decide (c ≤ 122) = true := decide_eq_true (by omega)
              have k2 : decide (65 ≤ c) = false := decide_eq_false (by omega)
              have k3 : decide (c ≤ 90) = true := decide_eq_true (by omega)
              have k4 : decide (48 ≤ c) = true := decide_eq_true (by omega)
              have k5 : decide (c ≤ 57) = false := decide_eq_false (by omega)
              have k6 : (c == 95) = false := by rw [beq_eq_false_iff_ne]; omega
              have j0 : ¬ (97 : Int) ≤ c := by omega
              have j1 : (c : Int) ≤ 122 := by omega
              have j2 : ¬ (65 : Int) ≤ c := by omega
              have j3 : (c : Int) ≤ 90 := by omega
              have j4 : (48 : Int) ≤ c := by omega
              have j5 : ¬ (c : Int) ≤ 57 := by omega
              have j6 : ((c : Int) == 95) = false := by rw [beq_eq_false_iff_ne]; omega
              have hn : nmC c = false := by unfold nmC; rw [k0, k1, k2, k3, k4, k5, k6]; rfl
              clear hv
              have HN : Hid (R = false) := HR.out.trans (HF.out hn)
              clear hn
              go_wp2
              go_ret
              exact ⟨by rw [HN.out]; rfl, rfl⟩
            · have k0 : decide (97 ≤ c) = false := decide_eq_false (by omega)
              have k1 : decide (c ≤ 122) = true := decide_eq_true (by omega)
              have k2 : decide (65 ≤ c) = true := decide_eq_true (by omega)
              have k3 : decide (c ≤ 90) = true := decide_eq_true (by omega)
              have k4 : decide (48 ≤ c) = true := decide_eq_true (by omega)
              have k5 : decide (c ≤ 57) = false := decide_eq_false (by omega)
              have k6 : (c == 95) = false := by rw [beq_eq_false_iff_ne]; omega
              have j0 : ¬ (97 : Int) ≤ c := by omega
              have j1 : (c : Int) ≤ 122 := by omega
              have j2 : (65 : Int) ≤ c := by omega
              have j3 : (c : Int) ≤ 90 := by omega
              have j4 : (48 : Int) ≤ c := by omega
              have j5 : ¬ (c : Int) ≤ 57 := by omega
              have j6 : ((c : Int) == 95) = false := by rw [beq_eq_false_iff_ne]; omega
              have hn : nmC c = true := by unfold nmC; rw [k0, k1, k2, k3, k4, k5, k6]; rfl
              clear hv
              have HN : Hid ((s.data.toList.take (k + 1)).all (fun c => nmC c.toNat) = true) := HT.out.trans hn
              clear hn
              go_wp2
              go_roundw
              case rel => exact ⟨k + 1, by omega, by go_num, HN.out, trivial⟩
              case measure => simp [intOf]; omega
            · have k0 : decide (97 ≤ c) = false := decide_eq_false (by omega)
              have k1 : decide (c ≤ 122) = true := decide_eq_true (by omega)
              have k2 : decide (65 ≤ c) = true := decide_eq_true (by omega)
              have k3 : decide (c ≤ 90) = false := decide_eq_false (by omega)
              have k4 : decide (48 ≤ c) = true := decide_eq_true (by omega)
              have k5 : decide (c ≤ 57) = false := decide_eq_false (by omega)
              have k6 : (c == 95) = false := by rw [beq_eq_false_iff_ne]; omega
              have j0 : ¬ (97 : Int) ≤ c := by omega
              have j1 : (c : Int) ≤ 122 := by omega
              have j2 : (65 : Int) ≤ c := by omega
              have j3 : ¬ (c : Int) ≤ 90 := by omega
              have j4 : (48 : Int) ≤ c := by omega
              have j5 : ¬ (c : Int) ≤ 57 := by omega
              have j6 : ((c : Int) == 95) = false := by rw [beq_eq_false_iff_ne]; omega
              have hn : nmC c = false := by unfold nmC; rw [k0, k1, k2, k3, k4, k5, k6]; rfl
              clear hv
              have HN : Hid (R = false) := HR.out.trans (HF.out hn)
              clear hn
              go_wp2
              go_ret
              exact ⟨by rw [HN.out]; rfl, rfl⟩
            · have k0 : decide (97 ≤ c) = false := decide_eq_false (by omega)
              have k1 : decide (c ≤ 122) = true := decide_eq_true (by omega)
              have k2 : decide (65 ≤ c) = true := decide_eq_true (by omega)
              have k3 : decide (c ≤ 90) = false := decide_eq_false (by omega)
              have k4 : decide (48 ≤ c) = true := decide_eq_true (by omega)
              have k5 : decide (c ≤ 57) = false := decide_eq_false (by omega)
              have k6 : (c == 95) = true := by rw [beq_iff_eq]; omega
              have j0 : ¬ (97 : Int) ≤ c := by omega
              have j1 : (c : Int) ≤ 122 := by omega
              have j2 : (65 : Int) ≤ c := by omega
              have j3 : ¬ (c : Int) ≤ 90 := by omega
              have j4 : (48 : Int) ≤ c := by omega
              have j5 : ¬ (c : Int) ≤ 57 := by omega
              have j6 : ((c : Int) == 95) = true := by rw [beq_iff_eq]; omega
              have hn : nmC c = true := by unfold nmC; rw [k0, k1, k2, k3, k4, k5, k6]; rfl
              clear hv
              have HN : Hid ((s.data.toList.take (k + 1)).all (fun c => nmC c.toNat) = true) := HT.out.trans hn
              clear hn
              go_wp2
              go_roundw
              case rel => exact ⟨k + 1, by omega, by go_num, HN.out, trivial⟩
              case measure => simp [intOf]; omega
            · have k0 : decide (97 ≤ c) = false := decide_eq_false (by omega)
              have k1 : decide (c ≤ 122) = true := decide_eq_true (by omega)
              have k2 : decide (65 ≤ c) = true := decide_eq_true (by omega)
              have k3 : decide (c ≤ 90) = false := decide_eq_false (by omega)
              have k4 : decide (48 ≤ c) = true := decide_eq_true (by omega)
              have k5 : decide (c ≤ 57) = false := decide_eq_false (by omega)
              have k6 : (c == 95) = false := by rw [beq_eq_false_iff_ne]; omega
              have j0 : ¬ (97 : Int) ≤ c := by omega
              have j1 : (c : Int) ≤ 122 := by omega
              have j2 : (65 : Int) ≤ c := by omega
              have j3 : ¬ (c : Int) ≤ 90 := by omega
              have j4 : (48 : Int) ≤ c := by omega
              have j5 : ¬ (c : Int) ≤ 57 := by omega
              have j6 : ((c : Int) == 95) = false := by rw [beq_eq_false_iff_ne]; omega
              have hn : nmC c = false := by unfold nmC; rw [k0, k1, k2, k3, k4, k5, k6]; rfl
              clear hv
              have HN : Hid (R = false) := HR.out.trans (HF.out hn)
              clear hn
              go_wp2
              go_ret
              exact ⟨by rw [HN.out]; rfl, rfl⟩
            · have k0 : decide (97 ≤ c) = true := decide_eq_true (by omega)
              have k1 : decide (c ≤ 122) = true := decide_eq_true (by omega)
              have k2 : decide (65 ≤ c) = true := decide_eq_true (by omega)
              have k3 : decide (c ≤ 90) = false := decide_eq_false (by omega)
              have k4 : decide (48 ≤ c) = true := decide_eq_true (by omega)
              have k5 : decide (c ≤ 57) = false := decide_eq_false (by omega)
              have k6 : (c == 95) = false := by rw [beq_eq_false_iff_ne]; omega
              have j0 : (97 : Int) ≤ c := by omega
              have j1 : (c : Int) ≤ 122 := by omega
              have j2 : (65 : Int) ≤ c := by omega
              have j3 : ¬ (c : Int) ≤ 90 := by omega
              have j4 : (48 : Int) ≤ c := by omega
              have j5 : ¬ (c : Int) ≤ 57 := by omega
              have j6 : ((c : Int) == 95) = false := by rw [beq_eq_false_iff_ne]; omega
              have hn : nmC c = true := by unfold nmC; rw [k0, k1, k2, k3, k4, k5, k6]; rfl
              clear hv
              have HN : Hid ((s.data.toList.take (k + 1)).all (fun c => nmC c.toNat) = true) := HT.out.trans hn
              clear hn
              go_wp2
              go_roundw
              case rel => exact ⟨k + 1, by omega, by go_num, HN.out, trivial⟩
              case measure => simp [intOf]; omega
            · have k0 : decide (97 ≤ c) = true := decide_eq_true (by omega)
              have k1 : decide (c ≤ 122) = false := decide_eq_false (by omega)
              have k2 : decide (65 ≤ c) = true := decide_eq_true (by omega)
              have k3 : decide (c ≤ 90) = false := decide_eq_false (by omega)
              have k4 : decide (48 ≤ c) = true := decide_eq_true (by omega)
              have k5 : decide (c ≤ 57) = false := decide_eq_false (by omega)
              have k6 : (c == 95) = false := by rw [beq_eq_false_iff_ne]; omega
              have j0 : (97 : Int) ≤ c := by omega
              have j1 : ¬ (c : Int) ≤ 122 := by omega
              have j2 : (65 : Int) ≤ c := by omega
              have j3 : ¬ (c : Int) ≤ 90 := by omega
              have j4 : (48 : Int) ≤ c := by omega
              have j5 : ¬ (c : Int) ≤ 57 := by omega
              have j6 : ((c : Int) == 95) = false := by rw [beq_eq_false_iff_ne]; omega
              have hn : nmC c = false := by unfold nmC; rw [k0, k1, k2, k3, k4, k5, k6]; rfl
              clear hv
              have HN : Hid (R = false) := HR.out.trans (HF.out hn)
              clear hn
              go_wp2
              go_ret
              exact ⟨by rw [HN.out]; rfl, rfl⟩
          · obtain rfl : k = s.size := by omega
            have HN : Hid (R = true) := by
              have := HA.out
              rw [List.take_of_length_le (by simp)] at this
              exact HR.out.trans this
            go_wp2
            go_ret
            exact ⟨by rw [HN.out]; rfl, rfl⟩
      · have d1 : decide (48 ≤ c0) = true := decide_eq_true hc1
        have d2 : decide (c0 ≤ 57) = false := decide_eq_false hc2
        have j1 : (48 : Int) ≤ c0 := by omega
        have j2 : ¬ (c0 : Int) ≤ 57 := by omega
        clear hc1 hc2 hd
        go_enter Tryz.func78, Tryz.ntmps78
        go_wp2
        go_loopw [3] (fun i wr => ∃ k : Nat, k ≤ s.size ∧ i = .int .i64 k ∧ Hid ((s.data.toList.take k).all (fun c => nmC c.toNat) = true) ∧ wr = w) (fun i _ => s.size - (intOf i).toNat)
        case atStart => exact ⟨0, Nat.zero_le _, rfl, rfl, rfl⟩
        case round =>
          obtain ⟨k, hk, rfl, HA, rfl⟩ := hrel
          by_cases hlt : k < s.size
          · have hi : (k : Int) < s.size := by omega
            obtain ⟨c, hc⟩ : ∃ c, s[k].toNat = c := ⟨_, rfl⟩
            have hkl : k < s.data.toList.length := by simpa using hlt
            have hlist : (s.data.toList[k]).toNat = c := hc
            have HT := Lib.hid (all_take s.data.toList k hkl HA.out)
            have HF := Lib.hid (all_not s.data.toList k hkl)
            rw [hlist] at HT HF
            clear hlist hkl
            have hiv : c < 48 ∨ (48 ≤ c ∧ c ≤ 57) ∨ (58 ≤ c ∧ c ≤ 64) ∨ (65 ≤ c ∧ c ≤ 90) ∨ (91 ≤ c ∧ c ≤ 94) ∨ c = 95 ∨ c = 96 ∨ (97 ≤ c ∧ c ≤ 122) ∨ 122 < c := by omega
            rcases hiv with hv | hv | hv | hv | hv | hv | hv | hv | hv
            · have k0 : decide (97 ≤ c) = false := decide_eq_false (by omega)
              have k1 : decide (c ≤ 122) = true := decide_eq_true (by omega)
              have k2 : decide (65 ≤ c) = false := decide_eq_false (by omega)
              have k3 : decide (c ≤ 90) = true := decide_eq_true (by omega)
              have k4 : decide (48 ≤ c) = false := decide_eq_false (by omega)
              have k5 : decide (c ≤ 57) = true := decide_eq_true (by omega)
              have k6 : (c == 95) = false := by rw [beq_eq_false_iff_ne]; omega
              have j0 : ¬ (97 : Int) ≤ c := by omega
              have j1 : (c : Int) ≤ 122 := by omega
              have j2 : ¬ (65 : Int) ≤ c := by omega
              have j3 : (c : Int) ≤ 90 := by omega
              have j4 : ¬ (48 : Int) ≤ c := by omega
              have j5 : (c : Int) ≤ 57 := by omega
              have j6 : ((c : Int) == 95) = false := by rw [beq_eq_false_iff_ne]; omega
              have hn : nmC c = false := by unfold nmC; rw [k0, k1, k2, k3, k4, k5, k6]; rfl
              clear hv
              have HN : Hid (R = false) := HR.out.trans (HF.out hn)
              clear hn
              go_wp2
              go_ret
              exact ⟨by rw [HN.out]; rfl, rfl⟩
            · have k0 : decide (97 ≤ c) = false := decide_eq_false (by omega)
              have k1 : decide (c ≤ 122) = true := decide_eq_true (by omega)
              have k2 : decide (65 ≤ c) = false := decide_eq_false (by omega)
              have k3 : decide (c ≤ 90) = true := decide_eq_true (by omega)
              have k4 : decide (48 ≤ c) = true := decide_eq_true (by omega)
              have k5 : decide (c ≤ 57) = true := decide_eq_true (by omega)
              have k6 : (c == 95) = false := by rw [beq_eq_false_iff_ne]; omega
              have j0 : ¬ (97 : Int) ≤ c := by omega
              have j1 : (c : Int) ≤ 122 := by omega
              have j2 : ¬ (65 : Int) ≤ c := by omega
              have j3 : (c : Int) ≤ 90 := by omega
              have j4 : (48 : Int) ≤ c := by omega
              have j5 : (c : Int) ≤ 57 := by omega
              have j6 : ((c : Int) == 95) = false := by rw [beq_eq_false_iff_ne]; omega
              have hn : nmC c = true := by unfold nmC; rw [k0, k1, k2, k3, k4, k5, k6]; rfl
              clear hv
              have HN : Hid ((s.data.toList.take (k + 1)).all (fun c => nmC c.toNat) = true) := HT.out.trans hn
              clear hn
              go_wp2
              go_roundw
              case rel => exact ⟨k + 1, by omega, by go_num, HN.out, trivial⟩
              case measure => simp [intOf]; omega
            · have k0 : decide (97 ≤ c) = false := decide_eq_false (by omega)
              have k1 : decide (c ≤ 122) = true := decide_eq_true (by omega)
              have k2 : decide (65 ≤ c) = false := decide_eq_false (by omega)
              have k3 : decide (c ≤ 90) = true := decide_eq_true (by omega)
              have k4 : decide (48 ≤ c) = true := decide_eq_true (by omega)
              have k5 : decide (c ≤ 57) = false := decide_eq_false (by omega)
              have k6 : (c == 95) = false := by rw [beq_eq_false_iff_ne]; omega
              have j0 : ¬ (97 : Int) ≤ c := by omega
              have j1 : (c : Int) ≤ 122 := by omega
              have j2 : ¬ (65 : Int) ≤ c := by omega
              have j3 : (c : Int) ≤ 90 := by omega
              have j4 : (48 : Int) ≤ c := by omega
              have j5 : ¬ (c : Int) ≤ 57 := by omega
              have j6 : ((c : Int) == 95) = false := by rw [beq_eq_false_iff_ne]; omega
              have hn : nmC c = false := by unfold nmC; rw [k0, k1, k2, k3, k4, k5, k6]; rfl
              clear hv
              have HN : Hid (R = false) := HR.out.trans (HF.out hn)
              clear hn
              go_wp2
              go_ret
              exact ⟨by rw [HN.out]; rfl, rfl⟩
            · have k0 : decide (97 ≤ c) = false := decide_eq_false (by omega)
              have k1 : decide (c ≤ 122) = true := decide_eq_true (by omega)
              have k2 : decide (65 ≤ c) = true := decide_eq_true (by omega)
              have k3 : decide (c ≤ 90) = true := decide_eq_true (by omega)
              have k4 : decide (48 ≤ c) = true := decide_eq_true (by omega)
              have k5 : decide (c ≤ 57) = false := decide_eq_false (by omega)
              have k6 : (c == 95) = false := by rw [beq_eq_false_iff_ne]; omega
              have j0 : ¬ (97 : Int) ≤ c := by omega
              have j1 : (c : Int) ≤ 122 := by omega
              have j2 : (65 : Int) ≤ c := by omega
              have j3 : (c : Int) ≤ 90 := by omega
              have j4 : (48 : Int) ≤ c := by omega
              have j5 : ¬ (c : Int) ≤ 57 := by omega
              have j6 : ((c : Int) == 95) = false := by rw [beq_eq_false_iff_ne]; omega
              have hn : nmC c = true := by unfold nmC; rw [k0, k1, k2, k3, k4, k5, k6]; rfl
              clear hv
              have HN : Hid ((s.data.toList.take (k + 1)).all (fun c => nmC c.toNat) = true) := HT.out.trans hn
              clear hn
              go_wp2
              go_roundw
              case rel => exact ⟨k + 1, by omega, by go_num, HN.out, trivial⟩
              case measure => simp [intOf]; omega
            · have k0 : decide (97 ≤ c) = false := decide_eq_false (by omega)
              have k1 : decide (c ≤ 122) = true := decide_eq_true (by omega)
              have k2 : decide (65 ≤ c) = true := decide_eq_true (by omega)
              have k3 : decide (c ≤ 90) = false := decide_eq_false (by omega)
              have k4 : decide (48 ≤ c) = true := decide_eq_true (by omega)
              have k5 : decide (c ≤ 57) = false := decide_eq_false (by omega)
              have k6 : (c == 95) = false := by rw [beq_eq_false_iff_ne]; omega
              have j0 : ¬ (97 : Int) ≤ c := by omega
              have j1 : (c : Int) ≤ 122 := by omega
              have j2 : (65 : Int) ≤ c := by omega
              have j3 : ¬ (c : Int) ≤ 90 := by omega
              have j4 : (48 : Int) ≤ c := by omega
              have j5 : ¬ (c : Int) ≤ 57 := by omega
              have j6 : ((c : Int) == 95) = false := by rw [beq_eq_false_iff_ne]; omega
              have hn : nmC c = false := by unfold nmC; rw [k0, k1, k2, k3, k4, k5, k6]; rfl
              clear hv
              have HN : Hid (R = false) := HR.out.trans (HF.out hn)
              clear hn
              go_wp2
              go_ret
              exact ⟨by rw [HN.out]; rfl, rfl⟩
            · have k0 : decide (97 ≤ c) = false := decide_eq_false (by omega)
              have k1 : decide (c ≤ 122) = true := decide_eq_true (by omega)
              have k2 : decide (65 ≤ c) = true := decide_eq_true (by omega)
              have k3 : decide (c ≤ 90) = false := decide_eq_false (by omega)
              have k4 : decide (48 ≤ c) = true := decide_eq_true (by omega)
              have k5 : decide (c ≤ 57) = false := decide_eq_false (by omega)
              have k6 : (c == 95) = true := by rw [beq_iff_eq]; omega
              have j0 : ¬ (97 : Int) ≤ c := by omega
              have j1 : (c : Int) ≤ 122 := by omega
              have j2 : (65 : Int) ≤ c := by omega
              have j3 : ¬ (c : Int) ≤ 90 := by omega
              have j4 : (48 : Int) ≤ c := by omega
              have j5 : ¬ (c : Int) ≤ 57 := by omega
              have j6 : ((c : Int) == 95) = true := by rw [beq_iff_eq]; omega
              have hn : nmC c = true := by unfold nmC; rw [k0, k1, k2, k3, k4, k5, k6]; rfl
              clear hv
              have HN : Hid ((s.data.toList.take (k + 1)).all (fun c => nmC c.toNat) = true) := HT.out.trans hn
              clear hn
              go_wp2
              go_roundw
              case rel => exact ⟨k + 1, by omega, by go_num, HN.out, trivial⟩
              case measure => simp [intOf]; omega
            · have k0 : decide (97 ≤ c) = false := decide_eq_false (by omega)
              have k1 : decide (c ≤ 122) = true := decide_eq_true (by omega)
              have k2 : decide (65 ≤ c) = true := decide_eq_true (by omega)
              have k3 : decide (c ≤ 90) = false := decide_eq_false (by omega)
              have k4 : decide (48 ≤ c) = true := decide_eq_true (by omega)
              have k5 : decide (c ≤ 57) = false := decide_eq_false (by omega)
              have k6 : (c == 95) = false := by rw [beq_eq_false_iff_ne]; omega
              have j0 : ¬ (97 : Int) ≤ c := by omega
              have j1 : (c : Int) ≤ 122 := by omega
              have j2 : (65 : Int) ≤ c := by omega
              have j3 : ¬ (c : Int) ≤ 90 := by omega
              have j4 : (48 : Int) ≤ c := by omega
              have j5 : ¬ (c : Int) ≤ 57 := by omega
              have j6 : ((c : Int) == 95) = false := by rw [beq_eq_false_iff_ne]; omega
              have hn : nmC c = false := by unfold nmC; rw [k0, k1, k2, k3, k4, k5, k6]; rfl
              clear hv
              have HN : Hid (R = false) := HR.out.trans (HF.out hn)
              clear hn
              go_wp2
              go_ret
              exact ⟨by rw [HN.out]; rfl, rfl⟩
            · have k0 : decide (97 ≤ c) = true := decide_eq_true (by omega)
              have k1 : decide (c ≤ 122) = true := decide_eq_true (by omega)
              have k2 : decide (65 ≤ c) = true := decide_eq_true (by omega)
              have k3 : decide (c ≤ 90) = false := decide_eq_false (by omega)
              have k4 : decide (48 ≤ c) = true := decide_eq_true (by omega)
              have k5 : decide (c ≤ 57) = false := decide_eq_false (by omega)
              have k6 : (c == 95) = false := by rw [beq_eq_false_iff_ne]; omega
              have j0 : (97 : Int) ≤ c := by omega
              have j1 : (c : Int) ≤ 122 := by omega
              have j2 : (65 : Int) ≤ c := by omega
              have j3 : ¬ (c : Int) ≤ 90 := by omega
              have j4 : (48 : Int) ≤ c := by omega
              have j5 : ¬ (c : Int) ≤ 57 := by omega
              have j6 : ((c : Int) == 95) = false := by rw [beq_eq_false_iff_ne]; omega
              have hn : nmC c = true := by unfold nmC; rw [k0, k1, k2, k3, k4, k5, k6]; rfl
              clear hv
              have HN : Hid ((s.data.toList.take (k + 1)).all (fun c => nmC c.toNat) = true) := HT.out.trans hn
              clear hn
              go_wp2
              go_roundw
              case rel => exact ⟨k + 1, by omega, by go_num, HN.out, trivial⟩
              case measure => simp [intOf]; omega
            · have k0 : decide (97 ≤ c) = true := decide_eq_true (by omega)
              have k1 : decide (c ≤ 122) = false := decide_eq_false (by omega)
              have k2 : decide (65 ≤ c) = true := decide_eq_true (by omega)
              have k3 : decide (c ≤ 90) = false := decide_eq_false (by omega)
              have k4 : decide (48 ≤ c) = true := decide_eq_true (by omega)
              have k5 : decide (c ≤ 57) = false := decide_eq_false (by omega)
              have k6 : (c == 95) = false := by rw [beq_eq_false_iff_ne]; omega
              have j0 : (97 : Int) ≤ c := by omega
              have j1 : ¬ (c : Int) ≤ 122 := by omega
              have j2 : (65 : Int) ≤ c := by omega
              have j3 : ¬ (c : Int) ≤ 90 := by omega
              have j4 : (48 : Int) ≤ c := by omega
              have j5 : ¬ (c : Int) ≤ 57 := by omega
              have j6 : ((c : Int) == 95) = false := by rw [beq_eq_false_iff_ne]; omega
              have hn : nmC c = false := by unfold nmC; rw [k0, k1, k2, k3, k4, k5, k6]; rfl
              clear hv
              have HN : Hid (R = false) := HR.out.trans (HF.out hn)
              clear hn
              go_wp2
              go_ret
              exact ⟨by rw [HN.out]; rfl, rfl⟩
          · obtain rfl : k = s.size := by omega
            have HN : Hid (R = true) := by
              have := HA.out
              rw [List.take_of_length_le (by simp)] at this
              exact HR.out.trans this
            go_wp2
            go_ret
            exact ⟨by rw [HN.out]; rfl, rfl⟩
  · have hRf : R = false := by rw [hN, decide_eq_false h32]; rfl
    have i32 : (32 : Int) < s.size := by omega
    clear hN hR
    subst hRf
    go_enter Tryz.func78, Tryz.ntmps78
    go_wp2
    go_ret
    exact ⟨rfl, rfl⟩
end Go.Proofs.YtphiaagppcbefaaGreatDoor
