/- The number at the beginning of a text: the walks of the reference's Prefix. -/
import Derived.Test.YtdgbfblhiongoaaDoorDecPrefix
namespace Go.Proofs.YtdgbfblhiongoaaDoor
open Go.RowKit
set_option linter.unusedVariables false      -- the frame binds names that not every walk uses

set_option maxHeartbeats 1000000 in
theorem rxN_n0 (s : ByteArray) (w : World) (hs : s.size ≤ 9223372036854775807) (B T : Nat) (hB : B ≤ s.size) (hT : B + 1 ≤ T) (hTs : T ≤ s.size)
    (HB : Hid (∀ k, ∀ h : k < B, ∀ h2 : k < s.size, (((s[k]'h2).toNat : Int) == 32) = true ∨ ((((s[k]'h2).toNat : Int) == 32) = false ∧ (((s[k]'h2).toNat : Int) == 9) = true)))
    (hc : B < s.size) (c45 : (((s[B]'hc).toNat : Int) == 45) = true) (c32 : (((s[B]'hc).toNat : Int) == 32) = false) (c9 : (((s[B]'hc).toNat : Int) == 9) = false)
    (HD : Hid (∀ w, Calls Tryd.prog 58 #[.string s, .int .i64 ((B : Int) + 1)] w fun e w' => e = .returned (.int .i64 T) ∧ w = w'))
    (hn : (s.size : Int) ≤ (T : Int) ∨ ∃ h : T < s.size, (((s[T]'h).toNat : Int) == 46) = false)
    (e1 : ¬ ((B : Int) + 1) < (T : Int)) (e2 : ((T : Int) == ((B : Int) + 1)) = true) :
    Calls Tryd.prog 35 #[.string s] w fun e w' => e = .returned (.tuple #[.int .i64 0, .int .i64 0]) ∧ w = w' := by
  go_enter Tryd.func35, Tryd.ntmps35
  go_wp2
  go_loop [4] (fun i => ∃ k : Nat, k ≤ B ∧ i = .int .i64 k) (fun i => s.size - (intOf i).toNat)
  case atStart => exact ⟨0, Nat.zero_le _, rfl⟩
  case round =>
    obtain ⟨k, hk0, rfl⟩ := hrel
    by_cases hkB : k < B
    · have hks : k < s.size := by omega
      have hb := HB.out k hkB hks
      rcases hb with hb1 | ⟨hb1, hb2⟩
      all_goals
        go_wp2
        all_goals first
          | (exfalso; omega)
          | (go_round
             case rel => exact ⟨k + 1, by omega, by go_num⟩
             case measure => simp [intOf]; omega)
    · obtain rfl : k = B := by omega
      clear hkB hk0
      rcases hn with hn | ⟨hk, hn⟩
      all_goals
        go_wp2_with (first | (go_at_call 58; first | ((with_reducible refine (HD.out _).mono ?_); rintro e w' ⟨rfl, rfl⟩)))
        all_goals first | (exfalso; omega) | (go_ret2; exact ⟨rfl, rfl⟩)

set_option maxHeartbeats 1000000 in
theorem rxN_n1y (s : ByteArray) (w : World) (hs : s.size ≤ 9223372036854775807) (B T : Nat) (hB : B ≤ s.size) (hT : B + 1 ≤ T) (hTs : T ≤ s.size)
    (HB : Hid (∀ k, ∀ h : k < B, ∀ h2 : k < s.size, (((s[k]'h2).toNat : Int) == 32) = true ∨ ((((s[k]'h2).toNat : Int) == 32) = false ∧ (((s[k]'h2).toNat : Int) == 9) = true)))
    (hc : B < s.size) (c45 : (((s[B]'hc).toNat : Int) == 45) = true) (c32 : (((s[B]'hc).toNat : Int) == 32) = false) (c9 : (((s[B]'hc).toNat : Int) == 9) = false)
    (HD : Hid (∀ w, Calls Tryd.prog 58 #[.string s, .int .i64 ((B : Int) + 1)] w fun e w' => e = .returned (.int .i64 T) ∧ w = w'))
    (hn : (s.size : Int) ≤ (T : Int) ∨ ∃ h : T < s.size, (((s[T]'h).toNat : Int) == 46) = false)
    (e1 : ((B : Int) + 1) < (T : Int)) (e2 : ((T : Int) == ((B : Int) + 1)) = false)
    (n : Int) (n1 : 0 ≤ n) (n2 : n ≤ 10000000000000)
    (HN : Hid (∀ w, Calls Tryd.prog 59 #[.string (s.extract (B + 1) T), .string ⟨#[]⟩] w fun e w' => e = .returned (.tuple #[.int .i64 n, .bool true]) ∧ w = w')) :
    Calls Tryd.prog 35 #[.string s] w fun e w' => e = .returned (.tuple #[.int .i64 (-n), .int .i64 T]) ∧ w = w' := by
  go_enter Tryd.func35, Tryd.ntmps35
  go_wp2
  go_loop [4] (fun i => ∃ k : Nat, k ≤ B ∧ i = .int .i64 k) (fun i => s.size - (intOf i).toNat)
  case atStart => exact ⟨0, Nat.zero_le _, rfl⟩
  case round =>
    obtain ⟨k, hk0, rfl⟩ := hrel
    by_cases hkB : k < B
    · have hks : k < s.size := by omega
      have hb := HB.out k hkB hks
      rcases hb with hb1 | ⟨hb1, hb2⟩
      all_goals
        go_wp2
        all_goals first
          | (exfalso; omega)
          | (go_round
             case rel => exact ⟨k + 1, by omega, by go_num⟩
             case measure => simp [intOf]; omega)
    · obtain rfl : k = B := by omega
      clear hkB hk0
      rcases hn with hn | ⟨hk, hn⟩
      all_goals
        go_wp2_with (first | (go_at_call 58; first | ((with_reducible refine (HD.out _).mono ?_); rintro e w' ⟨rfl, rfl⟩)) | (go_at_call 59; refine (HN.out _).mono ?_; rintro e w' ⟨rfl, rfl⟩))
        all_goals first | (exfalso; omega) | (go_ret2; exact ⟨rfl, rfl⟩)

set_option maxHeartbeats 1000000 in
theorem rxN_n1n (s : ByteArray) (w : World) (hs : s.size ≤ 9223372036854775807) (B T : Nat) (hB : B ≤ s.size) (hT : B + 1 ≤ T) (hTs : T ≤ s.size)
    (HB : Hid (∀ k, ∀ h : k < B, ∀ h2 : k < s.size, (((s[k]'h2).toNat : Int) == 32) = true ∨ ((((s[k]'h2).toNat : Int) == 32) = false ∧ (((s[k]'h2).toNat : Int) == 9) = true)))
    (hc : B < s.size) (c45 : (((s[B]'hc).toNat : Int) == 45) = true) (c32 : (((s[B]'hc).toNat : Int) == 32) = false) (c9 : (((s[B]'hc).toNat : Int) == 9) = false)
    (HD : Hid (∀ w, Calls Tryd.prog 58 #[.string s, .int .i64 ((B : Int) + 1)] w fun e w' => e = .returned (.int .i64 T) ∧ w = w'))
    (hn : (s.size : Int) ≤ (T : Int) ∨ ∃ h : T < s.size, (((s[T]'h).toNat : Int) == 46) = false)
    (e1 : ((B : Int) + 1) < (T : Int)) (e2 : ((T : Int) == ((B : Int) + 1)) = false)
    (n : Int)
    (HN : Hid (∀ w, Calls Tryd.prog 59 #[.string (s.extract (B + 1) T), .string ⟨#[]⟩] w fun e w' => e = .returned (.tuple #[.int .i64 n, .bool false]) ∧ w = w')) :
    Calls Tryd.prog 35 #[.string s] w fun e w' => e = .returned (.tuple #[.int .i64 (-10000000000000), .int .i64 T]) ∧ w = w' := by
  go_enter Tryd.func35, Tryd.ntmps35
  go_wp2
  go_loop [4] (fun i => ∃ k : Nat, k ≤ B ∧ i = .int .i64 k) (fun i => s.size - (intOf i).toNat)
  case atStart => exact ⟨0, Nat.zero_le _, rfl⟩
  case round =>
    obtain ⟨k, hk0, rfl⟩ := hrel
    by_cases hkB : k < B
    · have hks : k < s.size := by omega
      have hb := HB.out k hkB hks
      rcases hb with hb1 | ⟨hb1, hb2⟩
      all_goals
        go_wp2
        all_goals first
          | (exfalso; omega)
          | (go_round
             case rel => exact ⟨k + 1, by omega, by go_num⟩
             case measure => simp [intOf]; omega)
    · obtain rfl : k = B := by omega
      clear hkB hk0
      rcases hn with hn | ⟨hk, hn⟩
      all_goals
        go_wp2_with (first | (go_at_call 58; first | ((with_reducible refine (HD.out _).mono ?_); rintro e w' ⟨rfl, rfl⟩)) | (go_at_call 59; refine (HN.out _).mono ?_; rintro e w' ⟨rfl, rfl⟩))
        all_goals first | (exfalso; omega) | (go_ret2; exact ⟨rfl, rfl⟩)

set_option maxHeartbeats 1000000 in
theorem rxN_d0 (s : ByteArray) (w : World) (hs : s.size ≤ 9223372036854775807) (B T : Nat) (hB : B ≤ s.size) (hT : B + 1 ≤ T) (hTs : T ≤ s.size)
    (HB : Hid (∀ k, ∀ h : k < B, ∀ h2 : k < s.size, (((s[k]'h2).toNat : Int) == 32) = true ∨ ((((s[k]'h2).toNat : Int) == 32) = false ∧ (((s[k]'h2).toNat : Int) == 9) = true)))
    (hc : B < s.size) (c45 : (((s[B]'hc).toNat : Int) == 45) = true) (c32 : (((s[B]'hc).toNat : Int) == 32) = false) (c9 : (((s[B]'hc).toNat : Int) == 9) = false)
    (HD : Hid (∀ w, Calls Tryd.prog 58 #[.string s, .int .i64 ((B : Int) + 1)] w fun e w' => e = .returned (.int .i64 T) ∧ w = w'))
    (hk : T < s.size) (h46 : (((s[T]'hk).toNat : Int) == 46) = true) (K : Nat) (hK1 : T + 1 ≤ K) (hK2 : K ≤ s.size)
    (HQ : Hid (∀ w, Calls Tryd.prog 58 #[.string s, .int .i64 ((T : Int) + 1)] w fun e w' => e = .returned (.int .i64 K) ∧ w = w'))
    (e1 : ¬ ((B : Int) + 1) < (T : Int)) (e2 : ¬ (T : Int) + 1 < (K : Int)) (e3 : ((T : Int) == ((B : Int) + 1)) = true) :
    Calls Tryd.prog 35 #[.string s] w fun e w' => e = .returned (.tuple #[.int .i64 0, .int .i64 0]) ∧ w = w' := by
  go_enter Tryd.func35, Tryd.ntmps35
  go_wp2
  go_loop [4] (fun i => ∃ k : Nat, k ≤ B ∧ i = .int .i64 k) (fun i => s.size - (intOf i).toNat)
  case atStart => exact ⟨0, Nat.zero_le _, rfl⟩
  case round =>
    obtain ⟨k, hk0, rfl⟩ := hrel
    by_cases hkB : k < B
    · have hks : k < s.size := by omega
      have hb := HB.out k hkB hks
      rcases hb with hb1 | ⟨hb1, hb2⟩
      all_goals
        go_wp2
        all_goals first
          | (exfalso; omega)
          | (go_round
             case rel => exact ⟨k + 1, by omega, by go_num⟩
             case measure => simp [intOf]; omega)
    · obtain rfl : k = B := by omega
      clear hkB hk0
      go_wp2_with (first | (go_at_call 58; first | ((with_reducible refine (HD.out _).mono ?_); rintro e w' ⟨rfl, rfl⟩) | ((with_reducible refine (HQ.out _).mono ?_); rintro e w' ⟨rfl, rfl⟩)))
      all_goals first | (exfalso; omega) | (go_ret2; exact ⟨rfl, rfl⟩)

set_option maxHeartbeats 1000000 in
theorem rxN_dAsy (s : ByteArray) (w : World) (hs : s.size ≤ 9223372036854775807) (B T : Nat) (hB : B ≤ s.size) (hT : B + 1 ≤ T) (hTs : T ≤ s.size)
    (HB : Hid (∀ k, ∀ h : k < B, ∀ h2 : k < s.size, (((s[k]'h2).toNat : Int) == 32) = true ∨ ((((s[k]'h2).toNat : Int) == 32) = false ∧ (((s[k]'h2).toNat : Int) == 9) = true)))
    (hc : B < s.size) (c45 : (((s[B]'hc).toNat : Int) == 45) = true) (c32 : (((s[B]'hc).toNat : Int) == 32) = false) (c9 : (((s[B]'hc).toNat : Int) == 9) = false)
    (HD : Hid (∀ w, Calls Tryd.prog 58 #[.string s, .int .i64 ((B : Int) + 1)] w fun e w' => e = .returned (.int .i64 T) ∧ w = w'))
    (hk : T < s.size) (h46 : (((s[T]'hk).toNat : Int) == 46) = true) (K : Nat) (hK1 : T + 1 ≤ K) (hK2 : K ≤ s.size)
    (HQ : Hid (∀ w, Calls Tryd.prog 58 #[.string s, .int .i64 ((T : Int) + 1)] w fun e w' => e = .returned (.int .i64 K) ∧ w = w'))
    (e1 : ((B : Int) + 1) < (T : Int)) (e2 : ((K : Int) == ((B : Int) + 1)) = false)
    (hl : K ≤ T + 5)
    (n : Int) (n1 : 0 ≤ n) (n2 : n ≤ 10000000000000)
    (HN : Hid (∀ w, Calls Tryd.prog 59 #[.string (s.extract (B + 1) T), .string (s.extract (T + 1) K)] w fun e w' => e = .returned (.tuple #[.int .i64 n, .bool true]) ∧ w = w')) :
    Calls Tryd.prog 35 #[.string s] w fun e w' => e = .returned (.tuple #[.int .i64 (-n), .int .i64 K]) ∧ w = w' := by
  go_enter Tryd.func35, Tryd.ntmps35
  go_wp2
  go_loop [4] (fun i => ∃ k : Nat, k ≤ B ∧ i = .int .i64 k) (fun i => s.size - (intOf i).toNat)
  case atStart => exact ⟨0, Nat.zero_le _, rfl⟩
  case round =>
    obtain ⟨k, hk0, rfl⟩ := hrel
    by_cases hkB : k < B
    · have hks : k < s.size := by omega
      have hb := HB.out k hkB hks
      rcases hb with hb1 | ⟨hb1, hb2⟩
      all_goals
        go_wp2
        all_goals first
          | (exfalso; omega)
          | (go_round
             case rel => exact ⟨k + 1, by omega, by go_num⟩
             case measure => simp [intOf]; omega)
    · obtain rfl : k = B := by omega
      clear hkB hk0
      go_wp2_with (first | (go_at_call 58; first | ((with_reducible refine (HD.out _).mono ?_); rintro e w' ⟨rfl, rfl⟩) | ((with_reducible refine (HQ.out _).mono ?_); rintro e w' ⟨rfl, rfl⟩)) | (go_at_call 59; refine (HN.out _).mono ?_; rintro e w' ⟨rfl, rfl⟩))
      all_goals first | (exfalso; omega) | (go_ret2; exact ⟨rfl, rfl⟩)

set_option maxHeartbeats 1000000 in
theorem rxN_dAsn (s : ByteArray) (w : World) (hs : s.size ≤ 9223372036854775807) (B T : Nat) (hB : B ≤ s.size) (hT : B + 1 ≤ T) (hTs : T ≤ s.size)
    (HB : Hid (∀ k, ∀ h : k < B, ∀ h2 : k < s.size, (((s[k]'h2).toNat : Int) == 32) = true ∨ ((((s[k]'h2).toNat : Int) == 32) = false ∧ (((s[k]'h2).toNat : Int) == 9) = true)))
    (hc : B < s.size) (c45 : (((s[B]'hc).toNat : Int) == 45) = true) (c32 : (((s[B]'hc).toNat : Int) == 32) = false) (c9 : (((s[B]'hc).toNat : Int) == 9) = false)
    (HD : Hid (∀ w, Calls Tryd.prog 58 #[.string s, .int .i64 ((B : Int) + 1)] w fun e w' => e = .returned (.int .i64 T) ∧ w = w'))
    (hk : T < s.size) (h46 : (((s[T]'hk).toNat : Int) == 46) = true) (K : Nat) (hK1 : T + 1 ≤ K) (hK2 : K ≤ s.size)
    (HQ : Hid (∀ w, Calls Tryd.prog 58 #[.string s, .int .i64 ((T : Int) + 1)] w fun e w' => e = .returned (.int .i64 K) ∧ w = w'))
    (e1 : ((B : Int) + 1) < (T : Int)) (e2 : ((K : Int) == ((B : Int) + 1)) = false)
    (hl : K ≤ T + 5)
    (n : Int)
    (HN : Hid (∀ w, Calls Tryd.prog 59 #[.string (s.extract (B + 1) T), .string (s.extract (T + 1) K)] w fun e w' => e = .returned (.tuple #[.int .i64 n, .bool false]) ∧ w = w')) :
    Calls Tryd.prog 35 #[.string s] w fun e w' => e = .returned (.tuple #[.int .i64 (-10000000000000), .int .i64 K]) ∧ w = w' := by
  go_enter Tryd.func35, Tryd.ntmps35
  go_wp2
  go_loop [4] (fun i => ∃ k : Nat, k ≤ B ∧ i = .int .i64 k) (fun i => s.size - (intOf i).toNat)
  case atStart => exact ⟨0, Nat.zero_le _, rfl⟩
  case round =>
    obtain ⟨k, hk0, rfl⟩ := hrel
    by_cases hkB : k < B
    · have hks : k < s.size := by omega
      have hb := HB.out k hkB hks
      rcases hb with hb1 | ⟨hb1, hb2⟩
      all_goals
        go_wp2
        all_goals first
          | (exfalso; omega)
          | (go_round
             case rel => exact ⟨k + 1, by omega, by go_num⟩
             case measure => simp [intOf]; omega)
    · obtain rfl : k = B := by omega
      clear hkB hk0
      go_wp2_with (first | (go_at_call 58; first | ((with_reducible refine (HD.out _).mono ?_); rintro e w' ⟨rfl, rfl⟩) | ((with_reducible refine (HQ.out _).mono ?_); rintro e w' ⟨rfl, rfl⟩)) | (go_at_call 59; refine (HN.out _).mono ?_; rintro e w' ⟨rfl, rfl⟩))
      all_goals first | (exfalso; omega) | (go_ret2; exact ⟨rfl, rfl⟩)

set_option maxHeartbeats 1000000 in
theorem rxN_dAly (s : ByteArray) (w : World) (hs : s.size ≤ 9223372036854775807) (B T : Nat) (hB : B ≤ s.size) (hT : B + 1 ≤ T) (hTs : T ≤ s.size)
    (HB : Hid (∀ k, ∀ h : k < B, ∀ h2 : k < s.size, (((s[k]'h2).toNat : Int) == 32) = true ∨ ((((s[k]'h2).toNat : Int) == 32) = false ∧ (((s[k]'h2).toNat : Int) == 9) = true)))
    (hc : B < s.size) (c45 : (((s[B]'hc).toNat : Int) == 45) = true) (c32 : (((s[B]'hc).toNat : Int) == 32) = false) (c9 : (((s[B]'hc).toNat : Int) == 9) = false)
    (HD : Hid (∀ w, Calls Tryd.prog 58 #[.string s, .int .i64 ((B : Int) + 1)] w fun e w' => e = .returned (.int .i64 T) ∧ w = w'))
    (hk : T < s.size) (h46 : (((s[T]'hk).toNat : Int) == 46) = true) (K : Nat) (hK1 : T + 1 ≤ K) (hK2 : K ≤ s.size)
    (HQ : Hid (∀ w, Calls Tryd.prog 58 #[.string s, .int .i64 ((T : Int) + 1)] w fun e w' => e = .returned (.int .i64 K) ∧ w = w'))
    (e1 : ((B : Int) + 1) < (T : Int)) (e2 : ((K : Int) == ((B : Int) + 1)) = false)
    (hl : T + 5 < K)
    (n : Int) (n1 : 0 ≤ n) (n2 : n ≤ 10000000000000)
    (HN : Hid (∀ w, Calls Tryd.prog 59 #[.string (s.extract (B + 1) T), .string ((s.extract (T + 1) K).extract 0 4)] w fun e w' => e = .returned (.tuple #[.int .i64 n, .bool true]) ∧ w = w')) :
    Calls Tryd.prog 35 #[.string s] w fun e w' => e = .returned (.tuple #[.int .i64 (-n), .int .i64 K]) ∧ w = w' := by
  go_enter Tryd.func35, Tryd.ntmps35
  go_wp2
  go_loop [4] (fun i => ∃ k : Nat, k ≤ B ∧ i = .int .i64 k) (fun i => s.size - (intOf i).toNat)
  case atStart => exact ⟨0, Nat.zero_le _, rfl⟩
  case round =>
    obtain ⟨k, hk0, rfl⟩ := hrel
    by_cases hkB : k < B
    · have hks : k < s.size := by omega
      have hb := HB.out k hkB hks
      rcases hb with hb1 | ⟨hb1, hb2⟩
      all_goals
        go_wp2
        all_goals first
          | (exfalso; omega)
          | (go_round
             case rel => exact ⟨k + 1, by omega, by go_num⟩
             case measure => simp [intOf]; omega)
    · obtain rfl : k = B := by omega
      clear hkB hk0
      go_wp2_with (first | (go_at_call 58; first | ((with_reducible refine (HD.out _).mono ?_); rintro e w' ⟨rfl, rfl⟩) | ((with_reducible refine (HQ.out _).mono ?_); rintro e w' ⟨rfl, rfl⟩)) | (go_at_call 59; refine (HN.out _).mono ?_; rintro e w' ⟨rfl, rfl⟩))
      all_goals first | (exfalso; omega) | (go_ret2; exact ⟨rfl, rfl⟩)

set_option maxHeartbeats 1000000 in
theorem rxN_dAln (s : ByteArray) (w : World) (hs : s.size ≤ 9223372036854775807) (B T : Nat) (hB : B ≤ s.size) (hT : B + 1 ≤ T) (hTs : T ≤ s.size)
    (HB : Hid (∀ k, ∀ h : k < B, ∀ h2 : k < s.size, (((s[k]'h2).toNat : Int) == 32) = true ∨ ((((s[k]'h2).toNat : Int) == 32) = false ∧ (((s[k]'h2).toNat : Int) == 9) = true)))
    (hc : B < s.size) (c45 : (((s[B]'hc).toNat : Int) == 45) = true) (c32 : (((s[B]'hc).toNat : Int) == 32) = false) (c9 : (((s[B]'hc).toNat : Int) == 9) = false)
    (HD : Hid (∀ w, Calls Tryd.prog 58 #[.string s, .int .i64 ((B : Int) + 1)] w fun e w' => e = .returned (.int .i64 T) ∧ w = w'))
    (hk : T < s.size) (h46 : (((s[T]'hk).toNat : Int) == 46) = true) (K : Nat) (hK1 : T + 1 ≤ K) (hK2 : K ≤ s.size)
    (HQ : Hid (∀ w, Calls Tryd.prog 58 #[.string s, .int .i64 ((T : Int) + 1)] w fun e w' => e = .returned (.int .i64 K) ∧ w = w'))
    (e1 : ((B : Int) + 1) < (T : Int)) (e2 : ((K : Int) == ((B : Int) + 1)) = false)
    (hl : T + 5 < K)
    (n : Int)
    (HN : Hid (∀ w, Calls Tryd.prog 59 #[.string (s.extract (B + 1) T), .string ((s.extract (T + 1) K).extract 0 4)] w fun e w' => e = .returned (.tuple #[.int .i64 n, .bool false]) ∧ w = w')) :
    Calls Tryd.prog 35 #[.string s] w fun e w' => e = .returned (.tuple #[.int .i64 (-10000000000000), .int .i64 K]) ∧ w = w' := by
  go_enter Tryd.func35, Tryd.ntmps35
  go_wp2
  go_loop [4] (fun i => ∃ k : Nat, k ≤ B ∧ i = .int .i64 k) (fun i => s.size - (intOf i).toNat)
  case atStart => exact ⟨0, Nat.zero_le _, rfl⟩
  case round =>
    obtain ⟨k, hk0, rfl⟩ := hrel
    by_cases hkB : k < B
    · have hks : k < s.size := by omega
      have hb := HB.out k hkB hks
      rcases hb with hb1 | ⟨hb1, hb2⟩
      all_goals
        go_wp2
        all_goals first
          | (exfalso; omega)
          | (go_round
             case rel => exact ⟨k + 1, by omega, by go_num⟩
             case measure => simp [intOf]; omega)
    · obtain rfl : k = B := by omega
      clear hkB hk0
      go_wp2_with (first | (go_at_call 58; first | ((with_reducible refine (HD.out _).mono ?_); rintro e w' ⟨rfl, rfl⟩) | ((with_reducible refine (HQ.out _).mono ?_); rintro e w' ⟨rfl, rfl⟩)) | (go_at_call 59; refine (HN.out _).mono ?_; rintro e w' ⟨rfl, rfl⟩))
      all_goals first | (exfalso; omega) | (go_ret2; exact ⟨rfl, rfl⟩)

set_option maxHeartbeats 1000000 in
theorem rxN_dBsy (s : ByteArray) (w : World) (hs : s.size ≤ 9223372036854775807) (B T : Nat) (hB : B ≤ s.size) (hT : B + 1 ≤ T) (hTs : T ≤ s.size)
    (HB : Hid (∀ k, ∀ h : k < B, ∀ h2 : k < s.size, (((s[k]'h2).toNat : Int) == 32) = true ∨ ((((s[k]'h2).toNat : Int) == 32) = false ∧ (((s[k]'h2).toNat : Int) == 9) = true)))
    (hc : B < s.size) (c45 : (((s[B]'hc).toNat : Int) == 45) = true) (c32 : (((s[B]'hc).toNat : Int) == 32) = false) (c9 : (((s[B]'hc).toNat : Int) == 9) = false)
    (HD : Hid (∀ w, Calls Tryd.prog 58 #[.string s, .int .i64 ((B : Int) + 1)] w fun e w' => e = .returned (.int .i64 T) ∧ w = w'))
    (hk : T < s.size) (h46 : (((s[T]'hk).toNat : Int) == 46) = true) (K : Nat) (hK1 : T + 1 ≤ K) (hK2 : K ≤ s.size)
    (HQ : Hid (∀ w, Calls Tryd.prog 58 #[.string s, .int .i64 ((T : Int) + 1)] w fun e w' => e = .returned (.int .i64 K) ∧ w = w'))
    (e1 : ¬ ((B : Int) + 1) < (T : Int)) (e2 : (T : Int) + 1 < (K : Int)) (e3 : ((K : Int) == ((B : Int) + 1)) = false)
    (hl : K ≤ T + 5)
    (n : Int) (n1 : 0 ≤ n) (n2 : n ≤ 10000000000000)
    (HN : Hid (∀ w, Calls Tryd.prog 59 #[.string (s.extract (B + 1) T), .string (s.extract (T + 1) K)] w fun e w' => e = .returned (.tuple #[.int .i64 n, .bool true]) ∧ w = w')) :
    Calls Tryd.prog 35 #[.string s] w fun e w' => e = .returned (.tuple #[.int .i64 (-n), .int .i64 K]) ∧ w = w' := by
  go_enter Tryd.func35, Tryd.ntmps35
  go_wp2
  go_loop [4] (fun i => ∃ k : Nat, k ≤ B ∧ i = .int .i64 k) (fun i => s.size - (intOf i).toNat)
  case atStart => exact ⟨0, Nat.zero_le _, rfl⟩
  case round =>
    obtain ⟨k, hk0, rfl⟩ := hrel
    by_cases hkB : k < B
    · have hks : k < s.size := by omega
      have hb := HB.out k hkB hks
      rcases hb with hb1 | ⟨hb1, hb2⟩
      all_goals
        go_wp2
        all_goals first
          | (exfalso; omega)
          | (go_round
             case rel => exact ⟨k + 1, by omega, by go_num⟩
             case measure => simp [intOf]; omega)
    · obtain rfl : k = B := by omega
      clear hkB hk0
      go_wp2_with (first | (go_at_call 58; first | ((with_reducible refine (HD.out _).mono ?_); rintro e w' ⟨rfl, rfl⟩) | ((with_reducible refine (HQ.out _).mono ?_); rintro e w' ⟨rfl, rfl⟩)) | (go_at_call 59; refine (HN.out _).mono ?_; rintro e w' ⟨rfl, rfl⟩))
      all_goals first | (exfalso; omega) | (go_ret2; exact ⟨rfl, rfl⟩)

set_option maxHeartbeats 1000000 in
theorem rxN_dBsn (s : ByteArray) (w : World) (hs : s.size ≤ 9223372036854775807) (B T : Nat) (hB : B ≤ s.size) (hT : B + 1 ≤ T) (hTs : T ≤ s.size)
    (HB : Hid (∀ k, ∀ h : k < B, ∀ h2 : k < s.size, (((s[k]'h2).toNat : Int) == 32) = true ∨ ((((s[k]'h2).toNat : Int) == 32) = false ∧ (((s[k]'h2).toNat : Int) == 9) = true)))
    (hc : B < s.size) (c45 : (((s[B]'hc).toNat : Int) == 45) = true) (c32 : (((s[B]'hc).toNat : Int) == 32) = false) (c9 : (((s[B]'hc).toNat : Int) == 9) = false)
    (HD : Hid (∀ w, Calls Tryd.prog 58 #[.string s, .int .i64 ((B : Int) + 1)] w fun e w' => e = .returned (.int .i64 T) ∧ w = w'))
    (hk : T < s.size) (h46 : (((s[T]'hk).toNat : Int) == 46) = true) (K : Nat) (hK1 : T + 1 ≤ K) (hK2 : K ≤ s.size)
    (HQ : Hid (∀ w, Calls Tryd.prog 58 #[.string s, .int .i64 ((T : Int) + 1)] w fun e w' => e = .returned (.int .i64 K) ∧ w = w'))
    (e1 : ¬ ((B : Int) + 1) < (T : Int)) (e2 : (T : Int) + 1 < (K : Int)) (e3 : ((K : Int) == ((B : Int) + 1)) = false)
    (hl : K ≤ T + 5)
    (n : Int)
    (HN : Hid (∀ w, Calls Tryd.prog 59 #[.string (s.extract (B + 1) T), .string (s.extract (T + 1) K)] w fun e w' => e = .returned (.tuple #[.int .i64 n, .bool false]) ∧ w = w')) :
    Calls Tryd.prog 35 #[.string s] w fun e w' => e = .returned (.tuple #[.int .i64 (-10000000000000), .int .i64 K]) ∧ w = w' := by
  go_enter Tryd.func35, Tryd.ntmps35
  go_wp2
  go_loop [4] (fun i => ∃ k : Nat, k ≤ B ∧ i = .int .i64 k) (fun i => s.size - (intOf i).toNat)
  case atStart => exact ⟨0, Nat.zero_le _, rfl⟩
  case round =>
    obtain ⟨k, hk0, rfl⟩ := hrel
    by_cases hkB : k < B
    · have hks : k < s.size := by omega
      have hb := HB.out k hkB hks
      rcases hb with hb1 | ⟨hb1, hb2⟩
      all_goals
        go_wp2
        all_goals first
          | (exfalso; omega)
          | (go_round
             case rel => exact ⟨k + 1, by omega, by go_num⟩
             case measure => simp [intOf]; omega)
    · obtain rfl : k = B := by omega
      clear hkB hk0
      go_wp2_with (first | (go_at_call 58; first | ((with_reducible refine (HD.out _).mono ?_); rintro e w' ⟨rfl, rfl⟩) | ((with_reducible refine (HQ.out _).mono ?_); rintro e w' ⟨rfl, rfl⟩)) | (go_at_call 59; refine (HN.out _).mono ?_; rintro e w' ⟨rfl, rfl⟩))
      all_goals first | (exfalso; omega) | (go_ret2; exact ⟨rfl, rfl⟩)

set_option maxHeartbeats 1000000 in
theorem rxN_dBly (s : ByteArray) (w : World) (hs : s.size ≤ 9223372036854775807) (B T : Nat) (hB : B ≤ s.size) (hT : B + 1 ≤ T) (hTs : T ≤ s.size)
    (HB : Hid (∀ k, ∀ h : k < B, ∀ h2 : k < s.size, (((s[k]'h2).toNat : Int) == 32) = true ∨ ((((s[k]'h2).toNat : Int) == 32) = false ∧ (((s[k]'h2).toNat : Int) == 9) = true)))
    (hc : B < s.size) (c45 : (((s[B]'hc).toNat : Int) == 45) = true) (c32 : (((s[B]'hc).toNat : Int) == 32) = false) (c9 : (((s[B]'hc).toNat : Int) == 9) = false)
    (HD : Hid (∀ w, Calls Tryd.prog 58 #[.string s, .int .i64 ((B : Int) + 1)] w fun e w' => e = .returned (.int .i64 T) ∧ w = w'))
    (hk : T < s.size) (h46 : (((s[T]'hk).toNat : Int) == 46) = true) (K : Nat) (hK1 : T + 1 ≤ K) (hK2 : K ≤ s.size)
    (HQ : Hid (∀ w, Calls Tryd.prog 58 #[.string s, .int .i64 ((T : Int) + 1)] w fun e w' => e = .returned (.int .i64 K) ∧ w = w'))
    (e1 : ¬ ((B : Int) + 1) < (T : Int)) (e2 : (T : Int) + 1 < (K : Int)) (e3 : ((K : Int) == ((B : Int) + 1)) = false)
    (hl : T + 5 < K)
    (n : Int) (n1 : 0 ≤ n) (n2 : n ≤ 10000000000000)
    (HN : Hid (∀ w, Calls Tryd.prog 59 #[.string (s.extract (B + 1) T), .string ((s.extract (T + 1) K).extract 0 4)] w fun e w' => e = .returned (.tuple #[.int .i64 n, .bool true]) ∧ w = w')) :
    Calls Tryd.prog 35 #[.string s] w fun e w' => e = .returned (.tuple #[.int .i64 (-n), .int .i64 K]) ∧ w = w' := by
  go_enter Tryd.func35, Tryd.ntmps35
  go_wp2
  go_loop [4] (fun i => ∃ k : Nat, k ≤ B ∧ i = .int .i64 k) (fun i => s.size - (intOf i).toNat)
  case atStart => exact ⟨0, Nat.zero_le _, rfl⟩
  case round =>
    obtain ⟨k, hk0, rfl⟩ := hrel
    by_cases hkB : k < B
    · have hks : k < s.size := by omega
      have hb := HB.out k hkB hks
      rcases hb with hb1 | ⟨hb1, hb2⟩
      all_goals
        go_wp2
        all_goals first
          | (exfalso; omega)
          | (go_round
             case rel => exact ⟨k + 1, by omega, by go_num⟩
             case measure => simp [intOf]; omega)
    · obtain rfl : k = B := by omega
      clear hkB hk0
      go_wp2_with (first | (go_at_call 58; first | ((with_reducible refine (HD.out _).mono ?_); rintro e w' ⟨rfl, rfl⟩) | ((with_reducible refine (HQ.out _).mono ?_); rintro e w' ⟨rfl, rfl⟩)) | (go_at_call 59; refine (HN.out _).mono ?_; rintro e w' ⟨rfl, rfl⟩))
      all_goals first | (exfalso; omega) | (go_ret2; exact ⟨rfl, rfl⟩)

set_option maxHeartbeats 1000000 in
theorem rxN_dBln (s : ByteArray) (w : World) (hs : s.size ≤ 9223372036854775807) (B T : Nat) (hB : B ≤ s.size) (hT : B + 1 ≤ T) (hTs : T ≤ s.size)
    (HB : Hid (∀ k, ∀ h : k < B, ∀ h2 : k < s.size, (((s[k]'h2).toNat : Int) == 32) = true ∨ ((((s[k]'h2).toNat : Int) == 32) = false ∧ (((s[k]'h2).toNat : Int) == 9) = true)))
    (hc : B < s.size) (c45 : (((s[B]'hc).toNat : Int) == 45) = true) (c32 : (((s[B]'hc).toNat : Int) == 32) = false) (c9 : (((s[B]'hc).toNat : Int) == 9) = false)
    (HD : Hid (∀ w, Calls Tryd.prog 58 #[.string s, .int .i64 ((B : Int) + 1)] w fun e w' => e = .returned (.int .i64 T) ∧ w = w'))
    (hk : T < s.size) (h46 : (((s[T]'hk).toNat : Int) == 46) = true) (K : Nat) (hK1 : T + 1 ≤ K) (hK2 : K ≤ s.size)
    (HQ : Hid (∀ w, Calls Tryd.prog 58 #[.string s, .int .i64 ((T : Int) + 1)] w fun e w' => e = .returned (.int .i64 K) ∧ w = w'))
    (e1 : ¬ ((B : Int) + 1) < (T : Int)) (e2 : (T : Int) + 1 < (K : Int)) (e3 : ((K : Int) == ((B : Int) + 1)) = false)
    (hl : T + 5 < K)
    (n : Int)
    (HN : Hid (∀ w, Calls Tryd.prog 59 #[.string (s.extract (B + 1) T), .string ((s.extract (T + 1) K).extract 0 4)] w fun e w' => e = .returned (.tuple #[.int .i64 n, .bool false]) ∧ w = w')) :
    Calls Tryd.prog 35 #[.string s] w fun e w' => e = .returned (.tuple #[.int .i64 (-10000000000000), .int .i64 K]) ∧ w = w' := by
  go_enter Tryd.func35, Tryd.ntmps35
  go_wp2
  go_loop [4] (fun i => ∃ k : Nat, k ≤ B ∧ i = .int .i64 k) (fun i => s.size - (intOf i).toNat)
  case atStart => exact ⟨0, Nat.zero_le _, rfl⟩
  case round =>
    obtain ⟨k, hk0, rfl⟩ := hrel
    by_cases hkB : k < B
    · have hks : k < s.size := by omega
      have hb := HB.out k hkB hks
      rcases hb with hb1 | ⟨hb1, hb2⟩
      all_goals
        go_wp2
        all_goals first
          | (exfalso; omega)
          | (go_round
             case rel => exact ⟨k + 1, by omega, by go_num⟩
             case measure => simp [intOf]; omega)
    · obtain rfl : k = B := by omega
      clear hkB hk0
      go_wp2_with (first | (go_at_call 58; first | ((with_reducible refine (HD.out _).mono ?_); rintro e w' ⟨rfl, rfl⟩) | ((with_reducible refine (HQ.out _).mono ?_); rintro e w' ⟨rfl, rfl⟩)) | (go_at_call 59; refine (HN.out _).mono ?_; rintro e w' ⟨rfl, rfl⟩))
      all_goals first | (exfalso; omega) | (go_ret2; exact ⟨rfl, rfl⟩)

set_option maxHeartbeats 1000000 in
theorem rxP_n0 (s : ByteArray) (w : World) (hs : s.size ≤ 9223372036854775807) (B T : Nat) (hB : B ≤ s.size) (hT : B + 1 ≤ T) (hTs : T ≤ s.size)
    (HB : Hid (∀ k, ∀ h : k < B, ∀ h2 : k < s.size, (((s[k]'h2).toNat : Int) == 32) = true ∨ ((((s[k]'h2).toNat : Int) == 32) = false ∧ (((s[k]'h2).toNat : Int) == 9) = true)))
    (hc : B < s.size) (c45 : (((s[B]'hc).toNat : Int) == 45) = false) (c43 : (((s[B]'hc).toNat : Int) == 43) = true) (c32 : (((s[B]'hc).toNat : Int) == 32) = false) (c9 : (((s[B]'hc).toNat : Int) == 9) = false)
    (HD : Hid (∀ w, Calls Tryd.prog 58 #[.string s, .int .i64 ((B : Int) + 1)] w fun e w' => e = .returned (.int .i64 T) ∧ w = w'))
    (hn : (s.size : Int) ≤ (T : Int) ∨ ∃ h : T < s.size, (((s[T]'h).toNat : Int) == 46) = false)
    (e1 : ¬ ((B : Int) + 1) < (T : Int)) (e2 : ((T : Int) == ((B : Int) + 1)) = true) :
    Calls Tryd.prog 35 #[.string s] w fun e w' => e = .returned (.tuple #[.int .i64 0, .int .i64 0]) ∧ w = w' := by
  go_enter Tryd.func35, Tryd.ntmps35
  go_wp2
  go_loop [4] (fun i => ∃ k : Nat, k ≤ B ∧ i = .int .i64 k) (fun i => s.size - (intOf i).toNat)
  case atStart => exact ⟨0, Nat.zero_le _, rfl⟩
  case round =>
    obtain ⟨k, hk0, rfl⟩ := hrel
    by_cases hkB : k < B
    · have hks : k < s.size := by omega
      have hb := HB.out k hkB hks
      rcases hb with hb1 | ⟨hb1, hb2⟩
      all_goals
        go_wp2
        all_goals first
          | (exfalso; omega)
          | (go_round
             case rel => exact ⟨k + 1, by omega, by go_num⟩
             case measure => simp [intOf]; omega)
    · obtain rfl : k = B := by omega
      clear hkB hk0
      rcases hn with hn | ⟨hk, hn⟩
      all_goals
        go_wp2_with (first | (go_at_call 58; first | ((with_reducible refine (HD.out _).mono ?_); rintro e w' ⟨rfl, rfl⟩)))
        all_goals first | (exfalso; omega) | (go_ret2; exact ⟨rfl, rfl⟩)

set_option maxHeartbeats 1000000 in
theorem rxP_n1y (s : ByteArray) (w : World) (hs : s.size ≤ 9223372036854775807) (B T : Nat) (hB : B ≤ s.size) (hT : B + 1 ≤ T) (hTs : T ≤ s.size)
    (HB : Hid (∀ k, ∀ h : k < B, ∀ h2 : k < s.size, (((s[k]'h2).toNat : Int) == 32) = true ∨ ((((s[k]'h2).toNat : Int) == 32) = false ∧ (((s[k]'h2).toNat : Int) == 9) = true)))
    (hc : B < s.size) (c45 : (((s[B]'hc).toNat : Int) == 45) = false) (c43 : (((s[B]'hc).toNat : Int) == 43) = true) (c32 : (((s[B]'hc).toNat : Int) == 32) = false) (c9 : (((s[B]'hc).toNat : Int) == 9) = false)
    (HD : Hid (∀ w, Calls Tryd.prog 58 #[.string s, .int .i64 ((B : Int) + 1)] w fun e w' => e = .returned (.int .i64 T) ∧ w = w'))
    (hn : (s.size : Int) ≤ (T : Int) ∨ ∃ h : T < s.size, (((s[T]'h).toNat : Int) == 46) = false)
    (e1 : ((B : Int) + 1) < (T : Int)) (e2 : ((T : Int) == ((B : Int) + 1)) = false)
    (n : Int) (n1 : 0 ≤ n) (n2 : n ≤ 10000000000000)
    (HN : Hid (∀ w, Calls Tryd.prog 59 #[.string (s.extract (B + 1) T), .string ⟨#[]⟩] w fun e w' => e = .returned (.tuple #[.int .i64 n, .bool true]) ∧ w = w')) :
    Calls Tryd.prog 35 #[.string s] w fun e w' => e = .returned (.tuple #[.int .i64 (n), .int .i64 T]) ∧ w = w' := by
  go_enter Tryd.func35, Tryd.ntmps35
  go_wp2
  go_loop [4] (fun i => ∃ k : Nat, k ≤ B ∧ i = .int .i64 k) (fun i => s.size - (intOf i).toNat)
  case atStart => exact ⟨0, Nat.zero_le _, rfl⟩
  case round =>
    obtain ⟨k, hk0, rfl⟩ := hrel
    by_cases hkB : k < B
    · have hks : k < s.size := by omega
      have hb := HB.out k hkB hks
      rcases hb with hb1 | ⟨hb1, hb2⟩
      all_goals
        go_wp2
        all_goals first
          | (exfalso; omega)
          | (go_round
             case rel => exact ⟨k + 1, by omega, by go_num⟩
             case measure => simp [intOf]; omega)
    · obtain rfl : k = B := by omega
      clear hkB hk0
      rcases hn with hn | ⟨hk, hn⟩
      all_goals
        go_wp2_with (first | (go_at_call 58; first | ((with_reducible refine (HD.out _).mono ?_); rintro e w' ⟨rfl, rfl⟩)) | (go_at_call 59; refine (HN.out _).mono ?_; rintro e w' ⟨rfl, rfl⟩))
        all_goals first | (exfalso; omega) | (go_ret2; exact ⟨rfl, rfl⟩)

set_option maxHeartbeats 1000000 in
theorem rxP_n1n (s : ByteArray) (w : World) (hs : s.size ≤ 9223372036854775807) (B T : Nat) (hB : B ≤ s.size) (hT : B + 1 ≤ T) (hTs : T ≤ s.size)
    (HB : Hid (∀ k, ∀ h : k < B, ∀ h2 : k < s.size, (((s[k]'h2).toNat : Int) == 32) = true ∨ ((((s[k]'h2).toNat : Int) == 32) = false ∧ (((s[k]'h2).toNat : Int) == 9) = true)))
    (hc : B < s.size) (c45 : (((s[B]'hc).toNat : Int) == 45) = false) (c43 : (((s[B]'hc).toNat : Int) == 43) = true) (c32 : (((s[B]'hc).toNat : Int) == 32) = false) (c9 : (((s[B]'hc).toNat : Int) == 9) = false)
    (HD : Hid (∀ w, Calls Tryd.prog 58 #[.string s, .int .i64 ((B : Int) + 1)] w fun e w' => e = .returned (.int .i64 T) ∧ w = w'))
    (hn : (s.size : Int) ≤ (T : Int) ∨ ∃ h : T < s.size, (((s[T]'h).toNat : Int) == 46) = false)
    (e1 : ((B : Int) + 1) < (T : Int)) (e2 : ((T : Int) == ((B : Int) + 1)) = false)
    (n : Int)
    (HN : Hid (∀ w, Calls Tryd.prog 59 #[.string (s.extract (B + 1) T), .string ⟨#[]⟩] w fun e w' => e = .returned (.tuple #[.int .i64 n, .bool false]) ∧ w = w')) :
    Calls Tryd.prog 35 #[.string s] w fun e w' => e = .returned (.tuple #[.int .i64 (10000000000000), .int .i64 T]) ∧ w = w' := by
  go_enter Tryd.func35, Tryd.ntmps35
  go_wp2
  go_loop [4] (fun i => ∃ k : Nat, k ≤ B ∧ i = .int .i64 k) (fun i => s.size - (intOf i).toNat)
  case atStart => exact ⟨0, Nat.zero_le _, rfl⟩
  case round =>
    obtain ⟨k, hk0, rfl⟩ := hrel
    by_cases hkB : k < B
    · have hks : k < s.size := by omega
      have hb := HB.out k hkB hks
      rcases hb with hb1 | ⟨hb1, hb2⟩
      all_goals
        go_wp2
        all_goals first
          | (exfalso; omega)
          | (go_round
             case rel => exact ⟨k + 1, by omega, by go_num⟩
             case measure => simp [intOf]; omega)
    · obtain rfl : k = B := by omega
      clear hkB hk0
      rcases hn with hn | ⟨hk, hn⟩
      all_goals
        go_wp2_with (first | (go_at_call 58; first | ((with_reducible refine (HD.out _).mono ?_); rintro e w' ⟨rfl, rfl⟩)) | (go_at_call 59; refine (HN.out _).mono ?_; rintro e w' ⟨rfl, rfl⟩))
        all_goals first | (exfalso; omega) | (go_ret2; exact ⟨rfl, rfl⟩)

set_option maxHeartbeats 1000000 in
theorem rxP_d0 (s : ByteArray) (w : World) (hs : s.size ≤ 9223372036854775807) (B T : Nat) (hB : B ≤ s.size) (hT : B + 1 ≤ T) (hTs : T ≤ s.size)
    (HB : Hid (∀ k, ∀ h : k < B, ∀ h2 : k < s.size, (((s[k]'h2).toNat : Int) == 32) = true ∨ ((((s[k]'h2).toNat : Int) == 32) = false ∧ (((s[k]'h2).toNat : Int) == 9) = true)))
    (hc : B < s.size) (c45 : (((s[B]'hc).toNat : Int) == 45) = false) (c43 : (((s[B]'hc).toNat : Int) == 43) = true) (c32 : (((s[B]'hc).toNat : Int) == 32) = false) (c9 : (((s[B]'hc).toNat : Int) == 9) = false)
    (HD : Hid (∀ w, Calls Tryd.prog 58 #[.string s, .int .i64 ((B : Int) + 1)] w fun e w' => e = .returned (.int .i64 T) ∧ w = w'))
    (hk : T < s.size) (h46 : (((s[T]'hk).toNat : Int) == 46) = true) (K : Nat) (hK1 : T + 1 ≤ K) (hK2 : K ≤ s.size)
    (HQ : Hid (∀ w, Calls Tryd.prog 58 #[.string s, .int .i64 ((T : Int) + 1)] w fun e w' => e = .returned (.int .i64 K) ∧ w = w'))
    (e1 : ¬ ((B : Int) + 1) < (T : Int)) (e2 : ¬ (T : Int) + 1 < (K : Int)) (e3 : ((T : Int) == ((B : Int) + 1)) = true) :
    Calls Tryd.prog 35 #[.string s] w fun e w' => e = .returned (.tuple #[.int .i64 0, .int .i64 0]) ∧ w = w' := by
  go_enter Tryd.func35, Tryd.ntmps35
  go_wp2
  go_loop [4] (fun i => ∃ k : Nat, k ≤ B ∧ i = .int .i64 k) (fun i => s.size - (intOf i).toNat)
  case atStart => exact ⟨0, Nat.zero_le _, rfl⟩
  case round =>
    obtain ⟨k, hk0, rfl⟩ := hrel
    by_cases hkB : k < B
    · have hks : k < s.size := by omega
      have hb := HB.out k hkB hks
      rcases hb with hb1 | ⟨hb1, hb2⟩
      all_goals
        go_wp2
        all_goals first
          | (exfalso; omega)
          | (go_round
             case rel => exact ⟨k + 1, by omega, by go_num⟩
             case measure => simp [intOf]; omega)
    · obtain rfl : k = B := by omega
      clear hkB hk0
      go_wp2_with (first | (go_at_call 58; first | ((with_reducible refine (HD.out _).mono ?_); rintro e w' ⟨rfl, rfl⟩) | ((with_reducible refine (HQ.out _).mono ?_); rintro e w' ⟨rfl, rfl⟩)))
      all_goals first | (exfalso; omega) | (go_ret2; exact ⟨rfl, rfl⟩)

set_option maxHeartbeats 1000000 in
theorem rxP_dAsy (s : ByteArray) (w : World) (hs : s.size ≤ 9223372036854775807) (B T : Nat) (hB : B ≤ s.size) (hT : B + 1 ≤ T) (hTs : T ≤ s.size)
    (HB : Hid (∀ k, ∀ h : k < B, ∀ h2 : k < s.size, (((s[k]'h2).toNat : Int) == 32) = true ∨ ((((s[k]'h2).toNat : Int) == 32) = false ∧ (((s[k]'h2).toNat : Int) == 9) = true)))
    (hc : B < s.size) (c45 : (((s[B]'hc).toNat : Int) == 45) = false) (c43 : (((s[B]'hc).toNat : Int) == 43) = true) (c32 : (((s[B]'hc).toNat : Int) == 32) = false) (c9 : (((s[B]'hc).toNat : Int) == 9) = false)
    (HD : Hid (∀ w, Calls Tryd.prog 58 #[.string s, .int .i64 ((B : Int) + 1)] w fun e w' => e = .returned (.int .i64 T) ∧ w = w'))
    (hk : T < s.size) (h46 : (((s[T]'hk).toNat : Int) == 46) = true) (K : Nat) (hK1 : T + 1 ≤ K) (hK2 : K ≤ s.size)
    (HQ : Hid (∀ w, Calls Tryd.prog 58 #[.string s, .int .i64 ((T : Int) + 1)] w fun e w' => e = .returned (.int .i64 K) ∧ w = w'))
    (e1 : ((B : Int) + 1) < (T : Int)) (e2 : ((K : Int) == ((B : Int) + 1)) = false)
    (hl : K ≤ T + 5)
    (n : Int) (n1 : 0 ≤ n) (n2 : n ≤ 10000000000000)
    (HN : Hid (∀ w, Calls Tryd.prog 59 #[.string (s.extract (B + 1) T), .string (s.extract (T + 1) K)] w fun e w' => e = .returned (.tuple #[.int .i64 n, .bool true]) ∧ w = w')) :
    Calls Tryd.prog 35 #[.string s] w fun e w' => e = .returned (.tuple #[.int .i64 (n), .int .i64 K]) ∧ w = w' := by
  go_enter Tryd.func35, Tryd.ntmps35
  go_wp2
  go_loop [4] (fun i => ∃ k : Nat, k ≤ B ∧ i = .int .i64 k) (fun i => s.size - (intOf i).toNat)
  case atStart => exact ⟨0, Nat.zero_le _, rfl⟩
  case round =>
    obtain ⟨k, hk0, rfl⟩ := hrel
    by_cases hkB : k < B
    · have hks : k < s.size := by omega
      have hb := HB.out k hkB hks
      rcases hb with hb1 | ⟨hb1, hb2⟩
      all_goals
        go_wp2
        all_goals first
          | (exfalso; omega)
          | (go_round
             case rel => exact ⟨k + 1, by omega, by go_num⟩
             case measure => simp [intOf]; omega)
    · obtain rfl : k = B := by omega
      clear hkB hk0
      go_wp2_with (first | (go_at_call 58; first | ((with_reducible refine (HD.out _).mono ?_); rintro e w' ⟨rfl, rfl⟩) | ((with_reducible refine (HQ.out _).mono ?_); rintro e w' ⟨rfl, rfl⟩)) | (go_at_call 59; refine (HN.out _).mono ?_; rintro e w' ⟨rfl, rfl⟩))
      all_goals first | (exfalso; omega) | (go_ret2; exact ⟨rfl, rfl⟩)

set_option maxHeartbeats 1000000 in
theorem rxP_dAsn (s : ByteArray) (w : World) (hs : s.size ≤ 9223372036854775807) (B T : Nat) (hB : B ≤ s.size) (hT : B + 1 ≤ T) (hTs : T ≤ s.size)
    (HB : Hid (∀ k, ∀ h : k < B, ∀ h2 : k < s.size, (((s[k]'h2).toNat : Int) == 32) = true ∨ ((((s[k]'h2).toNat : Int) == 32) = false ∧ (((s[k]'h2).toNat : Int) == 9) = true)))
    (hc : B < s.size) (c45 : (((s[B]'hc).toNat : Int) == 45) = false) (c43 : (((s[B]'hc).toNat : Int) == 43) = true) (c32 : (((s[B]'hc).toNat : Int) == 32) = false) (c9 : (((s[B]'hc).toNat : Int) == 9) = false)
    (HD : Hid (∀ w, Calls Tryd.prog 58 #[.string s, .int .i64 ((B : Int) + 1)] w fun e w' => e = .returned (.int .i64 T) ∧ w = w'))
    (hk : T < s.size) (h46 : (((s[T]'hk).toNat : Int) == 46) = true) (K : Nat) (hK1 : T + 1 ≤ K) (hK2 : K ≤ s.size)
    (HQ : Hid (∀ w, Calls Tryd.prog 58 #[.string s, .int .i64 ((T : Int) + 1)] w fun e w' => e = .returned (.int .i64 K) ∧ w = w'))
    (e1 : ((B : Int) + 1) < (T : Int)) (e2 : ((K : Int) == ((B : Int) + 1)) = false)
    (hl : K ≤ T + 5)
    (n : Int)
    (HN : Hid (∀ w, Calls Tryd.prog 59 #[.string (s.extract (B + 1) T), .string (s.extract (T + 1) K)] w fun e w' => e = .returned (.tuple #[.int .i64 n, .bool false]) ∧ w = w')) :
    Calls Tryd.prog 35 #[.string s] w fun e w' => e = .returned (.tuple #[.int .i64 (10000000000000), .int .i64 K]) ∧ w = w' := by
  go_enter Tryd.func35, Tryd.ntmps35
  go_wp2
  go_loop [4] (fun i => ∃ k : Nat, k ≤ B ∧ i = .int .i64 k) (fun i => s.size - (intOf i).toNat)
  case atStart => exact ⟨0, Nat.zero_le _, rfl⟩
  case round =>
    obtain ⟨k, hk0, rfl⟩ := hrel
    by_cases hkB : k < B
    · have hks : k < s.size := by omega
      have hb := HB.out k hkB hks
      rcases hb with hb1 | ⟨hb1, hb2⟩
      all_goals
        go_wp2
        all_goals first
          | (exfalso; omega)
          | (go_round
             case rel => exact ⟨k + 1, by omega, by go_num⟩
             case measure => simp [intOf]; omega)
    · obtain rfl : k = B := by omega
      clear hkB hk0
      go_wp2_with (first | (go_at_call 58; first | ((with_reducible refine (HD.out _).mono ?_); rintro e w' ⟨rfl, rfl⟩) | ((with_reducible refine (HQ.out _).mono ?_); rintro e w' ⟨rfl, rfl⟩)) | (go_at_call 59; refine (HN.out _).mono ?_; rintro e w' ⟨rfl, rfl⟩))
      all_goals first | (exfalso; omega) | (go_ret2; exact ⟨rfl, rfl⟩)

set_option maxHeartbeats 1000000 in
theorem rxP_dAly (s : ByteArray) (w : World) (hs : s.size ≤ 9223372036854775807) (B T : Nat) (hB : B ≤ s.size) (hT : B + 1 ≤ T) (hTs : T ≤ s.size)
    (HB : Hid (∀ k, ∀ h : k < B, ∀ h2 : k < s.size, (((s[k]'h2).toNat : Int) == 32) = true ∨ ((((s[k]'h2).toNat : Int) == 32) = false ∧ (((s[k]'h2).toNat : Int) == 9) = true)))
    (hc : B < s.size) (c45 : (((s[B]'hc).toNat : Int) == 45) = false) (c43 : (((s[B]'hc).toNat : Int) == 43) = true) (c32 : (((s[B]'hc).toNat : Int) == 32) = false) (c9 : (((s[B]'hc).toNat : Int) == 9) = false)
    (HD : Hid (∀ w, Calls Tryd.prog 58 #[.string s, .int .i64 ((B : Int) + 1)] w fun e w' => e = .returned (.int .i64 T) ∧ w = w'))
    (hk : T < s.size) (h46 : (((s[T]'hk).toNat : Int) == 46) = true) (K : Nat) (hK1 : T + 1 ≤ K) (hK2 : K ≤ s.size)
    (HQ : Hid (∀ w, Calls Tryd.prog 58 #[.string s, .int .i64 ((T : Int) + 1)] w fun e w' => e = .returned (.int .i64 K) ∧ w = w'))
    (e1 : ((B : Int) + 1) < (T : Int)) (e2 : ((K : Int) == ((B : Int) + 1)) = false)
    (hl : T + 5 < K)
    (n : Int) (n1 : 0 ≤ n) (n2 : n ≤ 10000000000000)
    (HN : Hid (∀ w, Calls Tryd.prog 59 #[.string (s.extract (B + 1) T), .string ((s.extract (T + 1) K).extract 0 4)] w fun e w' => e = .returned (.tuple #[.int .i64 n, .bool true]) ∧ w = w')) :
    Calls Tryd.prog 35 #[.string s] w fun e w' => e = .returned (.tuple #[.int .i64 (n), .int .i64 K]) ∧ w = w' := by
  go_enter Tryd.func35, Tryd.ntmps35
  go_wp2
  go_loop [4] (fun i => ∃ k : Nat, k ≤ B ∧ i = .int .i64 k) (fun i => s.size - (intOf i).toNat)
  case atStart => exact ⟨0, Nat.zero_le _, rfl⟩
  case round =>
    obtain ⟨k, hk0, rfl⟩ := hrel
    by_cases hkB : k < B
    · have hks : k < s.size := by omega
      have hb := HB.out k hkB hks
      rcases hb with hb1 | ⟨hb1, hb2⟩
      all_goals
        go_wp2
        all_goals first
          | (exfalso; omega)
          | (go_round
             case rel => exact ⟨k + 1, by omega, by go_num⟩
             case measure => simp [intOf]; omega)
    · obtain rfl : k = B := by omega
      clear hkB hk0
      go_wp2_with (first | (go_at_call 58; first | ((with_reducible refine (HD.out _).mono ?_); rintro e w' ⟨rfl, rfl⟩) | ((with_reducible refine (HQ.out _).mono ?_); rintro e w' ⟨rfl, rfl⟩)) | (go_at_call 59; refine (HN.out _).mono ?_; rintro e w' ⟨rfl, rfl⟩))
      all_goals first | (exfalso; omega) | (go_ret2; exact ⟨rfl, rfl⟩)

set_option maxHeartbeats 1000000 in
theorem rxP_dAln (s : ByteArray) (w : World) (hs : s.size ≤ 9223372036854775807) (B T : Nat) (hB : B ≤ s.size) (hT : B + 1 ≤ T) (hTs : T ≤ s.size)
    (HB : Hid (∀ k, ∀ h : k < B, ∀ h2 : k < s.size, (((s[k]'h2).toNat : Int) == 32) = true ∨ ((((s[k]'h2).toNat : Int) == 32) = false ∧ (((s[k]'h2).toNat : Int) == 9) = true)))
    (hc : B < s.size) (c45 : (((s[B]'hc).toNat : Int) == 45) = false) (c43 : (((s[B]'hc).toNat : Int) == 43) = true) (c32 : (((s[B]'hc).toNat : Int) == 32) = false) (c9 : (((s[B]'hc).toNat : Int) == 9) = false)
    (HD : Hid (∀ w, Calls Tryd.prog 58 #[.string s, .int .i64 ((B : Int) + 1)] w fun e w' => e = .returned (.int .i64 T) ∧ w = w'))
    (hk : T < s.size) (h46 : (((s[T]'hk).toNat : Int) == 46) = true) (K : Nat) (hK1 : T + 1 ≤ K) (hK2 : K ≤ s.size)
    (HQ : Hid (∀ w, Calls Tryd.prog 58 #[.string s, .int .i64 ((T : Int) + 1)] w fun e w' => e = .returned (.int .i64 K) ∧ w = w'))
    (e1 : ((B : Int) + 1) < (T : Int)) (e2 : ((K : Int) == ((B : Int) + 1)) = false)
    (hl : T + 5 < K)
    (n : Int)
    (HN : Hid (∀ w, Calls Tryd.prog 59 #[.string (s.extract (B + 1) T), .string ((s.extract (T + 1) K).extract 0 4)] w fun e w' => e = .returned (.tuple #[.int .i64 n, .bool false]) ∧ w = w')) :
    Calls Tryd.prog 35 #[.string s] w fun e w' => e = .returned (.tuple #[.int .i64 (10000000000000), .int .i64 K]) ∧ w = w' := by
  go_enter Tryd.func35, Tryd.ntmps35
  go_wp2
  go_loop [4] (fun i => ∃ k : Nat, k ≤ B ∧ i = .int .i64 k) (fun i => s.size - (intOf i).toNat)
  case atStart => exact ⟨0, Nat.zero_le _, rfl⟩
  case round =>
    obtain ⟨k, hk0, rfl⟩ := hrel
    by_cases hkB : k < B
    · have hks : k < s.size := by omega
      have hb := HB.out k hkB hks
      rcases hb with hb1 | ⟨hb1, hb2⟩
      all_goals
        go_wp2
        all_goals first
          | (exfalso; omega)
          | (go_round
             case rel => exact ⟨k + 1, by omega, by go_num⟩
             case measure => simp [intOf]; omega)
    · obtain rfl : k = B := by omega
      clear hkB hk0
      go_wp2_with (first | (go_at_call 58; first | ((with_reducible refine (HD.out _).mono ?_); rintro e w' ⟨rfl, rfl⟩) | ((with_reducible refine (HQ.out _).mono ?_); rintro e w' ⟨rfl, rfl⟩)) | (go_at_call 59; refine (HN.out _).mono ?_; rintro e w' ⟨rfl, rfl⟩))
      all_goals first | (exfalso; omega) | (go_ret2; exact ⟨rfl, rfl⟩)

set_option maxHeartbeats 1000000 in
theorem rxP_dBsy (s : ByteArray) (w : World) (hs : s.size ≤ 9223372036854775807) (B T : Nat) (hB : B ≤ s.size) (hT : B + 1 ≤ T) (hTs : T ≤ s.size)
    (HB : Hid (∀ k, ∀ h : k < B, ∀ h2 : k < s.size, (((s[k]'h2).toNat : Int) == 32) = true ∨ ((((s[k]'h2).toNat : Int) == 32) = false ∧ (((s[k]'h2).toNat : Int) == 9) = true)))
    (hc : B < s.size) (c45 : (((s[B]'hc).toNat : Int) == 45) = false) (c43 : (((s[B]'hc).toNat : Int) == 43) = true) (c32 : (((s[B]'hc).toNat : Int) == 32) = false) (c9 : (((s[B]'hc).toNat : Int) == 9) = false)
    (HD : Hid (∀ w, Calls Tryd.prog 58 #[.string s, .int .i64 ((B : Int) + 1)] w fun e w' => e = .returned (.int .i64 T) ∧ w = w'))
    (hk : T < s.size) (h46 : (((s[T]'hk).toNat : Int) == 46) = true) (K : Nat) (hK1 : T + 1 ≤ K) (hK2 : K ≤ s.size)
    (HQ : Hid (∀ w, Calls Tryd.prog 58 #[.string s, .int .i64 ((T : Int) + 1)] w fun e w' => e = .returned (.int .i64 K) ∧ w = w'))
    (e1 : ¬ ((B : Int) + 1) < (T : Int)) (e2 : (T : Int) + 1 < (K : Int)) (e3 : ((K : Int) == ((B : Int) + 1)) = false)
    (hl : K ≤ T + 5)
    (n : Int) (n1 : 0 ≤ n) (n2 : n ≤ 10000000000000)
    (HN : Hid (∀ w, Calls Tryd.prog 59 #[.string (s.extract (B + 1) T), .string (s.extract (T + 1) K)] w fun e w' => e = .returned (.tuple #[.int .i64 n, .bool true]) ∧ w = w')) :
    Calls Tryd.prog 35 #[.string s] w fun e w' => e = .returned (.tuple #[.int .i64 (n), .int .i64 K]) ∧ w = w' := by
  go_enter Tryd.func35, Tryd.ntmps35
  go_wp2
  go_loop [4] (fun i => ∃ k : Nat, k ≤ B ∧ i = .int .i64 k) (fun i => s.size - (intOf i).toNat)
  case atStart => exact ⟨0, Nat.zero_le _, rfl⟩
  case round =>
    obtain ⟨k, hk0, rfl⟩ := hrel
    by_cases hkB : k < B
    · have hks : k < s.size := by omega
      have hb := HB.out k hkB hks
      rcases hb with hb1 | ⟨hb1, hb2⟩
      all_goals
        go_wp2
        all_goals first
          | (exfalso; omega)
          | (go_round
             case rel => exact ⟨k + 1, by omega, by go_num⟩
             case measure => simp [intOf]; omega)
    · obtain rfl : k = B := by omega
      clear hkB hk0
      go_wp2_with (first | (go_at_call 58; first | ((with_reducible refine (HD.out _).mono ?_); rintro e w' ⟨rfl, rfl⟩) | ((with_reducible refine (HQ.out _).mono ?_); rintro e w' ⟨rfl, rfl⟩)) | (go_at_call 59; refine (HN.out _).mono ?_; rintro e w' ⟨rfl, rfl⟩))
      all_goals first | (exfalso; omega) | (go_ret2; exact ⟨rfl, rfl⟩)

set_option maxHeartbeats 1000000 in
theorem rxP_dBsn (s : ByteArray) (w : World) (hs : s.size ≤ 9223372036854775807) (B T : Nat) (hB : B ≤ s.size) (hT : B + 1 ≤ T) (hTs : T ≤ s.size)
    (HB : Hid (∀ k, ∀ h : k < B, ∀ h2 : k < s.size, (((s[k]'h2).toNat : Int) == 32) = true ∨ ((((s[k]'h2).toNat : Int) == 32) = false ∧ (((s[k]'h2).toNat : Int) == 9) = true)))
    (hc : B < s.size) (c45 : (((s[B]'hc).toNat : Int) == 45) = false) (c43 : (((s[B]'hc).toNat : Int) == 43) = true) (c32 : (((s[B]'hc).toNat : Int) == 32) = false) (c9 : (((s[B]'hc).toNat : Int) == 9) = false)
    (HD : Hid (∀ w, Calls Tryd.prog 58 #[.string s, .int .i64 ((B : Int) + 1)] w fun e w' => e = .returned (.int .i64 T) ∧ w = w'))
    (hk : T < s.size) (h46 : (((s[T]'hk).toNat : Int) == 46) = true) (K : Nat) (hK1 : T + 1 ≤ K) (hK2 : K ≤ s.size)
    (HQ : Hid (∀ w, Calls Tryd.prog 58 #[.string s, .int .i64 ((T : Int) + 1)] w fun e w' => e = .returned (.int .i64 K) ∧ w = w'))
    (e1 : ¬ ((B : Int) + 1) < (T : Int)) (e2 : (T : Int) + 1 < (K : Int)) (e3 : ((K : Int) == ((B : Int) + 1)) = false)
    (hl : K ≤ T + 5)
    (n : Int)
    (HN : Hid (∀ w, Calls Tryd.prog 59 #[.string (s.extract (B + 1) T), .string (s.extract (T + 1) K)] w fun e w' => e = .returned (.tuple #[.int .i64 n, .bool false]) ∧ w = w')) :
    Calls Tryd.prog 35 #[.string s] w fun e w' => e = .returned (.tuple #[.int .i64 (10000000000000), .int .i64 K]) ∧ w = w' := by
  go_enter Tryd.func35, Tryd.ntmps35
  go_wp2
  go_loop [4] (fun i => ∃ k : Nat, k ≤ B ∧ i = .int .i64 k) (fun i => s.size - (intOf i).toNat)
  case atStart => exact ⟨0, Nat.zero_le _, rfl⟩
  case round =>
    obtain ⟨k, hk0, rfl⟩ := hrel
    by_cases hkB : k < B
    · have hks : k < s.size := by omega
      have hb := HB.out k hkB hks
      rcases hb with hb1 | ⟨hb1, hb2⟩
      all_goals
        go_wp2
        all_goals first
          | (exfalso; omega)
          | (go_round
             case rel => exact ⟨k + 1, by omega, by go_num⟩
             case measure => simp [intOf]; omega)
    · obtain rfl : k = B := by omega
      clear hkB hk0
      go_wp2_with (first | (go_at_call 58; first | ((with_reducible refine (HD.out _).mono ?_); rintro e w' ⟨rfl, rfl⟩) | ((with_reducible refine (HQ.out _).mono ?_); rintro e w' ⟨rfl, rfl⟩)) | (go_at_call 59; refine (HN.out _).mono ?_; rintro e w' ⟨rfl, rfl⟩))
      all_goals first | (exfalso; omega) | (go_ret2; exact ⟨rfl, rfl⟩)

set_option maxHeartbeats 1000000 in
theorem rxP_dBly (s : ByteArray) (w : World) (hs : s.size ≤ 9223372036854775807) (B T : Nat) (hB : B ≤ s.size) (hT : B + 1 ≤ T) (hTs : T ≤ s.size)
    (HB : Hid (∀ k, ∀ h : k < B, ∀ h2 : k < s.size, (((s[k]'h2).toNat : Int) == 32) = true ∨ ((((s[k]'h2).toNat : Int) == 32) = false ∧ (((s[k]'h2).toNat : Int) == 9) = true)))
    (hc : B < s.size) (c45 : (((s[B]'hc).toNat : Int) == 45) = false) (c43 : (((s[B]'hc).toNat : Int) == 43) = true) (c32 : (((s[B]'hc).toNat : Int) == 32) = false) (c9 : (((s[B]'hc).toNat : Int) == 9) = false)
    (HD : Hid (∀ w, Calls Tryd.prog 58 #[.string s, .int .i64 ((B : Int) + 1)] w fun e w' => e = .returned (.int .i64 T) ∧ w = w'))
    (hk : T < s.size) (h46 : (((s[T]'hk).toNat : Int) == 46) = true) (K : Nat) (hK1 : T + 1 ≤ K) (hK2 : K ≤ s.size)
    (HQ : Hid (∀ w, Calls Tryd.prog 58 #[.string s, .int .i64 ((T : Int) + 1)] w fun e w' => e = .returned (.int .i64 K) ∧ w = w'))
    (e1 : ¬ ((B : Int) + 1) < (T : Int)) (e2 : (T : Int) + 1 < (K : Int)) (e3 : ((K : Int) == ((B : Int) + 1)) = false)
    (hl : T + 5 < K)
    (n : Int) (n1 : 0 ≤ n) (n2 : n ≤ 10000000000000)
    (HN : Hid (∀ w, Calls Tryd.prog 59 #[.string (s.extract (B + 1) T), .string ((s.extract (T + 1) K).extract 0 4)] w fun e w' => e = .returned (.tuple #[.int .i64 n, .bool true]) ∧ w = w')) :
    Calls Tryd.prog 35 #[.string s] w fun e w' => e = .returned (.tuple #[.int .i64 (n), .int .i64 K]) ∧ w = w' := by
  go_enter Tryd.func35, Tryd.ntmps35
  go_wp2
  go_loop [4] (fun i => ∃ k : Nat, k ≤ B ∧ i = .int .i64 k) (fun i => s.size - (intOf i).toNat)
  case atStart => exact ⟨0, Nat.zero_le _, rfl⟩
  case round =>
    obtain ⟨k, hk0, rfl⟩ := hrel
    by_cases hkB : k < B
    · have hks : k < s.size := by omega
      have hb := HB.out k hkB hks
      rcases hb with hb1 | ⟨hb1, hb2⟩
      all_goals
        go_wp2
        all_goals first
          | (exfalso; omega)
          | (go_round
             case rel => exact ⟨k + 1, by omega, by go_num⟩
             case measure => simp [intOf]; omega)
    · obtain rfl : k = B := by omega
      clear hkB hk0
      go_wp2_with (first | (go_at_call 58; first | ((with_reducible refine (HD.out _).mono ?_); rintro e w' ⟨rfl, rfl⟩) | ((with_reducible refine (HQ.out _).mono ?_); rintro e w' ⟨rfl, rfl⟩)) | (go_at_call 59; refine (HN.out _).mono ?_; rintro e w' ⟨rfl, rfl⟩))
      all_goals first | (exfalso; omega) | (go_ret2; exact ⟨rfl, rfl⟩)

set_option maxHeartbeats 1000000 in
theorem rxP_dBln (s : ByteArray) (w : World) (hs : s.size ≤ 9223372036854775807) (B T : Nat) (hB : B ≤ s.size) (hT : B + 1 ≤ T) (hTs : T ≤ s.size)
    (HB : Hid (∀ k, ∀ h : k < B, ∀ h2 : k < s.size, (((s[k]'h2).toNat : Int) == 32) = true ∨ ((((s[k]'h2).toNat : Int) == 32) = false ∧ (((s[k]'h2).toNat : Int) == 9) = true)))
    (hc : B < s.size) (c45 : (((s[B]'hc).toNat : Int) == 45) = false) (c43 : (((s[B]'hc).toNat : Int) == 43) = true) (c32 : (((s[B]'hc).toNat : Int) == 32) = false) (c9 : (((s[B]'hc).toNat : Int) == 9) = false)
    (HD : Hid (∀ w, Calls Tryd.prog 58 #[.string s, .int .i64 ((B : Int) + 1)] w fun e w' => e = .returned (.int .i64 T) ∧ w = w'))
    (hk : T < s.size) (h46 : (((s[T]'hk).toNat : Int) == 46) = true) (K : Nat) (hK1 : T + 1 ≤ K) (hK2 : K ≤ s.size)
    (HQ : Hid (∀ w, Calls Tryd.prog 58 #[.string s, .int .i64 ((T : Int) + 1)] w fun e w' => e = .returned (.int .i64 K) ∧ w = w'))
    (e1 : ¬ ((B : Int) + 1) < (T : Int)) (e2 : (T : Int) + 1 < (K : Int)) (e3 : ((K : Int) == ((B : Int) + 1)) = false)
    (hl : T + 5 < K)
    (n : Int)
    (HN : Hid (∀ w, Calls Tryd.prog 59 #[.string (s.extract (B + 1) T), .string ((s.extract (T + 1) K).extract 0 4)] w fun e w' => e = .returned (.tuple #[.int .i64 n, .bool false]) ∧ w = w')) :
    Calls Tryd.prog 35 #[.string s] w fun e w' => e = .returned (.tuple #[.int .i64 (10000000000000), .int .i64 K]) ∧ w = w' := by
  go_enter Tryd.func35, Tryd.ntmps35
  go_wp2
  go_loop [4] (fun i => ∃ k : Nat, k ≤ B ∧ i = .int .i64 k) (fun i => s.size - (intOf i).toNat)
  case atStart => exact ⟨0, Nat.zero_le _, rfl⟩
  case round =>
    obtain ⟨k, hk0, rfl⟩ := hrel
    by_cases hkB : k < B
    · have hks : k < s.size := by omega
      have hb := HB.out k hkB hks
      rcases hb with hb1 | ⟨hb1, hb2⟩
      all_goals
        go_wp2
        all_goals first
          | (exfalso; omega)
          | (go_round
             case rel => exact ⟨k + 1, by omega, by go_num⟩
             case measure => simp [intOf]; omega)
    · obtain rfl : k = B := by omega
      clear hkB hk0
      go_wp2_with (first | (go_at_call 58; first | ((with_reducible refine (HD.out _).mono ?_); rintro e w' ⟨rfl, rfl⟩) | ((with_reducible refine (HQ.out _).mono ?_); rintro e w' ⟨rfl, rfl⟩)) | (go_at_call 59; refine (HN.out _).mono ?_; rintro e w' ⟨rfl, rfl⟩))
      all_goals first | (exfalso; omega) | (go_ret2; exact ⟨rfl, rfl⟩)

set_option maxHeartbeats 1000000 in
theorem rxO_n0 (s : ByteArray) (w : World) (hs : s.size ≤ 9223372036854775807) (B T : Nat) (hB : B ≤ s.size) (hT : B ≤ T) (hTs : T ≤ s.size)
    (HB : Hid (∀ k, ∀ h : k < B, ∀ h2 : k < s.size, (((s[k]'h2).toNat : Int) == 32) = true ∨ ((((s[k]'h2).toNat : Int) == 32) = false ∧ (((s[k]'h2).toNat : Int) == 9) = true)))
    (hc : B < s.size) (c45 : (((s[B]'hc).toNat : Int) == 45) = false) (c43 : (((s[B]'hc).toNat : Int) == 43) = false) (c32 : (((s[B]'hc).toNat : Int) == 32) = false) (c9 : (((s[B]'hc).toNat : Int) == 9) = false)
    (HD : Hid (∀ w, Calls Tryd.prog 58 #[.string s, .int .i64 (B : Int)] w fun e w' => e = .returned (.int .i64 T) ∧ w = w'))
    (hn : (s.size : Int) ≤ (T : Int) ∨ ∃ h : T < s.size, (((s[T]'h).toNat : Int) == 46) = false)
    (e1 : ¬ (B : Int) < (T : Int)) (e2 : ((T : Int) == (B : Int)) = true) :
    Calls Tryd.prog 35 #[.string s] w fun e w' => e = .returned (.tuple #[.int .i64 0, .int .i64 0]) ∧ w = w' := by
  go_enter Tryd.func35, Tryd.ntmps35
  go_wp2
  go_loop [4] (fun i => ∃ k : Nat, k ≤ B ∧ i = .int .i64 k) (fun i => s.size - (intOf i).toNat)
  case atStart => exact ⟨0, Nat.zero_le _, rfl⟩
  case round =>
    obtain ⟨k, hk0, rfl⟩ := hrel
    by_cases hkB : k < B
    · have hks : k < s.size := by omega
      have hb := HB.out k hkB hks
      rcases hb with hb1 | ⟨hb1, hb2⟩
      all_goals
        go_wp2
        all_goals first
          | (exfalso; omega)
          | (go_round
             case rel => exact ⟨k + 1, by omega, by go_num⟩
             case measure => simp [intOf]; omega)
    · obtain rfl : k = B := by omega
      clear hkB hk0
      rcases hn with hn | ⟨hk, hn⟩
      all_goals
        go_wp2_with (first | (go_at_call 58; first | ((with_reducible refine (HD.out _).mono ?_); rintro e w' ⟨rfl, rfl⟩)))
        all_goals first | (exfalso; omega) | (go_ret2; exact ⟨rfl, rfl⟩)

set_option maxHeartbeats 1000000 in
theorem rxO_n1y (s : ByteArray) (w : World) (hs : s.size ≤ 9223372036854775807) (B T : Nat) (hB : B ≤ s.size) (hT : B ≤ T) (hTs : T ≤ s.size)
    (HB : Hid (∀ k, ∀ h : k < B, ∀ h2 : k < s.size, (((s[k]'h2).toNat : Int) == 32) = true ∨ ((((s[k]'h2).toNat : Int) == 32) = false ∧ (((s[k]'h2).toNat : Int) == 9) = true)))
    (hc : B < s.size) (c45 : (((s[B]'hc).toNat : Int) == 45) = false) (c43 : (((s[B]'hc).toNat : Int) == 43) = false) (c32 : (((s[B]'hc).toNat : Int) == 32) = false) (c9 : (((s[B]'hc).toNat : Int) == 9) = false)
    (HD : Hid (∀ w, Calls Tryd.prog 58 #[.string s, .int .i64 (B : Int)] w fun e w' => e = .returned (.int .i64 T) ∧ w = w'))
    (hn : (s.size : Int) ≤ (T : Int) ∨ ∃ h : T < s.size, (((s[T]'h).toNat : Int) == 46) = false)
    (e1 : (B : Int) < (T : Int)) (e2 : ((T : Int) == (B : Int)) = false)
    (n : Int) (n1 : 0 ≤ n) (n2 : n ≤ 10000000000000)
    (HN : Hid (∀ w, Calls Tryd.prog 59 #[.string (s.extract B T), .string ⟨#[]⟩] w fun e w' => e = .returned (.tuple #[.int .i64 n, .bool true]) ∧ w = w')) :
    Calls Tryd.prog 35 #[.string s] w fun e w' => e = .returned (.tuple #[.int .i64 (n), .int .i64 T]) ∧ w = w' := by
  go_enter Tryd.func35, Tryd.ntmps35
  go_wp2
  go_loop [4] (fun i => ∃ k : Nat, k ≤ B ∧ i = .int .i64 k) (fun i => s.size - (intOf i).toNat)
  case atStart => exact ⟨0, Nat.zero_le _, rfl⟩
  case round =>
    obtain ⟨k, hk0, rfl⟩ := hrel
    by_cases hkB : k < B
    · have hks : k < s.size := by omega
      have hb := HB.out k hkB hks
      rcases hb with hb1 | ⟨hb1, hb2⟩
      all_goals
        go_wp2
        all_goals first
          | (exfalso; omega)
          | (go_round
             case rel => exact ⟨k + 1, by omega, by go_num⟩
             case measure => simp [intOf]; omega)
    · obtain rfl : k = B := by omega
      clear hkB hk0
      rcases hn with hn | ⟨hk, hn⟩
      all_goals
        go_wp2_with (first | (go_at_call 58; first | ((with_reducible refine (HD.out _).mono ?_); rintro e w' ⟨rfl, rfl⟩)) | (go_at_call 59; refine (HN.out _).mono ?_; rintro e w' ⟨rfl, rfl⟩))
        all_goals first | (exfalso; omega) | (go_ret2; exact ⟨rfl, rfl⟩)

set_option maxHeartbeats 1000000 in
theorem rxO_n1n (s : ByteArray) (w : World) (hs : s.size ≤ 9223372036854775807) (B T : Nat) (hB : B ≤ s.size) (hT : B ≤ T) (hTs : T ≤ s.size)
    (HB : Hid (∀ k, ∀ h : k < B, ∀ h2 : k < s.size, (((s[k]'h2).toNat : Int) == 32) = true ∨ ((((s[k]'h2).toNat : Int) == 32) = false ∧ (((s[k]'h2).toNat : Int) == 9) = true)))
    (hc : B < s.size) (c45 : (((s[B]'hc).toNat : Int) == 45) = false) (c43 : (((s[B]'hc).toNat : Int) == 43) = false) (c32 : (((s[B]'hc).toNat : Int) == 32) = false) (c9 : (((s[B]'hc).toNat : Int) == 9) = false)
    (HD : Hid (∀ w, Calls Tryd.prog 58 #[.string s, .int .i64 (B : Int)] w fun e w' => e = .returned (.int .i64 T) ∧ w = w'))
    (hn : (s.size : Int) ≤ (T : Int) ∨ ∃ h : T < s.size, (((s[T]'h).toNat : Int) == 46) = false)
    (e1 : (B : Int) < (T : Int)) (e2 : ((T : Int) == (B : Int)) = false)
    (n : Int)
    (HN : Hid (∀ w, Calls Tryd.prog 59 #[.string (s.extract B T), .string ⟨#[]⟩] w fun e w' => e = .returned (.tuple #[.int .i64 n, .bool false]) ∧ w = w')) :
    Calls Tryd.prog 35 #[.string s] w fun e w' => e = .returned (.tuple #[.int .i64 (10000000000000), .int .i64 T]) ∧ w = w' := by
  go_enter Tryd.func35, Tryd.ntmps35
  go_wp2
  go_loop [4] (fun i => ∃ k : Nat, k ≤ B ∧ i = .int .i64 k) (fun i => s.size - (intOf i).toNat)
  case atStart => exact ⟨0, Nat.zero_le _, rfl⟩
  case round =>
    obtain ⟨k, hk0, rfl⟩ := hrel
    by_cases hkB : k < B
    · have hks : k < s.size := by omega
      have hb := HB.out k hkB hks
      rcases hb with hb1 | ⟨hb1, hb2⟩
      all_goals
        go_wp2
        all_goals first
          | (exfalso; omega)
          | (go_round
             case rel => exact ⟨k + 1, by omega, by go_num⟩
             case measure => simp [intOf]; omega)
    · obtain rfl : k = B := by omega
      clear hkB hk0
      rcases hn with hn | ⟨hk, hn⟩
      all_goals
        go_wp2_with (first | (go_at_call 58; first | ((with_reducible refine (HD.out _).mono ?_); rintro e w' ⟨rfl, rfl⟩)) | (go_at_call 59; refine (HN.out _).mono ?_; rintro e w' ⟨rfl, rfl⟩))
        all_goals first | (exfalso; omega) | (go_ret2; exact ⟨rfl, rfl⟩)

set_option maxHeartbeats 1000000 in
theorem rxO_d0 (s : ByteArray) (w : World) (hs : s.size ≤ 9223372036854775807) (B T : Nat) (hB : B ≤ s.size) (hT : B ≤ T) (hTs : T ≤ s.size)
    (HB : Hid (∀ k, ∀ h : k < B, ∀ h2 : k < s.size, (((s[k]'h2).toNat : Int) == 32) = true ∨ ((((s[k]'h2).toNat : Int) == 32) = false ∧ (((s[k]'h2).toNat : Int) == 9) = true)))
    (hc : B < s.size) (c45 : (((s[B]'hc).toNat : Int) == 45) = false) (c43 : (((s[B]'hc).toNat : Int) == 43) = false) (c32 : (((s[B]'hc).toNat : Int) == 32) = false) (c9 : (((s[B]'hc).toNat : Int) == 9) = false)
    (HD : Hid (∀ w, Calls Tryd.prog 58 #[.string s, .int .i64 (B : Int)] w fun e w' => e = .returned (.int .i64 T) ∧ w = w'))
    (hk : T < s.size) (h46 : (((s[T]'hk).toNat : Int) == 46) = true) (K : Nat) (hK1 : T + 1 ≤ K) (hK2 : K ≤ s.size)
    (HQ : Hid (∀ w, Calls Tryd.prog 58 #[.string s, .int .i64 ((T : Int) + 1)] w fun e w' => e = .returned (.int .i64 K) ∧ w = w'))
    (e1 : ¬ (B : Int) < (T : Int)) (e2 : ¬ (T : Int) + 1 < (K : Int)) (e3 : ((T : Int) == (B : Int)) = true) :
    Calls Tryd.prog 35 #[.string s] w fun e w' => e = .returned (.tuple #[.int .i64 0, .int .i64 0]) ∧ w = w' := by
  go_enter Tryd.func35, Tryd.ntmps35
  go_wp2
  go_loop [4] (fun i => ∃ k : Nat, k ≤ B ∧ i = .int .i64 k) (fun i => s.size - (intOf i).toNat)
  case atStart => exact ⟨0, Nat.zero_le _, rfl⟩
  case round =>
    obtain ⟨k, hk0, rfl⟩ := hrel
    by_cases hkB : k < B
    · have hks : k < s.size := by omega
      have hb := HB.out k hkB hks
      rcases hb with hb1 | ⟨hb1, hb2⟩
      all_goals
        go_wp2
        all_goals first
          | (exfalso; omega)
          | (go_round
             case rel => exact ⟨k + 1, by omega, by go_num⟩
             case measure => simp [intOf]; omega)
    · obtain rfl : k = B := by omega
      clear hkB hk0
      go_wp2_with (first | (go_at_call 58; first | ((with_reducible refine (HD.out _).mono ?_); rintro e w' ⟨rfl, rfl⟩) | ((with_reducible refine (HQ.out _).mono ?_); rintro e w' ⟨rfl, rfl⟩)))
      all_goals first | (exfalso; omega) | (go_ret2; exact ⟨rfl, rfl⟩)

set_option maxHeartbeats 1000000 in
theorem rxO_dAsy (s : ByteArray) (w : World) (hs : s.size ≤ 9223372036854775807) (B T : Nat) (hB : B ≤ s.size) (hT : B ≤ T) (hTs : T ≤ s.size)
    (HB : Hid (∀ k, ∀ h : k < B, ∀ h2 : k < s.size, (((s[k]'h2).toNat : Int) == 32) = true ∨ ((((s[k]'h2).toNat : Int) == 32) = false ∧ (((s[k]'h2).toNat : Int) == 9) = true)))
    (hc : B < s.size) (c45 : (((s[B]'hc).toNat : Int) == 45) = false) (c43 : (((s[B]'hc).toNat : Int) == 43) = false) (c32 : (((s[B]'hc).toNat : Int) == 32) = false) (c9 : (((s[B]'hc).toNat : Int) == 9) = false)
    (HD : Hid (∀ w, Calls Tryd.prog 58 #[.string s, .int .i64 (B : Int)] w fun e w' => e = .returned (.int .i64 T) ∧ w = w'))
    (hk : T < s.size) (h46 : (((s[T]'hk).toNat : Int) == 46) = true) (K : Nat) (hK1 : T + 1 ≤ K) (hK2 : K ≤ s.size)
    (HQ : Hid (∀ w, Calls Tryd.prog 58 #[.string s, .int .i64 ((T : Int) + 1)] w fun e w' => e = .returned (.int .i64 K) ∧ w = w'))
    (e1 : (B : Int) < (T : Int)) (e2 : ((K : Int) == (B : Int)) = false)
    (hl : K ≤ T + 5)
    (n : Int) (n1 : 0 ≤ n) (n2 : n ≤ 10000000000000)
    (HN : Hid (∀ w, Calls Tryd.prog 59 #[.string (s.extract B T), .string (s.extract (T + 1) K)] w fun e w' => e = .returned (.tuple #[.int .i64 n, .bool true]) ∧ w = w')) :
    Calls Tryd.prog 35 #[.string s] w fun e w' => e = .returned (.tuple #[.int .i64 (n), .int .i64 K]) ∧ w = w' := by
  go_enter Tryd.func35, Tryd.ntmps35
  go_wp2
  go_loop [4] (fun i => ∃ k : Nat, k ≤ B ∧ i = .int .i64 k) (fun i => s.size - (intOf i).toNat)
  case atStart => exact ⟨0, Nat.zero_le _, rfl⟩
  case round =>
    obtain ⟨k, hk0, rfl⟩ := hrel
    by_cases hkB : k < B
    · have hks : k < s.size := by omega
      have hb := HB.out k hkB hks
      rcases hb with hb1 | ⟨hb1, hb2⟩
      all_goals
        go_wp2
        all_goals first
          | (exfalso; omega)
          | (go_round
             case rel => exact ⟨k + 1, by omega, by go_num⟩
             case measure => simp [intOf]; omega)
    · obtain rfl : k = B := by omega
      clear hkB hk0
      go_wp2_with (first | (go_at_call 58; first | ((with_reducible refine (HD.out _).mono ?_); rintro e w' ⟨rfl, rfl⟩) | ((with_reducible refine (HQ.out _).mono ?_); rintro e w' ⟨rfl, rfl⟩)) | (go_at_call 59; refine (HN.out _).mono ?_; rintro e w' ⟨rfl, rfl⟩))
      all_goals first | (exfalso; omega) | (go_ret2; exact ⟨rfl, rfl⟩)

set_option maxHeartbeats 1000000 in
theorem rxO_dAsn (s : ByteArray) (w : World) (hs : s.size ≤ 9223372036854775807) (B T : Nat) (hB : B ≤ s.size) (hT : B ≤ T) (hTs : T ≤ s.size)
    (HB : Hid (∀ k, ∀ h : k < B, ∀ h2 : k < s.size, (((s[k]'h2).toNat : Int) == 32) = true ∨ ((((s[k]'h2).toNat : Int) == 32) = false ∧ (((s[k]'h2).toNat : Int) == 9) = true)))
    (hc : B < s.size) (c45 : (((s[B]'hc).toNat : Int) == 45) = false) (c43 : (((s[B]'hc).toNat : Int) == 43) = false) (c32 : (((s[B]'hc).toNat : Int) == 32) = false) (c9 : (((s[B]'hc).toNat : Int) == 9) = false)
    (HD : Hid (∀ w, Calls Tryd.prog 58 #[.string s, .int .i64 (B : Int)] w fun e w' => e = .returned (.int .i64 T) ∧ w = w'))
    (hk : T < s.size) (h46 : (((s[T]'hk).toNat : Int) == 46) = true) (K : Nat) (hK1 : T + 1 ≤ K) (hK2 : K ≤ s.size)
    (HQ : Hid (∀ w, Calls Tryd.prog 58 #[.string s, .int .i64 ((T : Int) + 1)] w fun e w' => e = .returned (.int .i64 K) ∧ w = w'))
    (e1 : (B : Int) < (T : Int)) (e2 : ((K : Int) == (B : Int)) = false)
    (hl : K ≤ T + 5)
    (n : Int)
    (HN : Hid (∀ w, Calls Tryd.prog 59 #[.string (s.extract B T), .string (s.extract (T + 1) K)] w fun e w' => e = .returned (.tuple #[.int .i64 n, .bool false]) ∧ w = w')) :
    Calls Tryd.prog 35 #[.string s] w fun e w' => e = .returned (.tuple #[.int .i64 (10000000000000), .int .i64 K]) ∧ w = w' := by
  go_enter Tryd.func35, Tryd.ntmps35
  go_wp2
  go_loop [4] (fun i => ∃ k : Nat, k ≤ B ∧ i = .int .i64 k) (fun i => s.size - (intOf i).toNat)
  case atStart => exact ⟨0, Nat.zero_le _, rfl⟩
  case round =>
    obtain ⟨k, hk0, rfl⟩ := hrel
    by_cases hkB : k < B
    · have hks : k < s.size := by omega
      have hb := HB.out k hkB hks
      rcases hb with hb1 | ⟨hb1, hb2⟩
      all_goals
        go_wp2
        all_goals first
          | (exfalso; omega)
          | (go_round
             case rel => exact ⟨k + 1, by omega, by go_num⟩
             case measure => simp [intOf]; omega)
    · obtain rfl : k = B := by omega
      clear hkB hk0
      go_wp2_with (first | (go_at_call 58; first | ((with_reducible refine (HD.out _).mono ?_); rintro e w' ⟨rfl, rfl⟩) | ((with_reducible refine (HQ.out _).mono ?_); rintro e w' ⟨rfl, rfl⟩)) | (go_at_call 59; refine (HN.out _).mono ?_; rintro e w' ⟨rfl, rfl⟩))
      all_goals first | (exfalso; omega) | (go_ret2; exact ⟨rfl, rfl⟩)

set_option maxHeartbeats 1000000 in
theorem rxO_dAly (s : ByteArray) (w : World) (hs : s.size ≤ 9223372036854775807) (B T : Nat) (hB : B ≤ s.size) (hT : B ≤ T) (hTs : T ≤ s.size)
    (HB : Hid (∀ k, ∀ h : k < B, ∀ h2 : k < s.size, (((s[k]'h2).toNat : Int) == 32) = true ∨ ((((s[k]'h2).toNat : Int) == 32) = false ∧ (((s[k]'h2).toNat : Int) == 9) = true)))
    (hc : B < s.size) (c45 : (((s[B]'hc).toNat : Int) == 45) = false) (c43 : (((s[B]'hc).toNat : Int) == 43) = false) (c32 : (((s[B]'hc).toNat : Int) == 32) = false) (c9 : (((s[B]'hc).toNat : Int) == 9) = false)
    (HD : Hid (∀ w, Calls Tryd.prog 58 #[.string s, .int .i64 (B : Int)] w fun e w' => e = .returned (.int .i64 T) ∧ w = w'))
    (hk : T < s.size) (h46 : (((s[T]'hk).toNat : Int) == 46) = true) (K : Nat) (hK1 : T + 1 ≤ K) (hK2 : K ≤ s.size)
    (HQ : Hid (∀ w, Calls Tryd.prog 58 #[.string s, .int .i64 ((T : Int) + 1)] w fun e w' => e = .returned (.int .i64 K) ∧ w = w'))
    (e1 : (B : Int) < (T : Int)) (e2 : ((K : Int) == (B : Int)) = false)
    (hl : T + 5 < K)
    (n : Int) (n1 : 0 ≤ n) (n2 : n ≤ 10000000000000)
    (HN : Hid (∀ w, Calls Tryd.prog 59 #[.string (s.extract B T), .string ((s.extract (T + 1) K).extract 0 4)] w fun e w' => e = .returned (.tuple #[.int .i64 n, .bool true]) ∧ w = w')) :
    Calls Tryd.prog 35 #[.string s] w fun e w' => e = .returned (.tuple #[.int .i64 (n), .int .i64 K]) ∧ w = w' := by
  go_enter Tryd.func35, Tryd.ntmps35
  go_wp2
  go_loop [4] (fun i => ∃ k : Nat, k ≤ B ∧ i = .int .i64 k) (fun i => s.size - (intOf i).toNat)
  case atStart => exact ⟨0, Nat.zero_le _, rfl⟩
  case round =>
    obtain ⟨k, hk0, rfl⟩ := hrel
    by_cases hkB : k < B
    · have hks : k < s.size := by omega
      have hb := HB.out k hkB hks
      rcases hb with hb1 | ⟨hb1, hb2⟩
      all_goals
        go_wp2
        all_goals first
          | (exfalso; omega)
          | (go_round
             case rel => exact ⟨k + 1, by omega, by go_num⟩
             case measure => simp [intOf]; omega)
    · obtain rfl : k = B := by omega
      clear hkB hk0
      go_wp2_with (first | (go_at_call 58; first | ((with_reducible refine (HD.out _).mono ?_); rintro e w' ⟨rfl, rfl⟩) | ((with_reducible refine (HQ.out _).mono ?_); rintro e w' ⟨rfl, rfl⟩)) | (go_at_call 59; refine (HN.out _).mono ?_; rintro e w' ⟨rfl, rfl⟩))
      all_goals first | (exfalso; omega) | (go_ret2; exact ⟨rfl, rfl⟩)

set_option maxHeartbeats 1000000 in
theorem rxO_dAln (s : ByteArray) (w : World) (hs : s.size ≤ 9223372036854775807) (B T : Nat) (hB : B ≤ s.size) (hT : B ≤ T) (hTs : T ≤ s.size)
    (HB : Hid (∀ k, ∀ h : k < B, ∀ h2 : k < s.size, (((s[k]'h2).toNat : Int) == 32) = true ∨ ((((s[k]'h2).toNat : Int) == 32) = false ∧ (((s[k]'h2).toNat : Int) == 9) = true)))
    (hc : B < s.size) (c45 : (((s[B]'hc).toNat : Int) == 45) = false) (c43 : (((s[B]'hc).toNat : Int) == 43) = false) (c32 : (((s[B]'hc).toNat : Int) == 32) = false) (c9 : (((s[B]'hc).toNat : Int) == 9) = false)
    (HD : Hid (∀ w, Calls Tryd.prog 58 #[.string s, .int .i64 (B : Int)] w fun e w' => e = .returned (.int .i64 T) ∧ w = w'))
    (hk : T < s.size) (h46 : (((s[T]'hk).toNat : Int) == 46) = true) (K : Nat) (hK1 : T + 1 ≤ K) (hK2 : K ≤ s.size)
    (HQ : Hid (∀ w, Calls Tryd.prog 58 #[.string s, .int .i64 ((T : Int) + 1)] w fun e w' => e = .returned (.int .i64 K) ∧ w = w'))
    (e1 : (B : Int) < (T : Int)) (e2 : ((K : Int) == (B : Int)) = false)
    (hl : T + 5 < K)
    (n : Int)
    (HN : Hid (∀ w, Calls Tryd.prog 59 #[.string (s.extract B T), .string ((s.extract (T + 1) K).extract 0 4)] w fun e w' => e = .returned (.tuple #[.int .i64 n, .bool false]) ∧ w = w')) :
    Calls Tryd.prog 35 #[.string s] w fun e w' => e = .returned (.tuple #[.int .i64 (10000000000000), .int .i64 K]) ∧ w = w' := by
  go_enter Tryd.func35, Tryd.ntmps35
  go_wp2
  go_loop [4] (fun i => ∃ k : Nat, k ≤ B ∧ i = .int .i64 k) (fun i => s.size - (intOf i).toNat)
  case atStart => exact ⟨0, Nat.zero_le _, rfl⟩
  case round =>
    obtain ⟨k, hk0, rfl⟩ := hrel
    by_cases hkB : k < B
    · have hks : k < s.size := by omega
      have hb := HB.out k hkB hks
      rcases hb with hb1 | ⟨hb1, hb2⟩
      all_goals
        go_wp2
        all_goals first
          | (exfalso; omega)
          | (go_round
             case rel => exact ⟨k + 1, by omega, by go_num⟩
             case measure => simp [intOf]; omega)
    · obtain rfl : k = B := by omega
      clear hkB hk0
      go_wp2_with (first | (go_at_call 58; first | ((with_reducible refine (HD.out _).mono ?_); rintro e w' ⟨rfl, rfl⟩) | ((with_reducible refine (HQ.out _).mono ?_); rintro e w' ⟨rfl, rfl⟩)) | (go_at_call 59; refine (HN.out _).mono ?_; rintro e w' ⟨rfl, rfl⟩))
      all_goals first | (exfalso; omega) | (go_ret2; exact ⟨rfl, rfl⟩)

set_option maxHeartbeats 1000000 in
theorem rxO_dBsy (s : ByteArray) (w : World) (hs : s.size ≤ 9223372036854775807) (B T : Nat) (hB : B ≤ s.size) (hT : B ≤ T) (hTs : T ≤ s.size)
    (HB : Hid (∀ k, ∀ h : k < B, ∀ h2 : k < s.size, (((s[k]'h2).toNat : Int) == 32) = true ∨ ((((s[k]'h2).toNat : Int) == 32) = false ∧ (((s[k]'h2).toNat : Int) == 9) = true)))
    (hc : B < s.size) (c45 : (((s[B]'hc).toNat : Int) == 45) = false) (c43 : (((s[B]'hc).toNat : Int) == 43) = false) (c32 : (((s[B]'hc).toNat : Int) == 32) = false) (c9 : (((s[B]'hc).toNat : Int) == 9) = false)
    (HD : Hid (∀ w, Calls Tryd.prog 58 #[.string s, .int .i64 (B : Int)] w fun e w' => e = .returned (.int .i64 T) ∧ w = w'))
    (hk : T < s.size) (h46 : (((s[T]'hk).toNat : Int) == 46) = true) (K : Nat) (hK1 : T + 1 ≤ K) (hK2 : K ≤ s.size)
    (HQ : Hid (∀ w, Calls Tryd.prog 58 #[.string s, .int .i64 ((T : Int) + 1)] w fun e w' => e = .returned (.int .i64 K) ∧ w = w'))
    (e1 : ¬ (B : Int) < (T : Int)) (e2 : (T : Int) + 1 < (K : Int)) (e3 : ((K : Int) == (B : Int)) = false)
    (hl : K ≤ T + 5)
    (n : Int) (n1 : 0 ≤ n) (n2 : n ≤ 10000000000000)
    (HN : Hid (∀ w, Calls Tryd.prog 59 #[.string (s.extract B T), .string (s.extract (T + 1) K)] w fun e w' => e = .returned (.tuple #[.int .i64 n, .bool true]) ∧ w = w')) :
    Calls Tryd.prog 35 #[.string s] w fun e w' => e = .returned (.tuple #[.int .i64 (n), .int .i64 K]) ∧ w = w' := by
  go_enter Tryd.func35, Tryd.ntmps35
  go_wp2
  go_loop [4] (fun i => ∃ k : Nat, k ≤ B ∧ i = .int .i64 k) (fun i => s.size - (intOf i).toNat)
  case atStart => exact ⟨0, Nat.zero_le _, rfl⟩
  case round =>
    obtain ⟨k, hk0, rfl⟩ := hrel
    by_cases hkB : k < B
    · have hks : k < s.size := by omega
      have hb := HB.out k hkB hks
      rcases hb with hb1 | ⟨hb1, hb2⟩
      all_goals
        go_wp2
        all_goals first
          | (exfalso; omega)
          | (go_round
             case rel => exact ⟨k + 1, by omega, by go_num⟩
             case measure => simp [intOf]; omega)
    · obtain rfl : k = B := by omega
      clear hkB hk0
      go_wp2_with (first | (go_at_call 58; first | ((with_reducible refine (HD.out _).mono ?_); rintro e w' ⟨rfl, rfl⟩) | ((with_reducible refine (HQ.out _).mono ?_); rintro e w' ⟨rfl, rfl⟩)) | (go_at_call 59; refine (HN.out _).mono ?_; rintro e w' ⟨rfl, rfl⟩))
      all_goals first | (exfalso; omega) | (go_ret2; exact ⟨rfl, rfl⟩)

set_option maxHeartbeats 1000000 in
theorem rxO_dBsn (s : ByteArray) (w : World) (hs : s.size ≤ 9223372036854775807) (B T : Nat) (hB : B ≤ s.size) (hT : B ≤ T) (hTs : T ≤ s.size)
    (HB : Hid (∀ k, ∀ h : k < B, ∀ h2 : k < s.size, (((s[k]'h2).toNat : Int) == 32) = true ∨ ((((s[k]'h2).toNat : Int) == 32) = false ∧ (((s[k]'h2).toNat : Int) == 9) = true)))
    (hc : B < s.size) (c45 : (((s[B]'hc).toNat : Int) == 45) = false) (c43 : (((s[B]'hc).toNat : Int) == 43) = false) (c32 : (((s[B]'hc).toNat : Int) == 32) = false) (c9 : (((s[B]'hc).toNat : Int) == 9) = false)
    (HD : Hid (∀ w, Calls Tryd.prog 58 #[.string s, .int .i64 (B : Int)] w fun e w' => e = .returned (.int .i64 T) ∧ w = w'))
    (hk : T < s.size) (h46 : (((s[T]'hk).toNat : Int) == 46) = true) (K : Nat) (hK1 : T + 1 ≤ K) (hK2 : K ≤ s.size)
    (HQ : Hid (∀ w, Calls Tryd.prog 58 #[.string s, .int .i64 ((T : Int) + 1)] w fun e w' => e = .returned (.int .i64 K) ∧ w = w'))
    (e1 : ¬ (B : Int) < (T : Int)) (e2 : (T : Int) + 1 < (K : Int)) (e3 : ((K : Int) == (B : Int)) = false)
    (hl : K ≤ T + 5)
    (n : Int)
    (HN : Hid (∀ w, Calls Tryd.prog 59 #[.string (s.extract B T), .string (s.extract (T + 1) K)] w fun e w' => e = .returned (.tuple #[.int .i64 n, .bool false]) ∧ w = w')) :
    Calls Tryd.prog 35 #[.string s] w fun e w' => e = .returned (.tuple #[.int .i64 (10000000000000), .int .i64 K]) ∧ w = w' := by
  go_enter Tryd.func35, Tryd.ntmps35
  go_wp2
  go_loop [4] (fun i => ∃ k : Nat, k ≤ B ∧ i = .int .i64 k) (fun i => s.size - (intOf i).toNat)
  case atStart => exact ⟨0, Nat.zero_le _, rfl⟩
  case round =>
    obtain ⟨k, hk0, rfl⟩ := hrel
    by_cases hkB : k < B
    · have hks : k < s.size := by omega
      have hb := HB.out k hkB hks
      rcases hb with hb1 | ⟨hb1, hb2⟩
      all_goals
        go_wp2
        all_goals first
          | (exfalso; omega)
          | (go_round
             case rel => exact ⟨k + 1, by omega, by go_num⟩
             case measure => simp [intOf]; omega)
    · obtain rfl : k = B := by omega
      clear hkB hk0
      go_wp2_with (first | (go_at_call 58; first | ((with_reducible refine (HD.out _).mono ?_); rintro e w' ⟨rfl, rfl⟩) | ((with_reducible refine (HQ.out _).mono ?_); rintro e w' ⟨rfl, rfl⟩)) | (go_at_call 59; refine (HN.out _).mono ?_; rintro e w' ⟨rfl, rfl⟩))
      all_goals first | (exfalso; omega) | (go_ret2; exact ⟨rfl, rfl⟩)

set_option maxHeartbeats 1000000 in
theorem rxO_dBly (s : ByteArray) (w : World) (hs : s.size ≤ 9223372036854775807) (B T : Nat) (hB : B ≤ s.size) (hT : B ≤ T) (hTs : T ≤ s.size)
    (HB : Hid (∀ k, ∀ h : k < B, ∀ h2 : k < s.size, (((s[k]'h2).toNat : Int) == 32) = true ∨ ((((s[k]'h2).toNat : Int) == 32) = false ∧ (((s[k]'h2).toNat : Int) == 9) = true)))
    (hc : B < s.size) (c45 : (((s[B]'hc).toNat : Int) == 45) = false) (c43 : (((s[B]'hc).toNat : Int) == 43) = false) (c32 : (((s[B]'hc).toNat : Int) == 32) = false) (c9 : (((s[B]'hc).toNat : Int) == 9) = false)
    (HD : Hid (∀ w, Calls Tryd.prog 58 #[.string s, .int .i64 (B : Int)] w fun e w' => e = .returned (.int .i64 T) ∧ w = w'))
    (hk : T < s.size) (h46 : (((s[T]'hk).toNat : Int) == 46) = true) (K : Nat) (hK1 : T + 1 ≤ K) (hK2 : K ≤ s.size)
    (HQ : Hid (∀ w, Calls Tryd.prog 58 #[.string s, .int .i64 ((T : Int) + 1)] w fun e w' => e = .returned (.int .i64 K) ∧ w = w'))
    (e1 : ¬ (B : Int) < (T : Int)) (e2 : (T : Int) + 1 < (K : Int)) (e3 : ((K : Int) == (B : Int)) = false)
    (hl : T + 5 < K)
    (n : Int) (n1 : 0 ≤ n) (n2 : n ≤ 10000000000000)
    (HN : Hid (∀ w, Calls Tryd.prog 59 #[.string (s.extract B T), .string ((s.extract (T + 1) K).extract 0 4)] w fun e w' => e = .returned (.tuple #[.int .i64 n, .bool true]) ∧ w = w')) :
    Calls Tryd.prog 35 #[.string s] w fun e w' => e = .returned (.tuple #[.int .i64 (n), .int .i64 K]) ∧ w = w' := by
  go_enter Tryd.func35, Tryd.ntmps35
  go_wp2
  go_loop [4] (fun i => ∃ k : Nat, k ≤ B ∧ i = .int .i64 k) (fun i => s.size - (intOf i).toNat)
  case atStart => exact ⟨0, Nat.zero_le _, rfl⟩
  case round =>
    obtain ⟨k, hk0, rfl⟩ := hrel
    by_cases hkB : k < B
    · have hks : k < s.size := by omega
      have hb := HB.out k hkB hks
      rcases hb with hb1 | ⟨hb1, hb2⟩
      all_goals
        go_wp2
        all_goals first
          | (exfalso; omega)
          | (go_round
             case rel => exact ⟨k + 1, by omega, by go_num⟩
             case measure => simp [intOf]; omega)
    · obtain rfl : k = B := by omega
      clear hkB hk0
      go_wp2_with (first | (go_at_call 58; first | ((with_reducible refine (HD.out _).mono ?_); rintro e w' ⟨rfl, rfl⟩) | ((with_reducible refine (HQ.out _).mono ?_); rintro e w' ⟨rfl, rfl⟩)) | (go_at_call 59; refine (HN.out _).mono ?_; rintro e w' ⟨rfl, rfl⟩))
      all_goals first | (exfalso; omega) | (go_ret2; exact ⟨rfl, rfl⟩)

set_option maxHeartbeats 1000000 in
theorem rxO_dBln (s : ByteArray) (w : World) (hs : s.size ≤ 9223372036854775807) (B T : Nat) (hB : B ≤ s.size) (hT : B ≤ T) (hTs : T ≤ s.size)
    (HB : Hid (∀ k, ∀ h : k < B, ∀ h2 : k < s.size, (((s[k]'h2).toNat : Int) == 32) = true ∨ ((((s[k]'h2).toNat : Int) == 32) = false ∧ (((s[k]'h2).toNat : Int) == 9) = true)))
    (hc : B < s.size) (c45 : (((s[B]'hc).toNat : Int) == 45) = false) (c43 : (((s[B]'hc).toNat : Int) == 43) = false) (c32 : (((s[B]'hc).toNat : Int) == 32) = false) (c9 : (((s[B]'hc).toNat : Int) == 9) = false)
    (HD : Hid (∀ w, Calls Tryd.prog 58 #[.string s, .int .i64 (B : Int)] w fun e w' => e = .returned (.int .i64 T) ∧ w = w'))
    (hk : T < s.size) (h46 : (((s[T]'hk).toNat : Int) == 46) = true) (K : Nat) (hK1 : T + 1 ≤ K) (hK2 : K ≤ s.size)
    (HQ : Hid (∀ w, Calls Tryd.prog 58 #[.string s, .int .i64 ((T : Int) + 1)] w fun e w' => e = .returned (.int .i64 K) ∧ w = w'))
    (e1 : ¬ (B : Int) < (T : Int)) (e2 : (T : Int) + 1 < (K : Int)) (e3 : ((K : Int) == (B : Int)) = false)
    (hl : T + 5 < K)
    (n : Int)
    (HN : Hid (∀ w, Calls Tryd.prog 59 #[.string (s.extract B T), .string ((s.extract (T + 1) K).extract 0 4)] w fun e w' => e = .returned (.tuple #[.int .i64 n, .bool false]) ∧ w = w')) :
    Calls Tryd.prog 35 #[.string s] w fun e w' => e = .returned (.tuple #[.int .i64 (10000000000000), .int .i64 K]) ∧ w = w' := by
  go_enter Tryd.func35, Tryd.ntmps35
  go_wp2
  go_loop [4] (fun i => ∃ k : Nat, k ≤ B ∧ i = .int .i64 k) (fun i => s.size - (intOf i).toNat)
  case atStart => exact ⟨0, Nat.zero_le _, rfl⟩
  case round =>
    obtain ⟨k, hk0, rfl⟩ := hrel
    by_cases hkB : k < B
    · have hks : k < s.size := by omega
      have hb := HB.out k hkB hks
      rcases hb with hb1 | ⟨hb1, hb2⟩
      all_goals
        go_wp2
        all_goals first
          | (exfalso; omega)
          | (go_round
             case rel => exact ⟨k + 1, by omega, by go_num⟩
             case measure => simp [intOf]; omega)
    · obtain rfl : k = B := by omega
      clear hkB hk0
      go_wp2_with (first | (go_at_call 58; first | ((with_reducible refine (HD.out _).mono ?_); rintro e w' ⟨rfl, rfl⟩) | ((with_reducible refine (HQ.out _).mono ?_); rintro e w' ⟨rfl, rfl⟩)) | (go_at_call 59; refine (HN.out _).mono ?_; rintro e w' ⟨rfl, rfl⟩))
      all_goals first | (exfalso; omega) | (go_ret2; exact ⟨rfl, rfl⟩)

set_option maxHeartbeats 1000000 in
theorem rxE_n0 (s : ByteArray) (w : World) (hs : s.size ≤ 9223372036854775807) (B T : Nat) (hB : B ≤ s.size) (hT : B ≤ T) (hTs : T ≤ s.size)
    (HB : Hid (∀ k, ∀ h : k < B, ∀ h2 : k < s.size, (((s[k]'h2).toNat : Int) == 32) = true ∨ ((((s[k]'h2).toNat : Int) == 32) = false ∧ (((s[k]'h2).toNat : Int) == 9) = true)))
    (hc : (s.size : Int) ≤ B)
    (HD : Hid (∀ w, Calls Tryd.prog 58 #[.string s, .int .i64 (B : Int)] w fun e w' => e = .returned (.int .i64 T) ∧ w = w'))
    (hn : (s.size : Int) ≤ (T : Int) ∨ ∃ h : T < s.size, (((s[T]'h).toNat : Int) == 46) = false)
    (e1 : ¬ (B : Int) < (T : Int)) (e2 : ((T : Int) == (B : Int)) = true) :
    Calls Tryd.prog 35 #[.string s] w fun e w' => e = .returned (.tuple #[.int .i64 0, .int .i64 0]) ∧ w = w' := by
  go_enter Tryd.func35, Tryd.ntmps35
  go_wp2
  go_loop [4] (fun i => ∃ k : Nat, k ≤ B ∧ i = .int .i64 k) (fun i => s.size - (intOf i).toNat)
  case atStart => exact ⟨0, Nat.zero_le _, rfl⟩
  case round =>
    obtain ⟨k, hk0, rfl⟩ := hrel
    by_cases hkB : k < B
    · have hks : k < s.size := by omega
      have hb := HB.out k hkB hks
      rcases hb with hb1 | ⟨hb1, hb2⟩
      all_goals
        go_wp2
        all_goals first
          | (exfalso; omega)
          | (go_round
             case rel => exact ⟨k + 1, by omega, by go_num⟩
             case measure => simp [intOf]; omega)
    · obtain rfl : k = B := by omega
      clear hkB hk0
      rcases hn with hn | ⟨hk, hn⟩
      all_goals
        go_wp2_with (first | (go_at_call 58; first | ((with_reducible refine (HD.out _).mono ?_); rintro e w' ⟨rfl, rfl⟩)))
        all_goals first | (exfalso; omega) | (go_ret2; exact ⟨rfl, rfl⟩)

end Go.Proofs.YtdgbfblhiongoaaDoor
