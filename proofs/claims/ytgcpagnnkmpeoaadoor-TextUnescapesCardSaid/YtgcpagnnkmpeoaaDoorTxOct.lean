/- Octal digits and escape sequences, as the program and the reference of layer 3 read them. -/
import Derived.Test.YtgcpagnnkmpeoaaDoorTxSmall
set_option linter.unusedVariables false
namespace Go.Proofs.YtgcpagnnkmpeoaaDoor
open Go.RowKit

theorem ret_2 {k1 k2 : IntKind} {a b c d : Int} (h1 : a = b) (h2 : c = d) : Ending.returned (.tuple #[.int k1 a, .int k2 c]) = .returned (.tuple #[.int k1 b, .int k2 d]) := by rw [h1, h2]

/-- One more digit. -/
theorem octL_more (f : Nat) (l : List UInt8) (k v : Nat) (h : k < l.length) (hc : isO l[k] = true) : octL (f + 1) (l.drop k) v k = octL f (l.drop (k + 1)) (v * 8 + (l[k].toNat - 48)) (k + 1) := by
  rw [List.drop_eq_getElem_cons h, octL, if_pos hc]
theorem octL_stop (f : Nat) (l : List UInt8) (k v j : Nat) (h : f = 0 ∨ l.length ≤ k ∨ ∃ h : k < l.length, isO l[k] = false) : octL f (l.drop k) v j = (v, j) := by
  cases f with
  | zero => rw [octL]
  | succ f =>
    rcases h with h | h | ⟨h, hc⟩
    · cases h
    · rw [List.drop_eq_nil_of_le h, octL]
    · rw [List.drop_eq_getElem_cons h, octL, if_neg (by rw [hc]; exact Bool.false_ne_true)]
theorem pow8 (k : Nat) (h : k ≤ 3) : 8 ^ k ≤ 512 := by
  have : 8 ^ k ≤ 8 ^ 3 := Nat.pow_le_pow_right (by omega) h
  exact this
theorem pow8s (k v d : Nat) (hv : v < 8 ^ k) (hd : d < 8) : v * 8 + d < 8 ^ (k + 1) := by rw [Nat.pow_succ]; omega


set_option maxHeartbeats 400000 in
theorem octb_any (s : ByteArray) (w : World) : Calls Tryd.prog 48 #[.string s] w fun e w' => e = .returned (.tuple #[.int .u8 ((octB s.data.toList).1.toNat : Int), .int .i64 ((octB s.data.toList).2 : Int)]) ∧ w = w' := by
  generalize hR : octB s.data.toList = R
  have HR : Hid (octB s.data.toList = R) := hR
  clear hR
  go_enter Tryd.func48, Tryd.ntmps48
  go_wp2
  go_loop [4, 5] (fun v i => ∃ (k n : Nat), k ≤ 3 ∧ k ≤ s.size ∧ i = .int .i64 k ∧ v = .int .i64 n ∧ n ≤ 511 ∧ Hid (n < 8 ^ k) ∧ Hid (octL (3 - k) (s.data.toList.drop k) n k = octL 3 s.data.toList 0 0)) (fun _ i => 3 - (intOf i).toNat)
  case atStart => exact ⟨0, 0, Nat.zero_le _, Nat.zero_le _, rfl, rfl, by omega, (by decide : (0 : Nat) < 8 ^ 0), rfl⟩
  case round =>
    obtain ⟨k, n, hk3, hk, rfl, rfl, hn, hn8, hx⟩ := hrel
    have fin : (3 - k = 0 ∨ s.data.toList.length ≤ k ∨ ∃ h : k < s.data.toList.length, isO s.data.toList[k] = false) → Hid (R = if 255 < n then (0, 0) else (UInt8.ofNat n, k)) := fun h => by
      show R = _
      rw [← HR.out]
      unfold octB
      rw [← hx.out, octL_stop (3 - k) s.data.toList k n k h]
    have val : ¬ 255 < n → ((UInt8.ofNat n).toNat : Int) = n := fun h => by simp; omega
    by_cases hlt : k < s.size
    · by_cases h3 : k < 3
      · have hlt' : k < s.data.toList.length := by rw [size_len]; exact hlt
        have hg : s.data.toList[k] = s[k] := rfl
        rcases tf (isO s[k]) with ho | ho
        · have hd : 48 ≤ s[k].toNat ∧ s[k].toNat ≤ 55 := by
            unfold isO at ho; simpa using ho
          have HS : Hid (octL (3 - (k + 1)) (s.data.toList.drop (k + 1)) (n * 8 + (s[k].toNat - 48)) (k + 1) = octL 3 s.data.toList 0 0) := by
            show octL _ _ _ _ = _
            rw [← hx.out, show 3 - k = (3 - (k + 1)) + 1 by omega, octL_more _ _ k n hlt' (by rw [hg]; exact ho), hg]
          have H8 : Hid (n * 8 + (s[k].toNat - 48) < 8 ^ (k + 1)) := pow8s k n _ hn8.out (by omega)
          have hb : n * 8 + (s[k].toNat - 48) ≤ 511 := by
            have h1 := H8.out
            have h2 := pow8 (k + 1) (by omega)
            omega
          obtain ⟨d1, d2⟩ := hd
          have HO : Hid (isO s[k] = true) := ho
          clear fin hx hn8 ho hg val
          go_wp2_with (first | (go_at_call 54; refine (isoct_any _ _).mono ?_; rintro e w' ⟨rfl, rfl⟩; rw [HO.out]))
          go_round
          case rel => exact ⟨k + 1, n * 8 + (s[k].toNat - 48), by omega, by omega, by go_num, by go_num, hb, H8, HS⟩
          case measure => simp [intOf]; omega
        · have HF := fin (.inr (.inr ⟨hlt', by rw [hg]; exact ho⟩))
          have HO : Hid (isO s[k] = false) := ho
          have HV := Lib.hid val
          clear fin hx hn8 ho hg val
          by_cases hbig : 255 < n
          · go_wp2_with (first | (go_at_call 54; refine (isoct_any _ _).mono ?_; rintro e w' ⟨rfl, rfl⟩; rw [HO.out]))
            go_ret2
            rw [HF.out, if_pos hbig]
            exact ⟨rfl, rfl⟩
          · go_wp2_with (first | (go_at_call 54; refine (isoct_any _ _).mono ?_; rintro e w' ⟨rfl, rfl⟩; rw [HO.out]))
            go_ret2
            rw [HF.out, if_neg hbig]
            exact ⟨ret_2 (HV.out hbig).symm rfl, rfl⟩
      · have HF := fin (.inl (by omega))
        have HV := Lib.hid val
        clear fin hx hn8 val
        by_cases hbig : 255 < n
        · go_wp2
          go_ret2
          rw [HF.out, if_pos hbig]
          exact ⟨rfl, rfl⟩
        · go_wp2
          go_ret2
          rw [HF.out, if_neg hbig]
          exact ⟨ret_2 (HV.out hbig).symm rfl, rfl⟩
    · have HF := fin (.inr (.inl (by rw [size_len]; omega)))
      have HV := Lib.hid val
      clear fin hx hn8 val
      by_cases hbig : 255 < n
      · go_wp2
        go_ret2
        rw [HF.out, if_pos hbig]
        exact ⟨rfl, rfl⟩
      · go_wp2
        go_ret2
        rw [HF.out, if_neg hbig]
        exact ⟨ret_2 (HV.out hbig).symm rfl, rfl⟩
end Go.Proofs.YtgcpagnnkmpeoaaDoor
