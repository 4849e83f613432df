/- Escape sequences as the program and the reference of layer 3 read them. -/
import Derived.Test.YtgcpagnnkmpeoaaDoorTxOct
set_option linter.unusedVariables false
namespace Go.Proofs.YtgcpagnnkmpeoaaDoor
open Go.RowKit

theorem ib_any (l : List UInt8) (c : UInt8) (w : World) : Calls Tryd.prog 47 #[.string (mk l), .int .u8 (c.toNat : Int)] w fun e w' => e = .returned (.int .i64 (Lib.indexByte l c)) ∧ w = w' := by
  have h := Any.strings_IndexByte Tryd.lays137 (mk l) (c.toNat : Int) w
  have e : ((c.toNat : Int).toNat.toUInt8) = c := by simp
  rw [e] at h
  exact h.mono fun e w' ⟨h1, h2⟩ => ⟨h1, h2.symm⟩

theorem empty_of (s : ByteArray) (h : s.size = 0) : s = ⟨#[]⟩ := by
  apply ByteArray.ext; exact Array.eq_empty_of_size_eq_zero h
theorem not_empty_of (s : ByteArray) (h : 0 < s.size) : s.toList.isEmpty = false := by
  rw [ByteArray.toList_eq]
  obtain ⟨⟨l⟩⟩ := s
  cases l with
  | nil => exact absurd h (Nat.lt_irrefl 0)
  | cons a r => rfl
theorem seqb_nil (w : World) : Calls Tryd.prog 35 #[.string ⟨#[]⟩] w fun e w' => e = .returned (.tuple #[.int .u8 0, .int .i64 0]) ∧ w = w' := by
  go_enter Tryd.func35, Tryd.ntmps35
  go_wp2
  go_ret2
  exact ⟨rfl, rfl⟩
theorem ib_letters (c : UInt8) : Lib.indexByte letters c = -1 ∨ ∃ i : Nat, i ≤ 6 ∧ Lib.indexByte letters c = (i : Int) := by
  have : Lib.indexByte letters c = -1 ∨ Lib.indexByte letters c = 0 ∨ Lib.indexByte letters c = 1 ∨ Lib.indexByte letters c = 2 ∨ Lib.indexByte letters c = 3 ∨ Lib.indexByte letters c = 4 ∨ Lib.indexByte letters c = 5 ∨ Lib.indexByte letters c = 6 := by
    revert c; apply all_bytes; decide +kernel
  rcases this with h | h | h | h | h | h | h | h
  · exact .inl h
  · rw [h]; exact .inr ⟨0, by omega, rfl⟩
  · rw [h]; exact .inr ⟨1, by omega, rfl⟩
  · rw [h]; exact .inr ⟨2, by omega, rfl⟩
  · rw [h]; exact .inr ⟨3, by omega, rfl⟩
  · rw [h]; exact .inr ⟨4, by omega, rfl⟩
  · rw [h]; exact .inr ⟨5, by omega, rfl⟩
  · rw [h]; exact .inr ⟨6, by omega, rfl⟩
theorem ib_quot (c : UInt8) : Lib.indexByte quotable c = -1 ∨ 0 ≤ Lib.indexByte quotable c := by
  revert c; apply all_bytes; decide +kernel

set_option maxHeartbeats 400000 in
theorem seqb_any (s : ByteArray) (w : World) : Calls Tryd.prog 35 #[.string s] w fun e w' => e = .returned (.tuple #[.int .u8 ((seqB s.data.toList).1.toNat : Int), .int .i64 ((seqB s.data.toList).2 : Int)]) ∧ w = w' := by
  by_cases h0 : s.size = 0
  · obtain rfl := empty_of s h0
    exact seqb_nil w
  · have h1 : 0 < s.size := by omega
    have hl : s.data.toList = s[0] :: s.data.toList.tail := by
      obtain ⟨⟨l⟩⟩ := s
      cases l with
      | nil => exact absurd h1 (Nat.lt_irrefl 0)
      | cons a r => rfl
    have hsq : seqB s.data.toList = if Lib.indexByte letters s[0] ≠ -1 then (UInt8.ofNat (7 + (Lib.indexByte letters s[0]).toNat), 1) else if Lib.indexByte quotable s[0] ≠ -1 then (s[0], 1) else octB s.data.toList := by
      have e := congrArg seqB hl
      rw [seqB_cons, ← hl] at e
      exact e
    have hne := not_empty_of s h1
    have H1 : Hid (∀ w, Calls Tryd.prog 47 #[.string ⟨#[97, 98, 116, 110, 118, 102, 114]⟩, .int .u8 (s[0].toNat : Int)] w fun e w' => e = .returned (.int .i64 (Lib.indexByte letters s[0])) ∧ w = w') := fun w => ib_any letters s[0] w
    have H2 : Hid (∀ w, Calls Tryd.prog 47 #[.string ⟨#[92, 34, 47]⟩, .int .u8 (s[0].toNat : Int)] w fun e w' => e = .returned (.int .i64 (Lib.indexByte quotable s[0])) ∧ w = w') := fun w => ib_any quotable s[0] w
    have HO : Hid (∀ w, Calls Tryd.prog 48 #[.string s] w fun e w' => e = .returned (.tuple #[.int .u8 ((octB s.data.toList).1.toNat : Int), .int .i64 ((octB s.data.toList).2 : Int)]) ∧ w = w') := fun w => octb_any s w
    rw [hsq]
    clear hsq hl
    generalize octB s.data.toList = O at *
    rcases ib_letters s[0] with ha | ⟨i, hi, ha⟩
    · rw [ha] at H1 ⊢
      rw [if_neg (fun e => e rfl)]
      rcases ib_quot s[0] with hq | hq
      · rw [hq] at H2 ⊢
        rw [if_neg (fun e => e rfl)]
        clear ha hq
        go_enter Tryd.func35, Tryd.ntmps35
        go_wp2_with (first | (go_at_call 47; with_reducible refine (H1.out _).mono ?_; rintro e w' ⟨rfl, rfl⟩) | (go_at_call 47; with_reducible refine (H2.out _).mono ?_; rintro e w' ⟨rfl, rfl⟩) | (go_at_call 48; refine (HO.out _).mono ?_; rintro e w' ⟨rfl, rfl⟩))
        go_ret2
        exact ⟨rfl, rfl⟩
      · rw [if_pos (by omega)]
        generalize Lib.indexByte quotable s[0] = q at *
        clear ha
        go_enter Tryd.func35, Tryd.ntmps35
        go_wp2_with (first | (go_at_call 47; with_reducible refine (H1.out _).mono ?_; rintro e w' ⟨rfl, rfl⟩) | (go_at_call 47; with_reducible refine (H2.out _).mono ?_; rintro e w' ⟨rfl, rfl⟩))
        go_ret2
        exact ⟨rfl, rfl⟩
    · rw [ha] at H1 ⊢
      rw [if_pos (by omega)]
      clear ha
      have e1 : ((UInt8.ofNat (7 + ((i : Nat) : Int).toNat)).toNat : Int) = 7 + (i : Int) := by simp; omega
      have HE := Lib.hid e1
      clear e1
      go_enter Tryd.func35, Tryd.ntmps35
      go_wp2_with (first | (go_at_call 47; with_reducible refine (H1.out _).mono ?_; rintro e w' ⟨rfl, rfl⟩))
      go_ret2
      exact ⟨ret_2 (HE.out.symm) rfl, rfl⟩

set_option maxHeartbeats 1000000 in
theorem roct_any (s : ByteArray) (a : Nat) (w : World) (hs : s.size ≤ 4611686018427387903) (ha : a ≤ s.size) :
    Calls Tryd.prog 37 #[.string s, .int .i64 a] w fun e w' => e = .returned (.tuple #[.int .i64 ((octL 3 (s.data.toList.drop a) 0 0).1 : Int), .int .i64 ((octL 3 (s.data.toList.drop a) 0 0).2 : Int)]) ∧ w = w' := by
  generalize hR : octL 3 (s.data.toList.drop a) 0 0 = R
  have HR : Hid (octL 3 (s.data.toList.drop a) 0 0 = R) := hR
  clear hR
  go_enter Tryd.func37, Tryd.ntmps37
  go_wp2
  go_loop [6, 7] (fun v i => ∃ (k n : Nat), k ≤ 3 ∧ a + k ≤ s.size ∧ i = .int .i64 k ∧ v = .int .i64 n ∧ n ≤ 511 ∧ Hid (n < 8 ^ k) ∧ Hid (octL (3 - k) (s.data.toList.drop (a + k)) n k = R)) (fun _ i => 3 - (intOf i).toNat)
  case atStart => exact ⟨0, 0, Nat.zero_le _, by omega, rfl, rfl, by omega, (by decide : (0 : Nat) < 8 ^ 0), HR.out⟩
  case round =>
    obtain ⟨k, n, hk3, hk, rfl, rfl, hn, hn8, hx⟩ := hrel
    have fin : (3 - k = 0 ∨ s.data.toList.length ≤ a + k ∨ ∃ h : a + k < s.data.toList.length, isO s.data.toList[a + k] = false) → Hid (R = (n, k)) := fun h => by
      show R = _
      rw [← hx.out, octL_stop (3 - k) s.data.toList (a + k) n k h]
    by_cases hlt : a + k < s.size
    · by_cases h3 : k < 3
      · have hlt' : a + k < s.data.toList.length := by rw [size_len]; exact hlt
        have hg : s.data.toList[a + k] = s[a + k] := rfl
        by_cases o1 : 48 ≤ (s[a + k].toNat : Int)
        · by_cases o2 : (s[a + k].toNat : Int) ≤ 55
          · have ho : isO s[a + k] = true := by rw [isO_int]; simp [o1, o2]
            have HS : Hid (octL (3 - (k + 1)) (s.data.toList.drop (a + (k + 1))) (n * 8 + (s[a + k].toNat - 48)) (k + 1) = R) := by
              show octL _ _ _ _ = _
              have h1 := hx.out
              rw [show 3 - k = (3 - (k + 1)) + 1 by omega, List.drop_eq_getElem_cons hlt', octL, hg, if_pos ho] at h1
              exact h1
            have H8 : Hid (n * 8 + (s[a + k].toNat - 48) < 8 ^ (k + 1)) := pow8s k n _ hn8.out (by omega)
            have hb : n * 8 + (s[a + k].toNat - 48) ≤ 511 := by
              have h1 := H8.out
              have h2 := pow8 (k + 1) (by omega)
              omega
            clear fin hx hn8 ho hg
            have i1 : (a : Int) + (k : Int) < (s.size : Int) := by omega
            have i2 : (k : Int) < 3 := by omega
            go_wp2
            go_round
            case rel => exact ⟨k + 1, n * 8 + (s[a + k].toNat - 48), by omega, by omega, by go_num, by go_num, hb, H8, HS⟩
            case measure => simp [intOf]; omega
          · have HF := fin (.inr (.inr ⟨hlt', by rw [hg, isO_int]; simp [o2]⟩))
            clear fin hx hn8 hg
            have i1 : (a : Int) + (k : Int) < (s.size : Int) := by omega
            have i2 : (k : Int) < 3 := by omega
            go_wp2
            all_goals first | (exfalso; omega) | (go_ret2; rw [HF.out]; exact ⟨rfl, rfl⟩)
        · have HF := fin (.inr (.inr ⟨hlt', by rw [hg, isO_int]; simp [o1]⟩))
          clear fin hx hn8 hg
          have i1 : (a : Int) + (k : Int) < (s.size : Int) := by omega
          have i2 : (k : Int) < 3 := by omega
          go_wp2
          all_goals first | (exfalso; omega) | (go_ret2; rw [HF.out]; exact ⟨rfl, rfl⟩)
      · have HF := fin (.inl (by omega))
        clear fin hx hn8
        have i2 : ¬ (k : Int) < 3 := by omega
        go_wp2
        all_goals first | (exfalso; omega) | (go_ret2; rw [HF.out]; exact ⟨rfl, rfl⟩)
    · have HF := fin (.inr (.inl (by rw [size_len]; omega)))
      clear fin hx hn8
      have i1 : ¬ (a : Int) + (k : Int) < (s.size : Int) := by omega
      go_wp2
      all_goals first | (exfalso; omega) | (go_ret2; rw [HF.out]; exact ⟨rfl, rfl⟩)
end Go.Proofs.YtgcpagnnkmpeoaaDoor
