/- Positions, as the program and the reference of layer 3 reckon them. -/
import Derived.Test.YtgcpagnnkmpeoaaDoorTxShelf
set_option linter.unusedVariables false
namespace Go.Proofs.YtgcpagnnkmpeoaaDoor
open Go.RowKit

set_option maxHeartbeats 400000 in
theorem pos_any (s : ByteArray) (a : Int) (w : World) (hs : s.size ≤ 4611686018427387902) :
    Calls Tryd.prog 20 #[.string s, .int .i64 a] w fun e w' => e = .returned (.agg #[.int .i64 (lineN (s.data.toList.take (intoN s.size a)) : Int), .int .i64 (colN (s.data.toList.take (intoN s.size a)) : Int)]) ∧ Below w.heap.size w w' := by
  have hi := intoN_le s.size a
  have hI : min (max a 0) (s.size : Int) = (intoN s.size a : Int) := by unfold intoN; omega
  generalize intoN s.size a = o at *
  have hx : (min (max a 0) (s.size : Int)).toNat = o := by omega
  have hsz : (s.extract 0 o).size = o := by rw [ByteArray.size_extract]; omega
  have hl := col_last (s.extract 0 o) o (by omega)
  have H1 : Hid (∀ w, Calls Tryd.prog 32 #[.string (s.extract 0 o), .string ⟨#[10]⟩] w fun e w' => e = .returned (.int .i64 (lineN (s.data.toList.take o) - 1)) ∧ w = w') := fun w => (cnt_any _ w).mono fun e w' ⟨h1, h2⟩ => ⟨by
    rw [h1, ext_take]; unfold lineN; rw [mk_data]; congr 2; omega, h2⟩
  have H2 : Hid (∀ w, Calls Tryd.prog 33 #[.string (s.extract 0 o), .int .u8 10] w fun e w' => e = .returned (.int .i64 ((o : Int) - (colN (s.data.toList.take o) : Int))) ∧ w = w') := fun w => (lastb_any _ w (by omega)).mono fun e w' ⟨h1, h2⟩ => ⟨by
    rw [h1]
    congr 2
    have h3 : Lib.lastIndexByte (s.extract 0 o) 10 = Lib.lastIdx (s.extract 0 o) 10 o := by unfold Lib.lastIndexByte; rw [hsz]
    have h4 : ((s.extract 0 o).data.toList.take o) = s.data.toList.take o := by rw [ext_take, mk_data, List.take_take, Nat.min_self]
    rw [h4] at hl
    rw [h3]; omega, h2⟩
  have hc := colN_le (s.data.toList.take o)
  have hn := lineN_le (s.data.toList.take o)
  have hlen : (s.data.toList.take o).length = o := by rw [List.length_take, size_len]; omega
  rw [hlen] at hc hn
  generalize colN (s.data.toList.take o) = C at *
  generalize lineN (s.data.toList.take o) = N at *
  clear hl hlen
  go_enter Tryd.func20, Tryd.ntmps20
  go_wp2_with (first | (go_at_call 32; refine (H1.out _).mono ?_; rintro e w' ⟨rfl, rfl⟩) | (go_at_call 33; refine (H2.out _).mono ?_; rintro e w' ⟨rfl, rfl⟩))
  refine bodyPost_ret (v := .agg #[.int .i64 (1 + ((N : Int) - 1)), .int .i64 ((o : Int) - ((o : Int) - (C : Int)))]) (by simp [results, Tryd.results20, go_sem]) rfl ⟨?_, ?_⟩
  · rw [show 1 + ((N : Int) - 1) = N by omega, show (o : Int) - ((o : Int) - (C : Int)) = C by omega]
  · exact (Below.refl _ _).alloc (Nat.le_refl _) _

theorem isL_byte (c : UInt8) : ((c.toNat : Int) == 10) = decide (c = 10) := by
  rw [← isL_int]; unfold isL
  by_cases h : c = 10
  · subst h; rfl
  · simp [h]
set_option maxHeartbeats 1000000 in
theorem rpos_any (s : ByteArray) (a : Int) (w : World) (hs : s.size ≤ 4611686018427387902) :
    Calls Tryd.prog 21 #[.string s, .int .i64 a] w fun e w' => e = .returned (.agg #[.int .i64 (lineN (s.data.toList.take (intoN s.size a)) : Int), .int .i64 (colN (s.data.toList.take (intoN s.size a)) : Int)]) ∧ Below w.heap.size w w' := by
  have hi := intoN_le s.size a
  have HI : Hid ((intoN s.size a : Int) = min (max a 0) (s.size : Int)) := by show _ = _; unfold intoN; omega
  generalize intoN s.size a = o at *
  generalize hR : (Value.agg #[.int .i64 (lineN (s.data.toList.take o) : Int), .int .i64 (colN (s.data.toList.take o) : Int)]) = R
  have HR := Lib.hid hR
  clear hR
  go_enter Tryd.func21, Tryd.ntmps21
  go_wp2
  go_loopw [6] (fun i wr => ∃ (k N C : Nat), k ≤ o ∧ i = .int .i64 k ∧ 1 ≤ N ∧ N ≤ k + 1 ∧ 1 ≤ C ∧ C ≤ k + 1 ∧ Hid (lineN (s.data.toList.take k) = N) ∧ Hid (colN (s.data.toList.take k) = C) ∧
      wr = (w.alloc (.cells #[.int .i64 0, .int .i64 0] 33)).alloc (.cells #[.int .i64 N, .int .i64 C] 33)) (fun i _ => s.size - (intOf i).toNat)
  case atStart => exact ⟨0, 1, 1, Nat.zero_le _, rfl, by omega, by omega, by omega, by omega, rfl, rfl, rfl⟩
  case round =>
    obtain ⟨k, N, C, hk, rfl, n1, n2, c1, c2, hN, hC, rfl⟩ := hrel
    by_cases hlt : k < o
    · have hlt' : k < s.data.toList.length := by rw [size_len]; omega
      have hks : k < s.size := by omega
      have h1 : (k : Int) < a := by have := HI.out; omega
      have hg : s.data.toList[k] = s[k] := rfl
      have q := isL_byte s[k]
      have l1 := lineN_take s.data.toList k hlt'
      have l2 := colN_take s.data.toList k hlt'
      rw [hg, hN.out] at l1
      rw [hg, hC.out] at l2
      by_cases hc : s[k] = 10
      · rw [if_pos hc] at l1 l2
        rw [decide_eq_true hc] at q
        have L1 := Lib.hid l1
        have L2 := Lib.hid l2
        clear l1 l2 hN hC hg hc
        go_wp2
        go_roundw
        case rel => exact ⟨k + 1, N + 1, 1, by omega, by go_num, by omega, by omega, by omega, by omega, L1.out, L2.out, by simp⟩
        case measure => simp [intOf]; omega
      · rw [if_neg hc] at l1 l2
        rw [decide_eq_false hc] at q
        have L1 := Lib.hid l1
        have L2 := Lib.hid l2
        clear l1 l2 hN hC hg hc
        go_wp2
        go_roundw
        case rel => exact ⟨k + 1, N, C + 1, by omega, by go_num, by omega, by omega, by omega, by omega, L1.out, L2.out, by simp⟩
        case measure => simp [intOf]; omega
    · obtain rfl : k = o := by omega
      have hr : Hid (R = .agg #[.int .i64 (N : Int), .int .i64 (C : Int)]) := by
        show R = _
        rw [← HR.out, hN.out, hC.out]
      have h1 : (k : Int) < s.size → ¬ (k : Int) < a := by have := HI.out; omega
      clear hN hC
      by_cases hks : (k : Int) < s.size
      · have h2 := h1 hks
        clear h1
        go_wp2
        refine bodyPost_ret (v := .agg #[.int .i64 (N : Int), .int .i64 (C : Int)]) (by simp [results, Tryd.results21, go_sem]) rfl ⟨by rw [hr.out], ?_⟩
        exact (((Below.refl _ _).alloc (Nat.le_refl _) _).alloc (by simp) _)
      · clear h1
        go_wp2
        refine bodyPost_ret (v := .agg #[.int .i64 (N : Int), .int .i64 (C : Int)]) (by simp [results, Tryd.results21, go_sem]) rfl ⟨by rw [hr.out], ?_⟩
        exact (((Below.refl _ _).alloc (Nat.le_refl _) _).alloc (by simp) _)
end Go.Proofs.YtgcpagnnkmpeoaaDoor
