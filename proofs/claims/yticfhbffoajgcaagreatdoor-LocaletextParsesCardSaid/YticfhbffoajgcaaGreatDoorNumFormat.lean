/- Writing an int: the program's Format. -/
import Derived.Test.YticfhbffoajgcaaGreatDoorNumParseC
import Derived.Test.YticfhbffoajgcaaGreatDoorNumDigits
import Derived.Laws.IdiomStrings
import Derived.OwnWalk
import Derived.Below
namespace Go.Proofs.YticfhbffoajgcaaGreatDoor
open Go.RowKit

theorem Tryz.info5 : (Tryz.prog.info? 5).map (fun i => (i.zero, i.size, i.bytes)) = some (some (.int .u8 0), 1, 1) := by kernel_rfl

theorem ret_int {k : IntKind} {a b : Int} (h : a = b) : Ending.returned (.int k a) = .returned (.int k b) := by rw [h]

set_option maxHeartbeats 400000 in
theorem count_any (m : Nat) (w : World) (hm : m < 10000000000000000000) :
    Calls Tryz.prog 147 #[.int .u64 m] w fun e w' => e = .returned (.int .i64 (cnt m)) ∧ w = w' := by
  have HM := Lib.hid hm
  clear hm
  have hm' : m ≤ 10000000000000000000 := Nat.le_of_lt HM.out
  go_enter Tryz.func147, Tryz.ntmps147
  go_wp2
  go_loop [0, 4] (fun v i => ∃ k q : Nat, k ≤ 18 ∧ i = .int .i64 k ∧ v = .int .u64 q ∧ q ≤ 10000000000000000000 ∧ Hid (m / 10 ^ k = q) ∧ Hid (cnt q + k = cnt m)) (fun _ i => 19 - (intOf i).toNat)
  case atStart => exact ⟨0, m, by omega, rfl, rfl, hm', by simp [Hid], rfl⟩
  case round =>
    obtain ⟨k, q, hk, rfl, rfl, hq, h1, h2⟩ := hrel
    by_cases hs : q < 10
    · have h3 : Hid ((k : Int) + 1 = cnt m) := by
        have := h2.out
        rw [cnt_small q hs] at this
        show (k : Int) + 1 = cnt m
        omega
      have hs : (q : Int) < 10 := by omega
      clear h1 h2
      go_wp2
      all_goals (go_ret; exact ⟨ret_int h3.out, rfl⟩)
    · have hk2 : k < 18 := by
        have h4 := h1.out
        have h5 := HM.out
        by_cases e : k = 18
        · subst e
          have : m / 10 ^ 18 < 10 := by
            apply Nat.div_lt_of_lt_mul; omega
          omega
        · omega
      have h3 : Hid (m / 10 ^ (k + 1) = q / 10) := by
        show m / 10 ^ (k + 1) = q / 10
        rw [div_step, h1.out]
      have h4 : Hid (cnt (q / 10) + (k + 1) = cnt m) := by
        have := h2.out
        rw [cnt_big q hs] at this
        show cnt (q / 10) + (k + 1) = cnt m
        omega
      have hs : ¬ (q : Int) < 10 := by omega
      clear h1 h2
      go_wp2
      all_goals
        go_round
        case rel => exact ⟨k + 1, q / 10, by omega, by go_num, by simp, by omega, h3, h4⟩
        case measure => simp [intOf]; omega


theorem u8_cells (m c : Nat) {w : World} {B : Nat} (h : w.ownsRow B 5 1 (.slice (some ⟨B, 0, none⟩) c c) c (part m c c)) (j : Nat) (hj : j < (txt m c).length) :
    w.cell? ((⟨B, 0, none⟩ : Addr).add j) = some (.int .u8 (((txt m c)[j]).toNat : Int)) :=
  h.cells rfl j _ (part_all m c j hj)

set_option maxHeartbeats 400000 in
theorem fm_any (m : Nat) (w : World) (hm : m < 10000000000000000000) :
    Calls Tryz.prog 106 #[.int .u64 m] w fun e w' => e = .returned (.string ⟨(txt m (cnt m)).toArray⟩) ∧ Below w.heap.size w w' := by
  have HC : Hid (∀ w, Calls Tryz.prog 147 #[.int .u64 m] w fun e w' => e = .returned (.int .i64 (cnt m)) ∧ w = w') := fun w => count_any m w hm
  have hm' : m ≤ 10000000000000000000 := Nat.le_of_lt hm
  have hc20 : cnt m ≤ 20 := Nat.le_trans (cnt_le 18 m hm) (by omega)
  generalize cnt m = c at *
  obtain ⟨i0, hi, hz0, hz1, hz2⟩ := info_parts Tryz.info5
  clear hm
  go_enter Tryz.func106, Tryz.ntmps106
  go_wp2_with (first
    | (go_at_call 147; refine (HC.out _).mono ?_; rintro e w' ⟨rfl, rfl⟩)
    | (at_make; refine wpList_make_full _ rfl _ _ 80 rfl w.heap.size 5 i0 (.int .u8 0) 1 Tryz.underlying80 hi hz0 hz1 .i64 .i64 _ _ c rfl rfl rfl rfl (by rw [hz2]; omega) (by unfold maxLen; omega) (Nat.le_refl _) ?_; intro w0 hown0 hgrow0))
  have hown1 : w0.ownsRow w.heap.size 5 1 (.slice (some ⟨w.heap.size, 0, none⟩) c c) c (part m c 0) := by
    rw [part_zero, ← toList_madeCells_one]; rw [Nat.mul_one] at hown0; exact hown0
  have hbel : Below w.heap.size w w0 := (Below.refl _ w).grown hgrow0 (Nat.le_refl _) (fun k h => by cases h)
  have hsz : w.heap.size < w0.heap.size := (hown1.lt _ rfl).2
  clear hown0 hgrow0
  go_loopw [0, 11] (fun v i wr => ∃ k q : Nat, k ≤ c ∧ i = .int .i64 k ∧ v = .int .u64 q ∧ q ≤ 10000000000000000000 ∧ Hid (m / 10 ^ k = q) ∧
      wr.ownsRow w.heap.size 5 1 (.slice (some ⟨w.heap.size, 0, none⟩) c c) c (part m c k) ∧ Below w.heap.size w wr)
    (fun _ i _ => c - (intOf i).toNat)
  case atStart => exact ⟨0, m, by omega, rfl, rfl, hm', by simp [Hid], hown1, hbel⟩
  case round =>
    obtain ⟨k, q, hk, rfl, rfl, hq, h1, hown, hb⟩ := hrel
    by_cases hlt : k < c
    · have hcell : wr.cell? ⟨w.heap.size, c - 1 - k, none⟩ = some (.int .u8 0) := by
        rw [hown.cellAt (c - 1 - k) (by omega), part_at m c k hlt]
      have hfz : wr.frozen? ⟨w.heap.size, c - 1 - k, none⟩ = false := hown.frozenAt (c - 1 - k)
      have h3 : Hid (m / 10 ^ (k + 1) = q / 10) := by
        show m / 10 ^ (k + 1) = q / 10
        rw [div_step, h1.out]
      have hst := hown.stored (c - 1 - k) (.int .u8 ((48 + q % 10 : Nat) : Int))
      have e : ((48 + q % 10 : Nat) : Int) = 48 + (q : Int) % 10 := by omega
      have HS : Hid ((wr.setCell ⟨w.heap.size, c - 1 - k, none⟩ (.int .u8 (48 + (q : Int) % 10))).ownsRow w.heap.size 5 1 (.slice (some ⟨w.heap.size, 0, none⟩) c c) c (part m c (k + 1))) := by
        have := hst.1
        rw [← h1.out] at this
        rw [part_step m c k hlt] at this
        rw [h1.out, e] at this; exact this
      have HB : Hid (Below w.heap.size w (wr.setCell ⟨w.heap.size, c - 1 - k, none⟩ (.int .u8 (48 + (q : Int) % 10)))) := hb.setCell (Nat.le_refl _) _
      clear hst h1 e hown hb
      go_wp2
      go_roundw
      case rel => exact ⟨k + 1, q / 10, by omega, by go_num, by simp, by omega, h3, HS, HB⟩
      case measure => simp [intOf]; omega
    · obtain rfl : k = c := by omega
      have hcv := run_convert_bytes_back (P := Tryz.prog) wr 80 9 5 ⟨w.heap.size, 0, none⟩ k (txt m k) Tryz.underlying80 Tryz.underlying5 Tryz.underlying9 (u8_cells m k hown)
      rw [txt_len] at hcv
      clear h1 hown
      go_wp2
      go_ret
      exact ⟨rfl, hb⟩

end Go.Proofs.YticfhbffoajgcaaGreatDoor
