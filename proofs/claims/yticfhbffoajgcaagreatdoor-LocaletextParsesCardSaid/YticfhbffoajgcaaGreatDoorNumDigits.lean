/- Plain lists of bytes for layer 1: the decimal text of a number, and that reading undoes writing. It speaks of no program. -/
import Derived.Test.YticfhbffoajgcaaGreatDoorNumText
namespace Go.Proofs.YticfhbffoajgcaaGreatDoor
open Go.RowKit

/-- How many digits a number has. -/
def cnt (m : Nat) : Nat := if m < 10 then 1 else cnt (m / 10) + 1
termination_by m
decreasing_by omega

theorem cnt_small (m : Nat) (h : m < 10) : cnt m = 1 := by rw [cnt, if_pos h]
theorem cnt_big (m : Nat) (h : ¬ m < 10) : cnt m = cnt (m / 10) + 1 := by rw [cnt, if_neg h]
theorem cnt_pos (m : Nat) : 1 ≤ cnt m := by rw [cnt]; split <;> omega
theorem cnt_le : ∀ k m : Nat, m < 10 ^ (k + 1) → cnt m ≤ k + 1
  | 0, m, h => by rw [cnt_small m (by simpa using h)]; omega
  | k + 1, m, h => by
    by_cases hs : m < 10
    · rw [cnt_small m hs]; omega
    · rw [cnt_big m hs]
      have := cnt_le k (m / 10) (by apply Nat.div_lt_of_lt_mul; rw [Nat.pow_succ] at h; omega)
      omega
theorem div_step (m k : Nat) : m / 10 ^ (k + 1) = m / 10 ^ k / 10 := by rw [Nat.pow_succ, Nat.div_div_eq_div_mul]

/-- The last c digits of m, as bytes. -/
def txt (m c : Nat) : List UInt8 := (List.range c).map fun j => UInt8.ofNat (48 + m / 10 ^ (c - 1 - j) % 10)

theorem txt_len (m c : Nat) : (txt m c).length = c := by simp [txt]
theorem txt_succ (m c : Nat) : txt m (c + 1) = UInt8.ofNat (48 + m / 10 ^ c % 10) :: txt m c := by
  unfold txt
  rw [List.range_succ_eq_map, List.map_cons, List.map_map]
  congr 1
  apply List.map_congr_left
  intro j _
  show UInt8.ofNat (48 + m / 10 ^ (c + 1 - 1 - (j + 1)) % 10) = _
  rw [show c + 1 - 1 - (j + 1) = c - 1 - j by omega]

/-- The cells of the text while its last k digits are written. -/
def part (m c k : Nat) : List Value := (List.range c).map fun j => if c - k ≤ j then .int .u8 ((48 + m / 10 ^ (c - 1 - j) % 10 : Nat) : Int) else .int .u8 0

theorem part_len' (m c k : Nat) : (part m c k).length = c := by simp [part]
theorem part_zero (m c : Nat) : part m c 0 = List.replicate c (.int .u8 0) := by
  apply List.ext_getElem
  · simp [part]
  · intro j h1 h2
    rw [part_len'] at h1
    rw [List.getElem_replicate]
    simp only [part, List.getElem_map, List.getElem_range]
    rw [if_neg (by omega)]

theorem part_len (m c k : Nat) : (part m c k).length = c := by simp [part]

theorem part_at (m c k : Nat) (h : k < c) : (part m c k)[c - 1 - k]? = some (.int .u8 0) := by
  rw [List.getElem?_eq_getElem (by rw [part_len]; omega)]
  simp [part]
  omega

theorem part_step (m c k : Nat) (h : k < c) : (part m c k).set (c - 1 - k) (.int .u8 ((48 + m / 10 ^ k % 10 : Nat) : Int)) = part m c (k + 1) := by
  apply List.ext_getElem
  · simp [part]
  · intro j h1 h2
    rw [List.getElem_set]
    simp [part] at h2
    by_cases hj : c - 1 - k = j
    · rw [if_pos hj]
      subst hj
      simp only [part, List.getElem_map, List.getElem_range]
      rw [if_pos (by omega), show c - 1 - (c - 1 - k) = k by omega]
    · rw [if_neg hj]
      simp only [part, List.getElem_map, List.getElem_range]
      by_cases hk : c - k ≤ j
      · rw [if_pos hk, if_pos (by omega)]
      · rw [if_neg hk, if_neg (by omega)]

theorem byte_toNat (d : Nat) (h : d < 10) : (UInt8.ofNat (48 + d)).toNat = 48 + d := by
  rw [UInt8.toNat_ofNat']; omega

theorem part_all (m c : Nat) (j : Nat) (hj : j < (txt m c).length) : (part m c c)[j]? = some (.int .u8 (((txt m c)[j]).toNat : Int)) := by
  rw [txt_len] at hj
  rw [List.getElem?_eq_getElem (by rw [part_len]; exact hj)]
  simp only [part, txt, List.getElem_map, List.getElem_range]
  rw [if_pos (by omega), byte_toNat _ (by omega)]

end Go.Proofs.YticfhbffoajgcaaGreatDoor
