/- Slices in memory, cell by cell, and the first error of a list. -/
import Derived.Test.YticfhbffoajgcaaGreatDoorRows
import Derived.Test.YticfhbffoajgcaaGreatDoorLcSmall
set_option linter.unusedVariables false
namespace Go.Proofs.YticfhbffoajgcaaGreatDoor
open Go.RowKit

/-- A slice of n elements of k cells each; 'f j i' is cell i of element j. -/
def SL (k n : Nat) (f : Nat → Nat → Value) (w : World) (sv : Value) : Prop :=
  ∃ a cap, sv = .slice a n cap ∧ n ≤ cap ∧ (n = 0 ∨ ∃ b off, a = some ⟨b, off, none⟩ ∧ b < w.heap.size ∧ ∀ j i, j < n → i < k → w.cell? ⟨b, off + j * k + i, none⟩ = some (f j i))
theorem SL.below {k n : Nat} {f : Nat → Nat → Value} {w w' : World} {sv : Value} (h : SL k n f w sv) (hb : Below w.heap.size w w') : SL k n f w' sv := by
  obtain ⟨a, cap, e, hc, h⟩ := h
  refine ⟨a, cap, e, hc, ?_⟩
  rcases h with h | ⟨b, off, ha, hlt, h⟩
  · exact .inl h
  · exact .inr ⟨b, off, ha, Nat.lt_of_lt_of_le hlt hb.size, fun j i hj hi => by rw [hb.cell (by exact hlt)]; exact h j i hj hi⟩

/-- The first error of the first n. -/
def firstErr (f : Nat → Int) : Nat → Int
  | 0 => 0
  | n + 1 => if firstErr f n = 0 then f n else firstErr f n
theorem firstErr_next (f : Nat → Int) (k : Nat) (h : firstErr f k = 0) : firstErr f (k + 1) = f k := by
  show (if firstErr f k = 0 then f k else firstErr f k) = f k
  rw [if_pos h]
theorem firstErr_stop (f : Nat → Int) (k n : Nat) (h : firstErr f k = 0) (hk : f k ≠ 0) (hn : k < n) : firstErr f n = f k := by
  induction n with
  | zero => omega
  | succ n ih =>
    by_cases e : k = n
    · subst e
      exact firstErr_next f k h
    · have := ih (by omega)
      show (if firstErr f n = 0 then f n else firstErr f n) = f k
      rw [this, if_neg hk]

/-- '==' of two strings, as the model spells it. -/
def eqS (s t : ByteArray) : Bool := s.toList == t.toList
/-- Has an earlier one the same text? -/
def dup (c : Nat → ByteArray) (i : Nat) : Bool := (List.range i).any fun k => eqS (c k) (c i)
theorem dup_yes (c : Nat → ByteArray) (i k : Nat) (hk : k < i) (h : eqS (c k) (c i) = true) : dup c i = true := by
  unfold dup
  exact List.any_eq_true.2 ⟨k, by simpa using hk, h⟩
theorem dup_no (c : Nat → ByteArray) (i : Nat) (h : ∀ k, k < i → eqS (c k) (c i) = false) : dup c i = false := by
  unfold dup
  apply Bool.eq_false_iff.2
  intro hd
  obtain ⟨k, hk, he⟩ := List.any_eq_true.1 hd
  rw [h k (by simpa using hk)] at he
  cases he

/-- The error of class i, of the classes. -/
def clsAt (c : Nat → ByteArray) (i : Nat) : Int := if nmB (c i) = true then (if dup c i = true then 6 else 0) else 4
def clsErr (n : Nat) (c : Nat → ByteArray) : Int := if n ≤ 24 then firstErr (clsAt c) n else 3
/-- The error of element i, of the elements. -/
def elmAt (t : Nat → ByteArray) (x : Nat → Int) (i : Nat) : Int := if (t i).size = 2 ∧ 0 ≤ x i ∧ x i ≤ 65535 then (if dup t i = true then 6 else 0) else 2
def elmErr (n : Nat) (t : Nat → ByteArray) (x : Nat → Int) : Int := if n ≤ 64 then firstErr (elmAt t x) n else 3

set_option maxRecDepth 100000 in
set_option maxHeartbeats 4000000 in
theorem checkClasses_any (n : Nat) (f : Nat → Nat → Value) (c : Nat → ByteArray) (hc : ∀ j, f j 0 = .string (c j)) (sv : Value) (w : World) (hS : SL 5 n f w sv) :
    Calls Tryz.prog 124 #[sv] w fun e w' => e = .returned (.int .i64 (clsErr n c)) ∧ Below w.heap.size w w' := by
  obtain ⟨R, hR⟩ : ∃ R, R = clsErr n c := ⟨_, rfl⟩
  rw [← hR]
  obtain ⟨a, cap, rfl, hcap, hcells⟩ := hS
  by_cases hn : n ≤ 24
  · have hR1 : R = firstErr (clsAt c) n := by rw [hR]; unfold clsErr; rw [if_pos hn]
    have HR := Lib.hid hR1
    clear hR hR1
    have i24 : ¬ (24 : Int) < n := by omega
    have hn24 : (n : Int) ≤ 24 := by omega
    rcases hcells with h0 | ⟨b, off, rfl, hlt, hcells⟩
    · subst h0
      have HN : Hid (R = 0) := HR.out
      go_enter Tryz.func124, Tryz.ntmps124
      go_wp2
      go_loopw [3] (fun i wr => i = .int .i64 0 ∧ wr = w) (fun _ _ => 0)
      case atStart => exact ⟨rfl, rfl⟩
      case round =>
        obtain ⟨rfl, rfl⟩ := hrel
        go_wp2
        go_ret
        exact ⟨by rw [HN.out]; rfl, Below.refl _ _⟩
    · have HC := Lib.hid hcells
      clear hcells
      go_enter Tryz.func124, Tryz.ntmps124
      go_wp2
      go_loopw [3] (fun i wr => ∃ k : Nat, k ≤ n ∧ i = .int .i64 k ∧ Hid (firstErr (clsAt c) k = 0) ∧ Hid (Below w.heap.size w wr)) (fun i _ => n - (intOf i).toNat)
      case atStart => exact ⟨0, Nat.zero_le _, rfl, rfl, Below.refl _ _⟩
      case round =>
        obtain ⟨i, hi, rfl, HE, HB⟩ := hrel
        by_cases hin : i < n
        · have ii : (i : Int) < n := by omega
          have ii0 : (0 : Int) ≤ i := by omega
          have ci : wr.cell? ⟨b, off + i * 5, none⟩ = some (.string (c i)) := by
            rw [HB.out.cell (by exact hlt), ← hc i]
            exact HC.out i 0 hin (by decide)
          have HNm := Lib.hid (isName_any (c i))
          obtain ⟨B, hB⟩ : ∃ B, nmB (c i) = B := ⟨_, rfl⟩
          rw [hB] at HNm
          have HBn := Lib.hid hB
          clear hB
          by_cases hnm : B = true
          · subst hnm
            go_wp2_with (first | (go_at_call 56; refine (HNm.out _).mono ?_; rintro e w1 ⟨rfl, rfl⟩))
            go_loopw [4] (fun k wr => ∃ m : Nat, m ≤ i ∧ k = .int .i64 m ∧ Hid (∀ q, q < m → eqS (c q) (c i) = false) ∧ Hid (Below w.heap.size w wr)) (fun k _ => i - (intOf k).toNat)
            case atStart => exact ⟨0, Nat.zero_le _, rfl, fun q hq => by omega, HB.out⟩
            case round =>
              obtain ⟨m, hm, rfl, HQ, HB2⟩ := hrel
              by_cases hmi : m < i
              · have im : (m : Int) < i := by omega
                have im0 : (0 : Int) ≤ m := by omega
                have imn : (m : Int) < n := by omega
                have cm : wr.cell? ⟨b, off + m * 5, none⟩ = some (.string (c m)) := by
                  rw [HB2.out.cell (by exact hlt), ← hc m]
                  exact HC.out m 0 (by omega) (by decide)
                have ci2 : wr.cell? ⟨b, off + i * 5, none⟩ = some (.string (c i)) := by
                  rw [HB2.out.cell (by exact hlt), ← hc i]
                  exact HC.out i 0 hin (by decide)
                obtain ⟨D, hD⟩ : ∃ D, ((c m).toList == (c i).toList) = D := ⟨_, rfl⟩
                have HD : Hid (eqS (c m) (c i) = D) := hD
                by_cases hdd : D = true
                · subst hdd
                  have HF : Hid (clsAt c i = 6) := by
                    show clsAt c i = 6
                    unfold clsAt
                    rw [if_pos HBn.out, if_pos (dup_yes c i m hmi HD.out)]
                  have HN : Hid (R = 6) := by
                    have h6 : clsAt c i ≠ 0 := by rw [HF.out]; decide
                    exact HR.out.trans ((firstErr_stop _ i n HE.out h6 hin).trans HF.out)
                  go_wp2
                  go_region
                  go_wp2
                  go_ret
                  exact ⟨by rw [HN.out]; rfl, HB2.out.drew⟩
                · have hdf : D = false := by simpa using hdd
                  subst hdf
                  clear hdd
                  go_wp2
                  go_region
                  go_wp2
                  go_roundw
                  case rel =>
                    refine ⟨m + 1, by omega, by go_num, fun q hq => ?_, HB2.out.drew⟩
                    by_cases e : q = m
                    · subst e; exact HD.out
                    · exact HQ.out q (by omega)
                  case measure => simp [intOf]; omega
              · obtain rfl : m = i := by omega
                have HF : Hid (clsAt c m = 0) := by
                  show clsAt c m = 0
                  unfold clsAt
                  rw [if_pos HBn.out, dup_no c m HQ.out]
                  rfl
                go_wp2
                go_roundw
                case rel => exact ⟨m + 1, by omega, by go_num, (firstErr_next _ m HE.out).trans HF.out, HB2.out⟩
                case measure => simp [intOf]; omega
          · have hbf : B = false := by simpa using hnm
            subst hbf
            have HF : Hid (clsAt c i = 4) := by
              show clsAt c i = 4
              unfold clsAt
              rw [if_neg (by rw [HBn.out]; decide)]
            have HN : Hid (R = 4) := by
              have h4 : clsAt c i ≠ 0 := by rw [HF.out]; decide
              exact HR.out.trans ((firstErr_stop _ i n HE.out h4 hin).trans HF.out)
            clear hnm
            go_wp2_with (first | (go_at_call 56; refine (HNm.out _).mono ?_; rintro e w1 ⟨rfl, rfl⟩))
            go_ret
            exact ⟨by rw [HN.out]; rfl, HB.out⟩
        · obtain rfl : i = n := by omega
          go_wp2
          go_ret
          exact ⟨by rw [HR.out, HE.out]; rfl, HB.out⟩
  · have hR1 : R = 3 := by rw [hR]; unfold clsErr; rw [if_neg hn]
    have i24 : (24 : Int) < n := by omega
    subst hR1
    clear hR hcells
    go_enter Tryz.func124, Tryz.ntmps124
    go_wp2
    go_ret
    exact ⟨rfl, Below.refl _ _⟩
theorem light_pos {x : Int} (h : (decide (0 ≤ x) && decide (x ≤ 65535)) = true) : 0 ≤ x ∧ x ≤ 65535 := by simpa using h
theorem light_neg {x : Int} (h : (decide (0 ≤ x) && decide (x ≤ 65535)) = false) (hp : 0 ≤ x ∧ x ≤ 65535) : False := by
  rw [decide_eq_true hp.1, decide_eq_true hp.2] at h
  cases h

set_option maxRecDepth 100000 in
set_option maxHeartbeats 4000000 in
theorem checkElements_any (n : Nat) (f : Nat → Nat → Value) (c : Nat → ByteArray) (x : Nat → Int) (hc : ∀ j, f j 0 = .string (c j)) (hx : ∀ j, f j 1 = .int .i64 (x j)) (sv : Value) (w : World) (hS : SL 2 n f w sv) :
    Calls Tryz.prog 125 #[sv] w fun e w' => e = .returned (.int .i64 (elmErr n c x)) ∧ Below w.heap.size w w' := by
  obtain ⟨R, hR⟩ : ∃ R, R = elmErr n c x := ⟨_, rfl⟩
  rw [← hR]
  obtain ⟨a, cap, rfl, hcap, hcells⟩ := hS
  by_cases hn : n ≤ 64
  · have hR1 : R = firstErr (elmAt c x) n := by rw [hR]; unfold elmErr; rw [if_pos hn]
    have HR := Lib.hid hR1
    clear hR hR1
    have i24 : ¬ (64 : Int) < n := by omega
    have hn24 : (n : Int) ≤ 64 := by omega
    rcases hcells with h0 | ⟨b, off, rfl, hlt, hcells⟩
    · subst h0
      have HN : Hid (R = 0) := HR.out
      go_enter Tryz.func125, Tryz.ntmps125
      go_wp2
      go_loopw [3] (fun i wr => i = .int .i64 0 ∧ wr = w) (fun _ _ => 0)
      case atStart => exact ⟨rfl, rfl⟩
      case round =>
        obtain ⟨rfl, rfl⟩ := hrel
        go_wp2
        go_ret
        exact ⟨by rw [HN.out]; rfl, Below.refl _ _⟩
    · have HC := Lib.hid hcells
      clear hcells
      go_enter Tryz.func125, Tryz.ntmps125
      go_wp2
      go_loopw [3] (fun i wr => ∃ k : Nat, k ≤ n ∧ i = .int .i64 k ∧ Hid (firstErr (elmAt c x) k = 0) ∧ Hid (Below w.heap.size w wr)) (fun i _ => n - (intOf i).toNat)
      case atStart => exact ⟨0, Nat.zero_le _, rfl, rfl, Below.refl _ _⟩
      case round =>
        obtain ⟨i, hi, rfl, HE, HB⟩ := hrel
        by_cases hin : i < n
        · have ii : (i : Int) < n := by omega
          have ii0 : (0 : Int) ≤ i := by omega
          have ci : wr.cell? ⟨b, off + i * 2, none⟩ = some (.string (c i)) := by
            rw [HB.out.cell (by exact hlt), ← hc i]
            exact HC.out i 0 hin (by decide)
          have xi : wr.cell? ⟨b, off + i * 2 + 1, none⟩ = some (.int .i64 (x i)) := by
            rw [HB.out.cell (by exact hlt), ← hx i]
            exact HC.out i 1 hin (by decide)
          have HNm := Lib.hid (light_any (x i))
          obtain ⟨X, hX⟩ : ∃ X, x i = X := ⟨_, rfl⟩
          obtain ⟨B, hB⟩ : ∃ B, (decide (0 ≤ x i) && decide (x i ≤ 65535)) = B := ⟨_, rfl⟩
          rw [hB] at HNm
          have HBn := Lib.hid hB
          clear hB hX
          by_cases hsz : (c i).size = 2
          · have e2 : (((c i).size : Int) != 2) = false := by rw [bne_eq_false_iff_eq]; omega
            have HSz := Lib.hid hsz
            clear hsz
            by_cases hnm : B = true
            · subst hnm
              go_wp2_with (first | (go_at_call 123; refine (HNm.out _).mono ?_; rintro e w1 ⟨rfl, rfl⟩))
              go_loopw [4] (fun k wr => ∃ m : Nat, m ≤ i ∧ k = .int .i64 m ∧ Hid (∀ q, q < m → eqS (c q) (c i) = false) ∧ Hid (Below w.heap.size w wr)) (fun k _ => i - (intOf k).toNat)
              case atStart => exact ⟨0, Nat.zero_le _, rfl, fun q hq => by omega, HB.out⟩
              case round =>
                obtain ⟨m, hm, rfl, HQ, HB2⟩ := hrel
                by_cases hmi : m < i
                · have im : (m : Int) < i := by omega
                  have im0 : (0 : Int) ≤ m := by omega
                  have imn : (m : Int) < n := by omega
                  have cm : wr.cell? ⟨b, off + m * 2, none⟩ = some (.string (c m)) := by
                    rw [HB2.out.cell (by exact hlt), ← hc m]
                    exact HC.out m 0 (by omega) (by decide)
                  have ci2 : wr.cell? ⟨b, off + i * 2, none⟩ = some (.string (c i)) := by
                    rw [HB2.out.cell (by exact hlt), ← hc i]
                    exact HC.out i 0 hin (by decide)
                  obtain ⟨D, hD⟩ : ∃ D, ((c m).toList == (c i).toList) = D := ⟨_, rfl⟩
                  have HD : Hid (eqS (c m) (c i) = D) := hD
                  by_cases hdd : D = true
                  · subst hdd
                    have HF : Hid (elmAt c x i = 6) := by
                      show elmAt c x i = 6
                      unfold elmAt
                      rw [if_pos ⟨HSz.out, light_pos HBn.out⟩, if_pos (dup_yes c i m hmi HD.out)]
                    have HN : Hid (R = 6) := by
                      have h6 : elmAt c x i ≠ 0 := by rw [HF.out]; decide
                      exact HR.out.trans ((firstErr_stop _ i n HE.out h6 hin).trans HF.out)
                    go_wp2
                    go_region
                    go_wp2
                    go_ret
                    exact ⟨by rw [HN.out]; rfl, HB2.out.drew⟩
                  · have hdf : D = false := by simpa using hdd
                    subst hdf
                    clear hdd
                    go_wp2
                    go_region
                    go_wp2
                    go_roundw
                    case rel =>
                      refine ⟨m + 1, by omega, by go_num, fun q hq => ?_, HB2.out.drew⟩
                      by_cases e : q = m
                      · subst e; exact HD.out
                      · exact HQ.out q (by omega)
                    case measure => simp [intOf]; omega
                · obtain rfl : m = i := by omega
                  have HF : Hid (elmAt c x m = 0) := by
                    show elmAt c x m = 0
                    unfold elmAt
                    rw [if_pos ⟨HSz.out, light_pos HBn.out⟩, dup_no c m HQ.out]
                    rfl
                  go_wp2
                  go_roundw
                  case rel => exact ⟨m + 1, by omega, by go_num, (firstErr_next _ m HE.out).trans HF.out, HB2.out⟩
                  case measure => simp [intOf]; omega
            · have hbf : B = false := by simpa using hnm
              subst hbf
              have HF : Hid (elmAt c x i = 2) := by
                show elmAt c x i = 2
                unfold elmAt
                rw [if_neg (fun h => light_neg HBn.out h.2)]
              have HN : Hid (R = 2) := by
                have h4 : elmAt c x i ≠ 0 := by rw [HF.out]; decide
                exact HR.out.trans ((firstErr_stop _ i n HE.out h4 hin).trans HF.out)
              clear hnm
              go_wp2_with (first | (go_at_call 123; refine (HNm.out _).mono ?_; rintro e w1 ⟨rfl, rfl⟩))
              go_ret
              exact ⟨by rw [HN.out]; rfl, HB.out⟩
          · have e2 : (((c i).size : Int) != 2) = true := by rw [bne_iff_ne]; omega
            have HF : Hid (elmAt c x i = 2) := by
              show elmAt c x i = 2
              unfold elmAt
              rw [if_neg (fun h => hsz h.1)]
            have HN : Hid (R = 2) := by
              have h4 : elmAt c x i ≠ 0 := by rw [HF.out]; decide
              exact HR.out.trans ((firstErr_stop _ i n HE.out h4 hin).trans HF.out)
            clear hsz
            go_wp2
            go_ret
            exact ⟨by rw [HN.out]; rfl, HB.out⟩
        · obtain rfl : i = n := by omega
          go_wp2
          go_ret
          exact ⟨by rw [HR.out, HE.out]; rfl, HB.out⟩
  · have hR1 : R = 3 := by rw [hR]; unfold elmErr; rw [if_neg hn]
    have i24 : (64 : Int) < n := by omega
    subst hR1
    clear hR hcells
    go_enter Tryz.func125, Tryz.ntmps125
    go_wp2
    go_ret
    exact ⟨rfl, Below.refl _ _⟩
end Go.Proofs.YticfhbffoajgcaaGreatDoor
