/- LcMem, CsMath, CsSmall, CsSets. -/
import Derived.Test.YtphiaagppcbefaaGreatDoorRows
import Derived.Test.YtphiaagppcbefaaGreatDoorPk0
import Derived.Lib.TrailingZeros
import Derived.WalkKit
import Derived.WalkSpells
import Derived.WalkLawsBesides
import Derived.Laws.Bits64b
import Derived.Laws.BitsAllLaws
import Derived.Shelf.Spec.TrailingZeros
import Derived.Below
import Derived.IntWalk
import Derived.BigGuardPart
import Derived.BigQuiet
import Derived.Lib.Hide
set_option linter.unusedVariables false
namespace Go.Proofs.YtphiaagppcbefaaGreatDoor
open Go.RowKit
def SL (k n : Nat) (f : Nat → Nat → Value) (w : World) (sv : Value) : Prop :=
  ∃ a cap, sv = .slice a n cap ∧ n ≤ cap ∧ (n = 0 ∨ ∃ b off, a = some ⟨b, off, none⟩ ∧ b < w.heap.size ∧ ∀ j i, j < n → i < k → w.cell? ⟨b, off + j * k + i, none⟩ = some (f j i))
theorem SL.below {k n : Nat} {f : Nat → Nat → Value} {w w' : World} {sv : Value} (h : SL k n f w sv) (hb : Below w.heap.size w w') : SL k n f w' sv := by
  obtain ⟨a, cap, e, hc, h⟩ := h
  refine ⟨a, cap, e, hc, ?_⟩
  rcases h with h | ⟨b, off, ha, hlt, h⟩
  · exact .inl h
  · exact .inr ⟨b, off, ha, Nat.lt_of_lt_of_le hlt hb.size, fun j i hj hi => by rw [hb.cell (by exact hlt)]; exact h j i hj hi⟩
def firstErr (f : Nat → Int) : Nat → Int
  | 0 => 0
  | n + 1 => if firstErr f n = 0 then f n else firstErr f n
theorem firstErr_next (f : Nat → Int) (k : Nat) (h : firstErr f k = 0) : firstErr f (k + 1) = f k := by
  show (if firstErr f k = 0 then f k else firstErr f k) = f k
  rw [if_pos h]
theorem firstErr_stop (f : Nat → Int) (k n : Nat) (h : firstErr f k = 0) (hk : f k ≠ 0) (hn : k < n) : firstErr f n = f k := by
  induction n with
  | zero => omega
  | succ n ih =>
    by_cases e : k = n
    · subst e
      exact firstErr_next f k h
    · have := ih (by omega)
      show (if firstErr f n = 0 then f n else firstErr f n) = f k
      rw [this, if_neg hk]
def eqS (s t : ByteArray) : Bool := s.toList == t.toList
def dup (c : Nat → ByteArray) (i : Nat) : Bool := (List.range i).any fun k => eqS (c k) (c i)
theorem dup_yes (c : Nat → ByteArray) (i k : Nat) (hk : k < i) (h : eqS (c k) (c i) = true) : dup c i = true := by
  unfold dup
  exact List.any_eq_true.2 ⟨k, by simpa using hk, h⟩
theorem dup_no (c : Nat → ByteArray) (i : Nat) (h : ∀ k, k < i → eqS (c k) (c i) = false) : dup c i = false := by
  unfold dup
  apply Bool.eq_false_iff.2
  intro hd
  obtain ⟨k, hk, he⟩ := List.any_eq_true.1 hd
  rw [h k (by simpa using hk)] at he
  cases he
def clsAt (c : Nat → ByteArray) (i : Nat) : Int := if nmB (c i) = true then (if dup c i = true then 6 else 0) else 4
def clsErr (n : Nat) (c : Nat → ByteArray) : Int := if n ≤ 24 then firstErr (clsAt c) n else 3
def elmAt (t : Nat → ByteArray) (x : Nat → Int) (i : Nat) : Int := if (t i).size = 2 ∧ 0 ≤ x i ∧ x i ≤ 65535 then (if dup t i = true then 6 else 0) else 2
def elmErr (n : Nat) (t : Nat → ByteArray) (x : Nat → Int) : Int := if n ≤ 64 then firstErr (elmAt t x) n else 3
set_option maxRecDepth 100000 in
set_option maxHeartbeats 4000000 in
theorem checkClasses_any (n : Nat) (f : Nat → Nat → Value) (c : Nat → ByteArray) (hc : ∀ j, f j 0 = .string (c j)) (sv : Value) (w : World) (hS : SL 5 n f w sv) :
    Calls Tryz.prog 80 #[sv] w fun e w' => e = .returned (.int .i64 (clsErr n c)) ∧ Below w.heap.size w w' := by
  obtain ⟨R, hR⟩ : ∃ R, R = clsErr n c := ⟨_, rfl⟩
  rw [← hR]
  obtain ⟨a, cap, rfl, hcap, hcells⟩ := hS
  by_cases hn : n ≤ 24
  · have hR1 : R = firstErr (clsAt c) n := by rw [hR]; unfold clsErr; rw [if_pos hn]
    have HR := Lib.hid hR1
    clear hR hR1
    have i24 : ¬ (24 : Int) < n := by omega
    have hn24 : (n : Int) ≤ 24 := by omega
    rcases hcells with h0 | ⟨b, off, rfl, hlt, hcells⟩
    · subst h0
      have HN : Hid (R = 0) := HR.out
      go_enter Tryz.func80, Tryz.ntmps80
      go_wp2
      go_loopw [3] (fun i wr => i = .int .i64 0 ∧ wr = w) (fun _ _ => 0)
      case atStart => exact ⟨rfl, rfl⟩
      case round =>
        obtain ⟨rfl, rfl⟩ := hrel
        go_wp2
        go_ret
        exact ⟨by rw [HN.out]; rfl, Below.refl _ _⟩
    · have HC := Lib.hid hcells
      clear hcells
      go_enter Tryz.func80, Tryz.ntmps80
      go_wp2
      go_loopw [3] (fun i wr => ∃ k : Nat, k ≤ n ∧ i = .int .i64 k ∧ Hid (firstErr (clsAt c) k = 0) ∧ Hid (Below w.heap.size w wr)) (fun i _ => n - (intOf i).toNat)
      case atStart => exact ⟨0, Nat.zero_le _, rfl, rfl, Below.refl _ _⟩
      case round =>
        obtain ⟨i, hi, rfl, HE, HB⟩ := hrel
        by_cases hin : i < n
        · have ii : (i : Int) < n := by omega
          have ii0 : (0 : Int) ≤ i := by omega
          have ci : wr.cell? ⟨b, off + i * 5, none⟩ = some (.string (c i)) := by
            rw [HB.out.cell (by exact hlt), ← hc i]
            exact HC.out i 0 hin (by decide)
          have HNm := Lib.hid (isName_any (c i))
          obtain ⟨B, hB⟩ : ∃ B, nmB (c i) = B := ⟨_, rfl⟩
          rw [hB] at HNm
          have HBn := Lib.hid hB
          clear hB
          by_cases hnm : B = true
          · subst hnm
            go_wp2_with (first | (go_at_call 78; refine (HNm.out _).mono ?_; rintro e w1 ⟨rfl, rfl⟩))
            go_loopw [4] (fun k wr => ∃ m : Nat, m ≤ i ∧ k = .int .i64 m ∧ Hid (∀ q, q < m → eqS (c q) (c i) = false) ∧ Hid (Below w.heap.size w wr)) (fun k _ => i - (intOf k).toNat)
            case atStart => exact ⟨0, Nat.zero_le _, rfl, fun q hq => by omega, HB.out⟩
            case round =>
              obtain ⟨m, hm, rfl, HQ, HB2⟩ := hrel
              by_cases hmi : m < i
              · have im : (m : Int) < i := by omega
                have im0 : (0 : Int) ≤ m := by omega
                have imn : (m : Int) < n := by omega
                have cm : wr.cell? ⟨b, off + m * 5, none⟩ = some (.string (c m)) := by
                  rw [HB2.out.cell (by exact hlt), ← hc m]
                  exact HC.out m 0 (by omega) (by decide)
                have ci2 : wr.cell? ⟨b, off + i * 5, none⟩ = some (.string (c i)) := by
                  rw [HB2.out.cell (by exact hlt), ← hc i]
                  exact HC.out i 0 hin (by decide)
                obtain ⟨D, hD⟩ : ∃ D, ((c m).toList == (c i).toList) = D := ⟨_, rfl⟩
                have HD : Hid (eqS (c m) (c i) = D) := hD
                by_cases hdd : D = true
                · subst hdd
                  have HF : Hid (clsAt c i = 6) := by
                    show clsAt c i = 6
                    unfold clsAt
                    rw [if_pos HBn.out, if_pos (dup_yes c i m hmi HD.out)]
                  have HN : Hid (R = 6) := by
                    have h6 : clsAt c i ≠ 0 := by rw [HF.out]; decide
                    exact HR.out.trans ((firstErr_stop _ i n HE.out h6 hin).trans HF.out)
                  go_wp2
                  go_region
                  go_wp2
                  go_ret
                  exact ⟨by rw [HN.out]; rfl, HB2.out.drew⟩
                · have hdf : D = false := by simpa using hdd
                  subst hdf
                  clear hdd
                  go_wp2
                  go_region
                  go_wp2
                  go_roundw
                  case rel =>
                    refine ⟨m + 1, by omega, by go_num, fun q hq => ?_, HB2.out.drew⟩
                    by_cases e : q = m
                    · subst e; exact HD.out
                    · exact HQ.out q (by omega)
                  case measure => simp [intOf]; omega
              · obtain rfl : m = i := by omega
                have HF : Hid (clsAt c m = 0) := by
                  show clsAt c m = 0
                  unfold clsAt
                  rw [if_pos HBn.out, dup_no c m HQ.out]
                  rfl
                go_wp2
                go_roundw
                case rel => exact ⟨m + 1, by omega, by go_num, (firstErr_next _ m HE.out).trans HF.out, HB2.out⟩
                case measure => simp [intOf]; omega
          · have hbf : B = false := by simpa using hnm
            subst hbf
            have HF : Hid (clsAt c i = 4) := by
              show clsAt c i = 4
              unfold clsAt
              rw [if_neg (by rw [HBn.out]; decide)]
            have HN : Hid (R = 4) := by
              have h4 : clsAt c i ≠ 0 := by rw [HF.out]; decide
              exact HR.out.trans ((firstErr_stop _ i n HE.out h4 hin).trans HF.out)
            clear hnm
            go_wp2_with (first | (go_at_call 78; refine (HNm.out _).mono ?_; rintro e w1 ⟨rfl, rfl⟩))
            go_ret
            exact ⟨by rw [HN.out]; rfl, HB.out⟩
        · obtain rfl : i = n := by omega
          go_wp2
          go_ret
          exact ⟨by rw [HR.out, HE.out]; rfl, HB.out⟩
  · have hR1 : R = 3 := by rw [hR]; unfold clsErr; rw [if_neg hn]
    have i24 : (24 : Int) < n := by omega
    subst hR1
    clear hR hcells
    go_enter Tryz.func80, Tryz.ntmps80
    go_wp2
    go_ret
    exact ⟨rfl, Below.refl _ _⟩
theorem light_pos {x : Int} (h : (decide (0 ≤ x) && decide (x ≤ 65535)) = true) : 0 ≤ x ∧ x ≤ 65535 := by simpa using h
theorem light_neg {x : Int} (h : (decide (0 ≤ x) && decide (x ≤ 65535)) = false) (hp : 0 ≤ x ∧ x ≤ 65535) : False := by
  rw [decide_eq_true hp.1, decide_eq_true hp.2] at h
  cases h
set_option maxRecDepth 100000 in
set_option maxHeartbeats 4000000 in
theorem checkElements_any (n : Nat) (f : Nat → Nat → Value) (c : Nat → ByteArray) (x : Nat → Int) (hc : ∀ j, f j 0 = .string (c j)) (hx : ∀ j, f j 1 = .int .i64 (x j)) (sv : Value) (w : World) (hS : SL 2 n f w sv) :
    Calls Tryz.prog 81 #[sv] w fun e w' => e = .returned (.int .i64 (elmErr n c x)) ∧ Below w.heap.size w w' := by
  obtain ⟨R, hR⟩ : ∃ R, R = elmErr n c x := ⟨_, rfl⟩
  rw [← hR]
  obtain ⟨a, cap, rfl, hcap, hcells⟩ := hS
  by_cases hn : n ≤ 64
  · have hR1 : R = firstErr (elmAt c x) n := by rw [hR]; unfold elmErr; rw [if_pos hn]
    have HR := Lib.hid hR1
    clear hR hR1
    have i24 : ¬ (64 : Int) < n := by omega
    have hn24 : (n : Int) ≤ 64 := by omega
    rcases hcells with h0 | ⟨b, off, rfl, hlt, hcells⟩
    · subst h0
      have HN : Hid (R = 0) := HR.out
      go_enter Tryz.func81, Tryz.ntmps81
      go_wp2
      go_loopw [3] (fun i wr => i = .int .i64 0 ∧ wr = w) (fun _ _ => 0)
      case atStart => exact ⟨rfl, rfl⟩
      case round =>
        obtain ⟨rfl, rfl⟩ := hrel
        go_wp2
        go_ret
        exact ⟨by rw [HN.out]; rfl, Below.refl _ _⟩
    · have HC := Lib.hid hcells
      clear hcells
      go_enter Tryz.func81, Tryz.ntmps81
      go_wp2
      go_loopw [3] (fun i wr => ∃ k : Nat, k ≤ n ∧ i = .int .i64 k ∧ Hid (firstErr (elmAt c x) k = 0) ∧ Hid (Below w.heap.size w wr)) (fun i _ => n - (intOf i).toNat)
      case atStart => exact ⟨0, Nat.zero_le _, rfl, rfl, Below.refl _ _⟩
      case round =>
        obtain ⟨i, hi, rfl, HE, HB⟩ := hrel
        by_cases hin : i < n
        · have ii : (i : Int) < n := by omega
          have ii0 : (0 : Int) ≤ i := by omega
          have ci : wr.cell? ⟨b, off + i * 2, none⟩ = some (.string (c i)) := by
            rw [HB.out.cell (by exact hlt), ← hc i]
            exact HC.out i 0 hin (by decide)
          have xi : wr.cell? ⟨b, off + i * 2 + 1, none⟩ = some (.int .i64 (x i)) := by
            rw [HB.out.cell (by exact hlt), ← hx i]
            exact HC.out i 1 hin (by decide)
          have HNm := Lib.hid (light_any (x i))
          obtain ⟨X, hX⟩ : ∃ X, x i = X := ⟨_, rfl⟩
          obtain ⟨B, hB⟩ : ∃ B, (decide (0 ≤ x i) && decide (x i ≤ 65535)) = B := ⟨_, rfl⟩
          rw [hB] at HNm
          have HBn := Lib.hid hB
          clear hB hX
          by_cases hsz : (c i).size = 2
          · have e2 : (((c i).size : Int) != 2) = false := by rw [bne_eq_false_iff_eq]; omega
            have HSz := Lib.hid hsz
            clear hsz
            by_cases hnm : B = true
            · subst hnm
              go_wp2_with (first | (go_at_call 79; refine (HNm.out _).mono ?_; rintro e w1 ⟨rfl, rfl⟩))
              go_loopw [4] (fun k wr => ∃ m : Nat, m ≤ i ∧ k = .int .i64 m ∧ Hid (∀ q, q < m → eqS (c q) (c i) = false) ∧ Hid (Below w.heap.size w wr)) (fun k _ => i - (intOf k).toNat)
              case atStart => exact ⟨0, Nat.zero_le _, rfl, fun q hq => by omega, HB.out⟩
              case round =>
                obtain ⟨m, hm, rfl, HQ, HB2⟩ := hrel
                by_cases hmi : m < i
                · have im : (m : Int) < i := by omega
                  have im0 : (0 : Int) ≤ m := by omega
                  have imn : (m : Int) < n := by omega
                  have cm : wr.cell? ⟨b, off + m * 2, none⟩ = some (.string (c m)) := by
                    rw [HB2.out.cell (by exact hlt), ← hc m]
                    exact HC.out m 0 (by omega) (by decide)
                  have ci2 : wr.cell? ⟨b, off + i * 2, none⟩ = some (.string (c i)) := by
                    rw [HB2.out.cell (by exact hlt), ← hc i]
                    exact HC.out i 0 hin (by decide)
                  obtain ⟨D, hD⟩ : ∃ D, ((c m).toList == (c i).toList) = D := ⟨_, rfl⟩
                  have HD : Hid (eqS (c m) (c i) = D) := hD
                  by_cases hdd : D = true
                  · subst hdd
                    have HF : Hid (elmAt c x i = 6) := by
                      show elmAt c x i = 6
                      unfold elmAt
                      rw [if_pos ⟨HSz.out, light_pos HBn.out⟩, if_pos (dup_yes c i m hmi HD.out)]
                    have HN : Hid (R = 6) := by
                      have h6 : elmAt c x i ≠ 0 := by rw [HF.out]; decide
                      exact HR.out.trans ((firstErr_stop _ i n HE.out h6 hin).trans HF.out)
                    go_wp2
                    go_region
                    go_wp2
                    go_ret
                    exact ⟨by rw [HN.out]; rfl, HB2.out.drew⟩
                  · have hdf : D = false := by simpa using hdd
                    subst hdf
                    clear hdd
                    go_wp2
                    go_region
                    go_wp2
                    go_roundw
                    case rel =>
                      refine ⟨m + 1, by omega, by go_num, fun q hq => ?_, HB2.out.drew⟩
                      by_cases e : q = m
                      · subst e; exact HD.out
                      · exact HQ.out q (by omega)
                    case measure => simp [intOf]; omega
                · obtain rfl : m = i := by omega
                  have HF : Hid (elmAt c x m = 0) := by
                    show elmAt c x m = 0
                    unfold elmAt
                    rw [if_pos ⟨HSz.out, light_pos HBn.out⟩, dup_no c m HQ.out]
                    rfl
                  go_wp2
                  go_roundw
                  case rel => exact ⟨m + 1, by omega, by go_num, (firstErr_next _ m HE.out).trans HF.out, HB2.out⟩
                  case measure => simp [intOf]; omega
            · have hbf : B = false := by simpa using hnm
              subst hbf
              have HF : Hid (elmAt c x i = 2) := by
                show elmAt c x i = 2
                unfold elmAt
                rw [if_neg (fun h => light_neg HBn.out h.2)]
              have HN : Hid (R = 2) := by
                have h4 : elmAt c x i ≠ 0 := by rw [HF.out]; decide
                exact HR.out.trans ((firstErr_stop _ i n HE.out h4 hin).trans HF.out)
              clear hnm
              go_wp2_with (first | (go_at_call 79; refine (HNm.out _).mono ?_; rintro e w1 ⟨rfl, rfl⟩))
              go_ret
              exact ⟨by rw [HN.out]; rfl, HB.out⟩
          · have e2 : (((c i).size : Int) != 2) = true := by rw [bne_iff_ne]; omega
            have HF : Hid (elmAt c x i = 2) := by
              show elmAt c x i = 2
              unfold elmAt
              rw [if_neg (fun h => hsz h.1)]
            have HN : Hid (R = 2) := by
              have h4 : elmAt c x i ≠ 0 := by rw [HF.out]; decide
              exact HR.out.trans ((firstErr_stop _ i n HE.out h4 hin).trans HF.out)
            clear hsz
            go_wp2
            go_ret
            exact ⟨by rw [HN.out]; rfl, HB.out⟩
        · obtain rfl : i = n := by omega
          go_wp2
          go_ret
          exact ⟨by rw [HR.out, HE.out]; rfl, HB.out⟩
  · have hR1 : R = 3 := by rw [hR]; unfold elmErr; rw [if_neg hn]
    have i24 : (64 : Int) < n := by omega
    subst hR1
    clear hR hcells
    go_enter Tryz.func81, Tryz.ntmps81
    go_wp2
    go_ret
    exact ⟨rfl, Below.refl _ _⟩
end Go.Proofs.YtphiaagppcbefaaGreatDoor
namespace Go.Proofs.YtphiaagppcbefaaGreatDoor
def wd (p : Nat → Bool) (b : Nat) : Nat → Nat
  | 0 => 0
  | n + 1 => wd p b n + (if p (b + n) then 2 ^ n else 0)
theorem wd_lt (p : Nat → Bool) (b n : Nat) : wd p b n < 2 ^ n := by
  induction n with
  | zero => simp [wd]
  | succ n ih =>
    simp only [wd, Nat.pow_succ]
    split <;> omega
theorem wd_lt64 (p : Nat → Bool) (b : Nat) : wd p b 64 < 18446744073709551616 := wd_lt p b 64
theorem wd_bit (p : Nat → Bool) (b n k : Nat) : (wd p b n).testBit k = (decide (k < n) && p (b + k)) := by
  induction n with
  | zero => simp [wd]
  | succ n ih =>
    simp only [wd]
    have hlt := wd_lt p b n
    by_cases h : p (b + n) = true
    · rw [if_pos h, Nat.add_comm]
      by_cases h1 : k < n
      · rw [Nat.testBit_two_pow_add_gt h1, ih]
        simp [h1, Nat.lt_succ_of_lt h1]
      · by_cases h2 : k = n
        · subst h2
          rw [Nat.testBit_two_pow_add_eq, ih]
          simp [h]
        · have h3 : 2 ^ n + wd p b n < 2 ^ k := by
            have : 2 ^ (n + 1) ≤ 2 ^ k := Nat.pow_le_pow_right (by decide) (by omega)
            rw [Nat.pow_succ] at this
            omega
          rw [Nat.testBit_lt_two_pow h3]
          have h4 : ¬ k < n + 1 := by omega
          simp [h4]
    · rw [if_neg h, Nat.add_zero, ih]
      by_cases h1 : k < n
      · simp [h1, Nat.lt_succ_of_lt h1]
      · by_cases h2 : k = n
        · subst h2
          simp at h
          simp [h]
        · have h4 : ¬ k < n + 1 := by omega
          simp [h1, h4]
theorem wd_congr (p q : Nat → Bool) (b n : Nat) (h : ∀ k, k < n → p (b + k) = q (b + k)) : wd p b n = wd q b n := by
  apply Nat.eq_of_testBit_eq
  intro i
  rw [wd_bit, wd_bit]
  by_cases hi : i < n
  · rw [h i hi]
  · simp [hi]
theorem wd_inj (p q : Nat → Bool) (b n : Nat) (h : wd p b n = wd q b n) : ∀ k, k < n → p (b + k) = q (b + k) := by
  intro k hk
  have := congrArg (fun x => x.testBit k) h
  simpa [wd_bit, hk] using this
theorem wd_or (p q : Nat → Bool) (b n : Nat) : wd p b n ||| wd q b n = wd (fun c => p c || q c) b n := by
  apply Nat.eq_of_testBit_eq
  intro i
  rw [Nat.testBit_or, wd_bit, wd_bit, wd_bit]
  cases decide (i < n) <;> simp
theorem wd_and (p q : Nat → Bool) (b n : Nat) : wd p b n &&& wd q b n = wd (fun c => p c && q c) b n := by
  apply Nat.eq_of_testBit_eq
  intro i
  rw [Nat.testBit_and, wd_bit, wd_bit, wd_bit]
  cases decide (i < n) <;> simp
theorem wd_one (c : Nat) : 2 ^ (c % 64) = wd (fun x => x == c) (64 * (c / 64)) 64 := by
  apply Nat.eq_of_testBit_eq
  intro i
  rw [wd_bit, Nat.testBit_two_pow]
  by_cases h : c % 64 = i
  · have h1 : i < 64 := by omega
    have h2 : 64 * (c / 64) + i = c := by omega
    simp [h, h1, h2]
  · by_cases h1 : i < 64
    · have h2 : ¬ 64 * (c / 64) + i = c := by omega
      simp [h, h1, h2]
    · simp [h, h1]
theorem wd_none (b n : Nat) : wd (fun _ => false) b n = 0 := by
  induction n with
  | zero => rfl
  | succ n ih => simp [wd, ih]
theorem wd_shift (p : Nat → Bool) (c : Nat) : wd p (64 * (c / 64)) 64 / 2 ^ (c % 64) % 2 = (p c).toNat := by
  have h := wd_bit p (64 * (c / 64)) 64 (c % 64)
  have e : 64 * (c / 64) + c % 64 = c := by omega
  have h1 : c % 64 < 64 := by omega
  rw [e] at h
  simp only [h1, decide_true, Bool.true_and] at h
  rw [← Nat.toNat_testBit, h]
def el (p : Nat → Bool) (n : Nat) : List Nat := (List.range n).filter p
theorem el_succ (p : Nat → Bool) (n : Nat) : el p (n + 1) = el p n ++ (if p n then [n] else []) := by
  unfold el
  rw [List.range_succ, List.filter_append]
  congr 1
  by_cases h : p n = true
  · simp [h]
  · simp [h]
theorem el_length_le (p : Nat → Bool) (n : Nat) : (el p n).length ≤ n := by
  have := List.length_filter_le p (List.range n)
  simpa [el] using this
theorem mem_el (p : Nat → Bool) (n x : Nat) : x ∈ el p n ↔ x < n ∧ p x = true := by
  simp [el]
theorem el_none (p : Nat → Bool) (n j : Nat) (h : ∀ k, n ≤ k → k < n + j → p k = false) : el p (n + j) = el p n := by
  induction j with
  | zero => rfl
  | succ j ih =>
    rw [← Nat.add_assoc, el_succ, ih (fun k h1 h2 => h k h1 (by omega)), h (n + j) (by omega) (by omega)]
    simp
def f1 (b : Nat) : Nat := (b / 2 &&& 85) + (b &&& 85)
def f2 (b : Nat) : Nat := (b / 4 &&& 51) + (b &&& 51)
def pc (b : Nat) : Nat := b % 2 + b / 2 % 2 + b / 4 % 2 + b / 8 % 2 + b / 16 % 2 + b / 32 % 2 + b / 64 % 2 + b / 128 % 2
def h1 (x : Nat) : Nat := (x / 2 &&& 6148914691236517205) + (x &&& 6148914691236517205)
def h2 (x : Nat) : Nat := (x / 4 &&& 3689348814741910323) + (x &&& 3689348814741910323)
def h3 (x : Nat) : Nat := (x / 16 + x) &&& 1085102592571150095
theorem ctz_bit (x : Nat) (h0 : x ≠ 0) (h : x < 2 ^ 64) : Lib.ctz 64 x < 64 ∧ x.testBit (Lib.ctz 64 x) = true ∧ (∀ k, k < Lib.ctz 64 x → x.testBit k = false) ∧ (∀ k, (x &&& (x - 1)).testBit k = (x.testBit k && !decide (k = Lib.ctz 64 x))) := by
  obtain ⟨m, hm, hk⟩ := Lib.ctzFrom_spec 64 x (by omega) h
  have e : Lib.ctz 64 x = Lib.ctzFrom 64 x := by simp [Lib.ctz, h0]
  rw [e]
  generalize Lib.ctzFrom 64 x = k at hm hk
  have hb : ∀ i, x.testBit i = (decide (i ≥ k) && (2 * m + 1).testBit (i - k)) := by
    intro i
    rw [hm, Nat.mul_comm, Nat.testBit_mul_two_pow]
  refine ⟨hk, ?_, ?_, ?_⟩
  · rw [hb]
    simp [Nat.testBit_zero]
  · intro i hi
    rw [hb]
    have : ¬ i ≥ k := by omega
    simp [this]
  · intro i
    rw [Nat.testBit_and]
    have hx1 : x - 1 = 2 ^ k * (2 * m) + (2 ^ k - 1) := by
      have : 0 < 2 ^ k := Nat.two_pow_pos k
      rw [hm, Nat.mul_add]
      omega
    have hb1 : (x - 1).testBit i = if i < k then true else (2 * m).testBit (i - k) := by
      rw [hx1, Nat.testBit_two_pow_mul_add _ (by have := Nat.two_pow_pos k; omega)]
      by_cases hi : i < k
      · rw [if_pos hi, if_pos hi, Nat.testBit_two_pow_sub_one]
        simp [hi]
      · rw [if_neg hi, if_neg hi]
    rw [hb1, hb]
    by_cases hi : i < k
    · have h1 : ¬ i ≥ k := by omega
      simp [h1]
    · have h1 : i ≥ k := by omega
      rw [if_neg hi]
      by_cases h2 : i = k
      · subst h2
        simp [Nat.testBit_zero]
      · obtain ⟨j, rfl⟩ : ∃ j, i = k + (j + 1) := ⟨i - k - 1, by omega⟩
        have e3 : k + (j + 1) - k = j + 1 := by omega
        rw [e3, Nat.testBit_succ, Nat.testBit_succ]
        have d1 : (2 * m + 1) / 2 = m := by omega
        have d2 : 2 * m / 2 = m := by omega
        rw [d1, d2]
        simp
end Go.Proofs.YtphiaagppcbefaaGreatDoor
namespace Go.Proofs.YtphiaagppcbefaaGreatDoor
open Go.RowKit
theorem pow_lt64 (c : Nat) : 2 ^ (c % 64) < 18446744073709551616 := by
  have : 2 ^ (c % 64) < 2 ^ 64 := Nat.pow_lt_pow_right (by decide) (by omega)
  simpa using this
theorem pow_cast (c : Nat) : IntKind.u64.wrap ((2 : Int) ^ (c % 64)) = ((2 ^ (c % 64) : Nat) : Int) := by
  have h := pow_lt64 c
  rw [IntKind.wrap_u64, show ((2 : Int) ^ (c % 64)) = ((2 ^ (c % 64) : Nat) : Int) by simp]
  generalize 2 ^ (c % 64) = y at h ⊢
  omega
theorem bit_any (c : Nat) (hc : c < 256) (w : World) : Calls Tryz.prog 115 #[.int .u8 c] w fun e w' => e = .returned (.int .u64 ((2 ^ (c % 64) : Nat) : Int)) ∧ w = w' := by
  go_enter Tryz.func115, Tryz.ntmps115
  go_wp2
  go_ret
  exact ⟨by simp [pow_cast], rfl⟩
theorem and64 (a m : Nat) (ha : a < 18446744073709551616) (hm : m < 18446744073709551616) : bits BinOp.and IntKind.u64 (a : Int) (m : Int) = ((a &&& m : Nat) : Int) := bits_and_u64_nat a m ha hm
theorem add64 (a b : Nat) (h : a + b < 18446744073709551616) : IntKind.u64.wrap ((a : Int) + (b : Int)) = ((a + b : Nat) : Int) := by
  rw [IntKind.wrap_u64]
  omega
def tabAt (w : World) : Prop := ∀ j, j < Lib.deBruijn64tab.length → w.cell? ⟨0, j, none⟩ = some (.int .u8 (Lib.deBruijn64tab.getD j 0))
theorem tz_core (x k idx : Nat) (w : World) (hx0 : ((x : Int) == 0) = false)
    (key : IntKind.u64.wrap (bits BinOp.and IntKind.u64 (x : Int) (IntKind.u64.wrap (-(x : Int))) * 285870213051353865) / 288230376151711744 = (idx : Int))
    (hi : idx < 64) (hk : k < 64) (hcell : w.cell? ⟨0, idx, none⟩ = some (.int .u8 k)) :
    Calls Tryz.prog 99 #[.int .u64 x] w fun e w' => e = .returned (.int .i64 k) ∧ w = w' := by
  go_enter Tryz.func99, Tryz.ntmps99
  go_wp2_with (simp only [key])
  go_ret
  exact ⟨rfl, rfl⟩
theorem tz_any (x : Nat) (hx : x < 18446744073709551616) (hx0 : x ≠ 0) (w : World) (hT : tabAt w) :
    Calls Tryz.prog 99 #[.int .u64 (x : Int)] w fun e w' => e = .returned (.int .i64 ((Lib.ctz 64 x : Nat) : Int)) ∧ w = w' := by
  obtain ⟨hlow, hk⟩ := Lib.lowest_bit 64 x hx0 hx
  obtain ⟨hi, htab⟩ := Lib.deBruijn64_at _ hk
  have hcell := hT _ hi
  rw [htab] at hcell
  exact tz_core x _ _ w (by simp; omega) (tz64_key x _ hx hx0 hlow) hi hk hcell
end Go.Proofs.YtphiaagppcbefaaGreatDoor
namespace Go.Proofs.YtphiaagppcbefaaGreatDoor
open Go.RowKit
def cl (p : Nat → Bool) : Array Value := #[.int .u64 (wd p 0 64 : Nat), .int .u64 (wd p 64 64 : Nat), .int .u64 (wd p 128 64 : Nat), .int .u64 (wd p 192 64 : Nat)]
def cs (p : Nat → Bool) : Value := .agg (cl p)
theorem below_drewN {B : Nat} {a w : World} (h : Below B a w) (n : Nat) : Below B a (w.drewN n) := by
  induction n generalizing w with
  | zero => exact h
  | succ n ih => exact (ih h).drew
theorem wd_base (p : Nat → Bool) (c k : Nat) (h : c / 64 = k) (x b : Nat) (hb : b = 64 * k) (hx : x = wd p b 64) : x = wd p (64 * (c / 64)) 64 := by
  rw [h, hx, hb]
theorem shr_test (p : Nat → Bool) (c x : Nat) (hx : x = wd p (64 * (c / 64)) 64) : (bits BinOp.and IntKind.u64 ((x : Int) / (2 : Int) ^ (c % 64)) 1 == 1) = p c := by
  have hm := wd_shift p c
  rw [← hx] at hm
  have hlt : x < 18446744073709551616 := by rw [hx]; exact wd_lt64 _ _
  have e : (x : Int) / (2 : Int) ^ (c % 64) = ((x / 2 ^ (c % 64) : Nat) : Int) := by simp
  have l2 : x / 2 ^ (c % 64) < 18446744073709551616 := Nat.lt_of_le_of_lt (Nat.div_le_self _ _) hlt
  have := and64 (x / 2 ^ (c % 64)) 1 l2 (by decide)
  rw [Nat.and_one_is_mod, hm] at this
  have t2 : bits BinOp.and IntKind.u64 ((x / 2 ^ (c % 64) : Nat) : Int) 1 = (((p c).toNat : Nat) : Int) := this
  rw [e, t2]
  cases p c <;> rfl
theorem rhas_any (p : Nat → Bool) (c : Nat) (hc : c < 256) (w : World) : Calls Tryz.prog 58 #[cs p, .int .u8 c] w fun e w' => e = .returned (.bool (p c)) ∧ Below w.heap.size w w' := by
  unfold cs cl
  have h4 : c / 64 = 0 ∨ c / 64 = 1 ∨ c / 64 = 2 ∨ c / 64 = 3 := by omega
  rcases h4 with h | h | h | h
  · have hq : (c : Int) / 64 = 0 := by omega
    have HT := Lib.hid (shr_test p c _ (wd_base p c _ h _ 0 rfl rfl))
    go_enter Tryz.func58, Tryz.ntmps58
    go_wp2
    go_ret
    exact ⟨congrArg (fun b => Ending.returned (Value.bool b)) HT.out, (Below.refl _ _).alloc (Nat.le_refl _) _⟩
  · have hq : (c : Int) / 64 = 1 := by omega
    have HT := Lib.hid (shr_test p c _ (wd_base p c _ h _ 64 rfl rfl))
    go_enter Tryz.func58, Tryz.ntmps58
    go_wp2
    go_ret
    exact ⟨congrArg (fun b => Ending.returned (Value.bool b)) HT.out, (Below.refl _ _).alloc (Nat.le_refl _) _⟩
  · have hq : (c : Int) / 64 = 2 := by omega
    have HT := Lib.hid (shr_test p c _ (wd_base p c _ h _ 128 rfl rfl))
    go_enter Tryz.func58, Tryz.ntmps58
    go_wp2
    go_ret
    exact ⟨congrArg (fun b => Ending.returned (Value.bool b)) HT.out, (Below.refl _ _).alloc (Nat.le_refl _) _⟩
  · have hq : (c : Int) / 64 = 3 := by omega
    have HT := Lib.hid (shr_test p c _ (wd_base p c _ h _ 192 rfl rfl))
    go_enter Tryz.func58, Tryz.ntmps58
    go_wp2
    go_ret
    exact ⟨congrArg (fun b => Ending.returned (Value.bool b)) HT.out, (Below.refl _ _).alloc (Nat.le_refl _) _⟩
end Go.Proofs.YtphiaagppcbefaaGreatDoor
