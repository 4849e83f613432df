/- Escape sequences of layer 3 on plain lists of bytes. It speaks of no program. -/
import Derived.Test.YticfhbffoajgcaaGreatDoorTxMath
namespace Go.Proofs.YticfhbffoajgcaaGreatDoor
open Go.RowKit

def lett (c : UInt8) : UInt8 := if c = 7 then 97 else if c = 8 then 98 else if c = 9 then 116 else if c = 10 then 110 else if c = 11 then 118 else if c = 12 then 102 else if c = 13 then 114 else if c = 92 then 92 else 0
def letters : List UInt8 := [97, 98, 116, 110, 118, 102, 114]
def quotable : List UInt8 := [92, 34, 47]
def oct3 (c : UInt8) : List UInt8 := [92, UInt8.ofNat (48 + c.toNat / 64), UInt8.ofNat (48 + c.toNat / 8 % 8), UInt8.ofNat (48 + c.toNat % 8)]
/-- What Escape writes of a byte. -/
def esc (c : UInt8) : List UInt8 := if lett c ≠ 0 then [92, lett c] else if c.toNat < 32 ∨ 126 < c.toNat then oct3 c else [c]
def escL (l : List UInt8) : List UInt8 := (l.map esc).flatten

theorem all_bytes {p : UInt8 → Prop} (h : ∀ n : Fin 256, p (UInt8.ofNat n.val)) (c : UInt8) : p c := by
  have := h ⟨c.toNat, c.toNat_lt⟩
  simpa using this

theorem esc_len (c : UInt8) : 1 ≤ (esc c).length ∧ (esc c).length ≤ 4 ∧ ((esc c).length = 1 → esc c = [c]) := by
  revert c; apply all_bytes; decide +kernel
theorem esc_range (c : UInt8) : ∀ x ∈ esc c, 32 ≤ x.toNat ∧ x.toNat ≤ 126 := by
  revert c; apply all_bytes; decide +kernel
theorem escL_range (l : List UInt8) : ∀ x ∈ escL l, 32 ≤ x.toNat ∧ x.toNat ≤ 126 := by
  intro x hx
  unfold escL at hx
  rw [List.mem_flatten] at hx
  obtain ⟨y, hy, hx⟩ := hx
  obtain ⟨c, _, rfl⟩ := List.mem_map.1 hy
  exact esc_range c x hx
theorem escL_cons (c : UInt8) (l : List UInt8) : escL (c :: l) = esc c ++ escL l := by unfold escL; rw [List.map_cons, List.flatten_cons]
theorem escL_take (l : List UInt8) (i : Nat) (h : i < l.length) : escL (l.take (i + 1)) = escL (l.take i) ++ esc l[i] := by
  unfold escL; rw [List.take_succ_eq_append_getElem h, List.map_append, List.flatten_append]; simp
theorem escL_len (l : List UInt8) : l.length ≤ (escL l).length ∧ (escL l).length ≤ 4 * l.length ∧ ((escL l).length = l.length → escL l = l) := by
  induction l with
  | nil => exact ⟨Nat.le_refl _, Nat.le_refl _, fun _ => rfl⟩
  | cons c r ih =>
    obtain ⟨h1, h2, h3⟩ := ih
    obtain ⟨e1, e2, e3⟩ := esc_len c
    rw [escL_cons, List.length_append, List.length_cons]
    refine ⟨by omega, by omega, fun h => ?_⟩
    rw [e3 (by omega), h3 (by omega)]; rfl
theorem escL_take_len (l : List UInt8) (i : Nat) : (escL (l.take i)).length ≤ 4 * l.length := by
  have h1 := (escL_len (l.take i)).2.1
  have : (l.take i).length ≤ l.length := by rw [List.length_take]; omega
  omega

/-! ### Reading -/
def isO (c : UInt8) : Bool := decide (48 ≤ c.toNat) && decide (c.toNat ≤ 55)
/-- Up to f octal digits: their value and their number. -/
def octL : Nat → List UInt8 → Nat → Nat → Nat × Nat
  | 0, _, v, k => (v, k)
  | _ + 1, [], v, k => (v, k)
  | f + 1, c :: r, v, k => if isO c then octL f r (v * 8 + (c.toNat - 48)) (k + 1) else (v, k)
theorem octL_bound (r : List UInt8) : ∀ f v k, (octL f r v k).2 ≤ k + min f r.length ∧ k ≤ (octL f r v k).2 := by
  induction r with
  | nil => intro f v k; cases f <;> simp [octL]
  | cons c r ih =>
    intro f v k
    cases f with
    | zero => simp [octL]
    | succ f =>
      unfold octL
      split
      · have := ih f (v * 8 + (c.toNat - 48)) (k + 1)
        simp only [List.length_cons]; omega
      · simp
theorem octL_val (r : List UInt8) : ∀ f v k, v < 8 ^ k → (octL f r v k).1 < 8 ^ (octL f r v k).2 := by
  induction r with
  | nil => intro f v k h; cases f <;> exact h
  | cons c r ih =>
    intro f v k h
    cases f with
    | zero => exact h
    | succ f =>
      unfold octL
      by_cases hc : isO c = true
      · rw [if_pos hc]
        refine ih f _ (k + 1) ?_
        unfold isO at hc
        simp only [Bool.and_eq_true, decide_eq_true_eq] at hc
        rw [Nat.pow_succ]; omega
      · rw [if_neg hc]; exact h
def octB (r : List UInt8) : UInt8 × Nat := if 255 < (octL 3 r 0 0).1 then (0, 0) else (UInt8.ofNat (octL 3 r 0 0).1, (octL 3 r 0 0).2)
/-- The byte of the sequence whose backslash comes before r, and how many bytes of r belong to it: 0 if it is none. -/
def seqB : List UInt8 → UInt8 × Nat
  | [] => (0, 0)
  | c :: r => if Lib.indexByte letters c ≠ -1 then (UInt8.ofNat (7 + (Lib.indexByte letters c).toNat), 1) else if Lib.indexByte quotable c ≠ -1 then (c, 1) else octB (c :: r)
theorem seqB_cons (c : UInt8) (r : List UInt8) : seqB (c :: r) = if Lib.indexByte letters c ≠ -1 then (UInt8.ofNat (7 + (Lib.indexByte letters c).toNat), 1) else if Lib.indexByte quotable c ≠ -1 then (c, 1) else octB (c :: r) := rfl
theorem octL_no (c : UInt8) (r : List UInt8) (h : isO c = false) : octL 3 (c :: r) 0 0 = (0, 0) := by rw [octL, if_neg (by rw [h]; exact Bool.false_ne_true)]
/-- The reference's sequence of one byte. -/
def sg (c : UInt8) : Option UInt8 := if c = 34 ∨ c = 47 then some c else if c = 97 then some 7 else if c = 98 then some 8 else if c = 116 then some 9 else if c = 110 then some 10 else if c = 118 then some 11 else if c = 102 then some 12 else if c = 114 then some 13 else if c = 92 then some 92 else none
theorem octB_le (r : List UInt8) : (octB r).2 ≤ r.length ∧ (octB r).2 ≤ 3 := by
  have := octL_bound r 3 0 0
  unfold octB
  split
  · exact ⟨Nat.zero_le _, Nat.zero_le _⟩
  · simp only []; omega
theorem seqB_le : ∀ (r : List UInt8), (seqB r).2 ≤ r.length ∧ (seqB r).2 ≤ 3
  | [] => ⟨Nat.le_refl _, Nat.zero_le _⟩
  | c :: r => by
    rw [seqB_cons]
    split
    · exact ⟨by simp, by simp⟩
    · split
      · exact ⟨by simp, by simp⟩
      · exact octB_le _
/-- The reference and the program read the same sequences. -/
theorem seqB_oct (c : UInt8) (r : List UInt8) (h : isO c = true) : seqB (c :: r) = octB (c :: r) := by
  have : isO c = true → Lib.indexByte letters c = -1 ∧ Lib.indexByte quotable c = -1 := by
    revert c; intro c _; revert c; apply all_bytes; decide +kernel
  obtain ⟨h1, h2⟩ := this h
  rw [seqB_cons, if_neg (fun e => e h1), if_neg (fun e => e h2)]
theorem seqB_sg (c : UInt8) (r : List UInt8) (h : isO c = false) : seqB (c :: r) = match sg c with | some b => (b, 1) | none => (0, 0) := by
  have h0 : octB (c :: r) = (0, 0) := by
    unfold octB
    rw [octL_no c r h]; rfl
  rw [seqB_cons, h0]
  have : isO c = false → (if Lib.indexByte letters c ≠ -1 then (UInt8.ofNat (7 + (Lib.indexByte letters c).toNat), 1) else if Lib.indexByte quotable c ≠ -1 then (c, 1) else ((0, 0) : UInt8 × Nat)) = match sg c with | some b => (b, 1) | none => (0, 0) := by
    clear h h0; revert c; apply all_bytes; decide +kernel
  exact this h
theorem oct_pos (c : UInt8) (r : List UInt8) : (0 < (octL 3 (c :: r) 0 0).2) = (isO c = true) := by
  unfold octL
  by_cases h : isO c = true
  · rw [if_pos h]
    have := octL_bound r 2 (0 * 8 + (c.toNat - 48)) (0 + 1)
    exact propext ⟨fun _ => h, fun _ => Nat.lt_of_lt_of_le (by omega) this.2⟩
  · rw [if_neg h]; exact propext ⟨fun h2 => absurd h2 (Nat.lt_irrefl 0), fun h2 => absurd h2 h⟩

/-- What Unescape makes of the rest of a string at an offset, behind what it has made: the string, whether it is one, and the offset of the fault. -/
def unlF : Nat → List UInt8 → Nat → List UInt8 → List UInt8 × Bool × Nat
  | 0, _, _, acc => (acc, true, 0)
  | _ + 1, [], _, acc => (acc, true, 0)
  | f + 1, c :: r, k, acc => if c = 92 then (if (seqB r).2 = 0 then ([], false, k) else unlF f (r.drop (seqB r).2) (k + 1 + (seqB r).2) (acc ++ [(seqB r).1])) else unlF f r (k + 1) (acc ++ [c])
theorem unlF_fuel : ∀ (f g : Nat) (l : List UInt8) (k : Nat) (acc : List UInt8), l.length < f → l.length < g → unlF f l k acc = unlF g l k acc
  | 0, _, _, _, _, h, _ => absurd h (Nat.not_lt_zero _)
  | _ + 1, 0, _, _, _, _, h => absurd h (Nat.not_lt_zero _)
  | _ + 1, _ + 1, [], _, _, _, _ => rfl
  | f + 1, g + 1, c :: r, k, acc, h1, h2 => by
    rw [List.length_cons] at h1 h2
    rw [unlF, unlF]
    by_cases hc : c = 92
    · rw [if_pos hc, if_pos hc]
      by_cases h0 : (seqB r).2 = 0
      · rw [if_pos h0, if_pos h0]
      · rw [if_neg h0, if_neg h0]
        exact unlF_fuel f g _ _ _ (by rw [List.length_drop]; omega) (by rw [List.length_drop]; omega)
    · rw [if_neg hc, if_neg hc]
      exact unlF_fuel f g _ _ _ (by omega) (by omega)
def unl (l : List UInt8) (k : Nat) (acc : List UInt8) : List UInt8 × Bool × Nat := unlF (l.length + 1) l k acc
theorem unl_nil (k : Nat) (acc : List UInt8) : unl [] k acc = (acc, true, 0) := rfl
theorem unl_cons (c : UInt8) (r : List UInt8) (k : Nat) (acc : List UInt8) : unl (c :: r) k acc = if c = 92 then (if (seqB r).2 = 0 then ([], false, k) else unl (r.drop (seqB r).2) (k + 1 + (seqB r).2) (acc ++ [(seqB r).1])) else unl r (k + 1) (acc ++ [c]) := by
  unfold unl
  rw [List.length_cons, unlF, unlF_fuel (r.length + 1) ((r.drop (seqB r).2).length + 1) (r.drop (seqB r).2) _ _ (by rw [List.length_drop]; omega) (Nat.lt_succ_self _)]
theorem unl_char (l : List UInt8) (i : Nat) (acc : List UInt8) (h : i < l.length) (hc : l[i] ≠ 92) : unl (l.drop i) i acc = unl (l.drop (i + 1)) (i + 1) (acc ++ [l[i]]) := by
  rw [List.drop_eq_getElem_cons h, unl_cons, if_neg hc]
theorem unl_bad (l : List UInt8) (i : Nat) (acc : List UInt8) (h : i < l.length) (hc : l[i] = 92) (h0 : (seqB (l.drop (i + 1))).2 = 0) : unl (l.drop i) i acc = ([], false, i) := by
  rw [List.drop_eq_getElem_cons h, unl_cons, if_pos hc, if_pos h0]
theorem unl_seq (l : List UInt8) (i : Nat) (acc : List UInt8) (h : i < l.length) (hc : l[i] = 92) (h0 : (seqB (l.drop (i + 1))).2 ≠ 0) :
    unl (l.drop i) i acc = unl (l.drop (i + 1 + (seqB (l.drop (i + 1))).2)) (i + 1 + (seqB (l.drop (i + 1))).2) (acc ++ [(seqB (l.drop (i + 1))).1]) := by
  rw [List.drop_eq_getElem_cons h, unl_cons, if_pos hc, if_neg h0, List.drop_drop]

/-! ### Unescape inverts Escape -/
theorem seq_lett (c : UInt8) (r : List UInt8) (h : lett c ≠ 0) : seqB (lett c :: r) = (c, 1) := by
  have h1 : lett c ≠ 0 → isO (lett c) = false ∧ sg (lett c) = some c := by
    clear h; revert c; apply all_bytes; decide +kernel
  obtain ⟨h2, h3⟩ := h1 h
  rw [seqB_sg _ _ h2, h3]
theorem seq_oct3 (c : UInt8) (r : List UInt8) : seqB (UInt8.ofNat (48 + c.toNat / 64) :: UInt8.ofNat (48 + c.toNat / 8 % 8) :: UInt8.ofNat (48 + c.toNat % 8) :: r) = (c, 3) := by
  have h1 : isO (UInt8.ofNat (48 + c.toNat / 64)) = true ∧ isO (UInt8.ofNat (48 + c.toNat / 8 % 8)) = true ∧ isO (UInt8.ofNat (48 + c.toNat % 8)) = true ∧
      (((UInt8.ofNat (48 + c.toNat / 64)).toNat - 48) * 8 + ((UInt8.ofNat (48 + c.toNat / 8 % 8)).toNat - 48)) * 8 + ((UInt8.ofNat (48 + c.toNat % 8)).toNat - 48) = c.toNat := by
    revert c; apply all_bytes; decide +kernel
  obtain ⟨h2, h3, h4, h5⟩ := h1
  rw [seqB_oct _ _ h2]
  unfold octB
  have e : octL 3 (UInt8.ofNat (48 + c.toNat / 64) :: UInt8.ofNat (48 + c.toNat / 8 % 8) :: UInt8.ofNat (48 + c.toNat % 8) :: r) 0 0 = (c.toNat, 3) := by
    rw [octL, if_pos h2, octL, if_pos h3, octL, if_pos h4]
    show octL 0 r _ _ = _
    rw [octL, Nat.zero_mul, Nat.zero_add, h5]
  rw [e]
  have : ¬ 255 < c.toNat := by have := c.toNat_lt; omega
  simp only []
  rw [if_neg this]
  simp
theorem unl_esc (c : UInt8) (r : List UInt8) (k : Nat) (acc : List UInt8) : unl (esc c ++ r) k acc = unl r (k + (esc c).length) (acc ++ [c]) := by
  unfold esc
  by_cases h : lett c ≠ 0
  · rw [if_pos h]
    show unl (92 :: lett c :: r) k acc = _
    rw [unl_cons, if_pos rfl, seq_lett c r h]
    rfl
  · rw [if_neg h]
    by_cases h2 : c.toNat < 32 ∨ 126 < c.toNat
    · rw [if_pos h2]
      show unl (92 :: UInt8.ofNat (48 + c.toNat / 64) :: UInt8.ofNat (48 + c.toNat / 8 % 8) :: UInt8.ofNat (48 + c.toNat % 8) :: r) k acc = _
      rw [unl_cons, if_pos rfl, seq_oct3 c r]
      rfl
    · rw [if_neg h2]
      show unl (c :: r) k acc = _
      have h3 : c ≠ 92 := by rintro rfl; exact h (by decide)
      rw [unl_cons, if_neg h3]
      rfl
theorem unl_escL (l : List UInt8) : ∀ k acc, unl (escL l) k acc = (acc ++ l, true, 0) := by
  induction l with
  | nil => intro k acc; show unl [] k acc = _; rw [unl_nil, List.append_nil]
  | cons c r ih => intro k acc; rw [escL_cons, unl_esc, ih, List.append_assoc]; rfl
end Go.Proofs.YticfhbffoajgcaaGreatDoor
