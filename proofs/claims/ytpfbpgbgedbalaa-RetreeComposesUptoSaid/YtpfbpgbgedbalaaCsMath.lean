/- Sets of bytes as predicates, and a word of 64 of them as a number: plain arithmetic for layer 4. It speaks of no program. -/
import Derived.Test.YtpfbpgbgedbalaaRows
import Derived.Lib.TrailingZeros
namespace Go.Proofs.Ytpfbpgbgedbalaa

/-- The number whose bit k is 'p (b + k)', for k < n. -/
def wd (p : Nat → Bool) (b : Nat) : Nat → Nat
  | 0 => 0
  | n + 1 => wd p b n + (if p (b + n) then 2 ^ n else 0)

theorem wd_lt (p : Nat → Bool) (b n : Nat) : wd p b n < 2 ^ n := by
  induction n with
  | zero => simp [wd]
  | succ n ih =>
    simp only [wd, Nat.pow_succ]
    split <;> omega

theorem wd_lt64 (p : Nat → Bool) (b : Nat) : wd p b 64 < 18446744073709551616 := wd_lt p b 64

theorem wd_bit (p : Nat → Bool) (b n k : Nat) : (wd p b n).testBit k = (decide (k < n) && p (b + k)) := by
  induction n with
  | zero => simp [wd]
  | succ n ih =>
    simp only [wd]
    have hlt := wd_lt p b n
    by_cases h : p (b + n) = true
    · rw [if_pos h, Nat.add_comm]
      by_cases h1 : k < n
      · rw [Nat.testBit_two_pow_add_gt h1, ih]
        simp [h1, Nat.lt_succ_of_lt h1]
      · by_cases h2 : k = n
        · subst h2
          rw [Nat.testBit_two_pow_add_eq, ih]
          simp [h]
        · have h3 : 2 ^ n + wd p b n < 2 ^ k := by
            have : 2 ^ (n + 1) ≤ 2 ^ k := Nat.pow_le_pow_right (by decide) (by omega)
            rw [Nat.pow_succ] at this
            omega
          rw [Nat.testBit_lt_two_pow h3]
          have h4 : ¬ k < n + 1 := by omega
          simp [h4]
    · rw [if_neg h, Nat.add_zero, ih]
      by_cases h1 : k < n
      · simp [h1, Nat.lt_succ_of_lt h1]
      · by_cases h2 : k = n
        · subst h2
          simp at h
          simp [h]
        · have h4 : ¬ k < n + 1 := by omega
          simp [h1, h4]

theorem wd_congr (p q : Nat → Bool) (b n : Nat) (h : ∀ k, k < n → p (b + k) = q (b + k)) : wd p b n = wd q b n := by
  apply Nat.eq_of_testBit_eq
  intro i
  rw [wd_bit, wd_bit]
  by_cases hi : i < n
  · rw [h i hi]
  · simp [hi]

theorem wd_inj (p q : Nat → Bool) (b n : Nat) (h : wd p b n = wd q b n) : ∀ k, k < n → p (b + k) = q (b + k) := by
  intro k hk
  have := congrArg (fun x => x.testBit k) h
  simpa [wd_bit, hk] using this

theorem wd_or (p q : Nat → Bool) (b n : Nat) : wd p b n ||| wd q b n = wd (fun c => p c || q c) b n := by
  apply Nat.eq_of_testBit_eq
  intro i
  rw [Nat.testBit_or, wd_bit, wd_bit, wd_bit]
  cases decide (i < n) <;> simp

theorem wd_and (p q : Nat → Bool) (b n : Nat) : wd p b n &&& wd q b n = wd (fun c => p c && q c) b n := by
  apply Nat.eq_of_testBit_eq
  intro i
  rw [Nat.testBit_and, wd_bit, wd_bit, wd_bit]
  cases decide (i < n) <;> simp

theorem wd_not (p : Nat → Bool) (b n : Nat) : 2 ^ n - (wd p b n + 1) = wd (fun c => !p c) b n := by
  apply Nat.eq_of_testBit_eq
  intro i
  rw [Nat.testBit_two_pow_sub_succ (wd_lt p b n), wd_bit, wd_bit]
  cases decide (i < n) <;> simp

theorem wd_one (c : Nat) : 2 ^ (c % 64) = wd (fun x => x == c) (64 * (c / 64)) 64 := by
  apply Nat.eq_of_testBit_eq
  intro i
  rw [wd_bit, Nat.testBit_two_pow]
  by_cases h : c % 64 = i
  · have h1 : i < 64 := by omega
    have h2 : 64 * (c / 64) + i = c := by omega
    simp [h, h1, h2]
  · by_cases h1 : i < 64
    · have h2 : ¬ 64 * (c / 64) + i = c := by omega
      simp [h, h1, h2]
    · simp [h, h1]

theorem wd_none (b n : Nat) : wd (fun _ => false) b n = 0 := by
  induction n with
  | zero => rfl
  | succ n ih => simp [wd, ih]

/-- The test of one bit, the reference's way. -/
theorem wd_shift (p : Nat → Bool) (c : Nat) : wd p (64 * (c / 64)) 64 / 2 ^ (c % 64) % 2 = (p c).toNat := by
  have h := wd_bit p (64 * (c / 64)) 64 (c % 64)
  have e : 64 * (c / 64) + c % 64 = c := by omega
  have h1 : c % 64 < 64 := by omega
  rw [e] at h
  simp only [h1, decide_true, Bool.true_and] at h
  rw [← Nat.toNat_testBit, h]

/-- The test of one bit, the program's way. -/
theorem wd_mask (p : Nat → Bool) (c : Nat) : wd p (64 * (c / 64)) 64 &&& 2 ^ (c % 64) = if p c then 2 ^ (c % 64) else 0 := by
  rw [wd_one, wd_and]
  split
  · rename_i h
    apply wd_congr
    intro k hk
    by_cases h2 : 64 * (c / 64) + k = c
    · simp [h2, h]
    · simp [h2]
  · rename_i h
    rw [← wd_none (64 * (c / 64)) 64]
    apply wd_congr
    intro k hk
    by_cases h2 : 64 * (c / 64) + k = c
    · simp at h
      simp [h2, h]
    · simp [h2]

/-- The predicate of four words. -/
def toP (x0 x1 x2 x3 : Nat) (c : Nat) : Bool := if c < 64 then x0.testBit c else if c < 128 then x1.testBit (c - 64) else if c < 192 then x2.testBit (c - 128) else x3.testBit (c - 192)

theorem wd_of (x : Nat) (hx : x < 2 ^ 64) (p : Nat → Bool) (b : Nat) (h : ∀ k, k < 64 → p (b + k) = x.testBit k) : wd p b 64 = x := by
  apply Nat.eq_of_testBit_eq
  intro i
  rw [wd_bit]
  by_cases hi : i < 64
  · simp [hi, h i hi]
  · have : x.testBit i = false := Nat.testBit_lt_two_pow (Nat.lt_of_lt_of_le hx (Nat.pow_le_pow_right (by decide) (by omega)))
    simp [hi, this]

theorem toP0 (x0 x1 x2 x3 : Nat) (h : x0 < 2 ^ 64) : wd (toP x0 x1 x2 x3) 0 64 = x0 := wd_of x0 h _ _ fun k hk => by
  unfold toP
  rw [if_pos (by omega), Nat.zero_add]
theorem toP1 (x0 x1 x2 x3 : Nat) (h : x1 < 2 ^ 64) : wd (toP x0 x1 x2 x3) 64 64 = x1 := wd_of x1 h _ _ fun k hk => by
  unfold toP
  rw [if_neg (by omega), if_pos (by omega), Nat.add_sub_cancel_left]
theorem toP2 (x0 x1 x2 x3 : Nat) (h : x2 < 2 ^ 64) : wd (toP x0 x1 x2 x3) 128 64 = x2 := wd_of x2 h _ _ fun k hk => by
  unfold toP
  rw [if_neg (by omega), if_neg (by omega), if_pos (by omega), Nat.add_sub_cancel_left]
theorem toP3 (x0 x1 x2 x3 : Nat) (h : x3 < 2 ^ 64) : wd (toP x0 x1 x2 x3) 192 64 = x3 := wd_of x3 h _ _ fun k hk => by
  unfold toP
  rw [if_neg (by omega), if_neg (by omega), if_neg (by omega), Nat.add_sub_cancel_left]

/-- The elements below n, ascending. -/
def el (p : Nat → Bool) (n : Nat) : List Nat := (List.range n).filter p
theorem el_zero (p : Nat → Bool) : el p 0 = [] := rfl
theorem el_succ (p : Nat → Bool) (n : Nat) : el p (n + 1) = el p n ++ (if p n then [n] else []) := by
  unfold el
  rw [List.range_succ, List.filter_append]
  congr 1
  by_cases h : p n = true
  · simp [h]
  · simp [h]
theorem el_length_le (p : Nat → Bool) (n : Nat) : (el p n).length ≤ n := by
  have := List.length_filter_le p (List.range n)
  simpa [el] using this
theorem mem_el (p : Nat → Bool) (n x : Nat) : x ∈ el p n ↔ x < n ∧ p x = true := by
  simp [el]
theorem el_congr (p q : Nat → Bool) (n : Nat) (h : ∀ k, k < n → p k = q k) : el p n = el q n := by
  unfold el
  apply List.filter_congr
  intro x hx
  exact h x (by simpa using hx)
theorem el_none (p : Nat → Bool) (n j : Nat) (h : ∀ k, n ≤ k → k < n + j → p k = false) : el p (n + j) = el p n := by
  induction j with
  | zero => rfl
  | succ j ih =>
    rw [← Nat.add_assoc, el_succ, ih (fun k h1 h2 => h k h1 (by omega)), h (n + j) (by omega) (by omega)]
    simp
theorem el_ascends (p : Nat → Bool) (n : Nat) : (el p n).Pairwise (· < ·) := by
  unfold el
  exact (List.pairwise_lt_range).filter p
theorem el_sum (p q : Nat → Bool) (n : Nat) : (el (fun c => p c || q c) n).length + (el (fun c => p c && q c) n).length = (el p n).length + (el q n).length := by
  induction n with
  | zero => rfl
  | succ n ih =>
    simp only [el_succ, List.length_append]
    cases p n <;> cases q n <;> simp <;> omega
theorem el_true (n : Nat) : (el (fun _ => true) n).length = n := by
  unfold el
  rw [List.filter_eq_self.2 (by simp), List.length_range]

/-- How many of b, .., b + n - 1. -/
def ct (p : Nat → Bool) (b : Nat) : Nat → Nat
  | 0 => 0
  | n + 1 => ct p b n + (p (b + n)).toNat
theorem ct_el (p : Nat → Bool) (b n : Nat) : (el p (b + n)).length = (el p b).length + ct p b n := by
  induction n with
  | zero => rfl
  | succ n ih =>
    rw [← Nat.add_assoc, el_succ, List.length_append, ih]
    simp only [ct]
    cases p (b + n) <;> simp <;> omega
theorem ct_add (p : Nat → Bool) (b m n : Nat) : ct p b (m + n) = ct p b m + ct p (b + m) n := by
  induction n with
  | zero => rfl
  | succ n ih =>
    rw [← Nat.add_assoc]
    simp only [ct]
    rw [ih, Nat.add_assoc b m n]
    omega
theorem ct_le (p : Nat → Bool) (b n : Nat) : ct p b n ≤ n := by
  induction n with
  | zero => simp [ct]
  | succ n ih =>
    simp only [ct]
    cases p (b + n) <;> simp <;> omega
theorem wd_add (p : Nat → Bool) (b m n : Nat) : wd p b (m + n) = wd p b m + 2 ^ m * wd p (b + m) n := by
  induction n with
  | zero => simp [wd]
  | succ n ih =>
    rw [← Nat.add_assoc]
    simp only [wd]
    rw [ih, Nat.add_assoc b m n, Nat.mul_add, Nat.pow_add]
    split <;> omega

/- The program's library counts the ones of a word by halves; here byte by byte. -/
/-- A number by its bytes, the lowest first. -/
def num : List Nat → Nat
  | [] => 0
  | b :: r => b + 256 * num r

theorem and_split (a c x y : Nat) (ha : a < 256) (hc : c < 256) : (a + 256 * x) &&& (c + 256 * y) = (a &&& c) + 256 * (x &&& y) := by
  have h1 : ((a + 256 * x) &&& (c + 256 * y)) % 2 ^ 8 = (a &&& c) := by
    rw [Nat.and_mod_two_pow]
    congr 1 <;> omega
  have h2 : ((a + 256 * x) &&& (c + 256 * y)) / 2 ^ 8 = (x &&& y) := by
    rw [← Nat.shiftRight_eq_div_pow, Nat.shiftRight_and_distrib, Nat.shiftRight_eq_div_pow, Nat.shiftRight_eq_div_pow]
    congr 1 <;> omega
  have h3 := Nat.mod_add_div ((a + 256 * x) &&& (c + 256 * y)) (2 ^ 8)
  rw [h1, h2] at h3
  omega

def f1 (b : Nat) : Nat := (b / 2 &&& 85) + (b &&& 85)
def f2 (b : Nat) : Nat := (b / 4 &&& 51) + (b &&& 51)
def f3 (b : Nat) : Nat := (b / 16 + b) &&& 15
def pc (b : Nat) : Nat := b % 2 + b / 2 % 2 + b / 4 % 2 + b / 8 % 2 + b / 16 % 2 + b / 32 % 2 + b / 64 % 2 + b / 128 % 2

theorem f1_key : ∀ b, b < 256 → ∀ t, t < 2 → ((b / 2 + 128 * t) &&& 85) = (b / 2 &&& 85) := by decide +kernel
theorem f1_lt : ∀ b, b < 256 → f1 b < 256 := by decide +kernel
theorem f2_key : ∀ b, b < 256 → ∀ t, t < 4 → ((b / 4 + 64 * t) &&& 51) = (b / 4 &&& 51) := by decide +kernel
theorem f21_ok : ∀ b, b < 256 → f2 (f1 b) < 256 ∧ f2 (f1 b) / 16 ≤ 4 ∧ f2 (f1 b) % 16 ≤ 4 := by decide +kernel
theorem f3_key : ∀ b, b < 256 → ∀ t, t < 5 → ((b / 16 + b + 16 * t) &&& 15) = f3 b := by decide +kernel
theorem f321_pc : ∀ b, b < 256 → f3 (f2 (f1 b)) = pc b := by decide +kernel

def mask (m : Nat) : Nat → Nat
  | 0 => 0
  | n + 1 => m + 256 * mask m n

theorem s1_num (l : List Nat) (h : ∀ b ∈ l, b < 256) : (num l / 2 &&& mask 85 l.length) + (num l &&& mask 85 l.length) = num (l.map f1) := by
  induction l with
  | nil => rfl
  | cons b r ih =>
    have hb : b < 256 := h b (by simp)
    have hr := ih fun x hx => h x (by simp [hx])
    simp only [num, List.length_cons, mask, List.map_cons]
    have e : (b + 256 * num r) / 2 = (b / 2 + 128 * (num r % 2)) + 256 * (num r / 2) := by omega
    rw [e, and_split _ _ _ _ (by omega) (by decide), and_split _ _ _ _ hb (by decide), f1_key b hb _ (by omega), ← hr]
    unfold f1
    omega
theorem s2_num (l : List Nat) (h : ∀ b ∈ l, b < 256) : (num l / 4 &&& mask 51 l.length) + (num l &&& mask 51 l.length) = num (l.map f2) := by
  induction l with
  | nil => rfl
  | cons b r ih =>
    have hb : b < 256 := h b (by simp)
    have hr := ih fun x hx => h x (by simp [hx])
    simp only [num, List.length_cons, mask, List.map_cons]
    have e : (b + 256 * num r) / 4 = (b / 4 + 64 * (num r % 4)) + 256 * (num r / 4) := by omega
    rw [e, and_split _ _ _ _ (by omega) (by decide), and_split _ _ _ _ hb (by decide), f2_key b hb _ (by omega), ← hr]
    unfold f2
    omega
theorem num_mod16 (l : List Nat) (h : ∀ b ∈ l, b < 256 ∧ b / 16 ≤ 4 ∧ b % 16 ≤ 4) : num l % 16 ≤ 4 := by
  cases l with
  | nil => simp [num]
  | cons b r =>
    have := h b (by simp)
    simp only [num]
    omega
theorem s3_num (l : List Nat) (h : ∀ b ∈ l, b < 256 ∧ b / 16 ≤ 4 ∧ b % 16 ≤ 4) : ((num l / 16 + num l) &&& mask 15 l.length) = num (l.map f3) := by
  induction l with
  | nil => rfl
  | cons b r ih =>
    have hb := h b (by simp)
    have hr := ih fun x hx => h x (by simp [hx])
    have h16 := num_mod16 r fun x hx => h x (by simp [hx])
    simp only [num, List.length_cons, mask, List.map_cons]
    have e : (b + 256 * num r) / 16 + (b + 256 * num r) = (b / 16 + b + 16 * (num r % 16)) + 256 * (num r / 16 + num r) := by omega
    rw [e, and_split _ _ _ _ (by omega) (by decide), f3_key b hb.1 _ (by omega), hr]

theorem pc8 : ∀ a b c d e f g h : Bool, pc (0 + (if a then 1 else 0) + (if b then 2 else 0) + (if c then 4 else 0) + (if d then 8 else 0) + (if e then 16 else 0) + (if f then 32 else 0) + (if g then 64 else 0) + (if h then 128 else 0)) =
    0 + a.toNat + b.toNat + c.toNat + d.toNat + e.toNat + f.toNat + g.toNat + h.toNat := by decide +kernel
theorem pc_wd (p : Nat → Bool) (b : Nat) : pc (wd p b 8) = ct p b 8 := by
  have := pc8 (p (b + 0)) (p (b + 1)) (p (b + 2)) (p (b + 3)) (p (b + 4)) (p (b + 5)) (p (b + 6)) (p (b + 7))
  simpa [wd, ct] using this

theorem wd_bytes (p : Nat → Bool) (b : Nat) : wd p b 64 = num [wd p b 8, wd p (b + 8) 8, wd p (b + 16) 8, wd p (b + 24) 8, wd p (b + 32) 8, wd p (b + 40) 8, wd p (b + 48) 8, wd p (b + 56) 8] := by
  have e1 := wd_add p b 8 56
  have e2 := wd_add p (b + 8) 8 48
  have e3 := wd_add p (b + 16) 8 40
  have e4 := wd_add p (b + 24) 8 32
  have e5 := wd_add p (b + 32) 8 24
  have e6 := wd_add p (b + 40) 8 16
  have e7 := wd_add p (b + 48) 8 8
  simp only [Nat.add_assoc, Nat.reduceAdd, Nat.reducePow] at e1 e2 e3 e4 e5 e6 e7
  simp only [num]
  omega
theorem ct_bytes (p : Nat → Bool) (b : Nat) : ct p b 64 = ct p b 8 + ct p (b + 8) 8 + ct p (b + 16) 8 + ct p (b + 24) 8 + ct p (b + 32) 8 + ct p (b + 40) 8 + ct p (b + 48) 8 + ct p (b + 56) 8 := by
  have e1 := ct_add p b 8 56
  have e2 := ct_add p (b + 8) 8 48
  have e3 := ct_add p (b + 16) 8 40
  have e4 := ct_add p (b + 24) 8 32
  have e5 := ct_add p (b + 32) 8 24
  have e6 := ct_add p (b + 40) 8 16
  have e7 := ct_add p (b + 48) 8 8
  simp only [Nat.add_assoc, Nat.reduceAdd] at e1 e2 e3 e4 e5 e6 e7
  omega

/-- The three masked steps on a word. -/
def h1 (x : Nat) : Nat := (x / 2 &&& 6148914691236517205) + (x &&& 6148914691236517205)
def h2 (x : Nat) : Nat := (x / 4 &&& 3689348814741910323) + (x &&& 3689348814741910323)
def h3 (x : Nat) : Nat := (x / 16 + x) &&& 1085102592571150095
set_option maxHeartbeats 2000000 in
theorem pop_steps (p : Nat → Bool) (b : Nat) : ∃ q0 q1 q2 q3 q4 q5 q6 q7 : Nat, (q0 ≤ 8 ∧ q1 ≤ 8 ∧ q2 ≤ 8 ∧ q3 ≤ 8 ∧ q4 ≤ 8 ∧ q5 ≤ 8 ∧ q6 ≤ 8 ∧ q7 ≤ 8) ∧
    h3 (h2 (h1 (wd p b 64))) = num [q0, q1, q2, q3, q4, q5, q6, q7] ∧ q0 + q1 + q2 + q3 + q4 + q5 + q6 + q7 = ct p b 64 ∧
    h1 (wd p b 64) < 18446744073709551616 ∧ h2 (h1 (wd p b 64)) < 18446744073709551616 ∧ h2 (h1 (wd p b 64)) / 16 + h2 (h1 (wd p b 64)) < 18446744073709551616 := by
  have w8 : ∀ c, wd p c 8 < 256 := fun c => wd_lt p c 8
  have l1 : ∀ x ∈ [wd p b 8, wd p (b + 8) 8, wd p (b + 16) 8, wd p (b + 24) 8, wd p (b + 32) 8, wd p (b + 40) 8, wd p (b + 48) 8, wd p (b + 56) 8], x < 256 := by
    intro x hx
    simp only [List.mem_cons, List.not_mem_nil, or_false] at hx
    rcases hx with rfl | rfl | rfl | rfl | rfl | rfl | rfl | rfl <;> exact w8 _
  have g1 := s1_num _ l1
  rw [← wd_bytes] at g1
  have g1' : h1 (wd p b 64) = _ := g1
  have l2 : ∀ x ∈ [wd p b 8, wd p (b + 8) 8, wd p (b + 16) 8, wd p (b + 24) 8, wd p (b + 32) 8, wd p (b + 40) 8, wd p (b + 48) 8, wd p (b + 56) 8].map f1, x < 256 := by
    intro x hx
    obtain ⟨y, hy, rfl⟩ := List.mem_map.1 hx
    exact f1_lt y (l1 y hy)
  have g2 := s2_num _ l2
  rw [← g1'] at g2
  have g2' : h2 (h1 (wd p b 64)) = _ := g2
  have l3 : ∀ x ∈ ([wd p b 8, wd p (b + 8) 8, wd p (b + 16) 8, wd p (b + 24) 8, wd p (b + 32) 8, wd p (b + 40) 8, wd p (b + 48) 8, wd p (b + 56) 8].map f1).map f2, x < 256 ∧ x / 16 ≤ 4 ∧ x % 16 ≤ 4 := by
    intro x hx
    obtain ⟨y, hy, rfl⟩ := List.mem_map.1 hx
    obtain ⟨z, hz, rfl⟩ := List.mem_map.1 hy
    exact f21_ok z (l1 z hz)
  have g3 := s3_num _ l3
  rw [← g2'] at g3
  have g3' : h3 (h2 (h1 (wd p b 64))) = _ := g3
  have k8 : ∀ c, ct p c 8 ≤ 8 := fun c => ct_le p c 8
  have kf : ∀ c, f3 (f2 (f1 (wd p c 8))) = ct p c 8 := fun c => by rw [f321_pc _ (w8 c), pc_wd]
  refine ⟨ct p b 8, ct p (b + 8) 8, ct p (b + 16) 8, ct p (b + 24) 8, ct p (b + 32) 8, ct p (b + 40) 8, ct p (b + 48) 8, ct p (b + 56) 8, ⟨k8 _, k8 _, k8 _, k8 _, k8 _, k8 _, k8 _, k8 _⟩, ?_, (ct_bytes p b).symm, ?_, ?_, ?_⟩
  · rw [g3']
    simp only [List.map_cons, List.map_nil, kf]
  · rw [g1']
    have v := fun c => f1_lt _ (w8 c)
    simp only [List.map_cons, List.map_nil, num]
    have v0 := v b; have v1 := v (b + 8); have v2 := v (b + 16); have v3 := v (b + 24); have v4 := v (b + 32); have v5 := v (b + 40); have v6 := v (b + 48); have v7 := v (b + 56)
    omega
  · rw [g2']
    have v := fun c => (f21_ok _ (w8 c)).1
    simp only [List.map_cons, List.map_nil, num]
    have v0 := v b; have v1 := v (b + 8); have v2 := v (b + 16); have v3 := v (b + 24); have v4 := v (b + 32); have v5 := v (b + 40); have v6 := v (b + 48); have v7 := v (b + 56)
    omega
  · rw [g2']
    have v := fun c => f21_ok _ (w8 c)
    simp only [List.map_cons, List.map_nil, num]
    have v0 := v b; have v1 := v (b + 8); have v2 := v (b + 16); have v3 := v (b + 24); have v4 := v (b + 32); have v5 := v (b + 40); have v6 := v (b + 48); have v7 := v (b + 56)
    omega

theorem pop_tail (q0 q1 q2 q3 q4 q5 q6 q7 : Nat) (h : q0 ≤ 8 ∧ q1 ≤ 8 ∧ q2 ≤ 8 ∧ q3 ≤ 8 ∧ q4 ≤ 8 ∧ q5 ≤ 8 ∧ q6 ≤ 8 ∧ q7 ≤ 8) (y0 y1 y2 y3 : Nat) (e0 : y0 = num [q0, q1, q2, q3, q4, q5, q6, q7])
    (e1 : y1 = y0 + y0 / 256) (e2 : y2 = y1 + y1 / 65536) (e3 : y3 = y2 + y2 / 4294967296) : y0 < 4611686018427387904 ∧ y1 < 4611686018427387904 ∧ y2 < 4611686018427387904 ∧ y3 < 4611686018427387904 ∧ y3 % 128 = q0 + q1 + q2 + q3 + q4 + q5 + q6 + q7 := by
  obtain ⟨a0, a1, a2, a3, a4, a5, a6, a7⟩ := h
  simp only [num] at e0
  obtain ⟨A7, b7⟩ : ∃ A, A = q7 + 256 * 0 := ⟨_, rfl⟩
  rw [← b7] at e0
  obtain ⟨A6, b6⟩ : ∃ A, A = q6 + 256 * A7 := ⟨_, rfl⟩
  rw [← b6] at e0
  obtain ⟨A5, b5⟩ : ∃ A, A = q5 + 256 * A6 := ⟨_, rfl⟩
  rw [← b5] at e0
  obtain ⟨A4, b4⟩ : ∃ A, A = q4 + 256 * A5 := ⟨_, rfl⟩
  rw [← b4] at e0
  obtain ⟨A3, b3⟩ : ∃ A, A = q3 + 256 * A4 := ⟨_, rfl⟩
  rw [← b3] at e0
  obtain ⟨A2, b2⟩ : ∃ A, A = q2 + 256 * A3 := ⟨_, rfl⟩
  rw [← b2] at e0
  obtain ⟨A1, b1⟩ : ∃ A, A = q1 + 256 * A2 := ⟨_, rfl⟩
  rw [← b1] at e0
  have k1 : y0 / 256 = A1 := by omega
  rw [k1] at e1
  have k2 : y1 / 65536 = A2 + A3 := by omega
  rw [k2] at e2
  have k3 : y2 / 4294967296 = A4 + A5 + A6 + A7 := by omega
  rw [k3] at e3
  have z7 : A7 ≤ 8 := by omega
  have z6 : A6 ≤ 4096 := by omega
  have z5 : A5 ≤ 1048576 := by omega
  have z4 : A4 ≤ 268435456 := by omega
  have z3 : A3 ≤ 68719476736 := by omega
  have z2 : A2 ≤ 17592186044416 := by omega
  have z1 : A1 ≤ 4503599627370496 := by omega
  have z0 : y0 ≤ 1152921504606846976 := by omega
  have k4 : y3 = (q0 + q1 + q2 + q3 + q4 + q5 + q6 + q7) + 256 * (A1 + A2 + A3 + A4 + A5 + A6 + A7) := by omega
  refine ⟨by omega, by omega, by omega, by omega, by omega⟩

/- The lowest one of a word. -/
theorem ctz_bit (x : Nat) (h0 : x ≠ 0) (h : x < 2 ^ 64) : Lib.ctz 64 x < 64 ∧ x.testBit (Lib.ctz 64 x) = true ∧ (∀ k, k < Lib.ctz 64 x → x.testBit k = false) ∧ (∀ k, (x &&& (x - 1)).testBit k = (x.testBit k && !decide (k = Lib.ctz 64 x))) := by
  obtain ⟨m, hm, hk⟩ := Lib.ctzFrom_spec 64 x (by omega) h
  have e : Lib.ctz 64 x = Lib.ctzFrom 64 x := by simp [Lib.ctz, h0]
  rw [e]
  generalize Lib.ctzFrom 64 x = k at hm hk
  have hb : ∀ i, x.testBit i = (decide (i ≥ k) && (2 * m + 1).testBit (i - k)) := by
    intro i
    rw [hm, Nat.mul_comm, Nat.testBit_mul_two_pow]
  refine ⟨hk, ?_, ?_, ?_⟩
  · rw [hb]
    simp [Nat.testBit_zero]
  · intro i hi
    rw [hb]
    have : ¬ i ≥ k := by omega
    simp [this]
  · intro i
    rw [Nat.testBit_and]
    have hx1 : x - 1 = 2 ^ k * (2 * m) + (2 ^ k - 1) := by
      have : 0 < 2 ^ k := Nat.two_pow_pos k
      rw [hm, Nat.mul_add]
      omega
    have hb1 : (x - 1).testBit i = if i < k then true else (2 * m).testBit (i - k) := by
      rw [hx1, Nat.testBit_two_pow_mul_add _ (by have := Nat.two_pow_pos k; omega)]
      by_cases hi : i < k
      · rw [if_pos hi, if_pos hi, Nat.testBit_two_pow_sub_one]
        simp [hi]
      · rw [if_neg hi, if_neg hi]
    rw [hb1, hb]
    by_cases hi : i < k
    · have h1 : ¬ i ≥ k := by omega
      simp [h1]
    · have h1 : i ≥ k := by omega
      rw [if_neg hi]
      by_cases h2 : i = k
      · subst h2
        simp [Nat.testBit_zero]
      · obtain ⟨j, rfl⟩ : ∃ j, i = k + (j + 1) := ⟨i - k - 1, by omega⟩
        have e3 : k + (j + 1) - k = j + 1 := by omega
        rw [e3, Nat.testBit_succ, Nat.testBit_succ]
        have d1 : (2 * m + 1) / 2 = m := by omega
        have d2 : 2 * m / 2 = m := by omega
        rw [d1, d2]
        simp
end Go.Proofs.Ytpfbpgbgedbalaa
