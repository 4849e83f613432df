/- LcSmall, LcMem, CsMath, CsSmall, CsSets, CsRow, LcCheck, LcOwn. -/
import Derived.Test.YtphiaagppcbefaaGreatDoorRows
import Derived.WalkKit
import Derived.WalkSpells
import Derived.WalkLawsBesides
import Derived.BigGuardPart
import Derived.BigQuiet
import Derived.Lib.Hide
import Derived.Below
import Derived.IntWalk
import Derived.Lib.TrailingZeros
import Derived.Laws.Bits64b
import Derived.Laws.BitsAllLaws
import Derived.Shelf.Spec.TrailingZeros
import Derived.Laws.CopyOwn
import Derived.Laws.Rows
import Derived.Laws.Tables
import Derived.Laws.World
import Derived.Laws.OwnMore
import Derived.Laws.AppendOwnNone
import Derived.Laws.IdiomStrings
import Derived.Lib.AppendStr
import Derived.Lib.SmallJoins
import Derived.OwnWalk
set_option linter.unusedVariables false
namespace Go.Proofs.YtphiaagppcbefaaGreatDoor
open Go.RowKit
def nmC (c : Nat) : Bool := (decide (97 ≤ c) && decide (c ≤ 122)) || (decide (65 ≤ c) && decide (c ≤ 90)) || (decide (48 ≤ c) && decide (c ≤ 57)) || (c == 95)
def nmL (l : List UInt8) : Bool := match l with
  | [] => false
  | b :: r => decide ((b :: r).length ≤ 32) && !(decide (48 ≤ b.toNat) && decide (b.toNat ≤ 57)) && (b :: r).all fun c => nmC c.toNat
def nmB (s : ByteArray) : Bool := nmL s.data.toList
theorem nmB_empty (s : ByteArray) (h : s.size = 0) : nmB s = false := by
  have h2 : s.data.toList.length = 0 := by simpa using h
  unfold nmB
  rw [List.eq_nil_of_length_eq_zero h2]
  rfl
theorem nmL_cons (l : List UInt8) (h : 0 < l.length) : nmL l = (decide (l.length ≤ 32) && !(decide (48 ≤ (l[0]).toNat) && decide ((l[0]).toNat ≤ 57)) && l.all fun c => nmC c.toNat) := by
  cases l with
  | nil => simp at h
  | cons b r => rfl
theorem nmB_cons (s : ByteArray) (h : 0 < s.size) : nmB s = (decide (s.size ≤ 32) && !(decide (48 ≤ s[0].toNat) && decide (s[0].toNat ≤ 57)) && s.data.toList.all fun c => nmC c.toNat) := by
  have h2 : s.data.toList.length = s.size := by simp
  have := nmL_cons s.data.toList (by omega)
  have e : decide (s.data.toList.length ≤ 32) = decide (s.size ≤ 32) := by rw [h2]
  unfold nmB
  rw [this, e]
  rfl
theorem all_take (l : List UInt8) (k : Nat) (h : k < l.length) (ha : (l.take k).all (fun c => nmC c.toNat) = true) : (l.take (k + 1)).all (fun c => nmC c.toNat) = nmC (l[k]).toNat := by
  rw [List.take_add_one, List.getElem?_eq_getElem h, List.all_append, ha]
  simp
theorem all_not (l : List UInt8) (k : Nat) (h : k < l.length) (hn : nmC (l[k]).toNat = false) : l.all (fun c => nmC c.toNat) = false := by
  apply Bool.eq_false_iff.2
  intro ha
  have := (List.all_eq_true.1 ha) l[k] (List.getElem_mem h)
  rw [hn] at this
  cases this
end Go.Proofs.YtphiaagppcbefaaGreatDoor
set_option linter.unusedVariables false
namespace Go.Proofs.YtphiaagppcbefaaGreatDoor
open Go.RowKit
def SL (k n : Nat) (f : Nat → Nat → Value) (w : World) (sv : Value) : Prop :=
  ∃ a cap, sv = .slice a n cap ∧ n ≤ cap ∧ (n = 0 ∨ ∃ b off, a = some ⟨b, off, none⟩ ∧ b < w.heap.size ∧ ∀ j i, j < n → i < k → w.cell? ⟨b, off + j * k + i, none⟩ = some (f j i))
theorem SL.below {k n : Nat} {f : Nat → Nat → Value} {w w' : World} {sv : Value} (h : SL k n f w sv) (hb : Below w.heap.size w w') : SL k n f w' sv := by
  obtain ⟨a, cap, e, hc, h⟩ := h
  refine ⟨a, cap, e, hc, ?_⟩
  rcases h with h | ⟨b, off, ha, hlt, h⟩
  · exact .inl h
  · exact .inr ⟨b, off, ha, Nat.lt_of_lt_of_le hlt hb.size, fun j i hj hi => by rw [hb.cell (by exact hlt)]; exact h j i hj hi⟩
def firstErr (f : Nat → Int) : Nat → Int
  | 0 => 0
  | n + 1 => if firstErr f n = 0 then f n else firstErr f n
theorem firstErr_next (f : Nat → Int) (k : Nat) (h : firstErr f k = 0) : firstErr f (k + 1) = f k := by
  show (if firstErr f k = 0 then f k else firstErr f k) = f k
  rw [if_pos h]
theorem firstErr_stop (f : Nat → Int) (k n : Nat) (h : firstErr f k = 0) (hk : f k ≠ 0) (hn : k < n) : firstErr f n = f k := by
  induction n with
  | zero => omega
  | succ n ih =>
    by_cases e : k = n
    · subst e
      exact firstErr_next f k h
    · have := ih (by omega)
      show (if firstErr f n = 0 then f n else firstErr f n) = f k
      rw [this, if_neg hk]
def eqS (s t : ByteArray) : Bool := s.toList == t.toList
def dup (c : Nat → ByteArray) (i : Nat) : Bool := (List.range i).any fun k => eqS (c k) (c i)
def clsAt (c : Nat → ByteArray) (i : Nat) : Int := if nmB (c i) = true then (if dup c i = true then 6 else 0) else 4
def clsErr (n : Nat) (c : Nat → ByteArray) : Int := if n ≤ 24 then firstErr (clsAt c) n else 3
def elmAt (t : Nat → ByteArray) (x : Nat → Int) (i : Nat) : Int := if (t i).size = 2 ∧ 0 ≤ x i ∧ x i ≤ 65535 then (if dup t i = true then 6 else 0) else 2
def elmErr (n : Nat) (t : Nat → ByteArray) (x : Nat → Int) : Int := if n ≤ 64 then firstErr (elmAt t x) n else 3
theorem light_pos {x : Int} (h : (decide (0 ≤ x) && decide (x ≤ 65535)) = true) : 0 ≤ x ∧ x ≤ 65535 := by simpa using h
theorem light_neg {x : Int} (h : (decide (0 ≤ x) && decide (x ≤ 65535)) = false) (hp : 0 ≤ x ∧ x ≤ 65535) : False := by
  rw [decide_eq_true hp.1, decide_eq_true hp.2] at h
  cases h
end Go.Proofs.YtphiaagppcbefaaGreatDoor
namespace Go.Proofs.YtphiaagppcbefaaGreatDoor
def wd (p : Nat → Bool) (b : Nat) : Nat → Nat
  | 0 => 0
  | n + 1 => wd p b n + (if p (b + n) then 2 ^ n else 0)
theorem wd_lt (p : Nat → Bool) (b n : Nat) : wd p b n < 2 ^ n := by
  induction n with
  | zero => simp [wd]
  | succ n ih =>
    simp only [wd, Nat.pow_succ]
    split <;> omega
theorem wd_lt64 (p : Nat → Bool) (b : Nat) : wd p b 64 < 18446744073709551616 := wd_lt p b 64
theorem wd_bit (p : Nat → Bool) (b n k : Nat) : (wd p b n).testBit k = (decide (k < n) && p (b + k)) := by
  induction n with
  | zero => simp [wd]
  | succ n ih =>
    simp only [wd]
    have hlt := wd_lt p b n
    by_cases h : p (b + n) = true
    · rw [if_pos h, Nat.add_comm]
      by_cases h1 : k < n
      · rw [Nat.testBit_two_pow_add_gt h1, ih]
        simp [h1, Nat.lt_succ_of_lt h1]
      · by_cases h2 : k = n
        · subst h2
          rw [Nat.testBit_two_pow_add_eq, ih]
          simp [h]
        · have h3 : 2 ^ n + wd p b n < 2 ^ k := by
            have : 2 ^ (n + 1) ≤ 2 ^ k := Nat.pow_le_pow_right (by decide) (by omega)
            rw [Nat.pow_succ] at this
            omega
          rw [Nat.testBit_lt_two_pow h3]
          have h4 : ¬ k < n + 1 := by omega
          simp [h4]
    · rw [if_neg h, Nat.add_zero, ih]
      by_cases h1 : k < n
      · simp [h1, Nat.lt_succ_of_lt h1]
      · by_cases h2 : k = n
        · subst h2
          simp at h
          simp [h]
        · have h4 : ¬ k < n + 1 := by omega
          simp [h1, h4]
theorem wd_congr (p q : Nat → Bool) (b n : Nat) (h : ∀ k, k < n → p (b + k) = q (b + k)) : wd p b n = wd q b n := by
  apply Nat.eq_of_testBit_eq
  intro i
  rw [wd_bit, wd_bit]
  by_cases hi : i < n
  · rw [h i hi]
  · simp [hi]
theorem wd_inj (p q : Nat → Bool) (b n : Nat) (h : wd p b n = wd q b n) : ∀ k, k < n → p (b + k) = q (b + k) := by
  intro k hk
  have := congrArg (fun x => x.testBit k) h
  simpa [wd_bit, hk] using this
theorem wd_or (p q : Nat → Bool) (b n : Nat) : wd p b n ||| wd q b n = wd (fun c => p c || q c) b n := by
  apply Nat.eq_of_testBit_eq
  intro i
  rw [Nat.testBit_or, wd_bit, wd_bit, wd_bit]
  cases decide (i < n) <;> simp
theorem wd_and (p q : Nat → Bool) (b n : Nat) : wd p b n &&& wd q b n = wd (fun c => p c && q c) b n := by
  apply Nat.eq_of_testBit_eq
  intro i
  rw [Nat.testBit_and, wd_bit, wd_bit, wd_bit]
  cases decide (i < n) <;> simp
theorem wd_one (c : Nat) : 2 ^ (c % 64) = wd (fun x => x == c) (64 * (c / 64)) 64 := by
  apply Nat.eq_of_testBit_eq
  intro i
  rw [wd_bit, Nat.testBit_two_pow]
  by_cases h : c % 64 = i
  · have h1 : i < 64 := by omega
    have h2 : 64 * (c / 64) + i = c := by omega
    simp [h, h1, h2]
  · by_cases h1 : i < 64
    · have h2 : ¬ 64 * (c / 64) + i = c := by omega
      simp [h, h1, h2]
    · simp [h, h1]
theorem wd_none (b n : Nat) : wd (fun _ => false) b n = 0 := by
  induction n with
  | zero => rfl
  | succ n ih => simp [wd, ih]
def el (p : Nat → Bool) (n : Nat) : List Nat := (List.range n).filter p
theorem el_succ (p : Nat → Bool) (n : Nat) : el p (n + 1) = el p n ++ (if p n then [n] else []) := by
  unfold el
  rw [List.range_succ, List.filter_append]
  congr 1
  by_cases h : p n = true
  · simp [h]
  · simp [h]
theorem el_length_le (p : Nat → Bool) (n : Nat) : (el p n).length ≤ n := by
  have := List.length_filter_le p (List.range n)
  simpa [el] using this
theorem mem_el (p : Nat → Bool) (n x : Nat) : x ∈ el p n ↔ x < n ∧ p x = true := by
  simp [el]
theorem el_none (p : Nat → Bool) (n j : Nat) (h : ∀ k, n ≤ k → k < n + j → p k = false) : el p (n + j) = el p n := by
  induction j with
  | zero => rfl
  | succ j ih =>
    rw [← Nat.add_assoc, el_succ, ih (fun k h1 h2 => h k h1 (by omega)), h (n + j) (by omega) (by omega)]
    simp
def f1 (b : Nat) : Nat := (b / 2 &&& 85) + (b &&& 85)
def f2 (b : Nat) : Nat := (b / 4 &&& 51) + (b &&& 51)
def pc (b : Nat) : Nat := b % 2 + b / 2 % 2 + b / 4 % 2 + b / 8 % 2 + b / 16 % 2 + b / 32 % 2 + b / 64 % 2 + b / 128 % 2
def h1 (x : Nat) : Nat := (x / 2 &&& 6148914691236517205) + (x &&& 6148914691236517205)
def h2 (x : Nat) : Nat := (x / 4 &&& 3689348814741910323) + (x &&& 3689348814741910323)
def h3 (x : Nat) : Nat := (x / 16 + x) &&& 1085102592571150095
theorem ctz_bit (x : Nat) (h0 : x ≠ 0) (h : x < 2 ^ 64) : Lib.ctz 64 x < 64 ∧ x.testBit (Lib.ctz 64 x) = true ∧ (∀ k, k < Lib.ctz 64 x → x.testBit k = false) ∧ (∀ k, (x &&& (x - 1)).testBit k = (x.testBit k && !decide (k = Lib.ctz 64 x))) := by
  obtain ⟨m, hm, hk⟩ := Lib.ctzFrom_spec 64 x (by omega) h
  have e : Lib.ctz 64 x = Lib.ctzFrom 64 x := by simp [Lib.ctz, h0]
  rw [e]
  generalize Lib.ctzFrom 64 x = k at hm hk
  have hb : ∀ i, x.testBit i = (decide (i ≥ k) && (2 * m + 1).testBit (i - k)) := by
    intro i
    rw [hm, Nat.mul_comm, Nat.testBit_mul_two_pow]
  refine ⟨hk, ?_, ?_, ?_⟩
  · rw [hb]
    simp [Nat.testBit_zero]
  · intro i hi
    rw [hb]
    have : ¬ i ≥ k := by omega
    simp [this]
  · intro i
    rw [Nat.testBit_and]
    have hx1 : x - 1 = 2 ^ k * (2 * m) + (2 ^ k - 1) := by
      have : 0 < 2 ^ k := Nat.two_pow_pos k
      rw [hm, Nat.mul_add]
      omega
    have hb1 : (x - 1).testBit i = if i < k then true else (2 * m).testBit (i - k) := by
      rw [hx1, Nat.testBit_two_pow_mul_add _ (by have := Nat.two_pow_pos k; omega)]
      by_cases hi : i < k
      · rw [if_pos hi, if_pos hi, Nat.testBit_two_pow_sub_one]
        simp [hi]
      · rw [if_neg hi, if_neg hi]
    rw [hb1, hb]
    by_cases hi : i < k
    · have h1 : ¬ i ≥ k := by omega
      simp [h1]
    · have h1 : i ≥ k := by omega
      rw [if_neg hi]
      by_cases h2 : i = k
      · subst h2
        simp [Nat.testBit_zero]
      · obtain ⟨j, rfl⟩ : ∃ j, i = k + (j + 1) := ⟨i - k - 1, by omega⟩
        have e3 : k + (j + 1) - k = j + 1 := by omega
        rw [e3, Nat.testBit_succ, Nat.testBit_succ]
        have d1 : (2 * m + 1) / 2 = m := by omega
        have d2 : 2 * m / 2 = m := by omega
        rw [d1, d2]
        simp
end Go.Proofs.YtphiaagppcbefaaGreatDoor
namespace Go.Proofs.YtphiaagppcbefaaGreatDoor
open Go.RowKit
theorem pow_lt64 (c : Nat) : 2 ^ (c % 64) < 18446744073709551616 := by
  have : 2 ^ (c % 64) < 2 ^ 64 := Nat.pow_lt_pow_right (by decide) (by omega)
  simpa using this
theorem pow_cast (c : Nat) : IntKind.u64.wrap ((2 : Int) ^ (c % 64)) = ((2 ^ (c % 64) : Nat) : Int) := by
  have h := pow_lt64 c
  rw [IntKind.wrap_u64, show ((2 : Int) ^ (c % 64)) = ((2 ^ (c % 64) : Nat) : Int) by simp]
  generalize 2 ^ (c % 64) = y at h ⊢
  omega
theorem bit_any (c : Nat) (hc : c < 256) (w : World) : Calls Tryz.prog 115 #[.int .u8 c] w fun e w' => e = .returned (.int .u64 ((2 ^ (c % 64) : Nat) : Int)) ∧ w = w' := by
  go_enter Tryz.func115, Tryz.ntmps115
  go_wp2
  go_ret
  exact ⟨by simp [pow_cast], rfl⟩
theorem and64 (a m : Nat) (ha : a < 18446744073709551616) (hm : m < 18446744073709551616) : bits BinOp.and IntKind.u64 (a : Int) (m : Int) = ((a &&& m : Nat) : Int) := bits_and_u64_nat a m ha hm
def tabAt (w : World) : Prop := ∀ j, j < Lib.deBruijn64tab.length → w.cell? ⟨0, j, none⟩ = some (.int .u8 (Lib.deBruijn64tab.getD j 0))
theorem tz_core (x k idx : Nat) (w : World) (hx0 : ((x : Int) == 0) = false)
    (key : IntKind.u64.wrap (bits BinOp.and IntKind.u64 (x : Int) (IntKind.u64.wrap (-(x : Int))) * 285870213051353865) / 288230376151711744 = (idx : Int))
    (hi : idx < 64) (hk : k < 64) (hcell : w.cell? ⟨0, idx, none⟩ = some (.int .u8 k)) :
    Calls Tryz.prog 99 #[.int .u64 x] w fun e w' => e = .returned (.int .i64 k) ∧ w = w' := by
  go_enter Tryz.func99, Tryz.ntmps99
  go_wp2_with (simp only [key])
  go_ret
  exact ⟨rfl, rfl⟩
theorem tz_any (x : Nat) (hx : x < 18446744073709551616) (hx0 : x ≠ 0) (w : World) (hT : tabAt w) :
    Calls Tryz.prog 99 #[.int .u64 (x : Int)] w fun e w' => e = .returned (.int .i64 ((Lib.ctz 64 x : Nat) : Int)) ∧ w = w' := by
  obtain ⟨hlow, hk⟩ := Lib.lowest_bit 64 x hx0 hx
  obtain ⟨hi, htab⟩ := Lib.deBruijn64_at _ hk
  have hcell := hT _ hi
  rw [htab] at hcell
  exact tz_core x _ _ w (by simp; omega) (tz64_key x _ hx hx0 hlow) hi hk hcell
end Go.Proofs.YtphiaagppcbefaaGreatDoor
namespace Go.Proofs.YtphiaagppcbefaaGreatDoor
open Go.RowKit
def cl (p : Nat → Bool) : Array Value := #[.int .u64 (wd p 0 64 : Nat), .int .u64 (wd p 64 64 : Nat), .int .u64 (wd p 128 64 : Nat), .int .u64 (wd p 192 64 : Nat)]
def cs (p : Nat → Bool) : Value := .agg (cl p)
theorem below_drewN {B : Nat} {a w : World} (h : Below B a w) (n : Nat) : Below B a (w.drewN n) := by
  induction n generalizing w with
  | zero => exact h
  | succ n ih => exact (ih h).drew
end Go.Proofs.YtphiaagppcbefaaGreatDoor
namespace Go.Proofs.YtphiaagppcbefaaGreatDoor
open Go.RowKit
theorem cl_size (p : Nat → Bool) : (cl p).size = 4 := rfl
theorem cl_one (p : Nat → Bool) : (cl p).all (·.oneCell') = true := by simp [cl, Value.oneCell']
theorem info_cs : (Tryz.prog.info? 32).map (·.size) = some 4 := by kernel_rfl
def At (w : World) (g : Nat) (p : Nat → Bool) : Prop := w.heap[g]? = some (.cells (cl p) 32 (0, 0))
theorem At.lt {w : World} {g : Nat} {p : Nat → Bool} (h : At w g p) : g < w.heap.size := (Array.getElem?_eq_some_iff.1 h).1
theorem At.new (w : World) (p : Nat → Bool) : At (w.alloc (.cells (cl p) 32)) w.heap.size p := heap_alloc_new w _
theorem At.alloc {w : World} {g : Nat} {p : Nat → Bool} (h : At w g p) (o : Obj) : At (w.alloc o) g p := (Below.heap_alloc w o g h.lt).trans h
theorem At.below {w w' : World} {g : Nat} {p : Nat → Bool} (h : At w g p) {B : Nat} (hb : Below B w w') (hB : g < B) : At w' g p := (hb.block g hB).trans h
theorem At.set {w : World} {g : Nat} {p : Nat → Bool} (h : At w g p) (q : Nat → Bool) : At (w.setRow g (cl q)) g q := setRow_heap w g _ _ _ _ h
theorem At.other {w : World} {g k : Nat} {p : Nat → Bool} (h : At w g p) (c : Array Value) (hk : g ≠ k) : At (w.setRow k c) g p := (setRow_other w k g c hk).trans h
theorem At.cell {w : World} {g : Nat} {p : Nat → Bool} (h : At w g p) (j : Nat) : w.cell? ⟨g, j, none⟩ = (cl p)[j]? := cell_of_row w g j _ _ _ h
theorem At.free {w : World} {g : Nat} {p : Nat → Bool} (h : At w g p) (j : Nat) : w.frozen? ⟨g, j, none⟩ = false := frozen_of_row w g j _ _ h
theorem cl_zero : (#[.int .u64 0, .int .u64 0, .int .u64 0, .int .u64 0] : Array Value) = cl (fun _ => false) := by
  simp [cl, wd_none]
theorem cl_get (p : Nat → Bool) (j : Nat) (hj : j < 4) : (cl p)[j]? = some (.int .u64 ((wd p (64 * j) 64 : Nat) : Int)) := by
  match j, hj with
  | 0, _ => rfl
  | 1, _ => rfl
  | 2, _ => rfl
  | 3, _ => rfl
theorem cl_congr (p q : Nat → Bool) (h : ∀ c, c < 256 → p c = q c) : cl p = cl q := by
  unfold cl
  rw [wd_congr p q 0 64 fun k hk => h _ (by omega), wd_congr p q 64 64 fun k hk => h _ (by omega), wd_congr p q 128 64 fun k hk => h _ (by omega), wd_congr p q 192 64 fun k hk => h _ (by omega)]
theorem cs_congr (p q : Nat → Bool) (h : ∀ c, c < 256 → p c = q c) : cs p = cs q := by
  unfold cs
  rw [cl_congr p q h]
theorem cl_set (p q : Nat → Bool) (j : Nat) (hj : j < 4) (h : ∀ c, c < 256 → c / 64 ≠ j → p c = q c) (v : Value) (hv : v = .int .u64 ((wd q (64 * j) 64 : Nat) : Int)) : (cl p).setIfInBounds j v = cl q := by
  subst hv
  match j, hj with
  | 0, _ =>
    unfold cl
    rw [wd_congr p q 64 64 fun k hk => h _ (by omega) (by omega), wd_congr p q 128 64 fun k hk => h _ (by omega) (by omega), wd_congr p q 192 64 fun k hk => h _ (by omega) (by omega)]
    simp
  | 1, _ =>
    unfold cl
    rw [wd_congr p q 0 64 fun k hk => h _ (by omega) (by omega), wd_congr p q 128 64 fun k hk => h _ (by omega) (by omega), wd_congr p q 192 64 fun k hk => h _ (by omega) (by omega)]
    simp
  | 2, _ =>
    unfold cl
    rw [wd_congr p q 0 64 fun k hk => h _ (by omega) (by omega), wd_congr p q 64 64 fun k hk => h _ (by omega) (by omega), wd_congr p q 192 64 fun k hk => h _ (by omega) (by omega)]
    simp
  | 3, _ =>
    unfold cl
    rw [wd_congr p q 0 64 fun k hk => h _ (by omega) (by omega), wd_congr p q 64 64 fun k hk => h _ (by omega) (by omega), wd_congr p q 128 64 fun k hk => h _ (by omega) (by omega)]
    simp
theorem At.word {w : World} {g : Nat} {p : Nat → Bool} (hA : At w g p) (q : Nat → Bool) (j : Nat) (hj : j < 4) (h : ∀ c, c < 256 → c / 64 ≠ j → p c = q c) (v : Value) (hv : v = .int .u64 ((wd q (64 * j) 64 : Nat) : Int)) : At (w.setCell ⟨g, j, none⟩ v) g q :=
  (heap_setCell_same w g j _ _ v hA).trans (by rw [cl_set p q j hj h v hv])
theorem At.apart {w : World} {g k j : Nat} {p : Nat → Bool} (hA : At w g p) (v : Value) (hk : g ≠ k) : At (w.setCell ⟨k, j, none⟩ v) g p :=
  (Below.heap_setCell w ⟨k, j, none⟩ v g hk).trans hA
theorem At.got {w : World} {g : Nat} {p : Nat → Bool} (hA : At w g p) (j : Nat) (hj : j < 4) : w.cell? ⟨g, j, none⟩ = some (.int .u64 ((wd p (64 * j) 64 : Nat) : Int)) := (hA.cell j).trans (cl_get p j hj)
def ins (p : Nat → Bool) (c : Nat) : Nat → Bool := fun x => p x || x == c
theorem ins_other (p : Nat → Bool) (c : Nat) : ∀ x, x < 256 → x / 64 ≠ c / 64 → p x = ins p c x := by
  intro x _ hx
  have : ¬ x = c := fun e => hx (by rw [e])
  simp [ins, this]
theorem wd_ins_or (p : Nat → Bool) (c : Nat) : wd p (64 * (c / 64)) 64 ||| 2 ^ (c % 64) = wd (ins p c) (64 * (c / 64)) 64 := by
  rw [wd_one, wd_or]
  rfl
theorem At.words {w : World} {g : Nat} {p : Nat → Bool} (hA : At w g p) : (w.cell? ⟨g, 0, none⟩ = some (.int .u64 ((wd p 0 64 : Nat) : Int)) ∧ w.cell? ⟨g, 1, none⟩ = some (.int .u64 ((wd p 64 64 : Nat) : Int))) ∧
    (w.cell? ⟨g, 2, none⟩ = some (.int .u64 ((wd p 128 64 : Nat) : Int)) ∧ w.cell? ⟨g, 3, none⟩ = some (.int .u64 ((wd p 192 64 : Nat) : Int))) ∧ ∀ j, w.frozen? ⟨g, j, none⟩ = false :=
  ⟨⟨hA.got 0 (by decide), hA.got 1 (by decide)⟩, ⟨hA.got 2 (by decide), hA.got 3 (by decide)⟩, hA.free⟩
def put4 (w : World) (g : Nat) (q : Nat → Bool) : World :=
  ((((w.setCell ⟨g, 0, none⟩ (.int .u64 ((wd q 0 64 : Nat) : Int))).setCell ⟨g, 1, none⟩ (.int .u64 ((wd q 64 64 : Nat) : Int))).setCell ⟨g, 2, none⟩ (.int .u64 ((wd q 128 64 : Nat) : Int))).setCell ⟨g, 3, none⟩ (.int .u64 ((wd q 192 64 : Nat) : Int)))
theorem At.put4 {w : World} {g : Nat} {r : Nat → Bool} (hA : At w g r) (q : Nat → Bool) : At (put4 w g q) g q := by
  have h1 := heap_setCell_same w g 0 _ _ (.int .u64 ((wd q 0 64 : Nat) : Int)) hA
  have h2 := heap_setCell_same _ g 1 _ _ (.int .u64 ((wd q 64 64 : Nat) : Int)) h1
  have h3 := heap_setCell_same _ g 2 _ _ (.int .u64 ((wd q 128 64 : Nat) : Int)) h2
  have h4 := heap_setCell_same _ g 3 _ _ (.int .u64 ((wd q 192 64 : Nat) : Int)) h3
  refine Eq.trans h4 ?_
  simp [cl]
theorem below_put4 {B : Nat} {a w : World} (h : Below B a w) (g : Nat) (hB : B ≤ g) (q : Nat → Bool) : Below B a (put4 w g q) :=
  (((h.setCell (p := ⟨g, 0, none⟩) hB _).setCell (p := ⟨g, 1, none⟩) hB _).setCell (p := ⟨g, 2, none⟩) hB _).setCell (p := ⟨g, 3, none⟩) hB _
theorem ret_cs {fn : Func} {t0 : Tmp} (hr : fn.results = #[.cell t0 32]) (tmps : Array Value) (w : World) (g : Nat) (q : Nat → Bool) (hp : tmps.getD t0 undef = .pointer (some ⟨g, 0, none⟩)) (hA : At w g q) :
    (results fn tmps).run Tryz.prog w = .ok (cs q) w :=
  results_cell_row hr tmps w g _ (cl q) (0, 0) _ hp hA Tryz.underlying32 rfl info_cs
end Go.Proofs.YtphiaagppcbefaaGreatDoor
set_option linter.unusedVariables false
namespace Go.Proofs.YtphiaagppcbefaaGreatDoor
open Go.RowKit
structure Loc where
  name : ByteArray
  lower : ByteArray
  upper : ByteArray
  nw : Nat
  wt : Nat → Int
  nc : Nat
  cn : Nat → ByteArray
  cset : Nat → Nat → Bool
  ne : Nat
  et : Nat → ByteArray
  ew : Nat → Int
def wtF (L : Loc) : Nat → Nat → Value := fun j _ => .int .i64 (L.wt j)
def clsF (L : Loc) : Nat → Nat → Value := fun j i => if i = 0 then .string (L.cn j) else .int .u64 ((wd (L.cset j) (64 * (i - 1)) 64 : Nat) : Int)
def elmF (L : Loc) : Nat → Nat → Value := fun j i => if i = 0 then .string (L.et j) else .int .i64 (L.ew j)
def LocM (w : World) (L : Loc) (W C E : Value) : Prop := SL 1 L.nw (wtF L) w W ∧ SL 5 L.nc (clsF L) w C ∧ SL 2 L.ne (elmF L) w E
theorem LocM.below {w w' : World} {L : Loc} {W C E : Value} (h : LocM w L W C E) (hb : Below w.heap.size w w') : LocM w' L W C E := ⟨h.1.below hb, h.2.1.below hb, h.2.2.below hb⟩
def lcl (L : Loc) (W C E : Value) : Array Value := #[.string L.name, W, .string L.lower, .string L.upper, C, E]
def wtAt (x : Nat → Int) (i : Nat) : Int := if (decide (0 ≤ x i) && decide (x i ≤ 65535)) = true then 0 else 2
def chk (L : Loc) : Int :=
  if nmB L.name = true then
    if L.nw = 256 then
      if firstErr (wtAt L.wt) 256 = 0 then
        if L.lower.size = 256 ∧ L.upper.size = 256 then
          if clsErr L.nc L.cn = 0 then elmErr L.ne L.et L.ew else clsErr L.nc L.cn
        else 2
      else firstErr (wtAt L.wt) 256
    else 2
  else 4
end Go.Proofs.YtphiaagppcbefaaGreatDoor
set_option linter.unusedVariables false
namespace Go.Proofs.YtphiaagppcbefaaGreatDoor
open Go.RowKit
theorem infoU : (Tryz.prog.info? 5).map (fun i => (i.zero, i.size, i.bytes)) = some (some (.int .u8 0), 1, 1) := by kernel_rfl
theorem infoI : (Tryz.prog.info? 3).map (fun i => (i.zero, i.size, i.bytes)) = some (some (.int .i64 0), 1, 8) := by kernel_rfl
def bys (l : List UInt8) : List Value := l.map fun c => .int .u8 (c.toNat : Int)
def nums (l : List Int) : List Value := l.map fun n => .int .i64 n
theorem bys_app (l r : List UInt8) : bys (l ++ r) = bys l ++ bys r := by unfold bys; rw [List.map_append]
theorem nums_app (l r : List Int) : nums (l ++ r) = nums l ++ nums r := by unfold nums; rw [List.map_append]
theorem add_at (g j : Nat) : (⟨g, 0, none⟩ : Addr).add j = ⟨g, j, none⟩ := by unfold Addr.add; split <;> simp_all
theorem row_cells (w : World) (cs : List Value) (t : TypeId) (j : Nat) (u : Value) (h : cs[j]? = some u) : (w.alloc (.cells cs.toArray t)).cell? ((⟨w.heap.size, 0, none⟩ : Addr).add j) = some u := by
  rw [add_at, cell_of_row _ w.heap.size j cs.toArray t (0, 0) (heap_alloc_new w _)]
  simpa using h
theorem own_under {w w' : World} {B n : Nat} {t : TypeId} {v : Value} {xs : List Value} (h : w.ownsRow B t 1 v n xs) (hb : Below w.heap.size w w') : w'.ownsRow B t 1 v n xs := by
  obtain ⟨h1, h2⟩ := h
  refine ⟨h1, ?_⟩
  rcases h2 with h2 | ⟨g, cap, cur, e, hB, hg, r⟩
  · exact .inl h2
  · exact .inr ⟨g, cap, cur, e, hB, (hb.block g (Array.getElem?_eq_some_iff.1 hg).1).trans hg, r⟩
theorem app_row (T E : TypeId) (z : Value) (bytes : Nat) (ht : Tryz.prog.underlying T = some (.slice E)) (hif : (Tryz.prog.info? E).map (fun i => (i.zero, i.size, i.bytes)) = some (some z, 1, bytes)) (hz : z.cells.size = 1)
    {W : World} {ops : Array Oper} {rest : List Oper} {o : Oper} {a : Act} {Q : Exit → Act → World → Prop} (w : World) (hgd : o.guard = none) (s x : Operand)
    (ho : o.op = .call { callee := .builtin .append, args := #[s, x], argTypes := #[T, T] })
    (B : Nat) (v : Value) (n m : Nat) (xs vs : List Value) (hW : W = w.alloc (.cells vs.toArray E)) (hs : a.eval s = v) (hown : w.ownsRow B E 1 v n xs) (hx : a.eval x = .slice (some ⟨w.heap.size, 0, none⟩) m m) (hm : vs.length = m) (h1 : ∀ u ∈ vs, u.oneCell' = true)
    (hB : B ≤ w.heap.size) (h63 : n + m ≤ maxLen) (hby : (n + m) * bytes ≤ 140737488355328)
    (h : ∀ v' w', w'.ownsRow B E 1 v' (n + m) (xs ++ vs) → (∀ A0, Below B A0 w → Below B A0 w') → wpList Tryz.prog ops Q rest (a.put o.dst v') w') :
    wpList Tryz.prog ops Q (o :: rest) a W := by
  subst hW
  obtain ⟨i0, hi, hz0, hz1, hz2⟩ := info_parts hif
  refine wpList_append_own _ hgd s x T ho B E i0 z 1 bytes ht hi hz0 hz1 hz2 hz (by decide) v n xs hs (hown.alloc _) ⟨w.heap.size, 0, none⟩ m m vs hx (by omega) (fun j u hu => row_cells w vs E j u hu) h1 h63 hby (by simp; omega) ?_
  intro v' w' hown' hgrow _
  exact h v' w' hown' fun A0 hb => (hb.alloc hB _).grown hgrow (by simp; omega) (fun j e => (hown.lt j e).1)
theorem conv_bys {w : World} {B n : Nat} {v : Value} {l : List UInt8} (h : w.ownsRow B 5 1 v n (bys l)) (hn : n = l.length) : (convert 62 9 v).run Tryz.prog w = .ok (.string ⟨l.toArray⟩) w := by
  subst hn
  rcases Joins.ownsRow_forms h with ⟨rfl, h0⟩ | ⟨g, cap, rfl⟩
  · have hl : l = [] := List.eq_nil_of_length_eq_zero h0
    subst hl
    rw [run_convert_bytes_string w 62 9 5 none 0 0 Tryz.underlying62 Tryz.underlying5 Tryz.underlying9]
    rfl
  · exact run_convert_bytes_back (P := Tryz.prog) w 62 9 5 ⟨g, 0, none⟩ cap l Tryz.underlying62 Tryz.underlying5 Tryz.underlying9 (fun j hj => h.cells rfl j _ (by
      unfold bys
      rw [List.getElem?_map, List.getElem?_eq_getElem hj]
      rfl))
def gb (T : ByteArray) (k : Nat) : UInt8 := T.data[k]?.getD 0
theorem gb_at (T : ByteArray) (k : Nat) (h : k < T.size) : gb T k = T[k] := by
  unfold gb
  rw [Array.getElem?_eq_getElem h]
  rfl
def mapT (T : ByteArray) (l : List UInt8) : List UInt8 := l.map fun c => gb T c.toNat
end Go.Proofs.YtphiaagppcbefaaGreatDoor
