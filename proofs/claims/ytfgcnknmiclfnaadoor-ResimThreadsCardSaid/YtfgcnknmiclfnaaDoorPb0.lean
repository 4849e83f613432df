/- CsMath, CsSmall, CsSets, CsRow. -/
import Derived.Test.YtfgcnknmiclfnaaDoorRows
import Derived.Lib.TrailingZeros
import Derived.WalkKit
import Derived.WalkSpells
import Derived.WalkLawsBesides
import Derived.Laws.Bits64b
import Derived.Laws.BitsAllLaws
import Derived.Shelf.Spec.TrailingZeros
import Derived.Below
import Derived.IntWalk
import Derived.BigGuardPart
import Derived.BigQuiet
import Derived.Lib.Hide
import Derived.Laws.CopyOwn
import Derived.Laws.Rows
import Derived.Laws.Tables
import Derived.Laws.World
namespace Go.Proofs.YtfgcnknmiclfnaaDoor
def wd (p : Nat → Bool) (b : Nat) : Nat → Nat
  | 0 => 0
  | n + 1 => wd p b n + (if p (b + n) then 2 ^ n else 0)
theorem wd_lt (p : Nat → Bool) (b n : Nat) : wd p b n < 2 ^ n := by
  induction n with
  | zero => simp [wd]
  | succ n ih =>
    simp only [wd, Nat.pow_succ]
    split <;> omega
theorem wd_lt64 (p : Nat → Bool) (b : Nat) : wd p b 64 < 18446744073709551616 := wd_lt p b 64
theorem wd_bit (p : Nat → Bool) (b n k : Nat) : (wd p b n).testBit k = (decide (k < n) && p (b + k)) := by
  induction n with
  | zero => simp [wd]
  | succ n ih =>
    simp only [wd]
    have hlt := wd_lt p b n
    by_cases h : p (b + n) = true
    · rw [if_pos h, Nat.add_comm]
      by_cases h1 : k < n
      · rw [Nat.testBit_two_pow_add_gt h1, ih]
        simp [h1, Nat.lt_succ_of_lt h1]
      · by_cases h2 : k = n
        · subst h2
          rw [Nat.testBit_two_pow_add_eq, ih]
          simp [h]
        · have h3 : 2 ^ n + wd p b n < 2 ^ k := by
            have : 2 ^ (n + 1) ≤ 2 ^ k := Nat.pow_le_pow_right (by decide) (by omega)
            rw [Nat.pow_succ] at this
            omega
          rw [Nat.testBit_lt_two_pow h3]
          have h4 : ¬ k < n + 1 := by omega
          simp [h4]
    · rw [if_neg h, Nat.add_zero, ih]
      by_cases h1 : k < n
      · simp [h1, Nat.lt_succ_of_lt h1]
      · by_cases h2 : k = n
        · subst h2
          simp at h
          simp [h]
        · have h4 : ¬ k < n + 1 := by omega
          simp [h1, h4]
theorem wd_congr (p q : Nat → Bool) (b n : Nat) (h : ∀ k, k < n → p (b + k) = q (b + k)) : wd p b n = wd q b n := by
  apply Nat.eq_of_testBit_eq
  intro i
  rw [wd_bit, wd_bit]
  by_cases hi : i < n
  · rw [h i hi]
  · simp [hi]
theorem wd_or (p q : Nat → Bool) (b n : Nat) : wd p b n ||| wd q b n = wd (fun c => p c || q c) b n := by
  apply Nat.eq_of_testBit_eq
  intro i
  rw [Nat.testBit_or, wd_bit, wd_bit, wd_bit]
  cases decide (i < n) <;> simp
theorem wd_and (p q : Nat → Bool) (b n : Nat) : wd p b n &&& wd q b n = wd (fun c => p c && q c) b n := by
  apply Nat.eq_of_testBit_eq
  intro i
  rw [Nat.testBit_and, wd_bit, wd_bit, wd_bit]
  cases decide (i < n) <;> simp
theorem wd_one (c : Nat) : 2 ^ (c % 64) = wd (fun x => x == c) (64 * (c / 64)) 64 := by
  apply Nat.eq_of_testBit_eq
  intro i
  rw [wd_bit, Nat.testBit_two_pow]
  by_cases h : c % 64 = i
  · have h1 : i < 64 := by omega
    have h2 : 64 * (c / 64) + i = c := by omega
    simp [h, h1, h2]
  · by_cases h1 : i < 64
    · have h2 : ¬ 64 * (c / 64) + i = c := by omega
      simp [h, h1, h2]
    · simp [h, h1]
theorem wd_none (b n : Nat) : wd (fun _ => false) b n = 0 := by
  induction n with
  | zero => rfl
  | succ n ih => simp [wd, ih]
theorem wd_shift (p : Nat → Bool) (c : Nat) : wd p (64 * (c / 64)) 64 / 2 ^ (c % 64) % 2 = (p c).toNat := by
  have h := wd_bit p (64 * (c / 64)) 64 (c % 64)
  have e : 64 * (c / 64) + c % 64 = c := by omega
  have h1 : c % 64 < 64 := by omega
  rw [e] at h
  simp only [h1, decide_true, Bool.true_and] at h
  rw [← Nat.toNat_testBit, h]
theorem wd_mask (p : Nat → Bool) (c : Nat) : wd p (64 * (c / 64)) 64 &&& 2 ^ (c % 64) = if p c then 2 ^ (c % 64) else 0 := by
  rw [wd_one, wd_and]
  split
  · rename_i h
    apply wd_congr
    intro k hk
    by_cases h2 : 64 * (c / 64) + k = c
    · simp [h2, h]
    · simp [h2]
  · rename_i h
    rw [← wd_none (64 * (c / 64)) 64]
    apply wd_congr
    intro k hk
    by_cases h2 : 64 * (c / 64) + k = c
    · simp at h
      simp [h2, h]
    · simp [h2]
def toP (x0 x1 x2 x3 : Nat) (c : Nat) : Bool := if c < 64 then x0.testBit c else if c < 128 then x1.testBit (c - 64) else if c < 192 then x2.testBit (c - 128) else x3.testBit (c - 192)
theorem wd_of (x : Nat) (hx : x < 2 ^ 64) (p : Nat → Bool) (b : Nat) (h : ∀ k, k < 64 → p (b + k) = x.testBit k) : wd p b 64 = x := by
  apply Nat.eq_of_testBit_eq
  intro i
  rw [wd_bit]
  by_cases hi : i < 64
  · simp [hi, h i hi]
  · have : x.testBit i = false := Nat.testBit_lt_two_pow (Nat.lt_of_lt_of_le hx (Nat.pow_le_pow_right (by decide) (by omega)))
    simp [hi, this]
theorem toP0 (x0 x1 x2 x3 : Nat) (h : x0 < 2 ^ 64) : wd (toP x0 x1 x2 x3) 0 64 = x0 := wd_of x0 h _ _ fun k hk => by
  unfold toP
  rw [if_pos (by omega), Nat.zero_add]
theorem toP1 (x0 x1 x2 x3 : Nat) (h : x1 < 2 ^ 64) : wd (toP x0 x1 x2 x3) 64 64 = x1 := wd_of x1 h _ _ fun k hk => by
  unfold toP
  rw [if_neg (by omega), if_pos (by omega), Nat.add_sub_cancel_left]
theorem toP2 (x0 x1 x2 x3 : Nat) (h : x2 < 2 ^ 64) : wd (toP x0 x1 x2 x3) 128 64 = x2 := wd_of x2 h _ _ fun k hk => by
  unfold toP
  rw [if_neg (by omega), if_neg (by omega), if_pos (by omega), Nat.add_sub_cancel_left]
theorem toP3 (x0 x1 x2 x3 : Nat) (h : x3 < 2 ^ 64) : wd (toP x0 x1 x2 x3) 192 64 = x3 := wd_of x3 h _ _ fun k hk => by
  unfold toP
  rw [if_neg (by omega), if_neg (by omega), if_neg (by omega), Nat.add_sub_cancel_left]
def el (p : Nat → Bool) (n : Nat) : List Nat := (List.range n).filter p
theorem el_succ (p : Nat → Bool) (n : Nat) : el p (n + 1) = el p n ++ (if p n then [n] else []) := by
  unfold el
  rw [List.range_succ, List.filter_append]
  congr 1
  by_cases h : p n = true
  · simp [h]
  · simp [h]
theorem el_length_le (p : Nat → Bool) (n : Nat) : (el p n).length ≤ n := by
  have := List.length_filter_le p (List.range n)
  simpa [el] using this
theorem el_congr (p q : Nat → Bool) (n : Nat) (h : ∀ k, k < n → p k = q k) : el p n = el q n := by
  unfold el
  apply List.filter_congr
  intro x hx
  exact h x (by simpa using hx)
def f1 (b : Nat) : Nat := (b / 2 &&& 85) + (b &&& 85)
def f2 (b : Nat) : Nat := (b / 4 &&& 51) + (b &&& 51)
def f3 (b : Nat) : Nat := (b / 16 + b) &&& 15
def h1 (x : Nat) : Nat := (x / 2 &&& 6148914691236517205) + (x &&& 6148914691236517205)
def h2 (x : Nat) : Nat := (x / 4 &&& 3689348814741910323) + (x &&& 3689348814741910323)
def h3 (x : Nat) : Nat := (x / 16 + x) &&& 1085102592571150095
end Go.Proofs.YtfgcnknmiclfnaaDoor
namespace Go.Proofs.YtfgcnknmiclfnaaDoor
open Go.RowKit
theorem pow_lt64 (c : Nat) : 2 ^ (c % 64) < 18446744073709551616 := by
  have : 2 ^ (c % 64) < 2 ^ 64 := Nat.pow_lt_pow_right (by decide) (by omega)
  simpa using this
theorem pow_cast (c : Nat) : IntKind.u64.wrap ((2 : Int) ^ (c % 64)) = ((2 ^ (c % 64) : Nat) : Int) := by
  have h := pow_lt64 c
  rw [IntKind.wrap_u64, show ((2 : Int) ^ (c % 64)) = ((2 ^ (c % 64) : Nat) : Int) by simp]
  generalize 2 ^ (c % 64) = y at h ⊢
  omega
theorem bit_any (c : Nat) (hc : c < 256) (w : World) : Calls Tryd.prog 60 #[.int .u8 c] w fun e w' => e = .returned (.int .u64 ((2 ^ (c % 64) : Nat) : Int)) ∧ w = w' := by
  go_enter Tryd.func60, Tryd.ntmps60
  go_wp2
  go_ret
  exact ⟨by simp [pow_cast], rfl⟩
theorem and64 (a m : Nat) (ha : a < 18446744073709551616) (hm : m < 18446744073709551616) : bits BinOp.and IntKind.u64 (a : Int) (m : Int) = ((a &&& m : Nat) : Int) := bits_and_u64_nat a m ha hm
theorem add64 (a b : Nat) (h : a + b < 18446744073709551616) : IntKind.u64.wrap ((a : Int) + (b : Int)) = ((a + b : Nat) : Int) := by
  rw [IntKind.wrap_u64]
  omega
end Go.Proofs.YtfgcnknmiclfnaaDoor
namespace Go.Proofs.YtfgcnknmiclfnaaDoor
open Go.RowKit
def cl (p : Nat → Bool) : Array Value := #[.int .u64 (wd p 0 64 : Nat), .int .u64 (wd p 64 64 : Nat), .int .u64 (wd p 128 64 : Nat), .int .u64 (wd p 192 64 : Nat)]
def cs (p : Nat → Bool) : Value := .agg (cl p)
theorem below_drewN {B : Nat} {a w : World} (h : Below B a w) (n : Nat) : Below B a (w.drewN n) := by
  induction n generalizing w with
  | zero => exact h
  | succ n ih => exact (ih h).drew
theorem wd_base (p : Nat → Bool) (c k : Nat) (h : c / 64 = k) (x b : Nat) (hb : b = 64 * k) (hx : x = wd p b 64) : x = wd p (64 * (c / 64)) 64 := by
  rw [h, hx, hb]
theorem and_test (p : Nat → Bool) (c x : Nat) (hx : x = wd p (64 * (c / 64)) 64) : (bits BinOp.and IntKind.u64 (x : Int) ((2 : Int) ^ (c % 64)) != 0) = p c := by
  have hm := wd_mask p c
  have h2 := pow_lt64 c
  have h3 : 0 < 2 ^ (c % 64) := Nat.two_pow_pos _
  rw [← hx] at hm
  have hlt : x < 18446744073709551616 := by rw [hx]; exact wd_lt64 _ _
  rw [show ((2 : Int) ^ (c % 64)) = ((2 ^ (c % 64) : Nat) : Int) by simp, and64 _ _ hlt h2, hm]
  generalize 2 ^ (c % 64) = y at h3
  cases p c
  · simp
  · simp only [if_true]
    have : ¬ y = 0 := by omega
    simp [this]
theorem has_any (p : Nat → Bool) (c : Nat) (hc : c < 256) (w : World) : Calls Tryd.prog 37 #[cs p, .int .u8 c] w fun e w' => e = .returned (.bool (p c)) ∧ Below w.heap.size w w' := by
  unfold cs cl
  have hz : IntKind.u8.wrap 0 = 0 ∧ IntKind.u8.wrap 1 = 1 ∧ IntKind.u8.wrap 2 = 2 ∧ IntKind.u8.wrap 3 = 3 := by decide
  obtain ⟨hz0, hz1, hz2, hz3⟩ := hz
  have h4 : c / 64 = 0 ∨ c / 64 = 1 ∨ c / 64 = 2 ∨ c / 64 = 3 := by omega
  rcases h4 with h | h | h | h
  · have hq : (c : Int) / 64 = 0 := by omega
    have HT := Lib.hid (and_test p c _ (wd_base p c _ h _ 0 rfl rfl))
    go_enter Tryd.func37, Tryd.ntmps37
    go_wp2
    go_quiet ((go_at_call 60; refine Calls.quiet_of_same ((bit_any c hc _).mono fun _ _ h => ⟨h.1, h.2.symm⟩)))
    go_wp2
    go_ret
    exact ⟨congrArg (fun b => Ending.returned (Value.bool b)) HT.out, below_drewN ((Below.refl _ _).alloc (Nat.le_refl _) _) _⟩
  · have hq : (c : Int) / 64 = 1 := by omega
    have HT := Lib.hid (and_test p c _ (wd_base p c _ h _ 64 rfl rfl))
    go_enter Tryd.func37, Tryd.ntmps37
    go_wp2
    go_quiet ((go_at_call 60; refine Calls.quiet_of_same ((bit_any c hc _).mono fun _ _ h => ⟨h.1, h.2.symm⟩)))
    go_wp2
    go_ret
    exact ⟨congrArg (fun b => Ending.returned (Value.bool b)) HT.out, below_drewN ((Below.refl _ _).alloc (Nat.le_refl _) _) _⟩
  · have hq : (c : Int) / 64 = 2 := by omega
    have HT := Lib.hid (and_test p c _ (wd_base p c _ h _ 128 rfl rfl))
    go_enter Tryd.func37, Tryd.ntmps37
    go_wp2
    go_quiet ((go_at_call 60; refine Calls.quiet_of_same ((bit_any c hc _).mono fun _ _ h => ⟨h.1, h.2.symm⟩)))
    go_wp2
    go_ret
    exact ⟨congrArg (fun b => Ending.returned (Value.bool b)) HT.out, below_drewN ((Below.refl _ _).alloc (Nat.le_refl _) _) _⟩
  · have hq : (c : Int) / 64 = 3 := by omega
    have HT := Lib.hid (and_test p c _ (wd_base p c _ h _ 192 rfl rfl))
    go_enter Tryd.func37, Tryd.ntmps37
    go_wp2
    go_quiet ((go_at_call 60; refine Calls.quiet_of_same ((bit_any c hc _).mono fun _ _ h => ⟨h.1, h.2.symm⟩)))
    go_wp2
    go_ret
    exact ⟨congrArg (fun b => Ending.returned (Value.bool b)) HT.out, below_drewN ((Below.refl _ _).alloc (Nat.le_refl _) _) _⟩
theorem shr_test (p : Nat → Bool) (c x : Nat) (hx : x = wd p (64 * (c / 64)) 64) : (bits BinOp.and IntKind.u64 ((x : Int) / (2 : Int) ^ (c % 64)) 1 == 1) = p c := by
  have hm := wd_shift p c
  rw [← hx] at hm
  have hlt : x < 18446744073709551616 := by rw [hx]; exact wd_lt64 _ _
  have e : (x : Int) / (2 : Int) ^ (c % 64) = ((x / 2 ^ (c % 64) : Nat) : Int) := by simp
  have l2 : x / 2 ^ (c % 64) < 18446744073709551616 := Nat.lt_of_le_of_lt (Nat.div_le_self _ _) hlt
  have := and64 (x / 2 ^ (c % 64)) 1 l2 (by decide)
  rw [Nat.and_one_is_mod, hm] at this
  have t2 : bits BinOp.and IntKind.u64 ((x / 2 ^ (c % 64) : Nat) : Int) 1 = (((p c).toNat : Nat) : Int) := this
  rw [e, t2]
  cases p c <;> rfl
theorem rhas_any (p : Nat → Bool) (c : Nat) (hc : c < 256) (w : World) : Calls Tryd.prog 17 #[cs p, .int .u8 c] w fun e w' => e = .returned (.bool (p c)) ∧ Below w.heap.size w w' := by
  unfold cs cl
  have h4 : c / 64 = 0 ∨ c / 64 = 1 ∨ c / 64 = 2 ∨ c / 64 = 3 := by omega
  rcases h4 with h | h | h | h
  · have hq : (c : Int) / 64 = 0 := by omega
    have HT := Lib.hid (shr_test p c _ (wd_base p c _ h _ 0 rfl rfl))
    go_enter Tryd.func17, Tryd.ntmps17
    go_wp2
    go_ret
    exact ⟨congrArg (fun b => Ending.returned (Value.bool b)) HT.out, (Below.refl _ _).alloc (Nat.le_refl _) _⟩
  · have hq : (c : Int) / 64 = 1 := by omega
    have HT := Lib.hid (shr_test p c _ (wd_base p c _ h _ 64 rfl rfl))
    go_enter Tryd.func17, Tryd.ntmps17
    go_wp2
    go_ret
    exact ⟨congrArg (fun b => Ending.returned (Value.bool b)) HT.out, (Below.refl _ _).alloc (Nat.le_refl _) _⟩
  · have hq : (c : Int) / 64 = 2 := by omega
    have HT := Lib.hid (shr_test p c _ (wd_base p c _ h _ 128 rfl rfl))
    go_enter Tryd.func17, Tryd.ntmps17
    go_wp2
    go_ret
    exact ⟨congrArg (fun b => Ending.returned (Value.bool b)) HT.out, (Below.refl _ _).alloc (Nat.le_refl _) _⟩
  · have hq : (c : Int) / 64 = 3 := by omega
    have HT := Lib.hid (shr_test p c _ (wd_base p c _ h _ 192 rfl rfl))
    go_enter Tryd.func17, Tryd.ntmps17
    go_wp2
    go_ret
    exact ⟨congrArg (fun b => Ending.returned (Value.bool b)) HT.out, (Below.refl _ _).alloc (Nat.le_refl _) _⟩
end Go.Proofs.YtfgcnknmiclfnaaDoor
namespace Go.Proofs.YtfgcnknmiclfnaaDoor
open Go.RowKit
theorem cl_size (p : Nat → Bool) : (cl p).size = 4 := rfl
theorem info_cs : (Tryd.prog.info? 41).map (·.size) = some 4 := by kernel_rfl
def At (w : World) (g : Nat) (p : Nat → Bool) : Prop := w.heap[g]? = some (.cells (cl p) 41 (0, 0))
theorem At.lt {w : World} {g : Nat} {p : Nat → Bool} (h : At w g p) : g < w.heap.size := (Array.getElem?_eq_some_iff.1 h).1
theorem At.new (w : World) (p : Nat → Bool) : At (w.alloc (.cells (cl p) 41)) w.heap.size p := heap_alloc_new w _
theorem At.alloc {w : World} {g : Nat} {p : Nat → Bool} (h : At w g p) (o : Obj) : At (w.alloc o) g p := (Below.heap_alloc w o g h.lt).trans h
theorem At.below {w w' : World} {g : Nat} {p : Nat → Bool} (h : At w g p) {B : Nat} (hb : Below B w w') (hB : g < B) : At w' g p := (hb.block g hB).trans h
theorem At.set {w : World} {g : Nat} {p : Nat → Bool} (h : At w g p) (q : Nat → Bool) : At (w.setRow g (cl q)) g q := setRow_heap w g _ _ _ _ h
theorem At.other {w : World} {g k : Nat} {p : Nat → Bool} (h : At w g p) (c : Array Value) (hk : g ≠ k) : At (w.setRow k c) g p := (setRow_other w k g c hk).trans h
theorem At.cell {w : World} {g : Nat} {p : Nat → Bool} (h : At w g p) (j : Nat) : w.cell? ⟨g, j, none⟩ = (cl p)[j]? := cell_of_row w g j _ _ _ h
theorem At.free {w : World} {g : Nat} {p : Nat → Bool} (h : At w g p) (j : Nat) : w.frozen? ⟨g, j, none⟩ = false := frozen_of_row w g j _ _ h
theorem cl_zero : (#[.int .u64 0, .int .u64 0, .int .u64 0, .int .u64 0] : Array Value) = cl (fun _ => false) := by
  simp [cl, wd_none]
theorem cl_get (p : Nat → Bool) (j : Nat) (hj : j < 4) : (cl p)[j]? = some (.int .u64 ((wd p (64 * j) 64 : Nat) : Int)) := by
  match j, hj with
  | 0, _ => rfl
  | 1, _ => rfl
  | 2, _ => rfl
  | 3, _ => rfl
theorem cl_set (p q : Nat → Bool) (j : Nat) (hj : j < 4) (h : ∀ c, c < 256 → c / 64 ≠ j → p c = q c) (v : Value) (hv : v = .int .u64 ((wd q (64 * j) 64 : Nat) : Int)) : (cl p).setIfInBounds j v = cl q := by
  subst hv
  match j, hj with
  | 0, _ =>
    unfold cl
    rw [wd_congr p q 64 64 fun k hk => h _ (by omega) (by omega), wd_congr p q 128 64 fun k hk => h _ (by omega) (by omega), wd_congr p q 192 64 fun k hk => h _ (by omega) (by omega)]
    simp
  | 1, _ =>
    unfold cl
    rw [wd_congr p q 0 64 fun k hk => h _ (by omega) (by omega), wd_congr p q 128 64 fun k hk => h _ (by omega) (by omega), wd_congr p q 192 64 fun k hk => h _ (by omega) (by omega)]
    simp
  | 2, _ =>
    unfold cl
    rw [wd_congr p q 0 64 fun k hk => h _ (by omega) (by omega), wd_congr p q 64 64 fun k hk => h _ (by omega) (by omega), wd_congr p q 192 64 fun k hk => h _ (by omega) (by omega)]
    simp
  | 3, _ =>
    unfold cl
    rw [wd_congr p q 0 64 fun k hk => h _ (by omega) (by omega), wd_congr p q 64 64 fun k hk => h _ (by omega) (by omega), wd_congr p q 128 64 fun k hk => h _ (by omega) (by omega)]
    simp
theorem At.word {w : World} {g : Nat} {p : Nat → Bool} (hA : At w g p) (q : Nat → Bool) (j : Nat) (hj : j < 4) (h : ∀ c, c < 256 → c / 64 ≠ j → p c = q c) (v : Value) (hv : v = .int .u64 ((wd q (64 * j) 64 : Nat) : Int)) : At (w.setCell ⟨g, j, none⟩ v) g q :=
  (heap_setCell_same w g j _ _ v hA).trans (by rw [cl_set p q j hj h v hv])
theorem At.apart {w : World} {g k j : Nat} {p : Nat → Bool} (hA : At w g p) (v : Value) (hk : g ≠ k) : At (w.setCell ⟨k, j, none⟩ v) g p :=
  (Below.heap_setCell w ⟨k, j, none⟩ v g hk).trans hA
theorem At.got {w : World} {g : Nat} {p : Nat → Bool} (hA : At w g p) (j : Nat) (hj : j < 4) : w.cell? ⟨g, j, none⟩ = some (.int .u64 ((wd p (64 * j) 64 : Nat) : Int)) := (hA.cell j).trans (cl_get p j hj)
def ins (p : Nat → Bool) (c : Nat) : Nat → Bool := fun x => p x || x == c
theorem ins_other (p : Nat → Bool) (c : Nat) : ∀ x, x < 256 → x / 64 ≠ c / 64 → p x = ins p c x := by
  intro x _ hx
  have : ¬ x = c := fun e => hx (by rw [e])
  simp [ins, this]
theorem wd_ins_any (p : Nat → Bool) (c b n : Nat) (hp : p c = false) : wd (ins p c) b n = wd p b n + (if b ≤ c ∧ c < b + n then 2 ^ (c - b) else 0) := by
  induction n with
  | zero =>
    have : ¬ (b ≤ c ∧ c < b + 0) := by omega
    rw [if_neg this]
    rfl
  | succ n ih =>
    simp only [wd, ih]
    by_cases h : b + n = c
    · have h1 : ¬ (b ≤ c ∧ c < b + n) := by omega
      have h2 : b ≤ c ∧ c < b + (n + 1) := by omega
      have h3 : c - b = n := by omega
      rw [if_neg h1, if_pos h2, h, hp, h3]
      simp [ins]
    · have e : ins p c (b + n) = p (b + n) := by simp [ins, h]
      rw [e]
      by_cases h1 : b ≤ c ∧ c < b + n
      · have h2 : b ≤ c ∧ c < b + (n + 1) := by omega
        rw [if_pos h1, if_pos h2]
        omega
      · have h2 : ¬ (b ≤ c ∧ c < b + (n + 1)) := by omega
        rw [if_neg h1, if_neg h2]
        omega
theorem wd_ins_add (p : Nat → Bool) (c : Nat) (hp : p c = false) : wd p (64 * (c / 64)) 64 + 2 ^ (c % 64) = wd (ins p c) (64 * (c / 64)) 64 := by
  rw [wd_ins_any p c _ _ hp, if_pos (by omega)]
  congr 2
  omega
theorem ins_same (p : Nat → Bool) (c : Nat) (hp : p c = true) : ins p c = p := by
  funext x
  unfold ins
  by_cases h : x = c
  · simp [h, hp]
  · simp [h]
theorem At.words {w : World} {g : Nat} {p : Nat → Bool} (hA : At w g p) : (w.cell? ⟨g, 0, none⟩ = some (.int .u64 ((wd p 0 64 : Nat) : Int)) ∧ w.cell? ⟨g, 1, none⟩ = some (.int .u64 ((wd p 64 64 : Nat) : Int))) ∧
    (w.cell? ⟨g, 2, none⟩ = some (.int .u64 ((wd p 128 64 : Nat) : Int)) ∧ w.cell? ⟨g, 3, none⟩ = some (.int .u64 ((wd p 192 64 : Nat) : Int))) ∧ ∀ j, w.frozen? ⟨g, j, none⟩ = false :=
  ⟨⟨hA.got 0 (by decide), hA.got 1 (by decide)⟩, ⟨hA.got 2 (by decide), hA.got 3 (by decide)⟩, hA.free⟩
def put4 (w : World) (g : Nat) (q : Nat → Bool) : World :=
  ((((w.setCell ⟨g, 0, none⟩ (.int .u64 ((wd q 0 64 : Nat) : Int))).setCell ⟨g, 1, none⟩ (.int .u64 ((wd q 64 64 : Nat) : Int))).setCell ⟨g, 2, none⟩ (.int .u64 ((wd q 128 64 : Nat) : Int))).setCell ⟨g, 3, none⟩ (.int .u64 ((wd q 192 64 : Nat) : Int)))
theorem At.put4 {w : World} {g : Nat} {r : Nat → Bool} (hA : At w g r) (q : Nat → Bool) : At (put4 w g q) g q := by
  have h1 := heap_setCell_same w g 0 _ _ (.int .u64 ((wd q 0 64 : Nat) : Int)) hA
  have h2 := heap_setCell_same _ g 1 _ _ (.int .u64 ((wd q 64 64 : Nat) : Int)) h1
  have h3 := heap_setCell_same _ g 2 _ _ (.int .u64 ((wd q 128 64 : Nat) : Int)) h2
  have h4 := heap_setCell_same _ g 3 _ _ (.int .u64 ((wd q 192 64 : Nat) : Int)) h3
  refine Eq.trans h4 ?_
  simp [cl]
theorem below_put4 {B : Nat} {a w : World} (h : Below B a w) (g : Nat) (hB : B ≤ g) (q : Nat → Bool) : Below B a (put4 w g q) :=
  (((h.setCell (p := ⟨g, 0, none⟩) hB _).setCell (p := ⟨g, 1, none⟩) hB _).setCell (p := ⟨g, 2, none⟩) hB _).setCell (p := ⟨g, 3, none⟩) hB _
theorem At.put4_other {w : World} {g k : Nat} {p : Nat → Bool} (hA : At w g p) (hk : g ≠ k) (q : Nat → Bool) : At (Go.Proofs.YtfgcnknmiclfnaaDoor.put4 w k q) g p :=
  (((hA.apart _ hk).apart _ hk).apart _ hk).apart _ hk
theorem ret_cs {fn : Func} {t0 : Tmp} (hr : fn.results = #[.cell t0 41]) (tmps : Array Value) (w : World) (g : Nat) (q : Nat → Bool) (hp : tmps.getD t0 undef = .pointer (some ⟨g, 0, none⟩)) (hA : At w g q) :
    (results fn tmps).run Tryd.prog w = .ok (cs q) w :=
  results_cell_row hr tmps w g _ (cl q) (0, 0) _ hp hA Tryd.underlying41 rfl info_cs
end Go.Proofs.YtfgcnknmiclfnaaDoor
