/- CsMath, CsSmall, CsSets, CsRow, RtTree. -/
import Derived.Test.YtbjobbkipmkndaaDoorRows
import Derived.Lib.TrailingZeros
import Derived.WalkKit
import Derived.WalkSpells
import Derived.WalkLawsBesides
import Derived.Laws.Bits64b
import Derived.Laws.BitsAllLaws
import Derived.Shelf.Spec.TrailingZeros
import Derived.Below
import Derived.IntWalk
import Derived.BigGuardPart
import Derived.BigQuiet
import Derived.Lib.Hide
import Derived.Laws.CopyOwn
import Derived.Laws.Rows
import Derived.Laws.Tables
import Derived.Laws.World
import Derived.Laws.OwnMore
import Derived.Laws.AppendOwnNone
import Derived.OwnWalk
namespace Go.Proofs.YtbjobbkipmkndaaDoor
def wd (p : Nat → Bool) (b : Nat) : Nat → Nat
  | 0 => 0
  | n + 1 => wd p b n + (if p (b + n) then 2 ^ n else 0)
theorem wd_lt (p : Nat → Bool) (b n : Nat) : wd p b n < 2 ^ n := by
  induction n with
  | zero => simp [wd]
  | succ n ih =>
    simp only [wd, Nat.pow_succ]
    split <;> omega
theorem wd_lt64 (p : Nat → Bool) (b : Nat) : wd p b 64 < 18446744073709551616 := wd_lt p b 64
theorem wd_bit (p : Nat → Bool) (b n k : Nat) : (wd p b n).testBit k = (decide (k < n) && p (b + k)) := by
  induction n with
  | zero => simp [wd]
  | succ n ih =>
    simp only [wd]
    have hlt := wd_lt p b n
    by_cases h : p (b + n) = true
    · rw [if_pos h, Nat.add_comm]
      by_cases h1 : k < n
      · rw [Nat.testBit_two_pow_add_gt h1, ih]
        simp [h1, Nat.lt_succ_of_lt h1]
      · by_cases h2 : k = n
        · subst h2
          rw [Nat.testBit_two_pow_add_eq, ih]
          simp [h]
        · have h3 : 2 ^ n + wd p b n < 2 ^ k := by
            have : 2 ^ (n + 1) ≤ 2 ^ k := Nat.pow_le_pow_right (by decide) (by omega)
            rw [Nat.pow_succ] at this
            omega
          rw [Nat.testBit_lt_two_pow h3]
          have h4 : ¬ k < n + 1 := by omega
          simp [h4]
    · rw [if_neg h, Nat.add_zero, ih]
      by_cases h1 : k < n
      · simp [h1, Nat.lt_succ_of_lt h1]
      · by_cases h2 : k = n
        · subst h2
          simp at h
          simp [h]
        · have h4 : ¬ k < n + 1 := by omega
          simp [h1, h4]
theorem wd_congr (p q : Nat → Bool) (b n : Nat) (h : ∀ k, k < n → p (b + k) = q (b + k)) : wd p b n = wd q b n := by
  apply Nat.eq_of_testBit_eq
  intro i
  rw [wd_bit, wd_bit]
  by_cases hi : i < n
  · rw [h i hi]
  · simp [hi]
theorem wd_inj (p q : Nat → Bool) (b n : Nat) (h : wd p b n = wd q b n) : ∀ k, k < n → p (b + k) = q (b + k) := by
  intro k hk
  have := congrArg (fun x => x.testBit k) h
  simpa [wd_bit, hk] using this
theorem wd_none (b n : Nat) : wd (fun _ => false) b n = 0 := by
  induction n with
  | zero => rfl
  | succ n ih => simp [wd, ih]
theorem wd_shift (p : Nat → Bool) (c : Nat) : wd p (64 * (c / 64)) 64 / 2 ^ (c % 64) % 2 = (p c).toNat := by
  have h := wd_bit p (64 * (c / 64)) 64 (c % 64)
  have e : 64 * (c / 64) + c % 64 = c := by omega
  have h1 : c % 64 < 64 := by omega
  rw [e] at h
  simp only [h1, decide_true, Bool.true_and] at h
  rw [← Nat.toNat_testBit, h]
def toP (x0 x1 x2 x3 : Nat) (c : Nat) : Bool := if c < 64 then x0.testBit c else if c < 128 then x1.testBit (c - 64) else if c < 192 then x2.testBit (c - 128) else x3.testBit (c - 192)
theorem wd_of (x : Nat) (hx : x < 2 ^ 64) (p : Nat → Bool) (b : Nat) (h : ∀ k, k < 64 → p (b + k) = x.testBit k) : wd p b 64 = x := by
  apply Nat.eq_of_testBit_eq
  intro i
  rw [wd_bit]
  by_cases hi : i < 64
  · simp [hi, h i hi]
  · have : x.testBit i = false := Nat.testBit_lt_two_pow (Nat.lt_of_lt_of_le hx (Nat.pow_le_pow_right (by decide) (by omega)))
    simp [hi, this]
theorem toP0 (x0 x1 x2 x3 : Nat) (h : x0 < 2 ^ 64) : wd (toP x0 x1 x2 x3) 0 64 = x0 := wd_of x0 h _ _ fun k hk => by
  unfold toP
  rw [if_pos (by omega), Nat.zero_add]
theorem toP1 (x0 x1 x2 x3 : Nat) (h : x1 < 2 ^ 64) : wd (toP x0 x1 x2 x3) 64 64 = x1 := wd_of x1 h _ _ fun k hk => by
  unfold toP
  rw [if_neg (by omega), if_pos (by omega), Nat.add_sub_cancel_left]
theorem toP2 (x0 x1 x2 x3 : Nat) (h : x2 < 2 ^ 64) : wd (toP x0 x1 x2 x3) 128 64 = x2 := wd_of x2 h _ _ fun k hk => by
  unfold toP
  rw [if_neg (by omega), if_neg (by omega), if_pos (by omega), Nat.add_sub_cancel_left]
theorem toP3 (x0 x1 x2 x3 : Nat) (h : x3 < 2 ^ 64) : wd (toP x0 x1 x2 x3) 192 64 = x3 := wd_of x3 h _ _ fun k hk => by
  unfold toP
  rw [if_neg (by omega), if_neg (by omega), if_neg (by omega), Nat.add_sub_cancel_left]
def f1 (b : Nat) : Nat := (b / 2 &&& 85) + (b &&& 85)
def f2 (b : Nat) : Nat := (b / 4 &&& 51) + (b &&& 51)
def f3 (b : Nat) : Nat := (b / 16 + b) &&& 15
def h1 (x : Nat) : Nat := (x / 2 &&& 6148914691236517205) + (x &&& 6148914691236517205)
def h2 (x : Nat) : Nat := (x / 4 &&& 3689348814741910323) + (x &&& 3689348814741910323)
def h3 (x : Nat) : Nat := (x / 16 + x) &&& 1085102592571150095
end Go.Proofs.YtbjobbkipmkndaaDoor
namespace Go.Proofs.YtbjobbkipmkndaaDoor
open Go.RowKit
theorem pow_lt64 (c : Nat) : 2 ^ (c % 64) < 18446744073709551616 := by
  have : 2 ^ (c % 64) < 2 ^ 64 := Nat.pow_lt_pow_right (by decide) (by omega)
  simpa using this
theorem pow_cast (c : Nat) : IntKind.u64.wrap ((2 : Int) ^ (c % 64)) = ((2 ^ (c % 64) : Nat) : Int) := by
  have h := pow_lt64 c
  rw [IntKind.wrap_u64, show ((2 : Int) ^ (c % 64)) = ((2 ^ (c % 64) : Nat) : Int) by simp]
  generalize 2 ^ (c % 64) = y at h ⊢
  omega
theorem and64 (a m : Nat) (ha : a < 18446744073709551616) (hm : m < 18446744073709551616) : bits BinOp.and IntKind.u64 (a : Int) (m : Int) = ((a &&& m : Nat) : Int) := bits_and_u64_nat a m ha hm
theorem add64 (a b : Nat) (h : a + b < 18446744073709551616) : IntKind.u64.wrap ((a : Int) + (b : Int)) = ((a + b : Nat) : Int) := by
  rw [IntKind.wrap_u64]
  omega
end Go.Proofs.YtbjobbkipmkndaaDoor
namespace Go.Proofs.YtbjobbkipmkndaaDoor
open Go.RowKit
def cl (p : Nat → Bool) : Array Value := #[.int .u64 (wd p 0 64 : Nat), .int .u64 (wd p 64 64 : Nat), .int .u64 (wd p 128 64 : Nat), .int .u64 (wd p 192 64 : Nat)]
def cs (p : Nat → Bool) : Value := .agg (cl p)
theorem below_drewN {B : Nat} {a w : World} (h : Below B a w) (n : Nat) : Below B a (w.drewN n) := by
  induction n generalizing w with
  | zero => exact h
  | succ n ih => exact (ih h).drew
theorem wd_base (p : Nat → Bool) (c k : Nat) (h : c / 64 = k) (x b : Nat) (hb : b = 64 * k) (hx : x = wd p b 64) : x = wd p (64 * (c / 64)) 64 := by
  rw [h, hx, hb]
theorem shr_test (p : Nat → Bool) (c x : Nat) (hx : x = wd p (64 * (c / 64)) 64) : (bits BinOp.and IntKind.u64 ((x : Int) / (2 : Int) ^ (c % 64)) 1 == 1) = p c := by
  have hm := wd_shift p c
  rw [← hx] at hm
  have hlt : x < 18446744073709551616 := by rw [hx]; exact wd_lt64 _ _
  have e : (x : Int) / (2 : Int) ^ (c % 64) = ((x / 2 ^ (c % 64) : Nat) : Int) := by simp
  have l2 : x / 2 ^ (c % 64) < 18446744073709551616 := Nat.lt_of_le_of_lt (Nat.div_le_self _ _) hlt
  have := and64 (x / 2 ^ (c % 64)) 1 l2 (by decide)
  rw [Nat.and_one_is_mod, hm] at this
  have t2 : bits BinOp.and IntKind.u64 ((x / 2 ^ (c % 64) : Nat) : Int) 1 = (((p c).toNat : Nat) : Int) := this
  rw [e, t2]
  cases p c <;> rfl
theorem rhas_any (p : Nat → Bool) (c : Nat) (hc : c < 256) (w : World) : Calls Tryd.prog 45 #[cs p, .int .u8 c] w fun e w' => e = .returned (.bool (p c)) ∧ Below w.heap.size w w' := by
  unfold cs cl
  have h4 : c / 64 = 0 ∨ c / 64 = 1 ∨ c / 64 = 2 ∨ c / 64 = 3 := by omega
  rcases h4 with h | h | h | h
  · have hq : (c : Int) / 64 = 0 := by omega
    have HT := Lib.hid (shr_test p c _ (wd_base p c _ h _ 0 rfl rfl))
    go_enter Tryd.func45, Tryd.ntmps45
    go_wp2
    go_ret
    exact ⟨congrArg (fun b => Ending.returned (Value.bool b)) HT.out, (Below.refl _ _).alloc (Nat.le_refl _) _⟩
  · have hq : (c : Int) / 64 = 1 := by omega
    have HT := Lib.hid (shr_test p c _ (wd_base p c _ h _ 64 rfl rfl))
    go_enter Tryd.func45, Tryd.ntmps45
    go_wp2
    go_ret
    exact ⟨congrArg (fun b => Ending.returned (Value.bool b)) HT.out, (Below.refl _ _).alloc (Nat.le_refl _) _⟩
  · have hq : (c : Int) / 64 = 2 := by omega
    have HT := Lib.hid (shr_test p c _ (wd_base p c _ h _ 128 rfl rfl))
    go_enter Tryd.func45, Tryd.ntmps45
    go_wp2
    go_ret
    exact ⟨congrArg (fun b => Ending.returned (Value.bool b)) HT.out, (Below.refl _ _).alloc (Nat.le_refl _) _⟩
  · have hq : (c : Int) / 64 = 3 := by omega
    have HT := Lib.hid (shr_test p c _ (wd_base p c _ h _ 192 rfl rfl))
    go_enter Tryd.func45, Tryd.ntmps45
    go_wp2
    go_ret
    exact ⟨congrArg (fun b => Ending.returned (Value.bool b)) HT.out, (Below.refl _ _).alloc (Nat.le_refl _) _⟩
end Go.Proofs.YtbjobbkipmkndaaDoor
namespace Go.Proofs.YtbjobbkipmkndaaDoor
open Go.RowKit
theorem cl_size (p : Nat → Bool) : (cl p).size = 4 := rfl
theorem info_cs : (Tryd.prog.info? 31).map (·.size) = some 4 := by kernel_rfl
def At (w : World) (g : Nat) (p : Nat → Bool) : Prop := w.heap[g]? = some (.cells (cl p) 31 (0, 0))
theorem At.lt {w : World} {g : Nat} {p : Nat → Bool} (h : At w g p) : g < w.heap.size := (Array.getElem?_eq_some_iff.1 h).1
theorem At.new (w : World) (p : Nat → Bool) : At (w.alloc (.cells (cl p) 31)) w.heap.size p := heap_alloc_new w _
theorem At.alloc {w : World} {g : Nat} {p : Nat → Bool} (h : At w g p) (o : Obj) : At (w.alloc o) g p := (Below.heap_alloc w o g h.lt).trans h
theorem At.below {w w' : World} {g : Nat} {p : Nat → Bool} (h : At w g p) {B : Nat} (hb : Below B w w') (hB : g < B) : At w' g p := (hb.block g hB).trans h
theorem At.set {w : World} {g : Nat} {p : Nat → Bool} (h : At w g p) (q : Nat → Bool) : At (w.setRow g (cl q)) g q := setRow_heap w g _ _ _ _ h
theorem At.cell {w : World} {g : Nat} {p : Nat → Bool} (h : At w g p) (j : Nat) : w.cell? ⟨g, j, none⟩ = (cl p)[j]? := cell_of_row w g j _ _ _ h
theorem At.free {w : World} {g : Nat} {p : Nat → Bool} (h : At w g p) (j : Nat) : w.frozen? ⟨g, j, none⟩ = false := frozen_of_row w g j _ _ h
theorem cl_zero : (#[.int .u64 0, .int .u64 0, .int .u64 0, .int .u64 0] : Array Value) = cl (fun _ => false) := by
  simp [cl, wd_none]
theorem cl_get (p : Nat → Bool) (j : Nat) (hj : j < 4) : (cl p)[j]? = some (.int .u64 ((wd p (64 * j) 64 : Nat) : Int)) := by
  match j, hj with
  | 0, _ => rfl
  | 1, _ => rfl
  | 2, _ => rfl
  | 3, _ => rfl
theorem cl_set (p q : Nat → Bool) (j : Nat) (hj : j < 4) (h : ∀ c, c < 256 → c / 64 ≠ j → p c = q c) (v : Value) (hv : v = .int .u64 ((wd q (64 * j) 64 : Nat) : Int)) : (cl p).setIfInBounds j v = cl q := by
  subst hv
  match j, hj with
  | 0, _ =>
    unfold cl
    rw [wd_congr p q 64 64 fun k hk => h _ (by omega) (by omega), wd_congr p q 128 64 fun k hk => h _ (by omega) (by omega), wd_congr p q 192 64 fun k hk => h _ (by omega) (by omega)]
    simp
  | 1, _ =>
    unfold cl
    rw [wd_congr p q 0 64 fun k hk => h _ (by omega) (by omega), wd_congr p q 128 64 fun k hk => h _ (by omega) (by omega), wd_congr p q 192 64 fun k hk => h _ (by omega) (by omega)]
    simp
  | 2, _ =>
    unfold cl
    rw [wd_congr p q 0 64 fun k hk => h _ (by omega) (by omega), wd_congr p q 64 64 fun k hk => h _ (by omega) (by omega), wd_congr p q 192 64 fun k hk => h _ (by omega) (by omega)]
    simp
  | 3, _ =>
    unfold cl
    rw [wd_congr p q 0 64 fun k hk => h _ (by omega) (by omega), wd_congr p q 64 64 fun k hk => h _ (by omega) (by omega), wd_congr p q 128 64 fun k hk => h _ (by omega) (by omega)]
    simp
theorem At.word {w : World} {g : Nat} {p : Nat → Bool} (hA : At w g p) (q : Nat → Bool) (j : Nat) (hj : j < 4) (h : ∀ c, c < 256 → c / 64 ≠ j → p c = q c) (v : Value) (hv : v = .int .u64 ((wd q (64 * j) 64 : Nat) : Int)) : At (w.setCell ⟨g, j, none⟩ v) g q :=
  (heap_setCell_same w g j _ _ v hA).trans (by rw [cl_set p q j hj h v hv])
theorem At.apart {w : World} {g k j : Nat} {p : Nat → Bool} (hA : At w g p) (v : Value) (hk : g ≠ k) : At (w.setCell ⟨k, j, none⟩ v) g p :=
  (Below.heap_setCell w ⟨k, j, none⟩ v g hk).trans hA
theorem At.got {w : World} {g : Nat} {p : Nat → Bool} (hA : At w g p) (j : Nat) (hj : j < 4) : w.cell? ⟨g, j, none⟩ = some (.int .u64 ((wd p (64 * j) 64 : Nat) : Int)) := (hA.cell j).trans (cl_get p j hj)
def ins (p : Nat → Bool) (c : Nat) : Nat → Bool := fun x => p x || x == c
theorem ins_other (p : Nat → Bool) (c : Nat) : ∀ x, x < 256 → x / 64 ≠ c / 64 → p x = ins p c x := by
  intro x _ hx
  have : ¬ x = c := fun e => hx (by rw [e])
  simp [ins, this]
theorem wd_ins_any (p : Nat → Bool) (c b n : Nat) (hp : p c = false) : wd (ins p c) b n = wd p b n + (if b ≤ c ∧ c < b + n then 2 ^ (c - b) else 0) := by
  induction n with
  | zero =>
    have : ¬ (b ≤ c ∧ c < b + 0) := by omega
    rw [if_neg this]
    rfl
  | succ n ih =>
    simp only [wd, ih]
    by_cases h : b + n = c
    · have h1 : ¬ (b ≤ c ∧ c < b + n) := by omega
      have h2 : b ≤ c ∧ c < b + (n + 1) := by omega
      have h3 : c - b = n := by omega
      rw [if_neg h1, if_pos h2, h, hp, h3]
      simp [ins]
    · have e : ins p c (b + n) = p (b + n) := by simp [ins, h]
      rw [e]
      by_cases h1 : b ≤ c ∧ c < b + n
      · have h2 : b ≤ c ∧ c < b + (n + 1) := by omega
        rw [if_pos h1, if_pos h2]
        omega
      · have h2 : ¬ (b ≤ c ∧ c < b + (n + 1)) := by omega
        rw [if_neg h1, if_neg h2]
        omega
theorem wd_ins_add (p : Nat → Bool) (c : Nat) (hp : p c = false) : wd p (64 * (c / 64)) 64 + 2 ^ (c % 64) = wd (ins p c) (64 * (c / 64)) 64 := by
  rw [wd_ins_any p c _ _ hp, if_pos (by omega)]
  congr 2
  omega
theorem ins_same (p : Nat → Bool) (c : Nat) (hp : p c = true) : ins p c = p := by
  funext x
  unfold ins
  by_cases h : x = c
  · simp [h, hp]
  · simp [h]
theorem At.words {w : World} {g : Nat} {p : Nat → Bool} (hA : At w g p) : (w.cell? ⟨g, 0, none⟩ = some (.int .u64 ((wd p 0 64 : Nat) : Int)) ∧ w.cell? ⟨g, 1, none⟩ = some (.int .u64 ((wd p 64 64 : Nat) : Int))) ∧
    (w.cell? ⟨g, 2, none⟩ = some (.int .u64 ((wd p 128 64 : Nat) : Int)) ∧ w.cell? ⟨g, 3, none⟩ = some (.int .u64 ((wd p 192 64 : Nat) : Int))) ∧ ∀ j, w.frozen? ⟨g, j, none⟩ = false :=
  ⟨⟨hA.got 0 (by decide), hA.got 1 (by decide)⟩, ⟨hA.got 2 (by decide), hA.got 3 (by decide)⟩, hA.free⟩
def put4 (w : World) (g : Nat) (q : Nat → Bool) : World :=
  ((((w.setCell ⟨g, 0, none⟩ (.int .u64 ((wd q 0 64 : Nat) : Int))).setCell ⟨g, 1, none⟩ (.int .u64 ((wd q 64 64 : Nat) : Int))).setCell ⟨g, 2, none⟩ (.int .u64 ((wd q 128 64 : Nat) : Int))).setCell ⟨g, 3, none⟩ (.int .u64 ((wd q 192 64 : Nat) : Int)))
theorem At.put4 {w : World} {g : Nat} {r : Nat → Bool} (hA : At w g r) (q : Nat → Bool) : At (put4 w g q) g q := by
  have h1 := heap_setCell_same w g 0 _ _ (.int .u64 ((wd q 0 64 : Nat) : Int)) hA
  have h2 := heap_setCell_same _ g 1 _ _ (.int .u64 ((wd q 64 64 : Nat) : Int)) h1
  have h3 := heap_setCell_same _ g 2 _ _ (.int .u64 ((wd q 128 64 : Nat) : Int)) h2
  have h4 := heap_setCell_same _ g 3 _ _ (.int .u64 ((wd q 192 64 : Nat) : Int)) h3
  refine Eq.trans h4 ?_
  simp [cl]
theorem below_put4 {B : Nat} {a w : World} (h : Below B a w) (g : Nat) (hB : B ≤ g) (q : Nat → Bool) : Below B a (put4 w g q) :=
  (((h.setCell (p := ⟨g, 0, none⟩) hB _).setCell (p := ⟨g, 1, none⟩) hB _).setCell (p := ⟨g, 2, none⟩) hB _).setCell (p := ⟨g, 3, none⟩) hB _
theorem At.put4_other {w : World} {g k : Nat} {p : Nat → Bool} (hA : At w g p) (hk : g ≠ k) (q : Nat → Bool) : At (Go.Proofs.YtbjobbkipmkndaaDoor.put4 w k q) g p :=
  (((hA.apart _ hk).apart _ hk).apart _ hk).apart _ hk
theorem ret_cs {fn : Func} {t0 : Tmp} (hr : fn.results = #[.cell t0 31]) (tmps : Array Value) (w : World) (g : Nat) (q : Nat → Bool) (hp : tmps.getD t0 undef = .pointer (some ⟨g, 0, none⟩)) (hA : At w g q) :
    (results fn tmps).run Tryd.prog w = .ok (cs q) w :=
  results_cell_row hr tmps w g _ (cl q) (0, 0) _ hp hA Tryd.underlying31 rfl info_cs
end Go.Proofs.YtbjobbkipmkndaaDoor
set_option linter.unusedVariables false
namespace Go.Proofs.YtbjobbkipmkndaaDoor
open Go.RowKit
inductive F where
  | nil : F
  | cons (op : Int) (st : Nat → Bool) (lo hi g : Int) (args rest : F) : F
structure TN where
  op : Int
  st : Nat → Bool
  lo : Int
  hi : Int
  g : Int
  args : F
def F.len : F → Nat
  | .nil => 0
  | .cons _ _ _ _ _ _ r => r.len + 1
def F.push : F → TN → F
  | .nil, t => .cons t.op t.st t.lo t.hi t.g t.args .nil
  | .cons o s l h g a r, t => .cons o s l h g a (r.push t)
theorem F.len_push (f : F) (t : TN) : (f.push t).len = f.len + 1 := by
  induction f with
  | nil => rfl
  | cons o s l h g a r _ ih => show (r.push t).len + 1 = r.len + 1 + 1; rw [ih]
def noSet : Nat → Bool := fun _ => false
def T0 : TN := ⟨0, noSet, 0, 0, 0, .nil⟩
def F.fits : F → Prop
  | .nil => True
  | .cons o _ l h g a r => ((-9223372036854775808 ≤ o ∧ o ≤ 9223372036854775807) ∧ (-9223372036854775808 ≤ l ∧ l ≤ 9223372036854775807) ∧ (-9223372036854775808 ≤ h ∧ h ≤ 9223372036854775807) ∧ (-9223372036854775808 ≤ g ∧ g ≤ 9223372036854775807)) ∧ a.len ≤ maxLen ∧ a.fits ∧ r.fits
def F.nth : F → Nat → TN
  | .nil, _ => T0
  | .cons o s l h g a _, 0 => ⟨o, s, l, h, g, a⟩
  | .cons _ _ _ _ _ _ r, i + 1 => r.nth i
def F.drop : F → Nat → F
  | f, 0 => f
  | .nil, _ + 1 => .nil
  | .cons _ _ _ _ _ _ r, n + 1 => r.drop n
theorem F.drop_step : ∀ (f : F) (k : Nat), k < f.len → f.drop k = .cons (f.nth k).op (f.nth k).st (f.nth k).lo (f.nth k).hi (f.nth k).g (f.nth k).args (f.drop (k + 1))
  | .nil, _, h => by cases h
  | .cons o s l h g a r, 0, _ => by
    have : r.drop 0 = r := by cases r <;> rfl
    show F.cons o s l h g a r = F.cons o s l h g a (r.drop 0)
    rw [this]
  | .cons o s l h g a r, k + 1, hk => F.drop_step r k (by have : k + 1 < r.len + 1 := hk; omega)
theorem F.drop_len : ∀ f : F, f.drop f.len = .nil
  | .nil => rfl
  | .cons o s l h g a r => F.drop_len r
theorem F.fits_nth : ∀ {f : F} (k : Nat), f.fits → k < f.len → (f.nth k).args.len ≤ maxLen ∧ (f.nth k).args.fits
  | .nil, _, _, h => by cases h
  | .cons o s l h g a r, 0, hf, _ => ⟨hf.2.1, hf.2.2.1⟩
  | .cons o s l h g a r, k + 1, hf, hk => F.fits_nth (f := r) k hf.2.2.2 (by have : k + 1 < r.len + 1 := hk; omega)
structure Only (B : Nat) (w w' : World) : Prop where
  os : w'.os = w.os
  tape : w'.tape = w.tape
  output : w'.output = w.output
  size : w.heap.size ≤ w'.heap.size
  block : ∀ k, k < w.heap.size → k ≠ B → w'.heap[k]? = w.heap[k]?
theorem Only.refl (B : Nat) (w : World) : Only B w w := ⟨rfl, rfl, rfl, Nat.le_refl _, fun _ _ _ => rfl⟩
theorem Only.of_below {B : Nat} {w w' : World} (h : Below w.heap.size w w') : Only B w w' := ⟨h.os, h.tape, h.output, h.size, fun k hk _ => h.block k hk⟩
theorem Only.trans {B : Nat} {a b c : World} (h : Only B a b) (k : Only B b c) : Only B a c :=
  ⟨k.os.trans h.os, k.tape.trans h.tape, k.output.trans h.output, Nat.le_trans h.size k.size, fun g hg hn => (k.block g (Nat.lt_of_lt_of_le hg h.size) hn).trans (h.block g hg hn)⟩
theorem Only.next {B : Nat} {a b c : World} (h : Only B a b) (k : Below b.heap.size b c) : Only B a c := h.trans (.of_below k)
theorem Only.put {B : Nat} {a w : World} (h : Only B a w) (j : Nat) (v : Value) : Only B a (w.setCell ⟨B, j, none⟩ v) :=
  ⟨h.os, h.tape, h.output, by simpa [World.setCell] using h.size, fun k hk hn => (Below.heap_setCell w ⟨B, j, none⟩ v k hn).trans (h.block k hk hn)⟩
theorem Only.drew {B : Nat} {a w : World} (h : Only B a w) : Only B a w.drew := ⟨h.os, h.tape, h.output, h.size, h.block⟩
theorem add_at (g j : Nat) : (⟨g, 0, none⟩ : Addr).add j = ⟨g, j, none⟩ := by unfold Addr.add; split <;> simp_all
theorem keep_cell {w w' : World} (hb : Below w.heap.size w w') {a : Addr} {v : Value} (h : w.cell? a = some v) : w'.cell? a = some v := by
  rw [hb.cell (World.block_lt_of_cell? w _ h), h]
def rowV (op : Int) (st : Nat → Bool) (lo hi g : Int) (sv : Value) : List Value := [.int .i64 op, .int .u64 (wd st 0 64 : Nat), .int .u64 (wd st 64 64 : Nat), .int .u64 (wd st 128 64 : Nat), .int .u64 (wd st 192 64 : Nat), .int .i64 lo, .int .i64 hi, .int .i64 g, sv]
def FV (w : World) (S : Nat → Prop) : F → List Value → Prop
  | .nil, xs => xs = []
  | .cons o s l h g a r, xs => ∃ sv ys zs, xs = rowV o s l h g sv ++ ys ∧ (∃ ad cap, sv = .slice ad a.len cap ∧ a.len ≤ cap ∧ FV w S a zs ∧ (a.len = 0 ∨ ∃ b i, ad = some ⟨b, i, none⟩ ∧ S b ∧ b < w.heap.size ∧ ∀ j u, zs[j]? = some u → w.cell? ⟨b, i + j, none⟩ = some u)) ∧ FV w S r ys
def SV (w : World) (S : Nat → Prop) (a : F) (sv : Value) : Prop := ∃ zs ad cap, sv = .slice ad a.len cap ∧ a.len ≤ cap ∧ FV w S a zs ∧ (a.len = 0 ∨ ∃ b i, ad = some ⟨b, i, none⟩ ∧ S b ∧ b < w.heap.size ∧ ∀ j u, zs[j]? = some u → w.cell? ⟨b, i + j, none⟩ = some u)
def TV (w : World) (S : Nat → Prop) (t : TN) (v : Value) : Prop := ∃ sv, v = .agg (rowV t.op t.st t.lo t.hi t.g sv).toArray ∧ SV w S t.args sv
theorem FV.cons {w : World} {S : Nat → Prop} {o l h g : Int} {s : Nat → Bool} {a r : F} {xs : List Value} : FV w S (.cons o s l h g a r) xs ↔ ∃ sv ys, xs = rowV o s l h g sv ++ ys ∧ SV w S a sv ∧ FV w S r ys := by
  constructor
  · rintro ⟨sv, ys, zs, e, ⟨ad, cap, h1, h2, h3, h4⟩, h5⟩
    exact ⟨sv, ys, e, ⟨zs, ad, cap, h1, h2, h3, h4⟩, h5⟩
  · rintro ⟨sv, ys, e, ⟨zs, ad, cap, h1, h2, h3, h4⟩, h5⟩
    exact ⟨sv, ys, zs, e, ⟨ad, cap, h1, h2, h3, h4⟩, h5⟩
theorem SV.nil (w : World) (S : Nat → Prop) : SV w S .nil (.slice none 0 0) := ⟨[], none, 0, rfl, Nat.le_refl _, rfl, .inl rfl⟩
def Afar (S T : Nat → Prop) (w w' : World) : Prop := w.heap.size ≤ w'.heap.size ∧ ∀ b, S b → b < w.heap.size → T b ∧ w'.heap[b]? = w.heap[b]?
theorem cell_same {w w' : World} {b i : Nat} (h : w'.heap[b]? = w.heap[b]?) : w'.cell? ⟨b, i, none⟩ = w.cell? ⟨b, i, none⟩ := by
  unfold World.cell?
  simp only [h]
theorem FV.far {w w' : World} {S T : Nat → Prop} (hf : Afar S T w w') : ∀ {f : F} {xs : List Value}, FV w S f xs → FV w' T f xs := by
  intro f
  induction f with
  | nil => intro xs h; exact h
  | cons o s l h g a r iha ihr =>
    rintro xs ⟨sv, ys, zs, e, ⟨ad, cap, h1, h2, h3, h4⟩, h5⟩
    refine ⟨sv, ys, zs, e, ⟨ad, cap, h1, h2, iha h3, ?_⟩, ihr h5⟩
    rcases h4 with h4 | ⟨b, i, h6, h7, h8, h9⟩
    · exact .inl h4
    · exact .inr ⟨b, i, h6, (hf.2 b h7 h8).1, Nat.lt_of_lt_of_le h8 hf.1, fun j u hu => (cell_same (hf.2 b h7 h8).2).trans (h9 j u hu)⟩
theorem SV.far {w w' : World} {S T : Nat → Prop} {a : F} {sv : Value} (h : SV w S a sv) (hf : Afar S T w w') : SV w' T a sv := by
  obtain ⟨zs, ad, cap, h1, h2, h3, h4⟩ := h
  refine ⟨zs, ad, cap, h1, h2, h3.far hf, ?_⟩
  rcases h4 with h4 | ⟨b, i, h6, h7, h8, h9⟩
  · exact .inl h4
  · exact .inr ⟨b, i, h6, (hf.2 b h7 h8).1, Nat.lt_of_lt_of_le h8 hf.1, fun j u hu => (cell_same (hf.2 b h7 h8).2).trans (h9 j u hu)⟩
theorem TV.far {w w' : World} {S T : Nat → Prop} {t : TN} {v : Value} (h : TV w S t v) (hf : Afar S T w w') : TV w' T t v := by
  obtain ⟨sv, e, h⟩ := h
  exact ⟨sv, e, h.far hf⟩
def Frm (n : Nat) : Nat → Prop := fun b => n ≤ b
theorem Afar.refl (S : Nat → Prop) (w : World) : Afar S S w w := ⟨Nat.le_refl _, fun _ h _ => ⟨h, rfl⟩⟩
theorem Afar.trans {S T U : Nat → Prop} {a b c : World} (h : Afar S T a b) (k : Afar T U b c) : Afar S U a c := ⟨Nat.le_trans h.1 k.1, fun g h1 h2 => ⟨(k.2 g (h.2 g h1 h2).1 (Nat.lt_of_lt_of_le h2 h.1)).1, (k.2 g (h.2 g h1 h2).1 (Nat.lt_of_lt_of_le h2 h.1)).2.trans (h.2 g h1 h2).2⟩⟩
theorem Afar.only {B n m : Nat} {w w' : World} (h : Only B w w') (hB : B < n) (hm : m ≤ n) : Afar (Frm n) (Frm m) w w' := ⟨h.size, fun b h1 h2 => ⟨Nat.le_trans hm h1, h.block b h2 (by have : n ≤ b := h1; omega)⟩⟩
theorem Afar.below {S : Nat → Prop} {w w' : World} (h : Below w.heap.size w w') : Afar S S w w' := ⟨h.size, fun b h1 h2 => ⟨h1, h.block b h2⟩⟩
theorem Afar.frm {n m : Nat} {w w' : World} (h : Below w.heap.size w w') (hm : m ≤ n) : Afar (Frm n) (Frm m) w w' := ⟨h.size, fun b h1 h2 => ⟨Nat.le_trans hm h1, h.block b h2⟩⟩
theorem FV.push {w : World} {S : Nat → Prop} {t : TN} {sv : Value} (ht : SV w S t.args sv) : ∀ {f : F} {xs : List Value}, FV w S f xs → FV w S (f.push t) (xs ++ rowV t.op t.st t.lo t.hi t.g sv) := by
  intro f
  induction f with
  | nil =>
    intro xs h
    have h : xs = [] := h
    subst h
    exact FV.cons.2 ⟨sv, [], by simp, ht, rfl⟩
  | cons o s l h g a r iha ihr =>
    intro xs hx
    obtain ⟨sv2, ys, e, h1, h2⟩ := FV.cons.1 hx
    exact FV.cons.2 ⟨sv2, ys ++ rowV t.op t.st t.lo t.hi t.g sv, by rw [e, List.append_assoc], h1, ihr h2⟩
theorem FV.len {w : World} {S : Nat → Prop} : ∀ {f : F} {xs : List Value}, FV w S f xs → xs.length = f.len * 9 := by
  intro f
  induction f with
  | nil => intro xs h; have h : xs = [] := h; subst h; rfl
  | cons o s l h g a r iha ihr =>
    intro xs hx
    obtain ⟨sv2, ys, e, h1, h2⟩ := FV.cons.1 hx
    rw [e, List.length_append, ihr h2]
    show 9 + r.len * 9 = (r.len + 1) * 9
    omega
theorem SV.own {w : World} {S : Nat → Prop} {f : F} {xs : List Value} {v : Value} {E : TypeId} {b0 : Nat} (h : FV w S f xs) (hS : ∀ g, v.ownBlock = some g → S g) (ho : w.ownsRow b0 E 9 v f.len xs) : SV w S f v := by
  obtain ⟨h1, h2⟩ := id ho
  rcases h2 with ⟨rfl, h0⟩ | ⟨g, cap, cur, rfl, hB, hg, hn, r⟩
  · exact ⟨xs, none, 0, by rw [h0], by omega, h, .inl h0⟩
  · exact ⟨xs, some ⟨g, 0, none⟩, cap, rfl, hn, h, .inr ⟨g, 0, rfl, hS g rfl, (Array.getElem?_eq_some_iff.1 hg).1, fun j u hu => by
      have := ho.cells (g := g) rfl j u hu
      rw [add_at] at this
      rw [Nat.zero_add]
      exact this⟩⟩
theorem FV.nth {w : World} {S : Nat → Prop} : ∀ {f : F} {xs : List Value} (k : Nat), FV w S f xs → k < f.len → ∃ sv, SV w S (f.nth k).args sv ∧ ∀ j u, (rowV (f.nth k).op (f.nth k).st (f.nth k).lo (f.nth k).hi (f.nth k).g sv)[j]? = some u → xs[k * 9 + j]? = some u
  | .nil, xs, k, h, hk => by cases hk
  | .cons o s l h g a r, xs, k, hx, hk => by
    obtain ⟨sv, ys, e, h1, h2⟩ := FV.cons.1 hx
    subst e
    cases k with
    | zero =>
      refine ⟨sv, h1, fun j u hu => ?_⟩
      have hj : j < 9 := by
        have := (List.getElem?_eq_some_iff.1 hu).1
        exact this
      rw [Nat.zero_mul, Nat.zero_add, List.getElem?_append_left (by exact hj)]
      exact hu
    | succ k =>
      have hk2 : k < r.len := by have : k + 1 < r.len + 1 := hk; omega
      obtain ⟨sv2, h3, h4⟩ := FV.nth k h2 hk2
      refine ⟨sv2, h3, fun j u hu => ?_⟩
      rw [List.getElem?_append_right (by show 9 ≤ _; omega)]
      have : (k + 1) * 9 + j - (rowV o s l h g sv).length = k * 9 + j := by show (k + 1) * 9 + j - 9 = _; omega
      rw [this]
      exact h4 j u hu
theorem slice_form {w : World} {S : Nat → Prop} {a : F} {sv : Value} (h : SV w S a sv) : ∃ ad cap, sv = .slice ad a.len cap := by
  obtain ⟨_, ad, cap, e, _⟩ := h
  exact ⟨ad, cap, e⟩
theorem Afar.only_ne {S : Nat → Prop} {B : Nat} {w w' : World} (h : Only B w w') (hS : ∀ b, S b → b ≠ B) : Afar S S w w' := ⟨h.size, fun b h1 h2 => ⟨h1, h.block b h2 (hS b h1)⟩⟩
end Go.Proofs.YtbjobbkipmkndaaDoor
