/- A set as a row of memory: loads and stores of the whole of it, and of one word. -/
import Derived.Test.YtpfbpgbgedbalaaRows
import Derived.Test.YtpfbpgbgedbalaaCsSets
import Derived.Laws.CopyOwn
import Derived.Laws.Rows
import Derived.Laws.Tables
import Derived.Laws.World
namespace Go.Proofs.Ytpfbpgbgedbalaa
open Go.RowKit

theorem cl_size (p : Nat → Bool) : (cl p).size = 4 := rfl
theorem cl_one (p : Nat → Bool) : (cl p).all (·.oneCell') = true := by simp [cl, Value.oneCell']
theorem info_cs : (Try.prog.info? 25).map (·.size) = some 4 := by kernel_rfl

/-- Block g of the world holds the set p. -/
def At (w : World) (g : Nat) (p : Nat → Bool) : Prop := w.heap[g]? = some (.cells (cl p) 25 (0, 0))

theorem At.lt {w : World} {g : Nat} {p : Nat → Bool} (h : At w g p) : g < w.heap.size := (Array.getElem?_eq_some_iff.1 h).1
theorem At.new (w : World) (p : Nat → Bool) : At (w.alloc (.cells (cl p) 25)) w.heap.size p := heap_alloc_new w _
theorem At.alloc {w : World} {g : Nat} {p : Nat → Bool} (h : At w g p) (o : Obj) : At (w.alloc o) g p := (Below.heap_alloc w o g h.lt).trans h
theorem At.below {w w' : World} {g : Nat} {p : Nat → Bool} (h : At w g p) {B : Nat} (hb : Below B w w') (hB : g < B) : At w' g p := (hb.block g hB).trans h
theorem At.set {w : World} {g : Nat} {p : Nat → Bool} (h : At w g p) (q : Nat → Bool) : At (w.setRow g (cl q)) g q := setRow_heap w g _ _ _ _ h
theorem At.other {w : World} {g k : Nat} {p : Nat → Bool} (h : At w g p) (c : Array Value) (hk : g ≠ k) : At (w.setRow k c) g p := (setRow_other w k g c hk).trans h
theorem At.cell {w : World} {g : Nat} {p : Nat → Bool} (h : At w g p) (j : Nat) : w.cell? ⟨g, j, none⟩ = (cl p)[j]? := cell_of_row w g j _ _ _ h
theorem At.free {w : World} {g : Nat} {p : Nat → Bool} (h : At w g p) (j : Nat) : w.frozen? ⟨g, j, none⟩ = false := frozen_of_row w g j _ _ h

theorem load_cs (w : World) (g : Nat) (p : Nat → Bool) (h : At w g p) : (Instr.loadAt 25 (.pointer (some ⟨g, 0, none⟩))).run Try.prog w = .ok (cs p) w := by
  simp only [Instr.loadAt, Instr.sureAddr, Sem.run_bind, Sem.run_pure, Result.andThen]
  exact run_loadVar_row w g _ _ (cl p) (0, 0) _ h Try.underlying25 rfl info_cs

theorem store_cs (w : World) (g : Nat) (r p : Nat → Bool) (h : At w g r) : (Instr.storeAt 25 (.pointer (some ⟨g, 0, none⟩)) (cs p)).run Try.prog w = .ok () (w.setRow g (cl p)) := by
  simp only [Instr.storeAt, Instr.sureAddr, Sem.run_bind, Sem.run_pure, Result.andThen]
  exact run_storeVar_row w g _ _ (cl r) (cl p) h info_cs rfl (cl_one p)

theorem box_cs (w : World) (p : Nat → Bool) : (Instr.box 25 (cs p)).run Try.prog w = .ok (.pointer (some ⟨w.heap.size, 0, none⟩)) (w.alloc (.cells (cl p) 25)) := by
  simp only [Instr.box, newVar, Sem.run_bind, Sem.run_pure]
  rfl

theorem cl_zero : (#[.int .u64 0, .int .u64 0, .int .u64 0, .int .u64 0] : Array Value) = cl (fun _ => false) := by
  simp [cl, wd_none]
theorem alloc_cs (w : World) : (Instr.alloc 25 true (.tuple #[])).run Try.prog w = .ok (.pointer (some ⟨w.heap.size, 0, none⟩)) (w.alloc (.cells (cl fun _ => false) 25)) := by
  rw [← cl_zero]
  kernel_rfl

theorem cl_get (p : Nat → Bool) (j : Nat) (hj : j < 4) : (cl p)[j]? = some (.int .u64 ((wd p (64 * j) 64 : Nat) : Int)) := by
  match j, hj with
  | 0, _ => rfl
  | 1, _ => rfl
  | 2, _ => rfl
  | 3, _ => rfl
theorem cl_congr (p q : Nat → Bool) (h : ∀ c, c < 256 → p c = q c) : cl p = cl q := by
  unfold cl
  rw [wd_congr p q 0 64 fun k hk => h _ (by omega), wd_congr p q 64 64 fun k hk => h _ (by omega), wd_congr p q 128 64 fun k hk => h _ (by omega), wd_congr p q 192 64 fun k hk => h _ (by omega)]
theorem cs_congr (p q : Nat → Bool) (h : ∀ c, c < 256 → p c = q c) : cs p = cs q := by
  unfold cs
  rw [cl_congr p q h]
theorem cl_set (p q : Nat → Bool) (j : Nat) (hj : j < 4) (h : ∀ c, c < 256 → c / 64 ≠ j → p c = q c) (v : Value) (hv : v = .int .u64 ((wd q (64 * j) 64 : Nat) : Int)) : (cl p).setIfInBounds j v = cl q := by
  subst hv
  match j, hj with
  | 0, _ =>
    unfold cl
    rw [wd_congr p q 64 64 fun k hk => h _ (by omega) (by omega), wd_congr p q 128 64 fun k hk => h _ (by omega) (by omega), wd_congr p q 192 64 fun k hk => h _ (by omega) (by omega)]
    simp
  | 1, _ =>
    unfold cl
    rw [wd_congr p q 0 64 fun k hk => h _ (by omega) (by omega), wd_congr p q 128 64 fun k hk => h _ (by omega) (by omega), wd_congr p q 192 64 fun k hk => h _ (by omega) (by omega)]
    simp
  | 2, _ =>
    unfold cl
    rw [wd_congr p q 0 64 fun k hk => h _ (by omega) (by omega), wd_congr p q 64 64 fun k hk => h _ (by omega) (by omega), wd_congr p q 192 64 fun k hk => h _ (by omega) (by omega)]
    simp
  | 3, _ =>
    unfold cl
    rw [wd_congr p q 0 64 fun k hk => h _ (by omega) (by omega), wd_congr p q 64 64 fun k hk => h _ (by omega) (by omega), wd_congr p q 128 64 fun k hk => h _ (by omega) (by omega)]
    simp
theorem At.word {w : World} {g : Nat} {p : Nat → Bool} (hA : At w g p) (q : Nat → Bool) (j : Nat) (hj : j < 4) (h : ∀ c, c < 256 → c / 64 ≠ j → p c = q c) (v : Value) (hv : v = .int .u64 ((wd q (64 * j) 64 : Nat) : Int)) : At (w.setCell ⟨g, j, none⟩ v) g q :=
  (heap_setCell_same w g j _ _ v hA).trans (by rw [cl_set p q j hj h v hv])
theorem At.apart {w : World} {g k j : Nat} {p : Nat → Bool} (hA : At w g p) (v : Value) (hk : g ≠ k) : At (w.setCell ⟨k, j, none⟩ v) g p :=
  (Below.heap_setCell w ⟨k, j, none⟩ v g hk).trans hA
theorem At.got {w : World} {g : Nat} {p : Nat → Bool} (hA : At w g p) (j : Nat) (hj : j < 4) : w.cell? ⟨g, j, none⟩ = some (.int .u64 ((wd p (64 * j) 64 : Nat) : Int)) := (hA.cell j).trans (cl_get p j hj)

/-- One byte more. -/
def ins (p : Nat → Bool) (c : Nat) : Nat → Bool := fun x => p x || x == c
theorem ins_other (p : Nat → Bool) (c : Nat) : ∀ x, x < 256 → x / 64 ≠ c / 64 → p x = ins p c x := by
  intro x _ hx
  have : ¬ x = c := fun e => hx (by rw [e])
  simp [ins, this]
theorem wd_ins_or (p : Nat → Bool) (c : Nat) : wd p (64 * (c / 64)) 64 ||| 2 ^ (c % 64) = wd (ins p c) (64 * (c / 64)) 64 := by
  rw [wd_one, wd_or]
  rfl
theorem wd_ins_any (p : Nat → Bool) (c b n : Nat) (hp : p c = false) : wd (ins p c) b n = wd p b n + (if b ≤ c ∧ c < b + n then 2 ^ (c - b) else 0) := by
  induction n with
  | zero =>
    have : ¬ (b ≤ c ∧ c < b + 0) := by omega
    rw [if_neg this]
    rfl
  | succ n ih =>
    simp only [wd, ih]
    by_cases h : b + n = c
    · have h1 : ¬ (b ≤ c ∧ c < b + n) := by omega
      have h2 : b ≤ c ∧ c < b + (n + 1) := by omega
      have h3 : c - b = n := by omega
      rw [if_neg h1, if_pos h2, h, hp, h3]
      simp [ins]
    · have e : ins p c (b + n) = p (b + n) := by simp [ins, h]
      rw [e]
      by_cases h1 : b ≤ c ∧ c < b + n
      · have h2 : b ≤ c ∧ c < b + (n + 1) := by omega
        rw [if_pos h1, if_pos h2]
        omega
      · have h2 : ¬ (b ≤ c ∧ c < b + (n + 1)) := by omega
        rw [if_neg h1, if_neg h2]
        omega
theorem wd_ins_add (p : Nat → Bool) (c : Nat) (hp : p c = false) : wd p (64 * (c / 64)) 64 + 2 ^ (c % 64) = wd (ins p c) (64 * (c / 64)) 64 := by
  rw [wd_ins_any p c _ _ hp, if_pos (by omega)]
  congr 2
  omega
theorem ins_same (p : Nat → Bool) (c : Nat) (hp : p c = true) : ins p c = p := by
  funext x
  unfold ins
  by_cases h : x = c
  · simp [h, hp]
  · simp [h]

theorem At.words {w : World} {g : Nat} {p : Nat → Bool} (hA : At w g p) : (w.cell? ⟨g, 0, none⟩ = some (.int .u64 ((wd p 0 64 : Nat) : Int)) ∧ w.cell? ⟨g, 1, none⟩ = some (.int .u64 ((wd p 64 64 : Nat) : Int))) ∧
    (w.cell? ⟨g, 2, none⟩ = some (.int .u64 ((wd p 128 64 : Nat) : Int)) ∧ w.cell? ⟨g, 3, none⟩ = some (.int .u64 ((wd p 192 64 : Nat) : Int))) ∧ ∀ j, w.frozen? ⟨g, j, none⟩ = false :=
  ⟨⟨hA.got 0 (by decide), hA.got 1 (by decide)⟩, ⟨hA.got 2 (by decide), hA.got 3 (by decide)⟩, hA.free⟩

/-- The whole set stored word by word. -/
def put4 (w : World) (g : Nat) (q : Nat → Bool) : World :=
  ((((w.setCell ⟨g, 0, none⟩ (.int .u64 ((wd q 0 64 : Nat) : Int))).setCell ⟨g, 1, none⟩ (.int .u64 ((wd q 64 64 : Nat) : Int))).setCell ⟨g, 2, none⟩ (.int .u64 ((wd q 128 64 : Nat) : Int))).setCell ⟨g, 3, none⟩ (.int .u64 ((wd q 192 64 : Nat) : Int)))
theorem At.put4 {w : World} {g : Nat} {r : Nat → Bool} (hA : At w g r) (q : Nat → Bool) : At (put4 w g q) g q := by
  have h1 := heap_setCell_same w g 0 _ _ (.int .u64 ((wd q 0 64 : Nat) : Int)) hA
  have h2 := heap_setCell_same _ g 1 _ _ (.int .u64 ((wd q 64 64 : Nat) : Int)) h1
  have h3 := heap_setCell_same _ g 2 _ _ (.int .u64 ((wd q 128 64 : Nat) : Int)) h2
  have h4 := heap_setCell_same _ g 3 _ _ (.int .u64 ((wd q 192 64 : Nat) : Int)) h3
  refine Eq.trans h4 ?_
  simp [cl]
theorem below_put4 {B : Nat} {a w : World} (h : Below B a w) (g : Nat) (hB : B ≤ g) (q : Nat → Bool) : Below B a (put4 w g q) :=
  (((h.setCell (p := ⟨g, 0, none⟩) hB _).setCell (p := ⟨g, 1, none⟩) hB _).setCell (p := ⟨g, 2, none⟩) hB _).setCell (p := ⟨g, 3, none⟩) hB _
theorem At.put4_other {w : World} {g k : Nat} {p : Nat → Bool} (hA : At w g p) (hk : g ≠ k) (q : Nat → Bool) : At (Go.Proofs.Ytpfbpgbgedbalaa.put4 w k q) g p :=
  (((hA.apart _ hk).apart _ hk).apart _ hk).apart _ hk

/-- What a function hands back whose result lives in block g. -/
theorem ret_cs {fn : Func} {t0 : Tmp} (hr : fn.results = #[.cell t0 25]) (tmps : Array Value) (w : World) (g : Nat) (q : Nat → Bool) (hp : tmps.getD t0 undef = .pointer (some ⟨g, 0, none⟩)) (hA : At w g q) :
    (results fn tmps).run Try.prog w = .ok (cs q) w :=
  results_cell_row hr tmps w g _ (cl q) (0, 0) _ hp hA Try.underlying25 rfl info_cs
end Go.Proofs.Ytpfbpgbgedbalaa
