/- The size of an expanded tree. -/
import Derived.Test.YtpfbpgbgedbalaaRtUiv
import Derived.Deep.QuietTactic
import Derived.BigQuiet
import Derived.RegionTactic
import Derived.ChangeAlike
set_option linter.unusedVariables false
set_option linter.unusedSimpArgs false
set_option maxRecDepth 100000
set_option maxHeartbeats 8000000
namespace Go.Proofs.Ytpfbpgbgedbalaa
open Go.RowKit

/-- What a repetition is replaced with: copies, and then repetitions with these bounds. -/
def cpT (l h : Int) : Int := if h = -1 then (if l - 1 < 0 then 0 else l - 1) else l
def rpT (l h : Int) : Int := if h = -1 then 1 else h - l
def loT (l h : Int) : Int := if h = -1 then (if 1 < l then 1 else l) else 0
def hiT (l h : Int) : Int := if h = -1 then -1 else 1
def exsT (t : TN) (ps : List Int) : Int :=
  if t.op = 9 then 1
  else if t.op = 5 then (let s := cpT t.lo t.hi * ps.headD 0 + rpT t.lo t.hi * (ps.headD 0 + 1); let s2 := if cpT t.lo t.hi + rpT t.lo t.hi = 1 then s else s + 1; if 4097 < s2 then 4097 else s2)
  else (let s := ps.foldl (· + ·) 1; if 4097 < s then 4097 else s)
def EOk (x : Int) : Prop := 0 ≤ x ∧ x ≤ 4097
theorem seq_any (o l h g : Int) (st : Nat → Bool) (sv : Value) (w : World) (hl : 0 ≤ l ∧ l ≤ 64) (hh : h = -1 ∨ (l ≤ h ∧ h ≤ 64)) : Calls Try.prog 75 #[.agg #[.int .i64 o, .int .u64 (wd st 0 64 : Nat), .int .u64 (wd st 64 64 : Nat), .int .u64 (wd st 128 64 : Nat), .int .u64 (wd st 192 64 : Nat), .int .i64 l, .int .i64 h, .int .i64 g, sv]] w fun e w' => e = .returned (.agg #[.int .i64 (cpT l h), .int .i64 (rpT l h), .int .i64 (loT l h), .int .i64 (hiT l h)]) ∧ Below w.heap.size w w' := by
  obtain ⟨l1, l2⟩ := hl
  have fin : ∀ (h' a b c d : Int), #[Value.int .i64 a, .int .i64 b, .int .i64 c, .int .i64 d] = #[Value.int .i64 (cpT l h), .int .i64 (rpT l h), .int .i64 (loT l h), .int .i64 (hiT l h)] → ((w.alloc (.cells #[.int .i64 o, .int .u64 (wd st 0 64 : Nat), .int .u64 (wd st 64 64 : Nat), .int .u64 (wd st 128 64 : Nat), .int .u64 (wd st 192 64 : Nat), .int .i64 l, .int .i64 h', .int .i64 g, sv] 28)).alloc (.cells #[.int .i64 a, .int .i64 b, .int .i64 c, .int .i64 d] 113)).heap[w.heap.size + 1]? = some (.cells #[.int .i64 (cpT l h), .int .i64 (rpT l h), .int .i64 (loT l h), .int .i64 (hiT l h)] 113 (0, 0)) := by
    intro h' a b c d e
    rw [e]
    have := heap_alloc_new (w.alloc (.cells #[.int .i64 o, .int .u64 (wd st 0 64 : Nat), .int .u64 (wd st 64 64 : Nat), .int .u64 (wd st 128 64 : Nat), .int .u64 (wd st 192 64 : Nat), .int .i64 l, .int .i64 h', .int .i64 g, sv] 28)) (.cells #[.int .i64 (cpT l h), .int .i64 (rpT l h), .int .i64 (loT l h), .int .i64 (hiT l h)] 113)
    simpa using this
  have info4 : (Try.prog.info? 113).map (·.size) = some 4 := by kernel_rfl
  have HFin := Lib.hid fin
  have HI := Lib.hid info4
  clear fin info4
  by_cases hm : h = -1
  · subst hm
    go_enter Try.func75, Try.ntmps75
    go_wp2_with fail
    all_goals
      (refine bodyPost_ret (v := .agg #[.int .i64 (cpT l (-1)), .int .i64 (rpT l (-1)), .int .i64 (loT l (-1)), .int .i64 (hiT l (-1))]) (results_cell_row rfl _ _ (w.heap.size + 1) _ #[.int .i64 (cpT l (-1)), .int .i64 (rpT l (-1)), .int .i64 (loT l (-1)), .int .i64 (hiT l (-1))] (0, 0) _ rfl (HFin.out _ _ _ _ _ (by simp [cpT, rpT, loT, hiT]; omega)) Try.underlying113 rfl HI.out) rfl ?_
       exact ⟨rfl, ((Below.refl _ _).alloc (Nat.le_refl _) _).alloc (by simp) _⟩)
  · have hb : (h == -1) = false := by simpa using hm
    have h1 : l ≤ h := by omega
    have h2 : h ≤ 64 := by omega
    clear hh
    go_enter Try.func75, Try.ntmps75
    go_wp2_with fail
    refine bodyPost_ret (v := .agg #[.int .i64 (cpT l h), .int .i64 (rpT l h), .int .i64 (loT l h), .int .i64 (hiT l h)]) (results_cell_row rfl _ _ (w.heap.size + 1) _ #[.int .i64 (cpT l h), .int .i64 (rpT l h), .int .i64 (loT l h), .int .i64 (hiT l h)] (0, 0) _ rfl (HFin.out _ _ _ _ _ (by simp [cpT, rpT, loT, hiT, hm])) Try.underlying113 rfl HI.out) rfl ?_
    exact ⟨rfl, ((Below.refl _ _).alloc (Nat.le_refl _) _).alloc (by simp) _⟩
theorem sum_ok : ∀ (ps : List Int) (a : Int), (∀ x, x ∈ ps → EOk x) → a ≤ ps.foldl (· + ·) a ∧ ps.foldl (· + ·) a ≤ a + 4097 * ps.length
  | [], a, _ => ⟨Int.le_refl _, by simp⟩
  | x :: r, a, h => by
    have hx := h x (List.mem_cons_self ..)
    have := sum_ok r (a + x) (fun y hy => h y (List.mem_cons_of_mem _ hy))
    rw [List.foldl_cons]
    obtain ⟨h1, h2⟩ := hx
    simp only [List.length_cons]
    omega
theorem bounds_cr (l h : Int) (hl : 0 ≤ l ∧ l ≤ 64) (hh : h = -1 ∨ (l ≤ h ∧ h ≤ 64)) : (0 ≤ cpT l h ∧ cpT l h ≤ 64) ∧ (0 ≤ rpT l h ∧ rpT l h ≤ 64) := by
  unfold cpT rpT
  by_cases hm : h = -1
  · rw [if_pos hm, if_pos hm]
    split <;> omega
  · rw [if_neg hm, if_neg hm]
    omega
theorem exsT_ok (t : TN) (ps : List Int) (h : PN EOk t ps) : EOk (exsT t ps) := by
  unfold exsT
  have hd : EOk (ps.headD 0) := by
    cases ps with
    | nil => exact ⟨by decide, by decide⟩
    | cons x r => exact h.inv x (List.mem_cons_self ..)
  by_cases o9 : t.op = 9
  · rw [if_pos o9]; exact ⟨by decide, by decide⟩
  rw [if_neg o9]
  by_cases o5 : t.op = 5
  · rw [if_pos o5]
    obtain ⟨_, r1, r2, r3⟩ := h.rep o5
    obtain ⟨⟨c1, c2⟩, ⟨e1, e2⟩⟩ := bounds_cr t.lo t.hi ⟨r1, r2⟩ r3
    have m1 := Int.mul_nonneg c1 hd.1
    have m2 := Int.mul_nonneg e1 (show (0 : Int) ≤ ps.headD 0 + 1 by have := hd.1; omega)
    dsimp only
    constructor
    · split <;> split <;> omega
    · split <;> omega
  · rw [if_neg o5]
    have := sum_ok ps 1 h.inv
    dsimp only
    constructor
    · split <;> omega
    · split <;> omega
end Go.Proofs.Ytpfbpgbgedbalaa
