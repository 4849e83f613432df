/- Several texts in one (a claim has at most 60 files). -/
import Derived.Test.YtpfbpgbgedbalaaRtUiv
import Derived.Deep.QuietTactic
import Derived.BigQuiet
import Derived.RegionTactic
import Derived.ChangeAlike
import Derived.Test.YtpfbpgbgedbalaaRtD
import Derived.StillTailTactics
/- The size of an expanded tree. -/
set_option linter.unusedVariables false
set_option linter.unusedSimpArgs false
set_option maxRecDepth 100000
set_option maxHeartbeats 8000000
namespace Go.Proofs.Ytpfbpgbgedbalaa
open Go.RowKit

/-- What a repetition is replaced with: copies, and then repetitions with these bounds. -/
def cpT (l h : Int) : Int := if h = -1 then (if l - 1 < 0 then 0 else l - 1) else l
def rpT (l h : Int) : Int := if h = -1 then 1 else h - l
def loT (l h : Int) : Int := if h = -1 then (if 1 < l then 1 else l) else 0
def hiT (l h : Int) : Int := if h = -1 then -1 else 1
def exsT (t : TN) (ps : List Int) : Int :=
  if t.op = 9 then 1
  else if t.op = 5 then (let s := cpT t.lo t.hi * ps.headD 0 + rpT t.lo t.hi * (ps.headD 0 + 1); let s2 := if cpT t.lo t.hi + rpT t.lo t.hi = 1 then s else s + 1; if 4097 < s2 then 4097 else s2)
  else (let s := ps.foldl (· + ·) 1; if 4097 < s then 4097 else s)
def EOk (x : Int) : Prop := 0 ≤ x ∧ x ≤ 4097
theorem seq_any (o l h g : Int) (st : Nat → Bool) (sv : Value) (w : World) (hl : 0 ≤ l ∧ l ≤ 64) (hh : h = -1 ∨ (l ≤ h ∧ h ≤ 64)) : Calls Try.prog 75 #[.agg #[.int .i64 o, .int .u64 (wd st 0 64 : Nat), .int .u64 (wd st 64 64 : Nat), .int .u64 (wd st 128 64 : Nat), .int .u64 (wd st 192 64 : Nat), .int .i64 l, .int .i64 h, .int .i64 g, sv]] w fun e w' => e = .returned (.agg #[.int .i64 (cpT l h), .int .i64 (rpT l h), .int .i64 (loT l h), .int .i64 (hiT l h)]) ∧ Below w.heap.size w w' := by
  obtain ⟨l1, l2⟩ := hl
  have fin : ∀ (h' a b c d : Int), #[Value.int .i64 a, .int .i64 b, .int .i64 c, .int .i64 d] = #[Value.int .i64 (cpT l h), .int .i64 (rpT l h), .int .i64 (loT l h), .int .i64 (hiT l h)] → ((w.alloc (.cells #[.int .i64 o, .int .u64 (wd st 0 64 : Nat), .int .u64 (wd st 64 64 : Nat), .int .u64 (wd st 128 64 : Nat), .int .u64 (wd st 192 64 : Nat), .int .i64 l, .int .i64 h', .int .i64 g, sv] 28)).alloc (.cells #[.int .i64 a, .int .i64 b, .int .i64 c, .int .i64 d] 113)).heap[w.heap.size + 1]? = some (.cells #[.int .i64 (cpT l h), .int .i64 (rpT l h), .int .i64 (loT l h), .int .i64 (hiT l h)] 113 (0, 0)) := by
    intro h' a b c d e
    rw [e]
    have := heap_alloc_new (w.alloc (.cells #[.int .i64 o, .int .u64 (wd st 0 64 : Nat), .int .u64 (wd st 64 64 : Nat), .int .u64 (wd st 128 64 : Nat), .int .u64 (wd st 192 64 : Nat), .int .i64 l, .int .i64 h', .int .i64 g, sv] 28)) (.cells #[.int .i64 (cpT l h), .int .i64 (rpT l h), .int .i64 (loT l h), .int .i64 (hiT l h)] 113)
    simpa using this
  have info4 : (Try.prog.info? 113).map (·.size) = some 4 := by kernel_rfl
  have HFin := Lib.hid fin
  have HI := Lib.hid info4
  clear fin info4
  by_cases hm : h = -1
  · subst hm
    go_enter Try.func75, Try.ntmps75
    go_wp2_with fail
    all_goals
      (refine bodyPost_ret (v := .agg #[.int .i64 (cpT l (-1)), .int .i64 (rpT l (-1)), .int .i64 (loT l (-1)), .int .i64 (hiT l (-1))]) (results_cell_row rfl _ _ (w.heap.size + 1) _ #[.int .i64 (cpT l (-1)), .int .i64 (rpT l (-1)), .int .i64 (loT l (-1)), .int .i64 (hiT l (-1))] (0, 0) _ rfl (HFin.out _ _ _ _ _ (by simp [cpT, rpT, loT, hiT]; omega)) Try.underlying113 rfl HI.out) rfl ?_
       exact ⟨rfl, ((Below.refl _ _).alloc (Nat.le_refl _) _).alloc (by simp) _⟩)
  · have hb : (h == -1) = false := by simpa using hm
    have h1 : l ≤ h := by omega
    have h2 : h ≤ 64 := by omega
    clear hh
    go_enter Try.func75, Try.ntmps75
    go_wp2_with fail
    refine bodyPost_ret (v := .agg #[.int .i64 (cpT l h), .int .i64 (rpT l h), .int .i64 (loT l h), .int .i64 (hiT l h)]) (results_cell_row rfl _ _ (w.heap.size + 1) _ #[.int .i64 (cpT l h), .int .i64 (rpT l h), .int .i64 (loT l h), .int .i64 (hiT l h)] (0, 0) _ rfl (HFin.out _ _ _ _ _ (by simp [cpT, rpT, loT, hiT, hm])) Try.underlying113 rfl HI.out) rfl ?_
    exact ⟨rfl, ((Below.refl _ _).alloc (Nat.le_refl _) _).alloc (by simp) _⟩
theorem sum_ok : ∀ (ps : List Int) (a : Int), (∀ x, x ∈ ps → EOk x) → a ≤ ps.foldl (· + ·) a ∧ ps.foldl (· + ·) a ≤ a + 4097 * ps.length
  | [], a, _ => ⟨Int.le_refl _, by simp⟩
  | x :: r, a, h => by
    have hx := h x (List.mem_cons_self ..)
    have := sum_ok r (a + x) (fun y hy => h y (List.mem_cons_of_mem _ hy))
    rw [List.foldl_cons]
    obtain ⟨h1, h2⟩ := hx
    simp only [List.length_cons]
    omega
theorem bounds_cr (l h : Int) (hl : 0 ≤ l ∧ l ≤ 64) (hh : h = -1 ∨ (l ≤ h ∧ h ≤ 64)) : (0 ≤ cpT l h ∧ cpT l h ≤ 64) ∧ (0 ≤ rpT l h ∧ rpT l h ≤ 64) := by
  unfold cpT rpT
  by_cases hm : h = -1
  · rw [if_pos hm, if_pos hm]
    split <;> omega
  · rw [if_neg hm, if_neg hm]
    omega
theorem exsT_ok (t : TN) (ps : List Int) (h : PN EOk t ps) : EOk (exsT t ps) := by
  unfold exsT
  have hd : EOk (ps.headD 0) := by
    cases ps with
    | nil => exact ⟨by decide, by decide⟩
    | cons x r => exact h.inv x (List.mem_cons_self ..)
  by_cases o9 : t.op = 9
  · rw [if_pos o9]; exact ⟨by decide, by decide⟩
  rw [if_neg o9]
  by_cases o5 : t.op = 5
  · rw [if_pos o5]
    obtain ⟨_, r1, r2, r3⟩ := h.rep o5
    obtain ⟨⟨c1, c2⟩, ⟨e1, e2⟩⟩ := bounds_cr t.lo t.hi ⟨r1, r2⟩ r3
    have m1 := Int.mul_nonneg c1 hd.1
    have m2 := Int.mul_nonneg e1 (show (0 : Int) ≤ ps.headD 0 + 1 by have := hd.1; omega)
    dsimp only
    constructor
    · split <;> split <;> omega
    · split <;> omega
  · rw [if_neg o5]
    have := sum_ok ps 1 h.inv
    dsimp only
    constructor
    · split <;> omega
    · split <;> omega
end Go.Proofs.Ytpfbpgbgedbalaa
/- expandedSize. -/
set_option linter.unusedVariables false
set_option linter.unusedSimpArgs false
set_option maxRecDepth 100000
set_option maxHeartbeats 8000000
namespace Go.Proofs.Ytpfbpgbgedbalaa
open Go.RowKit

theorem flat_i (ps : List Int) : ps.flatMap cells_i = ps.map fun b => .int .i64 b := by
  induction ps with
  | nil => rfl
  | cons b r ih => rw [List.flatMap_cons, ih]; rfl
theorem exs_loop (op lo hi g : Int) (st : Nat → Bool) (args : F) (ad : Option Addr) (cap : Nat) (ps : List Int) (qad : Option Addr) (qcap n0 : Nat) (w : World) (h : PV 3 1 cells_i w n0 ps (.slice qad ps.length qcap)) (h6 : ps.length ≤ 600) (hI : ∀ x, x ∈ ps → EOk x) (e9 : (op == 9) = false) (o9 : ¬ op = 9) (e5 : (op == 5) = false) (o5 : ¬ op = 5) :
    Calls Try.prog 49 #[.agg #[.int .i64 op, .int .u64 (wd st 0 64 : Nat), .int .u64 (wd st 64 64 : Nat), .int .u64 (wd st 128 64 : Nat), .int .u64 (wd st 192 64 : Nat), .int .i64 lo, .int .i64 hi, .int .i64 g, .slice ad args.len cap], .slice qad ps.length qcap] w fun e w' => e = .returned (.int .i64 (exsT ⟨op, st, lo, hi, g, args⟩ ps)) ∧ Below w.heap.size w w' := by
  have hl' : (ps.length : Int) ≤ 600 := by omega
  have HP := Lib.hid h
  have HI := Lib.hid hI
  have HS := Lib.hid (sum_ok ps 1 hI)
  have HX : Hid (exsT ⟨op, st, lo, hi, g, args⟩ ps = if 4097 < ps.foldl (· + ·) 1 then 4097 else ps.foldl (· + ·) 1) := Lib.hid (by unfold exsT; rw [if_neg o9, if_neg o5])
  clear h hI
  go_enter Try.func49, Try.ntmps49
  go_wp2_with fail
  generalize hW : w.alloc (.cells #[.int .i64 op, .int .u64 (wd st 0 64 : Nat), .int .u64 (wd st 64 64 : Nat), .int .u64 (wd st 128 64 : Nat), .int .u64 (wd st 192 64 : Nat), .int .i64 lo, .int .i64 hi, .int .i64 g, .slice ad args.len cap] 28) = W
  have hb : Below w.heap.size w W := by rw [← hW]; exact (Below.refl _ _).alloc (Nat.le_refl _) _
  have HB := Lib.hid hb
  clear hW hb
  go_loop [5, 13] (fun s i => ∃ (k : Nat) (z : Int), k ≤ ps.length ∧ i = .int .i64 k ∧ s = .int .i64 z ∧ (0 ≤ z ∧ z ≤ 3000000) ∧ Hid (z ≤ 1 + 4097 * (k : Int) ∧ ps.foldl (· + ·) 1 = (ps.drop k).foldl (· + ·) z)) (fun _ i => ps.length - (intOf i).toNat)
  case atStart => exact ⟨0, 1, Nat.zero_le _, rfl, rfl, ⟨by decide, by decide⟩, Lib.hid ⟨by decide, by rw [List.drop_zero]⟩⟩
  case round =>
    obtain ⟨k, z, hk, rfl, rfl, ⟨hz0, hz1⟩, HR⟩ := hrel
    by_cases hkn : k < ps.length
    · have ki : (k : Int) < ps.length := by omega
      have ki0 : (0 : Int) ≤ k := by omega
      obtain ⟨q, c2, hs⟩ := own_more HP.out (by omega)
      cases hs
      have hc := (HP.out.below HB.out).get clen_i k hkn 0 (by decide)
      rw [Nat.mul_one, Nat.add_zero] at hc
      replace hc : W.cell? ⟨q, k, none⟩ = some (.int .i64 ps[k]) := hc
      obtain ⟨x0, x1⟩ := HI.out ps[k] (List.getElem_mem hkn)
      have hst := HR.out.2
      rw [List.drop_eq_getElem_cons hkn, List.foldl_cons] at hst
      generalize ps[k] = x at *
      have HSt := Lib.hid hst
      clear hst
      have hz3 := HR.out.1
      have hk6 : (k : Int) ≤ 599 := by omega
      have HZ3 := Lib.hid hz3
      clear hz3
      go_wp2_with fail
      go_round
      case rel => exact ⟨k + 1, z + x, by omega, by go_num, rfl, ⟨by omega, by have := HZ3.out; omega⟩, Lib.hid ⟨by have := HZ3.out; omega, HSt.out⟩⟩
      case measure => simp [intOf]; omega
    · obtain rfl : k = ps.length := by omega
      have hst := HR.out.2
      rw [List.drop_length, List.foldl_nil] at hst
      have HSt := Lib.hid hst
      clear hst
      go_wp2_with fail
      all_goals go_ret
      all_goals rw [HX.out, HSt.out]
      all_goals refine ⟨?_, HB.out⟩
      all_goals exact congrArg (fun x : Int => Ending.returned (Value.int .i64 x)) (by split <;> omega)
theorem rule_i : Rule_i EOk exsT := by
  intro w n0 t ad cap ps pv hpv hP
  obtain ⟨qad, qcap, rfl⟩ := own_sl hpv
  obtain ⟨op, st, lo, hi, g, args⟩ := t
  obtain ⟨hrep, hone, htwo, hinv, hlen⟩ := hP
  dsimp only at *
  by_cases o9 : op = 9
  · subst o9
    clear hpv
    go_enter Try.func49, Try.ntmps49
    go_wp2_with fail
    go_ret
    exact ⟨rfl, (Below.refl _ _).alloc (Nat.le_refl _) _⟩
  by_cases o5 : op = 5
  case neg => exact exs_loop op lo hi g st args ad cap ps qad qcap n0 w hpv hlen hinv (by simpa using o9) o9 (by simpa using o5) o5
  subst o5
  obtain ⟨hl1, r1, r2, r3⟩ := hrep rfl
  obtain ⟨p, rfl⟩ := List.length_eq_one_iff.1 hl1
  obtain ⟨q, c2, hs⟩ := own_more hpv (by simp)
  cases hs
  have hc : w.cell? ⟨q, 0, none⟩ = some (.int .i64 p) := by have := hpv.get clen_i 0 (by simp) 0 (by decide); exact this
  have hq := (own_at hpv q rfl).2
  obtain ⟨p0, p1⟩ := hinv p (List.mem_cons_self ..)
  have HSq := Lib.hid (fun W => seq_any 5 lo hi g st (.slice ad args.len cap) W ⟨r1, r2⟩ r3)
  obtain ⟨⟨c1, c2⟩, ⟨e1, e2⟩⟩ := bounds_cr lo hi ⟨r1, r2⟩ r3
  have HX : Hid (exsT ⟨5, st, lo, hi, g, args⟩ [p] = if 4097 < (if cpT lo hi + rpT lo hi = 1 then cpT lo hi * p + rpT lo hi * (p + 1) else cpT lo hi * p + rpT lo hi * (p + 1) + 1) then 4097 else (if cpT lo hi + rpT lo hi = 1 then cpT lo hi * p + rpT lo hi * (p + 1) else cpT lo hi * p + rpT lo hi * (p + 1) + 1)) := Lib.hid rfl
  generalize exsT ⟨5, st, lo, hi, g, args⟩ [p] = X at *
  generalize cpT lo hi = C at *
  generalize rpT lo hi = R at *
  generalize loT lo hi = A at *
  generalize hiT lo hi = D at *
  have m1 := Int.mul_nonneg c1 p0
  have m2 := Int.mul_nonneg e1 (show (0 : Int) ≤ p + 1 by omega)
  have m3 : C * p ≤ 64 * 4097 := Int.mul_le_mul c2 p1 p0 (by decide)
  have m4 : R * (p + 1) ≤ 64 * 4098 := Int.mul_le_mul e2 (show p + 1 ≤ 4098 by omega) (by omega) (by decide)
  clear hpv hrep hone htwo hinv hlen hl1 r1 r2 r3
  by_cases hcr : C + R = 1
  · have hbx : (C + R != 1) = false := by simp [hcr]
    rw [if_pos hcr] at HX
    go_enter Try.func49, Try.ntmps49
    go_upto_region 12 with (first
      | (go_at_call 75; (with_reducible refine (HSq.out _).mono ?_); rintro e w1 ⟨rfl, hb⟩
         have HB1 := Lib.hid (((Below.refl w.heap.size w).alloc (Nat.le_refl _) _).trans (hb.mono (by simp)))
         have hc1 := (HB1.out.cell (p := ⟨q, 0, none⟩) hq).trans hc
         have hq1 : q < w1.heap.size := by have := HB1.out.size; omega
         clear hb hc)
      )
    go_quiet (fail)
    go_wp2_with fail
    all_goals go_ret
    all_goals rw [HX.out]
    all_goals refine ⟨?_, below_drewN (HB1.out.alloc HB1.out.size _) _⟩
    all_goals exact congrArg (fun x : Int => Ending.returned (Value.int .i64 x)) (by split <;> omega)
  · have hbx : (C + R != 1) = true := by simp [hcr]
    rw [if_neg hcr] at HX
    go_enter Try.func49, Try.ntmps49
    go_upto_region 12 with (first
      | (go_at_call 75; (with_reducible refine (HSq.out _).mono ?_); rintro e w1 ⟨rfl, hb⟩
         have HB1 := Lib.hid (((Below.refl w.heap.size w).alloc (Nat.le_refl _) _).trans (hb.mono (by simp)))
         have hc1 := (HB1.out.cell (p := ⟨q, 0, none⟩) hq).trans hc
         have hq1 : q < w1.heap.size := by have := HB1.out.size; omega
         clear hb hc)
      )
    go_quiet (fail)
    go_wp2_with fail
    all_goals go_ret
    all_goals rw [HX.out]
    all_goals refine ⟨?_, below_drewN (HB1.out.alloc HB1.out.size _) _⟩
    all_goals exact congrArg (fun x : Int => Ending.returned (Value.int .i64 x)) (by split <;> omega)
end Go.Proofs.Ytpfbpgbgedbalaa
/- Expanded trees: plain mathematics, and lists of trees that the call makes. -/
set_option linter.unusedVariables false
set_option linter.unusedSimpArgs false
namespace Go.Proofs.Ytpfbpgbgedbalaa
open Go.RowKit

def F.app : F → F → F
  | .nil, g => g
  | .cons o s l h k a r, g => .cons o s l h k a (r.app g)
theorem F.app_nil : ∀ f : F, f.app .nil = f
  | .nil => rfl
  | .cons o s l h k a r => by show F.cons o s l h k a (r.app .nil) = _; rw [F.app_nil r]
theorem F.push_app : ∀ (f : F) (t : TN) (g : F), (f.push t).app g = f.app (.cons t.op t.st t.lo t.hi t.g t.args g)
  | .nil, t, g => rfl
  | .cons o s l h k a r, t, g => by show F.cons o s l h k a ((r.push t).app g) = F.cons o s l h k a (r.app _); rw [F.push_app r]
theorem F.app_len : ∀ (f g : F), (f.app g).len = f.len + g.len
  | .nil, g => by show g.len = 0 + g.len; omega
  | .cons o s l h k a r, g => by show (r.app g).len + 1 = r.len + 1 + g.len; rw [F.app_len r]; omega
/-- A tree many times. -/
def timesF : Nat → TN → F → F
  | 0, _, f => f
  | n + 1, t, f => timesF n t (f.push t)
theorem timesF_len : ∀ (n : Nat) (t : TN) (f : F), (timesF n t f).len = f.len + n
  | 0, _, f => rfl
  | n + 1, t, f => by rw [timesF, timesF_len n, F.len_push]; omega
theorem timesF_succ : ∀ (n : Nat) (t : TN) (f : F), timesF (n + 1) t f = (timesF n t f).push t
  | 0, _, _ => rfl
  | n + 1, t, f => by rw [timesF, timesF_succ n, timesF]
def repT (l h : Int) (x : TN) : TN := ⟨5, noSet, l, h, 0, F.nil.push x⟩
def seqF (t : TN) (x : TN) : F := timesF (rpT t.lo t.hi).toNat (repT (loT t.lo t.hi) (hiT t.lo t.hi) x) (timesF (cpT t.lo t.hi).toNat x .nil)
def catT : F → TN
  | .nil => ⟨1, noSet, 0, 0, 0, .nil⟩
  | .cons o s l h g a .nil => ⟨o, s, l, h, g, a⟩
  | f => ⟨3, noSet, 0, 0, 0, f⟩
/-- A node whose Args have been expanded. -/
def expN (t : TN) (ea : F) : TN := if t.op = 5 then catT (seqF t (ea.nth 0)) else ⟨t.op, t.st, t.lo, t.hi, t.g, ea⟩
def expF : F → F
  | .nil => .nil
  | .cons o s l h g a r => .cons (expN ⟨o, s, l, h, g, a⟩ (expF a)).op (expN ⟨o, s, l, h, g, a⟩ (expF a)).st (expN ⟨o, s, l, h, g, a⟩ (expF a)).lo (expN ⟨o, s, l, h, g, a⟩ (expF a)).hi (expN ⟨o, s, l, h, g, a⟩ (expF a)).g (expN ⟨o, s, l, h, g, a⟩ (expF a)).args (expF r)
def expT (t : TN) : TN := expN t (expF t.args)
theorem expF_len : ∀ f : F, (expF f).len = f.len
  | .nil => rfl
  | .cons o s l h g a r => by show (expF r).len + 1 = r.len + 1; rw [expF_len r]
theorem expF_nth : ∀ (f : F) (i : Nat), i < f.len → (expF f).nth i = expT (f.nth i)
  | .nil, _, h => by cases h
  | .cons o s l h g a r, 0, _ => rfl
  | .cons o s l h g a r, i + 1, hi => expF_nth r i (by have : i + 1 < r.len + 1 := hi; omega)
theorem expF_drop (f : F) (k : Nat) (hk : k < f.len) : expF (f.drop k) = .cons (expT (f.nth k)).op (expT (f.nth k)).st (expT (f.nth k)).lo (expT (f.nth k)).hi (expT (f.nth k)).g (expT (f.nth k)).args (expF (f.drop (k + 1))) := by
  rw [F.drop_step f k hk]
  rfl
/-- What expanded may count on, at every node. -/
def okE : F → Prop
  | .nil => True
  | .cons o _ l h _ a r => (a.len ≤ 600 ∧ (o = 5 → a.len = 1 ∧ (0 ≤ l ∧ l ≤ 64) ∧ (h = -1 ∨ (l ≤ h ∧ h ≤ 64)))) ∧ okE a ∧ okE r
theorem okE_nth : ∀ (f : F) (k : Nat), okE f → k < f.len → okE (.cons (f.nth k).op (f.nth k).st (f.nth k).lo (f.nth k).hi (f.nth k).g (f.nth k).args .nil)
  | .nil, _, _, h => by cases h
  | .cons o s l h g a r, 0, hf, _ => ⟨hf.1, hf.2.1, trivial⟩
  | .cons o s l h g a r, k + 1, hf, hk => okE_nth r k hf.2.2 (by have : k + 1 < r.len + 1 := hk; omega)
theorem okE_of : ∀ (f : F) (c d : List Bool), vF f c = some d → szF f ≤ 600 → okE f
  | .nil, _, _, _, _ => trivial
  | .cons o s l hh g a r, c, d, h, hz => by
    have hz' : szF a + 1 + szF r ≤ 600 := hz
    rw [vF] at h
    by_cases hok : okN o s l hh g a.len c = true
    case neg => rw [if_neg hok] at h; cases h
    rw [if_pos hok] at h
    have hp := okN_parts hok
    have hhav : havT o a.len = true := by have := hp.1; unfold fldT at this; simp only [Bool.and_eq_true] at this; exact this.1
    cases hva : vF a (if o = 6 then c ++ [false] else c) with
    | none => rw [hva] at h; cases h
    | some e =>
      rw [hva] at h
      replace h : vF r (if o = 6 then e.set c.length true else e) = some d := h
      have hl := len_sz a
      refine ⟨⟨by omega, fun o5 => ?_⟩, okE_of a _ _ hva (by omega), okE_of r _ _ h (by omega)⟩
      subst o5
      have hb := bnd_of (hp.2.1 rfl)
      exact ⟨havT_5 hhav, ⟨hb.1, hb.2.1⟩, hb.2.2⟩

/-- A list of trees that the call makes: its own row, and the trees in other blocks from n on. -/
structure OF (w : World) (n : Nat) (f : F) (v : Value) : Prop where
  own : ∃ xs, w.ownsRow n 28 9 v f.len xs ∧ FV w (fun b => n ≤ b ∧ ¬ v.ownBlock = some b) f xs
theorem OF.nil (w : World) (n : Nat) : OF w n .nil (.slice none 0 0) := ⟨[], ⟨by rfl, .inl ⟨rfl, rfl⟩⟩, rfl⟩
theorem OF.below {w w' : World} {n : Nat} {f : F} {v : Value} (h : OF w n f v) (hb : Below w.heap.size w w') : OF w' n f v := by
  obtain ⟨xs, h1, h2⟩ := h
  exact ⟨xs, own_below h1 hb, h2.far (Afar.below hb)⟩
theorem OF.keep {S : Nat → Prop} {w w' : World} {n : Nat} {f : F} {v : Value} (h : OF w n f v) (hb : Keep S w w') (hS : ∀ b, S b → b < n) : OF w' n f v := by
  obtain ⟨xs, h1, h2⟩ := h
  refine ⟨xs, own_keep h1 hb (fun g hg e => by have := (own_at h1 g hg).1; have := hS g e; omega), h2.far ⟨hb.size, fun b h3 h4 => ⟨h3, hb.block b h4 (fun e => by have := hS b e; have := h3.1; omega)⟩⟩⟩
theorem OF.sv {w : World} {n : Nat} {f : F} {v : Value} (h : OF w n f v) : SV w (Frm n) f v := by
  obtain ⟨xs, h1, h2⟩ := h
  exact SV.own (h2.far (T := Frm n) ⟨Nat.le_refl _, fun b h3 _ => ⟨h3.1, rfl⟩⟩) (fun g hg => (own_at h1 g hg).1) h1
theorem infoRe : (Try.prog.info? 28).map (fun i => (i.zero, i.size, i.bytes)) = some (some (.agg #[.int .i64 0, .int .u64 0, .int .u64 0, .int .u64 0, .int .u64 0, .int .i64 0, .int .i64 0, .int .i64 0, .slice none 0 0]), 9, 88) := by kernel_rfl
theorem isz_re : (Try.prog.info? 28).map (·.size) = some 9 := by kernel_rfl
/-- A tree more: what app1 leaves, in OF's words. -/
theorem OF.push {w w1 w8 : World} {n : Nat} {f : F} {v sv : Value} {x : TN} {g0 cap0 : Nat} (h : OF w n f v) (hb : Below w.heap.size w w1) (hx : SV w1 (Frm w.heap.size) x.args sv)
    {xs : List Value} (hxs : w.ownsRow n 28 9 v f.len xs) (hfv : FV w (fun b => n ≤ b ∧ ¬ v.ownBlock = some b) f xs)
    (ho : w8.ownsRow n 28 9 (.slice (some ⟨g0, 0, none⟩) (f.len + 1) cap0) (f.len + 1) (xs ++ rowV x.op x.st x.lo x.hi x.g sv)) (hk : Keep (fun b => v.ownBlock = some b) w1 w8) (hg : v.ownBlock = some g0 ∨ w1.heap.size ≤ g0) (hn : n ≤ w.heap.size) :
    OF w8 n (f.push x) (.slice (some ⟨g0, 0, none⟩) (f.len + 1) cap0) := by
  have hown := own_at hxs
  have hz := hb.size
  refine ⟨xs ++ rowV x.op x.st x.lo x.hi x.g sv, by rw [F.len_push]; exact ho, FV.push ?_ ?_⟩
  · refine hx.far ⟨hk.size, fun b h1 h2 => ⟨⟨by have h1 : w.heap.size ≤ b := h1; omega, fun e => ?_⟩, hk.block b h2 (fun e => by have := (hown b e).2; have h1 : w.heap.size ≤ b := h1; omega)⟩⟩
    have h1 : w.heap.size ≤ b := h1
    have e : g0 = b := by cases e; rfl
    subst e
    rcases hg with hg | hg
    · have := (hown g0 hg).2; omega
    · omega
  · refine hfv.far ⟨by have := hk.size; omega, fun b h1 h2 => ⟨⟨h1.1, fun e => ?_⟩, (hk.block b (by omega) h1.2).trans (hb.block b h2)⟩⟩
    have e : g0 = b := by cases e; rfl
    subst e
    rcases hg with hg | hg
    · exact h1.2 hg
    · omega
end Go.Proofs.Ytpfbpgbgedbalaa
/- mapped, of trees. -/
set_option linter.unusedVariables false
set_option linter.unusedSimpArgs false
set_option maxRecDepth 100000
set_option maxHeartbeats 8000000
namespace Go.Proofs.Ytpfbpgbgedbalaa
open Go.RowKit

/-- A node is expanded whose Args are these. -/
def ExpG (f : F) : Prop := ∀ (o l h g : Int) (st : Nat → Bool) (sv : Value) (w : World) (S : Nat → Prop), SV w S f sv → (∀ b, S b → b < w.heap.size) → okE (.cons o st l h g f .nil) →
  Calls Try.prog 50 #[.agg #[.int .i64 o, .int .u64 (wd st 0 64 : Nat), .int .u64 (wd st 64 64 : Nat), .int .u64 (wd st 128 64 : Nat), .int .u64 (wd st 192 64 : Nat), .int .i64 l, .int .i64 h, .int .i64 g, sv]] w fun e w' => ∃ sv', e = .returned (.agg #[.int .i64 (expT ⟨o, st, l, h, g, f⟩).op, .int .u64 (wd (expT ⟨o, st, l, h, g, f⟩).st 0 64 : Nat), .int .u64 (wd (expT ⟨o, st, l, h, g, f⟩).st 64 64 : Nat), .int .u64 (wd (expT ⟨o, st, l, h, g, f⟩).st 128 64 : Nat), .int .u64 (wd (expT ⟨o, st, l, h, g, f⟩).st 192 64 : Nat), .int .i64 (expT ⟨o, st, l, h, g, f⟩).lo, .int .i64 (expT ⟨o, st, l, h, g, f⟩).hi, .int .i64 (expT ⟨o, st, l, h, g, f⟩).g, sv']) ∧ SV w' (Frm w.heap.size) (expT ⟨o, st, l, h, g, f⟩).args sv' ∧ Below w.heap.size w w'
theorem mapre_any (f : F) (hch : ∀ i, i < f.len → ExpG (f.nth i).args) (sv : Value) (w : World) (S : Nat → Prop) (hsv : SV w S f sv) (hS : ∀ b, S b → b < w.heap.size) (hok : okE f) (hlen : f.len ≤ 600) :
    Calls Try.prog 76 #[sv, .func (.func 50) #[] #[]] w fun e w' => ∃ rv, e = .returned rv ∧ SV w' (Frm w.heap.size) (expF f) rv ∧ Below w.heap.size w w' := by
  obtain ⟨zs, ad, cap, rfl, hcap, hfv, hcells⟩ := hsv
  have hfl : (f.len : Int) ≤ 600 := by omega
  have HS := Lib.hid hS
  have HCh := Lib.hid hch
  have HFV := Lib.hid hfv
  have HCe := Lib.hid hcells
  have HOk := Lib.hid hok
  clear hS hch hfv hcells hcap hok
  go_enter Try.func76, Try.ntmps76
  go_wp2_with fail
  go_loopw [5, 10] (fun v i wr => ∃ (j : Nat) (d : F), j ≤ f.len ∧ i = .int .i64 j ∧ Hid (d.len = j ∧ OF wr w.heap.size d v ∧ Below w.heap.size w wr ∧ expF f = d.app (expF (f.drop j)))) (fun _ i _ => f.len - (intOf i).toNat)
  case atStart => exact ⟨0, .nil, Nat.zero_le _, rfl, Lib.hid ⟨rfl, OF.nil _ _, Below.refl _ _, by rw [show f.drop 0 = f by cases f <;> rfl]; rfl⟩⟩
  case round =>
    obtain ⟨j, d, hj, rfl, HB⟩ := hrel
    by_cases hjn : j < f.len
    · have ki : (j : Int) < f.len := by omega
      have ki0 : (0 : Int) ≤ j := by omega
      obtain ⟨b, i0, rfl, hSb, hbl, hce⟩ : ∃ b i, ad = some ⟨b, i, none⟩ ∧ S b ∧ b < w.heap.size ∧ ∀ j u, zs[j]? = some u → w.cell? ⟨b, i + j, none⟩ = some u := by
        rcases HCe.out with h0 | h0
        · omega
        · exact h0
      obtain ⟨sv2, hsv2, hrow⟩ := FV.nth j HFV.out hjn
      obtain ⟨ad2, cp2, rfl⟩ := slice_form hsv2
      obtain ⟨xs, hxs, hxf⟩ := HB.out.2.1.own
      obtain ⟨rad, rcap, rfl⟩ := own_sl hxs
      have hbel := HB.out.2.2.1
      have hcell : ∀ j' u, (rowV (f.nth j).op (f.nth j).st (f.nth j).lo (f.nth j).hi (f.nth j).g (.slice ad2 (f.nth j).args.len cp2))[j']? = some u → wr.cell? ⟨b, i0 + j * 9 + j', none⟩ = some u := fun j' u hu => by
        rw [hbel.cell (by exact hbl), Nat.add_assoc]
        exact hce _ u (hrow j' u hu)
      have c0 := hcell 0 _ rfl
      have c1 := hcell 1 _ rfl
      have c2 := hcell 2 _ rfl
      have c3 := hcell 3 _ rfl
      have c4 := hcell 4 _ rfl
      have c5 := hcell 5 _ rfl
      have c6 := hcell 6 _ rfl
      have c7 := hcell 7 _ rfl
      have c8 := hcell 8 _ rfl
      rw [Nat.add_zero] at c0
      have hstep := HB.out.2.2.2
      rw [expF_drop f j hjn] at hstep
      have HXs := Lib.hid hxs
      have HXf := Lib.hid hxf
      have HSr : Hid (SV wr S (f.nth j).args (.slice ad2 (f.nth j).args.len cp2)) := Lib.hid (hsv2.far ⟨hbel.size, fun b h1 h2 => ⟨h1, hbel.block b (HS.out b h1)⟩⟩)
      have HEx := Lib.hid (fun W (h1 : SV W S (f.nth j).args (.slice ad2 (f.nth j).args.len cp2)) (h2 : w.heap.size ≤ W.heap.size) => HCh.out j hjn (f.nth j).op (f.nth j).lo (f.nth j).hi (f.nth j).g (f.nth j).st _ W S h1 (fun b hb => by have := HS.out b hb; omega) (okE_nth f j HOk.out hjn))
      have eT : (⟨(f.nth j).op, (f.nth j).st, (f.nth j).lo, (f.nth j).hi, (f.nth j).g, (f.nth j).args⟩ : TN) = f.nth j := rfl
      rw [eT] at HEx
      generalize expT (f.nth j) = X at *
      have HStep := Lib.hid hstep
      have hdl : d.len = j := HB.out.1
      have HDl := Lib.hid hdl
      clear hcell hce hrow hsv2 hSb hbl hstep hxs hxf hbel eT hdl
      go_wp2_with (first
        | (go_at_call 50; (with_reducible refine (HEx.out _ (HSr.out.far (Afar.below ((Below.refl _ _).alloc (Nat.le_refl _) _))) (by have := HB.out.2.2.1.size; simp; omega)).mono ?_); rintro e w1 ⟨sv3, rfl, hx3, hb3⟩
           have HX3 := Lib.hid hx3
           have HB3 := Lib.hid (((Below.refl wr.heap.size wr).alloc (Nat.le_refl _) _).trans (hb3.mono (by simp)))
           clear hx3 hb3 c0 c1 c2 c3 c4 c5 c6 c7 c8)
        | (at_builtin; refine app1 w.heap.size 26 28 (.agg #[.int .i64 0, .int .u64 0, .int .u64 0, .int .u64 0, .int .u64 0, .int .i64 0, .int .i64 0, .int .i64 0, .slice none 0 0]) 9 88 Try.underlying26 infoRe rfl (by decide) w1 rfl (.tmp 14) (.tmp 18) rfl (by have := HB.out.2.2.1.size; have := HB3.out.size; omega) (.slice rad d.len rcap) d.len xs (rowV X.op X.st X.lo X.hi X.g sv3) rfl rfl (own_below HXs.out HB3.out) _ rfl rfl rfl ?d1 ?d2 ?d3 ?_))
      case d1 =>
        obtain ⟨a3, c3, rfl⟩ := slice_form HX3.out
        simp [rowV, Value.oneCell']
      case d2 => have := HDl.out; unfold maxLen; omega
      case d3 => have := HDl.out; omega
      intro g0 cap0 w8 ho8 hk8 hg8
      have HF : Hid ((d.push X).len = j + 1 ∧ OF w8 w.heap.size (d.push X) (.slice (some ⟨g0, 0, none⟩) (d.len + 1) cap0) ∧ Below w.heap.size w w8 ∧ expF f = (d.push X).app (expF (f.drop (j + 1)))) := by
        refine Lib.hid ⟨by rw [F.len_push, HDl.out], OF.push HB.out.2.1 HB3.out (HX3.out.far (T := Frm wr.heap.size) ⟨Nat.le_refl _, fun b h1 _ => ⟨by have h1 : (wr.alloc _).heap.size ≤ b := h1; simp at h1; show wr.heap.size ≤ b; omega, rfl⟩⟩) HXs.out HXf.out ho8 hk8 hg8 HB.out.2.2.1.size, ?_, by rw [F.push_app]; exact HStep.out⟩
        exact HB.out.2.2.1.trans ((HB3.out.mono HB.out.2.2.1.size).trans (hk8.below (by have := HB.out.2.2.1.size; have := HB3.out.size; omega) (fun g hg => (own_at HXs.out g hg).1)))
      clear ho8 hk8 hg8
      go_wp2_with fail
      go_roundw
      case rel => exact ⟨j + 1, d.push X, by omega, by go_num, HF⟩
      case measure => simp [intOf]; omega
    · obtain rfl : j = f.len := by omega
      have hend := HB.out.2.2.2
      rw [F.drop_len] at hend
      have hend : expF f = d.app .nil := hend
      rw [F.app_nil] at hend
      have HEnd := Lib.hid hend
      obtain ⟨xs, hxs, hxf⟩ := HB.out.2.1.own
      obtain ⟨rad, rcap, rfl⟩ := own_sl hxs
      clear hend hxs hxf
      go_wp2_with fail
      go_ret
      rw [HEnd.out]
      exact ⟨_, rfl, HB.out.2.1.sv, HB.out.2.2.1⟩
end Go.Proofs.Ytpfbpgbgedbalaa
/- expanded, of a node that is no repetition. -/
set_option linter.unusedVariables false
set_option linter.unusedSimpArgs false
set_option maxRecDepth 100000
set_option maxHeartbeats 8000000
namespace Go.Proofs.Ytpfbpgbgedbalaa
open Go.RowKit

theorem exp_x (f : F) (hch : ∀ i, i < f.len → ExpG (f.nth i).args) (o l h g : Int) (st : Nat → Bool) (sv : Value) (w : World) (S : Nat → Prop) (hsv : SV w S f sv) (hS : ∀ b, S b → b < w.heap.size) (hok : okE (.cons o st l h g f .nil)) (e5 : (o == 5) = false) (o5 : ¬ o = 5) :
    Calls Try.prog 50 #[.agg #[.int .i64 o, .int .u64 (wd st 0 64 : Nat), .int .u64 (wd st 64 64 : Nat), .int .u64 (wd st 128 64 : Nat), .int .u64 (wd st 192 64 : Nat), .int .i64 l, .int .i64 h, .int .i64 g, sv]] w fun e w' => ∃ sv', e = .returned (.agg #[.int .i64 o, .int .u64 (wd st 0 64 : Nat), .int .u64 (wd st 64 64 : Nat), .int .u64 (wd st 128 64 : Nat), .int .u64 (wd st 192 64 : Nat), .int .i64 l, .int .i64 h, .int .i64 g, sv']) ∧ SV w' (Frm w.heap.size) (expF f) sv' ∧ Below w.heap.size w w' := by
  obtain ⟨ad, cap, rfl⟩ := slice_form hsv
  obtain ⟨W2, hW2⟩ : ∃ W2, W2 = (w.alloc (.cells #[.int .i64 o, .int .u64 (wd st 0 64 : Nat), .int .u64 (wd st 64 64 : Nat), .int .u64 (wd st 128 64 : Nat), .int .u64 (wd st 192 64 : Nat), .int .i64 l, .int .i64 h, .int .i64 g, .slice ad f.len cap] 28)).alloc (.cells #[.int .i64 0, .int .u64 0, .int .u64 0, .int .u64 0, .int .u64 0, .int .i64 0, .int .i64 0, .int .i64 0, .slice none 0 0] 28) := ⟨_, rfl⟩
  have hb : Below w.heap.size w W2 := by rw [hW2]; exact ((Below.refl _ _).alloc (Nat.le_refl _) _).alloc (by simp) _
  have hz : W2.heap.size = w.heap.size + 1 + 1 := by rw [hW2]; simp
  have he : W2.heap[w.heap.size]? = some (.cells #[.int .i64 o, .int .u64 (wd st 0 64 : Nat), .int .u64 (wd st 64 64 : Nat), .int .u64 (wd st 128 64 : Nat), .int .u64 (wd st 192 64 : Nat), .int .i64 l, .int .i64 h, .int .i64 g, .slice ad f.len cap] 28 (0, 0)) := by
    rw [hW2, Below.heap_alloc _ _ _ (by simp)]
    exact heap_alloc_new w _
  have hr : W2.heap[w.heap.size + 1]? = some (.cells #[.int .i64 0, .int .u64 0, .int .u64 0, .int .u64 0, .int .u64 0, .int .i64 0, .int .i64 0, .int .i64 0, .slice none 0 0] 28 (0, 0)) := by
    have := heap_alloc_new (w.alloc (.cells #[.int .i64 o, .int .u64 (wd st 0 64 : Nat), .int .u64 (wd st 64 64 : Nat), .int .u64 (wd st 128 64 : Nat), .int .u64 (wd st 192 64 : Nat), .int .i64 l, .int .i64 h, .int .i64 g, .slice ad f.len cap] 28)) (.cells #[.int .i64 0, .int .u64 0, .int .u64 0, .int .u64 0, .int .u64 0, .int .i64 0, .int .i64 0, .int .i64 0, .slice none 0 0] 28)
    rw [hW2]
    simpa using this
  have HM := Lib.hid (mapre_any f hch _ W2 S (hsv.far (Afar.below hb)) (fun b h => by have := hS b h; omega) hok.2.1 hok.1.1)
  have HB := Lib.hid hb
  have HE := Lib.hid he
  have HR := Lib.hid hr
  have HW2 := Lib.hid hW2
  have HZ := Lib.hid hz
  have HL := Lib.hid (expF_len f)
  clear hsv hS hok hb he hr hW2 hz hch
  go_enter Try.func50, Try.ntmps50
  go_upto_region 3 with (first
    | (go_at_call 76; rw [← HW2.out]; (with_reducible refine HM.out.mono ?_); rintro e w1 ⟨rv, rfl, hsv1, hb1⟩
       obtain ⟨rad, rcap, rfl⟩ := slice_form hsv1
       have HV1 := Lib.hid hsv1
       have HB1 := Lib.hid hb1
       have he1 := (hb1.block w.heap.size (by have := HZ.out; omega)).trans HE.out
       have HE1 := Lib.hid he1
       have fe := fun j => frozen_of_row w1 w.heap.size j _ _ he1
       have ce : w1.cell? ⟨w.heap.size, 8, none⟩ = some (.slice ad f.len cap) := cell_of_row w1 w.heap.size 8 _ _ _ he1
       have le := (Array.getElem?_eq_some_iff.1 he1).1
       clear hsv1 hb1 he1)
    )
  have hs1 := HB1.out.size
  have hz := HZ.out
  have hE2 := heap_setCell_same w1 w.heap.size 8 _ _ (.slice rad (expF f).len rcap) HE1.out
  have hR2 := (Below.heap_setCell w1 ⟨w.heap.size, 8, none⟩ (.slice rad (expF f).len rcap) (w.heap.size + 1) (by simp)).trans ((HB1.out.block (w.heap.size + 1) (by omega)).trans HR.out)
  have hV2 : SV (w1.setCell ⟨w.heap.size, 8, none⟩ (.slice rad (expF f).len rcap)) (Frm W2.heap.size) (expF f) (.slice rad (expF f).len rcap) := HV1.out.far ⟨by simp [World.setCell], fun b h1 _ => ⟨h1, Below.heap_setCell w1 ⟨w.heap.size, 8, none⟩ _ b (by have h1 : W2.heap.size ≤ b := h1; simp; omega)⟩⟩
  have hB2 : Below w.heap.size w (w1.setCell ⟨w.heap.size, 8, none⟩ (.slice rad (expF f).len rcap)) := (HB.out.trans (HB1.out.mono HB.out.size)).setCell (p := ⟨w.heap.size, 8, none⟩) (Nat.le_refl _) _
  have HE2 : Hid ((w1.setCell ⟨w.heap.size, 8, none⟩ (.slice rad (expF f).len rcap)).heap[w.heap.size]? = some (.cells #[.int .i64 o, .int .u64 (wd st 0 64 : Nat), .int .u64 (wd st 64 64 : Nat), .int .u64 (wd st 128 64 : Nat), .int .u64 (wd st 192 64 : Nat), .int .i64 l, .int .i64 h, .int .i64 g, .slice rad (expF f).len rcap] 28 (0, 0))) := Lib.hid hE2
  have HR2 := Lib.hid hR2
  have HV2 := Lib.hid hV2
  have HB2 := Lib.hid hB2
  clear fe ce le hs1 hE2 hR2 hV2 hB2
  generalize w1.setCell ⟨w.heap.size, 8, none⟩ (.slice rad (expF f).len rcap) = W3 at *
  go_wp2_with (first
    | (refine wpList_load_row rfl 28 _ rfl w.heap.size rfl 28 #[.int .i64 o, .int .u64 (wd st 0 64 : Nat), .int .u64 (wd st 64 64 : Nat), .int .u64 (wd st 128 64 : Nat), .int .u64 (wd st 192 64 : Nat), .int .i64 l, .int .i64 h, .int .i64 g, .slice rad (expF f).len rcap] (0, 0) _ HE2.out Try.underlying28 rfl isz_re ?_)
    | (refine wpList_store_row rfl 28 (.tmp 2) (.tmp 12) rfl (w.heap.size + 1) #[.int .i64 o, .int .u64 (wd st 0 64 : Nat), .int .u64 (wd st 64 64 : Nat), .int .u64 (wd st 128 64 : Nat), .int .u64 (wd st 192 64 : Nat), .int .i64 l, .int .i64 h, .int .i64 g, .slice rad (expF f).len rcap] rfl rfl 28 _ HR2.out isz_re rfl (by simp [Value.oneCell']) ?_))
  refine bodyPost_ret (v := .agg #[.int .i64 o, .int .u64 (wd st 0 64 : Nat), .int .u64 (wd st 64 64 : Nat), .int .u64 (wd st 128 64 : Nat), .int .u64 (wd st 192 64 : Nat), .int .i64 l, .int .i64 h, .int .i64 g, .slice rad (expF f).len rcap]) (results_cell_row rfl _ _ (w.heap.size + 1) _ #[.int .i64 o, .int .u64 (wd st 0 64 : Nat), .int .u64 (wd st 64 64 : Nat), .int .u64 (wd st 128 64 : Nat), .int .u64 (wd st 192 64 : Nat), .int .i64 l, .int .i64 h, .int .i64 g, .slice rad (expF f).len rcap] (0, 0) _ rfl (setRow_heap W3 _ _ _ _ _ HR2.out) Try.underlying28 rfl isz_re) rfl ?_
  refine ⟨_, rfl, HV2.out.far ⟨by rw [setRow_size]; exact Nat.le_refl _, fun b h1 _ => ?_⟩, below_setRow HB2.out (by omega) _⟩
  have h1 : W2.heap.size ≤ b := h1
  have hz := HZ.out
  exact ⟨by show w.heap.size ≤ b; omega, setRow_other W3 _ b _ (by omega)⟩
end Go.Proofs.Ytpfbpgbgedbalaa
/- expanded, of a repetition. (Written by gen_rtx5.py.) -/
set_option linter.unusedVariables false
set_option linter.unusedSimpArgs false
set_option maxRecDepth 100000
set_option maxHeartbeats 8000000
namespace Go.Proofs.Ytpfbpgbgedbalaa
open Go.RowKit

theorem row_noSet (lo hi : Int) (sv : Value) : rowV 5 noSet lo hi 0 sv = [.int .i64 5, .int .u64 0, .int .u64 0, .int .u64 0, .int .u64 0, .int .i64 lo, .int .i64 hi, .int .i64 0, sv] := by
  unfold rowV
  rw [wd_noSet.1, wd_noSet.2.1, wd_noSet.2.2.1, wd_noSet.2.2.2]
  rfl
theorem len0 {f : F} (h : f.len = 0) : f = .nil := by
  cases f with
  | nil => rfl
  | cons _ _ _ _ _ _ _ => cases h
theorem len1 {f : F} (h : f.len = 1) : ∃ o s l h g a, f = .cons o s l h g a .nil := by
  cases f with
  | nil => cases h
  | cons o s l h' g a r => exact ⟨o, s, l, h', g, a, by rw [len0 (f := r) (by have h : r.len + 1 = 1 := h; omega)]⟩
theorem catT_many {f : F} (h : 2 ≤ f.len) : catT f = ⟨3, noSet, 0, 0, 0, f⟩ := by
  cases f with
  | nil => cases h
  | cons o s l h' g a r => cases r with
    | nil => have h : 2 ≤ 1 := h; omega
    | cons _ _ _ _ _ _ _ => rfl
theorem sapp1 (B : Nat) (T E : TypeId) (z : Value) (k bytes : Nat) (ht : Try.prog.underlying T = some (.slice E)) (hif : (Try.prog.info? E).map (fun i => (i.zero, i.size, i.bytes)) = some (some z, k, bytes)) (hz : z.cells.size = k) (hk : 0 < k)
    {W : World} {ops : Array Oper} {o : Oper} {a : Act} {K : Act → World → Prop} {Q : Exit → Act → World → Prop} {F0 : Prop} (w : World) (hgd : o.guard = none) (s x : Operand)
    (ho : o.op = .call { callee := .builtin .append, args := #[s, x], argTypes := #[T, T] })
    (hB : B ≤ w.heap.size) (v : Value) (n : Nat) (xs vs : List Value) (hW : W = w.alloc (.cells vs.toArray E)) (hs : a.eval s = v) (hown : w.ownsRow B E k v n xs) (g0 : Nat) (hg0 : w.heap.size = g0) (hx : a.eval x = .slice (some ⟨g0, 0, none⟩) 1 1) (hl : vs.length = k) (h1 : ∀ u ∈ vs, u.oneCell' = true)
    (h63 : n + 1 ≤ maxLen) (hby : (n + 1) * bytes ≤ 140737488355328)
    (h : ∀ g cap w', w'.ownsRow B E k (.slice (some ⟨g, 0, none⟩) (n + 1) cap) (n + 1) (xs ++ vs) → Keep (fun b => v.ownBlock = some b) w w' → (v.ownBlock = some g ∨ w.heap.size ≤ g) → K (a.put o.dst (.slice (some ⟨g, 0, none⟩) (n + 1) cap)) w') :
    if Region.wanted o (yielded ops a.tmps) = true then Oper.wp Try.prog o a W K Q else F0 := by
  subst hg0
  subst hW
  obtain ⟨i0, hi, hz0, hz1, hz2⟩ := info_parts hif
  refine step_append_lies _ hgd s x T ho B E i0 z k bytes ht hi hz0 hz1 hz2 hz hk v n xs hs (hown.alloc _) ⟨w.heap.size, 0, none⟩ 1 1 vs hx (by omega) (fun j u hu => new_cells w vs E j u hu) h1 (by decide) h63 hby (by simp; omega) _ rfl ?_
  intro g cap w' hown' hgrow hat hlt
  refine h g cap w' hown' (((Keep.refl _ _).alloc _).grown hgrow (fun j e _ => e)) ?_
  rcases hat with hat | hat
  · exact .inl hat
  · exact .inr (by rw [hat]; simp)
theorem exp_5 (a : TN) (hch : ExpG a.args) (l h g : Int) (st : Nat → Bool) (b i0 cap : Nat) (ad2 : Option Addr) (cp2 : Nat) (w : World) (S : Nat → Prop) (hb : b < w.heap.size) (hrow : ∀ j u, (rowV a.op a.st a.lo a.hi a.g (.slice ad2 a.args.len cp2))[j]? = some u → w.cell? ⟨b, i0 + j, none⟩ = some u)
    (hsa : SV w S a.args (.slice ad2 a.args.len cp2)) (hS : ∀ b, S b → b < w.heap.size) (hok : okE (.cons a.op a.st a.lo a.hi a.g a.args .nil)) (hl : 0 ≤ l ∧ l ≤ 64) (hh : h = -1 ∨ (l ≤ h ∧ h ≤ 64)) (Xq : TN) (hXq : catT (seqF ⟨5, st, l, h, g, .nil⟩ (expT a)) = Xq) :
    Calls Try.prog 50 #[.agg #[.int .i64 5, .int .u64 (wd st 0 64 : Nat), .int .u64 (wd st 64 64 : Nat), .int .u64 (wd st 128 64 : Nat), .int .u64 (wd st 192 64 : Nat), .int .i64 l, .int .i64 h, .int .i64 g, .slice (some ⟨b, i0, none⟩) 1 cap]] w fun e w' => ∃ sv', e = .returned (.agg #[.int .i64 Xq.op, .int .u64 (wd Xq.st 0 64 : Nat), .int .u64 (wd Xq.st 64 64 : Nat), .int .u64 (wd Xq.st 128 64 : Nat), .int .u64 (wd Xq.st 192 64 : Nat), .int .i64 Xq.lo, .int .i64 Xq.hi, .int .i64 Xq.g, sv']) ∧ SV w' (Frm w.heap.size) Xq.args sv' ∧ Below w.heap.size w w' := by
  obtain ⟨⟨k1, k2⟩, ⟨k3, k4⟩⟩ := bounds_cr l h hl hh
  have HSq := Lib.hid (fun W => seq_any 5 l h g st (.slice (some ⟨b, i0, none⟩) 1 cap) W hl hh)
  have HEx := Lib.hid (fun W (h1 : SV W S a.args (.slice ad2 a.args.len cp2)) (h2 : w.heap.size ≤ W.heap.size) => hch a.op a.lo a.hi a.g a.st _ W S h1 (fun b hb => by have := hS b hb; omega) hok)
  have eT : (⟨a.op, a.st, a.lo, a.hi, a.g, a.args⟩ : TN) = a := rfl
  rw [eT] at HEx
  have hsq : seqF ⟨5, st, l, h, g, .nil⟩ (expT a) = timesF (rpT l h).toNat (repT (loT l h) (hiT l h) (expT a)) (timesF (cpT l h).toNat (expT a) .nil) := rfl
  rw [hsq] at hXq
  generalize expT a = X at *
  generalize cpT l h = C at *
  generalize rpT l h = R at *
  generalize loT l h = A at *
  generalize hiT l h = D at *
  obtain ⟨W2, hW2⟩ : ∃ W2, W2 = (w.alloc (.cells #[.int .i64 5, .int .u64 (wd st 0 64 : Nat), .int .u64 (wd st 64 64 : Nat), .int .u64 (wd st 128 64 : Nat), .int .u64 (wd st 192 64 : Nat), .int .i64 l, .int .i64 h, .int .i64 g, .slice (some ⟨b, i0, none⟩) 1 cap] 28)).alloc (.cells #[.int .i64 0, .int .u64 0, .int .u64 0, .int .u64 0, .int .u64 0, .int .i64 0, .int .i64 0, .int .i64 0, .slice none 0 0] 28) := ⟨_, rfl⟩
  have hbw : Below w.heap.size w W2 := by rw [hW2]; exact ((Below.refl _ _).alloc (Nat.le_refl _) _).alloc (by simp) _
  have hz : W2.heap.size = w.heap.size + 1 + 1 := by rw [hW2]; simp
  have he : W2.heap[w.heap.size]? = some (.cells #[.int .i64 5, .int .u64 (wd st 0 64 : Nat), .int .u64 (wd st 64 64 : Nat), .int .u64 (wd st 128 64 : Nat), .int .u64 (wd st 192 64 : Nat), .int .i64 l, .int .i64 h, .int .i64 g, .slice (some ⟨b, i0, none⟩) 1 cap] 28 (0, 0)) := by
    rw [hW2, Below.heap_alloc _ _ _ (by simp)]
    exact heap_alloc_new w _
  have hr : W2.heap[w.heap.size + 1]? = some (.cells #[.int .i64 0, .int .u64 0, .int .u64 0, .int .u64 0, .int .u64 0, .int .i64 0, .int .i64 0, .int .i64 0, .slice none 0 0] 28 (0, 0)) := by
    have := heap_alloc_new (w.alloc (.cells #[.int .i64 5, .int .u64 (wd st 0 64 : Nat), .int .u64 (wd st 64 64 : Nat), .int .u64 (wd st 128 64 : Nat), .int .u64 (wd st 192 64 : Nat), .int .i64 l, .int .i64 h, .int .i64 g, .slice (some ⟨b, i0, none⟩) 1 cap] 28)) (.cells #[.int .i64 0, .int .u64 0, .int .u64 0, .int .u64 0, .int .u64 0, .int .i64 0, .int .i64 0, .int .i64 0, .slice none 0 0] 28)
    rw [hW2]
    simpa using this
  have HBl := Lib.hid hb
  have HRow := Lib.hid hrow
  have HSa := Lib.hid hsa
  have HS := Lib.hid hS
  have HBw := Lib.hid hbw
  have HE := Lib.hid he
  have HR := Lib.hid hr
  have HW2 := Lib.hid hW2
  have HZ := Lib.hid hz
  have HXq := Lib.hid hXq
  clear hb hrow hsa hS hok hl hh hbw he hr hW2 hz hXq hsq hch eT
  go_enter Try.func50, Try.ntmps50
  go_upto_region 5 with (first
    | (go_at_call 75; rw [← HW2.out]; (with_reducible refine (HSq.out _).mono ?_); rintro e w1 ⟨rfl, hb1⟩
       have HB1 := Lib.hid hb1
       clear hb1)
    )
  have hs1 := HB1.out.size
  have hz := HZ.out
  have hw1b := HBw.out.trans (HB1.out.mono HBw.out.size)
  have he1 := (HB1.out.block w.heap.size (by omega)).trans HE.out
  have hr1 := (HB1.out.block (w.heap.size + 1) (by omega)).trans HR.out
  have hba : Below w1.heap.size w1 (w1.alloc (.cells #[.int .i64 C, .int .i64 R, .int .i64 A, .int .i64 D] 113)) := (Below.refl _ _).alloc (Nat.le_refl _) _
  have hq := heap_alloc_new w1 (.cells #[.int .i64 C, .int .i64 R, .int .i64 A, .int .i64 D] 113)
  have he2 := (hba.block w.heap.size (by omega)).trans he1
  have hr2 := (hba.block (w.heap.size + 1) (by omega)).trans hr1
  have hb2 := hw1b.trans (hba.mono hw1b.size)
  have hl3 : w1.heap.size < (w1.alloc (.cells #[.int .i64 C, .int .i64 R, .int .i64 A, .int .i64 D] 113)).heap.size := by simp
  have hp3 : w.heap.size + 1 < w1.heap.size := by omega
  generalize w1.alloc (.cells #[.int .i64 C, .int .i64 R, .int .i64 A, .int .i64 D] 113) = W3 at *
  clear HB1 hs1 hw1b he1 hr1 hba
  generalize w1.heap.size = P3 at *
  have HP3 := Lib.hid hp3
  have HS3 := Lib.hid (And.intro he2 (And.intro hr2 (And.intro hq (And.intro hb2 hl3))))
  have q0 := cell_of_row W3 P3 0 _ _ _ hq
  have q1 := cell_of_row W3 P3 1 _ _ _ hq
  replace q0 : W3.cell? ⟨P3, 0, none⟩ = some (.int .i64 C) := q0
  replace q1 : W3.cell? ⟨P3, 1, none⟩ = some (.int .i64 R) := q1
  clear hq he2 hr2 hb2 hl3 hp3 hz
  go_wp2_with fail
  go_loopw [4, 17] (fun v i wr => ∃ (j : Nat) (d : F), (j : Int) ≤ C ∧ i = .int .i64 j ∧ Hid (d = timesF j X .nil ∧ OF wr (P3 + 1) d v ∧  wr.heap[w.heap.size]? = some (.cells #[.int .i64 5, .int .u64 (wd st 0 64 : Nat), .int .u64 (wd st 64 64 : Nat), .int .u64 (wd st 128 64 : Nat), .int .u64 (wd st 192 64 : Nat), .int .i64 l, .int .i64 h, .int .i64 g, .slice (some ⟨b, i0, none⟩) 1 cap] 28 (0, 0)) ∧ wr.heap[w.heap.size + 1]? = some (.cells #[.int .i64 0, .int .u64 0, .int .u64 0, .int .u64 0, .int .u64 0, .int .i64 0, .int .i64 0, .int .i64 0, .slice none 0 0] 28 (0, 0)) ∧ wr.heap[P3]? = some (.cells #[.int .i64 C, .int .i64 R, .int .i64 A, .int .i64 D] 113 (0, 0)) ∧ Below w.heap.size w wr ∧ P3 < wr.heap.size)) (fun _ i _ => C.toNat - (intOf i).toNat)
  case atStart => exact ⟨0, .nil, k1, rfl, Lib.hid ⟨rfl, OF.nil _ _, HS3.out.1, HS3.out.2.1, HS3.out.2.2.1, HS3.out.2.2.2.1, HS3.out.2.2.2.2⟩⟩
  case round =>
    obtain ⟨j, d, hj, rfl, HB⟩ := hrel
    have hdl : d.len = j := by have := congrArg F.len HB.out.1; rw [timesF_len] at this; have e0 : F.nil.len = 0 := rfl; omega
    have HDl := Lib.hid hdl
    clear q0 q1
    by_cases hjn : (j : Int) < C
    · have ki0 : (0 : Int) ≤ j := by omega
      have hbel := HB.out.2.2.2.2.2.1
      have hcell : ∀ j' u, (rowV a.op a.st a.lo a.hi a.g (.slice ad2 a.args.len cp2))[j']? = some u → wr.cell? ⟨b, i0 + j', none⟩ = some u := fun j' u hu => by
        rw [hbel.cell (by exact HBl.out)]
        exact HRow.out j' u hu
      have c0 := hcell 0 _ rfl
      have c1 := hcell 1 _ rfl
      have c2 := hcell 2 _ rfl
      have c3 := hcell 3 _ rfl
      have c4 := hcell 4 _ rfl
      have c5 := hcell 5 _ rfl
      have c6 := hcell 6 _ rfl
      have c7 := hcell 7 _ rfl
      have c8 := hcell 8 _ rfl
      rw [Nat.add_zero] at c0
      obtain ⟨⟨⟨a0, a1, a2⟩, a3, a4, a5⟩, a6, a7, a8⟩ := nine HB.out.2.2.1
      obtain ⟨xs, hxs, hxf⟩ := HB.out.2.1.own
      obtain ⟨rad, rcap, rfl⟩ := own_sl hxs
      have HXs := Lib.hid hxs
      have HXf := Lib.hid hxf
      have HSr : Hid (SV wr S a.args (.slice ad2 a.args.len cp2)) := Lib.hid (HSa.out.far ⟨hbel.size, fun b h1 h2 => ⟨h1, hbel.block b (HS.out b h1)⟩⟩)
      have hl0 : w.heap.size < wr.heap.size := by have := HB.out.2.2.2.2.2.2; have := HP3.out; omega
      clear hcell hxs hxf hbel
      clear hdl
      go_wp2_with (first
        | (go_at_call 50; (with_reducible refine (HEx.out _ HSr.out (by have := HB.out.2.2.2.2.2.1.size; omega)).mono ?_); rintro e w1 ⟨sv3, rfl, hx3, hb3⟩
           have HX3 := Lib.hid hx3
           have HB3 := Lib.hid (hb3)
           clear hx3 hb3 c0 c1 c2 c3 c4 c5 c6 c7 c8 a0 a1 a2 a3 a4 a5 a6 a7 a8)
        | (at_builtin; refine app1 (P3 + 1) 26 28 (.agg #[.int .i64 0, .int .u64 0, .int .u64 0, .int .u64 0, .int .u64 0, .int .i64 0, .int .i64 0, .int .i64 0, .slice none 0 0]) 9 88 Try.underlying26 infoRe rfl (by decide) w1 rfl (.tmp 19) (.tmp 25) rfl (by have := HB.out.2.2.2.2.2.2; have := HB3.out.size; omega) (.slice rad d.len rcap) d.len xs (rowV X.op X.st X.lo X.hi X.g sv3) rfl rfl (own_below HXs.out HB3.out) _ rfl rfl rfl ?d1 ?d2 ?d3 ?_))
      case d1 =>
        obtain ⟨a3, c3, rfl⟩ := slice_form HX3.out
        simp [rowV, Value.oneCell']
      case d2 => have := HDl.out; unfold maxLen; omega
      case d3 => have := HDl.out; omega
      intro g0 cap0 w8 ho8 hk8 hg8
      have hown := fun g hg => own_at HXs.out g hg
      have hp3 := HP3.out
      have hfar : ∀ k, k ≤ P3 → w8.heap[k]? = wr.heap[k]? := fun k hk => by
        have h1 := HB.out.2.2.2.2.2.2
        have h2 := HB3.out.size
        exact (hk8.block k (by omega) (fun e => by have := (hown k e).1; omega)).trans (HB3.out.block k (by omega))
      have HF : Hid (d.push X = timesF (j + 1) X .nil ∧ OF w8 (P3 + 1) (d.push X) (.slice (some ⟨g0, 0, none⟩) (d.len + 1) cap0) ∧  w8.heap[w.heap.size]? = some (.cells #[.int .i64 5, .int .u64 (wd st 0 64 : Nat), .int .u64 (wd st 64 64 : Nat), .int .u64 (wd st 128 64 : Nat), .int .u64 (wd st 192 64 : Nat), .int .i64 l, .int .i64 h, .int .i64 g, .slice (some ⟨b, i0, none⟩) 1 cap] 28 (0, 0)) ∧ w8.heap[w.heap.size + 1]? = some (.cells #[.int .i64 0, .int .u64 0, .int .u64 0, .int .u64 0, .int .u64 0, .int .i64 0, .int .i64 0, .int .i64 0, .slice none 0 0] 28 (0, 0)) ∧ w8.heap[P3]? = some (.cells #[.int .i64 C, .int .i64 R, .int .i64 A, .int .i64 D] 113 (0, 0)) ∧ Below w.heap.size w w8 ∧ P3 < w8.heap.size) := by
        refine Lib.hid ⟨by rw [timesF_succ, ← HB.out.1], OF.push HB.out.2.1 HB3.out HX3.out HXs.out HXf.out ho8 hk8 hg8 (by have := HB.out.2.2.2.2.2.2; omega), ?_, ?_, ?_, ?_, ?_⟩
        · rw [hfar _ (by omega)]; exact HB.out.2.2.1
        · rw [hfar _ (by omega)]; exact HB.out.2.2.2.1
        · rw [hfar _ (Nat.le_refl _)]; exact HB.out.2.2.2.2.1
        · exact HB.out.2.2.2.2.2.1.trans ((HB3.out.mono HB.out.2.2.2.2.2.1.size).trans (hk8.below (by have := HB.out.2.2.2.2.2.1.size; have := HB3.out.size; omega) (fun g hg => by have := (hown g hg).1; omega)))
        · have := HB.out.2.2.2.2.2.2; have := HB3.out.size; have := hk8.size; omega
      clear ho8 hk8 hg8 hown hfar hp3
      go_wp2_with fail
      go_roundw
      case rel => exact ⟨j + 1, d.push X, by omega, by go_num, HF⟩
      case measure => simp [intOf]; omega
    · obtain rfl : (j : Int) = C := by omega
      obtain ⟨xs0, hxs0, hxf0⟩ := HB.out.2.1.own
      obtain ⟨rad0, rcap0, rfl⟩ := own_sl hxs0
      have q1 := cell_of_row wr P3 1 _ _ _ HB.out.2.2.2.2.1
      replace q1 : wr.cell? ⟨P3, 1, none⟩ = some (.int .i64 R) := q1
      clear hxs0 hxf0 hdl
      obtain ⟨d0, rfl⟩ : ∃ d0, d0 = d := ⟨_, rfl⟩
      have HB0 := HB
      obtain ⟨wo, rfl⟩ : ∃ wo : World, wo = wr := ⟨_, rfl⟩
      go_wp2_with fail
      go_loopw [4, 30] (fun v i wr => ∃ (m : Nat) (d : F), (m : Int) ≤ R ∧ i = .int .i64 m ∧ Hid (d = timesF m (repT A D X) d0 ∧ OF wr (P3 + 1) d v ∧  wr.heap[w.heap.size]? = some (.cells #[.int .i64 5, .int .u64 (wd st 0 64 : Nat), .int .u64 (wd st 64 64 : Nat), .int .u64 (wd st 128 64 : Nat), .int .u64 (wd st 192 64 : Nat), .int .i64 l, .int .i64 h, .int .i64 g, .slice (some ⟨b, i0, none⟩) 1 cap] 28 (0, 0)) ∧ wr.heap[w.heap.size + 1]? = some (.cells #[.int .i64 0, .int .u64 0, .int .u64 0, .int .u64 0, .int .u64 0, .int .i64 0, .int .i64 0, .int .i64 0, .slice none 0 0] 28 (0, 0)) ∧ wr.heap[P3]? = some (.cells #[.int .i64 (j : Int), .int .i64 R, .int .i64 A, .int .i64 D] 113 (0, 0)) ∧ Below w.heap.size w wr ∧ P3 < wr.heap.size)) (fun _ i _ => R.toNat - (intOf i).toNat)
      case atStart => exact ⟨0, d0, k3, rfl, Lib.hid ⟨rfl, HB0.out.2⟩⟩
      case round =>
        obtain ⟨m, d, hm, rfl, HB⟩ := hrel
        clear q1
        have hdl : d.len = j + m := by have := congrArg F.len HB.out.1; rw [timesF_len] at this; have := HDl.out; omega
        have HDm := Lib.hid hdl
        by_cases hmn : (m : Int) < R
        · have ki0 : (0 : Int) ≤ m := by omega
          have hq := HB.out.2.2.2.2.1
          have q2 := cell_of_row wr P3 2 _ _ _ hq
          have q3 := cell_of_row wr P3 3 _ _ _ hq
          replace q2 : wr.cell? ⟨P3, 2, none⟩ = some (.int .i64 A) := q2
          replace q3 : wr.cell? ⟨P3, 3, none⟩ = some (.int .i64 D) := q3
          have hbel := HB.out.2.2.2.2.2.1
          have hcell : ∀ j' u, (rowV a.op a.st a.lo a.hi a.g (.slice ad2 a.args.len cp2))[j']? = some u → wr.cell? ⟨b, i0 + j', none⟩ = some u := fun j' u hu => by
            rw [hbel.cell (by exact HBl.out)]
            exact HRow.out j' u hu
          have c0 := hcell 0 _ rfl
          have c1 := hcell 1 _ rfl
          have c2 := hcell 2 _ rfl
          have c3 := hcell 3 _ rfl
          have c4 := hcell 4 _ rfl
          have c5 := hcell 5 _ rfl
          have c6 := hcell 6 _ rfl
          have c7 := hcell 7 _ rfl
          have c8 := hcell 8 _ rfl
          rw [Nat.add_zero] at c0
          obtain ⟨⟨⟨a0, a1, a2⟩, a3, a4, a5⟩, a6, a7, a8⟩ := nine HB.out.2.2.1
          obtain ⟨xs, hxs, hxf⟩ := HB.out.2.1.own
          obtain ⟨rad, rcap, rfl⟩ := own_sl hxs
          have HXs := Lib.hid hxs
          have HXf := Lib.hid hxf
          have HSr : Hid (SV wr S a.args (.slice ad2 a.args.len cp2)) := Lib.hid (HSa.out.far ⟨hbel.size, fun b h1 h2 => ⟨h1, hbel.block b (HS.out b h1)⟩⟩)
          have hl0 : w.heap.size < wr.heap.size := by have := HB.out.2.2.2.2.2.2; have := HP3.out; omega
          clear hcell hxs hxf hbel
          have HSz : Hid (w.heap.size ≤ wr.drew.heap.size) := Lib.hid HB.out.2.2.2.2.2.1.size
          have HSd : Hid (SV wr.drew S a.args (.slice ad2 a.args.len cp2)) := Lib.hid (HSr.out.far (Afar.below (Below.refl wr.heap.size wr).drew))
          clear hdl hq
          go_upto_region 12 with fail
          have HQ2 := Lib.hid q2
          have HQ3 := Lib.hid q3
          have HA8 := Lib.hid a8
          have HC0 := Lib.hid c0
          have HC1 := Lib.hid c1
          have HC2 := Lib.hid c2
          have HC3 := Lib.hid c3
          have HC4 := Lib.hid c4
          have HC5 := Lib.hid c5
          have HC6 := Lib.hid c6
          have HC7 := Lib.hid c7
          have HC8 := Lib.hid c8
          clear q2 q3 a0 a1 a2 a3 a4 a5 a6 a7 a8 c0 c1 c2 c3 c4 c5 c6 c7 c8
          refine wp_region_held_drew (S := fun w' => Below (P3 + 1) wr w') (by kernel_rfl) ?_ (fun hHeld => ?_)
          · exact (Below.refl _ _).drew
          refine wpAnyH_take (i := 0) (v := ?cv0) rfl (by kernel_rfl) (by kernel_rfl) (by kernel_rfl) (fun _ _ _ h => h) (Or.inl ⟨by rfl, ?cy0⟩) (by assumption) ?cr0
          case cy0 =>
            intro wx hSw
            clear hSw
            go_simp
            first | done | (with_reducible rfl)
          (try simp only [Act.put, List.getElem_toArray, List.getElem_cons_zero, List.setIfInBounds_toArray, List.set_cons_zero, List.set_cons_succ])
          refine wpAnyH_take (i := 1) (v := ?cv1) rfl (by kernel_rfl) (by kernel_rfl) (by kernel_rfl) (fun _ _ _ h => h) (Or.inl ⟨by rfl, ?cy1⟩) (by assumption) ?cr1
          case cy1 =>
            intro wx hSw
            clear hSw
            go_simp
            first | done | (with_reducible rfl)
          (try simp only [Act.put, List.getElem_toArray, List.getElem_cons_succ, List.getElem_cons_zero, List.setIfInBounds_toArray, List.set_cons_zero, List.set_cons_succ])
          refine wpAnyH_take (i := 2) (v := ?cv2) rfl (by kernel_rfl) (by kernel_rfl) (by kernel_rfl) (fun _ _ _ h => h) (Or.inl ⟨by rfl, ?cy2⟩) (by assumption) ?cr2
          case cy2 =>
            intro wx hSw
            have hq2 := (hSw.cell (p := ⟨P3, 2, none⟩) (Nat.lt_succ_self _)).trans HQ2.out
            clear hSw
            go_simp
            first | done | (with_reducible rfl)
          (try simp only [Act.put, List.getElem_toArray, List.getElem_cons_succ, List.getElem_cons_zero, List.setIfInBounds_toArray, List.set_cons_zero, List.set_cons_succ])
          refine wpAnyH_take (i := 3) (v := ?cv3) rfl (by kernel_rfl) (by kernel_rfl) (by kernel_rfl) (fun _ _ _ h => h) (Or.inl ⟨by rfl, ?cy3⟩) (by assumption) ?cr3
          case cy3 =>
            intro wx hSw
            clear hSw
            go_simp
            first | done | (with_reducible rfl)
          (try simp only [Act.put, List.getElem_toArray, List.getElem_cons_succ, List.getElem_cons_zero, List.setIfInBounds_toArray, List.set_cons_zero, List.set_cons_succ])
          refine wpAnyH_take (i := 4) (v := ?cv4) rfl (by kernel_rfl) (by kernel_rfl) (by kernel_rfl) (fun _ _ _ h => h) (Or.inl ⟨by rfl, ?cy4⟩) (by assumption) ?cr4
          case cy4 =>
            intro wx hSw
            have hq3 := (hSw.cell (p := ⟨P3, 3, none⟩) (Nat.lt_succ_self _)).trans HQ3.out
            clear hSw
            go_simp
            first | done | (with_reducible rfl)
          (try simp only [Act.put, List.getElem_toArray, List.getElem_cons_succ, List.getElem_cons_zero, List.setIfInBounds_toArray, List.set_cons_zero, List.set_cons_succ])
          refine wpAnyH_take (i := 5) (v := ?cv5) rfl (by kernel_rfl) (by kernel_rfl) (by kernel_rfl) (fun _ _ _ h => h) (Or.inl ⟨by rfl, ?cy5⟩) (by assumption) ?cr5
          case cy5 =>
            intro wx hSw
            clear hSw
            go_simp
            first | done | (with_reducible rfl)
          (try simp only [Act.put, List.getElem_toArray, List.getElem_cons_succ, List.getElem_cons_zero, List.setIfInBounds_toArray, List.set_cons_zero, List.set_cons_succ])
          refine wpAnyH_take (i := 6) (v := ?cv6) rfl (by kernel_rfl) (by kernel_rfl) (by kernel_rfl) (fun _ _ _ h => h) (Or.inl ⟨by rfl, ?cy6⟩) (by assumption) ?cr6
          case cy6 =>
            intro wx hSw
            have ha8 := (hSw.cell (p := ⟨w.heap.size, 8, none⟩) (by have := HP3.out; show w.heap.size < _; omega)).trans HA8.out
            clear hSw
            go_simp
            first | done | (with_reducible rfl)
          (try simp only [Act.put, List.getElem_toArray, List.getElem_cons_succ, List.getElem_cons_zero, List.setIfInBounds_toArray, List.set_cons_zero, List.set_cons_succ])
          refine wpAnyH_take (i := 7) (v := ?cv7) rfl (by kernel_rfl) (by kernel_rfl) (by kernel_rfl) (fun _ _ _ h => h) (Or.inl ⟨by rfl, ?cy7⟩) (by assumption) ?cr7
          case cy7 =>
            intro wx hSw
            clear hSw
            go_simp
            first | done | (with_reducible rfl)
          (try simp only [Act.put, List.getElem_toArray, List.getElem_cons_succ, List.getElem_cons_zero, List.setIfInBounds_toArray, List.set_cons_zero, List.set_cons_succ])
          refine wpAnyH_take (i := 8) (v := ?cv8) rfl (by kernel_rfl) (by kernel_rfl) (by kernel_rfl) (fun _ _ _ h => h) (Or.inl ⟨by rfl, ?cy8⟩) (by assumption) ?cr8
          case cy8 =>
            intro wx hSw
            have hc0 := (hSw.cell (p := ⟨b, i0, none⟩) (by have := HP3.out; have := HBl.out; show b < _; omega)).trans HC0.out
            have hc1 := (hSw.cell (p := ⟨b, i0 + 1, none⟩) (by have := HP3.out; have := HBl.out; show b < _; omega)).trans HC1.out
            have hc2 := (hSw.cell (p := ⟨b, i0 + 2, none⟩) (by have := HP3.out; have := HBl.out; show b < _; omega)).trans HC2.out
            have hc3 := (hSw.cell (p := ⟨b, i0 + 3, none⟩) (by have := HP3.out; have := HBl.out; show b < _; omega)).trans HC3.out
            have hc4 := (hSw.cell (p := ⟨b, i0 + 4, none⟩) (by have := HP3.out; have := HBl.out; show b < _; omega)).trans HC4.out
            have hc5 := (hSw.cell (p := ⟨b, i0 + 5, none⟩) (by have := HP3.out; have := HBl.out; show b < _; omega)).trans HC5.out
            have hc6 := (hSw.cell (p := ⟨b, i0 + 6, none⟩) (by have := HP3.out; have := HBl.out; show b < _; omega)).trans HC6.out
            have hc7 := (hSw.cell (p := ⟨b, i0 + 7, none⟩) (by have := HP3.out; have := HBl.out; show b < _; omega)).trans HC7.out
            have hc8 := (hSw.cell (p := ⟨b, i0 + 8, none⟩) (by have := HP3.out; have := HBl.out; show b < _; omega)).trans HC8.out
            clear hSw
            go_simp
            first | done | (with_reducible rfl)
          (try simp only [Act.put, List.getElem_toArray, List.getElem_cons_succ, List.getElem_cons_zero, List.setIfInBounds_toArray, List.set_cons_zero, List.set_cons_succ])
          refine wpAnyH_ready (rs := [9]) (by kernel_rfl) (by simp) ?_
          refine AllReadyH.cons rfl (fun K hK => ?_) AllReadyH.nil
          go_simp
          go_at_call 50
          refine (HEx.out _ HSd.out HSz.out).mono ?_
          rintro e w1 ⟨sv3, rfl, hx3, hb3⟩
          have HX3 := Lib.hid hx3
          have HB3 := Lib.hid (((Below.refl wr.heap.size wr).drew).trans hb3)
          have HAl := Lib.hid ((Below.refl w1.heap.size w1).alloc (Nat.le_refl _) (.cells (rowV X.op X.st X.lo X.hi X.g sv3).toArray 28))
          clear hx3 hb3
          refine hK.out _ _ ?_ (fun hHeld1 => ?_)
          · exact HB3.out.mono HB.out.2.2.2.2.2.2
          clear hK K
          (try simp only [Act.put, List.getElem_toArray, List.getElem_cons_succ, List.getElem_cons_zero, List.setIfInBounds_toArray, List.set_cons_zero, List.set_cons_succ])
          refine wpAnyH_ready (rs := [10]) (by kernel_rfl) (by simp) ?_
          refine AllReadyH.cons rfl (fun K hK => ?_) AllReadyH.nil
          go_simp
          refine hK.out _ _ ?_ (fun hHeld2 => ?_)
          · exact hHeld1.alloc (by have := HB.out.2.2.2.2.2.2; have := HB3.out.size; omega) _
          clear hK K
          (try simp only [Act.put, List.getElem_toArray, List.getElem_cons_succ, List.getElem_cons_zero, List.setIfInBounds_toArray, List.set_cons_zero, List.set_cons_succ])
          refine wpAnyH_take (i := 11) (v := ?cv11) rfl (by kernel_rfl) (by kernel_rfl) (by kernel_rfl) (fun _ _ _ h => h) (Or.inl ⟨by rfl, ?cy11⟩) (by assumption) ?cr11
          case cy11 =>
            intro wx hSw
            clear hSw
            go_simp
            first | done | (with_reducible rfl)
          (try simp only [Act.put, List.getElem_toArray, List.getElem_cons_succ, List.getElem_cons_zero, List.setIfInBounds_toArray, List.set_cons_zero, List.set_cons_succ])
          refine wpAnyH_ready (rs := [12]) (by kernel_rfl) (by simp) ?_
          refine AllReadyH.cons rfl (fun K hK => ?_) AllReadyH.nil
          go_simp
          refine hK.out _ _ ?_ (fun hHeld3 => ?_)
          · exact hHeld2.alloc (by have := HB.out.2.2.2.2.2.2; have := hHeld2.size; omega) _
          clear hK K
          (try simp only [Act.put, List.getElem_toArray, List.getElem_cons_succ, List.getElem_cons_zero, List.setIfInBounds_toArray, List.set_cons_zero, List.set_cons_succ])
          refine wpAnyH_ready (rs := [13]) (by kernel_rfl) (by simp) ?_
          refine AllReadyH.cons rfl (fun K hK => ?_) AllReadyH.nil
          refine sapp1 (P3 + 1) 26 28 (.agg #[.int .i64 0, .int .u64 0, .int .u64 0, .int .u64 0, .int .u64 0, .int .i64 0, .int .i64 0, .int .i64 0, .slice none 0 0]) 9 88 Try.underlying26 infoRe rfl (by decide) (w1.alloc (.cells (rowV X.op X.st X.lo X.hi X.g sv3).toArray 28)) rfl (.tmp 32) (.tmp 44) rfl (by have := HB.out.2.2.2.2.2.2; have := HB3.out.size; have := HAl.out.size; omega) (.slice rad d.len rcap) d.len xs [.int .i64 5, .int .u64 0, .int .u64 0, .int .u64 0, .int .u64 0, .int .i64 A, .int .i64 D, .int .i64 0, .slice (some ⟨w1.heap.size, 0, none⟩) 1 1] rfl rfl (own_below HXs.out (HB3.out.trans (HAl.out.mono HB3.out.size))) (w1.heap.size + 1) (by simp) rfl rfl ?d4 ?d5 ?d6 ?_
          case d4 => simp [Value.oneCell']
          case d5 => have := HDm.out; unfold maxLen; omega
          case d6 => have := HDm.out; omega
          intro g0 cap0 w8 ho8 hk8 hg8
          have hown := fun g hg => own_at HXs.out g hg
          have hp3 := HP3.out
          have hbA := HB3.out.trans (HAl.out.mono HB3.out.size)
          have hfar : ∀ k, k ≤ P3 → w8.heap[k]? = wr.heap[k]? := fun k hk => by
            have h1 := HB.out.2.2.2.2.2.2
            have h2 := hbA.size
            exact (hk8.block k (by omega) (fun e => by have := (hown k e).1; omega)).trans (hbA.block k (by omega))
          have hxs1 : SV (w1.alloc (.cells (rowV X.op X.st X.lo X.hi X.g sv3).toArray 28)) (Frm wr.heap.size) (F.nil.push X) (.slice (some ⟨w1.heap.size, 0, none⟩) 1 1) := by
            have hp : FV (w1.alloc (.cells (rowV X.op X.st X.lo X.hi X.g sv3).toArray 28)) (Frm wr.heap.size) (F.nil.push X) ([] ++ rowV X.op X.st X.lo X.hi X.g sv3) := FV.push (HX3.out.far (Afar.frm HAl.out (Nat.le_refl _))) rfl
            refine ⟨_, _, 1, rfl, Nat.le_refl _, hp, .inr ⟨w1.heap.size, 0, rfl, HB3.out.size, by simp, fun j u hu => ?_⟩⟩
            have := new_cells w1 (rowV X.op X.st X.lo X.hi X.g sv3) 28 j u hu
            rw [add_at] at this
            rw [Nat.zero_add]
            exact this
          have HF : Hid (d.push (repT A D X) = timesF (m + 1) (repT A D X) d0 ∧ OF w8 (P3 + 1) (d.push (repT A D X)) (.slice (some ⟨g0, 0, none⟩) (d.len + 1) cap0) ∧  w8.heap[w.heap.size]? = some (.cells #[.int .i64 5, .int .u64 (wd st 0 64 : Nat), .int .u64 (wd st 64 64 : Nat), .int .u64 (wd st 128 64 : Nat), .int .u64 (wd st 192 64 : Nat), .int .i64 l, .int .i64 h, .int .i64 g, .slice (some ⟨b, i0, none⟩) 1 cap] 28 (0, 0)) ∧ w8.heap[w.heap.size + 1]? = some (.cells #[.int .i64 0, .int .u64 0, .int .u64 0, .int .u64 0, .int .u64 0, .int .i64 0, .int .i64 0, .int .i64 0, .slice none 0 0] 28 (0, 0)) ∧ w8.heap[P3]? = some (.cells #[.int .i64 (j : Int), .int .i64 R, .int .i64 A, .int .i64 D] 113 (0, 0)) ∧ Below w.heap.size w w8 ∧ P3 < w8.heap.size) := by
            refine Lib.hid ⟨by rw [timesF_succ, ← HB.out.1], OF.push (x := repT A D X) HB.out.2.1 hbA hxs1 HXs.out HXf.out (by show World.ownsRow _ _ _ _ _ _ (xs ++ rowV 5 noSet A D 0 _); rw [row_noSet]; exact ho8) hk8 (by rcases hg8 with h1 | h1; exact .inl h1; exact .inr (by simpa using h1)) (by have := HB.out.2.2.2.2.2.2; omega), ?_, ?_, ?_, ?_, ?_⟩
            · rw [hfar _ (by omega)]; exact HB.out.2.2.1
            · rw [hfar _ (by omega)]; exact HB.out.2.2.2.1
            · rw [hfar _ (Nat.le_refl _)]; exact HB.out.2.2.2.2.1
            · exact HB.out.2.2.2.2.2.1.trans ((hbA.mono HB.out.2.2.2.2.2.1.size).trans (hk8.below (by have := HB.out.2.2.2.2.2.1.size; have := hbA.size; omega) (fun g hg => by have := (hown g hg).1; omega)))
            · have := HB.out.2.2.2.2.2.2; have := hbA.size; have := hk8.size; omega
          refine hK.out _ _ ?_ (fun hHeld4 => ?_)
          · exact (hbA.mono HB.out.2.2.2.2.2.2).trans (hk8.below (by have := hbA.size; have := HB.out.2.2.2.2.2.2; omega) (fun g hg => by have := (hown g hg).1; omega))
          clear hK K
          clear ho8 hk8 hg8 hown hfar hp3 hbA hxs1
          (try simp only [Act.put, List.getElem_toArray, List.getElem_cons_succ, List.getElem_cons_zero, List.setIfInBounds_toArray, List.set_cons_zero, List.set_cons_succ])
          refine wpAnyH_take (i := 14) (v := ?cv14) rfl (by kernel_rfl) (by kernel_rfl) (by kernel_rfl) (fun _ _ _ h => h) (Or.inl ⟨by rfl, ?cy14⟩) (by assumption) ?cr14
          case cy14 =>
            intro wx hSw
            clear hSw
            go_simp
            first | done | (with_reducible rfl)
          (try simp only [Act.put, List.getElem_toArray, List.getElem_cons_succ, List.getElem_cons_zero, List.setIfInBounds_toArray, List.set_cons_zero, List.set_cons_succ])
          refine wpAnyH_done (by kernel_rfl) ?_ _
          go_wp2_with fail
          go_roundw
          case rel => exact ⟨m + 1, d.push (repT A D X), by omega, by go_num, HF⟩
          case measure => simp [intOf]; omega
        · obtain rfl : (m : Int) = R := by omega
          have hXe : catT d = Xq := by
            rw [← HXq.out, HB.out.1, HB0.out.1]
            rfl
          have HXe := Lib.hid hXe
          obtain ⟨xs1, hxs1, hxf1⟩ := HB.out.2.1.own
          obtain ⟨rad1, rcap1, rfl⟩ := own_sl hxs1
          have hpP := HP3.out
          have h6r := HB.out.2.2.2.1
          have HR6 := Lib.hid h6r
          have hbel := HB.out.2.2.2.2.2.1
          have HBel := Lib.hid hbel
          have HXs := Lib.hid hxs1
          clear hXe hxs1 hxf1 h6r hbel hdl
          by_cases z0 : d.len = 0
          · have kz : (d.len : Int) = 0 := by omega
            have hX : Xq = ⟨1, noSet, 0, 0, 0, .nil⟩ := by rw [← HXe.out, len0 z0]; rfl
            go_wp2_with (first
              | (refine wpList_store_row rfl 28 (.tmp 2) (.tmp 51) rfl (w.heap.size + 1) #[.int .i64 1, .int .u64 0, .int .u64 0, .int .u64 0, .int .u64 0, .int .i64 0, .int .i64 0, .int .i64 0, .slice none 0 0] rfl rfl 28 _ HR6.out isz_re rfl (by simp [Value.oneCell']) ?_))
            refine bodyPost_ret (v := .agg #[.int .i64 1, .int .u64 0, .int .u64 0, .int .u64 0, .int .u64 0, .int .i64 0, .int .i64 0, .int .i64 0, .slice none 0 0]) (results_cell_row rfl _ _ (w.heap.size + 1) _ #[.int .i64 1, .int .u64 0, .int .u64 0, .int .u64 0, .int .u64 0, .int .i64 0, .int .i64 0, .int .i64 0, .slice none 0 0] (0, 0) _ rfl (setRow_heap wr _ _ _ _ _ HR6.out) Try.underlying28 rfl isz_re) rfl ?_
            subst hX
            refine ⟨.slice none 0 0, ?_, .nil _ _, below_setRow HBel.out (by omega) _⟩
            simp only [wd_noSet.1, wd_noSet.2.1, wd_noSet.2.2.1, wd_noSet.2.2.2]
            rfl
          · have kz : ¬ (d.len : Int) = 0 := by omega
            by_cases z1 : d.len = 1
            · have k1 : (d.len : Int) = 1 := by omega
              obtain ⟨o1, s1, l1, h1, g1, a1, hd⟩ := len1 z1
              have hX : Xq = ⟨o1, s1, l1, h1, g1, a1⟩ := by rw [← HXe.out, hd]; rfl
              obtain ⟨zs, ad3, cap3, hs3, hc3, hf3, hr3⟩ := HB.out.2.1.sv
              rcases hr3 with hr3 | ⟨b3, i3, hr3, hb3, hlt3, hcl3⟩
              · exact absurd hr3 z0
              obtain ⟨rfl, rfl⟩ : rad1 = ad3 ∧ rcap1 = cap3 := by cases hs3; exact ⟨rfl, rfl⟩
              subst hr3
              rw [hd] at hf3
              obtain ⟨sv1, ys, rfl, hsv1, hys⟩ := FV.cons.1 hf3
              cases hys
              rw [List.append_nil] at hcl3
              have hcell : ∀ j' u, (rowV o1 s1 l1 h1 g1 sv1)[j']? = some u → wr.cell? ⟨b3, i3 + j', none⟩ = some u := hcl3
              have c0 := hcell 0 _ rfl
              have c1 := hcell 1 _ rfl
              have c2 := hcell 2 _ rfl
              have c3 := hcell 3 _ rfl
              have c4 := hcell 4 _ rfl
              have c5 := hcell 5 _ rfl
              have c6 := hcell 6 _ rfl
              have c7 := hcell 7 _ rfl
              have c8 := hcell 8 _ rfl
              rw [Nat.add_zero] at c0
              have HSv := Lib.hid hsv1
              have HB3 := Lib.hid hb3
              have HLt := Lib.hid hlt3
              clear hs3 hc3 hf3 hcl3 hcell hsv1 hb3 hlt3 hd
              go_wp2_with (first
                | (refine wpList_store_row rfl 28 (.tmp 2) (.tmp 56) rfl (w.heap.size + 1) (rowV o1 s1 l1 h1 g1 sv1).toArray rfl rfl 28 _ HR6.out isz_re rfl (by obtain ⟨ad4, cap4, rfl⟩ := slice_form HSv.out; simp [rowV, Value.oneCell']) ?_))
              refine bodyPost_ret (v := .agg (rowV o1 s1 l1 h1 g1 sv1).toArray) (results_cell_row rfl _ _ (w.heap.size + 1) _ (rowV o1 s1 l1 h1 g1 sv1).toArray (0, 0) _ rfl (setRow_heap wr _ _ _ _ _ HR6.out) Try.underlying28 rfl isz_re) rfl ?_
              subst hX
              refine ⟨sv1, rfl, HSv.out.far ⟨by rw [setRow_size]; exact Nat.le_refl _, fun b hb1 _ => ?_⟩, below_setRow HBel.out (by omega) _⟩
              have hb1 : P3 + 1 ≤ b := hb1
              exact ⟨by show w.heap.size ≤ b; omega, setRow_other wr _ b _ (by omega)⟩
            · have k1 : ¬ (d.len : Int) = 1 := by omega
              have hX : Xq = ⟨3, noSet, 0, 0, 0, d⟩ := by rw [← HXe.out]; exact catT_many (by omega)
              go_wp2_with (first
                | (refine wpList_store_row rfl 28 (.tmp 2) (.tmp 58) rfl (w.heap.size + 1) #[.int .i64 3, .int .u64 0, .int .u64 0, .int .u64 0, .int .u64 0, .int .i64 0, .int .i64 0, .int .i64 0, .slice rad1 d.len rcap1] rfl rfl 28 _ HR6.out isz_re rfl (by simp [Value.oneCell']) ?_))
              refine bodyPost_ret (v := .agg #[.int .i64 3, .int .u64 0, .int .u64 0, .int .u64 0, .int .u64 0, .int .i64 0, .int .i64 0, .int .i64 0, .slice rad1 d.len rcap1]) (results_cell_row rfl _ _ (w.heap.size + 1) _ #[.int .i64 3, .int .u64 0, .int .u64 0, .int .u64 0, .int .u64 0, .int .i64 0, .int .i64 0, .int .i64 0, .slice rad1 d.len rcap1] (0, 0) _ rfl (setRow_heap wr _ _ _ _ _ HR6.out) Try.underlying28 rfl isz_re) rfl ?_
              subst hX
              refine ⟨.slice rad1 d.len rcap1, ?_, HB.out.2.1.sv.far ⟨by rw [setRow_size]; exact Nat.le_refl _, fun b hb1 _ => ?_⟩, below_setRow HBel.out (by omega) _⟩
              · simp only [wd_noSet.1, wd_noSet.2.1, wd_noSet.2.2.1, wd_noSet.2.2.2]
                rfl
              have hb1 : P3 + 1 ≤ b := hb1
              exact ⟨by show w.heap.size ≤ b; omega, setRow_other wr _ b _ (by omega)⟩
end Go.Proofs.Ytpfbpgbgedbalaa
/- expanded, of every tree. -/
set_option linter.unusedVariables false
set_option linter.unusedSimpArgs false
set_option maxRecDepth 100000
set_option maxHeartbeats 4000000
namespace Go.Proofs.Ytpfbpgbgedbalaa
open Go.RowKit

theorem expg_of (f : F) (hch : ∀ i, i < f.len → ExpG (f.nth i).args) : ExpG f := by
  intro o l h g st sv w S hsv hS hok
  by_cases o5 : o = 5
  · subst o5
    obtain ⟨h1, hl, hh⟩ := hok.1.2 rfl
    obtain ⟨o1, s1, l1, h2, g1, a1, rfl⟩ := len1 h1
    obtain ⟨zs, ad, cap, rfl, hcap, hfv, hcells⟩ := hsv
    obtain ⟨sva, ys, rfl, hsa, hys⟩ := FV.cons.1 hfv
    cases hys
    rw [List.append_nil] at hcells
    rcases hcells with h0 | ⟨b, i, rfl, hSb, hlt, hce⟩
    · cases h0
    obtain ⟨ad2, cp2, rfl⟩ := slice_form hsa
    have hx := exp_5 ⟨o1, s1, l1, h2, g1, a1⟩ (hch 0 (Nat.zero_lt_succ _)) l h g st b i cap ad2 cp2 w S hlt hce hsa hS hok.2.1 hl hh _ rfl
    exact hx
  · have e5 : (o == 5) = false := by simpa using o5
    have hx := exp_x f hch o l h g st sv w S hsv hS hok e5 o5
    have he : expT ⟨o, st, l, h, g, f⟩ = ⟨o, st, l, h, g, expF f⟩ := by unfold expT expN; rw [if_neg o5]
    rw [he]
    exact hx
theorem expg_all : ∀ f : F, (∀ i, i < f.len → ExpG (f.nth i).args)
  | .nil, _, h => by cases h
  | .cons o s l h g a r, 0, _ => expg_of a (expg_all a)
  | .cons o s l h g a r, i + 1, hi => expg_all r i (by have hi : i + 1 < r.len + 1 := hi; omega)
theorem expg_any (f : F) : ExpG f := expg_of f (expg_all f)
end Go.Proofs.Ytpfbpgbgedbalaa
/- Expand. (Written by gen_rtx7.py.) -/
set_option linter.unusedVariables false
set_option linter.unusedSimpArgs false
set_option maxRecDepth 100000
set_option maxHeartbeats 4000000
namespace Go.Proofs.Ytpfbpgbgedbalaa
open Go.RowKit

theorem results_re2 {fn : Func} {p u : Tmp} (h : fn.results = #[.cell p 28, .tmp u]) (tmps : Array Value) (w : World) (g : Nat) (t : TypeId) (cs : Array Value) (fr : Nat × Nat) (v : Value)
    (hp : tmps.getD p undef = .pointer (some ⟨g, 0, none⟩)) (hv : tmps.getD u undef = v) (hg : w.heap[g]? = some (.cells cs t fr)) (hi : (Try.prog.info? 28).map (·.size) = some cs.size) :
    (results fn tmps).run Try.prog w = .ok (.tuple #[.agg cs, v]) w := by
  rw [results_cell_tmp h, hp, hv]
  simp [asAddr, run_loadVar_row w g t 28 cs fr _ hg Try.underlying28 rfl hi]
def expdT (t : TN) : TN × Int := if checkT t = 0 then (if 4096 < valT exsT t then (T0, 3) else (expT t, 0)) else (T0, checkT t)
theorem okE_valid {t : TN} (h : Valid t) : okE (.cons t.op t.st t.lo t.hi t.g t.args .nil) := by
  obtain ⟨c, h1, _, h2, _⟩ := h
  exact okE_of t.f [] c h1 h2
theorem expand_ti {w : World} {t : TN} {sv : Value} (h : TI w t sv) : Calls Try.prog 19 #[.agg #[.int .i64 t.op, .int .u64 (wd t.st 0 64 : Nat), .int .u64 (wd t.st 64 64 : Nat), .int .u64 (wd t.st 128 64 : Nat), .int .u64 (wd t.st 192 64 : Nat), .int .i64 t.lo, .int .i64 t.hi, .int .i64 t.g, sv]] w fun e w' => ∃ sv', e = .returned (.tuple #[.agg #[.int .i64 (expdT t).1.op, .int .u64 (wd (expdT t).1.st 0 64 : Nat), .int .u64 (wd (expdT t).1.st 64 64 : Nat), .int .u64 (wd (expdT t).1.st 128 64 : Nat), .int .u64 (wd (expdT t).1.st 192 64 : Nat), .int .i64 (expdT t).1.lo, .int .i64 (expdT t).1.hi, .int .i64 (expdT t).1.g, sv'], .int .i64 (expdT t).2]) ∧ SV w' (Frm w.heap.size) (expdT t).1.args sv' ∧ Below w.heap.size w w' := by
  obtain ⟨ad, cap, rfl⟩ := h.form
  have hb : Below w.heap.size w ((w.alloc (.cells #[.int .i64 t.op, .int .u64 (wd t.st 0 64 : Nat), .int .u64 (wd t.st 64 64 : Nat), .int .u64 (wd t.st 128 64 : Nat), .int .u64 (wd t.st 192 64 : Nat), .int .i64 t.lo, .int .i64 t.hi, .int .i64 t.g, .slice ad t.args.len cap] 28)).alloc (.cells #[.int .i64 0, .int .u64 0, .int .u64 0, .int .u64 0, .int .u64 0, .int .i64 0, .int .i64 0, .int .i64 0, .slice none 0 0] 28)) := ((Below.refl _ _).alloc (Nat.le_refl _) _).alloc (by simp) _
  have he : ((w.alloc (.cells #[.int .i64 t.op, .int .u64 (wd t.st 0 64 : Nat), .int .u64 (wd t.st 64 64 : Nat), .int .u64 (wd t.st 128 64 : Nat), .int .u64 (wd t.st 192 64 : Nat), .int .i64 t.lo, .int .i64 t.hi, .int .i64 t.g, .slice ad t.args.len cap] 28)).alloc (.cells #[.int .i64 0, .int .u64 0, .int .u64 0, .int .u64 0, .int .u64 0, .int .i64 0, .int .i64 0, .int .i64 0, .slice none 0 0] 28)).heap[w.heap.size]? = some (.cells #[.int .i64 t.op, .int .u64 (wd t.st 0 64 : Nat), .int .u64 (wd t.st 64 64 : Nat), .int .u64 (wd t.st 128 64 : Nat), .int .u64 (wd t.st 192 64 : Nat), .int .i64 t.lo, .int .i64 t.hi, .int .i64 t.g, .slice ad t.args.len cap] 28 (0, 0)) := by
    rw [Below.heap_alloc _ _ _ (by simp)]
    exact heap_alloc_new w _
  have hr : ((w.alloc (.cells #[.int .i64 t.op, .int .u64 (wd t.st 0 64 : Nat), .int .u64 (wd t.st 64 64 : Nat), .int .u64 (wd t.st 128 64 : Nat), .int .u64 (wd t.st 192 64 : Nat), .int .i64 t.lo, .int .i64 t.hi, .int .i64 t.g, .slice ad t.args.len cap] 28)).alloc (.cells #[.int .i64 0, .int .u64 0, .int .u64 0, .int .u64 0, .int .u64 0, .int .i64 0, .int .i64 0, .int .i64 0, .slice none 0 0] 28)).heap[w.heap.size + 1]? = some (.cells #[.int .i64 0, .int .u64 0, .int .u64 0, .int .u64 0, .int .u64 0, .int .i64 0, .int .i64 0, .int .i64 0, .slice none 0 0] 28 (0, 0)) := by
    have := heap_alloc_new (w.alloc (.cells #[.int .i64 t.op, .int .u64 (wd t.st 0 64 : Nat), .int .u64 (wd t.st 64 64 : Nat), .int .u64 (wd t.st 128 64 : Nat), .int .u64 (wd t.st 192 64 : Nat), .int .i64 t.lo, .int .i64 t.hi, .int .i64 t.g, .slice ad t.args.len cap] 28)) (.cells #[.int .i64 0, .int .u64 0, .int .u64 0, .int .u64 0, .int .u64 0, .int .i64 0, .int .i64 0, .int .i64 0, .slice none 0 0] 28)
    simpa using this
  have HT := Lib.hid (h.below hb)
  have HC := Lib.hid (check_ti (h.below hb))
  have HB := Lib.hid hb
  have HE := Lib.hid he
  have HR := Lib.hid hr
  have hl : w.heap.size + 1 < ((w.alloc (.cells #[.int .i64 t.op, .int .u64 (wd t.st 0 64 : Nat), .int .u64 (wd t.st 64 64 : Nat), .int .u64 (wd t.st 128 64 : Nat), .int .u64 (wd t.st 192 64 : Nat), .int .i64 t.lo, .int .i64 t.hi, .int .i64 t.g, .slice ad t.args.len cap] 28)).alloc (.cells #[.int .i64 0, .int .u64 0, .int .u64 0, .int .u64 0, .int .u64 0, .int .i64 0, .int .i64 0, .int .i64 0, .slice none 0 0] 28)).heap.size := by simp
  have HL := Lib.hid hl
  clear h hb he hr hl
  unfold expdT
  by_cases hc : checkT t = 0
  case neg =>
    have hc2 : (checkT t == 0) = false := by simpa using hc
    rw [if_neg hc]
    clear HT
    go_enter Try.func19, Try.ntmps19
    go_wp2_with (first
      | (go_at_call 20; (with_reducible refine HC.out.mono ?_); rintro e w1 ⟨rfl, hb⟩; have HB1 := Lib.hid (HB.out.trans (hb.mono HB.out.size)); have HR1 := Lib.hid ((hb.block (w.heap.size + 1) HL.out).trans HR.out); clear hb)
      | (refine wpList_store_row rfl 28 (.tmp 2) (.tmp 9) rfl (w.heap.size + 1) #[.int .i64 0, .int .u64 0, .int .u64 0, .int .u64 0, .int .u64 0, .int .i64 0, .int .i64 0, .int .i64 0, .slice none 0 0] rfl rfl 28 _ HR1.out isz_re rfl (by simp [Value.oneCell']) ?_))
    refine bodyPost_ret (v := .tuple #[.agg #[.int .i64 0, .int .u64 0, .int .u64 0, .int .u64 0, .int .u64 0, .int .i64 0, .int .i64 0, .int .i64 0, .slice none 0 0], .int .i64 (checkT t)]) (results_re2 rfl _ _ (w.heap.size + 1) _ #[.int .i64 0, .int .u64 0, .int .u64 0, .int .u64 0, .int .u64 0, .int .i64 0, .int .i64 0, .int .i64 0, .slice none 0 0] (0, 0) (.int .i64 (checkT t)) rfl rfl (setRow_heap w1 _ _ _ _ _ HR1.out) isz_re) rfl ?_
    refine ⟨.slice none 0 0, ?_, .nil _ _, below_setRow HB1.out (by omega) _⟩
    simp only [T0, wd_noSet.1, wd_noSet.2.1, wd_noSet.2.2.1, wd_noSet.2.2.2]
    rfl
  case pos =>
    have hv : Valid t := (checkT_iff t).1 hc
    have hp := preN_of (I := EOk) (R := exsT) exsT_ok t hv
    have HOk := Lib.hid (okE_valid hv)
    have HV : Hid (∀ W, TI W t (.slice ad t.args.len cap) → Calls Try.prog 48 #[.agg #[.int .i64 t.op, .int .u64 (wd t.st 0 64 : Nat), .int .u64 (wd t.st 64 64 : Nat), .int .u64 (wd t.st 128 64 : Nat), .int .u64 (wd t.st 192 64 : Nat), .int .i64 t.lo, .int .i64 t.hi, .int .i64 t.g, .slice ad t.args.len cap], .func (.func 49) #[] #[]] W fun e w' => e = .returned (.int .i64 (valT exsT t)) ∧ Below W.heap.size W w') := Lib.hid (fun W hW => by
      obtain ⟨S, k1, k2, _⟩ := hW
      exact valueof_i EOk exsT (Lib.hid rule_i) t _ W S k1 k2 hp.1)
    have HX : Hid (∀ W, TI W t (.slice ad t.args.len cap) → Calls Try.prog 50 #[.agg #[.int .i64 t.op, .int .u64 (wd t.st 0 64 : Nat), .int .u64 (wd t.st 64 64 : Nat), .int .u64 (wd t.st 128 64 : Nat), .int .u64 (wd t.st 192 64 : Nat), .int .i64 t.lo, .int .i64 t.hi, .int .i64 t.g, .slice ad t.args.len cap]] W fun e w' => ∃ sv', e = .returned (.agg #[.int .i64 (expT t).op, .int .u64 (wd (expT t).st 0 64 : Nat), .int .u64 (wd (expT t).st 64 64 : Nat), .int .u64 (wd (expT t).st 128 64 : Nat), .int .u64 (wd (expT t).st 192 64 : Nat), .int .i64 (expT t).lo, .int .i64 (expT t).hi, .int .i64 (expT t).g, sv']) ∧ SV w' (Frm W.heap.size) (expT t).args sv' ∧ Below W.heap.size W w') := Lib.hid (fun W hW => by
      obtain ⟨S, k1, k2, _⟩ := hW
      exact expg_any t.args t.op t.lo t.hi t.g t.st _ W S k1 k2 HOk.out)
    clear hv hp HOk
    rw [hc] at HC
    rw [if_pos hc]
    clear hc
    generalize valT exsT t = Y at *
    generalize expT t = Z at *
    by_cases hy : 4096 < Y
    · rw [if_pos hy]
      clear HX
      go_enter Try.func19, Try.ntmps19
      go_wp2_with (first
      | (go_at_call 20; (with_reducible refine HC.out.mono ?_); rintro e w1 ⟨rfl, hb⟩
         have HB1 := Lib.hid (HB.out.trans (hb.mono HB.out.size))
         have HT1 := Lib.hid (HT.out.below hb)
         have hn := nine ((hb.block w.heap.size (by have := HL.out; omega)).trans HE.out)
         obtain ⟨⟨⟨a0, a1, a2⟩, a3, a4, a5⟩, a6, a7, a8⟩ := hn
         have hl1 : w.heap.size < w1.heap.size := by have := hb.size; have := HL.out; omega
         have HR1 := Lib.hid ((hb.block (w.heap.size + 1) HL.out).trans HR.out)
         clear hb)
      | (go_at_call 48; (with_reducible refine (HV.out _ HT1.out).mono ?_); rintro e w2 ⟨rfl, hb⟩
         have HB2 := Lib.hid (HB1.out.trans (hb.mono HB1.out.size))
         have HR2 := Lib.hid ((hb.block (w.heap.size + 1) (Array.getElem?_eq_some_iff.1 HR1.out).1).trans HR1.out)
         clear hb a0 a1 a2 a3 a4 a5 a6 a7 a8 hl1)
      | (refine wpList_store_row rfl 28 (.tmp 2) (.tmp 14) rfl (w.heap.size + 1) #[.int .i64 0, .int .u64 0, .int .u64 0, .int .u64 0, .int .u64 0, .int .i64 0, .int .i64 0, .int .i64 0, .slice none 0 0] rfl rfl 28 _ HR2.out isz_re rfl (by simp [Value.oneCell']) ?_))
      refine bodyPost_ret (v := .tuple #[.agg #[.int .i64 0, .int .u64 0, .int .u64 0, .int .u64 0, .int .u64 0, .int .i64 0, .int .i64 0, .int .i64 0, .slice none 0 0], .int .i64 3]) (results_re2 rfl _ _ (w.heap.size + 1) _ #[.int .i64 0, .int .u64 0, .int .u64 0, .int .u64 0, .int .u64 0, .int .i64 0, .int .i64 0, .int .i64 0, .slice none 0 0] (0, 0) (.int .i64 3) rfl rfl (setRow_heap w2 _ _ _ _ _ HR2.out) isz_re) rfl ?_
      refine ⟨.slice none 0 0, ?_, .nil _ _, below_setRow HB2.out (by omega) _⟩
      simp only [T0, wd_noSet.1, wd_noSet.2.1, wd_noSet.2.2.1, wd_noSet.2.2.2]
      rfl
    · rw [if_neg hy]
      go_enter Try.func19, Try.ntmps19
      go_wp2_with (first
      | (go_at_call 20; (with_reducible refine HC.out.mono ?_); rintro e w1 ⟨rfl, hb⟩
         have HB1 := Lib.hid (HB.out.trans (hb.mono HB.out.size))
         have HT1 := Lib.hid (HT.out.below hb)
         have HE1 := Lib.hid ((hb.block w.heap.size (by have := HL.out; omega)).trans HE.out)
         have hn := nine HE1.out
         obtain ⟨⟨⟨a0, a1, a2⟩, a3, a4, a5⟩, a6, a7, a8⟩ := hn
         have hl1 : w.heap.size < w1.heap.size := by have := hb.size; have := HL.out; omega
         have HR1 := Lib.hid ((hb.block (w.heap.size + 1) HL.out).trans HR.out)
         clear hb)
      | (go_at_call 48; (with_reducible refine (HV.out _ HT1.out).mono ?_); rintro e w2 ⟨rfl, hb⟩
         have HB2 := Lib.hid (HB1.out.trans (hb.mono HB1.out.size))
         have HT2 := Lib.hid (HT1.out.below hb)
         clear a0 a1 a2 a3 a4 a5 a6 a7 a8
         have HE2 := Lib.hid ((hb.block w.heap.size hl1).trans HE1.out)
         have hn := nine HE2.out
         obtain ⟨⟨⟨a0, a1, a2⟩, a3, a4, a5⟩, a6, a7, a8⟩ := hn
         have hl2 : w.heap.size < w2.heap.size := by have := hb.size; omega
         have HR2 := Lib.hid ((hb.block (w.heap.size + 1) (Array.getElem?_eq_some_iff.1 HR1.out).1).trans HR1.out)
         clear hb hl1)
      | (go_at_call 50; (with_reducible refine (HX.out _ HT2.out).mono ?_); rintro e w3 ⟨sv3, rfl, hsv3, hb⟩
         have HB3 := Lib.hid (HB2.out.trans (hb.mono HB2.out.size))
         have HS3 := Lib.hid hsv3
         have HZ3 := Lib.hid (Nat.lt_of_lt_of_le (Nat.lt_of_lt_of_le HL.out (Nat.le_refl _)) (Nat.le_refl _))
         have HR3 := Lib.hid ((hb.block (w.heap.size + 1) (Array.getElem?_eq_some_iff.1 HR2.out).1).trans HR2.out)
         have HR2s := Lib.hid (Array.getElem?_eq_some_iff.1 HR2.out).1
         clear hb hsv3 a0 a1 a2 a3 a4 a5 a6 a7 a8 hl2)
      | (refine wpList_store_row rfl 28 (.tmp 2) (.tmp 16) rfl (w.heap.size + 1) #[.int .i64 Z.op, .int .u64 (wd Z.st 0 64 : Nat), .int .u64 (wd Z.st 64 64 : Nat), .int .u64 (wd Z.st 128 64 : Nat), .int .u64 (wd Z.st 192 64 : Nat), .int .i64 Z.lo, .int .i64 Z.hi, .int .i64 Z.g, sv3] rfl rfl 28 _ HR3.out isz_re rfl (by obtain ⟨ad4, cap4, rfl⟩ := slice_form HS3.out; simp [Value.oneCell']) ?_))
      refine bodyPost_ret (v := .tuple #[.agg #[.int .i64 Z.op, .int .u64 (wd Z.st 0 64 : Nat), .int .u64 (wd Z.st 64 64 : Nat), .int .u64 (wd Z.st 128 64 : Nat), .int .u64 (wd Z.st 192 64 : Nat), .int .i64 Z.lo, .int .i64 Z.hi, .int .i64 Z.g, sv3], .int .i64 0]) (results_re2 rfl _ _ (w.heap.size + 1) _ #[.int .i64 Z.op, .int .u64 (wd Z.st 0 64 : Nat), .int .u64 (wd Z.st 64 64 : Nat), .int .u64 (wd Z.st 128 64 : Nat), .int .u64 (wd Z.st 192 64 : Nat), .int .i64 Z.lo, .int .i64 Z.hi, .int .i64 Z.g, sv3] (0, 0) (.int .i64 0) rfl rfl (setRow_heap w3 _ _ _ _ _ HR3.out) isz_re) rfl ?_
      have hz2 := HR2s.out
      refine ⟨sv3, rfl, HS3.out.far ⟨by rw [setRow_size]; exact Nat.le_refl _, fun b hb1 _ => ?_⟩, below_setRow HB3.out (by omega) _⟩
      have hb1 : w2.heap.size ≤ b := hb1
      exact ⟨by show w.heap.size ≤ b; omega, setRow_other w3 _ b _ (by omega)⟩
end Go.Proofs.Ytpfbpgbgedbalaa
/- Expanded trees are small in every field; Expand in the words of TI. -/
set_option linter.unusedVariables false
set_option linter.unusedSimpArgs false
set_option maxRecDepth 100000
namespace Go.Proofs.Ytpfbpgbgedbalaa
open Go.RowKit

theorem i0 : (-9223372036854775808 : Int) ≤ 0 ∧ (0 : Int) ≤ 9223372036854775807 := by decide
theorem i3 : (-9223372036854775808 : Int) ≤ 3 ∧ (3 : Int) ≤ 9223372036854775807 := by decide
theorem i5 : (-9223372036854775808 : Int) ≤ 5 ∧ (5 : Int) ≤ 9223372036854775807 := by decide
/-- A node's fields fit. -/
def fitN (t : TN) : Prop := F.fits (.cons t.op t.st t.lo t.hi t.g t.args .nil)
theorem fits_cons {o l h g : Int} {s : Nat → Bool} {a r : F} : F.fits (.cons o s l h g a r) ↔ fitN ⟨o, s, l, h, g, a⟩ ∧ r.fits :=
  ⟨fun h => ⟨⟨h.1, h.2.1, h.2.2.1, trivial⟩, h.2.2.2⟩, fun h => ⟨h.1.1, h.1.2.1, h.1.2.2.1, h.2⟩⟩
theorem fits_push : ∀ {f : F} {t : TN}, f.fits → fitN t → (f.push t).fits
  | .nil, _, _, ht => ht
  | .cons o s l h g a r, t, hf, ht => ⟨hf.1, hf.2.1, hf.2.2.1, fits_push hf.2.2.2 ht⟩
theorem fits_times : ∀ (n : Nat) {t : TN} {f : F}, f.fits → fitN t → (timesF n t f).fits
  | 0, _, _, hf, _ => hf
  | n + 1, t, f, hf, ht => fits_times n (fits_push hf ht) ht
theorem fitN_cat {f : F} (h : f.fits) (hl : f.len ≤ maxLen) : fitN (catT f) := by
  cases f with
  | nil => simp [catT, fitN, F.fits, F.len, maxLen]
  | cons o s l h' g a r => cases r with
    | nil => exact h
    | cons _ _ _ _ _ _ _ => exact ⟨⟨i3, i0, i0, i0⟩, hl, h, trivial⟩
theorem fitN_seq {t x : TN} (hx : fitN x) (hl : 0 ≤ t.lo ∧ t.lo ≤ 64) (hh : t.hi = -1 ∨ (t.lo ≤ t.hi ∧ t.hi ≤ 64)) : fitN (catT (seqF t x)) := by
  obtain ⟨⟨c1, c2⟩, ⟨e1, e2⟩⟩ := bounds_cr t.lo t.hi hl hh
  refine fitN_cat ?_ ?_
  · refine fits_times _ (fits_times _ trivial hx) ?_
    refine ⟨⟨i5, ?_, ?_, i0⟩, ?_, ?_, trivial⟩
    · show -9223372036854775808 ≤ loT t.lo t.hi ∧ loT t.lo t.hi ≤ 9223372036854775807
      unfold loT
      split
      · split <;> omega
      · omega
    · show -9223372036854775808 ≤ hiT t.lo t.hi ∧ hiT t.lo t.hi ≤ 9223372036854775807
      unfold hiT
      split <;> omega
    · show 1 ≤ maxLen
      decide
    · exact fits_push (f := .nil) trivial hx
  · unfold seqF
    rw [timesF_len, timesF_len]
    have : F.nil.len = 0 := rfl
    unfold maxLen
    omega
theorem fits_nth0 {f : F} (h : f.fits) (hl : 0 < f.len) : fitN (f.nth 0) := by
  cases f with
  | nil => cases hl
  | cons o s l h' g a r => exact ⟨h.1, h.2.1, h.2.2.1, trivial⟩
theorem fitN_exp {t : TN} (h : fitN t) (hk : (expF t.args).fits) (hok : okE (.cons t.op t.st t.lo t.hi t.g t.args .nil)) : fitN (expT t) := by
  unfold expT expN
  by_cases o5 : t.op = 5
  · rw [if_pos o5]
    obtain ⟨h1, hl, hh⟩ := hok.1.2 o5
    exact fitN_seq (fits_nth0 hk (by rw [expF_len]; omega)) hl hh
  · rw [if_neg o5]
    exact ⟨h.1, by show (expF t.args).len ≤ maxLen; rw [expF_len]; exact h.2.1, hk, trivial⟩
theorem fits_exp : ∀ f : F, f.fits → okE f → (expF f).fits
  | .nil, _, _ => trivial
  | .cons o s l h g a r, hf, hok => by
    have h1 := fitN_exp (t := ⟨o, s, l, h, g, a⟩) ⟨hf.1, hf.2.1, hf.2.2.1, trivial⟩ (fits_exp a hf.2.2.1 hok.2.1) ⟨hok.1, hok.2.1, trivial⟩
    exact fits_cons.2 ⟨h1, fits_exp r hf.2.2.2 hok.2.2⟩
theorem SV.low {w : World} {S : Nat → Prop} {f : F} {sv : Value} (h : SV w S f sv) : SV w (fun b => S b ∧ b < w.heap.size) f sv := h.far ⟨Nat.le_refl _, fun b h1 h2 => ⟨⟨h1, h2⟩, rfl⟩⟩
theorem valid_ranges {t : TN} (h : Valid t) : (1 ≤ t.op ∧ t.op ≤ 9) ∧ (0 ≤ t.lo ∧ t.lo ≤ 64) ∧ (-1 ≤ t.hi ∧ t.hi ≤ 64) := by
  obtain ⟨c, h1, _⟩ := h
  unfold TN.f at h1
  rw [vF] at h1
  by_cases hok : okN t.op t.st t.lo t.hi t.g t.args.len [] = true
  case neg => rw [if_neg hok] at h1; cases h1
  unfold okN fldT havT bndT at hok
  simp only [Bool.and_eq_true, Bool.or_eq_true, Bool.not_eq_true', decide_eq_true_eq, decide_eq_false_iff_not] at hok
  obtain ⟨⟨h2, _, h4, _⟩, h6, _⟩ := hok
  refine ⟨?_, ?_⟩
  · by_cases o1 : t.op = 1 ∨ t.op = 2 ∨ t.op = 7 ∨ t.op = 8 ∨ t.op = 9
    · omega
    · rw [if_neg o1] at h2
      by_cases o2 : t.op = 5 ∨ t.op = 6
      · omega
      · rw [if_neg o2] at h2
        by_cases o3 : t.op = 3 ∨ t.op = 4
        · omega
        · rw [if_neg o3] at h2
          cases h2
  · omega
theorem expand_tj {w : World} {t : TN} {sv : Value} (h : TI w t sv) : Calls Try.prog 19 #[.agg #[.int .i64 t.op, .int .u64 (wd t.st 0 64 : Nat), .int .u64 (wd t.st 64 64 : Nat), .int .u64 (wd t.st 128 64 : Nat), .int .u64 (wd t.st 192 64 : Nat), .int .i64 t.lo, .int .i64 t.hi, .int .i64 t.g, sv]] w fun e w' => ∃ sv', e = .returned (.tuple #[.agg #[.int .i64 (expdT t).1.op, .int .u64 (wd (expdT t).1.st 0 64 : Nat), .int .u64 (wd (expdT t).1.st 64 64 : Nat), .int .u64 (wd (expdT t).1.st 128 64 : Nat), .int .u64 (wd (expdT t).1.st 192 64 : Nat), .int .i64 (expdT t).1.lo, .int .i64 (expdT t).1.hi, .int .i64 (expdT t).1.g, sv'], .int .i64 (expdT t).2]) ∧ TI w' (expdT t).1 sv' ∧ Below w.heap.size w w' := by
  refine (expand_ti h).mono ?_
  rintro e w' ⟨sv', rfl, h1, h2⟩
  have hfit : ((expdT t).1.args.len ≤ maxLen ∧ (expdT t).1.args.fits) ∧ (-9223372036854775808 ≤ (expdT t).1.g ∧ (expdT t).1.g ≤ 9223372036854775807) := by
    unfold expdT
    by_cases hc : checkT t = 0
    · rw [if_pos hc]
      split
      · exact ⟨⟨Nat.zero_le _, trivial⟩, i0⟩
      · have hv := (checkT_iff t).1 hc
        have hok := okE_valid hv
        obtain ⟨S, k1, k2, k3, k4, k5⟩ := h
        obtain ⟨⟨r1, r2⟩, ⟨r3, r4⟩, r5, r6⟩ := valid_ranges hv
        have hn : fitN t := ⟨⟨⟨by omega, by omega⟩, ⟨by omega, by omega⟩, ⟨by omega, by omega⟩, k4, k5⟩, k3.1, k3.2, trivial⟩
        have hx := fitN_exp hn (fits_exp t.args k3.2 hok.2.1) hok
        exact ⟨⟨hx.2.1, hx.2.2.1⟩, hx.1.2.2.2⟩
    · rw [if_neg hc]
      exact ⟨⟨Nat.zero_le _, trivial⟩, i0⟩
  exact ⟨sv', rfl, ⟨_, h1.low, fun b hb => hb.2, hfit.1, hfit.2⟩, h2⟩
end Go.Proofs.Ytpfbpgbgedbalaa
