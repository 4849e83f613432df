/- RtE, RtEr, CsWith, CsOps, RtD. -/
import Derived.Test.YtbjobbkipmkndaaDoorPj8
import Derived.Deep.QuietTactic
import Derived.BigQuiet
import Derived.RegionTactic
import Derived.ChangeAlike
import Derived.Test.YtbjobbkipmkndaaDoorRows
import Derived.Test.YtbjobbkipmkndaaDoorPj0
import Derived.Deep.RegionHeld3
import Derived.Test.YtbjobbkipmkndaaDoorPj7
import Derived.Laws.EntriesVeiled
import Derived.StillTactics
import Derived.Laws.ResultCell
set_option linter.unusedVariables false
set_option linter.unusedSimpArgs false
set_option maxRecDepth 100000
set_option maxHeartbeats 8000000
namespace Go.Proofs.YtbjobbkipmkndaaDoor
open Go.RowKit
def cpT (l h : Int) : Int := if h = -1 then (if l - 1 < 0 then 0 else l - 1) else l
def rpT (l h : Int) : Int := if h = -1 then 1 else h - l
def loT (l h : Int) : Int := if h = -1 then (if 1 < l then 1 else l) else 0
def hiT (l h : Int) : Int := if h = -1 then -1 else 1
def exsT (t : TN) (ps : List Int) : Int :=
  if t.op = 9 then 1
  else if t.op = 5 then (let s := cpT t.lo t.hi * ps.headD 0 + rpT t.lo t.hi * (ps.headD 0 + 1); let s2 := if cpT t.lo t.hi + rpT t.lo t.hi = 1 then s else s + 1; if 4097 < s2 then 4097 else s2)
  else (let s := ps.foldl (· + ·) 1; if 4097 < s then 4097 else s)
def EOk (x : Int) : Prop := 0 ≤ x ∧ x ≤ 4097
theorem seq_any (o l h g : Int) (st : Nat → Bool) (sv : Value) (w : World) (hl : 0 ≤ l ∧ l ≤ 64) (hh : h = -1 ∨ (l ≤ h ∧ h ≤ 64)) : Calls Tryd.prog 50 #[.agg #[.int .i64 o, .int .u64 (wd st 0 64 : Nat), .int .u64 (wd st 64 64 : Nat), .int .u64 (wd st 128 64 : Nat), .int .u64 (wd st 192 64 : Nat), .int .i64 l, .int .i64 h, .int .i64 g, sv]] w fun e w' => e = .returned (.agg #[.int .i64 (cpT l h), .int .i64 (rpT l h), .int .i64 (loT l h), .int .i64 (hiT l h)]) ∧ Below w.heap.size w w' := by
  obtain ⟨l1, l2⟩ := hl
  have fin : ∀ (h' a b c d : Int), #[Value.int .i64 a, .int .i64 b, .int .i64 c, .int .i64 d] = #[Value.int .i64 (cpT l h), .int .i64 (rpT l h), .int .i64 (loT l h), .int .i64 (hiT l h)] → ((w.alloc (.cells #[.int .i64 o, .int .u64 (wd st 0 64 : Nat), .int .u64 (wd st 64 64 : Nat), .int .u64 (wd st 128 64 : Nat), .int .u64 (wd st 192 64 : Nat), .int .i64 l, .int .i64 h', .int .i64 g, sv] 34)).alloc (.cells #[.int .i64 a, .int .i64 b, .int .i64 c, .int .i64 d] 89)).heap[w.heap.size + 1]? = some (.cells #[.int .i64 (cpT l h), .int .i64 (rpT l h), .int .i64 (loT l h), .int .i64 (hiT l h)] 89 (0, 0)) := by
    intro h' a b c d e
    rw [e]
    have := heap_alloc_new (w.alloc (.cells #[.int .i64 o, .int .u64 (wd st 0 64 : Nat), .int .u64 (wd st 64 64 : Nat), .int .u64 (wd st 128 64 : Nat), .int .u64 (wd st 192 64 : Nat), .int .i64 l, .int .i64 h', .int .i64 g, sv] 34)) (.cells #[.int .i64 (cpT l h), .int .i64 (rpT l h), .int .i64 (loT l h), .int .i64 (hiT l h)] 89)
    simpa using this
  have info4 : (Tryd.prog.info? 89).map (·.size) = some 4 := by kernel_rfl
  have HFin := Lib.hid fin
  have HI := Lib.hid info4
  clear fin info4
  by_cases hm : h = -1
  · subst hm
    go_enter Tryd.func50, Tryd.ntmps50
    go_wp2_with fail
    all_goals
      (refine bodyPost_ret (v := .agg #[.int .i64 (cpT l (-1)), .int .i64 (rpT l (-1)), .int .i64 (loT l (-1)), .int .i64 (hiT l (-1))]) (results_cell_row rfl _ _ (w.heap.size + 1) _ #[.int .i64 (cpT l (-1)), .int .i64 (rpT l (-1)), .int .i64 (loT l (-1)), .int .i64 (hiT l (-1))] (0, 0) _ rfl (HFin.out _ _ _ _ _ (by simp [cpT, rpT, loT, hiT]; omega)) Tryd.underlying89 rfl HI.out) rfl ?_
       exact ⟨rfl, ((Below.refl _ _).alloc (Nat.le_refl _) _).alloc (by simp) _⟩)
  · have hb : (h == -1) = false := by simpa using hm
    have h1 : l ≤ h := by omega
    have h2 : h ≤ 64 := by omega
    clear hh
    go_enter Tryd.func50, Tryd.ntmps50
    go_wp2_with fail
    refine bodyPost_ret (v := .agg #[.int .i64 (cpT l h), .int .i64 (rpT l h), .int .i64 (loT l h), .int .i64 (hiT l h)]) (results_cell_row rfl _ _ (w.heap.size + 1) _ #[.int .i64 (cpT l h), .int .i64 (rpT l h), .int .i64 (loT l h), .int .i64 (hiT l h)] (0, 0) _ rfl (HFin.out _ _ _ _ _ (by simp [cpT, rpT, loT, hiT, hm])) Tryd.underlying89 rfl HI.out) rfl ?_
    exact ⟨rfl, ((Below.refl _ _).alloc (Nat.le_refl _) _).alloc (by simp) _⟩
theorem sum_ok : ∀ (ps : List Int) (a : Int), (∀ x, x ∈ ps → EOk x) → a ≤ ps.foldl (· + ·) a ∧ ps.foldl (· + ·) a ≤ a + 4097 * ps.length
  | [], a, _ => ⟨Int.le_refl _, by simp⟩
  | x :: r, a, h => by
    have hx := h x (List.mem_cons_self ..)
    have := sum_ok r (a + x) (fun y hy => h y (List.mem_cons_of_mem _ hy))
    rw [List.foldl_cons]
    obtain ⟨h1, h2⟩ := hx
    simp only [List.length_cons]
    omega
theorem bounds_cr (l h : Int) (hl : 0 ≤ l ∧ l ≤ 64) (hh : h = -1 ∨ (l ≤ h ∧ h ≤ 64)) : (0 ≤ cpT l h ∧ cpT l h ≤ 64) ∧ (0 ≤ rpT l h ∧ rpT l h ≤ 64) := by
  unfold cpT rpT
  by_cases hm : h = -1
  · rw [if_pos hm, if_pos hm]
    split <;> omega
  · rw [if_neg hm, if_neg hm]
    omega
theorem exsT_ok (t : TN) (ps : List Int) (h : PN EOk t ps) : EOk (exsT t ps) := by
  unfold exsT
  have hd : EOk (ps.headD 0) := by
    cases ps with
    | nil => exact ⟨by decide, by decide⟩
    | cons x r => exact h.inv x (List.mem_cons_self ..)
  by_cases o9 : t.op = 9
  · rw [if_pos o9]; exact ⟨by decide, by decide⟩
  rw [if_neg o9]
  by_cases o5 : t.op = 5
  · rw [if_pos o5]
    obtain ⟨_, r1, r2, r3⟩ := h.rep o5
    obtain ⟨⟨c1, c2⟩, ⟨e1, e2⟩⟩ := bounds_cr t.lo t.hi ⟨r1, r2⟩ r3
    have m1 := Int.mul_nonneg c1 hd.1
    have m2 := Int.mul_nonneg e1 (show (0 : Int) ≤ ps.headD 0 + 1 by have := hd.1; omega)
    dsimp only
    constructor
    · split <;> split <;> omega
    · split <;> omega
  · rw [if_neg o5]
    have := sum_ok ps 1 h.inv
    dsimp only
    constructor
    · split <;> omega
    · split <;> omega
end Go.Proofs.YtbjobbkipmkndaaDoor
set_option linter.unusedVariables false
set_option linter.unusedSimpArgs false
set_option maxRecDepth 100000
set_option maxHeartbeats 8000000
namespace Go.Proofs.YtbjobbkipmkndaaDoor
open Go.RowKit
theorem exs_loop (op lo hi g : Int) (st : Nat → Bool) (args : F) (ad : Option Addr) (cap : Nat) (ps : List Int) (qad : Option Addr) (qcap n0 : Nat) (w : World) (h : PV 3 1 cells_i w n0 ps (.slice qad ps.length qcap)) (h6 : ps.length ≤ 600) (hI : ∀ x, x ∈ ps → EOk x) (e9 : (op == 9) = false) (o9 : ¬ op = 9) (e5 : (op == 5) = false) (o5 : ¬ op = 5) :
    Calls Tryd.prog 39 #[.agg #[.int .i64 op, .int .u64 (wd st 0 64 : Nat), .int .u64 (wd st 64 64 : Nat), .int .u64 (wd st 128 64 : Nat), .int .u64 (wd st 192 64 : Nat), .int .i64 lo, .int .i64 hi, .int .i64 g, .slice ad args.len cap], .slice qad ps.length qcap] w fun e w' => e = .returned (.int .i64 (exsT ⟨op, st, lo, hi, g, args⟩ ps)) ∧ Below w.heap.size w w' := by
  have hl' : (ps.length : Int) ≤ 600 := by omega
  have HP := Lib.hid h
  have HI := Lib.hid hI
  have HS := Lib.hid (sum_ok ps 1 hI)
  have HX : Hid (exsT ⟨op, st, lo, hi, g, args⟩ ps = if 4097 < ps.foldl (· + ·) 1 then 4097 else ps.foldl (· + ·) 1) := Lib.hid (by unfold exsT; rw [if_neg o9, if_neg o5])
  clear h hI
  go_enter Tryd.func39, Tryd.ntmps39
  go_wp2_with fail
  generalize hW : w.alloc (.cells #[.int .i64 op, .int .u64 (wd st 0 64 : Nat), .int .u64 (wd st 64 64 : Nat), .int .u64 (wd st 128 64 : Nat), .int .u64 (wd st 192 64 : Nat), .int .i64 lo, .int .i64 hi, .int .i64 g, .slice ad args.len cap] 34) = W
  have hb : Below w.heap.size w W := by rw [← hW]; exact (Below.refl _ _).alloc (Nat.le_refl _) _
  have HB := Lib.hid hb
  clear hW hb
  go_loop [5, 13] (fun s i => ∃ (k : Nat) (z : Int), k ≤ ps.length ∧ i = .int .i64 k ∧ s = .int .i64 z ∧ (0 ≤ z ∧ z ≤ 3000000) ∧ Hid (z ≤ 1 + 4097 * (k : Int) ∧ ps.foldl (· + ·) 1 = (ps.drop k).foldl (· + ·) z)) (fun _ i => ps.length - (intOf i).toNat)
  case atStart => exact ⟨0, 1, Nat.zero_le _, rfl, rfl, ⟨by decide, by decide⟩, Lib.hid ⟨by decide, by rw [List.drop_zero]⟩⟩
  case round =>
    obtain ⟨k, z, hk, rfl, rfl, ⟨hz0, hz1⟩, HR⟩ := hrel
    by_cases hkn : k < ps.length
    · have ki : (k : Int) < ps.length := by omega
      have ki0 : (0 : Int) ≤ k := by omega
      obtain ⟨q, c2, hs⟩ := own_more HP.out (by omega)
      cases hs
      have hc := (HP.out.below HB.out).get clen_i k hkn 0 (by decide)
      rw [Nat.mul_one, Nat.add_zero] at hc
      replace hc : W.cell? ⟨q, k, none⟩ = some (.int .i64 ps[k]) := hc
      obtain ⟨x0, x1⟩ := HI.out ps[k] (List.getElem_mem hkn)
      have hst := HR.out.2
      rw [List.drop_eq_getElem_cons hkn, List.foldl_cons] at hst
      generalize ps[k] = x at *
      have HSt := Lib.hid hst
      clear hst
      have hz3 := HR.out.1
      have hk6 : (k : Int) ≤ 599 := by omega
      have HZ3 := Lib.hid hz3
      clear hz3
      go_wp2_with fail
      go_round
      case rel => exact ⟨k + 1, z + x, by omega, by go_num, rfl, ⟨by omega, by have := HZ3.out; omega⟩, Lib.hid ⟨by have := HZ3.out; omega, HSt.out⟩⟩
      case measure => simp [intOf]; omega
    · obtain rfl : k = ps.length := by omega
      have hst := HR.out.2
      rw [List.drop_length, List.foldl_nil] at hst
      have HSt := Lib.hid hst
      clear hst
      go_wp2_with fail
      all_goals go_ret
      all_goals rw [HX.out, HSt.out]
      all_goals refine ⟨?_, HB.out⟩
      all_goals exact congrArg (fun x : Int => Ending.returned (Value.int .i64 x)) (by split <;> omega)
theorem rule_i : Rule_i EOk exsT := by
  intro w n0 t ad cap ps pv hpv hP
  obtain ⟨qad, qcap, rfl⟩ := own_sl hpv
  obtain ⟨op, st, lo, hi, g, args⟩ := t
  obtain ⟨hrep, hone, htwo, hinv, hlen⟩ := hP
  dsimp only at *
  by_cases o9 : op = 9
  · subst o9
    clear hpv
    go_enter Tryd.func39, Tryd.ntmps39
    go_wp2_with fail
    go_ret
    exact ⟨rfl, (Below.refl _ _).alloc (Nat.le_refl _) _⟩
  by_cases o5 : op = 5
  case neg => exact exs_loop op lo hi g st args ad cap ps qad qcap n0 w hpv hlen hinv (by simpa using o9) o9 (by simpa using o5) o5
  subst o5
  obtain ⟨hl1, r1, r2, r3⟩ := hrep rfl
  obtain ⟨p, rfl⟩ := List.length_eq_one_iff.1 hl1
  obtain ⟨q, c2, hs⟩ := own_more hpv (by simp)
  cases hs
  have hc : w.cell? ⟨q, 0, none⟩ = some (.int .i64 p) := by have := hpv.get clen_i 0 (by simp) 0 (by decide); exact this
  have hq := (own_at hpv q rfl).2
  obtain ⟨p0, p1⟩ := hinv p (List.mem_cons_self ..)
  have HSq := Lib.hid (fun W => seq_any 5 lo hi g st (.slice ad args.len cap) W ⟨r1, r2⟩ r3)
  obtain ⟨⟨c1, c2⟩, ⟨e1, e2⟩⟩ := bounds_cr lo hi ⟨r1, r2⟩ r3
  have HX : Hid (exsT ⟨5, st, lo, hi, g, args⟩ [p] = if 4097 < (if cpT lo hi + rpT lo hi = 1 then cpT lo hi * p + rpT lo hi * (p + 1) else cpT lo hi * p + rpT lo hi * (p + 1) + 1) then 4097 else (if cpT lo hi + rpT lo hi = 1 then cpT lo hi * p + rpT lo hi * (p + 1) else cpT lo hi * p + rpT lo hi * (p + 1) + 1)) := Lib.hid rfl
  generalize exsT ⟨5, st, lo, hi, g, args⟩ [p] = X at *
  generalize cpT lo hi = C at *
  generalize rpT lo hi = R at *
  generalize loT lo hi = A at *
  generalize hiT lo hi = D at *
  have m1 := Int.mul_nonneg c1 p0
  have m2 := Int.mul_nonneg e1 (show (0 : Int) ≤ p + 1 by omega)
  have m3 : C * p ≤ 64 * 4097 := Int.mul_le_mul c2 p1 p0 (by decide)
  have m4 : R * (p + 1) ≤ 64 * 4098 := Int.mul_le_mul e2 (show p + 1 ≤ 4098 by omega) (by omega) (by decide)
  clear hpv hrep hone htwo hinv hlen hl1 r1 r2 r3
  by_cases hcr : C + R = 1
  · have hbx : (C + R != 1) = false := by simp [hcr]
    rw [if_pos hcr] at HX
    go_enter Tryd.func39, Tryd.ntmps39
    go_upto_region 12 with (first
      | (go_at_call 50; (with_reducible refine (HSq.out _).mono ?_); rintro e w1 ⟨rfl, hb⟩
         have HB1 := Lib.hid (((Below.refl w.heap.size w).alloc (Nat.le_refl _) _).trans (hb.mono (by simp)))
         have hc1 := (HB1.out.cell (p := ⟨q, 0, none⟩) hq).trans hc
         have hq1 : q < w1.heap.size := by have := HB1.out.size; omega
         clear hb hc)
      )
    go_quiet (fail)
    go_wp2_with fail
    all_goals go_ret
    all_goals rw [HX.out]
    all_goals refine ⟨?_, below_drewN (HB1.out.alloc HB1.out.size _) _⟩
    all_goals exact congrArg (fun x : Int => Ending.returned (Value.int .i64 x)) (by split <;> omega)
  · have hbx : (C + R != 1) = true := by simp [hcr]
    rw [if_neg hcr] at HX
    go_enter Tryd.func39, Tryd.ntmps39
    go_upto_region 12 with (first
      | (go_at_call 50; (with_reducible refine (HSq.out _).mono ?_); rintro e w1 ⟨rfl, hb⟩
         have HB1 := Lib.hid (((Below.refl w.heap.size w).alloc (Nat.le_refl _) _).trans (hb.mono (by simp)))
         have hc1 := (HB1.out.cell (p := ⟨q, 0, none⟩) hq).trans hc
         have hq1 : q < w1.heap.size := by have := HB1.out.size; omega
         clear hb hc)
      )
    go_quiet (fail)
    go_wp2_with fail
    all_goals go_ret
    all_goals rw [HX.out]
    all_goals refine ⟨?_, below_drewN (HB1.out.alloc HB1.out.size _) _⟩
    all_goals exact congrArg (fun x : Int => Ending.returned (Value.int .i64 x)) (by split <;> omega)
end Go.Proofs.YtbjobbkipmkndaaDoor
namespace Go.Proofs.YtbjobbkipmkndaaDoor
open Go.RowKit
theorem wrap_ins (p : Nat → Bool) (c j : Nat) (h : c / 64 = j) (hp : p c = false) : IntKind.u64.wrap (((wd p (64 * j) 64 : Nat) : Int) + IntKind.u64.wrap ((2 : Int) ^ (c % 64))) = ((wd (ins p c) (64 * j) 64 : Nat) : Int) := by
  subst h
  have e := wd_ins_add p c hp
  have l := wd_lt64 (ins p c) (64 * (c / 64))
  rw [pow_cast, add64 _ _ (by omega), e]
def W2 (w : World) (p : Nat → Bool) : World := (w.alloc (.cells (cl p) 31)).alloc (.cells #[.int .u64 0, .int .u64 0, .int .u64 0, .int .u64 0] 31)
theorem W2_one (w : World) (p : Nat → Bool) : At (W2 w p) w.heap.size p := (At.new w p).alloc _
theorem W2_two (w : World) (p : Nat → Bool) : At (W2 w p) (w.heap.size + 1) (fun _ => false) := by
  have := At.new (w.alloc (.cells (cl p) 31)) (fun _ => false)
  unfold W2
  rw [cl_zero]
  simpa using this
theorem W2_below (w : World) (p : Nat → Bool) : Below w.heap.size w (W2 w p) := ((Below.refl _ _).alloc (Nat.le_refl _) _).alloc (by simp) _
set_option linter.unusedVariables false in
theorem with_any (p : Nat → Bool) (c : Nat) (hc : c < 256) (w : World) : Calls Tryd.prog 46 #[cs p, .int .u8 c] w fun e w' => e = .returned (cs (ins p c)) ∧ Below w.heap.size w w' := by
  obtain ⟨j, hj⟩ : ∃ j, c / 64 = j := ⟨_, rfl⟩
  have hj4 : j < 4 := by omega
  have hq : (c : Int) / 64 = (j : Int) := by omega
  have hz : IntKind.u8.wrap (j : Int) = (j : Int) := IntWalk.u8_in _ (by omega)
  have hj0 : (j : Int) < 4 := by omega
  have A1 := Lib.hid (W2_one w p)
  have A2 := Lib.hid (W2_two w p)
  have HB := Lib.hid (W2_below w p)
  have Hp := Lib.hid (rhas_any p c hc)
  by_cases hp : p c = true
  · rw [ins_same p c hp]
    unfold cs cl at Hp ⊢
    go_enter Tryd.func46, Tryd.ntmps46
    go_wp2_with (first
      | (go_at_call 45
         refine (Hp.out _).mono ?_
         rintro e w1 ⟨rfl, hb⟩
         have HB1 : Hid (Below w.heap.size w w1) := Lib.hid (HB.out.trans (hb.mono (by simp; omega)))
         have B1 : At w1 w.heap.size p := A1.out.below hb A1.out.lt
         have B2 : At w1 (w.heap.size + 1) (fun _ => false) := A2.out.below hb A2.out.lt
         have HA := Lib.hid B2
         clear hb
         obtain ⟨⟨c0, c1⟩, ⟨c2, c3⟩, hf⟩ := B1.words
         obtain ⟨⟨d0, d1⟩, ⟨d2, d3⟩, hg⟩ := B2.words
         clear B1 B2))
    exact bodyPost_ret (v := cs p) (ret_cs (q := p) Tryd.results46 _ _ (w.heap.size + 1) (by simp) (HA.out.put4 p)) rfl ⟨rfl, below_put4 HB1.out _ (by omega) p⟩
  · simp only [Bool.not_eq_true] at hp
    have hk := wrap_ins p c j hj hp
    unfold cs cl at Hp ⊢
    go_enter Tryd.func46, Tryd.ntmps46
    go_wp2_with (first
      | (go_at_call 45
         refine (Hp.out _).mono ?_
         rintro e w1 ⟨rfl, hb⟩
         have HB1 : Hid (Below w.heap.size w w1) := Lib.hid (HB.out.trans (hb.mono (by simp; omega)))
         have B1 : At w1 w.heap.size p := A1.out.below hb A1.out.lt
         have B2 : At w1 (w.heap.size + 1) (fun _ => false) := A2.out.below hb A2.out.lt
         clear hb
         have cj := B1.got j hj4
         have hf := B1.free
         have E1 : At (w1.setCell ⟨w.heap.size, j, none⟩ (.int .u64 ((wd (ins p c) (64 * j) 64 : Nat) : Int))) w.heap.size (ins p c) := B1.word (ins p c) j hj4 (by rw [← hj]; exact ins_other p c) _ rfl
         have E2 : At (w1.setCell ⟨w.heap.size, j, none⟩ (.int .u64 ((wd (ins p c) (64 * j) 64 : Nat) : Int))) (w.heap.size + 1) (fun _ => false) := B2.apart _ (by omega)
         have HA := Lib.hid E2
         obtain ⟨⟨c0, c1⟩, ⟨c2, c3⟩, hf'⟩ := E1.words
         obtain ⟨⟨d0, d1⟩, ⟨d2, d3⟩, hg⟩ := E2.words
         clear B1 B2 E1 E2))
    exact bodyPost_ret (v := cs (ins p c)) (ret_cs (q := ins p c) Tryd.results46 _ _ (w.heap.size + 1) (by simp) (HA.out.put4 (ins p c))) rfl ⟨rfl, below_put4 (HB1.out.setCell (Nat.le_refl _) _) _ (by omega) (ins p c)⟩
end Go.Proofs.YtbjobbkipmkndaaDoor
set_option linter.unusedVariables false
namespace Go.Proofs.YtbjobbkipmkndaaDoor
open Go.RowKit
theorem At.drew {w : World} {g : Nat} {p : Nat → Bool} (h : At w g p) : At w.drew g p := h
def V4 (w : World) (p q : Nat → Bool) : World := (((w.alloc (.cells (cl p) 31)).alloc (.cells (cl q) 31)).alloc (.cells #[.int .u64 0, .int .u64 0, .int .u64 0, .int .u64 0] 31)).alloc (.cells #[.int .u64 0, .int .u64 0, .int .u64 0, .int .u64 0] 31)
def V3 (w : World) (p : Nat → Bool) : World := ((w.alloc (.cells (cl p) 31)).alloc (.cells #[.int .u64 0, .int .u64 0, .int .u64 0, .int .u64 0] 31)).alloc (.cells #[.int .u64 0, .int .u64 0, .int .u64 0, .int .u64 0] 31)
def U3 (w : World) (p q : Nat → Bool) : World := ((w.alloc (.cells (cl p) 31)).alloc (.cells (cl q) 31)).alloc (.cells #[.int .u64 0, .int .u64 0, .int .u64 0, .int .u64 0] 31)
theorem U3_below (w : World) (p q : Nat → Bool) : Below w.heap.size w (U3 w p q) := (((Below.refl _ _).alloc (Nat.le_refl _) _).alloc (by simp) _).alloc (by simp; omega) _
theorem U3_at (w : World) (p q : Nat → Bool) : At (U3 w p q) w.heap.size p ∧ At (U3 w p q) (w.heap.size + 1) q ∧ At (U3 w p q) (w.heap.size + 2) (fun _ => false) := by
  unfold U3
  rw [cl_zero]
  refine ⟨((At.new w p).alloc _).alloc _, ?_, ?_⟩
  · have := (At.new (w.alloc (.cells (cl p) 31)) q).alloc (.cells (cl fun _ => false) 31)
    simpa using this
  · have := At.new ((w.alloc (.cells (cl p) 31)).alloc (.cells (cl q) 31)) (fun _ => false)
    simpa using this
theorem keep_words {w w' : World} (hb : Below w.heap.size w w') {a : Addr} {v : Value} (h : w.cell? a = some v) : w'.cell? a = some v := by
  rw [hb.cell (World.block_lt_of_cell? w _ h), h]
abbrev Wds (w : World) (g : Nat) (p : Nat → Bool) : Prop :=
  (w.cell? ⟨g, 0, none⟩ = some (.int .u64 ((wd p 0 64 : Nat) : Int)) ∧ w.cell? ⟨g, 1, none⟩ = some (.int .u64 ((wd p 64 64 : Nat) : Int))) ∧
    (w.cell? ⟨g, 2, none⟩ = some (.int .u64 ((wd p 128 64 : Nat) : Int)) ∧ w.cell? ⟨g, 3, none⟩ = some (.int .u64 ((wd p 192 64 : Nat) : Int)))
theorem Wds.of {w : World} {g : Nat} {p : Nat → Bool} (h : At w g p) : Wds w g p := ⟨h.words.1, h.words.2.1⟩
theorem Wds.keep {w w' : World} {g : Nat} {p : Nat → Bool} (h : Wds w g p) (hb : Below w.heap.size w w') : Wds w' g p :=
  ⟨⟨keep_words hb h.1.1, keep_words hb h.1.2⟩, ⟨keep_words hb h.2.1, keep_words hb h.2.2⟩⟩
def AtAny (w : World) (g : Nat) : Prop := ∃ r, At w g r
theorem AtAny.free {w : World} {g : Nat} (h : AtAny w g) (j : Nat) : w.frozen? ⟨g, j, none⟩ = false := by
  obtain ⟨r, h⟩ := h
  exact h.free j
theorem AtAny.below {w w' : World} {g : Nat} (h : AtAny w g) (hb : Below w.heap.size w w') : AtAny w' g := by
  obtain ⟨r, h⟩ := h
  exact ⟨r, h.below hb h.lt⟩
theorem AtAny.put {w : World} {g : Nat} (h : AtAny w g) (f : Nat → Bool) : At (put4 w g f) g f := by
  obtain ⟨r, h⟩ := h
  exact h.put4 f
def cv (w : World) (g j : Nat) : Value := (w.cell? ⟨g, j, none⟩).getD undef
abbrev Wany (w : World) (g : Nat) : Prop :=
  (w.cell? ⟨g, 0, none⟩ = some (cv w g 0) ∧ w.cell? ⟨g, 1, none⟩ = some (cv w g 1)) ∧ (w.cell? ⟨g, 2, none⟩ = some (cv w g 2) ∧ w.cell? ⟨g, 3, none⟩ = some (cv w g 3))
theorem AtAny.cells {w : World} {g : Nat} (h : AtAny w g) : Wany w g := by
  obtain ⟨r, h⟩ := h
  unfold Wany cv
  rw [h.got 0 (by decide), h.got 1 (by decide), h.got 2 (by decide), h.got 3 (by decide)]
  exact ⟨⟨rfl, rfl⟩, ⟨rfl, rfl⟩⟩
abbrev S2 (w0 : World) (p q : Nat → Bool) (w : World) : Prop :=
  Wds w w0.heap.size p ∧ Wds w (w0.heap.size + 1) q ∧ Wany w (w0.heap.size + 2) ∧ (∀ j, w.frozen? ⟨w0.heap.size + 2, j, none⟩ = false) ∧ Below w0.heap.size w0 w ∧ AtAny w (w0.heap.size + 2)
theorem S2.start (w0 : World) (p q : Nat → Bool) : S2 w0 p q (U3 w0 p q).drew :=
  have h := U3_at w0 p q
  ⟨Wds.of h.1.drew, Wds.of h.2.1.drew, AtAny.cells ⟨_, h.2.2.drew⟩, h.2.2.drew.free, (U3_below w0 p q).drew, ⟨_, h.2.2.drew⟩⟩
theorem S2.keep {w0 w w' : World} {p q : Nat → Bool} (hb : Below w.heap.size w w') (h : S2 w0 p q w) : S2 w0 p q w' :=
  have a := h.2.2.2.2.2.below hb
  ⟨h.1.keep hb, h.2.1.keep hb, a.cells, a.free, h.2.2.2.2.1.trans (hb.mono h.2.2.2.2.1.size), a⟩
theorem cell_put4 {w : World} {g k : Nat} (hk : g ≠ k) (f : Nat → Bool) (j : Nat) : (put4 w k f).cell? ⟨g, j, none⟩ = w.cell? ⟨g, j, none⟩ := by
  apply World.cell?_of_block
  show (put4 w k f).heap[g]? = w.heap[g]?
  unfold put4
  rw [Below.heap_setCell _ _ _ _ hk, Below.heap_setCell _ _ _ _ hk, Below.heap_setCell _ _ _ _ hk, Below.heap_setCell _ _ _ _ hk]
theorem Wds.put {w : World} {g k : Nat} {p : Nat → Bool} (h : Wds w g p) (hk : g ≠ k) (f : Nat → Bool) : Wds (put4 w k f) g p :=
  ⟨⟨(cell_put4 hk f 0).trans h.1.1, (cell_put4 hk f 1).trans h.1.2⟩, ⟨(cell_put4 hk f 2).trans h.2.1, (cell_put4 hk f 3).trans h.2.2⟩⟩
theorem S2.put {w0 w : World} {p q : Nat → Bool} (h : S2 w0 p q w) (f : Nat → Bool) : S2 w0 p q (put4 w (w0.heap.size + 2) f) :=
  have a := h.2.2.2.2.2.put f
  ⟨h.1.put (by omega) f, h.2.1.put (by omega) f, AtAny.cells ⟨_, a⟩, a.free, below_put4 h.2.2.2.2.1 _ (by omega) f, ⟨_, a⟩⟩
theorem unset {w : World} {g j : Nat} {v : Value} {c : Array Value} {t : TypeId} (h : (w.setCell ⟨g, j, none⟩ v).heap[g]? = some (.cells c t (0, 0))) : ∃ c0, w.heap[g]? = some (.cells c0 t (0, 0)) ∧ c0.size = c.size := by
  simp only [World.setCell, Array.getElem?_modify] at h
  cases hw : w.heap[g]? with
  | none => simp [hw] at h
  | some o =>
    rw [hw] at h
    cases o with
    | cells c0 t0 fr0 =>
      simp at h
      obtain ⟨rfl, rfl, rfl⟩ := h
      exact ⟨c0, rfl, by simp⟩
    | _ => simp at h
theorem list4 {α : Type} (l : List α) (h : l.length = 4) : ∃ a b c d, l = [a, b, c, d] := by
  match l, h with
  | [a, b, c, d], _ => exact ⟨a, b, c, d, rfl⟩
theorem set4_all (c0 : Array Value) (h : c0.size = 4) (a b c d : Value) : (((c0.setIfInBounds 0 a).setIfInBounds 1 b).setIfInBounds 2 c).setIfInBounds 3 d = #[a, b, c, d] := by
  obtain ⟨l⟩ := c0
  obtain ⟨x, y, z, u, rfl⟩ := list4 l h
  simp
theorem AtAny.done {w : World} {g : Nat} {f : Nat → Bool} (h : AtAny (put4 w g f) g) : At (put4 w g f) g f := by
  obtain ⟨r, h⟩ := h
  unfold At put4 at *
  obtain ⟨c3, h3, s3⟩ := unset h
  obtain ⟨c2, h2, s2⟩ := unset h3
  obtain ⟨c1, h1, s1⟩ := unset h2
  obtain ⟨c0, h0, s0⟩ := unset h1
  have s : c0.size = 4 := by rw [s0, s1, s2, s3, cl_size]
  have k1 := heap_setCell_same w g 0 _ _ (.int .u64 ((wd f 0 64 : Nat) : Int)) h0
  have k2 := heap_setCell_same _ g 1 _ _ (.int .u64 ((wd f 64 64 : Nat) : Int)) k1
  have k3 := heap_setCell_same _ g 2 _ _ (.int .u64 ((wd f 128 64 : Nat) : Int)) k2
  have k4 := heap_setCell_same _ g 3 _ _ (.int .u64 ((wd f 192 64 : Nat) : Int)) k3
  rw [set4_all c0 s] at k4
  exact k4
end Go.Proofs.YtbjobbkipmkndaaDoor
set_option linter.unusedVariables false
set_option linter.unusedSimpArgs false
set_option maxRecDepth 100000
set_option maxHeartbeats 8000000
namespace Go.Proofs.YtbjobbkipmkndaaDoor
open Go.RowKit
def TI (w : World) (t : TN) (sv : Value) : Prop := ∃ S, SV w S t.args sv ∧ (∀ b, S b → b < w.heap.size) ∧ (t.args.len ≤ maxLen ∧ t.args.fits) ∧ -9223372036854775808 ≤ t.g ∧ t.g ≤ 9223372036854775807
theorem TI.below {w w' : World} {t : TN} {sv : Value} (h : TI w t sv) (hb : Below w.heap.size w w') : TI w' t sv := by
  obtain ⟨S, h1, h2, h3⟩ := h
  exact ⟨S, h1.far (Afar.below hb), fun b hS => by have := h2 b hS; have := hb.size; omega, h3⟩
theorem TI.form {w : World} {t : TN} {sv : Value} (h : TI w t sv) : ∃ ad cap, sv = .slice ad t.args.len cap := by
  obtain ⟨S, h1, _⟩ := h
  exact slice_form h1
theorem check_ti {w : World} {t : TN} {sv : Value} (h : TI w t sv) : Calls Tryd.prog 27 #[.agg #[.int .i64 t.op, .int .u64 (wd t.st 0 64 : Nat), .int .u64 (wd t.st 64 64 : Nat), .int .u64 (wd t.st 128 64 : Nat), .int .u64 (wd t.st 192 64 : Nat), .int .i64 t.lo, .int .i64 t.hi, .int .i64 t.g, sv]] w fun e w' => e = .returned (.int .i64 (checkT t)) ∧ Below w.heap.size w w' := by
  obtain ⟨S, h1, h2, h3, h4, h5⟩ := h
  exact check_any t sv w S h1 h2 h3.1 h3.2 h4 h5
theorem back_ti {w : World} {t : TN} {sv : Value} (h : TI w t sv) : Calls Tryd.prog 28 #[.agg #[.int .i64 t.op, .int .u64 (wd t.st 0 64 : Nat), .int .u64 (wd t.st 64 64 : Nat), .int .u64 (wd t.st 128 64 : Nat), .int .u64 (wd t.st 192 64 : Nat), .int .i64 t.lo, .int .i64 t.hi, .int .i64 t.g, sv]] w fun e w' => e = .returned (.bool (survT t).bk) ∧ Below w.heap.size w w' := by
  obtain ⟨S, h1, h2, h3, h4, h5⟩ := h
  exact back_any t sv w S h1 h2 h3.1 h3.2 h4 h5
end Go.Proofs.YtbjobbkipmkndaaDoor
