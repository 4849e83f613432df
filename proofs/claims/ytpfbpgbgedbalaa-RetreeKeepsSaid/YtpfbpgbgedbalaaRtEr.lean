/- expandedSize. -/
import Derived.Test.YtpfbpgbgedbalaaRtE
set_option linter.unusedVariables false
set_option linter.unusedSimpArgs false
set_option maxRecDepth 100000
set_option maxHeartbeats 8000000
namespace Go.Proofs.Ytpfbpgbgedbalaa
open Go.RowKit

theorem flat_i (ps : List Int) : ps.flatMap cells_i = ps.map fun b => .int .i64 b := by
  induction ps with
  | nil => rfl
  | cons b r ih => rw [List.flatMap_cons, ih]; rfl
theorem exs_loop (op lo hi g : Int) (st : Nat → Bool) (args : F) (ad : Option Addr) (cap : Nat) (ps : List Int) (qad : Option Addr) (qcap n0 : Nat) (w : World) (h : PV 3 1 cells_i w n0 ps (.slice qad ps.length qcap)) (h6 : ps.length ≤ 600) (hI : ∀ x, x ∈ ps → EOk x) (e9 : (op == 9) = false) (o9 : ¬ op = 9) (e5 : (op == 5) = false) (o5 : ¬ op = 5) :
    Calls Try.prog 49 #[.agg #[.int .i64 op, .int .u64 (wd st 0 64 : Nat), .int .u64 (wd st 64 64 : Nat), .int .u64 (wd st 128 64 : Nat), .int .u64 (wd st 192 64 : Nat), .int .i64 lo, .int .i64 hi, .int .i64 g, .slice ad args.len cap], .slice qad ps.length qcap] w fun e w' => e = .returned (.int .i64 (exsT ⟨op, st, lo, hi, g, args⟩ ps)) ∧ Below w.heap.size w w' := by
  have hl' : (ps.length : Int) ≤ 600 := by omega
  have HP := Lib.hid h
  have HI := Lib.hid hI
  have HS := Lib.hid (sum_ok ps 1 hI)
  have HX : Hid (exsT ⟨op, st, lo, hi, g, args⟩ ps = if 4097 < ps.foldl (· + ·) 1 then 4097 else ps.foldl (· + ·) 1) := Lib.hid (by unfold exsT; rw [if_neg o9, if_neg o5])
  clear h hI
  go_enter Try.func49, Try.ntmps49
  go_wp2_with fail
  generalize hW : w.alloc (.cells #[.int .i64 op, .int .u64 (wd st 0 64 : Nat), .int .u64 (wd st 64 64 : Nat), .int .u64 (wd st 128 64 : Nat), .int .u64 (wd st 192 64 : Nat), .int .i64 lo, .int .i64 hi, .int .i64 g, .slice ad args.len cap] 28) = W
  have hb : Below w.heap.size w W := by rw [← hW]; exact (Below.refl _ _).alloc (Nat.le_refl _) _
  have HB := Lib.hid hb
  clear hW hb
  go_loop [5, 13] (fun s i => ∃ (k : Nat) (z : Int), k ≤ ps.length ∧ i = .int .i64 k ∧ s = .int .i64 z ∧ (0 ≤ z ∧ z ≤ 3000000) ∧ Hid (z ≤ 1 + 4097 * (k : Int) ∧ ps.foldl (· + ·) 1 = (ps.drop k).foldl (· + ·) z)) (fun _ i => ps.length - (intOf i).toNat)
  case atStart => exact ⟨0, 1, Nat.zero_le _, rfl, rfl, ⟨by decide, by decide⟩, Lib.hid ⟨by decide, by rw [List.drop_zero]⟩⟩
  case round =>
    obtain ⟨k, z, hk, rfl, rfl, ⟨hz0, hz1⟩, HR⟩ := hrel
    by_cases hkn : k < ps.length
    · have ki : (k : Int) < ps.length := by omega
      have ki0 : (0 : Int) ≤ k := by omega
      obtain ⟨q, c2, hs⟩ := own_more HP.out (by omega)
      cases hs
      have hc := (HP.out.below HB.out).get clen_i k hkn 0 (by decide)
      rw [Nat.mul_one, Nat.add_zero] at hc
      replace hc : W.cell? ⟨q, k, none⟩ = some (.int .i64 ps[k]) := hc
      obtain ⟨x0, x1⟩ := HI.out ps[k] (List.getElem_mem hkn)
      have hst := HR.out.2
      rw [List.drop_eq_getElem_cons hkn, List.foldl_cons] at hst
      generalize ps[k] = x at *
      have HSt := Lib.hid hst
      clear hst
      have hz3 := HR.out.1
      have hk6 : (k : Int) ≤ 599 := by omega
      have HZ3 := Lib.hid hz3
      clear hz3
      go_wp2_with fail
      go_round
      case rel => exact ⟨k + 1, z + x, by omega, by go_num, rfl, ⟨by omega, by have := HZ3.out; omega⟩, Lib.hid ⟨by have := HZ3.out; omega, HSt.out⟩⟩
      case measure => simp [intOf]; omega
    · obtain rfl : k = ps.length := by omega
      have hst := HR.out.2
      rw [List.drop_length, List.foldl_nil] at hst
      have HSt := Lib.hid hst
      clear hst
      go_wp2_with fail
      all_goals go_ret
      all_goals rw [HX.out, HSt.out]
      all_goals refine ⟨?_, HB.out⟩
      all_goals exact congrArg (fun x : Int => Ending.returned (Value.int .i64 x)) (by split <;> omega)
theorem rule_i : Rule_i EOk exsT := by
  intro w n0 t ad cap ps pv hpv hP
  obtain ⟨qad, qcap, rfl⟩ := own_sl hpv
  obtain ⟨op, st, lo, hi, g, args⟩ := t
  obtain ⟨hrep, hone, htwo, hinv, hlen⟩ := hP
  dsimp only at *
  by_cases o9 : op = 9
  · subst o9
    clear hpv
    go_enter Try.func49, Try.ntmps49
    go_wp2_with fail
    go_ret
    exact ⟨rfl, (Below.refl _ _).alloc (Nat.le_refl _) _⟩
  by_cases o5 : op = 5
  case neg => exact exs_loop op lo hi g st args ad cap ps qad qcap n0 w hpv hlen hinv (by simpa using o9) o9 (by simpa using o5) o5
  subst o5
  obtain ⟨hl1, r1, r2, r3⟩ := hrep rfl
  obtain ⟨p, rfl⟩ := List.length_eq_one_iff.1 hl1
  obtain ⟨q, c2, hs⟩ := own_more hpv (by simp)
  cases hs
  have hc : w.cell? ⟨q, 0, none⟩ = some (.int .i64 p) := by have := hpv.get clen_i 0 (by simp) 0 (by decide); exact this
  have hq := (own_at hpv q rfl).2
  obtain ⟨p0, p1⟩ := hinv p (List.mem_cons_self ..)
  have HSq := Lib.hid (fun W => seq_any 5 lo hi g st (.slice ad args.len cap) W ⟨r1, r2⟩ r3)
  obtain ⟨⟨c1, c2⟩, ⟨e1, e2⟩⟩ := bounds_cr lo hi ⟨r1, r2⟩ r3
  have HX : Hid (exsT ⟨5, st, lo, hi, g, args⟩ [p] = if 4097 < (if cpT lo hi + rpT lo hi = 1 then cpT lo hi * p + rpT lo hi * (p + 1) else cpT lo hi * p + rpT lo hi * (p + 1) + 1) then 4097 else (if cpT lo hi + rpT lo hi = 1 then cpT lo hi * p + rpT lo hi * (p + 1) else cpT lo hi * p + rpT lo hi * (p + 1) + 1)) := Lib.hid rfl
  generalize exsT ⟨5, st, lo, hi, g, args⟩ [p] = X at *
  generalize cpT lo hi = C at *
  generalize rpT lo hi = R at *
  generalize loT lo hi = A at *
  generalize hiT lo hi = D at *
  have m1 := Int.mul_nonneg c1 p0
  have m2 := Int.mul_nonneg e1 (show (0 : Int) ≤ p + 1 by omega)
  have m3 : C * p ≤ 64 * 4097 := Int.mul_le_mul c2 p1 p0 (by decide)
  have m4 : R * (p + 1) ≤ 64 * 4098 := Int.mul_le_mul e2 (show p + 1 ≤ 4098 by omega) (by omega) (by decide)
  clear hpv hrep hone htwo hinv hlen hl1 r1 r2 r3
  by_cases hcr : C + R = 1
  · have hbx : (C + R != 1) = false := by simp [hcr]
    rw [if_pos hcr] at HX
    go_enter Try.func49, Try.ntmps49
    go_upto_region 12 with (first
      | (go_at_call 75; (with_reducible refine (HSq.out _).mono ?_); rintro e w1 ⟨rfl, hb⟩
         have HB1 := Lib.hid (((Below.refl w.heap.size w).alloc (Nat.le_refl _) _).trans (hb.mono (by simp)))
         have hc1 := (HB1.out.cell (p := ⟨q, 0, none⟩) hq).trans hc
         have hq1 : q < w1.heap.size := by have := HB1.out.size; omega
         clear hb hc)
      )
    go_quiet (fail)
    go_wp2_with fail
    all_goals go_ret
    all_goals rw [HX.out]
    all_goals refine ⟨?_, below_drewN (HB1.out.alloc HB1.out.size _) _⟩
    all_goals exact congrArg (fun x : Int => Ending.returned (Value.int .i64 x)) (by split <;> omega)
  · have hbx : (C + R != 1) = true := by simp [hcr]
    rw [if_neg hcr] at HX
    go_enter Try.func49, Try.ntmps49
    go_upto_region 12 with (first
      | (go_at_call 75; (with_reducible refine (HSq.out _).mono ?_); rintro e w1 ⟨rfl, hb⟩
         have HB1 := Lib.hid (((Below.refl w.heap.size w).alloc (Nat.le_refl _) _).trans (hb.mono (by simp)))
         have hc1 := (HB1.out.cell (p := ⟨q, 0, none⟩) hq).trans hc
         have hq1 : q < w1.heap.size := by have := HB1.out.size; omega
         clear hb hc)
      )
    go_quiet (fail)
    go_wp2_with fail
    all_goals go_ret
    all_goals rw [HX.out]
    all_goals refine ⟨?_, below_drewN (HB1.out.alloc HB1.out.size _) _⟩
    all_goals exact congrArg (fun x : Int => Ending.returned (Value.int .i64 x)) (by split <;> omega)
end Go.Proofs.Ytpfbpgbgedbalaa
