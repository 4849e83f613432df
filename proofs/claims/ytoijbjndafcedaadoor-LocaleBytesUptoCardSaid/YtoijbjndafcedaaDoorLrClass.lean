/- The reference's Class. (Written by gen_lrsets.py.) -/
import Derived.Test.YtoijbjndafcedaaDoorRows
import Derived.Test.YtoijbjndafcedaaDoorLrStdB
import Derived.Test.YtoijbjndafcedaaDoorLrSets
set_option linter.unusedVariables false
namespace Go.Proofs.YtoijbjndafcedaaDoor
open Go.RowKit

theorem eqn (l : List UInt8) (n : ByteArray) : (n.toList == l) = eqS (mkS l) n := by
  unfold eqS
  rw [ByteArray.toList_eq (mkS l), mkS_data, Bool.eq_iff_iff, beq_iff_eq, beq_iff_eq]
  exact eq_comm
theorem set_0 : cs (fun c => between 65 90 c || between 97 122 c) = cs (uniL (rgL 0)) := cs_congr _ _ (by decide +kernel)
theorem set_1 : cs (between 48 57) = cs (uniL (rgL 1)) := cs_congr _ _ (by decide +kernel)
theorem set_2 : cs (fun c => (between 65 90 c || between 97 122 c) || between 48 57 c) = cs (uniL (rgL 2)) := cs_congr _ _ (by decide +kernel)
theorem set_3 : cs (between 65 90) = cs (uniL (rgL 3)) := cs_congr _ _ (by decide +kernel)
theorem set_4 : cs (between 97 122) = cs (uniL (rgL 4)) := cs_congr _ _ (by decide +kernel)
theorem set_5 : cs (fun c => between 48 57 c || (between 65 70 c || between 97 102 c)) = cs (uniL (rgL 5)) := cs_congr _ _ (by decide +kernel)
theorem set_6 : cs (setOf [32, 9]) = cs (uniL (rgL 6)) := cs_congr _ _ (by decide +kernel)
theorem set_7 : cs (fun c => setOf [32] c || between 9 13 c) = cs (uniL (rgL 7)) := cs_congr _ _ (by decide +kernel)
theorem set_8 : cs (fun c => between 0 31 c || between 127 127 c) = cs (uniL (rgL 8)) := cs_congr _ _ (by decide +kernel)
theorem set_9 : cs (between 33 126) = cs (uniL (rgL 9)) := cs_congr _ _ (by decide +kernel)
theorem set_10 : cs (between 32 126) = cs (uniL (rgL 10)) := cs_congr _ _ (by decide +kernel)
theorem set_11 : cs (fun c => between 33 126 c && !((between 65 90 c || between 97 122 c) || between 48 57 c)) = cs (uniL (rgL 11)) := cs_congr _ _ (by decide +kernel)
theorem standard_any (n : ByteArray) (w : World) : Calls Tryd.prog 59 #[.string n] w fun e w' => e = .returned (.tuple #[cs (stdR n).1, .bool (stdR n).2]) ∧ Below w.heap.size w w' := by
  rcases bool_tf (eqS (mkS (nmL2 0)) n) with f0 | f0
  · have hR := stdR_at n 0 (by decide) f0 (fun q hq => absurd hq (Nat.not_lt_zero q))
    rw [hR]
    rw [← set_0]
    exact std_0 n w ((eqn (nmL2 0) n).trans f0)
  rcases bool_tf (eqS (mkS (nmL2 1)) n) with f1 | f1
  · have hR := stdR_at n 1 (by decide) f1 (fun q hq => by
      have hc : q = 0 := by omega
      rcases hc with rfl
      · exact f0)
    rw [hR]
    rw [← set_1]
    exact std_1 n w ((eqn (nmL2 0) n).trans f0) ((eqn (nmL2 1) n).trans f1)
  rcases bool_tf (eqS (mkS (nmL2 2)) n) with f2 | f2
  · have hR := stdR_at n 2 (by decide) f2 (fun q hq => by
      have hc : q = 0 ∨ q = 1 := by omega
      rcases hc with rfl | rfl
      · exact f0
      · exact f1)
    rw [hR]
    rw [← set_2]
    exact std_2 n w ((eqn (nmL2 0) n).trans f0) ((eqn (nmL2 1) n).trans f1) ((eqn (nmL2 2) n).trans f2)
  rcases bool_tf (eqS (mkS (nmL2 3)) n) with f3 | f3
  · have hR := stdR_at n 3 (by decide) f3 (fun q hq => by
      have hc : q = 0 ∨ q = 1 ∨ q = 2 := by omega
      rcases hc with rfl | rfl | rfl
      · exact f0
      · exact f1
      · exact f2)
    rw [hR]
    rw [← set_3]
    exact std_3 n w ((eqn (nmL2 0) n).trans f0) ((eqn (nmL2 1) n).trans f1) ((eqn (nmL2 2) n).trans f2) ((eqn (nmL2 3) n).trans f3)
  rcases bool_tf (eqS (mkS (nmL2 4)) n) with f4 | f4
  · have hR := stdR_at n 4 (by decide) f4 (fun q hq => by
      have hc : q = 0 ∨ q = 1 ∨ q = 2 ∨ q = 3 := by omega
      rcases hc with rfl | rfl | rfl | rfl
      · exact f0
      · exact f1
      · exact f2
      · exact f3)
    rw [hR]
    rw [← set_4]
    exact std_4 n w ((eqn (nmL2 0) n).trans f0) ((eqn (nmL2 1) n).trans f1) ((eqn (nmL2 2) n).trans f2) ((eqn (nmL2 3) n).trans f3) ((eqn (nmL2 4) n).trans f4)
  rcases bool_tf (eqS (mkS (nmL2 5)) n) with f5 | f5
  · have hR := stdR_at n 5 (by decide) f5 (fun q hq => by
      have hc : q = 0 ∨ q = 1 ∨ q = 2 ∨ q = 3 ∨ q = 4 := by omega
      rcases hc with rfl | rfl | rfl | rfl | rfl
      · exact f0
      · exact f1
      · exact f2
      · exact f3
      · exact f4)
    rw [hR]
    rw [← set_5]
    exact std_5 n w ((eqn (nmL2 0) n).trans f0) ((eqn (nmL2 1) n).trans f1) ((eqn (nmL2 2) n).trans f2) ((eqn (nmL2 3) n).trans f3) ((eqn (nmL2 4) n).trans f4) ((eqn (nmL2 5) n).trans f5)
  rcases bool_tf (eqS (mkS (nmL2 6)) n) with f6 | f6
  · have hR := stdR_at n 6 (by decide) f6 (fun q hq => by
      have hc : q = 0 ∨ q = 1 ∨ q = 2 ∨ q = 3 ∨ q = 4 ∨ q = 5 := by omega
      rcases hc with rfl | rfl | rfl | rfl | rfl | rfl
      · exact f0
      · exact f1
      · exact f2
      · exact f3
      · exact f4
      · exact f5)
    rw [hR]
    rw [← set_6]
    exact std_6 n w ((eqn (nmL2 0) n).trans f0) ((eqn (nmL2 1) n).trans f1) ((eqn (nmL2 2) n).trans f2) ((eqn (nmL2 3) n).trans f3) ((eqn (nmL2 4) n).trans f4) ((eqn (nmL2 5) n).trans f5) ((eqn (nmL2 6) n).trans f6)
  rcases bool_tf (eqS (mkS (nmL2 7)) n) with f7 | f7
  · have hR := stdR_at n 7 (by decide) f7 (fun q hq => by
      have hc : q = 0 ∨ q = 1 ∨ q = 2 ∨ q = 3 ∨ q = 4 ∨ q = 5 ∨ q = 6 := by omega
      rcases hc with rfl | rfl | rfl | rfl | rfl | rfl | rfl
      · exact f0
      · exact f1
      · exact f2
      · exact f3
      · exact f4
      · exact f5
      · exact f6)
    rw [hR]
    rw [← set_7]
    exact std_7 n w ((eqn (nmL2 0) n).trans f0) ((eqn (nmL2 1) n).trans f1) ((eqn (nmL2 2) n).trans f2) ((eqn (nmL2 3) n).trans f3) ((eqn (nmL2 4) n).trans f4) ((eqn (nmL2 5) n).trans f5) ((eqn (nmL2 6) n).trans f6) ((eqn (nmL2 7) n).trans f7)
  rcases bool_tf (eqS (mkS (nmL2 8)) n) with f8 | f8
  · have hR := stdR_at n 8 (by decide) f8 (fun q hq => by
      have hc : q = 0 ∨ q = 1 ∨ q = 2 ∨ q = 3 ∨ q = 4 ∨ q = 5 ∨ q = 6 ∨ q = 7 := by omega
      rcases hc with rfl | rfl | rfl | rfl | rfl | rfl | rfl | rfl
      · exact f0
      · exact f1
      · exact f2
      · exact f3
      · exact f4
      · exact f5
      · exact f6
      · exact f7)
    rw [hR]
    rw [← set_8]
    exact std_8 n w ((eqn (nmL2 0) n).trans f0) ((eqn (nmL2 1) n).trans f1) ((eqn (nmL2 2) n).trans f2) ((eqn (nmL2 3) n).trans f3) ((eqn (nmL2 4) n).trans f4) ((eqn (nmL2 5) n).trans f5) ((eqn (nmL2 6) n).trans f6) ((eqn (nmL2 7) n).trans f7) ((eqn (nmL2 8) n).trans f8)
  rcases bool_tf (eqS (mkS (nmL2 9)) n) with f9 | f9
  · have hR := stdR_at n 9 (by decide) f9 (fun q hq => by
      have hc : q = 0 ∨ q = 1 ∨ q = 2 ∨ q = 3 ∨ q = 4 ∨ q = 5 ∨ q = 6 ∨ q = 7 ∨ q = 8 := by omega
      rcases hc with rfl | rfl | rfl | rfl | rfl | rfl | rfl | rfl | rfl
      · exact f0
      · exact f1
      · exact f2
      · exact f3
      · exact f4
      · exact f5
      · exact f6
      · exact f7
      · exact f8)
    rw [hR]
    rw [← set_9]
    exact std_9 n w ((eqn (nmL2 0) n).trans f0) ((eqn (nmL2 1) n).trans f1) ((eqn (nmL2 2) n).trans f2) ((eqn (nmL2 3) n).trans f3) ((eqn (nmL2 4) n).trans f4) ((eqn (nmL2 5) n).trans f5) ((eqn (nmL2 6) n).trans f6) ((eqn (nmL2 7) n).trans f7) ((eqn (nmL2 8) n).trans f8) ((eqn (nmL2 9) n).trans f9)
  rcases bool_tf (eqS (mkS (nmL2 10)) n) with f10 | f10
  · have hR := stdR_at n 10 (by decide) f10 (fun q hq => by
      have hc : q = 0 ∨ q = 1 ∨ q = 2 ∨ q = 3 ∨ q = 4 ∨ q = 5 ∨ q = 6 ∨ q = 7 ∨ q = 8 ∨ q = 9 := by omega
      rcases hc with rfl | rfl | rfl | rfl | rfl | rfl | rfl | rfl | rfl | rfl
      · exact f0
      · exact f1
      · exact f2
      · exact f3
      · exact f4
      · exact f5
      · exact f6
      · exact f7
      · exact f8
      · exact f9)
    rw [hR]
    rw [← set_10]
    exact std_10 n w ((eqn (nmL2 0) n).trans f0) ((eqn (nmL2 1) n).trans f1) ((eqn (nmL2 2) n).trans f2) ((eqn (nmL2 3) n).trans f3) ((eqn (nmL2 4) n).trans f4) ((eqn (nmL2 5) n).trans f5) ((eqn (nmL2 6) n).trans f6) ((eqn (nmL2 7) n).trans f7) ((eqn (nmL2 8) n).trans f8) ((eqn (nmL2 9) n).trans f9) ((eqn (nmL2 10) n).trans f10)
  rcases bool_tf (eqS (mkS (nmL2 11)) n) with f11 | f11
  · have hR := stdR_at n 11 (by decide) f11 (fun q hq => by
      have hc : q = 0 ∨ q = 1 ∨ q = 2 ∨ q = 3 ∨ q = 4 ∨ q = 5 ∨ q = 6 ∨ q = 7 ∨ q = 8 ∨ q = 9 ∨ q = 10 := by omega
      rcases hc with rfl | rfl | rfl | rfl | rfl | rfl | rfl | rfl | rfl | rfl | rfl
      · exact f0
      · exact f1
      · exact f2
      · exact f3
      · exact f4
      · exact f5
      · exact f6
      · exact f7
      · exact f8
      · exact f9
      · exact f10)
    rw [hR]
    rw [← set_11]
    exact std_11 n w ((eqn (nmL2 0) n).trans f0) ((eqn (nmL2 1) n).trans f1) ((eqn (nmL2 2) n).trans f2) ((eqn (nmL2 3) n).trans f3) ((eqn (nmL2 4) n).trans f4) ((eqn (nmL2 5) n).trans f5) ((eqn (nmL2 6) n).trans f6) ((eqn (nmL2 7) n).trans f7) ((eqn (nmL2 8) n).trans f8) ((eqn (nmL2 9) n).trans f9) ((eqn (nmL2 10) n).trans f10) ((eqn (nmL2 11) n).trans f11)
  have hR := stdR_no n (fun q hq => by
    have hc : q = 0 ∨ q = 1 ∨ q = 2 ∨ q = 3 ∨ q = 4 ∨ q = 5 ∨ q = 6 ∨ q = 7 ∨ q = 8 ∨ q = 9 ∨ q = 10 ∨ q = 11 := by omega
    rcases hc with rfl | rfl | rfl | rfl | rfl | rfl | rfl | rfl | rfl | rfl | rfl | rfl
    · exact f0
    · exact f1
    · exact f2
    · exact f3
    · exact f4
    · exact f5
    · exact f6
    · exact f7
    · exact f8
    · exact f9
    · exact f10
    · exact f11)
  rw [hR]
  exact std_12 n w ((eqn (nmL2 0) n).trans f0) ((eqn (nmL2 1) n).trans f1) ((eqn (nmL2 2) n).trans f2) ((eqn (nmL2 3) n).trans f3) ((eqn (nmL2 4) n).trans f4) ((eqn (nmL2 5) n).trans f5) ((eqn (nmL2 6) n).trans f6) ((eqn (nmL2 7) n).trans f7) ((eqn (nmL2 8) n).trans f8) ((eqn (nmL2 9) n).trans f9) ((eqn (nmL2 10) n).trans f10) ((eqn (nmL2 11) n).trans f11)

set_option maxRecDepth 100000 in
set_option maxHeartbeats 8000000 in
theorem rClass_any (L : Loc) (W C E : Value) (n : ByteArray) (w : World) (hM : LocM w L W C E) :
    Calls Tryd.prog 24 #[.agg (lcl L W C E), .string n] w fun e w' => e = .returned (.tuple #[cs (clsR (vld L) n).1, .bool (clsR (vld L) n).2]) ∧ Below w.heap.size w w' := by
  have HB : Hid (Below w.heap.size w ((w.alloc (.cells (lcl L W C E) 26)).alloc (.cells #[.int .u64 0, .int .u64 0, .int .u64 0, .int .u64 0] 43))) := ((Below.refl _ _).alloc (Nat.le_refl _) _).alloc (by simp) _
  have HA : Hid (LAt ((w.alloc (.cells (lcl L W C E) 26)).alloc (.cells #[.int .u64 0, .int .u64 0, .int .u64 0, .int .u64 0] 43)) w.heap.size (lcl L W C E)) := by
    show LAt _ _ _
    unfold LAt
    rw [Below.heap_alloc _ _ _ (by simp)]
    exact heap_alloc_new w _
  have HZ : Hid (At ((w.alloc (.cells (lcl L W C E) 26)).alloc (.cells #[.int .u64 0, .int .u64 0, .int .u64 0, .int .u64 0] 43)) (w.heap.size + 1) (fun _ => false)) := by
    show At _ _ _
    rw [cl_zero]
    have := At.new (w.alloc (.cells (lcl L W C E) 26)) (fun _ => false)
    simpa using this
  have HU := Lib.hid (valid_any L W C E _ (hM.below HB.out))
  have HV := Lib.hid (ok_vld L)
  generalize vld L = V at *
  obtain ⟨R, hR⟩ : ∃ R, clsR V n = R := ⟨_, rfl⟩
  rw [hR]
  have HRs := Lib.hid hR
  have HSt := Lib.hid (standard_any n)
  unfold cs at HSt
  clear hR
  obtain ⟨⟨aw, capw, rfl, _⟩, ⟨ac, capc, rfl, _⟩, ⟨ae, cape, rfl, _⟩⟩ := hM
  unfold lcl at HB HA HU HZ ⊢
  go_enter Tryd.func24, Tryd.ntmps24
  go_wp2_with (first
    | (go_at_call 50
       refine HU.out.mono ?_
       rintro e w1 ⟨W1, C1, E1, rfl, hm, hb⟩
       have l1 := HA.out.under hb HA.out.lt
       have z1 := HZ.out.below hb HZ.out.lt
       have HRp := Lib.hid (RS.start l1 hm (HB.out.trans (hb.mono HB.out.size)))
       have HZp := Lib.hid z1
       obtain ⟨⟨aw1, capw1, rfl, _⟩, ⟨ac1, capc1, rfl, _⟩, ⟨ae1, cape1, rfl, _⟩⟩ := hm
       obtain ⟨⟨y0, y1, y2⟩, ⟨y3, y4, y5⟩, hg⟩ := l1.six
       clear l1 z1 hb))
  clear y0 y1 y2 y3 y4 y5 hg HU
  generalize hS : (((((w1.setCell _ _).setCell _ _).setCell _ _).setCell _ _).setCell _ _).setCell _ _ = wS
  have hP : PW w1 w.heap.size V (.slice aw1 V.nw capw1) (.slice ac1 V.nc capc1) (.slice ae1 V.ne cape1) = wS := hS
  have HR : Hid (RS w V (.slice aw1 V.nw capw1) (.slice ac1 V.nc capc1) (.slice ae1 V.ne cape1) wS) := by
    show RS w V _ _ _ wS
    rw [← hP]
    exact HRp.out
  have HZ1 : Hid (At wS (w.heap.size + 1) (fun _ => false)) := by
    show At _ _ _
    rw [← hP]
    exact (put6_far w1 w.heap.size (w.heap.size + 1) (by omega) _ _ _ _ _ _).trans HZp.out
  clear hS hP HRp HZp HA HB HZ
  have hnc : (V.nc : Int) ≤ 24 := by have := HV.out.nc; omega
  have hl := HR.out.1
  unfold lcl at hl
  obtain ⟨⟨l0, l1, l2⟩, ⟨l3, l4, l5⟩, hlf⟩ := hl.six
  have hsc := HR.out.2.1.2.1
  obtain ⟨ac2, capc2, ec, _, hcc⟩ := hsc
  simp only [Value.slice.injEq] at ec
  obtain ⟨rfl, -, rfl⟩ := ec
  have HC1 := Lib.hid hcc
  clear l0 l1 l2 l3 l5 hlf hl hcc
  go_loopw [6] (fun i wr => ∃ k : Nat, k ≤ V.nc ∧ i = .int .i64 k ∧ Hid (∀ q, q < k → eqS (V.cn q) n = false) ∧ wr = wS) (fun i _ => V.nc - (intOf i).toNat)
  case atStart => exact ⟨0, Nat.zero_le _, rfl, fun q hq => by omega, rfl⟩
  case round =>
    obtain ⟨k, hk, rfl, HQ, rfl⟩ := hrel
    by_cases hkn : k < V.nc
    · have ki : (k : Int) < V.nc := by omega
      have ki0 : (0 : Int) ≤ k := by omega
      rcases HC1.out with h0 | ⟨b, off, rfl, hlt, hcells⟩
      · omega
      have ck0 : wr.cell? ⟨b, off + k * 5, none⟩ = some (.string (V.cn k)) := hcells k 0 hkn (by decide)
      have ck1 : wr.cell? ⟨b, off + k * 5 + 1, none⟩ = some (clsF V k 1) := hcells k 1 hkn (by decide)
      have ck2 : wr.cell? ⟨b, off + k * 5 + 2, none⟩ = some (clsF V k 2) := hcells k 2 hkn (by decide)
      have ck3 : wr.cell? ⟨b, off + k * 5 + 3, none⟩ = some (clsF V k 3) := hcells k 3 hkn (by decide)
      have ck4 : wr.cell? ⟨b, off + k * 5 + 4, none⟩ = some (clsF V k 4) := hcells k 4 hkn (by decide)
      rw [clsF_word V k 0] at ck1
      rw [clsF_word V k 1] at ck2
      rw [clsF_word V k 2] at ck3
      rw [clsF_word V k 3] at ck4
      simp only [Nat.mul_zero, Nat.reduceMul] at ck1 ck2 ck3 ck4
      clear hcells hlt
      obtain ⟨D, hD⟩ : ∃ D, ((V.cn k).toList == n.toList) = D := ⟨_, rfl⟩
      have HD : Hid (eqS (V.cn k) n = D) := hD
      rcases bool_tf D with hd | hd
      · subst hd
        have HN : Hid (R = (V.cset k, true)) := HRs.out.symm.trans (clsR_at V n k hkn HD.out HQ.out)
        obtain ⟨⟨d0, d1⟩, ⟨d2, d3⟩, hg⟩ := HZ1.out.words
        go_wp2
        exact bodyPost_ret (ret_cs2 Tryd.results24 _ _ (w.heap.size + 1) (V.cset k) (.bool true) (by simp) (by simp) (HZ1.out.put4 _)) rfl ⟨by rw [HN.out], below_put4 HR.out.2.2 _ (Nat.le_succ _) _⟩
      · subst hd
        go_wp2
        go_roundw
        case rel =>
          refine ⟨k + 1, by omega, by go_num, fun q hq => ?_, trivial⟩
          by_cases e : q = k
          · subst e; exact HD.out
          · exact HQ.out q (by omega)
        case measure => simp [intOf]; omega
    · obtain rfl : k = V.nc := by omega
      have HN : Hid (R = stdR n) := HRs.out.symm.trans (clsR_no V n HQ.out)
      obtain ⟨S, hSr⟩ : ∃ S, stdR n = S := ⟨_, rfl⟩
      rw [hSr] at HN HSt
      clear hSr
      go_wp2_with (first
        | (go_at_call 59
           refine (HSt.out _).mono ?_
           rintro e w3 ⟨rfl, hb⟩
           have HB3 := Lib.hid (HR.out.2.2.trans (hb.mono HR.out.2.2.size))
           have B1 := HZ1.out.below hb HZ1.out.lt
           have HA3 := Lib.hid B1
           obtain ⟨⟨d0, d1⟩, ⟨d2, d3⟩, hg⟩ := B1.words
           clear B1 hb
           unfold cl))
      exact bodyPost_ret (ret_cs2 Tryd.results24 _ _ (w.heap.size + 1) S.1 (.bool S.2) (by simp) (by simp) (HA3.out.put4 _)) rfl ⟨by rw [HN.out], below_put4 HB3.out _ (Nat.le_succ _) _⟩
end Go.Proofs.YtoijbjndafcedaaDoor
