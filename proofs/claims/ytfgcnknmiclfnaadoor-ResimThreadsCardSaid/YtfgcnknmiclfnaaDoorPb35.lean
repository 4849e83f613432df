/- RsShft, RsPart. -/
import Derived.Test.YtfgcnknmiclfnaaDoorPb34
import Derived.Deep.RegionHeld3
import Derived.BigQuiet
import Derived.Test.YtfgcnknmiclfnaaDoorPb33
set_option linter.unusedVariables false
set_option linter.unusedSimpArgs false
set_option maxRecDepth 100000
set_option maxHeartbeats 8000000
namespace Go.Proofs.YtfgcnknmiclfnaaDoor
open Go.RowKit
theorem app_list (b s : ByteArray) : (b ++ s).data.toList = b.data.toList ++ s.data.toList := by simp [ByteArray.data_append]
theorem neq_self (o x : Int) (w : World) : (binOp .neq 28 (.agg #[.int .i64 o, .int .i64 x]) (.agg #[.int .i64 o, .int .i64 x])).run Tryd.prog w = .ok (.bool false) w := by
  rw [neq_sp]
  simp
theorem shifts_law (L : List IN) (pv : Value) (ln : Bool) (bf sv : ByteArray) (a c : Int) (w : World) (hp : PI w 0 L pv) (hK : KT w) : Calls Tryd.prog 6 #[.agg #[pv, .bool ln], .string bf, .agg #[.string sv, .int .i64 a, .int .i64 c]] w fun e w' => e = .returned (.bool true) ∧ Below w.heap.size w w' := by
  obtain ⟨ad, cap, rfl⟩ := hp.form
  obtain ⟨R, hR⟩ : ∃ R, w.heap.size = R := ⟨_, rfl⟩
  have hb1 := (Below.refl w.heap.size w).alloc (Nat.le_refl _) (.cells #[.slice ad L.length cap, .bool ln] 24)
  have hx1 := heap_alloc_new w (.cells #[.slice ad L.length cap, .bool ln] 24)
  obtain ⟨W1, hW1⟩ : ∃ W1, W1 = w.alloc (.cells #[.slice ad L.length cap, .bool ln] 24) := ⟨_, rfl⟩
  have hz1 : W1.heap.size = R + 1 := by rw [hW1, ← hR]; simp
  rw [← hW1] at hb1 hx1
  have hb2 := (Below.refl W1.heap.size W1).alloc (Nat.le_refl _) (.cells #[.string sv, .int .i64 a, .int .i64 c] 33)
  have hy := heap_alloc_new W1 (.cells #[.string sv, .int .i64 a, .int .i64 c] 33)
  obtain ⟨W, hW⟩ : ∃ W, W = W1.alloc (.cells #[.string sv, .int .i64 a, .int .i64 c] 33) := ⟨_, rfl⟩
  rw [← hW] at hb2 hy
  have hb : Below w.heap.size w W := hb1.trans (hb2.mono hb1.size)
  have hx := (hb2.block w.heap.size (by rw [hz1]; omega)).trans hx1
  rw [hR] at hx
  rw [hz1] at hy
  rw [hW1] at hW
  have q0 := cell_of_row W R 0 _ _ _ hx
  have q1 := cell_of_row W R 1 _ _ _ hx
  have y0 := cell_of_row W (R + 1) 0 _ _ _ hy
  have y1 := cell_of_row W (R + 1) 1 _ _ _ hy
  have y2 := cell_of_row W (R + 1) 2 _ _ _ hy
  have hlW : R < W.heap.size := (Array.getElem?_eq_some_iff.1 hx).1
  have hlY : R + 1 < W.heap.size := (Array.getElem?_eq_some_iff.1 hy).1
  have HX := Lib.hid hx
  have HB := Lib.hid hb
  have HW := Lib.hid hW
  have HP := Lib.hid (hp.below hb)
  have HK := Lib.hid (hK.below hb)
  have HAw := Lib.hid (fun W h => awake11 W h)
  have HF1 := Lib.hid (fun (W : World) hp => few_any L (.slice ad L.length cap) 0 ln bf W hp)
  have HF2 := Lib.hid (fun (W : World) hp => few_any L (.slice ad L.length cap) 0 ln sv W hp)
  obtain ⟨f1, hf1⟩ : ∃ f, (decide (L.length ≤ 60) && decide (bf.size ≤ 24)) = f := ⟨_, rfl⟩
  obtain ⟨f2, hf2⟩ : ∃ f, (decide (L.length ≤ 60) && decide (sv.size ≤ 24)) = f := ⟨_, rfl⟩
  rw [hf1] at HF1
  rw [hf2] at HF2
  have hsz1 : (W1.heap.size) = R + 1 := hz1
  clear hb1 hx1 hW1 hz1 hb2 hsz1 hy hb hx hW hp hK
  go_enter Tryd.func6, Tryd.ntmps6
  go_upto_region 1 with fail
  rw [← HW.out]
  go_quiet (fail)
  rename Nat => nq
  obtain ⟨V, hV⟩ : ∃ V, V = W.drewN nq := ⟨_, rfl⟩
  have hbV : Below W.heap.size W V := by rw [hV]; exact below_drewN (Below.refl _ _) nq
  rw [← hV]
  have hxV := (hbV.block R hlW).trans HX.out
  have hlV : R < V.heap.size := (Array.getElem?_eq_some_iff.1 hxV).1
  clear q0 q1 y0 y1 y2 hlY hlW
  have q0 := cell_of_row V R 0 _ _ _ hxV
  have q1 := cell_of_row V R 1 _ _ _ hxV
  have HX' := Lib.hid hxV
  have HB' := Lib.hid (HB.out.trans (hbV.mono HB.out.size))
  have HP' := Lib.hid (HP.out.below hbV)
  have HK' := Lib.hid (HK.out.below hbV)
  clear hxV hbV hV HX HB HP HK HW
  cases f1 with
  | false =>
    clear hf1 hf2
    go_wp2_with (first
      | (go_at_call 8; (with_reducible refine (HF1.out _ HP'.out).mono ?_); rintro e w4 ⟨rfl, hb4⟩
         have HB4 := Lib.hid hb4
         have hx4 := (hb4.block R hlV).trans HX'.out
         have hl4 : R < w4.heap.size := by have := hb4.size; omega
         clear hb4 q0 q1
         have q0 := cell_of_row w4 R 0 _ _ _ hx4
         have q1 := cell_of_row w4 R 1 _ _ _ hx4
         clear hx4)
      | (go_at_call 9; (with_reducible refine (HAw.out _ (HK'.out.below HB4.out)).mono ?_); rintro e w9 ⟨rfl, hb9⟩; have HB9 := Lib.hid (HB4.out.trans (hb9.mono HB4.out.size)); clear hb9))
    go_ret
    exact ⟨rfl, HB'.out.trans (HB9.out.mono HB'.out.size)⟩
  | true =>
  cases f2 with
  | false =>
    clear hf1 hf2
    go_wp2_with (first
      | (go_at_call 8; (with_reducible refine (HF1.out _ HP'.out).mono ?_); rintro e w4 ⟨rfl, hb4⟩
         have HB4 := Lib.hid hb4
         have hx4 := (hb4.block R hlV).trans HX'.out
         have hl4 : R < w4.heap.size := by have := hb4.size; omega
         clear hb4 q0 q1
         have q0 := cell_of_row w4 R 0 _ _ _ hx4
         have q1 := cell_of_row w4 R 1 _ _ _ hx4
         clear hx4)
      | (go_at_call 8; (with_reducible refine (HF2.out _ (HP'.out.below HB4.out)).mono ?_); rintro e w5 ⟨rfl, hb5⟩
         have HB5 := Lib.hid (HB4.out.trans (hb5.mono HB4.out.size))
         have hx5 := (HB5.out.block R hlV).trans HX'.out
         have hl5 : R < w5.heap.size := by have := HB5.out.size; omega
         clear hb5 q0 q1
         have q0 := cell_of_row w5 R 0 _ _ _ hx5
         have q1 := cell_of_row w5 R 1 _ _ _ hx5
         clear hx5)
      | (go_at_call 9; (with_reducible refine (HAw.out _ (HK'.out.below HB5.out)).mono ?_); rintro e w9 ⟨rfl, hb9⟩; have HB9 := Lib.hid (HB5.out.trans (hb9.mono HB5.out.size)); clear hb9))
    go_ret
    exact ⟨rfl, HB'.out.trans (HB9.out.mono HB'.out.size)⟩
  | true =>
  rw [Bool.and_eq_true] at hf1 hf2
  have h60 : L.length ≤ 60 := of_decide_eq_true hf1.1
  have hbs : bf.size ≤ 24 := of_decide_eq_true hf1.2
  have h24 : sv.size ≤ 24 := of_decide_eq_true hf2.2
  have hsI : (sv.size : Int) ≤ 24 := by omega
  have hbI : (bf.size : Int) ≤ 24 := by omega
  have hLI : (L.length : Int) ≤ 60 := by omega
  clear hf1 hf2
  by_cases ha : a < 0
  · go_wp2_with (first
      | (go_at_call 8; (with_reducible refine (HF1.out _ HP'.out).mono ?_); rintro e w4 ⟨rfl, hb4⟩
         have HB4 := Lib.hid hb4
         have hx4 := (hb4.block R hlV).trans HX'.out
         have hl4 : R < w4.heap.size := by have := hb4.size; omega
         clear hb4 q0 q1
         have q0 := cell_of_row w4 R 0 _ _ _ hx4
         have q1 := cell_of_row w4 R 1 _ _ _ hx4
         clear hx4)
      | (go_at_call 8; (with_reducible refine (HF2.out _ (HP'.out.below HB4.out)).mono ?_); rintro e w5 ⟨rfl, hb5⟩
         have HB5 := Lib.hid (HB4.out.trans (hb5.mono HB4.out.size))
         have hx5 := (HB5.out.block R hlV).trans HX'.out
         have hl5 : R < w5.heap.size := by have := HB5.out.size; omega
         clear hb5 q0 q1
         have q0 := cell_of_row w5 R 0 _ _ _ hx5
         have q1 := cell_of_row w5 R 1 _ _ _ hx5
         clear hx5)
      | (go_at_call 9; (with_reducible refine (HAw.out _ (HK'.out.below HB5.out)).mono ?_); rintro e w9 ⟨rfl, hb9⟩; have HB9 := Lib.hid (HB5.out.trans (hb9.mono HB5.out.size)); clear hb9))
    go_ret
    exact ⟨rfl, HB'.out.trans (HB9.out.mono HB'.out.size)⟩
  by_cases hc : (sv.size : Int) < a
  · go_wp2_with (first
      | (go_at_call 8; (with_reducible refine (HF1.out _ HP'.out).mono ?_); rintro e w4 ⟨rfl, hb4⟩
         have HB4 := Lib.hid hb4
         have hx4 := (hb4.block R hlV).trans HX'.out
         have hl4 : R < w4.heap.size := by have := hb4.size; omega
         clear hb4 q0 q1
         have q0 := cell_of_row w4 R 0 _ _ _ hx4
         have q1 := cell_of_row w4 R 1 _ _ _ hx4
         clear hx4)
      | (go_at_call 8; (with_reducible refine (HF2.out _ (HP'.out.below HB4.out)).mono ?_); rintro e w5 ⟨rfl, hb5⟩
         have HB5 := Lib.hid (HB4.out.trans (hb5.mono HB4.out.size))
         have hx5 := (HB5.out.block R hlV).trans HX'.out
         have hl5 : R < w5.heap.size := by have := HB5.out.size; omega
         clear hb5 q0 q1
         have q0 := cell_of_row w5 R 0 _ _ _ hx5
         have q1 := cell_of_row w5 R 1 _ _ _ hx5
         clear hx5)
      | (go_at_call 9; (with_reducible refine (HAw.out _ (HK'.out.below HB5.out)).mono ?_); rintro e w9 ⟨rfl, hb9⟩; have HB9 := Lib.hid (HB5.out.trans (hb9.mono HB5.out.size)); clear hb9))
    go_ret
    exact ⟨rfl, HB'.out.trans (HB9.out.mono HB'.out.size)⟩
  obtain ⟨n, rfl⟩ : ∃ n : Nat, a = (n : Int) := ⟨a.toNat, by omega⟩
  have hn : n ≤ sv.size := by omega
  have HS := Lib.hid (fun (E : Nat) (W : World) hp hk => search_any L (.slice ad L.length cap) 0 ln sv (E : Int) W hp hk (by omega))
  have hn0 : (0 : Int) ≤ (n : Int) := by omega
  have HLen : Hid (sv.data.toList.length = sv.size) := Lib.hid (lb_len sv)
  have H60 := Lib.hid h60
  clear ha h60 h24
  go_upto_region 5 with (first
      | (go_at_call 8; (with_reducible refine (HF1.out _ HP'.out).mono ?_); rintro e w4 ⟨rfl, hb4⟩
         have HB4 := Lib.hid hb4
         have hx4 := (hb4.block R hlV).trans HX'.out
         have hl4 : R < w4.heap.size := by have := hb4.size; omega
         clear hb4 q0 q1
         have q0 := cell_of_row w4 R 0 _ _ _ hx4
         have q1 := cell_of_row w4 R 1 _ _ _ hx4
         clear hx4)
      | (go_at_call 8; (with_reducible refine (HF2.out _ (HP'.out.below HB4.out)).mono ?_); rintro e w5 ⟨rfl, hb5⟩
         have HB5 := Lib.hid (HB4.out.trans (hb5.mono HB4.out.size))
         have hx5 := (HB5.out.block R hlV).trans HX'.out
         have hl5 : R < w5.heap.size := by have := HB5.out.size; omega
         clear hb5 q0 q1
         have q0 := cell_of_row w5 R 0 _ _ _ hx5
         have q1 := cell_of_row w5 R 1 _ _ _ hx5
         clear hx5)
      | (go_at_call 10; (with_reducible refine (HS.out n _ (HP'.out.below HB5.out) (HK'.out.below HB5.out)).mono ?_); rintro e w6 ⟨⟨mf, mt, ok, rfl, hss⟩, hb6⟩
         have HS6 := Lib.hid hss
         have HB6 := Lib.hid (HB5.out.trans (hb6.mono HB5.out.size))
         clear hss hb6 q0 q1))
  have HL1 := Lib.hid (fun (W : World) hp hk => longestx_any L (.slice ad L.length cap) 0 ln sv (n : Int) W hp hk (by omega))
  have HL2 := Lib.hid (fun (W : World) hp hk => longestx_any L (.slice ad L.length cap) 0 ln (bf ++ sv) ((bf.size : Int) + (n : Int)) W hp hk (by rw [ByteArray.size_append]; omega))
  obtain ⟨m1, m2, m3⟩ := ss_from HS6.out
  rw [HLen.out] at m1 m2
  have hmI : (mf : Int) ≤ 24 := by omega
  have htI0 : (mt : Int) ≤ 24 := by omega
  have HM3 := Lib.hid m3
  clear m3
  have hx7 := heap_alloc_new w6 (.cells #[.int .i64 (mf : Int), .int .i64 (mt : Int)] 28)
  have hb7 : Below w6.heap.size w6 (w6.alloc (.cells #[.int .i64 (mf : Int), .int .i64 (mt : Int)] 28)) := (Below.refl _ _).alloc (Nat.le_refl _) _
  generalize hW7 : w6.alloc (.cells #[.int .i64 (mf : Int), .int .i64 (mt : Int)] 28) = w7 at *
  obtain ⟨M, hM⟩ : ∃ M, w6.heap.size = M := ⟨_, rfl⟩
  rw [hM] at hx7
  rw [hM]
  have hlM : M < w7.heap.size := (Array.getElem?_eq_some_iff.1 hx7).1
  have HX7 := Lib.hid hx7
  have HB7 : Hid (Below V.heap.size V w7) := Lib.hid (HB6.out.trans (hb7.mono HB6.out.size))
  clear hx7 hb7 hW7 hM
  go_wp2_with fail
  go_loopw [11] (fun x wr => ∃ i : Nat, n ≤ i ∧ i ≤ 25 ∧ x = .int .i64 i ∧ Hid (Below w7.heap.size w7 wr)) (fun x _ => 30 - (intOf x).toNat)
  case atStart => exact ⟨n, Nat.le_refl _, by omega, rfl, Lib.hid (Below.refl _ _)⟩
  case round =>
    obtain ⟨i, hni, hi25, rfl, HR⟩ := hrel
    rename World => wA
    have HBA : Hid (Below V.heap.size V wA) := Lib.hid (HB7.out.trans (HR.out.mono HB7.out.size))
    have hx := (HBA.out.block R hlV).trans HX'.out
    have q0 := cell_of_row wA R 0 _ _ _ hx
    have q1 := cell_of_row wA R 1 _ _ _ hx
    have hlR : R < wA.heap.size := (Array.getElem?_eq_some_iff.1 hx).1
    clear hx
    have hx := (HR.out.block M hlM).trans HX7.out
    have p0 := cell_of_row wA M 0 _ _ _ hx
    have p1 := cell_of_row wA M 1 _ _ _ hx
    have hlA : M < wA.heap.size := (Array.getElem?_eq_some_iff.1 hx).1
    have HXA := Lib.hid hx
    clear hx
    have hiI : (i : Int) ≤ 25 := by omega
    by_cases hgo : ok = true ∧ i ≤ mf
    · obtain ⟨rfl, hi⟩ := hgo
      have i1 : (i : Int) ≤ (mf : Int) := by omega
      have Nq := fun w => neq_self (mf : Int) (mt : Int) w
      go_upto_region 9 with (first
        | (go_at_call 10; (with_reducible refine (HS.out i _ (HP'.out.below HBA.out) (HK'.out.below HBA.out)).mono ?_); rintro e w8 ⟨⟨mf', mt', ok', rfl, hss⟩, hb8⟩
           obtain ⟨e1, e2, e3⟩ := ss_later HS6.out hni hi hss
           have e2' := e2.symm
           have e3' := e3.symm
           clear e2 e3
           subst e1 e2' e3'
           have HB8 := Lib.hid hb8
           clear hss hb8 q0 q1 p0 p1))
      have hx9 := heap_alloc_new w8 (.cells #[.int .i64 (mf : Int), .int .i64 (mt : Int)] 28)
      have hb9 : Below w8.heap.size w8 (w8.alloc (.cells #[.int .i64 (mf : Int), .int .i64 (mt : Int)] 28)) := (Below.refl _ _).alloc (Nat.le_refl _) _
      generalize hW9 : w8.alloc (.cells #[.int .i64 (mf : Int), .int .i64 (mt : Int)] 28) = w9 at *
      obtain ⟨Z, hZ⟩ : ∃ Z, w8.heap.size = Z := ⟨_, rfl⟩
      rw [hZ] at hx9
      rw [hZ]
      have hb89 := HB8.out.trans (hb9.mono HB8.out.size)
      have hx10 := (hb89.block M hlA).trans HXA.out
      have p0 := cell_of_row w9 M 0 _ _ _ hx10
      have p1 := cell_of_row w9 M 1 _ _ _ hx10
      have z0 := cell_of_row w9 Z 0 _ _ _ hx9
      have z1 := cell_of_row w9 Z 1 _ _ _ hx9
      have hlM9 : M < w9.heap.size := (Array.getElem?_eq_some_iff.1 hx10).1
      have hlZ9 : Z < w9.heap.size := (Array.getElem?_eq_some_iff.1 hx9).1
      have HB9 : Hid (Below w7.heap.size w7 w9) := Lib.hid (HR.out.trans (hb89.mono HR.out.size))
      clear hx9 hb9 hW9 hZ hb89 hx10
      go_wp2_with fail
      go_roundw
      case rel => exact ⟨i + 1, by omega, by omega, by go_num, HB9⟩
      case measure => simp [intOf]; omega
    · have hcase : ok = false ∨ (ok = true ∧ mf < i) := by
        cases ok with
        | false => exact .inl rfl
        | true => exact .inr ⟨rfl, by have : ¬ i ≤ mf := fun h => hgo ⟨rfl, h⟩; omega⟩
      clear hgo
      rcases hcase with rfl | ⟨rfl, hi⟩
      · go_wp2_with fail
        clear q0 q1 p0 p1
        go_loopw [14] (fun x wr => ∃ j : Nat, j ≤ L.length ∧ x = .int .i64 j ∧ Hid ((∀ k, k < j → opAt L k 4 = false) ∧ Below wA.heap.size wA wr)) (fun x _ => L.length - (intOf x).toNat)
        case atStart => exact ⟨0, Nat.zero_le _, rfl, Lib.hid ⟨fun k h => by omega, Below.refl _ _⟩⟩
        case round =>
          obtain ⟨j, hj, rfl, HJ⟩ := hrel
          rename World => wB
          have HBB : Hid (Below V.heap.size V wB) := Lib.hid (HBA.out.trans (HJ.out.2.mono HBA.out.size))
          have hx := (HBB.out.block R hlV).trans HX'.out
          have q0 := cell_of_row wB R 0 _ _ _ hx
          have q1 := cell_of_row wB R 1 _ _ _ hx
          have hlR : R < wB.heap.size := (Array.getElem?_eq_some_iff.1 hx).1
          clear hx
          by_cases hjn : j < L.length
          · have j1 : (j : Int) < (L.length : Int) := by omega
            have j0 : (0 : Int) ≤ (j : Int) := by omega
            obtain ⟨pb, pi, rfl, hpl, hrow⟩ := rows_after HP'.out (by omega)
            obtain ⟨x, hx⟩ : ∃ x, x = L[j] := ⟨_, rfl⟩
            have l0 : wB.cell? ⟨pb, pi + j * 7, none⟩ = some (.int .i64 x.op) := by rw [hx]; exact hrow j hjn wB HBB.out 0 _ rfl (by decide)
            have hpb : pb < wB.heap.size := Nat.lt_of_lt_of_le hpl HBB.out.size
            have HOp : Hid (opAt L j 4 = decide (x.op = 4)) := Lib.hid (by unfold opAt; rw [List.getElem?_eq_getElem hjn, ← hx])
            clear hrow hx
            by_cases h4 : x.op = 4
            · have g4 : (x.op == (4 : Int)) = true := by simp [h4]
              go_wp2_with (first
                | (go_at_call 9; (with_reducible refine (HAw.out _ (HK'.out.below HBB.out)).mono ?_); rintro e w9 ⟨rfl, hb9⟩; have HB9 := Lib.hid (HBB.out.trans (hb9.mono HBB.out.size)); clear hb9))
              go_ret
              exact ⟨rfl, HB'.out.trans (HB9.out.mono HB'.out.size)⟩
            · have g4 : (x.op == (4 : Int)) = false := by simp [h4]
              have HO : Hid (opAt L j 4 = false) := Lib.hid (by rw [HOp.out]; simp [h4])
              go_wp2_with fail
              go_roundw
              case rel =>
                refine ⟨j + 1, by omega, by go_num, Lib.hid ⟨fun k hk => ?_, HJ.out.2⟩⟩
                by_cases e : k = j
                · subst e; exact HO.out
                · exact HJ.out.1 k (by omega)
              case measure => simp [intOf]; omega
          · obtain rfl : j = L.length := by omega
            have HNo : Hid (∀ k, opAt L k 4 = false) := Lib.hid (fun k => by
              by_cases hk : k < L.length
              · exact HJ.out.1 k hk
              · unfold opAt; rw [List.getElem?_eq_none (by omega)])
            clear hjn
            go_upto_region 18 with (first
              | (go_at_call 15; (with_reducible refine (HL1.out _ (HP'.out.below HBB.out) (HK'.out.below HBB.out)).mono ?_); rintro e wC ⟨⟨t1, k1, rfl, hl1⟩, hbC⟩
                 have HS1 := Lib.hid hl1
                 have HBC := Lib.hid (HBB.out.trans (hbC.mono HBB.out.size))
                 have hxC := (HBC.out.block R hlV).trans HX'.out
                 have hlC : R < wC.heap.size := (Array.getElem?_eq_some_iff.1 hxC).1
                 clear hl1 hbC q0 q1
                 have q0 := cell_of_row wC R 0 _ _ _ hxC
                 have q1 := cell_of_row wC R 1 _ _ _ hxC
                 clear hxC)
              | (go_at_call 15; (refine (HL2.out _ (HP'.out.below HBC.out) (HK'.out.below HBC.out)).mono ?_); rintro e wD ⟨⟨t2, k2, rfl, hl2⟩, hbD⟩
                 have HS2 := Lib.hid hl2
                 have HBD := Lib.hid (HBC.out.trans (hbD.mono HBC.out.size))
                 clear hl2 hbD q0 q1))
            have hE : ((bf.size : Int) + (n : Int)) = ((bf.data.toList.length + n : Nat) : Int) := by rw [lb_len]; omega
            have hS2 := HS2.out
            rw [app_list, hE] at hS2
            obtain ⟨e1, e2⟩ := ls_shift HNo.out HS1.out hS2
            have ht1 : k1 = true → t1 ≤ 24 := fun hk => by
              rcases HS1.out with ⟨_, _, n', _, h5, _⟩ | ⟨h5, _⟩
              · have := h5.1; rw [HLen.out] at this; omega
              · rw [hk] at h5; cases h5
            subst e1
            rw [lb_len] at e2
            clear hE hS2
            cases k1 with
            | true =>
              obtain rfl := e2 rfl
              have ht := ht1 rfl
              have htI : (t1 : Int) ≤ 24 := by omega
              have hT : (((t1 + bf.size : Nat) : Int) == (t1 : Int) + (bf.size : Int)) = true := by simp
              clear e2 ht1 ht
              go_wp2_with (first
                | (go_at_call 9; (with_reducible refine (HAw.out _ (HK'.out.below HBD.out)).mono ?_); rintro e w9 ⟨rfl, hb9⟩; have HB9 := Lib.hid (HBD.out.trans (hb9.mono HBD.out.size)); clear hb9))
              go_ret
              exact ⟨rfl, HB'.out.trans (HB9.out.mono HB'.out.size)⟩
            | false =>
              clear e2 ht1
              go_wp2_with (first
                | (go_at_call 9; (with_reducible refine (HAw.out _ (HK'.out.below HBD.out)).mono ?_); rintro e w9 ⟨rfl, hb9⟩; have HB9 := Lib.hid (HBD.out.trans (hb9.mono HBD.out.size)); clear hb9))
              go_ret
              exact ⟨rfl, HB'.out.trans (HB9.out.mono HB'.out.size)⟩
      · have i1 : ¬ ((i : Int) ≤ (mf : Int)) := by omega
        go_wp2_with fail
        clear q0 q1 p0 p1
        go_loopw [14] (fun x wr => ∃ j : Nat, j ≤ L.length ∧ x = .int .i64 j ∧ Hid ((∀ k, k < j → opAt L k 4 = false) ∧ Below wA.heap.size wA wr)) (fun x _ => L.length - (intOf x).toNat)
        case atStart => exact ⟨0, Nat.zero_le _, rfl, Lib.hid ⟨fun k h => by omega, Below.refl _ _⟩⟩
        case round =>
          obtain ⟨j, hj, rfl, HJ⟩ := hrel
          rename World => wB
          have HBB : Hid (Below V.heap.size V wB) := Lib.hid (HBA.out.trans (HJ.out.2.mono HBA.out.size))
          have hx := (HBB.out.block R hlV).trans HX'.out
          have q0 := cell_of_row wB R 0 _ _ _ hx
          have q1 := cell_of_row wB R 1 _ _ _ hx
          have hlR : R < wB.heap.size := (Array.getElem?_eq_some_iff.1 hx).1
          clear hx
          by_cases hjn : j < L.length
          · have j1 : (j : Int) < (L.length : Int) := by omega
            have j0 : (0 : Int) ≤ (j : Int) := by omega
            obtain ⟨pb, pi, rfl, hpl, hrow⟩ := rows_after HP'.out (by omega)
            obtain ⟨x, hx⟩ : ∃ x, x = L[j] := ⟨_, rfl⟩
            have l0 : wB.cell? ⟨pb, pi + j * 7, none⟩ = some (.int .i64 x.op) := by rw [hx]; exact hrow j hjn wB HBB.out 0 _ rfl (by decide)
            have hpb : pb < wB.heap.size := Nat.lt_of_lt_of_le hpl HBB.out.size
            have HOp : Hid (opAt L j 4 = decide (x.op = 4)) := Lib.hid (by unfold opAt; rw [List.getElem?_eq_getElem hjn, ← hx])
            clear hrow hx
            by_cases h4 : x.op = 4
            · have g4 : (x.op == (4 : Int)) = true := by simp [h4]
              go_wp2_with (first
                | (go_at_call 9; (with_reducible refine (HAw.out _ (HK'.out.below HBB.out)).mono ?_); rintro e w9 ⟨rfl, hb9⟩; have HB9 := Lib.hid (HBB.out.trans (hb9.mono HBB.out.size)); clear hb9))
              go_ret
              exact ⟨rfl, HB'.out.trans (HB9.out.mono HB'.out.size)⟩
            · have g4 : (x.op == (4 : Int)) = false := by simp [h4]
              have HO : Hid (opAt L j 4 = false) := Lib.hid (by rw [HOp.out]; simp [h4])
              go_wp2_with fail
              go_roundw
              case rel =>
                refine ⟨j + 1, by omega, by go_num, Lib.hid ⟨fun k hk => ?_, HJ.out.2⟩⟩
                by_cases e : k = j
                · subst e; exact HO.out
                · exact HJ.out.1 k (by omega)
              case measure => simp [intOf]; omega
          · obtain rfl : j = L.length := by omega
            have HNo : Hid (∀ k, opAt L k 4 = false) := Lib.hid (fun k => by
              by_cases hk : k < L.length
              · exact HJ.out.1 k hk
              · unfold opAt; rw [List.getElem?_eq_none (by omega)])
            clear hjn
            go_upto_region 18 with (first
              | (go_at_call 15; (with_reducible refine (HL1.out _ (HP'.out.below HBB.out) (HK'.out.below HBB.out)).mono ?_); rintro e wC ⟨⟨t1, k1, rfl, hl1⟩, hbC⟩
                 have HS1 := Lib.hid hl1
                 have HBC := Lib.hid (HBB.out.trans (hbC.mono HBB.out.size))
                 have hxC := (HBC.out.block R hlV).trans HX'.out
                 have hlC : R < wC.heap.size := (Array.getElem?_eq_some_iff.1 hxC).1
                 clear hl1 hbC q0 q1
                 have q0 := cell_of_row wC R 0 _ _ _ hxC
                 have q1 := cell_of_row wC R 1 _ _ _ hxC
                 clear hxC)
              | (go_at_call 15; (refine (HL2.out _ (HP'.out.below HBC.out) (HK'.out.below HBC.out)).mono ?_); rintro e wD ⟨⟨t2, k2, rfl, hl2⟩, hbD⟩
                 have HS2 := Lib.hid hl2
                 have HBD := Lib.hid (HBC.out.trans (hbD.mono HBC.out.size))
                 clear hl2 hbD q0 q1))
            have hE : ((bf.size : Int) + (n : Int)) = ((bf.data.toList.length + n : Nat) : Int) := by rw [lb_len]; omega
            have hS2 := HS2.out
            rw [app_list, hE] at hS2
            obtain ⟨e1, e2⟩ := ls_shift HNo.out HS1.out hS2
            have ht1 : k1 = true → t1 ≤ 24 := fun hk => by
              rcases HS1.out with ⟨_, _, n', _, h5, _⟩ | ⟨h5, _⟩
              · have := h5.1; rw [HLen.out] at this; omega
              · rw [hk] at h5; cases h5
            subst e1
            rw [lb_len] at e2
            clear hE hS2
            cases k1 with
            | true =>
              obtain rfl := e2 rfl
              have ht := ht1 rfl
              have htI : (t1 : Int) ≤ 24 := by omega
              have hT : (((t1 + bf.size : Nat) : Int) == (t1 : Int) + (bf.size : Int)) = true := by simp
              clear e2 ht1 ht
              go_wp2_with (first
                | (go_at_call 9; (with_reducible refine (HAw.out _ (HK'.out.below HBD.out)).mono ?_); rintro e w9 ⟨rfl, hb9⟩; have HB9 := Lib.hid (HBD.out.trans (hb9.mono HBD.out.size)); clear hb9))
              go_ret
              exact ⟨rfl, HB'.out.trans (HB9.out.mono HB'.out.size)⟩
            | false =>
              clear e2 ht1
              go_wp2_with (first
                | (go_at_call 9; (with_reducible refine (HAw.out _ (HK'.out.below HBD.out)).mono ?_); rintro e w9 ⟨rfl, hb9⟩; have HB9 := Lib.hid (HBD.out.trans (hb9.mono HBD.out.size)); clear hb9))
              go_ret
              exact ⟨rfl, HB'.out.trans (HB9.out.mono HB'.out.size)⟩
end Go.Proofs.YtfgcnknmiclfnaaDoor
set_option linter.unusedVariables false
set_option maxRecDepth 100000
namespace Go.Proofs.YtfgcnknmiclfnaaDoor
open Go.ChangeShapes Go.WideShapes Go.ChangeAt Go.RowKit
section
variable {H : Type} {enc : TypeId × Value → H} {W : World} {base : Nat} {sp : Nat → Bool} {hd : Bool}
theorem cells_pint : Tryd.prog.cellsOf 3 = 1 := by kernel_rfl
theorem cells_pstr : Tryd.prog.cellsOf 9 = 1 := by kernel_rfl
theorem cells_part : Tryd.prog.cellsOf 33 = 3 := by kernel_rfl
theorem fields_part : ∃ f0 f1 f2 : Field, Tryd.prog.underlying 33 = some (.struct #[f0, f1, f2]) ∧ (f0.type = 9 ∧ f0.offset = 0) ∧ (f1.type = 3 ∧ f1.offset = 1) ∧ f2.type = 3 ∧ f2.offset = 2 := ⟨_, _, _, Tryd.underlying33, ⟨rfl, rfl⟩, ⟨rfl, rfl⟩, rfl, rfl⟩
theorem list3p {α : Type} (l : List α) (h : l.length = 3) : ∃ a b c, l = [a, b, c] := by
  match l, h with
  | [a, b, c], _ => exact ⟨a, b, c, rfl⟩
theorem open_part {v : Value} {b0 : Nat} {d : DataW H} {p : List MemPlace} (hv : Value.okWide Tryd.prog W .any b0 33 v)
    (h : DataW.Trod enc Tryd.prog W base sp hd 33 v d p) : ∃ (N : ByteArray) (x y : Int), v = .agg #[.string N, .int .i64 x, .int .i64 y] := by
  obtain ⟨f0, f1, f2, hu, ⟨a0, o0⟩, ⟨a1, o1⟩, a2, o2⟩ := fields_part
  obtain ⟨cells, rfl, hsz⟩ := okWide_struct hu hv
  rw [cells_part] at hsz
  obtain ⟨l⟩ := cells
  obtain ⟨c0, c1, c2, rfl⟩ := list3p l (by simpa using hsz)
  obtain ⟨fuel, hf⟩ := h
  have hf' : DataW.trod enc Tryd.prog W base sp hd fuel 33 [c0, c1, c2] = some (d, p) := hf
  obtain ⟨xs, n, _, -, hl, hlen, hel⟩ := DataW.trod_struct hu hf'
  obtain ⟨y0, y1, y2, rfl⟩ := list3p xs hlen
  have t0 := hel 0 f0 rfl
  have t1 := hel 1 f1 rfl
  have t2 := hel 2 f2 rfl
  rw [a0, o0, cells_pstr] at t0
  rw [a1, o1, cells_pint] at t1
  rw [a2, o2, cells_pint] at t2
  simp at t0 t1 t2
  obtain ⟨s0, e0, _, _⟩ := DataW.trod_string Tryd.underlying9 t0
  obtain ⟨x1, e1, _, w1⟩ := DataW.trod_int Tryd.underlying3 t1
  obtain ⟨x2, e2, _, w2⟩ := DataW.trod_int Tryd.underlying3 t2
  simp at e0 e1 e2
  subst e0 e1 e2
  exact ⟨s0, x1, x2, rfl⟩
end
end Go.Proofs.YtfgcnknmiclfnaaDoor
