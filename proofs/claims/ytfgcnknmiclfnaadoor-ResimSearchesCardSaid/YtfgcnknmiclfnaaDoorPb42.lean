/- RsSea. -/
import Derived.Test.YtfgcnknmiclfnaaDoorPb41
set_option linter.unusedVariables false
set_option linter.unusedSimpArgs false
set_option maxRecDepth 100000
set_option maxHeartbeats 8000000
namespace Go.Proofs.YtfgcnknmiclfnaaDoor
open Go.RowKit
theorem eql_self (o x : Int) (w : World) : (binOp .eql 28 (.agg #[.int .i64 o, .int .i64 x]) (.agg #[.int .i64 o, .int .i64 x])).run Tryd.prog w = .ok (.bool true) w := by
  rw [eql_sp]
  simp
theorem searches_law (L : List IN) (pv : Value) (ln : Bool) (sv : ByteArray) (a : Int) (w : World) (hp : PI w 0 L pv) (hK : KT w) : Calls Tryd.prog 3 #[.agg #[pv, .bool ln], .string sv, .int .i64 a] w fun e w' => e = .returned (.bool true) ∧ Below w.heap.size w w' := by
  obtain ⟨ad, cap, rfl⟩ := hp.form
  obtain ⟨R, hR⟩ : ∃ R, w.heap.size = R := ⟨_, rfl⟩
  have hb := (Below.refl w.heap.size w).alloc (Nat.le_refl _) (.cells #[.slice ad L.length cap, .bool ln] 24)
  have hbx := heap_alloc_new w (.cells #[.slice ad L.length cap, .bool ln] 24)
  obtain ⟨W, hW⟩ : ∃ W, W = w.alloc (.cells #[.slice ad L.length cap, .bool ln] 24) := ⟨_, rfl⟩
  rw [← hW] at hb hbx
  rw [hR] at hbx
  have q0 := cell_of_row W R 0 _ _ _ hbx
  have q1 := cell_of_row W R 1 _ _ _ hbx
  have hlW : R < W.heap.size := (Array.getElem?_eq_some_iff.1 hbx).1
  have HX := Lib.hid hbx
  have HB := Lib.hid hb
  have HW := Lib.hid hW
  have HP := Lib.hid (hp.below hb)
  have HK := Lib.hid (hK.below hb)
  have HAw := Lib.hid (fun W h => awake11 W h)
  have HF := Lib.hid (few_any L (.slice ad L.length cap) 0 ln sv W (hp.below hb))
  obtain ⟨f, hf⟩ : ∃ f, (decide (L.length ≤ 60) && decide (sv.size ≤ 24)) = f := ⟨_, rfl⟩
  rw [hf] at HF
  cases f with
  | false =>
    clear hb hbx hW hp hK hf
    go_enter Tryd.func3, Tryd.ntmps3
    go_upto_region 1 with fail
    rw [← HW.out]
    go_wp2_with (first
      | (go_at_call 8; (with_reducible refine HF.out.mono ?_); rintro e w4 ⟨rfl, hb4⟩
         have HB4 := Lib.hid hb4
         clear hb4 q0 q1)
      | (go_at_call 9; (with_reducible refine (HAw.out _ (HK.out.below HB4.out)).mono ?_); rintro e w9 ⟨rfl, hb9⟩; have HB9 := Lib.hid hb9; clear hb9))
    go_ret
    exact ⟨rfl, HB.out.trans ((HB4.out.trans (HB9.out.mono HB4.out.size)).mono HB.out.size)⟩
  | true =>
  rw [Bool.and_eq_true] at hf
  have h60 : L.length ≤ 60 := of_decide_eq_true hf.1
  have h24 : sv.size ≤ 24 := of_decide_eq_true hf.2
  have HS1 := Lib.hid (fun (W : World) hp hk => search_any L (.slice ad L.length cap) 0 ln sv a W hp hk (by omega))
  have HS2 := Lib.hid (fun (W : World) hp => rsearch_any L (.slice ad L.length cap) 0 ln sv a W hp (by omega) (by omega))
  clear hb hbx hW hp hK hf h60 h24
  go_enter Tryd.func3, Tryd.ntmps3
  go_upto_region 1 with fail
  rw [← HW.out]
  go_upto_region 4 with (first
    | (go_at_call 8; (with_reducible refine HF.out.mono ?_); rintro e w4 ⟨rfl, hb4⟩
       have HB4 := Lib.hid hb4
       have hx4 := (hb4.block R hlW).trans HX.out
       have hl4 : R < w4.heap.size := (Array.getElem?_eq_some_iff.1 hx4).1
       clear hb4 q0 q1
       have q0 := cell_of_row w4 R 0 _ _ _ hx4
       have q1 := cell_of_row w4 R 1 _ _ _ hx4
       clear hx4)
    | (go_at_call 10; (with_reducible refine (HS1.out _ (HP.out.below HB4.out) (HK.out.below HB4.out)).mono ?_); rintro e w6 ⟨⟨mf, mt, ok, rfl, hss⟩, hb6⟩
       have HQ1 := Lib.hid hss
       have HB6 := Lib.hid (HB4.out.trans (hb6.mono HB4.out.size))
       clear hss hb6 q0 q1))
  have hx7 := heap_alloc_new w6 (.cells #[.int .i64 (mf : Int), .int .i64 (mt : Int)] 28)
  have hb7 : Below w6.heap.size w6 (w6.alloc (.cells #[.int .i64 (mf : Int), .int .i64 (mt : Int)] 28)) := (Below.refl _ _).alloc (Nat.le_refl _) _
  generalize hW7 : w6.alloc (.cells #[.int .i64 (mf : Int), .int .i64 (mt : Int)] 28) = w7 at *
  obtain ⟨M, hM⟩ : ∃ M, w6.heap.size = M := ⟨_, rfl⟩
  rw [hM] at hx7
  rw [hM]
  have hlM : M < w7.heap.size := (Array.getElem?_eq_some_iff.1 hx7).1
  have HX7 := Lib.hid hx7
  have HB7 : Hid (Below W.heap.size W w7) := Lib.hid (HB6.out.trans (hb7.mono HB6.out.size))
  have hx := (HB7.out.block R hlW).trans HX.out
  have q0 := cell_of_row w7 R 0 _ _ _ hx
  have q1 := cell_of_row w7 R 1 _ _ _ hx
  have hl7 : R < w7.heap.size := (Array.getElem?_eq_some_iff.1 hx).1
  clear hx7 hb7 hW7 hM hx
  go_upto_region 5 with (first
    | (go_at_call 11; (with_reducible refine (HS2.out _ (HP.out.below HB7.out)).mono ?_); rintro e w8 ⟨⟨mf', mt', ok', rfl, hss⟩, hb8⟩
       obtain ⟨e1, e2, e3⟩ := ss_unique HQ1.out hss
       have e1' := e1.symm
       have e2' := e2.symm
       have e3' := e3.symm
       clear e1 e2 e3
       subst e1' e2' e3'
       have HB8 := Lib.hid hb8
       clear hss hb8 q0 q1))
  have hx9 := heap_alloc_new w8 (.cells #[.int .i64 (mf : Int), .int .i64 (mt : Int)] 28)
  have hb9 : Below w8.heap.size w8 (w8.alloc (.cells #[.int .i64 (mf : Int), .int .i64 (mt : Int)] 28)) := (Below.refl _ _).alloc (Nat.le_refl _) _
  generalize hW9 : w8.alloc (.cells #[.int .i64 (mf : Int), .int .i64 (mt : Int)] 28) = w9 at *
  obtain ⟨Z, hZ⟩ : ∃ Z, w8.heap.size = Z := ⟨_, rfl⟩
  rw [hZ] at hx9
  rw [hZ]
  have hb89 := HB8.out.trans (hb9.mono HB8.out.size)
  have hx10 := (hb89.block M hlM).trans HX7.out
  have p0 := cell_of_row w9 M 0 _ _ _ hx10
  have p1 := cell_of_row w9 M 1 _ _ _ hx10
  have z0 := cell_of_row w9 Z 0 _ _ _ hx9
  have z1 := cell_of_row w9 Z 1 _ _ _ hx9
  have hlM9 : M < w9.heap.size := (Array.getElem?_eq_some_iff.1 hx10).1
  have hlZ9 : Z < w9.heap.size := (Array.getElem?_eq_some_iff.1 hx9).1
  have HBW : Hid (Below W.heap.size W w9) := Lib.hid (HB7.out.trans (hb89.mono HB7.out.size))
  have Eq0 := fun w => eql_self (mf : Int) (mt : Int) w
  clear hx9 hb9 hW9 hZ hb89 hx10
  cases ok with
  | true =>
    go_wp2_with (first
      | (go_at_call 9; (with_reducible refine (HAw.out _ (HK.out.below HBW.out)).mono ?_); rintro e wE ⟨rfl, hbE⟩; have HBE := Lib.hid (HBW.out.trans (hbE.mono HBW.out.size)); clear hbE))
    go_ret
    exact ⟨rfl, HB.out.trans (HBE.out.mono HB.out.size)⟩
  | false =>
    go_wp2_with (first
      | (go_at_call 9; (with_reducible refine (HAw.out _ (HK.out.below HBW.out)).mono ?_); rintro e wE ⟨rfl, hbE⟩; have HBE := Lib.hid (HBW.out.trans (hbE.mono HBW.out.size)); clear hbE))
    go_ret
    exact ⟨rfl, HB.out.trans (HBE.out.mono HB.out.size)⟩
end Go.Proofs.YtfgcnknmiclfnaaDoor
