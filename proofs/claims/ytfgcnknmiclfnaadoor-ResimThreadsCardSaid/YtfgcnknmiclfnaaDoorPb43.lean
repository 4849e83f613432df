/- RsRfh, RsThL. -/
import Derived.Test.YtfgcnknmiclfnaaDoorPb39
import Derived.BigQuiet
import Derived.Deep.RegionHeld3
set_option linter.unusedVariables false
set_option linter.unusedSimpArgs false
set_option maxRecDepth 100000
set_option maxHeartbeats 8000000
namespace Go.Proofs.YtfgcnknmiclfnaaDoor
open Go.RowKit
theorem rsame_any (zs : List Nat) (v v' : Value) (n n' : Nat) (w : World) (h : IL w n zs v) (h' : IL w n' zs v') (hl : zs.length ≤ 1000000) :
    Calls Tryd.prog 12 #[v, v'] w fun e w' => e = .returned (.bool true) ∧ Below w.heap.size w w' := by
  obtain ⟨ad, cap, rfl, hz⟩ := h
  obtain ⟨ad', cap', rfl, hz'⟩ := h'
  have HZ := Lib.hid hz
  have HZ' := Lib.hid hz'
  have hlI : (zs.length : Int) ≤ 1000000 := by omega
  have hne : ((zs.length : Int) != (zs.length : Int)) = false := by simp
  clear hz hz'
  go_enter Tryd.func12, Tryd.ntmps12
  go_wp2_with fail
  go_loopw [5] (fun x wr => ∃ k : Nat, k ≤ zs.length ∧ x = .int .i64 k ∧ Hid (Below w.heap.size w wr)) (fun x _ => zs.length - (intOf x).toNat)
  case atStart => exact ⟨0, Nat.zero_le _, rfl, Lib.hid (Below.refl _ _)⟩
  case round =>
    obtain ⟨k, hk, rfl, HB⟩ := hrel
    rename World => wA
    by_cases hkn : k < zs.length
    · have k1 : (k : Int) < (zs.length : Int) := by omega
      have k0 : (0 : Int) ≤ (k : Int) := by omega
      rcases HZ.out with h0 | ⟨b, off, rfl, _, hb, hc⟩
      · omega
      rcases HZ'.out with h0 | ⟨b', off', rfl, _, hb', hc'⟩
      · omega
      have z0 := (HB.out.cell (p := ⟨b, off + k, none⟩) hb).trans (hc k hkn)
      have z1 := (HB.out.cell (p := ⟨b', off' + k, none⟩) hb').trans (hc' k hkn)
      have hbA : b < wA.heap.size := Nat.lt_of_lt_of_le hb HB.out.size
      have hbA' : b' < wA.heap.size := Nat.lt_of_lt_of_le hb' HB.out.size
      obtain ⟨z, hz⟩ : ∃ z, z = zs[k] := ⟨_, rfl⟩
      rw [← hz] at z0 z1
      have hne2 : ((z : Int) != (z : Int)) = false := by simp
      clear hc hc' hz
      go_wp2_with fail
      go_quiet (fail)
      go_wp2_with fail
      go_roundw
      case rel => exact ⟨k + 1, by omega, by go_num, Lib.hid (below_drewN HB.out _)⟩
      case measure => simp [intOf]; omega
    · obtain rfl : k = zs.length := by omega
      go_wp2_with fail
      go_ret
      exact ⟨rfl, HB.out⟩
theorem ts_unique {L : List IN} {ln : Bool} {s : List UInt8} {a c : Int} {ys zs : List Nat} (h : TSpec L ln s a c ys) (h' : TSpec L ln s a c zs) : ys = zs :=
  sorted_ext h.1 h'.1 (fun b => (h.2 b).trans (h'.2 b).symm)
end Go.Proofs.YtfgcnknmiclfnaaDoor
set_option linter.unusedVariables false
set_option linter.unusedSimpArgs false
set_option maxRecDepth 100000
set_option maxHeartbeats 16000000
namespace Go.Proofs.YtfgcnknmiclfnaaDoor
open Go.RowKit
theorem threads_law (L : List IN) (pv : Value) (ln : Bool) (sv : ByteArray) (a c : Int) (w : World) (hp : PI w 0 L pv) (hK : KT w) : Calls Tryd.prog 4 #[.agg #[pv, .bool ln], .agg #[.string sv, .int .i64 a, .int .i64 c]] w fun e w' => e = .returned (.bool true) ∧ Below w.heap.size w w' := by
  obtain ⟨ad, cap, rfl⟩ := hp.form
  obtain ⟨R, hR⟩ : ∃ R, w.heap.size = R := ⟨_, rfl⟩
  have hb1 := (Below.refl w.heap.size w).alloc (Nat.le_refl _) (.cells #[.slice ad L.length cap, .bool ln] 24)
  have hx1 := heap_alloc_new w (.cells #[.slice ad L.length cap, .bool ln] 24)
  obtain ⟨W1, hW1⟩ : ∃ W1, W1 = w.alloc (.cells #[.slice ad L.length cap, .bool ln] 24) := ⟨_, rfl⟩
  have hz1 : W1.heap.size = R + 1 := by rw [hW1, ← hR]; simp
  rw [← hW1] at hb1 hx1
  have hb2 := (Below.refl W1.heap.size W1).alloc (Nat.le_refl _) (.cells #[.string sv, .int .i64 a, .int .i64 c] 33)
  have hy := heap_alloc_new W1 (.cells #[.string sv, .int .i64 a, .int .i64 c] 33)
  obtain ⟨W, hW⟩ : ∃ W, W = W1.alloc (.cells #[.string sv, .int .i64 a, .int .i64 c] 33) := ⟨_, rfl⟩
  rw [← hW] at hb2 hy
  have hb : Below w.heap.size w W := hb1.trans (hb2.mono hb1.size)
  have hx := (hb2.block w.heap.size (by rw [hz1]; omega)).trans hx1
  rw [hR] at hx
  rw [hz1] at hy
  rw [hW1] at hW
  have hlW : R < W.heap.size := (Array.getElem?_eq_some_iff.1 hx).1
  have hlY : R + 1 < W.heap.size := (Array.getElem?_eq_some_iff.1 hy).1
  have HBo : Hid (∀ W2, Below W.heap.size W W2 → (W2.cell? ⟨R, 0, none⟩ = some (.slice ad L.length cap) ∧ W2.cell? ⟨R, 1, none⟩ = some (.bool ln)) ∧ (W2.cell? ⟨R + 1, 0, none⟩ = some (.string sv) ∧ W2.cell? ⟨R + 1, 1, none⟩ = some (.int .i64 a) ∧ W2.cell? ⟨R + 1, 2, none⟩ = some (.int .i64 c)) ∧ R < W2.heap.size ∧ R + 1 < W2.heap.size) := Lib.hid (fun W2 hw => by
    have hx' := (hw.block R hlW).trans hx
    have hy' := (hw.block (R + 1) hlY).trans hy
    exact ⟨⟨cell_of_row W2 R 0 _ _ _ hx', cell_of_row W2 R 1 _ _ _ hx'⟩, ⟨cell_of_row W2 (R + 1) 0 _ _ _ hy', cell_of_row W2 (R + 1) 1 _ _ _ hy', cell_of_row W2 (R + 1) 2 _ _ _ hy'⟩, (Array.getElem?_eq_some_iff.1 hx').1, (Array.getElem?_eq_some_iff.1 hy').1⟩)
  have hPW := hp.below hb
  have hKW := hK.below hb
  have HB := Lib.hid hb
  have HW := Lib.hid hW
  have HAw := Lib.hid (fun W2 (h : Below W.heap.size W W2) => awake11 W2 (hKW.below h))
  have HF := Lib.hid (few_any L (.slice ad L.length cap) 0 ln sv W hPW)
  obtain ⟨f, hf⟩ : ∃ f, (decide (L.length ≤ 60) && decide (sv.size ≤ 24)) = f := ⟨_, rfl⟩
  rw [hf] at HF
  obtain ⟨⟨b0, b1⟩, ⟨c0, c1, c2⟩, bl, cl⟩ := HBo.out W (Below.refl _ _)
  cases f with
  | false =>
    clear hb1 hx1 hW1 hz1 hb2 hy hb hx hW hp hK hPW hKW hf hlW hlY
    go_enter Tryd.func4, Tryd.ntmps4
    go_upto_region 1 with fail
    rw [← HW.out]
    go_wp2_with (first
      | (go_at_call 8; (with_reducible refine HF.out.mono ?_); rintro e w4 ⟨rfl, hb4⟩
         have HB4 := Lib.hid hb4
         clear hb4 b0 b1 c0 c1 c2 bl cl)
      | (go_at_call 9; (with_reducible refine (HAw.out _ HB4.out).mono ?_); rintro e w9 ⟨rfl, hb9⟩; have HB9 := Lib.hid (HB4.out.trans (hb9.mono HB4.out.size)); clear hb9))
    go_ret
    exact ⟨rfl, HB.out.trans (HB9.out.mono HB.out.size)⟩
  | true =>
  rw [Bool.and_eq_true] at hf
  have h60 : L.length ≤ 60 := of_decide_eq_true hf.1
  have h24 : sv.size ≤ 24 := of_decide_eq_true hf.2
  have HT1 := Lib.hid (fun W2 (h : Below W.heap.size W W2) => threads_any L (.slice ad L.length cap) 0 ln sv a c W2 (hPW.below h) (hKW.below h) (by omega))
  have HT2 := Lib.hid (fun W2 (h : Below W.heap.size W W2) => rthreads_any L (.slice ad L.length cap) 0 ln sv a c W2 (hPW.below h) (by omega) (by omega))
  have HSm : Hid (∀ (zs : List Nat) (v v' : Value) (n n' : Nat) (w : World), IL w n zs v → IL w n' zs v' → TSpec L ln sv.data.toList a c zs → Calls Tryd.prog 12 #[v, v'] w fun e w' => e = .returned (.bool true) ∧ Below w.heap.size w w') :=
    Lib.hid (fun zs v v' n n' w h1 h2 h3 => rsame_any zs v v' n n' w h1 h2 (by have := ts_len h3; omega))
  clear hb1 hx1 hW1 hz1 hb2 hy hb hx hW hp hK hPW hKW hf hlW hlY h60 h24
  go_enter Tryd.func4, Tryd.ntmps4
  go_upto_region 1 with fail
  rw [← HW.out]
  go_upto_region 3 with (first
    | (go_at_call 8; (with_reducible refine HF.out.mono ?_); rintro e w4 ⟨rfl, hb4⟩
       have HB4 := Lib.hid hb4
       clear hb4 b0 b1 c0 c1 c2 bl cl
       obtain ⟨⟨b0, b1⟩, ⟨c0, c1, c2⟩, bl, cl⟩ := HBo.out w4 HB4.out))
  go_region_held3 (fun W2 => ((W2.cell? ⟨R, 0, none⟩ = some (.slice ad L.length cap) ∧ W2.cell? ⟨R, 1, none⟩ = some (.bool ln)) ∧ (W2.cell? ⟨R + 1, 0, none⟩ = some (.string sv) ∧ W2.cell? ⟨R + 1, 1, none⟩ = some (.int .i64 a) ∧ W2.cell? ⟨R + 1, 2, none⟩ = some (.int .i64 c)) ∧ R < W2.heap.size ∧ R + 1 < W2.heap.size))
    (first | exact HBo.out _ HB4.out | exact HBo.out _ HB4.out.drew | exact HBo.out _ HB8.out | exact HBo.out _ HB7.out | exact HBo.out _ HB6.out | exact HBo.out _ HB5.out)
    (first
      | (go_at_call 13; (refine (HT1.out _ HB4.out.drew).mono ?_); rintro e w5 ⟨⟨v1, zs, rfl, hil, hts⟩, hb⟩
         have HB5 : Hid (Below W.heap.size W w5) := Lib.hid (HB4.out.drew.trans (hb.mono HB4.out.drew.size))
         have HI1 := Lib.hid hil
         have HS1 := Lib.hid hts
         clear hil hts hb)
      | (go_at_call 14; (refine (HT2.out _ HB5.out).mono ?_); rintro e w6 ⟨⟨v2, zs2, rfl, hil, hts⟩, hb⟩
         have HB6 : Hid (Below W.heap.size W w6) := Lib.hid (HB5.out.trans (hb.mono HB5.out.size))
         have HI3 := Lib.hid (HI1.out.below hb)
         have hzz := ts_unique hts HS1.out
         subst hzz
         have HI2 := Lib.hid hil
         clear hil hts hb)
      | (go_at_call 12; (refine (HSm.out _ _ _ _ _ _ HI3.out HI2.out HS1.out).mono ?_); rintro e w7 ⟨rfl, hb⟩
         have HB7 : Hid (Below W.heap.size W w7) := Lib.hid (HB6.out.trans (hb.mono HB6.out.size))
         clear hb)
      | (go_at_call 9; (refine (HAw.out _ HB7.out).mono ?_); rintro e w8 ⟨rfl, hb⟩
         have HB8 : Hid (Below W.heap.size W w8) := Lib.hid (HB7.out.trans (hb.mono HB7.out.size))
         clear hb))
  all_goals
    go_wp2_with fail
    go_ret
    exact ⟨rfl, HB.out.trans (HB8.out.mono HB.out.size)⟩
end Go.Proofs.YtfgcnknmiclfnaaDoor
