/- RpTxR. -/
import Derived.Test.YtfgcnknmiclfnaaDoorPb17
import Derived.Test.YtfgcnknmiclfnaaDoorRows
import Derived.Test.YtfgcnknmiclfnaaDoorPb28
import Derived.WalkKit
import Derived.WalkSpells
import Derived.WalkLawsBesides
import Derived.BigGuardPart
import Derived.Lib.Hide
import Derived.Lib.Strings
import Derived.Laws.IdiomStrings
import Derived.OwnWalk
import Derived.Below
import Derived.Laws.OwnMore
import Derived.Laws.AppendOwnNone
import Derived.Lib.AppendStr
import Derived.Lib.SmallJoins
import Derived.Deep.RegionLaw
import Derived.Deep.RegionHeld3
import Derived.Deep.QuietTactic
import Derived.BigQuiet
set_option linter.unusedVariables false
set_option linter.unusedSimpArgs false
set_option maxRecDepth 100000
set_option maxHeartbeats 8000000
namespace Go.Proofs.YtfgcnknmiclfnaaDoor
open Go.RowKit
theorem right_any (o : Int) (st : Nat → Bool) (x y : Int) (k n : Nat) (hk : k < n) (hn : n ≤ 9223372036854775807) (w : World) : Calls Tryd.prog 28 #[.agg #[.int .i64 o, .int .u64 (wd st 0 64 : Nat), .int .u64 (wd st 64 64 : Nat), .int .u64 (wd st 128 64 : Nat), .int .u64 (wd st 192 64 : Nat), .int .i64 x, .int .i64 y], .int .i64 k, .int .i64 n] w fun e w' => e = .returned (.bool (vOk n (decide (k + 1 = n)) ⟨o, st, x, y⟩)) ∧ Below w.heap.size w w' := by
  have hb := (Below.refl w.heap.size w).alloc (Nat.le_refl _) (.cells #[.int .i64 o, .int .u64 (wd st 0 64 : Nat), .int .u64 (wd st 64 64 : Nat), .int .u64 (wd st 128 64 : Nat), .int .u64 (wd st 192 64 : Nat), .int .i64 x, .int .i64 y] 43)
  have HB := Lib.hid hb
  have kI : (k : Int) < n := by omega
  have nI : (n : Int) ≤ 9223372036854775807 := by omega
  by_cases h1 : o = 1 ∨ o = 4 ∨ o = 5
  · have hv : Hid (vOk n (decide (k + 1 = n)) ⟨o, st, x, y⟩ = decide ((k : Int) + 1 < n)) := Lib.hid (by
      by_cases hl : k + 1 = n
      · have : ¬ ((k : Int) + 1 < n) := by omega
        rcases h1 with rfl | rfl | rfl <;> simp [vOk, kok, kgo, tgs, ktg, hl, this] <;> omega
      · have : ((k : Int) + 1 < n) := by omega
        rcases h1 with rfl | rfl | rfl <;> simp [vOk, kok, kgo, tgs, ktg, hl, this])
    rw [hv.out]
    clear hb
    rcases h1 with rfl | rfl | rfl
    all_goals go_enter Tryd.func28, Tryd.ntmps28
    all_goals go_wp2_with fail
    all_goals go_ret
    all_goals exact ⟨rfl, HB.out⟩
  by_cases h2 : o = 2
  · subst h2
    have hv : Hid (vOk n (decide (k + 1 = n)) ⟨2, st, x, y⟩ = (inR n x && inR n y)) := Lib.hid (by simp [vOk, kok, kgo, tgs, ktg])
    rw [hv.out]
    clear hb h1
    go_enter Tryd.func28, Tryd.ntmps28
    go_wp2_with fail
    all_goals go_ret
    all_goals exact ⟨by unfold inR; simp_all <;> (intros; omega), HB.out⟩
  by_cases h3 : o = 3
  · subst h3
    have hv : Hid (vOk n (decide (k + 1 = n)) ⟨3, st, x, y⟩ = inR n x) := Lib.hid (by simp [vOk, kok, kgo, tgs, ktg])
    rw [hv.out]
    clear hb h1 h2
    go_enter Tryd.func28, Tryd.ntmps28
    go_wp2_with fail
    all_goals go_ret
    all_goals exact ⟨by unfold inR; simp_all <;> (intros; omega), HB.out⟩
  have hv : Hid (vOk n (decide (k + 1 = n)) ⟨o, st, x, y⟩ = decide (o = 6)) := Lib.hid (by
    by_cases h6 : o = 6
    · subst h6; simp [vOk, kok, kgo, tgs, ktg]
    · have : kok o = false := by unfold kok; simp; omega
      simp [vOk, this, h6])
  rw [hv.out]
  have o1 : (o == 1) = false := by simp; omega
  have o2 : (o == 2) = false := by simp; omega
  have o3 : (o == 3) = false := by simp; omega
  have o4 : (o == 4) = false := by simp; omega
  have o5 : (o == 5) = false := by simp; omega
  have o6 : Hid ((o == 6) = decide (o = 6)) := Lib.hid rfl
  clear hb h1 h2 h3 hv
  go_enter Tryd.func28, Tryd.ntmps28
  go_wp2_with fail
  all_goals go_ret
  all_goals exact ⟨by first | rfl | (rw [o6.out]) | simp_all, HB.out⟩
theorem rvalid_any (L : List IN) (v : Value) (n0 : Nat) (ln : Bool) (w : World) (h : PI w n0 L v) (hL : L.length ≤ 9223372036854775807) : Calls Tryd.prog 16 #[.agg #[v, .bool ln]] w fun e w' => e = .returned (.bool (valL L)) ∧ Below w.heap.size w w' := by
  obtain ⟨ad, cap, rfl, hcap, hcells⟩ := h
  have hb : Below w.heap.size w (w.alloc (.cells #[.slice ad L.length cap, .bool ln] 24)) := (Below.refl _ _).alloc (Nat.le_refl _) _
  have hbx := heap_alloc_new w (.cells #[.slice ad L.length cap, .bool ln] 24)
  obtain ⟨W, hW⟩ : ∃ W, W = w.alloc (.cells #[.slice ad L.length cap, .bool ln] 24) := ⟨_, rfl⟩
  rw [← hW] at hb hbx
  have HW := Lib.hid hW
  have HB := Lib.hid hb
  have HBx := Lib.hid hbx
  have hlw : w.heap.size < W.heap.size := (Array.getElem?_eq_some_iff.1 hbx).1
  have HC := Lib.hid hcells
  have hLI : (L.length : Int) ≤ 9223372036854775807 := by omega
  have HRi := Lib.hid (fun (o : Int) (st : Nat → Bool) (x y : Int) (k : Nat) (hk : k < L.length) (W : World) => right_any o st x y k L.length hk hL W)
  have HV0 : Hid (vR L.length L = false → valL L = false) := Lib.hid (fun e => by unfold valL; rw [e]; simp)
  have HV1 : Hid (vR L.length L = true → valL L = (decide (1 ≤ L.length) && decide (L.length ≤ 4096))) := Lib.hid (fun e => by unfold valL; rw [e]; simp)
  clear hcells hb hbx hcap hW
  go_enter Tryd.func16, Tryd.ntmps16
  go_upto_region 1 with fail
  rw [← HW.out]
  go_wp2_with fail
  go_loopw [3] (fun i wr => ∃ (k : Nat), k ≤ L.length ∧ i = .int .i64 k ∧ Hid (Below W.heap.size W wr ∧ vR L.length L = vR L.length (L.drop k))) (fun i _ => L.length - (intOf i).toNat)
  case atStart => exact ⟨0, Nat.zero_le _, rfl, Lib.hid ⟨Below.refl _ _, by rw [List.drop_zero]⟩⟩
  case round =>
    obtain ⟨k, hk, rfl, HR⟩ := hrel
    have hbw := (HR.out.1.block w.heap.size hlw).trans HBx.out
    have b0 := cell_of_row wr w.heap.size 0 _ _ _ hbw
    have hlr : w.heap.size < wr.heap.size := (Array.getElem?_eq_some_iff.1 hbw).1
    by_cases hkn : k < L.length
    · have ki : (k : Int) < L.length := by omega
      have ki0 : (0 : Int) ≤ k := by omega
      obtain ⟨b, i0, rfl, hbl, hce⟩ : ∃ b i, ad = some ⟨b, i, none⟩ ∧ b < w.heap.size ∧ ∀ (k : Nat) (hk : k < L.length) (j : Nat), j < 7 → w.cell? ⟨b, i + k * 7 + j, none⟩ = (rowI (L[k]'hk))[j]? := by
        rcases HC.out with h1 | ⟨b, i, e1, _, e2, e3⟩
        · omega
        · exact ⟨b, i, e1, e2, e3⟩
      have hstep := HR.out.2
      rw [vR_drop _ L k hkn] at hstep
      have hc : ∀ j u, (rowI L[k])[j]? = some u → j < 7 → wr.cell? ⟨b, i0 + k * 7 + j, none⟩ = some u := fun j u hu hj => by
        rw [HR.out.1.cell (p := ⟨b, i0 + k * 7 + j, none⟩) (by have := HB.out.size; show b < W.heap.size; omega), HB.out.cell (p := ⟨b, i0 + k * 7 + j, none⟩) hbl, hce k hkn j hj, hu]
      obtain ⟨i, hi⟩ : ∃ i, i = L[k] := ⟨_, rfl⟩
      rw [← hi] at hstep hc
      have c0 := hc 0 _ rfl (by decide)
      have c1 := hc 1 _ rfl (by decide)
      have c2 := hc 2 _ rfl (by decide)
      have c3 := hc 3 _ rfl (by decide)
      have c4 := hc 4 _ rfl (by decide)
      have c5 := hc 5 _ rfl (by decide)
      have c6 := hc 6 _ rfl (by decide)
      rw [Nat.add_zero] at c0
      have HSt := Lib.hid hstep
      have HCl := Lib.hid (HRi.out i.op i.st i.x i.y k hkn)
      have eI : (⟨i.op, i.st, i.x, i.y⟩ : IN) = i := rfl
      rw [eI] at HCl
      have hlb : b < wr.heap.size := by have := HB.out.size; have := HR.out.1.size; omega
      obtain ⟨vb, hvb⟩ : ∃ vb, vb = vOk L.length (decide (k + 1 = L.length)) i := ⟨_, rfl⟩
      rw [← hvb] at HSt HCl
      clear hc hstep hbl hce hi hvb eI hbw
      go_upto_region 4 with fail
      go_region_law
        (first
          | (go_simp; go_at_call 28; (with_reducible refine (HCl.out _).mono ?_); rintro e w1 ⟨rfl, hb1⟩; have HB1 : Hid (Below W.heap.size W w1) := Lib.hid (HR.out.1.trans (((Below.refl _ _).drew.trans hb1).mono HR.out.1.size)); clear hb1))
      all_goals clear c0 c1 c2 c3 c4 c5 c6 b0
      all_goals cases vb
      all_goals first
        | (go_wp2_with fail
           go_ret
           exact ⟨by rw [HV0.out (by rw [HSt.out]; rfl)]; rfl, HB.out.trans (HB1.out.mono HB.out.size)⟩)
        | (go_wp2_with fail
           go_roundw
           case rel => exact ⟨k + 1, by omega, by go_num, Lib.hid ⟨HB1.out, by rw [HSt.out]; rfl⟩⟩
           case measure => simp [intOf]; omega)
    · obtain rfl : k = L.length := by omega
      have hend := HR.out.2
      rw [List.drop_length] at hend
      have HEnd := Lib.hid (HV1.out hend)
      clear hend
      have HLe : Hid ((decide ((L.length : Int) ≤ 4096)) = decide (L.length ≤ 4096)) := Lib.hid (by by_cases h : L.length ≤ 4096 <;> simp [h] <;> omega)
      by_cases h1 : (1 : Int) ≤ (L.length : Int)
      · have HE2 : Hid (valL L = decide ((L.length : Int) ≤ 4096)) := Lib.hid (by rw [HEnd.out, HLe.out, decide_eq_true (show 1 ≤ L.length by omega)]; rfl)
        go_wp2_with fail
        all_goals go_ret
        all_goals exact ⟨by rw [HE2.out]; first | rfl | simp_all, HB.out.trans (HR.out.1.mono HB.out.size)⟩
      · have HE2 : Hid (valL L = false) := Lib.hid (by rw [HEnd.out, decide_eq_false (show ¬ 1 ≤ L.length by omega)]; rfl)
        have hd : decide ((1 : Int) ≤ (L.length : Int)) = false := decide_eq_false h1
        go_wp2_with fail
        all_goals go_ret
        all_goals exact ⟨by rw [HE2.out]; first | rfl | simp_all, HB.out.trans (HR.out.1.mono HB.out.size)⟩
end Go.Proofs.YtfgcnknmiclfnaaDoor
