/- LpClo. -/
import Derived.Test.YtphiaagppcbefaaGreatDoorRows
import Derived.Test.YtphiaagppcbefaaGreatDoorPs1
set_option linter.unusedVariables false
namespace Go.Proofs.YtphiaagppcbefaaGreatDoor
open Go.RowKit
theorem any_dup (c : Nat → ByteArray) (i : Nat) : ((List.range i).any fun k => eqS (c k) (c i)) = dup c i := rfl
theorem SL.upto {k n i : Nat} {f : Nat → Nat → Value} {w : World} {a : Option Addr} {cap : Nat} (h : SL k n f w (.slice a n cap)) (hi : i ≤ n) : SL k i f w (.slice a i cap) := by
  obtain ⟨a', cap', e, hc, h⟩ := h
  simp only [Value.slice.injEq] at e
  obtain ⟨rfl, -, rfl⟩ := e
  refine ⟨a, cap, rfl, by omega, ?_⟩
  rcases h with h | ⟨b, off, ha, hlt, h⟩
  · left; omega
  · exact .inr ⟨b, off, ha, hlt, fun j i hj hi => h j i (by omega) hi⟩
set_option maxHeartbeats 4000000 in
theorem cloCls_any (d c : ByteArray) (v1 v2 v3 v4 : Value) (B : Nat) (w : World) (hB : B < w.heap.size) (hc : w.cell? ⟨B, 0, none⟩ = some (.string c)) :
    Calls Tryz.prog 173 #[.agg #[.string d, v1, v2, v3, v4], .pointer (some ⟨B, 0, none⟩)] w fun e w' => e = .returned (.bool (eqS d c)) ∧ Below w.heap.size w w' := by
  have hb : Below w.heap.size w (w.alloc (.cells #[.string d, v1, v2, v3, v4] 109)) := (Below.refl _ _).alloc (Nat.le_refl _) _
  have hc2 : (w.alloc (.cells #[.string d, v1, v2, v3, v4] 109)).cell? ⟨B, 0, none⟩ = some (.string c) := (hb.cell (by exact hB)).trans hc
  have HB := Lib.hid hb
  clear hb hc
  go_enter Tryz.func173, Tryz.ntmps173
  go_wp2
  go_ret
  exact ⟨rfl, HB.out⟩
set_option maxRecDepth 100000 in
set_option maxHeartbeats 4000000 in
theorem ixCls_any (n : Nat) (f : Nat → Nat → Value) (c : Nat → ByteArray) (hf : ∀ j, f j 0 = .string (c j)) (sv : Value) (cc : ByteArray) (B : Nat) (w : World) (hS : SL 5 n f w sv) (hn : n ≤ 24) (hB : B < w.heap.size) (hcc : w.cell? ⟨B, 0, none⟩ = some (.string cc)) :
    Calls Tryz.prog 181 #[sv, .func (.func 173) #[] #[.pointer (some ⟨B, 0, none⟩)]] w fun e w' => e = .returned (.int .i64 (first (fun j => eqS (c j) cc) n)) ∧ Below w.heap.size w w' := by
  obtain ⟨R, hR⟩ : ∃ R, first (fun j => eqS (c j) cc) n = R := ⟨_, rfl⟩
  rw [hR]
  have HR := Lib.hid hR
  have HCc := Lib.hid hcc
  have HBs := Lib.hid hB
  clear hR hcc hB
  obtain ⟨a, cap, rfl, hcap, hcells⟩ := hS
  have i256 : (n : Int) ≤ 24 := by omega
  rcases hcells with h0 | ⟨b, off, rfl, hlt, hcells⟩
  · subst h0
    have HN : Hid (R = -1) := HR.out.symm.trans (first_none _ _ fun q hq => by omega)
    go_enter Tryz.func181, Tryz.ntmps181
    go_wp2
    go_loopw [8] (fun i wr => i = .int .i64 0 ∧ wr = w) (fun _ _ => 0)
    case atStart => exact ⟨rfl, rfl⟩
    case round =>
      obtain ⟨rfl, rfl⟩ := hrel
      go_wp2
      go_ret
      exact ⟨by rw [HN.out] <;> rfl, Below.refl _ _⟩
  · have HC := Lib.hid hcells
    have HLt := Lib.hid hlt
    clear hcells hlt
    go_enter Tryz.func181, Tryz.ntmps181
    go_wp2
    go_loopw [8] (fun i wr => ∃ k : Nat, k ≤ n ∧ i = .int .i64 k ∧ Hid (∀ q, q < k → eqS (c q) cc = false) ∧ Hid (Below w.heap.size w wr)) (fun i _ => n - (intOf i).toNat)
    case atStart => exact ⟨0, Nat.zero_le _, rfl, fun q hq => by omega, Below.refl _ _⟩
    case round =>
      obtain ⟨k, hk, rfl, HQ, HB⟩ := hrel
      by_cases hkn : k < n
      · have ki : (k : Int) < n := by omega
        have ki0 : (0 : Int) ≤ k := by omega
        have ck0 : wr.cell? ⟨b, off + k * 5, none⟩ = some (f k 0) := by
          rw [HB.out.cell (by exact HLt.out)]
          exact HC.out k 0 hkn (by decide)
        have ck1 : wr.cell? ⟨b, off + k * 5 + 1, none⟩ = some (f k 1) := by
          rw [HB.out.cell (by exact HLt.out)]
          exact HC.out k 1 hkn (by decide)
        have ck2 : wr.cell? ⟨b, off + k * 5 + 2, none⟩ = some (f k 2) := by
          rw [HB.out.cell (by exact HLt.out)]
          exact HC.out k 2 hkn (by decide)
        have ck3 : wr.cell? ⟨b, off + k * 5 + 3, none⟩ = some (f k 3) := by
          rw [HB.out.cell (by exact HLt.out)]
          exact HC.out k 3 hkn (by decide)
        have ck4 : wr.cell? ⟨b, off + k * 5 + 4, none⟩ = some (f k 4) := by
          rw [HB.out.cell (by exact HLt.out)]
          exact HC.out k 4 hkn (by decide)
        rw [hf k] at ck0
        generalize f k 1 = v1 at *
        generalize f k 2 = v2 at *
        generalize f k 3 = v3 at *
        generalize f k 4 = v4 at *
        have HP := Lib.hid (cloCls_any (c k) cc v1 v2 v3 v4 B wr (Nat.lt_of_lt_of_le HBs.out HB.out.size) ((HB.out.cell (by exact HBs.out)).trans HCc.out))
        obtain ⟨D, hD⟩ : ∃ D, eqS (c k) cc = D := ⟨_, rfl⟩
        rw [hD] at HP
        have HD := Lib.hid hD
        clear hD
        rcases bool_tf D with hb | hb
        · subst hb
          have HN : Hid (R = (k : Int)) := HR.out.symm.trans (first_at _ n k hkn HD.out HQ.out)
          go_wp2_with (go_at_call 173; refine HP.out.mono ?_; rintro e w1 ⟨rfl, hb⟩; have HB1 := Lib.hid (HB.out.trans (hb.mono HB.out.size)); clear hb)
          go_ret
          exact ⟨by rw [HN.out] <;> rfl, HB1.out⟩
        · subst hb
          go_wp2_with (go_at_call 173; refine HP.out.mono ?_; rintro e w1 ⟨rfl, hb⟩; have HB1 := Lib.hid (HB.out.trans (hb.mono HB.out.size)); clear hb)
          go_roundw
          case rel =>
            refine ⟨k + 1, by omega, by go_num, fun q hq => ?_, HB1.out⟩
            by_cases e : q = k
            · subst e; exact HD.out
            · exact HQ.out q (by omega)
          case measure => simp [intOf]; omega
      · obtain rfl : k = n := by omega
        have HN : Hid (R = -1) := HR.out.symm.trans (first_none _ _ HQ.out)
        go_wp2
        go_ret
        exact ⟨by rw [HN.out] <;> rfl, HB.out⟩
theorem conCls_any (n : Nat) (f : Nat → Nat → Value) (c : Nat → ByteArray) (hf : ∀ j, f j 0 = .string (c j)) (sv : Value) (cc : ByteArray) (B : Nat) (w : World) (hS : SL 5 n f w sv) (hn : n ≤ 24) (hB : B < w.heap.size) (hcc : w.cell? ⟨B, 0, none⟩ = some (.string cc)) :
    Calls Tryz.prog 172 #[sv, .func (.func 173) #[] #[.pointer (some ⟨B, 0, none⟩)]] w fun e w' => e = .returned (.bool ((List.range n).any fun j => eqS (c j) cc)) ∧ Below w.heap.size w w' := by
  have HI := Lib.hid (ixCls_any n f c hf sv cc B w hS hn hB hcc)
  have HA := Lib.hid (first_any (fun j => eqS (c j) cc) n)
  generalize first (fun j => eqS (c j) cc) n = I at HI HA
  go_enter Tryz.func172, Tryz.ntmps172
  go_wp2_with (go_at_call 181; refine HI.out.mono ?_; rintro e w1 ⟨rfl, hb⟩; have HB1 := Lib.hid hb; clear hb)
  go_ret
  exact ⟨by rw [← HA.out] <;> rfl, HB1.out⟩
set_option maxHeartbeats 4000000 in
theorem cloElm_any (d c : ByteArray) (v1 : Value) (B : Nat) (w : World) (hB : B < w.heap.size) (hc : w.cell? ⟨B, 0, none⟩ = some (.string c)) :
    Calls Tryz.prog 175 #[.agg #[.string d, v1], .pointer (some ⟨B, 0, none⟩)] w fun e w' => e = .returned (.bool (eqS d c)) ∧ Below w.heap.size w w' := by
  have hb : Below w.heap.size w (w.alloc (.cells #[.string d, v1] 111)) := (Below.refl _ _).alloc (Nat.le_refl _) _
  have hc2 : (w.alloc (.cells #[.string d, v1] 111)).cell? ⟨B, 0, none⟩ = some (.string c) := (hb.cell (by exact hB)).trans hc
  have HB := Lib.hid hb
  clear hb hc
  go_enter Tryz.func175, Tryz.ntmps175
  go_wp2
  go_ret
  exact ⟨rfl, HB.out⟩
set_option maxRecDepth 100000 in
set_option maxHeartbeats 4000000 in
theorem ixElm_any (n : Nat) (f : Nat → Nat → Value) (c : Nat → ByteArray) (hf : ∀ j, f j 0 = .string (c j)) (sv : Value) (cc : ByteArray) (B : Nat) (w : World) (hS : SL 2 n f w sv) (hn : n ≤ 64) (hB : B < w.heap.size) (hcc : w.cell? ⟨B, 0, none⟩ = some (.string cc)) :
    Calls Tryz.prog 182 #[sv, .func (.func 175) #[] #[.pointer (some ⟨B, 0, none⟩)]] w fun e w' => e = .returned (.int .i64 (first (fun j => eqS (c j) cc) n)) ∧ Below w.heap.size w w' := by
  obtain ⟨R, hR⟩ : ∃ R, first (fun j => eqS (c j) cc) n = R := ⟨_, rfl⟩
  rw [hR]
  have HR := Lib.hid hR
  have HCc := Lib.hid hcc
  have HBs := Lib.hid hB
  clear hR hcc hB
  obtain ⟨a, cap, rfl, hcap, hcells⟩ := hS
  have i256 : (n : Int) ≤ 64 := by omega
  rcases hcells with h0 | ⟨b, off, rfl, hlt, hcells⟩
  · subst h0
    have HN : Hid (R = -1) := HR.out.symm.trans (first_none _ _ fun q hq => by omega)
    go_enter Tryz.func182, Tryz.ntmps182
    go_wp2
    go_loopw [8] (fun i wr => i = .int .i64 0 ∧ wr = w) (fun _ _ => 0)
    case atStart => exact ⟨rfl, rfl⟩
    case round =>
      obtain ⟨rfl, rfl⟩ := hrel
      go_wp2
      go_ret
      exact ⟨by rw [HN.out] <;> rfl, Below.refl _ _⟩
  · have HC := Lib.hid hcells
    have HLt := Lib.hid hlt
    clear hcells hlt
    go_enter Tryz.func182, Tryz.ntmps182
    go_wp2
    go_loopw [8] (fun i wr => ∃ k : Nat, k ≤ n ∧ i = .int .i64 k ∧ Hid (∀ q, q < k → eqS (c q) cc = false) ∧ Hid (Below w.heap.size w wr)) (fun i _ => n - (intOf i).toNat)
    case atStart => exact ⟨0, Nat.zero_le _, rfl, fun q hq => by omega, Below.refl _ _⟩
    case round =>
      obtain ⟨k, hk, rfl, HQ, HB⟩ := hrel
      by_cases hkn : k < n
      · have ki : (k : Int) < n := by omega
        have ki0 : (0 : Int) ≤ k := by omega
        have ck0 : wr.cell? ⟨b, off + k * 2, none⟩ = some (f k 0) := by
          rw [HB.out.cell (by exact HLt.out)]
          exact HC.out k 0 hkn (by decide)
        have ck1 : wr.cell? ⟨b, off + k * 2 + 1, none⟩ = some (f k 1) := by
          rw [HB.out.cell (by exact HLt.out)]
          exact HC.out k 1 hkn (by decide)
        rw [hf k] at ck0
        generalize f k 1 = v1 at *
        have HP := Lib.hid (cloElm_any (c k) cc v1 B wr (Nat.lt_of_lt_of_le HBs.out HB.out.size) ((HB.out.cell (by exact HBs.out)).trans HCc.out))
        obtain ⟨D, hD⟩ : ∃ D, eqS (c k) cc = D := ⟨_, rfl⟩
        rw [hD] at HP
        have HD := Lib.hid hD
        clear hD
        rcases bool_tf D with hb | hb
        · subst hb
          have HN : Hid (R = (k : Int)) := HR.out.symm.trans (first_at _ n k hkn HD.out HQ.out)
          go_wp2_with (go_at_call 175; refine HP.out.mono ?_; rintro e w1 ⟨rfl, hb⟩; have HB1 := Lib.hid (HB.out.trans (hb.mono HB.out.size)); clear hb)
          go_ret
          exact ⟨by rw [HN.out] <;> rfl, HB1.out⟩
        · subst hb
          go_wp2_with (go_at_call 175; refine HP.out.mono ?_; rintro e w1 ⟨rfl, hb⟩; have HB1 := Lib.hid (HB.out.trans (hb.mono HB.out.size)); clear hb)
          go_roundw
          case rel =>
            refine ⟨k + 1, by omega, by go_num, fun q hq => ?_, HB1.out⟩
            by_cases e : q = k
            · subst e; exact HD.out
            · exact HQ.out q (by omega)
          case measure => simp [intOf]; omega
      · obtain rfl : k = n := by omega
        have HN : Hid (R = -1) := HR.out.symm.trans (first_none _ _ HQ.out)
        go_wp2
        go_ret
        exact ⟨by rw [HN.out] <;> rfl, HB.out⟩
theorem conElm_any (n : Nat) (f : Nat → Nat → Value) (c : Nat → ByteArray) (hf : ∀ j, f j 0 = .string (c j)) (sv : Value) (cc : ByteArray) (B : Nat) (w : World) (hS : SL 2 n f w sv) (hn : n ≤ 64) (hB : B < w.heap.size) (hcc : w.cell? ⟨B, 0, none⟩ = some (.string cc)) :
    Calls Tryz.prog 174 #[sv, .func (.func 175) #[] #[.pointer (some ⟨B, 0, none⟩)]] w fun e w' => e = .returned (.bool ((List.range n).any fun j => eqS (c j) cc)) ∧ Below w.heap.size w w' := by
  have HI := Lib.hid (ixElm_any n f c hf sv cc B w hS hn hB hcc)
  have HA := Lib.hid (first_any (fun j => eqS (c j) cc) n)
  generalize first (fun j => eqS (c j) cc) n = I at HI HA
  go_enter Tryz.func174, Tryz.ntmps174
  go_wp2_with (go_at_call 182; refine HI.out.mono ?_; rintro e w1 ⟨rfl, hb⟩; have HB1 := Lib.hid hb; clear hb)
  go_ret
  exact ⟨by rw [← HA.out] <;> rfl, HB1.out⟩
end Go.Proofs.YtphiaagppcbefaaGreatDoor
