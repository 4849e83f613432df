/- The laws of layer 3: joining, writing escapes, positions and lines. -/
import Derived.Test.YtgcpagnnkmpeoaaDoorTxLaws
import Derived.Test.YtgcpagnnkmpeoaaDoorTxJoin
set_option linter.unusedVariables false
namespace Go.Proofs.YtgcpagnnkmpeoaaDoor
open Go.RowKit

set_option maxHeartbeats 1000000 in
theorem law_makes (v : Value) (xs : List (List UInt8)) (b : Bool) (w : World) (hv : SA w v xs) (hN : (xs.map (·.length)).sum + xs.length ≤ 4294967281) :
    Calls Tryd.prog 4 #[v, .bool b] w fun e w' => e = .returned (.bool true) ∧ Below w.heap.size w w' := by
  have H1 : Hid (∀ w, SA w v xs → Calls Tryd.prog 17 #[v, .bool b] w fun e w' => e = .returned (.string (mk (jn xs b))) ∧ Below w.heap.size w w') := fun w h => tjoin_any v xs b w h hN
  have H2 : Hid (∀ w, SA w v xs → Calls Tryd.prog 18 #[v, .bool b] w fun e w' => e = .returned (.string (mk (jn xs b))) ∧ Below w.heap.size w w') := fun w h => rjoin_any v xs b w h hN
  have HA := Lib.hid awake_any
  have HV := Lib.hid hv
  clear hv
  generalize mk (jn xs b) = x at *
  go_enter Tryd.func4, Tryd.ntmps4
  go_wp2_with (first
    | (go_at_call 17; refine (H1.out _ HV.out).mono ?_; rintro e w1 ⟨rfl, hb1⟩; have HB1 := Lib.hid hb1; clear hb1)
    | (go_at_call 18; refine (H2.out _ (HV.out.below HB1.out)).mono ?_; rintro e w2 ⟨rfl, hb2⟩; have HB2 := Lib.hid (bnext HB1.out hb2); clear hb2)
    | (go_at_call 16; refine (HA.out _).mono ?_; rintro e w3 ⟨rfl, hb3⟩; have HB3 := Lib.hid (bnext HB2.out hb3); clear hb3))
  go_ret
  exact ⟨rfl, HB3.out⟩

theorem range_at (s : ByteArray) (l : List UInt8) (hl : s.data.toList = escL l) (k : Nat) (h : k < s.size) : (32 : Int) ≤ (s[k].toNat : Int) ∧ (s[k].toNat : Int) ≤ 126 := by
  have hk : k < s.data.toList.length := by rw [size_len]; exact h
  have := escL_range l (s.data.toList[k]) (by rw [← hl]; exact List.getElem_mem hk)
  have hg : s.data.toList[k] = s[k] := rfl
  rw [hg] at this
  omega
set_option maxHeartbeats 1000000 in
theorem law_escapes (s : ByteArray) (w : World) (hs : s.size ≤ 1048576) :
    Calls Tryd.prog 8 #[.string s] w fun e w' => e = .returned (.bool true) ∧ Below w.heap.size w w' := by
  have hle := escL_len s.data.toList
  rw [size_len] at hle
  have H1 : Hid (∀ w, Calls Tryd.prog 23 #[.string s] w fun e w' => e = .returned (.string (mk (escL s.data.toList))) ∧ Below w.heap.size w w') := fun w => escape_any s w (by omega)
  have H2 : Hid (∀ w, Calls Tryd.prog 25 #[.string s] w fun e w' => e = .returned (.string (mk (escL s.data.toList))) ∧ Below w.heap.size w w') := fun w => rescape_any s w (by omega)
  have H3 : Hid (∀ w, Calls Tryd.prog 24 #[.string (mk (escL s.data.toList))] w fun e w' => e = .returned (.tuple #[.string s, .int .i64 0, .int .i64 0]) ∧ Below w.heap.size w w') := fun w => by
    have h := unesc_any (mk (escL s.data.toList)) w (by rw [mk_size]; omega)
    have e : unR (mk (escL s.data.toList)).data.toList = (s.data.toList, true, 0) := by
      show unl (escL s.data.toList) 0 [] = _
      rw [unl_escL]; rfl
    rw [e] at h
    exact h
  have HA := Lib.hid awake_any
  have HG : Hid (∀ k (h : k < (mk (escL s.data.toList)).size), (32 : Int) ≤ ((mk (escL s.data.toList))[k].toNat : Int) ∧ ((mk (escL s.data.toList))[k].toNat : Int) ≤ 126) := fun k h => range_at _ s.data.toList (mk_data _) k h
  have hsz : (mk (escL s.data.toList)).size ≤ 4194304 := by rw [mk_size]; omega
  have hEq : (((mk (escL s.data.toList)).size : Int) == (s.size : Int)) = ((mk (escL s.data.toList)).toList == s.toList) := by
    rw [toList_mk, ByteArray.toList_eq, mk_size]
    by_cases h : (escL s.data.toList).length = s.size
    · rw [hle.2.2 h]; simp
    · have h2 : (escL s.data.toList == s.data.toList) = false := by
        rw [beq_eq_false_iff_ne]
        intro e; apply h; rw [e, size_len]
      rw [h2, beq_eq_false_iff_ne]; omega
  generalize mk (escL s.data.toList) = T at *
  have HEq := Lib.hid hEq
  clear hle hEq
  go_enter Tryd.func8, Tryd.ntmps8
  go_wp2_with (first
    | (go_at_call 23; refine (H1.out _).mono ?_; rintro e w1 ⟨rfl, hb1⟩; have HB1 := Lib.hid hb1; clear hb1))
  go_loop [4] (fun i => ∃ k : Nat, k ≤ T.size ∧ i = .int .i64 k) (fun i => T.size - (intOf i).toNat)
  case atStart => exact ⟨0, Nat.zero_le _, rfl⟩
  case round =>
    obtain ⟨k, hk, rfl⟩ := hrel
    by_cases hlt : k < T.size
    · obtain ⟨g1, g2⟩ := HG.out k hlt
      have d1 : decide ((T[k].toNat : Int) < 32) = false := decide_eq_false (by omega)
      have d2 : decide (126 < (T[k].toNat : Int)) = false := decide_eq_false (by omega)
      go_wp2
      all_goals first
        | (exfalso; omega)
        | (go_round
           case rel => exact ⟨k + 1, by omega, by go_num⟩
           case measure => simp [intOf]; omega)
    · obtain rfl : k = T.size := by omega
      rcases tf ((T.size : Int) == (s.size : Int)) with hq | hq
      all_goals
        have hq2 := HEq.out
        rw [hq] at hq2
        have hq3 := hq2.symm
        clear hq2
        go_wp2_with (first
          | (go_at_call 24; refine (H3.out _).mono ?_; rintro e w2 ⟨rfl, hb2⟩; have HB2 := Lib.hid (bnext HB1.out hb2); clear hb2)
          | (go_at_call 25; refine (H2.out _).mono ?_; rintro e w3 ⟨rfl, hb3⟩; have HB3 := Lib.hid (bnext HB2.out hb3); clear hb3)
          | (go_at_call 16; refine (HA.out _).mono ?_; rintro e w4 ⟨rfl, hb4⟩; have HB4 := Lib.hid (bnext HB3.out hb4); clear hb4))
        go_ret
        exact ⟨rfl, HB4.out⟩
end Go.Proofs.YtgcpagnnkmpeoaaDoor
