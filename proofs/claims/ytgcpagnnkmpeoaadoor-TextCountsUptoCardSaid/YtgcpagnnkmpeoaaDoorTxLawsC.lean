/- The laws of layer 3: positions and lines. -/
import Derived.Test.YtgcpagnnkmpeoaaDoorTxLawsB
set_option linter.unusedVariables false
namespace Go.Proofs.YtgcpagnnkmpeoaaDoor
open Go.RowKit

theorem two_cells {w2 w3 : World} {x0 x1 y0 y1 : Value} {t : TypeId} (h : Below ((w2.alloc (.cells #[x0, x1] t)).alloc (.cells #[y0, y1] t)).heap.size ((w2.alloc (.cells #[x0, x1] t)).alloc (.cells #[y0, y1] t)) w3) :
    w3.cell? ⟨w2.heap.size, 0, none⟩ = some x0 ∧ w3.cell? ⟨w2.heap.size, 1, none⟩ = some x1 ∧ w3.cell? ⟨w2.heap.size + 1, 0, none⟩ = some y0 ∧ w3.cell? ⟨w2.heap.size + 1, 1, none⟩ = some y1 ∧ Below w2.heap.size w2 w3 := by
  have e1 : ((w2.alloc (.cells #[x0, x1] t)).alloc (.cells #[y0, y1] t)).heap[w2.heap.size]? = some (.cells #[x0, x1] t (0, 0)) := by
    rw [Below.heap_alloc _ _ _ (by simp)]; exact heap_alloc_new w2 _
  have e2 : ((w2.alloc (.cells #[x0, x1] t)).alloc (.cells #[y0, y1] t)).heap[w2.heap.size + 1]? = some (.cells #[y0, y1] t (0, 0)) := by
    have := heap_alloc_new (w2.alloc (.cells #[x0, x1] t)) (.cells #[y0, y1] t)
    simpa using this
  refine ⟨?_, ?_, ?_, ?_, ?_⟩
  · rw [h.cell (p := ⟨w2.heap.size, 0, none⟩) (by simp; omega), cell_of_row _ _ 0 _ t (0, 0) e1]; rfl
  · rw [h.cell (p := ⟨w2.heap.size, 1, none⟩) (by simp; omega), cell_of_row _ _ 1 _ t (0, 0) e1]; rfl
  · rw [h.cell (p := ⟨w2.heap.size + 1, 0, none⟩) (by simp), cell_of_row _ _ 0 _ t (0, 0) e2]; rfl
  · rw [h.cell (p := ⟨w2.heap.size + 1, 1, none⟩) (by simp), cell_of_row _ _ 1 _ t (0, 0) e2]; rfl
  · exact (((Below.refl _ _).alloc (Nat.le_refl _) _).alloc (by simp) _).trans (h.mono (by simp; omega))
theorem sum_take (q : List (List UInt8)) (k : Nat) (h : k < q.length) : ((q.take (k + 1)).map (·.length + 1)).sum = ((q.take k).map (·.length + 1)).sum + (q[k].length + 1) := by
  rw [List.take_succ_eq_append_getElem h, List.map_append, List.sum_append]; simp
theorem sum_take_le (q : List (List UInt8)) (k : Nat) : ((q.take k).map (·.length + 1)).sum ≤ (q.map (·.length + 1)).sum := by
  have e := congrArg (fun l => (List.map (fun x : List UInt8 => x.length + 1) l).sum) (List.take_append_drop k q)
  simp only [List.map_append, List.sum_append] at e
  omega

set_option maxHeartbeats 1000000 in
theorem law_counts (s : ByteArray) (a b : Int) (w : World) (hs : s.size ≤ 1048576) :
    Calls Tryd.prog 7 #[.string s, .int .i64 a, .int .i64 b] w fun e w' => e = .returned (.bool true) ∧ Below w.heap.size w w' := by
  have ho1 := intoN_le s.size a
  have ho2 := intoN_le s.size b
  have H4 : Hid (∀ w, Calls Tryd.prog 22 #[.string s, .int .i64 a] w fun e w' => e = .returned (.int .i64 (intoN s.size a)) ∧ w = w') := fun w => into_any s a w
  have H5 : Hid (∀ w, Calls Tryd.prog 22 #[.string s, .int .i64 b] w fun e w' => e = .returned (.int .i64 (intoN s.size b)) ∧ w = w') := fun w => into_any s b w
  have H1 : Hid (∀ w, Calls Tryd.prog 20 #[.string s, .int .i64 a] w fun e w' => e = .returned (.agg #[.int .i64 (lineN (s.data.toList.take (intoN s.size a)) : Int), .int .i64 (colN (s.data.toList.take (intoN s.size a)) : Int)]) ∧ Below w.heap.size w w') := fun w => pos_any s a w (by omega)
  have H2 : Hid (∀ w, Calls Tryd.prog 20 #[.string s, .int .i64 b] w fun e w' => e = .returned (.agg #[.int .i64 (lineN (s.data.toList.take (intoN s.size b)) : Int), .int .i64 (colN (s.data.toList.take (intoN s.size b)) : Int)]) ∧ Below w.heap.size w w') := fun w => pos_any s b w (by omega)
  have H3 : Hid (∀ w, Calls Tryd.prog 11 #[.string s] w fun e w' => ∃ v, e = .returned (.tuple #[v, .bool (lend s.data.toList)]) ∧ SA w' v (lin s.data.toList) ∧ Below w.heap.size w w') := fun w => lines_any s w (by omega)
  have HA := Lib.hid awake_any
  generalize intoN s.size a = o1 at *
  generalize intoN s.size b = o2 at *
  obtain ⟨q, hq1, hq2, hq3, hq4⟩ := pos_lines s.data.toList o1 (by rw [size_len]; exact ho1)
  have hless := less_iff s.data.toList o1 o2 (by rw [size_len]; exact ho1) (by rw [size_len]; exact ho2)
  unfold lessN at hless
  have c1 := colN_le (s.data.toList.take o1)
  have hlen1 : (s.data.toList.take o1).length = o1 := by rw [List.length_take, size_len]; omega
  rw [hlen1] at c1
  have n1 := lineN_le (s.data.toList.take o1)
  rw [hlen1] at n1
  have n2 := lineN_le (s.data.toList.take o2)
  have c2 := colN_le (s.data.toList.take o2)
  have hlen2 : (s.data.toList.take o2).length = o2 := by rw [List.length_take, size_len]; omega
  rw [hlen2] at n2 c2
  clear hlen1 hlen2
  generalize lend s.data.toList = le at *
  generalize lineN (s.data.toList.take o1) = L1 at *
  generalize colN (s.data.toList.take o1) = C1 at *
  generalize lineN (s.data.toList.take o2) = L2 at *
  generalize colN (s.data.toList.take o2) = C2 at *
  generalize lin s.data.toList = xs at *
  go_enter Tryd.func7, Tryd.ntmps7
  go_wp2_with (first
    | (go_at_call 20; with_reducible refine (H1.out _).mono ?_; rintro e w1 ⟨rfl, hb1⟩; have HB1 := Lib.hid hb1; clear hb1)
    | (go_at_call 20; with_reducible refine (H2.out _).mono ?_; rintro e w2 ⟨rfl, hb2⟩; have HB2 := Lib.hid (bnext HB1.out hb2); clear hb2)
    | (go_at_call 11; refine (H3.out _).mono ?_; rintro e w3 ⟨v, rfl, hs3, hb3⟩; obtain ⟨f1, f2, f3, f4, hb4⟩ := two_cells hb3; have HB3 := Lib.hid (bnext HB2.out hb4); obtain ⟨av, cv, rfl, hvc, hvx⟩ := hs3; have HX := Lib.hid hvx; clear hb3 hb4 hvx))
  have HQ4 := Lib.hid hq4
  have HQ3 := Lib.hid hq3
  have HLs := Lib.hid hless
  clear hq3 hq4 hless
  go_loop [11, 12] (fun n i => ∃ (k z : Nat), k ≤ q.length ∧ i = .int .i64 k ∧ n = .int .i64 z ∧ z ≤ o1 ∧ Hid (z = ((q.take k).map (·.length + 1)).sum + (C1 - 1))) (fun _ i => q.length - (intOf i).toNat)
  case atStart =>
    refine ⟨0, C1 - 1, Nat.zero_le _, rfl, ?_, by omega, ?_⟩
    · congr 1; omega
    · show _ = _; simp
  case round =>
    obtain ⟨k, z, hk, rfl, rfl, hz, hz2⟩ := hrel
    by_cases hlt : k < q.length
    · have k2 : k < xs.length := by omega
      obtain ⟨b1, p1, rfl, hb1, hc1⟩ := SA.get (c := cv) HX.out k k2
      have hql : xs[k].length = q[k].length := by
        have := HQ3.out k hlt
        rw [List.getElem?_eq_getElem k2, List.getElem?_eq_getElem hlt] at this
        rw [Option.some.inj this]
      have h1 := sum_take q k hlt
      have h2 := sum_take_le q (k + 1)
      rw [h1, ← hql] at h2
      have hbd : z + xs[k].length + 1 ≤ o1 := by
        have e1 := HQ4.out
        have e2 := hz2.out
        omega
      have HN : Hid (z + xs[k].length + 1 = ((q.take (k + 1)).map (·.length + 1)).sum + (C1 - 1)) := by
        show _ = _
        rw [h1, ← hql, hz2.out]; omega
      have hsz : (mk xs[k]).size = xs[k].length := mk_size _
      have i1 : (k : Int) < (L1 : Int) - 1 := by omega
      have i2 : ¬ (xs.length : Int) ≤ (k : Int) := by omega
      generalize hX : mk xs[k] = X at *
      rw [← hsz] at hbd HN
      clear hX hql h1 h2 hz2 hsz
      go_wp2
      go_round
      case rel => exact ⟨k + 1, z + X.size + 1, by omega, by go_num, by go_num, hbd, HN.out⟩
      case measure => simp [intOf]; omega
    · obtain rfl : k = q.length := by omega
      have hzo : z = o1 := by
        have e1 := HQ4.out
        have e2 := hz2.out
        rw [List.take_length] at e2
        omega
      subst hzo
      have i1 : ¬ ((q.length : Nat) : Int) < (L1 : Int) - 1 := by omega
      have q0 : ((z : Int) == (z : Int)) = true := by simp
      have hlt3 : L1 < L2 ∨ L2 < L1 ∨ (L1 = L2 ∧ C1 < C2) ∨ (L1 = L2 ∧ ¬ C1 < C2) := by omega
      clear hz2
      have hL := HLs.out
      rcases hlt3 with h | h | ⟨h, h2⟩ | ⟨h, h2⟩
      · rw [decide_eq_true h, Bool.true_or] at hL
        have l2 : (z : Int) < (o2 : Int) := by have := of_decide_eq_true hL.symm; omega
        have l1 : (L1 : Int) < (L2 : Int) := by omega
        have d4 : decide ((z : Int) < (o2 : Int)) = true := decide_eq_true l2
        clear hL
        go_wp2_with (first
          | (go_at_call 22; with_reducible refine (H4.out _).mono ?_; rintro e w' ⟨rfl, rfl⟩)
          | (go_at_call 22; with_reducible refine (H5.out _).mono ?_; rintro e w' ⟨rfl, rfl⟩)
          | (go_at_call 16; refine (HA.out _).mono ?_; rintro e w4 ⟨rfl, hb4⟩; have HB4 := Lib.hid (bnext HB3.out hb4); clear hb4))
        all_goals first | (exfalso; omega) | (go_ret; exact ⟨rfl, HB4.out⟩)
      · rw [decide_eq_false (by omega), decide_eq_false (by omega), Bool.false_and, Bool.false_or] at hL
        have l2 : ¬ (z : Int) < (o2 : Int) := by have := of_decide_eq_false hL.symm; omega
        have l1 : ¬ (L1 : Int) < (L2 : Int) := by omega
        have l3 : ((L1 : Int) == (L2 : Int)) = false := beq_eq_false_iff_ne.2 (by omega)
        have d4 : decide ((z : Int) < (o2 : Int)) = false := decide_eq_false l2
        clear hL
        go_wp2_with (first
          | (go_at_call 22; with_reducible refine (H4.out _).mono ?_; rintro e w' ⟨rfl, rfl⟩)
          | (go_at_call 22; with_reducible refine (H5.out _).mono ?_; rintro e w' ⟨rfl, rfl⟩)
          | (go_at_call 16; refine (HA.out _).mono ?_; rintro e w4 ⟨rfl, hb4⟩; have HB4 := Lib.hid (bnext HB3.out hb4); clear hb4))
        all_goals first | (exfalso; omega) | (go_ret; exact ⟨rfl, HB4.out⟩)
      · subst h
        rw [decide_eq_false (Nat.lt_irrefl _), decide_eq_true rfl, decide_eq_true h2] at hL
        have l2 : (z : Int) < (o2 : Int) := by have := of_decide_eq_true hL.symm; omega
        have l1 : ¬ (L1 : Int) < (L1 : Int) := by omega
        have l3 : ((L1 : Int) == (L1 : Int)) = true := by simp
        have l4 : (C1 : Int) < (C2 : Int) := by omega
        have d5 : decide ((C1 : Int) < (C2 : Int)) = true := decide_eq_true l4
        have d4 : decide ((z : Int) < (o2 : Int)) = true := decide_eq_true l2
        clear hL
        go_wp2_with (first
          | (go_at_call 22; with_reducible refine (H4.out _).mono ?_; rintro e w' ⟨rfl, rfl⟩)
          | (go_at_call 22; with_reducible refine (H5.out _).mono ?_; rintro e w' ⟨rfl, rfl⟩)
          | (go_at_call 16; refine (HA.out _).mono ?_; rintro e w4 ⟨rfl, hb4⟩; have HB4 := Lib.hid (bnext HB3.out hb4); clear hb4))
        all_goals first | (exfalso; omega) | (go_ret; exact ⟨rfl, HB4.out⟩)
      · subst h
        rw [decide_eq_false (Nat.lt_irrefl _), decide_eq_true rfl, decide_eq_false h2] at hL
        have l2 : ¬ (z : Int) < (o2 : Int) := by have := of_decide_eq_false hL.symm; omega
        have l1 : ¬ (L1 : Int) < (L1 : Int) := by omega
        have l3 : ((L1 : Int) == (L1 : Int)) = true := by simp
        have l4 : ¬ (C1 : Int) < (C2 : Int) := by omega
        have d5 : decide ((C1 : Int) < (C2 : Int)) = false := decide_eq_false l4
        have d4 : decide ((z : Int) < (o2 : Int)) = false := decide_eq_false l2
        clear hL
        go_wp2_with (first
          | (go_at_call 22; with_reducible refine (H4.out _).mono ?_; rintro e w' ⟨rfl, rfl⟩)
          | (go_at_call 22; with_reducible refine (H5.out _).mono ?_; rintro e w' ⟨rfl, rfl⟩)
          | (go_at_call 16; refine (HA.out _).mono ?_; rintro e w4 ⟨rfl, hb4⟩; have HB4 := Lib.hid (bnext HB3.out hb4); clear hb4))
        all_goals first | (exfalso; omega) | (go_ret; exact ⟨rfl, HB4.out⟩)
end Go.Proofs.YtgcpagnnkmpeoaaDoor
