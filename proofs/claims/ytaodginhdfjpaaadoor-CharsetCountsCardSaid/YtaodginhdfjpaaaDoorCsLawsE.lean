/- The law on lists and numbers of bytes: Of inverts List, lists ascend, numbers add up. -/
import Derived.Test.YtaodginhdfjpaaaDoorRows
import Derived.Test.YtaodginhdfjpaaaDoorCsLawsC
set_option linter.unusedVariables false
namespace Go.Proofs.YtaodginhdfjpaaaDoor
open Go.RowKit

theorem bl_get (l : List Nat) (h : ∀ x ∈ l, x < 256) (j : Nat) (hj : j < (bl l).length) : ((bl l)[j]).toNat = l[j]'(by rw [← bl_length]; exact hj) := by
  have := h _ (List.getElem_mem (by rw [← bl_length]; exact hj : j < l.length))
  simp [bl]
  omega
theorem getD_at (l : List Nat) (j : Nat) (h : j < l.length) : l.getD j 0 = l[j] := by
  rw [List.getD_eq_getElem?_getD, List.getElem?_eq_getElem h, Option.getD_some]
theorem setOf_bl (p : Nat → Bool) (c : Nat) (hc : c < 256) : setOf (bl (el p 256)) c = p c := by
  have h : setOf (bl (el p 256)) c = true ↔ p c = true := by
    unfold setOf bl
    rw [List.any_map, List.any_eq_true]
    constructor
    · rintro ⟨x, hx, he⟩
      have h1 := (mem_el p 256 x).1 hx
      have h2 : (UInt8.ofNat x).toNat = x := by simp; omega
      simp only [Function.comp_apply, beq_iff_eq, h2] at he
      rw [he]
      exact h1.2
    · intro hp
      refine ⟨c, (mem_el p 256 c).2 ⟨hc, hp⟩, ?_⟩
      have h2 : (UInt8.ofNat c).toNat = c := by simp; omega
      simp only [Function.comp_apply, beq_iff_eq, h2]
  cases h1 : setOf (bl (el p 256)) c <;> cases h2 : p c <;> simp_all
theorem el_step (p : Nat → Bool) (m : Nat) (h : m + 1 < (el p 256).length) : (el p 256)[m]'(by omega) < (el p 256)[m + 1] :=
  List.pairwise_iff_getElem.1 (el_ascends p 256) m (m + 1) (by omega) h (by omega)

set_option maxRecDepth 100000 in
set_option maxHeartbeats 40000000 in
theorem charsetCounts_law (p q : Nat → Bool) (w : World) (hT : tabAt w) :
    Calls Tryd.prog 7 #[cs p, cs q] w fun e w' => e = .returned (.bool true) ∧ Below w.heap.size w w' := by
  have HS := Lib.hid (L2.start w p q hT)
  clear hT
  have HA := Lib.hid awake_any
  have H1 := Lib.hid (list_any p)
  obtain ⟨s, hs⟩ : ∃ s : ByteArray, s = ⟨(bl (el p 256)).toArray⟩ := ⟨_, rfl⟩
  have hsz : s.size = (el p 256).length := by
    rw [hs]
    show (bl (el p 256)).toArray.size = _
    rw [List.size_toArray, bl_length]
  have hle := el_length_le p 256
  have hdata : s.data.toList = bl (el p 256) := by rw [hs]
  have H2 : Hid (∀ w, Calls Tryd.prog 9 #[.string s] w fun e w' => e = .returned (cs p) ∧ Below w.heap.size w w') := fun w => by
    have := of_any s (by omega) w
    rw [hdata, cs_congr _ p (setOf_bl p)] at this
    exact this
  have HG : Hid (∀ j (hj : j < s.size), (s[j]).toNat = (el p 256).getD j 0) := fun j hj => by
    have hj2 : j < (el p 256).length := by rw [← hsz]; exact hj
    rw [getD_at _ _ hj2]
    subst hs
    exact bl_get (el p 256) (fun x hx => el_lt p 256 x hx) j (by rw [bl_length]; exact hj2)
  rw [← hs] at H1
  have H3 := Lib.hid (union_any p q)
  have H4 := Lib.hid (inter_any p q)
  have H5 := Lib.hid (count_any fun c => p c || q c)
  have H6 := Lib.hid (count_any fun c => p c && q c)
  have H7 := Lib.hid (count_any p)
  have H8 := Lib.hid (count_any q)
  have hsum := el_sum p q 256
  have e1 := el_length_le (fun c => p c || q c) 256
  have e2 := el_length_le (fun c => p c && q c) 256
  have e4 := el_length_le q 256
  have HP : Hid (∀ j, j < s.size → p ((el p 256).getD j 0) = true ∧ (el p 256).getD j 0 < 256) := fun j hj => by
    have hj2 : j < (el p 256).length := by rw [← hsz]; exact hj
    rw [getD_at _ _ hj2]
    have := (mem_el p 256 _).1 (List.getElem_mem hj2)
    exact ⟨this.2, this.1⟩
  have HQ : Hid (∀ m, m + 1 < s.size → (el p 256).getD m 0 < (el p 256).getD (m + 1) 0) := fun m hm => by
    have hm2 : m + 1 < (el p 256).length := by rw [← hsz]; exact hm
    rw [getD_at _ _ hm2, getD_at _ _ (by omega : m < (el p 256).length)]
    exact el_step p m hm2
  obtain ⟨f1, h1⟩ : ∃ f : Nat → Bool, f = fun c => p c || q c := ⟨_, rfl⟩
  obtain ⟨f2, h2⟩ : ∃ f : Nat → Bool, f = fun c => p c && q c := ⟨_, rfl⟩
  rw [← h1] at H3 H5 hsum e1
  rw [← h2] at H4 H6 hsum e2
  obtain ⟨n1, hn1⟩ : ∃ n, n = (el f1 256).length := ⟨_, rfl⟩
  obtain ⟨n2, hn2⟩ : ∃ n, n = (el f2 256).length := ⟨_, rfl⟩
  obtain ⟨na, hna⟩ : ∃ n, n = (el p 256).length := ⟨_, rfl⟩
  obtain ⟨nb, hnb⟩ : ∃ n, n = (el q 256).length := ⟨_, rfl⟩
  rw [← hn1] at H5 hsum e1
  rw [← hn2] at H6 hsum e2
  rw [← hna] at H7 hsum hle hsz
  rw [← hnb] at H8 hsum e4
  have w3 : ((n1 : Int) + (n2 : Int) == (na : Int) + (nb : Int)) = true := by rw [beq_iff_eq]; omega
  have w4 : ((s.size : Int) == (na : Int)) = true := by rw [beq_iff_eq]; omega
  have hs256 : (s.size : Int) ≤ 256 := by omega
  have w5 : (s.size == na) = true := by rw [beq_iff_eq]; omega
  have w6 : (n1 + n2 == na + nb) = true := by rw [beq_iff_eq]; omega
  have W5 := Lib.hid w5
  have W6 := Lib.hid w6
  have q1 : (-9223372036854775808 : Int) ≤ (n1 : Int) + (n2 : Int) ∧ (n1 : Int) + (n2 : Int) ≤ 9223372036854775807 := by omega
  have q2 : (-9223372036854775808 : Int) ≤ (na : Int) + (nb : Int) ∧ (na : Int) + (nb : Int) ≤ 9223372036854775807 := by omega
  have W1 : Hid (IntKind.i64.wrap ((n1 : Int) + (n2 : Int)) = (n1 : Int) + (n2 : Int)) := IntWalk.i64_in _ q1
  have W2 : Hid (IntKind.i64.wrap ((na : Int) + (nb : Int)) = (na : Int) + (nb : Int)) := IntWalk.i64_in _ q2
  have W3 := Lib.hid w3
  have W4 := Lib.hid w4
  have hg := eq_guard
  clear hs hle hdata hsz hsum e1 e2 e4 h1 h2 hn1 hn2 hna hnb q1 q2 w3 w4 w5 w6
  have Hh := Lib.hid (has_any p)
  unfold cs cl at *
  have he := eql_same (wd p 0 64 : Nat) (wd p 64 64 : Nat) (wd p 128 64 : Nat) (wd p 192 64 : Nat)
  go_enter Tryd.func7, Tryd.ntmps7
  go_wp2_with (first
    | (go_at_call 15; refine (H1.out _ (by exact HS.out.2.2.1)).mono ?_; rintro e w5 ⟨rfl, hb⟩; have HS := Lib.hid (L2.keep hb HS.out); clear hb))
  go_loopw [6] (fun i wr => ∃ k : Nat, k ≤ s.size ∧ i = .int .i64 k ∧ Hid (L2 w p q wr)) (fun i _ => s.size - (intOf i).toNat)
  case atStart => exact ⟨0, Nat.zero_le _, rfl, HS.out⟩
  case round =>
    obtain ⟨k, hk, rfl, HR⟩ := hrel
    by_cases hlt : k < s.size
    · have hi : (k : Int) < s.size := by omega
      have hi0 : (0 : Int) ≤ (k : Int) := by omega
      obtain ⟨hp, hc⟩ := HP.out k hlt
      have hsc := HG.out k hlt
      obtain ⟨c, hc0⟩ : ∃ c, c = (el p 256).getD k 0 := ⟨_, rfl⟩
      rw [← hc0] at hp hc hsc
      have Hh1 := Lib.hid (Hh.out c hc)
      rw [hp] at Hh1
      by_cases hk0 : k = 0
      · subst hk0
        have hi1 : (0 : Int) < s.size := hi
        have z0 : ((0 : Nat) : Int) = 0 := rfl
        rw [z0]
        clear hc0 hc hp hi hi0 z0
        go_wp2
        refine wp_region_held_drew (S := fun w' => L2 w p q w') (by kernel_rfl) ?_ (fun hHeld => ?_)
        · exact L2.drew HR.out
        refine wpAnyH_take (i := 0) (v := ?v0) rfl (by kernel_rfl) (by kernel_rfl) (by kernel_rfl) (fun _ _ _ h => h) (Or.inl ⟨by rfl, ?y0⟩) (by assumption) ?r0
        case y0 =>
          intro w hSw
          go_simp
          first | done | (with_reducible rfl)
        (try simp only [Act.put, List.getElem_toArray, List.getElem_cons_zero, List.setIfInBounds_toArray, List.set_cons_zero, List.set_cons_succ])
        refine wpAnyH_take (i := 1) (v := ?v1) rfl (by kernel_rfl) (by kernel_rfl) (by kernel_rfl) (fun _ _ _ h => h) (Or.inl ⟨by rfl, ?y1⟩) (by assumption) ?r1
        case y1 =>
          intro w hSw
          go_simp
          first | done | (with_reducible rfl)
        (try simp only [Act.put, List.getElem_toArray, List.getElem_cons_succ, List.getElem_cons_zero, List.setIfInBounds_toArray, List.set_cons_zero, List.set_cons_succ])
        refine wpAnyH_take (i := 2) (v := ?v2) rfl (by kernel_rfl) (by kernel_rfl) (by kernel_rfl) (fun _ _ _ h => h) (Or.inl ⟨by rfl, ?y2⟩) (by assumption) ?r2
        case y2 =>
          intro w hSw
          go_simp
          first | done | (with_reducible rfl)
        (try simp only [Act.put, List.getElem_toArray, List.getElem_cons_succ, List.getElem_cons_zero, List.setIfInBounds_toArray, List.set_cons_zero, List.set_cons_succ])
        refine wpAnyH_take (i := 3) (v := undef) rfl (by kernel_rfl) (by kernel_rfl) (by kernel_rfl) (fun _ _ _ h => h) (Or.inr ⟨by rfl, rfl⟩) (by assumption) ?_
        (try simp only [Act.put, List.getElem_toArray, List.getElem_cons_succ, List.getElem_cons_zero, List.setIfInBounds_toArray, List.set_cons_zero, List.set_cons_succ])
        refine wpAnyH_take (i := 4) (v := undef) rfl (by kernel_rfl) (by kernel_rfl) (by kernel_rfl) (fun _ _ _ h => h) (Or.inr ⟨by rfl, rfl⟩) (by assumption) ?_
        (try simp only [Act.put, List.getElem_toArray, List.getElem_cons_succ, List.getElem_cons_zero, List.setIfInBounds_toArray, List.set_cons_zero, List.set_cons_succ])
        refine wpAnyH_take (i := 5) (v := undef) rfl (by kernel_rfl) (by kernel_rfl) (by kernel_rfl) (fun _ _ _ h => h) (Or.inr ⟨by rfl, rfl⟩) (by assumption) ?_
        (try simp only [Act.put, List.getElem_toArray, List.getElem_cons_succ, List.getElem_cons_zero, List.setIfInBounds_toArray, List.set_cons_zero, List.set_cons_succ])
        refine wpAnyH_take (i := 6) (v := undef) rfl (by kernel_rfl) (by kernel_rfl) (by kernel_rfl) (fun _ _ _ h => h) (Or.inr ⟨by rfl, rfl⟩) (by assumption) ?_
        (try simp only [Act.put, List.getElem_toArray, List.getElem_cons_succ, List.getElem_cons_zero, List.setIfInBounds_toArray, List.set_cons_zero, List.set_cons_succ])
        refine wpAnyH_take (i := 7) (v := undef) rfl (by kernel_rfl) (by kernel_rfl) (by kernel_rfl) (fun _ _ _ h => h) (Or.inr ⟨by rfl, rfl⟩) (by assumption) ?_
        (try simp only [Act.put, List.getElem_toArray, List.getElem_cons_succ, List.getElem_cons_zero, List.setIfInBounds_toArray, List.set_cons_zero, List.set_cons_succ])
        refine wpAnyH_take (i := 8) (v := undef) rfl (by kernel_rfl) (by kernel_rfl) (by kernel_rfl) (fun _ _ _ h => h) (Or.inr ⟨by rfl, rfl⟩) (by assumption) ?_
        (try simp only [Act.put, List.getElem_toArray, List.getElem_cons_succ, List.getElem_cons_zero, List.setIfInBounds_toArray, List.set_cons_zero, List.set_cons_succ])
        refine wpAnyH_take (i := 9) (v := undef) rfl (by kernel_rfl) (by kernel_rfl) (by kernel_rfl) (fun _ _ _ h => h) (Or.inr ⟨by rfl, rfl⟩) (by assumption) ?_
        (try simp only [Act.put, List.getElem_toArray, List.getElem_cons_succ, List.getElem_cons_zero, List.setIfInBounds_toArray, List.set_cons_zero, List.set_cons_succ])
        refine wpAnyH_take (i := 10) (v := undef) rfl (by kernel_rfl) (by kernel_rfl) (by kernel_rfl) (fun _ _ _ h => h) (Or.inr ⟨by rfl, rfl⟩) (by assumption) ?_
        (try simp only [Act.put, List.getElem_toArray, List.getElem_cons_succ, List.getElem_cons_zero, List.setIfInBounds_toArray, List.set_cons_zero, List.set_cons_succ])
        refine wpAnyH_take (i := 11) (v := ?v11) rfl (by kernel_rfl) (by kernel_rfl) (by kernel_rfl) (fun _ _ _ h => h) (Or.inl ⟨by rfl, ?y11⟩) (by assumption) ?r11
        case y11 =>
          intro w hSw
          go_simp
          first | done | (with_reducible rfl)
        (try simp only [Act.put, List.getElem_toArray, List.getElem_cons_succ, List.getElem_cons_zero, List.setIfInBounds_toArray, List.set_cons_zero, List.set_cons_succ])
        refine wpAnyH_take (i := 12) (v := ?v12) rfl (by kernel_rfl) (by kernel_rfl) (by kernel_rfl) (fun _ _ _ h => h) (Or.inl ⟨by rfl, ?y12⟩) (by assumption) ?r12
        case y12 =>
          intro w hSw
          go_simp
          first | done | (with_reducible rfl)
        (try simp only [Act.put, List.getElem_toArray, List.getElem_cons_succ, List.getElem_cons_zero, List.setIfInBounds_toArray, List.set_cons_zero, List.set_cons_succ])
        refine wpAnyH_take (i := 13) (v := ?v13) rfl (by kernel_rfl) (by kernel_rfl) (by kernel_rfl) (fun _ _ _ h => h) (Or.inl ⟨by rfl, ?y13⟩) (by assumption) ?r13
        case y13 =>
          intro w hSw
          go_simp
          first | done | (with_reducible rfl)
        (try simp only [Act.put, List.getElem_toArray, List.getElem_cons_succ, List.getElem_cons_zero, List.setIfInBounds_toArray, List.set_cons_zero, List.set_cons_succ])
        refine wpAnyH_take (i := 14) (v := ?v14) rfl (by kernel_rfl) (by kernel_rfl) (by kernel_rfl) (fun _ _ _ h => h) (Or.inl ⟨by rfl, ?y14⟩) (by assumption) ?r14
        case y14 =>
          intro w hSw
          go_simp
          first | done | (with_reducible rfl)
        (try simp only [Act.put, List.getElem_toArray, List.getElem_cons_succ, List.getElem_cons_zero, List.setIfInBounds_toArray, List.set_cons_zero, List.set_cons_succ])
        refine wpAnyH_take (i := 15) (v := ?v15) rfl (by kernel_rfl) (by kernel_rfl) (by kernel_rfl) (fun _ _ _ h => h) (Or.inl ⟨by rfl, ?y15⟩) (by assumption) ?r15
        case y15 =>
          intro w hSw
          go_simp
          first | done | (with_reducible rfl)
        (try simp only [Act.put, List.getElem_toArray, List.getElem_cons_succ, List.getElem_cons_zero, List.setIfInBounds_toArray, List.set_cons_zero, List.set_cons_succ])
        refine wpAnyH_take (i := 16) (v := ?v16) rfl (by kernel_rfl) (by kernel_rfl) (by kernel_rfl) (fun _ _ _ h => h) (Or.inl ⟨by rfl, ?y16⟩) (by assumption) ?r16
        case y16 =>
          intro w hSw
          go_simp
          first | done | (with_reducible rfl)
        (try simp only [Act.put, List.getElem_toArray, List.getElem_cons_succ, List.getElem_cons_zero, List.setIfInBounds_toArray, List.set_cons_zero, List.set_cons_succ])
        refine wpAnyH_ready (rs := [17]) (by kernel_rfl) (by simp) ?_
        refine AllReadyH.cons rfl (fun K hK => ?_) AllReadyH.nil
        go_simp
        go_at_call 13
        refine (Hh1.out _).mono ?_
        rintro e w1 ⟨rfl, hb⟩
        refine hK.out _ _ ?_ (fun hHeld1 => ?_)
        · exact L2.keep hb ‹_›
        clear hK K
        (try simp only [Act.put, List.getElem_toArray, List.getElem_cons_succ, List.getElem_cons_zero, List.setIfInBounds_toArray, List.set_cons_zero, List.set_cons_succ])
        refine wpAnyH_take (i := 18) (v := ?v18) rfl (by kernel_rfl) (by kernel_rfl) (by kernel_rfl) (fun _ _ _ h => h) (Or.inl ⟨by rfl, ?y18⟩) (by assumption) ?r18
        case y18 =>
          intro w hSw
          go_simp
          first | done | (with_reducible rfl)
        (try simp only [Act.put, List.getElem_toArray, List.getElem_cons_succ, List.getElem_cons_zero, List.setIfInBounds_toArray, List.set_cons_zero, List.set_cons_succ])
        refine wpAnyH_take (i := 19) (v := ?v19) rfl (by kernel_rfl) (by kernel_rfl) (by kernel_rfl) (fun _ _ _ h => h) (Or.inl ⟨by rfl, ?y19⟩) (by assumption) ?r19
        case y19 =>
          intro w hSw
          go_simp
          first | done | (with_reducible rfl)
        (try simp only [Act.put, List.getElem_toArray, List.getElem_cons_succ, List.getElem_cons_zero, List.setIfInBounds_toArray, List.set_cons_zero, List.set_cons_succ])
        refine wpAnyH_done (by kernel_rfl) ?_ _
        have HX := Lib.hid hHeld1
        go_wp2
        go_roundw
        case rel => exact ⟨1, by omega, by go_num, HX.out⟩
        case measure => simp [intOf]; omega
      · obtain ⟨m, hkm⟩ : ∃ m, k = m + 1 := ⟨k - 1, by omega⟩
        have hm : m < s.size := by omega
        have hsm := HG.out m hm
        obtain ⟨d, hd0⟩ : ∃ d, d = (el p 256).getD m 0 := ⟨_, rfl⟩
        have hdc := HQ.out m (by omega)
        rw [← hd0] at hsm hdc
        rw [← hkm, ← hc0] at hdc
        have hd1 : (0 : Int) < (k : Int) := by omega
        have hge : ¬ (c : Int) ≤ (d : Int) := by omega
        have hge2 : decide ((c : Int) ≤ (d : Int)) = false := decide_eq_false hge
        have hcn : decide (c ≤ d) = false := decide_eq_false (by omega)
        have hkn : decide (0 < k) = true := decide_eq_true (by omega)
        have him : (m : Int) < s.size := by omega
        have him0 : (0 : Int) ≤ (m : Int) := by omega
        have W5 : Hid (IntKind.i64.wrap ((k : Int) - 1) = (m : Int)) := by
          show _ = _
          rw [IntWalk.i64_in _ (by omega)]
          omega
        have hw5 := W5.out
        clear hc0 hc hp hd0 hdc hkm
        go_wp2
        go_region_held3 (fun w' => L2 w p q w')
          (first | exact L2.drew HR.out | exact L2.keep hb ‹_›)
          (first
            | (go_at_call 13; refine (Hh1.out _).mono ?_; rintro e w1 ⟨rfl, hb⟩))
        all_goals
          rename_i hS
          have HX := Lib.hid hS
          clear hS hw5
          go_wp2
          go_roundw
          case rel => exact ⟨k + 1, by omega, by go_num, HX.out⟩
          case measure => simp [intOf]; omega
    · obtain rfl : k = s.size := by omega
      go_wp2
      go_region_held3 (fun w' => L2 w p q w')
        (first | exact L2.drew HR.out | exact L2.keep hb ‹_›)
        (first
          | (go_at_call 19; refine (H3.out _).mono ?_; rintro e w1 ⟨rfl, hb⟩)
          | (go_at_call 21; refine (H4.out _).mono ?_; rintro e w1 ⟨rfl, hb⟩)
          | (go_at_call 17; with_reducible refine (H5.out _).mono ?_; rintro e w1 ⟨rfl, hb⟩)
          | (go_at_call 17; with_reducible refine (H6.out _).mono ?_; rintro e w1 ⟨rfl, hb⟩))
      rename_i hS
      have HX := Lib.hid hS
      clear hS
      have w1' := W1.out
      have w2' := W2.out
      have w3' := W3.out
      have w4' := W4.out
      have w5' := W5.out
      have w6' := W6.out
      go_wp2
      go_region_held3 (fun w' => L2 w p q w')
        (first | exact L2.drew HX.out | exact L2.keep hb ‹_›)
        (first
          | (go_at_call 9; refine (H2.out _).mono ?_; rintro e w1 ⟨rfl, hb⟩)
          | (go_at_call 17; with_reducible refine (H7.out _).mono ?_; rintro e w1 ⟨rfl, hb⟩)
          | (go_at_call 17; with_reducible refine (H8.out _).mono ?_; rintro e w1 ⟨rfl, hb⟩)
          | (go_at_call 8; refine (HA.out _ (by exact L2.tab (w0 := w) (p := p) (q := q) (by assumption))).mono ?_; rintro e w1 ⟨rfl, hb⟩))
      rename_i hS
      have HY := Lib.hid hS.2.2.2
      clear hS
      go_wp2
      go_ret
      exact ⟨rfl, HY.out⟩
end Go.Proofs.YtaodginhdfjpaaaDoor
