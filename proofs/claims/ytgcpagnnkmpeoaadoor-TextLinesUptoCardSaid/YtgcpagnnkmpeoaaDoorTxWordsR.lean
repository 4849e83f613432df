/- Words, as the reference has it; and the law on lines and words. -/
import Derived.Test.YtgcpagnnkmpeoaaDoorTxWords
import Derived.Test.YtgcpagnnkmpeoaaDoorTxAwake
set_option linter.unusedVariables false
namespace Go.Proofs.YtgcpagnnkmpeoaaDoor
open Go.RowKit

/-- What the reference knows at k: no word has begun, or one has at j. -/
def RW (l : List UInt8) (done : List (List UInt8)) (m : Int) (k n : Nat) : Prop :=
  (m = -1 ∧ done ++ wds (l.drop k) = wds l) ∨ ∃ j : Nat, m = j ∧ j < k ∧ n ≤ j ∧ done ++ wds (l.drop j) = wds l ∧ no sp ((l.drop j).take (k - j)) = true

set_option maxHeartbeats 2000000 in
theorem rwords_any (s : ByteArray) (w : World) (hs : s.size ≤ 4294967280) :
    Calls Tryd.prog 15 #[.string s] w fun e w' => ∃ v, e = .returned v ∧ SA w' v (wds s.data.toList) ∧ Below w.heap.size w w' := by
  go_enter Tryd.func15, Tryd.ntmps15
  go_wp2
  go_loopw [3, 4, 5] (fun v f i wr => ∃ (k n : Nat) (m : Int) (sv : Value) (done : List (List UInt8)), sv = v ∧ k ≤ s.size ∧ n ≤ k ∧ i = .int .i64 k ∧ f = .int .i64 m ∧
      Hid (wr.ownsRow w.heap.size 9 1 sv n (strs3 done)) ∧ Hid (Below w.heap.size w wr) ∧
      Hid (RW s.data.toList done m k n)) (fun _ _ i _ => s.size - (intOf i).toNat)
  case atStart => exact ⟨0, 0, -1, _, [], rfl, Nat.zero_le _, Nat.le_refl _, rfl, rfl, World.ownsRow_nil _ _ _ _, Below.refl _ _, .inl ⟨rfl, rfl⟩⟩
  case round =>
    obtain ⟨k, n, m, v0, done, rfl, hk, hn, rfl, rfl, hown, hb, hm⟩ := hrel
    have hBs := hb.out.size
    by_cases hlt : k < s.size
    · have hlt' : k < s.data.toList.length := by rw [size_len]; exact hlt
      have hg : s.data.toList[k] = s[k] := rfl
      have HSp : Hid (∀ w, Calls Tryd.prog 30 #[.int .u8 (s[k].toNat : Int)] w fun e w' => e = .returned (.bool (sp s[k])) ∧ w = w') := fun w => space_any s[k] w
      rcases tf (sp s[k]) with h0 | h0
      · rw [h0] at HSp
        rcases hm.out with ⟨rfl, hsg⟩ | ⟨j, rfl, hj, hnj, hsg, hno⟩
        · have HN : Hid (RW s.data.toList done (-1) (k + 1) n) :=
            .inl ⟨rfl, by rw [← hsg, wds_skip _ k hlt' (by rw [hg]; exact h0)]⟩
          clear hm hsg hg h0
          go_wp2_with (first | (go_at_call 30; refine (HSp.out _).mono ?_; rintro e w' ⟨rfl, rfl⟩))
          go_roundw
          case rel => exact ⟨k + 1, n, -1, _, _, rfl, by omega, by omega, by go_num, rfl, hown.out, hb.out, HN.out⟩
          case measure => simp [intOf]; omega
        · have HN : Hid (RW s.data.toList (done ++ [(s.data.toList.drop j).take (k - j)]) (-1) (k + 1) (n + 1)) :=
            .inl ⟨rfl, by rw [← hsg, wds_hit s.data.toList j k (by omega) hlt' hno (by rw [hg]; exact h0), if_pos hj, List.append_assoc]⟩
          have HI := Lib.hid (strs_ext s j k)
          have hjk : (j : Int) ≤ (k : Int) := by omega
          have hj0 : ¬ (j : Int) < 0 := by omega
          clear hm hsg hno hg h0
          go_wp2_with (first
            | (go_at_call 30; refine (HSp.out _).mono ?_; rintro e w' ⟨rfl, rfl⟩)
            | (at_builtin; refine app_lit 22 9 (.string ByteArray.empty) 16 Tryd.underlying22 infoS rfl wr rfl _ _ rfl w.heap.size v0 _ _ _ _ rfl rfl hown.out rfl rfl ?c1 hBs ?c2 ?c3 ?_))
          case c1 => simp [Value.oneCell']
          case c2 => unfold maxLen; omega
          case c3 => omega
          intro v' w1 hown' hb'
          have HW := Lib.hid (own_sapp hown' HI.out)
          have HB := Lib.hid (hb' w hb.out)
          clear hown' hb'
          go_wp2
          go_roundw
          case rel => exact ⟨k + 1, n + 1, -1, _, _, rfl, by omega, by omega, by go_num, rfl, HW.out, HB.out, HN.out⟩
          case measure => simp [intOf]; omega
      · rw [h0] at HSp
        rcases hm.out with ⟨rfl, hsg⟩ | ⟨j, rfl, hj, hnj, hsg, hno⟩
        · have HN : Hid (RW s.data.toList done (k : Int) (k + 1) n) :=
            .inr ⟨k, rfl, Nat.lt_succ_self k, hn, hsg, no_step sp s.data.toList k k (Nat.le_refl _) hlt' (by rw [Nat.sub_self]; rfl) (by rw [hg]; exact h0)⟩
          clear hm hsg hg h0
          go_wp2_with (first | (go_at_call 30; refine (HSp.out _).mono ?_; rintro e w' ⟨rfl, rfl⟩))
          go_roundw
          case rel => exact ⟨k + 1, n, k, _, _, rfl, by omega, by omega, by go_num, rfl, hown.out, hb.out, HN.out⟩
          case measure => simp [intOf]; omega
        · have HN : Hid (RW s.data.toList done (j : Int) (k + 1) n) :=
            .inr ⟨j, rfl, by omega, hnj, hsg, no_step sp s.data.toList j k (by omega) hlt' hno (by rw [hg]; exact h0)⟩
          have hj0 : ¬ (j : Int) < 0 := by omega
          clear hm hsg hno hg h0
          go_wp2_with (first | (go_at_call 30; refine (HSp.out _).mono ?_; rintro e w' ⟨rfl, rfl⟩))
          go_roundw
          case rel => exact ⟨k + 1, n, j, _, _, rfl, by omega, by omega, by go_num, rfl, hown.out, hb.out, HN.out⟩
          case measure => simp [intOf]; omega
    · obtain rfl : k = s.size := by omega
      rcases hm.out with ⟨rfl, hsg⟩ | ⟨j, rfl, hj, hnj, hsg, hno⟩
      · have he : done = wds s.data.toList := by
          rw [← hsg, List.drop_eq_nil_of_le (by rw [size_len]; exact Nat.le_refl _)]
          show done = done ++ []
          rw [List.append_nil]
        have HE := Lib.hid he
        clear hm hsg he
        go_wp2
        go_ret
        refine ⟨v0, rfl, ?_, hb.out⟩
        rw [← HE.out]; exact sa_own hown.out
      · have hna := drop_all sp s.data.toList j s.size (by rw [size_len]; exact Nat.le_refl _) hno
        have he : done ++ [s.data.toList.drop j] = wds s.data.toList := by
          rw [← hsg, wds_no _ hna, if_neg]
          intro e
          have := congrArg List.length e
          rw [List.length_drop, size_len] at this; simp at this; omega
        have HE := Lib.hid he
        have HI := Lib.hid (strs_ext_end s j)
        have hj0 : ¬ (j : Int) < 0 := by omega
        clear hm hsg hno hna he
        go_wp2_with (first
          | (at_builtin; refine app_lit 22 9 (.string ByteArray.empty) 16 Tryd.underlying22 infoS rfl wr rfl _ _ rfl w.heap.size v0 _ _ _ _ rfl rfl hown.out rfl rfl ?c1 hBs ?c2 ?c3 ?_))
        case c1 => simp [Value.oneCell']
        case c2 => unfold maxLen; omega
        case c3 => omega
        intro v' w1 hown' hb'
        have HW := Lib.hid (own_sapp hown' HI.out)
        have HB := Lib.hid (hb' w hb.out)
        clear hown' hb'
        go_wp2
        go_ret
        refine ⟨v', rfl, ?_, HB.out⟩
        rw [← HE.out]; exact sa_own HW.out

set_option maxHeartbeats 2000000 in
theorem law_lines (s : ByteArray) (w : World) (hs : s.size ≤ 1048576) :
    Calls Tryd.prog 3 #[.string s] w fun e w' => e = .returned (.bool true) ∧ Below w.heap.size w w' := by
  have hl1 := (lin_le s.data.toList).1
  have hl2 := wds_count s.data.toList
  rw [size_len] at hl1 hl2
  have H1 : Hid (∀ w, Calls Tryd.prog 11 #[.string s] w fun e w' => ∃ v, e = .returned (.tuple #[v, .bool (lend s.data.toList)]) ∧ SA w' v (lin s.data.toList) ∧ Below w.heap.size w w') := fun w => lines_any s w (by omega)
  have H2 : Hid (∀ w, Calls Tryd.prog 12 #[.string s] w fun e w' => ∃ v, e = .returned (.tuple #[v, .bool (lend s.data.toList)]) ∧ SA w' v (lin s.data.toList) ∧ Below w.heap.size w w') := fun w => rlines_any s w (by omega)
  have H3 : Hid (∀ v1 v2 w, SA w v1 (lin s.data.toList) → SA w v2 (lin s.data.toList) → Calls Tryd.prog 13 #[v1, v2] w fun e w' => e = .returned (.bool true) ∧ Below w.heap.size w w') := fun v1 v2 w h1 h2 => by
    have := same_any v1 v2 _ _ w h1 h2 (by omega)
    rw [decide_eq_true rfl] at this
    exact this
  have H4 : Hid (∀ w, Calls Tryd.prog 14 #[.string s] w fun e w' => ∃ v, e = .returned v ∧ SA w' v (wds s.data.toList) ∧ Below w.heap.size w w') := fun w => (words_any s w (by omega)).mono fun e w' ⟨v, n, h1, h2, _, h3⟩ => ⟨v, h1, h2, h3⟩
  have H5 : Hid (∀ w, Calls Tryd.prog 15 #[.string s] w fun e w' => ∃ v, e = .returned v ∧ SA w' v (wds s.data.toList) ∧ Below w.heap.size w w') := fun w => rwords_any s w (by omega)
  have H6 : Hid (∀ v1 v2 w, SA w v1 (wds s.data.toList) → SA w v2 (wds s.data.toList) → Calls Tryd.prog 13 #[v1, v2] w fun e w' => e = .returned (.bool true) ∧ Below w.heap.size w w') := fun v1 v2 w h1 h2 => by
    have := same_any v1 v2 _ _ w h1 h2 (by omega)
    rw [decide_eq_true rfl] at this
    exact this
  have HA := Lib.hid awake_any
  generalize lin s.data.toList = xs at *
  generalize wds s.data.toList = ys at *
  generalize lend s.data.toList = le at *
  cases le
  all_goals
    go_enter Tryd.func3, Tryd.ntmps3
    go_wp2_with (first
      | (go_at_call 11; refine (H1.out _).mono ?_; rintro e w1 ⟨v1, rfl, hs1, hb1⟩; have HS1 := Lib.hid hs1; have HB1 := Lib.hid hb1; clear hs1 hb1)
      | (go_at_call 12; refine (H2.out _).mono ?_; rintro e w2 ⟨v2, rfl, hs2, hb2⟩; have HS2 := Lib.hid hs2; have HS1b := Lib.hid (HS1.out.below hb2); have HB2 := Lib.hid (bnext HB1.out hb2); clear hs2 hb2)
      | (go_at_call 13; with_reducible refine (H3.out _ _ _ HS1b.out HS2.out).mono ?_; rintro e w3 ⟨rfl, hb3⟩; have HB3 := Lib.hid (bnext HB2.out hb3); clear hb3)
      | (go_at_call 14; refine (H4.out _).mono ?_; rintro e w4 ⟨v4, rfl, hs4, hb4⟩; have HS4 := Lib.hid hs4; have HB4 := Lib.hid (bnext HB3.out hb4); clear hs4 hb4)
      | (go_at_call 15; refine (H5.out _).mono ?_; rintro e w5 ⟨v5, rfl, hs5, hb5⟩; have HS5 := Lib.hid hs5; have HS4b := Lib.hid (HS4.out.below hb5); have HB5 := Lib.hid (bnext HB4.out hb5); clear hs5 hb5)
      | (go_at_call 13; with_reducible refine (H6.out _ _ _ HS4b.out HS5.out).mono ?_; rintro e w6 ⟨rfl, hb6⟩; have HB6 := Lib.hid (bnext HB5.out hb6); clear hb6)
      | (go_at_call 16; refine (HA.out _).mono ?_; rintro e w7 ⟨rfl, hb7⟩; have HB7 := Lib.hid (bnext HB6.out hb7); clear hb7))
    go_ret
    exact ⟨rfl, HB7.out⟩
end Go.Proofs.YtgcpagnnkmpeoaaDoor
