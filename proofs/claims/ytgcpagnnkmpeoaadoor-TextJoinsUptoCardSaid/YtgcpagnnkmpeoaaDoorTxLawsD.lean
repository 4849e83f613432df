/- The law of layer 3 on lines and joined lines. -/
import Derived.Test.YtgcpagnnkmpeoaaDoorTxLawsB
set_option linter.unusedVariables false
namespace Go.Proofs.YtgcpagnnkmpeoaaDoor
open Go.RowKit

theorem strs_bound2 (X : List ByteArray) (q : Nat) (h : (X.map fun x => x.data.toList.length).sum + X.length ≤ q) (hq : q ≤ 1048576) : ((X.map fun x => x.data.toList).map (·.length)).sum + (X.map fun x => x.data.toList).length ≤ 1048576 := by
  rw [List.map_map, List.length_map]
  exact Nat.le_trans h hq
theorem jn_bound (l : List UInt8) : ((lin l).map (·.length)).sum + (lin l).length ≤ 2 * l.length + 1 := by
  have := lin_le l; omega

set_option maxHeartbeats 1000000 in
theorem law_joins (s : ByteArray) (v : Value) (ys : List (List UInt8)) (b : Bool) (w : World) (hs : s.size ≤ 1048576) (hv : SA w v ys) (hN : (ys.map (·.length)).sum + ys.length ≤ 1048576) :
    Calls Tryd.prog 5 #[.string s, v, .bool b] w fun e w' => e = .returned (.bool true) ∧ Below w.heap.size w w' := by
  have H1 : Hid (∀ w, Calls Tryd.prog 11 #[.string s] w fun e w' => ∃ v, e = .returned (.tuple #[v, .bool (lend s.data.toList)]) ∧ SA w' v (lin s.data.toList) ∧ Below w.heap.size w w') := fun w => lines_any s w (by omega)
  have H2 : Hid (∀ v w, SA w v (lin s.data.toList) → Calls Tryd.prog 17 #[v, .bool (lend s.data.toList)] w fun e w' => e = .returned (.string s) ∧ Below w.heap.size w w') := fun v w h => by
    have := tjoin_any v (lin s.data.toList) (lend s.data.toList) w h (by have := jn_bound s.data.toList; rw [size_len] at this; omega)
    rw [jn_lin] at this
    exact this
  have H3 : Hid (∀ w, SA w v ys → Calls Tryd.prog 19 #[v, .bool b] w fun e w' => e = .returned (.bool (plainL ys b)) ∧ w = w') := fun w h => plain_any v ys b w h (by omega)
  have H4 : Hid (∀ w, SA w v ys → Calls Tryd.prog 17 #[v, .bool b] w fun e w' => e = .returned (.string (mk (jn ys b))) ∧ Below w.heap.size w w') := fun w h => tjoin_any v ys b w h (by omega)
  have hjl := jn_len ys b
  have H5 : Hid (plainL ys b = true → ∀ w, Calls Tryd.prog 11 #[.string (mk (jn ys b))] w fun e w' => ∃ v, e = .returned (.tuple #[v, .bool b]) ∧ SA w' v ys ∧ Below w.heap.size w w') := fun hp w => by
    have := lines_any (mk (jn ys b)) w (by rw [mk_size]; omega)
    rw [mk_data] at this
    obtain ⟨e1, e2⟩ := lin_jn ys b hp
    rw [e1, e2] at this
    exact this
  have H6 : Hid (∀ v1 w, SA w v1 ys → SA w v ys → Calls Tryd.prog 13 #[v1, v] w fun e w' => e = .returned (.bool true) ∧ Below w.heap.size w w') := fun v1 w h1 h2 => by
    have := same_any v1 v ys ys w h1 h2 (by omega)
    rw [decide_eq_true rfl] at this
    exact this
  have HA := Lib.hid awake_any
  have HV := Lib.hid hv
  have hq : (s.toList == s.toList) = true := by simp
  generalize mk (jn ys b) = T at *
  generalize lin s.data.toList = xs at *
  generalize lend s.data.toList = le at *
  rcases tf (plainL ys b) with hp | hp
  · have H5' := Lib.hid (H5.out hp)
    rw [hp] at H3
    clear hp hv hjl H5
    cases b
    all_goals
      go_enter Tryd.func5, Tryd.ntmps5
      go_wp2_with (first
        | (go_at_call 11; with_reducible refine (H1.out _).mono ?_; rintro e w1 ⟨v1, rfl, hs1, hb1⟩; have HS1 := Lib.hid hs1; have HB1 := Lib.hid hb1; clear hs1 hb1)
        | (go_at_call 17; with_reducible refine (H2.out _ _ HS1.out).mono ?_; rintro e w2 ⟨rfl, hb2⟩; have HB2 := Lib.hid (bnext HB1.out hb2); clear hb2)
        | (go_at_call 19; refine (H3.out _ (HV.out.below HB2.out)).mono ?_; rintro e w3 ⟨rfl, rfl⟩)
        | (go_at_call 17; with_reducible refine (H4.out _ (HV.out.below HB2.out)).mono ?_; rintro e w4 ⟨rfl, hb4⟩; have HB4 := Lib.hid (bnext HB2.out hb4); clear hb4)
        | (go_at_call 11; with_reducible refine (H5'.out _).mono ?_; rintro e w5 ⟨v5, rfl, hs5, hb5⟩; have HS5 := Lib.hid hs5; have HB5 := Lib.hid (bnext HB4.out hb5); clear hs5 hb5)
        | (go_at_call 13; refine (H6.out _ _ HS5.out (HV.out.below HB5.out)).mono ?_; rintro e w6 ⟨rfl, hb6⟩; have HB6 := Lib.hid (bnext HB5.out hb6); clear hb6)
        | (go_at_call 16; refine (HA.out _).mono ?_; rintro e w7 ⟨rfl, hb7⟩; have HB7 := Lib.hid (bnext HB6.out hb7); clear hb7))
      go_ret
      exact ⟨rfl, HB7.out⟩
  · rw [hp] at H3
    clear hp hv hjl H5
    go_enter Tryd.func5, Tryd.ntmps5
    go_wp2_with (first
      | (go_at_call 11; with_reducible refine (H1.out _).mono ?_; rintro e w1 ⟨v1, rfl, hs1, hb1⟩; have HS1 := Lib.hid hs1; have HB1 := Lib.hid hb1; clear hs1 hb1)
      | (go_at_call 17; with_reducible refine (H2.out _ _ HS1.out).mono ?_; rintro e w2 ⟨rfl, hb2⟩; have HB2 := Lib.hid (bnext HB1.out hb2); clear hb2)
      | (go_at_call 19; refine (H3.out _ (HV.out.below HB2.out)).mono ?_; rintro e w3 ⟨rfl, rfl⟩)
      | (go_at_call 16; refine (HA.out _).mono ?_; rintro e w7 ⟨rfl, hb7⟩; have HB7 := Lib.hid (bnext HB2.out hb7); clear hb7))
    go_ret
    exact ⟨rfl, HB7.out⟩
end Go.Proofs.YtgcpagnnkmpeoaaDoor
