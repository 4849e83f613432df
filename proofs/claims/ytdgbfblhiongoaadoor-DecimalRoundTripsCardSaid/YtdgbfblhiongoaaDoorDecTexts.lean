/- The laws of layer 2 on texts: against the reference, and that reading and writing undo each other. -/
import Derived.Test.YtdgbfblhiongoaaDoorDecPrefixS
import Derived.Test.YtdgbfblhiongoaaDoorDecFormatR
import Derived.Test.YtdgbfblhiongoaaDoorDecLaws
namespace Go.Proofs.YtdgbfblhiongoaaDoor
open Go.RowKit

set_option maxHeartbeats 400000 in
theorem law_texts (s : ByteArray) (d : Int) (w : World) (hs : s.size ≤ maxLen) (hU : unitsAt w) :
    Calls Tryd.prog 6 #[.string s, .int .i64 d] w fun e w' => e = .returned (.bool true) ∧ Below w.heap.size w w' := by
  have H1 : Hid (∀ w, unitsAt w → Calls Tryd.prog 32 #[.string s] w fun e w' => e = .returned (.tuple #[.int .i64 (pV s.data.toList), .int .i64 (pE s.data.toList)]) ∧ Below w.heap.size w w') := fun w h => dparse_any s w hs h
  have H2 : Hid (∀ w, Calls Tryd.prog 33 #[.string s] w fun e w' => e = .returned (.tuple #[.int .i64 (pV s.data.toList), .int .i64 (pE s.data.toList)]) ∧ w = w') := fun w => rdparse_any s w hs
  have H3 : Hid (∀ w, unitsAt w → Calls Tryd.prog 34 #[.string s] w fun e w' => e = .returned (.tuple #[.int .i64 (xV s.data.toList), .int .i64 (xN s.data.toList)]) ∧ Below w.heap.size w w') := fun w h => dprefix_any s w hs h
  have H4 : Hid (∀ w, Calls Tryd.prog 35 #[.string s] w fun e w' => e = .returned (.tuple #[.int .i64 (xV s.data.toList), .int .i64 (xN s.data.toList)]) ∧ w = w') := fun w => rdprefix_any s w hs
  have H5 : Hid (∀ w, unitsAt w → Calls Tryd.prog 36 #[.int .i64 d] w fun e w' => e = .returned (.string (mk (decT (nearV d)))) ∧ Below w.heap.size w w') := fun w h => dfmt_any d w h
  have H6 : Hid (∀ w, Calls Tryd.prog 37 #[.int .i64 d] w fun e w' => e = .returned (.string (mk (decT (nearV d)))) ∧ Below w.heap.size w w') := fun w => rdfmt_any d w
  have HU := Lib.hid hU
  clear hU hs
  generalize pV s.data.toList = x1 at *
  generalize pE s.data.toList = x2 at *
  generalize xV s.data.toList = y1 at *
  generalize xN s.data.toList = y2 at *
  generalize mk (decT (nearV d)) = t at *
  go_enter Tryd.func6, Tryd.ntmps6
  go_wp2_with (first | (go_at_call 32; refine (H1.out _ HU.out).mono ?_; rintro e w1 ⟨rfl, hb1⟩) | (go_at_call 33; refine (H2.out _).mono ?_; rintro e w' ⟨rfl, rfl⟩) | (go_at_call 34; refine (H3.out _ (HU.out.below hb1)).mono ?_; rintro e w2 ⟨rfl, hb2⟩) | (go_at_call 35; refine (H4.out _).mono ?_; rintro e w' ⟨rfl, rfl⟩) | (go_at_call 36; refine (H5.out _ ((HU.out.below hb1).below hb2)).mono ?_; rintro e w3 ⟨rfl, hb3⟩) | (go_at_call 37; refine (H6.out _).mono ?_; rintro e w4 ⟨rfl, hb4⟩) | (go_at_call 23; refine (awake_any _ ((((HU.out.below hb1).below hb2).below hb3).below hb4)).mono ?_; rintro e w5 ⟨rfl, hb5⟩))
  go_ret
  have s1 := hb1.size
  have s2 := hb2.size
  have s3 := hb3.size
  have s4 := hb4.size
  exact ⟨rfl, (((hb1.trans (hb2.mono s1)).trans (hb3.mono (by omega))).trans (hb4.mono (by omega))).trans (hb5.mono (by omega))⟩

/-- The walk of the law of round trips: x, y are what the text is read as. -/
theorem trip_walk (d x y : Int) (s t : ByteArray) (w : World) (_htl : (t.size : Int) ≤ 100) (hc : (y == 0) = false ∨ (y == 0) = true ∧ Hid (y = 0)) (hd : d < -10000000000000 ∨ (¬ d < -10000000000000 ∧ 10000000000000 < d) ∨ (¬ d < -10000000000000 ∧ ¬ 10000000000000 < d))
    (HU : Hid (unitsAt w))
    (H1 : Hid (∀ w, unitsAt w → Calls Tryd.prog 32 #[.string s] w fun e w' => e = .returned (.tuple #[.int .i64 x, .int .i64 y]) ∧ Below w.heap.size w w'))
    (H2 : Hid (y = 0 → ∀ w, unitsAt w → Calls Tryd.prog 36 #[.int .i64 x] w fun e w' => e = .returned (.string s) ∧ Below w.heap.size w w'))
    (H3 : Hid (y = 0 → ∀ w, Calls Tryd.prog 21 #[.int .i64 x] w fun e w' => e = .returned (.bool true) ∧ w = w'))
    (H4 : Hid (¬ d < -10000000000000 → ¬ 10000000000000 < d → ∀ w, unitsAt w → Calls Tryd.prog 36 #[.int .i64 d] w fun e w' => e = .returned (.string t) ∧ Below w.heap.size w w'))
    (H5 : Hid (¬ d < -10000000000000 → ¬ 10000000000000 < d → ∀ w, unitsAt w → Calls Tryd.prog 32 #[.string t] w fun e w' => e = .returned (.tuple #[.int .i64 d, .int .i64 0]) ∧ Below w.heap.size w w'))
    (H6 : Hid (¬ d < -10000000000000 → ¬ 10000000000000 < d → ∀ w, unitsAt w → Calls Tryd.prog 34 #[.string t] w fun e w' => e = .returned (.tuple #[.int .i64 d, .int .i64 t.size]) ∧ Below w.heap.size w w')) :
    Calls Tryd.prog 7 #[.int .i64 d, .string s] w fun e w' => e = .returned (.bool true) ∧ Below w.heap.size w w' := by
  rcases hc with hc | ⟨hc, hy⟩ <;> rcases hd with hd | ⟨hd, hd2⟩ | ⟨hd, hd2⟩
  · go_enter Tryd.func7, Tryd.ntmps7
    go_wp2_with (first | (go_at_call 32; refine (H1.out _ HU.out).mono ?_; rintro e w1 ⟨rfl, hb1⟩) | (go_at_call 23; refine (awake_any _ (HU.out.below hb1)).mono ?_; rintro e w5 ⟨rfl, hb5⟩))
    all_goals first | (exfalso; omega) | (go_ret; have s1 := hb1.size; exact ⟨rfl, hb1.trans (hb5.mono s1)⟩)
  · go_enter Tryd.func7, Tryd.ntmps7
    go_wp2_with (first | (go_at_call 32; refine (H1.out _ HU.out).mono ?_; rintro e w1 ⟨rfl, hb1⟩) | (go_at_call 23; refine (awake_any _ (HU.out.below hb1)).mono ?_; rintro e w5 ⟨rfl, hb5⟩))
    all_goals first | (exfalso; omega) | (go_ret; have s1 := hb1.size; exact ⟨rfl, hb1.trans (hb5.mono s1)⟩)
  · have K4 := Lib.hid (H4.out hd hd2)
    have K5 := Lib.hid (H5.out hd hd2)
    have K6 := Lib.hid (H6.out hd hd2)
    go_enter Tryd.func7, Tryd.ntmps7
    go_wp2_with (first | (go_at_call 32; first | ((with_reducible refine (H1.out _ HU.out).mono ?_); rintro e w1 ⟨rfl, hb1⟩) | ((with_reducible refine (K5.out _ ((HU.out.below hb1).below hb2)).mono ?_); rintro e w3 ⟨rfl, hb3⟩)) | (go_at_call 36; refine (K4.out _ (HU.out.below hb1)).mono ?_; rintro e w2 ⟨rfl, hb2⟩) | (go_at_call 34; refine (K6.out _ (((HU.out.below hb1).below hb2).below hb3)).mono ?_; rintro e w4 ⟨rfl, hb4⟩) | (go_at_call 23; refine (awake_any _ ((((HU.out.below hb1).below hb2).below hb3).below hb4)).mono ?_; rintro e w5 ⟨rfl, hb5⟩))
    all_goals first
      | (exfalso; omega)
      | (go_ret
         have s1 := hb1.size
         have s2 := hb2.size
         have s3 := hb3.size
         have s4 := hb4.size
         exact ⟨rfl, (((hb1.trans (hb2.mono s1)).trans (hb3.mono (by omega))).trans (hb4.mono (by omega))).trans (hb5.mono (by omega))⟩)
  · have K2 := Lib.hid (H2.out hy.out)
    have K3 := Lib.hid (H3.out hy.out)
    go_enter Tryd.func7, Tryd.ntmps7
    go_wp2_with (first | (go_at_call 32; refine (H1.out _ HU.out).mono ?_; rintro e w1 ⟨rfl, hb1⟩) | (go_at_call 36; refine (K2.out _ (HU.out.below hb1)).mono ?_; rintro e w2 ⟨rfl, hb2⟩) | (go_at_call 21; refine (K3.out _).mono ?_; rintro e w' ⟨rfl, rfl⟩) | (go_at_call 23; refine (awake_any _ ((HU.out.below hb1).below hb2)).mono ?_; rintro e w5 ⟨rfl, hb5⟩))
    all_goals first
      | (exfalso; omega)
      | (go_ret
         have s1 := hb1.size
         have s2 := hb2.size
         exact ⟨rfl, (hb1.trans (hb2.mono s1)).trans (hb5.mono (by omega))⟩)
  · have K2 := Lib.hid (H2.out hy.out)
    have K3 := Lib.hid (H3.out hy.out)
    go_enter Tryd.func7, Tryd.ntmps7
    go_wp2_with (first | (go_at_call 32; refine (H1.out _ HU.out).mono ?_; rintro e w1 ⟨rfl, hb1⟩) | (go_at_call 36; refine (K2.out _ (HU.out.below hb1)).mono ?_; rintro e w2 ⟨rfl, hb2⟩) | (go_at_call 21; refine (K3.out _).mono ?_; rintro e w' ⟨rfl, rfl⟩) | (go_at_call 23; refine (awake_any _ ((HU.out.below hb1).below hb2)).mono ?_; rintro e w5 ⟨rfl, hb5⟩))
    all_goals first
      | (exfalso; omega)
      | (go_ret
         have s1 := hb1.size
         have s2 := hb2.size
         exact ⟨rfl, (hb1.trans (hb2.mono s1)).trans (hb5.mono (by omega))⟩)
  · have K2 := Lib.hid (H2.out hy.out)
    have K3 := Lib.hid (H3.out hy.out)
    have K4 := Lib.hid (H4.out hd hd2)
    have K5 := Lib.hid (H5.out hd hd2)
    have K6 := Lib.hid (H6.out hd hd2)
    go_enter Tryd.func7, Tryd.ntmps7
    go_wp2_with (first | (go_at_call 32; first | ((with_reducible refine (H1.out _ HU.out).mono ?_); rintro e w1 ⟨rfl, hb1⟩) | ((with_reducible refine (K5.out _ (((HU.out.below hb1).below hb2).below hb6)).mono ?_); rintro e w3 ⟨rfl, hb3⟩)) | (go_at_call 36; first | ((with_reducible refine (K2.out _ (HU.out.below hb1)).mono ?_); rintro e w2 ⟨rfl, hb2⟩) | ((with_reducible refine (K4.out _ ((HU.out.below hb1).below hb2)).mono ?_); rintro e w6 ⟨rfl, hb6⟩)) | (go_at_call 21; refine (K3.out _).mono ?_; rintro e w' ⟨rfl, rfl⟩) | (go_at_call 34; refine (K6.out _ ((((HU.out.below hb1).below hb2).below hb6).below hb3)).mono ?_; rintro e w4 ⟨rfl, hb4⟩) | (go_at_call 23; refine (awake_any _ (((((HU.out.below hb1).below hb2).below hb6).below hb3).below hb4)).mono ?_; rintro e w5 ⟨rfl, hb5⟩))
    all_goals first
      | (exfalso; omega)
      | (go_ret
         have s1 := hb1.size
         have s2 := hb2.size
         have s6 := hb6.size
         have s3 := hb3.size
         have s4 := hb4.size
         exact ⟨rfl, ((((hb1.trans (hb2.mono s1)).trans (hb6.mono (by omega))).trans (hb3.mono (by omega))).trans (hb4.mono (by omega))).trans (hb5.mono (by omega))⟩)

theorem decT_len (d : Int) (hv : vB d = true) : (decT d).length ≤ 100 := by
  have h := (vB_iff d).1 hv
  have h1 := dec_len (d.natAbs / 10000) (by omega)
  have h2 := frT_len (d.natAbs % 10000)
  unfold decT
  rw [List.length_append, List.length_append]
  split <;> simp <;> omega

theorem law_trips (d : Int) (s : ByteArray) (w : World) (hs : s.size ≤ maxLen) (hU : unitsAt w) :
    Calls Tryd.prog 7 #[.int .i64 d, .string s] w fun e w' => e = .returned (.bool true) ∧ Below w.heap.size w w' := by
  have hv : ¬ d < -10000000000000 → ¬ 10000000000000 < d → vB d = true := fun h1 h2 => (vB_iff d).2 ⟨by omega, by omega⟩
  by_cases hd : vB d = true
  · have hlen := decT_len d hd
    have hm : (mk (decT d)).size ≤ maxLen := by rw [mk_size]; exact Nat.le_trans hlen (by decide)
    refine trip_walk d (pV s.data.toList) (pE s.data.toList) s (mk (decT d)) w (by rw [mk_size]; omega) ?_ (by omega) hU (fun w h => dparse_any s w hs h) ?_ ?_ ?_ ?_ ?_
    · by_cases h : pE s.data.toList = 0
      · exact .inr ⟨by simpa using h, h⟩
      · exact .inl (by simpa using h)
    · intro h w hu
      obtain ⟨h1, h2⟩ := decT_parse _ h
      have := dfmt_any (pV s.data.toList) w hu
      rw [near_same _ h1, h2] at this; exact this
    · intro h w
      have := valid_any (pV s.data.toList) w
      rw [(decT_parse _ h).1] at this; exact this
    · intro _ _ w hu
      have := dfmt_any d w hu
      rw [near_same _ hd] at this; exact this
    · intro _ _ w hu
      have := dparse_any (mk (decT d)) w hm hu
      rw [mk_data, (parse_decT d hd).1, (parse_decT d hd).2] at this; exact this
    · intro _ _ w hu
      have := dprefix_any (mk (decT d)) w hm hu
      rw [mk_data, (prefix_decT d hd).1, (prefix_decT d hd).2] at this; exact this
  · have hn := (vB_not d).1 (by simpa using hd)
    refine trip_walk d (pV s.data.toList) (pE s.data.toList) s ⟨#[]⟩ w (by decide) ?_ (by omega) hU (fun w h => dparse_any s w hs h) ?_ ?_ (fun h1 h2 => absurd (hv h1 h2) hd) (fun h1 h2 => absurd (hv h1 h2) hd) (fun h1 h2 => absurd (hv h1 h2) hd)
    · by_cases h : pE s.data.toList = 0
      · exact .inr ⟨by simpa using h, h⟩
      · exact .inl (by simpa using h)
    · intro h w hu
      obtain ⟨h1, h2⟩ := decT_parse _ h
      have := dfmt_any (pV s.data.toList) w hu
      rw [near_same _ h1, h2] at this; exact this
    · intro h w
      have := valid_any (pV s.data.toList) w
      rw [(decT_parse _ h).1] at this; exact this

end Go.Proofs.YtdgbfblhiongoaaDoor
