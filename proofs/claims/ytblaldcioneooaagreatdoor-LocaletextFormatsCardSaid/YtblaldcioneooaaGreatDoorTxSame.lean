/- Lists of strings: SameTexts, and the reference's Lines. -/
import Derived.Test.YtblaldcioneooaaGreatDoorTxOwn
import Derived.Test.YtblaldcioneooaaGreatDoorTxLines
set_option linter.unusedVariables false
namespace Go.Proofs.YtblaldcioneooaaGreatDoor
open Go.RowKit

theorem eqs_mk (x y : List UInt8) : ((mk x).toList == (mk y).toList) = decide (x = y) := by
  rw [toList_mk, toList_mk]
  by_cases h : x = y
  · subst h; simp
  · rw [decide_eq_false h]; simpa using h
theorem SA.get {w : World} {a : Option Addr} {c : Nat} {xs : List (List UInt8)} (h3 : xs = [] ∨ ∃ b o, a = some ⟨b, o, none⟩ ∧ b < w.heap.size ∧ ∀ (j : Nat) (x : List UInt8), xs[j]? = some x → w.cell? ⟨b, o + j, none⟩ = some (.string (mk x))) (k : Nat) (hk : k < xs.length) :
    ∃ b o, a = some ⟨b, o, none⟩ ∧ b < w.heap.size ∧ w.cell? ⟨b, o + k, none⟩ = some (.string (mk xs[k])) := by
  rcases h3 with rfl | ⟨b, o, h, h5, h6⟩
  · exact absurd hk (Nat.not_lt_zero _)
  · exact ⟨b, o, h, h5, h6 k _ (List.getElem?_eq_getElem hk)⟩

/-! ### The reference's Lines -/
theorem tinfoS : (Tryz.prog.info? 9).map (fun i => (i.zero, i.size, i.bytes)) = some (some (.string ByteArray.empty), 1, 16) := by kernel_rfl
theorem sa_own {w : World} {B n : Nat} {v : Value} {xs : List (List UInt8)} (h : w.ownsRow B 9 1 v n (strs3 xs)) : SA w v xs := by
  have hl : xs.length = n := by have := h.1; rw [strs_len] at this; omega
  have h2 := h
  rcases h.2 with ⟨rfl, h0⟩ | ⟨g, cap, cur, rfl, hg, hh, hnc, _⟩
  · obtain rfl : xs = [] := List.eq_nil_of_length_eq_zero (by omega)
    exact ⟨none, 0, rfl, Nat.le_refl _, .inl rfl⟩
  · refine ⟨some ⟨g, 0, none⟩, cap, by rw [hl], by omega, .inr ⟨g, 0, rfl, (h2.lt g rfl).2, fun j x hx => ?_⟩⟩
    have := h2.cells (g := g) rfl j (.string (mk x)) (by unfold strs3; rw [List.getElem?_map, hx]; rfl)
    rw [add_j] at this
    rw [Nat.zero_add]; exact this
theorem own_sapp {w : World} {B n m : Nat} {v : Value} {l r : List (List UInt8)} {vs : List Value} (h : w.ownsRow B 9 1 v (n + m) (strs3 l ++ vs)) (hv : vs = strs3 r) : w.ownsRow B 9 1 v (n + m) (strs3 (l ++ r)) := by
  rw [strs_app, ← hv]; exact h
theorem strs_ext (s : ByteArray) (j k : Nat) : ([.string (s.extract j k)] : List Value) = strs3 [(s.data.toList.drop j).take (k - j)] := by
  rw [ext_mid]; rfl
theorem strs_ext_end (s : ByteArray) (j : Nat) : ([.string (s.extract j s.size)] : List Value) = strs3 [s.data.toList.drop j] := by
  rw [ext_drop]; rfl

set_option maxHeartbeats 1000000 in
theorem rlines_any (s : ByteArray) (w : World) (hs : s.size ≤ 4294967280) :
    Calls Tryz.prog 14 #[.string s] w fun e w' => ∃ v, e = .returned (.tuple #[v, .bool (lend s.data.toList)]) ∧ SA w' v (lin s.data.toList) ∧ Below w.heap.size w w' := by
  go_enter Tryz.func14, Tryz.ntmps14
  go_wp2
  go_loopw [4, 5, 6] (fun v f i wr => ∃ (k j n : Nat) (sv : Value) (done : List (List UInt8)), sv = v ∧ k ≤ s.size ∧ j ≤ k ∧ n ≤ j ∧ i = .int .i64 k ∧ f = .int .i64 j ∧
      Hid (wr.ownsRow w.heap.size 9 1 sv n (strs3 done)) ∧ Hid (Below w.heap.size w wr) ∧ Hid (done ++ segs isL (s.data.toList.drop j) = segs isL s.data.toList) ∧ Hid (no isL ((s.data.toList.drop j).take (k - j)) = true)) (fun _ _ i _ => s.size - (intOf i).toNat)
  case atStart => exact ⟨0, 0, 0, _, [], rfl, Nat.zero_le _, Nat.le_refl _, Nat.le_refl _, rfl, rfl, World.ownsRow_nil _ _ _ _, Below.refl _ _, rfl, rfl⟩
  case round =>
    obtain ⟨k, j, n, v0, done, rfl, hk, hj, hn, rfl, rfl, hown, hb, hsg, hno⟩ := hrel
    have hBs := hb.out.size
    by_cases hlt : k < s.size
    · have hlt' : k < s.data.toList.length := by rw [size_len]; exact hlt
      have hg : s.data.toList[k] = s[k] := rfl
      have hq := isL_int s[k]
      rcases ttf (isL s[k]) with h0 | h0
      · rw [h0] at hq
        have hq' := hq.symm
        have HI := Lib.hid (strs_ext s j k)
        have HS : Hid (done ++ [(s.data.toList.drop j).take (k - j)] ++ segs isL (s.data.toList.drop (k + 1)) = segs isL s.data.toList) := by
          show _ = _
          rw [← hsg.out, segs_cut s.data.toList j k hj hlt' hno.out (by rw [hg]; exact h0)]; simp
        have HN : Hid (no isL ((s.data.toList.drop (k + 1)).take (k + 1 - (k + 1))) = true) := by
          show _ = true
          rw [Nat.sub_self]; rfl
        clear hsg hno hq hg h0
        go_wp2_with (first | (at_builtin; refine app_lit 40 9 (.string ByteArray.empty) 16 Tryz.underlying40 tinfoS rfl wr rfl _ _ rfl w.heap.size v0 _ _ _ _ rfl rfl hown.out rfl rfl ?c1 hBs ?c2 ?c3 ?_))
        case c1 => simp [Value.oneCell']
        case c2 => unfold maxLen; omega
        case c3 => omega
        intro v' w1 hown' hb'
        have HW := Lib.hid (own_sapp hown' HI.out)
        have HB := Lib.hid (hb' w hb.out)
        clear hown' hb'
        go_wp2
        go_roundw
        case rel => exact ⟨k + 1, k + 1, n + 1, _, _, rfl, by omega, by omega, by omega, by go_num, by go_num, HW.out, HB.out, HS.out, HN.out⟩
        case measure => simp [intOf]; omega
      · rw [h0] at hq
        have hq' := hq.symm
        have HN : Hid (no isL ((s.data.toList.drop j).take (k + 1 - j)) = true) := no_step isL s.data.toList j k hj hlt' hno.out (by rw [hg]; exact h0)
        clear hno hq hg h0
        go_wp2
        go_roundw
        case rel => exact ⟨k + 1, j, n, _, _, rfl, by omega, by omega, by omega, by go_num, rfl, hown.out, hb.out, hsg.out, HN.out⟩
        case measure => simp [intOf]; omega
    · obtain rfl : k = s.size := by omega
      have hna := drop_all isL s.data.toList j s.size (by rw [size_len]; exact Nat.le_refl _) hno.out
      have hs1 := segs_no isL _ hna
      have hs2 := hsg.out
      rw [hs1] at hs2
      have HF := Lib.hid (lin_of s.data.toList done _ hs2.symm)
      by_cases hj2 : j < s.size
      · have hne : s.data.toList.drop j ≠ [] := fun e => by
          have := congrArg List.length e
          rw [List.length_drop, size_len] at this; simp at this; omega
        obtain ⟨f1, f2⟩ := HF.out.2 hne
        have HI := Lib.hid (strs_ext_end s j)
        have F1 := Lib.hid f1
        have F2 := Lib.hid f2
        clear hs1 hs2 hna hno hsg HF hne f1 f2
        go_wp2_with (first | (at_builtin; refine app_lit 40 9 (.string ByteArray.empty) 16 Tryz.underlying40 tinfoS rfl wr rfl _ _ rfl w.heap.size v0 _ _ _ _ rfl rfl hown.out rfl rfl ?c1 hBs ?c2 ?c3 ?_))
        case c1 => simp [Value.oneCell']
        case c2 => unfold maxLen; omega
        case c3 => omega
        intro v' w1 hown' hb'
        have HW := Lib.hid (own_sapp hown' HI.out)
        have HB := Lib.hid (hb' w hb.out)
        clear hown' hb'
        go_wp2
        go_ret2
        refine ⟨v', ret_vb rfl F2.out.symm, ?_, HB.out⟩
        rw [F1.out]; exact sa_own HW.out
      · have hne : s.data.toList.drop j = [] := List.drop_eq_nil_of_le (by rw [size_len]; omega)
        obtain ⟨f1, f2⟩ := HF.out.1 hne
        have F1 := Lib.hid f1
        have F2 := Lib.hid f2
        clear hs1 hs2 hna hno hsg HF hne f1 f2
        go_wp2
        go_ret2
        refine ⟨v0, ret_vb rfl F2.out.symm, ?_, hb.out⟩
        rw [F1.out]; exact sa_own hown.out
end Go.Proofs.YtblaldcioneooaaGreatDoor
