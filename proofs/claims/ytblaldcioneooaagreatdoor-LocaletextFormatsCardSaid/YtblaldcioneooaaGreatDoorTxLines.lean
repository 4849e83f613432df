/- Lines and Join, as the program has them. -/
import Derived.Test.YtblaldcioneooaaGreatDoorTxShelf
set_option linter.unusedVariables false
namespace Go.Proofs.YtblaldcioneooaaGreatDoor
open Go.RowKit

theorem cell_strs (w : World) (xs : List (List UInt8)) (t : TypeId) (j : Nat) (x : List UInt8) (h : xs[j]? = some x) : (w.alloc (.cells (strs3 xs).toArray t)).cell? ⟨w.heap.size, j, none⟩ = some (.string (mk x)) := by
  have hj := (List.getElem?_eq_some_iff.1 h).1
  have h2 : (strs3 xs)[j]? = some (.string (mk x)) := by unfold strs3; rw [List.getElem?_map, h]; rfl
  rw [cell_of_row _ w.heap.size j (strs3 xs).toArray t (0, 0) (heap_alloc_new w _)]
  simpa using h2

theorem ret_vb {v v' : Value} {b b' : Bool} (h1 : v = v') (h2 : b = b') : Ending.returned (.tuple #[v, .bool b]) = .returned (.tuple #[v', .bool b']) := by rw [h1, h2]
set_option maxHeartbeats 400000 in
theorem lines_any (s : ByteArray) (w : World) (hs : s.size < 4294967281) :
    Calls Tryz.prog 31 #[.string s] w fun e w' => ∃ v, e = .returned (.tuple #[v, .bool (lend s.data.toList)]) ∧ SA w' v (lin s.data.toList) ∧ Below w.heap.size w w' := by
  obtain ⟨q, t, hq⟩ := segs_snoc_form isL s.data.toList
  have hle := segs_count isL s.data.toList
  have H0 := split_any s w hs
  have HF := Lib.hid (lin_of s.data.toList q t hq)
  rw [size_len] at hle
  have hc0 : ∀ (j : Nat) (x : List UInt8), (segs isL s.data.toList)[j]? = some x → (w.alloc (.cells (strs3 (segs isL s.data.toList)).toArray 9)).cell? ⟨w.heap.size, j, none⟩ = some (.string (mk x)) := fun j x h => cell_strs w _ _ j x h
  have hbel : Below w.heap.size w (w.alloc (.cells (strs3 (segs isL s.data.toList)).toArray 9)) := (Below.refl _ _).alloc (Nat.le_refl _) _
  have hsz : w.heap.size < (w.alloc (.cells (strs3 (segs isL s.data.toList)).toArray 9)).heap.size := by simp
  generalize (w.alloc (.cells (strs3 (segs isL s.data.toList)).toArray 9)) = w1 at *
  rw [hq] at H0 hc0 hle
  rw [List.length_append] at H0 hle
  have hlast := hc0 q.length t (by rw [List.getElem?_append_right (Nat.le_refl _), Nat.sub_self]; rfl)
  have e1 : [t].length = 1 := rfl
  rw [e1] at H0 hle
  have HH : Hid (Calls Tryz.prog 52 #[.string s, .string ⟨#[10]⟩] w fun e w' => e = .returned (.slice (some ⟨w.heap.size, 0, none⟩) (q.length + 1) (q.length + 1)) ∧ w' = w1) := H0
  have HC := Lib.hid hc0
  have HB := Lib.hid hbel
  have HS := Lib.hid hsz
  generalize hm : q.length = m at *
  have HM := Lib.hid hm
  by_cases ht : t = []
  · obtain ⟨f1, f2⟩ := HF.out.1 ht
    have hne : (mk t).toList.isEmpty = true := by rw [ht, toList_mk]; rfl
    rw [f1, f2]
    clear hc0 H0 hq ht hbel hsz e1 f1 f2 HF hm
    go_enter Tryz.func31, Tryz.ntmps31
    go_wp2_with (first | (go_at_call 52; refine HH.out.mono ?_; rintro e w' ⟨rfl, rfl⟩))
    go_ret2
    refine ⟨.slice (some ⟨w.heap.size, 0, none⟩) m m, rfl, ?_, HB.out⟩
    refine ⟨_, m, by rw [HM.out], by rw [HM.out]; exact Nat.le_refl _, ?_⟩
    refine .inr ⟨w.heap.size, 0, rfl, HS.out, fun j x h => ?_⟩
    rw [Nat.zero_add]
    exact HC.out j x (by rw [List.getElem?_append_left (List.getElem?_eq_some_iff.1 h).1]; exact h)
  · obtain ⟨f1, f2⟩ := HF.out.2 ht
    have hne : (mk t).toList.isEmpty = false := by
      apply not_empty_of
      cases t with
      | nil => exact absurd rfl ht
      | cons a r => exact Nat.succ_pos _
    rw [f1, f2]
    clear hc0 H0 hq ht hbel hsz e1 f1 f2 HF hm
    go_enter Tryz.func31, Tryz.ntmps31
    go_wp2_with (first | (go_at_call 52; refine HH.out.mono ?_; rintro e w' ⟨rfl, rfl⟩))
    go_ret2
    refine ⟨.slice (some ⟨w.heap.size, 0, none⟩) (m + 1) (m + 1), rfl, ?_, HB.out⟩
    refine ⟨_, m + 1, by rw [List.length_append, HM.out]; rfl, by rw [List.length_append, HM.out]; exact Nat.le_refl _, ?_⟩
    refine .inr ⟨w.heap.size, 0, rfl, HS.out, fun j x h => ?_⟩
    rw [Nat.zero_add]
    exact HC.out j x h

set_option maxHeartbeats 400000 in
theorem tjoin_any (v : Value) (xs : List (List UInt8)) (b : Bool) (w : World) (hv : SA w v xs) (hN : (xs.map (·.length)).sum + xs.length ≤ 4294967281) :
    Calls Tryz.prog 25 #[v, .bool b] w fun e w' => e = .returned (.string (mk (jn xs b))) ∧ Below w.heap.size w w' := by
  have H0 : Hid (Calls Tryz.prog 44 #[v, .string ⟨#[10]⟩] w fun e w' => e = .returned (.string (mk (jl xs))) ∧ Below w.heap.size w w') := sjoin_any v xs w hv (by omega)
  obtain ⟨a, c, rfl, h2, _⟩ := hv
  have hl : (jl xs).length ≤ 4294967281 := by rw [← join_jl]; exact Nat.le_trans (join_len xs) hN
  have hsz : (mk (jl xs)).size ≤ 4294967281 := hl
  have hR : Hid (mk (jn xs b) = if xs.length = 0 then mk (jl xs) else if b then mk (jl xs) ++ ⟨#[10]⟩ else mk (jl xs)) := by
    show _ = _
    unfold jn
    by_cases hx : xs = []
    · rw [if_pos hx, if_pos (by rw [hx]; rfl), hx]; rfl
    · rw [if_neg hx, if_neg (fun e => hx (List.eq_nil_of_length_eq_zero e))]
      cases b
      · simp
      · rw [if_pos rfl, if_pos rfl, ← mk_append]; rfl
  generalize mk (jl xs) = J at *
  generalize mk (jn xs b) = R at *
  have hxl : xs.length ≤ 4294967281 := by omega
  clear hl hN
  generalize xs.length = n at *
  by_cases hn : n = 0
  · subst hn
    cases b
    all_goals
      go_enter Tryz.func25, Tryz.ntmps25
      go_wp2_with (first | (go_at_call 44; refine H0.out.mono ?_; rintro e w1 ⟨rfl, hb⟩))
      go_ret
      refine ⟨ret_s ?_, hb⟩
      rw [hR.out]; rfl
  · have h0 : 0 < n := by omega
    cases b
    all_goals
      go_enter Tryz.func25, Tryz.ntmps25
      go_wp2_with (first | (go_at_call 44; refine H0.out.mono ?_; rintro e w1 ⟨rfl, hb⟩))
      go_ret
      refine ⟨ret_s ?_, hb⟩
      rw [hR.out, if_neg hn]; rfl
end Go.Proofs.YtblaldcioneooaaGreatDoor
