/- Words, as the program has it: a closure that ends a word. -/
import Derived.Test.YtblaldcioneooaaGreatDoorTxJoin
import Derived.OneCell
import Derived.Deep.RegionHeld3
import Derived.Deep.AppendLies
import Derived.Deep.RegionLaw
import Derived.StillTactics
import Derived.KernelRfl
set_option linter.unusedVariables false
namespace Go.Proofs.YtblaldcioneooaaGreatDoor
open Go.RowKit

/-- The variables that the closure has captured: the string, the words, where the word begins. -/
structure WI (B : Nat) (s : ByteArray) (j n : Nat) (done : List (List UInt8)) (w : World) : Prop where
  hS : w.heap[B]? = some (.cells #[.string s] 9 (0, 0))
  hW : ∃ v, w.heap[B + 1]? = some (.cells #[v] 40 (0, 0)) ∧ w.ownsRow (B + 3) 9 1 v n (strs3 done)
  hJ : w.heap[B + 2]? = some (.cells #[.int .i64 (j : Int)] 3 (0, 0))

theorem heap_set1 (w : World) (g : Nat) (x y : Value) (t : TypeId) (h : w.heap[g]? = some (.cells #[x] t (0, 0))) : (w.setCell ⟨g, 0, none⟩ y).heap[g]? = some (.cells #[y] t (0, 0)) := one_setCell h

theorem clo_skip (B : Nat) (s : ByteArray) (j n k : Nat) (done : List (List UInt8)) (w : World) (h : WI B s j n done w) (hj : ¬ (j : Int) < (k : Int)) (hk : k ≤ 4294967280) :
    Calls Tryz.prog 53 #[.int .i64 (k : Int), .pointer (some ⟨B + 2, 0, none⟩), .pointer (some ⟨B + 1, 0, none⟩), .pointer (some ⟨B, 0, none⟩)] w fun e w' => e = .returned (.tuple #[]) ∧ WI B s (k + 1) n done w' ∧ Below B w w' := by
  obtain ⟨hS, ⟨v, hW, hown⟩, hJ⟩ := h
  have cJ := cell_of_one hJ
  have fJ := free_of_one hJ
  go_enter Tryz.func53, Tryz.ntmps53
  go_wp2
  go_end0
  refine ⟨rfl, ⟨?_, ⟨v, ?_, ?_⟩, ?_⟩, (Below.refl _ _).setCell (by show B ≤ B + 2; omega) _⟩
  · exact (Below.heap_setCell _ _ _ _ (by show B ≠ B + 2; omega)).trans hS
  · exact (Below.heap_setCell _ _ _ _ (by show B + 1 ≠ B + 2; omega)).trans hW
  · exact ownsRow_setCell_below hown (by show B + 2 < B + 3; omega) _
  · exact heap_set1 _ _ _ _ _ hJ

set_option maxHeartbeats 4000000 in
set_option maxRecDepth 100000 in
theorem clo_word (B : Nat) (s : ByteArray) (j n k : Nat) (done : List (List UInt8)) (w : World) (h : WI B s j n done w) (hj : (j : Int) < (k : Int)) (hk : (k : Int) ≤ (s.size : Int)) (hs : s.size ≤ 4294967280) (hn : n ≤ j) :
    Calls Tryz.prog 53 #[.int .i64 (k : Int), .pointer (some ⟨B + 2, 0, none⟩), .pointer (some ⟨B + 1, 0, none⟩), .pointer (some ⟨B, 0, none⟩)] w fun e w' => e = .returned (.tuple #[]) ∧ WI B s (k + 1) (n + 1) (done ++ [(s.data.toList.drop j).take (k - j)]) w' ∧ Below B w w' := by
  obtain ⟨hS, ⟨v, hW, hown⟩, hJ⟩ := h
  have cJ := cell_of_one hJ
  have cS := cell_of_one hS
  have cW := cell_of_one hW
  have fW := free_of_one hW
  have fJ := free_of_one hJ
  have hlt : B + 2 < w.heap.size := (Array.getElem?_eq_some_iff.1 hJ).1
  obtain ⟨i0, hi0, hz0, hz1, hz2⟩ := info_parts tinfoS
  have HO := Lib.hid hown
  have HS := Lib.hid hS
  have HW := Lib.hid hW
  have HJ := Lib.hid hJ
  have j0 : (0 : Int) ≤ (j : Int) := Int.natCast_nonneg _
  have jk : (j : Int) ≤ (k : Int) := by omega
  have a1 : v.ownBlock ≠ some (B + 1) := fun e => by have := (hown.lt _ e).1; omega
  have a2 : v.ownBlock ≠ some (B + 2) := fun e => by have := (hown.lt _ e).1; omega
  have a3 : v.ownBlock ≠ some B := fun e => by have := (hown.lt _ e).1; omega
  clear hown hS hW hJ
  go_enter Tryz.func53, Tryz.ntmps53
  go_wp2_with fail
  have cWa : (w.alloc (.cells #[.string (s.extract j k)] 9)).cell? ⟨B + 1, 0, none⟩ = some v := (World.cell?_of_block (w := w) (Below.heap_alloc w (.cells #[.string (s.extract j k)] 9) (B + 1) (by omega))).trans cW
  go_region_law
    ((refine step_append_lies _ (by rfl) _ _ _ (by rfl) (B + 3) 9 i0 _ 1 16 Tryz.underlying40 hi0 hz0 hz1 hz2 rfl (by omega) v n (strs3 done) (by rfl) (HO.out.alloc (.cells #[.string (s.extract j k)] 9))
        ⟨w.heap.size, 0, none⟩ 1 1 [.string (s.extract j k)] (by rfl) (by rfl) (World.news_of_block (cs := #[.string (s.extract j k)]) (t := 9) (fr := (0, 0)) (heap_alloc_new w _)) (by simp [Value.oneCell'])
        (by omega) (by unfold maxLen; omega) (by omega) (by simp; omega) (w.heap.size + 1) (by simp) ?_; intro gg cap w1 hown1 hgrow hat hlt1; have fW1 : w1.frozen? ⟨B + 1, 0, none⟩ = false := (hgrow.frozen_far _ (by simp; omega) (Ne.symm a1)).trans ((World.frozen?_of_block (w := w) (Below.heap_alloc w (.cells #[.string (s.extract j k)] 9) (B + 1) (by omega))).trans fW); have cW1 : w1.cell? ⟨B + 1, 0, none⟩ = some v := (hgrow.cell_far _ (by simp; omega) (Ne.symm a1)).trans ((World.cell?_of_block (w := w) (Below.heap_alloc w (.cells #[.string (s.extract j k)] 9) (B + 1) (by omega))).trans cW)))
  all_goals
    have bJ : w1.heap[B + 2]? = some (.cells #[.int .i64 (j : Int)] 3 (0, 0)) := (hgrow.block (B + 2) (by simp; omega) (Ne.symm a2)).trans ((Below.heap_alloc w _ (B + 2) (by omega)).trans HJ.out)
    have bW : w1.heap[B + 1]? = some (.cells #[v] 40 (0, 0)) := (hgrow.block (B + 1) (by simp; omega) (Ne.symm a1)).trans ((Below.heap_alloc w _ (B + 1) (by omega)).trans HW.out)
    have bS : w1.heap[B]? = some (.cells #[.string s] 9 (0, 0)) := (hgrow.block B (by simp; omega) (Ne.symm a3)).trans ((Below.heap_alloc w _ B (by omega)).trans HS.out)
    have HBel : Hid (Below B w w1) := ((Below.refl B w).alloc (by omega) (.cells #[.string (s.extract j k)] 9)).drew.grown hgrow (by simp; omega) (fun j e => by have := (HO.out.lt j e).1; omega)
    have bJ2 : (w1.setCell ⟨B + 1, 0, none⟩ (.slice (some ⟨gg, 0, none⟩) (n + 1) cap)).heap[B + 2]? = some (.cells #[.int .i64 (j : Int)] 3 (0, 0)) := (Below.heap_setCell _ _ _ _ (by show B + 2 ≠ B + 1; omega)).trans bJ
    have HOw := Lib.hid (own_sapp hown1 (strs_ext s j k))
    have BW := Lib.hid bW
    have BS := Lib.hid bS
    have BJ2 := Lib.hid bJ2
    have cJ2 := cell_of_one bJ2
    have fJ2 := free_of_one bJ2
    clear bJ bW bS bJ2 hown1 hgrow hat cW1 fW1 cWa
    go_wp2
    go_end0
    refine ⟨rfl, ⟨?_, ⟨.slice (some ⟨gg, 0, none⟩) (n + 1) cap, ?_, ?_⟩, ?_⟩, ?_⟩
    · exact (Below.heap_setCell _ _ _ _ (by show B ≠ B + 2; omega)).trans ((Below.heap_setCell _ _ _ _ (by show B ≠ B + 1; omega)).trans BS.out)
    · exact (Below.heap_setCell _ _ _ _ (by show B + 1 ≠ B + 2; omega)).trans (heap_set1 _ _ _ _ _ BW.out)
    · exact ownsRow_setCell_below (ownsRow_setCell_below HOw.out (by show B + 1 < B + 3; omega) _) (by show B + 2 < B + 3; omega) _
    · exact heap_set1 _ _ _ _ _ BJ2.out
    · exact (HBel.out.setCell (by show B ≤ B + 1; omega) _).setCell (by show B ≤ B + 2; omega) _

theorem clo_any (B : Nat) (s : ByteArray) (j n k : Nat) (done : List (List UInt8)) (w : World) (h : WI B s j n done w) (hj : j ≤ k) (hk : k ≤ s.size) (hs : s.size ≤ 4294967280) (hn : n ≤ j) :
    Calls Tryz.prog 53 #[.int .i64 (k : Int), .pointer (some ⟨B + 2, 0, none⟩), .pointer (some ⟨B + 1, 0, none⟩), .pointer (some ⟨B, 0, none⟩)] w fun e w' => e = .returned (.tuple #[]) ∧
      ∃ n', n' ≤ k ∧ WI B s (k + 1) n' (done ++ if j < k then [(s.data.toList.drop j).take (k - j)] else []) w' ∧ Below B w w' := by
  by_cases hlt : j < k
  · refine (clo_word B s j n k done w h (by omega) (by omega) hs hn).mono fun e w' ⟨h1, h2, h3⟩ => ⟨h1, n + 1, by omega, ?_, h3⟩
    rw [if_pos hlt]; exact h2
  · refine (clo_skip B s j n k done w h (by omega) (by omega)).mono fun e w' ⟨h1, h2, h3⟩ => ⟨h1, n, by omega, ?_, h3⟩
    rw [if_neg hlt, List.append_nil]; exact h2
theorem WI.start (w : World) (s : ByteArray) : WI w.heap.size s 0 0 [] (((w.alloc (.cells #[.string s] 9)).alloc (.cells #[.slice none 0 0] 40)).alloc (.cells #[.int .i64 0] 3)) := by
  refine ⟨?_, ⟨_, ?_, World.ownsRow_nil _ _ _ _⟩, ?_⟩
  · rw [Below.heap_alloc _ _ _ (by simp; omega), Below.heap_alloc _ _ _ (by simp)]
    exact heap_alloc_new w _
  · rw [Below.heap_alloc _ _ _ (by simp)]
    have := heap_alloc_new (w.alloc (.cells #[.string s] 9)) (.cells #[.slice none 0 0] 40)
    simpa using this
  · have := heap_alloc_new ((w.alloc (.cells #[.string s] 9)).alloc (.cells #[.slice none 0 0] 40)) (.cells #[.int .i64 0] 3)
    simpa using this

set_option maxHeartbeats 2000000 in
theorem words_any (s : ByteArray) (w : World) (hs : s.size ≤ 4294967280) :
    Calls Tryz.prog 32 #[.string s] w fun e w' => ∃ v n, e = .returned v ∧ SA w' v (wds s.data.toList) ∧ w'.ownsRow w.heap.size 9 1 v n (strs3 (wds s.data.toList)) ∧ Below w.heap.size w w' := by
  have hmf : ∀ (fn : Fn) (first cap : Array Value) (w : World), (Instr.makeFunc fn first cap).run Tryz.prog w = .ok (.func fn first cap) w := fun _ _ _ _ => rfl
  have hst := Lib.hid (WI.start w s)
  have cS0 := cell_of_one (WI.start w s).hS
  go_enter Tryz.func32, Tryz.ntmps32
  go_wp2
  clear hmf cS0
  go_loopw [10] (fun i wr => ∃ (k j n : Nat) (done : List (List UInt8)), k ≤ s.size ∧ j ≤ k ∧ n ≤ j ∧ i = .int .i64 k ∧ Hid (WI w.heap.size s j n done wr) ∧ Hid (Below w.heap.size w wr) ∧
      Hid (done ++ wds (s.data.toList.drop j) = wds s.data.toList) ∧ Hid (no sp ((s.data.toList.drop j).take (k - j)) = true)) (fun i _ => s.size - (intOf i).toNat)
  case atStart => exact ⟨0, 0, 0, [], Nat.zero_le _, Nat.le_refl _, Nat.le_refl _, rfl, hst.out, (((Below.refl _ _).alloc (Nat.le_refl _) _).alloc (by simp) _).alloc (by simp; omega) _, rfl, rfl⟩
  case round =>
    obtain ⟨k, j, n, done, hk, hj, hn, rfl, hI, hb, hsg, hno⟩ := hrel
    have cS := cell_of_one hI.out.hS
    by_cases hlt : k < s.size
    · have hlt' : k < s.data.toList.length := by rw [size_len]; exact hlt
      have hg : s.data.toList[k] = s[k] := rfl
      have HSp : Hid (∀ w, Calls Tryz.prog 54 #[.int .u8 (s[k].toNat : Int)] w fun e w' => e = .returned (.bool (sp s[k])) ∧ w = w') := fun w => sep_any s[k] w
      rcases ttf (sp s[k]) with h0 | h0
      · have HC := Lib.hid (clo_any w.heap.size s j n k done wr hI.out hj (by omega) hs hn)
        have HS2 : Hid ((done ++ if j < k then [(s.data.toList.drop j).take (k - j)] else []) ++ wds (s.data.toList.drop (k + 1)) = wds s.data.toList) := by
          show _ = _
          rw [← hsg.out, wds_hit s.data.toList j k hj hlt' hno.out (by rw [hg]; exact h0), List.append_assoc]
        have HN : Hid (no sp ((s.data.toList.drop (k + 1)).take (k + 1 - (k + 1))) = true) := by
          show _ = true
          rw [Nat.sub_self]; rfl
        rw [h0] at HSp
        generalize (done ++ if j < k then [(s.data.toList.drop j).take (k - j)] else []) = done2 at *
        clear hsg hno hg h0 hI
        go_wp2_with (first
          | (go_at_call 54; refine (HSp.out _).mono ?_; rintro e w' ⟨rfl, rfl⟩)
          | (go_at_call 53; refine HC.out.mono ?_; rintro e w2 ⟨rfl, n2, hn2, hI2, hb2⟩; have HI2 := Lib.hid hI2; have HB2 := Lib.hid (hb.out.trans hb2); clear hI2 hb2))
        go_roundw
        case rel => exact ⟨k + 1, k + 1, n2, done2, by omega, by omega, by omega, by go_num, HI2.out, HB2.out, HS2.out, HN.out⟩
        case measure => simp [intOf]; omega
      · have HN : Hid (no sp ((s.data.toList.drop j).take (k + 1 - j)) = true) := no_step sp s.data.toList j k hj hlt' hno.out (by rw [hg]; exact h0)
        rw [h0] at HSp
        clear hno hg h0
        go_wp2_with (first
          | (go_at_call 54; refine (HSp.out _).mono ?_; rintro e w' ⟨rfl, rfl⟩))
        go_roundw
        case rel => exact ⟨k + 1, j, n, done, by omega, by omega, by omega, by go_num, hI.out, hb.out, hsg.out, HN.out⟩
        case measure => simp [intOf]; omega
    · obtain rfl : k = s.size := by omega
      have HC := Lib.hid (clo_any w.heap.size s j n s.size done wr hI.out hj (Nat.le_refl _) hs hn)
      have hna := drop_all sp s.data.toList j s.size (by rw [size_len]; exact Nat.le_refl _) hno.out
      have hd : (done ++ if j < s.size then [(s.data.toList.drop j).take (s.size - j)] else []) = wds s.data.toList := by
        rw [← hsg.out, wds_no _ hna]
        congr 1
        by_cases h : j < s.size
        · have hne : s.data.toList.drop j ≠ [] := fun e => by
            have := congrArg List.length e
            rw [List.length_drop, size_len] at this; simp at this; omega
          rw [if_pos h, if_neg hne, List.take_of_length_le (by rw [List.length_drop, size_len]; exact Nat.le_refl _)]
        · rw [if_neg h, if_pos (List.drop_eq_nil_of_le (by rw [size_len]; omega))]
      rw [hd] at HC
      clear hsg hno hd hna hI
      go_wp2_with (first
        | (go_at_call 53; refine HC.out.mono ?_; rintro e w2 ⟨rfl, n2, hn2, hI2, hb2⟩; obtain ⟨v2, hW2, ho2⟩ := hI2.hW; have cW2 := cell_of_one hW2; have HO2 := Lib.hid ho2; have HB2 := Lib.hid (hb.out.trans hb2); clear hI2 hb2 hW2 ho2))
      go_ret
      exact ⟨v2, n2, rfl, sa_own HO2.out, Joins.ownsRow_le HO2.out (by omega), HB2.out⟩
end Go.Proofs.YtblaldcioneooaaGreatDoor
