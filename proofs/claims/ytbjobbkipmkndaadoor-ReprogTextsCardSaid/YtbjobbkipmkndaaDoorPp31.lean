/- RpUsed, RpAlike. -/
import Derived.Test.YtbjobbkipmkndaaDoorPp30
import Derived.Deep.RegionLaw
import Derived.Deep.RegionHeld3
import Derived.BigGuardPart
set_option linter.unusedVariables false
set_option linter.unusedSimpArgs false
set_option maxRecDepth 100000
set_option maxHeartbeats 8000000
namespace Go.Proofs.YtbjobbkipmkndaaDoor
open Go.RowKit
theorem used_1 (st : Nat → Bool) (x y : Int) (w : World) : Calls Tryd.prog 31 #[.agg #[.int .i64 1, .int .u64 (wd st 0 64 : Nat), .int .u64 (wd st 64 64 : Nat), .int .u64 (wd st 128 64 : Nat), .int .u64 (wd st 192 64 : Nat), .int .i64 x, .int .i64 y]] w fun e w' => e = .returned (.agg #[.int .i64 1, .int .u64 (wd st 0 64 : Nat), .int .u64 (wd st 64 64 : Nat), .int .u64 (wd st 128 64 : Nat), .int .u64 (wd st 192 64 : Nat), .int .i64 0, .int .i64 0]) ∧ Below w.heap.size w w' := by
  have hb : Below w.heap.size w ((w.alloc (.cells #[.int .i64 1, .int .u64 (wd st 0 64 : Nat), .int .u64 (wd st 64 64 : Nat), .int .u64 (wd st 128 64 : Nat), .int .u64 (wd st 192 64 : Nat), .int .i64 x, .int .i64 y] 39)).alloc (.cells #[.int .i64 0, .int .u64 0, .int .u64 0, .int .u64 0, .int .u64 0, .int .i64 0, .int .i64 0] 39)) := ((Below.refl _ _).alloc (Nat.le_refl _) _).alloc (by simp) _
  have he1 := heap_alloc_new w (.cells #[.int .i64 1, .int .u64 (wd st 0 64 : Nat), .int .u64 (wd st 64 64 : Nat), .int .u64 (wd st 128 64 : Nat), .int .u64 (wd st 192 64 : Nat), .int .i64 x, .int .i64 y] 39)
  have hs : (w.alloc (.cells #[.int .i64 1, .int .u64 (wd st 0 64 : Nat), .int .u64 (wd st 64 64 : Nat), .int .u64 (wd st 128 64 : Nat), .int .u64 (wd st 192 64 : Nat), .int .i64 x, .int .i64 y] 39)).heap.size = w.heap.size + 1 := by simp
  have he2 := heap_alloc_new (w.alloc (.cells #[.int .i64 1, .int .u64 (wd st 0 64 : Nat), .int .u64 (wd st 64 64 : Nat), .int .u64 (wd st 128 64 : Nat), .int .u64 (wd st 192 64 : Nat), .int .i64 x, .int .i64 y] 39)) (.cells #[.int .i64 0, .int .u64 0, .int .u64 0, .int .u64 0, .int .u64 0, .int .i64 0, .int .i64 0] 39)
  rw [hs] at he2
  have he1' := (Below.heap_alloc (w.alloc (.cells #[.int .i64 1, .int .u64 (wd st 0 64 : Nat), .int .u64 (wd st 64 64 : Nat), .int .u64 (wd st 128 64 : Nat), .int .u64 (wd st 192 64 : Nat), .int .i64 x, .int .i64 y] 39)) (.cells #[.int .i64 0, .int .u64 0, .int .u64 0, .int .u64 0, .int .u64 0, .int .i64 0, .int .i64 0] 39) w.heap.size (by omega)).trans he1
  obtain ⟨⟨a0, a1, a2⟩, ⟨a3, a4⟩, a5, a6⟩ := seven he1'
  have HE := Lib.hid he2
  have HB := Lib.hid hb
  clear hb he1 he1' he2 hs
  go_enter Tryd.func31, Tryd.ntmps31
  go_wp2_with (first
    | (refine wpList_store_row rfl 39 (.tmp 2) (.tmp 11) rfl (w.heap.size + 1) #[.int .i64 1, .int .u64 (wd st 0 64 : Nat), .int .u64 (wd st 64 64 : Nat), .int .u64 (wd st 128 64 : Nat), .int .u64 (wd st 192 64 : Nat), .int .i64 0, .int .i64 0] rfl rfl 39 _ HE.out isz_in rfl (by simp [Value.oneCell']) ?_))
  refine bodyPost_ret (v := .agg #[.int .i64 1, .int .u64 (wd st 0 64 : Nat), .int .u64 (wd st 64 64 : Nat), .int .u64 (wd st 128 64 : Nat), .int .u64 (wd st 192 64 : Nat), .int .i64 0, .int .i64 0]) (results_cell_row rfl _ _ (w.heap.size + 1) _ #[.int .i64 1, .int .u64 (wd st 0 64 : Nat), .int .u64 (wd st 64 64 : Nat), .int .u64 (wd st 128 64 : Nat), .int .u64 (wd st 192 64 : Nat), .int .i64 0, .int .i64 0] (0, 0) _ rfl (setRow_heap _ _ _ _ _ _ HE.out) Tryd.underlying39 rfl isz_in) rfl ?_
  exact ⟨rfl, below_setRow HB.out (Nat.le_succ _) _⟩
theorem used_2 (st : Nat → Bool) (x y : Int) (w : World) : Calls Tryd.prog 31 #[.agg #[.int .i64 2, .int .u64 (wd st 0 64 : Nat), .int .u64 (wd st 64 64 : Nat), .int .u64 (wd st 128 64 : Nat), .int .u64 (wd st 192 64 : Nat), .int .i64 x, .int .i64 y]] w fun e w' => e = .returned (.agg #[.int .i64 2, .int .u64 0, .int .u64 0, .int .u64 0, .int .u64 0, .int .i64 x, .int .i64 y]) ∧ Below w.heap.size w w' := by
  have hb : Below w.heap.size w ((w.alloc (.cells #[.int .i64 2, .int .u64 (wd st 0 64 : Nat), .int .u64 (wd st 64 64 : Nat), .int .u64 (wd st 128 64 : Nat), .int .u64 (wd st 192 64 : Nat), .int .i64 x, .int .i64 y] 39)).alloc (.cells #[.int .i64 0, .int .u64 0, .int .u64 0, .int .u64 0, .int .u64 0, .int .i64 0, .int .i64 0] 39)) := ((Below.refl _ _).alloc (Nat.le_refl _) _).alloc (by simp) _
  have he1 := heap_alloc_new w (.cells #[.int .i64 2, .int .u64 (wd st 0 64 : Nat), .int .u64 (wd st 64 64 : Nat), .int .u64 (wd st 128 64 : Nat), .int .u64 (wd st 192 64 : Nat), .int .i64 x, .int .i64 y] 39)
  have hs : (w.alloc (.cells #[.int .i64 2, .int .u64 (wd st 0 64 : Nat), .int .u64 (wd st 64 64 : Nat), .int .u64 (wd st 128 64 : Nat), .int .u64 (wd st 192 64 : Nat), .int .i64 x, .int .i64 y] 39)).heap.size = w.heap.size + 1 := by simp
  have he2 := heap_alloc_new (w.alloc (.cells #[.int .i64 2, .int .u64 (wd st 0 64 : Nat), .int .u64 (wd st 64 64 : Nat), .int .u64 (wd st 128 64 : Nat), .int .u64 (wd st 192 64 : Nat), .int .i64 x, .int .i64 y] 39)) (.cells #[.int .i64 0, .int .u64 0, .int .u64 0, .int .u64 0, .int .u64 0, .int .i64 0, .int .i64 0] 39)
  rw [hs] at he2
  have he1' := (Below.heap_alloc (w.alloc (.cells #[.int .i64 2, .int .u64 (wd st 0 64 : Nat), .int .u64 (wd st 64 64 : Nat), .int .u64 (wd st 128 64 : Nat), .int .u64 (wd st 192 64 : Nat), .int .i64 x, .int .i64 y] 39)) (.cells #[.int .i64 0, .int .u64 0, .int .u64 0, .int .u64 0, .int .u64 0, .int .i64 0, .int .i64 0] 39) w.heap.size (by omega)).trans he1
  obtain ⟨⟨a0, a1, a2⟩, ⟨a3, a4⟩, a5, a6⟩ := seven he1'
  have HE := Lib.hid he2
  have HB := Lib.hid hb
  clear hb he1 he1' he2 hs
  go_enter Tryd.func31, Tryd.ntmps31
  go_wp2_with (first
    | (refine wpList_store_row rfl 39 (.tmp 2) (.tmp 20) rfl (w.heap.size + 1) #[.int .i64 2, .int .u64 0, .int .u64 0, .int .u64 0, .int .u64 0, .int .i64 x, .int .i64 y] rfl rfl 39 _ HE.out isz_in rfl (by simp [Value.oneCell']) ?_))
  refine bodyPost_ret (v := .agg #[.int .i64 2, .int .u64 0, .int .u64 0, .int .u64 0, .int .u64 0, .int .i64 x, .int .i64 y]) (results_cell_row rfl _ _ (w.heap.size + 1) _ #[.int .i64 2, .int .u64 0, .int .u64 0, .int .u64 0, .int .u64 0, .int .i64 x, .int .i64 y] (0, 0) _ rfl (setRow_heap _ _ _ _ _ _ HE.out) Tryd.underlying39 rfl isz_in) rfl ?_
  exact ⟨rfl, below_setRow HB.out (Nat.le_succ _) _⟩
theorem used_3 (st : Nat → Bool) (x y : Int) (w : World) : Calls Tryd.prog 31 #[.agg #[.int .i64 3, .int .u64 (wd st 0 64 : Nat), .int .u64 (wd st 64 64 : Nat), .int .u64 (wd st 128 64 : Nat), .int .u64 (wd st 192 64 : Nat), .int .i64 x, .int .i64 y]] w fun e w' => e = .returned (.agg #[.int .i64 3, .int .u64 0, .int .u64 0, .int .u64 0, .int .u64 0, .int .i64 x, .int .i64 0]) ∧ Below w.heap.size w w' := by
  have hb : Below w.heap.size w ((w.alloc (.cells #[.int .i64 3, .int .u64 (wd st 0 64 : Nat), .int .u64 (wd st 64 64 : Nat), .int .u64 (wd st 128 64 : Nat), .int .u64 (wd st 192 64 : Nat), .int .i64 x, .int .i64 y] 39)).alloc (.cells #[.int .i64 0, .int .u64 0, .int .u64 0, .int .u64 0, .int .u64 0, .int .i64 0, .int .i64 0] 39)) := ((Below.refl _ _).alloc (Nat.le_refl _) _).alloc (by simp) _
  have he1 := heap_alloc_new w (.cells #[.int .i64 3, .int .u64 (wd st 0 64 : Nat), .int .u64 (wd st 64 64 : Nat), .int .u64 (wd st 128 64 : Nat), .int .u64 (wd st 192 64 : Nat), .int .i64 x, .int .i64 y] 39)
  have hs : (w.alloc (.cells #[.int .i64 3, .int .u64 (wd st 0 64 : Nat), .int .u64 (wd st 64 64 : Nat), .int .u64 (wd st 128 64 : Nat), .int .u64 (wd st 192 64 : Nat), .int .i64 x, .int .i64 y] 39)).heap.size = w.heap.size + 1 := by simp
  have he2 := heap_alloc_new (w.alloc (.cells #[.int .i64 3, .int .u64 (wd st 0 64 : Nat), .int .u64 (wd st 64 64 : Nat), .int .u64 (wd st 128 64 : Nat), .int .u64 (wd st 192 64 : Nat), .int .i64 x, .int .i64 y] 39)) (.cells #[.int .i64 0, .int .u64 0, .int .u64 0, .int .u64 0, .int .u64 0, .int .i64 0, .int .i64 0] 39)
  rw [hs] at he2
  have he1' := (Below.heap_alloc (w.alloc (.cells #[.int .i64 3, .int .u64 (wd st 0 64 : Nat), .int .u64 (wd st 64 64 : Nat), .int .u64 (wd st 128 64 : Nat), .int .u64 (wd st 192 64 : Nat), .int .i64 x, .int .i64 y] 39)) (.cells #[.int .i64 0, .int .u64 0, .int .u64 0, .int .u64 0, .int .u64 0, .int .i64 0, .int .i64 0] 39) w.heap.size (by omega)).trans he1
  obtain ⟨⟨a0, a1, a2⟩, ⟨a3, a4⟩, a5, a6⟩ := seven he1'
  have HE := Lib.hid he2
  have HB := Lib.hid hb
  clear hb he1 he1' he2 hs
  go_enter Tryd.func31, Tryd.ntmps31
  go_wp2_with (first
    | (refine wpList_store_row rfl 39 (.tmp 2) (.tmp 27) rfl (w.heap.size + 1) #[.int .i64 3, .int .u64 0, .int .u64 0, .int .u64 0, .int .u64 0, .int .i64 x, .int .i64 0] rfl rfl 39 _ HE.out isz_in rfl (by simp [Value.oneCell']) ?_))
  refine bodyPost_ret (v := .agg #[.int .i64 3, .int .u64 0, .int .u64 0, .int .u64 0, .int .u64 0, .int .i64 x, .int .i64 0]) (results_cell_row rfl _ _ (w.heap.size + 1) _ #[.int .i64 3, .int .u64 0, .int .u64 0, .int .u64 0, .int .u64 0, .int .i64 x, .int .i64 0] (0, 0) _ rfl (setRow_heap _ _ _ _ _ _ HE.out) Tryd.underlying39 rfl isz_in) rfl ?_
  exact ⟨rfl, below_setRow HB.out (Nat.le_succ _) _⟩
theorem used_n (o : Int) (st : Nat → Bool) (x y : Int) (h1 : (o == 1) = false) (h2 : (o == 2) = false) (h3 : (o == 3) = false) (w : World) : Calls Tryd.prog 31 #[.agg #[.int .i64 o, .int .u64 (wd st 0 64 : Nat), .int .u64 (wd st 64 64 : Nat), .int .u64 (wd st 128 64 : Nat), .int .u64 (wd st 192 64 : Nat), .int .i64 x, .int .i64 y]] w fun e w' => e = .returned (.agg #[.int .i64 o, .int .u64 0, .int .u64 0, .int .u64 0, .int .u64 0, .int .i64 0, .int .i64 0]) ∧ Below w.heap.size w w' := by
  have hb : Below w.heap.size w ((w.alloc (.cells #[.int .i64 o, .int .u64 (wd st 0 64 : Nat), .int .u64 (wd st 64 64 : Nat), .int .u64 (wd st 128 64 : Nat), .int .u64 (wd st 192 64 : Nat), .int .i64 x, .int .i64 y] 39)).alloc (.cells #[.int .i64 0, .int .u64 0, .int .u64 0, .int .u64 0, .int .u64 0, .int .i64 0, .int .i64 0] 39)) := ((Below.refl _ _).alloc (Nat.le_refl _) _).alloc (by simp) _
  have he1 := heap_alloc_new w (.cells #[.int .i64 o, .int .u64 (wd st 0 64 : Nat), .int .u64 (wd st 64 64 : Nat), .int .u64 (wd st 128 64 : Nat), .int .u64 (wd st 192 64 : Nat), .int .i64 x, .int .i64 y] 39)
  have hs : (w.alloc (.cells #[.int .i64 o, .int .u64 (wd st 0 64 : Nat), .int .u64 (wd st 64 64 : Nat), .int .u64 (wd st 128 64 : Nat), .int .u64 (wd st 192 64 : Nat), .int .i64 x, .int .i64 y] 39)).heap.size = w.heap.size + 1 := by simp
  have he2 := heap_alloc_new (w.alloc (.cells #[.int .i64 o, .int .u64 (wd st 0 64 : Nat), .int .u64 (wd st 64 64 : Nat), .int .u64 (wd st 128 64 : Nat), .int .u64 (wd st 192 64 : Nat), .int .i64 x, .int .i64 y] 39)) (.cells #[.int .i64 0, .int .u64 0, .int .u64 0, .int .u64 0, .int .u64 0, .int .i64 0, .int .i64 0] 39)
  rw [hs] at he2
  have he1' := (Below.heap_alloc (w.alloc (.cells #[.int .i64 o, .int .u64 (wd st 0 64 : Nat), .int .u64 (wd st 64 64 : Nat), .int .u64 (wd st 128 64 : Nat), .int .u64 (wd st 192 64 : Nat), .int .i64 x, .int .i64 y] 39)) (.cells #[.int .i64 0, .int .u64 0, .int .u64 0, .int .u64 0, .int .u64 0, .int .i64 0, .int .i64 0] 39) w.heap.size (by omega)).trans he1
  obtain ⟨⟨a0, a1, a2⟩, ⟨a3, a4⟩, a5, a6⟩ := seven he1'
  have HE := Lib.hid he2
  have HB := Lib.hid hb
  clear hb he1 he1' he2 hs
  go_enter Tryd.func31, Tryd.ntmps31
  go_wp2_with (first
    | (refine wpList_store_row rfl 39 (.tmp 2) (.tmp 30) rfl (w.heap.size + 1) #[.int .i64 o, .int .u64 0, .int .u64 0, .int .u64 0, .int .u64 0, .int .i64 0, .int .i64 0] rfl rfl 39 _ HE.out isz_in rfl (by simp [Value.oneCell']) ?_))
  refine bodyPost_ret (v := .agg #[.int .i64 o, .int .u64 0, .int .u64 0, .int .u64 0, .int .u64 0, .int .i64 0, .int .i64 0]) (results_cell_row rfl _ _ (w.heap.size + 1) _ #[.int .i64 o, .int .u64 0, .int .u64 0, .int .u64 0, .int .u64 0, .int .i64 0, .int .i64 0] (0, 0) _ rfl (setRow_heap _ _ _ _ _ _ HE.out) Tryd.underlying39 rfl isz_in) rfl ?_
  exact ⟨rfl, below_setRow HB.out (Nat.le_succ _) _⟩
theorem used_any (i : IN) (w : World) : Calls Tryd.prog 31 #[.agg #[.int .i64 i.op, .int .u64 (wd i.st 0 64 : Nat), .int .u64 (wd i.st 64 64 : Nat), .int .u64 (wd i.st 128 64 : Nat), .int .u64 (wd i.st 192 64 : Nat), .int .i64 i.x, .int .i64 i.y]] w fun e w' => e = .returned (.agg #[.int .i64 (usedI i).op, .int .u64 (wd (usedI i).st 0 64 : Nat), .int .u64 (wd (usedI i).st 64 64 : Nat), .int .u64 (wd (usedI i).st 128 64 : Nat), .int .u64 (wd (usedI i).st 192 64 : Nat), .int .i64 (usedI i).x, .int .i64 (usedI i).y]) ∧ Below w.heap.size w w' := by
  obtain ⟨o, st, x, y⟩ := i
  by_cases h1 : o = 1
  · subst h1
    exact used_1 st x y w
  by_cases h2 : o = 2
  · subst h2
    have := used_2 st x y w
    have e : usedI ⟨2, st, x, y⟩ = ⟨2, noSet, x, y⟩ := rfl
    rw [e]
    simp only [wd_noSet.1, wd_noSet.2.1, wd_noSet.2.2.1, wd_noSet.2.2.2]
    exact this
  by_cases h3 : o = 3
  · subst h3
    have := used_3 st x y w
    have e : usedI ⟨3, st, x, y⟩ = ⟨3, noSet, x, 0⟩ := rfl
    rw [e]
    simp only [wd_noSet.1, wd_noSet.2.1, wd_noSet.2.2.1, wd_noSet.2.2.2]
    exact this
  have := used_n o st x y (by simpa using h1) (by simpa using h2) (by simpa using h3) w
  have e : usedI ⟨o, st, x, y⟩ = ⟨o, noSet, 0, 0⟩ := by unfold usedI; rw [if_neg h1, if_neg h2, if_neg h3]
  rw [e]
  simp only [wd_noSet.1, wd_noSet.2.1, wd_noSet.2.2.1, wd_noSet.2.2.2]
  exact this
end Go.Proofs.YtbjobbkipmkndaaDoor
set_option linter.unusedVariables false
set_option linter.unusedSimpArgs false
set_option maxRecDepth 100000
set_option maxHeartbeats 8000000
namespace Go.Proofs.YtbjobbkipmkndaaDoor
open Go.RowKit
theorem alL_drop (L M : List IN) (k : Nat) (hL : k < L.length) (hM : k < M.length) : alL (L.drop k) (M.drop k) = (eqIN (usedI L[k]) (usedI M[k]) && alL (L.drop (k + 1)) (M.drop (k + 1))) := by
  rw [List.drop_eq_getElem_cons hL, List.drop_eq_getElem_cons hM]
  rfl
theorem alL_len : ∀ L M : List IN, L.length ≠ M.length → alL L M = false
  | [], [], h => absurd rfl h
  | [], j :: s, _ => rfl
  | i :: r, [], _ => rfl
  | i :: r, j :: s, h => by
    show (_ && alL r s) = false
    rw [alL_len r s (fun e => h (by show r.length + 1 = s.length + 1; rw [e]))]
    simp
theorem rows_after {w0 : World} {n : Nat} {L : List IN} {ad : Option Addr} {cap : Nat} (h : PI w0 n L (.slice ad L.length cap)) (h1 : 1 ≤ L.length) : ∃ b i0, ad = some ⟨b, i0, none⟩ ∧ b < w0.heap.size ∧ ∀ (k : Nat) (hk : k < L.length) (W : World), Below w0.heap.size w0 W → ∀ j u, (rowI (L[k]'hk))[j]? = some u → j < 7 → W.cell? ⟨b, i0 + k * 7 + j, none⟩ = some u := by
  obtain ⟨ad2, cap2, e2, _, h2⟩ := h
  cases e2
  rcases h2 with h2 | ⟨b, i, e1, _, e3, e4⟩
  · omega
  · exact ⟨b, i, e1, e3, fun k hk W hW j u hu hj => by rw [hW.cell (p := ⟨b, i + k * 7 + j, none⟩) e3, e4 k hk j hj, hu]⟩
theorem alike_any (L M : List IN) (v v' : Value) (ln lm : Bool) (w : World) (h : PI w 0 L v) (h' : PI w 0 M v') (hL : L.length ≤ 9223372036854775807) (hM : M.length ≤ 9223372036854775807) : Calls Tryd.prog 18 #[.agg #[v, .bool ln], .agg #[v', .bool lm]] w fun e w' => e = .returned (.bool ((ln == lm) && alL L M)) ∧ Below w.heap.size w w' := by
  obtain ⟨ad, cap, rfl⟩ := h.form
  obtain ⟨ad', cap', rfl⟩ := h'.form
  have hb : Below w.heap.size w ((w.alloc (.cells #[.slice ad L.length cap, .bool ln] 24)).alloc (.cells #[.slice ad' M.length cap', .bool lm] 24)) := ((Below.refl _ _).alloc (Nat.le_refl _) _).alloc (by simp) _
  have he1 := heap_alloc_new w (.cells #[.slice ad L.length cap, .bool ln] 24)
  have hs : (w.alloc (.cells #[.slice ad L.length cap, .bool ln] 24)).heap.size = w.heap.size + 1 := by simp
  have he2 := heap_alloc_new (w.alloc (.cells #[.slice ad L.length cap, .bool ln] 24)) (.cells #[.slice ad' M.length cap', .bool lm] 24)
  rw [hs] at he2
  have he1' := (Below.heap_alloc (w.alloc (.cells #[.slice ad L.length cap, .bool ln] 24)) (.cells #[.slice ad' M.length cap', .bool lm] 24) w.heap.size (by omega)).trans he1
  obtain ⟨W, hW⟩ : ∃ W, W = (w.alloc (.cells #[.slice ad L.length cap, .bool ln] 24)).alloc (.cells #[.slice ad' M.length cap', .bool lm] 24) := ⟨_, rfl⟩
  rw [← hW] at hb he2 he1'
  have HW := Lib.hid hW
  have HB := Lib.hid hb
  have hl2 : w.heap.size + 1 < W.heap.size := (Array.getElem?_eq_some_iff.1 he2).1
  have HP := Lib.hid (h.below hb)
  have HQ := Lib.hid (h'.below hb)
  have HBo : Hid (∀ W2, Below W.heap.size W W2 → ((W2.cell? ⟨w.heap.size, 0, none⟩ = some (.slice ad L.length cap) ∧ W2.cell? ⟨w.heap.size, 1, none⟩ = some (.bool ln)) ∧ W2.cell? ⟨w.heap.size + 1, 0, none⟩ = some (.slice ad' M.length cap') ∧ W2.cell? ⟨w.heap.size + 1, 1, none⟩ = some (.bool lm)) ∧ w.heap.size < W2.heap.size ∧ w.heap.size + 1 < W2.heap.size) := Lib.hid fun W2 hw => by
    have hx := (hw.block w.heap.size (by omega)).trans he1'
    have hy := (hw.block (w.heap.size + 1) hl2).trans he2
    exact ⟨⟨⟨cell_of_row W2 w.heap.size 0 _ _ _ hx, cell_of_row W2 w.heap.size 1 _ _ _ hx⟩, cell_of_row W2 (w.heap.size + 1) 0 _ _ _ hy, cell_of_row W2 (w.heap.size + 1) 1 _ _ _ hy⟩, (Array.getElem?_eq_some_iff.1 hx).1, (Array.getElem?_eq_some_iff.1 hy).1⟩
  have hLI : (L.length : Int) ≤ 9223372036854775807 := by omega
  have hMI : (M.length : Int) ≤ 9223372036854775807 := by omega
  have HU := Lib.hid (fun i W => used_any i W)
  obtain ⟨⟨⟨b0, b1⟩, c0, c1⟩, bl, cl2⟩ := HBo.out W (Below.refl _ _)
  clear h h' hb he1 he2 he1' hW hs
  go_enter Tryd.func18, Tryd.ntmps18
  go_upto_region 1 with fail
  rw [← HW.out]
  by_cases hlen : L.length = M.length
  case neg =>
    have HR : Hid (((ln == lm) && alL L M) = false) := Lib.hid (by rw [alL_len L M hlen]; simp)
    have h1 : ((L.length : Int) == (M.length : Int)) = false := by simp; omega
    have h2 : ((L.length : Int) != (M.length : Int)) = true := by simp; omega
    have h3 : (L.length == M.length) = false := by simp; exact hlen
    clear hlen
    go_wp2_with fail
    all_goals go_ret
    all_goals exact ⟨by rw [HR.out]; first | rfl | simp_all, HB.out⟩
  by_cases hlm : ln = lm
  case neg =>
    have HR : Hid (((ln == lm) && alL L M) = false) := Lib.hid (by
      have : (ln == lm) = false := by simpa using hlm
      rw [this]; rfl)
    have h1 : ((L.length : Int) == (M.length : Int)) = true := by simp; omega
    have h2 : ((L.length : Int) != (M.length : Int)) = false := by simp; omega
    have h3 : (ln == lm) = false := by simpa using hlm
    have h4 : (ln != lm) = true := by simpa using hlm
    have HLn := Lib.hid hlen
    clear hlen hlm
    go_wp2_with fail
    all_goals go_ret
    all_goals exact ⟨by rw [HR.out]; first | rfl | simp_all, HB.out⟩
  subst hlm
  have HR : Hid (((ln == ln) && alL L M) = alL L M) := Lib.hid (by simp)
  have h1 : ((L.length : Int) == (M.length : Int)) = true := by simp; omega
  have h2 : ((L.length : Int) != (M.length : Int)) = false := by simp; omega
  have h3 : (ln == ln) = true := by simp
  have h4 : (ln != ln) = false := by simp
  have HLn := Lib.hid hlen
  clear hlen
  go_wp2_with fail
  go_loopw [5] (fun i wr => ∃ (k : Nat), k ≤ L.length ∧ i = .int .i64 k ∧ Hid (Below W.heap.size W wr ∧ alL L M = alL (L.drop k) (M.drop k))) (fun i _ => L.length - (intOf i).toNat)
  case atStart => exact ⟨0, Nat.zero_le _, rfl, Lib.hid ⟨Below.refl _ _, by rw [List.drop_zero, List.drop_zero]⟩⟩
  case round =>
    obtain ⟨k, hk, rfl, HK⟩ := hrel
    clear b0 b1 c0 c1 bl cl2
    obtain ⟨⟨⟨b0, b1⟩, c0, c1⟩, bl, cl2⟩ := HBo.out wr HK.out.1
    by_cases hkn : k < L.length
    · have ki : (k : Int) < L.length := by omega
      have hkm : k < M.length := by have := HLn.out; omega
      have km : (k : Int) < M.length := by omega
      have ki0 : (0 : Int) ≤ k := by omega
      obtain ⟨b, i0, rfl, hbl, hrL⟩ := rows_after HP.out (by omega)
      obtain ⟨b', i0', rfl, hbl', hrM⟩ := rows_after HQ.out (by omega)
      have hstep := HK.out.2
      rw [alL_drop L M k hkn hkm] at hstep
      have hRL := hrL k hkn
      have hRM := hrM k hkm
      obtain ⟨i, hi⟩ : ∃ i, i = L[k] := ⟨_, rfl⟩
      obtain ⟨j, hj⟩ : ∃ j, j = M[k] := ⟨_, rfl⟩
      rw [← hi] at hstep hRL
      rw [← hj] at hstep hRM
      have HRL := Lib.hid hRL
      have HRM := Lib.hid hRM
      have HBl := Lib.hid (And.intro hbl hbl')
      have hbr : b < wr.heap.size := Nat.lt_of_lt_of_le hbl HK.out.1.size
      have hbr' : b' < wr.heap.size := Nat.lt_of_lt_of_le hbl' HK.out.1.size
      have nq := neq_IN (usedI i) (usedI j)
      have HUi := Lib.hid (fun W => HU.out i W)
      have HUj := Lib.hid (fun W => HU.out j W)
      have HSt := Lib.hid hstep
      have l0 : wr.cell? ⟨b, i0 + k * 7, none⟩ = some (.int .i64 i.op) := HRL.out wr HK.out.1 0 _ rfl (by decide)
      have l1 := HRL.out wr HK.out.1 1 _ rfl (by decide)
      have l2 := HRL.out wr HK.out.1 2 _ rfl (by decide)
      have l3 := HRL.out wr HK.out.1 3 _ rfl (by decide)
      have l4 := HRL.out wr HK.out.1 4 _ rfl (by decide)
      have l5 := HRL.out wr HK.out.1 5 _ rfl (by decide)
      have l6 := HRL.out wr HK.out.1 6 _ rfl (by decide)
      have m0 : wr.cell? ⟨b', i0' + k * 7, none⟩ = some (.int .i64 j.op) := HRM.out wr HK.out.1 0 _ rfl (by decide)
      have m1 := HRM.out wr HK.out.1 1 _ rfl (by decide)
      have m2 := HRM.out wr HK.out.1 2 _ rfl (by decide)
      have m3 := HRM.out wr HK.out.1 3 _ rfl (by decide)
      have m4 := HRM.out wr HK.out.1 4 _ rfl (by decide)
      have m5 := HRM.out wr HK.out.1 5 _ rfl (by decide)
      have m6 := HRM.out wr HK.out.1 6 _ rfl (by decide)
      generalize eqIN (usedI i) (usedI j) = eb at *
      generalize usedI i = ui at *
      generalize usedI j = uj at *
      clear hrL hrM hstep hRL hRM hi hj hbl hbl' HU h1 h2 h3 h4
      go_upto_region 6 with fail
      go_region_law
        (first
          | (go_simp; go_at_call 31; (with_reducible refine (HUi.out _).mono ?_); rintro e w1 ⟨rfl, hb1⟩
             have HB1 : Hid (Below W.heap.size W w1) := Lib.hid (HK.out.1.trans (((Below.refl _ _).drew.trans hb1).mono HK.out.1.size))
             clear b0 b1 c0 c1 bl cl2 l0 l1 l2 l3 l4 l5 l6 m0 m1 m2 m3 m4 m5 m6
             obtain ⟨⟨⟨b0, b1⟩, c0, c1⟩, bl, cl2⟩ := HBo.out w1 HB1.out
             have hb1r : b' < w1.heap.size := Nat.lt_of_lt_of_le HBl.out.2 HB1.out.size
             have m0 : w1.cell? ⟨b', i0' + k * 7, none⟩ = some (.int .i64 j.op) := HRM.out w1 HB1.out 0 _ rfl (by decide)
             have m1 := HRM.out w1 HB1.out 1 _ rfl (by decide)
             have m2 := HRM.out w1 HB1.out 2 _ rfl (by decide)
             have m3 := HRM.out w1 HB1.out 3 _ rfl (by decide)
             have m4 := HRM.out w1 HB1.out 4 _ rfl (by decide)
             have m5 := HRM.out w1 HB1.out 5 _ rfl (by decide)
             have m6 := HRM.out w1 HB1.out 6 _ rfl (by decide)
             clear hb1)
          | (go_simp; go_at_call 31; (with_reducible refine (HUj.out _).mono ?_); rintro e w2 ⟨rfl, hb2⟩
             have HB2 : Hid (Below W.heap.size W w2) := Lib.hid (HB1.out.trans (hb2.mono HB1.out.size))
             clear hb2))
      all_goals clear b0 b1 c0 c1 bl cl2 m0 m1 m2 m3 m4 m5 m6 nq
      all_goals cases eb
      all_goals first
        | (go_wp2_with fail
           go_ret
           exact ⟨by rw [HR.out, HSt.out]; rfl, HB.out.trans (HB2.out.mono HB.out.size)⟩)
        | (go_wp2_with fail
           go_roundw
           case rel => exact ⟨k + 1, by omega, by go_num, Lib.hid ⟨HB2.out, by rw [HSt.out]; rfl⟩⟩
           case measure => simp [intOf]; omega)
    · obtain rfl : k = L.length := by omega
      have hend := HK.out.2
      rw [List.drop_length, HLn.out, List.drop_length] at hend
      have HEnd : Hid (alL L M = true) := Lib.hid hend
      clear hend h1 h2 h3 h4
      go_wp2_with fail
      go_ret
      exact ⟨by rw [HR.out, HEnd.out]; rfl, HB.out.trans (HK.out.1.mono HB.out.size)⟩
end Go.Proofs.YtbjobbkipmkndaaDoor
