/- RpMem, RpCmp. -/
import Derived.Test.YtbjobbkipmkndaaDoorPj16
import Derived.OneCell
import Derived.Deep.AppendLies
import Derived.Deep.RegionLaw
import Derived.StillTailTactics
import Derived.Deep.QuietTactic
import Derived.BigQuiet
import Derived.RegionTactic
import Derived.ChangeAlike
import Derived.StillTactics
import Derived.Deep.RegionHeld3
set_option linter.unusedVariables false
set_option linter.unusedSimpArgs false
set_option maxRecDepth 100000
set_option maxHeartbeats 8000000
namespace Go.Proofs.YtbjobbkipmkndaaDoor
open Go.RowKit
def rowI (i : IN) : List Value := [.int .i64 i.op, .int .u64 (wd i.st 0 64 : Nat), .int .u64 (wd i.st 64 64 : Nat), .int .u64 (wd i.st 128 64 : Nat), .int .u64 (wd i.st 192 64 : Nat), .int .i64 i.x, .int .i64 i.y]
def rowsI (L : List IN) : List Value := L.flatMap rowI
theorem rowI_len (i : IN) : (rowI i).length = 7 := rfl
theorem rowsI_len (L : List IN) : (rowsI L).length = L.length * 7 := by
  induction L with
  | nil => rfl
  | cons i r ih => show (rowI i ++ rowsI r).length = (r.length + 1) * 7; rw [List.length_append, ih, rowI_len]; omega
theorem rowsI_snoc (L : List IN) (i : IN) : rowsI (L ++ [i]) = rowsI L ++ rowI i := by simp [rowsI]
theorem rowsI_get : ∀ (L : List IN) (k : Nat) (hk : k < L.length) (j : Nat), j < 7 → (rowsI L)[k * 7 + j]? = (rowI (L[k]'hk))[j]?
  | [], _, h, _, _ => by cases h
  | i :: r, 0, _, j, hj => by
    show (rowI i ++ rowsI r)[0 * 7 + j]? = _
    rw [Nat.zero_mul, Nat.zero_add, List.getElem?_append_left (by rw [rowI_len]; exact hj)]
    rfl
  | i :: r, k + 1, hk, j, hj => by
    show (rowI i ++ rowsI r)[(k + 1) * 7 + j]? = _
    rw [List.getElem?_append_right (by rw [rowI_len]; omega), rowI_len, show (k + 1) * 7 + j - 7 = k * 7 + j by omega]
    exact rowsI_get r k (by have : k + 1 < r.length + 1 := hk; omega) j hj
theorem rowsI_set : ∀ (L : List IN) (k : Nat) (i : IN) (hk : k < L.length) (j : Nat) (v : Value), j < 7 → (rowI (L[k]'hk)).set j v = rowI i → (rowsI L).set (k * 7 + j) v = rowsI (L.set k i)
  | [], _, _, h, _, _, _, _ => by cases h
  | a :: r, 0, i, _, j, v, hj, e => by
    show (rowI a ++ rowsI r).set (0 * 7 + j) v = rowI i ++ rowsI r
    rw [Nat.zero_mul, Nat.zero_add, List.set_append_left _ _ (by rw [rowI_len]; exact hj)]
    have e : (rowI a).set j v = rowI i := e
    rw [e]
  | a :: r, k + 1, i, hk, j, v, hj, e => by
    show (rowI a ++ rowsI r).set ((k + 1) * 7 + j) v = rowI a ++ rowsI (r.set k i)
    rw [List.set_append_right _ _ (by rw [rowI_len]; omega), rowI_len, show (k + 1) * 7 + j - 7 = k * 7 + j by omega]
    rw [rowsI_set r k i (by have : k + 1 < r.length + 1 := hk; omega) j v hj e]
theorem infoI : (Tryd.prog.info? 39).map (fun i => (i.zero, i.size, i.bytes)) = some (some (.agg #[.int .i64 0, .int .u64 0, .int .u64 0, .int .u64 0, .int .u64 0, .int .i64 0, .int .i64 0]), 7, 56) := by kernel_rfl
structure WM (w : World) (P : Nat) (v : Value) (L : List IN) : Prop where
  wr : w.heap[P]? = some (.cells #[v] 78 (0, 0))
  own : w.ownsRow (P + 1) 39 7 v L.length (rowsI L)
theorem WM.lt {w : World} {P : Nat} {v : Value} {L : List IN} (h : WM w P v L) : P < w.heap.size := (Array.getElem?_eq_some_iff.1 h.wr).1
theorem WM.below {w w' : World} {P : Nat} {v : Value} {L : List IN} (h : WM w P v L) (hb : Below w.heap.size w w') : WM w' P v L := ⟨(hb.block P h.lt).trans h.wr, own_below h.own hb⟩
theorem WM.drew {w : World} {P : Nat} {v : Value} {L : List IN} (h : WM w P v L) : WM w.drew P v L := ⟨h.wr, h.own⟩
theorem WM.cell {w : World} {P : Nat} {v : Value} {L : List IN} (h : WM w P v L) : w.cell? ⟨P, 0, none⟩ = some v := cell_of_row w P 0 _ _ _ h.wr
theorem WM.free {w : World} {P : Nat} {v : Value} {L : List IN} (h : WM w P v L) (j : Nat) : w.frozen? ⟨P, j, none⟩ = false := frozen_of_row w P j _ _ h.wr
theorem WM.ne {w : World} {P : Nat} {v : Value} {L : List IN} (h : WM w P v L) : ¬ v.ownBlock = some P := fun e => by have := (own_at h.own P e).1; omega
structure Mv (P : Nat) (v : Value) (w : World) (v' : Value) (w' : World) : Prop where
  keep : Keep (fun b => b = P ∨ v.ownBlock = some b) w w'
  own : ∀ g, v'.ownBlock = some g → v.ownBlock = some g ∨ w.heap.size ≤ g
theorem Mv.refl (P : Nat) (v : Value) (w : World) : Mv P v w v w := ⟨.refl _ _, fun _ h => .inl h⟩
theorem Mv.of_below {P : Nat} {v : Value} {w w' : World} (h : Below w.heap.size w w') : Mv P v w v w' := ⟨.of_below h, fun _ h => .inl h⟩
theorem Mv.trans {P : Nat} {u v x : Value} {a b c : World} (h : Mv P u a v b) (k : Mv P v b x c) : Mv P u a x c := by
  refine ⟨h.keep.trans k.keep fun g hg hs => ?_, fun g hg => ?_⟩
  · rcases hs with hs | hs
    · exact .inl hs
    · rcases h.own g hs with e | e
      · exact .inr e
      · omega
  · rcases k.own g hg with e | e
    · exact h.own g e
    · right; have := h.keep.size; omega
theorem Mv.next {P : Nat} {u v : Value} {a b c : World} (h : Mv P u a v b) (k : Below b.heap.size b c) : Mv P u a v c := h.trans (.of_below k)
theorem Mv.drew {P : Nat} {u v : Value} {a b : World} (h : Mv P u a v b) : Mv P u a v b.drew := ⟨h.keep.drew, h.own⟩
theorem Mv.size {P : Nat} {u v : Value} {a b : World} (h : Mv P u a v b) : a.heap.size ≤ b.heap.size := h.keep.size
theorem Mv.block {P : Nat} {u v : Value} {a b : World} (h : Mv P u a v b) {L : List IN} (hw : WM a P u L) {k : Nat} (hk : k < a.heap.size) (h1 : k ≠ P) (h2 : ¬ u.ownBlock = some k) : b.heap[k]? = a.heap[k]? := h.keep.block k hk (fun e => by rcases e with e | e; exact h1 e; exact h2 e)
theorem Mv.low {P : Nat} {u v : Value} {a b : World} (h : Mv P u a v b) {L : List IN} (hw : WM a P u L) {k : Nat} (hk : k < P) : b.heap[k]? = a.heap[k]? := h.keep.block k (by have := hw.lt; omega) (fun e => by
  rcases e with e | e
  · omega
  · have := (own_at hw.own k e).1; omega)
theorem Mv.bel {P : Nat} {u v : Value} {a b : World} (h : Mv P u a v b) {L : List IN} (hw : WM a P u L) : Below P a b := h.keep.below (by have := hw.lt; omega) (fun g hg => by
  rcases hg with hg | hg
  · omega
  · have := (own_at hw.own g hg).1; omega)
theorem next_any (P : Nat) (v : Value) (L : List IN) (w : World) (h : WM w P v L) : Calls Tryd.prog 60 #[.pointer (some ⟨P, 0, none⟩)] w fun e w' => e = .returned (.int .i64 (L.length : Int)) ∧ w' = w := by
  obtain ⟨ad, cap, rfl⟩ := own_sl h.own
  have c0 := h.cell
  have f0 := h.free
  clear h
  go_enter Tryd.func60, Tryd.ntmps60
  go_wp2
  go_ret
  exact ⟨rfl, rfl⟩
theorem add_any (i : IN) (P : Nat) (v : Value) (L : List IN) (w : World) (h : WM w P v L) (hl : L.length < 1000000) : Calls Tryd.prog 42 #[.pointer (some ⟨P, 0, none⟩), .agg #[.int .i64 i.op, .int .u64 (wd i.st 0 64 : Nat), .int .u64 (wd i.st 64 64 : Nat), .int .u64 (wd i.st 128 64 : Nat), .int .u64 (wd i.st 192 64 : Nat), .int .i64 i.x, .int .i64 i.y]] w fun e w' => e = .returned (.int .i64 (L.length : Int)) ∧ ∃ v', WM w' P v' (L ++ [i]) ∧ Mv P v w v' w' := by
  obtain ⟨ad, cap, rfl⟩ := own_sl h.own
  have hlt := h.lt
  have hb : Below w.heap.size w (w.alloc (.cells #[.int .i64 i.op, .int .u64 (wd i.st 0 64 : Nat), .int .u64 (wd i.st 64 64 : Nat), .int .u64 (wd i.st 128 64 : Nat), .int .u64 (wd i.st 192 64 : Nat), .int .i64 i.x, .int .i64 i.y] 39)) := (Below.refl _ _).alloc (Nat.le_refl _) _
  obtain ⟨W, hW⟩ : ∃ W, W = w.alloc (.cells #[.int .i64 i.op, .int .u64 (wd i.st 0 64 : Nat), .int .u64 (wd i.st 64 64 : Nat), .int .u64 (wd i.st 128 64 : Nat), .int .u64 (wd i.st 192 64 : Nat), .int .i64 i.x, .int .i64 i.y] 39) := ⟨_, rfl⟩
  have hrow : W.heap[w.heap.size]? = some (.cells #[.int .i64 i.op, .int .u64 (wd i.st 0 64 : Nat), .int .u64 (wd i.st 64 64 : Nat), .int .u64 (wd i.st 128 64 : Nat), .int .u64 (wd i.st 192 64 : Nat), .int .i64 i.x, .int .i64 i.y] 39 (0, 0)) := by rw [hW]; exact heap_alloc_new w _
  rw [← hW] at hb
  have HM := Lib.hid (h.below hb)
  have HB := Lib.hid hb
  have hlW : P < W.heap.size := HM.out.lt
  have HW := Lib.hid hW
  clear h hb hW
  obtain ⟨i0, hi0, hz0, hz1, hz2⟩ := info_parts infoI
  go_enter Tryd.func42, Tryd.ntmps42
  go_upto_region 1 with fail
  rw [← HW.out]
  have cW := HM.out.cell
  have fW := HM.out.free 0
  have cWa : (W.alloc (.cells #[.int .i64 i.op, .int .u64 (wd i.st 0 64 : Nat), .int .u64 (wd i.st 64 64 : Nat), .int .u64 (wd i.st 128 64 : Nat), .int .u64 (wd i.st 192 64 : Nat), .int .i64 i.x, .int .i64 i.y] 39)).cell? ⟨P, 0, none⟩ = some (.slice ad L.length cap) := (World.cell?_of_block (w := W) (Below.heap_alloc W (.cells #[.int .i64 i.op, .int .u64 (wd i.st 0 64 : Nat), .int .u64 (wd i.st 64 64 : Nat), .int .u64 (wd i.st 128 64 : Nat), .int .u64 (wd i.st 192 64 : Nat), .int .i64 i.x, .int .i64 i.y] 39) P (by omega))).trans cW
  have r0 := cell_of_row W w.heap.size 0 _ _ _ hrow
  have r1 := cell_of_row W w.heap.size 1 _ _ _ hrow
  have r2 := cell_of_row W w.heap.size 2 _ _ _ hrow
  have r3 := cell_of_row W w.heap.size 3 _ _ _ hrow
  have r4 := cell_of_row W w.heap.size 4 _ _ _ hrow
  have r5 := cell_of_row W w.heap.size 5 _ _ _ hrow
  have r6 := cell_of_row W w.heap.size 6 _ _ _ hrow
  have hnP : ¬ (Value.slice ad L.length cap).ownBlock = some P := HM.out.ne
  go_region_law
    ((refine step_append_lies _ (by rfl) _ _ _ (by rfl) (P + 1) 39 i0 _ 7 56 Tryd.underlying22 hi0 hz0 hz1 hz2 rfl (by omega) (.slice ad L.length cap) L.length (rowsI L) (by rfl) (HM.out.own.alloc (.cells #[.int .i64 i.op, .int .u64 (wd i.st 0 64 : Nat), .int .u64 (wd i.st 64 64 : Nat), .int .u64 (wd i.st 128 64 : Nat), .int .u64 (wd i.st 192 64 : Nat), .int .i64 i.x, .int .i64 i.y] 39))
        ⟨W.heap.size, 0, none⟩ 1 1 (rowI i) (by rfl) (by rfl) (World.news_of_block (cs := #[.int .i64 i.op, .int .u64 (wd i.st 0 64 : Nat), .int .u64 (wd i.st 64 64 : Nat), .int .u64 (wd i.st 128 64 : Nat), .int .u64 (wd i.st 192 64 : Nat), .int .i64 i.x, .int .i64 i.y]) (t := 39) (fr := (0, 0)) (heap_alloc_new W _)) (by simp [rowI, Value.oneCell'])
        (by omega) (by unfold maxLen; omega) (by omega) (by simp; omega) (W.heap.size + 1) (by simp) ?_; intro gg cp w1 hown1 hgrow hat hlt1; have fW1 : w1.frozen? ⟨P, 0, none⟩ = false := (hgrow.frozen_far _ (by simp; omega) (Ne.symm hnP)).trans ((World.frozen?_of_block (w := W) (Below.heap_alloc W (.cells #[.int .i64 i.op, .int .u64 (wd i.st 0 64 : Nat), .int .u64 (wd i.st 64 64 : Nat), .int .u64 (wd i.st 128 64 : Nat), .int .u64 (wd i.st 192 64 : Nat), .int .i64 i.x, .int .i64 i.y] 39) P (by omega))).trans fW); have cW1 : w1.cell? ⟨P, 0, none⟩ = some (.slice ad L.length cap) := (hgrow.cell_far _ (by simp; omega) (Ne.symm hnP)).trans ((World.cell?_of_block (w := W) (Below.heap_alloc W (.cells #[.int .i64 i.op, .int .u64 (wd i.st 0 64 : Nat), .int .u64 (wd i.st 64 64 : Nat), .int .u64 (wd i.st 128 64 : Nat), .int .u64 (wd i.st 192 64 : Nat), .int .i64 i.x, .int .i64 i.y] 39) P (by omega))).trans cW)))
  all_goals
    have hmv : WM (w1.setCell ⟨P, 0, none⟩ (.slice (some ⟨gg, 0, none⟩) (L.length + 1) cp)) P (.slice (some ⟨gg, 0, none⟩) (L.length + 1) cp) (L ++ [i]) ∧ Mv P (.slice ad L.length cap) w (.slice (some ⟨gg, 0, none⟩) (L.length + 1) cp) (w1.setCell ⟨P, 0, none⟩ (.slice (some ⟨gg, 0, none⟩) (L.length + 1) cp)) := by
      have hbW : w1.heap[P]? = some (.cells #[.slice ad L.length cap] 78 (0, 0)) := (hgrow.block P (by simp; omega) (Ne.symm hnP)).trans ((Below.heap_alloc W _ P (by omega)).trans HM.out.wr)
      have hsz := HB.out.size
      refine ⟨⟨one_setCell hbW, ?_⟩, ?_, ?_⟩
      · rw [List.length_append, rowsI_snoc]
        exact ownsRow_setCell_below hown1 (by show P < P + 1; omega) _
      · have k1 : Keep (fun b => b = P ∨ (Value.slice ad L.length cap).ownBlock = some b) w w1 := ((Keep.of_below HB.out).alloc _).drew.grown hgrow (fun k e _ => .inr e)
        exact k1.put P 0 (.inl (.inl rfl)) _
      · intro g hg
        cases hg
        rcases hat with hat | hat
        · exact .inl hat
        · right; show w.heap.size ≤ gg; omega
    have HMv := Lib.hid hmv
    have cN := hmv.1.cell
    clear hmv hown1 hgrow hat hlt1 cW1 fW1 cWa cW fW r0 r1 r2 r3 r4 r5 r6
    go_wp2
    go_ret
    first
      | exact ⟨congrArg (fun x : Int => Ending.returned (Value.int .i64 x)) (by omega), _, HMv.out.1, HMv.out.2⟩
      | exact ⟨rfl, _, HMv.out.1, HMv.out.2⟩
end Go.Proofs.YtbjobbkipmkndaaDoor
set_option linter.unusedVariables false
set_option linter.unusedSimpArgs false
set_option maxRecDepth 100000
set_option maxHeartbeats 8000000
namespace Go.Proofs.YtbjobbkipmkndaaDoor
open Go.RowKit
theorem WM.at {w : World} {P g cap : Nat} {L : List IN} (h : WM w P (.slice (some ⟨g, 0, none⟩) L.length cap) L) (k : Nat) (hk : k < L.length) (j : Nat) (hj : j < 7) : w.cell? ⟨g, k * 7 + j, none⟩ = (rowI (L[k]'hk))[j]? := by
  have := h.own.cellAt (k * 7 + j) (by omega)
  rw [this, rowsI_get L k hk j hj]
theorem WM.put {w : World} {P g cap k j : Nat} {L : List IN} (h : WM w P (.slice (some ⟨g, 0, none⟩) L.length cap) L) (hk : k < L.length) (hj : j < 7) (u : Value) (i : IN) (e : (rowI (L[k]'hk)).set j u = rowI i) :
    WM (w.setCell ⟨g, k * 7 + j, none⟩ u) P (.slice (some ⟨g, 0, none⟩) L.length cap) (L.set k i) ∧ Keep (fun b => b = P ∨ (Value.slice (some ⟨g, 0, none⟩) L.length cap).ownBlock = some b) w (w.setCell ⟨g, k * 7 + j, none⟩ u) := by
  obtain ⟨h1, h2⟩ := h.own.stored (k * 7 + j) u
  have hg := own_at h.own g rfl
  refine ⟨⟨(h2.block P h.lt (fun e => by cases e; omega)).trans h.wr, ?_⟩, (Keep.refl _ _).grown h2 (fun k e _ => .inr e)⟩
  rw [List.length_set, ← rowsI_set L k i hk j u hj e]
  exact h1
theorem complete_any (s : Nat) (P : Nat) (v : Value) (L : List IN) (w : World) (h : WM w P v L) (hs : s < L.length) (hl : L.length < 1000000) : Calls Tryd.prog 59 #[.pointer (some ⟨P, 0, none⟩), .int .i64 (s : Int)] w fun e w' => e = .returned (.tuple #[]) ∧ WM w' P v (L.set s ⟨(L[s]).op, (L[s]).st, ((s + 1 : Nat) : Int), (L.length : Int)⟩) ∧ Mv P v w v w' := by
  obtain ⟨g, cap, rfl⟩ := own_more h.own (by omega)
  have c0 := h.cell
  have f0 := h.free 0
  have cX : w.cell? ⟨g, s * 7 + 5, none⟩ = some (.int .i64 (L[s]).x) := h.at s hs 5 (by decide)
  have cY : w.cell? ⟨g, s * 7 + 6, none⟩ = some (.int .i64 (L[s]).y) := h.at s hs 6 (by decide)
  have fX : w.frozen? ⟨g, s * 7 + 5, none⟩ = false := h.own.frozenAt _
  have fY : w.frozen? ⟨g, s * 7 + 6, none⟩ = false := h.own.frozenAt _
  have HM := Lib.hid h.drew
  have HN := Lib.hid (fun W (hW : WM W P (.slice (some ⟨g, 0, none⟩) L.length cap) L) => next_any P _ L W hW)
  have s0 : (0 : Int) ≤ (s : Int) := by omega
  have s1 : (s : Int) < (L.length : Int) := by omega
  have s2 : (s : Int) ≤ 999999 := by omega
  have s3 : (L.length : Int) ≤ 999999 := by omega
  have HS := Lib.hid hs
  have hn : g ≠ P := fun e => h.ne (by rw [← e]; rfl)
  obtain ⟨m1, k1⟩ := h.drew.put hs (j := 5) (by decide) (.int .i64 ((s : Int) + 1)) ⟨(L[s]).op, (L[s]).st, (s : Int) + 1, (L[s]).y⟩ rfl
  have hs' : s < (L.set s ⟨(L[s]).op, (L[s]).st, (s : Int) + 1, (L[s]).y⟩).length := by rw [List.length_set]; exact hs
  have e1 : (L.set s ⟨(L[s]).op, (L[s]).st, (s : Int) + 1, (L[s]).y⟩)[s]'hs' = ⟨(L[s]).op, (L[s]).st, (s : Int) + 1, (L[s]).y⟩ := by simp
  have e2 : (L.set s ⟨(L[s]).op, (L[s]).st, (s : Int) + 1, (L[s]).y⟩).length = L.length := by simp
  have m1' : WM (w.drew.setCell ⟨g, s * 7 + 5, none⟩ (.int .i64 ((s : Int) + 1))) P (.slice (some ⟨g, 0, none⟩) (L.set s ⟨(L[s]).op, (L[s]).st, (s : Int) + 1, (L[s]).y⟩).length cap) (L.set s ⟨(L[s]).op, (L[s]).st, (s : Int) + 1, (L[s]).y⟩) := by rw [e2]; exact m1
  obtain ⟨m2, k2⟩ := m1'.put hs' (j := 6) (by decide) (.int .i64 (L.length : Int)) ⟨(L[s]).op, (L[s]).st, (s : Int) + 1, (L.length : Int)⟩ (by rw [e1]; rfl)
  rw [List.set_set, e2] at m2
  have HS1 := Lib.hid m1.cell
  have HS2 := Lib.hid m2.cell
  have k3 := ((Keep.refl (fun b => b = P ∨ (Value.slice (some ⟨g, 0, none⟩) L.length cap).ownBlock = some b) w).drew.trans k1 (fun _ _ e => e)).trans k2 (fun k _ e => by rcases e with e | e; exact .inl e; exact .inr (by simpa using e))
  have HF : Hid (WM _ P (.slice (some ⟨g, 0, none⟩) L.length cap) (L.set s ⟨(L[s]).op, (L[s]).st, ((s + 1 : Nat) : Int), (L.length : Int)⟩) ∧ Mv P (.slice (some ⟨g, 0, none⟩) L.length cap) w (.slice (some ⟨g, 0, none⟩) L.length cap) _) := Lib.hid ⟨m2, k3, fun _ e => .inl e⟩
  clear h m1 k1 hs' e1 e2 m1' m2 k2 k3
  have HWr : Hid (IntKind.i64.wrap ((s : Int) + 1) = (s : Int) + 1) := Lib.hid (IntWalk.i64_in _ (by omega))
  generalize (L[s]).x = x0 at cX
  generalize (L[s]).y = y0 at cY
  go_enter Tryd.func59, Tryd.ntmps59
  refine wp_region_held_drew (S := fun w' => w'.cell? ⟨P, 0, none⟩ = some (.slice (some ⟨g, 0, none⟩) L.length cap)) (by kernel_rfl) ?_ (fun hHeld => ?_)
  · exact c0
  refine wpAnyH_take (i := 0) (v := ?cv0) rfl (by kernel_rfl) (by kernel_rfl) (by kernel_rfl) (fun _ _ _ h => h) (Or.inl ⟨by rfl, ?cy0⟩) (by assumption) ?cr0
  case cy0 =>
    intro wx hSw
    go_simp
    first | done | (with_reducible rfl)
  (try simp only [Act.put, List.getElem_toArray, List.getElem_cons_succ, List.getElem_cons_zero, List.setIfInBounds_toArray, List.set_cons_zero, List.set_cons_succ])
  refine wpAnyH_take (i := 1) (v := ?cv1) rfl (by kernel_rfl) (by kernel_rfl) (by kernel_rfl) (fun _ _ _ h => h) (Or.inl ⟨by rfl, ?cy1⟩) (by assumption) ?cr1
  case cy1 =>
    intro wx hSw
    go_simp
    first | done | (with_reducible rfl)
  (try simp only [Act.put, List.getElem_toArray, List.getElem_cons_succ, List.getElem_cons_zero, List.setIfInBounds_toArray, List.set_cons_zero, List.set_cons_succ])
  refine wpAnyH_take (i := 2) (v := ?cv2) rfl (by kernel_rfl) (by kernel_rfl) (by kernel_rfl) (fun _ _ _ h => h) (Or.inl ⟨by rfl, ?cy2⟩) (by assumption) ?cr2
  case cy2 =>
    intro wx hSw
    go_simp
    first | done | (with_reducible rfl)
  (try simp only [Act.put, List.getElem_toArray, List.getElem_cons_succ, List.getElem_cons_zero, List.setIfInBounds_toArray, List.set_cons_zero, List.set_cons_succ])
  refine wpAnyH_take (i := 3) (v := ?cv3) rfl (by kernel_rfl) (by kernel_rfl) (by kernel_rfl) (fun _ _ _ h => h) (Or.inl ⟨by rfl, ?cy3⟩) (by assumption) ?cr3
  case cy3 =>
    intro wx hSw
    go_simp
    first | done | (with_reducible rfl)
  (try simp only [Act.put, List.getElem_toArray, List.getElem_cons_succ, List.getElem_cons_zero, List.setIfInBounds_toArray, List.set_cons_zero, List.set_cons_succ])
  refine wpAnyH_take (i := 4) (v := ?cv4) rfl (by kernel_rfl) (by kernel_rfl) (by kernel_rfl) (fun _ _ _ h => h) (Or.inl ⟨by rfl, ?cy4⟩) (by assumption) ?cr4
  case cy4 =>
    intro wx hSw
    go_simp
    first | done | (with_reducible rfl)
  (try simp only [Act.put, List.getElem_toArray, List.getElem_cons_succ, List.getElem_cons_zero, List.setIfInBounds_toArray, List.set_cons_zero, List.set_cons_succ])
  refine wpAnyH_take (i := 5) (v := ?cv5) rfl (by kernel_rfl) (by kernel_rfl) (by kernel_rfl) (fun _ _ _ h => h) (Or.inl ⟨by rfl, ?cy5⟩) (by assumption) ?cr5
  case cy5 =>
    intro wx hSw
    go_simp
    first | done | (with_reducible rfl)
  (try simp only [Act.put, List.getElem_toArray, List.getElem_cons_succ, List.getElem_cons_zero, List.setIfInBounds_toArray, List.set_cons_zero, List.set_cons_succ])
  refine wpAnyH_take (i := 6) (v := ?cv6) rfl (by kernel_rfl) (by kernel_rfl) (by kernel_rfl) (fun _ _ _ h => h) (Or.inl ⟨by rfl, ?cy6⟩) (by assumption) ?cr6
  case cy6 =>
    intro wx hSw
    go_simp
    first | done | (with_reducible rfl)
  (try simp only [Act.put, List.getElem_toArray, List.getElem_cons_succ, List.getElem_cons_zero, List.setIfInBounds_toArray, List.set_cons_zero, List.set_cons_succ])
  refine wpAnyH_take (i := 7) (v := ?cv7) rfl (by kernel_rfl) (by kernel_rfl) (by kernel_rfl) (fun _ _ _ h => h) (Or.inl ⟨by rfl, ?cy7⟩) (by assumption) ?cr7
  case cy7 =>
    intro wx hSw
    go_simp
    first | done | (with_reducible rfl)
  (try simp only [Act.put, List.getElem_toArray, List.getElem_cons_succ, List.getElem_cons_zero, List.setIfInBounds_toArray, List.set_cons_zero, List.set_cons_succ])
  refine wpAnyH_take (i := 8) (v := ?cv8) rfl (by kernel_rfl) (by kernel_rfl) (by kernel_rfl) (fun _ _ _ h => h) (Or.inl ⟨by rfl, ?cy8⟩) (by assumption) ?cr8
  case cy8 =>
    intro wx hSw
    go_simp
    first | done | (with_reducible rfl)
  (try simp only [Act.put, List.getElem_toArray, List.getElem_cons_succ, List.getElem_cons_zero, List.setIfInBounds_toArray, List.set_cons_zero, List.set_cons_succ])
  refine wpAnyH_take (i := 9) (v := ?cv9) rfl (by kernel_rfl) (by kernel_rfl) (by kernel_rfl) (fun _ _ _ h => h) (Or.inl ⟨by rfl, ?cy9⟩) (by assumption) ?cr9
  case cy9 =>
    intro wx hSw
    go_simp
    first | done | (with_reducible rfl)
  (try simp only [Act.put, List.getElem_toArray, List.getElem_cons_succ, List.getElem_cons_zero, List.setIfInBounds_toArray, List.set_cons_zero, List.set_cons_succ])
  refine wpAnyH_take (i := 10) (v := ?cv10) rfl (by kernel_rfl) (by kernel_rfl) (by kernel_rfl) (fun _ _ _ h => h) (Or.inl ⟨by rfl, ?cy10⟩) (by assumption) ?cr10
  case cy10 =>
    intro wx hSw
    go_simp
    first | done | (with_reducible rfl)
  (try simp only [Act.put, List.getElem_toArray, List.getElem_cons_succ, List.getElem_cons_zero, List.setIfInBounds_toArray, List.set_cons_zero, List.set_cons_succ])
  refine wpAnyH_take (i := 11) (v := ?cv11) rfl (by kernel_rfl) (by kernel_rfl) (by kernel_rfl) (fun _ _ _ h => h) (Or.inl ⟨by rfl, ?cy11⟩) (by assumption) ?cr11
  case cy11 =>
    intro wx hSw
    go_simp
    first | done | (with_reducible rfl)
  (try simp only [Act.put, List.getElem_toArray, List.getElem_cons_succ, List.getElem_cons_zero, List.setIfInBounds_toArray, List.set_cons_zero, List.set_cons_succ])
  refine wpAnyH_take (i := 12) (v := ?cv12) rfl (by kernel_rfl) (by kernel_rfl) (by kernel_rfl) (fun _ _ _ h => h) (Or.inl ⟨by rfl, ?cy12⟩) (by assumption) ?cr12
  case cy12 =>
    intro wx hSw
    go_simp
    first | done | (with_reducible rfl)
  (try simp only [Act.put, List.getElem_toArray, List.getElem_cons_succ, List.getElem_cons_zero, List.setIfInBounds_toArray, List.set_cons_zero, List.set_cons_succ])
  refine wpAnyH_ready (rs := [13]) (by kernel_rfl) (by simp) ?_
  refine AllReadyH.cons rfl (fun K hK => ?_) AllReadyH.nil
  go_simp
  go_at_call 60
  (with_reducible refine (HN.out _ HM.out).mono ?_)
  rintro e w1 ⟨rfl, rfl⟩
  refine hK.out _ _ ?_ (fun hHeld1 => ?_)
  · assumption
  clear hK K
  (try simp only [Act.put, List.getElem_toArray, List.getElem_cons_succ, List.getElem_cons_zero, List.setIfInBounds_toArray, List.set_cons_zero, List.set_cons_succ])
  refine wpAnyH_take (i := 14) (v := ?cv14) rfl (by kernel_rfl) (by kernel_rfl) (by kernel_rfl) (fun _ _ _ h => h) (Or.inl ⟨by rfl, ?cy14⟩) (by assumption) ?cr14
  case cy14 =>
    intro wx hSw
    go_simp
    first | done | (with_reducible rfl)
  (try simp only [Act.put, List.getElem_toArray, List.getElem_cons_succ, List.getElem_cons_zero, List.setIfInBounds_toArray, List.set_cons_zero, List.set_cons_succ])
  refine wpAnyH_take (i := 15) (v := ?cv15) rfl (by kernel_rfl) (by kernel_rfl) (by kernel_rfl) (fun _ _ _ h => h) (Or.inl ⟨by rfl, ?cy15⟩) (by assumption) ?cr15
  case cy15 =>
    intro wx hSw
    go_simp
    first | done | (with_reducible rfl)
  (try simp only [Act.put, List.getElem_toArray, List.getElem_cons_succ, List.getElem_cons_zero, List.setIfInBounds_toArray, List.set_cons_zero, List.set_cons_succ])
  refine wpAnyH_ready (rs := [16]) (by kernel_rfl) (by simp) ?_
  refine AllReadyH.cons rfl (fun K hK => ?_) AllReadyH.nil
  go_simp
  refine hK.out _ _ ?_ (fun hHeld2 => ?_)
  · rw [HWr.out]; exact HS1.out
  clear hK K
  (try simp only [Act.put, List.getElem_toArray, List.getElem_cons_succ, List.getElem_cons_zero, List.setIfInBounds_toArray, List.set_cons_zero, List.set_cons_succ])
  refine wpAnyH_take (i := 17) (v := ?cv17) rfl (by kernel_rfl) (by kernel_rfl) (by kernel_rfl) (fun _ _ _ h => h) (Or.inl ⟨by rfl, ?cy17⟩) (by assumption) ?cr17
  case cy17 =>
    intro wx hSw
    go_simp
    first | done | (with_reducible rfl)
  (try simp only [Act.put, List.getElem_toArray, List.getElem_cons_succ, List.getElem_cons_zero, List.setIfInBounds_toArray, List.set_cons_zero, List.set_cons_succ])
  refine wpAnyH_take (i := 18) (v := ?cv18) rfl (by kernel_rfl) (by kernel_rfl) (by kernel_rfl) (fun _ _ _ h => h) (Or.inl ⟨by rfl, ?cy18⟩) (by assumption) ?cr18
  case cy18 =>
    intro wx hSw
    go_simp
    first | done | (with_reducible rfl)
  (try simp only [Act.put, List.getElem_toArray, List.getElem_cons_succ, List.getElem_cons_zero, List.setIfInBounds_toArray, List.set_cons_zero, List.set_cons_succ])
  refine wpAnyH_ready (rs := [19]) (by kernel_rfl) (by simp) ?_
  refine AllReadyH.cons rfl (fun K hK => ?_) AllReadyH.nil
  go_simp
  refine hK.out _ _ ?_ (fun hHeld3 => ?_)
  · rw [HWr.out]; exact HS2.out
  clear hK K
  (try simp only [Act.put, List.getElem_toArray, List.getElem_cons_succ, List.getElem_cons_zero, List.setIfInBounds_toArray, List.set_cons_zero, List.set_cons_succ])
  refine wpAnyH_done (by kernel_rfl) ?_ _
  go_wp2_with fail
  go_end0
  rw [HWr.out]
  exact ⟨rfl, HF.out⟩
end Go.Proofs.YtbjobbkipmkndaaDoor
