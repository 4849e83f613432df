/- One node of the survey's walk. (Written by gen_rtw.py.) -/
import Derived.Test.YtpfbpgbgedbalaaRtA
import Derived.Test.YtpfbpgbgedbalaaRtOwn
import Derived.Deep.Cut
import Derived.Deep.CutRange
import Derived.Deep.DeepCutAuto
set_option linter.unusedVariables false
set_option linter.unusedSimpArgs false
set_option maxRecDepth 100000
set_option maxHeartbeats 8000000
namespace Go.Proofs.Ytpfbpgbgedbalaa
open Go.RowKit

def bls (c : List Bool) : List Value := c.map fun b => .bool b
/-- The cells of a survey. -/
def scells (q : SQ) (sv : Value) : Array Value := #[.int .i64 (q.n : Int), .int .i64 (q.lv : Int), .bool q.bk, sv, .bool q.wt, .bool q.wr, .bool q.wn, .bool q.st]
/-- The survey stands in block B. -/
def SA (w : World) (B : Nat) (q : SQ) (sv : Value) : Prop := w.heap[B]? = some (.cells (scells q sv) 76 (0, 0))
theorem SA.lt {w : World} {B : Nat} {q : SQ} {sv : Value} (h : SA w B q sv) : B < w.heap.size := (Array.getElem?_eq_some_iff.1 h).1
theorem SA.cell {w : World} {B : Nat} {q : SQ} {sv : Value} (h : SA w B q sv) (j : Nat) : w.cell? ⟨B, j, none⟩ = (scells q sv)[j]? := cell_of_row w B j _ _ _ h
theorem SA.free {w : World} {B : Nat} {q : SQ} {sv : Value} (h : SA w B q sv) (j : Nat) : w.frozen? ⟨B, j, none⟩ = false := frozen_of_row w B j _ _ h
theorem SA.below {w w' : World} {B : Nat} {q : SQ} {sv : Value} (h : SA w B q sv) (hb : Below w.heap.size w w') : SA w' B q sv := (hb.block B h.lt).trans h
theorem SA.put {w : World} {B : Nat} {q q' : SQ} {sv sv' : Value} (h : SA w B q sv) (j : Nat) (v : Value) (e : (scells q sv).setIfInBounds j v = scells q' sv') : SA (w.setCell ⟨B, j, none⟩ v) B q' sv' := by
  have := heap_setCell_same w B j _ _ v h
  rw [e] at this
  exact this
theorem SA.all {w : World} {B : Nat} {q : SQ} {sv : Value} (h : SA w B q sv) : ((w.cell? ⟨B, 0, none⟩ = some (.int .i64 (q.n : Int)) ∧ w.cell? ⟨B, 1, none⟩ = some (.int .i64 (q.lv : Int)) ∧ w.cell? ⟨B, 2, none⟩ = some (.bool q.bk) ∧ w.cell? ⟨B, 3, none⟩ = some sv) ∧
    (w.cell? ⟨B, 4, none⟩ = some (.bool q.wt) ∧ w.cell? ⟨B, 5, none⟩ = some (.bool q.wr) ∧ w.cell? ⟨B, 6, none⟩ = some (.bool q.wn) ∧ w.cell? ⟨B, 7, none⟩ = some (.bool q.st))) ∧ ∀ j, w.frozen? ⟨B, j, none⟩ = false :=
  ⟨⟨⟨h.cell 0, h.cell 1, h.cell 2, h.cell 3⟩, h.cell 4, h.cell 5, h.cell 6, h.cell 7⟩, h.free⟩
/-- A survey with its list of groups. -/
def SM (w : World) (B : Nat) (q : SQ) : Prop := ∃ sv, SA w B q sv ∧ w.ownsRow (B + 1) 4 1 sv q.cl.length (bls q.cl)
theorem SM.below {w w' : World} {B : Nat} {q : SQ} (h : SM w B q) (hb : Below w.heap.size w w') : SM w' B q := by
  obtain ⟨sv, h1, h2⟩ := h
  exact ⟨sv, h1.below hb, own_below h2 hb⟩
theorem nine {w : World} {P : Nat} {t : TypeId} {a0 a1 a2 a3 a4 a5 a6 a7 a8 : Value} (h : w.heap[P]? = some (.cells #[a0, a1, a2, a3, a4, a5, a6, a7, a8] t (0, 0))) : ((w.cell? ⟨P, 0, none⟩ = some a0 ∧ w.cell? ⟨P, 1, none⟩ = some a1 ∧ w.cell? ⟨P, 2, none⟩ = some a2) ∧ (w.cell? ⟨P, 3, none⟩ = some a3 ∧ w.cell? ⟨P, 4, none⟩ = some a4 ∧ w.cell? ⟨P, 5, none⟩ = some a5)) ∧ (w.cell? ⟨P, 6, none⟩ = some a6 ∧ w.cell? ⟨P, 7, none⟩ = some a7 ∧ w.cell? ⟨P, 8, none⟩ = some a8) :=
  ⟨⟨⟨cell_of_row w P 0 _ _ _ h, cell_of_row w P 1 _ _ _ h, cell_of_row w P 2 _ _ _ h⟩, cell_of_row w P 3 _ _ _ h, cell_of_row w P 4 _ _ _ h, cell_of_row w P 5 _ _ _ h⟩, cell_of_row w P 6 _ _ _ h, cell_of_row w P 7 _ _ _ h, cell_of_row w P 8 _ _ _ h⟩
theorem Below.only {n B : Nat} {a b c : World} (h : Below n a b) (k : Only B b c) (hn : n ≤ B) (hs : n ≤ b.heap.size) : Below n a c :=
  ⟨k.os.trans h.os, k.tape.trans h.tape, k.output.trans h.output, Nat.le_trans h.size k.size, fun j hj => (k.block j (by omega) (by omega)).trans (h.block j hj)⟩
/-- A node's walk under way: the survey in block B, the node's cells. -/
structure WS (w : World) (B : Nat) (q : SQ) (sv : Value) (ec : Array Value) (wx : World) : Prop where
  sa : SA wx B q sv
  own : wx.ownsRow (B + 1) 4 1 sv q.cl.length (bls q.cl)
  e : wx.heap[w.heap.size]? = some (.cells ec 28 (0, 0))
  bel : Below B w wx
  own0 : ∀ g, sv.ownBlock = some g → g ≠ w.heap.size
  hB : B < w.heap.size
theorem WS.lt {w wx : World} {B : Nat} {q : SQ} {sv : Value} {ec : Array Value} (h : WS w B q sv ec wx) : w.heap.size < wx.heap.size := (Array.getElem?_eq_some_iff.1 h.e).1
theorem WS.put {w wx : World} {B : Nat} {q q' : SQ} {sv : Value} {ec : Array Value} (h : WS w B q sv ec wx) (j : Nat) (v : Value) (e : (scells q sv).setIfInBounds j v = scells q' sv) (hc : q'.cl = q.cl) : WS w B q' sv ec (wx.setCell ⟨B, j, none⟩ v) :=
  ⟨h.sa.put j v e, by rw [hc]; exact own_only h.own ((Only.refl B wx).put j v), (Below.heap_setCell wx ⟨B, j, none⟩ v w.heap.size (by have := h.hB; intro e; subst e; omega)).trans h.e, Below.only h.bel ((Only.refl B wx).put j v) (Nat.le_refl _) (by have := h.lt; have := h.hB; omega), h.own0, h.hB⟩
theorem WS.below {w wx w' : World} {B : Nat} {q : SQ} {sv : Value} {ec : Array Value} (h : WS w B q sv ec wx) (hb : Below wx.heap.size wx w') : WS w B q sv ec w' :=
  ⟨h.sa.below hb, own_below h.own hb, (hb.block _ h.lt).trans h.e, h.bel.trans (hb.mono (by have := h.lt; have := h.hB; omega)), h.own0, h.hB⟩
theorem WS.sm {w wx : World} {B : Nat} {q : SQ} {sv : Value} {ec : Array Value} (h : WS w B q sv ec wx) : SM wx B q := ⟨sv, h.sa, h.own⟩
theorem WS.first {w : World} {B : Nat} {q : SQ} {sv : Value} (ec : Array Value) (h : SA w B q sv) (ho : w.ownsRow (B + 1) 4 1 sv q.cl.length (bls q.cl)) (hs : q.st = false) : WS w B q sv ec ((w.setCell ⟨B, 7, none⟩ (.bool false)).alloc (.cells ec 28)) := by
  have h1 : SA (w.setCell ⟨B, 7, none⟩ (.bool false)) B q sv := h.put 7 _ (by unfold scells; rw [hs]; rfl)
  have hz : (w.setCell ⟨B, 7, none⟩ (.bool false)).heap.size = w.heap.size := by simp [World.setCell]
  have hb : Below (w.setCell ⟨B, 7, none⟩ (.bool false)).heap.size (w.setCell ⟨B, 7, none⟩ (.bool false)) ((w.setCell ⟨B, 7, none⟩ (.bool false)).alloc (.cells ec 28)) := (Below.refl _ _).alloc (Nat.le_refl _) _
  refine ⟨h1.below hb, own_below (own_only ho ((Only.refl B w).put 7 _)) hb, ?_, (Below.only (Below.refl B w) ((Only.refl B w).put 7 _) (Nat.le_refl _) (by have := h.lt; omega)).trans (hb.mono (by have := h.lt; omega)), fun g hg => by have := (own_at ho g hg).2; omega, h.lt⟩
  rw [← hz]
  exact heap_alloc_new _ _
theorem infoB : (Try.prog.info? 4).map (fun i => (i.zero, i.size, i.bytes)) = some (some (.bool false), 1, 1) := by kernel_rfl
/-- A group more. -/
theorem WS.opened {w wx w1 : World} {B g0 cap : Nat} {q q' : SQ} {sv : Value} {ec : Array Value} (h : WS w B q sv ec wx) (ho : w1.ownsRow (B + 1) 4 1 (.slice (some ⟨g0, 0, none⟩) (q.cl.length + 1) cap) (q.cl.length + 1) (bls q.cl ++ [.bool false])) (hk : Keep (fun b => sv.ownBlock = some b) wx w1)
    (e : (scells q sv).setIfInBounds 3 (.slice (some ⟨g0, 0, none⟩) (q.cl.length + 1) cap) = scells q' (.slice (some ⟨g0, 0, none⟩) (q.cl.length + 1) cap)) (hc : q'.cl = q.cl ++ [false]) :
    SM (w1.setCell ⟨B, 3, none⟩ (.slice (some ⟨g0, 0, none⟩) (q.cl.length + 1) cap)) B q' ∧ Below B w (w1.setCell ⟨B, 3, none⟩ (.slice (some ⟨g0, 0, none⟩) (q.cl.length + 1) cap)) ∧ (w1.setCell ⟨B, 3, none⟩ (.slice (some ⟨g0, 0, none⟩) (q.cl.length + 1) cap)).heap[w.heap.size]? = some (.cells ec 28 (0, 0)) := by
  have hlt := h.lt
  have hB := h.hB
  have hsB : ¬ sv.ownBlock = some B := fun e => by have := (own_at h.own B e).1; omega
  have hs1 := hk.size
  have h1 : SA w1 B q sv := (hk.block B (by omega) hsB).trans h.sa
  refine ⟨⟨_, h1.put 3 _ e, ?_⟩, ?_, ?_⟩
  · rw [hc, List.length_append]
    have e2 : bls (q.cl ++ [false]) = bls q.cl ++ [.bool false] := by unfold bls; rw [List.map_append]; rfl
    rw [e2]
    exact own_only ho ((Only.refl B w1).put 3 _)
  · exact Below.only (h.bel.trans (hk.below (by omega) (fun g hg => by have := (own_at h.own g hg).1; omega))) ((Only.refl B w1).put 3 _) (Nat.le_refl _) (by omega)
  · exact (Below.heap_setCell w1 ⟨B, 3, none⟩ _ w.heap.size (by intro e; subst e; omega)).trans ((hk.block _ hlt (fun e => h.own0 _ e rfl)).trans h.e)
/-- A group is closed. -/
theorem SM.close {w : World} {B i : Nat} {q : SQ} {g cap : Nat} (hA : SA w B q (.slice (some ⟨g, 0, none⟩) q.cl.length cap)) (ho : w.ownsRow (B + 1) 4 1 (.slice (some ⟨g, 0, none⟩) q.cl.length cap) q.cl.length (bls q.cl)) :
    SM (w.setCell ⟨g, i, none⟩ (.bool true)) B (closeQ i q) ∧ Below B w (w.setCell ⟨g, i, none⟩ (.bool true)) := by
  have hg := (own_at ho g rfl)
  obtain ⟨h1, h2⟩ := ho.stored i (.bool true)
  refine ⟨⟨.slice (some ⟨g, 0, none⟩) q.cl.length cap, (h2.block B hA.lt (fun e => by cases e; omega)).trans hA, ?_⟩, (Below.refl B w).grown h2 (by have := hA.lt; omega) (fun k e => by cases e; omega)⟩
  have e2 : bls (q.cl.set i true) = (bls q.cl).set i (.bool true) := by unfold bls; rw [List.map_set]
  show World.ownsRow _ _ _ _ _ (q.cl.set i true).length (bls (q.cl.set i true))
  rw [List.length_set, e2]
  exact h1

theorem walk_stop (o l h g : Int) (st : Nat → Bool) (ad : Option Addr) (m cap B lvl : Nat) (w : World) (q : SQ) (hq : SM w B q) (hok : q.Ok) (hl : lvl ≤ 65537) (hs : stopB lvl q = true) :
    Calls Try.prog 72 #[.pointer (some ⟨B, 0, none⟩), .agg #[.int .i64 o, .int .u64 (wd st 0 64 : Nat), .int .u64 (wd st 64 64 : Nat), .int .u64 (wd st 128 64 : Nat), .int .u64 (wd st 192 64 : Nat), .int .i64 l, .int .i64 h, .int .i64 g, .slice ad m cap], .int .i64 (lvl : Int)] w fun e w' => e = .returned (.tuple #[]) ∧ SM w' B { q with st := true } ∧ Below B w w' := by
  obtain ⟨sv, hA, hO⟩ := hq
  have hlt := hA.lt
  have HE := Lib.hid (show ∀ x, SM ((w.setCell ⟨B, 7, none⟩ (.bool true)).alloc x) B { q with st := true } ∧ Below B w ((w.setCell ⟨B, 7, none⟩ (.bool true)).alloc x) from fun x => by
    have h1 : SM (w.setCell ⟨B, 7, none⟩ (.bool true)) B { q with st := true } := ⟨sv, hA.put 7 _ rfl, own_only hO ((Only.refl B w).put 7 _)⟩
    have h2 : Below B w (w.setCell ⟨B, 7, none⟩ (.bool true)) := Below.only (Below.refl B w) ((Only.refl B w).put 7 _) (Nat.le_refl _) (by omega)
    have h3 : B ≤ (w.setCell ⟨B, 7, none⟩ (.bool true)).heap.size := by have := h2.size; omega
    exact ⟨h1.below ((Below.refl _ _).alloc (Nat.le_refl _) _), h2.alloc h3 _⟩)
  obtain ⟨n, lv, bk, c, wt, wr, wn, sp⟩ := q
  have hss : sp = true ∨ sp = false ∧ 65536 < lvl ∨ sp = false ∧ lvl ≤ 65536 ∧ n = 2147483647 := by
    unfold stopB at hs
    simp only [Bool.or_eq_true, decide_eq_true_eq] at hs
    cases sp
    · by_cases h2 : 65536 < lvl
      · exact .inr (.inl ⟨rfl, h2⟩)
      · exact .inr (.inr ⟨rfl, by omega, by simpa [h2] using hs⟩)
    · exact .inl rfl
  obtain ⟨⟨⟨c0, c1, c2, c3⟩, c4, c5, c6, c7⟩, ff⟩ := hA.all
  have hne : ¬ w.heap.size = B := by omega
  clear hA hO hok hs
  rcases hss with rfl | ⟨rfl, h2⟩ | ⟨rfl, h2, rfl⟩
  · skip
    go_enter Try.func72, Try.ntmps72
    go_wp2
    refine bodyPost_ret (results_none rfl _ _ _) rfl ?_
    exact ⟨rfl, HE.out _⟩
  · have h2' : (65536 : Int) < (lvl : Int) := by omega
    go_enter Try.func72, Try.ntmps72
    go_wp2
    refine bodyPost_ret (results_none rfl _ _ _) rfl ?_
    exact ⟨rfl, HE.out _⟩
  · have h2' : (lvl : Int) ≤ 65536 := by omega
    go_enter Try.func72, Try.ntmps72
    go_wp2
    refine bodyPost_ret (results_none rfl _ _ _) rfl ?_
    exact ⟨rfl, HE.out _⟩
end Go.Proofs.Ytpfbpgbgedbalaa
