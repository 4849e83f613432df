/- RtW, RtWx. -/
import Derived.Test.YtbjobbkipmkndaaDoorPj2
import Derived.Deep.Cut
import Derived.Deep.CutRange
import Derived.Deep.DeepCutAuto
set_option linter.unusedVariables false
set_option linter.unusedSimpArgs false
set_option maxRecDepth 100000
set_option maxHeartbeats 8000000
namespace Go.Proofs.YtbjobbkipmkndaaDoor
open Go.RowKit
def bls (c : List Bool) : List Value := c.map fun b => .bool b
def scells (q : SQ) (sv : Value) : Array Value := #[.int .i64 (q.n : Int), .int .i64 (q.lv : Int), .bool q.bk, sv, .bool q.wt, .bool q.wr, .bool q.wn, .bool q.st]
def SA (w : World) (B : Nat) (q : SQ) (sv : Value) : Prop := w.heap[B]? = some (.cells (scells q sv) 73 (0, 0))
theorem SA.lt {w : World} {B : Nat} {q : SQ} {sv : Value} (h : SA w B q sv) : B < w.heap.size := (Array.getElem?_eq_some_iff.1 h).1
theorem SA.cell {w : World} {B : Nat} {q : SQ} {sv : Value} (h : SA w B q sv) (j : Nat) : w.cell? ⟨B, j, none⟩ = (scells q sv)[j]? := cell_of_row w B j _ _ _ h
theorem SA.free {w : World} {B : Nat} {q : SQ} {sv : Value} (h : SA w B q sv) (j : Nat) : w.frozen? ⟨B, j, none⟩ = false := frozen_of_row w B j _ _ h
theorem SA.below {w w' : World} {B : Nat} {q : SQ} {sv : Value} (h : SA w B q sv) (hb : Below w.heap.size w w') : SA w' B q sv := (hb.block B h.lt).trans h
theorem SA.put {w : World} {B : Nat} {q q' : SQ} {sv sv' : Value} (h : SA w B q sv) (j : Nat) (v : Value) (e : (scells q sv).setIfInBounds j v = scells q' sv') : SA (w.setCell ⟨B, j, none⟩ v) B q' sv' := by
  have := heap_setCell_same w B j _ _ v h
  rw [e] at this
  exact this
theorem SA.all {w : World} {B : Nat} {q : SQ} {sv : Value} (h : SA w B q sv) : ((w.cell? ⟨B, 0, none⟩ = some (.int .i64 (q.n : Int)) ∧ w.cell? ⟨B, 1, none⟩ = some (.int .i64 (q.lv : Int)) ∧ w.cell? ⟨B, 2, none⟩ = some (.bool q.bk) ∧ w.cell? ⟨B, 3, none⟩ = some sv) ∧
    (w.cell? ⟨B, 4, none⟩ = some (.bool q.wt) ∧ w.cell? ⟨B, 5, none⟩ = some (.bool q.wr) ∧ w.cell? ⟨B, 6, none⟩ = some (.bool q.wn) ∧ w.cell? ⟨B, 7, none⟩ = some (.bool q.st))) ∧ ∀ j, w.frozen? ⟨B, j, none⟩ = false :=
  ⟨⟨⟨h.cell 0, h.cell 1, h.cell 2, h.cell 3⟩, h.cell 4, h.cell 5, h.cell 6, h.cell 7⟩, h.free⟩
def SM (w : World) (B : Nat) (q : SQ) : Prop := ∃ sv, SA w B q sv ∧ w.ownsRow (B + 1) 4 1 sv q.cl.length (bls q.cl)
theorem SM.below {w w' : World} {B : Nat} {q : SQ} (h : SM w B q) (hb : Below w.heap.size w w') : SM w' B q := by
  obtain ⟨sv, h1, h2⟩ := h
  exact ⟨sv, h1.below hb, own_below h2 hb⟩
theorem nine {w : World} {P : Nat} {t : TypeId} {a0 a1 a2 a3 a4 a5 a6 a7 a8 : Value} (h : w.heap[P]? = some (.cells #[a0, a1, a2, a3, a4, a5, a6, a7, a8] t (0, 0))) : ((w.cell? ⟨P, 0, none⟩ = some a0 ∧ w.cell? ⟨P, 1, none⟩ = some a1 ∧ w.cell? ⟨P, 2, none⟩ = some a2) ∧ (w.cell? ⟨P, 3, none⟩ = some a3 ∧ w.cell? ⟨P, 4, none⟩ = some a4 ∧ w.cell? ⟨P, 5, none⟩ = some a5)) ∧ (w.cell? ⟨P, 6, none⟩ = some a6 ∧ w.cell? ⟨P, 7, none⟩ = some a7 ∧ w.cell? ⟨P, 8, none⟩ = some a8) :=
  ⟨⟨⟨cell_of_row w P 0 _ _ _ h, cell_of_row w P 1 _ _ _ h, cell_of_row w P 2 _ _ _ h⟩, cell_of_row w P 3 _ _ _ h, cell_of_row w P 4 _ _ _ h, cell_of_row w P 5 _ _ _ h⟩, cell_of_row w P 6 _ _ _ h, cell_of_row w P 7 _ _ _ h, cell_of_row w P 8 _ _ _ h⟩
theorem Below.only {n B : Nat} {a b c : World} (h : Below n a b) (k : Only B b c) (hn : n ≤ B) (hs : n ≤ b.heap.size) : Below n a c :=
  ⟨k.os.trans h.os, k.tape.trans h.tape, k.output.trans h.output, Nat.le_trans h.size k.size, fun j hj => (k.block j (by omega) (by omega)).trans (h.block j hj)⟩
structure WS (w : World) (B : Nat) (q : SQ) (sv : Value) (ec : Array Value) (wx : World) : Prop where
  sa : SA wx B q sv
  own : wx.ownsRow (B + 1) 4 1 sv q.cl.length (bls q.cl)
  e : wx.heap[w.heap.size]? = some (.cells ec 34 (0, 0))
  bel : Below B w wx
  own0 : ∀ g, sv.ownBlock = some g → g ≠ w.heap.size
  hB : B < w.heap.size
theorem WS.lt {w wx : World} {B : Nat} {q : SQ} {sv : Value} {ec : Array Value} (h : WS w B q sv ec wx) : w.heap.size < wx.heap.size := (Array.getElem?_eq_some_iff.1 h.e).1
theorem WS.put {w wx : World} {B : Nat} {q q' : SQ} {sv : Value} {ec : Array Value} (h : WS w B q sv ec wx) (j : Nat) (v : Value) (e : (scells q sv).setIfInBounds j v = scells q' sv) (hc : q'.cl = q.cl) : WS w B q' sv ec (wx.setCell ⟨B, j, none⟩ v) :=
  ⟨h.sa.put j v e, by rw [hc]; exact own_only h.own ((Only.refl B wx).put j v), (Below.heap_setCell wx ⟨B, j, none⟩ v w.heap.size (by have := h.hB; intro e; subst e; omega)).trans h.e, Below.only h.bel ((Only.refl B wx).put j v) (Nat.le_refl _) (by have := h.lt; have := h.hB; omega), h.own0, h.hB⟩
theorem WS.below {w wx w' : World} {B : Nat} {q : SQ} {sv : Value} {ec : Array Value} (h : WS w B q sv ec wx) (hb : Below wx.heap.size wx w') : WS w B q sv ec w' :=
  ⟨h.sa.below hb, own_below h.own hb, (hb.block _ h.lt).trans h.e, h.bel.trans (hb.mono (by have := h.lt; have := h.hB; omega)), h.own0, h.hB⟩
theorem WS.sm {w wx : World} {B : Nat} {q : SQ} {sv : Value} {ec : Array Value} (h : WS w B q sv ec wx) : SM wx B q := ⟨sv, h.sa, h.own⟩
theorem WS.first {w : World} {B : Nat} {q : SQ} {sv : Value} (ec : Array Value) (h : SA w B q sv) (ho : w.ownsRow (B + 1) 4 1 sv q.cl.length (bls q.cl)) (hs : q.st = false) : WS w B q sv ec ((w.setCell ⟨B, 7, none⟩ (.bool false)).alloc (.cells ec 34)) := by
  have h1 : SA (w.setCell ⟨B, 7, none⟩ (.bool false)) B q sv := h.put 7 _ (by unfold scells; rw [hs]; rfl)
  have hz : (w.setCell ⟨B, 7, none⟩ (.bool false)).heap.size = w.heap.size := by simp [World.setCell]
  have hb : Below (w.setCell ⟨B, 7, none⟩ (.bool false)).heap.size (w.setCell ⟨B, 7, none⟩ (.bool false)) ((w.setCell ⟨B, 7, none⟩ (.bool false)).alloc (.cells ec 34)) := (Below.refl _ _).alloc (Nat.le_refl _) _
  refine ⟨h1.below hb, own_below (own_only ho ((Only.refl B w).put 7 _)) hb, ?_, (Below.only (Below.refl B w) ((Only.refl B w).put 7 _) (Nat.le_refl _) (by have := h.lt; omega)).trans (hb.mono (by have := h.lt; omega)), fun g hg => by have := (own_at ho g hg).2; omega, h.lt⟩
  rw [← hz]
  exact heap_alloc_new _ _
theorem infoB : (Tryd.prog.info? 4).map (fun i => (i.zero, i.size, i.bytes)) = some (some (.bool false), 1, 1) := by kernel_rfl
theorem WS.opened {w wx w1 : World} {B g0 cap : Nat} {q q' : SQ} {sv : Value} {ec : Array Value} (h : WS w B q sv ec wx) (ho : w1.ownsRow (B + 1) 4 1 (.slice (some ⟨g0, 0, none⟩) (q.cl.length + 1) cap) (q.cl.length + 1) (bls q.cl ++ [.bool false])) (hk : Keep (fun b => sv.ownBlock = some b) wx w1)
    (e : (scells q sv).setIfInBounds 3 (.slice (some ⟨g0, 0, none⟩) (q.cl.length + 1) cap) = scells q' (.slice (some ⟨g0, 0, none⟩) (q.cl.length + 1) cap)) (hc : q'.cl = q.cl ++ [false]) :
    SM (w1.setCell ⟨B, 3, none⟩ (.slice (some ⟨g0, 0, none⟩) (q.cl.length + 1) cap)) B q' ∧ Below B w (w1.setCell ⟨B, 3, none⟩ (.slice (some ⟨g0, 0, none⟩) (q.cl.length + 1) cap)) ∧ (w1.setCell ⟨B, 3, none⟩ (.slice (some ⟨g0, 0, none⟩) (q.cl.length + 1) cap)).heap[w.heap.size]? = some (.cells ec 34 (0, 0)) := by
  have hlt := h.lt
  have hB := h.hB
  have hsB : ¬ sv.ownBlock = some B := fun e => by have := (own_at h.own B e).1; omega
  have hs1 := hk.size
  have h1 : SA w1 B q sv := (hk.block B (by omega) hsB).trans h.sa
  refine ⟨⟨_, h1.put 3 _ e, ?_⟩, ?_, ?_⟩
  · rw [hc, List.length_append]
    have e2 : bls (q.cl ++ [false]) = bls q.cl ++ [.bool false] := by unfold bls; rw [List.map_append]; rfl
    rw [e2]
    exact own_only ho ((Only.refl B w1).put 3 _)
  · exact Below.only (h.bel.trans (hk.below (by omega) (fun g hg => by have := (own_at h.own g hg).1; omega))) ((Only.refl B w1).put 3 _) (Nat.le_refl _) (by omega)
  · exact (Below.heap_setCell w1 ⟨B, 3, none⟩ _ w.heap.size (by intro e; subst e; omega)).trans ((hk.block _ hlt (fun e => h.own0 _ e rfl)).trans h.e)
theorem SM.close {w : World} {B i : Nat} {q : SQ} {g cap : Nat} (hA : SA w B q (.slice (some ⟨g, 0, none⟩) q.cl.length cap)) (ho : w.ownsRow (B + 1) 4 1 (.slice (some ⟨g, 0, none⟩) q.cl.length cap) q.cl.length (bls q.cl)) :
    SM (w.setCell ⟨g, i, none⟩ (.bool true)) B (closeQ i q) ∧ Below B w (w.setCell ⟨g, i, none⟩ (.bool true)) := by
  have hg := (own_at ho g rfl)
  obtain ⟨h1, h2⟩ := ho.stored i (.bool true)
  refine ⟨⟨.slice (some ⟨g, 0, none⟩) q.cl.length cap, (h2.block B hA.lt (fun e => by cases e; omega)).trans hA, ?_⟩, (Below.refl B w).grown h2 (by have := hA.lt; omega) (fun k e => by cases e; omega)⟩
  have e2 : bls (q.cl.set i true) = (bls q.cl).set i (.bool true) := by unfold bls; rw [List.map_set]
  show World.ownsRow _ _ _ _ _ (q.cl.set i true).length (bls (q.cl.set i true))
  rw [List.length_set, e2]
  exact h1
theorem walk_stop (o l h g : Int) (st : Nat → Bool) (ad : Option Addr) (m cap B lvl : Nat) (w : World) (q : SQ) (hq : SM w B q) (hok : q.Ok) (hl : lvl ≤ 65537) (hs : stopB lvl q = true) :
    Calls Tryd.prog 47 #[.pointer (some ⟨B, 0, none⟩), .agg #[.int .i64 o, .int .u64 (wd st 0 64 : Nat), .int .u64 (wd st 64 64 : Nat), .int .u64 (wd st 128 64 : Nat), .int .u64 (wd st 192 64 : Nat), .int .i64 l, .int .i64 h, .int .i64 g, .slice ad m cap], .int .i64 (lvl : Int)] w fun e w' => e = .returned (.tuple #[]) ∧ SM w' B { q with st := true } ∧ Below B w w' := by
  obtain ⟨sv, hA, hO⟩ := hq
  have hlt := hA.lt
  have HE := Lib.hid (show ∀ x, SM ((w.setCell ⟨B, 7, none⟩ (.bool true)).alloc x) B { q with st := true } ∧ Below B w ((w.setCell ⟨B, 7, none⟩ (.bool true)).alloc x) from fun x => by
    have h1 : SM (w.setCell ⟨B, 7, none⟩ (.bool true)) B { q with st := true } := ⟨sv, hA.put 7 _ rfl, own_only hO ((Only.refl B w).put 7 _)⟩
    have h2 : Below B w (w.setCell ⟨B, 7, none⟩ (.bool true)) := Below.only (Below.refl B w) ((Only.refl B w).put 7 _) (Nat.le_refl _) (by omega)
    have h3 : B ≤ (w.setCell ⟨B, 7, none⟩ (.bool true)).heap.size := by have := h2.size; omega
    exact ⟨h1.below ((Below.refl _ _).alloc (Nat.le_refl _) _), h2.alloc h3 _⟩)
  obtain ⟨n, lv, bk, c, wt, wr, wn, sp⟩ := q
  have hss : sp = true ∨ sp = false ∧ 65536 < lvl ∨ sp = false ∧ lvl ≤ 65536 ∧ n = 2147483647 := by
    unfold stopB at hs
    simp only [Bool.or_eq_true, decide_eq_true_eq] at hs
    cases sp
    · by_cases h2 : 65536 < lvl
      · exact .inr (.inl ⟨rfl, h2⟩)
      · exact .inr (.inr ⟨rfl, by omega, by simpa [h2] using hs⟩)
    · exact .inl rfl
  obtain ⟨⟨⟨c0, c1, c2, c3⟩, c4, c5, c6, c7⟩, ff⟩ := hA.all
  have hne : ¬ w.heap.size = B := by omega
  clear hA hO hok hs
  rcases hss with rfl | ⟨rfl, h2⟩ | ⟨rfl, h2, rfl⟩
  · skip
    go_enter Tryd.func47, Tryd.ntmps47
    go_wp2
    refine bodyPost_ret (results_none rfl _ _ _) rfl ?_
    exact ⟨rfl, HE.out _⟩
  · have h2' : (65536 : Int) < (lvl : Int) := by omega
    go_enter Tryd.func47, Tryd.ntmps47
    go_wp2
    refine bodyPost_ret (results_none rfl _ _ _) rfl ?_
    exact ⟨rfl, HE.out _⟩
  · have h2' : (lvl : Int) ≤ 65536 := by omega
    go_enter Tryd.func47, Tryd.ntmps47
    go_wp2
    refine bodyPost_ret (results_none rfl _ _ _) rfl ?_
    exact ⟨rfl, HE.out _⟩
end Go.Proofs.YtbjobbkipmkndaaDoor
set_option linter.unusedVariables false
set_option linter.unusedSimpArgs false
set_option maxRecDepth 100000
set_option maxHeartbeats 8000000
namespace Go.Proofs.YtbjobbkipmkndaaDoor
open Go.RowKit
theorem walk_x (f : F) (o l h g : Int) (st : Nat → Bool) (ad : Option Addr) (m cap B lvl n lv : Nat) (w : World) (c : List Bool) (sv : Value) (bk wt wr wn fb bb kb : Bool) (h5 : (o == 5) = false) (g5 : ¬ o = 5) (h6 : (o == 6) = false) (g6 : ¬ o = 6) (h9 : (o == 9) = false) (g9 : ¬ o = 9) (hA : SA w B ⟨n, lv, bk, c, wt, wr, wn, false⟩ sv) (hO : w.ownsRow (B + 1) 4 1 sv c.length (bls c))
    (hn : n < 2147483647) (hlv : lv ≤ 65536) (hl : lvl ≤ 65536) (hcl : c.length ≤ n) (hg1 : -9223372036854775808 ≤ g) (hg2 : g ≤ 9223372036854775807)
    (HFi : Hid (∀ W, Calls Tryd.prog 55 #[.agg #[.int .i64 o, .int .u64 (wd st 0 64 : Nat), .int .u64 (wd st 64 64 : Nat), .int .u64 (wd st 128 64 : Nat), .int .u64 (wd st 192 64 : Nat), .int .i64 l, .int .i64 h, .int .i64 g, .slice ad m cap]] W fun e w' => e = .returned (.bool fb) ∧ Below W.heap.size W w'))
    (HBn : Hid (∀ W, Calls Tryd.prog 56 #[.agg #[.int .i64 o, .int .u64 (wd st 0 64 : Nat), .int .u64 (wd st 64 64 : Nat), .int .u64 (wd st 128 64 : Nat), .int .u64 (wd st 192 64 : Nat), .int .i64 l, .int .i64 h, .int .i64 g, .slice ad m cap]] W fun e w' => e = .returned (.bool bb) ∧ Below W.heap.size W w'))
    (hkb : kb = clB c g)
    (HWA : Hid (∀ W q, SM W B q → Below B w W → q.Ok → Calls Tryd.prog 58 #[.pointer (some ⟨B, 0, none⟩), .agg #[.int .i64 o, .int .u64 (wd st 0 64 : Nat), .int .u64 (wd st 64 64 : Nat), .int .u64 (wd st 128 64 : Nat), .int .u64 (wd st 192 64 : Nat), .int .i64 l, .int .i64 h, .int .i64 g, .slice ad m cap], .int .i64 (lvl : Int)] W fun e w' => e = .returned (.tuple #[]) ∧ SM w' B (walkF f (lvl + 1) q) ∧ Below B W w')) :
    Calls Tryd.prog 47 #[.pointer (some ⟨B, 0, none⟩), .agg #[.int .i64 o, .int .u64 (wd st 0 64 : Nat), .int .u64 (wd st 64 64 : Nat), .int .u64 (wd st 128 64 : Nat), .int .u64 (wd st 192 64 : Nat), .int .i64 l, .int .i64 h, .int .i64 g, .slice ad m cap], .int .i64 (lvl : Int)] w fun e w' => e = .returned (.tuple #[]) ∧ SM w' B (walkF f (lvl + 1) ⟨n + 1, max lv lvl, bk || false, c, wt || !fb, wr || (false && !bb), wn || (false && !kb), false⟩) ∧ Below B w w' := by
  have hlt := hA.lt
  skip
  have HW := Lib.hid (WS.first #[.int .i64 o, .int .u64 (wd st 0 64 : Nat), .int .u64 (wd st 64 64 : Nat), .int .u64 (wd st 128 64 : Nat), .int .u64 (wd st 192 64 : Nat), .int .i64 l, .int .i64 h, .int .i64 g, .slice ad m cap] hA hO rfl)
  obtain ⟨⟨⟨c0, c1, c2, c3⟩, c4, c5, c6, c7⟩, ff⟩ := hA.all
  dsimp only at c0 c1 c2 c4 c5 c6 c7
  have hne : ¬ w.heap.size = B := by omega
  have HL := Lib.hid hlt
  subst hkb
  have hl' : (lvl : Int) ≤ 65536 := by omega
  have hl0 : (0 : Int) ≤ lvl := by omega
  have hv0 : (0 : Int) ≤ lv := by omega
  have hv' : (lv : Int) ≤ 65536 := by omega
  have hnx : ((n : Int) == 2147483647) = false := by simp; omega
  have HCl := Lib.hid hcl
  have HOk : Hid (SQ.Ok ⟨n + 1, max lv lvl, bk || false, c, wt || !fb, wr || (false && !bb), wn || (false && !clB c g), false⟩) := Lib.hid ⟨by show n + 1 ≤ _; omega, by show max lv lvl ≤ _; omega, by show c.length ≤ n + 1; omega⟩
  have hcl2 : c.length < 2147483647 := by omega
  have HBN : Hid ((g != (c.length : Int) + 1) = !decide (g = (c.length : Int) + 1)) := Lib.hid (by simp [bne, beq_dec])
  clear hA hO hcl
  go_enter Tryd.func47, Tryd.ntmps47
  go_upto_region 3 with fail
  have HW3 := HW
  generalize (w.setCell ⟨B, 7, none⟩ (.bool false)).alloc (.cells #[.int .i64 o, .int .u64 (wd st 0 64 : Nat), .int .u64 (wd st 64 64 : Nat), .int .u64 (wd st 128 64 : Nat), .int .u64 (wd st 192 64 : Nat), .int .i64 l, .int .i64 h, .int .i64 g, .slice ad m cap] 34) = W3 at HW3 ⊢
  clear c0 c1 c2 c3 c4 c5 c6 c7 ff HW
  obtain ⟨⟨⟨c0, c1, c2, c3⟩, c4, c5, c6, c7⟩, ff⟩ := HW3.out.sa.all
  dsimp only at c0 c1 c2 c4 c5 c6 c7
  obtain ⟨⟨⟨a0, a1, a2⟩, a3, a4, a5⟩, a6, a7, a8⟩ := nine HW3.out.e
  have hlw := HW3.out.lt
  go_cut [4] (fun x4 wx => x4 = .pointer (some ⟨w.heap.size, 0, none⟩) ∧ Hid (WS w B ⟨(n + 1), lv, bk, c, wt, wr, wn, false⟩ sv #[.int .i64 o, .int .u64 (wd st 0 64 : Nat), .int .u64 (wd st 64 64 : Nat), .int .u64 (wd st 128 64 : Nat), .int .u64 (wd st 192 64 : Nat), .int .i64 l, .int .i64 h, .int .i64 g, .slice ad m cap] wx))
  case first =>
    go_wp2_with fail
    all_goals go_meet
    all_goals (case rel => exact ⟨rfl, Lib.hid (HW3.out.put 0 _ (by first | rfl | (rw [show n = true by assumption]; rfl) | (rw [show n = false by assumption]; rfl) | (rw [show n = false by simpa using ‹¬ n = true›]; rfl)) rfl)⟩)
  case rest =>
  obtain ⟨rfl, HW4⟩ := hcut
  clear c0 c1 c2 c3 c4 c5 c6 c7 ff a0 a1 a2 a3 a4 a5 a6 a7 a8 hlw HW3
  obtain ⟨⟨⟨c0, c1, c2, c3⟩, c4, c5, c6, c7⟩, ff⟩ := HW4.out.sa.all
  dsimp only at c0 c1 c2 c4 c5 c6 c7
  obtain ⟨⟨⟨a0, a1, a2⟩, a3, a4, a5⟩, a6, a7, a8⟩ := nine HW4.out.e
  have hlw := HW4.out.lt
  go_upto_region 4 with fail
  go_cut [4] (fun x4 wx => x4 = .pointer (some ⟨w.heap.size, 0, none⟩) ∧ Hid (WS w B ⟨(n + 1), (max lv lvl), bk, c, wt, wr, wn, false⟩ sv #[.int .i64 o, .int .u64 (wd st 0 64 : Nat), .int .u64 (wd st 64 64 : Nat), .int .u64 (wd st 128 64 : Nat), .int .u64 (wd st 192 64 : Nat), .int .i64 l, .int .i64 h, .int .i64 g, .slice ad m cap] wx))
  case first =>
    go_wp2_with fail
    all_goals go_meet
    all_goals (case rel => exact ⟨rfl, Lib.hid (HW4.out.put 1 _ (by simp only [scells]; simp; omega) rfl)⟩)
  case rest =>
  obtain ⟨rfl, HW5⟩ := hcut
  clear c0 c1 c2 c3 c4 c5 c6 c7 ff a0 a1 a2 a3 a4 a5 a6 a7 a8 hlw HW4
  obtain ⟨⟨⟨c0, c1, c2, c3⟩, c4, c5, c6, c7⟩, ff⟩ := HW5.out.sa.all
  dsimp only at c0 c1 c2 c4 c5 c6 c7
  obtain ⟨⟨⟨a0, a1, a2⟩, a3, a4, a5⟩, a6, a7, a8⟩ := nine HW5.out.e
  have hlw := HW5.out.lt
  go_upto_region 5 with fail
  go_cut [4] (fun x4 wx => x4 = .pointer (some ⟨w.heap.size, 0, none⟩) ∧ Hid (WS w B ⟨(n + 1), (max lv lvl), (bk || false), c, wt, wr, wn, false⟩ sv #[.int .i64 o, .int .u64 (wd st 0 64 : Nat), .int .u64 (wd st 64 64 : Nat), .int .u64 (wd st 128 64 : Nat), .int .u64 (wd st 192 64 : Nat), .int .i64 l, .int .i64 h, .int .i64 g, .slice ad m cap] wx))
  case first =>
    go_wp2_with fail
    all_goals go_meet
    all_goals (case rel => exact ⟨rfl, Lib.hid (HW5.out.put 2 _ (by first | rfl | (rw [show bk = true by assumption]; rfl) | (rw [show bk = false by assumption]; rfl) | (rw [show bk = false by simpa using ‹¬ bk = true›]; rfl)) rfl)⟩)
  case rest =>
  obtain ⟨rfl, HW6⟩ := hcut
  clear c0 c1 c2 c3 c4 c5 c6 c7 ff a0 a1 a2 a3 a4 a5 a6 a7 a8 hlw HW5
  obtain ⟨⟨⟨c0, c1, c2, c3⟩, c4, c5, c6, c7⟩, ff⟩ := HW6.out.sa.all
  dsimp only at c0 c1 c2 c4 c5 c6 c7
  obtain ⟨⟨⟨a0, a1, a2⟩, a3, a4, a5⟩, a6, a7, a8⟩ := nine HW6.out.e
  have hlw := HW6.out.lt
  go_upto_region 6 with fail
  go_cut [4] (fun x4 wx => x4 = .pointer (some ⟨w.heap.size, 0, none⟩) ∧ Hid (WS w B ⟨(n + 1), (max lv lvl), (bk || false), c, (wt || !fb), wr, wn, false⟩ sv #[.int .i64 o, .int .u64 (wd st 0 64 : Nat), .int .u64 (wd st 64 64 : Nat), .int .u64 (wd st 128 64 : Nat), .int .u64 (wd st 192 64 : Nat), .int .i64 l, .int .i64 h, .int .i64 g, .slice ad m cap] wx))
  case first =>
    go_wp2_with (first
    | (go_at_call 55; (with_reducible refine (HFi.out _).mono ?_); rintro e w1 ⟨rfl, hb1⟩
       have HV := Lib.hid (HW6.out.below hb1)
       clear hb1 c0 c1 c2 c3 c4 c5 c6 c7 ff a0 a1 a2 a3 a4 a5 a6 a7 a8 hlw
       obtain ⟨⟨⟨c0, c1, c2, c3⟩, c4, c5, c6, c7⟩, ff⟩ := HV.out.sa.all
       dsimp only at c0 c1 c2 c4 c5 c6 c7
       have hlw := HV.out.lt))
    all_goals go_meet
    all_goals (case rel => (first | exact ⟨rfl, Lib.hid (HV.out.put 4 _ (by first | rfl | (rw [show wt = true by assumption]; rfl) | (rw [show wt = false by assumption]; rfl) | (rw [show wt = false by simpa using ‹¬ wt = true›]; rfl)) rfl)⟩ | exact ⟨rfl, Lib.hid (HW6.out.put 4 _ (by first | rfl | (rw [show wt = true by assumption]; rfl) | (rw [show wt = false by assumption]; rfl) | (rw [show wt = false by simpa using ‹¬ wt = true›]; rfl)) rfl)⟩))
  case rest =>
  obtain ⟨rfl, HW7⟩ := hcut
  clear c0 c1 c2 c3 c4 c5 c6 c7 ff a0 a1 a2 a3 a4 a5 a6 a7 a8 hlw HW6
  obtain ⟨⟨⟨c0, c1, c2, c3⟩, c4, c5, c6, c7⟩, ff⟩ := HW7.out.sa.all
  dsimp only at c0 c1 c2 c4 c5 c6 c7
  obtain ⟨⟨⟨a0, a1, a2⟩, a3, a4, a5⟩, a6, a7, a8⟩ := nine HW7.out.e
  have hlw := HW7.out.lt
  go_upto_region 7 with fail
  go_cut [4] (fun x4 wx => x4 = .pointer (some ⟨w.heap.size, 0, none⟩) ∧ Hid (WS w B ⟨(n + 1), (max lv lvl), (bk || false), c, (wt || !fb), (wr || (false && !bb)), wn, false⟩ sv #[.int .i64 o, .int .u64 (wd st 0 64 : Nat), .int .u64 (wd st 64 64 : Nat), .int .u64 (wd st 128 64 : Nat), .int .u64 (wd st 192 64 : Nat), .int .i64 l, .int .i64 h, .int .i64 g, .slice ad m cap] wx))
  case first =>
    go_wp2_with fail
    all_goals go_meet
    all_goals (case rel => exact ⟨rfl, Lib.hid (HW7.out.put 5 _ (by first | rfl | (rw [show wr = true by assumption]; rfl) | (rw [show wr = false by assumption]; rfl) | (rw [show wr = false by simpa using ‹¬ wr = true›]; rfl)) rfl)⟩)
  case rest =>
  obtain ⟨rfl, HW8⟩ := hcut
  clear c0 c1 c2 c3 c4 c5 c6 c7 ff a0 a1 a2 a3 a4 a5 a6 a7 a8 hlw HW7
  obtain ⟨⟨⟨c0, c1, c2, c3⟩, c4, c5, c6, c7⟩, ff⟩ := HW8.out.sa.all
  dsimp only at c0 c1 c2 c4 c5 c6 c7
  obtain ⟨⟨⟨a0, a1, a2⟩, a3, a4, a5⟩, a6, a7, a8⟩ := nine HW8.out.e
  have hlw := HW8.out.lt
  go_upto_region 8 with fail
  go_cut [4] (fun x4 wx => x4 = .pointer (some ⟨w.heap.size, 0, none⟩) ∧ Hid (WS w B ⟨(n + 1), (max lv lvl), (bk || false), c, (wt || !fb), (wr || (false && !bb)), (wn || (false && !(clB c g))), false⟩ sv #[.int .i64 o, .int .u64 (wd st 0 64 : Nat), .int .u64 (wd st 64 64 : Nat), .int .u64 (wd st 128 64 : Nat), .int .u64 (wd st 192 64 : Nat), .int .i64 l, .int .i64 h, .int .i64 g, .slice ad m cap] wx))
  case first =>
    go_wp2_with fail
    all_goals go_meet
    all_goals (case rel => exact ⟨rfl, Lib.hid (HW8.out.put 6 _ (by first | rfl | (rw [show wn = true by assumption]; rfl) | (rw [show wn = false by assumption]; rfl) | (rw [show wn = false by simpa using ‹¬ wn = true›]; rfl)) rfl)⟩)
  case rest =>
  obtain ⟨rfl, HW9⟩ := hcut
  clear c0 c1 c2 c3 c4 c5 c6 c7 ff a0 a1 a2 a3 a4 a5 a6 a7 a8 hlw HW8
  obtain ⟨⟨⟨c0, c1, c2, c3⟩, c4, c5, c6, c7⟩, ff⟩ := HW9.out.sa.all
  dsimp only at c0 c1 c2 c4 c5 c6 c7
  obtain ⟨⟨⟨a0, a1, a2⟩, a3, a4, a5⟩, a6, a7, a8⟩ := nine HW9.out.e
  have hlw := HW9.out.lt
  have HWl := HW9
  clear HW9
  go_wp2_with (first
    | (go_at_call 58; go_loud ((with_reducible refine (HWA.out _ _ HWl.out.sm HWl.out.bel HOk.out).mono ?_); rintro e w9 ⟨rfl, hs9, hb9⟩; have HS9 := Lib.hid hs9; have HB9 := Lib.hid (HWl.out.bel.trans hb9); clear hs9 hb9))
    )
  refine bodyPost_ret (results_none rfl _ _ _) rfl ?_
  exact ⟨rfl, HS9.out, HB9.out⟩
end Go.Proofs.YtbjobbkipmkndaaDoor
