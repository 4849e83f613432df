/- RxK. -/
import Derived.Test.YtphiaagppcbefaaGreatDoorPs18
import Derived.StillTailTactics
import Derived.Deep.CutRange
import Derived.Deep.Cut
import Derived.Deep.DeepCutAuto
set_option linter.unusedVariables false
namespace Go.Proofs.YtphiaagppcbefaaGreatDoor
open Go.RowKit
theorem PA.closed {w : World} {B : Nat} {c : CX} {V : LV} {p : PS} (h : PA w B c V p) (k : Nat) (hk : k < 10) : w.cell? ⟨B, 12 + k, none⟩ = some (.bool (p.cl k)) := by
  have : k = 0 ∨ k = 1 ∨ k = 2 ∨ k = 3 ∨ k = 4 ∨ k = 5 ∨ k = 6 ∨ k = 7 ∨ k = 8 ∨ k = 9 := by omega
  rcases this with rfl | rfl | rfl | rfl | rfl | rfl | rfl | rfl | rfl | rfl
  · exact h.cell 12
  · exact h.cell 13
  · exact h.cell 14
  · exact h.cell 15
  · exact h.cell 16
  · exact h.cell 17
  · exact h.cell 18
  · exact h.cell 19
  · exact h.cell 20
  · exact h.cell 21
def RAt (w : World) (g : Nat) (row : Array Value) : Prop := w.heap[g]? = some (.cells row 35 (0, 0))
theorem RAt.lt {w : World} {g : Nat} {row : Array Value} (h : RAt w g row) : g < w.heap.size := (Array.getElem?_eq_some_iff.1 h).1
theorem RAt.same {w w' : World} {g : Nat} {row : Array Value} (h : RAt w g row) (k : w'.heap[g]? = w.heap[g]?) : RAt w' g row := k.trans h
theorem RAt.only {w w' : World} {g B : Nat} {row : Array Value} (h : RAt w g row) (k : Only B w w') (hg : g ≠ B) : RAt w' g row := h.same (k.block g h.lt hg)
theorem RAt.below {w w' : World} {g : Nat} {row : Array Value} (h : RAt w g row) (k : Below w.heap.size w w') : RAt w' g row := h.same (k.block g h.lt)
theorem info_re : (Tryz.prog.info? 35).map (·.size) = some 9 := by kernel_rfl
theorem ret_re {fn : Func} {t0 : Tmp} (hr : fn.results = #[.cell t0 35]) (tmps : Array Value) (w : World) (g : Nat) (row : Array Value) (hs : row.size = 9) (hp : tmps.getD t0 undef = .pointer (some ⟨g, 0, none⟩)) (hA : RAt w g row) :
    (results fn tmps).run Tryz.prog w = .ok (.agg row) w :=
  results_cell_row hr tmps w g _ row (0, 0) _ hp hA Tryz.underlying35 rfl (by rw [hs]; exact info_re)
def put9 (w : World) (g : Nat) (a b c d e f h i j : Value) : World :=
  ((((((((w.setCell ⟨g, 0, none⟩ a).setCell ⟨g, 1, none⟩ b).setCell ⟨g, 2, none⟩ c).setCell ⟨g, 3, none⟩ d).setCell ⟨g, 4, none⟩ e).setCell ⟨g, 5, none⟩ f).setCell ⟨g, 6, none⟩ h).setCell ⟨g, 7, none⟩ i).setCell ⟨g, 8, none⟩ j
theorem RAt.put9 {w : World} {g : Nat} {x0 x1 x2 x3 x4 x5 x6 x7 x8 : Value} (hA : RAt w g #[x0, x1, x2, x3, x4, x5, x6, x7, x8]) (a b c d e f h i j : Value) : RAt (put9 w g a b c d e f h i j) g #[a, b, c, d, e, f, h, i, j] := by
  have h1 := heap_setCell_same w g 0 _ _ a hA
  have h2 := heap_setCell_same _ g 1 _ _ b h1
  have h3 := heap_setCell_same _ g 2 _ _ c h2
  have h4 := heap_setCell_same _ g 3 _ _ d h3
  have h5 := heap_setCell_same _ g 4 _ _ e h4
  have h6 := heap_setCell_same _ g 5 _ _ f h5
  have h7 := heap_setCell_same _ g 6 _ _ h h6
  have h8 := heap_setCell_same _ g 7 _ _ i h7
  have h9 := heap_setCell_same _ g 8 _ _ j h8
  refine Eq.trans h9 ?_
  simp
theorem Stp.put9 {a w : World} {B : Nat} {c : CX} {V : LV} {q : PS} (h : Stp a B c V q w) (hB : B < a.heap.size) (g : Nat) (hg : a.heap.size ≤ g) (x0 x1 x2 x3 x4 x5 x6 x7 x8 : Value) : Stp a B c V q (put9 w g x0 x1 x2 x3 x4 x5 x6 x7 x8) :=
  ((((((((h.putNew hB g 0 hg _).putNew hB g 1 hg _).putNew hB g 2 hg _).putNew hB g 3 hg _).putNew hB g 4 hg _).putNew hB g 5 hg _).putNew hB g 6 hg _).putNew hB g 7 hg _).putNew hB g 8 hg _
theorem RAt.all {w : World} {g : Nat} {x0 x1 x2 x3 x4 x5 x6 x7 x8 : Value} (h : RAt w g #[x0, x1, x2, x3, x4, x5, x6, x7, x8]) : ((w.cell? ⟨g, 0, none⟩ = some x0 ∧ w.cell? ⟨g, 1, none⟩ = some x1 ∧ w.cell? ⟨g, 2, none⟩ = some x2) ∧ (w.cell? ⟨g, 3, none⟩ = some x3 ∧ w.cell? ⟨g, 4, none⟩ = some x4 ∧ w.cell? ⟨g, 5, none⟩ = some x5) ∧ (w.cell? ⟨g, 6, none⟩ = some x6 ∧ w.cell? ⟨g, 7, none⟩ = some x7 ∧ w.cell? ⟨g, 8, none⟩ = some x8)) ∧ ∀ j, w.frozen? ⟨g, j, none⟩ = false :=
  ⟨⟨⟨cell_of_row w g 0 _ _ _ h, cell_of_row w g 1 _ _ _ h, cell_of_row w g 2 _ _ _ h⟩, ⟨cell_of_row w g 3 _ _ _ h, cell_of_row w g 4 _ _ _ h, cell_of_row w g 5 _ _ _ h⟩, ⟨cell_of_row w g 6 _ _ _ h, cell_of_row w g 7 _ _ _ h, cell_of_row w g 8 _ _ _ h⟩⟩, fun j => frozen_of_row w g j _ _ h⟩
theorem RAt.two (w : World) (o : Obj) (row : Array Value) : RAt ((w.alloc o).alloc (.cells row 35)) (w.heap.size + 1) row := by
  have := heap_alloc_new (w.alloc o) (.cells row 35)
  have e : (w.alloc o).heap.size = w.heap.size + 1 := by simp
  rw [e] at this
  exact this
set_option maxRecDepth 100000 in
set_option maxHeartbeats 4000000 in
theorem back_1_y (w : World) (B : Nat) (c : CX) (V : LV) (p : PS) (h : PM w B c V p) (K : Int) (z : Nat) (hz : z ≤ 2) (hfit : p.at_ + z ≤ c.s.size) (hc : p.cl 1 = true) :
    Calls Tryz.prog 89 #[.pointer (some ⟨B, 0, none⟩), .agg #[.int .i32 K, .int .u8 49, .int .i64 (z : Int)]] w (Ret w B c V (bakR 1, p.to (p.at_ + z))) := by
  have hx : Below w.heap.size w ((w.alloc (.cells #[.int .i32 K, .int .u8 49, .int .i64 (z : Int)] 88)).alloc (.cells #[.int .i64 0, .int .u64 0, .int .u64 0, .int .u64 0, .int .u64 0, .int .i64 0, .int .i64 0, .int .i64 0, .slice none 0 0] 35)) := ((Below.refl _ _).alloc (Nat.le_refl _) _).alloc (by simp) _
  have hs := Stp.of_below h hx
  have HL := Lib.hid h.lt
  have hcl := hs.1.pa.closed 1 (by omega)
  rw [hc] at hcl
  have hcl : ((w.alloc (.cells #[.int .i32 K, .int .u8 49, .int .i64 (z : Int)] 88)).alloc (.cells #[.int .i64 0, .int .u64 0, .int .u64 0, .int .u64 0, .int .u64 0, .int .i64 0, .int .i64 0, .int .i64 0, .slice none 0 0] 35)).cell? ⟨B, 13, none⟩ = some (.bool true) := hcl
  have q0 : ((w.alloc (.cells #[.int .i32 K, .int .u8 49, .int .i64 (z : Int)] 88)).alloc (.cells #[.int .i64 0, .int .u64 0, .int .u64 0, .int .u64 0, .int .u64 0, .int .i64 0, .int .i64 0, .int .i64 0, .slice none 0 0] 35)).cell? ⟨w.heap.size, 2, none⟩ = some (.int .i64 (z : Int)) := by simp
  have q1 : ((w.alloc (.cells #[.int .i32 K, .int .u8 49, .int .i64 (z : Int)] 88)).alloc (.cells #[.int .i64 0, .int .u64 0, .int .u64 0, .int .u64 0, .int .u64 0, .int .i64 0, .int .i64 0, .int .i64 0, .slice none 0 0] 35)).cell? ⟨w.heap.size, 1, none⟩ = some (.int .u8 49) := by simp
  have hR := RAt.two w (.cells #[.int .i32 K, .int .u8 49, .int .i64 (z : Int)] 88) #[.int .i64 0, .int .u64 0, .int .u64 0, .int .u64 0, .int .u64 0, .int .i64 0, .int .i64 0, .int .i64 0, .slice none 0 0]
  have hb1 : (p.at_ : Int) ≤ 256 := by have := h.at_; have := h.sz; omega
  have hb2 : (z : Int) ≤ 2 := by omega
  have HF := Lib.hid hfit
  clear h hx hc hz hfit
  go_enter Tryz.func89, Tryz.ntmps89
  go_upto_region 1 with fail
  generalize (w.alloc (.cells #[.int .i32 K, .int .u8 49, .int .i64 (z : Int)] 88)).alloc (.cells #[.int .i64 0, .int .u64 0, .int .u64 0, .int .u64 0, .int .u64 0, .int .i64 0, .int .i64 0, .int .i64 0, .slice none 0 0] 35) = W at *
  have HS := Lib.hid hs
  have HR := Lib.hid hR
  obtain ⟨⟨x0, x1, x2, x3, x4, x5, x6, x7⟩, xf⟩ := HS.out.1.pa.all
  clear hs hR
  go_upto_region 5 with fail
  have HD := Lib.hid HS.out.drew
  have HR2 : Hid (RAt W.drew (w.heap.size + 1) #[.int .i64 0, .int .u64 0, .int .u64 0, .int .u64 0, .int .u64 0, .int .i64 0, .int .i64 0, .int .i64 0, .slice none 0 0]) := Lib.hid (HR.out.same rfl)
  go_still_tail 9, (by kernel_rfl)
  change wpList _ _ _ _ _ W.drew
  clear x0 x1 x2 x3 x4 x5 x6 x7 xf q0 q1 HS hcl HR
  generalize W.drew = w3 at HD HR2 ⊢
  obtain ⟨⟨x0, x1, x2, x3, x4, x5, x6, x7⟩, xf⟩ := HD.out.1.pa.all
  have hgb : w.heap.size + 1 ≠ B := by have := HL.out; omega
  have HM := Lib.hid (HD.out.moved (p.at_ + z) HF.out (Nat.le_add_right _ _))
  have HR3 := Lib.hid (HR2.out.same (w' := w3.setCell ⟨B, 8, none⟩ (.int .i64 ((p.at_ + z : Nat) : Int))) (Below.heap_setCell w3 _ _ _ hgb))
  go_upto_region 6 with fail
  have e0 : ((p.at_ + z : Nat) : Int) = (p.at_ : Int) + (z : Int) := by omega
  rw [e0] at HM HR3
  generalize w3.setCell ⟨B, 8, none⟩ (.int .i64 ((p.at_ : Int) + (z : Int))) = w4 at HM HR3 ⊢
  clear x0 x1 x2 x3 x4 x5 x6 x7 xf e0
  obtain ⟨⟨⟨n0, n1, n2⟩, ⟨n3, n4, n5⟩, ⟨n6, n7, n8⟩⟩, nf⟩ := HR3.out.all
  go_wp2
  refine bodyPost_ret (v := .agg #[.int .i64 9, .int .u64 0, .int .u64 0, .int .u64 0, .int .u64 0, .int .i64 0, .int .i64 0, .int .i64 1, .slice none 0 0]) (ret_re Tryz.results89 _ _ (w.heap.size + 1) _ rfl (by simp) (HR3.out.put9 _ _ _ _ _ _ _ _ _)) rfl ⟨_, rfl, TV.leaf _ _ 9 0 0 1 noSet, HM.out.put9 HL.out _ (by omega) _ _ _ _ _ _ _ _ _⟩
set_option maxRecDepth 100000 in
set_option maxHeartbeats 4000000 in
theorem back_1_n (w : World) (B : Nat) (c : CX) (V : LV) (p : PS) (h : PM w B c V p) (K : Int) (z : Nat) (hz : z ≤ 2) (hfit : p.at_ + z ≤ c.s.size) (hc : p.cl 1 = false) :
    Calls Tryz.prog 89 #[.pointer (some ⟨B, 0, none⟩), .agg #[.int .i32 K, .int .u8 49, .int .i64 (z : Int)]] w (Ret w B c V (T0, failT c p 4 p.at_)) := by
  have hx : Below w.heap.size w ((w.alloc (.cells #[.int .i32 K, .int .u8 49, .int .i64 (z : Int)] 88)).alloc (.cells #[.int .i64 0, .int .u64 0, .int .u64 0, .int .u64 0, .int .u64 0, .int .i64 0, .int .i64 0, .int .i64 0, .slice none 0 0] 35)) := ((Below.refl _ _).alloc (Nat.le_refl _) _).alloc (by simp) _
  have hs := Stp.of_below h hx
  have HL := Lib.hid h.lt
  have hcl := hs.1.pa.closed 1 (by omega)
  rw [hc] at hcl
  have hcl : ((w.alloc (.cells #[.int .i32 K, .int .u8 49, .int .i64 (z : Int)] 88)).alloc (.cells #[.int .i64 0, .int .u64 0, .int .u64 0, .int .u64 0, .int .u64 0, .int .i64 0, .int .i64 0, .int .i64 0, .slice none 0 0] 35)).cell? ⟨B, 13, none⟩ = some (.bool false) := hcl
  have q0 : ((w.alloc (.cells #[.int .i32 K, .int .u8 49, .int .i64 (z : Int)] 88)).alloc (.cells #[.int .i64 0, .int .u64 0, .int .u64 0, .int .u64 0, .int .u64 0, .int .i64 0, .int .i64 0, .int .i64 0, .slice none 0 0] 35)).cell? ⟨w.heap.size, 2, none⟩ = some (.int .i64 (z : Int)) := by simp
  have q1 : ((w.alloc (.cells #[.int .i32 K, .int .u8 49, .int .i64 (z : Int)] 88)).alloc (.cells #[.int .i64 0, .int .u64 0, .int .u64 0, .int .u64 0, .int .u64 0, .int .i64 0, .int .i64 0, .int .i64 0, .slice none 0 0] 35)).cell? ⟨w.heap.size, 1, none⟩ = some (.int .u8 49) := by simp
  have hR := RAt.two w (.cells #[.int .i32 K, .int .u8 49, .int .i64 (z : Int)] 88) #[.int .i64 0, .int .u64 0, .int .u64 0, .int .u64 0, .int .u64 0, .int .i64 0, .int .i64 0, .int .i64 0, .slice none 0 0]
  have hb1 : (p.at_ : Int) ≤ 256 := by have := h.at_; have := h.sz; omega
  have hb2 : (z : Int) ≤ 2 := by omega
  have HF := Lib.hid hfit
  clear h hx hc hz hfit
  go_enter Tryz.func89, Tryz.ntmps89
  go_upto_region 1 with fail
  generalize (w.alloc (.cells #[.int .i32 K, .int .u8 49, .int .i64 (z : Int)] 88)).alloc (.cells #[.int .i64 0, .int .u64 0, .int .u64 0, .int .u64 0, .int .u64 0, .int .i64 0, .int .i64 0, .int .i64 0, .slice none 0 0] 35) = W at *
  have HS := Lib.hid hs
  have HR := Lib.hid hR
  obtain ⟨⟨x0, x1, x2, x3, x4, x5, x6, x7⟩, xf⟩ := HS.out.1.pa.all
  clear hs hR
  go_upto_region 4 with (first
    | (go_at_call 104; refine (fail_any _ B c V _ HS.out.1 4 p.at_).mono ?_; rintro e w2 ⟨rfl, hs⟩; have HM := Lib.hid (HS.out.trans hs); have HR3 := Lib.hid (HR.out.only hs.2 (by have := HL.out; omega)); clear hs)
    )
  clear x0 x1 x2 x3 x4 x5 x6 x7 xf q0 q1 hcl
  obtain ⟨⟨⟨n0, n1, n2⟩, ⟨n3, n4, n5⟩, ⟨n6, n7, n8⟩⟩, nf⟩ := HR3.out.all
  go_wp2
  refine bodyPost_ret (v := .agg #[.int .i64 0, .int .u64 0, .int .u64 0, .int .u64 0, .int .u64 0, .int .i64 0, .int .i64 0, .int .i64 0, .slice none 0 0]) (ret_re Tryz.results89 _ _ (w.heap.size + 1) _ rfl (by simp) (HR3.out.put9 _ _ _ _ _ _ _ _ _)) rfl ⟨_, rfl, TV.leaf _ _ 0 0 0 0 noSet, HM.out.put9 HL.out _ (by omega) _ _ _ _ _ _ _ _ _⟩
set_option maxRecDepth 100000 in
set_option maxHeartbeats 4000000 in
theorem back_2_y (w : World) (B : Nat) (c : CX) (V : LV) (p : PS) (h : PM w B c V p) (K : Int) (z : Nat) (hz : z ≤ 2) (hfit : p.at_ + z ≤ c.s.size) (hc : p.cl 2 = true) :
    Calls Tryz.prog 89 #[.pointer (some ⟨B, 0, none⟩), .agg #[.int .i32 K, .int .u8 50, .int .i64 (z : Int)]] w (Ret w B c V (bakR 2, p.to (p.at_ + z))) := by
  have hx : Below w.heap.size w ((w.alloc (.cells #[.int .i32 K, .int .u8 50, .int .i64 (z : Int)] 88)).alloc (.cells #[.int .i64 0, .int .u64 0, .int .u64 0, .int .u64 0, .int .u64 0, .int .i64 0, .int .i64 0, .int .i64 0, .slice none 0 0] 35)) := ((Below.refl _ _).alloc (Nat.le_refl _) _).alloc (by simp) _
  have hs := Stp.of_below h hx
  have HL := Lib.hid h.lt
  have hcl := hs.1.pa.closed 2 (by omega)
  rw [hc] at hcl
  have hcl : ((w.alloc (.cells #[.int .i32 K, .int .u8 50, .int .i64 (z : Int)] 88)).alloc (.cells #[.int .i64 0, .int .u64 0, .int .u64 0, .int .u64 0, .int .u64 0, .int .i64 0, .int .i64 0, .int .i64 0, .slice none 0 0] 35)).cell? ⟨B, 14, none⟩ = some (.bool true) := hcl
  have q0 : ((w.alloc (.cells #[.int .i32 K, .int .u8 50, .int .i64 (z : Int)] 88)).alloc (.cells #[.int .i64 0, .int .u64 0, .int .u64 0, .int .u64 0, .int .u64 0, .int .i64 0, .int .i64 0, .int .i64 0, .slice none 0 0] 35)).cell? ⟨w.heap.size, 2, none⟩ = some (.int .i64 (z : Int)) := by simp
  have q1 : ((w.alloc (.cells #[.int .i32 K, .int .u8 50, .int .i64 (z : Int)] 88)).alloc (.cells #[.int .i64 0, .int .u64 0, .int .u64 0, .int .u64 0, .int .u64 0, .int .i64 0, .int .i64 0, .int .i64 0, .slice none 0 0] 35)).cell? ⟨w.heap.size, 1, none⟩ = some (.int .u8 50) := by simp
  have hR := RAt.two w (.cells #[.int .i32 K, .int .u8 50, .int .i64 (z : Int)] 88) #[.int .i64 0, .int .u64 0, .int .u64 0, .int .u64 0, .int .u64 0, .int .i64 0, .int .i64 0, .int .i64 0, .slice none 0 0]
  have hb1 : (p.at_ : Int) ≤ 256 := by have := h.at_; have := h.sz; omega
  have hb2 : (z : Int) ≤ 2 := by omega
  have HF := Lib.hid hfit
  clear h hx hc hz hfit
  go_enter Tryz.func89, Tryz.ntmps89
  go_upto_region 1 with fail
  generalize (w.alloc (.cells #[.int .i32 K, .int .u8 50, .int .i64 (z : Int)] 88)).alloc (.cells #[.int .i64 0, .int .u64 0, .int .u64 0, .int .u64 0, .int .u64 0, .int .i64 0, .int .i64 0, .int .i64 0, .slice none 0 0] 35) = W at *
  have HS := Lib.hid hs
  have HR := Lib.hid hR
  obtain ⟨⟨x0, x1, x2, x3, x4, x5, x6, x7⟩, xf⟩ := HS.out.1.pa.all
  clear hs hR
  go_upto_region 5 with fail
  have HD := Lib.hid HS.out.drew
  have HR2 : Hid (RAt W.drew (w.heap.size + 1) #[.int .i64 0, .int .u64 0, .int .u64 0, .int .u64 0, .int .u64 0, .int .i64 0, .int .i64 0, .int .i64 0, .slice none 0 0]) := Lib.hid (HR.out.same rfl)
  go_still_tail 9, (by kernel_rfl)
  change wpList _ _ _ _ _ W.drew
  clear x0 x1 x2 x3 x4 x5 x6 x7 xf q0 q1 HS hcl HR
  generalize W.drew = w3 at HD HR2 ⊢
  obtain ⟨⟨x0, x1, x2, x3, x4, x5, x6, x7⟩, xf⟩ := HD.out.1.pa.all
  have hgb : w.heap.size + 1 ≠ B := by have := HL.out; omega
  have HM := Lib.hid (HD.out.moved (p.at_ + z) HF.out (Nat.le_add_right _ _))
  have HR3 := Lib.hid (HR2.out.same (w' := w3.setCell ⟨B, 8, none⟩ (.int .i64 ((p.at_ + z : Nat) : Int))) (Below.heap_setCell w3 _ _ _ hgb))
  go_upto_region 6 with fail
  have e0 : ((p.at_ + z : Nat) : Int) = (p.at_ : Int) + (z : Int) := by omega
  rw [e0] at HM HR3
  generalize w3.setCell ⟨B, 8, none⟩ (.int .i64 ((p.at_ : Int) + (z : Int))) = w4 at HM HR3 ⊢
  clear x0 x1 x2 x3 x4 x5 x6 x7 xf e0
  obtain ⟨⟨⟨n0, n1, n2⟩, ⟨n3, n4, n5⟩, ⟨n6, n7, n8⟩⟩, nf⟩ := HR3.out.all
  go_wp2
  refine bodyPost_ret (v := .agg #[.int .i64 9, .int .u64 0, .int .u64 0, .int .u64 0, .int .u64 0, .int .i64 0, .int .i64 0, .int .i64 2, .slice none 0 0]) (ret_re Tryz.results89 _ _ (w.heap.size + 1) _ rfl (by simp) (HR3.out.put9 _ _ _ _ _ _ _ _ _)) rfl ⟨_, rfl, TV.leaf _ _ 9 0 0 2 noSet, HM.out.put9 HL.out _ (by omega) _ _ _ _ _ _ _ _ _⟩
set_option maxRecDepth 100000 in
set_option maxHeartbeats 4000000 in
theorem back_2_n (w : World) (B : Nat) (c : CX) (V : LV) (p : PS) (h : PM w B c V p) (K : Int) (z : Nat) (hz : z ≤ 2) (hfit : p.at_ + z ≤ c.s.size) (hc : p.cl 2 = false) :
    Calls Tryz.prog 89 #[.pointer (some ⟨B, 0, none⟩), .agg #[.int .i32 K, .int .u8 50, .int .i64 (z : Int)]] w (Ret w B c V (T0, failT c p 4 p.at_)) := by
  have hx : Below w.heap.size w ((w.alloc (.cells #[.int .i32 K, .int .u8 50, .int .i64 (z : Int)] 88)).alloc (.cells #[.int .i64 0, .int .u64 0, .int .u64 0, .int .u64 0, .int .u64 0, .int .i64 0, .int .i64 0, .int .i64 0, .slice none 0 0] 35)) := ((Below.refl _ _).alloc (Nat.le_refl _) _).alloc (by simp) _
  have hs := Stp.of_below h hx
  have HL := Lib.hid h.lt
  have hcl := hs.1.pa.closed 2 (by omega)
  rw [hc] at hcl
  have hcl : ((w.alloc (.cells #[.int .i32 K, .int .u8 50, .int .i64 (z : Int)] 88)).alloc (.cells #[.int .i64 0, .int .u64 0, .int .u64 0, .int .u64 0, .int .u64 0, .int .i64 0, .int .i64 0, .int .i64 0, .slice none 0 0] 35)).cell? ⟨B, 14, none⟩ = some (.bool false) := hcl
  have q0 : ((w.alloc (.cells #[.int .i32 K, .int .u8 50, .int .i64 (z : Int)] 88)).alloc (.cells #[.int .i64 0, .int .u64 0, .int .u64 0, .int .u64 0, .int .u64 0, .int .i64 0, .int .i64 0, .int .i64 0, .slice none 0 0] 35)).cell? ⟨w.heap.size, 2, none⟩ = some (.int .i64 (z : Int)) := by simp
  have q1 : ((w.alloc (.cells #[.int .i32 K, .int .u8 50, .int .i64 (z : Int)] 88)).alloc (.cells #[.int .i64 0, .int .u64 0, .int .u64 0, .int .u64 0, .int .u64 0, .int .i64 0, .int .i64 0, .int .i64 0, .slice none 0 0] 35)).cell? ⟨w.heap.size, 1, none⟩ = some (.int .u8 50) := by simp
  have hR := RAt.two w (.cells #[.int .i32 K, .int .u8 50, .int .i64 (z : Int)] 88) #[.int .i64 0, .int .u64 0, .int .u64 0, .int .u64 0, .int .u64 0, .int .i64 0, .int .i64 0, .int .i64 0, .slice none 0 0]
  have hb1 : (p.at_ : Int) ≤ 256 := by have := h.at_; have := h.sz; omega
  have hb2 : (z : Int) ≤ 2 := by omega
  have HF := Lib.hid hfit
  clear h hx hc hz hfit
  go_enter Tryz.func89, Tryz.ntmps89
  go_upto_region 1 with fail
  generalize (w.alloc (.cells #[.int .i32 K, .int .u8 50, .int .i64 (z : Int)] 88)).alloc (.cells #[.int .i64 0, .int .u64 0, .int .u64 0, .int .u64 0, .int .u64 0, .int .i64 0, .int .i64 0, .int .i64 0, .slice none 0 0] 35) = W at *
  have HS := Lib.hid hs
  have HR := Lib.hid hR
  obtain ⟨⟨x0, x1, x2, x3, x4, x5, x6, x7⟩, xf⟩ := HS.out.1.pa.all
  clear hs hR
  go_upto_region 4 with (first
    | (go_at_call 104; refine (fail_any _ B c V _ HS.out.1 4 p.at_).mono ?_; rintro e w2 ⟨rfl, hs⟩; have HM := Lib.hid (HS.out.trans hs); have HR3 := Lib.hid (HR.out.only hs.2 (by have := HL.out; omega)); clear hs)
    )
  clear x0 x1 x2 x3 x4 x5 x6 x7 xf q0 q1 hcl
  obtain ⟨⟨⟨n0, n1, n2⟩, ⟨n3, n4, n5⟩, ⟨n6, n7, n8⟩⟩, nf⟩ := HR3.out.all
  go_wp2
  refine bodyPost_ret (v := .agg #[.int .i64 0, .int .u64 0, .int .u64 0, .int .u64 0, .int .u64 0, .int .i64 0, .int .i64 0, .int .i64 0, .slice none 0 0]) (ret_re Tryz.results89 _ _ (w.heap.size + 1) _ rfl (by simp) (HR3.out.put9 _ _ _ _ _ _ _ _ _)) rfl ⟨_, rfl, TV.leaf _ _ 0 0 0 0 noSet, HM.out.put9 HL.out _ (by omega) _ _ _ _ _ _ _ _ _⟩
set_option maxRecDepth 100000 in
set_option maxHeartbeats 4000000 in
theorem back_3_y (w : World) (B : Nat) (c : CX) (V : LV) (p : PS) (h : PM w B c V p) (K : Int) (z : Nat) (hz : z ≤ 2) (hfit : p.at_ + z ≤ c.s.size) (hc : p.cl 3 = true) :
    Calls Tryz.prog 89 #[.pointer (some ⟨B, 0, none⟩), .agg #[.int .i32 K, .int .u8 51, .int .i64 (z : Int)]] w (Ret w B c V (bakR 3, p.to (p.at_ + z))) := by
  have hx : Below w.heap.size w ((w.alloc (.cells #[.int .i32 K, .int .u8 51, .int .i64 (z : Int)] 88)).alloc (.cells #[.int .i64 0, .int .u64 0, .int .u64 0, .int .u64 0, .int .u64 0, .int .i64 0, .int .i64 0, .int .i64 0, .slice none 0 0] 35)) := ((Below.refl _ _).alloc (Nat.le_refl _) _).alloc (by simp) _
  have hs := Stp.of_below h hx
  have HL := Lib.hid h.lt
  have hcl := hs.1.pa.closed 3 (by omega)
  rw [hc] at hcl
  have hcl : ((w.alloc (.cells #[.int .i32 K, .int .u8 51, .int .i64 (z : Int)] 88)).alloc (.cells #[.int .i64 0, .int .u64 0, .int .u64 0, .int .u64 0, .int .u64 0, .int .i64 0, .int .i64 0, .int .i64 0, .slice none 0 0] 35)).cell? ⟨B, 15, none⟩ = some (.bool true) := hcl
  have q0 : ((w.alloc (.cells #[.int .i32 K, .int .u8 51, .int .i64 (z : Int)] 88)).alloc (.cells #[.int .i64 0, .int .u64 0, .int .u64 0, .int .u64 0, .int .u64 0, .int .i64 0, .int .i64 0, .int .i64 0, .slice none 0 0] 35)).cell? ⟨w.heap.size, 2, none⟩ = some (.int .i64 (z : Int)) := by simp
  have q1 : ((w.alloc (.cells #[.int .i32 K, .int .u8 51, .int .i64 (z : Int)] 88)).alloc (.cells #[.int .i64 0, .int .u64 0, .int .u64 0, .int .u64 0, .int .u64 0, .int .i64 0, .int .i64 0, .int .i64 0, .slice none 0 0] 35)).cell? ⟨w.heap.size, 1, none⟩ = some (.int .u8 51) := by simp
  have hR := RAt.two w (.cells #[.int .i32 K, .int .u8 51, .int .i64 (z : Int)] 88) #[.int .i64 0, .int .u64 0, .int .u64 0, .int .u64 0, .int .u64 0, .int .i64 0, .int .i64 0, .int .i64 0, .slice none 0 0]
  have hb1 : (p.at_ : Int) ≤ 256 := by have := h.at_; have := h.sz; omega
  have hb2 : (z : Int) ≤ 2 := by omega
  have HF := Lib.hid hfit
  clear h hx hc hz hfit
  go_enter Tryz.func89, Tryz.ntmps89
  go_upto_region 1 with fail
  generalize (w.alloc (.cells #[.int .i32 K, .int .u8 51, .int .i64 (z : Int)] 88)).alloc (.cells #[.int .i64 0, .int .u64 0, .int .u64 0, .int .u64 0, .int .u64 0, .int .i64 0, .int .i64 0, .int .i64 0, .slice none 0 0] 35) = W at *
  have HS := Lib.hid hs
  have HR := Lib.hid hR
  obtain ⟨⟨x0, x1, x2, x3, x4, x5, x6, x7⟩, xf⟩ := HS.out.1.pa.all
  clear hs hR
  go_upto_region 5 with fail
  have HD := Lib.hid HS.out.drew
  have HR2 : Hid (RAt W.drew (w.heap.size + 1) #[.int .i64 0, .int .u64 0, .int .u64 0, .int .u64 0, .int .u64 0, .int .i64 0, .int .i64 0, .int .i64 0, .slice none 0 0]) := Lib.hid (HR.out.same rfl)
  go_still_tail 9, (by kernel_rfl)
  change wpList _ _ _ _ _ W.drew
  clear x0 x1 x2 x3 x4 x5 x6 x7 xf q0 q1 HS hcl HR
  generalize W.drew = w3 at HD HR2 ⊢
  obtain ⟨⟨x0, x1, x2, x3, x4, x5, x6, x7⟩, xf⟩ := HD.out.1.pa.all
  have hgb : w.heap.size + 1 ≠ B := by have := HL.out; omega
  have HM := Lib.hid (HD.out.moved (p.at_ + z) HF.out (Nat.le_add_right _ _))
  have HR3 := Lib.hid (HR2.out.same (w' := w3.setCell ⟨B, 8, none⟩ (.int .i64 ((p.at_ + z : Nat) : Int))) (Below.heap_setCell w3 _ _ _ hgb))
  go_upto_region 6 with fail
  have e0 : ((p.at_ + z : Nat) : Int) = (p.at_ : Int) + (z : Int) := by omega
  rw [e0] at HM HR3
  generalize w3.setCell ⟨B, 8, none⟩ (.int .i64 ((p.at_ : Int) + (z : Int))) = w4 at HM HR3 ⊢
  clear x0 x1 x2 x3 x4 x5 x6 x7 xf e0
  obtain ⟨⟨⟨n0, n1, n2⟩, ⟨n3, n4, n5⟩, ⟨n6, n7, n8⟩⟩, nf⟩ := HR3.out.all
  go_wp2
  refine bodyPost_ret (v := .agg #[.int .i64 9, .int .u64 0, .int .u64 0, .int .u64 0, .int .u64 0, .int .i64 0, .int .i64 0, .int .i64 3, .slice none 0 0]) (ret_re Tryz.results89 _ _ (w.heap.size + 1) _ rfl (by simp) (HR3.out.put9 _ _ _ _ _ _ _ _ _)) rfl ⟨_, rfl, TV.leaf _ _ 9 0 0 3 noSet, HM.out.put9 HL.out _ (by omega) _ _ _ _ _ _ _ _ _⟩
set_option maxRecDepth 100000 in
set_option maxHeartbeats 4000000 in
theorem back_3_n (w : World) (B : Nat) (c : CX) (V : LV) (p : PS) (h : PM w B c V p) (K : Int) (z : Nat) (hz : z ≤ 2) (hfit : p.at_ + z ≤ c.s.size) (hc : p.cl 3 = false) :
    Calls Tryz.prog 89 #[.pointer (some ⟨B, 0, none⟩), .agg #[.int .i32 K, .int .u8 51, .int .i64 (z : Int)]] w (Ret w B c V (T0, failT c p 4 p.at_)) := by
  have hx : Below w.heap.size w ((w.alloc (.cells #[.int .i32 K, .int .u8 51, .int .i64 (z : Int)] 88)).alloc (.cells #[.int .i64 0, .int .u64 0, .int .u64 0, .int .u64 0, .int .u64 0, .int .i64 0, .int .i64 0, .int .i64 0, .slice none 0 0] 35)) := ((Below.refl _ _).alloc (Nat.le_refl _) _).alloc (by simp) _
  have hs := Stp.of_below h hx
  have HL := Lib.hid h.lt
  have hcl := hs.1.pa.closed 3 (by omega)
  rw [hc] at hcl
  have hcl : ((w.alloc (.cells #[.int .i32 K, .int .u8 51, .int .i64 (z : Int)] 88)).alloc (.cells #[.int .i64 0, .int .u64 0, .int .u64 0, .int .u64 0, .int .u64 0, .int .i64 0, .int .i64 0, .int .i64 0, .slice none 0 0] 35)).cell? ⟨B, 15, none⟩ = some (.bool false) := hcl
  have q0 : ((w.alloc (.cells #[.int .i32 K, .int .u8 51, .int .i64 (z : Int)] 88)).alloc (.cells #[.int .i64 0, .int .u64 0, .int .u64 0, .int .u64 0, .int .u64 0, .int .i64 0, .int .i64 0, .int .i64 0, .slice none 0 0] 35)).cell? ⟨w.heap.size, 2, none⟩ = some (.int .i64 (z : Int)) := by simp
  have q1 : ((w.alloc (.cells #[.int .i32 K, .int .u8 51, .int .i64 (z : Int)] 88)).alloc (.cells #[.int .i64 0, .int .u64 0, .int .u64 0, .int .u64 0, .int .u64 0, .int .i64 0, .int .i64 0, .int .i64 0, .slice none 0 0] 35)).cell? ⟨w.heap.size, 1, none⟩ = some (.int .u8 51) := by simp
  have hR := RAt.two w (.cells #[.int .i32 K, .int .u8 51, .int .i64 (z : Int)] 88) #[.int .i64 0, .int .u64 0, .int .u64 0, .int .u64 0, .int .u64 0, .int .i64 0, .int .i64 0, .int .i64 0, .slice none 0 0]
  have hb1 : (p.at_ : Int) ≤ 256 := by have := h.at_; have := h.sz; omega
  have hb2 : (z : Int) ≤ 2 := by omega
  have HF := Lib.hid hfit
  clear h hx hc hz hfit
  go_enter Tryz.func89, Tryz.ntmps89
  go_upto_region 1 with fail
  generalize (w.alloc (.cells #[.int .i32 K, .int .u8 51, .int .i64 (z : Int)] 88)).alloc (.cells #[.int .i64 0, .int .u64 0, .int .u64 0, .int .u64 0, .int .u64 0, .int .i64 0, .int .i64 0, .int .i64 0, .slice none 0 0] 35) = W at *
  have HS := Lib.hid hs
  have HR := Lib.hid hR
  obtain ⟨⟨x0, x1, x2, x3, x4, x5, x6, x7⟩, xf⟩ := HS.out.1.pa.all
  clear hs hR
  go_upto_region 4 with (first
    | (go_at_call 104; refine (fail_any _ B c V _ HS.out.1 4 p.at_).mono ?_; rintro e w2 ⟨rfl, hs⟩; have HM := Lib.hid (HS.out.trans hs); have HR3 := Lib.hid (HR.out.only hs.2 (by have := HL.out; omega)); clear hs)
    )
  clear x0 x1 x2 x3 x4 x5 x6 x7 xf q0 q1 hcl
  obtain ⟨⟨⟨n0, n1, n2⟩, ⟨n3, n4, n5⟩, ⟨n6, n7, n8⟩⟩, nf⟩ := HR3.out.all
  go_wp2
  refine bodyPost_ret (v := .agg #[.int .i64 0, .int .u64 0, .int .u64 0, .int .u64 0, .int .u64 0, .int .i64 0, .int .i64 0, .int .i64 0, .slice none 0 0]) (ret_re Tryz.results89 _ _ (w.heap.size + 1) _ rfl (by simp) (HR3.out.put9 _ _ _ _ _ _ _ _ _)) rfl ⟨_, rfl, TV.leaf _ _ 0 0 0 0 noSet, HM.out.put9 HL.out _ (by omega) _ _ _ _ _ _ _ _ _⟩
set_option maxRecDepth 100000 in
set_option maxHeartbeats 4000000 in
theorem back_4_y (w : World) (B : Nat) (c : CX) (V : LV) (p : PS) (h : PM w B c V p) (K : Int) (z : Nat) (hz : z ≤ 2) (hfit : p.at_ + z ≤ c.s.size) (hc : p.cl 4 = true) :
    Calls Tryz.prog 89 #[.pointer (some ⟨B, 0, none⟩), .agg #[.int .i32 K, .int .u8 52, .int .i64 (z : Int)]] w (Ret w B c V (bakR 4, p.to (p.at_ + z))) := by
  have hx : Below w.heap.size w ((w.alloc (.cells #[.int .i32 K, .int .u8 52, .int .i64 (z : Int)] 88)).alloc (.cells #[.int .i64 0, .int .u64 0, .int .u64 0, .int .u64 0, .int .u64 0, .int .i64 0, .int .i64 0, .int .i64 0, .slice none 0 0] 35)) := ((Below.refl _ _).alloc (Nat.le_refl _) _).alloc (by simp) _
  have hs := Stp.of_below h hx
  have HL := Lib.hid h.lt
  have hcl := hs.1.pa.closed 4 (by omega)
  rw [hc] at hcl
  have hcl : ((w.alloc (.cells #[.int .i32 K, .int .u8 52, .int .i64 (z : Int)] 88)).alloc (.cells #[.int .i64 0, .int .u64 0, .int .u64 0, .int .u64 0, .int .u64 0, .int .i64 0, .int .i64 0, .int .i64 0, .slice none 0 0] 35)).cell? ⟨B, 16, none⟩ = some (.bool true) := hcl
  have q0 : ((w.alloc (.cells #[.int .i32 K, .int .u8 52, .int .i64 (z : Int)] 88)).alloc (.cells #[.int .i64 0, .int .u64 0, .int .u64 0, .int .u64 0, .int .u64 0, .int .i64 0, .int .i64 0, .int .i64 0, .slice none 0 0] 35)).cell? ⟨w.heap.size, 2, none⟩ = some (.int .i64 (z : Int)) := by simp
  have q1 : ((w.alloc (.cells #[.int .i32 K, .int .u8 52, .int .i64 (z : Int)] 88)).alloc (.cells #[.int .i64 0, .int .u64 0, .int .u64 0, .int .u64 0, .int .u64 0, .int .i64 0, .int .i64 0, .int .i64 0, .slice none 0 0] 35)).cell? ⟨w.heap.size, 1, none⟩ = some (.int .u8 52) := by simp
  have hR := RAt.two w (.cells #[.int .i32 K, .int .u8 52, .int .i64 (z : Int)] 88) #[.int .i64 0, .int .u64 0, .int .u64 0, .int .u64 0, .int .u64 0, .int .i64 0, .int .i64 0, .int .i64 0, .slice none 0 0]
  have hb1 : (p.at_ : Int) ≤ 256 := by have := h.at_; have := h.sz; omega
  have hb2 : (z : Int) ≤ 2 := by omega
  have HF := Lib.hid hfit
  clear h hx hc hz hfit
  go_enter Tryz.func89, Tryz.ntmps89
  go_upto_region 1 with fail
  generalize (w.alloc (.cells #[.int .i32 K, .int .u8 52, .int .i64 (z : Int)] 88)).alloc (.cells #[.int .i64 0, .int .u64 0, .int .u64 0, .int .u64 0, .int .u64 0, .int .i64 0, .int .i64 0, .int .i64 0, .slice none 0 0] 35) = W at *
  have HS := Lib.hid hs
  have HR := Lib.hid hR
  obtain ⟨⟨x0, x1, x2, x3, x4, x5, x6, x7⟩, xf⟩ := HS.out.1.pa.all
  clear hs hR
  go_upto_region 5 with fail
  have HD := Lib.hid HS.out.drew
  have HR2 : Hid (RAt W.drew (w.heap.size + 1) #[.int .i64 0, .int .u64 0, .int .u64 0, .int .u64 0, .int .u64 0, .int .i64 0, .int .i64 0, .int .i64 0, .slice none 0 0]) := Lib.hid (HR.out.same rfl)
  go_still_tail 9, (by kernel_rfl)
  change wpList _ _ _ _ _ W.drew
  clear x0 x1 x2 x3 x4 x5 x6 x7 xf q0 q1 HS hcl HR
  generalize W.drew = w3 at HD HR2 ⊢
  obtain ⟨⟨x0, x1, x2, x3, x4, x5, x6, x7⟩, xf⟩ := HD.out.1.pa.all
  have hgb : w.heap.size + 1 ≠ B := by have := HL.out; omega
  have HM := Lib.hid (HD.out.moved (p.at_ + z) HF.out (Nat.le_add_right _ _))
  have HR3 := Lib.hid (HR2.out.same (w' := w3.setCell ⟨B, 8, none⟩ (.int .i64 ((p.at_ + z : Nat) : Int))) (Below.heap_setCell w3 _ _ _ hgb))
  go_upto_region 6 with fail
  have e0 : ((p.at_ + z : Nat) : Int) = (p.at_ : Int) + (z : Int) := by omega
  rw [e0] at HM HR3
  generalize w3.setCell ⟨B, 8, none⟩ (.int .i64 ((p.at_ : Int) + (z : Int))) = w4 at HM HR3 ⊢
  clear x0 x1 x2 x3 x4 x5 x6 x7 xf e0
  obtain ⟨⟨⟨n0, n1, n2⟩, ⟨n3, n4, n5⟩, ⟨n6, n7, n8⟩⟩, nf⟩ := HR3.out.all
  go_wp2
  refine bodyPost_ret (v := .agg #[.int .i64 9, .int .u64 0, .int .u64 0, .int .u64 0, .int .u64 0, .int .i64 0, .int .i64 0, .int .i64 4, .slice none 0 0]) (ret_re Tryz.results89 _ _ (w.heap.size + 1) _ rfl (by simp) (HR3.out.put9 _ _ _ _ _ _ _ _ _)) rfl ⟨_, rfl, TV.leaf _ _ 9 0 0 4 noSet, HM.out.put9 HL.out _ (by omega) _ _ _ _ _ _ _ _ _⟩
set_option maxRecDepth 100000 in
set_option maxHeartbeats 4000000 in
theorem back_4_n (w : World) (B : Nat) (c : CX) (V : LV) (p : PS) (h : PM w B c V p) (K : Int) (z : Nat) (hz : z ≤ 2) (hfit : p.at_ + z ≤ c.s.size) (hc : p.cl 4 = false) :
    Calls Tryz.prog 89 #[.pointer (some ⟨B, 0, none⟩), .agg #[.int .i32 K, .int .u8 52, .int .i64 (z : Int)]] w (Ret w B c V (T0, failT c p 4 p.at_)) := by
  have hx : Below w.heap.size w ((w.alloc (.cells #[.int .i32 K, .int .u8 52, .int .i64 (z : Int)] 88)).alloc (.cells #[.int .i64 0, .int .u64 0, .int .u64 0, .int .u64 0, .int .u64 0, .int .i64 0, .int .i64 0, .int .i64 0, .slice none 0 0] 35)) := ((Below.refl _ _).alloc (Nat.le_refl _) _).alloc (by simp) _
  have hs := Stp.of_below h hx
  have HL := Lib.hid h.lt
  have hcl := hs.1.pa.closed 4 (by omega)
  rw [hc] at hcl
  have hcl : ((w.alloc (.cells #[.int .i32 K, .int .u8 52, .int .i64 (z : Int)] 88)).alloc (.cells #[.int .i64 0, .int .u64 0, .int .u64 0, .int .u64 0, .int .u64 0, .int .i64 0, .int .i64 0, .int .i64 0, .slice none 0 0] 35)).cell? ⟨B, 16, none⟩ = some (.bool false) := hcl
  have q0 : ((w.alloc (.cells #[.int .i32 K, .int .u8 52, .int .i64 (z : Int)] 88)).alloc (.cells #[.int .i64 0, .int .u64 0, .int .u64 0, .int .u64 0, .int .u64 0, .int .i64 0, .int .i64 0, .int .i64 0, .slice none 0 0] 35)).cell? ⟨w.heap.size, 2, none⟩ = some (.int .i64 (z : Int)) := by simp
  have q1 : ((w.alloc (.cells #[.int .i32 K, .int .u8 52, .int .i64 (z : Int)] 88)).alloc (.cells #[.int .i64 0, .int .u64 0, .int .u64 0, .int .u64 0, .int .u64 0, .int .i64 0, .int .i64 0, .int .i64 0, .slice none 0 0] 35)).cell? ⟨w.heap.size, 1, none⟩ = some (.int .u8 52) := by simp
  have hR := RAt.two w (.cells #[.int .i32 K, .int .u8 52, .int .i64 (z : Int)] 88) #[.int .i64 0, .int .u64 0, .int .u64 0, .int .u64 0, .int .u64 0, .int .i64 0, .int .i64 0, .int .i64 0, .slice none 0 0]
  have hb1 : (p.at_ : Int) ≤ 256 := by have := h.at_; have := h.sz; omega
  have hb2 : (z : Int) ≤ 2 := by omega
  have HF := Lib.hid hfit
  clear h hx hc hz hfit
  go_enter Tryz.func89, Tryz.ntmps89
  go_upto_region 1 with fail
  generalize (w.alloc (.cells #[.int .i32 K, .int .u8 52, .int .i64 (z : Int)] 88)).alloc (.cells #[.int .i64 0, .int .u64 0, .int .u64 0, .int .u64 0, .int .u64 0, .int .i64 0, .int .i64 0, .int .i64 0, .slice none 0 0] 35) = W at *
  have HS := Lib.hid hs
  have HR := Lib.hid hR
  obtain ⟨⟨x0, x1, x2, x3, x4, x5, x6, x7⟩, xf⟩ := HS.out.1.pa.all
  clear hs hR
  go_upto_region 4 with (first
    | (go_at_call 104; refine (fail_any _ B c V _ HS.out.1 4 p.at_).mono ?_; rintro e w2 ⟨rfl, hs⟩; have HM := Lib.hid (HS.out.trans hs); have HR3 := Lib.hid (HR.out.only hs.2 (by have := HL.out; omega)); clear hs)
    )
  clear x0 x1 x2 x3 x4 x5 x6 x7 xf q0 q1 hcl
  obtain ⟨⟨⟨n0, n1, n2⟩, ⟨n3, n4, n5⟩, ⟨n6, n7, n8⟩⟩, nf⟩ := HR3.out.all
  go_wp2
  refine bodyPost_ret (v := .agg #[.int .i64 0, .int .u64 0, .int .u64 0, .int .u64 0, .int .u64 0, .int .i64 0, .int .i64 0, .int .i64 0, .slice none 0 0]) (ret_re Tryz.results89 _ _ (w.heap.size + 1) _ rfl (by simp) (HR3.out.put9 _ _ _ _ _ _ _ _ _)) rfl ⟨_, rfl, TV.leaf _ _ 0 0 0 0 noSet, HM.out.put9 HL.out _ (by omega) _ _ _ _ _ _ _ _ _⟩
set_option maxRecDepth 100000 in
set_option maxHeartbeats 4000000 in
theorem back_5_y (w : World) (B : Nat) (c : CX) (V : LV) (p : PS) (h : PM w B c V p) (K : Int) (z : Nat) (hz : z ≤ 2) (hfit : p.at_ + z ≤ c.s.size) (hc : p.cl 5 = true) :
    Calls Tryz.prog 89 #[.pointer (some ⟨B, 0, none⟩), .agg #[.int .i32 K, .int .u8 53, .int .i64 (z : Int)]] w (Ret w B c V (bakR 5, p.to (p.at_ + z))) := by
  have hx : Below w.heap.size w ((w.alloc (.cells #[.int .i32 K, .int .u8 53, .int .i64 (z : Int)] 88)).alloc (.cells #[.int .i64 0, .int .u64 0, .int .u64 0, .int .u64 0, .int .u64 0, .int .i64 0, .int .i64 0, .int .i64 0, .slice none 0 0] 35)) := ((Below.refl _ _).alloc (Nat.le_refl _) _).alloc (by simp) _
  have hs := Stp.of_below h hx
  have HL := Lib.hid h.lt
  have hcl := hs.1.pa.closed 5 (by omega)
  rw [hc] at hcl
  have hcl : ((w.alloc (.cells #[.int .i32 K, .int .u8 53, .int .i64 (z : Int)] 88)).alloc (.cells #[.int .i64 0, .int .u64 0, .int .u64 0, .int .u64 0, .int .u64 0, .int .i64 0, .int .i64 0, .int .i64 0, .slice none 0 0] 35)).cell? ⟨B, 17, none⟩ = some (.bool true) := hcl
  have q0 : ((w.alloc (.cells #[.int .i32 K, .int .u8 53, .int .i64 (z : Int)] 88)).alloc (.cells #[.int .i64 0, .int .u64 0, .int .u64 0, .int .u64 0, .int .u64 0, .int .i64 0, .int .i64 0, .int .i64 0, .slice none 0 0] 35)).cell? ⟨w.heap.size, 2, none⟩ = some (.int .i64 (z : Int)) := by simp
  have q1 : ((w.alloc (.cells #[.int .i32 K, .int .u8 53, .int .i64 (z : Int)] 88)).alloc (.cells #[.int .i64 0, .int .u64 0, .int .u64 0, .int .u64 0, .int .u64 0, .int .i64 0, .int .i64 0, .int .i64 0, .slice none 0 0] 35)).cell? ⟨w.heap.size, 1, none⟩ = some (.int .u8 53) := by simp
  have hR := RAt.two w (.cells #[.int .i32 K, .int .u8 53, .int .i64 (z : Int)] 88) #[.int .i64 0, .int .u64 0, .int .u64 0, .int .u64 0, .int .u64 0, .int .i64 0, .int .i64 0, .int .i64 0, .slice none 0 0]
  have hb1 : (p.at_ : Int) ≤ 256 := by have := h.at_; have := h.sz; omega
  have hb2 : (z : Int) ≤ 2 := by omega
  have HF := Lib.hid hfit
  clear h hx hc hz hfit
  go_enter Tryz.func89, Tryz.ntmps89
  go_upto_region 1 with fail
  generalize (w.alloc (.cells #[.int .i32 K, .int .u8 53, .int .i64 (z : Int)] 88)).alloc (.cells #[.int .i64 0, .int .u64 0, .int .u64 0, .int .u64 0, .int .u64 0, .int .i64 0, .int .i64 0, .int .i64 0, .slice none 0 0] 35) = W at *
  have HS := Lib.hid hs
  have HR := Lib.hid hR
  obtain ⟨⟨x0, x1, x2, x3, x4, x5, x6, x7⟩, xf⟩ := HS.out.1.pa.all
  clear hs hR
  go_upto_region 5 with fail
  have HD := Lib.hid HS.out.drew
  have HR2 : Hid (RAt W.drew (w.heap.size + 1) #[.int .i64 0, .int .u64 0, .int .u64 0, .int .u64 0, .int .u64 0, .int .i64 0, .int .i64 0, .int .i64 0, .slice none 0 0]) := Lib.hid (HR.out.same rfl)
  go_still_tail 9, (by kernel_rfl)
  change wpList _ _ _ _ _ W.drew
  clear x0 x1 x2 x3 x4 x5 x6 x7 xf q0 q1 HS hcl HR
  generalize W.drew = w3 at HD HR2 ⊢
  obtain ⟨⟨x0, x1, x2, x3, x4, x5, x6, x7⟩, xf⟩ := HD.out.1.pa.all
  have hgb : w.heap.size + 1 ≠ B := by have := HL.out; omega
  have HM := Lib.hid (HD.out.moved (p.at_ + z) HF.out (Nat.le_add_right _ _))
  have HR3 := Lib.hid (HR2.out.same (w' := w3.setCell ⟨B, 8, none⟩ (.int .i64 ((p.at_ + z : Nat) : Int))) (Below.heap_setCell w3 _ _ _ hgb))
  go_upto_region 6 with fail
  have e0 : ((p.at_ + z : Nat) : Int) = (p.at_ : Int) + (z : Int) := by omega
  rw [e0] at HM HR3
  generalize w3.setCell ⟨B, 8, none⟩ (.int .i64 ((p.at_ : Int) + (z : Int))) = w4 at HM HR3 ⊢
  clear x0 x1 x2 x3 x4 x5 x6 x7 xf e0
  obtain ⟨⟨⟨n0, n1, n2⟩, ⟨n3, n4, n5⟩, ⟨n6, n7, n8⟩⟩, nf⟩ := HR3.out.all
  go_wp2
  refine bodyPost_ret (v := .agg #[.int .i64 9, .int .u64 0, .int .u64 0, .int .u64 0, .int .u64 0, .int .i64 0, .int .i64 0, .int .i64 5, .slice none 0 0]) (ret_re Tryz.results89 _ _ (w.heap.size + 1) _ rfl (by simp) (HR3.out.put9 _ _ _ _ _ _ _ _ _)) rfl ⟨_, rfl, TV.leaf _ _ 9 0 0 5 noSet, HM.out.put9 HL.out _ (by omega) _ _ _ _ _ _ _ _ _⟩
set_option maxRecDepth 100000 in
set_option maxHeartbeats 4000000 in
theorem back_5_n (w : World) (B : Nat) (c : CX) (V : LV) (p : PS) (h : PM w B c V p) (K : Int) (z : Nat) (hz : z ≤ 2) (hfit : p.at_ + z ≤ c.s.size) (hc : p.cl 5 = false) :
    Calls Tryz.prog 89 #[.pointer (some ⟨B, 0, none⟩), .agg #[.int .i32 K, .int .u8 53, .int .i64 (z : Int)]] w (Ret w B c V (T0, failT c p 4 p.at_)) := by
  have hx : Below w.heap.size w ((w.alloc (.cells #[.int .i32 K, .int .u8 53, .int .i64 (z : Int)] 88)).alloc (.cells #[.int .i64 0, .int .u64 0, .int .u64 0, .int .u64 0, .int .u64 0, .int .i64 0, .int .i64 0, .int .i64 0, .slice none 0 0] 35)) := ((Below.refl _ _).alloc (Nat.le_refl _) _).alloc (by simp) _
  have hs := Stp.of_below h hx
  have HL := Lib.hid h.lt
  have hcl := hs.1.pa.closed 5 (by omega)
  rw [hc] at hcl
  have hcl : ((w.alloc (.cells #[.int .i32 K, .int .u8 53, .int .i64 (z : Int)] 88)).alloc (.cells #[.int .i64 0, .int .u64 0, .int .u64 0, .int .u64 0, .int .u64 0, .int .i64 0, .int .i64 0, .int .i64 0, .slice none 0 0] 35)).cell? ⟨B, 17, none⟩ = some (.bool false) := hcl
  have q0 : ((w.alloc (.cells #[.int .i32 K, .int .u8 53, .int .i64 (z : Int)] 88)).alloc (.cells #[.int .i64 0, .int .u64 0, .int .u64 0, .int .u64 0, .int .u64 0, .int .i64 0, .int .i64 0, .int .i64 0, .slice none 0 0] 35)).cell? ⟨w.heap.size, 2, none⟩ = some (.int .i64 (z : Int)) := by simp
  have q1 : ((w.alloc (.cells #[.int .i32 K, .int .u8 53, .int .i64 (z : Int)] 88)).alloc (.cells #[.int .i64 0, .int .u64 0, .int .u64 0, .int .u64 0, .int .u64 0, .int .i64 0, .int .i64 0, .int .i64 0, .slice none 0 0] 35)).cell? ⟨w.heap.size, 1, none⟩ = some (.int .u8 53) := by simp
  have hR := RAt.two w (.cells #[.int .i32 K, .int .u8 53, .int .i64 (z : Int)] 88) #[.int .i64 0, .int .u64 0, .int .u64 0, .int .u64 0, .int .u64 0, .int .i64 0, .int .i64 0, .int .i64 0, .slice none 0 0]
  have hb1 : (p.at_ : Int) ≤ 256 := by have := h.at_; have := h.sz; omega
  have hb2 : (z : Int) ≤ 2 := by omega
  have HF := Lib.hid hfit
  clear h hx hc hz hfit
  go_enter Tryz.func89, Tryz.ntmps89
  go_upto_region 1 with fail
  generalize (w.alloc (.cells #[.int .i32 K, .int .u8 53, .int .i64 (z : Int)] 88)).alloc (.cells #[.int .i64 0, .int .u64 0, .int .u64 0, .int .u64 0, .int .u64 0, .int .i64 0, .int .i64 0, .int .i64 0, .slice none 0 0] 35) = W at *
  have HS := Lib.hid hs
  have HR := Lib.hid hR
  obtain ⟨⟨x0, x1, x2, x3, x4, x5, x6, x7⟩, xf⟩ := HS.out.1.pa.all
  clear hs hR
  go_upto_region 4 with (first
    | (go_at_call 104; refine (fail_any _ B c V _ HS.out.1 4 p.at_).mono ?_; rintro e w2 ⟨rfl, hs⟩; have HM := Lib.hid (HS.out.trans hs); have HR3 := Lib.hid (HR.out.only hs.2 (by have := HL.out; omega)); clear hs)
    )
  clear x0 x1 x2 x3 x4 x5 x6 x7 xf q0 q1 hcl
  obtain ⟨⟨⟨n0, n1, n2⟩, ⟨n3, n4, n5⟩, ⟨n6, n7, n8⟩⟩, nf⟩ := HR3.out.all
  go_wp2
  refine bodyPost_ret (v := .agg #[.int .i64 0, .int .u64 0, .int .u64 0, .int .u64 0, .int .u64 0, .int .i64 0, .int .i64 0, .int .i64 0, .slice none 0 0]) (ret_re Tryz.results89 _ _ (w.heap.size + 1) _ rfl (by simp) (HR3.out.put9 _ _ _ _ _ _ _ _ _)) rfl ⟨_, rfl, TV.leaf _ _ 0 0 0 0 noSet, HM.out.put9 HL.out _ (by omega) _ _ _ _ _ _ _ _ _⟩
set_option maxRecDepth 100000 in
set_option maxHeartbeats 4000000 in
theorem back_6_y (w : World) (B : Nat) (c : CX) (V : LV) (p : PS) (h : PM w B c V p) (K : Int) (z : Nat) (hz : z ≤ 2) (hfit : p.at_ + z ≤ c.s.size) (hc : p.cl 6 = true) :
    Calls Tryz.prog 89 #[.pointer (some ⟨B, 0, none⟩), .agg #[.int .i32 K, .int .u8 54, .int .i64 (z : Int)]] w (Ret w B c V (bakR 6, p.to (p.at_ + z))) := by
  have hx : Below w.heap.size w ((w.alloc (.cells #[.int .i32 K, .int .u8 54, .int .i64 (z : Int)] 88)).alloc (.cells #[.int .i64 0, .int .u64 0, .int .u64 0, .int .u64 0, .int .u64 0, .int .i64 0, .int .i64 0, .int .i64 0, .slice none 0 0] 35)) := ((Below.refl _ _).alloc (Nat.le_refl _) _).alloc (by simp) _
  have hs := Stp.of_below h hx
  have HL := Lib.hid h.lt
  have hcl := hs.1.pa.closed 6 (by omega)
  rw [hc] at hcl
  have hcl : ((w.alloc (.cells #[.int .i32 K, .int .u8 54, .int .i64 (z : Int)] 88)).alloc (.cells #[.int .i64 0, .int .u64 0, .int .u64 0, .int .u64 0, .int .u64 0, .int .i64 0, .int .i64 0, .int .i64 0, .slice none 0 0] 35)).cell? ⟨B, 18, none⟩ = some (.bool true) := hcl
  have q0 : ((w.alloc (.cells #[.int .i32 K, .int .u8 54, .int .i64 (z : Int)] 88)).alloc (.cells #[.int .i64 0, .int .u64 0, .int .u64 0, .int .u64 0, .int .u64 0, .int .i64 0, .int .i64 0, .int .i64 0, .slice none 0 0] 35)).cell? ⟨w.heap.size, 2, none⟩ = some (.int .i64 (z : Int)) := by simp
  have q1 : ((w.alloc (.cells #[.int .i32 K, .int .u8 54, .int .i64 (z : Int)] 88)).alloc (.cells #[.int .i64 0, .int .u64 0, .int .u64 0, .int .u64 0, .int .u64 0, .int .i64 0, .int .i64 0, .int .i64 0, .slice none 0 0] 35)).cell? ⟨w.heap.size, 1, none⟩ = some (.int .u8 54) := by simp
  have hR := RAt.two w (.cells #[.int .i32 K, .int .u8 54, .int .i64 (z : Int)] 88) #[.int .i64 0, .int .u64 0, .int .u64 0, .int .u64 0, .int .u64 0, .int .i64 0, .int .i64 0, .int .i64 0, .slice none 0 0]
  have hb1 : (p.at_ : Int) ≤ 256 := by have := h.at_; have := h.sz; omega
  have hb2 : (z : Int) ≤ 2 := by omega
  have HF := Lib.hid hfit
  clear h hx hc hz hfit
  go_enter Tryz.func89, Tryz.ntmps89
  go_upto_region 1 with fail
  generalize (w.alloc (.cells #[.int .i32 K, .int .u8 54, .int .i64 (z : Int)] 88)).alloc (.cells #[.int .i64 0, .int .u64 0, .int .u64 0, .int .u64 0, .int .u64 0, .int .i64 0, .int .i64 0, .int .i64 0, .slice none 0 0] 35) = W at *
  have HS := Lib.hid hs
  have HR := Lib.hid hR
  obtain ⟨⟨x0, x1, x2, x3, x4, x5, x6, x7⟩, xf⟩ := HS.out.1.pa.all
  clear hs hR
  go_upto_region 5 with fail
  have HD := Lib.hid HS.out.drew
  have HR2 : Hid (RAt W.drew (w.heap.size + 1) #[.int .i64 0, .int .u64 0, .int .u64 0, .int .u64 0, .int .u64 0, .int .i64 0, .int .i64 0, .int .i64 0, .slice none 0 0]) := Lib.hid (HR.out.same rfl)
  go_still_tail 9, (by kernel_rfl)
  change wpList _ _ _ _ _ W.drew
  clear x0 x1 x2 x3 x4 x5 x6 x7 xf q0 q1 HS hcl HR
  generalize W.drew = w3 at HD HR2 ⊢
  obtain ⟨⟨x0, x1, x2, x3, x4, x5, x6, x7⟩, xf⟩ := HD.out.1.pa.all
  have hgb : w.heap.size + 1 ≠ B := by have := HL.out; omega
  have HM := Lib.hid (HD.out.moved (p.at_ + z) HF.out (Nat.le_add_right _ _))
  have HR3 := Lib.hid (HR2.out.same (w' := w3.setCell ⟨B, 8, none⟩ (.int .i64 ((p.at_ + z : Nat) : Int))) (Below.heap_setCell w3 _ _ _ hgb))
  go_upto_region 6 with fail
  have e0 : ((p.at_ + z : Nat) : Int) = (p.at_ : Int) + (z : Int) := by omega
  rw [e0] at HM HR3
  generalize w3.setCell ⟨B, 8, none⟩ (.int .i64 ((p.at_ : Int) + (z : Int))) = w4 at HM HR3 ⊢
  clear x0 x1 x2 x3 x4 x5 x6 x7 xf e0
  obtain ⟨⟨⟨n0, n1, n2⟩, ⟨n3, n4, n5⟩, ⟨n6, n7, n8⟩⟩, nf⟩ := HR3.out.all
  go_wp2
  refine bodyPost_ret (v := .agg #[.int .i64 9, .int .u64 0, .int .u64 0, .int .u64 0, .int .u64 0, .int .i64 0, .int .i64 0, .int .i64 6, .slice none 0 0]) (ret_re Tryz.results89 _ _ (w.heap.size + 1) _ rfl (by simp) (HR3.out.put9 _ _ _ _ _ _ _ _ _)) rfl ⟨_, rfl, TV.leaf _ _ 9 0 0 6 noSet, HM.out.put9 HL.out _ (by omega) _ _ _ _ _ _ _ _ _⟩
set_option maxRecDepth 100000 in
set_option maxHeartbeats 4000000 in
theorem back_6_n (w : World) (B : Nat) (c : CX) (V : LV) (p : PS) (h : PM w B c V p) (K : Int) (z : Nat) (hz : z ≤ 2) (hfit : p.at_ + z ≤ c.s.size) (hc : p.cl 6 = false) :
    Calls Tryz.prog 89 #[.pointer (some ⟨B, 0, none⟩), .agg #[.int .i32 K, .int .u8 54, .int .i64 (z : Int)]] w (Ret w B c V (T0, failT c p 4 p.at_)) := by
  have hx : Below w.heap.size w ((w.alloc (.cells #[.int .i32 K, .int .u8 54, .int .i64 (z : Int)] 88)).alloc (.cells #[.int .i64 0, .int .u64 0, .int .u64 0, .int .u64 0, .int .u64 0, .int .i64 0, .int .i64 0, .int .i64 0, .slice none 0 0] 35)) := ((Below.refl _ _).alloc (Nat.le_refl _) _).alloc (by simp) _
  have hs := Stp.of_below h hx
  have HL := Lib.hid h.lt
  have hcl := hs.1.pa.closed 6 (by omega)
  rw [hc] at hcl
  have hcl : ((w.alloc (.cells #[.int .i32 K, .int .u8 54, .int .i64 (z : Int)] 88)).alloc (.cells #[.int .i64 0, .int .u64 0, .int .u64 0, .int .u64 0, .int .u64 0, .int .i64 0, .int .i64 0, .int .i64 0, .slice none 0 0] 35)).cell? ⟨B, 18, none⟩ = some (.bool false) := hcl
  have q0 : ((w.alloc (.cells #[.int .i32 K, .int .u8 54, .int .i64 (z : Int)] 88)).alloc (.cells #[.int .i64 0, .int .u64 0, .int .u64 0, .int .u64 0, .int .u64 0, .int .i64 0, .int .i64 0, .int .i64 0, .slice none 0 0] 35)).cell? ⟨w.heap.size, 2, none⟩ = some (.int .i64 (z : Int)) := by simp
  have q1 : ((w.alloc (.cells #[.int .i32 K, .int .u8 54, .int .i64 (z : Int)] 88)).alloc (.cells #[.int .i64 0, .int .u64 0, .int .u64 0, .int .u64 0, .int .u64 0, .int .i64 0, .int .i64 0, .int .i64 0, .slice none 0 0] 35)).cell? ⟨w.heap.size, 1, none⟩ = some (.int .u8 54) := by simp
  have hR := RAt.two w (.cells #[.int .i32 K, .int .u8 54, .int .i64 (z : Int)] 88) #[.int .i64 0, .int .u64 0, .int .u64 0, .int .u64 0, .int .u64 0, .int .i64 0, .int .i64 0, .int .i64 0, .slice none 0 0]
  have hb1 : (p.at_ : Int) ≤ 256 := by have := h.at_; have := h.sz; omega
  have hb2 : (z : Int) ≤ 2 := by omega
  have HF := Lib.hid hfit
  clear h hx hc hz hfit
  go_enter Tryz.func89, Tryz.ntmps89
  go_upto_region 1 with fail
  generalize (w.alloc (.cells #[.int .i32 K, .int .u8 54, .int .i64 (z : Int)] 88)).alloc (.cells #[.int .i64 0, .int .u64 0, .int .u64 0, .int .u64 0, .int .u64 0, .int .i64 0, .int .i64 0, .int .i64 0, .slice none 0 0] 35) = W at *
  have HS := Lib.hid hs
  have HR := Lib.hid hR
  obtain ⟨⟨x0, x1, x2, x3, x4, x5, x6, x7⟩, xf⟩ := HS.out.1.pa.all
  clear hs hR
  go_upto_region 4 with (first
    | (go_at_call 104; refine (fail_any _ B c V _ HS.out.1 4 p.at_).mono ?_; rintro e w2 ⟨rfl, hs⟩; have HM := Lib.hid (HS.out.trans hs); have HR3 := Lib.hid (HR.out.only hs.2 (by have := HL.out; omega)); clear hs)
    )
  clear x0 x1 x2 x3 x4 x5 x6 x7 xf q0 q1 hcl
  obtain ⟨⟨⟨n0, n1, n2⟩, ⟨n3, n4, n5⟩, ⟨n6, n7, n8⟩⟩, nf⟩ := HR3.out.all
  go_wp2
  refine bodyPost_ret (v := .agg #[.int .i64 0, .int .u64 0, .int .u64 0, .int .u64 0, .int .u64 0, .int .i64 0, .int .i64 0, .int .i64 0, .slice none 0 0]) (ret_re Tryz.results89 _ _ (w.heap.size + 1) _ rfl (by simp) (HR3.out.put9 _ _ _ _ _ _ _ _ _)) rfl ⟨_, rfl, TV.leaf _ _ 0 0 0 0 noSet, HM.out.put9 HL.out _ (by omega) _ _ _ _ _ _ _ _ _⟩
set_option maxRecDepth 100000 in
set_option maxHeartbeats 4000000 in
theorem back_7_y (w : World) (B : Nat) (c : CX) (V : LV) (p : PS) (h : PM w B c V p) (K : Int) (z : Nat) (hz : z ≤ 2) (hfit : p.at_ + z ≤ c.s.size) (hc : p.cl 7 = true) :
    Calls Tryz.prog 89 #[.pointer (some ⟨B, 0, none⟩), .agg #[.int .i32 K, .int .u8 55, .int .i64 (z : Int)]] w (Ret w B c V (bakR 7, p.to (p.at_ + z))) := by
  have hx : Below w.heap.size w ((w.alloc (.cells #[.int .i32 K, .int .u8 55, .int .i64 (z : Int)] 88)).alloc (.cells #[.int .i64 0, .int .u64 0, .int .u64 0, .int .u64 0, .int .u64 0, .int .i64 0, .int .i64 0, .int .i64 0, .slice none 0 0] 35)) := ((Below.refl _ _).alloc (Nat.le_refl _) _).alloc (by simp) _
  have hs := Stp.of_below h hx
  have HL := Lib.hid h.lt
  have hcl := hs.1.pa.closed 7 (by omega)
  rw [hc] at hcl
  have hcl : ((w.alloc (.cells #[.int .i32 K, .int .u8 55, .int .i64 (z : Int)] 88)).alloc (.cells #[.int .i64 0, .int .u64 0, .int .u64 0, .int .u64 0, .int .u64 0, .int .i64 0, .int .i64 0, .int .i64 0, .slice none 0 0] 35)).cell? ⟨B, 19, none⟩ = some (.bool true) := hcl
  have q0 : ((w.alloc (.cells #[.int .i32 K, .int .u8 55, .int .i64 (z : Int)] 88)).alloc (.cells #[.int .i64 0, .int .u64 0, .int .u64 0, .int .u64 0, .int .u64 0, .int .i64 0, .int .i64 0, .int .i64 0, .slice none 0 0] 35)).cell? ⟨w.heap.size, 2, none⟩ = some (.int .i64 (z : Int)) := by simp
  have q1 : ((w.alloc (.cells #[.int .i32 K, .int .u8 55, .int .i64 (z : Int)] 88)).alloc (.cells #[.int .i64 0, .int .u64 0, .int .u64 0, .int .u64 0, .int .u64 0, .int .i64 0, .int .i64 0, .int .i64 0, .slice none 0 0] 35)).cell? ⟨w.heap.size, 1, none⟩ = some (.int .u8 55) := by simp
  have hR := RAt.two w (.cells #[.int .i32 K, .int .u8 55, .int .i64 (z : Int)] 88) #[.int .i64 0, .int .u64 0, .int .u64 0, .int .u64 0, .int .u64 0, .int .i64 0, .int .i64 0, .int .i64 0, .slice none 0 0]
  have hb1 : (p.at_ : Int) ≤ 256 := by have := h.at_; have := h.sz; omega
  have hb2 : (z : Int) ≤ 2 := by omega
  have HF := Lib.hid hfit
  clear h hx hc hz hfit
  go_enter Tryz.func89, Tryz.ntmps89
  go_upto_region 1 with fail
  generalize (w.alloc (.cells #[.int .i32 K, .int .u8 55, .int .i64 (z : Int)] 88)).alloc (.cells #[.int .i64 0, .int .u64 0, .int .u64 0, .int .u64 0, .int .u64 0, .int .i64 0, .int .i64 0, .int .i64 0, .slice none 0 0] 35) = W at *
  have HS := Lib.hid hs
  have HR := Lib.hid hR
  obtain ⟨⟨x0, x1, x2, x3, x4, x5, x6, x7⟩, xf⟩ := HS.out.1.pa.all
  clear hs hR
  go_upto_region 5 with fail
  have HD := Lib.hid HS.out.drew
  have HR2 : Hid (RAt W.drew (w.heap.size + 1) #[.int .i64 0, .int .u64 0, .int .u64 0, .int .u64 0, .int .u64 0, .int .i64 0, .int .i64 0, .int .i64 0, .slice none 0 0]) := Lib.hid (HR.out.same rfl)
  go_still_tail 9, (by kernel_rfl)
  change wpList _ _ _ _ _ W.drew
  clear x0 x1 x2 x3 x4 x5 x6 x7 xf q0 q1 HS hcl HR
  generalize W.drew = w3 at HD HR2 ⊢
  obtain ⟨⟨x0, x1, x2, x3, x4, x5, x6, x7⟩, xf⟩ := HD.out.1.pa.all
  have hgb : w.heap.size + 1 ≠ B := by have := HL.out; omega
  have HM := Lib.hid (HD.out.moved (p.at_ + z) HF.out (Nat.le_add_right _ _))
  have HR3 := Lib.hid (HR2.out.same (w' := w3.setCell ⟨B, 8, none⟩ (.int .i64 ((p.at_ + z : Nat) : Int))) (Below.heap_setCell w3 _ _ _ hgb))
  go_upto_region 6 with fail
  have e0 : ((p.at_ + z : Nat) : Int) = (p.at_ : Int) + (z : Int) := by omega
  rw [e0] at HM HR3
  generalize w3.setCell ⟨B, 8, none⟩ (.int .i64 ((p.at_ : Int) + (z : Int))) = w4 at HM HR3 ⊢
  clear x0 x1 x2 x3 x4 x5 x6 x7 xf e0
  obtain ⟨⟨⟨n0, n1, n2⟩, ⟨n3, n4, n5⟩, ⟨n6, n7, n8⟩⟩, nf⟩ := HR3.out.all
  go_wp2
  refine bodyPost_ret (v := .agg #[.int .i64 9, .int .u64 0, .int .u64 0, .int .u64 0, .int .u64 0, .int .i64 0, .int .i64 0, .int .i64 7, .slice none 0 0]) (ret_re Tryz.results89 _ _ (w.heap.size + 1) _ rfl (by simp) (HR3.out.put9 _ _ _ _ _ _ _ _ _)) rfl ⟨_, rfl, TV.leaf _ _ 9 0 0 7 noSet, HM.out.put9 HL.out _ (by omega) _ _ _ _ _ _ _ _ _⟩
set_option maxRecDepth 100000 in
set_option maxHeartbeats 4000000 in
theorem back_7_n (w : World) (B : Nat) (c : CX) (V : LV) (p : PS) (h : PM w B c V p) (K : Int) (z : Nat) (hz : z ≤ 2) (hfit : p.at_ + z ≤ c.s.size) (hc : p.cl 7 = false) :
    Calls Tryz.prog 89 #[.pointer (some ⟨B, 0, none⟩), .agg #[.int .i32 K, .int .u8 55, .int .i64 (z : Int)]] w (Ret w B c V (T0, failT c p 4 p.at_)) := by
  have hx : Below w.heap.size w ((w.alloc (.cells #[.int .i32 K, .int .u8 55, .int .i64 (z : Int)] 88)).alloc (.cells #[.int .i64 0, .int .u64 0, .int .u64 0, .int .u64 0, .int .u64 0, .int .i64 0, .int .i64 0, .int .i64 0, .slice none 0 0] 35)) := ((Below.refl _ _).alloc (Nat.le_refl _) _).alloc (by simp) _
  have hs := Stp.of_below h hx
  have HL := Lib.hid h.lt
  have hcl := hs.1.pa.closed 7 (by omega)
  rw [hc] at hcl
  have hcl : ((w.alloc (.cells #[.int .i32 K, .int .u8 55, .int .i64 (z : Int)] 88)).alloc (.cells #[.int .i64 0, .int .u64 0, .int .u64 0, .int .u64 0, .int .u64 0, .int .i64 0, .int .i64 0, .int .i64 0, .slice none 0 0] 35)).cell? ⟨B, 19, none⟩ = some (.bool false) := hcl
  have q0 : ((w.alloc (.cells #[.int .i32 K, .int .u8 55, .int .i64 (z : Int)] 88)).alloc (.cells #[.int .i64 0, .int .u64 0, .int .u64 0, .int .u64 0, .int .u64 0, .int .i64 0, .int .i64 0, .int .i64 0, .slice none 0 0] 35)).cell? ⟨w.heap.size, 2, none⟩ = some (.int .i64 (z : Int)) := by simp
  have q1 : ((w.alloc (.cells #[.int .i32 K, .int .u8 55, .int .i64 (z : Int)] 88)).alloc (.cells #[.int .i64 0, .int .u64 0, .int .u64 0, .int .u64 0, .int .u64 0, .int .i64 0, .int .i64 0, .int .i64 0, .slice none 0 0] 35)).cell? ⟨w.heap.size, 1, none⟩ = some (.int .u8 55) := by simp
  have hR := RAt.two w (.cells #[.int .i32 K, .int .u8 55, .int .i64 (z : Int)] 88) #[.int .i64 0, .int .u64 0, .int .u64 0, .int .u64 0, .int .u64 0, .int .i64 0, .int .i64 0, .int .i64 0, .slice none 0 0]
  have hb1 : (p.at_ : Int) ≤ 256 := by have := h.at_; have := h.sz; omega
  have hb2 : (z : Int) ≤ 2 := by omega
  have HF := Lib.hid hfit
  clear h hx hc hz hfit
  go_enter Tryz.func89, Tryz.ntmps89
  go_upto_region 1 with fail
  generalize (w.alloc (.cells #[.int .i32 K, .int .u8 55, .int .i64 (z : Int)] 88)).alloc (.cells #[.int .i64 0, .int .u64 0, .int .u64 0, .int .u64 0, .int .u64 0, .int .i64 0, .int .i64 0, .int .i64 0, .slice none 0 0] 35) = W at *
  have HS := Lib.hid hs
  have HR := Lib.hid hR
  obtain ⟨⟨x0, x1, x2, x3, x4, x5, x6, x7⟩, xf⟩ := HS.out.1.pa.all
  clear hs hR
  go_upto_region 4 with (first
    | (go_at_call 104; refine (fail_any _ B c V _ HS.out.1 4 p.at_).mono ?_; rintro e w2 ⟨rfl, hs⟩; have HM := Lib.hid (HS.out.trans hs); have HR3 := Lib.hid (HR.out.only hs.2 (by have := HL.out; omega)); clear hs)
    )
  clear x0 x1 x2 x3 x4 x5 x6 x7 xf q0 q1 hcl
  obtain ⟨⟨⟨n0, n1, n2⟩, ⟨n3, n4, n5⟩, ⟨n6, n7, n8⟩⟩, nf⟩ := HR3.out.all
  go_wp2
  refine bodyPost_ret (v := .agg #[.int .i64 0, .int .u64 0, .int .u64 0, .int .u64 0, .int .u64 0, .int .i64 0, .int .i64 0, .int .i64 0, .slice none 0 0]) (ret_re Tryz.results89 _ _ (w.heap.size + 1) _ rfl (by simp) (HR3.out.put9 _ _ _ _ _ _ _ _ _)) rfl ⟨_, rfl, TV.leaf _ _ 0 0 0 0 noSet, HM.out.put9 HL.out _ (by omega) _ _ _ _ _ _ _ _ _⟩
set_option maxRecDepth 100000 in
set_option maxHeartbeats 4000000 in
theorem back_8_y (w : World) (B : Nat) (c : CX) (V : LV) (p : PS) (h : PM w B c V p) (K : Int) (z : Nat) (hz : z ≤ 2) (hfit : p.at_ + z ≤ c.s.size) (hc : p.cl 8 = true) :
    Calls Tryz.prog 89 #[.pointer (some ⟨B, 0, none⟩), .agg #[.int .i32 K, .int .u8 56, .int .i64 (z : Int)]] w (Ret w B c V (bakR 8, p.to (p.at_ + z))) := by
  have hx : Below w.heap.size w ((w.alloc (.cells #[.int .i32 K, .int .u8 56, .int .i64 (z : Int)] 88)).alloc (.cells #[.int .i64 0, .int .u64 0, .int .u64 0, .int .u64 0, .int .u64 0, .int .i64 0, .int .i64 0, .int .i64 0, .slice none 0 0] 35)) := ((Below.refl _ _).alloc (Nat.le_refl _) _).alloc (by simp) _
  have hs := Stp.of_below h hx
  have HL := Lib.hid h.lt
  have hcl := hs.1.pa.closed 8 (by omega)
  rw [hc] at hcl
  have hcl : ((w.alloc (.cells #[.int .i32 K, .int .u8 56, .int .i64 (z : Int)] 88)).alloc (.cells #[.int .i64 0, .int .u64 0, .int .u64 0, .int .u64 0, .int .u64 0, .int .i64 0, .int .i64 0, .int .i64 0, .slice none 0 0] 35)).cell? ⟨B, 20, none⟩ = some (.bool true) := hcl
  have q0 : ((w.alloc (.cells #[.int .i32 K, .int .u8 56, .int .i64 (z : Int)] 88)).alloc (.cells #[.int .i64 0, .int .u64 0, .int .u64 0, .int .u64 0, .int .u64 0, .int .i64 0, .int .i64 0, .int .i64 0, .slice none 0 0] 35)).cell? ⟨w.heap.size, 2, none⟩ = some (.int .i64 (z : Int)) := by simp
  have q1 : ((w.alloc (.cells #[.int .i32 K, .int .u8 56, .int .i64 (z : Int)] 88)).alloc (.cells #[.int .i64 0, .int .u64 0, .int .u64 0, .int .u64 0, .int .u64 0, .int .i64 0, .int .i64 0, .int .i64 0, .slice none 0 0] 35)).cell? ⟨w.heap.size, 1, none⟩ = some (.int .u8 56) := by simp
  have hR := RAt.two w (.cells #[.int .i32 K, .int .u8 56, .int .i64 (z : Int)] 88) #[.int .i64 0, .int .u64 0, .int .u64 0, .int .u64 0, .int .u64 0, .int .i64 0, .int .i64 0, .int .i64 0, .slice none 0 0]
  have hb1 : (p.at_ : Int) ≤ 256 := by have := h.at_; have := h.sz; omega
  have hb2 : (z : Int) ≤ 2 := by omega
  have HF := Lib.hid hfit
  clear h hx hc hz hfit
  go_enter Tryz.func89, Tryz.ntmps89
  go_upto_region 1 with fail
  generalize (w.alloc (.cells #[.int .i32 K, .int .u8 56, .int .i64 (z : Int)] 88)).alloc (.cells #[.int .i64 0, .int .u64 0, .int .u64 0, .int .u64 0, .int .u64 0, .int .i64 0, .int .i64 0, .int .i64 0, .slice none 0 0] 35) = W at *
  have HS := Lib.hid hs
  have HR := Lib.hid hR
  obtain ⟨⟨x0, x1, x2, x3, x4, x5, x6, x7⟩, xf⟩ := HS.out.1.pa.all
  clear hs hR
  go_upto_region 5 with fail
  have HD := Lib.hid HS.out.drew
  have HR2 : Hid (RAt W.drew (w.heap.size + 1) #[.int .i64 0, .int .u64 0, .int .u64 0, .int .u64 0, .int .u64 0, .int .i64 0, .int .i64 0, .int .i64 0, .slice none 0 0]) := Lib.hid (HR.out.same rfl)
  go_still_tail 9, (by kernel_rfl)
  change wpList _ _ _ _ _ W.drew
  clear x0 x1 x2 x3 x4 x5 x6 x7 xf q0 q1 HS hcl HR
  generalize W.drew = w3 at HD HR2 ⊢
  obtain ⟨⟨x0, x1, x2, x3, x4, x5, x6, x7⟩, xf⟩ := HD.out.1.pa.all
  have hgb : w.heap.size + 1 ≠ B := by have := HL.out; omega
  have HM := Lib.hid (HD.out.moved (p.at_ + z) HF.out (Nat.le_add_right _ _))
  have HR3 := Lib.hid (HR2.out.same (w' := w3.setCell ⟨B, 8, none⟩ (.int .i64 ((p.at_ + z : Nat) : Int))) (Below.heap_setCell w3 _ _ _ hgb))
  go_upto_region 6 with fail
  have e0 : ((p.at_ + z : Nat) : Int) = (p.at_ : Int) + (z : Int) := by omega
  rw [e0] at HM HR3
  generalize w3.setCell ⟨B, 8, none⟩ (.int .i64 ((p.at_ : Int) + (z : Int))) = w4 at HM HR3 ⊢
  clear x0 x1 x2 x3 x4 x5 x6 x7 xf e0
  obtain ⟨⟨⟨n0, n1, n2⟩, ⟨n3, n4, n5⟩, ⟨n6, n7, n8⟩⟩, nf⟩ := HR3.out.all
  go_wp2
  refine bodyPost_ret (v := .agg #[.int .i64 9, .int .u64 0, .int .u64 0, .int .u64 0, .int .u64 0, .int .i64 0, .int .i64 0, .int .i64 8, .slice none 0 0]) (ret_re Tryz.results89 _ _ (w.heap.size + 1) _ rfl (by simp) (HR3.out.put9 _ _ _ _ _ _ _ _ _)) rfl ⟨_, rfl, TV.leaf _ _ 9 0 0 8 noSet, HM.out.put9 HL.out _ (by omega) _ _ _ _ _ _ _ _ _⟩
set_option maxRecDepth 100000 in
set_option maxHeartbeats 4000000 in
theorem back_8_n (w : World) (B : Nat) (c : CX) (V : LV) (p : PS) (h : PM w B c V p) (K : Int) (z : Nat) (hz : z ≤ 2) (hfit : p.at_ + z ≤ c.s.size) (hc : p.cl 8 = false) :
    Calls Tryz.prog 89 #[.pointer (some ⟨B, 0, none⟩), .agg #[.int .i32 K, .int .u8 56, .int .i64 (z : Int)]] w (Ret w B c V (T0, failT c p 4 p.at_)) := by
  have hx : Below w.heap.size w ((w.alloc (.cells #[.int .i32 K, .int .u8 56, .int .i64 (z : Int)] 88)).alloc (.cells #[.int .i64 0, .int .u64 0, .int .u64 0, .int .u64 0, .int .u64 0, .int .i64 0, .int .i64 0, .int .i64 0, .slice none 0 0] 35)) := ((Below.refl _ _).alloc (Nat.le_refl _) _).alloc (by simp) _
  have hs := Stp.of_below h hx
  have HL := Lib.hid h.lt
  have hcl := hs.1.pa.closed 8 (by omega)
  rw [hc] at hcl
  have hcl : ((w.alloc (.cells #[.int .i32 K, .int .u8 56, .int .i64 (z : Int)] 88)).alloc (.cells #[.int .i64 0, .int .u64 0, .int .u64 0, .int .u64 0, .int .u64 0, .int .i64 0, .int .i64 0, .int .i64 0, .slice none 0 0] 35)).cell? ⟨B, 20, none⟩ = some (.bool false) := hcl
  have q0 : ((w.alloc (.cells #[.int .i32 K, .int .u8 56, .int .i64 (z : Int)] 88)).alloc (.cells #[.int .i64 0, .int .u64 0, .int .u64 0, .int .u64 0, .int .u64 0, .int .i64 0, .int .i64 0, .int .i64 0, .slice none 0 0] 35)).cell? ⟨w.heap.size, 2, none⟩ = some (.int .i64 (z : Int)) := by simp
  have q1 : ((w.alloc (.cells #[.int .i32 K, .int .u8 56, .int .i64 (z : Int)] 88)).alloc (.cells #[.int .i64 0, .int .u64 0, .int .u64 0, .int .u64 0, .int .u64 0, .int .i64 0, .int .i64 0, .int .i64 0, .slice none 0 0] 35)).cell? ⟨w.heap.size, 1, none⟩ = some (.int .u8 56) := by simp
  have hR := RAt.two w (.cells #[.int .i32 K, .int .u8 56, .int .i64 (z : Int)] 88) #[.int .i64 0, .int .u64 0, .int .u64 0, .int .u64 0, .int .u64 0, .int .i64 0, .int .i64 0, .int .i64 0, .slice none 0 0]
  have hb1 : (p.at_ : Int) ≤ 256 := by have := h.at_; have := h.sz; omega
  have hb2 : (z : Int) ≤ 2 := by omega
  have HF := Lib.hid hfit
  clear h hx hc hz hfit
  go_enter Tryz.func89, Tryz.ntmps89
  go_upto_region 1 with fail
  generalize (w.alloc (.cells #[.int .i32 K, .int .u8 56, .int .i64 (z : Int)] 88)).alloc (.cells #[.int .i64 0, .int .u64 0, .int .u64 0, .int .u64 0, .int .u64 0, .int .i64 0, .int .i64 0, .int .i64 0, .slice none 0 0] 35) = W at *
  have HS := Lib.hid hs
  have HR := Lib.hid hR
  obtain ⟨⟨x0, x1, x2, x3, x4, x5, x6, x7⟩, xf⟩ := HS.out.1.pa.all
  clear hs hR
  go_upto_region 4 with (first
    | (go_at_call 104; refine (fail_any _ B c V _ HS.out.1 4 p.at_).mono ?_; rintro e w2 ⟨rfl, hs⟩; have HM := Lib.hid (HS.out.trans hs); have HR3 := Lib.hid (HR.out.only hs.2 (by have := HL.out; omega)); clear hs)
    )
  clear x0 x1 x2 x3 x4 x5 x6 x7 xf q0 q1 hcl
  obtain ⟨⟨⟨n0, n1, n2⟩, ⟨n3, n4, n5⟩, ⟨n6, n7, n8⟩⟩, nf⟩ := HR3.out.all
  go_wp2
  refine bodyPost_ret (v := .agg #[.int .i64 0, .int .u64 0, .int .u64 0, .int .u64 0, .int .u64 0, .int .i64 0, .int .i64 0, .int .i64 0, .slice none 0 0]) (ret_re Tryz.results89 _ _ (w.heap.size + 1) _ rfl (by simp) (HR3.out.put9 _ _ _ _ _ _ _ _ _)) rfl ⟨_, rfl, TV.leaf _ _ 0 0 0 0 noSet, HM.out.put9 HL.out _ (by omega) _ _ _ _ _ _ _ _ _⟩
set_option maxRecDepth 100000 in
set_option maxHeartbeats 4000000 in
theorem back_9_y (w : World) (B : Nat) (c : CX) (V : LV) (p : PS) (h : PM w B c V p) (K : Int) (z : Nat) (hz : z ≤ 2) (hfit : p.at_ + z ≤ c.s.size) (hc : p.cl 9 = true) :
    Calls Tryz.prog 89 #[.pointer (some ⟨B, 0, none⟩), .agg #[.int .i32 K, .int .u8 57, .int .i64 (z : Int)]] w (Ret w B c V (bakR 9, p.to (p.at_ + z))) := by
  have hx : Below w.heap.size w ((w.alloc (.cells #[.int .i32 K, .int .u8 57, .int .i64 (z : Int)] 88)).alloc (.cells #[.int .i64 0, .int .u64 0, .int .u64 0, .int .u64 0, .int .u64 0, .int .i64 0, .int .i64 0, .int .i64 0, .slice none 0 0] 35)) := ((Below.refl _ _).alloc (Nat.le_refl _) _).alloc (by simp) _
  have hs := Stp.of_below h hx
  have HL := Lib.hid h.lt
  have hcl := hs.1.pa.closed 9 (by omega)
  rw [hc] at hcl
  have hcl : ((w.alloc (.cells #[.int .i32 K, .int .u8 57, .int .i64 (z : Int)] 88)).alloc (.cells #[.int .i64 0, .int .u64 0, .int .u64 0, .int .u64 0, .int .u64 0, .int .i64 0, .int .i64 0, .int .i64 0, .slice none 0 0] 35)).cell? ⟨B, 21, none⟩ = some (.bool true) := hcl
  have q0 : ((w.alloc (.cells #[.int .i32 K, .int .u8 57, .int .i64 (z : Int)] 88)).alloc (.cells #[.int .i64 0, .int .u64 0, .int .u64 0, .int .u64 0, .int .u64 0, .int .i64 0, .int .i64 0, .int .i64 0, .slice none 0 0] 35)).cell? ⟨w.heap.size, 2, none⟩ = some (.int .i64 (z : Int)) := by simp
  have q1 : ((w.alloc (.cells #[.int .i32 K, .int .u8 57, .int .i64 (z : Int)] 88)).alloc (.cells #[.int .i64 0, .int .u64 0, .int .u64 0, .int .u64 0, .int .u64 0, .int .i64 0, .int .i64 0, .int .i64 0, .slice none 0 0] 35)).cell? ⟨w.heap.size, 1, none⟩ = some (.int .u8 57) := by simp
  have hR := RAt.two w (.cells #[.int .i32 K, .int .u8 57, .int .i64 (z : Int)] 88) #[.int .i64 0, .int .u64 0, .int .u64 0, .int .u64 0, .int .u64 0, .int .i64 0, .int .i64 0, .int .i64 0, .slice none 0 0]
  have hb1 : (p.at_ : Int) ≤ 256 := by have := h.at_; have := h.sz; omega
  have hb2 : (z : Int) ≤ 2 := by omega
  have HF := Lib.hid hfit
  clear h hx hc hz hfit
  go_enter Tryz.func89, Tryz.ntmps89
  go_upto_region 1 with fail
  generalize (w.alloc (.cells #[.int .i32 K, .int .u8 57, .int .i64 (z : Int)] 88)).alloc (.cells #[.int .i64 0, .int .u64 0, .int .u64 0, .int .u64 0, .int .u64 0, .int .i64 0, .int .i64 0, .int .i64 0, .slice none 0 0] 35) = W at *
  have HS := Lib.hid hs
  have HR := Lib.hid hR
  obtain ⟨⟨x0, x1, x2, x3, x4, x5, x6, x7⟩, xf⟩ := HS.out.1.pa.all
  clear hs hR
  go_upto_region 5 with fail
  have HD := Lib.hid HS.out.drew
  have HR2 : Hid (RAt W.drew (w.heap.size + 1) #[.int .i64 0, .int .u64 0, .int .u64 0, .int .u64 0, .int .u64 0, .int .i64 0, .int .i64 0, .int .i64 0, .slice none 0 0]) := Lib.hid (HR.out.same rfl)
  go_still_tail 9, (by kernel_rfl)
  change wpList _ _ _ _ _ W.drew
  clear x0 x1 x2 x3 x4 x5 x6 x7 xf q0 q1 HS hcl HR
  generalize W.drew = w3 at HD HR2 ⊢
  obtain ⟨⟨x0, x1, x2, x3, x4, x5, x6, x7⟩, xf⟩ := HD.out.1.pa.all
  have hgb : w.heap.size + 1 ≠ B := by have := HL.out; omega
  have HM := Lib.hid (HD.out.moved (p.at_ + z) HF.out (Nat.le_add_right _ _))
  have HR3 := Lib.hid (HR2.out.same (w' := w3.setCell ⟨B, 8, none⟩ (.int .i64 ((p.at_ + z : Nat) : Int))) (Below.heap_setCell w3 _ _ _ hgb))
  go_upto_region 6 with fail
  have e0 : ((p.at_ + z : Nat) : Int) = (p.at_ : Int) + (z : Int) := by omega
  rw [e0] at HM HR3
  generalize w3.setCell ⟨B, 8, none⟩ (.int .i64 ((p.at_ : Int) + (z : Int))) = w4 at HM HR3 ⊢
  clear x0 x1 x2 x3 x4 x5 x6 x7 xf e0
  obtain ⟨⟨⟨n0, n1, n2⟩, ⟨n3, n4, n5⟩, ⟨n6, n7, n8⟩⟩, nf⟩ := HR3.out.all
  go_wp2
  refine bodyPost_ret (v := .agg #[.int .i64 9, .int .u64 0, .int .u64 0, .int .u64 0, .int .u64 0, .int .i64 0, .int .i64 0, .int .i64 9, .slice none 0 0]) (ret_re Tryz.results89 _ _ (w.heap.size + 1) _ rfl (by simp) (HR3.out.put9 _ _ _ _ _ _ _ _ _)) rfl ⟨_, rfl, TV.leaf _ _ 9 0 0 9 noSet, HM.out.put9 HL.out _ (by omega) _ _ _ _ _ _ _ _ _⟩
set_option maxRecDepth 100000 in
set_option maxHeartbeats 4000000 in
theorem back_9_n (w : World) (B : Nat) (c : CX) (V : LV) (p : PS) (h : PM w B c V p) (K : Int) (z : Nat) (hz : z ≤ 2) (hfit : p.at_ + z ≤ c.s.size) (hc : p.cl 9 = false) :
    Calls Tryz.prog 89 #[.pointer (some ⟨B, 0, none⟩), .agg #[.int .i32 K, .int .u8 57, .int .i64 (z : Int)]] w (Ret w B c V (T0, failT c p 4 p.at_)) := by
  have hx : Below w.heap.size w ((w.alloc (.cells #[.int .i32 K, .int .u8 57, .int .i64 (z : Int)] 88)).alloc (.cells #[.int .i64 0, .int .u64 0, .int .u64 0, .int .u64 0, .int .u64 0, .int .i64 0, .int .i64 0, .int .i64 0, .slice none 0 0] 35)) := ((Below.refl _ _).alloc (Nat.le_refl _) _).alloc (by simp) _
  have hs := Stp.of_below h hx
  have HL := Lib.hid h.lt
  have hcl := hs.1.pa.closed 9 (by omega)
  rw [hc] at hcl
  have hcl : ((w.alloc (.cells #[.int .i32 K, .int .u8 57, .int .i64 (z : Int)] 88)).alloc (.cells #[.int .i64 0, .int .u64 0, .int .u64 0, .int .u64 0, .int .u64 0, .int .i64 0, .int .i64 0, .int .i64 0, .slice none 0 0] 35)).cell? ⟨B, 21, none⟩ = some (.bool false) := hcl
  have q0 : ((w.alloc (.cells #[.int .i32 K, .int .u8 57, .int .i64 (z : Int)] 88)).alloc (.cells #[.int .i64 0, .int .u64 0, .int .u64 0, .int .u64 0, .int .u64 0, .int .i64 0, .int .i64 0, .int .i64 0, .slice none 0 0] 35)).cell? ⟨w.heap.size, 2, none⟩ = some (.int .i64 (z : Int)) := by simp
  have q1 : ((w.alloc (.cells #[.int .i32 K, .int .u8 57, .int .i64 (z : Int)] 88)).alloc (.cells #[.int .i64 0, .int .u64 0, .int .u64 0, .int .u64 0, .int .u64 0, .int .i64 0, .int .i64 0, .int .i64 0, .slice none 0 0] 35)).cell? ⟨w.heap.size, 1, none⟩ = some (.int .u8 57) := by simp
  have hR := RAt.two w (.cells #[.int .i32 K, .int .u8 57, .int .i64 (z : Int)] 88) #[.int .i64 0, .int .u64 0, .int .u64 0, .int .u64 0, .int .u64 0, .int .i64 0, .int .i64 0, .int .i64 0, .slice none 0 0]
  have hb1 : (p.at_ : Int) ≤ 256 := by have := h.at_; have := h.sz; omega
  have hb2 : (z : Int) ≤ 2 := by omega
  have HF := Lib.hid hfit
  clear h hx hc hz hfit
  go_enter Tryz.func89, Tryz.ntmps89
  go_upto_region 1 with fail
  generalize (w.alloc (.cells #[.int .i32 K, .int .u8 57, .int .i64 (z : Int)] 88)).alloc (.cells #[.int .i64 0, .int .u64 0, .int .u64 0, .int .u64 0, .int .u64 0, .int .i64 0, .int .i64 0, .int .i64 0, .slice none 0 0] 35) = W at *
  have HS := Lib.hid hs
  have HR := Lib.hid hR
  obtain ⟨⟨x0, x1, x2, x3, x4, x5, x6, x7⟩, xf⟩ := HS.out.1.pa.all
  clear hs hR
  go_upto_region 4 with (first
    | (go_at_call 104; refine (fail_any _ B c V _ HS.out.1 4 p.at_).mono ?_; rintro e w2 ⟨rfl, hs⟩; have HM := Lib.hid (HS.out.trans hs); have HR3 := Lib.hid (HR.out.only hs.2 (by have := HL.out; omega)); clear hs)
    )
  clear x0 x1 x2 x3 x4 x5 x6 x7 xf q0 q1 hcl
  obtain ⟨⟨⟨n0, n1, n2⟩, ⟨n3, n4, n5⟩, ⟨n6, n7, n8⟩⟩, nf⟩ := HR3.out.all
  go_wp2
  refine bodyPost_ret (v := .agg #[.int .i64 0, .int .u64 0, .int .u64 0, .int .u64 0, .int .u64 0, .int .i64 0, .int .i64 0, .int .i64 0, .slice none 0 0]) (ret_re Tryz.results89 _ _ (w.heap.size + 1) _ rfl (by simp) (HR3.out.put9 _ _ _ _ _ _ _ _ _)) rfl ⟨_, rfl, TV.leaf _ _ 0 0 0 0 noSet, HM.out.put9 HL.out _ (by omega) _ _ _ _ _ _ _ _ _⟩
theorem back_any (w : World) (B : Nat) (c : CX) (V : LV) (p : PS) (h : PM w B c V p) (K v : Int) (z : Nat) (hv : 49 ≤ v ∧ v ≤ 57) (hz : z ≤ 2) (hfit : p.at_ + z ≤ c.s.size) :
    Calls Tryz.prog 89 #[.pointer (some ⟨B, 0, none⟩), .agg #[.int .i32 K, .int .u8 v, .int .i64 (z : Int)]] w (Ret w B c V (if p.cl (v - 48).toNat = true then (bakR (v - 48), p.to (p.at_ + z)) else (T0, failT c p 4 p.at_))) := by
  have hd : v = 49 ∨ v = 50 ∨ v = 51 ∨ v = 52 ∨ v = 53 ∨ v = 54 ∨ v = 55 ∨ v = 56 ∨ v = 57 := by omega
  rcases hd with e | e | e | e | e | e | e | e | e
  · subst e
    show Calls _ _ _ _ (Ret w B c V (if p.cl 1 = true then (bakR 1, p.to (p.at_ + z)) else (T0, failT c p 4 p.at_)))
    by_cases hc : p.cl 1 = true
    · rw [if_pos hc]; exact back_1_y w B c V p h K z hz hfit hc
    · rw [if_neg hc]; exact back_1_n w B c V p h K z hz hfit (by simpa using hc)
  · subst e
    show Calls _ _ _ _ (Ret w B c V (if p.cl 2 = true then (bakR 2, p.to (p.at_ + z)) else (T0, failT c p 4 p.at_)))
    by_cases hc : p.cl 2 = true
    · rw [if_pos hc]; exact back_2_y w B c V p h K z hz hfit hc
    · rw [if_neg hc]; exact back_2_n w B c V p h K z hz hfit (by simpa using hc)
  · subst e
    show Calls _ _ _ _ (Ret w B c V (if p.cl 3 = true then (bakR 3, p.to (p.at_ + z)) else (T0, failT c p 4 p.at_)))
    by_cases hc : p.cl 3 = true
    · rw [if_pos hc]; exact back_3_y w B c V p h K z hz hfit hc
    · rw [if_neg hc]; exact back_3_n w B c V p h K z hz hfit (by simpa using hc)
  · subst e
    show Calls _ _ _ _ (Ret w B c V (if p.cl 4 = true then (bakR 4, p.to (p.at_ + z)) else (T0, failT c p 4 p.at_)))
    by_cases hc : p.cl 4 = true
    · rw [if_pos hc]; exact back_4_y w B c V p h K z hz hfit hc
    · rw [if_neg hc]; exact back_4_n w B c V p h K z hz hfit (by simpa using hc)
  · subst e
    show Calls _ _ _ _ (Ret w B c V (if p.cl 5 = true then (bakR 5, p.to (p.at_ + z)) else (T0, failT c p 4 p.at_)))
    by_cases hc : p.cl 5 = true
    · rw [if_pos hc]; exact back_5_y w B c V p h K z hz hfit hc
    · rw [if_neg hc]; exact back_5_n w B c V p h K z hz hfit (by simpa using hc)
  · subst e
    show Calls _ _ _ _ (Ret w B c V (if p.cl 6 = true then (bakR 6, p.to (p.at_ + z)) else (T0, failT c p 4 p.at_)))
    by_cases hc : p.cl 6 = true
    · rw [if_pos hc]; exact back_6_y w B c V p h K z hz hfit hc
    · rw [if_neg hc]; exact back_6_n w B c V p h K z hz hfit (by simpa using hc)
  · subst e
    show Calls _ _ _ _ (Ret w B c V (if p.cl 7 = true then (bakR 7, p.to (p.at_ + z)) else (T0, failT c p 4 p.at_)))
    by_cases hc : p.cl 7 = true
    · rw [if_pos hc]; exact back_7_y w B c V p h K z hz hfit hc
    · rw [if_neg hc]; exact back_7_n w B c V p h K z hz hfit (by simpa using hc)
  · subst e
    show Calls _ _ _ _ (Ret w B c V (if p.cl 8 = true then (bakR 8, p.to (p.at_ + z)) else (T0, failT c p 4 p.at_)))
    by_cases hc : p.cl 8 = true
    · rw [if_pos hc]; exact back_8_y w B c V p h K z hz hfit hc
    · rw [if_neg hc]; exact back_8_n w B c V p h K z hz hfit (by simpa using hc)
  · subst e
    show Calls _ _ _ _ (Ret w B c V (if p.cl 9 = true then (bakR 9, p.to (p.at_ + z)) else (T0, failT c p 4 p.at_)))
    by_cases hc : p.cl 9 = true
    · rw [if_pos hc]; exact back_9_y w B c V p h K z hz hfit hc
    · rw [if_neg hc]; exact back_9_n w B c V p h K z hz hfit (by simpa using hc)
end Go.Proofs.YtphiaagppcbefaaGreatDoor
