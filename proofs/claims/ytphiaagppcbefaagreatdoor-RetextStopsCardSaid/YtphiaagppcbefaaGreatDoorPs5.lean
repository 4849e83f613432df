/- LpDef. -/
import Derived.Test.YtphiaagppcbefaaGreatDoorRows
import Derived.Test.YtphiaagppcbefaaGreatDoorPs3
import Derived.Test.YtphiaagppcbefaaGreatDoorPs4
import Derived.Laws.CopyOwn
import Derived.Laws.CopyRow
import Derived.Laws.Tables
import Derived.Deep.OwnRows
import Derived.Deep.RegionLaw
import Derived.Deep.RegionHeld3
import Derived.KernelRfl
set_option linter.unusedVariables false
namespace Go.Proofs.YtphiaagppcbefaaGreatDoor
open Go.RowKit
def upl (u : Nat → Value) (z : Value) (k : Nat) : List Value := (List.range 256).map fun j => if j < k then u j else z
theorem upl_len (u : Nat → Value) (z : Value) (k : Nat) : (upl u z k).length = 256 := by unfold upl; simp
theorem upl_get (u : Nat → Value) (z : Value) (k j : Nat) (h : j < 256) : (upl u z k)[j]? = some (if j < k then u j else z) := by
  unfold upl
  rw [List.getElem?_map, List.getElem?_range h]
  rfl
theorem upl_set (u : Nat → Value) (z : Value) (k : Nat) (h : k < 256) : (upl u z k).set k (u k) = upl u z (k + 1) := by
  apply List.ext_getElem?
  intro j
  rw [List.getElem?_set, upl_len]
  by_cases hj : j < 256
  · rw [upl_get u z (k + 1) j hj]
    by_cases e : k = j
    · subst e
      simp [h]
    · rw [if_neg e, upl_get u z k j hj]
      have : (j < k) = (j < k + 1) := by simp; omega
      simp [this]
  · have e1 : (upl u z (k + 1))[j]? = none := List.getElem?_eq_none (by rw [upl_len]; omega)
    have e2 : (upl u z k)[j]? = none := List.getElem?_eq_none (by rw [upl_len]; omega)
    have e3 : ¬ k = j := by omega
    rw [if_neg e3, e1, e2]
theorem upl_full (u : Nat → Value) (z : Value) : upl u z 256 = (List.range 256).map u := by
  unfold upl
  apply List.map_congr_left
  intro j hj
  rw [if_pos (by simpa using hj)]
theorem upl_none (u : Nat → Value) (z : Value) : upl u z 0 = List.replicate 256 z := by
  refine List.eq_replicate_iff.2 ⟨upl_len u z 0, fun b hb => ?_⟩
  unfold upl at hb
  obtain ⟨j, _, rfl⟩ := List.mem_map.1 hb
  exact if_neg (Nat.not_lt_zero j)
theorem upl_put (u : Nat → Value) (z : Value) (k : Nat) (h : k < 256) : (upl u z k).toArray.setIfInBounds k (u k) = (upl u z (k + 1)).toArray := by
  rw [List.setIfInBounds_toArray, upl_set u z k h]
def nW (j : Nat) : Value := .int .i64 (j : Int)
def nB (j : Nat) : Value := .int .u8 (j : Int)
def allL : List UInt8 := (List.range 256).map fun j => UInt8.ofNat j
theorem nB_all : (List.range 256).map nB = bys allL := by
  unfold allL bys
  rw [List.map_map]
  apply List.map_congr_left
  intro j hj
  have : j < 256 := by simpa using hj
  show Value.int .u8 (j : Int) = Value.int .u8 ((UInt8.ofNat j).toNat : Int)
  rw [UInt8.toNat_ofNat', Nat.mod_eq_of_lt (by omega)]
theorem allL_len : allL.length = 256 := by unfold allL; simp
theorem splice_bys (l r : List UInt8) (o : Nat) : splice (bys l) o (bys r) = bys (splice l o r) := by
  unfold splice bys
  simp [List.map_append, List.map_take, List.map_drop]
theorem low_all : splice allL 65 ((allL.drop 97).take 26) = lowL 256 := by decide +kernel
theorem up_all : splice allL 97 ((allL.drop 65).take 26) = upL 256 := by decide +kernel
theorem step_copy {P : Program} {ops : Array Oper} {o : Oper} {a : Act} {w : World} {K : Act → World → Prop} {Q : Exit → Act → World → Prop} {E : Prop}
    (hg : o.guard = none) (d s : Operand) (dT sT : TypeId) (hop : o.op = .call { callee := .builtin .copy, args := #[d, s], argTypes := #[dT, sT] })
    (elem : TypeId) (hu : P.underlying dT = some (.slice elem)) (hsz : (P.info? elem).map (·.size) = some 1)
    (g off dLen dCap : Nat) (ad : Addr) (sLen sCap : Nat) (hd : a.eval d = .slice (some ⟨g, off, none⟩) dLen dCap) (hs : a.eval s = .slice (some ad) sLen sCap)
    (cur : List Value) (t : TypeId) (hgk : w.heap[g]? = some (.cells cur.toArray t (0, 0))) (cs : List Value) (hn : cs.length = Nat.min sLen dLen)
    (hsrc : ∀ j v, cs[j]? = some v → w.cell? (ad.add j) = some v) (hfit : off + cs.length ≤ cur.length) (h1 : ∀ v ∈ cs, v.oneCell' = true)
    (hK : ∀ w', w'.heap[g]? = some (.cells (splice cur off cs).toArray t (0, 0)) → (∀ k, k ≠ g → w'.heap[k]? = w.heap[k]?) → w'.heap.size = w.heap.size → (∀ B w0, Below B w0 w → B ≤ g → Below B w0 w') → K (a.put o.dst (goInt cs.length)) w') :
    if Region.wanted o (yielded ops a.tmps) = true then Oper.wp P o a w K Q else E := by
  have hw : Region.wanted o (yielded ops a.tmps) = true := by simp [Region.wanted, hg]
  rw [if_pos hw]
  have hrun := run_copy_row (P := P) w dT sT o.type elem g off dLen dCap ad sLen sCap cur.toArray t cs hu hsz hgk hn hsrc (by simpa using hfit) h1
  unfold Oper.wp
  simp [execOp, hop, resolve, invoke, builtin, hd, hs, hrun, Result.andThen]
  refine hK _ ?_ (fun k hk => setRow_other w g k _ hk) (by simp [World.setRow]) (fun B w0 hb hB => below_setRow hb hB _)
  simpa [splice] using setRow_heap w g _ _ t _ hgk
def DP (B : Nat) (w0 w : World) (k : Nat) : Prop :=
  Below B w0 w ∧ LAt w B zeroL ∧ w.heap[B + 1]? = some (.cells (upl nW (.int .i64 0) k).toArray 3 (0, 0)) ∧ w.heap[B + 2]? = some (.cells (upl nB (.int .u8 0) k).toArray 106 (0, 0)) ∧ w.heap.size = B + 3
theorem DP.start (w : World) : DP w.heap.size w (((w.alloc (.cells zeroL 26)).alloc (.cells (upl nW (.int .i64 0) 0).toArray 3)).alloc (.cells (upl nB (.int .u8 0) 0).toArray 106)) 0 := by
  refine ⟨(((Below.refl _ _).alloc (Nat.le_refl _) _).alloc (by simp) _).alloc (by simp; omega) _, ?_, ?_, ?_, by simp⟩
  · unfold LAt
    rw [Below.heap_alloc _ _ _ (by simp; omega), Below.heap_alloc _ _ _ (by simp)]
    exact heap_alloc_new w _
  · rw [Below.heap_alloc _ _ _ (by simp)]
    have := heap_alloc_new (w.alloc (.cells zeroL 26)) (.cells (upl nW (.int .i64 0) 0).toArray 3)
    simpa using this
  · have := heap_alloc_new ((w.alloc (.cells zeroL 26)).alloc (.cells (upl nW (.int .i64 0) 0).toArray 3)) (.cells (upl nB (.int .u8 0) 0).toArray 106)
    simpa using this
theorem DP.next {B k : Nat} {w0 w : World} (h : DP B w0 w k) (hk : k < 256) : DP B w0 ((w.setCell ⟨B + 1, k, none⟩ (nW k)).setCell ⟨B + 2, k, none⟩ (nB k)) (k + 1) := by
  obtain ⟨b, l, x, y, z⟩ := h
  refine ⟨(b.setCell (p := ⟨B + 1, k, none⟩) (by show B ≤ B + 1; omega) _).setCell (p := ⟨B + 2, k, none⟩) (by show B ≤ B + 2; omega) _, (l.apart _ (by omega)).apart _ (by omega), ?_, ?_, by simpa using z⟩
  · rw [Below.heap_setCell _ ⟨B + 2, k, none⟩ _ (B + 1) (by show B + 1 ≠ B + 2; omega), heap_setCell_same w (B + 1) k _ _ _ x, upl_put _ _ _ hk]
  · rw [heap_setCell_same _ (B + 2) k _ _ _ ((Below.heap_setCell w ⟨B + 1, k, none⟩ _ (B + 2) (by show B + 2 ≠ B + 1; omega)).trans y), upl_put _ _ _ hk]
theorem DP.cells {B k : Nat} {w0 w : World} (h : DP B w0 w k) (hk : k < 256) :
    (w.cell? ⟨B + 1, k, none⟩ = some (.int .i64 0) ∧ w.frozen? ⟨B + 1, k, none⟩ = false) ∧ w.cell? ⟨B + 2, k, none⟩ = some (.int .u8 0) ∧ w.frozen? ⟨B + 2, k, none⟩ = false := by
  obtain ⟨b, l, x, y, z⟩ := h
  refine ⟨⟨?_, frozen_of_row w _ k _ _ x⟩, ?_, frozen_of_row w _ k _ _ y⟩
  · rw [cell_of_row w _ k _ _ _ x]
    simpa using upl_get nW (.int .i64 0) k k hk
  · rw [cell_of_row w _ k _ _ _ y]
    simpa using upl_get nB (.int .u8 0) k k hk
theorem add_off (g o j : Nat) : (⟨g, o, none⟩ : Addr).add j = ⟨g, o + j, none⟩ := by unfold Addr.add; split <;> simp_all
theorem src_cells {w : World} {g : Nat} {l : List UInt8} {t : TypeId} (h : w.heap[g]? = some (.cells (bys l).toArray t (0, 0))) (o n : Nat) : ∀ j v, (bys ((l.drop o).take n))[j]? = some v → w.cell? ((⟨g, o, none⟩ : Addr).add j) = some v := by
  intro j v hv
  rw [add_off, cell_of_row w g _ _ _ _ h]
  unfold bys at hv ⊢
  rw [List.getElem?_map] at hv
  simp only [List.getElem?_toArray, List.getElem?_map]
  rw [List.getElem?_take] at hv
  split at hv
  · rw [List.getElem?_drop] at hv
    exact hv
  · cases hv
theorem bys_one (l : List UInt8) : ∀ v ∈ bys l, v.oneCell' = true := by
  unfold bys
  intro v hv
  obtain ⟨c, _, rfl⟩ := List.mem_map.1 hv
  rfl
theorem bys_len (l : List UInt8) : (bys l).length = l.length := by unfold bys; simp
def DC (B G : Nat) (w0 w : World) (A1 A2 : List UInt8) : Prop :=
  Below B w0 w ∧ LAt w B zeroL ∧ w.heap[B + 1]? = some (.cells ((List.range 256).map nW).toArray 3 (0, 0)) ∧ w.heap[B + 2]? = some (.cells (bys allL).toArray 106 (0, 0)) ∧
    w.heap[G]? = some (.cells (bys A1).toArray 106 (0, 0)) ∧ w.heap[G + 1]? = some (.cells (bys A2).toArray 106 (0, 0)) ∧ B + 3 ≤ G
theorem DC.start {B : Nat} {w0 w : World} (h : DP B w0 w 256) (Y : Array Value) :
    DC B w.heap.size w0 ((((w.alloc (.cells Y 106)).alloc (.cells Y 106)).setRow w.heap.size (bys allL).toArray).setRow (w.heap.size + 1) (bys allL).toArray) allL allL := by
  unfold DP at h
  rw [upl_full, upl_full, nB_all] at h
  obtain ⟨b, l, x, y, z⟩ := h
  have far : ∀ k, k < w.heap.size → ((((w.alloc (.cells Y 106)).alloc (.cells Y 106)).setRow w.heap.size (bys allL).toArray).setRow (w.heap.size + 1) (bys allL).toArray).heap[k]? = w.heap[k]? := fun k hk => by
    rw [setRow_other _ _ _ _ (by omega), setRow_other _ _ _ _ (by omega), Below.heap_alloc _ _ _ (by simp; omega), Below.heap_alloc _ _ _ hk]
  have a1 : ((w.alloc (.cells Y 106)).alloc (.cells Y 106)).heap[w.heap.size]? = some (.cells Y 106 (0, 0)) := by
    rw [Below.heap_alloc _ _ _ (by simp)]
    exact heap_alloc_new w _
  have a2 : (((w.alloc (.cells Y 106)).alloc (.cells Y 106)).setRow w.heap.size (bys allL).toArray).heap[w.heap.size + 1]? = some (.cells Y 106 (0, 0)) := by
    rw [setRow_other _ _ _ _ (by omega)]
    have := heap_alloc_new (w.alloc (.cells Y 106)) (.cells Y 106)
    simpa using this
  refine ⟨below_setRow (below_setRow ((b.alloc (by omega) _).alloc (by simp; omega) _) (by omega) _) (by omega) _, ?_, ?_, ?_, ?_, ?_, by omega⟩
  · exact (far B (by omega)).trans l
  · exact (far (B + 1) (by omega)).trans x
  · exact (far (B + 2) (by omega)).trans y
  · rw [setRow_other _ _ _ _ (by omega)]
    exact setRow_heap _ _ _ _ _ _ a1
  · exact setRow_heap _ _ _ _ _ _ a2
theorem DC.copy1 {B G : Nat} {w0 w w' : World} {A1 A2 : List UInt8} (h : DC B G w0 w A1 A2) (r : List UInt8) (o : Nat) (h1 : w'.heap[G]? = some (.cells (splice (bys A1) o (bys r)).toArray 106 (0, 0))) (h2 : ∀ k, k ≠ G → w'.heap[k]? = w.heap[k]?) (h4 : ∀ B w0, Below B w0 w → B ≤ G → Below B w0 w') : DC B G w0 w' (splice A1 o r) A2 := by
  obtain ⟨b, l, x, y, p, q, z⟩ := h
  rw [splice_bys] at h1
  exact ⟨h4 _ _ b (by omega), (h2 B (by omega)).trans l, (h2 (B + 1) (by omega)).trans x, (h2 (B + 2) (by omega)).trans y, h1, (h2 (G + 1) (by omega)).trans q, z⟩
theorem DC.copy2 {B G : Nat} {w0 w w' : World} {A1 A2 : List UInt8} (h : DC B G w0 w A1 A2) (r : List UInt8) (o : Nat) (h1 : w'.heap[G + 1]? = some (.cells (splice (bys A2) o (bys r)).toArray 106 (0, 0))) (h2 : ∀ k, k ≠ G + 1 → w'.heap[k]? = w.heap[k]?) (h4 : ∀ B w0, Below B w0 w → B ≤ G + 1 → Below B w0 w') : DC B G w0 w' A1 (splice A2 o r) := by
  obtain ⟨b, l, x, y, p, q, z⟩ := h
  rw [splice_bys] at h1
  exact ⟨h4 _ _ b (by omega), (h2 B (by omega)).trans l, (h2 (B + 1) (by omega)).trans x, (h2 (B + 2) (by omega)).trans y, (h2 G (by omega)).trans p, h1, z⟩
theorem DC.drew {B G : Nat} {w0 w : World} {A1 A2 : List UInt8} (h : DC B G w0 w A1 A2) : DC B G w0 w.drew A1 A2 := ⟨h.1.drew, h.2.1, h.2.2.1, h.2.2.2.1, h.2.2.2.2.1, h.2.2.2.2.2.1, h.2.2.2.2.2.2⟩
theorem conv_row {w : World} {g : Nat} {l : List UInt8} (h : w.heap[g]? = some (.cells (bys l).toArray 106 (0, 0))) (hl : l.length = 256) : (convert 62 9 (.slice (some ⟨g, 0, none⟩) 256 256)).run Tryz.prog w = .ok (.string ⟨l.toArray⟩) w := by
  have := run_convert_bytes_back (P := Tryz.prog) w 62 9 5 ⟨g, 0, none⟩ 256 l Tryz.underlying62 Tryz.underlying5 Tryz.underlying9 (fun j hj => by
    rw [add_off, cell_of_row w g _ _ _ _ h]
    unfold bys
    simp [List.getElem?_eq_getElem hj])
  rw [hl] at this
  exact this
theorem SL_nW {w : World} {g : Nat} (h : w.heap[g]? = some (.cells ((List.range 256).map nW).toArray 3 (0, 0))) : SL 1 256 (wtF Ldef) w (.slice (some ⟨g, 0, none⟩) 256 256) := by
  refine ⟨_, _, rfl, Nat.le_refl _, .inr ⟨g, 0, rfl, (Array.getElem?_eq_some_iff.1 h).1, fun j i hj hi => ?_⟩⟩
  obtain rfl : i = 0 := by omega
  rw [cell_of_row w g _ _ _ _ h]
  simp only [Nat.zero_add, Nat.mul_one, Nat.add_zero, List.getElem?_toArray, List.getElem?_map, List.getElem?_range hj]
  rfl
theorem dpart_len (o : Nat) (h : o + 26 ≤ 256) : (bys ((allL.drop o).take 26)).length = 26 := by
  rw [bys_len, List.length_take, List.length_drop, allL_len]
  omega
theorem part_fit (o q : Nat) (h : o + 26 ≤ 256) (hq : q + 26 ≤ 256) : q + (bys ((allL.drop o).take 26)).length ≤ (bys allL).length := by
  rw [dpart_len o h, bys_len, allL_len]
  exact hq
theorem info256 : (Tryz.prog.info? 106).map (·.size) = some 256 := by kernel_rfl
theorem made_W : madeCells #[.int .i64 0] 256 = (upl nW (.int .i64 0) 0).toArray := by
  rw [upl_none, ← toList_madeCells_one]
theorem made_B : Array.replicate 256 (Value.int .u8 0) = (upl nB (.int .u8 0) 0).toArray := by
  rw [upl_none, List.toArray_replicate]
set_option maxRecDepth 100000 in
set_option maxHeartbeats 8000000 in
theorem pDefault_any (w : World) : Calls Tryz.prog 147 #[] w fun e w' => ∃ x y : Nat, w.heap.size ≤ x ∧ e = .returned (.agg (lcl Ldef (.slice (some ⟨x, 0, none⟩) 256 y) (.slice none 0 0) (.slice none 0 0))) ∧ LocM w' Ldef (.slice (some ⟨x, 0, none⟩) 256 y) (.slice none 0 0) (.slice none 0 0) ∧ Below w.heap.size w w' := by
  have H0 := Lib.hid (DP.start w)
  have hv : ∀ w, (zeroValue 106).run Tryz.prog w = .ok (.agg (Array.replicate 256 (Value.int .u8 0))) w := fun w => by kernel_rfl
  have hmk : ∀ w : World, (Instr.makeSlice 22 (.int .i64 256) (.int .i64 256)).run Tryz.prog w = .ok (.slice (some ⟨w.heap.size, 0, none⟩) 256 256) (w.alloc (.cells (madeCells #[.int .i64 0] 256) 3)) := fun w =>
    run_make_row' 22 3 (.int .i64 0) 8 Tryz.underlying22 infoI rfl .i64 .i64 256 (by decide) (by decide) w
  rw [made_W] at hmk
  rw [made_B] at hv
  obtain ⟨X, hX⟩ : ∃ X, (upl nW (.int .i64 0) 0).toArray = X := ⟨_, rfl⟩
  obtain ⟨Y, hY⟩ : ∃ Y, (upl nB (.int .u8 0) 0).toArray = Y := ⟨_, rfl⟩
  rw [hX] at hmk H0
  rw [hY] at hv H0
  have HY := Lib.hid hY
  clear hX hY
  unfold zeroL at H0
  go_enter Tryz.func147, Tryz.ntmps147
  go_wp2
  go_loopw [7] (fun i wr => ∃ k : Nat, k ≤ 256 ∧ i = .int .i64 k ∧ Hid (DP w.heap.size w wr k)) (fun i _ => 256 - (intOf i).toNat)
  case atStart => exact ⟨0, Nat.zero_le _, rfl, H0.out⟩
  case round =>
    obtain ⟨k, hk, rfl, HD⟩ := hrel
    by_cases hlt : k < 256
    · have hi : (k : Int) < 256 := by omega
      have hi0 : (0 : Int) ≤ k := by omega
      have hw : IntKind.u8.wrap (k : Int) = (k : Int) := IntWalk.u8_in _ (by omega)
      obtain ⟨⟨c1, f1⟩, c2, f2⟩ := HD.out.cells hlt
      have HN := Lib.hid (HD.out.next hlt)
      unfold nW nB at HN
      go_wp2
      go_roundw
      case rel => exact ⟨k + 1, by omega, by go_num, HN.out⟩
      case measure => simp [intOf]; omega
    · obtain rfl : k = 256 := by omega
      obtain ⟨SL0, hSL⟩ : ∃ L, bys allL = L := ⟨_, rfl⟩
      have HD2 := HD.out
      unfold DP at HD2
      rw [upl_full, upl_full, nB_all, hSL] at HD2
      obtain ⟨b0, l0, x0, y0, z0⟩ := HD2
      have sz0 : SL0.length = 256 := by rw [← hSL]; unfold bys; rw [List.length_map, allL_len]
      have szA : SL0.toArray.size = 256 := by simpa using sz0
      have one0 : ∀ v ∈ SL0, v.oneCell' = true := by
        rw [← hSL]
        unfold bys
        intro v hv
        obtain ⟨c, _, rfl⟩ := List.mem_map.1 hv
        rfl
      have oneA : SL0.toArray.all (·.oneCell') = true := by
        rw [Array.all_eq_true_iff_forall_mem]
        intro v hv
        exact one0 v (by simpa using hv)
      have hYs : Y.size = 256 := by rw [← HY.out, upl_none]; simp
      have hi0 : (Tryz.prog.info? 106).map (·.size) = some SL0.toArray.size := by rw [szA]; exact info256
      have a1 : ((wr.alloc (.cells Y 106)).alloc (.cells Y 106)).heap[wr.heap.size]? = some (.cells Y 106 (0, 0)) := by
        rw [Below.heap_alloc _ _ _ (by simp)]
        exact heap_alloc_new wr _
      have a2 : (((wr.alloc (.cells Y 106)).alloc (.cells Y 106)).setRow wr.heap.size SL0.toArray).heap[wr.heap.size + 1]? = some (.cells Y 106 (0, 0)) := by
        rw [setRow_other _ _ _ _ (by omega)]
        have := heap_alloc_new (wr.alloc (.cells Y 106)) (.cells Y 106)
        simpa using this
      have HC := DC.start HD.out Y
      rw [hSL] at HC
      have HY0 := Lib.hid y0
      have HA1 := Lib.hid a1
      have HA2 := Lib.hid a2
      have HSzA := Lib.hid szA
      have HYs := Lib.hid hYs
      have HI0 := Lib.hid hi0
      have HOA := Lib.hid oneA
      have HC0 := Lib.hid HC
      have HSL := Lib.hid hSL
      clear HC
      clear HD H0 hmk l0 x0 y0 z0 b0 hSL a1 a2 sz0 szA hYs hi0 one0 oneA
      go_wp2_with (first
        | (refine wpList_load_row rfl 106 _ rfl (w.heap.size + 2) rfl 106 SL0.toArray (0, 0) _ HY0.out Tryz.underlying106 rfl HI0.out ?_)
        | (refine wpList_store_row rfl 106 (.tmp 4) (.tmp 19) rfl wr.heap.size SL0.toArray rfl rfl 106 Y HA1.out HI0.out (HYs.out.trans HSzA.out.symm) HOA.out ?_)
        | (refine wpList_store_row rfl 106 (.tmp 5) (.tmp 20) rfl (wr.heap.size + 1) SL0.toArray rfl rfl 106 Y HA2.out HI0.out (HYs.out.trans HSzA.out.symm) HOA.out ?_))
      simp only [Act.put]
      generalize hW4 : (((wr.alloc (.cells Y 106)).alloc (.cells Y 106)).setRow wr.heap.size SL0.toArray).setRow (wr.heap.size + 1) SL0.toArray = W4 at HC0 ⊢
      have HC1 := Lib.hid HC0.out
      clear hW4 HC0 HA1 HA2 HY0
      rw [← HSL.out]
      refine wp_region_held_drew (S := fun _ => True) (by kernel_rfl) ?_ (fun hHeld => ?_)
      · trivial
      refine wpAnyH_take (i := 0) (v := ?w2v0) rfl (by kernel_rfl) (by kernel_rfl) (by kernel_rfl) (fun _ _ _ h => h) (Or.inl ⟨by rfl, ?w2y0⟩) (by assumption) ?w2r0
      case w2y0 =>
        intro w1 hSw
        go_simp
        first | done | (with_reducible rfl)
      (try simp only [Act.put, List.getElem_toArray, List.getElem_cons_zero, List.setIfInBounds_toArray, List.set_cons_zero, List.set_cons_succ])
      refine wpAnyH_take (i := 1) (v := ?w2v1) rfl (by kernel_rfl) (by kernel_rfl) (by kernel_rfl) (fun _ _ _ h => h) (Or.inl ⟨by rfl, ?w2y1⟩) (by assumption) ?w2r1
      case w2y1 =>
        intro w1 hSw
        go_simp
        first | done | (with_reducible rfl)
      (try simp only [Act.put, List.getElem_toArray, List.getElem_cons_succ, List.getElem_cons_zero, List.setIfInBounds_toArray, List.set_cons_zero, List.set_cons_succ])
      refine wpAnyH_ready (rs := [2]) (by kernel_rfl) (by simp) ?_
      refine AllReadyH.cons rfl (fun K hK => ?_) AllReadyH.nil
      refine step_copy rfl _ _ _ _ rfl 5 Tryz.underlying62 (by kernel_rfl) (wr.heap.size) 65 191 191 ⟨w.heap.size + 2, 97, none⟩ 26 159 rfl rfl (bys allL) 106 HC1.out.2.2.2.2.1 (bys ((allL.drop 97).take 26)) (dpart_len 97 (by decide)) (src_cells HC1.out.2.2.2.1 97 26) (part_fit 97 65 (by decide) (by decide)) (bys_one _) ?_
      intro w2 g1 g2 g3 g4
      have HC2 := Lib.hid (HC1.out.drew.copy1 _ _ g1 g2 g4)
      clear g1 g2 g3 g4
      refine hK.out _ _ ?_ (fun hHeld1 => ?_)
      · trivial
      clear hK K
      (try simp only [Act.put, List.getElem_toArray, List.getElem_cons_succ, List.getElem_cons_zero, List.setIfInBounds_toArray, List.set_cons_zero, List.set_cons_succ])
      refine wpAnyH_done (by kernel_rfl) ?_ _
      clear HC1
      go_wp2
      refine wp_region_held_drew (S := fun _ => True) (by kernel_rfl) ?_ (fun hHeld => ?_)
      · trivial
      refine wpAnyH_take (i := 0) (v := ?w3v0) rfl (by kernel_rfl) (by kernel_rfl) (by kernel_rfl) (fun _ _ _ h => h) (Or.inl ⟨by rfl, ?w3y0⟩) (by assumption) ?w3r0
      case w3y0 =>
        intro w1 hSw
        go_simp
        first | done | (with_reducible rfl)
      (try simp only [Act.put, List.getElem_toArray, List.getElem_cons_zero, List.setIfInBounds_toArray, List.set_cons_zero, List.set_cons_succ])
      refine wpAnyH_take (i := 1) (v := ?w3v1) rfl (by kernel_rfl) (by kernel_rfl) (by kernel_rfl) (fun _ _ _ h => h) (Or.inl ⟨by rfl, ?w3y1⟩) (by assumption) ?w3r1
      case w3y1 =>
        intro w1 hSw
        go_simp
        first | done | (with_reducible rfl)
      (try simp only [Act.put, List.getElem_toArray, List.getElem_cons_succ, List.getElem_cons_zero, List.setIfInBounds_toArray, List.set_cons_zero, List.set_cons_succ])
      refine wpAnyH_ready (rs := [2]) (by kernel_rfl) (by simp) ?_
      refine AllReadyH.cons rfl (fun K hK => ?_) AllReadyH.nil
      refine step_copy rfl _ _ _ _ rfl 5 Tryz.underlying62 (by kernel_rfl) (wr.heap.size + 1) 97 159 159 ⟨w.heap.size + 2, 65, none⟩ 26 191 rfl rfl (bys allL) 106 HC2.out.2.2.2.2.2.1 (bys ((allL.drop 65).take 26)) (dpart_len 65 (by decide)) (src_cells HC2.out.2.2.2.1 65 26) (part_fit 65 97 (by decide) (by decide)) (bys_one _) ?_
      intro w3 g1 g2 g3 g4
      have HC3 := Lib.hid (HC2.out.drew.copy2 _ _ g1 g2 g4)
      clear g1 g2 g3 g4
      refine hK.out _ _ ?_ (fun hHeld1 => ?_)
      · trivial
      clear hK K
      (try simp only [Act.put, List.getElem_toArray, List.getElem_cons_succ, List.getElem_cons_zero, List.setIfInBounds_toArray, List.set_cons_zero, List.set_cons_succ])
      refine wpAnyH_done (by kernel_rfl) ?_ _
      clear HC2
      go_wp2
      have HC4 := HC3.out
      rw [low_all, up_all] at HC4
      have HF := Lib.hid HC4.drew
      generalize hLo : (⟨(lowL 256).toArray⟩ : ByteArray) = Lo
      generalize hUp : (⟨(upL 256).toArray⟩ : ByteArray) = Up
      obtain ⟨⟨y0, y1, y2⟩, ⟨y3, y4, y5⟩, hg⟩ := LAt.six HC4.2.1
      have HLo := Lib.hid hLo
      have HUp := Lib.hid hUp
      have HGB : Hid (w.heap.size + 3 ≤ wr.heap.size) := HC4.2.2.2.2.2.2
      clear HC4 HC3 hLo hUp
      refine wp_region_held_drew (S := fun w' => w'.heap[wr.heap.size]? = some (.cells (bys (lowL 256)).toArray 106 (0, 0)) ∧ w'.heap[wr.heap.size + 1]? = some (.cells (bys (upL 256)).toArray 106 (0, 0))) (by kernel_rfl) ?_ (fun hHeld => ?_)
      · exact ⟨HF.out.2.2.2.2.1, HF.out.2.2.2.2.2.1⟩
      refine wpAnyH_take (i := 0) (v := ?av0) rfl (by kernel_rfl) (by kernel_rfl) (by kernel_rfl) (fun _ _ _ h => h) (Or.inl ⟨by rfl, ?ay0⟩) (by assumption) ?ar0
      case ay0 =>
        intro w1 hSw
        go_simp
        first | done | (with_reducible rfl)
      (try simp only [Act.put, List.getElem_toArray, List.getElem_cons_zero, List.setIfInBounds_toArray, List.set_cons_zero, List.set_cons_succ])
      refine wpAnyH_take (i := 1) (v := ?av1) rfl (by kernel_rfl) (by kernel_rfl) (by kernel_rfl) (fun _ _ _ h => h) (Or.inl ⟨by rfl, ?ay1⟩) (by assumption) ?ar1
      case ay1 =>
        intro w1 hSw
        go_simp
        first | done | (with_reducible rfl)
      (try simp only [Act.put, List.getElem_toArray, List.getElem_cons_succ, List.getElem_cons_zero, List.setIfInBounds_toArray, List.set_cons_zero, List.set_cons_succ])
      refine wpAnyH_take (i := 2) (v := .string Lo) rfl (by kernel_rfl) (by kernel_rfl) (by kernel_rfl) (fun _ _ _ h => h) (Or.inl ⟨by rfl, ?ay2⟩) (by assumption) ?ar2
      case ay2 =>
        intro w1 hSw
        have e4 := conv_row hSw.1 (lowL_len 256)
        rw [HLo.out] at e4
        clear hSw
        go_simp
        first | done | (with_reducible rfl)
      (try simp only [Act.put, List.getElem_toArray, List.getElem_cons_succ, List.getElem_cons_zero, List.setIfInBounds_toArray, List.set_cons_zero, List.set_cons_succ])
      refine wpAnyH_take (i := 3) (v := ?av3) rfl (by kernel_rfl) (by kernel_rfl) (by kernel_rfl) (fun _ _ _ h => h) (Or.inl ⟨by rfl, ?ay3⟩) (by assumption) ?ar3
      case ay3 =>
        intro w1 hSw
        go_simp
        first | done | (with_reducible rfl)
      (try simp only [Act.put, List.getElem_toArray, List.getElem_cons_succ, List.getElem_cons_zero, List.setIfInBounds_toArray, List.set_cons_zero, List.set_cons_succ])
      refine wpAnyH_take (i := 4) (v := .string Up) rfl (by kernel_rfl) (by kernel_rfl) (by kernel_rfl) (fun _ _ _ h => h) (Or.inl ⟨by rfl, ?ay4⟩) (by assumption) ?ar4
      case ay4 =>
        intro w1 hSw
        have e4 := conv_row hSw.2 (upL_len 256)
        rw [HUp.out] at e4
        clear hSw
        go_simp
        first | done | (with_reducible rfl)
      (try simp only [Act.put, List.getElem_toArray, List.getElem_cons_succ, List.getElem_cons_zero, List.setIfInBounds_toArray, List.set_cons_zero, List.set_cons_succ])
      refine wpAnyH_take (i := 5) (v := ?av5) rfl (by kernel_rfl) (by kernel_rfl) (by kernel_rfl) (fun _ _ _ h => h) (Or.inl ⟨by rfl, ?ay5⟩) (by assumption) ?ar5
      case ay5 =>
        intro w1 hSw
        go_simp
        first | done | (with_reducible rfl)
      (try simp only [Act.put, List.getElem_toArray, List.getElem_cons_succ, List.getElem_cons_zero, List.setIfInBounds_toArray, List.set_cons_zero, List.set_cons_succ])
      refine wpAnyH_ready (rs := [6]) (by kernel_rfl) (by simp) ?_
      refine AllReadyH.cons rfl (fun K hK => ?_) AllReadyH.nil
      rw [if_pos (by rfl)]
      refine wp_store_row 26 _ _ rfl w.heap.size #[.string psx, .slice (some ⟨w.heap.size + 1, 0, none⟩) 256 256, .string Lo, .string Up, .slice none 0 0, .slice none 0 0] rfl rfl 26 zeroL HF.out.2.1 info_loc rfl (by simp [Value.oneCell']) ?_
      refine hK.out _ _ ?_ (fun hHeld1 => ?_)
      · have h := HGB.out
        exact ⟨(setRow_other _ _ _ _ (by omega)).trans HF.out.2.2.2.2.1, (setRow_other _ _ _ _ (by omega)).trans HF.out.2.2.2.2.2.1⟩
      clear hK K
      (try simp only [Act.put, List.getElem_toArray, List.getElem_cons_succ, List.getElem_cons_zero])
      refine wpAnyH_done (by kernel_rfl) ?_ _
      go_wp2
      refine bodyPost_ret (ret_loc Tryz.results147 _ _ w.heap.size _ rfl rfl (setRow_heap _ _ _ _ _ _ HF.out.2.1)) rfl ⟨w.heap.size + 1, 256, by omega, ?_, locM_def (SL_nW ((setRow_other _ _ _ _ (by omega)).trans HF.out.2.2.1)), below_setRow HF.out.1 (Nat.le_refl _) _⟩
      rw [lcl_def, HLo.out, HUp.out]
end Go.Proofs.YtphiaagppcbefaaGreatDoor
