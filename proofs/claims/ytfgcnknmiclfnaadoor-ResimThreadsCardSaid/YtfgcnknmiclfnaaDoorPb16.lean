/- RpKind. -/
import Derived.Test.YtfgcnknmiclfnaaDoorPb10
import Derived.BigGuardPart
set_option linter.unusedVariables false
set_option linter.unusedSimpArgs false
set_option maxRecDepth 100000
set_option maxHeartbeats 8000000
namespace Go.Proofs.YtfgcnknmiclfnaaDoor
open Go.RowKit
def bs (l : List UInt8) : ByteArray := ⟨l.toArray⟩
def kwd (o : Int) : List UInt8 := if o = 1 then [115, 101, 116] else if o = 2 then [115, 112, 108, 105, 116] else if o = 3 then [106, 117, 109, 112] else if o = 4 then [98, 101, 103, 105, 110] else if o = 5 then [101, 110, 100] else if o = 6 then [109, 97, 116, 99, 104] else []
def ktg (o : Int) : Nat := if o = 2 then 2 else if o = 3 then 1 else 0
def kgo (o : Int) : Bool := decide (o = 1) || (decide (o = 4) || decide (o = 5))
def kok (o : Int) : Bool := decide (1 ≤ o) && decide (o ≤ 6)
def kindCells : List Value := (List.range 6).flatMap fun i => [.string (bs (kwd (i + 1 : Nat))), .int .i64 (ktg (i + 1 : Nat) : Nat), .bool (kgo (i + 1 : Nat))]
def KT (w : World) : Prop := ∀ (j : Nat) v, kindCells[j]? = some v → w.cell? ⟨0, j, none⟩ = some v
theorem KT.below {w w' : World} (h : KT w) (hb : Below w.heap.size w w') : KT w' := fun j v hj => keep_cell hb (h j v hj)
theorem isz_kd : (Tryd.prog.info? 98).map (·.size) = some 3 := by kernel_rfl
theorem results_kd2 {fn : Func} {p u : Tmp} (h : fn.results = #[.cell p 98, .tmp u]) (tmps : Array Value) (w : World) (g : Nat) (t : TypeId) (cs : Array Value) (fr : Nat × Nat) (v : Value)
    (hp : tmps.getD p undef = .pointer (some ⟨g, 0, none⟩)) (hv : tmps.getD u undef = v) (hg : w.heap[g]? = some (.cells cs t fr)) (hi : (Tryd.prog.info? 98).map (·.size) = some cs.size) :
    (results fn tmps).run Tryd.prog w = .ok (.tuple #[.agg cs, v]) w := by
  rw [results_cell_tmp h, hp, hv]
  simp [asAddr, run_loadVar_row w g t 98 cs fr _ hg Tryd.underlying98 rfl hi]
theorem nil_str : bs [] = ⟨#[]⟩ := rfl
theorem kind_1 (w : World) (h : KT w) : Calls Tryd.prog 55 #[.int .i64 1] w fun e w' => e = .returned (.tuple #[.agg #[.string (bs (kwd 1)), .int .i64 (ktg 1 : Nat), .bool (kgo 1)], .bool true]) ∧ Below w.heap.size w w' := by
  have hb : Below w.heap.size w (w.alloc (.cells #[.string ⟨#[]⟩, .int .i64 0, .bool false] 98)) := (Below.refl _ _).alloc (Nat.le_refl _) _
  have hr := heap_alloc_new w (.cells #[.string ⟨#[]⟩, .int .i64 0, .bool false] 98)
  have h2 := h.below hb
  have c0 : (w.alloc (.cells #[.string ⟨#[]⟩, .int .i64 0, .bool false] 98)).cell? ⟨0, 0, none⟩ = some (.string (bs (kwd 1))) := h2 0 _ rfl
  have c1 : (w.alloc (.cells #[.string ⟨#[]⟩, .int .i64 0, .bool false] 98)).cell? ⟨0, 1, none⟩ = some (.int .i64 (ktg 1 : Nat)) := h2 1 _ rfl
  have c2 : (w.alloc (.cells #[.string ⟨#[]⟩, .int .i64 0, .bool false] 98)).cell? ⟨0, 2, none⟩ = some (.bool (kgo 1)) := h2 2 _ rfl
  have HR := Lib.hid hr
  have HB := Lib.hid hb
  clear h h2 hb hr
  go_enter Tryd.func55, Tryd.ntmps55
  go_wp2_with (first
    | (refine wpList_store_row rfl 98 (.tmp 2) (.tmp 14) rfl (w.heap.size) #[.string (bs (kwd 1)), .int .i64 (ktg 1 : Nat), .bool (kgo 1)] rfl rfl 98 _ HR.out isz_kd rfl (by simp [Value.oneCell']) ?_))
  refine bodyPost_ret (v := .tuple #[.agg #[.string (bs (kwd 1)), .int .i64 (ktg 1 : Nat), .bool (kgo 1)], .bool true]) (results_kd2 rfl _ _ (w.heap.size) _ #[.string (bs (kwd 1)), .int .i64 (ktg 1 : Nat), .bool (kgo 1)] (0, 0) (.bool true) rfl rfl (setRow_heap _ _ _ _ _ _ HR.out) isz_kd) rfl ?_
  exact ⟨rfl, below_setRow HB.out (Nat.le_refl _) _⟩
theorem kind_2 (w : World) (h : KT w) : Calls Tryd.prog 55 #[.int .i64 2] w fun e w' => e = .returned (.tuple #[.agg #[.string (bs (kwd 2)), .int .i64 (ktg 2 : Nat), .bool (kgo 2)], .bool true]) ∧ Below w.heap.size w w' := by
  have hb : Below w.heap.size w (w.alloc (.cells #[.string ⟨#[]⟩, .int .i64 0, .bool false] 98)) := (Below.refl _ _).alloc (Nat.le_refl _) _
  have hr := heap_alloc_new w (.cells #[.string ⟨#[]⟩, .int .i64 0, .bool false] 98)
  have h2 := h.below hb
  have c0 : (w.alloc (.cells #[.string ⟨#[]⟩, .int .i64 0, .bool false] 98)).cell? ⟨0, 3, none⟩ = some (.string (bs (kwd 2))) := h2 3 _ rfl
  have c1 : (w.alloc (.cells #[.string ⟨#[]⟩, .int .i64 0, .bool false] 98)).cell? ⟨0, 4, none⟩ = some (.int .i64 (ktg 2 : Nat)) := h2 4 _ rfl
  have c2 : (w.alloc (.cells #[.string ⟨#[]⟩, .int .i64 0, .bool false] 98)).cell? ⟨0, 5, none⟩ = some (.bool (kgo 2)) := h2 5 _ rfl
  have HR := Lib.hid hr
  have HB := Lib.hid hb
  clear h h2 hb hr
  go_enter Tryd.func55, Tryd.ntmps55
  go_wp2_with (first
    | (refine wpList_store_row rfl 98 (.tmp 2) (.tmp 14) rfl (w.heap.size) #[.string (bs (kwd 2)), .int .i64 (ktg 2 : Nat), .bool (kgo 2)] rfl rfl 98 _ HR.out isz_kd rfl (by simp [Value.oneCell']) ?_))
  refine bodyPost_ret (v := .tuple #[.agg #[.string (bs (kwd 2)), .int .i64 (ktg 2 : Nat), .bool (kgo 2)], .bool true]) (results_kd2 rfl _ _ (w.heap.size) _ #[.string (bs (kwd 2)), .int .i64 (ktg 2 : Nat), .bool (kgo 2)] (0, 0) (.bool true) rfl rfl (setRow_heap _ _ _ _ _ _ HR.out) isz_kd) rfl ?_
  exact ⟨rfl, below_setRow HB.out (Nat.le_refl _) _⟩
theorem kind_3 (w : World) (h : KT w) : Calls Tryd.prog 55 #[.int .i64 3] w fun e w' => e = .returned (.tuple #[.agg #[.string (bs (kwd 3)), .int .i64 (ktg 3 : Nat), .bool (kgo 3)], .bool true]) ∧ Below w.heap.size w w' := by
  have hb : Below w.heap.size w (w.alloc (.cells #[.string ⟨#[]⟩, .int .i64 0, .bool false] 98)) := (Below.refl _ _).alloc (Nat.le_refl _) _
  have hr := heap_alloc_new w (.cells #[.string ⟨#[]⟩, .int .i64 0, .bool false] 98)
  have h2 := h.below hb
  have c0 : (w.alloc (.cells #[.string ⟨#[]⟩, .int .i64 0, .bool false] 98)).cell? ⟨0, 6, none⟩ = some (.string (bs (kwd 3))) := h2 6 _ rfl
  have c1 : (w.alloc (.cells #[.string ⟨#[]⟩, .int .i64 0, .bool false] 98)).cell? ⟨0, 7, none⟩ = some (.int .i64 (ktg 3 : Nat)) := h2 7 _ rfl
  have c2 : (w.alloc (.cells #[.string ⟨#[]⟩, .int .i64 0, .bool false] 98)).cell? ⟨0, 8, none⟩ = some (.bool (kgo 3)) := h2 8 _ rfl
  have HR := Lib.hid hr
  have HB := Lib.hid hb
  clear h h2 hb hr
  go_enter Tryd.func55, Tryd.ntmps55
  go_wp2_with (first
    | (refine wpList_store_row rfl 98 (.tmp 2) (.tmp 14) rfl (w.heap.size) #[.string (bs (kwd 3)), .int .i64 (ktg 3 : Nat), .bool (kgo 3)] rfl rfl 98 _ HR.out isz_kd rfl (by simp [Value.oneCell']) ?_))
  refine bodyPost_ret (v := .tuple #[.agg #[.string (bs (kwd 3)), .int .i64 (ktg 3 : Nat), .bool (kgo 3)], .bool true]) (results_kd2 rfl _ _ (w.heap.size) _ #[.string (bs (kwd 3)), .int .i64 (ktg 3 : Nat), .bool (kgo 3)] (0, 0) (.bool true) rfl rfl (setRow_heap _ _ _ _ _ _ HR.out) isz_kd) rfl ?_
  exact ⟨rfl, below_setRow HB.out (Nat.le_refl _) _⟩
theorem kind_4 (w : World) (h : KT w) : Calls Tryd.prog 55 #[.int .i64 4] w fun e w' => e = .returned (.tuple #[.agg #[.string (bs (kwd 4)), .int .i64 (ktg 4 : Nat), .bool (kgo 4)], .bool true]) ∧ Below w.heap.size w w' := by
  have hb : Below w.heap.size w (w.alloc (.cells #[.string ⟨#[]⟩, .int .i64 0, .bool false] 98)) := (Below.refl _ _).alloc (Nat.le_refl _) _
  have hr := heap_alloc_new w (.cells #[.string ⟨#[]⟩, .int .i64 0, .bool false] 98)
  have h2 := h.below hb
  have c0 : (w.alloc (.cells #[.string ⟨#[]⟩, .int .i64 0, .bool false] 98)).cell? ⟨0, 9, none⟩ = some (.string (bs (kwd 4))) := h2 9 _ rfl
  have c1 : (w.alloc (.cells #[.string ⟨#[]⟩, .int .i64 0, .bool false] 98)).cell? ⟨0, 10, none⟩ = some (.int .i64 (ktg 4 : Nat)) := h2 10 _ rfl
  have c2 : (w.alloc (.cells #[.string ⟨#[]⟩, .int .i64 0, .bool false] 98)).cell? ⟨0, 11, none⟩ = some (.bool (kgo 4)) := h2 11 _ rfl
  have HR := Lib.hid hr
  have HB := Lib.hid hb
  clear h h2 hb hr
  go_enter Tryd.func55, Tryd.ntmps55
  go_wp2_with (first
    | (refine wpList_store_row rfl 98 (.tmp 2) (.tmp 14) rfl (w.heap.size) #[.string (bs (kwd 4)), .int .i64 (ktg 4 : Nat), .bool (kgo 4)] rfl rfl 98 _ HR.out isz_kd rfl (by simp [Value.oneCell']) ?_))
  refine bodyPost_ret (v := .tuple #[.agg #[.string (bs (kwd 4)), .int .i64 (ktg 4 : Nat), .bool (kgo 4)], .bool true]) (results_kd2 rfl _ _ (w.heap.size) _ #[.string (bs (kwd 4)), .int .i64 (ktg 4 : Nat), .bool (kgo 4)] (0, 0) (.bool true) rfl rfl (setRow_heap _ _ _ _ _ _ HR.out) isz_kd) rfl ?_
  exact ⟨rfl, below_setRow HB.out (Nat.le_refl _) _⟩
theorem kind_5 (w : World) (h : KT w) : Calls Tryd.prog 55 #[.int .i64 5] w fun e w' => e = .returned (.tuple #[.agg #[.string (bs (kwd 5)), .int .i64 (ktg 5 : Nat), .bool (kgo 5)], .bool true]) ∧ Below w.heap.size w w' := by
  have hb : Below w.heap.size w (w.alloc (.cells #[.string ⟨#[]⟩, .int .i64 0, .bool false] 98)) := (Below.refl _ _).alloc (Nat.le_refl _) _
  have hr := heap_alloc_new w (.cells #[.string ⟨#[]⟩, .int .i64 0, .bool false] 98)
  have h2 := h.below hb
  have c0 : (w.alloc (.cells #[.string ⟨#[]⟩, .int .i64 0, .bool false] 98)).cell? ⟨0, 12, none⟩ = some (.string (bs (kwd 5))) := h2 12 _ rfl
  have c1 : (w.alloc (.cells #[.string ⟨#[]⟩, .int .i64 0, .bool false] 98)).cell? ⟨0, 13, none⟩ = some (.int .i64 (ktg 5 : Nat)) := h2 13 _ rfl
  have c2 : (w.alloc (.cells #[.string ⟨#[]⟩, .int .i64 0, .bool false] 98)).cell? ⟨0, 14, none⟩ = some (.bool (kgo 5)) := h2 14 _ rfl
  have HR := Lib.hid hr
  have HB := Lib.hid hb
  clear h h2 hb hr
  go_enter Tryd.func55, Tryd.ntmps55
  go_wp2_with (first
    | (refine wpList_store_row rfl 98 (.tmp 2) (.tmp 14) rfl (w.heap.size) #[.string (bs (kwd 5)), .int .i64 (ktg 5 : Nat), .bool (kgo 5)] rfl rfl 98 _ HR.out isz_kd rfl (by simp [Value.oneCell']) ?_))
  refine bodyPost_ret (v := .tuple #[.agg #[.string (bs (kwd 5)), .int .i64 (ktg 5 : Nat), .bool (kgo 5)], .bool true]) (results_kd2 rfl _ _ (w.heap.size) _ #[.string (bs (kwd 5)), .int .i64 (ktg 5 : Nat), .bool (kgo 5)] (0, 0) (.bool true) rfl rfl (setRow_heap _ _ _ _ _ _ HR.out) isz_kd) rfl ?_
  exact ⟨rfl, below_setRow HB.out (Nat.le_refl _) _⟩
theorem kind_6 (w : World) (h : KT w) : Calls Tryd.prog 55 #[.int .i64 6] w fun e w' => e = .returned (.tuple #[.agg #[.string (bs (kwd 6)), .int .i64 (ktg 6 : Nat), .bool (kgo 6)], .bool true]) ∧ Below w.heap.size w w' := by
  have hb : Below w.heap.size w (w.alloc (.cells #[.string ⟨#[]⟩, .int .i64 0, .bool false] 98)) := (Below.refl _ _).alloc (Nat.le_refl _) _
  have hr := heap_alloc_new w (.cells #[.string ⟨#[]⟩, .int .i64 0, .bool false] 98)
  have h2 := h.below hb
  have c0 : (w.alloc (.cells #[.string ⟨#[]⟩, .int .i64 0, .bool false] 98)).cell? ⟨0, 15, none⟩ = some (.string (bs (kwd 6))) := h2 15 _ rfl
  have c1 : (w.alloc (.cells #[.string ⟨#[]⟩, .int .i64 0, .bool false] 98)).cell? ⟨0, 16, none⟩ = some (.int .i64 (ktg 6 : Nat)) := h2 16 _ rfl
  have c2 : (w.alloc (.cells #[.string ⟨#[]⟩, .int .i64 0, .bool false] 98)).cell? ⟨0, 17, none⟩ = some (.bool (kgo 6)) := h2 17 _ rfl
  have HR := Lib.hid hr
  have HB := Lib.hid hb
  clear h h2 hb hr
  go_enter Tryd.func55, Tryd.ntmps55
  go_wp2_with (first
    | (refine wpList_store_row rfl 98 (.tmp 2) (.tmp 14) rfl (w.heap.size) #[.string (bs (kwd 6)), .int .i64 (ktg 6 : Nat), .bool (kgo 6)] rfl rfl 98 _ HR.out isz_kd rfl (by simp [Value.oneCell']) ?_))
  refine bodyPost_ret (v := .tuple #[.agg #[.string (bs (kwd 6)), .int .i64 (ktg 6 : Nat), .bool (kgo 6)], .bool true]) (results_kd2 rfl _ _ (w.heap.size) _ #[.string (bs (kwd 6)), .int .i64 (ktg 6 : Nat), .bool (kgo 6)] (0, 0) (.bool true) rfl rfl (setRow_heap _ _ _ _ _ _ HR.out) isz_kd) rfl ?_
  exact ⟨rfl, below_setRow HB.out (Nat.le_refl _) _⟩
theorem kind_no (o : Int) (ho : kok o = false) (w : World) : Calls Tryd.prog 55 #[.int .i64 o] w fun e w' => e = .returned (.tuple #[.agg #[.string (bs (kwd o)), .int .i64 (ktg o : Nat), .bool (kgo o)], .bool false]) ∧ Below w.heap.size w w' := by
  unfold kok at ho
  have ho : o < 1 ∨ 6 < o := by
    by_cases h1 : 1 ≤ o
    · by_cases h2 : o ≤ 6
      · simp [h1, h2] at ho
      · omega
    · omega
  have e1 : kwd o = [] := by unfold kwd; rw [if_neg (by omega), if_neg (by omega), if_neg (by omega), if_neg (by omega), if_neg (by omega), if_neg (by omega)]
  have e2 : ktg o = 0 := by unfold ktg; rw [if_neg (by omega), if_neg (by omega)]
  have e3 : kgo o = false := by unfold kgo; rw [decide_eq_false (by omega), decide_eq_false (by omega), decide_eq_false (by omega)]; rfl
  rw [e1, e2, e3, nil_str]
  have HR := Lib.hid (heap_alloc_new w (.cells #[.string ⟨#[]⟩, .int .i64 0, .bool false] 98))
  have HB : Hid (Below w.heap.size w (w.alloc (.cells #[.string ⟨#[]⟩, .int .i64 0, .bool false] 98))) := Lib.hid ((Below.refl _ _).alloc (Nat.le_refl _) _)
  clear e1 e2 e3
  rcases ho with ho | ho
  all_goals
    (go_enter Tryd.func55, Tryd.ntmps55
     go_wp2_with (first
      | (refine wpList_store_row rfl 98 (.tmp 2) (.tmp 10) rfl (w.heap.size) #[.string ⟨#[]⟩, .int .i64 0, .bool false] rfl rfl 98 _ HR.out isz_kd rfl (by simp [Value.oneCell']) ?_)))
  all_goals refine bodyPost_ret (v := .tuple #[.agg #[.string ⟨#[]⟩, .int .i64 0, .bool false], .bool false]) (results_kd2 rfl _ _ (w.heap.size) _ #[.string ⟨#[]⟩, .int .i64 0, .bool false] (0, 0) (.bool false) rfl rfl (setRow_heap _ _ _ _ _ _ HR.out) isz_kd) rfl ?_
  all_goals exact ⟨rfl, below_setRow HB.out (Nat.le_refl _) _⟩
theorem kind_any (o : Int) (w : World) (h : KT w) : Calls Tryd.prog 55 #[.int .i64 o] w fun e w' => e = .returned (.tuple #[.agg #[.string (bs (kwd o)), .int .i64 (ktg o : Nat), .bool (kgo o)], .bool (kok o)]) ∧ Below w.heap.size w w' := by
  cases hk : kok o
  case false => exact kind_no o hk w
  case true =>
    unfold kok at hk
    simp only [Bool.and_eq_true, decide_eq_true_eq] at hk
    have ho : o = 1 ∨ o = 2 ∨ o = 3 ∨ o = 4 ∨ o = 5 ∨ o = 6 := by omega
    rcases ho with rfl | rfl | rfl | rfl | rfl | rfl
    · exact kind_1 w h
    · exact kind_2 w h
    · exact kind_3 w h
    · exact kind_4 w h
    · exact kind_5 w h
    · exact kind_6 w h
theorem targets_any (i : IN) (s : ByteArray) (n : Nat) (hn : n ≤ 2) (b : Bool) (w : World) : Calls Tryd.prog 56 #[.agg #[.int .i64 i.op, .int .u64 (wd i.st 0 64 : Nat), .int .u64 (wd i.st 64 64 : Nat), .int .u64 (wd i.st 128 64 : Nat), .int .u64 (wd i.st 192 64 : Nat), .int .i64 i.x, .int .i64 i.y], .agg #[.string s, .int .i64 (n : Int), .bool b]] w fun e w' => ∃ g, e = .returned (.slice (some ⟨g, 0, none⟩) n 2) ∧ (w'.cell? ⟨g, 0, none⟩ = some (.int .i64 i.x) ∧ w'.cell? ⟨g, 1, none⟩ = some (.int .i64 i.y)) ∧ w.heap.size ≤ g ∧ g < w'.heap.size ∧ Below w.heap.size w w' := by
  have n0 : (0 : Int) ≤ (n : Int) := by omega
  have n2 : (n : Int) ≤ 2 := by omega
  have hb : Below w.heap.size w (((w.alloc (.cells #[.int .i64 i.op, .int .u64 (wd i.st 0 64 : Nat), .int .u64 (wd i.st 64 64 : Nat), .int .u64 (wd i.st 128 64 : Nat), .int .u64 (wd i.st 192 64 : Nat), .int .i64 i.x, .int .i64 i.y] 43)).alloc (.cells #[.string s, .int .i64 (n : Int), .bool b] 98)).alloc (.cells #[.int .i64 i.x, .int .i64 i.y] 3)) := (((Below.refl _ _).alloc (Nat.le_refl _) _).alloc (by simp) _).alloc (by simp; omega) _
  have hn3 := heap_alloc_new ((w.alloc (.cells #[.int .i64 i.op, .int .u64 (wd i.st 0 64 : Nat), .int .u64 (wd i.st 64 64 : Nat), .int .u64 (wd i.st 128 64 : Nat), .int .u64 (wd i.st 192 64 : Nat), .int .i64 i.x, .int .i64 i.y] 43)).alloc (.cells #[.string s, .int .i64 (n : Int), .bool b] 98)) (.cells #[.int .i64 i.x, .int .i64 i.y] 3)
  have HB := Lib.hid hb
  have HN := Lib.hid hn3
  clear hb hn3
  go_enter Tryd.func56, Tryd.ntmps56
  go_wp2
  go_ret
  exact ⟨w.heap.size + 1 + 1, rfl, ⟨by have := cell_of_row _ _ 0 _ _ _ HN.out; simpa using this, by have := cell_of_row _ _ 1 _ _ _ HN.out; simpa using this⟩, by omega, by simp, HB.out⟩
end Go.Proofs.YtfgcnknmiclfnaaDoor
