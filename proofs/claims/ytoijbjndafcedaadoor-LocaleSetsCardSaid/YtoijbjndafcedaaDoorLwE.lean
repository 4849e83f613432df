/- The law LocaleSets: classes, ranges, equivalents. (Written by gen_lwe.py.) -/
import Derived.Test.YtoijbjndafcedaaDoorRows
import Derived.Test.YtoijbjndafcedaaDoorLwB
import Derived.Test.YtoijbjndafcedaaDoorLcEq
set_option linter.unusedVariables false
namespace Go.Proofs.YtoijbjndafcedaaDoor
open Go.RowKit

/-- The locale in its block, a query in the next. -/
def ES (w0 : World) (L : Loc) (W C E : Value) (N : ByteArray) (x y : Nat) (w : World) : Prop := RS w0 L W C E w ∧ w.heap[w0.heap.size + 1]? = some (.cells #[.string N, .int .u8 (x : Int), .int .u8 (y : Int)] 39 (0, 0))
theorem ES.drew {w0 w : World} {L : Loc} {W C E : Value} {N : ByteArray} {x y : Nat} (h : ES w0 L W C E N x y w) : ES w0 L W C E N x y w.drew := ⟨h.1.drew, h.2⟩
theorem ES.keep {w0 w w' : World} {L : Loc} {W C E : Value} {N : ByteArray} {x y : Nat} {B : Nat} (hb : Below B w w') (hB : w.heap.size ≤ B) (h : ES w0 L W C E N x y w) : ES w0 L W C E N x y w' :=
  ⟨RS.keep (hb.mono hB) h.1, (hb.block _ (Nat.lt_of_lt_of_le (Array.getElem?_eq_some_iff.1 h.2).1 hB)).trans h.2⟩
theorem ES.cell {w0 w : World} {L : Loc} {W C E : Value} {N : ByteArray} {x y : Nat} (h : ES w0 L W C E N x y w) (j : Nat) : w.cell? ⟨w0.heap.size + 1, j, none⟩ = (#[.string N, .int .u8 (x : Int), .int .u8 (y : Int)] : Array Value)[j]? := cell_of_row w _ j _ _ _ h.2
/-- .. and four sets. -/
def FS (w0 : World) (L : Loc) (W C E : Value) (N : ByteArray) (x y g1 g2 g3 g4 : Nat) (P1 P3 : Nat → Bool) (w : World) : Prop := ES w0 L W C E N x y w ∧ At w g1 P1 ∧ At w g2 P1 ∧ At w g3 P3 ∧ At w g4 P3
theorem FS.drew {w0 w : World} {L : Loc} {W C E : Value} {N : ByteArray} {x y g1 g2 g3 g4 : Nat} {P1 P3 : Nat → Bool} (h : FS w0 L W C E N x y g1 g2 g3 g4 P1 P3 w) : FS w0 L W C E N x y g1 g2 g3 g4 P1 P3 w.drew := ⟨h.1.drew, h.2⟩
theorem FS.keep {w0 w w' : World} {L : Loc} {W C E : Value} {N : ByteArray} {x y g1 g2 g3 g4 : Nat} {P1 P3 : Nat → Bool} (hb : Below w.heap.size w w') (h : FS w0 L W C E N x y g1 g2 g3 g4 P1 P3 w) : FS w0 L W C E N x y g1 g2 g3 g4 P1 P3 w' :=
  ⟨h.1.keep hb (Nat.le_refl _), h.2.1.below hb h.2.1.lt, h.2.2.1.below hb h.2.2.1.lt, h.2.2.2.1.below hb h.2.2.2.1.lt, h.2.2.2.2.below hb h.2.2.2.2.lt⟩

set_option maxRecDepth 100000 in
set_option maxHeartbeats 16000000 in
theorem sets_law (L : Loc) (W C E : Value) (N : ByteArray) (x y : Nat) (hx : x < 256) (hy : y < 256) (w : World) (hT : tabAt w) (hM : LocM w L W C E) :
    Calls Tryd.prog 6 #[.agg (lcl L W C E), .agg #[.string N, .int .u8 (x : Int), .int .u8 (y : Int)]] w fun e w' => e = .returned (.bool true) ∧ Below w.heap.size w w' := by
  have HB : Hid (Below w.heap.size w ((w.alloc (.cells (lcl L W C E) 26)).alloc (.cells #[.string N, .int .u8 (x : Int), .int .u8 (y : Int)] 39))) := ((Below.refl _ _).alloc (Nat.le_refl _) _).alloc (by simp) _
  have HE : Hid (ES w L W C E N x y ((w.alloc (.cells (lcl L W C E) 26)).alloc (.cells #[.string N, .int .u8 (x : Int), .int .u8 (y : Int)] 39))) := by
    refine ⟨⟨?_, hM.below HB.out, HB.out⟩, ?_⟩
    · unfold LAt
      rw [Below.heap_alloc _ _ _ (by simp)]
      exact heap_alloc_new w _
    · have := heap_alloc_new (w.alloc (.cells (lcl L W C E) 26)) (.cells #[.string N, .int .u8 (x : Int), .int .u8 (y : Int)] 39)
      simpa using this
  have HT := Lib.hid hT
  have HTk := Lib.hid (fun (wx : World) (hb : Below w.heap.size w wx) => tab_keep HT.out hb)
  have HAw := Lib.hid awake_any
  have H1 := Lib.hid (pClass_any L W C E N)
  have H2 := Lib.hid (rClass_any L W C E N)
  have H3 := Lib.hid (pBetween_any L W C E x y hx hy)
  have H4 := Lib.hid (rBetween_any L W C E x y hx hy)
  have H5 := Lib.hid (pEquiv_any L W C E x hx)
  have H6 := Lib.hid (rEquiv_any L W C E x hx)
  generalize (clsR (vld L) N).1 = P1 at H1 H2
  generalize (clsR (vld L) N).2 = b1 at H1 H2
  obtain ⟨P3, b3, h3⟩ : ∃ P b, (if (vld L).wt x ≤ (vld L).wt y then Value.tuple #[cs (btw (vld L) x y), .bool true] else Value.tuple #[cs fun _ => false, .bool false]) = .tuple #[cs P, .bool b] := by
    split
    · exact ⟨_, _, rfl⟩
    · exact ⟨_, _, rfl⟩
  rw [h3] at H3 H4
  generalize eqv (vld L) x = P5 at H5 H6
  clear h3 hT HT
  unfold lcl at H1 H2 H3 H4 H5 H6
  have HQ1 := Lib.hid (eql_cs P1 P1)
  have HQ3 := Lib.hid (eql_cs P3 P3)
  have HQ5 := Lib.hid (eql_cs P5 P5)
  rw [eqc_self] at HQ1 HQ3 HQ5
  unfold cs at H1 H2 H3 H4
  unfold cs cl at H5 H6 HQ1 HQ3 HQ5
  obtain ⟨⟨aw, capw, rfl, _⟩, ⟨ac, capc, rfl, _⟩, ⟨ae, cape, rfl, _⟩⟩ := hM
  have hE0 := HE.out
  have hl := hE0.1.1
  unfold lcl at hl
  obtain ⟨⟨x0, x1, x2⟩, ⟨x3, x4, x5⟩, hf⟩ := hl.six
  have q0 := hE0.cell 0
  have q1 := hE0.cell 1
  have q2 := hE0.cell 2
  clear hE0 hl hf HB
  unfold lcl at HE
  (try unfold lcl at q0 q1 q2)
  go_enter Tryd.func6, Tryd.ntmps6
  unfold lcl
  go_wp2_with (first
    | (go_at_call 23
       refine (H1.out _ (HTk.out _ HE.out.1.2.2) HE.out.1.2.1).mono ?_
       rintro e w1 ⟨rfl, hb⟩
       have hb2 := hb.alloc hb.size (.cells #[.int .u64 ((wd P1 0 64 : Nat) : Int), .int .u64 ((wd P1 64 64 : Nat) : Int), .int .u64 ((wd P1 128 64 : Nat) : Int), .int .u64 ((wd P1 192 64 : Nat) : Int)] 43)
       have hE := HE.out.keep hb2 (Nat.le_refl _)
       clear x0 x1 x2 x3 x4 x5 q0 q1 q2 HE
       have HA1 : Hid (At (w1.alloc (.cells #[.int .u64 ((wd P1 0 64 : Nat) : Int), .int .u64 ((wd P1 64 64 : Nat) : Int), .int .u64 ((wd P1 128 64 : Nat) : Int), .int .u64 ((wd P1 192 64 : Nat) : Int)] 43)) w1.heap.size P1) := At.new w1 P1
       have hl := hE.1.1
       unfold lcl at hl
       obtain ⟨⟨x0, x1, x2⟩, ⟨x3, x4, x5⟩, hf⟩ := hl.six
       have q0 := hE.cell 0
       have q1 := hE.cell 1
       have q2 := hE.cell 2
       have HE := Lib.hid hE
       clear hb hb2 hE hl hf
       unfold cl)
    | (go_at_call 24
       refine (H2.out _ HE.out.1.2.1).mono ?_
       rintro e w2 ⟨rfl, hb⟩
       have hb2 := hb.alloc hb.size (.cells #[.int .u64 ((wd P1 0 64 : Nat) : Int), .int .u64 ((wd P1 64 64 : Nat) : Int), .int .u64 ((wd P1 128 64 : Nat) : Int), .int .u64 ((wd P1 192 64 : Nat) : Int)] 43)
       have hE := HE.out.keep hb2 (Nat.le_refl _)
       clear x0 x1 x2 x3 x4 x5 q0 q1 q2 HE
       have A1 := HA1.out.below hb2 HA1.out.lt
       clear HA1
       have HA1 := Lib.hid A1
       clear A1
       have HA2 : Hid (At (w2.alloc (.cells #[.int .u64 ((wd P1 0 64 : Nat) : Int), .int .u64 ((wd P1 64 64 : Nat) : Int), .int .u64 ((wd P1 128 64 : Nat) : Int), .int .u64 ((wd P1 192 64 : Nat) : Int)] 43)) w2.heap.size P1) := At.new w2 P1
       have hl := hE.1.1
       unfold lcl at hl
       obtain ⟨⟨x0, x1, x2⟩, ⟨x3, x4, x5⟩, hf⟩ := hl.six
       have q0 := hE.cell 0
       have q1 := hE.cell 1
       have q2 := hE.cell 2
       have HE := Lib.hid hE
       clear hb hb2 hE hl hf
       unfold cl)
    | (go_at_call 25
       refine (H3.out _ HE.out.1.2.1).mono ?_
       rintro e w3 ⟨rfl, hb⟩
       have hb2 := hb.alloc hb.size (.cells #[.int .u64 ((wd P3 0 64 : Nat) : Int), .int .u64 ((wd P3 64 64 : Nat) : Int), .int .u64 ((wd P3 128 64 : Nat) : Int), .int .u64 ((wd P3 192 64 : Nat) : Int)] 43)
       have hE := HE.out.keep hb2 (Nat.le_refl _)
       clear x0 x1 x2 x3 x4 x5 q0 q1 q2 HE
       have A1 := HA1.out.below hb2 HA1.out.lt
       clear HA1
       have HA1 := Lib.hid A1
       clear A1
       have A2 := HA2.out.below hb2 HA2.out.lt
       clear HA2
       have HA2 := Lib.hid A2
       clear A2
       have HA3 : Hid (At (w3.alloc (.cells #[.int .u64 ((wd P3 0 64 : Nat) : Int), .int .u64 ((wd P3 64 64 : Nat) : Int), .int .u64 ((wd P3 128 64 : Nat) : Int), .int .u64 ((wd P3 192 64 : Nat) : Int)] 43)) w3.heap.size P3) := At.new w3 P3
       have hl := hE.1.1
       unfold lcl at hl
       obtain ⟨⟨x0, x1, x2⟩, ⟨x3, x4, x5⟩, hf⟩ := hl.six
       have q0 := hE.cell 0
       have q1 := hE.cell 1
       have q2 := hE.cell 2
       have HE := Lib.hid hE
       clear hb hb2 hE hl hf
       unfold cl)
    | (go_at_call 26
       refine (H4.out _ HE.out.1.2.1).mono ?_
       rintro e w4 ⟨rfl, hb⟩
       have hb2 := hb.alloc hb.size (.cells #[.int .u64 ((wd P3 0 64 : Nat) : Int), .int .u64 ((wd P3 64 64 : Nat) : Int), .int .u64 ((wd P3 128 64 : Nat) : Int), .int .u64 ((wd P3 192 64 : Nat) : Int)] 43)
       have hE := HE.out.keep hb2 (Nat.le_refl _)
       clear x0 x1 x2 x3 x4 x5 q0 q1 q2 HE
       have A1 := HA1.out.below hb2 HA1.out.lt
       clear HA1
       have HA1 := Lib.hid A1
       clear A1
       have A2 := HA2.out.below hb2 HA2.out.lt
       clear HA2
       have HA2 := Lib.hid A2
       clear A2
       have A3 := HA3.out.below hb2 HA3.out.lt
       clear HA3
       have HA3 := Lib.hid A3
       clear A3
       have HA4 : Hid (At (w4.alloc (.cells #[.int .u64 ((wd P3 0 64 : Nat) : Int), .int .u64 ((wd P3 64 64 : Nat) : Int), .int .u64 ((wd P3 128 64 : Nat) : Int), .int .u64 ((wd P3 192 64 : Nat) : Int)] 43)) w4.heap.size P3) := At.new w4 P3
       have hl := hE.1.1
       unfold lcl at hl
       obtain ⟨⟨x0, x1, x2⟩, ⟨x3, x4, x5⟩, hf⟩ := hl.six
       have q0 := hE.cell 0
       have q1 := hE.cell 1
       have q2 := hE.cell 2
       have HE := Lib.hid hE
       clear hb hb2 hE hl hf
       unfold cl))
  clear x0 x1 x2 x3 x4 x5 q0 q1 q2
  have HF0 : Hid (FS w L (.slice aw L.nw capw) (.slice ac L.nc capc) (.slice ae L.ne cape) N x y w1.heap.size w2.heap.size w3.heap.size w4.heap.size P1 P3 _) := ⟨HE.out, HA1.out, HA2.out, HA3.out, HA4.out⟩
  clear HE HA1 HA2 HA3 HA4
  refine wp_region_held_drew (S := fun w' => FS w L (.slice aw L.nw capw) (.slice ac L.nc capc) (.slice ae L.ne cape) N x y w1.heap.size w2.heap.size w3.heap.size w4.heap.size P1 P3 w') (by kernel_rfl) ?_ (fun hHeld => ?_)
  · exact HF0.out.drew
  refine wpAnyH_take (i := 0) (v := ?av0) rfl (by kernel_rfl) (by kernel_rfl) (by kernel_rfl) (fun _ _ _ h => h) (Or.inl ⟨by rfl, ?ay0⟩) (by assumption) ?ar0
  case ay0 =>
    intro wx hSw
    have hw := hSw.2.1.words
    (try unfold cl at hw)
    obtain ⟨⟨z0, z1⟩, ⟨z2, z3⟩, z4⟩ := hw
    clear hSw
    go_simp
    first | done | (with_reducible rfl)
  (try simp only [Act.put, List.getElem_toArray, List.getElem_cons_zero, List.setIfInBounds_toArray, List.set_cons_zero, List.set_cons_succ])
  refine wpAnyH_take (i := 1) (v := ?av1) rfl (by kernel_rfl) (by kernel_rfl) (by kernel_rfl) (fun _ _ _ h => h) (Or.inl ⟨by rfl, ?ay1⟩) (by assumption) ?ar1
  case ay1 =>
    intro wx hSw
    have hw := hSw.2.2.1.words
    (try unfold cl at hw)
    obtain ⟨⟨z0, z1⟩, ⟨z2, z3⟩, z4⟩ := hw
    clear hSw
    go_simp
    first | done | (with_reducible rfl)
  (try simp only [Act.put, List.getElem_toArray, List.getElem_cons_succ, List.getElem_cons_zero, List.setIfInBounds_toArray, List.set_cons_zero, List.set_cons_succ])
  refine wpAnyH_take (i := 2) (v := ?av2) rfl (by kernel_rfl) (by kernel_rfl) (by kernel_rfl) (fun _ _ _ h => h) (Or.inl ⟨by rfl, ?ay2⟩) (by assumption) ?ar2
  case ay2 =>
    intro wx hSw
    have hn := HQ1.out
    clear hSw
    go_simp
    first | done | (with_reducible rfl)
  (try simp only [Act.put, List.getElem_toArray, List.getElem_cons_succ, List.getElem_cons_zero, List.setIfInBounds_toArray, List.set_cons_zero, List.set_cons_succ])
  refine wpAnyH_take (i := 3) (v := ?av3) rfl (by kernel_rfl) (by kernel_rfl) (by kernel_rfl) (fun _ _ _ h => h) (Or.inl ⟨by rfl, ?ay3⟩) (by assumption) ?ar3
  case ay3 =>
    intro wx hSw
    clear hSw
    go_simp
    first | done | (with_reducible rfl)
  (try simp only [Act.put, List.getElem_toArray, List.getElem_cons_succ, List.getElem_cons_zero, List.setIfInBounds_toArray, List.set_cons_zero, List.set_cons_succ])
  refine wpAnyH_take (i := 4) (v := ?av4) rfl (by kernel_rfl) (by kernel_rfl) (by kernel_rfl) (fun _ _ _ h => h) (Or.inl ⟨by rfl, ?ay4⟩) (by assumption) ?ar4
  case ay4 =>
    intro wx hSw
    clear hSw
    go_simp
    first | done | (with_reducible rfl)
  (try simp only [Act.put, List.getElem_toArray, List.getElem_cons_succ, List.getElem_cons_zero, List.setIfInBounds_toArray, List.set_cons_zero, List.set_cons_succ])
  refine wpAnyH_take (i := 5) (v := ?av5) rfl (by kernel_rfl) (by kernel_rfl) (by kernel_rfl) (fun _ _ _ h => h) (Or.inl ⟨by rfl, ?ay5⟩) (by assumption) ?ar5
  case ay5 =>
    intro wx hSw
    clear hSw
    go_simp
    first | done | (with_reducible rfl)
  (try simp only [Act.put, List.getElem_toArray, List.getElem_cons_succ, List.getElem_cons_zero, List.setIfInBounds_toArray, List.set_cons_zero, List.set_cons_succ])
  refine wpAnyH_take (i := 6) (v := ?av6) rfl (by kernel_rfl) (by kernel_rfl) (by kernel_rfl) (fun _ _ _ h => h) (Or.inl ⟨by rfl, ?ay6⟩) (by assumption) ?ar6
  case ay6 =>
    intro wx hSw
    clear hSw
    go_simp
    first | done | (with_reducible rfl)
  (try simp only [Act.put, List.getElem_toArray, List.getElem_cons_succ, List.getElem_cons_zero, List.setIfInBounds_toArray, List.set_cons_zero, List.set_cons_succ])
  refine wpAnyH_take (i := 7) (v := ?av7) rfl (by kernel_rfl) (by kernel_rfl) (by kernel_rfl) (fun _ _ _ h => h) (Or.inl ⟨by rfl, ?ay7⟩) (by assumption) ?ar7
  case ay7 =>
    intro wx hSw
    clear hSw
    go_simp
    first | done | (with_reducible rfl)
  (try simp only [Act.put, List.getElem_toArray, List.getElem_cons_succ, List.getElem_cons_zero, List.setIfInBounds_toArray, List.set_cons_zero, List.set_cons_succ])
  refine wpAnyH_take (i := 8) (v := ?av8) rfl (by kernel_rfl) (by kernel_rfl) (by kernel_rfl) (fun _ _ _ h => h) (Or.inl ⟨by rfl, ?ay8⟩) (by assumption) ?ar8
  case ay8 =>
    intro wx hSw
    clear hSw
    go_simp
    first | done | (with_reducible rfl)
  (try simp only [Act.put, List.getElem_toArray, List.getElem_cons_succ, List.getElem_cons_zero, List.setIfInBounds_toArray, List.set_cons_zero, List.set_cons_succ])
  refine wpAnyH_take (i := 9) (v := ?av9) rfl (by kernel_rfl) (by kernel_rfl) (by kernel_rfl) (fun _ _ _ h => h) (Or.inl ⟨by rfl, ?ay9⟩) (by assumption) ?ar9
  case ay9 =>
    intro wx hSw
    have hw := hSw.2.2.2.1.words
    (try unfold cl at hw)
    obtain ⟨⟨z0, z1⟩, ⟨z2, z3⟩, z4⟩ := hw
    clear hSw
    go_simp
    first | done | (with_reducible rfl)
  (try simp only [Act.put, List.getElem_toArray, List.getElem_cons_succ, List.getElem_cons_zero, List.setIfInBounds_toArray, List.set_cons_zero, List.set_cons_succ])
  refine wpAnyH_take (i := 10) (v := ?av10) rfl (by kernel_rfl) (by kernel_rfl) (by kernel_rfl) (fun _ _ _ h => h) (Or.inl ⟨by rfl, ?ay10⟩) (by assumption) ?ar10
  case ay10 =>
    intro wx hSw
    have hw := hSw.2.2.2.2.words
    (try unfold cl at hw)
    obtain ⟨⟨z0, z1⟩, ⟨z2, z3⟩, z4⟩ := hw
    clear hSw
    go_simp
    first | done | (with_reducible rfl)
  (try simp only [Act.put, List.getElem_toArray, List.getElem_cons_succ, List.getElem_cons_zero, List.setIfInBounds_toArray, List.set_cons_zero, List.set_cons_succ])
  refine wpAnyH_take (i := 11) (v := ?av11) rfl (by kernel_rfl) (by kernel_rfl) (by kernel_rfl) (fun _ _ _ h => h) (Or.inl ⟨by rfl, ?ay11⟩) (by assumption) ?ar11
  case ay11 =>
    intro wx hSw
    have hn := HQ3.out
    clear hSw
    go_simp
    first | done | (with_reducible rfl)
  (try simp only [Act.put, List.getElem_toArray, List.getElem_cons_succ, List.getElem_cons_zero, List.setIfInBounds_toArray, List.set_cons_zero, List.set_cons_succ])
  refine wpAnyH_take (i := 12) (v := ?av12) rfl (by kernel_rfl) (by kernel_rfl) (by kernel_rfl) (fun _ _ _ h => h) (Or.inl ⟨by rfl, ?ay12⟩) (by assumption) ?ar12
  case ay12 =>
    intro wx hSw
    clear hSw
    go_simp
    first | done | (with_reducible rfl)
  (try simp only [Act.put, List.getElem_toArray, List.getElem_cons_succ, List.getElem_cons_zero, List.setIfInBounds_toArray, List.set_cons_zero, List.set_cons_succ])
  refine wpAnyH_take (i := 13) (v := ?av13) rfl (by kernel_rfl) (by kernel_rfl) (by kernel_rfl) (fun _ _ _ h => h) (Or.inl ⟨by rfl, ?ay13⟩) (by assumption) ?ar13
  case ay13 =>
    intro wx hSw
    clear hSw
    go_simp
    first | done | (with_reducible rfl)
  (try simp only [Act.put, List.getElem_toArray, List.getElem_cons_succ, List.getElem_cons_zero, List.setIfInBounds_toArray, List.set_cons_zero, List.set_cons_succ])
  refine wpAnyH_take (i := 14) (v := ?av14) rfl (by kernel_rfl) (by kernel_rfl) (by kernel_rfl) (fun _ _ _ h => h) (Or.inl ⟨by rfl, ?ay14⟩) (by assumption) ?ar14
  case ay14 =>
    intro wx hSw
    clear hSw
    go_simp
    first | done | (with_reducible rfl)
  (try simp only [Act.put, List.getElem_toArray, List.getElem_cons_succ, List.getElem_cons_zero, List.setIfInBounds_toArray, List.set_cons_zero, List.set_cons_succ])
  refine wpAnyH_take (i := 15) (v := ?av15) rfl (by kernel_rfl) (by kernel_rfl) (by kernel_rfl) (fun _ _ _ h => h) (Or.inl ⟨by rfl, ?ay15⟩) (by assumption) ?ar15
  case ay15 =>
    intro wx hSw
    clear hSw
    go_simp
    first | done | (with_reducible rfl)
  (try simp only [Act.put, List.getElem_toArray, List.getElem_cons_succ, List.getElem_cons_zero, List.setIfInBounds_toArray, List.set_cons_zero, List.set_cons_succ])
  refine wpAnyH_take (i := 16) (v := ?av16) rfl (by kernel_rfl) (by kernel_rfl) (by kernel_rfl) (fun _ _ _ h => h) (Or.inl ⟨by rfl, ?ay16⟩) (by assumption) ?ar16
  case ay16 =>
    intro wx hSw
    clear hSw
    go_simp
    first | done | (with_reducible rfl)
  (try simp only [Act.put, List.getElem_toArray, List.getElem_cons_succ, List.getElem_cons_zero, List.setIfInBounds_toArray, List.set_cons_zero, List.set_cons_succ])
  refine wpAnyH_take (i := 17) (v := ?av17) rfl (by kernel_rfl) (by kernel_rfl) (by kernel_rfl) (fun _ _ _ h => h) (Or.inl ⟨by rfl, ?ay17⟩) (by assumption) ?ar17
  case ay17 =>
    intro wx hSw
    clear hSw
    go_simp
    first | done | (with_reducible rfl)
  (try simp only [Act.put, List.getElem_toArray, List.getElem_cons_succ, List.getElem_cons_zero, List.setIfInBounds_toArray, List.set_cons_zero, List.set_cons_succ])
  refine wpAnyH_take (i := 18) (v := ?av18) rfl (by kernel_rfl) (by kernel_rfl) (by kernel_rfl) (fun _ _ _ h => h) (Or.inl ⟨by rfl, ?ay18⟩) (by assumption) ?ar18
  case ay18 =>
    intro wx hSw
    clear hSw
    go_simp
    first | done | (with_reducible rfl)
  (try simp only [Act.put, List.getElem_toArray, List.getElem_cons_succ, List.getElem_cons_zero, List.setIfInBounds_toArray, List.set_cons_zero, List.set_cons_succ])
  refine wpAnyH_take (i := 19) (v := ?av19) rfl (by kernel_rfl) (by kernel_rfl) (by kernel_rfl) (fun _ _ _ h => h) (Or.inl ⟨by rfl, ?ay19⟩) (by assumption) ?ar19
  case ay19 =>
    intro wx hSw
    have hl := hSw.1.1.1
    unfold lcl at hl
    obtain ⟨⟨x0, x1, x2⟩, ⟨x3, x4, x5⟩, hf⟩ := hl.six
    clear hl hf
    clear hSw
    go_simp
    first | done | (with_reducible rfl)
  (try simp only [Act.put, List.getElem_toArray, List.getElem_cons_succ, List.getElem_cons_zero, List.setIfInBounds_toArray, List.set_cons_zero, List.set_cons_succ])
  refine wpAnyH_take (i := 20) (v := ?av20) rfl (by kernel_rfl) (by kernel_rfl) (by kernel_rfl) (fun _ _ _ h => h) (Or.inl ⟨by rfl, ?ay20⟩) (by assumption) ?ar20
  case ay20 =>
    intro wx hSw
    clear hSw
    go_simp
    first | done | (with_reducible rfl)
  (try simp only [Act.put, List.getElem_toArray, List.getElem_cons_succ, List.getElem_cons_zero, List.setIfInBounds_toArray, List.set_cons_zero, List.set_cons_succ])
  refine wpAnyH_take (i := 21) (v := ?av21) rfl (by kernel_rfl) (by kernel_rfl) (by kernel_rfl) (fun _ _ _ h => h) (Or.inl ⟨by rfl, ?ay21⟩) (by assumption) ?ar21
  case ay21 =>
    intro wx hSw
    have hcell : wx.cell? ⟨w.heap.size + 1, 1, none⟩ = some (.int .u8 (x : Int)) := hSw.1.cell 1
    clear hSw
    go_simp
    first | done | (with_reducible rfl)
  (try simp only [Act.put, List.getElem_toArray, List.getElem_cons_succ, List.getElem_cons_zero, List.setIfInBounds_toArray, List.set_cons_zero, List.set_cons_succ])
  refine wpAnyH_take (i := 23) (v := ?av23) rfl (by kernel_rfl) (by kernel_rfl) (by kernel_rfl) (fun _ _ _ h => h) (Or.inl ⟨by rfl, ?ay23⟩) (by assumption) ?ar23
  case ay23 =>
    intro wx hSw
    have hl := hSw.1.1.1
    unfold lcl at hl
    obtain ⟨⟨x0, x1, x2⟩, ⟨x3, x4, x5⟩, hf⟩ := hl.six
    clear hl hf
    clear hSw
    go_simp
    first | done | (with_reducible rfl)
  (try simp only [Act.put, List.getElem_toArray, List.getElem_cons_succ, List.getElem_cons_zero, List.setIfInBounds_toArray, List.set_cons_zero, List.set_cons_succ])
  refine wpAnyH_take (i := 24) (v := ?av24) rfl (by kernel_rfl) (by kernel_rfl) (by kernel_rfl) (fun _ _ _ h => h) (Or.inl ⟨by rfl, ?ay24⟩) (by assumption) ?ar24
  case ay24 =>
    intro wx hSw
    clear hSw
    go_simp
    first | done | (with_reducible rfl)
  (try simp only [Act.put, List.getElem_toArray, List.getElem_cons_succ, List.getElem_cons_zero, List.setIfInBounds_toArray, List.set_cons_zero, List.set_cons_succ])
  refine wpAnyH_take (i := 25) (v := ?av25) rfl (by kernel_rfl) (by kernel_rfl) (by kernel_rfl) (fun _ _ _ h => h) (Or.inl ⟨by rfl, ?ay25⟩) (by assumption) ?ar25
  case ay25 =>
    intro wx hSw
    have hcell : wx.cell? ⟨w.heap.size + 1, 1, none⟩ = some (.int .u8 (x : Int)) := hSw.1.cell 1
    clear hSw
    go_simp
    first | done | (with_reducible rfl)
  (try simp only [Act.put, List.getElem_toArray, List.getElem_cons_succ, List.getElem_cons_zero, List.setIfInBounds_toArray, List.set_cons_zero, List.set_cons_succ])
  refine wpAnyH_ready (rs := [22]) (by kernel_rfl) (by simp) ?_
  refine AllReadyH.cons rfl (fun K hK => ?_) AllReadyH.nil
  go_simp
  go_at_call 27
  refine (H5.out _ hHeld.1.1.2.1).mono ?_
  rintro e w5 ⟨rfl, hb⟩
  refine hK.out _ _ ?_ (fun hH1 => ?_)
  · exact FS.keep hb hHeld
  clear hK K hb
  (try simp only [Act.put, List.getElem_toArray, List.getElem_cons_succ, List.getElem_cons_zero, List.setIfInBounds_toArray, List.set_cons_zero, List.set_cons_succ])
  refine wpAnyH_ready (rs := [26]) (by kernel_rfl) (by simp) ?_
  refine AllReadyH.cons rfl (fun K hK => ?_) AllReadyH.nil
  go_simp
  go_at_call 28
  refine (H6.out _ hH1.1.1.2.1).mono ?_
  rintro e w6 ⟨rfl, hb⟩
  refine hK.out _ _ ?_ (fun hH2 => ?_)
  · exact FS.keep hb hH1
  clear hK K hb
  (try simp only [Act.put, List.getElem_toArray, List.getElem_cons_succ, List.getElem_cons_zero, List.setIfInBounds_toArray, List.set_cons_zero, List.set_cons_succ])
  refine wpAnyH_take (i := 27) (v := ?bv27) rfl (by kernel_rfl) (by kernel_rfl) (by kernel_rfl) (fun _ _ _ h => h) (Or.inl ⟨by rfl, ?by27⟩) (by assumption) ?br27
  case by27 =>
    intro wx hSw
    have hn := HQ5.out
    clear hSw
    go_simp
    first | done | (with_reducible rfl)
  (try simp only [Act.put, List.getElem_toArray, List.getElem_cons_succ, List.getElem_cons_zero, List.setIfInBounds_toArray, List.set_cons_zero, List.set_cons_succ])
  refine wpAnyH_take (i := 28) (v := ?bv28) rfl (by kernel_rfl) (by kernel_rfl) (by kernel_rfl) (fun _ _ _ h => h) (Or.inl ⟨by rfl, ?by28⟩) (by assumption) ?br28
  case by28 =>
    intro wx hSw
    clear hSw
    go_simp
    first | done | (with_reducible rfl)
  (try simp only [Act.put, List.getElem_toArray, List.getElem_cons_succ, List.getElem_cons_zero, List.setIfInBounds_toArray, List.set_cons_zero, List.set_cons_succ])
  refine wpAnyH_take (i := 29) (v := ?bv29) rfl (by kernel_rfl) (by kernel_rfl) (by kernel_rfl) (fun _ _ _ h => h) (Or.inl ⟨by rfl, ?by29⟩) (by assumption) ?br29
  case by29 =>
    intro wx hSw
    clear hSw
    go_simp
    first | done | (with_reducible rfl)
  (try simp only [Act.put, List.getElem_toArray, List.getElem_cons_succ, List.getElem_cons_zero, List.setIfInBounds_toArray, List.set_cons_zero, List.set_cons_succ])
  refine wpAnyH_ready (rs := [30]) (by kernel_rfl) (by simp) ?_
  refine AllReadyH.cons rfl (fun K hK => ?_) AllReadyH.nil
  go_simp
  go_at_call 13
  refine (HAw.out _ (HTk.out _ hH2.1.1.2.2)).mono ?_
  rintro e w7 ⟨rfl, hb⟩
  refine hK.out _ _ ?_ (fun hH3 => ?_)
  · exact FS.keep hb hH2
  clear hK K hb
  (try simp only [Act.put, List.getElem_toArray, List.getElem_cons_succ, List.getElem_cons_zero, List.setIfInBounds_toArray, List.set_cons_zero, List.set_cons_succ])
  refine wpAnyH_take (i := 31) (v := ?cv31) rfl (by kernel_rfl) (by kernel_rfl) (by kernel_rfl) (fun _ _ _ h => h) (Or.inl ⟨by rfl, ?cy31⟩) (by assumption) ?cr31
  case cy31 =>
    intro wx hSw
    clear hSw
    go_simp
    first | done | (with_reducible rfl)
  (try simp only [Act.put, List.getElem_toArray, List.getElem_cons_succ, List.getElem_cons_zero, List.setIfInBounds_toArray, List.set_cons_zero, List.set_cons_succ])
  refine wpAnyH_take (i := 32) (v := ?cv32) rfl (by kernel_rfl) (by kernel_rfl) (by kernel_rfl) (fun _ _ _ h => h) (Or.inl ⟨by rfl, ?cy32⟩) (by assumption) ?cr32
  case cy32 =>
    intro wx hSw
    clear hSw
    go_simp
    first | done | (with_reducible rfl)
  (try simp only [Act.put, List.getElem_toArray, List.getElem_cons_succ, List.getElem_cons_zero, List.setIfInBounds_toArray, List.set_cons_zero, List.set_cons_succ])
  refine wpAnyH_done (by kernel_rfl) ?_ _
  have HBl := Lib.hid hH3.1.1.2.2
  go_wp2
  go_ret
  exact ⟨rfl, HBl.out⟩
end Go.Proofs.YtoijbjndafcedaaDoor
