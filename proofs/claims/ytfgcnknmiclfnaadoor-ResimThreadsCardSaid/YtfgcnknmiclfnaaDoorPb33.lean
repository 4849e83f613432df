/- RsFrame. -/
import Derived.Test.YtfgcnknmiclfnaaDoorPb30
import Derived.Test.YtfgcnknmiclfnaaDoorPb10
import Derived.Test.YtfgcnknmiclfnaaDoorPb28
set_option linter.unusedVariables false
set_option maxRecDepth 100000
namespace Go.Proofs.YtfgcnknmiclfnaaDoor
open Go.ChangeShapes Go.WideShapes Go.ChangeAt Go.RowKit
namespace Prg
theorem cells_in : Tryd.prog.cellsOf 43 = 7 := by kernel_rfl
theorem cells_prg : Tryd.prog.cellsOf 24 = 2 := by kernel_rfl
theorem cells_sin : Tryd.prog.cellsOf 22 = 1 := by kernel_rfl
theorem cells_b : Tryd.prog.cellsOf 4 = 1 := by kernel_rfl
theorem fieldsI : ∃ f0 f1 f2 f3 : Field, Tryd.prog.underlying 43 = some (.struct #[f0, f1, f2, f3]) ∧ ((f0.type = 3 ∧ f0.offset = 0) ∧ (f1.type = 41 ∧ f1.offset = 1)) ∧ (f2.type = 3 ∧ f2.offset = 5) ∧ f3.type = 3 ∧ f3.offset = 6 :=
  ⟨_, _, _, _, Tryd.underlying43, ⟨⟨rfl, rfl⟩, ⟨rfl, rfl⟩⟩, ⟨rfl, rfl⟩, rfl, rfl⟩
theorem fieldsP : ∃ f0 f1 : Field, Tryd.prog.underlying 24 = some (.struct #[f0, f1]) ∧ (f0.type = 22 ∧ f0.offset = 0) ∧ f1.type = 4 ∧ f1.offset = 1 := ⟨_, _, Tryd.underlying24, ⟨rfl, rfl⟩, rfl, rfl⟩
theorem list7' {α : Type} (l : List α) (h : l.length = 7) : ∃ a b c d e f g, l = [a, b, c, d, e, f, g] := by
  match l, h with
  | [a, b, c, d, e, f, g], _ => exact ⟨a, b, c, d, e, f, g, rfl⟩
theorem list4' {α : Type} (l : List α) (h : l.length = 4) : ∃ a b c d, l = [a, b, c, d] := by
  match l, h with
  | [a, b, c, d], _ => exact ⟨a, b, c, d, rfl⟩
theorem list2' {α : Type} (l : List α) (h : l.length = 2) : ∃ a b, l = [a, b] := by
  match l, h with
  | [a, b], _ => exact ⟨a, b, rfl⟩
section
variable {H : Type} {enc : TypeId × Value → H} {W : World} {base : Nat} {sp : Nat → Bool} {hd : Bool}
theorem open_inst {fuel : Nat} {cs : List Value} {x : DataW H × List MemPlace} (hl7 : cs.length = 7) (h : DataW.trod enc Tryd.prog W base sp hd fuel 43 cs = some x) : ∃ i : IN, cs = rowI i ∧ fits i.x ∧ fits i.y := by
  obtain ⟨f0, f1, f2, f3, hu, ⟨⟨a0, o0⟩, ⟨a1, o1⟩⟩, ⟨a2, o2⟩, a3, o3⟩ := fieldsI
  obtain ⟨c0, c1, c2, c3, c4, c5, c6, rfl⟩ := list7' cs hl7
  obtain ⟨xs, n, rfl, _, hl, hlen, hf⟩ := DataW.trod_struct hu h
  obtain ⟨y0, y1, y2, y3, rfl⟩ := list4' xs (by simpa using hlen)
  have t0 := hf 0 f0 rfl
  have t1 := hf 1 f1 rfl
  have t2 := hf 2 f2 rfl
  have t3 := hf 3 f3 rfl
  rw [a0, o0, Tree.cells_int] at t0
  rw [a1, o1, Tree.cells_cs] at t1
  rw [a2, o2, Tree.cells_int] at t2
  rw [a3, o3, Tree.cells_int] at t3
  obtain ⟨z0, e0, _, w0⟩ := DataW.trod_int Tryd.underlying3 (by simpa using t0)
  obtain ⟨z2, e2, _, w2⟩ := DataW.trod_int Tryd.underlying3 (by simpa using t2)
  obtain ⟨z3, e3, _, w3⟩ := DataW.trod_int Tryd.underlying3 (by simpa using t3)
  obtain ⟨P, hP⟩ := Tree.open_words (c0 := c1) (c1 := c2) (c2 := c3) (c3 := c4) (by simpa using t1)
  simp only [List.cons.injEq, and_true] at e0 e2 e3
  subst e0 e2 e3
  have b2 := bounds_i64 w2
  have b3 := bounds_i64 w3
  refine ⟨⟨z0, P, z2, z3⟩, ?_, ⟨by show _ ≤ z2; omega, by show z2 ≤ _; omega⟩, ⟨by show _ ≤ z3; omega, by show z3 ≤ _; omega⟩⟩
  have hP' : [c1, c2, c3, c4] = (cl P).toList := hP
  unfold cl at hP'
  simp only [List.cons.injEq, and_true] at hP'
  obtain ⟨p1, p2, p3, p4⟩ := hP'
  subst p1 p2 p3 p4
  rfl
theorem open_prg {v : Value} {b0 : Nat} {d : DataW H} {p : List MemPlace} (hv : Value.okWide Tryd.prog W .any b0 24 v)
    (h : DataW.Trod enc Tryd.prog W base sp hd 24 v d p) : ∃ (L : List IN) (pv : Value) (bv : Bool), v = .agg #[pv, .bool bv] ∧ PI W 0 L pv ∧ (∀ i ∈ L, fits i.x ∧ fits i.y) ∧ L.length ≤ 9223372036854775807 := by
  obtain ⟨f0, f1, hu, ⟨a0, o0⟩, a1, o1⟩ := fieldsP
  obtain ⟨cells, rfl, hsz⟩ := okWide_struct hu hv
  rw [cells_prg] at hsz
  obtain ⟨fuel, hf0⟩ := h
  obtain ⟨cs⟩ := cells
  obtain ⟨c0, c1, rfl⟩ := list2' cs (by simpa using hsz)
  have hf1 : DataW.trod enc Tryd.prog W base sp hd fuel 24 [c0, c1] = some (d, p) := hf0
  obtain ⟨xs, n, hd0, _, hl, hlen, hf⟩ := DataW.trod_struct hu hf1
  obtain ⟨y0, y1, rfl⟩ := list2' xs (by simpa using hlen)
  have t0 := hf 0 f0 rfl
  have t1 := hf 1 f1 rfl
  rw [a0, o0, cells_sin] at t0
  rw [a1, o1, cells_b] at t1
  have t1' : DataW.trod enc Tryd.prog W base sp hd n 4 [c1] = some y1 := by simpa using t1
  obtain ⟨bv, e1, _⟩ := DataW.trod_bool Tryd.underlying4 t1'
  obtain rfl : c1 = .bool bv := by simpa using e1
  have t0' : DataW.trod enc Tryd.prog W base sp hd n 22 [c0] = some y0 := by simpa using t0
  rcases DataW.trod_slice Tryd.underlying22 t0' with ⟨e, _⟩ | ⟨ad, len, cap, elems, rest, m, rfl, e, _, hb, hle, hcap, hel, hx, _, _⟩
  · obtain rfl : c0 = .slice none 0 0 := by simpa using e
    exact ⟨[], _, bv, rfl, PI.nil _ _, (fun i hi => by cases hi), Nat.zero_le _⟩
  · obtain rfl : c0 = .slice (some ad) len cap := by simpa using e
    rw [cells_in] at hx
    have hrow : ∀ i, i < len → ∃ q : IN, (∃ cs', W.cells? base (ad.add (i * 7)) 7 = some cs' ∧ cs' = rowI q) ∧ fits q.x ∧ fits q.y := by
      intro i hi
      have h1 := hx i hi
      rw [List.getElem?_eq_getElem (by omega)] at h1
      obtain ⟨cs', h2, h3⟩ := Option.bind_eq_some_iff.1 h1
      obtain ⟨q, hq, hfq⟩ := open_inst (World.cells?_some h2).2.1 h3
      exact ⟨q, ⟨cs', h2, hq⟩, hfq⟩
    haveI : Inhabited IN := ⟨⟨0, noSet, 0, 0⟩⟩
    obtain ⟨R, hR⟩ := Deep.choose_lt (α := IN) (n := len) (p := fun i q => (∃ cs', W.cells? base (ad.add (i * 7)) 7 = some cs' ∧ cs' = rowI q) ∧ fits q.x ∧ fits q.y) hrow
    have hlen2 : ((List.range len).map R).length = len := by simp
    refine ⟨(List.range len).map R, _, bv, rfl, ⟨some ad, cap, by rw [hlen2], by omega, ?_⟩, ?_, by rw [hlen2]; unfold maxLen at hcap; omega⟩
    · by_cases h0 : len = 0
      · exact .inl (by rw [hlen2]; exact h0)
      obtain ⟨⟨cs0, hc0, _⟩, _⟩ := hR 0 (by omega)
      obtain ⟨ha, hlt⟩ := Tree.elem_spot (k := 7) (by decide) hc0
      obtain ⟨b, off, spot⟩ := ad
      simp only [Addr.mk.injEq, true_and] at ha
      subst ha
      refine .inr ⟨b, off, rfl, Nat.zero_le _, hlt, fun k hk j hj => ?_⟩
      have hk2 : k < len := by rw [hlen2] at hk; exact hk
      obtain ⟨⟨cs', h1, h2⟩, _⟩ := hR k hk2
      rw [Tree.elem_cell h1 j hj, h2]
      simp
    · intro i hi
      obtain ⟨k, hk, rfl⟩ := List.mem_map.1 hi
      exact (hR k (List.mem_range.1 hk)).2
end
end Prg
end Go.Proofs.YtfgcnknmiclfnaaDoor
