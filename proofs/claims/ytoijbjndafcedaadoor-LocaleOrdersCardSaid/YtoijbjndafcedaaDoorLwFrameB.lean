/- More values that come in: a list of strings, a query. -/
import Derived.Test.YtoijbjndafcedaaDoorLwFrame
set_option linter.unusedVariables false
namespace Go.Proofs.YtoijbjndafcedaaDoor
open Go.ChangeShapes Go.WideShapes Go.ChangeAt Go.RowKit
section
variable {H : Type} {enc : TypeId × Value → H} {W : World} {base : Nat} {sp : Nat → Bool} {hd : Bool}
/-- A list of strings that came in. -/
theorem open_slsC {fuel : Nat} {v : Value} {x : DataW H × List MemPlace} (h : DataW.trod enc Tryd.prog W base sp hd fuel 32 [v] = some x) : ∃ n, ∃ f : Nat → ByteArray, SL 1 n (fun j _ => .string (f j)) W v := by
  rcases Deep.open_slice1 Tryd.underlying32 (by kernel_rfl) h with ⟨e, _⟩ | ⟨a, len, cap, m, n, V, D, Pl, e, _, hl, _, hm, _, hx⟩
  · obtain rfl := List.cons.inj e |>.1
    exact ⟨0, fun _ => ⟨#[]⟩, SL_nil _ _ _⟩
  obtain rfl := List.cons.inj e |>.1
  have hlm : len ≤ m := by rw [hm]; split <;> omega
  obtain ⟨f, hf⟩ := Deep.choose_lt (α := ByteArray) (n := len) (p := fun i z => V i = .string z) (fun i hi => by
    obtain ⟨z, hz, _⟩ := DataW.trod_string Tryd.underlying9 (hx i (by omega)).2
    exact ⟨z, by simpa using hz⟩)
  refine ⟨len, f, some a, cap, rfl, hl, ?_⟩
  by_cases h0 : len = 0
  · exact .inl h0
  obtain ⟨b, off, spot⟩ := a
  have hc0 := (hx 0 (by omega)).1
  have hspot : spot = none := by simpa [Addr.add] using World.cell?_spot hc0
  subst hspot
  refine .inr ⟨b, off, rfl, World.block_lt_of_cell? W _ hc0, fun j i hj hi => ?_⟩
  obtain rfl : i = 0 := by omega
  have := (hx j (by omega)).1
  rw [add_off, hf j hj] at this
  simpa using this
theorem open_sls {v : Value} {b0 : Nat} {d : DataW H} {p : List MemPlace} (hv : Value.okWide Tryd.prog W .any b0 32 v)
    (h : DataW.Trod enc Tryd.prog W base sp hd 32 v d p) : ∃ (V : Value) (n : Nat) (X : Nat → ByteArray), v = V ∧ SL 1 n (fun j _ => .string (X j)) W V := by
  obtain ⟨s, l, c, rfl⟩ := okWide_slice Tryd.underlying32 hv
  obtain ⟨fuel, hf⟩ := h
  obtain ⟨n, X, hS⟩ := open_slsC (v := .slice s l c) hf
  exact ⟨_, n, X, rfl, hS⟩
theorem cells_u8 : Tryd.prog.cellsOf 5 = 1 := by kernel_rfl
theorem cells_qry : Tryd.prog.cellsOf 39 = 3 := by kernel_rfl
theorem fields_qry : ∃ f0 f1 f2 : Field, Tryd.prog.underlying 39 = some (.struct #[f0, f1, f2]) ∧ (f0.type = 9 ∧ f0.offset = 0) ∧ (f1.type = 5 ∧ f1.offset = 1) ∧ f2.type = 5 ∧ f2.offset = 2 := ⟨_, _, _, Tryd.underlying39, ⟨rfl, rfl⟩, ⟨rfl, rfl⟩, rfl, rfl⟩
theorem list3' {α : Type} (l : List α) (h : l.length = 3) : ∃ a b c, l = [a, b, c] := by
  match l, h with
  | [a, b, c], _ => exact ⟨a, b, c, rfl⟩
theorem open_qry {v : Value} {b0 : Nat} {d : DataW H} {p : List MemPlace} (hv : Value.okWide Tryd.prog W .any b0 39 v)
    (h : DataW.Trod enc Tryd.prog W base sp hd 39 v d p) : ∃ (N : ByteArray) (x y : Nat), v = .agg #[.string N, .int .u8 (x : Int), .int .u8 (y : Int)] ∧ x < 256 ∧ y < 256 := by
  obtain ⟨f0, f1, f2, hu, ⟨a0, o0⟩, ⟨a1, o1⟩, a2, o2⟩ := fields_qry
  obtain ⟨cells, rfl, hsz⟩ := okWide_struct hu hv
  rw [cells_qry] at hsz
  obtain ⟨l⟩ := cells
  obtain ⟨c0, c1, c2, rfl⟩ := list3' l (by simpa using hsz)
  obtain ⟨fuel, hf⟩ := h
  have hf' : DataW.trod enc Tryd.prog W base sp hd fuel 39 [c0, c1, c2] = some (d, p) := hf
  obtain ⟨xs, n, _, -, hl, hlen, hel⟩ := DataW.trod_struct hu hf'
  obtain ⟨y0, y1, y2, rfl⟩ := list3' xs hlen
  have t0 := hel 0 f0 rfl
  have t1 := hel 1 f1 rfl
  have t2 := hel 2 f2 rfl
  rw [a0, o0, cells_str] at t0
  rw [a1, o1, cells_u8] at t1
  rw [a2, o2, cells_u8] at t2
  simp at t0 t1 t2
  obtain ⟨s0, e0, _, _⟩ := DataW.trod_string Tryd.underlying9 t0
  obtain ⟨x1, e1, _, w1⟩ := DataW.trod_int Tryd.underlying5 t1
  obtain ⟨x2, e2, _, w2⟩ := DataW.trod_int Tryd.underlying5 t2
  simp at e0 e1 e2
  subst e0 e1 e2
  obtain ⟨n1, rfl, l1⟩ := byte_nat x1 w1
  obtain ⟨n2, rfl, l2⟩ := byte_nat x2 w2
  exact ⟨s0, n1, n2, rfl, l1, l2⟩
end
end Go.Proofs.YtoijbjndafcedaaDoor
