/- Escape, as the program and the reference have it. -/
import Derived.Test.YtblaldcioneooaaGreatDoorTxApp
import Derived.Laws.IdiomStrings
set_option linter.unusedVariables false
namespace Go.Proofs.YtblaldcioneooaaGreatDoor
open Go.RowKit

/-- A slice of bytes that the call has made, as a string. -/
theorem conv_own {w : World} {B n : Nat} {v : Value} {l : List UInt8} (h : w.ownsRow B 5 1 v n (ints l)) (hn : n = l.length) : (convert 68 9 v).run Tryz.prog w = .ok (.string (mk l)) w := by
  subst hn
  rcases Joins.ownsRow_forms h with ⟨rfl, h0⟩ | ⟨g, cap, rfl⟩
  · have hl : l = [] := List.eq_nil_of_length_eq_zero h0
    subst hl
    have hz := run_loadCells_list (P := Tryz.prog) w ⟨0, 0, none⟩ [] (fun j v hj => by simp at hj)
    rw [run_convert_bytes_string w 68 9 5 none 0 0 Tryz.underlying68 Tryz.underlying5 Tryz.underlying9]
    rfl
  · have hc := run_convert_bytes_back (P := Tryz.prog) w 68 9 5 ⟨g, 0, none⟩ cap l Tryz.underlying68 Tryz.underlying5 Tryz.underlying9 (fun j hj => h.cells rfl j _ (by unfold ints; rw [List.getElem?_map, List.getElem?_eq_getElem hj]; rfl))
    exact hc
theorem make_own (n : Nat) (hn : n ≤ 281474976710656) (u : World) : (Instr.makeSlice 68 (.int .i64 0) (.int .i64 (n : Int))).run Tryz.prog u = .ok (.slice (some ⟨u.heap.size, 0, none⟩) 0 n) (u.alloc (.cells (madeCells #[.int .u8 0] n) 5)) := by
  obtain ⟨i0, hi, hz0, hz1, hz2⟩ := info_parts infoB
  have h := run_make (P := Tryz.prog) u 68 5 i0 (.int .u8 0) Tryz.underlying68 hi hz0 .i64 .i64 0 (n : Int) (by omega) (by omega) (by rw [hz2]; omega) (by omega)
  have e : ((n : Nat) : Int).toNat = n := by omega
  rw [e] at h
  simpa [hz1, Value.cells] using h
theorem own_post {w : World} {B n k : Nat} {v : Value} {l : List UInt8} (h : w.ownsRow B 5 1 v n (ints l)) (hk : n = k) {r : List UInt8} (hr : l = r) : w.ownsRow B 5 1 v k (ints r) := by
  subst hk hr; exact h

theorem own_app {w : World} {B n m : Nat} {v : Value} {l r : List UInt8} {vs : List Value} (h : w.ownsRow B 5 1 v (n + m) (ints l ++ vs)) (hv : vs = ints r) : w.ownsRow B 5 1 v (n + m) (ints (l ++ r)) := by
  rw [ints_app, ← hv]; exact h
end Go.Proofs.YtblaldcioneooaaGreatDoor
