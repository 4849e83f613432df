/- What the frames of layer 3's proofs share: a witness in a world that holds the listed tables, and a slice of strings that came in. -/
import Derived.Test.YtgcpagnnkmpeoaaDoorTxShelf
import Derived.WalkKit
import Derived.ProofKit
import Derived.OpenShut
import Derived.Lay
import Derived.LaidMore
import Derived.LaidLaws
import Derived.SizedLaws
import Derived.SliceStrings
import Derived.Deep.DeepHandedRow
set_option linter.unusedVariables false
namespace Go.Proofs.YtgcpagnnkmpeoaaDoor
open Go.ChangeShapes Go.WideShapes Go.ChangeAt Go.RowKit

theorem witness_rowS {H : Type} {enc : TypeId × Value → H} {C : Checked} {os : Os} {f : FuncId} {fn : Func} {s : OpenSpec} {conds : List PathCond} {apart : Bool} {laid : List (String × DataW Unit)} (modest : Bool) (w0 : World) (args : Array Value) (hos : w0.os = os)
    (hsh : (w0.forCall (fun _ _ => 0) ⟨#[], args, []⟩).Shaped C.prog)
    (hok : Input.okWideB C.prog (w0.forCall (fun _ _ => 0) ⟨#[], args, []⟩) f ⟨#[], args, []⟩ = true)
    (hrow : s.preRow enc C.prog fn conds apart laid (w0.forCall (fun _ _ => 0) ⟨#[], args, []⟩).memory args) :
    ∃ (w : World) (tape : Tape) (i : Input), w.os = os ∧ (w.forCall tape i).Shaped C.prog ∧ i.vars = [] ∧ Input.okWide C.prog (w.forCall tape i) .any w.heap.size f i ∧
      s.preRow enc C.prog fn conds apart laid (w.forCall tape i).memory i.args ∧ ({ modest := modest } : Assume).holds C.prog (lone (Frame.enter C.prog f i.args .normal) [] (w.forCall tape i)) :=
  ⟨w0, fun _ _ => 0, ⟨#[], args, []⟩, hos, hsh, (Input.okWide_of_okWideB (base := 0) hok).1, (Input.okWide_of_okWideB hok).2, hrow, by
    simp only [Assume.holds]
    exact ⟨by simp, by simp, fun _ => Modest.zero, by simp, by simp⟩⟩

theorem cellsS : Tryd.prog.cellsOf 9 = 1 := by kernel_rfl
theorem bulk_strs {H : Type} (ss : List ByteArray) : Rows.uptoBulkAll (strs (H := H) ss) = (ss.map fun x => x.data.toList.length).sum + ss.length := by
  induction ss with
  | nil => rfl
  | cons s r ih =>
    show Rows.uptoBulk _ + Rows.uptoBulkAll (strs r) = _
    rw [ih]
    simp only [Rows.uptoBulk, List.map_cons, List.sum_cons, List.length_cons]
    omega

theorem strs_bound (X : List ByteArray) (q : Nat) (h : (X.map fun x => x.data.toList.length).sum + X.length ≤ q) (hq : q ≤ 1048576) : ((X.map fun x => x.data.toList).map (·.length)).sum + (X.map fun x => x.data.toList).length ≤ 4294967281 := by
  rw [List.map_map, List.length_map]
  exact Nat.le_trans h (by omega)

/-- A []string that came in, nil or not, as the walks want it. -/
theorem open_strs {H : Type} {enc : TypeId × Value → H} {W : World} {a0 : Option Addr} {len cap fuel : Nat} {x : DataW H × List MemPlace}
    (hf : DataW.trod enc Tryd.prog W 0 (fun _ => true) true fuel 22 [.slice a0 len cap] = some x) :
    ∃ Xs : List ByteArray, SA W (.slice a0 len cap) (Xs.map fun x => x.data.toList) ∧ (Xs.map fun x => x.data.toList.length).sum + Xs.length ≤ Rows.uptoBulk x.1 := by
  rcases open_strings Tryd.underlying22 Tryd.underlying9 cellsS hf with ⟨hcs, hx⟩ | ⟨a, len', cap', ss, hcs, _, hl, hm, hz, hx, hcell, _⟩
  · simp at hcs
    obtain ⟨rfl, rfl, rfl⟩ := hcs
    subst hx
    exact ⟨[], ⟨none, 0, rfl, Nat.le_refl _, .inl rfl⟩, Nat.zero_le _⟩
  · simp at hcs
    obtain ⟨rfl, rfl, rfl⟩ := hcs
    subst hx
    simp only [if_true] at hz
    obtain ⟨b, off, spot⟩ := a
    have hlen : ((ss.take len).map fun x => x.data.toList).length = len := by rw [List.length_map, List.length_take]; omega
    refine ⟨ss.take len, ⟨some ⟨b, off, spot⟩, cap, by rw [hlen], by rw [hlen]; exact hl, ?_⟩, ?_⟩
    · by_cases h0 : len = 0
      · left; subst h0; rfl
      · right
        have hspot : spot = none := by simpa [Addr.add] using World.cell?_spot (hcell 0 (by omega))
        subst hspot
        refine ⟨b, off, rfl, World.block_lt_of_cell? W _ (hcell 0 (by omega)), fun j X hX => ?_⟩
        have hj : j < len := by
          have := (List.getElem?_eq_some_iff.1 hX).1
          omega
        rw [List.getElem?_map, List.getElem?_take_of_lt hj] at hX
        have hc := hcell j (by omega)
        have e1 : (⟨b, off, none⟩ : Addr).add j = ⟨b, off + j, none⟩ := by unfold Addr.add; split <;> simp_all
        rw [e1] at hc
        rw [hc]
        have hjs : j < ss.length := by omega
        rw [List.getElem?_eq_getElem hjs] at hX
        simp at hX
        subst hX
        simp [List.getD, List.getElem?_eq_getElem hjs]
        rfl
    · simp only [Rows.uptoBulk]
      rw [bulk_strs]
      omega
end Go.Proofs.YtgcpagnnkmpeoaaDoor
