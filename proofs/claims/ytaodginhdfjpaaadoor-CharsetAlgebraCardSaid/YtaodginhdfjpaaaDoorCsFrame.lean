/- What the frames of layer 4's proofs share: a witness, the library's table as it is laid, and sets that come in. -/
import Derived.Test.YtaodginhdfjpaaaDoorCsLaws
import Derived.WalkKit
import Derived.ProofKit
import Derived.OpenShut
import Derived.Lay
import Derived.LaidMore
import Derived.LaidLaws
import Derived.SizedLaws
import Derived.Laws.IdiomArrays
import Derived.Lib.LaidTab
import Derived.Deep.DeepHandedRow
set_option linter.unusedVariables false
namespace Go.Proofs.YtaodginhdfjpaaaDoor
open Go.ChangeShapes Go.WideShapes Go.ChangeAt Go.RowKit

theorem witness_rowS {H : Type} {enc : TypeId × Value → H} {C : Checked} {os : Os} {f : FuncId} {fn : Func} {s : OpenSpec} {conds : List PathCond} {apart : Bool} {laid : List (String × DataW Unit)} (modest : Bool) (w0 : World) (args : Array Value) (hos : w0.os = os)
    (hsh : (w0.forCall (fun _ _ => 0) ⟨#[], args, []⟩).Shaped C.prog)
    (hok : Input.okWideB C.prog (w0.forCall (fun _ _ => 0) ⟨#[], args, []⟩) f ⟨#[], args, []⟩ = true)
    (hrow : s.preRow enc C.prog fn conds apart laid (w0.forCall (fun _ _ => 0) ⟨#[], args, []⟩).memory args) :
    ∃ (w : World) (tape : Tape) (i : Input), w.os = os ∧ (w.forCall tape i).Shaped C.prog ∧ i.vars = [] ∧ Input.okWide C.prog (w.forCall tape i) .any w.heap.size f i ∧
      s.preRow enc C.prog fn conds apart laid (w.forCall tape i).memory i.args ∧ ({ modest := modest } : Assume).holds C.prog (lone (Frame.enter C.prog f i.args .normal) [] (w.forCall tape i)) :=
  ⟨w0, fun _ _ => 0, ⟨#[], args, []⟩, hos, hsh, (Input.okWide_of_okWideB (base := 0) hok).1, (Input.okWide_of_okWideB hok).2, hrow, by
    simp only [Assume.holds]
    exact ⟨by simp, by simp, fun _ => Modest.zero, by simp, by simp⟩⟩

/-- The listed variable's name, and what is listed. -/
def tabName : String := Rows.charsetOfRow.named.headD ""
def laid1 : List (String × DataW Unit) := [(tabName, Rows.laid_math_bits_deBruijn64tab)]
theorem gTab : Tryd.prog.globalNamed tabName = some 0 := by kernel_rfl
theorem tTab : (Tryd.prog.globals[0]?).map (·.type) = some 43 := by kernel_rfl
theorem tab_laid : (Rows.laid_math_bits_deBruijn64tab : DataW Unit) = Lib.tabData .u8 (Lib.deBruijn64tab.map fun n : Nat => ((n : Nat) : Int)) := by
  unfold Rows.laid_math_bits_deBruijn64tab Lib.tabData Lib.deBruijn64tab
  rfl

/-- The four words of a set that came in. -/
theorem list4' {α : Type} (l : List α) (h : (⟨l⟩ : Array α).size = 4) : ∃ a b c d, l = [a, b, c, d] := list4 l h
theorem cells_cs : Tryd.prog.cellsOf 26 = 4 := by kernel_rfl
theorem cells_arr : Tryd.prog.cellsOf 24 = 4 := by kernel_rfl
theorem cells_wd : Tryd.prog.cellsOf 23 = 1 := by kernel_rfl
theorem fields_of : ∃ f0 : Field, Tryd.prog.underlying 26 = some (.struct #[f0]) ∧ f0.type = 24 ∧ f0.offset = 0 := ⟨_, Tryd.underlying26, rfl, rfl⟩

theorem byte_nat (x : Int) (h : (Lit.int .u8 x).wf = true) : ∃ n : Nat, x = (n : Int) ∧ n < 256 := by
  have hb := bounds_u8 h
  exact ⟨x.toNat, by omega, by omega⟩
theorem word_nat (x : Int) (h : (Lit.int .u64 x).wf = true) : ∃ n : Nat, x = (n : Int) ∧ n < 2 ^ 64 := by
  have hb := bounds_u64 h
  exact ⟨x.toNat, by omega, by omega⟩

theorem tab_of {W : World} (h : laidMetH Tryd.prog laid1 W) : tabAt W := by
  rw [MakeChecks.laidMetH_plain _ _ _ (by kernel_rfl)] at h
  unfold laid1 at h
  rw [tab_laid] at h
  have ht := Lib.tabIs_of_head gTab tTab Tryd.underlying43 Tryd.underlying5 (by kernel_rfl) (by kernel_rfl) h
  intro j hj
  have := Lib.TabIs.cell ht gTab j (by simpa using hj)
  rw [this]
  simp [List.getD, List.getElem?_eq_getElem hj]

section
variable {H : Type} {enc : TypeId × Value → H} {W : World} {base : Nat}
/-- A set by value, as the walks want it. -/
theorem open_cs {v : Value} {b0 : Nat} {sp : Nat → Bool} {hd : Bool} {d : DataW H} {p : List MemPlace} (hv : Value.okWide Tryd.prog W .any b0 26 v)
    (h : DataW.Trod enc Tryd.prog W base sp hd 26 v d p) : ∃ P : Nat → Bool, v = cs P ∧ p = [] ∧
      d = .agg [.agg [.lit (.int .u64 ((wd P 0 64 : Nat) : Int)), .lit (.int .u64 ((wd P 64 64 : Nat) : Int)), .lit (.int .u64 ((wd P 128 64 : Nat) : Int)), .lit (.int .u64 ((wd P 192 64 : Nat) : Int))]] := by
  obtain ⟨f0, hu, hft, hfo⟩ := fields_of
  obtain ⟨cells, rfl, hsz⟩ := okWide_struct hu hv
  rw [cells_cs] at hsz
  obtain ⟨l⟩ := cells
  obtain ⟨c0, c1, c2, c3, rfl⟩ := list4 l hsz
  obtain ⟨fuel, hf⟩ := h
  obtain ⟨y0, n, hx, hl, hy⟩ := trod_struct1 hu hf
  rw [hft, hfo, cells_arr] at hy
  have hy' : DataW.trod enc Tryd.prog W base sp hd n 24 [c0, c1, c2, c3] = some y0 := hy
  obtain ⟨z0, z1, z2, z3, m, hz, h0, h1, h2, h3⟩ := trod_array4 Tryd.underlying24 cells_wd hy'
  obtain ⟨x0, e0, rfl, w0⟩ := DataW.trod_int Tryd.underlying23 h0
  obtain ⟨x1, e1, rfl, w1⟩ := DataW.trod_int Tryd.underlying23 h1
  obtain ⟨x2, e2, rfl, w2⟩ := DataW.trod_int Tryd.underlying23 h2
  obtain ⟨x3, e3, rfl, w3⟩ := DataW.trod_int Tryd.underlying23 h3
  simp at e0 e1 e2 e3
  subst e0 e1 e2 e3
  subst hz
  simp only [Prod.mk.injEq] at hx
  obtain ⟨rfl, rfl⟩ := hx
  obtain ⟨n0, rfl, l0⟩ := word_nat x0 w0
  obtain ⟨n1, rfl, l1⟩ := word_nat x1 w1
  obtain ⟨n2, rfl, l2⟩ := word_nat x2 w2
  obtain ⟨n3, rfl, l3⟩ := word_nat x3 w3
  refine ⟨toP n0 n1 n2 n3, ?_, by simp, ?_⟩
  · unfold cs cl
    rw [toP0 n0 n1 n2 n3 l0, toP1 n0 n1 n2 n3 l1, toP2 n0 n1 n2 n3 l2, toP3 n0 n1 n2 n3 l3]
  · rw [toP0 n0 n1 n2 n3 l0, toP1 n0 n1 n2 n3 l1, toP2 n0 n1 n2 n3 l2, toP3 n0 n1 n2 n3 l3]
theorem wf_word (n : Nat) (h : n < 18446744073709551616) : (Lit.int .u64 (n : Int)).wf = true := by
  have : IntKind.u64.wrap (n : Int) = (n : Int) := by rw [IntKind.wrap_u64]; omega
  rw [← this]
  exact wf_wrap _ _
theorem shut_cs {sp : Nat → Bool} {hd : Bool} (P : Nat → Bool) : DataW.Trod enc Tryd.prog W base sp hd 26 (cs P)
      (.agg [.agg [.lit (.int .u64 ((wd P 0 64 : Nat) : Int)), .lit (.int .u64 ((wd P 64 64 : Nat) : Int)), .lit (.int .u64 ((wd P 128 64 : Nat) : Int)), .lit (.int .u64 ((wd P 192 64 : Nat) : Int))]]) [] := by
  obtain ⟨f0, hu, hft, hfo⟩ := fields_of
  have w0 := wf_word _ (wd_lt64 P 0)
  have w1 := wf_word _ (wd_lt64 P 64)
  have w2 := wf_word _ (wd_lt64 P 128)
  have w3 := wf_word _ (wd_lt64 P 192)
  refine ⟨3, ?_⟩
  have ha : DataW.trod enc Tryd.prog W base sp hd 2 24 [.int .u64 ((wd P 0 64 : Nat) : Int), .int .u64 ((wd P 64 64 : Nat) : Int), .int .u64 ((wd P 128 64 : Nat) : Int), .int .u64 ((wd P 192 64 : Nat) : Int)] =
      some (.agg [.lit (.int .u64 ((wd P 0 64 : Nat) : Int)), .lit (.int .u64 ((wd P 64 64 : Nat) : Int)), .lit (.int .u64 ((wd P 128 64 : Nat) : Int)), .lit (.int .u64 ((wd P 192 64 : Nat) : Int))], []) := by
    simp [DataW.trod, Tryd.underlying24, Tryd.underlying23, cells_arr, cells_wd, w0, w1, w2, w3, show List.range 4 = [0, 1, 2, 3] from rfl]
  have := trod_struct1_mk (enc := enc) (w := W) (base := base) (spare := sp) (held := hd) (n := 2) (cs := [.int .u64 ((wd P 0 64 : Nat) : Int), .int .u64 ((wd P 64 64 : Nat) : Int), .int .u64 ((wd P 128 64 : Nat) : Int), .int .u64 ((wd P 192 64 : Nat) : Int)]) hu (by rw [cells_cs]; rfl) (by rw [hft, hfo, cells_arr]; exact ha)
  exact this
end
end Go.Proofs.YtaodginhdfjpaaaDoor
