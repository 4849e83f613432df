/- RxFrame. -/
import Derived.Test.YtphiaagppcbefaaGreatDoorPs44
import Derived.WalkKit
import Derived.ProofKit
import Derived.OpenShut
import Derived.Lay
import Derived.LaidMore
import Derived.LaidLaws
import Derived.SizedLaws
import Derived.SliceStrings
import Derived.Laws.IdiomArrays
import Derived.Lib.LaidTab
import Derived.Deep.DeepHandedRow
import Derived.Deep.Slices
import Derived.Shelf.Vars
set_option linter.unusedVariables false
set_option maxRecDepth 100000
namespace Go.Proofs.YtphiaagppcbefaaGreatDoor
open Go.ChangeShapes Go.WideShapes Go.ChangeAt Go.RowKit
theorem witness_rowS {H : Type} {enc : TypeId × Value → H} {C : Checked} {os : Os} {f : FuncId} {fn : Func} {s : OpenSpec} {conds : List PathCond} {apart : Bool} {laid : List (String × DataW Unit)} (modest : Bool) (w0 : World) (args : Array Value) (hos : w0.os = os)
    (hsh : (w0.forCall (fun _ _ => 0) ⟨#[], args, []⟩).Shaped C.prog)
    (hok : Input.okWideB C.prog (w0.forCall (fun _ _ => 0) ⟨#[], args, []⟩) f ⟨#[], args, []⟩ = true)
    (hrow : s.preRow enc C.prog fn conds apart laid (w0.forCall (fun _ _ => 0) ⟨#[], args, []⟩).memory args) :
    ∃ (w : World) (tape : Tape) (i : Input), w.os = os ∧ (w.forCall tape i).Shaped C.prog ∧ i.vars = [] ∧ Input.okWide C.prog (w.forCall tape i) .any w.heap.size f i ∧
      s.preRow enc C.prog fn conds apart laid (w.forCall tape i).memory i.args ∧ ({ modest := modest } : Assume).holds C.prog (lone (Frame.enter C.prog f i.args .normal) [] (w.forCall tape i)) :=
  ⟨w0, fun _ _ => 0, ⟨#[], args, []⟩, hos, hsh, (Input.okWide_of_okWideB (base := 0) hok).1, (Input.okWide_of_okWideB hok).2, hrow, by
    simp only [Assume.holds]
    exact ⟨by simp, by simp, fun _ => Modest.zero, by simp, by simp⟩⟩
def tabName : String := "math/bits.deBruijn64tab"
def tabName2 : String := Rows.retextPlainRow.named.getD 1 ""
def laid1 : List (String × DataW Unit) := [(tabName, Rows.laid_math_bits_deBruijn64tab), (tabName2, Rows.laid_texttools_locale_standardClasses)]
theorem gTab : Tryz.prog.globalNamed tabName = some 0 := by kernel_rfl
theorem tTab : (Tryz.prog.globals[0]?).map (·.type) = some 124 := by kernel_rfl
theorem tab_laid : (Rows.laid_math_bits_deBruijn64tab : DataW Unit) = Lib.tabData .u8 (Lib.deBruijn64tab.map fun n : Nat => ((n : Nat) : Int)) := by
  unfold Rows.laid_math_bits_deBruijn64tab Lib.tabData Lib.deBruijn64tab
  rfl
theorem tab_of {W : World} (h : laidMetH Tryz.prog laid1 W) : tabAt W := by
  rw [MakeChecks.laidMetH_plain _ _ _ (by kernel_rfl)] at h
  unfold laid1 at h
  rw [tab_laid] at h
  have ht := Lib.tabIs_of_head gTab tTab Tryz.underlying124 Tryz.underlying5 (by kernel_rfl) (by kernel_rfl) h
  intro j hj
  have := Lib.TabIs.cell ht gTab j (by simpa using hj)
  rw [this]
  simp [List.getD, List.getElem?_eq_getElem hj]
theorem gTab2 : Tryz.prog.globalNamed tabName2 = some 1 := by kernel_rfl
theorem tTab2 : (Tryz.prog.globals[1]?).map (·.type) = some 143 := by kernel_rfl
theorem tab_laid2 : (Rows.laid_texttools_locale_standardClasses : DataW Unit) = .agg ((List.range 12).map fun i => .agg [.lit (.string (nmL2 i)), .lit (.string (rgL i))]) := rfl
theorem cells_tab : Tryz.prog.cellsOf 142 = 2 := by kernel_rfl
theorem cells_str : Tryz.prog.cellsOf 9 = 1 := by kernel_rfl
theorem fields_tab : ∃ f0 f1 : Field, Tryz.prog.underlying 142 = some (.struct #[f0, f1]) ∧ (f0.type = 9 ∧ f0.offset = 0) ∧ f1.type = 9 ∧ f1.offset = 1 := ⟨_, _, Tryz.underlying142, ⟨rfl, rfl⟩, rfl, rfl⟩
theorem mkS_of (s : ByteArray) (l : List UInt8) (h : s.data.toList = l) : s = mkS l := by
  subst h
  exact (Lib.mk_data s).symm
theorem ltab_of {W : World} (h : laidMetH Tryz.prog laid1 W) : ltabAt W := by
  rw [MakeChecks.laidMetH_plain _ _ _ (by kernel_rfl)] at h
  unfold laid1 at h
  rw [tab_laid2] at h
  obtain ⟨ps, ⟨_, _, _, _, _, _, _, _, _, _, htl, _⟩, _⟩ := h
  obtain ⟨g', t', cs, fuel, p, q, hg', ht', hvar, hd, _, _⟩ := htl
  obtain rfl := Option.some.inj (gTab2.symm.trans hg')
  obtain rfl := Option.some.inj (tTab2.symm.trans ht')
  obtain ⟨xs, m, _, hx, hl, hn, hel⟩ := DataW.trod_array Tryz.underlying143 hd
  rw [cells_tab] at hel
  have hxs : xs.map (·.1) = (List.range 12).map fun i => DataW.agg [.lit (.string (nmL2 i)), .lit (.string (rgL i))] := by
    have := congrArg Prod.fst hx
    simp only [DataW.agg.injEq] at this
    exact this.symm
  have key : ∀ i, i < 12 → cs[2 * i]? = some (.string (mkS (nmL2 i))) ∧ cs[2 * i + 1]? = some (.string (mkS (rgL i))) := by
    intro i hi
    obtain ⟨f0, f1, hu, ⟨ht0, ho0⟩, ht1, ho1⟩ := fields_tab
    have hy := hel i hi
    have hxi : i < xs.length := by omega
    rw [List.getElem?_eq_getElem hxi] at hy
    have h1 : (xs.map (·.1))[i]? = some (xs[i]).1 := by rw [List.getElem?_map, List.getElem?_eq_getElem hxi]; rfl
    rw [hxs, List.getElem?_map, List.getElem?_range hi] at h1
    simp only [Option.map_some, Option.some.injEq] at h1
    obtain ⟨y0, y1, k, hyx, hlen, t0, t1⟩ := trod_struct2 hu hy
    rw [ht0, ho0, cells_str] at t0
    rw [ht1, ho1, cells_str] at t1
    obtain ⟨s0, e0, rfl, _⟩ := DataW.trod_string Tryz.underlying9 t0
    obtain ⟨s1, e1, rfl, _⟩ := DataW.trod_string Tryz.underlying9 t1
    rw [hyx] at h1
    simp only [DataW.agg.injEq, List.cons.injEq, DataW.lit.injEq, Lit.string.injEq, and_true] at h1
    obtain ⟨h2, h3⟩ := h1
    have g0 := congrArg (fun l => l[0]?) e0
    have g1 := congrArg (fun l => l[0]?) e1
    simp only [List.getElem?_take, List.getElem?_drop, List.getElem?_cons_zero, Array.getElem?_toList] at g0 g1
    rw [mkS_of s0 _ h2.symm] at g0
    rw [mkS_of s1 _ h3.symm] at g1
    constructor
    · simpa [Nat.mul_comm] using g0
    · simpa [Nat.mul_comm] using g1
  intro j v hj
  have hj24 : j < 24 := by
    have := (Array.getElem?_eq_some_iff.1 hj).1
    exact this
  rw [World.var?_cell gTab2 hvar j]
  have hv : v = .string (mkS (tabS.getD j [])) := by
    unfold tabCells at hj
    rw [List.getElem?_toArray, List.getElem?_map] at hj
    have hlt : j < tabS.length := hj24
    rw [List.getElem?_eq_getElem hlt] at hj
    simp only [Option.map_some, Option.some.injEq] at hj
    rw [← hj]
    simp [List.getD, List.getElem?_eq_getElem hlt]
  subst hv
  by_cases he : j % 2 = 0
  · have := (key (j / 2) (by omega)).1
    have e : 2 * (j / 2) = j := by omega
    unfold nmL2 at this
    rw [e] at this
    exact this
  · have := (key (j / 2) (by omega)).2
    have e : 2 * (j / 2) + 1 = j := by omega
    unfold rgL at this
    rw [e] at this
    exact this
theorem max_of {W : World} (h : W.ShapedOpen Tryz.prog) : maxAt W :=
  cell_of_shapedOpen_int (P := Tryz.prog) (g := 2) (t := 3) (zero := #[.int .i64 0]) h (of_decide_eq_true (by kernel_rfl)) (by kernel_rfl) rfl (by kernel_rfl) (by kernel_rfl) Tryz.underlying3
theorem tb_of {W : World} (h : laidMetH Tryz.prog laid1 W) (hs : W.ShapedOpen Tryz.prog) : TB W := ⟨⟨tab_of h, max_of hs⟩, ltab_of h⟩
end Go.Proofs.YtphiaagppcbefaaGreatDoor
