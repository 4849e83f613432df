/- What the frames of layer 5's proofs share: a witness, the listed table, and a locale that comes in. -/
import Derived.Test.YtblaldcioneooaaDoorLwB
import Derived.WalkKit
import Derived.ProofKit
import Derived.OpenShut
import Derived.Lay
import Derived.LaidMore
import Derived.LaidLaws
import Derived.SizedLaws
import Derived.SliceStrings
import Derived.Laws.IdiomArrays
import Derived.Lib.LaidTab
import Derived.Deep.DeepHandedRow
import Derived.Deep.Slices
set_option linter.unusedVariables false
set_option maxRecDepth 100000
namespace Go.Proofs.YtblaldcioneooaaDoor
open Go.ChangeShapes Go.WideShapes Go.ChangeAt Go.RowKit

theorem witness_rowS {H : Type} {enc : TypeId × Value → H} {C : Checked} {os : Os} {f : FuncId} {fn : Func} {s : OpenSpec} {conds : List PathCond} {apart : Bool} {laid : List (String × DataW Unit)} (modest : Bool) (w0 : World) (args : Array Value) (hos : w0.os = os)
    (hsh : (w0.forCall (fun _ _ => 0) ⟨#[], args, []⟩).Shaped C.prog)
    (hok : Input.okWideB C.prog (w0.forCall (fun _ _ => 0) ⟨#[], args, []⟩) f ⟨#[], args, []⟩ = true)
    (hrow : s.preRow enc C.prog fn conds apart laid (w0.forCall (fun _ _ => 0) ⟨#[], args, []⟩).memory args) :
    ∃ (w : World) (tape : Tape) (i : Input), w.os = os ∧ (w.forCall tape i).Shaped C.prog ∧ i.vars = [] ∧ Input.okWide C.prog (w.forCall tape i) .any w.heap.size f i ∧
      s.preRow enc C.prog fn conds apart laid (w.forCall tape i).memory i.args ∧ ({ modest := modest } : Assume).holds C.prog (lone (Frame.enter C.prog f i.args .normal) [] (w.forCall tape i)) :=
  ⟨w0, fun _ _ => 0, ⟨#[], args, []⟩, hos, hsh, (Input.okWide_of_okWideB (base := 0) hok).1, (Input.okWide_of_okWideB hok).2, hrow, by
    simp only [Assume.holds]
    exact ⟨by simp, by simp, fun _ => Modest.zero, by simp, by simp⟩⟩

/-- The listed variable's name, and what is listed. -/
def tabName : String := Rows.localeRangesRow.named.headD ""
def laid1 : List (String × DataW Unit) := [(tabName, Rows.laid_texttools_locale_standardClasses)]
theorem gTab : Tryd.prog.globalNamed tabName = some 0 := by kernel_rfl
theorem tTab : (Tryd.prog.globals[0]?).map (·.type) = some 92 := by kernel_rfl
theorem tab_laid : (Rows.laid_texttools_locale_standardClasses : DataW Unit) = .agg ((List.range 12).map fun i => .agg [.lit (.string (nmL2 i)), .lit (.string (rgL i))]) := rfl
theorem cells_tab : Tryd.prog.cellsOf 91 = 2 := by kernel_rfl
theorem cells_str : Tryd.prog.cellsOf 9 = 1 := by kernel_rfl
theorem fields_tab : ∃ f0 f1 : Field, Tryd.prog.underlying 91 = some (.struct #[f0, f1]) ∧ (f0.type = 9 ∧ f0.offset = 0) ∧ f1.type = 9 ∧ f1.offset = 1 := ⟨_, _, Tryd.underlying91, ⟨rfl, rfl⟩, rfl, rfl⟩
theorem mkS_of (s : ByteArray) (l : List UInt8) (h : s.data.toList = l) : s = mkS l := by
  subst h
  exact (Lib.mk_data s).symm

theorem tab_of {W : World} (h : laidMetH Tryd.prog laid1 W) : ltabAt W := by
  rw [MakeChecks.laidMetH_plain _ _ _ (by kernel_rfl)] at h
  unfold laid1 at h
  rw [tab_laid] at h
  obtain ⟨ps, ⟨g', t', cs, fuel, p, q, hg', ht', hvar, hd, _, _⟩, _⟩ := h
  obtain rfl := Option.some.inj (gTab.symm.trans hg')
  obtain rfl := Option.some.inj (tTab.symm.trans ht')
  obtain ⟨xs, m, _, hx, hl, hn, hel⟩ := DataW.trod_array Tryd.underlying92 hd
  rw [cells_tab] at hel
  have hxs : xs.map (·.1) = (List.range 12).map fun i => DataW.agg [.lit (.string (nmL2 i)), .lit (.string (rgL i))] := by
    have := congrArg Prod.fst hx
    simp only [DataW.agg.injEq] at this
    exact this.symm
  have key : ∀ i, i < 12 → cs[2 * i]? = some (.string (mkS (nmL2 i))) ∧ cs[2 * i + 1]? = some (.string (mkS (rgL i))) := by
    intro i hi
    obtain ⟨f0, f1, hu, ⟨ht0, ho0⟩, ht1, ho1⟩ := fields_tab
    have hy := hel i hi
    have hxi : i < xs.length := by omega
    rw [List.getElem?_eq_getElem hxi] at hy
    have h1 : (xs.map (·.1))[i]? = some (xs[i]).1 := by rw [List.getElem?_map, List.getElem?_eq_getElem hxi]; rfl
    rw [hxs, List.getElem?_map, List.getElem?_range hi] at h1
    simp only [Option.map_some, Option.some.injEq] at h1
    obtain ⟨y0, y1, k, hyx, hlen, t0, t1⟩ := trod_struct2 hu hy
    rw [ht0, ho0, cells_str] at t0
    rw [ht1, ho1, cells_str] at t1
    obtain ⟨s0, e0, rfl, _⟩ := DataW.trod_string Tryd.underlying9 t0
    obtain ⟨s1, e1, rfl, _⟩ := DataW.trod_string Tryd.underlying9 t1
    rw [hyx] at h1
    simp only [DataW.agg.injEq, List.cons.injEq, DataW.lit.injEq, Lit.string.injEq, and_true] at h1
    obtain ⟨h2, h3⟩ := h1
    have g0 := congrArg (fun l => l[0]?) e0
    have g1 := congrArg (fun l => l[0]?) e1
    simp only [List.getElem?_take, List.getElem?_drop, List.getElem?_cons_zero, Array.getElem?_toList] at g0 g1
    rw [mkS_of s0 _ h2.symm] at g0
    rw [mkS_of s1 _ h3.symm] at g1
    constructor
    · simpa [Nat.mul_comm] using g0
    · simpa [Nat.mul_comm] using g1
  intro j v hj
  have hj24 : j < 24 := by
    have := (Array.getElem?_eq_some_iff.1 hj).1
    exact this
  rw [World.var?_cell gTab hvar j]
  have hv : v = .string (mkS (tabS.getD j [])) := by
    unfold tabCells at hj
    rw [List.getElem?_toArray, List.getElem?_map] at hj
    have hlt : j < tabS.length := hj24
    rw [List.getElem?_eq_getElem hlt] at hj
    simp only [Option.map_some, Option.some.injEq] at hj
    rw [← hj]
    simp [List.getD, List.getElem?_eq_getElem hlt]
  subst hv
  by_cases he : j % 2 = 0
  · have := (key (j / 2) (by omega)).1
    have e : 2 * (j / 2) = j := by omega
    unfold nmL2 at this
    rw [e] at this
    exact this
  · have := (key (j / 2) (by omega)).2
    have e : 2 * (j / 2) + 1 = j := by omega
    unfold rgL at this
    rw [e] at this
    exact this

section
variable {H : Type} {enc : TypeId × Value → H} {W : World} {base : Nat} {sp : Nat → Bool} {hd : Bool}
theorem trod_struct6 {P : Program} {t : TypeId} {f0 f1 f2 f3 f4 f5 : Field} {fuel : Nat} {cs : List Value} {x : DataW H × List MemPlace} (ht : P.underlying t = some (.struct #[f0, f1, f2, f3, f4, f5])) (h : DataW.trod enc P W base sp hd fuel t cs = some x) :
    ∃ y0 y1 y2 y3 y4 y5 n, (DataW.trod enc P W base sp hd n f0.type ((cs.drop f0.offset).take (P.cellsOf f0.type)) = some y0 ∧ DataW.trod enc P W base sp hd n f1.type ((cs.drop f1.offset).take (P.cellsOf f1.type)) = some y1 ∧
      DataW.trod enc P W base sp hd n f2.type ((cs.drop f2.offset).take (P.cellsOf f2.type)) = some y2) ∧ DataW.trod enc P W base sp hd n f3.type ((cs.drop f3.offset).take (P.cellsOf f3.type)) = some y3 ∧
      DataW.trod enc P W base sp hd n f4.type ((cs.drop f4.offset).take (P.cellsOf f4.type)) = some y4 ∧ DataW.trod enc P W base sp hd n f5.type ((cs.drop f5.offset).take (P.cellsOf f5.type)) = some y5 := by
  obtain ⟨xs, n, _, rfl, hl, hlen, hf⟩ := DataW.trod_struct ht h
  match xs, hlen with
  | [y0, y1, y2, y3, y4, y5], _ => exact ⟨y0, y1, y2, y3, y4, y5, n, ⟨by simpa using hf 0 f0 rfl, by simpa using hf 1 f1 rfl, by simpa using hf 2 f2 rfl⟩, by simpa using hf 3 f3 rfl, by simpa using hf 4 f4 rfl, by simpa using hf 5 f5 rfl⟩
/-- A list of numbers that came in. -/
theorem open_SLi {fuel : Nat} {cs : List Value} {x : DataW H × List MemPlace} (h : DataW.trod enc Tryd.prog W base sp hd fuel 22 cs = some x) : ∃ sv n, ∃ f : Nat → Int, cs = [sv] ∧ SL 1 n (fun j _ => .int .i64 (f j)) W sv := by
  rcases Deep.open_slice1 Tryd.underlying22 (by kernel_rfl) h with ⟨rfl, _⟩ | ⟨a, len, cap, m, n, V, D, Pl, rfl, _, hl, _, hm, _, hx⟩
  · exact ⟨_, 0, fun _ => 0, rfl, SL_nil _ _ _⟩
  have hlm : len ≤ m := by rw [hm]; split <;> omega
  obtain ⟨f, hf⟩ := Deep.choose_lt (α := Int) (n := len) (p := fun i z => V i = .int .i64 z) (fun i hi => by
    obtain ⟨z, hz, _⟩ := DataW.trod_int Tryd.underlying3 (hx i (by omega)).2
    exact ⟨z, by simpa using hz⟩)
  refine ⟨_, len, f, rfl, some a, cap, rfl, hl, ?_⟩
  by_cases h0 : len = 0
  · exact .inl h0
  obtain ⟨b, off, spot⟩ := a
  have hc0 := (hx 0 (by omega)).1
  have hspot : spot = none := by simpa [Addr.add] using World.cell?_spot hc0
  subst hspot
  refine .inr ⟨b, off, rfl, World.block_lt_of_cell? W _ hc0, fun j i hj hi => ?_⟩
  obtain rfl : i = 0 := by omega
  have := (hx j (by omega)).1
  rw [add_off, hf j hj] at this
  simpa using this
theorem list2' {α : Type} (l : List α) (h : l.length = 2) : ∃ a b, l = [a, b] := by
  match l, h with
  | [a, b], _ => exact ⟨a, b, rfl⟩
theorem list5' {α : Type} (l : List α) (h : l.length = 5) : ∃ a b c d e, l = [a, b, c, d, e] := by
  match l, h with
  | [a, b, c, d, e], _ => exact ⟨a, b, c, d, e, rfl⟩
theorem list6' {α : Type} (l : List α) (h : l.length = 6) : ∃ a b c d e f, l = [a, b, c, d, e, f] := by
  match l, h with
  | [a, b, c, d, e, f], _ => exact ⟨a, b, c, d, e, f, rfl⟩
theorem cells_elm : Tryd.prog.cellsOf 68 = 2 := by kernel_rfl
theorem cells_class : Tryd.prog.cellsOf 81 = 5 := by kernel_rfl
theorem cells_cs : Tryd.prog.cellsOf 38 = 4 := by kernel_rfl
theorem cells_arr : Tryd.prog.cellsOf 36 = 4 := by kernel_rfl
theorem cells_wd : Tryd.prog.cellsOf 35 = 1 := by kernel_rfl
theorem cells_int : Tryd.prog.cellsOf 3 = 1 := by kernel_rfl
theorem fields_elm : ∃ f0 f1 : Field, Tryd.prog.underlying 68 = some (.struct #[f0, f1]) ∧ (f0.type = 9 ∧ f0.offset = 0) ∧ f1.type = 3 ∧ f1.offset = 1 := ⟨_, _, Tryd.underlying68, ⟨rfl, rfl⟩, rfl, rfl⟩
theorem fields_class : ∃ f0 f1 : Field, Tryd.prog.underlying 81 = some (.struct #[f0, f1]) ∧ (f0.type = 9 ∧ f0.offset = 0) ∧ f1.type = 38 ∧ f1.offset = 1 := ⟨_, _, Tryd.underlying81, ⟨rfl, rfl⟩, rfl, rfl⟩
theorem fields_set : ∃ f0 : Field, Tryd.prog.underlying 38 = some (.struct #[f0]) ∧ f0.type = 36 ∧ f0.offset = 0 := ⟨_, Tryd.underlying38, rfl, rfl⟩
theorem word_nat (x : Int) (h : (Lit.int .u64 x).wf = true) : ∃ n : Nat, x = (n : Int) ∧ n < 2 ^ 64 := by
  have hb := bounds_u64 h
  exact ⟨x.toNat, by omega, by omega⟩
theorem byte_nat (x : Int) (h : (Lit.int .u8 x).wf = true) : ∃ n : Nat, x = (n : Int) ∧ n < 256 := by
  have hb := bounds_u8 h
  exact ⟨x.toNat, by omega, by omega⟩
theorem open_words {fuel : Nat} {c0 c1 c2 c3 : Value} {y : DataW H × List MemPlace} (h : DataW.trod enc Tryd.prog W base sp hd fuel 38 [c0, c1, c2, c3] = some y) : ∃ P : Nat → Bool, [c0, c1, c2, c3] = (cl P).toList := by
  obtain ⟨f0, hu, hft, hfo⟩ := fields_set
  obtain ⟨y0, n, _, hl, hy⟩ := trod_struct1 hu h
  rw [hft, hfo, cells_arr] at hy
  have hy' : DataW.trod enc Tryd.prog W base sp hd n 36 [c0, c1, c2, c3] = some y0 := hy
  obtain ⟨z0, z1, z2, z3, m, hz, h0, h1, h2, h3⟩ := trod_array4 Tryd.underlying36 cells_wd hy'
  obtain ⟨x0, e0, rfl, w0⟩ := DataW.trod_int Tryd.underlying35 h0
  obtain ⟨x1, e1, rfl, w1⟩ := DataW.trod_int Tryd.underlying35 h1
  obtain ⟨x2, e2, rfl, w2⟩ := DataW.trod_int Tryd.underlying35 h2
  obtain ⟨x3, e3, rfl, w3⟩ := DataW.trod_int Tryd.underlying35 h3
  simp at e0 e1 e2 e3
  subst e0 e1 e2 e3
  obtain ⟨n0, rfl, l0⟩ := word_nat x0 w0
  obtain ⟨n1, rfl, l1⟩ := word_nat x1 w1
  obtain ⟨n2, rfl, l2⟩ := word_nat x2 w2
  obtain ⟨n3, rfl, l3⟩ := word_nat x3 w3
  refine ⟨toP n0 n1 n2 n3, ?_⟩
  unfold cl
  rw [toP0 n0 n1 n2 n3 l0, toP1 n0 n1 n2 n3 l1, toP2 n0 n1 n2 n3 l2, toP3 n0 n1 n2 n3 l3]
/-- Cells of an element by its place. -/
theorem elem_cell {b off k j : Nat} {cs : List Value} (h : W.cells? base ((⟨b, off, none⟩ : Addr).add (j * k)) k = some cs) (i : Nat) (hi : i < k) : W.cell? ⟨b, off + j * k + i, none⟩ = cs[i]? := by
  have h2 := (World.cells?_some h).2.2 i hi
  rwa [add_off, add_off] at h2
theorem elem_spot {a : Addr} {k : Nat} {cs : List Value} (hk : 0 < k) (h : W.cells? base (a.add (0 * k)) k = some cs) : a = ⟨a.block, a.off, none⟩ ∧ a.block < W.heap.size := by
  obtain ⟨_, hl, hc⟩ := World.cells?_some h
  have h0 := hc 0 hk
  have hlt : 0 < cs.length := by omega
  rw [List.getElem?_eq_getElem hlt] at h0
  have e : (a.add (0 * k)).add 0 = a := by simp [Addr.add]
  rw [e] at h0
  have hs := World.cell?_spot h0
  refine ⟨?_, World.block_lt_of_cell? W _ h0⟩
  obtain ⟨b, o, s⟩ := a
  simp only at hs
  rw [hs]
theorem open_SLe {fuel : Nat} {cs : List Value} {x : DataW H × List MemPlace} (h : DataW.trod enc Tryd.prog W base sp hd fuel 24 cs = some x) : ∃ sv n, ∃ t : Nat → ByteArray, ∃ z : Nat → Int, cs = [sv] ∧ SL 2 n (fun j i => if i = 0 then .string (t j) else .int .i64 (z j)) W sv := by
  rcases Deep.open_slice Tryd.underlying24 h with ⟨rfl, _⟩ | ⟨a, len, cap, m, n, D, Pl, rfl, _, hl, _, hm, _, hx⟩
  · exact ⟨_, 0, fun _ => ⟨#[]⟩, fun _ => 0, rfl, SL_nil _ _ _⟩
  rw [cells_elm] at hx
  have hlm : len ≤ m := by rw [hm]; split <;> omega
  obtain ⟨f, hf⟩ := Deep.choose_lt (α := ByteArray × Int) (n := len) (p := fun i tz => W.cells? base (a.add (i * 2)) 2 = some [.string tz.1, .int .i64 tz.2]) (fun i hi => by
    obtain ⟨cs', h1, h2⟩ := hx i (by omega)
    obtain ⟨c0, c1, rfl⟩ := list2' cs' (World.cells?_some h1).2.1
    obtain ⟨f0, f1, hu, ⟨ht0, ho0⟩, ht1, ho1⟩ := fields_elm
    obtain ⟨y0, y1, k, _, _, t0, t1⟩ := trod_struct2 hu h2
    rw [ht0, ho0, cells_str] at t0
    rw [ht1, ho1, cells_int] at t1
    obtain ⟨s0, e0, _, _⟩ := DataW.trod_string Tryd.underlying9 t0
    obtain ⟨z, e1, _, _⟩ := DataW.trod_int Tryd.underlying3 t1
    simp at e0 e1
    exact ⟨(s0, z), by rw [h1, e0, e1]⟩)
  refine ⟨_, len, fun j => (f j).1, fun j => (f j).2, rfl, some a, cap, rfl, hl, ?_⟩
  by_cases h0 : len = 0
  · exact .inl h0
  obtain ⟨ha, hlt⟩ := elem_spot (k := 2) (by decide) (hf 0 (by omega))
  obtain ⟨b, off, spot⟩ := a
  simp only [Addr.mk.injEq, true_and] at ha
  subst ha
  refine .inr ⟨b, off, rfl, hlt, fun j i hj hi => ?_⟩
  rw [elem_cell (hf j hj) i hi]
  have : i = 0 ∨ i = 1 := by omega
  rcases this with rfl | rfl <;> rfl
theorem open_SLc {fuel : Nat} {cs : List Value} {x : DataW H × List MemPlace} (h : DataW.trod enc Tryd.prog W base sp hd fuel 23 cs = some x) : ∃ sv n, ∃ t : Nat → ByteArray, ∃ z : Nat → Nat → Bool, cs = [sv] ∧ SL 5 n (fun j i => if i = 0 then .string (t j) else .int .u64 ((wd (z j) (64 * (i - 1)) 64 : Nat) : Int)) W sv := by
  rcases Deep.open_slice Tryd.underlying23 h with ⟨rfl, _⟩ | ⟨a, len, cap, m, n, D, Pl, rfl, _, hl, _, hm, _, hx⟩
  · exact ⟨_, 0, fun _ => ⟨#[]⟩, fun _ _ => false, rfl, SL_nil _ _ _⟩
  rw [cells_class] at hx
  have hlm : len ≤ m := by rw [hm]; split <;> omega
  obtain ⟨f, hf⟩ := Deep.choose_lt (α := ByteArray × (Nat → Bool)) (n := len) (p := fun i tz => W.cells? base (a.add (i * 5)) 5 = some (.string tz.1 :: (cl tz.2).toList)) (fun i hi => by
    obtain ⟨cs', h1, h2⟩ := hx i (by omega)
    obtain ⟨c0, c1, c2, c3, c4, rfl⟩ := list5' cs' (World.cells?_some h1).2.1
    obtain ⟨f0, f1, hu, ⟨ht0, ho0⟩, ht1, ho1⟩ := fields_class
    obtain ⟨y0, y1, k, _, _, t0, t1⟩ := trod_struct2 hu h2
    rw [ht0, ho0, cells_str] at t0
    rw [ht1, ho1, cells_cs] at t1
    obtain ⟨s0, e0, _, _⟩ := DataW.trod_string Tryd.underlying9 t0
    obtain ⟨P, hP⟩ := open_words (c0 := c1) (c1 := c2) (c2 := c3) (c3 := c4) (by simpa using t1)
    simp at e0
    exact ⟨(s0, P), by rw [h1, e0, hP]⟩)
  refine ⟨_, len, fun j => (f j).1, fun j => (f j).2, rfl, some a, cap, rfl, hl, ?_⟩
  by_cases h0 : len = 0
  · exact .inl h0
  obtain ⟨ha, hlt⟩ := elem_spot (k := 5) (by decide) (hf 0 (by omega))
  obtain ⟨b, off, spot⟩ := a
  simp only [Addr.mk.injEq, true_and] at ha
  subst ha
  refine .inr ⟨b, off, rfl, hlt, fun j i hj hi => ?_⟩
  rw [elem_cell (hf j hj) i hi]
  have : i = 0 ∨ i = 1 ∨ i = 2 ∨ i = 3 ∨ i = 4 := by omega
  rcases this with rfl | rfl | rfl | rfl | rfl <;> rfl
theorem cells_loc : Tryd.prog.cellsOf 26 = 6 := by kernel_rfl
theorem cells_si : Tryd.prog.cellsOf 22 = 1 := by kernel_rfl
theorem cells_sc : Tryd.prog.cellsOf 23 = 1 := by kernel_rfl
theorem cells_se : Tryd.prog.cellsOf 24 = 1 := by kernel_rfl
theorem fields_loc : ∃ f0 f1 f2 f3 f4 f5 : Field, Tryd.prog.underlying 26 = some (.struct #[f0, f1, f2, f3, f4, f5]) ∧ ((f0.type = 9 ∧ f0.offset = 0) ∧ (f1.type = 22 ∧ f1.offset = 1) ∧ (f2.type = 9 ∧ f2.offset = 2)) ∧ (f3.type = 9 ∧ f3.offset = 3) ∧ (f4.type = 23 ∧ f4.offset = 4) ∧ f5.type = 24 ∧ f5.offset = 5 :=
  ⟨_, _, _, _, _, _, Tryd.underlying26, ⟨⟨rfl, rfl⟩, ⟨rfl, rfl⟩, ⟨rfl, rfl⟩⟩, ⟨rfl, rfl⟩, ⟨rfl, rfl⟩, rfl, rfl⟩
/-- A locale that came in, as the walks want it. -/
theorem open_loc {v : Value} {b0 : Nat} {d : DataW H} {p : List MemPlace} (hv : Value.okWide Tryd.prog W .any b0 26 v)
    (h : DataW.Trod enc Tryd.prog W base sp hd 26 v d p) : ∃ (L : Loc) (Wv Cv Ev : Value), v = .agg (lcl L Wv Cv Ev) ∧ LocM W L Wv Cv Ev := by
  obtain ⟨f0, f1, f2, f3, f4, f5, hu, ⟨⟨a0, o0⟩, ⟨a1, o1⟩, ⟨a2, o2⟩⟩, ⟨a3, o3⟩, ⟨a4, o4⟩, a5, o5⟩ := fields_loc
  obtain ⟨cells, rfl, hsz⟩ := okWide_struct hu hv
  rw [cells_loc] at hsz
  obtain ⟨l⟩ := cells
  obtain ⟨c0, c1, c2, c3, c4, c5, rfl⟩ := list6' l (by simpa using hsz)
  obtain ⟨fuel, hf⟩ := h
  have hf' : DataW.trod enc Tryd.prog W base sp hd fuel 26 [c0, c1, c2, c3, c4, c5] = some (d, p) := hf
  obtain ⟨y0, y1, y2, y3, y4, y5, n, ⟨t0, t1, t2⟩, t3, t4, t5⟩ := trod_struct6 hu hf'
  rw [a0, o0, cells_str] at t0
  rw [a1, o1, cells_si] at t1
  rw [a2, o2, cells_str] at t2
  rw [a3, o3, cells_str] at t3
  rw [a4, o4, cells_sc] at t4
  rw [a5, o5, cells_se] at t5
  obtain ⟨s0, e0, _, _⟩ := DataW.trod_string Tryd.underlying9 t0
  obtain ⟨s2, e2, _, _⟩ := DataW.trod_string Tryd.underlying9 t2
  obtain ⟨s3, e3, _, _⟩ := DataW.trod_string Tryd.underlying9 t3
  obtain ⟨Wv, nw, wt, e1, hW⟩ := open_SLi t1
  obtain ⟨Cv, nc, cn, cz, e4, hC⟩ := open_SLc t4
  obtain ⟨Ev, ne, et, ew, e5, hE⟩ := open_SLe t5
  simp at e0 e1 e2 e3 e4 e5
  subst e0 e1 e2 e3 e4 e5
  exact ⟨{ name := s0, lower := s2, upper := s3, nw := nw, wt := wt, nc := nc, cn := cn, cset := cz, ne := ne, et := et, ew := ew }, _, _, _, rfl, hW, hC, hE⟩
end
end Go.Proofs.YtblaldcioneooaaDoor
