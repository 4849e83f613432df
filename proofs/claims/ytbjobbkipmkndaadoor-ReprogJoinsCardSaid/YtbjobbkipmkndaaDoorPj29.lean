/- RtFrame, RpFrame, RpFrameW. -/
import Derived.Test.YtbjobbkipmkndaaDoorPj9
import Derived.WalkKit
import Derived.ProofKit
import Derived.OpenShut
import Derived.Lay
import Derived.LaidMore
import Derived.LaidLaws
import Derived.SizedLaws
import Derived.Laws.IdiomArrays
import Derived.Lib.LaidTab
import Derived.Deep.DeepHandedRow
import Derived.SliceStrings
import Derived.Deep.Slices
import Derived.Test.YtbjobbkipmkndaaDoorPj23
import Derived.Deep.Strs
import Derived.Test.YtbjobbkipmkndaaDoorPj15
set_option linter.unusedVariables false
set_option maxRecDepth 100000
namespace Go.Proofs.YtbjobbkipmkndaaDoor
open Go.ChangeShapes Go.WideShapes Go.ChangeAt Go.RowKit
theorem witness_rowS {H : Type} {enc : TypeId × Value → H} {C : Checked} {os : Os} {f : FuncId} {fn : Func} {s : OpenSpec} {conds : List PathCond} {apart : Bool} {laid : List (String × DataW Unit)} (modest : Bool) (w0 : World) (args : Array Value) (hos : w0.os = os)
    (hsh : (w0.forCall (fun _ _ => 0) ⟨#[], args, []⟩).Shaped C.prog)
    (hok : Input.okWideB C.prog (w0.forCall (fun _ _ => 0) ⟨#[], args, []⟩) f ⟨#[], args, []⟩ = true)
    (hrow : s.preRow enc C.prog fn conds apart laid (w0.forCall (fun _ _ => 0) ⟨#[], args, []⟩).memory args) :
    ∃ (w : World) (tape : Tape) (i : Input), w.os = os ∧ (w.forCall tape i).Shaped C.prog ∧ i.vars = [] ∧ Input.okWide C.prog (w.forCall tape i) .any w.heap.size f i ∧
      s.preRow enc C.prog fn conds apart laid (w.forCall tape i).memory i.args ∧ ({ modest := modest } : Assume).holds C.prog (lone (Frame.enter C.prog f i.args .normal) [] (w.forCall tape i)) :=
  ⟨w0, fun _ _ => 0, ⟨#[], args, []⟩, hos, hsh, (Input.okWide_of_okWideB (base := 0) hok).1, (Input.okWide_of_okWideB hok).2, hrow, by
    simp only [Assume.holds]
    exact ⟨by simp, by simp, fun _ => Modest.zero, by simp, by simp⟩⟩
theorem add_off (b o j : Nat) : (⟨b, o, none⟩ : Addr).add j = ⟨b, o + j, none⟩ := by unfold Addr.add; split <;> simp_all
namespace Tree
theorem list6' {α : Type} (l : List α) (h : l.length = 6) : ∃ a b c d e f, l = [a, b, c, d, e, f] := by
  match l, h with
  | [a, b, c, d, e, f], _ => exact ⟨a, b, c, d, e, f, rfl⟩
theorem cells_cs : Tryd.prog.cellsOf 31 = 4 := by kernel_rfl
theorem cells_arr : Tryd.prog.cellsOf 29 = 4 := by kernel_rfl
theorem cells_wd : Tryd.prog.cellsOf 28 = 1 := by kernel_rfl
theorem cells_int : Tryd.prog.cellsOf 3 = 1 := by kernel_rfl
theorem fieldsS : ∃ f0 : Field, Tryd.prog.underlying 31 = some (.struct #[f0]) ∧ f0.type = 29 ∧ f0.offset = 0 := ⟨_, Tryd.underlying31, rfl, rfl⟩
theorem word_nat (x : Int) (h : (Lit.int .u64 x).wf = true) : ∃ n : Nat, x = (n : Int) ∧ n < 2 ^ 64 := by
  have hb := bounds_u64 h
  exact ⟨x.toNat, by omega, by omega⟩
def Std (w : World) : Nat → Prop := fun b => b < w.heap.size
theorem cells_re : Tryd.prog.cellsOf 34 = 9 := by kernel_rfl
theorem cells_sre : Tryd.prog.cellsOf 32 = 1 := by kernel_rfl
theorem fieldsR : ∃ f0 f1 f2 f3 f4 f5 : Field, Tryd.prog.underlying 34 = some (.struct #[f0, f1, f2, f3, f4, f5]) ∧ ((f0.type = 3 ∧ f0.offset = 0) ∧ (f1.type = 31 ∧ f1.offset = 1) ∧ (f2.type = 3 ∧ f2.offset = 5)) ∧ (f3.type = 3 ∧ f3.offset = 6) ∧ (f4.type = 3 ∧ f4.offset = 7) ∧ f5.type = 32 ∧ f5.offset = 8 :=
  ⟨_, _, _, _, _, _, Tryd.underlying34, ⟨⟨rfl, rfl⟩, ⟨rfl, rfl⟩, ⟨rfl, rfl⟩⟩, ⟨rfl, rfl⟩, ⟨rfl, rfl⟩, rfl, rfl⟩
theorem list9' {α : Type} (l : List α) (h : l.length = 9) : ∃ a b c d e f g i j, l = [a, b, c, d, e, f, g, i, j] := by
  match l, h with
  | [a, b, c, d, e, f, g, i, j], _ => exact ⟨a, b, c, d, e, f, g, i, j, rfl⟩
theorem flat_at {n k : Nat} {R : Nat → List Value} (hR : ∀ i, i < n → (R i).length = k) (hk : 0 < k) : ∀ j u, ((List.range n).flatMap R)[j]? = some u → j / k < n ∧ (R (j / k))[j % k]? = some u := by
  induction n generalizing R with
  | zero => intro j u h; simp at h
  | succ n ih =>
    intro j u h
    rw [List.range_succ_eq_map, List.flatMap_cons, List.flatMap_map] at h
    by_cases hj : j < k
    · rw [List.getElem?_append_left (by rw [hR 0 (by omega)]; exact hj)] at h
      rw [Nat.div_eq_of_lt hj, Nat.mod_eq_of_lt hj]
      exact ⟨by omega, h⟩
    · rw [List.getElem?_append_right (by rw [hR 0 (by omega)]; omega), hR 0 (by omega)] at h
      obtain ⟨h1, h2⟩ := ih (R := fun i => R (i + 1)) (fun i hi => hR (i + 1) (by omega)) _ _ h
      have e : j / k = (j - k) / k + 1 := by
        rw [← Nat.sub_add_cancel (Nat.le_of_not_lt hj), Nat.add_div_right _ hk]
        simp
      have e2 : j % k = (j - k) % k := (Nat.mod_eq_sub_mod (Nat.le_of_not_lt hj))
      rw [e, e2]
      exact ⟨by omega, h2⟩
section
variable {H : Type} {enc : TypeId × Value → H} {W : World} {base : Nat} {sp : Nat → Bool} {hd : Bool}
theorem open_words {fuel : Nat} {c0 c1 c2 c3 : Value} {y : DataW H × List MemPlace} (h : DataW.trod enc Tryd.prog W base sp hd fuel 31 [c0, c1, c2, c3] = some y) : ∃ P : Nat → Bool, [c0, c1, c2, c3] = (cl P).toList := by
  obtain ⟨f0, hu, hft, hfo⟩ := fieldsS
  obtain ⟨y0, n, _, hl, hy⟩ := trod_struct1 hu h
  rw [hft, hfo, cells_arr] at hy
  have hy' : DataW.trod enc Tryd.prog W base sp hd n 29 [c0, c1, c2, c3] = some y0 := hy
  obtain ⟨z0, z1, z2, z3, m, hz, h0, h1, h2, h3⟩ := trod_array4 Tryd.underlying29 cells_wd hy'
  obtain ⟨x0, e0, rfl, w0⟩ := DataW.trod_int Tryd.underlying28 h0
  obtain ⟨x1, e1, rfl, w1⟩ := DataW.trod_int Tryd.underlying28 h1
  obtain ⟨x2, e2, rfl, w2⟩ := DataW.trod_int Tryd.underlying28 h2
  obtain ⟨x3, e3, rfl, w3⟩ := DataW.trod_int Tryd.underlying28 h3
  simp at e0 e1 e2 e3
  subst e0 e1 e2 e3
  obtain ⟨n0, rfl, l0⟩ := word_nat x0 w0
  obtain ⟨n1, rfl, l1⟩ := word_nat x1 w1
  obtain ⟨n2, rfl, l2⟩ := word_nat x2 w2
  obtain ⟨n3, rfl, l3⟩ := word_nat x3 w3
  refine ⟨toP n0 n1 n2 n3, ?_⟩
  unfold cl
  rw [toP0 n0 n1 n2 n3 l0, toP1 n0 n1 n2 n3 l1, toP2 n0 n1 n2 n3 l2, toP3 n0 n1 n2 n3 l3]
theorem elem_cell {b off k j : Nat} {cs : List Value} (h : W.cells? base ((⟨b, off, none⟩ : Addr).add (j * k)) k = some cs) (i : Nat) (hi : i < k) : W.cell? ⟨b, off + j * k + i, none⟩ = cs[i]? := by
  have h2 := (World.cells?_some h).2.2 i hi
  rwa [add_off, add_off] at h2
theorem elem_spot {a : Addr} {k : Nat} {cs : List Value} (hk : 0 < k) (h : W.cells? base (a.add (0 * k)) k = some cs) : a = ⟨a.block, a.off, none⟩ ∧ a.block < W.heap.size := by
  obtain ⟨_, hl, hc⟩ := World.cells?_some h
  have h0 := hc 0 hk
  have hlt : 0 < cs.length := by omega
  rw [List.getElem?_eq_getElem hlt] at h0
  have e : (a.add (0 * k)).add 0 = a := by simp [Addr.add]
  rw [e] at h0
  have hs := World.cell?_spot h0
  refine ⟨?_, World.block_lt_of_cell? W _ h0⟩
  obtain ⟨b, o, s⟩ := a
  simp only at hs
  rw [hs]
end
end Tree
theorem ti_of {W : World} {v : Value} {t : TN} (h : TV W (Tree.Std W) t v) (hf : (F.cons t.op t.st t.lo t.hi t.g t.args .nil).fits) : ∃ sv, v = .agg (rowV t.op t.st t.lo t.hi t.g sv).toArray ∧ TI W t sv := by
  obtain ⟨sv, rfl, hs⟩ := h
  exact ⟨sv, rfl, _, hs, fun b hb => hb, ⟨hf.2.1, hf.2.2.1⟩, hf.1.2.2.2⟩
end Go.Proofs.YtbjobbkipmkndaaDoor
set_option linter.unusedVariables false
set_option maxRecDepth 100000
namespace Go.Proofs.YtbjobbkipmkndaaDoor
open Go.ChangeShapes Go.WideShapes Go.ChangeAt Go.RowKit
def kdName : String := Rows.reprogValidRow.named.headD ""
def laidK : List (String × DataW Unit) := [(kdName, Rows.laid_texttools_reprog_kinds)]
theorem gKd : Tryd.prog.globalNamed kdName = some 0 := by kernel_rfl
theorem tKd : (Tryd.prog.globals[0]?).map (·.type) = some 65 := by kernel_rfl
theorem kd_laid : (Rows.laid_texttools_reprog_kinds : DataW Unit) = .agg ((List.range 6).map fun i => .agg [.lit (.string (kwd (i + 1 : Nat))), .lit (.int .i64 (ktg (i + 1 : Nat) : Nat)), .lit (.bool (kgo (i + 1 : Nat)))]) := rfl
theorem cells_kd : Tryd.prog.cellsOf 48 = 3 := by kernel_rfl
theorem cells_kstr : Tryd.prog.cellsOf 9 = 1 := by kernel_rfl
theorem cells_kint : Tryd.prog.cellsOf 3 = 1 := by kernel_rfl
theorem cells_kbool : Tryd.prog.cellsOf 4 = 1 := by kernel_rfl
theorem fields_kd : ∃ f0 f1 f2 : Field, Tryd.prog.underlying 48 = some (.struct #[f0, f1, f2]) ∧ (f0.type = 9 ∧ f0.offset = 0) ∧ (f1.type = 3 ∧ f1.offset = 1) ∧ f2.type = 4 ∧ f2.offset = 2 := ⟨_, _, _, Tryd.underlying48, ⟨rfl, rfl⟩, ⟨rfl, rfl⟩, rfl, rfl⟩
theorem bs_of (s : ByteArray) (l : List UInt8) (h : s.data.toList = l) : s = bs l := by
  subst h
  rfl
theorem kind_cells {W : World} {cs : Array Value} {H : Type} {enc : TypeId × Value → H} {base : Nat} {sp : Nat → Bool} {hd' : Bool} {fuel : Nat} {p : List MemPlace}
    (hd : DataW.trod enc Tryd.prog W base sp hd' fuel 65 cs.toList = some (.agg ((List.range 6).map fun i => .agg [.lit (.string (kwd (i + 1 : Nat))), .lit (.int .i64 (ktg (i + 1 : Nat) : Nat)), .lit (.bool (kgo (i + 1 : Nat)))]), p)) :
    ∀ (j : Nat) v, kindCells[j]? = some v → cs[j]? = some v := by
  obtain ⟨xs, m, _, hx, hl, hn, hel⟩ := DataW.trod_array Tryd.underlying65 hd
  rw [cells_kd] at hel
  have hxs : xs.map (·.1) = (List.range 6).map fun i => DataW.agg [.lit (.string (kwd (i + 1 : Nat))), .lit (.int .i64 (ktg (i + 1 : Nat) : Nat)), .lit (.bool (kgo (i + 1 : Nat)))] := by
    have := congrArg Prod.fst hx
    simp only [DataW.agg.injEq] at this
    exact this.symm
  have key : ∀ i, i < 6 → cs[3 * i]? = some (.string (bs (kwd (i + 1 : Nat)))) ∧ cs[3 * i + 1]? = some (.int .i64 (ktg (i + 1 : Nat) : Nat)) ∧ cs[3 * i + 2]? = some (.bool (kgo (i + 1 : Nat))) := by
    intro i hi
    obtain ⟨f0, f1, f2, hu, ⟨ht0, ho0⟩, ⟨ht1, ho1⟩, ht2, ho2⟩ := fields_kd
    have hy := hel i hi
    have hxi : i < xs.length := by omega
    rw [List.getElem?_eq_getElem hxi] at hy
    have h1 : (xs.map (·.1))[i]? = some (xs[i]).1 := by rw [List.getElem?_map, List.getElem?_eq_getElem hxi]; rfl
    rw [hxs, List.getElem?_map, List.getElem?_range hi] at h1
    simp only [Option.map_some, Option.some.injEq] at h1
    obtain ⟨y0, y1, y2, k, hyx, hlen, t0, t1, t2⟩ := Deep.trod_struct3 hu hy
    rw [ht0, ho0, cells_kstr] at t0
    rw [ht1, ho1, cells_kint] at t1
    rw [ht2, ho2, cells_kbool] at t2
    obtain ⟨s0, e0, rfl, _⟩ := DataW.trod_string Tryd.underlying9 t0
    obtain ⟨z1, e1, rfl, _⟩ := DataW.trod_int Tryd.underlying3 t1
    obtain ⟨b2, e2, rfl, _⟩ := DataW.trod_bool Tryd.underlying4 t2
    rw [hyx] at h1
    simp only [DataW.agg.injEq, List.cons.injEq, DataW.lit.injEq, Lit.string.injEq, Lit.int.injEq, Lit.bool.injEq, and_true, true_and] at h1
    obtain ⟨h2, h3, h4⟩ := h1
    have g0 := congrArg (fun l => l[0]?) e0
    have g1 := congrArg (fun l => l[0]?) e1
    have g2 := congrArg (fun l => l[0]?) e2
    simp only [List.getElem?_take, List.getElem?_drop, List.getElem?_cons_zero, Array.getElem?_toList] at g0 g1 g2
    rw [bs_of s0 _ h2.symm] at g0
    rw [← h3] at g1
    rw [← h4] at g2
    refine ⟨?_, ?_, ?_⟩
    · simpa [Nat.mul_comm] using g0
    · simpa [Nat.mul_comm] using g1
    · simpa [Nat.mul_comm] using g2
  intro j v hj
  have hj18 : j < 18 := by
    have h1 := (List.getElem?_eq_some_iff.1 hj).1
    have h2 : kindCells.length = 18 := rfl
    omega
  have hall : ∀ i, i < 6 → kindCells[3 * i]? = some (.string (bs (kwd (i + 1 : Nat)))) ∧ kindCells[3 * i + 1]? = some (.int .i64 (ktg (i + 1 : Nat) : Nat)) ∧ kindCells[3 * i + 2]? = some (.bool (kgo (i + 1 : Nat))) := by
    intro i hi
    have : i = 0 ∨ i = 1 ∨ i = 2 ∨ i = 3 ∨ i = 4 ∨ i = 5 := by omega
    rcases this with rfl | rfl | rfl | rfl | rfl | rfl <;> exact ⟨rfl, rfl, rfl⟩
  have hm : j % 3 = 0 ∨ j % 3 = 1 ∨ j % 3 = 2 := by omega
  obtain ⟨k0, k1, k2⟩ := key (j / 3) (by omega)
  obtain ⟨l0, l1, l2⟩ := hall (j / 3) (by omega)
  rcases hm with hm | hm | hm
  · have e : 3 * (j / 3) = j := by omega
    rw [e] at k0 l0
    rw [k0, ← l0, hj]
  · have e : 3 * (j / 3) + 1 = j := by omega
    rw [e] at k1 l1
    rw [k1, ← l1, hj]
  · have e : 3 * (j / 3) + 2 = j := by omega
    rw [e] at k2 l2
    rw [k2, ← l2, hj]
theorem kt_of {W : World} (h : laidMetH Tryd.prog laidK W) : KT W := by
  rw [MakeChecks.laidMetH_plain _ _ _ (by kernel_rfl)] at h
  unfold laidK at h
  rw [kd_laid] at h
  obtain ⟨ps, ⟨g', t', cs, fuel, p, q, hg', ht', hvar, hd, _, _⟩, _⟩ := h
  obtain rfl := Option.some.inj (gKd.symm.trans hg')
  obtain rfl := Option.some.inj (tKd.symm.trans ht')
  intro j v hj
  rw [World.var?_cell gKd hvar j]
  exact kind_cells hd j v hj
end Go.Proofs.YtbjobbkipmkndaaDoor
set_option linter.unusedVariables false
set_option maxRecDepth 100000
namespace Go.Proofs.YtbjobbkipmkndaaDoor
open Go.ChangeShapes Go.WideShapes Go.ChangeAt Go.RowKit
def shN (a : F) : Prop := a.len ≤ 1599289640354 ∧ shF a
theorem FV.joinW {w : World} {S : Nat → Prop} {n : Nat} {R : Nat → List Value} (h : ∀ i, i < n → ∃ o s l g' g a sv, R i = rowV o s l g' g sv ∧ SV w S a sv ∧ (F.cons o s l g' g a .nil).fits ∧ shN a) : ∃ f zs, FV w S f zs ∧ f.len = n ∧ f.fits ∧ zs = (List.range n).flatMap R ∧ shF f := by
  induction n generalizing R with
  | zero => exact ⟨.nil, [], rfl, rfl, trivial, rfl, trivial⟩
  | succ n ih =>
    obtain ⟨o, s, l, g', g, a, sv, e, hs, hf, hb⟩ := h 0 (by omega)
    obtain ⟨f, zs, hv, hl, hft, hz, hbk⟩ := ih (R := fun i => R (i + 1)) (fun i hi => h (i + 1) (by omega))
    refine ⟨.cons o s l g' g a f, rowV o s l g' g sv ++ zs, FV.cons.2 ⟨sv, zs, rfl, hs, hv⟩, ?_, ⟨hf.1, hf.2.1, hf.2.2.1, hft⟩, ?_, ⟨hb.1, hb.2, hbk⟩⟩
    · show f.len + 1 = n + 1
      rw [hl]
    · rw [List.range_succ_eq_map, List.flatMap_cons, List.flatMap_map, e, hz]
theorem weightsAll_mem {H : Type} {P : Program} {e : TypeId} : ∀ {ds : List (DataW H)} {i : Nat} {d : DataW H}, ds[i]? = some d → ∀ n ∈ d.weights P e, n ∈ DataW.weightsAll P e ds
  | [], i, d, h, _, _ => by cases h
  | d0 :: ds, 0, d, h, n, hn => by
    obtain rfl := Option.some.inj h
    simp only [DataW.weightsAll, List.mem_append]
    exact .inl hn
  | d0 :: ds, i + 1, d, h, n, hn => by
    simp only [DataW.weightsAll, List.mem_append]
    exact .inr (weightsAll_mem (ds := ds) (i := i) h n hn)
namespace Tree
theorem bytes_re : Tryd.prog.bytesOf 34 = 88 := by kernel_rfl
section
variable {H : Type} {enc : TypeId × Value → H} {W : World} {base : Nat} {sp : Nat → Bool} {hd : Bool}
theorem open_rowW (fuel : Nat) : ∀ {cs : List Value} {x : DataW H × List MemPlace}, cs.length = 9 → (∀ k ∈ x.1.weights Tryd.prog 34, k ≤ reachBytes) → DataW.trod enc Tryd.prog W base sp hd fuel 34 cs = some x →
    ∃ o s l g' g a sv, cs = rowV o s l g' g sv ∧ SV W (Std W) a sv ∧ (F.cons o s l g' g a .nil).fits ∧ shN a := by
  induction fuel using Nat.strongRecOn with
  | ind fuel ih =>
  intro cs x hl9 hw h
  obtain ⟨f0, f1, f2, f3, f4, f5, hu, ⟨⟨a0, o0⟩, ⟨a1, o1⟩, ⟨a2, o2⟩⟩, ⟨a3, o3⟩, ⟨a4, o4⟩, a5, o5⟩ := fieldsR
  obtain ⟨c0, c1, c2, c3, c4, c5, c6, c7, c8, rfl⟩ := list9' cs hl9
  obtain ⟨xs, n, rfl, hxe, hl, hlen, hf⟩ := DataW.trod_struct hu h
  obtain ⟨y0, y1, y2, y3, y4, y5, rfl⟩ := list6' xs (by simpa using hlen)
  have t0 := hf 0 f0 rfl
  have t1 := hf 1 f1 rfl
  have t2 := hf 2 f2 rfl
  have t3 := hf 3 f3 rfl
  have t4 := hf 4 f4 rfl
  have t5 := hf 5 f5 rfl
  rw [a0, o0, cells_int] at t0
  rw [a1, o1, cells_cs] at t1
  rw [a2, o2, cells_int] at t2
  rw [a3, o3, cells_int] at t3
  rw [a4, o4, cells_int] at t4
  rw [a5, o5, cells_sre] at t5
  obtain ⟨z0, e0, _, w0⟩ := DataW.trod_int Tryd.underlying3 (by simpa using t0)
  obtain ⟨z2, e2, _, w2⟩ := DataW.trod_int Tryd.underlying3 (by simpa using t2)
  obtain ⟨z3, e3, _, w3⟩ := DataW.trod_int Tryd.underlying3 (by simpa using t3)
  obtain ⟨z4, e4, _, w4⟩ := DataW.trod_int Tryd.underlying3 (by simpa using t4)
  obtain ⟨P, hP⟩ := open_words (c0 := c1) (c1 := c2) (c2 := c3) (c3 := c4) (by simpa using t1)
  simp only [List.cons.injEq, and_true] at e0 e2 e3 e4
  subst e0 e2 e3 e4
  have b0 := bounds_i64 w0
  have b2 := bounds_i64 w2
  have b3 := bounds_i64 w3
  have b4 := bounds_i64 w4
  have hc : [Value.int .i64 z0, c1, c2, c3, c4, .int .i64 z2, .int .i64 z3, .int .i64 z4, c8] = rowV z0 P z2 z3 z4 c8 := by
    have hP' : [c1, c2, c3, c4] = (cl P).toList := hP
    unfold cl at hP'
    simp only [List.cons.injEq, and_true] at hP'
    obtain ⟨p1, p2, p3, p4⟩ := hP'
    subst p1 p2 p3 p4
    rfl
  have t5' : DataW.trod enc Tryd.prog W base sp hd n 32 [c8] = some y5 := by simpa using t5
  rcases DataW.trod_slice Tryd.underlying32 t5' with ⟨e, _⟩ | ⟨ad, len, cap, elems, rest, m, rfl, e, hy5, hb, hle, hcap, hel, hx, _, _⟩
  · obtain rfl : c8 = .slice none 0 0 := by simpa using e
    exact ⟨z0, P, z2, z3, z4, .nil, _, hc, SV.nil _ _, ⟨⟨by omega, by omega, by omega, by omega⟩, Nat.zero_le _, trivial, trivial⟩, Nat.zero_le _, trivial⟩
  · obtain rfl : c8 = .slice (some ad) len cap := by simpa using e
    rw [cells_re] at hx
    have hw5 : ∀ k ∈ y5.1.weights Tryd.prog 32, k ≤ reachBytes := fun k hk => by
      refine hw k ?_
      rw [hxe]
      simp only [DataW.weights, hu]
      exact DataW.weights_mem_each (j := 5) (t := 32) (d := y5.1) (by simp [a5]) (by simp) k hk
    rw [hy5] at hw5
    simp only [DataW.weights, Tryd.underlying32, bytes_re] at hw5
    have hsz : len ≤ 1599289640354 := by
      have h0 := hw5 _ (List.mem_cons_self ..)
      have h1 : reachBytes = 140737488351232 := rfl
      rw [h1] at h0
      simp only [List.length_map] at h0
      omega
    have hwe : ∀ (i : Nat) (y : DataW H × List MemPlace), elems[i]? = some y → ∀ k ∈ y.1.weights Tryd.prog 34, k ≤ reachBytes := fun i y hy k hk => hw5 k (List.mem_cons_of_mem _ (List.mem_append_left _ (weightsAll_mem (i := i) (d := y.1) (by rw [List.getElem?_map, hy]; rfl) k hk)))
    have hrow : ∀ i, i < len → ∃ cs', W.cells? base (ad.add (i * 9)) 9 = some cs' ∧ ∃ o s l g' g a sv, cs' = rowV o s l g' g sv ∧ SV W (Std W) a sv ∧ (F.cons o s l g' g a .nil).fits ∧ shN a := by
      intro i hi
      have h1 := hx i hi
      have hie : i < elems.length := by omega
      rw [List.getElem?_eq_getElem hie] at h1
      obtain ⟨cs', h2, h3⟩ := Option.bind_eq_some_iff.1 h1
      exact ⟨cs', h2, ih m (by omega) (World.cells?_some h2).2.1 (hwe i _ (List.getElem?_eq_getElem hie)) h3⟩
    obtain ⟨R, hR⟩ := Deep.choose_lt (α := List Value) (n := len) (p := fun i cs' => W.cells? base (ad.add (i * 9)) 9 = some cs' ∧ ∃ o s l g' g a sv, cs' = rowV o s l g' g sv ∧ SV W (Std W) a sv ∧ (F.cons o s l g' g a .nil).fits ∧ shN a) hrow
    obtain ⟨f, zs, hv, hfl, hft, hz, hbk⟩ := FV.joinW (n := len) (R := R) (fun i hi => (hR i hi).2)
    refine ⟨z0, P, z2, z3, z4, f, _, hc, ⟨zs, some ad, cap, by rw [hfl], by omega, hv, ?_⟩, ⟨⟨by omega, by omega, by omega, by omega⟩, by omega, hft, trivial⟩, by show f.len ≤ _; omega, hbk⟩
    by_cases h0 : len = 0
    · exact .inl (by omega)
    obtain ⟨ha, hlt⟩ := elem_spot (k := 9) (by decide) (hR 0 (by omega)).1
    obtain ⟨b, off, spot⟩ := ad
    simp only [Addr.mk.injEq, true_and] at ha
    subst ha
    refine .inr ⟨b, off, rfl, hlt, hlt, fun j u hj => ?_⟩
    rw [hz] at hj
    obtain ⟨h1, h2⟩ := flat_at (k := 9) (fun i hi => (World.cells?_some (hR i hi).1).2.1) (by decide) j u hj
    rw [← h2, ← elem_cell (hR _ h1).1 (j % 9) (Nat.mod_lt _ (by decide))]
    have : off + j / 9 * 9 + j % 9 = off + j := by have := Nat.div_add_mod j 9; omega
    rw [this]
theorem open_reW {v : Value} {b0 : Nat} {d : DataW H} {p : List MemPlace} (hv : Value.okWide Tryd.prog W .any b0 34 v)
    (h : DataW.Trod enc Tryd.prog W base sp hd 34 v d p) (hw : ∀ k ∈ d.weights Tryd.prog 34, k ≤ reachBytes) : ∃ t : TN, TV W (Std W) t v ∧ (F.cons t.op t.st t.lo t.hi t.g t.args .nil).fits ∧ shN t.args := by
  obtain ⟨f0, f1, f2, f3, f4, f5, hu, _⟩ := fieldsR
  obtain ⟨cells, rfl, hsz⟩ := okWide_struct hu hv
  rw [cells_re] at hsz
  obtain ⟨fuel, hf⟩ := h
  obtain ⟨o, s, l, g', g, a, sv, e, hs, hft, hbk⟩ := open_rowW fuel (cs := cells.toList) (by simpa using hsz) hw hf
  refine ⟨⟨o, s, l, g', g, a⟩, ⟨sv, ?_, hs⟩, hft, hbk⟩
  rw [← e]
end
end Tree
end Go.Proofs.YtbjobbkipmkndaaDoor
