/- RpLawP, RtFrame, RpFrame, RpFrameB. -/
import Derived.Test.YtbjobbkipmkndaaDoorPp26
import Derived.Test.YtbjobbkipmkndaaDoorPp28
import Derived.Test.YtbjobbkipmkndaaDoorPp9
import Derived.WalkKit
import Derived.ProofKit
import Derived.OpenShut
import Derived.Lay
import Derived.LaidMore
import Derived.LaidLaws
import Derived.SizedLaws
import Derived.Laws.IdiomArrays
import Derived.Lib.LaidTab
import Derived.Deep.DeepHandedRow
import Derived.SliceStrings
import Derived.Deep.Slices
import Derived.Test.YtbjobbkipmkndaaDoorPp19
import Derived.Deep.Strs
import Derived.Test.YtbjobbkipmkndaaDoorPp21
set_option linter.unusedVariables false
set_option linter.unusedSimpArgs false
set_option maxRecDepth 100000
set_option maxHeartbeats 8000000
namespace Go.Proofs.YtbjobbkipmkndaaDoor
open Go.RowKit
theorem prints_law (L : List IN) (pv : Value) (ln : Bool) (w : World) (h : PI w 0 L pv) (hF : (∀ i ∈ L, fits i.x ∧ fits i.y) ∧ L.length ≤ 9223372036854775807) (hT : KT w ∧ tabAt w) : Calls Tryd.prog 3 #[.agg #[pv, .bool ln]] w fun e w' => e = .returned (.bool true) ∧ Below w.heap.size w w' := by
  have hform := h.form
  obtain ⟨ad, cap, rfl⟩ := hform
  have hb := (Below.refl w.heap.size w).alloc (Nat.le_refl _) (.cells #[.slice ad L.length cap, .bool ln] 24)
  have hbx := heap_alloc_new w (.cells #[.slice ad L.length cap, .bool ln] 24)
  obtain ⟨W, hW⟩ : ∃ W, W = w.alloc (.cells #[.slice ad L.length cap, .bool ln] 24) := ⟨_, rfl⟩
  rw [← hW] at hb hbx
  have HW := Lib.hid hW
  have HB := Lib.hid hb
  have HBx := Lib.hid hbx
  have hlw : w.heap.size < W.heap.size := (Array.getElem?_eq_some_iff.1 hbx).1
  have HP := Lib.hid (h.below hb)
  have HKT := Lib.hid (hT.1.below hb)
  have HTa := Lib.hid (tab_keep hT.2 hb)
  have b0 := cell_of_row W w.heap.size 0 _ _ _ hbx
  have b1 := cell_of_row W w.heap.size 1 _ _ _ hbx
  have HV := Lib.hid (fun W2 (hw : Below W.heap.size W W2) => valid_any L (.slice ad L.length cap) 0 ln W2 (HP.out.below hw) (HKT.out.below hw))
  have HRV := Lib.hid (fun W2 (hw : Below W.heap.size W W2) => rvalid_any L (.slice ad L.length cap) 0 ln W2 (HP.out.below hw) hF.2)
  have HPr := Lib.hid (fun W2 (hw : Below W.heap.size W W2) => print_any L (.slice ad L.length cap) 0 ln W2 (HP.out.below hw) hF.1 (HKT.out.below hw) (tab_keep HTa.out hw))
  have HRP := Lib.hid (fun W2 (hw : Below W.heap.size W W2) => rprint_any L (.slice ad L.length cap) 0 ln W2 (HP.out.below hw) hF.2 hF.1)
  have HAw := Lib.hid (fun W2 (hw : Below W.heap.size W W2) => awake_any W2 (HKT.out.below hw))
  have hbo : ∀ W2, Below W.heap.size W W2 → (W2.cell? ⟨w.heap.size, 0, none⟩ = some (.slice ad L.length cap) ∧ W2.cell? ⟨w.heap.size, 1, none⟩ = some (.bool ln)) ∧ w.heap.size < W2.heap.size := fun W2 hw => by
    have hx := (hw.block w.heap.size hlw).trans hbx
    exact ⟨⟨cell_of_row W2 w.heap.size 0 _ _ _ hx, cell_of_row W2 w.heap.size 1 _ _ _ hx⟩, (Array.getElem?_eq_some_iff.1 hx).1⟩
  have HBo := Lib.hid hbo
  generalize bs (prT ln L) = T at *
  generalize valL L = vb at *
  have hvv : (vb == vb) = true := by cases vb <;> rfl
  clear h hb hbx hW hF hT hbo
  go_enter Tryd.func3, Tryd.ntmps3
  go_upto_region 1 with fail
  rw [← HW.out]
  go_region_law
    (first
      | (go_simp; go_at_call 8; (with_reducible refine (HV.out _ (Below.refl _ _).drew).mono ?_); rintro e w1 ⟨rfl, hb⟩
         have HB1 : Hid (Below W.heap.size W w1) := Lib.hid ((Below.refl _ _).drew.trans hb)
         clear b0 b1
         obtain ⟨⟨b0, b1⟩, bl⟩ := HBo.out w1 HB1.out
         clear hb)
      | (go_simp; go_at_call 9; (with_reducible refine (HRV.out _ HB1.out).mono ?_); rintro e w2 ⟨rfl, hb⟩
         have HB2 : Hid (Below W.heap.size W w2) := Lib.hid (HB1.out.trans (hb.mono HB1.out.size))
         clear b0 b1
         obtain ⟨⟨b0, b1⟩, bl2⟩ := HBo.out w2 HB2.out
         clear hb)
      | (go_simp; go_at_call 10; (with_reducible refine (HPr.out _ HB2.out).mono ?_); rintro e w3 ⟨rfl, hb⟩
         have HB3 : Hid (Below W.heap.size W w3) := Lib.hid (HB2.out.trans (hb.mono HB2.out.size))
         clear b0 b1
         obtain ⟨⟨b0, b1⟩, bl3⟩ := HBo.out w3 HB3.out
         clear hb)
      | (go_simp; go_at_call 11; (with_reducible refine (HRP.out _ HB3.out).mono ?_); rintro e w4 ⟨rfl, hb⟩
         have HB4 : Hid (Below W.heap.size W w4) := Lib.hid (HB3.out.trans (hb.mono HB3.out.size))
         clear b0 b1
         clear hb)
      | (go_simp; go_at_call 12; (with_reducible refine (HAw.out _ HB4.out).mono ?_); rintro e w5 ⟨rfl, hb⟩
         have HB5 : Hid (Below W.heap.size W w5) := Lib.hid (HB4.out.trans (hb.mono HB4.out.size))
         clear hb))
  all_goals
    go_wp2_with fail
    go_ret
    exact ⟨rfl, HB.out.trans (HB5.out.mono HB.out.size)⟩
end Go.Proofs.YtbjobbkipmkndaaDoor
set_option linter.unusedVariables false
set_option maxRecDepth 100000
namespace Go.Proofs.YtbjobbkipmkndaaDoor
open Go.ChangeShapes Go.WideShapes Go.ChangeAt Go.RowKit
theorem witness_rowS {H : Type} {enc : TypeId × Value → H} {C : Checked} {os : Os} {f : FuncId} {fn : Func} {s : OpenSpec} {conds : List PathCond} {apart : Bool} {laid : List (String × DataW Unit)} (modest : Bool) (w0 : World) (args : Array Value) (hos : w0.os = os)
    (hsh : (w0.forCall (fun _ _ => 0) ⟨#[], args, []⟩).Shaped C.prog)
    (hok : Input.okWideB C.prog (w0.forCall (fun _ _ => 0) ⟨#[], args, []⟩) f ⟨#[], args, []⟩ = true)
    (hrow : s.preRow enc C.prog fn conds apart laid (w0.forCall (fun _ _ => 0) ⟨#[], args, []⟩).memory args) :
    ∃ (w : World) (tape : Tape) (i : Input), w.os = os ∧ (w.forCall tape i).Shaped C.prog ∧ i.vars = [] ∧ Input.okWide C.prog (w.forCall tape i) .any w.heap.size f i ∧
      s.preRow enc C.prog fn conds apart laid (w.forCall tape i).memory i.args ∧ ({ modest := modest } : Assume).holds C.prog (lone (Frame.enter C.prog f i.args .normal) [] (w.forCall tape i)) :=
  ⟨w0, fun _ _ => 0, ⟨#[], args, []⟩, hos, hsh, (Input.okWide_of_okWideB (base := 0) hok).1, (Input.okWide_of_okWideB hok).2, hrow, by
    simp only [Assume.holds]
    exact ⟨by simp, by simp, fun _ => Modest.zero, by simp, by simp⟩⟩
theorem add_off (b o j : Nat) : (⟨b, o, none⟩ : Addr).add j = ⟨b, o + j, none⟩ := by unfold Addr.add; split <;> simp_all
namespace Tree
theorem cells_cs : Tryd.prog.cellsOf 31 = 4 := by kernel_rfl
theorem cells_arr : Tryd.prog.cellsOf 29 = 4 := by kernel_rfl
theorem cells_wd : Tryd.prog.cellsOf 28 = 1 := by kernel_rfl
theorem cells_int : Tryd.prog.cellsOf 3 = 1 := by kernel_rfl
theorem fieldsS : ∃ f0 : Field, Tryd.prog.underlying 31 = some (.struct #[f0]) ∧ f0.type = 29 ∧ f0.offset = 0 := ⟨_, Tryd.underlying31, rfl, rfl⟩
theorem word_nat (x : Int) (h : (Lit.int .u64 x).wf = true) : ∃ n : Nat, x = (n : Int) ∧ n < 2 ^ 64 := by
  have hb := bounds_u64 h
  exact ⟨x.toNat, by omega, by omega⟩
section
variable {H : Type} {enc : TypeId × Value → H} {W : World} {base : Nat} {sp : Nat → Bool} {hd : Bool}
theorem open_words {fuel : Nat} {c0 c1 c2 c3 : Value} {y : DataW H × List MemPlace} (h : DataW.trod enc Tryd.prog W base sp hd fuel 31 [c0, c1, c2, c3] = some y) : ∃ P : Nat → Bool, [c0, c1, c2, c3] = (cl P).toList := by
  obtain ⟨f0, hu, hft, hfo⟩ := fieldsS
  obtain ⟨y0, n, _, hl, hy⟩ := trod_struct1 hu h
  rw [hft, hfo, cells_arr] at hy
  have hy' : DataW.trod enc Tryd.prog W base sp hd n 29 [c0, c1, c2, c3] = some y0 := hy
  obtain ⟨z0, z1, z2, z3, m, hz, h0, h1, h2, h3⟩ := trod_array4 Tryd.underlying29 cells_wd hy'
  obtain ⟨x0, e0, rfl, w0⟩ := DataW.trod_int Tryd.underlying28 h0
  obtain ⟨x1, e1, rfl, w1⟩ := DataW.trod_int Tryd.underlying28 h1
  obtain ⟨x2, e2, rfl, w2⟩ := DataW.trod_int Tryd.underlying28 h2
  obtain ⟨x3, e3, rfl, w3⟩ := DataW.trod_int Tryd.underlying28 h3
  simp at e0 e1 e2 e3
  subst e0 e1 e2 e3
  obtain ⟨n0, rfl, l0⟩ := word_nat x0 w0
  obtain ⟨n1, rfl, l1⟩ := word_nat x1 w1
  obtain ⟨n2, rfl, l2⟩ := word_nat x2 w2
  obtain ⟨n3, rfl, l3⟩ := word_nat x3 w3
  refine ⟨toP n0 n1 n2 n3, ?_⟩
  unfold cl
  rw [toP0 n0 n1 n2 n3 l0, toP1 n0 n1 n2 n3 l1, toP2 n0 n1 n2 n3 l2, toP3 n0 n1 n2 n3 l3]
theorem elem_cell {b off k j : Nat} {cs : List Value} (h : W.cells? base ((⟨b, off, none⟩ : Addr).add (j * k)) k = some cs) (i : Nat) (hi : i < k) : W.cell? ⟨b, off + j * k + i, none⟩ = cs[i]? := by
  have h2 := (World.cells?_some h).2.2 i hi
  rwa [add_off, add_off] at h2
theorem elem_spot {a : Addr} {k : Nat} {cs : List Value} (hk : 0 < k) (h : W.cells? base (a.add (0 * k)) k = some cs) : a = ⟨a.block, a.off, none⟩ ∧ a.block < W.heap.size := by
  obtain ⟨_, hl, hc⟩ := World.cells?_some h
  have h0 := hc 0 hk
  have hlt : 0 < cs.length := by omega
  rw [List.getElem?_eq_getElem hlt] at h0
  have e : (a.add (0 * k)).add 0 = a := by simp [Addr.add]
  rw [e] at h0
  have hs := World.cell?_spot h0
  refine ⟨?_, World.block_lt_of_cell? W _ h0⟩
  obtain ⟨b, o, s⟩ := a
  simp only at hs
  rw [hs]
end
end Tree
end Go.Proofs.YtbjobbkipmkndaaDoor
set_option linter.unusedVariables false
set_option maxRecDepth 100000
namespace Go.Proofs.YtbjobbkipmkndaaDoor
open Go.ChangeShapes Go.WideShapes Go.ChangeAt Go.RowKit
def kdName : String := Rows.reprogValidRow.named.headD ""
theorem gKd : Tryd.prog.globalNamed kdName = some 0 := by kernel_rfl
theorem tKd : (Tryd.prog.globals[0]?).map (·.type) = some 65 := by kernel_rfl
theorem kd_laid : (Rows.laid_texttools_reprog_kinds : DataW Unit) = .agg ((List.range 6).map fun i => .agg [.lit (.string (kwd (i + 1 : Nat))), .lit (.int .i64 (ktg (i + 1 : Nat) : Nat)), .lit (.bool (kgo (i + 1 : Nat)))]) := rfl
theorem cells_kd : Tryd.prog.cellsOf 48 = 3 := by kernel_rfl
theorem cells_kstr : Tryd.prog.cellsOf 9 = 1 := by kernel_rfl
theorem cells_kint : Tryd.prog.cellsOf 3 = 1 := by kernel_rfl
theorem cells_kbool : Tryd.prog.cellsOf 4 = 1 := by kernel_rfl
theorem fields_kd : ∃ f0 f1 f2 : Field, Tryd.prog.underlying 48 = some (.struct #[f0, f1, f2]) ∧ (f0.type = 9 ∧ f0.offset = 0) ∧ (f1.type = 3 ∧ f1.offset = 1) ∧ f2.type = 4 ∧ f2.offset = 2 := ⟨_, _, _, Tryd.underlying48, ⟨rfl, rfl⟩, ⟨rfl, rfl⟩, rfl, rfl⟩
theorem bs_of (s : ByteArray) (l : List UInt8) (h : s.data.toList = l) : s = bs l := by
  subst h
  rfl
theorem kind_cells {W : World} {cs : Array Value} {H : Type} {enc : TypeId × Value → H} {base : Nat} {sp : Nat → Bool} {hd' : Bool} {fuel : Nat} {p : List MemPlace}
    (hd : DataW.trod enc Tryd.prog W base sp hd' fuel 65 cs.toList = some (.agg ((List.range 6).map fun i => .agg [.lit (.string (kwd (i + 1 : Nat))), .lit (.int .i64 (ktg (i + 1 : Nat) : Nat)), .lit (.bool (kgo (i + 1 : Nat)))]), p)) :
    ∀ (j : Nat) v, kindCells[j]? = some v → cs[j]? = some v := by
  obtain ⟨xs, m, _, hx, hl, hn, hel⟩ := DataW.trod_array Tryd.underlying65 hd
  rw [cells_kd] at hel
  have hxs : xs.map (·.1) = (List.range 6).map fun i => DataW.agg [.lit (.string (kwd (i + 1 : Nat))), .lit (.int .i64 (ktg (i + 1 : Nat) : Nat)), .lit (.bool (kgo (i + 1 : Nat)))] := by
    have := congrArg Prod.fst hx
    simp only [DataW.agg.injEq] at this
    exact this.symm
  have key : ∀ i, i < 6 → cs[3 * i]? = some (.string (bs (kwd (i + 1 : Nat)))) ∧ cs[3 * i + 1]? = some (.int .i64 (ktg (i + 1 : Nat) : Nat)) ∧ cs[3 * i + 2]? = some (.bool (kgo (i + 1 : Nat))) := by
    intro i hi
    obtain ⟨f0, f1, f2, hu, ⟨ht0, ho0⟩, ⟨ht1, ho1⟩, ht2, ho2⟩ := fields_kd
    have hy := hel i hi
    have hxi : i < xs.length := by omega
    rw [List.getElem?_eq_getElem hxi] at hy
    have h1 : (xs.map (·.1))[i]? = some (xs[i]).1 := by rw [List.getElem?_map, List.getElem?_eq_getElem hxi]; rfl
    rw [hxs, List.getElem?_map, List.getElem?_range hi] at h1
    simp only [Option.map_some, Option.some.injEq] at h1
    obtain ⟨y0, y1, y2, k, hyx, hlen, t0, t1, t2⟩ := Deep.trod_struct3 hu hy
    rw [ht0, ho0, cells_kstr] at t0
    rw [ht1, ho1, cells_kint] at t1
    rw [ht2, ho2, cells_kbool] at t2
    obtain ⟨s0, e0, rfl, _⟩ := DataW.trod_string Tryd.underlying9 t0
    obtain ⟨z1, e1, rfl, _⟩ := DataW.trod_int Tryd.underlying3 t1
    obtain ⟨b2, e2, rfl, _⟩ := DataW.trod_bool Tryd.underlying4 t2
    rw [hyx] at h1
    simp only [DataW.agg.injEq, List.cons.injEq, DataW.lit.injEq, Lit.string.injEq, Lit.int.injEq, Lit.bool.injEq, and_true, true_and] at h1
    obtain ⟨h2, h3, h4⟩ := h1
    have g0 := congrArg (fun l => l[0]?) e0
    have g1 := congrArg (fun l => l[0]?) e1
    have g2 := congrArg (fun l => l[0]?) e2
    simp only [List.getElem?_take, List.getElem?_drop, List.getElem?_cons_zero, Array.getElem?_toList] at g0 g1 g2
    rw [bs_of s0 _ h2.symm] at g0
    rw [← h3] at g1
    rw [← h4] at g2
    refine ⟨?_, ?_, ?_⟩
    · simpa [Nat.mul_comm] using g0
    · simpa [Nat.mul_comm] using g1
    · simpa [Nat.mul_comm] using g2
  intro j v hj
  have hj18 : j < 18 := by
    have h1 := (List.getElem?_eq_some_iff.1 hj).1
    have h2 : kindCells.length = 18 := rfl
    omega
  have hall : ∀ i, i < 6 → kindCells[3 * i]? = some (.string (bs (kwd (i + 1 : Nat)))) ∧ kindCells[3 * i + 1]? = some (.int .i64 (ktg (i + 1 : Nat) : Nat)) ∧ kindCells[3 * i + 2]? = some (.bool (kgo (i + 1 : Nat))) := by
    intro i hi
    have : i = 0 ∨ i = 1 ∨ i = 2 ∨ i = 3 ∨ i = 4 ∨ i = 5 := by omega
    rcases this with rfl | rfl | rfl | rfl | rfl | rfl <;> exact ⟨rfl, rfl, rfl⟩
  have hm : j % 3 = 0 ∨ j % 3 = 1 ∨ j % 3 = 2 := by omega
  obtain ⟨k0, k1, k2⟩ := key (j / 3) (by omega)
  obtain ⟨l0, l1, l2⟩ := hall (j / 3) (by omega)
  rcases hm with hm | hm | hm
  · have e : 3 * (j / 3) = j := by omega
    rw [e] at k0 l0
    rw [k0, ← l0, hj]
  · have e : 3 * (j / 3) + 1 = j := by omega
    rw [e] at k1 l1
    rw [k1, ← l1, hj]
  · have e : 3 * (j / 3) + 2 = j := by omega
    rw [e] at k2 l2
    rw [k2, ← l2, hj]
end Go.Proofs.YtbjobbkipmkndaaDoor
set_option linter.unusedVariables false
set_option maxRecDepth 100000
namespace Go.Proofs.YtbjobbkipmkndaaDoor
open Go.ChangeShapes Go.WideShapes Go.ChangeAt Go.RowKit
def tabName : String := "math/bits.deBruijn64tab"
def laidP : List (String × DataW Unit) := [(tabName, Rows.laid_math_bits_deBruijn64tab), (kdName, Rows.laid_texttools_reprog_kinds)]
theorem gTab : Tryd.prog.globalNamed tabName = some 1 := by kernel_rfl
theorem tTab : (Tryd.prog.globals[1]?).map (·.type) = some 99 := by kernel_rfl
theorem tab_laid : (Rows.laid_math_bits_deBruijn64tab : DataW Unit) = Lib.tabData .u8 (Lib.deBruijn64tab.map fun n : Nat => ((n : Nat) : Int)) := by
  unfold Rows.laid_math_bits_deBruijn64tab Lib.tabData Lib.deBruijn64tab
  rfl
theorem tab_ofP {W : World} (h : laidMetH Tryd.prog laidP W) : tabAt W := by
  rw [MakeChecks.laidMetH_plain _ _ _ (by kernel_rfl)] at h
  unfold laidP at h
  rw [tab_laid] at h
  have ht := Lib.tabIs_of_head gTab tTab Tryd.underlying99 Tryd.underlying5 (by kernel_rfl) (by kernel_rfl) h
  intro j hj
  have := Lib.TabIs.cell ht gTab j (by simpa using hj)
  rw [this]
  simp [List.getD, List.getElem?_eq_getElem hj]
theorem kt_ofP {W : World} (h : laidMetH Tryd.prog laidP W) : KT W := by
  rw [MakeChecks.laidMetH_plain _ _ _ (by kernel_rfl)] at h
  unfold laidP at h
  rw [kd_laid] at h
  obtain ⟨ps, ⟨_, _, _, _, _, _, _, _, _, _, htl, _⟩, _⟩ := h
  obtain ⟨g', t', cs, fuel, p, q, hg', ht', hvar, hd, _, _⟩ := htl
  obtain rfl := Option.some.inj (gKd.symm.trans hg')
  obtain rfl := Option.some.inj (tKd.symm.trans ht')
  intro j v hj
  rw [World.var?_cell gKd hvar j]
  exact kind_cells hd j v hj
theorem tabs_ofP {W : World} (h : laidMetH Tryd.prog laidP W) : KT W ∧ tabAt W := ⟨kt_ofP h, tab_ofP h⟩
namespace Prg
theorem cells_in : Tryd.prog.cellsOf 39 = 7 := by kernel_rfl
theorem cells_prg : Tryd.prog.cellsOf 24 = 2 := by kernel_rfl
theorem cells_sin : Tryd.prog.cellsOf 22 = 1 := by kernel_rfl
theorem cells_b : Tryd.prog.cellsOf 4 = 1 := by kernel_rfl
theorem fieldsI : ∃ f0 f1 f2 f3 : Field, Tryd.prog.underlying 39 = some (.struct #[f0, f1, f2, f3]) ∧ ((f0.type = 3 ∧ f0.offset = 0) ∧ (f1.type = 31 ∧ f1.offset = 1)) ∧ (f2.type = 3 ∧ f2.offset = 5) ∧ f3.type = 3 ∧ f3.offset = 6 :=
  ⟨_, _, _, _, Tryd.underlying39, ⟨⟨rfl, rfl⟩, ⟨rfl, rfl⟩⟩, ⟨rfl, rfl⟩, rfl, rfl⟩
theorem fieldsP : ∃ f0 f1 : Field, Tryd.prog.underlying 24 = some (.struct #[f0, f1]) ∧ (f0.type = 22 ∧ f0.offset = 0) ∧ f1.type = 4 ∧ f1.offset = 1 := ⟨_, _, Tryd.underlying24, ⟨rfl, rfl⟩, rfl, rfl⟩
theorem list7' {α : Type} (l : List α) (h : l.length = 7) : ∃ a b c d e f g, l = [a, b, c, d, e, f, g] := by
  match l, h with
  | [a, b, c, d, e, f, g], _ => exact ⟨a, b, c, d, e, f, g, rfl⟩
theorem list4' {α : Type} (l : List α) (h : l.length = 4) : ∃ a b c d, l = [a, b, c, d] := by
  match l, h with
  | [a, b, c, d], _ => exact ⟨a, b, c, d, rfl⟩
theorem list2' {α : Type} (l : List α) (h : l.length = 2) : ∃ a b, l = [a, b] := by
  match l, h with
  | [a, b], _ => exact ⟨a, b, rfl⟩
section
variable {H : Type} {enc : TypeId × Value → H} {W : World} {base : Nat} {sp : Nat → Bool} {hd : Bool}
theorem open_inst {fuel : Nat} {cs : List Value} {x : DataW H × List MemPlace} (hl7 : cs.length = 7) (h : DataW.trod enc Tryd.prog W base sp hd fuel 39 cs = some x) : ∃ i : IN, cs = rowI i ∧ fits i.x ∧ fits i.y := by
  obtain ⟨f0, f1, f2, f3, hu, ⟨⟨a0, o0⟩, ⟨a1, o1⟩⟩, ⟨a2, o2⟩, a3, o3⟩ := fieldsI
  obtain ⟨c0, c1, c2, c3, c4, c5, c6, rfl⟩ := list7' cs hl7
  obtain ⟨xs, n, rfl, _, hl, hlen, hf⟩ := DataW.trod_struct hu h
  obtain ⟨y0, y1, y2, y3, rfl⟩ := list4' xs (by simpa using hlen)
  have t0 := hf 0 f0 rfl
  have t1 := hf 1 f1 rfl
  have t2 := hf 2 f2 rfl
  have t3 := hf 3 f3 rfl
  rw [a0, o0, Tree.cells_int] at t0
  rw [a1, o1, Tree.cells_cs] at t1
  rw [a2, o2, Tree.cells_int] at t2
  rw [a3, o3, Tree.cells_int] at t3
  obtain ⟨z0, e0, _, w0⟩ := DataW.trod_int Tryd.underlying3 (by simpa using t0)
  obtain ⟨z2, e2, _, w2⟩ := DataW.trod_int Tryd.underlying3 (by simpa using t2)
  obtain ⟨z3, e3, _, w3⟩ := DataW.trod_int Tryd.underlying3 (by simpa using t3)
  obtain ⟨P, hP⟩ := Tree.open_words (c0 := c1) (c1 := c2) (c2 := c3) (c3 := c4) (by simpa using t1)
  simp only [List.cons.injEq, and_true] at e0 e2 e3
  subst e0 e2 e3
  have b2 := bounds_i64 w2
  have b3 := bounds_i64 w3
  refine ⟨⟨z0, P, z2, z3⟩, ?_, ⟨by show _ ≤ z2; omega, by show z2 ≤ _; omega⟩, ⟨by show _ ≤ z3; omega, by show z3 ≤ _; omega⟩⟩
  have hP' : [c1, c2, c3, c4] = (cl P).toList := hP
  unfold cl at hP'
  simp only [List.cons.injEq, and_true] at hP'
  obtain ⟨p1, p2, p3, p4⟩ := hP'
  subst p1 p2 p3 p4
  rfl
theorem open_prg {v : Value} {b0 : Nat} {d : DataW H} {p : List MemPlace} (hv : Value.okWide Tryd.prog W .any b0 24 v)
    (h : DataW.Trod enc Tryd.prog W base sp hd 24 v d p) : ∃ (L : List IN) (pv : Value) (bv : Bool), v = .agg #[pv, .bool bv] ∧ PI W 0 L pv ∧ (∀ i ∈ L, fits i.x ∧ fits i.y) ∧ L.length ≤ 9223372036854775807 := by
  obtain ⟨f0, f1, hu, ⟨a0, o0⟩, a1, o1⟩ := fieldsP
  obtain ⟨cells, rfl, hsz⟩ := okWide_struct hu hv
  rw [cells_prg] at hsz
  obtain ⟨fuel, hf0⟩ := h
  obtain ⟨cs⟩ := cells
  obtain ⟨c0, c1, rfl⟩ := list2' cs (by simpa using hsz)
  have hf1 : DataW.trod enc Tryd.prog W base sp hd fuel 24 [c0, c1] = some (d, p) := hf0
  obtain ⟨xs, n, hd0, _, hl, hlen, hf⟩ := DataW.trod_struct hu hf1
  obtain ⟨y0, y1, rfl⟩ := list2' xs (by simpa using hlen)
  have t0 := hf 0 f0 rfl
  have t1 := hf 1 f1 rfl
  rw [a0, o0, cells_sin] at t0
  rw [a1, o1, cells_b] at t1
  have t1' : DataW.trod enc Tryd.prog W base sp hd n 4 [c1] = some y1 := by simpa using t1
  obtain ⟨bv, e1, _⟩ := DataW.trod_bool Tryd.underlying4 t1'
  obtain rfl : c1 = .bool bv := by simpa using e1
  have t0' : DataW.trod enc Tryd.prog W base sp hd n 22 [c0] = some y0 := by simpa using t0
  rcases DataW.trod_slice Tryd.underlying22 t0' with ⟨e, _⟩ | ⟨ad, len, cap, elems, rest, m, rfl, e, _, hb, hle, hcap, hel, hx, _, _⟩
  · obtain rfl : c0 = .slice none 0 0 := by simpa using e
    exact ⟨[], _, bv, rfl, PI.nil _ _, (fun i hi => by cases hi), Nat.zero_le _⟩
  · obtain rfl : c0 = .slice (some ad) len cap := by simpa using e
    rw [cells_in] at hx
    have hrow : ∀ i, i < len → ∃ q : IN, (∃ cs', W.cells? base (ad.add (i * 7)) 7 = some cs' ∧ cs' = rowI q) ∧ fits q.x ∧ fits q.y := by
      intro i hi
      have h1 := hx i hi
      rw [List.getElem?_eq_getElem (by omega)] at h1
      obtain ⟨cs', h2, h3⟩ := Option.bind_eq_some_iff.1 h1
      obtain ⟨q, hq, hfq⟩ := open_inst (World.cells?_some h2).2.1 h3
      exact ⟨q, ⟨cs', h2, hq⟩, hfq⟩
    haveI : Inhabited IN := ⟨⟨0, noSet, 0, 0⟩⟩
    obtain ⟨R, hR⟩ := Deep.choose_lt (α := IN) (n := len) (p := fun i q => (∃ cs', W.cells? base (ad.add (i * 7)) 7 = some cs' ∧ cs' = rowI q) ∧ fits q.x ∧ fits q.y) hrow
    have hlen2 : ((List.range len).map R).length = len := by simp
    refine ⟨(List.range len).map R, _, bv, rfl, ⟨some ad, cap, by rw [hlen2], by omega, ?_⟩, ?_, by rw [hlen2]; unfold maxLen at hcap; omega⟩
    · by_cases h0 : len = 0
      · exact .inl (by rw [hlen2]; exact h0)
      obtain ⟨⟨cs0, hc0, _⟩, _⟩ := hR 0 (by omega)
      obtain ⟨ha, hlt⟩ := Tree.elem_spot (k := 7) (by decide) hc0
      obtain ⟨b, off, spot⟩ := ad
      simp only [Addr.mk.injEq, true_and] at ha
      subst ha
      refine .inr ⟨b, off, rfl, Nat.zero_le _, hlt, fun k hk j hj => ?_⟩
      have hk2 : k < len := by rw [hlen2] at hk; exact hk
      obtain ⟨⟨cs', h1, h2⟩, _⟩ := hR k hk2
      rw [Tree.elem_cell h1 j hj, h2]
      simp
    · intro i hi
      obtain ⟨k, hk, rfl⟩ := List.mem_map.1 hi
      exact (hR k (List.mem_range.1 hk)).2
end
end Prg
end Go.Proofs.YtbjobbkipmkndaaDoor
