/- Several texts in one (a claim has at most 60 files). -/
import Derived.Test.YticfhbffoajgcaaGreatDoorLcEq
import Derived.Test.YticfhbffoajgcaaGreatDoorLcValid
import Derived.Test.YticfhbffoajgcaaGreatDoorCsList
import Derived.Test.YticfhbffoajgcaaGreatDoorCsSmall
import Derived.WalkKit
import Derived.ProofKit
import Derived.OpenShut
import Derived.Lay
import Derived.LaidMore
import Derived.LaidLaws
import Derived.SizedLaws
import Derived.Laws.IdiomArrays
import Derived.Lib.LaidTab
import Derived.Deep.DeepHandedRow
/- SameLocale of the same locale in two places of memory. (Written by gen_ltsl.py.) -/
set_option linter.unusedVariables false
set_option maxRecDepth 100000
namespace Go.Proofs.YticfhbffoajgcaaGreatDoor
open Go.RowKit

theorem part_c0 (s : ByteArray) (a b c d : Int) (w : World) : (Go.part 9 #[.string s, .int .u64 a, .int .u64 b, .int .u64 c, .int .u64 d] 0).run Tryz.prog w = .ok (.string s) w := by kernel_rfl
theorem part_c1 (s : ByteArray) (a b c d : Int) (w : World) : (Go.part 37 #[.string s, .int .u64 a, .int .u64 b, .int .u64 c, .int .u64 d] 1).run Tryz.prog w = .ok (.agg #[.int .u64 a, .int .u64 b, .int .u64 c, .int .u64 d]) w := by kernel_rfl
theorem part_e0 (s : ByteArray) (a : Int) (w : World) : (Go.part 9 #[.string s, .int .i64 a] 0).run Tryz.prog w = .ok (.string s) w := by kernel_rfl
theorem part_e1 (s : ByteArray) (a : Int) (w : World) : (Go.part 3 #[.string s, .int .i64 a] 1).run Tryz.prog w = .ok (.int .i64 a) w := by kernel_rfl
theorem fields_cls : ∃ f g : Field, Tryz.prog.fieldsOf 66 = #[f, g] ∧ f.name ≠ "_" ∧ f.type = 9 ∧ f.offset = 0 ∧ g.name ≠ "_" ∧ g.type = 37 ∧ g.offset = 1 := ⟨_, _, rfl, by decide, rfl, rfl, by decide, rfl, rfl⟩
theorem fields_elm : ∃ f g : Field, Tryz.prog.fieldsOf 68 = #[f, g] ∧ f.name ≠ "_" ∧ f.type = 9 ∧ f.offset = 0 ∧ g.name ≠ "_" ∧ g.type = 3 ∧ g.offset = 1 := ⟨_, _, rfl, by decide, rfl, rfl, by decide, rfl, rfl⟩
theorem eqs_self (n : Nat) (s : ByteArray) (w : World) : (Op.equalIn (n + 1) 9 (.string s) (.string s)).run Tryz.prog w = .ok true w := by
  rw [run_equalIn_string w n 9 s s Tryz.underlying9, beq_self_eq_true]
theorem equal_csn (a b c d : Int) (w : World) : (Op.equalIn 9999 37 (.agg #[.int .u64 a, .int .u64 b, .int .u64 c, .int .u64 d]) (.agg #[.int .u64 a, .int .u64 b, .int .u64 c, .int .u64 d])).run Tryz.prog w = .ok true w := by
  obtain ⟨f, hf, hn, ht, ho⟩ := fields_cs
  rw [run_equalIn_agg w 9998 37 _ _ (by kernel_rfl) (by kernel_rfl), hf]
  simp [Op.eqFields, hn, ht, ho, part_words, eq_arr 9996]
theorem neq_cls (s : ByteArray) (a b c d : Int) (w : World) : (binOp .neq 66 (.agg #[.string s, .int .u64 a, .int .u64 b, .int .u64 c, .int .u64 d]) (.agg #[.string s, .int .u64 a, .int .u64 b, .int .u64 c, .int .u64 d])).run Tryz.prog w = .ok (.bool false) w := by
  obtain ⟨f, g, hf, hn, ht, ho, gn, gt, go⟩ := fields_cls
  rw [run_neq_struct, run_equalIn_agg w 9999 66 _ _ (by kernel_rfl) (by kernel_rfl), hf]
  simp [Op.eqFields, hn, ht, ho, gn, gt, go, part_c0, part_c1, eqs_self 9998, equal_csn]
theorem neq_elm (s : ByteArray) (a : Int) (w : World) : (binOp .neq 68 (.agg #[.string s, .int .i64 a]) (.agg #[.string s, .int .i64 a])).run Tryz.prog w = .ok (.bool false) w := by
  obtain ⟨f, g, hf, hn, ht, ho, gn, gt, go⟩ := fields_elm
  rw [run_neq_struct, run_equalIn_agg w 9999 68 _ _ (by kernel_rfl) (by kernel_rfl), hf]
  simp [Op.eqFields, hn, ht, ho, gn, gt, go, part_e0, part_e1, eqs_self 9998, run_equalIn_int w 9998 3 .i64 .i64 _ _ Tryz.underlying3]

set_option maxHeartbeats 8000000 in
theorem sl_any (L : Loc) (bw : L.nw < 2 ^ 62) (bc : L.nc < 2 ^ 62) (be : L.ne < 2 ^ 62) (W1 C1 E1 W2 C2 E2 : Value) (w : World) (h1 : LocM w L W1 C1 E1) (h2 : LocM w L W2 C2 E2) :
    Calls Tryz.prog 11 #[.agg (lcl L W1 C1 E1), .agg (lcl L W2 C2 E2)] w fun e w' => e = .returned (.bool true) ∧ Below w.heap.size w w' := by
  have HB : Hid (Below w.heap.size w ((w.alloc (.cells (lcl L W1 C1 E1) 26)).alloc (.cells (lcl L W2 C2 E2) 26))) := ((Below.refl _ _).alloc (Nat.le_refl _) _).alloc (by simp) _
  have HA1 : Hid (LAt ((w.alloc (.cells (lcl L W1 C1 E1) 26)).alloc (.cells (lcl L W2 C2 E2) 26)) w.heap.size (lcl L W1 C1 E1)) := by
    show LAt _ _ _
    unfold LAt
    rw [Below.heap_alloc _ _ _ (by simp)]
    exact heap_alloc_new w _
  have HA2 : Hid (LAt ((w.alloc (.cells (lcl L W1 C1 E1) 26)).alloc (.cells (lcl L W2 C2 E2) 26)) (w.heap.size + 1) (lcl L W2 C2 E2)) := by
    show LAt _ _ _
    have := heap_alloc_new (w.alloc (.cells (lcl L W1 C1 E1) 26)) (.cells (lcl L W2 C2 E2) 26)
    unfold LAt
    simpa using this
  obtain ⟨⟨aw1, cw1, rfl, lw1, kw1⟩, ⟨ac1, cc1, rfl, lc1, kc1⟩, ⟨ae1, ce1, rfl, le1, ke1⟩⟩ := h1
  obtain ⟨⟨aw2, cw2, rfl, lw2, kw2⟩, ⟨ac2, cc2, rfl, lc2, kc2⟩, ⟨ae2, ce2, rfl, le2, ke2⟩⟩ := h2
  have HW1 := Lib.hid kw1
  have HW2 := Lib.hid kw2
  have HCl1 := Lib.hid kc1
  have HCl2 := Lib.hid kc2
  have HE1 := Lib.hid ke1
  have HE2 := Lib.hid ke2
  clear kw1 kw2 kc1 kc2 ke1 ke2 lw1 lw2 lc1 lc2 le1 le2
  obtain ⟨nw, hnw⟩ : ∃ n, L.nw = n := ⟨_, rfl⟩
  obtain ⟨nc, hnc⟩ : ∃ n, L.nc = n := ⟨_, rfl⟩
  obtain ⟨ne, hne⟩ : ∃ n, L.ne = n := ⟨_, rfl⟩
  rw [hnw] at bw HB HA1 HA2 HW1 HW2 ⊢
  rw [hnc] at bc HB HA1 HA2 HCl1 HCl2 ⊢
  rw [hne] at be HB HA1 HA2 HE1 HE2 ⊢
  clear hnw hnc hne
  unfold lcl at *
  go_enter Tryz.func11, Tryz.ntmps11
  go_wp2
  go_loopw [5] (fun i wr => ∃ k : Nat, k ≤ nw ∧ i = .int .i64 k ∧ Hid (Below (w.heap.size + 2) ((w.alloc (.cells #[.string L.name, .slice aw1 nw cw1, .string L.lower, .string L.upper, .slice ac1 nc cc1, .slice ae1 ne ce1] 26)).alloc (.cells #[.string L.name, .slice aw2 nw cw2, .string L.lower, .string L.upper, .slice ac2 nc cc2, .slice ae2 ne ce2] 26)) wr)) (fun i _ => nw - (intOf i).toNat)
  case atStart => exact ⟨0, Nat.zero_le _, rfl, Below.refl _ _⟩
  case round =>
    obtain ⟨k, hk, rfl, HBr⟩ := hrel
    obtain ⟨⟨x0, x1, x2⟩, ⟨x3, x4, x5⟩, hf⟩ := (HA1.out.under HBr.out (by omega)).six
    obtain ⟨⟨y0, y1, y2⟩, ⟨y3, y4, y5⟩, hg⟩ := (HA2.out.under HBr.out (by omega)).six
    have HBw := Lib.hid (HB.out.trans (HBr.out.mono (by omega)))
    clear hf hg
    by_cases hkn : k < nw
    · have ki : (k : Int) < nw := by omega
      have ki0 : (0 : Int) ≤ k := by omega
      rcases HW1.out with h0 | ⟨b1, o1, rfl, hl1, hc1⟩
      · omega
      rcases HW2.out with h0 | ⟨b2, o2, rfl, hl2, hc2⟩
      · omega
      have HL1 := Lib.hid hl1
      have HL2 := Lib.hid hl2
      have HC1 := Lib.hid hc1
      have HC2 := Lib.hid hc2
      clear hl1 hl2 hc1 hc2
      have c0 : wr.cell? ⟨b1, o1 + k, none⟩ = some (.int .i64 (L.wt k)) := by
        rw [HBw.out.cell (by exact HL1.out)]
        have := HC1.out k 0 hkn (by decide)
        simpa [wtF] using this
      have d0 : wr.cell? ⟨b2, o2 + k, none⟩ = some (.int .i64 (L.wt k)) := by
        rw [HBw.out.cell (by exact HL2.out)]
        have := HC2.out k 0 hkn (by decide)
        simpa [wtF] using this
      generalize L.wt k = X at c0 d0
      go_wp2
      go_quiet (fail)
      go_wp2
      go_roundw
      case rel => exact ⟨k + 1, by omega, by go_num, below_drewN HBr.out _⟩
      case measure => simp [intOf]; omega
    · obtain rfl : k = nw := by omega
      rename World => wA
      go_wp2
      have HBn := Lib.hid HBw.out
      have HAn1 : Hid (LAt wA w.heap.size _) := HA1.out.under HBr.out (by omega)
      have HAn2 : Hid (LAt wA (w.heap.size + 1) _) := HA2.out.under HBr.out (by omega)
      clear HB HA1 HA2 HBw HBr x0 x1 x2 x3 x4 x5 y0 y1 y2 y3 y4 y5
      have HB := HBn
      have HA1 := HAn1
      have HA2 := HAn2
      clear HBn HAn1 HAn2
      go_loopw [6] (fun i wr => ∃ k : Nat, k ≤ nc ∧ i = .int .i64 k ∧ Hid (Below (w.heap.size + 2) wA wr)) (fun i _ => nc - (intOf i).toNat)
      case atStart => exact ⟨0, Nat.zero_le _, rfl, Below.refl _ _⟩
      case round =>
        obtain ⟨k, hk, rfl, HBr⟩ := hrel
        obtain ⟨⟨x0, x1, x2⟩, ⟨x3, x4, x5⟩, hf⟩ := (HA1.out.under HBr.out (by omega)).six
        obtain ⟨⟨y0, y1, y2⟩, ⟨y3, y4, y5⟩, hg⟩ := (HA2.out.under HBr.out (by omega)).six
        have HBw := Lib.hid (HB.out.trans (HBr.out.mono (by omega)))
        clear hf hg
        by_cases hkn : k < nc
        · have ki : (k : Int) < nc := by omega
          have ki0 : (0 : Int) ≤ k := by omega
          rcases HCl1.out with h0 | ⟨b1, o1, rfl, hl1, hc1⟩
          · omega
          rcases HCl2.out with h0 | ⟨b2, o2, rfl, hl2, hc2⟩
          · omega
          have HL1 := Lib.hid hl1
          have HL2 := Lib.hid hl2
          have HC1 := Lib.hid hc1
          have HC2 := Lib.hid hc2
          clear hl1 hl2 hc1 hc2
          have c0 : wr.cell? ⟨b1, o1 + k * 5, none⟩ = some (.string (L.cn k)) := by
            rw [HBw.out.cell (by exact HL1.out)]
            have := HC1.out k 0 hkn (by decide)
            simpa [clsF] using this
          have c1 : wr.cell? ⟨b1, o1 + k * 5 + 1, none⟩ = some (.int .u64 ((wd (L.cset k) 0 64 : Nat) : Int)) := by
            rw [HBw.out.cell (by exact HL1.out)]
            have := HC1.out k 1 hkn (by decide)
            simpa [clsF] using this
          have c2 : wr.cell? ⟨b1, o1 + k * 5 + 2, none⟩ = some (.int .u64 ((wd (L.cset k) 64 64 : Nat) : Int)) := by
            rw [HBw.out.cell (by exact HL1.out)]
            have := HC1.out k 2 hkn (by decide)
            simpa [clsF] using this
          have c3 : wr.cell? ⟨b1, o1 + k * 5 + 3, none⟩ = some (.int .u64 ((wd (L.cset k) 128 64 : Nat) : Int)) := by
            rw [HBw.out.cell (by exact HL1.out)]
            have := HC1.out k 3 hkn (by decide)
            simpa [clsF] using this
          have c4 : wr.cell? ⟨b1, o1 + k * 5 + 4, none⟩ = some (.int .u64 ((wd (L.cset k) 192 64 : Nat) : Int)) := by
            rw [HBw.out.cell (by exact HL1.out)]
            have := HC1.out k 4 hkn (by decide)
            simpa [clsF] using this
          have d0 : wr.cell? ⟨b2, o2 + k * 5, none⟩ = some (.string (L.cn k)) := by
            rw [HBw.out.cell (by exact HL2.out)]
            have := HC2.out k 0 hkn (by decide)
            simpa [clsF] using this
          have d1 : wr.cell? ⟨b2, o2 + k * 5 + 1, none⟩ = some (.int .u64 ((wd (L.cset k) 0 64 : Nat) : Int)) := by
            rw [HBw.out.cell (by exact HL2.out)]
            have := HC2.out k 1 hkn (by decide)
            simpa [clsF] using this
          have d2 : wr.cell? ⟨b2, o2 + k * 5 + 2, none⟩ = some (.int .u64 ((wd (L.cset k) 64 64 : Nat) : Int)) := by
            rw [HBw.out.cell (by exact HL2.out)]
            have := HC2.out k 2 hkn (by decide)
            simpa [clsF] using this
          have d3 : wr.cell? ⟨b2, o2 + k * 5 + 3, none⟩ = some (.int .u64 ((wd (L.cset k) 128 64 : Nat) : Int)) := by
            rw [HBw.out.cell (by exact HL2.out)]
            have := HC2.out k 3 hkn (by decide)
            simpa [clsF] using this
          have d4 : wr.cell? ⟨b2, o2 + k * 5 + 4, none⟩ = some (.int .u64 ((wd (L.cset k) 192 64 : Nat) : Int)) := by
            rw [HBw.out.cell (by exact HL2.out)]
            have := HC2.out k 4 hkn (by decide)
            simpa [clsF] using this
          generalize L.cn k = X at c0 d0
          generalize ((wd (L.cset k) 0 64 : Nat) : Int) = X1 at c1 d1
          generalize ((wd (L.cset k) 64 64 : Nat) : Int) = X2 at c2 d2
          generalize ((wd (L.cset k) 128 64 : Nat) : Int) = X3 at c3 d3
          generalize ((wd (L.cset k) 192 64 : Nat) : Int) = X4 at c4 d4
          have HNq := neq_cls X X1 X2 X3 X4
          go_wp2
          go_quiet (fail)
          go_wp2
          go_roundw
          case rel => exact ⟨k + 1, by omega, by go_num, below_drewN HBr.out _⟩
          case measure => simp [intOf]; omega
        · obtain rfl : k = nc := by omega
          rename World => wB
          go_wp2
          have HBn := Lib.hid HBw.out
          have HAn1 : Hid (LAt wB w.heap.size _) := HA1.out.under HBr.out (by omega)
          have HAn2 : Hid (LAt wB (w.heap.size + 1) _) := HA2.out.under HBr.out (by omega)
          clear HB HA1 HA2 HBw HBr x0 x1 x2 x3 x4 x5 y0 y1 y2 y3 y4 y5
          have HB := HBn
          have HA1 := HAn1
          have HA2 := HAn2
          clear HBn HAn1 HAn2
          go_loopw [7] (fun i wr => ∃ k : Nat, k ≤ ne ∧ i = .int .i64 k ∧ Hid (Below (w.heap.size + 2) wB wr)) (fun i _ => ne - (intOf i).toNat)
          case atStart => exact ⟨0, Nat.zero_le _, rfl, Below.refl _ _⟩
          case round =>
            obtain ⟨k, hk, rfl, HBr⟩ := hrel
            obtain ⟨⟨x0, x1, x2⟩, ⟨x3, x4, x5⟩, hf⟩ := (HA1.out.under HBr.out (by omega)).six
            obtain ⟨⟨y0, y1, y2⟩, ⟨y3, y4, y5⟩, hg⟩ := (HA2.out.under HBr.out (by omega)).six
            have HBw := Lib.hid (HB.out.trans (HBr.out.mono (by omega)))
            clear hf hg
            by_cases hkn : k < ne
            · have ki : (k : Int) < ne := by omega
              have ki0 : (0 : Int) ≤ k := by omega
              rcases HE1.out with h0 | ⟨b1, o1, rfl, hl1, hc1⟩
              · omega
              rcases HE2.out with h0 | ⟨b2, o2, rfl, hl2, hc2⟩
              · omega
              have HL1 := Lib.hid hl1
              have HL2 := Lib.hid hl2
              have HC1 := Lib.hid hc1
              have HC2 := Lib.hid hc2
              clear hl1 hl2 hc1 hc2
              have c0 : wr.cell? ⟨b1, o1 + k * 2, none⟩ = some (.string (L.et k)) := by
                rw [HBw.out.cell (by exact HL1.out)]
                have := HC1.out k 0 hkn (by decide)
                simpa [elmF] using this
              have c1 : wr.cell? ⟨b1, o1 + k * 2 + 1, none⟩ = some (.int .i64 (L.ew k)) := by
                rw [HBw.out.cell (by exact HL1.out)]
                have := HC1.out k 1 hkn (by decide)
                simpa [elmF] using this
              have d0 : wr.cell? ⟨b2, o2 + k * 2, none⟩ = some (.string (L.et k)) := by
                rw [HBw.out.cell (by exact HL2.out)]
                have := HC2.out k 0 hkn (by decide)
                simpa [elmF] using this
              have d1 : wr.cell? ⟨b2, o2 + k * 2 + 1, none⟩ = some (.int .i64 (L.ew k)) := by
                rw [HBw.out.cell (by exact HL2.out)]
                have := HC2.out k 1 hkn (by decide)
                simpa [elmF] using this
              generalize L.et k = X at c0 d0
              generalize L.ew k = Y at c1 d1
              have HNq := neq_elm X Y
              go_wp2
              go_quiet (fail)
              go_wp2
              go_roundw
              case rel => exact ⟨k + 1, by omega, by go_num, below_drewN HBr.out _⟩
              case measure => simp [intOf]; omega
            · obtain rfl : k = ne := by omega
              go_wp2
              go_ret
              exact ⟨rfl, HBw.out⟩
end Go.Proofs.YticfhbffoajgcaaGreatDoor
/- What the frames of layer 6's proofs share: a witness, and the library's table as it is laid. -/
set_option linter.unusedVariables false
namespace Go.Proofs.YticfhbffoajgcaaGreatDoor
open Go.ChangeShapes Go.WideShapes Go.ChangeAt Go.RowKit

theorem witness_rowS {H : Type} {enc : TypeId × Value → H} {C : Checked} {os : Os} {f : FuncId} {fn : Func} {s : OpenSpec} {conds : List PathCond} {apart : Bool} {laid : List (String × DataW Unit)} (modest : Bool) (w0 : World) (args : Array Value) (hos : w0.os = os)
    (hsh : (w0.forCall (fun _ _ => 0) ⟨#[], args, []⟩).Shaped C.prog)
    (hok : Input.okWideB C.prog (w0.forCall (fun _ _ => 0) ⟨#[], args, []⟩) f ⟨#[], args, []⟩ = true)
    (hrow : s.preRow enc C.prog fn conds apart laid (w0.forCall (fun _ _ => 0) ⟨#[], args, []⟩).memory args) :
    ∃ (w : World) (tape : Tape) (i : Input), w.os = os ∧ (w.forCall tape i).Shaped C.prog ∧ i.vars = [] ∧ Input.okWide C.prog (w.forCall tape i) .any w.heap.size f i ∧
      s.preRow enc C.prog fn conds apart laid (w.forCall tape i).memory i.args ∧ ({ modest := modest } : Assume).holds C.prog (lone (Frame.enter C.prog f i.args .normal) [] (w.forCall tape i)) :=
  ⟨w0, fun _ _ => 0, ⟨#[], args, []⟩, hos, hsh, (Input.okWide_of_okWideB (base := 0) hok).1, (Input.okWide_of_okWideB hok).2, hrow, by
    simp only [Assume.holds]
    exact ⟨by simp, by simp, fun _ => Modest.zero, by simp, by simp⟩⟩

/-- The listed variable's name, and what is listed. -/
def tabName : String := "math/bits.deBruijn64tab"
def laid1 : List (String × DataW Unit) := [(tabName, Rows.laid_math_bits_deBruijn64tab), ("unicode/utf8.acceptRanges", Rows.laid_unicode_utf8_acceptRanges), ("unicode/utf8.first", Rows.laid_unicode_utf8_first)]
theorem gTab : Tryz.prog.globalNamed tabName = some 0 := by kernel_rfl
theorem tTab : (Tryz.prog.globals[0]?).map (·.type) = some 182 := by kernel_rfl
theorem tab_laid : (Rows.laid_math_bits_deBruijn64tab : DataW Unit) = Lib.tabData .u8 (Lib.deBruijn64tab.map fun n : Nat => ((n : Nat) : Int)) := by
  unfold Rows.laid_math_bits_deBruijn64tab Lib.tabData Lib.deBruijn64tab
  rfl

theorem tab_of {W : World} (h : laidMetH Tryz.prog laid1 W) : tabAt W := by
  rw [MakeChecks.laidMetH_plain _ _ _ (by kernel_rfl)] at h
  unfold laid1 at h
  rw [tab_laid] at h
  have ht := Lib.tabIs_of_head gTab tTab Tryz.underlying182 Tryz.underlying5 (by kernel_rfl) (by kernel_rfl) h
  intro j hj
  have := Lib.TabIs.cell ht gTab j (by simpa using hj)
  rw [this]
  simp [List.getD, List.getElem?_eq_getElem hj]

end Go.Proofs.YticfhbffoajgcaaGreatDoor
