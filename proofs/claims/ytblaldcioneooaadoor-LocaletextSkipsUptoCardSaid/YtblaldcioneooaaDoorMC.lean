/- Several texts in one (a claim has at most 60 files). -/
import Derived.Test.YtblaldcioneooaaDoorLcEq
import Derived.Test.YtblaldcioneooaaDoorLcValid
import Derived.Test.YtblaldcioneooaaDoorMA
import Derived.Test.YtblaldcioneooaaDoorMB
import Derived.Test.YtblaldcioneooaaDoorTxSame
import Derived.Test.YtblaldcioneooaaDoorTxJoin

/- SameLocale of the same locale in two places of memory. (Written by gen_ltsl.py.) -/
set_option linter.unusedVariables false
set_option maxRecDepth 100000
namespace Go.Proofs.YtblaldcioneooaaDoor
open Go.RowKit

theorem part_c0 (s : ByteArray) (a b c d : Int) (w : World) : (Go.part 9 #[.string s, .int .u64 a, .int .u64 b, .int .u64 c, .int .u64 d] 0).run Tryd.prog w = .ok (.string s) w := by kernel_rfl
theorem part_c1 (s : ByteArray) (a b c d : Int) (w : World) : (Go.part 38 #[.string s, .int .u64 a, .int .u64 b, .int .u64 c, .int .u64 d] 1).run Tryd.prog w = .ok (.agg #[.int .u64 a, .int .u64 b, .int .u64 c, .int .u64 d]) w := by kernel_rfl
theorem part_e0 (s : ByteArray) (a : Int) (w : World) : (Go.part 9 #[.string s, .int .i64 a] 0).run Tryd.prog w = .ok (.string s) w := by kernel_rfl
theorem part_e1 (s : ByteArray) (a : Int) (w : World) : (Go.part 3 #[.string s, .int .i64 a] 1).run Tryd.prog w = .ok (.int .i64 a) w := by kernel_rfl
theorem fields_cls : ∃ f g : Field, Tryd.prog.fieldsOf 81 = #[f, g] ∧ f.name ≠ "_" ∧ f.type = 9 ∧ f.offset = 0 ∧ g.name ≠ "_" ∧ g.type = 38 ∧ g.offset = 1 := ⟨_, _, rfl, by decide, rfl, rfl, by decide, rfl, rfl⟩
theorem fields_elm : ∃ f g : Field, Tryd.prog.fieldsOf 68 = #[f, g] ∧ f.name ≠ "_" ∧ f.type = 9 ∧ f.offset = 0 ∧ g.name ≠ "_" ∧ g.type = 3 ∧ g.offset = 1 := ⟨_, _, rfl, by decide, rfl, rfl, by decide, rfl, rfl⟩
theorem eqs_self (n : Nat) (s : ByteArray) (w : World) : (Op.equalIn (n + 1) 9 (.string s) (.string s)).run Tryd.prog w = .ok true w := by
  rw [run_equalIn_string w n 9 s s Tryd.underlying9, beq_self_eq_true]
theorem equal_csn (a b c d : Int) (w : World) : (Op.equalIn 9999 38 (.agg #[.int .u64 a, .int .u64 b, .int .u64 c, .int .u64 d]) (.agg #[.int .u64 a, .int .u64 b, .int .u64 c, .int .u64 d])).run Tryd.prog w = .ok true w := by
  obtain ⟨f, hf, hn, ht, ho⟩ := fields_cs
  rw [run_equalIn_agg w 9998 38 _ _ (by kernel_rfl) (by kernel_rfl), hf]
  simp [Op.eqFields, hn, ht, ho, part_words, eq_arr 9996]
theorem neq_cls (s : ByteArray) (a b c d : Int) (w : World) : (binOp .neq 81 (.agg #[.string s, .int .u64 a, .int .u64 b, .int .u64 c, .int .u64 d]) (.agg #[.string s, .int .u64 a, .int .u64 b, .int .u64 c, .int .u64 d])).run Tryd.prog w = .ok (.bool false) w := by
  obtain ⟨f, g, hf, hn, ht, ho, gn, gt, go⟩ := fields_cls
  rw [run_neq_struct, run_equalIn_agg w 9999 81 _ _ (by kernel_rfl) (by kernel_rfl), hf]
  simp [Op.eqFields, hn, ht, ho, gn, gt, go, part_c0, part_c1, eqs_self 9998, equal_csn]
theorem neq_elm (s : ByteArray) (a : Int) (w : World) : (binOp .neq 68 (.agg #[.string s, .int .i64 a]) (.agg #[.string s, .int .i64 a])).run Tryd.prog w = .ok (.bool false) w := by
  obtain ⟨f, g, hf, hn, ht, ho, gn, gt, go⟩ := fields_elm
  rw [run_neq_struct, run_equalIn_agg w 9999 68 _ _ (by kernel_rfl) (by kernel_rfl), hf]
  simp [Op.eqFields, hn, ht, ho, gn, gt, go, part_e0, part_e1, eqs_self 9998, run_equalIn_int w 9998 3 .i64 .i64 _ _ Tryd.underlying3]

set_option maxHeartbeats 8000000 in
theorem sl_any (L : Loc) (bw : L.nw < 2 ^ 62) (bc : L.nc < 2 ^ 62) (be : L.ne < 2 ^ 62) (W1 C1 E1 W2 C2 E2 : Value) (w : World) (h1 : LocM w L W1 C1 E1) (h2 : LocM w L W2 C2 E2) :
    Calls Tryd.prog 23 #[.agg (lcl L W1 C1 E1), .agg (lcl L W2 C2 E2)] w fun e w' => e = .returned (.bool true) ∧ Below w.heap.size w w' := by
  have HB : Hid (Below w.heap.size w ((w.alloc (.cells (lcl L W1 C1 E1) 26)).alloc (.cells (lcl L W2 C2 E2) 26))) := ((Below.refl _ _).alloc (Nat.le_refl _) _).alloc (by simp) _
  have HA1 : Hid (LAt ((w.alloc (.cells (lcl L W1 C1 E1) 26)).alloc (.cells (lcl L W2 C2 E2) 26)) w.heap.size (lcl L W1 C1 E1)) := by
    show LAt _ _ _
    unfold LAt
    rw [Below.heap_alloc _ _ _ (by simp)]
    exact heap_alloc_new w _
  have HA2 : Hid (LAt ((w.alloc (.cells (lcl L W1 C1 E1) 26)).alloc (.cells (lcl L W2 C2 E2) 26)) (w.heap.size + 1) (lcl L W2 C2 E2)) := by
    show LAt _ _ _
    have := heap_alloc_new (w.alloc (.cells (lcl L W1 C1 E1) 26)) (.cells (lcl L W2 C2 E2) 26)
    unfold LAt
    simpa using this
  obtain ⟨⟨aw1, cw1, rfl, lw1, kw1⟩, ⟨ac1, cc1, rfl, lc1, kc1⟩, ⟨ae1, ce1, rfl, le1, ke1⟩⟩ := h1
  obtain ⟨⟨aw2, cw2, rfl, lw2, kw2⟩, ⟨ac2, cc2, rfl, lc2, kc2⟩, ⟨ae2, ce2, rfl, le2, ke2⟩⟩ := h2
  have HW1 := Lib.hid kw1
  have HW2 := Lib.hid kw2
  have HCl1 := Lib.hid kc1
  have HCl2 := Lib.hid kc2
  have HE1 := Lib.hid ke1
  have HE2 := Lib.hid ke2
  clear kw1 kw2 kc1 kc2 ke1 ke2 lw1 lw2 lc1 lc2 le1 le2
  obtain ⟨nw, hnw⟩ : ∃ n, L.nw = n := ⟨_, rfl⟩
  obtain ⟨nc, hnc⟩ : ∃ n, L.nc = n := ⟨_, rfl⟩
  obtain ⟨ne, hne⟩ : ∃ n, L.ne = n := ⟨_, rfl⟩
  rw [hnw] at bw HB HA1 HA2 HW1 HW2 ⊢
  rw [hnc] at bc HB HA1 HA2 HCl1 HCl2 ⊢
  rw [hne] at be HB HA1 HA2 HE1 HE2 ⊢
  clear hnw hnc hne
  unfold lcl at *
  go_enter Tryd.func23, Tryd.ntmps23
  go_wp2
  go_loopw [5] (fun i wr => ∃ k : Nat, k ≤ nw ∧ i = .int .i64 k ∧ Hid (Below (w.heap.size + 2) ((w.alloc (.cells #[.string L.name, .slice aw1 nw cw1, .string L.lower, .string L.upper, .slice ac1 nc cc1, .slice ae1 ne ce1] 26)).alloc (.cells #[.string L.name, .slice aw2 nw cw2, .string L.lower, .string L.upper, .slice ac2 nc cc2, .slice ae2 ne ce2] 26)) wr)) (fun i _ => nw - (intOf i).toNat)
  case atStart => exact ⟨0, Nat.zero_le _, rfl, Below.refl _ _⟩
  case round =>
    obtain ⟨k, hk, rfl, HBr⟩ := hrel
    obtain ⟨⟨x0, x1, x2⟩, ⟨x3, x4, x5⟩, hf⟩ := (HA1.out.under HBr.out (by omega)).six
    obtain ⟨⟨y0, y1, y2⟩, ⟨y3, y4, y5⟩, hg⟩ := (HA2.out.under HBr.out (by omega)).six
    have HBw := Lib.hid (HB.out.trans (HBr.out.mono (by omega)))
    clear hf hg
    by_cases hkn : k < nw
    · have ki : (k : Int) < nw := by omega
      have ki0 : (0 : Int) ≤ k := by omega
      rcases HW1.out with h0 | ⟨b1, o1, rfl, hl1, hc1⟩
      · omega
      rcases HW2.out with h0 | ⟨b2, o2, rfl, hl2, hc2⟩
      · omega
      have HL1 := Lib.hid hl1
      have HL2 := Lib.hid hl2
      have HC1 := Lib.hid hc1
      have HC2 := Lib.hid hc2
      clear hl1 hl2 hc1 hc2
      have c0 : wr.cell? ⟨b1, o1 + k, none⟩ = some (.int .i64 (L.wt k)) := by
        rw [HBw.out.cell (by exact HL1.out)]
        have := HC1.out k 0 hkn (by decide)
        simpa [wtF] using this
      have d0 : wr.cell? ⟨b2, o2 + k, none⟩ = some (.int .i64 (L.wt k)) := by
        rw [HBw.out.cell (by exact HL2.out)]
        have := HC2.out k 0 hkn (by decide)
        simpa [wtF] using this
      generalize L.wt k = X at c0 d0
      go_wp2
      go_quiet (fail)
      go_wp2
      go_roundw
      case rel => exact ⟨k + 1, by omega, by go_num, below_drewN HBr.out _⟩
      case measure => simp [intOf]; omega
    · obtain rfl : k = nw := by omega
      rename World => wA
      go_wp2
      have HBn := Lib.hid HBw.out
      have HAn1 : Hid (LAt wA w.heap.size _) := HA1.out.under HBr.out (by omega)
      have HAn2 : Hid (LAt wA (w.heap.size + 1) _) := HA2.out.under HBr.out (by omega)
      clear HB HA1 HA2 HBw HBr x0 x1 x2 x3 x4 x5 y0 y1 y2 y3 y4 y5
      have HB := HBn
      have HA1 := HAn1
      have HA2 := HAn2
      clear HBn HAn1 HAn2
      go_loopw [6] (fun i wr => ∃ k : Nat, k ≤ nc ∧ i = .int .i64 k ∧ Hid (Below (w.heap.size + 2) wA wr)) (fun i _ => nc - (intOf i).toNat)
      case atStart => exact ⟨0, Nat.zero_le _, rfl, Below.refl _ _⟩
      case round =>
        obtain ⟨k, hk, rfl, HBr⟩ := hrel
        obtain ⟨⟨x0, x1, x2⟩, ⟨x3, x4, x5⟩, hf⟩ := (HA1.out.under HBr.out (by omega)).six
        obtain ⟨⟨y0, y1, y2⟩, ⟨y3, y4, y5⟩, hg⟩ := (HA2.out.under HBr.out (by omega)).six
        have HBw := Lib.hid (HB.out.trans (HBr.out.mono (by omega)))
        clear hf hg
        by_cases hkn : k < nc
        · have ki : (k : Int) < nc := by omega
          have ki0 : (0 : Int) ≤ k := by omega
          rcases HCl1.out with h0 | ⟨b1, o1, rfl, hl1, hc1⟩
          · omega
          rcases HCl2.out with h0 | ⟨b2, o2, rfl, hl2, hc2⟩
          · omega
          have HL1 := Lib.hid hl1
          have HL2 := Lib.hid hl2
          have HC1 := Lib.hid hc1
          have HC2 := Lib.hid hc2
          clear hl1 hl2 hc1 hc2
          have c0 : wr.cell? ⟨b1, o1 + k * 5, none⟩ = some (.string (L.cn k)) := by
            rw [HBw.out.cell (by exact HL1.out)]
            have := HC1.out k 0 hkn (by decide)
            simpa [clsF] using this
          have c1 : wr.cell? ⟨b1, o1 + k * 5 + 1, none⟩ = some (.int .u64 ((wd (L.cset k) 0 64 : Nat) : Int)) := by
            rw [HBw.out.cell (by exact HL1.out)]
            have := HC1.out k 1 hkn (by decide)
            simpa [clsF] using this
          have c2 : wr.cell? ⟨b1, o1 + k * 5 + 2, none⟩ = some (.int .u64 ((wd (L.cset k) 64 64 : Nat) : Int)) := by
            rw [HBw.out.cell (by exact HL1.out)]
            have := HC1.out k 2 hkn (by decide)
            simpa [clsF] using this
          have c3 : wr.cell? ⟨b1, o1 + k * 5 + 3, none⟩ = some (.int .u64 ((wd (L.cset k) 128 64 : Nat) : Int)) := by
            rw [HBw.out.cell (by exact HL1.out)]
            have := HC1.out k 3 hkn (by decide)
            simpa [clsF] using this
          have c4 : wr.cell? ⟨b1, o1 + k * 5 + 4, none⟩ = some (.int .u64 ((wd (L.cset k) 192 64 : Nat) : Int)) := by
            rw [HBw.out.cell (by exact HL1.out)]
            have := HC1.out k 4 hkn (by decide)
            simpa [clsF] using this
          have d0 : wr.cell? ⟨b2, o2 + k * 5, none⟩ = some (.string (L.cn k)) := by
            rw [HBw.out.cell (by exact HL2.out)]
            have := HC2.out k 0 hkn (by decide)
            simpa [clsF] using this
          have d1 : wr.cell? ⟨b2, o2 + k * 5 + 1, none⟩ = some (.int .u64 ((wd (L.cset k) 0 64 : Nat) : Int)) := by
            rw [HBw.out.cell (by exact HL2.out)]
            have := HC2.out k 1 hkn (by decide)
            simpa [clsF] using this
          have d2 : wr.cell? ⟨b2, o2 + k * 5 + 2, none⟩ = some (.int .u64 ((wd (L.cset k) 64 64 : Nat) : Int)) := by
            rw [HBw.out.cell (by exact HL2.out)]
            have := HC2.out k 2 hkn (by decide)
            simpa [clsF] using this
          have d3 : wr.cell? ⟨b2, o2 + k * 5 + 3, none⟩ = some (.int .u64 ((wd (L.cset k) 128 64 : Nat) : Int)) := by
            rw [HBw.out.cell (by exact HL2.out)]
            have := HC2.out k 3 hkn (by decide)
            simpa [clsF] using this
          have d4 : wr.cell? ⟨b2, o2 + k * 5 + 4, none⟩ = some (.int .u64 ((wd (L.cset k) 192 64 : Nat) : Int)) := by
            rw [HBw.out.cell (by exact HL2.out)]
            have := HC2.out k 4 hkn (by decide)
            simpa [clsF] using this
          generalize L.cn k = X at c0 d0
          generalize ((wd (L.cset k) 0 64 : Nat) : Int) = X1 at c1 d1
          generalize ((wd (L.cset k) 64 64 : Nat) : Int) = X2 at c2 d2
          generalize ((wd (L.cset k) 128 64 : Nat) : Int) = X3 at c3 d3
          generalize ((wd (L.cset k) 192 64 : Nat) : Int) = X4 at c4 d4
          have HNq := neq_cls X X1 X2 X3 X4
          go_wp2
          go_quiet (fail)
          go_wp2
          go_roundw
          case rel => exact ⟨k + 1, by omega, by go_num, below_drewN HBr.out _⟩
          case measure => simp [intOf]; omega
        · obtain rfl : k = nc := by omega
          rename World => wB
          go_wp2
          have HBn := Lib.hid HBw.out
          have HAn1 : Hid (LAt wB w.heap.size _) := HA1.out.under HBr.out (by omega)
          have HAn2 : Hid (LAt wB (w.heap.size + 1) _) := HA2.out.under HBr.out (by omega)
          clear HB HA1 HA2 HBw HBr x0 x1 x2 x3 x4 x5 y0 y1 y2 y3 y4 y5
          have HB := HBn
          have HA1 := HAn1
          have HA2 := HAn2
          clear HBn HAn1 HAn2
          go_loopw [7] (fun i wr => ∃ k : Nat, k ≤ ne ∧ i = .int .i64 k ∧ Hid (Below (w.heap.size + 2) wB wr)) (fun i _ => ne - (intOf i).toNat)
          case atStart => exact ⟨0, Nat.zero_le _, rfl, Below.refl _ _⟩
          case round =>
            obtain ⟨k, hk, rfl, HBr⟩ := hrel
            obtain ⟨⟨x0, x1, x2⟩, ⟨x3, x4, x5⟩, hf⟩ := (HA1.out.under HBr.out (by omega)).six
            obtain ⟨⟨y0, y1, y2⟩, ⟨y3, y4, y5⟩, hg⟩ := (HA2.out.under HBr.out (by omega)).six
            have HBw := Lib.hid (HB.out.trans (HBr.out.mono (by omega)))
            clear hf hg
            by_cases hkn : k < ne
            · have ki : (k : Int) < ne := by omega
              have ki0 : (0 : Int) ≤ k := by omega
              rcases HE1.out with h0 | ⟨b1, o1, rfl, hl1, hc1⟩
              · omega
              rcases HE2.out with h0 | ⟨b2, o2, rfl, hl2, hc2⟩
              · omega
              have HL1 := Lib.hid hl1
              have HL2 := Lib.hid hl2
              have HC1 := Lib.hid hc1
              have HC2 := Lib.hid hc2
              clear hl1 hl2 hc1 hc2
              have c0 : wr.cell? ⟨b1, o1 + k * 2, none⟩ = some (.string (L.et k)) := by
                rw [HBw.out.cell (by exact HL1.out)]
                have := HC1.out k 0 hkn (by decide)
                simpa [elmF] using this
              have c1 : wr.cell? ⟨b1, o1 + k * 2 + 1, none⟩ = some (.int .i64 (L.ew k)) := by
                rw [HBw.out.cell (by exact HL1.out)]
                have := HC1.out k 1 hkn (by decide)
                simpa [elmF] using this
              have d0 : wr.cell? ⟨b2, o2 + k * 2, none⟩ = some (.string (L.et k)) := by
                rw [HBw.out.cell (by exact HL2.out)]
                have := HC2.out k 0 hkn (by decide)
                simpa [elmF] using this
              have d1 : wr.cell? ⟨b2, o2 + k * 2 + 1, none⟩ = some (.int .i64 (L.ew k)) := by
                rw [HBw.out.cell (by exact HL2.out)]
                have := HC2.out k 1 hkn (by decide)
                simpa [elmF] using this
              generalize L.et k = X at c0 d0
              generalize L.ew k = Y at c1 d1
              have HNq := neq_elm X Y
              go_wp2
              go_quiet (fail)
              go_wp2
              go_roundw
              case rel => exact ⟨k + 1, by omega, by go_num, below_drewN HBr.out _⟩
              case measure => simp [intOf]; omega
            · obtain rfl : k = ne := by omega
              go_wp2
              go_ret
              exact ⟨rfl, HBw.out⟩
end Go.Proofs.YtblaldcioneooaaDoor

/- A skipped line that is put into a text: what it changes, in plain mathematics. It speaks of no program. -/
namespace Go.Proofs.YtblaldcioneooaaDoor
open Go.RowKit
set_option linter.unusedVariables false

theorem numT_ne {l : List UInt8} {m : Nat} {e : Int} (h : numT l m = .error e) : e ≠ 0 := by
  unfold numT at h
  split at h
  · cases h; decide
  · split at h
    · cases h
    · cases h; decide
theorem spanT_ne {l : List UInt8} {e : Int} (h : spanT l = .error e) : e ≠ 0 := by
  unfold spanT at h
  split at h
  · split at h
    · rename_i he; cases h; exact numT_ne he
    · cases h
  · split at h
    · rename_i he; cases h; exact numT_ne he
    · split at h
      · rename_i he; cases h; exact numT_ne he
      · split at h
        · cases h
        · cases h; decide
theorem setT_ne : ∀ {l : List (List UInt8)} {p : Nat → Bool} {e : Int}, setT l p = .error e → e ≠ 0
  | [], p, e, h => by cases h
  | x :: r, p, e, h => by
    unfold setT at h
    split at h
    · rename_i he; cases h; exact spanT_ne he
    · exact setT_ne h
theorem bytesT_ne : ∀ {l : List (List UInt8)} {e : Int}, bytesT l = .error e → e ≠ 0
  | [], e, h => by cases h
  | x :: r, e, h => by
    unfold bytesT at h
    split at h
    · rename_i he; cases h; exact numT_ne he
    · split at h
      · rename_i he; cases h; exact bytesT_ne he
      · cases h
theorem tabT_ne {t x y : List UInt8} {e : Int} (h : tabT t x y = .error e) : e ≠ 0 := by
  unfold tabT at h
  split at h
  · rename_i he; cases h; exact numT_ne he
  · split at h
    · rename_i he; cases h; exact numT_ne he
    · cases h
theorem weighT_ne {L : PL} {l : List (List UInt8)} {y : List UInt8} {e : Int} (h : weighT L l y = .error e) : e ≠ 0 := by
  unfold weighT at h
  split at h
  · rename_i he; cases h; exact bytesT_ne he
  · split at h
    · rename_i he; cases h; exact numT_ne he
    · cases h
theorem classT_ne {L : PL} {x : List UInt8} {r : List (List UInt8)} {e : Int} (h : classT L x r = .error e) : e ≠ 0 := by
  unfold classT at h
  split at h
  · cases h; decide
  · split at h
    · cases h; decide
    · split at h
      · cases h; decide
      · split at h
        · rename_i he; cases h; exact setT_ne he
        · cases h
theorem elemT_ne {L : PL} {x y z : List UInt8} {e : Int} (h : elemT L x y z = .error e) : e ≠ 0 := by
  unfold elemT at h
  split at h
  · rename_i he; cases h; exact numT_ne he
  · split at h
    · rename_i he; cases h; exact numT_ne he
    · split at h
      · rename_i he; cases h; exact numT_ne he
      · split at h
        · cases h; decide
        · split at h
          · cases h; decide
          · cases h
theorem beginT_ne {L : PL} {x : List UInt8} {e : Int} (h : beginT L x = .error e) : e ≠ 0 := by
  unfold beginT at h
  split at h
  · cases h; decide
  · cases h
theorem lowT_ne {L : PL} {x y : List UInt8} {e : Int} (h : lowT L x y = .error e) : e ≠ 0 := by
  unfold lowT at h
  split at h
  · rename_i he; cases h; exact tabT_ne he
  · cases h
theorem upT_ne {L : PL} {x y : List UInt8} {e : Int} (h : upT L x y = .error e) : e ≠ 0 := by
  unfold upT at h
  split at h
  · rename_i he; cases h; exact tabT_ne he
  · cases h
theorem entryT_ne {st : Bool} {L : PL} {k : List UInt8} {r : List (List UInt8)} {e : Int} (h : entryT st L k r = .error e) : e ≠ 0 := by
  unfold entryT at h
  split at h
  · cases h; decide
  · split at h
    · split at h
      · exact beginT_ne h
      · cases h; decide
    · split at h
      · split at h
        · exact weighT_ne h
        · cases h; decide
      · split at h
        · split at h
          · exact lowT_ne h
          · cases h; decide
        · split at h
          · split at h
            · exact upT_ne h
            · cases h; decide
          · split at h
            · split at h
              · exact classT_ne h
              · cases h; decide
            · split at h
              · split at h
                · exact elemT_ne h
                · cases h; decide
              · cases h; decide
theorem lineT_pos {n : Nat} {s : Bool × PL} {l : List UInt8} {e : Int × Nat} (h : lineT n s l = .error e) : e.2 = n ∧ e.1 ≠ 0 := by
  unfold lineT at h
  split at h
  · cases h
  · split at h
    · cases h
    · split at h
      · rename_i he; cases h; exact ⟨rfl, entryT_ne he⟩
      · cases h
theorem lineT_shift (n : Nat) (s : Bool × PL) (l : List UInt8) : lineT (n + 1) s l = match lineT n s l with
    | .error e => .error (e.1, e.2 + 1)
    | .ok t => .ok t := by
  unfold lineT
  split
  · rfl
  · split
    · rfl
    · split <;> rfl
theorem linesT_pos : ∀ (a : List (List UInt8)) {n : Nat} {s : Bool × PL} {e : Int × Nat}, linesT n a s = .error e → n ≤ e.2 ∧ e.2 < n + a.length ∧ e.1 ≠ 0
  | [], n, s, e, h => by cases h
  | l :: r, n, s, e, h => by
    unfold linesT at h
    split at h
    · rename_i he
      cases h
      obtain ⟨h1, h2⟩ := lineT_pos he
      exact ⟨by omega, by simp only [List.length_cons]; omega, h2⟩
    · obtain ⟨h1, h2, h3⟩ := linesT_pos r h
      exact ⟨by omega, by simp only [List.length_cons]; omega, h3⟩
theorem linesT_shift : ∀ (a : List (List UInt8)) (n : Nat) (s : Bool × PL), linesT (n + 1) a s = match linesT n a s with
    | .error e => .error (e.1, e.2 + 1)
    | .ok t => .ok t
  | [], n, s => rfl
  | l :: r, n, s => by
    unfold linesT
    rw [lineT_shift]
    cases h : lineT n s l with
    | error e => rfl
    | ok t => exact linesT_shift r (n + 1) t
/-! ### The text -/
theorem lin_no (l : List UInt8) : ∀ x ∈ lin l, no isL x = true := by
  intro x hx
  unfold lin at hx
  split at hx
  · exact segs_all isL l x (List.dropLast_subset _ hx)
  · exact segs_all isL l x hx
theorem plain_ins (l x : List UInt8) (i : Nat) (hi : i < (lin l).length) (hx : no isL x = true) : plainL ((lin l).take i ++ x :: (lin l).drop i) (lend l) = true := by
  have hall : ((lin l).take i ++ x :: (lin l).drop i).all (fun x => no isL x) = true := by
    rw [List.all_eq_true]
    intro y hy
    rcases List.mem_append.1 hy with h | h
    · exact lin_no l y (List.mem_of_mem_take h)
    · rcases List.mem_cons.1 h with rfl | h
      · exact hx
      · exact lin_no l y (List.mem_of_mem_drop h)
  have hne : (lin l).drop i ≠ [] := by
    intro h
    have := congrArg List.length h
    simp only [List.length_drop, List.length_nil] at this
    omega
  have hlast : ((lin l).take i ++ x :: (lin l).drop i).getLast? = (lin l).getLast? := by
    conv => rhs; rw [← List.take_append_drop i (lin l)]
    rw [List.getLast?_append, List.getLast?_append, List.getLast?_cons]
    cases h : ((lin l).drop i).getLast? with
    | none => exact absurd (List.getLast?_eq_none_iff.1 h) hne
    | some y => rfl
  unfold plainL
  rw [hall, hlast, Bool.true_and]
  obtain ⟨q, t, h⟩ := segs_snoc_form isL l
  by_cases ht : t = []
  · rw [((lin_of l q t h).1 ht).2]; rfl
  · rw [((lin_of l q t h).2 ht).1, ((lin_of l q t h).2 ht).2]
    simp [ht]
theorem sum_succ (xs : List (List UInt8)) : (xs.map (· ++ [10])).flatten.length = (xs.map (·.length)).sum + xs.length := by
  induction xs with
  | nil => rfl
  | cons x r ih => simp only [List.map_cons, List.flatten_cons, List.length_append, List.sum_cons, List.length_cons, List.length_nil, ih]; omega
theorem jn_size (xs : List (List UInt8)) (e : Bool) (h : xs ≠ []) : (jn xs e).length + (if e then 0 else 1) = (xs.map (·.length)).sum + xs.length := by
  have h1 := congrArg List.length (pre_jl xs h)
  rw [sum_succ, List.length_append] at h1
  unfold jn
  rw [if_neg h, List.length_append]
  cases e
  · simp only [Bool.false_eq_true, if_false, List.length_nil, List.length_cons] at h1 ⊢; omega
  · simp only [if_true, List.length_nil, List.length_cons] at h1 ⊢; omega
theorem ins_size (l x : List UInt8) (i : Nat) (hi : i < (lin l).length) : (jn ((lin l).take i ++ x :: (lin l).drop i) (lend l)).length = l.length + x.length + 1 := by
  have h1 := jn_size ((lin l).take i ++ x :: (lin l).drop i) (lend l) (by simp)
  have h2 := jn_size (lin l) (lend l) (by intro h; rw [h] at hi; exact absurd hi (Nat.not_lt_zero _))
  rw [jn_lin] at h2
  have h3 : ((lin l).map (·.length)).sum = (((lin l).take i).map (·.length)).sum + (((lin l).drop i).map (·.length)).sum := by
    conv => lhs; rw [← List.take_append_drop i (lin l)]
    rw [List.map_append, List.sum_append]
  simp only [List.map_append, List.sum_append, List.map_cons, List.sum_cons, List.length_append, List.length_cons, List.length_take, List.length_drop] at h1
  rw [h3] at h2
  omega
/-- What the law says of the two results. -/
def skipR (i : Nat) (r : Except (Int × Nat) PL) : Except (Int × Nat) PL := match r with
  | .ok L => .ok L
  | .error e => .error (e.1, if i < e.2 then e.2 + 1 else e.2)
theorem skip_math (l x : List UInt8) (i : Nat) (hi : i < (lin l).length) (hs : skipT x = true) (hx : no isL x = true) (hl : l.length ≤ 64534) (hxl : x.length ≤ 1001) :
    parseT (jn ((lin l).take i ++ x :: (lin l).drop i) (lend l)) = skipR i (parseT l) := by
  unfold parseT
  rw [ins_size l x i hi, (lin_jn _ _ (plain_ins l x i hi hx)).1, if_neg (by omega), if_neg (by omega)]
  have h1 : linesT 1 (lin l) (false, PLdef) = linesT 1 ((lin l).take i ++ (lin l).drop i) (false, PLdef) := by rw [List.take_append_drop]
  have hlen : ((lin l).take i).length = i := by rw [List.length_take]; omega
  rw [h1, linesT_app, linesT_app, hlen]
  cases ha : linesT 1 ((lin l).take i) (false, PLdef) with
  | error e =>
    have hp := linesT_pos _ ha
    rw [hlen] at hp
    simp only [skipR]
    rw [if_neg (by omega)]
  | ok t =>
    simp only [linesT, lineT_skip _ _ _ hs]
    rw [linesT_shift]
    cases hb : linesT (1 + i) ((lin l).drop i) t with
    | error e =>
      have hp := linesT_pos _ hb
      simp only [skipR]
      rw [if_pos (by omega)]
    | ok u =>
      simp only
      by_cases hu : u.1 = true
      · rw [if_pos hu, if_pos hu]; rfl
      · rw [if_neg hu, if_neg hu]
        simp only [skipR]
        rw [if_pos (by omega)]
        simp only [List.length_append, List.length_cons, hlen, List.length_drop]
        rw [show i + ((lin l).length - i + 1) + 1 = (lin l).length + 1 + 1 by omega]
theorem parse_ne {l : List UInt8} {e : Int × Nat} (h : parseT l = .error e) : e.1 ≠ 0 ∧ e.2 ≤ l.length + 2 := by
  unfold parseT at h
  split at h
  · cases h; exact ⟨by decide, by simp⟩
  · split at h
    · rename_i he
      cases h
      have := linesT_pos _ he
      have h2 := (lin_le l).1
      exact ⟨this.2.2, by omega⟩
    · split at h
      · cases h
      · cases h
        have h2 := (lin_le l).1
        exact ⟨(by decide : (1 : Int) ≠ 0), by show (lin l).length + 1 ≤ _; omega⟩
theorem skip_nil : skipT [] = true := rfl
theorem skip_hash (r : List UInt8) : skipT (35 :: r) = true := by unfold skipT; simp
end Go.Proofs.YtblaldcioneooaaDoor

/- The law on skipped lines. (Written by gen_ltsk.py.) -/
set_option linter.unusedVariables false
set_option maxRecDepth 100000
namespace Go.Proofs.YtblaldcioneooaaDoor
open Go.RowKit

/-! ### What Parse returns, in one form -/
def noLoc : Loc := { name := mk [], lower := mk [], upper := mk [], nw := 0, wt := fun _ => 0, nc := 0, cn := fun _ => mk [], cset := fun _ _ => false, ne := 0, et := fun _ => mk [], ew := fun _ => 0 }
def locOf (r : Except (Int × Nat) PL) : Loc := match r with
  | .ok L => toLoc 256 L
  | .error _ => noLoc
def erOf (r : Except (Int × Nat) PL) : Int := match r with
  | .ok _ => 0
  | .error e => e.1
def atOf (r : Except (Int × Nat) PL) : Nat := match r with
  | .ok _ => 0
  | .error e => e.2
abbrev Parsed (s : ByteArray) (P : Loc) (ev av : Int) : Prop := ∀ w, Calls Tryd.prog 22 #[.string s] w fun e w' => ∃ W C E, e = .returned (.tuple #[.agg #[.string P.name, W, .string P.lower, .string P.upper, C, E], .int .i64 ev, .int .i64 av]) ∧ LocM w' P W C E ∧ (P.nw < 2 ^ 62 ∧ P.nc < 2 ^ 62 ∧ P.ne < 2 ^ 62) ∧ Below w.heap.size w w'
theorem parse_uni (s : ByteArray) (r : Except (Int × Nat) PL) (hr : parseT s.data.toList = r) : Parsed s (locOf r) (erOf r) (atOf r) := by
  intro w
  refine (ltParse_any s w).mono ?_
  rw [hr]
  rintro e w' ⟨hb, h⟩
  cases r with
  | ok L =>
    obtain ⟨W, C, E, rfl, ⟨S, hm, _⟩, hf⟩ := h
    have h1 := hf.cls
    have h2 := hf.els
    exact ⟨W, C, E, rfl, hm.loc, ⟨by show 256 < 2 ^ 62; omega, by show L.cls.length < 2 ^ 62; omega, by show L.els.length < 2 ^ 62; omega⟩, hb⟩
  | error x =>
    subst h
    exact ⟨.slice none 0 0, .slice none 0 0, .slice none 0 0, rfl, ⟨⟨none, 0, rfl, Nat.le_refl _, .inl rfl⟩, ⟨none, 0, rfl, Nat.le_refl _, .inl rfl⟩, ⟨none, 0, rfl, Nat.le_refl _, .inl rfl⟩⟩, ⟨by show 0 < 2 ^ 62; omega, by show 0 < 2 ^ 62; omega, by show 0 < 2 ^ 62; omega⟩, hb⟩
theorem locOf_skip (i : Nat) (r : Except (Int × Nat) PL) : locOf (skipR i r) = locOf r ∧ erOf (skipR i r) = erOf r := by
  cases r <;> exact ⟨rfl, rfl⟩

/-- 'append(v, m[a:b]...)' of strings. -/
theorem app_sl {w : World} {ops : Array Oper} {rest : List Oper} {o : Oper} {a : Act} {Q : Exit → Act → World → Prop} (hgd : o.guard = none) (s x : Operand)
    (ho : o.op = .call { callee := .builtin .append, args := #[s, x], argTypes := #[30, 30] })
    (B : Nat) (v : Value) (n : Nat) (xs ys : List (List UInt8)) (b0 o0 m cap : Nat) (hs : a.eval s = v) (hx : a.eval x = .slice (some ⟨b0, o0, none⟩) m cap) (hown : w.ownsRow B 9 1 v n (strs3 xs))
    (hm : ys.length = m) (hc : ∀ (j : Nat) (x : List UInt8), ys[j]? = some x → w.cell? ⟨b0, o0 + j, none⟩ = some (.string (mk x))) (hB : B ≤ w.heap.size) (hn : n + m ≤ 1000000000)
    (h : ∀ v' w', w'.ownsRow B 9 1 v' (n + m) (strs3 (xs ++ ys)) → (∀ A0, Below B A0 w → Below B A0 w') → wpList Tryd.prog ops Q rest (a.put o.dst v') w') :
    wpList Tryd.prog ops Q (o :: rest) a w := by
  obtain ⟨i0, hi, hz0, hz1, hz2⟩ := info_parts tinfoS
  refine wpList_append_own w hgd s x 30 ho B 9 i0 (.string ByteArray.empty) 1 16 Tryd.underlying30 hi hz0 hz1 hz2 rfl (by decide) v n (strs3 xs) hs hown ⟨b0, o0, none⟩ m cap (strs3 ys) hx (by rw [strs_len]; omega) (fun j u hu => ?_) (strs_one ys) (by unfold maxLen; omega) (by omega) hB ?_
  · unfold strs3 at hu
    rw [List.getElem?_map] at hu
    cases hj : ys[j]? with
    | none => rw [hj] at hu; cases hu
    | some x =>
      rw [hj] at hu
      cases hu
      rw [Addr.add_mid]
      exact hc j x hj
  · intro v' w' hown' hgrow _
    rw [← strs_app] at hown'
    exact h v' w' hown' fun A0 hb => hb.grown hgrow hB (fun j e => (hown.lt j e).1)
theorem take_cells {w : World} {b o : Nat} {xs : List (List UInt8)} (h : ∀ (j : Nat) (x : List UInt8), xs[j]? = some x → w.cell? ⟨b, o + j, none⟩ = some (.string (mk x))) (i : Nat) :
    ∀ (j : Nat) (x : List UInt8), (xs.take i)[j]? = some x → w.cell? ⟨b, o + j, none⟩ = some (.string (mk x)) := fun j x hj => by
  rw [List.getElem?_take] at hj
  split at hj
  · exact h j x hj
  · cases hj
theorem drop_cells {w : World} {b o : Nat} {xs : List (List UInt8)} (h : ∀ (j : Nat) (x : List UInt8), xs[j]? = some x → w.cell? ⟨b, o + j, none⟩ = some (.string (mk x))) (i : Nat) :
    ∀ (j : Nat) (x : List UInt8), (xs.drop i)[j]? = some x → w.cell? ⟨b, o + i + j, none⟩ = some (.string (mk x)) := fun j x hj => by
  rw [List.getElem?_drop] at hj
  rw [Nat.add_assoc]
  exact h (i + j) x hj
theorem own_keep {w w' : World} {B n : Nat} {t : TypeId} {v : Value} {xs : List Value} (h : w.ownsRow B t 1 v n xs) (hb : Below w.heap.size w w') : w'.ownsRow B t 1 v n xs := by
  refine ⟨h.1, ?_⟩
  rcases h.2 with h2 | ⟨g, cap, cur, hv, hg, hh, r⟩
  · exact .inl h2
  · exact .inr ⟨g, cap, cur, hv, hg, (hb.block g (Array.getElem?_eq_some_iff.1 hh).1).trans hh, r⟩
theorem mk_hash (t : ByteArray) : mk (35 :: t.data.toList) = ⟨#[35]⟩ ++ t := by
  apply ByteArray.ext
  apply Array.ext'
  rw [mk_data, ByteArray.data_append, Array.toList_append]
  rfl
abbrev Lined (s : ByteArray) (X : List (List UInt8)) (b : Bool) : Prop := ∀ w, Calls Tryd.prog 24 #[.string s] w fun e w' => ∃ v, e = .returned (.tuple #[v, .bool b]) ∧ SA w' v X ∧ Below w.heap.size w w'

set_option maxHeartbeats 8000000 in
theorem sk_empty_0 (s t J : ByteArray) (i n : Nat) (av a2 : Int) (X : List (List UInt8)) (b : Bool) (P : Loc) (ev : Int) (hev : ev = 0) (ha2 : a2 = av) (ht : t.toList.isEmpty = true) (hn : X.length = n) (hi : i < n) (hn2 : n ≤ 100000) (hs : s.size ≤ 64534) (htz : t.size ≤ 1000) (hav1 : 0 ≤ av) (hav2 : av ≤ 100000)
    (H1 : Hid (Lined s X b)) (H2 : Hid (∀ w, Calls Tryd.prog 24 #[.string ⟨#[]⟩] w fun e w' => ∃ b' a2 c2, e = .returned (.tuple #[.slice a2 0 c2, .bool b']) ∧ Below w.heap.size w w'))
    (H3 : Hid (∀ v w, SA w v (X.take i ++ [] :: X.drop i) → Calls Tryd.prog 25 #[v, .bool b] w fun e w' => e = .returned (.string J) ∧ Below w.heap.size w w'))
    (H4 : Hid (Parsed s P ev av)) (H5 : Hid (Parsed J P ev a2)) (w : World) (HT : Hid (tabAt w)) :
    Calls Tryd.prog 7 #[.string s, .int .i64 i, .string t] w fun e w' => e = .returned (.bool true) ∧ Below w.heap.size w w' := by
  subst ha2
  subst hev
  have i0 : ¬ (i : Int) < 0 := by omega
  have i1 : ¬ (n : Int) ≤ i := by omega
  have i5 : (0 : Int) ≤ i := by omega
  have i6 : (i : Int) ≤ n := by omega
  have i2 : ¬ (1000 : Int) < t.size := by omega
  have i3 : ¬ (64534 : Int) < s.size := by omega
  have i4 : ¬ (9223372036854775807 : Int) < 1 + t.size := by omega
  have d0 : decide ((i : Int) < 0) = false := decide_eq_false i0
  have d1 : decide ((n : Int) ≤ i) = false := decide_eq_false i1
  have d2 : decide ((1000 : Int) < t.size) = false := decide_eq_false i2
  have d3 : decide ((64534 : Int) < s.size) = false := decide_eq_false i3
  have HK : Hid (([.string ⟨#[]⟩] : List Value) = strs3 [[]]) := rfl
  have htl : (X.take i).length = i := by rw [List.length_take]; omega
  have hdl : (X.drop i).length = n - i := by rw [List.length_drop]; omega
  go_enter Tryd.func7, Tryd.ntmps7
  go_wp2_with (first
    | (go_at_call 24
       with_reducible refine (H1.out _).mono ?_
       rintro e w1 ⟨v, rfl, hs1, hb⟩
       have HB1 := Lib.hid hb
       obtain ⟨a0, c0, hv0, hc0, hx0⟩ := hs1
       rw [hn] at hv0 hc0
       subst hv0
       have hx1 := hx0.resolve_left (by intro h; rw [h] at hn; simp at hn; omega)
       obtain ⟨b1, o1, rfl, hl1, hcl⟩ := hx1
       have HL1 := Lib.hid hl1
       have HC1 := Lib.hid hcl
       have HA1 := Lib.hid (take_cells hcl i)
       have HD1 := Lib.hid (drop_cells hcl i)
       have HO1 : Hid (w1.ownsRow w1.heap.size 9 1 (.slice none 0 0) 0 (strs3 [])) := World.ownsRow_nil _ _ _ _
       clear hx0 hl1 hcl hb)
    | (at_builtin
       refine app_sl rfl (.tmp 43) (.tmp 46) rfl w1.heap.size _ 0 [] (X.take i) b1 o1 i c0 rfl rfl HO1.out htl HA1.out (Nat.le_refl _) (by omega) ?_
       intro v2 w2 hown hb
       rw [Nat.zero_add, List.nil_append] at hown
       have HO2 := Lib.hid hown
       have HB2 := Lib.hid (hb w1 (Below.refl _ _))
       clear hown hb)
    | (go_at_call 24
       refine (H2.out _).mono ?_
       rintro e w3 ⟨b', a2', c2, rfl, hb⟩
       have HB3 := Lib.hid (HB2.out.trans (hb.mono HB2.out.size))
       have HO3 := Lib.hid (own_keep HO2.out hb)
       clear hb)
    | (at_builtin
       refine app_lit 30 9 (.string ByteArray.empty) 16 Tryd.underlying30 tinfoS rfl w3 rfl (.tmp 73) (.tmp 75) rfl w1.heap.size v2 i 1 _ [.string ⟨#[]⟩] rfl rfl HO3.out rfl rfl ?c1 HB3.out.size ?c2 ?c3 ?_
       case c1 => simp [Value.oneCell']
       case c2 => unfold maxLen; omega
       case c3 => omega
       intro v4 w4 hown hb
       have HO4 := Lib.hid (own_sapp (r := [[]]) hown HK.out)
       have HB4 := Lib.hid (hb w1 HB3.out)
       clear hown hb)
    | (at_builtin
       refine app_sl rfl (.tmp 77) (.tmp 80) rfl w1.heap.size v4 (i + 1) _ (X.drop i) b1 (o1 + i) (n - i) (c0 - i) rfl rfl HO4.out hdl (fun j x hj => (HB4.out.cell (by exact HL1.out)).trans (HD1.out j x hj)) HB4.out.size (by omega) ?_
       intro v5 w5 hown hb
       have HO5 := Lib.hid hown
       have HB5 := Lib.hid (hb w1 HB4.out)
       clear hown hb)
    | (go_at_call 22
       with_reducible refine (H4.out _).mono ?_
       rintro e w6 ⟨W1, C1, E1, rfl, hm, hP1, hb⟩
       have hm' := hm
       obtain ⟨⟨aw1, cw1, rfl, _⟩, ⟨ac1, cc1, rfl, _⟩, ⟨ae1, ce1, rfl, _⟩⟩ := hm'
       have hx : Below w6.heap.size w6 (w6.alloc (.cells #[.string P.name, .slice aw1 P.nw cw1, .string P.lower, .string P.upper, .slice ac1 P.nc cc1, .slice ae1 P.ne ce1] 26)) := (Below.refl _ _).alloc (Nat.le_refl _) _
       have HA6 : Hid (LAt (w6.alloc (.cells #[.string P.name, .slice aw1 P.nw cw1, .string P.lower, .string P.upper, .slice ac1 P.nc cc1, .slice ae1 P.ne ce1] 26)) w6.heap.size #[.string P.name, .slice aw1 P.nw cw1, .string P.lower, .string P.upper, .slice ac1 P.nc cc1, .slice ae1 P.ne ce1]) := heap_alloc_new w6 _
       have HX6 := Lib.hid hx
       have HM6 := Lib.hid (hm.below hx)
       have HB6 := Lib.hid ((HB5.out.trans (hb.mono HB5.out.size)).trans (hx.mono (Nat.le_trans HB5.out.size hb.size)))
       have HO6 := Lib.hid (own_keep (own_keep HO5.out hb) hx)
       have HS6 := Lib.hid (sa_own HO6.out)
       clear hx hm hb)
    | (go_at_call 25
       refine (H3.out v5 _ (by have := HS6.out; rwa [List.append_assoc] at this)).mono ?_
       rintro e w7 ⟨rfl, hb⟩
       have HB7 := Lib.hid (HB6.out.trans (hb.mono HB6.out.size))
       have HA7 := Lib.hid (HA6.out.under hb HA6.out.lt)
       have HM7 := Lib.hid (HM6.out.below hb)
       have HN7 := Lib.hid (Nat.lt_of_lt_of_le HA6.out.lt hb.size)
       clear hb)
    | (go_at_call 22
       with_reducible refine (H5.out _).mono ?_
       rintro e w8 ⟨W2, C2, E2, rfl, hm, hP2, hb⟩
       have hm' := hm
       obtain ⟨⟨aw2, cw2, rfl, _⟩, ⟨ac2, cc2, rfl, _⟩, ⟨ae2, ce2, rfl, _⟩⟩ := hm'
       have hx : Below w8.heap.size w8 (w8.alloc (.cells #[.string P.name, .slice aw2 P.nw cw2, .string P.lower, .string P.upper, .slice ac2 P.nc cc2, .slice ae2 P.ne ce2] 26)) := (Below.refl _ _).alloc (Nat.le_refl _) _
       have HA8 : Hid (LAt (w8.alloc (.cells #[.string P.name, .slice aw2 P.nw cw2, .string P.lower, .string P.upper, .slice ac2 P.nc cc2, .slice ae2 P.ne ce2] 26)) w8.heap.size #[.string P.name, .slice aw2 P.nw cw2, .string P.lower, .string P.upper, .slice ac2 P.nc cc2, .slice ae2 P.ne ce2]) := heap_alloc_new w8 _
       have HM8 := Lib.hid (hm.below hx)
       have hl8 := Nat.lt_of_lt_of_le HN7.out hb.size
       have HA8b := Lib.hid ((HA7.out.under hb HN7.out).under hx hl8)
       have HM8b := Lib.hid ((HM7.out.below hb).below hx)
       have HB8 := Lib.hid ((HB7.out.trans (hb.mono HB7.out.size)).trans (hx.mono (Nat.le_trans HB7.out.size hb.size)))
       obtain ⟨⟨x0, x1, x2⟩, ⟨x3, x4, x5⟩, hf⟩ := HA8b.out.six
       obtain ⟨⟨y0, y1, y2⟩, ⟨y3, y4, y5⟩, hg⟩ := HA8.out.six
       clear hx hm hb hf hg)
    | (go_at_call 23
       refine (sl_any P hP1.1 hP1.2.1 hP1.2.2 _ _ _ _ _ _ _ HM8b.out HM8.out).mono ?_
       rintro e w9 ⟨rfl, hb⟩
       have HB9 := Lib.hid (HB8.out.trans (hb.mono HB8.out.size))
       have HT9 := Lib.hid (tab_keep HT.out (HB1.out.trans (HB9.out.mono HB1.out.size)))
       clear hb)
    | (go_at_call 21
       refine (ltAwake_any _ HT9.out).mono ?_
       rintro e w10 ⟨rfl, hb⟩
       have HB10 := Lib.hid ((HB1.out.trans (HB9.out.mono HB1.out.size)).trans (hb.mono (Nat.le_trans HB1.out.size HB9.out.size)))
       clear hb)
    )
  go_ret
  exact ⟨rfl, HB10.out⟩

set_option maxHeartbeats 8000000 in
theorem sk_empty_1 (s t J : ByteArray) (i n : Nat) (av a2 : Int) (X : List (List UInt8)) (b : Bool) (P : Loc) (ev : Int) (hev : ev ≠ 0) (hav : (i : Int) < av) (ha2 : a2 = av + 1) (ht : t.toList.isEmpty = true) (hn : X.length = n) (hi : i < n) (hn2 : n ≤ 100000) (hs : s.size ≤ 64534) (htz : t.size ≤ 1000) (hav1 : 0 ≤ av) (hav2 : av ≤ 100000)
    (H1 : Hid (Lined s X b)) (H2 : Hid (∀ w, Calls Tryd.prog 24 #[.string ⟨#[]⟩] w fun e w' => ∃ b' a2 c2, e = .returned (.tuple #[.slice a2 0 c2, .bool b']) ∧ Below w.heap.size w w'))
    (H3 : Hid (∀ v w, SA w v (X.take i ++ [] :: X.drop i) → Calls Tryd.prog 25 #[v, .bool b] w fun e w' => e = .returned (.string J) ∧ Below w.heap.size w w'))
    (H4 : Hid (Parsed s P ev av)) (H5 : Hid (Parsed J P ev a2)) (w : World) (HT : Hid (tabAt w)) :
    Calls Tryd.prog 7 #[.string s, .int .i64 i, .string t] w fun e w' => e = .returned (.bool true) ∧ Below w.heap.size w w' := by
  subst ha2
  have e0 : decide (ev = 0) = false := decide_eq_false hev
  have e1 : decide ((i : Int) < av) = true := decide_eq_true hav
  have e2 : wrap64 (av + 1) = av + 1 := by unfold wrap64; omega
  have i0 : ¬ (i : Int) < 0 := by omega
  have i1 : ¬ (n : Int) ≤ i := by omega
  have i5 : (0 : Int) ≤ i := by omega
  have i6 : (i : Int) ≤ n := by omega
  have i2 : ¬ (1000 : Int) < t.size := by omega
  have i3 : ¬ (64534 : Int) < s.size := by omega
  have i4 : ¬ (9223372036854775807 : Int) < 1 + t.size := by omega
  have d0 : decide ((i : Int) < 0) = false := decide_eq_false i0
  have d1 : decide ((n : Int) ≤ i) = false := decide_eq_false i1
  have d2 : decide ((1000 : Int) < t.size) = false := decide_eq_false i2
  have d3 : decide ((64534 : Int) < s.size) = false := decide_eq_false i3
  have HK : Hid (([.string ⟨#[]⟩] : List Value) = strs3 [[]]) := rfl
  have htl : (X.take i).length = i := by rw [List.length_take]; omega
  have hdl : (X.drop i).length = n - i := by rw [List.length_drop]; omega
  go_enter Tryd.func7, Tryd.ntmps7
  go_wp2_with (first
    | (go_at_call 24
       with_reducible refine (H1.out _).mono ?_
       rintro e w1 ⟨v, rfl, hs1, hb⟩
       have HB1 := Lib.hid hb
       obtain ⟨a0, c0, hv0, hc0, hx0⟩ := hs1
       rw [hn] at hv0 hc0
       subst hv0
       have hx1 := hx0.resolve_left (by intro h; rw [h] at hn; simp at hn; omega)
       obtain ⟨b1, o1, rfl, hl1, hcl⟩ := hx1
       have HL1 := Lib.hid hl1
       have HC1 := Lib.hid hcl
       have HA1 := Lib.hid (take_cells hcl i)
       have HD1 := Lib.hid (drop_cells hcl i)
       have HO1 : Hid (w1.ownsRow w1.heap.size 9 1 (.slice none 0 0) 0 (strs3 [])) := World.ownsRow_nil _ _ _ _
       clear hx0 hl1 hcl hb)
    | (at_builtin
       refine app_sl rfl (.tmp 43) (.tmp 46) rfl w1.heap.size _ 0 [] (X.take i) b1 o1 i c0 rfl rfl HO1.out htl HA1.out (Nat.le_refl _) (by omega) ?_
       intro v2 w2 hown hb
       rw [Nat.zero_add, List.nil_append] at hown
       have HO2 := Lib.hid hown
       have HB2 := Lib.hid (hb w1 (Below.refl _ _))
       clear hown hb)
    | (go_at_call 24
       refine (H2.out _).mono ?_
       rintro e w3 ⟨b', a2', c2, rfl, hb⟩
       have HB3 := Lib.hid (HB2.out.trans (hb.mono HB2.out.size))
       have HO3 := Lib.hid (own_keep HO2.out hb)
       clear hb)
    | (at_builtin
       refine app_lit 30 9 (.string ByteArray.empty) 16 Tryd.underlying30 tinfoS rfl w3 rfl (.tmp 73) (.tmp 75) rfl w1.heap.size v2 i 1 _ [.string ⟨#[]⟩] rfl rfl HO3.out rfl rfl ?c1 HB3.out.size ?c2 ?c3 ?_
       case c1 => simp [Value.oneCell']
       case c2 => unfold maxLen; omega
       case c3 => omega
       intro v4 w4 hown hb
       have HO4 := Lib.hid (own_sapp (r := [[]]) hown HK.out)
       have HB4 := Lib.hid (hb w1 HB3.out)
       clear hown hb)
    | (at_builtin
       refine app_sl rfl (.tmp 77) (.tmp 80) rfl w1.heap.size v4 (i + 1) _ (X.drop i) b1 (o1 + i) (n - i) (c0 - i) rfl rfl HO4.out hdl (fun j x hj => (HB4.out.cell (by exact HL1.out)).trans (HD1.out j x hj)) HB4.out.size (by omega) ?_
       intro v5 w5 hown hb
       have HO5 := Lib.hid hown
       have HB5 := Lib.hid (hb w1 HB4.out)
       clear hown hb)
    | (go_at_call 22
       with_reducible refine (H4.out _).mono ?_
       rintro e w6 ⟨W1, C1, E1, rfl, hm, hP1, hb⟩
       have hm' := hm
       obtain ⟨⟨aw1, cw1, rfl, _⟩, ⟨ac1, cc1, rfl, _⟩, ⟨ae1, ce1, rfl, _⟩⟩ := hm'
       have hx : Below w6.heap.size w6 (w6.alloc (.cells #[.string P.name, .slice aw1 P.nw cw1, .string P.lower, .string P.upper, .slice ac1 P.nc cc1, .slice ae1 P.ne ce1] 26)) := (Below.refl _ _).alloc (Nat.le_refl _) _
       have HA6 : Hid (LAt (w6.alloc (.cells #[.string P.name, .slice aw1 P.nw cw1, .string P.lower, .string P.upper, .slice ac1 P.nc cc1, .slice ae1 P.ne ce1] 26)) w6.heap.size #[.string P.name, .slice aw1 P.nw cw1, .string P.lower, .string P.upper, .slice ac1 P.nc cc1, .slice ae1 P.ne ce1]) := heap_alloc_new w6 _
       have HX6 := Lib.hid hx
       have HM6 := Lib.hid (hm.below hx)
       have HB6 := Lib.hid ((HB5.out.trans (hb.mono HB5.out.size)).trans (hx.mono (Nat.le_trans HB5.out.size hb.size)))
       have HO6 := Lib.hid (own_keep (own_keep HO5.out hb) hx)
       have HS6 := Lib.hid (sa_own HO6.out)
       clear hx hm hb)
    | (go_at_call 25
       refine (H3.out v5 _ (by have := HS6.out; rwa [List.append_assoc] at this)).mono ?_
       rintro e w7 ⟨rfl, hb⟩
       have HB7 := Lib.hid (HB6.out.trans (hb.mono HB6.out.size))
       have HA7 := Lib.hid (HA6.out.under hb HA6.out.lt)
       have HM7 := Lib.hid (HM6.out.below hb)
       have HN7 := Lib.hid (Nat.lt_of_lt_of_le HA6.out.lt hb.size)
       clear hb)
    | (go_at_call 22
       with_reducible refine (H5.out _).mono ?_
       rintro e w8 ⟨W2, C2, E2, rfl, hm, hP2, hb⟩
       have hm' := hm
       obtain ⟨⟨aw2, cw2, rfl, _⟩, ⟨ac2, cc2, rfl, _⟩, ⟨ae2, ce2, rfl, _⟩⟩ := hm'
       have hx : Below w8.heap.size w8 (w8.alloc (.cells #[.string P.name, .slice aw2 P.nw cw2, .string P.lower, .string P.upper, .slice ac2 P.nc cc2, .slice ae2 P.ne ce2] 26)) := (Below.refl _ _).alloc (Nat.le_refl _) _
       have HA8 : Hid (LAt (w8.alloc (.cells #[.string P.name, .slice aw2 P.nw cw2, .string P.lower, .string P.upper, .slice ac2 P.nc cc2, .slice ae2 P.ne ce2] 26)) w8.heap.size #[.string P.name, .slice aw2 P.nw cw2, .string P.lower, .string P.upper, .slice ac2 P.nc cc2, .slice ae2 P.ne ce2]) := heap_alloc_new w8 _
       have HM8 := Lib.hid (hm.below hx)
       have hl8 := Nat.lt_of_lt_of_le HN7.out hb.size
       have HA8b := Lib.hid ((HA7.out.under hb HN7.out).under hx hl8)
       have HM8b := Lib.hid ((HM7.out.below hb).below hx)
       have HB8 := Lib.hid ((HB7.out.trans (hb.mono HB7.out.size)).trans (hx.mono (Nat.le_trans HB7.out.size hb.size)))
       obtain ⟨⟨x0, x1, x2⟩, ⟨x3, x4, x5⟩, hf⟩ := HA8b.out.six
       obtain ⟨⟨y0, y1, y2⟩, ⟨y3, y4, y5⟩, hg⟩ := HA8.out.six
       clear hx hm hb hf hg)
    | (go_at_call 23
       refine (sl_any P hP1.1 hP1.2.1 hP1.2.2 _ _ _ _ _ _ _ HM8b.out HM8.out).mono ?_
       rintro e w9 ⟨rfl, hb⟩
       have HB9 := Lib.hid (HB8.out.trans (hb.mono HB8.out.size))
       have HT9 := Lib.hid (tab_keep HT.out (HB1.out.trans (HB9.out.mono HB1.out.size)))
       clear hb)
    | (go_at_call 21
       refine (ltAwake_any _ HT9.out).mono ?_
       rintro e w10 ⟨rfl, hb⟩
       have HB10 := Lib.hid ((HB1.out.trans (HB9.out.mono HB1.out.size)).trans (hb.mono (Nat.le_trans HB1.out.size HB9.out.size)))
       clear hb)
    )
  go_ret
  exact ⟨rfl, HB10.out⟩

set_option maxHeartbeats 8000000 in
theorem sk_empty_2 (s t J : ByteArray) (i n : Nat) (av a2 : Int) (X : List (List UInt8)) (b : Bool) (P : Loc) (ev : Int) (hev : ev ≠ 0) (hav : ¬ (i : Int) < av) (ha2 : a2 = av) (ht : t.toList.isEmpty = true) (hn : X.length = n) (hi : i < n) (hn2 : n ≤ 100000) (hs : s.size ≤ 64534) (htz : t.size ≤ 1000) (hav1 : 0 ≤ av) (hav2 : av ≤ 100000)
    (H1 : Hid (Lined s X b)) (H2 : Hid (∀ w, Calls Tryd.prog 24 #[.string ⟨#[]⟩] w fun e w' => ∃ b' a2 c2, e = .returned (.tuple #[.slice a2 0 c2, .bool b']) ∧ Below w.heap.size w w'))
    (H3 : Hid (∀ v w, SA w v (X.take i ++ [] :: X.drop i) → Calls Tryd.prog 25 #[v, .bool b] w fun e w' => e = .returned (.string J) ∧ Below w.heap.size w w'))
    (H4 : Hid (Parsed s P ev av)) (H5 : Hid (Parsed J P ev a2)) (w : World) (HT : Hid (tabAt w)) :
    Calls Tryd.prog 7 #[.string s, .int .i64 i, .string t] w fun e w' => e = .returned (.bool true) ∧ Below w.heap.size w w' := by
  subst ha2
  have e0 : decide (ev = 0) = false := decide_eq_false hev
  have e1 := decide_eq_false hav
  have i0 : ¬ (i : Int) < 0 := by omega
  have i1 : ¬ (n : Int) ≤ i := by omega
  have i5 : (0 : Int) ≤ i := by omega
  have i6 : (i : Int) ≤ n := by omega
  have i2 : ¬ (1000 : Int) < t.size := by omega
  have i3 : ¬ (64534 : Int) < s.size := by omega
  have i4 : ¬ (9223372036854775807 : Int) < 1 + t.size := by omega
  have d0 : decide ((i : Int) < 0) = false := decide_eq_false i0
  have d1 : decide ((n : Int) ≤ i) = false := decide_eq_false i1
  have d2 : decide ((1000 : Int) < t.size) = false := decide_eq_false i2
  have d3 : decide ((64534 : Int) < s.size) = false := decide_eq_false i3
  have HK : Hid (([.string ⟨#[]⟩] : List Value) = strs3 [[]]) := rfl
  have htl : (X.take i).length = i := by rw [List.length_take]; omega
  have hdl : (X.drop i).length = n - i := by rw [List.length_drop]; omega
  go_enter Tryd.func7, Tryd.ntmps7
  go_wp2_with (first
    | (go_at_call 24
       with_reducible refine (H1.out _).mono ?_
       rintro e w1 ⟨v, rfl, hs1, hb⟩
       have HB1 := Lib.hid hb
       obtain ⟨a0, c0, hv0, hc0, hx0⟩ := hs1
       rw [hn] at hv0 hc0
       subst hv0
       have hx1 := hx0.resolve_left (by intro h; rw [h] at hn; simp at hn; omega)
       obtain ⟨b1, o1, rfl, hl1, hcl⟩ := hx1
       have HL1 := Lib.hid hl1
       have HC1 := Lib.hid hcl
       have HA1 := Lib.hid (take_cells hcl i)
       have HD1 := Lib.hid (drop_cells hcl i)
       have HO1 : Hid (w1.ownsRow w1.heap.size 9 1 (.slice none 0 0) 0 (strs3 [])) := World.ownsRow_nil _ _ _ _
       clear hx0 hl1 hcl hb)
    | (at_builtin
       refine app_sl rfl (.tmp 43) (.tmp 46) rfl w1.heap.size _ 0 [] (X.take i) b1 o1 i c0 rfl rfl HO1.out htl HA1.out (Nat.le_refl _) (by omega) ?_
       intro v2 w2 hown hb
       rw [Nat.zero_add, List.nil_append] at hown
       have HO2 := Lib.hid hown
       have HB2 := Lib.hid (hb w1 (Below.refl _ _))
       clear hown hb)
    | (go_at_call 24
       refine (H2.out _).mono ?_
       rintro e w3 ⟨b', a2', c2, rfl, hb⟩
       have HB3 := Lib.hid (HB2.out.trans (hb.mono HB2.out.size))
       have HO3 := Lib.hid (own_keep HO2.out hb)
       clear hb)
    | (at_builtin
       refine app_lit 30 9 (.string ByteArray.empty) 16 Tryd.underlying30 tinfoS rfl w3 rfl (.tmp 73) (.tmp 75) rfl w1.heap.size v2 i 1 _ [.string ⟨#[]⟩] rfl rfl HO3.out rfl rfl ?c1 HB3.out.size ?c2 ?c3 ?_
       case c1 => simp [Value.oneCell']
       case c2 => unfold maxLen; omega
       case c3 => omega
       intro v4 w4 hown hb
       have HO4 := Lib.hid (own_sapp (r := [[]]) hown HK.out)
       have HB4 := Lib.hid (hb w1 HB3.out)
       clear hown hb)
    | (at_builtin
       refine app_sl rfl (.tmp 77) (.tmp 80) rfl w1.heap.size v4 (i + 1) _ (X.drop i) b1 (o1 + i) (n - i) (c0 - i) rfl rfl HO4.out hdl (fun j x hj => (HB4.out.cell (by exact HL1.out)).trans (HD1.out j x hj)) HB4.out.size (by omega) ?_
       intro v5 w5 hown hb
       have HO5 := Lib.hid hown
       have HB5 := Lib.hid (hb w1 HB4.out)
       clear hown hb)
    | (go_at_call 22
       with_reducible refine (H4.out _).mono ?_
       rintro e w6 ⟨W1, C1, E1, rfl, hm, hP1, hb⟩
       have hm' := hm
       obtain ⟨⟨aw1, cw1, rfl, _⟩, ⟨ac1, cc1, rfl, _⟩, ⟨ae1, ce1, rfl, _⟩⟩ := hm'
       have hx : Below w6.heap.size w6 (w6.alloc (.cells #[.string P.name, .slice aw1 P.nw cw1, .string P.lower, .string P.upper, .slice ac1 P.nc cc1, .slice ae1 P.ne ce1] 26)) := (Below.refl _ _).alloc (Nat.le_refl _) _
       have HA6 : Hid (LAt (w6.alloc (.cells #[.string P.name, .slice aw1 P.nw cw1, .string P.lower, .string P.upper, .slice ac1 P.nc cc1, .slice ae1 P.ne ce1] 26)) w6.heap.size #[.string P.name, .slice aw1 P.nw cw1, .string P.lower, .string P.upper, .slice ac1 P.nc cc1, .slice ae1 P.ne ce1]) := heap_alloc_new w6 _
       have HX6 := Lib.hid hx
       have HM6 := Lib.hid (hm.below hx)
       have HB6 := Lib.hid ((HB5.out.trans (hb.mono HB5.out.size)).trans (hx.mono (Nat.le_trans HB5.out.size hb.size)))
       have HO6 := Lib.hid (own_keep (own_keep HO5.out hb) hx)
       have HS6 := Lib.hid (sa_own HO6.out)
       clear hx hm hb)
    | (go_at_call 25
       refine (H3.out v5 _ (by have := HS6.out; rwa [List.append_assoc] at this)).mono ?_
       rintro e w7 ⟨rfl, hb⟩
       have HB7 := Lib.hid (HB6.out.trans (hb.mono HB6.out.size))
       have HA7 := Lib.hid (HA6.out.under hb HA6.out.lt)
       have HM7 := Lib.hid (HM6.out.below hb)
       have HN7 := Lib.hid (Nat.lt_of_lt_of_le HA6.out.lt hb.size)
       clear hb)
    | (go_at_call 22
       with_reducible refine (H5.out _).mono ?_
       rintro e w8 ⟨W2, C2, E2, rfl, hm, hP2, hb⟩
       have hm' := hm
       obtain ⟨⟨aw2, cw2, rfl, _⟩, ⟨ac2, cc2, rfl, _⟩, ⟨ae2, ce2, rfl, _⟩⟩ := hm'
       have hx : Below w8.heap.size w8 (w8.alloc (.cells #[.string P.name, .slice aw2 P.nw cw2, .string P.lower, .string P.upper, .slice ac2 P.nc cc2, .slice ae2 P.ne ce2] 26)) := (Below.refl _ _).alloc (Nat.le_refl _) _
       have HA8 : Hid (LAt (w8.alloc (.cells #[.string P.name, .slice aw2 P.nw cw2, .string P.lower, .string P.upper, .slice ac2 P.nc cc2, .slice ae2 P.ne ce2] 26)) w8.heap.size #[.string P.name, .slice aw2 P.nw cw2, .string P.lower, .string P.upper, .slice ac2 P.nc cc2, .slice ae2 P.ne ce2]) := heap_alloc_new w8 _
       have HM8 := Lib.hid (hm.below hx)
       have hl8 := Nat.lt_of_lt_of_le HN7.out hb.size
       have HA8b := Lib.hid ((HA7.out.under hb HN7.out).under hx hl8)
       have HM8b := Lib.hid ((HM7.out.below hb).below hx)
       have HB8 := Lib.hid ((HB7.out.trans (hb.mono HB7.out.size)).trans (hx.mono (Nat.le_trans HB7.out.size hb.size)))
       obtain ⟨⟨x0, x1, x2⟩, ⟨x3, x4, x5⟩, hf⟩ := HA8b.out.six
       obtain ⟨⟨y0, y1, y2⟩, ⟨y3, y4, y5⟩, hg⟩ := HA8.out.six
       clear hx hm hb hf hg)
    | (go_at_call 23
       refine (sl_any P hP1.1 hP1.2.1 hP1.2.2 _ _ _ _ _ _ _ HM8b.out HM8.out).mono ?_
       rintro e w9 ⟨rfl, hb⟩
       have HB9 := Lib.hid (HB8.out.trans (hb.mono HB8.out.size))
       have HT9 := Lib.hid (tab_keep HT.out (HB1.out.trans (HB9.out.mono HB1.out.size)))
       clear hb)
    | (go_at_call 21
       refine (ltAwake_any _ HT9.out).mono ?_
       rintro e w10 ⟨rfl, hb⟩
       have HB10 := Lib.hid ((HB1.out.trans (HB9.out.mono HB1.out.size)).trans (hb.mono (Nat.le_trans HB1.out.size HB9.out.size)))
       clear hb)
    )
  go_ret
  exact ⟨rfl, HB10.out⟩

set_option maxHeartbeats 8000000 in
theorem sk_neg (s t : ByteArray) (line : Int) (n : Nat) (X : List (List UInt8)) (b : Bool) (hn : X.length = n) (h0 : line < 0)
    (H1 : Hid (Lined s X b)) (w : World) (HT : Hid (tabAt w)) :
    Calls Tryd.prog 7 #[.string s, .int .i64 line, .string t] w fun e w' => e = .returned (.bool true) ∧ Below w.heap.size w w' := by
  have d0 : decide (line < 0) = true := decide_eq_true (by omega)
  go_enter Tryd.func7, Tryd.ntmps7
  go_wp2_with (first
    | (go_at_call 24
       with_reducible refine (H1.out _).mono ?_
       rintro e w1 ⟨v, rfl, hs1, hb⟩
       have HB1 := Lib.hid hb
       obtain ⟨a0, c0, hv0, hc0, hx0⟩ := hs1
       rw [hn] at hv0 hc0
       subst hv0
       have HTz := Lib.hid (tab_keep HT.out hb)
       have HBz := HB1
       clear hx0 hb)
    | (go_at_call 21
       refine (ltAwake_any _ HTz.out).mono ?_
       rintro e w10 ⟨rfl, hb⟩
       have HB10 := Lib.hid (HBz.out.trans (hb.mono HBz.out.size))
       clear hb)
    )
  go_ret
  exact ⟨rfl, HB10.out⟩

set_option maxHeartbeats 8000000 in
theorem sk_big (s t : ByteArray) (line : Int) (n : Nat) (X : List (List UInt8)) (b : Bool) (hn : X.length = n) (h0 : ¬ line < 0) (h1 : (n : Int) ≤ line)
    (H1 : Hid (Lined s X b)) (w : World) (HT : Hid (tabAt w)) :
    Calls Tryd.prog 7 #[.string s, .int .i64 line, .string t] w fun e w' => e = .returned (.bool true) ∧ Below w.heap.size w w' := by
  have d0 : decide (line < 0) = false := decide_eq_false (by omega)
  have d1 : decide ((n : Int) ≤ line) = true := decide_eq_true (by omega)
  go_enter Tryd.func7, Tryd.ntmps7
  go_wp2_with (first
    | (go_at_call 24
       with_reducible refine (H1.out _).mono ?_
       rintro e w1 ⟨v, rfl, hs1, hb⟩
       have HB1 := Lib.hid hb
       obtain ⟨a0, c0, hv0, hc0, hx0⟩ := hs1
       rw [hn] at hv0 hc0
       subst hv0
       have HTz := Lib.hid (tab_keep HT.out hb)
       have HBz := HB1
       clear hx0 hb)
    | (go_at_call 21
       refine (ltAwake_any _ HTz.out).mono ?_
       rintro e w10 ⟨rfl, hb⟩
       have HB10 := Lib.hid (HBz.out.trans (hb.mono HBz.out.size))
       clear hb)
    )
  go_ret
  exact ⟨rfl, HB10.out⟩

set_option maxHeartbeats 8000000 in
theorem sk_long (s t : ByteArray) (line : Int) (n : Nat) (X : List (List UInt8)) (b : Bool) (hn : X.length = n) (h0 : ¬ line < 0) (h1 : ¬ (n : Int) ≤ line) (h2 : 1000 < t.size)
    (H1 : Hid (Lined s X b)) (w : World) (HT : Hid (tabAt w)) :
    Calls Tryd.prog 7 #[.string s, .int .i64 line, .string t] w fun e w' => e = .returned (.bool true) ∧ Below w.heap.size w w' := by
  have d0 : decide (line < 0) = false := decide_eq_false (by omega)
  have d1 : decide ((n : Int) ≤ line) = false := decide_eq_false (by omega)
  have d2 : decide ((1000 : Int) < t.size) = true := decide_eq_true (by omega)
  go_enter Tryd.func7, Tryd.ntmps7
  go_wp2_with (first
    | (go_at_call 24
       with_reducible refine (H1.out _).mono ?_
       rintro e w1 ⟨v, rfl, hs1, hb⟩
       have HB1 := Lib.hid hb
       obtain ⟨a0, c0, hv0, hc0, hx0⟩ := hs1
       rw [hn] at hv0 hc0
       subst hv0
       have HTz := Lib.hid (tab_keep HT.out hb)
       have HBz := HB1
       clear hx0 hb)
    | (go_at_call 21
       refine (ltAwake_any _ HTz.out).mono ?_
       rintro e w10 ⟨rfl, hb⟩
       have HB10 := Lib.hid (HBz.out.trans (hb.mono HBz.out.size))
       clear hb)
    )
  go_ret
  exact ⟨rfl, HB10.out⟩

set_option maxHeartbeats 8000000 in
theorem sk_lim (s t : ByteArray) (line : Int) (n : Nat) (X : List (List UInt8)) (b : Bool) (hn : X.length = n) (h0 : ¬ line < 0) (h1 : ¬ (n : Int) ≤ line) (h2 : ¬ 1000 < t.size) (h3 : 64534 < s.size)
    (H1 : Hid (Lined s X b)) (w : World) (HT : Hid (tabAt w)) :
    Calls Tryd.prog 7 #[.string s, .int .i64 line, .string t] w fun e w' => e = .returned (.bool true) ∧ Below w.heap.size w w' := by
  have d0 : decide (line < 0) = false := decide_eq_false (by omega)
  have d1 : decide ((n : Int) ≤ line) = false := decide_eq_false (by omega)
  have d2 : decide ((1000 : Int) < t.size) = false := decide_eq_false (by omega)
  have d3 : decide ((64534 : Int) < s.size) = true := decide_eq_true (by omega)
  go_enter Tryd.func7, Tryd.ntmps7
  go_wp2_with (first
    | (go_at_call 24
       with_reducible refine (H1.out _).mono ?_
       rintro e w1 ⟨v, rfl, hs1, hb⟩
       have HB1 := Lib.hid hb
       obtain ⟨a0, c0, hv0, hc0, hx0⟩ := hs1
       rw [hn] at hv0 hc0
       subst hv0
       have HTz := Lib.hid (tab_keep HT.out hb)
       have HBz := HB1
       clear hx0 hb)
    | (go_at_call 21
       refine (ltAwake_any _ HTz.out).mono ?_
       rintro e w10 ⟨rfl, hb⟩
       have HB10 := Lib.hid (HBz.out.trans (hb.mono HBz.out.size))
       clear hb)
    )
  go_ret
  exact ⟨rfl, HB10.out⟩

set_option maxHeartbeats 8000000 in
theorem sk_nl1 (s t : ByteArray) (line : Int) (n : Nat) (X : List (List UInt8)) (b : Bool) (hn : X.length = n) (h0 : ¬ line < 0) (h1 : ¬ (n : Int) ≤ line) (h2 : ¬ 1000 < t.size) (h3 : ¬ 64534 < s.size) (hn2 : n ≤ 100000) (ht : t.toList.isEmpty = false) (K : ByteArray) (hK : (⟨#[35]⟩ : ByteArray) ++ t = K) (H2 : Hid (∀ w, Calls Tryd.prog 24 #[.string K] w fun e w' => (∃ b' a2 m c2, e = .returned (.tuple #[.slice a2 m c2, .bool b']) ∧ 1 < m) ∧ Below w.heap.size w w'))
    (H1 : Hid (Lined s X b)) (w : World) (HT : Hid (tabAt w)) :
    Calls Tryd.prog 7 #[.string s, .int .i64 line, .string t] w fun e w' => e = .returned (.bool true) ∧ Below w.heap.size w w' := by
  have d0 : decide (line < 0) = false := decide_eq_false (by omega)
  have d1 : decide ((n : Int) ≤ line) = false := decide_eq_false (by omega)
  have d2 : decide ((1000 : Int) < t.size) = false := decide_eq_false (by omega)
  have d3 : decide ((64534 : Int) < s.size) = false := decide_eq_false (by omega)
  have i4 : ¬ (9223372036854775807 : Int) < 1 + t.size := by omega
  obtain ⟨i, rfl⟩ : ∃ i : Nat, line = (i : Int) := ⟨line.toNat, by omega⟩
  have hi : i < n := by omega
  have i5 : (0 : Int) ≤ i := by omega
  have i6 : (i : Int) ≤ n := by omega
  have htl : (X.take i).length = i := by rw [List.length_take]; omega
  go_enter Tryd.func7, Tryd.ntmps7
  go_wp2_with (first
    | (go_at_call 24
       with_reducible refine (H1.out _).mono ?_
       rintro e w1 ⟨v, rfl, hs1, hb⟩
       have HB1 := Lib.hid hb
       obtain ⟨a0, c0, hv0, hc0, hx0⟩ := hs1
       rw [hn] at hv0 hc0
       subst hv0
       clear hb)
    | (at_builtin
       have hx1 := hx0.resolve_left (by intro h; rw [h] at hn; simp at hn; omega)
       obtain ⟨b1, o1, rfl, hl1, hcl⟩ := hx1
       have HO1 : Hid (w1.ownsRow w1.heap.size 9 1 (.slice none 0 0) 0 (strs3 [])) := World.ownsRow_nil _ _ _ _
       refine app_sl rfl (.tmp 43) (.tmp 46) rfl w1.heap.size _ 0 [] (X.take i) b1 o1 i c0 rfl rfl HO1.out htl (take_cells hcl i) (Nat.le_refl _) (by omega) ?_
       intro v2 w2 hown hb
       have HB2 := Lib.hid (hb w1 (Below.refl _ _))
       clear hown hb hx0 hcl hl1)
    | (go_at_call 24
       refine (H2.out _).mono ?_
       rintro e w3 ⟨⟨b', a2, m, c2, rfl, hm⟩, hb⟩
       have m1 : (1 : Int) < m := by omega
       have m2 : decide ((1 : Int) < m) = true := decide_eq_true m1
       have HB3 := Lib.hid (HB2.out.trans (hb.mono HB2.out.size))
       have HBz := Lib.hid (HB1.out.trans (HB3.out.mono HB1.out.size))
       have HTz := Lib.hid (tab_keep HT.out HBz.out)
       clear hb)
    | (go_at_call 21
       refine (ltAwake_any _ HTz.out).mono ?_
       rintro e w10 ⟨rfl, hb⟩
       have HB10 := Lib.hid (HBz.out.trans (hb.mono HBz.out.size))
       clear hb)
    )
  go_ret
  exact ⟨rfl, HB10.out⟩

set_option maxHeartbeats 8000000 in
theorem sk_nl2 (s t : ByteArray) (line : Int) (n : Nat) (X : List (List UInt8)) (b : Bool) (hn : X.length = n) (h0 : ¬ line < 0) (h1 : ¬ (n : Int) ≤ line) (h2 : ¬ 1000 < t.size) (h3 : ¬ 64534 < s.size) (hn2 : n ≤ 100000) (ht : t.toList.isEmpty = false) (K : ByteArray) (Z : ByteArray) (hZ : (Z.toList == K.toList) = false) (hK : (⟨#[35]⟩ : ByteArray) ++ t = K) (H2 : Hid (∀ w, Calls Tryd.prog 24 #[.string K] w fun e w' => (∃ b' b2 o2 c2, e = .returned (.tuple #[.slice (some ⟨b2, o2, none⟩) 1 c2, .bool b']) ∧ w'.cell? ⟨b2, o2, none⟩ = some (.string Z)) ∧ Below w.heap.size w w'))
    (H1 : Hid (Lined s X b)) (w : World) (HT : Hid (tabAt w)) :
    Calls Tryd.prog 7 #[.string s, .int .i64 line, .string t] w fun e w' => e = .returned (.bool true) ∧ Below w.heap.size w w' := by
  have d0 : decide (line < 0) = false := decide_eq_false (by omega)
  have d1 : decide ((n : Int) ≤ line) = false := decide_eq_false (by omega)
  have d2 : decide ((1000 : Int) < t.size) = false := decide_eq_false (by omega)
  have d3 : decide ((64534 : Int) < s.size) = false := decide_eq_false (by omega)
  have i4 : ¬ (9223372036854775807 : Int) < 1 + t.size := by omega
  obtain ⟨i, rfl⟩ : ∃ i : Nat, line = (i : Int) := ⟨line.toNat, by omega⟩
  have hi : i < n := by omega
  have i5 : (0 : Int) ≤ i := by omega
  have i6 : (i : Int) ≤ n := by omega
  have htl : (X.take i).length = i := by rw [List.length_take]; omega
  go_enter Tryd.func7, Tryd.ntmps7
  go_wp2_with (first
    | (go_at_call 24
       with_reducible refine (H1.out _).mono ?_
       rintro e w1 ⟨v, rfl, hs1, hb⟩
       have HB1 := Lib.hid hb
       obtain ⟨a0, c0, hv0, hc0, hx0⟩ := hs1
       rw [hn] at hv0 hc0
       subst hv0
       clear hb)
    | (at_builtin
       have hx1 := hx0.resolve_left (by intro h; rw [h] at hn; simp at hn; omega)
       obtain ⟨b1, o1, rfl, hl1, hcl⟩ := hx1
       have HO1 : Hid (w1.ownsRow w1.heap.size 9 1 (.slice none 0 0) 0 (strs3 [])) := World.ownsRow_nil _ _ _ _
       refine app_sl rfl (.tmp 43) (.tmp 46) rfl w1.heap.size _ 0 [] (X.take i) b1 o1 i c0 rfl rfl HO1.out htl (take_cells hcl i) (Nat.le_refl _) (by omega) ?_
       intro v2 w2 hown hb
       have HB2 := Lib.hid (hb w1 (Below.refl _ _))
       clear hown hb hx0 hcl hl1)
    | (go_at_call 24
       refine (H2.out _).mono ?_
       rintro e w3 ⟨⟨b', b2, o2, c2, rfl, hk2⟩, hb⟩
       have HB3 := Lib.hid (HB2.out.trans (hb.mono HB2.out.size))
       have HBz := Lib.hid (HB1.out.trans (HB3.out.mono HB1.out.size))
       have HTz := Lib.hid (tab_keep HT.out HBz.out)
       clear hb)
    | (go_at_call 21
       refine (ltAwake_any _ HTz.out).mono ?_
       rintro e w10 ⟨rfl, hb⟩
       have HB10 := Lib.hid (HBz.out.trans (hb.mono HBz.out.size))
       clear hb)
    )
  go_ret
  exact ⟨rfl, HB10.out⟩
end Go.Proofs.YtblaldcioneooaaDoor

/- The law on skipped lines: a remark. (Written by gen_ltsk.py.) -/
set_option linter.unusedVariables false
set_option maxRecDepth 100000
namespace Go.Proofs.YtblaldcioneooaaDoor
open Go.RowKit

set_option maxHeartbeats 8000000 in
theorem sk_hash_0 (s t J : ByteArray) (i n : Nat) (av a2 : Int) (X : List (List UInt8)) (b : Bool) (P : Loc) (ev : Int) (hev : ev = 0) (ha2 : a2 = av) (ht : t.toList.isEmpty = false) (K : ByteArray) (hK : (⟨#[35]⟩ : ByteArray) ++ t = K) (hn : X.length = n) (hi : i < n) (hn2 : n ≤ 100000) (hs : s.size ≤ 64534) (htz : t.size ≤ 1000) (hav1 : 0 ≤ av) (hav2 : av ≤ 100000)
    (H1 : Hid (Lined s X b)) (H2 : Hid (∀ w, Calls Tryd.prog 24 #[.string K] w fun e w' => ∃ b' b2 o2 c2, e = .returned (.tuple #[.slice (some ⟨b2, o2, none⟩) 1 c2, .bool b']) ∧ w'.cell? ⟨b2, o2, none⟩ = some (.string K) ∧ Below w.heap.size w w'))
    (H3 : Hid (∀ v w, SA w v (X.take i ++ (35 :: t.data.toList) :: X.drop i) → Calls Tryd.prog 25 #[v, .bool b] w fun e w' => e = .returned (.string J) ∧ Below w.heap.size w w'))
    (H4 : Hid (Parsed s P ev av)) (H5 : Hid (Parsed J P ev a2)) (w : World) (HT : Hid (tabAt w)) :
    Calls Tryd.prog 7 #[.string s, .int .i64 i, .string t] w fun e w' => e = .returned (.bool true) ∧ Below w.heap.size w w' := by
  subst ha2
  subst hev
  have i0 : ¬ (i : Int) < 0 := by omega
  have i1 : ¬ (n : Int) ≤ i := by omega
  have i5 : (0 : Int) ≤ i := by omega
  have i6 : (i : Int) ≤ n := by omega
  have i2 : ¬ (1000 : Int) < t.size := by omega
  have i3 : ¬ (64534 : Int) < s.size := by omega
  have i4 : ¬ (9223372036854775807 : Int) < 1 + t.size := by omega
  have d0 : decide ((i : Int) < 0) = false := decide_eq_false i0
  have d1 : decide ((n : Int) ≤ i) = false := decide_eq_false i1
  have d2 : decide ((1000 : Int) < t.size) = false := decide_eq_false i2
  have d3 : decide ((64534 : Int) < s.size) = false := decide_eq_false i3
  have HK : Hid (([.string K] : List Value) = strs3 [(35 :: t.data.toList)]) := by show _ = _; rw [show strs3 [35 :: t.data.toList] = [.string (mk (35 :: t.data.toList))] from rfl, mk_hash, hK]
  have htl : (X.take i).length = i := by rw [List.length_take]; omega
  have hdl : (X.drop i).length = n - i := by rw [List.length_drop]; omega
  go_enter Tryd.func7, Tryd.ntmps7
  go_wp2_with (first
    | (go_at_call 24
       with_reducible refine (H1.out _).mono ?_
       rintro e w1 ⟨v, rfl, hs1, hb⟩
       have HB1 := Lib.hid hb
       obtain ⟨a0, c0, hv0, hc0, hx0⟩ := hs1
       rw [hn] at hv0 hc0
       subst hv0
       have hx1 := hx0.resolve_left (by intro h; rw [h] at hn; simp at hn; omega)
       obtain ⟨b1, o1, rfl, hl1, hcl⟩ := hx1
       have HL1 := Lib.hid hl1
       have HC1 := Lib.hid hcl
       have HA1 := Lib.hid (take_cells hcl i)
       have HD1 := Lib.hid (drop_cells hcl i)
       have HO1 : Hid (w1.ownsRow w1.heap.size 9 1 (.slice none 0 0) 0 (strs3 [])) := World.ownsRow_nil _ _ _ _
       clear hx0 hl1 hcl hb)
    | (at_builtin
       refine app_sl rfl (.tmp 43) (.tmp 46) rfl w1.heap.size _ 0 [] (X.take i) b1 o1 i c0 rfl rfl HO1.out htl HA1.out (Nat.le_refl _) (by omega) ?_
       intro v2 w2 hown hb
       rw [Nat.zero_add, List.nil_append] at hown
       have HO2 := Lib.hid hown
       have HB2 := Lib.hid (hb w1 (Below.refl _ _))
       clear hown hb)
    | (go_at_call 24
       refine (H2.out _).mono ?_
       rintro e w3 ⟨b', b2, o2, c2, rfl, hk2, hb⟩
       have HB3 := Lib.hid (HB2.out.trans (hb.mono HB2.out.size))
       have HO3 := Lib.hid (own_keep HO2.out hb)
       clear hb)
    | (at_builtin
       refine app_lit 30 9 (.string ByteArray.empty) 16 Tryd.underlying30 tinfoS rfl w3 rfl (.tmp 73) (.tmp 75) rfl w1.heap.size v2 i 1 _ [.string K] rfl rfl HO3.out rfl rfl ?c1 HB3.out.size ?c2 ?c3 ?_
       case c1 => simp [Value.oneCell']
       case c2 => unfold maxLen; omega
       case c3 => omega
       intro v4 w4 hown hb
       have HO4 := Lib.hid (own_sapp (r := [(35 :: t.data.toList)]) hown HK.out)
       have HB4 := Lib.hid (hb w1 HB3.out)
       clear hown hb)
    | (at_builtin
       refine app_sl rfl (.tmp 77) (.tmp 80) rfl w1.heap.size v4 (i + 1) _ (X.drop i) b1 (o1 + i) (n - i) (c0 - i) rfl rfl HO4.out hdl (fun j x hj => (HB4.out.cell (by exact HL1.out)).trans (HD1.out j x hj)) HB4.out.size (by omega) ?_
       intro v5 w5 hown hb
       have HO5 := Lib.hid hown
       have HB5 := Lib.hid (hb w1 HB4.out)
       clear hown hb)
    | (go_at_call 22
       with_reducible refine (H4.out _).mono ?_
       rintro e w6 ⟨W1, C1, E1, rfl, hm, hP1, hb⟩
       have hm' := hm
       obtain ⟨⟨aw1, cw1, rfl, _⟩, ⟨ac1, cc1, rfl, _⟩, ⟨ae1, ce1, rfl, _⟩⟩ := hm'
       have hx : Below w6.heap.size w6 (w6.alloc (.cells #[.string P.name, .slice aw1 P.nw cw1, .string P.lower, .string P.upper, .slice ac1 P.nc cc1, .slice ae1 P.ne ce1] 26)) := (Below.refl _ _).alloc (Nat.le_refl _) _
       have HA6 : Hid (LAt (w6.alloc (.cells #[.string P.name, .slice aw1 P.nw cw1, .string P.lower, .string P.upper, .slice ac1 P.nc cc1, .slice ae1 P.ne ce1] 26)) w6.heap.size #[.string P.name, .slice aw1 P.nw cw1, .string P.lower, .string P.upper, .slice ac1 P.nc cc1, .slice ae1 P.ne ce1]) := heap_alloc_new w6 _
       have HX6 := Lib.hid hx
       have HM6 := Lib.hid (hm.below hx)
       have HB6 := Lib.hid ((HB5.out.trans (hb.mono HB5.out.size)).trans (hx.mono (Nat.le_trans HB5.out.size hb.size)))
       have HO6 := Lib.hid (own_keep (own_keep HO5.out hb) hx)
       have HS6 := Lib.hid (sa_own HO6.out)
       clear hx hm hb)
    | (go_at_call 25
       refine (H3.out v5 _ (by have := HS6.out; rwa [List.append_assoc] at this)).mono ?_
       rintro e w7 ⟨rfl, hb⟩
       have HB7 := Lib.hid (HB6.out.trans (hb.mono HB6.out.size))
       have HA7 := Lib.hid (HA6.out.under hb HA6.out.lt)
       have HM7 := Lib.hid (HM6.out.below hb)
       have HN7 := Lib.hid (Nat.lt_of_lt_of_le HA6.out.lt hb.size)
       clear hb)
    | (go_at_call 22
       with_reducible refine (H5.out _).mono ?_
       rintro e w8 ⟨W2, C2, E2, rfl, hm, hP2, hb⟩
       have hm' := hm
       obtain ⟨⟨aw2, cw2, rfl, _⟩, ⟨ac2, cc2, rfl, _⟩, ⟨ae2, ce2, rfl, _⟩⟩ := hm'
       have hx : Below w8.heap.size w8 (w8.alloc (.cells #[.string P.name, .slice aw2 P.nw cw2, .string P.lower, .string P.upper, .slice ac2 P.nc cc2, .slice ae2 P.ne ce2] 26)) := (Below.refl _ _).alloc (Nat.le_refl _) _
       have HA8 : Hid (LAt (w8.alloc (.cells #[.string P.name, .slice aw2 P.nw cw2, .string P.lower, .string P.upper, .slice ac2 P.nc cc2, .slice ae2 P.ne ce2] 26)) w8.heap.size #[.string P.name, .slice aw2 P.nw cw2, .string P.lower, .string P.upper, .slice ac2 P.nc cc2, .slice ae2 P.ne ce2]) := heap_alloc_new w8 _
       have HM8 := Lib.hid (hm.below hx)
       have hl8 := Nat.lt_of_lt_of_le HN7.out hb.size
       have HA8b := Lib.hid ((HA7.out.under hb HN7.out).under hx hl8)
       have HM8b := Lib.hid ((HM7.out.below hb).below hx)
       have HB8 := Lib.hid ((HB7.out.trans (hb.mono HB7.out.size)).trans (hx.mono (Nat.le_trans HB7.out.size hb.size)))
       obtain ⟨⟨x0, x1, x2⟩, ⟨x3, x4, x5⟩, hf⟩ := HA8b.out.six
       obtain ⟨⟨y0, y1, y2⟩, ⟨y3, y4, y5⟩, hg⟩ := HA8.out.six
       clear hx hm hb hf hg)
    | (go_at_call 23
       refine (sl_any P hP1.1 hP1.2.1 hP1.2.2 _ _ _ _ _ _ _ HM8b.out HM8.out).mono ?_
       rintro e w9 ⟨rfl, hb⟩
       have HB9 := Lib.hid (HB8.out.trans (hb.mono HB8.out.size))
       have HT9 := Lib.hid (tab_keep HT.out (HB1.out.trans (HB9.out.mono HB1.out.size)))
       clear hb)
    | (go_at_call 21
       refine (ltAwake_any _ HT9.out).mono ?_
       rintro e w10 ⟨rfl, hb⟩
       have HB10 := Lib.hid ((HB1.out.trans (HB9.out.mono HB1.out.size)).trans (hb.mono (Nat.le_trans HB1.out.size HB9.out.size)))
       clear hb)
    )
  go_ret
  exact ⟨rfl, HB10.out⟩

set_option maxHeartbeats 8000000 in
theorem sk_hash_1 (s t J : ByteArray) (i n : Nat) (av a2 : Int) (X : List (List UInt8)) (b : Bool) (P : Loc) (ev : Int) (hev : ev ≠ 0) (hav : (i : Int) < av) (ha2 : a2 = av + 1) (ht : t.toList.isEmpty = false) (K : ByteArray) (hK : (⟨#[35]⟩ : ByteArray) ++ t = K) (hn : X.length = n) (hi : i < n) (hn2 : n ≤ 100000) (hs : s.size ≤ 64534) (htz : t.size ≤ 1000) (hav1 : 0 ≤ av) (hav2 : av ≤ 100000)
    (H1 : Hid (Lined s X b)) (H2 : Hid (∀ w, Calls Tryd.prog 24 #[.string K] w fun e w' => ∃ b' b2 o2 c2, e = .returned (.tuple #[.slice (some ⟨b2, o2, none⟩) 1 c2, .bool b']) ∧ w'.cell? ⟨b2, o2, none⟩ = some (.string K) ∧ Below w.heap.size w w'))
    (H3 : Hid (∀ v w, SA w v (X.take i ++ (35 :: t.data.toList) :: X.drop i) → Calls Tryd.prog 25 #[v, .bool b] w fun e w' => e = .returned (.string J) ∧ Below w.heap.size w w'))
    (H4 : Hid (Parsed s P ev av)) (H5 : Hid (Parsed J P ev a2)) (w : World) (HT : Hid (tabAt w)) :
    Calls Tryd.prog 7 #[.string s, .int .i64 i, .string t] w fun e w' => e = .returned (.bool true) ∧ Below w.heap.size w w' := by
  subst ha2
  have e0 : decide (ev = 0) = false := decide_eq_false hev
  have e1 : decide ((i : Int) < av) = true := decide_eq_true hav
  have e2 : wrap64 (av + 1) = av + 1 := by unfold wrap64; omega
  have i0 : ¬ (i : Int) < 0 := by omega
  have i1 : ¬ (n : Int) ≤ i := by omega
  have i5 : (0 : Int) ≤ i := by omega
  have i6 : (i : Int) ≤ n := by omega
  have i2 : ¬ (1000 : Int) < t.size := by omega
  have i3 : ¬ (64534 : Int) < s.size := by omega
  have i4 : ¬ (9223372036854775807 : Int) < 1 + t.size := by omega
  have d0 : decide ((i : Int) < 0) = false := decide_eq_false i0
  have d1 : decide ((n : Int) ≤ i) = false := decide_eq_false i1
  have d2 : decide ((1000 : Int) < t.size) = false := decide_eq_false i2
  have d3 : decide ((64534 : Int) < s.size) = false := decide_eq_false i3
  have HK : Hid (([.string K] : List Value) = strs3 [(35 :: t.data.toList)]) := by show _ = _; rw [show strs3 [35 :: t.data.toList] = [.string (mk (35 :: t.data.toList))] from rfl, mk_hash, hK]
  have htl : (X.take i).length = i := by rw [List.length_take]; omega
  have hdl : (X.drop i).length = n - i := by rw [List.length_drop]; omega
  go_enter Tryd.func7, Tryd.ntmps7
  go_wp2_with (first
    | (go_at_call 24
       with_reducible refine (H1.out _).mono ?_
       rintro e w1 ⟨v, rfl, hs1, hb⟩
       have HB1 := Lib.hid hb
       obtain ⟨a0, c0, hv0, hc0, hx0⟩ := hs1
       rw [hn] at hv0 hc0
       subst hv0
       have hx1 := hx0.resolve_left (by intro h; rw [h] at hn; simp at hn; omega)
       obtain ⟨b1, o1, rfl, hl1, hcl⟩ := hx1
       have HL1 := Lib.hid hl1
       have HC1 := Lib.hid hcl
       have HA1 := Lib.hid (take_cells hcl i)
       have HD1 := Lib.hid (drop_cells hcl i)
       have HO1 : Hid (w1.ownsRow w1.heap.size 9 1 (.slice none 0 0) 0 (strs3 [])) := World.ownsRow_nil _ _ _ _
       clear hx0 hl1 hcl hb)
    | (at_builtin
       refine app_sl rfl (.tmp 43) (.tmp 46) rfl w1.heap.size _ 0 [] (X.take i) b1 o1 i c0 rfl rfl HO1.out htl HA1.out (Nat.le_refl _) (by omega) ?_
       intro v2 w2 hown hb
       rw [Nat.zero_add, List.nil_append] at hown
       have HO2 := Lib.hid hown
       have HB2 := Lib.hid (hb w1 (Below.refl _ _))
       clear hown hb)
    | (go_at_call 24
       refine (H2.out _).mono ?_
       rintro e w3 ⟨b', b2, o2, c2, rfl, hk2, hb⟩
       have HB3 := Lib.hid (HB2.out.trans (hb.mono HB2.out.size))
       have HO3 := Lib.hid (own_keep HO2.out hb)
       clear hb)
    | (at_builtin
       refine app_lit 30 9 (.string ByteArray.empty) 16 Tryd.underlying30 tinfoS rfl w3 rfl (.tmp 73) (.tmp 75) rfl w1.heap.size v2 i 1 _ [.string K] rfl rfl HO3.out rfl rfl ?c1 HB3.out.size ?c2 ?c3 ?_
       case c1 => simp [Value.oneCell']
       case c2 => unfold maxLen; omega
       case c3 => omega
       intro v4 w4 hown hb
       have HO4 := Lib.hid (own_sapp (r := [(35 :: t.data.toList)]) hown HK.out)
       have HB4 := Lib.hid (hb w1 HB3.out)
       clear hown hb)
    | (at_builtin
       refine app_sl rfl (.tmp 77) (.tmp 80) rfl w1.heap.size v4 (i + 1) _ (X.drop i) b1 (o1 + i) (n - i) (c0 - i) rfl rfl HO4.out hdl (fun j x hj => (HB4.out.cell (by exact HL1.out)).trans (HD1.out j x hj)) HB4.out.size (by omega) ?_
       intro v5 w5 hown hb
       have HO5 := Lib.hid hown
       have HB5 := Lib.hid (hb w1 HB4.out)
       clear hown hb)
    | (go_at_call 22
       with_reducible refine (H4.out _).mono ?_
       rintro e w6 ⟨W1, C1, E1, rfl, hm, hP1, hb⟩
       have hm' := hm
       obtain ⟨⟨aw1, cw1, rfl, _⟩, ⟨ac1, cc1, rfl, _⟩, ⟨ae1, ce1, rfl, _⟩⟩ := hm'
       have hx : Below w6.heap.size w6 (w6.alloc (.cells #[.string P.name, .slice aw1 P.nw cw1, .string P.lower, .string P.upper, .slice ac1 P.nc cc1, .slice ae1 P.ne ce1] 26)) := (Below.refl _ _).alloc (Nat.le_refl _) _
       have HA6 : Hid (LAt (w6.alloc (.cells #[.string P.name, .slice aw1 P.nw cw1, .string P.lower, .string P.upper, .slice ac1 P.nc cc1, .slice ae1 P.ne ce1] 26)) w6.heap.size #[.string P.name, .slice aw1 P.nw cw1, .string P.lower, .string P.upper, .slice ac1 P.nc cc1, .slice ae1 P.ne ce1]) := heap_alloc_new w6 _
       have HX6 := Lib.hid hx
       have HM6 := Lib.hid (hm.below hx)
       have HB6 := Lib.hid ((HB5.out.trans (hb.mono HB5.out.size)).trans (hx.mono (Nat.le_trans HB5.out.size hb.size)))
       have HO6 := Lib.hid (own_keep (own_keep HO5.out hb) hx)
       have HS6 := Lib.hid (sa_own HO6.out)
       clear hx hm hb)
    | (go_at_call 25
       refine (H3.out v5 _ (by have := HS6.out; rwa [List.append_assoc] at this)).mono ?_
       rintro e w7 ⟨rfl, hb⟩
       have HB7 := Lib.hid (HB6.out.trans (hb.mono HB6.out.size))
       have HA7 := Lib.hid (HA6.out.under hb HA6.out.lt)
       have HM7 := Lib.hid (HM6.out.below hb)
       have HN7 := Lib.hid (Nat.lt_of_lt_of_le HA6.out.lt hb.size)
       clear hb)
    | (go_at_call 22
       with_reducible refine (H5.out _).mono ?_
       rintro e w8 ⟨W2, C2, E2, rfl, hm, hP2, hb⟩
       have hm' := hm
       obtain ⟨⟨aw2, cw2, rfl, _⟩, ⟨ac2, cc2, rfl, _⟩, ⟨ae2, ce2, rfl, _⟩⟩ := hm'
       have hx : Below w8.heap.size w8 (w8.alloc (.cells #[.string P.name, .slice aw2 P.nw cw2, .string P.lower, .string P.upper, .slice ac2 P.nc cc2, .slice ae2 P.ne ce2] 26)) := (Below.refl _ _).alloc (Nat.le_refl _) _
       have HA8 : Hid (LAt (w8.alloc (.cells #[.string P.name, .slice aw2 P.nw cw2, .string P.lower, .string P.upper, .slice ac2 P.nc cc2, .slice ae2 P.ne ce2] 26)) w8.heap.size #[.string P.name, .slice aw2 P.nw cw2, .string P.lower, .string P.upper, .slice ac2 P.nc cc2, .slice ae2 P.ne ce2]) := heap_alloc_new w8 _
       have HM8 := Lib.hid (hm.below hx)
       have hl8 := Nat.lt_of_lt_of_le HN7.out hb.size
       have HA8b := Lib.hid ((HA7.out.under hb HN7.out).under hx hl8)
       have HM8b := Lib.hid ((HM7.out.below hb).below hx)
       have HB8 := Lib.hid ((HB7.out.trans (hb.mono HB7.out.size)).trans (hx.mono (Nat.le_trans HB7.out.size hb.size)))
       obtain ⟨⟨x0, x1, x2⟩, ⟨x3, x4, x5⟩, hf⟩ := HA8b.out.six
       obtain ⟨⟨y0, y1, y2⟩, ⟨y3, y4, y5⟩, hg⟩ := HA8.out.six
       clear hx hm hb hf hg)
    | (go_at_call 23
       refine (sl_any P hP1.1 hP1.2.1 hP1.2.2 _ _ _ _ _ _ _ HM8b.out HM8.out).mono ?_
       rintro e w9 ⟨rfl, hb⟩
       have HB9 := Lib.hid (HB8.out.trans (hb.mono HB8.out.size))
       have HT9 := Lib.hid (tab_keep HT.out (HB1.out.trans (HB9.out.mono HB1.out.size)))
       clear hb)
    | (go_at_call 21
       refine (ltAwake_any _ HT9.out).mono ?_
       rintro e w10 ⟨rfl, hb⟩
       have HB10 := Lib.hid ((HB1.out.trans (HB9.out.mono HB1.out.size)).trans (hb.mono (Nat.le_trans HB1.out.size HB9.out.size)))
       clear hb)
    )
  go_ret
  exact ⟨rfl, HB10.out⟩
end Go.Proofs.YtblaldcioneooaaDoor
