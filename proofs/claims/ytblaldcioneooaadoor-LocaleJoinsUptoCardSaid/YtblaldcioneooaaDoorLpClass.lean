/- The program's classes: the locale's, or the standard ones out of the listed table. -/
import Derived.Test.YtblaldcioneooaaDoorRows
import Derived.Test.YtblaldcioneooaaDoorLpUnion
set_option linter.unusedVariables false
set_option maxRecDepth 100000
namespace Go.Proofs.YtblaldcioneooaaDoor
open Go.RowKit

/-- Cells that are known one by one, loaded as one value. -/
theorem run_loadVar_cells {P : Program} (w : World) (g : Nat) (ty : TypeId) (cs : Array Value) (d : TypeDesc) (hg : ∀ (j : Nat) v, cs[j]? = some v → w.cell? ⟨g, j, none⟩ = some v)
    (hu : P.underlying ty = some d) (hd : (match d with | .struct _ | .array _ _ => true | _ => false) = true) (hi : (P.info? ty).map (·.size) = some cs.size) :
    (loadVar ty ⟨g, 0, none⟩).run P w = .ok (.agg cs) w := by
  have hl : (loadCells ⟨g, 0, none⟩ cs.toList.length).run P w = .ok cs.toList.toArray w :=
    run_loadCells_list (P := P) w ⟨g, 0, none⟩ cs.toList (fun j v hv => by
      rw [add_at]
      exact hg j v (by simpa using hv))
  cases hq : P.info? ty with
  | none => simp [hq] at hi
  | some i =>
    have hs : i.size = cs.size := by simpa [hq] using hi
    have hagg : (isAgg ty).run P w = .ok true w := by
      unfold isAgg
      rw [Sem.run_bind, run_underlying hu w]
      cases d <;> simp_all
    simp only [Array.length_toList, Array.toArray_toList] at hl
    simp [loadVar, Sem.run_bind, hagg, sizeOf, typeInfo, hq, hs, hl]
theorem wpList_load_cells {P : Program} {ops : Array Oper} {rest : List Oper} {o : Oper} {a : Act} {w : World} {Q : Exit → Act → World → Prop} (hgd : o.guard = none) (ty : TypeId) (x : Operand) (ho : o.op = .load ty x)
    (g : Nat) (hx : a.eval x = .pointer (some ⟨g, 0, none⟩)) (cs : Array Value) (d : TypeDesc) (hg : ∀ (j : Nat) v, cs[j]? = some v → w.cell? ⟨g, j, none⟩ = some v)
    (hu : P.underlying ty = some d) (hd : (match d with | .struct _ | .array _ _ => true | _ => false) = true) (hi : (P.info? ty).map (·.size) = some cs.size)
    (h : wpList P ops Q rest (a.put o.dst (.agg cs)) w) : wpList P ops Q (o :: rest) a w :=
  wpList_plain hgd fun _ hK => by
    unfold Oper.wp execOp
    simp only [ho, hx, Instr.loadAt, Instr.sureAddr, Sem.run_bind, Sem.run_pure, Result.andThen_ok, run_loadVar_cells w g ty cs d hg hu hd hi]
    exact hK _ _ h

/-- The table of the standard classes, string by string. -/
def tabS : List (List UInt8) := [[97, 108, 112, 104, 97], [65, 90, 97, 122], [100, 105, 103, 105, 116], [48, 57], [97, 108, 110, 117, 109], [48, 57, 65, 90, 97, 122], [117, 112, 112, 101, 114], [65, 90], [108, 111, 119, 101, 114], [97, 122], [120, 100, 105, 103, 105, 116], [48, 57, 65, 70, 97, 102],
  [98, 108, 97, 110, 107], [9, 9, 32, 32], [115, 112, 97, 99, 101], [9, 13, 32, 32], [99, 110, 116, 114, 108], [0, 31, 127, 127], [103, 114, 97, 112, 104], [33, 126], [112, 114, 105, 110, 116], [32, 126], [112, 117, 110, 99, 116], [33, 47, 58, 64, 91, 96, 123, 126]]
def nmL2 (k : Nat) : List UInt8 := tabS.getD (2 * k) []
def rgL (k : Nat) : List UInt8 := tabS.getD (2 * k + 1) []
def tabCells : Array Value := (tabS.map fun l => Value.string (mkS l)).toArray
/-- The table in memory. -/
def ltabAt (w : World) : Prop := ∀ (j : Nat) v, tabCells[j]? = some v → w.cell? ⟨0, j, none⟩ = some v
theorem ltab_keep {w w' : World} (h : ltabAt w) (hb : Below w.heap.size w w') : ltabAt w' := fun j v hj => keep_words hb (h j v hj)
theorem tab_index (k : Nat) (hk : k < 12) : ∀ w, (Instr.index 92 (.agg tabCells) (.int .i64 (k : Int))).run Tryd.prog w = .ok (.agg #[.string (mkS (nmL2 k)), .string (mkS (rgL k))]) w := by
  have : k = 0 ∨ k = 1 ∨ k = 2 ∨ k = 3 ∨ k = 4 ∨ k = 5 ∨ k = 6 ∨ k = 7 ∨ k = 8 ∨ k = 9 ∨ k = 10 ∨ k = 11 := by omega
  rcases this with rfl | rfl | rfl | rfl | rfl | rfl | rfl | rfl | rfl | rfl | rfl | rfl <;> exact fun w => by kernel_rfl
theorem rgL_even (k : Nat) (hk : k < 12) : ∃ m, (mkS (rgL k)).size = 2 * m ∧ (mkS (rgL k)).size ≤ 8 := by
  have : k = 0 ∨ k = 1 ∨ k = 2 ∨ k = 3 ∨ k = 4 ∨ k = 5 ∨ k = 6 ∨ k = 7 ∨ k = 8 ∨ k = 9 ∨ k = 10 ∨ k = 11 := by omega
  rcases this with rfl | rfl | rfl | rfl | rfl | rfl | rfl | rfl | rfl | rfl | rfl | rfl
  · exact ⟨2, rfl, by decide⟩
  · exact ⟨1, rfl, by decide⟩
  · exact ⟨3, rfl, by decide⟩
  · exact ⟨1, rfl, by decide⟩
  · exact ⟨1, rfl, by decide⟩
  · exact ⟨3, rfl, by decide⟩
  · exact ⟨2, rfl, by decide⟩
  · exact ⟨2, rfl, by decide⟩
  · exact ⟨2, rfl, by decide⟩
  · exact ⟨1, rfl, by decide⟩
  · exact ⟨1, rfl, by decide⟩
  · exact ⟨4, rfl, by decide⟩

/-- The standard class of a name, and whether there is one. -/
def stdR (n : ByteArray) : (Nat → Bool) × Bool := match (List.range 12).find? fun j => eqS (mkS (nmL2 j)) n with
  | some j => (uniL (rgL j), true)
  | none => (fun _ => false, false)
/-- The class of a name, and whether there is one. -/
def clsR (V : Loc) (n : ByteArray) : (Nat → Bool) × Bool := match (List.range V.nc).find? fun j => eqS (V.cn j) n with
  | some j => (V.cset j, true)
  | none => stdR n
theorem find_first (p : Nat → Bool) (n k : Nat) (hk : k < n) (h : p k = true) (hb : ∀ q, q < k → p q = false) : (List.range n).find? p = some k := by
  rw [List.find?_range_eq_some]
  exact ⟨h, by simpa using hk, fun j hj => by simp [hb j hj]⟩
theorem find_no (p : Nat → Bool) (n : Nat) (hb : ∀ q, q < n → p q = false) : (List.range n).find? p = none := by
  rw [List.find?_eq_none]
  intro x hx
  simp [hb x (by simpa using hx)]
theorem stdR_at (n : ByteArray) (k : Nat) (hk : k < 12) (h : eqS (mkS (nmL2 k)) n = true) (hb : ∀ q, q < k → eqS (mkS (nmL2 q)) n = false) : stdR n = (uniL (rgL k), true) := by
  unfold stdR
  rw [find_first _ 12 k hk h hb]
theorem stdR_no (n : ByteArray) (hb : ∀ q, q < 12 → eqS (mkS (nmL2 q)) n = false) : stdR n = (fun _ => false, false) := by
  unfold stdR
  rw [find_no _ 12 hb]
theorem clsR_at (V : Loc) (n : ByteArray) (k : Nat) (hk : k < V.nc) (h : eqS (V.cn k) n = true) (hb : ∀ q, q < k → eqS (V.cn q) n = false) : clsR V n = (V.cset k, true) := by
  unfold clsR
  rw [find_first _ V.nc k hk h hb]
theorem clsR_no (V : Loc) (n : ByteArray) (hb : ∀ q, q < V.nc → eqS (V.cn q) n = false) : clsR V n = stdR n := by
  unfold clsR
  rw [find_no _ V.nc hb]

set_option maxRecDepth 100000 in
set_option maxHeartbeats 8000000 in
theorem pClass_any (L : Loc) (W C E : Value) (n : ByteArray) (w : World) (hT : ltabAt w) (hM : LocM w L W C E) :
    Calls Tryd.prog 35 #[.agg (lcl L W C E), .string n] w fun e w' => e = .returned (.tuple #[cs (clsR (vld L) n).1, .bool (clsR (vld L) n).2]) ∧ Below w.heap.size w w' := by
  have hfd4 := fld4
  have HB : Hid (Below w.heap.size w ((w.alloc (.cells (lcl L W C E) 26)).alloc (.cells #[.int .u64 0, .int .u64 0, .int .u64 0, .int .u64 0] 38))) := ((Below.refl _ _).alloc (Nat.le_refl _) _).alloc (by simp) _
  have HA : Hid (At ((w.alloc (.cells (lcl L W C E) 26)).alloc (.cells #[.int .u64 0, .int .u64 0, .int .u64 0, .int .u64 0] 38)) (w.heap.size + 1) (fun _ => false)) := by
    show At _ _ _
    rw [cl_zero]
    have := At.new (w.alloc (.cells (lcl L W C E) 26)) (fun _ => false)
    simpa using this
  have HU := Lib.hid (usable_any L W C E _ (hM.below HB.out))
  have HV := Lib.hid (ok_vld L)
  have HT := Lib.hid hT
  generalize vld L = V at *
  obtain ⟨R, hR⟩ : ∃ R, clsR V n = R := ⟨_, rfl⟩
  rw [hR]
  have HR := Lib.hid hR
  clear hR hT
  obtain ⟨⟨aw, capw, rfl, _⟩, ⟨ac, capc, rfl, _⟩, ⟨ae, cape, rfl, _⟩⟩ := hM
  unfold lcl at HB HU HA ⊢
  have HI := Lib.hid tab_index
  have HTC := Lib.hid (show (Tryd.prog.info? 92).map (·.size) = some tabCells.size by kernel_rfl)
  have HTa := Lib.hid (fun (wx : World) (hb : Below w.heap.size w wx) => ltab_keep HT.out hb)
  unfold ltabAt at HTa
  generalize tabCells = TC at HI HTC HTa
  go_enter Tryd.func35, Tryd.ntmps35
  go_wp2_with (first
    | (go_at_call 33
       refine HU.out.mono ?_
       rintro e w1 ⟨W1, C1, E1, rfl, hm, hb⟩
       have HB1 := Lib.hid (HB.out.trans (hb.mono HB.out.size))
       have HA1 := Lib.hid (HA.out.below hb HA.out.lt)
       have hcw := hm.2.1
       obtain ⟨ac1, capc1, rfl, hcc, hc1⟩ := hcw
       have HC1 := Lib.hid hc1
       clear hb hm hc1 hcc))
  have hnc : (V.nc : Int) ≤ 24 := by have := HV.out.nc; omega
  go_loopw [14] (fun i wr => ∃ k : Nat, k ≤ V.nc ∧ i = .int .i64 k ∧ Hid (∀ q, q < k → eqS (V.cn q) n = false) ∧ Hid (Below w1.heap.size w1 wr)) (fun i _ => V.nc - (intOf i).toNat)
  case atStart => exact ⟨0, Nat.zero_le _, rfl, fun q hq => by omega, Below.refl _ _⟩
  case round =>
    obtain ⟨k, hk, rfl, HQ, HBr⟩ := hrel
    by_cases hkn : k < V.nc
    · have ki : (k : Int) < V.nc := by omega
      have ki0 : (0 : Int) ≤ k := by omega
      rcases HC1.out with h0 | ⟨b, off, rfl, hlt, hcells⟩
      · omega
      have ck0 : wr.cell? ⟨b, off + k * 5, none⟩ = some (.string (V.cn k)) := by
        rw [HBr.out.cell (by exact hlt)]
        exact hcells k 0 hkn (by decide)
      have ck1 : wr.cell? ⟨b, off + k * 5 + 1, none⟩ = some (clsF V k 1) := by
        rw [HBr.out.cell (by exact hlt)]
        exact hcells k 1 hkn (by decide)
      have ck2 : wr.cell? ⟨b, off + k * 5 + 2, none⟩ = some (clsF V k 2) := by
        rw [HBr.out.cell (by exact hlt)]
        exact hcells k 2 hkn (by decide)
      have ck3 : wr.cell? ⟨b, off + k * 5 + 3, none⟩ = some (clsF V k 3) := by
        rw [HBr.out.cell (by exact hlt)]
        exact hcells k 3 hkn (by decide)
      have ck4 : wr.cell? ⟨b, off + k * 5 + 4, none⟩ = some (clsF V k 4) := by
        rw [HBr.out.cell (by exact hlt)]
        exact hcells k 4 hkn (by decide)
      rw [clsF_word V k 0] at ck1
      rw [clsF_word V k 1] at ck2
      rw [clsF_word V k 2] at ck3
      rw [clsF_word V k 3] at ck4
      simp only [Nat.mul_zero, Nat.reduceMul] at ck1 ck2 ck3 ck4
      clear hcells hlt
      have HBn := Lib.hid (HBr.out.alloc HBr.out.size (.cells #[.string (V.cn k), .int .u64 ((wd (V.cset k) 0 64 : Nat) : Int), .int .u64 ((wd (V.cset k) 64 64 : Nat) : Int), .int .u64 ((wd (V.cset k) 128 64 : Nat) : Int), .int .u64 ((wd (V.cset k) 192 64 : Nat) : Int)] 81))
      obtain ⟨D, hD⟩ : ∃ D, ((V.cn k).toList == n.toList) = D := ⟨_, rfl⟩
      have HD : Hid (eqS (V.cn k) n = D) := hD
      rcases bool_tf D with hd | hd
      · subst hd
        have HN : Hid (R = (V.cset k, true)) := HR.out.symm.trans (clsR_at V n k hkn HD.out HQ.out)
        have hA := HA1.out.below HBn.out HA1.out.lt
        have HAr := Lib.hid hA
        obtain ⟨⟨d0, d1⟩, ⟨d2, d3⟩, hg⟩ := hA.words
        clear hA
        go_wp2
        exact bodyPost_ret (ret_cs2 Tryd.results35 _ _ (w.heap.size + 1) (V.cset k) (.bool true) (by simp) (by simp) (HAr.out.put4 _)) rfl ⟨by rw [HN.out], below_put4 (HB1.out.trans (HBn.out.mono HB1.out.size)) _ (Nat.le_succ _) _⟩
      · subst hd
        go_wp2
        go_roundw
        case rel =>
          refine ⟨k + 1, by omega, by go_num, fun q hq => ?_, HBn.out⟩
          by_cases e : q = k
          · subst e; exact HD.out
          · exact HQ.out q (by omega)
        case measure => simp [intOf]; omega
    · obtain rfl : k = V.nc := by omega
      have HSt : Hid (R = stdR n) := HR.out.symm.trans (clsR_no V n HQ.out)
      have HBw := Lib.hid (HB1.out.trans (HBr.out.mono HB1.out.size))
      have HTr := Lib.hid (HTa.out wr HBw.out)
      go_wp2_with (refine wpList_load_cells rfl 92 (.global 0) rfl 0 rfl TC _ HTr.out Tryd.underlying92 rfl HTC.out ?_)
      clear HQ HC1 HTr HTa HTC HU hfd4
      go_loopw [26] (fun i wr => ∃ k : Nat, k ≤ 12 ∧ i = .int .i64 k ∧ Hid (∀ q, q < k → eqS (mkS (nmL2 q)) n = false) ∧ Hid (Below w1.heap.size w1 wr)) (fun i _ => 12 - (intOf i).toNat)
      case atStart => exact ⟨0, Nat.zero_le _, rfl, fun q hq => by omega, HBr.out⟩
      case round =>
        clear HBr HBw
        obtain ⟨k, hk, rfl, HQ, HBr⟩ := hrel
        by_cases hkn : k < 12
        · have ki : (k : Int) < 12 := by omega
          have ki0 : (0 : Int) ≤ k := by omega
          have hix := HI.out k hkn
          obtain ⟨m, hm1, hm2⟩ := rgL_even k hkn
          have HUn := Lib.hid (punion_any (mkS (rgL k)) m hm1 (by omega))
          rw [mkS_data] at HUn
          have HQk := Lib.hid (stdR_at n k hkn)
          generalize hNk : mkS (nmL2 k) = N at hix HQk
          have HNk := Lib.hid hNk
          clear hNk
          generalize mkS (rgL k) = G at hix HUn
          clear hm1 hm2
          have HBn := Lib.hid (HBr.out.alloc HBr.out.size (.cells #[.string N, .string G] 91))
          obtain ⟨D, hD⟩ : ∃ D, (N.toList == n.toList) = D := ⟨_, rfl⟩
          have HD : Hid (eqS N n = D) := hD
          rcases bool_tf D with hd | hd
          · subst hd
            have HN : Hid (R = (uniL (rgL k), true)) := HSt.out.trans (HQk.out HD.out HQ.out)
            unfold cs at HUn
            have hA := HA1.out.below HBn.out HA1.out.lt
            have HAr := Lib.hid hA
            clear hA
            go_wp2_with (first
              | (go_at_call 61
                 refine (HUn.out _).mono ?_
                 rintro e w3 ⟨rfl, hb⟩
                 have HB3 := Lib.hid ((HB1.out.trans (HBn.out.mono HB1.out.size)).trans (hb.mono (by have h1 := HB1.out.size; have h2 := HBn.out.size; omega)))
                 have B1 := HAr.out.below hb HAr.out.lt
                 have HA3 := Lib.hid B1
                 obtain ⟨⟨d0, d1⟩, ⟨d2, d3⟩, hg⟩ := B1.words
                 clear B1 hb
                 unfold cl))
            exact bodyPost_ret (ret_cs2 Tryd.results35 _ _ (w.heap.size + 1) (uniL (rgL k)) (.bool true) (by simp) (by simp) (HA3.out.put4 _)) rfl ⟨by rw [HN.out], below_put4 HB3.out _ (Nat.le_succ _) _⟩
          · subst hd
            go_wp2
            go_roundw
            case rel =>
              refine ⟨k + 1, by omega, by go_num, fun q hq => ?_, HBn.out⟩
              by_cases e : q = k
              · subst e; rw [HNk.out]; exact HD.out
              · exact HQ.out q (by omega)
            case measure => simp [intOf]; omega
        · obtain rfl : k = 12 := by omega
          have HN : Hid (R = (fun _ => false, false)) := HSt.out.trans (stdR_no n HQ.out)
          have hA := HA1.out.below HBr.out HA1.out.lt
          have HAr := Lib.hid hA
          obtain ⟨⟨d0, d1⟩, ⟨d2, d3⟩, hg⟩ := hA.words
          clear hA
          go_wp2
          rw [put4_zero]
          exact bodyPost_ret (ret_cs2 Tryd.results35 _ _ (w.heap.size + 1) (fun _ => false) (.bool false) (by simp) (by simp) (HAr.out.put4 _)) rfl ⟨by rw [HN.out], below_put4 (HB1.out.trans (HBr.out.mono HB1.out.size)) _ (Nat.le_succ _) _⟩
end Go.Proofs.YtblaldcioneooaaDoor
