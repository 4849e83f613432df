/- RpAwk, RpLawV. -/
import Derived.Test.YtbjobbkipmkndaaDoorPv19
import Derived.Test.YtbjobbkipmkndaaDoorPv21
import Derived.Test.YtbjobbkipmkndaaDoorPv22
import Derived.Deep.QuietTactic
import Derived.BigQuiet
set_option linter.unusedVariables false
set_option linter.unusedSimpArgs false
set_option maxRecDepth 100000
set_option maxHeartbeats 8000000
namespace Go.Proofs.YtbjobbkipmkndaaDoor
open Go.RowKit
def bT (c : Nat) : TN := ⟨2, setOf [UInt8.ofNat c], 0, 0, 0, .nil⟩
def one (x : TN) : F := .cons x.op x.st x.lo x.hi x.g x.args .nil
def two (x y : TN) : F := .cons x.op x.st x.lo x.hi x.g x.args (.cons y.op y.st y.lo y.hi y.g y.args .nil)
def nA : TN := ⟨4, noSet, 0, 0, 0, two (bT 97) (bT 98)⟩
def tW : TN := ⟨5, noSet, 0, -1, 0, one nA⟩
def pW : List IN := [sp 1 6, sp 2 4, ⟨1, setOf [97], 0, 0⟩, jm 5, ⟨1, setOf [98], 0, 0⟩, jm 0, ⟨6, noSet, 0, 0⟩]
theorem aw_cmp : cmpT tW = (pW, 0) := by kernel_rfl
theorem aw_val : valL pW = true := by kernel_rfl
theorem fitB {c : Nat} : F.fits (.cons (bT c).op (bT c).st (bT c).lo (bT c).hi (bT c).g (bT c).args .nil) := by simp [bT, F.fits, F.len, maxLen]
theorem fitA : F.fits (.cons nA.op nA.st nA.lo nA.hi nA.g nA.args .nil) := by simp [nA, two, bT, F.fits, F.len, maxLen]
theorem awake_any (w : World) (hK : KT w) : Calls Tryd.prog 12 #[] w fun e w' => e = .returned (.bool true) ∧ Below w.heap.size w w' := by
  have HB97 : Hid (∀ w, Calls Tryd.prog 26 #[.int .u8 97] w fun e w' => e = .returned (.agg #[.int .i64 (bT 97).op, .int .u64 (wd (bT 97).st 0 64 : Nat), .int .u64 (wd (bT 97).st 64 64 : Nat), .int .u64 (wd (bT 97).st 128 64 : Nat), .int .u64 (wd (bT 97).st 192 64 : Nat), .int .i64 (bT 97).lo, .int .i64 (bT 97).hi, .int .i64 (bT 97).g, .slice none 0 0]) ∧ Below w.heap.size w w') := Lib.hid (byte_any 97 (by decide))
  have HB98 : Hid (∀ w, Calls Tryd.prog 26 #[.int .u8 98] w fun e w' => e = .returned (.agg #[.int .i64 (bT 98).op, .int .u64 (wd (bT 98).st 0 64 : Nat), .int .u64 (wd (bT 98).st 64 64 : Nat), .int .u64 (wd (bT 98).st 128 64 : Nat), .int .u64 (wd (bT 98).st 192 64 : Nat), .int .i64 (bT 98).lo, .int .i64 (bT 98).hi, .int .i64 (bT 98).g, .slice none 0 0]) ∧ Below w.heap.size w w') := Lib.hid (byte_any 98 (by decide))
  have HN1 : Hid (∀ (w : World) (ad : Option Addr) (cap : Nat), Calls Tryd.prog 16 #[.int .i64 4, .slice ad 2 cap] w fun e w' => e = .returned (.agg #[.int .i64 nA.op, .int .u64 (wd nA.st 0 64 : Nat), .int .u64 (wd nA.st 64 64 : Nat), .int .u64 (wd nA.st 128 64 : Nat), .int .u64 (wd nA.st 192 64 : Nat), .int .i64 nA.lo, .int .i64 nA.hi, .int .i64 nA.g, .slice ad 2 cap]) ∧ Below w.heap.size w w') := Lib.hid (fun w ad cap => node_any 4 ad 2 cap w)
  have H0 := Lib.hid (Below.refl w.heap.size w)
  have HKT := Lib.hid hK
  go_enter Tryd.func12, Tryd.ntmps12
  go_upto_region 2 with (first
    | (go_at_call 26; (with_reducible refine (HB97.out _).mono ?_); rintro e w1 ⟨rfl, hb⟩; have H1 := Lib.hid (H0.out.trans (hb.mono H0.out.size)); clear hb)
    | (go_at_call 26; (with_reducible refine (HB98.out _).mono ?_); rintro e w2 ⟨rfl, hb⟩; have H2 := Lib.hid (H1.out.trans (hb.mono H1.out.size)); clear hb)
    | (go_at_call 16; (with_reducible refine (HN1.out (w2.alloc (.cells #[.int .i64 (bT 97).op, .int .u64 (wd (bT 97).st 0 64 : Nat), .int .u64 (wd (bT 97).st 64 64 : Nat), .int .u64 (wd (bT 97).st 128 64 : Nat), .int .u64 (wd (bT 97).st 192 64 : Nat), .int .i64 (bT 97).lo, .int .i64 (bT 97).hi, .int .i64 (bT 97).g, .slice none 0 0, .int .i64 (bT 98).op, .int .u64 (wd (bT 98).st 0 64 : Nat), .int .u64 (wd (bT 98).st 64 64 : Nat), .int .u64 (wd (bT 98).st 128 64 : Nat), .int .u64 (wd (bT 98).st 192 64 : Nat), .int .i64 (bT 98).lo, .int .i64 (bT 98).hi, .int .i64 (bT 98).g, .slice none 0 0] 34)) _ _).mono ?_); rintro e w3 ⟨rfl, hb⟩
       have H3 := Lib.hid ((H2.out.alloc H2.out.size (.cells #[.int .i64 (bT 97).op, .int .u64 (wd (bT 97).st 0 64 : Nat), .int .u64 (wd (bT 97).st 64 64 : Nat), .int .u64 (wd (bT 97).st 128 64 : Nat), .int .u64 (wd (bT 97).st 192 64 : Nat), .int .i64 (bT 97).lo, .int .i64 (bT 97).hi, .int .i64 (bT 97).g, .slice none 0 0, .int .i64 (bT 98).op, .int .u64 (wd (bT 98).st 0 64 : Nat), .int .u64 (wd (bT 98).st 64 64 : Nat), .int .u64 (wd (bT 98).st 128 64 : Nat), .int .u64 (wd (bT 98).st 192 64 : Nat), .int .i64 (bT 98).lo, .int .i64 (bT 98).hi, .int .i64 (bT 98).g, .slice none 0 0] 34)).trans (hb.mono (H2.out.alloc H2.out.size _).size))
       have T1 : Hid (TI w3 nA (.slice (some ⟨w2.heap.size, 0, none⟩) 2 2)) := Lib.hid (TI.below (ti_two (ti_leaf w2 2 0 0 (bT 97).st) (ti_leaf w2 2 0 0 (bT 98).st) fitB fitB 4 0 0 0 noSet (by decide)) hb)
       clear hb))
  have hb4 : Below w3.heap.size w3 ((w3.alloc (.cells #[.int .i64 nA.op, .int .u64 (wd nA.st 0 64 : Nat), .int .u64 (wd nA.st 64 64 : Nat), .int .u64 (wd nA.st 128 64 : Nat), .int .u64 (wd nA.st 192 64 : Nat), .int .i64 nA.lo, .int .i64 nA.hi, .int .i64 nA.g, .slice (some ⟨w2.heap.size, 0, none⟩) 2 2] 34)).alloc (.cells #[.int .i64 5, .int .u64 0, .int .u64 0, .int .u64 0, .int .u64 0, .int .i64 0, .int .i64 (-1), .int .i64 0, .slice (some ⟨w3.heap.size, 0, none⟩) 1 1] 34)) := ((Below.refl _ _).alloc (Nat.le_refl _) _).alloc (by simp) _
  have TW : TI ((w3.alloc (.cells #[.int .i64 nA.op, .int .u64 (wd nA.st 0 64 : Nat), .int .u64 (wd nA.st 64 64 : Nat), .int .u64 (wd nA.st 128 64 : Nat), .int .u64 (wd nA.st 192 64 : Nat), .int .i64 nA.lo, .int .i64 nA.hi, .int .i64 nA.g, .slice (some ⟨w2.heap.size, 0, none⟩) 2 2] 34)).alloc (.cells #[.int .i64 5, .int .u64 0, .int .u64 0, .int .u64 0, .int .u64 0, .int .i64 0, .int .i64 (-1), .int .i64 0, .slice (some ⟨w3.heap.size, 0, none⟩) 1 1] 34)) tW (.slice (some ⟨w3.heap.size, 0, none⟩) 1 1) := (ti_one T1.out fitA 5 0 (-1) 0 noSet (by decide)).below ((Below.refl _ _).alloc (Nat.le_refl _) _)
  have he4 := heap_alloc_new (w3.alloc (.cells #[.int .i64 nA.op, .int .u64 (wd nA.st 0 64 : Nat), .int .u64 (wd nA.st 64 64 : Nat), .int .u64 (wd nA.st 128 64 : Nat), .int .u64 (wd nA.st 192 64 : Nat), .int .i64 nA.lo, .int .i64 nA.hi, .int .i64 nA.g, .slice (some ⟨w2.heap.size, 0, none⟩) 2 2] 34)) (.cells #[.int .i64 5, .int .u64 0, .int .u64 0, .int .u64 0, .int .u64 0, .int .i64 0, .int .i64 (-1), .int .i64 0, .slice (some ⟨w3.heap.size, 0, none⟩) 1 1] 34)
  have hs4 : (w3.alloc (.cells #[.int .i64 nA.op, .int .u64 (wd nA.st 0 64 : Nat), .int .u64 (wd nA.st 64 64 : Nat), .int .u64 (wd nA.st 128 64 : Nat), .int .u64 (wd nA.st 192 64 : Nat), .int .i64 nA.lo, .int .i64 nA.hi, .int .i64 nA.g, .slice (some ⟨w2.heap.size, 0, none⟩) 2 2] 34)).heap.size = w3.heap.size + 1 := by simp
  rw [hs4] at he4
  have H4 := Lib.hid (H3.out.trans (hb4.mono H3.out.size))
  generalize hW4 : ((w3.alloc (.cells #[.int .i64 nA.op, .int .u64 (wd nA.st 0 64 : Nat), .int .u64 (wd nA.st 64 64 : Nat), .int .u64 (wd nA.st 128 64 : Nat), .int .u64 (wd nA.st 192 64 : Nat), .int .i64 nA.lo, .int .i64 nA.hi, .int .i64 nA.g, .slice (some ⟨w2.heap.size, 0, none⟩) 2 2] 34)).alloc (.cells #[.int .i64 5, .int .u64 0, .int .u64 0, .int .u64 0, .int .u64 0, .int .i64 0, .int .i64 (-1), .int .i64 0, .slice (some ⟨w3.heap.size, 0, none⟩) 1 1] 34)) = w4 at *
  have HC : Hid (Calls Tryd.prog 13 #[.agg #[.int .i64 5, .int .u64 0, .int .u64 0, .int .u64 0, .int .u64 0, .int .i64 0, .int .i64 (-1), .int .i64 0, .slice (some ⟨w3.heap.size, 0, none⟩) 1 1], .bool true] w4 fun e w' => ∃ pv, e = .returned (.tuple #[.agg #[pv, .bool true], .int .i64 0]) ∧ PI w' w4.heap.size pW pv ∧ Below w4.heap.size w4 w') := Lib.hid (by
    have h1 := compile_ti TW true
    rw [aw_cmp] at h1
    have h2 : Calls Tryd.prog 13 #[.agg #[.int .i64 5, .int .u64 (wd noSet 0 64 : Nat), .int .u64 (wd noSet 64 64 : Nat), .int .u64 (wd noSet 128 64 : Nat), .int .u64 (wd noSet 192 64 : Nat), .int .i64 0, .int .i64 (-1), .int .i64 0, .slice (some ⟨w3.heap.size, 0, none⟩) 1 1], .bool true] w4 fun e w' => ∃ pv, e = .returned (.tuple #[.agg #[pv, .bool true], .int .i64 0]) ∧ PI w' w4.heap.size pW pv ∧ Below w4.heap.size w4 w' := h1
    rw [wd_noSet.1, wd_noSet.2.1, wd_noSet.2.2.1, wd_noSet.2.2.2] at h2
    exact h2)
  obtain ⟨⟨⟨a0, a1, a2⟩, a3, a4, a5⟩, a6, a7, a8⟩ := nine he4
  have hl4 : w3.heap.size + 1 < w4.heap.size := (Array.getElem?_eq_some_iff.1 he4).1
  clear HB97 HB98 HN1 H1 H2 H3 T1 TW he4 hs4 hb4 hW4
  have HV := Lib.hid (fun W v (h : PI W w4.heap.size pW v) (hk : KT W) => valid_any pW v w4.heap.size true W h hk)
  rw [aw_val] at HV
  have Eq0 : ∀ w : World, (binOp .eql 39 (.agg #[.int .i64 2, .int .u64 0, .int .u64 0, .int .u64 0, .int .u64 0, .int .i64 1, .int .i64 6]) (.agg #[.int .i64 2, .int .u64 0, .int .u64 0, .int .u64 0, .int .u64 0, .int .i64 1, .int .i64 6])).run Tryd.prog w = .ok (.bool true) w := fun w => eql_in ..
  have Eq3 : ∀ w : World, (binOp .eql 39 (.agg #[.int .i64 3, .int .u64 0, .int .u64 0, .int .u64 0, .int .u64 0, .int .i64 5, .int .i64 0]) (.agg #[.int .i64 3, .int .u64 0, .int .u64 0, .int .u64 0, .int .u64 0, .int .i64 5, .int .i64 0])).run Tryd.prog w = .ok (.bool true) w := fun w => eql_in ..
  go_wp2_with (first
    | (go_at_call 13; (with_reducible refine HC.out.mono ?_); rintro e w5 ⟨pv, rfl, hp, hb⟩
       have H5 := Lib.hid (H4.out.trans (hb.mono H4.out.size))
       have H5a := Lib.hid (fun x => H5.out.alloc H5.out.size x)
       have HP5 := Lib.hid (fun x => hp.below ((Below.refl w5.heap.size w5).alloc (Nat.le_refl _) x))
       obtain ⟨ad, cap, rfl, hcap, hce⟩ := hp
       obtain ⟨b, i0, rfl, hbl, hcc⟩ : ∃ b i, ad = some ⟨b, i, none⟩ ∧ b < w5.heap.size ∧ ∀ (k : Nat) (hk : k < pW.length) (j : Nat), j < 7 → w5.cell? ⟨b, i + k * 7 + j, none⟩ = (rowI (pW[k]'hk))[j]? := by
         rcases hce with h1 | ⟨b, i, e1, _, e2, e3⟩
         · cases h1
         · exact ⟨b, i, e1, e2, e3⟩
       have HCc := Lib.hid hcc
       have hl7 : pW.length = 7 := rfl
       rw [hl7] at HP5
       clear hb hce hcc a0 a1 a2 a3 a4 a5 a6 a7 a8 hl4)
    | (go_at_call 8; (with_reducible refine (HV.out _ _ (HP5.out _) (HKT.out.below (H5a.out _))).mono ?_); rintro e w6 ⟨rfl, hb⟩
       have H6 := Lib.hid ((H5a.out _).trans (hb.mono (H5a.out _).size))
       have hq : ∀ (a : Addr), a.block < w5.heap.size → w6.cell? a = w5.cell? a := fun a ha => (hb.cell (by simp; omega)).trans (World.cell?_alloc_lt _ _ _ ha)
       have hp6 : ∀ (k j : Nat) (u : Value), (match pW[k]? with | some i => (rowI i)[j]? | none => none) = some u → j < 7 → w6.cell? ⟨b, i0 + k * 7 + j, none⟩ = some u := fun k j u hu hj => by
         rw [hq _ hbl]
         cases hk : pW[k]? with
         | none => rw [hk] at hu; cases hu
         | some i =>
           rw [hk] at hu
           obtain ⟨h1, h2⟩ := List.getElem?_eq_some_iff.1 hk
           rw [HCc.out k h1 j hj, h2]
           exact hu
       have p0_0 : w6.cell? ⟨b, i0, none⟩ = some (.int .i64 2) := hp6 0 0 _ rfl (by decide)
       have p0_1 : w6.cell? ⟨b, i0 + 1, none⟩ = some (.int .u64 0) := hp6 0 1 _ rfl (by decide)
       have p0_2 : w6.cell? ⟨b, i0 + 2, none⟩ = some (.int .u64 0) := hp6 0 2 _ rfl (by decide)
       have p0_3 : w6.cell? ⟨b, i0 + 3, none⟩ = some (.int .u64 0) := hp6 0 3 _ rfl (by decide)
       have p0_4 : w6.cell? ⟨b, i0 + 4, none⟩ = some (.int .u64 0) := hp6 0 4 _ rfl (by decide)
       have p0_5 : w6.cell? ⟨b, i0 + 5, none⟩ = some (.int .i64 1) := hp6 0 5 _ rfl (by decide)
       have p0_6 : w6.cell? ⟨b, i0 + 6, none⟩ = some (.int .i64 6) := hp6 0 6 _ rfl (by decide)
       have p3_0 : w6.cell? ⟨b, i0 + 21, none⟩ = some (.int .i64 3) := hp6 3 0 _ rfl (by decide)
       have p3_1 : w6.cell? ⟨b, i0 + 22, none⟩ = some (.int .u64 0) := hp6 3 1 _ rfl (by decide)
       have p3_2 : w6.cell? ⟨b, i0 + 23, none⟩ = some (.int .u64 0) := hp6 3 2 _ rfl (by decide)
       have p3_3 : w6.cell? ⟨b, i0 + 24, none⟩ = some (.int .u64 0) := hp6 3 3 _ rfl (by decide)
       have p3_4 : w6.cell? ⟨b, i0 + 25, none⟩ = some (.int .u64 0) := hp6 3 4 _ rfl (by decide)
       have p3_5 : w6.cell? ⟨b, i0 + 26, none⟩ = some (.int .i64 5) := hp6 3 5 _ rfl (by decide)
       have p3_6 : w6.cell? ⟨b, i0 + 27, none⟩ = some (.int .i64 0) := hp6 3 6 _ rfl (by decide)
       have p6_0 : w6.cell? ⟨b, i0 + 42, none⟩ = some (.int .i64 6) := hp6 6 0 _ rfl (by decide)
       have hbx := (hb.block w5.heap.size (by simp)).trans (heap_alloc_new w5 _)
       have q0 := cell_of_row w6 w5.heap.size 0 _ _ _ hbx
       have q1 := cell_of_row w6 w5.heap.size 1 _ _ _ hbx
       have hl6 : w5.heap.size < w6.heap.size := (Array.getElem?_eq_some_iff.1 hbx).1
       clear hb hq hp6 hbx))
  go_ret
  exact ⟨rfl, H6.out⟩
end Go.Proofs.YtbjobbkipmkndaaDoor
set_option linter.unusedVariables false
set_option linter.unusedSimpArgs false
set_option maxRecDepth 100000
set_option maxHeartbeats 8000000
namespace Go.Proofs.YtbjobbkipmkndaaDoor
open Go.RowKit
theorem valid_law (t : TN) (sv : Value) (ln : Bool) (w : World) (h : TI w t sv) (hK : KT w) : Calls Tryd.prog 4 #[.agg #[.int .i64 t.op, .int .u64 (wd t.st 0 64 : Nat), .int .u64 (wd t.st 64 64 : Nat), .int .u64 (wd t.st 128 64 : Nat), .int .u64 (wd t.st 192 64 : Nat), .int .i64 t.lo, .int .i64 t.hi, .int .i64 t.g, sv], .bool ln] w fun e w' => e = .returned (.bool true) ∧ Below w.heap.size w w' := by
  obtain ⟨ad, cap, rfl⟩ := h.form
  have hb : Below w.heap.size w (w.alloc (.cells #[.int .i64 t.op, .int .u64 (wd t.st 0 64 : Nat), .int .u64 (wd t.st 64 64 : Nat), .int .u64 (wd t.st 128 64 : Nat), .int .u64 (wd t.st 192 64 : Nat), .int .i64 t.lo, .int .i64 t.hi, .int .i64 t.g, .slice ad t.args.len cap] 34)) := (Below.refl _ _).alloc (Nat.le_refl _) _
  have HB := Lib.hid hb
  have HC := Lib.hid (compile_ti (h.below hb) ln)
  have HKT := Lib.hid hK
  have HA := Lib.hid (fun W (hW : Below w.heap.size w W) => awake_any W (hK.below hW))
  clear h hb hK
  by_cases hE : (cmpT t).2 = 0
  case neg =>
    have hl := cmp_err hE
    have hE2 : ((cmpT t).2 == 0) = false := beq_no hE
    rw [hl, decide_eq_false hE, Bool.and_false] at HC
    generalize (cmpT t).2 = er at *
    clear hl
    go_enter Tryd.func4, Tryd.ntmps4
    go_wp2_with (first
      | (go_at_call 13; (with_reducible refine HC.out.mono ?_); rintro e w1 ⟨pv, rfl, hp, hb⟩; have HB1 := Lib.hid (HB.out.trans (hb.mono HB.out.size)); obtain ⟨ap, cp, rfl⟩ := hp.form; have HB1a := Lib.hid (fun x => HB1.out.alloc HB1.out.size x); clear hb hp)
      | (go_at_call 12; (with_reducible refine (HA.out _ (HB1a.out _)).mono ?_); rintro e w2 ⟨rfl, hb⟩; have HB2 := Lib.hid ((HB1a.out _).trans (hb.mono (HB1a.out _).size)); clear hb))
    all_goals go_ret
    all_goals exact ⟨rfl, HB2.out⟩
  case pos =>
    obtain ⟨hc1, hc2, hc3, hc4, hc5⟩ := cmp_ok hE
    rw [hc5, hE] at HC
    simp only [decide_true, Bool.and_true] at HC
    have hv := prg_valid (expT t) hc4
    have hm := prg_match (expT t)
    have hn : 1 ≤ (prgT (expT t)).length := by unfold prgT; rw [List.length_append]; show 1 ≤ _ + 1; omega
    generalize prgT (expT t) = L at *
    have HM := Lib.hid hm
    have HV := Lib.hid (fun W n v (h : PI W n L v) (hk : KT W) => valid_any L v n ln W h hk)
    rw [hv] at HV
    have hn0 : (0 : Int) < (L.length : Int) := by omega
    have hn4 : (L.length : Int) ≤ 4096 := by omega
    clear hc1 hc2 hc3 hc5 hE hv hm
    go_enter Tryd.func4, Tryd.ntmps4
    go_wp2_with (first
      | (go_at_call 13; (with_reducible refine HC.out.mono ?_); rintro e w1 ⟨pv, rfl, hp, hb⟩; have HB1 := Lib.hid (HB.out.trans (hb.mono HB.out.size)); have HP1 := Lib.hid hp; obtain ⟨ap, cp, rfl⟩ := hp.form; clear hb hp))
    have hal := (Below.refl w1.heap.size w1).alloc (Nat.le_refl _) (.cells #[.slice ap L.length cp, .bool ln] 24)
    have hbx := heap_alloc_new w1 (.cells #[.slice ap L.length cp, .bool ln] 24)
    obtain ⟨W, hW⟩ : ∃ W, W = w1.alloc (.cells #[.slice ap L.length cp, .bool ln] 24) := ⟨_, rfl⟩
    rw [← hW] at hal hbx
    have HP := Lib.hid (HP1.out.below hal)
    have HBW := Lib.hid (HB1.out.trans (hal.mono HB1.out.size))
    have HBx := Lib.hid hbx
    rw [← hW]
    clear hal hbx hW HP1 HB1 HC
    go_loopw [7] (fun i wr => ∃ (k : Nat), k ≤ L.length ∧ i = .int .i64 k ∧ Hid (Below W.heap.size W wr)) (fun i _ => L.length - (intOf i).toNat)
    case atStart => exact ⟨0, Nat.zero_le _, rfl, Lib.hid (Below.refl _ _)⟩
    case round =>
      obtain ⟨k, hk, rfl, HR⟩ := hrel
      have hb0 := (HR.out.block w1.heap.size (Array.getElem?_eq_some_iff.1 HBx.out).1).trans HBx.out
      have b0 := cell_of_row wr w1.heap.size 0 _ _ _ hb0
      have b1 := cell_of_row wr w1.heap.size 1 _ _ _ hb0
      have hlb : w1.heap.size < wr.heap.size := (Array.getElem?_eq_some_iff.1 hb0).1
      clear hb0
      by_cases hkn : k < L.length
      · have ki : (k : Int) < L.length := by omega
        have ki0 : (0 : Int) ≤ k := by omega
        obtain ⟨ad2, cap2, e2, hcap2, hce⟩ := HP.out
        cases e2
        obtain ⟨b, i0, rfl, hbl, hcc⟩ : ∃ b i, ap = some ⟨b, i, none⟩ ∧ b < W.heap.size ∧ ∀ (k : Nat) (hk : k < L.length) (j : Nat), j < 7 → W.cell? ⟨b, i + k * 7 + j, none⟩ = (rowI (L[k]'hk))[j]? := by
          rcases hce with h1 | ⟨b, i, e1, _, e2, e3⟩
          · omega
          · exact ⟨b, i, e1, e2, e3⟩
        have hc : wr.cell? ⟨b, i0 + k * 7, none⟩ = some (.int .i64 L[k].op) := (HR.out.cell (by exact hbl)).trans (hcc k hkn 0 (by decide))
        have hmk := HM.out k hkn
        generalize L[k].op = o at *
        clear hce hcc
        by_cases hlast : k + 1 = L.length
        · have hlI : ((k : Int) == (L.length : Int) - 1) = true := by simp; omega
          have ho : (o == 6) = true := by rw [hmk]; exact decide_eq_true hlast
          clear hmk hlast
          go_upto_region 7 with fail
          go_quiet (fail)
          go_wp2_with fail
          go_roundw
          case rel => exact ⟨k + 1, by omega, by go_num, Lib.hid (below_drewN HR.out _)⟩
          case measure => simp [intOf]; omega
        · have hlI : ((k : Int) == (L.length : Int) - 1) = false := by simp; omega
          have ho : (o == 6) = false := by rw [hmk]; exact decide_eq_false hlast
          clear hmk hlast
          go_upto_region 7 with fail
          go_quiet (fail)
          go_wp2_with fail
          go_roundw
          case rel => exact ⟨k + 1, by omega, by go_num, Lib.hid (below_drewN HR.out _)⟩
          case measure => simp [intOf]; omega
      · obtain rfl : k = L.length := by omega
        have HP2 := Lib.hid (HP.out.below HR.out)
        have HB2 := Lib.hid (HBW.out.trans (HR.out.mono HBW.out.size))
        cases ln
        all_goals
          (go_wp2_with (first
            | (go_at_call 8; (with_reducible refine (HV.out _ _ _ HP2.out (HKT.out.below HB2.out)).mono ?_); rintro e w3 ⟨rfl, hb⟩; have HB3 := Lib.hid (HB2.out.trans (hb.mono HB2.out.size)); have b1 := (hb.cell (p := ⟨w1.heap.size, 1, none⟩) hlb).trans b1; have hlb3 : w1.heap.size < w3.heap.size := (by have := hb.size; omega); clear hb)
            | (go_at_call 12; (with_reducible refine (HA.out _ HB3.out).mono ?_); rintro e w4 ⟨rfl, hb⟩; have HB4 := Lib.hid (HB3.out.trans (hb.mono HB3.out.size)); clear hb)))
        all_goals go_ret
        all_goals exact ⟨rfl, HB4.out⟩
end Go.Proofs.YtbjobbkipmkndaaDoor
