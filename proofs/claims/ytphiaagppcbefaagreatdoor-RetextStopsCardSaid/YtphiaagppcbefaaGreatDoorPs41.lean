/- RxPar. -/
import Derived.Test.YtphiaagppcbefaaGreatDoorPs40
import Derived.Test.YtphiaagppcbefaaGreatDoorPs24
import Derived.Test.YtphiaagppcbefaaGreatDoorPs5
import Derived.StillTailTactics
import Derived.Deep.CutRange
import Derived.Deep.Cut
import Derived.Deep.DeepCutAuto
set_option linter.unusedVariables false
namespace Go.Proofs.YtphiaagppcbefaaGreatDoor
open Go.RowKit
theorem SL.form {k n : Nat} {F : Nat → Nat → Value} {w : World} {v : Value} (h : SL k n F w v) : ∃ a m c, v = .slice a m c := by
  obtain ⟨a, c, rfl, _⟩ := h
  exact ⟨_, _, _, rfl⟩
theorem LK.start (w W : World) (B : Nat) (c : CX) (V : LV) (hlk : LocM w c.L V.W V.C V.E) (ht : tabAt w ∧ maxAt w) (hl : ltabAt w) (hB : w.heap.size ≤ B) (hb : Below w.heap.size w W) : LK W B c V := ⟨w, hlk, ht, hl, hB, hb⟩
theorem isEmpty_no2 (s : ByteArray) (h : 0 < s.size) : s.toList.isEmpty = false := by
  rw [ByteArray.toList_eq]
  cases hl : s.data.toList with
  | nil => have h2 : s.data.toList.length = s.size := by simp
           rw [hl] at h2; simp at h2; omega
  | cons _ _ => rfl
theorem isEmpty_yes2 (s : ByteArray) (h : s.size = 0) : s.toList.isEmpty = true := by
  rw [ByteArray.toList_eq]
  cases hl : s.data.toList with
  | nil => rfl
  | cons _ _ => have h2 : s.data.toList.length = s.size := by simp
                rw [hl] at h2; simp at h2; omega
theorem build_as {P : Program} {ops : Array Oper} {rest : List Oper} {o : Oper} {a : Act} {w : World} {Q : Exit → Act → World → Prop} (hg : o.guard = none) (t : TypeId) (parts : Array (Nat × Operand)) (ho : o.op = .build t parts) (cells : Array Value)
    (hc : P.built t (parts.map fun (i, x) => (i, a.eval x)).toList = some cells) (h : wpList P ops Q rest (a.put o.dst (.agg cells)) w) : wpList P ops Q (o :: rest) a w :=
  wpList_build hg t parts ho (by rw [hc]; rfl) (by rw [hc]; exact h)
theorem info_prs : (Tryz.prog.info? 54).map (·.size) = some 24 := by kernel_rfl
theorem info_reP : (Tryz.prog.info? 35).map (·.size) = some 9 := by kernel_rfl
def zero9 : Array Value := #[.int .i64 0, .int .u64 0, .int .u64 0, .int .u64 0, .int .u64 0, .int .i64 0, .int .i64 0, .int .i64 0, .slice none 0 0]
def RN (w : World) (g : Nat) (cs : Array Value) : Prop := w.heap[g]? = some (.cells cs 35 (0, 0))
theorem RN.below {w w' : World} {g : Nat} {cs : Array Value} (h : RN w g cs) (hb : Below w.heap.size w w') : RN w' g cs := (hb.block g (Array.getElem?_eq_some_iff.1 h).1).trans h
theorem RN.cell {w : World} {g : Nat} {cs : Array Value} (h : RN w g cs) (j : Nat) : w.cell? ⟨g, j, none⟩ = cs[j]? := cell_of_row w g j _ _ _ h
theorem RN.free {w : World} {g : Nat} {cs : Array Value} (h : RN w g cs) (j : Nat) : w.frozen? ⟨g, j, none⟩ = false := frozen_of_row w g j _ _ h
theorem RN.ret {fn : Func} {t0 t1 t2 : Tmp} (hr : fn.results = #[.cell t0 35, .tmp t1, .tmp t2]) (tmps : Array Value) (w : World) (g : Nat) (c : Array Value) (hs : c.size = 9) (hp : tmps.getD t0 undef = .pointer (some ⟨g, 0, none⟩)) (hA : RN w g c) (v1 v2 : Value) (h1 : tmps.getD t1 undef = v1) (h2 : tmps.getD t2 undef = v2) :
    (results fn tmps).run Tryz.prog w = .ok (.tuple #[.agg c, v1, v2]) w := by
  have hp' : tmps[t0]?.getD undef = .pointer (some ⟨g, 0, none⟩) := by simpa using hp
  have h1' : tmps[t1]?.getD undef = v1 := by simpa using h1
  have h2' : tmps[t2]?.getD undef = v2 := by simpa using h2
  simp [results, hr, hp', h1', h2', asAddr, run_loadVar_row w g _ _ c (0, 0) _ hA Tryz.underlying35 rfl (by rw [hs]; exact info_reP)]
def ParE (w : World) (r : TN × Int × Nat) (e : Ending) (w' : World) : Prop := ∃ v, e = .returned (.tuple #[v, .int .i64 r.2.1, .int .i64 (r.2.2 : Int)]) ∧ TV w' (Frm w.heap.size) r.1 v ∧ Below w.heap.size w w'
def PE (w : World) (R B : Nat) (c : CX) (V : LV) (q : PS) (W : World) : Prop := Below w.heap.size w W ∧ PA W B c V q ∧ RN W R zero9
theorem PE.drew {w W : World} {R B : Nat} {c : CX} {V : LV} {q : PS} (h : PE w R B c V q W) : PE w R B c V q W.drew := ⟨h.1.drew, h.2.1.drew, h.2.2⟩
theorem PE.set {w W : World} {R B : Nat} {c : CX} {V : LV} {q : PS} (h : PE w R B c V q W) (h1 : w.heap.size ≤ R) (h2 : B ≠ R) : PE w R B c V q (W.setRow R zero9) :=
  ⟨below_setRow h.1 h1 _, h.2.1.block (setRow_other W R B _ h2), setRow_heap W R _ _ _ _ h.2.2⟩
set_option maxRecDepth 100000 in
set_option maxHeartbeats 8000000 in
theorem par_long (w : World) (c : CX) (aw ac ae : Option Addr) (nw kw nc kc ne ke : Nat) (hs : 256 < c.s.size) : Calls Tryz.prog 11 #[.string c.s, .int .i64 c.fl, .agg #[.string c.L.name, .slice aw nw kw, .string c.L.lower, .string c.L.upper, .slice ac nc kc, .slice ae ne ke]] w (ParE w (T0, 3, 256)) := by
  have hi : (256 : Int) < c.s.size := by omega
  go_enter Tryz.func11, Tryz.ntmps11
  go_wp2
  refine bodyPost_ret (RN.ret Tryz.results11 _ _ (w.heap.size + 1) #[.int .i64 0, .int .u64 0, .int .u64 0, .int .u64 0, .int .u64 0, .int .i64 0, .int .i64 0, .int .i64 0, .slice none 0 0] rfl rfl (by unfold RN; exact heap_alloc2_new w _ _) _ _ rfl rfl) rfl ⟨_, rfl, TV.leaf _ _ 0 0 0 0 noSet, ((Below.refl _ _).alloc (Nat.le_refl _) _).alloc (by simp) _⟩
set_option maxRecDepth 100000 in
set_option maxHeartbeats 8000000 in
theorem par_none (w : World) (c : CX) (aw ac ae : Option Addr) (nw kw nc kc ne ke : Nat) (hs : c.s.size = 0) : Calls Tryz.prog 11 #[.string c.s, .int .i64 c.fl, .agg #[.string c.L.name, .slice aw nw kw, .string c.L.lower, .string c.L.upper, .slice ac nc kc, .slice ae ne ke]] w (ParE w (leafT 1, 0, 0)) := by
  have hi : ¬ (256 : Int) < c.s.size := by omega
  have hne : c.s.toList.isEmpty = true := isEmpty_yes2 c.s hs
  go_enter Tryz.func11, Tryz.ntmps11
  go_wp2
  refine bodyPost_ret (RN.ret Tryz.results11 _ _ (w.heap.size + 1) #[.int .i64 1, .int .u64 0, .int .u64 0, .int .u64 0, .int .u64 0, .int .i64 0, .int .i64 0, .int .i64 0, .slice none 0 0] rfl rfl (by unfold RN; exact heap_alloc2_new w _ _) _ _ rfl rfl) rfl ⟨_, rfl, TV.leaf _ _ 1 0 0 0 noSet, ((Below.refl _ _).alloc (Nat.le_refl _) _).alloc (by simp) _⟩
theorem pe_start (w : World) (c : CX) (VX : LV) (LC : Array Value) : PE w (w.heap.size + 1) (w.heap.size + 1 + 1) c VX PS0 ((((w.alloc (.cells LC 26)).alloc (.cells #[.int .i64 0, .int .u64 0, .int .u64 0, .int .u64 0, .int .u64 0, .int .i64 0, .int .i64 0, .int .i64 0, .slice none 0 0] 35)).alloc (.cells #[.string ⟨#[]⟩, .int .i64 0, .string ⟨#[]⟩, .slice none 0 0, .string ⟨#[]⟩, .string ⟨#[]⟩, .slice none 0 0, .slice none 0 0, .int .i64 0, .int .i64 0, .int .i64 0, .int .i64 0, .bool false, .bool false, .bool false, .bool false, .bool false, .bool false, .bool false, .bool false, .bool false, .bool false, .int .i64 0, .int .i64 0] 54)).setRow (w.heap.size + 1 + 1) (pcells c VX PS0)) := by
  have e1 : (w.alloc (.cells LC 26)).heap.size = w.heap.size + 1 := by simp
  have e2 : ((w.alloc (.cells LC 26)).alloc (.cells #[.int .i64 0, .int .u64 0, .int .u64 0, .int .u64 0, .int .u64 0, .int .i64 0, .int .i64 0, .int .i64 0, .slice none 0 0] 35)).heap.size = w.heap.size + 1 + 1 := by simp
  have b3 : Below w.heap.size w (((w.alloc (.cells LC 26)).alloc (.cells #[.int .i64 0, .int .u64 0, .int .u64 0, .int .u64 0, .int .u64 0, .int .i64 0, .int .i64 0, .int .i64 0, .slice none 0 0] 35)).alloc (.cells #[.string ⟨#[]⟩, .int .i64 0, .string ⟨#[]⟩, .slice none 0 0, .string ⟨#[]⟩, .string ⟨#[]⟩, .slice none 0 0, .slice none 0 0, .int .i64 0, .int .i64 0, .int .i64 0, .int .i64 0, .bool false, .bool false, .bool false, .bool false, .bool false, .bool false, .bool false, .bool false, .bool false, .bool false, .int .i64 0, .int .i64 0] 54)) := (((Below.refl _ _).alloc (Nat.le_refl _) _).alloc (by simp) _).alloc (by simp; omega) _
  have hp : (((w.alloc (.cells LC 26)).alloc (.cells #[.int .i64 0, .int .u64 0, .int .u64 0, .int .u64 0, .int .u64 0, .int .i64 0, .int .i64 0, .int .i64 0, .slice none 0 0] 35)).alloc (.cells #[.string ⟨#[]⟩, .int .i64 0, .string ⟨#[]⟩, .slice none 0 0, .string ⟨#[]⟩, .string ⟨#[]⟩, .slice none 0 0, .slice none 0 0, .int .i64 0, .int .i64 0, .int .i64 0, .int .i64 0, .bool false, .bool false, .bool false, .bool false, .bool false, .bool false, .bool false, .bool false, .bool false, .bool false, .int .i64 0, .int .i64 0] 54)).heap[w.heap.size + 1 + 1]? = some (.cells #[.string ⟨#[]⟩, .int .i64 0, .string ⟨#[]⟩, .slice none 0 0, .string ⟨#[]⟩, .string ⟨#[]⟩, .slice none 0 0, .slice none 0 0, .int .i64 0, .int .i64 0, .int .i64 0, .int .i64 0, .bool false, .bool false, .bool false, .bool false, .bool false, .bool false, .bool false, .bool false, .bool false, .bool false, .int .i64 0, .int .i64 0] 54 (0, 0)) := by
    rw [← e2]
    exact heap_alloc_new _ _
  have hr : (((w.alloc (.cells LC 26)).alloc (.cells #[.int .i64 0, .int .u64 0, .int .u64 0, .int .u64 0, .int .u64 0, .int .i64 0, .int .i64 0, .int .i64 0, .slice none 0 0] 35)).alloc (.cells #[.string ⟨#[]⟩, .int .i64 0, .string ⟨#[]⟩, .slice none 0 0, .string ⟨#[]⟩, .string ⟨#[]⟩, .slice none 0 0, .slice none 0 0, .int .i64 0, .int .i64 0, .int .i64 0, .int .i64 0, .bool false, .bool false, .bool false, .bool false, .bool false, .bool false, .bool false, .bool false, .bool false, .bool false, .int .i64 0, .int .i64 0] 54)).heap[w.heap.size + 1]? = some (.cells zero9 35 (0, 0)) := by
    rw [heap_alloc_old _ _ (by rw [e2]; omega)]
    exact heap_alloc2_new w _ _
  exact ⟨below_setRow b3 (by omega) _, setRow_heap _ _ _ _ _ _ hp, (setRow_other _ _ _ _ (by omega)).trans hr⟩
theorem par_mid {w W6 w1 : World} {R B : Nat} {c : CX} {V : LV} {r : TN × PS} {sv : Value} (hw : w.heap.size ≤ B) (hb : Below w.heap.size w W6) (hB : B < W6.heap.size) (hst : Stp W6 B c V r.2 w1) (hr : RN w1 R zero9) (ht : SV w1 (Frm W6.heap.size) r.1.args sv) (cs : Array Value) :
    Below w.heap.size w (w1.alloc (.cells cs 35)) ∧ PA (w1.alloc (.cells cs 35)) B c V r.2 ∧ RN (w1.alloc (.cells cs 35)) R zero9 ∧ RN (w1.alloc (.cells cs 35)) w1.heap.size cs ∧ SV (w1.alloc (.cells cs 35)) (Frm W6.heap.size) r.1.args sv := by
  have hk := hst.2
  have ha : Below w1.heap.size w1 (w1.alloc (.cells cs 35)) := (Below.refl _ _).alloc (Nat.le_refl _) _
  have hb1 : Below w.heap.size w w1 := ⟨hk.os.trans hb.os, hk.tape.trans hb.tape, hk.output.trans hb.output, Nat.le_trans hb.size hk.size, fun g hg => (hk.block g (by have := hb.size; omega) (by omega)).trans (hb.block g hg)⟩
  exact ⟨hb1.alloc hb1.size _, (hst.1.below ha).pa, hr.below ha, heap_alloc_new w1 _, ht.far (Afar.frm ha (Nat.le_refl _))⟩
set_option maxRecDepth 100000 in
set_option maxHeartbeats 8000000 in
theorem par_err (w : World) (c : CX) (aw ac ae : Option Addr) (nw kw nc kc ne ke : Nat) (V : LV) (hV : V = ⟨.slice aw nw kw, .slice ac nc kc, .slice ae ne ke⟩) (hlk : LocM w c.L V.W V.C V.E) (ht : tabAt w ∧ maxAt w) (hl : ltabAt w) (hs : c.s.size ≤ 256) (h0 : c.s.size ≠ 0) (r : TN × PS) (HU : Hid (∀ W B, PM W B c V PS0 → Calls Tryz.prog 24 #[.pointer (some ⟨B, 0, none⟩)] W (Ret W B c V r))) (he : r.2.err ≠ 0) : Calls Tryz.prog 11 #[.string c.s, .int .i64 c.fl, .agg #[.string c.L.name, .slice aw nw kw, .string c.L.lower, .string c.L.upper, .slice ac nc kc, .slice ae ne ke]] w (ParE w (T0, r.2.err, r.2.ea)) := by
  have z1 : (r.2.err == 0) = false := by simpa using he
  have z2 : (r.2.err != 0) = true := by simpa using he
  have hi : ¬ (256 : Int) < c.s.size := by omega
  have hne : c.s.toList.isEmpty = false := isEmpty_no2 c.s (by omega)
  have HLK := Lib.hid (fun W B => LK.start w W B c V hlk ht hl)
  clear hlk ht hl
  subst hV
  go_enter Tryz.func11, Tryz.ntmps11
  go_upto_region 5 with fail
  refine wp_region_lit ?_
  iterate 6 go_step
  refine wpList_load_row rfl _ _ rfl w.heap.size rfl 26 #[.string c.L.name, .slice aw nw kw, .string c.L.lower, .string c.L.upper, .slice ac nc kc, .slice ae ne ke] (0, 0) _ ?_ Tryz.underlying26 rfl info_loc ?_
  · exact (heap_alloc_old _ _ (by simp)).trans (heap_alloc_new w _)
  refine build_as rfl _ _ rfl (pcells c ⟨.slice aw nw kw, .slice ac nc kc, .slice ae ne ke⟩ PS0) (by kernel_rfl) ?_
  iterate 3 go_step
  refine wpList_store_row rfl _ _ _ rfl (w.heap.size + 1 + 1) (pcells c ⟨.slice aw nw kw, .slice ac nc kc, .slice ae ne ke⟩ PS0) rfl rfl 54 #[.string ⟨#[]⟩, .int .i64 0, .string ⟨#[]⟩, .slice none 0 0, .string ⟨#[]⟩, .string ⟨#[]⟩, .slice none 0 0, .slice none 0 0, .int .i64 0, .int .i64 0, .int .i64 0, .int .i64 0, .bool false, .bool false, .bool false, .bool false, .bool false, .bool false, .bool false, .bool false, .bool false, .bool false, .int .i64 0, .int .i64 0] ?_ info_prs rfl (by simp [pcells, Value.oneCell']) ?_
  · have e2 : ((w.alloc (.cells #[.string c.L.name, .slice aw nw kw, .string c.L.lower, .string c.L.upper, .slice ac nc kc, .slice ae ne ke] 26)).alloc (.cells #[.int .i64 0, .int .u64 0, .int .u64 0, .int .u64 0, .int .u64 0, .int .i64 0, .int .i64 0, .int .i64 0, .slice none 0 0] 35)).heap.size = w.heap.size + 1 + 1 := by simp
    have hn := heap_alloc_new ((w.alloc (.cells #[.string c.L.name, .slice aw nw kw, .string c.L.lower, .string c.L.upper, .slice ac nc kc, .slice ae ne ke] 26)).alloc (.cells #[.int .i64 0, .int .u64 0, .int .u64 0, .int .u64 0, .int .u64 0, .int .i64 0, .int .i64 0, .int .i64 0, .slice none 0 0] 35)) (.cells #[.string ⟨#[]⟩, .int .i64 0, .string ⟨#[]⟩, .slice none 0 0, .string ⟨#[]⟩, .string ⟨#[]⟩, .slice none 0 0, .slice none 0 0, .int .i64 0, .int .i64 0, .int .i64 0, .int .i64 0, .bool false, .bool false, .bool false, .bool false, .bool false, .bool false, .bool false, .bool false, .bool false, .bool false, .int .i64 0, .int .i64 0] 54)
    rw [e2] at hn
    exact hn
  have hpe := pe_start w c ⟨.slice aw nw kw, .slice ac nc kc, .slice ae ne ke⟩ #[.string c.L.name, .slice aw nw kw, .string c.L.lower, .string c.L.upper, .slice ac nc kc, .slice ae ne ke]
  generalize ((((w.alloc (.cells #[.string c.L.name, .slice aw nw kw, .string c.L.lower, .string c.L.upper, .slice ac nc kc, .slice ae ne ke] 26)).alloc (.cells #[.int .i64 0, .int .u64 0, .int .u64 0, .int .u64 0, .int .u64 0, .int .i64 0, .int .i64 0, .int .i64 0, .slice none 0 0] 35)).alloc (.cells #[.string ⟨#[]⟩, .int .i64 0, .string ⟨#[]⟩, .slice none 0 0, .string ⟨#[]⟩, .string ⟨#[]⟩, .slice none 0 0, .slice none 0 0, .int .i64 0, .int .i64 0, .int .i64 0, .int .i64 0, .bool false, .bool false, .bool false, .bool false, .bool false, .bool false, .bool false, .bool false, .bool false, .bool false, .int .i64 0, .int .i64 0] 54)).setRow (w.heap.size + 1 + 1) (pcells c ⟨.slice aw nw kw, .slice ac nc kc, .slice ae ne ke⟩ PS0)) = W6 at hpe ⊢
  iterate 3 go_step
  obtain ⟨hb6, hpa6, hrn6⟩ := hpe
  have hp6 : PM W6 (w.heap.size + 1 + 1) c ⟨.slice aw nw kw, .slice ac nc kc, .slice ae ne ke⟩ PS0 := ⟨hpa6, HLK.out W6 (w.heap.size + 1 + 1) (by omega) hb6, hs, Nat.zero_le _, Nat.le_refl _, Nat.zero_le _, Nat.le_refl _⟩
  have HB6 := Lib.hid hb6
  have HP6 := Lib.hid hp6
  have HR6 := Lib.hid hrn6
  have hz6 : w.heap.size + 1 + 1 < W6.heap.size := hp6.lt
  clear hb6 hpa6 hrn6 hp6
  go_upto_region 7 with (first
    | (go_at_call 24; (with_reducible refine (HU.out _ _ HP6.out).mono ?_); rintro e w1 ⟨v, rfl, htv, hst⟩
       obtain ⟨sv, rfl, hsv⟩ := htv
       obtain ⟨ad, cap, rfl⟩ := slice_form hsv
       unfold rowV
       have HT1 := Lib.hid hsv
       have HS1 := Lib.hid hst
       have HR1 := Lib.hid (show RN w1 (w.heap.size + 1) zero9 from (hst.2.block _ (by omega) (by omega)).trans HR6.out)
       have hz1 : W6.heap.size ≤ w1.heap.size := hst.2.size
       clear hsv hst))
  have h2 := par_mid (w := w) (R := w.heap.size + 1) (B := w.heap.size + 1 + 1) (by omega) HB6.out hz6 HS1.out HR1.out HT1.out #[.int .i64 r.1.op, .int .u64 (wd r.1.st 0 64 : Nat), .int .u64 (wd r.1.st 64 64 : Nat), .int .u64 (wd r.1.st 128 64 : Nat), .int .u64 (wd r.1.st 192 64 : Nat), .int .i64 r.1.lo, .int .i64 r.1.hi, .int .i64 r.1.g, .slice ad r.1.args.len cap]
  generalize (w1.alloc (.cells #[.int .i64 r.1.op, .int .u64 (wd r.1.st 0 64 : Nat), .int .u64 (wd r.1.st 64 64 : Nat), .int .u64 (wd r.1.st 128 64 : Nat), .int .u64 (wd r.1.st 192 64 : Nat), .int .i64 r.1.lo, .int .i64 r.1.hi, .int .i64 r.1.g, .slice ad r.1.args.len cap] 35)) = w2 at h2 ⊢
  obtain ⟨hb2, hpa2, hrn2, hrt2, hsv2⟩ := h2
  have HE2 := Lib.hid (And.intro hb2 (And.intro hpa2 hrn2))
  have HT2 := Lib.hid hrt2
  have HV2 := Lib.hid hsv2
  obtain ⟨⟨x0, x1, x2, x3, x4, x5, x6, x7⟩, xf⟩ := hpa2.all
  clear hb2 hpa2 hrn2 hrt2 hsv2 hz1
  clear HS1 HR1 HT1 HB6 HP6 HR6
  go_upto_region 8 with fail
  clear x0 x1 x2 x3 x4 x5 x6 x7 xf
  refine wp_region_held_drew (S := (PE w (w.heap.size + 1) (w.heap.size + 1 + 1) c ⟨.slice aw nw kw, .slice ac nc kc, .slice ae ne ke⟩ r.2)) (by kernel_rfl) ?_ (fun hHeld => ?_)
  · exact PE.drew HE2.out
  refine wpAnyH_take (i := 0) (v := ?ev0) rfl (by kernel_rfl) (by kernel_rfl) (by kernel_rfl) (fun _ _ _ h => h) (Or.inl ⟨by rfl, ?ey0⟩) (by assumption) ?er0
  case ey0 =>
    intro wx hSw
    clear hSw
    go_simp
    first | done | (with_reducible rfl)
  (try simp only [Act.put, List.getElem_toArray, List.getElem_cons_zero, List.setIfInBounds_toArray, List.set_cons_zero, List.set_cons_succ])
  refine wpAnyH_take (i := 1) (v := ?ev1) rfl (by kernel_rfl) (by kernel_rfl) (by kernel_rfl) (fun _ _ _ h => h) (Or.inl ⟨by rfl, ?ey1⟩) (by assumption) ?er1
  case ey1 =>
    intro wx hSw
    clear hSw
    go_simp
    first | done | (with_reducible rfl)
  (try simp only [Act.put, List.getElem_toArray, List.getElem_cons_succ, List.getElem_cons_zero, List.setIfInBounds_toArray, List.set_cons_zero, List.set_cons_succ])
  refine wpAnyH_take (i := 2) (v := ?ev2) rfl (by kernel_rfl) (by kernel_rfl) (by kernel_rfl) (fun _ _ _ h => h) (Or.inl ⟨by rfl, ?ey2⟩) (by assumption) ?er2
  case ey2 =>
    intro wx hSw
    have hcell := hSw.2.1.err
    clear hSw
    go_simp
    first | done | (with_reducible rfl)
  (try simp only [Act.put, List.getElem_toArray, List.getElem_cons_succ, List.getElem_cons_zero, List.setIfInBounds_toArray, List.set_cons_zero, List.set_cons_succ])
  refine wpAnyH_take (i := 3) (v := ?ev3) rfl (by kernel_rfl) (by kernel_rfl) (by kernel_rfl) (fun _ _ _ h => h) (Or.inl ⟨by rfl, ?ey3⟩) (by assumption) ?er3
  case ey3 =>
    intro wx hSw
    clear hSw
    go_simp
    first | done | (with_reducible rfl)
  (try simp only [Act.put, List.getElem_toArray, List.getElem_cons_succ, List.getElem_cons_zero, List.setIfInBounds_toArray, List.set_cons_zero, List.set_cons_succ])
  refine wpAnyH_take (i := 4) (v := ?ev4) rfl (by kernel_rfl) (by kernel_rfl) (by kernel_rfl) (fun _ _ _ h => h) (Or.inl ⟨by rfl, ?ey4⟩) (by assumption) ?er4
  case ey4 =>
    intro wx hSw
    have hcell := hSw.2.1.ea
    clear hSw
    go_simp
    first | done | (with_reducible rfl)
  (try simp only [Act.put, List.getElem_toArray, List.getElem_cons_succ, List.getElem_cons_zero, List.setIfInBounds_toArray, List.set_cons_zero, List.set_cons_succ])
  refine wpAnyH_ready (rs := [5]) (by kernel_rfl) (by simp) ?_
  refine AllReadyH.cons rfl (fun K hK => ?_) AllReadyH.nil
  rw [if_pos (by rfl)]
  refine wp_store_row 35 _ _ rfl (w.heap.size + 1) zero9 rfl rfl 35 zero9 hHeld.2.2 info_reP rfl (by simp [zero9, Value.oneCell']) ?_
  refine hK.out _ _ ?_ (fun hHeld1 => ?_)
  · exact hHeld.set (by omega) (by omega)
  clear hK K
  (try simp only [Act.put, List.getElem_toArray, List.getElem_cons_succ, List.getElem_cons_zero])
  refine wpAnyH_take (i := 6) (v := ?fv6) rfl (by kernel_rfl) (by kernel_rfl) (by kernel_rfl) (fun _ _ _ h => h) (Or.inl ⟨by rfl, ?fy6⟩) (by assumption) ?fr6
  case fy6 =>
    intro wx hSw
    clear hSw
    go_simp
    first | done | (with_reducible rfl)
  (try simp only [Act.put, List.getElem_toArray, List.getElem_cons_succ, List.getElem_cons_zero, List.setIfInBounds_toArray, List.set_cons_zero, List.set_cons_succ])
  refine wpAnyH_take (i := 7) (v := ?fv7) rfl (by kernel_rfl) (by kernel_rfl) (by kernel_rfl) (fun _ _ _ h => h) (Or.inl ⟨by rfl, ?fy7⟩) (by assumption) ?fr7
  case fy7 =>
    intro wx hSw
    clear hSw
    go_simp
    first | done | (with_reducible rfl)
  (try simp only [Act.put, List.getElem_toArray, List.getElem_cons_succ, List.getElem_cons_zero, List.setIfInBounds_toArray, List.set_cons_zero, List.set_cons_succ])
  refine wpAnyH_done (by kernel_rfl) ?_ _
  have HF := Lib.hid hHeld1
  clear hHeld hHeld1
  go_wp2
  refine bodyPost_ret (RN.ret Tryz.results11 _ _ (w.heap.size + 1) zero9 rfl rfl HF.out.2.2 _ _ rfl rfl) rfl ⟨_, rfl, TV.leaf _ _ 0 0 0 0 noSet, HF.out.1⟩
set_option maxRecDepth 100000 in
set_option maxHeartbeats 8000000 in
theorem par_lvl (w : World) (c : CX) (aw ac ae : Option Addr) (nw kw nc kc ne ke : Nat) (V : LV) (hV : V = ⟨.slice aw nw kw, .slice ac nc kc, .slice ae ne ke⟩) (hlk : LocM w c.L V.W V.C V.E) (ht : tabAt w ∧ maxAt w) (hl : ltabAt w) (hs : c.s.size ≤ 256) (h0 : c.s.size ≠ 0) (r : TN × PS) (HU : Hid (∀ W B, PM W B c V PS0 → Calls Tryz.prog 24 #[.pointer (some ⟨B, 0, none⟩)] W (Ret W B c V r))) (he : r.2.err = 0) (HLv : Hid (∀ W S ad cap, SV W S r.1.args (.slice ad r.1.args.len cap) → Calls Tryz.prog 25 #[.agg #[.int .i64 r.1.op, .int .u64 (wd r.1.st 0 64 : Nat), .int .u64 (wd r.1.st 64 64 : Nat), .int .u64 (wd r.1.st 128 64 : Nat), .int .u64 (wd r.1.st 192 64 : Nat), .int .i64 r.1.lo, .int .i64 r.1.hi, .int .i64 r.1.g, .slice ad r.1.args.len cap]] W fun e w' => e = .returned (.int .i64 ((lvT r.1 : Nat) : Int)) ∧ Below W.heap.size W w')) (hl2 : 32 < lvT r.1) : Calls Tryz.prog 11 #[.string c.s, .int .i64 c.fl, .agg #[.string c.L.name, .slice aw nw kw, .string c.L.lower, .string c.L.upper, .slice ac nc kc, .slice ae ne ke]] w (ParE w (T0, 3, 0)) := by
  have hi2 : (32 : Int) < (lvT r.1 : Nat) := by omega
  clear hl2
  have hi : ¬ (256 : Int) < c.s.size := by omega
  have hne : c.s.toList.isEmpty = false := isEmpty_no2 c.s (by omega)
  have HLK := Lib.hid (fun W B => LK.start w W B c V hlk ht hl)
  clear hlk ht hl
  subst hV
  go_enter Tryz.func11, Tryz.ntmps11
  go_upto_region 5 with fail
  refine wp_region_lit ?_
  iterate 6 go_step
  refine wpList_load_row rfl _ _ rfl w.heap.size rfl 26 #[.string c.L.name, .slice aw nw kw, .string c.L.lower, .string c.L.upper, .slice ac nc kc, .slice ae ne ke] (0, 0) _ ?_ Tryz.underlying26 rfl info_loc ?_
  · exact (heap_alloc_old _ _ (by simp)).trans (heap_alloc_new w _)
  refine build_as rfl _ _ rfl (pcells c ⟨.slice aw nw kw, .slice ac nc kc, .slice ae ne ke⟩ PS0) (by kernel_rfl) ?_
  iterate 3 go_step
  refine wpList_store_row rfl _ _ _ rfl (w.heap.size + 1 + 1) (pcells c ⟨.slice aw nw kw, .slice ac nc kc, .slice ae ne ke⟩ PS0) rfl rfl 54 #[.string ⟨#[]⟩, .int .i64 0, .string ⟨#[]⟩, .slice none 0 0, .string ⟨#[]⟩, .string ⟨#[]⟩, .slice none 0 0, .slice none 0 0, .int .i64 0, .int .i64 0, .int .i64 0, .int .i64 0, .bool false, .bool false, .bool false, .bool false, .bool false, .bool false, .bool false, .bool false, .bool false, .bool false, .int .i64 0, .int .i64 0] ?_ info_prs rfl (by simp [pcells, Value.oneCell']) ?_
  · have e2 : ((w.alloc (.cells #[.string c.L.name, .slice aw nw kw, .string c.L.lower, .string c.L.upper, .slice ac nc kc, .slice ae ne ke] 26)).alloc (.cells #[.int .i64 0, .int .u64 0, .int .u64 0, .int .u64 0, .int .u64 0, .int .i64 0, .int .i64 0, .int .i64 0, .slice none 0 0] 35)).heap.size = w.heap.size + 1 + 1 := by simp
    have hn := heap_alloc_new ((w.alloc (.cells #[.string c.L.name, .slice aw nw kw, .string c.L.lower, .string c.L.upper, .slice ac nc kc, .slice ae ne ke] 26)).alloc (.cells #[.int .i64 0, .int .u64 0, .int .u64 0, .int .u64 0, .int .u64 0, .int .i64 0, .int .i64 0, .int .i64 0, .slice none 0 0] 35)) (.cells #[.string ⟨#[]⟩, .int .i64 0, .string ⟨#[]⟩, .slice none 0 0, .string ⟨#[]⟩, .string ⟨#[]⟩, .slice none 0 0, .slice none 0 0, .int .i64 0, .int .i64 0, .int .i64 0, .int .i64 0, .bool false, .bool false, .bool false, .bool false, .bool false, .bool false, .bool false, .bool false, .bool false, .bool false, .int .i64 0, .int .i64 0] 54)
    rw [e2] at hn
    exact hn
  have hpe := pe_start w c ⟨.slice aw nw kw, .slice ac nc kc, .slice ae ne ke⟩ #[.string c.L.name, .slice aw nw kw, .string c.L.lower, .string c.L.upper, .slice ac nc kc, .slice ae ne ke]
  generalize ((((w.alloc (.cells #[.string c.L.name, .slice aw nw kw, .string c.L.lower, .string c.L.upper, .slice ac nc kc, .slice ae ne ke] 26)).alloc (.cells #[.int .i64 0, .int .u64 0, .int .u64 0, .int .u64 0, .int .u64 0, .int .i64 0, .int .i64 0, .int .i64 0, .slice none 0 0] 35)).alloc (.cells #[.string ⟨#[]⟩, .int .i64 0, .string ⟨#[]⟩, .slice none 0 0, .string ⟨#[]⟩, .string ⟨#[]⟩, .slice none 0 0, .slice none 0 0, .int .i64 0, .int .i64 0, .int .i64 0, .int .i64 0, .bool false, .bool false, .bool false, .bool false, .bool false, .bool false, .bool false, .bool false, .bool false, .bool false, .int .i64 0, .int .i64 0] 54)).setRow (w.heap.size + 1 + 1) (pcells c ⟨.slice aw nw kw, .slice ac nc kc, .slice ae ne ke⟩ PS0)) = W6 at hpe ⊢
  iterate 3 go_step
  obtain ⟨hb6, hpa6, hrn6⟩ := hpe
  have hp6 : PM W6 (w.heap.size + 1 + 1) c ⟨.slice aw nw kw, .slice ac nc kc, .slice ae ne ke⟩ PS0 := ⟨hpa6, HLK.out W6 (w.heap.size + 1 + 1) (by omega) hb6, hs, Nat.zero_le _, Nat.le_refl _, Nat.zero_le _, Nat.le_refl _⟩
  have HB6 := Lib.hid hb6
  have HP6 := Lib.hid hp6
  have HR6 := Lib.hid hrn6
  have hz6 : w.heap.size + 1 + 1 < W6.heap.size := hp6.lt
  clear hb6 hpa6 hrn6 hp6
  go_upto_region 7 with (first
    | (go_at_call 24; (with_reducible refine (HU.out _ _ HP6.out).mono ?_); rintro e w1 ⟨v, rfl, htv, hst⟩
       obtain ⟨sv, rfl, hsv⟩ := htv
       obtain ⟨ad, cap, rfl⟩ := slice_form hsv
       unfold rowV
       have HT1 := Lib.hid hsv
       have HS1 := Lib.hid hst
       have HR1 := Lib.hid (show RN w1 (w.heap.size + 1) zero9 from (hst.2.block _ (by omega) (by omega)).trans HR6.out)
       have hz1 : W6.heap.size ≤ w1.heap.size := hst.2.size
       clear hsv hst))
  have h2 := par_mid (w := w) (R := w.heap.size + 1) (B := w.heap.size + 1 + 1) (by omega) HB6.out hz6 HS1.out HR1.out HT1.out #[.int .i64 r.1.op, .int .u64 (wd r.1.st 0 64 : Nat), .int .u64 (wd r.1.st 64 64 : Nat), .int .u64 (wd r.1.st 128 64 : Nat), .int .u64 (wd r.1.st 192 64 : Nat), .int .i64 r.1.lo, .int .i64 r.1.hi, .int .i64 r.1.g, .slice ad r.1.args.len cap]
  generalize (w1.alloc (.cells #[.int .i64 r.1.op, .int .u64 (wd r.1.st 0 64 : Nat), .int .u64 (wd r.1.st 64 64 : Nat), .int .u64 (wd r.1.st 128 64 : Nat), .int .u64 (wd r.1.st 192 64 : Nat), .int .i64 r.1.lo, .int .i64 r.1.hi, .int .i64 r.1.g, .slice ad r.1.args.len cap] 35)) = w2 at h2 ⊢
  obtain ⟨hb2, hpa2, hrn2, hrt2, hsv2⟩ := h2
  have HE2 := Lib.hid (And.intro hb2 (And.intro hpa2 hrn2))
  have HT2 := Lib.hid hrt2
  have HV2 := Lib.hid hsv2
  obtain ⟨⟨x0, x1, x2, x3, x4, x5, x6, x7⟩, xf⟩ := hpa2.all
  clear hb2 hpa2 hrn2 hrt2 hsv2 hz1
  clear HS1 HR1 HT1 HB6 HP6 HR6
  rw [he] at x6
  go_upto_region 9 with fail
  clear x0 x1 x2 x3 x4 x5 x6 x7 xf
  refine wp_region_lit ?_
  refine wpList_load_row rfl _ _ rfl w1.heap.size rfl 35 #[.int .i64 r.1.op, .int .u64 (wd r.1.st 0 64 : Nat), .int .u64 (wd r.1.st 64 64 : Nat), .int .u64 (wd r.1.st 128 64 : Nat), .int .u64 (wd r.1.st 192 64 : Nat), .int .i64 r.1.lo, .int .i64 r.1.hi, .int .i64 r.1.g, .slice ad r.1.args.len cap] (0, 0) _ HT2.out Tryz.underlying35 rfl info_reP ?_
  go_upto_region 10 with (first
    | (go_at_call 25; (with_reducible refine (HLv.out _ _ _ _ HV2.out).mono ?_); rintro e w3 ⟨rfl, hb3⟩; have HB3 := Lib.hid hb3; clear hb3))
  refine wp_region_lit ?_
  refine build_as rfl _ _ rfl zero9 (by kernel_rfl) ?_
  refine wpList_store_row rfl 35 _ _ rfl (w.heap.size + 1) zero9 rfl rfl 35 zero9 (HE2.out.2.2.below HB3.out) info_reP rfl (by simp [zero9, Value.oneCell']) ?_
  have HRF := Lib.hid (setRow_heap w3 (w.heap.size + 1) _ (zero9) _ _ (HE2.out.2.2.below HB3.out))
  have HBF := Lib.hid (below_setRow (HE2.out.1.trans (HB3.out.mono HE2.out.1.size)) (by omega : w.heap.size ≤ w.heap.size + 1) (zero9))
  skip
  go_wp2
  refine bodyPost_ret (RN.ret Tryz.results11 _ _ (w.heap.size + 1) (zero9) rfl rfl HRF.out _ _ rfl rfl) rfl ⟨_, rfl, TV.leaf _ _ 0 0 0 0 noSet, HBF.out⟩
set_option maxRecDepth 100000 in
set_option maxHeartbeats 8000000 in
theorem par_ok (w : World) (c : CX) (aw ac ae : Option Addr) (nw kw nc kc ne ke : Nat) (V : LV) (hV : V = ⟨.slice aw nw kw, .slice ac nc kc, .slice ae ne ke⟩) (hlk : LocM w c.L V.W V.C V.E) (ht : tabAt w ∧ maxAt w) (hl : ltabAt w) (hs : c.s.size ≤ 256) (h0 : c.s.size ≠ 0) (r : TN × PS) (HU : Hid (∀ W B, PM W B c V PS0 → Calls Tryz.prog 24 #[.pointer (some ⟨B, 0, none⟩)] W (Ret W B c V r))) (he : r.2.err = 0) (HLv : Hid (∀ W S ad cap, SV W S r.1.args (.slice ad r.1.args.len cap) → Calls Tryz.prog 25 #[.agg #[.int .i64 r.1.op, .int .u64 (wd r.1.st 0 64 : Nat), .int .u64 (wd r.1.st 64 64 : Nat), .int .u64 (wd r.1.st 128 64 : Nat), .int .u64 (wd r.1.st 192 64 : Nat), .int .i64 r.1.lo, .int .i64 r.1.hi, .int .i64 r.1.g, .slice ad r.1.args.len cap]] W fun e w' => e = .returned (.int .i64 ((lvT r.1 : Nat) : Int)) ∧ Below W.heap.size W w')) (hl2 : lvT r.1 ≤ 32) : Calls Tryz.prog 11 #[.string c.s, .int .i64 c.fl, .agg #[.string c.L.name, .slice aw nw kw, .string c.L.lower, .string c.L.upper, .slice ac nc kc, .slice ae ne ke]] w (ParE w (r.1, 0, 0)) := by
  have hi2 : ¬ (32 : Int) < (lvT r.1 : Nat) := by omega
  clear hl2
  have hi : ¬ (256 : Int) < c.s.size := by omega
  have hne : c.s.toList.isEmpty = false := isEmpty_no2 c.s (by omega)
  have HLK := Lib.hid (fun W B => LK.start w W B c V hlk ht hl)
  clear hlk ht hl
  subst hV
  go_enter Tryz.func11, Tryz.ntmps11
  go_upto_region 5 with fail
  refine wp_region_lit ?_
  iterate 6 go_step
  refine wpList_load_row rfl _ _ rfl w.heap.size rfl 26 #[.string c.L.name, .slice aw nw kw, .string c.L.lower, .string c.L.upper, .slice ac nc kc, .slice ae ne ke] (0, 0) _ ?_ Tryz.underlying26 rfl info_loc ?_
  · exact (heap_alloc_old _ _ (by simp)).trans (heap_alloc_new w _)
  refine build_as rfl _ _ rfl (pcells c ⟨.slice aw nw kw, .slice ac nc kc, .slice ae ne ke⟩ PS0) (by kernel_rfl) ?_
  iterate 3 go_step
  refine wpList_store_row rfl _ _ _ rfl (w.heap.size + 1 + 1) (pcells c ⟨.slice aw nw kw, .slice ac nc kc, .slice ae ne ke⟩ PS0) rfl rfl 54 #[.string ⟨#[]⟩, .int .i64 0, .string ⟨#[]⟩, .slice none 0 0, .string ⟨#[]⟩, .string ⟨#[]⟩, .slice none 0 0, .slice none 0 0, .int .i64 0, .int .i64 0, .int .i64 0, .int .i64 0, .bool false, .bool false, .bool false, .bool false, .bool false, .bool false, .bool false, .bool false, .bool false, .bool false, .int .i64 0, .int .i64 0] ?_ info_prs rfl (by simp [pcells, Value.oneCell']) ?_
  · have e2 : ((w.alloc (.cells #[.string c.L.name, .slice aw nw kw, .string c.L.lower, .string c.L.upper, .slice ac nc kc, .slice ae ne ke] 26)).alloc (.cells #[.int .i64 0, .int .u64 0, .int .u64 0, .int .u64 0, .int .u64 0, .int .i64 0, .int .i64 0, .int .i64 0, .slice none 0 0] 35)).heap.size = w.heap.size + 1 + 1 := by simp
    have hn := heap_alloc_new ((w.alloc (.cells #[.string c.L.name, .slice aw nw kw, .string c.L.lower, .string c.L.upper, .slice ac nc kc, .slice ae ne ke] 26)).alloc (.cells #[.int .i64 0, .int .u64 0, .int .u64 0, .int .u64 0, .int .u64 0, .int .i64 0, .int .i64 0, .int .i64 0, .slice none 0 0] 35)) (.cells #[.string ⟨#[]⟩, .int .i64 0, .string ⟨#[]⟩, .slice none 0 0, .string ⟨#[]⟩, .string ⟨#[]⟩, .slice none 0 0, .slice none 0 0, .int .i64 0, .int .i64 0, .int .i64 0, .int .i64 0, .bool false, .bool false, .bool false, .bool false, .bool false, .bool false, .bool false, .bool false, .bool false, .bool false, .int .i64 0, .int .i64 0] 54)
    rw [e2] at hn
    exact hn
  have hpe := pe_start w c ⟨.slice aw nw kw, .slice ac nc kc, .slice ae ne ke⟩ #[.string c.L.name, .slice aw nw kw, .string c.L.lower, .string c.L.upper, .slice ac nc kc, .slice ae ne ke]
  generalize ((((w.alloc (.cells #[.string c.L.name, .slice aw nw kw, .string c.L.lower, .string c.L.upper, .slice ac nc kc, .slice ae ne ke] 26)).alloc (.cells #[.int .i64 0, .int .u64 0, .int .u64 0, .int .u64 0, .int .u64 0, .int .i64 0, .int .i64 0, .int .i64 0, .slice none 0 0] 35)).alloc (.cells #[.string ⟨#[]⟩, .int .i64 0, .string ⟨#[]⟩, .slice none 0 0, .string ⟨#[]⟩, .string ⟨#[]⟩, .slice none 0 0, .slice none 0 0, .int .i64 0, .int .i64 0, .int .i64 0, .int .i64 0, .bool false, .bool false, .bool false, .bool false, .bool false, .bool false, .bool false, .bool false, .bool false, .bool false, .int .i64 0, .int .i64 0] 54)).setRow (w.heap.size + 1 + 1) (pcells c ⟨.slice aw nw kw, .slice ac nc kc, .slice ae ne ke⟩ PS0)) = W6 at hpe ⊢
  iterate 3 go_step
  obtain ⟨hb6, hpa6, hrn6⟩ := hpe
  have hp6 : PM W6 (w.heap.size + 1 + 1) c ⟨.slice aw nw kw, .slice ac nc kc, .slice ae ne ke⟩ PS0 := ⟨hpa6, HLK.out W6 (w.heap.size + 1 + 1) (by omega) hb6, hs, Nat.zero_le _, Nat.le_refl _, Nat.zero_le _, Nat.le_refl _⟩
  have HB6 := Lib.hid hb6
  have HP6 := Lib.hid hp6
  have HR6 := Lib.hid hrn6
  have hz6 : w.heap.size + 1 + 1 < W6.heap.size := hp6.lt
  clear hb6 hpa6 hrn6 hp6
  go_upto_region 7 with (first
    | (go_at_call 24; (with_reducible refine (HU.out _ _ HP6.out).mono ?_); rintro e w1 ⟨v, rfl, htv, hst⟩
       obtain ⟨sv, rfl, hsv⟩ := htv
       obtain ⟨ad, cap, rfl⟩ := slice_form hsv
       unfold rowV
       have HT1 := Lib.hid hsv
       have HS1 := Lib.hid hst
       have HR1 := Lib.hid (show RN w1 (w.heap.size + 1) zero9 from (hst.2.block _ (by omega) (by omega)).trans HR6.out)
       have hz1 : W6.heap.size ≤ w1.heap.size := hst.2.size
       clear hsv hst))
  have h2 := par_mid (w := w) (R := w.heap.size + 1) (B := w.heap.size + 1 + 1) (by omega) HB6.out hz6 HS1.out HR1.out HT1.out #[.int .i64 r.1.op, .int .u64 (wd r.1.st 0 64 : Nat), .int .u64 (wd r.1.st 64 64 : Nat), .int .u64 (wd r.1.st 128 64 : Nat), .int .u64 (wd r.1.st 192 64 : Nat), .int .i64 r.1.lo, .int .i64 r.1.hi, .int .i64 r.1.g, .slice ad r.1.args.len cap]
  generalize (w1.alloc (.cells #[.int .i64 r.1.op, .int .u64 (wd r.1.st 0 64 : Nat), .int .u64 (wd r.1.st 64 64 : Nat), .int .u64 (wd r.1.st 128 64 : Nat), .int .u64 (wd r.1.st 192 64 : Nat), .int .i64 r.1.lo, .int .i64 r.1.hi, .int .i64 r.1.g, .slice ad r.1.args.len cap] 35)) = w2 at h2 ⊢
  obtain ⟨hb2, hpa2, hrn2, hrt2, hsv2⟩ := h2
  have HE2 := Lib.hid (And.intro hb2 (And.intro hpa2 hrn2))
  have HT2 := Lib.hid hrt2
  have HV2 := Lib.hid hsv2
  obtain ⟨⟨x0, x1, x2, x3, x4, x5, x6, x7⟩, xf⟩ := hpa2.all
  clear hb2 hpa2 hrn2 hrt2 hsv2 hz1
  clear HS1 HR1 HT1 HB6 HP6 HR6
  rw [he] at x6
  go_upto_region 9 with fail
  clear x0 x1 x2 x3 x4 x5 x6 x7 xf
  refine wp_region_lit ?_
  refine wpList_load_row rfl _ _ rfl w1.heap.size rfl 35 #[.int .i64 r.1.op, .int .u64 (wd r.1.st 0 64 : Nat), .int .u64 (wd r.1.st 64 64 : Nat), .int .u64 (wd r.1.st 128 64 : Nat), .int .u64 (wd r.1.st 192 64 : Nat), .int .i64 r.1.lo, .int .i64 r.1.hi, .int .i64 r.1.g, .slice ad r.1.args.len cap] (0, 0) _ HT2.out Tryz.underlying35 rfl info_reP ?_
  go_upto_region 11 with (first
    | (go_at_call 25; (with_reducible refine (HLv.out _ _ _ _ HV2.out).mono ?_); rintro e w3 ⟨rfl, hb3⟩; have HB3 := Lib.hid hb3; clear hb3))
  refine wp_region_lit ?_
  refine wpList_load_row rfl _ _ rfl w1.heap.size rfl 35 #[.int .i64 r.1.op, .int .u64 (wd r.1.st 0 64 : Nat), .int .u64 (wd r.1.st 64 64 : Nat), .int .u64 (wd r.1.st 128 64 : Nat), .int .u64 (wd r.1.st 192 64 : Nat), .int .i64 r.1.lo, .int .i64 r.1.hi, .int .i64 r.1.g, .slice ad r.1.args.len cap] (0, 0) _ (HT2.out.below HB3.out) Tryz.underlying35 rfl info_reP ?_
  refine wpList_store_row rfl 35 _ _ rfl (w.heap.size + 1) #[.int .i64 r.1.op, .int .u64 (wd r.1.st 0 64 : Nat), .int .u64 (wd r.1.st 64 64 : Nat), .int .u64 (wd r.1.st 128 64 : Nat), .int .u64 (wd r.1.st 192 64 : Nat), .int .i64 r.1.lo, .int .i64 r.1.hi, .int .i64 r.1.g, .slice ad r.1.args.len cap] rfl rfl 35 zero9 (HE2.out.2.2.below HB3.out) info_reP rfl (by simp [Value.oneCell']) ?_
  have HRF := Lib.hid (setRow_heap w3 (w.heap.size + 1) _ (#[.int .i64 r.1.op, .int .u64 (wd r.1.st 0 64 : Nat), .int .u64 (wd r.1.st 64 64 : Nat), .int .u64 (wd r.1.st 128 64 : Nat), .int .u64 (wd r.1.st 192 64 : Nat), .int .i64 r.1.lo, .int .i64 r.1.hi, .int .i64 r.1.g, .slice ad r.1.args.len cap]) _ _ (HE2.out.2.2.below HB3.out))
  have HBF := Lib.hid (below_setRow (HE2.out.1.trans (HB3.out.mono HE2.out.1.size)) (by omega : w.heap.size ≤ w.heap.size + 1) (#[.int .i64 r.1.op, .int .u64 (wd r.1.st 0 64 : Nat), .int .u64 (wd r.1.st 64 64 : Nat), .int .u64 (wd r.1.st 128 64 : Nat), .int .u64 (wd r.1.st 192 64 : Nat), .int .i64 r.1.lo, .int .i64 r.1.hi, .int .i64 r.1.g, .slice ad r.1.args.len cap]))
  have HSF := Lib.hid ((HV2.out.far (Afar.below HB3.out)).far (T := Frm w.heap.size) (w' := w3.setRow (w.heap.size + 1) #[.int .i64 r.1.op, .int .u64 (wd r.1.st 0 64 : Nat), .int .u64 (wd r.1.st 64 64 : Nat), .int .u64 (wd r.1.st 128 64 : Nat), .int .u64 (wd r.1.st 192 64 : Nat), .int .i64 r.1.lo, .int .i64 r.1.hi, .int .i64 r.1.g, .slice ad r.1.args.len cap]) ⟨by simp [World.setRow], fun b h1 _ => ⟨by have h1 : W6.heap.size ≤ b := h1; have := hz6; show w.heap.size ≤ b; omega, setRow_other _ _ _ _ (by have h1 : W6.heap.size ≤ b := h1; have := hz6; omega)⟩⟩)
  go_wp2
  refine bodyPost_ret (RN.ret Tryz.results11 _ _ (w.heap.size + 1) (#[.int .i64 r.1.op, .int .u64 (wd r.1.st 0 64 : Nat), .int .u64 (wd r.1.st 64 64 : Nat), .int .u64 (wd r.1.st 128 64 : Nat), .int .u64 (wd r.1.st 192 64 : Nat), .int .i64 r.1.lo, .int .i64 r.1.hi, .int .i64 r.1.g, .slice ad r.1.args.len cap]) rfl rfl HRF.out _ _ rfl rfl) rfl ⟨_, rfl, ⟨_, rfl, HSF.out⟩, HBF.out⟩
theorem parse_rx (w : World) (c : CX) (V : LV) (hlk : LocM w c.L V.W V.C V.E) (ht : tabAt w ∧ maxAt w) (hl : ltabAt w) : Calls Tryz.prog 11 #[.string c.s, .int .i64 c.fl, .agg #[.string c.L.name, V.W, .string c.L.lower, .string c.L.upper, V.C, V.E]] w (ParE w (parT c)) := by
  obtain ⟨VW, VC, VE⟩ := V
  obtain ⟨hW, hC, hE⟩ := id hlk
  obtain ⟨aw, nw, kw, rfl⟩ := SL.form hW
  obtain ⟨ac, nc, kc, rfl⟩ := SL.form hC
  obtain ⟨ae, ne, ke, rfl⟩ := SL.form hE
  unfold parT
  by_cases h1 : 256 < c.s.size
  · rw [if_pos h1]
    exact par_long w c aw ac ae nw kw nc kc ne ke h1
  rw [if_neg h1]
  by_cases h0 : c.s.size = 0
  · rw [if_pos h0]
    exact par_none w c aw ac ae nw kw nc kc ne ke h0
  rw [if_neg h0]
  have HU := Lib.hid (fun W B h => union_top W B c ⟨.slice aw nw kw, .slice ac nc kc, .slice ae ne ke⟩ h)
  have hlv := lv_all c PS0
  have hwd := wd_all (c := c) (m := 300) (by omega) PS0
  generalize uniW c (groT c 10) PS0 = r at HU hlv hwd ⊢
  show Calls _ _ _ _ (ParE w (if r.2.err ≠ 0 then _ else _))
  by_cases he : r.2.err = 0
  · rw [if_neg (by simpa using he)]
    have HLv : Hid (∀ W S ad cap, SV W S r.1.args (.slice ad r.1.args.len cap) → Calls Tryz.prog 25 #[.agg #[.int .i64 r.1.op, .int .u64 (wd r.1.st 0 64 : Nat), .int .u64 (wd r.1.st 64 64 : Nat), .int .u64 (wd r.1.st 128 64 : Nat), .int .u64 (wd r.1.st 192 64 : Nat), .int .i64 r.1.lo, .int .i64 r.1.hi, .int .i64 r.1.g, .slice ad r.1.args.len cap]] W fun e w' => e = .returned (.int .i64 ((lvT r.1 : Nat) : Int)) ∧ Below W.heap.size W w') :=
      Lib.hid fun W S ad cap h => levels_any r.1.args r.1.op r.1.lo r.1.hi r.1.g r.1.st _ W S h (by have : lvT r.1 = lvF r.1.args + 1 := rfl; omega) (by have h2 := hwd.1; have h3 := hwd.2; omega)
    by_cases hl2 : 32 < lvT r.1
    · rw [if_pos hl2]
      exact par_lvl w c aw ac ae nw kw nc kc ne ke _ rfl hlk ht hl (by omega) h0 r HU he HLv hl2
    · rw [if_neg hl2]
      exact par_ok w c aw ac ae nw kw nc kc ne ke _ rfl hlk ht hl (by omega) h0 r HU he HLv (by omega)
  · rw [if_pos he]
    exact par_err w c aw ac ae nw kw nc kc ne ke _ rfl hlk ht hl (by omega) h0 r HU he
end Go.Proofs.YtphiaagppcbefaaGreatDoor
