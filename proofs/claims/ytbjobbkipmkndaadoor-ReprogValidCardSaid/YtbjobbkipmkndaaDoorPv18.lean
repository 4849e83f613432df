/- RpAll, RpLen. -/
import Derived.Test.YtbjobbkipmkndaaDoorPv17
import Derived.Test.YtbjobbkipmkndaaDoorPv14
set_option linter.unusedVariables false
set_option linter.unusedSimpArgs false
set_option maxRecDepth 100000
set_option maxHeartbeats 8000000
namespace Go.Proofs.YtbjobbkipmkndaaDoor
open Go.RowKit
theorem tree_4 (f : F) (hch : ∀ i, i < f.len → TreeG (f.nth i).args) (l h g : Int) (st : Nat → Bool) (sv : Value) (w : World) (S : Nat → Prop) (P : Nat) (v : Value) (L : List IN) (hsv : SV w S f sv) (hS : ∀ b, S b → b < P) (hM : WM w P v L) (hn1 : 1 ≤ f.len) (hwf : wfC f) (hlen : f.len ≤ maxLen) (hfit : f.fits) (hL : L.length + (altC (cods f) L.length).length ≤ 900000) :
    Calls Tryd.prog 41 #[.pointer (some ⟨P, 0, none⟩), .agg #[.int .i64 4, .int .u64 (wd st 0 64 : Nat), .int .u64 (wd st 64 64 : Nat), .int .u64 (wd st 128 64 : Nat), .int .u64 (wd st 192 64 : Nat), .int .i64 l, .int .i64 h, .int .i64 g, sv]] w fun e w' => e = .returned (.tuple #[]) ∧ ∃ v', WM w' P v' (L ++ altC (cods f) L.length) ∧ Mv P v w v' w' := by
  obtain ⟨ad, cap, rfl⟩ := slice_form hsv
  have hb : Below w.heap.size w (w.alloc (.cells #[.int .i64 4, .int .u64 (wd st 0 64 : Nat), .int .u64 (wd st 64 64 : Nat), .int .u64 (wd st 128 64 : Nat), .int .u64 (wd st 192 64 : Nat), .int .i64 l, .int .i64 h, .int .i64 g, .slice ad f.len cap] 34)) := (Below.refl _ _).alloc (Nat.le_refl _) _
  have HV : Hid (Mv P v w v _) := Lib.hid (Mv.of_below (P := P) (v := v) hb)
  have HC := Lib.hid (alt_any f hch _ _ S P v L (hsv.far (Afar.below hb)) hS (hM.below hb) hn1 hwf hlen hfit hL)
  clear hsv hS hM hch hwf hfit hL hb
  go_enter Tryd.func41, Tryd.ntmps41
  go_wp2_with (first
    | (go_at_call 52; (with_reducible refine HC.out.mono ?_); rintro e w1 ⟨rfl, v1, hm, hv⟩; have HR := Lib.hid (And.intro hm (HV.out.trans hv)); clear hm hv))
  go_end0
  exact ⟨rfl, v1, HR.out.1, HR.out.2⟩
theorem rep_any (f : F) (hch : ∀ i, i < f.len → TreeG (f.nth i).args) (o l h g : Int) (st : Nat → Bool) (sv : Value) (w : World) (S : Nat → Prop) (P : Nat) (v : Value) (L : List IN) (hsv : SV w S f sv) (hS : ∀ b, S b → b < P) (hM : WM w P v L) (hn1 : 1 ≤ f.len) (hwf : wfC f) (hfit : f.fits) (hL : L.length + (repC l h ((cods f).headD nilC) L.length).length ≤ 900000) :
    Calls Tryd.prog 53 #[.pointer (some ⟨P, 0, none⟩), .agg #[.int .i64 o, .int .u64 (wd st 0 64 : Nat), .int .u64 (wd st 64 64 : Nat), .int .u64 (wd st 128 64 : Nat), .int .u64 (wd st 192 64 : Nat), .int .i64 l, .int .i64 h, .int .i64 g, sv]] w fun e w' => e = .returned (.tuple #[]) ∧ ∃ v', WM w' P v' (L ++ repC l h ((cods f).headD nilC) L.length) ∧ Mv P v w v' w' := by
  by_cases h1 : l = 1
  · exact rep_1 f hch o l h g st sv w S P v L hsv hS hM hn1 hwf hfit hL h1
  by_cases h2 : h = -1
  · exact rep_u f hch o l h g st sv w S P v L hsv hS hM hn1 hwf hfit hL h1 h2
  · exact rep_o f hch o l h g st sv w S P v L hsv hS hM hn1 hwf hfit hL h1 h2
theorem tree_5 (f : F) (hch : ∀ i, i < f.len → TreeG (f.nth i).args) (l h g : Int) (st : Nat → Bool) (sv : Value) (w : World) (S : Nat → Prop) (P : Nat) (v : Value) (L : List IN) (hsv : SV w S f sv) (hS : ∀ b, S b → b < P) (hM : WM w P v L) (hn1 : 1 ≤ f.len) (hwf : wfC f) (hfit : f.fits) (hL : L.length + (repC l h ((cods f).headD nilC) L.length).length ≤ 900000) :
    Calls Tryd.prog 41 #[.pointer (some ⟨P, 0, none⟩), .agg #[.int .i64 5, .int .u64 (wd st 0 64 : Nat), .int .u64 (wd st 64 64 : Nat), .int .u64 (wd st 128 64 : Nat), .int .u64 (wd st 192 64 : Nat), .int .i64 l, .int .i64 h, .int .i64 g, sv]] w fun e w' => e = .returned (.tuple #[]) ∧ ∃ v', WM w' P v' (L ++ repC l h ((cods f).headD nilC) L.length) ∧ Mv P v w v' w' := by
  obtain ⟨ad, cap, rfl⟩ := slice_form hsv
  have hb : Below w.heap.size w (w.alloc (.cells #[.int .i64 5, .int .u64 (wd st 0 64 : Nat), .int .u64 (wd st 64 64 : Nat), .int .u64 (wd st 128 64 : Nat), .int .u64 (wd st 192 64 : Nat), .int .i64 l, .int .i64 h, .int .i64 g, .slice ad f.len cap] 34)) := (Below.refl _ _).alloc (Nat.le_refl _) _
  have HV : Hid (Mv P v w v _) := Lib.hid (Mv.of_below (P := P) (v := v) hb)
  have HC := Lib.hid (rep_any f hch 5 l h g st _ _ S P v L (hsv.far (Afar.below hb)) hS (hM.below hb) hn1 hwf hfit hL)
  clear hsv hS hM hch hwf hfit hL hb
  go_enter Tryd.func41, Tryd.ntmps41
  go_wp2_with (first
    | (go_at_call 53; (with_reducible refine HC.out.mono ?_); rintro e w1 ⟨rfl, v1, hm, hv⟩; have HR := Lib.hid (And.intro hm (HV.out.trans hv)); clear hm hv))
  go_end0
  exact ⟨rfl, v1, HR.out.1, HR.out.2⟩
theorem tree_node (f : F) (hch : ∀ i, i < f.len → TreeG (f.nth i).args) : TreeG f := by
  intro o l h g st sv w S P v L hsv hS hM hn1 hwf hlen hfit hL
  by_cases o3 : o = 3
  · subst o3
    have e : codN 3 st l h (cods f) L.length = catC (cods f) L.length := by simp [codN]
    rw [e] at hL ⊢
    exact tree_3 f hch l h g st sv w S P v L hsv hS hM hwf hlen hfit hL
  by_cases o6 : o = 6
  · subst o6
    have e : codN 6 st l h (cods f) L.length = catC (cods f) L.length := by simp [codN]
    rw [e] at hL ⊢
    exact tree_6 f hch l h g st sv w S P v L hsv hS hM hwf hlen hfit hL
  by_cases o4 : o = 4
  · subst o4
    have e : codN 4 st l h (cods f) L.length = altC (cods f) L.length := by simp [codN]
    rw [e] at hL ⊢
    exact tree_4 f hch l h g st sv w S P v L hsv hS hM (hn1 (.inl rfl)) hwf hlen hfit hL
  by_cases o5 : o = 5
  · subst o5
    have e : codN 5 st l h (cods f) L.length = repC l h ((cods f).headD nilC) L.length := by simp [codN]
    rw [e] at hL ⊢
    exact tree_5 f hch l h g st sv w S P v L hsv hS hM (hn1 (.inr rfl)) hwf hfit hL
  exact tree_leaf f o l h g st sv w P v L (slice_form hsv) hM (by omega) ⟨o3, o6, o4, o5⟩
theorem tree_all : ∀ (f : F) (i : Nat), i < f.len → TreeG (f.nth i).args
  | .nil, i, h => by cases h
  | .cons o s l h g a r, 0, hi => tree_node a (tree_all a)
  | .cons o s l h g a r, i + 1, hi => tree_all r i (by have : i + 1 < r.len + 1 := hi; omega)
theorem tree_any (f : F) : TreeG f := tree_node f (tree_all f)
def PI (w : World) (n : Nat) (L : List IN) (v : Value) : Prop := ∃ ad cap, v = .slice ad L.length cap ∧ L.length ≤ cap ∧ (L.length = 0 ∨ ∃ b i, ad = some ⟨b, i, none⟩ ∧ n ≤ b ∧ b < w.heap.size ∧ ∀ (k : Nat) (hk : k < L.length) (j : Nat), j < 7 → w.cell? ⟨b, i + k * 7 + j, none⟩ = (rowI (L[k]'hk))[j]?)
theorem PI.turn {w w' : World} {n : Nat} {L : List IN} {v : Value} (h : PI w n L v) (hs : w.heap.size ≤ w'.heap.size) (hb : ∀ b, n ≤ b → b < w.heap.size → w'.heap[b]? = w.heap[b]?) : PI w' n L v := by
  obtain ⟨ad, cap, h1, h2, h3⟩ := h
  refine ⟨ad, cap, h1, h2, ?_⟩
  rcases h3 with h3 | ⟨b, i, e, hn, hl, hc⟩
  · exact .inl h3
  · exact .inr ⟨b, i, e, hn, by omega, fun k hk j hj => (cell_same (hb b hn hl)).trans (hc k hk j hj)⟩
theorem PI.below {w w' : World} {n : Nat} {L : List IN} {v : Value} (h : PI w n L v) (hb : Below w.heap.size w w') : PI w' n L v := h.turn hb.size (fun b _ hl => hb.block b hl)
theorem PI.low {w : World} {n m : Nat} {L : List IN} {v : Value} (h : PI w n L v) (hm : m ≤ n) : PI w m L v := by
  obtain ⟨ad, cap, h1, h2, h3⟩ := h
  refine ⟨ad, cap, h1, h2, ?_⟩
  rcases h3 with h3 | ⟨b, i, e, hn, r⟩
  · exact .inl h3
  · exact .inr ⟨b, i, e, by omega, r⟩
theorem PI.form {w : World} {n : Nat} {L : List IN} {v : Value} (h : PI w n L v) : ∃ ad cap, v = .slice ad L.length cap := by
  obtain ⟨ad, cap, h1, _⟩ := h
  exact ⟨ad, cap, h1⟩
theorem PI.nil (w : World) (n : Nat) : PI w n [] (.slice none 0 0) := ⟨none, 0, rfl, Nat.le_refl _, .inl rfl⟩
theorem PI.own {w : World} {B : Nat} {L : List IN} {v : Value} (h : w.ownsRow B 39 7 v L.length (rowsI L)) : PI w B L v := by
  rcases h.2 with ⟨rfl, h0⟩ | ⟨g, cap, cur, rfl, hB, hg, hn, _⟩
  · exact ⟨none, 0, by rw [h0], by omega, .inl h0⟩
  · refine ⟨_, cap, rfl, hn, .inr ⟨g, 0, rfl, hB, (Array.getElem?_eq_some_iff.1 hg).1, fun k hk j hj => ?_⟩⟩
    rw [Nat.zero_add, h.cellAt (k * 7 + j) (by omega), rowsI_get L k hk j hj]
theorem codeof_any (t : TN) (sv : Value) (w : World) (h : TI w t sv) (hwf : wfN t) (hL : (codT t 0).length ≤ 900000) :
    Calls Tryd.prog 30 #[.agg #[.int .i64 t.op, .int .u64 (wd t.st 0 64 : Nat), .int .u64 (wd t.st 64 64 : Nat), .int .u64 (wd t.st 128 64 : Nat), .int .u64 (wd t.st 192 64 : Nat), .int .i64 t.lo, .int .i64 t.hi, .int .i64 t.g, sv]] w fun e w' => ∃ v, e = .returned v ∧ PI w' w.heap.size (prgT t) v ∧ Below w.heap.size w w' := by
  obtain ⟨ad, cap, rfl⟩ := h.form
  obtain ⟨S, hsv, hS, ⟨hlen, hfit⟩, _⟩ := h
  have hb1 : Below w.heap.size w (w.alloc (.cells #[.int .i64 t.op, .int .u64 (wd t.st 0 64 : Nat), .int .u64 (wd t.st 64 64 : Nat), .int .u64 (wd t.st 128 64 : Nat), .int .u64 (wd t.st 192 64 : Nat), .int .i64 t.lo, .int .i64 t.hi, .int .i64 t.g, .slice ad t.args.len cap] 34)) := (Below.refl _ _).alloc (Nat.le_refl _) _
  have hb2 : Below w.heap.size w ((w.alloc (.cells #[.int .i64 t.op, .int .u64 (wd t.st 0 64 : Nat), .int .u64 (wd t.st 64 64 : Nat), .int .u64 (wd t.st 128 64 : Nat), .int .u64 (wd t.st 192 64 : Nat), .int .i64 t.lo, .int .i64 t.hi, .int .i64 t.g, .slice ad t.args.len cap] 34)).alloc (.cells #[.slice none 0 0] 78)) := hb1.alloc (by simp) _
  have hrow : ((w.alloc (.cells #[.int .i64 t.op, .int .u64 (wd t.st 0 64 : Nat), .int .u64 (wd t.st 64 64 : Nat), .int .u64 (wd t.st 128 64 : Nat), .int .u64 (wd t.st 192 64 : Nat), .int .i64 t.lo, .int .i64 t.hi, .int .i64 t.g, .slice ad t.args.len cap] 34)).alloc (.cells #[.slice none 0 0] 78)).heap[w.heap.size]? = some (.cells #[.int .i64 t.op, .int .u64 (wd t.st 0 64 : Nat), .int .u64 (wd t.st 64 64 : Nat), .int .u64 (wd t.st 128 64 : Nat), .int .u64 (wd t.st 192 64 : Nat), .int .i64 t.lo, .int .i64 t.hi, .int .i64 t.g, .slice ad t.args.len cap] 34 (0, 0)) := by
    rw [Below.heap_alloc _ _ _ (by simp)]
    exact heap_alloc_new w _
  have hw : ((w.alloc (.cells #[.int .i64 t.op, .int .u64 (wd t.st 0 64 : Nat), .int .u64 (wd t.st 64 64 : Nat), .int .u64 (wd t.st 128 64 : Nat), .int .u64 (wd t.st 192 64 : Nat), .int .i64 t.lo, .int .i64 t.hi, .int .i64 t.g, .slice ad t.args.len cap] 34)).alloc (.cells #[.slice none 0 0] 78)).heap[w.heap.size + 1]? = some (.cells #[.slice none 0 0] 78 (0, 0)) := by
    have := heap_alloc_new (w.alloc (.cells #[.int .i64 t.op, .int .u64 (wd t.st 0 64 : Nat), .int .u64 (wd t.st 64 64 : Nat), .int .u64 (wd t.st 128 64 : Nat), .int .u64 (wd t.st 192 64 : Nat), .int .i64 t.lo, .int .i64 t.hi, .int .i64 t.g, .slice ad t.args.len cap] 34)) (.cells #[.slice none 0 0] 78)
    simpa using this
  have hM : WM ((w.alloc (.cells #[.int .i64 t.op, .int .u64 (wd t.st 0 64 : Nat), .int .u64 (wd t.st 64 64 : Nat), .int .u64 (wd t.st 128 64 : Nat), .int .u64 (wd t.st 192 64 : Nat), .int .i64 t.lo, .int .i64 t.hi, .int .i64 t.g, .slice ad t.args.len cap] 34)).alloc (.cells #[.slice none 0 0] 78)) (w.heap.size + 1) (.slice none 0 0) [] := ⟨hw, World.ownsRow_nil _ _ _ _⟩
  have hT := tree_any t.args t.op t.lo t.hi t.g t.st _ _ S (w.heap.size + 1) _ [] (hsv.far (Afar.below hb2)) (fun b hb => by have := hS b hb; omega) hM hwf.1 hwf.2 hlen hfit (by show 0 + (codT t 0).length ≤ _; omega)
  obtain ⟨cc, hcc⟩ : ∃ cc, codT t 0 = cc := ⟨_, rfl⟩
  have hT : Calls Tryd.prog 41 #[.pointer (some ⟨w.heap.size + 1, 0, none⟩), .agg #[.int .i64 t.op, .int .u64 (wd t.st 0 64 : Nat), .int .u64 (wd t.st 64 64 : Nat), .int .u64 (wd t.st 128 64 : Nat), .int .u64 (wd t.st 192 64 : Nat), .int .i64 t.lo, .int .i64 t.hi, .int .i64 t.g, .slice ad t.args.len cap]] ((w.alloc (.cells #[.int .i64 t.op, .int .u64 (wd t.st 0 64 : Nat), .int .u64 (wd t.st 64 64 : Nat), .int .u64 (wd t.st 128 64 : Nat), .int .u64 (wd t.st 192 64 : Nat), .int .i64 t.lo, .int .i64 t.hi, .int .i64 t.g, .slice ad t.args.len cap] 34)).alloc (.cells #[.slice none 0 0] 78)) fun e w' => e = .returned (.tuple #[]) ∧ ∃ v', WM w' (w.heap.size + 1) v' cc ∧ Mv (w.heap.size + 1) (.slice none 0 0) ((w.alloc (.cells #[.int .i64 t.op, .int .u64 (wd t.st 0 64 : Nat), .int .u64 (wd t.st 64 64 : Nat), .int .u64 (wd t.st 128 64 : Nat), .int .u64 (wd t.st 192 64 : Nat), .int .i64 t.lo, .int .i64 t.hi, .int .i64 t.g, .slice ad t.args.len cap] 34)).alloc (.cells #[.slice none 0 0] 78)) v' w' := by
    rw [← hcc]
    exact hT
  have hp : prgT t = cc ++ [⟨6, noSet, 0, 0⟩] := by unfold prgT; rw [hcc]
  rw [hcc] at hL
  obtain ⟨L6, hL6⟩ : ∃ L6, L6 = cc ++ [⟨6, noSet, 0, 0⟩] := ⟨_, rfl⟩
  rw [← hL6] at hp
  have HA := Lib.hid (fun W v' (hW : WM W (w.heap.size + 1) v' cc) => by
    have h1 := add_no 6 0 0 (w.heap.size + 1) v' cc W hW (by omega)
    rw [← hL6] at h1
    exact h1)
  have HM := Lib.hid hM
  have HB := Lib.hid hb2
  have HP := Lib.hid hp
  obtain ⟨⟨⟨a0, a1, a2⟩, a3, a4, a5⟩, a6, a7, a8⟩ := nine hrow
  have hl2 : w.heap.size < ((w.alloc (.cells #[.int .i64 t.op, .int .u64 (wd t.st 0 64 : Nat), .int .u64 (wd t.st 64 64 : Nat), .int .u64 (wd t.st 128 64 : Nat), .int .u64 (wd t.st 192 64 : Nat), .int .i64 t.lo, .int .i64 t.hi, .int .i64 t.g, .slice ad t.args.len cap] 34)).alloc (.cells #[.slice none 0 0] 78)).heap.size := by simp; omega
  generalize hW : (w.alloc (.cells #[.int .i64 t.op, .int .u64 (wd t.st 0 64 : Nat), .int .u64 (wd t.st 64 64 : Nat), .int .u64 (wd t.st 128 64 : Nat), .int .u64 (wd t.st 192 64 : Nat), .int .i64 t.lo, .int .i64 t.hi, .int .i64 t.g, .slice ad t.args.len cap] 34)).alloc (.cells #[.slice none 0 0] 78) = W at *
  have HW := Lib.hid hW
  have HT := Lib.hid hT
  clear hW hT hM hb1 hb2 hrow hw hsv hS hwf hfit hlen hp hL hcc hL6
  go_enter Tryd.func30, Tryd.ntmps30
  go_upto_region 2 with fail
  rw [HW.out]
  go_wp2_with (first
    | (go_at_call 41; (with_reducible refine HT.out.mono ?_); rintro e w1 ⟨rfl, v1, hm, hv⟩
       have HR := Lib.hid (And.intro hm hv)
       clear hm hv a0 a1 a2 a3 a4 a5 a6 a7 a8 hl2)
    | (go_at_call 42; (with_reducible refine (HA.out _ _ HR.out.1).mono ?_); rintro e w2 ⟨rfl, v2, hm, hv⟩
       have HR2 := Lib.hid (And.intro hm (HR.out.2.trans hv))
       have hc := hm.cell
       obtain ⟨ad2, cap2, rfl⟩ := own_sl hm.own
       clear hm hv))
  go_ret
  refine ⟨_, rfl, ?_, HB.out.trans ((HR2.out.2.bel HM.out).mono (by omega))⟩
  rw [HP.out]
  exact (PI.own HR2.out.1.own).low (by omega)
end Go.Proofs.YtbjobbkipmkndaaDoor
set_option linter.unusedVariables false
namespace Go.Proofs.YtbjobbkipmkndaaDoor
open Go.RowKit
def zsF : F → List Nat
  | .nil => []
  | .cons _ _ _ _ _ a r => (szF a + 1) :: zsF r
theorem zsF_sum : ∀ f : F, (zsF f).sum = szF f
  | .nil => rfl
  | .cons o s l h g a r => by show (szF a + 1) + (zsF r).sum = szF a + 1 + szF r; rw [zsF_sum r]
def BL : List Cd → List Nat → Prop
  | [], [] => True
  | c :: r, n :: m => (∀ b, (c b).length + 2 ≤ 4 * n) ∧ BL r m
  | _, _ => False
theorem BL.cat : ∀ {cs : List Cd} {ns : List Nat}, BL cs ns → ∀ b, (catC cs b).length + 2 * cs.length ≤ 4 * ns.sum
  | [], [], _, b => by simp [catC]
  | [], _ :: _, h, _ => h.elim
  | _ :: _, [], h, _ => h.elim
  | c :: r, n :: m, h, b => by
    have h1 := h.1 b
    have h2 := BL.cat h.2 (b + (c b).length)
    simp only [catC, List.length_append, List.length_cons, List.sum_cons]
    omega
theorem BL.alt : ∀ {cs : List Cd} {ns : List Nat}, BL cs ns → cs ≠ [] → ∀ b b', (altP 0 cs.dropLast b).length + ((cs.getLastD nilC) b').length + 2 ≤ 4 * ns.sum
  | [], _, _, h, _, _ => (h rfl).elim
  | _ :: _, [], h, _, _, _ => h.elim
  | [c], n :: m, h, _, b, b' => by
    have h1 := h.1 b'
    simp only [List.dropLast_singleton, altP, List.length_nil, List.getLastD_cons, List.getLastD_nil, List.sum_cons]
    omega
  | c :: d :: r, n :: m, h, _, b, b' => by
    have h1 := h.1 (b + 1)
    have h2 := BL.alt h.2 (by simp) (b + (c (b + 1)).length + 2) b'
    have e1 : (c :: d :: r).dropLast = c :: (d :: r).dropLast := rfl
    have e2 : (c :: d :: r).getLastD nilC = (d :: r).getLastD nilC := by simp
    rw [e1, e2]
    simp only [altP, List.length_append, List.length_cons, List.sum_cons]
    omega
theorem BL.head {cs : List Cd} {ns : List Nat} (h : BL cs ns) (b : Nat) : ((cs.headD nilC) b).length ≤ 4 * ns.sum := by
  match cs, ns, h with
  | [], [], _ => simp [nilC]
  | c :: r, n :: m, h =>
    have h1 := h.1 b
    simp only [List.headD_cons, List.sum_cons]
    omega
theorem BL_all : ∀ f : F, BL (cods f) (zsF f)
  | .nil => trivial
  | .cons o s l h g a r => by
    refine ⟨fun b => ?_, BL_all r⟩
    have ha := BL_all a
    have hs := zsF_sum a
    have h1 := ha.cat b
    unfold codN
    split
    · simp; omega
    split
    · simp; omega
    split
    · simp; omega
    split
    · omega
    split
    · cases hc : cods a with
      | nil =>
        have e : altC [] b = [] := by simp [altC, altE, altP, nilC]
        rw [e]
        simp
        omega
      | cons c t =>
        rw [← hc]
        have h2 := ha.alt (by rw [hc]; simp) b (b + (altP 0 (cods a).dropLast b).length)
        unfold altC altE
        rw [List.length_append, altP_len _ 0]
        omega
    split
    · have h2 := ha.head b
      have h3 := ha.head (b + 1)
      generalize (cods a).headD nilC = c0 at *
      unfold repC
      split
      · simp; omega
      · split
        · simp; omega
        · simp; omega
    · simp; omega
theorem codT_len (t : TN) (b : Nat) : (codT t b).length + 2 ≤ 4 * (szF t.args + 1) := (BL_all (.cons t.op t.st t.lo t.hi t.g t.args .nil)).1 b
def EXP : F → List Int → Prop
  | .nil, [] => True
  | .cons _ _ _ _ _ a r, x :: xs => 0 ≤ x ∧ (x ≤ 4096 → ((szF a : Nat) : Int) + 1 ≤ x) ∧ EXP r xs
  | _, _ => False
theorem foldl_sum : ∀ (ps : List Int) (a : Int), ps.foldl (· + ·) a = a + ps.sum
  | [], a => by simp
  | x :: r, a => by rw [List.foldl_cons, foldl_sum r, List.sum_cons]; omega
theorem EXP.sum : ∀ {f : F} {ps : List Int}, EXP f ps → 0 ≤ ps.sum ∧ (ps.sum ≤ 4096 → ((szF f : Nat) : Int) ≤ ps.sum)
  | .nil, [], _ => by simp [szF]
  | .nil, _ :: _, h => h.elim
  | .cons .., [], h => h.elim
  | .cons o s l hh g a r, x :: xs, h => by
    obtain ⟨h1, h2, h3⟩ := h
    obtain ⟨k1, k2⟩ := EXP.sum h3
    rw [List.sum_cons]
    refine ⟨by omega, fun h4 => ?_⟩
    have := h2 (by omega)
    have := k2 (by omega)
    show ((szF a + 1 + szF r : Nat) : Int) ≤ _
    omega
theorem szF_push (t : TN) : ∀ f : F, szF (f.push t) = szF f + (szF t.args + 1)
  | .nil => by show szF t.args + 1 + 0 = 0 + _; omega
  | .cons o s l h g a r => by show szF a + 1 + szF (r.push t) = szF a + 1 + szF r + _; rw [szF_push t r]; omega
theorem szF_times (t : TN) : ∀ (n : Nat) (f : F), szF (timesF n t f) = szF f + n * (szF t.args + 1)
  | 0, f => by simp [timesF]
  | n + 1, f => by rw [timesF, szF_times t n, szF_push, Nat.succ_mul]; omega
theorem sz_catT (f : F) : szF (catT f).args + 1 = if f.len = 1 then szF f else szF f + 1 := by
  cases f with
  | nil => rfl
  | cons o s l h g a r => cases r with
    | nil => show szF a + 1 = if 0 + 1 = 1 then szF a + 1 + 0 else _; simp
    | cons o2 s2 l2 h2 g2 a2 r2 => show _ = if r2.len + 1 + 1 = 1 then _ else _; rw [if_neg (by omega)]; rfl
theorem capI (u n : Int) (h : u ≤ 4096 → n ≤ u) : (if 4097 < u then (4097 : Int) else u) ≤ 4096 → n ≤ if 4097 < u then 4097 else u := by
  intro hle
  by_cases hu : 4097 < u
  · rw [if_pos hu] at hle
    omega
  · rw [if_neg hu] at hle ⊢
    exact h hle
theorem EXP_all : ∀ (f : F) (G : Nat → List Int), okE f → bkF f = false → EXP (expF f) (valF exsT f G).1
  | .nil, _, _, _ => trivial
  | .cons o s l h g a r, G, hok, hbk => by
    simp only [bkF, Bool.or_eq_false_iff, decide_eq_false_iff_not] at hbk
    obtain ⟨o9, hba, hbr⟩ := hbk
    rw [valF, if_neg o9]
    have ha := EXP_all a G hok.2.1 hba
    obtain ⟨s0, s1⟩ := ha.sum
    refine ⟨?_, ?_, EXP_all r _ hok.2.2 hbr⟩
    all_goals generalize (valF exsT a G).1 = ps at *
    · unfold exsT
      rw [if_neg o9]
      by_cases o5 : o = 5
      · rw [if_pos o5]
        obtain ⟨hl1, hl, hh⟩ := hok.1.2 o5
        obtain ⟨⟨c1, c2⟩, ⟨e1, e2⟩⟩ := bounds_cr l h hl hh
        obtain ⟨o1, s1', l1, h1, g1, a1, rfl⟩ := len1 hl1
        cases ps with
        | nil => exact ha.elim
        | cons x xs =>
          have hx : 0 ≤ x := ha.1
          have m1 := Int.mul_nonneg c1 hx
          have m2 := Int.mul_nonneg e1 (show (0 : Int) ≤ x + 1 by omega)
          show (0 : Int) ≤ if 4097 < _ then _ else _
          simp only [List.headD_cons]
          split <;> split <;> omega
      · rw [if_neg o5]
        dsimp only
        rw [foldl_sum]
        split <;> omega
    · unfold exsT
      rw [if_neg o9]
      unfold expN
      by_cases o5 : o = 5
      · rw [if_pos o5, if_pos o5]
        obtain ⟨hl1, hl, hh⟩ := hok.1.2 o5
        obtain ⟨⟨c1, c2⟩, ⟨e1, e2⟩⟩ := bounds_cr l h hl hh
        obtain ⟨o1, s1', l1, h1, g1, a1, rfl⟩ := len1 hl1
        cases ps with
        | nil => exact ha.elim
        | cons x xs =>
          have hx : 0 ≤ x := ha.1
          have hy : x ≤ 4096 → ((szF ((expF (.cons o1 s1' l1 h1 g1 a1 .nil)).nth 0).args : Nat) : Int) + 1 ≤ x := ha.2.1
          generalize (expF (.cons o1 s1' l1 h1 g1 a1 .nil)).nth 0 = y at *
          have m1 := Int.mul_nonneg c1 hx
          have m2 := Int.mul_nonneg e1 (show (0 : Int) ≤ x + 1 by omega)
          have hlen : (seqF ⟨o, s, l, h, g, .cons o1 s1' l1 h1 g1 a1 .nil⟩ y).len = (cpT l h).toNat + (rpT l h).toNat := by
            show (timesF (rpT l h).toNat (repT (loT l h) (hiT l h) y) (timesF (cpT l h).toNat y .nil)).len = _
            rw [timesF_len, timesF_len]
            show 0 + (cpT l h).toNat + (rpT l h).toNat = _
            omega
          have hsz : szF (seqF ⟨o, s, l, h, g, .cons o1 s1' l1 h1 g1 a1 .nil⟩ y) = (cpT l h).toNat * (szF y.args + 1) + (rpT l h).toNat * (szF y.args + 2) := by
            show szF (timesF (rpT l h).toNat (repT (loT l h) (hiT l h) y) (timesF (cpT l h).toNat y .nil)) = _
            rw [szF_times, szF_times]
            have e : szF (repT (loT l h) (hiT l h) y).args = szF y.args + 1 := by show szF y.args + 1 + 0 = _; omega
            rw [e]
            show 0 + (cpT l h).toNat * _ + (rpT l h).toNat * (szF y.args + 2) = _
            omega
          show (if 4097 < _ then (4097 : Int) else _) ≤ 4096 → ((szF (catT _).args : Nat) : Int) + 1 ≤ if 4097 < _ then (4097 : Int) else _
          simp only [List.headD_cons]
          refine capI _ _ (fun hle => ?_)
          have hc := sz_catT (seqF ⟨o, s, l, h, g, .cons o1 s1' l1 h1 g1 a1 .nil⟩ y)
          rw [hlen, hsz] at hc
          generalize seqF ⟨o, s, l, h, g, .cons o1 s1' l1 h1 g1 a1 .nil⟩ y = q at *
          obtain ⟨C, hC⟩ : ∃ C : Nat, cpT l h = (C : Int) := ⟨(cpT l h).toNat, by omega⟩
          obtain ⟨R, hR⟩ : ∃ R : Nat, rpT l h = (R : Int) := ⟨(rpT l h).toNat, by omega⟩
          simp only [hC, hR] at hle hc m1 m2 ⊢
          simp only [Int.toNat_natCast] at hc
          have key : x ≤ 4096 → ((C * (szF y.args + 1) + R * (szF y.args + 2) : Nat) : Int) ≤ C * x + R * (x + 1) := fun hx4 => by
            have hy' := hy hx4
            have k1 : ((C : Int)) * ((szF y.args : Int) + 1) ≤ C * x := Int.mul_le_mul_of_nonneg_left hy' (by omega)
            have k2 : ((R : Int)) * ((szF y.args : Int) + 2) ≤ R * (x + 1) := Int.mul_le_mul_of_nonneg_left (by omega) (by omega)
            simp only [Int.natCast_add, Int.natCast_mul]
            have e1 : ((1 : Nat) : Int) = 1 := rfl
            have e2 : ((2 : Nat) : Int) = 2 := rfl
            rw [e1, e2]
            omega
          have big : ¬ x ≤ 4096 → 1 ≤ C + R → 4096 < (C : Int) * x + R * (x + 1) := fun h1 h2 => by
            by_cases hC0 : C = 0
            · have hR1 : (1 : Int) ≤ R := by omega
              have := Int.mul_le_mul_of_nonneg_right hR1 (show (0 : Int) ≤ x + 1 by omega)
              omega
            · have hC1 : (1 : Int) ≤ C := by omega
              have := Int.mul_le_mul_of_nonneg_right hC1 hx
              omega
          by_cases h01 : C + R = 0
          · have h0 : C = 0 := by omega
            have h1 : R = 0 := by omega
            subst h0 h1
            simp at hc hle ⊢
            omega
          by_cases hCR : C + R = 1
          · have hCI : (C : Int) + R = 1 := by omega
            rw [if_pos hCR] at hc
            rw [if_pos hCI] at hle ⊢
            by_cases hx4 : x ≤ 4096
            · have := key hx4
              omega
            · have := big hx4 (by omega)
              omega
          · have hCI : ¬ (C : Int) + R = 1 := by omega
            rw [if_neg hCR] at hc
            rw [if_neg hCI] at hle ⊢
            by_cases hx4 : x ≤ 4096
            · have := key hx4
              omega
            · have := big hx4 (by omega)
              omega
      · rw [if_neg o5, if_neg o5]
        dsimp only
        rw [foldl_sum]
        intro hle
        split at hle
        · omega
        · split
          · omega
          · have := s1 (by omega)
            omega
theorem exp_size {t : TN} (hok : okE t.f) (hbk : bkF t.f = false) (h : valT exsT t ≤ 4096) : szF (expT t).args + 1 ≤ 4096 := by
  have h1 := EXP_all t.f G0 hok hbk
  unfold TN.f at h1
  rw [valF_cons] at h1
  obtain ⟨_, h2, _⟩ := h1
  have h3 := h2 h
  have h4 : ((szF (expT t).args : Nat) : Int) + 1 ≤ valT exsT t := h3
  omega
theorem cod_short {t : TN} (hok : okE t.f) (hbk : bkF t.f = false) (h : valT exsT t ≤ 4096) (b : Nat) : (codT (expT t) b).length ≤ 16384 := by
  have h1 := exp_size hok hbk h
  have h2 := codT_len (expT t) b
  omega
end Go.Proofs.YtbjobbkipmkndaaDoor
