/- RpAll. -/
import Derived.Test.YtbjobbkipmkndaaDoorPj20
set_option linter.unusedVariables false
set_option linter.unusedSimpArgs false
set_option maxRecDepth 100000
set_option maxHeartbeats 8000000
namespace Go.Proofs.YtbjobbkipmkndaaDoor
open Go.RowKit
theorem tree_4 (f : F) (hch : ∀ i, i < f.len → TreeG (f.nth i).args) (l h g : Int) (st : Nat → Bool) (sv : Value) (w : World) (S : Nat → Prop) (P : Nat) (v : Value) (L : List IN) (hsv : SV w S f sv) (hS : ∀ b, S b → b < P) (hM : WM w P v L) (hn1 : 1 ≤ f.len) (hwf : wfC f) (hlen : f.len ≤ maxLen) (hfit : f.fits) (hL : L.length + (altC (cods f) L.length).length ≤ 900000) :
    Calls Tryd.prog 41 #[.pointer (some ⟨P, 0, none⟩), .agg #[.int .i64 4, .int .u64 (wd st 0 64 : Nat), .int .u64 (wd st 64 64 : Nat), .int .u64 (wd st 128 64 : Nat), .int .u64 (wd st 192 64 : Nat), .int .i64 l, .int .i64 h, .int .i64 g, sv]] w fun e w' => e = .returned (.tuple #[]) ∧ ∃ v', WM w' P v' (L ++ altC (cods f) L.length) ∧ Mv P v w v' w' := by
  obtain ⟨ad, cap, rfl⟩ := slice_form hsv
  have hb : Below w.heap.size w (w.alloc (.cells #[.int .i64 4, .int .u64 (wd st 0 64 : Nat), .int .u64 (wd st 64 64 : Nat), .int .u64 (wd st 128 64 : Nat), .int .u64 (wd st 192 64 : Nat), .int .i64 l, .int .i64 h, .int .i64 g, .slice ad f.len cap] 34)) := (Below.refl _ _).alloc (Nat.le_refl _) _
  have HV : Hid (Mv P v w v _) := Lib.hid (Mv.of_below (P := P) (v := v) hb)
  have HC := Lib.hid (alt_any f hch _ _ S P v L (hsv.far (Afar.below hb)) hS (hM.below hb) hn1 hwf hlen hfit hL)
  clear hsv hS hM hch hwf hfit hL hb
  go_enter Tryd.func41, Tryd.ntmps41
  go_wp2_with (first
    | (go_at_call 52; (with_reducible refine HC.out.mono ?_); rintro e w1 ⟨rfl, v1, hm, hv⟩; have HR := Lib.hid (And.intro hm (HV.out.trans hv)); clear hm hv))
  go_end0
  exact ⟨rfl, v1, HR.out.1, HR.out.2⟩
theorem rep_any (f : F) (hch : ∀ i, i < f.len → TreeG (f.nth i).args) (o l h g : Int) (st : Nat → Bool) (sv : Value) (w : World) (S : Nat → Prop) (P : Nat) (v : Value) (L : List IN) (hsv : SV w S f sv) (hS : ∀ b, S b → b < P) (hM : WM w P v L) (hn1 : 1 ≤ f.len) (hwf : wfC f) (hfit : f.fits) (hL : L.length + (repC l h ((cods f).headD nilC) L.length).length ≤ 900000) :
    Calls Tryd.prog 53 #[.pointer (some ⟨P, 0, none⟩), .agg #[.int .i64 o, .int .u64 (wd st 0 64 : Nat), .int .u64 (wd st 64 64 : Nat), .int .u64 (wd st 128 64 : Nat), .int .u64 (wd st 192 64 : Nat), .int .i64 l, .int .i64 h, .int .i64 g, sv]] w fun e w' => e = .returned (.tuple #[]) ∧ ∃ v', WM w' P v' (L ++ repC l h ((cods f).headD nilC) L.length) ∧ Mv P v w v' w' := by
  by_cases h1 : l = 1
  · exact rep_1 f hch o l h g st sv w S P v L hsv hS hM hn1 hwf hfit hL h1
  by_cases h2 : h = -1
  · exact rep_u f hch o l h g st sv w S P v L hsv hS hM hn1 hwf hfit hL h1 h2
  · exact rep_o f hch o l h g st sv w S P v L hsv hS hM hn1 hwf hfit hL h1 h2
theorem tree_5 (f : F) (hch : ∀ i, i < f.len → TreeG (f.nth i).args) (l h g : Int) (st : Nat → Bool) (sv : Value) (w : World) (S : Nat → Prop) (P : Nat) (v : Value) (L : List IN) (hsv : SV w S f sv) (hS : ∀ b, S b → b < P) (hM : WM w P v L) (hn1 : 1 ≤ f.len) (hwf : wfC f) (hfit : f.fits) (hL : L.length + (repC l h ((cods f).headD nilC) L.length).length ≤ 900000) :
    Calls Tryd.prog 41 #[.pointer (some ⟨P, 0, none⟩), .agg #[.int .i64 5, .int .u64 (wd st 0 64 : Nat), .int .u64 (wd st 64 64 : Nat), .int .u64 (wd st 128 64 : Nat), .int .u64 (wd st 192 64 : Nat), .int .i64 l, .int .i64 h, .int .i64 g, sv]] w fun e w' => e = .returned (.tuple #[]) ∧ ∃ v', WM w' P v' (L ++ repC l h ((cods f).headD nilC) L.length) ∧ Mv P v w v' w' := by
  obtain ⟨ad, cap, rfl⟩ := slice_form hsv
  have hb : Below w.heap.size w (w.alloc (.cells #[.int .i64 5, .int .u64 (wd st 0 64 : Nat), .int .u64 (wd st 64 64 : Nat), .int .u64 (wd st 128 64 : Nat), .int .u64 (wd st 192 64 : Nat), .int .i64 l, .int .i64 h, .int .i64 g, .slice ad f.len cap] 34)) := (Below.refl _ _).alloc (Nat.le_refl _) _
  have HV : Hid (Mv P v w v _) := Lib.hid (Mv.of_below (P := P) (v := v) hb)
  have HC := Lib.hid (rep_any f hch 5 l h g st _ _ S P v L (hsv.far (Afar.below hb)) hS (hM.below hb) hn1 hwf hfit hL)
  clear hsv hS hM hch hwf hfit hL hb
  go_enter Tryd.func41, Tryd.ntmps41
  go_wp2_with (first
    | (go_at_call 53; (with_reducible refine HC.out.mono ?_); rintro e w1 ⟨rfl, v1, hm, hv⟩; have HR := Lib.hid (And.intro hm (HV.out.trans hv)); clear hm hv))
  go_end0
  exact ⟨rfl, v1, HR.out.1, HR.out.2⟩
theorem tree_node (f : F) (hch : ∀ i, i < f.len → TreeG (f.nth i).args) : TreeG f := by
  intro o l h g st sv w S P v L hsv hS hM hn1 hwf hlen hfit hL
  by_cases o3 : o = 3
  · subst o3
    have e : codN 3 st l h (cods f) L.length = catC (cods f) L.length := by simp [codN]
    rw [e] at hL ⊢
    exact tree_3 f hch l h g st sv w S P v L hsv hS hM hwf hlen hfit hL
  by_cases o6 : o = 6
  · subst o6
    have e : codN 6 st l h (cods f) L.length = catC (cods f) L.length := by simp [codN]
    rw [e] at hL ⊢
    exact tree_6 f hch l h g st sv w S P v L hsv hS hM hwf hlen hfit hL
  by_cases o4 : o = 4
  · subst o4
    have e : codN 4 st l h (cods f) L.length = altC (cods f) L.length := by simp [codN]
    rw [e] at hL ⊢
    exact tree_4 f hch l h g st sv w S P v L hsv hS hM (hn1 (.inl rfl)) hwf hlen hfit hL
  by_cases o5 : o = 5
  · subst o5
    have e : codN 5 st l h (cods f) L.length = repC l h ((cods f).headD nilC) L.length := by simp [codN]
    rw [e] at hL ⊢
    exact tree_5 f hch l h g st sv w S P v L hsv hS hM (hn1 (.inr rfl)) hwf hfit hL
  exact tree_leaf f o l h g st sv w P v L (slice_form hsv) hM (by omega) ⟨o3, o6, o4, o5⟩
theorem tree_all : ∀ (f : F) (i : Nat), i < f.len → TreeG (f.nth i).args
  | .nil, i, h => by cases h
  | .cons o s l h g a r, 0, hi => tree_node a (tree_all a)
  | .cons o s l h g a r, i + 1, hi => tree_all r i (by have : i + 1 < r.len + 1 := hi; omega)
theorem tree_any (f : F) : TreeG f := tree_node f (tree_all f)
def PI (w : World) (n : Nat) (L : List IN) (v : Value) : Prop := ∃ ad cap, v = .slice ad L.length cap ∧ L.length ≤ cap ∧ (L.length = 0 ∨ ∃ b i, ad = some ⟨b, i, none⟩ ∧ n ≤ b ∧ b < w.heap.size ∧ ∀ (k : Nat) (hk : k < L.length) (j : Nat), j < 7 → w.cell? ⟨b, i + k * 7 + j, none⟩ = (rowI (L[k]'hk))[j]?)
theorem PI.turn {w w' : World} {n : Nat} {L : List IN} {v : Value} (h : PI w n L v) (hs : w.heap.size ≤ w'.heap.size) (hb : ∀ b, n ≤ b → b < w.heap.size → w'.heap[b]? = w.heap[b]?) : PI w' n L v := by
  obtain ⟨ad, cap, h1, h2, h3⟩ := h
  refine ⟨ad, cap, h1, h2, ?_⟩
  rcases h3 with h3 | ⟨b, i, e, hn, hl, hc⟩
  · exact .inl h3
  · exact .inr ⟨b, i, e, hn, by omega, fun k hk j hj => (cell_same (hb b hn hl)).trans (hc k hk j hj)⟩
theorem PI.below {w w' : World} {n : Nat} {L : List IN} {v : Value} (h : PI w n L v) (hb : Below w.heap.size w w') : PI w' n L v := h.turn hb.size (fun b _ hl => hb.block b hl)
theorem PI.low {w : World} {n m : Nat} {L : List IN} {v : Value} (h : PI w n L v) (hm : m ≤ n) : PI w m L v := by
  obtain ⟨ad, cap, h1, h2, h3⟩ := h
  refine ⟨ad, cap, h1, h2, ?_⟩
  rcases h3 with h3 | ⟨b, i, e, hn, r⟩
  · exact .inl h3
  · exact .inr ⟨b, i, e, by omega, r⟩
theorem PI.form {w : World} {n : Nat} {L : List IN} {v : Value} (h : PI w n L v) : ∃ ad cap, v = .slice ad L.length cap := by
  obtain ⟨ad, cap, h1, _⟩ := h
  exact ⟨ad, cap, h1⟩
theorem PI.nil (w : World) (n : Nat) : PI w n [] (.slice none 0 0) := ⟨none, 0, rfl, Nat.le_refl _, .inl rfl⟩
theorem PI.own {w : World} {B : Nat} {L : List IN} {v : Value} (h : w.ownsRow B 39 7 v L.length (rowsI L)) : PI w B L v := by
  rcases h.2 with ⟨rfl, h0⟩ | ⟨g, cap, cur, rfl, hB, hg, hn, _⟩
  · exact ⟨none, 0, by rw [h0], by omega, .inl h0⟩
  · refine ⟨_, cap, rfl, hn, .inr ⟨g, 0, rfl, hB, (Array.getElem?_eq_some_iff.1 hg).1, fun k hk j hj => ?_⟩⟩
    rw [Nat.zero_add, h.cellAt (k * 7 + j) (by omega), rowsI_get L k hk j hj]
theorem codeof_any (t : TN) (sv : Value) (w : World) (h : TI w t sv) (hwf : wfN t) (hL : (codT t 0).length ≤ 900000) :
    Calls Tryd.prog 30 #[.agg #[.int .i64 t.op, .int .u64 (wd t.st 0 64 : Nat), .int .u64 (wd t.st 64 64 : Nat), .int .u64 (wd t.st 128 64 : Nat), .int .u64 (wd t.st 192 64 : Nat), .int .i64 t.lo, .int .i64 t.hi, .int .i64 t.g, sv]] w fun e w' => ∃ v, e = .returned v ∧ PI w' w.heap.size (prgT t) v ∧ Below w.heap.size w w' := by
  obtain ⟨ad, cap, rfl⟩ := h.form
  obtain ⟨S, hsv, hS, ⟨hlen, hfit⟩, _⟩ := h
  have hb1 : Below w.heap.size w (w.alloc (.cells #[.int .i64 t.op, .int .u64 (wd t.st 0 64 : Nat), .int .u64 (wd t.st 64 64 : Nat), .int .u64 (wd t.st 128 64 : Nat), .int .u64 (wd t.st 192 64 : Nat), .int .i64 t.lo, .int .i64 t.hi, .int .i64 t.g, .slice ad t.args.len cap] 34)) := (Below.refl _ _).alloc (Nat.le_refl _) _
  have hb2 : Below w.heap.size w ((w.alloc (.cells #[.int .i64 t.op, .int .u64 (wd t.st 0 64 : Nat), .int .u64 (wd t.st 64 64 : Nat), .int .u64 (wd t.st 128 64 : Nat), .int .u64 (wd t.st 192 64 : Nat), .int .i64 t.lo, .int .i64 t.hi, .int .i64 t.g, .slice ad t.args.len cap] 34)).alloc (.cells #[.slice none 0 0] 78)) := hb1.alloc (by simp) _
  have hrow : ((w.alloc (.cells #[.int .i64 t.op, .int .u64 (wd t.st 0 64 : Nat), .int .u64 (wd t.st 64 64 : Nat), .int .u64 (wd t.st 128 64 : Nat), .int .u64 (wd t.st 192 64 : Nat), .int .i64 t.lo, .int .i64 t.hi, .int .i64 t.g, .slice ad t.args.len cap] 34)).alloc (.cells #[.slice none 0 0] 78)).heap[w.heap.size]? = some (.cells #[.int .i64 t.op, .int .u64 (wd t.st 0 64 : Nat), .int .u64 (wd t.st 64 64 : Nat), .int .u64 (wd t.st 128 64 : Nat), .int .u64 (wd t.st 192 64 : Nat), .int .i64 t.lo, .int .i64 t.hi, .int .i64 t.g, .slice ad t.args.len cap] 34 (0, 0)) := by
    rw [Below.heap_alloc _ _ _ (by simp)]
    exact heap_alloc_new w _
  have hw : ((w.alloc (.cells #[.int .i64 t.op, .int .u64 (wd t.st 0 64 : Nat), .int .u64 (wd t.st 64 64 : Nat), .int .u64 (wd t.st 128 64 : Nat), .int .u64 (wd t.st 192 64 : Nat), .int .i64 t.lo, .int .i64 t.hi, .int .i64 t.g, .slice ad t.args.len cap] 34)).alloc (.cells #[.slice none 0 0] 78)).heap[w.heap.size + 1]? = some (.cells #[.slice none 0 0] 78 (0, 0)) := by
    have := heap_alloc_new (w.alloc (.cells #[.int .i64 t.op, .int .u64 (wd t.st 0 64 : Nat), .int .u64 (wd t.st 64 64 : Nat), .int .u64 (wd t.st 128 64 : Nat), .int .u64 (wd t.st 192 64 : Nat), .int .i64 t.lo, .int .i64 t.hi, .int .i64 t.g, .slice ad t.args.len cap] 34)) (.cells #[.slice none 0 0] 78)
    simpa using this
  have hM : WM ((w.alloc (.cells #[.int .i64 t.op, .int .u64 (wd t.st 0 64 : Nat), .int .u64 (wd t.st 64 64 : Nat), .int .u64 (wd t.st 128 64 : Nat), .int .u64 (wd t.st 192 64 : Nat), .int .i64 t.lo, .int .i64 t.hi, .int .i64 t.g, .slice ad t.args.len cap] 34)).alloc (.cells #[.slice none 0 0] 78)) (w.heap.size + 1) (.slice none 0 0) [] := ⟨hw, World.ownsRow_nil _ _ _ _⟩
  have hT := tree_any t.args t.op t.lo t.hi t.g t.st _ _ S (w.heap.size + 1) _ [] (hsv.far (Afar.below hb2)) (fun b hb => by have := hS b hb; omega) hM hwf.1 hwf.2 hlen hfit (by show 0 + (codT t 0).length ≤ _; omega)
  obtain ⟨cc, hcc⟩ : ∃ cc, codT t 0 = cc := ⟨_, rfl⟩
  have hT : Calls Tryd.prog 41 #[.pointer (some ⟨w.heap.size + 1, 0, none⟩), .agg #[.int .i64 t.op, .int .u64 (wd t.st 0 64 : Nat), .int .u64 (wd t.st 64 64 : Nat), .int .u64 (wd t.st 128 64 : Nat), .int .u64 (wd t.st 192 64 : Nat), .int .i64 t.lo, .int .i64 t.hi, .int .i64 t.g, .slice ad t.args.len cap]] ((w.alloc (.cells #[.int .i64 t.op, .int .u64 (wd t.st 0 64 : Nat), .int .u64 (wd t.st 64 64 : Nat), .int .u64 (wd t.st 128 64 : Nat), .int .u64 (wd t.st 192 64 : Nat), .int .i64 t.lo, .int .i64 t.hi, .int .i64 t.g, .slice ad t.args.len cap] 34)).alloc (.cells #[.slice none 0 0] 78)) fun e w' => e = .returned (.tuple #[]) ∧ ∃ v', WM w' (w.heap.size + 1) v' cc ∧ Mv (w.heap.size + 1) (.slice none 0 0) ((w.alloc (.cells #[.int .i64 t.op, .int .u64 (wd t.st 0 64 : Nat), .int .u64 (wd t.st 64 64 : Nat), .int .u64 (wd t.st 128 64 : Nat), .int .u64 (wd t.st 192 64 : Nat), .int .i64 t.lo, .int .i64 t.hi, .int .i64 t.g, .slice ad t.args.len cap] 34)).alloc (.cells #[.slice none 0 0] 78)) v' w' := by
    rw [← hcc]
    exact hT
  have hp : prgT t = cc ++ [⟨6, noSet, 0, 0⟩] := by unfold prgT; rw [hcc]
  rw [hcc] at hL
  obtain ⟨L6, hL6⟩ : ∃ L6, L6 = cc ++ [⟨6, noSet, 0, 0⟩] := ⟨_, rfl⟩
  rw [← hL6] at hp
  have HA := Lib.hid (fun W v' (hW : WM W (w.heap.size + 1) v' cc) => by
    have h1 := add_no 6 0 0 (w.heap.size + 1) v' cc W hW (by omega)
    rw [← hL6] at h1
    exact h1)
  have HM := Lib.hid hM
  have HB := Lib.hid hb2
  have HP := Lib.hid hp
  obtain ⟨⟨⟨a0, a1, a2⟩, a3, a4, a5⟩, a6, a7, a8⟩ := nine hrow
  have hl2 : w.heap.size < ((w.alloc (.cells #[.int .i64 t.op, .int .u64 (wd t.st 0 64 : Nat), .int .u64 (wd t.st 64 64 : Nat), .int .u64 (wd t.st 128 64 : Nat), .int .u64 (wd t.st 192 64 : Nat), .int .i64 t.lo, .int .i64 t.hi, .int .i64 t.g, .slice ad t.args.len cap] 34)).alloc (.cells #[.slice none 0 0] 78)).heap.size := by simp; omega
  generalize hW : (w.alloc (.cells #[.int .i64 t.op, .int .u64 (wd t.st 0 64 : Nat), .int .u64 (wd t.st 64 64 : Nat), .int .u64 (wd t.st 128 64 : Nat), .int .u64 (wd t.st 192 64 : Nat), .int .i64 t.lo, .int .i64 t.hi, .int .i64 t.g, .slice ad t.args.len cap] 34)).alloc (.cells #[.slice none 0 0] 78) = W at *
  have HW := Lib.hid hW
  have HT := Lib.hid hT
  clear hW hT hM hb1 hb2 hrow hw hsv hS hwf hfit hlen hp hL hcc hL6
  go_enter Tryd.func30, Tryd.ntmps30
  go_upto_region 2 with fail
  rw [HW.out]
  go_wp2_with (first
    | (go_at_call 41; (with_reducible refine HT.out.mono ?_); rintro e w1 ⟨rfl, v1, hm, hv⟩
       have HR := Lib.hid (And.intro hm hv)
       clear hm hv a0 a1 a2 a3 a4 a5 a6 a7 a8 hl2)
    | (go_at_call 42; (with_reducible refine (HA.out _ _ HR.out.1).mono ?_); rintro e w2 ⟨rfl, v2, hm, hv⟩
       have HR2 := Lib.hid (And.intro hm (HR.out.2.trans hv))
       have hc := hm.cell
       obtain ⟨ad2, cap2, rfl⟩ := own_sl hm.own
       clear hm hv))
  go_ret
  refine ⟨_, rfl, ?_, HB.out.trans ((HR2.out.2.bel HM.out).mono (by omega))⟩
  rw [HP.out]
  exact (PI.own HR2.out.1.own).low (by omega)
end Go.Proofs.YtbjobbkipmkndaaDoor
