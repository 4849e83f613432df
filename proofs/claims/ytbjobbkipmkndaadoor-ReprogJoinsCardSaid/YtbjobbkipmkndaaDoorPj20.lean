/- RpRep. -/
import Derived.Test.YtbjobbkipmkndaaDoorPj19
set_option linter.unusedVariables false
set_option linter.unusedSimpArgs false
set_option maxRecDepth 100000
set_option maxHeartbeats 8000000
namespace Go.Proofs.YtbjobbkipmkndaaDoor
open Go.RowKit
structure BR (w0 : World) (P : Nat) (v0 v1 : Value) (w : World) (L : List IN) (row : Array Value) : Prop where
  mv : Mv P v0 w0 v1 w
  wm : WM w P v1 L
  box : w.heap[w0.heap.size]? = some (.cells row 34 (0, 0))
  ne : ¬ v1.ownBlock = some w0.heap.size
theorem BR.lt {w0 w : World} {P : Nat} {v0 v1 : Value} {L : List IN} {row : Array Value} (h : BR w0 P v0 v1 w L row) : w0.heap.size < w.heap.size := (Array.getElem?_eq_some_iff.1 h.box).1
theorem BR.step {w0 w w' : World} {P : Nat} {v0 v1 v2 : Value} {L L' L0 : List IN} {row : Array Value} (hw : WM w0 P v0 L0) (h : BR w0 P v0 v1 w L row) (hm : Mv P v1 w v2 w') (hl : WM w' P v2 L') : BR w0 P v0 v2 w' L' row := by
  have hP := hw.lt
  have hlt := h.lt
  refine ⟨h.mv.trans hm, hl, (hm.block h.wm hlt (by omega) h.ne).trans h.box, fun e => ?_⟩
  rcases hm.own _ e with e | e
  · exact h.ne e
  · omega
theorem BR.start {w : World} {P : Nat} {v : Value} {L : List IN} (h : WM w P v L) (row : Array Value) : BR w P v v (w.alloc (.cells row 34)) L row := by
  have hb : Below w.heap.size w (w.alloc (.cells row 34)) := (Below.refl _ _).alloc (Nat.le_refl _) _
  exact ⟨Mv.of_below hb, h.below hb, heap_alloc_new w _, fun e => by have := (own_at h.own _ e).2; omega⟩
theorem head_cod {f : F} (h : 1 ≤ f.len) : (cods f).headD nilC = codT (f.nth 0) := by
  cases f with
  | nil => cases h
  | cons o s l h' g a r => rfl
theorem rep_1 (f : F) (hch : ∀ i, i < f.len → TreeG (f.nth i).args) (o l h g : Int) (st : Nat → Bool) (sv : Value) (w : World) (S : Nat → Prop) (P : Nat) (v : Value) (L : List IN) (hsv : SV w S f sv) (hS : ∀ b, S b → b < P) (hM : WM w P v L) (hn1 : 1 ≤ f.len) (hwf : wfC f) (hfit : f.fits) (hL : L.length + (repC l h ((cods f).headD nilC) L.length).length ≤ 900000) (hl1 : l = 1) :
    Calls Tryd.prog 53 #[.pointer (some ⟨P, 0, none⟩), .agg #[.int .i64 o, .int .u64 (wd st 0 64 : Nat), .int .u64 (wd st 64 64 : Nat), .int .u64 (wd st 128 64 : Nat), .int .u64 (wd st 192 64 : Nat), .int .i64 l, .int .i64 h, .int .i64 g, sv]] w fun e w' => e = .returned (.tuple #[]) ∧ ∃ v', WM w' P v' (L ++ repC l h ((cods f).headD nilC) L.length) ∧ Mv P v w v' w' := by
  obtain ⟨zs, ad, cap, rfl, hcap, hfv, hcells⟩ := hsv
  obtain ⟨b, i0, rfl, hSb, hbl, hce⟩ : ∃ b i, ad = some ⟨b, i, none⟩ ∧ S b ∧ b < w.heap.size ∧ ∀ j u, zs[j]? = some u → w.cell? ⟨b, i + j, none⟩ = some u := by
    rcases hcells with h0 | h0
    · omega
    · exact h0
  obtain ⟨sv2, hsv2, hrow⟩ := FV.nth 0 hfv (by omega)
  obtain ⟨ad2, cp2, rfl⟩ := slice_form hsv2
  have hcell : ∀ j u, (rowV (f.nth 0).op (f.nth 0).st (f.nth 0).lo (f.nth 0).hi (f.nth 0).g (.slice ad2 (f.nth 0).args.len cp2))[j]? = some u → w.cell? ⟨b, i0 + j, none⟩ = some u := fun j u hu => by
    have := hce _ u (hrow j u hu)
    rwa [Nat.zero_mul, Nat.zero_add] at this
  have hc0 := hcell 0 _ rfl
  have hc1 := hcell 1 _ rfl
  have hc2 := hcell 2 _ rfl
  have hc3 := hcell 3 _ rfl
  have hc4 := hcell 4 _ rfl
  have hc5 := hcell 5 _ rfl
  have hc6 := hcell 6 _ rfl
  have hc7 := hcell 7 _ rfl
  have hc8 := hcell 8 _ rfl
  rw [Nat.add_zero] at hc0
  have HC0 := Lib.hid hc0
  have HC1 := Lib.hid hc1
  have HC2 := Lib.hid hc2
  have HC3 := Lib.hid hc3
  have HC4 := Lib.hid hc4
  have HC5 := Lib.hid hc5
  have HC6 := Lib.hid hc6
  have HC7 := Lib.hid hc7
  have HC8 := Lib.hid hc8
  have HS := Lib.hid hS
  have HSb := Lib.hid hSb
  have HM := Lib.hid hM
  have hfl0 : (0 : Int) < (f.len : Int) := by omega
  have HSV := Lib.hid (fun W (hW : Below P w W) => hsv2.far (T := S) (w' := W) ⟨hW.size, fun b h1 h2 => ⟨h1, hW.block b (hS b h1)⟩⟩)
  have HC := Lib.hid (fun W v' (Lx : List IN) (hN : WM W P v' Lx) (hW : Below P w W) (hlen : Lx.length + (codT (f.nth 0) Lx.length).length ≤ 900000) => by
    have hw := wfC_nth f 0 hwf (by omega)
    have hf := F.fits_nth 0 hfit (by omega)
    exact hch 0 (by omega) (f.nth 0).op (f.nth 0).lo (f.nth 0).hi (f.nth 0).g (f.nth 0).st _ W S P v' Lx (HSV.out W hW) hS hN hw.1 hw.2 hf.1 hf.2 hlen)
  have HBs := Lib.hid (BR.start hM #[.int .i64 o, .int .u64 (wd st 0 64 : Nat), .int .u64 (wd st 64 64 : Nat), .int .u64 (wd st 128 64 : Nat), .int .u64 (wd st 192 64 : Nat), .int .i64 l, .int .i64 h, .int .i64 g, .slice (some ⟨b, i0, none⟩) f.len cap])
  generalize hWg : w.alloc (.cells #[.int .i64 o, .int .u64 (wd st 0 64 : Nat), .int .u64 (wd st 64 64 : Nat), .int .u64 (wd st 128 64 : Nat), .int .u64 (wd st 192 64 : Nat), .int .i64 l, .int .i64 h, .int .i64 g, .slice (some ⟨b, i0, none⟩) f.len cap] 34) = W0 at HBs
  have HWg := Lib.hid hWg
  rw [head_cod hn1] at hL ⊢
  have HPw := Lib.hid hM.lt
  clear hcells hce hrow hcell hsv2 hfv hch hwf hfit hS hSb hM hWg hc0 hc1 hc2 hc3 hc4 hc5 hc6 hc7 hc8 hcap hn1 hbl
  subst hl1
  have hrep : repC 1 h (codT (f.nth 0)) L.length = codT (f.nth 0) L.length ++ [sp (L.length : Int) ((L.length + (codT (f.nth 0) L.length).length + 1 : Nat) : Int)] := by unfold repC; rw [if_pos rfl]
  rw [hrep] at hL ⊢
  obtain ⟨cc, hcc⟩ : ∃ cc, codT (f.nth 0) L.length = cc := ⟨_, rfl⟩
  rw [hcc] at hL ⊢
  have hbd : L.length + cc.length + 1 ≤ 900000 := by simp at hL; omega
  obtain ⟨L2, hL2⟩ : ∃ L2, L2 = L ++ cc := ⟨_, rfl⟩
  have hl2 : L2.length = L.length + cc.length := by rw [hL2, List.length_append]
  have HT : Hid (∀ W v', WM W P v' L → Below P w W → Calls Tryd.prog 41 #[.pointer (some ⟨P, 0, none⟩), .agg #[.int .i64 (f.nth 0).op, .int .u64 (wd (f.nth 0).st 0 64 : Nat), .int .u64 (wd (f.nth 0).st 64 64 : Nat), .int .u64 (wd (f.nth 0).st 128 64 : Nat), .int .u64 (wd (f.nth 0).st 192 64 : Nat), .int .i64 (f.nth 0).lo, .int .i64 (f.nth 0).hi, .int .i64 (f.nth 0).g, .slice ad2 (f.nth 0).args.len cp2]] W fun e w' => e = .returned (.tuple #[]) ∧ ∃ v'', WM w' P v'' L2 ∧ Mv P v' W v'' w') := Lib.hid (fun W v' hN hW => by
    have h1 := HC.out W v' _ hN hW (by rw [hcc]; omega)
    have h2 : Calls Tryd.prog 41 #[.pointer (some ⟨P, 0, none⟩), .agg #[.int .i64 (f.nth 0).op, .int .u64 (wd (f.nth 0).st 0 64 : Nat), .int .u64 (wd (f.nth 0).st 64 64 : Nat), .int .u64 (wd (f.nth 0).st 128 64 : Nat), .int .u64 (wd (f.nth 0).st 192 64 : Nat), .int .i64 (f.nth 0).lo, .int .i64 (f.nth 0).hi, .int .i64 (f.nth 0).g, .slice ad2 (f.nth 0).args.len cp2]] W fun e w' => e = .returned (.tuple #[]) ∧ ∃ v'', WM w' P v'' (L ++ codT (f.nth 0) L.length) ∧ Mv P v' W v'' w' := h1
    rw [hcc, ← hL2] at h2
    exact h2)
  have HN := Lib.hid (fun W v' (Lx : List IN) (hW : WM W P v' Lx) => next_any P v' Lx W hW)
  have HA := Lib.hid (fun (x y : Int) W v' (hW : WM W P v' L2) => add_no 2 x y P v' L2 W hW (by omega))
  have HE : Hid (L2 ++ [⟨2, noSet, (L.length : Int), (L2.length : Int) + 1⟩] = L ++ (cc ++ [sp (L.length : Int) ((L.length + cc.length + 1 : Nat) : Int)])) := Lib.hid (by rw [hl2, hL2, List.append_assoc]; simp [sp])
  have hb2 : (L2.length : Int) ≤ 900000 := by omega
  have hb20 : (0 : Int) ≤ (L2.length : Int) := by omega
  clear hL hrep hcc hbd hL2 hl2
  go_enter Tryd.func53, Tryd.ntmps53
  go_upto_region 1 with fail
  rw [HWg.out]
  obtain ⟨⟨⟨a0, a1, a2⟩, a3, a4, a5⟩, a6, a7, a8⟩ := nine HBs.out.box
  have hlt0 := HBs.out.lt
  go_wp2_with (first
        | (go_at_call 60; (with_reducible refine (HN.out _ _ _ HBs.out.wm).mono ?_); rintro e w1 ⟨rfl, rfl⟩
           have c0 := ((HBs.out.mv.bel HM.out).cell (p := ⟨b, i0, none⟩) (HS.out b HSb.out)).trans HC0.out
           have c1 := ((HBs.out.mv.bel HM.out).cell (p := ⟨b, i0 + 1, none⟩) (HS.out b HSb.out)).trans HC1.out
           have c2 := ((HBs.out.mv.bel HM.out).cell (p := ⟨b, i0 + 2, none⟩) (HS.out b HSb.out)).trans HC2.out
           have c3 := ((HBs.out.mv.bel HM.out).cell (p := ⟨b, i0 + 3, none⟩) (HS.out b HSb.out)).trans HC3.out
           have c4 := ((HBs.out.mv.bel HM.out).cell (p := ⟨b, i0 + 4, none⟩) (HS.out b HSb.out)).trans HC4.out
           have c5 := ((HBs.out.mv.bel HM.out).cell (p := ⟨b, i0 + 5, none⟩) (HS.out b HSb.out)).trans HC5.out
           have c6 := ((HBs.out.mv.bel HM.out).cell (p := ⟨b, i0 + 6, none⟩) (HS.out b HSb.out)).trans HC6.out
           have c7 := ((HBs.out.mv.bel HM.out).cell (p := ⟨b, i0 + 7, none⟩) (HS.out b HSb.out)).trans HC7.out
           have c8 := ((HBs.out.mv.bel HM.out).cell (p := ⟨b, i0 + 8, none⟩) (HS.out b HSb.out)).trans HC8.out)
        | (go_at_call 41; (with_reducible refine (HT.out _ _ HBs.out.wm (HBs.out.mv.bel HM.out)).mono ?_); rintro e w2 ⟨rfl, v2, hm, hv⟩
           have HB2 := Lib.hid (HBs.out.step HM.out hv hm)
           clear hm hv a0 a1 a2 a3 a4 a5 a6 a7 a8 hlt0 c0 c1 c2 c3 c4 c5 c6 c7 c8
           obtain ⟨⟨⟨a0, a1, a2⟩, a3, a4, a5⟩, a6, a7, a8⟩ := nine HB2.out.box
           have hlt0 := HB2.out.lt)
        | (go_at_call 60; (with_reducible refine (HN.out _ _ _ HB2.out.wm).mono ?_); rintro e w1 ⟨rfl, rfl⟩)
        | (go_at_call 42; (with_reducible refine (HA.out _ _ _ _ HB2.out.wm).mono ?_); rintro e w4 ⟨rfl, v4, hm, hv⟩
           have HB4 := Lib.hid (HB2.out.step HM.out hv hm)
           clear hm hv a0 a1 a2 a3 a4 a5 a6 a7 a8 hlt0))
  refine bodyPost_ret (results_none rfl _ _ _) rfl ?_
  have := HB4.out.wm
  rw [HE.out] at this
  exact ⟨rfl, v4, this, HB4.out.mv⟩
theorem rep_u (f : F) (hch : ∀ i, i < f.len → TreeG (f.nth i).args) (o l h g : Int) (st : Nat → Bool) (sv : Value) (w : World) (S : Nat → Prop) (P : Nat) (v : Value) (L : List IN) (hsv : SV w S f sv) (hS : ∀ b, S b → b < P) (hM : WM w P v L) (hn1 : 1 ≤ f.len) (hwf : wfC f) (hfit : f.fits) (hL : L.length + (repC l h ((cods f).headD nilC) L.length).length ≤ 900000) (hl1 : ¬ l = 1) (hh : h = -1) :
    Calls Tryd.prog 53 #[.pointer (some ⟨P, 0, none⟩), .agg #[.int .i64 o, .int .u64 (wd st 0 64 : Nat), .int .u64 (wd st 64 64 : Nat), .int .u64 (wd st 128 64 : Nat), .int .u64 (wd st 192 64 : Nat), .int .i64 l, .int .i64 h, .int .i64 g, sv]] w fun e w' => e = .returned (.tuple #[]) ∧ ∃ v', WM w' P v' (L ++ repC l h ((cods f).headD nilC) L.length) ∧ Mv P v w v' w' := by
  obtain ⟨zs, ad, cap, rfl, hcap, hfv, hcells⟩ := hsv
  obtain ⟨b, i0, rfl, hSb, hbl, hce⟩ : ∃ b i, ad = some ⟨b, i, none⟩ ∧ S b ∧ b < w.heap.size ∧ ∀ j u, zs[j]? = some u → w.cell? ⟨b, i + j, none⟩ = some u := by
    rcases hcells with h0 | h0
    · omega
    · exact h0
  obtain ⟨sv2, hsv2, hrow⟩ := FV.nth 0 hfv (by omega)
  obtain ⟨ad2, cp2, rfl⟩ := slice_form hsv2
  have hcell : ∀ j u, (rowV (f.nth 0).op (f.nth 0).st (f.nth 0).lo (f.nth 0).hi (f.nth 0).g (.slice ad2 (f.nth 0).args.len cp2))[j]? = some u → w.cell? ⟨b, i0 + j, none⟩ = some u := fun j u hu => by
    have := hce _ u (hrow j u hu)
    rwa [Nat.zero_mul, Nat.zero_add] at this
  have hc0 := hcell 0 _ rfl
  have hc1 := hcell 1 _ rfl
  have hc2 := hcell 2 _ rfl
  have hc3 := hcell 3 _ rfl
  have hc4 := hcell 4 _ rfl
  have hc5 := hcell 5 _ rfl
  have hc6 := hcell 6 _ rfl
  have hc7 := hcell 7 _ rfl
  have hc8 := hcell 8 _ rfl
  rw [Nat.add_zero] at hc0
  have HC0 := Lib.hid hc0
  have HC1 := Lib.hid hc1
  have HC2 := Lib.hid hc2
  have HC3 := Lib.hid hc3
  have HC4 := Lib.hid hc4
  have HC5 := Lib.hid hc5
  have HC6 := Lib.hid hc6
  have HC7 := Lib.hid hc7
  have HC8 := Lib.hid hc8
  have HS := Lib.hid hS
  have HSb := Lib.hid hSb
  have HM := Lib.hid hM
  have hfl0 : (0 : Int) < (f.len : Int) := by omega
  have HSV := Lib.hid (fun W (hW : Below P w W) => hsv2.far (T := S) (w' := W) ⟨hW.size, fun b h1 h2 => ⟨h1, hW.block b (hS b h1)⟩⟩)
  have HC := Lib.hid (fun W v' (Lx : List IN) (hN : WM W P v' Lx) (hW : Below P w W) (hlen : Lx.length + (codT (f.nth 0) Lx.length).length ≤ 900000) => by
    have hw := wfC_nth f 0 hwf (by omega)
    have hf := F.fits_nth 0 hfit (by omega)
    exact hch 0 (by omega) (f.nth 0).op (f.nth 0).lo (f.nth 0).hi (f.nth 0).g (f.nth 0).st _ W S P v' Lx (HSV.out W hW) hS hN hw.1 hw.2 hf.1 hf.2 hlen)
  have HBs := Lib.hid (BR.start hM #[.int .i64 o, .int .u64 (wd st 0 64 : Nat), .int .u64 (wd st 64 64 : Nat), .int .u64 (wd st 128 64 : Nat), .int .u64 (wd st 192 64 : Nat), .int .i64 l, .int .i64 h, .int .i64 g, .slice (some ⟨b, i0, none⟩) f.len cap])
  generalize hWg : w.alloc (.cells #[.int .i64 o, .int .u64 (wd st 0 64 : Nat), .int .u64 (wd st 64 64 : Nat), .int .u64 (wd st 128 64 : Nat), .int .u64 (wd st 192 64 : Nat), .int .i64 l, .int .i64 h, .int .i64 g, .slice (some ⟨b, i0, none⟩) f.len cap] 34) = W0 at HBs
  have HWg := Lib.hid hWg
  rw [head_cod hn1] at hL ⊢
  have HPw := Lib.hid hM.lt
  clear hcells hce hrow hcell hsv2 hfv hch hwf hfit hS hSb hM hWg hc0 hc1 hc2 hc3 hc4 hc5 hc6 hc7 hc8 hcap hn1 hbl
  have hrep : repC l h (codT (f.nth 0)) L.length = sp ((L.length + 1 : Nat) : Int) ((L.length + (codT (f.nth 0) (L.length + 1)).length + 2 : Nat) : Int) :: (codT (f.nth 0) (L.length + 1) ++ [jm (L.length : Int)]) := by unfold repC; rw [if_neg hl1, if_pos hh]
  rw [hrep] at hL ⊢
  obtain ⟨cc, hcc⟩ : ∃ cc, codT (f.nth 0) (L.length + 1) = cc := ⟨_, rfl⟩
  rw [hcc] at hL ⊢
  have hbd : L.length + cc.length + 1 ≤ 900000 := by simp at hL; omega
  obtain ⟨L2, hL2⟩ : ∃ L2, L2 = (L ++ [⟨2, noSet, 0, 0⟩]) ++ cc := ⟨_, rfl⟩
  have hl2 : L2.length = L.length + 1 + cc.length := by rw [hL2]; simp; omega
  have HA1 := Lib.hid (fun W v' (hW : WM W P v' L) => add_no 2 0 0 P v' L W hW (by omega))
  have HT : Hid (∀ W v', WM W P v' (L ++ [⟨2, noSet, 0, 0⟩]) → Below P w W → Calls Tryd.prog 41 #[.pointer (some ⟨P, 0, none⟩), .agg #[.int .i64 (f.nth 0).op, .int .u64 (wd (f.nth 0).st 0 64 : Nat), .int .u64 (wd (f.nth 0).st 64 64 : Nat), .int .u64 (wd (f.nth 0).st 128 64 : Nat), .int .u64 (wd (f.nth 0).st 192 64 : Nat), .int .i64 (f.nth 0).lo, .int .i64 (f.nth 0).hi, .int .i64 (f.nth 0).g, .slice ad2 (f.nth 0).args.len cp2]] W fun e w' => e = .returned (.tuple #[]) ∧ ∃ v'', WM w' P v'' L2 ∧ Mv P v' W v'' w') := Lib.hid (fun W v' hN hW => by
    have e : (L ++ [(⟨2, noSet, 0, 0⟩ : IN)]).length = L.length + 1 := by simp
    have h1 := HC.out W v' _ hN hW (by rw [e, hcc]; omega)
    have h2 : Calls Tryd.prog 41 #[.pointer (some ⟨P, 0, none⟩), .agg #[.int .i64 (f.nth 0).op, .int .u64 (wd (f.nth 0).st 0 64 : Nat), .int .u64 (wd (f.nth 0).st 64 64 : Nat), .int .u64 (wd (f.nth 0).st 128 64 : Nat), .int .u64 (wd (f.nth 0).st 192 64 : Nat), .int .i64 (f.nth 0).lo, .int .i64 (f.nth 0).hi, .int .i64 (f.nth 0).g, .slice ad2 (f.nth 0).args.len cp2]] W fun e w' => e = .returned (.tuple #[]) ∧ ∃ v'', WM w' P v'' ((L ++ [⟨2, noSet, 0, 0⟩]) ++ codT (f.nth 0) (L ++ [(⟨2, noSet, 0, 0⟩ : IN)]).length) ∧ Mv P v' W v'' w' := h1
    rw [e, hcc, ← hL2] at h2
    exact h2)
  have HA2 := Lib.hid (fun (x : Int) W v' (hW : WM W P v' L2) => add_no 3 x 0 P v' L2 W hW (by omega))
  obtain ⟨L3, hL3⟩ : ∃ L3, L3 = L2 ++ [⟨3, noSet, (L.length : Int), 0⟩] := ⟨_, rfl⟩
  have hl3 : L3.length = L.length + cc.length + 2 := by rw [hL3]; simp; omega
  have e3 : L3 = L ++ sp 0 0 :: (cc ++ [jm (L.length : Int)]) := by rw [hL3, hL2]; simp [sp, jm]
  have HCm : Hid (∀ W v', WM W P v' L3 → Calls Tryd.prog 59 #[.pointer (some ⟨P, 0, none⟩), .int .i64 (L.length : Int)] W fun e w' => e = .returned (.tuple #[]) ∧ WM w' P v' (L ++ (sp ((L.length + 1 : Nat) : Int) ((L.length + cc.length + 2 : Nat) : Int) :: (cc ++ [jm (L.length : Int)]))) ∧ Mv P v' W v' w') := Lib.hid (fun W v' hN => by
    have hn := hl3
    have hs : L.length < L3.length := by omega
    have hl9 : L3.length < 1000000 := by omega
    rw [e3] at hN hs hn hl9
    have h1 := complete_any L.length P v' _ W hN hs hl9
    rw [set_split _ _ _ rfl, hn] at h1
    exact h1)
  have HL3 := Lib.hid hL3
  subst hh
  have hbl : (l == 1) = false := by simpa using hl1
  clear hL hrep hcc hbd hL2 hl2 hL3 hl3 e3 hl1
  go_enter Tryd.func53, Tryd.ntmps53
  go_upto_region 1 with fail
  rw [HWg.out]
  obtain ⟨⟨⟨a0, a1, a2⟩, a3, a4, a5⟩, a6, a7, a8⟩ := nine HBs.out.box
  have hlt0 := HBs.out.lt
  go_wp2_with (first
        | (go_at_call 60; (with_reducible refine (next_any P v L _ HBs.out.wm).mono ?_); rintro e w1 ⟨rfl, rfl⟩)
        | (go_at_call 42; (with_reducible refine (HA1.out _ _ HBs.out.wm).mono ?_); rintro e w1 ⟨rfl, v1, hm, hv⟩
           have HB1 := Lib.hid (HBs.out.step HM.out hv hm)
           clear hm hv a0 a1 a2 a3 a4 a5 a6 a7 a8 hlt0
           obtain ⟨⟨⟨a0, a1, a2⟩, a3, a4, a5⟩, a6, a7, a8⟩ := nine HB1.out.box
           have hlt0 := HB1.out.lt
           have c0 := ((HB1.out.mv.bel HM.out).cell (p := ⟨b, i0, none⟩) (HS.out b HSb.out)).trans HC0.out
           have c1 := ((HB1.out.mv.bel HM.out).cell (p := ⟨b, i0 + 1, none⟩) (HS.out b HSb.out)).trans HC1.out
           have c2 := ((HB1.out.mv.bel HM.out).cell (p := ⟨b, i0 + 2, none⟩) (HS.out b HSb.out)).trans HC2.out
           have c3 := ((HB1.out.mv.bel HM.out).cell (p := ⟨b, i0 + 3, none⟩) (HS.out b HSb.out)).trans HC3.out
           have c4 := ((HB1.out.mv.bel HM.out).cell (p := ⟨b, i0 + 4, none⟩) (HS.out b HSb.out)).trans HC4.out
           have c5 := ((HB1.out.mv.bel HM.out).cell (p := ⟨b, i0 + 5, none⟩) (HS.out b HSb.out)).trans HC5.out
           have c6 := ((HB1.out.mv.bel HM.out).cell (p := ⟨b, i0 + 6, none⟩) (HS.out b HSb.out)).trans HC6.out
           have c7 := ((HB1.out.mv.bel HM.out).cell (p := ⟨b, i0 + 7, none⟩) (HS.out b HSb.out)).trans HC7.out
           have c8 := ((HB1.out.mv.bel HM.out).cell (p := ⟨b, i0 + 8, none⟩) (HS.out b HSb.out)).trans HC8.out)
        | (go_at_call 41; (with_reducible refine (HT.out _ _ HB1.out.wm (HB1.out.mv.bel HM.out)).mono ?_); rintro e w2 ⟨rfl, v2, hm, hv⟩
           have HB2 := Lib.hid (HB1.out.step HM.out hv hm)
           clear hm hv a0 a1 a2 a3 a4 a5 a6 a7 a8 hlt0 c0 c1 c2 c3 c4 c5 c6 c7 c8
           obtain ⟨⟨⟨a0, a1, a2⟩, a3, a4, a5⟩, a6, a7, a8⟩ := nine HB2.out.box
           have hlt0 := HB2.out.lt)
        | (go_at_call 42; (with_reducible refine (HA2.out _ _ _ HB2.out.wm).mono ?_); rintro e w4 ⟨rfl, v4, hm, hv⟩
           rw [← HL3.out] at hm
           have HB4 := Lib.hid (HB2.out.step HM.out hv hm)
           clear hm hv a0 a1 a2 a3 a4 a5 a6 a7 a8 hlt0)
        | (go_at_call 59; (with_reducible refine (HCm.out _ _ HB4.out.wm).mono ?_); rintro e w5 ⟨rfl, hm, hv⟩
           have HB5 := Lib.hid (HB4.out.step HM.out hv hm)
           clear hm hv))
  go_end0
  exact ⟨rfl, v4, HB5.out.wm, HB5.out.mv⟩
theorem rep_o (f : F) (hch : ∀ i, i < f.len → TreeG (f.nth i).args) (o l h g : Int) (st : Nat → Bool) (sv : Value) (w : World) (S : Nat → Prop) (P : Nat) (v : Value) (L : List IN) (hsv : SV w S f sv) (hS : ∀ b, S b → b < P) (hM : WM w P v L) (hn1 : 1 ≤ f.len) (hwf : wfC f) (hfit : f.fits) (hL : L.length + (repC l h ((cods f).headD nilC) L.length).length ≤ 900000) (hl1 : ¬ l = 1) (hh : ¬ h = -1) :
    Calls Tryd.prog 53 #[.pointer (some ⟨P, 0, none⟩), .agg #[.int .i64 o, .int .u64 (wd st 0 64 : Nat), .int .u64 (wd st 64 64 : Nat), .int .u64 (wd st 128 64 : Nat), .int .u64 (wd st 192 64 : Nat), .int .i64 l, .int .i64 h, .int .i64 g, sv]] w fun e w' => e = .returned (.tuple #[]) ∧ ∃ v', WM w' P v' (L ++ repC l h ((cods f).headD nilC) L.length) ∧ Mv P v w v' w' := by
  obtain ⟨zs, ad, cap, rfl, hcap, hfv, hcells⟩ := hsv
  obtain ⟨b, i0, rfl, hSb, hbl, hce⟩ : ∃ b i, ad = some ⟨b, i, none⟩ ∧ S b ∧ b < w.heap.size ∧ ∀ j u, zs[j]? = some u → w.cell? ⟨b, i + j, none⟩ = some u := by
    rcases hcells with h0 | h0
    · omega
    · exact h0
  obtain ⟨sv2, hsv2, hrow⟩ := FV.nth 0 hfv (by omega)
  obtain ⟨ad2, cp2, rfl⟩ := slice_form hsv2
  have hcell : ∀ j u, (rowV (f.nth 0).op (f.nth 0).st (f.nth 0).lo (f.nth 0).hi (f.nth 0).g (.slice ad2 (f.nth 0).args.len cp2))[j]? = some u → w.cell? ⟨b, i0 + j, none⟩ = some u := fun j u hu => by
    have := hce _ u (hrow j u hu)
    rwa [Nat.zero_mul, Nat.zero_add] at this
  have hc0 := hcell 0 _ rfl
  have hc1 := hcell 1 _ rfl
  have hc2 := hcell 2 _ rfl
  have hc3 := hcell 3 _ rfl
  have hc4 := hcell 4 _ rfl
  have hc5 := hcell 5 _ rfl
  have hc6 := hcell 6 _ rfl
  have hc7 := hcell 7 _ rfl
  have hc8 := hcell 8 _ rfl
  rw [Nat.add_zero] at hc0
  have HC0 := Lib.hid hc0
  have HC1 := Lib.hid hc1
  have HC2 := Lib.hid hc2
  have HC3 := Lib.hid hc3
  have HC4 := Lib.hid hc4
  have HC5 := Lib.hid hc5
  have HC6 := Lib.hid hc6
  have HC7 := Lib.hid hc7
  have HC8 := Lib.hid hc8
  have HS := Lib.hid hS
  have HSb := Lib.hid hSb
  have HM := Lib.hid hM
  have hfl0 : (0 : Int) < (f.len : Int) := by omega
  have HSV := Lib.hid (fun W (hW : Below P w W) => hsv2.far (T := S) (w' := W) ⟨hW.size, fun b h1 h2 => ⟨h1, hW.block b (hS b h1)⟩⟩)
  have HC := Lib.hid (fun W v' (Lx : List IN) (hN : WM W P v' Lx) (hW : Below P w W) (hlen : Lx.length + (codT (f.nth 0) Lx.length).length ≤ 900000) => by
    have hw := wfC_nth f 0 hwf (by omega)
    have hf := F.fits_nth 0 hfit (by omega)
    exact hch 0 (by omega) (f.nth 0).op (f.nth 0).lo (f.nth 0).hi (f.nth 0).g (f.nth 0).st _ W S P v' Lx (HSV.out W hW) hS hN hw.1 hw.2 hf.1 hf.2 hlen)
  have HBs := Lib.hid (BR.start hM #[.int .i64 o, .int .u64 (wd st 0 64 : Nat), .int .u64 (wd st 64 64 : Nat), .int .u64 (wd st 128 64 : Nat), .int .u64 (wd st 192 64 : Nat), .int .i64 l, .int .i64 h, .int .i64 g, .slice (some ⟨b, i0, none⟩) f.len cap])
  generalize hWg : w.alloc (.cells #[.int .i64 o, .int .u64 (wd st 0 64 : Nat), .int .u64 (wd st 64 64 : Nat), .int .u64 (wd st 128 64 : Nat), .int .u64 (wd st 192 64 : Nat), .int .i64 l, .int .i64 h, .int .i64 g, .slice (some ⟨b, i0, none⟩) f.len cap] 34) = W0 at HBs
  have HWg := Lib.hid hWg
  rw [head_cod hn1] at hL ⊢
  have HPw := Lib.hid hM.lt
  clear hcells hce hrow hcell hsv2 hfv hch hwf hfit hS hSb hM hWg hc0 hc1 hc2 hc3 hc4 hc5 hc6 hc7 hc8 hcap hn1 hbl
  have hrep : repC l h (codT (f.nth 0)) L.length = sp ((L.length + 1 : Nat) : Int) ((L.length + (codT (f.nth 0) (L.length + 1)).length + 1 : Nat) : Int) :: codT (f.nth 0) (L.length + 1) := by unfold repC; rw [if_neg hl1, if_neg hh]
  rw [hrep] at hL ⊢
  obtain ⟨cc, hcc⟩ : ∃ cc, codT (f.nth 0) (L.length + 1) = cc := ⟨_, rfl⟩
  rw [hcc] at hL ⊢
  have hbd : L.length + cc.length + 1 ≤ 900000 := by simp at hL; omega
  obtain ⟨L2, hL2⟩ : ∃ L2, L2 = (L ++ [⟨2, noSet, 0, 0⟩]) ++ cc := ⟨_, rfl⟩
  have hl2 : L2.length = L.length + 1 + cc.length := by rw [hL2]; simp; omega
  have HA1 := Lib.hid (fun W v' (hW : WM W P v' L) => add_no 2 0 0 P v' L W hW (by omega))
  have HT : Hid (∀ W v', WM W P v' (L ++ [⟨2, noSet, 0, 0⟩]) → Below P w W → Calls Tryd.prog 41 #[.pointer (some ⟨P, 0, none⟩), .agg #[.int .i64 (f.nth 0).op, .int .u64 (wd (f.nth 0).st 0 64 : Nat), .int .u64 (wd (f.nth 0).st 64 64 : Nat), .int .u64 (wd (f.nth 0).st 128 64 : Nat), .int .u64 (wd (f.nth 0).st 192 64 : Nat), .int .i64 (f.nth 0).lo, .int .i64 (f.nth 0).hi, .int .i64 (f.nth 0).g, .slice ad2 (f.nth 0).args.len cp2]] W fun e w' => e = .returned (.tuple #[]) ∧ ∃ v'', WM w' P v'' L2 ∧ Mv P v' W v'' w') := Lib.hid (fun W v' hN hW => by
    have e : (L ++ [(⟨2, noSet, 0, 0⟩ : IN)]).length = L.length + 1 := by simp
    have h1 := HC.out W v' _ hN hW (by rw [e, hcc]; omega)
    have h2 : Calls Tryd.prog 41 #[.pointer (some ⟨P, 0, none⟩), .agg #[.int .i64 (f.nth 0).op, .int .u64 (wd (f.nth 0).st 0 64 : Nat), .int .u64 (wd (f.nth 0).st 64 64 : Nat), .int .u64 (wd (f.nth 0).st 128 64 : Nat), .int .u64 (wd (f.nth 0).st 192 64 : Nat), .int .i64 (f.nth 0).lo, .int .i64 (f.nth 0).hi, .int .i64 (f.nth 0).g, .slice ad2 (f.nth 0).args.len cp2]] W fun e w' => e = .returned (.tuple #[]) ∧ ∃ v'', WM w' P v'' ((L ++ [⟨2, noSet, 0, 0⟩]) ++ codT (f.nth 0) (L ++ [(⟨2, noSet, 0, 0⟩ : IN)]).length) ∧ Mv P v' W v'' w' := h1
    rw [e, hcc, ← hL2] at h2
    exact h2)
  obtain ⟨L3, hL3⟩ : ∃ L3, L3 = L2 := ⟨_, rfl⟩
  have hl3 : L3.length = L.length + cc.length + 1 := by rw [hL3]; omega
  have e3 : L3 = L ++ sp 0 0 :: cc := by rw [hL3, hL2]; simp [sp, jm]
  have HCm : Hid (∀ W v', WM W P v' L3 → Calls Tryd.prog 59 #[.pointer (some ⟨P, 0, none⟩), .int .i64 (L.length : Int)] W fun e w' => e = .returned (.tuple #[]) ∧ WM w' P v' (L ++ (sp ((L.length + 1 : Nat) : Int) ((L.length + cc.length + 1 : Nat) : Int) :: cc)) ∧ Mv P v' W v' w') := Lib.hid (fun W v' hN => by
    have hn := hl3
    have hs : L.length < L3.length := by omega
    have hl9 : L3.length < 1000000 := by omega
    rw [e3] at hN hs hn hl9
    have h1 := complete_any L.length P v' _ W hN hs hl9
    rw [set_split _ _ _ rfl, hn] at h1
    exact h1)
  have HL3 := Lib.hid hL3
  have hbh : (h == -1) = false := by simpa using hh
  have hbl : (l == 1) = false := by simpa using hl1
  clear hL hrep hcc hbd hL2 hl2 hL3 hl3 e3 hl1
  go_enter Tryd.func53, Tryd.ntmps53
  go_upto_region 1 with fail
  rw [HWg.out]
  obtain ⟨⟨⟨a0, a1, a2⟩, a3, a4, a5⟩, a6, a7, a8⟩ := nine HBs.out.box
  have hlt0 := HBs.out.lt
  go_wp2_with (first
        | (go_at_call 60; (with_reducible refine (next_any P v L _ HBs.out.wm).mono ?_); rintro e w1 ⟨rfl, rfl⟩)
        | (go_at_call 42; (with_reducible refine (HA1.out _ _ HBs.out.wm).mono ?_); rintro e w1 ⟨rfl, v1, hm, hv⟩
           have HB1 := Lib.hid (HBs.out.step HM.out hv hm)
           clear hm hv a0 a1 a2 a3 a4 a5 a6 a7 a8 hlt0
           obtain ⟨⟨⟨a0, a1, a2⟩, a3, a4, a5⟩, a6, a7, a8⟩ := nine HB1.out.box
           have hlt0 := HB1.out.lt
           have c0 := ((HB1.out.mv.bel HM.out).cell (p := ⟨b, i0, none⟩) (HS.out b HSb.out)).trans HC0.out
           have c1 := ((HB1.out.mv.bel HM.out).cell (p := ⟨b, i0 + 1, none⟩) (HS.out b HSb.out)).trans HC1.out
           have c2 := ((HB1.out.mv.bel HM.out).cell (p := ⟨b, i0 + 2, none⟩) (HS.out b HSb.out)).trans HC2.out
           have c3 := ((HB1.out.mv.bel HM.out).cell (p := ⟨b, i0 + 3, none⟩) (HS.out b HSb.out)).trans HC3.out
           have c4 := ((HB1.out.mv.bel HM.out).cell (p := ⟨b, i0 + 4, none⟩) (HS.out b HSb.out)).trans HC4.out
           have c5 := ((HB1.out.mv.bel HM.out).cell (p := ⟨b, i0 + 5, none⟩) (HS.out b HSb.out)).trans HC5.out
           have c6 := ((HB1.out.mv.bel HM.out).cell (p := ⟨b, i0 + 6, none⟩) (HS.out b HSb.out)).trans HC6.out
           have c7 := ((HB1.out.mv.bel HM.out).cell (p := ⟨b, i0 + 7, none⟩) (HS.out b HSb.out)).trans HC7.out
           have c8 := ((HB1.out.mv.bel HM.out).cell (p := ⟨b, i0 + 8, none⟩) (HS.out b HSb.out)).trans HC8.out)
        | (go_at_call 41; (with_reducible refine (HT.out _ _ HB1.out.wm (HB1.out.mv.bel HM.out)).mono ?_); rintro e w2 ⟨rfl, v2, hm, hv⟩
           have HB2 := Lib.hid (HB1.out.step HM.out hv hm)
           clear hm hv a0 a1 a2 a3 a4 a5 a6 a7 a8 hlt0 c0 c1 c2 c3 c4 c5 c6 c7 c8
           obtain ⟨⟨⟨a0, a1, a2⟩, a3, a4, a5⟩, a6, a7, a8⟩ := nine HB2.out.box
           have hlt0 := HB2.out.lt)
        | (go_at_call 59; (with_reducible refine (HCm.out _ _ (by rw [HL3.out]; exact HB2.out.wm)).mono ?_); rintro e w5 ⟨rfl, hm, hv⟩
           have HB5 := Lib.hid (HB2.out.step HM.out hv hm)
           clear hm hv))
  go_end0
  exact ⟨rfl, v2, HB5.out.wm, HB5.out.mv⟩
end Go.Proofs.YtbjobbkipmkndaaDoor
