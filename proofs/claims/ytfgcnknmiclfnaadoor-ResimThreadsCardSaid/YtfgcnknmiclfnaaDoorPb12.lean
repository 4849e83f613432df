/- RsRefB. -/
import Derived.Test.YtfgcnknmiclfnaaDoorPb11
import Derived.OneCell
import Derived.Deep.AppendLies
import Derived.Deep.RegionLaw
import Derived.Deep.RegionHeld3
set_option linter.unusedVariables false
set_option linter.unusedSimpArgs false
set_option maxRecDepth 100000
set_option maxHeartbeats 8000000
namespace Go.Proofs.YtfgcnknmiclfnaaDoor
open Go.RowKit
def xpF (f : F) : F := f
def xpT (t : TN) : TN := t
theorem xpF_drop (f : F) (k : Nat) (hk : k < f.len) : xpF (f.drop k) = .cons (xpT (f.nth k)).op (xpT (f.nth k)).st (xpT (f.nth k)).lo (xpT (f.nth k)).hi (xpT (f.nth k)).g (xpT (f.nth k)).args (xpF (f.drop (k + 1))) := F.drop_step f k hk
def shF : F → Prop
  | .nil => True
  | .cons _ _ _ _ _ a r => a.len ≤ 1599289640354 ∧ shF a ∧ shF r
theorem shF_nth : ∀ (f : F) (k : Nat), shF f → k < f.len → (f.nth k).args.len ≤ 1599289640354 ∧ shF (f.nth k).args
  | .nil, _, _, h => by cases h
  | .cons o s l h g a r, 0, hf, _ => ⟨hf.1, hf.2.1⟩
  | .cons o s l h g a r, k + 1, hf, hk => shF_nth r k hf.2.2 (by have : k + 1 < r.len + 1 := hk; omega)
def XpG (f : F) : Prop := ∀ (o l h g : Int) (st : Nat → Bool) (sv : Value) (w : World) (S : Nat → Prop), SV w S f sv → (∀ b, S b → b < w.heap.size) → f.len ≤ 1599289640354 → shF f → spF f → (o = 2 ∨ o = 3 ∨ o = 4) →
  Calls Tryd.prog 51 #[.agg #[.int .i64 o, .int .u64 (wd st 0 64 : Nat), .int .u64 (wd st 64 64 : Nat), .int .u64 (wd st 128 64 : Nat), .int .u64 (wd st 192 64 : Nat), .int .i64 l, .int .i64 h, .int .i64 g, sv]] w fun e w' => ∃ sv', e = .returned (.agg #[.int .i64 (xpT ⟨o, st, l, h, g, f⟩).op, .int .u64 (wd (xpT ⟨o, st, l, h, g, f⟩).st 0 64 : Nat), .int .u64 (wd (xpT ⟨o, st, l, h, g, f⟩).st 64 64 : Nat), .int .u64 (wd (xpT ⟨o, st, l, h, g, f⟩).st 128 64 : Nat), .int .u64 (wd (xpT ⟨o, st, l, h, g, f⟩).st 192 64 : Nat), .int .i64 (xpT ⟨o, st, l, h, g, f⟩).lo, .int .i64 (xpT ⟨o, st, l, h, g, f⟩).hi, .int .i64 (xpT ⟨o, st, l, h, g, f⟩).g, sv']) ∧ SV w' (Frm w.heap.size) (xpT ⟨o, st, l, h, g, f⟩).args sv' ∧ Below w.heap.size w w'
structure XW (w0 : World) (row : Array Value) (st : Nat → Bool) (o l h g : Int) (f : F) (k : Nat) (v : Value) (w : World) : Prop where
  box : w.heap[w0.heap.size]? = some (.cells row 55 (0, 0))
  res : w.heap[w0.heap.size + 1]? = some (.cells #[.int .i64 0, .int .u64 0, .int .u64 0, .int .u64 0, .int .u64 0, .int .i64 0, .int .i64 0, .int .i64 0, .slice none 0 0] 55 (0, 0))
  out : w.heap[w0.heap.size + 2]? = some (.cells #[.int .i64 o, .int .u64 (wd st 0 64 : Nat), .int .u64 (wd st 64 64 : Nat), .int .u64 (wd st 128 64 : Nat), .int .u64 (wd st 192 64 : Nat), .int .i64 l, .int .i64 h, .int .i64 g, v] 55 (0, 0))
  bel : Below w0.heap.size w0 w
  own : ∃ d : F, OF w (w0.heap.size + 3) d v ∧ d.len = k ∧ xpF f = d.app (xpF (f.drop k))
theorem XW.lt {w0 w : World} {row : Array Value} {st : Nat → Bool} {o l h g : Int} {f : F} {k : Nat} {v : Value} (hp : XW w0 row st o l h g f k v w) : w0.heap.size + 2 < w.heap.size := (Array.getElem?_eq_some_iff.1 hp.out).1
theorem XW.drew {w0 w : World} {row : Array Value} {st : Nat → Bool} {o l h g : Int} {f : F} {k : Nat} {v : Value} (hp : XW w0 row st o l h g f k v w) : XW w0 row st o l h g f k v w.drew := by
  obtain ⟨d, h1, h2⟩ := hp.own
  exact ⟨hp.box, hp.res, hp.out, hp.bel.drew, d, h1.keep (S := fun _ => False) ((Keep.refl _ w).drew) (fun _ h => h.elim), h2⟩
theorem XW.next {w0 w w1 w8 : World} {row : Array Value} {st : Nat → Bool} {o l h g : Int} {f : F} {k : Nat} {v sv : Value} {g0 cap0 : Nat} (hp : XW w0 row st o l h g f k v w) (hk : k < f.len) {d : F} (hd : OF w (w0.heap.size + 3) d v) (hdl : d.len = k) (hda : xpF f = d.app (xpF (f.drop k)))
    {xs : List Value} (hxs : w.ownsRow (w0.heap.size + 3) 55 9 v d.len xs) (hxf : FV w (fun b => w0.heap.size + 3 ≤ b ∧ ¬ v.ownBlock = some b) d xs)
    (hb : Below w.heap.size w w1) (hx : SV w1 (Frm w.heap.size) (xpT (f.nth k)).args sv)
    (ho : w8.ownsRow (w0.heap.size + 3) 55 9 (.slice (some ⟨g0, 0, none⟩) (d.len + 1) cap0) (d.len + 1) (xs ++ rowV (xpT (f.nth k)).op (xpT (f.nth k)).st (xpT (f.nth k)).lo (xpT (f.nth k)).hi (xpT (f.nth k)).g sv)) (hkp : Keep (fun b => v.ownBlock = some b) w1 w8) (hg : v.ownBlock = some g0 ∨ w1.heap.size ≤ g0) :
    XW w0 row st o l h g f (k + 1) (.slice (some ⟨g0, 0, none⟩) (d.len + 1) cap0) (w8.setCell ⟨w0.heap.size + 2, 8, none⟩ (.slice (some ⟨g0, 0, none⟩) (d.len + 1) cap0)) := by
  have hlt := hp.lt
  have hs1 := hb.size
  have hs8 := hkp.size
  have hlo : ∀ gg, v.ownBlock = some gg → w0.heap.size + 3 ≤ gg := fun gg e => (own_at hxs gg e).1
  have hfar : ∀ b, b < w0.heap.size + 3 → w8.heap[b]? = w.heap[b]? := fun b hb3 => (hkp.block b (by omega) (fun e => by have := hlo b e; omega)).trans (hb.block b (by omega))
  have h8 : w8.heap[w0.heap.size + 2]? = some (.cells #[.int .i64 o, .int .u64 (wd st 0 64 : Nat), .int .u64 (wd st 64 64 : Nat), .int .u64 (wd st 128 64 : Nat), .int .u64 (wd st 192 64 : Nat), .int .i64 l, .int .i64 h, .int .i64 g, v] 55 (0, 0)) := (hfar _ (by omega)).trans hp.out
  have hset := heap_setCell_same w8 (w0.heap.size + 2) 8 _ _ (.slice (some ⟨g0, 0, none⟩) (d.len + 1) cap0) h8
  have hoth : ∀ b, b ≠ w0.heap.size + 2 → (w8.setCell ⟨w0.heap.size + 2, 8, none⟩ (.slice (some ⟨g0, 0, none⟩) (d.len + 1) cap0)).heap[b]? = w8.heap[b]? := fun b hb => Below.heap_setCell _ _ _ _ (by show b ≠ w0.heap.size + 2; exact hb)
  have hpush := OF.push hd hb hx hxs hxf ho hkp hg (by omega)
  refine ⟨?_, ?_, hset, ?_, d.push (xpT (f.nth k)), ?_, by rw [F.len_push, hdl], ?_⟩
  · rw [hoth _ (by omega), hfar _ (by omega)]; exact hp.box
  · rw [hoth _ (by omega), hfar _ (by omega)]; exact hp.res
  · exact ((hp.bel.trans (hb.mono hp.bel.size)).trans (hkp.below (by have := hp.bel.size; omega) (fun gg e => by have := hlo gg e; omega))).setCell (by show w0.heap.size ≤ w0.heap.size + 2; omega) _
  · exact hpush.keep (S := fun b => b = w0.heap.size + 2) ((Keep.refl (fun b => b = w0.heap.size + 2) w8).put (w0.heap.size + 2) 8 (.inl rfl) _) (fun b e => by omega)
  · rw [F.push_app, hda, xpF_drop f k hk]
theorem exp_nodea (f : F) (hch : ∀ i, i < f.len → XpG (f.nth i).args) (o l h g : Int) (st : Nat → Bool) (sv : Value) (w : World) (S : Nat → Prop) (hsv : SV w S f sv) (hS : ∀ b, S b → b < w.heap.size) (hlen : f.len ≤ 1599289640354) (hsh : shF f) (hsp : spF f) (ho : (o == 5) = false) :
    Calls Tryd.prog 51 #[.agg #[.int .i64 o, .int .u64 (wd st 0 64 : Nat), .int .u64 (wd st 64 64 : Nat), .int .u64 (wd st 128 64 : Nat), .int .u64 (wd st 192 64 : Nat), .int .i64 l, .int .i64 h, .int .i64 g, sv]] w fun e w' => ∃ sv', e = .returned (.agg #[.int .i64 o, .int .u64 (wd st 0 64 : Nat), .int .u64 (wd st 64 64 : Nat), .int .u64 (wd st 128 64 : Nat), .int .u64 (wd st 192 64 : Nat), .int .i64 l, .int .i64 h, .int .i64 g, sv']) ∧ SV w' (Frm w.heap.size) (xpF f) sv' ∧ Below w.heap.size w w' := by
  obtain ⟨zs, ad, cap, rfl, hcap, hfv, hcells⟩ := hsv
  have hfl : (f.len : Int) ≤ 1599289640354 := by omega
  have hb3 : Below w.heap.size w (((w.alloc (.cells #[.int .i64 o, .int .u64 (wd st 0 64 : Nat), .int .u64 (wd st 64 64 : Nat), .int .u64 (wd st 128 64 : Nat), .int .u64 (wd st 192 64 : Nat), .int .i64 l, .int .i64 h, .int .i64 g, .slice ad f.len cap] 55)).alloc (.cells #[.int .i64 0, .int .u64 0, .int .u64 0, .int .u64 0, .int .u64 0, .int .i64 0, .int .i64 0, .int .i64 0, .slice none 0 0] 55)).alloc (.cells #[.int .i64 o, .int .u64 (wd st 0 64 : Nat), .int .u64 (wd st 64 64 : Nat), .int .u64 (wd st 128 64 : Nat), .int .u64 (wd st 192 64 : Nat), .int .i64 l, .int .i64 h, .int .i64 g, .slice none 0 0] 55)) := (((Below.refl _ _).alloc (Nat.le_refl _) _).alloc (by simp) _).alloc (by simp; omega) _
  have hs1 : (w.alloc (.cells #[.int .i64 o, .int .u64 (wd st 0 64 : Nat), .int .u64 (wd st 64 64 : Nat), .int .u64 (wd st 128 64 : Nat), .int .u64 (wd st 192 64 : Nat), .int .i64 l, .int .i64 h, .int .i64 g, .slice ad f.len cap] 55)).heap.size = w.heap.size + 1 := by simp
  have hs2 : ((w.alloc (.cells #[.int .i64 o, .int .u64 (wd st 0 64 : Nat), .int .u64 (wd st 64 64 : Nat), .int .u64 (wd st 128 64 : Nat), .int .u64 (wd st 192 64 : Nat), .int .i64 l, .int .i64 h, .int .i64 g, .slice ad f.len cap] 55)).alloc (.cells #[.int .i64 0, .int .u64 0, .int .u64 0, .int .u64 0, .int .u64 0, .int .i64 0, .int .i64 0, .int .i64 0, .slice none 0 0] 55)).heap.size = w.heap.size + 1 + 1 := by simp
  have hpw : XW w #[.int .i64 o, .int .u64 (wd st 0 64 : Nat), .int .u64 (wd st 64 64 : Nat), .int .u64 (wd st 128 64 : Nat), .int .u64 (wd st 192 64 : Nat), .int .i64 l, .int .i64 h, .int .i64 g, .slice ad f.len cap] st o l h g f 0 (.slice none 0 0) (((w.alloc (.cells #[.int .i64 o, .int .u64 (wd st 0 64 : Nat), .int .u64 (wd st 64 64 : Nat), .int .u64 (wd st 128 64 : Nat), .int .u64 (wd st 192 64 : Nat), .int .i64 l, .int .i64 h, .int .i64 g, .slice ad f.len cap] 55)).alloc (.cells #[.int .i64 0, .int .u64 0, .int .u64 0, .int .u64 0, .int .u64 0, .int .i64 0, .int .i64 0, .int .i64 0, .slice none 0 0] 55)).alloc (.cells #[.int .i64 o, .int .u64 (wd st 0 64 : Nat), .int .u64 (wd st 64 64 : Nat), .int .u64 (wd st 128 64 : Nat), .int .u64 (wd st 192 64 : Nat), .int .i64 l, .int .i64 h, .int .i64 g, .slice none 0 0] 55)) := by
    refine ⟨?_, ?_, ?_, hb3, .nil, OF.nil _ _, rfl, ?_⟩
    · rw [Below.heap_alloc _ _ _ (by rw [hs2]; omega), Below.heap_alloc _ _ _ (by rw [hs1]; omega)]
      exact heap_alloc_new w _
    · rw [Below.heap_alloc _ _ _ (by rw [hs2]; omega)]
      have := heap_alloc_new (w.alloc (.cells #[.int .i64 o, .int .u64 (wd st 0 64 : Nat), .int .u64 (wd st 64 64 : Nat), .int .u64 (wd st 128 64 : Nat), .int .u64 (wd st 192 64 : Nat), .int .i64 l, .int .i64 h, .int .i64 g, .slice ad f.len cap] 55)) (.cells #[.int .i64 0, .int .u64 0, .int .u64 0, .int .u64 0, .int .u64 0, .int .i64 0, .int .i64 0, .int .i64 0, .slice none 0 0] 55)
      rw [hs1] at this
      exact this
    · have := heap_alloc_new ((w.alloc (.cells #[.int .i64 o, .int .u64 (wd st 0 64 : Nat), .int .u64 (wd st 64 64 : Nat), .int .u64 (wd st 128 64 : Nat), .int .u64 (wd st 192 64 : Nat), .int .i64 l, .int .i64 h, .int .i64 g, .slice ad f.len cap] 55)).alloc (.cells #[.int .i64 0, .int .u64 0, .int .u64 0, .int .u64 0, .int .u64 0, .int .i64 0, .int .i64 0, .int .i64 0, .slice none 0 0] 55)) (.cells #[.int .i64 o, .int .u64 (wd st 0 64 : Nat), .int .u64 (wd st 64 64 : Nat), .int .u64 (wd st 128 64 : Nat), .int .u64 (wd st 192 64 : Nat), .int .i64 l, .int .i64 h, .int .i64 g, .slice none 0 0] 55)
      rw [hs2] at this
      exact this
    · rw [show f.drop 0 = f by cases f <;> rfl]
      rfl
  have HXW := Lib.hid hpw
  have HS := Lib.hid hS
  have HCh := Lib.hid hch
  have HFV := Lib.hid hfv
  have HCe := Lib.hid hcells
  have HSh := Lib.hid hsh
  have HSp := Lib.hid hsp
  clear hS hch hfv hcells hsh hsp hpw hb3 hs1 hs2 hcap
  go_enter Tryd.func51, Tryd.ntmps51
  go_upto_region 4 with fail
  go_loopw [4] (fun i wr => ∃ (k : Nat) (v : Value), k ≤ f.len ∧ i = .int .i64 k ∧ Hid (XW w #[.int .i64 o, .int .u64 (wd st 0 64 : Nat), .int .u64 (wd st 64 64 : Nat), .int .u64 (wd st 128 64 : Nat), .int .u64 (wd st 192 64 : Nat), .int .i64 l, .int .i64 h, .int .i64 g, .slice ad f.len cap] st o l h g f k v wr)) (fun i _ => f.len - (intOf i).toNat)
  case atStart => exact ⟨0, _, Nat.zero_le _, rfl, HXW⟩
  case round =>
    obtain ⟨k, v, hk, rfl, HR⟩ := hrel
    have b8 : wr.cell? ⟨w.heap.size, 8, none⟩ = some (.slice ad f.len cap) := cell_of_row _ _ 8 _ _ _ HR.out.box
    have hlt := HR.out.lt
    have hl0 : w.heap.size < wr.heap.size := by omega
    have hl2 : w.heap.size + 1 + 1 < wr.heap.size := by omega
    clear hlt
    by_cases hkn : k < f.len
    · have ki : (k : Int) < f.len := by omega
      have ki0 : (0 : Int) ≤ k := by omega
      obtain ⟨b, i0, rfl, hSb, hbl, hce⟩ : ∃ b i, ad = some ⟨b, i, none⟩ ∧ S b ∧ b < w.heap.size ∧ ∀ j u, zs[j]? = some u → w.cell? ⟨b, i + j, none⟩ = some u := by
        rcases HCe.out with h0 | h0
        · omega
        · exact h0
      obtain ⟨sv2, hsv2, hrow⟩ := FV.nth k HFV.out hkn
      obtain ⟨ad2, cp2, rfl⟩ := slice_form hsv2
      have hcell : ∀ j u, (rowV (f.nth k).op (f.nth k).st (f.nth k).lo (f.nth k).hi (f.nth k).g (.slice ad2 (f.nth k).args.len cp2))[j]? = some u → wr.cell? ⟨b, i0 + k * 9 + j, none⟩ = some u := fun j u hu => by
        rw [HR.out.bel.cell (by exact hbl), Nat.add_assoc]
        exact hce _ u (hrow j u hu)
      have c0 := hcell 0 _ rfl
      have c1 := hcell 1 _ rfl
      have c2 := hcell 2 _ rfl
      have c3 := hcell 3 _ rfl
      have c4 := hcell 4 _ rfl
      have c5 := hcell 5 _ rfl
      have c6 := hcell 6 _ rfl
      have c7 := hcell 7 _ rfl
      have c8 := hcell 8 _ rfl
      rw [Nat.add_zero] at c0
      obtain ⟨d, hd, hdl, hda⟩ := HR.out.own
      obtain ⟨xs, hxs, hxf⟩ := id hd.own
      obtain ⟨rad, rcap, rfl⟩ := own_sl hxs
      have o8 : wr.cell? ⟨w.heap.size + 1 + 1, 8, none⟩ = some (.slice rad d.len rcap) := cell_of_row _ _ 8 _ _ _ HR.out.out
      have fo : wr.frozen? ⟨w.heap.size + 1 + 1, 8, none⟩ = false := frozen_of_row _ _ 8 _ _ HR.out.out
      have hs := shF_nth f k HSh.out hkn
      have HEx := Lib.hid (fun W (h1 : SV W S (f.nth k).args (.slice ad2 (f.nth k).args.len cp2)) (h2 : w.heap.size ≤ W.heap.size) => HCh.out k hkn (f.nth k).op (f.nth k).lo (f.nth k).hi (f.nth k).g (f.nth k).st _ W S h1 (fun b hb => by have := HS.out b hb; omega) hs.1 hs.2 (HSp.out.nth k hkn).2 (HSp.out.nth k hkn).1)
      have HSr : Hid (SV wr.drew S (f.nth k).args (.slice ad2 (f.nth k).args.len cp2)) := Lib.hid (hsv2.far ⟨HR.out.bel.drew.size, fun b h1 h2 => ⟨h1, HR.out.bel.drew.block b (HS.out b h1)⟩⟩)
      have eT : (⟨(f.nth k).op, (f.nth k).st, (f.nth k).lo, (f.nth k).hi, (f.nth k).g, (f.nth k).args⟩ : TN) = f.nth k := rfl
      rw [eT] at HEx
      have HXs := Lib.hid hxs
      have HSz : Hid (w.heap.size ≤ wr.drew.heap.size) := Lib.hid HR.out.bel.size
      have HNx := Lib.hid (fun (w1 w8 : World) (sv : Value) (g0 cap0 : Nat) hb hx ho hkp hg => HR.out.next (w1 := w1) (w8 := w8) (sv := sv) (g0 := g0) (cap0 := cap0) hkn hd hdl hda hxs hxf hb hx ho hkp hg)
      have hdk : d.len + 1 ≤ 1599289640354 := by omega
      have HDk := Lib.hid hdk
      have HO3 := Lib.hid (show ∀ gg, (Value.slice rad d.len rcap).ownBlock = some gg → w.heap.size + 3 ≤ gg from fun gg e => (own_at hxs gg e).1)
      obtain ⟨i1, hi1, hz0, hz1, hz2⟩ := info_parts infoRe
      generalize xpT (f.nth k) = X at *
      clear hcell hce hrow hsv2 hSb hs eT hd hda hxs hxf hdk hdl
      go_upto_region 6 with fail
      go_region_law
        (first
          | (refine step_append_lies _ (by rfl) _ _ _ (by rfl) (w.heap.size + 3) 55 i1 _ 9 88 Tryd.underlying53 hi1 hz0 hz1 hz2 rfl (by omega) (.slice rad d.len rcap) d.len xs (by rfl) (own_below HXs.out (HB1.out.trans ((Below.refl w1.heap.size w1).alloc (Nat.le_refl _) (.cells (rowV X.op X.st X.lo X.hi X.g (.slice ax X.args.len cx)).toArray 55) |>.mono HB1.out.size)))
              ⟨w1.heap.size, 0, none⟩ 1 1 (rowV X.op X.st X.lo X.hi X.g (.slice ax X.args.len cx)) (by rfl) (by rfl) (World.news_of_block (cs := (rowV X.op X.st X.lo X.hi X.g (.slice ax X.args.len cx)).toArray) (t := 55) (fr := (0, 0)) (heap_alloc_new w1 _)) (by simp [rowV, Value.oneCell'])
              (by omega) (by have := HDk.out; unfold maxLen; omega) (by have := HDk.out; omega) (by have := HB1.out.size; simp; omega) (w1.heap.size + 1) (by simp) ?_; intro gg cp w8 hown8 hgrow hat hlt8
             have hn2 : ¬ (Value.slice rad d.len rcap).ownBlock = some (w.heap.size + 1 + 1) := fun e => by have := HO3.out _ e; omega
             have fo8 : w8.frozen? ⟨w.heap.size + 1 + 1, 8, none⟩ = false := (hgrow.frozen_far _ (by simp; omega) (Ne.symm hn2)).trans ((World.frozen?_of_block (w := w1) (Below.heap_alloc w1 _ (w.heap.size + 1 + 1) (by omega))).trans fo1)
             have o88 : w8.cell? ⟨w.heap.size + 1 + 1, 8, none⟩ = some (.slice rad d.len rcap) := (hgrow.cell_far _ (by simp; omega) (Ne.symm hn2)).trans ((World.cell?_of_block (w := w1) (Below.heap_alloc w1 _ (w.heap.size + 1 + 1) (by omega))).trans o81))
          | (go_simp; go_at_call 51; (with_reducible refine (HEx.out _ HSr.out HSz.out).mono ?_); rintro e w1 ⟨sv3, rfl, hx3, hb3⟩
             have HX3 := Lib.hid hx3
             have HB1 := Lib.hid ((Below.refl wr.heap.size wr).drew.trans hb3)
             obtain ⟨ax, cx, rfl⟩ := slice_form hx3
             have o81 : w1.cell? ⟨w.heap.size + 1 + 1, 8, none⟩ = some (.slice rad d.len rcap) := (HB1.out.cell (p := ⟨w.heap.size + 1 + 1, 8, none⟩) hl2).trans o8
             have fo1 : w1.frozen? ⟨w.heap.size + 1 + 1, 8, none⟩ = false := (HB1.out.frozen (p := ⟨w.heap.size + 1 + 1, 8, none⟩) hl2).trans fo
             have hl21 : w.heap.size + 1 + 1 < w1.heap.size := by have := HB1.out.size; omega
             clear hx3 hb3))
      all_goals
        have hpn := HNx.out w1 w8 _ gg cp HB1.out HX3.out hown8 (((Keep.refl _ w1).alloc _).grown hgrow (fun k e _ => e)) (hat.elim .inl (fun e => .inr (by omega)))
        have HPN := Lib.hid hpn
        have HDl := Lib.hid hkn
        clear hpn hown8 hgrow hat hlt8 fo8 o88 hn2 o81 fo1 hl21 o8 fo b8 c0 c1 c2 c3 c4 c5 c6 c7 c8
        go_wp2_with fail
        go_roundw
        case rel => exact ⟨k + 1, _, by omega, by go_num, HPN⟩
        case measure => simp [intOf]; omega
    · obtain rfl : k = f.len := by omega
      obtain ⟨d, hd, hdl, hda⟩ := HR.out.own
      rw [F.drop_len] at hda
      have hda : xpF f = d := by rw [hda]; exact F.app_nil d
      have hsv := hd.sv
      obtain ⟨rad, rcap, rfl⟩ := slice_form hsv
      have HSv := Lib.hid hsv
      have HRes := Lib.hid HR.out.res
      have HBl := Lib.hid HR.out.bel
      obtain ⟨⟨⟨a0, a1, a2⟩, a3, a4, a5⟩, a6, a7, a8⟩ := nine HR.out.out
      have b0 : wr.cell? ⟨w.heap.size, 0, none⟩ = some (.int .i64 o) := cell_of_row _ _ 0 _ _ _ HR.out.box
      have HDa := Lib.hid hda
      have HLt := Lib.hid HR.out.lt
      clear hd hdl hda hsv
      go_wp2_with (first
        | (refine wpList_store_row rfl 55 (.tmp 2) (.tmp 42) rfl (w.heap.size + 1) #[.int .i64 o, .int .u64 (wd st 0 64 : Nat), .int .u64 (wd st 64 64 : Nat), .int .u64 (wd st 128 64 : Nat), .int .u64 (wd st 192 64 : Nat), .int .i64 l, .int .i64 h, .int .i64 g, .slice rad d.len rcap] rfl rfl 55 _ HRes.out isz_re rfl (by simp [Value.oneCell']) ?_))
      refine bodyPost_ret (v := .agg #[.int .i64 o, .int .u64 (wd st 0 64 : Nat), .int .u64 (wd st 64 64 : Nat), .int .u64 (wd st 128 64 : Nat), .int .u64 (wd st 192 64 : Nat), .int .i64 l, .int .i64 h, .int .i64 g, .slice rad d.len rcap]) (results_cell_row rfl _ _ (w.heap.size + 1) _ #[.int .i64 o, .int .u64 (wd st 0 64 : Nat), .int .u64 (wd st 64 64 : Nat), .int .u64 (wd st 128 64 : Nat), .int .u64 (wd st 192 64 : Nat), .int .i64 l, .int .i64 h, .int .i64 g, .slice rad d.len rcap] (0, 0) _ rfl (setRow_heap _ _ _ _ _ _ HRes.out) Tryd.underlying55 rfl isz_re) rfl ?_
      rw [HDa.out]
      refine ⟨_, rfl, HSv.out.far ⟨by rw [setRow_size]; exact Nat.le_refl _, fun b hb hl => ⟨?_, setRow_other _ _ b _ ?_⟩⟩, below_setRow HBl.out (by omega) _⟩
      · have hb : w.heap.size + 3 ≤ b := hb
        show w.heap.size ≤ b
        omega
      · have hb : w.heap.size + 3 ≤ b := hb
        omega
theorem exp_node (f : F) (hch : ∀ i, i < f.len → XpG (f.nth i).args) : XpG f := fun o l h g st sv w S hsv hS hl hsh hsp ho =>
  exp_nodea f hch o l h g st sv w S hsv hS hl hsh hsp (by rcases ho with rfl | rfl | rfl <;> rfl)
theorem exp_all : ∀ (f : F) (i : Nat), i < f.len → XpG (f.nth i).args
  | .nil, i, h => by cases h
  | .cons o s l h g a r, 0, hi => exp_node a (exp_all a)
  | .cons o s l h g a r, i + 1, hi => exp_all r i (by have : i + 1 < r.len + 1 := hi; omega)
theorem exp_pl (f : F) : XpG f := exp_node f (exp_all f)
end Go.Proofs.YtfgcnknmiclfnaaDoor
