/- RtX, RtXm, RtXn. -/
import Derived.Test.YtbjobbkipmkndaaDoorPj9
set_option linter.unusedVariables false
set_option linter.unusedSimpArgs false
namespace Go.Proofs.YtbjobbkipmkndaaDoor
open Go.RowKit
def F.app : F → F → F
  | .nil, g => g
  | .cons o s l h k a r, g => .cons o s l h k a (r.app g)
theorem F.app_nil : ∀ f : F, f.app .nil = f
  | .nil => rfl
  | .cons o s l h k a r => by show F.cons o s l h k a (r.app .nil) = _; rw [F.app_nil r]
theorem F.push_app : ∀ (f : F) (t : TN) (g : F), (f.push t).app g = f.app (.cons t.op t.st t.lo t.hi t.g t.args g)
  | .nil, t, g => rfl
  | .cons o s l h k a r, t, g => by show F.cons o s l h k a ((r.push t).app g) = F.cons o s l h k a (r.app _); rw [F.push_app r]
def timesF : Nat → TN → F → F
  | 0, _, f => f
  | n + 1, t, f => timesF n t (f.push t)
theorem timesF_len : ∀ (n : Nat) (t : TN) (f : F), (timesF n t f).len = f.len + n
  | 0, _, f => rfl
  | n + 1, t, f => by rw [timesF, timesF_len n, F.len_push]; omega
theorem timesF_succ : ∀ (n : Nat) (t : TN) (f : F), timesF (n + 1) t f = (timesF n t f).push t
  | 0, _, _ => rfl
  | n + 1, t, f => by rw [timesF, timesF_succ n, timesF]
def repT (l h : Int) (x : TN) : TN := ⟨5, noSet, l, h, 0, F.nil.push x⟩
def seqF (t : TN) (x : TN) : F := timesF (rpT t.lo t.hi).toNat (repT (loT t.lo t.hi) (hiT t.lo t.hi) x) (timesF (cpT t.lo t.hi).toNat x .nil)
def catT : F → TN
  | .nil => ⟨1, noSet, 0, 0, 0, .nil⟩
  | .cons o s l h g a .nil => ⟨o, s, l, h, g, a⟩
  | f => ⟨3, noSet, 0, 0, 0, f⟩
def expN (t : TN) (ea : F) : TN := if t.op = 5 then catT (seqF t (ea.nth 0)) else ⟨t.op, t.st, t.lo, t.hi, t.g, ea⟩
def expF : F → F
  | .nil => .nil
  | .cons o s l h g a r => .cons (expN ⟨o, s, l, h, g, a⟩ (expF a)).op (expN ⟨o, s, l, h, g, a⟩ (expF a)).st (expN ⟨o, s, l, h, g, a⟩ (expF a)).lo (expN ⟨o, s, l, h, g, a⟩ (expF a)).hi (expN ⟨o, s, l, h, g, a⟩ (expF a)).g (expN ⟨o, s, l, h, g, a⟩ (expF a)).args (expF r)
def expT (t : TN) : TN := expN t (expF t.args)
theorem expF_len : ∀ f : F, (expF f).len = f.len
  | .nil => rfl
  | .cons o s l h g a r => by show (expF r).len + 1 = r.len + 1; rw [expF_len r]
theorem expF_drop (f : F) (k : Nat) (hk : k < f.len) : expF (f.drop k) = .cons (expT (f.nth k)).op (expT (f.nth k)).st (expT (f.nth k)).lo (expT (f.nth k)).hi (expT (f.nth k)).g (expT (f.nth k)).args (expF (f.drop (k + 1))) := by
  rw [F.drop_step f k hk]
  rfl
def okE : F → Prop
  | .nil => True
  | .cons o _ l h _ a r => (a.len ≤ 600 ∧ (o = 5 → a.len = 1 ∧ (0 ≤ l ∧ l ≤ 64) ∧ (h = -1 ∨ (l ≤ h ∧ h ≤ 64)))) ∧ okE a ∧ okE r
theorem okE_nth : ∀ (f : F) (k : Nat), okE f → k < f.len → okE (.cons (f.nth k).op (f.nth k).st (f.nth k).lo (f.nth k).hi (f.nth k).g (f.nth k).args .nil)
  | .nil, _, _, h => by cases h
  | .cons o s l h g a r, 0, hf, _ => ⟨hf.1, hf.2.1, trivial⟩
  | .cons o s l h g a r, k + 1, hf, hk => okE_nth r k hf.2.2 (by have : k + 1 < r.len + 1 := hk; omega)
theorem okE_of : ∀ (f : F) (c d : List Bool), vF f c = some d → szF f ≤ 600 → okE f
  | .nil, _, _, _, _ => trivial
  | .cons o s l hh g a r, c, d, h, hz => by
    have hz' : szF a + 1 + szF r ≤ 600 := hz
    rw [vF] at h
    by_cases hok : okN o s l hh g a.len c = true
    case neg => rw [if_neg hok] at h; cases h
    rw [if_pos hok] at h
    have hp := okN_parts hok
    have hhav : havT o a.len = true := by have := hp.1; unfold fldT at this; simp only [Bool.and_eq_true] at this; exact this.1
    cases hva : vF a (if o = 6 then c ++ [false] else c) with
    | none => rw [hva] at h; cases h
    | some e =>
      rw [hva] at h
      replace h : vF r (if o = 6 then e.set c.length true else e) = some d := h
      have hl := len_sz a
      refine ⟨⟨by omega, fun o5 => ?_⟩, okE_of a _ _ hva (by omega), okE_of r _ _ h (by omega)⟩
      subst o5
      have hb := bnd_of (hp.2.1 rfl)
      exact ⟨havT_5 hhav, ⟨hb.1, hb.2.1⟩, hb.2.2⟩
structure OF (w : World) (n : Nat) (f : F) (v : Value) : Prop where
  own : ∃ xs, w.ownsRow n 34 9 v f.len xs ∧ FV w (fun b => n ≤ b ∧ ¬ v.ownBlock = some b) f xs
theorem OF.nil (w : World) (n : Nat) : OF w n .nil (.slice none 0 0) := ⟨[], ⟨by rfl, .inl ⟨rfl, rfl⟩⟩, rfl⟩
theorem OF.below {w w' : World} {n : Nat} {f : F} {v : Value} (h : OF w n f v) (hb : Below w.heap.size w w') : OF w' n f v := by
  obtain ⟨xs, h1, h2⟩ := h
  exact ⟨xs, own_below h1 hb, h2.far (Afar.below hb)⟩
theorem OF.keep {S : Nat → Prop} {w w' : World} {n : Nat} {f : F} {v : Value} (h : OF w n f v) (hb : Keep S w w') (hS : ∀ b, S b → b < n) : OF w' n f v := by
  obtain ⟨xs, h1, h2⟩ := h
  refine ⟨xs, own_keep h1 hb (fun g hg e => by have := (own_at h1 g hg).1; have := hS g e; omega), h2.far ⟨hb.size, fun b h3 h4 => ⟨h3, hb.block b h4 (fun e => by have := hS b e; have := h3.1; omega)⟩⟩⟩
theorem OF.sv {w : World} {n : Nat} {f : F} {v : Value} (h : OF w n f v) : SV w (Frm n) f v := by
  obtain ⟨xs, h1, h2⟩ := h
  exact SV.own (h2.far (T := Frm n) ⟨Nat.le_refl _, fun b h3 _ => ⟨h3.1, rfl⟩⟩) (fun g hg => (own_at h1 g hg).1) h1
theorem infoRe : (Tryd.prog.info? 34).map (fun i => (i.zero, i.size, i.bytes)) = some (some (.agg #[.int .i64 0, .int .u64 0, .int .u64 0, .int .u64 0, .int .u64 0, .int .i64 0, .int .i64 0, .int .i64 0, .slice none 0 0]), 9, 88) := by kernel_rfl
theorem isz_re : (Tryd.prog.info? 34).map (·.size) = some 9 := by kernel_rfl
theorem OF.push {w w1 w8 : World} {n : Nat} {f : F} {v sv : Value} {x : TN} {g0 cap0 : Nat} (h : OF w n f v) (hb : Below w.heap.size w w1) (hx : SV w1 (Frm w.heap.size) x.args sv)
    {xs : List Value} (hxs : w.ownsRow n 34 9 v f.len xs) (hfv : FV w (fun b => n ≤ b ∧ ¬ v.ownBlock = some b) f xs)
    (ho : w8.ownsRow n 34 9 (.slice (some ⟨g0, 0, none⟩) (f.len + 1) cap0) (f.len + 1) (xs ++ rowV x.op x.st x.lo x.hi x.g sv)) (hk : Keep (fun b => v.ownBlock = some b) w1 w8) (hg : v.ownBlock = some g0 ∨ w1.heap.size ≤ g0) (hn : n ≤ w.heap.size) :
    OF w8 n (f.push x) (.slice (some ⟨g0, 0, none⟩) (f.len + 1) cap0) := by
  have hown := own_at hxs
  have hz := hb.size
  refine ⟨xs ++ rowV x.op x.st x.lo x.hi x.g sv, by rw [F.len_push]; exact ho, FV.push ?_ ?_⟩
  · refine hx.far ⟨hk.size, fun b h1 h2 => ⟨⟨by have h1 : w.heap.size ≤ b := h1; omega, fun e => ?_⟩, hk.block b h2 (fun e => by have := (hown b e).2; have h1 : w.heap.size ≤ b := h1; omega)⟩⟩
    have h1 : w.heap.size ≤ b := h1
    have e : g0 = b := by cases e; rfl
    subst e
    rcases hg with hg | hg
    · have := (hown g0 hg).2; omega
    · omega
  · refine hfv.far ⟨by have := hk.size; omega, fun b h1 h2 => ⟨⟨h1.1, fun e => ?_⟩, (hk.block b (by omega) h1.2).trans (hb.block b h2)⟩⟩
    have e : g0 = b := by cases e; rfl
    subst e
    rcases hg with hg | hg
    · exact h1.2 hg
    · omega
end Go.Proofs.YtbjobbkipmkndaaDoor
set_option linter.unusedVariables false
set_option linter.unusedSimpArgs false
set_option maxRecDepth 100000
set_option maxHeartbeats 8000000
namespace Go.Proofs.YtbjobbkipmkndaaDoor
open Go.RowKit
def ExpG (f : F) : Prop := ∀ (o l h g : Int) (st : Nat → Bool) (sv : Value) (w : World) (S : Nat → Prop), SV w S f sv → (∀ b, S b → b < w.heap.size) → okE (.cons o st l h g f .nil) →
  Calls Tryd.prog 40 #[.agg #[.int .i64 o, .int .u64 (wd st 0 64 : Nat), .int .u64 (wd st 64 64 : Nat), .int .u64 (wd st 128 64 : Nat), .int .u64 (wd st 192 64 : Nat), .int .i64 l, .int .i64 h, .int .i64 g, sv]] w fun e w' => ∃ sv', e = .returned (.agg #[.int .i64 (expT ⟨o, st, l, h, g, f⟩).op, .int .u64 (wd (expT ⟨o, st, l, h, g, f⟩).st 0 64 : Nat), .int .u64 (wd (expT ⟨o, st, l, h, g, f⟩).st 64 64 : Nat), .int .u64 (wd (expT ⟨o, st, l, h, g, f⟩).st 128 64 : Nat), .int .u64 (wd (expT ⟨o, st, l, h, g, f⟩).st 192 64 : Nat), .int .i64 (expT ⟨o, st, l, h, g, f⟩).lo, .int .i64 (expT ⟨o, st, l, h, g, f⟩).hi, .int .i64 (expT ⟨o, st, l, h, g, f⟩).g, sv']) ∧ SV w' (Frm w.heap.size) (expT ⟨o, st, l, h, g, f⟩).args sv' ∧ Below w.heap.size w w'
theorem mapre_any (f : F) (hch : ∀ i, i < f.len → ExpG (f.nth i).args) (sv : Value) (w : World) (S : Nat → Prop) (hsv : SV w S f sv) (hS : ∀ b, S b → b < w.heap.size) (hok : okE f) (hlen : f.len ≤ 600) :
    Calls Tryd.prog 51 #[sv, .func (.func 40) #[] #[]] w fun e w' => ∃ rv, e = .returned rv ∧ SV w' (Frm w.heap.size) (expF f) rv ∧ Below w.heap.size w w' := by
  obtain ⟨zs, ad, cap, rfl, hcap, hfv, hcells⟩ := hsv
  have hfl : (f.len : Int) ≤ 600 := by omega
  have HS := Lib.hid hS
  have HCh := Lib.hid hch
  have HFV := Lib.hid hfv
  have HCe := Lib.hid hcells
  have HOk := Lib.hid hok
  clear hS hch hfv hcells hcap hok
  go_enter Tryd.func51, Tryd.ntmps51
  go_wp2_with fail
  go_loopw [5, 10] (fun v i wr => ∃ (j : Nat) (d : F), j ≤ f.len ∧ i = .int .i64 j ∧ Hid (d.len = j ∧ OF wr w.heap.size d v ∧ Below w.heap.size w wr ∧ expF f = d.app (expF (f.drop j)))) (fun _ i _ => f.len - (intOf i).toNat)
  case atStart => exact ⟨0, .nil, Nat.zero_le _, rfl, Lib.hid ⟨rfl, OF.nil _ _, Below.refl _ _, by rw [show f.drop 0 = f by cases f <;> rfl]; rfl⟩⟩
  case round =>
    obtain ⟨j, d, hj, rfl, HB⟩ := hrel
    by_cases hjn : j < f.len
    · have ki : (j : Int) < f.len := by omega
      have ki0 : (0 : Int) ≤ j := by omega
      obtain ⟨b, i0, rfl, hSb, hbl, hce⟩ : ∃ b i, ad = some ⟨b, i, none⟩ ∧ S b ∧ b < w.heap.size ∧ ∀ j u, zs[j]? = some u → w.cell? ⟨b, i + j, none⟩ = some u := by
        rcases HCe.out with h0 | h0
        · omega
        · exact h0
      obtain ⟨sv2, hsv2, hrow⟩ := FV.nth j HFV.out hjn
      obtain ⟨ad2, cp2, rfl⟩ := slice_form hsv2
      obtain ⟨xs, hxs, hxf⟩ := HB.out.2.1.own
      obtain ⟨rad, rcap, rfl⟩ := own_sl hxs
      have hbel := HB.out.2.2.1
      have hcell : ∀ j' u, (rowV (f.nth j).op (f.nth j).st (f.nth j).lo (f.nth j).hi (f.nth j).g (.slice ad2 (f.nth j).args.len cp2))[j']? = some u → wr.cell? ⟨b, i0 + j * 9 + j', none⟩ = some u := fun j' u hu => by
        rw [hbel.cell (by exact hbl), Nat.add_assoc]
        exact hce _ u (hrow j' u hu)
      have c0 := hcell 0 _ rfl
      have c1 := hcell 1 _ rfl
      have c2 := hcell 2 _ rfl
      have c3 := hcell 3 _ rfl
      have c4 := hcell 4 _ rfl
      have c5 := hcell 5 _ rfl
      have c6 := hcell 6 _ rfl
      have c7 := hcell 7 _ rfl
      have c8 := hcell 8 _ rfl
      rw [Nat.add_zero] at c0
      have hstep := HB.out.2.2.2
      rw [expF_drop f j hjn] at hstep
      have HXs := Lib.hid hxs
      have HXf := Lib.hid hxf
      have HSr : Hid (SV wr S (f.nth j).args (.slice ad2 (f.nth j).args.len cp2)) := Lib.hid (hsv2.far ⟨hbel.size, fun b h1 h2 => ⟨h1, hbel.block b (HS.out b h1)⟩⟩)
      have HEx := Lib.hid (fun W (h1 : SV W S (f.nth j).args (.slice ad2 (f.nth j).args.len cp2)) (h2 : w.heap.size ≤ W.heap.size) => HCh.out j hjn (f.nth j).op (f.nth j).lo (f.nth j).hi (f.nth j).g (f.nth j).st _ W S h1 (fun b hb => by have := HS.out b hb; omega) (okE_nth f j HOk.out hjn))
      have eT : (⟨(f.nth j).op, (f.nth j).st, (f.nth j).lo, (f.nth j).hi, (f.nth j).g, (f.nth j).args⟩ : TN) = f.nth j := rfl
      rw [eT] at HEx
      generalize expT (f.nth j) = X at *
      have HStep := Lib.hid hstep
      have hdl : d.len = j := HB.out.1
      have HDl := Lib.hid hdl
      clear hcell hce hrow hsv2 hSb hbl hstep hxs hxf hbel eT hdl
      go_wp2_with (first
        | (go_at_call 40; (with_reducible refine (HEx.out _ (HSr.out.far (Afar.below ((Below.refl _ _).alloc (Nat.le_refl _) _))) (by have := HB.out.2.2.1.size; simp; omega)).mono ?_); rintro e w1 ⟨sv3, rfl, hx3, hb3⟩
           have HX3 := Lib.hid hx3
           have HB3 := Lib.hid (((Below.refl wr.heap.size wr).alloc (Nat.le_refl _) _).trans (hb3.mono (by simp)))
           clear hx3 hb3 c0 c1 c2 c3 c4 c5 c6 c7 c8)
        | (at_builtin; refine app1 w.heap.size 32 34 (.agg #[.int .i64 0, .int .u64 0, .int .u64 0, .int .u64 0, .int .u64 0, .int .i64 0, .int .i64 0, .int .i64 0, .slice none 0 0]) 9 88 Tryd.underlying32 infoRe rfl (by decide) w1 rfl (.tmp 14) (.tmp 18) rfl (by have := HB.out.2.2.1.size; have := HB3.out.size; omega) (.slice rad d.len rcap) d.len xs (rowV X.op X.st X.lo X.hi X.g sv3) rfl rfl (own_below HXs.out HB3.out) _ rfl rfl rfl ?d1 ?d2 ?d3 ?_))
      case d1 =>
        obtain ⟨a3, c3, rfl⟩ := slice_form HX3.out
        simp [rowV, Value.oneCell']
      case d2 => have := HDl.out; unfold maxLen; omega
      case d3 => have := HDl.out; omega
      intro g0 cap0 w8 ho8 hk8 hg8
      have HF : Hid ((d.push X).len = j + 1 ∧ OF w8 w.heap.size (d.push X) (.slice (some ⟨g0, 0, none⟩) (d.len + 1) cap0) ∧ Below w.heap.size w w8 ∧ expF f = (d.push X).app (expF (f.drop (j + 1)))) := by
        refine Lib.hid ⟨by rw [F.len_push, HDl.out], OF.push HB.out.2.1 HB3.out (HX3.out.far (T := Frm wr.heap.size) ⟨Nat.le_refl _, fun b h1 _ => ⟨by have h1 : (wr.alloc _).heap.size ≤ b := h1; simp at h1; show wr.heap.size ≤ b; omega, rfl⟩⟩) HXs.out HXf.out ho8 hk8 hg8 HB.out.2.2.1.size, ?_, by rw [F.push_app]; exact HStep.out⟩
        exact HB.out.2.2.1.trans ((HB3.out.mono HB.out.2.2.1.size).trans (hk8.below (by have := HB.out.2.2.1.size; have := HB3.out.size; omega) (fun g hg => (own_at HXs.out g hg).1)))
      clear ho8 hk8 hg8
      go_wp2_with fail
      go_roundw
      case rel => exact ⟨j + 1, d.push X, by omega, by go_num, HF⟩
      case measure => simp [intOf]; omega
    · obtain rfl : j = f.len := by omega
      have hend := HB.out.2.2.2
      rw [F.drop_len] at hend
      have hend : expF f = d.app .nil := hend
      rw [F.app_nil] at hend
      have HEnd := Lib.hid hend
      obtain ⟨xs, hxs, hxf⟩ := HB.out.2.1.own
      obtain ⟨rad, rcap, rfl⟩ := own_sl hxs
      clear hend hxs hxf
      go_wp2_with fail
      go_ret
      rw [HEnd.out]
      exact ⟨_, rfl, HB.out.2.1.sv, HB.out.2.2.1⟩
end Go.Proofs.YtbjobbkipmkndaaDoor
set_option linter.unusedVariables false
set_option linter.unusedSimpArgs false
set_option maxRecDepth 100000
set_option maxHeartbeats 8000000
namespace Go.Proofs.YtbjobbkipmkndaaDoor
open Go.RowKit
theorem exp_x (f : F) (hch : ∀ i, i < f.len → ExpG (f.nth i).args) (o l h g : Int) (st : Nat → Bool) (sv : Value) (w : World) (S : Nat → Prop) (hsv : SV w S f sv) (hS : ∀ b, S b → b < w.heap.size) (hok : okE (.cons o st l h g f .nil)) (e5 : (o == 5) = false) (o5 : ¬ o = 5) :
    Calls Tryd.prog 40 #[.agg #[.int .i64 o, .int .u64 (wd st 0 64 : Nat), .int .u64 (wd st 64 64 : Nat), .int .u64 (wd st 128 64 : Nat), .int .u64 (wd st 192 64 : Nat), .int .i64 l, .int .i64 h, .int .i64 g, sv]] w fun e w' => ∃ sv', e = .returned (.agg #[.int .i64 o, .int .u64 (wd st 0 64 : Nat), .int .u64 (wd st 64 64 : Nat), .int .u64 (wd st 128 64 : Nat), .int .u64 (wd st 192 64 : Nat), .int .i64 l, .int .i64 h, .int .i64 g, sv']) ∧ SV w' (Frm w.heap.size) (expF f) sv' ∧ Below w.heap.size w w' := by
  obtain ⟨ad, cap, rfl⟩ := slice_form hsv
  obtain ⟨W2, hW2⟩ : ∃ W2, W2 = (w.alloc (.cells #[.int .i64 o, .int .u64 (wd st 0 64 : Nat), .int .u64 (wd st 64 64 : Nat), .int .u64 (wd st 128 64 : Nat), .int .u64 (wd st 192 64 : Nat), .int .i64 l, .int .i64 h, .int .i64 g, .slice ad f.len cap] 34)).alloc (.cells #[.int .i64 0, .int .u64 0, .int .u64 0, .int .u64 0, .int .u64 0, .int .i64 0, .int .i64 0, .int .i64 0, .slice none 0 0] 34) := ⟨_, rfl⟩
  have hb : Below w.heap.size w W2 := by rw [hW2]; exact ((Below.refl _ _).alloc (Nat.le_refl _) _).alloc (by simp) _
  have hz : W2.heap.size = w.heap.size + 1 + 1 := by rw [hW2]; simp
  have he : W2.heap[w.heap.size]? = some (.cells #[.int .i64 o, .int .u64 (wd st 0 64 : Nat), .int .u64 (wd st 64 64 : Nat), .int .u64 (wd st 128 64 : Nat), .int .u64 (wd st 192 64 : Nat), .int .i64 l, .int .i64 h, .int .i64 g, .slice ad f.len cap] 34 (0, 0)) := by
    rw [hW2, Below.heap_alloc _ _ _ (by simp)]
    exact heap_alloc_new w _
  have hr : W2.heap[w.heap.size + 1]? = some (.cells #[.int .i64 0, .int .u64 0, .int .u64 0, .int .u64 0, .int .u64 0, .int .i64 0, .int .i64 0, .int .i64 0, .slice none 0 0] 34 (0, 0)) := by
    have := heap_alloc_new (w.alloc (.cells #[.int .i64 o, .int .u64 (wd st 0 64 : Nat), .int .u64 (wd st 64 64 : Nat), .int .u64 (wd st 128 64 : Nat), .int .u64 (wd st 192 64 : Nat), .int .i64 l, .int .i64 h, .int .i64 g, .slice ad f.len cap] 34)) (.cells #[.int .i64 0, .int .u64 0, .int .u64 0, .int .u64 0, .int .u64 0, .int .i64 0, .int .i64 0, .int .i64 0, .slice none 0 0] 34)
    rw [hW2]
    simpa using this
  have HM := Lib.hid (mapre_any f hch _ W2 S (hsv.far (Afar.below hb)) (fun b h => by have := hS b h; omega) hok.2.1 hok.1.1)
  have HB := Lib.hid hb
  have HE := Lib.hid he
  have HR := Lib.hid hr
  have HW2 := Lib.hid hW2
  have HZ := Lib.hid hz
  have HL := Lib.hid (expF_len f)
  clear hsv hS hok hb he hr hW2 hz hch
  go_enter Tryd.func40, Tryd.ntmps40
  go_upto_region 3 with (first
    | (go_at_call 51; rw [← HW2.out]; (with_reducible refine HM.out.mono ?_); rintro e w1 ⟨rv, rfl, hsv1, hb1⟩
       obtain ⟨rad, rcap, rfl⟩ := slice_form hsv1
       have HV1 := Lib.hid hsv1
       have HB1 := Lib.hid hb1
       have he1 := (hb1.block w.heap.size (by have := HZ.out; omega)).trans HE.out
       have HE1 := Lib.hid he1
       have fe := fun j => frozen_of_row w1 w.heap.size j _ _ he1
       have ce : w1.cell? ⟨w.heap.size, 8, none⟩ = some (.slice ad f.len cap) := cell_of_row w1 w.heap.size 8 _ _ _ he1
       have le := (Array.getElem?_eq_some_iff.1 he1).1
       clear hsv1 hb1 he1)
    )
  have hs1 := HB1.out.size
  have hz := HZ.out
  have hE2 := heap_setCell_same w1 w.heap.size 8 _ _ (.slice rad (expF f).len rcap) HE1.out
  have hR2 := (Below.heap_setCell w1 ⟨w.heap.size, 8, none⟩ (.slice rad (expF f).len rcap) (w.heap.size + 1) (by simp)).trans ((HB1.out.block (w.heap.size + 1) (by omega)).trans HR.out)
  have hV2 : SV (w1.setCell ⟨w.heap.size, 8, none⟩ (.slice rad (expF f).len rcap)) (Frm W2.heap.size) (expF f) (.slice rad (expF f).len rcap) := HV1.out.far ⟨by simp [World.setCell], fun b h1 _ => ⟨h1, Below.heap_setCell w1 ⟨w.heap.size, 8, none⟩ _ b (by have h1 : W2.heap.size ≤ b := h1; simp; omega)⟩⟩
  have hB2 : Below w.heap.size w (w1.setCell ⟨w.heap.size, 8, none⟩ (.slice rad (expF f).len rcap)) := (HB.out.trans (HB1.out.mono HB.out.size)).setCell (p := ⟨w.heap.size, 8, none⟩) (Nat.le_refl _) _
  have HE2 : Hid ((w1.setCell ⟨w.heap.size, 8, none⟩ (.slice rad (expF f).len rcap)).heap[w.heap.size]? = some (.cells #[.int .i64 o, .int .u64 (wd st 0 64 : Nat), .int .u64 (wd st 64 64 : Nat), .int .u64 (wd st 128 64 : Nat), .int .u64 (wd st 192 64 : Nat), .int .i64 l, .int .i64 h, .int .i64 g, .slice rad (expF f).len rcap] 34 (0, 0))) := Lib.hid hE2
  have HR2 := Lib.hid hR2
  have HV2 := Lib.hid hV2
  have HB2 := Lib.hid hB2
  clear fe ce le hs1 hE2 hR2 hV2 hB2
  generalize w1.setCell ⟨w.heap.size, 8, none⟩ (.slice rad (expF f).len rcap) = W3 at *
  go_wp2_with (first
    | (refine wpList_load_row rfl 34 _ rfl w.heap.size rfl 34 #[.int .i64 o, .int .u64 (wd st 0 64 : Nat), .int .u64 (wd st 64 64 : Nat), .int .u64 (wd st 128 64 : Nat), .int .u64 (wd st 192 64 : Nat), .int .i64 l, .int .i64 h, .int .i64 g, .slice rad (expF f).len rcap] (0, 0) _ HE2.out Tryd.underlying34 rfl isz_re ?_)
    | (refine wpList_store_row rfl 34 (.tmp 2) (.tmp 12) rfl (w.heap.size + 1) #[.int .i64 o, .int .u64 (wd st 0 64 : Nat), .int .u64 (wd st 64 64 : Nat), .int .u64 (wd st 128 64 : Nat), .int .u64 (wd st 192 64 : Nat), .int .i64 l, .int .i64 h, .int .i64 g, .slice rad (expF f).len rcap] rfl rfl 34 _ HR2.out isz_re rfl (by simp [Value.oneCell']) ?_))
  refine bodyPost_ret (v := .agg #[.int .i64 o, .int .u64 (wd st 0 64 : Nat), .int .u64 (wd st 64 64 : Nat), .int .u64 (wd st 128 64 : Nat), .int .u64 (wd st 192 64 : Nat), .int .i64 l, .int .i64 h, .int .i64 g, .slice rad (expF f).len rcap]) (results_cell_row rfl _ _ (w.heap.size + 1) _ #[.int .i64 o, .int .u64 (wd st 0 64 : Nat), .int .u64 (wd st 64 64 : Nat), .int .u64 (wd st 128 64 : Nat), .int .u64 (wd st 192 64 : Nat), .int .i64 l, .int .i64 h, .int .i64 g, .slice rad (expF f).len rcap] (0, 0) _ rfl (setRow_heap W3 _ _ _ _ _ HR2.out) Tryd.underlying34 rfl isz_re) rfl ?_
  refine ⟨_, rfl, HV2.out.far ⟨by rw [setRow_size]; exact Nat.le_refl _, fun b h1 _ => ?_⟩, below_setRow HB2.out (by omega) _⟩
  have h1 : W2.heap.size ≤ b := h1
  have hz := HZ.out
  exact ⟨by show w.heap.size ≤ b; omega, setRow_other W3 _ b _ (by omega)⟩
end Go.Proofs.YtbjobbkipmkndaaDoor
