/- mapped, of trees. -/
import Derived.Test.YtpfbpgbgedbalaaRtX
set_option linter.unusedVariables false
set_option linter.unusedSimpArgs false
set_option maxRecDepth 100000
set_option maxHeartbeats 8000000
namespace Go.Proofs.Ytpfbpgbgedbalaa
open Go.RowKit

/-- A node is expanded whose Args are these. -/
def ExpG (f : F) : Prop := ∀ (o l h g : Int) (st : Nat → Bool) (sv : Value) (w : World) (S : Nat → Prop), SV w S f sv → (∀ b, S b → b < w.heap.size) → okE (.cons o st l h g f .nil) →
  Calls Try.prog 50 #[.agg #[.int .i64 o, .int .u64 (wd st 0 64 : Nat), .int .u64 (wd st 64 64 : Nat), .int .u64 (wd st 128 64 : Nat), .int .u64 (wd st 192 64 : Nat), .int .i64 l, .int .i64 h, .int .i64 g, sv]] w fun e w' => ∃ sv', e = .returned (.agg #[.int .i64 (expT ⟨o, st, l, h, g, f⟩).op, .int .u64 (wd (expT ⟨o, st, l, h, g, f⟩).st 0 64 : Nat), .int .u64 (wd (expT ⟨o, st, l, h, g, f⟩).st 64 64 : Nat), .int .u64 (wd (expT ⟨o, st, l, h, g, f⟩).st 128 64 : Nat), .int .u64 (wd (expT ⟨o, st, l, h, g, f⟩).st 192 64 : Nat), .int .i64 (expT ⟨o, st, l, h, g, f⟩).lo, .int .i64 (expT ⟨o, st, l, h, g, f⟩).hi, .int .i64 (expT ⟨o, st, l, h, g, f⟩).g, sv']) ∧ SV w' (Frm w.heap.size) (expT ⟨o, st, l, h, g, f⟩).args sv' ∧ Below w.heap.size w w'
theorem mapre_any (f : F) (hch : ∀ i, i < f.len → ExpG (f.nth i).args) (sv : Value) (w : World) (S : Nat → Prop) (hsv : SV w S f sv) (hS : ∀ b, S b → b < w.heap.size) (hok : okE f) (hlen : f.len ≤ 600) :
    Calls Try.prog 76 #[sv, .func (.func 50) #[] #[]] w fun e w' => ∃ rv, e = .returned rv ∧ SV w' (Frm w.heap.size) (expF f) rv ∧ Below w.heap.size w w' := by
  obtain ⟨zs, ad, cap, rfl, hcap, hfv, hcells⟩ := hsv
  have hfl : (f.len : Int) ≤ 600 := by omega
  have HS := Lib.hid hS
  have HCh := Lib.hid hch
  have HFV := Lib.hid hfv
  have HCe := Lib.hid hcells
  have HOk := Lib.hid hok
  clear hS hch hfv hcells hcap hok
  go_enter Try.func76, Try.ntmps76
  go_wp2_with fail
  go_loopw [5, 10] (fun v i wr => ∃ (j : Nat) (d : F), j ≤ f.len ∧ i = .int .i64 j ∧ Hid (d.len = j ∧ OF wr w.heap.size d v ∧ Below w.heap.size w wr ∧ expF f = d.app (expF (f.drop j)))) (fun _ i _ => f.len - (intOf i).toNat)
  case atStart => exact ⟨0, .nil, Nat.zero_le _, rfl, Lib.hid ⟨rfl, OF.nil _ _, Below.refl _ _, by rw [show f.drop 0 = f by cases f <;> rfl]; rfl⟩⟩
  case round =>
    obtain ⟨j, d, hj, rfl, HB⟩ := hrel
    by_cases hjn : j < f.len
    · have ki : (j : Int) < f.len := by omega
      have ki0 : (0 : Int) ≤ j := by omega
      obtain ⟨b, i0, rfl, hSb, hbl, hce⟩ : ∃ b i, ad = some ⟨b, i, none⟩ ∧ S b ∧ b < w.heap.size ∧ ∀ j u, zs[j]? = some u → w.cell? ⟨b, i + j, none⟩ = some u := by
        rcases HCe.out with h0 | h0
        · omega
        · exact h0
      obtain ⟨sv2, hsv2, hrow⟩ := FV.nth j HFV.out hjn
      obtain ⟨ad2, cp2, rfl⟩ := slice_form hsv2
      obtain ⟨xs, hxs, hxf⟩ := HB.out.2.1.own
      obtain ⟨rad, rcap, rfl⟩ := own_sl hxs
      have hbel := HB.out.2.2.1
      have hcell : ∀ j' u, (rowV (f.nth j).op (f.nth j).st (f.nth j).lo (f.nth j).hi (f.nth j).g (.slice ad2 (f.nth j).args.len cp2))[j']? = some u → wr.cell? ⟨b, i0 + j * 9 + j', none⟩ = some u := fun j' u hu => by
        rw [hbel.cell (by exact hbl), Nat.add_assoc]
        exact hce _ u (hrow j' u hu)
      have c0 := hcell 0 _ rfl
      have c1 := hcell 1 _ rfl
      have c2 := hcell 2 _ rfl
      have c3 := hcell 3 _ rfl
      have c4 := hcell 4 _ rfl
      have c5 := hcell 5 _ rfl
      have c6 := hcell 6 _ rfl
      have c7 := hcell 7 _ rfl
      have c8 := hcell 8 _ rfl
      rw [Nat.add_zero] at c0
      have hstep := HB.out.2.2.2
      rw [expF_drop f j hjn] at hstep
      have HXs := Lib.hid hxs
      have HXf := Lib.hid hxf
      have HSr : Hid (SV wr S (f.nth j).args (.slice ad2 (f.nth j).args.len cp2)) := Lib.hid (hsv2.far ⟨hbel.size, fun b h1 h2 => ⟨h1, hbel.block b (HS.out b h1)⟩⟩)
      have HEx := Lib.hid (fun W (h1 : SV W S (f.nth j).args (.slice ad2 (f.nth j).args.len cp2)) (h2 : w.heap.size ≤ W.heap.size) => HCh.out j hjn (f.nth j).op (f.nth j).lo (f.nth j).hi (f.nth j).g (f.nth j).st _ W S h1 (fun b hb => by have := HS.out b hb; omega) (okE_nth f j HOk.out hjn))
      have eT : (⟨(f.nth j).op, (f.nth j).st, (f.nth j).lo, (f.nth j).hi, (f.nth j).g, (f.nth j).args⟩ : TN) = f.nth j := rfl
      rw [eT] at HEx
      generalize expT (f.nth j) = X at *
      have HStep := Lib.hid hstep
      have hdl : d.len = j := HB.out.1
      have HDl := Lib.hid hdl
      clear hcell hce hrow hsv2 hSb hbl hstep hxs hxf hbel eT hdl
      go_wp2_with (first
        | (go_at_call 50; (with_reducible refine (HEx.out _ (HSr.out.far (Afar.below ((Below.refl _ _).alloc (Nat.le_refl _) _))) (by have := HB.out.2.2.1.size; simp; omega)).mono ?_); rintro e w1 ⟨sv3, rfl, hx3, hb3⟩
           have HX3 := Lib.hid hx3
           have HB3 := Lib.hid (((Below.refl wr.heap.size wr).alloc (Nat.le_refl _) _).trans (hb3.mono (by simp)))
           clear hx3 hb3 c0 c1 c2 c3 c4 c5 c6 c7 c8)
        | (at_builtin; refine app1 w.heap.size 26 28 (.agg #[.int .i64 0, .int .u64 0, .int .u64 0, .int .u64 0, .int .u64 0, .int .i64 0, .int .i64 0, .int .i64 0, .slice none 0 0]) 9 88 Try.underlying26 infoRe rfl (by decide) w1 rfl (.tmp 14) (.tmp 18) rfl (by have := HB.out.2.2.1.size; have := HB3.out.size; omega) (.slice rad d.len rcap) d.len xs (rowV X.op X.st X.lo X.hi X.g sv3) rfl rfl (own_below HXs.out HB3.out) _ rfl rfl rfl ?d1 ?d2 ?d3 ?_))
      case d1 =>
        obtain ⟨a3, c3, rfl⟩ := slice_form HX3.out
        simp [rowV, Value.oneCell']
      case d2 => have := HDl.out; unfold maxLen; omega
      case d3 => have := HDl.out; omega
      intro g0 cap0 w8 ho8 hk8 hg8
      have HF : Hid ((d.push X).len = j + 1 ∧ OF w8 w.heap.size (d.push X) (.slice (some ⟨g0, 0, none⟩) (d.len + 1) cap0) ∧ Below w.heap.size w w8 ∧ expF f = (d.push X).app (expF (f.drop (j + 1)))) := by
        refine Lib.hid ⟨by rw [F.len_push, HDl.out], OF.push HB.out.2.1 HB3.out (HX3.out.far (T := Frm wr.heap.size) ⟨Nat.le_refl _, fun b h1 _ => ⟨by have h1 : (wr.alloc _).heap.size ≤ b := h1; simp at h1; show wr.heap.size ≤ b; omega, rfl⟩⟩) HXs.out HXf.out ho8 hk8 hg8 HB.out.2.2.1.size, ?_, by rw [F.push_app]; exact HStep.out⟩
        exact HB.out.2.2.1.trans ((HB3.out.mono HB.out.2.2.1.size).trans (hk8.below (by have := HB.out.2.2.1.size; have := HB3.out.size; omega) (fun g hg => (own_at HXs.out g hg).1)))
      clear ho8 hk8 hg8
      go_wp2_with fail
      go_roundw
      case rel => exact ⟨j + 1, d.push X, by omega, by go_num, HF⟩
      case measure => simp [intOf]; omega
    · obtain rfl : j = f.len := by omega
      have hend := HB.out.2.2.2
      rw [F.drop_len] at hend
      have hend : expF f = d.app .nil := hend
      rw [F.app_nil] at hend
      have HEnd := Lib.hid hend
      obtain ⟨xs, hxs, hxf⟩ := HB.out.2.1.own
      obtain ⟨rad, rcap, rfl⟩ := own_sl hxs
      clear hend hxs hxf
      go_wp2_with fail
      go_ret
      rw [HEnd.out]
      exact ⟨_, rfl, HB.out.2.1.sv, HB.out.2.2.1⟩
end Go.Proofs.Ytpfbpgbgedbalaa
