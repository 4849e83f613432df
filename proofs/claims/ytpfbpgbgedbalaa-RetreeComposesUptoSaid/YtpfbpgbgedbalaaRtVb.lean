/- Values of trees: valueOf and mapped, at Bool. (Written by gen_rtv.py.) -/
import Derived.Test.YtpfbpgbgedbalaaRtVM
set_option linter.unusedVariables false
set_option linter.unusedSimpArgs false
set_option maxRecDepth 100000
set_option maxHeartbeats 8000000
namespace Go.Proofs.Ytpfbpgbgedbalaa
open Go.RowKit

def cells_b (x : Bool) : List Value := [.bool x]
theorem clen_b (x : Bool) : (cells_b x).length = 1 := rfl
theorem info_b : (Try.prog.info? 4).map (fun i => (i.zero, i.size, i.bytes)) = some (some (.bool false), 1, 1) := by kernel_rfl
theorem isz_b : (Try.prog.info? 4).map (·.size) = some 1 := by kernel_rfl
/-- A rule's contract. -/
abbrev Rule_b (I : Bool → Prop) (R : TN → List Bool → Bool) : Prop := ∀ (W : World) (n0 : Nat) (t : TN) (ad : Option Addr) (cap : Nat) (ps : List Bool) (pv : Value), PV 4 1 cells_b W n0 ps pv → PN I t ps →
  Calls Try.prog 33 #[.agg #[.int .i64 t.op, .int .u64 (wd t.st 0 64 : Nat), .int .u64 (wd t.st 64 64 : Nat), .int .u64 (wd t.st 128 64 : Nat), .int .u64 (wd t.st 192 64 : Nat), .int .i64 t.lo, .int .i64 t.hi, .int .i64 t.g, .slice ad t.args.len cap], pv] W fun e w' => e = .returned (.bool (R t ps)) ∧ Below W.heap.size W w'
/-- The value of a node with these Args. -/
def Val_b (I : Bool → Prop) (R : TN → List Bool → Bool) (f : F) : Prop := ∀ (o l h g : Int) (st : Nat → Bool) (sv : Value) (w : World) (S : Nat → Prop) (G X1 X3 : Nat) (grp : Nat → List Bool) (gv : Nat → Value), SV w S f sv → (∀ b, S b → b < G) → GMv 103 4 1 cells_b w G grp gv → Env 33 65 w G X1 X3 → preN I R ⟨o, st, l, h, g, f⟩ grp →
  Calls Try.prog 65 #[.agg #[.int .i64 o, .int .u64 (wd st 0 64 : Nat), .int .u64 (wd st 64 64 : Nat), .int .u64 (wd st 128 64 : Nat), .int .u64 (wd st 192 64 : Nat), .int .i64 l, .int .i64 h, .int .i64 g, sv], .pointer (some ⟨X1, 0, none⟩), .pointer (some ⟨G, 0, none⟩), .pointer (some ⟨X3, 0, none⟩)] w fun e w' => e = .returned (.bool (valN R ⟨o, st, l, h, g, f⟩ grp).1) ∧ (∃ gv', GMv 103 4 1 cells_b w' G (valN R ⟨o, st, l, h, g, f⟩ grp).2 gv' ∧ Mov gv gv' w.heap.size) ∧ Only G w w'

theorem mapped_b (I : Bool → Prop) (R : TN → List Bool → Bool) (f : F) (hch : ∀ i, i < f.len → Val_b I R (f.nth i).args) (sv : Value) (w : World) (S : Nat → Prop) (G X1 X3 : Nat) (grp : Nat → List Bool) (gv : Nat → Value) (hsv : SV w S f sv) (hS : ∀ b, S b → b < G) (h0 : GMv 103 4 1 cells_b w G grp gv) (hE : Env 33 65 w G X1 X3) (hpre : preF I R f grp) (hlen : f.len ≤ 600) :
    Calls Try.prog 66 #[sv, .func (.func 65) #[] #[.pointer (some ⟨X1, 0, none⟩), .pointer (some ⟨G, 0, none⟩), .pointer (some ⟨X3, 0, none⟩)]] w fun e w' => ∃ rv, e = .returned rv ∧ PV 4 1 cells_b w' w.heap.size (valF R f grp).1 rv ∧ (∃ gv', GMv 103 4 1 cells_b w' G (valF R f grp).2 gv' ∧ Mov gv gv' w.heap.size) ∧ Only G w w' := by
  obtain ⟨zs, ad, cap, rfl, hcap, hfv, hcells⟩ := hsv
  have hfl : (f.len : Int) ≤ 600 := by omega
  have hGl := h0.lt
  have HGL := Lib.hid hGl
  have HS := Lib.hid hS
  have HCh := Lib.hid hch
  have HFV := Lib.hid hfv
  have HCe := Lib.hid hcells
  have H0 := Lib.hid h0
  have HE := Lib.hid hE
  have HP := Lib.hid hpre
  clear h0 hE hpre hS hch hfv hcells hcap hGl
  go_enter Try.func66, Try.ntmps66
  go_wp2_with fail
  go_loopw [5, 10] (fun v i wr => ∃ (j : Nat) (ys : List Bool) (grp' : Nat → List Bool) (gv' : Nat → Value), j ≤ f.len ∧ i = .int .i64 j ∧ Hid (ys.length = j ∧ PV 4 1 cells_b wr w.heap.size ys v ∧ GMv 103 4 1 cells_b wr G grp' gv' ∧ Mov gv gv' w.heap.size ∧ (∀ a b, a < 10 → v.ownBlock = some b → (gv' a).ownBlock ≠ some b) ∧ Only G w wr ∧ preF I R (f.drop j) grp' ∧ valF R f grp = (ys ++ (valF R (f.drop j) grp').1, (valF R (f.drop j) grp').2))) (fun _ i _ => f.len - (intOf i).toNat)
  case atStart =>
    refine ⟨0, [], grp, gv, Nat.zero_le _, rfl, Lib.hid ⟨rfl, PV.nil _ _ _ _ _, H0.out, Mov.refl _ _, fun a b _ hb => (by cases hb), Only.refl G w, ?_, ?_⟩⟩
    · rw [show f.drop 0 = f by cases f <;> rfl]; exact HP.out
    · rw [show f.drop 0 = f by cases f <;> rfl]; rfl
  case round =>
    obtain ⟨j, ys, grp', gv', hj, rfl, HB⟩ := hrel
    by_cases hjn : j < f.len
    · have ki : (j : Int) < f.len := by omega
      have ki0 : (0 : Int) ≤ j := by omega
      obtain ⟨b, i0, rfl, hSb, hbl, hce⟩ : ∃ b i, ad = some ⟨b, i, none⟩ ∧ S b ∧ b < w.heap.size ∧ ∀ j u, zs[j]? = some u → w.cell? ⟨b, i + j, none⟩ = some u := by
        rcases HCe.out with h0 | h0
        · omega
        · exact h0
      obtain ⟨sv2, hsv2, hrow⟩ := FV.nth j HFV.out hjn
      obtain ⟨ad2, cp2, rfl⟩ := slice_form hsv2
      obtain ⟨rad, rcap, rfl⟩ := own_sl HB.out.2.1
      have hon := HB.out.2.2.2.2.2.1
      have hcell : ∀ j' u, (rowV (f.nth j).op (f.nth j).st (f.nth j).lo (f.nth j).hi (f.nth j).g (.slice ad2 (f.nth j).args.len cp2))[j']? = some u → wr.cell? ⟨b, i0 + j * 9 + j', none⟩ = some u := fun j' u hu => by
        rw [cell_same (hon.block b hbl (by have := HS.out b hSb; omega)), Nat.add_assoc]
        exact hce _ u (hrow j' u hu)
      have c0 := hcell 0 _ rfl
      have c1 := hcell 1 _ rfl
      have c2 := hcell 2 _ rfl
      have c3 := hcell 3 _ rfl
      have c4 := hcell 4 _ rfl
      have c5 := hcell 5 _ rfl
      have c6 := hcell 6 _ rfl
      have c7 := hcell 7 _ rfl
      have c8 := hcell 8 _ rfl
      rw [Nat.add_zero] at c0
      have hp1 := (preF_step I R f j hjn grp').1 HB.out.2.2.2.2.2.2.1
      have he1 := HB.out.2.2.2.2.2.2.2
      rw [valF_step R f j hjn grp'] at he1
      have HP1 := Lib.hid hp1
      have HE1 := Lib.hid he1
      have HEr := Lib.hid (HE.out.only hon)
      have HSr : Hid (SV wr S (f.nth j).args (.slice ad2 (f.nth j).args.len cp2)) := Lib.hid (hsv2.far (Afar.only_ne hon (fun b h => by have := HS.out b h; omega)))
      have HCk := Lib.hid (HCh.out j hjn (f.nth j).op (f.nth j).lo (f.nth j).hi (f.nth j).g (f.nth j).st (.slice ad2 (f.nth j).args.len cp2))
      obtain ⟨Y, hY⟩ : ∃ Y, valN R (f.nth j) grp' = Y := ⟨_, rfl⟩
      have HY := Lib.hid hY
      have HC2 : Hid (∀ W, SV W S (f.nth j).args (.slice ad2 (f.nth j).args.len cp2) → GMv 103 4 1 cells_b W G grp' gv' → Env 33 65 W G X1 X3 → Calls Try.prog 65 #[.agg #[.int .i64 (f.nth j).op, .int .u64 (wd (f.nth j).st 0 64 : Nat), .int .u64 (wd (f.nth j).st 64 64 : Nat), .int .u64 (wd (f.nth j).st 128 64 : Nat), .int .u64 (wd (f.nth j).st 192 64 : Nat), .int .i64 (f.nth j).lo, .int .i64 (f.nth j).hi, .int .i64 (f.nth j).g, .slice ad2 (f.nth j).args.len cp2], .pointer (some ⟨X1, 0, none⟩), .pointer (some ⟨G, 0, none⟩), .pointer (some ⟨X3, 0, none⟩)] W fun e w' => e = .returned (.bool Y.1) ∧ (∃ gv'', GMv 103 4 1 cells_b w' G Y.2 gv'' ∧ Mov gv' gv'' W.heap.size) ∧ Only G W w') := Lib.hid (fun W h1 h2 h3 => by rw [← HY.out]; exact HCk.out W S G X1 X3 grp' gv' h1 HS.out h2 h3 HP1.out.1)
      rw [hY] at he1 hp1
      have HP2 := Lib.hid hp1.2
      have HE2 := Lib.hid he1
      clear hcell hce hrow hsv2 hSb hbl hp1 he1 hY HP1 HE1 HCk hon
      obtain ⟨yc, yG⟩ := Y
      go_wp2_with (first
        | (go_at_call 65; (with_reducible refine (HC2.out _ (HSr.out.far (Afar.below ((Below.refl _ _).alloc (Nat.le_refl _) _))) (HB.out.2.2.1.below ((Below.refl _ _).alloc (Nat.le_refl _) _)) (HEr.out.only (Only.of_below ((Below.refl _ _).alloc (Nat.le_refl _) _)))).mono ?_); rintro e w1 ⟨rfl, ⟨gv2, hg2, hm2⟩, ho2⟩
           have HG2 := Lib.hid hg2
           have HM2 := Lib.hid hm2
           have HO2 := Lib.hid ((Only.of_below (B := G) ((Below.refl wr.heap.size wr).alloc (Nat.le_refl _) _)).trans ho2)
           have HPV := Lib.hid (HB.out.2.1.only HGL.out HO2.out)
           clear hg2 hm2 ho2 c0 c1 c2 c3 c4 c5 c6 c7 c8)
        | (at_builtin; refine app1 w.heap.size 41 4 (.bool false) 1 1 Try.underlying41 info_b rfl (by decide) w1 rfl (.tmp 14) (.tmp 18) rfl (by have := HB.out.2.2.2.2.2.1.size; have := HO2.out.size; omega) (.slice rad ys.length rcap) ys.length _ (cells_b (yc, yG).1) rfl rfl HPV.out _ rfl rfl rfl ?d1 ?d2 ?d3 ?_))
      case d1 => simp [cells_b, Value.oneCell']
      case d2 => have := HB.out.1; unfold maxLen; omega
      case d3 => have := HB.out.1; omega
      intro g0 cap0 w8 ho8 hk8 hg8
      have hn8 : ∀ a b, a < 10 → (gv2 a).ownBlock = some b → (Value.slice rad ys.length rcap).ownBlock ≠ some b := fun a b ha hb e => by
        rcases HM2.out a b ha hb with h1 | h1
        · exact HB.out.2.2.2.2.1 a b ha e h1
        · have := (own_at HB.out.2.1 b e).2
          simp at h1
          omega
      have hG8 : ¬ (Value.slice rad ys.length rcap).ownBlock = some G := fun e => by have := (own_at HB.out.2.1 G e).1; have := HGL.out; omega
      have HF : Hid ((ys ++ [yc]).length = j + 1 ∧ PV 4 1 cells_b w8 w.heap.size (ys ++ [yc]) (.slice (some ⟨g0, 0, none⟩) (ys.length + 1) cap0) ∧ GMv 103 4 1 cells_b w8 G yG gv2 ∧ Mov gv gv2 w.heap.size ∧ (∀ a b, a < 10 → (Value.slice (some ⟨g0, 0, none⟩) (ys.length + 1) cap0).ownBlock = some b → (gv2 a).ownBlock ≠ some b) ∧ Only G w w8) := by
        refine Lib.hid ⟨by rw [List.length_append, HB.out.1]; rfl, ?_, HG2.out.keep hk8 hG8 (fun a b ha hb e => hn8 a b ha hb e), HB.out.2.2.2.1.trans HM2.out (by have := HB.out.2.2.2.2.2.1.size; simp; omega), ?_, ?_⟩
        · unfold PV
          rw [List.length_append, List.flatMap_append]
          have : ([yc] : List Bool).flatMap cells_b = cells_b yc := by simp
          rw [this]
          exact ho8
        · intro a b ha hb e
          have hb : some g0 = some b := hb
          cases hb
          rcases hg8 with h1 | h1
          · exact hn8 a g0 ha e h1
          · have := (own_at (HG2.out.pv a ha) g0 e).2
            omega
        · have h1 := HB.out.2.2.2.2.2.1.trans HO2.out
          exact ⟨hk8.os.trans h1.os, hk8.tape.trans h1.tape, hk8.output.trans h1.output, Nat.le_trans h1.size hk8.size, fun b hb hne => (hk8.block b (by have := h1.size; omega) (fun e => by have := (own_at HB.out.2.1 b e).1; omega)).trans (h1.block b hb hne)⟩
      clear ho8 hk8 hg8 hn8 hG8
      go_wp2_with fail
      go_roundw
      case rel => exact ⟨j + 1, ys ++ [yc], yG, gv2, by omega, by go_num, Lib.hid ⟨HF.out.1, HF.out.2.1, HF.out.2.2.1, HF.out.2.2.2.1, HF.out.2.2.2.2.1, HF.out.2.2.2.2.2, HP2.out, by rw [HE2.out, List.append_assoc]; rfl⟩⟩
      case measure => simp [intOf]; omega
    · obtain rfl : j = f.len := by omega
      have hend := HB.out.2.2.2.2.2.2.2
      rw [F.drop_len] at hend
      have hend : valF R f grp = (ys ++ [], grp') := hend
      rw [List.append_nil] at hend
      have HEnd := Lib.hid hend
      clear hend
      obtain ⟨rad, rcap, rfl⟩ := own_sl HB.out.2.1
      go_wp2_with fail
      go_ret
      rw [HEnd.out]
      exact ⟨_, rfl, HB.out.2.1, ⟨gv', HB.out.2.2.1, HB.out.2.2.2.1⟩, HB.out.2.2.2.2.2.1⟩
end Go.Proofs.Ytpfbpgbgedbalaa
