/- RxLv, RxLw, RxWd, RxTop. -/
import Derived.Test.YtphiaagppcbefaaGreatDoorPk15
import Derived.StillTailTactics
import Derived.Deep.CutRange
import Derived.Deep.Cut
import Derived.Deep.DeepCutAuto
import Derived.Test.YtphiaagppcbefaaGreatDoorPk25
import Derived.Test.YtphiaagppcbefaaGreatDoorPk31
import Derived.Test.YtphiaagppcbefaaGreatDoorPk36
set_option linter.unusedVariables false
namespace Go.Proofs.YtphiaagppcbefaaGreatDoor
open Go.RowKit
theorem lv_push (t : TN) : ∀ f : F, lvF (f.push t) = max (lvF f) (lvT t)
  | .nil => by
    show max (lvF t.args + 1) 0 = max 0 (lvT t)
    unfold lvT
    omega
  | .cons o s l h g a r => by
    show max (lvF a + 1) (lvF (r.push t)) = max (max (lvF a + 1) (lvF r)) (lvT t)
    rw [lv_push t r]
    omega
theorem lv_one (op : Int) (f : F) : lvT (oneT op f) ≤ lvF f + 1 := by
  cases f with
  | nil => exact Nat.le_refl _
  | cons o s l h g a r =>
    cases r with
    | nil =>
      show lvF a + 1 ≤ max (lvF a + 1) 0 + 1
      omega
    | cons _ _ _ _ _ _ _ => exact Nat.le_refl _
theorem lv_rep (lo hi : Int) (t : TN) : lvT (repR lo hi t) = lvT t + 1 := by
  show lvF (F.nil.push t) + 1 = lvT t + 1
  rw [lv_push]
  show max 0 (lvT t) + 1 = lvT t + 1
  omega
theorem lv_grp (g : Int) (t : TN) : lvT (grpR g t) = lvT t + 1 := by
  show lvF (F.nil.push t) + 1 = lvT t + 1
  rw [lv_push]
  show max 0 (lvT t) + 1 = lvT t + 1
  omega
theorem lv_set (st : Nat → Bool) : lvT (setR st) = 1 := rfl
theorem lv_suf (c : CX) (t : TN) (p : PS) : lvT (sufT c t p).1 ≤ lvT t + 1 := by
  unfold sufT
  split
  · show lvT (repR _ _ t) ≤ _; rw [lv_rep]; exact Nat.le_refl _
  split
  · show lvT (repR _ _ t) ≤ _; rw [lv_rep]; exact Nat.le_refl _
  split
  · show lvT (repR _ _ t) ≤ _; rw [lv_rep]; exact Nat.le_refl _
  split
  · show lvT (repR _ _ t) ≤ _; rw [lv_rep]; exact Nat.le_refl _
  · exact Nat.le_succ _
theorem lv_bac (c : CX) (v : Int) (p : PS) : lvT (bacT c v p).1 = 1 := by
  unfold bacT
  split <;> rfl
theorem lv_lop {more : PS → Bool × PS} {step : PS → TN × PS} {m : Nat} (hs : ∀ q, lvT (step q).1 ≤ m) : ∀ (n : Nat) (f : F) (p : PS), lvF f ≤ m → lvF (lopT more step n f p).1 ≤ m
  | 0, f, p, h => h
  | n + 1, f, p, h => by
    unfold lopT
    split
    · refine lv_lop hs n _ _ ?_
      rw [lv_push]
      have := hs (more p).2
      omega
    · exact h
theorem lv_joi {c : CX} {more : PS → Bool × PS} {step : PS → TN × PS} {m : Nat} (hs : ∀ q, lvT (step q).1 ≤ m) (op : Int) (p : PS) : lvT (joiT c op more step p).1 ≤ m + 1 := by
  unfold joiT
  have h1 : lvF (F.nil.push (step p).1) ≤ m := by
    rw [lv_push]
    have := hs p
    show max 0 _ ≤ m
    omega
  have h2 := lv_lop (more := more) hs (c.s.size + 1) _ (step p).2 h1
  have h3 := lv_one op (lopT more step (c.s.size + 1) (F.nil.push (step p).1) (step p).2).1
  show lvT (oneT op _) ≤ m + 1
  omega
theorem lv_pie {c : CX} {grp : PS → TN × PS} {g : Nat} (hg : ∀ q, lvT (grp q).1 ≤ g) (h1 : 1 ≤ g) (p : PS) : lvT (pieW c grp p).1 ≤ g + 1 := by
  unfold pieW
  split
  · show 1 ≤ g + 1; omega
  split
  · show 1 ≤ g + 1; omega
  split
  · have := lv_suf c (grp p).1 (grp p).2
    have := hg p
    omega
  split
  · have := lv_suf c (brkT c p).1 (brkT c p).2
    have e : lvT (brkT c p).1 = 1 := rfl
    omega
  split
  · have := lv_suf c (setR (linT c fun x => !noSet x)) (pastT c p)
    have e := lv_set (linT c fun x => !noSet x)
    omega
  split
  · have := lv_suf c (setR (foldT c (between (vlT c p).toNat (vlT c p).toNat))) (pastT c p)
    have e := lv_set (foldT c (between (vlT c p).toNat (vlT c p).toNat))
    omega
  split
  · have := lv_suf c (bacT c (vlT c p) p).1 (bacT c (vlT c p) p).2
    have e := lv_bac c (vlT c p) p
    omega
  · show 1 ≤ g + 1; omega
theorem lv_uni {c : CX} {grp : PS → TN × PS} {g : Nat} (hg : ∀ q, lvT (grp q).1 ≤ g) (h1 : 1 ≤ g) (p : PS) : lvT (uniW c grp p).1 ≤ g + 3 :=
  lv_joi (fun q => lv_joi (fun q2 => lv_pie hg h1 q2) 3 q) 4 p
theorem lv_gro (c : CX) : ∀ (n : Nat) (p : PS), lvT (groT c n p).1 ≤ 4 * n + 1
  | 0, p => Nat.le_refl _
  | n + 1, p => by
    unfold groT
    split
    · show 1 ≤ 4 * (n + 1) + 1; omega
    · simp only
      rw [lv_grp]
      have : lvT (insW c (groT c n) (begP (accT c 40 (opnP p)).2)).1 ≤ 4 * n + 4 := by
        unfold insW
        split
        · show 1 ≤ 4 * n + 4; omega
        · exact lv_uni (fun q => lv_gro c n q) (by omega) _
      omega
theorem lv_all (c : CX) (p : PS) : lvT (uniW c (groT c 10) p).1 ≤ 44 := lv_uni (fun q => lv_gro c 10 q) (by omega) p
end Go.Proofs.YtphiaagppcbefaaGreatDoor
set_option linter.unusedVariables false
namespace Go.Proofs.YtphiaagppcbefaaGreatDoor
open Go.RowKit
def F.nth : F → Nat → TN
  | .nil, _ => T0
  | .cons o s l h g a _, 0 => ⟨o, s, l, h, g, a⟩
  | .cons _ _ _ _ _ _ r, i + 1 => r.nth i
def lvN (f : F) : Nat → Nat
  | 0 => 0
  | k + 1 => max (lvN f k) (lvT (f.nth k))
theorem lvN_cons (o : Int) (s : Nat → Bool) (l h g : Int) (a r : F) : ∀ k, lvN (.cons o s l h g a r) (k + 1) = max (lvF a + 1) (lvN r k)
  | 0 => by
    show max 0 (lvF a + 1) = max (lvF a + 1) 0
    omega
  | k + 1 => by
    show max (lvN (.cons o s l h g a r) (k + 1)) (lvT (r.nth k)) = max (lvF a + 1) (max (lvN r k) (lvT (r.nth k)))
    rw [lvN_cons o s l h g a r k]
    omega
theorem lvN_all : ∀ f : F, lvN f f.len = lvF f
  | .nil => rfl
  | .cons o s l h g a r => by
    show lvN (.cons o s l h g a r) (r.len + 1) = max (lvF a + 1) (lvF r)
    rw [lvN_cons, lvN_all r]
theorem lvN_le (f : F) : ∀ k j, k ≤ j → lvN f k ≤ lvN f j
  | k, 0, h => by have : k = 0 := by omega
                  subst this; exact Nat.le_refl _
  | k, j + 1, h => by
    by_cases e : k = j + 1
    · subst e; exact Nat.le_refl _
    · have := lvN_le f k j (by omega)
      show lvN f k ≤ max (lvN f j) _
      omega
theorem lvT_le (f : F) (k : Nat) (h : k < f.len) : lvT (f.nth k) ≤ lvF f := by
  have h1 := lvN_le f (k + 1) f.len h
  rw [lvN_all] at h1
  have h2 : lvN f (k + 1) = max (lvN f k) (lvT (f.nth k)) := rfl
  omega
theorem FV.nth {w : World} {S : Nat → Prop} : ∀ {f : F} {xs : List Value} (k : Nat), FV w S f xs → k < f.len → ∃ sv, SV w S (f.nth k).args sv ∧ ∀ j u, (rowV (f.nth k).op (f.nth k).st (f.nth k).lo (f.nth k).hi (f.nth k).g sv)[j]? = some u → xs[k * 9 + j]? = some u
  | .nil, xs, k, h, hk => by cases hk
  | .cons o s l h g a r, xs, k, hx, hk => by
    obtain ⟨sv, ys, e, h1, h2⟩ := FV.cons.1 hx
    subst e
    cases k with
    | zero =>
      refine ⟨sv, h1, fun j u hu => ?_⟩
      have hj : j < 9 := by
        have := (List.getElem?_eq_some_iff.1 hu).1
        exact this
      rw [Nat.zero_mul, Nat.zero_add, List.getElem?_append_left (by exact hj)]
      exact hu
    | succ k =>
      have hk2 : k < r.len := by have : k + 1 < r.len + 1 := hk; omega
      obtain ⟨sv2, h3, h4⟩ := FV.nth k h2 hk2
      refine ⟨sv2, h3, fun j u hu => ?_⟩
      rw [List.getElem?_append_right (by show 9 ≤ _; omega)]
      have : (k + 1) * 9 + j - (rowV o s l h g sv).length = k * 9 + j := by show (k + 1) * 9 + j - 9 = _; omega
      rw [this]
      exact h4 j u hu
def widF : F → Nat
  | .nil => 0
  | .cons _ _ _ _ _ a r => max (max (widF a) a.len) (widF r)
theorem wid_nth : ∀ (f : F) (k : Nat), k < f.len → (f.nth k).args.len ≤ widF f ∧ widF (f.nth k).args ≤ widF f
  | .nil, k, h => by cases h
  | .cons o s l h g a r, 0, hk => by
    show a.len ≤ max (max (widF a) a.len) (widF r) ∧ widF a ≤ max (max (widF a) a.len) (widF r)
    omega
  | .cons o s l h g a r, k + 1, hk => by
    have := wid_nth r k (by have : k + 1 < r.len + 1 := hk; omega)
    show (r.nth k).args.len ≤ max (max (widF a) a.len) (widF r) ∧ widF (r.nth k).args ≤ max (max (widF a) a.len) (widF r)
    omega
def LevOk (f : F) : Prop := ∀ (o l h g : Int) (st : Nat → Bool) (sv : Value) (w : World) (S : Nat → Prop), SV w S f sv → lvF f + 1 ≤ 1000000 → f.len ≤ 1000000 ∧ widF f ≤ 1000000 →
  Calls Tryz.prog 25 #[.agg #[.int .i64 o, .int .u64 (wd st 0 64 : Nat), .int .u64 (wd st 64 64 : Nat), .int .u64 (wd st 128 64 : Nat), .int .u64 (wd st 192 64 : Nat), .int .i64 l, .int .i64 h, .int .i64 g, sv]] w fun e w' => e = .returned (.int .i64 ((lvF f + 1 : Nat) : Int)) ∧ Below w.heap.size w w'
set_option maxRecDepth 100000 in
set_option maxHeartbeats 8000000 in
theorem lev_node (f : F) (hch : ∀ i, i < f.len → LevOk (f.nth i).args) : LevOk f := by
  intro o l h g st sv w S hsv hb hwd
  have hfl : (f.len : Int) ≤ 1000000 := by omega
  have HW := Lib.hid hwd
  obtain ⟨zs, ad, cap, rfl, hcap, hfv, hcells⟩ := hsv
  have HCh := Lib.hid hch
  have HFV := Lib.hid hfv
  have HCe := Lib.hid hcells
  have HLv := Lib.hid hb
  have hx : Below w.heap.size w (w.alloc (.cells #[.int .i64 o, .int .u64 (wd st 0 64 : Nat), .int .u64 (wd st 64 64 : Nat), .int .u64 (wd st 128 64 : Nat), .int .u64 (wd st 192 64 : Nat), .int .i64 l, .int .i64 h, .int .i64 g, .slice ad f.len cap] 35)) := (Below.refl _ _).alloc (Nat.le_refl _) _
  have HX := Lib.hid hx
  have HAll := Lib.hid (lvN_all f)
  have HLen := Lib.hid (show f.len * 9 = zs.length from (FV.len hfv).symm)
  clear hch hfv hcells hb hx hcap hwd
  go_enter Tryz.func25, Tryz.ntmps25
  go_wp2
  go_loopw [3, 9] (fun m i wr => ∃ k : Nat, k ≤ f.len ∧ i = .int .i64 k ∧ m = .int .i64 (lvN f k) ∧ Hid (Below w.heap.size w wr)) (fun _ i _ => f.len - (intOf i).toNat)
  case atStart => exact ⟨0, Nat.zero_le _, rfl, rfl, HX.out⟩
  case round =>
    obtain ⟨k, hk, rfl, rfl, HB⟩ := hrel
    by_cases hkn : k < f.len
    · have ki : (k : Int) < f.len := by omega
      have ki0 : (0 : Int) ≤ k := by omega
      obtain ⟨b, i0, rfl, _, hbl, hce⟩ : ∃ b i, ad = some ⟨b, i, none⟩ ∧ S b ∧ b < w.heap.size ∧ ∀ j u, zs[j]? = some u → w.cell? ⟨b, i + j, none⟩ = some u := by
        rcases HCe.out with h0 | h0
        · omega
        · exact h0
      obtain ⟨sv2, hsv2, hrow⟩ := FV.nth k HFV.out hkn
      obtain ⟨ad2, cp2, rfl⟩ := slice_form hsv2
      have hcell : ∀ j u, (rowV (f.nth k).op (f.nth k).st (f.nth k).lo (f.nth k).hi (f.nth k).g (.slice ad2 (f.nth k).args.len cp2))[j]? = some u → wr.cell? ⟨b, i0 + k * 9 + j, none⟩ = some u := fun j u hu => by
        rw [HB.out.cell (by exact hbl), Nat.add_assoc]
        exact hce _ u (hrow j u hu)
      have c0 := hcell 0 _ rfl
      have c1 := hcell 1 _ rfl
      have c2 := hcell 2 _ rfl
      have c3 := hcell 3 _ rfl
      have c4 := hcell 4 _ rfl
      have c5 := hcell 5 _ rfl
      have c6 := hcell 6 _ rfl
      have c7 := hcell 7 _ rfl
      have c8 := hcell 8 _ rfl
      rw [Nat.add_zero] at c0
      have hlt := lvT_le f k hkn
      have hlk := lvN_le f k f.len hk
      rw [HAll.out] at hlk
      have HC := HCh.out k hkn
      have HL := Lib.hid (fun W (hW : SV W S (f.nth k).args (.slice ad2 (f.nth k).args.len cp2)) => HC (f.nth k).op (f.nth k).lo (f.nth k).hi (f.nth k).g (f.nth k).st _ W S hW (by have h1 : lvT (f.nth k) = lvF (f.nth k).args + 1 := rfl; have := HLv.out; omega) (by have h1 := wid_nth f k hkn; have := HW.out; omega))
      have hnx : ((lvN f (k + 1) : Nat) : Int) = max ((lvN f k : Nat) : Int) ((lvT (f.nth k) : Nat) : Int) := by
        show ((max (lvN f k) (lvT (f.nth k)) : Nat) : Int) = _
        omega
      have HNx := Lib.hid hnx
      have HS2 : Hid (SV wr S (f.nth k).args (.slice ad2 (f.nth k).args.len cp2)) := Lib.hid (hsv2.far ⟨HB.out.size, fun b' h1 h2 => ⟨h1, HB.out.block b' h2⟩⟩)
      have e1 : (lvF (f.nth k).args + 1 : Nat) = lvT (f.nth k) := rfl
      rw [e1] at HL
      clear hcell hce hrow hsv2 hlt hlk hnx e1 HC
      go_wp2_with (first
        | (go_at_call 25; refine (HL.out _ (HS2.out.far (Afar.below ((Below.refl _ _).alloc (Nat.le_refl _) _)))).mono ?_; rintro e w1 ⟨rfl, hb⟩; have HB1 := Lib.hid ((HB.out.alloc HB.out.size _).trans (hb.mono (by have := HB.out.size; simp; omega))); clear hb)
        )
      go_roundw
      case rel => exact ⟨k + 1, by omega, by go_num, by rw [HNx.out] <;> (try (congr 1; split <;> omega)), HB1.out⟩
      case measure => simp [intOf]; omega
    · obtain rfl : k = f.len := by omega
      have hl := HLv.out
      have i1 : ((lvN f f.len : Nat) : Int) ≤ 1000000 := by rw [HAll.out]; omega
      go_wp2
      go_ret
      exact ⟨by rw [HAll.out] <;> rfl, HB.out⟩
theorem lev_all : ∀ (f : F) (i : Nat), i < f.len → LevOk (f.nth i).args
  | .nil, i, h => by cases h
  | .cons o s l h g a r, 0, hi => lev_node a (lev_all a)
  | .cons o s l h g a r, i + 1, hi => lev_all r i (by have : i + 1 < r.len + 1 := hi; omega)
theorem levels_any (f : F) : LevOk f := lev_node f (lev_all f)
end Go.Proofs.YtphiaagppcbefaaGreatDoor
set_option linter.unusedVariables false
namespace Go.Proofs.YtphiaagppcbefaaGreatDoor
open Go.RowKit
def Wd (m : Nat) (t : TN) : Prop := t.args.len ≤ m ∧ widF t.args ≤ m
theorem wd_leaf {m : Nat} {t : TN} (h : t.args = .nil) : Wd m t := by
  unfold Wd
  rw [h]
  exact ⟨Nat.zero_le _, Nat.zero_le _⟩
theorem wd_push {m : Nat} {t : TN} (ht : Wd m t) : ∀ f : F, widF f ≤ m → widF (f.push t) ≤ m
  | .nil, _ => by
    show max (max (widF t.args) t.args.len) 0 ≤ m
    have h1 := ht.1
    have h2 := ht.2
    omega
  | .cons o s l h g a r, hf => by
    have h0 : max (max (widF a) a.len) (widF r) ≤ m := hf
    have h1 := wd_push ht r (by omega)
    show max (max (widF a) a.len) (widF (r.push t)) ≤ m
    omega
theorem wd_oneT {m : Nat} (op : Int) (f : F) (h1 : f.len ≤ m) (h2 : widF f ≤ m) : Wd m (oneT op f) := by
  cases f with
  | nil => exact ⟨h1, h2⟩
  | cons o s l h g a r =>
    cases r with
    | nil =>
      have h3 : max (max (widF a) a.len) 0 ≤ m := h2
      show a.len ≤ m ∧ widF a ≤ m
      omega
    | cons _ _ _ _ _ _ _ => exact ⟨h1, h2⟩
theorem wd_rep {m : Nat} (hm : 1 ≤ m) (lo hi : Int) {t : TN} (ht : Wd m t) : Wd m (repR lo hi t) := by
  refine ⟨?_, wd_push ht .nil (Nat.zero_le _)⟩
  show (F.nil.push t).len ≤ m
  rw [F.len_push]
  exact hm
theorem wd_grp {m : Nat} (hm : 1 ≤ m) (g : Int) {t : TN} (ht : Wd m t) : Wd m (grpR g t) := by
  refine ⟨?_, wd_push ht .nil (Nat.zero_le _)⟩
  show (F.nil.push t).len ≤ m
  rw [F.len_push]
  exact hm
theorem wd_suf {m : Nat} (hm : 1 ≤ m) (c : CX) {t : TN} (p : PS) (ht : Wd m t) : Wd m (sufT c t p).1 := by
  unfold sufT
  split
  · exact wd_rep hm _ _ ht
  split
  · exact wd_rep hm _ _ ht
  split
  · exact wd_rep hm _ _ ht
  split
  · exact wd_rep hm _ _ ht
  · exact ht
theorem wd_bac {m : Nat} (c : CX) (v : Int) (p : PS) : Wd m (bacT c v p).1 := by
  unfold bacT
  split <;> exact wd_leaf rfl
theorem wd_lop {more : PS → Bool × PS} {step : PS → TN × PS} {m : Nat} (hs : ∀ q, Wd m (step q).1) : ∀ (n : Nat) (f : F) (p : PS), widF f ≤ m → f.len + n ≤ m → (lopT more step n f p).1.len ≤ m ∧ widF (lopT more step n f p).1 ≤ m
  | 0, f, p, h, hl => ⟨hl, h⟩
  | n + 1, f, p, h, hl => by
    unfold lopT
    split
    · refine wd_lop hs n _ _ (wd_push (hs _) f h) ?_
      rw [F.len_push]
      omega
    · exact ⟨by show f.len ≤ m; omega, h⟩
theorem wd_joi {c : CX} {more : PS → Bool × PS} {step : PS → TN × PS} {m : Nat} (hm : c.s.size + 2 ≤ m) (hs : ∀ q, Wd m (step q).1) (op : Int) (p : PS) : Wd m (joiT c op more step p).1 := by
  unfold joiT
  have h1 : widF (F.nil.push (step p).1) ≤ m := wd_push (hs p) .nil (Nat.zero_le _)
  have h2 := wd_lop (more := more) hs (c.s.size + 1) (F.nil.push (step p).1) (step p).2 h1 (by rw [F.len_push]; show 0 + 1 + (c.s.size + 1) ≤ m; omega)
  exact wd_oneT op _ h2.1 h2.2
theorem wd_pie {c : CX} {grp : PS → TN × PS} {m : Nat} (hm : 1 ≤ m) (hg : ∀ q, Wd m (grp q).1) (p : PS) : Wd m (pieW c grp p).1 := by
  unfold pieW
  split
  · exact wd_leaf rfl
  split
  · exact wd_leaf rfl
  split
  · exact wd_suf hm c _ (hg p)
  split
  · exact wd_suf hm c _ (wd_leaf rfl)
  split
  · exact wd_suf hm c _ (wd_leaf rfl)
  split
  · exact wd_suf hm c _ (wd_leaf rfl)
  split
  · exact wd_suf hm c _ (wd_bac c _ p)
  · exact wd_leaf rfl
theorem wd_uni {c : CX} {grp : PS → TN × PS} {m : Nat} (hm : c.s.size + 2 ≤ m) (hg : ∀ q, Wd m (grp q).1) (p : PS) : Wd m (uniW c grp p).1 :=
  wd_joi hm (fun q => wd_joi hm (fun q2 => wd_pie (by omega) hg q2) 3 q) 4 p
theorem wd_gro {c : CX} {m : Nat} (hm : c.s.size + 2 ≤ m) : ∀ (n : Nat) (p : PS), Wd m (groT c n p).1
  | 0, p => wd_leaf rfl
  | n + 1, p => by
    unfold groT
    split
    · exact wd_leaf rfl
    · simp only
      refine wd_grp (by omega) _ ?_
      unfold insW
      split
      · exact wd_leaf rfl
      · exact wd_uni hm (fun q => wd_gro hm n q) _
theorem wd_all {c : CX} {m : Nat} (hm : c.s.size + 2 ≤ m) (p : PS) : Wd m (uniW c (groT c 10) p).1 := wd_uni hm (fun q => wd_gro hm 10 q) p
end Go.Proofs.YtphiaagppcbefaaGreatDoor
set_option linter.unusedVariables false
namespace Go.Proofs.YtphiaagppcbefaaGreatDoor
open Go.RowKit
theorem union_top (W : World) (B : Nat) (c : CX) (V : LV) (h : PM W B c V PS0) :
    Calls Tryz.prog 24 #[.pointer (some ⟨B, 0, none⟩)] W (Ret W B c V (uniW c (groT c 10) PS0)) :=
  union_any_rx W B c V PS0 h 10 (groT c 10) (gro_ok c 10) (Nat.le_refl 10) (Lib.hid (all_any B c V (Lib.hid fun W q hq hk => bracket_any W B c V q hq hk) 10))
end Go.Proofs.YtphiaagppcbefaaGreatDoor
