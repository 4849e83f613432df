/- RxLv, RxLw, RxPl, RxCap, RxStB. -/
import Derived.Test.YtphiaagppcbefaaGreatDoorPs12
import Derived.StillTailTactics
import Derived.Deep.CutRange
import Derived.Deep.Cut
import Derived.Deep.DeepCutAuto
import Derived.Test.YtphiaagppcbefaaGreatDoorPs22
import Derived.Test.YtphiaagppcbefaaGreatDoorPs1
import Derived.Test.YtphiaagppcbefaaGreatDoorPs4
import Derived.Test.YtphiaagppcbefaaGreatDoorPs7
import Derived.Test.YtphiaagppcbefaaGreatDoorPs23
set_option linter.unusedVariables false
namespace Go.Proofs.YtphiaagppcbefaaGreatDoor
open Go.RowKit
theorem lv_push (t : TN) : ∀ f : F, lvF (f.push t) = max (lvF f) (lvT t)
  | .nil => by
    show max (lvF t.args + 1) 0 = max 0 (lvT t)
    unfold lvT
    omega
  | .cons o s l h g a r => by
    show max (lvF a + 1) (lvF (r.push t)) = max (max (lvF a + 1) (lvF r)) (lvT t)
    rw [lv_push t r]
    omega
theorem lv_one (op : Int) (f : F) : lvT (oneT op f) ≤ lvF f + 1 := by
  cases f with
  | nil => exact Nat.le_refl _
  | cons o s l h g a r =>
    cases r with
    | nil =>
      show lvF a + 1 ≤ max (lvF a + 1) 0 + 1
      omega
    | cons _ _ _ _ _ _ _ => exact Nat.le_refl _
theorem lv_rep (lo hi : Int) (t : TN) : lvT (repR lo hi t) = lvT t + 1 := by
  show lvF (F.nil.push t) + 1 = lvT t + 1
  rw [lv_push]
  show max 0 (lvT t) + 1 = lvT t + 1
  omega
theorem lv_grp (g : Int) (t : TN) : lvT (grpR g t) = lvT t + 1 := by
  show lvF (F.nil.push t) + 1 = lvT t + 1
  rw [lv_push]
  show max 0 (lvT t) + 1 = lvT t + 1
  omega
theorem lv_set (st : Nat → Bool) : lvT (setR st) = 1 := rfl
theorem lv_suf (c : CX) (t : TN) (p : PS) : lvT (sufT c t p).1 ≤ lvT t + 1 := by
  unfold sufT
  split
  · show lvT (repR _ _ t) ≤ _; rw [lv_rep]; exact Nat.le_refl _
  split
  · show lvT (repR _ _ t) ≤ _; rw [lv_rep]; exact Nat.le_refl _
  split
  · show lvT (repR _ _ t) ≤ _; rw [lv_rep]; exact Nat.le_refl _
  split
  · show lvT (repR _ _ t) ≤ _; rw [lv_rep]; exact Nat.le_refl _
  · exact Nat.le_succ _
theorem lv_bac (c : CX) (v : Int) (p : PS) : lvT (bacT c v p).1 = 1 := by
  unfold bacT
  split <;> rfl
theorem lv_lop {more : PS → Bool × PS} {step : PS → TN × PS} {m : Nat} (hs : ∀ q, lvT (step q).1 ≤ m) : ∀ (n : Nat) (f : F) (p : PS), lvF f ≤ m → lvF (lopT more step n f p).1 ≤ m
  | 0, f, p, h => h
  | n + 1, f, p, h => by
    unfold lopT
    split
    · refine lv_lop hs n _ _ ?_
      rw [lv_push]
      have := hs (more p).2
      omega
    · exact h
theorem lv_joi {c : CX} {more : PS → Bool × PS} {step : PS → TN × PS} {m : Nat} (hs : ∀ q, lvT (step q).1 ≤ m) (op : Int) (p : PS) : lvT (joiT c op more step p).1 ≤ m + 1 := by
  unfold joiT
  have h1 : lvF (F.nil.push (step p).1) ≤ m := by
    rw [lv_push]
    have := hs p
    show max 0 _ ≤ m
    omega
  have h2 := lv_lop (more := more) hs (c.s.size + 1) _ (step p).2 h1
  have h3 := lv_one op (lopT more step (c.s.size + 1) (F.nil.push (step p).1) (step p).2).1
  show lvT (oneT op _) ≤ m + 1
  omega
theorem lv_pie {c : CX} {grp : PS → TN × PS} {g : Nat} (hg : ∀ q, lvT (grp q).1 ≤ g) (h1 : 1 ≤ g) (p : PS) : lvT (pieW c grp p).1 ≤ g + 1 := by
  unfold pieW
  split
  · show 1 ≤ g + 1; omega
  split
  · show 1 ≤ g + 1; omega
  split
  · have := lv_suf c (grp p).1 (grp p).2
    have := hg p
    omega
  split
  · have := lv_suf c (brkT c p).1 (brkT c p).2
    have e : lvT (brkT c p).1 = 1 := rfl
    omega
  split
  · have := lv_suf c (setR (linT c fun x => !noSet x)) (pastT c p)
    have e := lv_set (linT c fun x => !noSet x)
    omega
  split
  · have := lv_suf c (setR (foldT c (between (vlT c p).toNat (vlT c p).toNat))) (pastT c p)
    have e := lv_set (foldT c (between (vlT c p).toNat (vlT c p).toNat))
    omega
  split
  · have := lv_suf c (bacT c (vlT c p) p).1 (bacT c (vlT c p) p).2
    have e := lv_bac c (vlT c p) p
    omega
  · show 1 ≤ g + 1; omega
theorem lv_uni {c : CX} {grp : PS → TN × PS} {g : Nat} (hg : ∀ q, lvT (grp q).1 ≤ g) (h1 : 1 ≤ g) (p : PS) : lvT (uniW c grp p).1 ≤ g + 3 :=
  lv_joi (fun q => lv_joi (fun q2 => lv_pie hg h1 q2) 3 q) 4 p
theorem lv_gro (c : CX) : ∀ (n : Nat) (p : PS), lvT (groT c n p).1 ≤ 4 * n + 1
  | 0, p => Nat.le_refl _
  | n + 1, p => by
    unfold groT
    split
    · show 1 ≤ 4 * (n + 1) + 1; omega
    · simp only
      rw [lv_grp]
      have : lvT (insW c (groT c n) (begP (accT c 40 (opnP p)).2)).1 ≤ 4 * n + 4 := by
        unfold insW
        split
        · show 1 ≤ 4 * n + 4; omega
        · exact lv_uni (fun q => lv_gro c n q) (by omega) _
      omega
theorem lv_all (c : CX) (p : PS) : lvT (uniW c (groT c 10) p).1 ≤ 44 := lv_uni (fun q => lv_gro c 10 q) (by omega) p
end Go.Proofs.YtphiaagppcbefaaGreatDoor
set_option linter.unusedVariables false
namespace Go.Proofs.YtphiaagppcbefaaGreatDoor
open Go.RowKit
def F.nth : F → Nat → TN
  | .nil, _ => T0
  | .cons o s l h g a _, 0 => ⟨o, s, l, h, g, a⟩
  | .cons _ _ _ _ _ _ r, i + 1 => r.nth i
def lvN (f : F) : Nat → Nat
  | 0 => 0
  | k + 1 => max (lvN f k) (lvT (f.nth k))
theorem lvN_cons (o : Int) (s : Nat → Bool) (l h g : Int) (a r : F) : ∀ k, lvN (.cons o s l h g a r) (k + 1) = max (lvF a + 1) (lvN r k)
  | 0 => by
    show max 0 (lvF a + 1) = max (lvF a + 1) 0
    omega
  | k + 1 => by
    show max (lvN (.cons o s l h g a r) (k + 1)) (lvT (r.nth k)) = max (lvF a + 1) (max (lvN r k) (lvT (r.nth k)))
    rw [lvN_cons o s l h g a r k]
    omega
theorem lvN_all : ∀ f : F, lvN f f.len = lvF f
  | .nil => rfl
  | .cons o s l h g a r => by
    show lvN (.cons o s l h g a r) (r.len + 1) = max (lvF a + 1) (lvF r)
    rw [lvN_cons, lvN_all r]
theorem lvN_le (f : F) : ∀ k j, k ≤ j → lvN f k ≤ lvN f j
  | k, 0, h => by have : k = 0 := by omega
                  subst this; exact Nat.le_refl _
  | k, j + 1, h => by
    by_cases e : k = j + 1
    · subst e; exact Nat.le_refl _
    · have := lvN_le f k j (by omega)
      show lvN f k ≤ max (lvN f j) _
      omega
theorem lvT_le (f : F) (k : Nat) (h : k < f.len) : lvT (f.nth k) ≤ lvF f := by
  have h1 := lvN_le f (k + 1) f.len h
  rw [lvN_all] at h1
  have h2 : lvN f (k + 1) = max (lvN f k) (lvT (f.nth k)) := rfl
  omega
theorem FV.nth {w : World} {S : Nat → Prop} : ∀ {f : F} {xs : List Value} (k : Nat), FV w S f xs → k < f.len → ∃ sv, SV w S (f.nth k).args sv ∧ ∀ j u, (rowV (f.nth k).op (f.nth k).st (f.nth k).lo (f.nth k).hi (f.nth k).g sv)[j]? = some u → xs[k * 9 + j]? = some u
  | .nil, xs, k, h, hk => by cases hk
  | .cons o s l h g a r, xs, k, hx, hk => by
    obtain ⟨sv, ys, e, h1, h2⟩ := FV.cons.1 hx
    subst e
    cases k with
    | zero =>
      refine ⟨sv, h1, fun j u hu => ?_⟩
      have hj : j < 9 := by
        have := (List.getElem?_eq_some_iff.1 hu).1
        exact this
      rw [Nat.zero_mul, Nat.zero_add, List.getElem?_append_left (by exact hj)]
      exact hu
    | succ k =>
      have hk2 : k < r.len := by have : k + 1 < r.len + 1 := hk; omega
      obtain ⟨sv2, h3, h4⟩ := FV.nth k h2 hk2
      refine ⟨sv2, h3, fun j u hu => ?_⟩
      rw [List.getElem?_append_right (by show 9 ≤ _; omega)]
      have : (k + 1) * 9 + j - (rowV o s l h g sv).length = k * 9 + j := by show (k + 1) * 9 + j - 9 = _; omega
      rw [this]
      exact h4 j u hu
def widF : F → Nat
  | .nil => 0
  | .cons _ _ _ _ _ a r => max (max (widF a) a.len) (widF r)
theorem wid_nth : ∀ (f : F) (k : Nat), k < f.len → (f.nth k).args.len ≤ widF f ∧ widF (f.nth k).args ≤ widF f
  | .nil, k, h => by cases h
  | .cons o s l h g a r, 0, hk => by
    show a.len ≤ max (max (widF a) a.len) (widF r) ∧ widF a ≤ max (max (widF a) a.len) (widF r)
    omega
  | .cons o s l h g a r, k + 1, hk => by
    have := wid_nth r k (by have : k + 1 < r.len + 1 := hk; omega)
    show (r.nth k).args.len ≤ max (max (widF a) a.len) (widF r) ∧ widF (r.nth k).args ≤ max (max (widF a) a.len) (widF r)
    omega
def LevOk (f : F) : Prop := ∀ (o l h g : Int) (st : Nat → Bool) (sv : Value) (w : World) (S : Nat → Prop), SV w S f sv → lvF f + 1 ≤ 1000000 → f.len ≤ 1000000 ∧ widF f ≤ 1000000 →
  Calls Tryz.prog 25 #[.agg #[.int .i64 o, .int .u64 (wd st 0 64 : Nat), .int .u64 (wd st 64 64 : Nat), .int .u64 (wd st 128 64 : Nat), .int .u64 (wd st 192 64 : Nat), .int .i64 l, .int .i64 h, .int .i64 g, sv]] w fun e w' => e = .returned (.int .i64 ((lvF f + 1 : Nat) : Int)) ∧ Below w.heap.size w w'
set_option maxRecDepth 100000 in
set_option maxHeartbeats 8000000 in
theorem lev_node (f : F) (hch : ∀ i, i < f.len → LevOk (f.nth i).args) : LevOk f := by
  intro o l h g st sv w S hsv hb hwd
  have hfl : (f.len : Int) ≤ 1000000 := by omega
  have HW := Lib.hid hwd
  obtain ⟨zs, ad, cap, rfl, hcap, hfv, hcells⟩ := hsv
  have HCh := Lib.hid hch
  have HFV := Lib.hid hfv
  have HCe := Lib.hid hcells
  have HLv := Lib.hid hb
  have hx : Below w.heap.size w (w.alloc (.cells #[.int .i64 o, .int .u64 (wd st 0 64 : Nat), .int .u64 (wd st 64 64 : Nat), .int .u64 (wd st 128 64 : Nat), .int .u64 (wd st 192 64 : Nat), .int .i64 l, .int .i64 h, .int .i64 g, .slice ad f.len cap] 35)) := (Below.refl _ _).alloc (Nat.le_refl _) _
  have HX := Lib.hid hx
  have HAll := Lib.hid (lvN_all f)
  have HLen := Lib.hid (show f.len * 9 = zs.length from (FV.len hfv).symm)
  clear hch hfv hcells hb hx hcap hwd
  go_enter Tryz.func25, Tryz.ntmps25
  go_wp2
  go_loopw [3, 9] (fun m i wr => ∃ k : Nat, k ≤ f.len ∧ i = .int .i64 k ∧ m = .int .i64 (lvN f k) ∧ Hid (Below w.heap.size w wr)) (fun _ i _ => f.len - (intOf i).toNat)
  case atStart => exact ⟨0, Nat.zero_le _, rfl, rfl, HX.out⟩
  case round =>
    obtain ⟨k, hk, rfl, rfl, HB⟩ := hrel
    by_cases hkn : k < f.len
    · have ki : (k : Int) < f.len := by omega
      have ki0 : (0 : Int) ≤ k := by omega
      obtain ⟨b, i0, rfl, _, hbl, hce⟩ : ∃ b i, ad = some ⟨b, i, none⟩ ∧ S b ∧ b < w.heap.size ∧ ∀ j u, zs[j]? = some u → w.cell? ⟨b, i + j, none⟩ = some u := by
        rcases HCe.out with h0 | h0
        · omega
        · exact h0
      obtain ⟨sv2, hsv2, hrow⟩ := FV.nth k HFV.out hkn
      obtain ⟨ad2, cp2, rfl⟩ := slice_form hsv2
      have hcell : ∀ j u, (rowV (f.nth k).op (f.nth k).st (f.nth k).lo (f.nth k).hi (f.nth k).g (.slice ad2 (f.nth k).args.len cp2))[j]? = some u → wr.cell? ⟨b, i0 + k * 9 + j, none⟩ = some u := fun j u hu => by
        rw [HB.out.cell (by exact hbl), Nat.add_assoc]
        exact hce _ u (hrow j u hu)
      have c0 := hcell 0 _ rfl
      have c1 := hcell 1 _ rfl
      have c2 := hcell 2 _ rfl
      have c3 := hcell 3 _ rfl
      have c4 := hcell 4 _ rfl
      have c5 := hcell 5 _ rfl
      have c6 := hcell 6 _ rfl
      have c7 := hcell 7 _ rfl
      have c8 := hcell 8 _ rfl
      rw [Nat.add_zero] at c0
      have hlt := lvT_le f k hkn
      have hlk := lvN_le f k f.len hk
      rw [HAll.out] at hlk
      have HC := HCh.out k hkn
      have HL := Lib.hid (fun W (hW : SV W S (f.nth k).args (.slice ad2 (f.nth k).args.len cp2)) => HC (f.nth k).op (f.nth k).lo (f.nth k).hi (f.nth k).g (f.nth k).st _ W S hW (by have h1 : lvT (f.nth k) = lvF (f.nth k).args + 1 := rfl; have := HLv.out; omega) (by have h1 := wid_nth f k hkn; have := HW.out; omega))
      have hnx : ((lvN f (k + 1) : Nat) : Int) = max ((lvN f k : Nat) : Int) ((lvT (f.nth k) : Nat) : Int) := by
        show ((max (lvN f k) (lvT (f.nth k)) : Nat) : Int) = _
        omega
      have HNx := Lib.hid hnx
      have HS2 : Hid (SV wr S (f.nth k).args (.slice ad2 (f.nth k).args.len cp2)) := Lib.hid (hsv2.far ⟨HB.out.size, fun b' h1 h2 => ⟨h1, HB.out.block b' h2⟩⟩)
      have e1 : (lvF (f.nth k).args + 1 : Nat) = lvT (f.nth k) := rfl
      rw [e1] at HL
      clear hcell hce hrow hsv2 hlt hlk hnx e1 HC
      go_wp2_with (first
        | (go_at_call 25; refine (HL.out _ (HS2.out.far (Afar.below ((Below.refl _ _).alloc (Nat.le_refl _) _)))).mono ?_; rintro e w1 ⟨rfl, hb⟩; have HB1 := Lib.hid ((HB.out.alloc HB.out.size _).trans (hb.mono (by have := HB.out.size; simp; omega))); clear hb)
        )
      go_roundw
      case rel => exact ⟨k + 1, by omega, by go_num, by rw [HNx.out] <;> (try (congr 1; split <;> omega)), HB1.out⟩
      case measure => simp [intOf]; omega
    · obtain rfl : k = f.len := by omega
      have hl := HLv.out
      have i1 : ((lvN f f.len : Nat) : Int) ≤ 1000000 := by rw [HAll.out]; omega
      go_wp2
      go_ret
      exact ⟨by rw [HAll.out] <;> rfl, HB.out⟩
theorem lev_all : ∀ (f : F) (i : Nat), i < f.len → LevOk (f.nth i).args
  | .nil, i, h => by cases h
  | .cons o s l h g a r, 0, hi => lev_node a (lev_all a)
  | .cons o s l h g a r, i + 1, hi => lev_all r i (by have : i + 1 < r.len + 1 := hi; omega)
theorem levels_any (f : F) : LevOk f := lev_node f (lev_all f)
end Go.Proofs.YtphiaagppcbefaaGreatDoor
set_option linter.unusedVariables false
namespace Go.Proofs.YtphiaagppcbefaaGreatDoor
open Go.RowKit
theorem pk_in {s : ByteArray} {i : Nat} (h : i < s.size) : pkT s i = ((gb s i).toNat : Int) := by unfold pkT; rw [if_pos h]
theorem pk_out {s : ByteArray} {i : Nat} (h : s.size ≤ i) : pkT s i = -1 := by unfold pkT; rw [if_neg (by omega)]
theorem tk_out {c : CX} (p : PS) (h : c.s.size ≤ p.at_) : tokT c p = (-1, 0, 1) := by
  unfold tokT
  rw [pk_out h, if_pos rfl]
section
variable {s u : ByteArray} {fl : Int} {L : Loc}
end
end Go.Proofs.YtphiaagppcbefaaGreatDoor
set_option linter.unusedVariables false
namespace Go.Proofs.YtphiaagppcbefaaGreatDoor
open Go.RowKit
theorem ext_data (s : ByteArray) (a b : Nat) : (s.extract a b).data.toList = (s.data.toList.drop a).take (b - a) := by
  simp [ByteArray.data_extract, Array.toList_extract, List.extract_eq_take_drop]
theorem gb_list (s : ByteArray) (i : Nat) : s.data.toList[i]? = if i < s.size then some (gb s i) else none := by
  split
  · rename_i h
    rw [gb_at s i h, Array.getElem?_toList, Array.getElem?_eq_getElem (by exact h)]
    rfl
  · rename_i h
    rw [Array.getElem?_toList, Array.getElem?_eq_none (by exact Nat.le_of_not_lt h)]
theorem el_one (n : Nat) (h : n < 256) : el (between n n) 256 = [n] := by
  have h1 : el (between n n) n = [] := by
    have := el_none (between n n) 0 n (fun k _ hk => by unfold between; rw [decide_eq_false (show ¬ n ≤ k by omega)]; rfl)
    rw [Nat.zero_add] at this
    rw [this]
    rfl
  have h2 : el (between n n) (n + 1) = [n] := by
    rw [el_succ, h1, if_pos (by unfold between; simp)]
    rfl
  have h3 := el_none (between n n) (n + 1) (255 - n) (fun k hk _ => by unfold between; rw [decide_eq_false (show ¬ k ≤ n by omega)]; exact Bool.and_false _)
  rw [show n + 1 + (255 - n) = 256 by omega] at h3
  rw [h3, h2]
theorem ofNat_lt {n : Nat} (h : n < 256) : (UInt8.ofNat n).toNat = n := by rw [UInt8.toNat_ofNat']; omega
section
variable {s u : ByteArray} {fl : Int} {L : Loc}
end
end Go.Proofs.YtphiaagppcbefaaGreatDoor
set_option linter.unusedVariables false
namespace Go.Proofs.YtphiaagppcbefaaGreatDoor
open Go.RowKit
structure Pre (s t : ByteArray) (m : Nat) : Prop where
  size : t.size = m
  le : m ≤ s.size
  eq : ∀ i, i < m → gb t i = gb s i
def Lat (k : Nat) (q : PS) : Prop := (q.err = 0 ∧ k ≤ q.at_) ∨ (q.err ≠ 0 ∧ (q.err = 1 → k ≤ q.ea))
theorem Lat.mr {c : CX} {k : Nat} {p q : PS} (h : Lat k p) (r : MR c p q) : Lat k q := by
  rcases h with ⟨h1, h2⟩ | ⟨h1, h2⟩
  · rcases r.fr h1 with h3 | ⟨h3, h4, h5⟩
    · exact .inl ⟨h3, Nat.le_trans h2 r.a⟩
    · exact .inr ⟨h3, fun e => Nat.le_trans h2 (h5 e)⟩
  · obtain ⟨h3, h4⟩ := r.kp h1
    exact .inr ⟨by rw [h3]; exact h1, fun e => by rw [h4]; exact h2 (by rw [← h3]; exact e)⟩
theorem Lat.of {c : CX} {k : Nat} {p q : PS} (h0 : p.err = 0) (hk : k ≤ p.at_) (r : MR c p q) : Lat k q := Lat.mr (.inl ⟨h0, hk⟩) r
theorem Lat.le {k j : Nat} {q : PS} (h : Lat k q) (hj : j ≤ k) : Lat j q := by
  rcases h with ⟨h1, h2⟩ | ⟨h1, h2⟩
  · exact .inl ⟨h1, by omega⟩
  · exact .inr ⟨h1, fun e => Nat.le_trans hj (h2 e)⟩
def Lx (m : Nat) (q : PS) : Prop := q.err = 1 ∧ q.ea = m
def Ld (m : Nat) (q : PS) : Prop := (q.err = 0 ∧ q.at_ = m) ∨ Lx m q
theorem Lx.mr {c : CX} {m : Nat} {p q : PS} (h : Lx m p) (r : MR c p q) : Lx m q := by
  obtain ⟨h1, h2⟩ := r.kp (by rw [h.1]; decide)
  exact ⟨h1.trans h.1, h2.trans h.2⟩
def RV {α : Type} (G : PS → Prop) (m : Nat) (r r' : α × PS) : Prop :=
  (r' = r ∧ r.2.err = 0 ∧ r.2.at_ ≤ m) ∨ (r.2.err ≠ 0 ∧ r'.2.err = r.2.err ∧ r'.2.ea = r.2.ea) ∨ (Lat m r.2 ∧ G r'.2) ∨ Lat (m + 1) r.2
abbrev RX {α : Type} (m : Nat) (r r' : α × PS) : Prop := RV (Lx m) m r r'
abbrev RD {α : Type} (m : Nat) (r r' : α × PS) : Prop := RV (Ld m) m r r'
theorem RV.wide {α : Type} {m : Nat} {r r' : α × PS} (h : RX m r r') : RD m r r' := by
  rcases h with h | h | h | h
  · exact .inl h
  · exact .inr (.inl h)
  · exact .inr (.inr (.inl ⟨h.1, .inr h.2⟩))
  · exact .inr (.inr (.inr h))
theorem RV.map {α β : Type} {G : PS → Prop} {m : Nat} {r r' : α × PS} (h : RV G m r r') (f : α → β) : RV G m (f r.1, r.2) (f r'.1, r'.2) := by
  rcases h with ⟨h, h2⟩ | h | h | h
  · exact .inl ⟨by rw [h], h2⟩
  · exact .inr (.inl h)
  · exact .inr (.inr (.inl h))
  · exact .inr (.inr (.inr h))
theorem RV.same {α : Type} {G : PS → Prop} {m : Nat} {r : α × PS} (h0 : r.2.err = 0) (hm : r.2.at_ ≤ m) : RV G m r r := .inl ⟨rfl, h0, hm⟩
theorem RV.step {α β : Type} {G : PS → Prop} {m : Nat} {C D : CX} {r r' : α × PS} {q q' : β × PS} (hG : ∀ x, Lx m x → G x) (hC : MR C r.2 q.2) (hD : MR D r'.2 q'.2) (hM : r'.2.err = 0 → r'.2.at_ = m → G q'.2)
    (hA : r' = r → r.2.err = 0 → r.2.at_ < m → RV G m q q') (h : RD m r r') : RV G m q q' := by
  rcases h with ⟨h, h0, h1⟩ | ⟨h0, h1, h2⟩ | ⟨h1, h2⟩ | h
  · by_cases hm : r.2.at_ < m
    · exact hA h h0 hm
    · exact .inr (.inr (.inl ⟨Lat.of h0 (by omega) hC, hM (by rw [h]; exact h0) (by rw [h]; omega)⟩))
  · obtain ⟨a1, a2⟩ := hC.kp h0
    obtain ⟨b1, b2⟩ := hD.kp (by rw [h1]; exact h0)
    exact .inr (.inl ⟨by rw [a1]; exact h0, by rw [b1, a1, h1], by rw [b2, a2, h2]⟩)
  · refine .inr (.inr (.inl ⟨h1.mr hC, ?_⟩))
    rcases h2 with ⟨h2, h3⟩ | h2
    · exact hM h2 h3
    · exact hG _ (h2.mr hD)
  · exact .inr (.inr (.inr (h.mr hC)))
theorem RV.stepx {α β : Type} {G : PS → Prop} {m : Nat} {C D : CX} {r r' : α × PS} {q q' : β × PS} (hG : ∀ x, Lx m x → G x) (hC : MR C r.2 q.2) (hD : MR D r'.2 q'.2)
    (hA : r' = r → r.2.err = 0 → r.2.at_ ≤ m → RV G m q q') (h : RX m r r') : RV G m q q' := by
  rcases h with ⟨h, h0, h1⟩ | ⟨h0, h1, h2⟩ | ⟨h1, h2⟩ | h
  · exact hA h h0 h1
  · obtain ⟨a1, a2⟩ := hC.kp h0
    obtain ⟨b1, b2⟩ := hD.kp (by rw [h1]; exact h0)
    exact .inr (.inl ⟨by rw [a1]; exact h0, by rw [b1, a1, h1], by rw [b2, a2, h2]⟩)
  · exact .inr (.inr (.inl ⟨h1.mr hC, hG _ (h2.mr hD)⟩))
  · exact .inr (.inr (.inr (h.mr hC)))
theorem lx_ld {m : Nat} : ∀ x, Lx m x → Ld m x := fun _ h => .inr h
theorem lx_lx {m : Nat} : ∀ x, Lx m x → Lx m x := fun _ h => h
theorem RV.fail {α : Type} {G : PS → Prop} {m : Nat} {C D : CX} {x y : α} {p : PS} (h0 : p.err = 0) (e : Int) (he : e ≠ 0) (i : Nat) : RV G m (x, failT C p e i) (y, failT D p e i) := by
  refine .inr (.inl ?_)
  unfold failT
  rw [if_pos h0, if_pos h0]
  exact ⟨he, rfl, rfl⟩
theorem lx_fail {D : CX} {p : PS} (h0 : p.err = 0) (m : Nat) (hm : p.at_ = m) : Lx m (failT D p 1 p.at_) := by
  unfold failT
  rw [if_pos h0]
  exact ⟨rfl, hm⟩
section
variable {s t : ByteArray} {m : Nat} {fl : Int} {L : Loc}
theorem Pre.pk (hp : Pre s t m) {i : Nat} (h : i < m) : pkT t i = pkT s i := by
  rw [pk_in (by rw [hp.size]; exact h), pk_in (by have := hp.le; omega), hp.eq i h]
theorem Pre.no (hp : Pre s t m) {i : Nat} (h : m ≤ i) : pkT t i = -1 := pk_out (by rw [hp.size]; exact h)
theorem Pre.ext (hp : Pre s t m) (a b : Nat) (hb : b ≤ m) : t.extract a b = s.extract a b := by
  have h : (t.extract a b).data.toList = (s.extract a b).data.toList := by
    rw [ext_data, ext_data]
    apply List.ext_getElem?
    intro j
    rw [List.getElem?_take, List.getElem?_take, List.getElem?_drop, List.getElem?_drop, gb_list, gb_list, hp.size]
    by_cases hj : j < b - a
    · rw [if_pos hj, if_pos hj]
      have := hp.le
      rw [if_pos (by omega), if_pos (by omega), hp.eq (a + j) (by omega)]
    · rw [if_neg hj, if_neg hj]
  rw [← Lib.mk_data (t.extract a b), ← Lib.mk_data (s.extract a b), h]
theorem exp_end (hp : Pre s t m) (x : Int) (hx : 0 ≤ x) {p : PS} (h0 : p.err = 0) (hm : p.at_ = m) : Lx m (expT ⟨t, fl, L⟩ x p) := by
  unfold expT
  rw [if_neg (by show ¬ pkT t p.at_ = x; rw [hp.no (by omega)]; omega)]
  exact lx_fail h0 m hm
theorem rv_exp (hp : Pre s t m) (x : Int) (hx : 0 ≤ x) {p p' : PS} (gC : Gd ⟨s, fl, L⟩ p) (gD : Gd ⟨t, fl, L⟩ p') (h : RD m ((), p) ((), p')) : RX m ((), expT ⟨s, fl, L⟩ x p) ((), expT ⟨t, fl, L⟩ x p') := by
  refine RV.step lx_lx (mr_exp gC x hx) (mr_exp gD x hx) (exp_end hp x hx) (fun e h0 hm => ?_) h
  obtain rfl : p' = p := congrArg Prod.snd e
  unfold expT
  have hk : pkT t p'.at_ = pkT s p'.at_ := hp.pk hm
  show RX m ((), if pkT s p'.at_ = x then _ else _) ((), if pkT t p'.at_ = x then _ else _)
  rw [hk]
  split
  · exact RV.same h0 hm
  · exact RV.fail h0 1 (by decide) _
theorem any_end (hp : Pre s t m) {p : PS} (h0 : p.err = 0) (hm : p.at_ = m) : Lx m (anyT ⟨t, fl, L⟩ p).2 ∧ (anyT ⟨t, fl, L⟩ p).1 = 0 := by
  unfold anyT
  rw [if_pos (show pkT t p.at_ = -1 from hp.no (by omega))]
  exact ⟨lx_fail h0 m hm, rfl⟩
theorem rv_any (hp : Pre s t m) {p p' : PS} (gC : Gd ⟨s, fl, L⟩ p) (gD : Gd ⟨t, fl, L⟩ p') (h : RD m ((), p) ((), p')) : RX m (anyT ⟨s, fl, L⟩ p) (anyT ⟨t, fl, L⟩ p') := by
  refine RV.step lx_lx (mr_any gC) (mr_any gD) (fun a b => (any_end hp a b).1) (fun e h0 hm => ?_) h
  obtain rfl : p' = p := congrArg Prod.snd e
  unfold anyT
  have hk : pkT t p'.at_ = pkT s p'.at_ := hp.pk hm
  show RX m (if pkT s p'.at_ = -1 then _ else (pkT s p'.at_, _)) (if pkT t p'.at_ = -1 then _ else (pkT t p'.at_, _))
  rw [hk]
  split
  · exact RV.fail h0 1 (by decide) _
  · exact RV.same h0 hm
theorem RV.st {α : Type} {G : PS → Prop} {m : Nat} {r r' : α × PS} (h : RV G m r r') : RV G m ((), r.2) ((), r'.2) := h.map fun _ => ()
theorem rv_enc (hp : Pre s t m) (x : Int) (hx : 0 ≤ x) {p p' : PS} (gC : Gd ⟨s, fl, L⟩ p) (gD : Gd ⟨t, fl, L⟩ p') (h : RD m ((), p) ((), p')) : RX m (encT ⟨s, fl, L⟩ x p) (encT ⟨t, fl, L⟩ x p') := by
  have c1 := mr_exp gC 91 (by omega)
  have d1 := mr_exp gD 91 (by omega)
  have c2 := mr_exp (MR.gd gC c1) x hx
  have d2 := mr_exp (MR.gd gD d1) x hx
  have gC2 := MR.gd (MR.gd gC c1) c2
  have gD2 := MR.gd (MR.gd gD d1) d2
  have h2 := rv_exp hp x hx (MR.gd gC c1) (MR.gd gD d1) (rv_exp hp 91 (by omega) gC gD h).wide
  have h3 := rv_any hp gC2 gD2 h2.wide
  have c3 := mr_any gC2
  have d3 := mr_any gD2
  unfold encT
  dsimp only
  generalize anyT ⟨s, fl, L⟩ (expT ⟨s, fl, L⟩ x (expT ⟨s, fl, L⟩ 91 p)) = a at *
  generalize anyT ⟨t, fl, L⟩ (expT ⟨t, fl, L⟩ x (expT ⟨t, fl, L⟩ 91 p')) = a' at *
  have gC3 := MR.gd gC2 c3
  have gD3 := MR.gd gD2 d3
  have c4 := mr_exp gC3 x hx
  have d4 := mr_exp gD3 x hx
  refine RV.stepx lx_lx (c4.trans (mr_exp (MR.gd gC3 c4) 93 (by omega))) (d4.trans (mr_exp (MR.gd gD3 d4) 93 (by omega))) (fun e h0 hm => ?_) h3
  subst e
  exact (rv_exp hp 93 (by omega) (MR.gd gC3 c4) (MR.gd gD3 d4) (rv_exp hp x hx gC3 gD3 (RV.same h0 hm)).wide).map fun _ => a'.1
theorem rnd_adv {c : CX} {p : PS} (g : Gd c p) (h0 : p.err = 0) (hk : pkT c.s p.at_ ≠ -1) : Lat (p.at_ + 1) (rndT c p).2 := by
  have hl := pk_lt hk
  have g1 : Gd c (p.to (p.at_ + 1)) := MR.gd g (mr_to g _ (by omega) (by omega))
  unfold rndT
  split
  · rename_i h1
    have e1 : expT c 91 p = p.to (p.at_ + 1) := by unfold expT; rw [if_pos h1.1]
    unfold encT
    dsimp only
    rw [e1]
    have c2 := mr_exp g1 46 (by omega)
    have c3 := mr_any (MR.gd g1 c2)
    have c4 := mr_exp (MR.gd (MR.gd g1 c2) c3) 46 (by omega)
    have c5 := mr_exp (MR.gd (MR.gd (MR.gd g1 c2) c3) c4) 93 (by omega)
    exact Lat.of (p := p.to (p.at_ + 1)) h0 (Nat.le_refl _) (((c2.trans c3).trans c4).trans c5)
  · have e1 : anyT c p = (pkT c.s p.at_, p.to (p.at_ + 1)) := by unfold anyT; rw [if_neg hk]
    rw [e1]
    dsimp only
    split
    · exact Lat.of (p := p.to (p.at_ + 1)) h0 (Nat.le_refl _) (mr_fail g1 1 _ ⟨g1.at_, by decide, fun _ => Nat.le_refl _⟩).1
    · exact .inl ⟨h0, Nat.le_refl _⟩
theorem rnd_end (hp : Pre s t m) {p : PS} (h0 : p.err = 0) (hm : p.at_ = m) : Lx m (rndT ⟨t, fl, L⟩ p).2 := by
  have ha := any_end (fl := fl) (L := L) hp h0 hm
  unfold rndT
  rw [if_neg (by rintro ⟨h1, _⟩; have h1 : pkT t p.at_ = 91 := h1; rw [hp.no (by omega)] at h1; cases h1)]
  dsimp only
  rw [if_neg (by rintro ⟨h1, _⟩; rw [ha.2] at h1; cases h1)]
  exact ha.1
theorem rv_rnd (hp : Pre s t m) {p p' : PS} (gC : Gd ⟨s, fl, L⟩ p) (gD : Gd ⟨t, fl, L⟩ p') (h : RD m ((), p) ((), p')) : RX m (rndT ⟨s, fl, L⟩ p) (rndT ⟨t, fl, L⟩ p') := by
  refine RV.step lx_lx (mr_rnd gC) (mr_rnd gD) (rnd_end hp) (fun e h0 hm => ?_) h
  obtain rfl : p' = p := congrArg Prod.snd e
  have hk : pkT t p'.at_ = pkT s p'.at_ := hp.pk hm
  have hle := hp.le
  have hne : pkT s p'.at_ ≠ -1 := by rw [pk_in (by show p'.at_ < s.size; have hm : p'.at_ < m := hm; omega)]; omega
  have eC : anyT ⟨s, fl, L⟩ p' = (pkT s p'.at_, p'.to (p'.at_ + 1)) := by unfold anyT; rw [if_neg hne]
  have eD : anyT ⟨t, fl, L⟩ p' = (pkT s p'.at_, p'.to (p'.at_ + 1)) := by
    unfold anyT
    rw [if_neg (by show pkT t p'.at_ ≠ -1; rw [hk]; exact hne)]
    show (pkT t p'.at_, _) = _
    rw [hk]
  have hm : p'.at_ < m := hm
  by_cases h1 : pkT s p'.at_ = 91
  · by_cases hm1 : p'.at_ + 1 < m
    · have hk1 : pkT t (p'.at_ + 1) = pkT s (p'.at_ + 1) := hp.pk hm1
      by_cases h2 : pkT s (p'.at_ + 1) = 46
      · unfold rndT
        rw [if_pos ⟨h1, h2⟩, if_pos (show pkT t p'.at_ = 91 ∧ pkT t (p'.at_ + 1) = 46 by rw [hk, hk1]; exact ⟨h1, h2⟩)]
        exact rv_enc hp 46 (by omega) gC gD (RV.same h0 (Nat.le_of_lt hm))
      · unfold rndT
        rw [if_neg (fun h => h2 h.2), if_neg (show ¬ (pkT t p'.at_ = 91 ∧ pkT t (p'.at_ + 1) = 46) by rw [hk1]; exact fun h => h2 h.2), eC, eD]
        show RX m (if pkT s p'.at_ = 91 ∧ (pkT s (p'.at_ + 1) = 58 ∨ pkT s (p'.at_ + 1) = 61 ∨ pkT s (p'.at_ + 1) = -1) then _ else _) (if pkT s p'.at_ = 91 ∧ (pkT t (p'.at_ + 1) = 58 ∨ pkT t (p'.at_ + 1) = 61 ∨ pkT t (p'.at_ + 1) = -1) then _ else _)
        rw [hk1]
        split
        · exact RV.fail (p := p'.to (p'.at_ + 1)) h0 1 (by decide) _
        · exact RV.same h0 (Nat.le_of_lt hm1)
    · have hD : Lx m (rndT ⟨t, fl, L⟩ p').2 := by
        unfold rndT
        rw [if_neg (show ¬ (pkT t p'.at_ = 91 ∧ pkT t (p'.at_ + 1) = 46) by rw [hp.no (i := p'.at_ + 1) (by omega)]; rintro ⟨_, h⟩; cases h), eD]
        dsimp only
        rw [if_pos ⟨h1, .inr (.inr (hp.no (by show m ≤ p'.at_ + 1; omega)))⟩]
        exact lx_fail (p := p'.to (p'.at_ + 1)) h0 m (by show p'.at_ + 1 = m; omega)
      exact .inr (.inr (.inl ⟨(rnd_adv gC h0 hne).le (by omega), hD⟩))
  · unfold rndT
    rw [if_neg (fun h => h1 h.1), if_neg (show ¬ (pkT t p'.at_ = 91 ∧ pkT t (p'.at_ + 1) = 46) by rw [hk]; exact fun h => h1 h.1), eC, eD]
    dsimp only
    rw [if_neg (fun h => h1 h.1), if_neg (fun h => h1 h.1)]
    exact RV.same h0 hm
end
end Go.Proofs.YtphiaagppcbefaaGreatDoor
