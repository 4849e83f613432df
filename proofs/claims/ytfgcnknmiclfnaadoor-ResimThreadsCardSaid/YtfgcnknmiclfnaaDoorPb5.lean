/- RtC, RtVM, RtVi, RbE. -/
import Derived.Test.YtfgcnknmiclfnaaDoorPb3
import Derived.Deep.Cut
import Derived.Deep.CutRange
import Derived.Deep.DeepCutAuto
import Derived.Test.YtfgcnknmiclfnaaDoorPb2
import Derived.StillTailTactics
import Derived.Test.YtfgcnknmiclfnaaDoorPb4
set_option linter.unusedVariables false
set_option linter.unusedSimpArgs false
set_option maxRecDepth 100000
set_option maxHeartbeats 8000000
namespace Go.Proofs.YtfgcnknmiclfnaaDoor
open Go.RowKit
theorem below_setRow {B g : Nat} {a w : World} (h : Below B a w) (hg : B ≤ g) (c : Array Value) : Below B a (w.setRow g c) :=
  ⟨h.os, h.tape, h.output, by rw [setRow_size]; exact h.size, fun k hk => (setRow_other w g k c (by omega)).trans (h.block k hk)⟩
end Go.Proofs.YtfgcnknmiclfnaaDoor
set_option linter.unusedVariables false
namespace Go.Proofs.YtfgcnknmiclfnaaDoor
open Go.RowKit
section
variable {T : Type}
def PV (E : TypeId) (k : Nat) (c : T → List Value) (w : World) (n0 : Nat) (xs : List T) (v : Value) : Prop := w.ownsRow n0 E k v xs.length (xs.flatMap c)
theorem PV.nil (E : TypeId) (k : Nat) (c : T → List Value) (w : World) (n0 : Nat) : PV E k c w n0 [] (.slice none 0 0) := ⟨by simp, .inl ⟨rfl, rfl⟩⟩
theorem PV.below {E : TypeId} {k : Nat} {c : T → List Value} {w w' : World} {n0 : Nat} {xs : List T} {v : Value} (h : PV E k c w n0 xs v) (hb : Below w.heap.size w w') : PV E k c w' n0 xs v := own_below h hb
theorem PV.only {E : TypeId} {k : Nat} {c : T → List Value} {w w' : World} {n0 G : Nat} {xs : List T} {v : Value} (h : PV E k c w n0 xs v) (hG : G < n0) (hb : Only G w w') : PV E k c w' n0 xs v := by
  refine own_keep h (S := fun b => b = G) ⟨hb.os, hb.tape, hb.output, hb.size, hb.block⟩ fun g hg e => ?_
  have := (own_at h g hg).1
  omega
theorem flat_get {c : T → List Value} {k : Nat} (hc : ∀ x, (c x).length = k) : ∀ (xs : List T) (j : Nat) (hj : j < xs.length) (i : Nat), i < k → (xs.flatMap c)[j * k + i]? = (c xs[j])[i]?
  | [], j, hj, _, _ => by cases hj
  | x :: xs, 0, _, i, hi => by
    rw [List.flatMap_cons, Nat.zero_mul, Nat.zero_add, List.getElem?_append_left (by rw [hc]; exact hi)]
    rfl
  | x :: xs, j + 1, hj, i, hi => by
    have e : (j + 1) * k + i = k + (j * k + i) := by rw [Nat.add_mul]; omega
    rw [List.flatMap_cons, e, List.getElem?_append_right (by rw [hc]; omega), hc, Nat.add_sub_cancel_left]
    exact flat_get hc xs j (by have : j + 1 < xs.length + 1 := hj; omega) i hi
theorem PV.get {E : TypeId} {k : Nat} {c : T → List Value} {w : World} {n0 g n cap : Nat} {xs : List T} (h : PV E k c w n0 xs (.slice (some ⟨g, 0, none⟩) n cap)) (hc : ∀ x, (c x).length = k) (j : Nat) (hj : j < xs.length) (i : Nat) (hi : i < k) : w.cell? ⟨g, j * k + i, none⟩ = (c xs[j])[i]? := by
  have hu : (xs.flatMap c)[j * k + i]? = some ((c xs[j])[i]'(by rw [hc]; exact hi)) := by rw [flat_get hc xs j hj i hi, List.getElem?_eq_getElem]
  have := World.ownsRow.cells (g := g) h rfl (j * k + i) _ hu
  rw [add_at] at this
  rw [this, List.getElem?_eq_getElem (by rw [hc]; exact hi)]
end
end Go.Proofs.YtfgcnknmiclfnaaDoor
set_option linter.unusedVariables false
set_option linter.unusedSimpArgs false
set_option maxRecDepth 100000
set_option maxHeartbeats 8000000
namespace Go.Proofs.YtfgcnknmiclfnaaDoor
open Go.RowKit
def cells_i (x : Int) : List Value := [.int .i64 x]
theorem clen_i (x : Int) : (cells_i x).length = 1 := rfl
theorem info_i : (Tryd.prog.info? 3).map (fun i => (i.zero, i.size, i.bytes)) = some (some (.int .i64 0), 1, 8) := by kernel_rfl
end Go.Proofs.YtfgcnknmiclfnaaDoor
set_option linter.unusedVariables false
set_option linter.unusedSimpArgs false
set_option maxRecDepth 100000
set_option maxHeartbeats 8000000
namespace Go.Proofs.YtfgcnknmiclfnaaDoor
open Go.RowKit
def RngR (r : Option Nat) (m : Int) (b : Bool) : Prop := match r with | some k => m = k ∧ b = true | none => b = false
def RngOk (f : F) : Prop := ∀ (o l h g : Int) (st : Nat → Bool) (sv : Value) (w : World) (S : Nat → Prop) (n : Nat), SV w S f sv → f.len ≤ maxLen ∧ f.fits → -9223372036854775808 ≤ g ∧ g ≤ 9223372036854775807 → n + szF f + 1 ≤ 4000000 →
  Calls Tryd.prog 45 #[.agg #[.int .i64 o, .int .u64 (wd st 0 64 : Nat), .int .u64 (wd st 64 64 : Nat), .int .u64 (wd st 128 64 : Nat), .int .u64 (wd st 192 64 : Nat), .int .i64 l, .int .i64 h, .int .i64 g, sv], .int .i64 n] w fun e w' => (∃ m b, e = .returned (.tuple #[.int .i64 m, .bool b]) ∧ RngR (rngN o l h g f n) m b) ∧ Below w.heap.size w w'
theorem rng_step (f : F) (k : Nat) (hk : k < f.len) (n : Nat) : rngF (f.drop k) n = match rngN (f.nth k).op (f.nth k).lo (f.nth k).hi (f.nth k).g (f.nth k).args n with | none => none | some m => rngF (f.drop (k + 1)) m := by
  rw [F.drop_step f k hk, rngF_cons]
  cases rngN (f.nth k).op (f.nth k).lo (f.nth k).hi (f.nth k).g (f.nth k).args n <;> rfl
theorem rngN_le {o l h g : Int} {a : F} {n m : Nat} (hm : rngN o l h g a n = some m) : m ≤ n + szF a + 1 := by
  unfold rngN at hm
  split at hm
  · cases hm
  · split at hm
    · cases hm
    · have i := rngF_gr a _ m hm
      have j := gr_sz a
      split at i <;> omega
theorem rng_5 (f : F) (hch : ∀ i, i < f.len → RngOk (f.nth i).args) (l h g : Int) (st : Nat → Bool) (sv : Value) (w : World) (S : Nat → Prop) (n : Nat) (hsv : SV w S f sv) (hft : f.len ≤ maxLen ∧ f.fits) (hbd : n + szF f + 1 ≤ 4000000) (hbo : bndT l h = true) :
    Calls Tryd.prog 45 #[.agg #[.int .i64 5, .int .u64 (wd st 0 64 : Nat), .int .u64 (wd st 64 64 : Nat), .int .u64 (wd st 128 64 : Nat), .int .u64 (wd st 192 64 : Nat), .int .i64 l, .int .i64 h, .int .i64 (g), sv], .int .i64 n] w fun e w' => (∃ m b, e = .returned (.tuple #[.int .i64 m, .bool b]) ∧ RngR (rngF f (n)) m b) ∧ Below w.heap.size w w' := by
  have HSV := Lib.hid hsv
  have HCh := Lib.hid hch
  have HF := Lib.hid hft
  obtain ⟨ad, cap, rfl⟩ := slice_form hsv
  obtain ⟨W2, hW2⟩ : ∃ W2, W2 = w.alloc (.cells #[.int .i64 5, .int .u64 (wd st 0 64 : Nat), .int .u64 (wd st 64 64 : Nat), .int .u64 (wd st 128 64 : Nat), .int .u64 (wd st 192 64 : Nat), .int .i64 l, .int .i64 h, .int .i64 (g), .slice ad f.len cap] 55) := ⟨_, rfl⟩
  have hx : Below w.heap.size w W2 := by rw [hW2]; exact (Below.refl _ _).alloc (Nat.le_refl _) _
  have hz2 : W2.heap.size = w.heap.size + 1 := by rw [hW2]; simp
  have hg0 : W2.heap[w.heap.size]? = some (.cells #[.int .i64 5, .int .u64 (wd st 0 64 : Nat), .int .u64 (wd st 64 64 : Nat), .int .u64 (wd st 128 64 : Nat), .int .u64 (wd st 192 64 : Nat), .int .i64 l, .int .i64 h, .int .i64 (g), .slice ad f.len cap] 55 (0, 0)) := by
    rw [hW2]
    exact heap_alloc_new w _
  have HX := Lib.hid hx
  have HG0 := Lib.hid hg0
  have HZ := Lib.hid hz2
  have HW2 := Lib.hid hW2
  have BX : Hid (∀ wx, Below W2.heap.size W2 wx → Below w.heap.size w wx ∧ wx.cell? ⟨w.heap.size, 0, none⟩ = some (.int .i64 5) ∧ wx.cell? ⟨w.heap.size, 7, none⟩ = some (.int .i64 (g)) ∧ wx.cell? ⟨w.heap.size, 8, none⟩ = some (.slice ad f.len cap)) := Lib.hid fun wx hb => by
    have hr := (hb.block _ (by have := HZ.out; omega)).trans HG0.out
    exact ⟨HX.out.trans (hb.mono HX.out.size), cell_of_row wx w.heap.size 0 _ _ _ hr, cell_of_row wx w.heap.size 7 _ _ _ hr, cell_of_row wx w.heap.size 8 _ _ _ hr⟩
  clear hsv hch hft hx hz2 hg0 hW2
  have hfl : (f.len : Int) ≤ 9223372036854775807 := by have := HF.out.1; unfold maxLen at this; omega
  have hn4 : (n : Int) ≤ 4000000 := by omega
  have HC := Lib.hid fun W => counted_any 5 l h g st (.slice ad f.len cap) W
  rw [hbo] at HC
  go_enter Tryd.func45, Tryd.ntmps45
  go_wp2_with (first
    | (go_at_call 74; (with_reducible refine (HC.out _).mono ?_); rintro e w1 ⟨rfl, hb⟩
       have hb1 : Below W2.heap.size W2 w1 := by rw [HW2.out]; exact hb
       obtain ⟨_, b0, b7, b8⟩ := BX.out w1 hb1
       have HB1 := Lib.hid hb1; clear hb hb1))
  go_loopw [1, 6] (fun b i wr => ∃ (k m : Nat), k ≤ f.len ∧ i = .int .i64 k ∧ b = .int .i64 m ∧ m + szF (f.drop k) ≤ 4000000 ∧ Hid (Below W2.heap.size W2 wr ∧ rngF f (n) = rngF (f.drop k) m)) (fun _ i _ => f.len - (intOf i).toNat)
  case atStart => exact ⟨0, n, Nat.zero_le _, rfl, by first | rfl | (congr 1; omega), by (have : f.drop 0 = f := by cases f <;> rfl); rw [this]; omega, Lib.hid ⟨HB1.out, by cases f <;> rfl⟩⟩
  case round =>
    obtain ⟨k, m, hk, rfl, rfl, hm, HB⟩ := hrel
    obtain ⟨hbw, _, _, bx⟩ := BX.out wr HB.out.1
    have HBW := Lib.hid hbw
    clear hbw
    by_cases hkn : k < f.len
    · have ki : (k : Int) < f.len := by omega
      have ki0 : (0 : Int) ≤ k := by omega
      obtain ⟨b, i0, ad2, cp2, rfl, hsv2, c0, c1, c2, c3, c4, c5, c6, c7, c8⟩ := kid HSV.out (Afar.below HBW.out) k hkn
      have HS2 := Lib.hid hsv2
      clear hsv2
      have hst := sz_step f k hkn
      rw [hst] at hm
      have hgk := (F.fits_kid k HF.out.2 hkn).2.2
      have HL := Lib.hid (fun W hW => HCh.out k hkn (f.nth k).op (f.nth k).lo (f.nth k).hi (f.nth k).g (f.nth k).st (.slice ad2 (f.nth k).args.len cp2) W S m hW (F.fits_nth k HF.out.2 hkn) hgk (by omega))
      have HSt := Lib.hid (HB.out.2.trans (rng_step f k hkn m))
      obtain ⟨R, hR⟩ : ∃ R, R = rngN (f.nth k).op (f.nth k).lo (f.nth k).hi (f.nth k).g (f.nth k).args m := ⟨_, rfl⟩
      have HR := Lib.hid hR
      rw [← hR] at HSt HL
      clear hst hgk hR
      cases R with
      | none =>
        go_wp2_with (first
          | (go_at_call 45; (with_reducible refine (HL.out _ HS2.out).mono ?_); rintro e w2 ⟨⟨m2, b2, rfl, hb2⟩, hb⟩; have hb2 : b2 = false := hb2; subst hb2; have HB1 := Lib.hid (HB.out.1.trans (hb.mono HB.out.1.size)); clear hb bx c0 c1 c2 c3 c4 c5 c6 c7 c8))
        go_ret2
        refine ⟨⟨_, _, rfl, ?_⟩, HX.out.trans (HB1.out.mono HX.out.size)⟩
        rw [HSt.out]
        rfl
      | some m3 =>
        go_wp2_with (first
          | (go_at_call 45; (with_reducible refine (HL.out _ HS2.out).mono ?_); rintro e w2 ⟨⟨m2, b2, rfl, hb2⟩, hb⟩; obtain ⟨rfl, rfl⟩ : m2 = (m3 : Int) ∧ b2 = true := hb2; have HB1 := Lib.hid (HB.out.1.trans (hb.mono HB.out.1.size)); clear hb bx c0 c1 c2 c3 c4 c5 c6 c7 c8))
        go_roundw
        case rel => exact ⟨k + 1, m3, by omega, by go_num, rfl, by have := rngN_le HR.out.symm; omega, Lib.hid ⟨HB1.out, HSt.out⟩⟩
        case measure => simp [intOf]; omega
    · obtain rfl : k = f.len := by omega
      have hd := HB.out.2
      rw [F.drop_len] at hd
      have HD := Lib.hid hd
      clear hd
      go_wp2_with fail
      go_ret2
      exact ⟨⟨_, _, rfl, by rw [HD.out]; exact ⟨rfl, rfl⟩⟩, HBW.out⟩
theorem rng_5n (f : F) (l h g : Int) (st : Nat → Bool) (sv : Value) (w : World) (n : Nat) (hsv : ∃ ad cap, sv = .slice ad f.len cap) (hbo : bndT l h = false) :
    Calls Tryd.prog 45 #[.agg #[.int .i64 5, .int .u64 (wd st 0 64 : Nat), .int .u64 (wd st 64 64 : Nat), .int .u64 (wd st 128 64 : Nat), .int .u64 (wd st 192 64 : Nat), .int .i64 l, .int .i64 h, .int .i64 g, sv], .int .i64 n] w fun e w' => (∃ m b, e = .returned (.tuple #[.int .i64 m, .bool b]) ∧ RngR none m b) ∧ Below w.heap.size w w' := by
  obtain ⟨ad, cap, rfl⟩ := hsv
  have HC := Lib.hid fun W => counted_any 5 l h g st (.slice ad f.len cap) W
  rw [hbo] at HC
  have HX := Lib.hid ((Below.refl w.heap.size w).alloc (Nat.le_refl _) (.cells #[.int .i64 5, .int .u64 (wd st 0 64 : Nat), .int .u64 (wd st 64 64 : Nat), .int .u64 (wd st 128 64 : Nat), .int .u64 (wd st 192 64 : Nat), .int .i64 l, .int .i64 h, .int .i64 g, .slice ad f.len cap] 55))
  go_enter Tryd.func45, Tryd.ntmps45
  go_wp2_with (first
    | (go_at_call 74; (with_reducible refine (HC.out _).mono ?_); rintro e w1 ⟨rfl, hb⟩
       have HB1 := Lib.hid (HX.out.trans (hb.mono HX.out.size)); clear hb))
  go_ret2
  exact ⟨⟨_, _, rfl, rfl⟩, HB1.out⟩
theorem rng_6 (f : F) (hch : ∀ i, i < f.len → RngOk (f.nth i).args) (l h : Int) (st : Nat → Bool) (sv : Value) (w : World) (S : Nat → Prop) (n : Nat) (hsv : SV w S f sv) (hft : f.len ≤ maxLen ∧ f.fits) (hbd : n + szF f + 1 ≤ 4000000) :
    Calls Tryd.prog 45 #[.agg #[.int .i64 6, .int .u64 (wd st 0 64 : Nat), .int .u64 (wd st 64 64 : Nat), .int .u64 (wd st 128 64 : Nat), .int .u64 (wd st 192 64 : Nat), .int .i64 l, .int .i64 h, .int .i64 ((n : Int) + 1), sv], .int .i64 n] w fun e w' => (∃ m b, e = .returned (.tuple #[.int .i64 m, .bool b]) ∧ RngR (rngF f (n + 1)) m b) ∧ Below w.heap.size w w' := by
  have HSV := Lib.hid hsv
  have HCh := Lib.hid hch
  have HF := Lib.hid hft
  obtain ⟨ad, cap, rfl⟩ := slice_form hsv
  obtain ⟨W2, hW2⟩ : ∃ W2, W2 = w.alloc (.cells #[.int .i64 6, .int .u64 (wd st 0 64 : Nat), .int .u64 (wd st 64 64 : Nat), .int .u64 (wd st 128 64 : Nat), .int .u64 (wd st 192 64 : Nat), .int .i64 l, .int .i64 h, .int .i64 ((n : Int) + 1), .slice ad f.len cap] 55) := ⟨_, rfl⟩
  have hx : Below w.heap.size w W2 := by rw [hW2]; exact (Below.refl _ _).alloc (Nat.le_refl _) _
  have hz2 : W2.heap.size = w.heap.size + 1 := by rw [hW2]; simp
  have hg0 : W2.heap[w.heap.size]? = some (.cells #[.int .i64 6, .int .u64 (wd st 0 64 : Nat), .int .u64 (wd st 64 64 : Nat), .int .u64 (wd st 128 64 : Nat), .int .u64 (wd st 192 64 : Nat), .int .i64 l, .int .i64 h, .int .i64 ((n : Int) + 1), .slice ad f.len cap] 55 (0, 0)) := by
    rw [hW2]
    exact heap_alloc_new w _
  have HX := Lib.hid hx
  have HG0 := Lib.hid hg0
  have HZ := Lib.hid hz2
  have HW2 := Lib.hid hW2
  have BX : Hid (∀ wx, Below W2.heap.size W2 wx → Below w.heap.size w wx ∧ wx.cell? ⟨w.heap.size, 0, none⟩ = some (.int .i64 6) ∧ wx.cell? ⟨w.heap.size, 7, none⟩ = some (.int .i64 ((n : Int) + 1)) ∧ wx.cell? ⟨w.heap.size, 8, none⟩ = some (.slice ad f.len cap)) := Lib.hid fun wx hb => by
    have hr := (hb.block _ (by have := HZ.out; omega)).trans HG0.out
    exact ⟨HX.out.trans (hb.mono HX.out.size), cell_of_row wx w.heap.size 0 _ _ _ hr, cell_of_row wx w.heap.size 7 _ _ _ hr, cell_of_row wx w.heap.size 8 _ _ _ hr⟩
  clear hsv hch hft hx hz2 hg0 hW2
  have hfl : (f.len : Int) ≤ 9223372036854775807 := by have := HF.out.1; unfold maxLen at this; omega
  have hn4 : (n : Int) ≤ 4000000 := by omega
  have hw1 : IntKind.i64.wrap ((n : Int) + 1 - 1) = (n : Int) := by rw [IntKind.wrap_i64]; omega
  have hw2 : IntKind.i64.wrap ((n : Int) + 1) = ((n + 1 : Nat) : Int) := by rw [IntKind.wrap_i64]; omega
  have hw3 : ((n : Int) == (n : Int)) = true := by simp
  go_enter Tryd.func45, Tryd.ntmps45
  go_wp2_with fail
  go_loopw [1, 6] (fun b i wr => ∃ (k m : Nat), k ≤ f.len ∧ i = .int .i64 k ∧ b = .int .i64 m ∧ m + szF (f.drop k) ≤ 4000000 ∧ Hid (Below W2.heap.size W2 wr ∧ rngF f (n + 1) = rngF (f.drop k) m)) (fun _ i _ => f.len - (intOf i).toNat)
  case atStart => exact ⟨0, n + 1, Nat.zero_le _, rfl, by first | rfl | (congr 1; omega), by (have : f.drop 0 = f := by cases f <;> rfl); rw [this]; omega, Lib.hid ⟨by rw [HW2.out]; exact Below.refl _ _, by cases f <;> rfl⟩⟩
  case round =>
    obtain ⟨k, m, hk, rfl, rfl, hm, HB⟩ := hrel
    obtain ⟨hbw, _, _, bx⟩ := BX.out wr HB.out.1
    have HBW := Lib.hid hbw
    clear hbw
    by_cases hkn : k < f.len
    · have ki : (k : Int) < f.len := by omega
      have ki0 : (0 : Int) ≤ k := by omega
      obtain ⟨b, i0, ad2, cp2, rfl, hsv2, c0, c1, c2, c3, c4, c5, c6, c7, c8⟩ := kid HSV.out (Afar.below HBW.out) k hkn
      have HS2 := Lib.hid hsv2
      clear hsv2
      have hst := sz_step f k hkn
      rw [hst] at hm
      have hgk := (F.fits_kid k HF.out.2 hkn).2.2
      have HL := Lib.hid (fun W hW => HCh.out k hkn (f.nth k).op (f.nth k).lo (f.nth k).hi (f.nth k).g (f.nth k).st (.slice ad2 (f.nth k).args.len cp2) W S m hW (F.fits_nth k HF.out.2 hkn) hgk (by omega))
      have HSt := Lib.hid (HB.out.2.trans (rng_step f k hkn m))
      obtain ⟨R, hR⟩ : ∃ R, R = rngN (f.nth k).op (f.nth k).lo (f.nth k).hi (f.nth k).g (f.nth k).args m := ⟨_, rfl⟩
      have HR := Lib.hid hR
      rw [← hR] at HSt HL
      clear hst hgk hR
      cases R with
      | none =>
        go_wp2_with (first
          | (go_at_call 45; (with_reducible refine (HL.out _ HS2.out).mono ?_); rintro e w2 ⟨⟨m2, b2, rfl, hb2⟩, hb⟩; have hb2 : b2 = false := hb2; subst hb2; have HB1 := Lib.hid (HB.out.1.trans (hb.mono HB.out.1.size)); clear hb bx c0 c1 c2 c3 c4 c5 c6 c7 c8))
        go_ret2
        refine ⟨⟨_, _, rfl, ?_⟩, HX.out.trans (HB1.out.mono HX.out.size)⟩
        rw [HSt.out]
        rfl
      | some m3 =>
        go_wp2_with (first
          | (go_at_call 45; (with_reducible refine (HL.out _ HS2.out).mono ?_); rintro e w2 ⟨⟨m2, b2, rfl, hb2⟩, hb⟩; obtain ⟨rfl, rfl⟩ : m2 = (m3 : Int) ∧ b2 = true := hb2; have HB1 := Lib.hid (HB.out.1.trans (hb.mono HB.out.1.size)); clear hb bx c0 c1 c2 c3 c4 c5 c6 c7 c8))
        go_roundw
        case rel => exact ⟨k + 1, m3, by omega, by go_num, rfl, by have := rngN_le HR.out.symm; omega, Lib.hid ⟨HB1.out, HSt.out⟩⟩
        case measure => simp [intOf]; omega
    · obtain rfl : k = f.len := by omega
      have hd := HB.out.2
      rw [F.drop_len] at hd
      have HD := Lib.hid hd
      clear hd
      go_wp2_with fail
      go_ret2
      exact ⟨⟨_, _, rfl, by rw [HD.out]; exact ⟨rfl, rfl⟩⟩, HBW.out⟩
theorem rng_6n (f : F) (l h g : Int) (st : Nat → Bool) (sv : Value) (w : World) (n : Nat) (hsv : ∃ ad cap, sv = .slice ad f.len cap) (hn : n ≤ 4000000) (hg : -9223372036854775808 ≤ g ∧ g ≤ 9223372036854775807) (hne : ¬ g = (n : Int) + 1) :
    Calls Tryd.prog 45 #[.agg #[.int .i64 6, .int .u64 (wd st 0 64 : Nat), .int .u64 (wd st 64 64 : Nat), .int .u64 (wd st 128 64 : Nat), .int .u64 (wd st 192 64 : Nat), .int .i64 l, .int .i64 h, .int .i64 g, sv], .int .i64 n] w fun e w' => (∃ m b, e = .returned (.tuple #[.int .i64 m, .bool b]) ∧ RngR none m b) ∧ Below w.heap.size w w' := by
  obtain ⟨ad, cap, rfl⟩ := hsv
  have HX := Lib.hid ((Below.refl w.heap.size w).alloc (Nat.le_refl _) (.cells #[.int .i64 6, .int .u64 (wd st 0 64 : Nat), .int .u64 (wd st 64 64 : Nat), .int .u64 (wd st 128 64 : Nat), .int .u64 (wd st 192 64 : Nat), .int .i64 l, .int .i64 h, .int .i64 g, .slice ad f.len cap] 55))
  have hq : (IntKind.i64.wrap (g - 1) == (n : Int)) = false := by
    rw [beq_eq_false_iff_ne, IntKind.wrap_i64]
    omega
  obtain ⟨Y, hY⟩ : ∃ Y, IntKind.i64.wrap (g - 1) = Y := ⟨_, rfl⟩
  rw [hY] at hq
  clear hg hne
  go_enter Tryd.func45, Tryd.ntmps45
  go_wp2_with fail
  go_ret2
  exact ⟨⟨_, _, rfl, rfl⟩, HX.out⟩
theorem rng_x (f : F) (hch : ∀ i, i < f.len → RngOk (f.nth i).args) (o l h g : Int) (st : Nat → Bool) (sv : Value) (w : World) (S : Nat → Prop) (n : Nat) (hsv : SV w S f sv) (hft : f.len ≤ maxLen ∧ f.fits) (hbd : n + szF f + 1 ≤ 4000000) (e5 : (o == 5) = false) (e6 : (o == 6) = false) (o5 : ¬ o = 5) (o6 : ¬ o = 6) :
    Calls Tryd.prog 45 #[.agg #[.int .i64 o, .int .u64 (wd st 0 64 : Nat), .int .u64 (wd st 64 64 : Nat), .int .u64 (wd st 128 64 : Nat), .int .u64 (wd st 192 64 : Nat), .int .i64 l, .int .i64 h, .int .i64 (g), sv], .int .i64 n] w fun e w' => (∃ m b, e = .returned (.tuple #[.int .i64 m, .bool b]) ∧ RngR (rngF f (n)) m b) ∧ Below w.heap.size w w' := by
  have HSV := Lib.hid hsv
  have HCh := Lib.hid hch
  have HF := Lib.hid hft
  obtain ⟨ad, cap, rfl⟩ := slice_form hsv
  obtain ⟨W2, hW2⟩ : ∃ W2, W2 = w.alloc (.cells #[.int .i64 o, .int .u64 (wd st 0 64 : Nat), .int .u64 (wd st 64 64 : Nat), .int .u64 (wd st 128 64 : Nat), .int .u64 (wd st 192 64 : Nat), .int .i64 l, .int .i64 h, .int .i64 (g), .slice ad f.len cap] 55) := ⟨_, rfl⟩
  have hx : Below w.heap.size w W2 := by rw [hW2]; exact (Below.refl _ _).alloc (Nat.le_refl _) _
  have hz2 : W2.heap.size = w.heap.size + 1 := by rw [hW2]; simp
  have hg0 : W2.heap[w.heap.size]? = some (.cells #[.int .i64 o, .int .u64 (wd st 0 64 : Nat), .int .u64 (wd st 64 64 : Nat), .int .u64 (wd st 128 64 : Nat), .int .u64 (wd st 192 64 : Nat), .int .i64 l, .int .i64 h, .int .i64 (g), .slice ad f.len cap] 55 (0, 0)) := by
    rw [hW2]
    exact heap_alloc_new w _
  have HX := Lib.hid hx
  have HG0 := Lib.hid hg0
  have HZ := Lib.hid hz2
  have HW2 := Lib.hid hW2
  have BX : Hid (∀ wx, Below W2.heap.size W2 wx → Below w.heap.size w wx ∧ wx.cell? ⟨w.heap.size, 0, none⟩ = some (.int .i64 o) ∧ wx.cell? ⟨w.heap.size, 7, none⟩ = some (.int .i64 (g)) ∧ wx.cell? ⟨w.heap.size, 8, none⟩ = some (.slice ad f.len cap)) := Lib.hid fun wx hb => by
    have hr := (hb.block _ (by have := HZ.out; omega)).trans HG0.out
    exact ⟨HX.out.trans (hb.mono HX.out.size), cell_of_row wx w.heap.size 0 _ _ _ hr, cell_of_row wx w.heap.size 7 _ _ _ hr, cell_of_row wx w.heap.size 8 _ _ _ hr⟩
  clear hsv hch hft hx hz2 hg0 hW2
  have hfl : (f.len : Int) ≤ 9223372036854775807 := by have := HF.out.1; unfold maxLen at this; omega
  have hn4 : (n : Int) ≤ 4000000 := by omega
  go_enter Tryd.func45, Tryd.ntmps45
  go_wp2_with fail
  go_loopw [1, 6] (fun b i wr => ∃ (k m : Nat), k ≤ f.len ∧ i = .int .i64 k ∧ b = .int .i64 m ∧ m + szF (f.drop k) ≤ 4000000 ∧ Hid (Below W2.heap.size W2 wr ∧ rngF f (n) = rngF (f.drop k) m)) (fun _ i _ => f.len - (intOf i).toNat)
  case atStart => exact ⟨0, n, Nat.zero_le _, rfl, by first | rfl | (congr 1; omega), by (have : f.drop 0 = f := by cases f <;> rfl); rw [this]; omega, Lib.hid ⟨by rw [HW2.out]; exact Below.refl _ _, by cases f <;> rfl⟩⟩
  case round =>
    obtain ⟨k, m, hk, rfl, rfl, hm, HB⟩ := hrel
    obtain ⟨hbw, _, _, bx⟩ := BX.out wr HB.out.1
    have HBW := Lib.hid hbw
    clear hbw
    by_cases hkn : k < f.len
    · have ki : (k : Int) < f.len := by omega
      have ki0 : (0 : Int) ≤ k := by omega
      obtain ⟨b, i0, ad2, cp2, rfl, hsv2, c0, c1, c2, c3, c4, c5, c6, c7, c8⟩ := kid HSV.out (Afar.below HBW.out) k hkn
      have HS2 := Lib.hid hsv2
      clear hsv2
      have hst := sz_step f k hkn
      rw [hst] at hm
      have hgk := (F.fits_kid k HF.out.2 hkn).2.2
      have HL := Lib.hid (fun W hW => HCh.out k hkn (f.nth k).op (f.nth k).lo (f.nth k).hi (f.nth k).g (f.nth k).st (.slice ad2 (f.nth k).args.len cp2) W S m hW (F.fits_nth k HF.out.2 hkn) hgk (by omega))
      have HSt := Lib.hid (HB.out.2.trans (rng_step f k hkn m))
      obtain ⟨R, hR⟩ : ∃ R, R = rngN (f.nth k).op (f.nth k).lo (f.nth k).hi (f.nth k).g (f.nth k).args m := ⟨_, rfl⟩
      have HR := Lib.hid hR
      rw [← hR] at HSt HL
      clear hst hgk hR
      cases R with
      | none =>
        go_wp2_with (first
          | (go_at_call 45; (with_reducible refine (HL.out _ HS2.out).mono ?_); rintro e w2 ⟨⟨m2, b2, rfl, hb2⟩, hb⟩; have hb2 : b2 = false := hb2; subst hb2; have HB1 := Lib.hid (HB.out.1.trans (hb.mono HB.out.1.size)); clear hb bx c0 c1 c2 c3 c4 c5 c6 c7 c8))
        go_ret2
        refine ⟨⟨_, _, rfl, ?_⟩, HX.out.trans (HB1.out.mono HX.out.size)⟩
        rw [HSt.out]
        rfl
      | some m3 =>
        go_wp2_with (first
          | (go_at_call 45; (with_reducible refine (HL.out _ HS2.out).mono ?_); rintro e w2 ⟨⟨m2, b2, rfl, hb2⟩, hb⟩; obtain ⟨rfl, rfl⟩ : m2 = (m3 : Int) ∧ b2 = true := hb2; have HB1 := Lib.hid (HB.out.1.trans (hb.mono HB.out.1.size)); clear hb bx c0 c1 c2 c3 c4 c5 c6 c7 c8))
        go_roundw
        case rel => exact ⟨k + 1, m3, by omega, by go_num, rfl, by have := rngN_le HR.out.symm; omega, Lib.hid ⟨HB1.out, HSt.out⟩⟩
        case measure => simp [intOf]; omega
    · obtain rfl : k = f.len := by omega
      have hd := HB.out.2
      rw [F.drop_len] at hd
      have HD := Lib.hid hd
      clear hd
      go_wp2_with fail
      go_ret2
      exact ⟨⟨_, _, rfl, by rw [HD.out]; exact ⟨rfl, rfl⟩⟩, HBW.out⟩
theorem rng_node (f : F) (hch : ∀ i, i < f.len → RngOk (f.nth i).args) : RngOk f := by
  intro o l h g st sv w S n hsv hft hg hbd
  unfold rngN
  by_cases o5 : o = 5
  · subst o5
    cases hb : bndT l h
    · rw [if_pos ⟨rfl, rfl⟩]
      exact rng_5n f l h g st sv w n (slice_form hsv) hb
    · rw [if_neg (by simp), if_neg (by simp), if_neg (by decide)]
      exact rng_5 f hch l h g st sv w S n hsv hft hbd hb
  rw [if_neg (fun k => o5 k.1)]
  by_cases o6 : o = 6
  · subst o6
    by_cases hq : g = (n : Int) + 1
    · subst hq
      rw [if_neg (by simp), if_pos rfl]
      exact rng_6 f hch l h st sv w S n hsv hft hbd
    · rw [if_pos ⟨rfl, hq⟩]
      exact rng_6n f l h g st sv w n (slice_form hsv) (by omega) hg hq
  · rw [if_neg (fun k => o6 k.1), if_neg o6]
    exact rng_x f hch o l h g st sv w S n hsv hft hbd (by simpa using o5) (by simpa using o6) o5 o6
theorem rng_all : ∀ (f : F) (i : Nat), i < f.len → RngOk (f.nth i).args
  | .nil, i, h => by cases h
  | .cons o s l h g a r, 0, hi => rng_node a (rng_all a)
  | .cons o s l h g a r, i + 1, hi => rng_all r i (by have : i + 1 < r.len + 1 := hi; omega)
theorem rng_any (f : F) : RngOk f := rng_node f (rng_all f)
theorem ihas_any (n0 : Nat) (xs : List Int) (v : Value) (g : Int) (w : World) (h : PV 3 1 cells_i w n0 xs v) (hl : xs.length ≤ 4000000) :
    Calls Tryd.prog 75 #[v, .int .i64 g] w fun e w' => e = .returned (.bool (xs.contains g)) ∧ w' = w := by
  obtain ⟨ad, cap, rfl⟩ := own_sl h
  have hxl : (xs.length : Int) ≤ 9223372036854775807 := by omega
  clear hl
  have H := Lib.hid h
  obtain ⟨A, hA⟩ : ∃ A, A = xs.contains g := ⟨_, rfl⟩
  rw [← hA]
  have HA := Lib.hid hA
  clear h hA
  go_enter Tryd.func75, Tryd.ntmps75
  go_wp2_with fail
  go_loop [5] (fun i => ∃ k : Nat, k ≤ xs.length ∧ i = .int .i64 k ∧ Hid (A = (xs.drop k).contains g)) (fun i => xs.length - (intOf i).toNat)
  case atStart => exact ⟨0, Nat.zero_le _, rfl, Lib.hid HA.out⟩
  case round =>
    obtain ⟨k, hk, rfl, HC⟩ := hrel
    by_cases hkn : k < xs.length
    · have ki : (k : Int) < xs.length := by omega
      have ki0 : (0 : Int) ≤ k := by omega
      obtain ⟨b, cap2, hs⟩ := own_more H.out (by omega)
      cases hs
      have hc := H.out.get clen_i k hkn 0 (by decide)
      rw [Nat.mul_one, Nat.add_zero] at hc
      have hd : xs.drop k = xs[k] :: xs.drop (k + 1) := List.drop_eq_getElem_cons hkn
      have hI := HC.out
      rw [hd, List.contains_cons] at hI
      replace hc : w.cell? ⟨b, k, none⟩ = some (.int .i64 xs[k]) := hc
      generalize xs[k] = x at hc hI
      by_cases hx : x = g
      · subst hx
        rw [show (x == x) = true by simp, Bool.true_or] at hI
        clear hd HC HA
        subst hI
        go_wp2_with fail
        go_ret
        exact ⟨rfl, rfl⟩
      · have hq : (x == g) = false := by simpa using hx
        rw [beq_eq_false_iff_ne.2 (fun e => hx e.symm), Bool.false_or] at hI
        have HI2 := Lib.hid hI
        clear hI hd hx
        go_wp2_with fail
        go_round
        case rel => exact ⟨k + 1, by omega, by go_num, HI2⟩
        case measure => simp [intOf]; omega
    · obtain rfl : k = xs.length := by omega
      have hI := HC.out
      rw [List.drop_length] at hI
      replace hI : A = false := hI
      clear HC HA
      subst hI
      go_wp2_with fail
      go_ret
      exact ⟨rfl, rfl⟩
end Go.Proofs.YtfgcnknmiclfnaaDoor
