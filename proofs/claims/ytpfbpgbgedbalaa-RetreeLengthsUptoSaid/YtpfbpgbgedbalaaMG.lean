/- Several texts in one (a claim has at most 60 files). -/
import Derived.Test.YtpfbpgbgedbalaaMB
import Derived.Test.YtpfbpgbgedbalaaMD
import Derived.Test.YtpfbpgbgedbalaaCsRefB
import Derived.StillTailTactics
import Derived.Deep.QuietTactic
import Derived.BigQuiet
/- The facts of a node from those of its Args: the reference's sum, times, cat, alt. -/
set_option linter.unusedVariables false
set_option linter.unusedSimpArgs false
set_option maxRecDepth 100000
set_option maxHeartbeats 8000000
namespace Go.Proofs.Ytpfbpgbgedbalaa
open Go.RowKit

theorem rsum_any (a b : Int) (ha : -1 ≤ a ∧ a ≤ 2147483647) (hb : -1 ≤ b ∧ b ≤ 2147483647) (w : World) : Calls Try.prog 86 #[.int .i64 a, .int .i64 b] w fun e w' => e = .returned (.int .i64 (rsum a b)) ∧ w' = w := by
  have HA := Lib.hid ha
  have HB := Lib.hid hb
  have hw : IntKind.i64.wrap (a + b) = a + b := by rw [IntKind.wrap_i64]; omega
  clear ha hb
  by_cases h0 : a < 0
  · have e : rsum a b = -1 := by unfold rsum; rw [if_pos (.inl h0)]
    rw [e]
    go_enter Try.func86, Try.ntmps86
    go_wp2
    go_ret
    exact ⟨rfl, rfl⟩
  by_cases h1 : b < 0
  · have e : rsum a b = -1 := by unfold rsum; rw [if_pos (.inr h1)]
    rw [e]
    go_enter Try.func86, Try.ntmps86
    go_wp2
    go_ret
    exact ⟨rfl, rfl⟩
  by_cases h2 : 2147483647 < a + b
  · have e : rsum a b = 2147483647 := by unfold rsum; rw [if_neg (by omega), if_pos h2]
    rw [e]
    go_enter Try.func86, Try.ntmps86
    go_wp2
    go_ret
    exact ⟨rfl, rfl⟩
  · have e : rsum a b = a + b := by unfold rsum; rw [if_neg (by omega), if_neg h2]
    rw [e]
    go_enter Try.func86, Try.ntmps86
    go_wp2
    go_ret
    exact ⟨rfl, rfl⟩
theorem rtim_any (a b : Int) (ha : -1 ≤ a ∧ a ≤ 2147483647) (hb : -1 ≤ b ∧ b ≤ 64) (w : World) : Calls Try.prog 79 #[.int .i64 a, .int .i64 b] w fun e w' => e = .returned (.int .i64 (rtim a b)) ∧ w' = w := by
  have HA := Lib.hid ha
  have HB := Lib.hid hb
  have hw : IntKind.i64.wrap (a * b) = a * b := by
    have h1 : a * b ≤ 2147483647 * 64 := by
      rcases Int.lt_or_le b 0 with h | h
      · have : b = -1 := by omega
        subst this
        omega
      · have := Int.mul_le_mul_of_nonneg_right ha.2 h
        omega
    have h2 : -9000000000 ≤ a * b := by
      rcases Int.lt_or_le b 0 with h | h
      · have : b = -1 := by omega
        subst this
        omega
      · have := Int.mul_le_mul_of_nonneg_right ha.1 h
        omega
    rw [IntKind.wrap_i64]; omega
  have HW := Lib.hid hw
  clear ha hb
  by_cases h0 : b = 0
  · subst h0
    have e : rtim a 0 = 0 := by unfold rtim; rw [if_pos (.inl rfl)]
    rw [e]
    clear hw HW
    go_enter Try.func79, Try.ntmps79
    go_wp2
    go_ret
    exact ⟨rfl, rfl⟩
  have q0 : (b == 0) = false := by simpa using h0
  by_cases h1 : a = 0
  · subst h1
    have e : rtim 0 b = 0 := by unfold rtim; rw [if_pos (.inr rfl)]
    rw [e]
    clear hw HW
    go_enter Try.func79, Try.ntmps79
    go_wp2
    go_ret
    exact ⟨rfl, rfl⟩
  have q1 : (a == 0) = false := by simpa using h1
  by_cases h2 : a < 0
  · have e : rtim a b = -1 := by unfold rtim; rw [if_neg (by omega), if_pos (.inl h2)]
    rw [e]
    go_enter Try.func79, Try.ntmps79
    go_wp2
    go_ret
    exact ⟨rfl, rfl⟩
  by_cases h3 : b < 0
  · have e : rtim a b = -1 := by unfold rtim; rw [if_neg (by omega), if_pos (.inr h3)]
    rw [e]
    go_enter Try.func79, Try.ntmps79
    go_wp2
    go_ret
    exact ⟨rfl, rfl⟩
  have e0 : rtim a b = if 2147483647 < a * b then 2147483647 else a * b := by unfold rtim; rw [if_neg (by omega), if_neg (by omega)]
  rw [e0]
  clear e0 HA HB

  by_cases h4 : 2147483647 < a * b
  · rw [if_pos h4]
    go_enter Try.func79, Try.ntmps79
    go_wp2
    go_ret
    exact ⟨rfl, rfl⟩
  · rw [if_neg h4]
    go_enter Try.func79, Try.ntmps79
    go_wp2
    go_ret
    exact ⟨rfl, rfl⟩
/-- The seven cells of facts. -/
def cells_f (x : FC) : List Value := [.bool x.nul, .int .i64 x.lo, .int .i64 x.hi, .int .u64 (wd x.st 0 64 : Nat), .int .u64 (wd x.st 64 64 : Nat), .int .u64 (wd x.st 128 64 : Nat), .int .u64 (wd x.st 192 64 : Nat)]
theorem clen_f (x : FC) : (cells_f x).length = 7 := rfl
theorem info_f : (Try.prog.info? 59).map (fun i => (i.zero, i.size, i.bytes)) = some (some (.agg #[.bool false, .int .i64 0, .int .i64 0, .int .u64 0, .int .u64 0, .int .u64 0, .int .u64 0]), 7, 56) := by kernel_rfl
theorem isz_f : (Try.prog.info? 59).map (·.size) = some 7 := by kernel_rfl
abbrev fc7 (x : FC) : Array Value := #[.bool x.nul, .int .i64 x.lo, .int .i64 x.hi, .int .u64 (wd x.st 0 64 : Nat), .int .u64 (wd x.st 64 64 : Nat), .int .u64 (wd x.st 128 64 : Nat), .int .u64 (wd x.st 192 64 : Nat)]
abbrev z7 : Array Value := #[.bool false, .int .i64 0, .int .i64 0, .int .u64 0, .int .u64 0, .int .u64 0, .int .u64 0]
/-- While facts are put together: the result's block, and the block of what is known so far. -/
structure XS (w : World) (x : FC) (wx : World) : Prop where
  bel : Below w.heap.size w wx
  res : wx.heap[w.heap.size]? = some (.cells z7 59 (0, 0))
  acc : wx.heap[w.heap.size + 1]? = some (.cells (fc7 x) 59 (0, 0))
theorem XS.lt {w wx : World} {x : FC} (h : XS w x wx) : w.heap.size + 1 < wx.heap.size := (Array.getElem?_eq_some_iff.1 h.acc).1
theorem XS.below {w wx wy : World} {x : FC} (h : XS w x wx) (hb : Below wx.heap.size wx wy) : XS w x wy :=
  ⟨h.bel.trans (hb.mono h.bel.size), (hb.block _ (by have := h.lt; omega)).trans h.res, (hb.block _ h.lt).trans h.acc⟩
theorem XS.drew {w wx : World} {x : FC} (h : XS w x wx) : XS w x wx.drew := ⟨h.bel.drew, h.res, h.acc⟩
theorem XS.drewN {w wx : World} {x : FC} (h : XS w x wx) (n : Nat) : XS w x (wx.drewN n) := ⟨below_drewN h.bel n, h.res, h.acc⟩
theorem XS.cells {w wx : World} {x : FC} (h : XS w x wx) : (wx.cell? ⟨w.heap.size + 1, 0, none⟩ = some (.bool x.nul) ∧ wx.cell? ⟨w.heap.size + 1, 1, none⟩ = some (.int .i64 x.lo) ∧ wx.cell? ⟨w.heap.size + 1, 2, none⟩ = some (.int .i64 x.hi)) ∧ wx.cell? ⟨w.heap.size + 1, 3, none⟩ = some (.int .u64 (wd x.st 0 64 : Nat)) ∧ wx.cell? ⟨w.heap.size + 1, 4, none⟩ = some (.int .u64 (wd x.st 64 64 : Nat)) ∧ wx.cell? ⟨w.heap.size + 1, 5, none⟩ = some (.int .u64 (wd x.st 128 64 : Nat)) ∧ wx.cell? ⟨w.heap.size + 1, 6, none⟩ = some (.int .u64 (wd x.st 192 64 : Nat)) :=
  ⟨⟨cell_of_row wx _ 0 _ _ _ h.acc, cell_of_row wx _ 1 _ _ _ h.acc, cell_of_row wx _ 2 _ _ _ h.acc⟩, cell_of_row wx _ 3 _ _ _ h.acc, cell_of_row wx _ 4 _ _ _ h.acc, cell_of_row wx _ 5 _ _ _ h.acc, cell_of_row wx _ 6 _ _ _ h.acc⟩
theorem XS.put {w wx : World} {x y : FC} (h : XS w x wx) (j : Nat) (v : Value) (e : (fc7 x).setIfInBounds j v = fc7 y) : XS w y (wx.setCell ⟨w.heap.size + 1, j, none⟩ v) :=
  ⟨h.bel.setCell (p := ⟨w.heap.size + 1, j, none⟩) (by show w.heap.size ≤ w.heap.size + 1; omega) v, (Below.heap_setCell wx ⟨w.heap.size + 1, j, none⟩ v _ (by show w.heap.size ≠ w.heap.size + 1; omega)).trans h.res, by rw [← e]; exact heap_setCell_same wx _ j _ _ v h.acc⟩
theorem XS.free {w wx : World} {x : FC} (h : XS w x wx) (j : Nat) : wx.frozen? ⟨w.heap.size + 1, j, none⟩ = false := frozen_of_row wx _ j _ _ h.acc
theorem XS.nul {w wx : World} {x : FC} (h : XS w x wx) (b : Bool) : XS w { x with nul := b } (wx.setCell ⟨w.heap.size + 1, 0, none⟩ (.bool b)) := h.put 0 _ rfl
theorem XS.lo {w wx : World} {x : FC} (h : XS w x wx) (b : Int) : XS w { x with lo := b } (wx.setCell ⟨w.heap.size + 1, 1, none⟩ (.int .i64 b)) := h.put 1 _ rfl
theorem XS.hi {w wx : World} {x : FC} (h : XS w x wx) (b : Int) : XS w { x with hi := b } (wx.setCell ⟨w.heap.size + 1, 2, none⟩ (.int .i64 b)) := h.put 2 _ rfl
/-- A value in the accumulator's block, with any four words. -/
theorem XS.st {w wx : World} {x : FC} (h : XS w x wx) (p : Nat → Bool) : XS w { x with st := p } ((((wx.setCell ⟨w.heap.size + 1, 3, none⟩ (.int .u64 (wd p 0 64 : Nat))).setCell ⟨w.heap.size + 1, 4, none⟩ (.int .u64 (wd p 64 64 : Nat))).setCell ⟨w.heap.size + 1, 5, none⟩ (.int .u64 (wd p 128 64 : Nat))).setCell ⟨w.heap.size + 1, 6, none⟩ (.int .u64 (wd p 192 64 : Nat))) := by
  have put0 : ∀ {wy : World} {cs : Array Value} (j : Nat) (v : Value), Below w.heap.size w wy ∧ wy.heap[w.heap.size]? = some (.cells z7 59 (0, 0)) ∧ wy.heap[w.heap.size + 1]? = some (.cells cs 59 (0, 0)) →
      Below w.heap.size w (wy.setCell ⟨w.heap.size + 1, j, none⟩ v) ∧ (wy.setCell ⟨w.heap.size + 1, j, none⟩ v).heap[w.heap.size]? = some (.cells z7 59 (0, 0)) ∧ (wy.setCell ⟨w.heap.size + 1, j, none⟩ v).heap[w.heap.size + 1]? = some (.cells (cs.setIfInBounds j v) 59 (0, 0)) := fun {wy cs} j v k =>
    ⟨k.1.setCell (p := ⟨w.heap.size + 1, j, none⟩) (by show w.heap.size ≤ w.heap.size + 1; omega) v, (Below.heap_setCell wy ⟨w.heap.size + 1, j, none⟩ v _ (by show w.heap.size ≠ w.heap.size + 1; omega)).trans k.2.1, heap_setCell_same wy _ j _ _ v k.2.2⟩
  obtain ⟨k1, k2, k3⟩ := put0 6 (.int .u64 (wd p 192 64 : Nat)) (put0 5 (.int .u64 (wd p 128 64 : Nat)) (put0 4 (.int .u64 (wd p 64 64 : Nat)) (put0 3 (.int .u64 (wd p 0 64 : Nat)) ⟨h.bel, h.res, h.acc⟩)))
  exact ⟨k1, k2, k3⟩
/-- The cells of element k of a list of facts. -/
theorem fac_at {w wx : World} {n0 : Nat} {ps : List FC} {qad : Option Addr} {qcap : Nat} (h : PV 59 7 cells_f w n0 ps (.slice qad ps.length qcap)) (hb : Below w.heap.size w wx) (k : Nat) (hk : k < ps.length) :
    ∃ q, qad = some ⟨q, 0, none⟩ ∧ (wx.cell? ⟨q, k * 7, none⟩ = some (.bool ps[k].nul) ∧ wx.cell? ⟨q, k * 7 + 1, none⟩ = some (.int .i64 ps[k].lo) ∧ wx.cell? ⟨q, k * 7 + 2, none⟩ = some (.int .i64 ps[k].hi)) ∧ wx.cell? ⟨q, k * 7 + 3, none⟩ = some (.int .u64 (wd ps[k].st 0 64 : Nat)) ∧ wx.cell? ⟨q, k * 7 + 4, none⟩ = some (.int .u64 (wd ps[k].st 64 64 : Nat)) ∧ wx.cell? ⟨q, k * 7 + 5, none⟩ = some (.int .u64 (wd ps[k].st 128 64 : Nat)) ∧ wx.cell? ⟨q, k * 7 + 6, none⟩ = some (.int .u64 (wd ps[k].st 192 64 : Nat)) := by
  obtain ⟨q, c2, hs⟩ := own_more h (by omega)
  cases hs
  have hp := h.below hb
  have c0 := hp.get clen_f k hk 0 (by decide)
  rw [Nat.add_zero] at c0
  exact ⟨q, rfl, ⟨c0, hp.get clen_f k hk 1 (by decide), hp.get clen_f k hk 2 (by decide)⟩, hp.get clen_f k hk 3 (by decide), hp.get clen_f k hk 4 (by decide), hp.get clen_f k hk 5 (by decide), hp.get clen_f k hk 6 (by decide)⟩
end Go.Proofs.Ytpfbpgbgedbalaa
/- The reference's cat. -/
set_option linter.unusedVariables false
set_option linter.unusedSimpArgs false
set_option maxRecDepth 100000
set_option maxHeartbeats 8000000
namespace Go.Proofs.Ytpfbpgbgedbalaa
open Go.RowKit

theorem union_st {p q : Nat → Bool} (W : World) : Calls Try.prog 26 #[.agg #[.int .u64 (wd p 0 64 : Nat), .int .u64 (wd p 64 64 : Nat), .int .u64 (wd p 128 64 : Nat), .int .u64 (wd p 192 64 : Nat)], .agg #[.int .u64 (wd q 0 64 : Nat), .int .u64 (wd q 64 64 : Nat), .int .u64 (wd q 128 64 : Nat), .int .u64 (wd q 192 64 : Nat)]] W fun e w' => e = .returned (.agg #[.int .u64 (wd (uniP p q) 0 64 : Nat), .int .u64 (wd (uniP p q) 64 64 : Nat), .int .u64 (wd (uniP p q) 128 64 : Nat), .int .u64 (wd (uniP p q) 192 64 : Nat)]) ∧ Below W.heap.size W w' := runion_any p q W

theorem cat_any (ps : List FC) (pv : Value) (n0 : Nat) (w : World) (h : PV 59 7 cells_f w n0 ps pv) (hok : ∀ y, y ∈ ps → FOk y) (hl : ps.length ≤ 600) :
    Calls Try.prog 77 #[pv] w fun e w' => e = .returned (.agg (fc7 (ps.foldl catS FC1))) ∧ Below w.heap.size w w' := by
  have hl' : (ps.length : Int) ≤ 600 := by omega
  obtain ⟨qad, qcap, rfl⟩ := own_sl h
  have HP := Lib.hid h
  have HOk := Lib.hid hok
  obtain ⟨A, hA⟩ : ∃ A, A = ps.foldl catS FC1 := ⟨_, rfl⟩
  rw [← hA]
  have HA := Lib.hid hA
  have hx0 : XS w FC1 ((w.alloc (.cells z7 59)).alloc (.cells #[.bool true, .int .i64 0, .int .i64 0, .int .u64 0, .int .u64 0, .int .u64 0, .int .u64 0] 59)) := by
    refine ⟨((Below.refl _ _).alloc (Nat.le_refl _) _).alloc (by simp) _, ?_, ?_⟩
    · rw [Below.heap_alloc _ _ _ (by simp)]
      exact heap_alloc_new w _
    · have := heap_alloc_new (w.alloc (.cells z7 59)) (.cells #[.bool true, .int .i64 0, .int .i64 0, .int .u64 0, .int .u64 0, .int .u64 0, .int .u64 0] 59)
      have hz : (w.alloc (.cells z7 59)).heap.size = w.heap.size + 1 := by simp
      rw [hz] at this
      unfold fc7 FC1
      rw [wd_noSet.1, wd_noSet.2.1, wd_noSet.2.2.1, wd_noSet.2.2.2]
      exact this
  have HX0 := Lib.hid hx0
  clear h hok hl hA hx0
  go_enter Try.func77, Try.ntmps77
  go_wp2_with fail
  go_loopw [4] (fun i wr => ∃ (k : Nat) (x : FC), k ≤ ps.length ∧ i = .int .i64 k ∧ Hid (XS w x wr ∧ FOk x ∧ A = (ps.drop k).foldl catS x)) (fun i _ => ps.length - (intOf i).toNat)
  case atStart => exact ⟨0, FC1, Nat.zero_le _, rfl, Lib.hid ⟨HX0.out, fok1, HA.out⟩⟩
  case round =>
    obtain ⟨k, x, hk, rfl, HB⟩ := hrel
    by_cases hkn : k < ps.length
    · have ki : (k : Int) < ps.length := by omega
      have ki0 : (0 : Int) ≤ k := by omega
      have hst := HB.out.2.2
      rw [List.drop_eq_getElem_cons hkn, List.foldl_cons] at hst
      have hy := HOk.out ps[k] (List.getElem_mem hkn)
      obtain ⟨q, rfl, _⟩ := fac_at HP.out HB.out.1.bel k hkn
      have HL : Hid (∀ wx, Below w.heap.size w wx → (wx.cell? ⟨q, k * 7, none⟩ = some (.bool ps[k].nul) ∧ wx.cell? ⟨q, k * 7 + 1, none⟩ = some (.int .i64 ps[k].lo) ∧ wx.cell? ⟨q, k * 7 + 2, none⟩ = some (.int .i64 ps[k].hi)) ∧ wx.cell? ⟨q, k * 7 + 3, none⟩ = some (.int .u64 (wd ps[k].st 0 64 : Nat)) ∧ wx.cell? ⟨q, k * 7 + 4, none⟩ = some (.int .u64 (wd ps[k].st 64 64 : Nat)) ∧ wx.cell? ⟨q, k * 7 + 5, none⟩ = some (.int .u64 (wd ps[k].st 128 64 : Nat)) ∧ wx.cell? ⟨q, k * 7 + 6, none⟩ = some (.int .u64 (wd ps[k].st 192 64 : Nat))) := Lib.hid fun wx hb => by
        obtain ⟨q', e, r⟩ := fac_at HP.out hb k hkn
        cases e
        exact r
      generalize ps[k] = y at *
      obtain ⟨yn, yl, yh, ys⟩ := y
      obtain ⟨xn, xl, xh, xs⟩ := x
      have HSt := Lib.hid hst
      have HY := Lib.hid hy
      have h0 := HB.out.1
      have HS1 := Lib.hid (fun W => rsum_any xl yl ⟨by have h1 := HB.out.2.1.1.1; simp only at h1; omega, HB.out.2.1.1.2⟩ ⟨by have h1 := hy.1.1; simp only at h1; omega, hy.1.2⟩ W)
      have HS2 := Lib.hid (fun W => rsum_any xh yh HB.out.2.1.2 hy.2 W)
      have HXO := Lib.hid HB.out.2.1
      clear hst hy HB HOk HP
      cases xn
      · obtain ⟨⟨x0, x1, x2⟩, x3, x4, x5, x6⟩ := h0.cells
        obtain ⟨⟨y0, y1, y2⟩, y3, y4, y5, y6⟩ := HL.out _ h0.bel
        have fz0 := h0.free 0
        have fz1 := h0.free 1
        have fz2 := h0.free 2
        have fz3 := h0.free 3
        have fz4 := h0.free 4
        have fz5 := h0.free 5
        have fz6 := h0.free 6
        go_upto_region 8 with fail
        have h1 := h0.nul false
        clear h0
        clear x0 x1 x2 x3 x4 x5 x6 y0 y1 y2 y3 y4 y5 y6 fz0 fz1 fz2 fz3 fz4 fz5 fz6
        generalize wr.setCell ⟨w.heap.size + 1, 0, none⟩ (.bool false) = w1 at *
        obtain ⟨⟨x0, x1, x2⟩, x3, x4, x5, x6⟩ := h1.cells
        obtain ⟨⟨y0, y1, y2⟩, y3, y4, y5, y6⟩ := HL.out _ h1.bel
        have fz0 := h1.free 0
        have fz1 := h1.free 1
        have fz2 := h1.free 2
        have fz3 := h1.free 3
        have fz4 := h1.free 4
        have fz5 := h1.free 5
        have fz6 := h1.free 6
        go_still_tail 7, (by kernel_rfl)
        change wpList _ _ _ _ _ w1.drew
        have h2 := h1.drew
        clear h1
        clear x0 x1 x2 x3 x4 x5 x6 y0 y1 y2 y3 y4 y5 y6 fz0 fz1 fz2 fz3 fz4 fz5 fz6
        generalize w1.drew = w2 at *
        obtain ⟨⟨x0, x1, x2⟩, x3, x4, x5, x6⟩ := h2.cells
        obtain ⟨⟨y0, y1, y2⟩, y3, y4, y5, y6⟩ := HL.out _ h2.bel
        have fz0 := h2.free 0
        have fz1 := h2.free 1
        have fz2 := h2.free 2
        have fz3 := h2.free 3
        have fz4 := h2.free 4
        have fz5 := h2.free 5
        have fz6 := h2.free 6
        go_upto_region 9 with (first
          | (go_at_call 86; (with_reducible refine (HS1.out _).mono ?_); rintro e w9 ⟨rfl, rfl⟩))
        have h3 := h2.lo (rsum xl yl)
        clear h2
        clear x0 x1 x2 x3 x4 x5 x6 y0 y1 y2 y3 y4 y5 y6 fz0 fz1 fz2 fz3 fz4 fz5 fz6
        generalize w9.setCell ⟨w.heap.size + 1, 1, none⟩ (.int .i64 (rsum xl yl)) = w3 at *
        obtain ⟨⟨x0, x1, x2⟩, x3, x4, x5, x6⟩ := h3.cells
        obtain ⟨⟨y0, y1, y2⟩, y3, y4, y5, y6⟩ := HL.out _ h3.bel
        have fz0 := h3.free 0
        have fz1 := h3.free 1
        have fz2 := h3.free 2
        have fz3 := h3.free 3
        have fz4 := h3.free 4
        have fz5 := h3.free 5
        have fz6 := h3.free 6
        go_still_tail 7, (by kernel_rfl)
        change wpList _ _ _ _ _ w3.drew
        have h4 := h3.drew
        clear h3
        clear x0 x1 x2 x3 x4 x5 x6 y0 y1 y2 y3 y4 y5 y6 fz0 fz1 fz2 fz3 fz4 fz5 fz6
        generalize w3.drew = w4 at *
        obtain ⟨⟨x0, x1, x2⟩, x3, x4, x5, x6⟩ := h4.cells
        obtain ⟨⟨y0, y1, y2⟩, y3, y4, y5, y6⟩ := HL.out _ h4.bel
        have fz0 := h4.free 0
        have fz1 := h4.free 1
        have fz2 := h4.free 2
        have fz3 := h4.free 3
        have fz4 := h4.free 4
        have fz5 := h4.free 5
        have fz6 := h4.free 6
        go_wp2_with (first
          | (go_at_call 86; (with_reducible refine (HS2.out _).mono ?_); rintro e w9 ⟨rfl, rfl⟩))
        have h5 := h4.hi (rsum xh yh)
        clear h4
        clear x0 x1 x2 x3 x4 x5 x6 y0 y1 y2 y3 y4 y5 y6 fz0 fz1 fz2 fz3 fz4 fz5 fz6
        generalize w9.setCell ⟨w.heap.size + 1, 2, none⟩ (.int .i64 (rsum xh yh)) = w5 at *
        go_roundw
        case rel => exact ⟨k + 1, catS ⟨false, xl, xh, xs⟩ ⟨yn, yl, yh, ys⟩, by omega, by go_num, Lib.hid ⟨h5, catS_ok [⟨yn, yl, yh, ys⟩] ⟨false, xl, xh, xs⟩ HXO.out (fun z hz => by rw [List.mem_singleton.1 hz]; exact HY.out), HSt.out⟩⟩
        case measure => simp [intOf]; omega
      · skip
        obtain ⟨⟨x0, x1, x2⟩, x3, x4, x5, x6⟩ := h0.cells
        obtain ⟨⟨y0, y1, y2⟩, y3, y4, y5, y6⟩ := HL.out _ h0.bel
        have fz0 := h0.free 0
        have fz1 := h0.free 1
        have fz2 := h0.free 2
        have fz3 := h0.free 3
        have fz4 := h0.free 4
        have fz5 := h0.free 5
        have fz6 := h0.free 6
        go_upto_region 6 with fail
        go_still_tail 7, (by kernel_rfl)
        change wpList _ _ _ _ _ wr.drew
        have hd := h0.drew
        clear h0
        clear x0 x1 x2 x3 x4 x5 x6 y0 y1 y2 y3 y4 y5 y6 fz0 fz1 fz2 fz3 fz4 fz5 fz6
        generalize wr.drew = wdr at *
        obtain ⟨⟨x0, x1, x2⟩, x3, x4, x5, x6⟩ := hd.cells
        obtain ⟨⟨y0, y1, y2⟩, y3, y4, y5, y6⟩ := HL.out _ hd.bel
        have fz0 := hd.free 0
        have fz1 := hd.free 1
        have fz2 := hd.free 2
        have fz3 := hd.free 3
        have fz4 := hd.free 4
        have fz5 := hd.free 5
        have fz6 := hd.free 6
        go_upto_region 7 with (first
          | (go_at_call 26; (with_reducible refine (union_st (p := xs) (q := ys) _).mono ?_); rintro e w6 ⟨rfl, hb⟩
             have h6 := hd.below hb
             clear hb hd
             clear x0 x1 x2 x3 x4 x5 x6 y0 y1 y2 y3 y4 y5 y6 fz0 fz1 fz2 fz3 fz4 fz5 fz6
             obtain ⟨⟨x0, x1, x2⟩, x3, x4, x5, x6⟩ := h6.cells
             obtain ⟨⟨y0, y1, y2⟩, y3, y4, y5, y6⟩ := HL.out _ h6.bel
             have fz0 := h6.free 0
             have fz1 := h6.free 1
             have fz2 := h6.free 2
             have fz3 := h6.free 3
             have fz4 := h6.free 4
             have fz5 := h6.free 5
             have fz6 := h6.free 6
             ))
        have h7 := h6.st (uniP xs ys)
        clear h6
        clear x0 x1 x2 x3 x4 x5 x6 y0 y1 y2 y3 y4 y5 y6 fz0 fz1 fz2 fz3 fz4 fz5 fz6
        generalize (((w6.setCell ⟨w.heap.size + 1, 3, none⟩ (.int .u64 (wd (uniP xs ys) 0 64 : Nat))).setCell ⟨w.heap.size + 1, 4, none⟩ (.int .u64 (wd (uniP xs ys) 64 64 : Nat))).setCell ⟨w.heap.size + 1, 5, none⟩ (.int .u64 (wd (uniP xs ys) 128 64 : Nat))).setCell ⟨w.heap.size + 1, 6, none⟩ (.int .u64 (wd (uniP xs ys) 192 64 : Nat)) = w7 at *
        obtain ⟨⟨x0, x1, x2⟩, x3, x4, x5, x6⟩ := h7.cells
        obtain ⟨⟨y0, y1, y2⟩, y3, y4, y5, y6⟩ := HL.out _ h7.bel
        have fz0 := h7.free 0
        have fz1 := h7.free 1
        have fz2 := h7.free 2
        have fz3 := h7.free 3
        have fz4 := h7.free 4
        have fz5 := h7.free 5
        have fz6 := h7.free 6
        go_upto_region 8 with fail
        have h1 := h7.nul yn
        clear h7
        clear x0 x1 x2 x3 x4 x5 x6 y0 y1 y2 y3 y4 y5 y6 fz0 fz1 fz2 fz3 fz4 fz5 fz6
        generalize w7.setCell ⟨w.heap.size + 1, 0, none⟩ (.bool yn) = w1 at *
        obtain ⟨⟨x0, x1, x2⟩, x3, x4, x5, x6⟩ := h1.cells
        obtain ⟨⟨y0, y1, y2⟩, y3, y4, y5, y6⟩ := HL.out _ h1.bel
        have fz0 := h1.free 0
        have fz1 := h1.free 1
        have fz2 := h1.free 2
        have fz3 := h1.free 3
        have fz4 := h1.free 4
        have fz5 := h1.free 5
        have fz6 := h1.free 6
        go_still_tail 7, (by kernel_rfl)
        change wpList _ _ _ _ _ w1.drew
        have h2 := h1.drew
        clear h1
        clear x0 x1 x2 x3 x4 x5 x6 y0 y1 y2 y3 y4 y5 y6 fz0 fz1 fz2 fz3 fz4 fz5 fz6
        generalize w1.drew = w2 at *
        obtain ⟨⟨x0, x1, x2⟩, x3, x4, x5, x6⟩ := h2.cells
        obtain ⟨⟨y0, y1, y2⟩, y3, y4, y5, y6⟩ := HL.out _ h2.bel
        have fz0 := h2.free 0
        have fz1 := h2.free 1
        have fz2 := h2.free 2
        have fz3 := h2.free 3
        have fz4 := h2.free 4
        have fz5 := h2.free 5
        have fz6 := h2.free 6
        go_upto_region 9 with (first
          | (go_at_call 86; (with_reducible refine (HS1.out _).mono ?_); rintro e w9 ⟨rfl, rfl⟩))
        have h3 := h2.lo (rsum xl yl)
        clear h2
        clear x0 x1 x2 x3 x4 x5 x6 y0 y1 y2 y3 y4 y5 y6 fz0 fz1 fz2 fz3 fz4 fz5 fz6
        generalize w9.setCell ⟨w.heap.size + 1, 1, none⟩ (.int .i64 (rsum xl yl)) = w3 at *
        obtain ⟨⟨x0, x1, x2⟩, x3, x4, x5, x6⟩ := h3.cells
        obtain ⟨⟨y0, y1, y2⟩, y3, y4, y5, y6⟩ := HL.out _ h3.bel
        have fz0 := h3.free 0
        have fz1 := h3.free 1
        have fz2 := h3.free 2
        have fz3 := h3.free 3
        have fz4 := h3.free 4
        have fz5 := h3.free 5
        have fz6 := h3.free 6
        go_still_tail 7, (by kernel_rfl)
        change wpList _ _ _ _ _ w3.drew
        have h4 := h3.drew
        clear h3
        clear x0 x1 x2 x3 x4 x5 x6 y0 y1 y2 y3 y4 y5 y6 fz0 fz1 fz2 fz3 fz4 fz5 fz6
        generalize w3.drew = w4 at *
        obtain ⟨⟨x0, x1, x2⟩, x3, x4, x5, x6⟩ := h4.cells
        obtain ⟨⟨y0, y1, y2⟩, y3, y4, y5, y6⟩ := HL.out _ h4.bel
        have fz0 := h4.free 0
        have fz1 := h4.free 1
        have fz2 := h4.free 2
        have fz3 := h4.free 3
        have fz4 := h4.free 4
        have fz5 := h4.free 5
        have fz6 := h4.free 6
        go_wp2_with (first
          | (go_at_call 86; (with_reducible refine (HS2.out _).mono ?_); rintro e w9 ⟨rfl, rfl⟩))
        have h5 := h4.hi (rsum xh yh)
        clear h4
        clear x0 x1 x2 x3 x4 x5 x6 y0 y1 y2 y3 y4 y5 y6 fz0 fz1 fz2 fz3 fz4 fz5 fz6
        generalize w9.setCell ⟨w.heap.size + 1, 2, none⟩ (.int .i64 (rsum xh yh)) = w5 at *
        go_roundw
        case rel => exact ⟨k + 1, catS ⟨true, xl, xh, xs⟩ ⟨yn, yl, yh, ys⟩, by omega, by go_num, Lib.hid ⟨h5, catS_ok [⟨yn, yl, yh, ys⟩] ⟨true, xl, xh, xs⟩ HXO.out (fun z hz => by rw [List.mem_singleton.1 hz]; exact HY.out), HSt.out⟩⟩
        case measure => simp [intOf]; omega
    · obtain rfl : k = ps.length := by omega
      have hst := HB.out.2.2
      rw [List.drop_length, List.foldl_nil] at hst
      subst hst
      have hr := HB.out.1.res
      have ha := HB.out.1.acc
      have HBl := Lib.hid HB.out.1.bel
      clear HA HB
      go_wp2_with (first
        | (refine wpList_load_row rfl 59 _ rfl (w.heap.size + 1) rfl 59 (fc7 A) (0, 0) _ ha Try.underlying59 rfl isz_f ?_)
        | (refine wpList_store_row rfl 59 (.tmp 2) (.tmp 51) rfl w.heap.size (fc7 A) rfl rfl 59 _ hr isz_f rfl (by simp [Value.oneCell']) ?_))
      refine bodyPost_ret (v := .agg (fc7 A)) (results_cell_row rfl _ _ w.heap.size _ (fc7 A) (0, 0) _ rfl (setRow_heap wr _ _ _ _ _ hr) Try.underlying59 rfl isz_f) rfl ?_
      exact ⟨rfl, below_setRow HBl.out (Nat.le_refl _) _⟩
end Go.Proofs.Ytpfbpgbgedbalaa
/- The reference's alt. -/
set_option linter.unusedVariables false
set_option linter.unusedSimpArgs false
set_option maxRecDepth 100000
set_option maxHeartbeats 8000000
namespace Go.Proofs.Ytpfbpgbgedbalaa
open Go.RowKit

theorem alt_any (y0 : FC) (r : List FC) (pv : Value) (n0 : Nat) (w : World) (h : PV 59 7 cells_f w n0 (y0 :: r) pv) (hok : ∀ y, y ∈ y0 :: r → FOk y) (hl : (y0 :: r).length ≤ 600) :
    Calls Try.prog 78 #[pv] w fun e w' => e = .returned (.agg (fc7 (r.foldl altS y0))) ∧ Below w.heap.size w w' := by
  obtain ⟨qad, qcap, rfl⟩ := own_sl h
  have hp0 : 0 < (y0 :: r).length := by simp
  obtain ⟨q, rfl, ⟨z0, z1, z2⟩, z3, z4, z5, z6⟩ := fac_at h (Below.refl w.heap.size w) 0 hp0
  rw [Nat.zero_mul] at z0 z1 z2 z3 z4 z5 z6
  simp only [List.getElem_cons_zero, Nat.zero_add] at z0 z1 z2 z3 z4 z5 z6
  have hHL : ∀ k (hk : k < r.length) wx, Below w.heap.size w wx → (wx.cell? ⟨q, (k + 1) * 7, none⟩ = some (.bool r[k].nul) ∧ wx.cell? ⟨q, (k + 1) * 7 + 1, none⟩ = some (.int .i64 r[k].lo) ∧ wx.cell? ⟨q, (k + 1) * 7 + 2, none⟩ = some (.int .i64 r[k].hi)) ∧ wx.cell? ⟨q, (k + 1) * 7 + 3, none⟩ = some (.int .u64 (wd r[k].st 0 64 : Nat)) ∧ wx.cell? ⟨q, (k + 1) * 7 + 4, none⟩ = some (.int .u64 (wd r[k].st 64 64 : Nat)) ∧ wx.cell? ⟨q, (k + 1) * 7 + 5, none⟩ = some (.int .u64 (wd r[k].st 128 64 : Nat)) ∧ wx.cell? ⟨q, (k + 1) * 7 + 6, none⟩ = some (.int .u64 (wd r[k].st 192 64 : Nat)) := fun k hk wx hb => by
    obtain ⟨q', e, rr⟩ := fac_at h hb (k + 1) (by simpa using hk)
    cases e
    exact rr
  have HHL := Lib.hid hHL
  have hq : q < w.heap.size := (own_at h q rfl).2
  have hln : (y0 :: r).length = r.length + 1 := rfl
  rw [hln] at h hl hp0 ⊢
  have hl' : (r.length : Int) + 1 ≤ 600 := by omega
  have HOk := Lib.hid hok
  obtain ⟨A, hA⟩ : ∃ A, A = r.foldl altS y0 := ⟨_, rfl⟩
  rw [← hA]
  have HA := Lib.hid hA
  have hx0 : XS w y0 ((w.alloc (.cells z7 59)).alloc (.cells (fc7 y0) 59)) := by
    refine ⟨((Below.refl _ _).alloc (Nat.le_refl _) _).alloc (by simp) _, ?_, ?_⟩
    · rw [Below.heap_alloc _ _ _ (by simp)]
      exact heap_alloc_new w _
    · have := heap_alloc_new (w.alloc (.cells z7 59)) (.cells (fc7 y0) 59)
      have hz : (w.alloc (.cells z7 59)).heap.size = w.heap.size + 1 := by simp
      rw [hz] at this
      exact this
  have HX0 := Lib.hid hx0
  have hcap : ¬ (qcap : Int) < (r.length : Int) + 1 := by
    rcases h.2 with ⟨e, _⟩ | ⟨g, cap, cur, e, _, _, hle, _⟩
    · cases e
    · cases e; omega
  clear h hok hl hA hx0 hHL hln
  go_enter Try.func78, Try.ntmps78
  go_wp2_with fail
  go_loopw [4] (fun i wr => ∃ (k : Nat) (x : FC), k ≤ r.length ∧ i = .int .i64 ((k + 1 : Nat) : Int) ∧ Hid (XS w x wr ∧ FOk x ∧ A = (r.drop k).foldl altS x)) (fun i _ => r.length + 1 - (intOf i).toNat)
  case atStart => exact ⟨0, y0, Nat.zero_le _, rfl, Lib.hid ⟨HX0.out, HOk.out y0 (List.mem_cons_self ..), HA.out⟩⟩
  case round =>
    obtain ⟨k, x, hk, rfl, HB⟩ := hrel
    clear z0 z1 z2 z3 z4 z5 z6
    by_cases hkn : k < r.length
    · have ki : ((k + 1 : Nat) : Int) < (r.length : Int) + 1 := by omega
      have ki2 : k + 1 < r.length + 1 := by omega
      have ki0 : (0 : Int) ≤ ((k + 1 : Nat) : Int) := by omega
      have hst := HB.out.2.2
      rw [List.drop_eq_getElem_cons hkn, List.foldl_cons] at hst
      have hy := HOk.out r[k] (List.mem_cons_of_mem _ (List.getElem_mem hkn))
      have HL := Lib.hid (HHL.out k hkn)
      generalize r[k] = y at *
      obtain ⟨yn, yl, yh, ys⟩ := y
      obtain ⟨xn, xl, xh, xs⟩ := x
      have HSt := Lib.hid hst
      have HY := Lib.hid hy
      have h0 := HB.out.1
      have HXO := Lib.hid HB.out.2.1
      have hok2 : FOk (altS ⟨xn, xl, xh, xs⟩ ⟨yn, yl, yh, ys⟩) := (alt_fold [⟨yn, yl, yh, ys⟩] ⟨xn, xl, xh, xs⟩ HB.out.2.1 (fun z hz => by rw [List.mem_singleton.1 hz]; exact hy)).2.2.2
      have HO2 := Lib.hid hok2
      clear hst hy HB HOk HHL hok2
      generalize hK : k + 1 = K at *
      have HK := Lib.hid hK
      clear hK
      cases xn
      · obtain ⟨⟨x0, x1, x2⟩, x3, x4, x5, x6⟩ := h0.cells
        obtain ⟨⟨y0, y1, y2⟩, y3, y4, y5, y6⟩ := HL.out _ h0.bel
        have fz0 := h0.free 0
        have fz1 := h0.free 1
        have fz2 := h0.free 2
        have fz3 := h0.free 3
        have fz4 := h0.free 4
        have fz5 := h0.free 5
        have fz6 := h0.free 6
        go_upto_region 6 with fail
        have h1 := h0.nul yn
        clear h0
        clear x0 x1 x2 x3 x4 x5 x6 y0 y1 y2 y3 y4 y5 y6 fz0 fz1 fz2 fz3 fz4 fz5 fz6
        generalize wr.setCell ⟨w.heap.size + 1, 0, none⟩ (.bool yn) = w1 at *
        obtain ⟨⟨x0, x1, x2⟩, x3, x4, x5, x6⟩ := h1.cells
        obtain ⟨⟨y0, y1, y2⟩, y3, y4, y5, y6⟩ := HL.out _ h1.bel
        have fz0 := h1.free 0
        have fz1 := h1.free 1
        have fz2 := h1.free 2
        have fz3 := h1.free 3
        have fz4 := h1.free 4
        have fz5 := h1.free 5
        have fz6 := h1.free 6
        go_still_tail 7, (by kernel_rfl)
        change wpList _ _ _ _ _ w1.drew
        have hd := h1.drew
        clear h1
        clear x0 x1 x2 x3 x4 x5 x6 y0 y1 y2 y3 y4 y5 y6 fz0 fz1 fz2 fz3 fz4 fz5 fz6
        generalize w1.drew = wdr at *
        obtain ⟨⟨x0, x1, x2⟩, x3, x4, x5, x6⟩ := hd.cells
        obtain ⟨⟨y0, y1, y2⟩, y3, y4, y5, y6⟩ := HL.out _ hd.bel
        have fz0 := hd.free 0
        have fz1 := hd.free 1
        have fz2 := hd.free 2
        have fz3 := hd.free 3
        have fz4 := hd.free 4
        have fz5 := hd.free 5
        have fz6 := hd.free 6
        go_upto_region 7 with (first
          | (go_at_call 26; (with_reducible refine (union_st (p := xs) (q := ys) _).mono ?_); rintro e w6 ⟨rfl, hb⟩
             have h6 := hd.below hb
             clear hb hd
             clear x0 x1 x2 x3 x4 x5 x6 y0 y1 y2 y3 y4 y5 y6 fz0 fz1 fz2 fz3 fz4 fz5 fz6
             obtain ⟨⟨x0, x1, x2⟩, x3, x4, x5, x6⟩ := h6.cells
             obtain ⟨⟨y0, y1, y2⟩, y3, y4, y5, y6⟩ := HL.out _ h6.bel
             have fz0 := h6.free 0
             have fz1 := h6.free 1
             have fz2 := h6.free 2
             have fz3 := h6.free 3
             have fz4 := h6.free 4
             have fz5 := h6.free 5
             have fz6 := h6.free 6
             ))
        have h7 := h6.st (uniP xs ys)
        clear h6
        clear x0 x1 x2 x3 x4 x5 x6 y0 y1 y2 y3 y4 y5 y6 fz0 fz1 fz2 fz3 fz4 fz5 fz6
        generalize (((w6.setCell ⟨w.heap.size + 1, 3, none⟩ (.int .u64 (wd (uniP xs ys) 0 64 : Nat))).setCell ⟨w.heap.size + 1, 4, none⟩ (.int .u64 (wd (uniP xs ys) 64 64 : Nat))).setCell ⟨w.heap.size + 1, 5, none⟩ (.int .u64 (wd (uniP xs ys) 128 64 : Nat))).setCell ⟨w.heap.size + 1, 6, none⟩ (.int .u64 (wd (uniP xs ys) 192 64 : Nat)) = w7 at *
        by_cases cl : yl < xl
        case pos =>
          obtain ⟨⟨x0, x1, x2⟩, x3, x4, x5, x6⟩ := h7.cells
          obtain ⟨⟨y0, y1, y2⟩, y3, y4, y5, y6⟩ := HL.out _ h7.bel
          have fz0 := h7.free 0
          have fz1 := h7.free 1
          have fz2 := h7.free 2
          have fz3 := h7.free 3
          have fz4 := h7.free 4
          have fz5 := h7.free 5
          have fz6 := h7.free 6
          go_quiet (fail)
          have hq7 := h7.drewN nq
          clear h7
          clear x0 x1 x2 x3 x4 x5 x6 y0 y1 y2 y3 y4 y5 y6 fz0 fz1 fz2 fz3 fz4 fz5 fz6
          generalize w7.drewN nq = wq7 at *
          obtain ⟨⟨x0, x1, x2⟩, x3, x4, x5, x6⟩ := hq7.cells
          obtain ⟨⟨y0, y1, y2⟩, y3, y4, y5, y6⟩ := HL.out _ hq7.bel
          have fz0 := hq7.free 0
          have fz1 := hq7.free 1
          have fz2 := hq7.free 2
          have fz3 := hq7.free 3
          have fz4 := hq7.free 4
          have fz5 := hq7.free 5
          have fz6 := hq7.free 6
          go_upto_region 9 with fail
          have h8 := hq7.lo yl
          clear hq7
          clear x0 x1 x2 x3 x4 x5 x6 y0 y1 y2 y3 y4 y5 y6 fz0 fz1 fz2 fz3 fz4 fz5 fz6
          generalize wq7.setCell ⟨w.heap.size + 1, 1, none⟩ (.int .i64 yl) = w8 at *
          by_cases c0 : 0 ≤ xh
          case neg =>
            have d0 : decide (0 ≤ xh) = false := decide_eq_false c0
            obtain ⟨⟨x0, x1, x2⟩, x3, x4, x5, x6⟩ := h8.cells
            obtain ⟨⟨y0, y1, y2⟩, y3, y4, y5, y6⟩ := HL.out _ h8.bel
            have fz0 := h8.free 0
            have fz1 := h8.free 1
            have fz2 := h8.free 2
            have fz3 := h8.free 3
            have fz4 := h8.free 4
            have fz5 := h8.free 5
            have fz6 := h8.free 6
            go_quiet (fail)
            have hq9 := h8.drewN nq
            clear h8
            clear x0 x1 x2 x3 x4 x5 x6 y0 y1 y2 y3 y4 y5 y6 fz0 fz1 fz2 fz3 fz4 fz5 fz6
            generalize w8.drewN nq = wq9 at *
            obtain ⟨⟨x0, x1, x2⟩, x3, x4, x5, x6⟩ := hq9.cells
            obtain ⟨⟨y0, y1, y2⟩, y3, y4, y5, y6⟩ := HL.out _ hq9.bel
            have fz0 := hq9.free 0
            have fz1 := hq9.free 1
            have fz2 := hq9.free 2
            have fz3 := hq9.free 3
            have fz4 := hq9.free 4
            have fz5 := hq9.free 5
            have fz6 := hq9.free 6
            go_wp2_with fail
            have h9 := hq9
            clear hq9
            clear x0 x1 x2 x3 x4 x5 x6 y0 y1 y2 y3 y4 y5 y6 fz0 fz1 fz2 fz3 fz4 fz5 fz6
            have e9 : altS ⟨false, xl, xh, xs⟩ ⟨yn, yl, yh, ys⟩ = ⟨yn, yl, xh, uniP xs ys⟩ := by
              show FC.mk _ _ _ _ = _
              rw [if_pos cl]
              rw [if_neg (show ¬ (0 ≤ xh ∧ (yh < 0 ∨ xh < yh)) by omega)]
              rfl
            replace h9 : XS w ⟨yn, yl, xh, uniP xs ys⟩ _ := h9
            rw [← e9] at h9
            go_roundw
            case rel => exact ⟨k + 1, altS ⟨false, xl, xh, xs⟩ ⟨yn, yl, yh, ys⟩, by omega, by rw [← HK.out]; go_num, Lib.hid ⟨h9, HO2.out, by rw [HK.out]; exact HSt.out⟩⟩
            case measure => have := HK.out; simp [intOf]; omega
          by_cases c1 : yh < 0
          case pos =>
            have d0 : decide (0 ≤ xh) = true := decide_eq_true c0
            have d1 : decide (yh < 0) = true := decide_eq_true c1
            obtain ⟨⟨x0, x1, x2⟩, x3, x4, x5, x6⟩ := h8.cells
            obtain ⟨⟨y0, y1, y2⟩, y3, y4, y5, y6⟩ := HL.out _ h8.bel
            have fz0 := h8.free 0
            have fz1 := h8.free 1
            have fz2 := h8.free 2
            have fz3 := h8.free 3
            have fz4 := h8.free 4
            have fz5 := h8.free 5
            have fz6 := h8.free 6
            go_quiet (fail)
            have hq9 := h8.drewN nq
            clear h8
            clear x0 x1 x2 x3 x4 x5 x6 y0 y1 y2 y3 y4 y5 y6 fz0 fz1 fz2 fz3 fz4 fz5 fz6
            generalize w8.drewN nq = wq9 at *
            obtain ⟨⟨x0, x1, x2⟩, x3, x4, x5, x6⟩ := hq9.cells
            obtain ⟨⟨y0, y1, y2⟩, y3, y4, y5, y6⟩ := HL.out _ hq9.bel
            have fz0 := hq9.free 0
            have fz1 := hq9.free 1
            have fz2 := hq9.free 2
            have fz3 := hq9.free 3
            have fz4 := hq9.free 4
            have fz5 := hq9.free 5
            have fz6 := hq9.free 6
            go_wp2_with fail
            have h9 := hq9.hi yh
            clear hq9
            clear x0 x1 x2 x3 x4 x5 x6 y0 y1 y2 y3 y4 y5 y6 fz0 fz1 fz2 fz3 fz4 fz5 fz6
            have e9 : altS ⟨false, xl, xh, xs⟩ ⟨yn, yl, yh, ys⟩ = ⟨yn, yl, yh, uniP xs ys⟩ := by
              show FC.mk _ _ _ _ = _
              rw [if_pos cl]
              rw [if_pos (show 0 ≤ xh ∧ (yh < 0 ∨ xh < yh) by omega)]
              rfl
            replace h9 : XS w ⟨yn, yl, yh, uniP xs ys⟩ _ := h9
            rw [← e9] at h9
            go_roundw
            case rel => exact ⟨k + 1, altS ⟨false, xl, xh, xs⟩ ⟨yn, yl, yh, ys⟩, by omega, by rw [← HK.out]; go_num, Lib.hid ⟨h9, HO2.out, by rw [HK.out]; exact HSt.out⟩⟩
            case measure => have := HK.out; simp [intOf]; omega
          by_cases c2 : xh < yh
          case pos =>
            have d0 : decide (0 ≤ xh) = true := decide_eq_true c0
            have d1 : decide (yh < 0) = false := decide_eq_false c1
            have d2 : decide (xh < yh) = true := decide_eq_true c2
            obtain ⟨⟨x0, x1, x2⟩, x3, x4, x5, x6⟩ := h8.cells
            obtain ⟨⟨y0, y1, y2⟩, y3, y4, y5, y6⟩ := HL.out _ h8.bel
            have fz0 := h8.free 0
            have fz1 := h8.free 1
            have fz2 := h8.free 2
            have fz3 := h8.free 3
            have fz4 := h8.free 4
            have fz5 := h8.free 5
            have fz6 := h8.free 6
            go_quiet (fail)
            have hq9 := h8.drewN nq
            clear h8
            clear x0 x1 x2 x3 x4 x5 x6 y0 y1 y2 y3 y4 y5 y6 fz0 fz1 fz2 fz3 fz4 fz5 fz6
            generalize w8.drewN nq = wq9 at *
            obtain ⟨⟨x0, x1, x2⟩, x3, x4, x5, x6⟩ := hq9.cells
            obtain ⟨⟨y0, y1, y2⟩, y3, y4, y5, y6⟩ := HL.out _ hq9.bel
            have fz0 := hq9.free 0
            have fz1 := hq9.free 1
            have fz2 := hq9.free 2
            have fz3 := hq9.free 3
            have fz4 := hq9.free 4
            have fz5 := hq9.free 5
            have fz6 := hq9.free 6
            go_wp2_with fail
            have h9 := hq9.hi yh
            clear hq9
            clear x0 x1 x2 x3 x4 x5 x6 y0 y1 y2 y3 y4 y5 y6 fz0 fz1 fz2 fz3 fz4 fz5 fz6
            have e9 : altS ⟨false, xl, xh, xs⟩ ⟨yn, yl, yh, ys⟩ = ⟨yn, yl, yh, uniP xs ys⟩ := by
              show FC.mk _ _ _ _ = _
              rw [if_pos cl]
              rw [if_pos (show 0 ≤ xh ∧ (yh < 0 ∨ xh < yh) by omega)]
              rfl
            replace h9 : XS w ⟨yn, yl, yh, uniP xs ys⟩ _ := h9
            rw [← e9] at h9
            go_roundw
            case rel => exact ⟨k + 1, altS ⟨false, xl, xh, xs⟩ ⟨yn, yl, yh, ys⟩, by omega, by rw [← HK.out]; go_num, Lib.hid ⟨h9, HO2.out, by rw [HK.out]; exact HSt.out⟩⟩
            case measure => have := HK.out; simp [intOf]; omega
          case neg =>
            have d0 : decide (0 ≤ xh) = true := decide_eq_true c0
            have d1 : decide (yh < 0) = false := decide_eq_false c1
            have d2 : decide (xh < yh) = false := decide_eq_false c2
            obtain ⟨⟨x0, x1, x2⟩, x3, x4, x5, x6⟩ := h8.cells
            obtain ⟨⟨y0, y1, y2⟩, y3, y4, y5, y6⟩ := HL.out _ h8.bel
            have fz0 := h8.free 0
            have fz1 := h8.free 1
            have fz2 := h8.free 2
            have fz3 := h8.free 3
            have fz4 := h8.free 4
            have fz5 := h8.free 5
            have fz6 := h8.free 6
            go_quiet (fail)
            have hq9 := h8.drewN nq
            clear h8
            clear x0 x1 x2 x3 x4 x5 x6 y0 y1 y2 y3 y4 y5 y6 fz0 fz1 fz2 fz3 fz4 fz5 fz6
            generalize w8.drewN nq = wq9 at *
            obtain ⟨⟨x0, x1, x2⟩, x3, x4, x5, x6⟩ := hq9.cells
            obtain ⟨⟨y0, y1, y2⟩, y3, y4, y5, y6⟩ := HL.out _ hq9.bel
            have fz0 := hq9.free 0
            have fz1 := hq9.free 1
            have fz2 := hq9.free 2
            have fz3 := hq9.free 3
            have fz4 := hq9.free 4
            have fz5 := hq9.free 5
            have fz6 := hq9.free 6
            go_wp2_with fail
            have h9 := hq9
            clear hq9
            clear x0 x1 x2 x3 x4 x5 x6 y0 y1 y2 y3 y4 y5 y6 fz0 fz1 fz2 fz3 fz4 fz5 fz6
            have e9 : altS ⟨false, xl, xh, xs⟩ ⟨yn, yl, yh, ys⟩ = ⟨yn, yl, xh, uniP xs ys⟩ := by
              show FC.mk _ _ _ _ = _
              rw [if_pos cl]
              rw [if_neg (show ¬ (0 ≤ xh ∧ (yh < 0 ∨ xh < yh)) by omega)]
              rfl
            replace h9 : XS w ⟨yn, yl, xh, uniP xs ys⟩ _ := h9
            rw [← e9] at h9
            go_roundw
            case rel => exact ⟨k + 1, altS ⟨false, xl, xh, xs⟩ ⟨yn, yl, yh, ys⟩, by omega, by rw [← HK.out]; go_num, Lib.hid ⟨h9, HO2.out, by rw [HK.out]; exact HSt.out⟩⟩
            case measure => have := HK.out; simp [intOf]; omega
        case neg =>
          obtain ⟨⟨x0, x1, x2⟩, x3, x4, x5, x6⟩ := h7.cells
          obtain ⟨⟨y0, y1, y2⟩, y3, y4, y5, y6⟩ := HL.out _ h7.bel
          have fz0 := h7.free 0
          have fz1 := h7.free 1
          have fz2 := h7.free 2
          have fz3 := h7.free 3
          have fz4 := h7.free 4
          have fz5 := h7.free 5
          have fz6 := h7.free 6
          go_quiet (fail)
          have hq7 := h7.drewN nq
          clear h7
          clear x0 x1 x2 x3 x4 x5 x6 y0 y1 y2 y3 y4 y5 y6 fz0 fz1 fz2 fz3 fz4 fz5 fz6
          generalize w7.drewN nq = wq7 at *
          obtain ⟨⟨x0, x1, x2⟩, x3, x4, x5, x6⟩ := hq7.cells
          obtain ⟨⟨y0, y1, y2⟩, y3, y4, y5, y6⟩ := HL.out _ hq7.bel
          have fz0 := hq7.free 0
          have fz1 := hq7.free 1
          have fz2 := hq7.free 2
          have fz3 := hq7.free 3
          have fz4 := hq7.free 4
          have fz5 := hq7.free 5
          have fz6 := hq7.free 6
          go_upto_region 9 with fail
          have h8 := hq7
          clear hq7
          clear x0 x1 x2 x3 x4 x5 x6 y0 y1 y2 y3 y4 y5 y6 fz0 fz1 fz2 fz3 fz4 fz5 fz6
          by_cases c0 : 0 ≤ xh
          case neg =>
            have d0 : decide (0 ≤ xh) = false := decide_eq_false c0
            obtain ⟨⟨x0, x1, x2⟩, x3, x4, x5, x6⟩ := h8.cells
            obtain ⟨⟨y0, y1, y2⟩, y3, y4, y5, y6⟩ := HL.out _ h8.bel
            have fz0 := h8.free 0
            have fz1 := h8.free 1
            have fz2 := h8.free 2
            have fz3 := h8.free 3
            have fz4 := h8.free 4
            have fz5 := h8.free 5
            have fz6 := h8.free 6
            go_quiet (fail)
            have hq9 := h8.drewN nq
            clear h8
            clear x0 x1 x2 x3 x4 x5 x6 y0 y1 y2 y3 y4 y5 y6 fz0 fz1 fz2 fz3 fz4 fz5 fz6
            generalize wq7.drewN nq = wq9 at *
            obtain ⟨⟨x0, x1, x2⟩, x3, x4, x5, x6⟩ := hq9.cells
            obtain ⟨⟨y0, y1, y2⟩, y3, y4, y5, y6⟩ := HL.out _ hq9.bel
            have fz0 := hq9.free 0
            have fz1 := hq9.free 1
            have fz2 := hq9.free 2
            have fz3 := hq9.free 3
            have fz4 := hq9.free 4
            have fz5 := hq9.free 5
            have fz6 := hq9.free 6
            go_wp2_with fail
            have h9 := hq9
            clear hq9
            clear x0 x1 x2 x3 x4 x5 x6 y0 y1 y2 y3 y4 y5 y6 fz0 fz1 fz2 fz3 fz4 fz5 fz6
            have e9 : altS ⟨false, xl, xh, xs⟩ ⟨yn, yl, yh, ys⟩ = ⟨yn, xl, xh, uniP xs ys⟩ := by
              show FC.mk _ _ _ _ = _
              rw [if_neg cl]
              rw [if_neg (show ¬ (0 ≤ xh ∧ (yh < 0 ∨ xh < yh)) by omega)]
              rfl
            replace h9 : XS w ⟨yn, xl, xh, uniP xs ys⟩ _ := h9
            rw [← e9] at h9
            go_roundw
            case rel => exact ⟨k + 1, altS ⟨false, xl, xh, xs⟩ ⟨yn, yl, yh, ys⟩, by omega, by rw [← HK.out]; go_num, Lib.hid ⟨h9, HO2.out, by rw [HK.out]; exact HSt.out⟩⟩
            case measure => have := HK.out; simp [intOf]; omega
          by_cases c1 : yh < 0
          case pos =>
            have d0 : decide (0 ≤ xh) = true := decide_eq_true c0
            have d1 : decide (yh < 0) = true := decide_eq_true c1
            obtain ⟨⟨x0, x1, x2⟩, x3, x4, x5, x6⟩ := h8.cells
            obtain ⟨⟨y0, y1, y2⟩, y3, y4, y5, y6⟩ := HL.out _ h8.bel
            have fz0 := h8.free 0
            have fz1 := h8.free 1
            have fz2 := h8.free 2
            have fz3 := h8.free 3
            have fz4 := h8.free 4
            have fz5 := h8.free 5
            have fz6 := h8.free 6
            go_quiet (fail)
            have hq9 := h8.drewN nq
            clear h8
            clear x0 x1 x2 x3 x4 x5 x6 y0 y1 y2 y3 y4 y5 y6 fz0 fz1 fz2 fz3 fz4 fz5 fz6
            generalize wq7.drewN nq = wq9 at *
            obtain ⟨⟨x0, x1, x2⟩, x3, x4, x5, x6⟩ := hq9.cells
            obtain ⟨⟨y0, y1, y2⟩, y3, y4, y5, y6⟩ := HL.out _ hq9.bel
            have fz0 := hq9.free 0
            have fz1 := hq9.free 1
            have fz2 := hq9.free 2
            have fz3 := hq9.free 3
            have fz4 := hq9.free 4
            have fz5 := hq9.free 5
            have fz6 := hq9.free 6
            go_wp2_with fail
            have h9 := hq9.hi yh
            clear hq9
            clear x0 x1 x2 x3 x4 x5 x6 y0 y1 y2 y3 y4 y5 y6 fz0 fz1 fz2 fz3 fz4 fz5 fz6
            have e9 : altS ⟨false, xl, xh, xs⟩ ⟨yn, yl, yh, ys⟩ = ⟨yn, xl, yh, uniP xs ys⟩ := by
              show FC.mk _ _ _ _ = _
              rw [if_neg cl]
              rw [if_pos (show 0 ≤ xh ∧ (yh < 0 ∨ xh < yh) by omega)]
              rfl
            replace h9 : XS w ⟨yn, xl, yh, uniP xs ys⟩ _ := h9
            rw [← e9] at h9
            go_roundw
            case rel => exact ⟨k + 1, altS ⟨false, xl, xh, xs⟩ ⟨yn, yl, yh, ys⟩, by omega, by rw [← HK.out]; go_num, Lib.hid ⟨h9, HO2.out, by rw [HK.out]; exact HSt.out⟩⟩
            case measure => have := HK.out; simp [intOf]; omega
          by_cases c2 : xh < yh
          case pos =>
            have d0 : decide (0 ≤ xh) = true := decide_eq_true c0
            have d1 : decide (yh < 0) = false := decide_eq_false c1
            have d2 : decide (xh < yh) = true := decide_eq_true c2
            obtain ⟨⟨x0, x1, x2⟩, x3, x4, x5, x6⟩ := h8.cells
            obtain ⟨⟨y0, y1, y2⟩, y3, y4, y5, y6⟩ := HL.out _ h8.bel
            have fz0 := h8.free 0
            have fz1 := h8.free 1
            have fz2 := h8.free 2
            have fz3 := h8.free 3
            have fz4 := h8.free 4
            have fz5 := h8.free 5
            have fz6 := h8.free 6
            go_quiet (fail)
            have hq9 := h8.drewN nq
            clear h8
            clear x0 x1 x2 x3 x4 x5 x6 y0 y1 y2 y3 y4 y5 y6 fz0 fz1 fz2 fz3 fz4 fz5 fz6
            generalize wq7.drewN nq = wq9 at *
            obtain ⟨⟨x0, x1, x2⟩, x3, x4, x5, x6⟩ := hq9.cells
            obtain ⟨⟨y0, y1, y2⟩, y3, y4, y5, y6⟩ := HL.out _ hq9.bel
            have fz0 := hq9.free 0
            have fz1 := hq9.free 1
            have fz2 := hq9.free 2
            have fz3 := hq9.free 3
            have fz4 := hq9.free 4
            have fz5 := hq9.free 5
            have fz6 := hq9.free 6
            go_wp2_with fail
            have h9 := hq9.hi yh
            clear hq9
            clear x0 x1 x2 x3 x4 x5 x6 y0 y1 y2 y3 y4 y5 y6 fz0 fz1 fz2 fz3 fz4 fz5 fz6
            have e9 : altS ⟨false, xl, xh, xs⟩ ⟨yn, yl, yh, ys⟩ = ⟨yn, xl, yh, uniP xs ys⟩ := by
              show FC.mk _ _ _ _ = _
              rw [if_neg cl]
              rw [if_pos (show 0 ≤ xh ∧ (yh < 0 ∨ xh < yh) by omega)]
              rfl
            replace h9 : XS w ⟨yn, xl, yh, uniP xs ys⟩ _ := h9
            rw [← e9] at h9
            go_roundw
            case rel => exact ⟨k + 1, altS ⟨false, xl, xh, xs⟩ ⟨yn, yl, yh, ys⟩, by omega, by rw [← HK.out]; go_num, Lib.hid ⟨h9, HO2.out, by rw [HK.out]; exact HSt.out⟩⟩
            case measure => have := HK.out; simp [intOf]; omega
          case neg =>
            have d0 : decide (0 ≤ xh) = true := decide_eq_true c0
            have d1 : decide (yh < 0) = false := decide_eq_false c1
            have d2 : decide (xh < yh) = false := decide_eq_false c2
            obtain ⟨⟨x0, x1, x2⟩, x3, x4, x5, x6⟩ := h8.cells
            obtain ⟨⟨y0, y1, y2⟩, y3, y4, y5, y6⟩ := HL.out _ h8.bel
            have fz0 := h8.free 0
            have fz1 := h8.free 1
            have fz2 := h8.free 2
            have fz3 := h8.free 3
            have fz4 := h8.free 4
            have fz5 := h8.free 5
            have fz6 := h8.free 6
            go_quiet (fail)
            have hq9 := h8.drewN nq
            clear h8
            clear x0 x1 x2 x3 x4 x5 x6 y0 y1 y2 y3 y4 y5 y6 fz0 fz1 fz2 fz3 fz4 fz5 fz6
            generalize wq7.drewN nq = wq9 at *
            obtain ⟨⟨x0, x1, x2⟩, x3, x4, x5, x6⟩ := hq9.cells
            obtain ⟨⟨y0, y1, y2⟩, y3, y4, y5, y6⟩ := HL.out _ hq9.bel
            have fz0 := hq9.free 0
            have fz1 := hq9.free 1
            have fz2 := hq9.free 2
            have fz3 := hq9.free 3
            have fz4 := hq9.free 4
            have fz5 := hq9.free 5
            have fz6 := hq9.free 6
            go_wp2_with fail
            have h9 := hq9
            clear hq9
            clear x0 x1 x2 x3 x4 x5 x6 y0 y1 y2 y3 y4 y5 y6 fz0 fz1 fz2 fz3 fz4 fz5 fz6
            have e9 : altS ⟨false, xl, xh, xs⟩ ⟨yn, yl, yh, ys⟩ = ⟨yn, xl, xh, uniP xs ys⟩ := by
              show FC.mk _ _ _ _ = _
              rw [if_neg cl]
              rw [if_neg (show ¬ (0 ≤ xh ∧ (yh < 0 ∨ xh < yh)) by omega)]
              rfl
            replace h9 : XS w ⟨yn, xl, xh, uniP xs ys⟩ _ := h9
            rw [← e9] at h9
            go_roundw
            case rel => exact ⟨k + 1, altS ⟨false, xl, xh, xs⟩ ⟨yn, yl, yh, ys⟩, by omega, by rw [← HK.out]; go_num, Lib.hid ⟨h9, HO2.out, by rw [HK.out]; exact HSt.out⟩⟩
            case measure => have := HK.out; simp [intOf]; omega
      · obtain ⟨⟨x0, x1, x2⟩, x3, x4, x5, x6⟩ := h0.cells
        obtain ⟨⟨y0, y1, y2⟩, y3, y4, y5, y6⟩ := HL.out _ h0.bel
        have fz0 := h0.free 0
        have fz1 := h0.free 1
        have fz2 := h0.free 2
        have fz3 := h0.free 3
        have fz4 := h0.free 4
        have fz5 := h0.free 5
        have fz6 := h0.free 6
        go_upto_region 6 with fail
        have h1 := h0.nul true
        clear h0
        clear x0 x1 x2 x3 x4 x5 x6 y0 y1 y2 y3 y4 y5 y6 fz0 fz1 fz2 fz3 fz4 fz5 fz6
        generalize wr.setCell ⟨w.heap.size + 1, 0, none⟩ (.bool true) = w1 at *
        obtain ⟨⟨x0, x1, x2⟩, x3, x4, x5, x6⟩ := h1.cells
        obtain ⟨⟨y0, y1, y2⟩, y3, y4, y5, y6⟩ := HL.out _ h1.bel
        have fz0 := h1.free 0
        have fz1 := h1.free 1
        have fz2 := h1.free 2
        have fz3 := h1.free 3
        have fz4 := h1.free 4
        have fz5 := h1.free 5
        have fz6 := h1.free 6
        go_still_tail 7, (by kernel_rfl)
        change wpList _ _ _ _ _ w1.drew
        have hd := h1.drew
        clear h1
        clear x0 x1 x2 x3 x4 x5 x6 y0 y1 y2 y3 y4 y5 y6 fz0 fz1 fz2 fz3 fz4 fz5 fz6
        generalize w1.drew = wdr at *
        obtain ⟨⟨x0, x1, x2⟩, x3, x4, x5, x6⟩ := hd.cells
        obtain ⟨⟨y0, y1, y2⟩, y3, y4, y5, y6⟩ := HL.out _ hd.bel
        have fz0 := hd.free 0
        have fz1 := hd.free 1
        have fz2 := hd.free 2
        have fz3 := hd.free 3
        have fz4 := hd.free 4
        have fz5 := hd.free 5
        have fz6 := hd.free 6
        go_upto_region 7 with (first
          | (go_at_call 26; (with_reducible refine (union_st (p := xs) (q := ys) _).mono ?_); rintro e w6 ⟨rfl, hb⟩
             have h6 := hd.below hb
             clear hb hd
             clear x0 x1 x2 x3 x4 x5 x6 y0 y1 y2 y3 y4 y5 y6 fz0 fz1 fz2 fz3 fz4 fz5 fz6
             obtain ⟨⟨x0, x1, x2⟩, x3, x4, x5, x6⟩ := h6.cells
             obtain ⟨⟨y0, y1, y2⟩, y3, y4, y5, y6⟩ := HL.out _ h6.bel
             have fz0 := h6.free 0
             have fz1 := h6.free 1
             have fz2 := h6.free 2
             have fz3 := h6.free 3
             have fz4 := h6.free 4
             have fz5 := h6.free 5
             have fz6 := h6.free 6
             ))
        have h7 := h6.st (uniP xs ys)
        clear h6
        clear x0 x1 x2 x3 x4 x5 x6 y0 y1 y2 y3 y4 y5 y6 fz0 fz1 fz2 fz3 fz4 fz5 fz6
        generalize (((w6.setCell ⟨w.heap.size + 1, 3, none⟩ (.int .u64 (wd (uniP xs ys) 0 64 : Nat))).setCell ⟨w.heap.size + 1, 4, none⟩ (.int .u64 (wd (uniP xs ys) 64 64 : Nat))).setCell ⟨w.heap.size + 1, 5, none⟩ (.int .u64 (wd (uniP xs ys) 128 64 : Nat))).setCell ⟨w.heap.size + 1, 6, none⟩ (.int .u64 (wd (uniP xs ys) 192 64 : Nat)) = w7 at *
        by_cases cl : yl < xl
        case pos =>
          obtain ⟨⟨x0, x1, x2⟩, x3, x4, x5, x6⟩ := h7.cells
          obtain ⟨⟨y0, y1, y2⟩, y3, y4, y5, y6⟩ := HL.out _ h7.bel
          have fz0 := h7.free 0
          have fz1 := h7.free 1
          have fz2 := h7.free 2
          have fz3 := h7.free 3
          have fz4 := h7.free 4
          have fz5 := h7.free 5
          have fz6 := h7.free 6
          go_quiet (fail)
          have hq7 := h7.drewN nq
          clear h7
          clear x0 x1 x2 x3 x4 x5 x6 y0 y1 y2 y3 y4 y5 y6 fz0 fz1 fz2 fz3 fz4 fz5 fz6
          generalize w7.drewN nq = wq7 at *
          obtain ⟨⟨x0, x1, x2⟩, x3, x4, x5, x6⟩ := hq7.cells
          obtain ⟨⟨y0, y1, y2⟩, y3, y4, y5, y6⟩ := HL.out _ hq7.bel
          have fz0 := hq7.free 0
          have fz1 := hq7.free 1
          have fz2 := hq7.free 2
          have fz3 := hq7.free 3
          have fz4 := hq7.free 4
          have fz5 := hq7.free 5
          have fz6 := hq7.free 6
          go_upto_region 9 with fail
          have h8 := hq7.lo yl
          clear hq7
          clear x0 x1 x2 x3 x4 x5 x6 y0 y1 y2 y3 y4 y5 y6 fz0 fz1 fz2 fz3 fz4 fz5 fz6
          generalize wq7.setCell ⟨w.heap.size + 1, 1, none⟩ (.int .i64 yl) = w8 at *
          by_cases c0 : 0 ≤ xh
          case neg =>
            have d0 : decide (0 ≤ xh) = false := decide_eq_false c0
            obtain ⟨⟨x0, x1, x2⟩, x3, x4, x5, x6⟩ := h8.cells
            obtain ⟨⟨y0, y1, y2⟩, y3, y4, y5, y6⟩ := HL.out _ h8.bel
            have fz0 := h8.free 0
            have fz1 := h8.free 1
            have fz2 := h8.free 2
            have fz3 := h8.free 3
            have fz4 := h8.free 4
            have fz5 := h8.free 5
            have fz6 := h8.free 6
            go_quiet (fail)
            have hq9 := h8.drewN nq
            clear h8
            clear x0 x1 x2 x3 x4 x5 x6 y0 y1 y2 y3 y4 y5 y6 fz0 fz1 fz2 fz3 fz4 fz5 fz6
            generalize w8.drewN nq = wq9 at *
            obtain ⟨⟨x0, x1, x2⟩, x3, x4, x5, x6⟩ := hq9.cells
            obtain ⟨⟨y0, y1, y2⟩, y3, y4, y5, y6⟩ := HL.out _ hq9.bel
            have fz0 := hq9.free 0
            have fz1 := hq9.free 1
            have fz2 := hq9.free 2
            have fz3 := hq9.free 3
            have fz4 := hq9.free 4
            have fz5 := hq9.free 5
            have fz6 := hq9.free 6
            go_wp2_with fail
            have h9 := hq9
            clear hq9
            clear x0 x1 x2 x3 x4 x5 x6 y0 y1 y2 y3 y4 y5 y6 fz0 fz1 fz2 fz3 fz4 fz5 fz6
            have e9 : altS ⟨true, xl, xh, xs⟩ ⟨yn, yl, yh, ys⟩ = ⟨true, yl, xh, uniP xs ys⟩ := by
              show FC.mk _ _ _ _ = _
              rw [if_pos cl]
              rw [if_neg (show ¬ (0 ≤ xh ∧ (yh < 0 ∨ xh < yh)) by omega)]
              rfl
            replace h9 : XS w ⟨true, yl, xh, uniP xs ys⟩ _ := h9
            rw [← e9] at h9
            go_roundw
            case rel => exact ⟨k + 1, altS ⟨true, xl, xh, xs⟩ ⟨yn, yl, yh, ys⟩, by omega, by rw [← HK.out]; go_num, Lib.hid ⟨h9, HO2.out, by rw [HK.out]; exact HSt.out⟩⟩
            case measure => have := HK.out; simp [intOf]; omega
          by_cases c1 : yh < 0
          case pos =>
            have d0 : decide (0 ≤ xh) = true := decide_eq_true c0
            have d1 : decide (yh < 0) = true := decide_eq_true c1
            obtain ⟨⟨x0, x1, x2⟩, x3, x4, x5, x6⟩ := h8.cells
            obtain ⟨⟨y0, y1, y2⟩, y3, y4, y5, y6⟩ := HL.out _ h8.bel
            have fz0 := h8.free 0
            have fz1 := h8.free 1
            have fz2 := h8.free 2
            have fz3 := h8.free 3
            have fz4 := h8.free 4
            have fz5 := h8.free 5
            have fz6 := h8.free 6
            go_quiet (fail)
            have hq9 := h8.drewN nq
            clear h8
            clear x0 x1 x2 x3 x4 x5 x6 y0 y1 y2 y3 y4 y5 y6 fz0 fz1 fz2 fz3 fz4 fz5 fz6
            generalize w8.drewN nq = wq9 at *
            obtain ⟨⟨x0, x1, x2⟩, x3, x4, x5, x6⟩ := hq9.cells
            obtain ⟨⟨y0, y1, y2⟩, y3, y4, y5, y6⟩ := HL.out _ hq9.bel
            have fz0 := hq9.free 0
            have fz1 := hq9.free 1
            have fz2 := hq9.free 2
            have fz3 := hq9.free 3
            have fz4 := hq9.free 4
            have fz5 := hq9.free 5
            have fz6 := hq9.free 6
            go_wp2_with fail
            have h9 := hq9.hi yh
            clear hq9
            clear x0 x1 x2 x3 x4 x5 x6 y0 y1 y2 y3 y4 y5 y6 fz0 fz1 fz2 fz3 fz4 fz5 fz6
            have e9 : altS ⟨true, xl, xh, xs⟩ ⟨yn, yl, yh, ys⟩ = ⟨true, yl, yh, uniP xs ys⟩ := by
              show FC.mk _ _ _ _ = _
              rw [if_pos cl]
              rw [if_pos (show 0 ≤ xh ∧ (yh < 0 ∨ xh < yh) by omega)]
              rfl
            replace h9 : XS w ⟨true, yl, yh, uniP xs ys⟩ _ := h9
            rw [← e9] at h9
            go_roundw
            case rel => exact ⟨k + 1, altS ⟨true, xl, xh, xs⟩ ⟨yn, yl, yh, ys⟩, by omega, by rw [← HK.out]; go_num, Lib.hid ⟨h9, HO2.out, by rw [HK.out]; exact HSt.out⟩⟩
            case measure => have := HK.out; simp [intOf]; omega
          by_cases c2 : xh < yh
          case pos =>
            have d0 : decide (0 ≤ xh) = true := decide_eq_true c0
            have d1 : decide (yh < 0) = false := decide_eq_false c1
            have d2 : decide (xh < yh) = true := decide_eq_true c2
            obtain ⟨⟨x0, x1, x2⟩, x3, x4, x5, x6⟩ := h8.cells
            obtain ⟨⟨y0, y1, y2⟩, y3, y4, y5, y6⟩ := HL.out _ h8.bel
            have fz0 := h8.free 0
            have fz1 := h8.free 1
            have fz2 := h8.free 2
            have fz3 := h8.free 3
            have fz4 := h8.free 4
            have fz5 := h8.free 5
            have fz6 := h8.free 6
            go_quiet (fail)
            have hq9 := h8.drewN nq
            clear h8
            clear x0 x1 x2 x3 x4 x5 x6 y0 y1 y2 y3 y4 y5 y6 fz0 fz1 fz2 fz3 fz4 fz5 fz6
            generalize w8.drewN nq = wq9 at *
            obtain ⟨⟨x0, x1, x2⟩, x3, x4, x5, x6⟩ := hq9.cells
            obtain ⟨⟨y0, y1, y2⟩, y3, y4, y5, y6⟩ := HL.out _ hq9.bel
            have fz0 := hq9.free 0
            have fz1 := hq9.free 1
            have fz2 := hq9.free 2
            have fz3 := hq9.free 3
            have fz4 := hq9.free 4
            have fz5 := hq9.free 5
            have fz6 := hq9.free 6
            go_wp2_with fail
            have h9 := hq9.hi yh
            clear hq9
            clear x0 x1 x2 x3 x4 x5 x6 y0 y1 y2 y3 y4 y5 y6 fz0 fz1 fz2 fz3 fz4 fz5 fz6
            have e9 : altS ⟨true, xl, xh, xs⟩ ⟨yn, yl, yh, ys⟩ = ⟨true, yl, yh, uniP xs ys⟩ := by
              show FC.mk _ _ _ _ = _
              rw [if_pos cl]
              rw [if_pos (show 0 ≤ xh ∧ (yh < 0 ∨ xh < yh) by omega)]
              rfl
            replace h9 : XS w ⟨true, yl, yh, uniP xs ys⟩ _ := h9
            rw [← e9] at h9
            go_roundw
            case rel => exact ⟨k + 1, altS ⟨true, xl, xh, xs⟩ ⟨yn, yl, yh, ys⟩, by omega, by rw [← HK.out]; go_num, Lib.hid ⟨h9, HO2.out, by rw [HK.out]; exact HSt.out⟩⟩
            case measure => have := HK.out; simp [intOf]; omega
          case neg =>
            have d0 : decide (0 ≤ xh) = true := decide_eq_true c0
            have d1 : decide (yh < 0) = false := decide_eq_false c1
            have d2 : decide (xh < yh) = false := decide_eq_false c2
            obtain ⟨⟨x0, x1, x2⟩, x3, x4, x5, x6⟩ := h8.cells
            obtain ⟨⟨y0, y1, y2⟩, y3, y4, y5, y6⟩ := HL.out _ h8.bel
            have fz0 := h8.free 0
            have fz1 := h8.free 1
            have fz2 := h8.free 2
            have fz3 := h8.free 3
            have fz4 := h8.free 4
            have fz5 := h8.free 5
            have fz6 := h8.free 6
            go_quiet (fail)
            have hq9 := h8.drewN nq
            clear h8
            clear x0 x1 x2 x3 x4 x5 x6 y0 y1 y2 y3 y4 y5 y6 fz0 fz1 fz2 fz3 fz4 fz5 fz6
            generalize w8.drewN nq = wq9 at *
            obtain ⟨⟨x0, x1, x2⟩, x3, x4, x5, x6⟩ := hq9.cells
            obtain ⟨⟨y0, y1, y2⟩, y3, y4, y5, y6⟩ := HL.out _ hq9.bel
            have fz0 := hq9.free 0
            have fz1 := hq9.free 1
            have fz2 := hq9.free 2
            have fz3 := hq9.free 3
            have fz4 := hq9.free 4
            have fz5 := hq9.free 5
            have fz6 := hq9.free 6
            go_wp2_with fail
            have h9 := hq9
            clear hq9
            clear x0 x1 x2 x3 x4 x5 x6 y0 y1 y2 y3 y4 y5 y6 fz0 fz1 fz2 fz3 fz4 fz5 fz6
            have e9 : altS ⟨true, xl, xh, xs⟩ ⟨yn, yl, yh, ys⟩ = ⟨true, yl, xh, uniP xs ys⟩ := by
              show FC.mk _ _ _ _ = _
              rw [if_pos cl]
              rw [if_neg (show ¬ (0 ≤ xh ∧ (yh < 0 ∨ xh < yh)) by omega)]
              rfl
            replace h9 : XS w ⟨true, yl, xh, uniP xs ys⟩ _ := h9
            rw [← e9] at h9
            go_roundw
            case rel => exact ⟨k + 1, altS ⟨true, xl, xh, xs⟩ ⟨yn, yl, yh, ys⟩, by omega, by rw [← HK.out]; go_num, Lib.hid ⟨h9, HO2.out, by rw [HK.out]; exact HSt.out⟩⟩
            case measure => have := HK.out; simp [intOf]; omega
        case neg =>
          obtain ⟨⟨x0, x1, x2⟩, x3, x4, x5, x6⟩ := h7.cells
          obtain ⟨⟨y0, y1, y2⟩, y3, y4, y5, y6⟩ := HL.out _ h7.bel
          have fz0 := h7.free 0
          have fz1 := h7.free 1
          have fz2 := h7.free 2
          have fz3 := h7.free 3
          have fz4 := h7.free 4
          have fz5 := h7.free 5
          have fz6 := h7.free 6
          go_quiet (fail)
          have hq7 := h7.drewN nq
          clear h7
          clear x0 x1 x2 x3 x4 x5 x6 y0 y1 y2 y3 y4 y5 y6 fz0 fz1 fz2 fz3 fz4 fz5 fz6
          generalize w7.drewN nq = wq7 at *
          obtain ⟨⟨x0, x1, x2⟩, x3, x4, x5, x6⟩ := hq7.cells
          obtain ⟨⟨y0, y1, y2⟩, y3, y4, y5, y6⟩ := HL.out _ hq7.bel
          have fz0 := hq7.free 0
          have fz1 := hq7.free 1
          have fz2 := hq7.free 2
          have fz3 := hq7.free 3
          have fz4 := hq7.free 4
          have fz5 := hq7.free 5
          have fz6 := hq7.free 6
          go_upto_region 9 with fail
          have h8 := hq7
          clear hq7
          clear x0 x1 x2 x3 x4 x5 x6 y0 y1 y2 y3 y4 y5 y6 fz0 fz1 fz2 fz3 fz4 fz5 fz6
          by_cases c0 : 0 ≤ xh
          case neg =>
            have d0 : decide (0 ≤ xh) = false := decide_eq_false c0
            obtain ⟨⟨x0, x1, x2⟩, x3, x4, x5, x6⟩ := h8.cells
            obtain ⟨⟨y0, y1, y2⟩, y3, y4, y5, y6⟩ := HL.out _ h8.bel
            have fz0 := h8.free 0
            have fz1 := h8.free 1
            have fz2 := h8.free 2
            have fz3 := h8.free 3
            have fz4 := h8.free 4
            have fz5 := h8.free 5
            have fz6 := h8.free 6
            go_quiet (fail)
            have hq9 := h8.drewN nq
            clear h8
            clear x0 x1 x2 x3 x4 x5 x6 y0 y1 y2 y3 y4 y5 y6 fz0 fz1 fz2 fz3 fz4 fz5 fz6
            generalize wq7.drewN nq = wq9 at *
            obtain ⟨⟨x0, x1, x2⟩, x3, x4, x5, x6⟩ := hq9.cells
            obtain ⟨⟨y0, y1, y2⟩, y3, y4, y5, y6⟩ := HL.out _ hq9.bel
            have fz0 := hq9.free 0
            have fz1 := hq9.free 1
            have fz2 := hq9.free 2
            have fz3 := hq9.free 3
            have fz4 := hq9.free 4
            have fz5 := hq9.free 5
            have fz6 := hq9.free 6
            go_wp2_with fail
            have h9 := hq9
            clear hq9
            clear x0 x1 x2 x3 x4 x5 x6 y0 y1 y2 y3 y4 y5 y6 fz0 fz1 fz2 fz3 fz4 fz5 fz6
            have e9 : altS ⟨true, xl, xh, xs⟩ ⟨yn, yl, yh, ys⟩ = ⟨true, xl, xh, uniP xs ys⟩ := by
              show FC.mk _ _ _ _ = _
              rw [if_neg cl]
              rw [if_neg (show ¬ (0 ≤ xh ∧ (yh < 0 ∨ xh < yh)) by omega)]
              rfl
            replace h9 : XS w ⟨true, xl, xh, uniP xs ys⟩ _ := h9
            rw [← e9] at h9
            go_roundw
            case rel => exact ⟨k + 1, altS ⟨true, xl, xh, xs⟩ ⟨yn, yl, yh, ys⟩, by omega, by rw [← HK.out]; go_num, Lib.hid ⟨h9, HO2.out, by rw [HK.out]; exact HSt.out⟩⟩
            case measure => have := HK.out; simp [intOf]; omega
          by_cases c1 : yh < 0
          case pos =>
            have d0 : decide (0 ≤ xh) = true := decide_eq_true c0
            have d1 : decide (yh < 0) = true := decide_eq_true c1
            obtain ⟨⟨x0, x1, x2⟩, x3, x4, x5, x6⟩ := h8.cells
            obtain ⟨⟨y0, y1, y2⟩, y3, y4, y5, y6⟩ := HL.out _ h8.bel
            have fz0 := h8.free 0
            have fz1 := h8.free 1
            have fz2 := h8.free 2
            have fz3 := h8.free 3
            have fz4 := h8.free 4
            have fz5 := h8.free 5
            have fz6 := h8.free 6
            go_quiet (fail)
            have hq9 := h8.drewN nq
            clear h8
            clear x0 x1 x2 x3 x4 x5 x6 y0 y1 y2 y3 y4 y5 y6 fz0 fz1 fz2 fz3 fz4 fz5 fz6
            generalize wq7.drewN nq = wq9 at *
            obtain ⟨⟨x0, x1, x2⟩, x3, x4, x5, x6⟩ := hq9.cells
            obtain ⟨⟨y0, y1, y2⟩, y3, y4, y5, y6⟩ := HL.out _ hq9.bel
            have fz0 := hq9.free 0
            have fz1 := hq9.free 1
            have fz2 := hq9.free 2
            have fz3 := hq9.free 3
            have fz4 := hq9.free 4
            have fz5 := hq9.free 5
            have fz6 := hq9.free 6
            go_wp2_with fail
            have h9 := hq9.hi yh
            clear hq9
            clear x0 x1 x2 x3 x4 x5 x6 y0 y1 y2 y3 y4 y5 y6 fz0 fz1 fz2 fz3 fz4 fz5 fz6
            have e9 : altS ⟨true, xl, xh, xs⟩ ⟨yn, yl, yh, ys⟩ = ⟨true, xl, yh, uniP xs ys⟩ := by
              show FC.mk _ _ _ _ = _
              rw [if_neg cl]
              rw [if_pos (show 0 ≤ xh ∧ (yh < 0 ∨ xh < yh) by omega)]
              rfl
            replace h9 : XS w ⟨true, xl, yh, uniP xs ys⟩ _ := h9
            rw [← e9] at h9
            go_roundw
            case rel => exact ⟨k + 1, altS ⟨true, xl, xh, xs⟩ ⟨yn, yl, yh, ys⟩, by omega, by rw [← HK.out]; go_num, Lib.hid ⟨h9, HO2.out, by rw [HK.out]; exact HSt.out⟩⟩
            case measure => have := HK.out; simp [intOf]; omega
          by_cases c2 : xh < yh
          case pos =>
            have d0 : decide (0 ≤ xh) = true := decide_eq_true c0
            have d1 : decide (yh < 0) = false := decide_eq_false c1
            have d2 : decide (xh < yh) = true := decide_eq_true c2
            obtain ⟨⟨x0, x1, x2⟩, x3, x4, x5, x6⟩ := h8.cells
            obtain ⟨⟨y0, y1, y2⟩, y3, y4, y5, y6⟩ := HL.out _ h8.bel
            have fz0 := h8.free 0
            have fz1 := h8.free 1
            have fz2 := h8.free 2
            have fz3 := h8.free 3
            have fz4 := h8.free 4
            have fz5 := h8.free 5
            have fz6 := h8.free 6
            go_quiet (fail)
            have hq9 := h8.drewN nq
            clear h8
            clear x0 x1 x2 x3 x4 x5 x6 y0 y1 y2 y3 y4 y5 y6 fz0 fz1 fz2 fz3 fz4 fz5 fz6
            generalize wq7.drewN nq = wq9 at *
            obtain ⟨⟨x0, x1, x2⟩, x3, x4, x5, x6⟩ := hq9.cells
            obtain ⟨⟨y0, y1, y2⟩, y3, y4, y5, y6⟩ := HL.out _ hq9.bel
            have fz0 := hq9.free 0
            have fz1 := hq9.free 1
            have fz2 := hq9.free 2
            have fz3 := hq9.free 3
            have fz4 := hq9.free 4
            have fz5 := hq9.free 5
            have fz6 := hq9.free 6
            go_wp2_with fail
            have h9 := hq9.hi yh
            clear hq9
            clear x0 x1 x2 x3 x4 x5 x6 y0 y1 y2 y3 y4 y5 y6 fz0 fz1 fz2 fz3 fz4 fz5 fz6
            have e9 : altS ⟨true, xl, xh, xs⟩ ⟨yn, yl, yh, ys⟩ = ⟨true, xl, yh, uniP xs ys⟩ := by
              show FC.mk _ _ _ _ = _
              rw [if_neg cl]
              rw [if_pos (show 0 ≤ xh ∧ (yh < 0 ∨ xh < yh) by omega)]
              rfl
            replace h9 : XS w ⟨true, xl, yh, uniP xs ys⟩ _ := h9
            rw [← e9] at h9
            go_roundw
            case rel => exact ⟨k + 1, altS ⟨true, xl, xh, xs⟩ ⟨yn, yl, yh, ys⟩, by omega, by rw [← HK.out]; go_num, Lib.hid ⟨h9, HO2.out, by rw [HK.out]; exact HSt.out⟩⟩
            case measure => have := HK.out; simp [intOf]; omega
          case neg =>
            have d0 : decide (0 ≤ xh) = true := decide_eq_true c0
            have d1 : decide (yh < 0) = false := decide_eq_false c1
            have d2 : decide (xh < yh) = false := decide_eq_false c2
            obtain ⟨⟨x0, x1, x2⟩, x3, x4, x5, x6⟩ := h8.cells
            obtain ⟨⟨y0, y1, y2⟩, y3, y4, y5, y6⟩ := HL.out _ h8.bel
            have fz0 := h8.free 0
            have fz1 := h8.free 1
            have fz2 := h8.free 2
            have fz3 := h8.free 3
            have fz4 := h8.free 4
            have fz5 := h8.free 5
            have fz6 := h8.free 6
            go_quiet (fail)
            have hq9 := h8.drewN nq
            clear h8
            clear x0 x1 x2 x3 x4 x5 x6 y0 y1 y2 y3 y4 y5 y6 fz0 fz1 fz2 fz3 fz4 fz5 fz6
            generalize wq7.drewN nq = wq9 at *
            obtain ⟨⟨x0, x1, x2⟩, x3, x4, x5, x6⟩ := hq9.cells
            obtain ⟨⟨y0, y1, y2⟩, y3, y4, y5, y6⟩ := HL.out _ hq9.bel
            have fz0 := hq9.free 0
            have fz1 := hq9.free 1
            have fz2 := hq9.free 2
            have fz3 := hq9.free 3
            have fz4 := hq9.free 4
            have fz5 := hq9.free 5
            have fz6 := hq9.free 6
            go_wp2_with fail
            have h9 := hq9
            clear hq9
            clear x0 x1 x2 x3 x4 x5 x6 y0 y1 y2 y3 y4 y5 y6 fz0 fz1 fz2 fz3 fz4 fz5 fz6
            have e9 : altS ⟨true, xl, xh, xs⟩ ⟨yn, yl, yh, ys⟩ = ⟨true, xl, xh, uniP xs ys⟩ := by
              show FC.mk _ _ _ _ = _
              rw [if_neg cl]
              rw [if_neg (show ¬ (0 ≤ xh ∧ (yh < 0 ∨ xh < yh)) by omega)]
              rfl
            replace h9 : XS w ⟨true, xl, xh, uniP xs ys⟩ _ := h9
            rw [← e9] at h9
            go_roundw
            case rel => exact ⟨k + 1, altS ⟨true, xl, xh, xs⟩ ⟨yn, yl, yh, ys⟩, by omega, by rw [← HK.out]; go_num, Lib.hid ⟨h9, HO2.out, by rw [HK.out]; exact HSt.out⟩⟩
            case measure => have := HK.out; simp [intOf]; omega
    · obtain rfl : k = r.length := by omega
      have hst := HB.out.2.2
      rw [List.drop_length, List.foldl_nil] at hst
      subst hst
      have hr := HB.out.1.res
      have ha := HB.out.1.acc
      have HBl := Lib.hid HB.out.1.bel
      clear HA HB
      go_wp2_with (first
        | (refine wpList_load_row rfl 59 _ rfl (w.heap.size + 1) rfl 59 (fc7 A) (0, 0) _ ha Try.underlying59 rfl isz_f ?_)
        | (refine wpList_store_row rfl 59 (.tmp 2) (.tmp 74) rfl w.heap.size (fc7 A) rfl rfl 59 _ hr isz_f rfl (by simp [Value.oneCell']) ?_))
      refine bodyPost_ret (v := .agg (fc7 A)) (results_cell_row rfl _ _ w.heap.size _ (fc7 A) (0, 0) _ rfl (setRow_heap wr _ _ _ _ _ hr) Try.underlying59 rfl isz_f) rfl ?_
      exact ⟨rfl, below_setRow HBl.out (Nat.le_refl _) _⟩
end Go.Proofs.Ytpfbpgbgedbalaa
/- The reference's pass over a tree: the facts of the groups in memory. -/
set_option linter.unusedVariables false
set_option linter.unusedSimpArgs false
set_option maxRecDepth 100000
set_option maxHeartbeats 8000000
namespace Go.Proofs.Ytpfbpgbgedbalaa
open Go.RowKit

/-- The facts of n groups, in block KB; block PB holds the slice. -/
structure KN (w : World) (PB KB n : Nat) (K : Nat → FC) : Prop where
  ptr : w.cell? ⟨PB, 0, none⟩ = some (.slice (some ⟨KB, 0, none⟩) n n)
  ce : ∀ i, i < n → ∀ j u, (cells_f (K i))[j]? = some u → w.cell? ⟨KB, i * 7 + j, none⟩ = some u
  fz : ∀ off, w.frozen? ⟨KB, off, none⟩ = false
  ne : PB ≠ KB
  lt : KB < w.heap.size
theorem frozen_same {w w' : World} {b i : Nat} (h : w'.heap[b]? = w.heap[b]?) : w'.frozen? ⟨b, i, none⟩ = w.frozen? ⟨b, i, none⟩ := by
  unfold World.frozen?
  simp only [h]
theorem KN.plt {w : World} {PB KB n : Nat} {K : Nat → FC} (h : KN w PB KB n K) : PB < w.heap.size := World.block_lt_of_cell? w _ h.ptr
theorem KN.keep {w w' : World} {PB KB n : Nat} {K : Nat → FC} {S : Nat → Prop} (h : KN w PB KB n K) (hb : Keep S w w') (h1 : ¬ S PB) (h2 : ¬ S KB) : KN w' PB KB n K :=
  ⟨(cell_same (hb.block PB h.plt h1)).trans h.ptr, fun i hi j u hu => (cell_same (hb.block KB h.lt h2)).trans (h.ce i hi j u hu), fun off => (frozen_same (hb.block KB h.lt h2)).trans (h.fz off), h.ne, Nat.lt_of_lt_of_le h.lt hb.size⟩
theorem KN.below {w w' : World} {PB KB n : Nat} {K : Nat → FC} (h : KN w PB KB n K) (hb : Below w.heap.size w w') : KN w' PB KB n K := h.keep (Keep.of_below (S := fun _ => False) hb) id id
theorem KN.drew {w : World} {PB KB n : Nat} {K : Nat → FC} (h : KN w PB KB n K) : KN w.drew PB KB n K := ⟨h.ptr, h.ce, h.fz, h.ne, h.lt⟩
theorem KN.cells {w : World} {PB KB n : Nat} {K : Nat → FC} (h : KN w PB KB n K) (i : Nat) (hi : i < n) : (w.cell? ⟨KB, i * 7, none⟩ = some (.bool (K i).nul) ∧ w.cell? ⟨KB, i * 7 + 1, none⟩ = some (.int .i64 (K i).lo) ∧ w.cell? ⟨KB, i * 7 + 2, none⟩ = some (.int .i64 (K i).hi)) ∧ w.cell? ⟨KB, i * 7 + 3, none⟩ = some (.int .u64 (wd (K i).st 0 64 : Nat)) ∧ w.cell? ⟨KB, i * 7 + 4, none⟩ = some (.int .u64 (wd (K i).st 64 64 : Nat)) ∧ w.cell? ⟨KB, i * 7 + 5, none⟩ = some (.int .u64 (wd (K i).st 128 64 : Nat)) ∧ w.cell? ⟨KB, i * 7 + 6, none⟩ = some (.int .u64 (wd (K i).st 192 64 : Nat)) :=
  ⟨⟨h.ce i hi 0 _ rfl, h.ce i hi 1 _ rfl, h.ce i hi 2 _ rfl⟩, h.ce i hi 3 _ rfl, h.ce i hi 4 _ rfl, h.ce i hi 5 _ rfl, h.ce i hi 6 _ rfl⟩
/-- Seven cells stored, from an offset on. -/
def put7 (w : World) (g o : Nat) (x : FC) : World := ((((((w.setCell ⟨g, o, none⟩ (.bool x.nul)).setCell ⟨g, o + 1, none⟩ (.int .i64 x.lo)).setCell ⟨g, o + 2, none⟩ (.int .i64 x.hi)).setCell ⟨g, o + 3, none⟩ (.int .u64 (wd x.st 0 64 : Nat))).setCell ⟨g, o + 4, none⟩ (.int .u64 (wd x.st 64 64 : Nat))).setCell ⟨g, o + 5, none⟩ (.int .u64 (wd x.st 128 64 : Nat))).setCell ⟨g, o + 6, none⟩ (.int .u64 (wd x.st 192 64 : Nat))
theorem put7_only (w : World) (g o : Nat) (x : FC) : Only g w (put7 w g o x) := (((((((Only.refl g w).put o _).put (o + 1) _).put (o + 2) _).put (o + 3) _).put (o + 4) _).put (o + 5) _).put (o + 6) _
theorem setCell_at {w : World} {g a b : Nat} {v u : Value} (h : w.cell? ⟨g, b, none⟩ = some u) : (w.setCell ⟨g, a, none⟩ v).cell? ⟨g, b, none⟩ = some (if a = b then v else u) := by
  by_cases e : a = b
  · subst e
    rw [if_pos rfl]
    exact World.cell?_setCell_same _ _ _ h
  · rw [if_neg e]
    exact (World.cell?_setCell_other w (⟨g, a, none⟩ : Addr) (⟨g, b, none⟩ : Addr) v (by intro k; cases k; exact e rfl)).trans h
theorem KN.put {w : World} {PB KB n : Nat} {K : Nat → FC} (h : KN w PB KB n K) (i : Nat) (hi : i < n) (x : FC) : KN (put7 w KB (i * 7) x) PB KB n (updK K i x) := by
  have ho := put7_only w KB (i * 7) x
  refine ⟨(cell_same (ho.block PB h.plt h.ne)).trans h.ptr, fun k hk j u hu => ?_, fun off => ?_, h.ne, Nat.lt_of_lt_of_le h.lt ho.size⟩
  · have hj : j < 7 := (List.getElem?_eq_some_iff.1 hu).1
    obtain ⟨u0, hu0⟩ : ∃ u0, (cells_f (K k))[j]? = some u0 := ⟨_, List.getElem?_eq_getElem (by exact hj)⟩
    have h0 := h.ce k hk j u0 hu0
    unfold put7
    have h1 := setCell_at (a := i * 7) (v := .bool x.nul) h0
    have h2 := setCell_at (a := i * 7 + 1) (v := .int .i64 x.lo) h1
    have h3 := setCell_at (a := i * 7 + 2) (v := .int .i64 x.hi) h2
    have h4 := setCell_at (a := i * 7 + 3) (v := .int .u64 (wd x.st 0 64 : Nat)) h3
    have h5 := setCell_at (a := i * 7 + 4) (v := .int .u64 (wd x.st 64 64 : Nat)) h4
    have h6 := setCell_at (a := i * 7 + 5) (v := .int .u64 (wd x.st 128 64 : Nat)) h5
    have h7 := setCell_at (a := i * 7 + 6) (v := .int .u64 (wd x.st 192 64 : Nat)) h6
    rw [h7]
    unfold updK at hu
    by_cases e : k = i
    · subst e
      rw [if_pos rfl] at hu
      have : j = 0 ∨ j = 1 ∨ j = 2 ∨ j = 3 ∨ j = 4 ∨ j = 5 ∨ j = 6 := by omega
      rcases this with rfl | rfl | rfl | rfl | rfl | rfl | rfl <;> (cases hu; simp)
    · rw [if_neg e] at hu
      rw [hu] at hu0
      cases hu0
      rw [if_neg (by omega), if_neg (by omega), if_neg (by omega), if_neg (by omega), if_neg (by omega), if_neg (by omega), if_neg (by omega)]
  · unfold put7
    simp only [World.frozen?_setCell]
    exact h.fz off
/-- What a tree may count on, node by node. -/
def NdK (n : Nat) (o l h g : Int) (f : F) : Prop := (o = 6 ∨ o = 9 → 1 ≤ g ∧ g ≤ (n : Int)) ∧ havT o f.len = true ∧ (o = 5 → bndT l h = true) ∧ f.len ≤ 600 ∧ preK n f
theorem NdK_nth (n : Nat) (f : F) (k : Nat) (hk : k < f.len) (h : preK n f) : NdK n (f.nth k).op (f.nth k).lo (f.nth k).hi (f.nth k).g (f.nth k).args := by
  induction f generalizing k with
  | nil => cases hk
  | cons o s l h' g a r iha ihr =>
    cases k with
    | zero => exact ⟨h.1, h.2.1, h.2.2.1, h.2.2.2.1, h.2.2.2.2.1⟩
    | succ k => exact ihr k (by have : k + 1 < r.len + 1 := hk; omega) h.2.2.2.2.2
theorem fac_step (f : F) (k : Nat) (hk : k < f.len) (K : Nat → FC) : facF (f.drop k) K = ((facN (f.nth k) K).1 :: (facF (f.drop (k + 1)) (facN (f.nth k) K).2).1, (facF (f.drop (k + 1)) (facN (f.nth k) K).2).2) := by
  rw [F.drop_step f k hk, facF_cons]
theorem facN_ok (n : Nat) (t : TN) (K : Nat → FC) (h : NdK n t.op t.lo t.hi t.g t.args) (hK : ∀ k, FOk (K k)) : FOk (facN t K).1 ∧ ∀ k, FOk ((facN t K).2 k) := by
  obtain ⟨i1, i2⟩ := facF_ok n t.args K h.2.2.2.2 hK
  unfold facN
  constructor
  · show FOk (if t.op = 9 then _ else _)
    split
    · exact i2 _
    · exact facR_ok _ _ i1 h.2.2.1
  · intro k
    show FOk ((if t.op = 6 then updK (facF t.args K).2 (t.g - 1).toNat ((facF t.args K).1.headD FC0) else (facF t.args K).2) k)
    split
    · unfold updK
      split
      · exact head_ok i1
      · exact i2 k
    · exact i2 k
def OfOk (n : Nat) (f : F) : Prop := ∀ (o l h g : Int) (st : Nat → Bool) (sv : Value) (w : World) (S : Nat → Prop) (PB KB : Nat) (K : Nat → FC), SV w S f sv → (∀ b, S b → b ≠ KB) → KN w PB KB n K → (∀ k, FOk (K k)) → NdK n o l h g f →
  Calls Try.prog 59 #[.pointer (some ⟨PB, 0, none⟩), .agg #[.int .i64 o, .int .u64 (wd st 0 64 : Nat), .int .u64 (wd st 64 64 : Nat), .int .u64 (wd st 128 64 : Nat), .int .u64 (wd st 192 64 : Nat), .int .i64 l, .int .i64 h, .int .i64 g, sv]] w fun e w' => e = .returned (.agg (fc7 (facN ⟨o, st, l, h, g, f⟩ K).1)) ∧ KN w' PB KB n (facN ⟨o, st, l, h, g, f⟩ K).2 ∧ Only KB w w'
end Go.Proofs.Ytpfbpgbgedbalaa
/- The reference's pass over a tree. -/
set_option linter.unusedVariables false
set_option linter.unusedSimpArgs false
set_option maxRecDepth 100000
set_option maxHeartbeats 8000000
namespace Go.Proofs.Ytpfbpgbgedbalaa
open Go.RowKit

theorem of_2 (n : Nat) (f : F) (hch : ∀ i, i < f.len → OfOk n (f.nth i).args) (l h g : Int) (st : Nat → Bool) (sv : Value) (w : World) (S : Nat → Prop) (PB KB : Nat) (K : Nat → FC) (hsv : SV w S f sv) (hS : ∀ b, S b → b ≠ KB) (hkn : KN w PB KB n K) (hfk : ∀ k, FOk (K k)) (h6 : f.len ≤ 600) (hpk : preK n f) :
    Calls Try.prog 59 #[.pointer (some ⟨PB, 0, none⟩), .agg #[.int .i64 2, .int .u64 (wd st 0 64 : Nat), .int .u64 (wd st 64 64 : Nat), .int .u64 (wd st 128 64 : Nat), .int .u64 (wd st 192 64 : Nat), .int .i64 l, .int .i64 h, .int .i64 g, sv]] w fun e w' => e = .returned (.agg (fc7 (⟨false, 1, 1, st⟩))) ∧ KN w' PB KB n ((facF f K).2) ∧ Only KB w w' := by
  have HSV := Lib.hid hsv
  have HCh := Lib.hid hch
  have HS := Lib.hid hS
  have HPk := Lib.hid hpk
  have hfl : (f.len : Int) ≤ 600 := by omega
  have HFl := Lib.hid h6
  obtain ⟨ad, cap, rfl⟩ := slice_form hsv
  obtain ⟨W2, hW2⟩ : ∃ W2, W2 = (w.alloc (.cells #[.int .i64 2, .int .u64 (wd st 0 64 : Nat), .int .u64 (wd st 64 64 : Nat), .int .u64 (wd st 128 64 : Nat), .int .u64 (wd st 192 64 : Nat), .int .i64 l, .int .i64 h, .int .i64 g, .slice ad f.len cap] 28)).alloc (.cells z7 59) := ⟨_, rfl⟩
  have hx : Below w.heap.size w W2 := by rw [hW2]; exact ((Below.refl _ _).alloc (Nat.le_refl _) _).alloc (by simp) _
  have hz2 : W2.heap.size = w.heap.size + 2 := by rw [hW2]; simp
  have hg0 : W2.heap[w.heap.size]? = some (.cells #[.int .i64 2, .int .u64 (wd st 0 64 : Nat), .int .u64 (wd st 64 64 : Nat), .int .u64 (wd st 128 64 : Nat), .int .u64 (wd st 192 64 : Nat), .int .i64 l, .int .i64 h, .int .i64 g, .slice ad f.len cap] 28 (0, 0)) := by
    rw [hW2, Below.heap_alloc _ _ _ (by simp)]
    exact heap_alloc_new w _
  have hg1 : W2.heap[w.heap.size + 1]? = some (.cells z7 59 (0, 0)) := by
    have := heap_alloc_new (w.alloc (.cells #[.int .i64 2, .int .u64 (wd st 0 64 : Nat), .int .u64 (wd st 64 64 : Nat), .int .u64 (wd st 128 64 : Nat), .int .u64 (wd st 192 64 : Nat), .int .i64 l, .int .i64 h, .int .i64 g, .slice ad f.len cap] 28)) (.cells z7 59)
    rw [hW2]
    simpa using this
  have HKB := Lib.hid hkn.lt
  have HPB := Lib.hid hkn.plt
  have HKn := Lib.hid (hkn.below hx)
  have HFk := Lib.hid hfk
  have HX := Lib.hid hx
  have HG0 := Lib.hid hg0
  have HG1 := Lib.hid hg1
  have HZ := Lib.hid hz2
  have HW2 := Lib.hid hW2
  clear hsv hch hS hkn hfk h6 hpk hx hz2 hg0 hg1 hW2
  go_enter Try.func59, Try.ntmps59
  go_wp2_with fail
  go_loopw [5, 6] (fun v i wr => ∃ (k : Nat) (ys : List FC) (K' : Nat → FC), k ≤ f.len ∧ i = .int .i64 k ∧ Hid (ys.length = k ∧ PV 59 7 cells_f wr (w.heap.size + 2) ys v ∧ KN wr PB KB n K' ∧ Only KB W2 wr ∧ facF f K = (ys ++ (facF (f.drop k) K').1, (facF (f.drop k) K').2) ∧ ∀ k, FOk (K' k))) (fun _ i _ => f.len - (intOf i).toNat)
  case atStart =>
    refine ⟨0, [], K, Nat.zero_le _, rfl, ?_⟩
    rw [← HW2.out]
    exact Lib.hid ⟨rfl, PV.nil _ _ _ _ _, HKn.out, Only.refl _ _, by (have : f.drop 0 = f := by cases f <;> rfl); rw [this]; rfl, HFk.out⟩
  case round =>
    obtain ⟨k, ys, K', hk, rfl, HB⟩ := hrel
    have hkw : Only KB w wr := (Only.of_below HX.out).trans HB.out.2.2.2.1
    have hbox : wr.heap[w.heap.size]? = some (.cells #[.int .i64 2, .int .u64 (wd st 0 64 : Nat), .int .u64 (wd st 64 64 : Nat), .int .u64 (wd st 128 64 : Nat), .int .u64 (wd st 192 64 : Nat), .int .i64 l, .int .i64 h, .int .i64 g, .slice ad f.len cap] 28 (0, 0)) := (HB.out.2.2.2.1.block _ (by have := HZ.out; omega) (by have := HKB.out; omega)).trans HG0.out
    have hres : wr.heap[w.heap.size + 1]? = some (.cells z7 59 (0, 0)) := (HB.out.2.2.2.1.block _ (by have := HZ.out; omega) (by have := HKB.out; omega)).trans HG1.out
    obtain ⟨⟨⟨b0, b1, b2⟩, b3, b4, b5⟩, b6, b7, b8⟩ := nine hbox
    have hlt : w.heap.size + 1 < wr.heap.size := (Array.getElem?_eq_some_iff.1 hres).1
    have HLT := Lib.hid hlt
    have HKW := Lib.hid hkw
    have HRes := Lib.hid hres
    obtain ⟨vad, vcap, rfl⟩ := own_sl HB.out.2.1
    clear hkw hbox hlt hres
    by_cases hkn : k < f.len
    · have ki : (k : Int) < f.len := by omega
      have ki0 : (0 : Int) ≤ k := by omega
      obtain ⟨b, i0, ad2, cp2, rfl, hsv2, c0, c1, c2, c3, c4, c5, c6, c7, c8⟩ := kid HSV.out (Afar.only_ne HKW.out HS.out) k hkn
      have HS2 := Lib.hid hsv2
      have HNd := Lib.hid (NdK_nth n f k hkn HPk.out)
      have HL := Lib.hid (fun W hW hK => HCh.out k hkn (f.nth k).op (f.nth k).lo (f.nth k).hi (f.nth k).g (f.nth k).st (.slice ad2 (f.nth k).args.len cp2) W S PB KB K' hW HS.out hK HB.out.2.2.2.2.2 HNd.out)
      have HSt := Lib.hid (HB.out.2.2.2.2.1.trans (by rw [fac_step f k hkn K']))
      have eT : (⟨(f.nth k).op, (f.nth k).st, (f.nth k).lo, (f.nth k).hi, (f.nth k).g, (f.nth k).args⟩ : TN) = f.nth k := rfl
      have HOkY := Lib.hid (facN_ok n (f.nth k) K' HNd.out HB.out.2.2.2.2.2)
      rw [eT] at HL
      obtain ⟨Y, hY⟩ : ∃ Y, facN (f.nth k) K' = Y := ⟨_, rfl⟩
      rw [hY] at HL HSt HOkY
      obtain ⟨y, KY⟩ := Y
      clear hsv2 eT hY
      go_wp2_with (first
        | (go_at_call 59; (with_reducible refine (HL.out _ HS2.out HB.out.2.2.1).mono ?_); rintro e w2 ⟨rfl, hk2, ho2⟩
           have HK2 := Lib.hid hk2
           have HO2 := Lib.hid ho2
           have HPV := Lib.hid (HB.out.2.1.only (by have := HKB.out; omega) ho2)
           clear hk2 ho2 b0 b1 b2 b3 b4 b5 b6 b7 b8 c0 c1 c2 c3 c4 c5 c6 c7 c8)
        | (at_builtin; refine app1 (w.heap.size + 2) 92 59 (.agg z7) 7 56 Try.underlying92 info_f rfl (by decide) w2 rfl (.tmp 15) (.tmp 23) rfl (by have := HLT.out; have := HO2.out.size; omega) (.slice vad ys.length vcap) ys.length _ (cells_f y) rfl rfl HPV.out _ rfl rfl rfl ?d1 ?d2 ?d3 ?_))
      case d1 => simp [cells_f, Value.oneCell']
      case d2 => have := HB.out.1; unfold maxLen; omega
      case d3 => have := HB.out.1; omega
      intro g0 cap0 w8 ho8 hk8 hg8
      have hown : ∀ x, (Value.slice vad ys.length vcap).ownBlock = some x → w.heap.size + 2 ≤ x := fun x hx => (own_at HB.out.2.1 x hx).1
      have HF : Hid ((ys ++ [y]).length = k + 1 ∧ PV 59 7 cells_f w8 (w.heap.size + 2) (ys ++ [y]) (.slice (some ⟨g0, 0, none⟩) (ys.length + 1) cap0) ∧ KN w8 PB KB n KY ∧ Only KB W2 w8) := by
        refine Lib.hid ⟨by rw [List.length_append, HB.out.1]; rfl, ?_, HK2.out.keep hk8 (fun e => by have := hown _ e; have := HPB.out; omega) (fun e => by have := hown _ e; have := HKB.out; omega), ?_⟩
        · unfold PV
          rw [List.length_append, List.flatMap_append]
          have : ([y] : List FC).flatMap cells_f = cells_f y := by simp
          rw [this]
          exact ho8
        · have h1 := HB.out.2.2.2.1.trans HO2.out
          exact ⟨hk8.os.trans h1.os, hk8.tape.trans h1.tape, hk8.output.trans h1.output, Nat.le_trans h1.size hk8.size, fun b hb hne => (hk8.block b (by have := h1.size; omega) (fun e => by have := hown _ e; have := HZ.out; omega)).trans (h1.block b hb hne)⟩
      clear ho8 hk8 hg8 hown
      go_wp2_with fail
      go_roundw
      case rel => exact ⟨k + 1, ys ++ [y], KY, by omega, by go_num, Lib.hid ⟨HF.out.1, HF.out.2.1, HF.out.2.2.1, HF.out.2.2.2, by rw [HSt.out, List.append_assoc]; rfl, HOkY.out.2⟩⟩
      case measure => simp [intOf]; omega
    · obtain rfl : k = f.len := by omega
      have hend := HB.out.2.2.2.2.1
      rw [F.drop_len] at hend
      replace hend : facF f K = (ys ++ [], K') := hend
      rw [List.append_nil] at hend
      have HEnd := Lib.hid hend
      have hfo := facF_ok n f K HPk.out HFk.out
      rw [hend] at hfo
      have HFo := Lib.hid hfo
      clear hend hfo
      have HRS := HRes.out
      go_wp2_with (first | (refine wpList_store_row rfl 59 (.tmp 4) (.tmp 31) rfl (w.heap.size + 1) (fc7 ⟨false, 1, 1, st⟩) rfl rfl 59 _ HRS isz_f rfl (by simp [Value.oneCell']) ?_))
      refine bodyPost_ret (v := .agg (fc7 ⟨false, 1, 1, st⟩)) (results_cell_row rfl _ _ (w.heap.size + 1) _ (fc7 ⟨false, 1, 1, st⟩) (0, 0) _ rfl (setRow_heap _ _ _ _ _ _ HRS) Try.underlying59 rfl isz_f) rfl ?_
      rw [HEnd.out]
      exact ⟨rfl, (HB.out.2.2.1).keep (S := fun b => b = w.heap.size + 1) ⟨rfl, rfl, rfl, by rw [setRow_size]; exact Nat.le_refl _, fun b _ hb => setRow_other _ _ b _ hb⟩ (fun e => by have := HPB.out; omega) (fun e => by have := HKB.out; omega), (HKW.out).rowAt (by omega) _⟩


theorem of_3 (n : Nat) (f : F) (hch : ∀ i, i < f.len → OfOk n (f.nth i).args) (l h g : Int) (st : Nat → Bool) (sv : Value) (w : World) (S : Nat → Prop) (PB KB : Nat) (K : Nat → FC) (hsv : SV w S f sv) (hS : ∀ b, S b → b ≠ KB) (hkn : KN w PB KB n K) (hfk : ∀ k, FOk (K k)) (h6 : f.len ≤ 600) (hpk : preK n f) :
    Calls Try.prog 59 #[.pointer (some ⟨PB, 0, none⟩), .agg #[.int .i64 3, .int .u64 (wd st 0 64 : Nat), .int .u64 (wd st 64 64 : Nat), .int .u64 (wd st 128 64 : Nat), .int .u64 (wd st 192 64 : Nat), .int .i64 l, .int .i64 h, .int .i64 g, sv]] w fun e w' => e = .returned (.agg (fc7 ((facF f K).1.foldl catS FC1))) ∧ KN w' PB KB n ((facF f K).2) ∧ Only KB w w' := by
  have HSV := Lib.hid hsv
  have HCh := Lib.hid hch
  have HS := Lib.hid hS
  have HPk := Lib.hid hpk
  have hfl : (f.len : Int) ≤ 600 := by omega
  have HFl := Lib.hid h6
  obtain ⟨ad, cap, rfl⟩ := slice_form hsv
  obtain ⟨W2, hW2⟩ : ∃ W2, W2 = (w.alloc (.cells #[.int .i64 3, .int .u64 (wd st 0 64 : Nat), .int .u64 (wd st 64 64 : Nat), .int .u64 (wd st 128 64 : Nat), .int .u64 (wd st 192 64 : Nat), .int .i64 l, .int .i64 h, .int .i64 g, .slice ad f.len cap] 28)).alloc (.cells z7 59) := ⟨_, rfl⟩
  have hx : Below w.heap.size w W2 := by rw [hW2]; exact ((Below.refl _ _).alloc (Nat.le_refl _) _).alloc (by simp) _
  have hz2 : W2.heap.size = w.heap.size + 2 := by rw [hW2]; simp
  have hg0 : W2.heap[w.heap.size]? = some (.cells #[.int .i64 3, .int .u64 (wd st 0 64 : Nat), .int .u64 (wd st 64 64 : Nat), .int .u64 (wd st 128 64 : Nat), .int .u64 (wd st 192 64 : Nat), .int .i64 l, .int .i64 h, .int .i64 g, .slice ad f.len cap] 28 (0, 0)) := by
    rw [hW2, Below.heap_alloc _ _ _ (by simp)]
    exact heap_alloc_new w _
  have hg1 : W2.heap[w.heap.size + 1]? = some (.cells z7 59 (0, 0)) := by
    have := heap_alloc_new (w.alloc (.cells #[.int .i64 3, .int .u64 (wd st 0 64 : Nat), .int .u64 (wd st 64 64 : Nat), .int .u64 (wd st 128 64 : Nat), .int .u64 (wd st 192 64 : Nat), .int .i64 l, .int .i64 h, .int .i64 g, .slice ad f.len cap] 28)) (.cells z7 59)
    rw [hW2]
    simpa using this
  have HKB := Lib.hid hkn.lt
  have HPB := Lib.hid hkn.plt
  have HKn := Lib.hid (hkn.below hx)
  have HFk := Lib.hid hfk
  have HX := Lib.hid hx
  have HG0 := Lib.hid hg0
  have HG1 := Lib.hid hg1
  have HZ := Lib.hid hz2
  have HW2 := Lib.hid hW2
  clear hsv hch hS hkn hfk h6 hpk hx hz2 hg0 hg1 hW2
  go_enter Try.func59, Try.ntmps59
  go_wp2_with fail
  go_loopw [5, 6] (fun v i wr => ∃ (k : Nat) (ys : List FC) (K' : Nat → FC), k ≤ f.len ∧ i = .int .i64 k ∧ Hid (ys.length = k ∧ PV 59 7 cells_f wr (w.heap.size + 2) ys v ∧ KN wr PB KB n K' ∧ Only KB W2 wr ∧ facF f K = (ys ++ (facF (f.drop k) K').1, (facF (f.drop k) K').2) ∧ ∀ k, FOk (K' k))) (fun _ i _ => f.len - (intOf i).toNat)
  case atStart =>
    refine ⟨0, [], K, Nat.zero_le _, rfl, ?_⟩
    rw [← HW2.out]
    exact Lib.hid ⟨rfl, PV.nil _ _ _ _ _, HKn.out, Only.refl _ _, by (have : f.drop 0 = f := by cases f <;> rfl); rw [this]; rfl, HFk.out⟩
  case round =>
    obtain ⟨k, ys, K', hk, rfl, HB⟩ := hrel
    have hkw : Only KB w wr := (Only.of_below HX.out).trans HB.out.2.2.2.1
    have hbox : wr.heap[w.heap.size]? = some (.cells #[.int .i64 3, .int .u64 (wd st 0 64 : Nat), .int .u64 (wd st 64 64 : Nat), .int .u64 (wd st 128 64 : Nat), .int .u64 (wd st 192 64 : Nat), .int .i64 l, .int .i64 h, .int .i64 g, .slice ad f.len cap] 28 (0, 0)) := (HB.out.2.2.2.1.block _ (by have := HZ.out; omega) (by have := HKB.out; omega)).trans HG0.out
    have hres : wr.heap[w.heap.size + 1]? = some (.cells z7 59 (0, 0)) := (HB.out.2.2.2.1.block _ (by have := HZ.out; omega) (by have := HKB.out; omega)).trans HG1.out
    obtain ⟨⟨⟨b0, b1, b2⟩, b3, b4, b5⟩, b6, b7, b8⟩ := nine hbox
    have hlt : w.heap.size + 1 < wr.heap.size := (Array.getElem?_eq_some_iff.1 hres).1
    have HLT := Lib.hid hlt
    have HKW := Lib.hid hkw
    have HRes := Lib.hid hres
    obtain ⟨vad, vcap, rfl⟩ := own_sl HB.out.2.1
    clear hkw hbox hlt hres
    by_cases hkn : k < f.len
    · have ki : (k : Int) < f.len := by omega
      have ki0 : (0 : Int) ≤ k := by omega
      obtain ⟨b, i0, ad2, cp2, rfl, hsv2, c0, c1, c2, c3, c4, c5, c6, c7, c8⟩ := kid HSV.out (Afar.only_ne HKW.out HS.out) k hkn
      have HS2 := Lib.hid hsv2
      have HNd := Lib.hid (NdK_nth n f k hkn HPk.out)
      have HL := Lib.hid (fun W hW hK => HCh.out k hkn (f.nth k).op (f.nth k).lo (f.nth k).hi (f.nth k).g (f.nth k).st (.slice ad2 (f.nth k).args.len cp2) W S PB KB K' hW HS.out hK HB.out.2.2.2.2.2 HNd.out)
      have HSt := Lib.hid (HB.out.2.2.2.2.1.trans (by rw [fac_step f k hkn K']))
      have eT : (⟨(f.nth k).op, (f.nth k).st, (f.nth k).lo, (f.nth k).hi, (f.nth k).g, (f.nth k).args⟩ : TN) = f.nth k := rfl
      have HOkY := Lib.hid (facN_ok n (f.nth k) K' HNd.out HB.out.2.2.2.2.2)
      rw [eT] at HL
      obtain ⟨Y, hY⟩ : ∃ Y, facN (f.nth k) K' = Y := ⟨_, rfl⟩
      rw [hY] at HL HSt HOkY
      obtain ⟨y, KY⟩ := Y
      clear hsv2 eT hY
      go_wp2_with (first
        | (go_at_call 59; (with_reducible refine (HL.out _ HS2.out HB.out.2.2.1).mono ?_); rintro e w2 ⟨rfl, hk2, ho2⟩
           have HK2 := Lib.hid hk2
           have HO2 := Lib.hid ho2
           have HPV := Lib.hid (HB.out.2.1.only (by have := HKB.out; omega) ho2)
           clear hk2 ho2 b0 b1 b2 b3 b4 b5 b6 b7 b8 c0 c1 c2 c3 c4 c5 c6 c7 c8)
        | (at_builtin; refine app1 (w.heap.size + 2) 92 59 (.agg z7) 7 56 Try.underlying92 info_f rfl (by decide) w2 rfl (.tmp 15) (.tmp 23) rfl (by have := HLT.out; have := HO2.out.size; omega) (.slice vad ys.length vcap) ys.length _ (cells_f y) rfl rfl HPV.out _ rfl rfl rfl ?d1 ?d2 ?d3 ?_))
      case d1 => simp [cells_f, Value.oneCell']
      case d2 => have := HB.out.1; unfold maxLen; omega
      case d3 => have := HB.out.1; omega
      intro g0 cap0 w8 ho8 hk8 hg8
      have hown : ∀ x, (Value.slice vad ys.length vcap).ownBlock = some x → w.heap.size + 2 ≤ x := fun x hx => (own_at HB.out.2.1 x hx).1
      have HF : Hid ((ys ++ [y]).length = k + 1 ∧ PV 59 7 cells_f w8 (w.heap.size + 2) (ys ++ [y]) (.slice (some ⟨g0, 0, none⟩) (ys.length + 1) cap0) ∧ KN w8 PB KB n KY ∧ Only KB W2 w8) := by
        refine Lib.hid ⟨by rw [List.length_append, HB.out.1]; rfl, ?_, HK2.out.keep hk8 (fun e => by have := hown _ e; have := HPB.out; omega) (fun e => by have := hown _ e; have := HKB.out; omega), ?_⟩
        · unfold PV
          rw [List.length_append, List.flatMap_append]
          have : ([y] : List FC).flatMap cells_f = cells_f y := by simp
          rw [this]
          exact ho8
        · have h1 := HB.out.2.2.2.1.trans HO2.out
          exact ⟨hk8.os.trans h1.os, hk8.tape.trans h1.tape, hk8.output.trans h1.output, Nat.le_trans h1.size hk8.size, fun b hb hne => (hk8.block b (by have := h1.size; omega) (fun e => by have := hown _ e; have := HZ.out; omega)).trans (h1.block b hb hne)⟩
      clear ho8 hk8 hg8 hown
      go_wp2_with fail
      go_roundw
      case rel => exact ⟨k + 1, ys ++ [y], KY, by omega, by go_num, Lib.hid ⟨HF.out.1, HF.out.2.1, HF.out.2.2.1, HF.out.2.2.2, by rw [HSt.out, List.append_assoc]; rfl, HOkY.out.2⟩⟩
      case measure => simp [intOf]; omega
    · obtain rfl : k = f.len := by omega
      have hend := HB.out.2.2.2.2.1
      rw [F.drop_len] at hend
      replace hend : facF f K = (ys ++ [], K') := hend
      rw [List.append_nil] at hend
      have HEnd := Lib.hid hend
      have hfo := facF_ok n f K HPk.out HFk.out
      rw [hend] at hfo
      have HFo := Lib.hid hfo
      clear hend hfo
      have HRS0 := HRes
      have HCat := Lib.hid (fun W h => cat_any ys (.slice vad ys.length vcap) (w.heap.size + 2) W h HFo.out.1 (by have := HB.out.1; have := HFl.out; omega))
      go_wp2_with (first
        | (go_at_call 77; (with_reducible refine (HCat.out _ HB.out.2.1).mono ?_); rintro e w2 ⟨rfl, hb⟩
           have HRS := (hb.block _ HLT.out).trans HRes.out
           have HBe := Lib.hid hb
           clear hb b0 b1 b2 b3 b4 b5 b6 b7 b8)
        | (refine wpList_store_row rfl 59 (.tmp 4) (.tmp 35) rfl (w.heap.size + 1) (fc7 (ys.foldl catS FC1)) rfl rfl 59 _ HRS isz_f rfl (by simp [Value.oneCell']) ?_))
      refine bodyPost_ret (v := .agg (fc7 (ys.foldl catS FC1))) (results_cell_row rfl _ _ (w.heap.size + 1) _ (fc7 (ys.foldl catS FC1)) (0, 0) _ rfl (setRow_heap _ _ _ _ _ _ HRS) Try.underlying59 rfl isz_f) rfl ?_
      rw [HEnd.out]
      exact ⟨rfl, (HB.out.2.2.1.below HBe.out).keep (S := fun b => b = w.heap.size + 1) ⟨rfl, rfl, rfl, by rw [setRow_size]; exact Nat.le_refl _, fun b _ hb => setRow_other _ _ b _ hb⟩ (fun e => by have := HPB.out; omega) (fun e => by have := HKB.out; omega), (HKW.out.next HBe.out).rowAt (by omega) _⟩


theorem of_4 (n : Nat) (f : F) (hch : ∀ i, i < f.len → OfOk n (f.nth i).args) (l h g : Int) (st : Nat → Bool) (sv : Value) (w : World) (S : Nat → Prop) (PB KB : Nat) (K : Nat → FC) (hsv : SV w S f sv) (hS : ∀ b, S b → b ≠ KB) (hkn : KN w PB KB n K) (hfk : ∀ k, FOk (K k)) (h6 : f.len ≤ 600) (hpk : preK n f) (htw : 2 ≤ f.len) :
    Calls Try.prog 59 #[.pointer (some ⟨PB, 0, none⟩), .agg #[.int .i64 4, .int .u64 (wd st 0 64 : Nat), .int .u64 (wd st 64 64 : Nat), .int .u64 (wd st 128 64 : Nat), .int .u64 (wd st 192 64 : Nat), .int .i64 l, .int .i64 h, .int .i64 g, sv]] w fun e w' => e = .returned (.agg (fc7 (altL (facF f K).1))) ∧ KN w' PB KB n ((facF f K).2) ∧ Only KB w w' := by
  have HSV := Lib.hid hsv
  have HCh := Lib.hid hch
  have HS := Lib.hid hS
  have HPk := Lib.hid hpk
  have hfl : (f.len : Int) ≤ 600 := by omega
  have HFl := Lib.hid h6
  obtain ⟨ad, cap, rfl⟩ := slice_form hsv
  obtain ⟨W2, hW2⟩ : ∃ W2, W2 = (w.alloc (.cells #[.int .i64 4, .int .u64 (wd st 0 64 : Nat), .int .u64 (wd st 64 64 : Nat), .int .u64 (wd st 128 64 : Nat), .int .u64 (wd st 192 64 : Nat), .int .i64 l, .int .i64 h, .int .i64 g, .slice ad f.len cap] 28)).alloc (.cells z7 59) := ⟨_, rfl⟩
  have hx : Below w.heap.size w W2 := by rw [hW2]; exact ((Below.refl _ _).alloc (Nat.le_refl _) _).alloc (by simp) _
  have hz2 : W2.heap.size = w.heap.size + 2 := by rw [hW2]; simp
  have hg0 : W2.heap[w.heap.size]? = some (.cells #[.int .i64 4, .int .u64 (wd st 0 64 : Nat), .int .u64 (wd st 64 64 : Nat), .int .u64 (wd st 128 64 : Nat), .int .u64 (wd st 192 64 : Nat), .int .i64 l, .int .i64 h, .int .i64 g, .slice ad f.len cap] 28 (0, 0)) := by
    rw [hW2, Below.heap_alloc _ _ _ (by simp)]
    exact heap_alloc_new w _
  have hg1 : W2.heap[w.heap.size + 1]? = some (.cells z7 59 (0, 0)) := by
    have := heap_alloc_new (w.alloc (.cells #[.int .i64 4, .int .u64 (wd st 0 64 : Nat), .int .u64 (wd st 64 64 : Nat), .int .u64 (wd st 128 64 : Nat), .int .u64 (wd st 192 64 : Nat), .int .i64 l, .int .i64 h, .int .i64 g, .slice ad f.len cap] 28)) (.cells z7 59)
    rw [hW2]
    simpa using this
  have HKB := Lib.hid hkn.lt
  have HPB := Lib.hid hkn.plt
  have HKn := Lib.hid (hkn.below hx)
  have HFk := Lib.hid hfk
  have HX := Lib.hid hx
  have HG0 := Lib.hid hg0
  have HG1 := Lib.hid hg1
  have HZ := Lib.hid hz2
  have HW2 := Lib.hid hW2
  clear hsv hch hS hkn hfk h6 hpk hx hz2 hg0 hg1 hW2
  have HTw := Lib.hid htw
  clear htw
  go_enter Try.func59, Try.ntmps59
  go_wp2_with fail
  go_loopw [5, 6] (fun v i wr => ∃ (k : Nat) (ys : List FC) (K' : Nat → FC), k ≤ f.len ∧ i = .int .i64 k ∧ Hid (ys.length = k ∧ PV 59 7 cells_f wr (w.heap.size + 2) ys v ∧ KN wr PB KB n K' ∧ Only KB W2 wr ∧ facF f K = (ys ++ (facF (f.drop k) K').1, (facF (f.drop k) K').2) ∧ ∀ k, FOk (K' k))) (fun _ i _ => f.len - (intOf i).toNat)
  case atStart =>
    refine ⟨0, [], K, Nat.zero_le _, rfl, ?_⟩
    rw [← HW2.out]
    exact Lib.hid ⟨rfl, PV.nil _ _ _ _ _, HKn.out, Only.refl _ _, by (have : f.drop 0 = f := by cases f <;> rfl); rw [this]; rfl, HFk.out⟩
  case round =>
    obtain ⟨k, ys, K', hk, rfl, HB⟩ := hrel
    have hkw : Only KB w wr := (Only.of_below HX.out).trans HB.out.2.2.2.1
    have hbox : wr.heap[w.heap.size]? = some (.cells #[.int .i64 4, .int .u64 (wd st 0 64 : Nat), .int .u64 (wd st 64 64 : Nat), .int .u64 (wd st 128 64 : Nat), .int .u64 (wd st 192 64 : Nat), .int .i64 l, .int .i64 h, .int .i64 g, .slice ad f.len cap] 28 (0, 0)) := (HB.out.2.2.2.1.block _ (by have := HZ.out; omega) (by have := HKB.out; omega)).trans HG0.out
    have hres : wr.heap[w.heap.size + 1]? = some (.cells z7 59 (0, 0)) := (HB.out.2.2.2.1.block _ (by have := HZ.out; omega) (by have := HKB.out; omega)).trans HG1.out
    obtain ⟨⟨⟨b0, b1, b2⟩, b3, b4, b5⟩, b6, b7, b8⟩ := nine hbox
    have hlt : w.heap.size + 1 < wr.heap.size := (Array.getElem?_eq_some_iff.1 hres).1
    have HLT := Lib.hid hlt
    have HKW := Lib.hid hkw
    have HRes := Lib.hid hres
    obtain ⟨vad, vcap, rfl⟩ := own_sl HB.out.2.1
    clear hkw hbox hlt hres
    by_cases hkn : k < f.len
    · have ki : (k : Int) < f.len := by omega
      have ki0 : (0 : Int) ≤ k := by omega
      obtain ⟨b, i0, ad2, cp2, rfl, hsv2, c0, c1, c2, c3, c4, c5, c6, c7, c8⟩ := kid HSV.out (Afar.only_ne HKW.out HS.out) k hkn
      have HS2 := Lib.hid hsv2
      have HNd := Lib.hid (NdK_nth n f k hkn HPk.out)
      have HL := Lib.hid (fun W hW hK => HCh.out k hkn (f.nth k).op (f.nth k).lo (f.nth k).hi (f.nth k).g (f.nth k).st (.slice ad2 (f.nth k).args.len cp2) W S PB KB K' hW HS.out hK HB.out.2.2.2.2.2 HNd.out)
      have HSt := Lib.hid (HB.out.2.2.2.2.1.trans (by rw [fac_step f k hkn K']))
      have eT : (⟨(f.nth k).op, (f.nth k).st, (f.nth k).lo, (f.nth k).hi, (f.nth k).g, (f.nth k).args⟩ : TN) = f.nth k := rfl
      have HOkY := Lib.hid (facN_ok n (f.nth k) K' HNd.out HB.out.2.2.2.2.2)
      rw [eT] at HL
      obtain ⟨Y, hY⟩ : ∃ Y, facN (f.nth k) K' = Y := ⟨_, rfl⟩
      rw [hY] at HL HSt HOkY
      obtain ⟨y, KY⟩ := Y
      clear hsv2 eT hY
      go_wp2_with (first
        | (go_at_call 59; (with_reducible refine (HL.out _ HS2.out HB.out.2.2.1).mono ?_); rintro e w2 ⟨rfl, hk2, ho2⟩
           have HK2 := Lib.hid hk2
           have HO2 := Lib.hid ho2
           have HPV := Lib.hid (HB.out.2.1.only (by have := HKB.out; omega) ho2)
           clear hk2 ho2 b0 b1 b2 b3 b4 b5 b6 b7 b8 c0 c1 c2 c3 c4 c5 c6 c7 c8)
        | (at_builtin; refine app1 (w.heap.size + 2) 92 59 (.agg z7) 7 56 Try.underlying92 info_f rfl (by decide) w2 rfl (.tmp 15) (.tmp 23) rfl (by have := HLT.out; have := HO2.out.size; omega) (.slice vad ys.length vcap) ys.length _ (cells_f y) rfl rfl HPV.out _ rfl rfl rfl ?d1 ?d2 ?d3 ?_))
      case d1 => simp [cells_f, Value.oneCell']
      case d2 => have := HB.out.1; unfold maxLen; omega
      case d3 => have := HB.out.1; omega
      intro g0 cap0 w8 ho8 hk8 hg8
      have hown : ∀ x, (Value.slice vad ys.length vcap).ownBlock = some x → w.heap.size + 2 ≤ x := fun x hx => (own_at HB.out.2.1 x hx).1
      have HF : Hid ((ys ++ [y]).length = k + 1 ∧ PV 59 7 cells_f w8 (w.heap.size + 2) (ys ++ [y]) (.slice (some ⟨g0, 0, none⟩) (ys.length + 1) cap0) ∧ KN w8 PB KB n KY ∧ Only KB W2 w8) := by
        refine Lib.hid ⟨by rw [List.length_append, HB.out.1]; rfl, ?_, HK2.out.keep hk8 (fun e => by have := hown _ e; have := HPB.out; omega) (fun e => by have := hown _ e; have := HKB.out; omega), ?_⟩
        · unfold PV
          rw [List.length_append, List.flatMap_append]
          have : ([y] : List FC).flatMap cells_f = cells_f y := by simp
          rw [this]
          exact ho8
        · have h1 := HB.out.2.2.2.1.trans HO2.out
          exact ⟨hk8.os.trans h1.os, hk8.tape.trans h1.tape, hk8.output.trans h1.output, Nat.le_trans h1.size hk8.size, fun b hb hne => (hk8.block b (by have := h1.size; omega) (fun e => by have := hown _ e; have := HZ.out; omega)).trans (h1.block b hb hne)⟩
      clear ho8 hk8 hg8 hown
      go_wp2_with fail
      go_roundw
      case rel => exact ⟨k + 1, ys ++ [y], KY, by omega, by go_num, Lib.hid ⟨HF.out.1, HF.out.2.1, HF.out.2.2.1, HF.out.2.2.2, by rw [HSt.out, List.append_assoc]; rfl, HOkY.out.2⟩⟩
      case measure => simp [intOf]; omega
    · obtain rfl : k = f.len := by omega
      have hend := HB.out.2.2.2.2.1
      rw [F.drop_len] at hend
      replace hend : facF f K = (ys ++ [], K') := hend
      rw [List.append_nil] at hend
      have HEnd := Lib.hid hend
      have hfo := facF_ok n f K HPk.out HFk.out
      rw [hend] at hfo
      have HFo := Lib.hid hfo
      clear hend hfo
      obtain ⟨y0, r, rfl⟩ : ∃ y0 r, ys = y0 :: r := by
        cases ys with
        | nil => have := HB.out.1; have := HTw.out; simp at *; omega
        | cons a b => exact ⟨a, b, rfl⟩
      have HPa : Hid (PV 59 7 cells_f wr (w.heap.size + 2) (y0 :: r) (.slice vad (r.length + 1) vcap)) := Lib.hid HB.out.2.1
      have HAlt := Lib.hid (fun W (h : PV 59 7 cells_f W (w.heap.size + 2) (y0 :: r) (.slice vad (r.length + 1) vcap)) => alt_any y0 r (.slice vad (r.length + 1) vcap) (w.heap.size + 2) W h HFo.out.1 (by have := HB.out.1; have := HFl.out; omega))
      go_wp2_with (first
        | (go_at_call 78; (with_reducible refine (HAlt.out _ HPa.out).mono ?_); rintro e w2 ⟨rfl, hb⟩
           have HRS := (hb.block _ HLT.out).trans HRes.out
           have HBe := Lib.hid hb
           clear hb b0 b1 b2 b3 b4 b5 b6 b7 b8)
        | (refine wpList_store_row rfl 59 (.tmp 4) (.tmp 39) rfl (w.heap.size + 1) (fc7 (r.foldl altS y0)) rfl rfl 59 _ HRS isz_f rfl (by simp [Value.oneCell']) ?_))
      refine bodyPost_ret (v := .agg (fc7 (r.foldl altS y0))) (results_cell_row rfl _ _ (w.heap.size + 1) _ (fc7 (r.foldl altS y0)) (0, 0) _ rfl (setRow_heap _ _ _ _ _ _ HRS) Try.underlying59 rfl isz_f) rfl ?_
      rw [HEnd.out]
      exact ⟨rfl, (HB.out.2.2.1.below HBe.out).keep (S := fun b => b = w.heap.size + 1) ⟨rfl, rfl, rfl, by rw [setRow_size]; exact Nat.le_refl _, fun b _ hb => setRow_other _ _ b _ hb⟩ (fun e => by have := HPB.out; omega) (fun e => by have := HKB.out; omega), (HKW.out.next HBe.out).rowAt (by omega) _⟩


theorem of_x (n : Nat) (f : F) (hch : ∀ i, i < f.len → OfOk n (f.nth i).args) (o l h g : Int) (st : Nat → Bool) (sv : Value) (w : World) (S : Nat → Prop) (PB KB : Nat) (K : Nat → FC) (hsv : SV w S f sv) (hS : ∀ b, S b → b ≠ KB) (hkn : KN w PB KB n K) (hfk : ∀ k, FOk (K k)) (h6 : f.len ≤ 600) (hpk : preK n f) (e2 : (o == 2) = false) (e3 : (o == 3) = false) (e4 : (o == 4) = false) (e5 : (o == 5) = false) (e6 : (o == 6) = false) (e9 : (o == 9) = false) :
    Calls Try.prog 59 #[.pointer (some ⟨PB, 0, none⟩), .agg #[.int .i64 o, .int .u64 (wd st 0 64 : Nat), .int .u64 (wd st 64 64 : Nat), .int .u64 (wd st 128 64 : Nat), .int .u64 (wd st 192 64 : Nat), .int .i64 l, .int .i64 h, .int .i64 g, sv]] w fun e w' => e = .returned (.agg (fc7 (FC1))) ∧ KN w' PB KB n ((facF f K).2) ∧ Only KB w w' := by
  have HSV := Lib.hid hsv
  have HCh := Lib.hid hch
  have HS := Lib.hid hS
  have HPk := Lib.hid hpk
  have hfl : (f.len : Int) ≤ 600 := by omega
  have HFl := Lib.hid h6
  obtain ⟨ad, cap, rfl⟩ := slice_form hsv
  obtain ⟨W2, hW2⟩ : ∃ W2, W2 = (w.alloc (.cells #[.int .i64 o, .int .u64 (wd st 0 64 : Nat), .int .u64 (wd st 64 64 : Nat), .int .u64 (wd st 128 64 : Nat), .int .u64 (wd st 192 64 : Nat), .int .i64 l, .int .i64 h, .int .i64 g, .slice ad f.len cap] 28)).alloc (.cells z7 59) := ⟨_, rfl⟩
  have hx : Below w.heap.size w W2 := by rw [hW2]; exact ((Below.refl _ _).alloc (Nat.le_refl _) _).alloc (by simp) _
  have hz2 : W2.heap.size = w.heap.size + 2 := by rw [hW2]; simp
  have hg0 : W2.heap[w.heap.size]? = some (.cells #[.int .i64 o, .int .u64 (wd st 0 64 : Nat), .int .u64 (wd st 64 64 : Nat), .int .u64 (wd st 128 64 : Nat), .int .u64 (wd st 192 64 : Nat), .int .i64 l, .int .i64 h, .int .i64 g, .slice ad f.len cap] 28 (0, 0)) := by
    rw [hW2, Below.heap_alloc _ _ _ (by simp)]
    exact heap_alloc_new w _
  have hg1 : W2.heap[w.heap.size + 1]? = some (.cells z7 59 (0, 0)) := by
    have := heap_alloc_new (w.alloc (.cells #[.int .i64 o, .int .u64 (wd st 0 64 : Nat), .int .u64 (wd st 64 64 : Nat), .int .u64 (wd st 128 64 : Nat), .int .u64 (wd st 192 64 : Nat), .int .i64 l, .int .i64 h, .int .i64 g, .slice ad f.len cap] 28)) (.cells z7 59)
    rw [hW2]
    simpa using this
  have HKB := Lib.hid hkn.lt
  have HPB := Lib.hid hkn.plt
  have HKn := Lib.hid (hkn.below hx)
  have HFk := Lib.hid hfk
  have HX := Lib.hid hx
  have HG0 := Lib.hid hg0
  have HG1 := Lib.hid hg1
  have HZ := Lib.hid hz2
  have HW2 := Lib.hid hW2
  clear hsv hch hS hkn hfk h6 hpk hx hz2 hg0 hg1 hW2
  go_enter Try.func59, Try.ntmps59
  go_wp2_with fail
  go_loopw [5, 6] (fun v i wr => ∃ (k : Nat) (ys : List FC) (K' : Nat → FC), k ≤ f.len ∧ i = .int .i64 k ∧ Hid (ys.length = k ∧ PV 59 7 cells_f wr (w.heap.size + 2) ys v ∧ KN wr PB KB n K' ∧ Only KB W2 wr ∧ facF f K = (ys ++ (facF (f.drop k) K').1, (facF (f.drop k) K').2) ∧ ∀ k, FOk (K' k))) (fun _ i _ => f.len - (intOf i).toNat)
  case atStart =>
    refine ⟨0, [], K, Nat.zero_le _, rfl, ?_⟩
    rw [← HW2.out]
    exact Lib.hid ⟨rfl, PV.nil _ _ _ _ _, HKn.out, Only.refl _ _, by (have : f.drop 0 = f := by cases f <;> rfl); rw [this]; rfl, HFk.out⟩
  case round =>
    obtain ⟨k, ys, K', hk, rfl, HB⟩ := hrel
    have hkw : Only KB w wr := (Only.of_below HX.out).trans HB.out.2.2.2.1
    have hbox : wr.heap[w.heap.size]? = some (.cells #[.int .i64 o, .int .u64 (wd st 0 64 : Nat), .int .u64 (wd st 64 64 : Nat), .int .u64 (wd st 128 64 : Nat), .int .u64 (wd st 192 64 : Nat), .int .i64 l, .int .i64 h, .int .i64 g, .slice ad f.len cap] 28 (0, 0)) := (HB.out.2.2.2.1.block _ (by have := HZ.out; omega) (by have := HKB.out; omega)).trans HG0.out
    have hres : wr.heap[w.heap.size + 1]? = some (.cells z7 59 (0, 0)) := (HB.out.2.2.2.1.block _ (by have := HZ.out; omega) (by have := HKB.out; omega)).trans HG1.out
    obtain ⟨⟨⟨b0, b1, b2⟩, b3, b4, b5⟩, b6, b7, b8⟩ := nine hbox
    have hlt : w.heap.size + 1 < wr.heap.size := (Array.getElem?_eq_some_iff.1 hres).1
    have HLT := Lib.hid hlt
    have HKW := Lib.hid hkw
    have HRes := Lib.hid hres
    obtain ⟨vad, vcap, rfl⟩ := own_sl HB.out.2.1
    clear hkw hbox hlt hres
    by_cases hkn : k < f.len
    · have ki : (k : Int) < f.len := by omega
      have ki0 : (0 : Int) ≤ k := by omega
      obtain ⟨b, i0, ad2, cp2, rfl, hsv2, c0, c1, c2, c3, c4, c5, c6, c7, c8⟩ := kid HSV.out (Afar.only_ne HKW.out HS.out) k hkn
      have HS2 := Lib.hid hsv2
      have HNd := Lib.hid (NdK_nth n f k hkn HPk.out)
      have HL := Lib.hid (fun W hW hK => HCh.out k hkn (f.nth k).op (f.nth k).lo (f.nth k).hi (f.nth k).g (f.nth k).st (.slice ad2 (f.nth k).args.len cp2) W S PB KB K' hW HS.out hK HB.out.2.2.2.2.2 HNd.out)
      have HSt := Lib.hid (HB.out.2.2.2.2.1.trans (by rw [fac_step f k hkn K']))
      have eT : (⟨(f.nth k).op, (f.nth k).st, (f.nth k).lo, (f.nth k).hi, (f.nth k).g, (f.nth k).args⟩ : TN) = f.nth k := rfl
      have HOkY := Lib.hid (facN_ok n (f.nth k) K' HNd.out HB.out.2.2.2.2.2)
      rw [eT] at HL
      obtain ⟨Y, hY⟩ : ∃ Y, facN (f.nth k) K' = Y := ⟨_, rfl⟩
      rw [hY] at HL HSt HOkY
      obtain ⟨y, KY⟩ := Y
      clear hsv2 eT hY
      go_wp2_with (first
        | (go_at_call 59; (with_reducible refine (HL.out _ HS2.out HB.out.2.2.1).mono ?_); rintro e w2 ⟨rfl, hk2, ho2⟩
           have HK2 := Lib.hid hk2
           have HO2 := Lib.hid ho2
           have HPV := Lib.hid (HB.out.2.1.only (by have := HKB.out; omega) ho2)
           clear hk2 ho2 b0 b1 b2 b3 b4 b5 b6 b7 b8 c0 c1 c2 c3 c4 c5 c6 c7 c8)
        | (at_builtin; refine app1 (w.heap.size + 2) 92 59 (.agg z7) 7 56 Try.underlying92 info_f rfl (by decide) w2 rfl (.tmp 15) (.tmp 23) rfl (by have := HLT.out; have := HO2.out.size; omega) (.slice vad ys.length vcap) ys.length _ (cells_f y) rfl rfl HPV.out _ rfl rfl rfl ?d1 ?d2 ?d3 ?_))
      case d1 => simp [cells_f, Value.oneCell']
      case d2 => have := HB.out.1; unfold maxLen; omega
      case d3 => have := HB.out.1; omega
      intro g0 cap0 w8 ho8 hk8 hg8
      have hown : ∀ x, (Value.slice vad ys.length vcap).ownBlock = some x → w.heap.size + 2 ≤ x := fun x hx => (own_at HB.out.2.1 x hx).1
      have HF : Hid ((ys ++ [y]).length = k + 1 ∧ PV 59 7 cells_f w8 (w.heap.size + 2) (ys ++ [y]) (.slice (some ⟨g0, 0, none⟩) (ys.length + 1) cap0) ∧ KN w8 PB KB n KY ∧ Only KB W2 w8) := by
        refine Lib.hid ⟨by rw [List.length_append, HB.out.1]; rfl, ?_, HK2.out.keep hk8 (fun e => by have := hown _ e; have := HPB.out; omega) (fun e => by have := hown _ e; have := HKB.out; omega), ?_⟩
        · unfold PV
          rw [List.length_append, List.flatMap_append]
          have : ([y] : List FC).flatMap cells_f = cells_f y := by simp
          rw [this]
          exact ho8
        · have h1 := HB.out.2.2.2.1.trans HO2.out
          exact ⟨hk8.os.trans h1.os, hk8.tape.trans h1.tape, hk8.output.trans h1.output, Nat.le_trans h1.size hk8.size, fun b hb hne => (hk8.block b (by have := h1.size; omega) (fun e => by have := hown _ e; have := HZ.out; omega)).trans (h1.block b hb hne)⟩
      clear ho8 hk8 hg8 hown
      go_wp2_with fail
      go_roundw
      case rel => exact ⟨k + 1, ys ++ [y], KY, by omega, by go_num, Lib.hid ⟨HF.out.1, HF.out.2.1, HF.out.2.2.1, HF.out.2.2.2, by rw [HSt.out, List.append_assoc]; rfl, HOkY.out.2⟩⟩
      case measure => simp [intOf]; omega
    · obtain rfl : k = f.len := by omega
      have hend := HB.out.2.2.2.2.1
      rw [F.drop_len] at hend
      replace hend : facF f K = (ys ++ [], K') := hend
      rw [List.append_nil] at hend
      have HEnd := Lib.hid hend
      have hfo := facF_ok n f K HPk.out HFk.out
      rw [hend] at hfo
      have HFo := Lib.hid hfo
      clear hend hfo
      have HRS := HRes.out
      go_wp2_with (first
        | (refine wpList_store_row rfl 59 (.tmp 4) (.tmp 102) rfl (w.heap.size + 1) #[.bool true, .int .i64 0, .int .i64 0, .int .u64 0, .int .u64 0, .int .u64 0, .int .u64 0] rfl rfl 59 _ HRS isz_f rfl (by simp [Value.oneCell']) ?_))
      refine bodyPost_ret (v := .agg #[.bool true, .int .i64 0, .int .i64 0, .int .u64 0, .int .u64 0, .int .u64 0, .int .u64 0]) (results_cell_row rfl _ _ (w.heap.size + 1) _ #[.bool true, .int .i64 0, .int .i64 0, .int .u64 0, .int .u64 0, .int .u64 0, .int .u64 0] (0, 0) _ rfl (setRow_heap _ _ _ _ _ _ HRS) Try.underlying59 rfl isz_f) rfl ?_
      rw [HEnd.out]
      have e1 : fc7 FC1 = #[.bool true, .int .i64 0, .int .i64 0, .int .u64 0, .int .u64 0, .int .u64 0, .int .u64 0] := by
        unfold fc7 FC1
        rw [wd_noSet.1, wd_noSet.2.1, wd_noSet.2.2.1, wd_noSet.2.2.2]
        rfl
      rw [e1]
      exact ⟨rfl, (HB.out.2.2.1).keep (S := fun b => b = w.heap.size + 1) ⟨rfl, rfl, rfl, by rw [setRow_size]; exact Nat.le_refl _, fun b _ hb => setRow_other _ _ b _ hb⟩ (fun e => by have := HPB.out; omega) (fun e => by have := HKB.out; omega), (HKW.out).rowAt (by omega) _⟩

end Go.Proofs.Ytpfbpgbgedbalaa
