/- RtW5. -/
import Derived.Test.YtbjobbkipmkndaaDoorPj3
import Derived.Deep.Cut
import Derived.Deep.CutRange
import Derived.Deep.DeepCutAuto
set_option linter.unusedVariables false
set_option linter.unusedSimpArgs false
set_option maxRecDepth 100000
set_option maxHeartbeats 8000000
namespace Go.Proofs.YtbjobbkipmkndaaDoor
open Go.RowKit
theorem walk_5 (f : F) (l h g : Int) (st : Nat → Bool) (ad : Option Addr) (m cap B lvl n lv : Nat) (w : World) (c : List Bool) (sv : Value) (bk wt wr wn fb bb kb : Bool) (hA : SA w B ⟨n, lv, bk, c, wt, wr, wn, false⟩ sv) (hO : w.ownsRow (B + 1) 4 1 sv c.length (bls c))
    (hn : n < 2147483647) (hlv : lv ≤ 65536) (hl : lvl ≤ 65536) (hcl : c.length ≤ n) (hg1 : -9223372036854775808 ≤ g) (hg2 : g ≤ 9223372036854775807)
    (HFi : Hid (∀ W, Calls Tryd.prog 55 #[.agg #[.int .i64 5, .int .u64 (wd st 0 64 : Nat), .int .u64 (wd st 64 64 : Nat), .int .u64 (wd st 128 64 : Nat), .int .u64 (wd st 192 64 : Nat), .int .i64 l, .int .i64 h, .int .i64 g, .slice ad m cap]] W fun e w' => e = .returned (.bool fb) ∧ Below W.heap.size W w'))
    (HBn : Hid (∀ W, Calls Tryd.prog 56 #[.agg #[.int .i64 5, .int .u64 (wd st 0 64 : Nat), .int .u64 (wd st 64 64 : Nat), .int .u64 (wd st 128 64 : Nat), .int .u64 (wd st 192 64 : Nat), .int .i64 l, .int .i64 h, .int .i64 g, .slice ad m cap]] W fun e w' => e = .returned (.bool bb) ∧ Below W.heap.size W w'))
    (hkb : kb = clB c g)
    (HWA : Hid (∀ W q, SM W B q → Below B w W → q.Ok → Calls Tryd.prog 58 #[.pointer (some ⟨B, 0, none⟩), .agg #[.int .i64 5, .int .u64 (wd st 0 64 : Nat), .int .u64 (wd st 64 64 : Nat), .int .u64 (wd st 128 64 : Nat), .int .u64 (wd st 192 64 : Nat), .int .i64 l, .int .i64 h, .int .i64 g, .slice ad m cap], .int .i64 (lvl : Int)] W fun e w' => e = .returned (.tuple #[]) ∧ SM w' B (walkF f (lvl + 1) q) ∧ Below B W w')) :
    Calls Tryd.prog 47 #[.pointer (some ⟨B, 0, none⟩), .agg #[.int .i64 5, .int .u64 (wd st 0 64 : Nat), .int .u64 (wd st 64 64 : Nat), .int .u64 (wd st 128 64 : Nat), .int .u64 (wd st 192 64 : Nat), .int .i64 l, .int .i64 h, .int .i64 g, .slice ad m cap], .int .i64 (lvl : Int)] w fun e w' => e = .returned (.tuple #[]) ∧ SM w' B (walkF f (lvl + 1) ⟨n + 1, max lv lvl, bk || false, c, wt || !fb, wr || (true && !bb), wn || (false && !kb), false⟩) ∧ Below B w w' := by
  have hlt := hA.lt
  skip
  have HW := Lib.hid (WS.first #[.int .i64 5, .int .u64 (wd st 0 64 : Nat), .int .u64 (wd st 64 64 : Nat), .int .u64 (wd st 128 64 : Nat), .int .u64 (wd st 192 64 : Nat), .int .i64 l, .int .i64 h, .int .i64 g, .slice ad m cap] hA hO rfl)
  obtain ⟨⟨⟨c0, c1, c2, c3⟩, c4, c5, c6, c7⟩, ff⟩ := hA.all
  dsimp only at c0 c1 c2 c4 c5 c6 c7
  have hne : ¬ w.heap.size = B := by omega
  have HL := Lib.hid hlt
  subst hkb
  have hl' : (lvl : Int) ≤ 65536 := by omega
  have hl0 : (0 : Int) ≤ lvl := by omega
  have hv0 : (0 : Int) ≤ lv := by omega
  have hv' : (lv : Int) ≤ 65536 := by omega
  have hnx : ((n : Int) == 2147483647) = false := by simp; omega
  have HCl := Lib.hid hcl
  have HOk : Hid (SQ.Ok ⟨n + 1, max lv lvl, bk || false, c, wt || !fb, wr || (true && !bb), wn || (false && !clB c g), false⟩) := Lib.hid ⟨by show n + 1 ≤ _; omega, by show max lv lvl ≤ _; omega, by show c.length ≤ n + 1; omega⟩
  have hcl2 : c.length < 2147483647 := by omega
  have HBN : Hid ((g != (c.length : Int) + 1) = !decide (g = (c.length : Int) + 1)) := Lib.hid (by simp [bne, beq_dec])
  clear hA hO hcl
  go_enter Tryd.func47, Tryd.ntmps47
  go_upto_region 3 with fail
  have HW3 := HW
  generalize (w.setCell ⟨B, 7, none⟩ (.bool false)).alloc (.cells #[.int .i64 5, .int .u64 (wd st 0 64 : Nat), .int .u64 (wd st 64 64 : Nat), .int .u64 (wd st 128 64 : Nat), .int .u64 (wd st 192 64 : Nat), .int .i64 l, .int .i64 h, .int .i64 g, .slice ad m cap] 34) = W3 at HW3 ⊢
  clear c0 c1 c2 c3 c4 c5 c6 c7 ff HW
  obtain ⟨⟨⟨c0, c1, c2, c3⟩, c4, c5, c6, c7⟩, ff⟩ := HW3.out.sa.all
  dsimp only at c0 c1 c2 c4 c5 c6 c7
  obtain ⟨⟨⟨a0, a1, a2⟩, a3, a4, a5⟩, a6, a7, a8⟩ := nine HW3.out.e
  have hlw := HW3.out.lt
  go_cut [4] (fun x4 wx => x4 = .pointer (some ⟨w.heap.size, 0, none⟩) ∧ Hid (WS w B ⟨(n + 1), lv, bk, c, wt, wr, wn, false⟩ sv #[.int .i64 5, .int .u64 (wd st 0 64 : Nat), .int .u64 (wd st 64 64 : Nat), .int .u64 (wd st 128 64 : Nat), .int .u64 (wd st 192 64 : Nat), .int .i64 l, .int .i64 h, .int .i64 g, .slice ad m cap] wx))
  case first =>
    go_wp2_with fail
    all_goals go_meet
    all_goals (case rel => exact ⟨rfl, Lib.hid (HW3.out.put 0 _ (by first | rfl | (rw [show n = true by assumption]; rfl) | (rw [show n = false by assumption]; rfl) | (rw [show n = false by simpa using ‹¬ n = true›]; rfl)) rfl)⟩)
  case rest =>
  obtain ⟨rfl, HW4⟩ := hcut
  clear c0 c1 c2 c3 c4 c5 c6 c7 ff a0 a1 a2 a3 a4 a5 a6 a7 a8 hlw HW3
  obtain ⟨⟨⟨c0, c1, c2, c3⟩, c4, c5, c6, c7⟩, ff⟩ := HW4.out.sa.all
  dsimp only at c0 c1 c2 c4 c5 c6 c7
  obtain ⟨⟨⟨a0, a1, a2⟩, a3, a4, a5⟩, a6, a7, a8⟩ := nine HW4.out.e
  have hlw := HW4.out.lt
  go_upto_region 4 with fail
  go_cut [4] (fun x4 wx => x4 = .pointer (some ⟨w.heap.size, 0, none⟩) ∧ Hid (WS w B ⟨(n + 1), (max lv lvl), bk, c, wt, wr, wn, false⟩ sv #[.int .i64 5, .int .u64 (wd st 0 64 : Nat), .int .u64 (wd st 64 64 : Nat), .int .u64 (wd st 128 64 : Nat), .int .u64 (wd st 192 64 : Nat), .int .i64 l, .int .i64 h, .int .i64 g, .slice ad m cap] wx))
  case first =>
    go_wp2_with fail
    all_goals go_meet
    all_goals (case rel => exact ⟨rfl, Lib.hid (HW4.out.put 1 _ (by simp only [scells]; simp; omega) rfl)⟩)
  case rest =>
  obtain ⟨rfl, HW5⟩ := hcut
  clear c0 c1 c2 c3 c4 c5 c6 c7 ff a0 a1 a2 a3 a4 a5 a6 a7 a8 hlw HW4
  obtain ⟨⟨⟨c0, c1, c2, c3⟩, c4, c5, c6, c7⟩, ff⟩ := HW5.out.sa.all
  dsimp only at c0 c1 c2 c4 c5 c6 c7
  obtain ⟨⟨⟨a0, a1, a2⟩, a3, a4, a5⟩, a6, a7, a8⟩ := nine HW5.out.e
  have hlw := HW5.out.lt
  go_upto_region 5 with fail
  go_cut [4] (fun x4 wx => x4 = .pointer (some ⟨w.heap.size, 0, none⟩) ∧ Hid (WS w B ⟨(n + 1), (max lv lvl), (bk || false), c, wt, wr, wn, false⟩ sv #[.int .i64 5, .int .u64 (wd st 0 64 : Nat), .int .u64 (wd st 64 64 : Nat), .int .u64 (wd st 128 64 : Nat), .int .u64 (wd st 192 64 : Nat), .int .i64 l, .int .i64 h, .int .i64 g, .slice ad m cap] wx))
  case first =>
    go_wp2_with fail
    all_goals go_meet
    all_goals (case rel => exact ⟨rfl, Lib.hid (HW5.out.put 2 _ (by first | rfl | (rw [show bk = true by assumption]; rfl) | (rw [show bk = false by assumption]; rfl) | (rw [show bk = false by simpa using ‹¬ bk = true›]; rfl)) rfl)⟩)
  case rest =>
  obtain ⟨rfl, HW6⟩ := hcut
  clear c0 c1 c2 c3 c4 c5 c6 c7 ff a0 a1 a2 a3 a4 a5 a6 a7 a8 hlw HW5
  obtain ⟨⟨⟨c0, c1, c2, c3⟩, c4, c5, c6, c7⟩, ff⟩ := HW6.out.sa.all
  dsimp only at c0 c1 c2 c4 c5 c6 c7
  obtain ⟨⟨⟨a0, a1, a2⟩, a3, a4, a5⟩, a6, a7, a8⟩ := nine HW6.out.e
  have hlw := HW6.out.lt
  go_upto_region 6 with fail
  go_cut [4] (fun x4 wx => x4 = .pointer (some ⟨w.heap.size, 0, none⟩) ∧ Hid (WS w B ⟨(n + 1), (max lv lvl), (bk || false), c, (wt || !fb), wr, wn, false⟩ sv #[.int .i64 5, .int .u64 (wd st 0 64 : Nat), .int .u64 (wd st 64 64 : Nat), .int .u64 (wd st 128 64 : Nat), .int .u64 (wd st 192 64 : Nat), .int .i64 l, .int .i64 h, .int .i64 g, .slice ad m cap] wx))
  case first =>
    go_wp2_with (first
    | (go_at_call 55; (with_reducible refine (HFi.out _).mono ?_); rintro e w1 ⟨rfl, hb1⟩
       have HV := Lib.hid (HW6.out.below hb1)
       clear hb1 c0 c1 c2 c3 c4 c5 c6 c7 ff a0 a1 a2 a3 a4 a5 a6 a7 a8 hlw
       obtain ⟨⟨⟨c0, c1, c2, c3⟩, c4, c5, c6, c7⟩, ff⟩ := HV.out.sa.all
       dsimp only at c0 c1 c2 c4 c5 c6 c7
       have hlw := HV.out.lt))
    all_goals go_meet
    all_goals (case rel => (first | exact ⟨rfl, Lib.hid (HV.out.put 4 _ (by first | rfl | (rw [show wt = true by assumption]; rfl) | (rw [show wt = false by assumption]; rfl) | (rw [show wt = false by simpa using ‹¬ wt = true›]; rfl)) rfl)⟩ | exact ⟨rfl, Lib.hid (HW6.out.put 4 _ (by first | rfl | (rw [show wt = true by assumption]; rfl) | (rw [show wt = false by assumption]; rfl) | (rw [show wt = false by simpa using ‹¬ wt = true›]; rfl)) rfl)⟩))
  case rest =>
  obtain ⟨rfl, HW7⟩ := hcut
  clear c0 c1 c2 c3 c4 c5 c6 c7 ff a0 a1 a2 a3 a4 a5 a6 a7 a8 hlw HW6
  obtain ⟨⟨⟨c0, c1, c2, c3⟩, c4, c5, c6, c7⟩, ff⟩ := HW7.out.sa.all
  dsimp only at c0 c1 c2 c4 c5 c6 c7
  obtain ⟨⟨⟨a0, a1, a2⟩, a3, a4, a5⟩, a6, a7, a8⟩ := nine HW7.out.e
  have hlw := HW7.out.lt
  go_upto_region 7 with fail
  go_cut [4] (fun x4 wx => x4 = .pointer (some ⟨w.heap.size, 0, none⟩) ∧ Hid (WS w B ⟨(n + 1), (max lv lvl), (bk || false), c, (wt || !fb), (wr || (true && !bb)), wn, false⟩ sv #[.int .i64 5, .int .u64 (wd st 0 64 : Nat), .int .u64 (wd st 64 64 : Nat), .int .u64 (wd st 128 64 : Nat), .int .u64 (wd st 192 64 : Nat), .int .i64 l, .int .i64 h, .int .i64 g, .slice ad m cap] wx))
  case first =>
    go_wp2_with (first
    | (go_at_call 56; (with_reducible refine (HBn.out _).mono ?_); rintro e w1 ⟨rfl, hb1⟩
       have HV := Lib.hid (HW7.out.below hb1)
       clear hb1 c0 c1 c2 c3 c4 c5 c6 c7 ff a0 a1 a2 a3 a4 a5 a6 a7 a8 hlw
       obtain ⟨⟨⟨c0, c1, c2, c3⟩, c4, c5, c6, c7⟩, ff⟩ := HV.out.sa.all
       dsimp only at c0 c1 c2 c4 c5 c6 c7
       have hlw := HV.out.lt))
    all_goals go_meet
    all_goals (case rel => (first | exact ⟨rfl, Lib.hid (HV.out.put 5 _ (by first | rfl | (rw [show wr = true by assumption]; rfl) | (rw [show wr = false by assumption]; rfl) | (rw [show wr = false by simpa using ‹¬ wr = true›]; rfl)) rfl)⟩ | exact ⟨rfl, Lib.hid (HW7.out.put 5 _ (by first | rfl | (rw [show wr = true by assumption]; rfl) | (rw [show wr = false by assumption]; rfl) | (rw [show wr = false by simpa using ‹¬ wr = true›]; rfl)) rfl)⟩))
  case rest =>
  obtain ⟨rfl, HW8⟩ := hcut
  clear c0 c1 c2 c3 c4 c5 c6 c7 ff a0 a1 a2 a3 a4 a5 a6 a7 a8 hlw HW7
  obtain ⟨⟨⟨c0, c1, c2, c3⟩, c4, c5, c6, c7⟩, ff⟩ := HW8.out.sa.all
  dsimp only at c0 c1 c2 c4 c5 c6 c7
  obtain ⟨⟨⟨a0, a1, a2⟩, a3, a4, a5⟩, a6, a7, a8⟩ := nine HW8.out.e
  have hlw := HW8.out.lt
  go_upto_region 8 with fail
  go_cut [4] (fun x4 wx => x4 = .pointer (some ⟨w.heap.size, 0, none⟩) ∧ Hid (WS w B ⟨(n + 1), (max lv lvl), (bk || false), c, (wt || !fb), (wr || (true && !bb)), (wn || (false && !(clB c g))), false⟩ sv #[.int .i64 5, .int .u64 (wd st 0 64 : Nat), .int .u64 (wd st 64 64 : Nat), .int .u64 (wd st 128 64 : Nat), .int .u64 (wd st 192 64 : Nat), .int .i64 l, .int .i64 h, .int .i64 g, .slice ad m cap] wx))
  case first =>
    go_wp2_with fail
    all_goals go_meet
    all_goals (case rel => exact ⟨rfl, Lib.hid (HW8.out.put 6 _ (by first | rfl | (rw [show wn = true by assumption]; rfl) | (rw [show wn = false by assumption]; rfl) | (rw [show wn = false by simpa using ‹¬ wn = true›]; rfl)) rfl)⟩)
  case rest =>
  obtain ⟨rfl, HW9⟩ := hcut
  clear c0 c1 c2 c3 c4 c5 c6 c7 ff a0 a1 a2 a3 a4 a5 a6 a7 a8 hlw HW8
  obtain ⟨⟨⟨c0, c1, c2, c3⟩, c4, c5, c6, c7⟩, ff⟩ := HW9.out.sa.all
  dsimp only at c0 c1 c2 c4 c5 c6 c7
  obtain ⟨⟨⟨a0, a1, a2⟩, a3, a4, a5⟩, a6, a7, a8⟩ := nine HW9.out.e
  have hlw := HW9.out.lt
  have HWl := HW9
  clear HW9
  go_wp2_with (first
    | (go_at_call 58; go_loud ((with_reducible refine (HWA.out _ _ HWl.out.sm HWl.out.bel HOk.out).mono ?_); rintro e w9 ⟨rfl, hs9, hb9⟩; have HS9 := Lib.hid hs9; have HB9 := Lib.hid (HWl.out.bel.trans hb9); clear hs9 hb9))
    )
  refine bodyPost_ret (results_none rfl _ _ _) rfl ?_
  exact ⟨rfl, HS9.out, HB9.out⟩
end Go.Proofs.YtbjobbkipmkndaaDoor
