/- RtW6, RtWA. -/
import Derived.Test.YtbjobbkipmkndaaDoorPj3
import Derived.Deep.Cut
import Derived.Deep.CutRange
import Derived.Deep.DeepCutAuto
import Derived.Test.YtbjobbkipmkndaaDoorPj4
import Derived.Test.YtbjobbkipmkndaaDoorPj5
set_option linter.unusedVariables false
set_option linter.unusedSimpArgs false
set_option maxRecDepth 100000
set_option maxHeartbeats 8000000
namespace Go.Proofs.YtbjobbkipmkndaaDoor
open Go.RowKit
theorem walk_6 (f : F) (l h g : Int) (st : Nat → Bool) (ad : Option Addr) (m cap B lvl n lv : Nat) (w : World) (c : List Bool) (sv : Value) (bk wt wr wn fb bb kb : Bool) (hA : SA w B ⟨n, lv, bk, c, wt, wr, wn, false⟩ sv) (hO : w.ownsRow (B + 1) 4 1 sv c.length (bls c))
    (hn : n < 2147483647) (hlv : lv ≤ 65536) (hl : lvl ≤ 65536) (hcl : c.length ≤ n) (hg1 : -9223372036854775808 ≤ g) (hg2 : g ≤ 9223372036854775807)
    (HFi : Hid (∀ W, Calls Tryd.prog 55 #[.agg #[.int .i64 6, .int .u64 (wd st 0 64 : Nat), .int .u64 (wd st 64 64 : Nat), .int .u64 (wd st 128 64 : Nat), .int .u64 (wd st 192 64 : Nat), .int .i64 l, .int .i64 h, .int .i64 g, .slice ad m cap]] W fun e w' => e = .returned (.bool fb) ∧ Below W.heap.size W w'))
    (HBn : Hid (∀ W, Calls Tryd.prog 56 #[.agg #[.int .i64 6, .int .u64 (wd st 0 64 : Nat), .int .u64 (wd st 64 64 : Nat), .int .u64 (wd st 128 64 : Nat), .int .u64 (wd st 192 64 : Nat), .int .i64 l, .int .i64 h, .int .i64 g, .slice ad m cap]] W fun e w' => e = .returned (.bool bb) ∧ Below W.heap.size W w'))
    (hkb : kb = clB c g)
    (HWA : Hid (∀ W q, SM W B q → Below B w W → q.Ok → Calls Tryd.prog 58 #[.pointer (some ⟨B, 0, none⟩), .agg #[.int .i64 6, .int .u64 (wd st 0 64 : Nat), .int .u64 (wd st 64 64 : Nat), .int .u64 (wd st 128 64 : Nat), .int .u64 (wd st 192 64 : Nat), .int .i64 l, .int .i64 h, .int .i64 g, .slice ad m cap], .int .i64 (lvl : Int)] W fun e w' => e = .returned (.tuple #[]) ∧ SM w' B (walkF f (lvl + 1) q) ∧ Below B W w')) :
    Calls Tryd.prog 47 #[.pointer (some ⟨B, 0, none⟩), .agg #[.int .i64 6, .int .u64 (wd st 0 64 : Nat), .int .u64 (wd st 64 64 : Nat), .int .u64 (wd st 128 64 : Nat), .int .u64 (wd st 192 64 : Nat), .int .i64 l, .int .i64 h, .int .i64 g, .slice ad m cap], .int .i64 (lvl : Int)] w fun e w' => e = .returned (.tuple #[]) ∧ SM w' B (closeQ c.length (walkF f (lvl + 1) (openQ g ⟨n + 1, max lv lvl, bk || false, c, wt || !fb, wr || (false && !bb), wn || (false && !kb), false⟩))) ∧ Below B w w' := by
  have hlt := hA.lt
  obtain ⟨ad2, cap2, rfl⟩ := own_sl hO
  have HW := Lib.hid (WS.first #[.int .i64 6, .int .u64 (wd st 0 64 : Nat), .int .u64 (wd st 64 64 : Nat), .int .u64 (wd st 128 64 : Nat), .int .u64 (wd st 192 64 : Nat), .int .i64 l, .int .i64 h, .int .i64 g, .slice ad m cap] hA hO rfl)
  obtain ⟨⟨⟨c0, c1, c2, c3⟩, c4, c5, c6, c7⟩, ff⟩ := hA.all
  dsimp only at c0 c1 c2 c4 c5 c6 c7
  have hne : ¬ w.heap.size = B := by omega
  have HL := Lib.hid hlt
  subst hkb
  have hl' : (lvl : Int) ≤ 65536 := by omega
  have hl0 : (0 : Int) ≤ lvl := by omega
  have hv0 : (0 : Int) ≤ lv := by omega
  have hv' : (lv : Int) ≤ 65536 := by omega
  have hnx : ((n : Int) == 2147483647) = false := by simp; omega
  have HCl := Lib.hid hcl
  have HOk : Hid (SQ.Ok (openQ g ⟨n + 1, max lv lvl, bk || false, c, wt || !fb, wr || (false && !bb), wn || (false && !clB c g), false⟩)) := Lib.hid ⟨by show n + 1 ≤ _; omega, by show max lv lvl ≤ _; omega, by show (c ++ [false]).length ≤ n + 1; rw [List.length_append]; show c.length + 1 ≤ _; omega⟩
  have hcl2 : c.length < 2147483647 := by omega
  have HBN : Hid ((g != (c.length : Int) + 1) = !decide (g = (c.length : Int) + 1)) := Lib.hid (by simp [bne, beq_dec])
  clear hA hO hcl
  go_enter Tryd.func47, Tryd.ntmps47
  go_upto_region 3 with fail
  have HW3 := HW
  generalize (w.setCell ⟨B, 7, none⟩ (.bool false)).alloc (.cells #[.int .i64 6, .int .u64 (wd st 0 64 : Nat), .int .u64 (wd st 64 64 : Nat), .int .u64 (wd st 128 64 : Nat), .int .u64 (wd st 192 64 : Nat), .int .i64 l, .int .i64 h, .int .i64 g, .slice ad m cap] 34) = W3 at HW3 ⊢
  clear c0 c1 c2 c3 c4 c5 c6 c7 ff HW
  obtain ⟨⟨⟨c0, c1, c2, c3⟩, c4, c5, c6, c7⟩, ff⟩ := HW3.out.sa.all
  dsimp only at c0 c1 c2 c4 c5 c6 c7
  obtain ⟨⟨⟨a0, a1, a2⟩, a3, a4, a5⟩, a6, a7, a8⟩ := nine HW3.out.e
  have hlw := HW3.out.lt
  go_cut [4] (fun x4 wx => x4 = .pointer (some ⟨w.heap.size, 0, none⟩) ∧ Hid (WS w B ⟨(n + 1), lv, bk, c, wt, wr, wn, false⟩ (.slice ad2 c.length cap2) #[.int .i64 6, .int .u64 (wd st 0 64 : Nat), .int .u64 (wd st 64 64 : Nat), .int .u64 (wd st 128 64 : Nat), .int .u64 (wd st 192 64 : Nat), .int .i64 l, .int .i64 h, .int .i64 g, .slice ad m cap] wx))
  case first =>
    go_wp2_with fail
    all_goals go_meet
    all_goals (case rel => exact ⟨rfl, Lib.hid (HW3.out.put 0 _ (by first | rfl | (rw [show n = true by assumption]; rfl) | (rw [show n = false by assumption]; rfl) | (rw [show n = false by simpa using ‹¬ n = true›]; rfl)) rfl)⟩)
  case rest =>
  obtain ⟨rfl, HW4⟩ := hcut
  clear c0 c1 c2 c3 c4 c5 c6 c7 ff a0 a1 a2 a3 a4 a5 a6 a7 a8 hlw HW3
  obtain ⟨⟨⟨c0, c1, c2, c3⟩, c4, c5, c6, c7⟩, ff⟩ := HW4.out.sa.all
  dsimp only at c0 c1 c2 c4 c5 c6 c7
  obtain ⟨⟨⟨a0, a1, a2⟩, a3, a4, a5⟩, a6, a7, a8⟩ := nine HW4.out.e
  have hlw := HW4.out.lt
  go_upto_region 4 with fail
  go_cut [4] (fun x4 wx => x4 = .pointer (some ⟨w.heap.size, 0, none⟩) ∧ Hid (WS w B ⟨(n + 1), (max lv lvl), bk, c, wt, wr, wn, false⟩ (.slice ad2 c.length cap2) #[.int .i64 6, .int .u64 (wd st 0 64 : Nat), .int .u64 (wd st 64 64 : Nat), .int .u64 (wd st 128 64 : Nat), .int .u64 (wd st 192 64 : Nat), .int .i64 l, .int .i64 h, .int .i64 g, .slice ad m cap] wx))
  case first =>
    go_wp2_with fail
    all_goals go_meet
    all_goals (case rel => exact ⟨rfl, Lib.hid (HW4.out.put 1 _ (by simp only [scells]; simp; omega) rfl)⟩)
  case rest =>
  obtain ⟨rfl, HW5⟩ := hcut
  clear c0 c1 c2 c3 c4 c5 c6 c7 ff a0 a1 a2 a3 a4 a5 a6 a7 a8 hlw HW4
  obtain ⟨⟨⟨c0, c1, c2, c3⟩, c4, c5, c6, c7⟩, ff⟩ := HW5.out.sa.all
  dsimp only at c0 c1 c2 c4 c5 c6 c7
  obtain ⟨⟨⟨a0, a1, a2⟩, a3, a4, a5⟩, a6, a7, a8⟩ := nine HW5.out.e
  have hlw := HW5.out.lt
  go_upto_region 5 with fail
  go_cut [4] (fun x4 wx => x4 = .pointer (some ⟨w.heap.size, 0, none⟩) ∧ Hid (WS w B ⟨(n + 1), (max lv lvl), (bk || false), c, wt, wr, wn, false⟩ (.slice ad2 c.length cap2) #[.int .i64 6, .int .u64 (wd st 0 64 : Nat), .int .u64 (wd st 64 64 : Nat), .int .u64 (wd st 128 64 : Nat), .int .u64 (wd st 192 64 : Nat), .int .i64 l, .int .i64 h, .int .i64 g, .slice ad m cap] wx))
  case first =>
    go_wp2_with fail
    all_goals go_meet
    all_goals (case rel => exact ⟨rfl, Lib.hid (HW5.out.put 2 _ (by first | rfl | (rw [show bk = true by assumption]; rfl) | (rw [show bk = false by assumption]; rfl) | (rw [show bk = false by simpa using ‹¬ bk = true›]; rfl)) rfl)⟩)
  case rest =>
  obtain ⟨rfl, HW6⟩ := hcut
  clear c0 c1 c2 c3 c4 c5 c6 c7 ff a0 a1 a2 a3 a4 a5 a6 a7 a8 hlw HW5
  obtain ⟨⟨⟨c0, c1, c2, c3⟩, c4, c5, c6, c7⟩, ff⟩ := HW6.out.sa.all
  dsimp only at c0 c1 c2 c4 c5 c6 c7
  obtain ⟨⟨⟨a0, a1, a2⟩, a3, a4, a5⟩, a6, a7, a8⟩ := nine HW6.out.e
  have hlw := HW6.out.lt
  go_upto_region 6 with fail
  go_cut [4] (fun x4 wx => x4 = .pointer (some ⟨w.heap.size, 0, none⟩) ∧ Hid (WS w B ⟨(n + 1), (max lv lvl), (bk || false), c, (wt || !fb), wr, wn, false⟩ (.slice ad2 c.length cap2) #[.int .i64 6, .int .u64 (wd st 0 64 : Nat), .int .u64 (wd st 64 64 : Nat), .int .u64 (wd st 128 64 : Nat), .int .u64 (wd st 192 64 : Nat), .int .i64 l, .int .i64 h, .int .i64 g, .slice ad m cap] wx))
  case first =>
    go_wp2_with (first
    | (go_at_call 55; (with_reducible refine (HFi.out _).mono ?_); rintro e w1 ⟨rfl, hb1⟩
       have HV := Lib.hid (HW6.out.below hb1)
       clear hb1 c0 c1 c2 c3 c4 c5 c6 c7 ff a0 a1 a2 a3 a4 a5 a6 a7 a8 hlw
       obtain ⟨⟨⟨c0, c1, c2, c3⟩, c4, c5, c6, c7⟩, ff⟩ := HV.out.sa.all
       dsimp only at c0 c1 c2 c4 c5 c6 c7
       have hlw := HV.out.lt))
    all_goals go_meet
    all_goals (case rel => (first | exact ⟨rfl, Lib.hid (HV.out.put 4 _ (by first | rfl | (rw [show wt = true by assumption]; rfl) | (rw [show wt = false by assumption]; rfl) | (rw [show wt = false by simpa using ‹¬ wt = true›]; rfl)) rfl)⟩ | exact ⟨rfl, Lib.hid (HW6.out.put 4 _ (by first | rfl | (rw [show wt = true by assumption]; rfl) | (rw [show wt = false by assumption]; rfl) | (rw [show wt = false by simpa using ‹¬ wt = true›]; rfl)) rfl)⟩))
  case rest =>
  obtain ⟨rfl, HW7⟩ := hcut
  clear c0 c1 c2 c3 c4 c5 c6 c7 ff a0 a1 a2 a3 a4 a5 a6 a7 a8 hlw HW6
  obtain ⟨⟨⟨c0, c1, c2, c3⟩, c4, c5, c6, c7⟩, ff⟩ := HW7.out.sa.all
  dsimp only at c0 c1 c2 c4 c5 c6 c7
  obtain ⟨⟨⟨a0, a1, a2⟩, a3, a4, a5⟩, a6, a7, a8⟩ := nine HW7.out.e
  have hlw := HW7.out.lt
  go_upto_region 7 with fail
  go_cut [4] (fun x4 wx => x4 = .pointer (some ⟨w.heap.size, 0, none⟩) ∧ Hid (WS w B ⟨(n + 1), (max lv lvl), (bk || false), c, (wt || !fb), (wr || (false && !bb)), wn, false⟩ (.slice ad2 c.length cap2) #[.int .i64 6, .int .u64 (wd st 0 64 : Nat), .int .u64 (wd st 64 64 : Nat), .int .u64 (wd st 128 64 : Nat), .int .u64 (wd st 192 64 : Nat), .int .i64 l, .int .i64 h, .int .i64 g, .slice ad m cap] wx))
  case first =>
    go_wp2_with fail
    all_goals go_meet
    all_goals (case rel => exact ⟨rfl, Lib.hid (HW7.out.put 5 _ (by first | rfl | (rw [show wr = true by assumption]; rfl) | (rw [show wr = false by assumption]; rfl) | (rw [show wr = false by simpa using ‹¬ wr = true›]; rfl)) rfl)⟩)
  case rest =>
  obtain ⟨rfl, HW8⟩ := hcut
  clear c0 c1 c2 c3 c4 c5 c6 c7 ff a0 a1 a2 a3 a4 a5 a6 a7 a8 hlw HW7
  obtain ⟨⟨⟨c0, c1, c2, c3⟩, c4, c5, c6, c7⟩, ff⟩ := HW8.out.sa.all
  dsimp only at c0 c1 c2 c4 c5 c6 c7
  obtain ⟨⟨⟨a0, a1, a2⟩, a3, a4, a5⟩, a6, a7, a8⟩ := nine HW8.out.e
  have hlw := HW8.out.lt
  go_upto_region 8 with fail
  go_cut [4] (fun x4 wx => x4 = .pointer (some ⟨w.heap.size, 0, none⟩) ∧ Hid (WS w B ⟨(n + 1), (max lv lvl), (bk || false), c, (wt || !fb), (wr || (false && !bb)), (wn || (false && !(clB c g))), false⟩ (.slice ad2 c.length cap2) #[.int .i64 6, .int .u64 (wd st 0 64 : Nat), .int .u64 (wd st 64 64 : Nat), .int .u64 (wd st 128 64 : Nat), .int .u64 (wd st 192 64 : Nat), .int .i64 l, .int .i64 h, .int .i64 g, .slice ad m cap] wx))
  case first =>
    go_wp2_with fail
    all_goals go_meet
    all_goals (case rel => exact ⟨rfl, Lib.hid (HW8.out.put 6 _ (by first | rfl | (rw [show wn = true by assumption]; rfl) | (rw [show wn = false by assumption]; rfl) | (rw [show wn = false by simpa using ‹¬ wn = true›]; rfl)) rfl)⟩)
  case rest =>
  obtain ⟨rfl, HW9⟩ := hcut
  clear c0 c1 c2 c3 c4 c5 c6 c7 ff a0 a1 a2 a3 a4 a5 a6 a7 a8 hlw HW8
  obtain ⟨⟨⟨c0, c1, c2, c3⟩, c4, c5, c6, c7⟩, ff⟩ := HW9.out.sa.all
  dsimp only at c0 c1 c2 c4 c5 c6 c7
  obtain ⟨⟨⟨a0, a1, a2⟩, a3, a4, a5⟩, a6, a7, a8⟩ := nine HW9.out.e
  have hlw := HW9.out.lt
  go_upto_region 12 with fail
  go_cut [4, 6] (fun x4 x6 wx => x4 = .pointer (some ⟨w.heap.size, 0, none⟩) ∧ x6 = .int .i64 (c.length : Int) ∧ Hid (WS w B ⟨(n + 1), (max lv lvl), (bk || false), c, (wt || !fb), ((wr || (false && !bb)) || !decide (g = (c.length : Int) + 1)), (wn || (false && !(clB c g))), false⟩ (.slice ad2 c.length cap2) #[.int .i64 6, .int .u64 (wd st 0 64 : Nat), .int .u64 (wd st 64 64 : Nat), .int .u64 (wd st 128 64 : Nat), .int .u64 (wd st 192 64 : Nat), .int .i64 l, .int .i64 h, .int .i64 g, .slice ad m cap] wx))
  case first =>
    go_wp2_with fail
    all_goals go_meet
    all_goals (case rel => exact ⟨rfl, rfl, Lib.hid (HW9.out.put 5 _ (by first | rfl | (rw [show wr = true by assumption]; rfl) | (rw [show wr = false by assumption, ← HBN.out]; rfl) | (rw [show wr = false by simpa using ‹¬ wr = true›, ← HBN.out]; rfl)) rfl)⟩)
  case rest =>
  obtain ⟨rfl, rfl, HWl⟩ := hcut
  clear c0 c1 c2 c3 c4 c5 c6 c7 ff a0 a1 a2 a3 a4 a5 a6 a7 a8 hlw HW9
  obtain ⟨⟨⟨c0, c1, c2, c3⟩, c4, c5, c6, c7⟩, ff⟩ := HWl.out.sa.all
  dsimp only at c0 c1 c2 c4 c5 c6 c7
  obtain ⟨⟨⟨a0, a1, a2⟩, a3, a4, a5⟩, a6, a7, a8⟩ := nine HWl.out.e
  have hlw := HWl.out.lt
  have hcl3 : (c.length : Int) < 2147483647 := by omega
  clear hcl3
  go_upto_region 14 with (first
    | (at_builtin; refine app1 (B + 1) 71 4 (.bool false) 1 1 Tryd.underlying71 infoB rfl (by decide) wc rfl (.tmp 135) (.tmp 136) rfl (by have := HWl.out.lt; have := HWl.out.hB; omega) (.slice ad2 c.length cap2) c.length _ [.bool false] rfl rfl HWl.out.own _ rfl rfl rfl ?d1 ?d2 ?d3 ?_))
  case d1 => simp [Value.oneCell']
  case d2 => unfold maxLen; omega
  case d3 => omega
  intro g0 cap0 w8 ho8 hk8 hg8
  have HOP := Lib.hid (HWl.out.opened (q' := (openQ g ⟨(n + 1), (max lv lvl), (bk || false), c, (wt || !fb), (wr || (false && !bb)), (wn || (false && !(clB c g))), false⟩)) ho8 hk8 rfl rfl)
  have b8 : w8.heap[B]? = some (.cells (scells ⟨(n + 1), (max lv lvl), (bk || false), c, (wt || !fb), ((wr || (false && !bb)) || !decide (g = (c.length : Int) + 1)), (wn || (false && !(clB c g))), false⟩ (.slice ad2 c.length cap2)) 73 (0, 0)) := (hk8.block B (by have := HWl.out.lt; have := HWl.out.hB; omega) (fun e => by have := (own_at HWl.out.own B e).1; omega)).trans HWl.out.sa
  have f8 : ∀ j, w8.frozen? ⟨B, j, none⟩ = false := fun j => frozen_of_row w8 B j _ _ b8
  have d8 : w8.cell? ⟨B, 3, none⟩ = some (.slice ad2 c.length cap2) := cell_of_row w8 B 3 _ _ _ b8
  have l8 : B < w8.heap.size := (Array.getElem?_eq_some_iff.1 b8).1
  clear c0 c1 c2 c3 c4 c5 c6 c7 ff a0 a1 a2 a3 a4 a5 a6 a7 a8 hlw b8 ho8 hk8 hg8
  try dsimp only at d8
  go_upto_region 14 with fail
  try dsimp only at HOP
  generalize w8.setCell ⟨B, 3, none⟩ (.slice (some ⟨g0, 0, none⟩) (c.length + 1) cap0) = w9 at HOP ⊢
  obtain ⟨⟨⟨a0, a1, a2⟩, a3, a4, a5⟩, a6, a7, a8⟩ := nine HOP.out.2.2
  have hl9 : w.heap.size < w9.heap.size := (Array.getElem?_eq_some_iff.1 HOP.out.2.2).1
  clear f8 d8 l8
  obtain ⟨QA, hQA⟩ : ∃ QA, walkF f (lvl + 1) (openQ g ⟨(n + 1), (max lv lvl), (bk || false), c, (wt || !fb), (wr || (false && !bb)), (wn || (false && !(clB c g))), false⟩) = QA := ⟨_, rfl⟩
  have hok9 : c.length + 1 ≤ QA.cl.length := by
    have := (walkF_ok f (lvl + 1) (openQ g ⟨(n + 1), (max lv lvl), (bk || false), c, (wt || !fb), (wr || (false && !bb)), (wn || (false && !(clB c g))), false⟩) ⟨by show n + 1 ≤ _; omega, by show max lv lvl ≤ _; omega, by show (c ++ [false]).length ≤ n + 1; rw [List.length_append]; have := HCl.out; show c.length + 1 ≤ _; omega⟩).2
    rw [hQA] at this
    have e : (openQ g ⟨(n + 1), (max lv lvl), (bk || false), c, (wt || !fb), (wr || (false && !bb)), (wn || (false && !(clB c g))), false⟩).cl.length = c.length + 1 := by show (c ++ [false]).length = _; rw [List.length_append]; rfl
    omega
  have HW9 : Hid (Calls Tryd.prog 58 #[.pointer (some ⟨B, 0, none⟩), .agg #[.int .i64 6, .int .u64 (wd st 0 64 : Nat), .int .u64 (wd st 64 64 : Nat), .int .u64 (wd st 128 64 : Nat), .int .u64 (wd st 192 64 : Nat), .int .i64 l, .int .i64 h, .int .i64 g, .slice ad m cap], .int .i64 (lvl : Int)] w9 fun e w' => e = .returned (.tuple #[]) ∧ SM w' B QA ∧ Below B w9 w') := Lib.hid (by rw [← hQA]; exact HWA.out w9 _ HOP.out.1 HOP.out.2.1 HOk.out)
  have HQA := Lib.hid hQA
  clear hQA
  go_upto_region 15 with (first
    | (go_at_call 58; (with_reducible refine HW9.out.mono ?_); rintro e wA ⟨rfl, hs9, hb9⟩; have HS9 := Lib.hid hs9; have HB9 := Lib.hid (HOP.out.2.1.trans hb9); clear hs9 hb9)
    )
  clear a0 a1 a2 a3 a4 a5 a6 a7 a8 hl9
  obtain ⟨svA, hsA, hoA⟩ := HS9.out
  obtain ⟨gA, capA, rfl⟩ := own_more hoA (by omega)
  have HC9 := Lib.hid (SM.close (i := c.length) hsA hoA)
  have cA : wA.cell? ⟨B, 3, none⟩ = some (.slice (some ⟨gA, 0, none⟩) QA.cl.length capA) := hsA.cell 3
  have cB : wA.cell? ⟨gA, c.length, none⟩ = some (.bool (QA.cl.getD c.length false)) := by
    rw [hoA.cellAt c.length (by omega)]
    unfold bls
    rw [List.getElem?_map, List.getElem?_eq_getElem (by omega)]
    simp [List.getD, List.getElem?_eq_getElem (show c.length < QA.cl.length by omega)]
  have fA : wA.frozen? ⟨gA, c.length, none⟩ = false := hoA.frozenAt c.length
  have hi0 : (0 : Int) ≤ (c.length : Int) := by omega
  have hi1 : (c.length : Int) < (QA.cl.length : Int) := by omega
  generalize QA.cl.getD c.length false = bA at cB
  clear hsA hoA
  go_wp2_with fail
  go_end0
  rw [HQA.out]
  exact ⟨rfl, HC9.out.1, HB9.out.trans HC9.out.2⟩
end Go.Proofs.YtbjobbkipmkndaaDoor
set_option linter.unusedVariables false
set_option linter.unusedSimpArgs false
set_option maxRecDepth 100000
set_option maxHeartbeats 8000000
namespace Go.Proofs.YtbjobbkipmkndaaDoor
open Go.RowKit
def WalkG (f : F) : Prop := ∀ (o l h g : Int) (st : Nat → Bool) (sv : Value) (w : World) (S : Nat → Prop) (B : Nat) (q : SQ) (lvl : Nat), SV w S f sv → (∀ b, S b → b < B) → SM w B q → q.Ok → lvl ≤ 65537 → f.len ≤ maxLen → f.fits → -9223372036854775808 ≤ g → g ≤ 9223372036854775807 →
  Calls Tryd.prog 47 #[.pointer (some ⟨B, 0, none⟩), .agg #[.int .i64 o, .int .u64 (wd st 0 64 : Nat), .int .u64 (wd st 64 64 : Nat), .int .u64 (wd st 128 64 : Nat), .int .u64 (wd st 192 64 : Nat), .int .i64 l, .int .i64 h, .int .i64 g, sv], .int .i64 (lvl : Int)] w fun e w' => e = .returned (.tuple #[]) ∧ SM w' B (walkT ⟨o, st, l, h, g, f⟩ lvl q) ∧ Below B w w'
theorem F.fits_g : ∀ {f : F} (k : Nat), f.fits → k < f.len → -9223372036854775808 ≤ (f.nth k).g ∧ (f.nth k).g ≤ 9223372036854775807
  | .nil, _, _, h => by cases h
  | .cons o s l h g a r, 0, hf, _ => hf.1.2.2.2
  | .cons o s l h g a r, k + 1, hf, hk => F.fits_g (f := r) k hf.2.2.2 (by have : k + 1 < r.len + 1 := hk; omega)
theorem walkargs_any (f : F) (hch : ∀ i, i < f.len → WalkG (f.nth i).args) (o l h g : Int) (st : Nat → Bool) (sv : Value) (w : World) (S : Nat → Prop) (B : Nat) (q : SQ) (lvl : Nat) (hsv : SV w S f sv) (hS : ∀ b, S b → b < B) (h0 : SM w B q) (hq : q.Ok) (hl : lvl ≤ 65536) (hlen : f.len ≤ maxLen) (hfit : f.fits) :
    Calls Tryd.prog 58 #[.pointer (some ⟨B, 0, none⟩), .agg #[.int .i64 o, .int .u64 (wd st 0 64 : Nat), .int .u64 (wd st 64 64 : Nat), .int .u64 (wd st 128 64 : Nat), .int .u64 (wd st 192 64 : Nat), .int .i64 l, .int .i64 h, .int .i64 g, sv], .int .i64 (lvl : Int)] w fun e w' => e = .returned (.tuple #[]) ∧ SM w' B (walkF f (lvl + 1) q) ∧ Below B w w' := by
  obtain ⟨zs, ad, cap, rfl, hcap, hfv, hcells⟩ := hsv
  have hfl : (f.len : Int) ≤ 9223372036854775807 := by unfold maxLen at hlen; omega
  have hBl : B < w.heap.size := by obtain ⟨_, h1, _⟩ := h0; exact h1.lt
  obtain ⟨W2, hW2⟩ : ∃ W2, W2 = w.alloc (.cells #[.int .i64 o, .int .u64 (wd st 0 64 : Nat), .int .u64 (wd st 64 64 : Nat), .int .u64 (wd st 128 64 : Nat), .int .u64 (wd st 192 64 : Nat), .int .i64 l, .int .i64 h, .int .i64 g, .slice ad f.len cap] 34) := ⟨_, rfl⟩
  have hx : Below w.heap.size w W2 := by rw [hW2]; exact (Below.refl _ _).alloc (Nat.le_refl _) _
  have hxB : Below B w W2 := hx.mono (by omega)
  have HXB := Lib.hid hxB
  have HW2 := Lib.hid hW2
  have HSM := Lib.hid (h0.below hx)
  have HS := Lib.hid hS
  have HCh := Lib.hid hch
  have HFV := Lib.hid hfv
  have HCe := Lib.hid hcells
  have HFt := Lib.hid hfit
  have HQ := Lib.hid hq
  have HBL := Lib.hid hBl
  have HL := Lib.hid hl
  clear h0 hq hx hxB hW2 hS hch hfv hcells hfit hcap hlen hBl
  go_enter Tryd.func58, Tryd.ntmps58
  go_wp2_with fail
  go_loopw [11] (fun i wr => ∃ (k : Nat) (q' : SQ), k ≤ f.len ∧ i = .int .i64 k ∧ Hid (Below B w wr ∧ SM wr B q' ∧ q'.Ok ∧ walkF f (lvl + 1) q = walkF (f.drop k) (lvl + 1) q')) (fun i _ => f.len - (intOf i).toNat)
  case atStart =>
    refine ⟨0, q, Nat.zero_le _, rfl, ?_⟩
    rw [← HW2.out]
    exact Lib.hid ⟨HXB.out, HSM.out, HQ.out, by rw [show f.drop 0 = f by cases f <;> rfl]⟩
  case round =>
    obtain ⟨k, q', hk, rfl, HB⟩ := hrel
    by_cases hkn : k < f.len
    · have ki : (k : Int) < f.len := by omega
      have ki0 : (0 : Int) ≤ k := by omega
      have hstep := HB.out.2.2.2
      rw [F.drop_step f k hkn, walkF_cons] at hstep
      have HStep := Lib.hid hstep
      clear hstep
      obtain ⟨b, i0, rfl, hSb, hbl, hce⟩ : ∃ b i, ad = some ⟨b, i, none⟩ ∧ S b ∧ b < w.heap.size ∧ ∀ j u, zs[j]? = some u → w.cell? ⟨b, i + j, none⟩ = some u := by
        rcases HCe.out with h0 | h0
        · omega
        · exact h0
      obtain ⟨sv2, hsv2, hrow⟩ := FV.nth k HFV.out hkn
      obtain ⟨ad2, cp2, rfl⟩ := slice_form hsv2
      have hcell : ∀ j u, (rowV (f.nth k).op (f.nth k).st (f.nth k).lo (f.nth k).hi (f.nth k).g (.slice ad2 (f.nth k).args.len cp2))[j]? = some u → wr.cell? ⟨b, i0 + k * 9 + j, none⟩ = some u := fun j u hu => by
        rw [HB.out.1.cell (by exact HS.out b hSb), Nat.add_assoc]
        exact hce _ u (hrow j u hu)
      have c0 := hcell 0 _ rfl
      have c1 := hcell 1 _ rfl
      have c2 := hcell 2 _ rfl
      have c3 := hcell 3 _ rfl
      have c4 := hcell 4 _ rfl
      have c5 := hcell 5 _ rfl
      have c6 := hcell 6 _ rfl
      have c7 := hcell 7 _ rfl
      have c8 := hcell 8 _ rfl
      rw [Nat.add_zero] at c0
      have elv : ((lvl + 1 : Nat) : Int) = (lvl : Int) + 1 := by omega
      have lv0 : (0 : Int) ≤ lvl := by omega
      have lv1 : (lvl : Int) ≤ 65536 := by omega
      have HS2 : Hid (SV wr S (f.nth k).args (.slice ad2 (f.nth k).args.len cp2)) := Lib.hid (hsv2.far ⟨HB.out.1.size, fun b h1 h2 => ⟨h1, HB.out.1.block b (HS.out b h1)⟩⟩)
      have HC := Lib.hid (fun W (hW : SV W S (f.nth k).args (.slice ad2 (f.nth k).args.len cp2)) (hN : SM W B q') => by
        have := HCh.out k hkn (f.nth k).op (f.nth k).lo (f.nth k).hi (f.nth k).g (f.nth k).st _ W S B q' (lvl + 1) hW HS.out hN HB.out.2.2.1 (by have := HL.out; omega) (F.fits_nth k HFt.out hkn).1 (F.fits_nth k HFt.out hkn).2 (F.fits_g k HFt.out hkn).1 (F.fits_g k HFt.out hkn).2
        rw [elv] at this
        exact this)
      clear hcell hce hrow hsv2 hSb elv
      go_wp2_with (first
        | (go_at_call 47; refine (HC.out _ (HS2.out.far (Afar.below ((Below.refl _ _).alloc (Nat.le_refl _) _))) (HB.out.2.1.below ((Below.refl _ _).alloc (Nat.le_refl _) _))).mono ?_; rintro e w1 ⟨rfl, hs, hb⟩; have HB1 := Lib.hid ((HB.out.1.alloc (by have := HB.out.1.size; have := HBL.out; omega) _).trans hb); have HN1 := Lib.hid hs; clear hs hb)
        )
      go_roundw
      case rel => exact ⟨k + 1, _, by omega, by go_num, Lib.hid ⟨HB1.out, HN1.out, walkT_ok _ _ _ HB.out.2.2.1, HStep.out⟩⟩
      case measure => simp [intOf]; omega
    · obtain rfl : k = f.len := by omega
      have hend := HB.out.2.2.2
      rw [F.drop_len] at hend
      have hend : walkF f (lvl + 1) q = q' := hend
      have HEnd := Lib.hid hend
      clear hend
      go_wp2_with fail
      go_end0
      rw [HEnd.out]
      exact ⟨rfl, HB.out.2.1, HB.out.1⟩
theorem walk_node (f : F) (hch : ∀ i, i < f.len → WalkG (f.nth i).args) : WalkG f := by
  intro o l h g st sv w S B q lvl hsv hS h0 hq hl hlen hfit hg1 hg2
  obtain ⟨ad, cap, rfl⟩ := slice_form hsv
  by_cases hs : stopB lvl q = true
  · rw [walkT, if_pos hs]
    exact walk_stop o l h g st ad f.len cap B lvl w q h0 hq hl hs
  have hb := stop_or hq hs
  have HWA : Hid (∀ W q', SM W B q' → Below B w W → q'.Ok → Calls Tryd.prog 58 #[.pointer (some ⟨B, 0, none⟩), .agg #[.int .i64 o, .int .u64 (wd st 0 64 : Nat), .int .u64 (wd st 64 64 : Nat), .int .u64 (wd st 128 64 : Nat), .int .u64 (wd st 192 64 : Nat), .int .i64 l, .int .i64 h, .int .i64 g, .slice ad f.len cap], .int .i64 (lvl : Int)] W fun e w' => e = .returned (.tuple #[]) ∧ SM w' B (walkF f (lvl + 1) q') ∧ Below B W w') := Lib.hid (fun W q' h1 h2 h3 =>
    walkargs_any f hch o l h g st _ W S B q' lvl (hsv.far ⟨h2.size, fun b k1 k2 => ⟨k1, h2.block b (hS b k1)⟩⟩) hS h1 h3 hb.2.1 hlen hfit)
  have HFi := Lib.hid (fun W => flds_any o l h g st f.len ad cap W)
  have HBn := Lib.hid (fun W => bnd_any o l h g st (.slice ad f.len cap) W)
  obtain ⟨sv, hA, hO⟩ := h0
  obtain ⟨n, lv, bk, c, wt, wr, wn, sp⟩ := q
  obtain rfl : sp = false := hb.2.2
  rw [walkT, if_neg hs]
  by_cases o6 : o = 6
  · subst o6
    exact walk_6 f l h g st ad f.len cap B lvl n lv w c sv bk wt wr wn _ _ _ hA hO hb.1 hq.2.1 hb.2.1 hq.2.2 hg1 hg2 HFi HBn rfl HWA
  show Calls _ _ _ _ fun e w' => e = .returned (.tuple #[]) ∧ SM w' B (if o = 6 then _ else walkF f (lvl + 1) _) ∧ Below B w w'
  rw [if_neg o6]
  by_cases o5 : o = 5
  · subst o5
    exact walk_5 f l h g st ad f.len cap B lvl n lv w c sv bk wt wr wn _ _ _ hA hO hb.1 hq.2.1 hb.2.1 hq.2.2 hg1 hg2 HFi HBn rfl HWA
  by_cases o9 : o = 9
  · subst o9
    exact walk_9 f l h g st ad f.len cap B lvl n lv w c sv bk wt wr wn _ _ _ hA hO hb.1 hq.2.1 hb.2.1 hq.2.2 hg1 hg2 HFi HBn rfl HWA
  · have e5 : decide (o = 5) = false := by simp [o5]
    have e9 : decide (o = 9) = false := by simp [o9]
    have := walk_x f o l h g st ad f.len cap B lvl n lv w c sv bk wt wr wn _ _ _ (by simpa using o5) o5 (by simpa using o6) o6 (by simpa using o9) o9 hA hO hb.1 hq.2.1 hb.2.1 hq.2.2 hg1 hg2 HFi HBn rfl HWA
    unfold preQ
    rw [e5, e9]
    exact this
theorem walk_all : ∀ (f : F) (i : Nat), i < f.len → WalkG (f.nth i).args
  | .nil, i, h => by cases h
  | .cons o s l h g a r, 0, hi => walk_node a (walk_all a)
  | .cons o s l h g a r, i + 1, hi => walk_all r i (by have : i + 1 < r.len + 1 := hi; omega)
theorem walk_any (f : F) : WalkG f := walk_node f (walk_all f)
end Go.Proofs.YtbjobbkipmkndaaDoor
