/- RxL. -/
import Derived.Test.YtphiaagppcbefaaGreatDoorPs19
import Derived.StillTailTactics
import Derived.Deep.CutRange
import Derived.Deep.Cut
import Derived.Deep.DeepCutAuto
set_option linter.unusedVariables false
namespace Go.Proofs.YtphiaagppcbefaaGreatDoor
open Go.RowKit
def RetN (N : Nat) (w : World) (B : Nat) (c : CX) (V : LV) (r : TN × PS) (e : Ending) (w' : World) : Prop := ∃ v, e = .returned v ∧ TV w' (Frm N) r.1 v ∧ Stp w B c V r.2 w'
theorem Ret.to {w : World} {B : Nat} {c : CX} {V : LV} {r : TN × PS} {e : Ending} {w' : World} (h : Ret w B c V r e w') : RetN w.heap.size w B c V r e w' := h
theorem SV.one {w : World} {S : Nat → Prop} {t : TN} {sv : Value} (hsv : SV w S t.args sv) {g : Nat} (hg : S g) (hR : RAt w g (rowV t.op t.st t.lo t.hi t.g sv).toArray) : SV w S (F.nil.push t) (.slice (some ⟨g, 0, none⟩) 1 1) := by
  refine ⟨rowV t.op t.st t.lo t.hi t.g sv, some ⟨g, 0, none⟩, 1, rfl, Nat.le_refl _, ?_, .inr ⟨g, 0, rfl, hg, hR.lt, fun j u hu => ?_⟩⟩
  · have := FV.push (f := .nil) (xs := []) hsv (show FV w S .nil [] from rfl)
    simpa using this
  · rw [Nat.zero_add, cell_of_row w g j _ _ _ hR]
    simpa using hu
theorem RAt.one (w : World) (row : Array Value) : RAt (w.alloc (.cells row 35)) w.heap.size row := heap_alloc_new w _
theorem put9_other (w : World) (g k : Nat) (a b c d e f h i j : Value) (hk : g ≠ k) : (put9 w k a b c d e f h i j).heap[g]? = w.heap[g]? := by
  unfold put9
  rw [Below.heap_setCell _ _ _ _ hk, Below.heap_setCell _ _ _ _ hk, Below.heap_setCell _ _ _ _ hk, Below.heap_setCell _ _ _ _ hk, Below.heap_setCell _ _ _ _ hk, Below.heap_setCell _ _ _ _ hk, Below.heap_setCell _ _ _ _ hk, Below.heap_setCell _ _ _ _ hk, Below.heap_setCell _ _ _ _ hk]
theorem accept_yes (w : World) (B : Nat) (c : CX) (V : LV) (p : PS) (h : PM w B c V p) (k : Int) (h1 : k ≠ -1) (h4 : k ≠ -4) (hk : kdT c p = k) :
    Calls Tryz.prog 41 #[.pointer (some ⟨B, 0, none⟩), .int .i32 k] w fun e w' => e = .returned (.bool true) ∧ Stp w B c V (pastT c p) w' := by
  have := accept_any w B c V p h k h1 h4
  unfold accT at this
  simpa only [if_pos hk] using this
theorem accept_no (w : World) (B : Nat) (c : CX) (V : LV) (p : PS) (h : PM w B c V p) (k : Int) (h1 : k ≠ -1) (h4 : k ≠ -4) (hk : kdT c p ≠ k) :
    Calls Tryz.prog 41 #[.pointer (some ⟨B, 0, none⟩), .int .i32 k] w fun e w' => e = .returned (.bool false) ∧ Stp w B c V p w' := by
  have := accept_any w B c V p h k h1 h4
  unfold accT at this
  simpa only [if_neg hk] using this
set_option maxRecDepth 100000 in
set_option maxHeartbeats 4000000 in
theorem sclo_any (lo hi : Int) (X : Nat) (a0 a1 a2 a3 a4 a5 a6 a7 a8 : Value) (w : World) (hX : RAt w X #[a0, a1, a2, a3, a4, a5, a6, a7, a8]) :
    Calls Tryz.prog 102 #[.int .i64 lo, .int .i64 hi, .pointer (some ⟨X, 0, none⟩)] w fun e w' => e = .returned (.agg #[.int .i64 5, .int .u64 0, .int .u64 0, .int .u64 0, .int .u64 0, .int .i64 lo, .int .i64 hi, .int .i64 0, .slice (some ⟨w.heap.size + 1, 0, none⟩) 1 1]) ∧ Below w.heap.size w w' ∧ RAt w' (w.heap.size + 1) #[a0, a1, a2, a3, a4, a5, a6, a7, a8] := by
  have hb0 : Below w.heap.size w (w.alloc (.cells #[.int .i64 0, .int .u64 0, .int .u64 0, .int .u64 0, .int .u64 0, .int .i64 0, .int .i64 0, .int .i64 0, .slice none 0 0] 35)) := (Below.refl _ _).alloc (Nat.le_refl _) _
  have hX1 := hX.below hb0
  obtain ⟨⟨⟨n0, n1, n2⟩, ⟨n3, n4, n5⟩, ⟨n6, n7, n8⟩⟩, nf⟩ := hX1.all
  clear hX hX1 hb0
  go_enter Tryz.func102, Tryz.ntmps102
  go_wp2
  exact bodyPost_ret (v := .agg #[.int .i64 5, .int .u64 0, .int .u64 0, .int .u64 0, .int .u64 0, .int .i64 lo, .int .i64 hi, .int .i64 0, .slice (some ⟨w.heap.size + 1, 0, none⟩) 1 1]) (ret_re Tryz.results102 _ _ w.heap.size _ rfl (by simp) ((RAt.one w _).below ((Below.refl _ _).alloc (Nat.le_refl _) _))) rfl ⟨rfl, ((Below.refl _ _).alloc (Nat.le_refl _) _).alloc (by simp) _, RAt.two w _ _⟩
set_option maxRecDepth 100000 in
set_option maxHeartbeats 8000000 in
theorem suf_0 (w : World) (B : Nat) (c : CX) (V : LV) (p : PS) (h : PM w B c V p) (N : Nat) (hN : N ≤ w.heap.size) (hBN : B < N) (o lo0 hi0 g0 : Int) (st : Nat → Bool) (args : F) (sv : Value) (hsv : SV w (Frm N) args sv) (hk : kdT c p = 42) :
    Calls Tryz.prog 82 #[.pointer (some ⟨B, 0, none⟩), .agg #[.int .i64 o, .int .u64 (wd st 0 64 : Nat), .int .u64 (wd st 64 64 : Nat), .int .u64 (wd st 128 64 : Nat), .int .u64 (wd st 192 64 : Nat), .int .i64 lo0, .int .i64 hi0, .int .i64 g0, sv]] w (RetN N w B c V (repR 0 (-1) ⟨o, st, lo0, hi0, g0, args⟩, pastT c p)) := by
  have hx : Below w.heap.size w ((w.alloc (.cells #[.int .i64 o, .int .u64 (wd st 0 64 : Nat), .int .u64 (wd st 64 64 : Nat), .int .u64 (wd st 128 64 : Nat), .int .u64 (wd st 192 64 : Nat), .int .i64 lo0, .int .i64 hi0, .int .i64 g0, sv] 35)).alloc (.cells #[.int .i64 0, .int .u64 0, .int .u64 0, .int .u64 0, .int .u64 0, .int .i64 0, .int .i64 0, .int .i64 0, .slice none 0 0] 35)) := ((Below.refl _ _).alloc (Nat.le_refl _) _).alloc (by simp) _
  have hs := Stp.of_below h hx
  have hX := (RAt.one w #[.int .i64 o, .int .u64 (wd st 0 64 : Nat), .int .u64 (wd st 64 64 : Nat), .int .u64 (wd st 128 64 : Nat), .int .u64 (wd st 192 64 : Nat), .int .i64 lo0, .int .i64 hi0, .int .i64 g0, sv]).below ((Below.refl _ _).alloc (Nat.le_refl _) (.cells #[.int .i64 0, .int .u64 0, .int .u64 0, .int .u64 0, .int .u64 0, .int .i64 0, .int .i64 0, .int .i64 0, .slice none 0 0] 35))
  have hR := RAt.two w (.cells #[.int .i64 o, .int .u64 (wd st 0 64 : Nat), .int .u64 (wd st 64 64 : Nat), .int .u64 (wd st 128 64 : Nat), .int .u64 (wd st 192 64 : Nat), .int .i64 lo0, .int .i64 hi0, .int .i64 g0, sv] 35) #[.int .i64 0, .int .u64 0, .int .u64 0, .int .u64 0, .int .u64 0, .int .i64 0, .int .i64 0, .int .i64 0, .slice none 0 0]
  have HL := Lib.hid h.lt
  have HV := Lib.hid hsv
  have HN := Lib.hid (And.intro hN hBN)
  have hmf : ∀ (fn : Fn) (first cap : Array Value) (w : World), (Instr.makeFunc fn first cap).run Tryz.prog w = .ok (.func fn first cap) w := fun _ _ _ _ => rfl
  clear h hx hsv hN hBN
  have HA42 := Lib.hid (fun W h => accept_yes W B c V p h 42 (by decide) (by decide) hk)
  clear hk
  go_enter Tryz.func82, Tryz.ntmps82
  go_upto_region 1 with fail
  generalize ((w.alloc (.cells #[.int .i64 o, .int .u64 (wd st 0 64 : Nat), .int .u64 (wd st 64 64 : Nat), .int .u64 (wd st 128 64 : Nat), .int .u64 (wd st 192 64 : Nat), .int .i64 lo0, .int .i64 hi0, .int .i64 g0, sv] 35)).alloc (.cells #[.int .i64 0, .int .u64 0, .int .u64 0, .int .u64 0, .int .u64 0, .int .i64 0, .int .i64 0, .int .i64 0, .slice none 0 0] 35)) = W at *
  have HS := Lib.hid hs
  have HR := Lib.hid hR
  have HX := Lib.hid hX
  have hp := HS.out.1
  obtain ⟨⟨x0, x1, x2, x3, x4, x5, x6, x7⟩, xf⟩ := HS.out.1.pa.all
  clear hs hR hX
  go_wp2_with (first
    | (go_at_call 41; (with_reducible refine (HA42.out _ hp).mono ?_); rintro e wz ⟨rfl, hs⟩; have HX := Lib.hid (HX.out.only hs.2 (by have := HL.out; omega)); have HR := Lib.hid (HR.out.only hs.2 (by have := HL.out; omega)); have HS := Lib.hid (HS.out.trans hs); clear x0 x1 x2 x3 x4 x5 x6 x7 xf; obtain ⟨⟨x0, x1, x2, x3, x4, x5, x6, x7⟩, xf⟩ := HS.out.1.pa.all; clear hs hp; have hp := HS.out.1)
    | (go_at_call 102; refine (sclo_any _ _ _ _ _ _ _ _ _ _ _ _ _ HX.out).mono ?_; rintro e wq ⟨rfl, hb, hg⟩; have HSz := Lib.hid HR.out.lt; have HS := Lib.hid (HS.out.next hb); have HR := Lib.hid (HR.out.below hb); have HG := Lib.hid hg; obtain ⟨⟨⟨n0, n1, n2⟩, ⟨n3, n4, n5⟩, ⟨n6, n7, n8⟩⟩, nf⟩ := HR.out.all; clear hb hg)
    )
  refine bodyPost_ret (v := .agg #[.int .i64 5, .int .u64 0, .int .u64 0, .int .u64 0, .int .u64 0, .int .i64 0, .int .i64 (-1), .int .i64 0, _]) (ret_re Tryz.results82 _ _ (w.heap.size + 1) _ rfl (by simp) (HR.out.put9 _ _ _ _ _ _ _ _ _)) rfl ?_
  refine ⟨_, rfl, ⟨_, rfl, ?_⟩, HS.out.put9 HL.out _ (by omega) _ _ _ _ _ _ _ _ _⟩
  refine SV.one (HV.out.far (Afar.only (HS.out.put9 HL.out (w.heap.size + 1) (by omega) _ _ _ _ _ _ _ _ _).2 HN.out.2 (Nat.le_refl _))) ?_ (HG.out.same (put9_other _ _ _ _ _ _ _ _ _ _ _ _ ?_))
  · show N ≤ _
    have := HN.out.1
    have := HSz.out
    omega
  · have := HSz.out
    omega
set_option maxRecDepth 100000 in
set_option maxHeartbeats 8000000 in
theorem suf_1 (w : World) (B : Nat) (c : CX) (V : LV) (p : PS) (h : PM w B c V p) (N : Nat) (hN : N ≤ w.heap.size) (hBN : B < N) (o lo0 hi0 g0 : Int) (st : Nat → Bool) (args : F) (sv : Value) (hsv : SV w (Frm N) args sv) (k42 : kdT c p ≠ 42) (hk : kdT c p = 43) :
    Calls Tryz.prog 82 #[.pointer (some ⟨B, 0, none⟩), .agg #[.int .i64 o, .int .u64 (wd st 0 64 : Nat), .int .u64 (wd st 64 64 : Nat), .int .u64 (wd st 128 64 : Nat), .int .u64 (wd st 192 64 : Nat), .int .i64 lo0, .int .i64 hi0, .int .i64 g0, sv]] w (RetN N w B c V (repR 1 (-1) ⟨o, st, lo0, hi0, g0, args⟩, pastT c p)) := by
  have hx : Below w.heap.size w ((w.alloc (.cells #[.int .i64 o, .int .u64 (wd st 0 64 : Nat), .int .u64 (wd st 64 64 : Nat), .int .u64 (wd st 128 64 : Nat), .int .u64 (wd st 192 64 : Nat), .int .i64 lo0, .int .i64 hi0, .int .i64 g0, sv] 35)).alloc (.cells #[.int .i64 0, .int .u64 0, .int .u64 0, .int .u64 0, .int .u64 0, .int .i64 0, .int .i64 0, .int .i64 0, .slice none 0 0] 35)) := ((Below.refl _ _).alloc (Nat.le_refl _) _).alloc (by simp) _
  have hs := Stp.of_below h hx
  have hX := (RAt.one w #[.int .i64 o, .int .u64 (wd st 0 64 : Nat), .int .u64 (wd st 64 64 : Nat), .int .u64 (wd st 128 64 : Nat), .int .u64 (wd st 192 64 : Nat), .int .i64 lo0, .int .i64 hi0, .int .i64 g0, sv]).below ((Below.refl _ _).alloc (Nat.le_refl _) (.cells #[.int .i64 0, .int .u64 0, .int .u64 0, .int .u64 0, .int .u64 0, .int .i64 0, .int .i64 0, .int .i64 0, .slice none 0 0] 35))
  have hR := RAt.two w (.cells #[.int .i64 o, .int .u64 (wd st 0 64 : Nat), .int .u64 (wd st 64 64 : Nat), .int .u64 (wd st 128 64 : Nat), .int .u64 (wd st 192 64 : Nat), .int .i64 lo0, .int .i64 hi0, .int .i64 g0, sv] 35) #[.int .i64 0, .int .u64 0, .int .u64 0, .int .u64 0, .int .u64 0, .int .i64 0, .int .i64 0, .int .i64 0, .slice none 0 0]
  have HL := Lib.hid h.lt
  have HV := Lib.hid hsv
  have HN := Lib.hid (And.intro hN hBN)
  have hmf : ∀ (fn : Fn) (first cap : Array Value) (w : World), (Instr.makeFunc fn first cap).run Tryz.prog w = .ok (.func fn first cap) w := fun _ _ _ _ => rfl
  clear h hx hsv hN hBN
  have HA42 := Lib.hid (fun W h => accept_no W B c V p h 42 (by decide) (by decide) k42)
  have HA43 := Lib.hid (fun W h => accept_yes W B c V p h 43 (by decide) (by decide) hk)
  clear k42 hk
  go_enter Tryz.func82, Tryz.ntmps82
  go_upto_region 1 with fail
  generalize ((w.alloc (.cells #[.int .i64 o, .int .u64 (wd st 0 64 : Nat), .int .u64 (wd st 64 64 : Nat), .int .u64 (wd st 128 64 : Nat), .int .u64 (wd st 192 64 : Nat), .int .i64 lo0, .int .i64 hi0, .int .i64 g0, sv] 35)).alloc (.cells #[.int .i64 0, .int .u64 0, .int .u64 0, .int .u64 0, .int .u64 0, .int .i64 0, .int .i64 0, .int .i64 0, .slice none 0 0] 35)) = W at *
  have HS := Lib.hid hs
  have HR := Lib.hid hR
  have HX := Lib.hid hX
  have hp := HS.out.1
  obtain ⟨⟨x0, x1, x2, x3, x4, x5, x6, x7⟩, xf⟩ := HS.out.1.pa.all
  clear hs hR hX
  go_wp2_with (first
    | (go_at_call 41; (with_reducible refine (HA42.out _ hp).mono ?_); rintro e wz ⟨rfl, hs⟩; have HX := Lib.hid (HX.out.only hs.2 (by have := HL.out; omega)); have HR := Lib.hid (HR.out.only hs.2 (by have := HL.out; omega)); have HS := Lib.hid (HS.out.trans hs); clear x0 x1 x2 x3 x4 x5 x6 x7 xf; obtain ⟨⟨x0, x1, x2, x3, x4, x5, x6, x7⟩, xf⟩ := HS.out.1.pa.all; clear hs hp; have hp := HS.out.1)
    | (go_at_call 41; (with_reducible refine (HA43.out _ hp).mono ?_); rintro e wz ⟨rfl, hs⟩; have HX := Lib.hid (HX.out.only hs.2 (by have := HL.out; omega)); have HR := Lib.hid (HR.out.only hs.2 (by have := HL.out; omega)); have HS := Lib.hid (HS.out.trans hs); clear x0 x1 x2 x3 x4 x5 x6 x7 xf; obtain ⟨⟨x0, x1, x2, x3, x4, x5, x6, x7⟩, xf⟩ := HS.out.1.pa.all; clear hs hp; have hp := HS.out.1)
    | (go_at_call 102; refine (sclo_any _ _ _ _ _ _ _ _ _ _ _ _ _ HX.out).mono ?_; rintro e wq ⟨rfl, hb, hg⟩; have HSz := Lib.hid HR.out.lt; have HS := Lib.hid (HS.out.next hb); have HR := Lib.hid (HR.out.below hb); have HG := Lib.hid hg; obtain ⟨⟨⟨n0, n1, n2⟩, ⟨n3, n4, n5⟩, ⟨n6, n7, n8⟩⟩, nf⟩ := HR.out.all; clear hb hg)
    )
  refine bodyPost_ret (v := .agg #[.int .i64 5, .int .u64 0, .int .u64 0, .int .u64 0, .int .u64 0, .int .i64 1, .int .i64 (-1), .int .i64 0, _]) (ret_re Tryz.results82 _ _ (w.heap.size + 1) _ rfl (by simp) (HR.out.put9 _ _ _ _ _ _ _ _ _)) rfl ?_
  refine ⟨_, rfl, ⟨_, rfl, ?_⟩, HS.out.put9 HL.out _ (by omega) _ _ _ _ _ _ _ _ _⟩
  refine SV.one (HV.out.far (Afar.only (HS.out.put9 HL.out (w.heap.size + 1) (by omega) _ _ _ _ _ _ _ _ _).2 HN.out.2 (Nat.le_refl _))) ?_ (HG.out.same (put9_other _ _ _ _ _ _ _ _ _ _ _ _ ?_))
  · show N ≤ _
    have := HN.out.1
    have := HSz.out
    omega
  · have := HSz.out
    omega
set_option maxRecDepth 100000 in
set_option maxHeartbeats 8000000 in
theorem suf_2 (w : World) (B : Nat) (c : CX) (V : LV) (p : PS) (h : PM w B c V p) (N : Nat) (hN : N ≤ w.heap.size) (hBN : B < N) (o lo0 hi0 g0 : Int) (st : Nat → Bool) (args : F) (sv : Value) (hsv : SV w (Frm N) args sv) (k42 : kdT c p ≠ 42) (k43 : kdT c p ≠ 43) (hk : kdT c p = 63) :
    Calls Tryz.prog 82 #[.pointer (some ⟨B, 0, none⟩), .agg #[.int .i64 o, .int .u64 (wd st 0 64 : Nat), .int .u64 (wd st 64 64 : Nat), .int .u64 (wd st 128 64 : Nat), .int .u64 (wd st 192 64 : Nat), .int .i64 lo0, .int .i64 hi0, .int .i64 g0, sv]] w (RetN N w B c V (repR 0 1 ⟨o, st, lo0, hi0, g0, args⟩, pastT c p)) := by
  have hx : Below w.heap.size w ((w.alloc (.cells #[.int .i64 o, .int .u64 (wd st 0 64 : Nat), .int .u64 (wd st 64 64 : Nat), .int .u64 (wd st 128 64 : Nat), .int .u64 (wd st 192 64 : Nat), .int .i64 lo0, .int .i64 hi0, .int .i64 g0, sv] 35)).alloc (.cells #[.int .i64 0, .int .u64 0, .int .u64 0, .int .u64 0, .int .u64 0, .int .i64 0, .int .i64 0, .int .i64 0, .slice none 0 0] 35)) := ((Below.refl _ _).alloc (Nat.le_refl _) _).alloc (by simp) _
  have hs := Stp.of_below h hx
  have hX := (RAt.one w #[.int .i64 o, .int .u64 (wd st 0 64 : Nat), .int .u64 (wd st 64 64 : Nat), .int .u64 (wd st 128 64 : Nat), .int .u64 (wd st 192 64 : Nat), .int .i64 lo0, .int .i64 hi0, .int .i64 g0, sv]).below ((Below.refl _ _).alloc (Nat.le_refl _) (.cells #[.int .i64 0, .int .u64 0, .int .u64 0, .int .u64 0, .int .u64 0, .int .i64 0, .int .i64 0, .int .i64 0, .slice none 0 0] 35))
  have hR := RAt.two w (.cells #[.int .i64 o, .int .u64 (wd st 0 64 : Nat), .int .u64 (wd st 64 64 : Nat), .int .u64 (wd st 128 64 : Nat), .int .u64 (wd st 192 64 : Nat), .int .i64 lo0, .int .i64 hi0, .int .i64 g0, sv] 35) #[.int .i64 0, .int .u64 0, .int .u64 0, .int .u64 0, .int .u64 0, .int .i64 0, .int .i64 0, .int .i64 0, .slice none 0 0]
  have HL := Lib.hid h.lt
  have HV := Lib.hid hsv
  have HN := Lib.hid (And.intro hN hBN)
  have hmf : ∀ (fn : Fn) (first cap : Array Value) (w : World), (Instr.makeFunc fn first cap).run Tryz.prog w = .ok (.func fn first cap) w := fun _ _ _ _ => rfl
  clear h hx hsv hN hBN
  have HA42 := Lib.hid (fun W h => accept_no W B c V p h 42 (by decide) (by decide) k42)
  have HA43 := Lib.hid (fun W h => accept_no W B c V p h 43 (by decide) (by decide) k43)
  have HA63 := Lib.hid (fun W h => accept_yes W B c V p h 63 (by decide) (by decide) hk)
  clear k42 k43 hk
  go_enter Tryz.func82, Tryz.ntmps82
  go_upto_region 1 with fail
  generalize ((w.alloc (.cells #[.int .i64 o, .int .u64 (wd st 0 64 : Nat), .int .u64 (wd st 64 64 : Nat), .int .u64 (wd st 128 64 : Nat), .int .u64 (wd st 192 64 : Nat), .int .i64 lo0, .int .i64 hi0, .int .i64 g0, sv] 35)).alloc (.cells #[.int .i64 0, .int .u64 0, .int .u64 0, .int .u64 0, .int .u64 0, .int .i64 0, .int .i64 0, .int .i64 0, .slice none 0 0] 35)) = W at *
  have HS := Lib.hid hs
  have HR := Lib.hid hR
  have HX := Lib.hid hX
  have hp := HS.out.1
  obtain ⟨⟨x0, x1, x2, x3, x4, x5, x6, x7⟩, xf⟩ := HS.out.1.pa.all
  clear hs hR hX
  go_wp2_with (first
    | (go_at_call 41; (with_reducible refine (HA42.out _ hp).mono ?_); rintro e wz ⟨rfl, hs⟩; have HX := Lib.hid (HX.out.only hs.2 (by have := HL.out; omega)); have HR := Lib.hid (HR.out.only hs.2 (by have := HL.out; omega)); have HS := Lib.hid (HS.out.trans hs); clear x0 x1 x2 x3 x4 x5 x6 x7 xf; obtain ⟨⟨x0, x1, x2, x3, x4, x5, x6, x7⟩, xf⟩ := HS.out.1.pa.all; clear hs hp; have hp := HS.out.1)
    | (go_at_call 41; (with_reducible refine (HA43.out _ hp).mono ?_); rintro e wz ⟨rfl, hs⟩; have HX := Lib.hid (HX.out.only hs.2 (by have := HL.out; omega)); have HR := Lib.hid (HR.out.only hs.2 (by have := HL.out; omega)); have HS := Lib.hid (HS.out.trans hs); clear x0 x1 x2 x3 x4 x5 x6 x7 xf; obtain ⟨⟨x0, x1, x2, x3, x4, x5, x6, x7⟩, xf⟩ := HS.out.1.pa.all; clear hs hp; have hp := HS.out.1)
    | (go_at_call 41; (with_reducible refine (HA63.out _ hp).mono ?_); rintro e wz ⟨rfl, hs⟩; have HX := Lib.hid (HX.out.only hs.2 (by have := HL.out; omega)); have HR := Lib.hid (HR.out.only hs.2 (by have := HL.out; omega)); have HS := Lib.hid (HS.out.trans hs); clear x0 x1 x2 x3 x4 x5 x6 x7 xf; obtain ⟨⟨x0, x1, x2, x3, x4, x5, x6, x7⟩, xf⟩ := HS.out.1.pa.all; clear hs hp; have hp := HS.out.1)
    | (go_at_call 102; refine (sclo_any _ _ _ _ _ _ _ _ _ _ _ _ _ HX.out).mono ?_; rintro e wq ⟨rfl, hb, hg⟩; have HSz := Lib.hid HR.out.lt; have HS := Lib.hid (HS.out.next hb); have HR := Lib.hid (HR.out.below hb); have HG := Lib.hid hg; obtain ⟨⟨⟨n0, n1, n2⟩, ⟨n3, n4, n5⟩, ⟨n6, n7, n8⟩⟩, nf⟩ := HR.out.all; clear hb hg)
    )
  refine bodyPost_ret (v := .agg #[.int .i64 5, .int .u64 0, .int .u64 0, .int .u64 0, .int .u64 0, .int .i64 0, .int .i64 1, .int .i64 0, _]) (ret_re Tryz.results82 _ _ (w.heap.size + 1) _ rfl (by simp) (HR.out.put9 _ _ _ _ _ _ _ _ _)) rfl ?_
  refine ⟨_, rfl, ⟨_, rfl, ?_⟩, HS.out.put9 HL.out _ (by omega) _ _ _ _ _ _ _ _ _⟩
  refine SV.one (HV.out.far (Afar.only (HS.out.put9 HL.out (w.heap.size + 1) (by omega) _ _ _ _ _ _ _ _ _).2 HN.out.2 (Nat.le_refl _))) ?_ (HG.out.same (put9_other _ _ _ _ _ _ _ _ _ _ _ _ ?_))
  · show N ≤ _
    have := HN.out.1
    have := HSz.out
    omega
  · have := HSz.out
    omega
set_option maxRecDepth 100000 in
set_option maxHeartbeats 8000000 in
theorem suf_3 (w : World) (B : Nat) (c : CX) (V : LV) (p : PS) (h : PM w B c V p) (N : Nat) (hN : N ≤ w.heap.size) (hBN : B < N) (o lo0 hi0 g0 : Int) (st : Nat → Bool) (args : F) (sv : Value) (hsv : SV w (Frm N) args sv) (k42 : kdT c p ≠ 42) (k43 : kdT c p ≠ 43) (k63 : kdT c p ≠ 63) (hk : kdT c p = 123) :
    Calls Tryz.prog 82 #[.pointer (some ⟨B, 0, none⟩), .agg #[.int .i64 o, .int .u64 (wd st 0 64 : Nat), .int .u64 (wd st 64 64 : Nat), .int .u64 (wd st 128 64 : Nat), .int .u64 (wd st 192 64 : Nat), .int .i64 lo0, .int .i64 hi0, .int .i64 g0, sv]] w (RetN N w B c V (repR (bndT c (pastT c p)).1.1 (bndT c (pastT c p)).1.2 ⟨o, st, lo0, hi0, g0, args⟩, (bndT c (pastT c p)).2)) := by
  have hx : Below w.heap.size w ((w.alloc (.cells #[.int .i64 o, .int .u64 (wd st 0 64 : Nat), .int .u64 (wd st 64 64 : Nat), .int .u64 (wd st 128 64 : Nat), .int .u64 (wd st 192 64 : Nat), .int .i64 lo0, .int .i64 hi0, .int .i64 g0, sv] 35)).alloc (.cells #[.int .i64 0, .int .u64 0, .int .u64 0, .int .u64 0, .int .u64 0, .int .i64 0, .int .i64 0, .int .i64 0, .slice none 0 0] 35)) := ((Below.refl _ _).alloc (Nat.le_refl _) _).alloc (by simp) _
  have hs := Stp.of_below h hx
  have hX := (RAt.one w #[.int .i64 o, .int .u64 (wd st 0 64 : Nat), .int .u64 (wd st 64 64 : Nat), .int .u64 (wd st 128 64 : Nat), .int .u64 (wd st 192 64 : Nat), .int .i64 lo0, .int .i64 hi0, .int .i64 g0, sv]).below ((Below.refl _ _).alloc (Nat.le_refl _) (.cells #[.int .i64 0, .int .u64 0, .int .u64 0, .int .u64 0, .int .u64 0, .int .i64 0, .int .i64 0, .int .i64 0, .slice none 0 0] 35))
  have hR := RAt.two w (.cells #[.int .i64 o, .int .u64 (wd st 0 64 : Nat), .int .u64 (wd st 64 64 : Nat), .int .u64 (wd st 128 64 : Nat), .int .u64 (wd st 192 64 : Nat), .int .i64 lo0, .int .i64 hi0, .int .i64 g0, sv] 35) #[.int .i64 0, .int .u64 0, .int .u64 0, .int .u64 0, .int .u64 0, .int .i64 0, .int .i64 0, .int .i64 0, .slice none 0 0]
  have HL := Lib.hid h.lt
  have HV := Lib.hid hsv
  have HN := Lib.hid (And.intro hN hBN)
  have hmf : ∀ (fn : Fn) (first cap : Array Value) (w : World), (Instr.makeFunc fn first cap).run Tryz.prog w = .ok (.func fn first cap) w := fun _ _ _ _ => rfl
  clear h hx hsv hN hBN
  have HA42 := Lib.hid (fun W h => accept_no W B c V p h 42 (by decide) (by decide) k42)
  have HA43 := Lib.hid (fun W h => accept_no W B c V p h 43 (by decide) (by decide) k43)
  have HA63 := Lib.hid (fun W h => accept_no W B c V p h 63 (by decide) (by decide) k63)
  have HA123 := Lib.hid (fun W h => accept_yes W B c V p h 123 (by decide) (by decide) hk)
  clear k42 k43 k63 hk
  go_enter Tryz.func82, Tryz.ntmps82
  go_upto_region 1 with fail
  generalize ((w.alloc (.cells #[.int .i64 o, .int .u64 (wd st 0 64 : Nat), .int .u64 (wd st 64 64 : Nat), .int .u64 (wd st 128 64 : Nat), .int .u64 (wd st 192 64 : Nat), .int .i64 lo0, .int .i64 hi0, .int .i64 g0, sv] 35)).alloc (.cells #[.int .i64 0, .int .u64 0, .int .u64 0, .int .u64 0, .int .u64 0, .int .i64 0, .int .i64 0, .int .i64 0, .slice none 0 0] 35)) = W at *
  have HS := Lib.hid hs
  have HR := Lib.hid hR
  have HX := Lib.hid hX
  have hp := HS.out.1
  obtain ⟨⟨x0, x1, x2, x3, x4, x5, x6, x7⟩, xf⟩ := HS.out.1.pa.all
  clear hs hR hX
  go_wp2_with (first
    | (go_at_call 41; (with_reducible refine (HA42.out _ hp).mono ?_); rintro e wz ⟨rfl, hs⟩; have HX := Lib.hid (HX.out.only hs.2 (by have := HL.out; omega)); have HR := Lib.hid (HR.out.only hs.2 (by have := HL.out; omega)); have HS := Lib.hid (HS.out.trans hs); clear x0 x1 x2 x3 x4 x5 x6 x7 xf; obtain ⟨⟨x0, x1, x2, x3, x4, x5, x6, x7⟩, xf⟩ := HS.out.1.pa.all; clear hs hp; have hp := HS.out.1)
    | (go_at_call 41; (with_reducible refine (HA43.out _ hp).mono ?_); rintro e wz ⟨rfl, hs⟩; have HX := Lib.hid (HX.out.only hs.2 (by have := HL.out; omega)); have HR := Lib.hid (HR.out.only hs.2 (by have := HL.out; omega)); have HS := Lib.hid (HS.out.trans hs); clear x0 x1 x2 x3 x4 x5 x6 x7 xf; obtain ⟨⟨x0, x1, x2, x3, x4, x5, x6, x7⟩, xf⟩ := HS.out.1.pa.all; clear hs hp; have hp := HS.out.1)
    | (go_at_call 41; (with_reducible refine (HA63.out _ hp).mono ?_); rintro e wz ⟨rfl, hs⟩; have HX := Lib.hid (HX.out.only hs.2 (by have := HL.out; omega)); have HR := Lib.hid (HR.out.only hs.2 (by have := HL.out; omega)); have HS := Lib.hid (HS.out.trans hs); clear x0 x1 x2 x3 x4 x5 x6 x7 xf; obtain ⟨⟨x0, x1, x2, x3, x4, x5, x6, x7⟩, xf⟩ := HS.out.1.pa.all; clear hs hp; have hp := HS.out.1)
    | (go_at_call 41; (with_reducible refine (HA123.out _ hp).mono ?_); rintro e wz ⟨rfl, hs⟩; have HX := Lib.hid (HX.out.only hs.2 (by have := HL.out; omega)); have HR := Lib.hid (HR.out.only hs.2 (by have := HL.out; omega)); have HS := Lib.hid (HS.out.trans hs); clear x0 x1 x2 x3 x4 x5 x6 x7 xf; obtain ⟨⟨x0, x1, x2, x3, x4, x5, x6, x7⟩, xf⟩ := HS.out.1.pa.all; clear hs hp; have hp := HS.out.1)
    | (go_at_call 103; refine (bounds_any _ B c V _ HS.out.1).mono ?_; rintro e wz ⟨rfl, hs⟩; have HX := Lib.hid (HX.out.only hs.2 (by have := HL.out; omega)); have HR := Lib.hid (HR.out.only hs.2 (by have := HL.out; omega)); have HS := Lib.hid (HS.out.trans hs); clear x0 x1 x2 x3 x4 x5 x6 x7 xf; obtain ⟨⟨x0, x1, x2, x3, x4, x5, x6, x7⟩, xf⟩ := HS.out.1.pa.all; clear hs hp; have hp := HS.out.1)
    | (go_at_call 102; refine (sclo_any _ _ _ _ _ _ _ _ _ _ _ _ _ HX.out).mono ?_; rintro e wq ⟨rfl, hb, hg⟩; have HSz := Lib.hid HR.out.lt; have HS := Lib.hid (HS.out.next hb); have HR := Lib.hid (HR.out.below hb); have HG := Lib.hid hg; obtain ⟨⟨⟨n0, n1, n2⟩, ⟨n3, n4, n5⟩, ⟨n6, n7, n8⟩⟩, nf⟩ := HR.out.all; clear hb hg)
    )
  refine bodyPost_ret (v := .agg #[.int .i64 5, .int .u64 0, .int .u64 0, .int .u64 0, .int .u64 0, .int .i64 (bndT c (pastT c p)).1.1, .int .i64 (bndT c (pastT c p)).1.2, .int .i64 0, _]) (ret_re Tryz.results82 _ _ (w.heap.size + 1) _ rfl (by simp) (HR.out.put9 _ _ _ _ _ _ _ _ _)) rfl ?_
  refine ⟨_, rfl, ⟨_, rfl, ?_⟩, HS.out.put9 HL.out _ (by omega) _ _ _ _ _ _ _ _ _⟩
  refine SV.one (HV.out.far (Afar.only (HS.out.put9 HL.out (w.heap.size + 1) (by omega) _ _ _ _ _ _ _ _ _).2 HN.out.2 (Nat.le_refl _))) ?_ (HG.out.same (put9_other _ _ _ _ _ _ _ _ _ _ _ _ ?_))
  · show N ≤ _
    have := HN.out.1
    have := HSz.out
    omega
  · have := HSz.out
    omega
set_option maxRecDepth 100000 in
set_option maxHeartbeats 8000000 in
theorem suf_4 (w : World) (B : Nat) (c : CX) (V : LV) (p : PS) (h : PM w B c V p) (N : Nat) (hN : N ≤ w.heap.size) (hBN : B < N) (o lo0 hi0 g0 : Int) (st : Nat → Bool) (args : F) (sv : Value) (hsv : SV w (Frm N) args sv) (k42 : kdT c p ≠ 42) (k43 : kdT c p ≠ 43) (k63 : kdT c p ≠ 63) (k123 : kdT c p ≠ 123) :
    Calls Tryz.prog 82 #[.pointer (some ⟨B, 0, none⟩), .agg #[.int .i64 o, .int .u64 (wd st 0 64 : Nat), .int .u64 (wd st 64 64 : Nat), .int .u64 (wd st 128 64 : Nat), .int .u64 (wd st 192 64 : Nat), .int .i64 lo0, .int .i64 hi0, .int .i64 g0, sv]] w (RetN N w B c V (⟨o, st, lo0, hi0, g0, args⟩, p)) := by
  have hsv0 := hsv
  obtain ⟨_, ad, cap, rfl, _⟩ := hsv0
  have hx : Below w.heap.size w ((w.alloc (.cells #[.int .i64 o, .int .u64 (wd st 0 64 : Nat), .int .u64 (wd st 64 64 : Nat), .int .u64 (wd st 128 64 : Nat), .int .u64 (wd st 192 64 : Nat), .int .i64 lo0, .int .i64 hi0, .int .i64 g0, .slice ad args.len cap] 35)).alloc (.cells #[.int .i64 0, .int .u64 0, .int .u64 0, .int .u64 0, .int .u64 0, .int .i64 0, .int .i64 0, .int .i64 0, .slice none 0 0] 35)) := ((Below.refl _ _).alloc (Nat.le_refl _) _).alloc (by simp) _
  have hs := Stp.of_below h hx
  have hX := (RAt.one w #[.int .i64 o, .int .u64 (wd st 0 64 : Nat), .int .u64 (wd st 64 64 : Nat), .int .u64 (wd st 128 64 : Nat), .int .u64 (wd st 192 64 : Nat), .int .i64 lo0, .int .i64 hi0, .int .i64 g0, .slice ad args.len cap]).below ((Below.refl _ _).alloc (Nat.le_refl _) (.cells #[.int .i64 0, .int .u64 0, .int .u64 0, .int .u64 0, .int .u64 0, .int .i64 0, .int .i64 0, .int .i64 0, .slice none 0 0] 35))
  have hR := RAt.two w (.cells #[.int .i64 o, .int .u64 (wd st 0 64 : Nat), .int .u64 (wd st 64 64 : Nat), .int .u64 (wd st 128 64 : Nat), .int .u64 (wd st 192 64 : Nat), .int .i64 lo0, .int .i64 hi0, .int .i64 g0, .slice ad args.len cap] 35) #[.int .i64 0, .int .u64 0, .int .u64 0, .int .u64 0, .int .u64 0, .int .i64 0, .int .i64 0, .int .i64 0, .slice none 0 0]
  have HL := Lib.hid h.lt
  have HV := Lib.hid hsv
  have HN := Lib.hid (And.intro hN hBN)
  have hmf : ∀ (fn : Fn) (first cap : Array Value) (w : World), (Instr.makeFunc fn first cap).run Tryz.prog w = .ok (.func fn first cap) w := fun _ _ _ _ => rfl
  clear h hx hsv hN hBN
  have HA42 := Lib.hid (fun W h => accept_no W B c V p h 42 (by decide) (by decide) k42)
  have HA43 := Lib.hid (fun W h => accept_no W B c V p h 43 (by decide) (by decide) k43)
  have HA63 := Lib.hid (fun W h => accept_no W B c V p h 63 (by decide) (by decide) k63)
  have HA123 := Lib.hid (fun W h => accept_no W B c V p h 123 (by decide) (by decide) k123)
  clear k42 k43 k63 k123
  go_enter Tryz.func82, Tryz.ntmps82
  go_upto_region 1 with fail
  generalize ((w.alloc (.cells #[.int .i64 o, .int .u64 (wd st 0 64 : Nat), .int .u64 (wd st 64 64 : Nat), .int .u64 (wd st 128 64 : Nat), .int .u64 (wd st 192 64 : Nat), .int .i64 lo0, .int .i64 hi0, .int .i64 g0, .slice ad args.len cap] 35)).alloc (.cells #[.int .i64 0, .int .u64 0, .int .u64 0, .int .u64 0, .int .u64 0, .int .i64 0, .int .i64 0, .int .i64 0, .slice none 0 0] 35)) = W at *
  have HS := Lib.hid hs
  have HR := Lib.hid hR
  have HX := Lib.hid hX
  have hp := HS.out.1
  obtain ⟨⟨x0, x1, x2, x3, x4, x5, x6, x7⟩, xf⟩ := HS.out.1.pa.all
  clear hs hR hX
  go_wp2_with (first
    | (go_at_call 41; (with_reducible refine (HA42.out _ hp).mono ?_); rintro e wz ⟨rfl, hs⟩; have HX := Lib.hid (HX.out.only hs.2 (by have := HL.out; omega)); have HR := Lib.hid (HR.out.only hs.2 (by have := HL.out; omega)); have HS := Lib.hid (HS.out.trans hs); clear x0 x1 x2 x3 x4 x5 x6 x7 xf; obtain ⟨⟨x0, x1, x2, x3, x4, x5, x6, x7⟩, xf⟩ := HS.out.1.pa.all; obtain ⟨⟨⟨n0, n1, n2⟩, ⟨n3, n4, n5⟩, ⟨n6, n7, n8⟩⟩, nf⟩ := HR.out.all; obtain ⟨⟨⟨m0, m1, m2⟩, ⟨m3, m4, m5⟩, ⟨m6, m7, m8⟩⟩, mf⟩ := HX.out.all; clear hs hp; have hp := HS.out.1)
    | (go_at_call 41; (with_reducible refine (HA43.out _ hp).mono ?_); rintro e wz ⟨rfl, hs⟩; have HX := Lib.hid (HX.out.only hs.2 (by have := HL.out; omega)); have HR := Lib.hid (HR.out.only hs.2 (by have := HL.out; omega)); have HS := Lib.hid (HS.out.trans hs); clear x0 x1 x2 x3 x4 x5 x6 x7 xf; obtain ⟨⟨x0, x1, x2, x3, x4, x5, x6, x7⟩, xf⟩ := HS.out.1.pa.all; obtain ⟨⟨⟨n0, n1, n2⟩, ⟨n3, n4, n5⟩, ⟨n6, n7, n8⟩⟩, nf⟩ := HR.out.all; obtain ⟨⟨⟨m0, m1, m2⟩, ⟨m3, m4, m5⟩, ⟨m6, m7, m8⟩⟩, mf⟩ := HX.out.all; clear hs hp; have hp := HS.out.1)
    | (go_at_call 41; (with_reducible refine (HA63.out _ hp).mono ?_); rintro e wz ⟨rfl, hs⟩; have HX := Lib.hid (HX.out.only hs.2 (by have := HL.out; omega)); have HR := Lib.hid (HR.out.only hs.2 (by have := HL.out; omega)); have HS := Lib.hid (HS.out.trans hs); clear x0 x1 x2 x3 x4 x5 x6 x7 xf; obtain ⟨⟨x0, x1, x2, x3, x4, x5, x6, x7⟩, xf⟩ := HS.out.1.pa.all; obtain ⟨⟨⟨n0, n1, n2⟩, ⟨n3, n4, n5⟩, ⟨n6, n7, n8⟩⟩, nf⟩ := HR.out.all; obtain ⟨⟨⟨m0, m1, m2⟩, ⟨m3, m4, m5⟩, ⟨m6, m7, m8⟩⟩, mf⟩ := HX.out.all; clear hs hp; have hp := HS.out.1)
    | (go_at_call 41; (with_reducible refine (HA123.out _ hp).mono ?_); rintro e wz ⟨rfl, hs⟩; have HX := Lib.hid (HX.out.only hs.2 (by have := HL.out; omega)); have HR := Lib.hid (HR.out.only hs.2 (by have := HL.out; omega)); have HS := Lib.hid (HS.out.trans hs); clear x0 x1 x2 x3 x4 x5 x6 x7 xf; obtain ⟨⟨x0, x1, x2, x3, x4, x5, x6, x7⟩, xf⟩ := HS.out.1.pa.all; obtain ⟨⟨⟨n0, n1, n2⟩, ⟨n3, n4, n5⟩, ⟨n6, n7, n8⟩⟩, nf⟩ := HR.out.all; obtain ⟨⟨⟨m0, m1, m2⟩, ⟨m3, m4, m5⟩, ⟨m6, m7, m8⟩⟩, mf⟩ := HX.out.all; clear hs hp; have hp := HS.out.1)
    )
  refine bodyPost_ret (v := .agg #[.int .i64 o, .int .u64 (wd st 0 64 : Nat), .int .u64 (wd st 64 64 : Nat), .int .u64 (wd st 128 64 : Nat), .int .u64 (wd st 192 64 : Nat), .int .i64 lo0, .int .i64 hi0, .int .i64 g0, .slice ad args.len cap]) (ret_re Tryz.results82 _ _ (w.heap.size + 1) _ rfl (by simp) (HR.out.put9 _ _ _ _ _ _ _ _ _)) rfl ?_
  refine ⟨_, rfl, ⟨_, rfl, ?_⟩, HS.out.put9 HL.out _ (by omega) _ _ _ _ _ _ _ _ _⟩
  exact HV.out.far (Afar.only (HS.out.put9 HL.out (w.heap.size + 1) (by omega) _ _ _ _ _ _ _ _ _).2 HN.out.2 (Nat.le_refl _))
theorem suffixed_any (w : World) (B : Nat) (c : CX) (V : LV) (p : PS) (h : PM w B c V p) (N : Nat) (hN : N ≤ w.heap.size) (hBN : B < N) (t : TN) (v : Value) (hT : TV w (Frm N) t v) :
    Calls Tryz.prog 82 #[.pointer (some ⟨B, 0, none⟩), v] w (RetN N w B c V (sufT c t p)) := by
  obtain ⟨sv, rfl, hsv⟩ := hT
  obtain ⟨o, st, lo0, hi0, g0, args⟩ := t
  unfold sufT
  by_cases k0 : kdT c p = 42
  · rw [if_pos k0]; exact suf_0 w B c V p h N hN hBN o lo0 hi0 g0 st args sv hsv k0
  rw [if_neg k0]
  by_cases k1 : kdT c p = 43
  · rw [if_pos k1]; exact suf_1 w B c V p h N hN hBN o lo0 hi0 g0 st args sv hsv k0 k1
  rw [if_neg k1]
  by_cases k2 : kdT c p = 63
  · rw [if_pos k2]; exact suf_2 w B c V p h N hN hBN o lo0 hi0 g0 st args sv hsv k0 k1 k2
  rw [if_neg k2]
  by_cases k3 : kdT c p = 123
  · rw [if_pos k3]; exact suf_3 w B c V p h N hN hBN o lo0 hi0 g0 st args sv hsv k0 k1 k2 k3
  · rw [if_neg k3]; exact suf_4 w B c V p h N hN hBN o lo0 hi0 g0 st args sv hsv k0 k1 k2 k3
end Go.Proofs.YtphiaagppcbefaaGreatDoor
