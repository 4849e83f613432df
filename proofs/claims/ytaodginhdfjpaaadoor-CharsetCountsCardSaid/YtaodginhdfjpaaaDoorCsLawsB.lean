/- The law on the bytes of a set, their list and their number. -/
import Derived.Test.YtaodginhdfjpaaaDoorRows
import Derived.Test.YtaodginhdfjpaaaDoorCsLaws
import Derived.Deep.RegionHeld3
set_option linter.unusedVariables false
namespace Go.Proofs.YtaodginhdfjpaaaDoor
open Go.RowKit

/-- What a law that has boxed one set holds of the world. -/
abbrev L1 (w0 : World) (p : Nat → Bool) (w : World) : Prop := Wds w w0.heap.size p ∧ tabAt w ∧ Below w0.heap.size w0 w
theorem L1.start (w0 : World) (p : Nat → Bool) (h : tabAt w0) : L1 w0 p (w0.alloc (.cells (cl p) 26)).drew :=
  have hb : Below w0.heap.size w0 (w0.alloc (.cells (cl p) 26)).drew := ((Below.refl _ _).alloc (Nat.le_refl _) _).drew
  ⟨Wds.of (At.new w0 p).drew, tab_keep h hb, hb⟩
theorem L1.keep {w0 w w' : World} {p : Nat → Bool} (hb : Below w.heap.size w w') (h : L1 w0 p w) : L1 w0 p w' :=
  ⟨h.1.keep hb, tab_keep h.2.1 hb, h.2.2.trans (hb.mono h.2.2.size)⟩
theorem L1.tab {w0 w : World} {p : Nat → Bool} (h : L1 w0 p w) : tabAt w := h.2.1

set_option maxHeartbeats 8000000 in
theorem charsetHas_law (p : Nat → Bool) (c : Nat) (hc : c < 256) (w : World) (hT : tabAt w) :
    Calls Tryd.prog 4 #[cs p, .int .u8 c] w fun e w' => e = .returned (.bool true) ∧ Below w.heap.size w w' := by
  have HS := Lib.hid (L1.start w p hT)
  clear hT
  have HA := Lib.hid awake_any
  have H1 := Lib.hid (has_any p c hc)
  have H2 := Lib.hid (rhas_any p c hc)
  have H3 := Lib.hid (list_any p)
  have H4 := Lib.hid (rlist_any p)
  have H5 := Lib.hid (count_any p)
  have H6 := Lib.hid (rcount_any p)
  obtain ⟨B, hB⟩ : ∃ B, B = p c := ⟨_, rfl⟩
  obtain ⟨L, hL⟩ : ∃ L : ByteArray, L = ⟨(bl (el p 256)).toArray⟩ := ⟨_, rfl⟩
  obtain ⟨N, hN⟩ : ∃ N, N = (el p 256).length := ⟨_, rfl⟩
  rw [← hB] at H1 H2
  rw [← hL] at H3 H4
  rw [← hN] at H5 H6
  clear hB hL hN
  unfold cs cl at *
  go_enter Tryd.func4, Tryd.ntmps4
  go_wp2
  generalize hW : w.alloc (.cells _ 26) = W
  rw [hW] at HS
  clear hW
  go_region_held3 (fun w' => L1 w p w')
    (first | exact HS.out | exact L1.keep hb ‹_›)
    (first
      | (go_at_call 13; refine (H1.out _).mono ?_; rintro e w1 ⟨rfl, hb⟩)
      | (go_at_call 14; refine (H2.out _).mono ?_; rintro e w1 ⟨rfl, hb⟩)
      | (go_at_call 15; refine (H3.out _ (by exact L1.tab (w0 := w) (p := p) (by assumption))).mono ?_; rintro e w1 ⟨rfl, hb⟩)
      | (go_at_call 16; refine (H4.out _).mono ?_; rintro e w1 ⟨rfl, hb⟩)
      | (go_at_call 17; refine (H5.out _).mono ?_; rintro e w1 ⟨rfl, hb⟩)
      | (go_at_call 18; refine (H6.out _).mono ?_; rintro e w1 ⟨rfl, hb⟩)
      | (go_at_call 8; refine (HA.out _ (by exact L1.tab (w0 := w) (p := p) (by assumption))).mono ?_; rintro e w1 ⟨rfl, hb⟩))
  rename_i hS
  have HZ := Lib.hid hS.2.2
  clear hS
  go_wp2
  go_ret
  exact ⟨rfl, HZ.out⟩
end Go.Proofs.YtaodginhdfjpaaaDoor
