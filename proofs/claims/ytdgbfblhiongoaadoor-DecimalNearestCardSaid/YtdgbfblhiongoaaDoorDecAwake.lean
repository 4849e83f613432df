/- Layer 2: the examples that each law checks. -/
import Derived.Test.YtdgbfblhiongoaaDoorDecPrefix
import Derived.Test.YtdgbfblhiongoaaDoorDecFormat
namespace Go.Proofs.YtdgbfblhiongoaaDoor
open Go.RowKit

theorem aw_div (w : World) : Calls Tryd.prog 17 #[.int .i64 10000, .int .i64 30000] w fun e w' => e = .returned (.tuple #[.int .i64 3333, .int .i64 0]) ∧ w = w' := ddiv_any 10000 30000 w
theorem aw_mul (w : World) : Calls Tryd.prog 15 #[.int .i64 100, .int .i64 100] w fun e w' => e = .returned (.tuple #[.int .i64 1, .int .i64 0]) ∧ w = w' := dmul_any 100 100 w
theorem aw_parse (w : World) (h : unitsAt w) : Calls Tryd.prog 32 #[.string ⟨#[45, 49, 46, 50, 53]⟩] w fun e w' => e = .returned (.tuple #[.int .i64 (-12500), .int .i64 0]) ∧ Below w.heap.size w w' := dparse_any ⟨#[45, 49, 46, 50, 53]⟩ w (by decide) h
theorem aw_prefix (w : World) (h : unitsAt w) : Calls Tryd.prog 34 #[.string ⟨#[32, 43, 51, 46, 53, 48, 120]⟩] w fun e w' => e = .returned (.tuple #[.int .i64 35000, .int .i64 6]) ∧ Below w.heap.size w w' := dprefix_any ⟨#[32, 43, 51, 46, 53, 48, 120]⟩ w (by decide) h
theorem aw_pow (w : World) : Calls Tryd.prog 24 #[.int .i64 20000, .int .i64 (-2)] w fun e w' => e = .returned (.tuple #[.int .i64 2500, .int .i64 0]) ∧ w = w' := dpow_any 20000 (-2) w
theorem aw_round (w : World) (h : unitsAt w) : Calls Tryd.prog 30 #[.int .i64 (-25000), .int .i64 0] w fun e w' => e = .returned (.int .i64 (-30000)) ∧ w = w' := round_any (-25000) 0 w h
theorem aw_fmt_text : mk (decT (nearV (-12500))) = ⟨#[45, 49, 46, 50, 53]⟩ := by
  have h : decT (-12500) = [45, 49, 46, 50, 53] := by
    have e : dec 1 = [49] := by rw [dec_small 1 (by decide)]; rfl
    show [45] ++ (dec 1 ++ [46, 50, 53]) = _
    rw [e]; rfl
  show mk (decT (-12500)) = _
  rw [h]; rfl
theorem aw_fmt (w : World) (h : unitsAt w) : Calls Tryd.prog 36 #[.int .i64 (-12500)] w fun e w' => e = .returned (.string ⟨#[45, 49, 46, 50, 53]⟩) ∧ Below w.heap.size w w' := by
  have := dfmt_any (-12500) w h
  rw [aw_fmt_text] at this; exact this

set_option maxHeartbeats 400000 in
theorem awake_any (w : World) (h : unitsAt w) : Calls Tryd.prog 23 #[] w fun e w' => e = .returned (.bool true) ∧ Below w.heap.size w w' := by
  have HU := Lib.hid h
  clear h
  go_enter Tryd.func23, Tryd.ntmps23
  go_wp2_with (first | (go_at_call 17; refine (aw_div _).mono ?_; rintro e w' ⟨rfl, rfl⟩) | (go_at_call 15; refine (aw_mul _).mono ?_; rintro e w' ⟨rfl, rfl⟩) | (go_at_call 32; refine (aw_parse _ HU.out).mono ?_; rintro e w1 ⟨rfl, hb1⟩) | (go_at_call 34; refine (aw_prefix _ (HU.out.below hb1)).mono ?_; rintro e w2 ⟨rfl, hb2⟩) | (go_at_call 24; refine (aw_pow _).mono ?_; rintro e w' ⟨rfl, rfl⟩) | (go_at_call 30; refine (aw_round _ ((HU.out.below hb1).below hb2)).mono ?_; rintro e w' ⟨rfl, rfl⟩) | (go_at_call 36; refine (aw_fmt _ ((HU.out.below hb1).below hb2)).mono ?_; rintro e w3 ⟨rfl, hb3⟩))
  go_ret
  exact ⟨rfl, (hb1.trans (hb2.mono hb1.size)).trans (hb3.mono (Nat.le_trans hb1.size hb2.size))⟩

end Go.Proofs.YtdgbfblhiongoaaDoor
