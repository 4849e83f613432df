/- The examples that each law of layer 3 asks for. -/
import Derived.Test.YtgcpagnnkmpeoaaDoorTxUn
import Derived.Test.YtgcpagnnkmpeoaaDoorTxPos
import Derived.Test.YtgcpagnnkmpeoaaDoorTxLines
set_option linter.unusedVariables false
namespace Go.Proofs.YtgcpagnnkmpeoaaDoor
open Go.RowKit

def ex3 : List (List UInt8) := [[97], [], [98]]
theorem aw_lines (w : World) : Calls Tryd.prog 11 #[.string ⟨#[97, 10, 10, 98]⟩] w fun e w' => ∃ b o c, e = .returned (.tuple #[.slice (some ⟨b, o, none⟩) 3 c, .bool false]) ∧ w'.cell? ⟨b, o, none⟩ = some (.string ⟨#[97]⟩) ∧ b < w'.heap.size ∧ SA w' (.slice (some ⟨b, o, none⟩) 3 c) ex3 ∧ Below w.heap.size w w' := by
  refine (lines_any (mk [97, 10, 10, 98]) w (by rw [mk_size]; decide)).mono ?_
  rintro e w' ⟨v, rfl, hs, hb⟩
  have h1 : lin (mk [97, 10, 10, 98]).data.toList = ex3 := by decide
  have h2 : lend (mk [97, 10, 10, 98]).data.toList = false := by decide
  rw [h1] at hs
  rw [h2]
  have hs2 := hs
  obtain ⟨a, c, rfl, h3, h4⟩ := hs
  rcases h4 with h4 | ⟨b, o, rfl, h5, h6⟩
  · cases h4
  · exact ⟨b, o, c, rfl, h6 0 [97] rfl, h5, hs2, hb⟩
theorem aw_un (w : World) : Calls Tryd.prog 24 #[.string ⟨#[97, 92, 49, 48, 49, 57]⟩] w fun e w' => e = .returned (.tuple #[.string ⟨#[97, 65, 57]⟩, .int .i64 0, .int .i64 0]) ∧ Below w.heap.size w w' := by
  have h := unesc_any (mk [97, 92, 49, 48, 49, 57]) w (by rw [mk_size]; decide)
  have e : unR (mk [97, 92, 49, 48, 49, 57]).data.toList = ([97, 65, 57], true, 0) := by
    show unl [97, 92, 49, 48, 49, 57] 0 [] = _
    rw [unl_cons, if_neg (by decide), unl_cons, if_pos rfl, if_neg (by decide)]
    show unl [57] _ _ = _
    rw [unl_cons, if_neg (by decide), unl_nil]
    rfl
  rw [e] at h; exact h
theorem aw_join (v : Value) (w : World) (hv : SA w v ex3) : Calls Tryd.prog 17 #[v, .bool true] w fun e w' => e = .returned (.string ⟨#[97, 10, 10, 98, 10]⟩) ∧ Below w.heap.size w w' :=
  tjoin_any v ex3 true w hv (by decide)
theorem aw_pos (w : World) : Calls Tryd.prog 20 #[.string ⟨#[97, 98, 10, 99]⟩, .int .i64 3] w fun e w' => e = .returned (.agg #[.int .i64 2, .int .i64 1]) ∧ Below w.heap.size w w' :=
  pos_any (mk [97, 98, 10, 99]) 3 w (by rw [mk_size]; decide)

theorem aw_conv (w : World) : (convert 42 9 (.slice (some ⟨w.heap.size, 0, none⟩) 1 1)).run Tryd.prog (w.alloc (.cells #[.int .u8 92] 5)) = .ok (.string ⟨#[92]⟩) (w.alloc (.cells #[.int .u8 92] 5)) :=
  conv_own (B := w.heap.size) (n := 1) (l := [92]) (World.ownsRow_lit w #[.int .u8 92] 1 (Nat.le_refl _) (by decide) rfl) rfl
theorem aw_bel {w1 w2 : World} {o : Obj} (h : Below (w1.alloc o).heap.size (w1.alloc o) w2) : Below w1.heap.size w1 w2 := ((Below.refl _ w1).alloc (Nat.le_refl _) _).trans (h.mono (by simp))

set_option maxHeartbeats 1000000 in
theorem awake_any (w : World) : Calls Tryd.prog 16 #[] w fun e w' => e = .returned (.bool true) ∧ Below w.heap.size w w' := by
  have H1 := Lib.hid aw_lines
  have H2 := Lib.hid aw_un
  have H3 := Lib.hid aw_join
  have H4 := Lib.hid aw_pos
  have hcv := aw_conv
  go_enter Tryd.func16, Tryd.ntmps16
  go_wp2_with (first
    | (go_at_call 11; refine (H1.out _).mono ?_; rintro e w1 ⟨b, o, c, rfl, hc1, hlt1, hs1, hb1⟩; have HS1 := Lib.hid hs1; have HB1 := Lib.hid hb1; clear hs1 hb1)
    | (go_at_call 24; refine (H2.out _).mono ?_; rintro e w2 ⟨rfl, hb2⟩; have hbx := aw_bel hb2; have hc2 := (hbx.cell (p := ⟨b, o, none⟩) hlt1).trans hc1; have HS2 := Lib.hid (HS1.out.below (hbx.mono (Nat.le_refl _))); have HB2 := Lib.hid hbx; clear hb2 hbx)
    | (go_at_call 17; refine (H3.out _ _ HS2.out).mono ?_; rintro e w3 ⟨rfl, hb3⟩; have HB3 := Lib.hid hb3; clear hb3)
    | (go_at_call 20; refine (H4.out _).mono ?_; rintro e w4 ⟨rfl, hb4⟩; have HB4 := Lib.hid hb4; clear hb4))
  go_ret
  exact ⟨rfl, HB1.out.trans ((HB2.out.mono HB1.out.size).trans ((HB3.out.mono (Nat.le_trans HB1.out.size HB2.out.size)).trans (HB4.out.mono (Nat.le_trans HB1.out.size (Nat.le_trans HB2.out.size HB3.out.size)))))⟩
end Go.Proofs.YtgcpagnnkmpeoaaDoor
