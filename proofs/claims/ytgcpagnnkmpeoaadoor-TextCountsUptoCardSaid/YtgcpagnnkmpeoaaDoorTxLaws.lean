/- The laws of layer 3 against the reference: positions, reading escapes. -/
import Derived.Test.YtgcpagnnkmpeoaaDoorTxAwake
import Derived.Test.YtgcpagnnkmpeoaaDoorTxRun
set_option linter.unusedVariables false
namespace Go.Proofs.YtgcpagnnkmpeoaaDoor
open Go.RowKit

set_option maxHeartbeats 1000000 in
theorem law_positions (s : ByteArray) (a : Int) (w : World) (hs : s.size ≤ 140737488351232) :
    Calls Tryd.prog 6 #[.string s, .int .i64 a] w fun e w' => e = .returned (.bool true) ∧ Below w.heap.size w w' := by
  have H1 : Hid (∀ w, Calls Tryd.prog 20 #[.string s, .int .i64 a] w fun e w' => e = .returned (.agg #[.int .i64 (lineN (s.data.toList.take (intoN s.size a)) : Int), .int .i64 (colN (s.data.toList.take (intoN s.size a)) : Int)]) ∧ Below w.heap.size w w') := fun w => pos_any s a w (by omega)
  have H2 : Hid (∀ w, Calls Tryd.prog 21 #[.string s, .int .i64 a] w fun e w' => e = .returned (.agg #[.int .i64 (lineN (s.data.toList.take (intoN s.size a)) : Int), .int .i64 (colN (s.data.toList.take (intoN s.size a)) : Int)]) ∧ Below w.heap.size w w') := fun w => rpos_any s a w (by omega)
  have HA := Lib.hid awake_any
  generalize (lineN (s.data.toList.take (intoN s.size a)) : Int) = L at *
  generalize (colN (s.data.toList.take (intoN s.size a)) : Int) = C at *
  go_enter Tryd.func6, Tryd.ntmps6
  go_wp2_with (first
    | (go_at_call 20; refine (H1.out _).mono ?_; rintro e w1 ⟨rfl, hb1⟩; have HB1 := Lib.hid hb1; clear hb1)
    | (go_at_call 21; refine (H2.out _).mono ?_; rintro e w2 ⟨rfl, hb2⟩; have HB2 := Lib.hid hb2; clear hb2)
    | (go_at_call 16; refine (HA.out _).mono ?_; rintro e w3 ⟨rfl, hb3⟩; have HB3 := Lib.hid hb3; clear hb3))
  go_ret
  exact ⟨rfl, HB1.out.trans ((HB2.out.mono HB1.out.size).trans (HB3.out.mono (Nat.le_trans HB1.out.size HB2.out.size)))⟩

set_option maxHeartbeats 1000000 in
theorem law_unescapes (s : ByteArray) (w : World) (hs : s.size ≤ 140737488351232) :
    Calls Tryd.prog 9 #[.string s] w fun e w' => e = .returned (.bool true) ∧ Below w.heap.size w w' := by
  have H1 : Hid (∀ w, Calls Tryd.prog 24 #[.string s] w fun e w' => e = .returned (unV (unR s.data.toList)) ∧ Below w.heap.size w w') := fun w => unesc_any s w hs
  have H2 : Hid (∀ w, Calls Tryd.prog 26 #[.string s] w fun e w' => e = .returned (unV (unR s.data.toList)) ∧ Below w.heap.size w w') := fun w => runesc_any s w hs
  have HA := Lib.hid awake_any
  unfold unV at H1 H2
  generalize mk (unR s.data.toList).1 = x at *
  generalize unE (unR s.data.toList).2.1 = y at *
  generalize ((unR s.data.toList).2.2 : Int) = z at *
  go_enter Tryd.func9, Tryd.ntmps9
  go_wp2_with (first
    | (go_at_call 24; refine (H1.out _).mono ?_; rintro e w1 ⟨rfl, hb1⟩; have HB1 := Lib.hid hb1; clear hb1)
    | (go_at_call 26; refine (H2.out _).mono ?_; rintro e w2 ⟨rfl, hb2⟩; have HB2 := Lib.hid hb2; clear hb2)
    | (go_at_call 16; refine (HA.out _).mono ?_; rintro e w3 ⟨rfl, hb3⟩; have HB3 := Lib.hid hb3; clear hb3))
  go_ret
  exact ⟨rfl, HB1.out.trans ((HB2.out.mono HB1.out.size).trans (HB3.out.mono (Nat.le_trans HB1.out.size HB2.out.size)))⟩
end Go.Proofs.YtgcpagnnkmpeoaaDoor
