/- RtAw. -/
import Derived.Test.YtfgcnknmiclfnaaDoorPb8
import Derived.Test.YtfgcnknmiclfnaaDoorRows
set_option linter.unusedVariables false
set_option linter.unusedSimpArgs false
set_option maxRecDepth 100000
set_option maxHeartbeats 4000000
namespace Go.Proofs.YtfgcnknmiclfnaaDoor
open Go.RowKit
theorem conv_byte (c : Nat) (hc : c < 256) (w : World) (g : Nat) (hg : w.heap.size = g) :
    (convert 96 9 (.slice (some ⟨g, 0, none⟩) 1 1)).run Tryd.prog (w.alloc (.cells #[.int .u8 c] 5)) = .ok (.string ⟨#[UInt8.ofNat c]⟩) (w.alloc (.cells #[.int .u8 c] 5)) := by
  subst hg
  exact run_convert_bytes_back (P := Tryd.prog) _ 96 9 5 ⟨w.heap.size, 0, none⟩ 1 [UInt8.ofNat c] Tryd.underlying96 Tryd.underlying5 Tryd.underlying9 (fun j hj => by
    obtain rfl : j = 0 := by simpa using hj
    have := new_cells w [.int .u8 c] 5 0 _ rfl
    rw [add_at] at this
    rw [show [UInt8.ofNat c][0] = UInt8.ofNat c from rfl]
    have e : (UInt8.ofNat c).toNat = c := by simp [UInt8.toNat_ofNat]; omega
    rw [e]
    exact this)
end Go.Proofs.YtfgcnknmiclfnaaDoor
