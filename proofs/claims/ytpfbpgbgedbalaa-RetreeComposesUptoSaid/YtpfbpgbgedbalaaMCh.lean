/- Several texts in one (a claim has at most 60 files). -/
import Derived.Test.YtpfbpgbgedbalaaMCd
import Derived.Test.YtpfbpgbgedbalaaMCe
import Derived.Test.YtpfbpgbgedbalaaMCf
import Derived.Test.YtpfbpgbgedbalaaMCg
/- RetreeComposes: the law. -/
set_option linter.unusedVariables false
set_option maxRecDepth 100000
namespace Go.Proofs.Ytpfbpgbgedbalaa
open Go.RowKit

theorem composes_law (a b : TN) (sa sb : Value) (w : World) (ha : TI w a sa) (hb : TI w b sb) (hz : szF a.f + szF b.f + 1 ≤ 1048576) (fa : F.fits (.cons a.op a.st a.lo a.hi a.g a.args .nil)) (fb : F.fits (.cons b.op b.st b.lo b.hi b.g b.args .nil)) :
    Calls Try.prog 6 #[.agg #[.int .i64 a.op, .int .u64 (wd a.st 0 64 : Nat), .int .u64 (wd a.st 64 64 : Nat), .int .u64 (wd a.st 128 64 : Nat), .int .u64 (wd a.st 192 64 : Nat), .int .i64 a.lo, .int .i64 a.hi, .int .i64 a.g, sa], .agg #[.int .i64 b.op, .int .u64 (wd b.st 0 64 : Nat), .int .u64 (wd b.st 64 64 : Nat), .int .u64 (wd b.st 128 64 : Nat), .int .u64 (wd b.st 192 64 : Nat), .int .i64 b.lo, .int .i64 b.hi, .int .i64 b.g, sb]] w fun e w' => e = .returned (.bool true) ∧ Below w.heap.size w w' := by
  cases hx : (knF a).nul <;> cases hy : (knF b).nul
  · exact composes_ff a b hx hy sa sb w ha hb hz fa fb
  · exact composes_ft a b hx hy sa sb w ha hb hz fa fb
  · exact composes_tf a b hx hy sa sb w ha hb hz fa fb
  · exact composes_tt a b hx hy sa sb w ha hb hz fa fb
end Go.Proofs.Ytpfbpgbgedbalaa
