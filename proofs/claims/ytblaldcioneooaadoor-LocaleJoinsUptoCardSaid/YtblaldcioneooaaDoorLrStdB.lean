/- The reference's standard classes, the others. (Written by gen_lrstd.py.) -/
import Derived.Test.YtblaldcioneooaaDoorRows
import Derived.Test.YtblaldcioneooaaDoorLrStdA
set_option linter.unusedVariables false
namespace Go.Proofs.YtblaldcioneooaaDoor
open Go.RowKit

end Go.Proofs.YtblaldcioneooaaDoor
