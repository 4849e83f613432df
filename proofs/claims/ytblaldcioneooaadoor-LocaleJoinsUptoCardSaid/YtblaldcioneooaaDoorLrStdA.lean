/- The reference's standard classes, the first. (Written by gen_lrstd.py.) -/
import Derived.Test.YtblaldcioneooaaDoorRows
import Derived.Test.YtblaldcioneooaaDoorLrSplit
import Derived.Test.YtblaldcioneooaaDoorLpClass
set_option linter.unusedVariables false
namespace Go.Proofs.YtblaldcioneooaaDoor
open Go.RowKit

theorem up3 (w3 : World) : At (((w3.alloc (.cells (cl (between 65 90)) 38)).alloc (.cells (cl (between 97 122)) 38)).alloc (.cells (cl (between 48 57)) 38)) w3.heap.size (between 65 90) := ((At.new w3 _).alloc _).alloc _
theorem lo3 (w3 : World) : At (((w3.alloc (.cells (cl (between 65 90)) 38)).alloc (.cells (cl (between 97 122)) 38)).alloc (.cells (cl (between 48 57)) 38)) (w3.heap.size + 1) (between 97 122) := by
  have := At.new (w3.alloc (.cells (cl (between 65 90)) 38)) (between 97 122)
  exact At.alloc (by simpa using this) _
theorem di3 (w3 : World) : At (((w3.alloc (.cells (cl (between 65 90)) 38)).alloc (.cells (cl (between 97 122)) 38)).alloc (.cells (cl (between 48 57)) 38)) (w3.heap.size + 1 + 1) (between 48 57) := by
  have := At.new ((w3.alloc (.cells (cl (between 65 90)) 38)).alloc (.cells (cl (between 97 122)) 38)) (between 48 57)
  simpa using this

end Go.Proofs.YtblaldcioneooaaDoor
