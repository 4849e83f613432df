/- The reference's Class. (Written by gen_lrsets.py.) -/
import Derived.Test.YtblaldcioneooaaDoorRows
import Derived.Test.YtblaldcioneooaaDoorLrStdB
import Derived.Test.YtblaldcioneooaaDoorLrSets
set_option linter.unusedVariables false
namespace Go.Proofs.YtblaldcioneooaaDoor
open Go.RowKit

theorem eqn (l : List UInt8) (n : ByteArray) : (n.toList == l) = eqS (mkS l) n := by
  unfold eqS
  rw [ByteArray.toList_eq (mkS l), mkS_data, Bool.eq_iff_iff, beq_iff_eq, beq_iff_eq]
  exact eq_comm
theorem set_0 : cs (fun c => between 65 90 c || between 97 122 c) = cs (uniL (rgL 0)) := cs_congr _ _ (by decide +kernel)
theorem set_1 : cs (between 48 57) = cs (uniL (rgL 1)) := cs_congr _ _ (by decide +kernel)
theorem set_2 : cs (fun c => (between 65 90 c || between 97 122 c) || between 48 57 c) = cs (uniL (rgL 2)) := cs_congr _ _ (by decide +kernel)
theorem set_3 : cs (between 65 90) = cs (uniL (rgL 3)) := cs_congr _ _ (by decide +kernel)
theorem set_4 : cs (between 97 122) = cs (uniL (rgL 4)) := cs_congr _ _ (by decide +kernel)
theorem set_5 : cs (fun c => between 48 57 c || (between 65 70 c || between 97 102 c)) = cs (uniL (rgL 5)) := cs_congr _ _ (by decide +kernel)
theorem set_6 : cs (setOf [32, 9]) = cs (uniL (rgL 6)) := cs_congr _ _ (by decide +kernel)
theorem set_7 : cs (fun c => setOf [32] c || between 9 13 c) = cs (uniL (rgL 7)) := cs_congr _ _ (by decide +kernel)
theorem set_8 : cs (fun c => between 0 31 c || between 127 127 c) = cs (uniL (rgL 8)) := cs_congr _ _ (by decide +kernel)
theorem set_9 : cs (between 33 126) = cs (uniL (rgL 9)) := cs_congr _ _ (by decide +kernel)
theorem set_10 : cs (between 32 126) = cs (uniL (rgL 10)) := cs_congr _ _ (by decide +kernel)
theorem set_11 : cs (fun c => between 33 126 c && !((between 65 90 c || between 97 122 c) || between 48 57 c)) = cs (uniL (rgL 11)) := cs_congr _ _ (by decide +kernel)
end Go.Proofs.YtblaldcioneooaaDoor
