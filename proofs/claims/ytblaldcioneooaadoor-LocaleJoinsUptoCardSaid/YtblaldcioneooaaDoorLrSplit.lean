/- The reference's Split, and its bytes by weight. (Written by gen_lrp.py.) -/
import Derived.Test.YtblaldcioneooaaDoorRows
import Derived.Test.YtblaldcioneooaaDoorLrCmp
import Derived.Test.YtblaldcioneooaaDoorLpWeigh
set_option linter.unusedVariables false
namespace Go.Proofs.YtblaldcioneooaaDoor
open Go.RowKit

def PW (w1 : World) (g : Nat) (V : Loc) (W C E : Value) : World := put6 w1 g (.string V.name) W (.string V.lower) (.string V.upper) C E
theorem strl_mid (X : List (List UInt8)) (x : ByteArray) (k m : Nat) : strl (X.map mkS) ++ [.string (x.extract k (k + m))] = strl ((X ++ [(x.data.toList.drop k).take m]).map mkS) := by
  rw [List.map_append, strl_app]
  congr 1
  show _ = [Value.string (mkS ((x.data.toList.drop k).take m))]
  rw [Lib.extract_eq, Nat.add_sub_cancel_left]
  rfl

end Go.Proofs.YtblaldcioneooaaDoor
