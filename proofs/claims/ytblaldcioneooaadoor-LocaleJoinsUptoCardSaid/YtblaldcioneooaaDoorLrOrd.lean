/- The reference's order, and the order of bytes. -/
import Derived.Test.YtblaldcioneooaaDoorRows
import Derived.Test.YtblaldcioneooaaDoorLpSplit
set_option linter.unusedVariables false
namespace Go.Proofs.YtblaldcioneooaaDoor
open Go.RowKit

/-- A list of numbers in memory. -/
def NL (w : World) (v : Value) (X : List Int) : Prop := SL 1 X.length (fun j _ => .int .i64 (X.getD j 0)) w v
theorem NL.below {w w' : World} {v : Value} {X : List Int} (h : NL w v X) (hb : Below w.heap.size w w') : NL w' v X := SL.below h hb
theorem own_NL {w : World} {B n : Nat} {v : Value} {X : List Int} (h : w.ownsRow B 3 1 v n (nums X)) (hn : n = X.length) : NL w v X := by
  subst hn
  rcases Joins.ownsRow_forms h with ⟨rfl, h0⟩ | ⟨g, cap, rfl⟩
  · have hX : X = [] := List.eq_nil_of_length_eq_zero h0
    subst hX
    exact SL_nil _ _ _
  · refine own_SL h _ fun j hj => ?_
    unfold nums
    rw [List.getElem?_map, List.getElem?_eq_getElem hj]
    simp [List.getD, List.getElem?_eq_getElem hj]
theorem ord_step (X Y : List Int) (k : Nat) (hx : k < X.length) (hy : k < Y.length) : ord (X.drop k) (Y.drop k) = if X.getD k 0 < Y.getD k 0 then -1 else if Y.getD k 0 < X.getD k 0 then 1 else ord (X.drop (k + 1)) (Y.drop (k + 1)) := by
  rw [List.drop_eq_getElem_cons hx, List.drop_eq_getElem_cons hy]
  simp only [ord, List.getD, List.getElem?_eq_getElem hx, List.getElem?_eq_getElem hy, Option.getD_some]
theorem ord_left (Y : List Int) (k : Nat) (X : List Int) (hx : X.length ≤ k) : ord (X.drop k) (Y.drop k) = if k < Y.length then -1 else 0 := by
  rw [List.drop_eq_nil_of_le hx]
  by_cases h : k < Y.length
  · rw [if_pos h, List.drop_eq_getElem_cons h]
    rfl
  · rw [if_neg h, List.drop_eq_nil_of_le (by omega)]
    rfl
theorem ord_right (X Y : List Int) (k : Nat) (hx : k < X.length) (hy : Y.length ≤ k) : ord (X.drop k) (Y.drop k) = 1 := by
  rw [List.drop_eq_nil_of_le hy, List.drop_eq_getElem_cons hx]
  rfl

theorem nums_bI (l : List UInt8) (k : Nat) (h : k < l.length) : nums (bI (l.take (k + 1))) = nums (bI (l.take k)) ++ [.int .i64 ((l[k]).toNat : Int)] := by
  unfold bI nums
  rw [List.take_add_one, List.getElem?_eq_getElem h, List.map_append, List.map_append]
  rfl
theorem bI_len (l : List UInt8) : (bI l).length = l.length := by unfold bI; simp

end Go.Proofs.YtblaldcioneooaaDoor
