/- Appending a few new elements to a slice that the call has made. -/
import Derived.Test.YticfhbffoajgcaaGreatDoorTxShelf
import Derived.Laws.OwnMore
import Derived.Laws.AppendOwnNone
import Derived.Lib.AppendStr
import Derived.Lib.SmallJoins
import Derived.OwnWalk
set_option linter.unusedVariables false
namespace Go.Proofs.YticfhbffoajgcaaGreatDoor
open Go.RowKit

def ints (l : List UInt8) : List Value := l.map fun c => .int .u8 (c.toNat : Int)
theorem ints_app (l r : List UInt8) : ints (l ++ r) = ints l ++ ints r := by unfold ints; rw [List.map_append]
theorem ints_len (l : List UInt8) : (ints l).length = l.length := by unfold ints; rw [List.length_map]
theorem ints_one (l : List UInt8) : ∀ u ∈ ints l, u.oneCell' = true := by
  intro u hu
  unfold ints at hu
  obtain ⟨c, _, rfl⟩ := List.mem_map.1 hu
  rfl
theorem strs_app (l r : List (List UInt8)) : strs3 (l ++ r) = strs3 l ++ strs3 r := by unfold strs3; rw [List.map_append]
theorem strs_len (l : List (List UInt8)) : (strs3 l).length = l.length := by unfold strs3; rw [List.length_map]
theorem strs_one (l : List (List UInt8)) : ∀ u ∈ strs3 l, u.oneCell' = true := by
  intro u hu
  unfold strs3 at hu
  obtain ⟨c, _, rfl⟩ := List.mem_map.1 hu
  rfl
theorem infoB : (Tryz.prog.info? 5).map (fun i => (i.zero, i.size, i.bytes)) = some (some (.int .u8 0), 1, 1) := by kernel_rfl

theorem add_j (g j : Nat) : (⟨g, 0, none⟩ : Addr).add j = ⟨g, j, none⟩ := by unfold Addr.add; split <;> simp_all
theorem lit_cells (w : World) (cs : List Value) (t : TypeId) (j : Nat) (u : Value) (h : cs[j]? = some u) : (w.alloc (.cells cs.toArray t)).cell? ((⟨w.heap.size, 0, none⟩ : Addr).add j) = some u := by
  rw [add_j, cell_of_row _ w.heap.size j cs.toArray t (0, 0) (heap_alloc_new w _)]
  simpa using h

/-- 'append(v, a, b, ..)' where v is the call's own and the new block has just been made. -/
theorem app_lit (T E : TypeId) (z : Value) (bytes : Nat) (ht : Tryz.prog.underlying T = some (.slice E)) (hif : (Tryz.prog.info? E).map (fun i => (i.zero, i.size, i.bytes)) = some (some z, 1, bytes)) (hz : z.cells.size = 1)
    {W : World} {ops : Array Oper} {rest : List Oper} {o : Oper} {a : Act} {Q : Exit → Act → World → Prop} (w : World) (hgd : o.guard = none) (s x : Operand)
    (ho : o.op = .call { callee := .builtin .append, args := #[s, x], argTypes := #[T, T] })
    (B : Nat) (v : Value) (n m : Nat) (xs vs : List Value) (hW : W = w.alloc (.cells vs.toArray E)) (hs : a.eval s = v) (hown : w.ownsRow B E 1 v n xs) (hx : a.eval x = .slice (some ⟨w.heap.size, 0, none⟩) m m) (hm : vs.length = m) (h1 : ∀ u ∈ vs, u.oneCell' = true)
    (hB : B ≤ w.heap.size) (h63 : n + m ≤ maxLen) (hby : (n + m) * bytes ≤ 140737488355328)
    (h : ∀ v' w', w'.ownsRow B E 1 v' (n + m) (xs ++ vs) → (∀ A0, Below B A0 w → Below B A0 w') → wpList Tryz.prog ops Q rest (a.put o.dst v') w') :
    wpList Tryz.prog ops Q (o :: rest) a W := by
  subst hW
  obtain ⟨i0, hi, hz0, hz1, hz2⟩ := info_parts hif
  refine wpList_append_own _ hgd s x T ho B E i0 z 1 bytes ht hi hz0 hz1 hz2 hz (by decide) v n xs hs (hown.alloc _) ⟨w.heap.size, 0, none⟩ m m vs hx (by omega) (fun j u hu => lit_cells w vs E j u hu) h1 h63 hby (by simp; omega) ?_
  intro v' w' hown' hgrow _
  exact h v' w' hown' fun A0 hb => (hb.alloc hB _).grown hgrow (by simp; omega) (fun j e => (hown.lt j e).1)
end Go.Proofs.YticfhbffoajgcaaGreatDoor
