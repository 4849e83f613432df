/- The reference's Join, and the law's test of lines. -/
import Derived.Test.YtblaldcioneooaaGreatDoorTxSame
import Derived.Test.YtblaldcioneooaaGreatDoorTxEscW
set_option linter.unusedVariables false
namespace Go.Proofs.YtblaldcioneooaaGreatDoor
open Go.RowKit

theorem bnext {w w1 w2 : World} (h : Below w.heap.size w w1) (k : Below w1.heap.size w1 w2) : Below w.heap.size w w2 := h.trans (k.mono h.size)

/-- 'append(b, s...)' where b is the call's own. -/
theorem app_str {w : World} {ops : Array Oper} {rest : List Oper} {o : Oper} {a : Act} {Q : Exit → Act → World → Prop} (hgd : o.guard = none) (s x : Operand)
    (ho : o.op = .call { callee := .builtin .append, args := #[s, x], argTypes := #[68, 9] })
    (B : Nat) (v : Value) (n : Nat) (l y : List UInt8) (hs : a.eval s = v) (hown : w.ownsRow B 5 1 v n (ints l)) (hx : a.eval x = .string (mk y))
    (hB : B ≤ w.heap.size) (hn : n + y.length ≤ 1000000000000)
    (h : ∀ v' w', w'.ownsRow B 5 1 v' (n + y.length) (ints (l ++ y)) → (∀ A0, Below B A0 w → Below B A0 w') → wpList Tryz.prog ops Q rest (a.put o.dst v') w') :
    wpList Tryz.prog ops Q (o :: rest) a w := by
  obtain ⟨i0, hi, hz0, hz1, hz2⟩ := info_parts infoB
  have e : (mk y).size = y.length := mk_size y
  refine Lib.wpList_append_own_string w hgd s x 68 9 ho B 5 i0 Tryz.underlying68 Tryz.underlying9 hi hz0 hz1 hz2 v n (ints l) hs hown (mk y) hx (by unfold maxLen; omega) (by omega) hB ?_
  intro v' w' hown' hgrow _
  have e2 : ints l ++ Lib.strCells (mk y) = ints (l ++ y) := by rw [ints_app]; rfl
  rw [e, e2] at hown'
  exact h v' w' hown' fun A0 hb => hb.grown hgrow hB (fun j e => (hown.lt j e).1)

theorem sum_mem : ∀ (xs : List (List UInt8)) (x : List UInt8), x ∈ xs → x.length ≤ (xs.map (·.length)).sum
  | [], x, h => by cases h
  | y :: r, x, h => by
    rw [List.map_cons, List.sum_cons]
    rcases List.mem_cons.1 h with rfl | h
    · omega
    · have := sum_mem r x h; omega
theorem plainL_true (xs : List (List UInt8)) (h : (xs.all fun x => no isL x) = true) : plainL xs true = true := by unfold plainL; rw [h]; rfl
theorem plainL_last (q : List (List UInt8)) (t : List UInt8) (h : ((q ++ [t]).all fun x => no isL x) = true) : plainL (q ++ [t]) false = !t.isEmpty := by
  unfold plainL; rw [h, List.getLast?_append]
  cases t <;> simp
theorem plainL_bad (xs : List (List UInt8)) (b : Bool) (k : Nat) (hk : k < xs.length) (h : no isL xs[k] = false) : plainL xs b = false := by
  have : (xs.all fun x => no isL x) = false := by
    rw [List.all_eq_false]
    exact ⟨xs[k], List.getElem_mem hk, by rw [h]; exact Bool.false_ne_true⟩
  unfold plainL; rw [this]; rfl
theorem no_bad (p : UInt8 → Bool) (l : List UInt8) (k : Nat) (hk : k < l.length) (h : p l[k] = true) : no p l = false := by
  unfold no
  rw [List.all_eq_false]
  exact ⟨l[k], List.getElem_mem hk, by rw [h]; decide⟩
theorem no_take_step (p : UInt8 → Bool) (l : List UInt8) (k : Nat) (hk : k < l.length) (h : no p (l.take k) = true) (hc : p l[k] = false) : no p (l.take (k + 1)) = true := by
  rw [List.take_succ_eq_append_getElem hk, no_snoc, h, hc]; rfl

end Go.Proofs.YtblaldcioneooaaGreatDoor
