/- The reference's weights, Compare and Split. (Written by gen_lrs.py.) -/
import Derived.Test.YtblaldcioneooaaDoorRows
import Derived.Test.YtblaldcioneooaaDoorLrOrd
set_option linter.unusedVariables false
namespace Go.Proofs.YtblaldcioneooaaDoor
open Go.RowKit

/-- 'append(v, u)' as one step of a region that draws. -/
theorem step_app (T E : TypeId) (z : Value) (bytes : Nat) (ht : Tryd.prog.underlying T = some (.slice E)) (hif : (Tryd.prog.info? E).map (fun i => (i.zero, i.size, i.bytes)) = some (some z, 1, bytes)) (hz : z.cells.size = 1)
    {ops : Array Oper} {o : Oper} {a : Act} {K : Act → World → Prop} {Q : Exit → Act → World → Prop} {F : Prop} (w : World) (hgd : o.guard = none) (s x : Operand)
    (ho : o.op = .call { callee := .builtin .append, args := #[s, x], argTypes := #[T, T] })
    (B : Nat) (v : Value) (n : Nat) (xs : List Value) (u : Value) (hs : a.eval s = v) (hown : w.ownsRow B E 1 v n xs) (hx : a.eval x = .slice (some ⟨w.heap.size, 0, none⟩) 1 1) (h1 : u.oneCell' = true)
    (hB : B ≤ w.heap.size) (h63 : n + 1 ≤ maxLen) (hby : (n + 1) * bytes ≤ 140737488355328)
    (h : ∀ v' w', w'.ownsRow B E 1 v' (n + 1) (xs ++ [u]) → (∀ A0, Below B A0 w → Below B A0 w') → K (a.put o.dst v') w') :
    if Region.wanted o (yielded ops a.tmps) = true then Oper.wp Tryd.prog o a (w.alloc (.cells #[u] E)) K Q else F := by
  have hw : Region.wanted o (yielded ops a.tmps) = true := by simp [Region.wanted, hgd]
  rw [if_pos hw]
  obtain ⟨i0, hi, hz0, hz1, hz2⟩ := info_parts hif
  refine wp_append_lies (w := w.alloc (.cells #[u] E)) s x T ho B E i0 z 1 bytes ht hi hz0 hz1 hz2 hz (by decide) v n xs hs (hown.alloc _) ⟨w.heap.size, 0, none⟩ 1 1 [u] hx rfl (fun j y hy => row_cells w [u] E j y hy) (by simpa using h1) (by decide) h63 hby (by simp; omega) _ rfl ?_
  intro g cap w' hown' hgrow _ _
  exact h _ w' hown' fun A0 hb => (hb.alloc hB _).grown hgrow (by simp; omega) (fun j e => (hown.lt j e).1)

/-- What find finds. -/
theorem hit_hp (V : Loc) (hV : Ok V) (s : ByteArray) (o k : Nat) (hk : k < V.ne) (ho : o ≤ s.size) : hit V s o k = hpAt V (s.data.toList.drop o) k := by
  have h2 := hV.et k hk
  have hl : (V.et k).data.toList.length = 2 := by rw [size_data]; exact h2
  have hp := Lib.hasPrefix_of_take (s.data.toList.drop o) (V.et k).data.toList
  unfold Lib.hasPrefix at hp
  unfold hit hpAt eqS
  rw [← hp, hl, List.length_drop, size_data, ByteArray.toList_eq, ByteArray.toList_eq, Lib.extract_data]
  have e1 : decide (o + 2 ≤ s.size) = decide (2 ≤ s.size - o) := by
    rw [decide_eq_decide]
    omega
  rw [e1, show o + 2 - o = 2 by omega]
theorem find_congr (l : List Nat) (p q : Nat → Bool) (h : ∀ x ∈ l, p x = q x) : l.find? p = l.find? q := by
  induction l with
  | nil => rfl
  | cons a r ih =>
    rw [List.find?_cons, List.find?_cons, h a (by simp), ih (fun x hx => h x (by simp [hx]))]
theorem find_eq (V : Loc) (hV : Ok V) (s : ByteArray) (o : Nat) (ho : o ≤ s.size) : findL V s o = match eIx V (s.data.toList.drop o) with
    | some k => (k : Int)
    | none => -1 := by
  have e : (List.range V.ne).find? (hit V s o) = eIx V (s.data.toList.drop o) := by
    rw [eIx_eq]
    exact find_congr _ _ _ fun k hk => hit_hp V hV s o k (by simpa using hk) ho
  unfold findL
  rw [e]
  cases eIx V (s.data.toList.drop o) <;> rfl
theorem find_some {V : Loc} (hV : Ok V) {s : ByteArray} {o k : Nat} (ho : o ≤ s.size) (h : eIx V (s.data.toList.drop o) = some k) : findL V s o = (k : Int) ∧ k < V.ne ∧ o + 2 ≤ s.size := by
  refine ⟨by rw [find_eq V hV s o ho, h], ?_, ?_⟩
  · have := List.mem_of_find?_eq_some h
    simpa using this
  · have h1 := List.find?_some h
    have hk : k < V.ne := by simpa using List.mem_of_find?_eq_some h
    rw [List.isPrefixOf_iff_prefix] at h1
    have := h1.length_le
    rw [List.length_drop, size_data, size_data, hV.et k hk] at this
    omega
theorem find_non {V : Loc} (hV : Ok V) {s : ByteArray} {o : Nat} (ho : o ≤ s.size) (h : eIx V (s.data.toList.drop o) = none) : findL V s o = -1 := by rw [find_eq V hV s o ho, h]
theorem headD_drop (s : ByteArray) (o : Nat) (h : o < s.size) : (s.data.toList.drop o).headD 0 = s[o] := by
  have hl : o < s.data.toList.length := by rw [size_data]; exact h
  rw [List.drop_eq_getElem_cons hl]
  rfl
theorem nums_one (X : List Int) (x : Int) : nums X ++ [.int .i64 x] = nums (X ++ [x]) := by
  rw [nums_app]
  rfl

end Go.Proofs.YtblaldcioneooaaDoor
