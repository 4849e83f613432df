/- The call's own lists (of bytes, of numbers, of strings), and the reference's mapped. -/
import Derived.Test.YticfhbffoajgcaaGreatDoorRows
import Derived.Test.YticfhbffoajgcaaGreatDoorLcFind
import Derived.Laws.OwnMore
import Derived.Laws.AppendOwnNone
import Derived.Laws.IdiomStrings
import Derived.Lib.AppendStr
import Derived.Lib.SmallJoins
import Derived.OwnWalk
set_option linter.unusedVariables false
namespace Go.Proofs.YticfhbffoajgcaaGreatDoor
open Go.RowKit

theorem infoU : (Tryz.prog.info? 5).map (fun i => (i.zero, i.size, i.bytes)) = some (some (.int .u8 0), 1, 1) := by kernel_rfl
theorem infoI : (Tryz.prog.info? 3).map (fun i => (i.zero, i.size, i.bytes)) = some (some (.int .i64 0), 1, 8) := by kernel_rfl
theorem infoS : (Tryz.prog.info? 9).map (fun i => (i.zero, i.size, i.bytes)) = some (some (.string ⟨#[]⟩), 1, 16) := by kernel_rfl
/-- Bytes, numbers, strings as cells. -/
def bys (l : List UInt8) : List Value := l.map fun c => .int .u8 (c.toNat : Int)
def nums (l : List Int) : List Value := l.map fun n => .int .i64 n
def strl (l : List ByteArray) : List Value := l.map fun s => .string s
theorem bys_app (l r : List UInt8) : bys (l ++ r) = bys l ++ bys r := by unfold bys; rw [List.map_append]
theorem nums_app (l r : List Int) : nums (l ++ r) = nums l ++ nums r := by unfold nums; rw [List.map_append]
theorem strl_app (l r : List ByteArray) : strl (l ++ r) = strl l ++ strl r := by unfold strl; rw [List.map_append]

theorem add_at (g j : Nat) : (⟨g, 0, none⟩ : Addr).add j = ⟨g, j, none⟩ := by unfold Addr.add; split <;> simp_all
theorem row_cells (w : World) (cs : List Value) (t : TypeId) (j : Nat) (u : Value) (h : cs[j]? = some u) : (w.alloc (.cells cs.toArray t)).cell? ((⟨w.heap.size, 0, none⟩ : Addr).add j) = some u := by
  rw [add_at, cell_of_row _ w.heap.size j cs.toArray t (0, 0) (heap_alloc_new w _)]
  simpa using h
theorem own_under {w w' : World} {B n : Nat} {t : TypeId} {v : Value} {xs : List Value} (h : w.ownsRow B t 1 v n xs) (hb : Below w.heap.size w w') : w'.ownsRow B t 1 v n xs := by
  obtain ⟨h1, h2⟩ := h
  refine ⟨h1, ?_⟩
  rcases h2 with h2 | ⟨g, cap, cur, e, hB, hg, r⟩
  · exact .inl h2
  · exact .inr ⟨g, cap, cur, e, hB, (hb.block g (Array.getElem?_eq_some_iff.1 hg).1).trans hg, r⟩

/-- 'append(v, a, b, ..)' where v is the call's own and the new block has just been made. -/
theorem app_row (T E : TypeId) (z : Value) (bytes : Nat) (ht : Tryz.prog.underlying T = some (.slice E)) (hif : (Tryz.prog.info? E).map (fun i => (i.zero, i.size, i.bytes)) = some (some z, 1, bytes)) (hz : z.cells.size = 1)
    {W : World} {ops : Array Oper} {rest : List Oper} {o : Oper} {a : Act} {Q : Exit → Act → World → Prop} (w : World) (hgd : o.guard = none) (s x : Operand)
    (ho : o.op = .call { callee := .builtin .append, args := #[s, x], argTypes := #[T, T] })
    (B : Nat) (v : Value) (n m : Nat) (xs vs : List Value) (hW : W = w.alloc (.cells vs.toArray E)) (hs : a.eval s = v) (hown : w.ownsRow B E 1 v n xs) (hx : a.eval x = .slice (some ⟨w.heap.size, 0, none⟩) m m) (hm : vs.length = m) (h1 : ∀ u ∈ vs, u.oneCell' = true)
    (hB : B ≤ w.heap.size) (h63 : n + m ≤ maxLen) (hby : (n + m) * bytes ≤ 140737488355328)
    (h : ∀ v' w', w'.ownsRow B E 1 v' (n + m) (xs ++ vs) → (∀ A0, Below B A0 w → Below B A0 w') → wpList Tryz.prog ops Q rest (a.put o.dst v') w') :
    wpList Tryz.prog ops Q (o :: rest) a W := by
  subst hW
  obtain ⟨i0, hi, hz0, hz1, hz2⟩ := info_parts hif
  refine wpList_append_own _ hgd s x T ho B E i0 z 1 bytes ht hi hz0 hz1 hz2 hz (by decide) v n xs hs (hown.alloc _) ⟨w.heap.size, 0, none⟩ m m vs hx (by omega) (fun j u hu => row_cells w vs E j u hu) h1 h63 hby (by simp; omega) ?_
  intro v' w' hown' hgrow _
  exact h v' w' hown' fun A0 hb => (hb.alloc hB _).grown hgrow (by simp; omega) (fun j e => (hown.lt j e).1)

/-- A slice of bytes that the call has made, as a string. -/
theorem conv_bys {w : World} {B n : Nat} {v : Value} {l : List UInt8} (h : w.ownsRow B 5 1 v n (bys l)) (hn : n = l.length) : (convert 80 9 v).run Tryz.prog w = .ok (.string ⟨l.toArray⟩) w := by
  subst hn
  rcases Joins.ownsRow_forms h with ⟨rfl, h0⟩ | ⟨g, cap, rfl⟩
  · have hl : l = [] := List.eq_nil_of_length_eq_zero h0
    subst hl
    rw [run_convert_bytes_string w 80 9 5 none 0 0 Tryz.underlying80 Tryz.underlying5 Tryz.underlying9]
    rfl
  · exact run_convert_bytes_back (P := Tryz.prog) w 80 9 5 ⟨g, 0, none⟩ cap l Tryz.underlying80 Tryz.underlying5 Tryz.underlying9 (fun j hj => h.cells rfl j _ (by
      unfold bys
      rw [List.getElem?_map, List.getElem?_eq_getElem hj]
      rfl))

/-- Byte k of a table. -/
def gb (T : ByteArray) (k : Nat) : UInt8 := T.data[k]?.getD 0
theorem gb_at (T : ByteArray) (k : Nat) (h : k < T.size) : gb T k = T[k] := by
  unfold gb
  rw [Array.getElem?_eq_getElem h]
  rfl
/-- The bytes of a string, each by a table. -/
def mapT (T : ByteArray) (l : List UInt8) : List UInt8 := l.map fun c => gb T c.toNat
theorem map_next (T s : ByteArray) (k : Nat) (h : k < s.size) : mapT T (s.data.toList.take (k + 1)) = mapT T (s.data.toList.take k) ++ [gb T s[k].toNat] := by
  unfold mapT
  rw [List.take_add_one, List.getElem?_eq_getElem (by simpa using h), List.map_append]
  rfl

set_option maxRecDepth 100000 in
set_option maxHeartbeats 4000000 in
theorem mapped_any (T s : ByteArray) (hT : T.size = 256) (hs : s.size ≤ 140737488355328) (w : World) :
    Calls Tryz.prog 47 #[.string T, .string s] w fun e w' => e = .returned (.string ⟨(mapT T s.data.toList).toArray⟩) ∧ Below w.heap.size w w' := by
  obtain ⟨R, hR⟩ : ∃ R, R = mapT T s.data.toList := ⟨_, rfl⟩
  rw [← hR]
  have HR := Lib.hid hR
  clear hR
  have hsi : (s.size : Int) ≤ 140737488355328 := by omega
  have hTi : (T.size : Int) = 256 := by omega
  go_enter Tryz.func47, Tryz.ntmps47
  go_wp2
  go_loopw [5, 6] (fun o i wr => ∃ (k : Nat) (v : Value), v = o ∧ k ≤ s.size ∧ i = .int .i64 k ∧ Hid (wr.ownsRow w.heap.size 5 1 v k (bys (mapT T (s.data.toList.take k)))) ∧ Hid (Below w.heap.size w wr)) (fun _ i _ => s.size - (intOf i).toNat)
  case atStart => exact ⟨0, _, rfl, Nat.zero_le _, rfl, World.ownsRow_nil _ _ _ _, Below.refl _ _⟩
  case round =>
    obtain ⟨k, v, rfl, hk, rfl, HO, HB⟩ := hrel
    by_cases hlt : k < s.size
    · have hi : (k : Int) < s.size := by omega
      have hi0 : (0 : Int) ≤ k := by omega
      have hm := map_next T s k hlt
      rw [gb_at T s[k].toNat (by have := s[k].toNat_lt; omega)] at hm
      obtain ⟨c, hc⟩ : ∃ c, s[k].toNat = c := ⟨_, rfl⟩
      have c256 : (c : Int) < 256 := by have := s[k].toNat_lt; omega
      have c0 : (0 : Int) ≤ c := by omega
      simp only [hc] at hm
      have HM := Lib.hid hm
      clear hm
      go_wp2_with (first
        | (at_builtin; refine app_row 80 5 (.int .u8 0) 1 Tryz.underlying80 infoU rfl wr rfl _ _ rfl w.heap.size v _ _ _ _ rfl rfl HO.out rfl rfl ?c1 ?c0 ?c2 ?c3 ?_))
      case c1 => simp [Value.oneCell']
      case c0 => exact HB.out.size
      case c2 => unfold maxLen; omega
      case c3 => omega
      intro v' w' hown' hb'
      have HW := Lib.hid hown'
      have HB1 := Lib.hid (hb' w HB.out)
      clear hown' hb'
      go_wp2
      go_roundw
      case rel =>
        refine ⟨k + 1, _, rfl, by omega, by go_num, ?_, HB1.out⟩
        show World.ownsRow _ _ _ _ _ _ _
        rw [HM.out, bys_app]
        exact HW.out
      case measure => simp [intOf]; omega
    · obtain rfl : k = s.size := by omega
      have hcv := conv_bys HO.out (by unfold mapT; simp)
      rw [List.take_of_length_le (by simp), ← HR.out] at hcv
      go_wp2
      go_ret
      exact ⟨rfl, HB.out⟩
end Go.Proofs.YticfhbffoajgcaaGreatDoor
