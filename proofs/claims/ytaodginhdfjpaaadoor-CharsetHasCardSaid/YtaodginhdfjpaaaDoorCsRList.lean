/- The reference's list of a set, and its number of bytes. -/
import Derived.Test.YtaodginhdfjpaaaDoorRows
import Derived.Test.YtaodginhdfjpaaaDoorCsList
import Derived.Laws.OwnMore
import Derived.Laws.AppendOwnNone
import Derived.Laws.IdiomStrings
import Derived.Lib.AppendStr
import Derived.Lib.SmallJoins
import Derived.OwnWalk
set_option linter.unusedVariables false
namespace Go.Proofs.YtaodginhdfjpaaaDoor
open Go.RowKit

theorem infoB : (Tryd.prog.info? 5).map (fun i => (i.zero, i.size, i.bytes)) = some (some (.int .u8 0), 1, 1) := by kernel_rfl
/-- Numbers as bytes in memory. -/
def lits (l : List Nat) : List Value := l.map fun n => .int .u8 ((n : Nat) : Int)
theorem lits_app (l r : List Nat) : lits (l ++ r) = lits l ++ lits r := by unfold lits; rw [List.map_append]

theorem add_j (g j : Nat) : (⟨g, 0, none⟩ : Addr).add j = ⟨g, j, none⟩ := by unfold Addr.add; split <;> simp_all
theorem lit_cells (w : World) (cs : List Value) (t : TypeId) (j : Nat) (u : Value) (h : cs[j]? = some u) : (w.alloc (.cells cs.toArray t)).cell? ((⟨w.heap.size, 0, none⟩ : Addr).add j) = some u := by
  rw [add_j, cell_of_row _ w.heap.size j cs.toArray t (0, 0) (heap_alloc_new w _)]
  simpa using h
theorem own_below {w w' : World} {B n : Nat} {t : TypeId} {v : Value} {xs : List Value} (h : w.ownsRow B t 1 v n xs) (hb : Below w.heap.size w w') : w'.ownsRow B t 1 v n xs := by
  obtain ⟨h1, h2⟩ := h
  refine ⟨h1, ?_⟩
  rcases h2 with h2 | ⟨g, cap, cur, e, hB, hg, r⟩
  · exact .inl h2
  · exact .inr ⟨g, cap, cur, e, hB, (hb.block g (Array.getElem?_eq_some_iff.1 hg).1).trans hg, r⟩

/-- 'append(v, a, b, ..)' where v is the call's own and the new block has just been made. -/
theorem app_lit (T E : TypeId) (z : Value) (bytes : Nat) (ht : Tryd.prog.underlying T = some (.slice E)) (hif : (Tryd.prog.info? E).map (fun i => (i.zero, i.size, i.bytes)) = some (some z, 1, bytes)) (hz : z.cells.size = 1)
    {W : World} {ops : Array Oper} {rest : List Oper} {o : Oper} {a : Act} {Q : Exit → Act → World → Prop} (w : World) (hgd : o.guard = none) (s x : Operand)
    (ho : o.op = .call { callee := .builtin .append, args := #[s, x], argTypes := #[T, T] })
    (B : Nat) (v : Value) (n m : Nat) (xs vs : List Value) (hW : W = w.alloc (.cells vs.toArray E)) (hs : a.eval s = v) (hown : w.ownsRow B E 1 v n xs) (hx : a.eval x = .slice (some ⟨w.heap.size, 0, none⟩) m m) (hm : vs.length = m) (h1 : ∀ u ∈ vs, u.oneCell' = true)
    (hB : B ≤ w.heap.size) (h63 : n + m ≤ maxLen) (hby : (n + m) * bytes ≤ 140737488355328)
    (h : ∀ v' w', w'.ownsRow B E 1 v' (n + m) (xs ++ vs) → (∀ A0, Below B A0 w → Below B A0 w') → wpList Tryd.prog ops Q rest (a.put o.dst v') w') :
    wpList Tryd.prog ops Q (o :: rest) a W := by
  subst hW
  obtain ⟨i0, hi, hz0, hz1, hz2⟩ := info_parts hif
  refine wpList_append_own _ hgd s x T ho B E i0 z 1 bytes ht hi hz0 hz1 hz2 hz (by decide) v n xs hs (hown.alloc _) ⟨w.heap.size, 0, none⟩ m m vs hx (by omega) (fun j u hu => lit_cells w vs E j u hu) h1 h63 hby (by simp; omega) ?_
  intro v' w' hown' hgrow _
  exact h v' w' hown' fun A0 hb => (hb.alloc hB _).grown hgrow (by simp; omega) (fun j e => (hown.lt j e).1)

/-- A slice of bytes that the call has made, as a string. -/
theorem conv_own {w : World} {B n : Nat} {v : Value} {l : List Nat} (h : w.ownsRow B 5 1 v n (lits l)) (hn : n = l.length) (hl : ∀ x ∈ l, x < 256) : (convert 41 9 v).run Tryd.prog w = .ok (.string ⟨(bl l).toArray⟩) w := by
  subst hn
  rcases Joins.ownsRow_forms h with ⟨rfl, h0⟩ | ⟨g, cap, rfl⟩
  · have hl : l = [] := List.eq_nil_of_length_eq_zero h0
    subst hl
    rw [run_convert_bytes_string w 41 9 5 none 0 0 Tryd.underlying41 Tryd.underlying5 Tryd.underlying9]
    rfl
  · have hc := run_convert_bytes_back (P := Tryd.prog) w 41 9 5 ⟨g, 0, none⟩ cap (bl l) Tryd.underlying41 Tryd.underlying5 Tryd.underlying9 (fun j hj => h.cells rfl j _ (by
      rw [bl_length] at hj
      have e2 := hl _ (List.getElem_mem hj)
      unfold lits
      rw [List.getElem?_map, List.getElem?_eq_getElem hj]
      simp [bl]
      omega))
    rw [bl_length] at hc
    exact hc

set_option maxRecDepth 100000 in
set_option maxHeartbeats 4000000 in
theorem rlist_any (p : Nat → Bool) (w : World) : Calls Tryd.prog 16 #[cs p] w fun e w' => e = .returned (.string ⟨(bl (el p 256)).toArray⟩) ∧ Below w.heap.size w w' := by
  have HA := Lib.hid (At.new w p)
  have HB : Hid (Below w.heap.size w (w.alloc (.cells (cl p) 26))) := (Below.refl _ _).alloc (Nat.le_refl _) _
  obtain ⟨R, hR⟩ : ∃ R, R = bl (el p 256) := ⟨_, rfl⟩
  rw [← hR]
  have HR := Lib.hid hR
  clear hR
  unfold cs cl at *
  go_enter Tryd.func16, Tryd.ntmps16
  go_wp2
  go_loopw [3, 4] (fun o i wr => ∃ (k n : Nat) (v : Value), v = o ∧ k ≤ 256 ∧ i = .int .i64 k ∧ n ≤ k ∧ Hid (n = (el p k).length) ∧ Hid (wr.ownsRow (w.heap.size + 1) 5 1 v n (lits (el p k))) ∧ Hid (Below w.heap.size w wr ∧ At wr w.heap.size p)) (fun _ i _ => 256 - (intOf i).toNat)
  case atStart => exact ⟨0, 0, _, rfl, Nat.zero_le _, rfl, Nat.le_refl _, rfl, World.ownsRow_nil _ _ _ _, HB.out, HA.out⟩
  case round =>
    obtain ⟨k, n, v, rfl, hk, rfl, hnk, HN, HO, HX⟩ := hrel
    by_cases hlt : k < 256
    · have hi : (k : Int) < 256 := by omega
      have hw : IntKind.u8.wrap (k : Int) = (k : Int) := IntWalk.u8_in _ (by omega)
      have H1 := Lib.hid (rhas_any p k hlt)
      have HS := Lib.hid (el_succ p k)
      have HL := Lib.hid (el_length_le p k)
      unfold cs cl at H1
      obtain ⟨⟨c0, c1⟩, ⟨c2, c3⟩, hf⟩ := HX.out.2.words
      by_cases hp : p k = true
      · go_wp2_with (first
          | (go_at_call 14
             refine (H1.out _).mono ?_
             rintro e w1 ⟨rfl, hb⟩
             have HO1 := Lib.hid (own_below HO.out hb)
             have HX1 := Lib.hid (And.intro (HX.out.1.trans (hb.mono HX.out.1.size)) (HX.out.2.below hb HX.out.2.lt))
             clear hb)
          | (at_builtin; refine app_lit 41 5 (.int .u8 0) 1 Tryd.underlying41 infoB rfl w1 rfl _ _ rfl (w.heap.size + 1) v _ _ _ _ rfl rfl HO1.out rfl rfl ?c1 ?c0 ?c2 ?c3 ?_))
        case c1 => simp [Value.oneCell']
        case c0 => have := HX1.out.1.size; have := HX1.out.2.lt; omega
        case c2 => unfold maxLen; omega
        case c3 => omega
        intro v' w' hown' hb'
        have HW := Lib.hid hown'
        have HB1 := Lib.hid (hb' w1 (Below.refl _ _))
        clear hown' hb'
        go_wp2
        go_roundw
        case rel =>
          have e : el p (k + 1) = el p k ++ [k] := by rw [HS.out, if_pos hp]
          refine ⟨k + 1, n + 1, _, rfl, by omega, by go_num, by omega, ?_, ?_, ?_⟩
          · show _ = _
            rw [e, List.length_append, ← HN.out]
            rfl
          · show World.ownsRow _ _ _ _ _ _ _
            rw [e, lits_app]
            exact HW.out
          · exact ⟨HX1.out.1.trans (HB1.out.mono (by omega)), (HB1.out.block w.heap.size (by omega)).trans HX1.out.2⟩
        case measure => simp [intOf]; omega
      · simp only [Bool.not_eq_true] at hp
        go_wp2_with (first
          | (go_at_call 14
             refine (H1.out _).mono ?_
             rintro e w1 ⟨rfl, hb⟩
             have HO1 := Lib.hid (own_below HO.out hb)
             have HX1 := Lib.hid (And.intro (HX.out.1.trans (hb.mono HX.out.1.size)) (HX.out.2.below hb HX.out.2.lt))
             clear hb))
        go_roundw
        case rel =>
          have e : el p (k + 1) = el p k := by rw [HS.out, hp]; simp
          refine ⟨k + 1, n, _, rfl, by omega, by go_num, by omega, ?_, ?_, HX1.out⟩
          · show _ = _
            rw [e]
            exact HN.out
          · show World.ownsRow _ _ _ _ _ _ _
            rw [e]
            exact HO1.out
        case measure => simp [intOf]; omega
    · obtain rfl : k = 256 := by omega
      have hcv := conv_own HO.out HN.out (fun x hx => el_lt p 256 x hx)
      rw [← HR.out] at hcv
      go_wp2
      go_ret
      exact ⟨rfl, HX.out.1⟩

set_option maxHeartbeats 1000000 in
theorem rcount_any (p : Nat → Bool) (w : World) : Calls Tryd.prog 18 #[cs p] w fun e w' => e = .returned (.int .i64 ((el p 256).length : Nat)) ∧ Below w.heap.size w w' := by
  have HB : Hid (Below w.heap.size w (w.alloc (.cells (cl p) 26))) := (Below.refl _ _).alloc (Nat.le_refl _) _
  have HL := Lib.hid (rlist_any p)
  obtain ⟨S, hS⟩ : ∃ S : ByteArray, S = ⟨(bl (el p 256)).toArray⟩ := ⟨_, rfl⟩
  have HZ : Hid (S.size = (el p 256).length) := by
    rw [hS]
    show (bl (el p 256)).toArray.size = _
    rw [List.size_toArray, bl_length]
  rw [← hS] at HL
  rw [← HZ.out]
  clear hS
  unfold cs cl at *
  go_enter Tryd.func18, Tryd.ntmps18
  go_wp2_with (first
    | (go_at_call 16
       refine (HL.out _).mono ?_
       rintro e w1 ⟨rfl, hb⟩
       have HB1 := Lib.hid (HB.out.trans (hb.mono HB.out.size))
       clear hb))
  go_ret
  exact ⟨rfl, HB1.out⟩
end Go.Proofs.YtaodginhdfjpaaaDoor
