/- RpTxA. -/
import Derived.Test.YtbjobbkipmkndaaDoorPp22
import Derived.Deep.AppendLies
import Derived.Deep.RegionLaw
import Derived.Deep.RegionHeld3
import Derived.StillTailTactics
set_option linter.unusedVariables false
set_option linter.unusedSimpArgs false
set_option maxRecDepth 100000
set_option maxHeartbeats 8000000
namespace Go.Proofs.YtbjobbkipmkndaaDoor
open Go.RowKit
def byC (l : List UInt8) : List Value := l.map fun c => .int .u8 (c.toNat : Int)
theorem byC_app (l r : List UInt8) : byC (l ++ r) = byC l ++ byC r := by unfold byC; rw [List.map_append]
theorem infoB8 : (Tryd.prog.info? 5).map (fun i => (i.zero, i.size, i.bytes)) = some (some (.int .u8 0), 1, 1) := by kernel_rfl
def OB (B : Nat) (w : World) (v : Value) (xs : List UInt8) : Prop := w.ownsRow B 5 1 v xs.length (byC xs)
theorem OB.below {B : Nat} {w w' : World} {v : Value} {xs : List UInt8} (h : OB B w v xs) (hb : Below w.heap.size w w') : OB B w' v xs := own_below h hb
theorem OB.drew {B : Nat} {w : World} {v : Value} {xs : List UInt8} (h : OB B w v xs) : OB B w.drew v xs := h.below (Below.refl _ _).drew
theorem OB.nil (B : Nat) (w : World) : OB B w (.slice none 0 0) [] := World.ownsRow_nil _ _ _ _
theorem OB.form {B : Nat} {w : World} {v : Value} {xs : List UInt8} (h : OB B w v xs) : ∃ a c, v = .slice a xs.length c := own_sl h
theorem OB.lt {B : Nat} {w : World} {v : Value} {xs : List UInt8} (h : OB B w v xs) (g : Nat) (e : v.ownBlock = some g) : B ≤ g ∧ g < w.heap.size := own_at h g e
structure GB (w w' : World) (v v' : Value) : Prop where
  g : w.grownBy w' v.ownBlock
  at_ : ∀ k, v'.ownBlock = some k → v.ownBlock = some k ∨ w.heap.size ≤ k
theorem GB.of {w w' : World} (v : Value) (h : Below w.heap.size w w') : GB w w' v v := ⟨⟨h.os, h.tape, h.output, h.size, fun k hk _ => h.block k hk⟩, fun k e => .inl e⟩
theorem GB.size {w w' : World} {v v' : Value} (h : GB w w' v v') : w.heap.size ≤ w'.heap.size := h.g.size
theorem GB.trans {w w1 w2 : World} {v v1 v2 : Value} (h : GB w w1 v v1) (k : GB w1 w2 v1 v2) : GB w w2 v v2 := by
  have s1 := h.g.size
  refine ⟨⟨k.g.os.trans h.g.os, k.g.tape.trans h.g.tape, k.g.output.trans h.g.output, Nat.le_trans s1 k.g.size, fun b hb hn => (k.g.block b (by omega) (fun e => ?_)).trans (h.g.block b hb hn)⟩, fun b e => ?_⟩
  · rcases h.at_ b e.symm with h2 | h2
    · exact hn h2.symm
    · omega
  · rcases k.at_ b e with h2 | h2
    · exact h.at_ b h2
    · exact .inr (by omega)
theorem GB.next {w w1 w2 : World} {v v1 : Value} (h : GB w w1 v v1) (k : Below w1.heap.size w1 w2) : GB w w2 v v1 := h.trans (GB.of v1 k)
theorem GB.below {w w' : World} {v v' : Value} (h : GB w w' v v') {B : Nat} {xs : List UInt8} (ho : OB B w v xs) (hB : B ≤ w.heap.size) : Below B w w' := (Below.refl _ _).grown h.g hB (fun j e => (World.ownsRow.lt ho j e).1)
theorem GB.keep {w w' : World} {v v' : Value} (h : GB w w' v v') {k : Nat} (hk : k < w.heap.size) (hn : v.ownBlock ≠ some k) : w'.heap[k]? = w.heap[k]? := h.g.block k hk (fun e => hn e.symm)
theorem run_app_str (B : Nat) (w : World) (v : Value) (xs : List UInt8) (s : ByteArray) (ty : TypeId) (h : OB B w v xs) (hs : xs.length + s.size ≤ 1000000000) (hB : B ≤ w.heap.size) :
    ∃ v' w', (Builtin.append_ #[54, 9] ty #[v, .string s]).run Tryd.prog w = .ok v' w' ∧ OB B w' v' (xs ++ s.data.toList) ∧ GB w w' v v' := by
  obtain ⟨i0, hi, hz0, hz1, hz2⟩ := info_parts infoB8
  obtain ⟨v', w', h1, h2, h3, h4⟩ := Lib.run_append_own_string (P := Tryd.prog) w B 54 9 ty 5 i0 Tryd.underlying54 Tryd.underlying9 hi hz0 hz1 hz2 v xs.length (byC xs) h s (by unfold maxLen; omega) (by omega) hB
  refine ⟨v', w', h1, ?_, h3, ?_⟩
  · unfold OB
    rw [List.length_append, byC_app]
    exact h2
  · rcases h.2 with ⟨rfl, h0⟩ | ⟨g, cap, cur, rfl, hbg, hg, hnc, hcm, hcs, htake⟩
    · by_cases hz : s.size = 0
      · intro k e
        rw [h4.2 ⟨rfl, hz⟩] at e
        cases e
      · have hr := run_append_nil_string (P := Tryd.prog) w 54 9 ty 5 i0 (.int .u8 0) Tryd.underlying54 Tryd.underlying9 hi hz0 s (by omega) (by omega) (by rw [hz2]; omega)
        rw [hr] at h1
        injection h1 with e1 e2
        intro k e
        rw [← e1] at e
        cases e
        exact .inr (Nat.le_refl _)
    · by_cases hroom : xs.length + s.size ≤ cap
      · have hr := Lib.run_append_room_string (P := Tryd.prog) w 54 9 ty 5 i0 Tryd.underlying54 Tryd.underlying9 hi hz1 g xs.length cap cur hg s hroom (by omega)
        rw [hr] at h1
        injection h1 with e1 e2
        intro k e
        rw [← e1] at e
        exact .inl e
      · have hr := Lib.run_append_grow_string (P := Tryd.prog) w 54 9 ty 5 i0 (.int .u8 0) Tryd.underlying54 Tryd.underlying9 hi hz0 ⟨g, 0, none⟩ xs.length cap (byC xs) (by rw [hz1]; simpa using h.1) (World.ownsRow.cells h (g := g) rfl) s (by omega) (by omega) (by rw [hz2]; exact growslice_fits (by omega) (by omega))
        rw [hr] at h1
        injection h1 with e1 e2
        intro k e
        rw [← e1] at e
        cases e
        exact .inr (Nat.le_refl _)
theorem wp_app_str {o : Oper} {a : Act} {w : World} {K : Act → World → Prop} {Q : Exit → Act → World → Prop} (B : Nat) (v : Value) (xs : List UInt8) (s : ByteArray) (sl x : Operand)
    (ho : o.op = .call { callee := .builtin .append, args := #[sl, x], argTypes := #[54, 9] }) (hs : a.eval sl = v) (hx : a.eval x = .string s) (h : OB B w v xs) (hz : xs.length + s.size ≤ 1000000000) (hB : B ≤ w.heap.size)
    (hK : ∀ v' w', OB B w' v' (xs ++ s.data.toList) → GB w w' v v' → K (a.put o.dst v') w') : o.wp Tryd.prog a w K Q := by
  obtain ⟨v', w', hr, h2, h3⟩ := run_app_str B w v xs s o.type h hz hB
  unfold Oper.wp execOp
  simp only [ho, resolve, invoke, builtin, Sem.run_bind, Sem.run_pure, Result.andThen_ok, List.map_toArray, List.map_cons, List.map_nil, hs, hx, hr]
  exact hK v' w' h2 h3
theorem wpList_app_str {ops : Array Oper} {rest : List Oper} {o : Oper} {a : Act} {w : World} {Q : Exit → Act → World → Prop} (B : Nat) (v : Value) (xs : List UInt8) (s : ByteArray) (hgd : o.guard = none) (sl x : Operand)
    (ho : o.op = .call { callee := .builtin .append, args := #[sl, x], argTypes := #[54, 9] }) (hs : a.eval sl = v) (hx : a.eval x = .string s) (h : OB B w v xs) (hz : xs.length + s.size ≤ 1000000000) (hB : B ≤ w.heap.size)
    (hK : ∀ v' w', OB B w' v' (xs ++ s.data.toList) → GB w w' v v' → wpList Tryd.prog ops Q rest (a.put o.dst v') w') : wpList Tryd.prog ops Q (o :: rest) a w :=
  wpList_plain hgd fun _ hK2 => wp_app_str B v xs s sl x ho hs hx h hz hB fun v' w' h1 h2 => hK2 _ _ (hK v' w' h1 h2)
theorem step_app_str {ops : Array Oper} {o : Oper} {a : Act} {w : World} {K : Act → World → Prop} {Q : Exit → Act → World → Prop} {E : Prop} (hgd : o.guard = none) (B : Nat) (v : Value) (xs : List UInt8) (s : ByteArray) (sl x : Operand)
    (ho : o.op = .call { callee := .builtin .append, args := #[sl, x], argTypes := #[54, 9] }) (hs : a.eval sl = v) (hx : a.eval x = .string s) (h : OB B w v xs) (hz : xs.length + s.size ≤ 1000000000) (hB : B ≤ w.heap.size)
    (hK : ∀ v' w', OB B w' v' (xs ++ s.data.toList) → GB w w' v v' → K (a.put o.dst v') w') : if Region.wanted o (yielded ops a.tmps) = true then Oper.wp Tryd.prog o a w K Q else E := by
  have hw : Region.wanted o (yielded ops a.tmps) = true := by simp [Region.wanted, hgd]
  rw [if_pos hw]
  exact wp_app_str B v xs s sl x ho hs hx h hz hB hK
theorem step_app_one {ops : Array Oper} {o : Oper} {a : Act} {W : World} {K : Act → World → Prop} {Q : Exit → Act → World → Prop} {E : Prop} (hgd : o.guard = none) (B : Nat) (v : Value) (xs : List UInt8) (c : UInt8) (z : Int) (hc : z = (c.toNat : Int)) (s x : Operand) (w : World)
    (ho : o.op = .call { callee := .builtin .append, args := #[s, x], argTypes := #[54, 54] }) (hW : W = w.alloc (.cells #[.int .u8 z] 5)) (hs : a.eval s = v) (hx : a.eval x = .slice (some ⟨w.heap.size, 0, none⟩) 1 1) (h : OB B w v xs) (hz : xs.length + 1 ≤ 1000000000) (hB : B ≤ w.heap.size)
    (hK : ∀ v' w', OB B w' v' (xs ++ [c]) → GB w w' v v' → K (a.put o.dst v') w') : if Region.wanted o (yielded ops a.tmps) = true then Oper.wp Tryd.prog o a W K Q else E := by
  subst hW
  subst hc
  obtain ⟨i0, hi, hz0, hz1, hz2⟩ := info_parts infoB8
  refine step_append_lies _ hgd s x 54 ho B 5 i0 _ 1 1 Tryd.underlying54 hi hz0 hz1 hz2 rfl (by omega) v xs.length (byC xs) hs (h.below ((Below.refl _ _).alloc (Nat.le_refl _) _)) ⟨w.heap.size, 0, none⟩ 1 1 [.int .u8 (c.toNat : Int)] hx (by rfl) (World.news_of_block (cs := #[.int .u8 (c.toNat : Int)]) (t := 5) (fr := (0, 0)) (heap_alloc_new w _)) (by simp [Value.oneCell']) (by omega) (by unfold maxLen; omega) (by omega) (by simp; omega) (w.heap.size + 1) (by simp) ?_
  intro g cap w' ho' hg hat hlt
  refine hK _ w' ?_ ⟨⟨hg.os, hg.tape, hg.output, by have := hg.size; simp at this; omega, fun k hk hn => (hg.block k (by simp; omega) hn).trans (Below.heap_alloc w _ k hk)⟩, fun k e => ?_⟩
  · unfold OB
    rw [List.length_append, byC_app]
    exact ho'
  · cases e
    rcases hat with hat | hat
    · exact .inl hat
    · exact .inr (show w.heap.size ≤ g by omega)
theorem wpList_app_one {ops : Array Oper} {rest : List Oper} {o : Oper} {a : Act} {W : World} {Q : Exit → Act → World → Prop} (B : Nat) (v : Value) (xs : List UInt8) (c : UInt8) (z : Int) (hc : z = (c.toNat : Int)) (hgd : o.guard = none) (s x : Operand) (w : World)
    (ho : o.op = .call { callee := .builtin .append, args := #[s, x], argTypes := #[54, 54] }) (hW : W = w.alloc (.cells #[.int .u8 z] 5)) (hs : a.eval s = v) (hx : a.eval x = .slice (some ⟨w.heap.size, 0, none⟩) 1 1) (h : OB B w v xs) (hz : xs.length + 1 ≤ 1000000000) (hB : B ≤ w.heap.size)
    (hK : ∀ v' w', OB B w' v' (xs ++ [c]) → GB w w' v v' → wpList Tryd.prog ops Q rest (a.put o.dst v') w') : wpList Tryd.prog ops Q (o :: rest) a W :=
  wpList_plain hgd fun K2 hK2 => by
    have := step_app_one (ops := ops) (o := o) (a := a) (W := W) (K := K2) (Q := Q) (E := False) hgd B v xs c z hc s x w ho hW hs hx h hz hB (fun v' w' h1 h2 => hK2 _ _ (hK v' w' h1 h2))
    have hw : Region.wanted o (yielded ops a.tmps) = true := by simp [Region.wanted, hgd]
    rw [if_pos hw] at this
    exact this
theorem step_app_blk {ops : Array Oper} {o : Oper} {a : Act} {W : World} {K : Act → World → Prop} {Q : Exit → Act → World → Prop} {E : Prop} (hgd : o.guard = none) (B : Nat) (v : Value) (xs : List UInt8) (c : UInt8) (z : Int) (hc : z = (c.toNat : Int)) (s x : Operand) (g0 : Nat)
    (ho : o.op = .call { callee := .builtin .append, args := #[s, x], argTypes := #[54, 54] }) (hs : a.eval s = v) (hx : a.eval x = .slice (some ⟨g0, 0, none⟩) 1 1) (hW : W.heap[g0]? = some (.cells #[.int .u8 z] 5 (0, 0))) (h : OB B W v xs) (hz : xs.length + 1 ≤ 1000000000) (hB : B ≤ W.heap.size)
    (hK : ∀ v' w', OB B w' v' (xs ++ [c]) → GB W w' v v' → K (a.put o.dst v') w') : if Region.wanted o (yielded ops a.tmps) = true then Oper.wp Tryd.prog o a W K Q else E := by
  subst hc
  obtain ⟨i0, hi, hz0, hz1, hz2⟩ := info_parts infoB8
  refine step_append_lies _ hgd s x 54 ho B 5 i0 _ 1 1 Tryd.underlying54 hi hz0 hz1 hz2 rfl (by omega) v xs.length (byC xs) hs h ⟨g0, 0, none⟩ 1 1 [.int .u8 (c.toNat : Int)] hx (by rfl) (World.news_of_block (cs := #[.int .u8 (c.toNat : Int)]) (t := 5) (fr := (0, 0)) hW) (by simp [Value.oneCell']) (by omega) (by unfold maxLen; omega) (by omega) hB W.heap.size rfl ?_
  intro g cap w' ho' hg hat hlt
  refine hK _ w' ?_ ⟨hg, fun k e => ?_⟩
  · unfold OB
    rw [List.length_append, byC_app]
    exact ho'
  · cases e
    rcases hat with hat | hat
    · exact .inl hat
    · exact .inr (show W.heap.size ≤ g by omega)
theorem appnum_any (c : UInt8) (z : Int) (hc : z = (c.toNat : Int)) (n : Int) (hn : fits n) (B : Nat) (w : World) (v : Value) (xs : List UInt8) (h : OB B w v xs) (hz : xs.length ≤ 900000000) (hB : B ≤ w.heap.size) :
    Calls Tryd.prog 33 #[v, .int .u8 z, .int .i64 n] w fun e w' => ∃ v', e = .returned v' ∧ OB B w' v' (xs ++ (c :: nt n)) ∧ GB w w' v v' := by
  subst hc
  have HF := Lib.hid (fun W => fmt_any n W hn)
  have hsz : (fmtS n).size ≤ 40 := nt_len n hn.1 hn.2
  have hnt : (fmtS n).data.toList = nt n := rfl
  generalize fmtS n = s at *
  have HO := Lib.hid h
  obtain ⟨ad, cap, rfl⟩ := h.form
  have HN := Lib.hid hnt
  clear h hnt
  go_enter Tryd.func33, Tryd.ntmps33
  go_wp2_with (first
    | (go_at_call 23; (with_reducible refine (HF.out _).mono ?_); rintro e w2 ⟨rfl, hb2⟩; have HO2 := Lib.hid (HO1.out.below hb2); have HG2 := Lib.hid (HG1.out.next hb2); have hB2 : B ≤ w2.heap.size := Nat.le_trans hB HG2.out.size; clear hb2)
    | (at_builtin; refine wpList_app_one B _ xs c _ rfl rfl _ _ w rfl rfl rfl rfl HO.out (by omega) hB ?_; intro v1 w1 ho1 hg1; have HO1 := Lib.hid ho1; have HG1 := Lib.hid hg1; have HL1 : Hid ((xs ++ [c]).length ≤ 900000001) := Lib.hid (by simp; omega); clear ho1 hg1)
    | (at_builtin; refine wpList_app_str B _ (xs ++ [c]) s rfl _ _ rfl rfl rfl HO2.out (by have := HL1.out; omega) hB2 ?_; intro v3 w3 ho3 hg3; have HO3 := Lib.hid ho3; have HG3 := Lib.hid (HG2.out.trans hg3); clear ho3 hg3))
  go_ret
  refine ⟨_, rfl, ?_, HG3.out⟩
  have := HO3.out
  rw [HN.out, List.append_assoc] at this
  exact this
end Go.Proofs.YtbjobbkipmkndaaDoor
