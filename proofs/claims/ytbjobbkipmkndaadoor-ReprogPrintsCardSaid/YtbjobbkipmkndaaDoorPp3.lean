/- RtA, RtOwn, RtW. -/
import Derived.Test.YtbjobbkipmkndaaDoorPp2
import Derived.WalkKit
import Derived.WalkSpells
import Derived.WalkLawsBesides
import Derived.BigGuardPart
import Derived.BigQuiet
import Derived.Lib.Hide
import Derived.Outline
import Derived.Test.YtbjobbkipmkndaaDoorPp1
import Derived.Deep.AppendLies
import Derived.Deep.Cut
import Derived.Deep.CutRange
import Derived.Deep.DeepCutAuto
set_option linter.unusedVariables false
set_option linter.unusedSimpArgs false
set_option maxRecDepth 100000
set_option maxHeartbeats 8000000
namespace Go.Proofs.YtbjobbkipmkndaaDoor
open Go.RowKit
theorem beq_dec (a b : Int) : (a == b) = decide (a = b) := by by_cases h : a = b <;> simp [h]
theorem bnd_any (o l h g : Int) (st : Nat → Bool) (sv : Value) (w : World) : Calls Tryd.prog 56 #[.agg #[.int .i64 o, .int .u64 (wd st 0 64 : Nat), .int .u64 (wd st 64 64 : Nat), .int .u64 (wd st 128 64 : Nat), .int .u64 (wd st 192 64 : Nat), .int .i64 l, .int .i64 h, .int .i64 g, sv]] w fun e w' => e = .returned (.bool (bndT l h)) ∧ Below w.heap.size w w' := by
  go_enter Tryd.func56, Tryd.ntmps56
  go_wp2
  all_goals go_ret
  all_goals refine ⟨?_, (Below.refl _ _).alloc (Nat.le_refl _) _⟩
  all_goals (unfold bndT; congr 2; simp only [decide_eq_true_eq, *]; first | rfl | (simp; omega) | omega | simp_all)
theorem have_any (o : Int) (n : Nat) (w : World) : Calls Tryd.prog 61 #[.int .i64 o, .int .i64 (n : Int)] w fun e w' => e = .returned (.bool (havT o n)) ∧ w' = w := by
  go_enter Tryd.func61, Tryd.ntmps61
  go_wp2
  all_goals go_ret
  all_goals refine ⟨?_, rfl⟩
  all_goals (unfold havT; congr 2; simp_all [beq_dec] <;> omega)
theorem flds_any (o l h g : Int) (st : Nat → Bool) (n : Nat) (ad : Option Addr) (cap : Nat) (w : World) : Calls Tryd.prog 55 #[.agg #[.int .i64 o, .int .u64 (wd st 0 64 : Nat), .int .u64 (wd st 64 64 : Nat), .int .u64 (wd st 128 64 : Nat), .int .u64 (wd st 192 64 : Nat), .int .i64 l, .int .i64 h, .int .i64 g, .slice ad n cap]] w fun e w' => e = .returned (.bool (fldT o st l h g n)) ∧ Below w.heap.size w w' := by
  have HH : Hid (∀ (x : Int) (W : World), x = o → Calls Tryd.prog 61 #[.int .i64 x, .int .i64 (n : Int)] W fun e w' => e = .returned (.bool (havT o n)) ∧ w' = W) := Lib.hid (fun x W hx => by rw [hx]; exact have_any o n W)
  cases hv : havT o n
  all_goals (cases hs : eqc st noSet)
  all_goals (first | have hcmp := cmp_full hs | have hcmp := cmp_none hs)
  all_goals rw [hv] at HH
  all_goals
    (go_enter Tryd.func55, Tryd.ntmps55
     go_wp2_with (first | (go_at_call 61; (with_reducible refine (HH.out _ _ (by first | rfl | (symm; assumption) | assumption)).mono ?_); rintro e w1 ⟨rfl, rfl⟩)))
  all_goals go_ret
  all_goals refine ⟨?_, (Below.refl _ _).alloc (Nat.le_refl _) _⟩
  all_goals (unfold fldT; congr 2; simp_all [beq_dec])
theorem closed_any (g : Int) (B : Nat) (c : List Bool) (sv : Value) (w : World) (hg1 : -9223372036854775808 ≤ g) (hg2 : g ≤ 9223372036854775807) (hc : w.cell? ⟨B, 3, none⟩ = some sv) (ho : w.ownsRow (B + 1) 4 1 sv c.length (c.map fun b => .bool b)) :
    Calls Tryd.prog 57 #[.pointer (some ⟨B, 0, none⟩), .int .i64 g] w fun e w' => e = .returned (.bool (clB c g)) ∧ w' = w := by
  obtain ⟨ad, cap, rfl⟩ : ∃ ad cap, sv = .slice ad c.length cap := by
    rcases ho.2 with ⟨rfl, h0⟩ | ⟨g, cap, cur, rfl, _⟩
    · exact ⟨none, 0, by rw [h0]⟩
    · exact ⟨_, cap, rfl⟩
  by_cases h1 : 1 ≤ g
  case neg =>
    go_enter Tryd.func57, Tryd.ntmps57
    go_wp2
    go_ret
    exact ⟨by unfold clB; rw [show decide (1 ≤ g) = false by rw [decide_eq_false_iff_not]; omega]; rfl, rfl⟩
  by_cases h2 : g ≤ (c.length : Int)
  case neg =>
    go_enter Tryd.func57, Tryd.ntmps57
    go_wp2
    go_ret
    exact ⟨by unfold clB; rw [show decide (g ≤ (c.length : Int)) = false by rw [decide_eq_false_iff_not]; omega]; simp, rfl⟩
  obtain ⟨k, rfl⟩ : ∃ k : Nat, g = (k : Int) + 1 := ⟨(g - 1).toNat, by omega⟩
  have hk : k < c.length := by omega
  have hcell : ∃ b, ad = some ⟨b, 0, none⟩ ∧ w.cell? ⟨b, k, none⟩ = some (.bool (c.getD k false)) := by
    rcases ho.2 with ⟨_, h0⟩ | ⟨b, cap', cur, e, _⟩
    · omega
    · cases e
      refine ⟨b, rfl, ?_⟩
      have := ho.cells (g := b) rfl k (.bool (c.getD k false)) (by rw [List.getElem?_map, List.getElem?_eq_getElem hk]; simp [List.getD, List.getElem?_eq_getElem hk])
      rwa [add_at] at this
  obtain ⟨b, rfl, hcb⟩ := hcell
  have e1 : clB c ((k : Int) + 1) = c.getD k false := by
    unfold clB
    have e : ((k : Int) + 1 - 1).toNat = k := by omega
    rw [e]
    simp [h1, h2]
  rw [e1]
  have hk2 : (k : Int) < c.length := by omega
  have hk0 : (0 : Int) ≤ k := by omega
  clear ho e1
  generalize c.getD k false = x at hcb ⊢
  go_enter Tryd.func57, Tryd.ntmps57
  go_wp2
  go_ret
  exact ⟨rfl, rfl⟩
end Go.Proofs.YtbjobbkipmkndaaDoor
set_option linter.unusedVariables false
namespace Go.Proofs.YtbjobbkipmkndaaDoor
open Go.RowKit
structure Keep (S : Nat → Prop) (w w' : World) : Prop where
  os : w'.os = w.os
  tape : w'.tape = w.tape
  output : w'.output = w.output
  size : w.heap.size ≤ w'.heap.size
  block : ∀ k, k < w.heap.size → ¬ S k → w'.heap[k]? = w.heap[k]?
theorem Keep.refl (S : Nat → Prop) (w : World) : Keep S w w := ⟨rfl, rfl, rfl, Nat.le_refl _, fun _ _ _ => rfl⟩
theorem Keep.of_below {S : Nat → Prop} {w w' : World} (h : Below w.heap.size w w') : Keep S w w' := ⟨h.os, h.tape, h.output, h.size, fun k hk _ => h.block k hk⟩
theorem Keep.trans {S : Nat → Prop} {a b c : World} (h : Keep S a b) {S2 : Nat → Prop} (k : Keep S2 b c) (hS : ∀ g, g < a.heap.size → S2 g → S g) : Keep S a c :=
  ⟨k.os.trans h.os, k.tape.trans h.tape, k.output.trans h.output, Nat.le_trans h.size k.size, fun g hg hn => (k.block g (Nat.lt_of_lt_of_le hg h.size) (fun e => hn (hS g hg e))).trans (h.block g hg hn)⟩
theorem Keep.below {S : Nat → Prop} {w w' : World} {B : Nat} (h : Keep S w w') (hB : B ≤ w.heap.size) (hS : ∀ g, S g → B ≤ g) : Below B w w' :=
  ⟨h.os, h.tape, h.output, h.size, fun k hk => h.block k (by omega) (fun e => by have := hS k e; omega)⟩
theorem Keep.mono {S T : Nat → Prop} {w w' : World} (h : Keep S w w') (hST : ∀ g, S g → T g) : Keep T w w' := ⟨h.os, h.tape, h.output, h.size, fun k hk hn => h.block k hk (fun e => hn (hST k e))⟩
theorem Keep.next {S : Nat → Prop} {a b c : World} (h : Keep S a b) (k : Below b.heap.size b c) : Keep S a c := h.trans (Keep.of_below (S := fun _ => False) k) (fun _ _ e => e.elim)
theorem Keep.drew {S : Nat → Prop} {a w : World} (h : Keep S a w) : Keep S a w.drew := ⟨h.os, h.tape, h.output, h.size, h.block⟩
theorem Keep.alloc {S : Nat → Prop} {a w : World} (h : Keep S a w) (o : Obj) : Keep S a (w.alloc o) := h.next ((Below.refl _ _).alloc (Nat.le_refl _) _)
theorem Keep.put {S : Nat → Prop} {a w : World} (h : Keep S a w) (g j : Nat) (hg : S g ∨ a.heap.size ≤ g) (v : Value) : Keep S a (w.setCell ⟨g, j, none⟩ v) :=
  ⟨h.os, h.tape, h.output, by simpa [World.setCell] using h.size, fun k hk hn => (Below.heap_setCell w ⟨g, j, none⟩ v k (fun e => by
    have e2 : k = g := e
    subst e2
    rcases hg with hg | hg
    · exact hn hg
    · omega)).trans (h.block k hk hn)⟩
theorem Keep.grown {S : Nat → Prop} {a w w' : World} {row : Option Nat} (h : Keep S a w) (hg : w.grownBy w' row) (hr : ∀ k, row = some k → k < a.heap.size → S k) : Keep S a w' :=
  ⟨hg.os.trans h.os, hg.tape.trans h.tape, hg.output.trans h.output, Nat.le_trans h.size hg.size, fun k hk hn => (hg.block k (Nat.lt_of_lt_of_le hk h.size) (fun e => hn (hr k e.symm hk))).trans (h.block k hk hn)⟩
theorem new_cells (w : World) (cs : List Value) (t : TypeId) (j : Nat) (u : Value) (h : cs[j]? = some u) : (w.alloc (.cells cs.toArray t)).cell? ((⟨w.heap.size, 0, none⟩ : Addr).add j) = some u := by
  have e : (⟨w.heap.size, 0, none⟩ : Addr).add j = ⟨w.heap.size, j, none⟩ := by unfold Addr.add; split <;> simp_all
  rw [e, cell_of_row _ w.heap.size j cs.toArray t (0, 0) (heap_alloc_new w _)]
  simpa using h
theorem app1 (B : Nat) (T E : TypeId) (z : Value) (k bytes : Nat) (ht : Tryd.prog.underlying T = some (.slice E)) (hif : (Tryd.prog.info? E).map (fun i => (i.zero, i.size, i.bytes)) = some (some z, k, bytes)) (hz : z.cells.size = k) (hk : 0 < k)
    {W : World} {ops : Array Oper} {rest : List Oper} {o : Oper} {a : Act} {Q : Exit → Act → World → Prop} (w : World) (hgd : o.guard = none) (s x : Operand)
    (ho : o.op = .call { callee := .builtin .append, args := #[s, x], argTypes := #[T, T] })
    (hB : B ≤ w.heap.size) (v : Value) (n : Nat) (xs vs : List Value) (hW : W = w.alloc (.cells vs.toArray E)) (hs : a.eval s = v) (hown : w.ownsRow B E k v n xs) (g0 : Nat) (hg0 : w.heap.size = g0) (hx : a.eval x = .slice (some ⟨g0, 0, none⟩) 1 1) (hl : vs.length = k) (h1 : ∀ u ∈ vs, u.oneCell' = true)
    (h63 : n + 1 ≤ maxLen) (hby : (n + 1) * bytes ≤ 140737488355328)
    (h : ∀ g cap w', w'.ownsRow B E k (.slice (some ⟨g, 0, none⟩) (n + 1) cap) (n + 1) (xs ++ vs) → Keep (fun b => v.ownBlock = some b) w w' → (v.ownBlock = some g ∨ w.heap.size ≤ g) → wpList Tryd.prog ops Q rest (a.put o.dst (.slice (some ⟨g, 0, none⟩) (n + 1) cap)) w') :
    wpList Tryd.prog ops Q (o :: rest) a W := by
  subst hg0
  subst hW
  obtain ⟨i0, hi, hz0, hz1, hz2⟩ := info_parts hif
  refine wpList_append_lies _ hgd s x T ho B E i0 z k bytes ht hi hz0 hz1 hz2 hz hk v n xs hs (hown.alloc _) ⟨w.heap.size, 0, none⟩ 1 1 vs hx (by omega) (fun j u hu => new_cells w vs E j u hu) h1 (by decide) h63 hby (by simp; omega) _ rfl ?_
  intro g cap w' hown' hgrow hat hlt
  refine h g cap w' hown' (((Keep.refl _ _).alloc _).grown hgrow (fun j e _ => e)) ?_
  rcases hat with hat | hat
  · exact .inl hat
  · right; rw [hat]; simp
theorem own_below {w w' : World} {B n k : Nat} {t : TypeId} {v : Value} {xs : List Value} (h : w.ownsRow B t k v n xs) (hb : Below w.heap.size w w') : w'.ownsRow B t k v n xs := by
  obtain ⟨h1, h2⟩ := h
  refine ⟨h1, ?_⟩
  rcases h2 with h2 | ⟨g, cap, cur, e, hB, hg, r⟩
  · exact .inl h2
  · exact .inr ⟨g, cap, cur, e, hB, (hb.block g (Array.getElem?_eq_some_iff.1 hg).1).trans hg, r⟩
theorem own_keep {S : Nat → Prop} {w w' : World} {B n k : Nat} {t : TypeId} {v : Value} {xs : List Value} (h : w.ownsRow B t k v n xs) (hb : Keep S w w') (hS : ∀ g, v.ownBlock = some g → ¬ S g) : w'.ownsRow B t k v n xs := by
  obtain ⟨h1, h2⟩ := h
  refine ⟨h1, ?_⟩
  rcases h2 with h2 | ⟨g, cap, cur, e, hB, hg, r⟩
  · exact .inl h2
  · exact .inr ⟨g, cap, cur, e, hB, (hb.block g (Array.getElem?_eq_some_iff.1 hg).1 (hS g (by rw [e]; rfl))).trans hg, r⟩
theorem own_only {w w' : World} {B n k : Nat} {t : TypeId} {v : Value} {xs : List Value} (h : w.ownsRow (B + 1) t k v n xs) (hb : Only B w w') : w'.ownsRow (B + 1) t k v n xs := by
  obtain ⟨h1, h2⟩ := h
  refine ⟨h1, ?_⟩
  rcases h2 with h2 | ⟨g, cap, cur, e, hB, hg, r⟩
  · exact .inl h2
  · exact .inr ⟨g, cap, cur, e, hB, (hb.block g (Array.getElem?_eq_some_iff.1 hg).1 (by omega)).trans hg, r⟩
theorem own_sl {w : World} {B n k : Nat} {t : TypeId} {v : Value} {xs : List Value} (ho : w.ownsRow B t k v n xs) : ∃ ad cap, v = .slice ad n cap := by
  rcases ho.2 with ⟨rfl, h0⟩ | ⟨g, cap, cur, rfl, _⟩
  · exact ⟨none, 0, by rw [h0]⟩
  · exact ⟨_, cap, rfl⟩
theorem own_at {w : World} {B n k : Nat} {t : TypeId} {v : Value} {xs : List Value} (ho : w.ownsRow B t k v n xs) (g : Nat) (hg : v.ownBlock = some g) : B ≤ g ∧ g < w.heap.size := by
  rcases ho.2 with ⟨rfl, h0⟩ | ⟨g', cap, cur, rfl, hB, hh, _⟩
  · cases hg
  · cases hg
    exact ⟨hB, (Array.getElem?_eq_some_iff.1 hh).1⟩
theorem own_more {w : World} {B n k : Nat} {t : TypeId} {v : Value} {xs : List Value} (ho : w.ownsRow B t k v n xs) (hn : 0 < n) : ∃ g cap, v = .slice (some ⟨g, 0, none⟩) n cap := by
  rcases ho.2 with ⟨rfl, h0⟩ | ⟨g, cap, cur, rfl, _⟩
  · omega
  · exact ⟨g, cap, rfl⟩
end Go.Proofs.YtbjobbkipmkndaaDoor
set_option linter.unusedVariables false
set_option linter.unusedSimpArgs false
set_option maxRecDepth 100000
set_option maxHeartbeats 8000000
namespace Go.Proofs.YtbjobbkipmkndaaDoor
open Go.RowKit
def bls (c : List Bool) : List Value := c.map fun b => .bool b
def scells (q : SQ) (sv : Value) : Array Value := #[.int .i64 (q.n : Int), .int .i64 (q.lv : Int), .bool q.bk, sv, .bool q.wt, .bool q.wr, .bool q.wn, .bool q.st]
def SA (w : World) (B : Nat) (q : SQ) (sv : Value) : Prop := w.heap[B]? = some (.cells (scells q sv) 73 (0, 0))
theorem SA.lt {w : World} {B : Nat} {q : SQ} {sv : Value} (h : SA w B q sv) : B < w.heap.size := (Array.getElem?_eq_some_iff.1 h).1
theorem SA.cell {w : World} {B : Nat} {q : SQ} {sv : Value} (h : SA w B q sv) (j : Nat) : w.cell? ⟨B, j, none⟩ = (scells q sv)[j]? := cell_of_row w B j _ _ _ h
theorem SA.free {w : World} {B : Nat} {q : SQ} {sv : Value} (h : SA w B q sv) (j : Nat) : w.frozen? ⟨B, j, none⟩ = false := frozen_of_row w B j _ _ h
theorem SA.below {w w' : World} {B : Nat} {q : SQ} {sv : Value} (h : SA w B q sv) (hb : Below w.heap.size w w') : SA w' B q sv := (hb.block B h.lt).trans h
theorem SA.put {w : World} {B : Nat} {q q' : SQ} {sv sv' : Value} (h : SA w B q sv) (j : Nat) (v : Value) (e : (scells q sv).setIfInBounds j v = scells q' sv') : SA (w.setCell ⟨B, j, none⟩ v) B q' sv' := by
  have := heap_setCell_same w B j _ _ v h
  rw [e] at this
  exact this
theorem SA.all {w : World} {B : Nat} {q : SQ} {sv : Value} (h : SA w B q sv) : ((w.cell? ⟨B, 0, none⟩ = some (.int .i64 (q.n : Int)) ∧ w.cell? ⟨B, 1, none⟩ = some (.int .i64 (q.lv : Int)) ∧ w.cell? ⟨B, 2, none⟩ = some (.bool q.bk) ∧ w.cell? ⟨B, 3, none⟩ = some sv) ∧
    (w.cell? ⟨B, 4, none⟩ = some (.bool q.wt) ∧ w.cell? ⟨B, 5, none⟩ = some (.bool q.wr) ∧ w.cell? ⟨B, 6, none⟩ = some (.bool q.wn) ∧ w.cell? ⟨B, 7, none⟩ = some (.bool q.st))) ∧ ∀ j, w.frozen? ⟨B, j, none⟩ = false :=
  ⟨⟨⟨h.cell 0, h.cell 1, h.cell 2, h.cell 3⟩, h.cell 4, h.cell 5, h.cell 6, h.cell 7⟩, h.free⟩
def SM (w : World) (B : Nat) (q : SQ) : Prop := ∃ sv, SA w B q sv ∧ w.ownsRow (B + 1) 4 1 sv q.cl.length (bls q.cl)
theorem SM.below {w w' : World} {B : Nat} {q : SQ} (h : SM w B q) (hb : Below w.heap.size w w') : SM w' B q := by
  obtain ⟨sv, h1, h2⟩ := h
  exact ⟨sv, h1.below hb, own_below h2 hb⟩
theorem nine {w : World} {P : Nat} {t : TypeId} {a0 a1 a2 a3 a4 a5 a6 a7 a8 : Value} (h : w.heap[P]? = some (.cells #[a0, a1, a2, a3, a4, a5, a6, a7, a8] t (0, 0))) : ((w.cell? ⟨P, 0, none⟩ = some a0 ∧ w.cell? ⟨P, 1, none⟩ = some a1 ∧ w.cell? ⟨P, 2, none⟩ = some a2) ∧ (w.cell? ⟨P, 3, none⟩ = some a3 ∧ w.cell? ⟨P, 4, none⟩ = some a4 ∧ w.cell? ⟨P, 5, none⟩ = some a5)) ∧ (w.cell? ⟨P, 6, none⟩ = some a6 ∧ w.cell? ⟨P, 7, none⟩ = some a7 ∧ w.cell? ⟨P, 8, none⟩ = some a8) :=
  ⟨⟨⟨cell_of_row w P 0 _ _ _ h, cell_of_row w P 1 _ _ _ h, cell_of_row w P 2 _ _ _ h⟩, cell_of_row w P 3 _ _ _ h, cell_of_row w P 4 _ _ _ h, cell_of_row w P 5 _ _ _ h⟩, cell_of_row w P 6 _ _ _ h, cell_of_row w P 7 _ _ _ h, cell_of_row w P 8 _ _ _ h⟩
theorem Below.only {n B : Nat} {a b c : World} (h : Below n a b) (k : Only B b c) (hn : n ≤ B) (hs : n ≤ b.heap.size) : Below n a c :=
  ⟨k.os.trans h.os, k.tape.trans h.tape, k.output.trans h.output, Nat.le_trans h.size k.size, fun j hj => (k.block j (by omega) (by omega)).trans (h.block j hj)⟩
structure WS (w : World) (B : Nat) (q : SQ) (sv : Value) (ec : Array Value) (wx : World) : Prop where
  sa : SA wx B q sv
  own : wx.ownsRow (B + 1) 4 1 sv q.cl.length (bls q.cl)
  e : wx.heap[w.heap.size]? = some (.cells ec 34 (0, 0))
  bel : Below B w wx
  own0 : ∀ g, sv.ownBlock = some g → g ≠ w.heap.size
  hB : B < w.heap.size
theorem WS.lt {w wx : World} {B : Nat} {q : SQ} {sv : Value} {ec : Array Value} (h : WS w B q sv ec wx) : w.heap.size < wx.heap.size := (Array.getElem?_eq_some_iff.1 h.e).1
theorem WS.put {w wx : World} {B : Nat} {q q' : SQ} {sv : Value} {ec : Array Value} (h : WS w B q sv ec wx) (j : Nat) (v : Value) (e : (scells q sv).setIfInBounds j v = scells q' sv) (hc : q'.cl = q.cl) : WS w B q' sv ec (wx.setCell ⟨B, j, none⟩ v) :=
  ⟨h.sa.put j v e, by rw [hc]; exact own_only h.own ((Only.refl B wx).put j v), (Below.heap_setCell wx ⟨B, j, none⟩ v w.heap.size (by have := h.hB; intro e; subst e; omega)).trans h.e, Below.only h.bel ((Only.refl B wx).put j v) (Nat.le_refl _) (by have := h.lt; have := h.hB; omega), h.own0, h.hB⟩
theorem WS.below {w wx w' : World} {B : Nat} {q : SQ} {sv : Value} {ec : Array Value} (h : WS w B q sv ec wx) (hb : Below wx.heap.size wx w') : WS w B q sv ec w' :=
  ⟨h.sa.below hb, own_below h.own hb, (hb.block _ h.lt).trans h.e, h.bel.trans (hb.mono (by have := h.lt; have := h.hB; omega)), h.own0, h.hB⟩
theorem WS.sm {w wx : World} {B : Nat} {q : SQ} {sv : Value} {ec : Array Value} (h : WS w B q sv ec wx) : SM wx B q := ⟨sv, h.sa, h.own⟩
theorem WS.first {w : World} {B : Nat} {q : SQ} {sv : Value} (ec : Array Value) (h : SA w B q sv) (ho : w.ownsRow (B + 1) 4 1 sv q.cl.length (bls q.cl)) (hs : q.st = false) : WS w B q sv ec ((w.setCell ⟨B, 7, none⟩ (.bool false)).alloc (.cells ec 34)) := by
  have h1 : SA (w.setCell ⟨B, 7, none⟩ (.bool false)) B q sv := h.put 7 _ (by unfold scells; rw [hs]; rfl)
  have hz : (w.setCell ⟨B, 7, none⟩ (.bool false)).heap.size = w.heap.size := by simp [World.setCell]
  have hb : Below (w.setCell ⟨B, 7, none⟩ (.bool false)).heap.size (w.setCell ⟨B, 7, none⟩ (.bool false)) ((w.setCell ⟨B, 7, none⟩ (.bool false)).alloc (.cells ec 34)) := (Below.refl _ _).alloc (Nat.le_refl _) _
  refine ⟨h1.below hb, own_below (own_only ho ((Only.refl B w).put 7 _)) hb, ?_, (Below.only (Below.refl B w) ((Only.refl B w).put 7 _) (Nat.le_refl _) (by have := h.lt; omega)).trans (hb.mono (by have := h.lt; omega)), fun g hg => by have := (own_at ho g hg).2; omega, h.lt⟩
  rw [← hz]
  exact heap_alloc_new _ _
theorem infoB : (Tryd.prog.info? 4).map (fun i => (i.zero, i.size, i.bytes)) = some (some (.bool false), 1, 1) := by kernel_rfl
theorem WS.opened {w wx w1 : World} {B g0 cap : Nat} {q q' : SQ} {sv : Value} {ec : Array Value} (h : WS w B q sv ec wx) (ho : w1.ownsRow (B + 1) 4 1 (.slice (some ⟨g0, 0, none⟩) (q.cl.length + 1) cap) (q.cl.length + 1) (bls q.cl ++ [.bool false])) (hk : Keep (fun b => sv.ownBlock = some b) wx w1)
    (e : (scells q sv).setIfInBounds 3 (.slice (some ⟨g0, 0, none⟩) (q.cl.length + 1) cap) = scells q' (.slice (some ⟨g0, 0, none⟩) (q.cl.length + 1) cap)) (hc : q'.cl = q.cl ++ [false]) :
    SM (w1.setCell ⟨B, 3, none⟩ (.slice (some ⟨g0, 0, none⟩) (q.cl.length + 1) cap)) B q' ∧ Below B w (w1.setCell ⟨B, 3, none⟩ (.slice (some ⟨g0, 0, none⟩) (q.cl.length + 1) cap)) ∧ (w1.setCell ⟨B, 3, none⟩ (.slice (some ⟨g0, 0, none⟩) (q.cl.length + 1) cap)).heap[w.heap.size]? = some (.cells ec 34 (0, 0)) := by
  have hlt := h.lt
  have hB := h.hB
  have hsB : ¬ sv.ownBlock = some B := fun e => by have := (own_at h.own B e).1; omega
  have hs1 := hk.size
  have h1 : SA w1 B q sv := (hk.block B (by omega) hsB).trans h.sa
  refine ⟨⟨_, h1.put 3 _ e, ?_⟩, ?_, ?_⟩
  · rw [hc, List.length_append]
    have e2 : bls (q.cl ++ [false]) = bls q.cl ++ [.bool false] := by unfold bls; rw [List.map_append]; rfl
    rw [e2]
    exact own_only ho ((Only.refl B w1).put 3 _)
  · exact Below.only (h.bel.trans (hk.below (by omega) (fun g hg => by have := (own_at h.own g hg).1; omega))) ((Only.refl B w1).put 3 _) (Nat.le_refl _) (by omega)
  · exact (Below.heap_setCell w1 ⟨B, 3, none⟩ _ w.heap.size (by intro e; subst e; omega)).trans ((hk.block _ hlt (fun e => h.own0 _ e rfl)).trans h.e)
theorem SM.close {w : World} {B i : Nat} {q : SQ} {g cap : Nat} (hA : SA w B q (.slice (some ⟨g, 0, none⟩) q.cl.length cap)) (ho : w.ownsRow (B + 1) 4 1 (.slice (some ⟨g, 0, none⟩) q.cl.length cap) q.cl.length (bls q.cl)) :
    SM (w.setCell ⟨g, i, none⟩ (.bool true)) B (closeQ i q) ∧ Below B w (w.setCell ⟨g, i, none⟩ (.bool true)) := by
  have hg := (own_at ho g rfl)
  obtain ⟨h1, h2⟩ := ho.stored i (.bool true)
  refine ⟨⟨.slice (some ⟨g, 0, none⟩) q.cl.length cap, (h2.block B hA.lt (fun e => by cases e; omega)).trans hA, ?_⟩, (Below.refl B w).grown h2 (by have := hA.lt; omega) (fun k e => by cases e; omega)⟩
  have e2 : bls (q.cl.set i true) = (bls q.cl).set i (.bool true) := by unfold bls; rw [List.map_set]
  show World.ownsRow _ _ _ _ _ (q.cl.set i true).length (bls (q.cl.set i true))
  rw [List.length_set, e2]
  exact h1
theorem walk_stop (o l h g : Int) (st : Nat → Bool) (ad : Option Addr) (m cap B lvl : Nat) (w : World) (q : SQ) (hq : SM w B q) (hok : q.Ok) (hl : lvl ≤ 65537) (hs : stopB lvl q = true) :
    Calls Tryd.prog 47 #[.pointer (some ⟨B, 0, none⟩), .agg #[.int .i64 o, .int .u64 (wd st 0 64 : Nat), .int .u64 (wd st 64 64 : Nat), .int .u64 (wd st 128 64 : Nat), .int .u64 (wd st 192 64 : Nat), .int .i64 l, .int .i64 h, .int .i64 g, .slice ad m cap], .int .i64 (lvl : Int)] w fun e w' => e = .returned (.tuple #[]) ∧ SM w' B { q with st := true } ∧ Below B w w' := by
  obtain ⟨sv, hA, hO⟩ := hq
  have hlt := hA.lt
  have HE := Lib.hid (show ∀ x, SM ((w.setCell ⟨B, 7, none⟩ (.bool true)).alloc x) B { q with st := true } ∧ Below B w ((w.setCell ⟨B, 7, none⟩ (.bool true)).alloc x) from fun x => by
    have h1 : SM (w.setCell ⟨B, 7, none⟩ (.bool true)) B { q with st := true } := ⟨sv, hA.put 7 _ rfl, own_only hO ((Only.refl B w).put 7 _)⟩
    have h2 : Below B w (w.setCell ⟨B, 7, none⟩ (.bool true)) := Below.only (Below.refl B w) ((Only.refl B w).put 7 _) (Nat.le_refl _) (by omega)
    have h3 : B ≤ (w.setCell ⟨B, 7, none⟩ (.bool true)).heap.size := by have := h2.size; omega
    exact ⟨h1.below ((Below.refl _ _).alloc (Nat.le_refl _) _), h2.alloc h3 _⟩)
  obtain ⟨n, lv, bk, c, wt, wr, wn, sp⟩ := q
  have hss : sp = true ∨ sp = false ∧ 65536 < lvl ∨ sp = false ∧ lvl ≤ 65536 ∧ n = 2147483647 := by
    unfold stopB at hs
    simp only [Bool.or_eq_true, decide_eq_true_eq] at hs
    cases sp
    · by_cases h2 : 65536 < lvl
      · exact .inr (.inl ⟨rfl, h2⟩)
      · exact .inr (.inr ⟨rfl, by omega, by simpa [h2] using hs⟩)
    · exact .inl rfl
  obtain ⟨⟨⟨c0, c1, c2, c3⟩, c4, c5, c6, c7⟩, ff⟩ := hA.all
  have hne : ¬ w.heap.size = B := by omega
  clear hA hO hok hs
  rcases hss with rfl | ⟨rfl, h2⟩ | ⟨rfl, h2, rfl⟩
  · skip
    go_enter Tryd.func47, Tryd.ntmps47
    go_wp2
    refine bodyPost_ret (results_none rfl _ _ _) rfl ?_
    exact ⟨rfl, HE.out _⟩
  · have h2' : (65536 : Int) < (lvl : Int) := by omega
    go_enter Tryd.func47, Tryd.ntmps47
    go_wp2
    refine bodyPost_ret (results_none rfl _ _ _) rfl ?_
    exact ⟨rfl, HE.out _⟩
  · have h2' : (lvl : Int) ≤ 65536 := by omega
    go_enter Tryd.func47, Tryd.ntmps47
    go_wp2
    refine bodyPost_ret (results_none rfl _ _ _) rfl ?_
    exact ⟨rfl, HE.out _⟩
end Go.Proofs.YtbjobbkipmkndaaDoor
