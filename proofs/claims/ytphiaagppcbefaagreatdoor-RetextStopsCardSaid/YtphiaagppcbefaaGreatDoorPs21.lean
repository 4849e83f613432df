/- RxM. -/
import Derived.Test.YtphiaagppcbefaaGreatDoorPs20
import Derived.StillTailTactics
import Derived.Deep.CutRange
import Derived.Deep.Cut
import Derived.Deep.DeepCutAuto
set_option linter.unusedVariables false
namespace Go.Proofs.YtphiaagppcbefaaGreatDoor
open Go.RowKit
theorem infoRe : (Tryz.prog.info? 35).map (fun i => (i.zero, i.size, i.bytes)) = some (some (.agg #[.int .i64 0, .int .u64 0, .int .u64 0, .int .u64 0, .int .u64 0, .int .i64 0, .int .i64 0, .int .i64 0, .slice none 0 0]), 9, 88) := by kernel_rfl
structure Gd (c : CX) (q : PS) : Prop where
  at_ : q.at_ ≤ c.s.size
  st : q.st ≤ q.at_
  gr : q.gr ≤ 9
  opn : q.opn ≤ q.gr
theorem PM.gd {w : World} {B : Nat} {c : CX} {V : LV} {p : PS} (h : PM w B c V p) : Gd c p := ⟨h.at_, h.st, h.gr, h.opn⟩
def JB (w : World) (B : Nat) (c : CX) (V : LV) (X : Nat) (f : F) (q : PS) (xs : List Value) (v : Value) (wr : World) : Prop :=
  wr.ownsRow 0 35 9 v f.len xs ∧ (∀ b, v.ownBlock = some b → w.heap.size + 1 ≤ b) ∧ FV wr (fun b => w.heap.size + 1 ≤ b ∧ v.ownBlock ≠ some b) f xs ∧ Stp w B c V q wr ∧ RAt wr w.heap.size #[.int .i64 0, .int .u64 0, .int .u64 0, .int .u64 0, .int .u64 0, .int .i64 0, .int .i64 0, .int .i64 0, .slice none 0 0] ∧ wr.cell? ⟨X, 0, none⟩ = some (.pointer (some ⟨B, 0, none⟩))
theorem Only.cell {w w' : World} {B X j : Nat} {v : Value} (k : Only B w w') (hX : X ≠ B) (h : w.cell? ⟨X, j, none⟩ = some v) : w'.cell? ⟨X, j, none⟩ = some v := by
  have hl : X < w.heap.size := World.block_lt_of_cell? w _ h
  rw [cell_same (k.block X hl hX), h]
theorem own_lt {w : World} {n : Nat} {v : Value} {xs : List Value} {E : TypeId} (h : w.ownsRow 0 E 9 v n xs) {b : Nat} (hb : v.ownBlock = some b) : b < w.heap.size := (h.lt b hb).2
theorem JB.step {w wr w1 : World} {B : Nat} {c : CX} {V : LV} {X : Nat} {f : F} {q q' : PS} {xs : List Value} {v : Value} (h : JB w B c V X f q xs v wr) (hB : B < w.heap.size) (hX : X ≠ B) (hs : Stp wr B c V q' w1) : JB w B c V X f q' xs v w1 := by
  obtain ⟨h1, h2, h3, h4, h5, h6⟩ := h
  refine ⟨own_same h1 fun b hb hl => hs.2.block b hl (by have := h2 b hb; omega), h2, h3.far ⟨hs.2.size, fun b hb hl => ⟨hb, hs.2.block b hl (by have := hb.1; omega)⟩⟩, h4.trans hs, h5.only hs.2 (by omega), hs.2.cell hX h6⟩
theorem JB.start {w w2 : World} {B : Nat} {c : CX} {V : LV} {X : Nat} {q : PS} {t : TN} {sv : Value} (hs : Stp w B c V q w2) (hR : RAt w2 w.heap.size #[.int .i64 0, .int .u64 0, .int .u64 0, .int .u64 0, .int .u64 0, .int .i64 0, .int .i64 0, .int .i64 0, .slice none 0 0]) (hX : w2.cell? ⟨X, 0, none⟩ = some (.pointer (some ⟨B, 0, none⟩))) (ht : SV w2 (Frm (w.heap.size + 1)) t.args sv) (hsz : w.heap.size + 1 ≤ w2.heap.size) :
    JB w B c V X (F.nil.push t) q (rowV t.op t.st t.lo t.hi t.g sv) (.slice (some ⟨w2.heap.size, 0, none⟩) 1 1) (w2.alloc (.cells (rowV t.op t.st t.lo t.hi t.g sv).toArray 35)) := by
  have hb : Below w2.heap.size w2 (w2.alloc (.cells (rowV t.op t.st t.lo t.hi t.g sv).toArray 35)) := (Below.refl _ _).alloc (Nat.le_refl _) _
  refine ⟨⟨rfl, .inr ⟨w2.heap.size, 1, _, rfl, Nat.zero_le _, heap_alloc_new w2 _, Nat.le_refl _, by unfold maxLen; omega, rfl, rfl⟩⟩, fun b e => ?_, ?_, hs.next hb, hR.below hb, keep_words hb hX⟩
  · have e : w2.heap.size = b := by simpa [Value.ownBlock] using e
    omega
  · have := FV.push (f := .nil) (xs := []) (ht.far (T := fun b => w.heap.size + 1 ≤ b ∧ (Value.slice (some ⟨w2.heap.size, 0, none⟩) 1 1).ownBlock ≠ some b) (w' := w2.alloc (.cells (rowV t.op t.st t.lo t.hi t.g sv).toArray 35)) ⟨hb.size, fun b h1 h2 => ⟨⟨h1, fun e => by
        have e : w2.heap.size = b := by simpa [Value.ownBlock] using e
        omega⟩, hb.block b h2⟩⟩) (show FV _ _ .nil [] from rfl)
    simpa using this
theorem JB.push {w w1 w2 w3 : World} {B : Nat} {c : CX} {V : LV} {X : Nat} {f : F} {q q2 : PS} {xs : List Value} {g cap g2 cap2 : Nat} {t : TN} {sv : Value} (h : JB w B c V X f q xs (.slice (some ⟨g, 0, none⟩) f.len cap) w1) (hB : B < w.heap.size) (hX : X ≠ B) (hXw : X < w.heap.size)
    (hs : Stp w1 B c V q2 w2) (ht : SV w2 (Frm w1.heap.size) t.args sv)
    (ho : w3.ownsRow 0 35 9 (.slice (some ⟨g2, 0, none⟩) (f.len + 1) cap2) (f.len + 1) (xs ++ rowV t.op t.st t.lo t.hi t.g sv)) (hk : Keep (fun b => (Value.slice (some ⟨g, 0, none⟩) f.len cap).ownBlock = some b) w2 w3) (hg : (Value.slice (some ⟨g, 0, none⟩) f.len cap).ownBlock = some g2 ∨ w2.heap.size ≤ g2) :
    JB w B c V X (f.push t) q2 (xs ++ rowV t.op t.st t.lo t.hi t.g sv) (.slice (some ⟨g2, 0, none⟩) (f.push t).len cap2) w3 := by
  have hgl : g < w1.heap.size := own_lt h.1 rfl
  have hgw : w.heap.size + 1 ≤ g := h.2.1 g rfl
  have h2 := h.step hB hX hs
  obtain ⟨a1, a2, a3, a4, a5, a6⟩ := h2
  have hsz : w.heap.size ≤ w2.heap.size := a4.2.size
  have hs1 : w1.heap.size ≤ w2.heap.size := hs.2.size
  have hsame : ∀ b, b < w2.heap.size → b ≠ g → w3.heap[b]? = w2.heap[b]? := fun b hl hn => hk.block b hl (fun e => hn (by
    have e : g = b := by simpa [Value.ownBlock] using e
    exact e.symm))
  have hg2 : g2 = g ∨ w2.heap.size ≤ g2 := by
    rcases hg with hg | hg
    · have e : g = g2 := by simpa [Value.ownBlock] using hg
      exact .inl e.symm
    · exact .inr hg
  have hob : ∀ b, (Value.slice (some ⟨g2, 0, none⟩) (f.push t).len cap2).ownBlock = some b → b = g2 := fun b e => by
    have e : g2 = b := by simpa [Value.ownBlock] using e
    exact e.symm
  have hgs : w.heap.size + 1 ≤ w1.heap.size := by omega
  have hA1 : Afar (Frm w1.heap.size) (fun b => w.heap.size + 1 ≤ b ∧ (Value.slice (some ⟨g2, 0, none⟩) (f.push t).len cap2).ownBlock ≠ some b) w2 w3 := by
    refine ⟨hk.size, fun b h1 h2 => ?_⟩
    have h1 : w1.heap.size ≤ b := h1
    refine ⟨⟨by omega, fun e => ?_⟩, hsame b h2 (by omega)⟩
    have e2 := hob b e
    rcases hg2 with e3 | e3 <;> omega
  have hA2 : Afar (fun b => w.heap.size + 1 ≤ b ∧ (Value.slice (some ⟨g, 0, none⟩) f.len cap).ownBlock ≠ some b) (fun b => w.heap.size + 1 ≤ b ∧ (Value.slice (some ⟨g2, 0, none⟩) (f.push t).len cap2).ownBlock ≠ some b) w2 w3 := by
    refine ⟨hk.size, fun b h1 h2 => ?_⟩
    have hne : b ≠ g := fun e => h1.2 (by rw [e]; rfl)
    refine ⟨⟨h1.1, fun e => ?_⟩, hsame b h2 hne⟩
    have e2 := hob b e
    rcases hg2 with e3 | e3 <;> omega
  have ho2 : w3.ownsRow 0 35 9 (.slice (some ⟨g2, 0, none⟩) (f.push t).len cap2) (f.push t).len (xs ++ rowV t.op t.st t.lo t.hi t.g sv) := by
    rw [F.len_push]
    exact ho
  refine ⟨ho2, fun b e => ?_, FV.push (ht.far hA1) (a3.far hA2), ⟨?_, ?_⟩, a5.same (hsame _ a5.lt (by omega)), ?_⟩
  · have e2 := hob b e
    rcases hg2 with e3 | e3 <;> omega
  · obtain ⟨w0, l1, l2, l3, l4, l5⟩ := a4.1.lk
    refine ⟨a4.1.pa.block (hsame B a4.1.lt (by omega)), ⟨w0, l1, l2, l3, l4, ⟨hk.os.trans l5.os, hk.tape.trans l5.tape, hk.output.trans l5.output, Nat.le_trans l5.size hk.size, fun b hb => (hsame b (Nat.lt_of_lt_of_le hb l5.size) (by omega)).trans (l5.block b hb)⟩⟩, a4.1.sz, a4.1.at_, a4.1.st, a4.1.gr, a4.1.opn⟩
  · exact ⟨hk.os.trans a4.2.os, hk.tape.trans a4.2.tape, hk.output.trans a4.2.output, Nat.le_trans a4.2.size hk.size, fun b hb hn => (hsame b (Nat.lt_of_lt_of_le hb a4.2.size) (by omega)).trans (a4.2.block b hb hn)⟩
  · rw [cell_same (hsame X (by omega) (by omega)), a6]
end Go.Proofs.YtphiaagppcbefaaGreatDoor
