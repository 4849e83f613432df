/- Lists of values in memory, and the Args of the groups. -/
import Derived.Test.YtpfbpgbgedbalaaRtVal
import Derived.Test.YtpfbpgbgedbalaaRtC
import Derived.StillTailTactics
set_option linter.unusedVariables false
namespace Go.Proofs.Ytpfbpgbgedbalaa
open Go.RowKit

section
variable {T : Type}
/-- A list of values, as a slice of the call's own. -/
def PV (E : TypeId) (k : Nat) (c : T → List Value) (w : World) (n0 : Nat) (xs : List T) (v : Value) : Prop := w.ownsRow n0 E k v xs.length (xs.flatMap c)
theorem own_base {w : World} {B B' n k : Nat} {t : TypeId} {v : Value} {xs : List Value} (h : w.ownsRow B t k v n xs) (hB : B' ≤ B) : w.ownsRow B' t k v n xs := by
  obtain ⟨h1, h2⟩ := h
  refine ⟨h1, ?_⟩
  rcases h2 with h2 | ⟨g, cap, cur, e, hb, r⟩
  · exact .inl h2
  · exact .inr ⟨g, cap, cur, e, by omega, r⟩
theorem PV.nil (E : TypeId) (k : Nat) (c : T → List Value) (w : World) (n0 : Nat) : PV E k c w n0 [] (.slice none 0 0) := ⟨by simp, .inl ⟨rfl, rfl⟩⟩
theorem PV.below {E : TypeId} {k : Nat} {c : T → List Value} {w w' : World} {n0 : Nat} {xs : List T} {v : Value} (h : PV E k c w n0 xs v) (hb : Below w.heap.size w w') : PV E k c w' n0 xs v := own_below h hb
theorem PV.only {E : TypeId} {k : Nat} {c : T → List Value} {w w' : World} {n0 G : Nat} {xs : List T} {v : Value} (h : PV E k c w n0 xs v) (hG : G < n0) (hb : Only G w w') : PV E k c w' n0 xs v := by
  refine own_keep h (S := fun b => b = G) ⟨hb.os, hb.tape, hb.output, hb.size, hb.block⟩ fun g hg e => ?_
  have := (own_at h g hg).1
  omega
/-- Cell i of element j. -/
theorem flat_get {c : T → List Value} {k : Nat} (hc : ∀ x, (c x).length = k) : ∀ (xs : List T) (j : Nat) (hj : j < xs.length) (i : Nat), i < k → (xs.flatMap c)[j * k + i]? = (c xs[j])[i]?
  | [], j, hj, _, _ => by cases hj
  | x :: xs, 0, _, i, hi => by
    rw [List.flatMap_cons, Nat.zero_mul, Nat.zero_add, List.getElem?_append_left (by rw [hc]; exact hi)]
    rfl
  | x :: xs, j + 1, hj, i, hi => by
    have e : (j + 1) * k + i = k + (j * k + i) := by rw [Nat.add_mul]; omega
    rw [List.flatMap_cons, e, List.getElem?_append_right (by rw [hc]; omega), hc, Nat.add_sub_cancel_left]
    exact flat_get hc xs j (by have : j + 1 < xs.length + 1 := hj; omega) i hi
theorem PV.get {E : TypeId} {k : Nat} {c : T → List Value} {w : World} {n0 g n cap : Nat} {xs : List T} (h : PV E k c w n0 xs (.slice (some ⟨g, 0, none⟩) n cap)) (hc : ∀ x, (c x).length = k) (j : Nat) (hj : j < xs.length) (i : Nat) (hi : i < k) : w.cell? ⟨g, j * k + i, none⟩ = (c xs[j])[i]? := by
  have hu : (xs.flatMap c)[j * k + i]? = some ((c xs[j])[i]'(by rw [hc]; exact hi)) := by rw [flat_get hc xs j hj i hi, List.getElem?_eq_getElem]
  have := World.ownsRow.cells (g := g) h rfl (j * k + i) _ hu
  rw [add_at] at this
  rw [this, List.getElem?_eq_getElem (by rw [hc]; exact hi)]
/-- The ten slices of the groups. -/
def gcl (gv : Nat → Value) : Array Value := #[gv 0, gv 1, gv 2, gv 3, gv 4, gv 5, gv 6, gv 7, gv 8, gv 9]
theorem gcl_get (gv : Nat → Value) (k : Nat) (hk : k < 10) : (gcl gv)[k]? = some (gv k) := by
  have : k = 0 ∨ k = 1 ∨ k = 2 ∨ k = 3 ∨ k = 4 ∨ k = 5 ∨ k = 6 ∨ k = 7 ∨ k = 8 ∨ k = 9 := by omega
  rcases this with rfl | rfl | rfl | rfl | rfl | rfl | rfl | rfl | rfl | rfl <;> rfl
def upV (gv : Nat → Value) (k : Nat) (v : Value) : Nat → Value := fun j => if j = k then v else gv j
theorem gcl_set (gv : Nat → Value) (k : Nat) (hk : k < 10) (v : Value) : (gcl gv).setIfInBounds k v = gcl (upV gv k v) := by
  have : k = 0 ∨ k = 1 ∨ k = 2 ∨ k = 3 ∨ k = 4 ∨ k = 5 ∨ k = 6 ∨ k = 7 ∨ k = 8 ∨ k = 9 := by omega
  rcases this with rfl | rfl | rfl | rfl | rfl | rfl | rfl | rfl | rfl | rfl <;> rfl
/-- The groups' Args stand in block G. -/
structure GMv (AT E : TypeId) (k : Nat) (c : T → List Value) (w : World) (G : Nat) (grp : Nat → List T) (gv : Nat → Value) : Prop where
  box : w.heap[G]? = some (.cells (gcl gv) AT (0, 0))
  pv : ∀ j, j < 10 → PV E k c w (G + 1) (grp j) (gv j)
/-- New slices of groups stand in new blocks. -/
def Mov (gv gv' : Nat → Value) (n : Nat) : Prop := ∀ j b, j < 10 → (gv' j).ownBlock = some b → (gv j).ownBlock = some b ∨ n ≤ b
theorem Mov.refl (gv : Nat → Value) (n : Nat) : Mov gv gv n := fun _ _ _ h => .inl h
theorem Mov.trans {a b c : Nat → Value} {n m : Nat} (h : Mov a b n) (k : Mov b c m) (hm : n ≤ m) : Mov a c n := fun j x hj hx => by
  rcases k j x hj hx with k | k
  · exact h j x hj k
  · exact .inr (by omega)
theorem GMv.lt {AT E : TypeId} {k : Nat} {c : T → List Value} {w : World} {G : Nat} {grp : Nat → List T} {gv : Nat → Value} (h : GMv AT E k c w G grp gv) : G < w.heap.size := (Array.getElem?_eq_some_iff.1 h.box).1
theorem GMv.below {AT E : TypeId} {k : Nat} {c : T → List Value} {w w' : World} {G : Nat} {grp : Nat → List T} {gv : Nat → Value} (h : GMv AT E k c w G grp gv) (hb : Below w.heap.size w w') : GMv AT E k c w' G grp gv :=
  ⟨(hb.block G h.lt).trans h.box, fun j hj => (h.pv j hj).below hb⟩
theorem GMv.keep {AT E : TypeId} {k : Nat} {c : T → List Value} {w w' : World} {G : Nat} {grp : Nat → List T} {gv : Nat → Value} {S : Nat → Prop} (h : GMv AT E k c w G grp gv) (hb : Keep S w w') (hG : ¬ S G) (hS : ∀ j g, j < 10 → (gv j).ownBlock = some g → ¬ S g) : GMv AT E k c w' G grp gv :=
  ⟨(hb.block G h.lt hG).trans h.box, fun j hj => own_keep (h.pv j hj) hb (fun g hg => hS j g hj hg)⟩
theorem GMv.cell {AT E : TypeId} {k : Nat} {c : T → List Value} {w : World} {G : Nat} {grp : Nat → List T} {gv : Nat → Value} (h : GMv AT E k c w G grp gv) (j : Nat) (hj : j < 10) : w.cell? ⟨G, j, none⟩ = some (gv j) := (cell_of_row w G j _ _ _ h.box).trans (gcl_get gv j hj)
theorem GMv.free {AT E : TypeId} {k : Nat} {c : T → List Value} {w : World} {G : Nat} {grp : Nat → List T} {gv : Nat → Value} (h : GMv AT E k c w G grp gv) (j : Nat) : w.frozen? ⟨G, j, none⟩ = false := frozen_of_row w G j _ _ h.box
theorem GMv.put {AT E : TypeId} {k : Nat} {c : T → List Value} {w : World} {G : Nat} {grp : Nat → List T} {gv : Nat → Value} (h : GMv AT E k c w G grp gv) (g : Nat) (hg : g < 10) {ps : List T} {v : Value} (hp : PV E k c w (G + 1) ps v) : GMv AT E k c (w.setCell ⟨G, g, none⟩ v) G (upG grp g ps) (upV gv g v) := by
  refine ⟨?_, fun j hj => ?_⟩
  · rw [← gcl_set gv g hg v]
    exact heap_setCell_same w G g _ _ v h.box
  · unfold upG upV
    by_cases e : j = g
    · rw [if_pos e, if_pos e]
      exact hp.only (by omega) ((Only.refl G w).put g v)
    · rw [if_neg e, if_neg e]
      exact (h.pv j hj).only (by omega) ((Only.refl G w).put g v)
theorem GMv.row {AT E : TypeId} {k : Nat} {c : T → List Value} {w : World} {G P : Nat} {grp : Nat → List T} {gv : Nat → Value} (h : GMv AT E k c w G grp gv) (hP : G ≠ P ∧ ∀ j, j < 10 → (gv j).ownBlock ≠ some P) (cs : Array Value) : GMv AT E k c (w.setRow P cs) G grp gv :=
  h.keep (S := fun b => b = P) ⟨rfl, rfl, rfl, by rw [setRow_size]; exact Nat.le_refl _, fun b _ hb => setRow_other w P b cs hb⟩ hP.1 (fun j g hj hg e => hP.2 j hj (by rw [← e]; exact hg))
theorem Only.rowAt {B P : Nat} {a w : World} (h : Only B a w) (hP : a.heap.size ≤ P) (cs : Array Value) : Only B a (w.setRow P cs) :=
  ⟨h.os, h.tape, h.output, by rw [setRow_size]; exact h.size, fun k hk hn => (setRow_other w P k cs (by omega)).trans (h.block k hk hn)⟩
/-- What a value's closure has captured. -/
structure Env (RU VA : Nat) (w : World) (G X1 X3 : Nat) : Prop where
  c1 : w.cell? ⟨X1, 0, none⟩ = some (.func (.func RU) #[] #[])
  c3 : w.cell? ⟨X3, 0, none⟩ = some (.func (.func VA) #[] #[.pointer (some ⟨X1, 0, none⟩), .pointer (some ⟨G, 0, none⟩), .pointer (some ⟨X3, 0, none⟩)])
  n1 : X1 ≠ G
  n3 : X3 ≠ G
theorem Env.only {RU VA : Nat} {w w' : World} {G X1 X3 : Nat} (h : Env RU VA w G X1 X3) (k : Only G w w') : Env RU VA w' G X1 X3 :=
  ⟨(cell_same (k.block X1 (World.block_lt_of_cell? w _ h.c1) h.n1)).trans h.c1, (cell_same (k.block X3 (World.block_lt_of_cell? w _ h.c3) h.n3)).trans h.c3, h.n1, h.n3⟩
theorem valF_step (R : TN → List T → T) (f : F) (k : Nat) (hk : k < f.len) (G : Nat → List T) : valF R (f.drop k) G = ((valN R (f.nth k) G).1 :: (valF R (f.drop (k + 1)) (valN R (f.nth k) G).2).1, (valF R (f.drop (k + 1)) (valN R (f.nth k) G).2).2) := by
  rw [F.drop_step f k hk, valF_cons]
theorem preF_step (I : T → Prop) (R : TN → List T → T) (f : F) (k : Nat) (hk : k < f.len) (G : Nat → List T) : preF I R (f.drop k) G ↔ preN I R (f.nth k) G ∧ preF I R (f.drop (k + 1)) (valN R (f.nth k) G).2 := by
  rw [F.drop_step f k hk, preF_cons]
end
/-- A node as a value. -/
def nodeV (t : TN) (sv : Value) : Value := .agg #[.int .i64 t.op, .int .u64 (wd t.st 0 64 : Nat), .int .u64 (wd t.st 64 64 : Nat), .int .u64 (wd t.st 128 64 : Nat), .int .u64 (wd t.st 192 64 : Nat), .int .i64 t.lo, .int .i64 t.hi, .int .i64 t.g, sv]
end Go.Proofs.Ytpfbpgbgedbalaa
