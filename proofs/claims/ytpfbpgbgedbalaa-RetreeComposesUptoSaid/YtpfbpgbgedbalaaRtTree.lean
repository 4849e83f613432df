/- Trees, in plain mathematics and in memory. -/
import Derived.Test.YtpfbpgbgedbalaaRows
import Derived.Test.YtpfbpgbgedbalaaCsRow
import Derived.Laws.OwnMore
import Derived.Laws.AppendOwnNone
import Derived.OwnWalk
import Derived.WalkKit
import Derived.Below
set_option linter.unusedVariables false
namespace Go.Proofs.Ytpfbpgbgedbalaa
open Go.RowKit

/-- A forest: trees one behind the other, each with its fields and its own forest. -/
inductive F where
  | nil : F
  | cons (op : Int) (st : Nat → Bool) (lo hi g : Int) (args rest : F) : F
/-- A tree. -/
structure TN where
  op : Int
  st : Nat → Bool
  lo : Int
  hi : Int
  g : Int
  args : F
def F.len : F → Nat
  | .nil => 0
  | .cons _ _ _ _ _ _ r => r.len + 1
def F.push : F → TN → F
  | .nil, t => .cons t.op t.st t.lo t.hi t.g t.args .nil
  | .cons o s l h g a r, t => .cons o s l h g a (r.push t)
theorem F.len_push (f : F) (t : TN) : (f.push t).len = f.len + 1 := by
  induction f with
  | nil => rfl
  | cons o s l h g a r _ ih => show (r.push t).len + 1 = r.len + 1 + 1; rw [ih]
def noSet : Nat → Bool := fun _ => false
def T0 : TN := ⟨0, noSet, 0, 0, 0, .nil⟩
/-- The ints of a forest are ints, and its rows are rows. -/
def F.fits : F → Prop
  | .nil => True
  | .cons o _ l h g a r => ((-9223372036854775808 ≤ o ∧ o ≤ 9223372036854775807) ∧ (-9223372036854775808 ≤ l ∧ l ≤ 9223372036854775807) ∧ (-9223372036854775808 ≤ h ∧ h ≤ 9223372036854775807) ∧ (-9223372036854775808 ≤ g ∧ g ≤ 9223372036854775807)) ∧ a.len ≤ maxLen ∧ a.fits ∧ r.fits
/-- Tree i of a forest. -/
def F.nth : F → Nat → TN
  | .nil, _ => T0
  | .cons o s l h g a _, 0 => ⟨o, s, l, h, g, a⟩
  | .cons _ _ _ _ _ _ r, i + 1 => r.nth i
def F.drop : F → Nat → F
  | f, 0 => f
  | .nil, _ + 1 => .nil
  | .cons _ _ _ _ _ _ r, n + 1 => r.drop n
theorem F.drop_step : ∀ (f : F) (k : Nat), k < f.len → f.drop k = .cons (f.nth k).op (f.nth k).st (f.nth k).lo (f.nth k).hi (f.nth k).g (f.nth k).args (f.drop (k + 1))
  | .nil, _, h => by cases h
  | .cons o s l h g a r, 0, _ => by
    have : r.drop 0 = r := by cases r <;> rfl
    show F.cons o s l h g a r = F.cons o s l h g a (r.drop 0)
    rw [this]
  | .cons o s l h g a r, k + 1, hk => F.drop_step r k (by have : k + 1 < r.len + 1 := hk; omega)
theorem F.drop_len : ∀ f : F, f.drop f.len = .nil
  | .nil => rfl
  | .cons o s l h g a r => F.drop_len r
theorem F.fits_nth : ∀ {f : F} (k : Nat), f.fits → k < f.len → (f.nth k).args.len ≤ maxLen ∧ (f.nth k).args.fits
  | .nil, _, _, h => by cases h
  | .cons o s l h g a r, 0, hf, _ => ⟨hf.2.1, hf.2.2.1⟩
  | .cons o s l h g a r, k + 1, hf, hk => F.fits_nth (f := r) k hf.2.2.2 (by have : k + 1 < r.len + 1 := hk; omega)
/-- Of the blocks that stand only B may have turned. -/
structure Only (B : Nat) (w w' : World) : Prop where
  os : w'.os = w.os
  tape : w'.tape = w.tape
  output : w'.output = w.output
  size : w.heap.size ≤ w'.heap.size
  block : ∀ k, k < w.heap.size → k ≠ B → w'.heap[k]? = w.heap[k]?
theorem Only.refl (B : Nat) (w : World) : Only B w w := ⟨rfl, rfl, rfl, Nat.le_refl _, fun _ _ _ => rfl⟩
theorem Only.of_below {B : Nat} {w w' : World} (h : Below w.heap.size w w') : Only B w w' := ⟨h.os, h.tape, h.output, h.size, fun k hk _ => h.block k hk⟩
theorem Only.trans {B : Nat} {a b c : World} (h : Only B a b) (k : Only B b c) : Only B a c :=
  ⟨k.os.trans h.os, k.tape.trans h.tape, k.output.trans h.output, Nat.le_trans h.size k.size, fun g hg hn => (k.block g (Nat.lt_of_lt_of_le hg h.size) hn).trans (h.block g hg hn)⟩
theorem Only.next {B : Nat} {a b c : World} (h : Only B a b) (k : Below b.heap.size b c) : Only B a c := h.trans (.of_below k)
theorem Only.put {B : Nat} {a w : World} (h : Only B a w) (j : Nat) (v : Value) : Only B a (w.setCell ⟨B, j, none⟩ v) :=
  ⟨h.os, h.tape, h.output, by simpa [World.setCell] using h.size, fun k hk hn => (Below.heap_setCell w ⟨B, j, none⟩ v k hn).trans (h.block k hk hn)⟩

theorem Only.drew {B : Nat} {a w : World} (h : Only B a w) : Only B a w.drew := ⟨h.os, h.tape, h.output, h.size, h.block⟩
theorem add_at (g j : Nat) : (⟨g, 0, none⟩ : Addr).add j = ⟨g, j, none⟩ := by unfold Addr.add; split <;> simp_all
theorem keep_cell {w w' : World} (hb : Below w.heap.size w w') {a : Addr} {v : Value} (h : w.cell? a = some v) : w'.cell? a = some v := by
  rw [hb.cell (World.block_lt_of_cell? w _ h), h]

/-- The nine cells of a node. -/
def rowV (op : Int) (st : Nat → Bool) (lo hi g : Int) (sv : Value) : List Value := [.int .i64 op, .int .u64 (wd st 0 64 : Nat), .int .u64 (wd st 64 64 : Nat), .int .u64 (wd st 128 64 : Nat), .int .u64 (wd st 192 64 : Nat), .int .i64 lo, .int .i64 hi, .int .i64 g, sv]
/-- The cells of a forest whose slices lie in the blocks S. -/
def FV (w : World) (S : Nat → Prop) : F → List Value → Prop
  | .nil, xs => xs = []
  | .cons o s l h g a r, xs => ∃ sv ys zs, xs = rowV o s l h g sv ++ ys ∧ (∃ ad cap, sv = .slice ad a.len cap ∧ a.len ≤ cap ∧ FV w S a zs ∧ (a.len = 0 ∨ ∃ b i, ad = some ⟨b, i, none⟩ ∧ S b ∧ b < w.heap.size ∧ ∀ j u, zs[j]? = some u → w.cell? ⟨b, i + j, none⟩ = some u)) ∧ FV w S r ys
/-- A slice that holds a forest. -/
def SV (w : World) (S : Nat → Prop) (a : F) (sv : Value) : Prop := ∃ zs ad cap, sv = .slice ad a.len cap ∧ a.len ≤ cap ∧ FV w S a zs ∧ (a.len = 0 ∨ ∃ b i, ad = some ⟨b, i, none⟩ ∧ S b ∧ b < w.heap.size ∧ ∀ j u, zs[j]? = some u → w.cell? ⟨b, i + j, none⟩ = some u)
/-- A tree as a value. -/
def TV (w : World) (S : Nat → Prop) (t : TN) (v : Value) : Prop := ∃ sv, v = .agg (rowV t.op t.st t.lo t.hi t.g sv).toArray ∧ SV w S t.args sv
theorem FV.cons {w : World} {S : Nat → Prop} {o l h g : Int} {s : Nat → Bool} {a r : F} {xs : List Value} : FV w S (.cons o s l h g a r) xs ↔ ∃ sv ys, xs = rowV o s l h g sv ++ ys ∧ SV w S a sv ∧ FV w S r ys := by
  constructor
  · rintro ⟨sv, ys, zs, e, ⟨ad, cap, h1, h2, h3, h4⟩, h5⟩
    exact ⟨sv, ys, e, ⟨zs, ad, cap, h1, h2, h3, h4⟩, h5⟩
  · rintro ⟨sv, ys, e, ⟨zs, ad, cap, h1, h2, h3, h4⟩, h5⟩
    exact ⟨sv, ys, zs, e, ⟨ad, cap, h1, h2, h3, h4⟩, h5⟩
theorem SV.nil (w : World) (S : Nat → Prop) : SV w S .nil (.slice none 0 0) := ⟨[], none, 0, rfl, Nat.le_refl _, rfl, .inl rfl⟩
theorem TV.leaf (w : World) (S : Nat → Prop) (o l h g : Int) (s : Nat → Bool) : TV w S ⟨o, s, l, h, g, .nil⟩ (.agg #[.int .i64 o, .int .u64 (wd s 0 64 : Nat), .int .u64 (wd s 64 64 : Nat), .int .u64 (wd s 128 64 : Nat), .int .u64 (wd s 192 64 : Nat), .int .i64 l, .int .i64 h, .int .i64 g, .slice none 0 0]) := ⟨_, rfl, .nil w S⟩
/-- What lies in the blocks S stands, or is T's too. -/
def Afar (S T : Nat → Prop) (w w' : World) : Prop := w.heap.size ≤ w'.heap.size ∧ ∀ b, S b → b < w.heap.size → T b ∧ w'.heap[b]? = w.heap[b]?
theorem cell_same {w w' : World} {b i : Nat} (h : w'.heap[b]? = w.heap[b]?) : w'.cell? ⟨b, i, none⟩ = w.cell? ⟨b, i, none⟩ := by
  unfold World.cell?
  simp only [h]
theorem FV.far {w w' : World} {S T : Nat → Prop} (hf : Afar S T w w') : ∀ {f : F} {xs : List Value}, FV w S f xs → FV w' T f xs := by
  intro f
  induction f with
  | nil => intro xs h; exact h
  | cons o s l h g a r iha ihr =>
    rintro xs ⟨sv, ys, zs, e, ⟨ad, cap, h1, h2, h3, h4⟩, h5⟩
    refine ⟨sv, ys, zs, e, ⟨ad, cap, h1, h2, iha h3, ?_⟩, ihr h5⟩
    rcases h4 with h4 | ⟨b, i, h6, h7, h8, h9⟩
    · exact .inl h4
    · exact .inr ⟨b, i, h6, (hf.2 b h7 h8).1, Nat.lt_of_lt_of_le h8 hf.1, fun j u hu => (cell_same (hf.2 b h7 h8).2).trans (h9 j u hu)⟩
theorem SV.far {w w' : World} {S T : Nat → Prop} {a : F} {sv : Value} (h : SV w S a sv) (hf : Afar S T w w') : SV w' T a sv := by
  obtain ⟨zs, ad, cap, h1, h2, h3, h4⟩ := h
  refine ⟨zs, ad, cap, h1, h2, h3.far hf, ?_⟩
  rcases h4 with h4 | ⟨b, i, h6, h7, h8, h9⟩
  · exact .inl h4
  · exact .inr ⟨b, i, h6, (hf.2 b h7 h8).1, Nat.lt_of_lt_of_le h8 hf.1, fun j u hu => (cell_same (hf.2 b h7 h8).2).trans (h9 j u hu)⟩
theorem TV.far {w w' : World} {S T : Nat → Prop} {t : TN} {v : Value} (h : TV w S t v) (hf : Afar S T w w') : TV w' T t v := by
  obtain ⟨sv, e, h⟩ := h
  exact ⟨sv, e, h.far hf⟩
/-- The blocks from n on. -/
def Frm (n : Nat) : Nat → Prop := fun b => n ≤ b
theorem Afar.refl (S : Nat → Prop) (w : World) : Afar S S w w := ⟨Nat.le_refl _, fun _ h _ => ⟨h, rfl⟩⟩
theorem Afar.trans {S T U : Nat → Prop} {a b c : World} (h : Afar S T a b) (k : Afar T U b c) : Afar S U a c := ⟨Nat.le_trans h.1 k.1, fun g h1 h2 => ⟨(k.2 g (h.2 g h1 h2).1 (Nat.lt_of_lt_of_le h2 h.1)).1, (k.2 g (h.2 g h1 h2).1 (Nat.lt_of_lt_of_le h2 h.1)).2.trans (h.2 g h1 h2).2⟩⟩
/-- Trees behind block B stand when only that turns. -/
theorem Afar.only {B n m : Nat} {w w' : World} (h : Only B w w') (hB : B < n) (hm : m ≤ n) : Afar (Frm n) (Frm m) w w' := ⟨h.size, fun b h1 h2 => ⟨Nat.le_trans hm h1, h.block b h2 (by have : n ≤ b := h1; omega)⟩⟩
theorem Afar.below {S : Nat → Prop} {w w' : World} (h : Below w.heap.size w w') : Afar S S w w' := ⟨h.size, fun b h1 h2 => ⟨h1, h.block b h2⟩⟩
theorem Afar.frm {n m : Nat} {w w' : World} (h : Below w.heap.size w w') (hm : m ≤ n) : Afar (Frm n) (Frm m) w w' := ⟨h.size, fun b h1 h2 => ⟨Nat.le_trans hm h1, h.block b h2⟩⟩
theorem FV.push {w : World} {S : Nat → Prop} {t : TN} {sv : Value} (ht : SV w S t.args sv) : ∀ {f : F} {xs : List Value}, FV w S f xs → FV w S (f.push t) (xs ++ rowV t.op t.st t.lo t.hi t.g sv) := by
  intro f
  induction f with
  | nil =>
    intro xs h
    have h : xs = [] := h
    subst h
    exact FV.cons.2 ⟨sv, [], by simp, ht, rfl⟩
  | cons o s l h g a r iha ihr =>
    intro xs hx
    obtain ⟨sv2, ys, e, h1, h2⟩ := FV.cons.1 hx
    exact FV.cons.2 ⟨sv2, ys ++ rowV t.op t.st t.lo t.hi t.g sv, by rw [e, List.append_assoc], h1, ihr h2⟩
theorem FV.len {w : World} {S : Nat → Prop} : ∀ {f : F} {xs : List Value}, FV w S f xs → xs.length = f.len * 9 := by
  intro f
  induction f with
  | nil => intro xs h; have h : xs = [] := h; subst h; rfl
  | cons o s l h g a r iha ihr =>
    intro xs hx
    obtain ⟨sv2, ys, e, h1, h2⟩ := FV.cons.1 hx
    rw [e, List.length_append, ihr h2]
    show 9 + r.len * 9 = (r.len + 1) * 9
    omega
/-- The call's own row of nodes, as a slice. -/
theorem SV.own {w : World} {S : Nat → Prop} {f : F} {xs : List Value} {v : Value} {E : TypeId} {b0 : Nat} (h : FV w S f xs) (hS : ∀ g, v.ownBlock = some g → S g) (ho : w.ownsRow b0 E 9 v f.len xs) : SV w S f v := by
  obtain ⟨h1, h2⟩ := id ho
  rcases h2 with ⟨rfl, h0⟩ | ⟨g, cap, cur, rfl, hB, hg, hn, r⟩
  · exact ⟨xs, none, 0, by rw [h0], by omega, h, .inl h0⟩
  · exact ⟨xs, some ⟨g, 0, none⟩, cap, rfl, hn, h, .inr ⟨g, 0, rfl, hS g rfl, (Array.getElem?_eq_some_iff.1 hg).1, fun j u hu => by
      have := ho.cells (g := g) rfl j u hu
      rw [add_at] at this
      rw [Nat.zero_add]
      exact this⟩⟩
theorem FV.nth {w : World} {S : Nat → Prop} : ∀ {f : F} {xs : List Value} (k : Nat), FV w S f xs → k < f.len → ∃ sv, SV w S (f.nth k).args sv ∧ ∀ j u, (rowV (f.nth k).op (f.nth k).st (f.nth k).lo (f.nth k).hi (f.nth k).g sv)[j]? = some u → xs[k * 9 + j]? = some u
  | .nil, xs, k, h, hk => by cases hk
  | .cons o s l h g a r, xs, k, hx, hk => by
    obtain ⟨sv, ys, e, h1, h2⟩ := FV.cons.1 hx
    subst e
    cases k with
    | zero =>
      refine ⟨sv, h1, fun j u hu => ?_⟩
      have hj : j < 9 := by
        have := (List.getElem?_eq_some_iff.1 hu).1
        exact this
      rw [Nat.zero_mul, Nat.zero_add, List.getElem?_append_left (by exact hj)]
      exact hu
    | succ k =>
      have hk2 : k < r.len := by have : k + 1 < r.len + 1 := hk; omega
      obtain ⟨sv2, h3, h4⟩ := FV.nth k h2 hk2
      refine ⟨sv2, h3, fun j u hu => ?_⟩
      rw [List.getElem?_append_right (by show 9 ≤ _; omega)]
      have : (k + 1) * 9 + j - (rowV o s l h g sv).length = k * 9 + j := by show (k + 1) * 9 + j - 9 = _; omega
      rw [this]
      exact h4 j u hu
theorem slice_form {w : World} {S : Nat → Prop} {a : F} {sv : Value} (h : SV w S a sv) : ∃ ad cap, sv = .slice ad a.len cap := by
  obtain ⟨_, ad, cap, e, _⟩ := h
  exact ⟨ad, cap, e⟩
theorem Afar.only_ne {S : Nat → Prop} {B : Nat} {w w' : World} (h : Only B w w') (hS : ∀ b, S b → b ≠ B) : Afar S S w w' := ⟨h.size, fun b h1 h2 => ⟨h1, h.block b h2 (hS b h1)⟩⟩
theorem Below.of_only {n B : Nat} {a b c : World} (h : Below n a b) (k : Only B b c) (hn : n ≤ B) (hs : n ≤ b.heap.size) : Below n a c :=
  ⟨k.os.trans h.os, k.tape.trans h.tape, k.output.trans h.output, Nat.le_trans h.size k.size, fun j hj => (k.block j (by omega) (by omega)).trans (h.block j hj)⟩
end Go.Proofs.Ytpfbpgbgedbalaa
