/- RtTree, RtEq, RtMath. -/
import Derived.Test.YtfgcnknmiclfnaaDoorRows
import Derived.Test.YtfgcnknmiclfnaaDoorPb0
import Derived.Laws.OwnMore
import Derived.Laws.AppendOwnNone
import Derived.OwnWalk
import Derived.WalkKit
import Derived.Below
import Derived.ChangeKeysEq
set_option linter.unusedVariables false
namespace Go.Proofs.YtfgcnknmiclfnaaDoor
open Go.RowKit
inductive F where
  | nil : F
  | cons (op : Int) (st : Nat → Bool) (lo hi g : Int) (args rest : F) : F
structure TN where
  op : Int
  st : Nat → Bool
  lo : Int
  hi : Int
  g : Int
  args : F
def F.len : F → Nat
  | .nil => 0
  | .cons _ _ _ _ _ _ r => r.len + 1
def F.push : F → TN → F
  | .nil, t => .cons t.op t.st t.lo t.hi t.g t.args .nil
  | .cons o s l h g a r, t => .cons o s l h g a (r.push t)
theorem F.len_push (f : F) (t : TN) : (f.push t).len = f.len + 1 := by
  induction f with
  | nil => rfl
  | cons o s l h g a r _ ih => show (r.push t).len + 1 = r.len + 1 + 1; rw [ih]
def noSet : Nat → Bool := fun _ => false
def T0 : TN := ⟨0, noSet, 0, 0, 0, .nil⟩
def F.fits : F → Prop
  | .nil => True
  | .cons o _ l h g a r => ((-9223372036854775808 ≤ o ∧ o ≤ 9223372036854775807) ∧ (-9223372036854775808 ≤ l ∧ l ≤ 9223372036854775807) ∧ (-9223372036854775808 ≤ h ∧ h ≤ 9223372036854775807) ∧ (-9223372036854775808 ≤ g ∧ g ≤ 9223372036854775807)) ∧ a.len ≤ maxLen ∧ a.fits ∧ r.fits
def F.nth : F → Nat → TN
  | .nil, _ => T0
  | .cons o s l h g a _, 0 => ⟨o, s, l, h, g, a⟩
  | .cons _ _ _ _ _ _ r, i + 1 => r.nth i
def F.drop : F → Nat → F
  | f, 0 => f
  | .nil, _ + 1 => .nil
  | .cons _ _ _ _ _ _ r, n + 1 => r.drop n
theorem F.drop_step : ∀ (f : F) (k : Nat), k < f.len → f.drop k = .cons (f.nth k).op (f.nth k).st (f.nth k).lo (f.nth k).hi (f.nth k).g (f.nth k).args (f.drop (k + 1))
  | .nil, _, h => by cases h
  | .cons o s l h g a r, 0, _ => by
    have : r.drop 0 = r := by cases r <;> rfl
    show F.cons o s l h g a r = F.cons o s l h g a (r.drop 0)
    rw [this]
  | .cons o s l h g a r, k + 1, hk => F.drop_step r k (by have : k + 1 < r.len + 1 := hk; omega)
theorem F.drop_len : ∀ f : F, f.drop f.len = .nil
  | .nil => rfl
  | .cons o s l h g a r => F.drop_len r
theorem F.fits_nth : ∀ {f : F} (k : Nat), f.fits → k < f.len → (f.nth k).args.len ≤ maxLen ∧ (f.nth k).args.fits
  | .nil, _, _, h => by cases h
  | .cons o s l h g a r, 0, hf, _ => ⟨hf.2.1, hf.2.2.1⟩
  | .cons o s l h g a r, k + 1, hf, hk => F.fits_nth (f := r) k hf.2.2.2 (by have : k + 1 < r.len + 1 := hk; omega)
structure Only (B : Nat) (w w' : World) : Prop where
  os : w'.os = w.os
  tape : w'.tape = w.tape
  output : w'.output = w.output
  size : w.heap.size ≤ w'.heap.size
  block : ∀ k, k < w.heap.size → k ≠ B → w'.heap[k]? = w.heap[k]?
theorem Only.refl (B : Nat) (w : World) : Only B w w := ⟨rfl, rfl, rfl, Nat.le_refl _, fun _ _ _ => rfl⟩
theorem Only.of_below {B : Nat} {w w' : World} (h : Below w.heap.size w w') : Only B w w' := ⟨h.os, h.tape, h.output, h.size, fun k hk _ => h.block k hk⟩
theorem Only.trans {B : Nat} {a b c : World} (h : Only B a b) (k : Only B b c) : Only B a c :=
  ⟨k.os.trans h.os, k.tape.trans h.tape, k.output.trans h.output, Nat.le_trans h.size k.size, fun g hg hn => (k.block g (Nat.lt_of_lt_of_le hg h.size) hn).trans (h.block g hg hn)⟩
theorem Only.next {B : Nat} {a b c : World} (h : Only B a b) (k : Below b.heap.size b c) : Only B a c := h.trans (.of_below k)
theorem Only.put {B : Nat} {a w : World} (h : Only B a w) (j : Nat) (v : Value) : Only B a (w.setCell ⟨B, j, none⟩ v) :=
  ⟨h.os, h.tape, h.output, by simpa [World.setCell] using h.size, fun k hk hn => (Below.heap_setCell w ⟨B, j, none⟩ v k hn).trans (h.block k hk hn)⟩
theorem Only.drew {B : Nat} {a w : World} (h : Only B a w) : Only B a w.drew := ⟨h.os, h.tape, h.output, h.size, h.block⟩
theorem add_at (g j : Nat) : (⟨g, 0, none⟩ : Addr).add j = ⟨g, j, none⟩ := by unfold Addr.add; split <;> simp_all
theorem keep_cell {w w' : World} (hb : Below w.heap.size w w') {a : Addr} {v : Value} (h : w.cell? a = some v) : w'.cell? a = some v := by
  rw [hb.cell (World.block_lt_of_cell? w _ h), h]
def rowV (op : Int) (st : Nat → Bool) (lo hi g : Int) (sv : Value) : List Value := [.int .i64 op, .int .u64 (wd st 0 64 : Nat), .int .u64 (wd st 64 64 : Nat), .int .u64 (wd st 128 64 : Nat), .int .u64 (wd st 192 64 : Nat), .int .i64 lo, .int .i64 hi, .int .i64 g, sv]
def FV (w : World) (S : Nat → Prop) : F → List Value → Prop
  | .nil, xs => xs = []
  | .cons o s l h g a r, xs => ∃ sv ys zs, xs = rowV o s l h g sv ++ ys ∧ (∃ ad cap, sv = .slice ad a.len cap ∧ a.len ≤ cap ∧ FV w S a zs ∧ (a.len = 0 ∨ ∃ b i, ad = some ⟨b, i, none⟩ ∧ S b ∧ b < w.heap.size ∧ ∀ j u, zs[j]? = some u → w.cell? ⟨b, i + j, none⟩ = some u)) ∧ FV w S r ys
def SV (w : World) (S : Nat → Prop) (a : F) (sv : Value) : Prop := ∃ zs ad cap, sv = .slice ad a.len cap ∧ a.len ≤ cap ∧ FV w S a zs ∧ (a.len = 0 ∨ ∃ b i, ad = some ⟨b, i, none⟩ ∧ S b ∧ b < w.heap.size ∧ ∀ j u, zs[j]? = some u → w.cell? ⟨b, i + j, none⟩ = some u)
theorem FV.cons {w : World} {S : Nat → Prop} {o l h g : Int} {s : Nat → Bool} {a r : F} {xs : List Value} : FV w S (.cons o s l h g a r) xs ↔ ∃ sv ys, xs = rowV o s l h g sv ++ ys ∧ SV w S a sv ∧ FV w S r ys := by
  constructor
  · rintro ⟨sv, ys, zs, e, ⟨ad, cap, h1, h2, h3, h4⟩, h5⟩
    exact ⟨sv, ys, e, ⟨zs, ad, cap, h1, h2, h3, h4⟩, h5⟩
  · rintro ⟨sv, ys, e, ⟨zs, ad, cap, h1, h2, h3, h4⟩, h5⟩
    exact ⟨sv, ys, zs, e, ⟨ad, cap, h1, h2, h3, h4⟩, h5⟩
theorem SV.nil (w : World) (S : Nat → Prop) : SV w S .nil (.slice none 0 0) := ⟨[], none, 0, rfl, Nat.le_refl _, rfl, .inl rfl⟩
def Afar (S T : Nat → Prop) (w w' : World) : Prop := w.heap.size ≤ w'.heap.size ∧ ∀ b, S b → b < w.heap.size → T b ∧ w'.heap[b]? = w.heap[b]?
theorem cell_same {w w' : World} {b i : Nat} (h : w'.heap[b]? = w.heap[b]?) : w'.cell? ⟨b, i, none⟩ = w.cell? ⟨b, i, none⟩ := by
  unfold World.cell?
  simp only [h]
theorem FV.far {w w' : World} {S T : Nat → Prop} (hf : Afar S T w w') : ∀ {f : F} {xs : List Value}, FV w S f xs → FV w' T f xs := by
  intro f
  induction f with
  | nil => intro xs h; exact h
  | cons o s l h g a r iha ihr =>
    rintro xs ⟨sv, ys, zs, e, ⟨ad, cap, h1, h2, h3, h4⟩, h5⟩
    refine ⟨sv, ys, zs, e, ⟨ad, cap, h1, h2, iha h3, ?_⟩, ihr h5⟩
    rcases h4 with h4 | ⟨b, i, h6, h7, h8, h9⟩
    · exact .inl h4
    · exact .inr ⟨b, i, h6, (hf.2 b h7 h8).1, Nat.lt_of_lt_of_le h8 hf.1, fun j u hu => (cell_same (hf.2 b h7 h8).2).trans (h9 j u hu)⟩
theorem SV.far {w w' : World} {S T : Nat → Prop} {a : F} {sv : Value} (h : SV w S a sv) (hf : Afar S T w w') : SV w' T a sv := by
  obtain ⟨zs, ad, cap, h1, h2, h3, h4⟩ := h
  refine ⟨zs, ad, cap, h1, h2, h3.far hf, ?_⟩
  rcases h4 with h4 | ⟨b, i, h6, h7, h8, h9⟩
  · exact .inl h4
  · exact .inr ⟨b, i, h6, (hf.2 b h7 h8).1, Nat.lt_of_lt_of_le h8 hf.1, fun j u hu => (cell_same (hf.2 b h7 h8).2).trans (h9 j u hu)⟩
def Frm (n : Nat) : Nat → Prop := fun b => n ≤ b
theorem Afar.refl (S : Nat → Prop) (w : World) : Afar S S w w := ⟨Nat.le_refl _, fun _ h _ => ⟨h, rfl⟩⟩
theorem Afar.trans {S T U : Nat → Prop} {a b c : World} (h : Afar S T a b) (k : Afar T U b c) : Afar S U a c := ⟨Nat.le_trans h.1 k.1, fun g h1 h2 => ⟨(k.2 g (h.2 g h1 h2).1 (Nat.lt_of_lt_of_le h2 h.1)).1, (k.2 g (h.2 g h1 h2).1 (Nat.lt_of_lt_of_le h2 h.1)).2.trans (h.2 g h1 h2).2⟩⟩
theorem Afar.only {B n m : Nat} {w w' : World} (h : Only B w w') (hB : B < n) (hm : m ≤ n) : Afar (Frm n) (Frm m) w w' := ⟨h.size, fun b h1 h2 => ⟨Nat.le_trans hm h1, h.block b h2 (by have : n ≤ b := h1; omega)⟩⟩
theorem Afar.below {S : Nat → Prop} {w w' : World} (h : Below w.heap.size w w') : Afar S S w w' := ⟨h.size, fun b h1 h2 => ⟨h1, h.block b h2⟩⟩
theorem FV.push {w : World} {S : Nat → Prop} {t : TN} {sv : Value} (ht : SV w S t.args sv) : ∀ {f : F} {xs : List Value}, FV w S f xs → FV w S (f.push t) (xs ++ rowV t.op t.st t.lo t.hi t.g sv) := by
  intro f
  induction f with
  | nil =>
    intro xs h
    have h : xs = [] := h
    subst h
    exact FV.cons.2 ⟨sv, [], by simp, ht, rfl⟩
  | cons o s l h g a r iha ihr =>
    intro xs hx
    obtain ⟨sv2, ys, e, h1, h2⟩ := FV.cons.1 hx
    exact FV.cons.2 ⟨sv2, ys ++ rowV t.op t.st t.lo t.hi t.g sv, by rw [e, List.append_assoc], h1, ihr h2⟩
theorem FV.len {w : World} {S : Nat → Prop} : ∀ {f : F} {xs : List Value}, FV w S f xs → xs.length = f.len * 9 := by
  intro f
  induction f with
  | nil => intro xs h; have h : xs = [] := h; subst h; rfl
  | cons o s l h g a r iha ihr =>
    intro xs hx
    obtain ⟨sv2, ys, e, h1, h2⟩ := FV.cons.1 hx
    rw [e, List.length_append, ihr h2]
    show 9 + r.len * 9 = (r.len + 1) * 9
    omega
theorem SV.own {w : World} {S : Nat → Prop} {f : F} {xs : List Value} {v : Value} {E : TypeId} {b0 : Nat} (h : FV w S f xs) (hS : ∀ g, v.ownBlock = some g → S g) (ho : w.ownsRow b0 E 9 v f.len xs) : SV w S f v := by
  obtain ⟨h1, h2⟩ := id ho
  rcases h2 with ⟨rfl, h0⟩ | ⟨g, cap, cur, rfl, hB, hg, hn, r⟩
  · exact ⟨xs, none, 0, by rw [h0], by omega, h, .inl h0⟩
  · exact ⟨xs, some ⟨g, 0, none⟩, cap, rfl, hn, h, .inr ⟨g, 0, rfl, hS g rfl, (Array.getElem?_eq_some_iff.1 hg).1, fun j u hu => by
      have := ho.cells (g := g) rfl j u hu
      rw [add_at] at this
      rw [Nat.zero_add]
      exact this⟩⟩
theorem FV.nth {w : World} {S : Nat → Prop} : ∀ {f : F} {xs : List Value} (k : Nat), FV w S f xs → k < f.len → ∃ sv, SV w S (f.nth k).args sv ∧ ∀ j u, (rowV (f.nth k).op (f.nth k).st (f.nth k).lo (f.nth k).hi (f.nth k).g sv)[j]? = some u → xs[k * 9 + j]? = some u
  | .nil, xs, k, h, hk => by cases hk
  | .cons o s l h g a r, xs, k, hx, hk => by
    obtain ⟨sv, ys, e, h1, h2⟩ := FV.cons.1 hx
    subst e
    cases k with
    | zero =>
      refine ⟨sv, h1, fun j u hu => ?_⟩
      have hj : j < 9 := by
        have := (List.getElem?_eq_some_iff.1 hu).1
        exact this
      rw [Nat.zero_mul, Nat.zero_add, List.getElem?_append_left (by exact hj)]
      exact hu
    | succ k =>
      have hk2 : k < r.len := by have : k + 1 < r.len + 1 := hk; omega
      obtain ⟨sv2, h3, h4⟩ := FV.nth k h2 hk2
      refine ⟨sv2, h3, fun j u hu => ?_⟩
      rw [List.getElem?_append_right (by show 9 ≤ _; omega)]
      have : (k + 1) * 9 + j - (rowV o s l h g sv).length = k * 9 + j := by show (k + 1) * 9 + j - 9 = _; omega
      rw [this]
      exact h4 j u hu
theorem slice_form {w : World} {S : Nat → Prop} {a : F} {sv : Value} (h : SV w S a sv) : ∃ ad cap, sv = .slice ad a.len cap := by
  obtain ⟨_, ad, cap, e, _⟩ := h
  exact ⟨ad, cap, e⟩
end Go.Proofs.YtfgcnknmiclfnaaDoor
set_option linter.unusedVariables false
namespace Go.Proofs.YtfgcnknmiclfnaaDoor
open Go.RowKit
set_option maxRecDepth 100000
theorem part_words (a b c d : Int) (w : World) : (part 39 #[.int .u64 a, .int .u64 b, .int .u64 c, .int .u64 d] 0).run Tryd.prog w = .ok (.agg #[.int .u64 a, .int .u64 b, .int .u64 c, .int .u64 d]) w := by kernel_rfl
theorem part_0 (a b c d : Int) (w : World) : (part 38 #[.int .u64 a, .int .u64 b, .int .u64 c, .int .u64 d] 0).run Tryd.prog w = .ok (.int .u64 a) w := by kernel_rfl
theorem part_1 (a b c d : Int) (w : World) : (part 38 #[.int .u64 a, .int .u64 b, .int .u64 c, .int .u64 d] 1).run Tryd.prog w = .ok (.int .u64 b) w := by kernel_rfl
theorem part_2 (a b c d : Int) (w : World) : (part 38 #[.int .u64 a, .int .u64 b, .int .u64 c, .int .u64 d] 2).run Tryd.prog w = .ok (.int .u64 c) w := by kernel_rfl
theorem part_3 (a b c d : Int) (w : World) : (part 38 #[.int .u64 a, .int .u64 b, .int .u64 c, .int .u64 d] 3).run Tryd.prog w = .ok (.int .u64 d) w := by kernel_rfl
theorem info_word : ∃ i, Tryd.prog.info? 38 = some i ∧ Tryd.prog.cellsOf 38 = 1 := ⟨_, rfl, by kernel_rfl⟩
theorem eq_arr (k : Nat) (a b c d a' b' c' d' : Int) (w : World) : (Op.equalIn (k + 2) 39 (.agg #[.int .u64 a, .int .u64 b, .int .u64 c, .int .u64 d]) (.agg #[.int .u64 a', .int .u64 b', .int .u64 c', .int .u64 d'])).run Tryd.prog w = .ok (a == a' && (b == b' && (c == c' && d == d'))) w := by
  obtain ⟨i, hi, hc⟩ := info_word
  rw [run_equalIn_array w (k + 1) _ _ Tryd.underlying39 hi, hc, show List.range 4 = [0, 1, 2, 3] from rfl]
  by_cases h0 : a = a' <;> by_cases h1 : b = b' <;> by_cases h2 : c = c' <;> by_cases h3 : d = d' <;>
    simp [Op.eqItems, part_0, part_1, part_2, part_3, run_equalIn_int w k 38 .u64 .u64 _ _ Tryd.underlying38, *]
theorem fields_cs : ∃ f : Field, Tryd.prog.fieldsOf 41 = #[f] ∧ f.name ≠ "_" ∧ f.type = 39 ∧ f.offset = 0 := ⟨_, rfl, by decide, rfl, rfl⟩
theorem equal_cs (a b c d a' b' c' d' : Int) (w : World) : (Op.equalIn 10000 41 (.agg #[.int .u64 a, .int .u64 b, .int .u64 c, .int .u64 d]) (.agg #[.int .u64 a', .int .u64 b', .int .u64 c', .int .u64 d'])).run Tryd.prog w = .ok (a == a' && (b == b' && (c == c' && d == d'))) w := by
  obtain ⟨f, hf, hn, ht, ho⟩ := fields_cs
  rw [run_equalIn_agg w 9999 41 _ _ (by kernel_rfl) (by kernel_rfl), hf]
  cases hb : (a == a' && (b == b' && (c == c' && d == d'))) <;> simp [Op.eqFields, hn, ht, ho, part_words, eq_arr 9997, hb]
def eqc (p q : Nat → Bool) : Bool := ((wd p 0 64 : Nat) : Int) == ((wd q 0 64 : Nat) : Int) && (((wd p 64 64 : Nat) : Int) == ((wd q 64 64 : Nat) : Int) && (((wd p 128 64 : Nat) : Int) == ((wd q 128 64 : Nat) : Int) && ((wd p 192 64 : Nat) : Int) == ((wd q 192 64 : Nat) : Int)))
theorem neq_cs (p q : Nat → Bool) (w : World) : (binOp .neq 41 (cs p) (cs q)).run Tryd.prog w = .ok (.bool (!eqc p q)) w := by
  unfold cs cl
  rw [run_neq_struct, equal_cs]
  rfl
theorem wd_noSet : (wd noSet 0 64 : Nat) = 0 ∧ (wd noSet 64 64 : Nat) = 0 ∧ (wd noSet 128 64 : Nat) = 0 ∧ (wd noSet 192 64 : Nat) = 0 := by decide +kernel
theorem cmp_full {st : Nat → Bool} (h : eqc st noSet = false) (w : World) : (binOp .neq 41 (.agg #[.int .u64 (wd st 0 64 : Nat), .int .u64 (wd st 64 64 : Nat), .int .u64 (wd st 128 64 : Nat), .int .u64 (wd st 192 64 : Nat)]) (.agg #[.int .u64 0, .int .u64 0, .int .u64 0, .int .u64 0])).run Tryd.prog w = .ok (.bool true) w := by
  have := neq_cs st noSet w
  rw [h] at this
  unfold cs cl at this
  rw [wd_noSet.1, wd_noSet.2.1, wd_noSet.2.2.1, wd_noSet.2.2.2] at this
  exact this
set_option maxRecDepth 100000 in
set_option maxHeartbeats 8000000 in
theorem cmp_none {st : Nat → Bool} (h : eqc st noSet = true) (w : World) : (binOp .neq 41 (.agg #[.int .u64 (wd st 0 64 : Nat), .int .u64 (wd st 64 64 : Nat), .int .u64 (wd st 128 64 : Nat), .int .u64 (wd st 192 64 : Nat)]) (.agg #[.int .u64 0, .int .u64 0, .int .u64 0, .int .u64 0])).run Tryd.prog w = .ok (.bool false) w := by
  have := neq_cs st noSet w
  rw [h] at this
  unfold cs cl at this
  rw [wd_noSet.1, wd_noSet.2.1, wd_noSet.2.2.1, wd_noSet.2.2.2] at this
  exact this
end Go.Proofs.YtfgcnknmiclfnaaDoor
set_option linter.unusedVariables false
namespace Go.Proofs.YtfgcnknmiclfnaaDoor
open Go.RowKit
structure SQ where
  n : Nat
  lv : Nat
  bk : Bool
  cl : List Bool
  wt : Bool
  wr : Bool
  wn : Bool
  st : Bool
def SQ0 : SQ := ⟨0, 0, false, [], false, false, false, false⟩
def havT (o : Int) (n : Nat) : Bool :=
  if o = 1 ∨ o = 2 ∨ o = 7 ∨ o = 8 ∨ o = 9 then decide (n = 0) else if o = 5 ∨ o = 6 then decide (n = 1) else if o = 3 ∨ o = 4 then decide (2 ≤ n) else false
def fldT (o : Int) (s : Nat → Bool) (l h g : Int) (n : Nat) : Bool :=
  havT o n && (((!eqc s noSet) == decide (o = 2)) && ((decide (o = 5) || (decide (l = 0) && decide (h = 0))) && ((decide (o = 6) || decide (o = 9)) || decide (g = 0))))
def bndT (l h : Int) : Bool := decide (0 ≤ l) && (decide (l ≤ 64) && (decide (h = -1) || (decide (l ≤ h) && decide (h ≤ 64))))
def SQ.closed (q : SQ) (g : Int) : Bool := decide (1 ≤ g) && (decide (g ≤ (q.cl.length : Int)) && q.cl.getD (g - 1).toNat false)
def stopB (lvl : Nat) (q : SQ) : Bool := q.st || (decide (65536 < lvl) || decide (q.n = 2147483647))
def preQ (o : Int) (s : Nat → Bool) (l h g : Int) (n : Nat) (lvl : Nat) (q : SQ) : SQ :=
  { q with n := q.n + 1, lv := max q.lv lvl, bk := q.bk || decide (o = 9), wt := q.wt || !fldT o s l h g n, wr := q.wr || (decide (o = 5) && !bndT l h), wn := q.wn || (decide (o = 9) && !q.closed g) }
def openQ (g : Int) (q : SQ) : SQ := { q with wr := q.wr || !decide (g = (q.cl.length : Int) + 1), cl := q.cl ++ [false] }
def closeQ (i : Nat) (q : SQ) : SQ := { q with cl := q.cl.set i true }
def walkF : F → Nat → SQ → SQ
  | .nil, _, q => q
  | .cons o s l h g a r, lvl, q =>
    walkF r lvl (if stopB lvl q = true then { q with st := true } else
      if o = 6 then closeQ q.cl.length (walkF a (lvl + 1) (openQ g (preQ o s l h g a.len lvl q))) else walkF a (lvl + 1) (preQ o s l h g a.len lvl q))
def walkT (t : TN) (lvl : Nat) (q : SQ) : SQ :=
  if stopB lvl q = true then { q with st := true } else
    if t.op = 6 then closeQ q.cl.length (walkF t.args (lvl + 1) (openQ t.g (preQ t.op t.st t.lo t.hi t.g t.args.len lvl q))) else walkF t.args (lvl + 1) (preQ t.op t.st t.lo t.hi t.g t.args.len lvl q)
def survT (t : TN) : SQ := walkT t 1 SQ0
def errQ (q : SQ) : Int := if q.wt then 7 else if q.wr then 2 else if q.wn then 4 else if 600 < q.n ∨ 9 < q.cl.length ∨ 32 < q.lv then 3 else 0
def checkT (t : TN) : Int := errQ (survT t)
end Go.Proofs.YtfgcnknmiclfnaaDoor
