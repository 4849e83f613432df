/- RtVb, CsWith, CsOps, RtD, RtX. -/
import Derived.Test.YtfgcnknmiclfnaaDoorPb5
import Derived.Test.YtfgcnknmiclfnaaDoorRows
import Derived.Test.YtfgcnknmiclfnaaDoorPb0
import Derived.Deep.RegionHeld3
import Derived.Laws.EntriesVeiled
import Derived.StillTactics
import Derived.RegionTactic
import Derived.ChangeAlike
import Derived.Deep.QuietTactic
import Derived.BigQuiet
import Derived.Laws.ResultCell
set_option linter.unusedVariables false
set_option linter.unusedSimpArgs false
set_option maxRecDepth 100000
set_option maxHeartbeats 8000000
namespace Go.Proofs.YtfgcnknmiclfnaaDoor
open Go.RowKit
def cells_b (x : Bool) : List Value := [.bool x]
end Go.Proofs.YtfgcnknmiclfnaaDoor
namespace Go.Proofs.YtfgcnknmiclfnaaDoor
open Go.RowKit
theorem wrap_ins (p : Nat → Bool) (c j : Nat) (h : c / 64 = j) (hp : p c = false) : IntKind.u64.wrap (((wd p (64 * j) 64 : Nat) : Int) + IntKind.u64.wrap ((2 : Int) ^ (c % 64))) = ((wd (ins p c) (64 * j) 64 : Nat) : Int) := by
  subst h
  have e := wd_ins_add p c hp
  have l := wd_lt64 (ins p c) (64 * (c / 64))
  rw [pow_cast, add64 _ _ (by omega), e]
def W2 (w : World) (p : Nat → Bool) : World := (w.alloc (.cells (cl p) 41)).alloc (.cells #[.int .u64 0, .int .u64 0, .int .u64 0, .int .u64 0] 41)
theorem W2_one (w : World) (p : Nat → Bool) : At (W2 w p) w.heap.size p := (At.new w p).alloc _
theorem W2_two (w : World) (p : Nat → Bool) : At (W2 w p) (w.heap.size + 1) (fun _ => false) := by
  have := At.new (w.alloc (.cells (cl p) 41)) (fun _ => false)
  unfold W2
  rw [cl_zero]
  simpa using this
theorem W2_below (w : World) (p : Nat → Bool) : Below w.heap.size w (W2 w p) := ((Below.refl _ _).alloc (Nat.le_refl _) _).alloc (by simp) _
set_option linter.unusedVariables false in
theorem with_any (p : Nat → Bool) (c : Nat) (hc : c < 256) (w : World) : Calls Tryd.prog 79 #[cs p, .int .u8 c] w fun e w' => e = .returned (cs (ins p c)) ∧ Below w.heap.size w w' := by
  obtain ⟨j, hj⟩ : ∃ j, c / 64 = j := ⟨_, rfl⟩
  have hj4 : j < 4 := by omega
  have hq : (c : Int) / 64 = (j : Int) := by omega
  have hz : IntKind.u8.wrap (j : Int) = (j : Int) := IntWalk.u8_in _ (by omega)
  have hj0 : (j : Int) < 4 := by omega
  have A1 := Lib.hid (W2_one w p)
  have A2 := Lib.hid (W2_two w p)
  have HB := Lib.hid (W2_below w p)
  have Hp := Lib.hid (rhas_any p c hc)
  by_cases hp : p c = true
  · rw [ins_same p c hp]
    unfold cs cl at Hp ⊢
    go_enter Tryd.func79, Tryd.ntmps79
    go_wp2_with (first
      | (go_at_call 17
         refine (Hp.out _).mono ?_
         rintro e w1 ⟨rfl, hb⟩
         have HB1 : Hid (Below w.heap.size w w1) := Lib.hid (HB.out.trans (hb.mono (by simp; omega)))
         have B1 : At w1 w.heap.size p := A1.out.below hb A1.out.lt
         have B2 : At w1 (w.heap.size + 1) (fun _ => false) := A2.out.below hb A2.out.lt
         have HA := Lib.hid B2
         clear hb
         obtain ⟨⟨c0, c1⟩, ⟨c2, c3⟩, hf⟩ := B1.words
         obtain ⟨⟨d0, d1⟩, ⟨d2, d3⟩, hg⟩ := B2.words
         clear B1 B2))
    exact bodyPost_ret (v := cs p) (ret_cs (q := p) Tryd.results79 _ _ (w.heap.size + 1) (by simp) (HA.out.put4 p)) rfl ⟨rfl, below_put4 HB1.out _ (by omega) p⟩
  · simp only [Bool.not_eq_true] at hp
    have hk := wrap_ins p c j hj hp
    unfold cs cl at Hp ⊢
    go_enter Tryd.func79, Tryd.ntmps79
    go_wp2_with (first
      | (go_at_call 17
         refine (Hp.out _).mono ?_
         rintro e w1 ⟨rfl, hb⟩
         have HB1 : Hid (Below w.heap.size w w1) := Lib.hid (HB.out.trans (hb.mono (by simp; omega)))
         have B1 : At w1 w.heap.size p := A1.out.below hb A1.out.lt
         have B2 : At w1 (w.heap.size + 1) (fun _ => false) := A2.out.below hb A2.out.lt
         clear hb
         have cj := B1.got j hj4
         have hf := B1.free
         have E1 : At (w1.setCell ⟨w.heap.size, j, none⟩ (.int .u64 ((wd (ins p c) (64 * j) 64 : Nat) : Int))) w.heap.size (ins p c) := B1.word (ins p c) j hj4 (by rw [← hj]; exact ins_other p c) _ rfl
         have E2 : At (w1.setCell ⟨w.heap.size, j, none⟩ (.int .u64 ((wd (ins p c) (64 * j) 64 : Nat) : Int))) (w.heap.size + 1) (fun _ => false) := B2.apart _ (by omega)
         have HA := Lib.hid E2
         obtain ⟨⟨c0, c1⟩, ⟨c2, c3⟩, hf'⟩ := E1.words
         obtain ⟨⟨d0, d1⟩, ⟨d2, d3⟩, hg⟩ := E2.words
         clear B1 B2 E1 E2))
    exact bodyPost_ret (v := cs (ins p c)) (ret_cs (q := ins p c) Tryd.results79 _ _ (w.heap.size + 1) (by simp) (HA.out.put4 (ins p c))) rfl ⟨rfl, below_put4 (HB1.out.setCell (Nat.le_refl _) _) _ (by omega) (ins p c)⟩
end Go.Proofs.YtfgcnknmiclfnaaDoor
set_option linter.unusedVariables false
namespace Go.Proofs.YtfgcnknmiclfnaaDoor
open Go.RowKit
theorem At.drew {w : World} {g : Nat} {p : Nat → Bool} (h : At w g p) : At w.drew g p := h
def U3 (w : World) (p q : Nat → Bool) : World := ((w.alloc (.cells (cl p) 41)).alloc (.cells (cl q) 41)).alloc (.cells #[.int .u64 0, .int .u64 0, .int .u64 0, .int .u64 0] 41)
theorem U3_below (w : World) (p q : Nat → Bool) : Below w.heap.size w (U3 w p q) := (((Below.refl _ _).alloc (Nat.le_refl _) _).alloc (by simp) _).alloc (by simp; omega) _
theorem U3_at (w : World) (p q : Nat → Bool) : At (U3 w p q) w.heap.size p ∧ At (U3 w p q) (w.heap.size + 1) q ∧ At (U3 w p q) (w.heap.size + 2) (fun _ => false) := by
  unfold U3
  rw [cl_zero]
  refine ⟨((At.new w p).alloc _).alloc _, ?_, ?_⟩
  · have := (At.new (w.alloc (.cells (cl p) 41)) q).alloc (.cells (cl fun _ => false) 41)
    simpa using this
  · have := At.new ((w.alloc (.cells (cl p) 41)).alloc (.cells (cl q) 41)) (fun _ => false)
    simpa using this
theorem keep_words {w w' : World} (hb : Below w.heap.size w w') {a : Addr} {v : Value} (h : w.cell? a = some v) : w'.cell? a = some v := by
  rw [hb.cell (World.block_lt_of_cell? w _ h), h]
abbrev Wds (w : World) (g : Nat) (p : Nat → Bool) : Prop :=
  (w.cell? ⟨g, 0, none⟩ = some (.int .u64 ((wd p 0 64 : Nat) : Int)) ∧ w.cell? ⟨g, 1, none⟩ = some (.int .u64 ((wd p 64 64 : Nat) : Int))) ∧
    (w.cell? ⟨g, 2, none⟩ = some (.int .u64 ((wd p 128 64 : Nat) : Int)) ∧ w.cell? ⟨g, 3, none⟩ = some (.int .u64 ((wd p 192 64 : Nat) : Int)))
theorem Wds.of {w : World} {g : Nat} {p : Nat → Bool} (h : At w g p) : Wds w g p := ⟨h.words.1, h.words.2.1⟩
theorem Wds.keep {w w' : World} {g : Nat} {p : Nat → Bool} (h : Wds w g p) (hb : Below w.heap.size w w') : Wds w' g p :=
  ⟨⟨keep_words hb h.1.1, keep_words hb h.1.2⟩, ⟨keep_words hb h.2.1, keep_words hb h.2.2⟩⟩
def AtAny (w : World) (g : Nat) : Prop := ∃ r, At w g r
theorem AtAny.free {w : World} {g : Nat} (h : AtAny w g) (j : Nat) : w.frozen? ⟨g, j, none⟩ = false := by
  obtain ⟨r, h⟩ := h
  exact h.free j
theorem AtAny.below {w w' : World} {g : Nat} (h : AtAny w g) (hb : Below w.heap.size w w') : AtAny w' g := by
  obtain ⟨r, h⟩ := h
  exact ⟨r, h.below hb h.lt⟩
theorem AtAny.put {w : World} {g : Nat} (h : AtAny w g) (f : Nat → Bool) : At (put4 w g f) g f := by
  obtain ⟨r, h⟩ := h
  exact h.put4 f
def cv (w : World) (g j : Nat) : Value := (w.cell? ⟨g, j, none⟩).getD undef
abbrev Wany (w : World) (g : Nat) : Prop :=
  (w.cell? ⟨g, 0, none⟩ = some (cv w g 0) ∧ w.cell? ⟨g, 1, none⟩ = some (cv w g 1)) ∧ (w.cell? ⟨g, 2, none⟩ = some (cv w g 2) ∧ w.cell? ⟨g, 3, none⟩ = some (cv w g 3))
theorem AtAny.cells {w : World} {g : Nat} (h : AtAny w g) : Wany w g := by
  obtain ⟨r, h⟩ := h
  unfold Wany cv
  rw [h.got 0 (by decide), h.got 1 (by decide), h.got 2 (by decide), h.got 3 (by decide)]
  exact ⟨⟨rfl, rfl⟩, ⟨rfl, rfl⟩⟩
abbrev S2 (w0 : World) (p q : Nat → Bool) (w : World) : Prop :=
  Wds w w0.heap.size p ∧ Wds w (w0.heap.size + 1) q ∧ Wany w (w0.heap.size + 2) ∧ (∀ j, w.frozen? ⟨w0.heap.size + 2, j, none⟩ = false) ∧ Below w0.heap.size w0 w ∧ AtAny w (w0.heap.size + 2)
theorem S2.start (w0 : World) (p q : Nat → Bool) : S2 w0 p q (U3 w0 p q).drew :=
  have h := U3_at w0 p q
  ⟨Wds.of h.1.drew, Wds.of h.2.1.drew, AtAny.cells ⟨_, h.2.2.drew⟩, h.2.2.drew.free, (U3_below w0 p q).drew, ⟨_, h.2.2.drew⟩⟩
theorem S2.keep {w0 w w' : World} {p q : Nat → Bool} (hb : Below w.heap.size w w') (h : S2 w0 p q w) : S2 w0 p q w' :=
  have a := h.2.2.2.2.2.below hb
  ⟨h.1.keep hb, h.2.1.keep hb, a.cells, a.free, h.2.2.2.2.1.trans (hb.mono h.2.2.2.2.1.size), a⟩
theorem cell_put4 {w : World} {g k : Nat} (hk : g ≠ k) (f : Nat → Bool) (j : Nat) : (put4 w k f).cell? ⟨g, j, none⟩ = w.cell? ⟨g, j, none⟩ := by
  apply World.cell?_of_block
  show (put4 w k f).heap[g]? = w.heap[g]?
  unfold put4
  rw [Below.heap_setCell _ _ _ _ hk, Below.heap_setCell _ _ _ _ hk, Below.heap_setCell _ _ _ _ hk, Below.heap_setCell _ _ _ _ hk]
theorem Wds.put {w : World} {g k : Nat} {p : Nat → Bool} (h : Wds w g p) (hk : g ≠ k) (f : Nat → Bool) : Wds (put4 w k f) g p :=
  ⟨⟨(cell_put4 hk f 0).trans h.1.1, (cell_put4 hk f 1).trans h.1.2⟩, ⟨(cell_put4 hk f 2).trans h.2.1, (cell_put4 hk f 3).trans h.2.2⟩⟩
theorem S2.put {w0 w : World} {p q : Nat → Bool} (h : S2 w0 p q w) (f : Nat → Bool) : S2 w0 p q (put4 w (w0.heap.size + 2) f) :=
  have a := h.2.2.2.2.2.put f
  ⟨h.1.put (by omega) f, h.2.1.put (by omega) f, AtAny.cells ⟨_, a⟩, a.free, below_put4 h.2.2.2.2.1 _ (by omega) f, ⟨_, a⟩⟩
theorem unset {w : World} {g j : Nat} {v : Value} {c : Array Value} {t : TypeId} (h : (w.setCell ⟨g, j, none⟩ v).heap[g]? = some (.cells c t (0, 0))) : ∃ c0, w.heap[g]? = some (.cells c0 t (0, 0)) ∧ c0.size = c.size := by
  simp only [World.setCell, Array.getElem?_modify] at h
  cases hw : w.heap[g]? with
  | none => simp [hw] at h
  | some o =>
    rw [hw] at h
    cases o with
    | cells c0 t0 fr0 =>
      simp at h
      obtain ⟨rfl, rfl, rfl⟩ := h
      exact ⟨c0, rfl, by simp⟩
    | _ => simp at h
theorem list4 {α : Type} (l : List α) (h : l.length = 4) : ∃ a b c d, l = [a, b, c, d] := by
  match l, h with
  | [a, b, c, d], _ => exact ⟨a, b, c, d, rfl⟩
theorem set4_all (c0 : Array Value) (h : c0.size = 4) (a b c d : Value) : (((c0.setIfInBounds 0 a).setIfInBounds 1 b).setIfInBounds 2 c).setIfInBounds 3 d = #[a, b, c, d] := by
  obtain ⟨l⟩ := c0
  obtain ⟨x, y, z, u, rfl⟩ := list4 l h
  simp
theorem AtAny.done {w : World} {g : Nat} {f : Nat → Bool} (h : AtAny (put4 w g f) g) : At (put4 w g f) g f := by
  obtain ⟨r, h⟩ := h
  unfold At put4 at *
  obtain ⟨c3, h3, s3⟩ := unset h
  obtain ⟨c2, h2, s2⟩ := unset h3
  obtain ⟨c1, h1, s1⟩ := unset h2
  obtain ⟨c0, h0, s0⟩ := unset h1
  have s : c0.size = 4 := by rw [s0, s1, s2, s3, cl_size]
  have k1 := heap_setCell_same w g 0 _ _ (.int .u64 ((wd f 0 64 : Nat) : Int)) h0
  have k2 := heap_setCell_same _ g 1 _ _ (.int .u64 ((wd f 64 64 : Nat) : Int)) k1
  have k3 := heap_setCell_same _ g 2 _ _ (.int .u64 ((wd f 128 64 : Nat) : Int)) k2
  have k4 := heap_setCell_same _ g 3 _ _ (.int .u64 ((wd f 192 64 : Nat) : Int)) k3
  rw [set4_all c0 s] at k4
  exact k4
end Go.Proofs.YtfgcnknmiclfnaaDoor
set_option linter.unusedVariables false
set_option linter.unusedSimpArgs false
set_option maxRecDepth 100000
set_option maxHeartbeats 8000000
namespace Go.Proofs.YtfgcnknmiclfnaaDoor
open Go.RowKit
def TI (w : World) (t : TN) (sv : Value) : Prop := ∃ S, SV w S t.args sv ∧ (∀ b, S b → b < w.heap.size) ∧ (t.args.len ≤ maxLen ∧ t.args.fits) ∧ -9223372036854775808 ≤ t.g ∧ t.g ≤ 9223372036854775807
theorem TI.below {w w' : World} {t : TN} {sv : Value} (h : TI w t sv) (hb : Below w.heap.size w w') : TI w' t sv := by
  obtain ⟨S, h1, h2, h3⟩ := h
  exact ⟨S, h1.far (Afar.below hb), fun b hS => by have := h2 b hS; have := hb.size; omega, h3⟩
theorem TI.form {w : World} {t : TN} {sv : Value} (h : TI w t sv) : ∃ ad cap, sv = .slice ad t.args.len cap := by
  obtain ⟨S, h1, _⟩ := h
  exact slice_form h1
end Go.Proofs.YtfgcnknmiclfnaaDoor
set_option linter.unusedVariables false
set_option linter.unusedSimpArgs false
namespace Go.Proofs.YtfgcnknmiclfnaaDoor
open Go.RowKit
def F.app : F → F → F
  | .nil, g => g
  | .cons o s l h k a r, g => .cons o s l h k a (r.app g)
theorem F.app_nil : ∀ f : F, f.app .nil = f
  | .nil => rfl
  | .cons o s l h k a r => by show F.cons o s l h k a (r.app .nil) = _; rw [F.app_nil r]
theorem F.push_app : ∀ (f : F) (t : TN) (g : F), (f.push t).app g = f.app (.cons t.op t.st t.lo t.hi t.g t.args g)
  | .nil, t, g => rfl
  | .cons o s l h k a r, t, g => by show F.cons o s l h k a ((r.push t).app g) = F.cons o s l h k a (r.app _); rw [F.push_app r]
structure OF (w : World) (n : Nat) (f : F) (v : Value) : Prop where
  own : ∃ xs, w.ownsRow n 55 9 v f.len xs ∧ FV w (fun b => n ≤ b ∧ ¬ v.ownBlock = some b) f xs
theorem OF.nil (w : World) (n : Nat) : OF w n .nil (.slice none 0 0) := ⟨[], ⟨by rfl, .inl ⟨rfl, rfl⟩⟩, rfl⟩
theorem OF.below {w w' : World} {n : Nat} {f : F} {v : Value} (h : OF w n f v) (hb : Below w.heap.size w w') : OF w' n f v := by
  obtain ⟨xs, h1, h2⟩ := h
  exact ⟨xs, own_below h1 hb, h2.far (Afar.below hb)⟩
theorem OF.keep {S : Nat → Prop} {w w' : World} {n : Nat} {f : F} {v : Value} (h : OF w n f v) (hb : Keep S w w') (hS : ∀ b, S b → b < n) : OF w' n f v := by
  obtain ⟨xs, h1, h2⟩ := h
  refine ⟨xs, own_keep h1 hb (fun g hg e => by have := (own_at h1 g hg).1; have := hS g e; omega), h2.far ⟨hb.size, fun b h3 h4 => ⟨h3, hb.block b h4 (fun e => by have := hS b e; have := h3.1; omega)⟩⟩⟩
theorem OF.sv {w : World} {n : Nat} {f : F} {v : Value} (h : OF w n f v) : SV w (Frm n) f v := by
  obtain ⟨xs, h1, h2⟩ := h
  exact SV.own (h2.far (T := Frm n) ⟨Nat.le_refl _, fun b h3 _ => ⟨h3.1, rfl⟩⟩) (fun g hg => (own_at h1 g hg).1) h1
theorem infoRe : (Tryd.prog.info? 55).map (fun i => (i.zero, i.size, i.bytes)) = some (some (.agg #[.int .i64 0, .int .u64 0, .int .u64 0, .int .u64 0, .int .u64 0, .int .i64 0, .int .i64 0, .int .i64 0, .slice none 0 0]), 9, 88) := by kernel_rfl
theorem isz_re : (Tryd.prog.info? 55).map (·.size) = some 9 := by kernel_rfl
theorem OF.push {w w1 w8 : World} {n : Nat} {f : F} {v sv : Value} {x : TN} {g0 cap0 : Nat} (h : OF w n f v) (hb : Below w.heap.size w w1) (hx : SV w1 (Frm w.heap.size) x.args sv)
    {xs : List Value} (hxs : w.ownsRow n 55 9 v f.len xs) (hfv : FV w (fun b => n ≤ b ∧ ¬ v.ownBlock = some b) f xs)
    (ho : w8.ownsRow n 55 9 (.slice (some ⟨g0, 0, none⟩) (f.len + 1) cap0) (f.len + 1) (xs ++ rowV x.op x.st x.lo x.hi x.g sv)) (hk : Keep (fun b => v.ownBlock = some b) w1 w8) (hg : v.ownBlock = some g0 ∨ w1.heap.size ≤ g0) (hn : n ≤ w.heap.size) :
    OF w8 n (f.push x) (.slice (some ⟨g0, 0, none⟩) (f.len + 1) cap0) := by
  have hown := own_at hxs
  have hz := hb.size
  refine ⟨xs ++ rowV x.op x.st x.lo x.hi x.g sv, by rw [F.len_push]; exact ho, FV.push ?_ ?_⟩
  · refine hx.far ⟨hk.size, fun b h1 h2 => ⟨⟨by have h1 : w.heap.size ≤ b := h1; omega, fun e => ?_⟩, hk.block b h2 (fun e => by have := (hown b e).2; have h1 : w.heap.size ≤ b := h1; omega)⟩⟩
    have h1 : w.heap.size ≤ b := h1
    have e : g0 = b := by cases e; rfl
    subst e
    rcases hg with hg | hg
    · have := (hown g0 hg).2; omega
    · omega
  · refine hfv.far ⟨by have := hk.size; omega, fun b h1 h2 => ⟨⟨h1.1, fun e => ?_⟩, (hk.block b (by omega) h1.2).trans (hb.block b h2)⟩⟩
    have e : g0 = b := by cases e; rfl
    subst e
    rcases hg with hg | hg
    · exact h1.2 hg
    · omega
end Go.Proofs.YtfgcnknmiclfnaaDoor
