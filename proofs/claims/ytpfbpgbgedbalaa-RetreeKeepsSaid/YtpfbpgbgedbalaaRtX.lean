/- Expanded trees: plain mathematics, and lists of trees that the call makes. -/
import Derived.Test.YtpfbpgbgedbalaaRtEr
import Derived.Test.YtpfbpgbgedbalaaRtD
set_option linter.unusedVariables false
set_option linter.unusedSimpArgs false
namespace Go.Proofs.Ytpfbpgbgedbalaa
open Go.RowKit

def F.app : F → F → F
  | .nil, g => g
  | .cons o s l h k a r, g => .cons o s l h k a (r.app g)
theorem F.app_nil : ∀ f : F, f.app .nil = f
  | .nil => rfl
  | .cons o s l h k a r => by show F.cons o s l h k a (r.app .nil) = _; rw [F.app_nil r]
theorem F.push_app : ∀ (f : F) (t : TN) (g : F), (f.push t).app g = f.app (.cons t.op t.st t.lo t.hi t.g t.args g)
  | .nil, t, g => rfl
  | .cons o s l h k a r, t, g => by show F.cons o s l h k a ((r.push t).app g) = F.cons o s l h k a (r.app _); rw [F.push_app r]
theorem F.app_len : ∀ (f g : F), (f.app g).len = f.len + g.len
  | .nil, g => by show g.len = 0 + g.len; omega
  | .cons o s l h k a r, g => by show (r.app g).len + 1 = r.len + 1 + g.len; rw [F.app_len r]; omega
/-- A tree many times. -/
def timesF : Nat → TN → F → F
  | 0, _, f => f
  | n + 1, t, f => timesF n t (f.push t)
theorem timesF_len : ∀ (n : Nat) (t : TN) (f : F), (timesF n t f).len = f.len + n
  | 0, _, f => rfl
  | n + 1, t, f => by rw [timesF, timesF_len n, F.len_push]; omega
theorem timesF_succ : ∀ (n : Nat) (t : TN) (f : F), timesF (n + 1) t f = (timesF n t f).push t
  | 0, _, _ => rfl
  | n + 1, t, f => by rw [timesF, timesF_succ n, timesF]
def repT (l h : Int) (x : TN) : TN := ⟨5, noSet, l, h, 0, F.nil.push x⟩
def seqF (t : TN) (x : TN) : F := timesF (rpT t.lo t.hi).toNat (repT (loT t.lo t.hi) (hiT t.lo t.hi) x) (timesF (cpT t.lo t.hi).toNat x .nil)
def catT : F → TN
  | .nil => ⟨1, noSet, 0, 0, 0, .nil⟩
  | .cons o s l h g a .nil => ⟨o, s, l, h, g, a⟩
  | f => ⟨3, noSet, 0, 0, 0, f⟩
/-- A node whose Args have been expanded. -/
def expN (t : TN) (ea : F) : TN := if t.op = 5 then catT (seqF t (ea.nth 0)) else ⟨t.op, t.st, t.lo, t.hi, t.g, ea⟩
def expF : F → F
  | .nil => .nil
  | .cons o s l h g a r => .cons (expN ⟨o, s, l, h, g, a⟩ (expF a)).op (expN ⟨o, s, l, h, g, a⟩ (expF a)).st (expN ⟨o, s, l, h, g, a⟩ (expF a)).lo (expN ⟨o, s, l, h, g, a⟩ (expF a)).hi (expN ⟨o, s, l, h, g, a⟩ (expF a)).g (expN ⟨o, s, l, h, g, a⟩ (expF a)).args (expF r)
def expT (t : TN) : TN := expN t (expF t.args)
theorem expF_len : ∀ f : F, (expF f).len = f.len
  | .nil => rfl
  | .cons o s l h g a r => by show (expF r).len + 1 = r.len + 1; rw [expF_len r]
theorem expF_nth : ∀ (f : F) (i : Nat), i < f.len → (expF f).nth i = expT (f.nth i)
  | .nil, _, h => by cases h
  | .cons o s l h g a r, 0, _ => rfl
  | .cons o s l h g a r, i + 1, hi => expF_nth r i (by have : i + 1 < r.len + 1 := hi; omega)
theorem expF_drop (f : F) (k : Nat) (hk : k < f.len) : expF (f.drop k) = .cons (expT (f.nth k)).op (expT (f.nth k)).st (expT (f.nth k)).lo (expT (f.nth k)).hi (expT (f.nth k)).g (expT (f.nth k)).args (expF (f.drop (k + 1))) := by
  rw [F.drop_step f k hk]
  rfl
/-- What expanded may count on, at every node. -/
def okE : F → Prop
  | .nil => True
  | .cons o _ l h _ a r => (a.len ≤ 600 ∧ (o = 5 → a.len = 1 ∧ (0 ≤ l ∧ l ≤ 64) ∧ (h = -1 ∨ (l ≤ h ∧ h ≤ 64)))) ∧ okE a ∧ okE r
theorem okE_nth : ∀ (f : F) (k : Nat), okE f → k < f.len → okE (.cons (f.nth k).op (f.nth k).st (f.nth k).lo (f.nth k).hi (f.nth k).g (f.nth k).args .nil)
  | .nil, _, _, h => by cases h
  | .cons o s l h g a r, 0, hf, _ => ⟨hf.1, hf.2.1, trivial⟩
  | .cons o s l h g a r, k + 1, hf, hk => okE_nth r k hf.2.2 (by have : k + 1 < r.len + 1 := hk; omega)
theorem okE_of : ∀ (f : F) (c d : List Bool), vF f c = some d → szF f ≤ 600 → okE f
  | .nil, _, _, _, _ => trivial
  | .cons o s l hh g a r, c, d, h, hz => by
    have hz' : szF a + 1 + szF r ≤ 600 := hz
    rw [vF] at h
    by_cases hok : okN o s l hh g a.len c = true
    case neg => rw [if_neg hok] at h; cases h
    rw [if_pos hok] at h
    have hp := okN_parts hok
    have hhav : havT o a.len = true := by have := hp.1; unfold fldT at this; simp only [Bool.and_eq_true] at this; exact this.1
    cases hva : vF a (if o = 6 then c ++ [false] else c) with
    | none => rw [hva] at h; cases h
    | some e =>
      rw [hva] at h
      replace h : vF r (if o = 6 then e.set c.length true else e) = some d := h
      have hl := len_sz a
      refine ⟨⟨by omega, fun o5 => ?_⟩, okE_of a _ _ hva (by omega), okE_of r _ _ h (by omega)⟩
      subst o5
      have hb := bnd_of (hp.2.1 rfl)
      exact ⟨havT_5 hhav, ⟨hb.1, hb.2.1⟩, hb.2.2⟩

/-- A list of trees that the call makes: its own row, and the trees in other blocks from n on. -/
structure OF (w : World) (n : Nat) (f : F) (v : Value) : Prop where
  own : ∃ xs, w.ownsRow n 28 9 v f.len xs ∧ FV w (fun b => n ≤ b ∧ ¬ v.ownBlock = some b) f xs
theorem OF.nil (w : World) (n : Nat) : OF w n .nil (.slice none 0 0) := ⟨[], ⟨by rfl, .inl ⟨rfl, rfl⟩⟩, rfl⟩
theorem OF.below {w w' : World} {n : Nat} {f : F} {v : Value} (h : OF w n f v) (hb : Below w.heap.size w w') : OF w' n f v := by
  obtain ⟨xs, h1, h2⟩ := h
  exact ⟨xs, own_below h1 hb, h2.far (Afar.below hb)⟩
theorem OF.keep {S : Nat → Prop} {w w' : World} {n : Nat} {f : F} {v : Value} (h : OF w n f v) (hb : Keep S w w') (hS : ∀ b, S b → b < n) : OF w' n f v := by
  obtain ⟨xs, h1, h2⟩ := h
  refine ⟨xs, own_keep h1 hb (fun g hg e => by have := (own_at h1 g hg).1; have := hS g e; omega), h2.far ⟨hb.size, fun b h3 h4 => ⟨h3, hb.block b h4 (fun e => by have := hS b e; have := h3.1; omega)⟩⟩⟩
theorem OF.sv {w : World} {n : Nat} {f : F} {v : Value} (h : OF w n f v) : SV w (Frm n) f v := by
  obtain ⟨xs, h1, h2⟩ := h
  exact SV.own (h2.far (T := Frm n) ⟨Nat.le_refl _, fun b h3 _ => ⟨h3.1, rfl⟩⟩) (fun g hg => (own_at h1 g hg).1) h1
theorem infoRe : (Try.prog.info? 28).map (fun i => (i.zero, i.size, i.bytes)) = some (some (.agg #[.int .i64 0, .int .u64 0, .int .u64 0, .int .u64 0, .int .u64 0, .int .i64 0, .int .i64 0, .int .i64 0, .slice none 0 0]), 9, 88) := by kernel_rfl
theorem isz_re : (Try.prog.info? 28).map (·.size) = some 9 := by kernel_rfl
/-- A tree more: what app1 leaves, in OF's words. -/
theorem OF.push {w w1 w8 : World} {n : Nat} {f : F} {v sv : Value} {x : TN} {g0 cap0 : Nat} (h : OF w n f v) (hb : Below w.heap.size w w1) (hx : SV w1 (Frm w.heap.size) x.args sv)
    {xs : List Value} (hxs : w.ownsRow n 28 9 v f.len xs) (hfv : FV w (fun b => n ≤ b ∧ ¬ v.ownBlock = some b) f xs)
    (ho : w8.ownsRow n 28 9 (.slice (some ⟨g0, 0, none⟩) (f.len + 1) cap0) (f.len + 1) (xs ++ rowV x.op x.st x.lo x.hi x.g sv)) (hk : Keep (fun b => v.ownBlock = some b) w1 w8) (hg : v.ownBlock = some g0 ∨ w1.heap.size ≤ g0) (hn : n ≤ w.heap.size) :
    OF w8 n (f.push x) (.slice (some ⟨g0, 0, none⟩) (f.len + 1) cap0) := by
  have hown := own_at hxs
  have hz := hb.size
  refine ⟨xs ++ rowV x.op x.st x.lo x.hi x.g sv, by rw [F.len_push]; exact ho, FV.push ?_ ?_⟩
  · refine hx.far ⟨hk.size, fun b h1 h2 => ⟨⟨by have h1 : w.heap.size ≤ b := h1; omega, fun e => ?_⟩, hk.block b h2 (fun e => by have := (hown b e).2; have h1 : w.heap.size ≤ b := h1; omega)⟩⟩
    have h1 : w.heap.size ≤ b := h1
    have e : g0 = b := by cases e; rfl
    subst e
    rcases hg with hg | hg
    · have := (hown g0 hg).2; omega
    · omega
  · refine hfv.far ⟨by have := hk.size; omega, fun b h1 h2 => ⟨⟨h1.1, fun e => ?_⟩, (hk.block b (by omega) h1.2).trans (hb.block b h2)⟩⟩
    have e : g0 = b := by cases e; rfl
    subst e
    rcases hg with hg | hg
    · exact h1.2 hg
    · omega
end Go.Proofs.Ytpfbpgbgedbalaa
