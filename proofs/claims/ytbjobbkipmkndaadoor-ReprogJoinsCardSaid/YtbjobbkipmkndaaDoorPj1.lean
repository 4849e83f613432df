/- RtEq, RtMath, RtValid. -/
import Derived.Test.YtbjobbkipmkndaaDoorRows
import Derived.Test.YtbjobbkipmkndaaDoorPj0
import Derived.ChangeKeysEq
set_option linter.unusedVariables false
namespace Go.Proofs.YtbjobbkipmkndaaDoor
open Go.RowKit
set_option maxRecDepth 100000
theorem part_words (a b c d : Int) (w : World) : (part 29 #[.int .u64 a, .int .u64 b, .int .u64 c, .int .u64 d] 0).run Tryd.prog w = .ok (.agg #[.int .u64 a, .int .u64 b, .int .u64 c, .int .u64 d]) w := by kernel_rfl
theorem part_0 (a b c d : Int) (w : World) : (part 28 #[.int .u64 a, .int .u64 b, .int .u64 c, .int .u64 d] 0).run Tryd.prog w = .ok (.int .u64 a) w := by kernel_rfl
theorem part_1 (a b c d : Int) (w : World) : (part 28 #[.int .u64 a, .int .u64 b, .int .u64 c, .int .u64 d] 1).run Tryd.prog w = .ok (.int .u64 b) w := by kernel_rfl
theorem part_2 (a b c d : Int) (w : World) : (part 28 #[.int .u64 a, .int .u64 b, .int .u64 c, .int .u64 d] 2).run Tryd.prog w = .ok (.int .u64 c) w := by kernel_rfl
theorem part_3 (a b c d : Int) (w : World) : (part 28 #[.int .u64 a, .int .u64 b, .int .u64 c, .int .u64 d] 3).run Tryd.prog w = .ok (.int .u64 d) w := by kernel_rfl
theorem info_word : ∃ i, Tryd.prog.info? 28 = some i ∧ Tryd.prog.cellsOf 28 = 1 := ⟨_, rfl, by kernel_rfl⟩
theorem eq_arr (k : Nat) (a b c d a' b' c' d' : Int) (w : World) : (Op.equalIn (k + 2) 29 (.agg #[.int .u64 a, .int .u64 b, .int .u64 c, .int .u64 d]) (.agg #[.int .u64 a', .int .u64 b', .int .u64 c', .int .u64 d'])).run Tryd.prog w = .ok (a == a' && (b == b' && (c == c' && d == d'))) w := by
  obtain ⟨i, hi, hc⟩ := info_word
  rw [run_equalIn_array w (k + 1) _ _ Tryd.underlying29 hi, hc, show List.range 4 = [0, 1, 2, 3] from rfl]
  by_cases h0 : a = a' <;> by_cases h1 : b = b' <;> by_cases h2 : c = c' <;> by_cases h3 : d = d' <;>
    simp [Op.eqItems, part_0, part_1, part_2, part_3, run_equalIn_int w k 28 .u64 .u64 _ _ Tryd.underlying28, *]
theorem fields_cs : ∃ f : Field, Tryd.prog.fieldsOf 31 = #[f] ∧ f.name ≠ "_" ∧ f.type = 29 ∧ f.offset = 0 := ⟨_, rfl, by decide, rfl, rfl⟩
theorem equal_cs (a b c d a' b' c' d' : Int) (w : World) : (Op.equalIn 10000 31 (.agg #[.int .u64 a, .int .u64 b, .int .u64 c, .int .u64 d]) (.agg #[.int .u64 a', .int .u64 b', .int .u64 c', .int .u64 d'])).run Tryd.prog w = .ok (a == a' && (b == b' && (c == c' && d == d'))) w := by
  obtain ⟨f, hf, hn, ht, ho⟩ := fields_cs
  rw [run_equalIn_agg w 9999 31 _ _ (by kernel_rfl) (by kernel_rfl), hf]
  cases hb : (a == a' && (b == b' && (c == c' && d == d'))) <;> simp [Op.eqFields, hn, ht, ho, part_words, eq_arr 9997, hb]
def eqc (p q : Nat → Bool) : Bool := ((wd p 0 64 : Nat) : Int) == ((wd q 0 64 : Nat) : Int) && (((wd p 64 64 : Nat) : Int) == ((wd q 64 64 : Nat) : Int) && (((wd p 128 64 : Nat) : Int) == ((wd q 128 64 : Nat) : Int) && ((wd p 192 64 : Nat) : Int) == ((wd q 192 64 : Nat) : Int)))
theorem eqc_iff (p q : Nat → Bool) : eqc p q = true ↔ ∀ c, c < 256 → p c = q c := by
  unfold eqc
  simp only [Bool.and_eq_true, beq_iff_eq, Int.natCast_inj]
  constructor
  · rintro ⟨h0, h1, h2, h3⟩ c hc
    by_cases a0 : c < 64
    · simpa using wd_inj p q 0 64 h0 c a0
    · by_cases a1 : c < 128
      · have := wd_inj p q 64 64 h1 (c - 64) (by omega)
        rwa [show 64 + (c - 64) = c by omega] at this
      · by_cases a2 : c < 192
        · have := wd_inj p q 128 64 h2 (c - 128) (by omega)
          rwa [show 128 + (c - 128) = c by omega] at this
        · have := wd_inj p q 192 64 h3 (c - 192) (by omega)
          rwa [show 192 + (c - 192) = c by omega] at this
  · intro h
    exact ⟨wd_congr p q 0 64 fun k hk => h _ (by omega), wd_congr p q 64 64 fun k hk => h _ (by omega), wd_congr p q 128 64 fun k hk => h _ (by omega), wd_congr p q 192 64 fun k hk => h _ (by omega)⟩
theorem eqc_self (p : Nat → Bool) : eqc p p = true := (eqc_iff p p).2 fun _ _ => rfl
theorem neq_cs (p q : Nat → Bool) (w : World) : (binOp .neq 31 (cs p) (cs q)).run Tryd.prog w = .ok (.bool (!eqc p q)) w := by
  unfold cs cl
  rw [run_neq_struct, equal_cs]
  rfl
theorem wd_noSet : (wd noSet 0 64 : Nat) = 0 ∧ (wd noSet 64 64 : Nat) = 0 ∧ (wd noSet 128 64 : Nat) = 0 ∧ (wd noSet 192 64 : Nat) = 0 := by decide +kernel
theorem cmp_full {st : Nat → Bool} (h : eqc st noSet = false) (w : World) : (binOp .neq 31 (.agg #[.int .u64 (wd st 0 64 : Nat), .int .u64 (wd st 64 64 : Nat), .int .u64 (wd st 128 64 : Nat), .int .u64 (wd st 192 64 : Nat)]) (.agg #[.int .u64 0, .int .u64 0, .int .u64 0, .int .u64 0])).run Tryd.prog w = .ok (.bool true) w := by
  have := neq_cs st noSet w
  rw [h] at this
  unfold cs cl at this
  rw [wd_noSet.1, wd_noSet.2.1, wd_noSet.2.2.1, wd_noSet.2.2.2] at this
  exact this
set_option maxRecDepth 100000 in
set_option maxHeartbeats 8000000 in
theorem cmp_none {st : Nat → Bool} (h : eqc st noSet = true) (w : World) : (binOp .neq 31 (.agg #[.int .u64 (wd st 0 64 : Nat), .int .u64 (wd st 64 64 : Nat), .int .u64 (wd st 128 64 : Nat), .int .u64 (wd st 192 64 : Nat)]) (.agg #[.int .u64 0, .int .u64 0, .int .u64 0, .int .u64 0])).run Tryd.prog w = .ok (.bool false) w := by
  have := neq_cs st noSet w
  rw [h] at this
  unfold cs cl at this
  rw [wd_noSet.1, wd_noSet.2.1, wd_noSet.2.2.1, wd_noSet.2.2.2] at this
  exact this
end Go.Proofs.YtbjobbkipmkndaaDoor
set_option linter.unusedVariables false
namespace Go.Proofs.YtbjobbkipmkndaaDoor
open Go.RowKit
structure SQ where
  n : Nat
  lv : Nat
  bk : Bool
  cl : List Bool
  wt : Bool
  wr : Bool
  wn : Bool
  st : Bool
def SQ0 : SQ := ⟨0, 0, false, [], false, false, false, false⟩
def havT (o : Int) (n : Nat) : Bool :=
  if o = 1 ∨ o = 2 ∨ o = 7 ∨ o = 8 ∨ o = 9 then decide (n = 0) else if o = 5 ∨ o = 6 then decide (n = 1) else if o = 3 ∨ o = 4 then decide (2 ≤ n) else false
def fldT (o : Int) (s : Nat → Bool) (l h g : Int) (n : Nat) : Bool :=
  havT o n && (((!eqc s noSet) == decide (o = 2)) && ((decide (o = 5) || (decide (l = 0) && decide (h = 0))) && ((decide (o = 6) || decide (o = 9)) || decide (g = 0))))
def bndT (l h : Int) : Bool := decide (0 ≤ l) && (decide (l ≤ 64) && (decide (h = -1) || (decide (l ≤ h) && decide (h ≤ 64))))
def SQ.closed (q : SQ) (g : Int) : Bool := decide (1 ≤ g) && (decide (g ≤ (q.cl.length : Int)) && q.cl.getD (g - 1).toNat false)
def stopB (lvl : Nat) (q : SQ) : Bool := q.st || (decide (65536 < lvl) || decide (q.n = 2147483647))
def preQ (o : Int) (s : Nat → Bool) (l h g : Int) (n : Nat) (lvl : Nat) (q : SQ) : SQ :=
  { q with n := q.n + 1, lv := max q.lv lvl, bk := q.bk || decide (o = 9), wt := q.wt || !fldT o s l h g n, wr := q.wr || (decide (o = 5) && !bndT l h), wn := q.wn || (decide (o = 9) && !q.closed g) }
def openQ (g : Int) (q : SQ) : SQ := { q with wr := q.wr || !decide (g = (q.cl.length : Int) + 1), cl := q.cl ++ [false] }
def closeQ (i : Nat) (q : SQ) : SQ := { q with cl := q.cl.set i true }
def walkF : F → Nat → SQ → SQ
  | .nil, _, q => q
  | .cons o s l h g a r, lvl, q =>
    walkF r lvl (if stopB lvl q = true then { q with st := true } else
      if o = 6 then closeQ q.cl.length (walkF a (lvl + 1) (openQ g (preQ o s l h g a.len lvl q))) else walkF a (lvl + 1) (preQ o s l h g a.len lvl q))
def walkT (t : TN) (lvl : Nat) (q : SQ) : SQ :=
  if stopB lvl q = true then { q with st := true } else
    if t.op = 6 then closeQ q.cl.length (walkF t.args (lvl + 1) (openQ t.g (preQ t.op t.st t.lo t.hi t.g t.args.len lvl q))) else walkF t.args (lvl + 1) (preQ t.op t.st t.lo t.hi t.g t.args.len lvl q)
theorem walkF_cons (o : Int) (s : Nat → Bool) (l h g : Int) (a r : F) (lvl : Nat) (q : SQ) : walkF (.cons o s l h g a r) lvl q = walkF r lvl (walkT ⟨o, s, l, h, g, a⟩ lvl q) := rfl
def survT (t : TN) : SQ := walkT t 1 SQ0
def errQ (q : SQ) : Int := if q.wt then 7 else if q.wr then 2 else if q.wn then 4 else if 600 < q.n ∨ 9 < q.cl.length ∨ 32 < q.lv then 3 else 0
def checkT (t : TN) : Int := errQ (survT t)
def SQ.Ok (q : SQ) : Prop := q.n ≤ 2147483647 ∧ q.lv ≤ 65536 ∧ q.cl.length ≤ q.n
theorem stop_or {lvl : Nat} {q : SQ} (hq : q.Ok) (h : ¬ stopB lvl q = true) : q.n < 2147483647 ∧ lvl ≤ 65536 ∧ q.st = false := by
  unfold stopB at h
  simp only [Bool.or_eq_true, decide_eq_true_eq, not_or] at h
  have := hq.1
  exact ⟨by omega, by omega, by simpa using h.1⟩
theorem pre_ok {o : Int} {s : Nat → Bool} {l h g : Int} {n lvl : Nat} {q : SQ} (hq : q.Ok) (hn : q.n < 2147483647) (hl : lvl ≤ 65536) : (preQ o s l h g n lvl q).Ok := by
  obtain ⟨h1, h2, h3⟩ := hq
  refine ⟨?_, ?_, ?_⟩
  · show q.n + 1 ≤ _; omega
  · show max q.lv lvl ≤ _; omega
  · show q.cl.length ≤ q.n + 1; omega
theorem open_ok {o : Int} {s : Nat → Bool} {l h g : Int} {n lvl : Nat} {q : SQ} (hq : q.Ok) (hn : q.n < 2147483647) (hl : lvl ≤ 65536) : (openQ g (preQ o s l h g n lvl q)).Ok := by
  obtain ⟨h1, h2, h3⟩ := hq
  refine ⟨?_, ?_, ?_⟩
  · show q.n + 1 ≤ _; omega
  · show max q.lv lvl ≤ _; omega
  · show (q.cl ++ [false]).length ≤ q.n + 1; rw [List.length_append]; show q.cl.length + 1 ≤ _; omega
theorem close_ok {i : Nat} {q : SQ} (hq : q.Ok) : (closeQ i q).Ok := ⟨hq.1, hq.2.1, by show (q.cl.set i true).length ≤ q.n; rw [List.length_set]; exact hq.2.2⟩
theorem walkF_ok : ∀ (f : F) (lvl : Nat) (q : SQ), q.Ok → (walkF f lvl q).Ok ∧ q.cl.length ≤ (walkF f lvl q).cl.length
  | .nil, _, q, hq => ⟨hq, Nat.le_refl _⟩
  | .cons o s l h g a r, lvl, q, hq => by
    rw [walkF]
    by_cases hs : stopB lvl q = true
    · rw [if_pos hs]
      exact walkF_ok r lvl { q with st := true } hq
    · rw [if_neg hs]
      have hb := stop_or hq hs
      by_cases h6 : o = 6
      · rw [if_pos h6]
        have h1 := walkF_ok a (lvl + 1) _ (open_ok (o := o) (s := s) (l := l) (h := h) (g := g) (n := a.len) (lvl := lvl) hq hb.1 hb.2.1)
        have h2 := walkF_ok r lvl _ (close_ok (i := q.cl.length) h1.1)
        refine ⟨h2.1, Nat.le_trans ?_ h2.2⟩
        have : (openQ g (preQ o s l h g a.len lvl q)).cl.length = q.cl.length + 1 := by show (q.cl ++ [false]).length = _; simp
        show q.cl.length ≤ (List.set _ _ _).length
        rw [List.length_set]
        have := h1.2
        omega
      · rw [if_neg h6]
        have h1 := walkF_ok a (lvl + 1) _ (pre_ok (o := o) (s := s) (l := l) (h := h) (g := g) (n := a.len) (lvl := lvl) hq hb.1 hb.2.1)
        have h2 := walkF_ok r lvl _ h1.1
        exact ⟨h2.1, Nat.le_trans h1.2 h2.2⟩
theorem walkT_ok (t : TN) (lvl : Nat) (q : SQ) (hq : q.Ok) : (walkT t lvl q).Ok := by
  have := (walkF_ok (.cons t.op t.st t.lo t.hi t.g t.args .nil) lvl q hq).1
  exact this
theorem surv_ok (t : TN) : (survT t).Ok := walkT_ok t 1 SQ0 ⟨by decide, by decide, by decide⟩
end Go.Proofs.YtbjobbkipmkndaaDoor
set_option linter.unusedVariables false
namespace Go.Proofs.YtbjobbkipmkndaaDoor
open Go.RowKit
def clB (c : List Bool) (g : Int) : Bool := decide (1 ≤ g) && (decide (g ≤ (c.length : Int)) && c.getD (g - 1).toNat false)
def okN (o : Int) (s : Nat → Bool) (l h g : Int) (n : Nat) (c : List Bool) : Bool :=
  fldT o s l h g n && ((!decide (o = 5) || bndT l h) && ((!decide (o = 9) || clB c g) && (!decide (o = 6) || decide (g = (c.length : Int) + 1))))
def vF : F → List Bool → Option (List Bool)
  | .nil, c => some c
  | .cons o s l h g a r, c =>
    if okN o s l h g a.len c = true then
      match vF a (if o = 6 then c ++ [false] else c) with
      | none => none
      | some d => vF r (if o = 6 then d.set c.length true else d)
    else none
def szF : F → Nat
  | .nil => 0
  | .cons _ _ _ _ _ a r => szF a + 1 + szF r
def lvlF : F → Nat
  | .nil => 0
  | .cons _ _ _ _ _ a r => max (lvlF a + 1) (lvlF r)
def bkF : F → Bool
  | .nil => false
  | .cons o _ _ _ _ a r => decide (o = 9) || (bkF a || bkF r)
def TN.f (t : TN) : F := .cons t.op t.st t.lo t.hi t.g t.args .nil
def Valid (t : TN) : Prop := ∃ c, vF t.f [] = some c ∧ c.length ≤ 9 ∧ szF t.f ≤ 600 ∧ lvlF t.f ≤ 32
structure SQ.Le (q q' : SQ) : Prop where
  n : q.n ≤ q'.n
  lv : q.lv ≤ q'.lv
  wt : q.wt = true → q'.wt = true
  wr : q.wr = true → q'.wr = true
  wn : q.wn = true → q'.wn = true
  st : q.st = true → q'.st = true
  cl : q.cl.length ≤ q'.cl.length
theorem SQ.Le.refl (q : SQ) : q.Le q := ⟨Nat.le_refl _, Nat.le_refl _, id, id, id, id, Nat.le_refl _⟩
theorem SQ.Le.trans {a b c : SQ} (h : a.Le b) (k : b.Le c) : a.Le c := ⟨Nat.le_trans h.n k.n, Nat.le_trans h.lv k.lv, fun x => k.wt (h.wt x), fun x => k.wr (h.wr x), fun x => k.wn (h.wn x), fun x => k.st (h.st x), Nat.le_trans h.cl k.cl⟩
theorem pre_le (o : Int) (s : Nat → Bool) (l h g : Int) (n lvl : Nat) (q : SQ) : q.Le (preQ o s l h g n lvl q) :=
  ⟨Nat.le_succ _, Nat.le_max_left _ _, fun x => by show (q.wt || _) = true; rw [x]; rfl, fun x => by show (q.wr || _) = true; rw [x]; rfl, fun x => by show (q.wn || _) = true; rw [x]; rfl, id, Nat.le_refl _⟩
theorem open_le (g : Int) (q : SQ) : q.Le (openQ g q) :=
  ⟨Nat.le_refl _, Nat.le_refl _, id, fun x => by show (q.wr || _) = true; rw [x]; rfl, id, id, by show _ ≤ (q.cl ++ [false]).length; simp⟩
theorem close_le (i : Nat) (q : SQ) : q.Le (closeQ i q) :=
  ⟨Nat.le_refl _, Nat.le_refl _, id, id, id, id, by show _ ≤ (q.cl.set i true).length; simp⟩
theorem st_le (q : SQ) : q.Le { q with st := true } := ⟨Nat.le_refl _, Nat.le_refl _, id, id, id, fun _ => rfl, Nat.le_refl _⟩
theorem walkF_le : ∀ (f : F) (lvl : Nat) (q : SQ), q.Le (walkF f lvl q)
  | .nil, _, q => .refl q
  | .cons o s l h g a r, lvl, q => by
    rw [walkF]
    refine .trans ?_ (walkF_le r lvl _)
    by_cases hs : stopB lvl q = true
    · rw [if_pos hs]
      exact st_le q
    · rw [if_neg hs]
      by_cases h6 : o = 6
      · rw [if_pos h6]
        exact (((pre_le o s l h g a.len lvl q).trans (open_le g _)).trans (walkF_le a (lvl + 1) _)).trans (close_le _ _)
      · rw [if_neg h6]
        exact (pre_le o s l h g a.len lvl q).trans (walkF_le a (lvl + 1) _)
structure SQ.Fine (q : SQ) : Prop where
  wt : q.wt = false
  wr : q.wr = false
  wn : q.wn = false
  n : q.n ≤ 600
  lv : q.lv ≤ 32
theorem SQ.Le.fine {q q' : SQ} (h : q.Le q') (k : q'.Fine) : q.Fine := by
  refine ⟨?_, ?_, ?_, Nat.le_trans h.n k.n, Nat.le_trans h.lv k.lv⟩
  · cases e : q.wt
    · rfl
    · have := h.wt e; rw [k.wt] at this; cases this
  · cases e : q.wr
    · rfl
    · have := h.wr e; rw [k.wr] at this; cases this
  · cases e : q.wn
    · rfl
    · have := h.wn e; rw [k.wn] at this; cases this
theorem okN_of {o : Int} {s : Nat → Bool} {l h g : Int} {n lvl : Nat} {q : SQ} (h1 : (preQ o s l h g n lvl q).Fine) (h2 : o = 6 → (openQ g (preQ o s l h g n lvl q)).Fine) : okN o s l h g n q.cl = true := by
  have a1 : (q.wt || !fldT o s l h g n) = false := h1.wt
  have a2 : (q.wr || (decide (o = 5) && !bndT l h)) = false := h1.wr
  have a3 : (q.wn || (decide (o = 9) && !q.closed g)) = false := h1.wn
  simp only [Bool.or_eq_false_iff] at a1 a2 a3
  unfold okN
  have b1 : fldT o s l h g n = true := by simpa using a1.2
  have b2 : (!decide (o = 5) || bndT l h) = true := by
    have := a2.2
    cases hh : decide (o = 5) <;> simp_all
  have b3 : (!decide (o = 9) || clB q.cl g) = true := by
    have := a3.2
    show (!decide (o = 9) || q.closed g) = true
    cases hh : decide (o = 9) <;> simp_all
  have b4 : (!decide (o = 6) || decide (g = (q.cl.length : Int) + 1)) = true := by
    by_cases h6 : o = 6
    · have := (h2 h6).wr
      have a4 : ((preQ o s l h g n lvl q).wr || !decide (g = (q.cl.length : Int) + 1)) = false := this
      simp only [Bool.or_eq_false_iff] at a4
      have := a4.2
      simp_all
    · simp [h6]
  rw [b1, b2, b3, b4]
  rfl
theorem walkF_fine : ∀ (f : F) (lvl : Nat) (q : SQ), q.st = false → lvl ≤ q.lv + 1 → (walkF f lvl q).Fine →
    vF f q.cl = some (walkF f lvl q).cl ∧ (walkF f lvl q).n = q.n + szF f ∧ (walkF f lvl q).lv = max q.lv (lvl + lvlF f - 1) ∧ (walkF f lvl q).st = false ∧ (walkF f lvl q).bk = (q.bk || bkF f)
  | .nil, lvl, q, hs, hl, hf => by
    refine ⟨rfl, rfl, ?_, hs, ?_⟩
    · show q.lv = max q.lv (lvl + 0 - 1); omega
    · show q.bk = (q.bk || false); simp
  | .cons o s l h g a r, lvl, q, hs, hl, hf => by
    have hq := (walkF_le (.cons o s l h g a r) lvl q).fine hf
    have hstop : ¬ stopB lvl q = true := by
      unfold stopB
      simp only [Bool.or_eq_true, decide_eq_true_eq, not_or]
      have := hq.n
      have := hq.lv
      exact ⟨by simp [hs], by omega, by omega⟩
    rw [walkF, if_neg hstop] at hf ⊢
    by_cases h6 : o = 6
    · rw [if_pos h6] at hf ⊢
      have f1 := (walkF_le r lvl _).fine hf
      have f2 := (close_le _ _).fine f1
      have f3 := (walkF_le a (lvl + 1) _).fine f2
      have f4 := (open_le _ _).fine f3
      have hok := okN_of f4 (fun _ => f3)
      obtain ⟨i1, i2, i3, i4, i5⟩ := walkF_fine a (lvl + 1) (openQ g (preQ o s l h g a.len lvl q)) hs (by show lvl + 1 ≤ max q.lv lvl + 1; omega) f2
      generalize walkF a (lvl + 1) (openQ g (preQ o s l h g a.len lvl q)) = qa at *
      obtain ⟨j1, j2, j3, j4, j5⟩ := walkF_fine r lvl (closeQ q.cl.length qa) i4 (by show lvl ≤ qa.lv + 1; rw [i3]; show lvl ≤ max (max q.lv lvl) _ + 1; omega) hf
      generalize walkF r lvl (closeQ q.cl.length qa) = qr at *
      refine ⟨?_, ?_, ?_, j4, ?_⟩
      · rw [vF, if_pos hok, if_pos h6]
        have i1' : vF a (q.cl ++ [false]) = some qa.cl := i1
        rw [i1']
        show vF r (if o = 6 then qa.cl.set q.cl.length true else qa.cl) = _
        rw [if_pos h6]
        exact j1
      · rw [j2]
        show qa.n + szF r = q.n + (szF a + 1 + szF r)
        rw [i2]
        show q.n + 1 + szF a + szF r = _
        omega
      · rw [j3]
        show max qa.lv _ = max q.lv (lvl + max (lvlF a + 1) (lvlF r) - 1)
        rw [i3]
        show max (max (max q.lv lvl) (lvl + 1 + lvlF a - 1)) (lvl + lvlF r - 1) = _
        omega
      · rw [j5]
        show (qa.bk || bkF r) = _
        rw [i5]
        show ((q.bk || decide (o = 9)) || bkF a || bkF r) = (q.bk || (decide (o = 9) || (bkF a || bkF r)))
        cases q.bk <;> cases decide (o = 9) <;> rfl
    · rw [if_neg h6] at hf ⊢
      have f1 := (walkF_le r lvl _).fine hf
      have f3 := (walkF_le a (lvl + 1) _).fine f1
      have hok := okN_of f3 (fun k => absurd k h6)
      obtain ⟨i1, i2, i3, i4, i5⟩ := walkF_fine a (lvl + 1) (preQ o s l h g a.len lvl q) hs (by show lvl + 1 ≤ max q.lv lvl + 1; omega) f1
      generalize walkF a (lvl + 1) (preQ o s l h g a.len lvl q) = qa at *
      obtain ⟨j1, j2, j3, j4, j5⟩ := walkF_fine r lvl qa i4 (by rw [i3]; show lvl ≤ max (max q.lv lvl) _ + 1; omega) hf
      generalize walkF r lvl qa = qr at *
      refine ⟨?_, ?_, ?_, j4, ?_⟩
      · rw [vF, if_pos hok, if_neg h6]
        have i1' : vF a q.cl = some qa.cl := i1
        rw [i1']
        show vF r (if o = 6 then qa.cl.set q.cl.length true else qa.cl) = _
        rw [if_neg h6]
        exact j1
      · rw [j2, i2]
        show q.n + 1 + szF a + szF r = q.n + (szF a + 1 + szF r)
        omega
      · rw [j3, i3]
        show max (max (max q.lv lvl) (lvl + 1 + lvlF a - 1)) (lvl + lvlF r - 1) = max q.lv (lvl + max (lvlF a + 1) (lvlF r) - 1)
        omega
      · rw [j5, i5]
        show ((q.bk || decide (o = 9)) || bkF a || bkF r) = (q.bk || (decide (o = 9) || (bkF a || bkF r)))
        cases q.bk <;> cases decide (o = 9) <;> rfl
theorem okN_pre {o : Int} {s : Nat → Bool} {l h g : Int} {n lvl : Nat} {q : SQ} (hk : okN o s l h g n q.cl = true) : (preQ o s l h g n lvl q).wt = q.wt ∧ (preQ o s l h g n lvl q).wr = q.wr ∧ (preQ o s l h g n lvl q).wn = q.wn ∧ (o = 6 → (openQ g (preQ o s l h g n lvl q)).wr = q.wr) := by
  unfold okN at hk
  simp only [Bool.and_eq_true] at hk
  obtain ⟨h1, h2, h3, h4⟩ := hk
  refine ⟨?_, ?_, ?_, fun h6 => ?_⟩
  · show (q.wt || !fldT o s l h g n) = q.wt; rw [h1]; simp
  · show (q.wr || (decide (o = 5) && !bndT l h)) = q.wr
    cases hh : decide (o = 5) <;> simp_all
  · show (q.wn || (decide (o = 9) && !q.closed g)) = q.wn
    have h3' : (!decide (o = 9) || q.closed g) = true := h3
    cases hh : decide (o = 9) <;> simp_all
  · show ((q.wr || (decide (o = 5) && !bndT l h)) || !decide (g = (q.cl.length : Int) + 1)) = q.wr
    subst h6
    simp_all
theorem walkF_right : ∀ (f : F) (lvl : Nat) (q : SQ) (c : List Bool), q.st = false → vF f q.cl = some c → q.n + szF f ≤ 600 → lvl + lvlF f ≤ 33 →
    (walkF f lvl q).cl = c ∧ (walkF f lvl q).wt = q.wt ∧ (walkF f lvl q).wr = q.wr ∧ (walkF f lvl q).wn = q.wn ∧ (walkF f lvl q).st = false ∧ (walkF f lvl q).n = q.n + szF f ∧ (q.lv ≤ 32 → (walkF f lvl q).lv ≤ 32)
  | .nil, lvl, q, c, hs, hv, hn, hl => ⟨Option.some.inj hv, rfl, rfl, rfl, hs, rfl, id⟩
  | .cons o s l h g a r, lvl, q, c, hs, hv, hn, hl => by
    have hn' : q.n + (szF a + 1 + szF r) ≤ 600 := hn
    have hl' : lvl + max (lvlF a + 1) (lvlF r) ≤ 33 := hl
    have hstop : ¬ stopB lvl q = true := by
      unfold stopB
      simp only [Bool.or_eq_true, decide_eq_true_eq, not_or]
      exact ⟨by simp [hs], by omega, by omega⟩
    rw [vF] at hv
    by_cases hok : okN o s l h g a.len q.cl = true
    case neg => rw [if_neg hok] at hv; cases hv
    rw [if_pos hok] at hv
    have hp := okN_pre (lvl := lvl) hok
    rw [walkF, if_neg hstop]
    by_cases h6 : o = 6
    · rw [if_pos h6] at hv ⊢
      cases hva : vF a (q.cl ++ [false]) with
      | none => rw [hva] at hv; cases hv
      | some d =>
        rw [hva] at hv
        replace hv : vF r (if o = 6 then d.set q.cl.length true else d) = some c := hv
        rw [if_pos h6] at hv
        obtain ⟨i1, i2, i3, i4, i5, i6, i7⟩ := walkF_right a (lvl + 1) (openQ g (preQ o s l h g a.len lvl q)) d hs hva (by show q.n + 1 + szF a ≤ 600; omega) (by omega)
        generalize walkF a (lvl + 1) (openQ g (preQ o s l h g a.len lvl q)) = qa at *
        have i6' : qa.n = q.n + 1 + szF a := i6
        obtain ⟨j1, j2, j3, j4, j5, j6, j7⟩ := walkF_right r lvl (closeQ q.cl.length qa) c i5 (by show vF r (qa.cl.set _ true) = _; rw [i1]; exact hv) (by show qa.n + _ ≤ 600; omega) (by omega)
        refine ⟨j1, j2.trans (i2.trans hp.1), j3.trans (i3.trans (hp.2.2.2 h6)), j4.trans (i4.trans hp.2.2.1), j5, ?_, fun k => j7 (i7 ?_)⟩
        · rw [j6]
          show qa.n + szF r = q.n + (szF a + 1 + szF r)
          omega
        · show max q.lv lvl ≤ 32; omega
    · rw [if_neg h6] at hv ⊢
      cases hva : vF a q.cl with
      | none => rw [hva] at hv; cases hv
      | some d =>
        rw [hva] at hv
        replace hv : vF r (if o = 6 then d.set q.cl.length true else d) = some c := hv
        rw [if_neg h6] at hv
        obtain ⟨i1, i2, i3, i4, i5, i6, i7⟩ := walkF_right a (lvl + 1) (preQ o s l h g a.len lvl q) d hs hva (by show q.n + 1 + szF a ≤ 600; omega) (by omega)
        generalize walkF a (lvl + 1) (preQ o s l h g a.len lvl q) = qa at *
        have i6' : qa.n = q.n + 1 + szF a := i6
        obtain ⟨j1, j2, j3, j4, j5, j6, j7⟩ := walkF_right r lvl qa c i5 (by rw [i1]; exact hv) (by omega) (by omega)
        refine ⟨j1, j2.trans (i2.trans hp.1), j3.trans (i3.trans hp.2.1), j4.trans (i4.trans hp.2.2.1), j5, ?_, fun k => j7 (i7 ?_)⟩
        · rw [j6]
          show qa.n + szF r = q.n + (szF a + 1 + szF r)
          omega
        · show max q.lv lvl ≤ 32; omega
theorem checkT_iff (t : TN) : checkT t = 0 ↔ Valid t := by
  constructor
  · intro h
    have hw : survT t = walkF t.f 1 SQ0 := rfl
    unfold checkT errQ at h
    rw [hw] at h
    generalize hq : walkF t.f 1 SQ0 = q at h
    by_cases h1 : q.wt = true
    · rw [if_pos h1] at h; cases h
    rw [if_neg h1] at h
    by_cases h2 : q.wr = true
    · rw [if_pos h2] at h; cases h
    rw [if_neg h2] at h
    by_cases h3 : q.wn = true
    · rw [if_pos h3] at h; cases h
    rw [if_neg h3] at h
    by_cases h4 : 600 < q.n ∨ 9 < q.cl.length ∨ 32 < q.lv
    · rw [if_pos h4] at h; cases h
    have hf : (walkF t.f 1 SQ0).Fine := by rw [hq]; exact ⟨by simpa using h1, by simpa using h2, by simpa using h3, by omega, by omega⟩
    obtain ⟨i1, i2, i3, i4, i5⟩ := walkF_fine t.f 1 SQ0 rfl (by decide) hf
    rw [hq] at i1 i2 i3
    refine ⟨q.cl, i1, by omega, ?_, ?_⟩
    · have : q.n = 0 + szF t.f := i2
      omega
    · have : q.lv = max 0 (1 + lvlF t.f - 1) := i3
      omega
  · rintro ⟨c, h1, h2, h3, h4⟩
    obtain ⟨i1, i2, i3, i4, i5, i6, i7⟩ := walkF_right t.f 1 SQ0 c rfl h1 (by show 0 + _ ≤ _; omega) (by omega)
    have hw : survT t = walkF t.f 1 SQ0 := rfl
    unfold checkT errQ
    rw [hw, if_neg (by rw [i2]; simp [SQ0]), if_neg (by rw [i3]; simp [SQ0]), if_neg (by rw [i4]; simp [SQ0]), if_neg]
    have e6 : (walkF t.f 1 SQ0).n = 0 + szF t.f := i6
    have e7 := i7 (by decide)
    rw [i1, e6]
    omega
end Go.Proofs.YtbjobbkipmkndaaDoor
