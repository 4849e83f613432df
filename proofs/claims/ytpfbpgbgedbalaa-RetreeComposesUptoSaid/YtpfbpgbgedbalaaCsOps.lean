/- The functions of layer 4 that combine sets: the program's. (Written by gen_ops.py.) -/
import Derived.Test.YtpfbpgbgedbalaaRows
import Derived.Test.YtpfbpgbgedbalaaCsWith
import Derived.Deep.RegionHeld3
set_option linter.unusedVariables false
namespace Go.Proofs.Ytpfbpgbgedbalaa
open Go.RowKit

theorem At.drew {w : World} {g : Nat} {p : Nat → Bool} (h : At w g p) : At w.drew g p := h

/-- The worlds in which the loops of these functions begin. -/
def V4 (w : World) (p q : Nat → Bool) : World := (((w.alloc (.cells (cl p) 25)).alloc (.cells (cl q) 25)).alloc (.cells #[.int .u64 0, .int .u64 0, .int .u64 0, .int .u64 0] 25)).alloc (.cells #[.int .u64 0, .int .u64 0, .int .u64 0, .int .u64 0] 25)
theorem V4_below (w : World) (p q : Nat → Bool) : Below w.heap.size w (V4 w p q) := ((((Below.refl _ _).alloc (Nat.le_refl _) _).alloc (by simp) _).alloc (by simp; omega) _).alloc (by simp; omega) _
theorem V4_at (w : World) (p q : Nat → Bool) : At (V4 w p q) w.heap.size p ∧ At (V4 w p q) (w.heap.size + 1) q ∧ At (V4 w p q) (w.heap.size + 2) (fun _ => false) ∧ At (V4 w p q) (w.heap.size + 3) (fun _ => false) := by
  unfold V4
  rw [cl_zero]
  refine ⟨(((At.new w p).alloc _).alloc _).alloc _, ?_, ?_, ?_⟩
  · have := ((At.new (w.alloc (.cells (cl p) 25)) q).alloc (.cells (cl fun _ => false) 25)).alloc (.cells (cl fun _ => false) 25)
    simpa using this
  · have := (At.new ((w.alloc (.cells (cl p) 25)).alloc (.cells (cl q) 25)) (fun _ => false)).alloc (.cells (cl fun _ => false) 25)
    simpa using this
  · have := At.new (((w.alloc (.cells (cl p) 25)).alloc (.cells (cl q) 25)).alloc (.cells (cl fun _ => false) 25)) (fun _ => false)
    simpa using this

/-- What has been combined when k words are done. -/
def upw (f : Nat → Bool) (k : Nat) : Nat → Bool := fun c => decide (c < 64 * k) && f c
theorem upw_zero (f : Nat → Bool) : upw f 0 = fun _ => false := by
  funext c
  simp [upw]
theorem upw_next (f : Nat → Bool) (k : Nat) : ∀ c, c < 256 → c / 64 ≠ k → upw f k c = upw f (k + 1) c := by
  intro c _ hc
  unfold upw
  by_cases h : c < 64 * k
  · have h2 : c < 64 * (k + 1) := by omega
    simp [h, h2]
  · have h2 : ¬ c < 64 * (k + 1) := by omega
    simp [h, h2]
theorem upw_word (f : Nat → Bool) (k : Nat) : wd (upw f (k + 1)) (64 * k) 64 = wd f (64 * k) 64 := by
  apply wd_congr
  intro i hi
  have : 64 * k + i < 64 * (k + 1) := by omega
  simp [upw, this]
theorem upw_all (f : Nat → Bool) : ∀ c, c < 256 → upw f 4 c = f c := by
  intro c hc
  have : c < 64 * 4 := by omega
  simp [upw, this]
theorem At.same {w : World} {g : Nat} {p q : Nat → Bool} (h : At w g p) (e : ∀ c, c < 256 → p c = q c) : At w g q := by
  unfold At at *
  rw [h, cl_congr p q e]

theorem or64 (p q : Nat → Bool) (b : Nat) : bits BinOp.or IntKind.u64 ((wd p b 64 : Nat) : Int) ((wd q b 64 : Nat) : Int) = ((wd (fun c => p c || q c) b 64 : Nat) : Int) := by
  rw [bits_or_u64_nat _ _ (wd_lt64 p b) (wd_lt64 q b), wd_or]
theorem and64w (p q : Nat → Bool) (b : Nat) : bits BinOp.and IntKind.u64 ((wd p b 64 : Nat) : Int) ((wd q b 64 : Nat) : Int) = ((wd (fun c => p c && q c) b 64 : Nat) : Int) := by
  rw [bits_and_u64_nat _ _ (wd_lt64 p b) (wd_lt64 q b), wd_and]


theorem union_any (p q : Nat → Bool) (w : World) : Calls Try.prog 80 #[cs p, cs q] w fun e w' => e = .returned (cs fun c => p c || q c) ∧ Below w.heap.size w w' := by
  have HV := Lib.hid (V4_at w p q)
  have HB := Lib.hid (V4_below w p q)
  unfold cs cl
  obtain ⟨f, hf⟩ : ∃ f : Nat → Bool, f = fun c => p c || q c := ⟨_, rfl⟩
  have HL : ∀ b, bits BinOp.or IntKind.u64 ((wd p b 64 : Nat) : Int) ((wd q b 64 : Nat) : Int) = ((wd f b 64 : Nat) : Int) := fun b => by rw [hf]; exact or64 p q b
  rw [← hf]
  clear hf
  go_enter Try.func80, Try.ntmps80
  go_wp2
  go_loopw [7] (fun i wr => ∃ k : Nat, k ≤ 4 ∧ i = .int .i64 k ∧ Hid (Below w.heap.size w wr ∧ At wr w.heap.size p ∧ At wr (w.heap.size + 1) q ∧ At wr (w.heap.size + 2) (fun _ => false) ∧ At wr (w.heap.size + 3) (upw f k))) (fun i _ => 4 - (intOf i).toNat)
  case atStart => exact ⟨0, Nat.zero_le _, rfl, HB.out, HV.out.1, HV.out.2.1, HV.out.2.2.1, by rw [upw_zero]; exact HV.out.2.2.2⟩
  case round =>
    obtain ⟨k, hk, rfl, HR⟩ := hrel
    by_cases hlt : k < 4
    · have hi : (k : Int) < 4 := by omega
      obtain ⟨b0, a1, a2, a3, a4⟩ := HR.out
      have c1 := a1.got k hlt
      have c2 := a2.got k hlt
      have c4 := a4.got k hlt
      have f4 := a4.free
      have HN := Lib.hid (a4.word (upw f (k + 1)) k hlt (upw_next f k) (.int .u64 ((wd f (64 * k) 64 : Nat) : Int)) (by rw [upw_word]))
      clear b0 a1 a2 a3 a4
      go_wp2
      go_region
      go_wp2
      go_roundw
      case rel => exact ⟨k + 1, by omega, by go_num, HR.out.1.drew.setCell (by simp; omega) _, HR.out.2.1.drew.apart _ (by omega), HR.out.2.2.1.drew.apart _ (by omega), HR.out.2.2.2.1.drew.apart _ (by omega), HN.out⟩
      case measure => simp [intOf]; omega
    · obtain rfl : k = 4 := by omega
      obtain ⟨b0, a1, a2, a3, a4⟩ := HR.out
      have a5 := a4.same (upw_all f)
      have HA := Lib.hid a3
      obtain ⟨⟨c0, c1⟩, ⟨c2, c3⟩, hf⟩ := a5.words
      obtain ⟨⟨d0, d1⟩, ⟨d2, d3⟩, hg⟩ := a3.words
      clear b0 a1 a2 a3 a4 a5
      go_wp2
      exact bodyPost_ret (v := cs f) (ret_cs (q := f) Try.results80 _ _ (w.heap.size + 2) (by simp) (HA.out.put4 f)) rfl ⟨rfl, below_put4 HR.out.1 _ (by omega) f⟩




theorem not64 (p : Nat → Bool) (b : Nat) : bits BinOp.xor IntKind.u64 (if IntKind.u64.signed = true then -1 else IntKind.u64.max) ((wd p b 64 : Nat) : Int) = ((wd (fun c => !p c) b 64 : Nat) : Int) := by
  have e : (if IntKind.u64.signed = true then -1 else IntKind.u64.max) = ((18446744073709551615 : Nat) : Int) := by decide
  rw [e, bits_xor_u64_nat _ _ (by decide) (wd_lt64 p b)]
  congr 1
  apply Nat.eq_of_testBit_eq
  intro i
  rw [Nat.testBit_xor, wd_bit, wd_bit, show 18446744073709551615 = 2 ^ 64 - 1 from rfl, Nat.testBit_two_pow_sub_one]
  cases decide (i < 64) <;> simp

/-- Boxed one set; room for the result and for the set that is made. -/
def V3 (w : World) (p : Nat → Bool) : World := ((w.alloc (.cells (cl p) 25)).alloc (.cells #[.int .u64 0, .int .u64 0, .int .u64 0, .int .u64 0] 25)).alloc (.cells #[.int .u64 0, .int .u64 0, .int .u64 0, .int .u64 0] 25)
theorem V3_below (w : World) (p : Nat → Bool) : Below w.heap.size w (V3 w p) := (((Below.refl _ _).alloc (Nat.le_refl _) _).alloc (by simp) _).alloc (by simp; omega) _
theorem V3_at (w : World) (p : Nat → Bool) : At (V3 w p) w.heap.size p ∧ At (V3 w p) (w.heap.size + 1) (fun _ => false) ∧ At (V3 w p) (w.heap.size + 2) (fun _ => false) := by
  unfold V3
  rw [cl_zero]
  refine ⟨((At.new w p).alloc _).alloc _, ?_, ?_⟩
  · have := (At.new (w.alloc (.cells (cl p) 25)) (fun _ => false)).alloc (.cells (cl fun _ => false) 25)
    simpa using this
  · have := At.new ((w.alloc (.cells (cl p) 25)).alloc (.cells (cl fun _ => false) 25)) (fun _ => false)
    simpa using this



/-- Boxed two sets; room for the result. -/
def U3 (w : World) (p q : Nat → Bool) : World := ((w.alloc (.cells (cl p) 25)).alloc (.cells (cl q) 25)).alloc (.cells #[.int .u64 0, .int .u64 0, .int .u64 0, .int .u64 0] 25)
theorem U3_below (w : World) (p q : Nat → Bool) : Below w.heap.size w (U3 w p q) := (((Below.refl _ _).alloc (Nat.le_refl _) _).alloc (by simp) _).alloc (by simp; omega) _
theorem U3_at (w : World) (p q : Nat → Bool) : At (U3 w p q) w.heap.size p ∧ At (U3 w p q) (w.heap.size + 1) q ∧ At (U3 w p q) (w.heap.size + 2) (fun _ => false) := by
  unfold U3
  rw [cl_zero]
  refine ⟨((At.new w p).alloc _).alloc _, ?_, ?_⟩
  · have := (At.new (w.alloc (.cells (cl p) 25)) q).alloc (.cells (cl fun _ => false) 25)
    simpa using this
  · have := At.new ((w.alloc (.cells (cl p) 25)).alloc (.cells (cl q) 25)) (fun _ => false)
    simpa using this

theorem keep_words {w w' : World} (hb : Below w.heap.size w w') {a : Addr} {v : Value} (h : w.cell? a = some v) : w'.cell? a = some v := by
  rw [hb.cell (World.block_lt_of_cell? w _ h), h]

/-- The four words of a set in memory, as the walk wants them. -/
abbrev Wds (w : World) (g : Nat) (p : Nat → Bool) : Prop :=
  (w.cell? ⟨g, 0, none⟩ = some (.int .u64 ((wd p 0 64 : Nat) : Int)) ∧ w.cell? ⟨g, 1, none⟩ = some (.int .u64 ((wd p 64 64 : Nat) : Int))) ∧
    (w.cell? ⟨g, 2, none⟩ = some (.int .u64 ((wd p 128 64 : Nat) : Int)) ∧ w.cell? ⟨g, 3, none⟩ = some (.int .u64 ((wd p 192 64 : Nat) : Int)))
theorem Wds.of {w : World} {g : Nat} {p : Nat → Bool} (h : At w g p) : Wds w g p := ⟨h.words.1, h.words.2.1⟩
theorem Wds.keep {w w' : World} {g : Nat} {p : Nat → Bool} (h : Wds w g p) (hb : Below w.heap.size w w') : Wds w' g p :=
  ⟨⟨keep_words hb h.1.1, keep_words hb h.1.2⟩, ⟨keep_words hb h.2.1, keep_words hb h.2.2⟩⟩

/-- Block g holds some set. -/
def AtAny (w : World) (g : Nat) : Prop := ∃ r, At w g r
theorem AtAny.free {w : World} {g : Nat} (h : AtAny w g) (j : Nat) : w.frozen? ⟨g, j, none⟩ = false := by
  obtain ⟨r, h⟩ := h
  exact h.free j
theorem AtAny.below {w w' : World} {g : Nat} (h : AtAny w g) (hb : Below w.heap.size w w') : AtAny w' g := by
  obtain ⟨r, h⟩ := h
  exact ⟨r, h.below hb h.lt⟩
theorem AtAny.put {w : World} {g : Nat} (h : AtAny w g) (f : Nat → Bool) : At (put4 w g f) g f := by
  obtain ⟨r, h⟩ := h
  exact h.put4 f

/-- Whatever stands in a cell. -/
def cv (w : World) (g j : Nat) : Value := (w.cell? ⟨g, j, none⟩).getD undef
/-- Four cells stand there, whatever they hold. -/
abbrev Wany (w : World) (g : Nat) : Prop :=
  (w.cell? ⟨g, 0, none⟩ = some (cv w g 0) ∧ w.cell? ⟨g, 1, none⟩ = some (cv w g 1)) ∧ (w.cell? ⟨g, 2, none⟩ = some (cv w g 2) ∧ w.cell? ⟨g, 3, none⟩ = some (cv w g 3))
theorem AtAny.cells {w : World} {g : Nat} (h : AtAny w g) : Wany w g := by
  obtain ⟨r, h⟩ := h
  unfold Wany cv
  rw [h.got 0 (by decide), h.got 1 (by decide), h.got 2 (by decide), h.got 3 (by decide)]
  exact ⟨⟨rfl, rfl⟩, ⟨rfl, rfl⟩⟩

/-- What a function that has boxed two sets and made room for its result holds of the world. -/
abbrev S2 (w0 : World) (p q : Nat → Bool) (w : World) : Prop :=
  Wds w w0.heap.size p ∧ Wds w (w0.heap.size + 1) q ∧ Wany w (w0.heap.size + 2) ∧ (∀ j, w.frozen? ⟨w0.heap.size + 2, j, none⟩ = false) ∧ Below w0.heap.size w0 w ∧ AtAny w (w0.heap.size + 2)
theorem S2.start (w0 : World) (p q : Nat → Bool) : S2 w0 p q (U3 w0 p q).drew :=
  have h := U3_at w0 p q
  ⟨Wds.of h.1.drew, Wds.of h.2.1.drew, AtAny.cells ⟨_, h.2.2.drew⟩, h.2.2.drew.free, (U3_below w0 p q).drew, ⟨_, h.2.2.drew⟩⟩
theorem S2.keep {w0 w w' : World} {p q : Nat → Bool} (hb : Below w.heap.size w w') (h : S2 w0 p q w) : S2 w0 p q w' :=
  have a := h.2.2.2.2.2.below hb
  ⟨h.1.keep hb, h.2.1.keep hb, a.cells, a.free, h.2.2.2.2.1.trans (hb.mono h.2.2.2.2.1.size), a⟩
theorem cell_put4 {w : World} {g k : Nat} (hk : g ≠ k) (f : Nat → Bool) (j : Nat) : (put4 w k f).cell? ⟨g, j, none⟩ = w.cell? ⟨g, j, none⟩ := by
  apply World.cell?_of_block
  show (put4 w k f).heap[g]? = w.heap[g]?
  unfold put4
  rw [Below.heap_setCell _ _ _ _ hk, Below.heap_setCell _ _ _ _ hk, Below.heap_setCell _ _ _ _ hk, Below.heap_setCell _ _ _ _ hk]
theorem Wds.put {w : World} {g k : Nat} {p : Nat → Bool} (h : Wds w g p) (hk : g ≠ k) (f : Nat → Bool) : Wds (put4 w k f) g p :=
  ⟨⟨(cell_put4 hk f 0).trans h.1.1, (cell_put4 hk f 1).trans h.1.2⟩, ⟨(cell_put4 hk f 2).trans h.2.1, (cell_put4 hk f 3).trans h.2.2⟩⟩
theorem S2.put {w0 w : World} {p q : Nat → Bool} (h : S2 w0 p q w) (f : Nat → Bool) : S2 w0 p q (put4 w (w0.heap.size + 2) f) :=
  have a := h.2.2.2.2.2.put f
  ⟨h.1.put (by omega) f, h.2.1.put (by omega) f, AtAny.cells ⟨_, a⟩, a.free, below_put4 h.2.2.2.2.1 _ (by omega) f, ⟨_, a⟩⟩

theorem unset {w : World} {g j : Nat} {v : Value} {c : Array Value} {t : TypeId} (h : (w.setCell ⟨g, j, none⟩ v).heap[g]? = some (.cells c t (0, 0))) : ∃ c0, w.heap[g]? = some (.cells c0 t (0, 0)) ∧ c0.size = c.size := by
  simp only [World.setCell, Array.getElem?_modify] at h
  cases hw : w.heap[g]? with
  | none => simp [hw] at h
  | some o =>
    rw [hw] at h
    cases o with
    | cells c0 t0 fr0 =>
      simp at h
      obtain ⟨rfl, rfl, rfl⟩ := h
      exact ⟨c0, rfl, by simp⟩
    | _ => simp at h
theorem list4 {α : Type} (l : List α) (h : l.length = 4) : ∃ a b c d, l = [a, b, c, d] := by
  match l, h with
  | [a, b, c, d], _ => exact ⟨a, b, c, d, rfl⟩
theorem set4_all (c0 : Array Value) (h : c0.size = 4) (a b c d : Value) : (((c0.setIfInBounds 0 a).setIfInBounds 1 b).setIfInBounds 2 c).setIfInBounds 3 d = #[a, b, c, d] := by
  obtain ⟨l⟩ := c0
  obtain ⟨x, y, z, u, rfl⟩ := list4 l h
  simp
theorem AtAny.done {w : World} {g : Nat} {f : Nat → Bool} (h : AtAny (put4 w g f) g) : At (put4 w g f) g f := by
  obtain ⟨r, h⟩ := h
  unfold At put4 at *
  obtain ⟨c3, h3, s3⟩ := unset h
  obtain ⟨c2, h2, s2⟩ := unset h3
  obtain ⟨c1, h1, s1⟩ := unset h2
  obtain ⟨c0, h0, s0⟩ := unset h1
  have s : c0.size = 4 := by rw [s0, s1, s2, s3, cl_size]
  have k1 := heap_setCell_same w g 0 _ _ (.int .u64 ((wd f 0 64 : Nat) : Int)) h0
  have k2 := heap_setCell_same _ g 1 _ _ (.int .u64 ((wd f 64 64 : Nat) : Int)) k1
  have k3 := heap_setCell_same _ g 2 _ _ (.int .u64 ((wd f 128 64 : Nat) : Int)) k2
  have k4 := heap_setCell_same _ g 3 _ _ (.int .u64 ((wd f 192 64 : Nat) : Int)) k3
  rw [set4_all c0 s] at k4
  exact k4


end Go.Proofs.Ytpfbpgbgedbalaa
