/- Several texts in one (a claim has at most 60 files). -/
import Derived.Test.YtblaldcioneooaaGreatDoorMB
import Derived.Maps.OwnOps
import Derived.Maps.Views
/- The writer's groups: which bytes have a weight other than the usual one, in a map of slices. -/
set_option linter.unusedVariables false
namespace Go.Proofs.YtblaldcioneooaaGreatDoor
open Go.RowKit

/-! ### In mathematics -/
/-- The bytes before k that have the weight v, which is not their usual one. -/
def grpT (f : Nat → Int) (v : Int) (k : Nat) : List Nat := (List.range k).filter fun c => decide (f c ≠ (c : Int)) && decide (f c = v)
theorem grpT_succ (f : Nat → Int) (v : Int) (k : Nat) : grpT f v (k + 1) = if f k ≠ (k : Int) ∧ f k = v then grpT f v k ++ [k] else grpT f v k := by
  unfold grpT
  rw [List.range_succ, List.filter_append]
  by_cases h : f k ≠ (k : Int) ∧ f k = v
  · rw [if_pos h]
    have h1 := h.1
    have h2 := h.2
    simp [h2]
    intro e; exact absurd (h2.trans e) h1
  · rw [if_neg h]
    by_cases h1 : f k = (k : Int)
    · simp [h1]
    · have h2 : f k ≠ v := fun e => h ⟨h1, e⟩
      simp [h2]
theorem grpT_len (f : Nat → Int) (v : Int) (k : Nat) : (grpT f v k).length ≤ k := by
  unfold grpT
  exact Nat.le_trans (List.length_filter_le _ _) (by simp)
theorem grpT_lt {f : Nat → Int} {v : Int} {k c : Nat} (h : c ∈ grpT f v k) : c < k ∧ f c ≠ (c : Int) ∧ f c = v := by
  unfold grpT at h
  simp at h
  exact ⟨h.1, h.2.1, h.2.2⟩
/-- The weights of such bytes, in the order of their first bytes. -/
def ordT (f : Nat → Int) : Nat → List Int
  | 0 => []
  | k + 1 => if f k = (k : Int) then ordT f k else if grpT f (f k) k = [] then ordT f k ++ [f k] else ordT f k
theorem ordT_len (f : Nat → Int) : ∀ k, (ordT f k).length ≤ k
  | 0 => Nat.le_refl _
  | k + 1 => by
    have := ordT_len f k
    unfold ordT
    split
    · omega
    · split
      · simp; omega
      · omega
theorem ordT_mem (f : Nat → Int) (v : Int) : ∀ k, v ∈ ordT f k ↔ grpT f v k ≠ []
  | 0 => by simp [ordT, grpT]
  | k + 1 => by
    have ih := ordT_mem f v k
    rw [grpT_succ]
    unfold ordT
    by_cases h1 : f k = (k : Int)
    · rw [if_pos h1, if_neg (fun h => h.1 h1)]; exact ih
    · rw [if_neg h1]
      by_cases h2 : f k = v
      · rw [if_pos (show f k ≠ (k : Int) ∧ f k = v from ⟨h1, h2⟩)]
        subst h2
        by_cases h3 : grpT f (f k) k = []
        · rw [if_pos h3]; simp
        · rw [if_neg h3]; simp; exact ih.2 h3
      · rw [if_neg (show ¬ (f k ≠ (k : Int) ∧ f k = v) from fun h => h2 h.2)]
        by_cases h3 : grpT f (f k) k = []
        · rw [if_pos h3, List.mem_append, ih]
          simp
          intro e; exact absurd e.symm h2
        · rw [if_neg h3]; exact ih
theorem ordT_nodup (f : Nat → Int) : ∀ k, (ordT f k).Nodup
  | 0 => by simp [ordT]
  | k + 1 => by
    have ih := ordT_nodup f k
    unfold ordT
    by_cases h1 : f k = (k : Int)
    · rw [if_pos h1]; exact ih
    · rw [if_neg h1]
      by_cases h3 : grpT f (f k) k = []
      · rw [if_pos h3, List.nodup_append]
        refine ⟨ih, by simp, ?_⟩
        intro a ha b hb e
        simp at hb
        subst hb
        rw [e] at ha
        exact (ordT_mem f _ k).1 ha h3
      · rw [if_neg h3]; exact ih
theorem ordT_of {f : Nat → Int} {v : Int} {k : Nat} (h : v ∈ ordT f k) : ∃ c, c < k ∧ f c = v := by
  have h1 := (ordT_mem f v k).1 h
  obtain ⟨c, r, hc⟩ := List.exists_cons_of_ne_nil h1
  have := grpT_lt (f := f) (v := v) (k := k) (c := c) (by rw [hc]; simp)
  exact ⟨c, this.1, this.2.2⟩

/-! ### In memory -/
/-- A map's element as it is. -/
def holdV (v : Value) : Option (DataW Value × List MemPlace) := some (.held v, [])
def nilS : Value := .slice none 0 0
theorem lawI : Maps.Keyed Tryz.prog 3 := Maps.int_keyed Tryz.underlying3
theorem zeroS (w : World) : (zeroValue 40).run Tryz.prog w = .ok (.slice none 0 0) w := by kernel_rfl
theorem map_same {w w' : World} {P : Program} {k : TypeId} {H : Type} {R : Value → Option (DataW H × List MemPlace)} {b n : Nat} {D : DataW H} (h : w.ownsMap P k R b n D) (hb : w'.heap[b]? = w.heap[b]?) : w'.ownsMap P k R b n D := by
  obtain ⟨es, clock, h1, r⟩ := h
  exact ⟨es, clock, hb.trans h1, r⟩
/-- The map in block b of at most n entries, which holds F; order and rows. -/
structure GM (b n : Nat) (O : List Int) (G : Int → List Nat) (ov : Value) (w : World) (F : Int → Value) (D : DataW Value) : Prop where
  make ::
  map : w.ownsMap Tryz.prog 3 holdV b n D
  isM : Maps.IsMap D
  val : ∀ v, (Lit.int .i64 v).wf = true → D.atKey (.int .i64 v) (.held nilS) = .held (F v)
  ord : w.ownsRow 0 3 1 ov O.length (O.map (Value.int .i64))
  grp : ∀ v, w.ownsRow 0 9 1 (F v) (G v).length (strs3 ((G v).map fmB))
  nilF : ∀ v, G v = [] → F v = nilS
  ap : ∀ v v' g, v ≠ v' → (F v).ownBlock = some g → (F v').ownBlock ≠ some g
  apO : ∀ v g, (F v).ownBlock = some g → ov.ownBlock ≠ some g
  newO : ∀ g, ov.ownBlock = some g → b < g
  newF : ∀ v g, (F v).ownBlock = some g → b < g
theorem GM.made (w : World) : GM w.heap.size 0 [] (fun _ => []) nilS (w.alloc (.map #[] 0)) (fun _ => nilS) (.map []) :=
  ⟨World.ownsMap_made _ _ _ _, Maps.isMap_empty, fun v _ => rfl, World.ownsRow_nil _ _ _ _, fun v => World.ownsRow_nil _ _ _ _, fun _ _ => rfl, fun _ _ _ _ e => (by cases e), fun _ _ e => (by cases e), fun _ e => (by cases e), fun _ _ e => (by cases e)⟩
theorem GM.same {b n : Nat} {O : List Int} {G : Int → List Nat} {ov : Value} {w w' : World} {F : Int → Value} {D : DataW Value} (h : GM b n O G ov w F D) (hb : w'.heap[b]? = w.heap[b]?)
    (ho : ∀ g, ov.ownBlock = some g → g < w.heap.size → w'.heap[g]? = w.heap[g]?) (hf : ∀ v g, (F v).ownBlock = some g → g < w.heap.size → w'.heap[g]? = w.heap[g]?) : GM b n O G ov w' F D :=
  ⟨map_same h.map hb, h.isM, h.val, own_same h.ord ho, fun v => own_same (h.grp v) (hf v), h.nilF, h.ap, h.apO, h.newO, h.newF⟩
theorem GM.next {b n : Nat} {O : List Int} {G : Int → List Nat} {ov : Value} {w w' : World} {F : Int → Value} {D : DataW Value} (h : GM b n O G ov w F D) (hb : Below w.heap.size w w') : GM b n O G ov w' F D :=
  h.same (hb.block b h.map.lt) (fun g _ hg => hb.block g hg) (fun _ g _ hg => hb.block g hg)
theorem GM.cong {b n : Nat} {O O' : List Int} {G G' : Int → List Nat} {ov : Value} {w : World} {F : Int → Value} {D : DataW Value} (h : GM b n O G ov w F D) (hO : O = O') (hG : G = G') : GM b n O' G' ov w F D := by
  subst hO; subst hG; exact h
theorem GM.more {b n n' : Nat} {O : List Int} {G : Int → List Nat} {ov : Value} {w : World} {F : Int → Value} {D : DataW Value} (h : GM b n O G ov w F D) (hn : n ≤ n') : GM b n' O G ov w F D :=
  ⟨h.map.mono hn, h.isM, h.val, h.ord, h.grp, h.nilF, h.ap, h.apO, h.newO, h.newF⟩
/-- The order is one longer. -/
theorem GM.ordered {b n : Nat} {O : List Int} {G : Int → List Nat} {ov : Value} {w w' : World} {F : Int → Value} {D : DataW Value} (h : GM b n O G ov w F D) (v : Int) (g cap : Nat)
    (ho : w'.ownsRow 0 3 1 (.slice (some ⟨g, 0, none⟩) (O.length + 1) cap) (O.length + 1) (O.map (Value.int .i64) ++ [.int .i64 v])) (hk : Keep (fun x => ov.ownBlock = some x) w w') (hg : ov.ownBlock = some g ∨ w.heap.size ≤ g) :
    GM b n (O ++ [v]) G (.slice (some ⟨g, 0, none⟩) (O.length + 1) cap) w' F D := by
  have hbl := h.map.lt
  refine ⟨map_same h.map (hk.block b hbl (fun e => Nat.lt_irrefl _ (h.newO b e))), h.isM, h.val, ?_, fun x => own_same (h.grp x) (fun y e hy => hk.block y hy (fun e2 => h.apO x y e e2)), h.nilF, h.ap, fun x y e e2 => ?_, fun y e => ?_, h.newF⟩
  · rw [List.length_append, List.map_append]; exact ho
  · have e3 : g = y := by simpa [Value.ownBlock] using e2
    subst e3
    rcases hg with hg | hg
    · exact h.apO x g e hg
    · have := ((h.grp x).lt g e).2; omega
  · have e3 : g = y := by simpa [Value.ownBlock] using e
    subst e3
    rcases hg with hg | hg
    · exact h.newO g hg
    · omega
/-- One row is one longer, and stored. -/
theorem GM.put {b n n' : Nat} {O : List Int} {G : Int → List Nat} {ov : Value} {w w3 w4 : World} {F : Int → Value} {D : DataW Value} (h : GM b n O G ov w F D) (v : Int) (c g cap m : Nat) (hm0 : (G v).length = m) (vF : Value) (hvF : F v = vF)
    (ho : w3.ownsRow 0 9 1 (.slice (some ⟨g, 0, none⟩) (m + 1) cap) (m + 1) (strs3 ((G v).map fmB) ++ [.string (mk (fmB c))])) (hk : Keep (fun x => vF.ownBlock = some x) w w3) (hg : vF.ownBlock = some g ∨ w.heap.size ≤ g)
    (hm : w4.ownsMap Tryz.prog 3 holdV b n' (D.put (.int .i64 v) (.held (.slice (some ⟨g, 0, none⟩) (m + 1) cap)))) (hg4 : w3.grownBy w4 (some b)) :
    GM b n' O (fun x => if x = v then G v ++ [c] else G x) ov w4 (fun x => if x = v then .slice (some ⟨g, 0, none⟩) (m + 1) cap else F x) (D.put (.int .i64 v) (.held (.slice (some ⟨g, 0, none⟩) (m + 1) cap))) := by
  subst hm0
  subst hvF
  have hbl := h.map.lt
  have hgb : b < g := by
    rcases hg with hg | hg
    · exact h.newF v g hg
    · omega
  have h43 : ∀ y, y ≠ b → y < w3.heap.size → w4.heap[y]? = w3.heap[y]? := fun y hy hl => hg4.block y hl (fun e => hy (by simpa using e))
  have hgF : ∀ x, x ≠ v → (F x).ownBlock ≠ some g := fun x hx e => by
    rcases hg with hg | hg
    · exact h.ap x v g hx e hg
    · have := ((h.grp x).lt g e).2; omega
  have hgO : ov.ownBlock ≠ some g := fun e => by
    rcases hg with hg | hg
    · exact h.apO v g hg e
    · have := (h.ord.lt g e).2; omega
  refine ⟨hm, h.isM.put _ _, fun x hx => ?_, own_same h.ord (fun y e hy => ?_), fun x => ?_, fun x hx => ?_, fun x x' y hne e => ?_, fun x y e => ?_, h.newO, fun x y e => ?_⟩
  · by_cases hxv : x = v
    · subst hxv
      rw [if_pos rfl]
      exact Maps.atKey_put_same h.isM (lawI.key (Maps.keyOf_int_mk Tryz.underlying3 hx)) _ _
    · rw [if_neg hxv, Maps.atKey_put_other (fun e => hxv (by cases e; rfl))]
      exact h.val x hx
  · have h1 : y ≠ b := fun e2 => by subst e2; exact Nat.lt_irrefl _ (h.newO _ e)
    have h2 : y < w3.heap.size := Nat.lt_of_lt_of_le hy hk.size
    rw [h43 y h1 h2]
    exact hk.block y hy (fun e2 => h.apO v y e2 e)
  · by_cases hxv : x = v
    · subst hxv
      simp only [if_pos]
      rw [List.length_append, List.map_append, strs_app]
      refine own_same ho fun y e hy => ?_
      have e3 : g = y := by simpa [Value.ownBlock] using e
      subst e3
      exact h43 g (by omega) hy
    · simp only [if_neg hxv]
      refine own_same (h.grp x) fun y e hy => ?_
      have h1 : y ≠ b := fun e2 => by subst e2; exact Nat.lt_irrefl _ (h.newF x _ e)
      rw [h43 y h1 (Nat.lt_of_lt_of_le hy hk.size)]
      exact hk.block y hy (fun e2 => h.ap x v y hxv e e2)
  · by_cases hxv : x = v
    · subst hxv; simp at hx
    · simp only [if_neg hxv] at hx ⊢; exact h.nilF x hx
  · by_cases hxv : x = v
    · subst hxv
      simp only [if_pos] at e
      have e3 : g = y := by simpa [Value.ownBlock] using e
      subst e3
      rw [if_neg (fun e => hne e.symm)]
      exact hgF x' (fun e => hne e.symm)
    · simp only [if_neg hxv] at e
      by_cases hxv2 : x' = v
      · subst hxv2
        simp only [if_pos]
        intro e2
        have e3 : g = y := by simpa [Value.ownBlock] using e2
        subst e3
        exact hgF x hxv e
      · rw [if_neg hxv2]; exact h.ap x x' y hne e
  · by_cases hxv : x = v
    · subst hxv
      simp only [if_pos] at e
      have e3 : g = y := by simpa [Value.ownBlock] using e
      subst e3; exact hgO
    · simp only [if_neg hxv] at e; exact h.apO x y e
  · by_cases hxv : x = v
    · subst hxv
      simp only [if_pos] at e
      have e3 : g = y := by simpa [Value.ownBlock] using e
      subst e3; exact hgb
    · simp only [if_neg hxv] at e; exact h.newF x y e

theorem WS.cut' {S : Nat → Prop} {w : World} {B : Nat} {ls : List (List UInt8)} (h : WS S w B ls) : WS (fun g => S g ∧ g < w.heap.size) w B ls := by
  obtain ⟨v, h1, h2, h3, h4⟩ := h
  exact ⟨v, h1, h2, fun g e => ⟨h3 g e, (h2.lt g e).2⟩, fun e => h4 e.1⟩

/-! ### At the operations -/
theorem look_held {w : World} {b n : Nat} {D : DataW Value} (h : w.ownsMap Tryz.prog 3 holdV b n D) (x : Int) (hx : (Lit.int .i64 x).wf = true) (v : Value) (hat : D.atKey (.int .i64 x) (.held nilS) = .held v) :
    (Instr.lookup 82 (.map (some b)) (.int .i64 x) false).run Tryz.prog w = .ok v w := by
  obtain ⟨u, ps, hr, hu⟩ := h.lookup lawI Tryz.underlying82 (zeroS w) (zd := .held nilS) (zp := []) rfl (Maps.keyOf_int_mk Tryz.underlying3 hx)
  rw [hat] at hu
  have : u = v := by
    simp only [holdV, Option.some.injEq, Prod.mk.injEq, DataW.held.injEq] at hu
    exact hu.1
  rw [hr, this]
theorem wp_look_held {o : Oper} {a : Act} {K : Act → World → Prop} {Q : Exit → Act → World → Prop} (w : World) (m x : Operand) (hop : o.op = Op.lookup 82 m x false) {b n : Nat} {D : DataW Value} (h : w.ownsMap Tryz.prog 3 holdV b n D)
    (hm : a.eval m = .map (some b)) (k : Int) (hx : a.eval x = .int .i64 k) (hw : (Lit.int .i64 k).wf = true) (v : Value) (hat : D.atKey (.int .i64 k) (.held nilS) = .held v) (hK : K (a.put o.dst v) w) : o.wp Tryz.prog a w K Q := by
  have hr := look_held h k hw v hat
  unfold Oper.wp
  simp [execOp, hop, hm, hx, hr, Result.andThen]
  exact hK
theorem wpList_look_held {ops : Array Oper} {rest : List Oper} {o : Oper} {a : Act} {Q : Exit → Act → World → Prop} (w : World) (hg : o.guard = none) (m x : Operand) (hop : o.op = Op.lookup 82 m x false) {b n : Nat} {D : DataW Value} (h : w.ownsMap Tryz.prog 3 holdV b n D)
    (hm : a.eval m = .map (some b)) (k : Int) (hx : a.eval x = .int .i64 k) (hw : (Lit.int .i64 k).wf = true) (v : Value) (hat : D.atKey (.int .i64 k) (.held nilS) = .held v) (hK : wpList Tryz.prog ops Q rest (a.put o.dst v) w) : wpList Tryz.prog ops Q (o :: rest) a w :=
  wpList_plain hg fun K' hK' => wp_look_held w m x hop h hm k hx hw v hat (hK' _ _ hK)
theorem step_look_held {ops : Array Oper} {o : Oper} {a : Act} {K : Act → World → Prop} {Q : Exit → Act → World → Prop} {E : Prop} (w : World) (hgd : o.guard = none) (m x : Operand) (hop : o.op = Op.lookup 82 m x false) {b n : Nat} {D : DataW Value} (h : w.ownsMap Tryz.prog 3 holdV b n D)
    (hm : a.eval m = .map (some b)) (k : Int) (hx : a.eval x = .int .i64 k) (hw : (Lit.int .i64 k).wf = true) (v : Value) (hat : D.atKey (.int .i64 k) (.held nilS) = .held v) (hK : K (a.put o.dst v) w) :
    if Region.wanted o (yielded ops a.tmps) = true then Oper.wp Tryz.prog o a w K Q else E := by
  have hw2 : Region.wanted o (yielded ops a.tmps) = true := by simp [Region.wanted, hgd]
  rw [if_pos hw2]
  exact wp_look_held w m x hop h hm k hx hw v hat hK
theorem step_put_held {ops : Array Oper} {o : Oper} {a : Act} {K : Act → World → Prop} {Q : Exit → Act → World → Prop} {E : Prop} (w : World) (hgd : o.guard = none) (m x v : Operand) (hop : o.op = Op.mapUpdate 82 m x v) {b n : Nat} {D : DataW Value} (h : w.ownsMap Tryz.prog 3 holdV b n D)
    (hm : a.eval m = .map (some b)) (k : Int) (hx : a.eval x = .int .i64 k) (hw : (Lit.int .i64 k).wf = true) (u : Value) (hv : a.eval v = u) (hn : n < maxLen)
    (hK : ∀ w', w'.ownsMap Tryz.prog 3 holdV b (n + 1) (D.put (.int .i64 k) (.held u)) → w.grownBy w' (some b) → K (a.put o.dst undef) w') :
    if Region.wanted o (yielded ops a.tmps) = true then Oper.wp Tryz.prog o a w K Q else E := by
  have hw2 : Region.wanted o (yielded ops a.tmps) = true := by simp [Region.wanted, hgd]
  rw [if_pos hw2]
  obtain ⟨w', hrun, r1, r2⟩ := h.update lawI Tryz.underlying82 hn (Maps.keyOf_int_mk Tryz.underlying3 hw) (val := u) (d := .held u) (ps := []) rfl
  unfold Oper.wp
  simp [execOp, hop, hm, hx, hv, hrun, Result.andThen]
  exact hK w' r1 r2
end Go.Proofs.YtblaldcioneooaaGreatDoor
/- The writer's lines of weights: what stays while they are written. -/
set_option linter.unusedVariables false
namespace Go.Proofs.YtblaldcioneooaaGreatDoor
open Go.RowKit

/-- The line of a weight. -/
def weiLine (f : Nat → Int) (v : Int) : List UInt8 := jw (kWei :: ((grpT f v 256).map fmB ++ [fmB v.toNat]))
def weiLines (f : Nat → Int) : List (List UInt8) := (ordT f 256).map (weiLine f)
/-- The map's block, the order's, the rows' lie apart. -/
structure Aps (b N : Nat) (ov : Value) (F : Int → Value) : Prop where
  make ::
  ap : ∀ v v' g, v ≠ v' → (F v).ownBlock = some g → (F v').ownBlock ≠ some g
  apO : ∀ v g, (F v).ownBlock = some g → ov.ownBlock ≠ some g
  newO : ∀ g, ov.ownBlock = some g → b < g
  newF : ∀ v g, (F v).ownBlock = some g → b < g
  ltO : ∀ g, ov.ownBlock = some g → g < N
  ltF : ∀ v g, (F v).ownBlock = some g → g < N
  ltb : b < N
theorem GM.aps {b n : Nat} {O : List Int} {G : Int → List Nat} {ov : Value} {w : World} {F : Int → Value} {D : DataW Value} (h : GM b n O G ov w F D) : Aps b w.heap.size ov F :=
  ⟨h.ap, h.apO, h.newO, h.newF, fun g e => (h.ord.lt g e).2, fun v g e => ((h.grp v).lt g e).2, h.map.lt⟩
def PBk (b : Nat) (ov : Value) (F : Int → Value) (g : Nat) : Prop := g = b ∨ ov.ownBlock = some g ∨ ∃ v, (F v).ownBlock = some g
theorem Aps.low {b N : Nat} {ov : Value} {F : Int → Value} (h : Aps b N ov F) {g : Nat} (hg : PBk b ov F g) : b ≤ g ∧ g < N := by
  rcases hg with rfl | hg | ⟨v, hg⟩
  · exact ⟨Nat.le_refl _, h.ltb⟩
  · exact ⟨Nat.le_of_lt (h.newO g hg), h.ltO g hg⟩
  · exact ⟨Nat.le_of_lt (h.newF v g hg), h.ltF v g hg⟩
/-- So many lines are written. -/
structure WW (S S' : Nat → Prop) (w : World) (N B : Nat) (ls : List (List UInt8)) (f : Nat → Int) (ov : Value) (F : Int → Value) (D : DataW Value) (k : Nat) (wr : World) : Prop where
  make ::
  ws : WS S' wr B (ls ++ ((ordT f 256).take k).map (weiLine f))
  map : wr.ownsMap Tryz.prog 3 holdV w.heap.size 256 D
  ord : wr.ownsRow 0 3 1 ov (ordT f 256).length ((ordT f 256).map (Value.int .i64))
  grp : ∀ v ∈ (ordT f 256).drop k, wr.ownsRow 0 9 1 (F v) (grpT f v 256).length (strs3 ((grpT f v 256).map fmB))
  sub : ∀ g, S' g → (S g ∨ w.heap.size ≤ g) ∧ g < wr.heap.size
  far : ∀ g, S' g → ¬ PBk w.heap.size ov F g
  keep : Keep (own S B) w wr
  big : N ≤ wr.heap.size
theorem WW.start {S : Nat → Prop} {w wE : World} {B : Nat} {ls : List (List UInt8)} {f : Nat → Int} {ov : Value} {F : Int → Value} {D : DataW Value} (h : WS S w B ls) (hg : GM w.heap.size 256 (ordT f 256) (fun v => grpT f v 256) ov wE F D) (hb : Below w.heap.size w wE) :
    WW S (fun g => S g ∧ g < w.heap.size) w wE.heap.size B ls f ov F D 0 wE := by
  refine ⟨?_, hg.map, hg.ord, fun v _ => hg.grp v, fun g hs => ⟨.inl hs.1, Nat.lt_of_lt_of_le hs.2 hb.size⟩, fun g hs hp => ?_, Keep.of_below hb, Nat.le_refl _⟩
  · simp only [List.take_zero, List.map_nil, List.append_nil]
    exact h.cut'.next hb
  · have := (hg.aps.low hp).1
    have := hs.2
    omega
theorem WW.step {S S' : Nat → Prop} {w wr w4 w5 w7 : World} {N B : Nat} {ls : List (List UInt8)} {f : Nat → Int} {ov : Value} {F : Int → Value} {D : DataW Value} {k : Nat} {e : Ending} (hA : Aps w.heap.size N ov F) (hB : B < w.heap.size) (h : WW S S' w N B ls f ov F D k wr) (hk : k < (ordT f 256).length) (v : Int) (hv : (ordT f 256)[k] = v)
    (h4 : Below wr.heap.size wr w4) (h5 : Keep (fun x => (F v).ownBlock = some x) w4 w5) (h7 : Wrote S' w5 B ((ls ++ ((ordT f 256).take k).map (weiLine f)) ++ [weiLine f v]) e w7) :
    WW S (fun g => grow S' w5 g ∧ g < w7.heap.size) w N B ls f ov F D (k + 1) w7 := by
  obtain ⟨he, hw7, hk7⟩ := h7
  have h54 : wr.heap.size ≤ w5.heap.size := Nat.le_trans h4.size h5.size
  have hS' : ∀ g, S' g → ¬ PBk w.heap.size ov F g := h.far
  have hall : ∀ g, g < wr.heap.size → PBk w.heap.size ov F g → (F v).ownBlock ≠ some g → w7.heap[g]? = wr.heap[g]? := fun g hg hp hne => by
    have h1 := hk7.block g (Nat.lt_of_lt_of_le hg h54) (fun e => by
      rcases e with e | e
      · exact hS' g e hp
      · have := (hA.low hp).1; omega)
    have h2 := h5.block g (Nat.lt_of_lt_of_le hg h4.size) hne
    exact h1.trans (h2.trans (h4.block g hg))
  refine ⟨?_, ?_, ?_, ?_, fun g hg => ⟨?_, hg.2⟩, fun g hg hp => ?_, ?_, Nat.le_trans h.big (Nat.le_trans h54 hk7.size)⟩
  · have e2 : (ordT f 256).take (k + 1) = (ordT f 256).take k ++ [v] := by rw [List.take_succ_eq_append_getElem hk, hv]
    rw [e2, List.map_append, ← List.append_assoc]
    exact hw7.cut'
  · exact map_same h.map (hall _ h.map.lt (.inl rfl) (fun e => Nat.lt_irrefl _ (hA.newF v _ e)))
  · exact own_same h.ord fun g e hg => hall g hg (.inr (.inl e)) (fun e2 => hA.apO v g e2 e)
  · intro x hx
    have hx1 : x ∈ (ordT f 256).drop k := by
      rw [List.drop_eq_getElem_cons hk]
      exact List.mem_cons_of_mem _ hx
    have hne : x ≠ v := by
      rintro rfl
      have hnd := ordT_nodup f 256
      rw [← List.take_append_drop k (ordT f 256), List.nodup_append, List.drop_eq_getElem_cons hk, hv] at hnd
      exact (List.nodup_cons.1 hnd.2.1).1 hx
    exact own_same (h.grp x hx1) fun g e hg => hall g hg (.inr (.inr ⟨x, e⟩)) (fun e2 => hA.ap x v g hne e e2)
  · rcases hg.1 with hg | hg
    · exact (h.sub g hg).1
    · have := h.keep.size; exact .inr (by omega)
  · rcases hg.1 with hg | hg
    · exact hS' g hg hp
    · have := (hA.low hp).2; have := h.big; omega
  · have k1 : Keep (own S B) w w4 := h.keep.next h4
    have k2 : Keep (own S B) w w5 := k1.trans h5 (fun g hg e => by
      have := hA.newF v g e; omega)
    exact k2.trans hk7 (fun g hg e => by
      rcases e with e | e
      · rcases (h.sub g e).1 with e | e
        · exact .inl e
        · omega
      · exact .inr e)
theorem WW.done {S S' : Nat → Prop} {w wr : World} {N B : Nat} {ls : List (List UInt8)} {f : Nat → Int} {ov : Value} {F : Int → Value} {D : DataW Value} {k : Nat} (h0 : WS S w B ls) (h : WW S S' w N B ls f ov F D k wr) (hk : (ordT f 256).length ≤ k) : Wrote S w B (ls ++ weiLines f) (.returned (.tuple #[])) wr := by
  have hB := h0.lt
  obtain ⟨_, _, _, _, hnB⟩ := h0
  have h1 := h.ws
  rw [List.take_of_length_le hk] at h1
  exact ⟨rfl, h1.more (fun g hg => (h.sub g hg).1) (grow_out hnB hB), h.keep⟩
end Go.Proofs.YtblaldcioneooaaGreatDoor
/- The writer's weights. (Written by gen_ltwei.py.) -/
set_option linter.unusedVariables false
set_option maxRecDepth 100000
namespace Go.Proofs.YtblaldcioneooaaGreatDoor
open Go.RowKit

theorem eq_nil (w : World) : (binOp .eql 40 (.slice none 0 0) (.slice none 0 0)).run Tryz.prog w = .ok (.bool true) w := by kernel_rfl
theorem eq_some (w : World) (a : Addr) (n c : Nat) : (binOp .eql 40 (.slice (some a) n c) (.slice none 0 0)).run Tryz.prog w = .ok (.bool false) w := by kernel_rfl
theorem WS.keep {S T : Nat → Prop} {w w' : World} {B : Nat} {ls : List (List UInt8)} (h : WS S w B ls) (hk : Keep T w w') (hT : ∀ g, T g → ¬ S g) (hB : ¬ T B) : WS S w' B ls := by
  have hl := h.lt
  obtain ⟨v, h1, h2, h3, h4⟩ := h
  exact ⟨v, (hk.block B hl hB).trans h1, own_same h2 fun g e hg => hk.block g hg (fun e2 => hT g e2 (h3 g e)), h3, h4⟩
theorem fmB_size' (c : Nat) (hc : c ≤ 1000000) : (fmB c).length ≤ 40 := by
  have h := fmtS_size (c : Int) (by unfold fits; omega)
  rw [← size_len] at h
  exact h
theorem sum_fm (l : List Nat) (h : ∀ c ∈ l, c ≤ 1000000) : ((l.map fmB).map (·.length)).sum ≤ 40 * l.length := by
  induction l with
  | nil => exact Nat.le_refl _
  | cons a l ih =>
    have h1 := fmB_size' a (h a (by simp))
    have h2 := ih (fun c hc => h c (by simp [hc]))
    simp only [List.map_cons, List.sum_cons, List.length_cons]
    omega
def W1R (w : World) (f : Nat → Int) (k : Nat) (ov : Value) (wr : World) : Prop := ∃ F D, GM w.heap.size k (ordT f k) (fun v => grpT f v k) ov wr F D ∧ Below w.heap.size w wr
theorem infoI2 : (Tryz.prog.info? 3).map (fun i => (i.zero, i.size, i.bytes)) = some (some (.int .i64 0), 1, 8) := by kernel_rfl
theorem W1R.same {w wr : World} {f : Nat → Int} {k : Nat} {ov : Value} (h : W1R w f k ov wr) (he : f k = (k : Int)) : W1R w f (k + 1) ov wr := by
  obtain ⟨F, D, h1, h2⟩ := h
  refine ⟨F, D, (h1.more (Nat.le_succ _)).cong ?_ ?_, h2⟩
  · show ordT f k = (if f k = (k : Int) then ordT f k else if grpT f (f k) k = [] then ordT f k ++ [f k] else ordT f k)
    rw [if_pos he]
  · funext v
    rw [grpT_succ, if_neg (show ¬ (f k ≠ (k : Int) ∧ f k = v) from fun h => h.1 he)]
theorem W1R.put {w w3 w5 w6 : World} {f : Nat → Int} {k : Nat} {O : List Int} {ov : Value} {F : Int → Value} {D : DataW Value} (h : GM w.heap.size k O (fun v => grpT f v k) ov w3 F D) (hB : Below w.heap.size w w3) (he : f k ≠ (k : Int)) (X : Int) (hX : f k = X) (hO : O = ordT f (k + 1)) (m : Nat) (hm0 : (grpT f X k).length = m) (vF : Value) (hvF : F X = vF) (g cap : Nat) (FK : ByteArray) (hFK : mk (fmB k) = FK)
    (ho : w5.ownsRow 0 9 1 (.slice (some ⟨g, 0, none⟩) (m + 1) cap) (m + 1) (strs3 ((grpT f X k).map fmB) ++ [.string FK])) (hk : Keep (fun x => vF.ownBlock = some x) w3 w5) (hg : vF.ownBlock = some g ∨ w3.heap.size ≤ g)
    (hm : w6.ownsMap Tryz.prog 3 holdV w.heap.size (k + 1) (D.put (.int .i64 X) (.held (.slice (some ⟨g, 0, none⟩) (m + 1) cap)))) (hg6 : w5.grownBy w6 (some w.heap.size)) : W1R w f (k + 1) ov w6 := by
  subst hFK
  refine ⟨_, _, (h.put X k g cap m hm0 vF hvF ho hk hg hm hg6).cong hO ?_, ?_⟩
  · funext v
    rw [grpT_succ]
    by_cases hv : v = X
    · subst hv
      rw [if_pos rfl, if_pos (show f k ≠ (k : Int) ∧ f k = v from ⟨he, hX⟩)]
    · rw [if_neg hv, if_neg (show ¬ (f k ≠ (k : Int) ∧ f k = v) from fun h => hv (h.2.symm.trans hX))]
  · have h1 : Below w.heap.size w3 w5 := hk.below hB.size (fun y e => Nat.le_of_lt (h.newF X y (by rw [hvF]; exact e)))
    refine (hB.trans h1).grown hg6 (Nat.le_trans hB.size h1.size) (fun y e => ?_)
    have : w.heap.size = y := by simpa using e
    omega
set_option maxHeartbeats 16000000 in
theorem weights_any (S : Nat → Prop) (B : Nat) (ls : List (List UInt8)) (f : Nat → Int) (hf : ∀ j, j < 256 → 0 ≤ f j ∧ f j ≤ 65535) (W1 W2 : Value) (w : World) (h : WS S w B ls) (hls : ls.length ≤ 1000) (h1 : SL 1 256 (fun j _ => .int .i64 (f j)) w W1) (h2 : SL 1 256 (fun j _ => .int .i64 ((fun j : Nat => (j : Int)) j)) w W2) :
    Calls Tryz.prog 20 #[.pointer (some ⟨B, 0, none⟩), W1, W2] w (Wrote S w B (ls ++ weiLines f)) := by
  obtain ⟨a1, c1, rfl, _, k1⟩ := h1
  obtain ⟨a2, c2, rfl, _, k2⟩ := h2
  rcases k1 with h0 | ⟨b1, o1, rfl, l1, k1⟩
  · omega
  rcases k2 with h0 | ⟨b2, o2, rfl, l2, k2⟩
  · omega
  have K1 := Lib.hid k1
  have K2 := Lib.hid k2
  have HF := Lib.hid hf
  have HW := Lib.hid h
  have HLs := Lib.hid hls
  have hmm := @run_makeMap Tryz.prog
  obtain ⟨i0, hi0, hz0, hz1, hz2⟩ := info_parts infoSt
  have heq0 := eq_nil
  have heq1 := eq_some
  clear k1 k2 hf h hls
  go_enter Tryz.func20, Tryz.ntmps20
  go_wp2
  go_loopw [7, 15] (fun o0 i wr => ∃ (k : Nat) (ov : Value), k ≤ 256 ∧ ov = o0 ∧ i = .int .i64 k ∧ Hid (W1R w f k ov wr)) (fun _ i _ => 256 - (intOf i).toNat)
  case atStart => exact ⟨0, _, Nat.zero_le _, rfl, rfl, _, _, GM.made w, (Below.refl _ _).alloc (Nat.le_refl _) _⟩
  case round =>
    obtain ⟨k, ov, hk, rfl, rfl, HR⟩ := hrel
    by_cases hkn : k < 256
    · have ki : (k : Int) < 256 := by omega
      have ki0 : (0 : Int) ≤ k := by omega
      have hbw : Below w.heap.size w wr := by obtain ⟨_, _, _, h⟩ := HR.out; exact h
      have x1 : wr.cell? ⟨b1, o1 + k, none⟩ = some (.int .i64 (f k)) := by
        rw [hbw.cell (by exact l1)]
        have := K1.out k 0 hkn (by decide)
        simpa using this
      have x2 : wr.cell? ⟨b2, o2 + k, none⟩ = some (.int .i64 (k : Int)) := by
        rw [hbw.cell (by exact l2)]
        have := K2.out k 0 hkn (by decide)
        simpa using this
      clear hbw
      by_cases he : f k = (k : Int)
      · rw [he] at x1
        have HR1 := Lib.hid (HR.out.same he)
        clear he
        go_wp2
        go_roundw
        case rel => exact ⟨k + 1, _, by omega, rfl, by go_num, HR1.out⟩
        case measure => simp [intOf]; omega
      · obtain ⟨X, hX⟩ : ∃ X, f k = X := ⟨_, rfl⟩
        have hXr := HF.out k hkn
        rw [hX] at x1 hXr
        have hne : (X == (k : Int)) = false := beq_false_of_ne (fun e => he (hX.trans e))
        have HNe := Lib.hid he
        have HXk := Lib.hid hX
        have HWf : Hid ((Lit.int .i64 X).wf = true) := WalkArith.wf_i64 (by omega)
        obtain ⟨F, D, hG, hL⟩ := HR.out
        have HL := Lib.hid hL
        have HFm := Lib.hid (fun w => fmt_nat k (k : Int) rfl (by omega) w)
        obtain ⟨FK, hFK⟩ : ∃ FK, mk (fmB k) = FK := ⟨_, rfl⟩
        rw [hFK] at HFm
        have HFK := Lib.hid hFK
        obtain ⟨m, hm⟩ : ∃ m, (grpT f X k).length = m := ⟨_, rfl⟩
        have hml : m ≤ 256 := by rw [← hm]; exact Nat.le_trans (grpT_len f X k) hk
        have HM := Lib.hid hm
        obtain ⟨vF, hvF⟩ : ∃ vF, F X = vF := ⟨_, rfl⟩
        have HVal : Hid (D.atKey (.int .i64 X) (.held nilS) = .held vF) := by show _ = _; rw [hG.val X HWf.out, hvF]
        have hrow0 := hG.grp X
        rw [hvF] at hrow0
        have hnil0 := hG.nilF X
        rw [hvF] at hnil0
        have HvF := Lib.hid hvF
        have HG := Lib.hid hG
        clear hL hG he hX hFK hvF
        by_cases hgn : grpT f X k = []
        · have hvn : vF = .slice none 0 0 := hnil0 hgn
          have HOk0 : Hid (ordT f k ++ [X] = ordT f (k + 1)) := by
            show _ = ordT f (k + 1)
            have hq : ordT f (k + 1) = if f k = (k : Int) then ordT f k else if grpT f (f k) k = [] then ordT f k ++ [f k] else ordT f k := rfl
            rw [hq, if_neg HNe.out, HXk.out, if_pos hgn]
          have hoL := ordT_len f k
          clear hnil0 hrow0 hgn
          subst hvn
          go_wp2_with (first
            | (at_lookup; refine wpList_look_held _ rfl _ _ rfl HG.out.map rfl _ rfl HWf.out _ HVal.out ?_)
            | (at_builtin; refine app_st 22 3 (.int .i64 0) 1 8 Tryz.underlying22 infoI2 rfl (by decide) wr rfl (.tmp 30) (.tmp 32) rfl ov _ _ [.int .i64 X] rfl rfl HG.out.ord _ rfl rfl rfl ?d1 ?d2 ?d3 ?_))
          case d1 => simp [Value.oneCell']
          case d2 => unfold maxLen; omega
          case d3 => omega
          intro g cap wA ho hkp hgg
          have hGA := HG.out.ordered X g cap ho hkp hgg
          have hkA : Below w.heap.size wr wA := hkp.below HL.out.size (fun y e => Nat.le_of_lt (HG.out.newO y e))
          have HG0 := Lib.hid (hGA.next (Below.refl _ _).drew)
          have HLw : Hid (Below w.heap.size w wA.drew) := (HL.out.trans hkA).drew
          obtain ⟨O, hO⟩ : ∃ O, ordT f k ++ [X] = O := ⟨_, rfl⟩
          rw [hO] at HG0 HOk0
          have HOk : Hid (O = ordT f (k + 1)) := HOk0
          clear ho hkp hgg hGA hkA HG HL HOk0 hO
          obtain ⟨vF, hvF2⟩ : ∃ vF, Value.slice none 0 0 = vF := ⟨_, rfl⟩
          rw [hvF2] at HVal HvF
          clear hvF2
          generalize hnv : Value.slice (some ⟨g, 0, none⟩) ((ordT f k).length + 1) cap = nv at HG0 ⊢
          clear hnv
          go_wp2
          refine wp_region_held_drew (S := fun _ => True) (by kernel_rfl) ?_ (fun hHeld => ?_)
          · exact trivial
          refine wpAnyH_take (i := 0) (v := ?nv0) rfl (by kernel_rfl) (by kernel_rfl) (by kernel_rfl) (fun _ _ _ h => h) (Or.inl ⟨by rfl, ?ny0⟩) (by assumption) ?nr0
          case ny0 =>
            intro wx hSw
            clear hSw
            go_simp
            first | done | (with_reducible rfl)
          (try simp only [Act.put, List.getElem_toArray, List.getElem_cons_zero, List.setIfInBounds_toArray, List.set_cons_zero, List.set_cons_succ])
          refine wpAnyH_take (i := 1) (v := ?nv1) rfl (by kernel_rfl) (by kernel_rfl) (by kernel_rfl) (fun _ _ _ h => h) (Or.inl ⟨by rfl, ?ny1⟩) (by assumption) ?nr1
          case ny1 =>
            intro wx hSw
            clear hSw
            go_simp
            first | done | (with_reducible rfl)
          (try simp only [Act.put, List.getElem_toArray, List.getElem_cons_succ, List.getElem_cons_zero, List.setIfInBounds_toArray, List.set_cons_zero, List.set_cons_succ])
          refine wpAnyH_take (i := 2) (v := ?nv2) rfl (by kernel_rfl) (by kernel_rfl) (by kernel_rfl) (fun _ _ _ h => h) (Or.inl ⟨by rfl, ?ny2⟩) (by assumption) ?nr2
          case ny2 =>
            intro wx hSw
            clear hSw
            go_simp
            first | done | (with_reducible rfl)
          (try simp only [Act.put, List.getElem_toArray, List.getElem_cons_succ, List.getElem_cons_zero, List.setIfInBounds_toArray, List.set_cons_zero, List.set_cons_succ])
          refine wpAnyH_take (i := 3) (v := ?nv3) rfl (by kernel_rfl) (by kernel_rfl) (by kernel_rfl) (fun _ _ _ h => h) (Or.inl ⟨by rfl, ?ny3⟩) (by assumption) ?nr3
          case ny3 =>
            intro wx hSw
            clear hSw
            go_simp
            first | done | (with_reducible rfl)
          (try simp only [Act.put, List.getElem_toArray, List.getElem_cons_succ, List.getElem_cons_zero, List.setIfInBounds_toArray, List.set_cons_zero, List.set_cons_succ])
          refine wpAnyH_take (i := 5) (v := ?nv5) rfl (by kernel_rfl) (by kernel_rfl) (by kernel_rfl) (fun _ _ _ h => h) (Or.inl ⟨by rfl, ?ny5⟩) (by assumption) ?nr5
          case ny5 =>
            intro wx hSw
            clear hSw
            go_simp
            first | done | (with_reducible rfl)
          (try simp only [Act.put, List.getElem_toArray, List.getElem_cons_succ, List.getElem_cons_zero, List.setIfInBounds_toArray, List.set_cons_zero, List.set_cons_succ])
          refine wpAnyH_ready (rs := [4, 6]) (by kernel_rfl) (by simp) ?_
          refine AllReadyH.cons rfl (fun K hK => ?_) (AllReadyH.cons rfl (fun K hK => ?_) AllReadyH.nil)
          · refine step_look_held _ (by rfl) (.tmp 36) (.tmp 37) (by rfl) HG0.out.map (by rfl) X (by rfl) HWf.out vF HVal.out ?_
            refine hK.out _ _ trivial (fun _ => ?_)
            clear hK K
            (try simp only [Act.put, List.getElem_toArray, List.getElem_cons_succ, List.getElem_cons_zero, List.setIfInBounds_toArray, List.set_cons_zero, List.set_cons_succ])
            refine wpAnyH_ready (rs := [6]) (by kernel_rfl) (by simp) ?_
            refine AllReadyH.cons rfl (fun K hK => ?_) AllReadyH.nil
            go_simp
            go_at_call 24
            refine (HFm.out _).mono ?_
            rintro e w2 ⟨rfl, hb2⟩
            have HG2 := Lib.hid (HG0.out.next hb2)
            have HL2 := Lib.hid (HLw.out.trans (hb2.mono HLw.out.size))
            clear hb2
            refine hK.out _ _ trivial (fun _ => ?_)
            clear hK K
            (try simp only [Act.put, List.getElem_toArray, List.getElem_cons_succ, List.getElem_cons_zero, List.setIfInBounds_toArray, List.set_cons_zero, List.set_cons_succ])
            refine wpAnyH_ready (rs := [7]) (by kernel_rfl) (by simp) ?_
            refine AllReadyH.cons rfl (fun K hK => ?_) AllReadyH.nil
            go_simp
            have HG3 := Lib.hid (HG2.out.next ((Below.refl w2.heap.size w2).alloc (Nat.le_refl _) (.cells #[.string FK] 9)))
            have HL3 : Hid (Below w.heap.size w (w2.alloc (.cells #[.string FK] 9))) := HL2.out.alloc HL2.out.size _
            refine hK.out _ _ trivial (fun _ => ?_)
            clear hK K
            (try simp only [Act.put, List.getElem_toArray, List.getElem_cons_succ, List.getElem_cons_zero, List.setIfInBounds_toArray, List.set_cons_zero, List.set_cons_succ])
            refine wpAnyH_ready (rs := [8]) (by kernel_rfl) (by simp) ?_
            refine AllReadyH.cons rfl (fun K hK => ?_) AllReadyH.nil
            have hrow := HG3.out.grp X
            rw [HvF.out] at hrow
            simp only [HM.out] at hrow
            have HRow := Lib.hid hrow
            clear hrow
            refine step_append_lies _ (by rfl) (.tmp 38) (.tmp 41) 40 (by rfl) 0 9 i0 _ 1 16 Tryz.underlying40 hi0 hz0 hz1 hz2 rfl (by decide) vF m (strs3 ((grpT f X k).map fmB)) (by rfl) HRow.out ⟨w2.heap.size, 0, none⟩ 1 1 [.string FK] (by rfl) rfl (fun j u hu => new_cells w2 [.string FK] 9 j u hu) (by simp [Value.oneCell']) (by decide) (by unfold maxLen; omega) (by omega) (Nat.zero_le _) (w2.heap.size + 1) (by simp) ?_
            intro g5 cap5 w5 ho5 hg5 hat5 hlt5
            have HO5 := Lib.hid ho5
            have HK5 : Hid (Keep (fun x => vF.ownBlock = some x) (w2.alloc (.cells #[.string FK] 9)) w5) := (Keep.refl _ _).grown hg5 (fun k e _ => e)
            have HAt5 : Hid (vF.ownBlock = some g5 ∨ (w2.alloc (.cells #[.string FK] 9)).heap.size ≤ g5) := hat5.imp id (fun e => by rw [e]; simp)
            have HMp5 : Hid (w5.ownsMap Tryz.prog 3 holdV w.heap.size k D) := map_same HG3.out.map (HK5.out.block _ HG3.out.map.lt (fun e => Nat.lt_irrefl _ (HG3.out.newF X _ (by rw [HvF.out]; exact e))))
            clear ho5 hg5 hat5 hlt5
            refine hK.out _ _ trivial (fun _ => ?_)
            clear hK K
            (try simp only [Act.put, List.getElem_toArray, List.getElem_cons_succ, List.getElem_cons_zero, List.setIfInBounds_toArray, List.set_cons_zero, List.set_cons_succ])
            refine wpAnyH_ready (rs := [9]) (by kernel_rfl) (by simp) ?_
            refine AllReadyH.cons rfl (fun K hK => ?_) AllReadyH.nil
            refine step_put_held _ (by rfl) (.tmp 34) (.tmp 35) (.tmp 42) (by rfl) HMp5.out (by rfl) X (by rfl) HWf.out _ (by rfl) (by unfold maxLen; omega) ?_
            intro w6 hm6 hg6
            have HR6 := Lib.hid (W1R.put HG3.out HL3.out HNe.out X HXk.out HOk.out m HM.out vF HvF.out g5 cap5 FK HFK.out HO5.out HK5.out HAt5.out hm6 hg6)
            clear hm6 hg6
            refine hK.out _ _ trivial (fun _ => ?_)
            clear hK K
            (try simp only [Act.put, List.getElem_toArray, List.getElem_cons_succ, List.getElem_cons_zero])
            refine wpAnyH_done (by kernel_rfl) ?_ _
            go_wp2
            go_roundw
            case rel => exact ⟨k + 1, _, by omega, rfl, by go_num, HR6.out⟩
            case measure => simp [intOf]; omega
          · go_simp
            go_at_call 24
            refine (HFm.out _).mono ?_
            rintro e w2 ⟨rfl, hb2⟩
            have HG2 := Lib.hid (HG0.out.next hb2)
            have HL2 := Lib.hid (HLw.out.trans (hb2.mono HLw.out.size))
            clear hb2
            refine hK.out _ _ trivial (fun _ => ?_)
            clear hK K
            (try simp only [Act.put, List.getElem_toArray, List.getElem_cons_succ, List.getElem_cons_zero, List.setIfInBounds_toArray, List.set_cons_zero, List.set_cons_succ])
            refine wpAnyH_ready (rs := [4, 7]) (by kernel_rfl) (by simp) ?_
            refine AllReadyH.cons rfl (fun K hK => ?_) (AllReadyH.cons rfl (fun K hK => ?_) AllReadyH.nil)
            · refine step_look_held _ (by rfl) (.tmp 36) (.tmp 37) (by rfl) HG2.out.map (by rfl) X (by rfl) HWf.out vF HVal.out ?_
              refine hK.out _ _ trivial (fun _ => ?_)
              clear hK K
              (try simp only [Act.put, List.getElem_toArray, List.getElem_cons_succ, List.getElem_cons_zero, List.setIfInBounds_toArray, List.set_cons_zero, List.set_cons_succ])
              refine wpAnyH_ready (rs := [7]) (by kernel_rfl) (by simp) ?_
              refine AllReadyH.cons rfl (fun K hK => ?_) AllReadyH.nil
              go_simp
              have HG3 := Lib.hid (HG2.out.next ((Below.refl w2.heap.size w2).alloc (Nat.le_refl _) (.cells #[.string FK] 9)))
              have HL3 : Hid (Below w.heap.size w (w2.alloc (.cells #[.string FK] 9))) := HL2.out.alloc HL2.out.size _
              refine hK.out _ _ trivial (fun _ => ?_)
              clear hK K
              (try simp only [Act.put, List.getElem_toArray, List.getElem_cons_succ, List.getElem_cons_zero, List.setIfInBounds_toArray, List.set_cons_zero, List.set_cons_succ])
              refine wpAnyH_ready (rs := [8]) (by kernel_rfl) (by simp) ?_
              refine AllReadyH.cons rfl (fun K hK => ?_) AllReadyH.nil
              have hrow := HG3.out.grp X
              rw [HvF.out] at hrow
              simp only [HM.out] at hrow
              have HRow := Lib.hid hrow
              clear hrow
              refine step_append_lies _ (by rfl) (.tmp 38) (.tmp 41) 40 (by rfl) 0 9 i0 _ 1 16 Tryz.underlying40 hi0 hz0 hz1 hz2 rfl (by decide) vF m (strs3 ((grpT f X k).map fmB)) (by rfl) HRow.out ⟨w2.heap.size, 0, none⟩ 1 1 [.string FK] (by rfl) rfl (fun j u hu => new_cells w2 [.string FK] 9 j u hu) (by simp [Value.oneCell']) (by decide) (by unfold maxLen; omega) (by omega) (Nat.zero_le _) (w2.heap.size + 1) (by simp) ?_
              intro g5 cap5 w5 ho5 hg5 hat5 hlt5
              have HO5 := Lib.hid ho5
              have HK5 : Hid (Keep (fun x => vF.ownBlock = some x) (w2.alloc (.cells #[.string FK] 9)) w5) := (Keep.refl _ _).grown hg5 (fun k e _ => e)
              have HAt5 : Hid (vF.ownBlock = some g5 ∨ (w2.alloc (.cells #[.string FK] 9)).heap.size ≤ g5) := hat5.imp id (fun e => by rw [e]; simp)
              have HMp5 : Hid (w5.ownsMap Tryz.prog 3 holdV w.heap.size k D) := map_same HG3.out.map (HK5.out.block _ HG3.out.map.lt (fun e => Nat.lt_irrefl _ (HG3.out.newF X _ (by rw [HvF.out]; exact e))))
              clear ho5 hg5 hat5 hlt5
              refine hK.out _ _ trivial (fun _ => ?_)
              clear hK K
              (try simp only [Act.put, List.getElem_toArray, List.getElem_cons_succ, List.getElem_cons_zero, List.setIfInBounds_toArray, List.set_cons_zero, List.set_cons_succ])
              refine wpAnyH_ready (rs := [9]) (by kernel_rfl) (by simp) ?_
              refine AllReadyH.cons rfl (fun K hK => ?_) AllReadyH.nil
              refine step_put_held _ (by rfl) (.tmp 34) (.tmp 35) (.tmp 42) (by rfl) HMp5.out (by rfl) X (by rfl) HWf.out _ (by rfl) (by unfold maxLen; omega) ?_
              intro w6 hm6 hg6
              have HR6 := Lib.hid (W1R.put HG3.out HL3.out HNe.out X HXk.out HOk.out m HM.out vF HvF.out g5 cap5 FK HFK.out HO5.out HK5.out HAt5.out hm6 hg6)
              clear hm6 hg6
              refine hK.out _ _ trivial (fun _ => ?_)
              clear hK K
              (try simp only [Act.put, List.getElem_toArray, List.getElem_cons_succ, List.getElem_cons_zero])
              refine wpAnyH_done (by kernel_rfl) ?_ _
              go_wp2
              go_roundw
              case rel => exact ⟨k + 1, _, by omega, rfl, by go_num, HR6.out⟩
              case measure => simp [intOf]; omega
            · go_simp
              have HG3 := Lib.hid (HG2.out.next ((Below.refl w2.heap.size w2).alloc (Nat.le_refl _) (.cells #[.string FK] 9)))
              have HL3 : Hid (Below w.heap.size w (w2.alloc (.cells #[.string FK] 9))) := HL2.out.alloc HL2.out.size _
              refine hK.out _ _ trivial (fun _ => ?_)
              clear hK K
              (try simp only [Act.put, List.getElem_toArray, List.getElem_cons_succ, List.getElem_cons_zero, List.setIfInBounds_toArray, List.set_cons_zero, List.set_cons_succ])
              refine wpAnyH_ready (rs := [4]) (by kernel_rfl) (by simp) ?_
              refine AllReadyH.cons rfl (fun K hK => ?_) AllReadyH.nil
              refine step_look_held _ (by rfl) (.tmp 36) (.tmp 37) (by rfl) HG3.out.map (by rfl) X (by rfl) HWf.out vF HVal.out ?_
              refine hK.out _ _ trivial (fun _ => ?_)
              clear hK K
              (try simp only [Act.put, List.getElem_toArray, List.getElem_cons_succ, List.getElem_cons_zero, List.setIfInBounds_toArray, List.set_cons_zero, List.set_cons_succ])
              refine wpAnyH_ready (rs := [8]) (by kernel_rfl) (by simp) ?_
              refine AllReadyH.cons rfl (fun K hK => ?_) AllReadyH.nil
              have hrow := HG3.out.grp X
              rw [HvF.out] at hrow
              simp only [HM.out] at hrow
              have HRow := Lib.hid hrow
              clear hrow
              refine step_append_lies _ (by rfl) (.tmp 38) (.tmp 41) 40 (by rfl) 0 9 i0 _ 1 16 Tryz.underlying40 hi0 hz0 hz1 hz2 rfl (by decide) vF m (strs3 ((grpT f X k).map fmB)) (by rfl) HRow.out ⟨w2.heap.size, 0, none⟩ 1 1 [.string FK] (by rfl) rfl (fun j u hu => new_cells w2 [.string FK] 9 j u hu) (by simp [Value.oneCell']) (by decide) (by unfold maxLen; omega) (by omega) (Nat.zero_le _) (w2.heap.size + 1) (by simp) ?_
              intro g5 cap5 w5 ho5 hg5 hat5 hlt5
              have HO5 := Lib.hid ho5
              have HK5 : Hid (Keep (fun x => vF.ownBlock = some x) (w2.alloc (.cells #[.string FK] 9)) w5) := (Keep.refl _ _).grown hg5 (fun k e _ => e)
              have HAt5 : Hid (vF.ownBlock = some g5 ∨ (w2.alloc (.cells #[.string FK] 9)).heap.size ≤ g5) := hat5.imp id (fun e => by rw [e]; simp)
              have HMp5 : Hid (w5.ownsMap Tryz.prog 3 holdV w.heap.size k D) := map_same HG3.out.map (HK5.out.block _ HG3.out.map.lt (fun e => Nat.lt_irrefl _ (HG3.out.newF X _ (by rw [HvF.out]; exact e))))
              clear ho5 hg5 hat5 hlt5
              refine hK.out _ _ trivial (fun _ => ?_)
              clear hK K
              (try simp only [Act.put, List.getElem_toArray, List.getElem_cons_succ, List.getElem_cons_zero, List.setIfInBounds_toArray, List.set_cons_zero, List.set_cons_succ])
              refine wpAnyH_ready (rs := [9]) (by kernel_rfl) (by simp) ?_
              refine AllReadyH.cons rfl (fun K hK => ?_) AllReadyH.nil
              refine step_put_held _ (by rfl) (.tmp 34) (.tmp 35) (.tmp 42) (by rfl) HMp5.out (by rfl) X (by rfl) HWf.out _ (by rfl) (by unfold maxLen; omega) ?_
              intro w6 hm6 hg6
              have HR6 := Lib.hid (W1R.put HG3.out HL3.out HNe.out X HXk.out HOk.out m HM.out vF HvF.out g5 cap5 FK HFK.out HO5.out HK5.out HAt5.out hm6 hg6)
              clear hm6 hg6
              refine hK.out _ _ trivial (fun _ => ?_)
              clear hK K
              (try simp only [Act.put, List.getElem_toArray, List.getElem_cons_succ, List.getElem_cons_zero])
              refine wpAnyH_done (by kernel_rfl) ?_ _
              go_wp2
              go_roundw
              case rel => exact ⟨k + 1, _, by omega, rfl, by go_num, HR6.out⟩
              case measure => simp [intOf]; omega
        · obtain ⟨gF, cF, hvg, -, -⟩ := hrow0.form (by rw [hm]; rw [← hm]; exact List.length_pos_iff.2 hgn)
          have HOk : Hid (ordT f k = ordT f (k + 1)) := by
            show _ = ordT f (k + 1)
            have hq : ordT f (k + 1) = if f k = (k : Int) then ordT f k else if grpT f (f k) k = [] then ordT f k ++ [f k] else ordT f k := rfl
            rw [hq, if_neg HNe.out, HXk.out, if_neg hgn]
          have HLw : Hid (Below w.heap.size w wr.drew) := HL.out.drew
          have HG0 := Lib.hid (HG.out.next (Below.refl _ _).drew)
          obtain ⟨O, hO⟩ : ∃ O, ordT f k = O := ⟨_, rfl⟩
          rw [hO] at HG0 HOk
          clear hnil0 hrow0 hgn hm hO
          subst hvg
          go_wp2_with (first
            | (at_lookup; refine wpList_look_held _ rfl _ _ rfl HG.out.map rfl _ rfl HWf.out _ HVal.out ?_))
          obtain ⟨vF, hvF2⟩ : ∃ vF, Value.slice (some ⟨gF, 0, none⟩) (grpT f X k).length cF = vF := ⟨_, rfl⟩
          rw [hvF2] at HVal HvF
          clear hvF2 HG
          refine wp_region_held_drew (S := fun _ => True) (by kernel_rfl) ?_ (fun hHeld => ?_)
          · exact trivial
          refine wpAnyH_take (i := 0) (v := ?sv0) rfl (by kernel_rfl) (by kernel_rfl) (by kernel_rfl) (fun _ _ _ h => h) (Or.inl ⟨by rfl, ?sy0⟩) (by assumption) ?sr0
          case sy0 =>
            intro wx hSw
            clear hSw
            go_simp
            first | done | (with_reducible rfl)
          (try simp only [Act.put, List.getElem_toArray, List.getElem_cons_zero, List.setIfInBounds_toArray, List.set_cons_zero, List.set_cons_succ])
          refine wpAnyH_take (i := 1) (v := ?sv1) rfl (by kernel_rfl) (by kernel_rfl) (by kernel_rfl) (fun _ _ _ h => h) (Or.inl ⟨by rfl, ?sy1⟩) (by assumption) ?sr1
          case sy1 =>
            intro wx hSw
            clear hSw
            go_simp
            first | done | (with_reducible rfl)
          (try simp only [Act.put, List.getElem_toArray, List.getElem_cons_succ, List.getElem_cons_zero, List.setIfInBounds_toArray, List.set_cons_zero, List.set_cons_succ])
          refine wpAnyH_take (i := 2) (v := ?sv2) rfl (by kernel_rfl) (by kernel_rfl) (by kernel_rfl) (fun _ _ _ h => h) (Or.inl ⟨by rfl, ?sy2⟩) (by assumption) ?sr2
          case sy2 =>
            intro wx hSw
            clear hSw
            go_simp
            first | done | (with_reducible rfl)
          (try simp only [Act.put, List.getElem_toArray, List.getElem_cons_succ, List.getElem_cons_zero, List.setIfInBounds_toArray, List.set_cons_zero, List.set_cons_succ])
          refine wpAnyH_take (i := 3) (v := ?sv3) rfl (by kernel_rfl) (by kernel_rfl) (by kernel_rfl) (fun _ _ _ h => h) (Or.inl ⟨by rfl, ?sy3⟩) (by assumption) ?sr3
          case sy3 =>
            intro wx hSw
            clear hSw
            go_simp
            first | done | (with_reducible rfl)
          (try simp only [Act.put, List.getElem_toArray, List.getElem_cons_succ, List.getElem_cons_zero, List.setIfInBounds_toArray, List.set_cons_zero, List.set_cons_succ])
          refine wpAnyH_take (i := 5) (v := ?sv5) rfl (by kernel_rfl) (by kernel_rfl) (by kernel_rfl) (fun _ _ _ h => h) (Or.inl ⟨by rfl, ?sy5⟩) (by assumption) ?sr5
          case sy5 =>
            intro wx hSw
            clear hSw
            go_simp
            first | done | (with_reducible rfl)
          (try simp only [Act.put, List.getElem_toArray, List.getElem_cons_succ, List.getElem_cons_zero, List.setIfInBounds_toArray, List.set_cons_zero, List.set_cons_succ])
          refine wpAnyH_ready (rs := [4, 6]) (by kernel_rfl) (by simp) ?_
          refine AllReadyH.cons rfl (fun K hK => ?_) (AllReadyH.cons rfl (fun K hK => ?_) AllReadyH.nil)
          · refine step_look_held _ (by rfl) (.tmp 36) (.tmp 37) (by rfl) HG0.out.map (by rfl) X (by rfl) HWf.out vF HVal.out ?_
            refine hK.out _ _ trivial (fun _ => ?_)
            clear hK K
            (try simp only [Act.put, List.getElem_toArray, List.getElem_cons_succ, List.getElem_cons_zero, List.setIfInBounds_toArray, List.set_cons_zero, List.set_cons_succ])
            refine wpAnyH_ready (rs := [6]) (by kernel_rfl) (by simp) ?_
            refine AllReadyH.cons rfl (fun K hK => ?_) AllReadyH.nil
            go_simp
            go_at_call 24
            refine (HFm.out _).mono ?_
            rintro e w2 ⟨rfl, hb2⟩
            have HG2 := Lib.hid (HG0.out.next hb2)
            have HL2 := Lib.hid (HLw.out.trans (hb2.mono HLw.out.size))
            clear hb2
            refine hK.out _ _ trivial (fun _ => ?_)
            clear hK K
            (try simp only [Act.put, List.getElem_toArray, List.getElem_cons_succ, List.getElem_cons_zero, List.setIfInBounds_toArray, List.set_cons_zero, List.set_cons_succ])
            refine wpAnyH_ready (rs := [7]) (by kernel_rfl) (by simp) ?_
            refine AllReadyH.cons rfl (fun K hK => ?_) AllReadyH.nil
            go_simp
            have HG3 := Lib.hid (HG2.out.next ((Below.refl w2.heap.size w2).alloc (Nat.le_refl _) (.cells #[.string FK] 9)))
            have HL3 : Hid (Below w.heap.size w (w2.alloc (.cells #[.string FK] 9))) := HL2.out.alloc HL2.out.size _
            refine hK.out _ _ trivial (fun _ => ?_)
            clear hK K
            (try simp only [Act.put, List.getElem_toArray, List.getElem_cons_succ, List.getElem_cons_zero, List.setIfInBounds_toArray, List.set_cons_zero, List.set_cons_succ])
            refine wpAnyH_ready (rs := [8]) (by kernel_rfl) (by simp) ?_
            refine AllReadyH.cons rfl (fun K hK => ?_) AllReadyH.nil
            have hrow := HG3.out.grp X
            rw [HvF.out] at hrow
            simp only [HM.out] at hrow
            have HRow := Lib.hid hrow
            clear hrow
            refine step_append_lies _ (by rfl) (.tmp 38) (.tmp 41) 40 (by rfl) 0 9 i0 _ 1 16 Tryz.underlying40 hi0 hz0 hz1 hz2 rfl (by decide) vF m (strs3 ((grpT f X k).map fmB)) (by rfl) HRow.out ⟨w2.heap.size, 0, none⟩ 1 1 [.string FK] (by rfl) rfl (fun j u hu => new_cells w2 [.string FK] 9 j u hu) (by simp [Value.oneCell']) (by decide) (by unfold maxLen; omega) (by omega) (Nat.zero_le _) (w2.heap.size + 1) (by simp) ?_
            intro g5 cap5 w5 ho5 hg5 hat5 hlt5
            have HO5 := Lib.hid ho5
            have HK5 : Hid (Keep (fun x => vF.ownBlock = some x) (w2.alloc (.cells #[.string FK] 9)) w5) := (Keep.refl _ _).grown hg5 (fun k e _ => e)
            have HAt5 : Hid (vF.ownBlock = some g5 ∨ (w2.alloc (.cells #[.string FK] 9)).heap.size ≤ g5) := hat5.imp id (fun e => by rw [e]; simp)
            have HMp5 : Hid (w5.ownsMap Tryz.prog 3 holdV w.heap.size k D) := map_same HG3.out.map (HK5.out.block _ HG3.out.map.lt (fun e => Nat.lt_irrefl _ (HG3.out.newF X _ (by rw [HvF.out]; exact e))))
            clear ho5 hg5 hat5 hlt5
            refine hK.out _ _ trivial (fun _ => ?_)
            clear hK K
            (try simp only [Act.put, List.getElem_toArray, List.getElem_cons_succ, List.getElem_cons_zero, List.setIfInBounds_toArray, List.set_cons_zero, List.set_cons_succ])
            refine wpAnyH_ready (rs := [9]) (by kernel_rfl) (by simp) ?_
            refine AllReadyH.cons rfl (fun K hK => ?_) AllReadyH.nil
            refine step_put_held _ (by rfl) (.tmp 34) (.tmp 35) (.tmp 42) (by rfl) HMp5.out (by rfl) X (by rfl) HWf.out _ (by rfl) (by unfold maxLen; omega) ?_
            intro w6 hm6 hg6
            have HR6 := Lib.hid (W1R.put HG3.out HL3.out HNe.out X HXk.out HOk.out m HM.out vF HvF.out g5 cap5 FK HFK.out HO5.out HK5.out HAt5.out hm6 hg6)
            clear hm6 hg6
            refine hK.out _ _ trivial (fun _ => ?_)
            clear hK K
            (try simp only [Act.put, List.getElem_toArray, List.getElem_cons_succ, List.getElem_cons_zero])
            refine wpAnyH_done (by kernel_rfl) ?_ _
            go_wp2
            go_roundw
            case rel => exact ⟨k + 1, _, by omega, rfl, by go_num, HR6.out⟩
            case measure => simp [intOf]; omega
          · go_simp
            go_at_call 24
            refine (HFm.out _).mono ?_
            rintro e w2 ⟨rfl, hb2⟩
            have HG2 := Lib.hid (HG0.out.next hb2)
            have HL2 := Lib.hid (HLw.out.trans (hb2.mono HLw.out.size))
            clear hb2
            refine hK.out _ _ trivial (fun _ => ?_)
            clear hK K
            (try simp only [Act.put, List.getElem_toArray, List.getElem_cons_succ, List.getElem_cons_zero, List.setIfInBounds_toArray, List.set_cons_zero, List.set_cons_succ])
            refine wpAnyH_ready (rs := [4, 7]) (by kernel_rfl) (by simp) ?_
            refine AllReadyH.cons rfl (fun K hK => ?_) (AllReadyH.cons rfl (fun K hK => ?_) AllReadyH.nil)
            · refine step_look_held _ (by rfl) (.tmp 36) (.tmp 37) (by rfl) HG2.out.map (by rfl) X (by rfl) HWf.out vF HVal.out ?_
              refine hK.out _ _ trivial (fun _ => ?_)
              clear hK K
              (try simp only [Act.put, List.getElem_toArray, List.getElem_cons_succ, List.getElem_cons_zero, List.setIfInBounds_toArray, List.set_cons_zero, List.set_cons_succ])
              refine wpAnyH_ready (rs := [7]) (by kernel_rfl) (by simp) ?_
              refine AllReadyH.cons rfl (fun K hK => ?_) AllReadyH.nil
              go_simp
              have HG3 := Lib.hid (HG2.out.next ((Below.refl w2.heap.size w2).alloc (Nat.le_refl _) (.cells #[.string FK] 9)))
              have HL3 : Hid (Below w.heap.size w (w2.alloc (.cells #[.string FK] 9))) := HL2.out.alloc HL2.out.size _
              refine hK.out _ _ trivial (fun _ => ?_)
              clear hK K
              (try simp only [Act.put, List.getElem_toArray, List.getElem_cons_succ, List.getElem_cons_zero, List.setIfInBounds_toArray, List.set_cons_zero, List.set_cons_succ])
              refine wpAnyH_ready (rs := [8]) (by kernel_rfl) (by simp) ?_
              refine AllReadyH.cons rfl (fun K hK => ?_) AllReadyH.nil
              have hrow := HG3.out.grp X
              rw [HvF.out] at hrow
              simp only [HM.out] at hrow
              have HRow := Lib.hid hrow
              clear hrow
              refine step_append_lies _ (by rfl) (.tmp 38) (.tmp 41) 40 (by rfl) 0 9 i0 _ 1 16 Tryz.underlying40 hi0 hz0 hz1 hz2 rfl (by decide) vF m (strs3 ((grpT f X k).map fmB)) (by rfl) HRow.out ⟨w2.heap.size, 0, none⟩ 1 1 [.string FK] (by rfl) rfl (fun j u hu => new_cells w2 [.string FK] 9 j u hu) (by simp [Value.oneCell']) (by decide) (by unfold maxLen; omega) (by omega) (Nat.zero_le _) (w2.heap.size + 1) (by simp) ?_
              intro g5 cap5 w5 ho5 hg5 hat5 hlt5
              have HO5 := Lib.hid ho5
              have HK5 : Hid (Keep (fun x => vF.ownBlock = some x) (w2.alloc (.cells #[.string FK] 9)) w5) := (Keep.refl _ _).grown hg5 (fun k e _ => e)
              have HAt5 : Hid (vF.ownBlock = some g5 ∨ (w2.alloc (.cells #[.string FK] 9)).heap.size ≤ g5) := hat5.imp id (fun e => by rw [e]; simp)
              have HMp5 : Hid (w5.ownsMap Tryz.prog 3 holdV w.heap.size k D) := map_same HG3.out.map (HK5.out.block _ HG3.out.map.lt (fun e => Nat.lt_irrefl _ (HG3.out.newF X _ (by rw [HvF.out]; exact e))))
              clear ho5 hg5 hat5 hlt5
              refine hK.out _ _ trivial (fun _ => ?_)
              clear hK K
              (try simp only [Act.put, List.getElem_toArray, List.getElem_cons_succ, List.getElem_cons_zero, List.setIfInBounds_toArray, List.set_cons_zero, List.set_cons_succ])
              refine wpAnyH_ready (rs := [9]) (by kernel_rfl) (by simp) ?_
              refine AllReadyH.cons rfl (fun K hK => ?_) AllReadyH.nil
              refine step_put_held _ (by rfl) (.tmp 34) (.tmp 35) (.tmp 42) (by rfl) HMp5.out (by rfl) X (by rfl) HWf.out _ (by rfl) (by unfold maxLen; omega) ?_
              intro w6 hm6 hg6
              have HR6 := Lib.hid (W1R.put HG3.out HL3.out HNe.out X HXk.out HOk.out m HM.out vF HvF.out g5 cap5 FK HFK.out HO5.out HK5.out HAt5.out hm6 hg6)
              clear hm6 hg6
              refine hK.out _ _ trivial (fun _ => ?_)
              clear hK K
              (try simp only [Act.put, List.getElem_toArray, List.getElem_cons_succ, List.getElem_cons_zero])
              refine wpAnyH_done (by kernel_rfl) ?_ _
              go_wp2
              go_roundw
              case rel => exact ⟨k + 1, _, by omega, rfl, by go_num, HR6.out⟩
              case measure => simp [intOf]; omega
            · go_simp
              have HG3 := Lib.hid (HG2.out.next ((Below.refl w2.heap.size w2).alloc (Nat.le_refl _) (.cells #[.string FK] 9)))
              have HL3 : Hid (Below w.heap.size w (w2.alloc (.cells #[.string FK] 9))) := HL2.out.alloc HL2.out.size _
              refine hK.out _ _ trivial (fun _ => ?_)
              clear hK K
              (try simp only [Act.put, List.getElem_toArray, List.getElem_cons_succ, List.getElem_cons_zero, List.setIfInBounds_toArray, List.set_cons_zero, List.set_cons_succ])
              refine wpAnyH_ready (rs := [4]) (by kernel_rfl) (by simp) ?_
              refine AllReadyH.cons rfl (fun K hK => ?_) AllReadyH.nil
              refine step_look_held _ (by rfl) (.tmp 36) (.tmp 37) (by rfl) HG3.out.map (by rfl) X (by rfl) HWf.out vF HVal.out ?_
              refine hK.out _ _ trivial (fun _ => ?_)
              clear hK K
              (try simp only [Act.put, List.getElem_toArray, List.getElem_cons_succ, List.getElem_cons_zero, List.setIfInBounds_toArray, List.set_cons_zero, List.set_cons_succ])
              refine wpAnyH_ready (rs := [8]) (by kernel_rfl) (by simp) ?_
              refine AllReadyH.cons rfl (fun K hK => ?_) AllReadyH.nil
              have hrow := HG3.out.grp X
              rw [HvF.out] at hrow
              simp only [HM.out] at hrow
              have HRow := Lib.hid hrow
              clear hrow
              refine step_append_lies _ (by rfl) (.tmp 38) (.tmp 41) 40 (by rfl) 0 9 i0 _ 1 16 Tryz.underlying40 hi0 hz0 hz1 hz2 rfl (by decide) vF m (strs3 ((grpT f X k).map fmB)) (by rfl) HRow.out ⟨w2.heap.size, 0, none⟩ 1 1 [.string FK] (by rfl) rfl (fun j u hu => new_cells w2 [.string FK] 9 j u hu) (by simp [Value.oneCell']) (by decide) (by unfold maxLen; omega) (by omega) (Nat.zero_le _) (w2.heap.size + 1) (by simp) ?_
              intro g5 cap5 w5 ho5 hg5 hat5 hlt5
              have HO5 := Lib.hid ho5
              have HK5 : Hid (Keep (fun x => vF.ownBlock = some x) (w2.alloc (.cells #[.string FK] 9)) w5) := (Keep.refl _ _).grown hg5 (fun k e _ => e)
              have HAt5 : Hid (vF.ownBlock = some g5 ∨ (w2.alloc (.cells #[.string FK] 9)).heap.size ≤ g5) := hat5.imp id (fun e => by rw [e]; simp)
              have HMp5 : Hid (w5.ownsMap Tryz.prog 3 holdV w.heap.size k D) := map_same HG3.out.map (HK5.out.block _ HG3.out.map.lt (fun e => Nat.lt_irrefl _ (HG3.out.newF X _ (by rw [HvF.out]; exact e))))
              clear ho5 hg5 hat5 hlt5
              refine hK.out _ _ trivial (fun _ => ?_)
              clear hK K
              (try simp only [Act.put, List.getElem_toArray, List.getElem_cons_succ, List.getElem_cons_zero, List.setIfInBounds_toArray, List.set_cons_zero, List.set_cons_succ])
              refine wpAnyH_ready (rs := [9]) (by kernel_rfl) (by simp) ?_
              refine AllReadyH.cons rfl (fun K hK => ?_) AllReadyH.nil
              refine step_put_held _ (by rfl) (.tmp 34) (.tmp 35) (.tmp 42) (by rfl) HMp5.out (by rfl) X (by rfl) HWf.out _ (by rfl) (by unfold maxLen; omega) ?_
              intro w6 hm6 hg6
              have HR6 := Lib.hid (W1R.put HG3.out HL3.out HNe.out X HXk.out HOk.out m HM.out vF HvF.out g5 cap5 FK HFK.out HO5.out HK5.out HAt5.out hm6 hg6)
              clear hm6 hg6
              refine hK.out _ _ trivial (fun _ => ?_)
              clear hK K
              (try simp only [Act.put, List.getElem_toArray, List.getElem_cons_succ, List.getElem_cons_zero])
              refine wpAnyH_done (by kernel_rfl) ?_ _
              go_wp2
              go_roundw
              case rel => exact ⟨k + 1, _, by omega, rfl, by go_num, HR6.out⟩
              case measure => simp [intOf]; omega
    · have hk2 : k = 256 := by omega
      have ki : ¬ ((k : Int) < 256) := by omega
      have HR2 := HR.out
      rw [hk2] at HR2
      obtain ⟨F, D, hG, hL⟩ := HR2
      clear hk2 hk hkn
      have HA := Lib.hid hG.aps
      have HWS := Lib.hid (WW.start HW.out hG hL)
      have HVA := Lib.hid hG.val
      obtain ⟨ao, co, hov⟩ := own_form hG.ord
      obtain ⟨no, hno⟩ : ∃ no, (ordT f 256).length = no := ⟨_, rfl⟩
      rw [hno] at hov
      have HN := Lib.hid hno
      clear hno
      have hnl : no ≤ 256 := by rw [← HN.out]; exact ordT_len f 256
      have hli : (no : Int) ≤ 256 := by omega
      clear hL
      have HGo := Lib.hid hG.ord
      clear hG HR
      subst hov
      obtain ⟨N, hN⟩ : ∃ N, wr.heap.size = N := ⟨_, rfl⟩
      rw [hN] at HA HWS
      clear hN
      rename World => wA
      have hBw : B < w.heap.size := HW.out.lt
      go_wp2
      go_loopw [46] (fun i wz => ∃ k : Nat, k ≤ no ∧ i = .int .i64 k ∧ Hid (∃ S', WW S S' w N B ls f (.slice ao no co) F D k wz)) (fun i _ => no - (intOf i).toNat)
      case atStart => exact ⟨0, Nat.zero_le _, rfl, _, HWS.out⟩
      case round =>
        rename World => wz
        obtain ⟨k, hk, rfl, HR⟩ := hrel
        clear HWS
        by_cases hkn : k < no
        · have ki : (k : Int) < no := by omega
          have ki0 : (0 : Int) ≤ k := by omega
          obtain ⟨S', hW⟩ := HR.out
          have hkL : k < (ordT f 256).length := by rw [HN.out]; exact hkn
          obtain ⟨X, hX⟩ : ∃ X, (ordT f 256)[k] = X := ⟨_, rfl⟩
          have hXm : X ∈ ordT f 256 := by rw [← hX]; exact List.getElem_mem hkL
          have hXr : 0 ≤ X ∧ X ≤ 65535 := by
            obtain ⟨c, hc, e⟩ := ordT_of hXm
            rw [← e]; exact HF.out c hc
          obtain ⟨go, cao, hoe, -, -⟩ := hW.ord.form (by omega)
          cases hoe
          have x1 : wz.cell? ⟨go, k, none⟩ = some (.int .i64 X) := by
            have h1 := hW.ord.cells rfl k (.int .i64 X) (by rw [List.getElem?_map, List.getElem?_eq_getElem hkL, hX]; rfl)
            have e : (⟨go, 0, none⟩ : Addr).add k = ⟨go, 0 + k, none⟩ := by unfold Addr.add; split <;> simp_all
            rw [e, Nat.zero_add] at h1
            exact h1
          have HWf : Hid ((Lit.int .i64 X).wf = true) := WalkArith.wf_i64 (by omega)
          have HFm := Lib.hid (fun w => fmt_nat X.toNat X (by omega) (by omega) w)
          obtain ⟨FK, hFK⟩ : ∃ FK, mk (fmB X.toNat) = FK := ⟨_, rfl⟩
          rw [hFK] at HFm
          have HFK := Lib.hid hFK
          obtain ⟨m, hm⟩ : ∃ m, (grpT f X 256).length = m := ⟨_, rfl⟩
          have hml : m ≤ 256 := by rw [← hm]; exact grpT_len f X 256
          have HM := Lib.hid hm
          obtain ⟨vF, hvF⟩ : ∃ vF, F X = vF := ⟨_, rfl⟩
          have HVal : Hid (D.atKey (.int .i64 X) (.held nilS) = .held vF) := by show _ = _; rw [HVA.out X HWf.out, hvF]
          have HvF := Lib.hid hvF
          have hdr := hW.grp X (by rw [List.drop_eq_getElem_cons hkL, hX]; simp)
          rw [hvF] at hdr
          simp only [hm] at hdr
          have HRw := Lib.hid hdr
          have HXk := Lib.hid hX
          have HkL := Lib.hid hkL
          have HWW := Lib.hid hW
          have hfm : (fmB X.toNat).length ≤ 40 := by
            have := fmB_size' X.toNat (by omega)
            exact this
          have hsum : (((⟨#[119, 101, 105, 103, 104, 116]⟩ : ByteArray).data.toList :: ((grpT f X 256).map fmB ++ [fmB X.toNat])).map (·.length)).sum ≤ 20000 := by
            have h1 := sum_fm (grpT f X 256) (fun c hc => by have := (grpT_lt hc).1; omega)
            simp only [List.map_cons, List.map_append, List.sum_cons, List.sum_append, List.map_nil, List.sum_nil, List.length_cons, List.length_nil]
            omega
          have HSum := Lib.hid hsum
          have hlsk : (ls ++ ((ordT f 256).take k).map (weiLine f)).length ≤ 1256 := by
            have := HLs.out
            simp only [List.length_append, List.length_map, List.length_take]
            omega
          have HLk := Lib.hid hlsk
          have HFar : Hid (∀ g, vF.ownBlock = some g → ¬ S' g ∧ g ≠ B) := fun g e => ⟨fun e2 => hW.far g e2 (.inr (.inr ⟨X, by rw [hvF]; exact e⟩)), fun e2 => by
            have := HA.out.newF X g (by rw [hvF]; exact e); omega⟩
          clear hXm hFK hm hvF hdr hX hW hfm hsum hlsk
          go_wp2
          refine wp_region_held_drew (S := fun _ => True) (by kernel_rfl) ?_ (fun hHeld => ?_)
          · exact trivial
          refine wpAnyH_take (i := 0) (v := ?zv0) rfl (by kernel_rfl) (by kernel_rfl) (by kernel_rfl) (fun _ _ _ h => h) (Or.inl ⟨by rfl, ?zy0⟩) (by assumption) ?zr0
          case zy0 =>
            intro wx hSw
            clear hSw
            go_simp
            first | done | (with_reducible rfl)
          (try simp only [Act.put, List.getElem_toArray, List.getElem_cons_zero, List.setIfInBounds_toArray, List.set_cons_zero, List.set_cons_succ])
          refine wpAnyH_take (i := 1) (v := ?zv1) rfl (by kernel_rfl) (by kernel_rfl) (by kernel_rfl) (fun _ _ _ h => h) (Or.inl ⟨by rfl, ?zy1⟩) (by assumption) ?zr1
          case zy1 =>
            intro wx hSw
            clear hSw
            go_simp
            first | done | (with_reducible rfl)
          (try simp only [Act.put, List.getElem_toArray, List.getElem_cons_succ, List.getElem_cons_zero, List.setIfInBounds_toArray, List.set_cons_zero, List.set_cons_succ])
          refine wpAnyH_take (i := 2) (v := ?zv2) rfl (by kernel_rfl) (by kernel_rfl) (by kernel_rfl) (fun _ _ _ h => h) (Or.inl ⟨by rfl, ?zy2⟩) (by assumption) ?zr2
          case zy2 =>
            intro wx hSw
            clear hSw
            go_simp
            first | done | (with_reducible rfl)
          (try simp only [Act.put, List.getElem_toArray, List.getElem_cons_succ, List.getElem_cons_zero, List.setIfInBounds_toArray, List.set_cons_zero, List.set_cons_succ])
          refine wpAnyH_take (i := 4) (v := ?zv4) rfl (by kernel_rfl) (by kernel_rfl) (by kernel_rfl) (fun _ _ _ h => h) (Or.inl ⟨by rfl, ?zy4⟩) (by assumption) ?zr4
          case zy4 =>
            intro wx hSw
            clear hSw
            go_simp
            first | done | (with_reducible rfl)
          (try simp only [Act.put, List.getElem_toArray, List.getElem_cons_succ, List.getElem_cons_zero, List.setIfInBounds_toArray, List.set_cons_zero, List.set_cons_succ])
          refine wpAnyH_ready (rs := [3, 5]) (by kernel_rfl) (by simp) ?_
          refine AllReadyH.cons rfl (fun K hK => ?_) (AllReadyH.cons rfl (fun K hK => ?_) AllReadyH.nil)
          · refine step_look_held _ (by rfl) (.tmp 51) (.tmp 52) (by rfl) HWW.out.map (by rfl) X (by rfl) HWf.out vF HVal.out ?_
            refine hK.out _ _ trivial (fun _ => ?_)
            clear hK K
            (try simp only [Act.put, List.getElem_toArray, List.getElem_cons_succ, List.getElem_cons_zero, List.setIfInBounds_toArray, List.set_cons_zero, List.set_cons_succ])
            refine wpAnyH_ready (rs := [5]) (by kernel_rfl) (by simp) ?_
            refine AllReadyH.cons rfl (fun K hK => ?_) AllReadyH.nil
            go_simp
            go_at_call 24
            refine (HFm.out _).mono ?_
            rintro e w4 ⟨rfl, hb4⟩
            have HB4 : Hid (Below wz.heap.size wz w4) := (Below.refl _ _).drew.trans hb4
            clear hb4
            refine hK.out _ _ trivial (fun _ => ?_)
            clear hK K
            (try simp only [Act.put, List.getElem_toArray, List.getElem_cons_succ, List.getElem_cons_zero, List.setIfInBounds_toArray, List.set_cons_zero, List.set_cons_succ])
            refine wpAnyH_ready (rs := [6]) (by kernel_rfl) (by simp) ?_
            refine AllReadyH.cons rfl (fun K hK => ?_) AllReadyH.nil
            go_simp
            have HB6 : Hid (Below wz.heap.size wz (w4.alloc (.cells #[.string FK] 9))) := HB4.out.alloc HB4.out.size _
            refine hK.out _ _ trivial (fun _ => ?_)
            clear hK K
            (try simp only [Act.put, List.getElem_toArray, List.getElem_cons_succ, List.getElem_cons_zero, List.setIfInBounds_toArray, List.set_cons_zero, List.set_cons_succ])
            refine wpAnyH_ready (rs := [7]) (by kernel_rfl) (by simp) ?_
            refine AllReadyH.cons rfl (fun K hK => ?_) AllReadyH.nil
            refine step_append_lies _ (by rfl) (.tmp 53) (.tmp 56) 40 (by rfl) 0 9 i0 _ 1 16 Tryz.underlying40 hi0 hz0 hz1 hz2 rfl (by decide) vF m (strs3 ((grpT f X 256).map fmB)) (by rfl) (ownsRow_next HRw.out HB6.out) ⟨w4.heap.size, 0, none⟩ 1 1 [.string FK] (by rfl) rfl (fun j u hu => new_cells w4 [.string FK] 9 j u hu) (by simp [Value.oneCell']) (by decide) (by unfold maxLen; omega) (by omega) (Nat.zero_le _) (w4.heap.size + 1) (by simp) ?_
            intro g5 cap5 w5 ho5 hg5 hat5 hlt5
            have HK5 : Hid (Keep (fun x => vF.ownBlock = some x) (w4.alloc (.cells #[.string FK] 9)) w5) := (Keep.refl _ _).grown hg5 (fun k e _ => e)
            have HSA : Hid (SA w5 (.slice (some ⟨g5, 0, none⟩) (m + 1) cap5) ((grpT f X 256).map fmB ++ [fmB X.toNat])) := own_sa (by
              have e : strs3 ((grpT f X 256).map fmB ++ [fmB X.toNat]) = strs3 ((grpT f X 256).map fmB) ++ [.string FK] := by rw [strs_app, ← HFK.out]; rfl
              rw [e]; exact ho5) (by simp [HM.out])
            have HW5 : Hid (WS S' w5 B (ls ++ ((ordT f 256).take k).map (weiLine f))) := (HWW.out.ws.next HB6.out).keep HK5.out (fun g e => (HFar.out g e).1) (fun e => (HFar.out B e).2 rfl)
            clear ho5 hg5 hat5 hlt5
            refine hK.out _ _ trivial (fun _ => ?_)
            clear hK K
            (try simp only [Act.put, List.getElem_toArray, List.getElem_cons_succ, List.getElem_cons_zero, List.setIfInBounds_toArray, List.set_cons_zero, List.set_cons_succ])
            refine wpAnyH_ready (rs := [8]) (by kernel_rfl) (by simp) ?_
            refine AllReadyH.cons rfl (fun K hK => ?_) AllReadyH.nil
            go_simp
            go_at_call 19
            refine (wentry_any S' w5 B _ HW5.out ⟨#[119, 101, 105, 103, 104, 116]⟩ _ _ HSA.out (by simp) (by have := HLk.out; omega) (by simp [HM.out]; omega) (Nat.le_trans HSum.out (by decide))).mono ?_
            rintro e w7 hwt
            have HW7 := Lib.hid (WW.step HA.out hBw HWW.out HkL.out X HXk.out HB6.out (by rw [HvF.out]; exact HK5.out) hwt)
            obtain ⟨rfl, -, -⟩ := hwt
            refine hK.out _ _ trivial (fun _ => ?_)
            clear hK K
            (try simp only [Act.put, List.getElem_toArray, List.getElem_cons_succ, List.getElem_cons_zero, List.setIfInBounds_toArray, List.set_cons_zero, List.set_cons_succ])
            refine wpAnyH_done (by kernel_rfl) ?_ _
            go_wp2
            go_roundw
            case rel => exact ⟨k + 1, by omega, by go_num, _, HW7.out⟩
            case measure => simp [intOf]; omega
          · go_simp
            go_at_call 24
            refine (HFm.out _).mono ?_
            rintro e w4 ⟨rfl, hb4⟩
            have HB4 : Hid (Below wz.heap.size wz w4) := (Below.refl _ _).drew.trans hb4
            clear hb4
            refine hK.out _ _ trivial (fun _ => ?_)
            clear hK K
            (try simp only [Act.put, List.getElem_toArray, List.getElem_cons_succ, List.getElem_cons_zero, List.setIfInBounds_toArray, List.set_cons_zero, List.set_cons_succ])
            refine wpAnyH_ready (rs := [3, 6]) (by kernel_rfl) (by simp) ?_
            refine AllReadyH.cons rfl (fun K hK => ?_) (AllReadyH.cons rfl (fun K hK => ?_) AllReadyH.nil)
            · refine step_look_held _ (by rfl) (.tmp 51) (.tmp 52) (by rfl) (map_same HWW.out.map (HB4.out.block _ HWW.out.map.lt)) (by rfl) X (by rfl) HWf.out vF HVal.out ?_
              refine hK.out _ _ trivial (fun _ => ?_)
              clear hK K
              (try simp only [Act.put, List.getElem_toArray, List.getElem_cons_succ, List.getElem_cons_zero, List.setIfInBounds_toArray, List.set_cons_zero, List.set_cons_succ])
              refine wpAnyH_ready (rs := [6]) (by kernel_rfl) (by simp) ?_
              refine AllReadyH.cons rfl (fun K hK => ?_) AllReadyH.nil
              go_simp
              have HB6 : Hid (Below wz.heap.size wz (w4.alloc (.cells #[.string FK] 9))) := HB4.out.alloc HB4.out.size _
              refine hK.out _ _ trivial (fun _ => ?_)
              clear hK K
              (try simp only [Act.put, List.getElem_toArray, List.getElem_cons_succ, List.getElem_cons_zero, List.setIfInBounds_toArray, List.set_cons_zero, List.set_cons_succ])
              refine wpAnyH_ready (rs := [7]) (by kernel_rfl) (by simp) ?_
              refine AllReadyH.cons rfl (fun K hK => ?_) AllReadyH.nil
              refine step_append_lies _ (by rfl) (.tmp 53) (.tmp 56) 40 (by rfl) 0 9 i0 _ 1 16 Tryz.underlying40 hi0 hz0 hz1 hz2 rfl (by decide) vF m (strs3 ((grpT f X 256).map fmB)) (by rfl) (ownsRow_next HRw.out HB6.out) ⟨w4.heap.size, 0, none⟩ 1 1 [.string FK] (by rfl) rfl (fun j u hu => new_cells w4 [.string FK] 9 j u hu) (by simp [Value.oneCell']) (by decide) (by unfold maxLen; omega) (by omega) (Nat.zero_le _) (w4.heap.size + 1) (by simp) ?_
              intro g5 cap5 w5 ho5 hg5 hat5 hlt5
              have HK5 : Hid (Keep (fun x => vF.ownBlock = some x) (w4.alloc (.cells #[.string FK] 9)) w5) := (Keep.refl _ _).grown hg5 (fun k e _ => e)
              have HSA : Hid (SA w5 (.slice (some ⟨g5, 0, none⟩) (m + 1) cap5) ((grpT f X 256).map fmB ++ [fmB X.toNat])) := own_sa (by
                have e : strs3 ((grpT f X 256).map fmB ++ [fmB X.toNat]) = strs3 ((grpT f X 256).map fmB) ++ [.string FK] := by rw [strs_app, ← HFK.out]; rfl
                rw [e]; exact ho5) (by simp [HM.out])
              have HW5 : Hid (WS S' w5 B (ls ++ ((ordT f 256).take k).map (weiLine f))) := (HWW.out.ws.next HB6.out).keep HK5.out (fun g e => (HFar.out g e).1) (fun e => (HFar.out B e).2 rfl)
              clear ho5 hg5 hat5 hlt5
              refine hK.out _ _ trivial (fun _ => ?_)
              clear hK K
              (try simp only [Act.put, List.getElem_toArray, List.getElem_cons_succ, List.getElem_cons_zero, List.setIfInBounds_toArray, List.set_cons_zero, List.set_cons_succ])
              refine wpAnyH_ready (rs := [8]) (by kernel_rfl) (by simp) ?_
              refine AllReadyH.cons rfl (fun K hK => ?_) AllReadyH.nil
              go_simp
              go_at_call 19
              refine (wentry_any S' w5 B _ HW5.out ⟨#[119, 101, 105, 103, 104, 116]⟩ _ _ HSA.out (by simp) (by have := HLk.out; omega) (by simp [HM.out]; omega) (Nat.le_trans HSum.out (by decide))).mono ?_
              rintro e w7 hwt
              have HW7 := Lib.hid (WW.step HA.out hBw HWW.out HkL.out X HXk.out HB6.out (by rw [HvF.out]; exact HK5.out) hwt)
              obtain ⟨rfl, -, -⟩ := hwt
              refine hK.out _ _ trivial (fun _ => ?_)
              clear hK K
              (try simp only [Act.put, List.getElem_toArray, List.getElem_cons_succ, List.getElem_cons_zero, List.setIfInBounds_toArray, List.set_cons_zero, List.set_cons_succ])
              refine wpAnyH_done (by kernel_rfl) ?_ _
              go_wp2
              go_roundw
              case rel => exact ⟨k + 1, by omega, by go_num, _, HW7.out⟩
              case measure => simp [intOf]; omega
            · go_simp
              have HB6 : Hid (Below wz.heap.size wz (w4.alloc (.cells #[.string FK] 9))) := HB4.out.alloc HB4.out.size _
              refine hK.out _ _ trivial (fun _ => ?_)
              clear hK K
              (try simp only [Act.put, List.getElem_toArray, List.getElem_cons_succ, List.getElem_cons_zero, List.setIfInBounds_toArray, List.set_cons_zero, List.set_cons_succ])
              refine wpAnyH_ready (rs := [3]) (by kernel_rfl) (by simp) ?_
              refine AllReadyH.cons rfl (fun K hK => ?_) AllReadyH.nil
              refine step_look_held _ (by rfl) (.tmp 51) (.tmp 52) (by rfl) (map_same HWW.out.map (HB6.out.block _ HWW.out.map.lt)) (by rfl) X (by rfl) HWf.out vF HVal.out ?_
              refine hK.out _ _ trivial (fun _ => ?_)
              clear hK K
              (try simp only [Act.put, List.getElem_toArray, List.getElem_cons_succ, List.getElem_cons_zero, List.setIfInBounds_toArray, List.set_cons_zero, List.set_cons_succ])
              refine wpAnyH_ready (rs := [7]) (by kernel_rfl) (by simp) ?_
              refine AllReadyH.cons rfl (fun K hK => ?_) AllReadyH.nil
              refine step_append_lies _ (by rfl) (.tmp 53) (.tmp 56) 40 (by rfl) 0 9 i0 _ 1 16 Tryz.underlying40 hi0 hz0 hz1 hz2 rfl (by decide) vF m (strs3 ((grpT f X 256).map fmB)) (by rfl) (ownsRow_next HRw.out HB6.out) ⟨w4.heap.size, 0, none⟩ 1 1 [.string FK] (by rfl) rfl (fun j u hu => new_cells w4 [.string FK] 9 j u hu) (by simp [Value.oneCell']) (by decide) (by unfold maxLen; omega) (by omega) (Nat.zero_le _) (w4.heap.size + 1) (by simp) ?_
              intro g5 cap5 w5 ho5 hg5 hat5 hlt5
              have HK5 : Hid (Keep (fun x => vF.ownBlock = some x) (w4.alloc (.cells #[.string FK] 9)) w5) := (Keep.refl _ _).grown hg5 (fun k e _ => e)
              have HSA : Hid (SA w5 (.slice (some ⟨g5, 0, none⟩) (m + 1) cap5) ((grpT f X 256).map fmB ++ [fmB X.toNat])) := own_sa (by
                have e : strs3 ((grpT f X 256).map fmB ++ [fmB X.toNat]) = strs3 ((grpT f X 256).map fmB) ++ [.string FK] := by rw [strs_app, ← HFK.out]; rfl
                rw [e]; exact ho5) (by simp [HM.out])
              have HW5 : Hid (WS S' w5 B (ls ++ ((ordT f 256).take k).map (weiLine f))) := (HWW.out.ws.next HB6.out).keep HK5.out (fun g e => (HFar.out g e).1) (fun e => (HFar.out B e).2 rfl)
              clear ho5 hg5 hat5 hlt5
              refine hK.out _ _ trivial (fun _ => ?_)
              clear hK K
              (try simp only [Act.put, List.getElem_toArray, List.getElem_cons_succ, List.getElem_cons_zero, List.setIfInBounds_toArray, List.set_cons_zero, List.set_cons_succ])
              refine wpAnyH_ready (rs := [8]) (by kernel_rfl) (by simp) ?_
              refine AllReadyH.cons rfl (fun K hK => ?_) AllReadyH.nil
              go_simp
              go_at_call 19
              refine (wentry_any S' w5 B _ HW5.out ⟨#[119, 101, 105, 103, 104, 116]⟩ _ _ HSA.out (by simp) (by have := HLk.out; omega) (by simp [HM.out]; omega) (Nat.le_trans HSum.out (by decide))).mono ?_
              rintro e w7 hwt
              have HW7 := Lib.hid (WW.step HA.out hBw HWW.out HkL.out X HXk.out HB6.out (by rw [HvF.out]; exact HK5.out) hwt)
              obtain ⟨rfl, -, -⟩ := hwt
              refine hK.out _ _ trivial (fun _ => ?_)
              clear hK K
              (try simp only [Act.put, List.getElem_toArray, List.getElem_cons_succ, List.getElem_cons_zero, List.setIfInBounds_toArray, List.set_cons_zero, List.set_cons_succ])
              refine wpAnyH_done (by kernel_rfl) ?_ _
              go_wp2
              go_roundw
              case rel => exact ⟨k + 1, by omega, by go_num, _, HW7.out⟩
              case measure => simp [intOf]; omega
        · obtain rfl : k = no := by omega
          obtain ⟨S', hW⟩ := HR.out
          have HD := Lib.hid (hW.done HW.out (Nat.le_of_eq HN.out))
          clear hW
          go_wp2
          go_end0
          exact HD.out
end Go.Proofs.YtblaldcioneooaaGreatDoor
/- The writer's forms. (Written by gen_ltfor.py.) -/
set_option linter.unusedVariables false
set_option maxRecDepth 100000
namespace Go.Proofs.YtblaldcioneooaaGreatDoor
open Go.RowKit

theorem sa_lits (w : World) (xs : List (List UInt8)) (vs : Array Value) (hv : vs = (strs3 xs).toArray) (n : Nat) (hn : n = xs.length) : SA (w.alloc (.cells vs 9)) (.slice (some ⟨w.heap.size, 0, none⟩) n n) xs := by
  subst hv
  subst hn
  exact ⟨_, _, rfl, Nat.le_refl _, .inr ⟨w.heap.size, 0, rfl, by simp, fun j x hx => by
    rw [Nat.zero_add, cell_of_row _ w.heap.size j (strs3 xs).toArray 9 (0, 0) (heap_alloc_new w _)]
    unfold strs3
    simp [hx]⟩⟩
/-- So many lines, all of them in blocks of S or new. -/
structure FR (S S' : Nat → Prop) (w : World) (B : Nat) (ls : List (List UInt8)) (wr : World) : Prop where
  make ::
  ws : WS S' wr B ls
  sub : ∀ g, S' g → (S g ∨ w.heap.size ≤ g) ∧ g < wr.heap.size
  keep : Keep (own S B) w wr
theorem FR.start {S : Nat → Prop} {w : World} {B : Nat} {ls : List (List UInt8)} (h : WS S w B ls) : FR S (fun g => S g ∧ g < w.heap.size) w B ls w :=
  ⟨h.cut', fun g hg => ⟨.inl hg.1, hg.2⟩, Keep.refl _ _⟩
theorem FR.step {S S' : Nat → Prop} {w wr w5 w7 : World} {B : Nat} {ls l2 : List (List UInt8)} {e : Ending} (h : FR S S' w B ls wr) (hb : Below wr.heap.size wr w5) (h7 : Wrote S' w5 B l2 e w7) : FR S (fun g => grow S' w5 g ∧ g < w7.heap.size) w B l2 w7 := by
  obtain ⟨he, hw7, hk7⟩ := h7
  refine ⟨hw7.cut', fun g hg => ⟨?_, hg.2⟩, (h.keep.next hb).trans hk7 (fun g hg e => ?_)⟩
  · rcases hg.1 with hg | hg
    · exact (h.sub g hg).1
    · have := h.keep.size; have := hb.size; exact .inr (by omega)
  · rcases e with e | e
    · rcases (h.sub g e).1 with e | e
      · exact .inl e
      · omega
    · exact .inr e
theorem FR.done {S S' : Nat → Prop} {w wr : World} {B : Nat} {ls l0 : List (List UInt8)} (h0 : WS S w B l0) (h : FR S S' w B ls wr) : Wrote S w B ls (.returned (.tuple #[])) wr := by
  have hB := h0.lt
  obtain ⟨_, _, _, _, hnB⟩ := h0
  exact ⟨rfl, h.ws.more (fun g hg => (h.sub g hg).1) (grow_out hnB hB), h.keep⟩
def forLine (kw t : List UInt8) (c : Nat) : List UInt8 := jw [kw, fmB c, fmB (t.getD c 0).toNat]
def forLines (kw t u : List UInt8) (k : Nat) : List (List UInt8) := ((List.range k).filter fun c => t.getD c 0 != u.getD c 0).map (forLine kw t)
theorem forLines_succ (kw t u : List UInt8) (k : Nat) : forLines kw t u (k + 1) = if t.getD k 0 = u.getD k 0 then forLines kw t u k else forLines kw t u k ++ [forLine kw t k] := by
  unfold forLines
  rw [List.range_succ, List.filter_append, List.map_append]
  by_cases h : t.getD k 0 = u.getD k 0
  · rw [if_pos h]
    have e : [k].filter (fun c => t.getD c 0 != u.getD c 0) = [] := by
      rw [List.filter_cons_of_neg]
      · rfl
      · rw [h]; simp only [bne_self_eq_false, Bool.false_eq_true, not_false_eq_true]
    rw [e, List.map_nil, List.append_nil]
  · rw [if_neg h]
    have e : [k].filter (fun c => t.getD c 0 != u.getD c 0) = [k] := by
      rw [List.filter_cons_of_pos]
      · rfl
      · exact bne_iff_ne.2 h
    rw [e]; rfl
theorem forLines_len (kw t u : List UInt8) (k : Nat) : (forLines kw t u k).length ≤ k := by
  unfold forLines
  rw [List.length_map]
  exact Nat.le_trans (List.length_filter_le _ _) (by simp)
theorem getD_byte (s : ByteArray) (k : Nat) (h : k < s.size) : (s.data.toList.getD k 0) = s[k]'h := by
  rw [List.getD_eq_getElem?_getD, List.getElem?_eq_getElem (by rw [size_len]; exact h)]
  rfl
set_option maxHeartbeats 16000000 in
theorem forms_any (S : Nat → Prop) (B : Nat) (ls : List (List UInt8)) (kw T1 T2 : ByteArray) (hkw : kw.size ≤ 100) (h1 : T1.size = 256) (h2 : T2.size = 256) (w : World) (h : WS S w B ls) (hls : ls.length ≤ 10000) :
    Calls Tryz.prog 21 #[.pointer (some ⟨B, 0, none⟩), .string kw, .string T1, .string T2] w (Wrote S w B (ls ++ forLines kw.data.toList T1.data.toList T2.data.toList 256)) := by
  have HW := Lib.hid h
  have hT1 : (T1.size : Int) = 256 := by omega
  have hT2 : (T2.size : Int) = 256 := by omega
  have H1 := Lib.hid h1
  have H2 := Lib.hid h2
  have HKw := Lib.hid hkw
  have HLs := Lib.hid hls
  clear h hkw hls h1 h2
  go_enter Tryz.func21, Tryz.ntmps21
  go_wp2
  go_loopw [11] (fun i wr => ∃ k : Nat, k ≤ T1.size ∧ i = .int .i64 k ∧ Hid (∃ S', FR S S' w B (ls ++ forLines kw.data.toList T1.data.toList T2.data.toList k) wr)) (fun i _ => T1.size - (intOf i).toNat)
  case atStart => exact ⟨0, Nat.zero_le _, rfl, _, by show FR S _ w B (ls ++ []) w; rw [List.append_nil]; exact FR.start HW.out⟩
  case round =>
    obtain ⟨k, hk, rfl, HR⟩ := hrel
    by_cases hkn : k < T1.size
    · have ki : (k : Int) < 256 := by omega
      have ki1 : (k : Int) < T1.size := by omega
      have ki2 : (k : Int) < T2.size := by omega
      have ki0 : (0 : Int) ≤ k := by omega
      have hkm : k < T2.size := by have := H1.out; have := H2.out; omega
      obtain ⟨S', hFr⟩ := HR.out
      have HFr := Lib.hid hFr
      clear HR hFr
      obtain ⟨c, hc⟩ : ∃ c, (T1[k]'hkn).toNat = c := ⟨_, rfl⟩
      obtain ⟨d, hd⟩ : ∃ d, (T2[k]'hkm).toNat = d := ⟨_, rfl⟩
      have HLn := Lib.hid (forLines_succ kw.data.toList T1.data.toList T2.data.toList k)
      rw [getD_byte T1 k hkn, getD_byte T2 k hkm] at HLn
      by_cases hcd : c = d
      · subst hcd
        have hcc : ((c : Int) != (c : Int)) = false := by simp
        have HLn2 : Hid (forLines kw.data.toList T1.data.toList T2.data.toList (k + 1) = forLines kw.data.toList T1.data.toList T2.data.toList k) := by
          show _ = _
          rw [HLn.out, if_pos (UInt8.toNat_inj.1 (hc.trans hd.symm))]
        clear HLn
        go_wp2
        refine wp_region_held_drew (S := fun _ => True) (by kernel_rfl) ?_ (fun hHeld => ?_)
        · exact trivial
        refine wpAnyH_take (i := 0) (v := ?av0) rfl (by kernel_rfl) (by kernel_rfl) (by kernel_rfl) (fun _ _ _ h => h) (Or.inl ⟨by rfl, ?ay0⟩) (by assumption) ?ar0
        case ay0 =>
          intro wx hSw
          clear hSw
          go_simp
          first | done | (with_reducible rfl)
        (try simp only [Act.put, List.getElem_toArray, List.getElem_cons_zero, List.setIfInBounds_toArray, List.set_cons_zero, List.set_cons_succ])
        refine wpAnyH_take (i := 1) (v := ?av1) rfl (by kernel_rfl) (by kernel_rfl) (by kernel_rfl) (fun _ _ _ h => h) (Or.inl ⟨by rfl, ?ay1⟩) (by assumption) ?ar1
        case ay1 =>
          intro wx hSw
          clear hSw
          go_simp
          first | done | (with_reducible rfl)
        (try simp only [Act.put, List.getElem_toArray, List.getElem_cons_succ, List.getElem_cons_zero, List.setIfInBounds_toArray, List.set_cons_zero, List.set_cons_succ])
        refine wpAnyH_take (i := 2) (v := ?av2) rfl (by kernel_rfl) (by kernel_rfl) (by kernel_rfl) (fun _ _ _ h => h) (Or.inl ⟨by rfl, ?ay2⟩) (by assumption) ?ar2
        case ay2 =>
          intro wx hSw
          clear hSw
          go_simp
          first | done | (with_reducible rfl)
        (try simp only [Act.put, List.getElem_toArray, List.getElem_cons_succ, List.getElem_cons_zero, List.setIfInBounds_toArray, List.set_cons_zero, List.set_cons_succ])
        refine wpAnyH_take (i := 3) (v := ?av3) rfl (by kernel_rfl) (by kernel_rfl) (by kernel_rfl) (fun _ _ _ h => h) (Or.inl ⟨by rfl, ?ay3⟩) (by assumption) ?ar3
        case ay3 =>
          intro wx hSw
          clear hSw
          go_simp
          first | done | (with_reducible rfl)
        (try simp only [Act.put, List.getElem_toArray, List.getElem_cons_succ, List.getElem_cons_zero, List.setIfInBounds_toArray, List.set_cons_zero, List.set_cons_succ])
        refine wpAnyH_take (i := 4) (v := ?av4) rfl (by kernel_rfl) (by kernel_rfl) (by kernel_rfl) (fun _ _ _ h => h) (Or.inl ⟨by rfl, ?ay4⟩) (by assumption) ?ar4
        case ay4 =>
          intro wx hSw
          clear hSw
          go_simp
          first | done | (with_reducible rfl)
        (try simp only [Act.put, List.getElem_toArray, List.getElem_cons_succ, List.getElem_cons_zero, List.setIfInBounds_toArray, List.set_cons_zero, List.set_cons_succ])
        refine wpAnyH_take (i := 5) (v := ?av5) rfl (by kernel_rfl) (by kernel_rfl) (by kernel_rfl) (fun _ _ _ h => h) (Or.inl ⟨by rfl, ?ay5⟩) (by assumption) ?ar5
        case ay5 =>
          intro wx hSw
          clear hSw
          go_simp
          first | done | (with_reducible rfl)
        (try simp only [Act.put, List.getElem_toArray, List.getElem_cons_succ, List.getElem_cons_zero, List.setIfInBounds_toArray, List.set_cons_zero, List.set_cons_succ])
        refine wpAnyH_take (i := 6) (v := ?av6) rfl (by kernel_rfl) (by kernel_rfl) (by kernel_rfl) (fun _ _ _ h => h) (Or.inl ⟨by rfl, ?ay6⟩) (by assumption) ?ar6
        case ay6 =>
          intro wx hSw
          clear hSw
          go_simp
          first | done | (with_reducible rfl)
        (try simp only [Act.put, List.getElem_toArray, List.getElem_cons_succ, List.getElem_cons_zero, List.setIfInBounds_toArray, List.set_cons_zero, List.set_cons_succ])
        refine wpAnyH_done (by kernel_rfl) ?_ _
        go_wp2
        go_roundw
        case rel => exact ⟨k + 1, by omega, by go_num, _, by rw [HLn2.out]; exact ⟨HFr.out.ws.next (Below.refl _ _).drew, HFr.out.sub, HFr.out.keep.drew⟩⟩
        case measure => simp [intOf]; omega
      · have hcc : ((c : Int) != (d : Int)) = true := by simp; omega
        have hcl : c < 256 := by rw [← hc]; exact UInt8.toNat_lt _
        have HLn2 : Hid (ls ++ forLines kw.data.toList T1.data.toList T2.data.toList (k + 1) = (ls ++ forLines kw.data.toList T1.data.toList T2.data.toList k) ++ [jw (kw.data.toList :: [fmB k, fmB c])]) := by
          show _ = _
          rw [HLn.out, if_neg (fun e => hcd (by rw [← hc, ← hd, e])), List.append_assoc]
          unfold forLine
          rw [getD_byte T1 k hkn, hc]
        clear HLn
        have HLn := HLn2
        clear HLn2
        have HFm := Lib.hid (fun w => fmt_nat k (k : Int) rfl (by omega) w)
        have HBt := Lib.hid (fun w => byteText_any c hcl w)
        have hs1 := fmB_size' k (by omega)
        have hs2 := fmB_size' c (by omega)
        have HSum : Hid (kw.data.toList.length + ((fmB k).length + ((fmB c).length)) ≤ 1000000000) := by
          show _ ≤ _
          have := HKw.out
          rw [size_len]
          omega
        have HLk : Hid ((ls ++ forLines kw.data.toList T1.data.toList T2.data.toList k).length ≤ 10300) := by
          show _ ≤ _
          have h1 := forLines_len kw.data.toList T1.data.toList T2.data.toList k
          have := HLs.out
          rw [List.length_append]
          omega
        obtain ⟨FK, hFK⟩ : ∃ FK, mk (fmB k) = FK := ⟨_, rfl⟩
        obtain ⟨FC, hFC⟩ : ∃ FC, mk (fmB c) = FC := ⟨_, rfl⟩
        rw [hFK] at HFm
        rw [hFC] at HBt
        have HFK := Lib.hid hFK
        have HFC := Lib.hid hFC
        clear hFK hFC hs1 hs2 hcd
        go_wp2
        refine wp_region_held_drew (S := fun _ => True) (by kernel_rfl) ?_ (fun hHeld => ?_)
        · exact trivial
        refine wpAnyH_take (i := 0) (v := ?dv0) rfl (by kernel_rfl) (by kernel_rfl) (by kernel_rfl) (fun _ _ _ h => h) (Or.inl ⟨by rfl, ?dy0⟩) (by assumption) ?dr0
        case dy0 =>
          intro wx hSw
          clear hSw
          go_simp
          first | done | (with_reducible rfl)
        (try simp only [Act.put, List.getElem_toArray, List.getElem_cons_zero, List.setIfInBounds_toArray, List.set_cons_zero, List.set_cons_succ])
        refine wpAnyH_take (i := 1) (v := ?dv1) rfl (by kernel_rfl) (by kernel_rfl) (by kernel_rfl) (fun _ _ _ h => h) (Or.inl ⟨by rfl, ?dy1⟩) (by assumption) ?dr1
        case dy1 =>
          intro wx hSw
          clear hSw
          go_simp
          first | done | (with_reducible rfl)
        (try simp only [Act.put, List.getElem_toArray, List.getElem_cons_succ, List.getElem_cons_zero, List.setIfInBounds_toArray, List.set_cons_zero, List.set_cons_succ])
        refine wpAnyH_take (i := 2) (v := ?dv2) rfl (by kernel_rfl) (by kernel_rfl) (by kernel_rfl) (fun _ _ _ h => h) (Or.inl ⟨by rfl, ?dy2⟩) (by assumption) ?dr2
        case dy2 =>
          intro wx hSw
          clear hSw
          go_simp
          first | done | (with_reducible rfl)
        (try simp only [Act.put, List.getElem_toArray, List.getElem_cons_succ, List.getElem_cons_zero, List.setIfInBounds_toArray, List.set_cons_zero, List.set_cons_succ])
        refine wpAnyH_take (i := 3) (v := ?dv3) rfl (by kernel_rfl) (by kernel_rfl) (by kernel_rfl) (fun _ _ _ h => h) (Or.inl ⟨by rfl, ?dy3⟩) (by assumption) ?dr3
        case dy3 =>
          intro wx hSw
          clear hSw
          go_simp
          first | done | (with_reducible rfl)
        (try simp only [Act.put, List.getElem_toArray, List.getElem_cons_succ, List.getElem_cons_zero, List.setIfInBounds_toArray, List.set_cons_zero, List.set_cons_succ])
        refine wpAnyH_take (i := 4) (v := ?dv4) rfl (by kernel_rfl) (by kernel_rfl) (by kernel_rfl) (fun _ _ _ h => h) (Or.inl ⟨by rfl, ?dy4⟩) (by assumption) ?dr4
        case dy4 =>
          intro wx hSw
          clear hSw
          go_simp
          first | done | (with_reducible rfl)
        (try simp only [Act.put, List.getElem_toArray, List.getElem_cons_succ, List.getElem_cons_zero, List.setIfInBounds_toArray, List.set_cons_zero, List.set_cons_succ])
        refine wpAnyH_take (i := 5) (v := ?dv5) rfl (by kernel_rfl) (by kernel_rfl) (by kernel_rfl) (fun _ _ _ h => h) (Or.inl ⟨by rfl, ?dy5⟩) (by assumption) ?dr5
        case dy5 =>
          intro wx hSw
          clear hSw
          go_simp
          first | done | (with_reducible rfl)
        (try simp only [Act.put, List.getElem_toArray, List.getElem_cons_succ, List.getElem_cons_zero, List.setIfInBounds_toArray, List.set_cons_zero, List.set_cons_succ])
        refine wpAnyH_take (i := 6) (v := ?dv6) rfl (by kernel_rfl) (by kernel_rfl) (by kernel_rfl) (fun _ _ _ h => h) (Or.inl ⟨by rfl, ?dy6⟩) (by assumption) ?dr6
        case dy6 =>
          intro wx hSw
          clear hSw
          go_simp
          first | done | (with_reducible rfl)
        (try simp only [Act.put, List.getElem_toArray, List.getElem_cons_succ, List.getElem_cons_zero, List.setIfInBounds_toArray, List.set_cons_zero, List.set_cons_succ])
        refine wpAnyH_done (by kernel_rfl) ?_ _
        go_wp2
        have HFr2 : Hid (FR S S' w B (ls ++ forLines kw.data.toList T1.data.toList T2.data.toList k) wr.drew) := ⟨HFr.out.ws.next (Below.refl _ _).drew, HFr.out.sub, HFr.out.keep.drew⟩
        clear HFr
        have HFr := HFr2
        clear HFr2
        generalize wr.drew = wr at HFr ⊢
        refine wp_region_held_drew (S := fun _ => True) (by kernel_rfl) ?_ (fun hHeld => ?_)
        · exact trivial
        refine wpAnyH_take (i := 0) (v := ?bv0) rfl (by kernel_rfl) (by kernel_rfl) (by kernel_rfl) (fun _ _ _ h => h) (Or.inl ⟨by rfl, ?by0⟩) (by assumption) ?br0
        case by0 =>
          intro wx hSw
          clear hSw
          go_simp
          first | done | (with_reducible rfl)
        (try simp only [Act.put, List.getElem_toArray, List.getElem_cons_zero, List.setIfInBounds_toArray, List.set_cons_zero, List.set_cons_succ])
        refine wpAnyH_take (i := 1) (v := ?bv1) rfl (by kernel_rfl) (by kernel_rfl) (by kernel_rfl) (fun _ _ _ h => h) (Or.inl ⟨by rfl, ?by1⟩) (by assumption) ?br1
        case by1 =>
          intro wx hSw
          clear hSw
          go_simp
          first | done | (with_reducible rfl)
        (try simp only [Act.put, List.getElem_toArray, List.getElem_cons_succ, List.getElem_cons_zero, List.setIfInBounds_toArray, List.set_cons_zero, List.set_cons_succ])
        refine wpAnyH_take (i := 2) (v := ?bv2) rfl (by kernel_rfl) (by kernel_rfl) (by kernel_rfl) (fun _ _ _ h => h) (Or.inl ⟨by rfl, ?by2⟩) (by assumption) ?br2
        case by2 =>
          intro wx hSw
          clear hSw
          go_simp
          first | done | (with_reducible rfl)
        (try simp only [Act.put, List.getElem_toArray, List.getElem_cons_succ, List.getElem_cons_zero, List.setIfInBounds_toArray, List.set_cons_zero, List.set_cons_succ])
        refine wpAnyH_take (i := 4) (v := ?bv4) rfl (by kernel_rfl) (by kernel_rfl) (by kernel_rfl) (fun _ _ _ h => h) (Or.inl ⟨by rfl, ?by4⟩) (by assumption) ?br4
        case by4 =>
          intro wx hSw
          clear hSw
          go_simp
          first | done | (with_reducible rfl)
        (try simp only [Act.put, List.getElem_toArray, List.getElem_cons_succ, List.getElem_cons_zero, List.setIfInBounds_toArray, List.set_cons_zero, List.set_cons_succ])
        refine wpAnyH_take (i := 5) (v := ?bv5) rfl (by kernel_rfl) (by kernel_rfl) (by kernel_rfl) (fun _ _ _ h => h) (Or.inl ⟨by rfl, ?by5⟩) (by assumption) ?br5
        case by5 =>
          intro wx hSw
          clear hSw
          go_simp
          first | done | (with_reducible rfl)
        (try simp only [Act.put, List.getElem_toArray, List.getElem_cons_succ, List.getElem_cons_zero, List.setIfInBounds_toArray, List.set_cons_zero, List.set_cons_succ])
        refine wpAnyH_take (i := 6) (v := ?bv6) rfl (by kernel_rfl) (by kernel_rfl) (by kernel_rfl) (fun _ _ _ h => h) (Or.inl ⟨by rfl, ?by6⟩) (by assumption) ?br6
        case by6 =>
          intro wx hSw
          clear hSw
          go_simp
          first | done | (with_reducible rfl)
        (try simp only [Act.put, List.getElem_toArray, List.getElem_cons_succ, List.getElem_cons_zero, List.setIfInBounds_toArray, List.set_cons_zero, List.set_cons_succ])
        refine wpAnyH_ready (rs := [3]) (by kernel_rfl) (by simp) ?_
        refine AllReadyH.cons rfl (fun K hK => ?_) AllReadyH.nil
        go_simp
        go_at_call 24
        refine (HFm.out _).mono ?_
        rintro e wa ⟨rfl, hba⟩
        have HBa : Hid (Below wr.heap.size wr wa) := (Below.refl _ _).drew.trans hba
        clear hba
        refine hK.out _ _ trivial (fun _ => ?_)
        clear hK K
        (try simp only [Act.put, List.getElem_toArray, List.getElem_cons_succ, List.getElem_cons_zero, List.setIfInBounds_toArray, List.set_cons_zero, List.set_cons_succ])
        refine wpAnyH_ready (rs := [7]) (by kernel_rfl) (by simp) ?_
        refine AllReadyH.cons rfl (fun K hK => ?_) AllReadyH.nil
        go_simp
        go_at_call 23
        refine (HBt.out _).mono ?_
        rintro e wb ⟨rfl, hbb⟩
        have HBb : Hid (Below wr.heap.size wr wb) := HBa.out.trans (hbb.mono HBa.out.size)
        clear hbb
        refine hK.out _ _ trivial (fun _ => ?_)
        clear hK K
        (try simp only [Act.put, List.getElem_toArray, List.getElem_cons_succ, List.getElem_cons_zero, List.setIfInBounds_toArray, List.set_cons_zero, List.set_cons_succ])
        refine wpAnyH_ready (rs := [8]) (by kernel_rfl) (by simp) ?_
        refine AllReadyH.cons rfl (fun K hK => ?_) AllReadyH.nil
        go_simp
        have HB8 : Hid (Below wr.heap.size wr (wb.alloc (.cells #[.string FK, .string FC] 9))) := HBb.out.alloc HBb.out.size _
        have HSA : Hid (SA (wb.alloc (.cells #[.string FK, .string FC] 9)) (.slice (some ⟨wb.heap.size, 0, none⟩) 2 2) [fmB k, fmB c]) := sa_lits _ _ _ (by rw [← HFK.out, ← HFC.out]; rfl) 2 rfl
        refine hK.out _ _ trivial (fun _ => ?_)
        clear hK K
        (try simp only [Act.put, List.getElem_toArray, List.getElem_cons_succ, List.getElem_cons_zero, List.setIfInBounds_toArray, List.set_cons_zero, List.set_cons_succ])
        refine wpAnyH_ready (rs := [9]) (by kernel_rfl) (by simp) ?_
        refine AllReadyH.cons rfl (fun K hK => ?_) AllReadyH.nil
        go_simp
        go_at_call 19
        refine (wentry_any S' _ B _ (HFr.out.ws.next HB8.out) kw _ _ HSA.out (by simp) (by have := HLk.out; omega) (by simp) (by have := HSum.out; simpa using this)).mono ?_
        rintro e w7 hwt
        have HW7 := Lib.hid (HFr.out.step HB8.out hwt)
        obtain ⟨rfl, -, -⟩ := hwt
        refine hK.out _ _ trivial (fun _ => ?_)
        clear hK K
        (try simp only [Act.put, List.getElem_toArray, List.getElem_cons_succ, List.getElem_cons_zero, List.setIfInBounds_toArray, List.set_cons_zero, List.set_cons_succ])
        refine wpAnyH_done (by kernel_rfl) ?_ _
        go_wp2
        go_roundw
        case rel =>
          refine ⟨k + 1, by omega, by go_num, (fun g => grow S' (wb.alloc (.cells #[.string FK, .string FC] 9)) g ∧ g < w7.heap.size), ?_⟩
          have h := HW7.out
          rw [← HLn.out] at h
          exact h
        case measure => simp [intOf]; omega
    · obtain rfl : k = T1.size := by omega
      obtain ⟨S', hFr⟩ := HR.out
      have HD := Lib.hid (hFr.done HW.out)
      rw [H1.out] at HD
      clear HR hFr
      go_wp2
      go_end0
      exact HD.out
end Go.Proofs.YtblaldcioneooaaGreatDoor
/- append of nothing; a valid locale. -/
set_option linter.unusedVariables false
namespace Go.Proofs.YtblaldcioneooaaGreatDoor
open Go.RowKit

/-- 'append(v, x...)' where x has nothing, and v has room for what it has. -/
theorem run_append_none {P : Program} (w : World) (t ty e : TypeId) (i : TypeInfo) (ht : P.underlying t = some (.slice e)) (hi : P.info? e = some i) (a : Addr) (n cap : Nat) (hn : n ≤ cap) (src : Value) (hs : src = .slice none 0 0 ∨ ∃ b c, src = .slice (some b) 0 c) :
    (Builtin.append_ #[t, t] ty #[.slice (some a) n cap, src]).run P w = .ok (.slice (some a) n cap) w := by
  rcases hs with rfl | ⟨b, c, rfl⟩
  · simp [Builtin.append_, run_underlying ht, sizeOf, typeInfo, hi, Builtin.lenOf, Builtin.firstCells, loadCells, storeCells, hn]
  · simp [Builtin.append_, run_underlying ht, sizeOf, typeInfo, hi, Builtin.lenOf, Builtin.firstCells, loadCells, loadCellsFrom, storeCells, hn]
theorem step_append_none {P : Program} {w : World} {ops : Array Oper} {o : Oper} {a : Act} {K : Act → World → Prop} {Q : Exit → Act → World → Prop} {E : Prop} (hgd : o.guard = none) (s x : Operand) (t e : TypeId) (i : TypeInfo)
    (ho : o.op = .call { callee := .builtin .append, args := #[s, x], argTypes := #[t, t] }) (ht : P.underlying t = some (.slice e)) (hi : P.info? e = some i) (ad : Addr) (n cap : Nat) (hs : a.eval s = .slice (some ad) n cap) (hn : n ≤ cap) (src : Value) (hx : a.eval x = src) (hsr : src = .slice none 0 0 ∨ ∃ b c, src = .slice (some b) 0 c)
    (h : K (a.put o.dst (.slice (some ad) n cap)) w) : if Region.wanted o (yielded ops a.tmps) = true then Oper.wp P o a w K Q else E := by
  have hw : Region.wanted o (yielded ops a.tmps) = true := by simp [Region.wanted, hgd]
  rw [if_pos hw]
  have hr := run_append_none (P := P) w t o.type e i ht hi ad n cap hn src hsr
  unfold Oper.wp execOp
  simp only [ho, resolve, invoke, builtin, Sem.run_bind, Sem.run_pure, Result.andThen_ok, List.map_toArray, List.map_cons, List.map_nil, hs, hx, hr]
  exact h

/-- Of a valid locale. -/
structure VL (L : Loc) : Prop where
  make ::
  nm : nmB L.name = true
  nw : L.nw = 256
  wt : ∀ j, j < 256 → 0 ≤ L.wt j ∧ L.wt j ≤ 65535
  lo : L.lower.size = 256
  up : L.upper.size = 256
  nc : L.nc ≤ 24
  cn : ∀ j, j < L.nc → nmB (L.cn j) = true ∧ dup L.cn j = false
  ne : L.ne ≤ 64
  et : ∀ j, j < L.ne → (L.et j).size = 2 ∧ 0 ≤ L.ew j ∧ L.ew j ≤ 65535 ∧ dup L.et j = false
theorem firstErr_all (f : Nat → Int) : ∀ n, firstErr f n = 0 → ∀ j, j < n → f j = 0
  | 0, _, j, hj => by omega
  | n + 1, h, j, hj => by
    unfold firstErr at h
    split at h
    · rename_i h0
      by_cases hjn : j = n
      · subst hjn; exact h
      · exact firstErr_all f n h0 j (by omega)
    · rename_i h0; exact absurd h h0
theorem firstErr_none (f : Nat → Int) : ∀ n, (∀ j, j < n → f j = 0) → firstErr f n = 0
  | 0, _ => rfl
  | n + 1, h => by
    rw [firstErr_next f n (firstErr_none f n fun j hj => h j (by omega))]
    exact h n (by omega)
theorem VL.iff (L : Loc) : chk L = 0 ↔ VL L := by
  constructor
  · intro h
    unfold chk at h
    split at h
    · rename_i h1
      split at h
      · rename_i h2
        split at h
        · rename_i h3
          split at h
          · rename_i h4
            split at h
            · rename_i h5
              have hc : L.nc ≤ 24 ∧ firstErr (clsAt L.cn) L.nc = 0 := by
                unfold clsErr at h5
                split at h5
                · exact ⟨by assumption, h5⟩
                · cases h5
              have he : L.ne ≤ 64 ∧ firstErr (elmAt L.et L.ew) L.ne = 0 := by
                unfold elmErr at h
                split at h
                · exact ⟨by assumption, h⟩
                · cases h
              refine ⟨h1, h2, fun j hj => ?_, h4.1, h4.2, hc.1, fun j hj => ?_, he.1, fun j hj => ?_⟩
              · have := firstErr_all _ _ h3 j hj
                unfold wtAt at this
                split at this
                · rename_i h6; simpa using h6
                · cases this
              · have := firstErr_all _ _ hc.2 j hj
                unfold clsAt at this
                split at this
                · rename_i h6
                  split at this
                  · cases this
                  · rename_i h7; exact ⟨h6, by simpa using h7⟩
                · cases this
              · have := firstErr_all _ _ he.2 j hj
                unfold elmAt at this
                split at this
                · rename_i h6
                  split at this
                  · cases this
                  · rename_i h7; exact ⟨h6.1, h6.2.1, h6.2.2, by simpa using h7⟩
                · cases this
            · rename_i h5; exact absurd h h5
          · cases h
        · rename_i h3; exact absurd h h3
      · cases h
    · cases h
  · rintro ⟨h1, h2, h3, h4, h5, h6, h7, h8, h9⟩
    unfold chk
    have e3 : firstErr (wtAt L.wt) 256 = 0 := firstErr_none _ _ fun j hj => by
      unfold wtAt
      rw [if_pos (by have := h3 j hj; simp [this.1, this.2])]
    have e5 : clsErr L.nc L.cn = 0 := by
      unfold clsErr
      rw [if_pos h6]
      refine firstErr_none _ _ fun j hj => ?_
      unfold clsAt
      have := h7 j hj
      rw [if_pos this.1, if_neg (by rw [this.2]; decide)]
    rw [if_pos h1, if_pos h2, if_pos e3, if_pos ⟨h4, h5⟩, if_pos e5]
    unfold elmErr
    rw [if_pos h8]
    refine firstErr_none _ _ fun j hj => ?_
    unfold elmAt
    have := h9 j hj
    rw [if_pos ⟨this.1, this.2.1, this.2.2.1⟩, if_neg (by rw [this.2.2.2]; decide)]
end Go.Proofs.YtblaldcioneooaaGreatDoor
/- Format of every valid locale. (Written by gen_ltfmtg.py.) -/
set_option linter.unusedVariables false
set_option maxRecDepth 100000
namespace Go.Proofs.YtblaldcioneooaaGreatDoor
open Go.RowKit

/-- A locale in the words of a text. -/
def ofLoc (L : Loc) : PL := { name := L.name.data.toList, wt := L.wt, lower := L.lower.data.toList, upper := L.upper.data.toList, cls := (List.range L.nc).map fun j => ((L.cn j).data.toList, L.cset j), els := (List.range L.ne).map fun j => ((L.et j).data.toList, L.ew j) }
/-- The line of an element. -/
def elmLine (c : List UInt8 × Int) : List UInt8 := jw (kElm :: [fmB (c.1.getD 0 0).toNat, fmB (c.1.getD 1 0).toNat, fmB c.2.toNat])
/-- The lines before the classes. -/
def headLines (P : PL) : List (List UInt8) := [jw [kLoc, P.name]] ++ weiLines P.wt ++ forLines kLow P.lower (lowL 256) 256 ++ forLines kUp P.upper (upL 256) 256
def fmtLines (P : PL) : List (List UInt8) := headLines P ++ P.cls.map clsLine ++ P.els.map elmLine
/-- The canonical text. -/
def fmtL (P : PL) : List UInt8 := jn (fmtLines P) true
theorem headLines_len (P : PL) : (headLines P).length ≤ 769 := by
  unfold headLines weiLines
  have h1 := ordT_len P.wt 256
  have h2 := forLines_len kLow P.lower (lowL 256) 256
  have h3 := forLines_len kUp P.upper (upL 256) 256
  simp only [List.length_append, List.length_map, List.length_cons, List.length_nil]
  omega
theorem hl2 (l : List (List UInt8)) (h : l.length ≤ 1) (f : Nat → Int) : (l ++ weiLines f).length ≤ 10000 := by
  have := ordT_len f 256
  unfold weiLines
  simp only [List.length_append, List.length_map]
  omega
theorem hl3 (l : List (List UInt8)) (h : l.length ≤ 1) (f : Nat → Int) (kw t u : List UInt8) : (l ++ weiLines f ++ forLines kw t u 256).length ≤ 10000 := by
  have := ordT_len f 256
  have := forLines_len kw t u 256
  unfold weiLines
  simp only [List.length_append, List.length_map]
  omega
theorem nm_len {s : ByteArray} (h : nmB s = true) : s.data.toList.length ≤ 32 := by
  unfold nmB at h
  generalize s.data.toList = l at h
  cases l with
  | nil => simp
  | cons b r =>
    unfold nmL at h
    simp only [Bool.and_eq_true, decide_eq_true_eq] at h
    exact h.1.1
theorem takeS {α β : Type} (f : α → β) (l : List α) (k : Nat) (h : k < l.length) : (l.take (k + 1)).map f = (l.take k).map f ++ [f (l[k]'h)] := by
  rw [List.take_succ_eq_append_getElem h, List.map_append]
  rfl
set_option maxHeartbeats 32000000 in
theorem format_any (L : Loc) (hv : VL L) (hc : chk L = 0) (hsum : ∀ j, j < L.nc → ((kCls :: (L.cn j).data.toList :: clsRg (L.cset j)).map (·.length)).sum ≤ 1000000) (hrl : ∀ j, j < L.nc → (clsRg (L.cset j)).length ≤ 256) (hj : ((fmtLines (ofLoc L)).map (·.length)).sum + (fmtLines (ofLoc L)).length ≤ 4294967281)
    (W C E : Value) (w : World) (hM : LocM w L W C E) (hT : tabAt w) :
    Calls Tryz.prog 9 #[.agg (lcl L W C E)] w fun e w' => e = .returned (.string (mk (fmtL (ofLoc L)))) ∧ Below w.heap.size w w' := by
  obtain ⟨F, hF⟩ : ∃ F, fmtL (ofLoc L) = F := ⟨_, rfl⟩
  rw [hF]
  have HF := Lib.hid hF
  have HB : Hid (Below w.heap.size w (w.alloc (.cells (lcl L W C E) 26))) := (Below.refl _ _).alloc (Nat.le_refl _) _
  have HA : Hid (LAt (w.alloc (.cells (lcl L W C E) 26)) w.heap.size (lcl L W C E)) := heap_alloc_new w _
  have HM := Lib.hid (hM.below HB.out)
  have HT := Lib.hid hT
  have HM0 := Lib.hid hM
  have HCk := Lib.hid (pCheck_any L W C E)
  rw [hc] at HCk
  have HDf := Lib.hid pDefault_own
  obtain ⟨⟨aw, cw, rfl, hcw, kw⟩, ⟨ac, cc, rfl, hcc, kc⟩, ⟨ae, ce, rfl, hce, ke⟩⟩ := hM
  have HLc := Lib.hid kc
  have HLe := Lib.hid ke
  have HV := Lib.hid hv
  obtain ⟨nc, hnc⟩ : ∃ nc, L.nc = nc := ⟨_, rfl⟩
  obtain ⟨ne, hne⟩ : ∃ ne, L.ne = ne := ⟨_, rfl⟩
  have hnc24 : nc ≤ 24 := by rw [← hnc]; exact hv.nc
  have hne64 : ne ≤ 64 := by rw [← hne]; exact hv.ne
  have e1 : lcl L (.slice aw L.nw cw) (.slice ac L.nc cc) (.slice ae L.ne ce) = #[.string L.name, .slice aw 256 cw, .string L.lower, .string L.upper, .slice ac nc cc, .slice ae ne ce] := by
    unfold lcl
    rw [hv.nw, hnc, hne]
  rw [e1] at HB HA HCk HM ⊢
  rw [hnc] at hcc HLc
  rw [hne] at hce HLe
  have HNc := Lib.hid hnc
  have HNe := Lib.hid hne
  have e2 : ∀ W C E, lcl Ldef W C E = #[.string psx, W, .string (mk (lowL 256)), .string (mk (upL 256)), C, E] := fun W C E => lcl_def W C E
  simp only [e2] at HDf
  obtain ⟨Lo, hLo⟩ : ∃ Lo, mk (lowL 256) = Lo := ⟨_, rfl⟩
  obtain ⟨Up, hUp⟩ : ∃ Up, mk (upL 256) = Up := ⟨_, rfl⟩
  have hzl : Lo.size = 256 := by rw [← hLo, mk_size, lowL_len]
  have hzu : Up.size = 256 := by rw [← hUp, mk_size, upL_len]
  simp only [hLo, hUp] at HDf
  have HLo := Lib.hid hLo
  have HUp := Lib.hid hUp
  have HZl := Lib.hid hzl
  have HZu := Lib.hid hzu
  clear hLo hUp hT hc hF e1 e2 hv hnc hne hzl hzu
  obtain ⟨⟨x0, x1, x2⟩, ⟨x3, x4, x5⟩, xf⟩ := HA.out.six
  have HJ := Lib.hid hj
  have HSum := Lib.hid hsum
  have HRl := Lib.hid hrl
  clear hj hsum hrl kw kc ke
  go_enter Tryz.func9, Tryz.ntmps9
  go_wp2_with (first
    | (go_at_call 18
       refine (HCk.out _ HM.out).mono ?_
       rintro e w1 ⟨rfl, hb⟩
       have HB1 := Lib.hid (HB.out.trans (hb.mono HB.out.size))
       have HA1 := Lib.hid (HA.out.under hb HA.out.lt)
       clear x0 x1 x2 x3 x4 x5 xf hb
       obtain ⟨⟨x0, x1, x2⟩, ⟨x3, x4, x5⟩, xf⟩ := HA1.out.six)
    | (go_at_call 11
       refine (HDf.out _).mono ?_
       rintro e w2 ⟨x, y, hx, rfl, hm, hb⟩
       have HM2 := Lib.hid hm
       have HB2 := Lib.hid (HB1.out.trans (hb.mono HB1.out.size))
       have HA2 := Lib.hid (HA1.out.under hb HA1.out.lt)
       clear x0 x1 x2 x3 x4 x5 xf hb hm hx
       obtain ⟨⟨x0, x1, x2⟩, ⟨x3, x4, x5⟩, xf⟩ := HA2.out.six
       have hzz : w.heap.size < w2.heap.size := HA2.out.lt))
  have hM2 := HM2.out
  have hxl : x < w2.heap.size := (Array.getElem?_eq_some_iff.1 hM2.2).1
  have hbl : Below w2.heap.size w2 (w2.alloc (.cells #[.string psx, .slice (some ⟨x, 0, none⟩) 256 y, .string Lo, .string Up, .slice none 0 0, .slice none 0 0] 26)) := (Below.refl _ _).alloc (Nat.le_refl _) _
  have hus : LAt (w2.alloc (.cells #[.string psx, .slice (some ⟨x, 0, none⟩) 256 y, .string Lo, .string Up, .slice none 0 0, .slice none 0 0] 26)) w2.heap.size #[.string psx, .slice (some ⟨x, 0, none⟩) 256 y, .string Lo, .string Up, .slice none 0 0, .slice none 0 0] := heap_alloc_new w2 _
  have hau := HA2.out.under hbl HA2.out.lt
  have hbu := HB2.out.trans (hbl.mono HB2.out.size)
  have hxu := (hbl.block x hxl).trans hM2.2
  have hsu : (w2.alloc (.cells #[.string psx, .slice (some ⟨x, 0, none⟩) 256 y, .string Lo, .string Up, .slice none 0 0, .slice none 0 0] 26)).heap.size = w2.heap.size + 1 := by simp
  generalize w2.alloc (.cells #[.string psx, .slice (some ⟨x, 0, none⟩) 256 y, .string Lo, .string Up, .slice none 0 0, .slice none 0 0] 26) = wu at hbl hus hau hbu hxu hsu ⊢
  have hbv : Below wu.heap.size wu (wu.alloc (.cells #[.slice none 0 0] 56)) := (Below.refl _ _).alloc (Nat.le_refl _) _
  have hfv : FS w (w2.heap.size + 1) [] (wu.alloc (.cells #[.slice none 0 0] 56)) := ⟨fun _ => False, by rw [← hsu]; exact ws_new wu, hbu.trans (hbv.mono hbu.size), fun g hg => hg.elim, by omega⟩
  have husv := hus.under hbv hus.lt
  have hauv := hau.under hbv hau.lt
  have hxv := (hbv.block x (by omega)).trans hxu
  have hsv : (wu.alloc (.cells #[.slice none 0 0] 56)).heap.size = w2.heap.size + 1 + 1 := by simp [hsu]
  generalize wu.alloc (.cells #[.slice none 0 0] 56) = wv at hbv hfv husv hauv hxv hsv ⊢
  have hbn : Below wv.heap.size wv (wv.alloc (.cells #[.string L.name] 9)) := (Below.refl _ _).alloc (Nat.le_refl _) _
  have hsa : SA (wv.alloc (.cells #[.string L.name] 9)) (.slice (some ⟨wv.heap.size, 0, none⟩) 1 1) [L.name.data.toList] := sa_lits wv [L.name.data.toList] _ rfl 1 rfl
  rw [hsv] at hsa
  have hfn := hfv.next hbn
  have husn := husv.under hbn husv.lt
  have haun := hauv.under hbn hauv.lt
  have hxn := (hbn.block x (by omega)).trans hxv
  generalize wv.alloc (.cells #[.string L.name] 9) = wn at hbn hsa hfn husn haun hxn ⊢
  have hnm32 : L.name.data.toList.length ≤ 32 := nm_len HV.out.nm
  have hnm33 : L.name.size ≤ 32 := by rw [← size_len]; exact hnm32
  refine (line_any hfn ⟨#[108, 111, 99, 97, 108, 101]⟩ _ [L.name.data.toList] hsa (by simp) (by simp) (by simp) (by simp; omega)).mono ?_
  rintro e w5 ⟨rfl, hf5, hb5⟩
  have ha5 := haun.under hb5 (by omega)
  have hu5 := husn.under hb5 (by omega)
  have hx5 := (hb5.block x (by omega)).trans hxn
  have hw5 : Below w.heap.size w w5 := by obtain ⟨_, _, h, _⟩ := hf5; exact h
  have hs1 : SL 1 256 (fun j _ => .int .i64 (L.wt j)) w5 (.slice aw 256 cw) := by
    have h1 := (HM0.out.below hw5).1
    rw [HV.out.nw] at h1
    exact h1
  have hs2 : SL 1 256 (fun j _ => .int .i64 ((fun j : Nat => (j : Int)) j)) w5 (.slice (some ⟨x, 0, none⟩) 256 y) := by
    refine ⟨_, y, rfl, hM2.1, .inr ⟨x, 0, rfl, (Array.getElem?_eq_some_iff.1 hx5).1, fun j i hj hi => ?_⟩⟩
    obtain rfl : i = 0 := by omega
    rw [cell_of_row w5 x _ _ _ _ hx5]
    have h3 : ((List.range 256).map nW).toArray[0 + j * 1 + 0]? = some (nW j) := by
      simp only [Nat.zero_add, Nat.mul_one, Nat.add_zero, List.getElem?_toArray, List.getElem?_map, List.getElem?_range hj, Option.map_some]
    exact h3
  have HF5 := Lib.hid hf5
  have HA5 := Lib.hid ha5
  have HU5 := Lib.hid hu5
  have HS1 := Lib.hid hs1
  have HS2 := Lib.hid hs2
  clear x0 x1 x2 x3 x4 x5 xf hs1 hs2 hw5 hx5 hb5 hf5 hbn hsa hfn husn haun hxn hbv hfv husv hauv hxv hsv hbl hus hau hbu hxu hsu hM2 hnm32 hnm33
  obtain ⟨⟨x0, x1, x2⟩, ⟨x3, x4, x5⟩, xf⟩ := ha5.six
  obtain ⟨⟨y0, y1, y2⟩, ⟨y3, y4, y5⟩, yf⟩ := hu5.six
  clear ha5 hu5
  go_wp2_with (first
    | (go_at_call 20
       obtain ⟨Sx, hws, hbw, hSx, hwB⟩ := HF5.out
       refine (weights_any Sx _ _ L.wt HV.out.wt _ _ _ hws (by simp) HS1.out HS2.out).mono ?_
       rintro e w6 hwt
       have hfs := FS.wrote (w0 := w) hws.lt hbw hSx hwB hwt
       obtain ⟨rfl, -, -⟩ := hwt
       have HF6 := Lib.hid hfs.1
       have HA6 := Lib.hid (HA5.out.under hfs.2 (by omega))
       have HU6 := Lib.hid (HU5.out.under hfs.2 (by omega))
       clear x0 x1 x2 x3 x4 x5 xf y0 y1 y2 y3 y4 y5 yf hfs hws hbw hSx hwB
       obtain ⟨⟨x0, x1, x2⟩, ⟨x3, x4, x5⟩, xf⟩ := HA6.out.six
       obtain ⟨⟨y0, y1, y2⟩, ⟨y3, y4, y5⟩, yf⟩ := HU6.out.six)
    | (go_at_call 21
       obtain ⟨Sx, hws, hbw, hSx, hwB⟩ := HF6.out
       have hr := forms_any Sx _ _ ⟨#[108, 111, 119, 101, 114]⟩ L.lower Lo (by decide) HV.out.lo HZl.out _ hws (hl2 _ (by simp) _)
       with_reducible refine hr.mono ?_
       rintro e w7 hwt
       have hfs := FS.wrote (w0 := w) hws.lt hbw hSx hwB hwt
       obtain ⟨rfl, -, -⟩ := hwt
       have HF7 := Lib.hid hfs.1
       have HA7 := Lib.hid (HA6.out.under hfs.2 (by omega))
       have HU7 := Lib.hid (HU6.out.under hfs.2 (by omega))
       clear x0 x1 x2 x3 x4 x5 xf y0 y1 y2 y3 y4 y5 yf hfs hws hbw hSx hwB hr
       obtain ⟨⟨x0, x1, x2⟩, ⟨x3, x4, x5⟩, xf⟩ := HA7.out.six
       obtain ⟨⟨y0, y1, y2⟩, ⟨y3, y4, y5⟩, yf⟩ := HU7.out.six)
    | (go_at_call 21
       obtain ⟨Sx, hws, hbw, hSx, hwB⟩ := HF7.out
       have hr := forms_any Sx _ _ ⟨#[117, 112, 112, 101, 114]⟩ L.upper Up (by decide) HV.out.up HZu.out _ hws (hl3 _ (by simp) _ _ _ _)
       with_reducible refine hr.mono ?_
       rintro e w8 hwt
       have hfs := FS.wrote (w0 := w) hws.lt hbw hSx hwB hwt
       obtain ⟨rfl, -, -⟩ := hwt
       have HF8 := Lib.hid hfs.1
       have HA8 := Lib.hid (HA7.out.under hfs.2 (by omega))
       clear x0 x1 x2 x3 x4 x5 xf y0 y1 y2 y3 y4 y5 yf hfs hws hbw hSx hwB hr
       obtain ⟨⟨x0, x1, x2⟩, ⟨x3, x4, x5⟩, xf⟩ := HA8.out.six))
  have HF9 : Hid (FS w (w2.heap.size + 1) (headLines (ofLoc L)) w8) := by
    have h := HF8.out
    have e : Lo.data.toList = lowL 256 := by rw [← HLo.out]; rfl
    have e2 : Up.data.toList = upL 256 := by rw [← HUp.out]; rfl
    rw [e, e2] at h
    exact h
  clear HF5 HF6 HF7 HF8
  have HCl : Hid ((ofLoc L).cls.length = nc) := by show _ = _; rw [← HNc.out]; simp [ofLoc]
  have HEl : Hid ((ofLoc L).els.length = ne) := by show _ = _; rw [← HNe.out]; simp [ofLoc]
  have hni : (nc : Int) ≤ 24 := by omega
  have hnei : (ne : Int) ≤ 64 := by omega
  clear x0 x1 x2 x3 x5 xf
  go_loopw [35] (fun i wr => ∃ k : Nat, k ≤ nc ∧ i = .int .i64 k ∧ Hid (FS w (w2.heap.size + 1) (headLines (ofLoc L) ++ ((ofLoc L).cls.take k).map clsLine) wr ∧ LAt wr w.heap.size #[.string L.name, .slice aw 256 cw, .string L.lower, .string L.upper, .slice ac nc cc, .slice ae ne ce])) (fun i _ => nc - (intOf i).toNat)
  case atStart => exact ⟨0, Nat.zero_le _, rfl, by simp only [List.take_zero, List.map_nil, List.append_nil]; exact HF9.out, HA8.out⟩
  case round =>
    obtain ⟨k, hk, rfl, HR⟩ := hrel
    clear HF9 HA8
    by_cases hkn : k < nc
    · have ki : (k : Int) < nc := by omega
      have ki0 : (0 : Int) ≤ k := by omega
      have hkL : k < (ofLoc L).cls.length := by rw [HCl.out]; exact hkn
      have hkc : k < L.nc := by rw [HNc.out]; exact hkn
      rcases HLc.out with h0 | ⟨bc, oc, rfl, hbc, hcells⟩
      · omega
      have hwr : Below w.heap.size w wr := by obtain ⟨_, _, h, _⟩ := HR.out.1; exact h
      have hcx : ∀ i, i < 5 → wr.cell? ⟨bc, oc + k * 5 + i, none⟩ = some (clsF L k i) := fun i hi => by
        rw [hwr.cell (by exact hbc)]
        exact hcells k i hkn hi
      have hfi : ∀ i, i < 4 → clsF L k (i + 1) = .int .u64 ((wd (L.cset k) (64 * i) 64 : Nat) : Int) := fun i hi => rfl
      have g0 := hcx 0 (by decide)
      have g1 := hcx 1 (by decide)
      have g2 := hcx 2 (by decide)
      have g3 := hcx 3 (by decide)
      have g4 := hcx 4 (by decide)
      rw [show clsF L k 0 = .string (L.cn k) from rfl] at g0
      rw [show 1 = 0 + 1 from rfl, hfi 0 (by decide)] at g1
      rw [show 2 = 1 + 1 from rfl, hfi 1 (by decide)] at g2
      rw [show 3 = 2 + 1 from rfl, hfi 2 (by decide)] at g3
      rw [show 4 = 3 + 1 from rfl, hfi 3 (by decide)] at g4
      simp only [Nat.add_zero, Nat.zero_add, Nat.reduceAdd, Nat.mul_zero, Nat.mul_one, Nat.reduceMul] at g0 g1 g2 g3 g4
      have HSm := Lib.hid (HSum.out k hkc)
      have HRl2 := Lib.hid (HRl.out k hkc)
      have HLn : Hid (headLines (ofLoc L) ++ ((ofLoc L).cls.take (k + 1)).map clsLine = (headLines (ofLoc L) ++ ((ofLoc L).cls.take k).map clsLine) ++ [jw ((⟨#[99, 108, 97, 115, 115]⟩ : ByteArray).data.toList :: (L.cn k).data.toList :: rgT (bl (el (L.cset k) 256)))]) := by
        show _ = _
        rw [takeS clsLine _ k hkL, ← List.append_assoc]
        simp only [ofLoc, List.getElem_map, List.getElem_range]
        rfl
      have HLs : Hid ((headLines (ofLoc L) ++ ((ofLoc L).cls.take k).map clsLine).length ≤ 1000000) := by
        show _ ≤ _
        have := headLines_len (ofLoc L)
        have := HCl.out
        simp only [List.length_append, List.length_map, List.length_take]
        omega
      obtain ⟨p, hp⟩ : ∃ p, L.cset k = p := ⟨_, rfl⟩
      obtain ⟨X, hX⟩ : ∃ X, L.cn k = X := ⟨_, rfl⟩
      rw [hp] at g1 g2 g3 g4 HSm HRl2 HLn
      rw [hX] at g0 HSm HLn
      unfold clsRg at HSm HRl2
      clear hcx hfi hwr hcells hkL hkc hp hX
      obtain ⟨Sx, hws, hbw, hSx, hwB⟩ := HR.out.1
      have HWs := Lib.hid hws
      have HBw := Lib.hid hbw
      have HSx := Lib.hid hSx
      have HAr := Lib.hid HR.out.2
      have hBl := hws.lt
      clear hws hbw hSx
      go_wp2
      have hbc2 : Below wr.heap.size wr (wr.alloc (.cells #[.string X, .int .u64 ((wd p 0 64 : Nat) : Int), .int .u64 ((wd p 64 64 : Nat) : Int), .int .u64 ((wd p 128 64 : Nat) : Int), .int .u64 ((wd p 192 64 : Nat) : Int)] 51)) := (Below.refl _ _).alloc (Nat.le_refl _) _
      have hbox : (wr.alloc (.cells #[.string X, .int .u64 ((wd p 0 64 : Nat) : Int), .int .u64 ((wd p 64 64 : Nat) : Int), .int .u64 ((wd p 128 64 : Nat) : Int), .int .u64 ((wd p 192 64 : Nat) : Int)] 51)).heap[wr.heap.size]? = some (.cells #[.string X, .int .u64 ((wd p 0 64 : Nat) : Int), .int .u64 ((wd p 64 64 : Nat) : Int), .int .u64 ((wd p 128 64 : Nat) : Int), .int .u64 ((wd p 192 64 : Nat) : Int)] 51 (0, 0)) := heap_alloc_new wr _
      have hcsz : (wr.alloc (.cells #[.string X, .int .u64 ((wd p 0 64 : Nat) : Int), .int .u64 ((wd p 64 64 : Nat) : Int), .int .u64 ((wd p 128 64 : Nat) : Int), .int .u64 ((wd p 192 64 : Nat) : Int)] 51)).heap.size = wr.heap.size + 1 := by simp
      generalize wr.alloc (.cells #[.string X, .int .u64 ((wd p 0 64 : Nat) : Int), .int .u64 ((wd p 64 64 : Nat) : Int), .int .u64 ((wd p 128 64 : Nat) : Int), .int .u64 ((wd p 192 64 : Nat) : Int)] 51) = wc at hbc2 hbox hcsz ⊢
      have HBc := Lib.hid hbc2
      have HBox := Lib.hid hbox
      have HTc : Hid (tabAt wc) := tab_keep HT.out (HBw.out.trans (hbc2.mono HBw.out.size))
      have HCs := Lib.hid hcsz
      obtain ⟨i0, hi0, hz0, hz1, hz2⟩ := info_parts infoSt
      have HRo := Lib.hid (fun w hT => rangesOf_any p w hT)
      unfold cs cl at HRo
      clear g0 g1 g2 g3 g4 hbc2 hbox hcsz
      refine wp_region_held_drew (S := fun w' => w'.heap[wr.heap.size]? = some (.cells #[.string X, .int .u64 ((wd p 0 64 : Nat) : Int), .int .u64 ((wd p 64 64 : Nat) : Int), .int .u64 ((wd p 128 64 : Nat) : Int), .int .u64 ((wd p 192 64 : Nat) : Int)] 51 (0, 0))) (by kernel_rfl) ?_ (fun hHeld => ?_)
      · exact HBox.out
      refine wpAnyH_take (i := 0) (v := ?av0) rfl (by kernel_rfl) (by kernel_rfl) (by kernel_rfl) (fun _ _ _ h => h) (Or.inl ⟨by rfl, ?ay0⟩) (by assumption) ?ar0
      case ay0 =>
        intro wx hSw
        clear hSw
        go_simp
        first | done | (with_reducible rfl)
      (try simp only [Act.put, List.getElem_toArray, List.getElem_cons_zero, List.setIfInBounds_toArray, List.set_cons_zero, List.set_cons_succ])
      refine wpAnyH_take (i := 1) (v := ?av1) rfl (by kernel_rfl) (by kernel_rfl) (by kernel_rfl) (fun _ _ _ h => h) (Or.inl ⟨by rfl, ?ay1⟩) (by assumption) ?ar1
      case ay1 =>
        intro wx hSw
        have hcl := cell_of_row wx wr.heap.size 0 _ _ _ hSw
        clear hSw
        go_simp
        first | done | (with_reducible rfl)
      (try simp only [Act.put, List.getElem_toArray, List.getElem_cons_succ, List.getElem_cons_zero, List.setIfInBounds_toArray, List.set_cons_zero, List.set_cons_succ])
      refine wpAnyH_take (i := 3) (v := ?av3) rfl (by kernel_rfl) (by kernel_rfl) (by kernel_rfl) (fun _ _ _ h => h) (Or.inl ⟨by rfl, ?ay3⟩) (by assumption) ?ar3
      case ay3 =>
        intro wx hSw
        clear hSw
        go_simp
        first | done | (with_reducible rfl)
      (try simp only [Act.put, List.getElem_toArray, List.getElem_cons_succ, List.getElem_cons_zero, List.setIfInBounds_toArray, List.set_cons_zero, List.set_cons_succ])
      refine wpAnyH_take (i := 4) (v := ?av4) rfl (by kernel_rfl) (by kernel_rfl) (by kernel_rfl) (fun _ _ _ h => h) (Or.inl ⟨by rfl, ?ay4⟩) (by assumption) ?ar4
      case ay4 =>
        intro wx hSw
        have hc1 := cell_of_row wx wr.heap.size 1 _ _ _ hSw
        have hc2 := cell_of_row wx wr.heap.size 2 _ _ _ hSw
        have hc3 := cell_of_row wx wr.heap.size 3 _ _ _ hSw
        have hc4 := cell_of_row wx wr.heap.size 4 _ _ _ hSw
        simp only [List.getElem?_toArray, List.getElem?_cons_succ, List.getElem?_cons_zero] at hc1 hc2 hc3 hc4
        clear hSw
        go_simp
        first | done | (with_reducible rfl)
      (try simp only [Act.put, List.getElem_toArray, List.getElem_cons_succ, List.getElem_cons_zero, List.setIfInBounds_toArray, List.set_cons_zero, List.set_cons_succ])
      refine wpAnyH_ready (rs := [2, 5]) (by kernel_rfl) (by simp) ?_
      refine AllReadyH.cons rfl (fun K hK => ?_) (AllReadyH.cons rfl (fun K hK => ?_) AllReadyH.nil)
      · go_simp
        refine hK.out _ _ ?_ (fun _ => ?_)
        · exact (Below.heap_alloc wc (.cells #[.string X] 9) _ (by have := HCs.out; omega)).trans HBox.out
        clear hK K
        (try simp only [Act.put, List.getElem_toArray, List.getElem_cons_succ, List.getElem_cons_zero, List.setIfInBounds_toArray, List.set_cons_zero, List.set_cons_succ])
        refine wpAnyH_ready (rs := [5]) (by kernel_rfl) (by simp) ?_
        refine AllReadyH.cons rfl (fun K hK => ?_) AllReadyH.nil
        go_simp
        go_at_call 22
        refine (HRo.out _ (tab_keep HTc.out ((Below.refl _ _).alloc (Nat.le_refl _) _).drew)).mono ?_
        rintro e w4 ⟨vr, rfl, hor, hb4⟩
        have hb4 := (Below.refl _ _).drew.trans hb4
        have hK0 : Below wc.heap.size wc (wc.alloc (.cells #[.string X] 9)) := (Below.refl _ _).alloc (Nat.le_refl _) _
        have HKz : Hid (Below wc.heap.size wc w4) := hK0.trans (hb4.mono hK0.size)
        have HOq : Hid (w4.ownsRow 0 9 1 (.slice (some ⟨wc.heap.size, 0, none⟩) 1 1) 1 [.string X]) := ownsRow_next (own_one wc (.string X) rfl) hb4
        have HOr := Lib.hid hor
        have hqge : wc.heap.size ≤ wc.heap.size := Nat.le_refl _
        have hbx4 : w4.heap[wr.heap.size]? = some (.cells #[.string X, .int .u64 ((wd p 0 64 : Nat) : Int), .int .u64 ((wd p 64 64 : Nat) : Int), .int .u64 ((wd p 128 64 : Nat) : Int), .int .u64 ((wd p 192 64 : Nat) : Int)] 51 (0, 0)) := (HKz.out.block _ (by have := HCs.out; omega)).trans HBox.out
        clear hor hb4 hK0
        refine hK.out _ _ ?_ (fun _ => ?_)
        · exact hbx4
        clear hK K
        (try simp only [Act.put, List.getElem_toArray, List.getElem_cons_succ, List.getElem_cons_zero, List.setIfInBounds_toArray, List.set_cons_zero, List.set_cons_succ])
        clear hbx4
        by_cases hrn : rgT (bl (el p 256)) = []
        · have hsr : vr = .slice none 0 0 ∨ ∃ b c, vr = .slice (some b) 0 c := by
            rcases Joins.ownsRow_forms HOr.out with ⟨h0, _⟩ | ⟨gr, capr, h0⟩
            · exact .inl h0
            · rw [hrn] at h0
              exact .inr ⟨_, _, h0⟩
          refine wpAnyH_ready (rs := [6]) (by kernel_rfl) (by simp) ?_
          refine AllReadyH.cons rfl (fun K hK => ?_) AllReadyH.nil
          refine step_append_none (by rfl) (.tmp 41) (.tmp 44) 40 9 i0 (by rfl) Tryz.underlying40 hi0 ⟨wc.heap.size, 0, none⟩ 1 1 (by rfl) (Nat.le_refl _) vr (by rfl) hsr ?_
          have HK6 := HKz
          have hbx6 : (w4).heap[wr.heap.size]? = some (.cells #[.string X, .int .u64 ((wd p 0 64 : Nat) : Int), .int .u64 ((wd p 64 64 : Nat) : Int), .int .u64 ((wd p 128 64 : Nat) : Int), .int .u64 ((wd p 192 64 : Nat) : Int)] 51 (0, 0)) := (HKz.out.block _ (by have := HCs.out; omega)).trans HBox.out
          have HBx6 := Lib.hid hbx6
          refine hK.out _ _ ?_ (fun _ => ?_)
          · exact hbx6
          clear hK K hbx6
          (try simp only [Act.put, List.getElem_toArray, List.getElem_cons_succ, List.getElem_cons_zero, List.setIfInBounds_toArray, List.set_cons_zero, List.set_cons_succ])
          refine wpAnyH_ready (rs := [7]) (by kernel_rfl) (by simp) ?_
          refine AllReadyH.cons rfl (fun K hK => ?_) AllReadyH.nil
          go_simp
          go_at_call 19
          have hwr6 : Below wr.heap.size wr (w4) := HBc.out.trans (HK6.out.mono HBc.out.size)
          refine (wentry_any Sx (w4) (w2.heap.size + 1) _ (HWs.out.next hwr6) ⟨#[99, 108, 97, 115, 115]⟩ _ (X.data.toList :: rgT (bl (el p 256))) (own_sa (xs := X.data.toList :: rgT (bl (el p 256))) (by rw [hrn]; exact HOq.out) (by rw [hrn]; rfl)) (by simp) HLs.out (by rw [hrn]; simp) (Nat.le_trans HSm.out (by decide))).mono ?_
          rintro e w7 hwt
          have hbx7 : w7.heap[wr.heap.size]? = some (.cells #[.string X, .int .u64 ((wd p 0 64 : Nat) : Int), .int .u64 ((wd p 64 64 : Nat) : Int), .int .u64 ((wd p 128 64 : Nat) : Int), .int .u64 ((wd p 192 64 : Nat) : Int)] 51 (0, 0)) := (hwt.2.2.block _ (by have := HCs.out; have := HK6.out.size; omega) (fun he => by
            rcases he with he | he
            · exact Nat.lt_irrefl _ (HSx.out _ he).2
            · omega)).trans HBx6.out
          have hfs := FS.wrote (w0 := w) (Nat.lt_of_lt_of_le hBl hwr6.size) (HBw.out.trans (hwr6.mono HBw.out.size)) (fun g hg => ⟨(HSx.out g hg).1, Nat.lt_of_lt_of_le (HSx.out g hg).2 hwr6.size⟩) hwB hwt
          obtain ⟨rfl, -, -⟩ := hwt
          have ha7 := (HAr.out.under hwr6 HAr.out.lt).under hfs.2 (by omega)
          have HF7 := Lib.hid hfs.1
          have HA7 := Lib.hid ha7
          clear hfs ha7 hwr6
          refine hK.out _ _ ?_ (fun _ => ?_)
          · exact hbx7
          clear hK K hbx7
          (try simp only [Act.put, List.getElem_toArray, List.getElem_cons_succ, List.getElem_cons_zero, List.setIfInBounds_toArray, List.set_cons_zero, List.set_cons_succ])
          refine wpAnyH_done (by kernel_rfl) ?_ _
          go_wp2
          go_roundw
          case rel =>
            refine ⟨k + 1, by omega, by go_num, ?_, HA7.out⟩
            have h := HF7.out
            have e := HLn.out
            rw [← e] at h
            exact h
          case measure => simp [intOf]; omega
        · obtain ⟨gr, capr, rfl⟩ : ∃ gr capr, vr = .slice (some ⟨gr, 0, none⟩) (rgT (bl (el p 256))).length capr := by
            rcases Joins.ownsRow_forms HOr.out with ⟨_, h0⟩ | h
            · exact absurd (List.eq_nil_of_length_eq_zero h0) hrn
            · exact h
          obtain ⟨m, hm⟩ : ∃ m, (rgT (bl (el p 256))).length = m := ⟨_, rfl⟩
          have hm0 : 0 < m := by rw [← hm]; exact List.length_pos_iff.2 hrn
          have hm1 : m ≤ 256 := by rw [← hm]; exact HRl2.out
          rw [hm] at HOr
          have HMm := Lib.hid hm
          try rw [hm]
          clear hm
          refine wpAnyH_ready (rs := [6]) (by kernel_rfl) (by simp) ?_
          refine AllReadyH.cons rfl (fun K hK => ?_) AllReadyH.nil
          refine step_append_lies _ (by rfl) (.tmp 41) (.tmp 44) 40 (by rfl) 0 9 i0 _ 1 16 Tryz.underlying40 hi0 hz0 hz1 hz2 rfl (by decide) (.slice (some ⟨wc.heap.size, 0, none⟩) 1 1) 1 [.string X] (by rfl) HOq.out ⟨gr, 0, none⟩ m capr (strs3 (rgT (bl (el p 256)))) (by rfl) (by unfold strs3; rw [List.length_map, HMm.out, Nat.mul_one]) (fun j u hu => HOr.out.cells rfl j u hu) (strs_one _) hm0 (by unfold maxLen; omega) (by omega) (Nat.zero_le _) _ rfl ?_
          intro g6 cap6 w6 ho6 hg6 hat6 hlt6
          have HO6 := Lib.hid ho6
          have HK6 : Hid (Below wc.heap.size wc w6) := HKz.out.grown hg6 HKz.out.size (fun k e => by
            have e2 : wc.heap.size = k := by simpa [Value.ownBlock] using e
            rw [← e2]; exact hqge)
          have hbx6 : w6.heap[wr.heap.size]? = some (.cells #[.string X, .int .u64 ((wd p 0 64 : Nat) : Int), .int .u64 ((wd p 64 64 : Nat) : Int), .int .u64 ((wd p 128 64 : Nat) : Int), .int .u64 ((wd p 192 64 : Nat) : Int)] 51 (0, 0)) := (HK6.out.block _ (by have := HCs.out; omega)).trans HBox.out
          have HBx6 := Lib.hid hbx6
          clear ho6 hg6 hat6 hlt6
          refine hK.out _ _ ?_ (fun _ => ?_)
          · exact hbx6
          clear hK K hbx6
          (try simp only [Act.put, List.getElem_toArray, List.getElem_cons_succ, List.getElem_cons_zero, List.setIfInBounds_toArray, List.set_cons_zero, List.set_cons_succ])
          refine wpAnyH_ready (rs := [7]) (by kernel_rfl) (by simp) ?_
          refine AllReadyH.cons rfl (fun K hK => ?_) AllReadyH.nil
          go_simp
          go_at_call 19
          have hwr6 : Below wr.heap.size wr w6 := HBc.out.trans (HK6.out.mono HBc.out.size)
          refine (wentry_any Sx w6 (w2.heap.size + 1) _ (HWs.out.next hwr6) ⟨#[99, 108, 97, 115, 115]⟩ _ (X.data.toList :: rgT (bl (el p 256))) (own_sa (xs := X.data.toList :: rgT (bl (el p 256))) (by exact HO6.out) (by rw [List.length_cons, HMm.out]; omega)) (by simp) HLs.out (by rw [List.length_cons, HMm.out]; omega) (Nat.le_trans HSm.out (by decide))).mono ?_
          rintro e w7 hwt
          have hbx7 : w7.heap[wr.heap.size]? = some (.cells #[.string X, .int .u64 ((wd p 0 64 : Nat) : Int), .int .u64 ((wd p 64 64 : Nat) : Int), .int .u64 ((wd p 128 64 : Nat) : Int), .int .u64 ((wd p 192 64 : Nat) : Int)] 51 (0, 0)) := (hwt.2.2.block _ (by have := HCs.out; have := HK6.out.size; omega) (fun he => by
            rcases he with he | he
            · exact Nat.lt_irrefl _ (HSx.out _ he).2
            · omega)).trans HBx6.out
          have hfs := FS.wrote (w0 := w) (Nat.lt_of_lt_of_le hBl hwr6.size) (HBw.out.trans (hwr6.mono HBw.out.size)) (fun g hg => ⟨(HSx.out g hg).1, Nat.lt_of_lt_of_le (HSx.out g hg).2 hwr6.size⟩) hwB hwt
          obtain ⟨rfl, -, -⟩ := hwt
          have ha7 := (HAr.out.under hwr6 HAr.out.lt).under hfs.2 (by omega)
          have HF7 := Lib.hid hfs.1
          have HA7 := Lib.hid ha7
          clear hfs ha7 hwr6
          refine hK.out _ _ ?_ (fun _ => ?_)
          · exact hbx7
          clear hK K hbx7
          (try simp only [Act.put, List.getElem_toArray, List.getElem_cons_succ, List.getElem_cons_zero, List.setIfInBounds_toArray, List.set_cons_zero, List.set_cons_succ])
          refine wpAnyH_done (by kernel_rfl) ?_ _
          go_wp2
          go_roundw
          case rel =>
            refine ⟨k + 1, by omega, by go_num, ?_, HA7.out⟩
            have h := HF7.out
            have e := HLn.out
            rw [← e] at h
            exact h
          case measure => simp [intOf]; omega
      · go_simp
        go_at_call 22
        refine (HRo.out _ (tab_keep HTc.out (Below.refl _ _).drew)).mono ?_
        rintro e w4 ⟨vr, rfl, hor, hb4⟩
        have hb4 := (Below.refl _ _).drew.trans hb4
        have HK4 : Hid (Below wc.heap.size wc w4) := hb4
        have HO4 := Lib.hid hor
        have hbx4 : w4.heap[wr.heap.size]? = some (.cells #[.string X, .int .u64 ((wd p 0 64 : Nat) : Int), .int .u64 ((wd p 64 64 : Nat) : Int), .int .u64 ((wd p 128 64 : Nat) : Int), .int .u64 ((wd p 192 64 : Nat) : Int)] 51 (0, 0)) := (HK4.out.block _ (by have := HCs.out; omega)).trans HBox.out
        have HBx4 := Lib.hid hbx4
        clear hor hb4
        refine hK.out _ _ ?_ (fun _ => ?_)
        · exact hbx4
        clear hK K
        (try simp only [Act.put, List.getElem_toArray, List.getElem_cons_succ, List.getElem_cons_zero, List.setIfInBounds_toArray, List.set_cons_zero, List.set_cons_succ])
        clear hbx4
        refine wpAnyH_ready (rs := [2]) (by kernel_rfl) (by simp) ?_
        refine AllReadyH.cons rfl (fun K hK => ?_) AllReadyH.nil
        go_simp
        refine hK.out _ _ ?_ (fun _ => ?_)
        · exact (Below.heap_alloc w4 (.cells #[.string X] 9) _ (by have := HCs.out; have := HK4.out.size; omega)).trans HBx4.out
        clear hK K
        (try simp only [Act.put, List.getElem_toArray, List.getElem_cons_succ, List.getElem_cons_zero, List.setIfInBounds_toArray, List.set_cons_zero, List.set_cons_succ])
        have HKz : Hid (Below wc.heap.size wc (w4.alloc (.cells #[.string X] 9))) := HK4.out.alloc HK4.out.size _
        have HOq : Hid ((w4.alloc (.cells #[.string X] 9)).ownsRow 0 9 1 (.slice (some ⟨w4.heap.size, 0, none⟩) 1 1) 1 [.string X]) := own_one w4 (.string X) rfl
        have HOr := Lib.hid (HO4.out.alloc (.cells #[.string X] 9))
        have hqge : wc.heap.size ≤ w4.heap.size := HK4.out.size
        by_cases hrn : rgT (bl (el p 256)) = []
        · have hsr : vr = .slice none 0 0 ∨ ∃ b c, vr = .slice (some b) 0 c := by
            rcases Joins.ownsRow_forms HOr.out with ⟨h0, _⟩ | ⟨gr, capr, h0⟩
            · exact .inl h0
            · rw [hrn] at h0
              exact .inr ⟨_, _, h0⟩
          refine wpAnyH_ready (rs := [6]) (by kernel_rfl) (by simp) ?_
          refine AllReadyH.cons rfl (fun K hK => ?_) AllReadyH.nil
          refine step_append_none (by rfl) (.tmp 41) (.tmp 44) 40 9 i0 (by rfl) Tryz.underlying40 hi0 ⟨w4.heap.size, 0, none⟩ 1 1 (by rfl) (Nat.le_refl _) vr (by rfl) hsr ?_
          have HK6 := HKz
          have hbx6 : (w4.alloc (.cells #[.string X] 9)).heap[wr.heap.size]? = some (.cells #[.string X, .int .u64 ((wd p 0 64 : Nat) : Int), .int .u64 ((wd p 64 64 : Nat) : Int), .int .u64 ((wd p 128 64 : Nat) : Int), .int .u64 ((wd p 192 64 : Nat) : Int)] 51 (0, 0)) := (HKz.out.block _ (by have := HCs.out; omega)).trans HBox.out
          have HBx6 := Lib.hid hbx6
          refine hK.out _ _ ?_ (fun _ => ?_)
          · exact hbx6
          clear hK K hbx6
          (try simp only [Act.put, List.getElem_toArray, List.getElem_cons_succ, List.getElem_cons_zero, List.setIfInBounds_toArray, List.set_cons_zero, List.set_cons_succ])
          refine wpAnyH_ready (rs := [7]) (by kernel_rfl) (by simp) ?_
          refine AllReadyH.cons rfl (fun K hK => ?_) AllReadyH.nil
          go_simp
          go_at_call 19
          have hwr6 : Below wr.heap.size wr (w4.alloc (.cells #[.string X] 9)) := HBc.out.trans (HK6.out.mono HBc.out.size)
          refine (wentry_any Sx (w4.alloc (.cells #[.string X] 9)) (w2.heap.size + 1) _ (HWs.out.next hwr6) ⟨#[99, 108, 97, 115, 115]⟩ _ (X.data.toList :: rgT (bl (el p 256))) (own_sa (xs := X.data.toList :: rgT (bl (el p 256))) (by rw [hrn]; exact HOq.out) (by rw [hrn]; rfl)) (by simp) HLs.out (by rw [hrn]; simp) (Nat.le_trans HSm.out (by decide))).mono ?_
          rintro e w7 hwt
          have hbx7 : w7.heap[wr.heap.size]? = some (.cells #[.string X, .int .u64 ((wd p 0 64 : Nat) : Int), .int .u64 ((wd p 64 64 : Nat) : Int), .int .u64 ((wd p 128 64 : Nat) : Int), .int .u64 ((wd p 192 64 : Nat) : Int)] 51 (0, 0)) := (hwt.2.2.block _ (by have := HCs.out; have := HK6.out.size; omega) (fun he => by
            rcases he with he | he
            · exact Nat.lt_irrefl _ (HSx.out _ he).2
            · omega)).trans HBx6.out
          have hfs := FS.wrote (w0 := w) (Nat.lt_of_lt_of_le hBl hwr6.size) (HBw.out.trans (hwr6.mono HBw.out.size)) (fun g hg => ⟨(HSx.out g hg).1, Nat.lt_of_lt_of_le (HSx.out g hg).2 hwr6.size⟩) hwB hwt
          obtain ⟨rfl, -, -⟩ := hwt
          have ha7 := (HAr.out.under hwr6 HAr.out.lt).under hfs.2 (by omega)
          have HF7 := Lib.hid hfs.1
          have HA7 := Lib.hid ha7
          clear hfs ha7 hwr6
          refine hK.out _ _ ?_ (fun _ => ?_)
          · exact hbx7
          clear hK K hbx7
          (try simp only [Act.put, List.getElem_toArray, List.getElem_cons_succ, List.getElem_cons_zero, List.setIfInBounds_toArray, List.set_cons_zero, List.set_cons_succ])
          refine wpAnyH_done (by kernel_rfl) ?_ _
          go_wp2
          go_roundw
          case rel =>
            refine ⟨k + 1, by omega, by go_num, ?_, HA7.out⟩
            have h := HF7.out
            have e := HLn.out
            rw [← e] at h
            exact h
          case measure => simp [intOf]; omega
        · obtain ⟨gr, capr, rfl⟩ : ∃ gr capr, vr = .slice (some ⟨gr, 0, none⟩) (rgT (bl (el p 256))).length capr := by
            rcases Joins.ownsRow_forms HOr.out with ⟨_, h0⟩ | h
            · exact absurd (List.eq_nil_of_length_eq_zero h0) hrn
            · exact h
          obtain ⟨m, hm⟩ : ∃ m, (rgT (bl (el p 256))).length = m := ⟨_, rfl⟩
          have hm0 : 0 < m := by rw [← hm]; exact List.length_pos_iff.2 hrn
          have hm1 : m ≤ 256 := by rw [← hm]; exact HRl2.out
          rw [hm] at HOr
          have HMm := Lib.hid hm
          try rw [hm]
          clear hm
          refine wpAnyH_ready (rs := [6]) (by kernel_rfl) (by simp) ?_
          refine AllReadyH.cons rfl (fun K hK => ?_) AllReadyH.nil
          refine step_append_lies _ (by rfl) (.tmp 41) (.tmp 44) 40 (by rfl) 0 9 i0 _ 1 16 Tryz.underlying40 hi0 hz0 hz1 hz2 rfl (by decide) (.slice (some ⟨w4.heap.size, 0, none⟩) 1 1) 1 [.string X] (by rfl) HOq.out ⟨gr, 0, none⟩ m capr (strs3 (rgT (bl (el p 256)))) (by rfl) (by unfold strs3; rw [List.length_map, HMm.out, Nat.mul_one]) (fun j u hu => HOr.out.cells rfl j u hu) (strs_one _) hm0 (by unfold maxLen; omega) (by omega) (Nat.zero_le _) _ rfl ?_
          intro g6 cap6 w6 ho6 hg6 hat6 hlt6
          have HO6 := Lib.hid ho6
          have HK6 : Hid (Below wc.heap.size wc w6) := HKz.out.grown hg6 HKz.out.size (fun k e => by
            have e2 : w4.heap.size = k := by simpa [Value.ownBlock] using e
            rw [← e2]; exact hqge)
          have hbx6 : w6.heap[wr.heap.size]? = some (.cells #[.string X, .int .u64 ((wd p 0 64 : Nat) : Int), .int .u64 ((wd p 64 64 : Nat) : Int), .int .u64 ((wd p 128 64 : Nat) : Int), .int .u64 ((wd p 192 64 : Nat) : Int)] 51 (0, 0)) := (HK6.out.block _ (by have := HCs.out; omega)).trans HBox.out
          have HBx6 := Lib.hid hbx6
          clear ho6 hg6 hat6 hlt6
          refine hK.out _ _ ?_ (fun _ => ?_)
          · exact hbx6
          clear hK K hbx6
          (try simp only [Act.put, List.getElem_toArray, List.getElem_cons_succ, List.getElem_cons_zero, List.setIfInBounds_toArray, List.set_cons_zero, List.set_cons_succ])
          refine wpAnyH_ready (rs := [7]) (by kernel_rfl) (by simp) ?_
          refine AllReadyH.cons rfl (fun K hK => ?_) AllReadyH.nil
          go_simp
          go_at_call 19
          have hwr6 : Below wr.heap.size wr w6 := HBc.out.trans (HK6.out.mono HBc.out.size)
          refine (wentry_any Sx w6 (w2.heap.size + 1) _ (HWs.out.next hwr6) ⟨#[99, 108, 97, 115, 115]⟩ _ (X.data.toList :: rgT (bl (el p 256))) (own_sa (xs := X.data.toList :: rgT (bl (el p 256))) (by exact HO6.out) (by rw [List.length_cons, HMm.out]; omega)) (by simp) HLs.out (by rw [List.length_cons, HMm.out]; omega) (Nat.le_trans HSm.out (by decide))).mono ?_
          rintro e w7 hwt
          have hbx7 : w7.heap[wr.heap.size]? = some (.cells #[.string X, .int .u64 ((wd p 0 64 : Nat) : Int), .int .u64 ((wd p 64 64 : Nat) : Int), .int .u64 ((wd p 128 64 : Nat) : Int), .int .u64 ((wd p 192 64 : Nat) : Int)] 51 (0, 0)) := (hwt.2.2.block _ (by have := HCs.out; have := HK6.out.size; omega) (fun he => by
            rcases he with he | he
            · exact Nat.lt_irrefl _ (HSx.out _ he).2
            · omega)).trans HBx6.out
          have hfs := FS.wrote (w0 := w) (Nat.lt_of_lt_of_le hBl hwr6.size) (HBw.out.trans (hwr6.mono HBw.out.size)) (fun g hg => ⟨(HSx.out g hg).1, Nat.lt_of_lt_of_le (HSx.out g hg).2 hwr6.size⟩) hwB hwt
          obtain ⟨rfl, -, -⟩ := hwt
          have ha7 := (HAr.out.under hwr6 HAr.out.lt).under hfs.2 (by omega)
          have HF7 := Lib.hid hfs.1
          have HA7 := Lib.hid ha7
          clear hfs ha7 hwr6
          refine hK.out _ _ ?_ (fun _ => ?_)
          · exact hbx7
          clear hK K hbx7
          (try simp only [Act.put, List.getElem_toArray, List.getElem_cons_succ, List.getElem_cons_zero, List.setIfInBounds_toArray, List.set_cons_zero, List.set_cons_succ])
          refine wpAnyH_done (by kernel_rfl) ?_ _
          go_wp2
          go_roundw
          case rel =>
            refine ⟨k + 1, by omega, by go_num, ?_, HA7.out⟩
            have h := HF7.out
            have e := HLn.out
            rw [← e] at h
            exact h
          case measure => simp [intOf]; omega
    · obtain rfl : k = nc := by omega
      have HFc : Hid (FS w (w2.heap.size + 1) (headLines (ofLoc L) ++ (ofLoc L).cls.map clsLine) wr) := by
        have h := HR.out.1
        rw [List.take_of_length_le (by rw [HCl.out]; exact Nat.le_refl _)] at h
        exact h
      have HAc := Lib.hid HR.out.2
      obtain ⟨⟨x0, x1, x2⟩, ⟨x3, x4', x5⟩, xf⟩ := HAc.out.six
      clear x0 x1 x2 x3 x4' xf HR x4
      rename World => wA
      go_wp2
      clear x5
      go_loopw [51] (fun i wr => ∃ j : Nat, j ≤ ne ∧ i = .int .i64 j ∧ Hid (FS w (w2.heap.size + 1) (headLines (ofLoc L) ++ (ofLoc L).cls.map clsLine ++ ((ofLoc L).els.take j).map elmLine) wr ∧ LAt wr w.heap.size #[.string L.name, .slice aw 256 cw, .string L.lower, .string L.upper, .slice ac k cc, .slice ae ne ce])) (fun i _ => ne - (intOf i).toNat)
      case atStart => exact ⟨0, Nat.zero_le _, rfl, by simp only [List.take_zero, List.map_nil, List.append_nil]; exact HFc.out, HAc.out⟩
      case round =>
        obtain ⟨j, hj, rfl, HR⟩ := hrel
        clear HFc HAc
        by_cases hjn : j < ne
        · have ki : (j : Int) < ne := by omega
          have ki0 : (0 : Int) ≤ j := by omega
          have hjL : j < (ofLoc L).els.length := by rw [HEl.out]; exact hjn
          have hje : j < L.ne := by rw [HNe.out]; exact hjn
          rcases HLe.out with h0 | ⟨be, oe, rfl, hbe, hcells⟩
          · omega
          have hwr : Below w.heap.size w wr := by obtain ⟨_, _, h, _⟩ := HR.out.1; exact h
          have hcx : ∀ i, i < 2 → wr.cell? ⟨be, oe + j * 2 + i, none⟩ = some (elmF L j i) := fun i hi => by
            rw [hwr.cell (by exact hbe)]
            exact hcells j i hjn hi
          have g0 := hcx 0 (by decide)
          have g1 := hcx 1 (by decide)
          rw [show elmF L j 0 = .string (L.et j) from rfl] at g0
          rw [show elmF L j 1 = .int .i64 (L.ew j) from rfl] at g1
          simp only [Nat.add_zero] at g0
          obtain ⟨hes, hv0, hv1, -⟩ := HV.out.et j hje
          have hs0 : 0 < (L.et j).size := by omega
          have hs1 : 1 < (L.et j).size := by omega
          have HLn : Hid (headLines (ofLoc L) ++ (ofLoc L).cls.map clsLine ++ ((ofLoc L).els.take (j + 1)).map elmLine = (headLines (ofLoc L) ++ (ofLoc L).cls.map clsLine ++ ((ofLoc L).els.take j).map elmLine) ++ [jw ((⟨#[101, 108, 101, 109, 101, 110, 116]⟩ : ByteArray).data.toList :: [fmB ((L.et j)[0]'hs0).toNat, fmB ((L.et j)[1]'hs1).toNat, fmB (L.ew j).toNat])]) := by
            show _ = _
            rw [takeS elmLine _ j hjL, ← List.append_assoc]
            simp only [ofLoc, List.getElem_map, List.getElem_range]
            unfold elmLine
            simp only [getD_byte (L.et j) 0 hs0, getD_byte (L.et j) 1 hs1]
            rfl
          have HLs : Hid ((headLines (ofLoc L) ++ (ofLoc L).cls.map clsLine ++ ((ofLoc L).els.take j).map elmLine).length ≤ 1000000) := by
            show _ ≤ _
            have := headLines_len (ofLoc L)
            have := HCl.out
            have := HEl.out
            simp only [List.length_append, List.length_map, List.length_take]
            omega
          generalize L.et j = X at g0 hes hs0 hs1 HLn
          generalize L.ew j = V at g1 hv0 hv1 HLn
          have h0 := hs0
          have h1 := hs1
          have HBt := Lib.hid (fun c hc w => byteText_any c hc w)
          have HFm := Lib.hid (fun w => fmt_nat V.toNat V (by omega) (by omega) w)
          obtain ⟨Sx, hws, hbw, hSx, hwB⟩ := HR.out.1
          have HWs := Lib.hid hws
          have HBw := Lib.hid hbw
          have HSx := Lib.hid hSx
          have HAr := Lib.hid HR.out.2
          have hBl := hws.lt
          clear hws hbw hSx hcx hcells hwr hjL hje
          have hXi0 : (0 : Int) < X.size := by omega
          have hXi1 : (1 : Int) < X.size := by omega
          go_wp2
          have hbc2 : Below wr.heap.size wr (wr.alloc (.cells #[.string X, .int .i64 V] 53)) := (Below.refl _ _).alloc (Nat.le_refl _) _
          have hbox : (wr.alloc (.cells #[.string X, .int .i64 V] 53)).heap[wr.heap.size]? = some (.cells #[.string X, .int .i64 V] 53 (0, 0)) := heap_alloc_new wr _
          have hcsz : (wr.alloc (.cells #[.string X, .int .i64 V] 53)).heap.size = wr.heap.size + 1 := by simp
          generalize wr.alloc (.cells #[.string X, .int .i64 V] 53) = wc at hbc2 hbox hcsz ⊢
          have HBc := Lib.hid hbc2
          have HBox := Lib.hid hbox
          have HCs := Lib.hid hcsz
          clear g0 g1 hbc2 hbox hcsz
          refine wp_region_held_drew (S := fun w' => w'.heap[wr.heap.size]? = some (.cells #[.string X, .int .i64 V] 53 (0, 0))) (by kernel_rfl) ?_ (fun hHeld => ?_)
          · exact HBox.out
          refine wpAnyH_take (i := 0) (v := ?ev0) rfl (by kernel_rfl) (by kernel_rfl) (by kernel_rfl) (fun _ _ _ h => h) (Or.inl ⟨by rfl, ?ey0⟩) (by assumption) ?er0
          case ey0 =>
            intro wx hSw
            clear hSw
            go_simp
            first | done | (with_reducible rfl)
          (try simp only [Act.put, List.getElem_toArray, List.getElem_cons_zero, List.setIfInBounds_toArray, List.set_cons_zero, List.set_cons_succ])
          refine wpAnyH_take (i := 1) (v := ?ev1) rfl (by kernel_rfl) (by kernel_rfl) (by kernel_rfl) (fun _ _ _ h => h) (Or.inl ⟨by rfl, ?ey1⟩) (by assumption) ?er1
          case ey1 =>
            intro wx hSw
            have hcl := cell_of_row wx wr.heap.size 0 _ _ _ hSw
            simp only [List.getElem?_toArray, List.getElem?_cons_zero] at hcl
            clear hSw
            go_simp
            first | done | (with_reducible rfl)
          (try simp only [Act.put, List.getElem_toArray, List.getElem_cons_succ, List.getElem_cons_zero, List.setIfInBounds_toArray, List.set_cons_zero, List.set_cons_succ])
          refine wpAnyH_take (i := 2) (v := ?ev2) rfl (by kernel_rfl) (by kernel_rfl) (by kernel_rfl) (fun _ _ _ h => h) (Or.inl ⟨by rfl, ?ey2⟩) (by assumption) ?er2
          case ey2 =>
            intro wx hSw
            clear hSw
            go_simp
            first | done | (with_reducible rfl)
          (try simp only [Act.put, List.getElem_toArray, List.getElem_cons_succ, List.getElem_cons_zero, List.setIfInBounds_toArray, List.set_cons_zero, List.set_cons_succ])
          refine wpAnyH_take (i := 4) (v := ?ev4) rfl (by kernel_rfl) (by kernel_rfl) (by kernel_rfl) (fun _ _ _ h => h) (Or.inl ⟨by rfl, ?ey4⟩) (by assumption) ?er4
          case ey4 =>
            intro wx hSw
            clear hSw
            go_simp
            first | done | (with_reducible rfl)
          (try simp only [Act.put, List.getElem_toArray, List.getElem_cons_succ, List.getElem_cons_zero, List.setIfInBounds_toArray, List.set_cons_zero, List.set_cons_succ])
          refine wpAnyH_take (i := 5) (v := ?ev5) rfl (by kernel_rfl) (by kernel_rfl) (by kernel_rfl) (fun _ _ _ h => h) (Or.inl ⟨by rfl, ?ey5⟩) (by assumption) ?er5
          case ey5 =>
            intro wx hSw
            have hcl := cell_of_row wx wr.heap.size 0 _ _ _ hSw
            simp only [List.getElem?_toArray, List.getElem?_cons_zero] at hcl
            clear hSw
            go_simp
            first | done | (with_reducible rfl)
          (try simp only [Act.put, List.getElem_toArray, List.getElem_cons_succ, List.getElem_cons_zero, List.setIfInBounds_toArray, List.set_cons_zero, List.set_cons_succ])
          refine wpAnyH_take (i := 6) (v := ?ev6) rfl (by kernel_rfl) (by kernel_rfl) (by kernel_rfl) (fun _ _ _ h => h) (Or.inl ⟨by rfl, ?ey6⟩) (by assumption) ?er6
          case ey6 =>
            intro wx hSw
            clear hSw
            go_simp
            first | done | (with_reducible rfl)
          (try simp only [Act.put, List.getElem_toArray, List.getElem_cons_succ, List.getElem_cons_zero, List.setIfInBounds_toArray, List.set_cons_zero, List.set_cons_succ])
          refine wpAnyH_take (i := 8) (v := ?ev8) rfl (by kernel_rfl) (by kernel_rfl) (by kernel_rfl) (fun _ _ _ h => h) (Or.inl ⟨by rfl, ?ey8⟩) (by assumption) ?er8
          case ey8 =>
            intro wx hSw
            clear hSw
            go_simp
            first | done | (with_reducible rfl)
          (try simp only [Act.put, List.getElem_toArray, List.getElem_cons_succ, List.getElem_cons_zero, List.setIfInBounds_toArray, List.set_cons_zero, List.set_cons_succ])
          refine wpAnyH_take (i := 9) (v := ?ev9) rfl (by kernel_rfl) (by kernel_rfl) (by kernel_rfl) (fun _ _ _ h => h) (Or.inl ⟨by rfl, ?ey9⟩) (by assumption) ?er9
          case ey9 =>
            intro wx hSw
            have hcl := cell_of_row wx wr.heap.size 1 _ _ _ hSw
            simp only [List.getElem?_toArray, List.getElem?_cons_succ, List.getElem?_cons_zero] at hcl
            clear hSw
            go_simp
            first | done | (with_reducible rfl)
          (try simp only [Act.put, List.getElem_toArray, List.getElem_cons_succ, List.getElem_cons_zero, List.setIfInBounds_toArray, List.set_cons_zero, List.set_cons_succ])
          refine wpAnyH_ready (rs := [3]) (by kernel_rfl) (by simp) ?_
          refine AllReadyH.cons rfl (fun K hK => ?_) AllReadyH.nil
          go_simp
          go_at_call 23
          refine (HBt.out _ (UInt8.toNat_lt _) _).mono ?_
          rintro e wa ⟨rfl, hb⟩
          have HBa : Hid (Below wc.heap.size wc wa) := (Below.refl _ _).drew.trans hb
          have HBax : wa.heap[wr.heap.size]? = some (.cells #[.string X, .int .i64 V] 53 (0, 0)) := (HBa.out.block _ (by have := HCs.out; omega)).trans HBox.out
          clear hb
          refine hK.out _ _ ?_ (fun _ => ?_)
          · exact HBax
          clear hK K HBax
          (try simp only [Act.put, List.getElem_toArray, List.getElem_cons_succ, List.getElem_cons_zero, List.setIfInBounds_toArray, List.set_cons_zero, List.set_cons_succ])
          refine wpAnyH_ready (rs := [7]) (by kernel_rfl) (by simp) ?_
          refine AllReadyH.cons rfl (fun K hK => ?_) AllReadyH.nil
          go_simp
          go_at_call 23
          refine (HBt.out _ (UInt8.toNat_lt _) _).mono ?_
          rintro e wb ⟨rfl, hb⟩
          have HBb : Hid (Below wc.heap.size wc wb) := HBa.out.trans (hb.mono HBa.out.size)
          have HBbx : wb.heap[wr.heap.size]? = some (.cells #[.string X, .int .i64 V] 53 (0, 0)) := (HBb.out.block _ (by have := HCs.out; omega)).trans HBox.out
          clear hb
          refine hK.out _ _ ?_ (fun _ => ?_)
          · exact HBbx
          clear hK K HBbx
          (try simp only [Act.put, List.getElem_toArray, List.getElem_cons_succ, List.getElem_cons_zero, List.setIfInBounds_toArray, List.set_cons_zero, List.set_cons_succ])
          refine wpAnyH_ready (rs := [10]) (by kernel_rfl) (by simp) ?_
          refine AllReadyH.cons rfl (fun K hK => ?_) AllReadyH.nil
          go_simp
          go_at_call 24
          refine (HFm.out _).mono ?_
          rintro e we ⟨rfl, hb⟩
          have HBd : Hid (Below wc.heap.size wc we) := HBb.out.trans (hb.mono HBb.out.size)
          have HBdx : we.heap[wr.heap.size]? = some (.cells #[.string X, .int .i64 V] 53 (0, 0)) := (HBd.out.block _ (by have := HCs.out; omega)).trans HBox.out
          clear hb
          refine hK.out _ _ ?_ (fun _ => ?_)
          · exact HBdx
          clear hK K HBdx
          (try simp only [Act.put, List.getElem_toArray, List.getElem_cons_succ, List.getElem_cons_zero, List.setIfInBounds_toArray, List.set_cons_zero, List.set_cons_succ])
          refine wpAnyH_ready (rs := [11]) (by kernel_rfl) (by simp) ?_
          refine AllReadyH.cons rfl (fun K hK => ?_) AllReadyH.nil
          go_simp
          have HK6 : Hid (Below wc.heap.size wc (we.alloc (.cells #[.string (mk (fmB (X[0]'h0).toNat)), .string (mk (fmB (X[1]'h1).toNat)), .string (mk (fmB V.toNat))] 9))) := HBd.out.alloc HBd.out.size _
          have HSA : Hid (SA (we.alloc (.cells #[.string (mk (fmB (X[0]'h0).toNat)), .string (mk (fmB (X[1]'h1).toNat)), .string (mk (fmB V.toNat))] 9)) (.slice (some ⟨we.heap.size, 0, none⟩) 3 3) [fmB (X[0]'h0).toNat, fmB (X[1]'h1).toNat, fmB V.toNat]) := sa_lits _ _ _ rfl 3 rfl
          have hbx6 : (we.alloc (.cells #[.string (mk (fmB (X[0]'h0).toNat)), .string (mk (fmB (X[1]'h1).toNat)), .string (mk (fmB V.toNat))] 9)).heap[wr.heap.size]? = some (.cells #[.string X, .int .i64 V] 53 (0, 0)) := (HK6.out.block _ (by have := HCs.out; omega)).trans HBox.out
          have HBx6 := Lib.hid hbx6
          refine hK.out _ _ ?_ (fun _ => ?_)
          · exact hbx6
          clear hK K hbx6
          (try simp only [Act.put, List.getElem_toArray, List.getElem_cons_succ, List.getElem_cons_zero, List.setIfInBounds_toArray, List.set_cons_zero, List.set_cons_succ])
          refine wpAnyH_ready (rs := [12]) (by kernel_rfl) (by simp) ?_
          refine AllReadyH.cons rfl (fun K hK => ?_) AllReadyH.nil
          go_simp
          go_at_call 19
          have hwr6 : Below wr.heap.size wr (we.alloc (.cells #[.string (mk (fmB (X[0]'h0).toNat)), .string (mk (fmB (X[1]'h1).toNat)), .string (mk (fmB V.toNat))] 9)) := HBc.out.trans (HK6.out.mono HBc.out.size)
          refine (wentry_any Sx _ (w2.heap.size + 1) _ (HWs.out.next hwr6) ⟨#[101, 108, 101, 109, 101, 110, 116]⟩ _ _ HSA.out (by simp) HLs.out (by simp) (by
            have a1 := fmB_size' (X[0]'h0).toNat (by have := UInt8.toNat_lt (X[0]'h0); omega)
            have a2 := fmB_size' (X[1]'h1).toNat (by have := UInt8.toNat_lt (X[1]'h1); omega)
            have a3 := fmB_size' V.toNat (by omega)
            simp; omega)).mono ?_
          rintro e w7 hwt
          have hbx7 : w7.heap[wr.heap.size]? = some (.cells #[.string X, .int .i64 V] 53 (0, 0)) := (hwt.2.2.block _ (by have := HCs.out; have := HK6.out.size; omega) (fun he => by
            rcases he with he | he
            · exact Nat.lt_irrefl _ (HSx.out _ he).2
            · omega)).trans HBx6.out
          have hfs := FS.wrote (w0 := w) (Nat.lt_of_lt_of_le hBl hwr6.size) (HBw.out.trans (hwr6.mono HBw.out.size)) (fun g hg => ⟨(HSx.out g hg).1, Nat.lt_of_lt_of_le (HSx.out g hg).2 hwr6.size⟩) hwB hwt
          obtain ⟨rfl, -, -⟩ := hwt
          have ha7 := (HAr.out.under hwr6 HAr.out.lt).under hfs.2 (by omega)
          have HF7 := Lib.hid hfs.1
          have HA7 := Lib.hid ha7
          clear hfs ha7 hwr6
          refine hK.out _ _ ?_ (fun _ => ?_)
          · exact hbx7
          clear hK K hbx7
          (try simp only [Act.put, List.getElem_toArray, List.getElem_cons_succ, List.getElem_cons_zero, List.setIfInBounds_toArray, List.set_cons_zero, List.set_cons_succ])
          refine wpAnyH_done (by kernel_rfl) ?_ _
          go_wp2
          go_roundw
          case rel =>
            refine ⟨j + 1, by omega, by go_num, ?_, HA7.out⟩
            have h := HF7.out
            have e := HLn.out
            rw [← e] at h
            exact h
          case measure => simp [intOf]; omega
        · obtain rfl : j = ne := by omega
          have hall := HR.out.1
          rw [List.take_of_length_le (by rw [HEl.out]; exact Nat.le_refl _)] at hall
          obtain ⟨Sx, ⟨v, hv, hov, hvS, hvB⟩, hbw, hSx, hwB⟩ := hall
          have hov2 : wr.ownsRow 0 9 1 v (fmtLines (ofLoc L)).length (strs3 (fmtLines (ofLoc L))) := hov
          have hcv : wr.cell? ⟨w2.heap.size + 1, 0, none⟩ = some v := cell_of_row wr _ 0 _ _ _ hv
          obtain ⟨av, cv, rfl⟩ : ∃ av cv, v = .slice (some ⟨av, 0, none⟩) (fmtLines (ofLoc L)).length cv := by
            rcases Joins.ownsRow_forms hov2 with ⟨_, h0⟩ | ⟨g, c, h⟩
            · unfold fmtLines headLines at h0; simp at h0
            · exact ⟨g, c, h⟩
          have hsa := own_sa hov2 rfl
          have HJn := Lib.hid (tjoin_any _ _ true wr hsa HJ.out)
          have HFk : Hid (F = jn (fmtLines (ofLoc L)) true) := by show F = _; rw [← HF.out]; rfl
          have HBw := Lib.hid hbw
          have hli : ((fmtLines (ofLoc L)).length : Int) ≤ 4294967281 := by have := HJ.out; omega
          generalize (fmtLines (ofLoc L)).length = nl at hcv HJn hli
          clear hv hov hov2 hvS hvB hbw hSx hsa
          go_wp2_with (first
            | (go_at_call 25
               refine HJn.out.mono ?_
               rintro e w9 ⟨rfl, hb⟩
               have HB9 := Lib.hid (HBw.out.trans (hb.mono HBw.out.size))
               clear hb))
          go_ret
          exact ⟨by rw [HFk.out] <;> rfl, HB9.out⟩
end Go.Proofs.YtblaldcioneooaaGreatDoor
