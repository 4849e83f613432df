/- The reference's default locale: three lists that grow side by side. -/
import Derived.Test.YticfhbffoajgcaaGreatDoorRows
import Derived.Test.YticfhbffoajgcaaGreatDoorLcOwn
import Derived.Deep.AppendLies
set_option linter.unusedVariables false
namespace Go.Proofs.YticfhbffoajgcaaGreatDoor
open Go.RowKit

/-- Two values do not share a block. -/
def Apart (u v : Value) : Prop := ∀ g, u.ownBlock = some g → v.ownBlock ≠ some g
theorem Apart.symm {u v : Value} (h : Apart u v) : Apart v u := fun g e e2 => h g e2 e
theorem Apart.nil (v : Value) : Apart (.slice none 0 0) v := fun g e => by cases e

/-- 'append(v, a)' where v is the call's own, among other lists of the call's own. -/
theorem app_far (T E : TypeId) (z : Value) (bytes : Nat) (ht : Tryz.prog.underlying T = some (.slice E)) (hif : (Tryz.prog.info? E).map (fun i => (i.zero, i.size, i.bytes)) = some (some z, 1, bytes)) (hz : z.cells.size = 1)
    {W : World} {ops : Array Oper} {rest : List Oper} {o : Oper} {a : Act} {Q : Exit → Act → World → Prop} (w : World) (hgd : o.guard = none) (s x : Operand)
    (ho : o.op = .call { callee := .builtin .append, args := #[s, x], argTypes := #[T, T] })
    (B : Nat) (v : Value) (n m : Nat) (xs vs : List Value) (hW : W = w.alloc (.cells vs.toArray E)) (hs : a.eval s = v) (hown : w.ownsRow B E 1 v n xs) (g0 : Nat) (hg0 : w.heap.size = g0) (hx : a.eval x = .slice (some ⟨g0, 0, none⟩) m m) (hm : vs.length = m) (h1 : ∀ u ∈ vs, u.oneCell' = true)
    (hm0 : 0 < m) (hB : B ≤ w.heap.size) (h63 : n + m ≤ maxLen) (hby : (n + m) * bytes ≤ 140737488355328)
    (h : ∀ g cap w', w'.ownsRow B E 1 (.slice (some ⟨g, 0, none⟩) (n + m) cap) (n + m) (xs ++ vs) → (∀ A0, Below B A0 w → Below B A0 w') → w.heap.size ≤ w'.heap.size →
      (∀ t u k ys, w.ownsRow B t 1 u k ys → Apart u v → w'.ownsRow B t 1 u k ys ∧ Apart u (.slice (some ⟨g, 0, none⟩) (n + m) cap)) → wpList Tryz.prog ops Q rest (a.put o.dst (.slice (some ⟨g, 0, none⟩) (n + m) cap)) w') :
    wpList Tryz.prog ops Q (o :: rest) a W := by
  subst hg0
  subst hW
  obtain ⟨i0, hi, hz0, hz1, hz2⟩ := info_parts hif
  refine wpList_append_lies _ hgd s x T ho B E i0 z 1 bytes ht hi hz0 hz1 hz2 hz (by decide) v n xs hs (hown.alloc _) ⟨w.heap.size, 0, none⟩ m m vs hx (by omega) (fun j u hu => row_cells w vs E j u hu) h1 hm0 h63 hby (by simp; omega) _ rfl ?_
  intro g cap w' hown' hgrow hat hlt
  have hsz : w.heap.size ≤ w'.heap.size := by have := hgrow.size; simp at this; omega
  refine h g cap w' hown' (fun A0 hb => (hb.alloc hB _).grown hgrow (by simp; omega) (fun j e => (hown.lt j e).1)) hsz ?_
  intro t u k ys hu hap
  have hu2 := hu
  constructor
  · obtain ⟨h1, h2⟩ := hu
    refine ⟨h1, ?_⟩
    rcases h2 with h2 | ⟨g2, cap2, cur, e, hB2, hg, r⟩
    · exact .inl h2
    · have hl : g2 < w.heap.size := (Array.getElem?_eq_some_iff.1 hg).1
      have hne : some g2 ≠ v.ownBlock := fun e2 => hap g2 (by rw [e]; rfl) e2.symm
      refine .inr ⟨g2, cap2, cur, e, hB2, ?_, r⟩
      rw [hgrow.block g2 (by simp; omega) hne, heap_alloc_old w _ hl]
      exact hg
  · intro g2 e e2
    have hl := (hu2.lt g2 e).2
    have e3 : g = g2 := by simpa [Value.ownBlock] using e2
    subst e3
    rcases hat with hat | hat
    · exact hap _ e hat
    · rw [hat] at hl
      simp at hl
      omega

/-- The small and the capital letter of a byte in the default locale. -/
def lowC (k : Nat) : UInt8 := if 65 ≤ k ∧ k ≤ 90 then UInt8.ofNat (k + 32) else UInt8.ofNat k
def upC (k : Nat) : UInt8 := if 97 ≤ k ∧ k ≤ 122 then UInt8.ofNat (k - 32) else UInt8.ofNat k
theorem lowC_yes (k : Nat) (h1 : 65 ≤ k) (h2 : k ≤ 90) : ((lowC k).toNat : Int) = k + 32 := by
  unfold lowC
  rw [if_pos ⟨h1, h2⟩, UInt8.toNat_ofNat']
  omega
theorem lowC_no (k : Nat) (h : ¬ (65 ≤ k ∧ k ≤ 90)) (hk : k < 256) : ((lowC k).toNat : Int) = k := by
  unfold lowC
  rw [if_neg h, UInt8.toNat_ofNat']
  omega
theorem upC_yes (k : Nat) (h1 : 97 ≤ k) (h2 : k ≤ 122) : ((upC k).toNat : Int) = k - 32 := by
  unfold upC
  rw [if_pos ⟨h1, h2⟩, UInt8.toNat_ofNat']
  omega
theorem upC_no (k : Nat) (h : ¬ (97 ≤ k ∧ k ≤ 122)) (hk : k < 256) : ((upC k).toNat : Int) = k := by
  unfold upC
  rw [if_neg h, UInt8.toNat_ofNat']
  omega
def idL (k : Nat) : List Int := (List.range k).map fun j : Nat => (j : Int)
def lowL (k : Nat) : List UInt8 := (List.range k).map lowC
def upL (k : Nat) : List UInt8 := (List.range k).map upC
theorem idL_next (k : Nat) : nums (idL (k + 1)) = nums (idL k) ++ [.int .i64 (k : Int)] := by unfold idL; rw [List.range_succ, List.map_append, nums_app]; rfl
theorem lowL_next (k : Nat) (c : Int) (h : ((lowC k).toNat : Int) = c) : bys (lowL (k + 1)) = bys (lowL k) ++ [.int .u8 c] := by
  unfold lowL; rw [List.range_succ, List.map_append, bys_app, ← h]; rfl
theorem upL_next (k : Nat) (c : Int) (h : ((upC k).toNat : Int) = c) : bys (upL (k + 1)) = bys (upL k) ++ [.int .u8 c] := by
  unfold upL; rw [List.range_succ, List.map_append, bys_app, ← h]; rfl

/-- Block g holds the cells of a locale. -/
def LAt (w : World) (g : Nat) (c : Array Value) : Prop := w.heap[g]? = some (.cells c 26 (0, 0))
theorem LAt.cell {w : World} {g : Nat} {c : Array Value} (h : LAt w g c) (j : Nat) : w.cell? ⟨g, j, none⟩ = c[j]? := cell_of_row w g j _ _ _ h
theorem LAt.free {w : World} {g : Nat} {c : Array Value} (h : LAt w g c) (j : Nat) : w.frozen? ⟨g, j, none⟩ = false := frozen_of_row w g j _ _ h
theorem LAt.lt {w : World} {g : Nat} {c : Array Value} (h : LAt w g c) : g < w.heap.size := (Array.getElem?_eq_some_iff.1 h).1
def psx : ByteArray := ⟨#[112, 111, 115, 105, 120]⟩
def zeroL : Array Value := #[.string ⟨#[]⟩, .slice none 0 0, .string ⟨#[]⟩, .string ⟨#[]⟩, .slice none 0 0, .slice none 0 0]
def halfL (v1 : Value) : Array Value := #[.string psx, v1, .string ⟨#[]⟩, .string ⟨#[]⟩, .slice none 0 0, .slice none 0 0]

/-- The three lists in the middle of the work. -/
def DefAt (B : Nat) (w0 w : World) (k1 k2 k3 : Nat) (v1 v2 v3 : Value) : Prop :=
  Below B w0 w ∧ LAt w B zeroL ∧ LAt w (B + 1) (halfL v1) ∧
  w.ownsRow (B + 2) 3 1 v1 k1 (nums (idL k1)) ∧ w.ownsRow (B + 2) 5 1 v2 k2 (bys (lowL k2)) ∧ w.ownsRow (B + 2) 5 1 v3 k3 (bys (upL k3)) ∧ Apart v1 v2 ∧ Apart v1 v3 ∧ Apart v2 v3
def Far (B : Nat) (w w' : World) (v v' : Value) : Prop := ∀ t u k ys, w.ownsRow B t 1 u k ys → Apart u v → w'.ownsRow B t 1 u k ys ∧ Apart u v'
theorem LAt.under {w w' : World} {g B : Nat} {c : Array Value} (h : LAt w g c) (hb : Below B w w') (hg : g < B) : LAt w' g c := (hb.block g hg).trans h
theorem LAt.apart {w : World} {g k j : Nat} {c : Array Value} (h : LAt w g c) (v : Value) (hk : g ≠ k) : LAt (w.setCell ⟨k, j, none⟩ v) g c := (Below.heap_setCell w ⟨k, j, none⟩ v g hk).trans h
theorem LAt.put {w : World} {g : Nat} {c : Array Value} (h : LAt w g c) (j : Nat) (v : Value) : LAt (w.setCell ⟨g, j, none⟩ v) g (c.setIfInBounds j v) := heap_setCell_same w g j _ _ v h
theorem def1 {B : Nat} {w0 w w1 : World} {k1 k2 k3 : Nat} {v1 v2 v3 v' : Value} (h : DefAt B w0 w k1 k2 k3 v1 v2 v3) (ho : w1.ownsRow (B + 2) 3 1 v' (k1 + 1) (nums (idL k1) ++ [.int .i64 (k1 : Int)]))
    (hb : ∀ A0, Below (B + 2) A0 w → Below (B + 2) A0 w1) (hf : Far (B + 2) w w1 v1 v') : DefAt B w0 (w1.setCell ⟨B + 1, 1, none⟩ v') (k1 + 1) k2 k3 v' v2 v3 := by
  obtain ⟨b, l0, l1, o1, o2, o3, a12, a13, a23⟩ := h
  have hb1 := hb w (Below.refl _ _)
  obtain ⟨p2, q2⟩ := hf _ _ _ _ o2 a12.symm
  obtain ⟨p3, q3⟩ := hf _ _ _ _ o3 a13.symm
  refine ⟨(b.trans (hb1.mono (by omega))).setCell (by simp) _, (l0.under hb1 (by omega)).apart _ (by omega), (l1.under hb1 (by omega)).put 1 v', ?_, ownsRow_setCell_below p2 (by simp) _, ownsRow_setCell_below p3 (by simp) _, q2.symm, q3.symm, a23⟩
  rw [idL_next]
  exact ownsRow_setCell_below ho (by simp) _
theorem def2 {B : Nat} {w0 w w1 : World} {k1 k2 k3 : Nat} {v1 v2 v3 v' : Value} {c : Int} (h : DefAt B w0 w k1 k2 k3 v1 v2 v3) (hc : ((lowC k2).toNat : Int) = c) (ho : w1.ownsRow (B + 2) 5 1 v' (k2 + 1) (bys (lowL k2) ++ [.int .u8 c]))
    (hb : ∀ A0, Below (B + 2) A0 w → Below (B + 2) A0 w1) (hf : Far (B + 2) w w1 v2 v') : DefAt B w0 w1 k1 (k2 + 1) k3 v1 v' v3 := by
  obtain ⟨b, l0, l1, o1, o2, o3, a12, a13, a23⟩ := h
  have hb1 := hb w (Below.refl _ _)
  obtain ⟨p1, q1⟩ := hf _ _ _ _ o1 a12
  obtain ⟨p3, q3⟩ := hf _ _ _ _ o3 a23.symm
  refine ⟨b.trans (hb1.mono (by omega)), l0.under hb1 (by omega), l1.under hb1 (by omega), p1, ?_, p3, q1, a13, q3.symm⟩
  rw [lowL_next k2 c hc]
  exact ho
theorem def3 {B : Nat} {w0 w w1 : World} {k1 k2 k3 : Nat} {v1 v2 v3 v' : Value} {c : Int} (h : DefAt B w0 w k1 k2 k3 v1 v2 v3) (hc : ((upC k3).toNat : Int) = c) (ho : w1.ownsRow (B + 2) 5 1 v' (k3 + 1) (bys (upL k3) ++ [.int .u8 c]))
    (hb : ∀ A0, Below (B + 2) A0 w → Below (B + 2) A0 w1) (hf : Far (B + 2) w w1 v3 v') : DefAt B w0 w1 k1 k2 (k3 + 1) v1 v2 v' := by
  obtain ⟨b, l0, l1, o1, o2, o3, a12, a13, a23⟩ := h
  have hb1 := hb w (Below.refl _ _)
  obtain ⟨p1, q1⟩ := hf _ _ _ _ o1 a13
  obtain ⟨p2, q2⟩ := hf _ _ _ _ o2 a23
  refine ⟨b.trans (hb1.mono (by omega)), l0.under hb1 (by omega), l1.under hb1 (by omega), p1, p2, ?_, a12, q1, q2⟩
  rw [upL_next k3 c hc]
  exact ho
theorem def0 (w : World) : DefAt w.heap.size w ((w.alloc (.cells zeroL 26)).alloc (.cells (halfL (.slice none 0 0)) 26)) 0 0 0 (.slice none 0 0) (.slice none 0 0) (.slice none 0 0) := by
  have b1 : Below w.heap.size w (w.alloc (.cells zeroL 26)) := (Below.refl _ _).alloc (Nat.le_refl _) _
  have e1 : (w.alloc (.cells zeroL 26)).heap.size = w.heap.size + 1 := by simp
  refine ⟨b1.alloc (by simp) _, ?_, ?_, World.ownsRow_nil _ _ _ _, World.ownsRow_nil _ _ _ _, World.ownsRow_nil _ _ _ _, Apart.nil _, Apart.nil _, Apart.nil _⟩
  · unfold LAt
    rw [heap_alloc_old _ _ (by simp)]
    exact heap_alloc_new w _
  · unfold LAt
    rw [← e1]
    exact heap_alloc_new _ _

/-- The whole locale stored field by field. -/
def put6 (w : World) (g : Nat) (c0 c1 c2 c3 c4 c5 : Value) : World :=
  (((((w.setCell ⟨g, 0, none⟩ c0).setCell ⟨g, 1, none⟩ c1).setCell ⟨g, 2, none⟩ c2).setCell ⟨g, 3, none⟩ c3).setCell ⟨g, 4, none⟩ c4).setCell ⟨g, 5, none⟩ c5
theorem LAt.put6 {w : World} {g : Nat} {x0 x1 x2 x3 x4 x5 : Value} (h : LAt w g #[x0, x1, x2, x3, x4, x5]) (c0 c1 c2 c3 c4 c5 : Value) : LAt (put6 w g c0 c1 c2 c3 c4 c5) g #[c0, c1, c2, c3, c4, c5] := by
  have h5 := (((((h.put 0 c0).put 1 c1).put 2 c2).put 3 c3).put 4 c4).put 5 c5
  refine Eq.trans h5 ?_
  simp
theorem below_put6 {B : Nat} {a w : World} (h : Below B a w) (g : Nat) (hB : B ≤ g) (c0 c1 c2 c3 c4 c5 : Value) : Below B a (put6 w g c0 c1 c2 c3 c4 c5) :=
  (((((h.setCell (p := ⟨g, 0, none⟩) hB _).setCell (p := ⟨g, 1, none⟩) hB _).setCell (p := ⟨g, 2, none⟩) hB _).setCell (p := ⟨g, 3, none⟩) hB _).setCell (p := ⟨g, 4, none⟩) hB _).setCell (p := ⟨g, 5, none⟩) hB _
theorem own_put6 {w : World} {B n : Nat} {t : TypeId} {v : Value} {xs : List Value} (h : w.ownsRow B t 1 v n xs) (g : Nat) (hg : g < B) (c0 c1 c2 c3 c4 c5 : Value) : (put6 w g c0 c1 c2 c3 c4 c5).ownsRow B t 1 v n xs :=
  ownsRow_setCell_below (ownsRow_setCell_below (ownsRow_setCell_below (ownsRow_setCell_below (ownsRow_setCell_below (ownsRow_setCell_below h (by exact hg) _) (by exact hg) _) (by exact hg) _) (by exact hg) _) (by exact hg) _) (by exact hg) _
theorem info_loc : (Tryz.prog.info? 26).map (·.size) = some 6 := by kernel_rfl
/-- What a function hands back whose result, a locale, lives in block g. -/
theorem ret_loc {fn : Func} {t0 : Tmp} (hr : fn.results = #[.cell t0 26]) (tmps : Array Value) (w : World) (g : Nat) (c : Array Value) (hs : c.size = 6) (hp : tmps.getD t0 undef = .pointer (some ⟨g, 0, none⟩)) (hA : LAt w g c) :
    (results fn tmps).run Tryz.prog w = .ok (.agg c) w :=
  results_cell_row hr tmps w g _ c (0, 0) _ hp hA Tryz.underlying26 rfl (by rw [hs]; exact info_loc)
/-- A list of the call's own, as a slice in memory. -/
theorem own_SL {w : World} {B g n cap : Nat} {t : TypeId} {xs : List Value} (h : w.ownsRow B t 1 (.slice (some ⟨g, 0, none⟩) n cap) n xs) (f : Nat → Nat → Value) (hf : ∀ j, j < n → xs[j]? = some (f j 0)) : SL 1 n f w (.slice (some ⟨g, 0, none⟩) n cap) := by
  have hl : g < w.heap.size := (h.lt g rfl).2
  have hcap : n ≤ cap := by
    rcases h.2 with ⟨e, _⟩ | ⟨g2, cap2, cur, e, _, _, hc, _⟩
    · cases e
    · cases e
      exact hc
  refine ⟨some ⟨g, 0, none⟩, cap, rfl, hcap, .inr ⟨g, 0, rfl, hl, fun j i hj hi => ?_⟩⟩
  obtain rfl : i = 0 := by omega
  have := h.cells rfl j _ (hf j hj)
  rw [add_at] at this
  simpa using this
theorem SL_nil (k : Nat) (f : Nat → Nat → Value) (w : World) : SL k 0 f w (.slice none 0 0) := ⟨none, 0, rfl, Nat.le_refl _, .inl rfl⟩

/-- The default locale. -/
def Ldef : Loc := { name := psx, lower := ⟨(lowL 256).toArray⟩, upper := ⟨(upL 256).toArray⟩, nw := 256, wt := fun j => (j : Int), nc := 0, cn := fun _ => ⟨#[]⟩, cset := fun _ _ => false, ne := 0, et := fun _ => ⟨#[]⟩, ew := fun _ => 0 }
theorem lcl_def (W C E : Value) : lcl Ldef W C E = #[.string psx, W, .string ⟨(lowL 256).toArray⟩, .string ⟨(upL 256).toArray⟩, C, E] := rfl
theorem idL_at (j : Nat) (h : j < 256) : (nums (idL 256))[j]? = some (wtF Ldef j 0) := by
  unfold nums idL
  rw [List.map_map, List.getElem?_map, List.getElem?_range h]
  rfl
theorem lowL_len (k : Nat) : (lowL k).length = k := by unfold lowL; simp
theorem upL_len (k : Nat) : (upL k).length = k := by unfold upL; simp
theorem locM_def {w : World} {W : Value} (h : SL 1 256 (wtF Ldef) w W) : LocM w Ldef W (.slice none 0 0) (.slice none 0 0) := ⟨h, SL_nil _ _ _, SL_nil _ _ _⟩
end Go.Proofs.YticfhbffoajgcaaGreatDoor
