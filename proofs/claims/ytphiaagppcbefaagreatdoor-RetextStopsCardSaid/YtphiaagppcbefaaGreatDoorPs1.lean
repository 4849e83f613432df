/- LcDef, LpSmall, LpFunc. -/
import Derived.Test.YtphiaagppcbefaaGreatDoorRows
import Derived.Test.YtphiaagppcbefaaGreatDoorPs0
import Derived.Deep.AppendLies
set_option linter.unusedVariables false
namespace Go.Proofs.YtphiaagppcbefaaGreatDoor
open Go.RowKit
def Apart (u v : Value) : Prop := ∀ g, u.ownBlock = some g → v.ownBlock ≠ some g
theorem Apart.symm {u v : Value} (h : Apart u v) : Apart v u := fun g e e2 => h g e2 e
theorem Apart.nil (v : Value) : Apart (.slice none 0 0) v := fun g e => by cases e
theorem app_far (T E : TypeId) (z : Value) (bytes : Nat) (ht : Tryz.prog.underlying T = some (.slice E)) (hif : (Tryz.prog.info? E).map (fun i => (i.zero, i.size, i.bytes)) = some (some z, 1, bytes)) (hz : z.cells.size = 1)
    {W : World} {ops : Array Oper} {rest : List Oper} {o : Oper} {a : Act} {Q : Exit → Act → World → Prop} (w : World) (hgd : o.guard = none) (s x : Operand)
    (ho : o.op = .call { callee := .builtin .append, args := #[s, x], argTypes := #[T, T] })
    (B : Nat) (v : Value) (n m : Nat) (xs vs : List Value) (hW : W = w.alloc (.cells vs.toArray E)) (hs : a.eval s = v) (hown : w.ownsRow B E 1 v n xs) (g0 : Nat) (hg0 : w.heap.size = g0) (hx : a.eval x = .slice (some ⟨g0, 0, none⟩) m m) (hm : vs.length = m) (h1 : ∀ u ∈ vs, u.oneCell' = true)
    (hm0 : 0 < m) (hB : B ≤ w.heap.size) (h63 : n + m ≤ maxLen) (hby : (n + m) * bytes ≤ 140737488355328)
    (h : ∀ g cap w', w'.ownsRow B E 1 (.slice (some ⟨g, 0, none⟩) (n + m) cap) (n + m) (xs ++ vs) → (∀ A0, Below B A0 w → Below B A0 w') → w.heap.size ≤ w'.heap.size →
      (∀ t u k ys, w.ownsRow B t 1 u k ys → Apart u v → w'.ownsRow B t 1 u k ys ∧ Apart u (.slice (some ⟨g, 0, none⟩) (n + m) cap)) → wpList Tryz.prog ops Q rest (a.put o.dst (.slice (some ⟨g, 0, none⟩) (n + m) cap)) w') :
    wpList Tryz.prog ops Q (o :: rest) a W := by
  subst hg0
  subst hW
  obtain ⟨i0, hi, hz0, hz1, hz2⟩ := info_parts hif
  refine wpList_append_lies _ hgd s x T ho B E i0 z 1 bytes ht hi hz0 hz1 hz2 hz (by decide) v n xs hs (hown.alloc _) ⟨w.heap.size, 0, none⟩ m m vs hx (by omega) (fun j u hu => row_cells w vs E j u hu) h1 hm0 h63 hby (by simp; omega) _ rfl ?_
  intro g cap w' hown' hgrow hat hlt
  have hsz : w.heap.size ≤ w'.heap.size := by have := hgrow.size; simp at this; omega
  refine h g cap w' hown' (fun A0 hb => (hb.alloc hB _).grown hgrow (by simp; omega) (fun j e => (hown.lt j e).1)) hsz ?_
  intro t u k ys hu hap
  have hu2 := hu
  constructor
  · obtain ⟨h1, h2⟩ := hu
    refine ⟨h1, ?_⟩
    rcases h2 with h2 | ⟨g2, cap2, cur, e, hB2, hg, r⟩
    · exact .inl h2
    · have hl : g2 < w.heap.size := (Array.getElem?_eq_some_iff.1 hg).1
      have hne : some g2 ≠ v.ownBlock := fun e2 => hap g2 (by rw [e]; rfl) e2.symm
      refine .inr ⟨g2, cap2, cur, e, hB2, ?_, r⟩
      rw [hgrow.block g2 (by simp; omega) hne, heap_alloc_old w _ hl]
      exact hg
  · intro g2 e e2
    have hl := (hu2.lt g2 e).2
    have e3 : g = g2 := by simpa [Value.ownBlock] using e2
    subst e3
    rcases hat with hat | hat
    · exact hap _ e hat
    · rw [hat] at hl
      simp at hl
      omega
def lowC (k : Nat) : UInt8 := if 65 ≤ k ∧ k ≤ 90 then UInt8.ofNat (k + 32) else UInt8.ofNat k
def upC (k : Nat) : UInt8 := if 97 ≤ k ∧ k ≤ 122 then UInt8.ofNat (k - 32) else UInt8.ofNat k
theorem lowC_yes (k : Nat) (h1 : 65 ≤ k) (h2 : k ≤ 90) : ((lowC k).toNat : Int) = k + 32 := by
  unfold lowC
  rw [if_pos ⟨h1, h2⟩, UInt8.toNat_ofNat']
  omega
theorem lowC_no (k : Nat) (h : ¬ (65 ≤ k ∧ k ≤ 90)) (hk : k < 256) : ((lowC k).toNat : Int) = k := by
  unfold lowC
  rw [if_neg h, UInt8.toNat_ofNat']
  omega
theorem upC_yes (k : Nat) (h1 : 97 ≤ k) (h2 : k ≤ 122) : ((upC k).toNat : Int) = k - 32 := by
  unfold upC
  rw [if_pos ⟨h1, h2⟩, UInt8.toNat_ofNat']
  omega
theorem upC_no (k : Nat) (h : ¬ (97 ≤ k ∧ k ≤ 122)) (hk : k < 256) : ((upC k).toNat : Int) = k := by
  unfold upC
  rw [if_neg h, UInt8.toNat_ofNat']
  omega
def idL (k : Nat) : List Int := (List.range k).map fun j : Nat => (j : Int)
def lowL (k : Nat) : List UInt8 := (List.range k).map lowC
def upL (k : Nat) : List UInt8 := (List.range k).map upC
theorem idL_next (k : Nat) : nums (idL (k + 1)) = nums (idL k) ++ [.int .i64 (k : Int)] := by unfold idL; rw [List.range_succ, List.map_append, nums_app]; rfl
theorem lowL_next (k : Nat) (c : Int) (h : ((lowC k).toNat : Int) = c) : bys (lowL (k + 1)) = bys (lowL k) ++ [.int .u8 c] := by
  unfold lowL; rw [List.range_succ, List.map_append, bys_app, ← h]; rfl
theorem upL_next (k : Nat) (c : Int) (h : ((upC k).toNat : Int) = c) : bys (upL (k + 1)) = bys (upL k) ++ [.int .u8 c] := by
  unfold upL; rw [List.range_succ, List.map_append, bys_app, ← h]; rfl
def LAt (w : World) (g : Nat) (c : Array Value) : Prop := w.heap[g]? = some (.cells c 26 (0, 0))
theorem LAt.cell {w : World} {g : Nat} {c : Array Value} (h : LAt w g c) (j : Nat) : w.cell? ⟨g, j, none⟩ = c[j]? := cell_of_row w g j _ _ _ h
theorem LAt.free {w : World} {g : Nat} {c : Array Value} (h : LAt w g c) (j : Nat) : w.frozen? ⟨g, j, none⟩ = false := frozen_of_row w g j _ _ h
theorem LAt.lt {w : World} {g : Nat} {c : Array Value} (h : LAt w g c) : g < w.heap.size := (Array.getElem?_eq_some_iff.1 h).1
def psx : ByteArray := ⟨#[112, 111, 115, 105, 120]⟩
def zeroL : Array Value := #[.string ⟨#[]⟩, .slice none 0 0, .string ⟨#[]⟩, .string ⟨#[]⟩, .slice none 0 0, .slice none 0 0]
def halfL (v1 : Value) : Array Value := #[.string psx, v1, .string ⟨#[]⟩, .string ⟨#[]⟩, .slice none 0 0, .slice none 0 0]
def DefAt (B : Nat) (w0 w : World) (k1 k2 k3 : Nat) (v1 v2 v3 : Value) : Prop :=
  Below B w0 w ∧ LAt w B zeroL ∧ LAt w (B + 1) (halfL v1) ∧
  w.ownsRow (B + 2) 3 1 v1 k1 (nums (idL k1)) ∧ w.ownsRow (B + 2) 5 1 v2 k2 (bys (lowL k2)) ∧ w.ownsRow (B + 2) 5 1 v3 k3 (bys (upL k3)) ∧ Apart v1 v2 ∧ Apart v1 v3 ∧ Apart v2 v3
def Far (B : Nat) (w w' : World) (v v' : Value) : Prop := ∀ t u k ys, w.ownsRow B t 1 u k ys → Apart u v → w'.ownsRow B t 1 u k ys ∧ Apart u v'
theorem LAt.under {w w' : World} {g B : Nat} {c : Array Value} (h : LAt w g c) (hb : Below B w w') (hg : g < B) : LAt w' g c := (hb.block g hg).trans h
theorem LAt.apart {w : World} {g k j : Nat} {c : Array Value} (h : LAt w g c) (v : Value) (hk : g ≠ k) : LAt (w.setCell ⟨k, j, none⟩ v) g c := (Below.heap_setCell w ⟨k, j, none⟩ v g hk).trans h
theorem LAt.put {w : World} {g : Nat} {c : Array Value} (h : LAt w g c) (j : Nat) (v : Value) : LAt (w.setCell ⟨g, j, none⟩ v) g (c.setIfInBounds j v) := heap_setCell_same w g j _ _ v h
theorem def1 {B : Nat} {w0 w w1 : World} {k1 k2 k3 : Nat} {v1 v2 v3 v' : Value} (h : DefAt B w0 w k1 k2 k3 v1 v2 v3) (ho : w1.ownsRow (B + 2) 3 1 v' (k1 + 1) (nums (idL k1) ++ [.int .i64 (k1 : Int)]))
    (hb : ∀ A0, Below (B + 2) A0 w → Below (B + 2) A0 w1) (hf : Far (B + 2) w w1 v1 v') : DefAt B w0 (w1.setCell ⟨B + 1, 1, none⟩ v') (k1 + 1) k2 k3 v' v2 v3 := by
  obtain ⟨b, l0, l1, o1, o2, o3, a12, a13, a23⟩ := h
  have hb1 := hb w (Below.refl _ _)
  obtain ⟨p2, q2⟩ := hf _ _ _ _ o2 a12.symm
  obtain ⟨p3, q3⟩ := hf _ _ _ _ o3 a13.symm
  refine ⟨(b.trans (hb1.mono (by omega))).setCell (by simp) _, (l0.under hb1 (by omega)).apart _ (by omega), (l1.under hb1 (by omega)).put 1 v', ?_, ownsRow_setCell_below p2 (by simp) _, ownsRow_setCell_below p3 (by simp) _, q2.symm, q3.symm, a23⟩
  rw [idL_next]
  exact ownsRow_setCell_below ho (by simp) _
theorem def2 {B : Nat} {w0 w w1 : World} {k1 k2 k3 : Nat} {v1 v2 v3 v' : Value} {c : Int} (h : DefAt B w0 w k1 k2 k3 v1 v2 v3) (hc : ((lowC k2).toNat : Int) = c) (ho : w1.ownsRow (B + 2) 5 1 v' (k2 + 1) (bys (lowL k2) ++ [.int .u8 c]))
    (hb : ∀ A0, Below (B + 2) A0 w → Below (B + 2) A0 w1) (hf : Far (B + 2) w w1 v2 v') : DefAt B w0 w1 k1 (k2 + 1) k3 v1 v' v3 := by
  obtain ⟨b, l0, l1, o1, o2, o3, a12, a13, a23⟩ := h
  have hb1 := hb w (Below.refl _ _)
  obtain ⟨p1, q1⟩ := hf _ _ _ _ o1 a12
  obtain ⟨p3, q3⟩ := hf _ _ _ _ o3 a23.symm
  refine ⟨b.trans (hb1.mono (by omega)), l0.under hb1 (by omega), l1.under hb1 (by omega), p1, ?_, p3, q1, a13, q3.symm⟩
  rw [lowL_next k2 c hc]
  exact ho
theorem def3 {B : Nat} {w0 w w1 : World} {k1 k2 k3 : Nat} {v1 v2 v3 v' : Value} {c : Int} (h : DefAt B w0 w k1 k2 k3 v1 v2 v3) (hc : ((upC k3).toNat : Int) = c) (ho : w1.ownsRow (B + 2) 5 1 v' (k3 + 1) (bys (upL k3) ++ [.int .u8 c]))
    (hb : ∀ A0, Below (B + 2) A0 w → Below (B + 2) A0 w1) (hf : Far (B + 2) w w1 v3 v') : DefAt B w0 w1 k1 k2 (k3 + 1) v1 v2 v' := by
  obtain ⟨b, l0, l1, o1, o2, o3, a12, a13, a23⟩ := h
  have hb1 := hb w (Below.refl _ _)
  obtain ⟨p1, q1⟩ := hf _ _ _ _ o1 a13
  obtain ⟨p2, q2⟩ := hf _ _ _ _ o2 a23
  refine ⟨b.trans (hb1.mono (by omega)), l0.under hb1 (by omega), l1.under hb1 (by omega), p1, p2, ?_, a12, q1, q2⟩
  rw [upL_next k3 c hc]
  exact ho
theorem def0 (w : World) : DefAt w.heap.size w ((w.alloc (.cells zeroL 26)).alloc (.cells (halfL (.slice none 0 0)) 26)) 0 0 0 (.slice none 0 0) (.slice none 0 0) (.slice none 0 0) := by
  have b1 : Below w.heap.size w (w.alloc (.cells zeroL 26)) := (Below.refl _ _).alloc (Nat.le_refl _) _
  have e1 : (w.alloc (.cells zeroL 26)).heap.size = w.heap.size + 1 := by simp
  refine ⟨b1.alloc (by simp) _, ?_, ?_, World.ownsRow_nil _ _ _ _, World.ownsRow_nil _ _ _ _, World.ownsRow_nil _ _ _ _, Apart.nil _, Apart.nil _, Apart.nil _⟩
  · unfold LAt
    rw [heap_alloc_old _ _ (by simp)]
    exact heap_alloc_new w _
  · unfold LAt
    rw [← e1]
    exact heap_alloc_new _ _
def put6 (w : World) (g : Nat) (c0 c1 c2 c3 c4 c5 : Value) : World :=
  (((((w.setCell ⟨g, 0, none⟩ c0).setCell ⟨g, 1, none⟩ c1).setCell ⟨g, 2, none⟩ c2).setCell ⟨g, 3, none⟩ c3).setCell ⟨g, 4, none⟩ c4).setCell ⟨g, 5, none⟩ c5
theorem LAt.put6 {w : World} {g : Nat} {x0 x1 x2 x3 x4 x5 : Value} (h : LAt w g #[x0, x1, x2, x3, x4, x5]) (c0 c1 c2 c3 c4 c5 : Value) : LAt (put6 w g c0 c1 c2 c3 c4 c5) g #[c0, c1, c2, c3, c4, c5] := by
  have h5 := (((((h.put 0 c0).put 1 c1).put 2 c2).put 3 c3).put 4 c4).put 5 c5
  refine Eq.trans h5 ?_
  simp
theorem below_put6 {B : Nat} {a w : World} (h : Below B a w) (g : Nat) (hB : B ≤ g) (c0 c1 c2 c3 c4 c5 : Value) : Below B a (put6 w g c0 c1 c2 c3 c4 c5) :=
  (((((h.setCell (p := ⟨g, 0, none⟩) hB _).setCell (p := ⟨g, 1, none⟩) hB _).setCell (p := ⟨g, 2, none⟩) hB _).setCell (p := ⟨g, 3, none⟩) hB _).setCell (p := ⟨g, 4, none⟩) hB _).setCell (p := ⟨g, 5, none⟩) hB _
theorem own_put6 {w : World} {B n : Nat} {t : TypeId} {v : Value} {xs : List Value} (h : w.ownsRow B t 1 v n xs) (g : Nat) (hg : g < B) (c0 c1 c2 c3 c4 c5 : Value) : (put6 w g c0 c1 c2 c3 c4 c5).ownsRow B t 1 v n xs :=
  ownsRow_setCell_below (ownsRow_setCell_below (ownsRow_setCell_below (ownsRow_setCell_below (ownsRow_setCell_below (ownsRow_setCell_below h (by exact hg) _) (by exact hg) _) (by exact hg) _) (by exact hg) _) (by exact hg) _) (by exact hg) _
theorem info_loc : (Tryz.prog.info? 26).map (·.size) = some 6 := by kernel_rfl
theorem ret_loc {fn : Func} {t0 : Tmp} (hr : fn.results = #[.cell t0 26]) (tmps : Array Value) (w : World) (g : Nat) (c : Array Value) (hs : c.size = 6) (hp : tmps.getD t0 undef = .pointer (some ⟨g, 0, none⟩)) (hA : LAt w g c) :
    (results fn tmps).run Tryz.prog w = .ok (.agg c) w :=
  results_cell_row hr tmps w g _ c (0, 0) _ hp hA Tryz.underlying26 rfl (by rw [hs]; exact info_loc)
theorem own_SL {w : World} {B g n cap : Nat} {t : TypeId} {xs : List Value} (h : w.ownsRow B t 1 (.slice (some ⟨g, 0, none⟩) n cap) n xs) (f : Nat → Nat → Value) (hf : ∀ j, j < n → xs[j]? = some (f j 0)) : SL 1 n f w (.slice (some ⟨g, 0, none⟩) n cap) := by
  have hl : g < w.heap.size := (h.lt g rfl).2
  have hcap : n ≤ cap := by
    rcases h.2 with ⟨e, _⟩ | ⟨g2, cap2, cur, e, _, _, hc, _⟩
    · cases e
    · cases e
      exact hc
  refine ⟨some ⟨g, 0, none⟩, cap, rfl, hcap, .inr ⟨g, 0, rfl, hl, fun j i hj hi => ?_⟩⟩
  obtain rfl : i = 0 := by omega
  have := h.cells rfl j _ (hf j hj)
  rw [add_at] at this
  simpa using this
theorem SL_nil (k : Nat) (f : Nat → Nat → Value) (w : World) : SL k 0 f w (.slice none 0 0) := ⟨none, 0, rfl, Nat.le_refl _, .inl rfl⟩
def Ldef : Loc := { name := psx, lower := ⟨(lowL 256).toArray⟩, upper := ⟨(upL 256).toArray⟩, nw := 256, wt := fun j => (j : Int), nc := 0, cn := fun _ => ⟨#[]⟩, cset := fun _ _ => false, ne := 0, et := fun _ => ⟨#[]⟩, ew := fun _ => 0 }
theorem lcl_def (W C E : Value) : lcl Ldef W C E = #[.string psx, W, .string ⟨(lowL 256).toArray⟩, .string ⟨(upL 256).toArray⟩, C, E] := rfl
theorem idL_at (j : Nat) (h : j < 256) : (nums (idL 256))[j]? = some (wtF Ldef j 0) := by
  unfold nums idL
  rw [List.map_map, List.getElem?_map, List.getElem?_range h]
  rfl
theorem lowL_len (k : Nat) : (lowL k).length = k := by unfold lowL; simp
theorem upL_len (k : Nat) : (upL k).length = k := by unfold upL; simp
theorem locM_def {w : World} {W : Value} (h : SL 1 256 (wtF Ldef) w W) : LocM w Ldef W (.slice none 0 0) (.slice none 0 0) := ⟨h, SL_nil _ _ _, SL_nil _ _ _⟩
end Go.Proofs.YtphiaagppcbefaaGreatDoor
set_option linter.unusedVariables false
namespace Go.Proofs.YtphiaagppcbefaaGreatDoor
open Go.RowKit
theorem bool_tf (b : Bool) : b = true ∨ b = false := by cases b <;> simp
theorem pIsNoWeight_any (n : Int) (w : World) : Calls Tryz.prog 161 #[.int .i64 n] w fun e w' => e = .returned (.bool (!(decide (0 ≤ n) && decide (n ≤ 65535)))) ∧ w = w' := by
  by_cases h1 : 0 ≤ n
  · have j1 : ¬ n < 0 := by omega
    by_cases h2 : n ≤ 65535
    · have j2 : ¬ 65535 < n := by omega
      go_enter Tryz.func161, Tryz.ntmps161
      go_wp2
      go_ret
      exact ⟨by simp <;> omega, rfl⟩
    · have j2 : 65535 < n := by omega
      go_enter Tryz.func161, Tryz.ntmps161
      go_wp2
      go_ret
      exact ⟨by simp <;> omega, rfl⟩
  · have j1 : n < 0 := by omega
    go_enter Tryz.func161, Tryz.ntmps161
    go_wp2
    go_ret
    exact ⟨by simp <;> omega, rfl⟩
def dgC (c : Nat) : Bool := decide (48 ≤ c) && decide (c ≤ 57)
def ltC (c : Nat) : Bool := (decide (97 ≤ c) && decide (c ≤ 122)) || (decide (65 ≤ c) && decide (c ≤ 90))
theorem nmC_parts (c : Nat) : nmC c = (ltC c || dgC c || (c == 95)) := rfl
theorem pIsDigit_any (c : Nat) (w : World) : Calls Tryz.prog 169 #[.int .u8 c] w fun e w' => e = .returned (.bool (dgC c)) ∧ w = w' := by
  unfold dgC
  by_cases h1 : 48 ≤ c
  · have j1 : (48 : Int) ≤ c := by omega
    by_cases h2 : c ≤ 57
    · have j2 : (c : Int) ≤ 57 := by omega
      go_enter Tryz.func169, Tryz.ntmps169
      go_wp2
      go_ret
      exact ⟨by simp <;> omega, rfl⟩
    · have j2 : ¬ (c : Int) ≤ 57 := by omega
      go_enter Tryz.func169, Tryz.ntmps169
      go_wp2
      go_ret
      exact ⟨by simp <;> omega, rfl⟩
  · have j1 : ¬ (48 : Int) ≤ c := by omega
    go_enter Tryz.func169, Tryz.ntmps169
    go_wp2
    go_ret
    exact ⟨by simp <;> omega, rfl⟩
theorem pIsLetter_any (c : Nat) (w : World) : Calls Tryz.prog 170 #[.int .u8 c] w fun e w' => e = .returned (.bool (ltC c)) ∧ w = w' := by
  unfold ltC
  have hiv : c < 65 ∨ (65 ≤ c ∧ c ≤ 90) ∨ (91 ≤ c ∧ c ≤ 96) ∨ (97 ≤ c ∧ c ≤ 122) ∨ 122 < c := by omega
  rcases hiv with hv | hv | hv | hv | hv
  · have j0 : ¬ (97 : Int) ≤ c := by omega
    have j2 : ¬ (65 : Int) ≤ c := by omega
    go_enter Tryz.func170, Tryz.ntmps170
    go_wp2
    go_ret
    exact ⟨by simp <;> omega, rfl⟩
  · have j0 : ¬ (97 : Int) ≤ c := by omega
    have j2 : (65 : Int) ≤ c := by omega
    have j3 : (c : Int) ≤ 90 := by omega
    go_enter Tryz.func170, Tryz.ntmps170
    go_wp2
    go_ret
    exact ⟨by simp <;> omega, rfl⟩
  · have j0 : ¬ (97 : Int) ≤ c := by omega
    have j2 : (65 : Int) ≤ c := by omega
    have j3 : ¬ (c : Int) ≤ 90 := by omega
    go_enter Tryz.func170, Tryz.ntmps170
    go_wp2
    go_ret
    exact ⟨by simp <;> omega, rfl⟩
  · have j0 : (97 : Int) ≤ c := by omega
    have j1 : (c : Int) ≤ 122 := by omega
    go_enter Tryz.func170, Tryz.ntmps170
    go_wp2
    go_ret
    exact ⟨by simp <;> omega, rfl⟩
  · have j0 : (97 : Int) ≤ c := by omega
    have j1 : ¬ (c : Int) ≤ 122 := by omega
    have j2 : (65 : Int) ≤ c := by omega
    have j3 : ¬ (c : Int) ≤ 90 := by omega
    go_enter Tryz.func170, Tryz.ntmps170
    go_wp2
    go_ret
    exact ⟨by simp <;> omega, rfl⟩
theorem isEmpty_yes (s : ByteArray) (h : s.size = 0) : s.toList.isEmpty = true := by
  rw [ByteArray.toList_eq]
  have h2 : s.data.toList.length = 0 := by simpa using h
  rw [List.eq_nil_of_length_eq_zero h2]
  rfl
theorem lisEmpty_no (s : ByteArray) (h : 0 < s.size) : s.toList.isEmpty = false := by
  rw [ByteArray.toList_eq]
  have h2 : s.data.toList.length = s.size := by simp
  cases hl : s.data.toList with
  | nil => rw [hl] at h2; simp at h2; omega
  | cons a r => rfl
set_option maxHeartbeats 4000000 in
theorem pIsName_any (s : ByteArray) (w : World) : Calls Tryz.prog 159 #[.string s] w fun e w' => e = .returned (.bool (nmB s)) ∧ w = w' := by
  by_cases h0 : s.size = 0
  · have e0 := isEmpty_yes s h0
    rw [nmB_empty s h0]
    go_enter Tryz.func159, Tryz.ntmps159
    go_wp2
    go_ret
    exact ⟨rfl, rfl⟩
  have hpos : 0 < s.size := by omega
  have e0 := lisEmpty_no s hpos
  obtain ⟨R, hR⟩ : ∃ R, R = nmB s := ⟨_, rfl⟩
  have hN := nmB_cons s hpos
  rw [← hR] at hN ⊢
  by_cases h32 : s.size ≤ 32
  · have i32 : ¬ (32 : Int) < s.size := by omega
    have i32' : (s.size : Int) ≤ 32 := by omega
    obtain ⟨c0, hc0⟩ : ∃ c, s[0].toNat = c := ⟨_, rfl⟩
    have hD := Lib.hid (pIsDigit_any c0)
    have hN2 : R = (!(dgC c0) && s.data.toList.all fun c => nmC c.toNat) := by
      rw [hN, decide_eq_true h32, hc0]
      unfold dgC
      simp
    clear hN hR h32
    rcases bool_tf (dgC c0) with hd | hd
    · rw [hd] at hD hN2
      simp only [Bool.not_true, Bool.false_and] at hN2
      subst hN2
      clear hd
      go_enter Tryz.func159, Tryz.ntmps159
      go_wp2_with (go_at_call 169; refine (hD.out _).mono ?_; rintro e w1 ⟨rfl, rfl⟩)
      go_ret
      exact ⟨rfl, rfl⟩
    · rw [hd] at hD hN2
      simp only [Bool.not_false, Bool.true_and] at hN2
      have HR := Lib.hid hN2
      clear hd hN2
      go_enter Tryz.func159, Tryz.ntmps159
      go_wp2_with (go_at_call 169; refine (hD.out _).mono ?_; rintro e w1 ⟨rfl, rfl⟩)
      go_loopw [18] (fun i wr => ∃ k : Nat, k ≤ s.size ∧ i = .int .i64 k ∧ Hid ((s.data.toList.take k).all (fun c => nmC c.toNat) = true) ∧ wr = w) (fun i _ => s.size - (intOf i).toNat)
      case atStart => exact ⟨0, Nat.zero_le _, rfl, rfl, rfl⟩
      case round =>
        obtain ⟨k, hk, rfl, HA, rfl⟩ := hrel
        by_cases hlt : k < s.size
        · have hi : (k : Int) < s.size := by omega
          obtain ⟨c, hc⟩ : ∃ c, s[k].toNat = c := ⟨_, rfl⟩
          have hkl : k < s.data.toList.length := by simpa using hlt
          have hlist : (s.data.toList[k]).toNat = c := hc
          have HT := Lib.hid (all_take s.data.toList k hkl HA.out)
          have HF := Lib.hid (all_not s.data.toList k hkl)
          rw [hlist, nmC_parts] at HT HF
          clear hlist hkl
          have HL := Lib.hid (pIsLetter_any c)
          have HD := Lib.hid (pIsDigit_any c)
          rcases bool_tf (ltC c) with hl | hl
          · rw [hl] at HT HF HL
            clear HF hl
            go_wp2_with (go_at_call 170; refine (HL.out _).mono ?_; rintro e w1 ⟨rfl, rfl⟩)
            go_roundw
            case rel => exact ⟨k + 1, by omega, by go_num, by show _ = _; rw [HT.out]; simp, trivial⟩
            case measure => simp [intOf]; omega
          · rw [hl] at HT HF HL
            rcases bool_tf (dgC c) with hg | hg
            · rw [hg] at HT HF HD
              clear HF hl hg
              go_wp2_with (first
                | (go_at_call 170; refine (HL.out _).mono ?_; rintro e w1 ⟨rfl, rfl⟩)
                | (go_at_call 169; refine (HD.out _).mono ?_; rintro e w1 ⟨rfl, rfl⟩))
              go_roundw
              case rel => exact ⟨k + 1, by omega, by go_num, by show _ = _; rw [HT.out]; simp, trivial⟩
              case measure => simp [intOf]; omega
            · rw [hg] at HT HF HD
              clear hl hg
              by_cases h95 : c = 95
              · have u1 : ((c : Int) != 95) = false := by rw [bne_eq_false_iff_eq]; omega
                have u2 : (c != 95) = false := by rw [bne_eq_false_iff_eq]; omega
                have HU : Hid ((c == 95) = true) := by show _ = _; rw [h95]; rfl
                clear HF h95
                go_wp2_with (first
                  | (go_at_call 170; refine (HL.out _).mono ?_; rintro e w1 ⟨rfl, rfl⟩)
                  | (go_at_call 169; refine (HD.out _).mono ?_; rintro e w1 ⟨rfl, rfl⟩))
                go_roundw
                case rel => exact ⟨k + 1, by omega, by go_num, by show _ = _; rw [HT.out, HU.out]; simp, trivial⟩
                case measure => simp [intOf]; omega
              · have u1 : ((c : Int) != 95) = true := by rw [bne_iff_ne]; omega
                have u2 : (c != 95) = true := by rw [bne_iff_ne]; omega
                have HN : Hid (R = false) := by
                  show R = false
                  rw [HR.out]
                  apply HF.out
                  have : (c == 95) = false := by rw [beq_eq_false_iff_ne]; exact h95
                  rw [this]
                  rfl
                clear h95
                go_wp2_with (first
                  | (go_at_call 170; refine (HL.out _).mono ?_; rintro e w1 ⟨rfl, rfl⟩)
                  | (go_at_call 169; refine (HD.out _).mono ?_; rintro e w1 ⟨rfl, rfl⟩))
                go_ret
                exact ⟨by rw [HN.out] <;> rfl, rfl⟩
        · obtain rfl : k = s.size := by omega
          have HN : Hid (R = true) := by
            show R = true
            rw [HR.out, ← HA.out, List.take_of_length_le (by simp)]
          go_wp2
          go_ret
          exact ⟨by rw [HN.out] <;> rfl, rfl⟩
  · have i32 : (32 : Int) < s.size := by omega
    have hRf : R = false := by rw [hN]; simp [h32]
    subst hRf
    clear hN hR
    go_enter Tryz.func159, Tryz.ntmps159
    go_wp2
    go_ret
    exact ⟨rfl, rfl⟩
end Go.Proofs.YtphiaagppcbefaaGreatDoor
set_option linter.unusedVariables false
namespace Go.Proofs.YtphiaagppcbefaaGreatDoor
open Go.RowKit
def first (p : Nat → Bool) (n : Nat) : Int := match (List.range n).find? p with
  | some k => (k : Int)
  | none => -1
theorem first_at (p : Nat → Bool) (n k : Nat) (hk : k < n) (h : p k = true) (hb : ∀ q, q < k → p q = false) : first p n = (k : Int) := by
  have e : (List.range n).find? p = some k := by
    rw [List.find?_range_eq_some]
    exact ⟨h, by simpa using hk, fun j hj => by simp [hb j hj]⟩
  unfold first
  rw [e]
theorem first_none (p : Nat → Bool) (n : Nat) (hb : ∀ q, q < n → p q = false) : first p n = -1 := by
  have e : (List.range n).find? p = none := by
    rw [List.find?_eq_none]
    intro x hx
    simp [hb x (by simpa using hx)]
  unfold first
  rw [e]
theorem first_any (p : Nat → Bool) (n : Nat) : decide (0 ≤ first p n) = (List.range n).any p := by
  unfold first
  cases h : (List.range n).find? p with
  | none =>
    have h2 := List.find?_eq_none.1 h
    have : (List.range n).any p = false := by
      rw [List.any_eq_false]
      exact h2
    rw [this]
    rfl
  | some k =>
    have h1 := List.find?_some h
    have h2 := List.mem_of_find?_eq_some h
    have : (List.range n).any p = true := List.any_eq_true.2 ⟨k, h2, h1⟩
    rw [this]
    simp
def heavyN (x : Int) : Bool := !(decide (0 ≤ x) && decide (x ≤ 65535))
set_option maxRecDepth 100000 in
set_option maxHeartbeats 4000000 in
theorem ixNum_any (n : Nat) (x : Nat → Int) (sv : Value) (w : World) (hS : SL 1 n (fun j _ => .int .i64 (x j)) w sv) (hn : n ≤ 256) :
    Calls Tryz.prog 171 #[sv, .func (.func 161) #[] #[]] w fun e w' => e = .returned (.int .i64 (first (fun j => heavyN (x j)) n)) ∧ w = w' := by
  obtain ⟨R, hR⟩ : ∃ R, first (fun j => heavyN (x j)) n = R := ⟨_, rfl⟩
  rw [hR]
  have HR := Lib.hid hR
  clear hR
  obtain ⟨a, cap, rfl, hcap, hcells⟩ := hS
  have i256 : (n : Int) ≤ 256 := by omega
  rcases hcells with h0 | ⟨b, off, rfl, hlt, hcells⟩
  · subst h0
    have HN : Hid (R = -1) := HR.out.symm.trans (first_none _ _ fun q hq => by omega)
    go_enter Tryz.func171, Tryz.ntmps171
    go_wp2
    go_loopw [8] (fun i wr => i = .int .i64 0 ∧ wr = w) (fun _ _ => 0)
    case atStart => exact ⟨rfl, rfl⟩
    case round =>
      obtain ⟨rfl, rfl⟩ := hrel
      go_wp2
      go_ret
      exact ⟨by rw [HN.out] <;> rfl, rfl⟩
  · have HC := Lib.hid hcells
    clear hcells
    go_enter Tryz.func171, Tryz.ntmps171
    go_wp2
    go_loopw [8] (fun i wr => ∃ k : Nat, k ≤ n ∧ i = .int .i64 k ∧ Hid (∀ q, q < k → heavyN (x q) = false) ∧ wr = w) (fun i _ => n - (intOf i).toNat)
    case atStart => exact ⟨0, Nat.zero_le _, rfl, fun q hq => by omega, rfl⟩
    case round =>
      obtain ⟨k, hk, rfl, HQ, rfl⟩ := hrel
      by_cases hkn : k < n
      · have ki : (k : Int) < n := by omega
        have ki0 : (0 : Int) ≤ k := by omega
        have ck : wr.cell? ⟨b, off + k, none⟩ = some (.int .i64 (x k)) := by
          have := HC.out k 0 hkn (by decide)
          simpa using this
        have HP := Lib.hid (pIsNoWeight_any (x k))
        obtain ⟨X, hX⟩ : ∃ X, x k = X := ⟨_, rfl⟩
        obtain ⟨B, hB⟩ : ∃ B, (!(decide (0 ≤ x k) && decide (x k ≤ 65535))) = B := ⟨_, rfl⟩
        rw [hB] at HP
        have HB : Hid (heavyN (x k) = B) := hB
        clear hB hX
        rcases bool_tf B with hb | hb
        · subst hb
          have HN : Hid (R = (k : Int)) := HR.out.symm.trans (first_at _ n k hkn HB.out HQ.out)
          go_wp2_with (go_at_call 161; refine (HP.out _).mono ?_; rintro e w1 ⟨rfl, rfl⟩)
          go_ret
          exact ⟨by rw [HN.out] <;> rfl, rfl⟩
        · subst hb
          go_wp2_with (go_at_call 161; refine (HP.out _).mono ?_; rintro e w1 ⟨rfl, rfl⟩)
          go_roundw
          case rel =>
            refine ⟨k + 1, by omega, by go_num, fun q hq => ?_, trivial⟩
            by_cases e : q = k
            · subst e; exact HB.out
            · exact HQ.out q (by omega)
          case measure => simp [intOf]; omega
      · obtain rfl : k = n := by omega
        have HN : Hid (R = -1) := HR.out.symm.trans (first_none _ _ HQ.out)
        go_wp2
        go_ret
        exact ⟨by rw [HN.out] <;> rfl, rfl⟩
theorem conNum_any (n : Nat) (x : Nat → Int) (sv : Value) (w : World) (hS : SL 1 n (fun j _ => .int .i64 (x j)) w sv) (hn : n ≤ 256) :
    Calls Tryz.prog 160 #[sv, .func (.func 161) #[] #[]] w fun e w' => e = .returned (.bool ((List.range n).any fun j => heavyN (x j))) ∧ w = w' := by
  have HI := Lib.hid (ixNum_any n x sv w hS hn)
  have HA := Lib.hid (first_any (fun j => heavyN (x j)) n)
  generalize first (fun j => heavyN (x j)) n = I at HI HA
  go_enter Tryz.func160, Tryz.ntmps160
  go_wp2_with (go_at_call 171; refine HI.out.mono ?_; rintro e w1 ⟨rfl, rfl⟩)
  go_ret
  exact ⟨by rw [← HA.out] <;> rfl, rfl⟩
end Go.Proofs.YtphiaagppcbefaaGreatDoor
