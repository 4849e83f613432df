/- RpSh, RpShf, CsOf, CsRef. -/
import Derived.Test.YtbjobbkipmkndaaDoorPj24
import Derived.Test.YtbjobbkipmkndaaDoorPj21
import Derived.BigGuardPart
import Derived.Test.YtbjobbkipmkndaaDoorRows
import Derived.Test.YtbjobbkipmkndaaDoorPj9
import Derived.StillTailTactics
set_option linter.unusedVariables false
set_option linter.unusedSimpArgs false
namespace Go.Proofs.YtbjobbkipmkndaaDoor
open Go.RowKit
def shI (d : Int) (i : IN) : IN := if i.op = 2 then ⟨2, i.st, i.x + d, i.y + d⟩ else if i.op = 3 then ⟨3, i.st, i.x + d, i.y⟩ else i
def Sh (c : Cd) : Prop := ∀ (b d : Nat), c (b + d) = (c b).map (shI (d : Int))
theorem shI_sp (x y d : Nat) : shI (d : Int) (sp (x : Int) (y : Int)) = sp ((x + d : Nat) : Int) ((y + d : Nat) : Int) := by
  unfold shI sp
  rw [if_pos rfl]
  simp
theorem shI_jm (x d : Nat) : shI (d : Int) (jm (x : Int)) = jm ((x + d : Nat) : Int) := by
  unfold shI jm
  rw [if_neg (show ¬ (3 : Int) = 2 by decide), if_pos rfl]
  simp
theorem Sh.len {c : Cd} (h : Sh c) (b d : Nat) : (c (b + d)).length = (c b).length := by rw [h b d, List.length_map]
theorem Sh.len0 {c : Cd} (h : Sh c) (b : Nat) : (c b).length = (c 0).length := by have := h.len 0 b; rwa [Nat.zero_add] at this
theorem Sh.nil : Sh nilC := fun _ _ => rfl
theorem Sh.cat : ∀ {cs : List Cd}, (∀ c, c ∈ cs → Sh c) → Sh (catC cs)
  | [], _, _, _ => rfl
  | c :: r, h, b, d => by
    have hc := h c (List.mem_cons_self ..)
    have ih := Sh.cat (fun e he => h e (List.mem_cons_of_mem _ he))
    show c (b + d) ++ catC r (b + d + (c (b + d)).length) = (c b ++ catC r (b + (c b).length)).map _
    rw [List.map_append, hc.len b d, ← hc b d, show b + d + (c b).length = (b + (c b).length) + d by omega, ih]
theorem Sh.jumps (e : Nat) : ∀ {cs : List Cd}, (∀ c, c ∈ cs → Sh c) → ∀ (b d : Nat), altP ((e + d : Nat) : Int) cs (b + d) = (altP (e : Int) cs b).map (shI (d : Int))
  | [], _, _, _ => rfl
  | c :: r, h, b, d => by
    have hc := h c (List.mem_cons_self ..)
    have ih := Sh.jumps e (fun e he => h e (List.mem_cons_of_mem _ he))
    have e1 : (c (b + d + 1)).length = (c (b + 1)).length := by rw [show b + d + 1 = (b + 1) + d by omega, hc.len]
    show sp ((b + d + 1 : Nat) : Int) ((b + d + (c (b + d + 1)).length + 2 : Nat) : Int) :: (c (b + d + 1) ++ jm ((e + d : Nat) : Int) :: altP ((e + d : Nat) : Int) r (b + d + (c (b + d + 1)).length + 2)) = (sp ((b + 1 : Nat) : Int) ((b + (c (b + 1)).length + 2 : Nat) : Int) :: (c (b + 1) ++ jm (e : Int) :: altP (e : Int) r (b + (c (b + 1)).length + 2))).map _
    rw [List.map_cons, List.map_append, List.map_cons, shI_sp, shI_jm, e1, show b + d + 1 = (b + 1) + d by omega, hc (b + 1) d, show b + d + (c (b + 1)).length + 2 = (b + (c (b + 1)).length + 2) + d by omega, ih]
theorem Sh.alt {ini : List Cd} {c : Cd} (h : ∀ d, d ∈ ini → Sh d) (hc : Sh c) : Sh (altE ini c) := by
  intro b d
  unfold altE
  have hl : ∀ (e : Int) (b d : Nat), (altP e ini (b + d)).length = (altP 0 ini b).length := fun e b d => by
    rw [altP_len e ((0 + d : Nat) : Int), Sh.jumps 0 h b d, List.length_map]
    rfl
  rw [hl 0 b d, show b + d + (altP 0 ini b).length = (b + (altP 0 ini b).length) + d by omega, hc (b + (altP 0 ini b).length) d, List.length_map, show b + (altP 0 ini b).length + d + (c (b + (altP 0 ini b).length)).length = (b + (altP 0 ini b).length + (c (b + (altP 0 ini b).length)).length) + d by omega, Sh.jumps _ h b d, List.map_append]
theorem Sh.rep {c : Cd} (l h : Int) (hc : Sh c) : Sh (repC l h c) := by
  intro b d
  have e1 : (c (b + d + 1)).length = (c (b + 1)).length := by rw [show b + d + 1 = (b + 1) + d by omega, hc.len]
  unfold repC
  split
  · rw [hc b d, List.map_append, List.length_map, show b + d + (c b).length + 1 = (b + (c b).length + 1) + d by omega]
    show _ ++ [sp ((b + d : Nat) : Int) _] = _ ++ [shI _ (sp (b : Int) _)]
    rw [shI_sp]
  · split
    · rw [List.map_cons, List.map_append, shI_sp, e1, show b + d + 1 = (b + 1) + d by omega, hc (b + 1) d, show b + d + (c (b + 1)).length + 2 = (b + (c (b + 1)).length + 2) + d by omega]
      show _ :: (_ ++ [jm ((b + d : Nat) : Int)]) = _ :: (_ ++ [shI _ (jm (b : Int))])
      rw [shI_jm]
    · rw [List.map_cons, shI_sp, e1, show b + d + 1 = (b + 1) + d by omega, hc (b + 1) d, show b + d + (c (b + 1)).length + 1 = (b + (c (b + 1)).length + 1) + d by omega]
theorem shI_o (d : Int) (o : Int) (st : Nat → Bool) (h : o = 1 ∨ o = 4 ∨ o = 5) : shI d ⟨o, st, 0, 0⟩ = ⟨o, st, 0, 0⟩ := by
  unfold shI
  rw [if_neg (show ¬ o = 2 by omega), if_neg (show ¬ o = 3 by omega)]
theorem Sh_all : ∀ (f : F) (c : Cd), c ∈ cods f → Sh c
  | .nil, _, h => by cases h
  | .cons o s l h g a r, c, hc => by
    rcases List.mem_cons.1 hc with rfl | hc
    · have ha := Sh_all a
      intro b d
      unfold codN
      split
      · simp [shI_o]
      split
      · simp [shI_o]
      split
      · simp [shI_o]
      split
      · exact Sh.cat ha b d
      split
      · refine Sh.alt (fun e he => ha e (List.dropLast_subset _ he)) ?_ b d
        cases hx : cods a with
        | nil => exact Sh.nil
        | cons x xs =>
          refine ha _ ?_
          rw [hx, List.getLastD_cons]
          exact List.getLastD_mem_cons ..
      split
      · refine Sh.rep l h ?_ b d
        cases hx : cods a with
        | nil => exact Sh.nil
        | cons x xs => exact ha x (by rw [hx]; exact List.mem_cons_self ..)
      · rfl
    · exact Sh_all r c hc
theorem Sh_codT (t : TN) : Sh (codT t) := Sh_all (.cons t.op t.st t.lo t.hi t.g t.args .nil) _ (List.mem_cons_self ..)
def two2 (x y : TN) : F := .cons x.op x.st x.lo x.hi x.g x.args (.cons y.op y.st y.lo y.hi y.g y.args .nil)
def one2 (x : TN) : F := .cons x.op x.st x.lo x.hi x.g x.args .nil
def catN (x y : TN) : TN := ⟨3, noSet, 0, 0, 0, two2 x y⟩
def optN (x : TN) : TN := ⟨5, noSet, 0, 1, 0, one2 x⟩
theorem cods_two (x y : TN) : cods (expF (two2 x y)) = [codT (expT x), codT (expT y)] := by
  unfold two2
  rw [cods_expF_cons, cods_expF_cons, ← codT_expT, ← codT_expT]
  rfl
theorem cods_one (x : TN) : cods (expF (one2 x)) = [codT (expT x)] := by
  unfold one2
  rw [cods_expF_cons, ← codT_expT]
  rfl
theorem mtI (d : Int) : shI d ⟨6, noSet, 0, 0⟩ = ⟨6, noSet, 0, 0⟩ := by
  unfold shI
  rw [if_neg (by decide), if_neg (by decide)]
theorem prg_len (t : TN) : (prgT t).length = (codT t 0).length + 1 := by unfold prgT; rw [List.length_append]; rfl
theorem prg_cat (x y : TN) : prgT (expT (catN x y)) = (prgT (expT x)).take ((prgT (expT x)).length - 1) ++ (prgT (expT y)).map (shI (((prgT (expT x)).length - 1 : Nat) : Int)) := by
  have hc : codT (expT (catN x y)) = catC [codT (expT x), codT (expT y)] := by
    rw [codT_expT]
    show xcN 3 noSet 0 0 (cods (expF (two2 x y))) = _
    rw [cods_two]
    funext b
    unfold xcN
    rw [if_neg (by decide)]
    unfold codN
    rw [if_neg (by decide), if_neg (by decide), if_neg (by decide), if_pos (by decide)]
  have hs := Sh_codT (expT y) 0 (codT (expT x) 0).length
  rw [Nat.zero_add] at hs
  rw [prg_len, Nat.add_sub_cancel]
  unfold prgT
  rw [hc, List.map_append, List.take_left']
  · simp only [catC, List.append_nil, Nat.zero_add, hs, List.append_assoc, List.map_cons, List.map_nil, mtI]
  · rfl
theorem prg_opt (x : TN) : prgT (expT (optN x)) = sp 1 ((prgT (expT x)).length : Int) :: (prgT (expT x)).map (shI 1) := by
  have hc : codT (expT (optN x)) = catC [repC 0 1 (codT (expT x))] := by
    rw [codT_expT]
    show xcN 5 noSet 0 1 (cods (expF (one2 x))) = _
    rw [cods_one]
    rfl
  have hs := Sh_codT (expT x) 0 1
  rw [prg_len]
  unfold prgT
  rw [hc, catC_one, List.map_append]
  unfold repC
  rw [if_neg (by decide), if_neg (by decide)]
  have e : codT (expT x) (0 + 1) = (codT (expT x) 0).map (shI 1) := by simpa using hs
  rw [e, List.length_map]
  simp [mtI]
end Go.Proofs.YtbjobbkipmkndaaDoor
set_option linter.unusedVariables false
set_option linter.unusedSimpArgs false
set_option maxRecDepth 100000
set_option maxHeartbeats 8000000
namespace Go.Proofs.YtbjobbkipmkndaaDoor
open Go.RowKit
structure Bd (i : IN) : Prop where
  two : i.op = 2 → (0 ≤ i.x ∧ i.x ≤ 4096) ∧ 0 ≤ i.y ∧ i.y ≤ 4096
  one : i.op = 3 → 0 ≤ i.x ∧ i.x ≤ 4096
theorem rowsI_map_snoc (d : Int) (L : List IN) (k : Nat) (hk : k < L.length) : rowsI ((L.take (k + 1)).map (shI d)) = rowsI ((L.take k).map (shI d)) ++ rowI (shI d L[k]) := by
  rw [List.take_succ_eq_append_getElem hk, List.map_append]
  exact rowsI_snoc _ _
theorem shifted_any (L : List IN) (v : Value) (n0 : Nat) (d : Int) (hd : 0 ≤ d ∧ d ≤ 4096) (w : World) (h : PI w n0 L v) (hL : L.length ≤ 4096) (hbd : ∀ i ∈ L, Bd i) : Calls Tryd.prog 17 #[v, .int .i64 d] w fun e w' => ∃ v', e = .returned v' ∧ w'.ownsRow w.heap.size 39 7 v' L.length (rowsI (L.map (shI d))) ∧ Below w.heap.size w w' := by
  obtain ⟨ad, cap, rfl, hcap, hcells⟩ := h
  have HC := Lib.hid hcells
  have HBd := Lib.hid hbd
  have hLI : (L.length : Int) ≤ 4096 := by omega
  obtain ⟨hd0, hd1⟩ := hd
  clear hcells hbd hcap
  go_enter Tryd.func17, Tryd.ntmps17
  go_wp2_with fail
  have HO0 : Hid (w.ownsRow w.heap.size 39 7 (.slice none 0 0) 0 (rowsI ((L.take 0).map (shI d)))) := Lib.hid (World.ownsRow_nil _ _ _ _)
  go_loopw [5, 6] (fun ov j wr => ∃ (k : Nat) (x : Value), x = ov ∧ k ≤ L.length ∧ j = .int .i64 k ∧ Hid (wr.ownsRow w.heap.size 39 7 x k (rowsI ((L.take k).map (shI d)))) ∧ Hid (Below w.heap.size w wr)) (fun _ j _ => L.length - (intOf j).toNat)
  case atStart => exact ⟨0, _, rfl, Nat.zero_le _, rfl, HO0, Lib.hid (Below.refl _ _)⟩
  case round =>
    obtain ⟨k, x, rfl, hk, rfl, HO, HB⟩ := hrel
    by_cases hkn : k < L.length
    · have ki : (k : Int) < L.length := by omega
      have ki0 : (0 : Int) ≤ k := by omega
      obtain ⟨b, i0, rfl, hbl, hce⟩ : ∃ b i, ad = some ⟨b, i, none⟩ ∧ b < w.heap.size ∧ ∀ (k : Nat) (hk : k < L.length) (j : Nat), j < 7 → w.cell? ⟨b, i + k * 7 + j, none⟩ = (rowI (L[k]'hk))[j]? := by
        rcases HC.out with h1 | ⟨b, i, e1, _, e2, e3⟩
        · omega
        · exact ⟨b, i, e1, e2, e3⟩
      have hc : ∀ j u, (rowI L[k])[j]? = some u → j < 7 → wr.cell? ⟨b, i0 + k * 7 + j, none⟩ = some u := fun j u hu hj => by
        rw [HB.out.cell (p := ⟨b, i0 + k * 7 + j, none⟩) hbl, hce k hkn j hj, hu]
      have hbi := HBd.out L[k] (List.getElem_mem hkn)
      have HSn := Lib.hid (rowsI_map_snoc d L k hkn)
      obtain ⟨i, hi⟩ : ∃ i, i = L[k] := ⟨_, rfl⟩
      rw [← hi] at hc hbi HSn
      obtain ⟨o, st, ix, iy⟩ := i
      have c0 := hc 0 _ rfl (by decide)
      have c1 := hc 1 _ rfl (by decide)
      have c2 := hc 2 _ rfl (by decide)
      have c3 := hc 3 _ rfl (by decide)
      have c4 := hc 4 _ rfl (by decide)
      have c5 := hc 5 _ rfl (by decide)
      have c6 := hc 6 _ rfl (by decide)
      rw [Nat.add_zero] at c0
      have hlb : b < wr.heap.size := Nat.lt_of_lt_of_le hbl HB.out.size
      have HBi := Lib.hid hbi
      clear hc hi hbl hce hbi
      by_cases h2 : o = 2
      · subst h2
        obtain ⟨⟨x0, x1⟩, y0, y1⟩ := HBi.out.two rfl
        dsimp only at x0 x1 y0 y1
        have hJ : Hid (shI d ⟨2, st, ix, iy⟩ = ⟨2, st, ix + d, iy + d⟩) := Lib.hid (by rfl)
        have hy0 := (Below.refl wr.heap.size wr).alloc (Nat.le_refl _) (.cells #[.int .i64 2, .int .u64 (wd st 0 64 : Nat), .int .u64 (wd st 64 64 : Nat), .int .u64 (wd st 128 64 : Nat), .int .u64 (wd st 192 64 : Nat), .int .i64 (ix + d), .int .i64 (iy + d)] 39)
        have hro := heap_alloc_new wr (.cells #[.int .i64 2, .int .u64 (wd st 0 64 : Nat), .int .u64 (wd st 64 64 : Nat), .int .u64 (wd st 128 64 : Nat), .int .u64 (wd st 192 64 : Nat), .int .i64 (ix + d), .int .i64 (iy + d)] 39)
        have hsy : w.heap.size ≤ (wr.alloc (.cells #[.int .i64 2, .int .u64 (wd st 0 64 : Nat), .int .u64 (wd st 64 64 : Nat), .int .u64 (wd st 128 64 : Nat), .int .u64 (wd st 192 64 : Nat), .int .i64 (ix + d), .int .i64 (iy + d)] 39)).heap.size := by have := HB.out.size; simp; omega
        go_upto_region 10 with fail
        generalize wr.alloc (.cells #[.int .i64 2, .int .u64 (wd st 0 64 : Nat), .int .u64 (wd st 64 64 : Nat), .int .u64 (wd st 128 64 : Nat), .int .u64 (wd st 192 64 : Nat), .int .i64 (ix + d), .int .i64 (iy + d)] 39) = Wy at *
        have HOy := Lib.hid (own_below HO.out hy0)
        have HBy := Lib.hid (HB.out.trans (hy0.mono HB.out.size))
        obtain ⟨⟨a0, a1, a2⟩, ⟨a3, a4⟩, a5, a6⟩ := seven hro
        have hly : wr.heap.size < Wy.heap.size := (Array.getElem?_eq_some_iff.1 hro).1
        clear c0 c1 c2 c3 c4 c5 c6 hro hy0
        go_wp2_with (at_builtin; refine app1 w.heap.size 22 39 (.agg #[.int .i64 0, .int .u64 0, .int .u64 0, .int .u64 0, .int .u64 0, .int .i64 0, .int .i64 0]) 7 56 Tryd.underlying22 infoI rfl (by decide) Wy rfl (.tmp 39) (.tmp 41) rfl hsy x k _ (rowI ⟨2, st, ix + d, iy + d⟩) rfl rfl HOy.out _ rfl rfl rfl ?d1 ?d2 ?d3 ?_)
        case d1 => simp [rowI, Value.oneCell']
        case d2 => unfold maxLen; omega
        case d3 => omega
        intro g cp w8 hown8 hkp hg8
        have HW8 : Hid (w8.ownsRow w.heap.size 39 7 (.slice (some ⟨g, 0, none⟩) (k + 1) cp) (k + 1) (rowsI ((L.take (k + 1)).map (shI d)))) := Lib.hid (by rw [HSn.out, hJ.out, List.map_take]; exact hown8)
        have HB8 : Hid (Below w.heap.size w w8) := Lib.hid (HBy.out.trans (hkp.below hsy (fun b e => (own_at HOy.out b e).1)))
        clear hown8 hkp hg8
        go_wp2_with fail
        go_roundw
        case rel => exact ⟨k + 1, _, rfl, by omega, by go_num, HW8, HB8⟩
        case measure => simp [intOf]; omega
      by_cases h3 : o = 3
      · subst h3
        obtain ⟨x0, x1⟩ := HBi.out.one rfl
        dsimp only at x0 x1
        have hJ : Hid (shI d ⟨3, st, ix, iy⟩ = ⟨3, st, ix + d, iy⟩) := Lib.hid (by rfl)
        have hy0 := (Below.refl wr.heap.size wr).alloc (Nat.le_refl _) (.cells #[.int .i64 3, .int .u64 (wd st 0 64 : Nat), .int .u64 (wd st 64 64 : Nat), .int .u64 (wd st 128 64 : Nat), .int .u64 (wd st 192 64 : Nat), .int .i64 (ix + d), .int .i64 iy] 39)
        have hro := heap_alloc_new wr (.cells #[.int .i64 3, .int .u64 (wd st 0 64 : Nat), .int .u64 (wd st 64 64 : Nat), .int .u64 (wd st 128 64 : Nat), .int .u64 (wd st 192 64 : Nat), .int .i64 (ix + d), .int .i64 iy] 39)
        have hsy : w.heap.size ≤ (wr.alloc (.cells #[.int .i64 3, .int .u64 (wd st 0 64 : Nat), .int .u64 (wd st 64 64 : Nat), .int .u64 (wd st 128 64 : Nat), .int .u64 (wd st 192 64 : Nat), .int .i64 (ix + d), .int .i64 iy] 39)).heap.size := by have := HB.out.size; simp; omega
        go_upto_region 10 with fail
        generalize wr.alloc (.cells #[.int .i64 3, .int .u64 (wd st 0 64 : Nat), .int .u64 (wd st 64 64 : Nat), .int .u64 (wd st 128 64 : Nat), .int .u64 (wd st 192 64 : Nat), .int .i64 (ix + d), .int .i64 iy] 39) = Wy at *
        have HOy := Lib.hid (own_below HO.out hy0)
        have HBy := Lib.hid (HB.out.trans (hy0.mono HB.out.size))
        obtain ⟨⟨a0, a1, a2⟩, ⟨a3, a4⟩, a5, a6⟩ := seven hro
        have hly : wr.heap.size < Wy.heap.size := (Array.getElem?_eq_some_iff.1 hro).1
        clear c0 c1 c2 c3 c4 c5 c6 hro hy0
        go_wp2_with (at_builtin; refine app1 w.heap.size 22 39 (.agg #[.int .i64 0, .int .u64 0, .int .u64 0, .int .u64 0, .int .u64 0, .int .i64 0, .int .i64 0]) 7 56 Tryd.underlying22 infoI rfl (by decide) Wy rfl (.tmp 39) (.tmp 41) rfl hsy x k _ (rowI ⟨3, st, ix + d, iy⟩) rfl rfl HOy.out _ rfl rfl rfl ?d1 ?d2 ?d3 ?_)
        case d1 => simp [rowI, Value.oneCell']
        case d2 => unfold maxLen; omega
        case d3 => omega
        intro g cp w8 hown8 hkp hg8
        have HW8 : Hid (w8.ownsRow w.heap.size 39 7 (.slice (some ⟨g, 0, none⟩) (k + 1) cp) (k + 1) (rowsI ((L.take (k + 1)).map (shI d)))) := Lib.hid (by rw [HSn.out, hJ.out, List.map_take]; exact hown8)
        have HB8 : Hid (Below w.heap.size w w8) := Lib.hid (HBy.out.trans (hkp.below hsy (fun b e => (own_at HOy.out b e).1)))
        clear hown8 hkp hg8
        go_wp2_with fail
        go_roundw
        case rel => exact ⟨k + 1, _, rfl, by omega, by go_num, HW8, HB8⟩
        case measure => simp [intOf]; omega
      · have o2 : (o == 2) = false := by simpa using h2
        have o3 : (o == 3) = false := by simpa using h3
        have hJ : Hid (shI d ⟨o, st, ix, iy⟩ = ⟨o, st, ix, iy⟩) := Lib.hid (by unfold shI; rw [if_neg h2, if_neg h3])
        have hy0 := (Below.refl wr.heap.size wr).alloc (Nat.le_refl _) (.cells #[.int .i64 o, .int .u64 (wd st 0 64 : Nat), .int .u64 (wd st 64 64 : Nat), .int .u64 (wd st 128 64 : Nat), .int .u64 (wd st 192 64 : Nat), .int .i64 ix, .int .i64 iy] 39)
        have hro := heap_alloc_new wr (.cells #[.int .i64 o, .int .u64 (wd st 0 64 : Nat), .int .u64 (wd st 64 64 : Nat), .int .u64 (wd st 128 64 : Nat), .int .u64 (wd st 192 64 : Nat), .int .i64 ix, .int .i64 iy] 39)
        have hsy : w.heap.size ≤ (wr.alloc (.cells #[.int .i64 o, .int .u64 (wd st 0 64 : Nat), .int .u64 (wd st 64 64 : Nat), .int .u64 (wd st 128 64 : Nat), .int .u64 (wd st 192 64 : Nat), .int .i64 ix, .int .i64 iy] 39)).heap.size := by have := HB.out.size; simp; omega
        go_upto_region 10 with fail
        generalize wr.alloc (.cells #[.int .i64 o, .int .u64 (wd st 0 64 : Nat), .int .u64 (wd st 64 64 : Nat), .int .u64 (wd st 128 64 : Nat), .int .u64 (wd st 192 64 : Nat), .int .i64 ix, .int .i64 iy] 39) = Wy at *
        have HOy := Lib.hid (own_below HO.out hy0)
        have HBy := Lib.hid (HB.out.trans (hy0.mono HB.out.size))
        obtain ⟨⟨a0, a1, a2⟩, ⟨a3, a4⟩, a5, a6⟩ := seven hro
        have hly : wr.heap.size < Wy.heap.size := (Array.getElem?_eq_some_iff.1 hro).1
        clear c0 c1 c2 c3 c4 c5 c6 hro hy0
        go_wp2_with (at_builtin; refine app1 w.heap.size 22 39 (.agg #[.int .i64 0, .int .u64 0, .int .u64 0, .int .u64 0, .int .u64 0, .int .i64 0, .int .i64 0]) 7 56 Tryd.underlying22 infoI rfl (by decide) Wy rfl (.tmp 39) (.tmp 41) rfl hsy x k _ (rowI ⟨o, st, ix, iy⟩) rfl rfl HOy.out _ rfl rfl rfl ?d1 ?d2 ?d3 ?_)
        case d1 => simp [rowI, Value.oneCell']
        case d2 => unfold maxLen; omega
        case d3 => omega
        intro g cp w8 hown8 hkp hg8
        have HW8 : Hid (w8.ownsRow w.heap.size 39 7 (.slice (some ⟨g, 0, none⟩) (k + 1) cp) (k + 1) (rowsI ((L.take (k + 1)).map (shI d)))) := Lib.hid (by rw [HSn.out, hJ.out, List.map_take]; exact hown8)
        have HB8 : Hid (Below w.heap.size w w8) := Lib.hid (HBy.out.trans (hkp.below hsy (fun b e => (own_at HOy.out b e).1)))
        clear hown8 hkp hg8
        go_wp2_with fail
        go_roundw
        case rel => exact ⟨k + 1, _, rfl, by omega, by go_num, HW8, HB8⟩
        case measure => simp [intOf]; omega
    · obtain rfl : k = L.length := by omega
      have hend := HO.out
      rw [List.take_length] at hend
      have HEnd := Lib.hid hend
      clear hend
      go_wp2_with fail
      go_ret
      exact ⟨_, rfl, HEnd.out, HB.out⟩
end Go.Proofs.YtbjobbkipmkndaaDoor
set_option linter.unusedVariables false
namespace Go.Proofs.YtbjobbkipmkndaaDoor
open Go.RowKit
def setOf (l : List UInt8) : Nat → Bool := fun c => l.any fun b => c == b.toNat
theorem setOf_next (l : List UInt8) (k : Nat) (h : k < l.length) : setOf (l.take (k + 1)) = ins (setOf (l.take k)) (l[k]).toNat := by
  funext c
  unfold setOf ins
  rw [List.take_add_one, List.getElem?_eq_getElem h, List.any_append]
  simp
def V2 (w : World) : World := (w.alloc (.cells #[.int .u64 0, .int .u64 0, .int .u64 0, .int .u64 0] 31)).alloc (.cells #[.int .u64 0, .int .u64 0, .int .u64 0, .int .u64 0] 31)
theorem V2_below (w : World) : Below w.heap.size w (V2 w) := ((Below.refl _ _).alloc (Nat.le_refl _) _).alloc (by simp) _
theorem V2_at (w : World) : At (V2 w) w.heap.size (fun _ => false) ∧ At (V2 w) (w.heap.size + 1) (fun _ => false) := by
  unfold V2
  rw [cl_zero]
  refine ⟨(At.new w _).alloc _, ?_⟩
  have := At.new (w.alloc (.cells (cl fun _ => false) 31)) (fun _ => false)
  simpa using this
end Go.Proofs.YtbjobbkipmkndaaDoor
set_option linter.unusedVariables false
namespace Go.Proofs.YtbjobbkipmkndaaDoor
open Go.RowKit
set_option maxHeartbeats 4000000 in
theorem rof_any (s : ByteArray) (hs : s.size ≤ 300) (w : World) : Calls Tryd.prog 36 #[.string s] w fun e w' => e = .returned (cs (setOf s.data.toList)) ∧ Below w.heap.size w w' := by
  have HV := Lib.hid (V2_at w)
  have HB := Lib.hid (V2_below w)
  unfold cs cl
  have hS : (s.size : Int) ≤ 300 := by omega
  go_enter Tryd.func36, Tryd.ntmps36
  go_wp2
  go_loopw [4] (fun i wr => ∃ k : Nat, k ≤ s.size ∧ i = .int .i64 k ∧ Hid (Below w.heap.size w wr ∧ At wr w.heap.size (fun _ => false) ∧ At wr (w.heap.size + 1) (setOf (s.data.toList.take k)))) (fun i _ => s.size - (intOf i).toNat)
  case atStart => exact ⟨0, Nat.zero_le _, rfl, HB.out, HV.out.1, HV.out.2⟩
  case round =>
    obtain ⟨k, hk, rfl, HR⟩ := hrel
    by_cases hlt : k < s.size
    · have hi : (k : Int) < s.size := by omega
      obtain ⟨c, hsc⟩ : ∃ c, s[k].toNat = c := ⟨_, rfl⟩
      have hc : c < 256 := by rw [← hsc]; exact s[k].toNat_lt
      have HN0 := setOf_next s.data.toList k (by simpa using hlt)
      have e : (s.data.toList[k]'(by simpa using hlt)).toNat = c := hsc
      rw [e] at HN0
      have Hw := Lib.hid (with_any (setOf (s.data.toList.take k)) c hc)
      rw [← HN0] at Hw
      clear HN0 e
      unfold cs cl at Hw
      obtain ⟨b0, a3, a4⟩ := HR.out
      obtain ⟨⟨c0, c1⟩, ⟨c2, c3⟩, hf⟩ := a4.words
      clear b0 a3 a4
      go_wp2
      go_region_with ((go_at_call 46; refine (Hw.out _).mono ?_; rintro e w1 ⟨rfl, hb⟩; have a4 := HR.out.2.2.drew.below hb HR.out.2.2.lt; obtain ⟨⟨d0, d1⟩, ⟨d2, d3⟩, hg⟩ := a4.words; have HY := Lib.hid (And.intro (HR.out.1.drew.trans (hb.mono HR.out.1.size)) (And.intro (HR.out.2.1.drew.below hb HR.out.2.1.lt) a4)); clear a4 hb))
      all_goals
        go_wp2
        go_roundw
        case rel => exact ⟨k + 1, by omega, by go_num, below_put4 HY.out.1 _ (by simp) _, HY.out.2.1.put4_other (by omega) _, HY.out.2.2.put4 _⟩
        case measure => simp [intOf]; omega
    · obtain rfl : k = s.size := by omega
      obtain ⟨b0, a3, a4⟩ := HR.out
      rw [List.take_of_length_le (by simp)] at a4
      have HA := Lib.hid a3
      obtain ⟨⟨c0, c1⟩, ⟨c2, c3⟩, hf⟩ := a4.words
      obtain ⟨⟨d0, d1⟩, ⟨d2, d3⟩, hg⟩ := a3.words
      clear b0 a3 a4
      go_wp2
      exact bodyPost_ret (v := cs (setOf s.data.toList)) (ret_cs (q := setOf s.data.toList) Tryd.results36 _ _ w.heap.size (by simp) (HA.out.put4 _)) rfl ⟨rfl, below_put4 HR.out.1 _ (by omega) _⟩
end Go.Proofs.YtbjobbkipmkndaaDoor
