/- Several texts in one (a claim has at most 60 files). -/
import Derived.Test.YtblaldcioneooaaDoorMG
import Derived.Laws.IdiomStrings
import Derived.Test.YtblaldcioneooaaDoorNumFormatB
import Derived.Test.YtblaldcioneooaaDoorMB
import Derived.Deep.CutRange
import Derived.Deep.Cut
import Derived.Deep.DeepCutAuto
/- What is read is valid: in mathematics. -/
set_option linter.unusedVariables false
namespace Go.Proofs.YtblaldcioneooaaDoor
open Go.RowKit

theorem any_not {α : Type} [BEq (List UInt8)] [LawfulBEq (List UInt8)] (l : List (List UInt8 × α)) (x : List UInt8) (h : l.any (fun c => c.1 == x) = false) : x ∉ l.map (·.1) := by
  intro hm
  obtain ⟨c, hc, e⟩ := List.mem_map.1 hm
  rw [List.any_eq_false] at h
  exact h c hc (beq_iff_eq.2 e)
theorem nodup_snoc {l : List (List UInt8)} {x : List UInt8} (h : l.Nodup) (hx : x ∉ l) : (l ++ [x]).Nodup := by
  rw [List.nodup_append]
  refine ⟨h, by simp, ?_⟩
  intro a ha b hb e
  simp at hb
  subst hb
  exact hx (e ▸ ha)
theorem VP.def : VP PLdef := ⟨(by decide), (fun j hj => (by show 0 ≤ (j : Int) ∧ (j : Int) ≤ 65535; omega)), lowL_len 256, upL_len 256, (fun c hc => (by cases hc)), (by decide), (by decide), (fun c hc => (by cases hc)), (by decide), (by decide)⟩
theorem VP.entry {st : Bool} {L L' : PL} {k : List UInt8} {r : List (List UInt8)} (hF : VP L) (h : entryT st L k r = .ok L') : VP L' := by
  rcases entryT_cases h with ⟨x, h⟩ | ⟨y, h⟩ | ⟨x, y, h⟩ | ⟨x, y, h⟩ | ⟨x, t, h⟩ | ⟨x, y, z, h⟩
  · obtain ⟨h1, rfl⟩ := beginT_ok h
    exact ⟨h1, hF.wt, hF.lo, hF.up, hF.cn, hF.cd, hF.cl, hF.et, hF.ed, hF.le⟩
  · obtain ⟨b, v, h1, h2, rfl⟩ := weighT_ok h
    refine ⟨hF.nm, fun j hj => ?_, hF.lo, hF.up, hF.cn, hF.cd, hF.cl, hF.et, hF.ed, hF.le⟩
    have h3 := numT_lt h2
    show 0 ≤ (if b.contains j then (v : Int) else L.wt j) ∧ (if b.contains j then (v : Int) else L.wt j) ≤ 65535
    split
    · omega
    · exact hF.wt j hj
  · obtain ⟨t, h1, rfl⟩ := lowT_ok h
    exact ⟨hF.nm, hF.wt, (tabT_len h1).trans hF.lo, hF.up, hF.cn, hF.cd, hF.cl, hF.et, hF.ed, hF.le⟩
  · obtain ⟨t, h1, rfl⟩ := upT_ok h
    exact ⟨hF.nm, hF.wt, hF.lo, (tabT_len h1).trans hF.up, hF.cn, hF.cd, hF.cl, hF.et, hF.ed, hF.le⟩
  · obtain ⟨h1, h2, h3, p, h4, rfl⟩ := classT_ok h
    refine ⟨hF.nm, hF.wt, hF.lo, hF.up, fun c hc => ?_, ?_, ?_, hF.et, hF.ed, hF.le⟩
    · rcases List.mem_append.1 hc with hc | hc
      · exact hF.cn c hc
      · simp at hc; subst hc; exact h1
    · show ((L.cls ++ [(x, p)]).map (·.1)).Nodup
      rw [List.map_append]
      exact nodup_snoc hF.cd (any_not L.cls x h2)
    · show (L.cls ++ [(x, p)]).length ≤ 24
      rw [List.length_append]; simp; omega
  · obtain ⟨a, b, v, h1, h2, h3, h4, h5, rfl⟩ := elemT_ok h
    refine ⟨hF.nm, hF.wt, hF.lo, hF.up, hF.cn, hF.cd, hF.cl, fun c hc => ?_, ?_, ?_⟩
    · rcases List.mem_append.1 hc with hc | hc
      · exact hF.et c hc
      · simp at hc; subst hc
        have := numT_lt h3
        exact ⟨rfl, by show (0 : Int) ≤ (v : Int); omega, by show (v : Int) ≤ 65535; omega⟩
    · show ((L.els ++ [(pairT a b, (v : Int))]).map (·.1)).Nodup
      rw [List.map_append]
      exact nodup_snoc hF.ed (any_not L.els _ h4)
    · show (L.els ++ [(pairT a b, (v : Int))]).length ≤ 64
      rw [List.length_append]; simp; omega
theorem VP.line {n : Nat} {s t : Bool × PL} {l : List UInt8} (hF : VP s.2) (h : lineT n s l = .ok t) : VP t.2 := by
  unfold lineT at h
  split at h
  · cases h; exact hF
  · split at h
    · cases h; exact hF
    · split at h
      · cases h
      · rename_i he
        cases h
        exact hF.entry he
theorem VP.lines : ∀ (a : List (List UInt8)) {n : Nat} {s t : Bool × PL}, VP s.2 → linesT n a s = .ok t → VP t.2
  | [], n, s, t, hF, h => by cases h; exact hF
  | l :: r, n, s, t, hF, h => by
    unfold linesT at h
    split at h
    · cases h
    · rename_i he
      exact VP.lines r (hF.line he) h
theorem VP.parse {l : List UInt8} {P : PL} (h : parseT l = .ok P) : VP P := by
  unfold parseT at h
  split at h
  · cases h
  · split at h
    · cases h
    · rename_i he
      split at h
      · cases h
        exact VP.lines _ VP.def he
      · cases h
/-- Where an error is. -/
theorem parse_at {l : List UInt8} {e : Int × Nat} (h : parseT l = .error e) : e.1 ≠ 0 ∧ ((1 ≤ e.2 ∧ e.2 ≤ (lin l).length + 1) ∨ (e.2 = 0 ∧ 65536 < l.length)) := by
  unfold parseT at h
  split at h
  · rename_i hl
    cases h; exact ⟨by decide, .inr ⟨rfl, hl⟩⟩
  · split at h
    · rename_i he
      cases h
      have := linesT_pos _ he
      exact ⟨this.2.2, .inl ⟨this.1, by omega⟩⟩
    · split at h
      · cases h
      · cases h
        exact ⟨(by decide : (1 : Int) ≠ 0), .inl ⟨by show 1 ≤ (lin l).length + 1; omega, Nat.le_refl _⟩⟩
end Go.Proofs.YtblaldcioneooaaDoor
/- An entry behind a canonical text: in mathematics. -/
set_option linter.unusedVariables false
set_option maxRecDepth 100000
namespace Go.Proofs.YtblaldcioneooaaDoor
open Go.RowKit

theorem jl_end (ls : List (List UInt8)) (x : List UInt8) (h : ls ≠ []) : jl (ls ++ [x]) = jl ls ++ 10 :: x := by
  cases ls with
  | nil => exact absurd rfl h
  | cons y r =>
    show y ++ ((r ++ [x]).map (10 :: ·)).flatten = (y ++ (r.map (10 :: ·)).flatten) ++ 10 :: x
    rw [List.map_append, List.flatten_append, List.append_assoc]
    simp
theorem jn_more (ls : List (List UInt8)) (x : List UInt8) (h : ls ≠ []) (e : Bool) : jn (ls ++ [x]) e = jn ls true ++ (x ++ if e then [10] else []) := by
  unfold jn
  rw [if_neg (by simp), if_neg h, jl_end ls x h]
  simp
theorem lin_more (P : PL) (h : VP P) (x : List UInt8) (hx : no isL x = true) (hne : x ≠ []) (e : Bool) : lin (fmtL P ++ (x ++ if e then [10] else [])) = fmtLines P ++ [x] := by
  unfold fmtL
  rw [← jn_more _ x (fmtLines_ne P) e]
  refine (lin_jn (fmtLines P ++ [x]) e ?_).1
  unfold plainL
  rw [Bool.and_eq_true, List.all_eq_true]
  refine ⟨fun y hy => ?_, ?_⟩
  · rcases List.mem_append.1 hy with hy | hy
    · exact plain_fmt P h y hy
    · simp at hy; subst hy; exact hx
  · have : (fmtLines P ++ [x]).getLast? = some x := List.getLast?_concat
    rw [this]
    simp [hne]
theorem parse_more (P : PL) (h : VP P) (x : List UInt8) (hx : no isL x = true) (hne : x ≠ []) (hl : x.length ≤ 100) (Q : PL) (hq : ∀ n, lineT n (true, normP P) x = .ok (true, Q)) (e : Bool) : parseT (fmtL P ++ (x ++ if e then [10] else [])) = .ok Q := by
  have hc := fmt_cost P h
  have hlen : (fmtL P ++ (x ++ if e then [10] else [])).length ≤ 65536 := by
    rw [List.length_append, fmtL_len, List.length_append]
    have : (if e = true then [10] else [] : List UInt8).length ≤ 1 := by split <;> simp
    omega
  unfold parseT
  rw [if_neg (by omega), lin_more P h x hx hne e, linesT_end 1 (fmtLines P) x _ _ (lines_fmt P h), hq]
  rfl
theorem lineT_wds (n : Nat) (s : Bool × PL) (x k : List UInt8) (r : List (List UInt8)) (hw : wds x = k :: r) (h35 : x.head? ≠ some 35) : lineT n s x = match entryT s.1 s.2 k r with
    | .error e => .error (e, n)
    | .ok L => .ok (true, L) := by
  have hs : skipT x = false := by
    unfold skipT
    rw [hw]
    simp
    exact h35
  unfold lineT
  rw [if_neg (by rw [hs]; decide), hw]
  rfl
/-! ### A changed locale -/
def chgW (L : Loc) (a : Nat) (t : Nat) : Loc := { L with wt := fun j => if j = a then (t : Int) else L.wt j }
def chgL (L : Loc) (a d : Nat) : Loc := { L with lower := mk (putB L.lower.data.toList a d) }
def chgU (L : Loc) (a d : Nat) : Loc := { L with upper := mk (putB L.upper.data.toList a d) }
theorem VL.chgW {L : Loc} (h : VL L) (a t : Nat) (ht : t < 65536) : VL (chgW L a t) :=
  ⟨h.nm, h.nw, fun j hj => by
    show 0 ≤ (if j = a then (t : Int) else L.wt j) ∧ (if j = a then (t : Int) else L.wt j) ≤ 65535
    split
    · omega
    · exact h.wt j hj, h.lo, h.up, h.nc, h.cn, h.ne, h.et⟩
theorem putB_size (s : ByteArray) (a d : Nat) : (mk (putB s.data.toList a d)).size = s.size := by
  rw [mk_size]
  unfold putB
  rw [List.length_set, size_len]
theorem VL.chgL {L : Loc} (h : VL L) (a d : Nat) : VL (chgL L a d) := ⟨h.nm, h.nw, h.wt, (putB_size L.lower a d).trans h.lo, h.up, h.nc, h.cn, h.ne, h.et⟩
theorem VL.chgU {L : Loc} (h : VL L) (a d : Nat) : VL (chgU L a d) := ⟨h.nm, h.nw, h.wt, h.lo, (putB_size L.upper a d).trans h.up, h.nc, h.cn, h.ne, h.et⟩
/-- The three entries. -/
def xW (a t : Nat) : List UInt8 := jw [kWei, fmB a, fmB t]
def xL (a d : Nat) : List UInt8 := jw [kLow, fmB a, fmB d]
def xU (a d : Nat) : List UInt8 := kUp ++ 32 :: (fmB a ++ 9 :: fmB d)
theorem jw3 (x y z : List UInt8) : jw [x, y, z] = x ++ 32 :: (y ++ 32 :: z) := by
  unfold jw
  rw [Lib.join_cons]
  simp [Lib.joinTail]
theorem wd3 {k : List UInt8} (hk : Wd k) (a b : Nat) : ∀ x ∈ k :: [fmB a, fmB b], Wd x := by
  intro x hx
  simp only [List.mem_cons, List.not_mem_nil, or_false] at hx
  rcases hx with rfl | rfl | rfl
  · exact hk
  · exact fmB_wd _
  · exact fmB_wd _
theorem parse_w (L : Loc) (h : VL L) (a t : Nat) (ha : a < 256) (ht : t < 65536) : parseT (fmtL (ofLoc L) ++ xW a t) = .ok (normP (ofLoc (chgW L a t))) := by
  have hl : (xW a t).length ≤ 100 := by
    have h1 := jw_cost [kWei, fmB a, fmB t]
    rw [cost_cons, cost_cons, cost_cons] at h1
    have h2 := fm3 a ha
    have h3 := fm5 t (by omega)
    have h4 : kWei.length = 6 := rfl
    have h5 : cost [] = 0 := rfl
    unfold xW
    omega
  have := parse_more (ofLoc L) h.vp (xW a t) (jw_line _ (wd3 kws.2.1 a t)) (by unfold xW; rw [jw3]; simp) hl (normP (ofLoc (chgW L a t))) (fun n => by
    unfold xW
    rw [lineT_jw n _ kWei _ (by decide) (by decide) (wd3 kws.2.1 a t)]
    simp only
    have e := entry_wei (normP (ofLoc L)) [a] (fun c hc => by simp at hc; omega) (by simp) t (by omega)
    rw [show ([a].map fmB ++ [fmB t] : List (List UInt8)) = [fmB a, fmB t] from rfl] at e
    rw [e]
    simp only
    congr 2
    show { normP (ofLoc L) with wt := putW (normP (ofLoc L)).wt [a] t } = normP (ofLoc (chgW L a t))
    have e2 : putW (normP (ofLoc L)).wt [a] t = (normP (ofLoc (chgW L a t))).wt := by
      funext j
      show (if [a].contains j then (t : Int) else if j < 256 then L.wt j else (j : Int)) = if j < 256 then (if j = a then (t : Int) else L.wt j) else (j : Int)
      by_cases hj : j = a
      · subst hj
        simp [ha]
      · have : [a].contains j = false := by simpa using hj
        rw [this, if_neg hj]
        rfl
    rw [e2]
    rfl) false
  simpa using this
theorem parse_l (L : Loc) (h : VL L) (a d : Nat) (ha : a < 256) (hd : d < 256) : parseT (fmtL (ofLoc L) ++ (xL a d ++ [10])) = .ok (normP (ofLoc (chgL L a d))) := by
  have hl : (xL a d).length ≤ 100 := by
    have h1 := jw_cost [kLow, fmB a, fmB d]
    rw [cost_cons, cost_cons, cost_cons] at h1
    have h2 := fm3 a ha
    have h3 := fm3 d hd
    have h4 : kLow.length = 5 := rfl
    have h5 : cost [] = 0 := rfl
    unfold xL
    omega
  have := parse_more (ofLoc L) h.vp (xL a d) (jw_line _ (wd3 kws.2.2.1 a d)) (by unfold xL; rw [jw3]; simp) hl (normP (ofLoc (chgL L a d))) (fun n => by
    unfold xL
    rw [lineT_jw n _ kLow _ (by decide) (by decide) (wd3 kws.2.2.1 a d)]
    simp only
    rw [entry_low _ a d ha hd]
    rfl) true
  simpa using this
theorem parse_u (L : Loc) (h : VL L) (a d : Nat) (ha : a < 256) (hd : d < 256) : parseT (fmtL (ofLoc L) ++ (xU a d ++ [10])) = .ok (normP (ofLoc (chgU L a d))) := by
  have e32 : sp 32 = true := rfl
  have e9 : sp 9 = true := rfl
  have hw : wds (xU a d) = [kUp, fmB a, fmB d] := by
    unfold xU
    rw [wds_mid 32 _ _ e32, wds_mid 9 _ _ e9, wds_no _ kws.2.2.2.1.1, wds_no _ (fmB_wd a).1, wds_no _ (fmB_wd d).1, if_neg kws.2.2.2.1.2, if_neg (fmB_wd a).2, if_neg (fmB_wd d).2]
    rfl
  have hl : (xU a d).length ≤ 100 := by
    have h2 := fm3 a ha
    have h3 := fm3 d hd
    have h4 : kUp.length = 5 := rfl
    unfold xU
    simp only [List.length_append, List.length_cons]
    omega
  have hno : no isL (xU a d) = true := by
    have h1 := no_sp_L kws.2.2.2.1.1
    have h2 := no_sp_L (fmB_wd a).1
    have h3 := no_sp_L (fmB_wd d).1
    unfold xU
    unfold no at h1 h2 h3 ⊢
    rw [List.all_append, List.all_cons, List.all_append, List.all_cons, h1, h2, h3]
    rfl
  have := parse_more (ofLoc L) h.vp (xU a d) hno (by unfold xU; simp) hl (normP (ofLoc (chgU L a d))) (fun n => by
    rw [lineT_wds n _ (xU a d) kUp [fmB a, fmB d] hw (by unfold xU kUp; simp)]
    simp only
    rw [entry_up _ a d ha hd]
    rfl) true
  simpa using this
/-- What Parse makes of a text that stands for a locale. -/
theorem parse_as (s : ByteArray) (L : Loc) (hv : VL L) (hp : parseT s.data.toList = .ok (normP (ofLoc L))) (w : World) : Calls Tryd.prog 22 #[.string s] w fun e w' => ∃ aw cw ac cc ae ce, e = .returned (.tuple #[.agg #[.string L.name, .slice aw 256 cw, .string L.lower, .string L.upper, .slice ac L.nc cc, .slice ae L.ne ce], .int .i64 0, .int .i64 0]) ∧ LocM w' L (.slice aw 256 cw) (.slice ac L.nc cc) (.slice ae L.ne ce) ∧ Below w.heap.size w w' := by
  refine (ltParse_any s w).mono fun e w' h => ?_
  obtain ⟨hb, h⟩ := h
  rw [hp] at h
  obtain ⟨W, C, E, he, ⟨S, hm, _⟩, hf⟩ := h
  have hM := norm_cells hv hm.loc
  obtain ⟨⟨aw, cw, rfl, -⟩, ⟨ac, cc, rfl, -⟩, ⟨ae, ce, rfl, -⟩⟩ := hM
  have hM := norm_cells hv hm.loc
  rw [hv.nw] at hM he
  exact ⟨aw, cw, ac, cc, ae, ce, he, hM, hb⟩
end Go.Proofs.YtblaldcioneooaaDoor
/- The law's own function: a string with another byte at an index. -/
set_option linter.unusedVariables false
set_option maxRecDepth 100000
namespace Go.Proofs.YtblaldcioneooaaDoor
open Go.RowKit

set_option maxHeartbeats 4000000 in
theorem changed_any (s : ByteArray) (hs : s.size = 256) (a d : Nat) (ha : a < 256) (hd : d < 256) (w : World) :
    Calls Tryd.prog 27 #[.string s, .int .u8 (a : Int), .int .u8 (d : Int)] w fun e w' => e = .returned (.string (mk (putB s.data.toList a d))) ∧ Below w.heap.size w w' := by
  have hcv := run_bytes_of_string (P := Tryd.prog) w 9 62 5 s Tryd.underlying9 Tryd.underlying62 Tryd.underlying5
  have hcap := grownCap_ge w s.size 0 5
  generalize grownCap w s.size 0 5 = cap at hcv hcap
  obtain ⟨R, hR⟩ : ∃ R, bytesRow s cap = R := ⟨_, rfl⟩
  have hat : ∀ j (hj : j < s.size), R[j]? = some (.int .u8 ((s[j]'hj).toNat : Int)) := fun j hj => by rw [← hR]; exact bytesRow_at s cap j hj
  rw [hR] at hcv
  have hB : Below w.heap.size w (w.drew.alloc (.cells R 5 (R.size, R.size + 1))) := (Below.refl _ _).drew.alloc (Nat.le_refl _) _
  have hblk : (w.drew.alloc (.cells R 5 (R.size, R.size + 1))).heap[w.heap.size]? = some (.cells R 5 (R.size, R.size + 1)) := heap_alloc_new w.drew _
  generalize w.drew.alloc (.cells R 5 (R.size, R.size + 1)) = W1 at hcv hB hblk
  have haS : a < s.size := by omega
  have hRa : a < R.size := (Array.getElem?_eq_some_iff.1 (hat a haS)).1
  have x1 : W1.cell? ⟨w.heap.size, a, none⟩ = some (.int .u8 ((s[a]'haS).toNat : Int)) := (cell_of_row W1 w.heap.size a R _ _ hblk).trans (hat a haS)
  have f1 : W1.frozen? ⟨w.heap.size, a, none⟩ = false := by
    unfold World.frozen?
    rw [hblk]
    simp; omega
  have hblk2 : (W1.setCell ⟨w.heap.size, a, none⟩ (.int .u8 (d : Int))).heap[w.heap.size]? = some (.cells (R.setIfInBounds a (.int .u8 (d : Int))) 5 (R.size, R.size + 1)) := by
    rw [setCell_eq_setRow W1 w.heap.size a R _ _ _ hblk]
    exact setRow_heap W1 w.heap.size R _ _ _ hblk
  have hl : (putB s.data.toList a d).length = s.size := by unfold putB; rw [List.length_set, size_len]
  have hbk := run_convert_bytes_back (P := Tryd.prog) (W1.setCell ⟨w.heap.size, a, none⟩ (.int .u8 (d : Int))) 62 9 5 ⟨w.heap.size, 0, none⟩ cap (putB s.data.toList a d) Tryd.underlying62 Tryd.underlying5 Tryd.underlying9 (fun j hj => by
    have e : (⟨w.heap.size, 0, none⟩ : Addr).add j = ⟨w.heap.size, 0 + j, none⟩ := by unfold Addr.add; split <;> simp_all
    have hjs : j < s.size := by omega
    rw [e, Nat.zero_add, cell_of_row _ _ j _ _ _ hblk2, Array.getElem?_setIfInBounds]
    have hjl : j < s.data.toList.length := by rw [size_len]; exact hjs
    have e2 : (putB s.data.toList a d)[j]'hj = if a = j then UInt8.ofNat d else s.data.toList[j]'hjl := by simp only [putB, List.getElem_set]
    rw [e2]
    by_cases hja : a = j
    · rw [if_pos hja, if_pos hja, if_pos hRa, UInt8.toNat_ofNat', Nat.mod_eq_of_lt hd]
    · rw [if_neg hja, if_neg hja, hat j hjs]
      rfl)
  rw [hl, hs] at hbk
  rw [hs] at hcv
  have HB2 : Hid (Below w.heap.size w (W1.setCell ⟨w.heap.size, a, none⟩ (.int .u8 (d : Int)))) := hB.setCell (Nat.le_refl _) _
  obtain ⟨Z, hZ⟩ : ∃ Z, mk (putB s.data.toList a d) = Z := ⟨_, rfl⟩
  have hZ2 : (⟨(putB s.data.toList a d).toArray⟩ : ByteArray) = Z := hZ
  rw [hZ2] at hbk
  rw [hZ]
  have hsi : (s.size : Int) = 256 := by omega
  have hci : (s.size : Int) ≤ cap := by omega
  have hai : (a : Int) < s.size := by omega
  have hai0 : (0 : Int) ≤ a := by omega
  clear hat hR hl hblk hblk2 hB hZ hZ2
  go_enter Tryd.func27, Tryd.ntmps27
  go_wp2
  go_ret
  exact ⟨rfl, HB2.out⟩
end Go.Proofs.YtblaldcioneooaaDoor
/- The reference's decimal form. (Out of layer 1's texts.) -/
set_option linter.unusedVariables false
set_option maxRecDepth 100000
namespace Go.Proofs.YtblaldcioneooaaDoor
open Go.RowKit

def left (q : Nat) : Nat := if q = 0 then 0 else cnt q
theorem left_step (q : Nat) (h : q ≠ 0) : left q = left (q / 10) + 1 := by
  unfold left
  rw [if_neg h]
  by_cases hs : q < 10
  · rw [cnt_small q hs, if_pos (by omega)]
  · rw [cnt_big q hs, if_neg (by omega)]

set_option maxHeartbeats 1000000 in
theorem rfmt_neg (m : Nat) (w : World) (h0 : 0 < m) (h1 : m ≤ 9223372036854775808) :
    Calls Tryd.prog 26 #[.int .i64 (-(m : Int))] w fun e w' => e = .returned (.string (⟨#[45]⟩ ++ ⟨(txt m (cnt m)).toArray⟩)) ∧ Below w.heap.size w w' := by
  have z0 : ((-(m : Int)) == 0) = false := by simp; omega
  obtain ⟨i0, hi, hz0, hz1, hz2⟩ := info_parts Tryd.info5
  have HZ := Lib.hid h0
  have hs : -(m : Int) < 0 := by omega
  clear h0
  go_enter Tryd.func26, Tryd.ntmps26
  go_wp2
  go_loopw [3, 4] (fun s v wr => ∃ k q : Nat, v = .int .i64 (-(q : Int)) ∧ q ≤ 9223372036854775808 ∧ Hid (m / 10 ^ k = q) ∧ Hid (k + left q = cnt m) ∧ s = .string ⟨(txt m k).toArray⟩ ∧ Below w.heap.size w wr)
    (fun _ v _ => (intOf v).natAbs)
  case atStart => exact ⟨0, m, rfl, h1, by simp [Hid], by simp [Hid, left, Nat.ne_of_gt HZ.out], rfl, Below.refl _ _⟩
  case round =>
    obtain ⟨k, q, rfl, hq, g1, g2, rfl, hb⟩ := hrel
    by_cases hz : 0 < q
    · have z1 : ((-(q : Int)) != 0) = true := by simp; omega
      have HP : Hid ((⟨#[UInt8.ofNat (48 + q % 10)]⟩ : ByteArray) ++ ⟨(txt m k).toArray⟩ = ⟨(txt m (k + 1)).toArray⟩) := by
        have := txt_push m k
        rw [g1.out] at this; exact this
      have g3 : Hid (m / 10 ^ (k + 1) = q / 10) := by
        show m / 10 ^ (k + 1) = q / 10
        rw [div_step, g1.out]
      have g4 : Hid (k + 1 + left (q / 10) = cnt m) := by
        have := g2.out
        rw [left_step q (by omega)] at this
        show k + 1 + left (q / 10) = cnt m
        omega
      have hts : (⟨(txt m k).toArray⟩ : ByteArray).size ≤ 20 := by
        have e1 : (⟨(txt m k).toArray⟩ : ByteArray).size = k := txt_len m k
        have e2 := cnt_le 18 m (by omega)
        have e3 := g4.out
        omega
      generalize (⟨(txt m k).toArray⟩ : ByteArray) = t at *
      have hb1 : Below w.heap.size w (wr.alloc (.cells #[.int .u8 (48 + ((q % 10 : Nat) : Int))] 5)) := hb.alloc hb.size _
      have hcv := conv_one wr (q % 10) (by omega)
      have t2 : (-(q : Int)).tdiv 10 = -((q / 10 : Nat) : Int) := by
        rw [Int.neg_tdiv, Int.tdiv_eq_ediv_of_nonneg (by omega)]; rfl
      have e : ((q % 10 : Nat) : Int) = (q : Int) % 10 := by omega
      rw [e] at hcv hb1
      clear g1 g2
      by_cases hr : (q : Int) % 10 = 0
      · have t1 : (-(q : Int)).tmod 10 = 0 := by rw [Int.neg_tmod, Int.tmod_eq_emod_of_nonneg (by omega)]; omega
        rw [hr, Int.add_zero] at hcv hb1
        clear e hb
        have HR := Lib.hid hr
        clear hr
        go_wp2
        go_roundw
        case rel => exact ⟨k + 1, q / 10, rfl, by omega, g3, g4, by rw [← HP.out, UInt8.ofNat_add]; rfl, hb1⟩
        case measure => simp [intOf]; omega
      · have t1 : (-(q : Int)).tmod 10 = -((q : Int) % 10) := by rw [Int.neg_tmod, Int.tmod_eq_emod_of_nonneg (by omega)]
        have hr1 : 0 < (q : Int) % 10 := by omega
        clear e hb hr
        go_wp2
        go_roundw
        case rel => exact ⟨k + 1, q / 10, rfl, by omega, g3, g4, by rw [← HP.out, UInt8.ofNat_add]; rfl, hb1⟩
        case measure => simp [intOf]; omega
    · obtain rfl : q = 0 := by omega
      have g5 : Hid (k = cnt m) := by
        have := g2.out
        show k = cnt m
        simpa [left] using this
      have hts : (⟨(txt m k).toArray⟩ : ByteArray).size ≤ 20 := by
        rw [g5.out]; exact txt_size m (by omega)
      have HT : Hid ((⟨(txt m k).toArray⟩ : ByteArray) = ⟨(txt m (cnt m)).toArray⟩) := by
        show (⟨(txt m k).toArray⟩ : ByteArray) = _
        rw [← g5.out]
      generalize (⟨(txt m k).toArray⟩ : ByteArray) = t at *
      clear g1 g2 hz g5
      go_wp2
      go_ret
      exact ⟨ret_str (by rw [HT.out]), hb⟩

set_option maxHeartbeats 1000000 in
theorem rfmt_pos (m : Nat) (w : World) (h0 : 0 < m) (h1 : m ≤ 9223372036854775807) :
    Calls Tryd.prog 26 #[.int .i64 (m : Int)] w fun e w' => e = .returned (.string (⟨(txt m (cnt m)).toArray⟩)) ∧ Below w.heap.size w w' := by
  have z0 : ((m : Int) == 0) = false := by simp; omega
  obtain ⟨i0, hi, hz0, hz1, hz2⟩ := info_parts Tryd.info5
  have HZ := Lib.hid h0
  have hs : ¬ (m : Int) < 0 := by omega
  clear h0
  go_enter Tryd.func26, Tryd.ntmps26
  go_wp2
  go_loopw [3, 4] (fun s v wr => ∃ k q : Nat, v = .int .i64 (q : Int) ∧ q ≤ 9223372036854775807 ∧ Hid (m / 10 ^ k = q) ∧ Hid (k + left q = cnt m) ∧ s = .string ⟨(txt m k).toArray⟩ ∧ Below w.heap.size w wr)
    (fun _ v _ => (intOf v).natAbs)
  case atStart => exact ⟨0, m, rfl, h1, by simp [Hid], by simp [Hid, left, Nat.ne_of_gt HZ.out], rfl, Below.refl _ _⟩
  case round =>
    obtain ⟨k, q, rfl, hq, g1, g2, rfl, hb⟩ := hrel
    by_cases hz : 0 < q
    · have z1 : ((q : Int) != 0) = true := by simp; omega
      have HP : Hid ((⟨#[UInt8.ofNat (48 + q % 10)]⟩ : ByteArray) ++ ⟨(txt m k).toArray⟩ = ⟨(txt m (k + 1)).toArray⟩) := by
        have := txt_push m k
        rw [g1.out] at this; exact this
      have g3 : Hid (m / 10 ^ (k + 1) = q / 10) := by
        show m / 10 ^ (k + 1) = q / 10
        rw [div_step, g1.out]
      have g4 : Hid (k + 1 + left (q / 10) = cnt m) := by
        have := g2.out
        rw [left_step q (by omega)] at this
        show k + 1 + left (q / 10) = cnt m
        omega
      have hts : (⟨(txt m k).toArray⟩ : ByteArray).size ≤ 20 := by
        have e1 : (⟨(txt m k).toArray⟩ : ByteArray).size = k := txt_len m k
        have e2 := cnt_le 18 m (by omega)
        have e3 := g4.out
        omega
      generalize (⟨(txt m k).toArray⟩ : ByteArray) = t at *
      have hb1 : Below w.heap.size w (wr.alloc (.cells #[.int .u8 (48 + ((q % 10 : Nat) : Int))] 5)) := hb.alloc hb.size _
      have hcv := conv_one wr (q % 10) (by omega)
      have e : ((q % 10 : Nat) : Int) = (q : Int) % 10 := by omega
      rw [e] at hcv hb1
      clear g1 g2
      · clear e hb
        go_wp2
        go_roundw
        case rel => exact ⟨k + 1, q / 10, by simp, by omega, g3, g4, by rw [← HP.out, UInt8.ofNat_add]; rfl, hb1⟩
        case measure => simp [intOf]; omega
    · obtain rfl : q = 0 := by omega
      have g5 : Hid (k = cnt m) := by
        have := g2.out
        show k = cnt m
        simpa [left] using this
      have hts : (⟨(txt m k).toArray⟩ : ByteArray).size ≤ 20 := by
        rw [g5.out]; exact txt_size m (by omega)
      have HT : Hid ((⟨(txt m k).toArray⟩ : ByteArray) = ⟨(txt m (cnt m)).toArray⟩) := by
        show (⟨(txt m k).toArray⟩ : ByteArray) = _
        rw [← g5.out]
      generalize (⟨(txt m k).toArray⟩ : ByteArray) = t at *
      clear g1 g2 hz g5
      go_wp2
      go_ret
      exact ⟨ret_str (by rw [HT.out]), hb⟩

theorem rfmt_zero (w : World) :
    Calls Tryd.prog 26 #[.int .i64 0] w fun e w' => e = .returned (.string (fmtS 0)) ∧ Below w.heap.size w w' := by
  have h : fmtS 0 = ⟨#[48]⟩ := by
    unfold fmtS
    rw [if_neg (by decide), Int.natAbs_zero, cnt_small 0 (by decide)]
    rfl
  rw [h]
  clear h
  go_enter Tryd.func26, Tryd.ntmps26
  go_wp2
  go_ret
  exact ⟨rfl, Below.refl _ _⟩

theorem rfmt_any (n : Int) (w : World) (hf : fits n) :
    Calls Tryd.prog 26 #[.int .i64 n] w fun e w' => e = .returned (.string (fmtS n)) ∧ Below w.heap.size w w' := by
  obtain ⟨h1, h2⟩ := hf
  by_cases h0 : n = 0
  · subst h0; exact rfmt_zero w
  · by_cases hn : n < 0
    · have := rfmt_neg n.natAbs w (by omega) (by omega)
      have e : -(n.natAbs : Int) = n := by omega
      rw [e] at this
      unfold fmtS
      rw [if_pos hn]; exact this
    · have := rfmt_pos n.natAbs w (by omega) (by omega)
      have e : (n.natAbs : Int) = n := by omega
      rw [e] at this
      unfold fmtS
      rw [if_neg hn]; exact this

end Go.Proofs.YtblaldcioneooaaDoor
/- A number of 16 bits that comes in. -/
namespace Go.Proofs.YtblaldcioneooaaDoor
open Go.ChangeShapes Go.WideShapes Go.ChangeAt Go.RowKit
theorem u16_nat (x : Int) (h : (Lit.int .u16 x).wf = true) : ∃ n : Nat, x = (n : Int) ∧ n < 65536 := by
  have hb := bounds_u16 h
  exact ⟨x.toNat, by omega, by omega⟩
end Go.Proofs.YtblaldcioneooaaDoor
/- The law on an entry behind a canonical text. (Written by gen_ltlaw3.py.) -/
set_option linter.unusedVariables false
set_option maxRecDepth 100000
namespace Go.Proofs.YtblaldcioneooaaDoor
open Go.RowKit

theorem infoI4 : (Tryd.prog.info? 3).map (fun i => (i.zero, i.size, i.bytes)) = some (some (.int .i64 0), 1, 8) := by kernel_rfl
theorem infoL4 : (Tryd.prog.info? 26).map (·.size) = some 6 := by kernel_rfl
theorem conv_u16 (t : Nat) (ht : t < 65536) (w : World) : (convert 55 3 (.int .u16 (t : Int))).run Tryd.prog w = .ok (.int .i64 (t : Int)) w := by
  have h : IntKind.i64.wrap (t : Int) = (t : Int) := IntWalk.i64_in _ (by omega)
  simp [convert, run_underlying Tryd.underlying55, run_underlying Tryd.underlying3, Conv.intToInt, h]
theorem LAt.rowSame {w : World} {g : Nat} {z c : Array Value} (h : LAt w g z) : LAt (w.setRow g c) g c := setRow_heap w g z c _ _ h
theorem LAt.rowFar {w : World} {g k : Nat} {c d : Array Value} (h : LAt w g c) (hk : g ≠ k) : LAt (w.setRow k d) g c := (setRow_other w k g d hk).trans h
/-- Three copies of a locale. -/
def C3 (w0 : World) (B0 : Nat) (row : Array Value) (g1 g2 g3 : Nat) (wx : World) : Prop :=
  Below w0.heap.size w0 wx ∧ LAt wx B0 row ∧ LAt wx g1 row ∧ LAt wx g2 row ∧ LAt wx g3 row ∧ (B0 < g1 ∧ B0 < g2 ∧ B0 < g3) ∧ g1 ≠ g2 ∧ g1 ≠ g3 ∧ g2 ≠ g3
theorem rowNew {w0 w : World} {B g : Nat} (h : Below B w0 w) (hg : B ≤ g) (d : Array Value) : Below B w0 (w.setRow g d) :=
  ⟨h.os, h.tape, h.output, by simpa using h.size, fun k hk => (setRow_other w g k d (by omega)).trans (h.block k hk)⟩
theorem c3_three {w0 w : World} {B0 : Nat} {row z : Array Value} (n : Nat) (hn : w.heap.size = n) (hb : Below w0.heap.size w0 w) (h0 : LAt w B0 row) (hB : w0.heap.size ≤ n) (a b c : Nat) (ha : n ≤ a ∧ a < n + 3) (hb2 : n ≤ b ∧ b < n + 3) (hc : n ≤ c ∧ c < n + 3) (hab : a ≠ b) (hac : a ≠ c) (hbc : b ≠ c)
    {W : World} (hW : LAt W B0 row ∧ LAt W n z ∧ LAt W (n + 1) z ∧ LAt W (n + 2) z ∧ Below w.heap.size w W) : C3 w0 B0 row a b c (((W.setRow a row).setRow b row).setRow c row) ∧ LAt (W.setRow a row) B0 row ∧ LAt ((W.setRow a row).setRow b row) B0 row ∧ LAt W a z ∧ LAt (W.setRow a row) b z ∧ LAt ((W.setRow a row).setRow b row) c z := by
  obtain ⟨k0, k1, k2, k3, k4⟩ := hW
  have hlt := h0.lt
  have hz : ∀ x, n ≤ x → x < n + 3 → LAt W x z := fun x h1 h2 => by
    have : x = n ∨ x = n + 1 ∨ x = n + 2 := by omega
    rcases this with rfl | rfl | rfl
    · exact k1
    · exact k2
    · exact k3
  have za := hz a ha.1 ha.2
  have zb := (hz b hb2.1 hb2.2).rowFar (k := a) (d := row) (Ne.symm hab)
  have zc := ((hz c hc.1 hc.2).rowFar (k := a) (d := row) (Ne.symm hac)).rowFar (k := b) (d := row) (Ne.symm hbc)
  have e1 := k0.rowFar (k := a) (d := row) (by omega)
  have e2 := e1.rowFar (k := b) (d := row) (by omega)
  have e3 := e2.rowFar (k := c) (d := row) (by omega)
  have hbl : Below w0.heap.size w0 W := hb.trans (k4.mono hb.size)
  refine ⟨⟨rowNew (rowNew (rowNew hbl (by omega) _) (by omega) _) (by omega) _, e3, (za.rowSame.rowFar hab).rowFar hac, (zb.rowSame).rowFar hbc, zc.rowSame, ⟨by omega, by omega, by omega⟩, hab, hac, hbc⟩, e1, e2, za, zb, zc⟩
theorem sl_far {k n : Nat} {f : Nat → Nat → Value} {w w' : World} {v : Value} (h : SL k n f w v) (hb : ∀ b, v.ownBlock = some b → w'.heap[b]? = w.heap[b]?) : SL k n f w' v := by
  obtain ⟨a, c, e, hc, hr⟩ := h
  refine ⟨a, c, e, hc, ?_⟩
  rcases hr with hr | ⟨b, o, ha, hlt, hx⟩
  · exact .inl hr
  · have hbb := hb b (by rw [e, ha]; rfl)
    have hlt2 : b < w'.heap.size := by
      have h1 : w.heap[b]? = some w.heap[b] := Array.getElem?_eq_getElem hlt
      rw [h1] at hbb
      exact (Array.getElem?_eq_some_iff.1 hbb).1
    exact .inr ⟨b, o, ha, hlt2, fun j i hj hi => by rw [World.cell?_of_block (w := w) (w' := w') hbb]; exact hx j i hj hi⟩
theorem zeros_three (w : World) (B0 : Nat) (row : Array Value) (h0 : LAt w B0 row) : LAt (((w.alloc (.cells zeroL 26)).alloc (.cells zeroL 26)).alloc (.cells zeroL 26)) B0 row ∧ LAt (((w.alloc (.cells zeroL 26)).alloc (.cells zeroL 26)).alloc (.cells zeroL 26)) w.heap.size zeroL ∧
    LAt (((w.alloc (.cells zeroL 26)).alloc (.cells zeroL 26)).alloc (.cells zeroL 26)) (w.heap.size + 1) zeroL ∧ LAt (((w.alloc (.cells zeroL 26)).alloc (.cells zeroL 26)).alloc (.cells zeroL 26)) (w.heap.size + 2) zeroL ∧ Below w.heap.size w (((w.alloc (.cells zeroL 26)).alloc (.cells zeroL 26)).alloc (.cells zeroL 26)) := by
  have s1 : (w.alloc (.cells zeroL 26)).heap.size = w.heap.size + 1 := by simp
  have s2 : ((w.alloc (.cells zeroL 26)).alloc (.cells zeroL 26)).heap.size = w.heap.size + 2 := by simp
  have b1 : Below w.heap.size w (w.alloc (.cells zeroL 26)) := (Below.refl _ _).alloc (Nat.le_refl _) _
  have b2 : Below (w.alloc (.cells zeroL 26)).heap.size (w.alloc (.cells zeroL 26)) ((w.alloc (.cells zeroL 26)).alloc (.cells zeroL 26)) := (Below.refl _ _).alloc (Nat.le_refl _) _
  have b3 : Below ((w.alloc (.cells zeroL 26)).alloc (.cells zeroL 26)).heap.size ((w.alloc (.cells zeroL 26)).alloc (.cells zeroL 26)) (((w.alloc (.cells zeroL 26)).alloc (.cells zeroL 26)).alloc (.cells zeroL 26)) := (Below.refl _ _).alloc (Nat.le_refl _) _
  have z1 : LAt (w.alloc (.cells zeroL 26)) w.heap.size zeroL := heap_alloc_new w _
  have z2 : LAt ((w.alloc (.cells zeroL 26)).alloc (.cells zeroL 26)) (w.alloc (.cells zeroL 26)).heap.size zeroL := heap_alloc_new _ _
  have z3 : LAt (((w.alloc (.cells zeroL 26)).alloc (.cells zeroL 26)).alloc (.cells zeroL 26)) ((w.alloc (.cells zeroL 26)).alloc (.cells zeroL 26)).heap.size zeroL := heap_alloc_new _ _
  rw [s1] at z2
  rw [s2] at z3
  have hlt := h0.lt
  refine ⟨((h0.under b1 hlt).under b2 (by omega)).under b3 (by omega), (z1.under b2 (by omega)).under b3 (by omega), z2.under b3 (by omega), z3, ?_⟩
  exact (b1.trans (b2.mono (by omega))).trans (b3.mono (by omega))
set_option maxHeartbeats 8000000 in
theorem chg_bad (L : Loc) (hc : chk L ≠ 0) (W C E : Value) (a t : Nat) (w : World) (hT : tabAt w) (hM : LocM w L W C E) :
    Calls Tryd.prog 8 #[.agg (lcl L W C E), .int .u8 (a : Int), .int .u16 (t : Int)] w fun e w' => e = .returned (.bool true) ∧ Below w.heap.size w w' := by
  have HB : Hid (Below w.heap.size w (w.alloc (.cells (lcl L W C E) 26))) := (Below.refl _ _).alloc (Nat.le_refl _) _
  have HA : Hid (LAt (w.alloc (.cells (lcl L W C E) 26)) w.heap.size (lcl L W C E)) := heap_alloc_new w _
  have HM0 := Lib.hid hM
  have HT := Lib.hid hT
  have HCk := Lib.hid (pCheck_any L W C E)
  have HAw := Lib.hid ltAwake_any
  generalize chk L = c at hc HCk
  have hcn : (c != 0) = true := by simpa using hc
  unfold lcl at *
  obtain ⟨⟨x0, x1, x2⟩, ⟨x3, x4, x5⟩, xf⟩ := HA.out.six
  clear hM hT
  go_enter Tryd.func8, Tryd.ntmps8
  go_wp2_with (first
    | (go_at_call 20
       refine (HCk.out _ (HM0.out.below HB.out)).mono ?_
       rintro e w2 ⟨rfl, hb⟩
       have HB2 := Lib.hid (HB.out.trans (hb.mono HB.out.size))
       clear x0 x1 x2 x3 x4 x5 xf hb)
    | (go_at_call 21
       refine (HAw.out _ (tab_keep HT.out HB2.out)).mono ?_
       rintro e w3 ⟨rfl, hb⟩
       have HB3 := Lib.hid (HB2.out.trans (hb.mono HB2.out.size))
       clear hb))
  go_ret
  exact ⟨rfl, HB3.out⟩
set_option maxHeartbeats 32000000 in
theorem chg_good (L : Loc) (hv : VL L) (W C E : Value) (a t : Nat) (ha : a < 256) (ht : t < 65536) (w : World) (hT : tabAt w) (hM : LocM w L W C E) :
    Calls Tryd.prog 8 #[.agg (lcl L W C E), .int .u8 (a : Int), .int .u16 (t : Int)] w fun e w' => e = .returned (.bool true) ∧ Below w.heap.size w w' := by
  have HM0 := Lib.hid hM
  have HT := Lib.hid hT
  have HV := Lib.hid hv
  have hCk := pCheck_any L W C E
  rw [(VL.iff L).2 hv] at hCk
  have HCk := Lib.hid hCk
  have HFo := Lib.hid (format_ok L hv W C E)
  have HAw := Lib.hid ltAwake_any
  have HS1 := Lib.hid (sl_any (chgW L a t) (by show L.nw < _; rw [hv.nw]; decide) (by show L.nc < _; have := hv.nc; omega) (by show L.ne < _; have := hv.ne; omega))
  have HS2 := Lib.hid (sl_any (chgL L a (t % 256)) (by show L.nw < _; rw [hv.nw]; decide) (by show L.nc < _; have := hv.nc; omega) (by show L.ne < _; have := hv.ne; omega))
  have HS3 := Lib.hid (sl_any (chgU L a (t % 256)) (by show L.nw < _; rw [hv.nw]; decide) (by show L.nc < _; have := hv.nc; omega) (by show L.ne < _; have := hv.ne; omega))
  have hd256 : t % 256 < 256 := Nat.mod_lt _ (by decide)
  have hdI : ((t % 256 : Nat) : Int) = (t : Int) % 256 := by omega
  have hch1 := changed_any L.lower hv.lo a (t % 256) ha hd256
  have hch2 := changed_any L.upper hv.up a (t % 256) ha hd256
  rw [hdI] at hch1 hch2
  have HGa := Lib.hid (fun w => rfmt_any (a : Int) w (by unfold fits; omega))
  have HGt := Lib.hid (fun w => rfmt_any (t : Int) w (by unfold fits; omega))
  have hgd := fun w => rfmt_any ((t % 256 : Nat) : Int) w (by unfold fits; omega)
  have hza := fmtS_size (a : Int) (by unfold fits; omega)
  have hzt := fmtS_size (t : Int) (by unfold fits; omega)
  have hzd := fmtS_size ((t % 256 : Nat) : Int) (by unfold fits; omega)
  have hp1 := parse_as (((mk (fmtL (ofLoc L)) ++ ⟨#[119, 101, 105, 103, 104, 116, 32]⟩) ++ fmtS (a : Int) ++ ⟨#[32]⟩) ++ fmtS (t : Int)) (chgW L a t) (hv.chgW a t ht) (by
    have := parse_w L hv a t ha ht
    unfold xW at this
    rw [jw3] at this
    simpa [kWei, fmB, ByteArray.data_append, mk] using this)
  have hp2 := parse_as ((((mk (fmtL (ofLoc L)) ++ ⟨#[108, 111, 119, 101, 114, 32]⟩) ++ fmtS (a : Int) ++ ⟨#[32]⟩) ++ fmtS ((t % 256 : Nat) : Int)) ++ ⟨#[10]⟩) (chgL L a (t % 256)) (hv.chgL a (t % 256)) (by
    have := parse_l L hv a (t % 256) ha hd256
    unfold xL at this
    rw [jw3] at this
    simpa [kLow, fmB, ByteArray.data_append, mk] using this)
  have hp3 := parse_as ((((mk (fmtL (ofLoc L)) ++ ⟨#[117, 112, 112, 101, 114, 32]⟩) ++ fmtS (a : Int) ++ ⟨#[9]⟩) ++ fmtS ((t % 256 : Nat) : Int)) ++ ⟨#[10]⟩) (chgU L a (t % 256)) (hv.chgU a (t % 256)) (by
    have := parse_u L hv a (t % 256) ha hd256
    unfold xU at this
    simpa [kUp, fmB, ByteArray.data_append, mk] using this)
  obtain ⟨S, hS⟩ : ∃ S, mk (fmtL (ofLoc L)) = S := ⟨_, rfl⟩
  have hSz : S.size ≤ 65536 := by
    rw [← hS, mk_size, fmtL_len]
    exact Nat.le_trans (fmt_cost _ hv.vp) (by decide)
  rw [hS] at hp1 hp2 hp3 HFo
  rw [hdI] at hp2 hp3 hgd hzd
  generalize fmtS (a : Int) = CA at hp1 hp2 hp3 HGa hza
  generalize fmtS ((t : Int) % 256) = CD at hp2 hp3 hgd hzd
  generalize fmtS (t : Int) = CT at hp1 HGt hzt
  have iS : (S.size : Int) ≤ 65536 := by omega
  have iA : (CA.size : Int) ≤ 40 := by omega
  have iD : (CD.size : Int) ≤ 40 := by omega
  have iT : (CT.size : Int) ≤ 40 := by omega
  obtain ⟨LO, hLO⟩ : ∃ LO, mk (putB L.lower.data.toList a (t % 256)) = LO := ⟨_, rfl⟩
  obtain ⟨UP, hUP⟩ : ∃ UP, mk (putB L.upper.data.toList a (t % 256)) = UP := ⟨_, rfl⟩
  have hq1 : ∀ w, Calls Tryd.prog 22 #[.string (((S ++ ⟨#[119, 101, 105, 103, 104, 116, 32]⟩) ++ CA ++ ⟨#[32]⟩) ++ CT)] w fun e w' => ∃ aw cw ac cc ae ce, e = .returned (.tuple #[.agg #[.string L.name, .slice aw 256 cw, .string L.lower, .string L.upper, .slice ac L.nc cc, .slice ae L.ne ce], .int .i64 0, .int .i64 0]) ∧ LocM w' (chgW L a t) (.slice aw 256 cw) (.slice ac L.nc cc) (.slice ae L.ne ce) ∧ Below w.heap.size w w' := hp1
  have hq2 : ∀ w, Calls Tryd.prog 22 #[.string ((((S ++ ⟨#[108, 111, 119, 101, 114, 32]⟩) ++ CA ++ ⟨#[32]⟩) ++ CD) ++ ⟨#[10]⟩)] w fun e w' => ∃ aw cw ac cc ae ce, e = .returned (.tuple #[.agg #[.string L.name, .slice aw 256 cw, .string LO, .string L.upper, .slice ac L.nc cc, .slice ae L.ne ce], .int .i64 0, .int .i64 0]) ∧ LocM w' (chgL L a (t % 256)) (.slice aw 256 cw) (.slice ac L.nc cc) (.slice ae L.ne ce) ∧ Below w.heap.size w w' := by rw [← hLO]; exact hp2
  have hq3 : ∀ w, Calls Tryd.prog 22 #[.string ((((S ++ ⟨#[117, 112, 112, 101, 114, 32]⟩) ++ CA ++ ⟨#[9]⟩) ++ CD) ++ ⟨#[10]⟩)] w fun e w' => ∃ aw cw ac cc ae ce, e = .returned (.tuple #[.agg #[.string L.name, .slice aw 256 cw, .string L.lower, .string UP, .slice ac L.nc cc, .slice ae L.ne ce], .int .i64 0, .int .i64 0]) ∧ LocM w' (chgU L a (t % 256)) (.slice aw 256 cw) (.slice ac L.nc cc) (.slice ae L.ne ce) ∧ Below w.heap.size w w' := by rw [← hUP]; exact hp3
  have hs1 : ∀ (W1 C1 E1 W2 C2 E2 : Value) (w : World), LocM w (chgW L a t) W1 C1 E1 → LocM w (chgW L a t) W2 C2 E2 → Calls Tryd.prog 23 #[.agg #[.string L.name, W1, .string L.lower, .string L.upper, C1, E1], .agg #[.string L.name, W2, .string L.lower, .string L.upper, C2, E2]] w fun e w' => e = .returned (.bool true) ∧ Below w.heap.size w w' := HS1.out
  have hs2 : ∀ (W1 C1 E1 W2 C2 E2 : Value) (w : World), LocM w (chgL L a (t % 256)) W1 C1 E1 → LocM w (chgL L a (t % 256)) W2 C2 E2 → Calls Tryd.prog 23 #[.agg #[.string L.name, W1, .string LO, .string L.upper, C1, E1], .agg #[.string L.name, W2, .string LO, .string L.upper, C2, E2]] w fun e w' => e = .returned (.bool true) ∧ Below w.heap.size w w' := by rw [← hLO]; exact HS2.out
  have hs3 : ∀ (W1 C1 E1 W2 C2 E2 : Value) (w : World), LocM w (chgU L a (t % 256)) W1 C1 E1 → LocM w (chgU L a (t % 256)) W2 C2 E2 → Calls Tryd.prog 23 #[.agg #[.string L.name, W1, .string L.lower, .string UP, C1, E1], .agg #[.string L.name, W2, .string L.lower, .string UP, C2, E2]] w fun e w' => e = .returned (.bool true) ∧ Below w.heap.size w w' := by rw [← hUP]; exact HS3.out
  rw [hLO] at hch1
  rw [hUP] at hch2
  have HC1 := Lib.hid hch1
  have HC2 := Lib.hid hch2
  have HP1 := Lib.hid hq1
  have HP2 := Lib.hid hq2
  have HP3 := Lib.hid hq3
  have HQ1 := Lib.hid hs1
  have HQ2 := Lib.hid hs2
  have HQ3 := Lib.hid hs3
  clear hq1 hq2 hq3 hs1 hs2 hs3 hLO hUP HS1 HS2 HS3
  have HGd := Lib.hid hgd
  obtain ⟨⟨aw0, cw0, hw0, -, kw⟩, ⟨ac0, cc0, hc0, -⟩, ⟨ae0, ce0, he0, -⟩⟩ := hM
  rw [hv.nw] at hw0 kw
  subst hw0
  subst hc0
  subst he0
  rcases kw with h0 | ⟨b0, o0, rfl, lw0, kw⟩
  · omega
  have Kw := Lib.hid kw
  have HB : Hid (Below w.heap.size w (w.alloc (.cells (lcl L (.slice (some ⟨b0, o0, none⟩) 256 cw0) (.slice ac0 L.nc cc0) (.slice ae0 L.ne ce0)) 26))) := (Below.refl _ _).alloc (Nat.le_refl _) _
  have HA : Hid (LAt (w.alloc (.cells (lcl L (.slice (some ⟨b0, o0, none⟩) 256 cw0) (.slice ac0 L.nc cc0) (.slice ae0 L.ne ce0)) 26)) w.heap.size (lcl L (.slice (some ⟨b0, o0, none⟩) 256 cw0) (.slice ac0 L.nc cc0) (.slice ae0 L.ne ce0))) := heap_alloc_new w _
  unfold lcl at *
  obtain ⟨⟨x0, x1, x2⟩, ⟨x3, x4, x5⟩, xf⟩ := HA.out.six
  have a256 : (a : Int) < 256 := by omega
  have t65 : (t : Int) < 65536 := by omega
  have hws : ∃ ws : List Value, ws.length = 256 ∧ (∀ j, j < 256 → ws[j]? = some (.int .i64 (L.wt j))) ∧ ∀ u ∈ ws, u.oneCell' = true := by
    refine ⟨(List.range 256).map fun j => .int .i64 (L.wt j), by simp, fun j hj => by rw [List.getElem?_map, List.getElem?_range hj]; rfl, fun u hu => ?_⟩
    obtain ⟨j, _, rfl⟩ := List.mem_map.1 hu
    rfl
  clear hT hCk hS hSz hp1 hp2 hp3 hgd hza hzt hzd hch1 hch2 kw
  go_enter Tryd.func8, Tryd.ntmps8
  go_upto_region 4 with (first
    | (go_at_call 20
       refine (HCk.out _ (HM0.out.below HB.out)).mono ?_
       rintro e w1 ⟨rfl, hb⟩
       have HB1 := Lib.hid (HB.out.trans (hb.mono HB.out.size))
       have HA1 := Lib.hid (HA.out.under hb HA.out.lt)
       clear x0 x1 x2 x3 x4 x5 xf hb
       obtain ⟨⟨x0, x1, x2⟩, ⟨x3, x4, x5⟩, xf⟩ := HA1.out.six)
    | (go_at_call 19
       refine (HFo.out _ (HM0.out.below HB1.out) (tab_keep HT.out HB1.out)).mono ?_
       rintro e w2 ⟨rfl, hb⟩
       have HB2 := Lib.hid (HB1.out.trans (hb.mono HB1.out.size))
       have HA2 := Lib.hid (HA1.out.under hb HA1.out.lt)
       clear x0 x1 x2 x3 x4 x5 xf hb)
    | (go_at_call 26
       with_reducible refine (HGa.out _).mono ?_
       rintro e w3 ⟨rfl, hb⟩
       have HB3 := Lib.hid (HB2.out.trans (hb.mono HB2.out.size))
       have HA3 := Lib.hid (HA2.out.under hb HA2.out.lt)
       clear hb)
    | (go_at_call 26
       with_reducible refine (HGd.out _).mono ?_
       rintro e w4 ⟨rfl, hb⟩
       have HB4 := Lib.hid (HB3.out.trans (hb.mono HB3.out.size))
       have HA4 := Lib.hid (HA3.out.under hb HA3.out.lt)
       clear hb))
  go_cut [10, 11, 12] (fun x y z wx => ∃ g1 g2 g3 : Nat, x = .pointer (some ⟨g1, 0, none⟩) ∧ y = .pointer (some ⟨g2, 0, none⟩) ∧ z = .pointer (some ⟨g3, 0, none⟩) ∧ Hid (C3 w w.heap.size #[.string L.name, .slice (some ⟨b0, o0, none⟩) 256 cw0, .string L.lower, .string L.upper, .slice ac0 L.nc cc0, .slice ae0 L.ne ce0] g1 g2 g3 wx))
  case first =>
    refine wp_region_held_drew (S := fun w' => LAt w' w.heap.size #[.string L.name, .slice (some ⟨b0, o0, none⟩) 256 cw0, .string L.lower, .string L.upper, .slice ac0 L.nc cc0, .slice ae0 L.ne ce0]) (by kernel_rfl) ?_ (fun hHeld => ?_)
    · exact HA4.out.under (Below.refl _ _).drew HA4.out.lt
    refine wpAnyH_take (i := 0) (v := ?av0) rfl (by kernel_rfl) (by kernel_rfl) (by kernel_rfl) (fun _ _ _ h => h) (Or.inl ⟨by rfl, ?ay0⟩) (by assumption) ?ar0
    case ay0 =>
      intro wx hSw
      have hs6 := hSw.six
      obtain ⟨⟨z0, z1, z2⟩, ⟨z3, z4, z5⟩, zf⟩ := hs6
      clear hSw
      go_simp
      first | done | (with_reducible rfl)
    (try simp only [Act.put, List.getElem_toArray, List.getElem_cons_zero, List.setIfInBounds_toArray, List.set_cons_zero, List.set_cons_succ])
    refine wpAnyH_take (i := 1) (v := ?av1) rfl (by kernel_rfl) (by kernel_rfl) (by kernel_rfl) (fun _ _ _ h => h) (Or.inl ⟨by rfl, ?ay1⟩) (by assumption) ?ar1
    case ay1 =>
      intro wx hSw
      have hs6 := hSw.six
      obtain ⟨⟨z0, z1, z2⟩, ⟨z3, z4, z5⟩, zf⟩ := hs6
      clear hSw
      go_simp
      first | done | (with_reducible rfl)
    (try simp only [Act.put, List.getElem_toArray, List.getElem_cons_succ, List.getElem_cons_zero, List.setIfInBounds_toArray, List.set_cons_zero, List.set_cons_succ])
    refine wpAnyH_take (i := 2) (v := ?av2) rfl (by kernel_rfl) (by kernel_rfl) (by kernel_rfl) (fun _ _ _ h => h) (Or.inl ⟨by rfl, ?ay2⟩) (by assumption) ?ar2
    case ay2 =>
      intro wx hSw
      have hs6 := hSw.six
      obtain ⟨⟨z0, z1, z2⟩, ⟨z3, z4, z5⟩, zf⟩ := hs6
      clear hSw
      go_simp
      first | done | (with_reducible rfl)
    (try simp only [Act.put, List.getElem_toArray, List.getElem_cons_succ, List.getElem_cons_zero, List.setIfInBounds_toArray, List.set_cons_zero, List.set_cons_succ])
    refine wpAnyH_ready (rs := [3, 4, 5]) (by kernel_rfl) (by simp) ?_
    refine AllReadyH.cons rfl (fun K hK => ?_) (AllReadyH.cons rfl (fun K hK => ?_) (AllReadyH.cons rfl (fun K hK => ?_) (AllReadyH.nil)))
    · go_simp
      refine hK.out _ _ ?_ (fun _ => ?_)
      · exact HA4.out.under (((Below.refl w4.heap.size w4).alloc (Nat.le_refl _) _).drew) HA4.out.lt
      clear hK K
      (try simp only [Act.put, List.getElem_toArray, List.getElem_cons_succ, List.getElem_cons_zero, List.setIfInBounds_toArray, List.set_cons_zero, List.set_cons_succ])
      refine wpAnyH_ready (rs := [4, 5]) (by kernel_rfl) (by simp) ?_
      refine AllReadyH.cons rfl (fun K hK => ?_) (AllReadyH.cons rfl (fun K hK => ?_) (AllReadyH.nil))
      · go_simp
        refine hK.out _ _ ?_ (fun _ => ?_)
        · exact HA4.out.under ((((Below.refl w4.heap.size w4).alloc (Nat.le_refl _) _).alloc (by simp) _).drew) HA4.out.lt
        clear hK K
        (try simp only [Act.put, List.getElem_toArray, List.getElem_cons_succ, List.getElem_cons_zero, List.setIfInBounds_toArray, List.set_cons_zero, List.set_cons_succ])
        refine wpAnyH_ready (rs := [5]) (by kernel_rfl) (by simp) ?_
        refine AllReadyH.cons rfl (fun K hK => ?_) AllReadyH.nil
        go_simp
        refine hK.out _ _ ?_ (fun _ => ?_)
        · exact HA4.out.under (((((Below.refl w4.heap.size w4).alloc (Nat.le_refl _) _).alloc (by simp) _).alloc (by simp; omega) _).drew) HA4.out.lt
        clear hK K
        (try simp only [Act.put, List.getElem_toArray, List.getElem_cons_succ, List.getElem_cons_zero, List.setIfInBounds_toArray, List.set_cons_zero, List.set_cons_succ])
        obtain ⟨hc3, e1, e2, za, zb, zc⟩ := c3_three (w0 := w) w4.heap.size rfl HB4.out HA4.out HB4.out.size (w4.heap.size) (w4.heap.size + 1) (w4.heap.size + 2) (by omega) (by omega) (by omega) (by omega) (by omega) (by omega) (W := ((((w4.alloc (.cells zeroL 26)).alloc (.cells zeroL 26)).alloc (.cells zeroL 26))).drew) (have h := zeros_three w4 w.heap.size _ HA4.out; ⟨h.1, h.2.1, h.2.2.1, h.2.2.2.1, h.2.2.2.2.drew⟩)
        have HC3 := Lib.hid hc3
        have E1 := Lib.hid e1
        have E2 := Lib.hid e2
        have ZA := Lib.hid za
        have ZB := Lib.hid zb
        have ZC := Lib.hid zc
        clear hc3 e1 e2 za zb zc
        refine wpAnyH_ready (rs := [6]) (by kernel_rfl) (by simp) ?_
        refine AllReadyH.cons rfl (fun K hK => ?_) AllReadyH.nil
        rw [if_pos (by rfl)]
        refine wp_store_row 26 _ _ rfl (w4.heap.size) #[.string L.name, .slice (some ⟨b0, o0, none⟩) 256 cw0, .string L.lower, .string L.upper, .slice ac0 L.nc cc0, .slice ae0 L.ne ce0] rfl rfl 26 zeroL ZA.out infoL4 rfl (by simp [Value.oneCell']) ?_
        refine hK.out _ _ ?_ (fun _ => ?_)
        · exact E1.out
        clear hK K
        (try simp only [Act.put, List.getElem_toArray, List.getElem_cons_succ, List.getElem_cons_zero])
        refine wpAnyH_ready (rs := [7]) (by kernel_rfl) (by simp) ?_
        refine AllReadyH.cons rfl (fun K hK => ?_) AllReadyH.nil
        rw [if_pos (by rfl)]
        refine wp_store_row 26 _ _ rfl (w4.heap.size + 1) #[.string L.name, .slice (some ⟨b0, o0, none⟩) 256 cw0, .string L.lower, .string L.upper, .slice ac0 L.nc cc0, .slice ae0 L.ne ce0] rfl rfl 26 zeroL ZB.out infoL4 rfl (by simp [Value.oneCell']) ?_
        refine hK.out _ _ ?_ (fun _ => ?_)
        · exact E2.out
        clear hK K
        (try simp only [Act.put, List.getElem_toArray, List.getElem_cons_succ, List.getElem_cons_zero])
        refine wpAnyH_ready (rs := [8]) (by kernel_rfl) (by simp) ?_
        refine AllReadyH.cons rfl (fun K hK => ?_) AllReadyH.nil
        rw [if_pos (by rfl)]
        refine wp_store_row 26 _ _ rfl (w4.heap.size + 2) #[.string L.name, .slice (some ⟨b0, o0, none⟩) 256 cw0, .string L.lower, .string L.upper, .slice ac0 L.nc cc0, .slice ae0 L.ne ce0] rfl rfl 26 zeroL ZC.out infoL4 rfl (by simp [Value.oneCell']) ?_
        refine hK.out _ _ ?_ (fun _ => ?_)
        · exact HC3.out.2.1
        clear hK K
        (try simp only [Act.put, List.getElem_toArray, List.getElem_cons_succ, List.getElem_cons_zero])
        refine wpAnyH_done (by kernel_rfl) ?_ _
        go_wp2
        go_meet
        case rel => exact ⟨w4.heap.size, w4.heap.size + 1, w4.heap.size + 2, rfl, rfl, rfl, HC3.out⟩
      · go_simp
        refine hK.out _ _ ?_ (fun _ => ?_)
        · exact HA4.out.under ((((Below.refl w4.heap.size w4).alloc (Nat.le_refl _) _).alloc (by simp) _).drew) HA4.out.lt
        clear hK K
        (try simp only [Act.put, List.getElem_toArray, List.getElem_cons_succ, List.getElem_cons_zero, List.setIfInBounds_toArray, List.set_cons_zero, List.set_cons_succ])
        refine wpAnyH_ready (rs := [4]) (by kernel_rfl) (by simp) ?_
        refine AllReadyH.cons rfl (fun K hK => ?_) AllReadyH.nil
        go_simp
        refine hK.out _ _ ?_ (fun _ => ?_)
        · exact HA4.out.under (((((Below.refl w4.heap.size w4).alloc (Nat.le_refl _) _).alloc (by simp) _).alloc (by simp; omega) _).drew) HA4.out.lt
        clear hK K
        (try simp only [Act.put, List.getElem_toArray, List.getElem_cons_succ, List.getElem_cons_zero, List.setIfInBounds_toArray, List.set_cons_zero, List.set_cons_succ])
        obtain ⟨hc3, e1, e2, za, zb, zc⟩ := c3_three (w0 := w) w4.heap.size rfl HB4.out HA4.out HB4.out.size (w4.heap.size) (w4.heap.size + 2) (w4.heap.size + 1) (by omega) (by omega) (by omega) (by omega) (by omega) (by omega) (W := ((((w4.alloc (.cells zeroL 26)).alloc (.cells zeroL 26)).alloc (.cells zeroL 26))).drew) (have h := zeros_three w4 w.heap.size _ HA4.out; ⟨h.1, h.2.1, h.2.2.1, h.2.2.2.1, h.2.2.2.2.drew⟩)
        have HC3 := Lib.hid hc3
        have E1 := Lib.hid e1
        have E2 := Lib.hid e2
        have ZA := Lib.hid za
        have ZB := Lib.hid zb
        have ZC := Lib.hid zc
        clear hc3 e1 e2 za zb zc
        refine wpAnyH_ready (rs := [6]) (by kernel_rfl) (by simp) ?_
        refine AllReadyH.cons rfl (fun K hK => ?_) AllReadyH.nil
        rw [if_pos (by rfl)]
        refine wp_store_row 26 _ _ rfl (w4.heap.size) #[.string L.name, .slice (some ⟨b0, o0, none⟩) 256 cw0, .string L.lower, .string L.upper, .slice ac0 L.nc cc0, .slice ae0 L.ne ce0] rfl rfl 26 zeroL ZA.out infoL4 rfl (by simp [Value.oneCell']) ?_
        refine hK.out _ _ ?_ (fun _ => ?_)
        · exact E1.out
        clear hK K
        (try simp only [Act.put, List.getElem_toArray, List.getElem_cons_succ, List.getElem_cons_zero])
        refine wpAnyH_ready (rs := [7]) (by kernel_rfl) (by simp) ?_
        refine AllReadyH.cons rfl (fun K hK => ?_) AllReadyH.nil
        rw [if_pos (by rfl)]
        refine wp_store_row 26 _ _ rfl (w4.heap.size + 2) #[.string L.name, .slice (some ⟨b0, o0, none⟩) 256 cw0, .string L.lower, .string L.upper, .slice ac0 L.nc cc0, .slice ae0 L.ne ce0] rfl rfl 26 zeroL ZB.out infoL4 rfl (by simp [Value.oneCell']) ?_
        refine hK.out _ _ ?_ (fun _ => ?_)
        · exact E2.out
        clear hK K
        (try simp only [Act.put, List.getElem_toArray, List.getElem_cons_succ, List.getElem_cons_zero])
        refine wpAnyH_ready (rs := [8]) (by kernel_rfl) (by simp) ?_
        refine AllReadyH.cons rfl (fun K hK => ?_) AllReadyH.nil
        rw [if_pos (by rfl)]
        refine wp_store_row 26 _ _ rfl (w4.heap.size + 1) #[.string L.name, .slice (some ⟨b0, o0, none⟩) 256 cw0, .string L.lower, .string L.upper, .slice ac0 L.nc cc0, .slice ae0 L.ne ce0] rfl rfl 26 zeroL ZC.out infoL4 rfl (by simp [Value.oneCell']) ?_
        refine hK.out _ _ ?_ (fun _ => ?_)
        · exact HC3.out.2.1
        clear hK K
        (try simp only [Act.put, List.getElem_toArray, List.getElem_cons_succ, List.getElem_cons_zero])
        refine wpAnyH_done (by kernel_rfl) ?_ _
        go_wp2
        go_meet
        case rel => exact ⟨w4.heap.size, w4.heap.size + 2, w4.heap.size + 1, rfl, rfl, rfl, HC3.out⟩
    · go_simp
      refine hK.out _ _ ?_ (fun _ => ?_)
      · exact HA4.out.under (((Below.refl w4.heap.size w4).alloc (Nat.le_refl _) _).drew) HA4.out.lt
      clear hK K
      (try simp only [Act.put, List.getElem_toArray, List.getElem_cons_succ, List.getElem_cons_zero, List.setIfInBounds_toArray, List.set_cons_zero, List.set_cons_succ])
      refine wpAnyH_ready (rs := [3, 5]) (by kernel_rfl) (by simp) ?_
      refine AllReadyH.cons rfl (fun K hK => ?_) (AllReadyH.cons rfl (fun K hK => ?_) (AllReadyH.nil))
      · go_simp
        refine hK.out _ _ ?_ (fun _ => ?_)
        · exact HA4.out.under ((((Below.refl w4.heap.size w4).alloc (Nat.le_refl _) _).alloc (by simp) _).drew) HA4.out.lt
        clear hK K
        (try simp only [Act.put, List.getElem_toArray, List.getElem_cons_succ, List.getElem_cons_zero, List.setIfInBounds_toArray, List.set_cons_zero, List.set_cons_succ])
        refine wpAnyH_ready (rs := [5]) (by kernel_rfl) (by simp) ?_
        refine AllReadyH.cons rfl (fun K hK => ?_) AllReadyH.nil
        go_simp
        refine hK.out _ _ ?_ (fun _ => ?_)
        · exact HA4.out.under (((((Below.refl w4.heap.size w4).alloc (Nat.le_refl _) _).alloc (by simp) _).alloc (by simp; omega) _).drew) HA4.out.lt
        clear hK K
        (try simp only [Act.put, List.getElem_toArray, List.getElem_cons_succ, List.getElem_cons_zero, List.setIfInBounds_toArray, List.set_cons_zero, List.set_cons_succ])
        obtain ⟨hc3, e1, e2, za, zb, zc⟩ := c3_three (w0 := w) w4.heap.size rfl HB4.out HA4.out HB4.out.size (w4.heap.size + 1) (w4.heap.size) (w4.heap.size + 2) (by omega) (by omega) (by omega) (by omega) (by omega) (by omega) (W := ((((w4.alloc (.cells zeroL 26)).alloc (.cells zeroL 26)).alloc (.cells zeroL 26))).drew) (have h := zeros_three w4 w.heap.size _ HA4.out; ⟨h.1, h.2.1, h.2.2.1, h.2.2.2.1, h.2.2.2.2.drew⟩)
        have HC3 := Lib.hid hc3
        have E1 := Lib.hid e1
        have E2 := Lib.hid e2
        have ZA := Lib.hid za
        have ZB := Lib.hid zb
        have ZC := Lib.hid zc
        clear hc3 e1 e2 za zb zc
        refine wpAnyH_ready (rs := [6]) (by kernel_rfl) (by simp) ?_
        refine AllReadyH.cons rfl (fun K hK => ?_) AllReadyH.nil
        rw [if_pos (by rfl)]
        refine wp_store_row 26 _ _ rfl (w4.heap.size + 1) #[.string L.name, .slice (some ⟨b0, o0, none⟩) 256 cw0, .string L.lower, .string L.upper, .slice ac0 L.nc cc0, .slice ae0 L.ne ce0] rfl rfl 26 zeroL ZA.out infoL4 rfl (by simp [Value.oneCell']) ?_
        refine hK.out _ _ ?_ (fun _ => ?_)
        · exact E1.out
        clear hK K
        (try simp only [Act.put, List.getElem_toArray, List.getElem_cons_succ, List.getElem_cons_zero])
        refine wpAnyH_ready (rs := [7]) (by kernel_rfl) (by simp) ?_
        refine AllReadyH.cons rfl (fun K hK => ?_) AllReadyH.nil
        rw [if_pos (by rfl)]
        refine wp_store_row 26 _ _ rfl (w4.heap.size) #[.string L.name, .slice (some ⟨b0, o0, none⟩) 256 cw0, .string L.lower, .string L.upper, .slice ac0 L.nc cc0, .slice ae0 L.ne ce0] rfl rfl 26 zeroL ZB.out infoL4 rfl (by simp [Value.oneCell']) ?_
        refine hK.out _ _ ?_ (fun _ => ?_)
        · exact E2.out
        clear hK K
        (try simp only [Act.put, List.getElem_toArray, List.getElem_cons_succ, List.getElem_cons_zero])
        refine wpAnyH_ready (rs := [8]) (by kernel_rfl) (by simp) ?_
        refine AllReadyH.cons rfl (fun K hK => ?_) AllReadyH.nil
        rw [if_pos (by rfl)]
        refine wp_store_row 26 _ _ rfl (w4.heap.size + 2) #[.string L.name, .slice (some ⟨b0, o0, none⟩) 256 cw0, .string L.lower, .string L.upper, .slice ac0 L.nc cc0, .slice ae0 L.ne ce0] rfl rfl 26 zeroL ZC.out infoL4 rfl (by simp [Value.oneCell']) ?_
        refine hK.out _ _ ?_ (fun _ => ?_)
        · exact HC3.out.2.1
        clear hK K
        (try simp only [Act.put, List.getElem_toArray, List.getElem_cons_succ, List.getElem_cons_zero])
        refine wpAnyH_done (by kernel_rfl) ?_ _
        go_wp2
        go_meet
        case rel => exact ⟨w4.heap.size + 1, w4.heap.size, w4.heap.size + 2, rfl, rfl, rfl, HC3.out⟩
      · go_simp
        refine hK.out _ _ ?_ (fun _ => ?_)
        · exact HA4.out.under ((((Below.refl w4.heap.size w4).alloc (Nat.le_refl _) _).alloc (by simp) _).drew) HA4.out.lt
        clear hK K
        (try simp only [Act.put, List.getElem_toArray, List.getElem_cons_succ, List.getElem_cons_zero, List.setIfInBounds_toArray, List.set_cons_zero, List.set_cons_succ])
        refine wpAnyH_ready (rs := [3]) (by kernel_rfl) (by simp) ?_
        refine AllReadyH.cons rfl (fun K hK => ?_) AllReadyH.nil
        go_simp
        refine hK.out _ _ ?_ (fun _ => ?_)
        · exact HA4.out.under (((((Below.refl w4.heap.size w4).alloc (Nat.le_refl _) _).alloc (by simp) _).alloc (by simp; omega) _).drew) HA4.out.lt
        clear hK K
        (try simp only [Act.put, List.getElem_toArray, List.getElem_cons_succ, List.getElem_cons_zero, List.setIfInBounds_toArray, List.set_cons_zero, List.set_cons_succ])
        obtain ⟨hc3, e1, e2, za, zb, zc⟩ := c3_three (w0 := w) w4.heap.size rfl HB4.out HA4.out HB4.out.size (w4.heap.size + 2) (w4.heap.size) (w4.heap.size + 1) (by omega) (by omega) (by omega) (by omega) (by omega) (by omega) (W := ((((w4.alloc (.cells zeroL 26)).alloc (.cells zeroL 26)).alloc (.cells zeroL 26))).drew) (have h := zeros_three w4 w.heap.size _ HA4.out; ⟨h.1, h.2.1, h.2.2.1, h.2.2.2.1, h.2.2.2.2.drew⟩)
        have HC3 := Lib.hid hc3
        have E1 := Lib.hid e1
        have E2 := Lib.hid e2
        have ZA := Lib.hid za
        have ZB := Lib.hid zb
        have ZC := Lib.hid zc
        clear hc3 e1 e2 za zb zc
        refine wpAnyH_ready (rs := [6]) (by kernel_rfl) (by simp) ?_
        refine AllReadyH.cons rfl (fun K hK => ?_) AllReadyH.nil
        rw [if_pos (by rfl)]
        refine wp_store_row 26 _ _ rfl (w4.heap.size + 2) #[.string L.name, .slice (some ⟨b0, o0, none⟩) 256 cw0, .string L.lower, .string L.upper, .slice ac0 L.nc cc0, .slice ae0 L.ne ce0] rfl rfl 26 zeroL ZA.out infoL4 rfl (by simp [Value.oneCell']) ?_
        refine hK.out _ _ ?_ (fun _ => ?_)
        · exact E1.out
        clear hK K
        (try simp only [Act.put, List.getElem_toArray, List.getElem_cons_succ, List.getElem_cons_zero])
        refine wpAnyH_ready (rs := [7]) (by kernel_rfl) (by simp) ?_
        refine AllReadyH.cons rfl (fun K hK => ?_) AllReadyH.nil
        rw [if_pos (by rfl)]
        refine wp_store_row 26 _ _ rfl (w4.heap.size) #[.string L.name, .slice (some ⟨b0, o0, none⟩) 256 cw0, .string L.lower, .string L.upper, .slice ac0 L.nc cc0, .slice ae0 L.ne ce0] rfl rfl 26 zeroL ZB.out infoL4 rfl (by simp [Value.oneCell']) ?_
        refine hK.out _ _ ?_ (fun _ => ?_)
        · exact E2.out
        clear hK K
        (try simp only [Act.put, List.getElem_toArray, List.getElem_cons_succ, List.getElem_cons_zero])
        refine wpAnyH_ready (rs := [8]) (by kernel_rfl) (by simp) ?_
        refine AllReadyH.cons rfl (fun K hK => ?_) AllReadyH.nil
        rw [if_pos (by rfl)]
        refine wp_store_row 26 _ _ rfl (w4.heap.size + 1) #[.string L.name, .slice (some ⟨b0, o0, none⟩) 256 cw0, .string L.lower, .string L.upper, .slice ac0 L.nc cc0, .slice ae0 L.ne ce0] rfl rfl 26 zeroL ZC.out infoL4 rfl (by simp [Value.oneCell']) ?_
        refine hK.out _ _ ?_ (fun _ => ?_)
        · exact HC3.out.2.1
        clear hK K
        (try simp only [Act.put, List.getElem_toArray, List.getElem_cons_succ, List.getElem_cons_zero])
        refine wpAnyH_done (by kernel_rfl) ?_ _
        go_wp2
        go_meet
        case rel => exact ⟨w4.heap.size + 2, w4.heap.size, w4.heap.size + 1, rfl, rfl, rfl, HC3.out⟩
    · go_simp
      refine hK.out _ _ ?_ (fun _ => ?_)
      · exact HA4.out.under (((Below.refl w4.heap.size w4).alloc (Nat.le_refl _) _).drew) HA4.out.lt
      clear hK K
      (try simp only [Act.put, List.getElem_toArray, List.getElem_cons_succ, List.getElem_cons_zero, List.setIfInBounds_toArray, List.set_cons_zero, List.set_cons_succ])
      refine wpAnyH_ready (rs := [3, 4]) (by kernel_rfl) (by simp) ?_
      refine AllReadyH.cons rfl (fun K hK => ?_) (AllReadyH.cons rfl (fun K hK => ?_) (AllReadyH.nil))
      · go_simp
        refine hK.out _ _ ?_ (fun _ => ?_)
        · exact HA4.out.under ((((Below.refl w4.heap.size w4).alloc (Nat.le_refl _) _).alloc (by simp) _).drew) HA4.out.lt
        clear hK K
        (try simp only [Act.put, List.getElem_toArray, List.getElem_cons_succ, List.getElem_cons_zero, List.setIfInBounds_toArray, List.set_cons_zero, List.set_cons_succ])
        refine wpAnyH_ready (rs := [4]) (by kernel_rfl) (by simp) ?_
        refine AllReadyH.cons rfl (fun K hK => ?_) AllReadyH.nil
        go_simp
        refine hK.out _ _ ?_ (fun _ => ?_)
        · exact HA4.out.under (((((Below.refl w4.heap.size w4).alloc (Nat.le_refl _) _).alloc (by simp) _).alloc (by simp; omega) _).drew) HA4.out.lt
        clear hK K
        (try simp only [Act.put, List.getElem_toArray, List.getElem_cons_succ, List.getElem_cons_zero, List.setIfInBounds_toArray, List.set_cons_zero, List.set_cons_succ])
        obtain ⟨hc3, e1, e2, za, zb, zc⟩ := c3_three (w0 := w) w4.heap.size rfl HB4.out HA4.out HB4.out.size (w4.heap.size + 1) (w4.heap.size + 2) (w4.heap.size) (by omega) (by omega) (by omega) (by omega) (by omega) (by omega) (W := ((((w4.alloc (.cells zeroL 26)).alloc (.cells zeroL 26)).alloc (.cells zeroL 26))).drew) (have h := zeros_three w4 w.heap.size _ HA4.out; ⟨h.1, h.2.1, h.2.2.1, h.2.2.2.1, h.2.2.2.2.drew⟩)
        have HC3 := Lib.hid hc3
        have E1 := Lib.hid e1
        have E2 := Lib.hid e2
        have ZA := Lib.hid za
        have ZB := Lib.hid zb
        have ZC := Lib.hid zc
        clear hc3 e1 e2 za zb zc
        refine wpAnyH_ready (rs := [6]) (by kernel_rfl) (by simp) ?_
        refine AllReadyH.cons rfl (fun K hK => ?_) AllReadyH.nil
        rw [if_pos (by rfl)]
        refine wp_store_row 26 _ _ rfl (w4.heap.size + 1) #[.string L.name, .slice (some ⟨b0, o0, none⟩) 256 cw0, .string L.lower, .string L.upper, .slice ac0 L.nc cc0, .slice ae0 L.ne ce0] rfl rfl 26 zeroL ZA.out infoL4 rfl (by simp [Value.oneCell']) ?_
        refine hK.out _ _ ?_ (fun _ => ?_)
        · exact E1.out
        clear hK K
        (try simp only [Act.put, List.getElem_toArray, List.getElem_cons_succ, List.getElem_cons_zero])
        refine wpAnyH_ready (rs := [7]) (by kernel_rfl) (by simp) ?_
        refine AllReadyH.cons rfl (fun K hK => ?_) AllReadyH.nil
        rw [if_pos (by rfl)]
        refine wp_store_row 26 _ _ rfl (w4.heap.size + 2) #[.string L.name, .slice (some ⟨b0, o0, none⟩) 256 cw0, .string L.lower, .string L.upper, .slice ac0 L.nc cc0, .slice ae0 L.ne ce0] rfl rfl 26 zeroL ZB.out infoL4 rfl (by simp [Value.oneCell']) ?_
        refine hK.out _ _ ?_ (fun _ => ?_)
        · exact E2.out
        clear hK K
        (try simp only [Act.put, List.getElem_toArray, List.getElem_cons_succ, List.getElem_cons_zero])
        refine wpAnyH_ready (rs := [8]) (by kernel_rfl) (by simp) ?_
        refine AllReadyH.cons rfl (fun K hK => ?_) AllReadyH.nil
        rw [if_pos (by rfl)]
        refine wp_store_row 26 _ _ rfl (w4.heap.size) #[.string L.name, .slice (some ⟨b0, o0, none⟩) 256 cw0, .string L.lower, .string L.upper, .slice ac0 L.nc cc0, .slice ae0 L.ne ce0] rfl rfl 26 zeroL ZC.out infoL4 rfl (by simp [Value.oneCell']) ?_
        refine hK.out _ _ ?_ (fun _ => ?_)
        · exact HC3.out.2.1
        clear hK K
        (try simp only [Act.put, List.getElem_toArray, List.getElem_cons_succ, List.getElem_cons_zero])
        refine wpAnyH_done (by kernel_rfl) ?_ _
        go_wp2
        go_meet
        case rel => exact ⟨w4.heap.size + 1, w4.heap.size + 2, w4.heap.size, rfl, rfl, rfl, HC3.out⟩
      · go_simp
        refine hK.out _ _ ?_ (fun _ => ?_)
        · exact HA4.out.under ((((Below.refl w4.heap.size w4).alloc (Nat.le_refl _) _).alloc (by simp) _).drew) HA4.out.lt
        clear hK K
        (try simp only [Act.put, List.getElem_toArray, List.getElem_cons_succ, List.getElem_cons_zero, List.setIfInBounds_toArray, List.set_cons_zero, List.set_cons_succ])
        refine wpAnyH_ready (rs := [3]) (by kernel_rfl) (by simp) ?_
        refine AllReadyH.cons rfl (fun K hK => ?_) AllReadyH.nil
        go_simp
        refine hK.out _ _ ?_ (fun _ => ?_)
        · exact HA4.out.under (((((Below.refl w4.heap.size w4).alloc (Nat.le_refl _) _).alloc (by simp) _).alloc (by simp; omega) _).drew) HA4.out.lt
        clear hK K
        (try simp only [Act.put, List.getElem_toArray, List.getElem_cons_succ, List.getElem_cons_zero, List.setIfInBounds_toArray, List.set_cons_zero, List.set_cons_succ])
        obtain ⟨hc3, e1, e2, za, zb, zc⟩ := c3_three (w0 := w) w4.heap.size rfl HB4.out HA4.out HB4.out.size (w4.heap.size + 2) (w4.heap.size + 1) (w4.heap.size) (by omega) (by omega) (by omega) (by omega) (by omega) (by omega) (W := ((((w4.alloc (.cells zeroL 26)).alloc (.cells zeroL 26)).alloc (.cells zeroL 26))).drew) (have h := zeros_three w4 w.heap.size _ HA4.out; ⟨h.1, h.2.1, h.2.2.1, h.2.2.2.1, h.2.2.2.2.drew⟩)
        have HC3 := Lib.hid hc3
        have E1 := Lib.hid e1
        have E2 := Lib.hid e2
        have ZA := Lib.hid za
        have ZB := Lib.hid zb
        have ZC := Lib.hid zc
        clear hc3 e1 e2 za zb zc
        refine wpAnyH_ready (rs := [6]) (by kernel_rfl) (by simp) ?_
        refine AllReadyH.cons rfl (fun K hK => ?_) AllReadyH.nil
        rw [if_pos (by rfl)]
        refine wp_store_row 26 _ _ rfl (w4.heap.size + 2) #[.string L.name, .slice (some ⟨b0, o0, none⟩) 256 cw0, .string L.lower, .string L.upper, .slice ac0 L.nc cc0, .slice ae0 L.ne ce0] rfl rfl 26 zeroL ZA.out infoL4 rfl (by simp [Value.oneCell']) ?_
        refine hK.out _ _ ?_ (fun _ => ?_)
        · exact E1.out
        clear hK K
        (try simp only [Act.put, List.getElem_toArray, List.getElem_cons_succ, List.getElem_cons_zero])
        refine wpAnyH_ready (rs := [7]) (by kernel_rfl) (by simp) ?_
        refine AllReadyH.cons rfl (fun K hK => ?_) AllReadyH.nil
        rw [if_pos (by rfl)]
        refine wp_store_row 26 _ _ rfl (w4.heap.size + 1) #[.string L.name, .slice (some ⟨b0, o0, none⟩) 256 cw0, .string L.lower, .string L.upper, .slice ac0 L.nc cc0, .slice ae0 L.ne ce0] rfl rfl 26 zeroL ZB.out infoL4 rfl (by simp [Value.oneCell']) ?_
        refine hK.out _ _ ?_ (fun _ => ?_)
        · exact E2.out
        clear hK K
        (try simp only [Act.put, List.getElem_toArray, List.getElem_cons_succ, List.getElem_cons_zero])
        refine wpAnyH_ready (rs := [8]) (by kernel_rfl) (by simp) ?_
        refine AllReadyH.cons rfl (fun K hK => ?_) AllReadyH.nil
        rw [if_pos (by rfl)]
        refine wp_store_row 26 _ _ rfl (w4.heap.size) #[.string L.name, .slice (some ⟨b0, o0, none⟩) 256 cw0, .string L.lower, .string L.upper, .slice ac0 L.nc cc0, .slice ae0 L.ne ce0] rfl rfl 26 zeroL ZC.out infoL4 rfl (by simp [Value.oneCell']) ?_
        refine hK.out _ _ ?_ (fun _ => ?_)
        · exact HC3.out.2.1
        clear hK K
        (try simp only [Act.put, List.getElem_toArray, List.getElem_cons_succ, List.getElem_cons_zero])
        refine wpAnyH_done (by kernel_rfl) ?_ _
        go_wp2
        go_meet
        case rel => exact ⟨w4.heap.size + 2, w4.heap.size + 1, w4.heap.size, rfl, rfl, rfl, HC3.out⟩
  case rest =>
    obtain ⟨g1, g2, g3, rfl, rfl, rfl, HC⟩ := hcut
    obtain ⟨hbc, q0, q1, q2, q3, ⟨d1, d2, d3⟩, d12, d13, d23⟩ := HC.out
    obtain ⟨ws, hwl, hwj, hw1⟩ := hws
    have hnews : ∀ j u, ws[j]? = some u → wc.cell? ((⟨b0, o0, none⟩ : Addr).add j) = some u := fun j u hu => by
      have hj : j < 256 := by rw [← hwl]; exact (List.getElem?_eq_some_iff.1 hu).1
      have e : (⟨b0, o0, none⟩ : Addr).add j = ⟨b0, o0 + j, none⟩ := by unfold Addr.add; split <;> simp_all
      rw [e, hbc.cell (by exact lw0)]
      have h1 := Kw.out j 0 hj (by decide)
      rw [hwj j hj] at hu
      cases hu
      simpa [wtF] using h1
    obtain ⟨iI, hiI, hzI0, hzI1, hzI2⟩ := info_parts infoI4
    have HNews := Lib.hid hnews
    have HWl := Lib.hid hwl
    have HWj := Lib.hid hwj
    have HW1 := Lib.hid hw1
    have HBc := Lib.hid hbc
    have P0c := Lib.hid q0
    have P1c := Lib.hid q1
    have P2c := Lib.hid q2
    have P3c := Lib.hid q3
    have l0 := q0.lt
    have l1 := q1.lt
    have l2 := q2.lt
    have l3 := q3.lt
    obtain ⟨⟨x0, x1, x2⟩, ⟨x3, x4, x5⟩, xf⟩ := q0.six
    clear hnews hwl hwj hw1 hbc q0 q1 q2 q3 HC
    go_upto_region 7 with (first
      | (at_builtin
         refine wpList_append_lies _ rfl (.tmp 39) (.tmp 41) 22 rfl 0 3 iI (.int .i64 0) 1 8 Tryd.underlying22 hiI hzI0 hzI1 hzI2 rfl (by decide) (.slice none 0 0) 0 [] rfl (World.ownsRow_nil _ _ _ _) ⟨b0, o0, none⟩ 256 cw0 ws rfl (by rw [HWl.out]) HNews.out HW1.out (by decide) (by decide) (by decide) (Nat.zero_le _) _ rfl ?_
         intro gw capw w5 ho hg hat hlt
         simp only [Nat.zero_add, List.nil_append] at ho
         have hb5 : Below wc.heap.size wc w5 := (Below.refl _ _).grown hg (Nat.le_refl _) (fun k e => by cases e)
         have hgw : gw = wc.heap.size := by
           rcases hat with h | h
           · cases h
           · exact h
         have HO5 := Lib.hid ho
         have HB5 := Lib.hid (HBc.out.trans (hb5.mono HBc.out.size))
         have P05 := Lib.hid (P0c.out.under hb5 P0c.out.lt)
         have P15 := Lib.hid (P1c.out.under hb5 P1c.out.lt)
         have P25 := Lib.hid (P2c.out.under hb5 P2c.out.lt)
         have P35 := Lib.hid (P3c.out.under hb5 P3c.out.lt)
         have hgg : w.heap.size < gw ∧ g1 < gw ∧ g2 < gw ∧ g3 < gw := by omega
         clear x0 x1 x2 x3 x4 x5 xf ho hg hat hb5 hgw))
    have hl5 : gw < w5.heap.size := hlt
    obtain ⟨_, _, hr5⟩ : ∃ cs5 : Array Value, (∀ j, j < 256 → cs5[j]? = some (.int .i64 (L.wt j))) ∧ w5.heap[gw]? = some (.cells cs5 3 (0, 0)) := by
      obtain ⟨h1, h2⟩ := HO5.out
      rcases h2 with ⟨e, h0⟩ | ⟨g, cap, cur, e, _, hg, hn, _, hs, ht⟩
      · cases e
      · cases e
        refine ⟨cur, fun j hj => ?_, hg⟩
        have h3 := HWj.out j hj
        rw [← ht, List.getElem?_take] at h3
        rw [if_pos (by omega)] at h3
        simpa using h3
    rename_i cs5 hcs5
    have HR5 := Lib.hid hr5
    have HCs5 := Lib.hid hcs5
    have hcap : 256 ≤ capw := by
      obtain ⟨h1, h2⟩ := HO5.out
      rcases h2 with ⟨e, h0⟩ | ⟨g, cap, cur, e, _, hg, hn, _⟩
      · cases e
      · cases e; exact hn
    clear hr5 hcs5
    obtain ⟨⟨y0, y1, y2⟩, ⟨y3, y4, y5⟩, yf⟩ := P15.out.six
    go_upto_region 8 with fail
    clear y0 y1 y2 y3 y4 y5 yf
    have hb6 : Below w.heap.size w (w5.setCell ⟨g1, 1, none⟩ (.slice (some ⟨gw, 0, none⟩) 256 capw)) := HB5.out.setCell (p := ⟨g1, 1, none⟩) (by show w.heap.size ≤ g1; omega) _
    have p06 : LAt (w5.setCell ⟨g1, 1, none⟩ (.slice (some ⟨gw, 0, none⟩) 256 capw)) w.heap.size #[.string L.name, .slice (some ⟨b0, o0, none⟩) 256 cw0, .string L.lower, .string L.upper, .slice ac0 L.nc cc0, .slice ae0 L.ne ce0] := P05.out.apart (.slice (some ⟨gw, 0, none⟩) 256 capw) (by omega)
    have p16 : LAt (w5.setCell ⟨g1, 1, none⟩ (.slice (some ⟨gw, 0, none⟩) 256 capw)) g1 #[.string L.name, .slice (some ⟨gw, 0, none⟩) 256 capw, .string L.lower, .string L.upper, .slice ac0 L.nc cc0, .slice ae0 L.ne ce0] := P15.out.put 1 (.slice (some ⟨gw, 0, none⟩) 256 capw)
    have p26 : LAt (w5.setCell ⟨g1, 1, none⟩ (.slice (some ⟨gw, 0, none⟩) 256 capw)) g2 #[.string L.name, .slice (some ⟨b0, o0, none⟩) 256 cw0, .string L.lower, .string L.upper, .slice ac0 L.nc cc0, .slice ae0 L.ne ce0] := P25.out.apart (.slice (some ⟨gw, 0, none⟩) 256 capw) (by omega)
    have p36 : LAt (w5.setCell ⟨g1, 1, none⟩ (.slice (some ⟨gw, 0, none⟩) 256 capw)) g3 #[.string L.name, .slice (some ⟨b0, o0, none⟩) 256 cw0, .string L.lower, .string L.upper, .slice ac0 L.nc cc0, .slice ae0 L.ne ce0] := P35.out.apart (.slice (some ⟨gw, 0, none⟩) 256 capw) (by omega)
    have hr6 : (w5.setCell ⟨g1, 1, none⟩ (.slice (some ⟨gw, 0, none⟩) 256 capw)).heap[gw]? = some (.cells cs5 3 (0, 0)) := (Below.heap_setCell w5 ⟨g1, 1, none⟩ (.slice (some ⟨gw, 0, none⟩) 256 capw) gw (by show gw ≠ g1; omega)).trans HR5.out
    generalize (w5.setCell ⟨g1, 1, none⟩ (.slice (some ⟨gw, 0, none⟩) 256 capw)) = w6 at hb6 p06 p16 p26 p36 hr6 ⊢
    have HB6 := Lib.hid hb6
    have P06 := Lib.hid p06
    have P16 := Lib.hid p16
    have P26 := Lib.hid p26
    have P36 := Lib.hid p36
    have HR6 := Lib.hid hr6
    have a0 : (0 : Int) ≤ (a : Int) := by omega
    have ca : w6.cell? ⟨gw, a, none⟩ = some (.int .i64 (L.wt a)) := (cell_of_row w6 gw a _ _ _ hr6).trans (HCs5.out a ha)
    have fa : w6.frozen? ⟨gw, a, none⟩ = false := frozen_of_row w6 gw a _ _ hr6
    clear hb6 p06 p16 p26 p36 hr6
    obtain ⟨⟨y0, y1, y2⟩, ⟨y3, y4, y5⟩, yf⟩ := P16.out.six
    go_upto_region 9 with fail
    clear ca fa y0 y1 y2 y3 y4 y5 yf
    have hb7 : Below w.heap.size w (w6.setCell ⟨gw, a, none⟩ (.int .i64 (t : Int))) := HB6.out.setCell (p := ⟨gw, a, none⟩) (by show w.heap.size ≤ gw; omega) _
    have p07 : LAt (w6.setCell ⟨gw, a, none⟩ (.int .i64 (t : Int))) w.heap.size #[.string L.name, .slice (some ⟨b0, o0, none⟩) 256 cw0, .string L.lower, .string L.upper, .slice ac0 L.nc cc0, .slice ae0 L.ne ce0] := P06.out.apart (.int .i64 (t : Int)) (by omega)
    have p17 : LAt (w6.setCell ⟨gw, a, none⟩ (.int .i64 (t : Int))) g1 #[.string L.name, .slice (some ⟨gw, 0, none⟩) 256 capw, .string L.lower, .string L.upper, .slice ac0 L.nc cc0, .slice ae0 L.ne ce0] := P16.out.apart (.int .i64 (t : Int)) (by omega)
    have p27 : LAt (w6.setCell ⟨gw, a, none⟩ (.int .i64 (t : Int))) g2 #[.string L.name, .slice (some ⟨b0, o0, none⟩) 256 cw0, .string L.lower, .string L.upper, .slice ac0 L.nc cc0, .slice ae0 L.ne ce0] := P26.out.apart (.int .i64 (t : Int)) (by omega)
    have p37 : LAt (w6.setCell ⟨gw, a, none⟩ (.int .i64 (t : Int))) g3 #[.string L.name, .slice (some ⟨b0, o0, none⟩) 256 cw0, .string L.lower, .string L.upper, .slice ac0 L.nc cc0, .slice ae0 L.ne ce0] := P36.out.apart (.int .i64 (t : Int)) (by omega)
    have hr7 : (w6.setCell ⟨gw, a, none⟩ (.int .i64 (t : Int))).heap[gw]? = some (.cells (cs5.setIfInBounds a (.int .i64 (t : Int))) 3 (0, 0)) := heap_setCell_same w6 gw a _ _ _ HR6.out
    generalize (w6.setCell ⟨gw, a, none⟩ (.int .i64 (t : Int))) = w7 at hb7 p07 p17 p27 p37 hr7 ⊢
    have hsl : SL 1 256 (wtF (chgW L a t)) w7 (.slice (some ⟨gw, 0, none⟩) 256 capw) := by
      refine ⟨_, capw, rfl, hcap, .inr ⟨gw, 0, rfl, (Array.getElem?_eq_some_iff.1 hr7).1, fun j i hj hi => ?_⟩⟩
      obtain rfl : i = 0 := by omega
      have e : 0 + j * 1 + 0 = j := by omega
      rw [e, cell_of_row w7 gw j _ _ _ hr7, Array.getElem?_setIfInBounds]
      show _ = some (Value.int .i64 (if j = a then (t : Int) else L.wt j))
      have hsz : a < cs5.size := (Array.getElem?_eq_some_iff.1 (HCs5.out a ha)).1
      by_cases hja : j = a
      · subst hja
        rw [if_pos rfl, if_pos hsz, if_pos rfl]
      · rw [if_neg (fun e => hja e.symm), if_neg hja]
        exact HCs5.out j hj
    have HB7 := Lib.hid hb7
    have P07 := Lib.hid p07
    have P17 := Lib.hid p17
    have P27 := Lib.hid p27
    have P37 := Lib.hid p37
    have HSL7 := Lib.hid hsl
    clear hb7 p07 p17 p27 p37 hr7 hsl
    obtain ⟨⟨x0, x1, x2⟩, ⟨x3, x4, x5⟩, xf⟩ := P07.out.six
    obtain ⟨⟨y0, y1, y2⟩, ⟨y3, y4, y5⟩, yf⟩ := P27.out.six
    go_upto_region 10 with (first
      | (go_at_call 27
         with_reducible refine (HC1.out _).mono ?_
         rintro e w8 ⟨rfl, hb⟩
         have HB8 := Lib.hid (HB7.out.trans (hb.mono HB7.out.size))
         have HSL8 := Lib.hid (HSL7.out.below hb)
         have P08 := Lib.hid (P07.out.under hb P07.out.lt)
         have P18 := Lib.hid (P17.out.under hb P17.out.lt)
         have P28 := Lib.hid (P27.out.under hb P27.out.lt)
         have P38 := Lib.hid (P37.out.under hb P37.out.lt)
         clear x0 x1 x2 x3 x4 x5 xf y0 y1 y2 y3 y4 y5 yf hb
         obtain ⟨⟨y0, y1, y2⟩, ⟨y3, y4, y5⟩, yf⟩ := P28.out.six))
    clear y0 y1 y2 y3 y4 y5 yf
    have hb9 : Below w.heap.size w (w8.setCell ⟨g2, 2, none⟩ (.string LO)) := HB8.out.setCell (p := ⟨g2, 2, none⟩) (by show w.heap.size ≤ g2; omega) _
    have p09 : LAt (w8.setCell ⟨g2, 2, none⟩ (.string LO)) w.heap.size #[.string L.name, .slice (some ⟨b0, o0, none⟩) 256 cw0, .string L.lower, .string L.upper, .slice ac0 L.nc cc0, .slice ae0 L.ne ce0] := P08.out.apart (.string LO) (by omega)
    have p19 : LAt (w8.setCell ⟨g2, 2, none⟩ (.string LO)) g1 #[.string L.name, .slice (some ⟨gw, 0, none⟩) 256 capw, .string L.lower, .string L.upper, .slice ac0 L.nc cc0, .slice ae0 L.ne ce0] := P18.out.apart (.string LO) (by omega)
    have p29 : LAt (w8.setCell ⟨g2, 2, none⟩ (.string LO)) g2 #[.string L.name, .slice (some ⟨b0, o0, none⟩) 256 cw0, .string LO, .string L.upper, .slice ac0 L.nc cc0, .slice ae0 L.ne ce0] := P28.out.put 2 (.string LO)
    have p39 : LAt (w8.setCell ⟨g2, 2, none⟩ (.string LO)) g3 #[.string L.name, .slice (some ⟨b0, o0, none⟩) 256 cw0, .string L.lower, .string L.upper, .slice ac0 L.nc cc0, .slice ae0 L.ne ce0] := P38.out.apart (.string LO) (by omega)
    have hs9 : SL 1 256 (wtF (chgW L a t)) (w8.setCell ⟨g2, 2, none⟩ (.string LO)) (.slice (some ⟨gw, 0, none⟩) 256 capw) := sl_far HSL8.out (fun b e => Below.heap_setCell w8 ⟨g2, 2, none⟩ (.string LO) b (by have e2 : gw = b := (by simpa [Value.ownBlock] using e); show b ≠ g2; omega))
    generalize (w8.setCell ⟨g2, 2, none⟩ (.string LO)) = w9 at hb9 p09 p19 p29 p39 hs9 ⊢
    have HB9 := Lib.hid hb9
    have P09 := Lib.hid p09
    have P19 := Lib.hid p19
    have P29 := Lib.hid p29
    have P39 := Lib.hid p39
    have HSL9 := Lib.hid hs9
    clear hb9 p09 p19 p29 p39 hs9
    obtain ⟨⟨x0, x1, x2⟩, ⟨x3, x4, x5⟩, xf⟩ := P09.out.six
    obtain ⟨⟨y0, y1, y2⟩, ⟨y3, y4, y5⟩, yf⟩ := P39.out.six
    go_upto_region 11 with (first
      | (go_at_call 27
         with_reducible refine (HC2.out _).mono ?_
         rintro e w10 ⟨rfl, hb⟩
         have HB10 := Lib.hid (HB9.out.trans (hb.mono HB9.out.size))
         have HSL10 := Lib.hid (HSL9.out.below hb)
         have P010 := Lib.hid (P09.out.under hb P09.out.lt)
         have P110 := Lib.hid (P19.out.under hb P19.out.lt)
         have P210 := Lib.hid (P29.out.under hb P29.out.lt)
         have P310 := Lib.hid (P39.out.under hb P39.out.lt)
         clear x0 x1 x2 x3 x4 x5 xf y0 y1 y2 y3 y4 y5 yf hb
         obtain ⟨⟨y0, y1, y2⟩, ⟨y3, y4, y5⟩, yf⟩ := P310.out.six))
    clear y0 y1 y2 y3 y4 y5 yf
    have hb11 : Below w.heap.size w (w10.setCell ⟨g3, 3, none⟩ (.string UP)) := HB10.out.setCell (p := ⟨g3, 3, none⟩) (by show w.heap.size ≤ g3; omega) _
    have p011 : LAt (w10.setCell ⟨g3, 3, none⟩ (.string UP)) w.heap.size #[.string L.name, .slice (some ⟨b0, o0, none⟩) 256 cw0, .string L.lower, .string L.upper, .slice ac0 L.nc cc0, .slice ae0 L.ne ce0] := P010.out.apart (.string UP) (by omega)
    have p111 : LAt (w10.setCell ⟨g3, 3, none⟩ (.string UP)) g1 #[.string L.name, .slice (some ⟨gw, 0, none⟩) 256 capw, .string L.lower, .string L.upper, .slice ac0 L.nc cc0, .slice ae0 L.ne ce0] := P110.out.apart (.string UP) (by omega)
    have p211 : LAt (w10.setCell ⟨g3, 3, none⟩ (.string UP)) g2 #[.string L.name, .slice (some ⟨b0, o0, none⟩) 256 cw0, .string LO, .string L.upper, .slice ac0 L.nc cc0, .slice ae0 L.ne ce0] := P210.out.apart (.string UP) (by omega)
    have p311 : LAt (w10.setCell ⟨g3, 3, none⟩ (.string UP)) g3 #[.string L.name, .slice (some ⟨b0, o0, none⟩) 256 cw0, .string L.lower, .string UP, .slice ac0 L.nc cc0, .slice ae0 L.ne ce0] := P310.out.put 3 (.string UP)
    have hs11 : SL 1 256 (wtF (chgW L a t)) (w10.setCell ⟨g3, 3, none⟩ (.string UP)) (.slice (some ⟨gw, 0, none⟩) 256 capw) := sl_far HSL10.out (fun b e => Below.heap_setCell w10 ⟨g3, 3, none⟩ (.string UP) b (by have e2 : gw = b := (by simpa [Value.ownBlock] using e); show b ≠ g3; omega))
    generalize (w10.setCell ⟨g3, 3, none⟩ (.string UP)) = w11 at hb11 p011 p111 p211 p311 hs11 ⊢
    have HB11 := Lib.hid hb11
    have P011 := Lib.hid p011
    have P111 := Lib.hid p111
    have P211 := Lib.hid p211
    have P311 := Lib.hid p311
    have HSL11 := Lib.hid hs11
    clear hb11 p011 p111 p211 p311 hs11
    clear hcap hl5 hlt
    go_wp2_with (first
      | (go_at_call 26
         refine (HGt.out _).mono ?_
         rintro e w12 ⟨rfl, hb⟩
         have HB12 := Lib.hid (HB11.out.trans (hb.mono HB11.out.size))
         have HSL12 := Lib.hid (HSL11.out.below hb)
         have P112 := Lib.hid (P111.out.under hb P111.out.lt)
         have P212 := Lib.hid (P211.out.under hb P211.out.lt)
         have P312 := Lib.hid (P311.out.under hb P311.out.lt)
         clear hb)
      | (go_at_call 22
         with_reducible refine (HP1.out _).mono ?_
         rintro e w13 ⟨aw1, cw1, ac1, cc1, ae1, ce1, rfl, hm, hb⟩
         have hbx : Below w13.heap.size w13 (w13.alloc (.cells #[.string L.name, .slice aw1 256 cw1, .string L.lower, .string L.upper, .slice ac1 L.nc cc1, .slice ae1 L.ne ce1] 26)) := (Below.refl _ _).alloc (Nat.le_refl _) _
         have hb := hb.trans (hbx.mono hb.size)
         have X121 : Hid (LAt (w13.alloc (.cells #[.string L.name, .slice aw1 256 cw1, .string L.lower, .string L.upper, .slice ac1 L.nc cc1, .slice ae1 L.ne ce1] 26)) w13.heap.size #[.string L.name, .slice aw1 256 cw1, .string L.lower, .string L.upper, .slice ac1 L.nc cc1, .slice ae1 L.ne ce1]) := heap_alloc_new w13 _
         have M121 := Lib.hid (hm.below hbx)
         have HB21 := Lib.hid (HB12.out.trans (hb.mono HB12.out.size))
         have HSL21 := Lib.hid (HSL12.out.below hb)
         have P121 := Lib.hid (P112.out.under hb P112.out.lt)
         have P221 := Lib.hid (P212.out.under hb P212.out.lt)
         have P321 := Lib.hid (P312.out.under hb P312.out.lt)
         clear hm hb hbx)
      | (go_at_call 22
         with_reducible refine (HP2.out _).mono ?_
         rintro e w14 ⟨aw2, cw2, ac2, cc2, ae2, ce2, rfl, hm, hb⟩
         have hbx : Below w14.heap.size w14 (w14.alloc (.cells #[.string L.name, .slice aw2 256 cw2, .string LO, .string L.upper, .slice ac2 L.nc cc2, .slice ae2 L.ne ce2] 26)) := (Below.refl _ _).alloc (Nat.le_refl _) _
         have hb := hb.trans (hbx.mono hb.size)
         have X222 : Hid (LAt (w14.alloc (.cells #[.string L.name, .slice aw2 256 cw2, .string LO, .string L.upper, .slice ac2 L.nc cc2, .slice ae2 L.ne ce2] 26)) w14.heap.size #[.string L.name, .slice aw2 256 cw2, .string LO, .string L.upper, .slice ac2 L.nc cc2, .slice ae2 L.ne ce2]) := heap_alloc_new w14 _
         have M222 := Lib.hid (hm.below hbx)
         have HB22 := Lib.hid (HB21.out.trans (hb.mono HB21.out.size))
         have HSL22 := Lib.hid (HSL21.out.below hb)
         have P122 := Lib.hid (P121.out.under hb P121.out.lt)
         have P222 := Lib.hid (P221.out.under hb P221.out.lt)
         have P322 := Lib.hid (P321.out.under hb P321.out.lt)
         have X122 := Lib.hid (X121.out.under hb X121.out.lt)
         have M122 := Lib.hid (M121.out.below hb)
         clear hm hb hbx)
      | (go_at_call 22
         with_reducible refine (HP3.out _).mono ?_
         rintro e w15 ⟨aw3, cw3, ac3, cc3, ae3, ce3, rfl, hm, hb⟩
         have hbx : Below w15.heap.size w15 (w15.alloc (.cells #[.string L.name, .slice aw3 256 cw3, .string L.lower, .string UP, .slice ac3 L.nc cc3, .slice ae3 L.ne ce3] 26)) := (Below.refl _ _).alloc (Nat.le_refl _) _
         have hb := hb.trans (hbx.mono hb.size)
         have X323 : Hid (LAt (w15.alloc (.cells #[.string L.name, .slice aw3 256 cw3, .string L.lower, .string UP, .slice ac3 L.nc cc3, .slice ae3 L.ne ce3] 26)) w15.heap.size #[.string L.name, .slice aw3 256 cw3, .string L.lower, .string UP, .slice ac3 L.nc cc3, .slice ae3 L.ne ce3]) := heap_alloc_new w15 _
         have M323 := Lib.hid (hm.below hbx)
         have HB23 := Lib.hid (HB22.out.trans (hb.mono HB22.out.size))
         have HSL23 := Lib.hid (HSL22.out.below hb)
         have P123 := Lib.hid (P122.out.under hb P122.out.lt)
         have P223 := Lib.hid (P222.out.under hb P222.out.lt)
         have P323 := Lib.hid (P322.out.under hb P322.out.lt)
         have X123 := Lib.hid (X122.out.under hb X122.out.lt)
         have M123 := Lib.hid (M122.out.below hb)
         have X223 := Lib.hid (X222.out.under hb X222.out.lt)
         have M223 := Lib.hid (M222.out.below hb)
         clear hm hb hbx
         obtain ⟨⟨x0, x1, x2⟩, ⟨x3, x4, x5⟩, xf⟩ := X123.out.six
         obtain ⟨⟨y0, y1, y2⟩, ⟨y3, y4, y5⟩, yf⟩ := P123.out.six)
      | (go_at_call 23
         have hsec : LocM _ (chgW L a t) (.slice (some ⟨gw, 0, none⟩) 256 capw) (.slice ac0 L.nc cc0) (.slice ae0 L.ne ce0) := ⟨by show SL 1 L.nw _ _ _; rw [HV.out.nw]; exact HSL23.out, (HM0.out.below HB23.out).2.1, (HM0.out.below HB23.out).2.2⟩
         with_reducible refine (HQ1.out _ _ _ _ _ _ _ M123.out hsec).mono ?_
         rintro e w31 ⟨rfl, hb⟩
         have HB31 := Lib.hid (HB23.out.trans (hb.mono HB23.out.size))
         have X231 := Lib.hid (X223.out.under hb X223.out.lt)
         have M231 := Lib.hid (M223.out.below hb)
         have P231 := Lib.hid (P223.out.under hb P223.out.lt)
         have X331 := Lib.hid (X323.out.under hb X323.out.lt)
         have M331 := Lib.hid (M323.out.below hb)
         have P331 := Lib.hid (P323.out.under hb P323.out.lt)
         clear x0 x1 x2 x3 x4 x5 xf y0 y1 y2 y3 y4 y5 yf hb hsec
         obtain ⟨⟨x0, x1, x2⟩, ⟨x3, x4, x5⟩, xf⟩ := X231.out.six
         obtain ⟨⟨y0, y1, y2⟩, ⟨y3, y4, y5⟩, yf⟩ := P231.out.six)
      | (go_at_call 23
         have hsec : LocM _ (chgL L a (t % 256)) (.slice (some ⟨b0, o0, none⟩) 256 cw0) (.slice ac0 L.nc cc0) (.slice ae0 L.ne ce0) := (HM0.out.below HB31.out)
         with_reducible refine (HQ2.out _ _ _ _ _ _ _ M231.out hsec).mono ?_
         rintro e w32 ⟨rfl, hb⟩
         have HB32 := Lib.hid (HB31.out.trans (hb.mono HB31.out.size))
         have X332 := Lib.hid (X331.out.under hb X331.out.lt)
         have M332 := Lib.hid (M331.out.below hb)
         have P332 := Lib.hid (P331.out.under hb P331.out.lt)
         clear x0 x1 x2 x3 x4 x5 xf y0 y1 y2 y3 y4 y5 yf hb hsec
         obtain ⟨⟨x0, x1, x2⟩, ⟨x3, x4, x5⟩, xf⟩ := X332.out.six
         obtain ⟨⟨y0, y1, y2⟩, ⟨y3, y4, y5⟩, yf⟩ := P332.out.six)
      | (go_at_call 23
         have hsec : LocM _ (chgU L a (t % 256)) (.slice (some ⟨b0, o0, none⟩) 256 cw0) (.slice ac0 L.nc cc0) (.slice ae0 L.ne ce0) := (HM0.out.below HB32.out)
         with_reducible refine (HQ3.out _ _ _ _ _ _ _ M332.out hsec).mono ?_
         rintro e w33 ⟨rfl, hb⟩
         have HB33 := Lib.hid (HB32.out.trans (hb.mono HB32.out.size))
         clear x0 x1 x2 x3 x4 x5 xf y0 y1 y2 y3 y4 y5 yf hb hsec)
      | (go_at_call 21
         refine (HAw.out _ (tab_keep HT.out HB33.out)).mono ?_
         rintro e w40 ⟨rfl, hb⟩
         have HB40 := Lib.hid (HB33.out.trans (hb.mono HB33.out.size))
         clear hb))
    go_ret
    exact ⟨rfl, HB40.out⟩
theorem changes_law (L : Loc) (W C E : Value) (a t : Nat) (ha : a < 256) (ht : t < 65536) (w : World) (hT : tabAt w) (hM : LocM w L W C E) :
    Calls Tryd.prog 8 #[.agg (lcl L W C E), .int .u8 (a : Int), .int .u16 (t : Int)] w fun e w' => e = .returned (.bool true) ∧ Below w.heap.size w w' := by
  by_cases hc : chk L = 0
  · exact chg_good L ((VL.iff L).1 hc) W C E a t ha ht w hT hM
  · exact chg_bad L hc W C E a t w hT hM
end Go.Proofs.YtblaldcioneooaaDoor
