/- The program's step: the length and the weight of the first collating element. -/
import Derived.Test.YtblaldcioneooaaDoorRows
import Derived.Test.YtblaldcioneooaaDoorLpUse
import Derived.Test.YtblaldcioneooaaDoorLpCmp
import Derived.Test.YtblaldcioneooaaDoorCsRefB
import Derived.Deep.RegionWith
set_option linter.unusedVariables false
namespace Go.Proofs.YtblaldcioneooaaDoor
open Go.RowKit

/-- What a valid locale has. -/
structure Ok (V : Loc) : Prop where
  nw : V.nw = 256
  lo : V.lower.size = 256
  up : V.upper.size = 256
  nc : V.nc ≤ 24
  ne : V.ne ≤ 64
  et : ∀ k, k < V.ne → (V.et k).size = 2
theorem firstErr_all (f : Nat → Int) (n : Nat) (h : firstErr f n = 0) : ∀ k, k < n → f k = 0 := by
  induction n with
  | zero => intro k hk; omega
  | succ n ih =>
    rw [firstErr_succ] at h
    by_cases h1 : firstErr f n = 0
    · rw [if_pos h1] at h
      intro k hk
      by_cases e : k = n
      · subst e; exact h
      · exact ih h1 k (by omega)
    · rw [if_neg h1] at h
      exact absurd h h1
theorem ok_of {L : Loc} (h : chk L = 0) : Ok L := by
  unfold chk at h
  by_cases h1 : nmB L.name = true
  · rw [if_pos h1] at h
    by_cases h2 : L.nw = 256
    · rw [if_pos h2] at h
      by_cases h3 : firstErr (wtAt L.wt) 256 = 0
      · rw [if_pos h3] at h
        by_cases h4 : L.lower.size = 256 ∧ L.upper.size = 256
        · rw [if_pos h4] at h
          by_cases h5 : clsErr L.nc L.cn = 0
          · rw [if_pos h5] at h
            have c24 : L.nc ≤ 24 := by
              unfold clsErr at h5
              by_cases hc : L.nc ≤ 24
              · exact hc
              · rw [if_neg hc] at h5
                omega
            unfold elmErr at h
            by_cases he : L.ne ≤ 64
            · rw [if_pos he] at h
              refine ⟨h2, h4.1, h4.2, c24, he, fun k hk => ?_⟩
              have := firstErr_all _ _ h k hk
              unfold elmAt at this
              by_cases hs : (L.et k).size = 2 ∧ 0 ≤ L.ew k ∧ L.ew k ≤ 65535
              · exact hs.1
              · rw [if_neg hs] at this
                omega
            · rw [if_neg he] at h
              omega
          · rw [if_neg h5] at h
            exact absurd h h5
        · rw [if_neg h4] at h
          omega
      · rw [if_neg h3] at h
        exact absurd h h3
    · rw [if_neg h2] at h
      omega
  · rw [if_neg h1] at h
    omega
theorem mk_size (l : List UInt8) : (⟨l.toArray⟩ : ByteArray).size = l.length := by
  show l.toArray.size = _
  simp
theorem ok_def : Ok Ldef := by
  refine ⟨rfl, ?_, ?_, Nat.zero_le _, Nat.zero_le _, fun k hk => absurd hk (Nat.not_lt_zero k)⟩
  · exact (mk_size _).trans (lowL_len 256)
  · exact (mk_size _).trans (upL_len 256)
theorem ok_vld (L : Loc) : Ok (vld L) := by
  unfold vld
  by_cases h : chk L = 0
  · rw [if_pos h]
    exact ok_of h
  · rw [if_neg h]
    exact ok_def

/-- The first bytes of the elements. -/
def fbL (V : Loc) (n : Nat) : List UInt8 := (List.range n).map fun k => gb (V.et k) 0
theorem fbL_len (V : Loc) (n : Nat) : (fbL V n).length = n := by unfold fbL; simp
/-- The first k of 64 are filled. -/
def upn (u : Nat → Value) (z : Value) (k : Nat) : List Value := (List.range 64).map fun j => if j < k then u j else z
theorem upn_len (u : Nat → Value) (z : Value) (k : Nat) : (upn u z k).length = 64 := by unfold upn; simp
theorem upn_get (u : Nat → Value) (z : Value) (k j : Nat) (h : j < 64) : (upn u z k)[j]? = some (if j < k then u j else z) := by
  unfold upn
  rw [List.getElem?_map, List.getElem?_range h]
  rfl
theorem upn_set (u : Nat → Value) (z : Value) (k : Nat) (h : k < 64) : (upn u z k).set k (u k) = upn u z (k + 1) := by
  apply List.ext_getElem?
  intro j
  rw [List.getElem?_set, upn_len]
  by_cases hj : j < 64
  · rw [upn_get u z (k + 1) j hj]
    by_cases e : k = j
    · subst e
      simp [h]
    · rw [if_neg e, upn_get u z k j hj]
      have : (j < k) = (j < k + 1) := by simp; omega
      simp [this]
  · have e1 : (upn u z (k + 1))[j]? = none := List.getElem?_eq_none (by rw [upn_len]; omega)
    have e2 : (upn u z k)[j]? = none := List.getElem?_eq_none (by rw [upn_len]; omega)
    have e3 : ¬ k = j := by omega
    rw [if_neg e3, e1, e2]
theorem upn_none (u : Nat → Value) (z : Value) : upn u z 0 = List.replicate 64 z := by
  refine List.eq_replicate_iff.2 ⟨upn_len u z 0, fun b hb => ?_⟩
  unfold upn at hb
  obtain ⟨j, _, rfl⟩ := List.mem_map.1 hb
  exact if_neg (Nat.not_lt_zero j)
theorem upn_put (u : Nat → Value) (z : Value) (k : Nat) (h : k < 64) : (upn u z k).toArray.setIfInBounds k (u k) = (upn u z (k + 1)).toArray := by
  rw [List.setIfInBounds_toArray, upn_set u z k h]
def nF (V : Loc) (j : Nat) : Value := .int .u8 ((gb (V.et j) 0).toNat : Int)
/-- The blocks of firstBytes while it fills its array. -/
def FB (V : Loc) (B : Nat) (w0 w : World) (k : Nat) : Prop :=
  Below B w0 w ∧ At w B (fun _ => false) ∧ w.heap[B + 1]? = some (.cells (upn (nF V) (.int .u8 0) k).toArray 114 (0, 0))
theorem FB.start (V : Loc) (w : World) : FB V w.heap.size w ((w.alloc (.cells (cl fun _ => false) 38)).alloc (.cells (upn (nF V) (.int .u8 0) 0).toArray 114)) 0 := by
  refine ⟨((Below.refl _ _).alloc (Nat.le_refl _) _).alloc (by simp) _, (At.new w _).alloc _, ?_⟩
  have := heap_alloc_new (w.alloc (.cells (cl fun _ => false) 38)) (.cells (upn (nF V) (.int .u8 0) 0).toArray 114)
  simpa using this
theorem FB.next {V : Loc} {B k : Nat} {w0 w : World} (h : FB V B w0 w k) (hk : k < 64) (o : Obj) : FB V B w0 ((w.alloc o).setCell ⟨B + 1, k, none⟩ (nF V k)) (k + 1) := by
  obtain ⟨b, l, x⟩ := h
  have hB : B + 1 < w.heap.size := (Array.getElem?_eq_some_iff.1 x).1
  refine ⟨(b.alloc (by omega) o).setCell (p := ⟨B + 1, k, none⟩) (by show B ≤ B + 1; omega) _, (l.alloc o).apart _ (by omega), ?_⟩
  rw [heap_setCell_same (w.alloc o) (B + 1) k _ _ _ ((Below.heap_alloc w o (B + 1) hB).trans x), upn_put _ _ _ hk]
theorem FB.cells {V : Loc} {B k : Nat} {w0 w : World} (h : FB V B w0 w k) (hk : k < 64) (o : Obj) :
    (w.alloc o).cell? ⟨B + 1, k, none⟩ = some (.int .u8 0) ∧ (w.alloc o).frozen? ⟨B + 1, k, none⟩ = false := by
  obtain ⟨b, l, x⟩ := h
  have hB : B + 1 < w.heap.size := (Array.getElem?_eq_some_iff.1 x).1
  have x2 := (Below.heap_alloc w o (B + 1) hB).trans x
  refine ⟨?_, frozen_of_row _ _ k _ _ x2⟩
  rw [cell_of_row _ _ k _ _ _ x2]
  simpa using upn_get (nF V) (.int .u8 0) k k hk
theorem conv_first {V : Loc} {B n : Nat} {w0 w : World} (h : FB V B w0 w n) (hn : n ≤ 64) : (convert 62 9 (.slice (some ⟨B + 1, 0, none⟩) n 64)).run Tryd.prog w = .ok (.string ⟨(fbL V n).toArray⟩) w := by
  have := run_convert_bytes_back (P := Tryd.prog) w 62 9 5 ⟨B + 1, 0, none⟩ 64 (fbL V n) Tryd.underlying62 Tryd.underlying5 Tryd.underlying9 (fun j hj => by
    have hj2 : j < n := by rwa [fbL_len] at hj
    rw [add_off, Nat.zero_add, cell_of_row w (B + 1) j _ _ _ h.2.2]
    have e := upn_get (nF V) (.int .u8 0) n j (by omega)
    rw [if_pos hj2] at e
    have e3 : (fbL V n)[j]? = some (gb (V.et j) 0) := by
      unfold fbL
      rw [List.getElem?_map, List.getElem?_range hj2]
      rfl
    have e2 : (fbL V n)[j] = gb (V.et j) 0 := Option.some.inj ((List.getElem?_eq_getElem hj).symm.trans e3)
    rw [e2, List.getElem?_toArray, e]
    rfl)
  rw [fbL_len] at this
  exact this

set_option maxRecDepth 100000 in
set_option maxHeartbeats 4000000 in
theorem firstBytes_any (V : Loc) (hV : Ok V) (E : Value) (w : World) (hS : SL 2 V.ne (elmF V) w E) :
    Calls Tryd.prog 57 #[E] w fun e w' => e = .returned (cs (setOf (fbL V V.ne))) ∧ Below w.heap.size w w' := by
  have hv : ∀ w, (zeroValue 114).run Tryd.prog w = .ok (.agg (Array.replicate 64 (Value.int .u8 0))) w := fun w => by kernel_rfl
  have hY0 : Array.replicate 64 (Value.int .u8 0) = (upn (nF V) (.int .u8 0) 0).toArray := by rw [upn_none, List.toArray_replicate]
  rw [hY0] at hv
  clear hY0
  have H0 := Lib.hid (FB.start V w)
  obtain ⟨Y, hY⟩ : ∃ Y, (upn (nF V) (.int .u8 0) 0).toArray = Y := ⟨_, rfl⟩
  rw [hY] at hv H0
  clear hY
  have HOf := Lib.hid (of_any ⟨(fbL V V.ne).toArray⟩ (by rw [mk_size, fbL_len]; have := hV.ne; omega))
  have HL := Lib.hid (fun wr : World => conv_first (V := V) (B := w.heap.size) (n := V.ne) (w0 := w) (w := wr))
  have HV := Lib.hid hV
  have h64 := hV.ne
  obtain ⟨n, hn⟩ : ∃ n, V.ne = n := ⟨_, rfl⟩
  have HNe := Lib.hid hn
  rw [hn] at hS h64 HOf HL ⊢
  generalize fbL V n = F at HOf HL ⊢
  clear hn hV
  have h64i : (n : Int) ≤ 64 := by omega
  unfold cs cl at *
  obtain ⟨a, cap, rfl, hcap, hcells⟩ := hS
  rcases hcells with h0 | ⟨b, off, rfl, hlt, hcells⟩
  · subst h0
    go_enter Tryd.func57, Tryd.ntmps57
    go_wp2
    go_loopw [8] (fun i wr => i = .int .i64 0 ∧ Hid (FB V w.heap.size w wr 0)) (fun _ _ => 0)
    case atStart => exact ⟨rfl, H0.out⟩
    case round =>
      obtain ⟨rfl, HF⟩ := hrel
      have hcv := HL.out _ HF.out (by decide)
      have hA := HF.out.2.1
      have HA := Lib.hid hA
      obtain ⟨⟨c0, c1⟩, ⟨c2, c3⟩, hf⟩ := hA.words
      clear hA c0 c1 c2 c3 hf
      go_wp2_with (first
        | (go_at_call 66
           refine (HOf.out _).mono ?_
           rintro e w1 ⟨rfl, hb⟩
           have HB1 := Lib.hid (HF.out.1.trans (hb.mono (by have := HA.out.lt; omega)))
           have B1 := HA.out.below hb HA.out.lt
           have HA1 := Lib.hid B1
           obtain ⟨⟨d0, d1⟩, ⟨d2, d3⟩, hg⟩ := B1.words
           clear B1 hb))
      exact bodyPost_ret (v := cs (setOf F)) (ret_cs (q := setOf F) Tryd.results57 _ _ w.heap.size (by simp) (HA1.out.put4 _)) rfl ⟨rfl, below_put4 HB1.out _ (Nat.le_refl _) _⟩
  · have HC := Lib.hid hcells
    have HLt := Lib.hid hlt
    clear hcells hlt
    go_enter Tryd.func57, Tryd.ntmps57
    go_wp2
    go_loopw [8] (fun i wr => ∃ k : Nat, k ≤ n ∧ i = .int .i64 k ∧ Hid (FB V w.heap.size w wr k)) (fun i _ => n - (intOf i).toNat)
    case atStart => exact ⟨0, Nat.zero_le _, rfl, H0.out⟩
    case round =>
      obtain ⟨k, hk, rfl, HF⟩ := hrel
      by_cases hkn : k < n
      · have ki : (k : Int) < n := by omega
        have ki0 : (0 : Int) ≤ k := by omega
        have k64 : (k : Int) < 64 := by omega
        have h2 := HV.out.et k (by rw [HNe.out]; exact hkn)
        have hpos : 0 < (V.et k).size := by omega
        have ck0 : wr.cell? ⟨b, off + k * 2, none⟩ = some (.string (V.et k)) := by
          rw [HF.out.1.cell (by exact HLt.out)]
          exact HC.out k 0 hkn (by decide)
        have ck1 : wr.cell? ⟨b, off + k * 2 + 1, none⟩ = some (.int .i64 (V.ew k)) := by
          rw [HF.out.1.cell (by exact HLt.out)]
          exact HC.out k 1 hkn (by decide)
        obtain ⟨g1, g2⟩ := HF.out.cells (show k < 64 by omega) (.cells #[.string (V.et k), .int .i64 (V.ew k)] 68)
        have HN := Lib.hid (HF.out.next (show k < 64 by omega) (.cells #[.string (V.et k), .int .i64 (V.ew k)] 68))
        unfold nF at HN
        rw [gb_at (V.et k) 0 hpos] at HN
        clear h2
        go_wp2
        go_roundw
        case rel => exact ⟨k + 1, by omega, by go_num, HN.out⟩
        case measure => simp [intOf]; omega
      · obtain rfl : k = n := by omega
        have hcv := HL.out _ HF.out (by omega)
        have hA := HF.out.2.1
        have HA := Lib.hid hA
        clear hA
        go_wp2_with (first
          | (go_at_call 66
             refine (HOf.out _).mono ?_
             rintro e w1 ⟨rfl, hb⟩
             have HB1 := Lib.hid (HF.out.1.trans (hb.mono (by have := HA.out.lt; omega)))
             have B1 := HA.out.below hb HA.out.lt
             have HA1 := Lib.hid B1
             obtain ⟨⟨d0, d1⟩, ⟨d2, d3⟩, hg⟩ := B1.words
             clear B1 hb))
        exact bodyPost_ret (v := cs (setOf F)) (ret_cs (q := setOf F) Tryd.results57 _ _ w.heap.size (by simp) (HA1.out.put4 _)) rfl ⟨rfl, below_put4 HB1.out _ (Nat.le_refl _) _⟩
end Go.Proofs.YtblaldcioneooaaDoor
