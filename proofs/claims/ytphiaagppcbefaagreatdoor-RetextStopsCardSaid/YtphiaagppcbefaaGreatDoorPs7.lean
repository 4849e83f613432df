/- CsOf, LpStep, LpOrd, LpSplit, LpCase. -/
import Derived.Test.YtphiaagppcbefaaGreatDoorRows
import Derived.Test.YtphiaagppcbefaaGreatDoorPs6
import Derived.StillTailTactics
import Derived.Deep.RegionWith
import Derived.Lib.IndexBytes
set_option linter.unusedVariables false
namespace Go.Proofs.YtphiaagppcbefaaGreatDoor
open Go.RowKit
def setOf (l : List UInt8) : Nat → Bool := fun c => l.any fun b => c == b.toNat
theorem setOf_next (l : List UInt8) (k : Nat) (h : k < l.length) : setOf (l.take (k + 1)) = ins (setOf (l.take k)) (l[k]).toNat := by
  funext c
  unfold setOf ins
  rw [List.take_add_one, List.getElem?_eq_getElem h, List.any_append]
  simp
def rng (lo n : Nat) : Nat → Bool := fun c => decide (lo ≤ c) && decide (c < n)
theorem rng_empty (lo : Nat) : rng lo lo = fun _ => false := by
  funext c
  unfold rng
  by_cases h : lo ≤ c
  · have : ¬ c < lo := by omega
    simp [this]
  · simp [h]
theorem rng_next (lo n : Nat) (h : lo ≤ n) : rng lo (n + 1) = ins (rng lo n) n := by
  funext c
  unfold rng ins
  by_cases h1 : c = n
  · subst h1
    simp [h]
  · by_cases h2 : c < n
    · have : c < n + 1 := by omega
      simp [h1, h2, this]
    · have : ¬ c < n + 1 := by omega
      simp [h1, h2, this]
def between (lo hi : Nat) : Nat → Bool := fun c => decide (lo ≤ c) && decide (c ≤ hi)
theorem rng_done (lo hi n : Nat) (h1 : hi < n) (h2 : n ≤ hi + 1 ∨ n = lo) : rng lo n = between lo hi := by
  funext c
  unfold rng between
  by_cases a : lo ≤ c
  · rcases h2 with h2 | h2
    · have e : (c < n) = (c ≤ hi) := by simp; omega
      simp [e]
    · have e : ¬ c < n := by omega
      have e2 : ¬ c ≤ hi := by omega
      simp [e, e2]
  · simp [a]
def V2 (w : World) : World := (w.alloc (.cells #[.int .u64 0, .int .u64 0, .int .u64 0, .int .u64 0] 32)).alloc (.cells #[.int .u64 0, .int .u64 0, .int .u64 0, .int .u64 0] 32)
theorem V2_below (w : World) : Below w.heap.size w (V2 w) := ((Below.refl _ _).alloc (Nat.le_refl _) _).alloc (by simp) _
theorem V2_at (w : World) : At (V2 w) w.heap.size (fun _ => false) ∧ At (V2 w) (w.heap.size + 1) (fun _ => false) := by
  unfold V2
  rw [cl_zero]
  refine ⟨(At.new w _).alloc _, ?_⟩
  have := At.new (w.alloc (.cells (cl fun _ => false) 32)) (fun _ => false)
  simpa using this
theorem or_ins (p : Nat → Bool) (c j : Nat) (h : c / 64 = j) : bits BinOp.or IntKind.u64 ((wd p (64 * j) 64 : Nat) : Int) ((2 : Int) ^ (c % 64)) = ((wd (ins p c) (64 * j) 64 : Nat) : Int) := by
  subst h
  rw [show ((2 : Int) ^ (c % 64)) = ((2 ^ (c % 64) : Nat) : Int) by simp, bits_or_u64_nat _ _ (wd_lt64 _ _) (pow_lt64 c), wd_ins_or]
set_option maxHeartbeats 4000000 in
theorem of_any (s : ByteArray) (hs : s.size ≤ 300) (w : World) : Calls Tryz.prog 112 #[.string s] w fun e w' => e = .returned (cs (setOf s.data.toList)) ∧ Below w.heap.size w w' := by
  have HV := Lib.hid (V2_at w)
  have HB := Lib.hid (V2_below w)
  unfold cs cl
  have hS : (s.size : Int) ≤ 300 := by omega
  go_enter Tryz.func112, Tryz.ntmps112
  go_wp2
  go_loopw [7] (fun i wr => ∃ k : Nat, k ≤ s.size ∧ i = .int .i64 k ∧ Hid (Below w.heap.size w wr ∧ At wr w.heap.size (fun _ => false) ∧ At wr (w.heap.size + 1) (setOf (s.data.toList.take k)))) (fun i _ => s.size - (intOf i).toNat)
  case atStart => exact ⟨0, Nat.zero_le _, rfl, HB.out, HV.out.1, HV.out.2⟩
  case round =>
    obtain ⟨k, hk, rfl, HR⟩ := hrel
    by_cases hlt : k < s.size
    · have hi : (k : Int) < s.size := by omega
      obtain ⟨c, hsc⟩ : ∃ c, s[k].toNat = c := ⟨_, rfl⟩
      have hc : c < 256 := by rw [← hsc]; exact s[k].toNat_lt
      have HN0 := Lib.hid (setOf_next s.data.toList k (by simpa using hlt))
      have e : (s.data.toList[k]'(by simpa using hlt)).toNat = c := hsc
      rw [e] at HN0
      obtain ⟨j, hj⟩ : ∃ j, c / 64 = j := ⟨_, rfl⟩
      have hj4 : j < 4 := by omega
      have hq : (c : Int) / 64 = (j : Int) := by omega
      have hz : IntKind.u8.wrap (j : Int) = (j : Int) := IntWalk.u8_in _ (by omega)
      have hj0 : (j : Int) < 4 := by omega
      obtain ⟨b0, a3, a4⟩ := HR.out
      have c4 := a4.got j hj4
      have f4 := a4.free
      have hk2 := or_ins (setOf (s.data.toList.take k)) c j hj
      have HN := Lib.hid (a4.word (setOf (s.data.toList.take (k + 1))) j hj4 (by rw [HN0.out, ← hj]; exact ins_other _ c) (.int .u64 ((wd (ins (setOf (s.data.toList.take k)) c) (64 * j) 64 : Nat) : Int)) (by rw [HN0.out]))
      clear b0 a3 a4 e
      have hb := Lib.hid (bit_any c hc)
      go_wp2
      go_region_with ((go_at_call 115; refine (hb.out _).mono ?_; rintro e w1 ⟨rfl, rfl⟩))
      all_goals
        go_wp2
        go_roundw
        case rel => exact ⟨k + 1, by omega, by go_num, (HR.out.1.setCell (by simp) _).drew, (HR.out.2.1.apart _ (by omega)).drew, HN.out.drew⟩
        case measure => simp [intOf]; omega
    · obtain rfl : k = s.size := by omega
      obtain ⟨b0, a3, a4⟩ := HR.out
      rw [List.take_of_length_le (by simp)] at a4
      have HA := Lib.hid a3
      obtain ⟨⟨c0, c1⟩, ⟨c2, c3⟩, hf⟩ := a4.words
      obtain ⟨⟨d0, d1⟩, ⟨d2, d3⟩, hg⟩ := a3.words
      clear b0 a3 a4
      go_wp2
      exact bodyPost_ret (v := cs (setOf s.data.toList)) (ret_cs (q := setOf s.data.toList) Tryz.results112 _ _ w.heap.size (by simp) (HA.out.put4 _)) rfl ⟨rfl, below_put4 HR.out.1 _ (by omega) _⟩
set_option maxHeartbeats 4000000 in
theorem range_any (lo hi : Nat) (hl : lo < 256) (hh : hi < 256) (w : World) : Calls Tryz.prog 88 #[.int .u8 lo, .int .u8 hi] w fun e w' => e = .returned (cs (between lo hi)) ∧ Below w.heap.size w w' := by
  have HV := Lib.hid (V2_at w)
  have HB := Lib.hid (V2_below w)
  unfold cs cl
  go_enter Tryz.func88, Tryz.ntmps88
  go_wp2
  go_loopw [6] (fun i wr => ∃ n : Nat, lo ≤ n ∧ (n ≤ hi + 1 ∨ n = lo) ∧ i = .int .i64 n ∧ Hid (Below w.heap.size w wr ∧ At wr w.heap.size (fun _ => false) ∧ At wr (w.heap.size + 1) (rng lo n))) (fun i _ => 256 - (intOf i).toNat)
  case atStart => exact ⟨lo, Nat.le_refl _, Or.inr rfl, by go_num, HB.out, HV.out.1, by rw [rng_empty]; exact HV.out.2⟩
  case round =>
    obtain ⟨n, hn, hd, rfl, HR⟩ := hrel
    by_cases hlt : n ≤ hi
    · have hi1 : (n : Int) ≤ hi := by omega
      have hc : n < 256 := by omega
      have hw : IntKind.u8.wrap (n : Int) = (n : Int) := IntWalk.u8_in _ (by omega)
      obtain ⟨j, hj⟩ : ∃ j, n / 64 = j := ⟨_, rfl⟩
      have hj4 : j < 4 := by omega
      have hq : (n : Int) / 64 = (j : Int) := by omega
      have hq2 : (n : Int).tdiv 64 = (j : Int) := by rw [Int.tdiv_eq_ediv_of_nonneg (by omega)]; exact hq
      have hq3 : IntKind.i64.wrap (j : Int) = (j : Int) := IntWalk.i64_in _ (by omega)
      have hj00 : (0 : Int) ≤ (j : Int) := by omega
      have hj0 : (j : Int) < 4 := by omega
      obtain ⟨b0, a3, a4⟩ := HR.out
      have c4 := a4.got j hj4
      have f4 := a4.free
      have hk2 := or_ins (rng lo n) n j hj
      have HN := Lib.hid (a4.word (rng lo (n + 1)) j hj4 (by rw [rng_next lo n hn, ← hj]; exact ins_other _ n) (.int .u64 ((wd (ins (rng lo n) n) (64 * j) 64 : Nat) : Int)) (by rw [rng_next lo n hn]))
      clear b0 a3 a4
      have hb := Lib.hid (bit_any n hc)
      have HD := Lib.hid hd
      clear hd
      go_wp2
      go_region_with ((go_at_call 115; refine (hb.out _).mono ?_; rintro e w1 ⟨rfl, rfl⟩))
      all_goals
        go_wp2
        go_roundw
        case rel => exact ⟨n + 1, by omega, Or.inl (by omega), by go_num, (HR.out.1.setCell (by simp) _).drew, (HR.out.2.1.apart _ (by omega)).drew, HN.out.drew⟩
        case measure => simp [intOf]; omega
    · have hi1 : ¬ (n : Int) ≤ hi := by omega
      have HD := Lib.hid hd
      obtain ⟨b0, a3, a4⟩ := HR.out
      rw [rng_done lo hi n (by omega) hd] at a4
      have HA := Lib.hid a3
      obtain ⟨⟨c0, c1⟩, ⟨c2, c3⟩, hf⟩ := a4.words
      obtain ⟨⟨d0, d1⟩, ⟨d2, d3⟩, hg⟩ := a3.words
      clear b0 a3 a4 hd
      go_wp2
      exact bodyPost_ret (v := cs (between lo hi)) (ret_cs (q := between lo hi) Tryz.results88 _ _ w.heap.size (by simp) (HA.out.put4 _)) rfl ⟨rfl, below_put4 HR.out.1 _ (by omega) _⟩
end Go.Proofs.YtphiaagppcbefaaGreatDoor
set_option linter.unusedVariables false
namespace Go.Proofs.YtphiaagppcbefaaGreatDoor
open Go.RowKit
structure Ok (V : Loc) : Prop where
  nw : V.nw = 256
  lo : V.lower.size = 256
  up : V.upper.size = 256
  nc : V.nc ≤ 24
  ne : V.ne ≤ 64
  et : ∀ k, k < V.ne → (V.et k).size = 2
theorem firstErr_all (f : Nat → Int) (n : Nat) (h : firstErr f n = 0) : ∀ k, k < n → f k = 0 := by
  induction n with
  | zero => intro k hk; omega
  | succ n ih =>
    rw [firstErr_succ] at h
    by_cases h1 : firstErr f n = 0
    · rw [if_pos h1] at h
      intro k hk
      by_cases e : k = n
      · subst e; exact h
      · exact ih h1 k (by omega)
    · rw [if_neg h1] at h
      exact absurd h h1
theorem ok_of {L : Loc} (h : chk L = 0) : Ok L := by
  unfold chk at h
  by_cases h1 : nmB L.name = true
  · rw [if_pos h1] at h
    by_cases h2 : L.nw = 256
    · rw [if_pos h2] at h
      by_cases h3 : firstErr (wtAt L.wt) 256 = 0
      · rw [if_pos h3] at h
        by_cases h4 : L.lower.size = 256 ∧ L.upper.size = 256
        · rw [if_pos h4] at h
          by_cases h5 : clsErr L.nc L.cn = 0
          · rw [if_pos h5] at h
            have c24 : L.nc ≤ 24 := by
              unfold clsErr at h5
              by_cases hc : L.nc ≤ 24
              · exact hc
              · rw [if_neg hc] at h5
                omega
            unfold elmErr at h
            by_cases he : L.ne ≤ 64
            · rw [if_pos he] at h
              refine ⟨h2, h4.1, h4.2, c24, he, fun k hk => ?_⟩
              have := firstErr_all _ _ h k hk
              unfold elmAt at this
              by_cases hs : (L.et k).size = 2 ∧ 0 ≤ L.ew k ∧ L.ew k ≤ 65535
              · exact hs.1
              · rw [if_neg hs] at this
                omega
            · rw [if_neg he] at h
              omega
          · rw [if_neg h5] at h
            exact absurd h h5
        · rw [if_neg h4] at h
          omega
      · rw [if_neg h3] at h
        exact absurd h h3
    · rw [if_neg h2] at h
      omega
  · rw [if_neg h1] at h
    omega
theorem mkl_size (l : List UInt8) : (⟨l.toArray⟩ : ByteArray).size = l.length := by
  show l.toArray.size = _
  simp
theorem ok_def : Ok Ldef := by
  refine ⟨rfl, ?_, ?_, Nat.zero_le _, Nat.zero_le _, fun k hk => absurd hk (Nat.not_lt_zero k)⟩
  · exact (mkl_size _).trans (lowL_len 256)
  · exact (mkl_size _).trans (upL_len 256)
theorem ok_vld (L : Loc) : Ok (vld L) := by
  unfold vld
  by_cases h : chk L = 0
  · rw [if_pos h]
    exact ok_of h
  · rw [if_neg h]
    exact ok_def
end Go.Proofs.YtphiaagppcbefaaGreatDoor
set_option linter.unusedVariables false
namespace Go.Proofs.YtphiaagppcbefaaGreatDoor
open Go.RowKit
theorem size_data (s : ByteArray) : s.data.toList.length = s.size := by simp
theorem drop_data (s : ByteArray) (k : Nat) : (s.extract k s.size).data.toList = s.data.toList.drop k := Lib.extract_to_end s k
theorem drop_size (s : ByteArray) (k : Nat) : (s.extract k s.size).size = s.size - k := by
  have := congrArg List.length (drop_data s k)
  rw [List.length_drop, size_data, size_data] at this
  exact this
end Go.Proofs.YtphiaagppcbefaaGreatDoor
set_option linter.unusedVariables false
namespace Go.Proofs.YtphiaagppcbefaaGreatDoor
open Go.RowKit
def mkS (l : List UInt8) : ByteArray := ⟨l.toArray⟩
theorem mkS_data (l : List UInt8) : (mkS l).data.toList = l := by unfold mkS; simp
end Go.Proofs.YtphiaagppcbefaaGreatDoor
set_option linter.unusedVariables false
namespace Go.Proofs.YtphiaagppcbefaaGreatDoor
open Go.RowKit
theorem fld1 (a b c d e f : Value) (w : World) : (Instr.field 26 (.agg #[a, b, c, d, e, f]) 1).run Tryz.prog w = .ok b w := by kernel_rfl
theorem fld2 (a b c d e f : Value) (w : World) : (Instr.field 26 (.agg #[a, b, c, d, e, f]) 2).run Tryz.prog w = .ok c w := by kernel_rfl
theorem fld3 (a b c d e f : Value) (w : World) : (Instr.field 26 (.agg #[a, b, c, d, e, f]) 3).run Tryz.prog w = .ok d w := by kernel_rfl
theorem fld4 (a b c d e f : Value) (w : World) : (Instr.field 26 (.agg #[a, b, c, d, e, f]) 4).run Tryz.prog w = .ok e w := by kernel_rfl
def upm (n : Nat) (u : Nat → Value) (z : Value) (k : Nat) : List Value := (List.range n).map fun j => if j < k then u j else z
theorem upm_len (n : Nat) (u : Nat → Value) (z : Value) (k : Nat) : (upm n u z k).length = n := by unfold upm; simp
theorem upm_get (n : Nat) (u : Nat → Value) (z : Value) (k j : Nat) (h : j < n) : (upm n u z k)[j]? = some (if j < k then u j else z) := by
  unfold upm
  rw [List.getElem?_map, List.getElem?_range h]
  rfl
theorem upm_set (n : Nat) (u : Nat → Value) (z : Value) (k : Nat) (h : k < n) : (upm n u z k).set k (u k) = upm n u z (k + 1) := by
  apply List.ext_getElem?
  intro j
  rw [List.getElem?_set, upm_len]
  by_cases hj : j < n
  · rw [upm_get n u z (k + 1) j hj]
    by_cases e : k = j
    · subst e
      simp [h]
    · rw [if_neg e, upm_get n u z k j hj]
      have : (j < k) = (j < k + 1) := by simp; omega
      simp [this]
  · have e1 : (upm n u z (k + 1))[j]? = none := List.getElem?_eq_none (by rw [upm_len]; omega)
    have e2 : (upm n u z k)[j]? = none := List.getElem?_eq_none (by rw [upm_len]; omega)
    have e3 : ¬ k = j := by omega
    rw [if_neg e3, e1, e2]
theorem upm_none (n : Nat) (u : Nat → Value) (z : Value) : upm n u z 0 = List.replicate n z := by
  refine List.eq_replicate_iff.2 ⟨upm_len n u z 0, fun b hb => ?_⟩
  unfold upm at hb
  obtain ⟨j, _, rfl⟩ := List.mem_map.1 hb
  exact if_neg (Nat.not_lt_zero j)
theorem upm_put (n : Nat) (u : Nat → Value) (z : Value) (k : Nat) (h : k < n) : (upm n u z k).toArray.setIfInBounds k (u k) = (upm n u z (k + 1)).toArray := by
  rw [List.setIfInBounds_toArray, upm_set n u z k h]
def uT (T : ByteArray) (l : List UInt8) (j : Nat) : Value := .int .u8 ((gb T (l.getD j 0).toNat).toNat : Int)
def TR (T : ByteArray) (l : List UInt8) (B : Nat) (w0 w : World) (k : Nat) : Prop :=
  Below B w0 w ∧ w.heap[B]? = some (.cells (upm l.length (uT T l) (.int .u8 0) k).toArray 5 (0, 0))
theorem TR.next {T : ByteArray} {l : List UInt8} {B k : Nat} {w0 w : World} (h : TR T l B w0 w k) (hk : k < l.length) : TR T l B w0 (w.setCell ⟨B, k, none⟩ (uT T l k)) (k + 1) :=
  ⟨h.1.setCell (p := ⟨B, k, none⟩) (Nat.le_refl B) _, by rw [heap_setCell_same w B k _ _ _ h.2, upm_put _ _ _ _ hk]⟩
theorem TR.cells {T : ByteArray} {l : List UInt8} {B k : Nat} {w0 w : World} (h : TR T l B w0 w k) (hk : k < l.length) :
    w.cell? ⟨B, k, none⟩ = some (.int .u8 0) ∧ w.frozen? ⟨B, k, none⟩ = false := by
  refine ⟨?_, frozen_of_row _ _ k _ _ h.2⟩
  rw [cell_of_row _ _ k _ _ _ h.2]
  simpa using upm_get l.length (uT T l) (.int .u8 0) k k hk
theorem TR.conv {T : ByteArray} {l : List UInt8} {B : Nat} {w0 w : World} (h : TR T l B w0 w l.length) : (convert 62 9 (.slice (some ⟨B, 0, none⟩) l.length l.length)).run Tryz.prog w = .ok (.string ⟨(mapT T l).toArray⟩) w := by
  have hl : (mapT T l).length = l.length := by unfold mapT; simp
  have := run_convert_bytes_back (P := Tryz.prog) w 62 9 5 ⟨B, 0, none⟩ l.length (mapT T l) Tryz.underlying62 Tryz.underlying5 Tryz.underlying9 (fun j hj => by
    have hj2 : j < l.length := by omega
    rw [add_off, Nat.zero_add, cell_of_row w B j _ _ _ h.2, List.getElem?_toArray, upm_get _ _ _ _ _ hj2, if_pos hj2]
    have e3 : (mapT T l)[j]? = some (gb T (l.getD j 0).toNat) := by
      unfold mapT
      rw [List.getElem?_map, List.getElem?_eq_getElem hj2]
      simp [List.getD, List.getElem?_eq_getElem hj2]
    have e2 := Option.some.inj ((List.getElem?_eq_getElem hj).symm.trans e3)
    rw [e2]
    rfl)
  rw [hl] at this
  exact this
set_option maxRecDepth 100000 in
set_option maxHeartbeats 4000000 in
theorem translate_any (T s : ByteArray) (hT : T.size = 256) (hs : s.size ≤ 4294967280) (w : World) :
    Calls Tryz.prog 135 #[.string T, .string s] w fun e w' => e = .returned (.string ⟨(mapT T s.data.toList).toArray⟩) ∧ Below w.heap.size w w' := by
  have hmk : ∀ w : World, (Instr.makeSlice 62 (.int .i64 (s.size : Int)) (.int .i64 (s.size : Int))).run Tryz.prog w = .ok (.slice (some ⟨w.heap.size, 0, none⟩) s.size s.size) (w.alloc (.cells (madeCells #[.int .u8 0] s.size) 5)) := fun w =>
    run_make_row' 62 5 (.int .u8 0) 1 Tryz.underlying62 infoU rfl .i64 .i64 s.size (by omega) (by omega) w
  have hlen : s.data.toList.length = s.size := size_data s
  have hm : madeCells #[.int .u8 0] s.size = (upm s.data.toList.length (uT T s.data.toList) (.int .u8 0) 0).toArray := by rw [upm_none, ← toList_madeCells_one, hlen]
  rw [hm] at hmk
  have H0 : Hid (TR T s.data.toList w.heap.size w (w.alloc (.cells (upm s.data.toList.length (uT T s.data.toList) (.int .u8 0) 0).toArray 5)) 0) := ⟨(Below.refl _ _).alloc (Nat.le_refl _) _, heap_alloc_new w _⟩
  obtain ⟨Y, hY⟩ : ∃ Y, (upm s.data.toList.length (uT T s.data.toList) (.int .u8 0) 0).toArray = Y := ⟨_, rfl⟩
  rw [hY] at hmk H0
  have HLn := Lib.hid hlen
  clear hm hY hlen
  obtain ⟨R, hR⟩ : ∃ R, (⟨(mapT T s.data.toList).toArray⟩ : ByteArray) = R := ⟨_, rfl⟩
  rw [hR]
  have HR := Lib.hid hR
  clear hR
  have hsi : (s.size : Int) ≤ 4294967280 := by omega
  have hTi : (T.size : Int) = 256 := by omega
  go_enter Tryz.func135, Tryz.ntmps135
  go_wp2
  go_loopw [12] (fun i wr => ∃ k : Nat, k ≤ s.size ∧ i = .int .i64 k ∧ Hid (TR T s.data.toList w.heap.size w wr k)) (fun i _ => s.size - (intOf i).toNat)
  case atStart => exact ⟨0, Nat.zero_le _, rfl, H0.out⟩
  case round =>
    obtain ⟨k, hk, rfl, HT⟩ := hrel
    by_cases hlt : k < s.size
    · have hi : (k : Int) < s.size := by omega
      have hi0 : (0 : Int) ≤ k := by omega
      have hkl : k < s.data.toList.length := by rw [HLn.out]; exact hlt
      obtain ⟨c1, f1⟩ := HT.out.cells hkl
      have hm := HT.out.next hkl
      have hg : s.data.toList.getD k 0 = s[k] := by
        simp [List.getD, List.getElem?_eq_getElem hkl]
        rfl
      unfold uT at hm
      rw [hg, gb_at T s[k].toNat (by have := s[k].toNat_lt; omega)] at hm
      obtain ⟨c, hc⟩ : ∃ c, s[k].toNat = c := ⟨_, rfl⟩
      have c256 : (c : Int) < 256 := by have := s[k].toNat_lt; omega
      have c0 : (0 : Int) ≤ c := by omega
      simp only [hc] at hm
      have HM := Lib.hid hm
      clear hm hg
      go_wp2
      go_roundw
      case rel => exact ⟨k + 1, by omega, by go_num, HM.out⟩
      case measure => simp [intOf]; omega
    · obtain rfl : k = s.size := by omega
      have h2 := HT.out
      rw [← HLn.out] at h2
      have hcv := h2.conv
      rw [HLn.out, HR.out] at hcv
      clear h2
      go_wp2
      go_ret
      exact ⟨rfl, HT.out.1⟩
set_option maxRecDepth 100000 in
set_option maxHeartbeats 4000000 in
theorem pLower_any (L : Loc) (W C E : Value) (s : ByteArray) (hs : s.size ≤ 4294967280) (w : World) (hM : LocM w L W C E) :
    Calls Tryz.prog 113 #[.agg (lcl L W C E), .string s] w fun e w' => e = .returned (.string ⟨(mapT (vld L).lower s.data.toList).toArray⟩) ∧ Below w.heap.size w w' := by
  have hfd2 := fld2
  have hfd3 := fld3
  have hB : Below w.heap.size w (w.alloc (.cells (lcl L W C E) 26)) := (Below.refl _ _).alloc (Nat.le_refl _) _
  have HB := Lib.hid hB
  have HU := Lib.hid (usable_any L W C E (w.alloc (.cells (lcl L W C E) 26)) (hM.below hB))
  have HT := Lib.hid (translate_any (vld L).lower s (ok_vld L).lo hs)
  generalize vld L = V at *
  generalize (⟨(mapT V.lower s.data.toList).toArray⟩ : ByteArray) = R at *
  clear hB
  obtain ⟨⟨aw, capw, rfl, _⟩, ⟨ac, capc, rfl, _⟩, ⟨ae, cape, rfl, _⟩⟩ := hM
  unfold lcl at HB HU ⊢
  go_enter Tryz.func113, Tryz.ntmps113
  go_wp2_with (first
    | (go_at_call 136
       refine HU.out.mono ?_
       rintro e w1 ⟨W1, C1, E1, rfl, hm, hb⟩
       have HB1 := Lib.hid (HB.out.trans (hb.mono HB.out.size))
       clear hb hm)
    | (go_at_call 135
       refine (HT.out _).mono ?_
       rintro e w2 ⟨rfl, hb⟩
       have HB2 := Lib.hid (HB1.out.trans (hb.mono HB1.out.size))
       clear hb))
  go_ret
  exact ⟨rfl, HB2.out⟩
set_option maxRecDepth 100000 in
set_option maxHeartbeats 4000000 in
theorem pUpper_any (L : Loc) (W C E : Value) (s : ByteArray) (hs : s.size ≤ 4294967280) (w : World) (hM : LocM w L W C E) :
    Calls Tryz.prog 114 #[.agg (lcl L W C E), .string s] w fun e w' => e = .returned (.string ⟨(mapT (vld L).upper s.data.toList).toArray⟩) ∧ Below w.heap.size w w' := by
  have hfd2 := fld2
  have hfd3 := fld3
  have hB : Below w.heap.size w (w.alloc (.cells (lcl L W C E) 26)) := (Below.refl _ _).alloc (Nat.le_refl _) _
  have HB := Lib.hid hB
  have HU := Lib.hid (usable_any L W C E (w.alloc (.cells (lcl L W C E) 26)) (hM.below hB))
  have HT := Lib.hid (translate_any (vld L).upper s (ok_vld L).up hs)
  generalize vld L = V at *
  generalize (⟨(mapT V.upper s.data.toList).toArray⟩ : ByteArray) = R at *
  clear hB
  obtain ⟨⟨aw, capw, rfl, _⟩, ⟨ac, capc, rfl, _⟩, ⟨ae, cape, rfl, _⟩⟩ := hM
  unfold lcl at HB HU ⊢
  go_enter Tryz.func114, Tryz.ntmps114
  go_wp2_with (first
    | (go_at_call 136
       refine HU.out.mono ?_
       rintro e w1 ⟨W1, C1, E1, rfl, hm, hb⟩
       have HB1 := Lib.hid (HB.out.trans (hb.mono HB.out.size))
       clear hb hm)
    | (go_at_call 135
       refine (HT.out _).mono ?_
       rintro e w2 ⟨rfl, hb⟩
       have HB2 := Lib.hid (HB1.out.trans (hb.mono HB1.out.size))
       clear hb))
  go_ret
  exact ⟨rfl, HB2.out⟩
end Go.Proofs.YtphiaagppcbefaaGreatDoor
