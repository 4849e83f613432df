/- LpCase. -/
import Derived.Test.YtphiaagppcbefaaGreatDoorRows
import Derived.Test.YtphiaagppcbefaaGreatDoorPk9
set_option linter.unusedVariables false
namespace Go.Proofs.YtphiaagppcbefaaGreatDoor
open Go.RowKit
theorem fld1 (a b c d e f : Value) (w : World) : (Instr.field 26 (.agg #[a, b, c, d, e, f]) 1).run Tryz.prog w = .ok b w := by kernel_rfl
theorem fld2 (a b c d e f : Value) (w : World) : (Instr.field 26 (.agg #[a, b, c, d, e, f]) 2).run Tryz.prog w = .ok c w := by kernel_rfl
theorem fld3 (a b c d e f : Value) (w : World) : (Instr.field 26 (.agg #[a, b, c, d, e, f]) 3).run Tryz.prog w = .ok d w := by kernel_rfl
theorem fld4 (a b c d e f : Value) (w : World) : (Instr.field 26 (.agg #[a, b, c, d, e, f]) 4).run Tryz.prog w = .ok e w := by kernel_rfl
def upm (n : Nat) (u : Nat → Value) (z : Value) (k : Nat) : List Value := (List.range n).map fun j => if j < k then u j else z
theorem upm_len (n : Nat) (u : Nat → Value) (z : Value) (k : Nat) : (upm n u z k).length = n := by unfold upm; simp
theorem upm_get (n : Nat) (u : Nat → Value) (z : Value) (k j : Nat) (h : j < n) : (upm n u z k)[j]? = some (if j < k then u j else z) := by
  unfold upm
  rw [List.getElem?_map, List.getElem?_range h]
  rfl
theorem upm_set (n : Nat) (u : Nat → Value) (z : Value) (k : Nat) (h : k < n) : (upm n u z k).set k (u k) = upm n u z (k + 1) := by
  apply List.ext_getElem?
  intro j
  rw [List.getElem?_set, upm_len]
  by_cases hj : j < n
  · rw [upm_get n u z (k + 1) j hj]
    by_cases e : k = j
    · subst e
      simp [h]
    · rw [if_neg e, upm_get n u z k j hj]
      have : (j < k) = (j < k + 1) := by simp; omega
      simp [this]
  · have e1 : (upm n u z (k + 1))[j]? = none := List.getElem?_eq_none (by rw [upm_len]; omega)
    have e2 : (upm n u z k)[j]? = none := List.getElem?_eq_none (by rw [upm_len]; omega)
    have e3 : ¬ k = j := by omega
    rw [if_neg e3, e1, e2]
theorem upm_none (n : Nat) (u : Nat → Value) (z : Value) : upm n u z 0 = List.replicate n z := by
  refine List.eq_replicate_iff.2 ⟨upm_len n u z 0, fun b hb => ?_⟩
  unfold upm at hb
  obtain ⟨j, _, rfl⟩ := List.mem_map.1 hb
  exact if_neg (Nat.not_lt_zero j)
theorem upm_put (n : Nat) (u : Nat → Value) (z : Value) (k : Nat) (h : k < n) : (upm n u z k).toArray.setIfInBounds k (u k) = (upm n u z (k + 1)).toArray := by
  rw [List.setIfInBounds_toArray, upm_set n u z k h]
def uT (T : ByteArray) (l : List UInt8) (j : Nat) : Value := .int .u8 ((gb T (l.getD j 0).toNat).toNat : Int)
def TR (T : ByteArray) (l : List UInt8) (B : Nat) (w0 w : World) (k : Nat) : Prop :=
  Below B w0 w ∧ w.heap[B]? = some (.cells (upm l.length (uT T l) (.int .u8 0) k).toArray 5 (0, 0))
theorem TR.next {T : ByteArray} {l : List UInt8} {B k : Nat} {w0 w : World} (h : TR T l B w0 w k) (hk : k < l.length) : TR T l B w0 (w.setCell ⟨B, k, none⟩ (uT T l k)) (k + 1) :=
  ⟨h.1.setCell (p := ⟨B, k, none⟩) (Nat.le_refl B) _, by rw [heap_setCell_same w B k _ _ _ h.2, upm_put _ _ _ _ hk]⟩
theorem TR.cells {T : ByteArray} {l : List UInt8} {B k : Nat} {w0 w : World} (h : TR T l B w0 w k) (hk : k < l.length) :
    w.cell? ⟨B, k, none⟩ = some (.int .u8 0) ∧ w.frozen? ⟨B, k, none⟩ = false := by
  refine ⟨?_, frozen_of_row _ _ k _ _ h.2⟩
  rw [cell_of_row _ _ k _ _ _ h.2]
  simpa using upm_get l.length (uT T l) (.int .u8 0) k k hk
theorem TR.conv {T : ByteArray} {l : List UInt8} {B : Nat} {w0 w : World} (h : TR T l B w0 w l.length) : (convert 62 9 (.slice (some ⟨B, 0, none⟩) l.length l.length)).run Tryz.prog w = .ok (.string ⟨(mapT T l).toArray⟩) w := by
  have hl : (mapT T l).length = l.length := by unfold mapT; simp
  have := run_convert_bytes_back (P := Tryz.prog) w 62 9 5 ⟨B, 0, none⟩ l.length (mapT T l) Tryz.underlying62 Tryz.underlying5 Tryz.underlying9 (fun j hj => by
    have hj2 : j < l.length := by omega
    rw [add_off, Nat.zero_add, cell_of_row w B j _ _ _ h.2, List.getElem?_toArray, upm_get _ _ _ _ _ hj2, if_pos hj2]
    have e3 : (mapT T l)[j]? = some (gb T (l.getD j 0).toNat) := by
      unfold mapT
      rw [List.getElem?_map, List.getElem?_eq_getElem hj2]
      simp [List.getD, List.getElem?_eq_getElem hj2]
    have e2 := Option.some.inj ((List.getElem?_eq_getElem hj).symm.trans e3)
    rw [e2]
    rfl)
  rw [hl] at this
  exact this
set_option maxRecDepth 100000 in
set_option maxHeartbeats 4000000 in
theorem translate_any (T s : ByteArray) (hT : T.size = 256) (hs : s.size ≤ 4294967280) (w : World) :
    Calls Tryz.prog 135 #[.string T, .string s] w fun e w' => e = .returned (.string ⟨(mapT T s.data.toList).toArray⟩) ∧ Below w.heap.size w w' := by
  have hmk : ∀ w : World, (Instr.makeSlice 62 (.int .i64 (s.size : Int)) (.int .i64 (s.size : Int))).run Tryz.prog w = .ok (.slice (some ⟨w.heap.size, 0, none⟩) s.size s.size) (w.alloc (.cells (madeCells #[.int .u8 0] s.size) 5)) := fun w =>
    run_make_row' 62 5 (.int .u8 0) 1 Tryz.underlying62 infoU rfl .i64 .i64 s.size (by omega) (by omega) w
  have hlen : s.data.toList.length = s.size := size_data s
  have hm : madeCells #[.int .u8 0] s.size = (upm s.data.toList.length (uT T s.data.toList) (.int .u8 0) 0).toArray := by rw [upm_none, ← toList_madeCells_one, hlen]
  rw [hm] at hmk
  have H0 : Hid (TR T s.data.toList w.heap.size w (w.alloc (.cells (upm s.data.toList.length (uT T s.data.toList) (.int .u8 0) 0).toArray 5)) 0) := ⟨(Below.refl _ _).alloc (Nat.le_refl _) _, heap_alloc_new w _⟩
  obtain ⟨Y, hY⟩ : ∃ Y, (upm s.data.toList.length (uT T s.data.toList) (.int .u8 0) 0).toArray = Y := ⟨_, rfl⟩
  rw [hY] at hmk H0
  have HLn := Lib.hid hlen
  clear hm hY hlen
  obtain ⟨R, hR⟩ : ∃ R, (⟨(mapT T s.data.toList).toArray⟩ : ByteArray) = R := ⟨_, rfl⟩
  rw [hR]
  have HR := Lib.hid hR
  clear hR
  have hsi : (s.size : Int) ≤ 4294967280 := by omega
  have hTi : (T.size : Int) = 256 := by omega
  go_enter Tryz.func135, Tryz.ntmps135
  go_wp2
  go_loopw [12] (fun i wr => ∃ k : Nat, k ≤ s.size ∧ i = .int .i64 k ∧ Hid (TR T s.data.toList w.heap.size w wr k)) (fun i _ => s.size - (intOf i).toNat)
  case atStart => exact ⟨0, Nat.zero_le _, rfl, H0.out⟩
  case round =>
    obtain ⟨k, hk, rfl, HT⟩ := hrel
    by_cases hlt : k < s.size
    · have hi : (k : Int) < s.size := by omega
      have hi0 : (0 : Int) ≤ k := by omega
      have hkl : k < s.data.toList.length := by rw [HLn.out]; exact hlt
      obtain ⟨c1, f1⟩ := HT.out.cells hkl
      have hm := HT.out.next hkl
      have hg : s.data.toList.getD k 0 = s[k] := by
        simp [List.getD, List.getElem?_eq_getElem hkl]
        rfl
      unfold uT at hm
      rw [hg, gb_at T s[k].toNat (by have := s[k].toNat_lt; omega)] at hm
      obtain ⟨c, hc⟩ : ∃ c, s[k].toNat = c := ⟨_, rfl⟩
      have c256 : (c : Int) < 256 := by have := s[k].toNat_lt; omega
      have c0 : (0 : Int) ≤ c := by omega
      simp only [hc] at hm
      have HM := Lib.hid hm
      clear hm hg
      go_wp2
      go_roundw
      case rel => exact ⟨k + 1, by omega, by go_num, HM.out⟩
      case measure => simp [intOf]; omega
    · obtain rfl : k = s.size := by omega
      have h2 := HT.out
      rw [← HLn.out] at h2
      have hcv := h2.conv
      rw [HLn.out, HR.out] at hcv
      clear h2
      go_wp2
      go_ret
      exact ⟨rfl, HT.out.1⟩
set_option maxRecDepth 100000 in
set_option maxHeartbeats 4000000 in
theorem pLower_any (L : Loc) (W C E : Value) (s : ByteArray) (hs : s.size ≤ 4294967280) (w : World) (hM : LocM w L W C E) :
    Calls Tryz.prog 113 #[.agg (lcl L W C E), .string s] w fun e w' => e = .returned (.string ⟨(mapT (vld L).lower s.data.toList).toArray⟩) ∧ Below w.heap.size w w' := by
  have hfd2 := fld2
  have hfd3 := fld3
  have hB : Below w.heap.size w (w.alloc (.cells (lcl L W C E) 26)) := (Below.refl _ _).alloc (Nat.le_refl _) _
  have HB := Lib.hid hB
  have HU := Lib.hid (usable_any L W C E (w.alloc (.cells (lcl L W C E) 26)) (hM.below hB))
  have HT := Lib.hid (translate_any (vld L).lower s (ok_vld L).lo hs)
  generalize vld L = V at *
  generalize (⟨(mapT V.lower s.data.toList).toArray⟩ : ByteArray) = R at *
  clear hB
  obtain ⟨⟨aw, capw, rfl, _⟩, ⟨ac, capc, rfl, _⟩, ⟨ae, cape, rfl, _⟩⟩ := hM
  unfold lcl at HB HU ⊢
  go_enter Tryz.func113, Tryz.ntmps113
  go_wp2_with (first
    | (go_at_call 136
       refine HU.out.mono ?_
       rintro e w1 ⟨W1, C1, E1, rfl, hm, hb⟩
       have HB1 := Lib.hid (HB.out.trans (hb.mono HB.out.size))
       clear hb hm)
    | (go_at_call 135
       refine (HT.out _).mono ?_
       rintro e w2 ⟨rfl, hb⟩
       have HB2 := Lib.hid (HB1.out.trans (hb.mono HB1.out.size))
       clear hb))
  go_ret
  exact ⟨rfl, HB2.out⟩
set_option maxRecDepth 100000 in
set_option maxHeartbeats 4000000 in
theorem pUpper_any (L : Loc) (W C E : Value) (s : ByteArray) (hs : s.size ≤ 4294967280) (w : World) (hM : LocM w L W C E) :
    Calls Tryz.prog 114 #[.agg (lcl L W C E), .string s] w fun e w' => e = .returned (.string ⟨(mapT (vld L).upper s.data.toList).toArray⟩) ∧ Below w.heap.size w w' := by
  have hfd2 := fld2
  have hfd3 := fld3
  have hB : Below w.heap.size w (w.alloc (.cells (lcl L W C E) 26)) := (Below.refl _ _).alloc (Nat.le_refl _) _
  have HB := Lib.hid hB
  have HU := Lib.hid (usable_any L W C E (w.alloc (.cells (lcl L W C E) 26)) (hM.below hB))
  have HT := Lib.hid (translate_any (vld L).upper s (ok_vld L).up hs)
  generalize vld L = V at *
  generalize (⟨(mapT V.upper s.data.toList).toArray⟩ : ByteArray) = R at *
  clear hB
  obtain ⟨⟨aw, capw, rfl, _⟩, ⟨ac, capc, rfl, _⟩, ⟨ae, cape, rfl, _⟩⟩ := hM
  unfold lcl at HB HU ⊢
  go_enter Tryz.func114, Tryz.ntmps114
  go_wp2_with (first
    | (go_at_call 136
       refine HU.out.mono ?_
       rintro e w1 ⟨W1, C1, E1, rfl, hm, hb⟩
       have HB1 := Lib.hid (HB.out.trans (hb.mono HB.out.size))
       clear hb hm)
    | (go_at_call 135
       refine (HT.out _).mono ?_
       rintro e w2 ⟨rfl, hb⟩
       have HB2 := Lib.hid (HB1.out.trans (hb.mono HB1.out.size))
       clear hb))
  go_ret
  exact ⟨rfl, HB2.out⟩
end Go.Proofs.YtphiaagppcbefaaGreatDoor
