/- Several texts in one (a claim has at most 60 files). -/
import Derived.Test.YtblaldcioneooaaGreatDoorNumFormatB
import Derived.Test.YtblaldcioneooaaGreatDoorMG
import Derived.Test.YtblaldcioneooaaGreatDoorCsRef
/- The reference's decimal form. (Out of layer 1's texts.) -/
set_option linter.unusedVariables false
set_option maxRecDepth 100000
namespace Go.Proofs.YtblaldcioneooaaGreatDoor
open Go.RowKit

def left (q : Nat) : Nat := if q = 0 then 0 else cnt q
theorem left_step (q : Nat) (h : q ≠ 0) : left q = left (q / 10) + 1 := by
  unfold left
  rw [if_neg h]
  by_cases hs : q < 10
  · rw [cnt_small q hs, if_pos (by omega)]
  · rw [cnt_big q hs, if_neg (by omega)]

set_option maxHeartbeats 1000000 in
theorem rfmt_neg (m : Nat) (w : World) (h0 : 0 < m) (h1 : m ≤ 9223372036854775808) :
    Calls Tryz.prog 30 #[.int .i64 (-(m : Int))] w fun e w' => e = .returned (.string (⟨#[45]⟩ ++ ⟨(txt m (cnt m)).toArray⟩)) ∧ Below w.heap.size w w' := by
  have z0 : ((-(m : Int)) == 0) = false := by simp; omega
  obtain ⟨i0, hi, hz0, hz1, hz2⟩ := info_parts Tryz.info5
  have HZ := Lib.hid h0
  have hs : -(m : Int) < 0 := by omega
  clear h0
  go_enter Tryz.func30, Tryz.ntmps30
  go_wp2
  go_loopw [3, 4] (fun s v wr => ∃ k q : Nat, v = .int .i64 (-(q : Int)) ∧ q ≤ 9223372036854775808 ∧ Hid (m / 10 ^ k = q) ∧ Hid (k + left q = cnt m) ∧ s = .string ⟨(txt m k).toArray⟩ ∧ Below w.heap.size w wr)
    (fun _ v _ => (intOf v).natAbs)
  case atStart => exact ⟨0, m, rfl, h1, by simp [Hid], by simp [Hid, left, Nat.ne_of_gt HZ.out], rfl, Below.refl _ _⟩
  case round =>
    obtain ⟨k, q, rfl, hq, g1, g2, rfl, hb⟩ := hrel
    by_cases hz : 0 < q
    · have z1 : ((-(q : Int)) != 0) = true := by simp; omega
      have HP : Hid ((⟨#[UInt8.ofNat (48 + q % 10)]⟩ : ByteArray) ++ ⟨(txt m k).toArray⟩ = ⟨(txt m (k + 1)).toArray⟩) := by
        have := txt_push m k
        rw [g1.out] at this; exact this
      have g3 : Hid (m / 10 ^ (k + 1) = q / 10) := by
        show m / 10 ^ (k + 1) = q / 10
        rw [div_step, g1.out]
      have g4 : Hid (k + 1 + left (q / 10) = cnt m) := by
        have := g2.out
        rw [left_step q (by omega)] at this
        show k + 1 + left (q / 10) = cnt m
        omega
      have hts : (⟨(txt m k).toArray⟩ : ByteArray).size ≤ 20 := by
        have e1 : (⟨(txt m k).toArray⟩ : ByteArray).size = k := txt_len m k
        have e2 := cnt_le 18 m (by omega)
        have e3 := g4.out
        omega
      generalize (⟨(txt m k).toArray⟩ : ByteArray) = t at *
      have hb1 : Below w.heap.size w (wr.alloc (.cells #[.int .u8 (48 + ((q % 10 : Nat) : Int))] 5)) := hb.alloc hb.size _
      have hcv := conv_one wr (q % 10) (by omega)
      have t2 : (-(q : Int)).tdiv 10 = -((q / 10 : Nat) : Int) := by
        rw [Int.neg_tdiv, Int.tdiv_eq_ediv_of_nonneg (by omega)]; rfl
      have e : ((q % 10 : Nat) : Int) = (q : Int) % 10 := by omega
      rw [e] at hcv hb1
      clear g1 g2
      by_cases hr : (q : Int) % 10 = 0
      · have t1 : (-(q : Int)).tmod 10 = 0 := by rw [Int.neg_tmod, Int.tmod_eq_emod_of_nonneg (by omega)]; omega
        rw [hr, Int.add_zero] at hcv hb1
        clear e hb
        have HR := Lib.hid hr
        clear hr
        go_wp2
        go_roundw
        case rel => exact ⟨k + 1, q / 10, rfl, by omega, g3, g4, by rw [← HP.out, UInt8.ofNat_add]; rfl, hb1⟩
        case measure => simp [intOf]; omega
      · have t1 : (-(q : Int)).tmod 10 = -((q : Int) % 10) := by rw [Int.neg_tmod, Int.tmod_eq_emod_of_nonneg (by omega)]
        have hr1 : 0 < (q : Int) % 10 := by omega
        clear e hb hr
        go_wp2
        go_roundw
        case rel => exact ⟨k + 1, q / 10, rfl, by omega, g3, g4, by rw [← HP.out, UInt8.ofNat_add]; rfl, hb1⟩
        case measure => simp [intOf]; omega
    · obtain rfl : q = 0 := by omega
      have g5 : Hid (k = cnt m) := by
        have := g2.out
        show k = cnt m
        simpa [left] using this
      have hts : (⟨(txt m k).toArray⟩ : ByteArray).size ≤ 20 := by
        rw [g5.out]; exact txt_size m (by omega)
      have HT : Hid ((⟨(txt m k).toArray⟩ : ByteArray) = ⟨(txt m (cnt m)).toArray⟩) := by
        show (⟨(txt m k).toArray⟩ : ByteArray) = _
        rw [← g5.out]
      generalize (⟨(txt m k).toArray⟩ : ByteArray) = t at *
      clear g1 g2 hz g5
      go_wp2
      go_ret
      exact ⟨ret_str (by rw [HT.out]), hb⟩

set_option maxHeartbeats 1000000 in
theorem rfmt_pos (m : Nat) (w : World) (h0 : 0 < m) (h1 : m ≤ 9223372036854775807) :
    Calls Tryz.prog 30 #[.int .i64 (m : Int)] w fun e w' => e = .returned (.string (⟨(txt m (cnt m)).toArray⟩)) ∧ Below w.heap.size w w' := by
  have z0 : ((m : Int) == 0) = false := by simp; omega
  obtain ⟨i0, hi, hz0, hz1, hz2⟩ := info_parts Tryz.info5
  have HZ := Lib.hid h0
  have hs : ¬ (m : Int) < 0 := by omega
  clear h0
  go_enter Tryz.func30, Tryz.ntmps30
  go_wp2
  go_loopw [3, 4] (fun s v wr => ∃ k q : Nat, v = .int .i64 (q : Int) ∧ q ≤ 9223372036854775807 ∧ Hid (m / 10 ^ k = q) ∧ Hid (k + left q = cnt m) ∧ s = .string ⟨(txt m k).toArray⟩ ∧ Below w.heap.size w wr)
    (fun _ v _ => (intOf v).natAbs)
  case atStart => exact ⟨0, m, rfl, h1, by simp [Hid], by simp [Hid, left, Nat.ne_of_gt HZ.out], rfl, Below.refl _ _⟩
  case round =>
    obtain ⟨k, q, rfl, hq, g1, g2, rfl, hb⟩ := hrel
    by_cases hz : 0 < q
    · have z1 : ((q : Int) != 0) = true := by simp; omega
      have HP : Hid ((⟨#[UInt8.ofNat (48 + q % 10)]⟩ : ByteArray) ++ ⟨(txt m k).toArray⟩ = ⟨(txt m (k + 1)).toArray⟩) := by
        have := txt_push m k
        rw [g1.out] at this; exact this
      have g3 : Hid (m / 10 ^ (k + 1) = q / 10) := by
        show m / 10 ^ (k + 1) = q / 10
        rw [div_step, g1.out]
      have g4 : Hid (k + 1 + left (q / 10) = cnt m) := by
        have := g2.out
        rw [left_step q (by omega)] at this
        show k + 1 + left (q / 10) = cnt m
        omega
      have hts : (⟨(txt m k).toArray⟩ : ByteArray).size ≤ 20 := by
        have e1 : (⟨(txt m k).toArray⟩ : ByteArray).size = k := txt_len m k
        have e2 := cnt_le 18 m (by omega)
        have e3 := g4.out
        omega
      generalize (⟨(txt m k).toArray⟩ : ByteArray) = t at *
      have hb1 : Below w.heap.size w (wr.alloc (.cells #[.int .u8 (48 + ((q % 10 : Nat) : Int))] 5)) := hb.alloc hb.size _
      have hcv := conv_one wr (q % 10) (by omega)
      have e : ((q % 10 : Nat) : Int) = (q : Int) % 10 := by omega
      rw [e] at hcv hb1
      clear g1 g2
      · clear e hb
        go_wp2
        go_roundw
        case rel => exact ⟨k + 1, q / 10, by simp, by omega, g3, g4, by rw [← HP.out, UInt8.ofNat_add]; rfl, hb1⟩
        case measure => simp [intOf]; omega
    · obtain rfl : q = 0 := by omega
      have g5 : Hid (k = cnt m) := by
        have := g2.out
        show k = cnt m
        simpa [left] using this
      have hts : (⟨(txt m k).toArray⟩ : ByteArray).size ≤ 20 := by
        rw [g5.out]; exact txt_size m (by omega)
      have HT : Hid ((⟨(txt m k).toArray⟩ : ByteArray) = ⟨(txt m (cnt m)).toArray⟩) := by
        show (⟨(txt m k).toArray⟩ : ByteArray) = _
        rw [← g5.out]
      generalize (⟨(txt m k).toArray⟩ : ByteArray) = t at *
      clear g1 g2 hz g5
      go_wp2
      go_ret
      exact ⟨ret_str (by rw [HT.out]), hb⟩

theorem rfmt_zero (w : World) :
    Calls Tryz.prog 30 #[.int .i64 0] w fun e w' => e = .returned (.string (fmtS 0)) ∧ Below w.heap.size w w' := by
  have h : fmtS 0 = ⟨#[48]⟩ := by
    unfold fmtS
    rw [if_neg (by decide), Int.natAbs_zero, cnt_small 0 (by decide)]
    rfl
  rw [h]
  clear h
  go_enter Tryz.func30, Tryz.ntmps30
  go_wp2
  go_ret
  exact ⟨rfl, Below.refl _ _⟩

theorem rfmt_any (n : Int) (w : World) (hf : fits n) :
    Calls Tryz.prog 30 #[.int .i64 n] w fun e w' => e = .returned (.string (fmtS n)) ∧ Below w.heap.size w w' := by
  obtain ⟨h1, h2⟩ := hf
  by_cases h0 : n = 0
  · subst h0; exact rfmt_zero w
  · by_cases hn : n < 0
    · have := rfmt_neg n.natAbs w (by omega) (by omega)
      have e : -(n.natAbs : Int) = n := by omega
      rw [e] at this
      unfold fmtS
      rw [if_pos hn]; exact this
    · have := rfmt_pos n.natAbs w (by omega) (by omega)
      have e : (n.natAbs : Int) = n := by omega
      rw [e] at this
      unfold fmtS
      rw [if_neg hn]; exact this

end Go.Proofs.YtblaldcioneooaaGreatDoor
/- The lines of a canonical text, one behind the other: in mathematics. -/
set_option linter.unusedVariables false
namespace Go.Proofs.YtblaldcioneooaaGreatDoor
open Go.RowKit

/-- Lines, each with its line feed. -/
def cat (ls : List (List UInt8)) : List UInt8 := (ls.map (· ++ [10])).flatten
theorem cat_nil : cat [] = [] := rfl
theorem cat_app (a b : List (List UInt8)) : cat (a ++ b) = cat a ++ cat b := by unfold cat; rw [List.map_append, List.flatten_append]
theorem cat_one (x : List UInt8) : cat [x] = x ++ [10] := by unfold cat; simp
theorem cat_len (ls : List (List UInt8)) : (cat ls).length = cost ls := by unfold cat cost; exact sum_succ ls
theorem fmt_cat (P : PL) : fmtL P = cat (fmtLines P) := by
  unfold fmtL cat jn
  rw [if_neg (fmtLines_ne P), pre_jl _ (fmtLines_ne P)]
  rfl
theorem jw3' (x y z : List UInt8) : jw [x, y, z] = x ++ 32 :: (y ++ 32 :: z) := by
  unfold jw
  rw [Lib.join_cons]
  simp [Lib.joinTail]
/-- Words, each behind a space. -/
def spc (ws : List (List UInt8)) : List UInt8 := (ws.map (32 :: ·)).flatten
theorem spc_app (a b : List (List UInt8)) : spc (a ++ b) = spc a ++ spc b := by unfold spc; rw [List.map_append, List.flatten_append]
theorem spc_one (x : List UInt8) : spc [x] = 32 :: x := by unfold spc; simp
theorem jw_spc (x : List UInt8) (r : List (List UInt8)) : jw (x :: r) = x ++ spc r := by
  unfold jw spc
  rw [Lib.join_cons]
  rfl
theorem spc_len (ws : List (List UInt8)) : (spc ws).length = cost ws := by
  unfold spc cost
  induction ws with
  | nil => rfl
  | cons x r ih => simp only [List.map_cons, List.flatten_cons, List.length_append, List.length_cons, List.sum_cons, ih]; omega
theorem mk_app (a b : List UInt8) : mk (a ++ b) = mk a ++ mk b := by
  apply ByteArray.ext
  simp [mk, ByteArray.data_append]
end Go.Proofs.YtblaldcioneooaaGreatDoor
/- The reference's cases. (Written by gen_lrf1.py.) -/
set_option linter.unusedVariables false
set_option maxRecDepth 100000
namespace Go.Proofs.YtblaldcioneooaaGreatDoor
open Go.RowKit

set_option maxHeartbeats 8000000 in
theorem cases_any (kw T1 T2 : ByteArray) (hkw : kw.size ≤ 5) (h1 : T1.size = 256) (h2 : T2.size = 256) (w : World) :
    Calls Tryz.prog 28 #[.string kw, .string T1, .string T2] w fun e w' => e = .returned (.string (mk (cat (forLines kw.data.toList T1.data.toList T2.data.toList 256)))) ∧ Below w.heap.size w w' := by
  have hT1 : (T1.size : Int) = 256 := by omega
  have hT2 : (T2.size : Int) = 256 := by omega
  have hkwi : (kw.size : Int) ≤ 5 := by omega
  have H1 := Lib.hid h1
  have H2 := Lib.hid h2
  have HKw := Lib.hid hkw
  clear h1 h2
  go_enter Tryz.func28, Tryz.ntmps28
  go_wp2
  go_loopw [7, 8] (fun o i wr => ∃ (k : Nat) (O : ByteArray), k ≤ 256 ∧ o = .string O ∧ i = .int .i64 k ∧ Hid (O = mk (cat (forLines kw.data.toList T1.data.toList T2.data.toList k)) ∧ Below w.heap.size w wr)) (fun _ i _ => 256 - (intOf i).toNat)
  case atStart => exact ⟨0, ⟨#[]⟩, Nat.zero_le _, rfl, rfl, rfl, Below.refl _ _⟩
  case round =>
    obtain ⟨k, O, hk, rfl, rfl, HR⟩ := hrel
    have hOs : O.size ≤ 3840 := by
      rw [HR.out.1, mk_size, cat_len]
      have := cost_for kw.data.toList T1.data.toList T2.data.toList (by rw [size_len]; exact HKw.out) k hk
      omega
    have hOi : (O.size : Int) ≤ 3840 := by omega
    by_cases hkn : k < 256
    · have ki : (k : Int) < 256 := by omega
      have ki0 : (0 : Int) ≤ k := by omega
      have hkn1 : k < T1.size := by have := H1.out; omega
      have hkm : k < T2.size := by have := H2.out; omega
      have ki1 : (k : Int) < T1.size := by omega
      have ki2 : (k : Int) < T2.size := by omega
      obtain ⟨c, hc⟩ : ∃ c, (T1[k]'hkn1).toNat = c := ⟨_, rfl⟩
      obtain ⟨d, hd⟩ : ∃ d, (T2[k]'hkm).toNat = d := ⟨_, rfl⟩
      have HLn := Lib.hid (forLines_succ kw.data.toList T1.data.toList T2.data.toList k)
      rw [getD_byte T1 k hkn1, getD_byte T2 k hkm] at HLn
      by_cases hcd : c = d
      · subst hcd
        have hcc : ((c : Int) != (c : Int)) = false := by simp
        have HLn2 : Hid (forLines kw.data.toList T1.data.toList T2.data.toList (k + 1) = forLines kw.data.toList T1.data.toList T2.data.toList k) := by
          show _ = _
          rw [HLn.out, if_pos (UInt8.toNat_inj.1 (hc.trans hd.symm))]
        clear HLn
        go_wp2
        refine wp_region_held_drew (S := fun _ => True) (by kernel_rfl) ?_ (fun hHeld => ?_)
        · exact trivial
        refine wpAnyH_take (i := 0) (v := ?av0) rfl (by kernel_rfl) (by kernel_rfl) (by kernel_rfl) (fun _ _ _ h => h) (Or.inl ⟨by rfl, ?ay0⟩) (by assumption) ?ar0
        case ay0 =>
          intro wx hSw
          clear hSw
          go_simp
          first | done | (with_reducible rfl)
        (try simp only [Act.put, List.getElem_toArray, List.getElem_cons_zero, List.setIfInBounds_toArray, List.set_cons_zero, List.set_cons_succ])
        refine wpAnyH_take (i := 1) (v := ?av1) rfl (by kernel_rfl) (by kernel_rfl) (by kernel_rfl) (fun _ _ _ h => h) (Or.inl ⟨by rfl, ?ay1⟩) (by assumption) ?ar1
        case ay1 =>
          intro wx hSw
          clear hSw
          go_simp
          first | done | (with_reducible rfl)
        (try simp only [Act.put, List.getElem_toArray, List.getElem_cons_succ, List.getElem_cons_zero, List.setIfInBounds_toArray, List.set_cons_zero, List.set_cons_succ])
        refine wpAnyH_take (i := 2) (v := ?av2) rfl (by kernel_rfl) (by kernel_rfl) (by kernel_rfl) (fun _ _ _ h => h) (Or.inl ⟨by rfl, ?ay2⟩) (by assumption) ?ar2
        case ay2 =>
          intro wx hSw
          clear hSw
          go_simp
          first | done | (with_reducible rfl)
        (try simp only [Act.put, List.getElem_toArray, List.getElem_cons_succ, List.getElem_cons_zero, List.setIfInBounds_toArray, List.set_cons_zero, List.set_cons_succ])
        refine wpAnyH_take (i := 3) (v := ?av3) rfl (by kernel_rfl) (by kernel_rfl) (by kernel_rfl) (fun _ _ _ h => h) (Or.inl ⟨by rfl, ?ay3⟩) (by assumption) ?ar3
        case ay3 =>
          intro wx hSw
          clear hSw
          go_simp
          first | done | (with_reducible rfl)
        (try simp only [Act.put, List.getElem_toArray, List.getElem_cons_succ, List.getElem_cons_zero, List.setIfInBounds_toArray, List.set_cons_zero, List.set_cons_succ])
        refine wpAnyH_take (i := 4) (v := ?av4) rfl (by kernel_rfl) (by kernel_rfl) (by kernel_rfl) (fun _ _ _ h => h) (Or.inl ⟨by rfl, ?ay4⟩) (by assumption) ?ar4
        case ay4 =>
          intro wx hSw
          clear hSw
          go_simp
          first | done | (with_reducible rfl)
        (try simp only [Act.put, List.getElem_toArray, List.getElem_cons_succ, List.getElem_cons_zero, List.setIfInBounds_toArray, List.set_cons_zero, List.set_cons_succ])
        refine wpAnyH_take (i := 5) (v := ?av5) rfl (by kernel_rfl) (by kernel_rfl) (by kernel_rfl) (fun _ _ _ h => h) (Or.inl ⟨by rfl, ?ay5⟩) (by assumption) ?ar5
        case ay5 =>
          intro wx hSw
          clear hSw
          go_simp
          first | done | (with_reducible rfl)
        (try simp only [Act.put, List.getElem_toArray, List.getElem_cons_succ, List.getElem_cons_zero, List.setIfInBounds_toArray, List.set_cons_zero, List.set_cons_succ])
        refine wpAnyH_take (i := 6) (v := ?av6) rfl (by kernel_rfl) (by kernel_rfl) (by kernel_rfl) (fun _ _ _ h => h) (Or.inl ⟨by rfl, ?ay6⟩) (by assumption) ?ar6
        case ay6 =>
          intro wx hSw
          clear hSw
          go_simp
          first | done | (with_reducible rfl)
        (try simp only [Act.put, List.getElem_toArray, List.getElem_cons_succ, List.getElem_cons_zero, List.setIfInBounds_toArray, List.set_cons_zero, List.set_cons_succ])
        refine wpAnyH_done (by kernel_rfl) ?_ _
        go_wp2
        go_roundw
        case rel => exact ⟨k + 1, _, by omega, rfl, by go_num, by rw [HLn2.out]; exact HR.out.1, HR.out.2.drew⟩
        case measure => simp [intOf]; omega
      · have hcc : ((c : Int) != (d : Int)) = true := by simp; omega
        have hcl : c < 256 := by rw [← hc]; exact UInt8.toNat_lt _
        have HLn2 : Hid (cat (forLines kw.data.toList T1.data.toList T2.data.toList (k + 1)) = cat (forLines kw.data.toList T1.data.toList T2.data.toList k) ++ ((kw.data.toList ++ 32 :: (fmB k ++ 32 :: fmB c)) ++ [10])) := by
          show _ = _
          rw [HLn.out, if_neg (fun e => hcd (by rw [← hc, ← hd, e])), cat_app, cat_one]
          unfold forLine
          rw [getD_byte T1 k hkn1, hc, jw3']
        clear HLn
        have hwc : IntKind.i64.wrap (c : Int) = (c : Int) := IntWalk.i64_in _ (by omega)
        have HFk := Lib.hid (fun w => rfmt_any (k : Int) w (by unfold fits; omega))
        have HFc := Lib.hid (fun w => rfmt_any (c : Int) w (by unfold fits; omega))
        have hz1 := fmtS_size (k : Int) (by unfold fits; omega)
        have hz2 := fmtS_size (c : Int) (by unfold fits; omega)
        obtain ⟨FK, hFK⟩ : ∃ FK, fmtS (k : Int) = FK := ⟨_, rfl⟩
        obtain ⟨FC, hFC⟩ : ∃ FC, fmtS (c : Int) = FC := ⟨_, rfl⟩
        rw [hFK] at HFk hz1
        rw [hFC] at HFc hz2
        have iz1 : (FK.size : Int) ≤ 40 := by omega
        have iz2 : (FC.size : Int) ≤ 40 := by omega
        have HFK := Lib.hid hFK
        have HFC := Lib.hid hFC
        clear hFK hFC hcd
        go_wp2
        refine wp_region_held_drew (S := fun _ => True) (by kernel_rfl) ?_ (fun hHeld => ?_)
        · exact trivial
        refine wpAnyH_take (i := 0) (v := ?dv0) rfl (by kernel_rfl) (by kernel_rfl) (by kernel_rfl) (fun _ _ _ h => h) (Or.inl ⟨by rfl, ?dy0⟩) (by assumption) ?dr0
        case dy0 =>
          intro wx hSw
          clear hSw
          go_simp
          first | done | (with_reducible rfl)
        (try simp only [Act.put, List.getElem_toArray, List.getElem_cons_zero, List.setIfInBounds_toArray, List.set_cons_zero, List.set_cons_succ])
        refine wpAnyH_take (i := 1) (v := ?dv1) rfl (by kernel_rfl) (by kernel_rfl) (by kernel_rfl) (fun _ _ _ h => h) (Or.inl ⟨by rfl, ?dy1⟩) (by assumption) ?dr1
        case dy1 =>
          intro wx hSw
          clear hSw
          go_simp
          first | done | (with_reducible rfl)
        (try simp only [Act.put, List.getElem_toArray, List.getElem_cons_succ, List.getElem_cons_zero, List.setIfInBounds_toArray, List.set_cons_zero, List.set_cons_succ])
        refine wpAnyH_take (i := 2) (v := ?dv2) rfl (by kernel_rfl) (by kernel_rfl) (by kernel_rfl) (fun _ _ _ h => h) (Or.inl ⟨by rfl, ?dy2⟩) (by assumption) ?dr2
        case dy2 =>
          intro wx hSw
          clear hSw
          go_simp
          first | done | (with_reducible rfl)
        (try simp only [Act.put, List.getElem_toArray, List.getElem_cons_succ, List.getElem_cons_zero, List.setIfInBounds_toArray, List.set_cons_zero, List.set_cons_succ])
        refine wpAnyH_take (i := 3) (v := ?dv3) rfl (by kernel_rfl) (by kernel_rfl) (by kernel_rfl) (fun _ _ _ h => h) (Or.inl ⟨by rfl, ?dy3⟩) (by assumption) ?dr3
        case dy3 =>
          intro wx hSw
          clear hSw
          go_simp
          first | done | (with_reducible rfl)
        (try simp only [Act.put, List.getElem_toArray, List.getElem_cons_succ, List.getElem_cons_zero, List.setIfInBounds_toArray, List.set_cons_zero, List.set_cons_succ])
        refine wpAnyH_take (i := 4) (v := ?dv4) rfl (by kernel_rfl) (by kernel_rfl) (by kernel_rfl) (fun _ _ _ h => h) (Or.inl ⟨by rfl, ?dy4⟩) (by assumption) ?dr4
        case dy4 =>
          intro wx hSw
          clear hSw
          go_simp
          first | done | (with_reducible rfl)
        (try simp only [Act.put, List.getElem_toArray, List.getElem_cons_succ, List.getElem_cons_zero, List.setIfInBounds_toArray, List.set_cons_zero, List.set_cons_succ])
        refine wpAnyH_take (i := 5) (v := ?dv5) rfl (by kernel_rfl) (by kernel_rfl) (by kernel_rfl) (fun _ _ _ h => h) (Or.inl ⟨by rfl, ?dy5⟩) (by assumption) ?dr5
        case dy5 =>
          intro wx hSw
          clear hSw
          go_simp
          first | done | (with_reducible rfl)
        (try simp only [Act.put, List.getElem_toArray, List.getElem_cons_succ, List.getElem_cons_zero, List.setIfInBounds_toArray, List.set_cons_zero, List.set_cons_succ])
        refine wpAnyH_take (i := 6) (v := ?dv6) rfl (by kernel_rfl) (by kernel_rfl) (by kernel_rfl) (fun _ _ _ h => h) (Or.inl ⟨by rfl, ?dy6⟩) (by assumption) ?dr6
        case dy6 =>
          intro wx hSw
          clear hSw
          go_simp
          first | done | (with_reducible rfl)
        (try simp only [Act.put, List.getElem_toArray, List.getElem_cons_succ, List.getElem_cons_zero, List.setIfInBounds_toArray, List.set_cons_zero, List.set_cons_succ])
        refine wpAnyH_done (by kernel_rfl) ?_ _
        go_wp2
        refine wp_region_held_drew (S := fun _ => True) (by kernel_rfl) ?_ (fun hHeld => ?_)
        · exact trivial
        refine wpAnyH_take (i := 0) (v := ?bv0) rfl (by kernel_rfl) (by kernel_rfl) (by kernel_rfl) (fun _ _ _ h => h) (Or.inl ⟨by rfl, ?by0⟩) (by assumption) ?br0
        case by0 =>
          intro wx hSw
          clear hSw
          go_simp
          first | done | (with_reducible rfl) | (rw [if_neg (by have l1 : (ByteArray.mk #[32]).size = 1 := rfl; have l2 : (ByteArray.mk #[10]).size = 1 := rfl; first | omega | (simp only [ByteArray.size_append]; omega))] <;> with_reducible rfl)
        (try simp only [Act.put, List.getElem_toArray, List.getElem_cons_zero, List.setIfInBounds_toArray, List.set_cons_zero, List.set_cons_succ])
        refine wpAnyH_take (i := 1) (v := ?bv1) rfl (by kernel_rfl) (by kernel_rfl) (by kernel_rfl) (fun _ _ _ h => h) (Or.inl ⟨by rfl, ?by1⟩) (by assumption) ?br1
        case by1 =>
          intro wx hSw
          clear hSw
          go_simp
          first | done | (with_reducible rfl) | (rw [if_neg (by have l1 : (ByteArray.mk #[32]).size = 1 := rfl; have l2 : (ByteArray.mk #[10]).size = 1 := rfl; first | omega | (simp only [ByteArray.size_append]; omega))] <;> with_reducible rfl)
        (try simp only [Act.put, List.getElem_toArray, List.getElem_cons_succ, List.getElem_cons_zero, List.setIfInBounds_toArray, List.set_cons_zero, List.set_cons_succ])
        refine wpAnyH_take (i := 2) (v := ?bv2) rfl (by kernel_rfl) (by kernel_rfl) (by kernel_rfl) (fun _ _ _ h => h) (Or.inl ⟨by rfl, ?by2⟩) (by assumption) ?br2
        case by2 =>
          intro wx hSw
          clear hSw
          go_simp
          first | done | (with_reducible rfl) | (rw [if_neg (by have l1 : (ByteArray.mk #[32]).size = 1 := rfl; have l2 : (ByteArray.mk #[10]).size = 1 := rfl; first | omega | (simp only [ByteArray.size_append]; omega))] <;> with_reducible rfl)
        (try simp only [Act.put, List.getElem_toArray, List.getElem_cons_succ, List.getElem_cons_zero, List.setIfInBounds_toArray, List.set_cons_zero, List.set_cons_succ])
        refine wpAnyH_take (i := 3) (v := ?bv3) rfl (by kernel_rfl) (by kernel_rfl) (by kernel_rfl) (fun _ _ _ h => h) (Or.inl ⟨by rfl, ?by3⟩) (by assumption) ?br3
        case by3 =>
          intro wx hSw
          clear hSw
          go_simp
          first | done | (with_reducible rfl) | (rw [if_neg (by have l1 : (ByteArray.mk #[32]).size = 1 := rfl; have l2 : (ByteArray.mk #[10]).size = 1 := rfl; first | omega | (simp only [ByteArray.size_append]; omega))] <;> with_reducible rfl)
        (try simp only [Act.put, List.getElem_toArray, List.getElem_cons_succ, List.getElem_cons_zero, List.setIfInBounds_toArray, List.set_cons_zero, List.set_cons_succ])
        refine wpAnyH_take (i := 4) (v := ?bv4) rfl (by kernel_rfl) (by kernel_rfl) (by kernel_rfl) (fun _ _ _ h => h) (Or.inl ⟨by rfl, ?by4⟩) (by assumption) ?br4
        case by4 =>
          intro wx hSw
          clear hSw
          go_simp
          first | done | (with_reducible rfl) | (rw [if_neg (by have l1 : (ByteArray.mk #[32]).size = 1 := rfl; have l2 : (ByteArray.mk #[10]).size = 1 := rfl; first | omega | (simp only [ByteArray.size_append]; omega))] <;> with_reducible rfl)
        (try simp only [Act.put, List.getElem_toArray, List.getElem_cons_succ, List.getElem_cons_zero, List.setIfInBounds_toArray, List.set_cons_zero, List.set_cons_succ])
        refine wpAnyH_take (i := 8) (v := ?bv8) rfl (by kernel_rfl) (by kernel_rfl) (by kernel_rfl) (fun _ _ _ h => h) (Or.inl ⟨by rfl, ?by8⟩) (by assumption) ?br8
        case by8 =>
          intro wx hSw
          clear hSw
          go_simp
          first | done | (with_reducible rfl) | (rw [if_neg (by have l1 : (ByteArray.mk #[32]).size = 1 := rfl; have l2 : (ByteArray.mk #[10]).size = 1 := rfl; first | omega | (simp only [ByteArray.size_append]; omega))] <;> with_reducible rfl)
        (try simp only [Act.put, List.getElem_toArray, List.getElem_cons_succ, List.getElem_cons_zero, List.setIfInBounds_toArray, List.set_cons_zero, List.set_cons_succ])
        refine wpAnyH_take (i := 9) (v := ?bv9) rfl (by kernel_rfl) (by kernel_rfl) (by kernel_rfl) (fun _ _ _ h => h) (Or.inl ⟨by rfl, ?by9⟩) (by assumption) ?br9
        case by9 =>
          intro wx hSw
          clear hSw
          go_simp
          first | done | (with_reducible rfl) | (rw [if_neg (by have l1 : (ByteArray.mk #[32]).size = 1 := rfl; have l2 : (ByteArray.mk #[10]).size = 1 := rfl; first | omega | (simp only [ByteArray.size_append]; omega))] <;> with_reducible rfl)
        (try simp only [Act.put, List.getElem_toArray, List.getElem_cons_succ, List.getElem_cons_zero, List.setIfInBounds_toArray, List.set_cons_zero, List.set_cons_succ])
        refine wpAnyH_take (i := 10) (v := ?bv10) rfl (by kernel_rfl) (by kernel_rfl) (by kernel_rfl) (fun _ _ _ h => h) (Or.inl ⟨by rfl, ?by10⟩) (by assumption) ?br10
        case by10 =>
          intro wx hSw
          clear hSw
          go_simp
          first | done | (with_reducible rfl) | (rw [if_neg (by have l1 : (ByteArray.mk #[32]).size = 1 := rfl; have l2 : (ByteArray.mk #[10]).size = 1 := rfl; first | omega | (simp only [ByteArray.size_append]; omega))] <;> with_reducible rfl)
        (try simp only [Act.put, List.getElem_toArray, List.getElem_cons_succ, List.getElem_cons_zero, List.setIfInBounds_toArray, List.set_cons_zero, List.set_cons_succ])
        refine wpAnyH_take (i := 11) (v := ?bv11) rfl (by kernel_rfl) (by kernel_rfl) (by kernel_rfl) (fun _ _ _ h => h) (Or.inl ⟨by rfl, ?by11⟩) (by assumption) ?br11
        case by11 =>
          intro wx hSw
          clear hSw
          go_simp
          first | done | (with_reducible rfl) | (rw [if_neg (by have l1 : (ByteArray.mk #[32]).size = 1 := rfl; have l2 : (ByteArray.mk #[10]).size = 1 := rfl; first | omega | (simp only [ByteArray.size_append]; omega))] <;> with_reducible rfl)
        (try simp only [Act.put, List.getElem_toArray, List.getElem_cons_succ, List.getElem_cons_zero, List.setIfInBounds_toArray, List.set_cons_zero, List.set_cons_succ])
        refine wpAnyH_ready (rs := [5]) (by kernel_rfl) (by simp) ?_
        refine AllReadyH.cons rfl (fun K hK => ?_) AllReadyH.nil
        go_simp
        go_at_call 30
        refine (HFk.out _).mono ?_
        rintro e wa ⟨rfl, hb⟩
        have HBa := Lib.hid ((HR.out.2.drew.drew).trans (hb.mono HR.out.2.size))
        clear hb
        refine hK.out _ _ trivial (fun _ => ?_)
        clear hK K
        (try simp only [Act.put, List.getElem_toArray, List.getElem_cons_succ, List.getElem_cons_zero, List.setIfInBounds_toArray, List.set_cons_zero, List.set_cons_succ])
        refine wpAnyH_take (i := 6) (v := ?cv6) rfl (by kernel_rfl) (by kernel_rfl) (by kernel_rfl) (fun _ _ _ h => h) (Or.inl ⟨by rfl, ?cy6⟩) (by assumption) ?cr6
        case cy6 =>
          intro wx hSw
          clear hSw
          go_simp
          first | done | (with_reducible rfl) | (rw [if_neg (by have l1 : (ByteArray.mk #[32]).size = 1 := rfl; have l2 : (ByteArray.mk #[10]).size = 1 := rfl; first | omega | (simp only [ByteArray.size_append]; omega))] <;> with_reducible rfl)
        (try simp only [Act.put, List.getElem_toArray, List.getElem_cons_succ, List.getElem_cons_zero, List.setIfInBounds_toArray, List.set_cons_zero, List.set_cons_succ])
        refine wpAnyH_take (i := 7) (v := ?cv7) rfl (by kernel_rfl) (by kernel_rfl) (by kernel_rfl) (fun _ _ _ h => h) (Or.inl ⟨by rfl, ?cy7⟩) (by assumption) ?cr7
        case cy7 =>
          intro wx hSw
          clear hSw
          go_simp
          first | done | (with_reducible rfl) | (rw [if_neg (by have l1 : (ByteArray.mk #[32]).size = 1 := rfl; have l2 : (ByteArray.mk #[10]).size = 1 := rfl; first | omega | (simp only [ByteArray.size_append]; omega))] <;> with_reducible rfl)
        (try simp only [Act.put, List.getElem_toArray, List.getElem_cons_succ, List.getElem_cons_zero, List.setIfInBounds_toArray, List.set_cons_zero, List.set_cons_succ])
        refine wpAnyH_ready (rs := [12]) (by kernel_rfl) (by simp) ?_
        refine AllReadyH.cons rfl (fun K hK => ?_) AllReadyH.nil
        go_simp
        go_at_call 30
        refine (HFc.out _).mono ?_
        rintro e wb ⟨rfl, hb⟩
        have HBb := Lib.hid (HBa.out.trans (hb.mono HBa.out.size))
        clear hb
        refine hK.out _ _ trivial (fun _ => ?_)
        clear hK K
        (try simp only [Act.put, List.getElem_toArray, List.getElem_cons_succ, List.getElem_cons_zero, List.setIfInBounds_toArray, List.set_cons_zero, List.set_cons_succ])
        refine wpAnyH_take (i := 13) (v := ?ev13) rfl (by kernel_rfl) (by kernel_rfl) (by kernel_rfl) (fun _ _ _ h => h) (Or.inl ⟨by rfl, ?ey13⟩) (by assumption) ?er13
        case ey13 =>
          intro wx hSw
          clear hSw
          go_simp
          first | done | (with_reducible rfl) | (rw [if_neg (by have l1 : (ByteArray.mk #[32]).size = 1 := rfl; have l2 : (ByteArray.mk #[10]).size = 1 := rfl; first | omega | (simp only [ByteArray.size_append]; omega))] <;> with_reducible rfl)
        (try simp only [Act.put, List.getElem_toArray, List.getElem_cons_succ, List.getElem_cons_zero, List.setIfInBounds_toArray, List.set_cons_zero, List.set_cons_succ])
        refine wpAnyH_take (i := 14) (v := ?ev14) rfl (by kernel_rfl) (by kernel_rfl) (by kernel_rfl) (fun _ _ _ h => h) (Or.inl ⟨by rfl, ?ey14⟩) (by assumption) ?er14
        case ey14 =>
          intro wx hSw
          clear hSw
          go_simp
          first | done | (with_reducible rfl) | (rw [if_neg (by have l1 : (ByteArray.mk #[32]).size = 1 := rfl; have l2 : (ByteArray.mk #[10]).size = 1 := rfl; first | omega | (simp only [ByteArray.size_append]; omega))] <;> with_reducible rfl)
        (try simp only [Act.put, List.getElem_toArray, List.getElem_cons_succ, List.getElem_cons_zero, List.setIfInBounds_toArray, List.set_cons_zero, List.set_cons_succ])
        refine wpAnyH_take (i := 15) (v := ?ev15) rfl (by kernel_rfl) (by kernel_rfl) (by kernel_rfl) (fun _ _ _ h => h) (Or.inl ⟨by rfl, ?ey15⟩) (by assumption) ?er15
        case ey15 =>
          intro wx hSw
          clear hSw
          go_simp
          first | done | (with_reducible rfl) | (rw [if_neg (by have l1 : (ByteArray.mk #[32]).size = 1 := rfl; have l2 : (ByteArray.mk #[10]).size = 1 := rfl; first | omega | (simp only [ByteArray.size_append]; omega))] <;> with_reducible rfl)
        (try simp only [Act.put, List.getElem_toArray, List.getElem_cons_succ, List.getElem_cons_zero, List.setIfInBounds_toArray, List.set_cons_zero, List.set_cons_succ])
        refine wpAnyH_done (by kernel_rfl) ?_ _
        go_wp2
        go_roundw
        case rel =>
          refine ⟨k + 1, _, by omega, rfl, by go_num, ?_, HBb.out⟩
          rw [HLn2.out, mk_app, ← HR.out.1]
          apply ByteArray.ext
          apply Array.ext'
          rw [← HFK.out, ← HFC.out]
          simp [mk, fmB, ByteArray.data_append]
        case measure => simp [intOf]; omega
    · have hk2 : k = 256 := by omega
      have kn : ¬ ((k : Int) < 256) := by omega
      have HR2 := HR.out
      rw [hk2] at HR2
      have HD := Lib.hid HR2
      clear hk2 hk hkn
      go_wp2
      go_ret
      obtain rfl : O = _ := HD.out.1
      exact ⟨rfl, HD.out.2⟩
end Go.Proofs.YtblaldcioneooaaGreatDoor
/- The reference's weights: mathematics. -/
set_option linter.unusedVariables false
namespace Go.Proofs.YtblaldcioneooaaGreatDoor
open Go.RowKit

theorem grpT_mono {f : Nat → Int} {v : Int} {i c : Nat} (h : c ∈ grpT f v i) (hi : i ≤ 256) : c ∈ grpT f v 256 := by
  have := grpT_lt h
  unfold grpT
  simp
  exact ⟨by omega, this.2.1, this.2.2⟩
theorem ordT_sub {f : Nat → Int} {v : Int} {i : Nat} (h : v ∈ ordT f i) (hi : i ≤ 256) : v ∈ ordT f 256 := by
  have h1 := (ordT_mem f v i).1 h
  obtain ⟨c, r, hc⟩ := List.exists_cons_of_ne_nil h1
  refine (ordT_mem f v 256).2 fun e => ?_
  have := grpT_mono (f := f) (v := v) (i := i) (c := c) (by rw [hc]; simp) hi
  rw [e] at this
  cases this
/-- What stands written before byte i. -/
def wOut (f : Nat → Int) (i : Nat) : List UInt8 := cat ((ordT f i).map (weiLine f))
theorem wOut_len (f : Nat → Int) (hf : ∀ j, j < 256 → 0 ≤ f j ∧ f j ≤ 65535) (i : Nat) (hi : i ≤ 256) : (wOut f i).length ≤ 400000 := by
  unfold wOut
  rw [cat_len]
  have h1 := cost_wei f hf (ordT f i) (fun v hv => ordT_sub hv hi)
  have h2 := ordT_len f i
  have h3 : ((ordT f i).map fun v => (grpT f v 256).length).sum ≤ 256 * (ordT f i).length := by
    generalize ordT f i = l
    induction l with
    | nil => simp
    | cons v l ih =>
      have := grpT_len f v 256
      simp only [List.map_cons, List.sum_cons, List.length_cons]
      omega
  omega
theorem wOut_same (f : Nat → Int) (i : Nat) (h : f i = (i : Int) ∨ grpT f (f i) i ≠ []) : wOut f (i + 1) = wOut f i := by
  unfold wOut
  have hq : ordT f (i + 1) = if f i = (i : Int) then ordT f i else if grpT f (f i) i = [] then ordT f i ++ [f i] else ordT f i := rfl
  rw [hq]
  rcases h with h | h
  · rw [if_pos h]
  · by_cases h1 : f i = (i : Int)
    · rw [if_pos h1]
    · rw [if_neg h1, if_neg h]
theorem wOut_new (f : Nat → Int) (i : Nat) (h1 : f i ≠ (i : Int)) (h2 : grpT f (f i) i = []) : wOut f (i + 1) = wOut f i ++ ((kWei ++ (spc ((grpT f (f i) 256).map fmB) ++ 32 :: fmB (f i).toNat)) ++ [10]) := by
  unfold wOut
  have hq : ordT f (i + 1) = if f i = (i : Int) then ordT f i else if grpT f (f i) i = [] then ordT f i ++ [f i] else ordT f i := rfl
  rw [hq, if_neg h1, if_pos h2, List.map_append, cat_app]
  congr 1
  show cat [weiLine f (f i)] = _
  rw [cat_one]
  unfold weiLine
  rw [jw_spc, spc_app, spc_one]
/-- The bytes of weight X before k. -/
def gOut (f : Nat → Int) (X : Int) (k : Nat) : List UInt8 := spc ((grpT f X k).map fmB)
theorem gOut_len (f : Nat → Int) (X : Int) (k : Nat) (hk : k ≤ 256) : (gOut f X k).length ≤ 1024 := by
  unfold gOut
  rw [spc_len]
  have h1 := fm_cost (grpT f X k) (fun c hc => by have := (grpT_lt hc).1; omega)
  have h2 := grpT_len f X k
  omega
theorem gOut_same (f : Nat → Int) (X : Int) (k : Nat) (h : ¬ (f k ≠ (k : Int) ∧ f k = X)) : gOut f X (k + 1) = gOut f X k := by
  unfold gOut
  rw [grpT_succ, if_neg h]
theorem gOut_new (f : Nat → Int) (X : Int) (k : Nat) (h : f k ≠ (k : Int) ∧ f k = X) : gOut f X (k + 1) = gOut f X k ++ 32 :: fmB k := by
  unfold gOut
  rw [grpT_succ, if_pos h, List.map_append, spc_app]
  congr 1
  exact spc_one _
/-- Is no byte before k of weight X? -/
def fOut (f : Nat → Int) (X : Int) (i k : Nat) : Bool := decide (grpT f X (min k i) = [])
theorem fOut_same (f : Nat → Int) (X : Int) (i k : Nat) (h : ¬ (f k ≠ (k : Int) ∧ f k = X)) : fOut f X i (k + 1) = fOut f X i k := by
  unfold fOut
  by_cases hk : k < i
  · rw [Nat.min_eq_left (by omega), Nat.min_eq_left (by omega), grpT_succ, if_neg h]
  · rw [Nat.min_eq_right (by omega), Nat.min_eq_right (by omega)]
theorem fOut_late (f : Nat → Int) (X : Int) (i k : Nat) (hk : ¬ k < i) : fOut f X i (k + 1) = fOut f X i k := by
  unfold fOut
  rw [Nat.min_eq_right (by omega), Nat.min_eq_right (by omega)]
theorem fOut_new (f : Nat → Int) (X : Int) (i k : Nat) (h : f k ≠ (k : Int) ∧ f k = X) (hk : k < i) : fOut f X i (k + 1) = false := by
  unfold fOut
  rw [Nat.min_eq_left (by omega), grpT_succ, if_pos h]
  simp
end Go.Proofs.YtblaldcioneooaaGreatDoor
/- The reference's weights. (Written by gen_lrf2.py.) -/
set_option linter.unusedVariables false
set_option maxRecDepth 100000
namespace Go.Proofs.YtblaldcioneooaaGreatDoor
open Go.RowKit

/-- What the walk reads. -/
structure WR (f : Nat → Int) (w : World) (B1 B2 b1 o1 w1c b2 o2 w2c : Nat) : Prop where
  make ::
  c1 : w.cell? ⟨B1, 1, none⟩ = some (.slice (some ⟨b1, o1, none⟩) 256 w1c)
  c2 : w.cell? ⟨B2, 1, none⟩ = some (.slice (some ⟨b2, o2, none⟩) 256 w2c)
  r1 : ∀ j, j < 256 → w.cell? ⟨b1, o1 + j, none⟩ = some (.int .i64 (f j))
  r2 : ∀ j, j < 256 → w.cell? ⟨b2, o2 + j, none⟩ = some (.int .i64 (j : Int))
  l1 : B1 < w.heap.size
  l2 : B2 < w.heap.size
  l3 : b1 < w.heap.size
  l4 : b2 < w.heap.size
theorem WR.next {f : Nat → Int} {w w' : World} {B1 B2 b1 o1 w1c b2 o2 w2c : Nat} (h : WR f w B1 B2 b1 o1 w1c b2 o2 w2c) (hb : Below w.heap.size w w') : WR f w' B1 B2 b1 o1 w1c b2 o2 w2c :=
  ⟨(hb.cell (by exact h.l1)).trans h.c1, (hb.cell (by exact h.l2)).trans h.c2, fun j hj => (hb.cell (by exact h.l3)).trans (h.r1 j hj), fun j hj => (hb.cell (by exact h.l4)).trans (h.r2 j hj), Nat.lt_of_lt_of_le h.l1 hb.size, Nat.lt_of_lt_of_le h.l2 hb.size, Nat.lt_of_lt_of_le h.l3 hb.size, Nat.lt_of_lt_of_le h.l4 hb.size⟩
set_option maxHeartbeats 32000000 in
theorem rweights_any (f : Nat → Int) (hf : ∀ j, j < 256 → 0 ≤ f j ∧ f j ≤ 65535) (c0 c2 c3 c4 c5 d0 d2 d3 d4 d5 W1 W2 : Value) (w : World) (h1 : SL 1 256 (fun j _ => .int .i64 (f j)) w W1) (h2 : SL 1 256 (fun j _ => .int .i64 ((fun j : Nat => (j : Int)) j)) w W2) :
    Calls Tryz.prog 27 #[.agg #[c0, W1, c2, c3, c4, c5], .agg #[d0, W2, d2, d3, d4, d5]] w fun e w' => e = .returned (.string (mk (wOut f 256))) ∧ Below w.heap.size w w' := by
  obtain ⟨a1, w1c, rfl, _, k1⟩ := h1
  obtain ⟨a2, w2c, rfl, _, k2⟩ := h2
  rcases k1 with h0 | ⟨b1, o1, rfl, l1, k1⟩
  · omega
  rcases k2 with h0 | ⟨b2, o2, rfl, l2, k2⟩
  · omega
  have hb1 : Below w.heap.size w (w.alloc (.cells #[c0, .slice (some ⟨b1, o1, none⟩) 256 w1c, c2, c3, c4, c5] 26)) := (Below.refl _ _).alloc (Nat.le_refl _) _
  have hb2 : Below w.heap.size w ((w.alloc (.cells #[c0, .slice (some ⟨b1, o1, none⟩) 256 w1c, c2, c3, c4, c5] 26)).alloc (.cells #[d0, .slice (some ⟨b2, o2, none⟩) 256 w2c, d2, d3, d4, d5] 26)) := hb1.alloc hb1.size _
  have hs1 : (w.alloc (.cells #[c0, .slice (some ⟨b1, o1, none⟩) 256 w1c, c2, c3, c4, c5] 26)).heap.size = w.heap.size + 1 := by simp
  have ha1 : LAt (w.alloc (.cells #[c0, .slice (some ⟨b1, o1, none⟩) 256 w1c, c2, c3, c4, c5] 26)) w.heap.size #[c0, .slice (some ⟨b1, o1, none⟩) 256 w1c, c2, c3, c4, c5] := heap_alloc_new w _
  have ha2 : LAt ((w.alloc (.cells #[c0, .slice (some ⟨b1, o1, none⟩) 256 w1c, c2, c3, c4, c5] 26)).alloc (.cells #[d0, .slice (some ⟨b2, o2, none⟩) 256 w2c, d2, d3, d4, d5] 26)) (w.alloc (.cells #[c0, .slice (some ⟨b1, o1, none⟩) 256 w1c, c2, c3, c4, c5] 26)).heap.size #[d0, .slice (some ⟨b2, o2, none⟩) 256 w2c, d2, d3, d4, d5] := heap_alloc_new _ _
  rw [hs1] at ha2
  have ha3 : LAt ((w.alloc (.cells #[c0, .slice (some ⟨b1, o1, none⟩) 256 w1c, c2, c3, c4, c5] 26)).alloc (.cells #[d0, .slice (some ⟨b2, o2, none⟩) 256 w2c, d2, d3, d4, d5] 26)) w.heap.size #[c0, .slice (some ⟨b1, o1, none⟩) 256 w1c, c2, c3, c4, c5] := ha1.under ((Below.refl _ _).alloc (Nat.le_refl _) _) (by rw [hs1]; omega)
  have hwr : WR f ((w.alloc (.cells #[c0, .slice (some ⟨b1, o1, none⟩) 256 w1c, c2, c3, c4, c5] 26)).alloc (.cells #[d0, .slice (some ⟨b2, o2, none⟩) 256 w2c, d2, d3, d4, d5] 26)) w.heap.size (w.heap.size + 1) b1 o1 w1c b2 o2 w2c := by
    refine ⟨ha3.cell 1, ha2.cell 1, fun j hj => ?_, fun j hj => ?_, ha3.lt, ha2.lt, Nat.lt_of_lt_of_le l1 hb2.size, Nat.lt_of_lt_of_le l2 hb2.size⟩
    · rw [hb2.cell (by exact l1)]
      have := k1 j 0 hj (by decide)
      simpa using this
    · rw [hb2.cell (by exact l2)]
      have := k2 j 0 hj (by decide)
      simpa using this
  have HWR := Lib.hid hwr
  have HB0 := Lib.hid hb2
  have HF := Lib.hid hf
  clear k1 k2 hb1 hb2 hs1 ha1 ha2 ha3 hwr hf l1 l2
  go_enter Tryz.func27, Tryz.ntmps27
  go_wp2
  obtain ⟨B1, hB1⟩ : ∃ B1, w.heap.size = B1 := ⟨_, rfl⟩
  obtain ⟨B2, hB2⟩ : ∃ B2, w.heap.size + 1 = B2 := ⟨_, rfl⟩
  rw [hB2] at HWR ⊢
  rw [hB1] at HWR ⊢
  generalize ((w.alloc (.cells #[c0, .slice (some ⟨b1, o1, none⟩) 256 w1c, c2, c3, c4, c5] 26)).alloc (.cells #[d0, .slice (some ⟨b2, o2, none⟩) 256 w2c, d2, d3, d4, d5] 26)) = w2 at HWR HB0 ⊢
  have HB1 := Lib.hid hB1
  clear hB1 hB2
  go_loopw [5, 6] (fun o v wr => ∃ (i : Nat) (O : ByteArray), i ≤ 256 ∧ o = .string O ∧ v = .int .i64 i ∧ Hid (O = mk (wOut f i) ∧ Below w2.heap.size w2 wr)) (fun _ v _ => 256 - (intOf v).toNat)
  case atStart => exact ⟨0, ⟨#[]⟩, Nat.zero_le _, rfl, rfl, rfl, Below.refl _ _⟩
  case round =>
    obtain ⟨i, O, hi, rfl, rfl, HR⟩ := hrel
    have hOs : O.size ≤ 400000 := by
      rw [HR.out.1, mk_size]
      exact wOut_len f HF.out i hi
    have hOi : (O.size : Int) ≤ 400000 := by omega
    by_cases hin : i < 256
    · have ii : (i : Int) < 256 := by omega
      have ii0 : (0 : Int) ≤ i := by omega
      obtain ⟨X, hX⟩ : ∃ X, f i = X := ⟨_, rfl⟩
      have hXr := HF.out i hin
      rw [hX] at hXr
      have HX := Lib.hid hX
      clear hX
      rename World => wo
      go_wp2
      go_loopw [7, 8, 9] (fun bs fs v wz => ∃ (k : Nat) (Bs : ByteArray) (fst : Bool), k ≤ 256 ∧ bs = .string Bs ∧ fs = .bool fst ∧ v = .int .i64 k ∧ Hid (Bs = mk (gOut f X k) ∧ fst = fOut f X i k ∧ Below w2.heap.size w2 wz)) (fun _ _ v _ => 256 - (intOf v).toNat)
      case atStart => exact ⟨0, ⟨#[]⟩, true, Nat.zero_le _, rfl, rfl, rfl, rfl, (by unfold fOut grpT; simp), HR.out.2⟩
      case round =>
        rename World => wz
        obtain ⟨k, Bs, fst, hk, rfl, rfl, rfl, HZ⟩ := hrel
        have hBs : Bs.size ≤ 1024 := by
          rw [HZ.out.1, mk_size]
          exact gOut_len f X k hk
        have hBi : (Bs.size : Int) ≤ 1024 := by omega
        have hw := HWR.out.next HZ.out.2.2
        by_cases hkn : k < 256
        · have ki : (k : Int) < 256 := by omega
          have ki0 : (0 : Int) ≤ k := by omega
          have q1 := hw.c1
          have q2 := hw.c2
          have q3 := hw.r1 k hkn
          have q4 := hw.r1 i hin
          have q5 := hw.r2 k hkn
          rw [HX.out] at q4
          clear hw
          by_cases hfx : f k = X
          · rw [hfx] at q3
            have HFX := Lib.hid hfx
            by_cases hxk : X = (k : Int)
            · have hne : (X != (k : Int)) = false := by rw [hxk]; simp
              have hno : ¬ (f k ≠ (k : Int) ∧ f k = X) := fun h => h.1 (hfx.trans hxk)
              have HG := Lib.hid (gOut_same f X k hno)
              have HFo := Lib.hid (fOut_same f X i k hno)
              clear hfx hxk hno
              go_wp2
              refine wp_region_held_drew (S := fun w' => w'.cell? ⟨B1, 1, none⟩ = some (.slice (some ⟨b1, o1, none⟩) 256 w1c) ∧ w'.cell? ⟨B2, 1, none⟩ = some (.slice (some ⟨b2, o2, none⟩) 256 w2c) ∧ w'.cell? ⟨b1, o1 + k, none⟩ = some (.int .i64 X) ∧ w'.cell? ⟨b1, o1 + i, none⟩ = some (.int .i64 X) ∧ w'.cell? ⟨b2, o2 + k, none⟩ = some (.int .i64 (k : Int))) (by kernel_rfl) ?_ (fun hHeld => ?_)
              · exact ⟨q1, q2, q3, q4, q5⟩
              refine wpAnyH_take (i := 0) (v := ?av0) rfl (by kernel_rfl) (by kernel_rfl) (by kernel_rfl) (fun _ _ _ h => h) (Or.inl ⟨by rfl, ?ay0⟩) (by assumption) ?ar0
              case ay0 =>
                intro wx hSw
                have hq := hSw
                obtain ⟨s1, s2, s3, s4, s5⟩ := hq
                clear hSw
                go_simp
                first | done | (with_reducible rfl)
              (try simp only [Act.put, List.getElem_toArray, List.getElem_cons_zero, List.setIfInBounds_toArray, List.set_cons_zero, List.set_cons_succ])
              refine wpAnyH_take (i := 1) (v := ?av1) rfl (by kernel_rfl) (by kernel_rfl) (by kernel_rfl) (fun _ _ _ h => h) (Or.inl ⟨by rfl, ?ay1⟩) (by assumption) ?ar1
              case ay1 =>
                intro wx hSw
                have hq := hSw
                obtain ⟨s1, s2, s3, s4, s5⟩ := hq
                clear hSw
                go_simp
                first | done | (with_reducible rfl)
              (try simp only [Act.put, List.getElem_toArray, List.getElem_cons_succ, List.getElem_cons_zero, List.setIfInBounds_toArray, List.set_cons_zero, List.set_cons_succ])
              refine wpAnyH_take (i := 2) (v := ?av2) rfl (by kernel_rfl) (by kernel_rfl) (by kernel_rfl) (fun _ _ _ h => h) (Or.inl ⟨by rfl, ?ay2⟩) (by assumption) ?ar2
              case ay2 =>
                intro wx hSw
                have hq := hSw
                obtain ⟨s1, s2, s3, s4, s5⟩ := hq
                clear hSw
                go_simp
                first | done | (with_reducible rfl)
              (try simp only [Act.put, List.getElem_toArray, List.getElem_cons_succ, List.getElem_cons_zero, List.setIfInBounds_toArray, List.set_cons_zero, List.set_cons_succ])
              refine wpAnyH_take (i := 3) (v := ?av3) rfl (by kernel_rfl) (by kernel_rfl) (by kernel_rfl) (fun _ _ _ h => h) (Or.inl ⟨by rfl, ?ay3⟩) (by assumption) ?ar3
              case ay3 =>
                intro wx hSw
                have hq := hSw
                obtain ⟨s1, s2, s3, s4, s5⟩ := hq
                clear hSw
                go_simp
                first | done | (with_reducible rfl)
              (try simp only [Act.put, List.getElem_toArray, List.getElem_cons_succ, List.getElem_cons_zero, List.setIfInBounds_toArray, List.set_cons_zero, List.set_cons_succ])
              refine wpAnyH_take (i := 4) (v := ?av4) rfl (by kernel_rfl) (by kernel_rfl) (by kernel_rfl) (fun _ _ _ h => h) (Or.inl ⟨by rfl, ?ay4⟩) (by assumption) ?ar4
              case ay4 =>
                intro wx hSw
                have hq := hSw
                obtain ⟨s1, s2, s3, s4, s5⟩ := hq
                clear hSw
                go_simp
                first | done | (with_reducible rfl)
              (try simp only [Act.put, List.getElem_toArray, List.getElem_cons_succ, List.getElem_cons_zero, List.setIfInBounds_toArray, List.set_cons_zero, List.set_cons_succ])
              refine wpAnyH_take (i := 5) (v := ?av5) rfl (by kernel_rfl) (by kernel_rfl) (by kernel_rfl) (fun _ _ _ h => h) (Or.inl ⟨by rfl, ?ay5⟩) (by assumption) ?ar5
              case ay5 =>
                intro wx hSw
                have hq := hSw
                obtain ⟨s1, s2, s3, s4, s5⟩ := hq
                clear hSw
                go_simp
                first | done | (with_reducible rfl)
              (try simp only [Act.put, List.getElem_toArray, List.getElem_cons_succ, List.getElem_cons_zero, List.setIfInBounds_toArray, List.set_cons_zero, List.set_cons_succ])
              refine wpAnyH_take (i := 6) (v := ?av6) rfl (by kernel_rfl) (by kernel_rfl) (by kernel_rfl) (fun _ _ _ h => h) (Or.inl ⟨by rfl, ?ay6⟩) (by assumption) ?ar6
              case ay6 =>
                intro wx hSw
                have hq := hSw
                obtain ⟨s1, s2, s3, s4, s5⟩ := hq
                clear hSw
                go_simp
                first | done | (with_reducible rfl)
              (try simp only [Act.put, List.getElem_toArray, List.getElem_cons_succ, List.getElem_cons_zero, List.setIfInBounds_toArray, List.set_cons_zero, List.set_cons_succ])
              refine wpAnyH_take (i := 7) (v := ?av7) rfl (by kernel_rfl) (by kernel_rfl) (by kernel_rfl) (fun _ _ _ h => h) (Or.inl ⟨by rfl, ?ay7⟩) (by assumption) ?ar7
              case ay7 =>
                intro wx hSw
                have hq := hSw
                obtain ⟨s1, s2, s3, s4, s5⟩ := hq
                clear hSw
                go_simp
                first | done | (with_reducible rfl)
              (try simp only [Act.put, List.getElem_toArray, List.getElem_cons_succ, List.getElem_cons_zero, List.setIfInBounds_toArray, List.set_cons_zero, List.set_cons_succ])
              refine wpAnyH_take (i := 8) (v := ?av8) rfl (by kernel_rfl) (by kernel_rfl) (by kernel_rfl) (fun _ _ _ h => h) (Or.inl ⟨by rfl, ?ay8⟩) (by assumption) ?ar8
              case ay8 =>
                intro wx hSw
                have hq := hSw
                obtain ⟨s1, s2, s3, s4, s5⟩ := hq
                clear hSw
                go_simp
                first | done | (with_reducible rfl)
              (try simp only [Act.put, List.getElem_toArray, List.getElem_cons_succ, List.getElem_cons_zero, List.setIfInBounds_toArray, List.set_cons_zero, List.set_cons_succ])
              refine wpAnyH_take (i := 9) (v := ?av9) rfl (by kernel_rfl) (by kernel_rfl) (by kernel_rfl) (fun _ _ _ h => h) (Or.inl ⟨by rfl, ?ay9⟩) (by assumption) ?ar9
              case ay9 =>
                intro wx hSw
                have hq := hSw
                obtain ⟨s1, s2, s3, s4, s5⟩ := hq
                clear hSw
                go_simp
                first | done | (with_reducible rfl)
              (try simp only [Act.put, List.getElem_toArray, List.getElem_cons_succ, List.getElem_cons_zero, List.setIfInBounds_toArray, List.set_cons_zero, List.set_cons_succ])
              refine wpAnyH_take (i := 10) (v := ?av10) rfl (by kernel_rfl) (by kernel_rfl) (by kernel_rfl) (fun _ _ _ h => h) (Or.inl ⟨by rfl, ?ay10⟩) (by assumption) ?ar10
              case ay10 =>
                intro wx hSw
                have hq := hSw
                obtain ⟨s1, s2, s3, s4, s5⟩ := hq
                clear hSw
                go_simp
                first | done | (with_reducible rfl)
              (try simp only [Act.put, List.getElem_toArray, List.getElem_cons_succ, List.getElem_cons_zero, List.setIfInBounds_toArray, List.set_cons_zero, List.set_cons_succ])
              refine wpAnyH_take (i := 11) (v := ?av11) rfl (by kernel_rfl) (by kernel_rfl) (by kernel_rfl) (fun _ _ _ h => h) (Or.inl ⟨by rfl, ?ay11⟩) (by assumption) ?ar11
              case ay11 =>
                intro wx hSw
                have hq := hSw
                obtain ⟨s1, s2, s3, s4, s5⟩ := hq
                clear hSw
                go_simp
                first | done | (with_reducible rfl)
              (try simp only [Act.put, List.getElem_toArray, List.getElem_cons_succ, List.getElem_cons_zero, List.setIfInBounds_toArray, List.set_cons_zero, List.set_cons_succ])
              refine wpAnyH_take (i := 12) (v := ?av12) rfl (by kernel_rfl) (by kernel_rfl) (by kernel_rfl) (fun _ _ _ h => h) (Or.inl ⟨by rfl, ?ay12⟩) (by assumption) ?ar12
              case ay12 =>
                intro wx hSw
                have hq := hSw
                obtain ⟨s1, s2, s3, s4, s5⟩ := hq
                clear hSw
                go_simp
                first | done | (with_reducible rfl)
              (try simp only [Act.put, List.getElem_toArray, List.getElem_cons_succ, List.getElem_cons_zero, List.setIfInBounds_toArray, List.set_cons_zero, List.set_cons_succ])
              refine wpAnyH_take (i := 13) (v := ?av13) rfl (by kernel_rfl) (by kernel_rfl) (by kernel_rfl) (fun _ _ _ h => h) (Or.inl ⟨by rfl, ?ay13⟩) (by assumption) ?ar13
              case ay13 =>
                intro wx hSw
                have hq := hSw
                obtain ⟨s1, s2, s3, s4, s5⟩ := hq
                clear hSw
                go_simp
                first | done | (with_reducible rfl)
              (try simp only [Act.put, List.getElem_toArray, List.getElem_cons_succ, List.getElem_cons_zero, List.setIfInBounds_toArray, List.set_cons_zero, List.set_cons_succ])
              refine wpAnyH_take (i := 14) (v := ?av14) rfl (by kernel_rfl) (by kernel_rfl) (by kernel_rfl) (fun _ _ _ h => h) (Or.inl ⟨by rfl, ?ay14⟩) (by assumption) ?ar14
              case ay14 =>
                intro wx hSw
                have hq := hSw
                obtain ⟨s1, s2, s3, s4, s5⟩ := hq
                clear hSw
                go_simp
                first | done | (with_reducible rfl)
              (try simp only [Act.put, List.getElem_toArray, List.getElem_cons_succ, List.getElem_cons_zero, List.setIfInBounds_toArray, List.set_cons_zero, List.set_cons_succ])
              refine wpAnyH_take (i := 15) (v := ?av15) rfl (by kernel_rfl) (by kernel_rfl) (by kernel_rfl) (fun _ _ _ h => h) (Or.inl ⟨by rfl, ?ay15⟩) (by assumption) ?ar15
              case ay15 =>
                intro wx hSw
                have hq := hSw
                obtain ⟨s1, s2, s3, s4, s5⟩ := hq
                clear hSw
                go_simp
                first | done | (with_reducible rfl)
              (try simp only [Act.put, List.getElem_toArray, List.getElem_cons_succ, List.getElem_cons_zero, List.setIfInBounds_toArray, List.set_cons_zero, List.set_cons_succ])
              refine wpAnyH_take (i := 16) (v := ?av16) rfl (by kernel_rfl) (by kernel_rfl) (by kernel_rfl) (fun _ _ _ h => h) (Or.inl ⟨by rfl, ?ay16⟩) (by assumption) ?ar16
              case ay16 =>
                intro wx hSw
                have hq := hSw
                obtain ⟨s1, s2, s3, s4, s5⟩ := hq
                clear hSw
                go_simp
                first | done | (with_reducible rfl)
              (try simp only [Act.put, List.getElem_toArray, List.getElem_cons_succ, List.getElem_cons_zero, List.setIfInBounds_toArray, List.set_cons_zero, List.set_cons_succ])
              refine wpAnyH_take (i := 17) (v := ?av17) rfl (by kernel_rfl) (by kernel_rfl) (by kernel_rfl) (fun _ _ _ h => h) (Or.inl ⟨by rfl, ?ay17⟩) (by assumption) ?ar17
              case ay17 =>
                intro wx hSw
                have hq := hSw
                obtain ⟨s1, s2, s3, s4, s5⟩ := hq
                clear hSw
                go_simp
                first | done | (with_reducible rfl)
              (try simp only [Act.put, List.getElem_toArray, List.getElem_cons_succ, List.getElem_cons_zero, List.setIfInBounds_toArray, List.set_cons_zero, List.set_cons_succ])
              refine wpAnyH_take (i := 18) (v := ?av18) rfl (by kernel_rfl) (by kernel_rfl) (by kernel_rfl) (fun _ _ _ h => h) (Or.inl ⟨by rfl, ?ay18⟩) (by assumption) ?ar18
              case ay18 =>
                intro wx hSw
                have hq := hSw
                obtain ⟨s1, s2, s3, s4, s5⟩ := hq
                clear hSw
                go_simp
                first | done | (with_reducible rfl)
              (try simp only [Act.put, List.getElem_toArray, List.getElem_cons_succ, List.getElem_cons_zero, List.setIfInBounds_toArray, List.set_cons_zero, List.set_cons_succ])
              refine wpAnyH_take (i := 19) (v := ?av19) rfl (by kernel_rfl) (by kernel_rfl) (by kernel_rfl) (fun _ _ _ h => h) (Or.inl ⟨by rfl, ?ay19⟩) (by assumption) ?ar19
              case ay19 =>
                intro wx hSw
                have hq := hSw
                obtain ⟨s1, s2, s3, s4, s5⟩ := hq
                clear hSw
                go_simp
                first | done | (with_reducible rfl)
              (try simp only [Act.put, List.getElem_toArray, List.getElem_cons_succ, List.getElem_cons_zero, List.setIfInBounds_toArray, List.set_cons_zero, List.set_cons_succ])
              refine wpAnyH_take (i := 20) (v := ?av20) rfl (by kernel_rfl) (by kernel_rfl) (by kernel_rfl) (fun _ _ _ h => h) (Or.inl ⟨by rfl, ?ay20⟩) (by assumption) ?ar20
              case ay20 =>
                intro wx hSw
                have hq := hSw
                obtain ⟨s1, s2, s3, s4, s5⟩ := hq
                clear hSw
                go_simp
                first | done | (with_reducible rfl)
              (try simp only [Act.put, List.getElem_toArray, List.getElem_cons_succ, List.getElem_cons_zero, List.setIfInBounds_toArray, List.set_cons_zero, List.set_cons_succ])
              refine wpAnyH_take (i := 21) (v := ?av21) rfl (by kernel_rfl) (by kernel_rfl) (by kernel_rfl) (fun _ _ _ h => h) (Or.inl ⟨by rfl, ?ay21⟩) (by assumption) ?ar21
              case ay21 =>
                intro wx hSw
                have hq := hSw
                obtain ⟨s1, s2, s3, s4, s5⟩ := hq
                clear hSw
                go_simp
                first | done | (with_reducible rfl)
              (try simp only [Act.put, List.getElem_toArray, List.getElem_cons_succ, List.getElem_cons_zero, List.setIfInBounds_toArray, List.set_cons_zero, List.set_cons_succ])
              refine wpAnyH_take (i := 22) (v := ?av22) rfl (by kernel_rfl) (by kernel_rfl) (by kernel_rfl) (fun _ _ _ h => h) (Or.inl ⟨by rfl, ?ay22⟩) (by assumption) ?ar22
              case ay22 =>
                intro wx hSw
                have hq := hSw
                obtain ⟨s1, s2, s3, s4, s5⟩ := hq
                clear hSw
                go_simp
                first | done | (with_reducible rfl)
              (try simp only [Act.put, List.getElem_toArray, List.getElem_cons_succ, List.getElem_cons_zero, List.setIfInBounds_toArray, List.set_cons_zero, List.set_cons_succ])
              refine wpAnyH_take (i := 23) (v := ?av23) rfl (by kernel_rfl) (by kernel_rfl) (by kernel_rfl) (fun _ _ _ h => h) (Or.inl ⟨by rfl, ?ay23⟩) (by assumption) ?ar23
              case ay23 =>
                intro wx hSw
                have hq := hSw
                obtain ⟨s1, s2, s3, s4, s5⟩ := hq
                clear hSw
                go_simp
                first | done | (with_reducible rfl)
              (try simp only [Act.put, List.getElem_toArray, List.getElem_cons_succ, List.getElem_cons_zero, List.setIfInBounds_toArray, List.set_cons_zero, List.set_cons_succ])
              refine wpAnyH_done (by kernel_rfl) ?_ _
              go_wp2
              go_roundw
              case rel => exact ⟨k + 1, _, _, by omega, rfl, rfl, by go_num, HZ.out.1.trans (by rw [HG.out]), HZ.out.2.1.trans HFo.out.symm, HZ.out.2.2.drew⟩
              case measure => simp [intOf]; omega
            · have hne : (X != (k : Int)) = true := by simpa using hxk
              have hyes : f k ≠ (k : Int) ∧ f k = X := ⟨fun h => hxk (hfx.symm.trans h), hfx⟩
              have HG := Lib.hid (gOut_new f X k hyes)
              have HFm := Lib.hid (fun w => rfmt_any (k : Int) w (by unfold fits; omega))
              have hz := fmtS_size (k : Int) (by unfold fits; omega)
              obtain ⟨FK, hFK⟩ : ∃ FK, fmtS (k : Int) = FK := ⟨_, rfl⟩
              rw [hFK] at HFm hz
              have HFK := Lib.hid hFK
              have iz : (FK.size : Int) ≤ 40 := by omega
              have HYes := Lib.hid hyes
              clear hfx hxk hyes hFK
              go_wp2
              refine wp_region_held_drew (S := fun w' => w'.cell? ⟨B1, 1, none⟩ = some (.slice (some ⟨b1, o1, none⟩) 256 w1c) ∧ w'.cell? ⟨B2, 1, none⟩ = some (.slice (some ⟨b2, o2, none⟩) 256 w2c) ∧ w'.cell? ⟨b1, o1 + k, none⟩ = some (.int .i64 X) ∧ w'.cell? ⟨b1, o1 + i, none⟩ = some (.int .i64 X) ∧ w'.cell? ⟨b2, o2 + k, none⟩ = some (.int .i64 (k : Int))) (by kernel_rfl) ?_ (fun hHeld => ?_)
              · exact ⟨q1, q2, q3, q4, q5⟩
              refine wpAnyH_take (i := 0) (v := ?bv0) rfl (by kernel_rfl) (by kernel_rfl) (by kernel_rfl) (fun _ _ _ h => h) (Or.inl ⟨by rfl, ?by0⟩) (by assumption) ?br0
              case by0 =>
                intro wx hSw
                have hq := hSw
                obtain ⟨s1, s2, s3, s4, s5⟩ := hq
                clear hSw
                go_simp
                first | done | (with_reducible rfl)
              (try simp only [Act.put, List.getElem_toArray, List.getElem_cons_zero, List.setIfInBounds_toArray, List.set_cons_zero, List.set_cons_succ])
              refine wpAnyH_take (i := 1) (v := ?bv1) rfl (by kernel_rfl) (by kernel_rfl) (by kernel_rfl) (fun _ _ _ h => h) (Or.inl ⟨by rfl, ?by1⟩) (by assumption) ?br1
              case by1 =>
                intro wx hSw
                have hq := hSw
                obtain ⟨s1, s2, s3, s4, s5⟩ := hq
                clear hSw
                go_simp
                first | done | (with_reducible rfl)
              (try simp only [Act.put, List.getElem_toArray, List.getElem_cons_succ, List.getElem_cons_zero, List.setIfInBounds_toArray, List.set_cons_zero, List.set_cons_succ])
              refine wpAnyH_take (i := 2) (v := ?bv2) rfl (by kernel_rfl) (by kernel_rfl) (by kernel_rfl) (fun _ _ _ h => h) (Or.inl ⟨by rfl, ?by2⟩) (by assumption) ?br2
              case by2 =>
                intro wx hSw
                have hq := hSw
                obtain ⟨s1, s2, s3, s4, s5⟩ := hq
                clear hSw
                go_simp
                first | done | (with_reducible rfl)
              (try simp only [Act.put, List.getElem_toArray, List.getElem_cons_succ, List.getElem_cons_zero, List.setIfInBounds_toArray, List.set_cons_zero, List.set_cons_succ])
              refine wpAnyH_take (i := 3) (v := ?bv3) rfl (by kernel_rfl) (by kernel_rfl) (by kernel_rfl) (fun _ _ _ h => h) (Or.inl ⟨by rfl, ?by3⟩) (by assumption) ?br3
              case by3 =>
                intro wx hSw
                have hq := hSw
                obtain ⟨s1, s2, s3, s4, s5⟩ := hq
                clear hSw
                go_simp
                first | done | (with_reducible rfl)
              (try simp only [Act.put, List.getElem_toArray, List.getElem_cons_succ, List.getElem_cons_zero, List.setIfInBounds_toArray, List.set_cons_zero, List.set_cons_succ])
              refine wpAnyH_take (i := 4) (v := ?bv4) rfl (by kernel_rfl) (by kernel_rfl) (by kernel_rfl) (fun _ _ _ h => h) (Or.inl ⟨by rfl, ?by4⟩) (by assumption) ?br4
              case by4 =>
                intro wx hSw
                have hq := hSw
                obtain ⟨s1, s2, s3, s4, s5⟩ := hq
                clear hSw
                go_simp
                first | done | (with_reducible rfl)
              (try simp only [Act.put, List.getElem_toArray, List.getElem_cons_succ, List.getElem_cons_zero, List.setIfInBounds_toArray, List.set_cons_zero, List.set_cons_succ])
              refine wpAnyH_take (i := 5) (v := ?bv5) rfl (by kernel_rfl) (by kernel_rfl) (by kernel_rfl) (fun _ _ _ h => h) (Or.inl ⟨by rfl, ?by5⟩) (by assumption) ?br5
              case by5 =>
                intro wx hSw
                have hq := hSw
                obtain ⟨s1, s2, s3, s4, s5⟩ := hq
                clear hSw
                go_simp
                first | done | (with_reducible rfl)
              (try simp only [Act.put, List.getElem_toArray, List.getElem_cons_succ, List.getElem_cons_zero, List.setIfInBounds_toArray, List.set_cons_zero, List.set_cons_succ])
              refine wpAnyH_take (i := 6) (v := ?bv6) rfl (by kernel_rfl) (by kernel_rfl) (by kernel_rfl) (fun _ _ _ h => h) (Or.inl ⟨by rfl, ?by6⟩) (by assumption) ?br6
              case by6 =>
                intro wx hSw
                have hq := hSw
                obtain ⟨s1, s2, s3, s4, s5⟩ := hq
                clear hSw
                go_simp
                first | done | (with_reducible rfl)
              (try simp only [Act.put, List.getElem_toArray, List.getElem_cons_succ, List.getElem_cons_zero, List.setIfInBounds_toArray, List.set_cons_zero, List.set_cons_succ])
              refine wpAnyH_take (i := 7) (v := ?bv7) rfl (by kernel_rfl) (by kernel_rfl) (by kernel_rfl) (fun _ _ _ h => h) (Or.inl ⟨by rfl, ?by7⟩) (by assumption) ?br7
              case by7 =>
                intro wx hSw
                have hq := hSw
                obtain ⟨s1, s2, s3, s4, s5⟩ := hq
                clear hSw
                go_simp
                first | done | (with_reducible rfl)
              (try simp only [Act.put, List.getElem_toArray, List.getElem_cons_succ, List.getElem_cons_zero, List.setIfInBounds_toArray, List.set_cons_zero, List.set_cons_succ])
              refine wpAnyH_take (i := 8) (v := ?bv8) rfl (by kernel_rfl) (by kernel_rfl) (by kernel_rfl) (fun _ _ _ h => h) (Or.inl ⟨by rfl, ?by8⟩) (by assumption) ?br8
              case by8 =>
                intro wx hSw
                have hq := hSw
                obtain ⟨s1, s2, s3, s4, s5⟩ := hq
                clear hSw
                go_simp
                first | done | (with_reducible rfl)
              (try simp only [Act.put, List.getElem_toArray, List.getElem_cons_succ, List.getElem_cons_zero, List.setIfInBounds_toArray, List.set_cons_zero, List.set_cons_succ])
              refine wpAnyH_take (i := 9) (v := ?bv9) rfl (by kernel_rfl) (by kernel_rfl) (by kernel_rfl) (fun _ _ _ h => h) (Or.inl ⟨by rfl, ?by9⟩) (by assumption) ?br9
              case by9 =>
                intro wx hSw
                have hq := hSw
                obtain ⟨s1, s2, s3, s4, s5⟩ := hq
                clear hSw
                go_simp
                first | done | (with_reducible rfl)
              (try simp only [Act.put, List.getElem_toArray, List.getElem_cons_succ, List.getElem_cons_zero, List.setIfInBounds_toArray, List.set_cons_zero, List.set_cons_succ])
              refine wpAnyH_take (i := 10) (v := ?bv10) rfl (by kernel_rfl) (by kernel_rfl) (by kernel_rfl) (fun _ _ _ h => h) (Or.inl ⟨by rfl, ?by10⟩) (by assumption) ?br10
              case by10 =>
                intro wx hSw
                have hq := hSw
                obtain ⟨s1, s2, s3, s4, s5⟩ := hq
                clear hSw
                go_simp
                first | done | (with_reducible rfl)
              (try simp only [Act.put, List.getElem_toArray, List.getElem_cons_succ, List.getElem_cons_zero, List.setIfInBounds_toArray, List.set_cons_zero, List.set_cons_succ])
              refine wpAnyH_take (i := 11) (v := ?bv11) rfl (by kernel_rfl) (by kernel_rfl) (by kernel_rfl) (fun _ _ _ h => h) (Or.inl ⟨by rfl, ?by11⟩) (by assumption) ?br11
              case by11 =>
                intro wx hSw
                have hq := hSw
                obtain ⟨s1, s2, s3, s4, s5⟩ := hq
                clear hSw
                go_simp
                first | done | (with_reducible rfl)
              (try simp only [Act.put, List.getElem_toArray, List.getElem_cons_succ, List.getElem_cons_zero, List.setIfInBounds_toArray, List.set_cons_zero, List.set_cons_succ])
              refine wpAnyH_take (i := 12) (v := ?bv12) rfl (by kernel_rfl) (by kernel_rfl) (by kernel_rfl) (fun _ _ _ h => h) (Or.inl ⟨by rfl, ?by12⟩) (by assumption) ?br12
              case by12 =>
                intro wx hSw
                have hq := hSw
                obtain ⟨s1, s2, s3, s4, s5⟩ := hq
                clear hSw
                go_simp
                first | done | (with_reducible rfl)
              (try simp only [Act.put, List.getElem_toArray, List.getElem_cons_succ, List.getElem_cons_zero, List.setIfInBounds_toArray, List.set_cons_zero, List.set_cons_succ])
              refine wpAnyH_take (i := 13) (v := ?bv13) rfl (by kernel_rfl) (by kernel_rfl) (by kernel_rfl) (fun _ _ _ h => h) (Or.inl ⟨by rfl, ?by13⟩) (by assumption) ?br13
              case by13 =>
                intro wx hSw
                have hq := hSw
                obtain ⟨s1, s2, s3, s4, s5⟩ := hq
                clear hSw
                go_simp
                first | done | (with_reducible rfl)
              (try simp only [Act.put, List.getElem_toArray, List.getElem_cons_succ, List.getElem_cons_zero, List.setIfInBounds_toArray, List.set_cons_zero, List.set_cons_succ])
              refine wpAnyH_take (i := 14) (v := ?bv14) rfl (by kernel_rfl) (by kernel_rfl) (by kernel_rfl) (fun _ _ _ h => h) (Or.inl ⟨by rfl, ?by14⟩) (by assumption) ?br14
              case by14 =>
                intro wx hSw
                have hq := hSw
                obtain ⟨s1, s2, s3, s4, s5⟩ := hq
                clear hSw
                go_simp
                first | done | (with_reducible rfl)
              (try simp only [Act.put, List.getElem_toArray, List.getElem_cons_succ, List.getElem_cons_zero, List.setIfInBounds_toArray, List.set_cons_zero, List.set_cons_succ])
              refine wpAnyH_take (i := 15) (v := ?bv15) rfl (by kernel_rfl) (by kernel_rfl) (by kernel_rfl) (fun _ _ _ h => h) (Or.inl ⟨by rfl, ?by15⟩) (by assumption) ?br15
              case by15 =>
                intro wx hSw
                have hq := hSw
                obtain ⟨s1, s2, s3, s4, s5⟩ := hq
                clear hSw
                go_simp
                first | done | (with_reducible rfl)
              (try simp only [Act.put, List.getElem_toArray, List.getElem_cons_succ, List.getElem_cons_zero, List.setIfInBounds_toArray, List.set_cons_zero, List.set_cons_succ])
              refine wpAnyH_take (i := 16) (v := ?bv16) rfl (by kernel_rfl) (by kernel_rfl) (by kernel_rfl) (fun _ _ _ h => h) (Or.inl ⟨by rfl, ?by16⟩) (by assumption) ?br16
              case by16 =>
                intro wx hSw
                have hq := hSw
                obtain ⟨s1, s2, s3, s4, s5⟩ := hq
                clear hSw
                go_simp
                first | done | (with_reducible rfl)
              (try simp only [Act.put, List.getElem_toArray, List.getElem_cons_succ, List.getElem_cons_zero, List.setIfInBounds_toArray, List.set_cons_zero, List.set_cons_succ])
              refine wpAnyH_take (i := 17) (v := ?bv17) rfl (by kernel_rfl) (by kernel_rfl) (by kernel_rfl) (fun _ _ _ h => h) (Or.inl ⟨by rfl, ?by17⟩) (by assumption) ?br17
              case by17 =>
                intro wx hSw
                have hq := hSw
                obtain ⟨s1, s2, s3, s4, s5⟩ := hq
                clear hSw
                go_simp
                first | done | (with_reducible rfl)
              (try simp only [Act.put, List.getElem_toArray, List.getElem_cons_succ, List.getElem_cons_zero, List.setIfInBounds_toArray, List.set_cons_zero, List.set_cons_succ])
              refine wpAnyH_take (i := 18) (v := ?bv18) rfl (by kernel_rfl) (by kernel_rfl) (by kernel_rfl) (fun _ _ _ h => h) (Or.inl ⟨by rfl, ?by18⟩) (by assumption) ?br18
              case by18 =>
                intro wx hSw
                have hq := hSw
                obtain ⟨s1, s2, s3, s4, s5⟩ := hq
                clear hSw
                go_simp
                first | done | (with_reducible rfl)
              (try simp only [Act.put, List.getElem_toArray, List.getElem_cons_succ, List.getElem_cons_zero, List.setIfInBounds_toArray, List.set_cons_zero, List.set_cons_succ])
              refine wpAnyH_take (i := 19) (v := ?bv19) rfl (by kernel_rfl) (by kernel_rfl) (by kernel_rfl) (fun _ _ _ h => h) (Or.inl ⟨by rfl, ?by19⟩) (by assumption) ?br19
              case by19 =>
                intro wx hSw
                have hq := hSw
                obtain ⟨s1, s2, s3, s4, s5⟩ := hq
                clear hSw
                go_simp
                first | done | (with_reducible rfl)
              (try simp only [Act.put, List.getElem_toArray, List.getElem_cons_succ, List.getElem_cons_zero, List.setIfInBounds_toArray, List.set_cons_zero, List.set_cons_succ])
              refine wpAnyH_take (i := 20) (v := ?bv20) rfl (by kernel_rfl) (by kernel_rfl) (by kernel_rfl) (fun _ _ _ h => h) (Or.inl ⟨by rfl, ?by20⟩) (by assumption) ?br20
              case by20 =>
                intro wx hSw
                have hq := hSw
                obtain ⟨s1, s2, s3, s4, s5⟩ := hq
                clear hSw
                go_simp
                first | done | (with_reducible rfl)
              (try simp only [Act.put, List.getElem_toArray, List.getElem_cons_succ, List.getElem_cons_zero, List.setIfInBounds_toArray, List.set_cons_zero, List.set_cons_succ])
              refine wpAnyH_take (i := 21) (v := ?bv21) rfl (by kernel_rfl) (by kernel_rfl) (by kernel_rfl) (fun _ _ _ h => h) (Or.inl ⟨by rfl, ?by21⟩) (by assumption) ?br21
              case by21 =>
                intro wx hSw
                have hq := hSw
                obtain ⟨s1, s2, s3, s4, s5⟩ := hq
                clear hSw
                go_simp
                first | done | (with_reducible rfl)
              (try simp only [Act.put, List.getElem_toArray, List.getElem_cons_succ, List.getElem_cons_zero, List.setIfInBounds_toArray, List.set_cons_zero, List.set_cons_succ])
              refine wpAnyH_take (i := 22) (v := ?bv22) rfl (by kernel_rfl) (by kernel_rfl) (by kernel_rfl) (fun _ _ _ h => h) (Or.inl ⟨by rfl, ?by22⟩) (by assumption) ?br22
              case by22 =>
                intro wx hSw
                have hq := hSw
                obtain ⟨s1, s2, s3, s4, s5⟩ := hq
                clear hSw
                go_simp
                first | done | (with_reducible rfl)
              (try simp only [Act.put, List.getElem_toArray, List.getElem_cons_succ, List.getElem_cons_zero, List.setIfInBounds_toArray, List.set_cons_zero, List.set_cons_succ])
              refine wpAnyH_take (i := 23) (v := ?bv23) rfl (by kernel_rfl) (by kernel_rfl) (by kernel_rfl) (fun _ _ _ h => h) (Or.inl ⟨by rfl, ?by23⟩) (by assumption) ?br23
              case by23 =>
                intro wx hSw
                have hq := hSw
                obtain ⟨s1, s2, s3, s4, s5⟩ := hq
                clear hSw
                go_simp
                first | done | (with_reducible rfl)
              (try simp only [Act.put, List.getElem_toArray, List.getElem_cons_succ, List.getElem_cons_zero, List.setIfInBounds_toArray, List.set_cons_zero, List.set_cons_succ])
              refine wpAnyH_done (by kernel_rfl) ?_ _
              by_cases hki : k < i
              · have kii : (k : Int) < i := by omega
                have HFo := Lib.hid (fOut_new f X i k HYes.out hki)
                go_wp2_with (first
                  | (go_at_call 30
                     refine (HFm.out _).mono ?_
                     rintro e w5 ⟨rfl, hb⟩
                     have HB5 := Lib.hid (HZ.out.2.2.drew.trans (hb.mono HZ.out.2.2.size))
                     clear hb))
                go_roundw
                case rel => exact ⟨k + 1, _, _, by omega, rfl, rfl, by go_num, (by rw [HG.out, mk_app, ← HZ.out.1]; apply ByteArray.ext; apply Array.ext'; rw [← HFK.out]; simp [mk, fmB, ByteArray.data_append]), HFo.out.symm, HB5.out⟩
                case measure => simp [intOf]; omega
              · have kii : ¬ ((k : Int) < i) := by omega
                have HFo := Lib.hid (fOut_late f X i k hki)
                go_wp2_with (first
                  | (go_at_call 30
                     refine (HFm.out _).mono ?_
                     rintro e w5 ⟨rfl, hb⟩
                     have HB5 := Lib.hid (HZ.out.2.2.drew.trans (hb.mono HZ.out.2.2.size))
                     clear hb))
                go_roundw
                case rel => exact ⟨k + 1, _, _, by omega, rfl, rfl, by go_num, (by rw [HG.out, mk_app, ← HZ.out.1]; apply ByteArray.ext; apply Array.ext'; rw [← HFK.out]; simp [mk, fmB, ByteArray.data_append]), HZ.out.2.1.trans HFo.out.symm, HB5.out⟩
                case measure => simp [intOf]; omega
          · obtain ⟨Y, hY⟩ : ∃ Y, f k = Y := ⟨_, rfl⟩
            rw [hY] at q3
            have hyx : (Y == X) = false := beq_false_of_ne (fun e => hfx (hY.trans e))
            have hno : ¬ (f k ≠ (k : Int) ∧ f k = X) := fun h => hfx h.2
            have HG := Lib.hid (gOut_same f X k hno)
            have HFo := Lib.hid (fOut_same f X i k hno)
            clear hfx hY hno
            go_wp2
            refine wp_region_held_drew (S := fun w' => w'.cell? ⟨B1, 1, none⟩ = some (.slice (some ⟨b1, o1, none⟩) 256 w1c) ∧ w'.cell? ⟨B2, 1, none⟩ = some (.slice (some ⟨b2, o2, none⟩) 256 w2c) ∧ w'.cell? ⟨b1, o1 + k, none⟩ = some (.int .i64 Y) ∧ w'.cell? ⟨b1, o1 + i, none⟩ = some (.int .i64 X) ∧ w'.cell? ⟨b2, o2 + k, none⟩ = some (.int .i64 (k : Int))) (by kernel_rfl) ?_ (fun hHeld => ?_)
            · exact ⟨q1, q2, q3, q4, q5⟩
            refine wpAnyH_take (i := 0) (v := ?cv0) rfl (by kernel_rfl) (by kernel_rfl) (by kernel_rfl) (fun _ _ _ h => h) (Or.inl ⟨by rfl, ?cy0⟩) (by assumption) ?cr0
            case cy0 =>
              intro wx hSw
              have hq := hSw
              obtain ⟨s1, s2, s3, s4, s5⟩ := hq
              clear hSw
              go_simp
              first | done | (with_reducible rfl)
            (try simp only [Act.put, List.getElem_toArray, List.getElem_cons_zero, List.setIfInBounds_toArray, List.set_cons_zero, List.set_cons_succ])
            refine wpAnyH_take (i := 1) (v := ?cv1) rfl (by kernel_rfl) (by kernel_rfl) (by kernel_rfl) (fun _ _ _ h => h) (Or.inl ⟨by rfl, ?cy1⟩) (by assumption) ?cr1
            case cy1 =>
              intro wx hSw
              have hq := hSw
              obtain ⟨s1, s2, s3, s4, s5⟩ := hq
              clear hSw
              go_simp
              first | done | (with_reducible rfl)
            (try simp only [Act.put, List.getElem_toArray, List.getElem_cons_succ, List.getElem_cons_zero, List.setIfInBounds_toArray, List.set_cons_zero, List.set_cons_succ])
            refine wpAnyH_take (i := 2) (v := ?cv2) rfl (by kernel_rfl) (by kernel_rfl) (by kernel_rfl) (fun _ _ _ h => h) (Or.inl ⟨by rfl, ?cy2⟩) (by assumption) ?cr2
            case cy2 =>
              intro wx hSw
              have hq := hSw
              obtain ⟨s1, s2, s3, s4, s5⟩ := hq
              clear hSw
              go_simp
              first | done | (with_reducible rfl)
            (try simp only [Act.put, List.getElem_toArray, List.getElem_cons_succ, List.getElem_cons_zero, List.setIfInBounds_toArray, List.set_cons_zero, List.set_cons_succ])
            refine wpAnyH_take (i := 3) (v := ?cv3) rfl (by kernel_rfl) (by kernel_rfl) (by kernel_rfl) (fun _ _ _ h => h) (Or.inl ⟨by rfl, ?cy3⟩) (by assumption) ?cr3
            case cy3 =>
              intro wx hSw
              have hq := hSw
              obtain ⟨s1, s2, s3, s4, s5⟩ := hq
              clear hSw
              go_simp
              first | done | (with_reducible rfl)
            (try simp only [Act.put, List.getElem_toArray, List.getElem_cons_succ, List.getElem_cons_zero, List.setIfInBounds_toArray, List.set_cons_zero, List.set_cons_succ])
            refine wpAnyH_take (i := 4) (v := ?cv4) rfl (by kernel_rfl) (by kernel_rfl) (by kernel_rfl) (fun _ _ _ h => h) (Or.inl ⟨by rfl, ?cy4⟩) (by assumption) ?cr4
            case cy4 =>
              intro wx hSw
              have hq := hSw
              obtain ⟨s1, s2, s3, s4, s5⟩ := hq
              clear hSw
              go_simp
              first | done | (with_reducible rfl)
            (try simp only [Act.put, List.getElem_toArray, List.getElem_cons_succ, List.getElem_cons_zero, List.setIfInBounds_toArray, List.set_cons_zero, List.set_cons_succ])
            refine wpAnyH_take (i := 5) (v := ?cv5) rfl (by kernel_rfl) (by kernel_rfl) (by kernel_rfl) (fun _ _ _ h => h) (Or.inl ⟨by rfl, ?cy5⟩) (by assumption) ?cr5
            case cy5 =>
              intro wx hSw
              have hq := hSw
              obtain ⟨s1, s2, s3, s4, s5⟩ := hq
              clear hSw
              go_simp
              first | done | (with_reducible rfl)
            (try simp only [Act.put, List.getElem_toArray, List.getElem_cons_succ, List.getElem_cons_zero, List.setIfInBounds_toArray, List.set_cons_zero, List.set_cons_succ])
            refine wpAnyH_take (i := 6) (v := ?cv6) rfl (by kernel_rfl) (by kernel_rfl) (by kernel_rfl) (fun _ _ _ h => h) (Or.inl ⟨by rfl, ?cy6⟩) (by assumption) ?cr6
            case cy6 =>
              intro wx hSw
              have hq := hSw
              obtain ⟨s1, s2, s3, s4, s5⟩ := hq
              clear hSw
              go_simp
              first | done | (with_reducible rfl)
            (try simp only [Act.put, List.getElem_toArray, List.getElem_cons_succ, List.getElem_cons_zero, List.setIfInBounds_toArray, List.set_cons_zero, List.set_cons_succ])
            refine wpAnyH_take (i := 7) (v := ?cv7) rfl (by kernel_rfl) (by kernel_rfl) (by kernel_rfl) (fun _ _ _ h => h) (Or.inl ⟨by rfl, ?cy7⟩) (by assumption) ?cr7
            case cy7 =>
              intro wx hSw
              have hq := hSw
              obtain ⟨s1, s2, s3, s4, s5⟩ := hq
              clear hSw
              go_simp
              first | done | (with_reducible rfl)
            (try simp only [Act.put, List.getElem_toArray, List.getElem_cons_succ, List.getElem_cons_zero, List.setIfInBounds_toArray, List.set_cons_zero, List.set_cons_succ])
            refine wpAnyH_take (i := 8) (v := ?cv8) rfl (by kernel_rfl) (by kernel_rfl) (by kernel_rfl) (fun _ _ _ h => h) (Or.inl ⟨by rfl, ?cy8⟩) (by assumption) ?cr8
            case cy8 =>
              intro wx hSw
              have hq := hSw
              obtain ⟨s1, s2, s3, s4, s5⟩ := hq
              clear hSw
              go_simp
              first | done | (with_reducible rfl)
            (try simp only [Act.put, List.getElem_toArray, List.getElem_cons_succ, List.getElem_cons_zero, List.setIfInBounds_toArray, List.set_cons_zero, List.set_cons_succ])
            refine wpAnyH_take (i := 9) (v := ?cv9) rfl (by kernel_rfl) (by kernel_rfl) (by kernel_rfl) (fun _ _ _ h => h) (Or.inl ⟨by rfl, ?cy9⟩) (by assumption) ?cr9
            case cy9 =>
              intro wx hSw
              have hq := hSw
              obtain ⟨s1, s2, s3, s4, s5⟩ := hq
              clear hSw
              go_simp
              first | done | (with_reducible rfl)
            (try simp only [Act.put, List.getElem_toArray, List.getElem_cons_succ, List.getElem_cons_zero, List.setIfInBounds_toArray, List.set_cons_zero, List.set_cons_succ])
            refine wpAnyH_take (i := 10) (v := ?cv10) rfl (by kernel_rfl) (by kernel_rfl) (by kernel_rfl) (fun _ _ _ h => h) (Or.inl ⟨by rfl, ?cy10⟩) (by assumption) ?cr10
            case cy10 =>
              intro wx hSw
              have hq := hSw
              obtain ⟨s1, s2, s3, s4, s5⟩ := hq
              clear hSw
              go_simp
              first | done | (rw [hyx] <;> with_reducible rfl) | (with_reducible rfl)
            (try simp only [Act.put, List.getElem_toArray, List.getElem_cons_succ, List.getElem_cons_zero, List.setIfInBounds_toArray, List.set_cons_zero, List.set_cons_succ])
            refine wpAnyH_take (i := 11) (v := ?cv11) rfl (by kernel_rfl) (by kernel_rfl) (by kernel_rfl) (fun _ _ _ h => h) (Or.inl ⟨by rfl, ?cy11⟩) (by assumption) ?cr11
            case cy11 =>
              intro wx hSw
              have hq := hSw
              obtain ⟨s1, s2, s3, s4, s5⟩ := hq
              clear hSw
              go_simp
              first | done | (with_reducible rfl)
            (try simp only [Act.put, List.getElem_toArray, List.getElem_cons_succ, List.getElem_cons_zero, List.setIfInBounds_toArray, List.set_cons_zero, List.set_cons_succ])
            refine wpAnyH_take (i := 12) (v := undef) rfl (by kernel_rfl) (by kernel_rfl) (by kernel_rfl) (fun _ _ _ h => h) (Or.inr ⟨by rfl, rfl⟩) (by assumption) ?cr12
            (try simp only [Act.put, List.getElem_toArray, List.getElem_cons_succ, List.getElem_cons_zero, List.setIfInBounds_toArray, List.set_cons_zero, List.set_cons_succ])
            refine wpAnyH_take (i := 13) (v := undef) rfl (by kernel_rfl) (by kernel_rfl) (by kernel_rfl) (fun _ _ _ h => h) (Or.inr ⟨by rfl, rfl⟩) (by assumption) ?cr13
            (try simp only [Act.put, List.getElem_toArray, List.getElem_cons_succ, List.getElem_cons_zero, List.setIfInBounds_toArray, List.set_cons_zero, List.set_cons_succ])
            refine wpAnyH_take (i := 14) (v := undef) rfl (by kernel_rfl) (by kernel_rfl) (by kernel_rfl) (fun _ _ _ h => h) (Or.inr ⟨by rfl, rfl⟩) (by assumption) ?cr14
            (try simp only [Act.put, List.getElem_toArray, List.getElem_cons_succ, List.getElem_cons_zero, List.setIfInBounds_toArray, List.set_cons_zero, List.set_cons_succ])
            refine wpAnyH_take (i := 15) (v := undef) rfl (by kernel_rfl) (by kernel_rfl) (by kernel_rfl) (fun _ _ _ h => h) (Or.inr ⟨by rfl, rfl⟩) (by assumption) ?cr15
            (try simp only [Act.put, List.getElem_toArray, List.getElem_cons_succ, List.getElem_cons_zero, List.setIfInBounds_toArray, List.set_cons_zero, List.set_cons_succ])
            refine wpAnyH_take (i := 16) (v := undef) rfl (by kernel_rfl) (by kernel_rfl) (by kernel_rfl) (fun _ _ _ h => h) (Or.inr ⟨by rfl, rfl⟩) (by assumption) ?cr16
            (try simp only [Act.put, List.getElem_toArray, List.getElem_cons_succ, List.getElem_cons_zero, List.setIfInBounds_toArray, List.set_cons_zero, List.set_cons_succ])
            refine wpAnyH_take (i := 17) (v := undef) rfl (by kernel_rfl) (by kernel_rfl) (by kernel_rfl) (fun _ _ _ h => h) (Or.inr ⟨by rfl, rfl⟩) (by assumption) ?cr17
            (try simp only [Act.put, List.getElem_toArray, List.getElem_cons_succ, List.getElem_cons_zero, List.setIfInBounds_toArray, List.set_cons_zero, List.set_cons_succ])
            refine wpAnyH_take (i := 18) (v := undef) rfl (by kernel_rfl) (by kernel_rfl) (by kernel_rfl) (fun _ _ _ h => h) (Or.inr ⟨by rfl, rfl⟩) (by assumption) ?cr18
            (try simp only [Act.put, List.getElem_toArray, List.getElem_cons_succ, List.getElem_cons_zero, List.setIfInBounds_toArray, List.set_cons_zero, List.set_cons_succ])
            refine wpAnyH_take (i := 19) (v := undef) rfl (by kernel_rfl) (by kernel_rfl) (by kernel_rfl) (fun _ _ _ h => h) (Or.inr ⟨by rfl, rfl⟩) (by assumption) ?cr19
            (try simp only [Act.put, List.getElem_toArray, List.getElem_cons_succ, List.getElem_cons_zero, List.setIfInBounds_toArray, List.set_cons_zero, List.set_cons_succ])
            refine wpAnyH_take (i := 20) (v := undef) rfl (by kernel_rfl) (by kernel_rfl) (by kernel_rfl) (fun _ _ _ h => h) (Or.inr ⟨by rfl, rfl⟩) (by assumption) ?cr20
            (try simp only [Act.put, List.getElem_toArray, List.getElem_cons_succ, List.getElem_cons_zero, List.setIfInBounds_toArray, List.set_cons_zero, List.set_cons_succ])
            refine wpAnyH_take (i := 21) (v := undef) rfl (by kernel_rfl) (by kernel_rfl) (by kernel_rfl) (fun _ _ _ h => h) (Or.inr ⟨by rfl, rfl⟩) (by assumption) ?cr21
            (try simp only [Act.put, List.getElem_toArray, List.getElem_cons_succ, List.getElem_cons_zero, List.setIfInBounds_toArray, List.set_cons_zero, List.set_cons_succ])
            refine wpAnyH_take (i := 22) (v := undef) rfl (by kernel_rfl) (by kernel_rfl) (by kernel_rfl) (fun _ _ _ h => h) (Or.inr ⟨by rfl, rfl⟩) (by assumption) ?cr22
            (try simp only [Act.put, List.getElem_toArray, List.getElem_cons_succ, List.getElem_cons_zero, List.setIfInBounds_toArray, List.set_cons_zero, List.set_cons_succ])
            refine wpAnyH_take (i := 23) (v := ?cv23) rfl (by kernel_rfl) (by kernel_rfl) (by kernel_rfl) (fun _ _ _ h => h) (Or.inl ⟨by rfl, ?cy23⟩) (by assumption) ?cr23
            case cy23 =>
              intro wx hSw
              have hq := hSw
              obtain ⟨s1, s2, s3, s4, s5⟩ := hq
              clear hSw
              go_simp
              first | done | (with_reducible rfl)
            (try simp only [Act.put, List.getElem_toArray, List.getElem_cons_succ, List.getElem_cons_zero, List.setIfInBounds_toArray, List.set_cons_zero, List.set_cons_succ])
            refine wpAnyH_done (by kernel_rfl) ?_ _
            go_wp2
            go_roundw
            case rel => exact ⟨k + 1, _, _, by omega, rfl, rfl, by go_num, HZ.out.1.trans (by rw [HG.out]), HZ.out.2.1.trans HFo.out.symm, HZ.out.2.2.drew⟩
            case measure => simp [intOf]; omega
        · have hk2 : k = 256 := by omega
          have kn : ¬ ((k : Int) < 256) := by omega
          have kd : decide ((k : Int) < 256) = false := decide_eq_false kn
          have HZ2 := HZ.out
          rw [hk2] at HZ2
          have HZe := Lib.hid HZ2
          have q1 := hw.c1
          have q2 := hw.c2
          have q3 := hw.r1 i hin
          have q4 := hw.r2 i hin
          rw [HX.out] at q3
          have hfi : fOut f X i 256 = decide (grpT f X i = []) := by unfold fOut; rw [Nat.min_eq_right (by omega)]
          have HFi := Lib.hid hfi
          clear hw hk2 hk hkn HZ hfi HZ2
          cases fst with
          | false =>
            have HN : Hid (wOut f (i + 1) = wOut f i) := by
              refine wOut_same f i (.inr ?_)
              rw [HX.out]
              intro h
              have h2 := HZe.out.2.1.trans HFi.out
              rw [decide_eq_true h] at h2
              cases h2
            go_wp2
            refine wp_region_held_drew (S := fun w' => w'.cell? ⟨B1, 1, none⟩ = some (.slice (some ⟨b1, o1, none⟩) 256 w1c) ∧ w'.cell? ⟨B2, 1, none⟩ = some (.slice (some ⟨b2, o2, none⟩) 256 w2c) ∧ w'.cell? ⟨b1, o1 + i, none⟩ = some (.int .i64 X) ∧ w'.cell? ⟨b2, o2 + i, none⟩ = some (.int .i64 (i : Int))) (by kernel_rfl) ?_ (fun hHeld => ?_)
            · exact ⟨q1, q2, q3, q4⟩
            refine wpAnyH_take (i := 0) (v := ?dv0) rfl (by kernel_rfl) (by kernel_rfl) (by kernel_rfl) (fun _ _ _ h => h) (Or.inl ⟨by rfl, ?dy0⟩) (by assumption) ?dr0
            case dy0 =>
              intro wx hSw
              have hq := hSw
              obtain ⟨s1, s2, s3, s4⟩ := hq
              clear hSw
              go_simp
              first | done | (with_reducible rfl)
            (try simp only [Act.put, List.getElem_toArray, List.getElem_cons_zero, List.setIfInBounds_toArray, List.set_cons_zero, List.set_cons_succ])
            refine wpAnyH_take (i := 1) (v := ?dv1) rfl (by kernel_rfl) (by kernel_rfl) (by kernel_rfl) (fun _ _ _ h => h) (Or.inl ⟨by rfl, ?dy1⟩) (by assumption) ?dr1
            case dy1 =>
              intro wx hSw
              have hq := hSw
              obtain ⟨s1, s2, s3, s4⟩ := hq
              clear hSw
              go_simp
              first | done | (with_reducible rfl)
            (try simp only [Act.put, List.getElem_toArray, List.getElem_cons_succ, List.getElem_cons_zero, List.setIfInBounds_toArray, List.set_cons_zero, List.set_cons_succ])
            refine wpAnyH_take (i := 2) (v := undef) rfl (by kernel_rfl) (by kernel_rfl) (by kernel_rfl) (fun _ _ _ h => h) (Or.inr ⟨by rfl, rfl⟩) (by assumption) ?dr2
            (try simp only [Act.put, List.getElem_toArray, List.getElem_cons_succ, List.getElem_cons_zero, List.setIfInBounds_toArray, List.set_cons_zero, List.set_cons_succ])
            refine wpAnyH_take (i := 3) (v := undef) rfl (by kernel_rfl) (by kernel_rfl) (by kernel_rfl) (fun _ _ _ h => h) (Or.inr ⟨by rfl, rfl⟩) (by assumption) ?dr3
            (try simp only [Act.put, List.getElem_toArray, List.getElem_cons_succ, List.getElem_cons_zero, List.setIfInBounds_toArray, List.set_cons_zero, List.set_cons_succ])
            refine wpAnyH_take (i := 4) (v := undef) rfl (by kernel_rfl) (by kernel_rfl) (by kernel_rfl) (fun _ _ _ h => h) (Or.inr ⟨by rfl, rfl⟩) (by assumption) ?dr4
            (try simp only [Act.put, List.getElem_toArray, List.getElem_cons_succ, List.getElem_cons_zero, List.setIfInBounds_toArray, List.set_cons_zero, List.set_cons_succ])
            refine wpAnyH_take (i := 5) (v := undef) rfl (by kernel_rfl) (by kernel_rfl) (by kernel_rfl) (fun _ _ _ h => h) (Or.inr ⟨by rfl, rfl⟩) (by assumption) ?dr5
            (try simp only [Act.put, List.getElem_toArray, List.getElem_cons_succ, List.getElem_cons_zero, List.setIfInBounds_toArray, List.set_cons_zero, List.set_cons_succ])
            refine wpAnyH_take (i := 6) (v := undef) rfl (by kernel_rfl) (by kernel_rfl) (by kernel_rfl) (fun _ _ _ h => h) (Or.inr ⟨by rfl, rfl⟩) (by assumption) ?dr6
            (try simp only [Act.put, List.getElem_toArray, List.getElem_cons_succ, List.getElem_cons_zero, List.setIfInBounds_toArray, List.set_cons_zero, List.set_cons_succ])
            refine wpAnyH_take (i := 7) (v := undef) rfl (by kernel_rfl) (by kernel_rfl) (by kernel_rfl) (fun _ _ _ h => h) (Or.inr ⟨by rfl, rfl⟩) (by assumption) ?dr7
            (try simp only [Act.put, List.getElem_toArray, List.getElem_cons_succ, List.getElem_cons_zero, List.setIfInBounds_toArray, List.set_cons_zero, List.set_cons_succ])
            refine wpAnyH_take (i := 8) (v := undef) rfl (by kernel_rfl) (by kernel_rfl) (by kernel_rfl) (fun _ _ _ h => h) (Or.inr ⟨by rfl, rfl⟩) (by assumption) ?dr8
            (try simp only [Act.put, List.getElem_toArray, List.getElem_cons_succ, List.getElem_cons_zero, List.setIfInBounds_toArray, List.set_cons_zero, List.set_cons_succ])
            refine wpAnyH_take (i := 9) (v := undef) rfl (by kernel_rfl) (by kernel_rfl) (by kernel_rfl) (fun _ _ _ h => h) (Or.inr ⟨by rfl, rfl⟩) (by assumption) ?dr9
            (try simp only [Act.put, List.getElem_toArray, List.getElem_cons_succ, List.getElem_cons_zero, List.setIfInBounds_toArray, List.set_cons_zero, List.set_cons_succ])
            refine wpAnyH_take (i := 10) (v := undef) rfl (by kernel_rfl) (by kernel_rfl) (by kernel_rfl) (fun _ _ _ h => h) (Or.inr ⟨by rfl, rfl⟩) (by assumption) ?dr10
            (try simp only [Act.put, List.getElem_toArray, List.getElem_cons_succ, List.getElem_cons_zero, List.setIfInBounds_toArray, List.set_cons_zero, List.set_cons_succ])
            refine wpAnyH_take (i := 11) (v := undef) rfl (by kernel_rfl) (by kernel_rfl) (by kernel_rfl) (fun _ _ _ h => h) (Or.inr ⟨by rfl, rfl⟩) (by assumption) ?dr11
            (try simp only [Act.put, List.getElem_toArray, List.getElem_cons_succ, List.getElem_cons_zero, List.setIfInBounds_toArray, List.set_cons_zero, List.set_cons_succ])
            refine wpAnyH_take (i := 12) (v := undef) rfl (by kernel_rfl) (by kernel_rfl) (by kernel_rfl) (fun _ _ _ h => h) (Or.inr ⟨by rfl, rfl⟩) (by assumption) ?dr12
            (try simp only [Act.put, List.getElem_toArray, List.getElem_cons_succ, List.getElem_cons_zero, List.setIfInBounds_toArray, List.set_cons_zero, List.set_cons_succ])
            refine wpAnyH_take (i := 13) (v := ?dv13) rfl (by kernel_rfl) (by kernel_rfl) (by kernel_rfl) (fun _ _ _ h => h) (Or.inl ⟨by rfl, ?dy13⟩) (by assumption) ?dr13
            case dy13 =>
              intro wx hSw
              have hq := hSw
              obtain ⟨s1, s2, s3, s4⟩ := hq
              clear hSw
              go_simp
              first | done | (with_reducible rfl)
            (try simp only [Act.put, List.getElem_toArray, List.getElem_cons_succ, List.getElem_cons_zero, List.setIfInBounds_toArray, List.set_cons_zero, List.set_cons_succ])
            refine wpAnyH_done (by kernel_rfl) ?_ _
            go_wp2
            go_roundw
            case rel => exact ⟨i + 1, _, by omega, rfl, by go_num, HR.out.1.trans (by rw [HN.out]), HZe.out.2.2.drew⟩
            case measure => simp [intOf]; omega
          | true =>
            have hnil : grpT f X i = [] := of_decide_eq_true (HFi.out.symm.trans HZe.out.2.1.symm)
            by_cases hxi : X = (i : Int)
            · have hne : (X != (i : Int)) = false := by rw [hxi]; simp
              have HN : Hid (wOut f (i + 1) = wOut f i) := wOut_same f i (.inl (HX.out.trans hxi))
              clear hxi hnil
              go_wp2
              refine wp_region_held_drew (S := fun w' => w'.cell? ⟨B1, 1, none⟩ = some (.slice (some ⟨b1, o1, none⟩) 256 w1c) ∧ w'.cell? ⟨B2, 1, none⟩ = some (.slice (some ⟨b2, o2, none⟩) 256 w2c) ∧ w'.cell? ⟨b1, o1 + i, none⟩ = some (.int .i64 X) ∧ w'.cell? ⟨b2, o2 + i, none⟩ = some (.int .i64 (i : Int))) (by kernel_rfl) ?_ (fun hHeld => ?_)
              · exact ⟨q1, q2, q3, q4⟩
              refine wpAnyH_take (i := 0) (v := ?ev0) rfl (by kernel_rfl) (by kernel_rfl) (by kernel_rfl) (fun _ _ _ h => h) (Or.inl ⟨by rfl, ?ey0⟩) (by assumption) ?er0
              case ey0 =>
                intro wx hSw
                have hq := hSw
                obtain ⟨s1, s2, s3, s4⟩ := hq
                clear hSw
                go_simp
                first | done | (with_reducible rfl)
              (try simp only [Act.put, List.getElem_toArray, List.getElem_cons_zero, List.setIfInBounds_toArray, List.set_cons_zero, List.set_cons_succ])
              refine wpAnyH_take (i := 1) (v := ?ev1) rfl (by kernel_rfl) (by kernel_rfl) (by kernel_rfl) (fun _ _ _ h => h) (Or.inl ⟨by rfl, ?ey1⟩) (by assumption) ?er1
              case ey1 =>
                intro wx hSw
                have hq := hSw
                obtain ⟨s1, s2, s3, s4⟩ := hq
                clear hSw
                go_simp
                first | done | (with_reducible rfl)
              (try simp only [Act.put, List.getElem_toArray, List.getElem_cons_succ, List.getElem_cons_zero, List.setIfInBounds_toArray, List.set_cons_zero, List.set_cons_succ])
              refine wpAnyH_take (i := 2) (v := ?ev2) rfl (by kernel_rfl) (by kernel_rfl) (by kernel_rfl) (fun _ _ _ h => h) (Or.inl ⟨by rfl, ?ey2⟩) (by assumption) ?er2
              case ey2 =>
                intro wx hSw
                have hq := hSw
                obtain ⟨s1, s2, s3, s4⟩ := hq
                clear hSw
                go_simp
                first | done | (with_reducible rfl)
              (try simp only [Act.put, List.getElem_toArray, List.getElem_cons_succ, List.getElem_cons_zero, List.setIfInBounds_toArray, List.set_cons_zero, List.set_cons_succ])
              refine wpAnyH_take (i := 3) (v := ?ev3) rfl (by kernel_rfl) (by kernel_rfl) (by kernel_rfl) (fun _ _ _ h => h) (Or.inl ⟨by rfl, ?ey3⟩) (by assumption) ?er3
              case ey3 =>
                intro wx hSw
                have hq := hSw
                obtain ⟨s1, s2, s3, s4⟩ := hq
                clear hSw
                go_simp
                first | done | (with_reducible rfl)
              (try simp only [Act.put, List.getElem_toArray, List.getElem_cons_succ, List.getElem_cons_zero, List.setIfInBounds_toArray, List.set_cons_zero, List.set_cons_succ])
              refine wpAnyH_take (i := 4) (v := ?ev4) rfl (by kernel_rfl) (by kernel_rfl) (by kernel_rfl) (fun _ _ _ h => h) (Or.inl ⟨by rfl, ?ey4⟩) (by assumption) ?er4
              case ey4 =>
                intro wx hSw
                have hq := hSw
                obtain ⟨s1, s2, s3, s4⟩ := hq
                clear hSw
                go_simp
                first | done | (with_reducible rfl)
              (try simp only [Act.put, List.getElem_toArray, List.getElem_cons_succ, List.getElem_cons_zero, List.setIfInBounds_toArray, List.set_cons_zero, List.set_cons_succ])
              refine wpAnyH_take (i := 5) (v := ?ev5) rfl (by kernel_rfl) (by kernel_rfl) (by kernel_rfl) (fun _ _ _ h => h) (Or.inl ⟨by rfl, ?ey5⟩) (by assumption) ?er5
              case ey5 =>
                intro wx hSw
                have hq := hSw
                obtain ⟨s1, s2, s3, s4⟩ := hq
                clear hSw
                go_simp
                first | done | (with_reducible rfl)
              (try simp only [Act.put, List.getElem_toArray, List.getElem_cons_succ, List.getElem_cons_zero, List.setIfInBounds_toArray, List.set_cons_zero, List.set_cons_succ])
              refine wpAnyH_take (i := 6) (v := ?ev6) rfl (by kernel_rfl) (by kernel_rfl) (by kernel_rfl) (fun _ _ _ h => h) (Or.inl ⟨by rfl, ?ey6⟩) (by assumption) ?er6
              case ey6 =>
                intro wx hSw
                have hq := hSw
                obtain ⟨s1, s2, s3, s4⟩ := hq
                clear hSw
                go_simp
                first | done | (with_reducible rfl)
              (try simp only [Act.put, List.getElem_toArray, List.getElem_cons_succ, List.getElem_cons_zero, List.setIfInBounds_toArray, List.set_cons_zero, List.set_cons_succ])
              refine wpAnyH_take (i := 7) (v := ?ev7) rfl (by kernel_rfl) (by kernel_rfl) (by kernel_rfl) (fun _ _ _ h => h) (Or.inl ⟨by rfl, ?ey7⟩) (by assumption) ?er7
              case ey7 =>
                intro wx hSw
                have hq := hSw
                obtain ⟨s1, s2, s3, s4⟩ := hq
                clear hSw
                go_simp
                first | done | (with_reducible rfl)
              (try simp only [Act.put, List.getElem_toArray, List.getElem_cons_succ, List.getElem_cons_zero, List.setIfInBounds_toArray, List.set_cons_zero, List.set_cons_succ])
              refine wpAnyH_take (i := 8) (v := ?ev8) rfl (by kernel_rfl) (by kernel_rfl) (by kernel_rfl) (fun _ _ _ h => h) (Or.inl ⟨by rfl, ?ey8⟩) (by assumption) ?er8
              case ey8 =>
                intro wx hSw
                have hq := hSw
                obtain ⟨s1, s2, s3, s4⟩ := hq
                clear hSw
                go_simp
                first | done | (with_reducible rfl)
              (try simp only [Act.put, List.getElem_toArray, List.getElem_cons_succ, List.getElem_cons_zero, List.setIfInBounds_toArray, List.set_cons_zero, List.set_cons_succ])
              refine wpAnyH_take (i := 9) (v := ?ev9) rfl (by kernel_rfl) (by kernel_rfl) (by kernel_rfl) (fun _ _ _ h => h) (Or.inl ⟨by rfl, ?ey9⟩) (by assumption) ?er9
              case ey9 =>
                intro wx hSw
                have hq := hSw
                obtain ⟨s1, s2, s3, s4⟩ := hq
                clear hSw
                go_simp
                first | done | (with_reducible rfl)
              (try simp only [Act.put, List.getElem_toArray, List.getElem_cons_succ, List.getElem_cons_zero, List.setIfInBounds_toArray, List.set_cons_zero, List.set_cons_succ])
              refine wpAnyH_take (i := 10) (v := ?ev10) rfl (by kernel_rfl) (by kernel_rfl) (by kernel_rfl) (fun _ _ _ h => h) (Or.inl ⟨by rfl, ?ey10⟩) (by assumption) ?er10
              case ey10 =>
                intro wx hSw
                have hq := hSw
                obtain ⟨s1, s2, s3, s4⟩ := hq
                clear hSw
                go_simp
                first | done | (with_reducible rfl)
              (try simp only [Act.put, List.getElem_toArray, List.getElem_cons_succ, List.getElem_cons_zero, List.setIfInBounds_toArray, List.set_cons_zero, List.set_cons_succ])
              refine wpAnyH_take (i := 11) (v := ?ev11) rfl (by kernel_rfl) (by kernel_rfl) (by kernel_rfl) (fun _ _ _ h => h) (Or.inl ⟨by rfl, ?ey11⟩) (by assumption) ?er11
              case ey11 =>
                intro wx hSw
                have hq := hSw
                obtain ⟨s1, s2, s3, s4⟩ := hq
                clear hSw
                go_simp
                first | done | (with_reducible rfl)
              (try simp only [Act.put, List.getElem_toArray, List.getElem_cons_succ, List.getElem_cons_zero, List.setIfInBounds_toArray, List.set_cons_zero, List.set_cons_succ])
              refine wpAnyH_take (i := 12) (v := ?ev12) rfl (by kernel_rfl) (by kernel_rfl) (by kernel_rfl) (fun _ _ _ h => h) (Or.inl ⟨by rfl, ?ey12⟩) (by assumption) ?er12
              case ey12 =>
                intro wx hSw
                have hq := hSw
                obtain ⟨s1, s2, s3, s4⟩ := hq
                clear hSw
                go_simp
                first | done | (with_reducible rfl)
              (try simp only [Act.put, List.getElem_toArray, List.getElem_cons_succ, List.getElem_cons_zero, List.setIfInBounds_toArray, List.set_cons_zero, List.set_cons_succ])
              refine wpAnyH_take (i := 13) (v := ?ev13) rfl (by kernel_rfl) (by kernel_rfl) (by kernel_rfl) (fun _ _ _ h => h) (Or.inl ⟨by rfl, ?ey13⟩) (by assumption) ?er13
              case ey13 =>
                intro wx hSw
                have hq := hSw
                obtain ⟨s1, s2, s3, s4⟩ := hq
                clear hSw
                go_simp
                first | done | (with_reducible rfl)
              (try simp only [Act.put, List.getElem_toArray, List.getElem_cons_succ, List.getElem_cons_zero, List.setIfInBounds_toArray, List.set_cons_zero, List.set_cons_succ])
              refine wpAnyH_done (by kernel_rfl) ?_ _
              go_wp2
              go_roundw
              case rel => exact ⟨i + 1, _, by omega, rfl, by go_num, HR.out.1.trans (by rw [HN.out]), HZe.out.2.2.drew⟩
              case measure => simp [intOf]; omega
            · have hne : (X != (i : Int)) = true := by simpa using hxi
              have HN := Lib.hid (wOut_new f i (fun h => hxi (HX.out.symm.trans h)) (by rw [HX.out]; exact hnil))
              have HFm := Lib.hid (fun w => rfmt_any X w (by unfold fits; omega))
              have hz := fmtS_size X (by unfold fits; omega)
              obtain ⟨FX, hFX⟩ : ∃ FX, fmtS X = FX := ⟨_, rfl⟩
              rw [hFX] at HFm hz
              have HFX := Lib.hid hFX
              have iz : (FX.size : Int) ≤ 40 := by omega
              have HXn : Hid (((X.toNat : Nat) : Int) = X) := by show _ = _; omega
              clear hxi hnil hFX
              go_wp2
              refine wp_region_held_drew (S := fun w' => w'.cell? ⟨B1, 1, none⟩ = some (.slice (some ⟨b1, o1, none⟩) 256 w1c) ∧ w'.cell? ⟨B2, 1, none⟩ = some (.slice (some ⟨b2, o2, none⟩) 256 w2c) ∧ w'.cell? ⟨b1, o1 + i, none⟩ = some (.int .i64 X) ∧ w'.cell? ⟨b2, o2 + i, none⟩ = some (.int .i64 (i : Int))) (by kernel_rfl) ?_ (fun hHeld => ?_)
              · exact ⟨q1, q2, q3, q4⟩
              refine wpAnyH_take (i := 0) (v := ?gv0) rfl (by kernel_rfl) (by kernel_rfl) (by kernel_rfl) (fun _ _ _ h => h) (Or.inl ⟨by rfl, ?gy0⟩) (by assumption) ?gr0
              case gy0 =>
                intro wx hSw
                have hq := hSw
                obtain ⟨s1, s2, s3, s4⟩ := hq
                clear hSw
                go_simp
                first | done | (with_reducible rfl)
              (try simp only [Act.put, List.getElem_toArray, List.getElem_cons_zero, List.setIfInBounds_toArray, List.set_cons_zero, List.set_cons_succ])
              refine wpAnyH_take (i := 1) (v := ?gv1) rfl (by kernel_rfl) (by kernel_rfl) (by kernel_rfl) (fun _ _ _ h => h) (Or.inl ⟨by rfl, ?gy1⟩) (by assumption) ?gr1
              case gy1 =>
                intro wx hSw
                have hq := hSw
                obtain ⟨s1, s2, s3, s4⟩ := hq
                clear hSw
                go_simp
                first | done | (with_reducible rfl)
              (try simp only [Act.put, List.getElem_toArray, List.getElem_cons_succ, List.getElem_cons_zero, List.setIfInBounds_toArray, List.set_cons_zero, List.set_cons_succ])
              refine wpAnyH_take (i := 2) (v := ?gv2) rfl (by kernel_rfl) (by kernel_rfl) (by kernel_rfl) (fun _ _ _ h => h) (Or.inl ⟨by rfl, ?gy2⟩) (by assumption) ?gr2
              case gy2 =>
                intro wx hSw
                have hq := hSw
                obtain ⟨s1, s2, s3, s4⟩ := hq
                clear hSw
                go_simp
                first | done | (with_reducible rfl)
              (try simp only [Act.put, List.getElem_toArray, List.getElem_cons_succ, List.getElem_cons_zero, List.setIfInBounds_toArray, List.set_cons_zero, List.set_cons_succ])
              refine wpAnyH_take (i := 3) (v := ?gv3) rfl (by kernel_rfl) (by kernel_rfl) (by kernel_rfl) (fun _ _ _ h => h) (Or.inl ⟨by rfl, ?gy3⟩) (by assumption) ?gr3
              case gy3 =>
                intro wx hSw
                have hq := hSw
                obtain ⟨s1, s2, s3, s4⟩ := hq
                clear hSw
                go_simp
                first | done | (with_reducible rfl)
              (try simp only [Act.put, List.getElem_toArray, List.getElem_cons_succ, List.getElem_cons_zero, List.setIfInBounds_toArray, List.set_cons_zero, List.set_cons_succ])
              refine wpAnyH_take (i := 4) (v := ?gv4) rfl (by kernel_rfl) (by kernel_rfl) (by kernel_rfl) (fun _ _ _ h => h) (Or.inl ⟨by rfl, ?gy4⟩) (by assumption) ?gr4
              case gy4 =>
                intro wx hSw
                have hq := hSw
                obtain ⟨s1, s2, s3, s4⟩ := hq
                clear hSw
                go_simp
                first | done | (with_reducible rfl)
              (try simp only [Act.put, List.getElem_toArray, List.getElem_cons_succ, List.getElem_cons_zero, List.setIfInBounds_toArray, List.set_cons_zero, List.set_cons_succ])
              refine wpAnyH_take (i := 5) (v := ?gv5) rfl (by kernel_rfl) (by kernel_rfl) (by kernel_rfl) (fun _ _ _ h => h) (Or.inl ⟨by rfl, ?gy5⟩) (by assumption) ?gr5
              case gy5 =>
                intro wx hSw
                have hq := hSw
                obtain ⟨s1, s2, s3, s4⟩ := hq
                clear hSw
                go_simp
                first | done | (with_reducible rfl)
              (try simp only [Act.put, List.getElem_toArray, List.getElem_cons_succ, List.getElem_cons_zero, List.setIfInBounds_toArray, List.set_cons_zero, List.set_cons_succ])
              refine wpAnyH_take (i := 6) (v := ?gv6) rfl (by kernel_rfl) (by kernel_rfl) (by kernel_rfl) (fun _ _ _ h => h) (Or.inl ⟨by rfl, ?gy6⟩) (by assumption) ?gr6
              case gy6 =>
                intro wx hSw
                have hq := hSw
                obtain ⟨s1, s2, s3, s4⟩ := hq
                clear hSw
                go_simp
                first | done | (with_reducible rfl)
              (try simp only [Act.put, List.getElem_toArray, List.getElem_cons_succ, List.getElem_cons_zero, List.setIfInBounds_toArray, List.set_cons_zero, List.set_cons_succ])
              refine wpAnyH_take (i := 7) (v := ?gv7) rfl (by kernel_rfl) (by kernel_rfl) (by kernel_rfl) (fun _ _ _ h => h) (Or.inl ⟨by rfl, ?gy7⟩) (by assumption) ?gr7
              case gy7 =>
                intro wx hSw
                have hq := hSw
                obtain ⟨s1, s2, s3, s4⟩ := hq
                clear hSw
                go_simp
                first | done | (with_reducible rfl)
              (try simp only [Act.put, List.getElem_toArray, List.getElem_cons_succ, List.getElem_cons_zero, List.setIfInBounds_toArray, List.set_cons_zero, List.set_cons_succ])
              refine wpAnyH_take (i := 8) (v := ?gv8) rfl (by kernel_rfl) (by kernel_rfl) (by kernel_rfl) (fun _ _ _ h => h) (Or.inl ⟨by rfl, ?gy8⟩) (by assumption) ?gr8
              case gy8 =>
                intro wx hSw
                have hq := hSw
                obtain ⟨s1, s2, s3, s4⟩ := hq
                clear hSw
                go_simp
                first | done | (with_reducible rfl)
              (try simp only [Act.put, List.getElem_toArray, List.getElem_cons_succ, List.getElem_cons_zero, List.setIfInBounds_toArray, List.set_cons_zero, List.set_cons_succ])
              refine wpAnyH_take (i := 9) (v := ?gv9) rfl (by kernel_rfl) (by kernel_rfl) (by kernel_rfl) (fun _ _ _ h => h) (Or.inl ⟨by rfl, ?gy9⟩) (by assumption) ?gr9
              case gy9 =>
                intro wx hSw
                have hq := hSw
                obtain ⟨s1, s2, s3, s4⟩ := hq
                clear hSw
                go_simp
                first | done | (with_reducible rfl)
              (try simp only [Act.put, List.getElem_toArray, List.getElem_cons_succ, List.getElem_cons_zero, List.setIfInBounds_toArray, List.set_cons_zero, List.set_cons_succ])
              refine wpAnyH_take (i := 10) (v := ?gv10) rfl (by kernel_rfl) (by kernel_rfl) (by kernel_rfl) (fun _ _ _ h => h) (Or.inl ⟨by rfl, ?gy10⟩) (by assumption) ?gr10
              case gy10 =>
                intro wx hSw
                have hq := hSw
                obtain ⟨s1, s2, s3, s4⟩ := hq
                clear hSw
                go_simp
                first | done | (with_reducible rfl)
              (try simp only [Act.put, List.getElem_toArray, List.getElem_cons_succ, List.getElem_cons_zero, List.setIfInBounds_toArray, List.set_cons_zero, List.set_cons_succ])
              refine wpAnyH_take (i := 11) (v := ?gv11) rfl (by kernel_rfl) (by kernel_rfl) (by kernel_rfl) (fun _ _ _ h => h) (Or.inl ⟨by rfl, ?gy11⟩) (by assumption) ?gr11
              case gy11 =>
                intro wx hSw
                have hq := hSw
                obtain ⟨s1, s2, s3, s4⟩ := hq
                clear hSw
                go_simp
                first | done | (with_reducible rfl)
              (try simp only [Act.put, List.getElem_toArray, List.getElem_cons_succ, List.getElem_cons_zero, List.setIfInBounds_toArray, List.set_cons_zero, List.set_cons_succ])
              refine wpAnyH_take (i := 12) (v := ?gv12) rfl (by kernel_rfl) (by kernel_rfl) (by kernel_rfl) (fun _ _ _ h => h) (Or.inl ⟨by rfl, ?gy12⟩) (by assumption) ?gr12
              case gy12 =>
                intro wx hSw
                have hq := hSw
                obtain ⟨s1, s2, s3, s4⟩ := hq
                clear hSw
                go_simp
                first | done | (with_reducible rfl)
              (try simp only [Act.put, List.getElem_toArray, List.getElem_cons_succ, List.getElem_cons_zero, List.setIfInBounds_toArray, List.set_cons_zero, List.set_cons_succ])
              refine wpAnyH_take (i := 13) (v := ?gv13) rfl (by kernel_rfl) (by kernel_rfl) (by kernel_rfl) (fun _ _ _ h => h) (Or.inl ⟨by rfl, ?gy13⟩) (by assumption) ?gr13
              case gy13 =>
                intro wx hSw
                have hq := hSw
                obtain ⟨s1, s2, s3, s4⟩ := hq
                clear hSw
                go_simp
                first | done | (with_reducible rfl)
              (try simp only [Act.put, List.getElem_toArray, List.getElem_cons_succ, List.getElem_cons_zero, List.setIfInBounds_toArray, List.set_cons_zero, List.set_cons_succ])
              refine wpAnyH_done (by kernel_rfl) ?_ _
              go_wp2_with (first
                | (go_at_call 30
                   refine (HFm.out _).mono ?_
                   rintro e w5 ⟨rfl, hb⟩
                   have HB5 := Lib.hid (HZe.out.2.2.drew.trans (hb.mono HZe.out.2.2.size))
                   clear hb))
              go_roundw
              case rel =>
                refine ⟨i + 1, _, by omega, rfl, by go_num, ?_, HB5.out⟩
                rw [HN.out, mk_app, ← HR.out.1, HZe.out.1, HX.out]
                apply ByteArray.ext
                apply Array.ext'
                rw [← HFX.out]
                simp [mk, fmB, gOut, kWei, HXn.out, ByteArray.data_append]
              case measure => simp [intOf]; omega
    · have hi2 : i = 256 := by omega
      have kn : ¬ ((i : Int) < 256) := by omega
      have HR2 := HR.out
      rw [hi2] at HR2
      have HD := Lib.hid HR2
      clear hi2 hi hin HR
      go_wp2
      go_ret
      obtain rfl : O = _ := HD.out.1
      exact ⟨rfl, HB0.out.trans (HD.out.2.mono HB0.out.size)⟩
end Go.Proofs.YtblaldcioneooaaGreatDoor
/- The maximal ranges of a set by their beginnings: in mathematics. -/
set_option linter.unusedVariables false
namespace Go.Proofs.YtblaldcioneooaaGreatDoor
open Go.RowKit

/-- The members from i on. -/
def elF (p : Nat → Bool) (i : Nat) : List Nat := (List.range' i (256 - i)).filter p
theorem elF_zero (p : Nat → Bool) : elF p 0 = el p 256 := by unfold elF el; rw [List.range_eq_range']
theorem elF_end (p : Nat → Bool) : elF p 256 = [] := rfl
theorem elF_next (p : Nat → Bool) (i : Nat) (hi : i < 256) : elF p i = if p i then i :: elF p (i + 1) else elF p (i + 1) := by
  unfold elF
  have e : 256 - i = (256 - (i + 1)) + 1 := by omega
  rw [e, List.range'_succ, List.filter_cons]
/-- Does a range begin at i? -/
def st (p : Nat → Bool) (i : Nat) : Bool := p i && (i == 0 || !p (i - 1))
/-- The range from i on ends at e. -/
structure RE (p : Nat → Bool) (i e : Nat) : Prop where
  make ::
  le : i ≤ e
  lt : e ≤ 255
  all : ∀ j, i ≤ j → j ≤ e → p j = true
  stop : e = 255 ∨ p (e + 1) = false
/-- The text of the range from i on. -/
def wordR (p : Nat → Bool) (i : Nat) : List UInt8 := rgOne (bl (elF p i))
def wordE (i e : Nat) : List UInt8 := if e = i then fmB i else fmB i ++ [45] ++ fmB e
theorem RE.ex (p : Nat → Bool) : ∀ (n i : Nat), 256 - i = n → i < 256 → p i = true → ∃ e, RE p i e
  | 0, i, hn, hi, _ => by omega
  | n + 1, i, hn, hi, hp => by
    by_cases h : i = 255 ∨ p (i + 1) = false
    · exact ⟨i, Nat.le_refl _, by omega, (fun j h1 h2 => (by rw [show j = i by omega]; exact hp)), h⟩
    · have h1 : ¬ i = 255 := fun e => h (.inl e)
      have h2 : p (i + 1) = true := by
        cases hq : p (i + 1)
        · exact absurd (.inr hq) h
        · rfl
      obtain ⟨e, he⟩ := RE.ex p n (i + 1) (by omega) (by omega) h2
      exact ⟨e, Nat.le_of_succ_le he.le, he.lt, fun j h3 h4 => by
        by_cases hj : j = i
        · rw [hj]; exact hp
        · exact he.all j (by omega) h4, he.stop⟩
/-- The members of a range, and those behind it. -/
theorem elF_run (p : Nat → Bool) : ∀ (n i e : Nat), e - i = n → RE p i e → elF p i = List.range' i (n + 1) ++ elF p (e + 1)
  | 0, i, e, hn, h => by
    have : e = i := by have := h.le; omega
    subst this
    rw [elF_next p e (by have := h.lt; omega), if_pos (h.all e (Nat.le_refl _) (Nat.le_refl _))]
    rfl
  | n + 1, i, e, hn, h => by
    have hlt := h.lt
    rw [elF_next p i (by omega), if_pos (h.all i (Nat.le_refl _) h.le)]
    have h2 : RE p (i + 1) e := ⟨by omega, h.lt, fun j h1 h2 => h.all j (by omega) h2, h.stop⟩
    rw [elF_run p n (i + 1) e (by omega) h2, List.range'_succ (s := i)]
    rfl
theorem succ_run : ∀ (n i : Nat) (r : List Nat), i + n ≤ 255 → (∀ x t, r = x :: t → i + n + 1 < x ∧ x ≤ 255) → succL (bl (List.range' i (n + 1) ++ r)) = n + 1
  | 0, i, r, hi, hr => by
    cases r with
    | nil => rfl
    | cons x t =>
      have := hr x t rfl
      show succL (UInt8.ofNat i :: UInt8.ofNat x :: bl t) = 1
      unfold succL
      rw [if_neg]
      intro e
      have e2 := congrArg UInt8.toNat e
      rw [UInt8.toNat_add, UInt8.toNat_ofNat', UInt8.toNat_ofNat'] at e2
      have h1 : (1 : UInt8).toNat = 1 := rfl
      rw [h1] at e2
      omega
  | n + 1, i, r, hi, hr => by
    have ih := succ_run n (i + 1) r (by omega) (fun x t h => by have := hr x t h; omega)
    have e1 : List.range' i (n + 1 + 1) = i :: (i + 1) :: List.range' (i + 1 + 1) n := by rw [List.range'_succ, List.range'_succ]
    have e2 : List.range' (i + 1) (n + 1) = (i + 1) :: List.range' (i + 1 + 1) n := by rw [List.range'_succ]
    rw [e2] at ih
    rw [e1]
    show succL (UInt8.ofNat i :: UInt8.ofNat (i + 1) :: bl (List.range' (i + 1 + 1) n ++ r)) = n + 1 + 1
    have hc : UInt8.ofNat (i + 1) = UInt8.ofNat i + 1 := by
      apply UInt8.toNat_inj.1
      rw [UInt8.toNat_add, UInt8.toNat_ofNat', UInt8.toNat_ofNat']
      have h1 : (1 : UInt8).toNat = 1 := rfl
      rw [h1]
      omega
    unfold succL
    rw [if_pos hc]
    have ih2 : succL (UInt8.ofNat (i + 1) :: bl (List.range' (i + 1 + 1) n ++ r)) = n + 1 := ih
    rw [ih2]
theorem elF_head (p : Nat → Bool) (n : Nat) : ∀ i, 256 - i = n → ∀ x t, elF p i = x :: t → i ≤ x ∧ x ≤ 255 ∧ p x = true := by
  intro i _ x t h
  have hm : x ∈ elF p i := by rw [h]; simp
  unfold elF at hm
  have h1 := List.mem_filter.1 hm
  have h2 := List.mem_range'_1.1 h1.1
  exact ⟨h2.1, by omega, h1.2⟩
theorem behind {p : Nat → Bool} {i e : Nat} (h : RE p i e) : ∀ x t, elF p (e + 1) = x :: t → e + 1 < x ∧ x ≤ 255 := by
  intro x t hx
  have h1 := elF_head p _ (e + 1) rfl x t hx
  refine ⟨?_, h1.2.1⟩
  rcases h.stop with hs | hs
  · omega
  · by_cases hxe : x = e + 1
    · rw [hxe] at h1; rw [hs] at h1; cases h1.2.2
    · omega
theorem RE.succ {p : Nat → Bool} {i e : Nat} (h : RE p i e) : succL (bl (elF p i)) = e - i + 1 ∧ (bl (elF p i)).drop (e - i + 1) = bl (elF p (e + 1)) ∧ elF p i ≠ [] := by
  have hr := elF_run p (e - i) i e rfl h
  have hb := behind h
  have hle := h.le
  have hlt := h.lt
  refine ⟨?_, ?_, ?_⟩
  · rw [hr]
    exact succ_run (e - i) i (elF p (e + 1)) (by omega) (fun x t hx => by have := hb x t hx; omega)
  · rw [hr]
    unfold bl
    rw [List.map_append]
    have : e - i + 1 = ((List.range' i (e - i + 1)).map UInt8.ofNat).length := by simp
    conv => lhs; rw [this]
    simp
  · rw [hr, List.range'_succ]; simp
theorem RE.word {p : Nat → Bool} {i e : Nat} (h : RE p i e) : wordR p i = wordE i e := by
  have hr := elF_run p (e - i) i e rfl h
  have hs := h.succ.1
  have hle := h.le
  have hlt := h.lt
  unfold wordR wordE rgOne
  rw [hs]
  have h0 : (bl (elF p i)).headD 0 = UInt8.ofNat i := by rw [hr, List.range'_succ]; rfl
  have e0 : (UInt8.ofNat i).toNat = i := by rw [UInt8.toNat_ofNat']; omega
  rw [h0, e0]
  by_cases hei : e = i
  · rw [if_pos (by omega), if_pos hei]
  · rw [if_neg (by omega), if_neg hei]
    have h1 : (bl (elF p i)).getD (e - i + 1 - 1) 0 = UInt8.ofNat e := by
      rw [hr]
      unfold bl
      rw [List.getD_eq_getElem?_getD, List.getElem?_map, List.getElem?_append_left (by simp), List.getElem?_range' (by omega)]
      simp only [Option.map_some, Option.getD_some]
      exact congrArg UInt8.ofNat (by omega)
    have e1 : (UInt8.ofNat e).toNat = e := by rw [UInt8.toNat_ofNat']; omega
    rw [h1, e1]
/-- The texts of the ranges that begin from i on. -/
def rgF (p : Nat → Bool) (i : Nat) : List (List UInt8) := ((List.range' i (256 - i)).filter (st p)).map (wordR p)
theorem rgF_next (p : Nat → Bool) (i : Nat) (hi : i < 256) : rgF p i = if st p i then wordR p i :: rgF p (i + 1) else rgF p (i + 1) := by
  unfold rgF
  have e : 256 - i = (256 - (i + 1)) + 1 := by omega
  rw [e, List.range'_succ, List.filter_cons]
  split
  · rfl
  · rfl
theorem rgF_inside (p : Nat → Bool) : ∀ (n i e : Nat), e + 1 - i = n → i ≤ e + 1 → e ≤ 255 → (∀ j, i ≤ j → j ≤ e → p j = true ∧ 0 < j ∧ p (j - 1) = true) → rgF p i = rgF p (e + 1)
  | 0, i, e, hn, h1, _, _ => by rw [show i = e + 1 by omega]
  | n + 1, i, e, hn, h1, h2, h => by
    have hi := h i (Nat.le_refl _) (by omega)
    have hst : st p i = false := by
      unfold st
      have : (i == 0) = false := by simp; omega
      rw [hi.1, hi.2.2, this]; rfl
    rw [rgF_next p i (by omega), hst, if_neg (by decide)]
    exact rgF_inside p n (i + 1) e (by omega) (by omega) h2 (fun j h3 h4 => h j (by omega) h4)
theorem rgT_F (p : Nat → Bool) : ∀ (n i : Nat), 256 - i ≤ n → i ≤ 256 → (i = 0 ∨ p (i - 1) = false ∨ p i = false ∨ i = 256) → rgT (bl (elF p i)) = rgF p i
  | 0, i, hn, hi, _ => by
    have : i = 256 := by omega
    subst this
    rfl
  | n + 1, i, hn, hi, hc => by
    by_cases h256 : i = 256
    · subst h256; rfl
    · cases hp : p i with
      | false =>
        have hst : st p i = false := by unfold st; rw [hp]; rfl
        rw [rgF_next p i (by omega), hst, if_neg (by decide), elF_next p i (by omega), hp, if_neg (by decide)]
        exact rgT_F p n (i + 1) (by omega) (by omega) (.inr (.inl (by rw [Nat.add_sub_cancel]; exact hp)))
      | true =>
        obtain ⟨e, he⟩ := RE.ex p _ i rfl (by omega) hp
        have hs := he.succ
        have hle := he.le
        have hlt := he.lt
        have hst : st p i = true := by
          unfold st
          rw [hp]
          rcases hc with h | h | h | h
          · rw [h]; rfl
          · rw [h]; simp
          · rw [hp] at h; cases h
          · exact absurd h h256
        have hne : bl (elF p i) ≠ [] := by
          intro h
          unfold bl at h
          exact hs.2.2 (List.map_eq_nil_iff.1 h)
        rw [rgT_cons _ hne, hs.1, hs.2.1, rgF_next p i (by omega), hst, if_pos rfl]
        have h3 : rgF p (i + 1) = rgF p (e + 1) := rgF_inside p _ (i + 1) e rfl (by omega) hlt (fun j h1 h2 => ⟨he.all j (by omega) h2, by omega, he.all (j - 1) (by omega) (by omega)⟩)
        rw [h3]
        congr 1
        refine rgT_F p n (e + 1) (by omega) (by omega) ?_
        rcases he.stop with h | h
        · exact .inr (.inr (.inr (by omega)))
        · exact .inr (.inr (.inl h))
/-- The texts of the ranges that begin before i. -/
def rgB (p : Nat → Bool) (i : Nat) : List (List UInt8) := ((List.range i).filter (st p)).map (wordR p)
theorem rgB_succ (p : Nat → Bool) (i : Nat) : rgB p (i + 1) = if st p i then rgB p i ++ [wordR p i] else rgB p i := by
  unfold rgB
  rw [List.range_succ, List.filter_append, List.map_append]
  cases h : st p i
  · rw [if_neg (by decide)]; simp [h]
  · rw [if_pos rfl]; simp [h]
theorem clsRg_B (p : Nat → Bool) : clsRg p = rgB p 256 := by
  unfold clsRg
  rw [← elF_zero, rgT_F p 256 0 (by omega) (by omega) (.inl rfl)]
  unfold rgF rgB
  rw [List.range_eq_range']
end Go.Proofs.YtblaldcioneooaaGreatDoor
/- The reference's ranges. (Written by gen_lrf3.py.) -/
set_option linter.unusedVariables false
set_option maxRecDepth 100000
namespace Go.Proofs.YtblaldcioneooaaGreatDoor
open Go.RowKit

/-- What stands written before byte i. -/
def rOut (p : Nat → Bool) (i : Nat) : List UInt8 := spc (rgB p i)
theorem rgB_len (p : Nat → Bool) (i : Nat) : (rgB p i).length ≤ i ∧ ∀ x ∈ rgB p i, x.length ≤ 7 := by
  unfold rgB
  constructor
  · rw [List.length_map]
    exact Nat.le_trans (List.length_filter_le _ _) (by simp)
  · intro x hx
    obtain ⟨j, _, rfl⟩ := List.mem_map.1 hx
    exact rgOne_len _
theorem rOut_len (p : Nat → Bool) (i : Nat) (hi : i ≤ 256) : (rOut p i).length ≤ 2048 := by
  unfold rOut
  rw [spc_len]
  have h := rgB_len p i
  have := cost_le (rgB p i) 8 (fun x hx => by have := h.2 x hx; omega)
  omega
theorem rOut_same (p : Nat → Bool) (i : Nat) (h : st p i = false) : rOut p (i + 1) = rOut p i := by
  unfold rOut
  rw [rgB_succ, h, if_neg (by decide)]
theorem rOut_new (p : Nat → Bool) (i e : Nat) (h : st p i = true) (he : RE p i e) : rOut p (i + 1) = rOut p i ++ 32 :: wordE i e := by
  unfold rOut
  rw [rgB_succ, h, if_pos rfl, spc_app, spc_one, he.word]
/-- The set in its box. -/
def CB (p : Nat → Bool) (B : Nat) (w : World) : Prop := w.heap[B]? = some (.cells #[.int .u64 ((wd p 0 64 : Nat) : Int), .int .u64 ((wd p 64 64 : Nat) : Int), .int .u64 ((wd p 128 64 : Nat) : Int), .int .u64 ((wd p 192 64 : Nat) : Int)] 49 (0, 0))
theorem CB.words {p : Nat → Bool} {B : Nat} {w : World} (h : CB p B w) : w.cell? ⟨B, 0, none⟩ = some (.int .u64 ((wd p 0 64 : Nat) : Int)) ∧ w.cell? ⟨B, 1, none⟩ = some (.int .u64 ((wd p 64 64 : Nat) : Int)) ∧ w.cell? ⟨B, 2, none⟩ = some (.int .u64 ((wd p 128 64 : Nat) : Int)) ∧ w.cell? ⟨B, 3, none⟩ = some (.int .u64 ((wd p 192 64 : Nat) : Int)) :=
  ⟨cell_of_row w B 0 _ _ _ h, cell_of_row w B 1 _ _ _ h, cell_of_row w B 2 _ _ _ h, cell_of_row w B 3 _ _ _ h⟩
theorem CB.next {p : Nat → Bool} {B : Nat} {w w' : World} (h : CB p B w) (hb : Below w.heap.size w w') : CB p B w' := (hb.block B (Array.getElem?_eq_some_iff.1 h).1).trans h
set_option maxHeartbeats 16000000 in
theorem rranges_any (p : Nat → Bool) (w : World) : Calls Tryz.prog 29 #[cs p] w fun e w' => e = .returned (.string (mk (rOut p 256))) ∧ Below w.heap.size w w' := by
  have HBs : Hid (Below w.heap.size w (w.alloc (.cells #[.int .u64 ((wd p 0 64 : Nat) : Int), .int .u64 ((wd p 64 64 : Nat) : Int), .int .u64 ((wd p 128 64 : Nat) : Int), .int .u64 ((wd p 192 64 : Nat) : Int)] 49))) := (Below.refl _ _).alloc (Nat.le_refl _) _
  have HCb : Hid (CB p w.heap.size (w.alloc (.cells #[.int .u64 ((wd p 0 64 : Nat) : Int), .int .u64 ((wd p 64 64 : Nat) : Int), .int .u64 ((wd p 128 64 : Nat) : Int), .int .u64 ((wd p 192 64 : Nat) : Int)] 49))) := heap_alloc_new w _
  have HHas := Lib.hid (fun (c : Nat) (hc : c < 256) (w : World) => rhas_any p c hc w)
  unfold cs cl at *
  go_enter Tryz.func29, Tryz.ntmps29
  go_wp2
  generalize w.alloc (.cells #[.int .u64 ((wd p 0 64 : Nat) : Int), .int .u64 ((wd p 64 64 : Nat) : Int), .int .u64 ((wd p 128 64 : Nat) : Int), .int .u64 ((wd p 192 64 : Nat) : Int)] 49) = wS at HBs HCb ⊢
  go_loopw [3, 4] (fun o v wr => ∃ (i : Nat) (O : ByteArray), i ≤ 256 ∧ o = .string O ∧ v = .int .i64 i ∧ Hid (O = mk (rOut p i) ∧ Below wS.heap.size wS wr)) (fun _ v _ => 256 - (intOf v).toNat)
  case atStart => exact ⟨0, ⟨#[]⟩, Nat.zero_le _, rfl, rfl, rfl, Below.refl _ _⟩
  case round =>
    obtain ⟨i, O, hi, rfl, rfl, HR⟩ := hrel
    have hOs : O.size ≤ 2048 := by
      rw [HR.out.1, mk_size]
      exact rOut_len p i hi
    have hOi : (O.size : Int) ≤ 2048 := by omega
    by_cases hin : i < 256
    · have ii : (i : Int) < 256 := by omega
      have ii0 : (0 : Int) ≤ i := by omega
      have HI := Lib.hid (HHas.out i hin)
      have HCr := Lib.hid (HCb.out.next HR.out.2)
      obtain ⟨q0, q1, q2, q3⟩ := HCr.out.words
      cases hpi : p i with
      | false =>
        rw [hpi] at HI
        have HN := Lib.hid (rOut_same p i (by unfold st; rw [hpi]; rfl))
        clear hpi
        go_wp2_with (first
          | (go_at_call 51
             with_reducible refine (HI.out _).mono ?_
             rintro e w3 ⟨rfl, hb⟩
             have HB3 := Lib.hid (HR.out.2.trans (hb.mono HR.out.2.size))
             clear hb))
        go_roundw
        case rel => exact ⟨i + 1, _, by omega, rfl, by go_num, HR.out.1.trans (by rw [HN.out]), HB3.out⟩
        case measure => simp [intOf]; omega
      | true =>
        rw [hpi] at HI
        by_cases hi0 : i = 0
        · have hst : st p i = true := by unfold st; rw [hpi, hi0]; rfl
          have h0n : ¬ ((0 : Int) < (i : Int)) := by omega
          have h0d : decide (0 < i) = false := decide_eq_false (by omega)
          have h0m : ¬ 0 < i := by omega
          clear hi0
          have HSt := Lib.hid hst
          have HPi := Lib.hid hpi
          have HFi := Lib.hid (fun w => rfmt_any (i : Int) w (by unfold fits; omega))
          have hzi := fmtS_size (i : Int) (by unfold fits; omega)
          obtain ⟨FI, hFI⟩ : ∃ FI, fmtS (i : Int) = FI := ⟨_, rfl⟩
          rw [hFI] at HFi hzi
          have HFI := Lib.hid hFI
          have izi : (FI.size : Int) ≤ 40 := by omega
          clear hst hpi hFI
          go_wp2_with (first
            | (go_at_call 51
               with_reducible refine (HI.out _).mono ?_
               rintro e w3 ⟨rfl, hb⟩
               have HB3 := Lib.hid (HR.out.2.trans (hb.mono HR.out.2.size))
               clear hb))
          clear q0 q1 q2 q3
          go_loopw [5] (fun v wz => ∃ k : Nat, i ≤ k ∧ k ≤ 255 ∧ v = .int .i64 k ∧ Hid ((∀ j, i ≤ j → j ≤ k → p j = true) ∧ Below wS.heap.size wS wz)) (fun v _ => 255 - (intOf v).toNat)
          case atStart => exact ⟨i, Nat.le_refl _, by omega, rfl, (fun j h1 h2 => (by rw [show j = i by omega]; exact HPi.out)), HB3.out⟩
          case round =>
            rename World => wz
            obtain ⟨k, hik0, hk, rfl, HZ⟩ := hrel
            have kii : (i : Int) ≤ k := by omega
            have k0 : (0 : Int) ≤ k := by omega
            by_cases hk5 : k < 255
            · have k5 : (k : Int) < 255 := by omega
              have hn := HHas.out (k + 1) (by omega)
              have en : ((k + 1 : Nat) : Int) = (k : Int) + 1 := by omega
              rw [en] at hn
              obtain ⟨r0, r1, r2, r3⟩ := (HCb.out.next HZ.out.2).words
              cases hpn : p (k + 1) with
              | true =>
                rw [hpn] at hn
                have HNx := Lib.hid hn
                have HPn := Lib.hid hpn
                clear hn hpn en
                go_wp2_with (first
                  | (go_at_call 51
                     with_reducible refine (HNx.out _).mono ?_
                     rintro e w5 ⟨rfl, hb⟩
                     have HB5 := Lib.hid (HZ.out.2.trans (hb.mono HZ.out.2.size))
                     clear hb))
                go_roundw
                case rel => exact ⟨k + 1, by omega, by omega, by go_num, (fun j h1 h2 => (by
                  by_cases hj : j = k + 1
                  · rw [hj]; exact HPn.out
                  · exact HZ.out.1 j h1 (by omega))), HB5.out⟩
                case measure => simp [intOf]; omega
              | false =>
                rw [hpn] at hn
                have HNx := Lib.hid hn
                have hre : RE p i k := ⟨hik0, hk, HZ.out.1, .inr hpn⟩
                clear hn hpn en
                have HRe : Hid (RE p i k) := hre
                clear hre
                by_cases hki : k = i
                · subst hki
                  have HN := Lib.hid (rOut_new p k k HSt.out HRe.out)
                  have HWo : Hid (wordE k k = fmB k) := by show _ = _; unfold wordE; rw [if_pos rfl]
                  go_wp2_with (first
                    | (go_at_call 51
                       with_reducible refine (HNx.out _).mono ?_
                       rintro e w5 ⟨rfl, hb⟩
                       have HB5 := Lib.hid (HZ.out.2.trans (hb.mono HZ.out.2.size))
                       clear hb)
                    | (go_at_call 30
                       with_reducible refine (HFi.out _).mono ?_
                       rintro e w6 ⟨rfl, hb⟩
                       have HB6 := Lib.hid (HB5.out.trans (hb.mono HB5.out.size))
                       clear hb))
                  go_roundw
                  case rel =>
                    refine ⟨k + 1, _, by omega, rfl, by go_num, ?_, HB6.out⟩
                    rw [HN.out, mk_app, ← HR.out.1, HWo.out]
                    apply ByteArray.ext
                    apply Array.ext'
                    rw [← HFI.out]
                    simp [mk, fmB, ByteArray.data_append]
                  case measure => simp [intOf]; omega
                · have hik : (i : Int) < k := by omega
                  have HN := Lib.hid (rOut_new p i k HSt.out HRe.out)
                  have HWo : Hid (wordE i k = fmB i ++ [45] ++ fmB k) := by show _ = _; unfold wordE; rw [if_neg hki]
                  have HFk := Lib.hid (fun w => rfmt_any (k : Int) w (by unfold fits; omega))
                  have hzk := fmtS_size (k : Int) (by unfold fits; omega)
                  obtain ⟨FK, hFK⟩ : ∃ FK, fmtS (k : Int) = FK := ⟨_, rfl⟩
                  rw [hFK] at HFk hzk
                  have HFK := Lib.hid hFK
                  have izk : (FK.size : Int) ≤ 40 := by omega
                  clear hFK
                  go_wp2_with (first
                    | (go_at_call 51
                       with_reducible refine (HNx.out _).mono ?_
                       rintro e w5 ⟨rfl, hb⟩
                       have HB5 := Lib.hid (HZ.out.2.trans (hb.mono HZ.out.2.size))
                       clear hb)
                    | (go_at_call 30
                       with_reducible refine (HFi.out _).mono ?_
                       rintro e w6 ⟨rfl, hb⟩
                       have HB6 := Lib.hid (HB5.out.trans (hb.mono HB5.out.size))
                       clear hb)
                    | (go_at_call 30
                       with_reducible refine (HFk.out _).mono ?_
                       rintro e w7 ⟨rfl, hb⟩
                       have HB7 := Lib.hid (HB6.out.trans (hb.mono HB6.out.size))
                       clear hb))
                  go_roundw
                  case rel =>
                    refine ⟨i + 1, _, by omega, rfl, by go_num, ?_, HB7.out⟩
                    rw [HN.out, mk_app, ← HR.out.1, HWo.out]
                    apply ByteArray.ext
                    apply Array.ext'
                    rw [← HFI.out, ← HFK.out]
                    simp [mk, fmB, ByteArray.data_append]
                  case measure => simp [intOf]; omega
            · have k5 : ¬ ((k : Int) < 255) := by omega
              have hre : RE p i k := ⟨hik0, hk, HZ.out.1, .inl (by omega)⟩
              have HRe : Hid (RE p i k) := hre
              clear hre
              by_cases hki : k = i
              · exfalso; omega
              · have hik : (i : Int) < k := by omega
                have HN := Lib.hid (rOut_new p i k HSt.out HRe.out)
                have HWo : Hid (wordE i k = fmB i ++ [45] ++ fmB k) := by show _ = _; unfold wordE; rw [if_neg hki]
                have HFk := Lib.hid (fun w => rfmt_any (k : Int) w (by unfold fits; omega))
                have hzk := fmtS_size (k : Int) (by unfold fits; omega)
                obtain ⟨FK, hFK⟩ : ∃ FK, fmtS (k : Int) = FK := ⟨_, rfl⟩
                rw [hFK] at HFk hzk
                have HFK := Lib.hid hFK
                have izk : (FK.size : Int) ≤ 40 := by omega
                clear hFK
                go_wp2_with (first
                  | (go_at_call 30
                     with_reducible refine (HFi.out _).mono ?_
                     rintro e w6 ⟨rfl, hb⟩
                     have HB6 := Lib.hid (HZ.out.2.trans (hb.mono HZ.out.2.size))
                     clear hb)
                  | (go_at_call 30
                     with_reducible refine (HFk.out _).mono ?_
                     rintro e w7 ⟨rfl, hb⟩
                     have HB7 := Lib.hid (HB6.out.trans (hb.mono HB6.out.size))
                     clear hb))
                go_roundw
                case rel =>
                  refine ⟨i + 1, _, by omega, rfl, by go_num, ?_, HB7.out⟩
                  rw [HN.out, mk_app, ← HR.out.1, HWo.out]
                  apply ByteArray.ext
                  apply Array.ext'
                  rw [← HFI.out, ← HFK.out]
                  simp [mk, fmB, ByteArray.data_append]
                case measure => simp [intOf]; omega
        · have hip : (0 : Int) < i := by omega
          have hid : decide (0 < i) = true := decide_eq_true (by omega)
          have him : 0 < i := by omega
          have hj := HHas.out (i - 1) (by omega)
          have ej : ((i - 1 : Nat) : Int) = (i : Int) - 1 := by omega
          rw [ej] at hj
          cases hpj : p (i - 1) with
          | true =>
            rw [hpj] at hj
            have HJ := Lib.hid hj
            have HN := Lib.hid (rOut_same p i (by unfold st; rw [hpi, hpj]; simp [hi0]))
            clear hpi hpj hj ej
            go_wp2_with (first
              | (go_at_call 51
                 with_reducible refine (HI.out _).mono ?_
                 rintro e w3 ⟨rfl, hb⟩
                 have HB3 := Lib.hid (HR.out.2.trans (hb.mono HR.out.2.size))
                 clear hb
                 obtain ⟨q0, q1, q2, q3⟩ := (HCb.out.next HB3.out).words)
              | (go_at_call 51
                 with_reducible refine (HJ.out _).mono ?_
                 rintro e w4 ⟨rfl, hb⟩
                 have HB4 := Lib.hid (HB3.out.trans (hb.mono HB3.out.size))
                 clear hb))
            go_roundw
            case rel => exact ⟨i + 1, _, by omega, rfl, by go_num, HR.out.1.trans (by rw [HN.out]), HB4.out⟩
            case measure => simp [intOf]; omega
          | false =>
            rw [hpj] at hj
            have HJ := Lib.hid hj
            have hst : st p i = true := by unfold st; rw [hpi, hpj]; simp
            clear hpj hj ej
            have HSt := Lib.hid hst
            have HPi := Lib.hid hpi
            have HFi := Lib.hid (fun w => rfmt_any (i : Int) w (by unfold fits; omega))
            have hzi := fmtS_size (i : Int) (by unfold fits; omega)
            obtain ⟨FI, hFI⟩ : ∃ FI, fmtS (i : Int) = FI := ⟨_, rfl⟩
            rw [hFI] at HFi hzi
            have HFI := Lib.hid hFI
            have izi : (FI.size : Int) ≤ 40 := by omega
            clear hst hpi hFI
            go_wp2_with (first
              | (go_at_call 51
                 with_reducible refine (HI.out _).mono ?_
                 rintro e w3 ⟨rfl, hb⟩
                 have HB3 := Lib.hid (HR.out.2.trans (hb.mono HR.out.2.size))
                 clear hb
                 obtain ⟨q0, q1, q2, q3⟩ := (HCb.out.next HB3.out).words)
              | (go_at_call 51
                 with_reducible refine (HJ.out _).mono ?_
                 rintro e w4 ⟨rfl, hb⟩
                 have HB4 := Lib.hid (HB3.out.trans (hb.mono HB3.out.size))
                 clear hb))
            clear q0 q1 q2 q3
            go_loopw [5] (fun v wz => ∃ k : Nat, i ≤ k ∧ k ≤ 255 ∧ v = .int .i64 k ∧ Hid ((∀ j, i ≤ j → j ≤ k → p j = true) ∧ Below wS.heap.size wS wz)) (fun v _ => 255 - (intOf v).toNat)
            case atStart => exact ⟨i, Nat.le_refl _, by omega, rfl, (fun j h1 h2 => (by rw [show j = i by omega]; exact HPi.out)), HB4.out⟩
            case round =>
              rename World => wz
              obtain ⟨k, hik0, hk, rfl, HZ⟩ := hrel
              have kii : (i : Int) ≤ k := by omega
              have k0 : (0 : Int) ≤ k := by omega
              by_cases hk5 : k < 255
              · have k5 : (k : Int) < 255 := by omega
                have hn := HHas.out (k + 1) (by omega)
                have en : ((k + 1 : Nat) : Int) = (k : Int) + 1 := by omega
                rw [en] at hn
                obtain ⟨r0, r1, r2, r3⟩ := (HCb.out.next HZ.out.2).words
                cases hpn : p (k + 1) with
                | true =>
                  rw [hpn] at hn
                  have HNx := Lib.hid hn
                  have HPn := Lib.hid hpn
                  clear hn hpn en
                  go_wp2_with (first
                    | (go_at_call 51
                       with_reducible refine (HNx.out _).mono ?_
                       rintro e w5 ⟨rfl, hb⟩
                       have HB5 := Lib.hid (HZ.out.2.trans (hb.mono HZ.out.2.size))
                       clear hb))
                  go_roundw
                  case rel => exact ⟨k + 1, by omega, by omega, by go_num, (fun j h1 h2 => (by
                    by_cases hj : j = k + 1
                    · rw [hj]; exact HPn.out
                    · exact HZ.out.1 j h1 (by omega))), HB5.out⟩
                  case measure => simp [intOf]; omega
                | false =>
                  rw [hpn] at hn
                  have HNx := Lib.hid hn
                  have hre : RE p i k := ⟨hik0, hk, HZ.out.1, .inr hpn⟩
                  clear hn hpn en
                  have HRe : Hid (RE p i k) := hre
                  clear hre
                  by_cases hki : k = i
                  · subst hki
                    have HN := Lib.hid (rOut_new p k k HSt.out HRe.out)
                    have HWo : Hid (wordE k k = fmB k) := by show _ = _; unfold wordE; rw [if_pos rfl]
                    go_wp2_with (first
                      | (go_at_call 51
                         with_reducible refine (HNx.out _).mono ?_
                         rintro e w5 ⟨rfl, hb⟩
                         have HB5 := Lib.hid (HZ.out.2.trans (hb.mono HZ.out.2.size))
                         clear hb)
                      | (go_at_call 30
                         with_reducible refine (HFi.out _).mono ?_
                         rintro e w6 ⟨rfl, hb⟩
                         have HB6 := Lib.hid (HB5.out.trans (hb.mono HB5.out.size))
                         clear hb))
                    go_roundw
                    case rel =>
                      refine ⟨k + 1, _, by omega, rfl, by go_num, ?_, HB6.out⟩
                      rw [HN.out, mk_app, ← HR.out.1, HWo.out]
                      apply ByteArray.ext
                      apply Array.ext'
                      rw [← HFI.out]
                      simp [mk, fmB, ByteArray.data_append]
                    case measure => simp [intOf]; omega
                  · have hik : (i : Int) < k := by omega
                    have HN := Lib.hid (rOut_new p i k HSt.out HRe.out)
                    have HWo : Hid (wordE i k = fmB i ++ [45] ++ fmB k) := by show _ = _; unfold wordE; rw [if_neg hki]
                    have HFk := Lib.hid (fun w => rfmt_any (k : Int) w (by unfold fits; omega))
                    have hzk := fmtS_size (k : Int) (by unfold fits; omega)
                    obtain ⟨FK, hFK⟩ : ∃ FK, fmtS (k : Int) = FK := ⟨_, rfl⟩
                    rw [hFK] at HFk hzk
                    have HFK := Lib.hid hFK
                    have izk : (FK.size : Int) ≤ 40 := by omega
                    clear hFK
                    go_wp2_with (first
                      | (go_at_call 51
                         with_reducible refine (HNx.out _).mono ?_
                         rintro e w5 ⟨rfl, hb⟩
                         have HB5 := Lib.hid (HZ.out.2.trans (hb.mono HZ.out.2.size))
                         clear hb)
                      | (go_at_call 30
                         with_reducible refine (HFi.out _).mono ?_
                         rintro e w6 ⟨rfl, hb⟩
                         have HB6 := Lib.hid (HB5.out.trans (hb.mono HB5.out.size))
                         clear hb)
                      | (go_at_call 30
                         with_reducible refine (HFk.out _).mono ?_
                         rintro e w7 ⟨rfl, hb⟩
                         have HB7 := Lib.hid (HB6.out.trans (hb.mono HB6.out.size))
                         clear hb))
                    go_roundw
                    case rel =>
                      refine ⟨i + 1, _, by omega, rfl, by go_num, ?_, HB7.out⟩
                      rw [HN.out, mk_app, ← HR.out.1, HWo.out]
                      apply ByteArray.ext
                      apply Array.ext'
                      rw [← HFI.out, ← HFK.out]
                      simp [mk, fmB, ByteArray.data_append]
                    case measure => simp [intOf]; omega
              · have k5 : ¬ ((k : Int) < 255) := by omega
                have hre : RE p i k := ⟨hik0, hk, HZ.out.1, .inl (by omega)⟩
                have HRe : Hid (RE p i k) := hre
                clear hre
                by_cases hki : k = i
                · subst hki
                  have HN := Lib.hid (rOut_new p k k HSt.out HRe.out)
                  have HWo : Hid (wordE k k = fmB k) := by show _ = _; unfold wordE; rw [if_pos rfl]
                  go_wp2_with (first
                    | (go_at_call 30
                       with_reducible refine (HFi.out _).mono ?_
                       rintro e w6 ⟨rfl, hb⟩
                       have HB6 := Lib.hid (HZ.out.2.trans (hb.mono HZ.out.2.size))
                       clear hb))
                  go_roundw
                  case rel =>
                    refine ⟨k + 1, _, by omega, rfl, by go_num, ?_, HB6.out⟩
                    rw [HN.out, mk_app, ← HR.out.1, HWo.out]
                    apply ByteArray.ext
                    apply Array.ext'
                    rw [← HFI.out]
                    simp [mk, fmB, ByteArray.data_append]
                  case measure => simp [intOf]; omega
                · have hik : (i : Int) < k := by omega
                  have HN := Lib.hid (rOut_new p i k HSt.out HRe.out)
                  have HWo : Hid (wordE i k = fmB i ++ [45] ++ fmB k) := by show _ = _; unfold wordE; rw [if_neg hki]
                  have HFk := Lib.hid (fun w => rfmt_any (k : Int) w (by unfold fits; omega))
                  have hzk := fmtS_size (k : Int) (by unfold fits; omega)
                  obtain ⟨FK, hFK⟩ : ∃ FK, fmtS (k : Int) = FK := ⟨_, rfl⟩
                  rw [hFK] at HFk hzk
                  have HFK := Lib.hid hFK
                  have izk : (FK.size : Int) ≤ 40 := by omega
                  clear hFK
                  go_wp2_with (first
                    | (go_at_call 30
                       with_reducible refine (HFi.out _).mono ?_
                       rintro e w6 ⟨rfl, hb⟩
                       have HB6 := Lib.hid (HZ.out.2.trans (hb.mono HZ.out.2.size))
                       clear hb)
                    | (go_at_call 30
                       with_reducible refine (HFk.out _).mono ?_
                       rintro e w7 ⟨rfl, hb⟩
                       have HB7 := Lib.hid (HB6.out.trans (hb.mono HB6.out.size))
                       clear hb))
                  go_roundw
                  case rel =>
                    refine ⟨i + 1, _, by omega, rfl, by go_num, ?_, HB7.out⟩
                    rw [HN.out, mk_app, ← HR.out.1, HWo.out]
                    apply ByteArray.ext
                    apply Array.ext'
                    rw [← HFI.out, ← HFK.out]
                    simp [mk, fmB, ByteArray.data_append]
                  case measure => simp [intOf]; omega
    · have hi2 : i = 256 := by omega
      have kn : ¬ ((i : Int) < 256) := by omega
      have HR2 := HR.out
      rw [hi2] at HR2
      have HD := Lib.hid HR2
      clear hi2 hi hin HR
      go_wp2
      go_ret
      obtain rfl : O = _ := HD.out.1
      exact ⟨rfl, HBs.out.trans (HD.out.2.mono HBs.out.size)⟩
end Go.Proofs.YtblaldcioneooaaGreatDoor
