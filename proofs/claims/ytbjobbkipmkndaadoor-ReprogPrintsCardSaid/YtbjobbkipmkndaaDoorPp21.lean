/- NumFormatB, LtRfm, CsOf, CsRef, CsList. -/
import Derived.Test.YtbjobbkipmkndaaDoorPp20
import Derived.Test.YtbjobbkipmkndaaDoorRows
import Derived.Test.YtbjobbkipmkndaaDoorPp9
import Derived.StillTailTactics
namespace Go.Proofs.YtbjobbkipmkndaaDoor
open Go.RowKit
def fmtS (n : Int) : ByteArray := if n < 0 then ⟨#[45]⟩ ++ ⟨(txt n.natAbs (cnt n.natAbs)).toArray⟩ else ⟨(txt n.natAbs (cnt n.natAbs)).toArray⟩
theorem u64_neg (m : Nat) (h : m ≤ 9223372036854775808) : IntKind.u64.wrap (-IntKind.u64.wrap (-(m : Int))) = m := by
  rw [IntKind.wrap_u64, IntKind.wrap_u64]; omega
theorem txt_size (m : Nat) (h : m ≤ 9223372036854775808) : (⟨(txt m (cnt m)).toArray⟩ : ByteArray).size ≤ 20 := by
  have h1 : (⟨(txt m (cnt m)).toArray⟩ : ByteArray).size = cnt m := txt_len m (cnt m)
  have h2 := cnt_le 18 m (by omega)
  omega
set_option maxHeartbeats 400000 in
theorem fmt_any (n : Int) (w : World) (hf : fits n) :
    Calls Tryd.prog 23 #[.int .i64 n] w fun e w' => e = .returned (.string (fmtS n)) ∧ Below w.heap.size w w' := by
  obtain ⟨h1, h2⟩ := hf
  unfold fmtS
  have HF : Hid (∀ w, Calls Tryd.prog 34 #[.int .u64 (n.natAbs : Int)] w fun e w' => e = .returned (.string ⟨(txt n.natAbs (cnt n.natAbs)).toArray⟩) ∧ Below w.heap.size w w') := fun w => fm_any n.natAbs w (by omega)
  by_cases hn : n < 0
  · rw [if_pos hn]
    obtain ⟨m, rfl⟩ : ∃ m : Nat, n = -(m : Int) := ⟨n.natAbs, by omega⟩
    rw [Int.natAbs_neg, Int.natAbs_natCast] at HF ⊢
    have hc := u64_neg m (by omega)
    have hts : (⟨(txt m (cnt m)).toArray⟩ : ByteArray).size ≤ 20 := txt_size m (by omega)
    generalize (⟨(txt m (cnt m)).toArray⟩ : ByteArray) = t at *
    clear h1 h2
    go_enter Tryd.func23, Tryd.ntmps23
    go_wp2_with (go_at_call 34; refine (HF.out _).mono ?_; rintro e w' ⟨rfl, hb⟩)
    go_ret
    exact ⟨rfl, hb⟩
  · rw [if_neg hn]
    obtain ⟨m, rfl⟩ : ∃ m : Nat, n = (m : Int) := ⟨n.natAbs, by omega⟩
    rw [Int.natAbs_natCast] at HF ⊢
    generalize (⟨(txt m (cnt m)).toArray⟩ : ByteArray) = t at *
    clear h1
    go_enter Tryd.func23, Tryd.ntmps23
    go_wp2_with (go_at_call 34; refine (HF.out _).mono ?_; rintro e w' ⟨rfl, hb⟩)
    go_ret
    exact ⟨rfl, hb⟩
theorem conv_one (w : World) (d : Nat) (hd : d < 10) :
    (convert 54 9 (.slice (some ⟨w.heap.size, 0, none⟩) 1 1)).run Tryd.prog (w.alloc (.cells #[.int .u8 (48 + (d : Int))] 5)) = .ok (.string ⟨#[UInt8.ofNat (48 + d)]⟩) (w.alloc (.cells #[.int .u8 (48 + (d : Int))] 5)) :=
  run_convert_bytes_back (P := Tryd.prog) _ 54 9 5 ⟨w.heap.size, 0, none⟩ 1 [UInt8.ofNat (48 + d)] Tryd.underlying54 Tryd.underlying5 Tryd.underlying9 (fun j hj => by
    have : j = 0 := by simpa using hj
    subst this
    have hb := byte_toNat d hd
    show (w.alloc (.cells #[.int .u8 (48 + (d : Int))] 5)).cell? ⟨w.heap.size, 0, none⟩ = _
    rw [World.cell?_alloc_mark]
    show some (Value.int .u8 (48 + (d : Int))) = some (.int .u8 ((UInt8.ofNat (48 + d)).toNat : Int))
    rw [hb]; rfl)
theorem ret_str {a b : ByteArray} (h : a = b) : Ending.returned (.string a) = .returned (.string b) := by rw [h]
theorem txt_push (m k : Nat) : (⟨#[UInt8.ofNat (48 + m / 10 ^ k % 10)]⟩ : ByteArray) ++ ⟨(txt m k).toArray⟩ = ⟨(txt m (k + 1)).toArray⟩ := by
  rw [txt_succ]
  apply ByteArray.ext
  simp
end Go.Proofs.YtbjobbkipmkndaaDoor
set_option linter.unusedVariables false
set_option maxRecDepth 100000
namespace Go.Proofs.YtbjobbkipmkndaaDoor
open Go.RowKit
def left (q : Nat) : Nat := if q = 0 then 0 else cnt q
theorem left_step (q : Nat) (h : q ≠ 0) : left q = left (q / 10) + 1 := by
  unfold left
  rw [if_neg h]
  by_cases hs : q < 10
  · rw [cnt_small q hs, if_pos (by omega)]
  · rw [cnt_big q hs, if_neg (by omega)]
set_option maxHeartbeats 1000000 in
theorem rfmt_neg (m : Nat) (w : World) (h0 : 0 < m) (h1 : m ≤ 9223372036854775808) :
    Calls Tryd.prog 24 #[.int .i64 (-(m : Int))] w fun e w' => e = .returned (.string (⟨#[45]⟩ ++ ⟨(txt m (cnt m)).toArray⟩)) ∧ Below w.heap.size w w' := by
  have z0 : ((-(m : Int)) == 0) = false := by simp; omega
  obtain ⟨i0, hi, hz0, hz1, hz2⟩ := info_parts Tryd.info5
  have HZ := Lib.hid h0
  have hs : -(m : Int) < 0 := by omega
  clear h0
  go_enter Tryd.func24, Tryd.ntmps24
  go_wp2
  go_loopw [3, 4] (fun s v wr => ∃ k q : Nat, v = .int .i64 (-(q : Int)) ∧ q ≤ 9223372036854775808 ∧ Hid (m / 10 ^ k = q) ∧ Hid (k + left q = cnt m) ∧ s = .string ⟨(txt m k).toArray⟩ ∧ Below w.heap.size w wr)
    (fun _ v _ => (intOf v).natAbs)
  case atStart => exact ⟨0, m, rfl, h1, by simp [Hid], by simp [Hid, left, Nat.ne_of_gt HZ.out], rfl, Below.refl _ _⟩
  case round =>
    obtain ⟨k, q, rfl, hq, g1, g2, rfl, hb⟩ := hrel
    by_cases hz : 0 < q
    · have z1 : ((-(q : Int)) != 0) = true := by simp; omega
      have HP : Hid ((⟨#[UInt8.ofNat (48 + q % 10)]⟩ : ByteArray) ++ ⟨(txt m k).toArray⟩ = ⟨(txt m (k + 1)).toArray⟩) := by
        have := txt_push m k
        rw [g1.out] at this; exact this
      have g3 : Hid (m / 10 ^ (k + 1) = q / 10) := by
        show m / 10 ^ (k + 1) = q / 10
        rw [div_step, g1.out]
      have g4 : Hid (k + 1 + left (q / 10) = cnt m) := by
        have := g2.out
        rw [left_step q (by omega)] at this
        show k + 1 + left (q / 10) = cnt m
        omega
      have hts : (⟨(txt m k).toArray⟩ : ByteArray).size ≤ 20 := by
        have e1 : (⟨(txt m k).toArray⟩ : ByteArray).size = k := txt_len m k
        have e2 := cnt_le 18 m (by omega)
        have e3 := g4.out
        omega
      generalize (⟨(txt m k).toArray⟩ : ByteArray) = t at *
      have hb1 : Below w.heap.size w (wr.alloc (.cells #[.int .u8 (48 + ((q % 10 : Nat) : Int))] 5)) := hb.alloc hb.size _
      have hcv := conv_one wr (q % 10) (by omega)
      have t2 : (-(q : Int)).tdiv 10 = -((q / 10 : Nat) : Int) := by
        rw [Int.neg_tdiv, Int.tdiv_eq_ediv_of_nonneg (by omega)]; rfl
      have e : ((q % 10 : Nat) : Int) = (q : Int) % 10 := by omega
      rw [e] at hcv hb1
      clear g1 g2
      by_cases hr : (q : Int) % 10 = 0
      · have t1 : (-(q : Int)).tmod 10 = 0 := by rw [Int.neg_tmod, Int.tmod_eq_emod_of_nonneg (by omega)]; omega
        rw [hr, Int.add_zero] at hcv hb1
        clear e hb
        have HR := Lib.hid hr
        clear hr
        go_wp2
        go_roundw
        case rel => exact ⟨k + 1, q / 10, rfl, by omega, g3, g4, by rw [← HP.out, UInt8.ofNat_add]; rfl, hb1⟩
        case measure => simp [intOf]; omega
      · have t1 : (-(q : Int)).tmod 10 = -((q : Int) % 10) := by rw [Int.neg_tmod, Int.tmod_eq_emod_of_nonneg (by omega)]
        have hr1 : 0 < (q : Int) % 10 := by omega
        clear e hb hr
        go_wp2
        go_roundw
        case rel => exact ⟨k + 1, q / 10, rfl, by omega, g3, g4, by rw [← HP.out, UInt8.ofNat_add]; rfl, hb1⟩
        case measure => simp [intOf]; omega
    · obtain rfl : q = 0 := by omega
      have g5 : Hid (k = cnt m) := by
        have := g2.out
        show k = cnt m
        simpa [left] using this
      have hts : (⟨(txt m k).toArray⟩ : ByteArray).size ≤ 20 := by
        rw [g5.out]; exact txt_size m (by omega)
      have HT : Hid ((⟨(txt m k).toArray⟩ : ByteArray) = ⟨(txt m (cnt m)).toArray⟩) := by
        show (⟨(txt m k).toArray⟩ : ByteArray) = _
        rw [← g5.out]
      generalize (⟨(txt m k).toArray⟩ : ByteArray) = t at *
      clear g1 g2 hz g5
      go_wp2
      go_ret
      exact ⟨ret_str (by rw [HT.out]), hb⟩
set_option maxHeartbeats 1000000 in
theorem rfmt_pos (m : Nat) (w : World) (h0 : 0 < m) (h1 : m ≤ 9223372036854775807) :
    Calls Tryd.prog 24 #[.int .i64 (m : Int)] w fun e w' => e = .returned (.string (⟨(txt m (cnt m)).toArray⟩)) ∧ Below w.heap.size w w' := by
  have z0 : ((m : Int) == 0) = false := by simp; omega
  obtain ⟨i0, hi, hz0, hz1, hz2⟩ := info_parts Tryd.info5
  have HZ := Lib.hid h0
  have hs : ¬ (m : Int) < 0 := by omega
  clear h0
  go_enter Tryd.func24, Tryd.ntmps24
  go_wp2
  go_loopw [3, 4] (fun s v wr => ∃ k q : Nat, v = .int .i64 (q : Int) ∧ q ≤ 9223372036854775807 ∧ Hid (m / 10 ^ k = q) ∧ Hid (k + left q = cnt m) ∧ s = .string ⟨(txt m k).toArray⟩ ∧ Below w.heap.size w wr)
    (fun _ v _ => (intOf v).natAbs)
  case atStart => exact ⟨0, m, rfl, h1, by simp [Hid], by simp [Hid, left, Nat.ne_of_gt HZ.out], rfl, Below.refl _ _⟩
  case round =>
    obtain ⟨k, q, rfl, hq, g1, g2, rfl, hb⟩ := hrel
    by_cases hz : 0 < q
    · have z1 : ((q : Int) != 0) = true := by simp; omega
      have HP : Hid ((⟨#[UInt8.ofNat (48 + q % 10)]⟩ : ByteArray) ++ ⟨(txt m k).toArray⟩ = ⟨(txt m (k + 1)).toArray⟩) := by
        have := txt_push m k
        rw [g1.out] at this; exact this
      have g3 : Hid (m / 10 ^ (k + 1) = q / 10) := by
        show m / 10 ^ (k + 1) = q / 10
        rw [div_step, g1.out]
      have g4 : Hid (k + 1 + left (q / 10) = cnt m) := by
        have := g2.out
        rw [left_step q (by omega)] at this
        show k + 1 + left (q / 10) = cnt m
        omega
      have hts : (⟨(txt m k).toArray⟩ : ByteArray).size ≤ 20 := by
        have e1 : (⟨(txt m k).toArray⟩ : ByteArray).size = k := txt_len m k
        have e2 := cnt_le 18 m (by omega)
        have e3 := g4.out
        omega
      generalize (⟨(txt m k).toArray⟩ : ByteArray) = t at *
      have hb1 : Below w.heap.size w (wr.alloc (.cells #[.int .u8 (48 + ((q % 10 : Nat) : Int))] 5)) := hb.alloc hb.size _
      have hcv := conv_one wr (q % 10) (by omega)
      have e : ((q % 10 : Nat) : Int) = (q : Int) % 10 := by omega
      rw [e] at hcv hb1
      clear g1 g2
      · clear e hb
        go_wp2
        go_roundw
        case rel => exact ⟨k + 1, q / 10, by simp, by omega, g3, g4, by rw [← HP.out, UInt8.ofNat_add]; rfl, hb1⟩
        case measure => simp [intOf]; omega
    · obtain rfl : q = 0 := by omega
      have g5 : Hid (k = cnt m) := by
        have := g2.out
        show k = cnt m
        simpa [left] using this
      have hts : (⟨(txt m k).toArray⟩ : ByteArray).size ≤ 20 := by
        rw [g5.out]; exact txt_size m (by omega)
      have HT : Hid ((⟨(txt m k).toArray⟩ : ByteArray) = ⟨(txt m (cnt m)).toArray⟩) := by
        show (⟨(txt m k).toArray⟩ : ByteArray) = _
        rw [← g5.out]
      generalize (⟨(txt m k).toArray⟩ : ByteArray) = t at *
      clear g1 g2 hz g5
      go_wp2
      go_ret
      exact ⟨ret_str (by rw [HT.out]), hb⟩
theorem rfmt_zero (w : World) :
    Calls Tryd.prog 24 #[.int .i64 0] w fun e w' => e = .returned (.string (fmtS 0)) ∧ Below w.heap.size w w' := by
  have h : fmtS 0 = ⟨#[48]⟩ := by
    unfold fmtS
    rw [if_neg (by decide), Int.natAbs_zero, cnt_small 0 (by decide)]
    rfl
  rw [h]
  clear h
  go_enter Tryd.func24, Tryd.ntmps24
  go_wp2
  go_ret
  exact ⟨rfl, Below.refl _ _⟩
theorem rfmt_any (n : Int) (w : World) (hf : fits n) :
    Calls Tryd.prog 24 #[.int .i64 n] w fun e w' => e = .returned (.string (fmtS n)) ∧ Below w.heap.size w w' := by
  obtain ⟨h1, h2⟩ := hf
  by_cases h0 : n = 0
  · subst h0; exact rfmt_zero w
  · by_cases hn : n < 0
    · have := rfmt_neg n.natAbs w (by omega) (by omega)
      have e : -(n.natAbs : Int) = n := by omega
      rw [e] at this
      unfold fmtS
      rw [if_pos hn]; exact this
    · have := rfmt_pos n.natAbs w (by omega) (by omega)
      have e : (n.natAbs : Int) = n := by omega
      rw [e] at this
      unfold fmtS
      rw [if_neg hn]; exact this
end Go.Proofs.YtbjobbkipmkndaaDoor
set_option linter.unusedVariables false
namespace Go.Proofs.YtbjobbkipmkndaaDoor
open Go.RowKit
def setOf (l : List UInt8) : Nat → Bool := fun c => l.any fun b => c == b.toNat
theorem setOf_next (l : List UInt8) (k : Nat) (h : k < l.length) : setOf (l.take (k + 1)) = ins (setOf (l.take k)) (l[k]).toNat := by
  funext c
  unfold setOf ins
  rw [List.take_add_one, List.getElem?_eq_getElem h, List.any_append]
  simp
def V2 (w : World) : World := (w.alloc (.cells #[.int .u64 0, .int .u64 0, .int .u64 0, .int .u64 0] 31)).alloc (.cells #[.int .u64 0, .int .u64 0, .int .u64 0, .int .u64 0] 31)
theorem V2_below (w : World) : Below w.heap.size w (V2 w) := ((Below.refl _ _).alloc (Nat.le_refl _) _).alloc (by simp) _
theorem V2_at (w : World) : At (V2 w) w.heap.size (fun _ => false) ∧ At (V2 w) (w.heap.size + 1) (fun _ => false) := by
  unfold V2
  rw [cl_zero]
  refine ⟨(At.new w _).alloc _, ?_⟩
  have := At.new (w.alloc (.cells (cl fun _ => false) 31)) (fun _ => false)
  simpa using this
end Go.Proofs.YtbjobbkipmkndaaDoor
set_option linter.unusedVariables false
namespace Go.Proofs.YtbjobbkipmkndaaDoor
open Go.RowKit
set_option maxHeartbeats 4000000 in
theorem rof_any (s : ByteArray) (hs : s.size ≤ 300) (w : World) : Calls Tryd.prog 36 #[.string s] w fun e w' => e = .returned (cs (setOf s.data.toList)) ∧ Below w.heap.size w w' := by
  have HV := Lib.hid (V2_at w)
  have HB := Lib.hid (V2_below w)
  unfold cs cl
  have hS : (s.size : Int) ≤ 300 := by omega
  go_enter Tryd.func36, Tryd.ntmps36
  go_wp2
  go_loopw [4] (fun i wr => ∃ k : Nat, k ≤ s.size ∧ i = .int .i64 k ∧ Hid (Below w.heap.size w wr ∧ At wr w.heap.size (fun _ => false) ∧ At wr (w.heap.size + 1) (setOf (s.data.toList.take k)))) (fun i _ => s.size - (intOf i).toNat)
  case atStart => exact ⟨0, Nat.zero_le _, rfl, HB.out, HV.out.1, HV.out.2⟩
  case round =>
    obtain ⟨k, hk, rfl, HR⟩ := hrel
    by_cases hlt : k < s.size
    · have hi : (k : Int) < s.size := by omega
      obtain ⟨c, hsc⟩ : ∃ c, s[k].toNat = c := ⟨_, rfl⟩
      have hc : c < 256 := by rw [← hsc]; exact s[k].toNat_lt
      have HN0 := setOf_next s.data.toList k (by simpa using hlt)
      have e : (s.data.toList[k]'(by simpa using hlt)).toNat = c := hsc
      rw [e] at HN0
      have Hw := Lib.hid (with_any (setOf (s.data.toList.take k)) c hc)
      rw [← HN0] at Hw
      clear HN0 e
      unfold cs cl at Hw
      obtain ⟨b0, a3, a4⟩ := HR.out
      obtain ⟨⟨c0, c1⟩, ⟨c2, c3⟩, hf⟩ := a4.words
      clear b0 a3 a4
      go_wp2
      go_region_with ((go_at_call 46; refine (Hw.out _).mono ?_; rintro e w1 ⟨rfl, hb⟩; have a4 := HR.out.2.2.drew.below hb HR.out.2.2.lt; obtain ⟨⟨d0, d1⟩, ⟨d2, d3⟩, hg⟩ := a4.words; have HY := Lib.hid (And.intro (HR.out.1.drew.trans (hb.mono HR.out.1.size)) (And.intro (HR.out.2.1.drew.below hb HR.out.2.1.lt) a4)); clear a4 hb))
      all_goals
        go_wp2
        go_roundw
        case rel => exact ⟨k + 1, by omega, by go_num, below_put4 HY.out.1 _ (by simp) _, HY.out.2.1.put4_other (by omega) _, HY.out.2.2.put4 _⟩
        case measure => simp [intOf]; omega
    · obtain rfl : k = s.size := by omega
      obtain ⟨b0, a3, a4⟩ := HR.out
      rw [List.take_of_length_le (by simp)] at a4
      have HA := Lib.hid a3
      obtain ⟨⟨c0, c1⟩, ⟨c2, c3⟩, hf⟩ := a4.words
      obtain ⟨⟨d0, d1⟩, ⟨d2, d3⟩, hg⟩ := a3.words
      clear b0 a3 a4
      go_wp2
      exact bodyPost_ret (v := cs (setOf s.data.toList)) (ret_cs (q := setOf s.data.toList) Tryd.results36 _ _ w.heap.size (by simp) (HA.out.put4 _)) rfl ⟨rfl, below_put4 HR.out.1 _ (by omega) _⟩
end Go.Proofs.YtbjobbkipmkndaaDoor
set_option linter.unusedVariables false
namespace Go.Proofs.YtbjobbkipmkndaaDoor
open Go.RowKit
theorem index_cl (p : Nat → Bool) (k : Nat) (hk : k < 4) (w : World) : (Instr.index 29 (.agg #[.int .u64 (wd p 0 64 : Nat), .int .u64 (wd p 64 64 : Nat), .int .u64 (wd p 128 64 : Nat), .int .u64 (wd p 192 64 : Nat)]) (.int .i64 (k : Int))).run Tryd.prog w = .ok (.int .u64 ((wd p (64 * k) 64 : Nat) : Int)) w := by
  have h4 : k = 0 ∨ k = 1 ∨ k = 2 ∨ k = 3 := by omega
  rcases h4 with rfl | rfl | rfl | rfl
  all_goals (refine Eq.trans ?_ rfl; kernel_rfl)
def rowOf (l : List Nat) : Array Value := (l.map (fun n => Value.int .u8 ((n : Nat) : Int)) ++ List.replicate (256 - l.length) (Value.int .u8 0)).toArray
theorem rowOf_nil : rowOf [] = Array.replicate 256 (.int .u8 0) := by
  unfold rowOf
  rw [List.map_nil, List.nil_append, List.length_nil, Nat.sub_zero, List.toArray_replicate]
theorem rowOf_at (l : List Nat) (h : l.length < 256) : (rowOf l)[l.length]? = some (.int .u8 0) := by
  unfold rowOf
  rw [List.getElem?_toArray, List.getElem?_append_right (by simp), List.getElem?_replicate, if_pos (by simp; omega)]
theorem rowOf_set (l : List Nat) (x : Nat) (h : l.length < 256) : (rowOf l).setIfInBounds l.length (.int .u8 ((x : Nat) : Int)) = rowOf (l ++ [x]) := by
  unfold rowOf
  obtain ⟨m, hm⟩ : ∃ m, 256 - l.length = m + 1 := ⟨256 - l.length - 1, by omega⟩
  have hm2 : 256 - (l ++ [x]).length = m := by simp; omega
  rw [hm, hm2, List.setIfInBounds_toArray, List.set_append_right _ _ (by simp)]
  simp [List.replicate_succ]
theorem rowOf_get (l : List Nat) (j : Nat) (h : j < l.length) : (rowOf l)[j]? = some (.int .u8 ((l[j] : Nat) : Int)) := by
  unfold rowOf
  rw [List.getElem?_toArray, List.getElem?_append_left (by simpa using h)]
  simp [h]
def bl (l : List Nat) : List UInt8 := l.map UInt8.ofNat
theorem bl_length (l : List Nat) : (bl l).length = l.length := by simp [bl]
theorem el_lt (p : Nat → Bool) (n x : Nat) (h : x ∈ el p n) : x < n := ((mem_el p n x).1 h).1
theorem tab_keep {w w' : World} (h : tabAt w) (hb : Below w.heap.size w w') : tabAt w' := fun j hj => keep_words hb (h j hj)
def rest (p : Nat → Bool) (b j x : Nat) : Prop := x < 2 ^ 64 ∧ ∀ m, m < 64 → x.testBit m = (decide (j ≤ m) && p (b + m))
theorem rest_start (p : Nat → Bool) (b : Nat) : rest p b 0 (wd p b 64) := ⟨wd_lt p b 64, fun m hm => by rw [wd_bit]; simp [hm]⟩
theorem rest_end (p : Nat → Bool) (b j : Nat) (hj : j ≤ 64) (h : rest p b j 0) : el p (b + 64) = el p (b + j) := by
  rw [show b + 64 = b + j + (64 - j) by omega]
  apply el_none
  intro k h1 h2
  have := h.2 (k - b) (by omega)
  rw [Nat.zero_testBit] at this
  have e1 : j ≤ k - b := by omega
  have e2 : b + (k - b) = k := by omega
  rw [e2] at this
  simpa [e1] using this.symm
theorem rest_next (p : Nat → Bool) (b j x : Nat) (h0 : x ≠ 0) (h : rest p b j x) : Lib.ctz 64 x < 64 ∧ j ≤ Lib.ctz 64 x ∧ el p (b + (Lib.ctz 64 x + 1)) = el p (b + j) ++ [b + Lib.ctz 64 x] ∧ rest p b (Lib.ctz 64 x + 1) (x &&& (x - 1)) := by
  obtain ⟨ht, hb, hz, ha⟩ := ctz_bit x h0 h.1
  generalize Lib.ctz 64 x = t at *
  have h1 := h.2 t ht
  rw [hb] at h1
  simp at h1
  obtain ⟨h2, h3⟩ := h1
  refine ⟨ht, h2, ?_, Nat.lt_of_le_of_lt Nat.and_le_left h.1, ?_⟩
  · rw [← Nat.add_assoc, el_succ, h3, if_pos rfl]
    congr 1
    rw [show b + t = b + j + (t - j) by omega]
    apply el_none
    intro k k1 k2
    have := h.2 (k - b) (by omega)
    rw [hz (k - b) (by omega)] at this
    have e1 : j ≤ k - b := by omega
    have e2 : b + (k - b) = k := by omega
    rw [e2] at this
    simpa [e1] using this.symm
  · intro m hm
    rw [ha, h.2 m hm]
    by_cases c1 : m = t
    · subst c1
      have : ¬ m + 1 ≤ m := by omega
      simp [this]
    · by_cases c2 : m < t
      · have e := h.2 m hm
        rw [hz m c2] at e
        have : ¬ t + 1 ≤ m := by omega
        rw [← e]
        simp [this]
      · have k1 : t + 1 ≤ m := by omega
        have k2 : j ≤ m := by omega
        simp [c1, k1, k2]
def WL (w : World) (p : Nat → Bool) (l : List Nat) : World := (w.alloc (.cells (cl p) 31)).alloc (.cells (rowOf l) 94)
theorem WL_below (w : World) (p : Nat → Bool) (l : List Nat) : Below w.heap.size w (WL w p l) := ((Below.refl _ _).alloc (Nat.le_refl _) _).alloc (by simp) _
set_option maxRecDepth 100000 in
set_option maxHeartbeats 4000000 in
theorem list_any (p : Nat → Bool) (w : World) (hT : tabAt w) : Calls Tryd.prog 43 #[cs p] w fun e w' => e = .returned (.string ⟨(bl (el p 256)).toArray⟩) ∧ Below w.heap.size w w' := by
  have HT := Lib.hid hT
  clear hT
  have HB := Lib.hid (WL_below w p)
  unfold cs cl at *
  have hv : ∀ w : World, (zeroValue 94).run Tryd.prog w = .ok (.agg (Array.replicate 256 (.int .u8 0))) w := fun _ => by kernel_rfl
  go_enter Tryd.func43, Tryd.ntmps43
  go_wp2
  rw [← rowOf_nil]
  go_loopw [4, 9] (fun c i wr => ∃ k : Nat, k ≤ 4 ∧ i = .int .i64 k ∧ c = .int .i64 ((el p (64 * k)).length : Nat) ∧ wr = (w.alloc (.cells #[.int .u64 (wd p 0 64 : Nat), .int .u64 (wd p 64 64 : Nat), .int .u64 (wd p 128 64 : Nat), .int .u64 (wd p 192 64 : Nat)] 31)).alloc (.cells (rowOf (el p (64 * k))) 94)) (fun _ i _ => 4 - (intOf i).toNat)
  case atStart => exact ⟨0, Nat.zero_le _, rfl, rfl, rfl⟩
  case round =>
    obtain ⟨k, hk, rfl, rfl, rfl⟩ := hrel
    by_cases hlt : k < 4
    · have hi : (k : Int) < 4 := by omega
      have ik := index_cl p k hlt
      have HR0 := Lib.hid (rest_start p (64 * k))
      go_wp2
      go_loopw [4, 6] (fun c x wr => ∃ j X : Nat, j ≤ 64 ∧ x = .int .u64 (X : Nat) ∧ Hid (rest p (64 * k) j X) ∧ c = .int .i64 ((el p (64 * k + j)).length : Nat) ∧ wr = (w.alloc (.cells #[.int .u64 (wd p 0 64 : Nat), .int .u64 (wd p 64 64 : Nat), .int .u64 (wd p 128 64 : Nat), .int .u64 (wd p 192 64 : Nat)] 31)).alloc (.cells (rowOf (el p (64 * k + j))) 94)) (fun _ x _ => (intOf x).toNat)
      case atStart => exact ⟨0, _, Nat.zero_le _, rfl, HR0.out, rfl, rfl⟩
      case round =>
        obtain ⟨j, X, hj, rfl, HX, rfl, rfl⟩ := hrel
        by_cases hx : X = 0
        · subst hx
          have HX2 := Lib.hid (rest_end p (64 * k) j hj HX.out)
          go_wp2
          go_roundw
          case rel => exact ⟨k + 1, by omega, by go_num, by rw [show 64 * (k + 1) = 64 * k + 64 by omega, HX2.out], by rw [show 64 * (k + 1) = 64 * k + 64 by omega, HX2.out]⟩
          case measure => simp [intOf]; omega
        · have hX64 : X < 18446744073709551616 := HX.out.1
          obtain ⟨ht, hjt, hel, hre⟩ := rest_next p (64 * k) j X hx HX.out
          have Htz := Lib.hid (fun w' (h : tabAt w') => tz_any X hX64 hx w' h)
          obtain ⟨t, hte⟩ : ∃ t, t = Lib.ctz 64 X := ⟨_, rfl⟩
          rw [← hte] at ht hjt hel hre Htz
          have hle := el_length_le p (64 * k + j)
          have hlen : (el p (64 * k + j)).length < 256 := by omega
          obtain ⟨E, hE⟩ : ∃ E, E = el p (64 * k + j) := ⟨_, rfl⟩
          rw [← hE] at hlen hel ⊢
          have HEl := Lib.hid hel
          have HRe := Lib.hid hre
          have hne : ((X : Int) == 0) = false := by simp; omega
          have hne1 : ((X : Int) != 0) = true := by simp; omega
          obtain ⟨Y, hY⟩ : ∃ Y, X - 1 = Y := ⟨_, rfl⟩
          obtain ⟨Z, hZ⟩ : ∃ Z, X &&& (X - 1) = Z := ⟨_, rfl⟩
          have hsub : IntKind.u64.wrap ((X : Int) - 1) = (Y : Int) := by rw [IntKind.wrap_u64]; omega
          have hand : bits BinOp.and IntKind.u64 (X : Int) (Y : Int) = (Z : Int) := by rw [← hZ, hY]; exact and64 X Y hX64 (by omega)
          have hby : IntKind.u8.wrap ((k : Int) * 64 + (t : Int)) = ((64 * k + t : Nat) : Int) := by rw [IntWalk.u8_in _ (by omega)]; omega
          have hat := rowOf_at E hlen
          have hset := rowOf_set E (64 * k + t) hlen
          have Hless : Hid (Z < X) := by rw [← hZ]; exact Nat.lt_of_le_of_lt Nat.and_le_right (by omega)
          rw [hZ] at HRe
          obtain ⟨G, hG⟩ : ∃ G, G = 64 * k + t := ⟨_, rfl⟩
          rw [← hG] at hby hset HEl
          have HG := Lib.hid hG
          obtain ⟨n, hn⟩ : ∃ n, E.length = n := ⟨_, rfl⟩
          rw [hn] at hat hset hlen ⊢
          have HN := Lib.hid hn
          have hn0 : (0 : Int) ≤ (n : Int) := by omega
          have hlt2 : (n : Int) < 256 := by omega
          clear hn
          clear hel hre hE hte hY hZ hle hG hX64
          go_wp2_with (first | (go_at_call 54; refine (Htz.out _ (by exact tab_keep HT.out (HB.out E))).mono ?_; rintro e w1 ⟨rfl, rfl⟩))
          go_roundw
          case rel => exact ⟨t + 1, Z, by omega, rfl, HRe.out, by rw [HEl.out, List.length_append, HN.out]; simp, by rw [HEl.out]⟩
          case measure => simp [intOf]; exact Hless.out
    · obtain rfl : k = 4 := by omega
      have ha : Tryd.prog.arrayLen 94 = 256 := by kernel_rfl
      have hle := el_length_le p 256
      have hle2 : (((el p 256).length : Nat) : Int) ≤ 256 := by omega
      have hcv : (convert 54 9 (.slice (some ⟨w.heap.size + 1, 0, none⟩) (el p 256).length 256)).run Tryd.prog (WL w p (el p 256)) = .ok (.string ⟨(bl (el p 256)).toArray⟩) (WL w p (el p 256)) := by
        have := run_convert_bytes_back (P := Tryd.prog) (WL w p (el p 256)) 54 9 5 ⟨w.heap.size + 1, 0, none⟩ 256 (bl (el p 256)) Tryd.underlying54 Tryd.underlying5 Tryd.underlying9 (fun j hj => by
          rw [bl_length] at hj
          have e0 : ((⟨w.heap.size + 1, 0, none⟩ : Addr).add j) = ⟨w.heap.size + 1, j, none⟩ := by unfold Addr.add; split <;> simp_all
          have e1 : (WL w p (el p 256)).heap[w.heap.size + 1]? = some (.cells (rowOf (el p 256)) 94 (0, 0)) := heap_alloc2_new w _ _
          rw [e0, cell_of_row _ _ j _ _ _ e1, rowOf_get _ j hj]
          have e2 := el_lt p 256 _ (List.getElem_mem hj)
          simp [bl]
          omega)
        rw [bl_length] at this
        exact this
      unfold WL cl at hcv
      clear hle
      go_wp2
      go_ret
      exact ⟨rfl, HB.out (el p 256)⟩
end Go.Proofs.YtbjobbkipmkndaaDoor
