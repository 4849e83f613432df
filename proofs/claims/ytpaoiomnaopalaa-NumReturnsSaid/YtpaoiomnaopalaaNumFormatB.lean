/- Writing an int: the program's Format and the reference's are one text. -/
import Derived.Test.YtpaoiomnaopalaaNumFormat
namespace Go.Proofs.Ytpaoiomnaopalaa
open Go.RowKit

/-- The decimal text of an int. -/
def fmtS (n : Int) : ByteArray := if n < 0 then ⟨#[45]⟩ ++ ⟨(txt n.natAbs (cnt n.natAbs)).toArray⟩ else ⟨(txt n.natAbs (cnt n.natAbs)).toArray⟩

theorem u64_neg (m : Nat) (h : m ≤ 9223372036854775808) : IntKind.u64.wrap (-IntKind.u64.wrap (-(m : Int))) = m := by
  rw [IntKind.wrap_u64, IntKind.wrap_u64]; omega

theorem txt_size (m : Nat) (h : m ≤ 9223372036854775808) : (⟨(txt m (cnt m)).toArray⟩ : ByteArray).size ≤ 20 := by
  have h1 : (⟨(txt m (cnt m)).toArray⟩ : ByteArray).size = cnt m := txt_len m (cnt m)
  have h2 := cnt_le 18 m (by omega)
  omega

set_option maxHeartbeats 400000 in
theorem fmt_any (n : Int) (w : World) (hf : fits n) :
    Calls Try.prog 18 #[.int .i64 n] w fun e w' => e = .returned (.string (fmtS n)) ∧ Below w.heap.size w w' := by
  obtain ⟨h1, h2⟩ := hf
  unfold fmtS
  have HF : Hid (∀ w, Calls Try.prog 25 #[.int .u64 (n.natAbs : Int)] w fun e w' => e = .returned (.string ⟨(txt n.natAbs (cnt n.natAbs)).toArray⟩) ∧ Below w.heap.size w w') := fun w => fm_any n.natAbs w (by omega)
  by_cases hn : n < 0
  · rw [if_pos hn]
    obtain ⟨m, rfl⟩ : ∃ m : Nat, n = -(m : Int) := ⟨n.natAbs, by omega⟩
    rw [Int.natAbs_neg, Int.natAbs_natCast] at HF ⊢
    have hc := u64_neg m (by omega)
    have hts : (⟨(txt m (cnt m)).toArray⟩ : ByteArray).size ≤ 20 := txt_size m (by omega)
    generalize (⟨(txt m (cnt m)).toArray⟩ : ByteArray) = t at *
    clear h1 h2
    go_enter Try.func18, Try.ntmps18
    go_wp2_with (go_at_call 25; refine (HF.out _).mono ?_; rintro e w' ⟨rfl, hb⟩)
    go_ret
    exact ⟨rfl, hb⟩
  · rw [if_neg hn]
    obtain ⟨m, rfl⟩ : ∃ m : Nat, n = (m : Int) := ⟨n.natAbs, by omega⟩
    rw [Int.natAbs_natCast] at HF ⊢
    generalize (⟨(txt m (cnt m)).toArray⟩ : ByteArray) = t at *
    clear h1
    go_enter Try.func18, Try.ntmps18
    go_wp2_with (go_at_call 25; refine (HF.out _).mono ?_; rintro e w' ⟨rfl, hb⟩)
    go_ret
    exact ⟨rfl, hb⟩

/-- One byte made into a string. -/
theorem conv_one (w : World) (d : Nat) (hd : d < 10) :
    (convert 35 9 (.slice (some ⟨w.heap.size, 0, none⟩) 1 1)).run Try.prog (w.alloc (.cells #[.int .u8 (48 + (d : Int))] 5)) = .ok (.string ⟨#[UInt8.ofNat (48 + d)]⟩) (w.alloc (.cells #[.int .u8 (48 + (d : Int))] 5)) :=
  run_convert_bytes_back (P := Try.prog) _ 35 9 5 ⟨w.heap.size, 0, none⟩ 1 [UInt8.ofNat (48 + d)] Try.underlying35 Try.underlying5 Try.underlying9 (fun j hj => by
    have : j = 0 := by simpa using hj
    subst this
    have hb := byte_toNat d hd
    show (w.alloc (.cells #[.int .u8 (48 + (d : Int))] 5)).cell? ⟨w.heap.size, 0, none⟩ = _
    rw [World.cell?_alloc_mark]
    show some (Value.int .u8 (48 + (d : Int))) = some (.int .u8 ((UInt8.ofNat (48 + d)).toNat : Int))
    rw [hb]; rfl)

theorem ret_str {a b : ByteArray} (h : a = b) : Ending.returned (.string a) = .returned (.string b) := by rw [h]

theorem txt_push (m k : Nat) : (⟨#[UInt8.ofNat (48 + m / 10 ^ k % 10)]⟩ : ByteArray) ++ ⟨(txt m k).toArray⟩ = ⟨(txt m (k + 1)).toArray⟩ := by
  rw [txt_succ]
  apply ByteArray.ext
  simp

def left (q : Nat) : Nat := if q = 0 then 0 else cnt q
theorem left_step (q : Nat) (h : q ≠ 0) : left q = left (q / 10) + 1 := by
  unfold left
  rw [if_neg h]
  by_cases hs : q < 10
  · rw [cnt_small q hs, if_pos (by omega)]
  · rw [cnt_big q hs, if_neg (by omega)]

set_option maxHeartbeats 1000000 in
theorem rfmt_neg (m : Nat) (w : World) (h0 : 0 < m) (h1 : m ≤ 9223372036854775808) :
    Calls Try.prog 19 #[.int .i64 (-(m : Int))] w fun e w' => e = .returned (.string (⟨#[45]⟩ ++ ⟨(txt m (cnt m)).toArray⟩)) ∧ Below w.heap.size w w' := by
  have z0 : ((-(m : Int)) == 0) = false := by simp; omega
  obtain ⟨i0, hi, hz0, hz1, hz2⟩ := info_parts Try.info5
  have HZ := Lib.hid h0
  have hs : -(m : Int) < 0 := by omega
  clear h0
  go_enter Try.func19, Try.ntmps19
  go_wp2
  go_loopw [3, 4] (fun s v wr => ∃ k q : Nat, v = .int .i64 (-(q : Int)) ∧ q ≤ 9223372036854775808 ∧ Hid (m / 10 ^ k = q) ∧ Hid (k + left q = cnt m) ∧ s = .string ⟨(txt m k).toArray⟩ ∧ Below w.heap.size w wr)
    (fun _ v _ => (intOf v).natAbs)
  case atStart => exact ⟨0, m, rfl, h1, by simp [Hid], by simp [Hid, left, Nat.ne_of_gt HZ.out], rfl, Below.refl _ _⟩
  case round =>
    obtain ⟨k, q, rfl, hq, g1, g2, rfl, hb⟩ := hrel
    by_cases hz : 0 < q
    · have z1 : ((-(q : Int)) != 0) = true := by simp; omega
      have HP : Hid ((⟨#[UInt8.ofNat (48 + q % 10)]⟩ : ByteArray) ++ ⟨(txt m k).toArray⟩ = ⟨(txt m (k + 1)).toArray⟩) := by
        have := txt_push m k
        rw [g1.out] at this; exact this
      have g3 : Hid (m / 10 ^ (k + 1) = q / 10) := by
        show m / 10 ^ (k + 1) = q / 10
        rw [div_step, g1.out]
      have g4 : Hid (k + 1 + left (q / 10) = cnt m) := by
        have := g2.out
        rw [left_step q (by omega)] at this
        show k + 1 + left (q / 10) = cnt m
        omega
      have hts : (⟨(txt m k).toArray⟩ : ByteArray).size ≤ 20 := by
        have e1 : (⟨(txt m k).toArray⟩ : ByteArray).size = k := txt_len m k
        have e2 := cnt_le 18 m (by omega)
        have e3 := g4.out
        omega
      generalize (⟨(txt m k).toArray⟩ : ByteArray) = t at *
      have hb1 : Below w.heap.size w (wr.alloc (.cells #[.int .u8 (48 + ((q % 10 : Nat) : Int))] 5)) := hb.alloc hb.size _
      have hcv := conv_one wr (q % 10) (by omega)
      have t2 : (-(q : Int)).tdiv 10 = -((q / 10 : Nat) : Int) := by
        rw [Int.neg_tdiv, Int.tdiv_eq_ediv_of_nonneg (by omega)]; rfl
      have e : ((q % 10 : Nat) : Int) = (q : Int) % 10 := by omega
      rw [e] at hcv hb1
      clear g1 g2
      by_cases hr : (q : Int) % 10 = 0
      · have t1 : (-(q : Int)).tmod 10 = 0 := by rw [Int.neg_tmod, Int.tmod_eq_emod_of_nonneg (by omega)]; omega
        rw [hr, Int.add_zero] at hcv hb1
        clear e hb
        have HR := Lib.hid hr
        clear hr
        go_wp2
        go_roundw
        case rel => exact ⟨k + 1, q / 10, rfl, by omega, g3, g4, by rw [← HP.out, UInt8.ofNat_add]; rfl, hb1⟩
        case measure => simp [intOf]; omega
      · have t1 : (-(q : Int)).tmod 10 = -((q : Int) % 10) := by rw [Int.neg_tmod, Int.tmod_eq_emod_of_nonneg (by omega)]
        have hr1 : 0 < (q : Int) % 10 := by omega
        clear e hb hr
        go_wp2
        go_roundw
        case rel => exact ⟨k + 1, q / 10, rfl, by omega, g3, g4, by rw [← HP.out, UInt8.ofNat_add]; rfl, hb1⟩
        case measure => simp [intOf]; omega
    · obtain rfl : q = 0 := by omega
      have g5 : Hid (k = cnt m) := by
        have := g2.out
        show k = cnt m
        simpa [left] using this
      have hts : (⟨(txt m k).toArray⟩ : ByteArray).size ≤ 20 := by
        rw [g5.out]; exact txt_size m (by omega)
      have HT : Hid ((⟨(txt m k).toArray⟩ : ByteArray) = ⟨(txt m (cnt m)).toArray⟩) := by
        show (⟨(txt m k).toArray⟩ : ByteArray) = _
        rw [← g5.out]
      generalize (⟨(txt m k).toArray⟩ : ByteArray) = t at *
      clear g1 g2 hz g5
      go_wp2
      go_ret
      exact ⟨ret_str (by rw [HT.out]), hb⟩

set_option maxHeartbeats 1000000 in
theorem rfmt_pos (m : Nat) (w : World) (h0 : 0 < m) (h1 : m ≤ 9223372036854775807) :
    Calls Try.prog 19 #[.int .i64 (m : Int)] w fun e w' => e = .returned (.string (⟨(txt m (cnt m)).toArray⟩)) ∧ Below w.heap.size w w' := by
  have z0 : ((m : Int) == 0) = false := by simp; omega
  obtain ⟨i0, hi, hz0, hz1, hz2⟩ := info_parts Try.info5
  have HZ := Lib.hid h0
  have hs : ¬ (m : Int) < 0 := by omega
  clear h0
  go_enter Try.func19, Try.ntmps19
  go_wp2
  go_loopw [3, 4] (fun s v wr => ∃ k q : Nat, v = .int .i64 (q : Int) ∧ q ≤ 9223372036854775807 ∧ Hid (m / 10 ^ k = q) ∧ Hid (k + left q = cnt m) ∧ s = .string ⟨(txt m k).toArray⟩ ∧ Below w.heap.size w wr)
    (fun _ v _ => (intOf v).natAbs)
  case atStart => exact ⟨0, m, rfl, h1, by simp [Hid], by simp [Hid, left, Nat.ne_of_gt HZ.out], rfl, Below.refl _ _⟩
  case round =>
    obtain ⟨k, q, rfl, hq, g1, g2, rfl, hb⟩ := hrel
    by_cases hz : 0 < q
    · have z1 : ((q : Int) != 0) = true := by simp; omega
      have HP : Hid ((⟨#[UInt8.ofNat (48 + q % 10)]⟩ : ByteArray) ++ ⟨(txt m k).toArray⟩ = ⟨(txt m (k + 1)).toArray⟩) := by
        have := txt_push m k
        rw [g1.out] at this; exact this
      have g3 : Hid (m / 10 ^ (k + 1) = q / 10) := by
        show m / 10 ^ (k + 1) = q / 10
        rw [div_step, g1.out]
      have g4 : Hid (k + 1 + left (q / 10) = cnt m) := by
        have := g2.out
        rw [left_step q (by omega)] at this
        show k + 1 + left (q / 10) = cnt m
        omega
      have hts : (⟨(txt m k).toArray⟩ : ByteArray).size ≤ 20 := by
        have e1 : (⟨(txt m k).toArray⟩ : ByteArray).size = k := txt_len m k
        have e2 := cnt_le 18 m (by omega)
        have e3 := g4.out
        omega
      generalize (⟨(txt m k).toArray⟩ : ByteArray) = t at *
      have hb1 : Below w.heap.size w (wr.alloc (.cells #[.int .u8 (48 + ((q % 10 : Nat) : Int))] 5)) := hb.alloc hb.size _
      have hcv := conv_one wr (q % 10) (by omega)
      have e : ((q % 10 : Nat) : Int) = (q : Int) % 10 := by omega
      rw [e] at hcv hb1
      clear g1 g2
      · clear e hb
        go_wp2
        go_roundw
        case rel => exact ⟨k + 1, q / 10, by simp, by omega, g3, g4, by rw [← HP.out, UInt8.ofNat_add]; rfl, hb1⟩
        case measure => simp [intOf]; omega
    · obtain rfl : q = 0 := by omega
      have g5 : Hid (k = cnt m) := by
        have := g2.out
        show k = cnt m
        simpa [left] using this
      have hts : (⟨(txt m k).toArray⟩ : ByteArray).size ≤ 20 := by
        rw [g5.out]; exact txt_size m (by omega)
      have HT : Hid ((⟨(txt m k).toArray⟩ : ByteArray) = ⟨(txt m (cnt m)).toArray⟩) := by
        show (⟨(txt m k).toArray⟩ : ByteArray) = _
        rw [← g5.out]
      generalize (⟨(txt m k).toArray⟩ : ByteArray) = t at *
      clear g1 g2 hz g5
      go_wp2
      go_ret
      exact ⟨ret_str (by rw [HT.out]), hb⟩

end Go.Proofs.Ytpaoiomnaopalaa
