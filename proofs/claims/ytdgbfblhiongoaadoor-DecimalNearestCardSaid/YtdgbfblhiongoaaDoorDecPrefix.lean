/- The number at the beginning of a text: the program's Prefix. -/
import Derived.Test.YtdgbfblhiongoaaDoorDecParseS
namespace Go.Proofs.YtdgbfblhiongoaaDoor
open Go.RowKit
set_option linter.unusedVariables false      -- the frame binds names that not every walk uses

/-! ### The parts of a text: behind its blanks, behind its sign, digits, what follows, digits behind a point, what follows -/
def x1 (l : List UInt8) : List UInt8 := Lib.trimLeftS l [32, 9]
def x2 (l : List UInt8) : List UInt8 := unsign (x1 l)
def xW (l : List UInt8) : List UInt8 := ldig (x2 l)
def x3 (l : List UInt8) : List UInt8 := rD (x2 l)
def xF (l : List UInt8) : List UInt8 := if hd 46 (x3 l) then ldig (x3 l).tail else []
def x4 (l : List UInt8) : List UInt8 := if hd 46 (x3 l) then rD (x3 l).tail else x3 l
def xNone (l : List UInt8) : Bool := (xW l).isEmpty && (xF l).isEmpty
def xV (l : List UInt8) : Int := if xNone l then 0 else nearV (sgn ((bw (xW l) * 10000 + fr ((xF l).take 4) : Nat) : Int) (hd 45 (x1 l)))
def xN (l : List UInt8) : Int := if xNone l then 0 else (l.length : Int) - (x4 l).length

theorem drop_le (p : UInt8 → Bool) : ∀ l : List UInt8, (l.dropWhile p).length ≤ l.length
  | [] => Nat.le_refl _
  | c :: r => by
    rw [List.dropWhile_cons]
    split
    · exact Nat.le_trans (drop_le p r) (by simp)
    · exact Nat.le_refl _
theorem x1_le (l : List UInt8) : (x1 l).length ≤ l.length := by unfold x1 Lib.trimLeftS; exact drop_le _ _
theorem unsign_le (l : List UInt8) : (unsign l).length ≤ l.length := by unfold unsign; split; simp; exact cut_len _ _
theorem x2_le (l : List UInt8) : (x2 l).length ≤ l.length := Nat.le_trans (unsign_le _) (x1_le l)
theorem rD_le (l : List UInt8) : (rD l).length ≤ l.length := by unfold rD; rw [List.length_drop]; omega
theorem x3_le (l : List UInt8) : (x3 l).length ≤ l.length := Nat.le_trans (rD_le _) (x2_le l)
theorem x3_len (l : List UInt8) : (x3 l).length = (x2 l).length - (xW l).length := by unfold x3 rD xW; rw [List.length_drop]
theorem allD_xF (l : List UInt8) : allD (xF l) = true := by unfold xF; split; exact all_ldig _; rfl
theorem xF_le (l : List UInt8) : (xF l).length ≤ l.length := by
  unfold xF
  split
  · refine Nat.le_trans (ldig_len_le _) (Nat.le_trans ?_ (x3_le l)); simp
  · exact Nat.zero_le _
theorem mk_ext_take (f : List UInt8) (k : Nat) : (mk f).extract 0 k = mk (f.take k) := by rw [ext_take, mk_data]
theorem empty_iff (l : List UInt8) : (mk l).toList.isEmpty = l.isEmpty := by rw [ByteArray.toList_eq, mk_data]

set_option maxHeartbeats 400000 in
theorem px_no_none (s t1 t2 ta tc : ByteArray) (w : World) (M : Bool) (hs : s.size ≤ 9223372036854775807) (z2 : ta.size ≤ t2.size) (z2' : t2.size ≤ s.size)
    (HT : Hid (∀ w, Calls Tryd.prog 61 #[.string s, .string ⟨#[32, 9]⟩] w fun e w' => e = .returned (.string t1) ∧ Below w.heap.size w w'))
    (HS : Hid (∀ w, Calls Tryd.prog 60 #[.string t1] w fun e w' => e = .returned (.tuple #[.string t2, .bool M]) ∧ w = w'))
    (HW : Hid (∀ w, Calls Tryd.prog 62 #[.string t2] w fun e w' => e = .returned (.string ta) ∧ w = w'))
    (HC : Hid (∀ w, Calls Tryd.prog 51 #[.string (t2.extract ta.size t2.size), .string ⟨#[46]⟩] w fun e w' => e = .returned (.tuple #[.string tc, .bool false]) ∧ w = w')) (eA : ta.toList.isEmpty = true) :
    Calls Tryd.prog 34 #[.string s] w fun e w' => e = .returned (.tuple #[.int .i64 0, .int .i64 0]) ∧ Below w.heap.size w w' := by
  go_enter Tryd.func34, Tryd.ntmps34
  go_wp2_with (first | (go_at_call 61; refine (HT.out _).mono ?_; rintro e w1 ⟨rfl, hb⟩) | (go_at_call 60; refine (HS.out _).mono ?_; rintro e w' ⟨rfl, rfl⟩) | (go_at_call 62; refine (HW.out _).mono ?_; rintro e w' ⟨rfl, rfl⟩) | (go_at_call 51; refine (HC.out _).mono ?_; rintro e w' ⟨rfl, rfl⟩))
  go_ret2
  exact ⟨rfl, hb⟩

set_option maxHeartbeats 400000 in
theorem px_no (s t1 t2 ta tc : ByteArray) (w : World) (M : Bool) (hs : s.size ≤ 9223372036854775807) (z2 : ta.size ≤ t2.size) (z2' : t2.size ≤ s.size)
    (HT : Hid (∀ w, Calls Tryd.prog 61 #[.string s, .string ⟨#[32, 9]⟩] w fun e w' => e = .returned (.string t1) ∧ Below w.heap.size w w'))
    (HS : Hid (∀ w, Calls Tryd.prog 60 #[.string t1] w fun e w' => e = .returned (.tuple #[.string t2, .bool M]) ∧ w = w'))
    (HW : Hid (∀ w, Calls Tryd.prog 62 #[.string t2] w fun e w' => e = .returned (.string ta) ∧ w = w'))
    (HC : Hid (∀ w, Calls Tryd.prog 51 #[.string (t2.extract ta.size t2.size), .string ⟨#[46]⟩] w fun e w' => e = .returned (.tuple #[.string tc, .bool false]) ∧ w = w')) (eA : ta.toList.isEmpty = false) (bq fq : Nat) (sg rv : Int) (hbq : bq ≤ 10000000009) (hfq : fq < 10000) (HU : Hid (unitsAt w))
    (HBW : Hid (∀ w, Calls Tryd.prog 63 #[.string ta] w fun e w' => e = .returned (.int .i64 bq) ∧ w = w'))
    (HFR : Hid (∀ w, unitsAt w → Calls Tryd.prog 57 #[.string ⟨#[]⟩] w fun e w' => e = .returned (.int .i64 fq) ∧ Below w.heap.size w w'))
    (HSG : Hid (∀ w, Calls Tryd.prog 56 #[.int .i64 ((bq : Int) * 10000 + (fq : Int)), .bool M] w fun e w' => e = .returned (.int .i64 sg) ∧ w = w'))
    (HNV : Hid (∀ w, Calls Tryd.prog 48 #[.int .i64 sg] w fun e w' => e = .returned (.int .i64 rv) ∧ w = w')) :
    Calls Tryd.prog 34 #[.string s] w fun e w' => e = .returned (.tuple #[.int .i64 rv, .int .i64 ((s.size : Int) - ((t2.size - ta.size : Nat) : Int))]) ∧ Below w.heap.size w w' := by
  go_enter Tryd.func34, Tryd.ntmps34
  go_wp2_with (first | (go_at_call 61; refine (HT.out _).mono ?_; rintro e w1 ⟨rfl, hb⟩) | (go_at_call 60; refine (HS.out _).mono ?_; rintro e w' ⟨rfl, rfl⟩) | (go_at_call 62; refine (HW.out _).mono ?_; rintro e w' ⟨rfl, rfl⟩) | (go_at_call 51; refine (HC.out _).mono ?_; rintro e w' ⟨rfl, rfl⟩) | (go_at_call 63; refine (HBW.out _).mono ?_; rintro e w' ⟨rfl, rfl⟩) | (go_at_call 57; refine (HFR.out _ (HU.out.below hb)).mono ?_; rintro e w2 ⟨rfl, hb2⟩) | (go_at_call 56; refine (HSG.out _).mono ?_; rintro e w' ⟨rfl, rfl⟩) | (go_at_call 48; refine (HNV.out _).mono ?_; rintro e w' ⟨rfl, rfl⟩))
  go_ret2
  exact ⟨rfl, hb.trans (hb2.mono hb.size)⟩

set_option maxHeartbeats 400000 in
theorem px_none (s t1 t2 ta tc : ByteArray) (w : World) (M : Bool) (hs : s.size ≤ 9223372036854775807) (z2 : ta.size ≤ t2.size) (z2' : t2.size ≤ s.size)
    (HT : Hid (∀ w, Calls Tryd.prog 61 #[.string s, .string ⟨#[32, 9]⟩] w fun e w' => e = .returned (.string t1) ∧ Below w.heap.size w w'))
    (HS : Hid (∀ w, Calls Tryd.prog 60 #[.string t1] w fun e w' => e = .returned (.tuple #[.string t2, .bool M]) ∧ w = w'))
    (HW : Hid (∀ w, Calls Tryd.prog 62 #[.string t2] w fun e w' => e = .returned (.string ta) ∧ w = w'))
    (HC : Hid (∀ w, Calls Tryd.prog 51 #[.string (t2.extract ta.size t2.size), .string ⟨#[46]⟩] w fun e w' => e = .returned (.tuple #[.string tc, .bool true]) ∧ w = w')) (tf : ByteArray)
    (HL : Hid (∀ w, Calls Tryd.prog 62 #[.string tc] w fun e w' => e = .returned (.string tf) ∧ w = w')) (zf : tf.size ≤ tc.size) (zc : tc.size ≤ s.size) (eA : ta.toList.isEmpty = true) (eF : tf.toList.isEmpty = true) :
    Calls Tryd.prog 34 #[.string s] w fun e w' => e = .returned (.tuple #[.int .i64 0, .int .i64 0]) ∧ Below w.heap.size w w' := by
  go_enter Tryd.func34, Tryd.ntmps34
  go_wp2_with (first | (go_at_call 61; refine (HT.out _).mono ?_; rintro e w1 ⟨rfl, hb⟩) | (go_at_call 60; refine (HS.out _).mono ?_; rintro e w' ⟨rfl, rfl⟩) | (go_at_call 62; first | ((with_reducible refine (HW.out _).mono ?_); rintro e w' ⟨rfl, rfl⟩) | ((with_reducible refine (HL.out _).mono ?_); rintro e w' ⟨rfl, rfl⟩)) | (go_at_call 51; refine (HC.out _).mono ?_; rintro e w' ⟨rfl, rfl⟩))
  go_ret2
  exact ⟨rfl, hb⟩

set_option maxHeartbeats 400000 in
theorem px_a (s t1 t2 ta tc : ByteArray) (w : World) (M : Bool) (hs : s.size ≤ 9223372036854775807) (z2 : ta.size ≤ t2.size) (z2' : t2.size ≤ s.size)
    (HT : Hid (∀ w, Calls Tryd.prog 61 #[.string s, .string ⟨#[32, 9]⟩] w fun e w' => e = .returned (.string t1) ∧ Below w.heap.size w w'))
    (HS : Hid (∀ w, Calls Tryd.prog 60 #[.string t1] w fun e w' => e = .returned (.tuple #[.string t2, .bool M]) ∧ w = w'))
    (HW : Hid (∀ w, Calls Tryd.prog 62 #[.string t2] w fun e w' => e = .returned (.string ta) ∧ w = w'))
    (HC : Hid (∀ w, Calls Tryd.prog 51 #[.string (t2.extract ta.size t2.size), .string ⟨#[46]⟩] w fun e w' => e = .returned (.tuple #[.string tc, .bool true]) ∧ w = w')) (tf : ByteArray)
    (HL : Hid (∀ w, Calls Tryd.prog 62 #[.string tc] w fun e w' => e = .returned (.string tf) ∧ w = w')) (zf : tf.size ≤ tc.size) (zc : tc.size ≤ s.size) (eA : ta.toList.isEmpty = false) (bq fq : Nat) (sg rv : Int) (hbq : bq ≤ 10000000009) (hfq : fq < 10000) (HU : Hid (unitsAt w))
    (HBW : Hid (∀ w, Calls Tryd.prog 63 #[.string ta] w fun e w' => e = .returned (.int .i64 bq) ∧ w = w'))
    (HFR : Hid (∀ w, unitsAt w → Calls Tryd.prog 57 #[.string (tf.extract 0 (min (tf.size : Int) 4).toNat)] w fun e w' => e = .returned (.int .i64 fq) ∧ Below w.heap.size w w'))
    (HSG : Hid (∀ w, Calls Tryd.prog 56 #[.int .i64 ((bq : Int) * 10000 + (fq : Int)), .bool M] w fun e w' => e = .returned (.int .i64 sg) ∧ w = w'))
    (HNV : Hid (∀ w, Calls Tryd.prog 48 #[.int .i64 sg] w fun e w' => e = .returned (.int .i64 rv) ∧ w = w')) :
    Calls Tryd.prog 34 #[.string s] w fun e w' => e = .returned (.tuple #[.int .i64 rv, .int .i64 ((s.size : Int) - ((tc.size - tf.size : Nat) : Int))]) ∧ Below w.heap.size w w' := by
  go_enter Tryd.func34, Tryd.ntmps34
  go_wp2_with (first | (go_at_call 61; refine (HT.out _).mono ?_; rintro e w1 ⟨rfl, hb⟩) | (go_at_call 60; refine (HS.out _).mono ?_; rintro e w' ⟨rfl, rfl⟩) | (go_at_call 62; first | ((with_reducible refine (HW.out _).mono ?_); rintro e w' ⟨rfl, rfl⟩) | ((with_reducible refine (HL.out _).mono ?_); rintro e w' ⟨rfl, rfl⟩)) | (go_at_call 51; refine (HC.out _).mono ?_; rintro e w' ⟨rfl, rfl⟩) | (go_at_call 63; refine (HBW.out _).mono ?_; rintro e w' ⟨rfl, rfl⟩) | (go_at_call 57; refine (HFR.out _ (HU.out.below hb)).mono ?_; rintro e w2 ⟨rfl, hb2⟩) | (go_at_call 56; refine (HSG.out _).mono ?_; rintro e w' ⟨rfl, rfl⟩) | (go_at_call 48; refine (HNV.out _).mono ?_; rintro e w' ⟨rfl, rfl⟩))
  go_ret2
  exact ⟨rfl, hb.trans (hb2.mono hb.size)⟩

set_option maxHeartbeats 400000 in
theorem px_f (s t1 t2 ta tc : ByteArray) (w : World) (M : Bool) (hs : s.size ≤ 9223372036854775807) (z2 : ta.size ≤ t2.size) (z2' : t2.size ≤ s.size)
    (HT : Hid (∀ w, Calls Tryd.prog 61 #[.string s, .string ⟨#[32, 9]⟩] w fun e w' => e = .returned (.string t1) ∧ Below w.heap.size w w'))
    (HS : Hid (∀ w, Calls Tryd.prog 60 #[.string t1] w fun e w' => e = .returned (.tuple #[.string t2, .bool M]) ∧ w = w'))
    (HW : Hid (∀ w, Calls Tryd.prog 62 #[.string t2] w fun e w' => e = .returned (.string ta) ∧ w = w'))
    (HC : Hid (∀ w, Calls Tryd.prog 51 #[.string (t2.extract ta.size t2.size), .string ⟨#[46]⟩] w fun e w' => e = .returned (.tuple #[.string tc, .bool true]) ∧ w = w')) (tf : ByteArray)
    (HL : Hid (∀ w, Calls Tryd.prog 62 #[.string tc] w fun e w' => e = .returned (.string tf) ∧ w = w')) (zf : tf.size ≤ tc.size) (zc : tc.size ≤ s.size) (eA : ta.toList.isEmpty = true) (eF : tf.toList.isEmpty = false) (bq fq : Nat) (sg rv : Int) (hbq : bq ≤ 10000000009) (hfq : fq < 10000) (HU : Hid (unitsAt w))
    (HBW : Hid (∀ w, Calls Tryd.prog 63 #[.string ta] w fun e w' => e = .returned (.int .i64 bq) ∧ w = w'))
    (HFR : Hid (∀ w, unitsAt w → Calls Tryd.prog 57 #[.string (tf.extract 0 (min (tf.size : Int) 4).toNat)] w fun e w' => e = .returned (.int .i64 fq) ∧ Below w.heap.size w w'))
    (HSG : Hid (∀ w, Calls Tryd.prog 56 #[.int .i64 ((bq : Int) * 10000 + (fq : Int)), .bool M] w fun e w' => e = .returned (.int .i64 sg) ∧ w = w'))
    (HNV : Hid (∀ w, Calls Tryd.prog 48 #[.int .i64 sg] w fun e w' => e = .returned (.int .i64 rv) ∧ w = w')) :
    Calls Tryd.prog 34 #[.string s] w fun e w' => e = .returned (.tuple #[.int .i64 rv, .int .i64 ((s.size : Int) - ((tc.size - tf.size : Nat) : Int))]) ∧ Below w.heap.size w w' := by
  go_enter Tryd.func34, Tryd.ntmps34
  go_wp2_with (first | (go_at_call 61; refine (HT.out _).mono ?_; rintro e w1 ⟨rfl, hb⟩) | (go_at_call 60; refine (HS.out _).mono ?_; rintro e w' ⟨rfl, rfl⟩) | (go_at_call 62; first | ((with_reducible refine (HW.out _).mono ?_); rintro e w' ⟨rfl, rfl⟩) | ((with_reducible refine (HL.out _).mono ?_); rintro e w' ⟨rfl, rfl⟩)) | (go_at_call 51; refine (HC.out _).mono ?_; rintro e w' ⟨rfl, rfl⟩) | (go_at_call 63; refine (HBW.out _).mono ?_; rintro e w' ⟨rfl, rfl⟩) | (go_at_call 57; refine (HFR.out _ (HU.out.below hb)).mono ?_; rintro e w2 ⟨rfl, hb2⟩) | (go_at_call 56; refine (HSG.out _).mono ?_; rintro e w' ⟨rfl, rfl⟩) | (go_at_call 48; refine (HNV.out _).mono ?_; rintro e w' ⟨rfl, rfl⟩))
  go_ret2
  exact ⟨rfl, hb.trans (hb2.mono hb.size)⟩

set_option maxHeartbeats 1600000 in
theorem dprefix_any (s : ByteArray) (w : World) (hs : s.size ≤ maxLen) (hU : unitsAt w) :
    Calls Tryd.prog 34 #[.string s] w fun e w' => e = .returned (.tuple #[.int .i64 (xV s.data.toList), .int .i64 (xN s.data.toList)]) ∧ Below w.heap.size w w' := by
  have hmx := hs
  unfold maxLen at hs
  generalize hl : s.data.toList = l
  have hll : l.length = s.size := by rw [← hl, size_len]
  have HU : Hid (unitsAt w) := hU
  have HT : Hid (∀ w, Calls Tryd.prog 61 #[.string s, .string ⟨#[32, 9]⟩] w fun e w' => e = .returned (.string (mk (x1 l))) ∧ Below w.heap.size w w') := fun w => by
    have := triml_any s w; rw [hl] at this; exact this
  have HS : Hid (∀ w, Calls Tryd.prog 60 #[.string (mk (x1 l))] w fun e w' => e = .returned (.tuple #[.string (mk (x2 l)), .bool (hd 45 (x1 l))]) ∧ w = w') := fun w => cutsign_any (mk (x1 l)) w (by rw [mk_size]; exact Nat.le_trans (x1_le l) (by omega))
  have HW : Hid (∀ w, Calls Tryd.prog 62 #[.string (mk (x2 l))] w fun e w' => e = .returned (.string (mk (xW l))) ∧ w = w') := fun w => lead_any (mk (x2 l)) w (by rw [mk_size]; exact Nat.le_trans (x2_le l) (by omega))
  have E3 : (mk (x2 l)).extract (mk (xW l)).size (mk (x2 l)).size = mk (x3 l) := by rw [ext_drop]; rfl
  have HC : Hid (∀ w, Calls Tryd.prog 51 #[.string ((mk (x2 l)).extract (mk (xW l)).size (mk (x2 l)).size), .string ⟨#[46]⟩] w fun e w' => e = .returned (.tuple #[.string (mk (cutP 46 (x3 l))), .bool (hd 46 (x3 l))]) ∧ w = w') := fun w => by
    rw [E3]; exact cutp46_any (mk (x3 l)) w (by rw [mk_size]; exact Nat.le_trans (x3_le l) (by omega))
  have z2 : (mk (xW l)).size ≤ (mk (x2 l)).size := ldig_len_le _
  have z2' : (mk (x2 l)).size ≤ s.size := by rw [mk_size, ← hll]; exact x2_le l
  have hA : allD (xW l) = true := all_ldig _
  have HBW : Hid (∀ w, Calls Tryd.prog 63 #[.string (mk (xW l))] w fun e w' => e = .returned (.int .i64 (bw (xW l))) ∧ w = w') := fun w => bw_any (mk (xW l)) w (by omega) hA
  have hbw : bw (xW l) ≤ 10000000009 := bw_le _ hA
  have hf4 : ((xF l).take 4).length ≤ 4 := List.length_take_le _ _
  have ha4 : allD ((xF l).take 4) = true := allD_take _ _ (allD_xF l)
  have hfr : fr ((xF l).take 4) < 10000 := fr_bound _ ha4 hf4
  have HFR : Hid (∀ w, unitsAt w → Calls Tryd.prog 57 #[.string (mk ((xF l).take 4))] w fun e w' => e = .returned (.int .i64 (fr ((xF l).take 4))) ∧ Below w.heap.size w w') := fun w hU => frac_any (mk ((xF l).take 4)) w hf4 ha4 hU
  have HSG : Hid (∀ w, Calls Tryd.prog 56 #[.int .i64 ((bw (xW l) : Int) * 10000 + (fr ((xF l).take 4) : Int)), .bool (hd 45 (x1 l))] w fun e w' => e = .returned (.int .i64 (sgn ((bw (xW l) * 10000 + fr ((xF l).take 4) : Nat) : Int) (hd 45 (x1 l)))) ∧ w = w') := fun w => by
    have := signed_any ((bw (xW l) : Int) * 10000 + (fr ((xF l).take 4) : Int)) (hd 45 (x1 l)) w ⟨by omega, by omega⟩
    have e : ((bw (xW l) * 10000 + fr ((xF l).take 4) : Nat) : Int) = (bw (xW l) : Int) * 10000 + (fr ((xF l).take 4) : Int) := by omega
    rw [e]; exact this
  have HNV : Hid (∀ w, Calls Tryd.prog 48 #[.int .i64 (sgn ((bw (xW l) * 10000 + fr ((xF l).take 4) : Nat) : Int) (hd 45 (x1 l)))] w fun e w' => e = .returned (.int .i64 (nearV (sgn ((bw (xW l) * 10000 + fr ((xF l).take 4) : Nat) : Int) (hd 45 (x1 l))))) ∧ w = w') := fun w => near_any _ w
  have e1 := empty_iff (xW l)
  have e2 := empty_iff (xF l)
  have h34 : (x3 l).length = (mk (x2 l)).size - (mk (xW l)).size := x3_len l
  have hfs : (mk (xF l)).size ≤ s.size := by rw [mk_size, ← hll]; exact xF_le l
  have HFE : mk ((xF l).take 4) = (mk (xF l)).extract 0 (min ((mk (xF l)).size : Int) 4).toNat := by
    rw [mk_ext_take, mk_size]
    congr 1
    rw [List.take_eq_take_iff]
    omega
  have hfl : (xF l).length = (mk (xF l)).size := (mk_size _).symm
  have hP1 : hd 46 (x3 l) = true → xF l = ldig (x3 l).tail ∧ x4 l = rD (x3 l).tail ∧ cutP 46 (x3 l) = (x3 l).tail := fun h => by
    unfold xF x4 cutP; rw [h]; exact ⟨rfl, rfl, rfl⟩
  have hP2 : hd 46 (x3 l) = false → xF l = [] ∧ x4 l = x3 l := fun h => by
    unfold xF x4; rw [h]; exact ⟨rfl, rfl⟩
  have HL2 : Hid (hd 46 (x3 l) = true → ∀ w, Calls Tryd.prog 62 #[.string (mk (cutP 46 (x3 l)))] w fun e w' => e = .returned (.string (mk (xF l))) ∧ w = w') := fun h w => by
    rw [(hP1 h).1, (hP1 h).2.2]
    exact lead_any (mk (x3 l).tail) w (by rw [mk_size]; have := x3_le l; simp; omega)
  have hcs : hd 46 (x3 l) = true → (mk (xF l)).size ≤ (mk (cutP 46 (x3 l))).size ∧ (x4 l).length = (mk (cutP 46 (x3 l))).size - (mk (xF l)).size ∧ (mk (cutP 46 (x3 l))).size ≤ s.size := fun h => by
    rw [(hP1 h).1, (hP1 h).2.1, (hP1 h).2.2, mk_size, mk_size]
    have := x3_le l
    refine ⟨ldig_len_le _, by unfold rD; rw [List.length_drop], by simp; omega⟩
  rcases tf (hd 46 (x3 l)) with hP | hP
  · obtain ⟨c1, c2, c3⟩ := hcs hP
    rw [hP] at HC
    rw [HFE] at HFR
    have HL := Lib.hid (HL2.out hP)
    rcases tf (xW l).isEmpty with hE | hE
    · rw [hE] at e1
      rcases tf (xF l).isEmpty with hG | hG
      · rw [hG] at e2
        have hz : xV l = 0 ∧ xN l = 0 := by unfold xV xN xNone; rw [hE, hG]; exact ⟨rfl, rfl⟩
        rw [hz.1, hz.2]
        exact px_none s _ _ _ _ w _ hs z2 z2' HT HS HW HC _ HL c1 c3 e1 e2
      · rw [hG] at e2
        have hz : xNone l = false := by unfold xNone; rw [hE, hG]; rfl
        unfold xV xN
        rw [hz]
        simp only [Bool.false_eq_true, if_false]
        rw [c2, hll]
        exact px_f s _ _ _ _ w _ hs z2 z2' HT HS HW HC _ HL c1 c3 e1 e2 _ _ _ _ hbw hfr HU HBW HFR HSG HNV
    · rw [hE] at e1
      have hz : xNone l = false := by unfold xNone; rw [hE]; rfl
      unfold xV xN
      rw [hz]
      simp only [Bool.false_eq_true, if_false]
      rw [c2, hll]
      exact px_a s _ _ _ _ w _ hs z2 z2' HT HS HW HC _ HL c1 c3 e1 _ _ _ _ hbw hfr HU HBW HFR HSG HNV
  · obtain ⟨f1, f2⟩ := hP2 hP
    rw [hP] at HC
    rcases tf (xW l).isEmpty with hE | hE
    · rw [hE] at e1
      have hz : xV l = 0 ∧ xN l = 0 := by unfold xV xN xNone; rw [hE, f1]; exact ⟨rfl, rfl⟩
      rw [hz.1, hz.2]
      exact px_no_none s _ _ _ _ w _ hs z2 z2' HT HS HW HC e1
    · rw [hE] at e1
      have hz : xNone l = false := by unfold xNone; rw [hE]; rfl
      have hk : mk ((xF l).take 4) = ⟨#[]⟩ := by rw [f1]; rfl
      rw [hk] at HFR
      unfold xV xN
      rw [hz]
      simp only [Bool.false_eq_true, if_false]
      rw [f2, h34, hll]
      exact px_no s _ _ _ _ w _ hs z2 z2' HT HS HW HC e1 _ _ _ _ hbw hfr HU HBW HFR HSG HNV

end Go.Proofs.YtdgbfblhiongoaaDoor
