/- Writing a decimal number: the reference's Format. -/
import Derived.Test.YtdgbfblhiongoaaDoorDecRT
namespace Go.Proofs.YtdgbfblhiongoaaDoor
open Go.RowKit

theorem cnt_spec (m : Nat) : m / 10 ^ cnt m = 0 ∧ ∀ k, 0 < k → k < cnt m → 0 < m / 10 ^ k := by
  induction m using Nat.strongRecOn with
  | ind m ih =>
    by_cases h : m < 10
    · rw [cnt_small m h]
      exact ⟨by rw [Nat.pow_one]; omega, fun k h1 h2 => by omega⟩
    · obtain ⟨h1, h2⟩ := ih (m / 10) (by omega)
      rw [cnt_big m h]
      constructor
      · rw [Nat.pow_succ, Nat.mul_comm, ← Nat.div_div_eq_div_mul]; exact h1
      · intro k k0 hk
        obtain ⟨j, rfl⟩ : ∃ j, k = j + 1 := ⟨k - 1, by omega⟩
        rw [Nat.pow_succ, Nat.mul_comm, ← Nat.div_div_eq_div_mul]
        by_cases hj : j = 0
        · subst hj; rw [Nat.pow_zero, Nat.div_one]; omega
        · exact h2 j (by omega) (by omega)

set_option maxHeartbeats 1000000 in
theorem rtext_any (m L c : Nat) (w : World) (h1 : m ≤ 10000000000) (_hL : L ≤ 4) (hc : c ≤ 20) (hLc : L ≤ c) (h0 : m / 10 ^ c = 0) (hk : ∀ k, k < c → k < L ∨ 0 < m / 10 ^ k) :
    Calls Tryd.prog 66 #[.int .i64 m, .int .i64 L] w fun e w' => e = .returned (.string (mk (txt m c))) ∧ Below w.heap.size w w' := by
  obtain ⟨i0, hi, hz0, hz1, hz2⟩ := info_parts Tryd.info5
  have H0 := Lib.hid h0
  have HK := Lib.hid hk
  clear h0 hk
  go_enter Tryd.func66, Tryd.ntmps66
  go_wp2
  go_loopw [0, 5, 6] (fun v s i wr => ∃ k q : Nat, k ≤ c ∧ i = .int .i64 k ∧ v = .int .i64 (q : Int) ∧ q ≤ 10000000000 ∧ Hid (m / 10 ^ k = q) ∧ s = .string (mk (txt m k)) ∧ Below w.heap.size w wr)
    (fun _ _ i _ => c - (intOf i).toNat)
  case atStart => exact ⟨0, m, Nat.zero_le _, rfl, rfl, h1, by simp [Hid], rfl, Below.refl _ _⟩
  case round =>
    obtain ⟨k, q, hkc, rfl, rfl, hq, g1, rfl, hb⟩ := hrel
    have hts : (mk (txt m k)).size ≤ 20 := by rw [mk_size, txt_len]; omega
    by_cases hz : k < c
    · have hgo : (k : Int) < L ∨ (¬ (k : Int) < L ∧ 0 < (q : Int)) := by
        have := HK.out k hz
        rw [g1.out] at this
        omega
      have HP : Hid ((⟨#[UInt8.ofNat (48 + q % 10)]⟩ : ByteArray) ++ mk (txt m k) = mk (txt m (k + 1))) := by
        have := txt_push m k
        rw [g1.out] at this; exact this
      have g3 : Hid (m / 10 ^ (k + 1) = q / 10) := by
        show m / 10 ^ (k + 1) = q / 10
        rw [div_step, g1.out]
      generalize mk (txt m k) = t at *
      have hb1 : Below w.heap.size w (wr.alloc (.cells #[.int .u8 (48 + ((q % 10 : Nat) : Int))] 5)) := hb.alloc hb.size _
      have hcv := conv_one wr (q % 10) (by omega)
      have e : ((q % 10 : Nat) : Int) = (q : Int) % 10 := by omega
      rw [e] at hcv hb1
      clear g1 e hb
      rcases hgo with hgo | ⟨hgo, hgo2⟩
      all_goals
        go_wp2
        all_goals first
          | (exfalso; omega)
          | (go_roundw
             case rel => exact ⟨k + 1, q / 10, by omega, by go_num, by simp, by omega, g3, by rw [← HP.out, UInt8.ofNat_add]; rfl, hb1⟩
             case measure => simp [intOf]; omega)
    · obtain rfl : k = c := by omega
      have hq0 : q = 0 := by rw [← g1.out]; exact H0.out
      subst hq0
      have hnl : ¬ (k : Int) < L := by omega
      generalize hT : mk (txt m k) = t at *
      have HT := Lib.hid hT
      clear g1 hT
      go_wp2
      go_ret
      exact ⟨ret_s HT.out.symm, hb⟩

theorem rtext_dec (m : Nat) (w : World) (h : m ≤ 1000000000) :
    Calls Tryd.prog 66 #[.int .i64 m, .int .i64 1] w fun e w' => e = .returned (.string (mk (dec m))) ∧ Below w.heap.size w w' := by
  obtain ⟨h1, h2⟩ := cnt_spec m
  refine rtext_any m 1 (cnt m) w (by omega) (by decide) (Nat.le_trans (cnt_le 9 m (by omega)) (by decide)) (cnt_pos m) h1 (fun k hk => ?_)
  by_cases e : k = 0
  · exact .inl (by omega)
  · exact .inr (h2 k (by omega) hk)
theorem rtext_four (r : Nat) (w : World) (h : r < 10000) :
    Calls Tryd.prog 66 #[.int .i64 r, .int .i64 4] w fun e w' => e = .returned (.string (mk (txt r 4))) ∧ Below w.heap.size w w' :=
  rtext_any r 4 4 w (by omega) (by decide) (by decide) (Nat.le_refl _) (by simpa using h) (fun k hk => .inl hk)

/-- What is left of the digits when the zeros behind are struck. -/
def zz (r j : Nat) : List UInt8 := txt (r / 10 ^ (4 - j)) j
theorem zz_four (r : Nat) : zz r 4 = txt r 4 := by unfold zz; rw [Nat.sub_self, Nat.pow_zero, Nat.div_one]
theorem zz_next (r j : Nat) (hj : j < 4) : zz r (j + 1) = zz r j ++ [UInt8.ofNat (48 + r / 10 ^ (3 - j) % 10)] := by
  unfold zz
  rw [txt_snoc, show 4 - (j + 1) = 3 - j by omega, show 4 - j = (3 - j) + 1 by omega, div_step]
theorem zz_len (r j : Nat) : (zz r j).length = j := txt_len _ _
theorem zz_last (r j : Nat) (hj : j < 4) (h : j < (mk (zz r (j + 1))).size) : ((mk (zz r (j + 1)))[j]).toNat = 48 + r / 10 ^ (3 - j) % 10 := by
  rw [mk_get]
  have e := zz_next r j hj
  have : (zz r (j + 1))[j]'h = UInt8.ofNat (48 + r / 10 ^ (3 - j) % 10) := by
    have h2 : (zz r (j + 1))[j]? = some (UInt8.ofNat (48 + r / 10 ^ (3 - j) % 10)) := by
      rw [e, List.getElem?_append_right (by rw [zz_len]; exact Nat.le_refl _), zz_len, Nat.sub_self]; rfl
    rw [List.getElem?_eq_getElem h] at h2
    exact Option.some.inj h2
  rw [this, byte_toNat _ (Nat.mod_lt _ (by decide))]
theorem zz_cut (r j : Nat) (hj : j < 4) : (mk (zz r (j + 1))).extract 0 j = mk (zz r j) := by
  rw [ext_take, mk_data, zz_next r j hj]
  congr 1
  have := zz_len r j
  rw [List.take_append_of_le_length (by omega), List.take_of_length_le (by omega)]
theorem zz_end (r j : Nat) (hj : j < 4) (hz : r % 10 ^ (3 - j) = 0) (hn : r / 10 ^ (3 - j) % 10 ≠ 0) : zz r (j + 1) = fdig r := by
  unfold zz fdig
  have hc : j = 0 ∨ j = 1 ∨ j = 2 ∨ j = 3 := by omega
  rcases hc with rfl | rfl | rfl | rfl <;> simp only [Nat.reduceSub, Nat.reduceAdd, Nat.reducePow, Nat.div_one] at hz hn ⊢
  · rw [if_pos hz]
  · rw [if_neg (by omega), if_pos hz]
  · rw [if_neg (by omega), if_neg (by omega), if_pos hz]
  · rw [if_neg (by omega), if_neg (by omega), if_neg (by omega)]

set_option maxHeartbeats 1000000 in
theorem rfmt_int (d x : Int) (m : Nat) (w : World) (hm : m ≤ 10000000000000) (hr : m % 10000 = 0) (hx : x = m ∧ 0 ≤ x ∨ x = -(m : Int) ∧ x < 0)
    (HN : Hid (∀ w, Calls Tryd.prog 49 #[.int .i64 d] w fun e w' => e = .returned (.int .i64 x) ∧ w = w'))
    (HS : Hid (∀ w, Calls Tryd.prog 45 #[.int .i64 x] w fun e w' => e = .returned (.int .i64 m) ∧ w = w'))
    (a : ByteArray) (ha : a.size ≤ 10)
    (HT : Hid (∀ w, Calls Tryd.prog 66 #[.int .i64 ((m : Int) / 10000), .int .i64 1] w fun e w' => e = .returned (.string a) ∧ Below w.heap.size w w')) :
    Calls Tryd.prog 37 #[.int .i64 d] w fun e w' => e = .returned (.string (if x < 0 then ⟨#[45]⟩ ++ a else a)) ∧ Below w.heap.size w w' := by
  have hr0 : (((m : Int) % 10000) != 0) = false := by simp; omega
  have HR := Lib.hid hr
  clear hr
  rcases hx with ⟨hx, hx2⟩ | ⟨hx, hx2⟩
  · rw [if_neg (by omega)]
    have hx3 : ¬ x < 0 := by omega
    clear hx
    go_enter Tryd.func37, Tryd.ntmps37
    go_wp2_with (first | (go_at_call 49; refine (HN.out _).mono ?_; rintro e w' ⟨rfl, rfl⟩) | (go_at_call 45; refine (HS.out _).mono ?_; rintro e w' ⟨rfl, rfl⟩) | (go_at_call 66; refine (HT.out _).mono ?_; rintro e w1 ⟨rfl, hb⟩))
    go_ret
    exact ⟨rfl, hb⟩
  · rw [if_pos hx2]
    clear hx
    go_enter Tryd.func37, Tryd.ntmps37
    go_wp2_with (first | (go_at_call 49; refine (HN.out _).mono ?_; rintro e w' ⟨rfl, rfl⟩) | (go_at_call 45; refine (HS.out _).mono ?_; rintro e w' ⟨rfl, rfl⟩) | (go_at_call 66; refine (HT.out _).mono ?_; rintro e w1 ⟨rfl, hb⟩))
    go_ret
    exact ⟨rfl, hb⟩

set_option maxHeartbeats 1000000 in
theorem rfmt_frac (d x : Int) (m r : Nat) (w : World) (hm : m ≤ 10000000000000) (hr : m % 10000 = r) (h0 : 0 < r) (h4 : r < 10000) (hx : x = m ∧ 0 ≤ x ∨ x = -(m : Int) ∧ x < 0)
    (HN : Hid (∀ w, Calls Tryd.prog 49 #[.int .i64 d] w fun e w' => e = .returned (.int .i64 x) ∧ w = w'))
    (HS : Hid (∀ w, Calls Tryd.prog 45 #[.int .i64 x] w fun e w' => e = .returned (.int .i64 m) ∧ w = w'))
    (a : ByteArray) (ha : a.size ≤ 10)
    (HT : Hid (∀ w, Calls Tryd.prog 66 #[.int .i64 ((m : Int) / 10000), .int .i64 1] w fun e w' => e = .returned (.string a) ∧ Below w.heap.size w w'))
    (HF : Hid (∀ w, Calls Tryd.prog 66 #[.int .i64 ((m : Int) % 10000), .int .i64 4] w fun e w' => e = .returned (.string (mk (zz r 4))) ∧ Below w.heap.size w w')) :
    Calls Tryd.prog 37 #[.int .i64 d] w fun e w' => e = .returned (.string (if x < 0 then ⟨#[45]⟩ ++ (a ++ ⟨#[46]⟩ ++ mk (fdig r)) else a ++ ⟨#[46]⟩ ++ mk (fdig r))) ∧ Below w.heap.size w w' := by
  have hr0 : (((m : Int) % 10000) != 0) = true := by simp; omega
  have HR := Lib.hid hr
  have H0 : Hid (0 < r ∧ r < 10000) := ⟨h0, h4⟩
  clear hr h0 h4
  generalize hRes : (if x < 0 then ⟨#[45]⟩ ++ (a ++ ⟨#[46]⟩ ++ mk (fdig r)) else a ++ ⟨#[46]⟩ ++ mk (fdig r)) = Res
  have HRes := Lib.hid hRes
  clear hRes
  go_enter Tryd.func37, Tryd.ntmps37
  go_wp2_with (first | (go_at_call 49; refine (HN.out _).mono ?_; rintro e w' ⟨rfl, rfl⟩) | (go_at_call 45; refine (HS.out _).mono ?_; rintro e w' ⟨rfl, rfl⟩) | (go_at_call 66; first | ((with_reducible refine (HT.out _).mono ?_); rintro e w1 ⟨rfl, hb⟩) | ((with_reducible refine (HF.out _).mono ?_); rintro e w2 ⟨rfl, hb2⟩)))
  go_loop [5] (fun s => ∃ j : Nat, j < 4 ∧ s = .string (mk (zz r (j + 1))) ∧ Hid (r % 10 ^ (3 - j) = 0)) (fun s => match s with | .string t => t.size | _ => 0)
  case atStart => exact ⟨3, by omega, rfl, by simp [Hid, Nat.mod_one]⟩
  case round =>
    obtain ⟨j, hj, rfl, hz⟩ := hrel
    have hsz : (mk (zz r (j + 1))).size = j + 1 := zz_len _ _
    have hjl : j < (mk (zz r (j + 1))).size := by omega
    have hlast := zz_last r j hj hjl
    have HC : Hid ((mk (zz r (j + 1))).extract 0 j = mk (zz r j)) := zz_cut r j hj
    have HE : Hid (r / 10 ^ (3 - j) % 10 ≠ 0 → zz r (j + 1) = fdig r) := zz_end r j hj hz.out
    have hdig : r / 10 ^ (3 - j) % 10 < 10 := Nat.mod_lt _ (by decide)
    have HNX : Hid (r / 10 ^ (3 - j) % 10 = 0 → 0 < j ∧ r % 10 ^ (3 - (j - 1)) = 0) := fun hq => by
      have h1 := hz.out
      have h2 : r % 10 ^ (3 - j + 1) = 0 := by
        rw [Nat.pow_succ, Nat.mod_mul, h1, hq]; simp
      by_cases e : j = 0
      · subst e
        have := H0.out
        simp only [Nat.sub_zero, Nat.reduceAdd] at h2
        rw [Nat.mod_eq_of_lt (by simpa using this.2)] at h2
        omega
      · refine ⟨by omega, ?_⟩
        rw [show 3 - (j - 1) = 3 - j + 1 by omega]; exact h2
    generalize r / 10 ^ (3 - j) % 10 = q at *
    have hi1 : (0 : Int) ≤ ((mk (zz r (j + 1))).size : Int) - 1 := by omega
    have hi2 : ((mk (zz r (j + 1))).size : Int) - 1 < (mk (zz r (j + 1))).size := by omega
    have hi3 : (((mk (zz r (j + 1))).size : Int) - 1).toNat = j := by omega
    have hbs : (mk (zz r (j + 1))).size ≤ 4 := by omega
    by_cases hq : q = 0
    · obtain ⟨hj0, hnz⟩ := HNX.out hq
      have HJ : Hid (mk (zz r j) = mk (zz r (j - 1 + 1))) := by
        show mk (zz r j) = mk (zz r (j - 1 + 1))
        rw [show j - 1 + 1 = j by omega]
      have HZ := Lib.hid hnz
      have HSZ := Lib.hid hsz
      generalize mk (zz r (j + 1)) = t at *
      have hb0 : (((t[j]'hjl).toNat : Int) == 48) = true := by rw [beq_iff_eq]; omega
      clear hlast HE HNX hz hnz hsz
      go_wp2
      go_round
      case rel => exact ⟨j - 1, by omega, by rw [HC.out, HJ.out], HZ.out⟩
      case measure => have := HSZ.out; simp; omega
    · have HF2 : Hid (mk (zz r (j + 1)) = mk (fdig r)) := by
        show mk _ = mk _
        rw [HE.out hq]
      have HSZ := Lib.hid hsz
      have hRes2 : Hid ((if x < 0 then ⟨#[45]⟩ ++ (a ++ ⟨#[46]⟩ ++ mk (zz r (j + 1))) else a ++ ⟨#[46]⟩ ++ mk (zz r (j + 1))) = Res) := by
        show (if x < 0 then _ else _) = Res
        rw [HF2.out]; exact HRes.out
      generalize mk (zz r (j + 1)) = t at *
      have hb0 : (((t[j]'hjl).toNat : Int) == 48) = false := by rw [beq_eq_false_iff_ne]; omega
      clear hlast HE HNX hz HC HF2 hsz
      rcases hx with ⟨hx, hx2⟩ | ⟨hx, hx2⟩
      · have hx3 : ¬ x < 0 := by omega
        have hRes3 : Hid (a ++ ⟨#[46]⟩ ++ t = Res) := by
          have := hRes2.out
          rw [if_neg hx3] at this; exact this
        clear hx hRes2
        go_wp2
        go_ret
        exact ⟨ret_s hRes3.out, hb.trans (hb2.mono hb.size)⟩
      · have hRes3 : Hid (⟨#[45]⟩ ++ (a ++ ⟨#[46]⟩ ++ t) = Res) := by
          have := hRes2.out
          rw [if_pos hx2] at this; exact this
        clear hx hRes2
        go_wp2
        go_ret
        exact ⟨ret_s hRes3.out, hb.trans (hb2.mono hb.size)⟩

theorem rdfmt_any (d : Int) (w : World) :
    Calls Tryd.prog 37 #[.int .i64 d] w fun e w' => e = .returned (.string (mk (decT (nearV d)))) ∧ Below w.heap.size w w' := by
  obtain ⟨d1, d2⟩ := near_valid d
  have HN : Hid (∀ w, Calls Tryd.prog 49 #[.int .i64 d] w fun e w' => e = .returned (.int .i64 (nearV d)) ∧ w = w') := fun w => rnear_any d w
  generalize nearV d = x at *
  have HS : Hid (∀ w, Calls Tryd.prog 45 #[.int .i64 x] w fun e w' => e = .returned (.int .i64 (x.natAbs : Int)) ∧ w = w') := fun w => by
    have := rsize_any x w ⟨by omega, by omega⟩
    rw [abV_nat] at this; exact this
  have hx : x = x.natAbs ∧ 0 ≤ x ∨ x = -(x.natAbs : Int) ∧ x < 0 := by omega
  have HT : Hid (∀ w, Calls Tryd.prog 66 #[.int .i64 ((x.natAbs : Int) / 10000), .int .i64 1] w fun e w' => e = .returned (.string (mk (dec (x.natAbs / 10000)))) ∧ Below w.heap.size w w') := fun w => by
    rw [show (x.natAbs : Int) / 10000 = ((x.natAbs / 10000 : Nat) : Int) by omega]
    exact rtext_dec _ w (by omega)
  have ha : (mk (dec (x.natAbs / 10000))).size ≤ 10 := dec_len _ (by omega)
  unfold decT
  by_cases hr : x.natAbs % 10000 = 0
  · have h := rfmt_int d x x.natAbs w (by omega) hr hx HN HS _ ha HT
    have e : frT (x.natAbs % 10000) = [] := by unfold frT; rw [if_pos hr]
    rw [e, List.append_nil]
    by_cases hn : x < 0
    · rw [if_pos hn] at h ⊢
      rw [← mk_append]; exact h
    · rw [if_neg hn] at h ⊢
      exact h
  · have HF : Hid (∀ w, Calls Tryd.prog 66 #[.int .i64 ((x.natAbs : Int) % 10000), .int .i64 4] w fun e w' => e = .returned (.string (mk (zz (x.natAbs % 10000) 4))) ∧ Below w.heap.size w w') := fun w => by
      rw [show (x.natAbs : Int) % 10000 = ((x.natAbs % 10000 : Nat) : Int) by omega, zz_four]
      exact rtext_four _ w (Nat.mod_lt _ (by decide))
    have h := rfmt_frac d x x.natAbs (x.natAbs % 10000) w (by omega) rfl (by omega) (Nat.mod_lt _ (by decide)) hx HN HS _ ha HT HF
    have e : frT (x.natAbs % 10000) = 46 :: fdig (x.natAbs % 10000) := by unfold frT; rw [if_neg hr]
    have e2 : mk (dec (x.natAbs / 10000)) ++ ⟨#[46]⟩ ++ mk (fdig (x.natAbs % 10000)) = mk (dec (x.natAbs / 10000) ++ 46 :: fdig (x.natAbs % 10000)) := by
      have : (⟨#[46]⟩ : ByteArray) = mk [46] := rfl
      rw [this, mk_append, mk_append, List.append_assoc]; rfl
    rw [e]
    rw [e2] at h
    by_cases hn : x < 0
    · rw [if_pos hn] at h ⊢
      rw [← mk_append]; exact h
    · rw [if_neg hn] at h ⊢
      rw [List.nil_append]; exact h

end Go.Proofs.YtdgbfblhiongoaaDoor
