/- What digits denote, as the reference of layer 2 reckons it. -/
import Derived.Test.YtdgbfblhiongoaaDoorDecNumB
namespace Go.Proofs.YtdgbfblhiongoaaDoor
open Go.RowKit

theorem nv_append (a b : List UInt8) : nv (a ++ b) = nv a * 10 ^ b.length + nv b := by
  have : ∀ (b : List UInt8) (n m : Nat), b.foldl (fun n c => n * 10 + (c.toNat - 48)) (n + m) = n * 10 ^ b.length + b.foldl (fun n c => n * 10 + (c.toNat - 48)) m := by
    intro b
    induction b with
    | nil => intro n m; simp
    | cons c r ih =>
      intro n m
      rw [List.foldl_cons, List.foldl_cons, List.length_cons, show (n + m) * 10 + (c.toNat - 48) = n * 10 + (m * 10 + (c.toNat - 48)) by omega, ih, Nat.pow_succ, Nat.mul_assoc, Nat.mul_comm 10]
  have h := this b (nv a) 0
  rw [Nat.add_zero] at h
  unfold nv at *
  rw [List.foldl_append]; exact h

/-- The digits behind the point, filled up to four. -/
def padF (f : List UInt8) : List UInt8 := f ++ List.replicate (4 - f.length) 48
theorem nv_zeros : ∀ k, nv (List.replicate k 48) = 0
  | 0 => rfl
  | k + 1 => by
    rw [List.replicate_succ', nv_snoc, nv_zeros k]; rfl
theorem nv_pad (f : List UInt8) : nv (padF f) = fr f := by
  unfold padF fr
  rw [nv_append, nv_zeros, List.length_replicate, Nat.add_zero]
theorem pad_len (f : List UInt8) (h : f.length ≤ 4) : (padF f).length = 4 := by
  unfold padF; rw [List.length_append, List.length_replicate]; omega

/-- What is reckoned after k digits behind the point. -/
def nk (b f : List UInt8) (k : Nat) : Nat := nv (b ++ (padF f).take k)
theorem nk_zero (b f : List UInt8) : nk b f 0 = nv b := by unfold nk; rw [List.take_zero, List.append_nil]
theorem nk_four (b f : List UInt8) (h : f.length ≤ 4) : nk b f 4 = nv b * 10000 + fr f := by
  unfold nk
  rw [List.take_of_length_le (by rw [pad_len f h]; exact Nat.le_refl _), nv_append, pad_len f h, nv_pad]
theorem nk_le (b f : List UInt8) (k : Nat) (h : f.length ≤ 4) : nk b f k ≤ nv b * 10000 + fr f := by
  rw [← nk_four b f h]
  unfold nk
  rw [List.take_of_length_le (l := padF f) (i := 4) (by rw [pad_len f h]; exact Nat.le_refl _)]
  have : (b ++ padF f).take (b.length + k) = b ++ (padF f).take k := by rw [List.take_length_add_append]
  rw [← this]
  exact nv_take_le _ _
theorem nk_in (b f : List UInt8) (k : Nat) (h : k < f.length) : nk b f (k + 1) = nk b f k * 10 + (f[k].toNat - 48) := by
  unfold nk
  have hl : k < (padF f).length := by unfold padF; rw [List.length_append]; omega
  rw [List.take_succ_eq_append_getElem hl, ← List.append_assoc, nv_snoc]
  have : (padF f)[k] = f[k] := List.getElem_append_left h
  rw [this]
theorem nk_out (b f : List UInt8) (k : Nat) (h : f.length ≤ k) (h4 : k < 4) : nk b f (k + 1) = nk b f k * 10 := by
  unfold nk
  have hl : k < (padF f).length := by unfold padF; rw [List.length_append, List.length_replicate]; omega
  rw [List.take_succ_eq_append_getElem hl, ← List.append_assoc, nv_snoc]
  have : (padF f)[k] = 48 := (List.getElem_append_right h).trans (List.getElem_replicate ..)
  rw [this]; rfl

theorem ret_ib {a b : Int} {x y : Bool} (h1 : a = b) (h2 : x = y) : Ending.returned (.tuple #[.int .i64 a, .bool x]) = .returned (.tuple #[.int .i64 b, .bool y]) := by rw [h1, h2]

set_option maxHeartbeats 800000 in
theorem rnum_any (s t : ByteArray) (w : World) (hs : s.size ≤ maxLen) (ht : t.size ≤ 4) (hd : allD s.data.toList = true) (he : allD t.data.toList = true) :
    Calls Tryd.prog 59 #[.string s, .string t] w fun e w' => e = .returned (.tuple #[.int .i64 (dn s.data.toList t.data.toList), .bool (dnOk s.data.toList t.data.toList)]) ∧ w = w' := by
  unfold maxLen at hs
  have HD : Hid (allD s.data.toList = true) := hd
  have HE : Hid (allD t.data.toList = true) := he
  have HF : Hid (fr t.data.toList < 10000) := fr_bound _ he (by rw [size_len]; exact ht)
  have HT : Hid (t.data.toList.length ≤ 4) := by rw [size_len]; exact ht
  generalize hRV : dn s.data.toList t.data.toList = RV
  generalize hRO : dnOk s.data.toList t.data.toList = RO
  have HV := Lib.hid hRV
  have HO := Lib.hid hRO
  clear hd he hRV hRO
  go_enter Tryd.func59, Tryd.ntmps59
  go_wp2
  go_loop [6, 7] (fun v i => ∃ (k x : Nat), k ≤ s.size ∧ i = .int .i64 k ∧ v = .int .i64 x ∧ x ≤ 1000000000 ∧ Hid (nv (s.data.toList.take k) = x)) (fun _ i => s.size - (intOf i).toNat)
  case atStart => exact ⟨0, 0, Nat.zero_le _, rfl, rfl, by omega, rfl⟩
  case round =>
    obtain ⟨k, x, hk, rfl, rfl, x2, hx⟩ := hrel
    by_cases hlt : k < s.size
    · obtain ⟨c1, c2⟩ := dig_at s k hlt HD.out
      have hstep := nv_take s.data.toList k (by rw [size_len]; exact hlt)
      rw [hx.out, ← get_list s k hlt] at hstep
      by_cases hbig : (1000000000 : Int) < (x : Int) * 10 + ((s[k].toNat : Int) - 48)
      · have hn : ¬ nv s.data.toList ≤ 1000000000 := by
          have := nv_take_le s.data.toList (k + 1)
          omega
        have r1 : Hid (RV = 0) := by
          show RV = 0
          rw [← HV.out, dn, if_neg hn]
        have r2 : Hid (RO = false) := by
          show RO = false
          rw [← HO.out, dnOk, decide_eq_false hn]; rfl
        clear hstep hx hn
        go_wp2
        go_ret2
        exact ⟨ret_ib r1.out.symm r2.out.symm, rfl⟩
      · have HS := Lib.hid hstep
        clear hstep hx
        go_wp2
        go_round
        case rel => exact ⟨k + 1, x * 10 + (s[k].toNat - 48), by omega, by go_num, by congr 1; omega, by omega, HS⟩
        case measure => simp [intOf]; omega
    · have hx' : Hid (nv s.data.toList = x) := by
        have := hx.out
        rw [List.take_of_length_le (by rw [size_len]; omega)] at this; exact this
      clear hx
      go_wp2
      go_loop [6, 8] (fun v i => ∃ (j y : Nat), j ≤ 4 ∧ i = .int .i64 j ∧ v = .int .i64 y ∧ y ≤ 10000000009999 ∧ Hid (nk s.data.toList t.data.toList j = y)) (fun _ i => 4 - (intOf i).toNat)
      case atStart => exact ⟨0, x, by omega, rfl, rfl, by omega, by show nk _ _ 0 = x; rw [nk_zero, hx'.out]⟩
      case round =>
        obtain ⟨j, y, hj, rfl, rfl, y2, hy⟩ := hrel
        by_cases h4 : (j : Int) < 4
        · have hle := nk_le s.data.toList t.data.toList (j + 1) HT.out
          have hfr := HF.out
          rw [hx'.out] at hle
          by_cases hin : j < t.size
          · obtain ⟨c1, c2⟩ := dig_at t j hin HE.out
            have hstep := nk_in s.data.toList t.data.toList j (by rw [size_len]; exact hin)
            rw [hy.out, ← get_list t j hin] at hstep
            rw [hstep] at hle
            have y3 : y * 10 + (t[j].toNat - 48) ≤ 10000000009999 := by omega
            have HS := Lib.hid hstep
            clear hstep hy hle hfr
            go_wp2
            all_goals first
              | (exfalso; omega)
              | (go_round
                 case rel => exact ⟨j + 1, y * 10 + (t[j].toNat - 48), by omega, by go_num, by congr 1; omega, y3, HS⟩
                 case measure => simp [intOf]; omega)
          · have hstep := nk_out s.data.toList t.data.toList j (by rw [size_len]; omega) (by omega)
            rw [hy.out] at hstep
            rw [hstep] at hle
            have y3 : y * 10 ≤ 10000000009999 := by omega
            have HS := Lib.hid hstep
            clear hstep hy hle hfr
            go_wp2
            all_goals first
              | (exfalso; omega)
              | (go_round
                 case rel => exact ⟨j + 1, y * 10, by omega, by go_num, by congr 1, y3, HS⟩
                 case measure => simp [intOf]; omega)
        · have h5 : j = 4 := by omega
          have hn : nk s.data.toList t.data.toList 4 = y := by rw [← h5]; exact hy.out
          rw [nk_four _ _ HT.out] at hn
          have hb : nv s.data.toList ≤ 1000000000 := by rw [hx'.out]; exact x2
          have r1 : Hid ((y : Int) = RV) := by
            show (y : Int) = RV
            rw [← HV.out, dn, if_pos hb, hn]
          have r2 : Hid (RO = decide (y ≤ 10000000000000)) := by
            show RO = _
            rw [← HO.out, dnOk, decide_eq_true hb, hn]; rfl
          have HB := Lib.hid hn
          clear hn hy hb h5
          by_cases hok : (y : Int) ≤ 10000000000000
          · have r3 : Hid (RO = true) := by rw [r2.out]; exact decide_eq_true (by omega)
            clear r2
            go_wp2
            go_ret2
            exact ⟨ret_ib r1.out r3.out.symm, rfl⟩
          · have r3 : Hid (RO = false) := by rw [r2.out]; exact decide_eq_false (by omega)
            clear r2
            go_wp2
            go_ret2
            exact ⟨ret_ib r1.out r3.out.symm, rfl⟩

end Go.Proofs.YtdgbfblhiongoaaDoor
