/- The number at the beginning of a text: the reference's Prefix hands back what the program's does. -/
import Derived.Test.YtdgbfblhiongoaaDoorDecPrefixR
import Derived.Test.YtdgbfblhiongoaaDoorDecRT
namespace Go.Proofs.YtdgbfblhiongoaaDoor
open Go.RowKit

def isB (c : UInt8) : Bool := [32, 9].contains c
theorem drop_take (l : List UInt8) : l.dropWhile isB = l.drop (l.takeWhile isB).length := by
  induction l with
  | nil => rfl
  | cons c r ih =>
    rw [List.dropWhile_cons, List.takeWhile_cons]
    by_cases h : isB c = true
    · rw [if_pos h, if_pos h, List.length_cons, List.drop_succ_cons]; exact ih
    · rw [if_neg h, if_neg h]; rfl
/-- How many blanks a text begins with. -/
def bN (l : List UInt8) : Nat := (l.takeWhile isB).length
theorem x1_drop (l : List UInt8) : x1 l = l.drop (bN l) := drop_take l
theorem bN_le (l : List UInt8) : bN l ≤ l.length := (List.takeWhile_prefix isB).length_le
theorem bN_in (l : List UInt8) (k : Nat) (h : k < bN l) (h2 : k < l.length) : isB l[k] = true := by
  have h3 : (l.takeWhile isB)[k]'h = l[k] := (List.takeWhile_prefix isB).getElem h
  rw [← h3]
  exact List.all_eq_true.1 (List.all_takeWhile (p := isB)) _ (List.getElem_mem h)
theorem bN_out (l : List UInt8) (h : bN l < l.length) : isB l[bN l] = false := by
  induction l with
  | nil => simp at h
  | cons c r ih =>
    unfold bN at *
    by_cases hc : isB c = true
    · have e : ((c :: r).takeWhile isB).length = (r.takeWhile isB).length + 1 := by rw [List.takeWhile_cons, if_pos hc]; rfl
      simp only [e] at h ⊢
      rw [List.getElem_cons_succ]
      exact ih (by simpa using h)
    · have e : ((c :: r).takeWhile isB).length = 0 := by rw [List.takeWhile_cons, if_neg hc]; rfl
      simp only [e]
      simpa using hc
theorem isB_iff (c : UInt8) : isB c = true ↔ c.toNat = 32 ∨ c.toNat = 9 := by
  unfold isB
  simp
  constructor
  · rintro (rfl | rfl) <;> simp
  · rintro (h | h)
    · exact .inl (UInt8.toNat_inj.1 h)
    · exact .inr (UInt8.toNat_inj.1 h)
theorem hd_at (x : UInt8) (l : List UInt8) (k : Nat) (h : k < l.length) : hd x (l.drop k) = decide (l[k].toNat = x.toNat) := by
  unfold hd
  rw [head_at l k h, Bool.eq_iff_iff]
  simp
  exact UInt8.toNat_inj.symm
theorem hd_end (x : UInt8) (l : List UInt8) (k : Nat) (h : l.length ≤ k) : hd x (l.drop k) = false := by
  rw [List.drop_of_length_le h]; rfl
theorem b2i (c x : Nat) : ((c : Int) == (x : Int)) = decide (c = x) := by
  rw [Bool.eq_iff_iff]; simp; omega

/-- The value: what the reference reckons out of its number. -/
theorem val_eq (l : List UInt8) (hn : xNone l = false) :
    (dnOk (xW l) ((xF l).take 4) = true → xV l = sgn (dn (xW l) ((xF l).take 4)) (hd 45 (x1 l)) ∧ 0 ≤ dn (xW l) ((xF l).take 4) ∧ dn (xW l) ((xF l).take 4) ≤ 10000000000000) ∧
    (dnOk (xW l) ((xF l).take 4) = false → xV l = sgn 10000000000000 (hd 45 (x1 l))) := by
  unfold xV dnOk dn
  rw [hn]
  simp only [Bool.false_eq_true, if_false]
  obtain ⟨b1, b2⟩ := bw_nv (xW l)
  generalize bw (xW l) = B at *
  generalize nv (xW l) = V at *
  generalize fr ((xF l).take 4) = q at *
  generalize hd 45 (x1 l) = M at *
  by_cases h : V ≤ 1000000000
  · rw [if_pos h, decide_eq_true h, Bool.true_and, b1 h]
    by_cases h2 : V * 10000 + q ≤ 10000000000000
    · rw [decide_eq_true h2]
      refine ⟨fun _ => ⟨near_same _ ((vB_iff _).2 (sgn_bd _ _ _ ⟨by omega, by omega⟩)), by omega, by omega⟩, (fun hc => (by cases hc))⟩
    · rw [decide_eq_false h2]
      refine ⟨(fun hc => (by cases hc)), fun _ => ?_⟩
      unfold nearV sgn
      cases M
      · simp only [Bool.false_eq_true, if_false]; rw [if_neg (by omega), if_pos (by omega)]
      · simp only [if_true]; rw [if_pos (by omega)]
  · have hb := b2 (by omega)
    rw [if_neg h, decide_eq_false h, Bool.false_and]
    refine ⟨(fun hc => (by cases hc)), fun _ => ?_⟩
    unfold nearV sgn
    cases M
    · simp only [Bool.false_eq_true, if_false]; rw [if_neg (by omega), if_pos (by omega)]
    · simp only [if_true]; rw [if_pos (by omega)]

set_option maxHeartbeats 1000000 in
theorem rp_N (s : ByteArray) (w : World) (hs : s.size ≤ maxLen) (hc : bN s.data.toList < s.size) (c45 : (s[bN s.data.toList]'hc).toNat = 45) :
    Calls Tryd.prog 35 #[.string s] w fun e w' => e = .returned (.tuple #[.int .i64 (xV s.data.toList), .int .i64 (xN s.data.toList)]) ∧ w = w' := by
  have hmx := hs
  unfold maxLen at hs
  have hll := size_len s
  have hB : bN s.data.toList ≤ s.size := Nat.le_of_lt hc
  have HB : Hid (∀ k, ∀ h : k < bN s.data.toList, ∀ h2 : k < s.size, (((s[k]'h2).toNat : Int) == 32) = true ∨ ((((s[k]'h2).toNat : Int) == 32) = false ∧ (((s[k]'h2).toNat : Int) == 9) = true)) := fun k h h2 => by
    have h3 := (isB_iff _).1 (bN_in s.data.toList k h (by omega))
    rw [← get_list s k h2] at h3
    by_cases h4 : (s[k]'h2).toNat = 32
    · exact .inl (by rw [beq_iff_eq]; omega)
    · exact .inr ⟨by rw [beq_eq_false_iff_ne]; omega, by rw [beq_iff_eq]; omega⟩
  have hnb := bN_out s.data.toList (by omega)
  have hnb2 : ¬ ((s[bN s.data.toList]'hc).toNat = 32 ∨ (s[bN s.data.toList]'hc).toNat = 9) := by
    rw [get_list, ← isB_iff, hnb]; simp
  have f32 : (((s[bN s.data.toList]'hc).toNat : Int) == 32) = false := by rw [beq_eq_false_iff_ne]; omega
  have f9 : (((s[bN s.data.toList]'hc).toNat : Int) == 9) = false := by rw [beq_eq_false_iff_ne]; omega
  have f45 : (((s[bN s.data.toList]'hc).toNat : Int) == 45) = true := by rw [beq_iff_eq]; omega
  have h1 : x1 s.data.toList = x1 s.data.toList := rfl
  have hm : hd 45 (x1 s.data.toList) = true := by
    rw [x1_drop, hd_at 45 _ _ (by omega), ← get_list s _ hc]
    exact decide_eq_true c45
  have hp : hd 43 (x1 s.data.toList) = false := by
    rw [x1_drop, hd_at 43 _ _ (by omega), ← get_list s _ hc]
    exact decide_eq_false (fun h => by have : (43 : UInt8).toNat = 43 := rfl; omega)
  have h2 : x2 s.data.toList = s.data.toList.drop (bN s.data.toList + 1) := by
    unfold x2 unsign
    rw [h1, hm, if_pos rfl, x1_drop, List.tail_drop]
  have hFs : (bN s.data.toList + 1) ≤ s.size := by omega
  have HD0 := fun w => rdig_any s (bN s.data.toList + 1) w hmx hFs
  rw [← h2] at HD0
  have hTl : (bN s.data.toList + 1) + (xW s.data.toList).length ≤ s.size := by
    have := ldig_len_le (x2 s.data.toList)
    unfold xW
    rw [h2, List.length_drop, hll] at this
    rw [h2]; omega
  have hx3 : x3 s.data.toList = s.data.toList.drop ((bN s.data.toList + 1) + (xW s.data.toList).length) := by
    unfold x3 rD xW
    rw [h2, List.drop_drop]
  generalize hT : (bN s.data.toList + 1) + (xW s.data.toList).length = T at HD0 hTl hx3
  have HD : Hid (∀ w, Calls Tryd.prog 58 #[.string s, .int .i64 (((bN s.data.toList : Nat) : Int) + 1)] w fun e w' => e = .returned (.int .i64 T) ∧ w = w') := fun w => by
    have h9 := HD0 w
    unfold xW at hT
    rw [hT] at h9
    exact h9
  clear HD0
  have hFT : (bN s.data.toList + 1) ≤ T := by omega
  have hWx : s.extract (bN s.data.toList + 1) T = mk (xW s.data.toList) := by
    unfold xW at hT ⊢
    rw [ext_mid, ← h2, ← hT, show (bN s.data.toList + 1) + (ldig (x2 s.data.toList)).length - (bN s.data.toList + 1) = (ldig (x2 s.data.toList)).length by omega, take_len]
  have hWd : allD (xW s.data.toList) = true := all_ldig _
  have hWs : (mk (xW s.data.toList)).size ≤ maxLen := by rw [mk_size]; omega
  have hsg : ∀ x, sgn x (hd 45 (x1 s.data.toList)) = -x := fun x => by rw [hm]; rfl
  by_cases hdot : hd 46 (x3 s.data.toList) = true
  · have hk : T < s.size := by
      by_cases h : T < s.size
      · exact h
      · rw [hx3, hd_end 46 _ _ (by omega)] at hdot; cases hdot
    have hk46 : (s[T]'hk).toNat = 46 := by
      rw [hx3, hd_at 46 _ _ (by omega)] at hdot
      exact of_decide_eq_true hdot
    have h46 : (((s[T]'hk).toNat : Int) == 46) = true := by rw [beq_iff_eq]; omega
    have hxF : xF s.data.toList = ldig (s.data.toList.drop (T + 1)) := by unfold xF; rw [hdot, if_pos rfl, hx3, List.tail_drop]
    have hx4 : (x4 s.data.toList).length = s.size - (T + 1 + (xF s.data.toList).length) := by
      rw [hxF]
      unfold x4 rD
      rw [hdot, if_pos rfl, hx3, List.tail_drop, List.length_drop, List.length_drop, hll]
      omega
    have HQ0 := fun w => rdig_any s (T + 1) w hmx (by omega)
    rw [← hxF] at HQ0
    have hKl : T + 1 + (xF s.data.toList).length ≤ s.size := by
      have := ldig_len_le (s.data.toList.drop (T + 1))
      rw [List.length_drop, hll] at this
      rw [hxF]; omega
    generalize hK : T + 1 + (xF s.data.toList).length = K at HQ0 hKl hx4
    have HQ : Hid (∀ w, Calls Tryd.prog 58 #[.string s, .int .i64 ((T : Int) + 1)] w fun e w' => e = .returned (.int .i64 K) ∧ w = w') := HQ0
    have hK1 : T + 1 ≤ K := by omega
    have hFx : s.extract (T + 1) K = mk (xF s.data.toList) := by
      rw [ext_mid, hxF, ← hK, hxF, show T + 1 + (ldig (s.data.toList.drop (T + 1))).length - (T + 1) = (ldig (s.data.toList.drop (T + 1))).length by omega, take_len]
    have ha4 : allD ((xF s.data.toList).take 4) = true := allD_take _ _ (allD_xF _)
    have hl4 : ((xF s.data.toList).take 4).length ≤ 4 := List.length_take_le _ _
    have HN := fun w => rnum_any (mk (xW s.data.toList)) (mk ((xF s.data.toList).take 4)) w hWs hl4 hWd ha4
    have hNn : xNone s.data.toList = false → xN s.data.toList = K := fun h => by
      unfold xN; rw [h]; simp only [Bool.false_eq_true, if_false]; rw [hx4, hll]; omega
    have hWe : (xW s.data.toList).isEmpty = decide (T = (bN s.data.toList + 1)) := by
      rw [Bool.eq_iff_iff]
      simp
      constructor
      · intro h; rw [h] at hT; simpa using hT.symm
      · intro h; exact List.eq_nil_of_length_eq_zero (by omega)
    have hFe : (xF s.data.toList).isEmpty = decide (K = T + 1) := by
      rw [Bool.eq_iff_iff]
      simp
      constructor
      · intro h; rw [h] at hK; simpa using hK.symm
      · intro h; exact List.eq_nil_of_length_eq_zero (by omega)
    have hxe : xNone s.data.toList = (decide (T = (bN s.data.toList + 1)) && decide (K = T + 1)) := by unfold xNone; rw [hWe, hFe]
    have beh : (K ≤ T + 5 → mk ((xF s.data.toList).take 4) = s.extract (T + 1) K) ∧ mk ((xF s.data.toList).take 4) = (s.extract (T + 1) K).extract 0 4 := by
      constructor
      · intro h; rw [hFx, List.take_of_length_le (by omega)]
      · rw [hFx, mk_ext_take]
    by_cases e1 : T = (bN s.data.toList + 1)
    · by_cases e2 : K = T + 1
      · have hz : xV s.data.toList = 0 ∧ xN s.data.toList = 0 := by
          unfold xV xN
          rw [hxe, decide_eq_true e1, decide_eq_true e2]; exact ⟨rfl, rfl⟩
        rw [hz.1, hz.2]
        exact rxN_d0 s w hs _ T hB hFT hTl HB hc f45 f32 f9 HD hk h46 K hK1 hKl HQ (by omega) (by omega) (by rw [beq_iff_eq]; omega)
      · have hn : xNone s.data.toList = false := by rw [hxe, decide_eq_false e2, Bool.and_false]
        obtain ⟨v1, v2⟩ := val_eq _ hn
        rw [hNn hn]
        rcases tf (dnOk (xW s.data.toList) ((xF s.data.toList).take 4)) with hok | hok
        · obtain ⟨v3, v4, v5⟩ := v1 hok
          rw [v3, hsg]
          by_cases hl : K ≤ T + 5
          · exact rxN_dBsy s w hs _ T hB hFT hTl HB hc f45 f32 f9 HD hk h46 K hK1 hKl HQ (by omega) (by omega) (by rw [beq_eq_false_iff_ne]; omega) hl _ v4 v5 (fun w => by
              have := HN w
              rw [mk_data, mk_data, hok] at this
              rw [hWx, ← beh.1 hl]; exact this)
          · exact rxN_dBly s w hs _ T hB hFT hTl HB hc f45 f32 f9 HD hk h46 K hK1 hKl HQ (by omega) (by omega) (by rw [beq_eq_false_iff_ne]; omega) (by omega) _ v4 v5 (fun w => by
              have := HN w
              rw [mk_data, mk_data, hok] at this
              rw [hWx, ← beh.2]; exact this)
        · rw [v2 hok, hsg]
          by_cases hl : K ≤ T + 5
          · exact rxN_dBsn s w hs _ T hB hFT hTl HB hc f45 f32 f9 HD hk h46 K hK1 hKl HQ (by omega) (by omega) (by rw [beq_eq_false_iff_ne]; omega) hl (dn (xW s.data.toList) ((xF s.data.toList).take 4)) (fun w => by
              have := HN w
              rw [mk_data, mk_data, hok] at this
              rw [hWx, ← beh.1 hl]; exact this)
          · exact rxN_dBln s w hs _ T hB hFT hTl HB hc f45 f32 f9 HD hk h46 K hK1 hKl HQ (by omega) (by omega) (by rw [beq_eq_false_iff_ne]; omega) (by omega) (dn (xW s.data.toList) ((xF s.data.toList).take 4)) (fun w => by
              have := HN w
              rw [mk_data, mk_data, hok] at this
              rw [hWx, ← beh.2]; exact this)
    · have hn : xNone s.data.toList = false := by rw [hxe, decide_eq_false e1, Bool.false_and]
      obtain ⟨v1, v2⟩ := val_eq _ hn
      rw [hNn hn]
      rcases tf (dnOk (xW s.data.toList) ((xF s.data.toList).take 4)) with hok | hok
      · obtain ⟨v3, v4, v5⟩ := v1 hok
        rw [v3, hsg]
        by_cases hl : K ≤ T + 5
        · exact rxN_dAsy s w hs _ T hB hFT hTl HB hc f45 f32 f9 HD hk h46 K hK1 hKl HQ (by omega) (by rw [beq_eq_false_iff_ne]; omega) hl _ v4 v5 (fun w => by
            have := HN w
            rw [mk_data, mk_data, hok] at this
            rw [hWx, ← beh.1 hl]; exact this)
        · exact rxN_dAly s w hs _ T hB hFT hTl HB hc f45 f32 f9 HD hk h46 K hK1 hKl HQ (by omega) (by rw [beq_eq_false_iff_ne]; omega) (by omega) _ v4 v5 (fun w => by
            have := HN w
            rw [mk_data, mk_data, hok] at this
            rw [hWx, ← beh.2]; exact this)
      · rw [v2 hok, hsg]
        by_cases hl : K ≤ T + 5
        · exact rxN_dAsn s w hs _ T hB hFT hTl HB hc f45 f32 f9 HD hk h46 K hK1 hKl HQ (by omega) (by rw [beq_eq_false_iff_ne]; omega) hl (dn (xW s.data.toList) ((xF s.data.toList).take 4)) (fun w => by
            have := HN w
            rw [mk_data, mk_data, hok] at this
            rw [hWx, ← beh.1 hl]; exact this)
        · exact rxN_dAln s w hs _ T hB hFT hTl HB hc f45 f32 f9 HD hk h46 K hK1 hKl HQ (by omega) (by rw [beq_eq_false_iff_ne]; omega) (by omega) (dn (xW s.data.toList) ((xF s.data.toList).take 4)) (fun w => by
            have := HN w
            rw [mk_data, mk_data, hok] at this
            rw [hWx, ← beh.2]; exact this)
  · have hdot : hd 46 (x3 s.data.toList) = false := by simpa using hdot
    have hxF : xF s.data.toList = [] := by unfold xF; rw [hdot]; rfl
    have hx4 : (x4 s.data.toList).length = s.size - T := by unfold x4; rw [hdot]; simp only [Bool.false_eq_true, if_false]; rw [hx3, List.length_drop, hll]
    have hnd : (s.size : Int) ≤ (T : Int) ∨ ∃ h : T < s.size, (((s[T]'h).toNat : Int) == 46) = false := by
      by_cases h : T < s.size
      · refine .inr ⟨h, ?_⟩
        rw [hx3, hd_at 46 _ _ (by omega)] at hdot
        have := of_decide_eq_false hdot
        rw [beq_eq_false_iff_ne]
        intro hcc
        exact this (by rw [← get_list s T h]; show _ = 46; omega)
      · exact .inl (by omega)
    have hWe : (xW s.data.toList).isEmpty = decide (T = (bN s.data.toList + 1)) := by
      rw [Bool.eq_iff_iff]
      simp
      constructor
      · intro h; rw [h] at hT; simpa using hT.symm
      · intro h; exact List.eq_nil_of_length_eq_zero (by omega)
    have hxe : xNone s.data.toList = decide (T = (bN s.data.toList + 1)) := by unfold xNone; rw [hWe, hxF]; simp
    by_cases e1 : T = (bN s.data.toList + 1)
    · have hz : xV s.data.toList = 0 ∧ xN s.data.toList = 0 := by
        unfold xV xN
        rw [hxe, decide_eq_true e1]; exact ⟨rfl, rfl⟩
      rw [hz.1, hz.2]
      exact rxN_n0 s w hs _ T hB hFT hTl HB hc f45 f32 f9 HD hnd (by omega) (by rw [beq_iff_eq]; omega)
    · have hn : xNone s.data.toList = false := by rw [hxe, decide_eq_false e1]
      obtain ⟨v1, v2⟩ := val_eq _ hn
      have hNn : xN s.data.toList = T := by
        unfold xN; rw [hn]; simp only [Bool.false_eq_true, if_false]; rw [hx4, hll]; omega
      have HN := fun w => rnum_any (mk (xW s.data.toList)) (mk ((xF s.data.toList).take 4)) w hWs (List.length_take_le _ _) hWd (allD_take _ _ (allD_xF _))
      have hbe : mk ((xF s.data.toList).take 4) = ⟨#[]⟩ := by rw [hxF]; rfl
      rw [hNn]
      rcases tf (dnOk (xW s.data.toList) ((xF s.data.toList).take 4)) with hok | hok
      · obtain ⟨v3, v4, v5⟩ := v1 hok
        rw [v3, hsg]
        exact rxN_n1y s w hs _ T hB hFT hTl HB hc f45 f32 f9 HD hnd (by omega) (by rw [beq_eq_false_iff_ne]; omega) _ v4 v5 (fun w => by
          have := HN w
          rw [mk_data, mk_data, hok] at this
          rw [hWx, ← hbe]; exact this)
      · rw [v2 hok, hsg]
        exact rxN_n1n s w hs _ T hB hFT hTl HB hc f45 f32 f9 HD hnd (by omega) (by rw [beq_eq_false_iff_ne]; omega) (dn (xW s.data.toList) ((xF s.data.toList).take 4)) (fun w => by
          have := HN w
          rw [mk_data, mk_data, hok] at this
          rw [hWx, ← hbe]; exact this)

set_option maxHeartbeats 1000000 in
theorem rp_P (s : ByteArray) (w : World) (hs : s.size ≤ maxLen) (hc : bN s.data.toList < s.size) (c43 : (s[bN s.data.toList]'hc).toNat = 43) :
    Calls Tryd.prog 35 #[.string s] w fun e w' => e = .returned (.tuple #[.int .i64 (xV s.data.toList), .int .i64 (xN s.data.toList)]) ∧ w = w' := by
  have hmx := hs
  unfold maxLen at hs
  have hll := size_len s
  have hB : bN s.data.toList ≤ s.size := Nat.le_of_lt hc
  have HB : Hid (∀ k, ∀ h : k < bN s.data.toList, ∀ h2 : k < s.size, (((s[k]'h2).toNat : Int) == 32) = true ∨ ((((s[k]'h2).toNat : Int) == 32) = false ∧ (((s[k]'h2).toNat : Int) == 9) = true)) := fun k h h2 => by
    have h3 := (isB_iff _).1 (bN_in s.data.toList k h (by omega))
    rw [← get_list s k h2] at h3
    by_cases h4 : (s[k]'h2).toNat = 32
    · exact .inl (by rw [beq_iff_eq]; omega)
    · exact .inr ⟨by rw [beq_eq_false_iff_ne]; omega, by rw [beq_iff_eq]; omega⟩
  have hnb := bN_out s.data.toList (by omega)
  have hnb2 : ¬ ((s[bN s.data.toList]'hc).toNat = 32 ∨ (s[bN s.data.toList]'hc).toNat = 9) := by
    rw [get_list, ← isB_iff, hnb]; simp
  have f32 : (((s[bN s.data.toList]'hc).toNat : Int) == 32) = false := by rw [beq_eq_false_iff_ne]; omega
  have f9 : (((s[bN s.data.toList]'hc).toNat : Int) == 9) = false := by rw [beq_eq_false_iff_ne]; omega
  have f45 : (((s[bN s.data.toList]'hc).toNat : Int) == 45) = false := by rw [beq_eq_false_iff_ne]; omega
  have f43 : (((s[bN s.data.toList]'hc).toNat : Int) == 43) = true := by rw [beq_iff_eq]; omega
  have h1 : x1 s.data.toList = x1 s.data.toList := rfl
  have hm : hd 45 (x1 s.data.toList) = false := by
    rw [x1_drop, hd_at 45 _ _ (by omega), ← get_list s _ hc]
    exact decide_eq_false (fun h => by have : (45 : UInt8).toNat = 45 := rfl; omega)
  have hp : hd 43 (x1 s.data.toList) = true := by
    rw [x1_drop, hd_at 43 _ _ (by omega), ← get_list s _ hc]
    exact decide_eq_true c43
  have h2 : x2 s.data.toList = s.data.toList.drop (bN s.data.toList + 1) := by
    unfold x2 unsign cutP
    rw [h1, hm]
    simp only [Bool.false_eq_true, if_false]
    rw [hp, if_pos rfl, x1_drop, List.tail_drop]
  have hFs : (bN s.data.toList + 1) ≤ s.size := by omega
  have HD0 := fun w => rdig_any s (bN s.data.toList + 1) w hmx hFs
  rw [← h2] at HD0
  have hTl : (bN s.data.toList + 1) + (xW s.data.toList).length ≤ s.size := by
    have := ldig_len_le (x2 s.data.toList)
    unfold xW
    rw [h2, List.length_drop, hll] at this
    rw [h2]; omega
  have hx3 : x3 s.data.toList = s.data.toList.drop ((bN s.data.toList + 1) + (xW s.data.toList).length) := by
    unfold x3 rD xW
    rw [h2, List.drop_drop]
  generalize hT : (bN s.data.toList + 1) + (xW s.data.toList).length = T at HD0 hTl hx3
  have HD : Hid (∀ w, Calls Tryd.prog 58 #[.string s, .int .i64 (((bN s.data.toList : Nat) : Int) + 1)] w fun e w' => e = .returned (.int .i64 T) ∧ w = w') := fun w => by
    have h9 := HD0 w
    unfold xW at hT
    rw [hT] at h9
    exact h9
  clear HD0
  have hFT : (bN s.data.toList + 1) ≤ T := by omega
  have hWx : s.extract (bN s.data.toList + 1) T = mk (xW s.data.toList) := by
    unfold xW at hT ⊢
    rw [ext_mid, ← h2, ← hT, show (bN s.data.toList + 1) + (ldig (x2 s.data.toList)).length - (bN s.data.toList + 1) = (ldig (x2 s.data.toList)).length by omega, take_len]
  have hWd : allD (xW s.data.toList) = true := all_ldig _
  have hWs : (mk (xW s.data.toList)).size ≤ maxLen := by rw [mk_size]; omega
  have hsg : ∀ x, sgn x (hd 45 (x1 s.data.toList)) = x := fun x => by rw [hm]; rfl
  by_cases hdot : hd 46 (x3 s.data.toList) = true
  · have hk : T < s.size := by
      by_cases h : T < s.size
      · exact h
      · rw [hx3, hd_end 46 _ _ (by omega)] at hdot; cases hdot
    have hk46 : (s[T]'hk).toNat = 46 := by
      rw [hx3, hd_at 46 _ _ (by omega)] at hdot
      exact of_decide_eq_true hdot
    have h46 : (((s[T]'hk).toNat : Int) == 46) = true := by rw [beq_iff_eq]; omega
    have hxF : xF s.data.toList = ldig (s.data.toList.drop (T + 1)) := by unfold xF; rw [hdot, if_pos rfl, hx3, List.tail_drop]
    have hx4 : (x4 s.data.toList).length = s.size - (T + 1 + (xF s.data.toList).length) := by
      rw [hxF]
      unfold x4 rD
      rw [hdot, if_pos rfl, hx3, List.tail_drop, List.length_drop, List.length_drop, hll]
      omega
    have HQ0 := fun w => rdig_any s (T + 1) w hmx (by omega)
    rw [← hxF] at HQ0
    have hKl : T + 1 + (xF s.data.toList).length ≤ s.size := by
      have := ldig_len_le (s.data.toList.drop (T + 1))
      rw [List.length_drop, hll] at this
      rw [hxF]; omega
    generalize hK : T + 1 + (xF s.data.toList).length = K at HQ0 hKl hx4
    have HQ : Hid (∀ w, Calls Tryd.prog 58 #[.string s, .int .i64 ((T : Int) + 1)] w fun e w' => e = .returned (.int .i64 K) ∧ w = w') := HQ0
    have hK1 : T + 1 ≤ K := by omega
    have hFx : s.extract (T + 1) K = mk (xF s.data.toList) := by
      rw [ext_mid, hxF, ← hK, hxF, show T + 1 + (ldig (s.data.toList.drop (T + 1))).length - (T + 1) = (ldig (s.data.toList.drop (T + 1))).length by omega, take_len]
    have ha4 : allD ((xF s.data.toList).take 4) = true := allD_take _ _ (allD_xF _)
    have hl4 : ((xF s.data.toList).take 4).length ≤ 4 := List.length_take_le _ _
    have HN := fun w => rnum_any (mk (xW s.data.toList)) (mk ((xF s.data.toList).take 4)) w hWs hl4 hWd ha4
    have hNn : xNone s.data.toList = false → xN s.data.toList = K := fun h => by
      unfold xN; rw [h]; simp only [Bool.false_eq_true, if_false]; rw [hx4, hll]; omega
    have hWe : (xW s.data.toList).isEmpty = decide (T = (bN s.data.toList + 1)) := by
      rw [Bool.eq_iff_iff]
      simp
      constructor
      · intro h; rw [h] at hT; simpa using hT.symm
      · intro h; exact List.eq_nil_of_length_eq_zero (by omega)
    have hFe : (xF s.data.toList).isEmpty = decide (K = T + 1) := by
      rw [Bool.eq_iff_iff]
      simp
      constructor
      · intro h; rw [h] at hK; simpa using hK.symm
      · intro h; exact List.eq_nil_of_length_eq_zero (by omega)
    have hxe : xNone s.data.toList = (decide (T = (bN s.data.toList + 1)) && decide (K = T + 1)) := by unfold xNone; rw [hWe, hFe]
    have beh : (K ≤ T + 5 → mk ((xF s.data.toList).take 4) = s.extract (T + 1) K) ∧ mk ((xF s.data.toList).take 4) = (s.extract (T + 1) K).extract 0 4 := by
      constructor
      · intro h; rw [hFx, List.take_of_length_le (by omega)]
      · rw [hFx, mk_ext_take]
    by_cases e1 : T = (bN s.data.toList + 1)
    · by_cases e2 : K = T + 1
      · have hz : xV s.data.toList = 0 ∧ xN s.data.toList = 0 := by
          unfold xV xN
          rw [hxe, decide_eq_true e1, decide_eq_true e2]; exact ⟨rfl, rfl⟩
        rw [hz.1, hz.2]
        exact rxP_d0 s w hs _ T hB hFT hTl HB hc f45 f43 f32 f9 HD hk h46 K hK1 hKl HQ (by omega) (by omega) (by rw [beq_iff_eq]; omega)
      · have hn : xNone s.data.toList = false := by rw [hxe, decide_eq_false e2, Bool.and_false]
        obtain ⟨v1, v2⟩ := val_eq _ hn
        rw [hNn hn]
        rcases tf (dnOk (xW s.data.toList) ((xF s.data.toList).take 4)) with hok | hok
        · obtain ⟨v3, v4, v5⟩ := v1 hok
          rw [v3, hsg]
          by_cases hl : K ≤ T + 5
          · exact rxP_dBsy s w hs _ T hB hFT hTl HB hc f45 f43 f32 f9 HD hk h46 K hK1 hKl HQ (by omega) (by omega) (by rw [beq_eq_false_iff_ne]; omega) hl _ v4 v5 (fun w => by
              have := HN w
              rw [mk_data, mk_data, hok] at this
              rw [hWx, ← beh.1 hl]; exact this)
          · exact rxP_dBly s w hs _ T hB hFT hTl HB hc f45 f43 f32 f9 HD hk h46 K hK1 hKl HQ (by omega) (by omega) (by rw [beq_eq_false_iff_ne]; omega) (by omega) _ v4 v5 (fun w => by
              have := HN w
              rw [mk_data, mk_data, hok] at this
              rw [hWx, ← beh.2]; exact this)
        · rw [v2 hok, hsg]
          by_cases hl : K ≤ T + 5
          · exact rxP_dBsn s w hs _ T hB hFT hTl HB hc f45 f43 f32 f9 HD hk h46 K hK1 hKl HQ (by omega) (by omega) (by rw [beq_eq_false_iff_ne]; omega) hl (dn (xW s.data.toList) ((xF s.data.toList).take 4)) (fun w => by
              have := HN w
              rw [mk_data, mk_data, hok] at this
              rw [hWx, ← beh.1 hl]; exact this)
          · exact rxP_dBln s w hs _ T hB hFT hTl HB hc f45 f43 f32 f9 HD hk h46 K hK1 hKl HQ (by omega) (by omega) (by rw [beq_eq_false_iff_ne]; omega) (by omega) (dn (xW s.data.toList) ((xF s.data.toList).take 4)) (fun w => by
              have := HN w
              rw [mk_data, mk_data, hok] at this
              rw [hWx, ← beh.2]; exact this)
    · have hn : xNone s.data.toList = false := by rw [hxe, decide_eq_false e1, Bool.false_and]
      obtain ⟨v1, v2⟩ := val_eq _ hn
      rw [hNn hn]
      rcases tf (dnOk (xW s.data.toList) ((xF s.data.toList).take 4)) with hok | hok
      · obtain ⟨v3, v4, v5⟩ := v1 hok
        rw [v3, hsg]
        by_cases hl : K ≤ T + 5
        · exact rxP_dAsy s w hs _ T hB hFT hTl HB hc f45 f43 f32 f9 HD hk h46 K hK1 hKl HQ (by omega) (by rw [beq_eq_false_iff_ne]; omega) hl _ v4 v5 (fun w => by
            have := HN w
            rw [mk_data, mk_data, hok] at this
            rw [hWx, ← beh.1 hl]; exact this)
        · exact rxP_dAly s w hs _ T hB hFT hTl HB hc f45 f43 f32 f9 HD hk h46 K hK1 hKl HQ (by omega) (by rw [beq_eq_false_iff_ne]; omega) (by omega) _ v4 v5 (fun w => by
            have := HN w
            rw [mk_data, mk_data, hok] at this
            rw [hWx, ← beh.2]; exact this)
      · rw [v2 hok, hsg]
        by_cases hl : K ≤ T + 5
        · exact rxP_dAsn s w hs _ T hB hFT hTl HB hc f45 f43 f32 f9 HD hk h46 K hK1 hKl HQ (by omega) (by rw [beq_eq_false_iff_ne]; omega) hl (dn (xW s.data.toList) ((xF s.data.toList).take 4)) (fun w => by
            have := HN w
            rw [mk_data, mk_data, hok] at this
            rw [hWx, ← beh.1 hl]; exact this)
        · exact rxP_dAln s w hs _ T hB hFT hTl HB hc f45 f43 f32 f9 HD hk h46 K hK1 hKl HQ (by omega) (by rw [beq_eq_false_iff_ne]; omega) (by omega) (dn (xW s.data.toList) ((xF s.data.toList).take 4)) (fun w => by
            have := HN w
            rw [mk_data, mk_data, hok] at this
            rw [hWx, ← beh.2]; exact this)
  · have hdot : hd 46 (x3 s.data.toList) = false := by simpa using hdot
    have hxF : xF s.data.toList = [] := by unfold xF; rw [hdot]; rfl
    have hx4 : (x4 s.data.toList).length = s.size - T := by unfold x4; rw [hdot]; simp only [Bool.false_eq_true, if_false]; rw [hx3, List.length_drop, hll]
    have hnd : (s.size : Int) ≤ (T : Int) ∨ ∃ h : T < s.size, (((s[T]'h).toNat : Int) == 46) = false := by
      by_cases h : T < s.size
      · refine .inr ⟨h, ?_⟩
        rw [hx3, hd_at 46 _ _ (by omega)] at hdot
        have := of_decide_eq_false hdot
        rw [beq_eq_false_iff_ne]
        intro hcc
        exact this (by rw [← get_list s T h]; show _ = 46; omega)
      · exact .inl (by omega)
    have hWe : (xW s.data.toList).isEmpty = decide (T = (bN s.data.toList + 1)) := by
      rw [Bool.eq_iff_iff]
      simp
      constructor
      · intro h; rw [h] at hT; simpa using hT.symm
      · intro h; exact List.eq_nil_of_length_eq_zero (by omega)
    have hxe : xNone s.data.toList = decide (T = (bN s.data.toList + 1)) := by unfold xNone; rw [hWe, hxF]; simp
    by_cases e1 : T = (bN s.data.toList + 1)
    · have hz : xV s.data.toList = 0 ∧ xN s.data.toList = 0 := by
        unfold xV xN
        rw [hxe, decide_eq_true e1]; exact ⟨rfl, rfl⟩
      rw [hz.1, hz.2]
      exact rxP_n0 s w hs _ T hB hFT hTl HB hc f45 f43 f32 f9 HD hnd (by omega) (by rw [beq_iff_eq]; omega)
    · have hn : xNone s.data.toList = false := by rw [hxe, decide_eq_false e1]
      obtain ⟨v1, v2⟩ := val_eq _ hn
      have hNn : xN s.data.toList = T := by
        unfold xN; rw [hn]; simp only [Bool.false_eq_true, if_false]; rw [hx4, hll]; omega
      have HN := fun w => rnum_any (mk (xW s.data.toList)) (mk ((xF s.data.toList).take 4)) w hWs (List.length_take_le _ _) hWd (allD_take _ _ (allD_xF _))
      have hbe : mk ((xF s.data.toList).take 4) = ⟨#[]⟩ := by rw [hxF]; rfl
      rw [hNn]
      rcases tf (dnOk (xW s.data.toList) ((xF s.data.toList).take 4)) with hok | hok
      · obtain ⟨v3, v4, v5⟩ := v1 hok
        rw [v3, hsg]
        exact rxP_n1y s w hs _ T hB hFT hTl HB hc f45 f43 f32 f9 HD hnd (by omega) (by rw [beq_eq_false_iff_ne]; omega) _ v4 v5 (fun w => by
          have := HN w
          rw [mk_data, mk_data, hok] at this
          rw [hWx, ← hbe]; exact this)
      · rw [v2 hok, hsg]
        exact rxP_n1n s w hs _ T hB hFT hTl HB hc f45 f43 f32 f9 HD hnd (by omega) (by rw [beq_eq_false_iff_ne]; omega) (dn (xW s.data.toList) ((xF s.data.toList).take 4)) (fun w => by
          have := HN w
          rw [mk_data, mk_data, hok] at this
          rw [hWx, ← hbe]; exact this)

set_option maxHeartbeats 1000000 in
theorem rp_O (s : ByteArray) (w : World) (hs : s.size ≤ maxLen) (hc : bN s.data.toList < s.size) (c45 : (s[bN s.data.toList]'hc).toNat ≠ 45) (c43 : (s[bN s.data.toList]'hc).toNat ≠ 43) :
    Calls Tryd.prog 35 #[.string s] w fun e w' => e = .returned (.tuple #[.int .i64 (xV s.data.toList), .int .i64 (xN s.data.toList)]) ∧ w = w' := by
  have hmx := hs
  unfold maxLen at hs
  have hll := size_len s
  have hB : bN s.data.toList ≤ s.size := Nat.le_of_lt hc
  have HB : Hid (∀ k, ∀ h : k < bN s.data.toList, ∀ h2 : k < s.size, (((s[k]'h2).toNat : Int) == 32) = true ∨ ((((s[k]'h2).toNat : Int) == 32) = false ∧ (((s[k]'h2).toNat : Int) == 9) = true)) := fun k h h2 => by
    have h3 := (isB_iff _).1 (bN_in s.data.toList k h (by omega))
    rw [← get_list s k h2] at h3
    by_cases h4 : (s[k]'h2).toNat = 32
    · exact .inl (by rw [beq_iff_eq]; omega)
    · exact .inr ⟨by rw [beq_eq_false_iff_ne]; omega, by rw [beq_iff_eq]; omega⟩
  have hnb := bN_out s.data.toList (by omega)
  have hnb2 : ¬ ((s[bN s.data.toList]'hc).toNat = 32 ∨ (s[bN s.data.toList]'hc).toNat = 9) := by
    rw [get_list, ← isB_iff, hnb]; simp
  have f32 : (((s[bN s.data.toList]'hc).toNat : Int) == 32) = false := by rw [beq_eq_false_iff_ne]; omega
  have f9 : (((s[bN s.data.toList]'hc).toNat : Int) == 9) = false := by rw [beq_eq_false_iff_ne]; omega
  have f45 : (((s[bN s.data.toList]'hc).toNat : Int) == 45) = false := by rw [beq_eq_false_iff_ne]; omega
  have f43 : (((s[bN s.data.toList]'hc).toNat : Int) == 43) = false := by rw [beq_eq_false_iff_ne]; omega
  have h1 : x1 s.data.toList = x1 s.data.toList := rfl
  have hm : hd 45 (x1 s.data.toList) = false := by
    rw [x1_drop, hd_at 45 _ _ (by omega), ← get_list s _ hc]
    exact decide_eq_false (fun h => by have : (45 : UInt8).toNat = 45 := rfl; omega)
  have hp : hd 43 (x1 s.data.toList) = false := by
    rw [x1_drop, hd_at 43 _ _ (by omega), ← get_list s _ hc]
    exact decide_eq_false (fun h => by have : (43 : UInt8).toNat = 43 := rfl; omega)
  have h2 : x2 s.data.toList = s.data.toList.drop (bN s.data.toList) := by
    unfold x2 unsign cutP
    rw [h1, hm]
    simp only [Bool.false_eq_true, if_false]
    rw [hp]
    simp only [Bool.false_eq_true, if_false]
    exact x1_drop _
  have hFs : (bN s.data.toList) ≤ s.size := by omega
  have HD0 := fun w => rdig_any s (bN s.data.toList) w hmx hFs
  rw [← h2] at HD0
  have hTl : (bN s.data.toList) + (xW s.data.toList).length ≤ s.size := by
    have := ldig_len_le (x2 s.data.toList)
    unfold xW
    rw [h2, List.length_drop, hll] at this
    rw [h2]; omega
  have hx3 : x3 s.data.toList = s.data.toList.drop ((bN s.data.toList) + (xW s.data.toList).length) := by
    unfold x3 rD xW
    rw [h2, List.drop_drop]
  generalize hT : (bN s.data.toList) + (xW s.data.toList).length = T at HD0 hTl hx3
  have HD : Hid (∀ w, Calls Tryd.prog 58 #[.string s, .int .i64 (((bN s.data.toList : Nat) : Int))] w fun e w' => e = .returned (.int .i64 T) ∧ w = w') := fun w => by
    have h9 := HD0 w
    unfold xW at hT
    rw [hT] at h9
    exact h9
  clear HD0
  have hFT : (bN s.data.toList) ≤ T := by omega
  have hWx : s.extract (bN s.data.toList) T = mk (xW s.data.toList) := by
    unfold xW at hT ⊢
    rw [ext_mid, ← h2, ← hT, show (bN s.data.toList) + (ldig (x2 s.data.toList)).length - (bN s.data.toList) = (ldig (x2 s.data.toList)).length by omega, take_len]
  have hWd : allD (xW s.data.toList) = true := all_ldig _
  have hWs : (mk (xW s.data.toList)).size ≤ maxLen := by rw [mk_size]; omega
  have hsg : ∀ x, sgn x (hd 45 (x1 s.data.toList)) = x := fun x => by rw [hm]; rfl
  by_cases hdot : hd 46 (x3 s.data.toList) = true
  · have hk : T < s.size := by
      by_cases h : T < s.size
      · exact h
      · rw [hx3, hd_end 46 _ _ (by omega)] at hdot; cases hdot
    have hk46 : (s[T]'hk).toNat = 46 := by
      rw [hx3, hd_at 46 _ _ (by omega)] at hdot
      exact of_decide_eq_true hdot
    have h46 : (((s[T]'hk).toNat : Int) == 46) = true := by rw [beq_iff_eq]; omega
    have hxF : xF s.data.toList = ldig (s.data.toList.drop (T + 1)) := by unfold xF; rw [hdot, if_pos rfl, hx3, List.tail_drop]
    have hx4 : (x4 s.data.toList).length = s.size - (T + 1 + (xF s.data.toList).length) := by
      rw [hxF]
      unfold x4 rD
      rw [hdot, if_pos rfl, hx3, List.tail_drop, List.length_drop, List.length_drop, hll]
      omega
    have HQ0 := fun w => rdig_any s (T + 1) w hmx (by omega)
    rw [← hxF] at HQ0
    have hKl : T + 1 + (xF s.data.toList).length ≤ s.size := by
      have := ldig_len_le (s.data.toList.drop (T + 1))
      rw [List.length_drop, hll] at this
      rw [hxF]; omega
    generalize hK : T + 1 + (xF s.data.toList).length = K at HQ0 hKl hx4
    have HQ : Hid (∀ w, Calls Tryd.prog 58 #[.string s, .int .i64 ((T : Int) + 1)] w fun e w' => e = .returned (.int .i64 K) ∧ w = w') := HQ0
    have hK1 : T + 1 ≤ K := by omega
    have hFx : s.extract (T + 1) K = mk (xF s.data.toList) := by
      rw [ext_mid, hxF, ← hK, hxF, show T + 1 + (ldig (s.data.toList.drop (T + 1))).length - (T + 1) = (ldig (s.data.toList.drop (T + 1))).length by omega, take_len]
    have ha4 : allD ((xF s.data.toList).take 4) = true := allD_take _ _ (allD_xF _)
    have hl4 : ((xF s.data.toList).take 4).length ≤ 4 := List.length_take_le _ _
    have HN := fun w => rnum_any (mk (xW s.data.toList)) (mk ((xF s.data.toList).take 4)) w hWs hl4 hWd ha4
    have hNn : xNone s.data.toList = false → xN s.data.toList = K := fun h => by
      unfold xN; rw [h]; simp only [Bool.false_eq_true, if_false]; rw [hx4, hll]; omega
    have hWe : (xW s.data.toList).isEmpty = decide (T = (bN s.data.toList)) := by
      rw [Bool.eq_iff_iff]
      simp
      constructor
      · intro h; rw [h] at hT; simpa using hT.symm
      · intro h; exact List.eq_nil_of_length_eq_zero (by omega)
    have hFe : (xF s.data.toList).isEmpty = decide (K = T + 1) := by
      rw [Bool.eq_iff_iff]
      simp
      constructor
      · intro h; rw [h] at hK; simpa using hK.symm
      · intro h; exact List.eq_nil_of_length_eq_zero (by omega)
    have hxe : xNone s.data.toList = (decide (T = (bN s.data.toList)) && decide (K = T + 1)) := by unfold xNone; rw [hWe, hFe]
    have beh : (K ≤ T + 5 → mk ((xF s.data.toList).take 4) = s.extract (T + 1) K) ∧ mk ((xF s.data.toList).take 4) = (s.extract (T + 1) K).extract 0 4 := by
      constructor
      · intro h; rw [hFx, List.take_of_length_le (by omega)]
      · rw [hFx, mk_ext_take]
    by_cases e1 : T = (bN s.data.toList)
    · by_cases e2 : K = T + 1
      · have hz : xV s.data.toList = 0 ∧ xN s.data.toList = 0 := by
          unfold xV xN
          rw [hxe, decide_eq_true e1, decide_eq_true e2]; exact ⟨rfl, rfl⟩
        rw [hz.1, hz.2]
        exact rxO_d0 s w hs _ T hB hFT hTl HB hc f45 f43 f32 f9 HD hk h46 K hK1 hKl HQ (by omega) (by omega) (by rw [beq_iff_eq]; omega)
      · have hn : xNone s.data.toList = false := by rw [hxe, decide_eq_false e2, Bool.and_false]
        obtain ⟨v1, v2⟩ := val_eq _ hn
        rw [hNn hn]
        rcases tf (dnOk (xW s.data.toList) ((xF s.data.toList).take 4)) with hok | hok
        · obtain ⟨v3, v4, v5⟩ := v1 hok
          rw [v3, hsg]
          by_cases hl : K ≤ T + 5
          · exact rxO_dBsy s w hs _ T hB hFT hTl HB hc f45 f43 f32 f9 HD hk h46 K hK1 hKl HQ (by omega) (by omega) (by rw [beq_eq_false_iff_ne]; omega) hl _ v4 v5 (fun w => by
              have := HN w
              rw [mk_data, mk_data, hok] at this
              rw [hWx, ← beh.1 hl]; exact this)
          · exact rxO_dBly s w hs _ T hB hFT hTl HB hc f45 f43 f32 f9 HD hk h46 K hK1 hKl HQ (by omega) (by omega) (by rw [beq_eq_false_iff_ne]; omega) (by omega) _ v4 v5 (fun w => by
              have := HN w
              rw [mk_data, mk_data, hok] at this
              rw [hWx, ← beh.2]; exact this)
        · rw [v2 hok, hsg]
          by_cases hl : K ≤ T + 5
          · exact rxO_dBsn s w hs _ T hB hFT hTl HB hc f45 f43 f32 f9 HD hk h46 K hK1 hKl HQ (by omega) (by omega) (by rw [beq_eq_false_iff_ne]; omega) hl (dn (xW s.data.toList) ((xF s.data.toList).take 4)) (fun w => by
              have := HN w
              rw [mk_data, mk_data, hok] at this
              rw [hWx, ← beh.1 hl]; exact this)
          · exact rxO_dBln s w hs _ T hB hFT hTl HB hc f45 f43 f32 f9 HD hk h46 K hK1 hKl HQ (by omega) (by omega) (by rw [beq_eq_false_iff_ne]; omega) (by omega) (dn (xW s.data.toList) ((xF s.data.toList).take 4)) (fun w => by
              have := HN w
              rw [mk_data, mk_data, hok] at this
              rw [hWx, ← beh.2]; exact this)
    · have hn : xNone s.data.toList = false := by rw [hxe, decide_eq_false e1, Bool.false_and]
      obtain ⟨v1, v2⟩ := val_eq _ hn
      rw [hNn hn]
      rcases tf (dnOk (xW s.data.toList) ((xF s.data.toList).take 4)) with hok | hok
      · obtain ⟨v3, v4, v5⟩ := v1 hok
        rw [v3, hsg]
        by_cases hl : K ≤ T + 5
        · exact rxO_dAsy s w hs _ T hB hFT hTl HB hc f45 f43 f32 f9 HD hk h46 K hK1 hKl HQ (by omega) (by rw [beq_eq_false_iff_ne]; omega) hl _ v4 v5 (fun w => by
            have := HN w
            rw [mk_data, mk_data, hok] at this
            rw [hWx, ← beh.1 hl]; exact this)
        · exact rxO_dAly s w hs _ T hB hFT hTl HB hc f45 f43 f32 f9 HD hk h46 K hK1 hKl HQ (by omega) (by rw [beq_eq_false_iff_ne]; omega) (by omega) _ v4 v5 (fun w => by
            have := HN w
            rw [mk_data, mk_data, hok] at this
            rw [hWx, ← beh.2]; exact this)
      · rw [v2 hok, hsg]
        by_cases hl : K ≤ T + 5
        · exact rxO_dAsn s w hs _ T hB hFT hTl HB hc f45 f43 f32 f9 HD hk h46 K hK1 hKl HQ (by omega) (by rw [beq_eq_false_iff_ne]; omega) hl (dn (xW s.data.toList) ((xF s.data.toList).take 4)) (fun w => by
            have := HN w
            rw [mk_data, mk_data, hok] at this
            rw [hWx, ← beh.1 hl]; exact this)
        · exact rxO_dAln s w hs _ T hB hFT hTl HB hc f45 f43 f32 f9 HD hk h46 K hK1 hKl HQ (by omega) (by rw [beq_eq_false_iff_ne]; omega) (by omega) (dn (xW s.data.toList) ((xF s.data.toList).take 4)) (fun w => by
            have := HN w
            rw [mk_data, mk_data, hok] at this
            rw [hWx, ← beh.2]; exact this)
  · have hdot : hd 46 (x3 s.data.toList) = false := by simpa using hdot
    have hxF : xF s.data.toList = [] := by unfold xF; rw [hdot]; rfl
    have hx4 : (x4 s.data.toList).length = s.size - T := by unfold x4; rw [hdot]; simp only [Bool.false_eq_true, if_false]; rw [hx3, List.length_drop, hll]
    have hnd : (s.size : Int) ≤ (T : Int) ∨ ∃ h : T < s.size, (((s[T]'h).toNat : Int) == 46) = false := by
      by_cases h : T < s.size
      · refine .inr ⟨h, ?_⟩
        rw [hx3, hd_at 46 _ _ (by omega)] at hdot
        have := of_decide_eq_false hdot
        rw [beq_eq_false_iff_ne]
        intro hcc
        exact this (by rw [← get_list s T h]; show _ = 46; omega)
      · exact .inl (by omega)
    have hWe : (xW s.data.toList).isEmpty = decide (T = (bN s.data.toList)) := by
      rw [Bool.eq_iff_iff]
      simp
      constructor
      · intro h; rw [h] at hT; simpa using hT.symm
      · intro h; exact List.eq_nil_of_length_eq_zero (by omega)
    have hxe : xNone s.data.toList = decide (T = (bN s.data.toList)) := by unfold xNone; rw [hWe, hxF]; simp
    by_cases e1 : T = (bN s.data.toList)
    · have hz : xV s.data.toList = 0 ∧ xN s.data.toList = 0 := by
        unfold xV xN
        rw [hxe, decide_eq_true e1]; exact ⟨rfl, rfl⟩
      rw [hz.1, hz.2]
      exact rxO_n0 s w hs _ T hB hFT hTl HB hc f45 f43 f32 f9 HD hnd (by omega) (by rw [beq_iff_eq]; omega)
    · have hn : xNone s.data.toList = false := by rw [hxe, decide_eq_false e1]
      obtain ⟨v1, v2⟩ := val_eq _ hn
      have hNn : xN s.data.toList = T := by
        unfold xN; rw [hn]; simp only [Bool.false_eq_true, if_false]; rw [hx4, hll]; omega
      have HN := fun w => rnum_any (mk (xW s.data.toList)) (mk ((xF s.data.toList).take 4)) w hWs (List.length_take_le _ _) hWd (allD_take _ _ (allD_xF _))
      have hbe : mk ((xF s.data.toList).take 4) = ⟨#[]⟩ := by rw [hxF]; rfl
      rw [hNn]
      rcases tf (dnOk (xW s.data.toList) ((xF s.data.toList).take 4)) with hok | hok
      · obtain ⟨v3, v4, v5⟩ := v1 hok
        rw [v3, hsg]
        exact rxO_n1y s w hs _ T hB hFT hTl HB hc f45 f43 f32 f9 HD hnd (by omega) (by rw [beq_eq_false_iff_ne]; omega) _ v4 v5 (fun w => by
          have := HN w
          rw [mk_data, mk_data, hok] at this
          rw [hWx, ← hbe]; exact this)
      · rw [v2 hok, hsg]
        exact rxO_n1n s w hs _ T hB hFT hTl HB hc f45 f43 f32 f9 HD hnd (by omega) (by rw [beq_eq_false_iff_ne]; omega) (dn (xW s.data.toList) ((xF s.data.toList).take 4)) (fun w => by
          have := HN w
          rw [mk_data, mk_data, hok] at this
          rw [hWx, ← hbe]; exact this)

theorem rdprefix_any (s : ByteArray) (w : World) (hs : s.size ≤ maxLen) :
    Calls Tryd.prog 35 #[.string s] w fun e w' => e = .returned (.tuple #[.int .i64 (xV s.data.toList), .int .i64 (xN s.data.toList)]) ∧ w = w' := by
  by_cases hc : bN s.data.toList < s.size
  · by_cases c45 : (s[bN s.data.toList]'hc).toNat = 45
    · exact rp_N s w hs hc c45
    · by_cases c43 : (s[bN s.data.toList]'hc).toNat = 43
      · exact rp_P s w hs hc c43
      · exact rp_O s w hs hc c45 c43
  · have hll := size_len s
    have hle := bN_le s.data.toList
    have h1 : x1 s.data.toList = [] := by rw [x1_drop]; exact List.drop_of_length_le (by omega)
    have h2 : x2 s.data.toList = [] := by unfold x2; rw [h1]; rfl
    have hW : xW s.data.toList = [] := by unfold xW; rw [h2]; rfl
    have h3 : x3 s.data.toList = [] := by unfold x3; rw [h2]; rfl
    have hF : xF s.data.toList = [] := by unfold xF; rw [h3]; rfl
    have hn : xNone s.data.toList = true := by unfold xNone; rw [hW, hF]; rfl
    have hz : xV s.data.toList = 0 ∧ xN s.data.toList = 0 := by unfold xV xN; rw [hn]; exact ⟨rfl, rfl⟩
    have hmx := hs
    unfold maxLen at hs
    rw [hz.1, hz.2]
    refine rxE_n0 s w hs (bN s.data.toList) (bN s.data.toList) (by omega) (Nat.le_refl _) (by omega) (fun k h h2 => ?_) (by omega) (fun w => ?_) (.inl (by omega)) (by omega) (by simp)
    · have h3 := (isB_iff _).1 (bN_in s.data.toList k h (by omega))
      rw [← get_list s k h2] at h3
      by_cases h4 : (s[k]'h2).toNat = 32
      · exact .inl (by rw [beq_iff_eq]; omega)
      · exact .inr ⟨by rw [beq_eq_false_iff_ne]; omega, by rw [beq_iff_eq]; omega⟩
    · have := rdig_any s (bN s.data.toList) w hmx (by omega)
      rw [List.drop_of_length_le (by omega)] at this
      exact this

end Go.Proofs.YtdgbfblhiongoaaDoor
