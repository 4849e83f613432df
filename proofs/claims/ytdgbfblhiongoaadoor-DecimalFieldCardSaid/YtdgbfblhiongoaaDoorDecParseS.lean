/- Reading a decimal number: the reference's Parse hands back what the program's does. -/
import Derived.Test.YtdgbfblhiongoaaDoorDecParseR
namespace Go.Proofs.YtdgbfblhiongoaaDoor
open Go.RowKit

theorem hd_get (s : ByteArray) (h : 0 < s.size) : hd 45 s.data.toList = (((s[0]'h).toNat : Int) == 45) := by
  obtain ⟨⟨l⟩⟩ := s
  cases l with
  | nil => exact absurd h (Nat.lt_irrefl 0)
  | cons c r =>
    have h2 : ((ByteArray.mk (c :: r).toArray)[0]'h) = c := rfl
    rw [h2]
    unfold hd
    rw [Bool.eq_iff_iff]
    simp
    constructor
    · rintro rfl; rfl
    · intro hc; exact UInt8.toNat_inj.1 (by show c.toNat = 45; omega)
theorem eq_list (s : ByteArray) (x : List UInt8) : (s.toList == x) = (s.data.toList == x) := by rw [ByteArray.toList_eq]
theorem head_at (l : List UInt8) (k : Nat) (h : k < l.length) : (l.drop k).head? = some l[k] := by
  rw [List.head?_drop, List.getElem?_eq_getElem h]
theorem ldig_head (t : List UInt8) (h : ldig t ≠ []) : (ldig t).head? = t.head? := by
  cases t with
  | nil => rfl
  | cons c r =>
    rcases tf (isD c) with hi | hi
    · rw [((ldig_cons c r).1 hi).1]; rfl
    · exact absurd ((ldig_cons c r).2 hi).1 h
theorem isF_parts (f : List UInt8) : isF f = false ↔ f = [] ∨ 4 < f.length ∨ allD f = false ∨ (f ≠ [] ∧ lastB f = true) := by
  unfold isF
  cases f with
  | nil => simp
  | cons c r => cases lastB (c :: r) <;> cases allD (c :: r) <;> simp <;> omega
theorem last_drop (l : List UInt8) (k : Nat) (h : k < l.length) : lastB (l.drop k) = lastB l := by
  unfold lastB; rw [List.getLast?_drop, if_neg (by omega)]
theorem take_len (t : List UInt8) : t.take (ldig t).length = ldig t := (List.prefix_iff_eq_take.1 (List.takeWhile_prefix isD)).symm
theorem rF_cons (l : List UInt8) (c : UInt8) (r : List UInt8) (h : rD (tP l) = c :: r) : rF l = r := by unfold rF; rw [h]; rfl

set_option maxHeartbeats 1000000 in
theorem rdparse0 (s : ByteArray) (w : World) (hs : s.size ≤ maxLen) (h0 : 0 < s.size) (hm : hd 45 s.data.toList = false) :
    Calls Tryd.prog 33 #[.string s] w fun e w' => e = .returned (.tuple #[.int .i64 (pV s.data.toList), .int .i64 (pE s.data.toList)]) ∧ w = w' := by
  have hmx := hs
  unfold maxLen at hs
  have ht : tP s.data.toList = s.data.toList.drop 0 := by unfold tP cutP; rw [hm]; rfl
  have hz : (((s[0]'h0).toNat : Int) == 45) = false := by rw [← hd_get s h0]; exact hm
  have HD0 := fun w => rdig_any s 0 w hmx (by omega)
  rw [← ht] at HD0
  obtain ⟨hb1, hb2⟩ := rbad_eq s.data.toList
  have hll := size_len s
  have hsg : ∀ n : Int, sgn n (hd 45 s.data.toList) = n := fun n => by rw [hm]; rfl
  generalize hK : 0 + (ldig (tP s.data.toList)).length = K at HD0
  have HD : Hid (∀ w, Calls Tryd.prog 58 #[.string s, .int .i64 0] w fun e w' => e = .returned (.int .i64 K) ∧ w = w') := HD0
  clear HD0
  have hKs : K ≤ s.size := by
    have := ldig_len_le (tP s.data.toList)
    rw [ht, List.length_drop, hll] at this
    rw [← hK, ht]; omega
  have hR : rD (tP s.data.toList) = s.data.toList.drop K := by
    unfold rD
    rw [ht, List.drop_drop, ← hK, ht]
  have hW : s.extract 0 K = mk (ldig (tP s.data.toList)) := by
    rw [ext_mid, ← ht, ← hK, show 0 + (ldig (tP s.data.toList)).length - 0 = (ldig (tP s.data.toList)).length by omega, take_len]
  have hWd := all_ldig (tP s.data.toList)
  have hWm := mag_parts _ hWd
  have bad : rBad s.data.toList = true → ∀ (v e : Int), v = 0 → e = 1 → pV s.data.toList = v ∧ pE s.data.toList = e := by
    intro h v e hv he
    rw [hb1] at h
    unfold pV pE
    rw [h, hv, he]; exact ⟨rfl, rfl⟩
  by_cases k0 : K = 0
  · have hW0 : ldig (tP s.data.toList) = [] := List.eq_nil_of_length_eq_zero (by omega)
    obtain ⟨e1, e2⟩ := bad (by unfold rBad; rw [hW0]; rfl) 0 1 rfl rfl
    rw [e1, e2]
    have hp : 0 < s.size := h0
    exact rp0_bad1 s w hs h0 hz hp K HD k0
  have hp : 0 < s.size := by omega
  have h1 : (0 : Int) < K := by omega
  have h1' : ((K : Int) == 0) = false := by simp; omega
  have hWn : ldig (tP s.data.toList) ≠ [] := fun hc => by rw [hc] at hK; exact k0 (by rw [← hK]; rfl)
  have hh : (ldig (tP s.data.toList)).head? = some (s[0]'hp) := by
    rw [ldig_head _ hWn, ht, head_at _ 0 (by omega), get_list]
  have h48 : (ldig (tP s.data.toList)).head? = some 48 ↔ (s[0]'hp).toNat = 48 := by
    rw [hh]
    constructor
    · intro hc; injection hc with hc; rw [hc]; rfl
    · intro hc; congr 1; exact UInt8.toNat_inj.1 hc
  rcases tf (magB (ldig (tP s.data.toList))) with hg | hg
  rotate_left
  · have hx : (s[0]'hp).toNat = 48 ∧ 1 < K := by
      by_cases hc : (s[0]'hp).toNat = 48 ∧ 1 < K
      · exact hc
      · have : magB (ldig (tP s.data.toList)) = true := hWm.2 ⟨hWn, fun hcc => hc ⟨h48.1 hcc.1, by omega⟩⟩
        rw [this] at hg; cases hg
    obtain ⟨e1, e2⟩ := bad (by unfold rBad; rw [hg]; rfl) 0 1 rfl rfl
    rw [e1, e2]
    exact rp0_bad2 s w hs h0 hz hp K HD h1 h1' (by rw [beq_iff_eq]; omega) (by omega)
  have h2 : (((s[0]'hp).toNat : Int) == 48) = false ∨ (((s[0]'hp).toNat : Int) == 48) = true ∧ ¬ (1 : Int) < K := by
    by_cases hc : (s[0]'hp).toNat = 48
    · refine .inr ⟨by simp; omega, fun hcc => (hWm.1 hg).2 ⟨h48.2 hc, by omega⟩⟩
    · exact .inl (by simp; omega)
  by_cases hk : K < s.size
  · have hRc : rD (tP s.data.toList) = s[K] :: s.data.toList.drop (K + 1) := by
      rw [hR, List.drop_eq_getElem_cons (by omega), get_list]
    have hrF := rF_cons _ _ _ hRc
    by_cases h46 : (s[K]'hk).toNat = 46
    rotate_left
    · obtain ⟨e1, e2⟩ := bad (by
        unfold rBad
        rw [hRc]
        have : (s[K] != 46) = true := by
          have : s[K] ≠ 46 := fun hc => h46 (by rw [hc]; rfl)
          simpa using this
        simp [restBad, this]) 0 1 rfl rfl
      rw [e1, e2]
      exact rp0_bad3 s w hs h0 hz hp K HD h1 h1' h2 hk (by omega) (by simp; omega)
    have hc46 : s[K] = 46 := UInt8.toNat_inj.1 h46
    have h4 : (((s[K]'hk).toNat : Int) != 46) = false := by simp; omega
    have hk1 : (K : Int) + 1 ≤ s.size := by omega
    have hrl : (s.data.toList.drop (K + 1)).length = s.size - (K + 1) := by rw [List.length_drop, hll]
    have hrb : restBad (rD (tP s.data.toList)) = !isF (s.data.toList.drop (K + 1)) := by
      rw [hRc, hc46]; rfl
    have badF : isF (s.data.toList.drop (K + 1)) = false → pV s.data.toList = 0 ∧ pE s.data.toList = 1 := fun h => bad (by unfold rBad; rw [hrb, h]; simp) 0 1 rfl rfl
    have hip := isF_parts (s.data.toList.drop (K + 1))
    by_cases h5 : K + 1 = s.size
    · obtain ⟨e1, e2⟩ := badF (hip.2 (.inl (List.eq_nil_of_length_eq_zero (by omega))))
      rw [e1, e2]
      exact rp0_bad4 s w hs h0 hz hp K HD h1 h1' h2 hk hk1 h4 h5
    by_cases h6 : K + 5 < s.size
    · obtain ⟨e1, e2⟩ := badF (hip.2 (.inr (.inl (by omega))))
      rw [e1, e2]
      exact rp0_bad5 s w hs h0 hz hp K HD h1 h1' h2 hk hk1 h4 h6 (by omega) (by omega)
    have h5 : K + 1 < s.size := by omega
    have h6 : s.size ≤ K + 5 := by omega
    have HQ0 := fun w => rdig_any s (K + 1) w hmx (by omega)
    have hQi := ldig_len_iff (s.data.toList.drop (K + 1))
    have hQl := ldig_len_le (s.data.toList.drop (K + 1))
    generalize hQ : K + 1 + (ldig (s.data.toList.drop (K + 1))).length = Q at HQ0
    have HQ : Hid (∀ w, Calls Tryd.prog 58 #[.string s, .int .i64 ((K : Int) + 1)] w fun e w' => e = .returned (.int .i64 Q) ∧ w = w') := HQ0
    clear HQ0
    rcases tf (allD (s.data.toList.drop (K + 1))) with ha | ha
    rotate_left
    · obtain ⟨e1, e2⟩ := badF (hip.2 (.inr (.inr (.inl ha))))
      rw [e1, e2]
      have hq : Q < s.size := by
        by_cases hc : Q < s.size
        · exact hc
        · have := hQi.1 (by omega)
          rw [this] at ha; cases ha
      exact rp0_bad6 s w hs h0 hz hp K HD h1 h1' h2 hk hk1 h4 h5 h6 Q HQ (by omega)
    have hq : ¬ (Q : Int) < s.size := by
      have := hQi.2 ha
      omega
    have HZ : s.size - 1 < s.size := by omega
    have hlast := last_at s h0
    have hld := last_drop s.data.toList (K + 1) (by omega)
    have hne : s.data.toList.drop (K + 1) ≠ [] := fun hc => by rw [hc] at hrl; simp at hrl; omega
    by_cases h8 : (s[s.size - 1]'HZ).toNat = 48
    · obtain ⟨e1, e2⟩ := badF (hip.2 (.inr (.inr (.inr ⟨hne, by rw [hld, hlast]; exact decide_eq_true h8⟩))))
      rw [e1, e2]
      exact rp0_bad7 s w hs h0 hz hp K HD h1 h1' h2 hk hk1 h4 h5 h6 Q HQ hq (by omega) (by omega) (by omega) HZ (by simp; omega)
    have h8' : (((s[s.size - 1]'HZ).toNat : Int) == 48) = false := by simp; omega
    have hF : isF (s.data.toList.drop (K + 1)) = true := by
      rcases tf (isF (s.data.toList.drop (K + 1))) with h | h
      · exact h
      · rcases hip.1 h with h | h | h | ⟨_, h⟩
        · exact absurd h hne
        · omega
        · rw [h] at ha; cases ha
        · rw [hld, hlast] at h; exact absurd (of_decide_eq_true h) h8
    have h9 : (s.data.toList == [45, 48]) = false := by
      rw [beq_eq_false_iff_ne]
      intro hc
      rw [hc] at hll
      simp at hll
      omega
    have hgood : pBad s.data.toList = false := by
      rw [← hb1]; unfold rBad; rw [hg, hrb, hF, h9]; rfl
    obtain ⟨b1, b2⟩ := hb2 hgood
    rw [hrF] at b2
    obtain ⟨n1, n2⟩ := num_eq _ hgood _ _ b1 b2
    have HN0 := fun w => rnum_any (mk (ldig (tP s.data.toList))) (mk (s.data.toList.drop (K + 1))) w (by
      have := ldig_len_le (tP s.data.toList)
      rw [ht, List.length_drop, hll] at this
      rw [mk_size, ht]; omega) (by rw [mk_size]; omega) hWd ha
    rw [← hW, ← ext_drop] at HN0
    rcases tf (dnOk (ldig (tP s.data.toList)) (s.data.toList.drop (K + 1))) with hok | hok
    · obtain ⟨e1, e2, e3, e4⟩ := n2 hok
      rw [e1, e2, hsg]
      refine rp0_dotok s w hs h0 hz hp K HD h1 h1' h2 hk hk1 h4 h5 h6 Q HQ hq (by omega) (by omega) (by omega) HZ h8' (by rw [eq_list]; exact h9) _ e3 e4 (fun w => ?_)
      have := HN0 w
      rw [ext_drop, hW] at this ⊢
      rw [mk_data, mk_data, hok] at this
      exact this
    · obtain ⟨e1, e2⟩ := n1 hok
      rw [e1, e2]
      refine rp0_dotno s w hs h0 hz hp K HD h1 h1' h2 hk hk1 h4 h5 h6 Q HQ hq (by omega) (by omega) (by omega) HZ h8' (by rw [eq_list]; exact h9) (dn (ldig (tP s.data.toList)) (s.data.toList.drop (K + 1))) (fun w => ?_)
      have := HN0 w
      rw [ext_drop, hW] at this ⊢
      rw [mk_data, mk_data, hok] at this
      exact this
  · have hR0 : rD (tP s.data.toList) = [] := by rw [hR]; exact List.drop_of_length_le (by omega)
    have hrF : rF s.data.toList = [] := by unfold rF; rw [hR0]; rfl
    have hki : ¬ (K : Int) < s.size := by omega
    have hki' : (K : Int) ≤ s.size := by omega
    rcases tf (s.data.toList == [45, 48]) with h9 | h9
    · obtain ⟨e1, e2⟩ := bad (by unfold rBad; rw [hR0, h9]; simp) 0 1 rfl rfl
      rw [e1, e2]
      exact rp0_bad8 s w hs h0 hz hp K HD h1 h1' h2 hki hki' (by rw [eq_list]; exact h9)
    have hgood : pBad s.data.toList = false := by
      rw [← hb1]; unfold rBad; rw [hg, hR0, h9]; rfl
    obtain ⟨b1, b2⟩ := hb2 hgood
    rw [hrF] at b2
    obtain ⟨n1, n2⟩ := num_eq _ hgood _ _ b1 b2
    have HN0 := fun w => rnum_any (mk (ldig (tP s.data.toList))) (mk []) w (by
      have := ldig_len_le (tP s.data.toList)
      rw [ht, List.length_drop, hll] at this
      rw [mk_size, ht]; omega) (by rw [mk_size]; exact Nat.zero_le _) hWd rfl
    rcases tf (dnOk (ldig (tP s.data.toList)) []) with hok | hok
    · obtain ⟨e1, e2, e3, e4⟩ := n2 hok
      rw [e1, e2, hsg]
      refine rp0_nook s w hs h0 hz hp K HD h1 h1' h2 hki hki' (by rw [eq_list]; exact h9) _ e3 e4 (fun w => ?_)
      have := HN0 w
      rw [hW]
      rw [mk_data, mk_data, hok] at this
      exact this
    · obtain ⟨e1, e2⟩ := n1 hok
      rw [e1, e2]
      refine rp0_nono s w hs h0 hz hp K HD h1 h1' h2 hki hki' (by rw [eq_list]; exact h9) (dn (ldig (tP s.data.toList)) []) (fun w => ?_)
      have := HN0 w
      rw [hW]
      rw [mk_data, mk_data, hok] at this
      exact this

theorem rp1_bad0 (s : ByteArray) (w : World) (h0 : 0 < s.size) (hz : (((s[0]'h0).toNat : Int) == 45) = true) (K : Nat)
    (HD : Hid (∀ w, Calls Tryd.prog 58 #[.string s, .int .i64 1] w fun e w' => e = .returned (.int .i64 K) ∧ w = w')) (hK : K = 1) :
    Calls Tryd.prog 33 #[.string s] w fun e w' => e = .returned (.tuple #[.int .i64 0, .int .i64 1]) ∧ w = w' := by
  subst hK
  go_enter Tryd.func33, Tryd.ntmps33
  go_wp2_with (go_at_call 58; refine (HD.out _).mono ?_; rintro e w' ⟨rfl, rfl⟩)
  go_ret2
  exact ⟨rfl, rfl⟩
theorem rparse_nil (w : World) :
    Calls Tryd.prog 33 #[.string ByteArray.empty] w fun e w' => e = .returned (.tuple #[.int .i64 0, .int .i64 1]) ∧ w = w' := by
  have HD : Hid (∀ w, Calls Tryd.prog 58 #[.string ByteArray.empty, .int .i64 0] w fun e w' => e = .returned (.int .i64 0) ∧ w = w') := fun w => rdig_any ByteArray.empty 0 w (by decide) (by decide)
  go_enter Tryd.func33, Tryd.ntmps33
  go_wp2_with (go_at_call 58; refine (HD.out _).mono ?_; rintro e w' ⟨rfl, rfl⟩)
  go_ret2
  exact ⟨rfl, rfl⟩

set_option maxHeartbeats 1000000 in
theorem rdparse1 (s : ByteArray) (w : World) (hs : s.size ≤ maxLen) (h0 : 0 < s.size) (hm : hd 45 s.data.toList = true) :
    Calls Tryd.prog 33 #[.string s] w fun e w' => e = .returned (.tuple #[.int .i64 (pV s.data.toList), .int .i64 (pE s.data.toList)]) ∧ w = w' := by
  have hmx := hs
  unfold maxLen at hs
  have ht : tP s.data.toList = s.data.toList.drop 1 := by unfold tP cutP; rw [hm, if_pos rfl, List.drop_one]
  have hz : (((s[0]'h0).toNat : Int) == 45) = true := by rw [← hd_get s h0]; exact hm
  have HD0 := fun w => rdig_any s 1 w hmx (by omega)
  rw [← ht] at HD0
  obtain ⟨hb1, hb2⟩ := rbad_eq s.data.toList
  have hll := size_len s
  have hsg : ∀ n : Int, sgn n (hd 45 s.data.toList) = -n := fun n => by rw [hm]; rfl
  generalize hK : 1 + (ldig (tP s.data.toList)).length = K at HD0
  have HD : Hid (∀ w, Calls Tryd.prog 58 #[.string s, .int .i64 1] w fun e w' => e = .returned (.int .i64 K) ∧ w = w') := HD0
  clear HD0
  have hKs : K ≤ s.size := by
    have := ldig_len_le (tP s.data.toList)
    rw [ht, List.length_drop, hll] at this
    rw [← hK, ht]; omega
  have hR : rD (tP s.data.toList) = s.data.toList.drop K := by
    unfold rD
    rw [ht, List.drop_drop, ← hK, ht]
  have hW : s.extract 1 K = mk (ldig (tP s.data.toList)) := by
    rw [ext_mid, ← ht, ← hK, show 1 + (ldig (tP s.data.toList)).length - 1 = (ldig (tP s.data.toList)).length by omega, take_len]
  have hWd := all_ldig (tP s.data.toList)
  have hWm := mag_parts _ hWd
  have bad : rBad s.data.toList = true → ∀ (v e : Int), v = 0 → e = 1 → pV s.data.toList = v ∧ pE s.data.toList = e := by
    intro h v e hv he
    rw [hb1] at h
    unfold pV pE
    rw [h, hv, he]; exact ⟨rfl, rfl⟩
  by_cases k0 : K = 1
  · have hW0 : ldig (tP s.data.toList) = [] := List.eq_nil_of_length_eq_zero (by omega)
    obtain ⟨e1, e2⟩ := bad (by unfold rBad; rw [hW0]; rfl) 0 1 rfl rfl
    rw [e1, e2]
    by_cases hp : 1 < s.size
    · exact rp1_bad1 s w hs h0 hz hp K HD k0
    · exact rp1_bad0 s w h0 hz K HD k0
  have hp : 1 < s.size := by omega
  have h1 : (1 : Int) < K := by omega
  have h1' : ((K : Int) == 1) = false := by simp; omega
  have hWn : ldig (tP s.data.toList) ≠ [] := fun hc => by rw [hc] at hK; exact k0 (by rw [← hK]; rfl)
  have hh : (ldig (tP s.data.toList)).head? = some (s[1]'hp) := by
    rw [ldig_head _ hWn, ht, head_at _ 1 (by omega), get_list]
  have h48 : (ldig (tP s.data.toList)).head? = some 48 ↔ (s[1]'hp).toNat = 48 := by
    rw [hh]
    constructor
    · intro hc; injection hc with hc; rw [hc]; rfl
    · intro hc; congr 1; exact UInt8.toNat_inj.1 hc
  rcases tf (magB (ldig (tP s.data.toList))) with hg | hg
  rotate_left
  · have hx : (s[1]'hp).toNat = 48 ∧ 2 < K := by
      by_cases hc : (s[1]'hp).toNat = 48 ∧ 2 < K
      · exact hc
      · have : magB (ldig (tP s.data.toList)) = true := hWm.2 ⟨hWn, fun hcc => hc ⟨h48.1 hcc.1, by omega⟩⟩
        rw [this] at hg; cases hg
    obtain ⟨e1, e2⟩ := bad (by unfold rBad; rw [hg]; rfl) 0 1 rfl rfl
    rw [e1, e2]
    exact rp1_bad2 s w hs h0 hz hp K HD h1 h1' (by rw [beq_iff_eq]; omega) (by omega)
  have h2 : (((s[1]'hp).toNat : Int) == 48) = false ∨ (((s[1]'hp).toNat : Int) == 48) = true ∧ ¬ (2 : Int) < K := by
    by_cases hc : (s[1]'hp).toNat = 48
    · refine .inr ⟨by simp; omega, fun hcc => (hWm.1 hg).2 ⟨h48.2 hc, by omega⟩⟩
    · exact .inl (by simp; omega)
  by_cases hk : K < s.size
  · have hRc : rD (tP s.data.toList) = s[K] :: s.data.toList.drop (K + 1) := by
      rw [hR, List.drop_eq_getElem_cons (by omega), get_list]
    have hrF := rF_cons _ _ _ hRc
    by_cases h46 : (s[K]'hk).toNat = 46
    rotate_left
    · obtain ⟨e1, e2⟩ := bad (by
        unfold rBad
        rw [hRc]
        have : (s[K] != 46) = true := by
          have : s[K] ≠ 46 := fun hc => h46 (by rw [hc]; rfl)
          simpa using this
        simp [restBad, this]) 0 1 rfl rfl
      rw [e1, e2]
      exact rp1_bad3 s w hs h0 hz hp K HD h1 h1' h2 hk (by omega) (by simp; omega)
    have hc46 : s[K] = 46 := UInt8.toNat_inj.1 h46
    have h4 : (((s[K]'hk).toNat : Int) != 46) = false := by simp; omega
    have hk1 : (K : Int) + 1 ≤ s.size := by omega
    have hrl : (s.data.toList.drop (K + 1)).length = s.size - (K + 1) := by rw [List.length_drop, hll]
    have hrb : restBad (rD (tP s.data.toList)) = !isF (s.data.toList.drop (K + 1)) := by
      rw [hRc, hc46]; rfl
    have badF : isF (s.data.toList.drop (K + 1)) = false → pV s.data.toList = 0 ∧ pE s.data.toList = 1 := fun h => bad (by unfold rBad; rw [hrb, h]; simp) 0 1 rfl rfl
    have hip := isF_parts (s.data.toList.drop (K + 1))
    by_cases h5 : K + 1 = s.size
    · obtain ⟨e1, e2⟩ := badF (hip.2 (.inl (List.eq_nil_of_length_eq_zero (by omega))))
      rw [e1, e2]
      exact rp1_bad4 s w hs h0 hz hp K HD h1 h1' h2 hk hk1 h4 h5
    by_cases h6 : K + 5 < s.size
    · obtain ⟨e1, e2⟩ := badF (hip.2 (.inr (.inl (by omega))))
      rw [e1, e2]
      exact rp1_bad5 s w hs h0 hz hp K HD h1 h1' h2 hk hk1 h4 h6 (by omega) (by omega)
    have h5 : K + 1 < s.size := by omega
    have h6 : s.size ≤ K + 5 := by omega
    have HQ0 := fun w => rdig_any s (K + 1) w hmx (by omega)
    have hQi := ldig_len_iff (s.data.toList.drop (K + 1))
    have hQl := ldig_len_le (s.data.toList.drop (K + 1))
    generalize hQ : K + 1 + (ldig (s.data.toList.drop (K + 1))).length = Q at HQ0
    have HQ : Hid (∀ w, Calls Tryd.prog 58 #[.string s, .int .i64 ((K : Int) + 1)] w fun e w' => e = .returned (.int .i64 Q) ∧ w = w') := HQ0
    clear HQ0
    rcases tf (allD (s.data.toList.drop (K + 1))) with ha | ha
    rotate_left
    · obtain ⟨e1, e2⟩ := badF (hip.2 (.inr (.inr (.inl ha))))
      rw [e1, e2]
      have hq : Q < s.size := by
        by_cases hc : Q < s.size
        · exact hc
        · have := hQi.1 (by omega)
          rw [this] at ha; cases ha
      exact rp1_bad6 s w hs h0 hz hp K HD h1 h1' h2 hk hk1 h4 h5 h6 Q HQ (by omega)
    have hq : ¬ (Q : Int) < s.size := by
      have := hQi.2 ha
      omega
    have HZ : s.size - 1 < s.size := by omega
    have hlast := last_at s h0
    have hld := last_drop s.data.toList (K + 1) (by omega)
    have hne : s.data.toList.drop (K + 1) ≠ [] := fun hc => by rw [hc] at hrl; simp at hrl; omega
    by_cases h8 : (s[s.size - 1]'HZ).toNat = 48
    · obtain ⟨e1, e2⟩ := badF (hip.2 (.inr (.inr (.inr ⟨hne, by rw [hld, hlast]; exact decide_eq_true h8⟩))))
      rw [e1, e2]
      exact rp1_bad7 s w hs h0 hz hp K HD h1 h1' h2 hk hk1 h4 h5 h6 Q HQ hq (by omega) (by omega) (by omega) HZ (by simp; omega)
    have h8' : (((s[s.size - 1]'HZ).toNat : Int) == 48) = false := by simp; omega
    have hF : isF (s.data.toList.drop (K + 1)) = true := by
      rcases tf (isF (s.data.toList.drop (K + 1))) with h | h
      · exact h
      · rcases hip.1 h with h | h | h | ⟨_, h⟩
        · exact absurd h hne
        · omega
        · rw [h] at ha; cases ha
        · rw [hld, hlast] at h; exact absurd (of_decide_eq_true h) h8
    have h9 : (s.data.toList == [45, 48]) = false := by
      rw [beq_eq_false_iff_ne]
      intro hc
      rw [hc] at hll
      simp at hll
      omega
    have hgood : pBad s.data.toList = false := by
      rw [← hb1]; unfold rBad; rw [hg, hrb, hF, h9]; rfl
    obtain ⟨b1, b2⟩ := hb2 hgood
    rw [hrF] at b2
    obtain ⟨n1, n2⟩ := num_eq _ hgood _ _ b1 b2
    have HN0 := fun w => rnum_any (mk (ldig (tP s.data.toList))) (mk (s.data.toList.drop (K + 1))) w (by
      have := ldig_len_le (tP s.data.toList)
      rw [ht, List.length_drop, hll] at this
      rw [mk_size, ht]; omega) (by rw [mk_size]; omega) hWd ha
    rw [← hW, ← ext_drop] at HN0
    rcases tf (dnOk (ldig (tP s.data.toList)) (s.data.toList.drop (K + 1))) with hok | hok
    · obtain ⟨e1, e2, e3, e4⟩ := n2 hok
      rw [e1, e2, hsg]
      refine rp1_dotok s w hs h0 hz hp K HD h1 h1' h2 hk hk1 h4 h5 h6 Q HQ hq (by omega) (by omega) (by omega) HZ h8' (by rw [eq_list]; exact h9) _ e3 e4 (fun w => ?_)
      have := HN0 w
      rw [ext_drop, hW] at this ⊢
      rw [mk_data, mk_data, hok] at this
      exact this
    · obtain ⟨e1, e2⟩ := n1 hok
      rw [e1, e2]
      refine rp1_dotno s w hs h0 hz hp K HD h1 h1' h2 hk hk1 h4 h5 h6 Q HQ hq (by omega) (by omega) (by omega) HZ h8' (by rw [eq_list]; exact h9) (dn (ldig (tP s.data.toList)) (s.data.toList.drop (K + 1))) (fun w => ?_)
      have := HN0 w
      rw [ext_drop, hW] at this ⊢
      rw [mk_data, mk_data, hok] at this
      exact this
  · have hR0 : rD (tP s.data.toList) = [] := by rw [hR]; exact List.drop_of_length_le (by omega)
    have hrF : rF s.data.toList = [] := by unfold rF; rw [hR0]; rfl
    have hki : ¬ (K : Int) < s.size := by omega
    have hki' : (K : Int) ≤ s.size := by omega
    rcases tf (s.data.toList == [45, 48]) with h9 | h9
    · obtain ⟨e1, e2⟩ := bad (by unfold rBad; rw [hR0, h9]; simp) 0 1 rfl rfl
      rw [e1, e2]
      exact rp1_bad8 s w hs h0 hz hp K HD h1 h1' h2 hki hki' (by rw [eq_list]; exact h9)
    have hgood : pBad s.data.toList = false := by
      rw [← hb1]; unfold rBad; rw [hg, hR0, h9]; rfl
    obtain ⟨b1, b2⟩ := hb2 hgood
    rw [hrF] at b2
    obtain ⟨n1, n2⟩ := num_eq _ hgood _ _ b1 b2
    have HN0 := fun w => rnum_any (mk (ldig (tP s.data.toList))) (mk []) w (by
      have := ldig_len_le (tP s.data.toList)
      rw [ht, List.length_drop, hll] at this
      rw [mk_size, ht]; omega) (by rw [mk_size]; exact Nat.zero_le _) hWd rfl
    rcases tf (dnOk (ldig (tP s.data.toList)) []) with hok | hok
    · obtain ⟨e1, e2, e3, e4⟩ := n2 hok
      rw [e1, e2, hsg]
      refine rp1_nook s w hs h0 hz hp K HD h1 h1' h2 hki hki' (by rw [eq_list]; exact h9) _ e3 e4 (fun w => ?_)
      have := HN0 w
      rw [hW]
      rw [mk_data, mk_data, hok] at this
      exact this
    · obtain ⟨e1, e2⟩ := n1 hok
      rw [e1, e2]
      refine rp1_nono s w hs h0 hz hp K HD h1 h1' h2 hki hki' (by rw [eq_list]; exact h9) (dn (ldig (tP s.data.toList)) []) (fun w => ?_)
      have := HN0 w
      rw [hW]
      rw [mk_data, mk_data, hok] at this
      exact this

theorem rdparse_any (s : ByteArray) (w : World) (hs : s.size ≤ maxLen) :
    Calls Tryd.prog 33 #[.string s] w fun e w' => e = .returned (.tuple #[.int .i64 (pV s.data.toList), .int .i64 (pE s.data.toList)]) ∧ w = w' := by
  by_cases h0 : s.size = 0
  · obtain rfl := empty_of s h0
    exact rparse_nil w
  · rcases tf (hd 45 s.data.toList) with h | h
    · exact rdparse1 s w hs (by omega) h
    · exact rdparse0 s w hs (by omega) h

end Go.Proofs.YtdgbfblhiongoaaDoor
