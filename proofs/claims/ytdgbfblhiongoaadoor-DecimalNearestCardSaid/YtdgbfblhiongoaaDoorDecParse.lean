/- Reading a decimal number: the program's Parse. -/
import Derived.Test.YtdgbfblhiongoaaDoorDecNumR
namespace Go.Proofs.YtdgbfblhiongoaaDoor
open Go.RowKit

/-- The parts of a text: behind its sign, before the point, behind the point. -/
def tP (l : List UInt8) : List UInt8 := cutP 45 l
def fF (t : List UInt8) : List UInt8 := if dotted t then dotF t else []
def wP (l : List UInt8) : List UInt8 := dotB (tP l)
def fP (l : List UInt8) : List UInt8 := fF (tP l)
def pBad (l : List UInt8) : Bool := (hd 45 l && tP l == [48]) || (hd 45 (wP l) || ((dotted (tP l) && !isF (fP l)) || !magB (wP l)))
def pX (l : List UInt8) : Int := sgn ((nv (wP l) * 10000 + fr (fP l) : Nat) : Int) (hd 45 l)
def pV (l : List UInt8) : Int := if pBad l then 0 else if 1000000000 < nv (wP l) then 0 else chkV (pX l)
def pE (l : List UInt8) : Int := if pBad l then 1 else if 1000000000 < nv (wP l) then 9 else chkE (pX l)

theorem dcut_any (s : ByteArray) (w : World) (hs : s.size ≤ maxLen) :
    Calls Tryd.prog 52 #[.string s, .string ⟨#[46]⟩] w fun e w' => e = .returned (.tuple #[.string (mk (dotB s.data.toList)), .string (mk (fF s.data.toList)), .bool (dotted s.data.toList)]) ∧ Below w.heap.size w w' := by
  unfold fF
  rcases tf (dotted s.data.toList) with h | h
  · rw [h]; exact cut_yes s w hs h
  · rw [h]
    have h2 : mk (dotB s.data.toList) = s := by
      rcases index_dot s.data.toList with ⟨h1, _, _⟩ | ⟨_, _, h3⟩
      · rw [h1] at h; cases h
      · rw [h3]; rfl
    rw [h2]; exact cut_no s w hs h

theorem parse_w_bad (l : List UInt8) (hm : minus l = false) (hg : magB l = false) : parseV l = 0 ∧ parseE l = 1 := by
  have hd : digitsOf l = l := by unfold digitsOf; rw [hm]; rfl
  have hb : parseBad l = true := by unfold parseBad; rw [hd, hg]; rfl
  unfold parseV parseE; rw [hb]; exact ⟨rfl, rfl⟩
theorem parse_w_ok (l : List UInt8) (hm : minus l = false) (hg : magB l = true) (hn : nv l ≤ 1000000000) : parseV l = (nv l : Int) ∧ parseE l = 0 := by
  have hd : digitsOf l = l := by unfold digitsOf; rw [hm]; rfl
  have hb : parseBad l = false := by unfold parseBad; rw [hd, hg, hm]; rfl
  have hv := val_nv l (mag_all l hg)
  have f1 : fits (-(nv l : Int)) := ⟨by omega, by omega⟩
  have f2 : fits (nv l : Int) := ⟨by omega, by omega⟩
  unfold parseV parseE subV subE
  rw [hb, hd, hv, hm]
  simp [f1, f2]
theorem parse_w_big (l : List UInt8) (hm : minus l = false) (hg : magB l = true) (hn : 1000000000 < nv l) : (parseV l = 0 ∧ parseE l = 9) ∨ (parseE l = 0 ∧ 1000000000 < parseV l) := by
  have hd : digitsOf l = l := by unfold digitsOf; rw [hm]; rfl
  have hb : parseBad l = false := by unfold parseBad; rw [hd, hg, hm]; rfl
  have hv := val_nv l (mag_all l hg)
  unfold parseV parseE subV subE
  rw [hb, hd, hv, hm]
  simp only [Bool.false_eq_true, if_false]
  by_cases f1 : fits (-(nv l : Int))
  · rw [if_neg (not_not_intro f1), if_neg (not_not_intro f1)]
    by_cases f2 : fits (0 - -(nv l : Int))
    · rw [if_pos f2, if_pos f2]; exact .inr ⟨rfl, by omega⟩
    · rw [if_neg f2, if_neg f2]; exact .inl ⟨rfl, rfl⟩
  · rw [if_pos f1, if_pos f1]; exact .inl ⟨rfl, rfl⟩

theorem fP_ok (l : List UInt8) (h : (dotted (tP l) && !isF (fP l)) = false) : allD (fP l) = true ∧ (fP l).length ≤ 4 := by
  rcases tf (dotted (tP l)) with hd | hd
  · rw [hd, Bool.true_and] at h
    simp only [Bool.not_eq_false'] at h
    unfold isF at h
    simp at h
    exact ⟨h.2.2.2, h.2.1⟩
  · have : fP l = [] := by unfold fP fF; rw [hd]; rfl
    rw [this]; exact ⟨rfl, by simp⟩

theorem sgn_bd (x : Int) (b : Bool) (X : Int) (h : 0 ≤ x ∧ x ≤ X) : -X ≤ sgn x b ∧ sgn x b ≤ X := by
  unfold sgn; split <;> omega

set_option maxHeartbeats 1600000 in
theorem dparse_any (s : ByteArray) (w : World) (hs : s.size ≤ maxLen) (hU : unitsAt w) :
    Calls Tryd.prog 32 #[.string s] w fun e w' => e = .returned (.tuple #[.int .i64 (pV s.data.toList), .int .i64 (pE s.data.toList)]) ∧ Below w.heap.size w w' := by
  generalize hl : s.data.toList = l
  have HC0 := fun w => cutp45_any s w hs
  rw [hl] at HC0
  have hts : (mk (cutP 45 l)).size ≤ maxLen := by
    rw [mk_size]
    have := cut_len 45 l
    rw [← hl, size_len] at this
    rw [← hl]; omega
  have HU : Hid (unitsAt w) := hU
  have HT : Hid ((mk (tP l)).data.toList = tP l) := mk_data _
  have HC : Hid (∀ w, Calls Tryd.prog 51 #[.string s, .string ⟨#[45]⟩] w fun e w' => e = .returned (.tuple #[.string (mk (tP l)), .bool (hd 45 l)]) ∧ w = w') := HC0
  have HQ : Hid (∀ w, Calls Tryd.prog 52 #[.string (mk (tP l)), .string ⟨#[46]⟩] w fun e w' => e = .returned (.tuple #[.string (mk (wP l)), .string (mk (fP l)), .bool (dotted (tP l))]) ∧ Below w.heap.size w w') := fun w => dcut_any (mk (tP l)) w hts
  have has : (mk (wP l)).size ≤ maxLen := by
    have h1 : (wP l).length ≤ (tP l).length := by unfold wP dotB; exact (List.takeWhile_prefix _).length_le
    have h2 : (tP l).length ≤ maxLen := hts
    rw [mk_size]; exact Nat.le_trans h1 h2
  have hbs : (mk (fP l)).size ≤ maxLen := by
    have h1 : (fP l).length ≤ (tP l).length := by unfold fP fF; split; (unfold dotF; rw [List.length_drop]; omega); exact Nat.zero_le _
    have h2 : (tP l).length ≤ maxLen := hts
    rw [mk_size]; exact Nat.le_trans h1 h2
  have HH : Hid (∀ w, Calls Tryd.prog 53 #[.string (mk (wP l)), .string ⟨#[45]⟩] w fun e w' => e = .returned (.bool (hd 45 (wP l))) ∧ w = w') := fun w => hasp_any (mk (wP l)) w has
  have HI : Hid (∀ w, Calls Tryd.prog 54 #[.string (mk (fP l))] w fun e w' => e = .returned (.bool (isF (fP l))) ∧ w = w') := fun w => isf_any (mk (fP l)) w hbs
  have HN : Hid (∀ w, Calls Tryd.prog 55 #[.string (mk (wP l))] w fun e w' => e = .returned (.tuple #[.int .i64 (parseV (wP l)), .int .i64 (parseE (wP l))]) ∧ w = w') := fun w => parse_any (mk (wP l)) w has
  have HR : Hid ((dotted (tP l) && !isF (fP l)) = false → ∀ w, unitsAt w → Calls Tryd.prog 57 #[.string (mk (fP l))] w fun e w' => e = .returned (.int .i64 (fr (fP l))) ∧ Below w.heap.size w w') :=
    fun h w hU => frac_any (mk (fP l)) w (fP_ok l h).2 (fP_ok l h).1 hU
  have HB : Hid ((dotted (tP l) && !isF (fP l)) = false → fr (fP l) < 10000) := fun h => fr_bound _ (fP_ok l h).1 (fP_ok l h).2
  have htz : ((mk (tP l)).toList == [48]) = (tP l == [48]) := by rw [ByteArray.toList_eq]; rfl
  unfold pV pE pBad pX
  have HW1 : Hid (hd 45 (wP l) = false → magB (wP l) = false → parseV (wP l) = 0 ∧ parseE (wP l) = 1) := parse_w_bad (wP l)
  have HW2 : Hid (hd 45 (wP l) = false → magB (wP l) = true → nv (wP l) ≤ 1000000000 → parseV (wP l) = (nv (wP l) : Int) ∧ parseE (wP l) = 0) := parse_w_ok (wP l)
  have HW3 : Hid (hd 45 (wP l) = false → magB (wP l) = true → 1000000000 < nv (wP l) → (parseV (wP l) = 0 ∧ parseE (wP l) = 9) ∨ (parseE (wP l) = 0 ∧ 1000000000 < parseV (wP l))) := parse_w_big (wP l)
  clear HC0 hts has hbs hl hs hU
  generalize mk (tP l) = t at *
  generalize mk (wP l) = a at *
  generalize mk (fP l) = b at *
  generalize hd 45 l = M at *
  generalize (tP l == [48]) = Z at *
  generalize hd 45 (wP l) = B at *
  generalize dotted (tP l) = D at *
  generalize isF (fP l) = F at *
  generalize magB (wP l) = G at *
  generalize nv (wP l) = n at *
  generalize fr (fP l) = q at *
  generalize parseV (wP l) = pv at *
  generalize parseE (wP l) = pe at *
  clear HT
  have hmz : (M = true ∧ Z = true) ∨ ((M && Z) = false ∧ (M = false ∨ (M = true ∧ Z = false))) := by cases M <;> cases Z <;> simp
  rcases hmz with ⟨rfl, rfl⟩ | ⟨hmz, hm⟩
  · simp only [Bool.and_self, Bool.true_or, if_true]
    go_enter Tryd.func32, Tryd.ntmps32
    go_wp2_with (first | (go_at_call 51; refine (HC.out _).mono ?_; rintro e w' ⟨rfl, rfl⟩) | (go_at_call 52; refine (HQ.out _).mono ?_; rintro e w1 ⟨rfl, hb⟩))
    go_ret2
    exact ⟨rfl, hb⟩
  rw [hmz, Bool.false_or]
  clear hmz
  rcases tf B with rfl | rfl
  · simp only [Bool.true_or, if_true]
    rcases hm with rfl | ⟨rfl, rfl⟩
    all_goals
      go_enter Tryd.func32, Tryd.ntmps32
      go_wp2_with (first | (go_at_call 51; refine (HC.out _).mono ?_; rintro e w' ⟨rfl, rfl⟩) | (go_at_call 52; refine (HQ.out _).mono ?_; rintro e w1 ⟨rfl, hb⟩) | (go_at_call 53; refine (HH.out _).mono ?_; rintro e w' ⟨rfl, rfl⟩))
      go_ret2
      exact ⟨rfl, hb⟩
  rw [Bool.false_or]
  have hdf : (D = true ∧ F = false) ∨ ((D && !F) = false ∧ (D = false ∨ (D = true ∧ F = true))) := by cases D <;> cases F <;> simp
  rcases hdf with ⟨rfl, rfl⟩ | ⟨hdf, hd⟩
  · simp only [Bool.not_false, Bool.and_self, Bool.true_or, if_true]
    rcases hm with rfl | ⟨rfl, rfl⟩
    all_goals
      go_enter Tryd.func32, Tryd.ntmps32
      go_wp2_with (first | (go_at_call 51; refine (HC.out _).mono ?_; rintro e w' ⟨rfl, rfl⟩) | (go_at_call 52; refine (HQ.out _).mono ?_; rintro e w1 ⟨rfl, hb⟩) | (go_at_call 53; refine (HH.out _).mono ?_; rintro e w' ⟨rfl, rfl⟩) | (go_at_call 54; refine (HI.out _).mono ?_; rintro e w' ⟨rfl, rfl⟩))
      go_ret2
      exact ⟨rfl, hb⟩
  rw [hdf, Bool.false_or]
  have HR' := Lib.hid (HR.out hdf)
  have hq := HB.out hdf
  clear hdf HR HB
  rcases tf G with rfl | rfl
  rotate_left
  · obtain ⟨rfl, rfl⟩ := HW1.out rfl rfl
    simp only [Bool.not_false, if_true]
    clear HW1 HW2 HW3
    rcases hm with rfl | ⟨rfl, rfl⟩ <;> rcases hd with rfl | ⟨rfl, rfl⟩
    all_goals
      go_enter Tryd.func32, Tryd.ntmps32
      go_wp2_with (first | (go_at_call 51; refine (HC.out _).mono ?_; rintro e w' ⟨rfl, rfl⟩) | (go_at_call 52; refine (HQ.out _).mono ?_; rintro e w1 ⟨rfl, hb⟩) | (go_at_call 53; refine (HH.out _).mono ?_; rintro e w' ⟨rfl, rfl⟩) | (go_at_call 54; refine (HI.out _).mono ?_; rintro e w' ⟨rfl, rfl⟩) | (go_at_call 55; refine (HN.out _).mono ?_; rintro e w' ⟨rfl, rfl⟩))
      go_ret2
      exact ⟨rfl, hb⟩
  simp only [Bool.not_true, Bool.false_eq_true, if_false]
  by_cases hn : 1000000000 < n
  · rw [if_pos hn, if_pos hn]
    rcases HW3.out rfl rfl hn with ⟨rfl, rfl⟩ | ⟨rfl, hv⟩
    · clear HW1 HW2 HW3
      rcases hm with rfl | ⟨rfl, rfl⟩ <;> rcases hd with rfl | ⟨rfl, rfl⟩
      all_goals
        go_enter Tryd.func32, Tryd.ntmps32
        go_wp2_with (first | (go_at_call 51; refine (HC.out _).mono ?_; rintro e w' ⟨rfl, rfl⟩) | (go_at_call 52; refine (HQ.out _).mono ?_; rintro e w1 ⟨rfl, hb⟩) | (go_at_call 53; refine (HH.out _).mono ?_; rintro e w' ⟨rfl, rfl⟩) | (go_at_call 54; refine (HI.out _).mono ?_; rintro e w' ⟨rfl, rfl⟩) | (go_at_call 55; refine (HN.out _).mono ?_; rintro e w' ⟨rfl, rfl⟩))
        go_ret2
        exact ⟨rfl, hb⟩
    · clear HW1 HW2 HW3
      have HF : Hid (∀ w, Calls Tryd.prog 26 #[.int .i64 pv] w fun e w' => e = .returned (.tuple #[.int .i64 0, .int .i64 9]) ∧ w = w') := fun w => by
        have := fromint_any pv w
        rw [frV, frE, if_neg (by omega), if_neg (by omega)] at this; exact this
      rcases hm with rfl | ⟨rfl, rfl⟩ <;> rcases hd with rfl | ⟨rfl, rfl⟩
      all_goals
        go_enter Tryd.func32, Tryd.ntmps32
        go_wp2_with (first | (go_at_call 51; refine (HC.out _).mono ?_; rintro e w' ⟨rfl, rfl⟩) | (go_at_call 52; refine (HQ.out _).mono ?_; rintro e w1 ⟨rfl, hb⟩) | (go_at_call 53; refine (HH.out _).mono ?_; rintro e w' ⟨rfl, rfl⟩) | (go_at_call 54; refine (HI.out _).mono ?_; rintro e w' ⟨rfl, rfl⟩) | (go_at_call 55; refine (HN.out _).mono ?_; rintro e w' ⟨rfl, rfl⟩) | (go_at_call 26; refine (HF.out _).mono ?_; rintro e w' ⟨rfl, rfl⟩))
        go_ret2
        exact ⟨rfl, hb⟩
  · rw [if_neg hn, if_neg hn]
    obtain ⟨rfl, rfl⟩ := HW2.out rfl rfl (by omega)
    clear HW1 HW2 HW3
    have HF : Hid (∀ w, Calls Tryd.prog 26 #[.int .i64 n] w fun e w' => e = .returned (.tuple #[.int .i64 ((n : Int) * 10000), .int .i64 0]) ∧ w = w') := fun w => by
      have := fromint_any n w
      rw [frV, frE, if_pos (by omega), if_pos (by omega)] at this; exact this
    have HX : Hid (∀ w, Calls Tryd.prog 56 #[.int .i64 ((n : Int) * 10000 + (q : Int)), .bool M] w fun e w' => e = .returned (.int .i64 (sgn ((n * 10000 + q : Nat) : Int) M)) ∧ w = w') := fun w => by
      have := signed_any ((n : Int) * 10000 + (q : Int)) M w ⟨by omega, by omega⟩
      have e : ((n * 10000 + q : Nat) : Int) = (n : Int) * 10000 + (q : Int) := by omega
      rw [e]; exact this
    generalize sgn ((n * 10000 + q : Nat) : Int) M = x at *
    have HK : Hid (∀ w, Calls Tryd.prog 41 #[.int .i64 x] w fun e w' => e = .returned (.tuple #[.int .i64 (chkV x), .int .i64 (chkE x)]) ∧ w = w') := fun w => chk_any x w
    generalize chkV x = r1 at *
    generalize chkE x = r2 at *
    rcases hm with rfl | ⟨rfl, rfl⟩ <;> rcases hd with rfl | ⟨rfl, rfl⟩
    all_goals
      go_enter Tryd.func32, Tryd.ntmps32
      go_wp2_with (first | (go_at_call 51; refine (HC.out _).mono ?_; rintro e w' ⟨rfl, rfl⟩) | (go_at_call 52; refine (HQ.out _).mono ?_; rintro e w1 ⟨rfl, hb⟩) | (go_at_call 53; refine (HH.out _).mono ?_; rintro e w' ⟨rfl, rfl⟩) | (go_at_call 54; refine (HI.out _).mono ?_; rintro e w' ⟨rfl, rfl⟩) | (go_at_call 55; refine (HN.out _).mono ?_; rintro e w' ⟨rfl, rfl⟩) | (go_at_call 26; refine (HF.out _).mono ?_; rintro e w' ⟨rfl, rfl⟩) | (go_at_call 57; refine (HR'.out _ (HU.out.below hb)).mono ?_; rintro e w2 ⟨rfl, hb2⟩) | (go_at_call 56; refine (HX.out _).mono ?_; rintro e w' ⟨rfl, rfl⟩) | (go_at_call 41; refine (HK.out _).mono ?_; rintro e w' ⟨rfl, rfl⟩))
      go_ret2
      exact ⟨rfl, hb.trans (hb2.mono hb.size)⟩

end Go.Proofs.YtdgbfblhiongoaaDoor
