/- Reading an int: the program's Parse. -/
import Derived.Test.YticfhbffoajgcaaGreatDoorNumParseB
import Derived.Lib.Strings
namespace Go.Proofs.YticfhbffoajgcaaGreatDoor
open Go.RowKit

/-- The digits of a text: what stands behind its minus sign, if it has one. -/
def cutS (s : ByteArray) : ByteArray := if minus s.data.toList then s.extract 1 s.size else s
theorem cutS_list (s : ByteArray) : (cutS s).data.toList = digitsOf s.data.toList := by
  unfold cutS digitsOf
  split
  · rw [Lib.extract_data]
    simp
    rw [List.take_of_length_le (by simp)]
  · rfl
theorem cutS_size (s : ByteArray) : (cutS s).size ≤ s.size := by
  unfold cutS; split
  · simp
  · exact Nat.le_refl _

theorem minus_head (s : ByteArray) (h : 0 < s.size) : ((s.extract 0 1).toList == [45]) = minus s.data.toList := by
  rw [ByteArray.toList_eq, Lib.extract_data]
  unfold minus
  obtain ⟨⟨l⟩⟩ := s
  cases l with
  | nil => exact absurd h (Nat.lt_irrefl 0)
  | cons c r =>
    simp

theorem minus_nil (s : ByteArray) (h : s.size = 0) : minus s.data.toList = false := by
  obtain rfl := empty_of s h; rfl

set_option maxHeartbeats 400000 in
theorem cut_any (s : ByteArray) (w : World) (hs : s.size ≤ maxLen) :
    Calls Tryz.prog 205 #[.string s, .string ⟨#[45]⟩] w fun e w' => e = .returned (.tuple #[.string (cutS s), .bool (minus s.data.toList)]) ∧ w = w' := by
  unfold maxLen at hs
  unfold cutS
  by_cases h0 : s.size = 0
  · obtain rfl := empty_of s h0
    rw [minus_nil _ rfl]
    clear hs h0
    go_enter Tryz.func205, Tryz.ntmps205
    go_wp2
    go_ret2
    exact ⟨rfl, rfl⟩
  · have hp : (1 : Int) ≤ s.size := by omega
    have hm := minus_head s (by omega)
    rcases tf (minus s.data.toList) with hv | hv
    all_goals
      rw [hv] at hm
      rw [hv]
      clear hv h0
      go_enter Tryz.func205, Tryz.ntmps205
      go_wp2
      go_ret2
      exact ⟨rfl, rfl⟩

theorem mag_all (l : List UInt8) (h : magB l = true) : allD l = true := by
  cases l with
  | nil => cases h
  | cons c r =>
    unfold magB at h
    simp at h
    exact h.2

theorem negated_yes (s : ByteArray) (w : World) (hs : s.size ≤ maxLen) (hd : allD s.data.toList = true) (hf : fits (val s.data.toList)) :
    Calls Tryz.prog 207 #[.string s] w fun e w' => e = .returned (.tuple #[.int .i64 (val s.data.toList), .int .i64 0]) ∧ w = w' :=
  (negated_any s w hs hd).mono fun e w' ⟨h1, h2⟩ => ⟨by rw [h1, negV, negE, if_pos hf, if_pos hf], h2⟩
theorem negated_no (s : ByteArray) (w : World) (hs : s.size ≤ maxLen) (hd : allD s.data.toList = true) (hf : ¬ fits (val s.data.toList)) :
    Calls Tryz.prog 207 #[.string s] w fun e w' => e = .returned (.tuple #[.int .i64 0, .int .i64 9]) ∧ w = w' :=
  (negated_any s w hs hd).mono fun e w' ⟨h1, h2⟩ => ⟨by rw [h1, negV, negE, if_neg hf, if_neg hf], h2⟩

theorem toList_48 (t : ByteArray) : (t.toList == [48]) = (t.data.toList == [48]) := by rw [ByteArray.toList_eq]

set_option maxHeartbeats 400000 in
theorem parse_any (s : ByteArray) (w : World) (hs : s.size ≤ maxLen) :
    Calls Tryz.prog 169 #[.string s] w fun e w' => e = .returned (.tuple #[.int .i64 (parseV s.data.toList), .int .i64 (parseE s.data.toList)]) ∧ w = w' := by
  have HC : Hid (∀ w, Calls Tryz.prog 205 #[.string s, .string ⟨#[45]⟩] w fun e w' => e = .returned (.tuple #[.string (cutS s), .bool (minus s.data.toList)]) ∧ w = w') := fun w => cut_any s w hs
  have hts : (cutS s).size ≤ maxLen := Nat.le_trans (cutS_size s) hs
  unfold parseV parseE parseBad
  rw [← cutS_list]
  generalize hM : minus s.data.toList = M at *
  generalize hT : cutS s = t at *
  clear hM hT hs
  have HI : Hid (∀ w, Calls Tryz.prog 206 #[.string t] w fun e w' => e = .returned (.bool (magB t.data.toList)) ∧ w = w') := fun w => ismag_any t w hts
  rcases tf (magB t.data.toList) with hm | hm
  rotate_left
  · rw [hm] at HI ⊢
    simp only [Bool.not_false, Bool.true_or, if_true]
    clear hm hts
    go_enter Tryz.func169, Tryz.ntmps169
    go_wp2_with (first | (go_at_call 205; refine (HC.out _).mono ?_; rintro e w' ⟨rfl, rfl⟩) | (go_at_call 206; refine (HI.out _).mono ?_; rintro e w' ⟨rfl, rfl⟩))
    go_ret2
    exact ⟨rfl, rfl⟩
  · rw [hm] at HI ⊢
    have hd := mag_all _ hm
    clear hm
    have ht := toList_48 t
    have hbad : M = true ∧ (t.data.toList == [48]) = true ∨ (M && t.data.toList == [48]) = false := by
      rcases tf M with h | h <;> rcases tf (t.data.toList == [48]) with h' | h' <;> simp [h, h']
    rcases hbad with ⟨rfl, hz⟩ | hb
    · rw [hz] at ht ⊢
      simp only [Bool.not_true, Bool.false_or, Bool.true_and, if_true]
      clear hz hts hd
      go_enter Tryz.func169, Tryz.ntmps169
      go_wp2_with (first | (go_at_call 205; refine (HC.out _).mono ?_; rintro e w' ⟨rfl, rfl⟩) | (go_at_call 206; refine (HI.out _).mono ?_; rintro e w' ⟨rfl, rfl⟩))
      go_ret2
      exact ⟨rfl, rfl⟩
    · rw [hb]
      simp only [Bool.not_true, Bool.false_or, Bool.false_eq_true, if_false]
      have hb2 : M = false ∨ (M = true ∧ (t.toList == [48]) = false) := by
        rcases tf M with h | h
        · rw [h, Bool.true_and] at hb; exact .inr ⟨h, by rw [ht, hb]⟩
        · exact .inl h
      clear hb ht
      by_cases hf : fits (val t.data.toList)
      · have HN : Hid (∀ w, Calls Tryz.prog 207 #[.string t] w fun e w' => e = .returned (.tuple #[.int .i64 (val t.data.toList), .int .i64 0]) ∧ w = w') := fun w => negated_yes t w hts hd hf
        rw [if_neg (not_not_intro hf), if_neg (not_not_intro hf)]
        have HB : Hid (∀ w, Calls Tryz.prog 208 #[.int .i64 0, .int .i64 (val t.data.toList)] w fun e w' => e = .returned (.tuple #[.int .i64 (subV 0 (val t.data.toList)), .int .i64 (subE 0 (val t.data.toList))]) ∧ w = w') := fun w => sub_any _ _ w (by decide) hf
        generalize val t.data.toList = v at *
        clear hf hd hts
        rcases hb2 with rfl | ⟨rfl, hz⟩
        · simp only [Bool.false_eq_true, if_false]
          generalize subV 0 v = v1 at *
          generalize subE 0 v = v2 at *
          go_enter Tryz.func169, Tryz.ntmps169
          go_wp2_with (first | (go_at_call 205; refine (HC.out _).mono ?_; rintro e w' ⟨rfl, rfl⟩) | (go_at_call 206; refine (HI.out _).mono ?_; rintro e w' ⟨rfl, rfl⟩) | (go_at_call 207; refine (HN.out _).mono ?_; rintro e w' ⟨rfl, rfl⟩) | (go_at_call 208; refine (HB.out _).mono ?_; rintro e w' ⟨rfl, rfl⟩))
          go_ret2
          exact ⟨rfl, rfl⟩
        · simp only [if_true]
          go_enter Tryz.func169, Tryz.ntmps169
          go_wp2_with (first | (go_at_call 205; refine (HC.out _).mono ?_; rintro e w' ⟨rfl, rfl⟩) | (go_at_call 206; refine (HI.out _).mono ?_; rintro e w' ⟨rfl, rfl⟩) | (go_at_call 207; refine (HN.out _).mono ?_; rintro e w' ⟨rfl, rfl⟩))
          go_ret2
          exact ⟨rfl, rfl⟩
      · have HN : Hid (∀ w, Calls Tryz.prog 207 #[.string t] w fun e w' => e = .returned (.tuple #[.int .i64 0, .int .i64 9]) ∧ w = w') := fun w => negated_no t w hts hd hf
        rw [if_pos hf, if_pos hf]
        clear hf hd hts
        rcases hb2 with rfl | ⟨rfl, hz⟩
        all_goals
          go_enter Tryz.func169, Tryz.ntmps169
          go_wp2_with (first | (go_at_call 205; refine (HC.out _).mono ?_; rintro e w' ⟨rfl, rfl⟩) | (go_at_call 206; refine (HI.out _).mono ?_; rintro e w' ⟨rfl, rfl⟩) | (go_at_call 207; refine (HN.out _).mono ?_; rintro e w' ⟨rfl, rfl⟩))
          go_ret2
          exact ⟨rfl, rfl⟩

end Go.Proofs.YticfhbffoajgcaaGreatDoor
