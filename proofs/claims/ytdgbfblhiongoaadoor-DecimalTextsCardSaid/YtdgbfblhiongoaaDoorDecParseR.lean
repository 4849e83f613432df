/- Reading a decimal number: the reference's Parse. -/
import Derived.Test.YtdgbfblhiongoaaDoorDecParse
namespace Go.Proofs.YtdgbfblhiongoaaDoor
open Go.RowKit
set_option linter.unusedVariables false      -- the frame binds names that not every walk uses

/-- What stands behind the digits at the beginning. -/
def rD (t : List UInt8) : List UInt8 := t.drop (ldig t).length
theorem ldig_cons (c : UInt8) (r : List UInt8) : (isD c = true → ldig (c :: r) = c :: ldig r ∧ rD (c :: r) = rD r) ∧ (isD c = false → ldig (c :: r) = [] ∧ rD (c :: r) = c :: r) := by
  constructor
  · intro h
    have : ldig (c :: r) = c :: ldig r := by unfold ldig; rw [List.takeWhile_cons, if_pos h]
    refine ⟨this, ?_⟩
    unfold rD; rw [this]; rfl
  · intro h
    have : ldig (c :: r) = [] := by unfold ldig; rw [List.takeWhile_cons, h]; rfl
    refine ⟨this, ?_⟩
    unfold rD; rw [this]; rfl
theorem dot_cons (c : UInt8) (r : List UInt8) (h : c ≠ 46) : dotB (c :: r) = c :: dotB r ∧ dotF (c :: r) = dotF r ∧ dotted (c :: r) = dotted r := by
  have h1 : (c != 46) = true := by simpa using h
  have h2 : (46 == c) = false := beq_eq_false_iff_ne.2 (fun e => h e.symm)
  have : dotB (c :: r) = c :: dotB r := by unfold dotB; rw [List.takeWhile_cons, if_pos h1]
  refine ⟨this, ?_, ?_⟩
  · unfold dotF; rw [this]; rfl
  · unfold dotted; rw [List.contains_cons, h2]; rfl
theorem dig_dot (t : List UInt8) : (allD (dotB t) = true → ldig t = dotB t ∧ (dotted t = true → rD t = 46 :: dotF t) ∧ (dotted t = false → rD t = [])) ∧ (allD (dotB t) = false → ∃ c r, rD t = c :: r ∧ c ≠ 46) := by
  induction t with
  | nil => exact ⟨fun _ => ⟨rfl, (fun h => (by cases h)), fun _ => rfl⟩, (fun h => (by cases h))⟩
  | cons c r ih =>
    by_cases hc : c = 46
    · subst hc
      refine ⟨fun _ => ⟨rfl, fun _ => rfl, fun h => ?_⟩, (fun h => (by cases h))⟩
      unfold dotted at h; simp at h
    · obtain ⟨d1, d2, d3⟩ := dot_cons c r hc
      obtain ⟨l1, l2⟩ := ldig_cons c r
      rw [d1, d2, d3]
      rcases tf (isD c) with hi | hi
      · obtain ⟨l3, l4⟩ := l1 hi
        rw [l3, l4]
        have : allD (c :: dotB r) = allD (dotB r) := by rw [allD_isD, allD_isD, List.all_cons, hi, Bool.true_and]
        rw [this]
        refine ⟨fun h => ?_, ih.2⟩
        obtain ⟨a, b, d⟩ := ih.1 h
        exact ⟨by rw [a], b, d⟩
      · obtain ⟨l3, l4⟩ := l2 hi
        rw [l3, l4]
        have : allD (c :: dotB r) = false := by rw [allD_isD, List.all_cons, hi, Bool.false_and]
        rw [this]
        exact ⟨(fun h => (by cases h)), fun _ => ⟨c, r, rfl, hc⟩⟩

def restBad : List UInt8 → Bool
  | [] => false
  | c :: r => c != 46 || !isF r
def rBad (l : List UInt8) : Bool := !magB (ldig (tP l)) || (restBad (rD (tP l)) || l == [45, 48])
/-- What stands behind the point. -/
def rF (l : List UInt8) : List UInt8 := (rD (tP l)).tail

theorem min0 (l : List UInt8) : (hd 45 l && tP l == [48]) = (l == [45, 48]) := by
  unfold tP cutP hd
  cases l with
  | nil => rfl
  | cons c r =>
    by_cases h : c = 45
    · subst h; simp
    · have h1 : (c == 45) = false := by simpa using h
      simp [h1]
theorem hd_dig (w : List UInt8) (h : allD w = true) : hd 45 w = false := by
  unfold hd
  cases w with
  | nil => rfl
  | cons c r =>
    rw [allD_isD, List.all_cons, Bool.and_eq_true] at h
    have := (isD_iff c).1 h.1
    simp
    rintro rfl
    exact absurd this.1 (by decide)
theorem mag_dig (w : List UInt8) (h : allD w = false) : magB w = false := by
  cases hm : magB w with
  | false => rfl
  | true => rw [mag_all w hm] at h; cases h

theorem rbad_eq (l : List UInt8) : rBad l = pBad l ∧ (pBad l = false → ldig (tP l) = wP l ∧ rF l = fP l) := by
  unfold rBad pBad rF wP fP fF
  rw [min0]
  generalize (l == [45, 48]) = Z
  generalize tP l = t
  obtain ⟨h1, h2⟩ := dig_dot t
  rcases tf (allD (dotB t)) with ha | ha
  · obtain ⟨a, b, c⟩ := h1 ha
    rw [a, hd_dig _ ha]
    rcases tf (dotted t) with hd | hd
    · rw [b hd, hd]
      simp only [restBad, List.tail_cons, if_true]
      refine ⟨?_, fun _ => ⟨trivial, trivial⟩⟩
      cases isF (dotF t) <;> cases magB (dotB t) <;> cases Z <;> rfl
    · rw [c hd, hd]
      simp only [restBad, List.tail_nil, Bool.false_eq_true, if_false]
      refine ⟨?_, fun _ => ⟨trivial, trivial⟩⟩
      cases magB (dotB t) <;> cases Z <;> rfl
  · obtain ⟨c, r, hr, hc⟩ := h2 ha
    have hb : restBad (rD t) = true := by
      rw [hr]
      have : (c != 46) = true := by simpa using hc
      show (c != 46 || !isF r) = true
      rw [this]; rfl
    rw [hb, mag_dig _ ha]
    refine ⟨by simp, fun h => ?_⟩
    simp at h

theorem num_eq (l : List UInt8) (hb : pBad l = false) (w f : List UInt8) (hw : w = wP l) (hf : f = fP l) :
    (dnOk w f = false → pV l = 0 ∧ pE l = 9) ∧ (dnOk w f = true → pV l = sgn (dn w f) (hd 45 l) ∧ pE l = 0 ∧ 0 ≤ dn w f ∧ dn w f ≤ 10000000000000) := by
  subst hw; subst hf
  unfold dnOk pV pE pX dn
  rw [hb]
  simp only [Bool.false_eq_true, if_false]
  generalize nv (wP l) = n
  generalize fr (fP l) = q
  by_cases hn : 1000000000 < n
  · rw [if_pos hn, if_pos hn]
    refine ⟨fun _ => ⟨rfl, rfl⟩, fun h => ?_⟩
    simp at h; omega
  · rw [if_neg hn, if_neg hn, if_pos (by omega)]
    by_cases hx : n * 10000 + q ≤ 10000000000000
    · refine ⟨fun h => by simp at h; omega, fun _ => ?_⟩
      have hv : vB (sgn ((n * 10000 + q : Nat) : Int) (hd 45 l)) = true := (vB_iff _).2 (sgn_bd _ _ _ ⟨by omega, by omega⟩)
      unfold chkV chkE
      rw [hv, if_pos rfl, if_pos rfl]
      exact ⟨rfl, rfl, by omega, by omega⟩
    · refine ⟨fun _ => ?_, fun h => by simp at h; omega⟩
      have hv : vB (sgn ((n * 10000 + q : Nat) : Int) (hd 45 l)) = false := (vB_not _).2 (by unfold sgn; split <;> omega)
      unfold chkV chkE
      rw [hv]; exact ⟨rfl, rfl⟩

theorem mag_parts (w : List UInt8) (h : allD w = true) : magB w = true ↔ w ≠ [] ∧ ¬ (w.head? = some 48 ∧ 1 < w.length) := by
  cases w with
  | nil => exact ⟨(fun h => (by cases h)), fun h => absurd rfl h.1⟩
  | cons c r =>
    show (!(c == 48 && !r.isEmpty) && allD (c :: r)) = true ↔ _
    rw [h]
    cases r with
    | nil => simp
    | cons d r => simp
theorem len1 (s : ByteArray) (l : List UInt8) (h : s.data.toList = l) : s.size = l.length := by rw [← h, size_len]

set_option maxHeartbeats 400000 in
theorem rp0_bad1 (s : ByteArray) (w : World) (hs : s.size ≤ 9223372036854775807) (h0 : 0 < s.size) (hz : (((s[0]'h0).toNat : Int) == 45) = false) (hp : 0 < s.size) (K : Nat)
    (HD : Hid (∀ w, Calls Tryd.prog 58 #[.string s, .int .i64 0] w fun e w' => e = .returned (.int .i64 K) ∧ w = w'))
    (hK : K = 0) :
    Calls Tryd.prog 33 #[.string s] w fun e w' => e = .returned (.tuple #[.int .i64 0, .int .i64 1]) ∧ w = w' := by
  subst hK
  go_enter Tryd.func33, Tryd.ntmps33
  go_wp2_with (go_at_call 58; refine (HD.out _).mono ?_; rintro e w' ⟨rfl, rfl⟩)
  go_ret2
  exact ⟨rfl, rfl⟩

set_option maxHeartbeats 400000 in
theorem rp0_bad2 (s : ByteArray) (w : World) (hs : s.size ≤ 9223372036854775807) (h0 : 0 < s.size) (hz : (((s[0]'h0).toNat : Int) == 45) = false) (hp : 0 < s.size) (K : Nat)
    (HD : Hid (∀ w, Calls Tryd.prog 58 #[.string s, .int .i64 0] w fun e w' => e = .returned (.int .i64 K) ∧ w = w'))
    (h1 : (0 : Int) < K) (h1' : ((K : Int) == 0) = false) (h2 : (((s[0]'hp).toNat : Int) == 48) = true) (h3 : (1 : Int) < K) :
    Calls Tryd.prog 33 #[.string s] w fun e w' => e = .returned (.tuple #[.int .i64 0, .int .i64 1]) ∧ w = w' := by
  go_enter Tryd.func33, Tryd.ntmps33
  go_wp2_with (go_at_call 58; refine (HD.out _).mono ?_; rintro e w' ⟨rfl, rfl⟩)
  go_ret2
  exact ⟨rfl, rfl⟩

set_option maxHeartbeats 400000 in
theorem rp0_bad3 (s : ByteArray) (w : World) (hs : s.size ≤ 9223372036854775807) (h0 : 0 < s.size) (hz : (((s[0]'h0).toNat : Int) == 45) = false) (hp : 0 < s.size) (K : Nat)
    (HD : Hid (∀ w, Calls Tryd.prog 58 #[.string s, .int .i64 0] w fun e w' => e = .returned (.int .i64 K) ∧ w = w'))
    (h1 : (0 : Int) < K) (h1' : ((K : Int) == 0) = false) (h2 : (((s[0]'hp).toNat : Int) == 48) = false ∨ (((s[0]'hp).toNat : Int) == 48) = true ∧ ¬ (1 : Int) < K) (hk : K < s.size) (hk' : (K : Int) < s.size) (h4 : (((s[K]'hk).toNat : Int) != 46) = true) :
    Calls Tryd.prog 33 #[.string s] w fun e w' => e = .returned (.tuple #[.int .i64 0, .int .i64 1]) ∧ w = w' := by
  rcases h2 with h2 | ⟨h2, h3⟩
  all_goals
    go_enter Tryd.func33, Tryd.ntmps33
    go_wp2_with (go_at_call 58; refine (HD.out _).mono ?_; rintro e w' ⟨rfl, rfl⟩)
    all_goals first | (exfalso; omega) | (go_ret2; exact ⟨rfl, rfl⟩)

set_option maxHeartbeats 400000 in
theorem rp0_bad4 (s : ByteArray) (w : World) (hs : s.size ≤ 9223372036854775807) (h0 : 0 < s.size) (hz : (((s[0]'h0).toNat : Int) == 45) = false) (hp : 0 < s.size) (K : Nat)
    (HD : Hid (∀ w, Calls Tryd.prog 58 #[.string s, .int .i64 0] w fun e w' => e = .returned (.int .i64 K) ∧ w = w'))
    (h1 : (0 : Int) < K) (h1' : ((K : Int) == 0) = false) (h2 : (((s[0]'hp).toNat : Int) == 48) = false ∨ (((s[0]'hp).toNat : Int) == 48) = true ∧ ¬ (1 : Int) < K) (hk : K < s.size) (hk' : (K : Int) + 1 ≤ s.size) (h4 : (((s[K]'hk).toNat : Int) != 46) = false) (h5 : K + 1 = s.size) :
    Calls Tryd.prog 33 #[.string s] w fun e w' => e = .returned (.tuple #[.int .i64 0, .int .i64 1]) ∧ w = w' := by
  rcases h2 with h2 | ⟨h2, h3⟩
  all_goals
    go_enter Tryd.func33, Tryd.ntmps33
    go_wp2_with (go_at_call 58; refine (HD.out _).mono ?_; rintro e w' ⟨rfl, rfl⟩)
    all_goals first | (exfalso; omega) | (go_ret2; exact ⟨rfl, rfl⟩)

set_option maxHeartbeats 400000 in
theorem rp0_bad5 (s : ByteArray) (w : World) (hs : s.size ≤ 9223372036854775807) (h0 : 0 < s.size) (hz : (((s[0]'h0).toNat : Int) == 45) = false) (hp : 0 < s.size) (K : Nat)
    (HD : Hid (∀ w, Calls Tryd.prog 58 #[.string s, .int .i64 0] w fun e w' => e = .returned (.int .i64 K) ∧ w = w'))
    (h1 : (0 : Int) < K) (h1' : ((K : Int) == 0) = false) (h2 : (((s[0]'hp).toNat : Int) == 48) = false ∨ (((s[0]'hp).toNat : Int) == 48) = true ∧ ¬ (1 : Int) < K) (hk : K < s.size) (hk' : (K : Int) + 1 ≤ s.size) (h4 : (((s[K]'hk).toNat : Int) != 46) = false) (h5 : K + 5 < s.size) (h5n : 4 < s.size - (K + 1)) (h5i : (4 : Int) < ((s.size - (K + 1) : Nat) : Int)) :
    Calls Tryd.prog 33 #[.string s] w fun e w' => e = .returned (.tuple #[.int .i64 0, .int .i64 1]) ∧ w = w' := by
  rcases h2 with h2 | ⟨h2, h3⟩
  all_goals
    go_enter Tryd.func33, Tryd.ntmps33
    go_wp2_with (go_at_call 58; refine (HD.out _).mono ?_; rintro e w' ⟨rfl, rfl⟩)
    all_goals first | (exfalso; omega) | (go_ret2; exact ⟨rfl, rfl⟩)

set_option maxHeartbeats 400000 in
theorem rp0_bad6 (s : ByteArray) (w : World) (hs : s.size ≤ 9223372036854775807) (h0 : 0 < s.size) (hz : (((s[0]'h0).toNat : Int) == 45) = false) (hp : 0 < s.size) (K : Nat)
    (HD : Hid (∀ w, Calls Tryd.prog 58 #[.string s, .int .i64 0] w fun e w' => e = .returned (.int .i64 K) ∧ w = w'))
    (h1 : (0 : Int) < K) (h1' : ((K : Int) == 0) = false) (h2 : (((s[0]'hp).toNat : Int) == 48) = false ∨ (((s[0]'hp).toNat : Int) == 48) = true ∧ ¬ (1 : Int) < K) (hk : K < s.size) (hk' : (K : Int) + 1 ≤ s.size) (h4 : (((s[K]'hk).toNat : Int) != 46) = false) (h5 : K + 1 < s.size) (h6 : s.size ≤ K + 5) (Q : Nat) (HQ : Hid (∀ w, Calls Tryd.prog 58 #[.string s, .int .i64 ((K : Int) + 1)] w fun e w' => e = .returned (.int .i64 Q) ∧ w = w')) (h7 : (Q : Int) < s.size) :
    Calls Tryd.prog 33 #[.string s] w fun e w' => e = .returned (.tuple #[.int .i64 0, .int .i64 1]) ∧ w = w' := by
  rcases h2 with h2 | ⟨h2, h3⟩
  all_goals
    go_enter Tryd.func33, Tryd.ntmps33
    go_wp2_with (go_at_call 58; first | ((with_reducible refine (HD.out _).mono ?_); rintro e w' ⟨rfl, rfl⟩) | ((with_reducible refine (HQ.out _).mono ?_); rintro e w' ⟨rfl, rfl⟩))
    all_goals first | (exfalso; omega) | (go_ret2; exact ⟨rfl, rfl⟩)

set_option maxHeartbeats 400000 in
theorem rp0_bad7 (s : ByteArray) (w : World) (hs : s.size ≤ 9223372036854775807) (h0 : 0 < s.size) (hz : (((s[0]'h0).toNat : Int) == 45) = false) (hp : 0 < s.size) (K : Nat)
    (HD : Hid (∀ w, Calls Tryd.prog 58 #[.string s, .int .i64 0] w fun e w' => e = .returned (.int .i64 K) ∧ w = w'))
    (h1 : (0 : Int) < K) (h1' : ((K : Int) == 0) = false) (h2 : (((s[0]'hp).toNat : Int) == 48) = false ∨ (((s[0]'hp).toNat : Int) == 48) = true ∧ ¬ (1 : Int) < K) (hk : K < s.size) (hk' : (K : Int) + 1 ≤ s.size) (h4 : (((s[K]'hk).toNat : Int) != 46) = false) (h5 : K + 1 < s.size) (h6 : s.size ≤ K + 5) (Q : Nat) (HQ : Hid (∀ w, Calls Tryd.prog 58 #[.string s, .int .i64 ((K : Int) + 1)] w fun e w' => e = .returned (.int .i64 Q) ∧ w = w')) (h7 : ¬ (Q : Int) < s.size) (hx : (0 : Int) ≤ (s.size : Int) - 1) (hy : (s.size : Int) - 1 < s.size) (hz' : ((s.size : Int) - 1).toNat = s.size - 1) (HZ : s.size - 1 < s.size) (h8 : (((s[s.size - 1]'HZ).toNat : Int) == 48) = true) :
    Calls Tryd.prog 33 #[.string s] w fun e w' => e = .returned (.tuple #[.int .i64 0, .int .i64 1]) ∧ w = w' := by
  rcases h2 with h2 | ⟨h2, h3⟩
  all_goals
    go_enter Tryd.func33, Tryd.ntmps33
    go_wp2_with (go_at_call 58; first | ((with_reducible refine (HD.out _).mono ?_); rintro e w' ⟨rfl, rfl⟩) | ((with_reducible refine (HQ.out _).mono ?_); rintro e w' ⟨rfl, rfl⟩))
    all_goals first | (exfalso; omega) | (go_ret2; exact ⟨rfl, rfl⟩)

set_option maxHeartbeats 400000 in
theorem rp0_dotno (s : ByteArray) (w : World) (hs : s.size ≤ 9223372036854775807) (h0 : 0 < s.size) (hz : (((s[0]'h0).toNat : Int) == 45) = false) (hp : 0 < s.size) (K : Nat)
    (HD : Hid (∀ w, Calls Tryd.prog 58 #[.string s, .int .i64 0] w fun e w' => e = .returned (.int .i64 K) ∧ w = w'))
    (h1 : (0 : Int) < K) (h1' : ((K : Int) == 0) = false) (h2 : (((s[0]'hp).toNat : Int) == 48) = false ∨ (((s[0]'hp).toNat : Int) == 48) = true ∧ ¬ (1 : Int) < K) (hk : K < s.size) (hk' : (K : Int) + 1 ≤ s.size) (h4 : (((s[K]'hk).toNat : Int) != 46) = false) (h5 : K + 1 < s.size) (h6 : s.size ≤ K + 5) (Q : Nat) (HQ : Hid (∀ w, Calls Tryd.prog 58 #[.string s, .int .i64 ((K : Int) + 1)] w fun e w' => e = .returned (.int .i64 Q) ∧ w = w')) (h7 : ¬ (Q : Int) < s.size) (hx : (0 : Int) ≤ (s.size : Int) - 1) (hy : (s.size : Int) - 1 < s.size) (hz' : ((s.size : Int) - 1).toNat = s.size - 1) (HZ : s.size - 1 < s.size) (h8 : (((s[s.size - 1]'HZ).toNat : Int) == 48) = false) (h9 : (s.toList == [45, 48]) = false) (n : Int) (HN : Hid (∀ w, Calls Tryd.prog 59 #[.string (s.extract 0 K), .string (s.extract (K + 1) s.size)] w fun e w' => e = .returned (.tuple #[.int .i64 n, .bool false]) ∧ w = w')) :
    Calls Tryd.prog 33 #[.string s] w fun e w' => e = .returned (.tuple #[.int .i64 0, .int .i64 9]) ∧ w = w' := by
  rcases h2 with h2 | ⟨h2, h3⟩
  all_goals
    go_enter Tryd.func33, Tryd.ntmps33
    go_wp2_with (first | (go_at_call 58; first | ((with_reducible refine (HD.out _).mono ?_); rintro e w' ⟨rfl, rfl⟩) | ((with_reducible refine (HQ.out _).mono ?_); rintro e w' ⟨rfl, rfl⟩)) | (go_at_call 59; refine (HN.out _).mono ?_; rintro e w' ⟨rfl, rfl⟩))
    all_goals first | (exfalso; omega) | (go_ret2; exact ⟨rfl, rfl⟩)

set_option maxHeartbeats 400000 in
theorem rp0_dotok (s : ByteArray) (w : World) (hs : s.size ≤ 9223372036854775807) (h0 : 0 < s.size) (hz : (((s[0]'h0).toNat : Int) == 45) = false) (hp : 0 < s.size) (K : Nat)
    (HD : Hid (∀ w, Calls Tryd.prog 58 #[.string s, .int .i64 0] w fun e w' => e = .returned (.int .i64 K) ∧ w = w'))
    (h1 : (0 : Int) < K) (h1' : ((K : Int) == 0) = false) (h2 : (((s[0]'hp).toNat : Int) == 48) = false ∨ (((s[0]'hp).toNat : Int) == 48) = true ∧ ¬ (1 : Int) < K) (hk : K < s.size) (hk' : (K : Int) + 1 ≤ s.size) (h4 : (((s[K]'hk).toNat : Int) != 46) = false) (h5 : K + 1 < s.size) (h6 : s.size ≤ K + 5) (Q : Nat) (HQ : Hid (∀ w, Calls Tryd.prog 58 #[.string s, .int .i64 ((K : Int) + 1)] w fun e w' => e = .returned (.int .i64 Q) ∧ w = w')) (h7 : ¬ (Q : Int) < s.size) (hx : (0 : Int) ≤ (s.size : Int) - 1) (hy : (s.size : Int) - 1 < s.size) (hz' : ((s.size : Int) - 1).toNat = s.size - 1) (HZ : s.size - 1 < s.size) (h8 : (((s[s.size - 1]'HZ).toNat : Int) == 48) = false) (h9 : (s.toList == [45, 48]) = false) (n : Int) (n1 : 0 ≤ n) (n2 : n ≤ 10000000000000) (HN : Hid (∀ w, Calls Tryd.prog 59 #[.string (s.extract 0 K), .string (s.extract (K + 1) s.size)] w fun e w' => e = .returned (.tuple #[.int .i64 n, .bool true]) ∧ w = w')) :
    Calls Tryd.prog 33 #[.string s] w fun e w' => e = .returned (.tuple #[.int .i64 n, .int .i64 0]) ∧ w = w' := by
  rcases h2 with h2 | ⟨h2, h3⟩
  all_goals
    go_enter Tryd.func33, Tryd.ntmps33
    go_wp2_with (first | (go_at_call 58; first | ((with_reducible refine (HD.out _).mono ?_); rintro e w' ⟨rfl, rfl⟩) | ((with_reducible refine (HQ.out _).mono ?_); rintro e w' ⟨rfl, rfl⟩)) | (go_at_call 59; refine (HN.out _).mono ?_; rintro e w' ⟨rfl, rfl⟩))
    all_goals first | (exfalso; omega) | (go_ret2; exact ⟨rfl, rfl⟩)

set_option maxHeartbeats 400000 in
theorem rp0_bad8 (s : ByteArray) (w : World) (hs : s.size ≤ 9223372036854775807) (h0 : 0 < s.size) (hz : (((s[0]'h0).toNat : Int) == 45) = false) (hp : 0 < s.size) (K : Nat)
    (HD : Hid (∀ w, Calls Tryd.prog 58 #[.string s, .int .i64 0] w fun e w' => e = .returned (.int .i64 K) ∧ w = w'))
    (h1 : (0 : Int) < K) (h1' : ((K : Int) == 0) = false) (h2 : (((s[0]'hp).toNat : Int) == 48) = false ∨ (((s[0]'hp).toNat : Int) == 48) = true ∧ ¬ (1 : Int) < K) (hk : ¬ (K : Int) < s.size) (hk' : (K : Int) ≤ s.size) (h9 : (s.toList == [45, 48]) = true) :
    Calls Tryd.prog 33 #[.string s] w fun e w' => e = .returned (.tuple #[.int .i64 0, .int .i64 1]) ∧ w = w' := by
  rcases h2 with h2 | ⟨h2, h3⟩
  all_goals
    go_enter Tryd.func33, Tryd.ntmps33
    go_wp2_with (go_at_call 58; refine (HD.out _).mono ?_; rintro e w' ⟨rfl, rfl⟩)
    all_goals first | (exfalso; omega) | (go_ret2; exact ⟨rfl, rfl⟩)

set_option maxHeartbeats 400000 in
theorem rp0_nono (s : ByteArray) (w : World) (hs : s.size ≤ 9223372036854775807) (h0 : 0 < s.size) (hz : (((s[0]'h0).toNat : Int) == 45) = false) (hp : 0 < s.size) (K : Nat)
    (HD : Hid (∀ w, Calls Tryd.prog 58 #[.string s, .int .i64 0] w fun e w' => e = .returned (.int .i64 K) ∧ w = w'))
    (h1 : (0 : Int) < K) (h1' : ((K : Int) == 0) = false) (h2 : (((s[0]'hp).toNat : Int) == 48) = false ∨ (((s[0]'hp).toNat : Int) == 48) = true ∧ ¬ (1 : Int) < K) (hk : ¬ (K : Int) < s.size) (hk' : (K : Int) ≤ s.size) (h9 : (s.toList == [45, 48]) = false) (n : Int) (HN : Hid (∀ w, Calls Tryd.prog 59 #[.string (s.extract 0 K), .string ⟨#[]⟩] w fun e w' => e = .returned (.tuple #[.int .i64 n, .bool false]) ∧ w = w')) :
    Calls Tryd.prog 33 #[.string s] w fun e w' => e = .returned (.tuple #[.int .i64 0, .int .i64 9]) ∧ w = w' := by
  rcases h2 with h2 | ⟨h2, h3⟩
  all_goals
    go_enter Tryd.func33, Tryd.ntmps33
    go_wp2_with (first | (go_at_call 58; refine (HD.out _).mono ?_; rintro e w' ⟨rfl, rfl⟩) | (go_at_call 59; refine (HN.out _).mono ?_; rintro e w' ⟨rfl, rfl⟩))
    all_goals first | (exfalso; omega) | (go_ret2; exact ⟨rfl, rfl⟩)

set_option maxHeartbeats 400000 in
theorem rp0_nook (s : ByteArray) (w : World) (hs : s.size ≤ 9223372036854775807) (h0 : 0 < s.size) (hz : (((s[0]'h0).toNat : Int) == 45) = false) (hp : 0 < s.size) (K : Nat)
    (HD : Hid (∀ w, Calls Tryd.prog 58 #[.string s, .int .i64 0] w fun e w' => e = .returned (.int .i64 K) ∧ w = w'))
    (h1 : (0 : Int) < K) (h1' : ((K : Int) == 0) = false) (h2 : (((s[0]'hp).toNat : Int) == 48) = false ∨ (((s[0]'hp).toNat : Int) == 48) = true ∧ ¬ (1 : Int) < K) (hk : ¬ (K : Int) < s.size) (hk' : (K : Int) ≤ s.size) (h9 : (s.toList == [45, 48]) = false) (n : Int) (n1 : 0 ≤ n) (n2 : n ≤ 10000000000000) (HN : Hid (∀ w, Calls Tryd.prog 59 #[.string (s.extract 0 K), .string ⟨#[]⟩] w fun e w' => e = .returned (.tuple #[.int .i64 n, .bool true]) ∧ w = w')) :
    Calls Tryd.prog 33 #[.string s] w fun e w' => e = .returned (.tuple #[.int .i64 n, .int .i64 0]) ∧ w = w' := by
  rcases h2 with h2 | ⟨h2, h3⟩
  all_goals
    go_enter Tryd.func33, Tryd.ntmps33
    go_wp2_with (first | (go_at_call 58; refine (HD.out _).mono ?_; rintro e w' ⟨rfl, rfl⟩) | (go_at_call 59; refine (HN.out _).mono ?_; rintro e w' ⟨rfl, rfl⟩))
    all_goals first | (exfalso; omega) | (go_ret2; exact ⟨rfl, rfl⟩)

set_option maxHeartbeats 400000 in
theorem rp1_bad1 (s : ByteArray) (w : World) (hs : s.size ≤ 9223372036854775807) (h0 : 0 < s.size) (hz : (((s[0]'h0).toNat : Int) == 45) = true) (hp : 1 < s.size) (K : Nat)
    (HD : Hid (∀ w, Calls Tryd.prog 58 #[.string s, .int .i64 1] w fun e w' => e = .returned (.int .i64 K) ∧ w = w'))
    (hK : K = 1) :
    Calls Tryd.prog 33 #[.string s] w fun e w' => e = .returned (.tuple #[.int .i64 0, .int .i64 1]) ∧ w = w' := by
  subst hK
  go_enter Tryd.func33, Tryd.ntmps33
  go_wp2_with (go_at_call 58; refine (HD.out _).mono ?_; rintro e w' ⟨rfl, rfl⟩)
  go_ret2
  exact ⟨rfl, rfl⟩

set_option maxHeartbeats 400000 in
theorem rp1_bad2 (s : ByteArray) (w : World) (hs : s.size ≤ 9223372036854775807) (h0 : 0 < s.size) (hz : (((s[0]'h0).toNat : Int) == 45) = true) (hp : 1 < s.size) (K : Nat)
    (HD : Hid (∀ w, Calls Tryd.prog 58 #[.string s, .int .i64 1] w fun e w' => e = .returned (.int .i64 K) ∧ w = w'))
    (h1 : (1 : Int) < K) (h1' : ((K : Int) == 1) = false) (h2 : (((s[1]'hp).toNat : Int) == 48) = true) (h3 : (2 : Int) < K) :
    Calls Tryd.prog 33 #[.string s] w fun e w' => e = .returned (.tuple #[.int .i64 0, .int .i64 1]) ∧ w = w' := by
  go_enter Tryd.func33, Tryd.ntmps33
  go_wp2_with (go_at_call 58; refine (HD.out _).mono ?_; rintro e w' ⟨rfl, rfl⟩)
  go_ret2
  exact ⟨rfl, rfl⟩

set_option maxHeartbeats 400000 in
theorem rp1_bad3 (s : ByteArray) (w : World) (hs : s.size ≤ 9223372036854775807) (h0 : 0 < s.size) (hz : (((s[0]'h0).toNat : Int) == 45) = true) (hp : 1 < s.size) (K : Nat)
    (HD : Hid (∀ w, Calls Tryd.prog 58 #[.string s, .int .i64 1] w fun e w' => e = .returned (.int .i64 K) ∧ w = w'))
    (h1 : (1 : Int) < K) (h1' : ((K : Int) == 1) = false) (h2 : (((s[1]'hp).toNat : Int) == 48) = false ∨ (((s[1]'hp).toNat : Int) == 48) = true ∧ ¬ (2 : Int) < K) (hk : K < s.size) (hk' : (K : Int) < s.size) (h4 : (((s[K]'hk).toNat : Int) != 46) = true) :
    Calls Tryd.prog 33 #[.string s] w fun e w' => e = .returned (.tuple #[.int .i64 0, .int .i64 1]) ∧ w = w' := by
  rcases h2 with h2 | ⟨h2, h3⟩
  all_goals
    go_enter Tryd.func33, Tryd.ntmps33
    go_wp2_with (go_at_call 58; refine (HD.out _).mono ?_; rintro e w' ⟨rfl, rfl⟩)
    all_goals first | (exfalso; omega) | (go_ret2; exact ⟨rfl, rfl⟩)

set_option maxHeartbeats 400000 in
theorem rp1_bad4 (s : ByteArray) (w : World) (hs : s.size ≤ 9223372036854775807) (h0 : 0 < s.size) (hz : (((s[0]'h0).toNat : Int) == 45) = true) (hp : 1 < s.size) (K : Nat)
    (HD : Hid (∀ w, Calls Tryd.prog 58 #[.string s, .int .i64 1] w fun e w' => e = .returned (.int .i64 K) ∧ w = w'))
    (h1 : (1 : Int) < K) (h1' : ((K : Int) == 1) = false) (h2 : (((s[1]'hp).toNat : Int) == 48) = false ∨ (((s[1]'hp).toNat : Int) == 48) = true ∧ ¬ (2 : Int) < K) (hk : K < s.size) (hk' : (K : Int) + 1 ≤ s.size) (h4 : (((s[K]'hk).toNat : Int) != 46) = false) (h5 : K + 1 = s.size) :
    Calls Tryd.prog 33 #[.string s] w fun e w' => e = .returned (.tuple #[.int .i64 0, .int .i64 1]) ∧ w = w' := by
  rcases h2 with h2 | ⟨h2, h3⟩
  all_goals
    go_enter Tryd.func33, Tryd.ntmps33
    go_wp2_with (go_at_call 58; refine (HD.out _).mono ?_; rintro e w' ⟨rfl, rfl⟩)
    all_goals first | (exfalso; omega) | (go_ret2; exact ⟨rfl, rfl⟩)

set_option maxHeartbeats 400000 in
theorem rp1_bad5 (s : ByteArray) (w : World) (hs : s.size ≤ 9223372036854775807) (h0 : 0 < s.size) (hz : (((s[0]'h0).toNat : Int) == 45) = true) (hp : 1 < s.size) (K : Nat)
    (HD : Hid (∀ w, Calls Tryd.prog 58 #[.string s, .int .i64 1] w fun e w' => e = .returned (.int .i64 K) ∧ w = w'))
    (h1 : (1 : Int) < K) (h1' : ((K : Int) == 1) = false) (h2 : (((s[1]'hp).toNat : Int) == 48) = false ∨ (((s[1]'hp).toNat : Int) == 48) = true ∧ ¬ (2 : Int) < K) (hk : K < s.size) (hk' : (K : Int) + 1 ≤ s.size) (h4 : (((s[K]'hk).toNat : Int) != 46) = false) (h5 : K + 5 < s.size) (h5n : 4 < s.size - (K + 1)) (h5i : (4 : Int) < ((s.size - (K + 1) : Nat) : Int)) :
    Calls Tryd.prog 33 #[.string s] w fun e w' => e = .returned (.tuple #[.int .i64 0, .int .i64 1]) ∧ w = w' := by
  rcases h2 with h2 | ⟨h2, h3⟩
  all_goals
    go_enter Tryd.func33, Tryd.ntmps33
    go_wp2_with (go_at_call 58; refine (HD.out _).mono ?_; rintro e w' ⟨rfl, rfl⟩)
    all_goals first | (exfalso; omega) | (go_ret2; exact ⟨rfl, rfl⟩)

set_option maxHeartbeats 400000 in
theorem rp1_bad6 (s : ByteArray) (w : World) (hs : s.size ≤ 9223372036854775807) (h0 : 0 < s.size) (hz : (((s[0]'h0).toNat : Int) == 45) = true) (hp : 1 < s.size) (K : Nat)
    (HD : Hid (∀ w, Calls Tryd.prog 58 #[.string s, .int .i64 1] w fun e w' => e = .returned (.int .i64 K) ∧ w = w'))
    (h1 : (1 : Int) < K) (h1' : ((K : Int) == 1) = false) (h2 : (((s[1]'hp).toNat : Int) == 48) = false ∨ (((s[1]'hp).toNat : Int) == 48) = true ∧ ¬ (2 : Int) < K) (hk : K < s.size) (hk' : (K : Int) + 1 ≤ s.size) (h4 : (((s[K]'hk).toNat : Int) != 46) = false) (h5 : K + 1 < s.size) (h6 : s.size ≤ K + 5) (Q : Nat) (HQ : Hid (∀ w, Calls Tryd.prog 58 #[.string s, .int .i64 ((K : Int) + 1)] w fun e w' => e = .returned (.int .i64 Q) ∧ w = w')) (h7 : (Q : Int) < s.size) :
    Calls Tryd.prog 33 #[.string s] w fun e w' => e = .returned (.tuple #[.int .i64 0, .int .i64 1]) ∧ w = w' := by
  rcases h2 with h2 | ⟨h2, h3⟩
  all_goals
    go_enter Tryd.func33, Tryd.ntmps33
    go_wp2_with (go_at_call 58; first | ((with_reducible refine (HD.out _).mono ?_); rintro e w' ⟨rfl, rfl⟩) | ((with_reducible refine (HQ.out _).mono ?_); rintro e w' ⟨rfl, rfl⟩))
    all_goals first | (exfalso; omega) | (go_ret2; exact ⟨rfl, rfl⟩)

set_option maxHeartbeats 400000 in
theorem rp1_bad7 (s : ByteArray) (w : World) (hs : s.size ≤ 9223372036854775807) (h0 : 0 < s.size) (hz : (((s[0]'h0).toNat : Int) == 45) = true) (hp : 1 < s.size) (K : Nat)
    (HD : Hid (∀ w, Calls Tryd.prog 58 #[.string s, .int .i64 1] w fun e w' => e = .returned (.int .i64 K) ∧ w = w'))
    (h1 : (1 : Int) < K) (h1' : ((K : Int) == 1) = false) (h2 : (((s[1]'hp).toNat : Int) == 48) = false ∨ (((s[1]'hp).toNat : Int) == 48) = true ∧ ¬ (2 : Int) < K) (hk : K < s.size) (hk' : (K : Int) + 1 ≤ s.size) (h4 : (((s[K]'hk).toNat : Int) != 46) = false) (h5 : K + 1 < s.size) (h6 : s.size ≤ K + 5) (Q : Nat) (HQ : Hid (∀ w, Calls Tryd.prog 58 #[.string s, .int .i64 ((K : Int) + 1)] w fun e w' => e = .returned (.int .i64 Q) ∧ w = w')) (h7 : ¬ (Q : Int) < s.size) (hx : (0 : Int) ≤ (s.size : Int) - 1) (hy : (s.size : Int) - 1 < s.size) (hz' : ((s.size : Int) - 1).toNat = s.size - 1) (HZ : s.size - 1 < s.size) (h8 : (((s[s.size - 1]'HZ).toNat : Int) == 48) = true) :
    Calls Tryd.prog 33 #[.string s] w fun e w' => e = .returned (.tuple #[.int .i64 0, .int .i64 1]) ∧ w = w' := by
  rcases h2 with h2 | ⟨h2, h3⟩
  all_goals
    go_enter Tryd.func33, Tryd.ntmps33
    go_wp2_with (go_at_call 58; first | ((with_reducible refine (HD.out _).mono ?_); rintro e w' ⟨rfl, rfl⟩) | ((with_reducible refine (HQ.out _).mono ?_); rintro e w' ⟨rfl, rfl⟩))
    all_goals first | (exfalso; omega) | (go_ret2; exact ⟨rfl, rfl⟩)

set_option maxHeartbeats 400000 in
theorem rp1_dotno (s : ByteArray) (w : World) (hs : s.size ≤ 9223372036854775807) (h0 : 0 < s.size) (hz : (((s[0]'h0).toNat : Int) == 45) = true) (hp : 1 < s.size) (K : Nat)
    (HD : Hid (∀ w, Calls Tryd.prog 58 #[.string s, .int .i64 1] w fun e w' => e = .returned (.int .i64 K) ∧ w = w'))
    (h1 : (1 : Int) < K) (h1' : ((K : Int) == 1) = false) (h2 : (((s[1]'hp).toNat : Int) == 48) = false ∨ (((s[1]'hp).toNat : Int) == 48) = true ∧ ¬ (2 : Int) < K) (hk : K < s.size) (hk' : (K : Int) + 1 ≤ s.size) (h4 : (((s[K]'hk).toNat : Int) != 46) = false) (h5 : K + 1 < s.size) (h6 : s.size ≤ K + 5) (Q : Nat) (HQ : Hid (∀ w, Calls Tryd.prog 58 #[.string s, .int .i64 ((K : Int) + 1)] w fun e w' => e = .returned (.int .i64 Q) ∧ w = w')) (h7 : ¬ (Q : Int) < s.size) (hx : (0 : Int) ≤ (s.size : Int) - 1) (hy : (s.size : Int) - 1 < s.size) (hz' : ((s.size : Int) - 1).toNat = s.size - 1) (HZ : s.size - 1 < s.size) (h8 : (((s[s.size - 1]'HZ).toNat : Int) == 48) = false) (h9 : (s.toList == [45, 48]) = false) (n : Int) (HN : Hid (∀ w, Calls Tryd.prog 59 #[.string (s.extract 1 K), .string (s.extract (K + 1) s.size)] w fun e w' => e = .returned (.tuple #[.int .i64 n, .bool false]) ∧ w = w')) :
    Calls Tryd.prog 33 #[.string s] w fun e w' => e = .returned (.tuple #[.int .i64 0, .int .i64 9]) ∧ w = w' := by
  rcases h2 with h2 | ⟨h2, h3⟩
  all_goals
    go_enter Tryd.func33, Tryd.ntmps33
    go_wp2_with (first | (go_at_call 58; first | ((with_reducible refine (HD.out _).mono ?_); rintro e w' ⟨rfl, rfl⟩) | ((with_reducible refine (HQ.out _).mono ?_); rintro e w' ⟨rfl, rfl⟩)) | (go_at_call 59; refine (HN.out _).mono ?_; rintro e w' ⟨rfl, rfl⟩))
    all_goals first | (exfalso; omega) | (go_ret2; exact ⟨rfl, rfl⟩)

set_option maxHeartbeats 400000 in
theorem rp1_dotok (s : ByteArray) (w : World) (hs : s.size ≤ 9223372036854775807) (h0 : 0 < s.size) (hz : (((s[0]'h0).toNat : Int) == 45) = true) (hp : 1 < s.size) (K : Nat)
    (HD : Hid (∀ w, Calls Tryd.prog 58 #[.string s, .int .i64 1] w fun e w' => e = .returned (.int .i64 K) ∧ w = w'))
    (h1 : (1 : Int) < K) (h1' : ((K : Int) == 1) = false) (h2 : (((s[1]'hp).toNat : Int) == 48) = false ∨ (((s[1]'hp).toNat : Int) == 48) = true ∧ ¬ (2 : Int) < K) (hk : K < s.size) (hk' : (K : Int) + 1 ≤ s.size) (h4 : (((s[K]'hk).toNat : Int) != 46) = false) (h5 : K + 1 < s.size) (h6 : s.size ≤ K + 5) (Q : Nat) (HQ : Hid (∀ w, Calls Tryd.prog 58 #[.string s, .int .i64 ((K : Int) + 1)] w fun e w' => e = .returned (.int .i64 Q) ∧ w = w')) (h7 : ¬ (Q : Int) < s.size) (hx : (0 : Int) ≤ (s.size : Int) - 1) (hy : (s.size : Int) - 1 < s.size) (hz' : ((s.size : Int) - 1).toNat = s.size - 1) (HZ : s.size - 1 < s.size) (h8 : (((s[s.size - 1]'HZ).toNat : Int) == 48) = false) (h9 : (s.toList == [45, 48]) = false) (n : Int) (n1 : 0 ≤ n) (n2 : n ≤ 10000000000000) (HN : Hid (∀ w, Calls Tryd.prog 59 #[.string (s.extract 1 K), .string (s.extract (K + 1) s.size)] w fun e w' => e = .returned (.tuple #[.int .i64 n, .bool true]) ∧ w = w')) :
    Calls Tryd.prog 33 #[.string s] w fun e w' => e = .returned (.tuple #[.int .i64 (-n), .int .i64 0]) ∧ w = w' := by
  rcases h2 with h2 | ⟨h2, h3⟩
  all_goals
    go_enter Tryd.func33, Tryd.ntmps33
    go_wp2_with (first | (go_at_call 58; first | ((with_reducible refine (HD.out _).mono ?_); rintro e w' ⟨rfl, rfl⟩) | ((with_reducible refine (HQ.out _).mono ?_); rintro e w' ⟨rfl, rfl⟩)) | (go_at_call 59; refine (HN.out _).mono ?_; rintro e w' ⟨rfl, rfl⟩))
    all_goals first | (exfalso; omega) | (go_ret2; exact ⟨rfl, rfl⟩)

set_option maxHeartbeats 400000 in
theorem rp1_bad8 (s : ByteArray) (w : World) (hs : s.size ≤ 9223372036854775807) (h0 : 0 < s.size) (hz : (((s[0]'h0).toNat : Int) == 45) = true) (hp : 1 < s.size) (K : Nat)
    (HD : Hid (∀ w, Calls Tryd.prog 58 #[.string s, .int .i64 1] w fun e w' => e = .returned (.int .i64 K) ∧ w = w'))
    (h1 : (1 : Int) < K) (h1' : ((K : Int) == 1) = false) (h2 : (((s[1]'hp).toNat : Int) == 48) = false ∨ (((s[1]'hp).toNat : Int) == 48) = true ∧ ¬ (2 : Int) < K) (hk : ¬ (K : Int) < s.size) (hk' : (K : Int) ≤ s.size) (h9 : (s.toList == [45, 48]) = true) :
    Calls Tryd.prog 33 #[.string s] w fun e w' => e = .returned (.tuple #[.int .i64 0, .int .i64 1]) ∧ w = w' := by
  rcases h2 with h2 | ⟨h2, h3⟩
  all_goals
    go_enter Tryd.func33, Tryd.ntmps33
    go_wp2_with (go_at_call 58; refine (HD.out _).mono ?_; rintro e w' ⟨rfl, rfl⟩)
    all_goals first | (exfalso; omega) | (go_ret2; exact ⟨rfl, rfl⟩)

set_option maxHeartbeats 400000 in
theorem rp1_nono (s : ByteArray) (w : World) (hs : s.size ≤ 9223372036854775807) (h0 : 0 < s.size) (hz : (((s[0]'h0).toNat : Int) == 45) = true) (hp : 1 < s.size) (K : Nat)
    (HD : Hid (∀ w, Calls Tryd.prog 58 #[.string s, .int .i64 1] w fun e w' => e = .returned (.int .i64 K) ∧ w = w'))
    (h1 : (1 : Int) < K) (h1' : ((K : Int) == 1) = false) (h2 : (((s[1]'hp).toNat : Int) == 48) = false ∨ (((s[1]'hp).toNat : Int) == 48) = true ∧ ¬ (2 : Int) < K) (hk : ¬ (K : Int) < s.size) (hk' : (K : Int) ≤ s.size) (h9 : (s.toList == [45, 48]) = false) (n : Int) (HN : Hid (∀ w, Calls Tryd.prog 59 #[.string (s.extract 1 K), .string ⟨#[]⟩] w fun e w' => e = .returned (.tuple #[.int .i64 n, .bool false]) ∧ w = w')) :
    Calls Tryd.prog 33 #[.string s] w fun e w' => e = .returned (.tuple #[.int .i64 0, .int .i64 9]) ∧ w = w' := by
  rcases h2 with h2 | ⟨h2, h3⟩
  all_goals
    go_enter Tryd.func33, Tryd.ntmps33
    go_wp2_with (first | (go_at_call 58; refine (HD.out _).mono ?_; rintro e w' ⟨rfl, rfl⟩) | (go_at_call 59; refine (HN.out _).mono ?_; rintro e w' ⟨rfl, rfl⟩))
    all_goals first | (exfalso; omega) | (go_ret2; exact ⟨rfl, rfl⟩)

set_option maxHeartbeats 400000 in
theorem rp1_nook (s : ByteArray) (w : World) (hs : s.size ≤ 9223372036854775807) (h0 : 0 < s.size) (hz : (((s[0]'h0).toNat : Int) == 45) = true) (hp : 1 < s.size) (K : Nat)
    (HD : Hid (∀ w, Calls Tryd.prog 58 #[.string s, .int .i64 1] w fun e w' => e = .returned (.int .i64 K) ∧ w = w'))
    (h1 : (1 : Int) < K) (h1' : ((K : Int) == 1) = false) (h2 : (((s[1]'hp).toNat : Int) == 48) = false ∨ (((s[1]'hp).toNat : Int) == 48) = true ∧ ¬ (2 : Int) < K) (hk : ¬ (K : Int) < s.size) (hk' : (K : Int) ≤ s.size) (h9 : (s.toList == [45, 48]) = false) (n : Int) (n1 : 0 ≤ n) (n2 : n ≤ 10000000000000) (HN : Hid (∀ w, Calls Tryd.prog 59 #[.string (s.extract 1 K), .string ⟨#[]⟩] w fun e w' => e = .returned (.tuple #[.int .i64 n, .bool true]) ∧ w = w')) :
    Calls Tryd.prog 33 #[.string s] w fun e w' => e = .returned (.tuple #[.int .i64 (-n), .int .i64 0]) ∧ w = w' := by
  rcases h2 with h2 | ⟨h2, h3⟩
  all_goals
    go_enter Tryd.func33, Tryd.ntmps33
    go_wp2_with (first | (go_at_call 58; refine (HD.out _).mono ?_; rintro e w' ⟨rfl, rfl⟩) | (go_at_call 59; refine (HN.out _).mono ?_; rintro e w' ⟨rfl, rfl⟩))
    all_goals first | (exfalso; omega) | (go_ret2; exact ⟨rfl, rfl⟩)

end Go.Proofs.YtdgbfblhiongoaaDoor
