/- What the functions of layer 2 that take texts apart do: the cut at a point, the digits at the beginning, what digits denote. -/
import Derived.Test.YtdgbfblhiongoaaDoorDecStr
namespace Go.Proofs.YtdgbfblhiongoaaDoor
open Go.RowKit

/-- The three results of a cut at the first point. -/
def cutR (l : List UInt8) : Value := if dotted l then .tuple #[.string (mk (dotB l)), .string (mk (dotF l)), .bool true] else .tuple #[.string (mk l), .string (mk []), .bool false]
theorem ret_three {a b c d : ByteArray} {x : Bool} (h1 : a = c) (h2 : b = d) : Ending.returned (.tuple #[.string a, .string b, .bool x]) = .returned (.tuple #[.string c, .string d, .bool x]) := by rw [h1, h2]

theorem dotB_take (l : List UInt8) : l.take (dotB l).length = dotB l := by
  unfold dotB; exact (List.prefix_iff_eq_take.1 (List.takeWhile_prefix _)).symm

set_option maxHeartbeats 400000 in
theorem scut_any (s : ByteArray) (w : World) (hs : s.size ≤ maxLen) :
    Calls Tryd.prog 69 #[.string s, .string ⟨#[46]⟩] w fun e w' => e = .returned (cutR s.data.toList) ∧ Below w.heap.size w w' := by
  unfold maxLen at hs
  have HI : Hid (∀ w, Calls Tryd.prog 80 #[.string s, .string ⟨#[46]⟩] w fun e w' => e = .returned (.int .i64 (dotI s.data.toList)) ∧ w = w') := fun w => index_any s w
  unfold cutR
  rcases index_dot s.data.toList with ⟨h1, h2, h3⟩ | ⟨h1, h2, h3⟩
  · have hd : dotI s.data.toList = (dotB s.data.toList).length := h2
    rw [h1, if_pos rfl]
    rw [hd] at HI
    have E1 : Hid (s.extract 0 (dotB s.data.toList).length = mk (dotB s.data.toList)) := by
      show s.extract 0 _ = _
      rw [ext_take, dotB_take]
    have E2 : Hid (s.extract ((dotB s.data.toList).length + 1) s.size = mk (dotF s.data.toList)) := by
      show s.extract _ _ = _
      rw [ext_drop]; rfl
    rw [size_len] at h3
    generalize mk (dotB s.data.toList) = u at *
    generalize mk (dotF s.data.toList) = v at *
    generalize (dotB s.data.toList).length = k at *
    have g1 : (0 : Int) ≤ (k : Int) := by omega
    have g2 : (k : Int) ≤ (s.size : Int) := by omega
    have g3 : (k : Int) + 1 ≤ (s.size : Int) := by omega
    have g4 : IntKind.i64.wrap ((k : Int) + 1) = (k : Int) + 1 := IntWalk.i64_in _ (by omega)
    clear h1 h2 hd
    go_enter Tryd.func69, Tryd.ntmps69
    go_wp2_with (go_at_call 80; refine (HI.out _).mono ?_; rintro e w' ⟨rfl, rfl⟩)
    go_quiet (fail)
    go_wp2
    go_ret3
    exact ⟨ret_three E1.out E2.out, below_drewN (Below.refl _ _) _⟩
  · have hd : dotI s.data.toList = -1 := h2
    rw [h1]
    simp only [Bool.false_eq_true, if_false]
    rw [mk_self]
    rw [hd] at HI
    clear h1 h2 h3 hd
    go_enter Tryd.func69, Tryd.ntmps69
    go_wp2_with (go_at_call 80; refine (HI.out _).mono ?_; rintro e w' ⟨rfl, rfl⟩)
    go_ret3
    exact ⟨rfl, Below.refl _ _⟩

theorem cut_yes (s : ByteArray) (w : World) (hs : s.size ≤ maxLen) (hd : dotted s.data.toList = true) :
    Calls Tryd.prog 52 #[.string s, .string ⟨#[46]⟩] w fun e w' => e = .returned (.tuple #[.string (mk (dotB s.data.toList)), .string (mk (dotF s.data.toList)), .bool true]) ∧ Below w.heap.size w w' := by
  have HI : Hid (∀ w, Calls Tryd.prog 69 #[.string s, .string ⟨#[46]⟩] w fun e w' => e = .returned (.tuple #[.string (mk (dotB s.data.toList)), .string (mk (dotF s.data.toList)), .bool true]) ∧ Below w.heap.size w w') := fun w => by
    have := scut_any s w hs
    unfold cutR at this
    rw [hd, if_pos rfl] at this; exact this
  clear hd hs
  generalize mk (dotB s.data.toList) = u at *
  generalize mk (dotF s.data.toList) = v at *
  go_enter Tryd.func52, Tryd.ntmps52
  go_wp2_with (go_at_call 69; refine (HI.out _).mono ?_; rintro e w' ⟨rfl, hb⟩)
  go_ret3
  exact ⟨rfl, hb⟩
theorem cut_no (s : ByteArray) (w : World) (hs : s.size ≤ maxLen) (hd : dotted s.data.toList = false) :
    Calls Tryd.prog 52 #[.string s, .string ⟨#[46]⟩] w fun e w' => e = .returned (.tuple #[.string s, .string ⟨#[]⟩, .bool false]) ∧ Below w.heap.size w w' := by
  have HI : Hid (∀ w, Calls Tryd.prog 69 #[.string s, .string ⟨#[46]⟩] w fun e w' => e = .returned (.tuple #[.string s, .string ⟨#[]⟩, .bool false]) ∧ Below w.heap.size w w') := fun w => by
    have := scut_any s w hs
    unfold cutR at this
    rw [hd] at this
    simp only [Bool.false_eq_true, if_false] at this
    rw [mk_self] at this
    exact this
  clear hd hs
  go_enter Tryd.func52, Tryd.ntmps52
  go_wp2_with (go_at_call 69; refine (HI.out _).mono ?_; rintro e w' ⟨rfl, hb⟩)
  go_ret3
  exact ⟨rfl, hb⟩

/-! ### The digits at the beginning -/
theorem isD_at (s : ByteArray) (k : Nat) (h : k < s.size) : (isD (s.data.toList[k]'(by rw [size_len]; exact h)) = true ∧ (48 : Int) ≤ (s[k].toNat : Int) ∧ (s[k].toNat : Int) ≤ 57) ∨ (isD (s.data.toList[k]'(by rw [size_len]; exact h)) = false ∧ ((s[k].toNat : Int) < 48 ∨ (48 : Int) ≤ (s[k].toNat : Int) ∧ (57 : Int) < (s[k].toNat : Int))) := by
  rw [← get_list s k h]
  cases hb : isD s[k] with
  | true => have := (isD_iff _).1 hb; exact .inl ⟨rfl, by omega, by omega⟩
  | false =>
    have : ¬ (48 ≤ s[k].toNat ∧ s[k].toNat ≤ 57) := fun hc => by rw [(isD_iff _).2 hc] at hb; cases hb
    exact .inr ⟨rfl, by omega⟩

set_option maxHeartbeats 400000 in
theorem lead_any (s : ByteArray) (w : World) (hs : s.size ≤ maxLen) :
    Calls Tryd.prog 62 #[.string s] w fun e w' => e = .returned (.string (mk (ldig s.data.toList))) ∧ w = w' := by
  unfold maxLen at hs
  generalize hR : mk (ldig s.data.toList) = R
  have HR := Lib.hid hR
  clear hR
  go_enter Tryd.func62, Tryd.ntmps62
  go_wp2
  go_loop [6] (fun i => ∃ k : Nat, k ≤ s.size ∧ i = .int .i64 k ∧ Hid ((s.data.toList.take k).all isD = true)) (fun i => s.size - (intOf i).toNat)
  case atStart => exact ⟨0, Nat.zero_le _, rfl, rfl⟩
  case round =>
    obtain ⟨k, hk, rfl, hd⟩ := hrel
    by_cases hlt : k < s.size
    · rcases isD_at s k hlt with ⟨hc, c1, c2⟩ | ⟨hc, c1⟩
      · have hn : Hid ((s.data.toList.take (k + 1)).all isD = true) := all_step isD _ k (by rw [size_len]; exact hlt) hd.out hc
        clear hd hc
        have c2 : ¬ (57 : Int) < (s[k].toNat : Int) := by omega
        go_wp2
        all_goals first
          | (exfalso; omega)
          | (go_round
             case rel => exact ⟨k + 1, by omega, by go_num, hn⟩
             case measure => simp [intOf]; omega)
      · have hn : Hid (s.extract 0 k = R) := by
          show s.extract 0 k = R
          rw [ext_take, ← HR.out]
          unfold ldig
          rw [take_stop isD _ k (by rw [size_len]; omega) hd.out (fun _ => hc)]
        clear hd hc
        rcases c1 with c1 | ⟨c1, c2⟩
        all_goals
          go_wp2
          all_goals (go_ret; exact ⟨ret_s hn.out, rfl⟩)
    · have hn : Hid (s = R) := by
        show s = R
        have h1 : k = s.data.toList.length := by rw [size_len]; omega
        have h2 := hd.out
        rw [h1, List.take_length] at h2
        rw [← HR.out, ldig_all _ h2]; rfl
      clear hd
      go_wp2
      go_ret
      exact ⟨ret_s hn.out, rfl⟩

set_option maxHeartbeats 400000 in
theorem rdig_any (s : ByteArray) (a : Nat) (w : World) (hs : s.size ≤ maxLen) (ha : a ≤ s.size) :
    Calls Tryd.prog 58 #[.string s, .int .i64 a] w fun e w' => e = .returned (.int .i64 ((a + (ldig (s.data.toList.drop a)).length : Nat) : Int)) ∧ w = w' := by
  unfold maxLen at hs
  generalize hR : (a + (ldig (s.data.toList.drop a)).length) = R
  have HR := Lib.hid hR
  clear hR
  go_enter Tryd.func58, Tryd.ntmps58
  go_wp2
  go_loop [1] (fun i => ∃ k : Nat, k ≤ s.size ∧ a ≤ k ∧ i = .int .i64 k ∧ Hid (((s.data.toList.drop a).take (k - a)).all isD = true)) (fun i => s.size - (intOf i).toNat)
  case atStart => exact ⟨a, ha, Nat.le_refl _, rfl, by simp [Hid]⟩
  case round =>
    obtain ⟨k, hk, hak, rfl, hd⟩ := hrel
    have hlen : (s.data.toList.drop a).length = s.size - a := by rw [List.length_drop, size_len]
    have HL := Lib.hid hlen
    clear hlen
    by_cases hlt : k < s.size
    · have hg : (s.data.toList.drop a)[k - a]'(by rw [HL.out]; omega) = s.data.toList[k]'(by rw [size_len]; exact hlt) := by
        rw [List.getElem_drop]; congr 1; omega
      have HG := Lib.hid hg
      clear hg
      rcases isD_at s k hlt with ⟨hc, c1, c2⟩ | ⟨hc, c1⟩
      · have hn : Hid (((s.data.toList.drop a).take (k + 1 - a)).all isD = true) := by
          have := all_step isD (s.data.toList.drop a) (k - a) (by rw [HL.out]; omega) hd.out (by rw [HG.out]; exact hc)
          rw [show k + 1 - a = k - a + 1 by omega]; exact this
        clear hd hc
        go_wp2
        all_goals first
          | (exfalso; omega)
          | (go_round
             case rel => exact ⟨k + 1, by omega, by omega, by go_num, hn⟩
             case measure => simp [intOf]; omega)
      · have hn : Hid ((k : Int) = (R : Int)) := by
          show (k : Int) = (R : Int)
          have h2 := take_stop isD (s.data.toList.drop a) (k - a) (by rw [HL.out]; omega) hd.out (fun _ => by rw [HG.out]; exact hc)
          have h3 := HR.out
          unfold ldig at h3
          rw [h2, List.length_take, HL.out] at h3
          omega
        clear hd hc
        rcases c1 with c1 | ⟨c1, c2⟩
        · have c3 : ¬ (48 : Int) ≤ (s[k].toNat : Int) := by omega
          clear c1
          go_wp2
          all_goals (go_ret; exact ⟨ret_i hn.out, rfl⟩)
        · have c3 : ¬ (s[k].toNat : Int) ≤ 57 := by omega
          go_wp2
          all_goals (go_ret; exact ⟨ret_i hn.out, rfl⟩)
    · have hn : Hid ((k : Int) = (R : Int)) := by
        show (k : Int) = (R : Int)
        have h1 : k - a = (s.data.toList.drop a).length := by rw [HL.out]; omega
        have h2 := hd.out
        rw [h1, List.take_length] at h2
        have h3 := HR.out
        rw [ldig_all _ h2, HL.out] at h3
        omega
      clear hd
      go_wp2
      go_ret
      exact ⟨ret_i hn.out, rfl⟩

/-! ### A fraction's form -/
def lastB (l : List UInt8) : Bool := l.getLast? == some 48
def isF (l : List UInt8) : Bool := !l.isEmpty && (decide (l.length ≤ 4) && (!lastB l && allD l))
theorem last_at (s : ByteArray) (h : 0 < s.size) : lastB s.data.toList = decide ((s[s.size - 1]'(by omega)).toNat = 48) := by
  have hl : s.data.toList.length = s.size := size_len s
  unfold lastB
  rw [List.getLast?_eq_getElem?, List.getElem?_eq_getElem (by omega), get_list]
  rw [Bool.eq_iff_iff]
  simp only [hl]
  constructor
  · intro hc
    simp at hc
    simp [hc]
  · intro hc
    simp at hc
    simp
    exact UInt8.toNat_inj.1 hc

set_option maxHeartbeats 400000 in
theorem isf_any (s : ByteArray) (w : World) (hs : s.size ≤ maxLen) :
    Calls Tryd.prog 54 #[.string s] w fun e w' => e = .returned (.bool (isF s.data.toList)) ∧ w = w' := by
  have HL : Hid (∀ w, Calls Tryd.prog 62 #[.string s] w fun e w' => e = .returned (.string (mk (ldig s.data.toList))) ∧ w = w') := fun w => lead_any s w hs
  unfold maxLen at hs
  unfold isF
  have hl := size_len s
  by_cases h0 : s.size = 0
  · obtain rfl := empty_of s h0
    clear hs h0 hl HL
    go_enter Tryd.func54, Tryd.ntmps54
    go_wp2
    go_ret
    exact ⟨rfl, rfl⟩
  · have hp : 0 < s.size := by omega
    have he : s.toList.isEmpty = false := isEmpty_no s hp
    have he2 : s.data.toList.isEmpty = false := by rw [← ByteArray.toList_eq]; exact he
    rw [he2, hl]
    simp only [Bool.not_false, Bool.true_and]
    by_cases h4 : (4 : Int) < s.size
    · have e1 : decide (s.size ≤ 4) = false := by simp; omega
      rw [e1]
      clear e1 he2 hl HL
      go_enter Tryd.func54, Tryd.ntmps54
      go_wp2
      go_ret
      exact ⟨rfl, rfl⟩
    · have e1 : decide (s.size ≤ 4) = true := by simp; omega
      rw [e1, last_at s hp]
      have hx : (0 : Int) ≤ (s.size : Int) - 1 := by omega
      have hy : (s.size : Int) - 1 < s.size := by omega
      have hz : ((s.size : Int) - 1).toNat = s.size - 1 := by omega
      have HZ : (s.size - 1) < s.size := by omega
      by_cases h8 : (s[s.size - 1]'(by omega)).toNat = 48
      · have e2 : (((s[s.size - 1]'(by omega)).toNat : Int) == 48) = true := by simp; omega
        rw [decide_eq_true h8]
        clear e1 he2 hl HL h8
        go_enter Tryd.func54, Tryd.ntmps54
        go_wp2
        go_ret
        exact ⟨rfl, rfl⟩
      · have e2 : (((s[s.size - 1]'(by omega)).toNat : Int) == 48) = false := by simp; omega
        rw [decide_eq_false h8]
        have hlen : ((mk (ldig s.data.toList)).size = s.size) ↔ allD s.data.toList = true := by
          rw [mk_size, ← hl]; exact ldig_len_iff _
        have hle : (mk (ldig s.data.toList)).size ≤ s.size := by rw [mk_size, ← hl]; exact ldig_len_le _
        generalize mk (ldig s.data.toList) = t at *
        simp only [Bool.not_false, Bool.true_and]
        rcases tf (allD s.data.toList) with ha | ha
        · have e3 : ((t.size : Int) == (s.size : Int)) = true := by have := hlen.2 ha; simp; omega
          rw [ha]
          clear e1 he2 hl h8 hlen ha
          go_enter Tryd.func54, Tryd.ntmps54
          go_wp2_with (go_at_call 62; refine (HL.out _).mono ?_; rintro e w' ⟨rfl, rfl⟩)
          go_ret
          exact ⟨rfl, rfl⟩
        · have e3 : ((t.size : Int) == (s.size : Int)) = false := by
            have : t.size ≠ s.size := fun hc => by rw [hlen.1 hc] at ha; cases ha
            simp; omega
          rw [ha]
          clear e1 he2 hl h8 hlen ha
          go_enter Tryd.func54, Tryd.ntmps54
          go_wp2_with (go_at_call 62; refine (HL.out _).mono ?_; rintro e w' ⟨rfl, rfl⟩)
          go_ret
          exact ⟨rfl, rfl⟩

end Go.Proofs.YtdgbfblhiongoaaDoor
