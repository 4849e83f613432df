/- NumText, NumParse, NumParseB, NumParseC, NumDigits. -/
import Derived.Test.YtphiaagppcbefaaGreatDoorPs10
import Derived.Lib.Hide
import Derived.WalkSpells
import Derived.Lib.Strings
namespace Go.Proofs.YtphiaagppcbefaaGreatDoor
open Go.RowKit
def allD (l : List UInt8) : Bool := l.all fun c => decide (48 ≤ c.toNat) && decide (c.toNat ≤ 57)
def magB : List UInt8 → Bool
  | [] => false
  | c :: r => !(c == 48 && !r.isEmpty) && allD (c :: r)
def val (l : List UInt8) : Int := l.foldl (fun n c => n * 10 - ((c.toNat : Int) - 48)) 0
theorem val_snoc (l : List UInt8) (c : UInt8) : val (l ++ [c]) = val l * 10 - ((c.toNat : Int) - 48) := by
  unfold val; rw [List.foldl_append]; rfl
theorem allD_snoc (l : List UInt8) (c : UInt8) : allD (l ++ [c]) = (allD l && (decide (48 ≤ c.toNat) && decide (c.toNat ≤ 57))) := by
  unfold allD; rw [List.all_append]; simp
theorem fold_le (l : List UInt8) : ∀ n : Int, n ≤ 0 → allD l = true → l.foldl (fun n c => n * 10 - ((c.toNat : Int) - 48)) n ≤ n := by
  induction l with
  | nil => intro n _ _; exact Int.le_refl _
  | cons c r ih =>
    intro n hn ha
    unfold allD at ha
    rw [List.all_cons] at ha
    simp at ha
    obtain ⟨⟨h1, h2⟩, h3⟩ := ha
    have := ih (n * 10 - ((c.toNat : Int) - 48)) (by omega) (by unfold allD; simpa using h3)
    rw [List.foldl_cons]
    omega
theorem allD_take (l : List UInt8) (k : Nat) (h : allD l = true) : allD (l.take k) = true := by
  unfold allD at *
  rw [List.all_eq_true] at *
  exact fun c hc => h c (List.mem_of_mem_take hc)
theorem allD_drop (l : List UInt8) (k : Nat) (h : allD l = true) : allD (l.drop k) = true := by
  unfold allD at *
  rw [List.all_eq_true] at *
  exact fun c hc => h c (List.mem_of_mem_drop hc)
theorem val_nonpos (l : List UInt8) (h : allD l = true) : val l ≤ 0 := fold_le l 0 (Int.le_refl _) h
theorem val_take (l : List UInt8) (k : Nat) (h : allD l = true) : val l ≤ val (l.take k) := by
  have h1 := fold_le (l.drop k) (val (l.take k)) (val_nonpos _ (allD_take l k h)) (allD_drop l k h)
  have h2 : val l = (l.drop k).foldl (fun n c => n * 10 - ((c.toNat : Int) - 48)) (val (l.take k)) := by
    unfold val; rw [← List.foldl_append, List.take_append_drop]
  omega
theorem take_snoc (s : ByteArray) (k : Nat) (h : k < s.size) : s.data.toList.take (k + 1) = s.data.toList.take k ++ [s[k]] := by
  rw [List.take_succ_eq_append_getElem (by simpa using h)]; rfl
theorem val_step (s : ByteArray) (k : Nat) (h : k < s.size) : val (s.data.toList.take (k + 1)) = val (s.data.toList.take k) * 10 - ((s[k].toNat : Int) - 48) := by
  rw [take_snoc s k h, val_snoc]
theorem allD_at (s : ByteArray) (k : Nat) (h : k < s.size) (ha : allD s.data.toList = true) : 48 ≤ s[k].toNat ∧ s[k].toNat ≤ 57 := by
  unfold allD at ha
  rw [List.all_eq_true] at ha
  have := ha s[k] (by
    have : s[k] = s.data.toList[k]'(by simpa using h) := rfl
    rw [this]; exact List.getElem_mem _)
  simpa using this
theorem allD_no (s : ByteArray) (k : Nat) (h : k < s.size) (hn : ¬ (48 ≤ s[k].toNat ∧ s[k].toNat ≤ 57)) : allD s.data.toList = false := by
  cases ha : allD s.data.toList with
  | false => rfl
  | true => exact absurd (allD_at s k h ha) hn
theorem magB_zero (s : ByteArray) (h : 1 < s.size) (h0 : (s[0]'(by omega)).toNat = 48) : magB s.data.toList = false := by
  match hl : s.data.toList with
  | [] => rfl
  | [c] => have : s.data.toList.length = 1 := by rw [hl]; rfl
           have h2 : s.data.toList.length = s.size := by simp
           omega
  | c :: d :: r =>
    have hc : s[0]'(by omega) = c := by
      have : s[0]'(by omega) = s.data.toList[0]'(by simp; omega) := rfl
      rw [this]; simp [hl]
    have : c = 48 := by rw [← hc]; exact UInt8.toNat_inj.1 h0
    subst this
    rfl
theorem magB_all (s : ByteArray) (h : 0 < s.size) (h0 : ¬ ((s[0]'(by omega)).toNat = 48 ∧ 1 < s.size)) : magB s.data.toList = allD s.data.toList := by
  match hl : s.data.toList with
  | [] => have : s.data.toList.length = 0 := by rw [hl]; rfl
          have h2 : s.data.toList.length = s.size := by simp
          omega
  | c :: r =>
    have hc : s[0]'(by omega) = c := by
      have : s[0]'(by omega) = s.data.toList[0]'(by simp; omega) := rfl
      rw [this]; simp [hl]
    have hlen : s.size = r.length + 1 := by
      have : s.data.toList.length = s.size := by simp
      rw [← this, hl]; rfl
    have : (c == 48 && !r.isEmpty) = false := by
      by_cases q : c = 48
      · have : r = [] := by
          apply List.eq_nil_of_length_eq_zero
          have : ¬ 1 < s.size := fun hc1 => h0 ⟨by rw [hc, q]; rfl, hc1⟩
          omega
        subst this; simp
      · simp [q]
    show (!(c == 48 && !r.isEmpty) && allD (c :: r)) = _
    rw [this]; simp
def minus (l : List UInt8) : Bool := l.head? == some 45
def digitsOf (l : List UInt8) : List UInt8 := if minus l then l.tail else l
def parseBad (l : List UInt8) : Bool := !magB (digitsOf l) || (minus l && digitsOf l == [48])
def parseE (l : List UInt8) : Int :=
  if parseBad l then 1 else if ¬ fits (val (digitsOf l)) then 9 else if minus l then 0 else subE 0 (val (digitsOf l))
def parseV (l : List UInt8) : Int :=
  if parseBad l then 0 else if ¬ fits (val (digitsOf l)) then 0 else if minus l then val (digitsOf l) else subV 0 (val (digitsOf l))
end Go.Proofs.YtphiaagppcbefaaGreatDoor
namespace Go.Proofs.YtphiaagppcbefaaGreatDoor
open Go.RowKit
theorem ret_bool {a b : Bool} (h : a = b) : Ending.returned (.bool a) = .returned (.bool b) := by rw [h]
theorem empty_of (s : ByteArray) (h : s.size = 0) : s = ByteArray.empty := by
  obtain ⟨⟨l⟩⟩ := s
  have : l = [] := List.eq_nil_of_length_eq_zero h
  subst this; rfl
theorem isEmpty_no (s : ByteArray) (h : 0 < s.size) : s.toList.isEmpty = false := by
  rw [ByteArray.toList_eq]
  cases hl : s.data.toList with
  | nil => have h2 : s.data.toList.length = s.size := by simp
           rw [hl] at h2; simp at h2; omega
  | cons _ _ => rfl
theorem tf (b : Bool) : b = true ∨ b = false := by cases b <;> simp
set_option maxHeartbeats 400000 in
theorem ismag_any (s : ByteArray) (w : World) (hs : s.size ≤ maxLen) :
    Calls Tryz.prog 154 #[.string s] w fun e w' => e = .returned (.bool (magB s.data.toList)) ∧ w = w' := by
  unfold maxLen at hs
  by_cases h0 : s.size = 0
  · obtain rfl := empty_of s h0
    go_enter Tryz.func154, Tryz.ntmps154
    go_wp2
    go_ret
    exact ⟨rfl, rfl⟩
  · have hp : 0 < s.size := by omega
    have he : s.toList.isEmpty = false := isEmpty_no s hp
    by_cases hz : (s[0]'hp).toNat = 48 ∧ 1 < s.size
    · have hr := magB_zero s hz.2 hz.1
      rw [hr]
      have hA : (((s[0]'hp).toNat : Int) == 48) = true := by simp; omega
      have hB : (1 : Int) < s.size := by omega
      clear hr hz h0
      go_enter Tryz.func154, Tryz.ntmps154
      go_wp2
      go_ret
      exact ⟨rfl, rfl⟩
    · have hr : Hid (magB s.data.toList = allD s.data.toList) := magB_all s hp hz
      rw [hr.out]
      clear hr h0
      have hS : ((((s[0]'hp).toNat : Int) == 48) = true ∧ (s.size : Int) ≤ 1) ∨ ((((s[0]'hp).toNat : Int) == 48) = false ∧ (s.size : Int) ≤ 1) ∨ ((((s[0]'hp).toNat : Int) == 48) = false ∧ (1 : Int) < s.size) := by
        by_cases q : (s[0]'hp).toNat = 48
        · exact .inl ⟨by simp; omega, by omega⟩
        · by_cases q2 : 1 < s.size
          · exact .inr (.inr ⟨by simp; omega, by omega⟩)
          · exact .inr (.inl ⟨by simp; omega, by omega⟩)
      clear hz
      rcases hS with ⟨hA, hB⟩ | ⟨hA, hB⟩ | ⟨hA, hB⟩
      all_goals
        go_enter Tryz.func154, Tryz.ntmps154
        go_wp2
        go_loop [18] (fun i => ∃ k : Nat, k ≤ s.size ∧ i = .int .i64 k ∧ Hid (allD (s.data.toList.take k) = true)) (fun i => s.size - (intOf i).toNat)
        case atStart => exact ⟨0, Nat.zero_le _, rfl, rfl⟩
        case round =>
          obtain ⟨k, hk, rfl, hd⟩ := hrel
          by_cases hlt : k < s.size
          · by_cases hc : 48 ≤ s[k].toNat ∧ s[k].toNat ≤ 57
            · have hn : Hid (allD (s.data.toList.take (k + 1)) = true) := by
                have := allD_snoc (s.data.toList.take k) s[k]
                rw [← take_snoc s k hlt, hd.out] at this
                exact this.trans (by simp [hc.1, hc.2])
              have c1 : (48 : Int) ≤ (s[k].toNat : Int) := by omega
              have c2 : ¬ (57 : Int) < (s[k].toNat : Int) := by omega
              clear hd hc
              go_wp2
              all_goals first
                | (exfalso; omega)
                | (go_round
                   case rel => exact ⟨k + 1, by omega, by go_num, hn⟩
                   case measure => simp [intOf]; omega)
            · have hn : Hid (allD s.data.toList = false) := allD_no s k hlt hc
              have hc2 : (s[k].toNat : Int) < 48 ∨ ((48 : Int) ≤ (s[k].toNat : Int) ∧ (57 : Int) < (s[k].toNat : Int)) := by omega
              clear hd hc
              rcases hc2 with c1 | ⟨c1, c2⟩
              all_goals
                go_wp2
                all_goals (go_ret; exact ⟨ret_bool (by rw [hn.out]), rfl⟩)
          · have hall : Hid (allD s.data.toList = true) := by
              have := hd.out
              rw [List.take_of_length_le (by simp; omega)] at this
              exact this
            clear hd
            go_wp2
            go_ret
            exact ⟨ret_bool (by rw [hall.out]), rfl⟩
end Go.Proofs.YtphiaagppcbefaaGreatDoor
namespace Go.Proofs.YtphiaagppcbefaaGreatDoor
open Go.RowKit
theorem mul_yes (a b : Int) (w : World) (ha : fits a) (hb : fits b) (h : fits (a * b)) :
    Calls Tryz.prog 167 #[.int .i64 a, .int .i64 b] w fun e w' => e = .returned (.tuple #[.int .i64 (a * b), .int .i64 0]) ∧ w = w' :=
  (mul_any a b w ha hb).mono fun e w' ⟨h1, h2⟩ => ⟨by rw [h1, mulV, mulE, if_pos h, if_pos h], h2⟩
theorem mul_no (a b : Int) (w : World) (ha : fits a) (hb : fits b) (h : ¬ fits (a * b)) :
    Calls Tryz.prog 167 #[.int .i64 a, .int .i64 b] w fun e w' => e = .returned (.tuple #[.int .i64 0, .int .i64 9]) ∧ w = w' :=
  (mul_any a b w ha hb).mono fun e w' ⟨h1, h2⟩ => ⟨by rw [h1, mulV, mulE, if_neg h, if_neg h], h2⟩
theorem sub_yes (a b : Int) (w : World) (ha : fits a) (hb : fits b) (h : fits (a - b)) :
    Calls Tryz.prog 156 #[.int .i64 a, .int .i64 b] w fun e w' => e = .returned (.tuple #[.int .i64 (a - b), .int .i64 0]) ∧ w = w' :=
  (sub_any a b w ha hb).mono fun e w' ⟨h1, h2⟩ => ⟨by rw [h1, subV, subE, if_pos h, if_pos h], h2⟩
theorem sub_no (a b : Int) (w : World) (ha : fits a) (hb : fits b) (h : ¬ fits (a - b)) :
    Calls Tryz.prog 156 #[.int .i64 a, .int .i64 b] w fun e w' => e = .returned (.tuple #[.int .i64 0, .int .i64 9]) ∧ w = w' :=
  (sub_any a b w ha hb).mono fun e w' ⟨h1, h2⟩ => ⟨by rw [h1, subV, subE, if_neg h, if_neg h], h2⟩
def negV (l : List UInt8) : Int := if fits (val l) then val l else 0
def negE (l : List UInt8) : Int := if fits (val l) then 0 else 9
theorem ret_two {a b c d : Int} (h1 : a = c) (h2 : b = d) : Ending.returned (.tuple #[.int .i64 a, .int .i64 b]) = .returned (.tuple #[.int .i64 c, .int .i64 d]) := by rw [h1, h2]
theorem out_of (s : ByteArray) (k : Nat) (ha : allD s.data.toList = true) (h : ¬ fits (val (s.data.toList.take k))) : ¬ fits (val s.data.toList) := by
  have h1 := val_take s.data.toList k ha
  have h2 := val_nonpos _ (allD_take _ k ha)
  unfold fits at *
  omega
set_option maxHeartbeats 400000 in
theorem negated_any (s : ByteArray) (w : World) (hs : s.size ≤ maxLen) (hd : allD s.data.toList = true) :
    Calls Tryz.prog 155 #[.string s] w fun e w' => e = .returned (.tuple #[.int .i64 (negV s.data.toList), .int .i64 (negE s.data.toList)]) ∧ w = w' := by
  unfold maxLen at hs
  have HD : Hid (allD s.data.toList = true) := hd
  clear hd
  go_enter Tryz.func155, Tryz.ntmps155
  go_wp2
  go_loop [4, 10] (fun v i => ∃ (k : Nat) (n : Int), k ≤ s.size ∧ i = .int .i64 k ∧ v = .int .i64 n ∧ -9223372036854775808 ≤ n ∧ n ≤ 0 ∧ Hid (val (s.data.toList.take k) = n)) (fun _ i => s.size - (intOf i).toNat)
  case atStart => exact ⟨0, 0, Nat.zero_le _, rfl, rfl, by omega, by omega, rfl⟩
  case round =>
    obtain ⟨k, n, hk, rfl, rfl, n1, n2, hv⟩ := hrel
    by_cases hlt : k < s.size
    · obtain ⟨c1, c2⟩ := allD_at s k hlt HD.out
      have c1 : (48 : Int) ≤ (s[k].toNat : Int) := by omega
      have c2 : (s[k].toNat : Int) ≤ 57 := by omega
      have hstep := val_step s k hlt
      rw [hv.out] at hstep
      have HS := Lib.hid hstep
      clear hstep
      have hfn : fits n := ⟨by omega, by omega⟩
      by_cases f1 : fits (n * 10)
      · have HM : Hid (∀ w, Calls Tryz.prog 167 #[.int .i64 n, .int .i64 10] w fun e w' => e = .returned (.tuple #[.int .i64 (n * 10), .int .i64 0]) ∧ w = w') :=
          fun w => mul_yes n 10 w hfn (by decide) f1
        by_cases f2 : fits (n * 10 - ((s[k].toNat : Int) - 48))
        · have HB : Hid (∀ w, Calls Tryz.prog 156 #[.int .i64 (n * 10), .int .i64 ((s[k].toNat : Int) - 48)] w fun e w' => e = .returned (.tuple #[.int .i64 (n * 10 - ((s[k].toNat : Int) - 48)), .int .i64 0]) ∧ w = w') :=
            fun w => sub_yes _ _ w f1 ⟨by omega, by omega⟩ f2
          have hlow := f2.1
          clear hfn f1 f2
          go_wp2_with (first | (go_at_call 167; refine (HM.out _).mono ?_; rintro e w' ⟨rfl, rfl⟩) | (go_at_call 156; refine (HB.out _).mono ?_; rintro e w' ⟨rfl, rfl⟩))
          go_round
          case rel => exact ⟨k + 1, _, by omega, by go_num, rfl, hlow, by omega, HS.out⟩
          case measure => simp [intOf]; omega
        · have HB : Hid (∀ w, Calls Tryz.prog 156 #[.int .i64 (n * 10), .int .i64 ((s[k].toNat : Int) - 48)] w fun e w' => e = .returned (.tuple #[.int .i64 0, .int .i64 9]) ∧ w = w') :=
            fun w => sub_no _ _ w f1 ⟨by omega, by omega⟩ f2
          have HO : Hid (¬ fits (val s.data.toList)) := out_of s (k + 1) HD.out (by rw [HS.out]; exact f2)
          clear hfn f1 f2
          go_wp2_with (first | (go_at_call 167; refine (HM.out _).mono ?_; rintro e w' ⟨rfl, rfl⟩) | (go_at_call 156; refine (HB.out _).mono ?_; rintro e w' ⟨rfl, rfl⟩))
          go_ret2
          exact ⟨ret_two (by rw [negV, if_neg HO.out]) (by rw [negE, if_neg HO.out]), rfl⟩
      · have HM : Hid (∀ w, Calls Tryz.prog 167 #[.int .i64 n, .int .i64 10] w fun e w' => e = .returned (.tuple #[.int .i64 0, .int .i64 9]) ∧ w = w') :=
          fun w => mul_no n 10 w hfn (by decide) f1
        have HO : Hid (¬ fits (val s.data.toList)) := out_of s (k + 1) HD.out (by rw [HS.out]; unfold fits at *; omega)
        clear hfn f1
        go_wp2_with (go_at_call 167; refine (HM.out _).mono ?_; rintro e w' ⟨rfl, rfl⟩)
        go_ret2
        exact ⟨ret_two (by rw [negV, if_neg HO.out]) (by rw [negE, if_neg HO.out]), rfl⟩
    · have HE : Hid (val s.data.toList = n) := by
        have := hv.out
        rw [List.take_of_length_le (by simp; omega)] at this
        exact this
      clear hv
      go_wp2
      go_ret2
      have hf : fits (val s.data.toList) := by rw [HE.out]; exact ⟨by omega, by omega⟩
      exact ⟨ret_two (by rw [negV, if_pos hf, HE.out]) (by rw [negE, if_pos hf]), rfl⟩
end Go.Proofs.YtphiaagppcbefaaGreatDoor
namespace Go.Proofs.YtphiaagppcbefaaGreatDoor
open Go.RowKit
def cutS (s : ByteArray) : ByteArray := if minus s.data.toList then s.extract 1 s.size else s
theorem cutS_list (s : ByteArray) : (cutS s).data.toList = digitsOf s.data.toList := by
  unfold cutS digitsOf
  split
  · rw [Lib.extract_data]
    simp
    rw [List.take_of_length_le (by simp)]
  · rfl
theorem cutS_size (s : ByteArray) : (cutS s).size ≤ s.size := by
  unfold cutS; split
  · simp
  · exact Nat.le_refl _
theorem minus_head (s : ByteArray) (h : 0 < s.size) : ((s.extract 0 1).toList == [45]) = minus s.data.toList := by
  rw [ByteArray.toList_eq, Lib.extract_data]
  unfold minus
  obtain ⟨⟨l⟩⟩ := s
  cases l with
  | nil => exact absurd h (Nat.lt_irrefl 0)
  | cons c r =>
    simp
theorem minus_nil (s : ByteArray) (h : s.size = 0) : minus s.data.toList = false := by
  obtain rfl := empty_of s h; rfl
set_option maxHeartbeats 400000 in
theorem cut_any (s : ByteArray) (w : World) (hs : s.size ≤ maxLen) :
    Calls Tryz.prog 153 #[.string s, .string ⟨#[45]⟩] w fun e w' => e = .returned (.tuple #[.string (cutS s), .bool (minus s.data.toList)]) ∧ w = w' := by
  unfold maxLen at hs
  unfold cutS
  by_cases h0 : s.size = 0
  · obtain rfl := empty_of s h0
    rw [minus_nil _ rfl]
    clear hs h0
    go_enter Tryz.func153, Tryz.ntmps153
    go_wp2
    go_ret2
    exact ⟨rfl, rfl⟩
  · have hp : (1 : Int) ≤ s.size := by omega
    have hm := minus_head s (by omega)
    rcases tf (minus s.data.toList) with hv | hv
    all_goals
      rw [hv] at hm
      rw [hv]
      clear hv h0
      go_enter Tryz.func153, Tryz.ntmps153
      go_wp2
      go_ret2
      exact ⟨rfl, rfl⟩
theorem mag_all (l : List UInt8) (h : magB l = true) : allD l = true := by
  cases l with
  | nil => cases h
  | cons c r =>
    unfold magB at h
    simp at h
    exact h.2
theorem negated_yes (s : ByteArray) (w : World) (hs : s.size ≤ maxLen) (hd : allD s.data.toList = true) (hf : fits (val s.data.toList)) :
    Calls Tryz.prog 155 #[.string s] w fun e w' => e = .returned (.tuple #[.int .i64 (val s.data.toList), .int .i64 0]) ∧ w = w' :=
  (negated_any s w hs hd).mono fun e w' ⟨h1, h2⟩ => ⟨by rw [h1, negV, negE, if_pos hf, if_pos hf], h2⟩
theorem negated_no (s : ByteArray) (w : World) (hs : s.size ≤ maxLen) (hd : allD s.data.toList = true) (hf : ¬ fits (val s.data.toList)) :
    Calls Tryz.prog 155 #[.string s] w fun e w' => e = .returned (.tuple #[.int .i64 0, .int .i64 9]) ∧ w = w' :=
  (negated_any s w hs hd).mono fun e w' ⟨h1, h2⟩ => ⟨by rw [h1, negV, negE, if_neg hf, if_neg hf], h2⟩
theorem toList_48 (t : ByteArray) : (t.toList == [48]) = (t.data.toList == [48]) := by rw [ByteArray.toList_eq]
set_option maxHeartbeats 400000 in
theorem parse_any (s : ByteArray) (w : World) (hs : s.size ≤ maxLen) :
    Calls Tryz.prog 141 #[.string s] w fun e w' => e = .returned (.tuple #[.int .i64 (parseV s.data.toList), .int .i64 (parseE s.data.toList)]) ∧ w = w' := by
  have HC : Hid (∀ w, Calls Tryz.prog 153 #[.string s, .string ⟨#[45]⟩] w fun e w' => e = .returned (.tuple #[.string (cutS s), .bool (minus s.data.toList)]) ∧ w = w') := fun w => cut_any s w hs
  have hts : (cutS s).size ≤ maxLen := Nat.le_trans (cutS_size s) hs
  unfold parseV parseE parseBad
  rw [← cutS_list]
  generalize hM : minus s.data.toList = M at *
  generalize hT : cutS s = t at *
  clear hM hT hs
  have HI : Hid (∀ w, Calls Tryz.prog 154 #[.string t] w fun e w' => e = .returned (.bool (magB t.data.toList)) ∧ w = w') := fun w => ismag_any t w hts
  rcases tf (magB t.data.toList) with hm | hm
  rotate_left
  · rw [hm] at HI ⊢
    simp only [Bool.not_false, Bool.true_or, if_true]
    clear hm hts
    go_enter Tryz.func141, Tryz.ntmps141
    go_wp2_with (first | (go_at_call 153; refine (HC.out _).mono ?_; rintro e w' ⟨rfl, rfl⟩) | (go_at_call 154; refine (HI.out _).mono ?_; rintro e w' ⟨rfl, rfl⟩))
    go_ret2
    exact ⟨rfl, rfl⟩
  · rw [hm] at HI ⊢
    have hd := mag_all _ hm
    clear hm
    have ht := toList_48 t
    have hbad : M = true ∧ (t.data.toList == [48]) = true ∨ (M && t.data.toList == [48]) = false := by
      rcases tf M with h | h <;> rcases tf (t.data.toList == [48]) with h' | h' <;> simp [h, h']
    rcases hbad with ⟨rfl, hz⟩ | hb
    · rw [hz] at ht ⊢
      simp only [Bool.not_true, Bool.false_or, Bool.true_and, if_true]
      clear hz hts hd
      go_enter Tryz.func141, Tryz.ntmps141
      go_wp2_with (first | (go_at_call 153; refine (HC.out _).mono ?_; rintro e w' ⟨rfl, rfl⟩) | (go_at_call 154; refine (HI.out _).mono ?_; rintro e w' ⟨rfl, rfl⟩))
      go_ret2
      exact ⟨rfl, rfl⟩
    · rw [hb]
      simp only [Bool.not_true, Bool.false_or, Bool.false_eq_true, if_false]
      have hb2 : M = false ∨ (M = true ∧ (t.toList == [48]) = false) := by
        rcases tf M with h | h
        · rw [h, Bool.true_and] at hb; exact .inr ⟨h, by rw [ht, hb]⟩
        · exact .inl h
      clear hb ht
      by_cases hf : fits (val t.data.toList)
      · have HN : Hid (∀ w, Calls Tryz.prog 155 #[.string t] w fun e w' => e = .returned (.tuple #[.int .i64 (val t.data.toList), .int .i64 0]) ∧ w = w') := fun w => negated_yes t w hts hd hf
        rw [if_neg (not_not_intro hf), if_neg (not_not_intro hf)]
        have HB : Hid (∀ w, Calls Tryz.prog 156 #[.int .i64 0, .int .i64 (val t.data.toList)] w fun e w' => e = .returned (.tuple #[.int .i64 (subV 0 (val t.data.toList)), .int .i64 (subE 0 (val t.data.toList))]) ∧ w = w') := fun w => sub_any _ _ w (by decide) hf
        generalize val t.data.toList = v at *
        clear hf hd hts
        rcases hb2 with rfl | ⟨rfl, hz⟩
        · simp only [Bool.false_eq_true, if_false]
          generalize subV 0 v = v1 at *
          generalize subE 0 v = v2 at *
          go_enter Tryz.func141, Tryz.ntmps141
          go_wp2_with (first | (go_at_call 153; refine (HC.out _).mono ?_; rintro e w' ⟨rfl, rfl⟩) | (go_at_call 154; refine (HI.out _).mono ?_; rintro e w' ⟨rfl, rfl⟩) | (go_at_call 155; refine (HN.out _).mono ?_; rintro e w' ⟨rfl, rfl⟩) | (go_at_call 156; refine (HB.out _).mono ?_; rintro e w' ⟨rfl, rfl⟩))
          go_ret2
          exact ⟨rfl, rfl⟩
        · simp only [if_true]
          go_enter Tryz.func141, Tryz.ntmps141
          go_wp2_with (first | (go_at_call 153; refine (HC.out _).mono ?_; rintro e w' ⟨rfl, rfl⟩) | (go_at_call 154; refine (HI.out _).mono ?_; rintro e w' ⟨rfl, rfl⟩) | (go_at_call 155; refine (HN.out _).mono ?_; rintro e w' ⟨rfl, rfl⟩))
          go_ret2
          exact ⟨rfl, rfl⟩
      · have HN : Hid (∀ w, Calls Tryz.prog 155 #[.string t] w fun e w' => e = .returned (.tuple #[.int .i64 0, .int .i64 9]) ∧ w = w') := fun w => negated_no t w hts hd hf
        rw [if_pos hf, if_pos hf]
        clear hf hd hts
        rcases hb2 with rfl | ⟨rfl, hz⟩
        all_goals
          go_enter Tryz.func141, Tryz.ntmps141
          go_wp2_with (first | (go_at_call 153; refine (HC.out _).mono ?_; rintro e w' ⟨rfl, rfl⟩) | (go_at_call 154; refine (HI.out _).mono ?_; rintro e w' ⟨rfl, rfl⟩) | (go_at_call 155; refine (HN.out _).mono ?_; rintro e w' ⟨rfl, rfl⟩))
          go_ret2
          exact ⟨rfl, rfl⟩
end Go.Proofs.YtphiaagppcbefaaGreatDoor
namespace Go.Proofs.YtphiaagppcbefaaGreatDoor
open Go.RowKit
def part (m c k : Nat) : List Value := (List.range c).map fun j => if c - k ≤ j then .int .u8 ((48 + m / 10 ^ (c - 1 - j) % 10 : Nat) : Int) else .int .u8 0
end Go.Proofs.YtphiaagppcbefaaGreatDoor
