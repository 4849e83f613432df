/- Plain lists of bytes for layer 1: what a decimal text denotes. It speaks of no program. -/
import Derived.Test.YticfhbffoajgcaaGreatDoorNumMath
import Derived.Lib.Hide
namespace Go.Proofs.YticfhbffoajgcaaGreatDoor
open Go.RowKit

/-- All bytes are digits. -/
def allD (l : List UInt8) : Bool := l.all fun c => decide (48 ≤ c.toNat) && decide (c.toNat ≤ 57)
/-- The decimal form of a number that is not negative. -/
def magB : List UInt8 → Bool
  | [] => false
  | c :: r => !(c == 48 && !r.isEmpty) && allD (c :: r)
/-- Minus the number that a list of digits denotes. -/
def val (l : List UInt8) : Int := l.foldl (fun n c => n * 10 - ((c.toNat : Int) - 48)) 0

theorem val_snoc (l : List UInt8) (c : UInt8) : val (l ++ [c]) = val l * 10 - ((c.toNat : Int) - 48) := by
  unfold val; rw [List.foldl_append]; rfl

theorem allD_snoc (l : List UInt8) (c : UInt8) : allD (l ++ [c]) = (allD l && (decide (48 ≤ c.toNat) && decide (c.toNat ≤ 57))) := by
  unfold allD; rw [List.all_append]; simp

theorem fold_le (l : List UInt8) : ∀ n : Int, n ≤ 0 → allD l = true → l.foldl (fun n c => n * 10 - ((c.toNat : Int) - 48)) n ≤ n := by
  induction l with
  | nil => intro n _ _; exact Int.le_refl _
  | cons c r ih =>
    intro n hn ha
    unfold allD at ha
    rw [List.all_cons] at ha
    simp at ha
    obtain ⟨⟨h1, h2⟩, h3⟩ := ha
    have := ih (n * 10 - ((c.toNat : Int) - 48)) (by omega) (by unfold allD; simpa using h3)
    rw [List.foldl_cons]
    omega

theorem allD_take (l : List UInt8) (k : Nat) (h : allD l = true) : allD (l.take k) = true := by
  unfold allD at *
  rw [List.all_eq_true] at *
  exact fun c hc => h c (List.mem_of_mem_take hc)
theorem allD_drop (l : List UInt8) (k : Nat) (h : allD l = true) : allD (l.drop k) = true := by
  unfold allD at *
  rw [List.all_eq_true] at *
  exact fun c hc => h c (List.mem_of_mem_drop hc)

theorem val_nonpos (l : List UInt8) (h : allD l = true) : val l ≤ 0 := fold_le l 0 (Int.le_refl _) h

theorem val_take (l : List UInt8) (k : Nat) (h : allD l = true) : val l ≤ val (l.take k) := by
  have h1 := fold_le (l.drop k) (val (l.take k)) (val_nonpos _ (allD_take l k h)) (allD_drop l k h)
  have h2 : val l = (l.drop k).foldl (fun n c => n * 10 - ((c.toNat : Int) - 48)) (val (l.take k)) := by
    unfold val; rw [← List.foldl_append, List.take_append_drop]
  omega

theorem take_snoc (s : ByteArray) (k : Nat) (h : k < s.size) : s.data.toList.take (k + 1) = s.data.toList.take k ++ [s[k]] := by
  rw [List.take_succ_eq_append_getElem (by simpa using h)]; rfl

theorem val_step (s : ByteArray) (k : Nat) (h : k < s.size) : val (s.data.toList.take (k + 1)) = val (s.data.toList.take k) * 10 - ((s[k].toNat : Int) - 48) := by
  rw [take_snoc s k h, val_snoc]

theorem allD_at (s : ByteArray) (k : Nat) (h : k < s.size) (ha : allD s.data.toList = true) : 48 ≤ s[k].toNat ∧ s[k].toNat ≤ 57 := by
  unfold allD at ha
  rw [List.all_eq_true] at ha
  have := ha s[k] (by
    have : s[k] = s.data.toList[k]'(by simpa using h) := rfl
    rw [this]; exact List.getElem_mem _)
  simpa using this

theorem allD_no (s : ByteArray) (k : Nat) (h : k < s.size) (hn : ¬ (48 ≤ s[k].toNat ∧ s[k].toNat ≤ 57)) : allD s.data.toList = false := by
  cases ha : allD s.data.toList with
  | false => rfl
  | true => exact absurd (allD_at s k h ha) hn

theorem magB_nil (s : ByteArray) (h : s.size = 0) : magB s.data.toList = false := by
  have : s.data.toList = [] := by
    apply List.eq_nil_of_length_eq_zero; simpa using h
  rw [this]; rfl

theorem magB_zero (s : ByteArray) (h : 1 < s.size) (h0 : (s[0]'(by omega)).toNat = 48) : magB s.data.toList = false := by
  match hl : s.data.toList with
  | [] => rfl
  | [c] => have : s.data.toList.length = 1 := by rw [hl]; rfl
           have h2 : s.data.toList.length = s.size := by simp
           omega
  | c :: d :: r =>
    have hc : s[0]'(by omega) = c := by
      have : s[0]'(by omega) = s.data.toList[0]'(by simp; omega) := rfl
      rw [this]; simp [hl]
    have : c = 48 := by rw [← hc]; exact UInt8.toNat_inj.1 h0
    subst this
    rfl

theorem magB_all (s : ByteArray) (h : 0 < s.size) (h0 : ¬ ((s[0]'(by omega)).toNat = 48 ∧ 1 < s.size)) : magB s.data.toList = allD s.data.toList := by
  match hl : s.data.toList with
  | [] => have : s.data.toList.length = 0 := by rw [hl]; rfl
          have h2 : s.data.toList.length = s.size := by simp
          omega
  | c :: r =>
    have hc : s[0]'(by omega) = c := by
      have : s[0]'(by omega) = s.data.toList[0]'(by simp; omega) := rfl
      rw [this]; simp [hl]
    have hlen : s.size = r.length + 1 := by
      have : s.data.toList.length = s.size := by simp
      rw [← this, hl]; rfl
    have : (c == 48 && !r.isEmpty) = false := by
      by_cases q : c = 48
      · have : r = [] := by
          apply List.eq_nil_of_length_eq_zero
          have : ¬ 1 < s.size := fun hc1 => h0 ⟨by rw [hc, q]; rfl, hc1⟩
          omega
        subst this; simp
      · simp [q]
    show (!(c == 48 && !r.isEmpty) && allD (c :: r)) = _
    rw [this]; simp

/-! ### What Parse hands back -/
def minus (l : List UInt8) : Bool := l.head? == some 45
def digitsOf (l : List UInt8) : List UInt8 := if minus l then l.tail else l
def parseBad (l : List UInt8) : Bool := !magB (digitsOf l) || (minus l && digitsOf l == [48])
def parseE (l : List UInt8) : Int :=
  if parseBad l then 1 else if ¬ fits (val (digitsOf l)) then 9 else if minus l then 0 else subE 0 (val (digitsOf l))
def parseV (l : List UInt8) : Int :=
  if parseBad l then 0 else if ¬ fits (val (digitsOf l)) then 0 else if minus l then val (digitsOf l) else subV 0 (val (digitsOf l))

end Go.Proofs.YticfhbffoajgcaaGreatDoor
