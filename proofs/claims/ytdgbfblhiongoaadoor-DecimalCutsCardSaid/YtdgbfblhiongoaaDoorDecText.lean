/- Plain lists of bytes for layer 2: digits, what they denote, and pieces of a text. It speaks of no program. -/
import Derived.Test.YtdgbfblhiongoaaDoorNumDec
import Derived.Test.YtdgbfblhiongoaaDoorDecMath
import Derived.Lib.Strings
import Derived.Lib.Bytealg
namespace Go.Proofs.YtdgbfblhiongoaaDoor
open Go.RowKit

def isD (c : UInt8) : Bool := decide (48 ≤ c.toNat) && decide (c.toNat ≤ 57)
theorem isD_iff (c : UInt8) : isD c = true ↔ 48 ≤ c.toNat ∧ c.toNat ≤ 57 := by unfold isD; simp
theorem allD_isD (l : List UInt8) : allD l = l.all isD := rfl

/-- A list of bytes as a string. -/
def mk (l : List UInt8) : ByteArray := ⟨l.toArray⟩
theorem mk_data (l : List UInt8) : (mk l).data.toList = l := rfl
theorem mk_self (s : ByteArray) : mk s.data.toList = s := rfl
theorem mk_size (l : List UInt8) : (mk l).size = l.length := rfl
theorem mk_get (l : List UInt8) (k : Nat) (h : k < (mk l).size) : (mk l)[k] = l[k]'h := rfl
theorem mk_append (a b : List UInt8) : mk a ++ mk b = mk (a ++ b) := by
  apply ByteArray.ext; simp [mk]
theorem ext_take (s : ByteArray) (k : Nat) : s.extract 0 k = mk (s.data.toList.take k) := by
  have h : (s.extract 0 k).data.toList = s.data.toList.take k := by rw [Lib.extract_data, List.drop_zero]; rfl
  rw [← h]; rfl
theorem ext_drop (s : ByteArray) (k : Nat) : s.extract k s.size = mk (s.data.toList.drop k) := by
  have h : (s.extract k s.size).data.toList = s.data.toList.drop k := by rw [Lib.extract_data, List.take_of_length_le (by simp)]
  rw [← h]; rfl
theorem ext_mid (s : ByteArray) (j k : Nat) : s.extract j k = mk ((s.data.toList.drop j).take (k - j)) := by
  have h := Lib.extract_data s j k
  rw [← h]; rfl
theorem size_len (s : ByteArray) : s.data.toList.length = s.size := by simp
theorem get_list (s : ByteArray) (k : Nat) (h : k < s.size) : s[k] = s.data.toList[k]'(by rw [size_len]; exact h) := rfl

/-! ### The digits at the beginning -/
def ldig (l : List UInt8) : List UInt8 := l.takeWhile isD
theorem ldig_len_le (l : List UInt8) : (ldig l).length ≤ l.length := by
  unfold ldig; exact (List.takeWhile_prefix isD).length_le
theorem take_all_le (p : UInt8 → Bool) : ∀ (l : List UInt8) (k : Nat), (l.take k).all p = true → k ≤ l.length → l.take k = (l.takeWhile p).take k ∧ k ≤ (l.takeWhile p).length
  | l, 0, _, _ => by simp
  | [], k + 1, _, h => by simp at h
  | c :: r, k + 1, h, hl => by
    simp only [List.take_succ_cons, List.all_cons, Bool.and_eq_true] at h
    obtain ⟨h1, h2⟩ := take_all_le p r k h.2 (by simpa using hl)
    rw [List.takeWhile_cons, if_pos h.1]
    simp only [List.take_succ_cons, List.length_cons]
    exact ⟨by rw [h1], by omega⟩
/-- A prefix of elements that pass, ended by one that does not, or by the list's end. -/
theorem take_stop (p : UInt8 → Bool) (l : List UInt8) (k : Nat) (hl : k ≤ l.length) (h : (l.take k).all p = true) (hs : ∀ h : k < l.length, p l[k] = false) : l.takeWhile p = l.take k := by
  obtain ⟨h1, h2⟩ := take_all_le p l k h hl
  by_cases e : k < (l.takeWhile p).length
  · exfalso
    have hlt : k < l.length := Nat.lt_of_lt_of_le e (List.takeWhile_prefix p).length_le
    have h3 := hs hlt
    have h4 : (l.takeWhile p)[k] = l[k] := (List.takeWhile_prefix p).getElem e
    have h5 : p (l.takeWhile p)[k] = true := List.all_eq_true.1 (List.all_takeWhile (p := p)) _ (List.getElem_mem e)
    rw [h4, h3] at h5; cases h5
  · rw [h1, List.take_of_length_le (by omega)]
theorem all_step (p : UInt8 → Bool) (l : List UInt8) (k : Nat) (hk : k < l.length) (h : (l.take k).all p = true) (hp : p l[k] = true) : (l.take (k + 1)).all p = true := by
  rw [List.take_succ_eq_append_getElem hk, List.all_append, h]; simp [hp]
theorem all_take (p : UInt8 → Bool) (l : List UInt8) (k : Nat) (h : l.all p = true) : (l.take k).all p = true := by
  rw [List.all_eq_true] at *
  exact fun c hc => h c (List.mem_of_mem_take hc)
theorem all_ldig (l : List UInt8) : allD (ldig l) = true := by rw [allD_isD]; exact List.all_takeWhile
theorem ldig_all (l : List UInt8) (h : allD l = true) : ldig l = l := by
  have h1 := take_stop isD l l.length (Nat.le_refl _) (by rw [List.take_length]; exact h) (fun h => absurd h (Nat.lt_irrefl _))
  rw [List.take_length] at h1; exact h1
theorem ldig_len_iff (l : List UInt8) : ((ldig l).length = l.length) ↔ allD l = true := by
  constructor
  · intro h
    have : ldig l = l := (List.takeWhile_prefix isD).eq_of_length h
    rw [← this]; exact all_ldig l
  · intro h; rw [ldig_all l h]

/-! ### What digits denote -/
def nv (l : List UInt8) : Nat := l.foldl (fun n c => n * 10 + (c.toNat - 48)) 0
theorem nv_snoc (l : List UInt8) (c : UInt8) : nv (l ++ [c]) = nv l * 10 + (c.toNat - 48) := by
  unfold nv; rw [List.foldl_append]; rfl
theorem nv_take (l : List UInt8) (k : Nat) (h : k < l.length) : nv (l.take (k + 1)) = nv (l.take k) * 10 + (l[k].toNat - 48) := by
  rw [List.take_succ_eq_append_getElem h, nv_snoc]
theorem nv_mono (l : List UInt8) : ∀ n, n ≤ l.foldl (fun n c => n * 10 + (c.toNat - 48)) n := by
  induction l with
  | nil => intro n; exact Nat.le_refl n
  | cons c r ih => intro n; rw [List.foldl_cons]; exact Nat.le_trans (by omega) (ih _)
theorem nv_take_le (l : List UInt8) (k : Nat) : nv (l.take k) ≤ nv l := by
  have : nv l = (l.drop k).foldl (fun n c => n * 10 + (c.toNat - 48)) (nv (l.take k)) := by
    unfold nv; rw [← List.foldl_append, List.take_append_drop]
  rw [this]; exact nv_mono _ _
theorem val_nv (l : List UInt8) (h : allD l = true) : val l = -(nv l : Int) := by
  have : ∀ (l : List UInt8) (a : Int) (b : Nat), allD l = true → a = -(b : Int) → l.foldl (fun n c => n * 10 - ((c.toNat : Int) - 48)) a = -((l.foldl (fun n c => n * 10 + (c.toNat - 48)) b : Nat) : Int) := by
    intro l
    induction l with
    | nil => intro a b _ h; exact h
    | cons c r ih =>
      intro a b ha h
      rw [allD_isD, List.all_cons, Bool.and_eq_true, isD_iff] at ha
      rw [List.foldl_cons, List.foldl_cons]
      exact ih _ _ (by rw [allD_isD]; exact ha.2) (by omega)
  exact this l 0 0 h rfl
theorem nv_bound (l : List UInt8) (h : allD l = true) : nv l < 10 ^ l.length := by
  have : ∀ k, k ≤ l.length → nv (l.take k) < 10 ^ k := by
    intro k
    induction k with
    | zero => intro _; exact Nat.one_pos
    | succ k ih =>
      intro hk
      have h1 := ih (by omega)
      have h2 := (isD_iff l[k]).1 (List.all_eq_true.1 h _ (List.getElem_mem (by omega)))
      rw [nv_take l k (by omega), Nat.pow_succ]
      omega
  have h1 := this l.length (Nat.le_refl _)
  rw [List.take_length] at h1; exact h1

/-- What at most four digits behind a point denote, in units. -/
def fr (l : List UInt8) : Nat := nv l * 10 ^ (4 - l.length)
theorem fr_bound (l : List UInt8) (h : allD l = true) (hl : l.length ≤ 4) : fr l < 10000 := by
  have := nv_bound l h
  unfold fr
  have e : 10 ^ l.length * 10 ^ (4 - l.length) = 10000 := by rw [← Nat.pow_add, show l.length + (4 - l.length) = 4 by omega]
  have := Nat.mul_lt_mul_of_pos_right this (Nat.pow_pos (a := 10) (n := 4 - l.length) (by omega))
  omega

/-- The whole part as the program reckons it: it stops when it is beyond the range. -/
def bwf (n : Nat) (c : UInt8) : Nat := if 1000000000 < n then n else n * 10 + (c.toNat - 48)
def bw (l : List UInt8) : Nat := l.foldl bwf 0
theorem bw_take (l : List UInt8) (k : Nat) (h : k < l.length) : bw (l.take (k + 1)) = bwf (bw (l.take k)) l[k] := by
  unfold bw; rw [List.take_succ_eq_append_getElem h, List.foldl_append]; rfl
theorem bw_stays (l : List UInt8) : ∀ n, 1000000000 < n → l.foldl bwf n = n := by
  induction l with
  | nil => intro n _; rfl
  | cons c r ih =>
    intro n h
    rw [List.foldl_cons]
    have : bwf n c = n := by unfold bwf; rw [if_pos h]
    rw [this]; exact ih n h
theorem bw_take_stays (l : List UInt8) (k : Nat) (h : 1000000000 < bw (l.take k)) : bw l = bw (l.take k) := by
  have : bw l = (l.drop k).foldl bwf (bw (l.take k)) := by
    unfold bw; rw [← List.foldl_append, List.take_append_drop]
  rw [this]; exact bw_stays _ _ h
theorem bw_nv (l : List UInt8) : (nv l ≤ 1000000000 → bw l = nv l) ∧ (1000000000 < nv l → 1000000000 < bw l) := by
  have : ∀ (l : List UInt8) (a : Nat), a ≤ 1000000000 → (l.foldl (fun n c => n * 10 + (c.toNat - 48)) a ≤ 1000000000 → l.foldl bwf a = l.foldl (fun n c => n * 10 + (c.toNat - 48)) a) ∧ (1000000000 < l.foldl (fun n c => n * 10 + (c.toNat - 48)) a → 1000000000 < l.foldl bwf a) := by
    intro l
    induction l with
    | nil => intro a h; exact ⟨fun _ => rfl, fun h2 => absurd h2 (by simp only [List.foldl_nil]; omega)⟩
    | cons c r ih =>
      intro a h
      rw [List.foldl_cons, List.foldl_cons]
      have e : bwf a c = a * 10 + (c.toNat - 48) := by unfold bwf; rw [if_neg (by omega)]
      rw [e]
      by_cases hb : a * 10 + (c.toNat - 48) ≤ 1000000000
      · exact ih _ hb
      · have h1 := nv_mono r (a * 10 + (c.toNat - 48))
        refine ⟨fun h2 => absurd h2 (by omega), fun _ => ?_⟩
        rw [bw_stays r _ (by omega)]; omega
  exact this l 0 (by omega)
theorem bw_le (l : List UInt8) (h : allD l = true) : bw l ≤ 10000000009 := by
  have : ∀ (l : List UInt8) (a : Nat), allD l = true → a ≤ 10000000009 → l.foldl bwf a ≤ 10000000009 := by
    intro l
    induction l with
    | nil => intro a _ h; exact h
    | cons c r ih =>
      intro a hd h
      rw [allD_isD, List.all_cons, Bool.and_eq_true, isD_iff] at hd
      rw [List.foldl_cons]
      refine ih _ (by rw [allD_isD]; exact hd.2) ?_
      unfold bwf; split <;> omega
  exact this l 0 h (by omega)

/-! ### The number before and behind a point -/
def dn (b f : List UInt8) : Int := if nv b ≤ 1000000000 then (nv b * 10000 + fr f : Nat) else 0
def dnOk (b f : List UInt8) : Bool := decide (nv b ≤ 1000000000) && decide (nv b * 10000 + fr f ≤ 10000000000000)

/-! ### The part before a point -/
def dotB (l : List UInt8) : List UInt8 := l.takeWhile (· != 46)
def dotF (l : List UInt8) : List UInt8 := (l.drop ((dotB l).length + 1))
def dotted (l : List UInt8) : Bool := l.contains 46
theorem index_dot (l : List UInt8) : (dotted l = true ∧ Lib.indexByte l 46 = (dotB l).length ∧ (dotB l).length < l.length) ∨ (dotted l = false ∧ Lib.indexByte l 46 = -1 ∧ dotB l = l) := by
  induction l with
  | nil => exact .inr ⟨rfl, rfl, rfl⟩
  | cons c r ih =>
    unfold Lib.indexByte dotB dotted
    by_cases h : c = 46
    · subst h
      exact .inl ⟨rfl, rfl, Nat.succ_pos _⟩
    · have h1 : (c == 46) = false := by simpa using h
      have h2 : (46 == c) = false := beq_eq_false_iff_ne.2 (fun e => h e.symm)
      have h3 : (c != 46) = true := by simpa using h
      rw [h1, List.takeWhile_cons, h3]
      simp only [Bool.false_eq_true, if_false, if_true, List.length_cons]
      rcases ih with ⟨a, b, d⟩ | ⟨a, b, d⟩
      · refine .inl ⟨?_, ?_, ?_⟩
        · unfold dotted at a; rw [List.contains_cons, a, Bool.or_true]
        · unfold dotB at b
          have : (Lib.indexByte r 46 == -1) = false := by rw [b]; simp
          rw [this, b]; simp
        · unfold dotB at d; omega
      · refine .inr ⟨?_, ?_, ?_⟩
        · unfold dotted at a; rw [List.contains_cons, a, h2]; rfl
        · rw [b]; rfl
        · unfold dotB at d; rw [d]

end Go.Proofs.YtdgbfblhiongoaaDoor
