/- Plain lists of bytes for layer 3: lines, words, positions. It speaks of no program. -/
import Derived.Test.YticfhbffoajgcaaGreatDoorRows
import Derived.Lib.Strings
import Derived.Lib.Bytealg
import Derived.Lib.SplitLaws
import Derived.Lib.Join
import Derived.Lib.LastIndexByte
import Derived.Below
namespace Go.Proofs.YticfhbffoajgcaaGreatDoor
open Go.RowKit

/-- A list of bytes as a string. -/
def mk (l : List UInt8) : ByteArray := ⟨l.toArray⟩
theorem mk_data (l : List UInt8) : (mk l).data.toList = l := rfl
theorem mk_self (s : ByteArray) : mk s.data.toList = s := rfl
theorem mk_size (l : List UInt8) : (mk l).size = l.length := rfl
theorem mk_get (l : List UInt8) (k : Nat) (h : k < (mk l).size) : (mk l)[k] = l[k]'h := rfl
theorem mk_append (a b : List UInt8) : mk a ++ mk b = mk (a ++ b) := by
  apply ByteArray.ext; simp [mk]
theorem ext_take (s : ByteArray) (k : Nat) : s.extract 0 k = mk (s.data.toList.take k) := by
  have h : (s.extract 0 k).data.toList = s.data.toList.take k := by rw [Lib.extract_data, List.drop_zero]; rfl
  rw [← h]; rfl
theorem ext_drop (s : ByteArray) (k : Nat) : s.extract k s.size = mk (s.data.toList.drop k) := by
  have h : (s.extract k s.size).data.toList = s.data.toList.drop k := by rw [Lib.extract_data, List.take_of_length_le (by simp)]
  rw [← h]; rfl
theorem ext_mid (s : ByteArray) (j k : Nat) : s.extract j k = mk ((s.data.toList.drop j).take (k - j)) := by
  have h := Lib.extract_data s j k
  rw [← h]; rfl
theorem size_len (s : ByteArray) : s.data.toList.length = s.size := by simp
theorem get_list (s : ByteArray) (k : Nat) (h : k < s.size) : s[k] = s.data.toList[k]'(by rw [size_len]; exact h) := rfl
theorem mk_inj {a b : List UInt8} (h : mk a = mk b) : a = b := by
  exact congrArg (fun x : ByteArray => x.data.toList) h
theorem toList_mk (l : List UInt8) : (mk l).toList = l := by rw [ByteArray.toList_eq]; rfl
theorem ba_mk (s : ByteArray) : ∃ l, s = mk l := ⟨s.data.toList, rfl⟩

/-! ### Pieces between the bytes that a test picks -/
def segs (p : UInt8 → Bool) : List UInt8 → List (List UInt8)
  | [] => [[]]
  | c :: r => if p c then [] :: segs p r else match segs p r with
    | [] => [[c]]
    | x :: t => (c :: x) :: t
def no (p : UInt8 → Bool) (l : List UInt8) : Bool := l.all fun c => !p c
theorem no_nil (p : UInt8 → Bool) : no p [] = true := rfl
theorem no_cons (p : UInt8 → Bool) (c : UInt8) (l : List UInt8) : no p (c :: l) = (!p c && no p l) := rfl
theorem no_snoc (p : UInt8 → Bool) (c : UInt8) (l : List UInt8) : no p (l ++ [c]) = (no p l && !p c) := by unfold no; rw [List.all_append]; simp

theorem segs_ne (p : UInt8 → Bool) : ∀ l, ∃ x t, segs p l = x :: t
  | [] => ⟨[], [], rfl⟩
  | c :: r => by
    obtain ⟨x, t, h⟩ := segs_ne p r
    unfold segs
    by_cases hc : p c = true
    · rw [if_pos hc]; exact ⟨_, _, rfl⟩
    · rw [if_neg hc, h]; exact ⟨_, _, rfl⟩
theorem segs_hit (p : UInt8 → Bool) (c : UInt8) (r : List UInt8) (h : p c = true) : segs p (c :: r) = [] :: segs p r := by
  rw [segs, if_pos h]
theorem segs_miss (p : UInt8 → Bool) (c : UInt8) (r x : List UInt8) (t : List (List UInt8)) (h : p c = false) (hr : segs p r = x :: t) : segs p (c :: r) = (c :: x) :: t := by
  rw [segs, if_neg (by rw [h]; exact Bool.false_ne_true), hr]
theorem segs_no (p : UInt8 → Bool) : ∀ l, no p l = true → segs p l = [l]
  | [], _ => rfl
  | c :: r, h => by
    rw [no_cons, Bool.and_eq_true, Bool.not_eq_true'] at h
    exact segs_miss p c r r [] h.1 (segs_no p r h.2)
theorem segs_pre (p : UInt8 → Bool) (r : List UInt8) : ∀ (a : List UInt8) (q : List (List UInt8)) (t x : List UInt8) (y : List (List UInt8)), segs p a = q ++ [t] → segs p r = x :: y → segs p (a ++ r) = q ++ (t ++ x) :: y
  | [], q, t, x, y, h, hr => by
    have h' : [[]] = q ++ [t] := h
    cases q with
    | nil => simp at h'; subst h'; simpa using hr
    | cons z q => simp at h'
  | c :: a, q, t, x, y, h, hr => by
    by_cases hc : p c = true
    · rw [segs_hit p c a hc] at h
      rw [List.cons_append, segs_hit p c (a ++ r) hc]
      cases q with
      | nil =>
        obtain ⟨u, v, huv⟩ := segs_ne p a
        rw [huv] at h; simp at h
      | cons z q =>
        simp only [List.cons_append, List.cons.injEq] at h ⊢
        exact ⟨h.1, segs_pre p r a q t x y h.2 hr⟩
    · have hc' : p c = false := by simpa using hc
      obtain ⟨u, v, huv⟩ := segs_ne p a
      rw [segs_miss p c a u v hc' huv] at h
      cases q with
      | nil =>
        simp only [List.nil_append, List.cons.injEq] at h
        obtain ⟨h1, h2⟩ := h
        have h3 := segs_pre p r a [] u x y (by rw [huv, h2]; rfl) hr
        rw [List.cons_append, segs_miss p c (a ++ r) (u ++ x) y hc' (by rw [h3]; rfl), ← h1]
        rfl
      | cons z q =>
        simp only [List.cons_append, List.cons.injEq] at h
        obtain ⟨h1, h2⟩ := h
        have h3 := segs_pre p r a (u :: q) t x y (by rw [huv, h2]; rfl) hr
        rw [List.cons_append, segs_miss p c (a ++ r) u (q ++ (t ++ x) :: y) hc' (by rw [h3]; rfl), ← h1]
        rfl
theorem snoc_form {α : Type} : ∀ (l : List α), l ≠ [] → ∃ q t, l = q ++ [t] := fun l h => ⟨l.dropLast, l.getLast h, (List.dropLast_concat_getLast h).symm⟩
theorem segs_snoc_form (p : UInt8 → Bool) (l : List UInt8) : ∃ q t, segs p l = q ++ [t] := by
  obtain ⟨x, y, h⟩ := segs_ne p l
  exact snoc_form _ (by rw [h]; exact List.cons_ne_nil _ _)
theorem segs_mid (p : UInt8 → Bool) (c : UInt8) (a b : List UInt8) (h : p c = true) : segs p (a ++ c :: b) = segs p a ++ segs p b := by
  obtain ⟨q, t, hq⟩ := segs_snoc_form p a
  rw [segs_pre p (c :: b) a q t [] (segs p b) hq (segs_hit p c b h), hq]; simp
theorem segs_app (p : UInt8 → Bool) (c : UInt8) (a b : List UInt8) (ha : no p a = true) (h : p c = true) : segs p (a ++ c :: b) = a :: segs p b := by
  rw [segs_mid p c a b h, segs_no p a ha]; rfl
theorem segs_all (p : UInt8 → Bool) : ∀ l, ∀ x ∈ segs p l, no p x = true
  | [], x, h => by
    have h' : x ∈ [[]] := h
    simp at h'; subst h'; rfl
  | c :: r, x, h => by
    obtain ⟨u, v, huv⟩ := segs_ne p r
    have ih := segs_all p r
    by_cases hc : p c = true
    · rw [segs_hit p c r hc] at h
      rcases List.mem_cons.1 h with rfl | h
      · rfl
      · exact ih x h
    · have hc' : p c = false := by simpa using hc
      rw [segs_miss p c r u v hc' huv] at h
      rw [huv] at ih
      rcases List.mem_cons.1 h with rfl | h
      · rw [no_cons, hc', ih u (List.mem_cons_self ..)]; rfl
      · exact ih x (List.mem_cons_of_mem _ h)

/-! ### Lines -/
def isL (c : UInt8) : Bool := c == 10
def lin (l : List UInt8) : List (List UInt8) := if (segs isL l).getLast? = some [] then (segs isL l).dropLast else segs isL l
def lend (l : List UInt8) : Bool := (segs isL l).getLast? == some []
theorem lin_of (l : List UInt8) (q : List (List UInt8)) (t : List UInt8) (h : segs isL l = q ++ [t]) : (t = [] → lin l = q ∧ lend l = true) ∧ (t ≠ [] → lin l = q ++ [t] ∧ lend l = false) := by
  unfold lin lend
  rw [h]
  simp only [List.getLast?_append, List.getLast?_singleton, Option.some_or, Option.some.injEq, List.dropLast_concat]
  refine ⟨fun e => ?_, fun e => ?_⟩
  · rw [if_pos e, e]; exact ⟨rfl, by simp⟩
  · rw [if_neg e]; exact ⟨rfl, by simpa using e⟩

/-- The lines with a line feed between each two. -/
def jl : List (List UInt8) → List UInt8
  | [] => []
  | x :: r => x ++ (r.map (10 :: ·)).flatten
theorem join_jl (xs : List (List UInt8)) : Lib.join xs [10] = jl xs := by
  cases xs with
  | nil => rfl
  | cons x r => rw [Lib.join_cons]; rfl
theorem jl_cons2 (x y : List UInt8) (r : List (List UInt8)) : jl (x :: y :: r) = x ++ 10 :: jl (y :: r) := by simp [jl]
theorem jl_snoc (q : List (List UInt8)) (x : List UInt8) (h : q ≠ []) : jl (q ++ [x]) = jl q ++ 10 :: x := by
  cases q with
  | nil => exact absurd rfl h
  | cons y r => simp [jl]
theorem jl_segs : ∀ l, jl (segs isL l) = l
  | [] => rfl
  | c :: r => by
    have ih := jl_segs r
    obtain ⟨x, t, h⟩ := segs_ne isL r
    by_cases hc : isL c = true
    · rw [segs_hit isL c r hc, h, jl_cons2, ← h, ih]
      have : c = 10 := by simpa [isL] using hc
      rw [this]; rfl
    · have hc' : isL c = false := by simpa using hc
      rw [segs_miss isL c r x t hc' h]
      rw [h] at ih
      cases t with
      | nil => simp only [jl, List.map_nil, List.flatten_nil, List.append_nil] at ih ⊢; rw [ih]
      | cons y t => rw [jl_cons2] at ih ⊢; rw [List.cons_append, ih]
theorem segs_jl : ∀ (xs : List (List UInt8)), xs ≠ [] → (∀ x ∈ xs, no isL x = true) → segs isL (jl xs) = xs
  | [], h, _ => absurd rfl h
  | [x], _, h => by
    have : jl [x] = x := by simp [jl]
    rw [this]; exact segs_no isL x (h x (List.mem_cons_self ..))
  | x :: y :: r, _, h => by
    rw [jl_cons2, segs_app isL 10 x _ (h x (List.mem_cons_self ..)) rfl, segs_jl (y :: r) (List.cons_ne_nil _ _) (fun z hz => h z (List.mem_cons_of_mem _ hz))]

/-- What Join returns. -/
def jn (xs : List (List UInt8)) (e : Bool) : List UInt8 := if xs = [] then [] else jl xs ++ (if e then [10] else [])
theorem jn_lin (l : List UInt8) : jn (lin l) (lend l) = l := by
  obtain ⟨q, t, h⟩ := segs_snoc_form isL l
  have h2 := jl_segs l
  rw [h] at h2
  by_cases ht : t = []
  · obtain ⟨h3, h4⟩ := (lin_of l q t h).1 ht
    rw [h3, h4]
    subst ht
    unfold jn
    by_cases hq : q = []
    · rw [if_pos hq]; subst hq; rw [← h2]; rfl
    · rw [if_neg hq, ← h2, jl_snoc q [] hq]; rfl
  · obtain ⟨h3, h4⟩ := (lin_of l q t h).2 ht
    rw [h3, h4]
    unfold jn
    rw [if_neg (by simp), h2]; simp
/-- The test of the law: the lines come back. -/
def plainL (xs : List (List UInt8)) (e : Bool) : Bool := (xs.all fun x => no isL x) && (e || (xs.getLast? != none && xs.getLast? != some []))
theorem lin_jn (xs : List (List UInt8)) (e : Bool) (h : plainL xs e = true) : lin (jn xs e) = xs ∧ lend (jn xs e) = e := by
  unfold plainL at h
  rw [Bool.and_eq_true, List.all_eq_true] at h
  obtain ⟨h1, h2⟩ := h
  cases e with
  | true =>
    unfold jn
    by_cases hx : xs = []
    · rw [if_pos hx]; subst hx; exact ⟨rfl, rfl⟩
    · rw [if_neg hx]
      simp only [if_true]
      have h3 : segs isL (jl xs ++ [10]) = xs ++ [[]] := by rw [segs_mid isL 10 (jl xs) [] rfl, segs_jl xs hx h1]; rfl
      exact (lin_of _ xs [] h3).1 rfl
  | false =>
    simp only [Bool.false_or, Bool.and_eq_true] at h2
    have hx : xs ≠ [] := by rintro rfl; simp at h2
    obtain ⟨q, t, hq⟩ := snoc_form xs hx
    have ht : t ≠ [] := by rintro rfl; rw [hq] at h2; simp at h2
    unfold jn
    rw [if_neg hx]
    simp only [Bool.false_eq_true, if_false, List.append_nil]
    have h3 := segs_jl xs hx h1
    rw [hq] at h3 ⊢
    exact (lin_of _ q t h3).2 ht

/-- What the reference's Join has written behind i lines. -/
def pj (xs : List (List UInt8)) (e : Bool) (i : Nat) : List UInt8 := if i = xs.length ∧ e = false then jl xs else ((xs.take i).map (· ++ [10])).flatten
theorem pre_jl (xs : List (List UInt8)) (h : xs ≠ []) : (xs.map (· ++ [10])).flatten = jl xs ++ [10] := by
  induction xs with
  | nil => exact absurd rfl h
  | cons x r ih =>
    cases r with
    | nil => simp [jl]
    | cons y r => rw [List.map_cons, List.flatten_cons, ih (List.cons_ne_nil _ _), jl_cons2]; simp
theorem pj_zero (xs : List (List UInt8)) (e : Bool) : pj xs e 0 = [] := by
  unfold pj
  split
  · rename_i h
    have : xs = [] := List.eq_nil_of_length_eq_zero h.1.symm
    subst this; rfl
  · rfl
theorem pj_end (xs : List (List UInt8)) (e : Bool) : pj xs e xs.length = jn xs e := by
  unfold pj jn
  cases e with
  | true =>
    rw [if_neg (by simp), List.take_length]
    by_cases hx : xs = []
    · rw [if_pos hx]; subst hx; rfl
    · rw [if_neg hx, pre_jl xs hx]; rfl
  | false =>
    rw [if_pos ⟨rfl, rfl⟩]
    by_cases hx : xs = []
    · rw [if_pos hx]; subst hx; rfl
    · rw [if_neg hx]; simp
theorem pj_more (xs : List (List UInt8)) (e : Bool) (i : Nat) (h : i < xs.length) (hm : e = true ∨ i + 1 < xs.length) : pj xs e (i + 1) = pj xs e i ++ xs[i] ++ [10] := by
  unfold pj
  rw [if_neg (by rintro ⟨h1, h2⟩; rcases hm with hm | hm; rw [h2] at hm; cases hm; omega), if_neg (by rintro ⟨h1, h2⟩; omega), List.take_succ_eq_append_getElem h, List.map_append, List.flatten_append]
  simp only [List.map_cons, List.map_nil, List.flatten_cons, List.flatten_nil, List.append_nil, List.append_assoc]
theorem pj_last (xs : List (List UInt8)) (i : Nat) (h : i < xs.length) (hm : ¬ i + 1 < xs.length) : pj xs false (i + 1) = pj xs false i ++ xs[i] := by
  unfold pj
  rw [if_pos ⟨by omega, rfl⟩, if_neg (by omega)]
  have e1 : xs = xs.take i ++ [xs[i]] := by
    rw [← List.take_succ_eq_append_getElem h, List.take_of_length_le (by omega)]
  by_cases hq : xs.take i = []
  · rw [hq] at e1 ⊢
    rw [List.nil_append] at e1
    have e2 := congrArg jl e1
    rw [e2]
    simp [jl]
  · have e2 := congrArg jl e1
    rw [jl_snoc _ _ hq] at e2
    rw [e2, pre_jl _ hq]; simp
theorem pj_len (xs : List (List UInt8)) (e : Bool) (i : Nat) : (pj xs e i).length ≤ (xs.map (·.length)).sum + xs.length := by
  have h1 : ∀ ys : List (List UInt8), ((ys.map (· ++ [10])).flatten).length = (ys.map (·.length)).sum + ys.length := by
    intro ys
    induction ys with
    | nil => rfl
    | cons y r ih => simp only [List.map_cons, List.flatten_cons, List.length_append, List.sum_cons, List.length_cons, ih, List.length_nil]; omega
  have h2 : (jl xs).length ≤ (xs.map (·.length)).sum + xs.length := by
    by_cases hx : xs = []
    · subst hx; exact Nat.zero_le _
    · have := congrArg List.length (pre_jl xs hx)
      rw [h1] at this; simp at this; simp; omega
  unfold pj
  split
  · exact h2
  · rw [h1]
    have h3 : ((xs.take i).map (·.length)).sum ≤ (xs.map (·.length)).sum := by
      have e := congrArg (fun l => (List.map (fun x : List UInt8 => x.length) l).sum) (List.take_append_drop i xs)
      simp only [List.map_append, List.sum_append] at e
      omega
    have h4 : (xs.take i).length ≤ xs.length := by rw [List.length_take]; omega
    omega
theorem jn_len (xs : List (List UInt8)) (e : Bool) : (jn xs e).length ≤ (xs.map (·.length)).sum + xs.length := by rw [← pj_end]; exact pj_len _ _ _

/-! ### Words -/
def sp (c : UInt8) : Bool := c == 32 || c == 9 || c == 10
def wds (l : List UInt8) : List (List UInt8) := (segs sp l).filter fun x => !x.isEmpty
theorem wds_mid (c : UInt8) (a b : List UInt8) (h : sp c = true) : wds (a ++ c :: b) = wds a ++ wds b := by
  unfold wds; rw [segs_mid sp c a b h, List.filter_append]
theorem wds_no (a : List UInt8) (h : no sp a = true) : wds a = if a = [] then [] else [a] := by
  unfold wds; rw [segs_no sp a h]
  cases a <;> rfl
theorem wds_plain (l : List UInt8) : ∀ x ∈ wds l, no sp x = true ∧ x ≠ [] := by
  intro x hx
  unfold wds at hx
  rw [List.mem_filter] at hx
  exact ⟨segs_all sp l x hx.1, by rintro rfl; simp at hx⟩
theorem wds_spaced : ∀ (ws : List (List UInt8)), (∀ x ∈ ws, no sp x = true ∧ x ≠ []) → wds ((ws.map (· ++ [32])).flatten) = ws
  | [], _ => rfl
  | x :: r, h => by
    obtain ⟨h1, h2⟩ := h x (List.mem_cons_self ..)
    rw [List.map_cons, List.flatten_cons, List.append_assoc, List.singleton_append, wds_mid 32 x _ rfl, wds_no x h1, if_neg h2, wds_spaced r (fun y hy => h y (List.mem_cons_of_mem _ hy))]
    rfl
theorem drop_cut (l : List UInt8) (j i : Nat) (hj : j ≤ i) (hi : i < l.length) : l.drop j = (l.drop j).take (i - j) ++ l[i] :: l.drop (i + 1) := by
  have e := List.take_append_drop (i - j) (l.drop j)
  rw [List.drop_drop, show j + (i - j) = i by omega, List.drop_eq_getElem_cons hi] at e
  exact e.symm
theorem wds_hit (l : List UInt8) (j i : Nat) (hj : j ≤ i) (hi : i < l.length) (hn : no sp ((l.drop j).take (i - j)) = true) (hc : sp l[i] = true) :
    wds (l.drop j) = (if j < i then [(l.drop j).take (i - j)] else []) ++ wds (l.drop (i + 1)) := by
  have e := congrArg wds (drop_cut l j i hj hi)
  rw [wds_mid _ _ _ hc, wds_no _ hn] at e
  rw [e]
  congr 1
  by_cases h : j < i
  · rw [if_pos h, if_neg]
    intro e
    have := congrArg List.length e
    simp at this; omega
  · rw [if_neg h, if_pos]
    rw [show i - j = 0 by omega]; rfl
theorem no_step (p : UInt8 → Bool) (l : List UInt8) (j i : Nat) (hj : j ≤ i) (hi : i < l.length) (hn : no p ((l.drop j).take (i - j)) = true) (hc : p l[i] = false) : no p ((l.drop j).take (i + 1 - j)) = true := by
  rw [show i + 1 - j = (i - j) + 1 by omega, List.take_succ_eq_append_getElem (by rw [List.length_drop]; omega), no_snoc, hn, List.getElem_drop]
  have : j + (i - j) = i := by omega
  simp only [this, hc]; rfl
theorem drop_all (p : UInt8 → Bool) (l : List UInt8) (j i : Nat) (hi : l.length ≤ i) (hn : no p ((l.drop j).take (i - j)) = true) : no p (l.drop j) = true := by
  rw [List.take_of_length_le (by rw [List.length_drop]; omega)] at hn; exact hn
theorem segs_cut (l : List UInt8) (j i : Nat) (hj : j ≤ i) (hi : i < l.length) (hn : no isL ((l.drop j).take (i - j)) = true) (hc : isL l[i] = true) :
    segs isL (l.drop j) = (l.drop j).take (i - j) :: segs isL (l.drop (i + 1)) := by
  have e := congrArg (segs isL) (drop_cut l j i hj hi)
  rw [segs_app isL _ _ _ hn hc] at e
  exact e
theorem wds_skip (l : List UInt8) (i : Nat) (hi : i < l.length) (hc : sp l[i] = true) : wds (l.drop i) = wds (l.drop (i + 1)) := by
  have := wds_hit l i i (Nat.le_refl _) hi (by rw [Nat.sub_self]; rfl) hc
  rw [if_neg (Nat.lt_irrefl _)] at this; exact this
theorem segs_count (p : UInt8 → Bool) : ∀ l, (segs p l).length ≤ l.length + 1
  | [] => Nat.le_refl _
  | c :: r => by
    have ih := segs_count p r
    obtain ⟨x, t, h⟩ := segs_ne p r
    by_cases hc : p c = true
    · rw [segs_hit p c r hc]; simp only [List.length_cons]; omega
    · rw [segs_miss p c r x t (by simpa using hc) h]; rw [h] at ih; simp only [List.length_cons] at ih ⊢; omega
theorem wds_count (l : List UInt8) : (wds l).length ≤ l.length + 1 := Nat.le_trans (List.length_filter_le _ _) (segs_count sp l)
theorem segs_sum (p : UInt8 → Bool) : ∀ l, ((segs p l).map (·.length)).sum ≤ l.length
  | [] => Nat.le_refl _
  | c :: r => by
    have ih := segs_sum p r
    obtain ⟨x, t, h⟩ := segs_ne p r
    by_cases hc : p c = true
    · rw [segs_hit p c r hc]; simp only [List.map_cons, List.sum_cons, List.length_cons, List.length_nil]; omega
    · rw [segs_miss p c r x t (by simpa using hc) h]; rw [h] at ih; simp only [List.map_cons, List.sum_cons, List.length_cons] at ih ⊢; omega
theorem filter_sum (q : List UInt8 → Bool) : ∀ xs : List (List UInt8), ((xs.filter q).map (·.length)).sum ≤ (xs.map (·.length)).sum
  | [] => Nat.le_refl _
  | x :: r => by
    have ih := filter_sum q r
    rw [List.filter_cons]
    split
    · simp only [List.map_cons, List.sum_cons]; omega
    · simp only [List.map_cons, List.sum_cons]; omega
theorem wds_sum (l : List UInt8) : ((wds l).map (·.length)).sum ≤ l.length := Nat.le_trans (filter_sum _ _) (segs_sum sp l)
theorem lin_le (l : List UInt8) : (lin l).length ≤ l.length + 1 ∧ ((lin l).map (·.length)).sum ≤ l.length := by
  obtain ⟨q, t, h⟩ := segs_snoc_form isL l
  have h1 := segs_count isL l
  have h2 := segs_sum isL l
  rw [h] at h1 h2
  by_cases ht : t = []
  · rw [((lin_of l q t h).1 ht).1]
    simp at h1 h2 ⊢; omega
  · rw [((lin_of l q t h).2 ht).1]; exact ⟨h1, h2⟩

/-! ### Positions -/
def colN (b : List UInt8) : Nat := b.foldl (fun k c => if c = 10 then 1 else k + 1) 1
theorem colN_snoc (b : List UInt8) (c : UInt8) : colN (b ++ [c]) = if c = 10 then 1 else colN b + 1 := by unfold colN; rw [List.foldl_append]; rfl
def lineN (b : List UInt8) : Nat := 1 + b.count 10
theorem lineN_snoc (b : List UInt8) (c : UInt8) : lineN (b ++ [c]) = if c = 10 then lineN b + 1 else lineN b := by
  unfold lineN; rw [List.count_append, List.count_singleton]
  by_cases h : c = 10
  · subst h; rfl
  · rw [if_neg h, if_neg (by simpa using fun e => h e)]; rfl
theorem colN_take (l : List UInt8) (k : Nat) (h : k < l.length) : colN (l.take (k + 1)) = if l[k] = 10 then 1 else colN (l.take k) + 1 := by
  rw [List.take_succ_eq_append_getElem h, colN_snoc]
theorem lineN_take (l : List UInt8) (k : Nat) (h : k < l.length) : lineN (l.take (k + 1)) = if l[k] = 10 then lineN (l.take k) + 1 else lineN (l.take k) := by
  rw [List.take_succ_eq_append_getElem h, lineN_snoc]
theorem colN_le (b : List UInt8) : 1 ≤ colN b ∧ colN b ≤ b.length + 1 := by
  have : ∀ k, k ≤ b.length → 1 ≤ colN (b.take k) ∧ colN (b.take k) ≤ k + 1 := by
    intro k
    induction k with
    | zero => intro _; exact ⟨Nat.le_refl _, Nat.le_refl _⟩
    | succ k ih =>
      intro h
      have := ih (by omega)
      rw [colN_take b k (by omega)]
      split <;> omega
  have := this b.length (Nat.le_refl _)
  rwa [List.take_length] at this
theorem lineN_le (b : List UInt8) : 1 ≤ lineN b ∧ lineN b ≤ b.length + 1 := by
  have : b.count 10 ≤ b.length := List.count_le_length
  unfold lineN; omega
theorem byte_bang (s : ByteArray) (k : Nat) (hk : k < s.size) : s.data[k]! = s.data.toList[k]'(by rw [size_len]; exact hk) := by
  rw [getElem!_pos s.data k (by simpa using hk)]; rfl
theorem col_last (s : ByteArray) : ∀ k, k ≤ s.size → (k : Int) - Lib.lastIdx s 10 k = colN (s.data.toList.take k)
  | 0, _ => rfl
  | k + 1, h => by
    have ih := col_last s k (by omega)
    rw [colN_take _ k (by rw [size_len]; omega)]
    by_cases hc : s.data.toList[k]'(by rw [size_len]; omega) = 10
    · rw [if_pos hc, Lib.lastIdx_hit s 10 k (by rw [byte_bang s k (by omega), hc]; rfl)]; omega
    · rw [if_neg hc, Lib.lastIdx_miss s 10 k (by
        rw [byte_bang s k (by omega)]
        intro e; exact hc (UInt8.toNat_inj.1 (by have : (10 : UInt8).toNat = 10 := rfl
                                                 omega)))]
      omega
/-- The offset, brought into range. -/
def intoN (n : Nat) (a : Int) : Nat := (min (max a 0) n).toNat
theorem intoN_le (n : Nat) (a : Int) : intoN n a ≤ n := by unfold intoN; omega

/-- The pieces of a beginning: all but the last end with a line feed, and the last is as long as the column says. -/
theorem pos_form (b : List UInt8) : ∃ q t, segs isL b = q ++ [t] ∧ q.length = b.count 10 ∧ colN b = t.length + 1 ∧ b.length = (q.map (·.length + 1)).sum + t.length := by
  have : ∀ k, k ≤ b.length → ∃ q t, segs isL (b.take k) = q ++ [t] ∧ q.length = (b.take k).count 10 ∧ colN (b.take k) = t.length + 1 ∧ k = (q.map (·.length + 1)).sum + t.length := by
    intro k
    induction k with
    | zero => intro _; exact ⟨[], [], rfl, rfl, rfl, rfl⟩
    | succ k ih =>
      intro h
      obtain ⟨q, t, h1, h2, h3, h4⟩ := ih (by omega)
      rw [List.take_succ_eq_append_getElem (by omega), colN_snoc, List.count_append, List.count_singleton]
      by_cases hc : b[k] = 10
      · refine ⟨q ++ [t], [], ?_, ?_, ?_, ?_⟩
        · rw [segs_pre isL [b[k]] _ q t [] [[]] h1 (by rw [hc]; rfl)]; simp
        · rw [List.length_append, h2, hc]; rfl
        · rw [if_pos hc]; rfl
        · simp only [List.map_append, List.map_cons, List.map_nil, List.sum_append, List.sum_cons, List.sum_nil, List.length_nil]; omega
      · have hn : isL b[k] = false := by simpa [isL] using hc
        refine ⟨q, t ++ [b[k]], ?_, ?_, ?_, ?_⟩
        · exact segs_pre isL [b[k]] _ q t [b[k]] [] h1 (segs_no isL _ (by rw [no_cons, hn]; rfl))
        · rw [if_neg (by simpa using fun e => hc e), h2]; rfl
        · rw [if_neg hc, h3]; simp
        · simp only [List.length_append, List.length_cons, List.length_nil]; omega
  have := this b.length (Nat.le_refl _)
  rwa [List.take_length] at this
/-- The law of positions in plain words: the lines before the position's line, and the column. -/
theorem pos_lines (l : List UInt8) (o : Nat) (ho : o ≤ l.length) : ∃ q : List (List UInt8), q.length + 1 = lineN (l.take o) ∧ q.length ≤ (lin l).length ∧ (∀ i, i < q.length → (lin l)[i]? = q[i]?) ∧
    o = (q.map (·.length + 1)).sum + (colN (l.take o) - 1) := by
  obtain ⟨q, t, h1, h2, h3, h4⟩ := pos_form (l.take o)
  rw [List.length_take, Nat.min_eq_left ho] at h4
  obtain ⟨x, y, h5⟩ := segs_ne isL (l.drop o)
  have h6 := segs_pre isL (l.drop o) (l.take o) q t x y h1 h5
  rw [List.take_append_drop] at h6
  have h7 : ∃ z, lin l = q ++ z := by
    obtain ⟨q', t', hq⟩ := segs_snoc_form isL l
    by_cases ht : t' = []
    · rw [((lin_of l q' t' hq).1 ht).1]
      rw [hq] at h6
      have e := congrArg List.dropLast h6
      rw [List.dropLast_concat, List.dropLast_append_of_ne_nil (List.cons_ne_nil _ _)] at e
      exact ⟨_, e⟩
    · rw [((lin_of l q' t' hq).2 ht).1, ← hq, h6]
      exact ⟨_, rfl⟩
  obtain ⟨z, hz⟩ := h7
  refine ⟨q, ?_, ?_, ?_, ?_⟩
  · unfold lineN; omega
  · rw [hz, List.length_append]; omega
  · intro i hi; rw [hz, List.getElem?_append_left hi]
  · omega
/-- Of two offsets the greater has the greater position. -/
theorem pos_lt (l : List UInt8) (a : Nat) : ∀ b, a < b → b ≤ l.length → lineN (l.take a) < lineN (l.take b) ∨ (lineN (l.take a) = lineN (l.take b) ∧ colN (l.take a) < colN (l.take b))
  | 0, h, _ => absurd h (Nat.not_lt_zero _)
  | b + 1, h, hb => by
    have hs : lineN (l.take b) < lineN (l.take (b + 1)) ∨ (lineN (l.take b) = lineN (l.take (b + 1)) ∧ colN (l.take b) < colN (l.take (b + 1))) := by
      rw [lineN_take l b (by omega), colN_take l b (by omega)]
      by_cases hc : l[b] = 10
      · rw [if_pos hc]; exact .inl (Nat.lt_succ_self _)
      · rw [if_neg hc, if_neg hc]; exact .inr ⟨rfl, Nat.lt_succ_self _⟩
    by_cases e : a = b
    · rw [e]; exact hs
    · have ih := pos_lt l a b (by omega) (by omega)
      omega
def lessN (l : List UInt8) (a b : Nat) : Bool := decide (lineN (l.take a) < lineN (l.take b)) || (decide (lineN (l.take a) = lineN (l.take b)) && decide (colN (l.take a) < colN (l.take b)))
theorem less_iff (l : List UInt8) (a b : Nat) (ha : a ≤ l.length) (hb : b ≤ l.length) : lessN l a b = decide (a < b) := by
  unfold lessN
  by_cases h : a < b
  · have := pos_lt l a b h hb
    rw [decide_eq_true h]
    simp only [Bool.or_eq_true, Bool.and_eq_true, decide_eq_true_eq]; exact this
  · rw [decide_eq_false h]
    simp only [Bool.or_eq_false_iff, Bool.and_eq_false_iff, decide_eq_false_iff_not]
    by_cases e : a = b
    · subst e; exact ⟨Nat.lt_irrefl _, .inr (Nat.lt_irrefl _)⟩
    · have := pos_lt l b a (by omega) ha
      omega
end Go.Proofs.YticfhbffoajgcaaGreatDoor
