/- Several texts in one (a claim has at most 60 files). -/
import Derived.Test.YtblaldcioneooaaGreatDoorMA
import Derived.Test.YtblaldcioneooaaGreatDoorMF
import Derived.Test.YtblaldcioneooaaGreatDoorMB
import Derived.Test.YtblaldcioneooaaGreatDoorCsSmall
import Derived.WalkKit
import Derived.ProofKit
import Derived.OpenShut
import Derived.Lay
import Derived.LaidMore
import Derived.LaidLaws
import Derived.SizedLaws
import Derived.Laws.IdiomArrays
import Derived.Lib.LaidTab
import Derived.Deep.DeepHandedRow
import Derived.Test.YtblaldcioneooaaGreatDoorLcCheck
import Derived.Test.YtblaldcioneooaaGreatDoorCsRow
import Derived.Test.YtblaldcioneooaaGreatDoorLpDef
import Derived.Test.YtblaldcioneooaaGreatDoorCsList
import Derived.SliceStrings
import Derived.Deep.Slices
/- A skipped line that is put into a text: what it changes, in plain mathematics. It speaks of no program. -/
namespace Go.Proofs.YtblaldcioneooaaGreatDoor
open Go.RowKit
set_option linter.unusedVariables false

theorem numT_ne {l : List UInt8} {m : Nat} {e : Int} (h : numT l m = .error e) : e ≠ 0 := by
  unfold numT at h
  split at h
  · cases h; decide
  · split at h
    · cases h
    · cases h; decide
theorem spanT_ne {l : List UInt8} {e : Int} (h : spanT l = .error e) : e ≠ 0 := by
  unfold spanT at h
  split at h
  · split at h
    · rename_i he; cases h; exact numT_ne he
    · cases h
  · split at h
    · rename_i he; cases h; exact numT_ne he
    · split at h
      · rename_i he; cases h; exact numT_ne he
      · split at h
        · cases h
        · cases h; decide
theorem setT_ne : ∀ {l : List (List UInt8)} {p : Nat → Bool} {e : Int}, setT l p = .error e → e ≠ 0
  | [], p, e, h => by cases h
  | x :: r, p, e, h => by
    unfold setT at h
    split at h
    · rename_i he; cases h; exact spanT_ne he
    · exact setT_ne h
theorem bytesT_ne : ∀ {l : List (List UInt8)} {e : Int}, bytesT l = .error e → e ≠ 0
  | [], e, h => by cases h
  | x :: r, e, h => by
    unfold bytesT at h
    split at h
    · rename_i he; cases h; exact numT_ne he
    · split at h
      · rename_i he; cases h; exact bytesT_ne he
      · cases h
theorem tabT_ne {t x y : List UInt8} {e : Int} (h : tabT t x y = .error e) : e ≠ 0 := by
  unfold tabT at h
  split at h
  · rename_i he; cases h; exact numT_ne he
  · split at h
    · rename_i he; cases h; exact numT_ne he
    · cases h
theorem weighT_ne {L : PL} {l : List (List UInt8)} {y : List UInt8} {e : Int} (h : weighT L l y = .error e) : e ≠ 0 := by
  unfold weighT at h
  split at h
  · rename_i he; cases h; exact bytesT_ne he
  · split at h
    · rename_i he; cases h; exact numT_ne he
    · cases h
theorem classT_ne {L : PL} {x : List UInt8} {r : List (List UInt8)} {e : Int} (h : classT L x r = .error e) : e ≠ 0 := by
  unfold classT at h
  split at h
  · cases h; decide
  · split at h
    · cases h; decide
    · split at h
      · cases h; decide
      · split at h
        · rename_i he; cases h; exact setT_ne he
        · cases h
theorem elemT_ne {L : PL} {x y z : List UInt8} {e : Int} (h : elemT L x y z = .error e) : e ≠ 0 := by
  unfold elemT at h
  split at h
  · rename_i he; cases h; exact numT_ne he
  · split at h
    · rename_i he; cases h; exact numT_ne he
    · split at h
      · rename_i he; cases h; exact numT_ne he
      · split at h
        · cases h; decide
        · split at h
          · cases h; decide
          · cases h
theorem beginT_ne {L : PL} {x : List UInt8} {e : Int} (h : beginT L x = .error e) : e ≠ 0 := by
  unfold beginT at h
  split at h
  · cases h; decide
  · cases h
theorem lowT_ne {L : PL} {x y : List UInt8} {e : Int} (h : lowT L x y = .error e) : e ≠ 0 := by
  unfold lowT at h
  split at h
  · rename_i he; cases h; exact tabT_ne he
  · cases h
theorem upT_ne {L : PL} {x y : List UInt8} {e : Int} (h : upT L x y = .error e) : e ≠ 0 := by
  unfold upT at h
  split at h
  · rename_i he; cases h; exact tabT_ne he
  · cases h
theorem entryT_ne {st : Bool} {L : PL} {k : List UInt8} {r : List (List UInt8)} {e : Int} (h : entryT st L k r = .error e) : e ≠ 0 := by
  unfold entryT at h
  split at h
  · cases h; decide
  · split at h
    · split at h
      · exact beginT_ne h
      · cases h; decide
    · split at h
      · split at h
        · exact weighT_ne h
        · cases h; decide
      · split at h
        · split at h
          · exact lowT_ne h
          · cases h; decide
        · split at h
          · split at h
            · exact upT_ne h
            · cases h; decide
          · split at h
            · split at h
              · exact classT_ne h
              · cases h; decide
            · split at h
              · split at h
                · exact elemT_ne h
                · cases h; decide
              · cases h; decide
theorem lineT_pos {n : Nat} {s : Bool × PL} {l : List UInt8} {e : Int × Nat} (h : lineT n s l = .error e) : e.2 = n ∧ e.1 ≠ 0 := by
  unfold lineT at h
  split at h
  · cases h
  · split at h
    · cases h
    · split at h
      · rename_i he; cases h; exact ⟨rfl, entryT_ne he⟩
      · cases h
theorem lineT_shift (n : Nat) (s : Bool × PL) (l : List UInt8) : lineT (n + 1) s l = match lineT n s l with
    | .error e => .error (e.1, e.2 + 1)
    | .ok t => .ok t := by
  unfold lineT
  split
  · rfl
  · split
    · rfl
    · split <;> rfl
theorem linesT_pos : ∀ (a : List (List UInt8)) {n : Nat} {s : Bool × PL} {e : Int × Nat}, linesT n a s = .error e → n ≤ e.2 ∧ e.2 < n + a.length ∧ e.1 ≠ 0
  | [], n, s, e, h => by cases h
  | l :: r, n, s, e, h => by
    unfold linesT at h
    split at h
    · rename_i he
      cases h
      obtain ⟨h1, h2⟩ := lineT_pos he
      exact ⟨by omega, by simp only [List.length_cons]; omega, h2⟩
    · obtain ⟨h1, h2, h3⟩ := linesT_pos r h
      exact ⟨by omega, by simp only [List.length_cons]; omega, h3⟩
theorem linesT_shift : ∀ (a : List (List UInt8)) (n : Nat) (s : Bool × PL), linesT (n + 1) a s = match linesT n a s with
    | .error e => .error (e.1, e.2 + 1)
    | .ok t => .ok t
  | [], n, s => rfl
  | l :: r, n, s => by
    unfold linesT
    rw [lineT_shift]
    cases h : lineT n s l with
    | error e => rfl
    | ok t => exact linesT_shift r (n + 1) t
/-! ### The text -/
theorem lin_no (l : List UInt8) : ∀ x ∈ lin l, no isL x = true := by
  intro x hx
  unfold lin at hx
  split at hx
  · exact segs_all isL l x (List.dropLast_subset _ hx)
  · exact segs_all isL l x hx
theorem plain_ins (l x : List UInt8) (i : Nat) (hi : i < (lin l).length) (hx : no isL x = true) : plainL ((lin l).take i ++ x :: (lin l).drop i) (lend l) = true := by
  have hall : ((lin l).take i ++ x :: (lin l).drop i).all (fun x => no isL x) = true := by
    rw [List.all_eq_true]
    intro y hy
    rcases List.mem_append.1 hy with h | h
    · exact lin_no l y (List.mem_of_mem_take h)
    · rcases List.mem_cons.1 h with rfl | h
      · exact hx
      · exact lin_no l y (List.mem_of_mem_drop h)
  have hne : (lin l).drop i ≠ [] := by
    intro h
    have := congrArg List.length h
    simp only [List.length_drop, List.length_nil] at this
    omega
  have hlast : ((lin l).take i ++ x :: (lin l).drop i).getLast? = (lin l).getLast? := by
    conv => rhs; rw [← List.take_append_drop i (lin l)]
    rw [List.getLast?_append, List.getLast?_append, List.getLast?_cons]
    cases h : ((lin l).drop i).getLast? with
    | none => exact absurd (List.getLast?_eq_none_iff.1 h) hne
    | some y => rfl
  unfold plainL
  rw [hall, hlast, Bool.true_and]
  obtain ⟨q, t, h⟩ := segs_snoc_form isL l
  by_cases ht : t = []
  · rw [((lin_of l q t h).1 ht).2]; rfl
  · rw [((lin_of l q t h).2 ht).1, ((lin_of l q t h).2 ht).2]
    simp [ht]
theorem sum_succ (xs : List (List UInt8)) : (xs.map (· ++ [10])).flatten.length = (xs.map (·.length)).sum + xs.length := by
  induction xs with
  | nil => rfl
  | cons x r ih => simp only [List.map_cons, List.flatten_cons, List.length_append, List.sum_cons, List.length_cons, List.length_nil, ih]; omega
theorem jn_size (xs : List (List UInt8)) (e : Bool) (h : xs ≠ []) : (jn xs e).length + (if e then 0 else 1) = (xs.map (·.length)).sum + xs.length := by
  have h1 := congrArg List.length (pre_jl xs h)
  rw [sum_succ, List.length_append] at h1
  unfold jn
  rw [if_neg h, List.length_append]
  cases e
  · simp only [Bool.false_eq_true, if_false, List.length_nil, List.length_cons] at h1 ⊢; omega
  · simp only [if_true, List.length_nil, List.length_cons] at h1 ⊢; omega
theorem ins_size (l x : List UInt8) (i : Nat) (hi : i < (lin l).length) : (jn ((lin l).take i ++ x :: (lin l).drop i) (lend l)).length = l.length + x.length + 1 := by
  have h1 := jn_size ((lin l).take i ++ x :: (lin l).drop i) (lend l) (by simp)
  have h2 := jn_size (lin l) (lend l) (by intro h; rw [h] at hi; exact absurd hi (Nat.not_lt_zero _))
  rw [jn_lin] at h2
  have h3 : ((lin l).map (·.length)).sum = (((lin l).take i).map (·.length)).sum + (((lin l).drop i).map (·.length)).sum := by
    conv => lhs; rw [← List.take_append_drop i (lin l)]
    rw [List.map_append, List.sum_append]
  simp only [List.map_append, List.sum_append, List.map_cons, List.sum_cons, List.length_append, List.length_cons, List.length_take, List.length_drop] at h1
  rw [h3] at h2
  omega
/-- What the law says of the two results. -/
def skipR (i : Nat) (r : Except (Int × Nat) PL) : Except (Int × Nat) PL := match r with
  | .ok L => .ok L
  | .error e => .error (e.1, if i < e.2 then e.2 + 1 else e.2)
theorem skip_math (l x : List UInt8) (i : Nat) (hi : i < (lin l).length) (hs : skipT x = true) (hx : no isL x = true) (hl : l.length ≤ 64534) (hxl : x.length ≤ 1001) :
    parseT (jn ((lin l).take i ++ x :: (lin l).drop i) (lend l)) = skipR i (parseT l) := by
  unfold parseT
  rw [ins_size l x i hi, (lin_jn _ _ (plain_ins l x i hi hx)).1, if_neg (by omega), if_neg (by omega)]
  have h1 : linesT 1 (lin l) (false, PLdef) = linesT 1 ((lin l).take i ++ (lin l).drop i) (false, PLdef) := by rw [List.take_append_drop]
  have hlen : ((lin l).take i).length = i := by rw [List.length_take]; omega
  rw [h1, linesT_app, linesT_app, hlen]
  cases ha : linesT 1 ((lin l).take i) (false, PLdef) with
  | error e =>
    have hp := linesT_pos _ ha
    rw [hlen] at hp
    simp only [skipR]
    rw [if_neg (by omega)]
  | ok t =>
    simp only [linesT, lineT_skip _ _ _ hs]
    rw [linesT_shift]
    cases hb : linesT (1 + i) ((lin l).drop i) t with
    | error e =>
      have hp := linesT_pos _ hb
      simp only [skipR]
      rw [if_pos (by omega)]
    | ok u =>
      simp only
      by_cases hu : u.1 = true
      · rw [if_pos hu, if_pos hu]; rfl
      · rw [if_neg hu, if_neg hu]
        simp only [skipR]
        rw [if_pos (by omega)]
        simp only [List.length_append, List.length_cons, hlen, List.length_drop]
        rw [show i + ((lin l).length - i + 1) + 1 = (lin l).length + 1 + 1 by omega]
theorem parse_ne {l : List UInt8} {e : Int × Nat} (h : parseT l = .error e) : e.1 ≠ 0 ∧ e.2 ≤ l.length + 2 := by
  unfold parseT at h
  split at h
  · cases h; exact ⟨by decide, by simp⟩
  · split at h
    · rename_i he
      cases h
      have := linesT_pos _ he
      have h2 := (lin_le l).1
      exact ⟨this.2.2, by omega⟩
    · split at h
      · cases h
      · cases h
        have h2 := (lin_le l).1
        exact ⟨(by decide : (1 : Int) ≠ 0), by show (lin l).length + 1 ≤ _; omega⟩
theorem skip_nil : skipT [] = true := rfl
theorem skip_hash (r : List UInt8) : skipT (35 :: r) = true := by unfold skipT; simp
end Go.Proofs.YtblaldcioneooaaGreatDoor
/- Words, lines and numbers of a canonical text, in mathematics. -/
set_option linter.unusedVariables false
namespace Go.Proofs.YtblaldcioneooaaGreatDoor
open Go.RowKit

/-! ### Numbers -/
theorem fmB_dec (c : Nat) : fmB c = dec c := by
  unfold fmB
  rw [fmtS_list, if_neg (by omega)]
  rfl
theorem fmB_digits (c : Nat) : ∀ x ∈ fmB c, 48 ≤ x.toNat ∧ x.toNat ≤ 57 := by
  rw [fmB_dec]
  intro x hx
  have h := (dec_digits c).1
  unfold allD at h
  have := List.all_eq_true.1 h x hx
  simpa using this
theorem fmB_ne (c : Nat) : fmB c ≠ [] := by
  rw [fmB_dec]
  intro h
  have := dec_mag c
  rw [h] at this
  cases this
theorem digit_sp (x : UInt8) (h : 48 ≤ x.toNat ∧ x.toNat ≤ 57) : sp x = false ∧ isL x = false ∧ x ≠ 45 ∧ x ≠ 35 := by
  have h32 : x ≠ 32 := by rintro rfl; exact absurd h.1 (by decide)
  have h9 : x ≠ 9 := by rintro rfl; exact absurd h.1 (by decide)
  have h10 : x ≠ 10 := by rintro rfl; exact absurd h.1 (by decide)
  have h45 : x ≠ 45 := by rintro rfl; exact absurd h.1 (by decide)
  have h35 : x ≠ 35 := by rintro rfl; exact absurd h.1 (by decide)
  refine ⟨?_, ?_, h45, h35⟩
  · unfold sp; simp [h32, h9, h10]
  · unfold isL; simp [h10]
/-- A word of a line: no blank, not empty. -/
def Wd (x : List UInt8) : Prop := no sp x = true ∧ x ≠ []
theorem no_of {p : UInt8 → Bool} {x : List UInt8} (h : ∀ c ∈ x, p c = false) : no p x = true := by
  unfold no
  rw [List.all_eq_true]
  intro c hc
  rw [h c hc]; rfl
theorem fmB_wd (c : Nat) : Wd (fmB c) := ⟨no_of fun x hx => (digit_sp x (fmB_digits c x hx)).1, fmB_ne c⟩
theorem numT_fm (c m : Nat) (hc : c ≤ m) (hm : m ≤ 1000000) : numT (fmB c) m = .ok c := by
  have h := parse_fmt (c : Int) (by unfold fits; omega)
  unfold numT
  have h1 : parseV (fmB c) = (c : Int) := h.1
  have h2 : parseE (fmB c) = 0 := h.2
  rw [if_neg (by rw [h2]; decide), if_pos (by rw [h1, h2]; omega), h1]
  rfl
theorem dec_len1 (c : Nat) (h : c < 10) : (dec c).length = 1 := by rw [dec_small c h]; rfl
theorem dec_len2 (c : Nat) (h : c < 100) : (dec c).length ≤ 2 := by
  by_cases h1 : c < 10
  · rw [dec_len1 c h1]; decide
  · rw [dec_big c h1, List.length_append, dec_len1 _ (by omega)]; simp
theorem dec_len3 (c : Nat) (h : c < 1000) : (dec c).length ≤ 3 := by
  by_cases h1 : c < 10
  · rw [dec_len1 c h1]; decide
  · rw [dec_big c h1, List.length_append]
    have := dec_len2 (c / 10) (by omega)
    simp; omega
theorem dec_len4 (c : Nat) (h : c < 10000) : (dec c).length ≤ 4 := by
  by_cases h1 : c < 10
  · rw [dec_len1 c h1]; decide
  · rw [dec_big c h1, List.length_append]
    have := dec_len3 (c / 10) (by omega)
    simp; omega
theorem dec_len5 (c : Nat) (h : c < 100000) : (dec c).length ≤ 5 := by
  by_cases h1 : c < 10
  · rw [dec_len1 c h1]; decide
  · rw [dec_big c h1, List.length_append]
    have := dec_len4 (c / 10) (by omega)
    simp; omega
theorem fm3 (c : Nat) (h : c < 256) : (fmB c).length ≤ 3 := by rw [fmB_dec]; exact dec_len3 c (by omega)
theorem fm5 (c : Nat) (h : c ≤ 65535) : (fmB c).length ≤ 5 := by rw [fmB_dec]; exact dec_len5 c (by omega)

/-! ### Names -/
theorem nmC_sp (x : UInt8) (h : nmC x.toNat = true) : sp x = false ∧ x ≠ 35 := by
  have h32 : x ≠ 32 := by rintro rfl; exact absurd h (by decide)
  have h9 : x ≠ 9 := by rintro rfl; exact absurd h (by decide)
  have h10 : x ≠ 10 := by rintro rfl; exact absurd h (by decide)
  have h35 : x ≠ 35 := by rintro rfl; exact absurd h (by decide)
  refine ⟨?_, h35⟩
  unfold sp; simp [h32, h9, h10]
theorem nm_all {l : List UInt8} (h : nmL l = true) : l ≠ [] ∧ l.length ≤ 32 ∧ ∀ x ∈ l, nmC x.toNat = true := by
  cases l with
  | nil => cases h
  | cons b r =>
    unfold nmL at h
    simp only [Bool.and_eq_true, decide_eq_true_eq] at h
    exact ⟨by simp, h.1.1, fun x hx => List.all_eq_true.1 h.2 x hx⟩
theorem nm_wd {l : List UInt8} (h : nmL l = true) : Wd l := ⟨no_of fun x hx => (nmC_sp x ((nm_all h).2.2 x hx)).1, (nm_all h).1⟩

/-! ### Lines -/
theorem jw_tail (x : List UInt8) (r : List (List UInt8)) : jw (x :: r) ++ [32] = ((x :: r).map (· ++ [32])).flatten := by
  unfold jw
  rw [Lib.join_cons]
  induction r generalizing x with
  | nil => simp [Lib.joinTail]
  | cons y r ih =>
    have h := ih y
    have e : Lib.joinTail [32] (y :: r) = [32] ++ (y ++ Lib.joinTail [32] r) := by simp [Lib.joinTail]
    rw [e, List.map_cons, List.flatten_cons, ← h]
    simp
theorem wds_jw (ws : List (List UInt8)) (h : ∀ x ∈ ws, Wd x) (hne : ws ≠ []) : wds (jw ws) = ws := by
  cases ws with
  | nil => exact absurd rfl hne
  | cons x r =>
    have h1 := wds_spaced (x :: r) h
    rw [← jw_tail] at h1
    have h2 : wds (jw (x :: r) ++ 32 :: []) = wds (jw (x :: r)) ++ wds [] := wds_mid 32 _ _ rfl
    have h3 : wds [] = [] := rfl
    rw [h3, List.append_nil] at h2
    rw [← h2]; exact h1
theorem jw_head (x : List UInt8) (r : List (List UInt8)) (hx : x ≠ []) : (jw (x :: r)).head? = x.head? := by
  unfold jw
  rw [Lib.join_cons]
  cases x with
  | nil => exact absurd rfl hx
  | cons a b => rfl
theorem jw_no (p : UInt8 → Bool) (hp : p 32 = false) (ws : List (List UInt8)) (h : ∀ x ∈ ws, no p x = true) : no p (jw ws) = true := by
  cases ws with
  | nil => rfl
  | cons x r =>
    have e : no p (jw (x :: r)) = (no p x && no p (Lib.joinTail [32] r)) := by
      unfold jw no
      rw [Lib.join_cons, List.all_append]
    rw [e, h x (by simp), Bool.true_and]
    have hr : ∀ y ∈ r, no p y = true := fun y hy => h y (by simp [hy])
    clear h e
    induction r with
    | nil => rfl
    | cons y r ih =>
      have e : Lib.joinTail [32] (y :: r) = [32] ++ (y ++ Lib.joinTail [32] r) := by simp [Lib.joinTail]
      have e2 : no p (Lib.joinTail [32] (y :: r)) = (!p 32 && (no p y && no p (Lib.joinTail [32] r))) := by
        rw [e]; unfold no; rw [List.all_append, List.all_append]; simp
      rw [e2, hp, hr y (by simp), ih (fun z hz => hr z (by simp [hz]))]
      rfl
theorem no_sp_L {x : List UInt8} (h : no sp x = true) : no isL x = true := by
  unfold no at h ⊢
  rw [List.all_eq_true] at h ⊢
  intro c hc
  have := h c hc
  unfold sp at this
  unfold isL
  simp at this ⊢
  exact this.2
/-- A line of words is an entry. -/
theorem lineT_jw (n : Nat) (s : Bool × PL) (k : List UInt8) (r : List (List UInt8)) (hk : k ≠ []) (h35 : k.head? ≠ some 35) (h : ∀ x ∈ k :: r, Wd x) : lineT n s (jw (k :: r)) = match entryT s.1 s.2 k r with
    | .error e => .error (e, n)
    | .ok L => .ok (true, L) := by
  have hw := wds_jw (k :: r) h (by simp)
  have hs : skipT (jw (k :: r)) = false := by
    unfold skipT
    rw [hw, jw_head k r hk]
    simp
    exact h35
  unfold lineT
  rw [if_neg (by rw [hs]; decide), hw]
  rfl
theorem jw_line (ws : List (List UInt8)) (h : ∀ x ∈ ws, Wd x) : no isL (jw ws) = true := jw_no isL rfl ws fun x hx => no_sp_L (h x hx).1
theorem kws : Wd kLoc ∧ Wd kWei ∧ Wd kLow ∧ Wd kUp ∧ Wd kCls ∧ Wd kElm := by
  refine ⟨⟨rfl, ?_⟩, ⟨rfl, ?_⟩, ⟨rfl, ?_⟩, ⟨rfl, ?_⟩, ⟨rfl, ?_⟩, ⟨rfl, ?_⟩⟩ <;> intro h <;> cases h

/-! ### Many lines -/
theorem linesT_end (n : Nat) (a : List (List UInt8)) (x : List UInt8) (s t : Bool × PL) (h : linesT n a s = .ok t) : linesT n (a ++ [x]) s = lineT (n + a.length) t x := by
  rw [linesT_app, h]
  simp only [linesT]
  cases lineT (n + a.length) t x <;> rfl
end Go.Proofs.YtblaldcioneooaaGreatDoor
/- Reading a canonical text: weights, forms, in mathematics. -/
set_option linter.unusedVariables false
namespace Go.Proofs.YtblaldcioneooaaGreatDoor
open Go.RowKit

theorem map_wd (l : List Nat) : ∀ x ∈ l.map fmB, Wd x := by
  intro x hx
  obtain ⟨c, _, rfl⟩ := List.mem_map.1 hx
  exact fmB_wd c
theorem bytesT_fm : ∀ (l : List Nat), (∀ c ∈ l, c < 256) → bytesT (l.map fmB) = .ok l
  | [], _ => rfl
  | c :: l, h => by
    simp only [List.map_cons, bytesT]
    rw [numT_fm c 255 (by have := h c (by simp); omega) (by decide), bytesT_fm l (fun x hx => h x (by simp [hx]))]
theorem entry_wei (L : PL) (l : List Nat) (hl : ∀ c ∈ l, c < 256) (hne : l ≠ []) (v : Nat) (hv : v ≤ 65535) : entryT true L kWei (l.map fmB ++ [fmB v]) = .ok { L with wt := putW L.wt l v } := by
  have h1 : (kWei == kLoc) = false := by decide
  have h2 : kWei ≠ kLoc := by decide
  have h3 : 2 ≤ (l.map fmB ++ [fmB v]).length := by
    have := List.length_pos_iff.2 hne
    simp; omega
  unfold entryT
  rw [h1, if_neg (by decide), if_neg h2, if_pos rfl, if_pos h3]
  have h4 : (l.map fmB ++ [fmB v]).dropLast = l.map fmB := List.dropLast_concat
  have h5 : (l.map fmB ++ [fmB v]).getLastD [] = fmB v := by simp
  rw [h4, h5]
  unfold weighT
  rw [bytesT_fm l hl, numT_fm v 65535 hv (by decide)]
theorem line_wei (n : Nat) (L : PL) (f : Nat → Int) (hf : ∀ j, j < 256 → 0 ≤ f j ∧ f j ≤ 65535) (v : Int) (hv : v ∈ ordT f 256) : lineT n (true, L) (weiLine f v) = .ok (true, { L with wt := putW L.wt (grpT f v 256) v.toNat }) := by
  have hr : 0 ≤ v ∧ v ≤ 65535 := by
    obtain ⟨c, hc, e⟩ := ordT_of hv
    rw [← e]; exact hf c hc
  unfold weiLine
  rw [lineT_jw n (true, L) kWei _ (by decide) (by decide) (by
    intro x hx
    rcases List.mem_cons.1 hx with rfl | hx
    · exact kws.2.1
    · rcases List.mem_append.1 hx with hx | hx
      · exact map_wd _ x hx
      · simp at hx; subst hx; exact fmB_wd _)]
  simp only
  rw [entry_wei L _ (fun c hc => (grpT_lt hc).1) ((ordT_mem f v 256).1 hv) v.toNat (by omega)]
theorem lines_wei (f : Nat → Int) (hf : ∀ j, j < 256 → 0 ≤ f j ∧ f j ≤ 65535) : ∀ (vs : List Int), (∀ v ∈ vs, v ∈ ordT f 256) → ∀ (n : Nat) (L : PL),
    linesT n (vs.map (weiLine f)) (true, L) = .ok (true, { L with wt := fun j => if (vs.any fun v => (grpT f v 256).contains j) = true then f j else L.wt j })
  | [], _, n, L => by simp [linesT]
  | v :: vs, h, n, L => by
    have hv := h v (by simp)
    simp only [List.map_cons, linesT]
    rw [line_wei n L f hf v hv]
    simp only
    rw [lines_wei f hf vs (fun x hx => h x (by simp [hx])) (n + 1)]
    congr 2
    simp only [PL.mk.injEq, true_and, and_true]
    funext j
    unfold putW
    by_cases h1 : (vs.any fun v => (grpT f v 256).contains j) = true
    · rw [if_pos h1, if_pos (by simp only [List.any_cons, h1, Bool.or_true])]
    · rw [if_neg h1]
      by_cases h2 : (grpT f v 256).contains j = true
      · rw [if_pos h2, if_pos (by simp only [List.any_cons, h2, Bool.true_or])]
        have h3 := grpT_lt (List.contains_iff_mem.1 h2)
        have h4 := (hf j h3.1).1
        rw [← h3.2.2]
        omega
      · rw [if_neg h2, if_neg (by simp only [List.any_cons, Bool.or_eq_true]; exact fun h => h.elim h2 h1)]
theorem wt_all (f : Nat → Int) (j : Nat) : (if ((ordT f 256).any fun v => (grpT f v 256).contains j) = true then f j else (j : Int)) = if j < 256 then f j else (j : Int) := by
  by_cases hj : j < 256
  · rw [if_pos hj]
    by_cases hf : f j = (j : Int)
    · split
      · rfl
      · exact hf.symm
    · have hm : j ∈ grpT f (f j) 256 := by unfold grpT; simp [hj, hf]
      rw [if_pos]
      rw [List.any_eq_true]
      exact ⟨f j, (ordT_mem f (f j) 256).2 (fun h => by rw [h] at hm; cases hm), List.contains_iff_mem.2 hm⟩
  · rw [if_neg hj, if_neg]
    intro h
    rw [List.any_eq_true] at h
    obtain ⟨v, _, h⟩ := h
    exact hj (grpT_lt (List.contains_iff_mem.1 h)).1
/-! ### Forms -/
theorem put_next (t u : List UInt8) (ht : t.length = 256) (hu : u.length = 256) (k : Nat) (hk : k < 256) : putB (t.take k ++ u.drop k) k (t.getD k 0).toNat = t.take (k + 1) ++ u.drop (k + 1) := by
  unfold putB
  have e : t.getD k 0 = t[k]'(by omega) := by rw [List.getD_eq_getElem?_getD, List.getElem?_eq_getElem (by omega)]; rfl
  rw [e, UInt8.ofNat_toNat, List.set_append_right _ _ (by simp; omega), List.take_succ_eq_append_getElem (by omega), List.append_assoc]
  congr 1
  rw [List.length_take, Nat.min_eq_left (by omega), Nat.sub_self, List.drop_eq_getElem_cons (by omega : k < u.length)]
  rfl
theorem same_next (t u : List UInt8) (ht : t.length = 256) (hu : u.length = 256) (k : Nat) (hk : k < 256) (h : t.getD k 0 = u.getD k 0) : t.take (k + 1) ++ u.drop (k + 1) = t.take k ++ u.drop k := by
  have e : t.getD k 0 = t[k]'(by omega) := by rw [List.getD_eq_getElem?_getD, List.getElem?_eq_getElem (by omega)]; rfl
  have e2 : u.getD k 0 = u[k]'(by omega) := by rw [List.getD_eq_getElem?_getD, List.getElem?_eq_getElem (by omega)]; rfl
  rw [e, e2] at h
  rw [List.take_succ_eq_append_getElem (by omega), List.append_assoc, List.drop_eq_getElem_cons (by omega : k < u.length), h]
  rfl
theorem entry_low (L : PL) (a c : Nat) (ha : a < 256) (hc : c < 256) : entryT true L kLow [fmB a, fmB c] = .ok { L with lower := putB L.lower a c } := by
  have h1 : (kLow == kLoc) = false := by decide
  have h2 : kLow ≠ kLoc := by decide
  have h3 : kLow ≠ kWei := by decide
  unfold entryT
  rw [h1, if_neg (by decide), if_neg h2, if_neg h3, if_pos rfl]
  simp only
  unfold lowT tabT
  rw [numT_fm a 255 (by omega) (by decide), numT_fm c 255 (by omega) (by decide)]
theorem lines_low (t u : List UInt8) (ht : t.length = 256) (hu : u.length = 256) (n : Nat) (L : PL) (hL : L.lower = u) : ∀ k, k ≤ 256 → linesT n (forLines kLow t u k) (true, L) = .ok (true, { L with lower := t.take k ++ u.drop k })
  | 0, _ => by
    have e : forLines kLow t u 0 = [] := rfl
    rw [e, List.take_zero, List.drop_zero, List.nil_append, ← hL]
    simp only [linesT]
  | k + 1, hk => by
    have ih := lines_low t u ht hu n L hL k (by omega)
    rw [forLines_succ]
    by_cases h : t.getD k 0 = u.getD k 0
    · rw [if_pos h, same_next t u ht hu k (by omega) h]; exact ih
    · rw [if_neg h, linesT_end n _ _ _ _ ih]
      unfold forLine
      rw [lineT_jw _ _ kLow _ (by decide) (by decide) (by
        intro x hx
        simp only [List.mem_cons, List.not_mem_nil, or_false] at hx
        rcases hx with rfl | rfl | rfl
        · exact kws.2.2.1
        · exact fmB_wd _
        · exact fmB_wd _)]
      simp only
      rw [entry_low _ _ _ (by omega) (UInt8.toNat_lt _)]
      simp only
      rw [put_next t u ht hu k (by omega)]
theorem entry_up (L : PL) (a c : Nat) (ha : a < 256) (hc : c < 256) : entryT true L kUp [fmB a, fmB c] = .ok { L with upper := putB L.upper a c } := by
  have h1 : (kUp == kLoc) = false := by decide
  have h2 : kUp ≠ kLoc := by decide
  have h3 : kUp ≠ kWei := by decide
  unfold entryT
  rw [h1, if_neg (by decide), if_neg h2, if_neg h3, if_neg (show kUp ≠ kLow by decide), if_pos rfl]
  simp only
  unfold upT tabT
  rw [numT_fm a 255 (by omega) (by decide), numT_fm c 255 (by omega) (by decide)]
theorem lines_up (t u : List UInt8) (ht : t.length = 256) (hu : u.length = 256) (n : Nat) (L : PL) (hL : L.upper = u) : ∀ k, k ≤ 256 → linesT n (forLines kUp t u k) (true, L) = .ok (true, { L with upper := t.take k ++ u.drop k })
  | 0, _ => by
    have e : forLines kUp t u 0 = [] := rfl
    rw [e, List.take_zero, List.drop_zero, List.nil_append, ← hL]
    simp only [linesT]
  | k + 1, hk => by
    have ih := lines_up t u ht hu n L hL k (by omega)
    rw [forLines_succ]
    by_cases h : t.getD k 0 = u.getD k 0
    · rw [if_pos h, same_next t u ht hu k (by omega) h]; exact ih
    · rw [if_neg h, linesT_end n _ _ _ _ ih]
      unfold forLine
      rw [lineT_jw _ _ kUp _ (by decide) (by decide) (by
        intro x hx
        simp only [List.mem_cons, List.not_mem_nil, or_false] at hx
        rcases hx with rfl | rfl | rfl
        · exact kws.2.2.2.1
        · exact fmB_wd _
        · exact fmB_wd _)]
      simp only
      rw [entry_up _ _ _ (by omega) (UInt8.toNat_lt _)]
      simp only
      rw [put_next t u ht hu k (by omega)]
end Go.Proofs.YtblaldcioneooaaGreatDoor
/- Reading a canonical text: classes and elements, in mathematics. -/
set_option linter.unusedVariables false
namespace Go.Proofs.YtblaldcioneooaaGreatDoor
open Go.RowKit

/-! ### Ranges -/
theorem index_no (a : List UInt8) (h : ∀ x ∈ a, x ≠ 45) : Lib.indexByte a 45 = -1 := by
  induction a with
  | nil => rfl
  | cons x a ih =>
    unfold Lib.indexByte
    rw [ih (fun y hy => h y (by simp [hy]))]
    have : (x == 45) = false := by simpa using h x (by simp)
    rw [this]; rfl
theorem index_pre (a b : List UInt8) (h : ∀ x ∈ a, x ≠ 45) : Lib.indexByte (a ++ 45 :: b) 45 = (a.length : Int) := by
  induction a with
  | nil => unfold Lib.indexByte; simp
  | cons x a ih =>
    rw [List.cons_append]
    unfold Lib.indexByte
    rw [ih (fun y hy => h y (by simp [hy]))]
    have : (x == 45) = false := by simpa using h x (by simp)
    rw [this]
    have h2 : ((a.length : Int) == -1) = false := by
      apply beq_false_of_ne; omega
    rw [h2]
    simp
theorem span_one (a : Nat) (ha : a < 256) : spanT (fmB a) = .ok (a, a) := by
  unfold spanT
  rw [if_pos (index_no _ fun x hx => (digit_sp x (fmB_digits a x (List.mem_of_mem_drop hx))).2.2.1), numT_fm a 255 (by omega) (by decide)]
theorem span_two (a b : Nat) (hab : a ≤ b) (hb : b < 256) : spanT (fmB a ++ [45] ++ fmB b) = .ok (a, b) := by
  obtain ⟨x, r, hx⟩ := List.exists_cons_of_ne_nil (fmB_ne a)
  have hr : ∀ y ∈ r, y ≠ 45 := fun y hy => (digit_sp y (fmB_digits a y (by rw [hx]; simp [hy]))).2.2.1
  have h1 : (fmB a ++ [45] ++ fmB b).drop 1 = r ++ 45 :: fmB b := by rw [hx]; simp
  have h2 : Lib.indexByte ((fmB a ++ [45] ++ fmB b).drop 1) 45 = (r.length : Int) := by rw [h1]; exact index_pre r _ hr
  unfold spanT
  rw [h2, if_neg (by omega)]
  have h3 : (fmB a ++ [45] ++ fmB b).take (((r.length : Int)).toNat + 1) = fmB a := by
    rw [hx, Int.toNat_natCast, List.append_assoc]
    have : r.length + 1 = (x :: r).length := rfl
    rw [this, List.take_left]
  have h4 : (fmB a ++ [45] ++ fmB b).drop (((r.length : Int)).toNat + 2) = fmB b := by
    rw [hx, Int.toNat_natCast]
    have : r.length + 2 = (x :: r ++ [45]).length := by simp
    rw [this, List.drop_left]
  rw [h3, h4, numT_fm a 255 (by omega) (by decide), numT_fm b 255 (by omega) (by decide)]
  simp only
  rw [if_pos hab]
def Asc (l : List UInt8) : Prop := l.Pairwise fun a b => a.toNat < b.toNat
theorem run_at : ∀ (l : List UInt8), Asc l → ∀ i, i < succL l → ∀ (h : i < l.length), (l[i]'h).toNat = (l.headD 0).toNat + i
  | [], _, i, hi, h => by cases h
  | [a], _, i, hi, h => by
    have : i = 0 := by simpa using h
    subst this; rfl
  | a :: b :: r, hA, i, hi, h => by
    unfold succL at hi
    split at hi
    · rename_i hb
      cases i with
      | zero => rfl
      | succ i =>
        have hA2 := List.pairwise_cons.1 hA
        have hab := hA2.1 b (by simp)
        have hlt := UInt8.toNat_lt b
        have e : b.toNat = a.toNat + 1 := by
          rw [hb, UInt8.toNat_add]
          have : (1 : UInt8).toNat = 1 := rfl
          rw [this]
          omega
        have := run_at (b :: r) hA2.2 i (by omega) (by simpa using h)
        simp only [List.getElem_cons_succ, List.headD_cons] at this ⊢
        omega
    · have : i = 0 := by omega
      subst this; rfl
theorem take_any (l : List UInt8) (hA : Asc l) (hl : l ≠ []) (c : Nat) : ((l.take (succL l)).any fun x => x.toNat == c) = between (l.headD 0).toNat ((l.headD 0).toNat + (succL l - 1)) c := by
  have hp := succL_pos l (List.length_pos_iff.2 hl)
  rw [Bool.eq_iff_iff, List.any_eq_true]
  unfold between
  simp only [Bool.and_eq_true, decide_eq_true_eq]
  constructor
  · rintro ⟨x, hx, he⟩
    obtain ⟨i, hi, rfl⟩ := List.getElem_of_mem hx
    rw [List.length_take] at hi
    have h1 := run_at l hA i (by omega) (by omega)
    rw [List.getElem_take] at he
    have h2 : (l[i]'(by omega)).toNat = c := by simpa using he
    omega
  · rintro ⟨h1, h2⟩
    have hi : c - (l.headD 0).toNat < succL l := by omega
    have h3 := run_at l hA (c - (l.headD 0).toNat) hi (by omega)
    refine ⟨l[c - (l.headD 0).toNat]'(by omega), ?_, ?_⟩
    · rw [List.mem_iff_getElem]
      exact ⟨c - (l.headD 0).toNat, by rw [List.length_take]; omega, by rw [List.getElem_take]⟩
    · rw [h3]; exact beq_iff_eq.2 (by omega)
theorem span_rg (l : List UInt8) (hA : Asc l) (hl : l ≠ []) : spanT (rgOne l) = .ok ((l.headD 0).toNat, (l.headD 0).toNat + (succL l - 1)) := by
  have hp := succL_pos l (List.length_pos_iff.2 hl)
  unfold rgOne
  by_cases h : succL l = 1
  · rw [if_pos h, span_one _ (UInt8.toNat_lt _), h]
    rfl
  · rw [if_neg h]
    have h1 := run_at l hA (succL l - 1) (by omega) (by omega)
    have e : l.getD (succL l - 1) 0 = l[succL l - 1]'(by omega) := by rw [List.getD_eq_getElem?_getD, List.getElem?_eq_getElem (by omega)]; rfl
    rw [e, h1, span_two _ _ (by omega) (by rw [← h1]; exact UInt8.toNat_lt _)]
theorem setT_rg : ∀ (m : Nat) (l : List UInt8), l.length ≤ m → Asc l → ∀ q, setT (rgT l) q = .ok fun c => q c || l.any fun x => x.toNat == c
  | 0, l, hm, _, q => by
    have : l = [] := List.eq_nil_of_length_eq_zero (by omega)
    subst this
    rw [rgT_nil]
    simp [setT]
  | m + 1, l, hm, hA, q => by
    by_cases hl : l = []
    · subst hl
      rw [rgT_nil]
      simp [setT]
    · have hp := succL_pos l (List.length_pos_iff.2 hl)
      rw [rgT_cons l hl]
      simp only [setT]
      rw [span_rg l hA hl]
      simp only
      rw [setT_rg m (l.drop (succL l)) (by rw [List.length_drop]; omega) (List.Pairwise.sublist (List.drop_sublist _ _) hA)]
      congr 1
      funext c
      rw [← take_any l hA hl c, Bool.or_assoc, ← List.any_append, List.take_append_drop]
theorem el_asc (p : Nat → Bool) : Asc (bl (el p 256)) := by
  unfold Asc bl
  rw [List.pairwise_map]
  have h : (el p 256).Pairwise (· < ·) := List.Pairwise.sublist List.filter_sublist List.pairwise_lt_range
  refine (List.Pairwise.imp_of_mem ?_ h)
  intro a b ha hb hab
  have h1 := el_lt p 256 a ha
  have h2 := el_lt p 256 b hb
  rw [UInt8.toNat_ofNat', UInt8.toNat_ofNat']
  omega
theorem el_any (p : Nat → Bool) (c : Nat) : ((bl (el p 256)).any fun x => x.toNat == c) = (decide (c < 256) && p c) := by
  rw [Bool.eq_iff_iff, List.any_eq_true]
  simp only [Bool.and_eq_true, decide_eq_true_eq]
  constructor
  · rintro ⟨x, hx, he⟩
    unfold bl at hx
    obtain ⟨y, hy, rfl⟩ := List.mem_map.1 hx
    have h1 := (mem_el p 256 y).1 hy
    have h2 : (UInt8.ofNat y).toNat = c := by simpa using he
    rw [UInt8.toNat_ofNat', Nat.mod_eq_of_lt h1.1] at h2
    subst h2; exact h1
  · rintro ⟨h1, h2⟩
    refine ⟨UInt8.ofNat c, ?_, ?_⟩
    · unfold bl
      exact List.mem_map.2 ⟨c, (mem_el p 256 c).2 ⟨h1, h2⟩, rfl⟩
    · rw [UInt8.toNat_ofNat', Nat.mod_eq_of_lt h1]; simp
/-- A set of bytes, and nothing else. -/
def normC (c : List UInt8 × (Nat → Bool)) : List UInt8 × (Nat → Bool) := (c.1, fun x => decide (x < 256) && c.2 x)
theorem setT_cls (p : Nat → Bool) : setT (clsRg p) (fun _ => false) = .ok fun x => decide (x < 256) && p x := by
  unfold clsRg
  rw [setT_rg _ _ (Nat.le_refl _) (el_asc p)]
  congr 1
  funext c
  rw [el_any, Bool.false_or]
/-! ### Classes -/
theorem rgOne_wd (l : List UInt8) : Wd (rgOne l) := by
  unfold rgOne
  split
  · exact fmB_wd _
  · have h1 := fmB_wd (l.headD 0).toNat
    have h2 := fmB_wd (l.getD (succL l - 1) 0).toNat
    refine ⟨?_, by simp⟩
    have a := h1.1
    have b := h2.1
    unfold no at a b ⊢
    rw [List.all_append, List.all_append, a, b]
    rfl
theorem rgT_wd : ∀ (m : Nat) (l : List UInt8), l.length ≤ m → ∀ x ∈ rgT l, Wd x
  | 0, l, hm, x, hx => by
    have : l = [] := List.eq_nil_of_length_eq_zero (by omega)
    subst this
    rw [rgT_nil] at hx; cases hx
  | m + 1, l, hm, x, hx => by
    by_cases hl : l = []
    · subst hl
      rw [rgT_nil] at hx; cases hx
    · have hp := succL_pos l (List.length_pos_iff.2 hl)
      rw [rgT_cons l hl] at hx
      rcases List.mem_cons.1 hx with rfl | hx
      · exact rgOne_wd l
      · exact rgT_wd m (l.drop (succL l)) (by rw [List.length_drop]; omega) x hx
theorem clsRg_wd (p : Nat → Bool) : ∀ x ∈ clsRg p, Wd x := fun x hx => rgT_wd _ _ (Nat.le_refl _) x hx
theorem line_cls (n : Nat) (L : PL) (c : List UInt8 × (Nat → Bool)) (hn : nmL c.1 = true) (hd : c.1 ∉ L.cls.map (·.1)) (hl : L.cls.length < 24) : lineT n (true, L) (clsLine c) = .ok (true, { L with cls := L.cls ++ [normC c] }) := by
  have h1 : (kCls == kLoc) = false := by decide
  have h2 : kCls ≠ kLoc := by decide
  have h3 : kCls ≠ kWei := by decide
  have h4 : kCls ≠ kLow := by decide
  have h5 : kCls ≠ kUp := by decide
  unfold clsLine
  rw [lineT_jw n (true, L) kCls _ (by decide) (by decide) (by
    intro x hx
    rcases List.mem_cons.1 hx with rfl | hx
    · exact kws.2.2.2.2.1
    · rcases List.mem_cons.1 hx with rfl | hx
      · exact nm_wd hn
      · exact clsRg_wd _ x hx)]
  simp only
  unfold entryT
  rw [h1, if_neg (by decide), if_neg h2, if_neg h3, if_neg h4, if_neg h5, if_pos rfl]
  simp only
  unfold classT
  have h6 : (L.cls.any fun d => d.1 == c.1) = false := by
    rw [List.any_eq_false]
    intro d hd2 he
    exact hd (List.mem_map.2 ⟨d, hd2, by simpa using he⟩)
  rw [hn, if_neg (by decide), h6, if_neg (by decide), if_neg (by omega), setT_cls]
  rfl
theorem lines_cls : ∀ (cs : List (List UInt8 × (Nat → Bool))) (n : Nat) (L : PL), (∀ c ∈ cs, nmL c.1 = true) → (L.cls.map (·.1) ++ cs.map (·.1)).Nodup → L.cls.length + cs.length ≤ 24 →
    linesT n (cs.map clsLine) (true, L) = .ok (true, { L with cls := L.cls ++ cs.map normC })
  | [], n, L, _, _, _ => by simp [linesT]
  | c :: cs, n, L, hn, hd, hl => by
    simp only [List.map_cons, linesT]
    have hd2 : c.1 ∉ L.cls.map (·.1) := by
      intro h
      rw [List.map_cons, List.nodup_append] at hd
      exact hd.2.2 c.1 h c.1 (by simp) rfl
    rw [line_cls n L c (hn c (by simp)) hd2 (by simp at hl; omega)]
    simp only
    rw [lines_cls cs (n + 1) _ (fun x hx => hn x (by simp [hx])) (by
      have e : (normC c).1 = c.1 := rfl
      simp only [List.map_append, List.map_cons, List.map_nil, e, List.append_assoc, List.singleton_append]
      exact hd) (by simp at hl ⊢; omega)]
    simp only [List.append_assoc, List.singleton_append]
/-! ### Elements -/
theorem line_elm (n : Nat) (L : PL) (c : List UInt8 × Int) (h2 : c.1.length = 2) (hv : 0 ≤ c.2 ∧ c.2 ≤ 65535) (hd : c.1 ∉ L.els.map (·.1)) (hl : L.els.length < 64) : lineT n (true, L) (elmLine c) = .ok (true, { L with els := L.els ++ [c] }) := by
  obtain ⟨t, v⟩ := c
  simp only at h2 hv hd ⊢
  match t, h2 with
  | [a, b], _ =>
  have h1 : (kElm == kLoc) = false := by decide
  have g2 : kElm ≠ kLoc := by decide
  have g3 : kElm ≠ kWei := by decide
  have g4 : kElm ≠ kLow := by decide
  have g5 : kElm ≠ kUp := by decide
  have g6 : kElm ≠ kCls := by decide
  unfold elmLine
  rw [lineT_jw n (true, L) kElm _ (by decide) (by decide) (by
    intro x hx
    simp only [List.mem_cons, List.not_mem_nil, or_false] at hx
    rcases hx with rfl | rfl | rfl | rfl
    · exact kws.2.2.2.2.2
    · exact fmB_wd _
    · exact fmB_wd _
    · exact fmB_wd _)]
  simp only
  unfold entryT
  rw [h1, if_neg (by decide), if_neg g2, if_neg g3, if_neg g4, if_neg g5, if_neg g6, if_pos rfl]
  simp only
  unfold elemT
  have ha := UInt8.toNat_lt a
  have hb := UInt8.toNat_lt b
  have e0 : (([a, b] : List UInt8).getD 0 0).toNat = a.toNat := rfl
  have e1 : (([a, b] : List UInt8).getD 1 0).toNat = b.toNat := rfl
  have e2 : pairT a.toNat b.toNat = [a, b] := by unfold pairT; rw [UInt8.ofNat_toNat, UInt8.ofNat_toNat]
  rw [e0, e1, numT_fm _ 255 (by omega) (by decide), numT_fm _ 255 (by omega) (by decide), numT_fm v.toNat 65535 (by omega) (by decide)]
  simp only
  rw [e2]
  have h6 : (L.els.any fun d => d.1 == [a, b]) = false := by
    rw [List.any_eq_false]
    intro d hd2 he
    exact hd (List.mem_map.2 ⟨d, hd2, by simpa using he⟩)
  have e3 : ((v.toNat : Nat) : Int) = v := by omega
  rw [h6, if_neg (by decide), if_neg (by omega), e3]
theorem lines_elm : ∀ (cs : List (List UInt8 × Int)) (n : Nat) (L : PL), (∀ c ∈ cs, c.1.length = 2 ∧ 0 ≤ c.2 ∧ c.2 ≤ 65535) → (L.els.map (·.1) ++ cs.map (·.1)).Nodup → L.els.length + cs.length ≤ 64 →
    linesT n (cs.map elmLine) (true, L) = .ok (true, { L with els := L.els ++ cs })
  | [], n, L, _, _, _ => by simp [linesT]
  | c :: cs, n, L, hn, hd, hl => by
    simp only [List.map_cons, linesT]
    have hd2 : c.1 ∉ L.els.map (·.1) := by
      intro h
      rw [List.map_cons, List.nodup_append] at hd
      exact hd.2.2 c.1 h c.1 (by simp) rfl
    have h0 := hn c (by simp)
    rw [line_elm n L c h0.1 h0.2 hd2 (by simp at hl; omega)]
    simp only
    rw [lines_elm cs (n + 1) _ (fun x hx => hn x (by simp [hx])) (by
      simp only [List.map_append, List.map_cons, List.map_nil, List.append_assoc, List.singleton_append]
      exact hd) (by simp at hl ⊢; omega)]
    simp only [List.append_assoc, List.singleton_append]
end Go.Proofs.YtblaldcioneooaaGreatDoor
/- A canonical text is short, and is read as its locale: in mathematics. -/
set_option linter.unusedVariables false
namespace Go.Proofs.YtblaldcioneooaaGreatDoor
open Go.RowKit

/-- A locale that is valid, in the words of a text. -/
structure VP (P : PL) : Prop where
  make ::
  nm : nmL P.name = true
  wt : ∀ j, j < 256 → 0 ≤ P.wt j ∧ P.wt j ≤ 65535
  lo : P.lower.length = 256
  up : P.upper.length = 256
  cn : ∀ c ∈ P.cls, nmL c.1 = true
  cd : (P.cls.map (·.1)).Nodup
  cl : P.cls.length ≤ 24
  et : ∀ c ∈ P.els, c.1.length = 2 ∧ 0 ≤ c.2 ∧ c.2 ≤ 65535
  ed : (P.els.map (·.1)).Nodup
  le : P.els.length ≤ 64
/-- The locale that is read. -/
def normP (P : PL) : PL := { P with wt := fun j => if j < 256 then P.wt j else (j : Int), cls := P.cls.map normC }

/-! ### Reading -/
theorem line_loc (n : Nat) (x : List UInt8) (h : nmL x = true) : lineT n (false, PLdef) (jw [kLoc, x]) = .ok (true, { PLdef with name := x }) := by
  rw [lineT_jw n (false, PLdef) kLoc _ (by decide) (by decide) (by
    intro y hy
    simp only [List.mem_cons, List.not_mem_nil, or_false] at hy
    rcases hy with rfl | rfl
    · exact kws.1
    · exact nm_wd h)]
  simp only
  unfold entryT
  rw [if_neg (by decide), if_pos rfl]
  simp only
  unfold beginT
  rw [h, if_neg (by decide)]
theorem lines_fmt (P : PL) (h : VP P) : linesT 1 (fmtLines P) (false, PLdef) = .ok (true, normP P) := by
  unfold fmtLines headLines
  have hl := lowL_len 256
  have hu := upL_len 256
  rw [linesT_app, linesT_app, linesT_app, linesT_app, linesT_app]
  simp only [linesT]
  rw [line_loc 1 P.name h.nm]
  simp only
  unfold weiLines
  rw [lines_wei P.wt h.wt (ordT P.wt 256) (fun v hv => hv)]
  simp only
  rw [lines_low P.lower (lowL 256) h.lo hl _ _ rfl 256 (Nat.le_refl _)]
  simp only
  rw [lines_up P.upper (upL 256) h.up hu _ _ rfl 256 (Nat.le_refl _)]
  simp only
  rw [lines_cls P.cls _ _ h.cn (by
    have e : (PLdef.cls.map (·.1) ++ P.cls.map (·.1)) = P.cls.map (·.1) := rfl
    rw [e]; exact h.cd) (by
    have e : PLdef.cls.length = 0 := rfl
    rw [e]; have := h.cl; omega)]
  simp only
  rw [lines_elm P.els _ _ h.et (by
    have e : (PLdef.els.map (·.1) ++ P.els.map (·.1)) = P.els.map (·.1) := rfl
    rw [e]; exact h.ed) (by
    have e : PLdef.els.length = 0 := rfl
    rw [e]; have := h.le; omega)]
  have e1 : P.lower.take 256 ++ (lowL 256).drop 256 = P.lower := by
    rw [List.take_of_length_le (by rw [h.lo]; exact Nat.le_refl _), List.drop_of_length_le (by rw [hl]; exact Nat.le_refl _), List.append_nil]
  have e2 : P.upper.take 256 ++ (upL 256).drop 256 = P.upper := by
    rw [List.take_of_length_le (by rw [h.up]; exact Nat.le_refl _), List.drop_of_length_le (by rw [hu]; exact Nat.le_refl _), List.append_nil]
  have e3 : (fun j => if ((ordT P.wt 256).any fun v => (grpT P.wt v 256).contains j) = true then P.wt j else PLdef.wt j) = fun j => if j < 256 then P.wt j else (j : Int) := funext fun j => wt_all P.wt j
  rw [e1, e2, e3]
  rfl
theorem plain_fmt (P : PL) (h : VP P) : ∀ x ∈ fmtLines P, no isL x = true := by
  intro x hx
  unfold fmtLines headLines at hx
  simp only [List.mem_append, List.mem_singleton, List.mem_map] at hx
  rcases hx with ((((hx | hx) | hx) | hx) | ⟨c, hc, rfl⟩) | ⟨c, hc, rfl⟩
  · subst hx
    refine jw_line _ fun y hy => ?_
    simp only [List.mem_cons, List.not_mem_nil, or_false] at hy
    rcases hy with rfl | rfl
    · exact kws.1
    · exact nm_wd h.nm
  · unfold weiLines at hx
    obtain ⟨v, _, rfl⟩ := List.mem_map.1 hx
    unfold weiLine
    refine jw_line _ fun y hy => ?_
    rcases List.mem_cons.1 hy with rfl | hy
    · exact kws.2.1
    · rcases List.mem_append.1 hy with hy | hy
      · exact map_wd _ y hy
      · simp at hy; subst hy; exact fmB_wd _
  · unfold forLines at hx
    obtain ⟨v, _, rfl⟩ := List.mem_map.1 hx
    unfold forLine
    refine jw_line _ fun y hy => ?_
    simp only [List.mem_cons, List.not_mem_nil, or_false] at hy
    rcases hy with rfl | rfl | rfl
    · exact kws.2.2.1
    · exact fmB_wd _
    · exact fmB_wd _
  · unfold forLines at hx
    obtain ⟨v, _, rfl⟩ := List.mem_map.1 hx
    unfold forLine
    refine jw_line _ fun y hy => ?_
    simp only [List.mem_cons, List.not_mem_nil, or_false] at hy
    rcases hy with rfl | rfl | rfl
    · exact kws.2.2.2.1
    · exact fmB_wd _
    · exact fmB_wd _
  · unfold clsLine
    refine jw_line _ fun y hy => ?_
    rcases List.mem_cons.1 hy with rfl | hy
    · exact kws.2.2.2.2.1
    · rcases List.mem_cons.1 hy with rfl | hy
      · exact nm_wd (h.cn c hc)
      · exact clsRg_wd _ y hy
  · unfold elmLine
    refine jw_line _ fun y hy => ?_
    simp only [List.mem_cons, List.not_mem_nil, or_false] at hy
    rcases hy with rfl | rfl | rfl | rfl
    · exact kws.2.2.2.2.2
    · exact fmB_wd _
    · exact fmB_wd _
    · exact fmB_wd _
/-! ### Length -/
def cost (ls : List (List UInt8)) : Nat := (ls.map (·.length)).sum + ls.length
theorem cost_app (a b : List (List UInt8)) : cost (a ++ b) = cost a + cost b := by
  unfold cost
  rw [List.map_append, List.sum_append, List.length_append]
  omega
theorem cost_cons (x : List UInt8) (b : List (List UInt8)) : cost (x :: b) = x.length + 1 + cost b := by
  unfold cost
  rw [List.map_cons, List.sum_cons, List.length_cons]
  omega
theorem cost_le (ls : List (List UInt8)) (b : Nat) (h : ∀ x ∈ ls, x.length + 1 ≤ b) : cost ls ≤ b * ls.length := by
  induction ls with
  | nil => exact Nat.zero_le _
  | cons x r ih =>
    rw [cost_cons, List.length_cons, Nat.mul_add, Nat.mul_one]
    have h1 := h x (by simp)
    have h2 := ih (fun y hy => h y (by simp [hy]))
    omega
theorem jw_cost (ws : List (List UInt8)) : (jw ws).length ≤ cost ws := jw_len ws
theorem sum_bump (X : Int) (g : Int → Nat) : ∀ (l : List Int), l.Nodup → (l.map fun v => g v + if v = X then 1 else 0).sum ≤ (l.map g).sum + 1
  | [], _ => by simp
  | v :: l, h => by
    have h2 := List.nodup_cons.1 h
    simp only [List.map_cons, List.sum_cons]
    by_cases hv : v = X
    · subst hv
      have e : (l.map fun x => g x + if x = v then 1 else 0) = l.map g := List.map_congr_left fun x hx => by
        have hne : ¬ x = v := fun e => h2.1 (by rw [← e]; exact hx)
        simp only [if_neg hne, Nat.add_zero]
      rw [e, if_pos rfl]; omega
    · have := sum_bump X g l h2.2
      rw [if_neg hv]; omega
theorem grp_sum (f : Nat → Int) : ∀ k, ((ordT f k).map fun v => (grpT f v k).length).sum ≤ k
  | 0 => by simp [ordT]
  | k + 1 => by
    have ih := grp_sum f k
    have hq : ordT f (k + 1) = if f k = (k : Int) then ordT f k else if grpT f (f k) k = [] then ordT f k ++ [f k] else ordT f k := rfl
    have hg : (fun v => (grpT f v (k + 1)).length) = fun v => (grpT f v k).length + if f k ≠ (k : Int) ∧ f k = v then 1 else 0 := by
      funext v
      rw [grpT_succ]
      by_cases h : f k ≠ (k : Int) ∧ f k = v
      · rw [if_pos h, if_pos h, List.length_append]; rfl
      · rw [if_neg h, if_neg h]; rfl
    rw [hg, hq]
    by_cases h1 : f k = (k : Int)
    · rw [if_pos h1]
      have e : ((ordT f k).map fun v => (grpT f v k).length + if f k ≠ (k : Int) ∧ f k = v then 1 else 0) = (ordT f k).map fun v => (grpT f v k).length := List.map_congr_left fun v _ => by
        rw [if_neg (fun h => h.1 h1)]; rfl
      rw [e]; omega
    · have e0 : ∀ v, (if f k ≠ (k : Int) ∧ f k = v then 1 else 0) = if v = f k then 1 else 0 := fun v => by
        by_cases h : v = f k
        · rw [if_pos h, if_pos ⟨h1, h.symm⟩]
        · rw [if_neg h, if_neg (fun e => h e.2.symm)]
      simp only [e0]
      have hb := sum_bump (f k) (fun v => (grpT f v k).length) (ordT f k) (ordT_nodup f k)
      rw [if_neg h1]
      by_cases h3 : grpT f (f k) k = []
      · rw [if_pos h3, List.map_append, List.sum_append]
        have hn : f k ∉ ordT f k := fun h => (ordT_mem f _ k).1 h h3
        have e : ((ordT f k).map fun v => (grpT f v k).length + if v = f k then 1 else 0) = (ordT f k).map fun v => (grpT f v k).length := List.map_congr_left fun v hv => by
          have hne : ¬ v = f k := fun e => hn (by rw [← e]; exact hv)
          simp only [if_neg hne, Nat.add_zero]
        rw [e]
        simp [h3]
        omega
      · rw [if_neg h3]
        omega
theorem fm_cost (l : List Nat) (h : ∀ c ∈ l, c < 256) : cost (l.map fmB) ≤ 4 * l.length := by
  have := cost_le (l.map fmB) 4 (fun x hx => by
    obtain ⟨c, hc, rfl⟩ := List.mem_map.1 hx
    have := fm3 c (h c hc); omega)
  rw [List.length_map] at this
  exact this
theorem cost_wei (f : Nat → Int) (hf : ∀ j, j < 256 → 0 ≤ f j ∧ f j ≤ 65535) : ∀ (vs : List Int), (∀ v ∈ vs, v ∈ ordT f 256) → cost (vs.map (weiLine f)) ≤ 14 * vs.length + 4 * (vs.map fun v => (grpT f v 256).length).sum
  | [], _ => by simp [cost]
  | v :: vs, h => by
    have ih := cost_wei f hf vs (fun x hx => h x (by simp [hx]))
    have hr : 0 ≤ v ∧ v ≤ 65535 := by
      obtain ⟨c, hc, e⟩ := ordT_of (h v (by simp))
      rw [← e]; exact hf c hc
    have h1 : (weiLine f v).length ≤ 13 + 4 * (grpT f v 256).length := by
      have h2 := jw_cost (kWei :: ((grpT f v 256).map fmB ++ [fmB v.toNat]))
      rw [cost_cons, cost_app, cost_cons] at h2
      have h3 := fm_cost (grpT f v 256) (fun c hc => (grpT_lt hc).1)
      have h4 := fm5 v.toNat (by omega)
      have h5 : kWei.length = 6 := rfl
      have h6 : cost [] = 0 := rfl
      unfold weiLine
      omega
    simp only [List.map_cons, cost_cons, List.length_cons, List.sum_cons]
    omega
theorem cost_for (kw t u : List UInt8) (hk : kw.length ≤ 5) (k : Nat) (hk2 : k ≤ 256) : cost (forLines kw t u k) ≤ 15 * k := by
  have h1 := forLines_len kw t u k
  refine Nat.le_trans (cost_le _ 15 fun x hx => ?_) (Nat.mul_le_mul_left _ h1)
  unfold forLines at hx
  obtain ⟨c, hc, rfl⟩ := List.mem_map.1 hx
  have hc2 := (List.mem_filter.1 hc).1
  have hck : c < k := by simpa using hc2
  unfold forLine
  have h2 := jw_cost [kw, fmB c, fmB (t.getD c 0).toNat]
  rw [cost_cons, cost_cons, cost_cons] at h2
  have h3 := fm3 c (by omega)
  have h4 := fm3 (t.getD c 0).toNat (UInt8.toNat_lt _)
  have h6 : cost [] = 0 := rfl
  omega
theorem rgOne_len (l : List UInt8) : (rgOne l).length ≤ 7 := by
  unfold rgOne
  have h1 := fm3 (l.headD 0).toNat (UInt8.toNat_lt _)
  have h2 := fm3 (l.getD (succL l - 1) 0).toNat (UInt8.toNat_lt _)
  split
  · omega
  · simp only [List.length_append, List.length_cons, List.length_nil]
    omega
theorem rgT_lens : ∀ (m : Nat) (l : List UInt8), l.length ≤ m → ∀ x ∈ rgT l, x.length ≤ 7
  | 0, l, hm, x, hx => by
    have : l = [] := List.eq_nil_of_length_eq_zero (by omega)
    subst this
    rw [rgT_nil] at hx; cases hx
  | m + 1, l, hm, x, hx => by
    by_cases hl : l = []
    · subst hl
      rw [rgT_nil] at hx; cases hx
    · have hp := succL_pos l (List.length_pos_iff.2 hl)
      rw [rgT_cons l hl] at hx
      rcases List.mem_cons.1 hx with rfl | hx
      · exact rgOne_len l
      · exact rgT_lens m (l.drop (succL l)) (by rw [List.length_drop]; omega) x hx
theorem clsRg_len (p : Nat → Bool) : (clsRg p).length ≤ 256 := by
  unfold clsRg
  refine Nat.le_trans (rgT_len _) ?_
  unfold bl
  rw [List.length_map]
  exact el_length_le p 256
theorem clsRg_cost (p : Nat → Bool) : cost (clsRg p) ≤ 2048 := by
  have h1 := cost_le (clsRg p) 8 (fun x hx => by
    have := rgT_lens _ _ (Nat.le_refl _) x hx; omega)
  have h2 := clsRg_len p
  omega
theorem clsLine_len (c : List UInt8 × (Nat → Bool)) (h : nmL c.1 = true) : (clsLine c).length ≤ 2087 := by
  have h1 := jw_cost (kCls :: c.1 :: clsRg c.2)
  rw [cost_cons, cost_cons] at h1
  have h2 := (nm_all h).2.1
  have h3 := clsRg_cost c.2
  have h5 : kCls.length = 5 := rfl
  unfold clsLine
  omega
theorem elmLine_len (c : List UInt8 × Int) (h : 0 ≤ c.2 ∧ c.2 ≤ 65535) : (elmLine c).length ≤ 22 := by
  have h1 := jw_cost (kElm :: [fmB (c.1.getD 0 0).toNat, fmB (c.1.getD 1 0).toNat, fmB c.2.toNat])
  rw [cost_cons, cost_cons, cost_cons, cost_cons] at h1
  have h2 := fm3 (c.1.getD 0 0).toNat (UInt8.toNat_lt _)
  have h3 := fm3 (c.1.getD 1 0).toNat (UInt8.toNat_lt _)
  have h4 := fm5 c.2.toNat (by omega)
  have h5 : kElm.length = 7 := rfl
  have h6 : cost [] = 0 := rfl
  unfold elmLine
  omega
theorem fmt_cost (P : PL) (h : VP P) : cost (fmtLines P) ≤ 63913 := by
  unfold fmtLines headLines
  rw [cost_app, cost_app, cost_app, cost_app, cost_app, cost_cons]
  have h0 := jw_cost [kLoc, P.name]
  rw [cost_cons, cost_cons] at h0
  have h1 := (nm_all h.nm).2.1
  have h2 := cost_wei P.wt h.wt (ordT P.wt 256) (fun v hv => hv)
  have h3 := grp_sum P.wt 256
  have h4 := ordT_len P.wt 256
  have h5 := cost_for kLow P.lower (lowL 256) (by decide) 256 (Nat.le_refl _)
  have h6 := cost_for kUp P.upper (upL 256) (by decide) 256 (Nat.le_refl _)
  have h7 := cost_le (P.cls.map clsLine) 2088 (fun x hx => by
    obtain ⟨c, hc, rfl⟩ := List.mem_map.1 hx
    have := clsLine_len c (h.cn c hc); omega)
  have h8 := cost_le (P.els.map elmLine) 23 (fun x hx => by
    obtain ⟨c, hc, rfl⟩ := List.mem_map.1 hx
    have := elmLine_len c (h.et c hc).2; omega)
  rw [List.length_map] at h7 h8
  have h9 := h.cl
  have h10 := h.le
  have h11 : cost [] = 0 := rfl
  have h12 : kLoc.length = 6 := rfl
  unfold weiLines
  omega
theorem fmtLines_ne (P : PL) : fmtLines P ≠ [] := by unfold fmtLines headLines; simp
theorem fmtL_len (P : PL) : (fmtL P).length = cost (fmtLines P) := by
  have := jn_size (fmtLines P) true (fmtLines_ne P)
  unfold fmtL cost
  simpa using this
/-- A canonical text is read as its locale. -/
theorem lin_fmt (P : PL) (h : VP P) : lin (fmtL P) = fmtLines P := by
  refine (lin_jn (fmtLines P) true ?_).1
  unfold plainL
  rw [Bool.and_eq_true, List.all_eq_true]
  exact ⟨plain_fmt P h, by simp⟩
theorem parse_fmtL (P : PL) (h : VP P) : parseT (fmtL P) = .ok (normP P) := by
  have hl := fmt_cost P h
  unfold parseT
  rw [fmtL_len, if_neg (by omega), lin_fmt P h, lines_fmt P h]
  rfl
end Go.Proofs.YtblaldcioneooaaGreatDoor
/- A locale in memory and in the words of a text; Format and Parse of valid locales. -/
set_option linter.unusedVariables false
set_option maxRecDepth 100000
namespace Go.Proofs.YtblaldcioneooaaGreatDoor
open Go.RowKit

theorem eqS_iff' (x y : ByteArray) : eqS x y = true ↔ x.data.toList = y.data.toList := by
  unfold eqS
  rw [ByteArray.toList_eq, ByteArray.toList_eq, beq_iff_eq]
theorem nodup_of (n : Nat) (c : Nat → ByteArray) (h : ∀ j, j < n → dup c j = false) : ((List.range n).map fun j => (c j).data.toList).Nodup := by
  induction n with
  | zero => simp
  | succ n ih =>
    rw [List.range_succ, List.map_append, List.nodup_append]
    refine ⟨ih fun j hj => h j (by omega), by simp, ?_⟩
    intro a ha b hb e
    obtain ⟨k, hk, rfl⟩ := List.mem_map.1 ha
    simp at hb
    subst hb
    have h1 := h n (by omega)
    unfold dup at h1
    rw [List.any_eq_false] at h1
    exact h1 k hk ((eqS_iff' _ _).2 e)
theorem dup_of (n : Nat) (c : Nat → ByteArray) (h : ((List.range n).map fun j => (c j).data.toList).Nodup) : ∀ j, j < n → dup c j = false := by
  intro j hj
  unfold dup
  rw [List.any_eq_false]
  intro k hk he
  have hkj : k < j := by simpa using hk
  have e := (eqS_iff' _ _).1 he
  have h1 : ((List.range n).map fun j => (c j).data.toList)[k]? = ((List.range n).map fun j => (c j).data.toList)[j]? := by
    rw [List.getElem?_map, List.getElem?_map, List.getElem?_range (by omega), List.getElem?_range hj]
    simp only [Option.map_some, e]
  have := (List.getElem?_inj (i := k) (j := j) (by simp; omega) h).1 h1
  omega
theorem VL.vp {L : Loc} (h : VL L) : VP (ofLoc L) := by
  refine ⟨h.nm, h.wt, ?_, ?_, ?_, ?_, ?_, ?_, ?_, ?_⟩
  · show L.lower.data.toList.length = 256
    rw [size_len]; exact h.lo
  · show L.upper.data.toList.length = 256
    rw [size_len]; exact h.up
  · intro c hc
    obtain ⟨j, hj, rfl⟩ := List.mem_map.1 hc
    exact (h.cn j (by simpa using hj)).1
  · show (((List.range L.nc).map fun j => ((L.cn j).data.toList, L.cset j)).map (·.1)).Nodup
    rw [List.map_map]
    exact nodup_of L.nc L.cn fun j hj => (h.cn j hj).2
  · show ((List.range L.nc).map fun j => ((L.cn j).data.toList, L.cset j)).length ≤ 24
    rw [List.length_map, List.length_range]; exact h.nc
  · intro c hc
    obtain ⟨j, hj, rfl⟩ := List.mem_map.1 hc
    have := h.et j (by simpa using hj)
    exact ⟨by rw [size_len]; exact this.1, this.2.1, this.2.2.1⟩
  · show (((List.range L.ne).map fun j => ((L.et j).data.toList, L.ew j)).map (·.1)).Nodup
    rw [List.map_map]
    exact nodup_of L.ne L.et fun j hj => (h.et j hj).2.2.2
  · show ((List.range L.ne).map fun j => ((L.et j).data.toList, L.ew j)).length ≤ 64
    rw [List.length_map, List.length_range]; exact h.ne
theorem VP.vl {P : PL} (h : VP P) : VL (toLoc 256 P) := by
  have hcn : ∀ j (hj : j < P.cls.length), clN P j = (P.cls[j]).1 := fun j hj => by unfold clN; rw [List.getElem?_eq_getElem hj]; rfl
  have het : ∀ j (hj : j < P.els.length), elT P j = (P.els[j]).1 := fun j hj => by unfold elT; rw [List.getElem?_eq_getElem hj]; rfl
  have hew : ∀ j (hj : j < P.els.length), elW P j = (P.els[j]).2 := fun j hj => by unfold elW; rw [List.getElem?_eq_getElem hj]; rfl
  have e1 : ((List.range P.cls.length).map fun j => (mk (clN P j)).data.toList) = P.cls.map (·.1) := by
    apply List.ext_getElem
    · simp
    · intro i h1 h2
      simp only [List.getElem_map, List.getElem_range]
      exact hcn i (by simpa using h2)
  have e2 : ((List.range P.els.length).map fun j => (mk (elT P j)).data.toList) = P.els.map (·.1) := by
    apply List.ext_getElem
    · simp
    · intro i h1 h2
      simp only [List.getElem_map, List.getElem_range]
      exact het i (by simpa using h2)
  have d1 := dup_of P.cls.length (fun j => mk (clN P j)) (by rw [e1]; exact h.cd)
  have d2 := dup_of P.els.length (fun j => mk (elT P j)) (by rw [e2]; exact h.ed)
  refine ⟨h.nm, rfl, h.wt, h.lo, h.up, h.cl, fun j hj => ⟨?_, d1 j hj⟩, h.le, fun j hj => ?_⟩
  · show nmL (clN P j) = true
    rw [hcn j hj]
    exact h.cn _ (List.getElem_mem hj)
  · have := h.et _ (List.getElem_mem hj)
    refine ⟨?_, ?_, ?_, d2 j hj⟩
    · show (elT P j).length = 2
      rw [het j hj]; exact this.1
    · show 0 ≤ elW P j
      rw [hew j hj]; exact this.2.1
    · show elW P j ≤ 65535
      rw [hew j hj]; exact this.2.2
theorem SL.cong {k n : Nat} {f g : Nat → Nat → Value} {w : World} {v : Value} (h : SL k n f w v) (hfg : ∀ j i, j < n → i < k → f j i = g j i) : SL k n g w v := by
  obtain ⟨a, c, e, hc, hr⟩ := h
  refine ⟨a, c, e, hc, ?_⟩
  rcases hr with hr | ⟨b, o, ha, hb, hx⟩
  · exact .inl hr
  · exact .inr ⟨b, o, ha, hb, fun j i hj hi => by rw [hx j i hj hi, hfg j i hj hi]⟩
theorem norm_cells {L : Loc} (h : VL L) {w : World} {W C E : Value} (hM : LocM w (toLoc 256 (normP (ofLoc L))) W C E) : LocM w L W C E := by
  obtain ⟨h1, h2, h3⟩ := hM
  have hnc : (toLoc 256 (normP (ofLoc L))).nc = L.nc := by simp [toLoc, normP, ofLoc]
  have hne : (toLoc 256 (normP (ofLoc L))).ne = L.ne := by simp [toLoc, normP, ofLoc]
  rw [hnc] at h2
  rw [hne] at h3
  refine ⟨?_, h2.cong fun j i hj hi => ?_, h3.cong fun j i hj hi => ?_⟩
  · have h4 : SL 1 256 (wtF (toLoc 256 (normP (ofLoc L)))) w W := h1
    rw [h.nw]
    refine h4.cong fun j i hj _ => ?_
    show Value.int .i64 (if j < 256 then L.wt j else (j : Int)) = _
    rw [if_pos hj]; rfl
  · have hcl : (normP (ofLoc L)).cls[j]? = some ((L.cn j).data.toList, fun x => decide (x < 256) && L.cset j x) := by
      unfold normP ofLoc
      simp only [List.getElem?_map, List.getElem?_range hj, Option.map_some]
      rfl
    unfold clsF
    by_cases hi0 : i = 0
    · rw [if_pos hi0, if_pos hi0]
      show Value.string (mk (clN (normP (ofLoc L)) j)) = _
      unfold clN
      rw [hcl]; rfl
    · rw [if_neg hi0, if_neg hi0]
      show Value.int .u64 ((wd (clS (normP (ofLoc L)) j) (64 * (i - 1)) 64 : Nat) : Int) = _
      unfold clS
      rw [hcl]
      have hw : wd (fun x => decide (x < 256) && L.cset j x) (64 * (i - 1)) 64 = wd (L.cset j) (64 * (i - 1)) 64 := wd_congr _ _ _ _ fun k hk => by
        have h5 : 64 * (i - 1) + k < 256 := by omega
        rw [decide_eq_true h5, Bool.true_and]
      exact congrArg (fun n : Nat => Value.int .u64 (n : Int)) hw
  · have hel : (normP (ofLoc L)).els[j]? = some ((L.et j).data.toList, L.ew j) := by
      unfold normP ofLoc
      simp only [List.getElem?_map, List.getElem?_range hj, Option.map_some]
    unfold elmF
    by_cases hi0 : i = 0
    · rw [if_pos hi0, if_pos hi0]
      show Value.string (mk (elT (normP (ofLoc L)) j)) = _
      unfold elT
      rw [hel]; rfl
    · rw [if_neg hi0, if_neg hi0]
      show Value.int .i64 (elW (normP (ofLoc L)) j) = _
      unfold elW
      rw [hel]; rfl
theorem format_ok (L : Loc) (hv : VL L) (W C E : Value) (w : World) (hM : LocM w L W C E) (hT : tabAt w) :
    Calls Tryz.prog 9 #[.agg (lcl L W C E)] w fun e w' => e = .returned (.string (mk (fmtL (ofLoc L)))) ∧ Below w.heap.size w w' := by
  have hc := fmt_cost (ofLoc L) hv.vp
  refine format_any L hv ((VL.iff L).2 hv) (fun j hj => ?_) (fun j _ => clsRg_len _) ?_ W C E w hM hT
  · have h1 := clsRg_cost (L.cset j)
    have h2 := (nm_all (hv.cn j hj).1).2.1
    unfold cost at h1
    have h3 : kCls.length = 5 := rfl
    simp only [List.map_cons, List.sum_cons]
    omega
  · unfold cost at hc
    omega
/-- What Parse makes of a canonical text. -/
theorem parse_back (L : Loc) (hv : VL L) (w : World) : Calls Tryz.prog 5 #[.string (mk (fmtL (ofLoc L)))] w fun e w' => ∃ aw cw ac cc ae ce, e = .returned (.tuple #[.agg #[.string L.name, .slice aw 256 cw, .string L.lower, .string L.upper, .slice ac L.nc cc, .slice ae L.ne ce], .int .i64 0, .int .i64 0]) ∧ LocM w' L (.slice aw 256 cw) (.slice ac L.nc cc) (.slice ae L.ne ce) ∧ Below w.heap.size w w' := by
  refine (ltParse_any (mk (fmtL (ofLoc L))) w).mono fun e w' h => ?_
  obtain ⟨hb, h⟩ := h
  have e0 : (mk (fmtL (ofLoc L))).data.toList = fmtL (ofLoc L) := rfl
  rw [e0, parse_fmtL _ hv.vp] at h
  obtain ⟨W, C, E, he, ⟨S, hm, _⟩, hf⟩ := h
  have hM := norm_cells hv hm.loc
  obtain ⟨⟨aw, cw, rfl, -⟩, ⟨ac, cc, rfl, -⟩, ⟨ae, ce, rfl, -⟩⟩ := hM
  have hM := norm_cells hv hm.loc
  rw [hv.nw] at hM he
  exact ⟨aw, cw, ac, cc, ae, ce, he, hM, hb⟩
set_option maxHeartbeats 4000000 in
theorem format_no (L : Loc) (hc : chk L ≠ 0) (W C E : Value) (w : World) (hM : LocM w L W C E) :
    Calls Tryz.prog 9 #[.agg (lcl L W C E)] w fun e w' => e = .returned (.string ⟨#[]⟩) ∧ Below w.heap.size w w' := by
  have HB : Hid (Below w.heap.size w (w.alloc (.cells (lcl L W C E) 26))) := (Below.refl _ _).alloc (Nat.le_refl _) _
  have HA : Hid (LAt (w.alloc (.cells (lcl L W C E) 26)) w.heap.size (lcl L W C E)) := heap_alloc_new w _
  have HM := Lib.hid (hM.below HB.out)
  have HCk := Lib.hid (pCheck_any L W C E)
  generalize chk L = c at hc HCk
  have hcn : (c != 0) = true := by simpa using hc
  unfold lcl at *
  obtain ⟨⟨x0, x1, x2⟩, ⟨x3, x4, x5⟩, xf⟩ := HA.out.six
  clear hM
  go_enter Tryz.func9, Tryz.ntmps9
  go_wp2_with (first
    | (go_at_call 18
       refine (HCk.out _ HM.out).mono ?_
       rintro e w1 ⟨rfl, hb⟩
       have HB1 := Lib.hid (HB.out.trans (hb.mono HB.out.size))
       clear hb))
  go_ret
  exact ⟨rfl, HB1.out⟩
end Go.Proofs.YtblaldcioneooaaGreatDoor
/- What the frames of layer 6's proofs share: a witness, and the library's table as it is laid. -/
set_option linter.unusedVariables false
namespace Go.Proofs.YtblaldcioneooaaGreatDoor
open Go.ChangeShapes Go.WideShapes Go.ChangeAt Go.RowKit

theorem witness_rowS {H : Type} {enc : TypeId × Value → H} {C : Checked} {os : Os} {f : FuncId} {fn : Func} {s : OpenSpec} {conds : List PathCond} {apart : Bool} {laid : List (String × DataW Unit)} (modest : Bool) (w0 : World) (args : Array Value) (hos : w0.os = os)
    (hsh : (w0.forCall (fun _ _ => 0) ⟨#[], args, []⟩).Shaped C.prog)
    (hok : Input.okWideB C.prog (w0.forCall (fun _ _ => 0) ⟨#[], args, []⟩) f ⟨#[], args, []⟩ = true)
    (hrow : s.preRow enc C.prog fn conds apart laid (w0.forCall (fun _ _ => 0) ⟨#[], args, []⟩).memory args) :
    ∃ (w : World) (tape : Tape) (i : Input), w.os = os ∧ (w.forCall tape i).Shaped C.prog ∧ i.vars = [] ∧ Input.okWide C.prog (w.forCall tape i) .any w.heap.size f i ∧
      s.preRow enc C.prog fn conds apart laid (w.forCall tape i).memory i.args ∧ ({ modest := modest } : Assume).holds C.prog (lone (Frame.enter C.prog f i.args .normal) [] (w.forCall tape i)) :=
  ⟨w0, fun _ _ => 0, ⟨#[], args, []⟩, hos, hsh, (Input.okWide_of_okWideB (base := 0) hok).1, (Input.okWide_of_okWideB hok).2, hrow, by
    simp only [Assume.holds]
    exact ⟨by simp, by simp, fun _ => Modest.zero, by simp, by simp⟩⟩

/-- The listed variable's name, and what is listed. -/
def tabName : String := "math/bits.deBruijn64tab"
def laid1 : List (String × DataW Unit) := [(tabName, Rows.laid_math_bits_deBruijn64tab), ("unicode/utf8.acceptRanges", Rows.laid_unicode_utf8_acceptRanges), ("unicode/utf8.first", Rows.laid_unicode_utf8_first)]
theorem gTab : Tryz.prog.globalNamed tabName = some 0 := by kernel_rfl
theorem tTab : (Tryz.prog.globals[0]?).map (·.type) = some 119 := by kernel_rfl
theorem tab_laid : (Rows.laid_math_bits_deBruijn64tab : DataW Unit) = Lib.tabData .u8 (Lib.deBruijn64tab.map fun n : Nat => ((n : Nat) : Int)) := by
  unfold Rows.laid_math_bits_deBruijn64tab Lib.tabData Lib.deBruijn64tab
  rfl

theorem tab_of {W : World} (h : laidMetH Tryz.prog laid1 W) : tabAt W := by
  rw [MakeChecks.laidMetH_plain _ _ _ (by kernel_rfl)] at h
  unfold laid1 at h
  rw [tab_laid] at h
  have ht := Lib.tabIs_of_head gTab tTab Tryz.underlying119 Tryz.underlying5 (by kernel_rfl) (by kernel_rfl) h
  intro j hj
  have := Lib.TabIs.cell ht gTab j (by simpa using hj)
  rw [this]
  simp [List.getD, List.getElem?_eq_getElem hj]

end Go.Proofs.YtblaldcioneooaaGreatDoor
/- What the frames of layer 6's proofs on locales share: a locale that comes in. (The text of layer 5's, without its table.) -/
set_option linter.unusedVariables false
set_option maxRecDepth 100000
namespace Go.Proofs.YtblaldcioneooaaGreatDoor
open Go.ChangeShapes Go.WideShapes Go.ChangeAt Go.RowKit

theorem cells_str : Tryz.prog.cellsOf 9 = 1 := by kernel_rfl
section
variable {H : Type} {enc : TypeId × Value → H} {W : World} {base : Nat} {sp : Nat → Bool} {hd : Bool}
theorem trod_struct6 {P : Program} {t : TypeId} {f0 f1 f2 f3 f4 f5 : Field} {fuel : Nat} {cs : List Value} {x : DataW H × List MemPlace} (ht : P.underlying t = some (.struct #[f0, f1, f2, f3, f4, f5])) (h : DataW.trod enc P W base sp hd fuel t cs = some x) :
    ∃ y0 y1 y2 y3 y4 y5 n, (DataW.trod enc P W base sp hd n f0.type ((cs.drop f0.offset).take (P.cellsOf f0.type)) = some y0 ∧ DataW.trod enc P W base sp hd n f1.type ((cs.drop f1.offset).take (P.cellsOf f1.type)) = some y1 ∧
      DataW.trod enc P W base sp hd n f2.type ((cs.drop f2.offset).take (P.cellsOf f2.type)) = some y2) ∧ DataW.trod enc P W base sp hd n f3.type ((cs.drop f3.offset).take (P.cellsOf f3.type)) = some y3 ∧
      DataW.trod enc P W base sp hd n f4.type ((cs.drop f4.offset).take (P.cellsOf f4.type)) = some y4 ∧ DataW.trod enc P W base sp hd n f5.type ((cs.drop f5.offset).take (P.cellsOf f5.type)) = some y5 := by
  obtain ⟨xs, n, _, rfl, hl, hlen, hf⟩ := DataW.trod_struct ht h
  match xs, hlen with
  | [y0, y1, y2, y3, y4, y5], _ => exact ⟨y0, y1, y2, y3, y4, y5, n, ⟨by simpa using hf 0 f0 rfl, by simpa using hf 1 f1 rfl, by simpa using hf 2 f2 rfl⟩, by simpa using hf 3 f3 rfl, by simpa using hf 4 f4 rfl, by simpa using hf 5 f5 rfl⟩
/-- A list of numbers that came in. -/
theorem open_SLi {fuel : Nat} {cs : List Value} {x : DataW H × List MemPlace} (h : DataW.trod enc Tryz.prog W base sp hd fuel 22 cs = some x) : ∃ sv n, ∃ f : Nat → Int, cs = [sv] ∧ SL 1 n (fun j _ => .int .i64 (f j)) W sv := by
  rcases Deep.open_slice1 Tryz.underlying22 (by kernel_rfl) h with ⟨rfl, _⟩ | ⟨a, len, cap, m, n, V, D, Pl, rfl, _, hl, _, hm, _, hx⟩
  · exact ⟨_, 0, fun _ => 0, rfl, SL_nil _ _ _⟩
  have hlm : len ≤ m := by rw [hm]; split <;> omega
  obtain ⟨f, hf⟩ := Deep.choose_lt (α := Int) (n := len) (p := fun i z => V i = .int .i64 z) (fun i hi => by
    obtain ⟨z, hz, _⟩ := DataW.trod_int Tryz.underlying3 (hx i (by omega)).2
    exact ⟨z, by simpa using hz⟩)
  refine ⟨_, len, f, rfl, some a, cap, rfl, hl, ?_⟩
  by_cases h0 : len = 0
  · exact .inl h0
  obtain ⟨b, off, spot⟩ := a
  have hc0 := (hx 0 (by omega)).1
  have hspot : spot = none := by simpa [Addr.add] using World.cell?_spot hc0
  subst hspot
  refine .inr ⟨b, off, rfl, World.block_lt_of_cell? W _ hc0, fun j i hj hi => ?_⟩
  obtain rfl : i = 0 := by omega
  have := (hx j (by omega)).1
  rw [add_off, hf j hj] at this
  simpa using this
theorem list2' {α : Type} (l : List α) (h : l.length = 2) : ∃ a b, l = [a, b] := by
  match l, h with
  | [a, b], _ => exact ⟨a, b, rfl⟩
theorem list5' {α : Type} (l : List α) (h : l.length = 5) : ∃ a b c d e, l = [a, b, c, d, e] := by
  match l, h with
  | [a, b, c, d, e], _ => exact ⟨a, b, c, d, e, rfl⟩
theorem list6' {α : Type} (l : List α) (h : l.length = 6) : ∃ a b c d e f, l = [a, b, c, d, e, f] := by
  match l, h with
  | [a, b, c, d, e, f], _ => exact ⟨a, b, c, d, e, f, rfl⟩
theorem cells_elm : Tryz.prog.cellsOf 53 = 2 := by kernel_rfl
theorem cells_class : Tryz.prog.cellsOf 51 = 5 := by kernel_rfl
theorem cells_cs : Tryz.prog.cellsOf 49 = 4 := by kernel_rfl
theorem cells_arr : Tryz.prog.cellsOf 47 = 4 := by kernel_rfl
theorem cells_wd : Tryz.prog.cellsOf 46 = 1 := by kernel_rfl
theorem cells_int : Tryz.prog.cellsOf 3 = 1 := by kernel_rfl
theorem fieldsE : ∃ f0 f1 : Field, Tryz.prog.underlying 53 = some (.struct #[f0, f1]) ∧ (f0.type = 9 ∧ f0.offset = 0) ∧ f1.type = 3 ∧ f1.offset = 1 := ⟨_, _, Tryz.underlying53, ⟨rfl, rfl⟩, rfl, rfl⟩
theorem fieldsC : ∃ f0 f1 : Field, Tryz.prog.underlying 51 = some (.struct #[f0, f1]) ∧ (f0.type = 9 ∧ f0.offset = 0) ∧ f1.type = 49 ∧ f1.offset = 1 := ⟨_, _, Tryz.underlying51, ⟨rfl, rfl⟩, rfl, rfl⟩
theorem fieldsS : ∃ f0 : Field, Tryz.prog.underlying 49 = some (.struct #[f0]) ∧ f0.type = 47 ∧ f0.offset = 0 := ⟨_, Tryz.underlying49, rfl, rfl⟩
theorem word_nat (x : Int) (h : (Lit.int .u64 x).wf = true) : ∃ n : Nat, x = (n : Int) ∧ n < 2 ^ 64 := by
  have hb := bounds_u64 h
  exact ⟨x.toNat, by omega, by omega⟩
theorem byte_nat (x : Int) (h : (Lit.int .u8 x).wf = true) : ∃ n : Nat, x = (n : Int) ∧ n < 256 := by
  have hb := bounds_u8 h
  exact ⟨x.toNat, by omega, by omega⟩
theorem open_words {fuel : Nat} {c0 c1 c2 c3 : Value} {y : DataW H × List MemPlace} (h : DataW.trod enc Tryz.prog W base sp hd fuel 49 [c0, c1, c2, c3] = some y) : ∃ P : Nat → Bool, [c0, c1, c2, c3] = (cl P).toList := by
  obtain ⟨f0, hu, hft, hfo⟩ := fieldsS
  obtain ⟨y0, n, _, hl, hy⟩ := trod_struct1 hu h
  rw [hft, hfo, cells_arr] at hy
  have hy' : DataW.trod enc Tryz.prog W base sp hd n 47 [c0, c1, c2, c3] = some y0 := hy
  obtain ⟨z0, z1, z2, z3, m, hz, h0, h1, h2, h3⟩ := trod_array4 Tryz.underlying47 cells_wd hy'
  obtain ⟨x0, e0, rfl, w0⟩ := DataW.trod_int Tryz.underlying46 h0
  obtain ⟨x1, e1, rfl, w1⟩ := DataW.trod_int Tryz.underlying46 h1
  obtain ⟨x2, e2, rfl, w2⟩ := DataW.trod_int Tryz.underlying46 h2
  obtain ⟨x3, e3, rfl, w3⟩ := DataW.trod_int Tryz.underlying46 h3
  simp at e0 e1 e2 e3
  subst e0 e1 e2 e3
  obtain ⟨n0, rfl, l0⟩ := word_nat x0 w0
  obtain ⟨n1, rfl, l1⟩ := word_nat x1 w1
  obtain ⟨n2, rfl, l2⟩ := word_nat x2 w2
  obtain ⟨n3, rfl, l3⟩ := word_nat x3 w3
  refine ⟨toP n0 n1 n2 n3, ?_⟩
  unfold cl
  rw [toP0 n0 n1 n2 n3 l0, toP1 n0 n1 n2 n3 l1, toP2 n0 n1 n2 n3 l2, toP3 n0 n1 n2 n3 l3]
/-- Cells of an element by its place. -/
theorem elem_cell {b off k j : Nat} {cs : List Value} (h : W.cells? base ((⟨b, off, none⟩ : Addr).add (j * k)) k = some cs) (i : Nat) (hi : i < k) : W.cell? ⟨b, off + j * k + i, none⟩ = cs[i]? := by
  have h2 := (World.cells?_some h).2.2 i hi
  rwa [add_off, add_off] at h2
theorem elem_spot {a : Addr} {k : Nat} {cs : List Value} (hk : 0 < k) (h : W.cells? base (a.add (0 * k)) k = some cs) : a = ⟨a.block, a.off, none⟩ ∧ a.block < W.heap.size := by
  obtain ⟨_, hl, hc⟩ := World.cells?_some h
  have h0 := hc 0 hk
  have hlt : 0 < cs.length := by omega
  rw [List.getElem?_eq_getElem hlt] at h0
  have e : (a.add (0 * k)).add 0 = a := by simp [Addr.add]
  rw [e] at h0
  have hs := World.cell?_spot h0
  refine ⟨?_, World.block_lt_of_cell? W _ h0⟩
  obtain ⟨b, o, s⟩ := a
  simp only at hs
  rw [hs]
theorem open_SLe {fuel : Nat} {cs : List Value} {x : DataW H × List MemPlace} (h : DataW.trod enc Tryz.prog W base sp hd fuel 24 cs = some x) : ∃ sv n, ∃ t : Nat → ByteArray, ∃ z : Nat → Int, cs = [sv] ∧ SL 2 n (fun j i => if i = 0 then .string (t j) else .int .i64 (z j)) W sv := by
  rcases Deep.open_slice Tryz.underlying24 h with ⟨rfl, _⟩ | ⟨a, len, cap, m, n, D, Pl, rfl, _, hl, _, hm, _, hx⟩
  · exact ⟨_, 0, fun _ => ⟨#[]⟩, fun _ => 0, rfl, SL_nil _ _ _⟩
  rw [cells_elm] at hx
  have hlm : len ≤ m := by rw [hm]; split <;> omega
  obtain ⟨f, hf⟩ := Deep.choose_lt (α := ByteArray × Int) (n := len) (p := fun i tz => W.cells? base (a.add (i * 2)) 2 = some [.string tz.1, .int .i64 tz.2]) (fun i hi => by
    obtain ⟨cs', h1, h2⟩ := hx i (by omega)
    obtain ⟨c0, c1, rfl⟩ := list2' cs' (World.cells?_some h1).2.1
    obtain ⟨f0, f1, hu, ⟨ht0, ho0⟩, ht1, ho1⟩ := fieldsE
    obtain ⟨y0, y1, k, _, _, t0, t1⟩ := trod_struct2 hu h2
    rw [ht0, ho0, cells_str] at t0
    rw [ht1, ho1, cells_int] at t1
    obtain ⟨s0, e0, _, _⟩ := DataW.trod_string Tryz.underlying9 t0
    obtain ⟨z, e1, _, _⟩ := DataW.trod_int Tryz.underlying3 t1
    simp at e0 e1
    exact ⟨(s0, z), by rw [h1, e0, e1]⟩)
  refine ⟨_, len, fun j => (f j).1, fun j => (f j).2, rfl, some a, cap, rfl, hl, ?_⟩
  by_cases h0 : len = 0
  · exact .inl h0
  obtain ⟨ha, hlt⟩ := elem_spot (k := 2) (by decide) (hf 0 (by omega))
  obtain ⟨b, off, spot⟩ := a
  simp only [Addr.mk.injEq, true_and] at ha
  subst ha
  refine .inr ⟨b, off, rfl, hlt, fun j i hj hi => ?_⟩
  rw [elem_cell (hf j hj) i hi]
  have : i = 0 ∨ i = 1 := by omega
  rcases this with rfl | rfl <;> rfl
theorem open_SLc {fuel : Nat} {cs : List Value} {x : DataW H × List MemPlace} (h : DataW.trod enc Tryz.prog W base sp hd fuel 23 cs = some x) : ∃ sv n, ∃ t : Nat → ByteArray, ∃ z : Nat → Nat → Bool, cs = [sv] ∧ SL 5 n (fun j i => if i = 0 then .string (t j) else .int .u64 ((wd (z j) (64 * (i - 1)) 64 : Nat) : Int)) W sv := by
  rcases Deep.open_slice Tryz.underlying23 h with ⟨rfl, _⟩ | ⟨a, len, cap, m, n, D, Pl, rfl, _, hl, _, hm, _, hx⟩
  · exact ⟨_, 0, fun _ => ⟨#[]⟩, fun _ _ => false, rfl, SL_nil _ _ _⟩
  rw [cells_class] at hx
  have hlm : len ≤ m := by rw [hm]; split <;> omega
  obtain ⟨f, hf⟩ := Deep.choose_lt (α := ByteArray × (Nat → Bool)) (n := len) (p := fun i tz => W.cells? base (a.add (i * 5)) 5 = some (.string tz.1 :: (cl tz.2).toList)) (fun i hi => by
    obtain ⟨cs', h1, h2⟩ := hx i (by omega)
    obtain ⟨c0, c1, c2, c3, c4, rfl⟩ := list5' cs' (World.cells?_some h1).2.1
    obtain ⟨f0, f1, hu, ⟨ht0, ho0⟩, ht1, ho1⟩ := fieldsC
    obtain ⟨y0, y1, k, _, _, t0, t1⟩ := trod_struct2 hu h2
    rw [ht0, ho0, cells_str] at t0
    rw [ht1, ho1, cells_cs] at t1
    obtain ⟨s0, e0, _, _⟩ := DataW.trod_string Tryz.underlying9 t0
    obtain ⟨P, hP⟩ := open_words (c0 := c1) (c1 := c2) (c2 := c3) (c3 := c4) (by simpa using t1)
    simp at e0
    exact ⟨(s0, P), by rw [h1, e0, hP]⟩)
  refine ⟨_, len, fun j => (f j).1, fun j => (f j).2, rfl, some a, cap, rfl, hl, ?_⟩
  by_cases h0 : len = 0
  · exact .inl h0
  obtain ⟨ha, hlt⟩ := elem_spot (k := 5) (by decide) (hf 0 (by omega))
  obtain ⟨b, off, spot⟩ := a
  simp only [Addr.mk.injEq, true_and] at ha
  subst ha
  refine .inr ⟨b, off, rfl, hlt, fun j i hj hi => ?_⟩
  rw [elem_cell (hf j hj) i hi]
  have : i = 0 ∨ i = 1 ∨ i = 2 ∨ i = 3 ∨ i = 4 := by omega
  rcases this with rfl | rfl | rfl | rfl | rfl <;> rfl
theorem cells_loc : Tryz.prog.cellsOf 26 = 6 := by kernel_rfl
theorem cells_si : Tryz.prog.cellsOf 22 = 1 := by kernel_rfl
theorem cells_sc : Tryz.prog.cellsOf 23 = 1 := by kernel_rfl
theorem cells_se : Tryz.prog.cellsOf 24 = 1 := by kernel_rfl
theorem fieldsL : ∃ f0 f1 f2 f3 f4 f5 : Field, Tryz.prog.underlying 26 = some (.struct #[f0, f1, f2, f3, f4, f5]) ∧ ((f0.type = 9 ∧ f0.offset = 0) ∧ (f1.type = 22 ∧ f1.offset = 1) ∧ (f2.type = 9 ∧ f2.offset = 2)) ∧ (f3.type = 9 ∧ f3.offset = 3) ∧ (f4.type = 23 ∧ f4.offset = 4) ∧ f5.type = 24 ∧ f5.offset = 5 :=
  ⟨_, _, _, _, _, _, Tryz.underlying26, ⟨⟨rfl, rfl⟩, ⟨rfl, rfl⟩, ⟨rfl, rfl⟩⟩, ⟨rfl, rfl⟩, ⟨rfl, rfl⟩, rfl, rfl⟩
/-- A locale that came in, as the walks want it. -/
theorem open_loc {v : Value} {b0 : Nat} {d : DataW H} {p : List MemPlace} (hv : Value.okWide Tryz.prog W .any b0 26 v)
    (h : DataW.Trod enc Tryz.prog W base sp hd 26 v d p) : ∃ (L : Loc) (Wv Cv Ev : Value), v = .agg (lcl L Wv Cv Ev) ∧ LocM W L Wv Cv Ev := by
  obtain ⟨f0, f1, f2, f3, f4, f5, hu, ⟨⟨a0, o0⟩, ⟨a1, o1⟩, ⟨a2, o2⟩⟩, ⟨a3, o3⟩, ⟨a4, o4⟩, a5, o5⟩ := fieldsL
  obtain ⟨cells, rfl, hsz⟩ := okWide_struct hu hv
  rw [cells_loc] at hsz
  obtain ⟨l⟩ := cells
  obtain ⟨c0, c1, c2, c3, c4, c5, rfl⟩ := list6' l (by simpa using hsz)
  obtain ⟨fuel, hf⟩ := h
  have hf' : DataW.trod enc Tryz.prog W base sp hd fuel 26 [c0, c1, c2, c3, c4, c5] = some (d, p) := hf
  obtain ⟨y0, y1, y2, y3, y4, y5, n, ⟨t0, t1, t2⟩, t3, t4, t5⟩ := trod_struct6 hu hf'
  rw [a0, o0, cells_str] at t0
  rw [a1, o1, cells_si] at t1
  rw [a2, o2, cells_str] at t2
  rw [a3, o3, cells_str] at t3
  rw [a4, o4, cells_sc] at t4
  rw [a5, o5, cells_se] at t5
  obtain ⟨s0, e0, _, _⟩ := DataW.trod_string Tryz.underlying9 t0
  obtain ⟨s2, e2, _, _⟩ := DataW.trod_string Tryz.underlying9 t2
  obtain ⟨s3, e3, _, _⟩ := DataW.trod_string Tryz.underlying9 t3
  obtain ⟨Wv, nw, wt, e1, hW⟩ := open_SLi t1
  obtain ⟨Cv, nc, cn, cz, e4, hC⟩ := open_SLc t4
  obtain ⟨Ev, ne, et, ew, e5, hE⟩ := open_SLe t5
  simp at e0 e1 e2 e3 e4 e5
  subst e0 e1 e2 e3 e4 e5
  exact ⟨{ name := s0, lower := s2, upper := s3, nw := nw, wt := wt, nc := nc, cn := cn, cset := cz, ne := ne, et := et, ew := ew }, _, _, _, rfl, hW, hC, hE⟩
end
end Go.Proofs.YtblaldcioneooaaGreatDoor
