/- Orders of lists, and the pieces of a string by a locale: plain mathematics, no program. -/
import Derived.Test.YtblaldcioneooaaDoorRows
import Derived.Test.YtblaldcioneooaaDoorLcFind
set_option linter.unusedVariables false
namespace Go.Proofs.YtblaldcioneooaaDoor
open Go.RowKit

/-- -1, 0 or 1 for two lists of numbers. -/
def ord : List Int → List Int → Int
  | [], [] => 0
  | [], _ :: _ => -1
  | _ :: _, [] => 1
  | x :: r, y :: t => if x < y then -1 else if y < x then 1 else ord r t
theorem ord_self (a : List Int) : ord a a = 0 := by
  induction a with
  | nil => rfl
  | cons x r ih => simp [ord, ih]
theorem ord_swap (a b : List Int) : ord b a = - ord a b := by
  induction a generalizing b with
  | nil => cases b <;> simp [ord]
  | cons x r ih =>
    cases b with
    | nil => simp [ord]
    | cons y t =>
      simp only [ord]
      by_cases h1 : x < y
      · have h2 : ¬ y < x := by omega
        simp [h1, h2]
      · by_cases h2 : y < x
        · simp [h1, h2]
        · simp [h1, h2, ih]
theorem ord_range (a b : List Int) : ord a b = -1 ∨ ord a b = 0 ∨ ord a b = 1 := by
  induction a generalizing b with
  | nil => cases b <;> simp [ord]
  | cons x r ih =>
    cases b with
    | nil => simp [ord]
    | cons y t =>
      simp only [ord]
      split
      · simp
      · split
        · simp
        · exact ih t
theorem ord_eq (a b : List Int) (h : ord a b = 0) : a = b := by
  induction a generalizing b with
  | nil =>
    cases b with
    | nil => rfl
    | cons y t => simp [ord] at h
  | cons x r ih =>
    cases b with
    | nil => simp [ord] at h
    | cons y t =>
      simp only [ord] at h
      by_cases h1 : x < y
      · simp [h1] at h
      · by_cases h2 : y < x
        · simp [h1, h2] at h
        · simp only [h1, h2, if_false] at h
          have : x = y := by omega
          rw [this, ih t h]
theorem ord_trans (a b c : List Int) (h1 : ord a b ≤ 0) (h2 : ord b c ≤ 0) : ord a c ≤ 0 ∧ (ord a c = 0 → ord a b = 0 ∧ ord b c = 0) := by
  induction a generalizing b c with
  | nil =>
    cases b with
    | nil => exact ⟨h2, fun h => ⟨rfl, h⟩⟩
    | cons y t =>
      cases c with
      | nil => simp [ord] at h2
      | cons z u => simp [ord]
  | cons x r ih =>
    cases b with
    | nil => simp [ord] at h1
    | cons y t =>
      cases c with
      | nil => simp [ord] at h2
      | cons z u =>
        simp only [ord] at h1 h2 ⊢
        by_cases a1 : x < y
        · by_cases a2 : y < z
          · have : x < z := by omega
            simp [this]
          · by_cases a3 : z < y
            · simp [a2, a3] at h2
            · have : x < z := by omega
              simp [this]
        · by_cases b1 : y < x
          · simp [a1, b1] at h1
          · simp only [a1, b1, if_false] at h1 ⊢
            have : x = y := by omega
            subst this
            by_cases a2 : x < z
            · simp [a2]
            · by_cases a3 : z < x
              · simp [a2, a3] at h2
              · simp only [a2, a3, if_false] at h2 ⊢
                exact ih t u h1 h2

/-- The bytes of a string as numbers. -/
def bI (l : List UInt8) : List Int := l.map fun c => (c.toNat : Int)
theorem bI_inj (l r : List UInt8) (h : bI l = bI r) : l = r := by
  induction l generalizing r with
  | nil =>
    cases r with
    | nil => rfl
    | cons y t => simp [bI] at h
  | cons x l ih =>
    cases r with
    | nil => simp [bI] at h
    | cons y t =>
      simp only [bI, List.map_cons, List.cons.injEq] at h
      have hx : x = y := UInt8.toNat_inj.1 (by omega)
      rw [hx, ih t h.2]

/-- The element with which a string begins. -/
def eIx (L : Loc) (l : List UInt8) : Option Nat := (List.range L.ne).find? fun k => (L.et k).data.toList.isPrefixOf l
/-- The length and the weight of the first collating element. -/
def stN (L : Loc) (l : List UInt8) : Nat := match eIx L l with
  | some _ => 2
  | none => 1
def stW (L : Loc) (l : List UInt8) : Int := match eIx L l with
  | some k => L.ew k
  | none => L.wt ((l.headD 0).toNat)
theorem stN_pos (L : Loc) (l : List UInt8) : 1 ≤ stN L l := by
  unfold stN
  split <;> omega
theorem stN_le (L : Loc) (l : List UInt8) : stN L l ≤ 2 := by
  unfold stN
  split <;> omega
/-- The pieces with their weights; the number is fuel. -/
def sgs (L : Loc) : Nat → List UInt8 → List (List UInt8 × Int)
  | 0, _ => []
  | _ + 1, [] => []
  | n + 1, b :: r => ((b :: r).take (stN L (b :: r)), stW L (b :: r)) :: sgs L n ((b :: r).drop (stN L (b :: r)))
theorem sgs_fuel (L : Loc) (n m : Nat) (l : List UInt8) (hn : l.length ≤ n) (hm : l.length ≤ m) : sgs L n l = sgs L m l := by
  induction n generalizing m l with
  | zero =>
    have : l = [] := List.eq_nil_of_length_eq_zero (by omega)
    subst this
    cases m <;> rfl
  | succ n ih =>
    cases l with
    | nil => cases m <;> rfl
    | cons b r =>
      cases m with
      | zero => simp at hm
      | succ m =>
        have h1 := stN_pos L (b :: r)
        simp only [sgs, List.cons.injEq, true_and]
        simp only [List.length_cons] at hn hm
        apply ih
        · simp only [List.length_drop, List.length_cons]; omega
        · simp only [List.length_drop, List.length_cons]; omega
def seg (L : Loc) (l : List UInt8) : List (List UInt8 × Int) := sgs L l.length l
theorem seg_nil (L : Loc) : seg L [] = [] := rfl
theorem seg_cons (L : Loc) (l : List UInt8) (h : 0 < l.length) : seg L l = (l.take (stN L l), stW L l) :: seg L (l.drop (stN L l)) := by
  cases l with
  | nil => simp at h
  | cons b r =>
    have h1 := stN_pos L (b :: r)
    unfold seg
    simp only [List.length_cons, sgs, List.cons.injEq, true_and]
    apply sgs_fuel
    · simp only [List.length_drop, List.length_cons]; omega
    · exact Nat.le_refl _
/-- The collating elements, and their weights. -/
def pcs (L : Loc) (l : List UInt8) : List (List UInt8) := (seg L l).map Prod.fst
def wts (L : Loc) (l : List UInt8) : List Int := (seg L l).map Prod.snd
theorem pcs_cons (L : Loc) (l : List UInt8) (h : 0 < l.length) : pcs L l = l.take (stN L l) :: pcs L (l.drop (stN L l)) := by
  unfold pcs
  rw [seg_cons L l h]
  rfl
theorem wts_cons (L : Loc) (l : List UInt8) (h : 0 < l.length) : wts L l = stW L l :: wts L (l.drop (stN L l)) := by
  unfold wts
  rw [seg_cons L l h]
  rfl
theorem pcs_nil (L : Loc) : pcs L [] = [] := rfl
theorem wts_nil (L : Loc) : wts L [] = [] := rfl
theorem pcs_len (L : Loc) (l : List UInt8) : (pcs L l).length ≤ l.length := by
  suffices ∀ n (l : List UInt8), l.length ≤ n → (pcs L l).length ≤ l.length from this l.length l (Nat.le_refl _)
  intro n
  induction n with
  | zero =>
    intro l hl
    have : l = [] := List.eq_nil_of_length_eq_zero (by omega)
    subst this
    exact Nat.le_refl _
  | succ n ih =>
    intro l hl
    by_cases h : 0 < l.length
    · have h1 := stN_pos L l
      have := ih (l.drop (stN L l)) (by rw [List.length_drop]; omega)
      rw [pcs_cons L l h, List.length_cons]
      rw [List.length_drop] at this
      omega
    · have : l = [] := List.eq_nil_of_length_eq_zero (by omega)
      subst this
      exact Nat.le_refl _
/-- The order of two strings. -/
def cmpL (L : Loc) (a b : List UInt8) : Int := if ord (wts L a) (wts L b) = 0 then ord (bI a) (bI b) else ord (wts L a) (wts L b)
theorem cmpL_self (L : Loc) (a b : List UInt8) : cmpL L a b = 0 ↔ a = b := by
  constructor
  · intro h
    unfold cmpL at h
    split at h
    · exact bI_inj _ _ (ord_eq _ _ h)
    · contradiction
  · rintro rfl
    unfold cmpL
    rw [ord_self, ord_self]
    rfl
theorem cmpL_swap (L : Loc) (a b : List UInt8) : cmpL L b a = - cmpL L a b := by
  unfold cmpL
  rw [ord_swap (wts L a), ord_swap (bI a)]
  by_cases h : ord (wts L a) (wts L b) = 0
  · simp [h]
  · simp [h]
theorem cmpL_range (L : Loc) (a b : List UInt8) : cmpL L a b = -1 ∨ cmpL L a b = 0 ∨ cmpL L a b = 1 := by
  unfold cmpL
  split
  · exact ord_range _ _
  · exact ord_range _ _
theorem cmpL_trans (L : Loc) (a b c : List UInt8) (h1 : cmpL L a b ≤ 0) (h2 : cmpL L b c ≤ 0) : cmpL L a c ≤ 0 := by
  have key : ∀ x y : List UInt8, cmpL L x y ≤ 0 → ord (wts L x) (wts L y) ≤ 0 := by
    intro x y h
    unfold cmpL at h
    split at h
    · omega
    · exact h
  have ht := ord_trans _ _ _ (key _ _ h1) (key _ _ h2)
  unfold cmpL
  split
  · rename_i h0
    obtain ⟨e1, e2⟩ := ht.2 h0
    unfold cmpL at h1 h2
    rw [if_pos e1] at h1
    rw [if_pos e2] at h2
    exact (ord_trans _ _ _ h1 h2).1
  · exact ht.1
theorem cmpL_trans' (L : Loc) (a b c : List UInt8) (h1 : 0 ≤ cmpL L a b) (h2 : 0 ≤ cmpL L b c) : 0 ≤ cmpL L a c := by
  have := cmpL_trans L c b a (by rw [cmpL_swap L b c]; omega) (by rw [cmpL_swap L a b]; omega)
  rw [cmpL_swap L a c] at this
  omega
theorem bytesLess_ord (a b : List UInt8) : Op.bytesLess a b = decide (ord (bI a) (bI b) < 0) := by
  induction a generalizing b with
  | nil => cases b <;> simp [Op.bytesLess, ord, bI]
  | cons x r ih =>
    cases b with
    | nil => simp [Op.bytesLess, ord, bI]
    | cons y t =>
      have hx := x.toNat_lt
      have hy := y.toNat_lt
      simp only [Op.bytesLess, bI, List.map_cons, ord]
      have e1 : (x < y) = (x.toNat < y.toNat) := by rw [UInt8.lt_iff_toNat_lt]
      have e2 : (x = y) = (x.toNat = y.toNat) := by rw [UInt8.toNat_inj]
      by_cases h1 : x.toNat < y.toNat
      · simp [e1, h1]
      · by_cases h2 : y.toNat < x.toNat
        · have h3 : ¬ x = y := by rw [e2]; omega
          simp [e1, h1, h2, h3]
        · have h3 : x.toNat = y.toNat := by omega
          have h4 : x = y := UInt8.toNat_inj.1 h3
          subst h4
          have := ih t
          unfold bI at this
          simp [this]
end Go.Proofs.YtblaldcioneooaaDoor
