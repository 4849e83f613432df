/- Several texts in one (a claim has at most 60 files). -/
import Derived.Test.YticfhbffoajgcaaGreatDoorRows
import Derived.Test.YticfhbffoajgcaaGreatDoorNumDec
import Derived.Test.YticfhbffoajgcaaGreatDoorTxMath
import Derived.Test.YticfhbffoajgcaaGreatDoorCsOf
import Derived.Test.YticfhbffoajgcaaGreatDoorLcDef
import Derived.Lib.IndexLaws
import Derived.Test.YticfhbffoajgcaaGreatDoorTxShelf
import Derived.Deep.AppendLies
import Derived.Test.YticfhbffoajgcaaGreatDoorNumParseC
import Derived.Test.YticfhbffoajgcaaGreatDoorLpCheck
import Derived.WalkLawsBesides
import Derived.Test.YticfhbffoajgcaaGreatDoorTxOwn
import Derived.Test.YticfhbffoajgcaaGreatDoorLpClo
import Derived.Test.YticfhbffoajgcaaGreatDoorCsOps
import Derived.Test.YticfhbffoajgcaaGreatDoorTxSeq
/- Locale tables as text: what a text describes, in plain mathematics. It speaks of no program. -/
namespace Go.Proofs.YticfhbffoajgcaaGreatDoor
open Go.RowKit
set_option linter.unusedVariables false

/-- A locale as a text describes it. -/
structure PL where
  name : List UInt8
  wt : Nat → Int
  lower : List UInt8
  upper : List UInt8
  cls : List (List UInt8 × (Nat → Bool))
  els : List (List UInt8 × Int)

def PLdef : PL := { name := [112, 111, 115, 105, 120], wt := fun j => (j : Int), lower := lowL 256, upper := upL 256, cls := [], els := [] }
def PL0 : PL := { name := [], wt := fun _ => 0, lower := [], upper := [], cls := [], els := [] }
def clN (L : PL) (j : Nat) : List UInt8 := (L.cls[j]?.getD ([], fun _ => false)).1
def clS (L : PL) (j : Nat) : Nat → Bool := (L.cls[j]?.getD ([], fun _ => false)).2
def elT (L : PL) (j : Nat) : List UInt8 := (L.els[j]?.getD ([], 0)).1
def elW (L : PL) (j : Nat) : Int := (L.els[j]?.getD ([], 0)).2
/-- The locale in the words of layer 5. -/
def toLoc (n : Nat) (L : PL) : Loc := { name := mk L.name, lower := mk L.lower, upper := mk L.upper, nw := n, wt := L.wt, nc := L.cls.length, cn := fun j => mk (clN L j), cset := clS L, ne := L.els.length, et := fun j => mk (elT L j), ew := elW L }

/-- The number that a word is. -/
def numT (l : List UInt8) (most : Nat) : Except Int Nat :=
  if parseE l = 1 then .error 1 else if parseE l = 0 ∧ 0 ≤ parseV l ∧ parseV l ≤ (most : Int) then .ok (parseV l).toNat else .error 2
/-- The bytes of a range: the least and the greatest. -/
def spanT (l : List UInt8) : Except Int (Nat × Nat) :=
  if Lib.indexByte (l.drop 1) 45 = -1 then
    match numT l 255 with
    | .error e => .error e
    | .ok n => .ok (n, n)
  else match numT (l.take ((Lib.indexByte (l.drop 1) 45).toNat + 1)) 255 with
    | .error e => .error e
    | .ok a => match numT (l.drop ((Lib.indexByte (l.drop 1) 45).toNat + 2)) 255 with
      | .error e => .error e
      | .ok b => if a ≤ b then .ok (a, b) else .error 2
/-- The bytes of ranges, added to a set. -/
def setT : List (List UInt8) → (Nat → Bool) → Except Int (Nat → Bool)
  | [], p => .ok p
  | x :: r, p => match spanT x with
    | .error e => .error e
    | .ok ab => setT r fun c => p c || between ab.1 ab.2 c
/-- Bytes, from left to right. -/
def bytesT : List (List UInt8) → Except Int (List Nat)
  | [] => .ok []
  | x :: r => match numT x 255 with
    | .error e => .error e
    | .ok n => match bytesT r with
      | .error e => .error e
      | .ok t => .ok (n :: t)
def putB (t : List UInt8) (a c : Nat) : List UInt8 := t.set a (UInt8.ofNat c)
def putW (f : Nat → Int) (l : List Nat) (v : Nat) : Nat → Int := fun j => if l.contains j then (v : Int) else f j
def tabT (t : List UInt8) (x y : List UInt8) : Except Int (List UInt8) := match numT x 255 with
  | .error e => .error e
  | .ok a => match numT y 255 with
    | .error e => .error e
    | .ok c => .ok (putB t a c)
def weighT (L : PL) (l : List (List UInt8)) (y : List UInt8) : Except Int PL := match bytesT l with
  | .error e => .error e
  | .ok b => match numT y 65535 with
    | .error e => .error e
    | .ok v => .ok { L with wt := putW L.wt b v }
def classT (L : PL) (x : List UInt8) (r : List (List UInt8)) : Except Int PL :=
  if nmL x = false then .error 4 else if L.cls.any (fun c => c.1 == x) = true then .error 6 else if 24 ≤ L.cls.length then .error 3 else match setT r (fun _ => false) with
    | .error e => .error e
    | .ok p => .ok { L with cls := L.cls ++ [(x, p)] }
def pairT (a b : Nat) : List UInt8 := [UInt8.ofNat a, UInt8.ofNat b]
def elemT (L : PL) (x y z : List UInt8) : Except Int PL := match numT x 255 with
  | .error e => .error e
  | .ok a => match numT y 255 with
    | .error e => .error e
    | .ok b => match numT z 65535 with
      | .error e => .error e
      | .ok v => if L.els.any (fun c => c.1 == pairT a b) = true then .error 6 else if 64 ≤ L.els.length then .error 3 else .ok { L with els := L.els ++ [(pairT a b, (v : Int))] }
def beginT (L : PL) (x : List UInt8) : Except Int PL := if nmL x = false then .error 4 else .ok { L with name := x }
def kLoc : List UInt8 := [108, 111, 99, 97, 108, 101]
def kWei : List UInt8 := [119, 101, 105, 103, 104, 116]
def kLow : List UInt8 := [108, 111, 119, 101, 114]
def kUp : List UInt8 := [117, 112, 112, 101, 114]
def kCls : List UInt8 := [99, 108, 97, 115, 115]
def kElm : List UInt8 := [101, 108, 101, 109, 101, 110, 116]
def lowT (L : PL) (x y : List UInt8) : Except Int PL := match tabT L.lower x y with
  | .error e => .error e
  | .ok t => .ok { L with lower := t }
def upT (L : PL) (x y : List UInt8) : Except Int PL := match tabT L.upper x y with
  | .error e => .error e
  | .ok t => .ok { L with upper := t }
/-- An entry: a keyword and arguments. -/
def entryT (st : Bool) (L : PL) (k : List UInt8) (r : List (List UInt8)) : Except Int PL :=
  if (k == kLoc) = st then .error 1
  else if k = kLoc then (match r with
    | [x] => beginT L x
    | _ => .error 1)
  else if k = kWei then (if 2 ≤ r.length then weighT L r.dropLast (r.getLastD []) else .error 1)
  else if k = kLow then (match r with
    | [x, y] => lowT L x y
    | _ => .error 1)
  else if k = kUp then (match r with
    | [x, y] => upT L x y
    | _ => .error 1)
  else if k = kCls then (match r with
    | x :: t => classT L x t
    | _ => .error 1)
  else if k = kElm then (match r with
    | [x, y, z] => elemT L x y z
    | _ => .error 1)
  else .error 1
/-- Is a line skipped? -/
def skipT (l : List UInt8) : Bool := (wds l).isEmpty || l.head? == some 35
/-- One line, number n (from 1 on). -/
def lineT (n : Nat) (s : Bool × PL) (l : List UInt8) : Except (Int × Nat) (Bool × PL) :=
  if skipT l then .ok s else match wds l with
    | [] => .ok s
    | k :: r => match entryT s.1 s.2 k r with
      | .error e => .error (e, n)
      | .ok L => .ok (true, L)
def linesT : Nat → List (List UInt8) → Bool × PL → Except (Int × Nat) (Bool × PL)
  | _, [], s => .ok s
  | n, l :: r, s => match lineT n s l with
    | .error e => .error e
    | .ok t => linesT (n + 1) r t
def parseT (l : List UInt8) : Except (Int × Nat) PL :=
  if 65536 < l.length then .error (3, 0) else match linesT 1 (lin l) (false, PLdef) with
    | .error e => .error e
    | .ok s => if s.1 then .ok s.2 else .error (1, (lin l).length + 1)

/-! ### Lists of lines from the right -/
theorem linesT_app (n : Nat) : ∀ (a b : List (List UInt8)) (s : Bool × PL), linesT n (a ++ b) s = match linesT n a s with
    | .error e => .error e
    | .ok t => linesT (n + a.length) b t := by
  intro a
  induction a generalizing n with
  | nil => intro b s; simp [linesT]
  | cons x a ih =>
    intro b s
    simp only [List.cons_append, linesT]
    cases h : lineT n s x with
    | error e => rfl
    | ok t => simp only [ih]; rw [show n + 1 + a.length = n + (x :: a).length by simp; omega]
theorem setT_snoc : ∀ (l : List (List UInt8)) (x : List UInt8) (p : Nat → Bool), setT (l ++ [x]) p = match setT l p with
    | .error e => .error e
    | .ok q => match spanT x with
      | .error e => .error e
      | .ok ab => .ok fun c => q c || between ab.1 ab.2 c := by
  intro l
  induction l with
  | nil => intro x p; simp only [List.nil_append, setT]
  | cons y l ih =>
    intro x p
    simp only [List.cons_append, setT]
    cases spanT y with
    | error e => rfl
    | ok ab => exact ih x _
theorem bytesT_snoc : ∀ (l : List (List UInt8)) (x : List UInt8), bytesT (l ++ [x]) = match bytesT l with
    | .error e => .error e
    | .ok t => match numT x 255 with
      | .error e => .error e
      | .ok n => .ok (t ++ [n]) := by
  intro l
  induction l with
  | nil => intro x; simp only [List.nil_append, bytesT]; try rfl
  | cons y l ih =>
    intro x
    simp only [List.cons_append, bytesT]
    cases numT y 255 with
    | error e => rfl
    | ok n =>
      simp only [ih]
      cases bytesT l with
      | error e => rfl
      | ok t => cases numT x 255 <;> rfl
/-! ### A later error is the error -/
theorem linesT_err (n : Nat) (a b : List (List UInt8)) (s : Bool × PL) (e : Int × Nat) (h : linesT n a s = .error e) : linesT n (a ++ b) s = .error e := by rw [linesT_app, h]
theorem setT_err (a b : List (List UInt8)) (p : Nat → Bool) (e : Int) (h : setT a p = .error e) : setT (a ++ b) p = .error e := by
  induction a generalizing p with
  | nil => cases h
  | cons x a ih =>
    simp only [List.cons_append, setT] at h ⊢
    cases hx : spanT x with
    | error y => rw [hx] at h; exact h
    | ok ab => rw [hx] at h; exact ih _ h
theorem bytesT_err (a b : List (List UInt8)) (e : Int) (h : bytesT a = .error e) : bytesT (a ++ b) = .error e := by
  induction a with
  | nil => cases h
  | cons x a ih =>
    simp only [List.cons_append, bytesT] at h ⊢
    cases hx : numT x 255 with
    | error y => rw [hx] at h; exact h
    | ok n =>
      rw [hx] at h
      simp only at h ⊢
      cases hr : bytesT a with
      | error y =>
        rw [hr] at h
        have := ih (by rw [hr]; exact h)
        rw [this]
      | ok t => rw [hr] at h; cases h
theorem numT_lt {l : List UInt8} {m n : Nat} (h : numT l m = .ok n) : n ≤ m := by
  unfold numT at h
  split at h
  · cases h
  · split at h
    · rename_i _ hc
      cases h
      omega
    · cases h
theorem bytesT_len : ∀ {l : List (List UInt8)} {b : List Nat}, bytesT l = .ok b → b.length = l.length ∧ ∀ x ∈ b, x < 256 := by
  intro l
  induction l with
  | nil => intro b h; cases h; exact ⟨rfl, fun x hx => by cases hx⟩
  | cons y l ih =>
    intro b h
    simp only [bytesT] at h
    cases hy : numT y 255 with
    | error e => rw [hy] at h; cases h
    | ok n =>
      rw [hy] at h
      simp only at h
      cases hr : bytesT l with
      | error e => rw [hr] at h; cases h
      | ok t =>
        rw [hr] at h
        cases h
        have h2 := numT_lt hy
        have h3 := ih hr
        refine ⟨by simp [h3.1], fun x hx => ?_⟩
        rcases List.mem_cons.1 hx with rfl | hx
        · omega
        · exact h3.2 x hx
end Go.Proofs.YticfhbffoajgcaaGreatDoor
/- What a text describes stays within the limits of a locale. -/
set_option linter.unusedVariables false
namespace Go.Proofs.YticfhbffoajgcaaGreatDoor
open Go.RowKit

/-- Within the limits. -/
structure Fit (L : PL) : Prop where
  cls : L.cls.length ≤ 24
  els : L.els.length ≤ 64
  low : L.lower.length = 256
  up : L.upper.length = 256
theorem Fit.def : Fit PLdef := ⟨by decide, by decide, lowL_len 256, upL_len 256⟩
theorem putB_len (t : List UInt8) (a c : Nat) : (putB t a c).length = t.length := by unfold putB; simp
theorem tabT_len {t x y r : List UInt8} (h : tabT t x y = .ok r) : r.length = t.length := by
  unfold tabT at h
  cases h1 : numT x 255 with
  | error e => rw [h1] at h; cases h
  | ok a =>
    rw [h1] at h
    simp only at h
    cases h2 : numT y 255 with
    | error e => rw [h2] at h; cases h
    | ok c => rw [h2] at h; cases h; exact putB_len _ _ _
theorem entryT_cases {st : Bool} {L L' : PL} {k : List UInt8} {r : List (List UInt8)} (h : entryT st L k r = .ok L') :
    (∃ x, beginT L x = .ok L') ∨ (∃ y, weighT L r.dropLast y = .ok L') ∨ (∃ x y, lowT L x y = .ok L') ∨ (∃ x y, upT L x y = .ok L') ∨ (∃ x t, classT L x t = .ok L') ∨ ∃ x y z, elemT L x y z = .ok L' := by
  unfold entryT at h
  split at h
  · cases h
  split at h
  · split at h
    · exact .inl ⟨_, h⟩
    · cases h
  split at h
  · split at h
    · exact .inr (.inl ⟨_, h⟩)
    · cases h
  split at h
  · split at h
    · exact .inr (.inr (.inl ⟨_, _, h⟩))
    · cases h
  split at h
  · split at h
    · exact .inr (.inr (.inr (.inl ⟨_, _, h⟩)))
    · cases h
  split at h
  · split at h
    · exact .inr (.inr (.inr (.inr (.inl ⟨_, _, h⟩))))
    · cases h
  split at h
  · split at h
    · exact .inr (.inr (.inr (.inr (.inr ⟨_, _, _, h⟩))))
    · cases h
  · cases h
theorem beginT_ok {L L' : PL} {x : List UInt8} (h : beginT L x = .ok L') : nmL x = true ∧ L' = { L with name := x } := by
  unfold beginT at h
  split at h
  · cases h
  · rename_i hn
    cases h
    exact ⟨by simpa using hn, rfl⟩
theorem weighT_ok {L L' : PL} {l : List (List UInt8)} {y : List UInt8} (h : weighT L l y = .ok L') : ∃ b v, bytesT l = .ok b ∧ numT y 65535 = .ok v ∧ L' = { L with wt := putW L.wt b v } := by
  unfold weighT at h
  cases h1 : bytesT l with
  | error e => rw [h1] at h; cases h
  | ok b =>
    rw [h1] at h
    simp only at h
    cases h2 : numT y 65535 with
    | error e => rw [h2] at h; cases h
    | ok v => rw [h2] at h; cases h; exact ⟨b, v, rfl, rfl, rfl⟩
theorem lowT_ok {L L' : PL} {x y : List UInt8} (h : lowT L x y = .ok L') : ∃ t, tabT L.lower x y = .ok t ∧ L' = { L with lower := t } := by
  unfold lowT at h
  cases h1 : tabT L.lower x y with
  | error e => rw [h1] at h; cases h
  | ok t => rw [h1] at h; cases h; exact ⟨t, rfl, rfl⟩
theorem upT_ok {L L' : PL} {x y : List UInt8} (h : upT L x y = .ok L') : ∃ t, tabT L.upper x y = .ok t ∧ L' = { L with upper := t } := by
  unfold upT at h
  cases h1 : tabT L.upper x y with
  | error e => rw [h1] at h; cases h
  | ok t => rw [h1] at h; cases h; exact ⟨t, rfl, rfl⟩
theorem classT_ok {L L' : PL} {x : List UInt8} {t : List (List UInt8)} (h : classT L x t = .ok L') : nmL x = true ∧ L.cls.any (fun c => c.1 == x) = false ∧ L.cls.length < 24 ∧ ∃ p, setT t (fun _ => false) = .ok p ∧ L' = { L with cls := L.cls ++ [(x, p)] } := by
  unfold classT at h
  split at h
  · cases h
  rename_i h1
  split at h
  · cases h
  rename_i h2
  split at h
  · cases h
  rename_i h3
  cases h4 : setT t (fun _ => false) with
  | error e => rw [h4] at h; cases h
  | ok p =>
    rw [h4] at h
    cases h
    exact ⟨by simpa using h1, Bool.eq_false_iff.2 h2, by omega, p, rfl, rfl⟩
theorem elemT_ok {L L' : PL} {x y z : List UInt8} (h : elemT L x y z = .ok L') : ∃ a b v, numT x 255 = .ok a ∧ numT y 255 = .ok b ∧ numT z 65535 = .ok v ∧ L.els.any (fun c => c.1 == pairT a b) = false ∧ L.els.length < 64 ∧ L' = { L with els := L.els ++ [(pairT a b, (v : Int))] } := by
  unfold elemT at h
  cases h1 : numT x 255 with
  | error e => rw [h1] at h; cases h
  | ok a =>
    rw [h1] at h
    simp only at h
    cases h2 : numT y 255 with
    | error e => rw [h2] at h; cases h
    | ok b =>
      rw [h2] at h
      simp only at h
      cases h3 : numT z 65535 with
      | error e => rw [h3] at h; cases h
      | ok v =>
        rw [h3] at h
        simp only at h
        split at h
        · cases h
        rename_i h4
        split at h
        · cases h
        rename_i h5
        cases h
        exact ⟨a, b, v, rfl, rfl, rfl, Bool.eq_false_iff.2 h4, by omega, rfl⟩
theorem Fit.entry {st : Bool} {L L' : PL} {k : List UInt8} {r : List (List UInt8)} (hF : Fit L) (h : entryT st L k r = .ok L') : Fit L' := by
  obtain ⟨a, b, c, d⟩ := hF
  rcases entryT_cases h with ⟨x, h⟩ | ⟨y, h⟩ | ⟨x, y, h⟩ | ⟨x, y, h⟩ | ⟨x, t, h⟩ | ⟨x, y, z, h⟩
  · obtain ⟨_, rfl⟩ := beginT_ok h
    exact ⟨a, b, c, d⟩
  · obtain ⟨_, _, _, _, rfl⟩ := weighT_ok h
    exact ⟨a, b, c, d⟩
  · obtain ⟨t, ht, rfl⟩ := lowT_ok h
    exact ⟨a, b, (tabT_len ht).trans c, d⟩
  · obtain ⟨t, ht, rfl⟩ := upT_ok h
    exact ⟨a, b, c, (tabT_len ht).trans d⟩
  · obtain ⟨_, _, h3, p, _, rfl⟩ := classT_ok h
    exact ⟨by simp; omega, b, c, d⟩
  · obtain ⟨_, _, _, _, _, _, _, h3, rfl⟩ := elemT_ok h
    exact ⟨a, by simp; omega, c, d⟩
theorem lineT_skip (n : Nat) (s : Bool × PL) (x : List UInt8) (h : skipT x = true) : lineT n s x = .ok s := by unfold lineT; rw [if_pos h]
theorem lineT_entry (n : Nat) (s : Bool × PL) (x k : List UInt8) (r : List (List UInt8)) (h : skipT x = false) (hw : wds x = k :: r) : lineT n s x = match entryT s.1 s.2 k r with
    | .error e => .error (e, n)
    | .ok L => .ok (true, L) := by
  unfold lineT
  rw [if_neg (by rw [h]; decide), hw]
  all_goals (simp only; cases entryT s.1 s.2 k r <;> rfl)
theorem Fit.line {n : Nat} {s t : Bool × PL} {x : List UInt8} (hF : Fit s.2) (h : lineT n s x = .ok t) : Fit t.2 := by
  cases hs : skipT x with
  | true => rw [lineT_skip n s x hs] at h; cases h; exact hF
  | false =>
    cases hw : wds x with
    | nil => unfold skipT at hs; rw [hw] at hs; cases hs
    | cons k r =>
      rw [lineT_entry n s x k r hs hw] at h
      cases he : entryT s.1 s.2 k r with
      | error e => rw [he] at h; cases h
      | ok L => rw [he] at h; cases h; exact hF.entry he
theorem linesT_snoc (n : Nat) (a : List (List UInt8)) (x : List UInt8) (s t : Bool × PL) (h : linesT n a s = .ok t) : linesT n (a ++ [x]) s = lineT (n + a.length) t x := by
  rw [linesT_app, h]
  simp only [linesT]
  cases lineT (n + a.length) t x <;> rfl
theorem wds_mem (x w : List UInt8) (h : w ∈ wds x) : 0 < w.length ∧ w.length ≤ x.length := by
  have h1 := (wds_plain x w h).2
  refine ⟨List.length_pos_iff.2 h1, ?_⟩
  have : ∀ (l : List (List UInt8)), w ∈ l → w.length ≤ (l.map (·.length)).sum := by
    intro l
    induction l with
    | nil => intro hw; cases hw
    | cons y l ih =>
      intro hw
      rw [List.map_cons, List.sum_cons]
      rcases List.mem_cons.1 hw with rfl | hw
      · omega
      · have := ih hw; omega
  exact Nat.le_trans (this _ h) (wds_sum x)
theorem wds_nil_of (x : List UInt8) (h : x = []) : wds x = [] := by subst h; rfl
end Go.Proofs.YticfhbffoajgcaaGreatDoor
/- The reader's memory: a locale whose slices are the call's own. -/
set_option linter.unusedVariables false
namespace Go.Proofs.YticfhbffoajgcaaGreatDoor
open Go.RowKit

/-- Of the blocks that stand only those in S may have turned. -/
structure Keep (S : Nat → Prop) (w w' : World) : Prop where
  os : w'.os = w.os
  tape : w'.tape = w.tape
  output : w'.output = w.output
  size : w.heap.size ≤ w'.heap.size
  block : ∀ k, k < w.heap.size → ¬ S k → w'.heap[k]? = w.heap[k]?
theorem Keep.refl (S : Nat → Prop) (w : World) : Keep S w w := ⟨rfl, rfl, rfl, Nat.le_refl _, fun _ _ _ => rfl⟩
theorem Keep.of_below {S : Nat → Prop} {w w' : World} (h : Below w.heap.size w w') : Keep S w w' := ⟨h.os, h.tape, h.output, h.size, fun k hk _ => h.block k hk⟩
theorem Keep.trans {S : Nat → Prop} {a b c : World} (h : Keep S a b) {S2 : Nat → Prop} (k : Keep S2 b c) (hS : ∀ g, g < a.heap.size → S2 g → S g) : Keep S a c :=
  ⟨k.os.trans h.os, k.tape.trans h.tape, k.output.trans h.output, Nat.le_trans h.size k.size, fun g hg hn => (k.block g (Nat.lt_of_lt_of_le hg h.size) (fun e => hn (hS g hg e))).trans (h.block g hg hn)⟩
theorem Keep.below {S : Nat → Prop} {w w' : World} {B : Nat} (h : Keep S w w') (hB : B ≤ w.heap.size) (hS : ∀ g, S g → B ≤ g) : Below B w w' :=
  ⟨h.os, h.tape, h.output, h.size, fun k hk => h.block k (by omega) (fun e => by have := hS k e; omega)⟩
theorem Keep.mono {S T : Nat → Prop} {w w' : World} (h : Keep S w w') (hST : ∀ g, S g → T g) : Keep T w w' := ⟨h.os, h.tape, h.output, h.size, fun k hk hn => h.block k hk (fun e => hn (hST k e))⟩
theorem Keep.next {S : Nat → Prop} {a b c : World} (h : Keep S a b) (k : Below b.heap.size b c) : Keep S a c := h.trans (Keep.of_below (S := fun _ => False) k) (fun _ _ e => e.elim)
theorem Keep.drew {S : Nat → Prop} {a w : World} (h : Keep S a w) : Keep S a w.drew := ⟨h.os, h.tape, h.output, h.size, h.block⟩
theorem Keep.alloc {S : Nat → Prop} {a w : World} (h : Keep S a w) (o : Obj) : Keep S a (w.alloc o) := h.next ((Below.refl _ _).alloc (Nat.le_refl _) _)
theorem Keep.put {S : Nat → Prop} {a w : World} (h : Keep S a w) (g j : Nat) (hg : S g ∨ a.heap.size ≤ g) (v : Value) : Keep S a (w.setCell ⟨g, j, none⟩ v) :=
  ⟨h.os, h.tape, h.output, by simpa [World.setCell] using h.size, fun k hk hn => (Below.heap_setCell w ⟨g, j, none⟩ v k (fun e => by
    have e2 : k = g := e
    subst e2
    rcases hg with hg | hg
    · exact hn hg
    · omega)).trans (h.block k hk hn)⟩
theorem Keep.grown {S : Nat → Prop} {a w w' : World} {row : Option Nat} (h : Keep S a w) (hg : w.grownBy w' row) (hr : ∀ k, row = some k → k < a.heap.size → S k) : Keep S a w' :=
  ⟨hg.os.trans h.os, hg.tape.trans h.tape, hg.output.trans h.output, Nat.le_trans h.size hg.size, fun k hk hn => (hg.block k (Nat.lt_of_lt_of_le hk h.size) (fun e => hn (hr k e.symm hk))).trans (h.block k hk hn)⟩

/-- The cells of classes, of elements. -/
def clC (l : List (List UInt8 × (Nat → Bool))) : List Value := l.flatMap fun c => .string (mk c.1) :: (cl c.2).toList
def elC (l : List (List UInt8 × Int)) : List Value := l.flatMap fun c => [.string (mk c.1), .int .i64 c.2]
theorem clC_app (l r : List (List UInt8 × (Nat → Bool))) : clC (l ++ r) = clC l ++ clC r := by unfold clC; rw [List.flatMap_append]
theorem elC_app (l r : List (List UInt8 × Int)) : elC (l ++ r) = elC l ++ elC r := by unfold elC; rw [List.flatMap_append]
theorem clC_get : ∀ (l : List (List UInt8 × (Nat → Bool))) (j i : Nat) (hj : j < l.length) (hi : i < 5), (clC l)[j * 5 + i]? = some (if i = 0 then .string (mk (l[j]).1) else .int .u64 ((wd (l[j]).2 (64 * (i - 1)) 64 : Nat) : Int)) := by
  intro l
  induction l with
  | nil => intro j i hj; cases hj
  | cons c l ih =>
    intro j i hj hi
    have e : clC (c :: l) = (.string (mk c.1) :: (cl c.2).toList) ++ clC l := rfl
    rw [e]
    cases j with
    | zero =>
      have : i = 0 ∨ i = 1 ∨ i = 2 ∨ i = 3 ∨ i = 4 := by omega
      rcases this with rfl | rfl | rfl | rfl | rfl <;> rfl
    | succ j =>
      rw [List.getElem?_append_right (by simp [cl]; omega)]
      have : (j + 1) * 5 + i - (Value.string (mk c.1) :: (cl c.2).toList).length = j * 5 + i := by simp [cl]; omega
      rw [this]
      exact ih j i (by simpa using hj) hi
theorem elC_get : ∀ (l : List (List UInt8 × Int)) (j i : Nat) (hj : j < l.length) (hi : i < 2), (elC l)[j * 2 + i]? = some (if i = 0 then .string (mk (l[j]).1) else .int .i64 (l[j]).2) := by
  intro l
  induction l with
  | nil => intro j i hj; cases hj
  | cons c l ih =>
    intro j i hj hi
    have e : elC (c :: l) = [.string (mk c.1), .int .i64 c.2] ++ elC l := rfl
    rw [e]
    cases j with
    | zero =>
      have : i = 0 ∨ i = 1 := by omega
      rcases this with rfl | rfl <;> rfl
    | succ j =>
      rw [List.getElem?_append_right (by simp; omega)]
      have : (j + 1) * 2 + i - [Value.string (mk c.1), Value.int .i64 c.2].length = j * 2 + i := by simp; omega
      rw [this]
      exact ih j i (by simpa using hj) hi

/-- The weights stand in block x, whole, and may be written. -/
def WAt (w : World) (x : Nat) (f : Nat → Int) (W : Value) : Prop := ∃ cap cs, W = .slice (some ⟨x, 0, none⟩) 256 cap ∧ 256 ≤ cap ∧ w.heap[x]? = some (.cells cs 3 (0, 0)) ∧ ∀ j, j < 256 → cs[j]? = some (.int .i64 (f j))
/-- The slices of a locale are the call's own: their blocks lie in S. -/
structure LM (S : Nat → Prop) (w : World) (L : PL) (W C E : Value) : Prop where
  make ::
  wts : ∃ x, WAt w x L.wt W ∧ S x ∧ C.ownBlock ≠ some x ∧ E.ownBlock ≠ some x
  cls : w.ownsRow 0 66 5 C L.cls.length (clC L.cls)
  els : w.ownsRow 0 68 2 E L.els.length (elC L.els)
  apart : ∀ g, C.ownBlock = some g → E.ownBlock ≠ some g
  inC : ∀ g, C.ownBlock = some g → S g
  inE : ∀ g, E.ownBlock = some g → S g
theorem own_same {w w' : World} {B n k : Nat} {t : TypeId} {v : Value} {xs : List Value} (h : w.ownsRow B t k v n xs) (hb : ∀ g, v.ownBlock = some g → g < w.heap.size → w'.heap[g]? = w.heap[g]?) : w'.ownsRow B t k v n xs := by
  obtain ⟨h1, h2⟩ := h
  refine ⟨h1, ?_⟩
  rcases h2 with h2 | ⟨g2, cap2, cur, e, hB2, hg, r⟩
  · exact .inl h2
  · exact .inr ⟨g2, cap2, cur, e, hB2, (hb g2 (by rw [e]; rfl) (Array.getElem?_eq_some_iff.1 hg).1).trans hg, r⟩
theorem WAt.same {w w' : World} {x : Nat} {f : Nat → Int} {W : Value} (h : WAt w x f W) (hb : x < w.heap.size → w'.heap[x]? = w.heap[x]?) : WAt w' x f W := by
  obtain ⟨cap, cs, e, hc, hh, hf⟩ := h
  exact ⟨cap, cs, e, hc, (hb (Array.getElem?_eq_some_iff.1 hh).1).trans hh, hf⟩
theorem LM.same {S : Nat → Prop} {w w' : World} {L : PL} {W C E : Value} (h : LM S w L W C E) (hb : ∀ g, S g → g < w.heap.size → w'.heap[g]? = w.heap[g]?) : LM S w' L W C E := by
  obtain ⟨⟨x, h1, h2, h3⟩, h4, h5, h6, h7, h8⟩ := h
  exact ⟨⟨x, h1.same (hb x h2), h2, h3⟩, own_same h4 fun g e => hb g (h7 g e), own_same h5 fun g e => hb g (h8 g e), h6, h7, h8⟩
theorem LM.next {S : Nat → Prop} {w w' : World} {L : PL} {W C E : Value} (h : LM S w L W C E) (hb : Below w.heap.size w w') : LM S w' L W C E := h.same fun g _ hg => hb.block g hg
theorem LM.more {S T : Nat → Prop} {w : World} {L : PL} {W C E : Value} (h : LM S w L W C E) (hST : ∀ g, S g → T g) : LM T w L W C E := by
  obtain ⟨⟨x, h1, h2, h3⟩, h4, h5, h6, h7, h8⟩ := h
  exact ⟨⟨x, h1, hST _ h2, h3⟩, h4, h5, h6, fun g e => hST g (h7 g e), fun g e => hST g (h8 g e)⟩
theorem own_SLk {w : World} {B n k : Nat} {t : TypeId} {v : Value} {xs : List Value} (h : w.ownsRow B t k v n xs) (f : Nat → Nat → Value) (hf : ∀ j i, j < n → i < k → xs[j * k + i]? = some (f j i)) : SL k n f w v := by
  obtain ⟨h1, h2⟩ := h
  rcases h2 with ⟨e, hn⟩ | ⟨g, cap, cur, e, _, hg, hn, _, hs, ht⟩
  · subst hn
    exact ⟨none, 0, e, Nat.le_refl _, .inl rfl⟩
  · refine ⟨_, _, e, hn, .inr ⟨g, 0, rfl, (Array.getElem?_eq_some_iff.1 hg).1, fun j i hj hi => ?_⟩⟩
    rw [cell_of_row w g _ _ _ _ hg]
    have h3 := hf j i hj hi
    rw [← ht, List.getElem?_take] at h3
    have h4 : j * k + i < n * k := by
      have : (j + 1) * k ≤ n * k := Nat.mul_le_mul_right k hj
      rw [Nat.add_mul] at this
      omega
    rw [if_pos h4] at h3
    simpa using h3
/-- A locale of the call's own stands in memory as layer 5 says it. -/
theorem LM.loc {S : Nat → Prop} {w : World} {L : PL} {W C E : Value} (h : LM S w L W C E) : LocM w (toLoc 256 L) W C E := by
  obtain ⟨⟨x, ⟨cap, cs, e, hc, hh, hf⟩, h2, h3⟩, h4, h5, h6, h7, h8⟩ := h
  refine ⟨?_, own_SLk h4 _ fun j i hj hi => ?_, own_SLk h5 _ fun j i hj hi => ?_⟩
  · refine ⟨_, _, e, hc, .inr ⟨x, 0, rfl, (Array.getElem?_eq_some_iff.1 hh).1, fun j i hj hi => ?_⟩⟩
    obtain rfl : i = 0 := by omega
    rw [cell_of_row w x _ _ _ _ hh]
    have := hf j hj
    simpa [wtF, toLoc] using this
  · rw [clC_get L.cls j i hj hi]
    simp only [clsF, toLoc, clN, clS, List.getElem?_eq_getElem hj, Option.getD_some]
  · rw [elC_get L.els j i hj hi]
    simp only [elmF, toLoc, elT, elW, List.getElem?_eq_getElem hj, Option.getD_some]
/-- A new set of blocks: what was in S, and what is new. -/
def grow (S : Nat → Prop) (w : World) : Nat → Prop := fun g => S g ∨ w.heap.size ≤ g
theorem grow_sub (S : Nat → Prop) (w : World) : ∀ g, S g → grow S w g := fun g h => .inl h
end Go.Proofs.YticfhbffoajgcaaGreatDoor
/- The reader's state in memory. -/
set_option linter.unusedVariables false
namespace Go.Proofs.YticfhbffoajgcaaGreatDoor
open Go.RowKit

def rdC (L : PL) (W C E : Value) (st : Bool) (ln : Int) : Array Value := #[.string (mk L.name), W, .string (mk L.lower), .string (mk L.upper), C, E, .bool st, .int .i64 ln]
/-- The reader in block R, its slices in S. -/
structure RD (S : Nat → Prop) (w : World) (R : Nat) (L : PL) (W C E : Value) (st : Bool) (ln : Int) : Prop where
  make ::
  lm : LM S w L W C E
  box : w.heap[R]? = some (.cells (rdC L W C E st ln) 56 (0, 0))
  out : ¬ S R
theorem RD.lt {S : Nat → Prop} {w : World} {R : Nat} {L : PL} {W C E : Value} {st : Bool} {ln : Int} (h : RD S w R L W C E st ln) : R < w.heap.size := (Array.getElem?_eq_some_iff.1 h.box).1
theorem RD.next {S : Nat → Prop} {w w' : World} {R : Nat} {L : PL} {W C E : Value} {st : Bool} {ln : Int} (h : RD S w R L W C E st ln) (hb : Below w.heap.size w w') : RD S w' R L W C E st ln :=
  ⟨h.lm.next hb, (hb.block R h.lt).trans h.box, h.out⟩
theorem RD.drew {S : Nat → Prop} {w : World} {R : Nat} {L : PL} {W C E : Value} {st : Bool} {ln : Int} (h : RD S w R L W C E st ln) : RD S w.drew R L W C E st ln := h.next (Below.refl _ _).drew
theorem RD.cells {S : Nat → Prop} {w : World} {R : Nat} {L : PL} {W C E : Value} {st : Bool} {ln : Int} (h : RD S w R L W C E st ln) :
    (w.cell? ⟨R, 0, none⟩ = some (.string (mk L.name)) ∧ w.cell? ⟨R, 1, none⟩ = some W ∧ w.cell? ⟨R, 2, none⟩ = some (.string (mk L.lower)) ∧ w.cell? ⟨R, 3, none⟩ = some (.string (mk L.upper))) ∧
    (w.cell? ⟨R, 4, none⟩ = some C ∧ w.cell? ⟨R, 5, none⟩ = some E ∧ w.cell? ⟨R, 6, none⟩ = some (.bool st) ∧ w.cell? ⟨R, 7, none⟩ = some (.int .i64 ln)) ∧ ∀ j, w.frozen? ⟨R, j, none⟩ = false :=
  ⟨⟨cell_of_row w R 0 _ _ _ h.box, cell_of_row w R 1 _ _ _ h.box, cell_of_row w R 2 _ _ _ h.box, cell_of_row w R 3 _ _ _ h.box⟩,
   ⟨cell_of_row w R 4 _ _ _ h.box, cell_of_row w R 5 _ _ _ h.box, cell_of_row w R 6 _ _ _ h.box, cell_of_row w R 7 _ _ _ h.box⟩, fun j => frozen_of_row w R j _ _ h.box⟩
theorem LM.cong {S : Nat → Prop} {w : World} {L L' : PL} {W C E : Value} (h : LM S w L W C E) (h1 : L'.wt = L.wt) (h2 : L'.cls = L.cls) (h3 : L'.els = L.els) : LM S w L' W C E := by
  obtain ⟨a, b, c, d, e, f⟩ := h
  exact ⟨by rw [h1]; exact a, by rw [h2]; exact b, by rw [h3]; exact c, d, e, f⟩
theorem RD.put {S : Nat → Prop} {w : World} {R : Nat} {L L' : PL} {W C E : Value} {st st' : Bool} {ln ln' : Int} (h : RD S w R L W C E st ln) (j : Nat) (v : Value)
    (hc : (rdC L W C E st ln).setIfInBounds j v = rdC L' W C E st' ln') (h1 : L'.wt = L.wt) (h2 : L'.cls = L.cls) (h3 : L'.els = L.els) : RD S (w.setCell ⟨R, j, none⟩ v) R L' W C E st' ln' := by
  refine ⟨(h.lm.same fun g hg _ => ?_).cong h1 h2 h3, ?_, h.out⟩
  · exact Below.heap_setCell w _ v g (fun e => h.out (by have e2 : g = R := e; rwa [e2] at hg))
  · rw [heap_setCell_same w R j _ _ v h.box, hc]
theorem RD.name {S : Nat → Prop} {w : World} {R : Nat} {L : PL} {W C E : Value} {st : Bool} {ln : Int} (h : RD S w R L W C E st ln) (x : List UInt8) : RD S (w.setCell ⟨R, 0, none⟩ (.string (mk x))) R { L with name := x } W C E st ln := h.put 0 _ rfl rfl rfl rfl
theorem RD.lower {S : Nat → Prop} {w : World} {R : Nat} {L : PL} {W C E : Value} {st : Bool} {ln : Int} (h : RD S w R L W C E st ln) (x : List UInt8) : RD S (w.setCell ⟨R, 2, none⟩ (.string (mk x))) R { L with lower := x } W C E st ln := h.put 2 _ rfl rfl rfl rfl
theorem RD.upper {S : Nat → Prop} {w : World} {R : Nat} {L : PL} {W C E : Value} {st : Bool} {ln : Int} (h : RD S w R L W C E st ln) (x : List UInt8) : RD S (w.setCell ⟨R, 3, none⟩ (.string (mk x))) R { L with upper := x } W C E st ln := h.put 3 _ rfl rfl rfl rfl
theorem RD.start {S : Nat → Prop} {w : World} {R : Nat} {L : PL} {W C E : Value} {st : Bool} {ln : Int} (h : RD S w R L W C E st ln) (b : Bool) : RD S (w.setCell ⟨R, 6, none⟩ (.bool b)) R L W C E b ln := h.put 6 _ rfl rfl rfl rfl
theorem RD.line {S : Nat → Prop} {w : World} {R : Nat} {L : PL} {W C E : Value} {st : Bool} {ln : Int} (h : RD S w R L W C E st ln) (n : Int) : RD S (w.setCell ⟨R, 7, none⟩ (.int .i64 n)) R L W C E st n := h.put 7 _ rfl rfl rfl rfl
theorem RD.more {S T : Nat → Prop} {w : World} {R : Nat} {L : PL} {W C E : Value} {st : Bool} {ln : Int} (h : RD S w R L W C E st ln) (hST : ∀ g, S g → T g) (hR : ¬ T R) : RD T w R L W C E st ln := ⟨h.lm.more hST, h.box, hR⟩
/-- The blocks of the reader and of its slices. -/
def own (S : Nat → Prop) (R : Nat) : Nat → Prop := fun g => S g ∨ g = R
theorem grow_out {S : Nat → Prop} {w : World} {R : Nat} (h : ¬ S R) (hR : R < w.heap.size) : ¬ grow S w R := fun e => by
  rcases e with e | e
  · exact h e
  · omega
/-- What a method that has done its work leaves. -/
def Did (S : Nat → Prop) (w : World) (R : Nat) (L : PL) (st : Bool) (ln : Int) (e : Ending) (w' : World) : Prop :=
  ∃ W C E, e = .returned (.tuple #[]) ∧ RD (grow S w) w' R L W C E st ln ∧ Keep (own S R) w w'
theorem Did.of {S : Nat → Prop} {w w' : World} {R : Nat} {L : PL} {st : Bool} {ln : Int} {W C E : Value} (hR : R < w.heap.size) (h : RD S w' R L W C E st ln) (hk : Keep (own S R) w w') : Did S w R L st ln (.returned (.tuple #[])) w' :=
  ⟨W, C, E, rfl, h.more (grow_sub S w) (grow_out h.out hR), hk⟩
/-- How a method ends: its work done, or a panic with the error. -/
def EndM (S : Nat → Prop) (w : World) (R : Nat) (ln : Int) (st : Bool) (r : Except Int PL) (e : Ending) (w' : World) : Prop := match r with
  | .ok L => Did S w R L st ln e w'
  | .error x => e = .panicked [{ v := .iface 27 (.int .i64 x), recovered := false }] ∧ Below w.heap.size w w'
/-- Weight n is written. -/
def put1 (f : Nat → Int) (n : Nat) (v : Int) : Nat → Int := fun j => if j = n then v else f j
theorem RD.weigh {S : Nat → Prop} {w : World} {R : Nat} {L : PL} {x cap : Nat} {C E : Value} {st : Bool} {ln : Int} (h : RD S w R L (.slice (some ⟨x, 0, none⟩) 256 cap) C E st ln) (n : Nat) (hn : n < 256) (v : Int) :
    RD S (w.setCell ⟨x, n, none⟩ (.int .i64 v)) R { L with wt := put1 L.wt n v } (.slice (some ⟨x, 0, none⟩) 256 cap) C E st ln := by
  obtain ⟨⟨⟨x2, ⟨cap2, cs, e, hc, hh, hf⟩, h2, h3⟩, h4, h5, h6, h7, h8⟩, hb, ho⟩ := h
  simp only [Value.slice.injEq, Option.some.injEq, Addr.mk.injEq, and_true, true_and] at e
  obtain ⟨rfl, rfl⟩ := e
  have hfar : ∀ g, g ≠ x → (w.setCell ⟨x, n, none⟩ (.int .i64 v)).heap[g]? = w.heap[g]? := fun g hg => Below.heap_setCell w _ _ g hg
  refine ⟨⟨⟨x, ⟨cap, cs.setIfInBounds n (.int .i64 v), rfl, hc, heap_setCell_same w x n _ _ _ hh, fun j hj => ?_⟩, h2, h3⟩, own_same h4 fun g e _ => hfar g (fun e2 => h3.1 (by rw [e, e2])), own_same h5 fun g e _ => hfar g (fun e2 => h3.2 (by rw [e, e2])), h6, h7, h8⟩, ?_, ho⟩
  · rw [Array.getElem?_setIfInBounds]
    have hsz := (Array.getElem?_eq_some_iff.1 (hf n hn)).1
    unfold put1
    by_cases hjn : j = n
    · subst hjn
      simp [hsz]
    · rw [if_neg (fun e => hjn e.symm), hf j hj]
      simp [hjn]
  · exact (hfar R (fun e => ho (by rw [e]; exact h2))).trans hb
theorem putW_snoc (f : Nat → Int) (l : List Nat) (n v : Nat) : put1 (putW f l v) n (v : Int) = putW f (l ++ [n]) v := by
  funext j
  unfold put1 putW
  by_cases h : j = n
  · subst h; simp
  · rw [if_neg h]
    have : (l ++ [n]).contains j = l.contains j := by simp [h]
    rw [this]
theorem putW_nil (f : Nat → Int) (v : Nat) : putW f [] v = f := by
  funext j
  unfold putW
  simp
/-- Bytes as values. -/
def bysN (b : List Nat) : List Value := b.map fun n : Nat => .int .u8 (n : Int)
theorem bysN_app (a b : List Nat) : bysN (a ++ b) = bysN a ++ bysN b := by unfold bysN; rw [List.map_append]
theorem RD.wat {S : Nat → Prop} {w : World} {R : Nat} {L : PL} {W C E : Value} {st : Bool} {ln : Int} (h : RD S w R L W C E st ln) : ∃ x cap, W = .slice (some ⟨x, 0, none⟩) 256 cap ∧ 256 ≤ cap ∧ S x ∧ (∀ n, n < 256 → w.cell? ⟨x, n, none⟩ = some (.int .i64 (L.wt n))) ∧ ∀ n, w.frozen? ⟨x, n, none⟩ = false := by
  obtain ⟨⟨⟨x2, ⟨cap2, cs, e, hc, hh, hf⟩, h2, h3⟩, _⟩, _⟩ := h
  exact ⟨x2, cap2, e, hc, h2, fun n hn => by rw [cell_of_row w x2 n _ _ _ hh]; exact hf n hn, fun n => frozen_of_row w x2 n _ _ hh⟩
end Go.Proofs.YticfhbffoajgcaaGreatDoor
/- A class, an element is appended to the reader's. -/
set_option linter.unusedVariables false
namespace Go.Proofs.YticfhbffoajgcaaGreatDoor
open Go.RowKit

theorem infoCl : (Tryz.prog.info? 66).map (fun i => (i.zero, i.size, i.bytes)) = some (some (.agg #[.string ⟨#[]⟩, .int .u64 0, .int .u64 0, .int .u64 0, .int .u64 0]), 5, 48) := by kernel_rfl
theorem infoEl : (Tryz.prog.info? 68).map (fun i => (i.zero, i.size, i.bytes)) = some (some (.agg #[.string ⟨#[]⟩, .int .i64 0]), 2, 24) := by kernel_rfl
theorem new_cells (w : World) (cs : List Value) (t : TypeId) (j : Nat) (u : Value) (h : cs[j]? = some u) : (w.alloc (.cells cs.toArray t)).cell? ((⟨w.heap.size, 0, none⟩ : Addr).add j) = some u := by
  have e : (⟨w.heap.size, 0, none⟩ : Addr).add j = ⟨w.heap.size, j, none⟩ := by unfold Addr.add; split <;> simp_all
  rw [e, cell_of_row _ w.heap.size j cs.toArray t (0, 0) (heap_alloc_new w _)]
  simpa using h
/-- 'append(v, x)' with x a struct of k cells in a block that has just been made. -/
theorem app_st (T E : TypeId) (z : Value) (k bytes : Nat) (ht : Tryz.prog.underlying T = some (.slice E)) (hif : (Tryz.prog.info? E).map (fun i => (i.zero, i.size, i.bytes)) = some (some z, k, bytes)) (hz : z.cells.size = k) (hk : 0 < k)
    {W : World} {ops : Array Oper} {rest : List Oper} {o : Oper} {a : Act} {Q : Exit → Act → World → Prop} (w : World) (hgd : o.guard = none) (s x : Operand)
    (ho : o.op = .call { callee := .builtin .append, args := #[s, x], argTypes := #[T, T] })
    (v : Value) (n : Nat) (xs vs : List Value) (hW : W = w.alloc (.cells vs.toArray E)) (hs : a.eval s = v) (hown : w.ownsRow 0 E k v n xs) (g0 : Nat) (hg0 : w.heap.size = g0) (hx : a.eval x = .slice (some ⟨g0, 0, none⟩) 1 1) (hl : vs.length = k) (h1 : ∀ u ∈ vs, u.oneCell' = true)
    (h63 : n + 1 ≤ maxLen) (hby : (n + 1) * bytes ≤ 140737488355328)
    (h : ∀ g cap w', w'.ownsRow 0 E k (.slice (some ⟨g, 0, none⟩) (n + 1) cap) (n + 1) (xs ++ vs) → Keep (fun b => v.ownBlock = some b) w w' → (v.ownBlock = some g ∨ w.heap.size ≤ g) → wpList Tryz.prog ops Q rest (a.put o.dst (.slice (some ⟨g, 0, none⟩) (n + 1) cap)) w') :
    wpList Tryz.prog ops Q (o :: rest) a W := by
  subst hg0
  subst hW
  obtain ⟨i0, hi, hz0, hz1, hz2⟩ := info_parts hif
  refine wpList_append_lies _ hgd s x T ho 0 E i0 z k bytes ht hi hz0 hz1 hz2 hz hk v n xs hs (hown.alloc _) ⟨w.heap.size, 0, none⟩ 1 1 vs hx (by omega) (fun j u hu => new_cells w vs E j u hu) h1 (by decide) h63 hby (Nat.zero_le _) _ rfl ?_
  intro g cap w' hown' hgrow hat hlt
  refine h g cap w' hown' (((Keep.refl _ _).alloc _).grown hgrow (fun j e _ => e)) ?_
  rcases hat with hat | hat
  · exact .inl hat
  · right; rw [hat]; simp
theorem RD.addC {S : Nat → Prop} {w w' : World} {R : Nat} {L : PL} {W C E : Value} {st : Bool} {ln : Int} (h : RD S w R L W C E st ln) (x : List UInt8) (p : Nat → Bool) (g cap : Nat) {vs : List Value} (hv : vs = clC [(x, p)])
    (ho : w'.ownsRow 0 66 5 (.slice (some ⟨g, 0, none⟩) (L.cls.length + 1) cap) (L.cls.length + 1) (clC L.cls ++ vs)) (hk : Keep (fun b => C.ownBlock = some b) w w') (hg : C.ownBlock = some g ∨ w.heap.size ≤ g) :
    RD (grow S w) (w'.setCell ⟨R, 4, none⟩ (.slice (some ⟨g, 0, none⟩) (L.cls.length + 1) cap)) R { L with cls := L.cls ++ [(x, p)] } W (.slice (some ⟨g, 0, none⟩) (L.cls.length + 1) cap) E st ln ∧ Keep (own S R) w (w'.setCell ⟨R, 4, none⟩ (.slice (some ⟨g, 0, none⟩) (L.cls.length + 1) cap)) := by
  subst hv
  have hRl := h.lt
  obtain ⟨⟨⟨xw, hw1, hw2, hw3, hw4⟩, h4, h5, h6, h7, h8⟩, hb, hout⟩ := h
  have hxl : xw < w.heap.size := by
    obtain ⟨c0, cs, _, _, hh, _⟩ := hw1
    exact (Array.getElem?_eq_some_iff.1 hh).1
  have hgR : g ≠ R := by
    rintro rfl
    rcases hg with hg | hg
    · exact hout (h7 g hg)
    · omega
  have hfar : ∀ b, b ≠ R → (w'.setCell ⟨R, 4, none⟩ (.slice (some ⟨g, 0, none⟩) (L.cls.length + 1) cap)).heap[b]? = w'.heap[b]? := fun b hb => Below.heap_setCell w' _ _ b hb
  refine ⟨⟨⟨⟨xw, hw1.same fun _ => (hfar xw (fun e => hout (e ▸ hw2))).trans (hk.block xw hxl hw3), .inl hw2, fun e => ?_, hw4⟩, ?_, ?_, ?_, ?_, fun b hb => .inl (h8 b hb)⟩, ?_, grow_out hout hRl⟩, ?_⟩
  · have e2 : g = xw := by simpa [Value.ownBlock] using e
    subst e2
    rcases hg with hg | hg
    · exact hw3 hg
    · omega
  · rw [List.length_append]
    show (w'.setCell _ _).ownsRow 0 _ 5 _ (L.cls.length + 1) (clC (L.cls ++ [(x, p)]))
    rw [clC_app]
    refine own_same ho fun b e _ => hfar b ?_
    have e2 : g = b := by simpa [Value.ownBlock] using e
    rw [← e2]; exact hgR
  · refine own_same h5 fun b e hbl => ?_
    rw [hfar b (fun e2 => hout (e2 ▸ h8 b e))]
    exact hk.block b hbl (fun e2 => h6 b e2 e)
  · intro b e e2
    have e3 : g = b := by simpa [Value.ownBlock] using e
    subst e3
    have hl := (h5.lt g e2).2
    rcases hg with hg | hg
    · exact h6 g hg e2
    · omega
  · intro b e
    have e3 : g = b := by simpa [Value.ownBlock] using e
    subst e3
    rcases hg with hg | hg
    · exact .inl (h7 g hg)
    · exact .inr hg
  · have h9 : w'.heap[R]? = some (.cells (rdC L W C E st ln) 56 (0, 0)) := (hk.block R hRl (fun e => hout (h7 R e))).trans hb
    exact heap_setCell_same w' R 4 _ _ _ h9
  · exact (hk.mono (fun b e => .inl (h7 b e))).put R 4 (.inl (.inr rfl)) _
theorem RD.addE {S : Nat → Prop} {w w' : World} {R : Nat} {L : PL} {W C E : Value} {st : Bool} {ln : Int} (h : RD S w R L W C E st ln) (x : List UInt8) (p : Int) (g cap : Nat) {vs : List Value} (hv : vs = elC [(x, p)])
    (ho : w'.ownsRow 0 68 2 (.slice (some ⟨g, 0, none⟩) (L.els.length + 1) cap) (L.els.length + 1) (elC L.els ++ vs)) (hk : Keep (fun b => E.ownBlock = some b) w w') (hg : E.ownBlock = some g ∨ w.heap.size ≤ g) :
    RD (grow S w) (w'.setCell ⟨R, 5, none⟩ (.slice (some ⟨g, 0, none⟩) (L.els.length + 1) cap)) R { L with els := L.els ++ [(x, p)] } W C (.slice (some ⟨g, 0, none⟩) (L.els.length + 1) cap) st ln ∧ Keep (own S R) w (w'.setCell ⟨R, 5, none⟩ (.slice (some ⟨g, 0, none⟩) (L.els.length + 1) cap)) := by
  subst hv
  have hRl := h.lt
  obtain ⟨⟨⟨xw, hw1, hw2, hw3, hw4⟩, h4, h5, h6, h7, h8⟩, hb, hout⟩ := h
  have hxl : xw < w.heap.size := by
    obtain ⟨c0, cs, _, _, hh, _⟩ := hw1
    exact (Array.getElem?_eq_some_iff.1 hh).1
  have hgR : g ≠ R := by
    rintro rfl
    rcases hg with hg | hg
    · exact hout (h8 g hg)
    · omega
  have hfar : ∀ b, b ≠ R → (w'.setCell ⟨R, 5, none⟩ (.slice (some ⟨g, 0, none⟩) (L.els.length + 1) cap)).heap[b]? = w'.heap[b]? := fun b hb => Below.heap_setCell w' _ _ b hb
  refine ⟨⟨⟨⟨xw, hw1.same fun _ => (hfar xw (fun e => hout (e ▸ hw2))).trans (hk.block xw hxl hw4), .inl hw2, hw3, fun e => ?_⟩, ?_, ?_, ?_, fun b hb => .inl (h7 b hb), ?_⟩, ?_, grow_out hout hRl⟩, ?_⟩
  · have e2 : g = xw := by simpa [Value.ownBlock] using e
    subst e2
    rcases hg with hg | hg
    · exact hw4 hg
    · omega
  · refine own_same h4 fun b e hbl => ?_
    rw [hfar b (fun e2 => hout (e2 ▸ h7 b e))]
    exact hk.block b hbl (fun e2 => h6 b e e2)
  · rw [List.length_append]
    show (w'.setCell _ _).ownsRow 0 _ 2 _ (L.els.length + 1) (elC (L.els ++ [(x, p)]))
    rw [elC_app]
    refine own_same ho fun b e _ => hfar b ?_
    have e2 : g = b := by simpa [Value.ownBlock] using e
    rw [← e2]; exact hgR
  · intro b e e2
    have e3 : g = b := by simpa [Value.ownBlock] using e2
    subst e3
    have hl := (h4.lt g e).2
    rcases hg with hg | hg
    · exact h6 g e hg
    · omega
  · intro b e
    have e3 : g = b := by simpa [Value.ownBlock] using e
    subst e3
    rcases hg with hg | hg
    · exact .inl (h8 g hg)
    · exact .inr hg
  · have h9 : w'.heap[R]? = some (.cells (rdC L W C E st ln) 56 (0, 0)) := (hk.block R hRl (fun e => hout (h8 R e))).trans hb
    exact heap_setCell_same w' R 5 _ _ _ h9
  · exact (hk.mono (fun b e => .inl (h8 b e))).put R 5 (.inl (.inr rfl)) _
/-- The slice of classes, of elements, as a slice. -/
theorem own_form {w : World} {B n k : Nat} {t : TypeId} {v : Value} {xs : List Value} (h : w.ownsRow B t k v n xs) : ∃ a c, v = .slice a n c := by
  rcases h.2 with ⟨e, h0⟩ | ⟨g, cap, _, e, _⟩
  · exact ⟨none, 0, by rw [e, h0]⟩
  · exact ⟨_, _, e⟩
theorem any_cls (L : PL) (x : ByteArray) : ((List.range L.cls.length).any fun j => eqS (mk (clN L j)) x) = L.cls.any (fun c => c.1 == x.data.toList) := by
  rw [Bool.eq_iff_iff, List.any_eq_true, List.any_eq_true]
  have he : ∀ l : List UInt8, eqS (mk l) x = (l == x.data.toList) := fun l => by unfold eqS; rw [toList_mk, ByteArray.toList_eq]
  constructor
  · rintro ⟨j, hj, h⟩
    have hj' : j < L.cls.length := by simpa using hj
    refine ⟨L.cls[j], List.getElem_mem hj', ?_⟩
    rw [he] at h
    simpa [clN, List.getElem?_eq_getElem hj'] using h
  · rintro ⟨c, hc, h⟩
    obtain ⟨j, hj, rfl⟩ := List.mem_iff_getElem.1 hc
    refine ⟨j, by simpa using hj, ?_⟩
    rw [he]
    simpa [clN, List.getElem?_eq_getElem hj] using h
theorem any_els (L : PL) (x : ByteArray) : ((List.range L.els.length).any fun j => eqS (mk (elT L j)) x) = L.els.any (fun c => c.1 == x.data.toList) := by
  rw [Bool.eq_iff_iff, List.any_eq_true, List.any_eq_true]
  have he : ∀ l : List UInt8, eqS (mk l) x = (l == x.data.toList) := fun l => by unfold eqS; rw [toList_mk, ByteArray.toList_eq]
  constructor
  · rintro ⟨j, hj, h⟩
    have hj' : j < L.els.length := by simpa using hj
    refine ⟨L.els[j], List.getElem_mem hj', ?_⟩
    rw [he] at h
    simpa [elT, List.getElem?_eq_getElem hj'] using h
  · rintro ⟨c, hc, h⟩
    obtain ⟨j, hj, rfl⟩ := List.mem_iff_getElem.1 hc
    refine ⟨j, by simpa using hj, ?_⟩
    rw [he]
    simpa [elT, List.getElem?_eq_getElem hj] using h
end Go.Proofs.YticfhbffoajgcaaGreatDoor
/- The reader's small functions: require, number, byteOf, isName, with their panics. -/
set_option linter.unusedVariables false
namespace Go.Proofs.YticfhbffoajgcaaGreatDoor
open Go.RowKit

/-- The chain of a panic with an error's number. -/
def pch (n : Int) : List PanicEntry := [{ v := .iface 27 (.int .i64 n), recovered := false }]
theorem post_panic {P : Program} {fn : Func} {R : Ending → World → Prop} {a : Act} {w : World} {ch : List PanicEntry} (hd : a.defers = []) (hR : R (.panicked ch) w) : bodyPost P fn R (.panic ch) a w := ⟨hd, hR⟩
set_option maxHeartbeats 400000 in
theorem require_ok (n : Int) (w : World) : Calls Tryz.prog 52 #[.bool true, .int .i64 n] w fun e w' => e = .returned (.tuple #[]) ∧ w = w' := by
  go_enter Tryz.func52, Tryz.ntmps52
  go_wp2
  go_end0
  exact ⟨rfl, rfl⟩
set_option maxHeartbeats 400000 in
theorem require_no (n : Int) (w : World) : Calls Tryz.prog 52 #[.bool false, .int .i64 n] w fun e w' => e = .panicked (pch n) ∧ w = w' := by
  unfold pch
  go_enter Tryz.func52, Tryz.ntmps52
  go_wp2
  exact post_panic rfl ⟨rfl, rfl⟩

theorem numT_syn {l : List UInt8} {m : Nat} (h : parseE l = 1) : numT l m = .error 1 := by unfold numT; rw [if_pos h]
theorem parseE_tf (l : List UInt8) : parseE l = 0 ∨ parseE l = 1 ∨ parseE l = 9 := by
  unfold parseE subE
  split
  · exact .inr (.inl rfl)
  · split
    · exact .inr (.inr rfl)
    · split
      · exact .inl rfl
      · split
        · exact .inl rfl
        · exact .inr (.inr rfl)
theorem numT_over {l : List UInt8} {m : Nat} (h : parseE l = 9) : numT l m = .error 2 := by
  unfold numT; rw [if_neg (by omega), if_neg (by omega)]
theorem numT_out {l : List UInt8} {m : Nat} (h : parseE l = 0) (h2 : ¬ (0 ≤ parseV l ∧ parseV l ≤ (m : Int))) : numT l m = .error 2 := by
  unfold numT; rw [if_neg (by omega), if_neg (fun h3 => h2 h3.2)]
theorem numT_in {l : List UInt8} {m : Nat} (h : parseE l = 0) (h2 : 0 ≤ parseV l) (h3 : parseV l ≤ (m : Int)) : numT l m = .ok (parseV l).toNat := by
  unfold numT; rw [if_neg (by omega), if_pos ⟨h, h2, h3⟩]
theorem ret_int' {k : IntKind} {a b : Int} (h : a = b) : Ending.returned (.int k a) = .returned (.int k b) := by rw [h]

/-- What a function that may panic ends with. -/
def endI (r : Except Int Nat) (k : IntKind) : Ending := match r with
  | .ok n => .returned (.int k (n : Int))
  | .error x => .panicked (pch x)
set_option maxHeartbeats 1600000 in
theorem number_any (s : ByteArray) (m : Nat) (w : World) (hs : s.size ≤ maxLen) (hm : m ≤ 1000000) :
    Calls Tryz.prog 129 #[.string s, .int .i64 (m : Int)] w fun e w' => e = endI (numT s.data.toList m) .i64 ∧ w = w' := by
  have HP := Lib.hid (parse_any s w hs)
  obtain ⟨v, hv⟩ : ∃ v, parseV s.data.toList = v := ⟨_, rfl⟩
  obtain ⟨x, hx⟩ : ∃ x, parseE s.data.toList = x := ⟨_, rfl⟩
  obtain ⟨R, hR⟩ : ∃ R, endI (numT s.data.toList m) .i64 = R := ⟨_, rfl⟩
  have htf := parseE_tf s.data.toList
  rw [hv, hx] at HP
  rw [hx] at htf
  rw [hR]
  rcases htf with rfl | rfl | rfl
  · by_cases h0 : 0 ≤ v
    · by_cases h1 : v ≤ (m : Int)
      · rw [numT_in hx (by rw [hv]; exact h0) (by rw [hv]; exact h1), hv] at hR
        have HR := Lib.hid hR
        clear hR hv hx
        go_enter Tryz.func129, Tryz.ntmps129
        go_wp2_with (first
          | (go_at_call 169; refine HP.out.mono ?_; rintro e w' ⟨rfl, rfl⟩)
          | (go_at_call 52; refine (require_ok _ _).mono ?_; rintro e w' ⟨rfl, rfl⟩))
        go_ret
        exact ⟨by rw [← HR.out]; exact ret_int' (by omega), rfl⟩
      · rw [numT_out hx (by rw [hv]; omega)] at hR
        have HR := Lib.hid hR
        have hd : decide (v ≤ (m : Int)) = false := by simpa using h1
        clear hR hv hx
        go_enter Tryz.func129, Tryz.ntmps129
        go_wp2_with (first
          | (go_at_call 169; refine HP.out.mono ?_; rintro e w' ⟨rfl, rfl⟩)
          | (go_at_call 52; with_reducible refine (require_ok _ _).mono ?_; rintro e w' ⟨rfl, rfl⟩)
          | (go_at_call 52; with_reducible refine (require_no _ _).mono ?_; rintro e w' ⟨rfl, rfl⟩))
        exact post_panic rfl ⟨by rw [← HR.out]; rfl, rfl⟩
    · rw [numT_out hx (by rw [hv]; omega)] at hR
      have HR := Lib.hid hR
      have hd : decide (0 ≤ v) = false := by simpa using h0
      clear hR hv hx
      go_enter Tryz.func129, Tryz.ntmps129
      go_wp2_with (first
        | (go_at_call 169; refine HP.out.mono ?_; rintro e w' ⟨rfl, rfl⟩)
        | (go_at_call 52; with_reducible refine (require_ok _ _).mono ?_; rintro e w' ⟨rfl, rfl⟩)
        | (go_at_call 52; with_reducible refine (require_no _ _).mono ?_; rintro e w' ⟨rfl, rfl⟩))
      exact post_panic rfl ⟨by rw [← HR.out]; rfl, rfl⟩
  · rw [numT_syn hx] at hR
    have HR := Lib.hid hR
    clear hR hv hx
    go_enter Tryz.func129, Tryz.ntmps129
    go_wp2_with (first
      | (go_at_call 169; refine HP.out.mono ?_; rintro e w' ⟨rfl, rfl⟩)
      | (go_at_call 52; with_reducible refine (require_ok _ _).mono ?_; rintro e w' ⟨rfl, rfl⟩)
      | (go_at_call 52; with_reducible refine (require_no _ _).mono ?_; rintro e w' ⟨rfl, rfl⟩))
    exact post_panic rfl ⟨by rw [← HR.out]; rfl, rfl⟩
  · rw [numT_over hx] at hR
    have HR := Lib.hid hR
    clear hR hv hx
    go_enter Tryz.func129, Tryz.ntmps129
    go_wp2_with (first
      | (go_at_call 169; refine HP.out.mono ?_; rintro e w' ⟨rfl, rfl⟩)
      | (go_at_call 52; with_reducible refine (require_ok _ _).mono ?_; rintro e w' ⟨rfl, rfl⟩)
      | (go_at_call 52; with_reducible refine (require_no _ _).mono ?_; rintro e w' ⟨rfl, rfl⟩))
    exact post_panic rfl ⟨by rw [← HR.out]; rfl, rfl⟩

theorem number_ok (s : ByteArray) (m n : Nat) (mi : Int) (hmi : (m : Int) = mi) (w : World) (hs : s.size ≤ maxLen) (hm : m ≤ 1000000) (h : numT s.data.toList m = .ok n) :
    Calls Tryz.prog 129 #[.string s, .int .i64 mi] w fun e w' => e = .returned (.int .i64 (n : Int)) ∧ w = w' := by
  subst hmi
  exact (number_any s m w hs hm).mono fun e w' ⟨he, hw⟩ => ⟨by rw [he, h]; rfl, hw⟩
theorem number_no (s : ByteArray) (m : Nat) (x mi : Int) (hmi : (m : Int) = mi) (w : World) (hs : s.size ≤ maxLen) (hm : m ≤ 1000000) (h : numT s.data.toList m = .error x) :
    Calls Tryz.prog 129 #[.string s, .int .i64 mi] w fun e w' => e = .panicked (pch x) ∧ w = w' := by
  subst hmi
  exact (number_any s m w hs hm).mono fun e w' ⟨he, hw⟩ => ⟨by rw [he, h]; rfl, hw⟩
set_option maxHeartbeats 400000 in
theorem byteOf_ok (s : ByteArray) (n : Nat) (w : World) (hs : s.size ≤ maxLen) (h : numT s.data.toList 255 = .ok n) :
    Calls Tryz.prog 128 #[.string s] w fun e w' => e = .returned (.int .u8 (n : Int)) ∧ w = w' := by
  have HP := Lib.hid (number_ok s 255 n 255 rfl w hs (by omega) h)
  have hn := numT_lt h
  have hw : IntKind.u8.wrap (n : Int) = (n : Int) := IntWalk.u8_in _ (by omega)
  clear h
  go_enter Tryz.func128, Tryz.ntmps128
  go_wp2_with (first
    | (go_at_call 129; refine HP.out.mono ?_; rintro e w' ⟨rfl, rfl⟩))
  go_ret
  exact ⟨rfl, rfl⟩
set_option maxHeartbeats 400000 in
theorem byteOf_no (s : ByteArray) (x : Int) (w : World) (hs : s.size ≤ maxLen) (h : numT s.data.toList 255 = .error x) :
    Calls Tryz.prog 128 #[.string s] w fun e w' => e = .panicked (pch x) ∧ w = w' := by
  have HP := Lib.hid (number_no s 255 x 255 rfl w hs (by omega) h)
  clear h
  go_enter Tryz.func128, Tryz.ntmps128
  go_wp2_with (first
    | (go_at_call 129; refine HP.out.mono ?_; rintro e w' ⟨rfl, rfl⟩))
  exact post_panic rfl ⟨rfl, rfl⟩

/-- A locale of nothing but a name. -/
def Lnm (s : ByteArray) : Loc := { name := s, lower := ⟨#[]⟩, upper := ⟨#[]⟩, nw := 0, wt := fun _ => 0, nc := 0, cn := fun _ => ⟨#[]⟩, cset := fun _ _ => false, ne := 0, et := fun _ => ⟨#[]⟩, ew := fun _ => 0 }
theorem chk_nm (s : ByteArray) : chk (Lnm s) = if nmB s = true then 2 else 4 := by
  unfold chk
  show (if nmB s = true then (if 0 = 256 then _ else 2) else 4) = _
  by_cases h : nmB s = true
  · rw [if_pos h, if_pos h]
    exact if_neg (by decide)
  · rw [if_neg h, if_neg h]
set_option maxHeartbeats 400000 in
theorem isName_lt (s : ByteArray) (w : World) : Calls Tryz.prog 127 #[.string s] w fun e w' => e = .returned (.bool (nmB s)) ∧ Below w.heap.size w w' := by
  have HC := Lib.hid (pCheck_any (Lnm s) (.slice none 0 0) (.slice none 0 0) (.slice none 0 0) w ⟨SL_nil _ _ _, SL_nil _ _ _, SL_nil _ _ _⟩)
  rw [chk_nm] at HC
  unfold lcl Lnm at HC
  rcases bool_tf (nmB s) with h | h
  · rw [h] at HC ⊢
    clear h
    go_enter Tryz.func127, Tryz.ntmps127
    go_wp2_with (first
      | (go_at_call 57; refine HC.out.mono ?_; rintro e w' ⟨rfl, hb⟩))
    go_ret
    exact ⟨rfl, hb⟩
  · rw [h] at HC ⊢
    clear h
    go_enter Tryz.func127, Tryz.ntmps127
    go_wp2_with (first
      | (go_at_call 57; refine HC.out.mono ?_; rintro e w' ⟨rfl, hb⟩))
    go_ret
    exact ⟨rfl, hb⟩
end Go.Proofs.YticfhbffoajgcaaGreatDoor
/- The reader's methods begin and weight. (Written by gen_ltmeth.py.) -/
set_option linter.unusedVariables false
namespace Go.Proofs.YticfhbffoajgcaaGreatDoor
open Go.RowKit

theorem nm_yes {s : ByteArray} (h : nmL s.data.toList = true) : nmB s = true := h
set_option maxHeartbeats 4000000 in
theorem begin_ok (S : Nat → Prop) (w : World) (R : Nat) (L : PL) (W C E : Value) (st : Bool) (ln : Int) (h : RD S w R L W C E st ln) (s : ByteArray) (hn : nmL s.data.toList = true) :
    Calls Tryz.prog 89 #[.pointer (some ⟨R, 0, none⟩), .string s] w (Did S w R { L with name := s.data.toList } true ln) := by
  have HN := Lib.hid (isName_lt s w)
  rw [nm_yes hn] at HN
  have HD := Lib.hid h
  have hlt := h.lt
  clear h hn
  go_enter Tryz.func89, Tryz.ntmps89
  go_wp2_with (first
    | (go_at_call 127; refine HN.out.mono ?_; rintro e w1 ⟨rfl, hb⟩; have HD1 := Lib.hid (HD.out.next hb); obtain ⟨⟨x0, x1, x2, x3⟩, ⟨x4, x5, x6, x7⟩, xf⟩ := HD1.out.cells; have HK := Lib.hid (Keep.of_below (S := own S R) hb); clear hb)
    | (go_at_call 52; refine (require_ok _ _).mono ?_; rintro e w' ⟨rfl, rfl⟩))
  go_end0
  have h1 := (HD1.out.name s.data.toList).start true
  exact Did.of hlt h1 ((HK.out.put R 0 (.inl (.inr rfl)) _).put R 6 (.inl (.inr rfl)) _)
set_option maxHeartbeats 4000000 in
theorem begin_no (S : Nat → Prop) (w : World) (R : Nat) (L : PL) (W C E : Value) (st : Bool) (ln : Int) (h : RD S w R L W C E st ln) (s : ByteArray) (hn : nmL s.data.toList = false) :
    Calls Tryz.prog 89 #[.pointer (some ⟨R, 0, none⟩), .string s] w fun e w' => e = .panicked (pch 4) ∧ Below w.heap.size w w' := by
  have HN := Lib.hid (isName_lt s w)
  rw [show nmB s = false from hn] at HN
  clear h hn
  go_enter Tryz.func89, Tryz.ntmps89
  go_wp2_with (first
    | (go_at_call 127; refine HN.out.mono ?_; rintro e w1 ⟨rfl, hb⟩; have HB := Lib.hid hb; clear hb)
    | (go_at_call 52; refine (require_no _ _).mono ?_; rintro e w' ⟨rfl, rfl⟩))
  exact post_panic rfl ⟨rfl, HB.out⟩

theorem sa_at {w : World} {v : Value} {xs : List (List UInt8)} (h : SA w v xs) : ∃ a c, v = .slice a xs.length c ∧ xs.length ≤ c ∧ ∀ k (hk : k < xs.length), ∃ b o, a = some ⟨b, o, none⟩ ∧ b < w.heap.size ∧ w.cell? ⟨b, o + k, none⟩ = some (.string (mk xs[k])) := by
  obtain ⟨a, c, h1, h2, h3⟩ := h
  refine ⟨a, c, h1, h2, fun k hk => ?_⟩
  rcases h3 with h3 | ⟨b, o, e, hb, h3⟩
  · subst h3; cases hk
  · exact ⟨b, o, e, hb, h3 k _ (List.getElem?_eq_getElem hk)⟩
set_option maxRecDepth 100000 in
set_option maxHeartbeats 8000000 in
theorem weight_any (S : Nat → Prop) (w : World) (R : Nat) (L : PL) (W C E : Value) (st : Bool) (ln : Int) (h : RD S w R L W C E st ln) (lv : Value) (xs : List (List UInt8)) (hS : SA w lv xs) (y : ByteArray) (hy : y.size ≤ maxLen) (hx : ∀ x ∈ xs, x.length ≤ maxLen) (hn : xs.length ≤ 1000000) :
    Calls Tryz.prog 90 #[.pointer (some ⟨R, 0, none⟩), lv, .string y] w (EndM S w R ln st (weighT L xs y.data.toList)) := by
  obtain ⟨Q, hQ⟩ : ∃ Q, weighT L xs y.data.toList = Q := ⟨_, rfl⟩
  rw [hQ]
  have HQ := Lib.hid hQ
  clear hQ
  have HS := Lib.hid hS
  obtain ⟨x, capW, rfl, hcw, hSx, -, -⟩ := h.wat
  have hxw : x < w.heap.size := by
    obtain ⟨⟨⟨x2, ⟨cap2, cs, e, hc, hh, hf⟩, h2, h3⟩, _⟩, _⟩ := h
    simp only [Value.slice.injEq, Option.some.injEq, Addr.mk.injEq, and_true, true_and] at e
    obtain ⟨rfl, rfl⟩ := e
    exact (Array.getElem?_eq_some_iff.1 hh).1
  have HSx := Lib.hid hSx
  clear hSx
  have hcwi : (256 : Int) ≤ capW := by omega
  obtain ⟨a, cap, rfl, hcap, hat⟩ := sa_at hS
  have HAt := Lib.hid hat
  have HD := Lib.hid h
  have HX := Lib.hid hx
  have hlt := h.lt
  clear hat h hx hS
  obtain ⟨n, hnn⟩ : ∃ n, n = xs.length := ⟨_, rfl⟩
  rw [← hnn] at hcap hn ⊢
  have HN := Lib.hid hnn
  clear hnn
  have hni : (n : Int) ≤ 1000000 := by omega
  go_enter Tryz.func90, Tryz.ntmps90
  go_wp2
  go_loopw [6, 14] (fun v0 i wr => ∃ (k : Nat) (b : List Nat) (v : Value), v = v0 ∧ k ≤ n ∧ i = .int .i64 k ∧ Hid (bytesT (xs.take k) = .ok b ∧ wr.ownsRow w.heap.size 5 1 v k (bysN b) ∧ Below w.heap.size w wr)) (fun _ i _ => n - (intOf i).toNat)
  case atStart => exact ⟨0, [], _, rfl, Nat.zero_le _, rfl, rfl, World.ownsRow_nil _ _ _ _, Below.refl _ _⟩
  case round =>
    obtain ⟨k, b, v, rfl, hk, rfl, HR⟩ := hrel
    by_cases hkn : k < n
    · have ki : (k : Int) < n := by omega
      have ki0 : (0 : Int) ≤ k := by omega
      have hkx : k < xs.length := by rw [← HN.out]; exact hkn
      obtain ⟨b0, o0, rfl, hb0, hc0⟩ := HAt.out k hkx
      have c0 : wr.cell? ⟨b0, o0 + k, none⟩ = some (.string (mk xs[k])) := by
        rw [HR.out.2.2.cell (by exact hb0)]
        exact hc0
      have hxk : (mk xs[k]).size ≤ maxLen := HX.out _ (List.getElem_mem hkx)
      have hsn := bytesT_snoc (xs.take k) xs[k]
      rw [← List.take_succ_eq_append_getElem hkx, HR.out.1] at hsn
      simp only at hsn
      cases hnk : numT xs[k] 255 with
      | error x =>
        have HB := Lib.hid (fun w => byteOf_no (mk xs[k]) x w hxk hnk)
        rw [hnk] at hsn
        have hall := bytesT_err (xs.take (k + 1)) (xs.drop (k + 1)) x hsn
        rw [List.take_append_drop] at hall
        have hq : Q = .error x := by rw [← HQ.out]; unfold weighT; rw [hall]
        have HQ2 := Lib.hid hq
        generalize mk xs[k] = X at c0 HB
        clear hsn hnk hall hq hc0 hxk
        go_wp2_with (first
          | (go_at_call 128; refine (HB.out _).mono ?_; rintro e w' ⟨rfl, rfl⟩))
        refine post_panic rfl ?_
        rw [HQ2.out]
        exact ⟨rfl, HR.out.2.2⟩
      | ok c =>
        have HB := Lib.hid (fun w => byteOf_ok (mk xs[k]) c w hxk hnk)
        rw [hnk] at hsn
        have HSn := Lib.hid hsn
        generalize mk xs[k] = X at c0 HB
        clear hsn hnk hc0 hxk
        go_wp2_with (first
          | (go_at_call 128; refine (HB.out _).mono ?_; rintro e w' ⟨rfl, rfl⟩)
          | (at_builtin; refine app_lit 80 5 (.int .u8 0) 1 Tryz.underlying80 infoB rfl wr rfl (.tmp 18) (.tmp 21) rfl w.heap.size v _ _ (bysN b) [.int .u8 (c : Int)] rfl rfl HR.out.2.1 rfl rfl ?c1 ?c2 ?c3 ?c4 ?_))
        case c1 => simp [Value.oneCell']
        case c2 => exact HR.out.2.2.size
        case c3 => unfold maxLen; omega
        case c4 => omega
        intro v' w' hown' hb'
        have HW := Lib.hid hown'
        have HB1 := Lib.hid (hb' w HR.out.2.2)
        clear hown' hb'
        go_wp2
        go_roundw
        case rel => exact ⟨k + 1, b ++ [c], _, rfl, by omega, by go_num, HSn.out, by rw [bysN_app]; exact HW.out, HB1.out⟩
        case measure => simp [intOf]; omega
    · obtain rfl : k = n := by omega
      have hb := HR.out.1
      rw [List.take_of_length_le (by rw [← HN.out]; exact Nat.le_refl _)] at hb
      have hbl := bytesT_len hb
      rw [← HN.out] at hbl
      cases hy2 : numT y.data.toList 65535 with
      | error x =>
        have HY := Lib.hid (fun w => number_no y 65535 x 65535 rfl w hy (by omega) hy2)
        have hq : Q = .error x := by rw [← HQ.out]; unfold weighT; rw [hb]; simp only; rw [hy2]
        have HQ2 := Lib.hid hq
        clear hb hbl hy2 hq
        go_wp2_with (first
          | (go_at_call 129; refine (HY.out _).mono ?_; rintro e w' ⟨rfl, rfl⟩))
        refine post_panic rfl ?_
        rw [HQ2.out]
        exact ⟨rfl, HR.out.2.2⟩
      | ok z =>
        have HY := Lib.hid (fun w => number_ok y 65535 z 65535 rfl w hy (by omega) hy2)
        have hq : Q = .ok { L with wt := putW L.wt b z } := by rw [← HQ.out]; unfold weighT; rw [hb]; simp only; rw [hy2]
        have HQ2 := Lib.hid hq
        have HBl := Lib.hid hbl
        obtain ⟨a0, cv, rfl⟩ : ∃ a0 cv, v = .slice a0 k cv := by
          rcases Joins.ownsRow_forms HR.out.2.1 with ⟨rfl, h0⟩ | ⟨g, capv, rfl⟩
          · exact ⟨none, 0, by rw [h0]⟩
          · exact ⟨_, _, rfl⟩
        clear hb hbl hy2 hq
        go_wp2_with (first
          | (go_at_call 129; refine (HY.out _).mono ?_; rintro e w' ⟨rfl, rfl⟩))
        go_loopw [28] (fun i wz => ∃ m : Nat, m ≤ k ∧ i = .int .i64 m ∧ Hid (RD S wz R { L with wt := putW L.wt (b.take m) z } (.slice (some ⟨x, 0, none⟩) 256 capW) C E st ln ∧ Keep (own S R) w wz ∧ wz.ownsRow w.heap.size 5 1 (.slice a0 k cv) k (bysN b))) (fun i _ => k - (intOf i).toNat)
        case atStart => exact ⟨0, Nat.zero_le _, rfl, by rw [List.take_zero, putW_nil]; exact HD.out.next HR.out.2.2, Keep.of_below HR.out.2.2, HR.out.2.1⟩
        case round =>
          obtain ⟨m, hm, rfl, HZ⟩ := hrel
          by_cases hmk : m < k
          · have mi : (m : Int) < k := by omega
            have mi0 : (0 : Int) ≤ m := by omega
            have hmb : m < b.length := by rw [HBl.out.1]; exact hmk
            have hb256 := HBl.out.2 _ (List.getElem_mem hmb)
            obtain ⟨c, hcb⟩ : ∃ c, c = b[m] := ⟨_, rfl⟩
            rw [← hcb] at hb256
            have HCb := Lib.hid hcb
            have hbm : (bysN b)[m]? = some (.int .u8 (c : Int)) := by unfold bysN; rw [List.getElem?_map, List.getElem?_eq_getElem hmb, hcb]; rfl
            have hnext := HZ.out.1.weigh c hb256 (z : Int)
            obtain ⟨x', capW', e', hcw', hS', hcx', hfx'⟩ := HZ.out.1.wat
            simp only [Value.slice.injEq, Option.some.injEq, Addr.mk.injEq, and_true, true_and] at e'
            obtain ⟨rfl, rfl⟩ := e'
            have hc1 := hcx' c hb256
            have hf1 := hfx' c
            obtain ⟨⟨x0, x1, x2, x3⟩, ⟨x4, x5, x6, x7⟩, xf⟩ := HZ.out.1.cells
            have hvf := Joins.ownsRow_forms HZ.out.2.2
            have HNx := Lib.hid hnext
            have c256 : (c : Int) < 256 := by omega
            have c0 : (0 : Int) ≤ c := by omega
            clear hcb hnext hcx' hfx' hS' hcw'
            rcases hvf with ⟨-, h0⟩ | ⟨g, capv, e0⟩
            · exact absurd h0 (by omega)
            · simp only [Value.slice.injEq, true_and] at e0
              obtain ⟨rfl, rfl⟩ := e0
              have hcg := HZ.out.2.2.cells rfl m _ hbm
              rw [add_j] at hcg
              have hgl := (HZ.out.2.2.lt g rfl).1
              clear hbm
              generalize { L with wt := putW L.wt (b.take m) z }.wt c = old at hc1
              go_wp2
              go_roundw
              case rel =>
                refine ⟨m + 1, by omega, by go_num, ?_, HZ.out.2.1.put x c (.inl (.inl HSx.out)) _, own_same HZ.out.2.2 fun g2 e2 _ => ?_⟩
                · have h2 := HNx.out
                  have hmb : m < b.length := by rw [HBl.out.1]; exact hmk
                  rw [List.take_succ_eq_append_getElem hmb, ← putW_snoc, ← HCb.out]
                  exact h2
                · have e3 : g2 = g := by simpa [Value.ownBlock] using e2.symm
                  subst e3
                  exact Below.heap_setCell _ _ _ _ (by show g2 ≠ x; omega)
              case measure => simp [intOf]; omega
          · obtain rfl : m = k := by omega
            have hfin := HZ.out.1
            rw [List.take_of_length_le (by rw [HBl.out.1]; exact Nat.le_refl _)] at hfin
            have HF := Lib.hid hfin
            clear hfin
            go_wp2
            go_end0
            rw [HQ2.out]
            exact Did.of hlt HF.out HZ.out.2.1
end Go.Proofs.YticfhbffoajgcaaGreatDoor
/- slices.ContainsFunc with the closures of the reader's class and element. (Written by gen_ltclo.py.) -/
set_option linter.unusedVariables false
namespace Go.Proofs.YticfhbffoajgcaaGreatDoor
open Go.RowKit

set_option maxHeartbeats 4000000 in
theorem tcloCls_any (d c : ByteArray) (v1 v2 v3 v4 : Value) (B : Nat) (w : World) (hB : B < w.heap.size) (hc : w.cell? ⟨B, 0, none⟩ = some (.string c)) :
    Calls Tryz.prog 131 #[.agg #[.string d, v1, v2, v3, v4], .pointer (some ⟨B, 0, none⟩)] w fun e w' => e = .returned (.bool (eqS d c)) ∧ Below w.heap.size w w' := by
  have hb : Below w.heap.size w (w.alloc (.cells #[.string d, v1, v2, v3, v4] 66)) := (Below.refl _ _).alloc (Nat.le_refl _) _
  have hc2 : (w.alloc (.cells #[.string d, v1, v2, v3, v4] 66)).cell? ⟨B, 0, none⟩ = some (.string c) := (hb.cell (by exact hB)).trans hc
  have HB := Lib.hid hb
  clear hb hc
  go_enter Tryz.func131, Tryz.ntmps131
  go_wp2
  go_ret
  exact ⟨rfl, HB.out⟩

set_option maxRecDepth 100000 in
set_option maxHeartbeats 4000000 in
theorem tixCls_any (n : Nat) (f : Nat → Nat → Value) (c : Nat → ByteArray) (hf : ∀ j, f j 0 = .string (c j)) (sv : Value) (cc : ByteArray) (B : Nat) (w : World) (hS : SL 5 n f w sv) (hn : n ≤ 24) (hB : B < w.heap.size) (hcc : w.cell? ⟨B, 0, none⟩ = some (.string cc)) :
    Calls Tryz.prog 170 #[sv, .func (.func 131) #[] #[.pointer (some ⟨B, 0, none⟩)]] w fun e w' => e = .returned (.int .i64 (first (fun j => eqS (c j) cc) n)) ∧ Below w.heap.size w w' := by
  obtain ⟨R, hR⟩ : ∃ R, first (fun j => eqS (c j) cc) n = R := ⟨_, rfl⟩
  rw [hR]
  have HR := Lib.hid hR
  have HCc := Lib.hid hcc
  have HBs := Lib.hid hB
  clear hR hcc hB
  obtain ⟨a, cap, rfl, hcap, hcells⟩ := hS
  have i256 : (n : Int) ≤ 24 := by omega
  rcases hcells with h0 | ⟨b, off, rfl, hlt, hcells⟩
  · subst h0
    have HN : Hid (R = -1) := HR.out.symm.trans (first_none _ _ fun q hq => by omega)
    go_enter Tryz.func170, Tryz.ntmps170
    go_wp2
    go_loopw [8] (fun i wr => i = .int .i64 0 ∧ wr = w) (fun _ _ => 0)
    case atStart => exact ⟨rfl, rfl⟩
    case round =>
      obtain ⟨rfl, rfl⟩ := hrel
      go_wp2
      go_ret
      exact ⟨by rw [HN.out] <;> rfl, Below.refl _ _⟩
  · have HC := Lib.hid hcells
    have HLt := Lib.hid hlt
    clear hcells hlt
    go_enter Tryz.func170, Tryz.ntmps170
    go_wp2
    go_loopw [8] (fun i wr => ∃ k : Nat, k ≤ n ∧ i = .int .i64 k ∧ Hid (∀ q, q < k → eqS (c q) cc = false) ∧ Hid (Below w.heap.size w wr)) (fun i _ => n - (intOf i).toNat)
    case atStart => exact ⟨0, Nat.zero_le _, rfl, fun q hq => by omega, Below.refl _ _⟩
    case round =>
      obtain ⟨k, hk, rfl, HQ, HB⟩ := hrel
      by_cases hkn : k < n
      · have ki : (k : Int) < n := by omega
        have ki0 : (0 : Int) ≤ k := by omega
        have ck0 : wr.cell? ⟨b, off + k * 5, none⟩ = some (f k 0) := by
          rw [HB.out.cell (by exact HLt.out)]
          exact HC.out k 0 hkn (by decide)
        have ck1 : wr.cell? ⟨b, off + k * 5 + 1, none⟩ = some (f k 1) := by
          rw [HB.out.cell (by exact HLt.out)]
          exact HC.out k 1 hkn (by decide)
        have ck2 : wr.cell? ⟨b, off + k * 5 + 2, none⟩ = some (f k 2) := by
          rw [HB.out.cell (by exact HLt.out)]
          exact HC.out k 2 hkn (by decide)
        have ck3 : wr.cell? ⟨b, off + k * 5 + 3, none⟩ = some (f k 3) := by
          rw [HB.out.cell (by exact HLt.out)]
          exact HC.out k 3 hkn (by decide)
        have ck4 : wr.cell? ⟨b, off + k * 5 + 4, none⟩ = some (f k 4) := by
          rw [HB.out.cell (by exact HLt.out)]
          exact HC.out k 4 hkn (by decide)
        rw [hf k] at ck0
        generalize f k 1 = v1 at *
        generalize f k 2 = v2 at *
        generalize f k 3 = v3 at *
        generalize f k 4 = v4 at *
        have HP := Lib.hid (tcloCls_any (c k) cc v1 v2 v3 v4 B wr (Nat.lt_of_lt_of_le HBs.out HB.out.size) ((HB.out.cell (by exact HBs.out)).trans HCc.out))
        obtain ⟨D, hD⟩ : ∃ D, eqS (c k) cc = D := ⟨_, rfl⟩
        rw [hD] at HP
        have HD := Lib.hid hD
        clear hD
        rcases bool_tf D with hb | hb
        · subst hb
          have HN : Hid (R = (k : Int)) := HR.out.symm.trans (first_at _ n k hkn HD.out HQ.out)
          go_wp2_with (go_at_call 131; refine HP.out.mono ?_; rintro e w1 ⟨rfl, hb⟩; have HB1 := Lib.hid (HB.out.trans (hb.mono HB.out.size)); clear hb)
          go_ret
          exact ⟨by rw [HN.out] <;> rfl, HB1.out⟩
        · subst hb
          go_wp2_with (go_at_call 131; refine HP.out.mono ?_; rintro e w1 ⟨rfl, hb⟩; have HB1 := Lib.hid (HB.out.trans (hb.mono HB.out.size)); clear hb)
          go_roundw
          case rel =>
            refine ⟨k + 1, by omega, by go_num, fun q hq => ?_, HB1.out⟩
            by_cases e : q = k
            · subst e; exact HD.out
            · exact HQ.out q (by omega)
          case measure => simp [intOf]; omega
      · obtain rfl : k = n := by omega
        have HN : Hid (R = -1) := HR.out.symm.trans (first_none _ _ HQ.out)
        go_wp2
        go_ret
        exact ⟨by rw [HN.out] <;> rfl, HB.out⟩
theorem tconCls_any (n : Nat) (f : Nat → Nat → Value) (c : Nat → ByteArray) (hf : ∀ j, f j 0 = .string (c j)) (sv : Value) (cc : ByteArray) (B : Nat) (w : World) (hS : SL 5 n f w sv) (hn : n ≤ 24) (hB : B < w.heap.size) (hcc : w.cell? ⟨B, 0, none⟩ = some (.string cc)) :
    Calls Tryz.prog 130 #[sv, .func (.func 131) #[] #[.pointer (some ⟨B, 0, none⟩)]] w fun e w' => e = .returned (.bool ((List.range n).any fun j => eqS (c j) cc)) ∧ Below w.heap.size w w' := by
  have HI := Lib.hid (tixCls_any n f c hf sv cc B w hS hn hB hcc)
  have HA := Lib.hid (first_any (fun j => eqS (c j) cc) n)
  generalize first (fun j => eqS (c j) cc) n = I at HI HA
  go_enter Tryz.func130, Tryz.ntmps130
  go_wp2_with (go_at_call 170; refine HI.out.mono ?_; rintro e w1 ⟨rfl, hb⟩; have HB1 := Lib.hid hb; clear hb)
  go_ret
  exact ⟨by rw [← HA.out] <;> rfl, HB1.out⟩

set_option maxHeartbeats 4000000 in
theorem tcloElm_any (d c : ByteArray) (v1 : Value) (B : Nat) (w : World) (hB : B < w.heap.size) (hc : w.cell? ⟨B, 0, none⟩ = some (.string c)) :
    Calls Tryz.prog 135 #[.agg #[.string d, v1], .pointer (some ⟨B, 0, none⟩)] w fun e w' => e = .returned (.bool (eqS d c)) ∧ Below w.heap.size w w' := by
  have hb : Below w.heap.size w (w.alloc (.cells #[.string d, v1] 68)) := (Below.refl _ _).alloc (Nat.le_refl _) _
  have hc2 : (w.alloc (.cells #[.string d, v1] 68)).cell? ⟨B, 0, none⟩ = some (.string c) := (hb.cell (by exact hB)).trans hc
  have HB := Lib.hid hb
  clear hb hc
  go_enter Tryz.func135, Tryz.ntmps135
  go_wp2
  go_ret
  exact ⟨rfl, HB.out⟩

set_option maxRecDepth 100000 in
set_option maxHeartbeats 4000000 in
theorem tixElm_any (n : Nat) (f : Nat → Nat → Value) (c : Nat → ByteArray) (hf : ∀ j, f j 0 = .string (c j)) (sv : Value) (cc : ByteArray) (B : Nat) (w : World) (hS : SL 2 n f w sv) (hn : n ≤ 64) (hB : B < w.heap.size) (hcc : w.cell? ⟨B, 0, none⟩ = some (.string cc)) :
    Calls Tryz.prog 172 #[sv, .func (.func 135) #[] #[.pointer (some ⟨B, 0, none⟩)]] w fun e w' => e = .returned (.int .i64 (first (fun j => eqS (c j) cc) n)) ∧ Below w.heap.size w w' := by
  obtain ⟨R, hR⟩ : ∃ R, first (fun j => eqS (c j) cc) n = R := ⟨_, rfl⟩
  rw [hR]
  have HR := Lib.hid hR
  have HCc := Lib.hid hcc
  have HBs := Lib.hid hB
  clear hR hcc hB
  obtain ⟨a, cap, rfl, hcap, hcells⟩ := hS
  have i256 : (n : Int) ≤ 64 := by omega
  rcases hcells with h0 | ⟨b, off, rfl, hlt, hcells⟩
  · subst h0
    have HN : Hid (R = -1) := HR.out.symm.trans (first_none _ _ fun q hq => by omega)
    go_enter Tryz.func172, Tryz.ntmps172
    go_wp2
    go_loopw [8] (fun i wr => i = .int .i64 0 ∧ wr = w) (fun _ _ => 0)
    case atStart => exact ⟨rfl, rfl⟩
    case round =>
      obtain ⟨rfl, rfl⟩ := hrel
      go_wp2
      go_ret
      exact ⟨by rw [HN.out] <;> rfl, Below.refl _ _⟩
  · have HC := Lib.hid hcells
    have HLt := Lib.hid hlt
    clear hcells hlt
    go_enter Tryz.func172, Tryz.ntmps172
    go_wp2
    go_loopw [8] (fun i wr => ∃ k : Nat, k ≤ n ∧ i = .int .i64 k ∧ Hid (∀ q, q < k → eqS (c q) cc = false) ∧ Hid (Below w.heap.size w wr)) (fun i _ => n - (intOf i).toNat)
    case atStart => exact ⟨0, Nat.zero_le _, rfl, fun q hq => by omega, Below.refl _ _⟩
    case round =>
      obtain ⟨k, hk, rfl, HQ, HB⟩ := hrel
      by_cases hkn : k < n
      · have ki : (k : Int) < n := by omega
        have ki0 : (0 : Int) ≤ k := by omega
        have ck0 : wr.cell? ⟨b, off + k * 2, none⟩ = some (f k 0) := by
          rw [HB.out.cell (by exact HLt.out)]
          exact HC.out k 0 hkn (by decide)
        have ck1 : wr.cell? ⟨b, off + k * 2 + 1, none⟩ = some (f k 1) := by
          rw [HB.out.cell (by exact HLt.out)]
          exact HC.out k 1 hkn (by decide)
        rw [hf k] at ck0
        generalize f k 1 = v1 at *
        have HP := Lib.hid (tcloElm_any (c k) cc v1 B wr (Nat.lt_of_lt_of_le HBs.out HB.out.size) ((HB.out.cell (by exact HBs.out)).trans HCc.out))
        obtain ⟨D, hD⟩ : ∃ D, eqS (c k) cc = D := ⟨_, rfl⟩
        rw [hD] at HP
        have HD := Lib.hid hD
        clear hD
        rcases bool_tf D with hb | hb
        · subst hb
          have HN : Hid (R = (k : Int)) := HR.out.symm.trans (first_at _ n k hkn HD.out HQ.out)
          go_wp2_with (go_at_call 135; refine HP.out.mono ?_; rintro e w1 ⟨rfl, hb⟩; have HB1 := Lib.hid (HB.out.trans (hb.mono HB.out.size)); clear hb)
          go_ret
          exact ⟨by rw [HN.out] <;> rfl, HB1.out⟩
        · subst hb
          go_wp2_with (go_at_call 135; refine HP.out.mono ?_; rintro e w1 ⟨rfl, hb⟩; have HB1 := Lib.hid (HB.out.trans (hb.mono HB.out.size)); clear hb)
          go_roundw
          case rel =>
            refine ⟨k + 1, by omega, by go_num, fun q hq => ?_, HB1.out⟩
            by_cases e : q = k
            · subst e; exact HD.out
            · exact HQ.out q (by omega)
          case measure => simp [intOf]; omega
      · obtain rfl : k = n := by omega
        have HN : Hid (R = -1) := HR.out.symm.trans (first_none _ _ HQ.out)
        go_wp2
        go_ret
        exact ⟨by rw [HN.out] <;> rfl, HB.out⟩
theorem tconElm_any (n : Nat) (f : Nat → Nat → Value) (c : Nat → ByteArray) (hf : ∀ j, f j 0 = .string (c j)) (sv : Value) (cc : ByteArray) (B : Nat) (w : World) (hS : SL 2 n f w sv) (hn : n ≤ 64) (hB : B < w.heap.size) (hcc : w.cell? ⟨B, 0, none⟩ = some (.string cc)) :
    Calls Tryz.prog 134 #[sv, .func (.func 135) #[] #[.pointer (some ⟨B, 0, none⟩)]] w fun e w' => e = .returned (.bool ((List.range n).any fun j => eqS (c j) cc)) ∧ Below w.heap.size w w' := by
  have HI := Lib.hid (tixElm_any n f c hf sv cc B w hS hn hB hcc)
  have HA := Lib.hid (first_any (fun j => eqS (c j) cc) n)
  generalize first (fun j => eqS (c j) cc) n = I at HI HA
  go_enter Tryz.func134, Tryz.ntmps134
  go_wp2_with (go_at_call 172; refine HI.out.mono ?_; rintro e w1 ⟨rfl, hb⟩; have HB1 := Lib.hid hb; clear hb)
  go_ret
  exact ⟨by rw [← HA.out] <;> rfl, HB1.out⟩
end Go.Proofs.YticfhbffoajgcaaGreatDoor
/- A range of bytes: the program's rangeOf. (Written by gen_ltrange.py.) -/
set_option linter.unusedVariables false
namespace Go.Proofs.YticfhbffoajgcaaGreatDoor
open Go.RowKit

theorem ib_dash (s : ByteArray) : ∀ w : World, Calls Tryz.prog 171 #[.string (s.extract 1 s.size), .int .u8 45] w fun e w' => e = .returned (.int .i64 (Lib.indexByte (s.data.toList.drop 1) 45)) ∧ w = w' := by
  intro w
  rw [ext_drop]
  exact ib_any _ 45 w
theorem ib_lt (l : List UInt8) (c : UInt8) : Lib.indexByte l c = -1 ∨ ∃ k : Nat, Lib.indexByte l c = (k : Int) ∧ k < l.length := by
  have h := Lib.indexByte_ge l c
  by_cases h1 : Lib.indexByte l c = -1
  · exact .inl h1
  · obtain ⟨k, hk⟩ : ∃ k : Nat, Lib.indexByte l c = (k : Int) := ⟨(Lib.indexByte l c).toNat, by omega⟩
    refine .inr ⟨k, hk, ?_⟩
    have h2 := (Lib.indexByte_some hk).1
    exact (List.getElem?_eq_some_iff.1 h2).1
set_option maxRecDepth 100000 in
set_option maxHeartbeats 4000000 in
theorem range_one_ok (s : ByteArray) (hs0 : 0 < s.size) (hs : s.size ≤ 1000000) (w : World) (n : Nat) (hD : Lib.indexByte (s.data.toList.drop 1) 45 = -1) (hn : numT s.data.toList 255 = .ok n) :
    Calls Tryz.prog 133 #[.string s] w fun e w' => e = .returned (cs (between n n)) ∧ Below w.heap.size w w' := by
  have hm : s.size ≤ maxLen := by unfold maxLen; omega
  have HI := Lib.hid (ib_dash s)
  have HN := Lib.hid (fun w => byteOf_ok s n w hm hn)
  have hlt := numT_lt hn
  have HR := Lib.hid (fun w => range_any n n (by omega) (by omega) w)
  rw [hD] at HI
  have HB : Hid (Below w.heap.size w (w.alloc (.cells (cl fun _ => false) 37))) := (Below.refl _ _).alloc (Nat.le_refl _) _
  have HA : Hid (At (w.alloc (.cells (cl fun _ => false) 37)) w.heap.size (fun _ => false)) := At.new w _
  clear hD hn hm
  have h1 : (1 : Int) ≤ s.size := by omega
  unfold cs cl at *
  go_enter Tryz.func133, Tryz.ntmps133
  go_wp2_with (first
    | (go_at_call 171; refine (HI.out _).mono ?_; rintro e w' ⟨rfl, rfl⟩)
    | (go_at_call 128; refine (HN.out _).mono ?_; rintro e w' ⟨rfl, rfl⟩)
    | (go_at_call 154; refine (HR.out _).mono ?_; rintro e w1 ⟨rfl, hb⟩; have HB1 := Lib.hid (HB.out.trans (hb.mono HB.out.size)); have HA1 := Lib.hid (HA.out.below hb HA.out.lt); obtain ⟨⟨d0, d1⟩, ⟨d2, d3⟩, hg⟩ := HA1.out.words; clear hb))
  exact bodyPost_ret (v := cs (between n n)) (ret_cs (q := between n n) Tryz.results133 _ _ w.heap.size (by simp) (HA1.out.put4 _)) rfl ⟨rfl, below_put4 HB1.out _ (Nat.le_refl _) _⟩
set_option maxRecDepth 100000 in
set_option maxHeartbeats 4000000 in
theorem range_one_no (s : ByteArray) (hs0 : 0 < s.size) (hs : s.size ≤ 1000000) (w : World) (x : Int) (hD : Lib.indexByte (s.data.toList.drop 1) 45 = -1) (hn : numT s.data.toList 255 = .error x) :
    Calls Tryz.prog 133 #[.string s] w fun e w' => e = .panicked (pch x) ∧ Below w.heap.size w w' := by
  have hm : s.size ≤ maxLen := by unfold maxLen; omega
  have HI := Lib.hid (ib_dash s)
  have HN := Lib.hid (fun w => byteOf_no s x w hm hn)
  rw [hD] at HI
  have HB : Hid (Below w.heap.size w (w.alloc (.cells (cl fun _ => false) 37))) := (Below.refl _ _).alloc (Nat.le_refl _) _
  have HA : Hid (At (w.alloc (.cells (cl fun _ => false) 37)) w.heap.size (fun _ => false)) := At.new w _
  clear hD hn hm
  have h1 : (1 : Int) ≤ s.size := by omega
  unfold cs cl at *
  go_enter Tryz.func133, Tryz.ntmps133
  go_wp2_with (first
    | (go_at_call 171; refine (HI.out _).mono ?_; rintro e w' ⟨rfl, rfl⟩)
    | (go_at_call 128; refine (HN.out _).mono ?_; rintro e w' ⟨rfl, rfl⟩))
  exact post_panic rfl ⟨rfl, HB.out⟩
set_option maxRecDepth 100000 in
set_option maxHeartbeats 4000000 in
theorem range_two_no1 (s : ByteArray) (hs0 : 0 < s.size) (hs : s.size ≤ 1000000) (w : World) (k : Nat) (x : Int) (hD : Lib.indexByte (s.data.toList.drop 1) 45 = (k : Int)) (hk : k + 1 < s.size) (h1 : numT (s.data.toList.take (k + 1)) 255 = .error x) :
    Calls Tryz.prog 133 #[.string s] w fun e w' => e = .panicked (pch x) ∧ Below w.heap.size w w' := by
  have hm : s.size ≤ maxLen := by unfold maxLen; omega
  have HI := Lib.hid (ib_dash s)
  rw [hD] at HI
  have hk1 : (k : Int) + 1 < s.size := by omega
  have hkw : IntKind.i64.wrap ((k : Int) + 1) = ((k + 1 : Nat) : Int) := by rw [IntWalk.i64_in _ (by omega)]; omega
  have hkw2 : IntKind.i64.wrap (((k + 1 : Nat) : Int) + 1) = ((k + 2 : Nat) : Int) := by rw [IntWalk.i64_in _ (by omega)]; omega
  obtain ⟨S1, hS1⟩ : ∃ S1, s.extract 0 (k + 1) = S1 := ⟨_, rfl⟩
  obtain ⟨S2, hS2⟩ : ∃ S2, s.extract (k + 2) s.size = S2 := ⟨_, rfl⟩
  have hz1 : S1.size ≤ maxLen := by rw [← hS1]; unfold maxLen; simp; omega
  have hz2 : S2.size ≤ maxLen := by rw [← hS2]; unfold maxLen; simp; omega
  rw [show s.data.toList.take (k + 1) = S1.data.toList by rw [← hS1, ext_take]; rfl] at h1
  have H1 := Lib.hid (fun w => byteOf_no S1 x w hz1 h1)
  have HB : Hid (Below w.heap.size w (w.alloc (.cells (cl fun _ => false) 37))) := (Below.refl _ _).alloc (Nat.le_refl _) _
  have HA : Hid (At (w.alloc (.cells (cl fun _ => false) 37)) w.heap.size (fun _ => false)) := At.new w _
  clear h1
  clear hD hm hz1 hz2
  have h1s : (1 : Int) ≤ s.size := by omega
  have e1 : (((k + 1 : Nat) : Int) == 0) = false := by simp; omega
  obtain ⟨d1, hd1⟩ : ∃ d1, d1 = k + 1 := ⟨_, rfl⟩
  obtain ⟨d2, hd2⟩ : ∃ d2, d2 = k + 2 := ⟨_, rfl⟩
  rw [← hd1] at hkw hkw2 hS1 e1
  rw [← hd2] at hkw2 hS2
  have b1 : (d1 : Int) ≤ s.size := by omega
  have b2 : (d2 : Int) ≤ s.size := by omega
  have b3 : (0 : Int) ≤ d1 := by omega
  have b4 : (0 : Int) ≤ d2 := by omega
  clear hd1 hd2 hk1
  unfold cs cl at *
  go_enter Tryz.func133, Tryz.ntmps133
  go_wp2_with (first
    | (go_at_call 171; refine (HI.out _).mono ?_; rintro e w' ⟨rfl, rfl⟩))
  refine wp_region_held_drew (S := fun w' => Below w.heap.size w w' ∧ At w' w.heap.size (fun _ => false)) (by kernel_rfl) ?_ (fun hHeld => ?_)
  · exact ⟨HB.out.drew, HA.out.drew⟩
  refine wpAnyH_take (i := 0) (v := ?av0) rfl (by kernel_rfl) (by kernel_rfl) (by kernel_rfl) (fun _ _ _ h => h) (Or.inl ⟨by rfl, ?ay0⟩) (by assumption) ?ar0
  case ay0 =>
    intro wx hSw
    clear hSw
    go_simp
    first | done | (with_reducible rfl)
  (try simp only [Act.put, List.getElem_toArray, List.getElem_cons_zero, List.setIfInBounds_toArray, List.set_cons_zero, List.set_cons_succ])
  refine wpAnyH_take (i := 1) (v := ?av1) rfl (by kernel_rfl) (by kernel_rfl) (by kernel_rfl) (fun _ _ _ h => h) (Or.inl ⟨by rfl, ?ay1⟩) (by assumption) ?ar1
  case ay1 =>
    intro wx hSw
    clear hSw
    go_simp
    first | done | (with_reducible rfl)
  (try simp only [Act.put, List.getElem_toArray, List.getElem_cons_succ, List.getElem_cons_zero, List.setIfInBounds_toArray, List.set_cons_zero, List.set_cons_succ])
  refine wpAnyH_take (i := 2) (v := ?av2) rfl (by kernel_rfl) (by kernel_rfl) (by kernel_rfl) (fun _ _ _ h => h) (Or.inl ⟨by rfl, ?ay2⟩) (by assumption) ?ar2
  case ay2 =>
    intro wx hSw
    clear hSw
    go_simp
    first | done | (with_reducible rfl)
  (try simp only [Act.put, List.getElem_toArray, List.getElem_cons_succ, List.getElem_cons_zero, List.setIfInBounds_toArray, List.set_cons_zero, List.set_cons_succ])
  refine wpAnyH_take (i := 4) (v := ?av4) rfl (by kernel_rfl) (by kernel_rfl) (by kernel_rfl) (fun _ _ _ h => h) (Or.inl ⟨by rfl, ?ay4⟩) (by assumption) ?ar4
  case ay4 =>
    intro wx hSw
    clear hSw
    go_simp
    first | done | (with_reducible rfl)
  (try simp only [Act.put, List.getElem_toArray, List.getElem_cons_succ, List.getElem_cons_zero, List.setIfInBounds_toArray, List.set_cons_zero, List.set_cons_succ])
  refine wpAnyH_take (i := 5) (v := ?av5) rfl (by kernel_rfl) (by kernel_rfl) (by kernel_rfl) (fun _ _ _ h => h) (Or.inl ⟨by rfl, ?ay5⟩) (by assumption) ?ar5
  case ay5 =>
    intro wx hSw
    clear hSw
    go_simp
    first | done | (with_reducible rfl)
  (try simp only [Act.put, List.getElem_toArray, List.getElem_cons_succ, List.getElem_cons_zero, List.setIfInBounds_toArray, List.set_cons_zero, List.set_cons_succ])
  refine wpAnyH_take (i := 6) (v := ?av6) rfl (by kernel_rfl) (by kernel_rfl) (by kernel_rfl) (fun _ _ _ h => h) (Or.inl ⟨by rfl, ?ay6⟩) (by assumption) ?ar6
  case ay6 =>
    intro wx hSw
    clear hSw
    go_simp
    first | done | (with_reducible rfl)
  (try simp only [Act.put, List.getElem_toArray, List.getElem_cons_succ, List.getElem_cons_zero, List.setIfInBounds_toArray, List.set_cons_zero, List.set_cons_succ])
  refine wpAnyH_take (i := 7) (v := ?av7) rfl (by kernel_rfl) (by kernel_rfl) (by kernel_rfl) (fun _ _ _ h => h) (Or.inl ⟨by rfl, ?ay7⟩) (by assumption) ?ar7
  case ay7 =>
    intro wx hSw
    clear hSw
    go_simp
    first | done | (with_reducible rfl)
  (try simp only [Act.put, List.getElem_toArray, List.getElem_cons_succ, List.getElem_cons_zero, List.setIfInBounds_toArray, List.set_cons_zero, List.set_cons_succ])
  refine wpAnyH_ready (rs := [3]) (by kernel_rfl) (by simp) ?_
  refine AllReadyH.cons rfl (fun K hK => ?_) AllReadyH.nil
  go_simp
  go_at_call 128
  refine (H1.out _).mono ?_
  rintro e w1 ⟨rfl, rfl⟩
  exact post_panic rfl ⟨rfl, hHeld.1⟩
set_option maxRecDepth 100000 in
set_option maxHeartbeats 4000000 in
theorem range_two_no2 (s : ByteArray) (hs0 : 0 < s.size) (hs : s.size ≤ 1000000) (w : World) (k n : Nat) (x : Int) (hD : Lib.indexByte (s.data.toList.drop 1) 45 = (k : Int)) (hk : k + 1 < s.size) (h1 : numT (s.data.toList.take (k + 1)) 255 = .ok n) (h2 : numT (s.data.toList.drop (k + 2)) 255 = .error x) :
    Calls Tryz.prog 133 #[.string s] w fun e w' => e = .panicked (pch x) ∧ Below w.heap.size w w' := by
  have hm : s.size ≤ maxLen := by unfold maxLen; omega
  have HI := Lib.hid (ib_dash s)
  rw [hD] at HI
  have hk1 : (k : Int) + 1 < s.size := by omega
  have hkw : IntKind.i64.wrap ((k : Int) + 1) = ((k + 1 : Nat) : Int) := by rw [IntWalk.i64_in _ (by omega)]; omega
  have hkw2 : IntKind.i64.wrap (((k + 1 : Nat) : Int) + 1) = ((k + 2 : Nat) : Int) := by rw [IntWalk.i64_in _ (by omega)]; omega
  obtain ⟨S1, hS1⟩ : ∃ S1, s.extract 0 (k + 1) = S1 := ⟨_, rfl⟩
  obtain ⟨S2, hS2⟩ : ∃ S2, s.extract (k + 2) s.size = S2 := ⟨_, rfl⟩
  have hz1 : S1.size ≤ maxLen := by rw [← hS1]; unfold maxLen; simp; omega
  have hz2 : S2.size ≤ maxLen := by rw [← hS2]; unfold maxLen; simp; omega
  rw [show s.data.toList.take (k + 1) = S1.data.toList by rw [← hS1, ext_take]; rfl] at h1
  rw [show s.data.toList.drop (k + 2) = S2.data.toList by rw [← hS2, ext_drop]; rfl] at h2
  have H1 := Lib.hid (fun w => byteOf_ok S1 n w hz1 h1)
  have H2 := Lib.hid (fun w => byteOf_no S2 x w hz2 h2)
  have HB : Hid (Below w.heap.size w (w.alloc (.cells (cl fun _ => false) 37))) := (Below.refl _ _).alloc (Nat.le_refl _) _
  have HA : Hid (At (w.alloc (.cells (cl fun _ => false) 37)) w.heap.size (fun _ => false)) := At.new w _
  clear h1 h2
  clear hD hm hz1 hz2
  have h1s : (1 : Int) ≤ s.size := by omega
  have e1 : (((k + 1 : Nat) : Int) == 0) = false := by simp; omega
  obtain ⟨d1, hd1⟩ : ∃ d1, d1 = k + 1 := ⟨_, rfl⟩
  obtain ⟨d2, hd2⟩ : ∃ d2, d2 = k + 2 := ⟨_, rfl⟩
  rw [← hd1] at hkw hkw2 hS1 e1
  rw [← hd2] at hkw2 hS2
  have b1 : (d1 : Int) ≤ s.size := by omega
  have b2 : (d2 : Int) ≤ s.size := by omega
  have b3 : (0 : Int) ≤ d1 := by omega
  have b4 : (0 : Int) ≤ d2 := by omega
  clear hd1 hd2 hk1
  unfold cs cl at *
  go_enter Tryz.func133, Tryz.ntmps133
  go_wp2_with (first
    | (go_at_call 171; refine (HI.out _).mono ?_; rintro e w' ⟨rfl, rfl⟩))
  refine wp_region_held_drew (S := fun w' => Below w.heap.size w w' ∧ At w' w.heap.size (fun _ => false)) (by kernel_rfl) ?_ (fun hHeld => ?_)
  · exact ⟨HB.out.drew, HA.out.drew⟩
  refine wpAnyH_take (i := 0) (v := ?av0) rfl (by kernel_rfl) (by kernel_rfl) (by kernel_rfl) (fun _ _ _ h => h) (Or.inl ⟨by rfl, ?ay0⟩) (by assumption) ?ar0
  case ay0 =>
    intro wx hSw
    clear hSw
    go_simp
    first | done | (with_reducible rfl)
  (try simp only [Act.put, List.getElem_toArray, List.getElem_cons_zero, List.setIfInBounds_toArray, List.set_cons_zero, List.set_cons_succ])
  refine wpAnyH_take (i := 1) (v := ?av1) rfl (by kernel_rfl) (by kernel_rfl) (by kernel_rfl) (fun _ _ _ h => h) (Or.inl ⟨by rfl, ?ay1⟩) (by assumption) ?ar1
  case ay1 =>
    intro wx hSw
    clear hSw
    go_simp
    first | done | (with_reducible rfl)
  (try simp only [Act.put, List.getElem_toArray, List.getElem_cons_succ, List.getElem_cons_zero, List.setIfInBounds_toArray, List.set_cons_zero, List.set_cons_succ])
  refine wpAnyH_take (i := 2) (v := ?av2) rfl (by kernel_rfl) (by kernel_rfl) (by kernel_rfl) (fun _ _ _ h => h) (Or.inl ⟨by rfl, ?ay2⟩) (by assumption) ?ar2
  case ay2 =>
    intro wx hSw
    clear hSw
    go_simp
    first | done | (with_reducible rfl)
  (try simp only [Act.put, List.getElem_toArray, List.getElem_cons_succ, List.getElem_cons_zero, List.setIfInBounds_toArray, List.set_cons_zero, List.set_cons_succ])
  refine wpAnyH_take (i := 4) (v := ?av4) rfl (by kernel_rfl) (by kernel_rfl) (by kernel_rfl) (fun _ _ _ h => h) (Or.inl ⟨by rfl, ?ay4⟩) (by assumption) ?ar4
  case ay4 =>
    intro wx hSw
    clear hSw
    go_simp
    first | done | (with_reducible rfl)
  (try simp only [Act.put, List.getElem_toArray, List.getElem_cons_succ, List.getElem_cons_zero, List.setIfInBounds_toArray, List.set_cons_zero, List.set_cons_succ])
  refine wpAnyH_take (i := 5) (v := ?av5) rfl (by kernel_rfl) (by kernel_rfl) (by kernel_rfl) (fun _ _ _ h => h) (Or.inl ⟨by rfl, ?ay5⟩) (by assumption) ?ar5
  case ay5 =>
    intro wx hSw
    clear hSw
    go_simp
    first | done | (with_reducible rfl)
  (try simp only [Act.put, List.getElem_toArray, List.getElem_cons_succ, List.getElem_cons_zero, List.setIfInBounds_toArray, List.set_cons_zero, List.set_cons_succ])
  refine wpAnyH_take (i := 6) (v := ?av6) rfl (by kernel_rfl) (by kernel_rfl) (by kernel_rfl) (fun _ _ _ h => h) (Or.inl ⟨by rfl, ?ay6⟩) (by assumption) ?ar6
  case ay6 =>
    intro wx hSw
    clear hSw
    go_simp
    first | done | (with_reducible rfl)
  (try simp only [Act.put, List.getElem_toArray, List.getElem_cons_succ, List.getElem_cons_zero, List.setIfInBounds_toArray, List.set_cons_zero, List.set_cons_succ])
  refine wpAnyH_take (i := 7) (v := ?av7) rfl (by kernel_rfl) (by kernel_rfl) (by kernel_rfl) (fun _ _ _ h => h) (Or.inl ⟨by rfl, ?ay7⟩) (by assumption) ?ar7
  case ay7 =>
    intro wx hSw
    clear hSw
    go_simp
    first | done | (with_reducible rfl)
  (try simp only [Act.put, List.getElem_toArray, List.getElem_cons_succ, List.getElem_cons_zero, List.setIfInBounds_toArray, List.set_cons_zero, List.set_cons_succ])
  refine wpAnyH_ready (rs := [3]) (by kernel_rfl) (by simp) ?_
  refine AllReadyH.cons rfl (fun K hK => ?_) AllReadyH.nil
  go_simp
  go_at_call 128
  refine (H1.out _).mono ?_
  rintro e w1 ⟨rfl, rfl⟩
  refine hK.out _ _ ?_ (fun hH1 => ?_)
  · exact hHeld
  clear hK K
  (try simp only [Act.put, List.getElem_toArray, List.getElem_cons_succ, List.getElem_cons_zero, List.setIfInBounds_toArray, List.set_cons_zero, List.set_cons_succ])
  refine wpAnyH_ready (rs := [8]) (by kernel_rfl) (by simp) ?_
  refine AllReadyH.cons rfl (fun K hK => ?_) AllReadyH.nil
  go_simp
  go_at_call 128
  refine (H2.out _).mono ?_
  rintro e w1 ⟨rfl, rfl⟩
  exact post_panic rfl ⟨rfl, hH1.1⟩
set_option maxRecDepth 100000 in
set_option maxHeartbeats 4000000 in
theorem range_two_ok (s : ByteArray) (hs0 : 0 < s.size) (hs : s.size ≤ 1000000) (w : World) (k n m : Nat) (hD : Lib.indexByte (s.data.toList.drop 1) 45 = (k : Int)) (hk : k + 1 < s.size) (h1 : numT (s.data.toList.take (k + 1)) 255 = .ok n) (h2 : numT (s.data.toList.drop (k + 2)) 255 = .ok m) (hnm : n ≤ m) :
    Calls Tryz.prog 133 #[.string s] w fun e w' => e = .returned (cs (between n m)) ∧ Below w.heap.size w w' := by
  have hm : s.size ≤ maxLen := by unfold maxLen; omega
  have HI := Lib.hid (ib_dash s)
  rw [hD] at HI
  have hk1 : (k : Int) + 1 < s.size := by omega
  have hkw : IntKind.i64.wrap ((k : Int) + 1) = ((k + 1 : Nat) : Int) := by rw [IntWalk.i64_in _ (by omega)]; omega
  have hkw2 : IntKind.i64.wrap (((k + 1 : Nat) : Int) + 1) = ((k + 2 : Nat) : Int) := by rw [IntWalk.i64_in _ (by omega)]; omega
  obtain ⟨S1, hS1⟩ : ∃ S1, s.extract 0 (k + 1) = S1 := ⟨_, rfl⟩
  obtain ⟨S2, hS2⟩ : ∃ S2, s.extract (k + 2) s.size = S2 := ⟨_, rfl⟩
  have hz1 : S1.size ≤ maxLen := by rw [← hS1]; unfold maxLen; simp; omega
  have hz2 : S2.size ≤ maxLen := by rw [← hS2]; unfold maxLen; simp; omega
  rw [show s.data.toList.take (k + 1) = S1.data.toList by rw [← hS1, ext_take]; rfl] at h1
  rw [show s.data.toList.drop (k + 2) = S2.data.toList by rw [← hS2, ext_drop]; rfl] at h2
  have H1 := Lib.hid (fun w => byteOf_ok S1 n w hz1 h1)
  have H2 := Lib.hid (fun w => byteOf_ok S2 m w hz2 h2)
  have l1 := numT_lt h1
  have l2 := numT_lt h2
  have HR := Lib.hid (fun w => range_any n m (by omega) (by omega) w)
  have hdec : decide (n ≤ m) = true := by simpa using hnm
  have hdeci : decide ((n : Int) ≤ m) = true := by simp; omega
  have HB : Hid (Below w.heap.size w (w.alloc (.cells (cl fun _ => false) 37))) := (Below.refl _ _).alloc (Nat.le_refl _) _
  have HA : Hid (At (w.alloc (.cells (cl fun _ => false) 37)) w.heap.size (fun _ => false)) := At.new w _
  clear h1 h2 hnm l1 l2
  clear hD hm hz1 hz2
  have h1s : (1 : Int) ≤ s.size := by omega
  have e1 : (((k + 1 : Nat) : Int) == 0) = false := by simp; omega
  obtain ⟨d1, hd1⟩ : ∃ d1, d1 = k + 1 := ⟨_, rfl⟩
  obtain ⟨d2, hd2⟩ : ∃ d2, d2 = k + 2 := ⟨_, rfl⟩
  rw [← hd1] at hkw hkw2 hS1 e1
  rw [← hd2] at hkw2 hS2
  have b1 : (d1 : Int) ≤ s.size := by omega
  have b2 : (d2 : Int) ≤ s.size := by omega
  have b3 : (0 : Int) ≤ d1 := by omega
  have b4 : (0 : Int) ≤ d2 := by omega
  clear hd1 hd2 hk1
  unfold cs cl at *
  go_enter Tryz.func133, Tryz.ntmps133
  go_wp2_with (first
    | (go_at_call 171; refine (HI.out _).mono ?_; rintro e w' ⟨rfl, rfl⟩))
  refine wp_region_held_drew (S := fun w' => Below w.heap.size w w' ∧ At w' w.heap.size (fun _ => false)) (by kernel_rfl) ?_ (fun hHeld => ?_)
  · exact ⟨HB.out.drew, HA.out.drew⟩
  refine wpAnyH_take (i := 0) (v := ?av0) rfl (by kernel_rfl) (by kernel_rfl) (by kernel_rfl) (fun _ _ _ h => h) (Or.inl ⟨by rfl, ?ay0⟩) (by assumption) ?ar0
  case ay0 =>
    intro wx hSw
    clear hSw
    go_simp
    first | done | (with_reducible rfl)
  (try simp only [Act.put, List.getElem_toArray, List.getElem_cons_zero, List.setIfInBounds_toArray, List.set_cons_zero, List.set_cons_succ])
  refine wpAnyH_take (i := 1) (v := ?av1) rfl (by kernel_rfl) (by kernel_rfl) (by kernel_rfl) (fun _ _ _ h => h) (Or.inl ⟨by rfl, ?ay1⟩) (by assumption) ?ar1
  case ay1 =>
    intro wx hSw
    clear hSw
    go_simp
    first | done | (with_reducible rfl)
  (try simp only [Act.put, List.getElem_toArray, List.getElem_cons_succ, List.getElem_cons_zero, List.setIfInBounds_toArray, List.set_cons_zero, List.set_cons_succ])
  refine wpAnyH_take (i := 2) (v := ?av2) rfl (by kernel_rfl) (by kernel_rfl) (by kernel_rfl) (fun _ _ _ h => h) (Or.inl ⟨by rfl, ?ay2⟩) (by assumption) ?ar2
  case ay2 =>
    intro wx hSw
    clear hSw
    go_simp
    first | done | (with_reducible rfl)
  (try simp only [Act.put, List.getElem_toArray, List.getElem_cons_succ, List.getElem_cons_zero, List.setIfInBounds_toArray, List.set_cons_zero, List.set_cons_succ])
  refine wpAnyH_take (i := 4) (v := ?av4) rfl (by kernel_rfl) (by kernel_rfl) (by kernel_rfl) (fun _ _ _ h => h) (Or.inl ⟨by rfl, ?ay4⟩) (by assumption) ?ar4
  case ay4 =>
    intro wx hSw
    clear hSw
    go_simp
    first | done | (with_reducible rfl)
  (try simp only [Act.put, List.getElem_toArray, List.getElem_cons_succ, List.getElem_cons_zero, List.setIfInBounds_toArray, List.set_cons_zero, List.set_cons_succ])
  refine wpAnyH_take (i := 5) (v := ?av5) rfl (by kernel_rfl) (by kernel_rfl) (by kernel_rfl) (fun _ _ _ h => h) (Or.inl ⟨by rfl, ?ay5⟩) (by assumption) ?ar5
  case ay5 =>
    intro wx hSw
    clear hSw
    go_simp
    first | done | (with_reducible rfl)
  (try simp only [Act.put, List.getElem_toArray, List.getElem_cons_succ, List.getElem_cons_zero, List.setIfInBounds_toArray, List.set_cons_zero, List.set_cons_succ])
  refine wpAnyH_take (i := 6) (v := ?av6) rfl (by kernel_rfl) (by kernel_rfl) (by kernel_rfl) (fun _ _ _ h => h) (Or.inl ⟨by rfl, ?ay6⟩) (by assumption) ?ar6
  case ay6 =>
    intro wx hSw
    clear hSw
    go_simp
    first | done | (with_reducible rfl)
  (try simp only [Act.put, List.getElem_toArray, List.getElem_cons_succ, List.getElem_cons_zero, List.setIfInBounds_toArray, List.set_cons_zero, List.set_cons_succ])
  refine wpAnyH_take (i := 7) (v := ?av7) rfl (by kernel_rfl) (by kernel_rfl) (by kernel_rfl) (fun _ _ _ h => h) (Or.inl ⟨by rfl, ?ay7⟩) (by assumption) ?ar7
  case ay7 =>
    intro wx hSw
    clear hSw
    go_simp
    first | done | (with_reducible rfl)
  (try simp only [Act.put, List.getElem_toArray, List.getElem_cons_succ, List.getElem_cons_zero, List.setIfInBounds_toArray, List.set_cons_zero, List.set_cons_succ])
  refine wpAnyH_ready (rs := [3]) (by kernel_rfl) (by simp) ?_
  refine AllReadyH.cons rfl (fun K hK => ?_) AllReadyH.nil
  go_simp
  go_at_call 128
  refine (H1.out _).mono ?_
  rintro e w1 ⟨rfl, rfl⟩
  refine hK.out _ _ ?_ (fun hH1 => ?_)
  · exact hHeld
  clear hK K
  (try simp only [Act.put, List.getElem_toArray, List.getElem_cons_succ, List.getElem_cons_zero, List.setIfInBounds_toArray, List.set_cons_zero, List.set_cons_succ])
  refine wpAnyH_ready (rs := [8]) (by kernel_rfl) (by simp) ?_
  refine AllReadyH.cons rfl (fun K hK => ?_) AllReadyH.nil
  go_simp
  go_at_call 128
  refine (H2.out _).mono ?_
  rintro e w1 ⟨rfl, rfl⟩
  refine hK.out _ _ ?_ (fun hH2 => ?_)
  · exact hH1
  clear hK K
  (try simp only [Act.put, List.getElem_toArray, List.getElem_cons_succ, List.getElem_cons_zero, List.setIfInBounds_toArray, List.set_cons_zero, List.set_cons_succ])
  refine wpAnyH_take (i := 9) (v := ?bv9) rfl (by kernel_rfl) (by kernel_rfl) (by kernel_rfl) (fun _ _ _ h => h) (Or.inl ⟨by rfl, ?by9⟩) (by assumption) ?br9
  case by9 =>
    intro wx hSw
    clear hSw
    go_simp
    first | done | (with_reducible rfl)
  (try simp only [Act.put, List.getElem_toArray, List.getElem_cons_succ, List.getElem_cons_zero, List.setIfInBounds_toArray, List.set_cons_zero, List.set_cons_succ])
  refine wpAnyH_take (i := 10) (v := ?bv10) rfl (by kernel_rfl) (by kernel_rfl) (by kernel_rfl) (fun _ _ _ h => h) (Or.inl ⟨by rfl, ?by10⟩) (by assumption) ?br10
  case by10 =>
    intro wx hSw
    clear hSw
    go_simp
    first | done | (with_reducible rfl)
  (try simp only [Act.put, List.getElem_toArray, List.getElem_cons_succ, List.getElem_cons_zero, List.setIfInBounds_toArray, List.set_cons_zero, List.set_cons_succ])
  refine wpAnyH_done (by kernel_rfl) ?_ _
  have HB1 := Lib.hid hH2.1
  have HA1 := Lib.hid hH2.2
  clear hHeld hH1 hH2 HB HA
  go_wp2_with (first
    | (go_at_call 52; with_reducible refine (require_ok _ _).mono ?_; rintro e w' ⟨rfl, rfl⟩)
    | (go_at_call 154; refine (HR.out _).mono ?_; rintro e w1 ⟨rfl, hb⟩; have HB2 := Lib.hid (HB1.out.trans (hb.mono HB1.out.size)); have HA2 := Lib.hid (HA1.out.below hb HA1.out.lt); obtain ⟨⟨d0, d1⟩, ⟨d2, d3⟩, hg⟩ := HA2.out.words; clear hb))
  exact bodyPost_ret (v := cs (between n m)) (ret_cs (q := between n m) Tryz.results133 _ _ w.heap.size (by simp) (HA2.out.put4 _)) rfl ⟨rfl, below_put4 HB2.out _ (Nat.le_refl _) _⟩
set_option maxRecDepth 100000 in
set_option maxHeartbeats 4000000 in
theorem range_two_gt (s : ByteArray) (hs0 : 0 < s.size) (hs : s.size ≤ 1000000) (w : World) (k n m : Nat) (hD : Lib.indexByte (s.data.toList.drop 1) 45 = (k : Int)) (hk : k + 1 < s.size) (h1 : numT (s.data.toList.take (k + 1)) 255 = .ok n) (h2 : numT (s.data.toList.drop (k + 2)) 255 = .ok m) (hnm : ¬ n ≤ m) :
    Calls Tryz.prog 133 #[.string s] w fun e w' => e = .panicked (pch 2) ∧ Below w.heap.size w w' := by
  have hm : s.size ≤ maxLen := by unfold maxLen; omega
  have HI := Lib.hid (ib_dash s)
  rw [hD] at HI
  have hk1 : (k : Int) + 1 < s.size := by omega
  have hkw : IntKind.i64.wrap ((k : Int) + 1) = ((k + 1 : Nat) : Int) := by rw [IntWalk.i64_in _ (by omega)]; omega
  have hkw2 : IntKind.i64.wrap (((k + 1 : Nat) : Int) + 1) = ((k + 2 : Nat) : Int) := by rw [IntWalk.i64_in _ (by omega)]; omega
  obtain ⟨S1, hS1⟩ : ∃ S1, s.extract 0 (k + 1) = S1 := ⟨_, rfl⟩
  obtain ⟨S2, hS2⟩ : ∃ S2, s.extract (k + 2) s.size = S2 := ⟨_, rfl⟩
  have hz1 : S1.size ≤ maxLen := by rw [← hS1]; unfold maxLen; simp; omega
  have hz2 : S2.size ≤ maxLen := by rw [← hS2]; unfold maxLen; simp; omega
  rw [show s.data.toList.take (k + 1) = S1.data.toList by rw [← hS1, ext_take]; rfl] at h1
  rw [show s.data.toList.drop (k + 2) = S2.data.toList by rw [← hS2, ext_drop]; rfl] at h2
  have H1 := Lib.hid (fun w => byteOf_ok S1 n w hz1 h1)
  have H2 := Lib.hid (fun w => byteOf_ok S2 m w hz2 h2)
  have l1 := numT_lt h1
  have l2 := numT_lt h2
  have HR := Lib.hid (fun w => range_any n m (by omega) (by omega) w)
  have hdec : decide (n ≤ m) = false := by simpa using hnm
  have hdeci : decide ((n : Int) ≤ m) = false := by simp; omega
  have HB : Hid (Below w.heap.size w (w.alloc (.cells (cl fun _ => false) 37))) := (Below.refl _ _).alloc (Nat.le_refl _) _
  have HA : Hid (At (w.alloc (.cells (cl fun _ => false) 37)) w.heap.size (fun _ => false)) := At.new w _
  clear h1 h2 hnm l1 l2
  clear hD hm hz1 hz2
  have h1s : (1 : Int) ≤ s.size := by omega
  have e1 : (((k + 1 : Nat) : Int) == 0) = false := by simp; omega
  obtain ⟨d1, hd1⟩ : ∃ d1, d1 = k + 1 := ⟨_, rfl⟩
  obtain ⟨d2, hd2⟩ : ∃ d2, d2 = k + 2 := ⟨_, rfl⟩
  rw [← hd1] at hkw hkw2 hS1 e1
  rw [← hd2] at hkw2 hS2
  have b1 : (d1 : Int) ≤ s.size := by omega
  have b2 : (d2 : Int) ≤ s.size := by omega
  have b3 : (0 : Int) ≤ d1 := by omega
  have b4 : (0 : Int) ≤ d2 := by omega
  clear hd1 hd2 hk1
  unfold cs cl at *
  go_enter Tryz.func133, Tryz.ntmps133
  go_wp2_with (first
    | (go_at_call 171; refine (HI.out _).mono ?_; rintro e w' ⟨rfl, rfl⟩))
  refine wp_region_held_drew (S := fun w' => Below w.heap.size w w' ∧ At w' w.heap.size (fun _ => false)) (by kernel_rfl) ?_ (fun hHeld => ?_)
  · exact ⟨HB.out.drew, HA.out.drew⟩
  refine wpAnyH_take (i := 0) (v := ?av0) rfl (by kernel_rfl) (by kernel_rfl) (by kernel_rfl) (fun _ _ _ h => h) (Or.inl ⟨by rfl, ?ay0⟩) (by assumption) ?ar0
  case ay0 =>
    intro wx hSw
    clear hSw
    go_simp
    first | done | (with_reducible rfl)
  (try simp only [Act.put, List.getElem_toArray, List.getElem_cons_zero, List.setIfInBounds_toArray, List.set_cons_zero, List.set_cons_succ])
  refine wpAnyH_take (i := 1) (v := ?av1) rfl (by kernel_rfl) (by kernel_rfl) (by kernel_rfl) (fun _ _ _ h => h) (Or.inl ⟨by rfl, ?ay1⟩) (by assumption) ?ar1
  case ay1 =>
    intro wx hSw
    clear hSw
    go_simp
    first | done | (with_reducible rfl)
  (try simp only [Act.put, List.getElem_toArray, List.getElem_cons_succ, List.getElem_cons_zero, List.setIfInBounds_toArray, List.set_cons_zero, List.set_cons_succ])
  refine wpAnyH_take (i := 2) (v := ?av2) rfl (by kernel_rfl) (by kernel_rfl) (by kernel_rfl) (fun _ _ _ h => h) (Or.inl ⟨by rfl, ?ay2⟩) (by assumption) ?ar2
  case ay2 =>
    intro wx hSw
    clear hSw
    go_simp
    first | done | (with_reducible rfl)
  (try simp only [Act.put, List.getElem_toArray, List.getElem_cons_succ, List.getElem_cons_zero, List.setIfInBounds_toArray, List.set_cons_zero, List.set_cons_succ])
  refine wpAnyH_take (i := 4) (v := ?av4) rfl (by kernel_rfl) (by kernel_rfl) (by kernel_rfl) (fun _ _ _ h => h) (Or.inl ⟨by rfl, ?ay4⟩) (by assumption) ?ar4
  case ay4 =>
    intro wx hSw
    clear hSw
    go_simp
    first | done | (with_reducible rfl)
  (try simp only [Act.put, List.getElem_toArray, List.getElem_cons_succ, List.getElem_cons_zero, List.setIfInBounds_toArray, List.set_cons_zero, List.set_cons_succ])
  refine wpAnyH_take (i := 5) (v := ?av5) rfl (by kernel_rfl) (by kernel_rfl) (by kernel_rfl) (fun _ _ _ h => h) (Or.inl ⟨by rfl, ?ay5⟩) (by assumption) ?ar5
  case ay5 =>
    intro wx hSw
    clear hSw
    go_simp
    first | done | (with_reducible rfl)
  (try simp only [Act.put, List.getElem_toArray, List.getElem_cons_succ, List.getElem_cons_zero, List.setIfInBounds_toArray, List.set_cons_zero, List.set_cons_succ])
  refine wpAnyH_take (i := 6) (v := ?av6) rfl (by kernel_rfl) (by kernel_rfl) (by kernel_rfl) (fun _ _ _ h => h) (Or.inl ⟨by rfl, ?ay6⟩) (by assumption) ?ar6
  case ay6 =>
    intro wx hSw
    clear hSw
    go_simp
    first | done | (with_reducible rfl)
  (try simp only [Act.put, List.getElem_toArray, List.getElem_cons_succ, List.getElem_cons_zero, List.setIfInBounds_toArray, List.set_cons_zero, List.set_cons_succ])
  refine wpAnyH_take (i := 7) (v := ?av7) rfl (by kernel_rfl) (by kernel_rfl) (by kernel_rfl) (fun _ _ _ h => h) (Or.inl ⟨by rfl, ?ay7⟩) (by assumption) ?ar7
  case ay7 =>
    intro wx hSw
    clear hSw
    go_simp
    first | done | (with_reducible rfl)
  (try simp only [Act.put, List.getElem_toArray, List.getElem_cons_succ, List.getElem_cons_zero, List.setIfInBounds_toArray, List.set_cons_zero, List.set_cons_succ])
  refine wpAnyH_ready (rs := [3]) (by kernel_rfl) (by simp) ?_
  refine AllReadyH.cons rfl (fun K hK => ?_) AllReadyH.nil
  go_simp
  go_at_call 128
  refine (H1.out _).mono ?_
  rintro e w1 ⟨rfl, rfl⟩
  refine hK.out _ _ ?_ (fun hH1 => ?_)
  · exact hHeld
  clear hK K
  (try simp only [Act.put, List.getElem_toArray, List.getElem_cons_succ, List.getElem_cons_zero, List.setIfInBounds_toArray, List.set_cons_zero, List.set_cons_succ])
  refine wpAnyH_ready (rs := [8]) (by kernel_rfl) (by simp) ?_
  refine AllReadyH.cons rfl (fun K hK => ?_) AllReadyH.nil
  go_simp
  go_at_call 128
  refine (H2.out _).mono ?_
  rintro e w1 ⟨rfl, rfl⟩
  refine hK.out _ _ ?_ (fun hH2 => ?_)
  · exact hH1
  clear hK K
  (try simp only [Act.put, List.getElem_toArray, List.getElem_cons_succ, List.getElem_cons_zero, List.setIfInBounds_toArray, List.set_cons_zero, List.set_cons_succ])
  refine wpAnyH_take (i := 9) (v := ?bv9) rfl (by kernel_rfl) (by kernel_rfl) (by kernel_rfl) (fun _ _ _ h => h) (Or.inl ⟨by rfl, ?by9⟩) (by assumption) ?br9
  case by9 =>
    intro wx hSw
    clear hSw
    go_simp
    first | done | (with_reducible rfl)
  (try simp only [Act.put, List.getElem_toArray, List.getElem_cons_succ, List.getElem_cons_zero, List.setIfInBounds_toArray, List.set_cons_zero, List.set_cons_succ])
  refine wpAnyH_take (i := 10) (v := ?bv10) rfl (by kernel_rfl) (by kernel_rfl) (by kernel_rfl) (fun _ _ _ h => h) (Or.inl ⟨by rfl, ?by10⟩) (by assumption) ?br10
  case by10 =>
    intro wx hSw
    clear hSw
    go_simp
    first | done | (with_reducible rfl)
  (try simp only [Act.put, List.getElem_toArray, List.getElem_cons_succ, List.getElem_cons_zero, List.setIfInBounds_toArray, List.set_cons_zero, List.set_cons_succ])
  refine wpAnyH_done (by kernel_rfl) ?_ _
  have HB1 := Lib.hid hH2.1
  have HA1 := Lib.hid hH2.2
  clear hHeld hH1 hH2 HB HA
  go_wp2_with (first
    | (go_at_call 52; with_reducible refine (require_no _ _).mono ?_; rintro e w' ⟨rfl, rfl⟩))
  exact post_panic rfl ⟨rfl, HB1.out⟩

theorem len_pos_of {s : ByteArray} (h : 0 < s.size) : 0 < s.data.toList.length := by rw [size_len]; exact h
theorem rangeOf_ok (s : ByteArray) (hs0 : 0 < s.size) (hs : s.size ≤ 1000000) (w : World) (ab : Nat × Nat) (h : spanT s.data.toList = .ok ab) :
    Calls Tryz.prog 133 #[.string s] w fun e w' => e = .returned (cs (between ab.1 ab.2)) ∧ Below w.heap.size w w' := by
  unfold spanT at h
  rcases ib_lt (s.data.toList.drop 1) 45 with hD | ⟨k, hD, hk⟩
  · rw [if_pos hD] at h
    cases hn : numT s.data.toList 255 with
    | error x => rw [hn] at h; cases h
    | ok n =>
      rw [hn] at h
      cases h
      exact range_one_ok s hs0 hs w n hD hn
  · rw [hD] at h
    rw [if_neg (by omega)] at h
    simp only [Int.toNat_natCast] at h
    have hk1 : k + 1 < s.size := by rw [List.length_drop, size_len] at hk; omega
    cases h1 : numT (s.data.toList.take (k + 1)) 255 with
    | error x => rw [h1] at h; cases h
    | ok n =>
      rw [h1] at h
      simp only at h
      cases h2 : numT (s.data.toList.drop (k + 2)) 255 with
      | error x => rw [h2] at h; cases h
      | ok m =>
        rw [h2] at h
        simp only at h
        by_cases hnm : n ≤ m
        · rw [if_pos hnm] at h
          cases h
          exact range_two_ok s hs0 hs w k n m hD hk1 h1 h2 hnm
        · rw [if_neg hnm] at h
          cases h
theorem rangeOf_no (s : ByteArray) (hs0 : 0 < s.size) (hs : s.size ≤ 1000000) (w : World) (x : Int) (h : spanT s.data.toList = .error x) :
    Calls Tryz.prog 133 #[.string s] w fun e w' => e = .panicked (pch x) ∧ Below w.heap.size w w' := by
  unfold spanT at h
  rcases ib_lt (s.data.toList.drop 1) 45 with hD | ⟨k, hD, hk⟩
  · rw [if_pos hD] at h
    cases hn : numT s.data.toList 255 with
    | error y =>
      rw [hn] at h
      cases h
      exact range_one_no s hs0 hs w x hD hn
    | ok n => rw [hn] at h; cases h
  · rw [hD] at h
    rw [if_neg (by omega)] at h
    simp only [Int.toNat_natCast] at h
    have hk1 : k + 1 < s.size := by rw [List.length_drop, size_len] at hk; omega
    cases h1 : numT (s.data.toList.take (k + 1)) 255 with
    | error y =>
      rw [h1] at h
      cases h
      exact range_two_no1 s hs0 hs w k x hD hk1 h1
    | ok n =>
      rw [h1] at h
      simp only at h
      cases h2 : numT (s.data.toList.drop (k + 2)) 255 with
      | error y =>
        rw [h2] at h
        cases h
        exact range_two_no2 s hs0 hs w k n x hD hk1 h1 h2
      | ok m =>
        rw [h2] at h
        simp only at h
        by_cases hnm : n ≤ m
        · rw [if_pos hnm] at h
          cases h
        · rw [if_neg hnm] at h
          cases h
          exact range_two_gt s hs0 hs w k n m hD hk1 h1 h2 hnm
end Go.Proofs.YticfhbffoajgcaaGreatDoor
/- The reader's method class. (Written by gen_ltcls.py.) -/
set_option linter.unusedVariables false
namespace Go.Proofs.YticfhbffoajgcaaGreatDoor
open Go.RowKit

theorem lt_of_cell {w : World} {b o : Nat} {v : Value} (h : w.cell? ⟨b, o, none⟩ = some v) : b < w.heap.size := by
  rcases Nat.lt_or_ge b w.heap.size with h1 | h1
  · exact h1
  · simp [World.cell?, Array.getElem?_eq_none h1] at h
theorem classT_name {L : PL} {x : List UInt8} (r : List (List UInt8)) (h : nmL x = false) : classT L x r = .error 4 := by unfold classT; rw [if_pos h]
theorem classT_dup {L : PL} {x : List UInt8} (r : List (List UInt8)) (h : nmL x = true) (h2 : L.cls.any (fun c => c.1 == x) = true) : classT L x r = .error 6 := by unfold classT; rw [if_neg (by rw [h]; decide), if_pos h2]
theorem classT_many {L : PL} {x : List UInt8} (r : List (List UInt8)) (h : nmL x = true) (h2 : L.cls.any (fun c => c.1 == x) = false) (h3 : 24 ≤ L.cls.length) : classT L x r = .error 3 := by unfold classT; rw [if_neg (by rw [h]; decide), if_neg (by rw [h2]; decide), if_pos h3]
theorem classT_set {L : PL} {x : List UInt8} (r : List (List UInt8)) (h : nmL x = true) (h2 : L.cls.any (fun c => c.1 == x) = false) (h3 : ¬ 24 ≤ L.cls.length) : classT L x r = match setT r (fun _ => false) with
    | .error e => .error e
    | .ok p => .ok { L with cls := L.cls ++ [(x, p)] } := by unfold classT; rw [if_neg (by rw [h]; decide), if_neg (by rw [h2]; decide), if_neg h3]; all_goals (cases setT r (fun _ => false) <;> rfl)
/-- The state of the loop over the ranges: the name's box, the set. -/
def CS3 (w0 : World) (G : Nat) (s : ByteArray) (p : Nat → Bool) (w : World) : Prop := Below w0.heap.size w0 w ∧ At w G p ∧ w.cell? ⟨w0.heap.size, 0, none⟩ = some (.string s)
theorem CS3.keep {w0 w w' : World} {G : Nat} {s : ByteArray} {p : Nat → Bool} (hb : Below w.heap.size w w') (h : CS3 w0 G s p w) : CS3 w0 G s p w' := ⟨h.1.trans (hb.mono h.1.size), h.2.1.below hb h.2.1.lt, keep_words hb h.2.2⟩
theorem CS3.drew {w0 w : World} {G : Nat} {s : ByteArray} {p : Nat → Bool} (h : CS3 w0 G s p w) : CS3 w0 G s p w.drew := h.keep (Below.refl _ _).drew
theorem CS3.set {w0 w : World} {G : Nat} {s : ByteArray} {p : Nat → Bool} (h : CS3 w0 G s p w) (hG : w0.heap.size < G) (q : Nat → Bool) : CS3 w0 G s q (w.setRow G (cl q)) := by
  have hrow : ∀ k, k ≠ G → (w.setRow G (cl q)).heap[k]? = w.heap[k]? := fun k hk => setRow_other w G k _ hk
  refine ⟨h.1.trans ⟨rfl, rfl, rfl, ?_, fun k hk => hrow k (by omega)⟩, h.2.1.set q, ?_⟩
  · simp [World.setRow]
  · rw [World.cell?_of_block (w := w) (hrow _ (by show w0.heap.size ≠ G; omega))]
    exact h.2.2
set_option maxRecDepth 100000 in
set_option maxHeartbeats 8000000 in
theorem class_name (S : Nat → Prop) (w : World) (R : Nat) (L : PL) (W C E : Value) (st : Bool) (ln : Int) (h : RD S w R L W C E st ln) (s : ByteArray) (rv : Value) (rs : List (List UInt8)) (hn : nmL s.data.toList = false) :
    Calls Tryz.prog 92 #[.pointer (some ⟨R, 0, none⟩), .string s, rv] w (EndM S w R ln st (classT L s.data.toList rs)) := by
  obtain ⟨Q, hQ⟩ : ∃ Q, classT L s.data.toList rs = Q := ⟨_, rfl⟩
  rw [hQ]
  have hmf : ∀ (fn : Fn) (first cap : Array Value) (w : World), (Instr.makeFunc fn first cap).run Tryz.prog w = .ok (.func fn first cap) w := fun _ _ _ _ => rfl
  obtain ⟨aC, capC, rfl⟩ := own_form h.lm.cls
  have HB : Hid (Below w.heap.size w (w.alloc (.cells #[.string s] 9))) := (Below.refl _ _).alloc (Nat.le_refl _) _
  have HD := Lib.hid (h.next HB.out)
  have HD0 := Lib.hid h
  have HBx : Hid ((w.alloc (.cells #[.string s] 9)).cell? ⟨w.heap.size, 0, none⟩ = some (.string s)) := cell_of_row _ w.heap.size 0 _ _ (0, 0) (heap_alloc_new w _)
  have hlt := h.lt
  have HN := Lib.hid (fun w => isName_lt s w)
  obtain ⟨⟨y0, y1, y2, y3⟩, ⟨y4, y5, y6, y7⟩, yf⟩ := HD.out.cells
  have HQ : Hid (Q = .error 4) := by rw [← hQ]; exact classT_name rs hn
  rw [show nmB s = false from hn] at HN
  clear h hn hQ
  go_enter Tryz.func92, Tryz.ntmps92
  go_wp2_with (first
    | (go_at_call 127; refine (HN.out _).mono ?_; rintro e w1 ⟨rfl, hb⟩; have HB1 := Lib.hid (HB.out.trans (hb.mono HB.out.size)); clear hb)
    | (go_at_call 52; with_reducible refine (require_no _ _).mono ?_; rintro e w' ⟨rfl, rfl⟩))
  refine post_panic rfl ?_
  rw [HQ.out]
  exact ⟨rfl, HB1.out⟩
set_option maxRecDepth 100000 in
set_option maxHeartbeats 8000000 in
theorem class_dup (S : Nat → Prop) (w : World) (R : Nat) (L : PL) (W C E : Value) (st : Bool) (ln : Int) (h : RD S w R L W C E st ln) (s : ByteArray) (rv : Value) (rs : List (List UInt8)) (h24 : L.cls.length ≤ 24) (hn : nmL s.data.toList = true) (hd : L.cls.any (fun c => c.1 == s.data.toList) = true) :
    Calls Tryz.prog 92 #[.pointer (some ⟨R, 0, none⟩), .string s, rv] w (EndM S w R ln st (classT L s.data.toList rs)) := by
  obtain ⟨Q, hQ⟩ : ∃ Q, classT L s.data.toList rs = Q := ⟨_, rfl⟩
  rw [hQ]
  have hmf : ∀ (fn : Fn) (first cap : Array Value) (w : World), (Instr.makeFunc fn first cap).run Tryz.prog w = .ok (.func fn first cap) w := fun _ _ _ _ => rfl
  obtain ⟨aC, capC, rfl⟩ := own_form h.lm.cls
  have HB : Hid (Below w.heap.size w (w.alloc (.cells #[.string s] 9))) := (Below.refl _ _).alloc (Nat.le_refl _) _
  have HD := Lib.hid (h.next HB.out)
  have HD0 := Lib.hid h
  have HBx : Hid ((w.alloc (.cells #[.string s] 9)).cell? ⟨w.heap.size, 0, none⟩ = some (.string s)) := cell_of_row _ w.heap.size 0 _ _ (0, 0) (heap_alloc_new w _)
  have hlt := h.lt
  have HN := Lib.hid (fun w => isName_lt s w)
  obtain ⟨⟨y0, y1, y2, y3⟩, ⟨y4, y5, y6, y7⟩, yf⟩ := HD.out.cells
  have HQ : Hid (Q = .error 6) := by rw [← hQ]; exact classT_dup rs hn hd
  rw [show nmB s = true from hn] at HN
  have H24 := Lib.hid h24
  have HDu := Lib.hid hd
  clear h hn hQ h24 hd
  go_enter Tryz.func92, Tryz.ntmps92
  go_wp2_with (first
    | (go_at_call 127
       refine (HN.out _).mono ?_
       rintro e w1 ⟨rfl, hb⟩
       have HB1 := Lib.hid (HB.out.trans (hb.mono HB.out.size))
       have HD1 := Lib.hid (HD.out.next hb)
       have hcell := keep_words hb HBx.out
       have HBx1 := Lib.hid hcell
       clear y0 y1 y2 y3 y4 y5 y6 y7 yf
       obtain ⟨⟨z0, z1, z2, z3⟩, ⟨z4, z5, z6, z7⟩, zf⟩ := HD1.out.cells
       have hbw : w.heap.size < w1.heap.size := by have h1 := hb.size; simp at h1; omega
       have HSL := Lib.hid (tconCls_any L.cls.length (clsF (toLoc 256 L)) (fun j => mk (clN L j)) (fun j => rfl) (.slice aC L.cls.length capC) s w.heap.size w1 HD1.out.lm.loc.2.1 H24.out hbw hcell)
       rw [any_cls] at HSL
       clear hb hbw)
    | (go_at_call 52; with_reducible refine (require_ok _ _).mono ?_; rintro e w' ⟨rfl, rfl⟩)
    | (go_at_call 130
       rw [HDu.out] at HSL; refine HSL.out.mono ?_
       rintro e w2 ⟨rfl, hb⟩
       have HB2 := Lib.hid (HB1.out.trans (hb.mono HB1.out.size))
       have HD2 := Lib.hid (HD1.out.next hb)
       have hcell2 := keep_words hb HBx1.out
       have HBx2 := Lib.hid hcell2
       clear z0 z1 z2 z3 z4 z5 z6 z7 zf
       obtain ⟨⟨x0, x1, x2, x3⟩, ⟨x4, x5, x6, x7⟩, xf⟩ := HD2.out.cells
       clear hb)
    | (go_at_call 52; with_reducible refine (require_no _ _).mono ?_; rintro e w' ⟨rfl, rfl⟩))
  refine post_panic rfl ?_
  rw [HQ.out]
  exact ⟨rfl, HB2.out⟩
set_option maxRecDepth 100000 in
set_option maxHeartbeats 8000000 in
theorem class_many (S : Nat → Prop) (w : World) (R : Nat) (L : PL) (W C E : Value) (st : Bool) (ln : Int) (h : RD S w R L W C E st ln) (s : ByteArray) (rv : Value) (rs : List (List UInt8)) (h24 : L.cls.length ≤ 24) (hn : nmL s.data.toList = true) (hd : L.cls.any (fun c => c.1 == s.data.toList) = false) (hm : 24 ≤ L.cls.length) :
    Calls Tryz.prog 92 #[.pointer (some ⟨R, 0, none⟩), .string s, rv] w (EndM S w R ln st (classT L s.data.toList rs)) := by
  obtain ⟨Q, hQ⟩ : ∃ Q, classT L s.data.toList rs = Q := ⟨_, rfl⟩
  rw [hQ]
  have hmf : ∀ (fn : Fn) (first cap : Array Value) (w : World), (Instr.makeFunc fn first cap).run Tryz.prog w = .ok (.func fn first cap) w := fun _ _ _ _ => rfl
  obtain ⟨aC, capC, rfl⟩ := own_form h.lm.cls
  have HB : Hid (Below w.heap.size w (w.alloc (.cells #[.string s] 9))) := (Below.refl _ _).alloc (Nat.le_refl _) _
  have HD := Lib.hid (h.next HB.out)
  have HD0 := Lib.hid h
  have HBx : Hid ((w.alloc (.cells #[.string s] 9)).cell? ⟨w.heap.size, 0, none⟩ = some (.string s)) := cell_of_row _ w.heap.size 0 _ _ (0, 0) (heap_alloc_new w _)
  have hlt := h.lt
  have HN := Lib.hid (fun w => isName_lt s w)
  obtain ⟨⟨y0, y1, y2, y3⟩, ⟨y4, y5, y6, y7⟩, yf⟩ := HD.out.cells
  have HQ : Hid (Q = .error 3) := by rw [← hQ]; exact classT_many rs hn hd hm
  rw [show nmB s = true from hn] at HN
  have H24 := Lib.hid h24
  have HDu := Lib.hid hd
  have hlti : decide ((L.cls.length : Int) < 24) = false := by simp; omega
  clear h hn hQ h24 hd hm
  go_enter Tryz.func92, Tryz.ntmps92
  go_wp2_with (first
    | (go_at_call 127
       refine (HN.out _).mono ?_
       rintro e w1 ⟨rfl, hb⟩
       have HB1 := Lib.hid (HB.out.trans (hb.mono HB.out.size))
       have HD1 := Lib.hid (HD.out.next hb)
       have hcell := keep_words hb HBx.out
       have HBx1 := Lib.hid hcell
       clear y0 y1 y2 y3 y4 y5 y6 y7 yf
       obtain ⟨⟨z0, z1, z2, z3⟩, ⟨z4, z5, z6, z7⟩, zf⟩ := HD1.out.cells
       have hbw : w.heap.size < w1.heap.size := by have h1 := hb.size; simp at h1; omega
       have HSL := Lib.hid (tconCls_any L.cls.length (clsF (toLoc 256 L)) (fun j => mk (clN L j)) (fun j => rfl) (.slice aC L.cls.length capC) s w.heap.size w1 HD1.out.lm.loc.2.1 H24.out hbw hcell)
       rw [any_cls] at HSL
       clear hb hbw)
    | (go_at_call 52; with_reducible refine (require_ok _ _).mono ?_; rintro e w' ⟨rfl, rfl⟩)
    | (go_at_call 130
       rw [HDu.out] at HSL; refine HSL.out.mono ?_
       rintro e w2 ⟨rfl, hb⟩
       have HB2 := Lib.hid (HB1.out.trans (hb.mono HB1.out.size))
       have HD2 := Lib.hid (HD1.out.next hb)
       have hcell2 := keep_words hb HBx1.out
       have HBx2 := Lib.hid hcell2
       clear z0 z1 z2 z3 z4 z5 z6 z7 zf
       obtain ⟨⟨x0, x1, x2, x3⟩, ⟨x4, x5, x6, x7⟩, xf⟩ := HD2.out.cells
       clear hb)
    | (go_at_call 52; with_reducible refine (require_no _ _).mono ?_; rintro e w' ⟨rfl, rfl⟩))
  refine post_panic rfl ?_
  rw [HQ.out]
  exact ⟨rfl, HB2.out⟩
set_option maxRecDepth 100000 in
set_option maxHeartbeats 8000000 in
theorem class_set (S : Nat → Prop) (w : World) (R : Nat) (L : PL) (W C E : Value) (st : Bool) (ln : Int) (h : RD S w R L W C E st ln) (s : ByteArray) (rv : Value) (rs : List (List UInt8)) (hn : nmL s.data.toList = true) (hd : L.cls.any (fun c => c.1 == s.data.toList) = false) (hm : ¬ 24 ≤ L.cls.length) (hS : SA w rv rs) (hx : ∀ x ∈ rs, 0 < x.length ∧ x.length ≤ 1000000) (hr : rs.length ≤ 1000000) :
    Calls Tryz.prog 92 #[.pointer (some ⟨R, 0, none⟩), .string s, rv] w (EndM S w R ln st (classT L s.data.toList rs)) := by
  obtain ⟨Q, hQ⟩ : ∃ Q, classT L s.data.toList rs = Q := ⟨_, rfl⟩
  rw [hQ]
  have hmf : ∀ (fn : Fn) (first cap : Array Value) (w : World), (Instr.makeFunc fn first cap).run Tryz.prog w = .ok (.func fn first cap) w := fun _ _ _ _ => rfl
  obtain ⟨aC, capC, rfl⟩ := own_form h.lm.cls
  have HB : Hid (Below w.heap.size w (w.alloc (.cells #[.string s] 9))) := (Below.refl _ _).alloc (Nat.le_refl _) _
  have HD := Lib.hid (h.next HB.out)
  have HD0 := Lib.hid h
  have HBx : Hid ((w.alloc (.cells #[.string s] 9)).cell? ⟨w.heap.size, 0, none⟩ = some (.string s)) := cell_of_row _ w.heap.size 0 _ _ (0, 0) (heap_alloc_new w _)
  have hlt := h.lt
  have HN := Lib.hid (fun w => isName_lt s w)
  obtain ⟨⟨y0, y1, y2, y3⟩, ⟨y4, y5, y6, y7⟩, yf⟩ := HD.out.cells
  have hq := classT_set (L := L) rs hn hd hm
  rw [hQ] at hq
  have HQ := Lib.hid hq
  rw [show nmB s = true from hn] at HN
  have H24 : Hid (L.cls.length ≤ 24) := by show L.cls.length ≤ 24; omega
  have HDu := Lib.hid hd
  have hlti : (L.cls.length : Int) < 24 := by omega
  obtain ⟨ar, capr, rfl, hcapr, hat⟩ := sa_at hS
  have HAt := Lib.hid hat
  have HX := Lib.hid hx
  obtain ⟨n, hnn⟩ : ∃ n, n = rs.length := ⟨_, rfl⟩
  rw [← hnn] at hcapr hr ⊢
  have HNn := Lib.hid hnn
  have hni : (n : Int) ≤ 1000000 := by omega
  clear h hn hQ hd hm hq hat hx hnn hS
  go_enter Tryz.func92, Tryz.ntmps92
  go_wp2_with (first
    | (go_at_call 127
       refine (HN.out _).mono ?_
       rintro e w1 ⟨rfl, hb⟩
       have HB1 := Lib.hid (HB.out.trans (hb.mono HB.out.size))
       have HD1 := Lib.hid (HD.out.next hb)
       have hcell := keep_words hb HBx.out
       have HBx1 := Lib.hid hcell
       clear y0 y1 y2 y3 y4 y5 y6 y7 yf
       obtain ⟨⟨z0, z1, z2, z3⟩, ⟨z4, z5, z6, z7⟩, zf⟩ := HD1.out.cells
       have hbw : w.heap.size < w1.heap.size := by have h1 := hb.size; simp at h1; omega
       have HSL := Lib.hid (tconCls_any L.cls.length (clsF (toLoc 256 L)) (fun j => mk (clN L j)) (fun j => rfl) (.slice aC L.cls.length capC) s w.heap.size w1 HD1.out.lm.loc.2.1 H24.out hbw hcell)
       rw [any_cls] at HSL
       clear hb hbw)
    | (go_at_call 52; with_reducible refine (require_ok _ _).mono ?_; rintro e w' ⟨rfl, rfl⟩)
    | (go_at_call 130
       rw [HDu.out] at HSL; refine HSL.out.mono ?_
       rintro e w2 ⟨rfl, hb⟩
       have HB2 := Lib.hid (HB1.out.trans (hb.mono HB1.out.size))
       have HD2 := Lib.hid (HD1.out.next hb)
       have hcell2 := keep_words hb HBx1.out
       have HBx2 := Lib.hid hcell2
       clear z0 z1 z2 z3 z4 z5 z6 z7 zf
       obtain ⟨⟨x0, x1, x2, x3⟩, ⟨x4, x5, x6, x7⟩, xf⟩ := HD2.out.cells
       clear hb))
  have HS0 : Hid (CS3 w w2.heap.size s (fun _ => false) (w2.alloc (.cells (cl fun _ => false) 37))) := ⟨HB2.out.trans ((Below.refl _ _).alloc HB2.out.size _), At.new w2 _, keep_words ((Below.refl _ _).alloc (Nat.le_refl _) _) HBx2.out⟩
  have hGw : w.heap.size < w2.heap.size := lt_of_cell HBx2.out
  clear x0 x1 x2 x3 x4 x5 x6 x7 xf HSL
  go_loopw [29] (fun i wr => ∃ (k : Nat) (p : Nat → Bool), k ≤ n ∧ i = .int .i64 k ∧ Hid (setT (rs.take k) (fun _ => false) = .ok p ∧ CS3 w w2.heap.size s p wr)) (fun i _ => n - (intOf i).toNat)
  case atStart => exact ⟨0, _, Nat.zero_le _, rfl, rfl, HS0.out⟩
  case round =>
    obtain ⟨k, p, hk, rfl, HR⟩ := hrel
    clear HS0
    by_cases hkn : k < n
    · have ki : (k : Int) < n := by omega
      have ki0 : (0 : Int) ≤ k := by omega
      have hkx : k < rs.length := by rw [← HNn.out]; exact hkn
      obtain ⟨b0, o0, rfl, hb0, hc0⟩ := HAt.out k hkx
      have c0 : wr.cell? ⟨b0, o0 + k, none⟩ = some (.string (mk rs[k])) := by
        rw [HR.out.2.1.cell (by exact hb0)]
        exact hc0
      have hxk := HX.out _ (List.getElem_mem hkx)
      have hsn := setT_snoc (rs.take k) rs[k] (fun _ => false)
      rw [← List.take_succ_eq_append_getElem hkx, HR.out.1] at hsn
      simp only at hsn
      obtain ⟨⟨u0, u1⟩, ⟨u2, u3⟩, u4⟩ := HR.out.2.2.1.words
      have HC := Lib.hid HR.out.2
      cases hsp : spanT rs[k] with
      | error x =>
        have HRg := Lib.hid (fun w => rangeOf_no (mk rs[k]) hxk.1 hxk.2 w x hsp)
        rw [hsp] at hsn
        have hall := setT_err (rs.take (k + 1)) (rs.drop (k + 1)) _ x hsn
        rw [List.take_append_drop] at hall
        have hq := HQ.out
        rw [hall] at hq
        have HQ2 := Lib.hid hq
        generalize mk rs[k] = X at c0 HRg
        clear hsn hsp hall hq hc0 hxk
        go_wp2
        refine wp_region_held_drew (S := fun w' => CS3 w w2.heap.size s p w') (by kernel_rfl) ?_ (fun hHeld => ?_)
        · exact HC.out.drew
        refine wpAnyH_take (i := 0) (v := ?av0) rfl (by kernel_rfl) (by kernel_rfl) (by kernel_rfl) (fun _ _ _ h => h) (Or.inl ⟨by rfl, ?ay0⟩) (by assumption) ?ar0
        case ay0 =>
          intro wx hSw
          have hw := hSw.2.1.words
          obtain ⟨⟨z0, z1⟩, ⟨z2, z3⟩, z4⟩ := hw
          clear hSw
          go_simp
          first | done | (with_reducible rfl)
        (try simp only [Act.put, List.getElem_toArray, List.getElem_cons_zero, List.setIfInBounds_toArray, List.set_cons_zero, List.set_cons_succ])
        refine wpAnyH_take (i := 1) (v := ?av1) rfl (by kernel_rfl) (by kernel_rfl) (by kernel_rfl) (fun _ _ _ h => h) (Or.inl ⟨by rfl, ?ay1⟩) (by assumption) ?ar1
        case ay1 =>
          intro wx hSw
          clear hSw
          go_simp
          first | done | (with_reducible rfl)
        (try simp only [Act.put, List.getElem_toArray, List.getElem_cons_succ, List.getElem_cons_zero, List.setIfInBounds_toArray, List.set_cons_zero, List.set_cons_succ])
        refine wpAnyH_ready (rs := [2]) (by kernel_rfl) (by simp) ?_
        refine AllReadyH.cons rfl (fun K hK => ?_) AllReadyH.nil
        go_simp
        go_at_call 133
        refine (HRg.out _).mono ?_
        rintro e w1 ⟨rfl, hb⟩
        refine post_panic (P := Tryz.prog) (fn := Tryz.f92) rfl ?_
        rw [HQ2.out]
        exact ⟨rfl, hHeld.1.trans (hb.mono hHeld.1.size)⟩
      | ok ab =>
        have HRg := Lib.hid (fun w => rangeOf_ok (mk rs[k]) hxk.1 hxk.2 w ab hsp)
        rw [hsp] at hsn
        simp only at hsn
        have HSn := Lib.hid hsn
        have HU := Lib.hid (fun w => union_any p (between ab.1 ab.2) w)
        generalize (fun c => p c || between ab.1 ab.2 c) = q at HU HSn
        generalize between ab.1 ab.2 = D at HU HRg
        generalize mk rs[k] = X at c0 HRg
        unfold cs cl at HU HRg
        clear hsn hsp hc0 hxk
        go_wp2
        refine wp_region_held_drew (S := fun _ => True) (by kernel_rfl) ?_ (fun hHeld => ?_)
        · exact trivial
        refine wpAnyH_take (i := 1) (v := ?bv1) rfl (by kernel_rfl) (by kernel_rfl) (by kernel_rfl) (fun _ _ _ h => h) (Or.inl ⟨by rfl, ?by1⟩) (by assumption) ?br1
        case by1 =>
          intro wx hSw
          clear hSw
          go_simp
          first | done | (with_reducible rfl)
        (try simp only [Act.put, List.getElem_toArray, List.getElem_cons_succ, List.getElem_cons_zero, List.setIfInBounds_toArray, List.set_cons_zero, List.set_cons_succ])
        refine wpAnyH_ready (rs := [0, 2]) (by kernel_rfl) (by simp) ?_
        refine AllReadyH.cons rfl (fun K hK => ?_) (AllReadyH.cons rfl (fun K hK => ?_) AllReadyH.nil)
        · go_simp
          refine hK.out _ _ trivial (fun _ => ?_)
          clear hK K
          (try simp only [Act.put, List.getElem_toArray, List.getElem_cons_succ, List.getElem_cons_zero, List.setIfInBounds_toArray, List.set_cons_zero, List.set_cons_succ])
          refine wpAnyH_ready (rs := [2]) (by kernel_rfl) (by simp) ?_
          refine AllReadyH.cons rfl (fun K hK => ?_) AllReadyH.nil
          go_simp
          go_at_call 133
          refine (HRg.out _).mono ?_
          rintro e w3 ⟨rfl, hb⟩
          refine hK.out _ _ trivial (fun _ => ?_)
          clear hK K
          have HJ := Lib.hid (CS3.keep hb HC.out.drew)
          clear hb
          (try simp only [Act.put, List.getElem_toArray, List.getElem_cons_succ, List.getElem_cons_zero, List.setIfInBounds_toArray, List.set_cons_zero, List.set_cons_succ])
          refine wpAnyH_ready (rs := [3]) (by kernel_rfl) (by simp) ?_
          refine AllReadyH.cons rfl (fun K hK => ?_) AllReadyH.nil
          go_simp
          go_at_call 132
          refine (HU.out _).mono ?_
          rintro e w4 ⟨rfl, hb⟩
          refine hK.out _ _ trivial (fun _ => ?_)
          clear hK K
          have HL := Lib.hid (CS3.keep hb HJ.out)
          clear HJ
          clear hb
          (try simp only [Act.put, List.getElem_toArray, List.getElem_cons_succ, List.getElem_cons_zero, List.setIfInBounds_toArray, List.set_cons_zero, List.set_cons_succ])
          refine wpAnyH_ready (rs := [4]) (by kernel_rfl) (by simp) ?_
          refine AllReadyH.cons rfl (fun K hK => ?_) AllReadyH.nil
          rw [if_pos (by rfl)]
          refine wp_store_row 37 _ _ rfl (w2.heap.size) (cl q) rfl rfl 37 _ HL.out.2.1 info_cs rfl (cl_one q) ?_
          refine hK.out _ _ trivial (fun _ => ?_)
          clear hK K
          (try simp only [Act.put, List.getElem_toArray, List.getElem_cons_succ, List.getElem_cons_zero])
          refine wpAnyH_done (by kernel_rfl) ?_ _
          have HN3 := Lib.hid (HL.out.set hGw q)
          clear HC HL
          go_wp2
          go_roundw
          case rel => exact ⟨k + 1, q, by omega, by go_num, HSn.out, HN3.out⟩
          case measure => simp [intOf]; omega
        · go_simp
          go_at_call 133
          refine (HRg.out _).mono ?_
          rintro e w3 ⟨rfl, hb⟩
          refine hK.out _ _ trivial (fun _ => ?_)
          clear hK K
          have HJ := Lib.hid (CS3.keep hb HC.out.drew)
          clear u0 u1 u2 u3 u4
          obtain ⟨⟨u0, u1⟩, ⟨u2, u3⟩, u4⟩ := HJ.out.2.1.words
          clear hb
          (try simp only [Act.put, List.getElem_toArray, List.getElem_cons_succ, List.getElem_cons_zero, List.setIfInBounds_toArray, List.set_cons_zero, List.set_cons_succ])
          refine wpAnyH_ready (rs := [0]) (by kernel_rfl) (by simp) ?_
          refine AllReadyH.cons rfl (fun K hK => ?_) AllReadyH.nil
          go_simp
          refine hK.out _ _ trivial (fun _ => ?_)
          clear hK K
          (try simp only [Act.put, List.getElem_toArray, List.getElem_cons_succ, List.getElem_cons_zero, List.setIfInBounds_toArray, List.set_cons_zero, List.set_cons_succ])
          refine wpAnyH_ready (rs := [3]) (by kernel_rfl) (by simp) ?_
          refine AllReadyH.cons rfl (fun K hK => ?_) AllReadyH.nil
          go_simp
          go_at_call 132
          refine (HU.out _).mono ?_
          rintro e w4 ⟨rfl, hb⟩
          refine hK.out _ _ trivial (fun _ => ?_)
          clear hK K
          have HL := Lib.hid (CS3.keep hb HJ.out)
          clear HJ
          clear hb
          (try simp only [Act.put, List.getElem_toArray, List.getElem_cons_succ, List.getElem_cons_zero, List.setIfInBounds_toArray, List.set_cons_zero, List.set_cons_succ])
          refine wpAnyH_ready (rs := [4]) (by kernel_rfl) (by simp) ?_
          refine AllReadyH.cons rfl (fun K hK => ?_) AllReadyH.nil
          rw [if_pos (by rfl)]
          refine wp_store_row 37 _ _ rfl (w2.heap.size) (cl q) rfl rfl 37 _ HL.out.2.1 info_cs rfl (cl_one q) ?_
          refine hK.out _ _ trivial (fun _ => ?_)
          clear hK K
          (try simp only [Act.put, List.getElem_toArray, List.getElem_cons_succ, List.getElem_cons_zero])
          refine wpAnyH_done (by kernel_rfl) ?_ _
          have HN3 := Lib.hid (HL.out.set hGw q)
          clear HC HL
          go_wp2
          go_roundw
          case rel => exact ⟨k + 1, q, by omega, by go_num, HSn.out, HN3.out⟩
          case measure => simp [intOf]; omega
    · obtain rfl : k = n := by omega
      have hset := HR.out.1
      rw [List.take_of_length_le (by rw [← HNn.out]; exact Nat.le_refl _)] at hset
      have hq := HQ.out
      rw [hset] at hq
      have HQ2 := Lib.hid hq
      have HDr := Lib.hid (HD0.out.next HR.out.2.1)
      obtain ⟨⟨x0, x1, x2, x3⟩, ⟨x4, x5, x6, x7⟩, xf⟩ := HDr.out.cells
      obtain ⟨⟨u0, u1⟩, ⟨u2, u3⟩, u4⟩ := HR.out.2.2.1.words
      have hnm := HR.out.2.2.2
      clear hset hq
      go_wp2_with (first
        | (at_builtin; refine app_st 23 66 (.agg #[.string ⟨#[]⟩, .int .u64 0, .int .u64 0, .int .u64 0, .int .u64 0]) 5 48 Tryz.underlying23 infoCl rfl (by decide) wr rfl (.tmp 39) (.tmp 43) rfl (.slice aC L.cls.length capC) _ _ [.string s, .int .u64 ((wd p 0 64 : Nat) : Int), .int .u64 ((wd p 64 64 : Nat) : Int), .int .u64 ((wd p 128 64 : Nat) : Int), .int .u64 ((wd p 192 64 : Nat) : Int)] rfl rfl HDr.out.lm.cls _ rfl rfl rfl ?d1 ?d2 ?d3 ?_))
      case d1 => simp [Value.oneCell']
      case d2 => unfold maxLen; omega
      case d3 => omega
      intro g cap w5 ho hkp hgg
      have hfin := HDr.out.addC s.data.toList p g cap rfl ho hkp hgg
      have hb5 : w5.heap[R]? = some (.cells (rdC L W (.slice aC L.cls.length capC) E st ln) 56 (0, 0)) := (hkp.block R HDr.out.lt (fun e => HDr.out.out (HDr.out.lm.inC R e))).trans HDr.out.box
      have hf5 := frozen_of_row w5 R 4 _ _ hb5
      have hc5 : w5.cell? ⟨R, 4, none⟩ = some (.slice aC L.cls.length capC) := cell_of_row w5 R 4 _ _ _ hb5
      have HF := Lib.hid hfin
      clear hfin hb5 ho hkp hgg
      go_wp2
      go_end0
      rw [HQ2.out]
      refine ⟨_, _, _, rfl, HF.out.1.more (fun b hb => hb.imp id (fun h => Nat.le_trans HR.out.2.1.size h)) (grow_out HDr.out.out hlt), (Keep.of_below HR.out.2.1).trans HF.out.2 (fun _ _ h => h)⟩
set_option maxRecDepth 100000 in
set_option maxHeartbeats 8000000 in
theorem class_any (S : Nat → Prop) (w : World) (R : Nat) (L : PL) (W C E : Value) (st : Bool) (ln : Int) (h : RD S w R L W C E st ln) (s : ByteArray) (rv : Value) (rs : List (List UInt8)) (h24 : L.cls.length ≤ 24) (hS : SA w rv rs) (hx : ∀ x ∈ rs, 0 < x.length ∧ x.length ≤ 1000000) (hr : rs.length ≤ 1000000) :
    Calls Tryz.prog 92 #[.pointer (some ⟨R, 0, none⟩), .string s, rv] w (EndM S w R ln st (classT L s.data.toList rs)) := by
  cases hn : nmL s.data.toList with
  | false => exact class_name S w R L W C E st ln h s rv rs hn
  | true =>
    cases hd : L.cls.any (fun c => c.1 == s.data.toList) with
    | true => exact class_dup S w R L W C E st ln h s rv rs h24 hn hd
    | false =>
      by_cases hm : 24 ≤ L.cls.length
      · exact class_many S w R L W C E st ln h s rv rs h24 hn hd hm
      · exact class_set S w R L W C E st ln h s rv rs hn hd hm hS hx hr
end Go.Proofs.YticfhbffoajgcaaGreatDoor
/- The reader's 'replaced': a table of bytes with another byte at a place. -/
set_option linter.unusedVariables false
namespace Go.Proofs.YticfhbffoajgcaaGreatDoor
open Go.RowKit

theorem conv_byte (w : World) (c : Nat) (hc : c < 256) :
    (convert 80 9 (.slice (some ⟨w.heap.size, 0, none⟩) 1 1)).run Tryz.prog (w.alloc (.cells #[.int .u8 (c : Int)] 5)) = .ok (.string (mk [UInt8.ofNat c])) (w.alloc (.cells #[.int .u8 (c : Int)] 5)) :=
  run_convert_bytes_back (P := Tryz.prog) _ 80 9 5 ⟨w.heap.size, 0, none⟩ 1 [UInt8.ofNat c] Tryz.underlying80 Tryz.underlying5 Tryz.underlying9 (fun j hj => by
    have : j = 0 := by simpa using hj
    subst this
    show (w.alloc (.cells #[.int .u8 (c : Int)] 5)).cell? ⟨w.heap.size, 0, none⟩ = _
    rw [World.cell?_alloc_mark]
    show some (Value.int .u8 (c : Int)) = some (.int .u8 ((UInt8.ofNat c).toNat : Int))
    rw [UInt8.toNat_ofNat_of_lt' (by simpa using hc)])
theorem conv_byte_drew (w : World) (c : Nat) (hc : c < 256) :
    (convert 80 9 (.slice (some ⟨w.heap.size, 0, none⟩) 1 1)).run Tryz.prog (w.alloc (.cells #[.int .u8 (c : Int)] 5)).drew = .ok (.string (mk [UInt8.ofNat c])) (w.alloc (.cells #[.int .u8 (c : Int)] 5)).drew :=
  run_convert_bytes_back (P := Tryz.prog) _ 80 9 5 ⟨w.heap.size, 0, none⟩ 1 [UInt8.ofNat c] Tryz.underlying80 Tryz.underlying5 Tryz.underlying9 (fun j hj => by
    have : j = 0 := by simpa using hj
    subst this
    show (w.alloc (.cells #[.int .u8 (c : Int)] 5)).cell? ⟨w.heap.size, 0, none⟩ = _
    rw [World.cell?_alloc_mark]
    show some (Value.int .u8 (c : Int)) = some (.int .u8 ((UInt8.ofNat c).toNat : Int))
    rw [UInt8.toNat_ofNat_of_lt' (by simpa using hc)])
theorem putB_parts (l : List UInt8) (a c : Nat) (ha : a < l.length) : l.take a ++ [UInt8.ofNat c] ++ l.drop (a + 1) = putB l a c := by
  unfold putB
  rw [List.set_eq_take_append_cons_drop, if_pos ha]
  simp
set_option maxRecDepth 100000 in
set_option maxHeartbeats 4000000 in
theorem replaced_both (T s1 s2 : ByteArray) (a c : Nat) (hT : T.size = 256) (h1 : s1.size ≤ maxLen) (h2 : s2.size ≤ maxLen) (w : World) (e1 : numT s1.data.toList 255 = .ok a) (e2 : numT s2.data.toList 255 = .ok c) :
    Calls Tryz.prog 91 #[.string T, .string s1, .string s2] w fun e w' => e = .returned (.string (mk (putB T.data.toList a c))) ∧ Below w.heap.size w w' := by
  have H1 := Lib.hid (fun w => byteOf_ok s1 a w h1 e1)
  have H2 := Lib.hid (fun w => byteOf_ok s2 c w h2 e2)
  have ha := numT_lt e1
  have hc := numT_lt e2
  have hcv := fun w => conv_byte_drew w c (by omega)
  have hR : mk (putB T.data.toList a c) = T.extract 0 a ++ mk [UInt8.ofNat c] ++ T.extract (a + 1) T.size := by
    rw [← putB_parts _ _ _ (by rw [size_len]; omega), ext_take, ext_drop, mk_append, mk_append]
  rw [hR]
  have hz1 : (T.extract 0 a).size ≤ 256 := by simp; omega
  have hz3 : (T.extract (a + 1) T.size).size ≤ 256 := by simp; omega
  have hz2 : (mk [UInt8.ofNat c]).size = 1 := rfl
  obtain ⟨S1, hS1⟩ : ∃ S1, T.extract 0 a = S1 := ⟨_, rfl⟩
  obtain ⟨d, hd⟩ : ∃ d, d = a + 1 := ⟨_, rfl⟩
  rw [← hd] at hz3 ⊢
  obtain ⟨S3, hS3⟩ : ∃ S3, T.extract d T.size = S3 := ⟨_, rfl⟩
  have hcw : IntKind.i64.wrap (a : Int) = (a : Int) := IntWalk.i64_in _ (by omega)
  have hdw : IntKind.i64.wrap ((a : Int) + 1) = (d : Int) := by rw [IntWalk.i64_in _ (by omega)]; omega
  rw [hS1] at hz1 ⊢
  rw [hS3] at hz3 ⊢
  generalize mk [UInt8.ofNat c] = S2 at hz2 hcv ⊢
  have z2 : S2.size ≤ 1 := by omega
  have b1 : (a : Int) ≤ T.size := by omega
  have b2 : (d : Int) ≤ T.size := by omega
  have b3 : (0 : Int) ≤ d := by omega
  have b4 : (0 : Int) ≤ a := by omega
  clear e1 e2 ha hc hR hd hT hz2 h1 h2
  go_enter Tryz.func91, Tryz.ntmps91
  go_wp2_with (first
    | (go_at_call 128; with_reducible refine (H1.out _).mono ?_; rintro e w' ⟨rfl, rfl⟩)
    | (go_at_call 128; with_reducible refine (H2.out _).mono ?_; rintro e w' ⟨rfl, rfl⟩))
  go_region
  go_wp2
  go_ret
  exact ⟨rfl, ((Below.refl _ _).drew.alloc (by simp) _)⟩
set_option maxRecDepth 100000 in
set_option maxHeartbeats 4000000 in
theorem replaced_first (T s1 s2 : ByteArray) (x : Int) (h1 : s1.size ≤ maxLen) (w : World) (e1 : numT s1.data.toList 255 = .error x) :
    Calls Tryz.prog 91 #[.string T, .string s1, .string s2] w fun e w' => e = .panicked (pch x) ∧ Below w.heap.size w w' := by
  have H1 := Lib.hid (fun w => byteOf_no s1 x w h1 e1)
  clear e1 h1
  go_enter Tryz.func91, Tryz.ntmps91
  go_wp2_with (first
    | (go_at_call 128; with_reducible refine (H1.out _).mono ?_; rintro e w' ⟨rfl, rfl⟩))
  exact post_panic rfl ⟨rfl, Below.refl _ _⟩
set_option maxRecDepth 100000 in
set_option maxHeartbeats 4000000 in
theorem replaced_second (T s1 s2 : ByteArray) (a : Nat) (x : Int) (h1 : s1.size ≤ maxLen) (h2 : s2.size ≤ maxLen) (w : World) (e1 : numT s1.data.toList 255 = .ok a) (e2 : numT s2.data.toList 255 = .error x) :
    Calls Tryz.prog 91 #[.string T, .string s1, .string s2] w fun e w' => e = .panicked (pch x) ∧ Below w.heap.size w w' := by
  have H1 := Lib.hid (fun w => byteOf_ok s1 a w h1 e1)
  have H2 := Lib.hid (fun w => byteOf_no s2 x w h2 e2)
  have hn : s1 ≠ s2 := fun e => by rw [e, e2] at e1; cases e1
  clear e1 e2 h1 h2
  go_enter Tryz.func91, Tryz.ntmps91
  go_wp2_with (first
    | (go_at_call 128; with_reducible refine (H1.out _).mono ?_; rintro e w' ⟨rfl, rfl⟩)
    | (go_at_call 128; with_reducible refine (H2.out _).mono ?_; rintro e w' ⟨rfl, rfl⟩))
  exact post_panic rfl ⟨rfl, Below.refl _ _⟩
theorem replaced_ok (T s1 s2 : ByteArray) (t : List UInt8) (hT : T.size = 256) (h1 : s1.size ≤ maxLen) (h2 : s2.size ≤ maxLen) (w : World) (e : tabT T.data.toList s1.data.toList s2.data.toList = .ok t) :
    Calls Tryz.prog 91 #[.string T, .string s1, .string s2] w fun e w' => e = .returned (.string (mk t)) ∧ Below w.heap.size w w' := by
  unfold tabT at e
  cases e1 : numT s1.data.toList 255 with
  | error x => rw [e1] at e; cases e
  | ok a =>
    rw [e1] at e
    simp only at e
    cases e2 : numT s2.data.toList 255 with
    | error x => rw [e2] at e; cases e
    | ok c =>
      rw [e2] at e
      cases e
      exact replaced_both T s1 s2 a c hT h1 h2 w e1 e2
theorem replaced_no (T s1 s2 : ByteArray) (x : Int) (h1 : s1.size ≤ maxLen) (h2 : s2.size ≤ maxLen) (w : World) (e : tabT T.data.toList s1.data.toList s2.data.toList = .error x) :
    Calls Tryz.prog 91 #[.string T, .string s1, .string s2] w fun e w' => e = .panicked (pch x) ∧ Below w.heap.size w w' := by
  unfold tabT at e
  cases e1 : numT s1.data.toList 255 with
  | error y =>
    rw [e1] at e
    cases e
    exact replaced_first T s1 s2 x h1 w e1
  | ok a =>
    rw [e1] at e
    simp only at e
    cases e2 : numT s2.data.toList 255 with
    | error y =>
      rw [e2] at e
      cases e
      exact replaced_second T s1 s2 a x h1 h2 w e1 e2
    | ok c => rw [e2] at e; cases e
end Go.Proofs.YticfhbffoajgcaaGreatDoor
/- The reader's method element. (Written by gen_ltelm.py.) -/
set_option linter.unusedVariables false
namespace Go.Proofs.YticfhbffoajgcaaGreatDoor
open Go.RowKit

theorem conv_pair (w : World) (a c : Nat) (ha : a < 256) (hc : c < 256) :
    (convert 80 9 (.slice (some ⟨w.heap.size, 0, none⟩) 2 2)).run Tryz.prog (w.alloc (.cells #[.int .u8 (a : Int), .int .u8 (c : Int)] 5)) = .ok (.string (mk (pairT a c))) (w.alloc (.cells #[.int .u8 (a : Int), .int .u8 (c : Int)] 5)) :=
  run_convert_bytes_back (P := Tryz.prog) _ 80 9 5 ⟨w.heap.size, 0, none⟩ 2 (pairT a c) Tryz.underlying80 Tryz.underlying5 Tryz.underlying9 (fun j hj => by
    have e : (⟨w.heap.size, 0, none⟩ : Addr).add j = ⟨w.heap.size, j, none⟩ := by unfold Addr.add; split <;> simp_all
    rw [e, cell_of_row _ w.heap.size j _ _ (0, 0) (heap_alloc_new w _)]
    have h2 : j = 0 ∨ j = 1 := by simp [pairT] at hj; omega
    rcases h2 with rfl | rfl
    · show some (Value.int .u8 (a : Int)) = some (.int .u8 ((UInt8.ofNat a).toNat : Int))
      rw [UInt8.toNat_ofNat_of_lt' (by simpa using ha)]
    · show some (Value.int .u8 (c : Int)) = some (.int .u8 ((UInt8.ofNat c).toNat : Int))
      rw [UInt8.toNat_ofNat_of_lt' (by simpa using hc)])
theorem elemT_1 {L : PL} {x y z : List UInt8} {e : Int} (h : numT x 255 = .error e) : elemT L x y z = .error e := by unfold elemT; rw [h]
theorem elemT_2 {L : PL} {x y z : List UInt8} {a : Nat} {e : Int} (h : numT x 255 = .ok a) (h2 : numT y 255 = .error e) : elemT L x y z = .error e := by unfold elemT; rw [h]; simp only; rw [h2]
theorem elemT_3 {L : PL} {x y z : List UInt8} {a b : Nat} {e : Int} (h : numT x 255 = .ok a) (h2 : numT y 255 = .ok b) (h3 : numT z 65535 = .error e) : elemT L x y z = .error e := by unfold elemT; rw [h]; simp only; rw [h2]; simp only; rw [h3]
theorem elemT_4 {L : PL} {x y z : List UInt8} {a b v : Nat} (h : numT x 255 = .ok a) (h2 : numT y 255 = .ok b) (h3 : numT z 65535 = .ok v) : elemT L x y z = if L.els.any (fun c => c.1 == pairT a b) = true then .error 6 else if 64 ≤ L.els.length then .error 3 else .ok { L with els := L.els ++ [(pairT a b, (v : Int))] } := by unfold elemT; rw [h]; simp only; rw [h2]; simp only; rw [h3]
set_option maxRecDepth 100000 in
set_option maxHeartbeats 8000000 in
theorem elem_1 (S : Nat → Prop) (w : World) (R : Nat) (L : PL) (W C E : Value) (st : Bool) (ln : Int) (h : RD S w R L W C E st ln) (s1 s2 s3 : ByteArray) (z1 : s1.size ≤ maxLen) (z2 : s2.size ≤ maxLen) (z3 : s3.size ≤ maxLen) (x : Int) (e1 : numT s1.data.toList 255 = .error x) :
    Calls Tryz.prog 93 #[.pointer (some ⟨R, 0, none⟩), .string s1, .string s2, .string s3] w (EndM S w R ln st (elemT L s1.data.toList s2.data.toList s3.data.toList)) := by
  obtain ⟨Q, hQ⟩ : ∃ Q, elemT L s1.data.toList s2.data.toList s3.data.toList = Q := ⟨_, rfl⟩
  rw [hQ]
  have hmf : ∀ (fn : Fn) (first cap : Array Value) (w : World), (Instr.makeFunc fn first cap).run Tryz.prog w = .ok (.func fn first cap) w := fun _ _ _ _ => rfl
  obtain ⟨aE, capE, rfl⟩ := own_form h.lm.els
  have HD := Lib.hid h
  have hlt := h.lt
  obtain ⟨⟨x0, x1, x2, x3⟩, ⟨x4, x5, x6, x7⟩, xf⟩ := HD.out.cells
  have HQ : Hid (Q = .error x) := by rw [← hQ]; exact elemT_1 e1
  have H1 := Lib.hid (fun w => byteOf_no s1 x w z1 e1)
  clear h hQ e1 z1 z2 z3
  go_enter Tryz.func93, Tryz.ntmps93
  go_wp2_with (first
    | (go_at_call 128; with_reducible refine (H1.out _).mono ?_; rintro e w' ⟨rfl, rfl⟩))
  refine post_panic (P := Tryz.prog) (fn := Tryz.f93) rfl ?_
  rw [HQ.out]
  exact ⟨rfl, Below.refl _ _⟩
set_option maxRecDepth 100000 in
set_option maxHeartbeats 8000000 in
theorem elem_2 (S : Nat → Prop) (w : World) (R : Nat) (L : PL) (W C E : Value) (st : Bool) (ln : Int) (h : RD S w R L W C E st ln) (s1 s2 s3 : ByteArray) (z1 : s1.size ≤ maxLen) (z2 : s2.size ≤ maxLen) (z3 : s3.size ≤ maxLen) (a : Nat) (x : Int) (e1 : numT s1.data.toList 255 = .ok a) (e2 : numT s2.data.toList 255 = .error x) :
    Calls Tryz.prog 93 #[.pointer (some ⟨R, 0, none⟩), .string s1, .string s2, .string s3] w (EndM S w R ln st (elemT L s1.data.toList s2.data.toList s3.data.toList)) := by
  obtain ⟨Q, hQ⟩ : ∃ Q, elemT L s1.data.toList s2.data.toList s3.data.toList = Q := ⟨_, rfl⟩
  rw [hQ]
  have hmf : ∀ (fn : Fn) (first cap : Array Value) (w : World), (Instr.makeFunc fn first cap).run Tryz.prog w = .ok (.func fn first cap) w := fun _ _ _ _ => rfl
  obtain ⟨aE, capE, rfl⟩ := own_form h.lm.els
  have HD := Lib.hid h
  have hlt := h.lt
  obtain ⟨⟨x0, x1, x2, x3⟩, ⟨x4, x5, x6, x7⟩, xf⟩ := HD.out.cells
  have HQ : Hid (Q = .error x) := by rw [← hQ]; exact elemT_2 e1 e2
  have H1 := Lib.hid (fun w => byteOf_ok s1 a w z1 e1)
  have H2 := Lib.hid (fun w => byteOf_no s2 x w z2 e2)
  clear h hQ e1 e2 z1 z2 z3
  go_enter Tryz.func93, Tryz.ntmps93
  go_wp2_with (first
    | (go_at_call 128; with_reducible refine (H1.out _).mono ?_; rintro e w' ⟨rfl, rfl⟩)
    | (go_at_call 128; with_reducible refine (H2.out _).mono ?_; rintro e w' ⟨rfl, rfl⟩))
  refine post_panic (P := Tryz.prog) (fn := Tryz.f93) rfl ?_
  rw [HQ.out]
  exact ⟨rfl, Below.refl _ _⟩
set_option maxRecDepth 100000 in
set_option maxHeartbeats 8000000 in
theorem elem_3 (S : Nat → Prop) (w : World) (R : Nat) (L : PL) (W C E : Value) (st : Bool) (ln : Int) (h : RD S w R L W C E st ln) (s1 s2 s3 : ByteArray) (z1 : s1.size ≤ maxLen) (z2 : s2.size ≤ maxLen) (z3 : s3.size ≤ maxLen) (a b : Nat) (x : Int) (e1 : numT s1.data.toList 255 = .ok a) (e2 : numT s2.data.toList 255 = .ok b) (e3 : numT s3.data.toList 65535 = .error x) :
    Calls Tryz.prog 93 #[.pointer (some ⟨R, 0, none⟩), .string s1, .string s2, .string s3] w (EndM S w R ln st (elemT L s1.data.toList s2.data.toList s3.data.toList)) := by
  obtain ⟨Q, hQ⟩ : ∃ Q, elemT L s1.data.toList s2.data.toList s3.data.toList = Q := ⟨_, rfl⟩
  rw [hQ]
  have hmf : ∀ (fn : Fn) (first cap : Array Value) (w : World), (Instr.makeFunc fn first cap).run Tryz.prog w = .ok (.func fn first cap) w := fun _ _ _ _ => rfl
  obtain ⟨aE, capE, rfl⟩ := own_form h.lm.els
  have HD := Lib.hid h
  have hlt := h.lt
  obtain ⟨⟨x0, x1, x2, x3⟩, ⟨x4, x5, x6, x7⟩, xf⟩ := HD.out.cells
  have HQ : Hid (Q = .error x) := by rw [← hQ]; exact elemT_3 e1 e2 e3
  have H1 := Lib.hid (fun w => byteOf_ok s1 a w z1 e1)
  have H2 := Lib.hid (fun w => byteOf_ok s2 b w z2 e2)
  have H3 := Lib.hid (fun w => number_no s3 65535 x 65535 rfl w z3 (by omega) e3)
  have ha := numT_lt e1
  have hb := numT_lt e2
  have hcv := fun w => conv_pair w a b (by omega) (by omega)
  have HB : Hid (Below w.heap.size w ((w.alloc (.cells #[.int .u8 (a : Int), .int .u8 (b : Int)] 5)).alloc (.cells #[.string (mk (pairT a b))] 9))) := ((Below.refl _ _).alloc (Nat.le_refl _) _).alloc (by simp) _
  clear h hQ e1 e2 e3 z1 z2 z3 ha hb
  go_enter Tryz.func93, Tryz.ntmps93
  go_wp2_with (first
    | (go_at_call 128; with_reducible refine (H1.out _).mono ?_; rintro e w' ⟨rfl, rfl⟩)
    | (go_at_call 128; with_reducible refine (H2.out _).mono ?_; rintro e w' ⟨rfl, rfl⟩)
    | (go_at_call 129; with_reducible refine (H3.out _).mono ?_; rintro e w' ⟨rfl, rfl⟩))
  refine post_panic (P := Tryz.prog) (fn := Tryz.f93) rfl ?_
  rw [HQ.out]
  exact ⟨rfl, HB.out⟩
set_option maxRecDepth 100000 in
set_option maxHeartbeats 8000000 in
theorem elem_dup (S : Nat → Prop) (w : World) (R : Nat) (L : PL) (W C E : Value) (st : Bool) (ln : Int) (h : RD S w R L W C E st ln) (s1 s2 s3 : ByteArray) (z1 : s1.size ≤ maxLen) (z2 : s2.size ≤ maxLen) (z3 : s3.size ≤ maxLen) (a b v : Nat) (h64 : L.els.length ≤ 64) (e1 : numT s1.data.toList 255 = .ok a) (e2 : numT s2.data.toList 255 = .ok b) (e3 : numT s3.data.toList 65535 = .ok v) (hd : L.els.any (fun c => c.1 == pairT a b) = true) :
    Calls Tryz.prog 93 #[.pointer (some ⟨R, 0, none⟩), .string s1, .string s2, .string s3] w (EndM S w R ln st (elemT L s1.data.toList s2.data.toList s3.data.toList)) := by
  obtain ⟨Q, hQ⟩ : ∃ Q, elemT L s1.data.toList s2.data.toList s3.data.toList = Q := ⟨_, rfl⟩
  rw [hQ]
  have hmf : ∀ (fn : Fn) (first cap : Array Value) (w : World), (Instr.makeFunc fn first cap).run Tryz.prog w = .ok (.func fn first cap) w := fun _ _ _ _ => rfl
  obtain ⟨aE, capE, rfl⟩ := own_form h.lm.els
  have HD := Lib.hid h
  have hlt := h.lt
  obtain ⟨⟨x0, x1, x2, x3⟩, ⟨x4, x5, x6, x7⟩, xf⟩ := HD.out.cells
  have hq := elemT_4 (L := L) e1 e2 e3
  rw [hQ] at hq
  have H1 := Lib.hid (fun w => byteOf_ok s1 a w z1 e1)
  have H2 := Lib.hid (fun w => byteOf_ok s2 b w z2 e2)
  have H3 := Lib.hid (fun w => number_ok s3 65535 v 65535 rfl w z3 (by omega) e3)
  have ha := numT_lt e1
  have hb := numT_lt e2
  have hcv := fun w => conv_pair w a b (by omega) (by omega)
  have HB : Hid (Below w.heap.size w ((w.alloc (.cells #[.int .u8 (a : Int), .int .u8 (b : Int)] 5)).alloc (.cells #[.string (mk (pairT a b))] 9))) := ((Below.refl _ _).alloc (Nat.le_refl _) _).alloc (by simp) _
  have hcell : ((w.alloc (.cells #[.int .u8 (a : Int), .int .u8 (b : Int)] 5)).alloc (.cells #[.string (mk (pairT a b))] 9)).cell? ⟨w.heap.size + 1, 0, none⟩ = some (.string (mk (pairT a b))) := by
    simp
  have HD1 := Lib.hid (h.next HB.out)
  have HC := Lib.hid (tconElm_any L.els.length (elmF (toLoc 256 L)) (fun j => mk (elT L j)) (fun j => rfl) (.slice aE L.els.length capE) (mk (pairT a b)) (w.heap.size + 1) _ HD1.out.lm.loc.2.2 h64 (by simp) hcell)
  rw [any_els, mk_data] at HC
  have HBx := Lib.hid hcell
  rw [hd] at HC
  rw [if_pos hd] at hq
  have HQ := Lib.hid hq
  generalize mk (pairT a b) = PP at *
  clear hd
  clear h hQ e1 e2 e3 z1 z2 z3 ha hb hcell hq h64
  go_enter Tryz.func93, Tryz.ntmps93
  go_wp2_with (first
    | (go_at_call 128; with_reducible refine (H1.out _).mono ?_; rintro e w' ⟨rfl, rfl⟩)
    | (go_at_call 128; with_reducible refine (H2.out _).mono ?_; rintro e w' ⟨rfl, rfl⟩)
    | (go_at_call 129; with_reducible refine (H3.out _).mono ?_; rintro e w' ⟨rfl, rfl⟩)
    | (go_at_call 134
       refine HC.out.mono ?_
       rintro e w2 ⟨rfl, hb⟩
       have HB2 := Lib.hid (HB.out.trans (hb.mono HB.out.size))
       have HD2 := Lib.hid (HD1.out.next hb)
       have hcell2 := keep_words hb HBx.out
       clear x0 x1 x2 x3 x4 x5 x6 x7 xf
       obtain ⟨⟨x0, x1, x2, x3⟩, ⟨x4, x5, x6, x7⟩, xf⟩ := HD2.out.cells
       clear hb)
    | (go_at_call 52; with_reducible refine (require_no _ _).mono ?_; rintro e w' ⟨rfl, rfl⟩))
  refine post_panic (P := Tryz.prog) (fn := Tryz.f93) rfl ?_
  rw [HQ.out]
  exact ⟨rfl, HB2.out⟩
set_option maxRecDepth 100000 in
set_option maxHeartbeats 8000000 in
theorem elem_many (S : Nat → Prop) (w : World) (R : Nat) (L : PL) (W C E : Value) (st : Bool) (ln : Int) (h : RD S w R L W C E st ln) (s1 s2 s3 : ByteArray) (z1 : s1.size ≤ maxLen) (z2 : s2.size ≤ maxLen) (z3 : s3.size ≤ maxLen) (a b v : Nat) (h64 : L.els.length ≤ 64) (e1 : numT s1.data.toList 255 = .ok a) (e2 : numT s2.data.toList 255 = .ok b) (e3 : numT s3.data.toList 65535 = .ok v) (hd : L.els.any (fun c => c.1 == pairT a b) = false) (hm : 64 ≤ L.els.length) :
    Calls Tryz.prog 93 #[.pointer (some ⟨R, 0, none⟩), .string s1, .string s2, .string s3] w (EndM S w R ln st (elemT L s1.data.toList s2.data.toList s3.data.toList)) := by
  obtain ⟨Q, hQ⟩ : ∃ Q, elemT L s1.data.toList s2.data.toList s3.data.toList = Q := ⟨_, rfl⟩
  rw [hQ]
  have hmf : ∀ (fn : Fn) (first cap : Array Value) (w : World), (Instr.makeFunc fn first cap).run Tryz.prog w = .ok (.func fn first cap) w := fun _ _ _ _ => rfl
  obtain ⟨aE, capE, rfl⟩ := own_form h.lm.els
  have HD := Lib.hid h
  have hlt := h.lt
  obtain ⟨⟨x0, x1, x2, x3⟩, ⟨x4, x5, x6, x7⟩, xf⟩ := HD.out.cells
  have hq := elemT_4 (L := L) e1 e2 e3
  rw [hQ] at hq
  have H1 := Lib.hid (fun w => byteOf_ok s1 a w z1 e1)
  have H2 := Lib.hid (fun w => byteOf_ok s2 b w z2 e2)
  have H3 := Lib.hid (fun w => number_ok s3 65535 v 65535 rfl w z3 (by omega) e3)
  have ha := numT_lt e1
  have hb := numT_lt e2
  have hcv := fun w => conv_pair w a b (by omega) (by omega)
  have HB : Hid (Below w.heap.size w ((w.alloc (.cells #[.int .u8 (a : Int), .int .u8 (b : Int)] 5)).alloc (.cells #[.string (mk (pairT a b))] 9))) := ((Below.refl _ _).alloc (Nat.le_refl _) _).alloc (by simp) _
  have hcell : ((w.alloc (.cells #[.int .u8 (a : Int), .int .u8 (b : Int)] 5)).alloc (.cells #[.string (mk (pairT a b))] 9)).cell? ⟨w.heap.size + 1, 0, none⟩ = some (.string (mk (pairT a b))) := by
    simp
  have HD1 := Lib.hid (h.next HB.out)
  have HC := Lib.hid (tconElm_any L.els.length (elmF (toLoc 256 L)) (fun j => mk (elT L j)) (fun j => rfl) (.slice aE L.els.length capE) (mk (pairT a b)) (w.heap.size + 1) _ HD1.out.lm.loc.2.2 h64 (by simp) hcell)
  rw [any_els, mk_data] at HC
  have HBx := Lib.hid hcell
  rw [hd] at HC
  rw [if_neg (by rw [hd]; decide), if_pos hm] at hq
  have HQ := Lib.hid hq
  have hlti : decide ((L.els.length : Int) < 64) = false := by simp; omega
  generalize mk (pairT a b) = PP at *
  clear hd hm
  clear h hQ e1 e2 e3 z1 z2 z3 ha hb hcell hq h64
  go_enter Tryz.func93, Tryz.ntmps93
  go_wp2_with (first
    | (go_at_call 128; with_reducible refine (H1.out _).mono ?_; rintro e w' ⟨rfl, rfl⟩)
    | (go_at_call 128; with_reducible refine (H2.out _).mono ?_; rintro e w' ⟨rfl, rfl⟩)
    | (go_at_call 129; with_reducible refine (H3.out _).mono ?_; rintro e w' ⟨rfl, rfl⟩)
    | (go_at_call 134
       refine HC.out.mono ?_
       rintro e w2 ⟨rfl, hb⟩
       have HB2 := Lib.hid (HB.out.trans (hb.mono HB.out.size))
       have HD2 := Lib.hid (HD1.out.next hb)
       have hcell2 := keep_words hb HBx.out
       clear x0 x1 x2 x3 x4 x5 x6 x7 xf
       obtain ⟨⟨x0, x1, x2, x3⟩, ⟨x4, x5, x6, x7⟩, xf⟩ := HD2.out.cells
       clear hb)
    | (go_at_call 52; with_reducible refine (require_ok _ _).mono ?_; rintro e w' ⟨rfl, rfl⟩)
    | (go_at_call 52; with_reducible refine (require_no _ _).mono ?_; rintro e w' ⟨rfl, rfl⟩))
  refine post_panic (P := Tryz.prog) (fn := Tryz.f93) rfl ?_
  rw [HQ.out]
  exact ⟨rfl, HB2.out⟩
set_option maxRecDepth 100000 in
set_option maxHeartbeats 8000000 in
theorem elem_put (S : Nat → Prop) (w : World) (R : Nat) (L : PL) (W C E : Value) (st : Bool) (ln : Int) (h : RD S w R L W C E st ln) (s1 s2 s3 : ByteArray) (z1 : s1.size ≤ maxLen) (z2 : s2.size ≤ maxLen) (z3 : s3.size ≤ maxLen) (a b v : Nat) (h64 : L.els.length ≤ 64) (e1 : numT s1.data.toList 255 = .ok a) (e2 : numT s2.data.toList 255 = .ok b) (e3 : numT s3.data.toList 65535 = .ok v) (hd : L.els.any (fun c => c.1 == pairT a b) = false) (hm : ¬ 64 ≤ L.els.length) :
    Calls Tryz.prog 93 #[.pointer (some ⟨R, 0, none⟩), .string s1, .string s2, .string s3] w (EndM S w R ln st (elemT L s1.data.toList s2.data.toList s3.data.toList)) := by
  obtain ⟨Q, hQ⟩ : ∃ Q, elemT L s1.data.toList s2.data.toList s3.data.toList = Q := ⟨_, rfl⟩
  rw [hQ]
  have hmf : ∀ (fn : Fn) (first cap : Array Value) (w : World), (Instr.makeFunc fn first cap).run Tryz.prog w = .ok (.func fn first cap) w := fun _ _ _ _ => rfl
  obtain ⟨aE, capE, rfl⟩ := own_form h.lm.els
  have HD := Lib.hid h
  have hlt := h.lt
  obtain ⟨⟨x0, x1, x2, x3⟩, ⟨x4, x5, x6, x7⟩, xf⟩ := HD.out.cells
  have hq := elemT_4 (L := L) e1 e2 e3
  rw [hQ] at hq
  have H1 := Lib.hid (fun w => byteOf_ok s1 a w z1 e1)
  have H2 := Lib.hid (fun w => byteOf_ok s2 b w z2 e2)
  have H3 := Lib.hid (fun w => number_ok s3 65535 v 65535 rfl w z3 (by omega) e3)
  have ha := numT_lt e1
  have hb := numT_lt e2
  have hcv := fun w => conv_pair w a b (by omega) (by omega)
  have HB : Hid (Below w.heap.size w ((w.alloc (.cells #[.int .u8 (a : Int), .int .u8 (b : Int)] 5)).alloc (.cells #[.string (mk (pairT a b))] 9))) := ((Below.refl _ _).alloc (Nat.le_refl _) _).alloc (by simp) _
  have hcell : ((w.alloc (.cells #[.int .u8 (a : Int), .int .u8 (b : Int)] 5)).alloc (.cells #[.string (mk (pairT a b))] 9)).cell? ⟨w.heap.size + 1, 0, none⟩ = some (.string (mk (pairT a b))) := by
    simp
  have HD1 := Lib.hid (h.next HB.out)
  have HC := Lib.hid (tconElm_any L.els.length (elmF (toLoc 256 L)) (fun j => mk (elT L j)) (fun j => rfl) (.slice aE L.els.length capE) (mk (pairT a b)) (w.heap.size + 1) _ HD1.out.lm.loc.2.2 h64 (by simp) hcell)
  rw [any_els, mk_data] at HC
  have HBx := Lib.hid hcell
  rw [hd] at HC
  rw [if_neg (by rw [hd]; decide), if_neg hm] at hq
  have HQ := Lib.hid hq
  have hlti : (L.els.length : Int) < 64 := by omega
  obtain ⟨PP, hPP⟩ : ∃ PP, mk (pairT a b) = PP := ⟨_, rfl⟩
  have HPP := Lib.hid hPP
  rw [hPP] at HB HC HBx hcv HD1
  clear hd hm hPP
  clear h hQ e1 e2 e3 z1 z2 z3 ha hb hcell hq h64
  go_enter Tryz.func93, Tryz.ntmps93
  go_wp2_with (first
    | (go_at_call 128; with_reducible refine (H1.out _).mono ?_; rintro e w' ⟨rfl, rfl⟩)
    | (go_at_call 128; with_reducible refine (H2.out _).mono ?_; rintro e w' ⟨rfl, rfl⟩)
    | (go_at_call 129; with_reducible refine (H3.out _).mono ?_; rintro e w' ⟨rfl, rfl⟩)
    | (go_at_call 134
       refine HC.out.mono ?_
       rintro e w2 ⟨rfl, hb⟩
       have HB2 := Lib.hid (HB.out.trans (hb.mono HB.out.size))
       have HD2 := Lib.hid (HD1.out.next hb)
       have hcell2 := keep_words hb HBx.out
       clear x0 x1 x2 x3 x4 x5 x6 x7 xf
       obtain ⟨⟨x0, x1, x2, x3⟩, ⟨x4, x5, x6, x7⟩, xf⟩ := HD2.out.cells
       clear hb)
    | (go_at_call 52; with_reducible refine (require_ok _ _).mono ?_; rintro e w' ⟨rfl, rfl⟩)
    | (at_builtin; refine app_st 24 68 (.agg #[.string ⟨#[]⟩, .int .i64 0]) 2 24 Tryz.underlying24 infoEl rfl (by decide) w2 rfl (.tmp 34) (.tmp 38) rfl (.slice aE L.els.length capE) _ _ [.string PP, .int .i64 (v : Int)] rfl rfl HD2.out.lm.els _ rfl rfl rfl ?d1 ?d2 ?d3 ?_))
  case d1 => simp [Value.oneCell']
  case d2 => unfold maxLen; omega
  case d3 => omega
  intro g cap w5 ho hkp hgg
  have hfin := HD2.out.addE (pairT a b) (v : Int) g cap (by rw [← HPP.out]; rfl) ho hkp hgg
  have hb5 : w5.heap[R]? = some (.cells (rdC L W C (.slice aE L.els.length capE) st ln) 56 (0, 0)) := (hkp.block R HD2.out.lt (fun e => HD2.out.out (HD2.out.lm.inE R e))).trans HD2.out.box
  have hf5 := frozen_of_row w5 R 5 _ _ hb5
  have hc5 : w5.cell? ⟨R, 5, none⟩ = some (.slice aE L.els.length capE) := cell_of_row w5 R 5 _ _ _ hb5
  have HF := Lib.hid hfin
  clear hfin hb5 ho hkp hgg
  go_wp2
  go_end0
  rw [HQ.out]
  refine ⟨_, _, _, rfl, HF.out.1.more (fun b hb => hb.imp id (fun h => Nat.le_trans HB2.out.size h)) (grow_out HD2.out.out hlt), (Keep.of_below HB2.out).trans HF.out.2 (fun _ _ h => h)⟩
set_option maxRecDepth 100000 in
set_option maxHeartbeats 8000000 in
theorem element_any (S : Nat → Prop) (w : World) (R : Nat) (L : PL) (W C E : Value) (st : Bool) (ln : Int) (h : RD S w R L W C E st ln) (s1 s2 s3 : ByteArray) (z1 : s1.size ≤ maxLen) (z2 : s2.size ≤ maxLen) (z3 : s3.size ≤ maxLen) (h64 : L.els.length ≤ 64) :
    Calls Tryz.prog 93 #[.pointer (some ⟨R, 0, none⟩), .string s1, .string s2, .string s3] w (EndM S w R ln st (elemT L s1.data.toList s2.data.toList s3.data.toList)) := by
  cases e1 : numT s1.data.toList 255 with
  | error x => exact elem_1 S w R L W C E st ln h s1 s2 s3 z1 z2 z3 x e1
  | ok a => cases e2 : numT s2.data.toList 255 with
    | error x => exact elem_2 S w R L W C E st ln h s1 s2 s3 z1 z2 z3 a x e1 e2
    | ok b => cases e3 : numT s3.data.toList 65535 with
      | error x => exact elem_3 S w R L W C E st ln h s1 s2 s3 z1 z2 z3 a b x e1 e2 e3
      | ok v =>
        cases hd : L.els.any (fun c => c.1 == pairT a b) with
        | true => exact elem_dup S w R L W C E st ln h s1 s2 s3 z1 z2 z3 a b v h64 e1 e2 e3 hd
        | false =>
          by_cases hm : 64 ≤ L.els.length
          · exact elem_many S w R L W C E st ln h s1 s2 s3 z1 z2 z3 a b v h64 e1 e2 e3 hd hm
          · exact elem_put S w R L W C E st ln h s1 s2 s3 z1 z2 z3 a b v h64 e1 e2 e3 hd hm
end Go.Proofs.YticfhbffoajgcaaGreatDoor
/- The reader's method entry. (Written by gen_ltent.py.) -/
set_option linter.unusedVariables false
namespace Go.Proofs.YticfhbffoajgcaaGreatDoor
open Go.RowKit

theorem EndM.drew {S : Nat → Prop} {w w' : World} {R : Nat} {ln : Int} {st : Bool} {r : Except Int PL} {e : Ending} (h : EndM S w.drew R ln st r e w') : EndM S w R ln st r e w' := by
  cases r with
  | ok L =>
    obtain ⟨W, C, E, he, hr, hk⟩ := h
    exact ⟨W, C, E, he, hr, ⟨hk.os, hk.tape, hk.output, hk.size, hk.block⟩⟩
  | error x => exact ⟨h.1, (Below.refl _ _).drew.trans h.2⟩
/-- The words of an entry stand. -/
def ArgsAt (b o : Nat) (rs : List (List UInt8)) (w : World) : Prop := ∀ k (hk : k < rs.length), w.cell? ⟨b, o + k, none⟩ = some (.string (mk rs[k]))
theorem ArgsAt.keep {b o : Nat} {rs : List (List UInt8)} {w w' : World} {S : Nat → Prop} (h : ArgsAt b o rs w) (hk : Keep S w w') (hb : b < w.heap.size) (hS : ¬ S b) : ArgsAt b o rs w' := fun k hk2 => by
  rw [World.cell?_of_block (w := w) (hk.block b hb hS)]
  exact h k hk2
theorem ArgsAt.below {b o : Nat} {rs : List (List UInt8)} {w w' : World} (h : ArgsAt b o rs w) (hk : Below w.heap.size w w') (hb : b < w.heap.size) : ArgsAt b o rs w' := h.keep (S := fun _ => False) (Keep.of_below hk) hb id
theorem sa_of {w : World} {b o n c : Nat} {xs : List (List UInt8)} (hn : xs.length = n) (hc : n ≤ c) (hb : b < w.heap.size) (h : ArgsAt b o xs w) : SA w (.slice (some ⟨b, o, none⟩) n c) xs := by
  subst hn
  exact ⟨_, _, rfl, hc, .inr ⟨b, o, rfl, hb, fun j x hx => by
    obtain ⟨hj, rfl⟩ := List.getElem?_eq_some_iff.1 hx
    exact h j hj⟩⟩
theorem ArgsAt.tail {b o : Nat} {x : List UInt8} {rs : List (List UInt8)} {w : World} (h : ArgsAt b o (x :: rs) w) : ArgsAt b (o + 1) rs w := fun k hk => by
  have := h (k + 1) (by simpa using hk)
  rw [show o + 1 + k = o + (k + 1) by omega]
  simpa using this
theorem ArgsAt.init {b o : Nat} {rs : List (List UInt8)} {w : World} (h : ArgsAt b o rs w) : ArgsAt b o rs.dropLast w := fun k hk => by
  rw [List.length_dropLast] at hk
  have := h k (by omega)
  simpa using this
set_option maxRecDepth 100000 in
set_option maxHeartbeats 8000000 in
theorem ent_req_true (S : Nat → Prop) (w : World) (R : Nat) (L : PL) (W C E : Value) (st : Bool) (ln : Int) (h : RD S w R L W C E st ln) (s : ByteArray) (a : Option Addr) (n capr : Nat) (hn : n ≤ 1000000) (hst : st = true) (e0 : (s.toList == [108, 111, 99, 97, 108, 101]) = true) :
    Calls Tryz.prog 51 #[.pointer (some ⟨R, 0, none⟩), .string s, (.slice a n capr)] w (EndM S w R ln true (.error 1)) := by
  subst hst
  have HD := Lib.hid h
  have hlt := h.lt
  have hni : (n : Int) ≤ 1000000 := by omega
  obtain ⟨⟨x0, x1, x2, x3⟩, ⟨x4, x5, x6, x7⟩, xf⟩ := HD.out.cells
  clear h
  go_enter Tryz.func51, Tryz.ntmps51
  go_wp2_with (first
    | (go_at_call 52; with_reducible refine (require_no _ _).mono ?_; rintro e w' ⟨rfl, rfl⟩))
  exact post_panic (P := Tryz.prog) (fn := Tryz.f51) rfl ⟨rfl, Below.refl _ _⟩
set_option maxRecDepth 100000 in
set_option maxHeartbeats 8000000 in
theorem ent_req_false (S : Nat → Prop) (w : World) (R : Nat) (L : PL) (W C E : Value) (st : Bool) (ln : Int) (h : RD S w R L W C E st ln) (s : ByteArray) (a : Option Addr) (n capr : Nat) (hn : n ≤ 1000000) (hst : st = false) (e0 : (s.toList == [108, 111, 99, 97, 108, 101]) = false) :
    Calls Tryz.prog 51 #[.pointer (some ⟨R, 0, none⟩), .string s, (.slice a n capr)] w (EndM S w R ln true (.error 1)) := by
  subst hst
  have HD := Lib.hid h
  have hlt := h.lt
  have hni : (n : Int) ≤ 1000000 := by omega
  obtain ⟨⟨x0, x1, x2, x3⟩, ⟨x4, x5, x6, x7⟩, xf⟩ := HD.out.cells
  clear h
  go_enter Tryz.func51, Tryz.ntmps51
  go_wp2_with (first
    | (go_at_call 52; with_reducible refine (require_no _ _).mono ?_; rintro e w' ⟨rfl, rfl⟩))
  exact post_panic (P := Tryz.prog) (fn := Tryz.f51) rfl ⟨rfl, Below.refl _ _⟩
set_option maxRecDepth 100000 in
set_option maxHeartbeats 8000000 in
theorem ent_none (S : Nat → Prop) (w : World) (R : Nat) (L : PL) (W C E : Value) (st : Bool) (ln : Int) (h : RD S w R L W C E st ln) (s : ByteArray) (a : Option Addr) (n capr : Nat) (hn : n ≤ 1000000) (hst : st = true) (e0 : (s.toList == [108, 111, 99, 97, 108, 101]) = false) (e1 : (s.toList == [119, 101, 105, 103, 104, 116]) = false) (e2 : (s.toList == [108, 111, 119, 101, 114]) = false) (e3 : (s.toList == [117, 112, 112, 101, 114]) = false) (e4 : (s.toList == [99, 108, 97, 115, 115]) = false) (e5 : (s.toList == [101, 108, 101, 109, 101, 110, 116]) = false)  :
    Calls Tryz.prog 51 #[.pointer (some ⟨R, 0, none⟩), .string s, (.slice a n capr)] w (EndM S w R ln true (.error 1)) := by
  subst hst
  have HD := Lib.hid h
  have hlt := h.lt
  have hni : (n : Int) ≤ 1000000 := by omega
  obtain ⟨⟨x0, x1, x2, x3⟩, ⟨x4, x5, x6, x7⟩, xf⟩ := HD.out.cells
  clear h
  go_enter Tryz.func51, Tryz.ntmps51
  go_wp2_with (first
    | (go_at_call 52; with_reducible refine (require_ok _ _).mono ?_; rintro e w' ⟨rfl, rfl⟩))
  exact post_panic (P := Tryz.prog) (fn := Tryz.f51) rfl ⟨rfl, Below.refl _ _⟩
set_option maxRecDepth 100000 in
set_option maxHeartbeats 8000000 in
theorem ent_bad_locale (S : Nat → Prop) (w : World) (R : Nat) (L : PL) (W C E : Value) (st : Bool) (ln : Int) (h : RD S w R L W C E st ln) (s : ByteArray) (a : Option Addr) (n capr : Nat) (hn : n ≤ 1000000) (hst : st = false) (e0 : (s.toList == [108, 111, 99, 97, 108, 101]) = true) (e1 : (s.toList == [119, 101, 105, 103, 104, 116]) = false) (e2 : (s.toList == [108, 111, 119, 101, 114]) = false) (e3 : (s.toList == [117, 112, 112, 101, 114]) = false) (e4 : (s.toList == [99, 108, 97, 115, 115]) = false) (e5 : (s.toList == [101, 108, 101, 109, 101, 110, 116]) = false) (hc : n ≠ 1) :
    Calls Tryz.prog 51 #[.pointer (some ⟨R, 0, none⟩), .string s, (.slice a n capr)] w (EndM S w R ln true (.error 1)) := by
  subst hst
  have hcN : (n == 1) = false := by simpa using hc
  have hcI : ((n : Int) == 1) = false := by simp; omega
  have HD := Lib.hid h
  have hlt := h.lt
  have hni : (n : Int) ≤ 1000000 := by omega
  obtain ⟨⟨x0, x1, x2, x3⟩, ⟨x4, x5, x6, x7⟩, xf⟩ := HD.out.cells
  clear h
  go_enter Tryz.func51, Tryz.ntmps51
  go_wp2_with (first
    | (go_at_call 52; with_reducible refine (require_ok _ _).mono ?_; rintro e w' ⟨rfl, rfl⟩))
  exact post_panic (P := Tryz.prog) (fn := Tryz.f51) rfl ⟨rfl, Below.refl _ _⟩
set_option maxRecDepth 100000 in
set_option maxHeartbeats 8000000 in
theorem ent_bad_weight (S : Nat → Prop) (w : World) (R : Nat) (L : PL) (W C E : Value) (st : Bool) (ln : Int) (h : RD S w R L W C E st ln) (s : ByteArray) (a : Option Addr) (n capr : Nat) (hn : n ≤ 1000000) (hst : st = true) (e0 : (s.toList == [108, 111, 99, 97, 108, 101]) = false) (e1 : (s.toList == [119, 101, 105, 103, 104, 116]) = true) (e2 : (s.toList == [108, 111, 119, 101, 114]) = false) (e3 : (s.toList == [117, 112, 112, 101, 114]) = false) (e4 : (s.toList == [99, 108, 97, 115, 115]) = false) (e5 : (s.toList == [101, 108, 101, 109, 101, 110, 116]) = false) (hc : ¬ 2 ≤ n) :
    Calls Tryz.prog 51 #[.pointer (some ⟨R, 0, none⟩), .string s, (.slice a n capr)] w (EndM S w R ln true (.error 1)) := by
  subst hst
  have hcI : decide ((2 : Int) ≤ n) = false := by simp; omega
  have hcN : decide (2 ≤ n) = false := by simp; omega
  have HD := Lib.hid h
  have hlt := h.lt
  have hni : (n : Int) ≤ 1000000 := by omega
  obtain ⟨⟨x0, x1, x2, x3⟩, ⟨x4, x5, x6, x7⟩, xf⟩ := HD.out.cells
  clear h
  go_enter Tryz.func51, Tryz.ntmps51
  go_wp2_with (first
    | (go_at_call 52; with_reducible refine (require_ok _ _).mono ?_; rintro e w' ⟨rfl, rfl⟩))
  exact post_panic (P := Tryz.prog) (fn := Tryz.f51) rfl ⟨rfl, Below.refl _ _⟩
set_option maxRecDepth 100000 in
set_option maxHeartbeats 8000000 in
theorem ent_bad_lower (S : Nat → Prop) (w : World) (R : Nat) (L : PL) (W C E : Value) (st : Bool) (ln : Int) (h : RD S w R L W C E st ln) (s : ByteArray) (a : Option Addr) (n capr : Nat) (hn : n ≤ 1000000) (hst : st = true) (e0 : (s.toList == [108, 111, 99, 97, 108, 101]) = false) (e1 : (s.toList == [119, 101, 105, 103, 104, 116]) = false) (e2 : (s.toList == [108, 111, 119, 101, 114]) = true) (e3 : (s.toList == [117, 112, 112, 101, 114]) = false) (e4 : (s.toList == [99, 108, 97, 115, 115]) = false) (e5 : (s.toList == [101, 108, 101, 109, 101, 110, 116]) = false) (hc : n ≠ 2) :
    Calls Tryz.prog 51 #[.pointer (some ⟨R, 0, none⟩), .string s, (.slice a n capr)] w (EndM S w R ln true (.error 1)) := by
  subst hst
  have hcN : (n == 2) = false := by simpa using hc
  have hcI : ((n : Int) == 2) = false := by simp; omega
  have HD := Lib.hid h
  have hlt := h.lt
  have hni : (n : Int) ≤ 1000000 := by omega
  obtain ⟨⟨x0, x1, x2, x3⟩, ⟨x4, x5, x6, x7⟩, xf⟩ := HD.out.cells
  clear h
  go_enter Tryz.func51, Tryz.ntmps51
  go_wp2_with (first
    | (go_at_call 52; with_reducible refine (require_ok _ _).mono ?_; rintro e w' ⟨rfl, rfl⟩))
  exact post_panic (P := Tryz.prog) (fn := Tryz.f51) rfl ⟨rfl, Below.refl _ _⟩
set_option maxRecDepth 100000 in
set_option maxHeartbeats 8000000 in
theorem ent_bad_upper (S : Nat → Prop) (w : World) (R : Nat) (L : PL) (W C E : Value) (st : Bool) (ln : Int) (h : RD S w R L W C E st ln) (s : ByteArray) (a : Option Addr) (n capr : Nat) (hn : n ≤ 1000000) (hst : st = true) (e0 : (s.toList == [108, 111, 99, 97, 108, 101]) = false) (e1 : (s.toList == [119, 101, 105, 103, 104, 116]) = false) (e2 : (s.toList == [108, 111, 119, 101, 114]) = false) (e3 : (s.toList == [117, 112, 112, 101, 114]) = true) (e4 : (s.toList == [99, 108, 97, 115, 115]) = false) (e5 : (s.toList == [101, 108, 101, 109, 101, 110, 116]) = false) (hc : n ≠ 2) :
    Calls Tryz.prog 51 #[.pointer (some ⟨R, 0, none⟩), .string s, (.slice a n capr)] w (EndM S w R ln true (.error 1)) := by
  subst hst
  have hcN : (n == 2) = false := by simpa using hc
  have hcI : ((n : Int) == 2) = false := by simp; omega
  have HD := Lib.hid h
  have hlt := h.lt
  have hni : (n : Int) ≤ 1000000 := by omega
  obtain ⟨⟨x0, x1, x2, x3⟩, ⟨x4, x5, x6, x7⟩, xf⟩ := HD.out.cells
  clear h
  go_enter Tryz.func51, Tryz.ntmps51
  go_wp2_with (first
    | (go_at_call 52; with_reducible refine (require_ok _ _).mono ?_; rintro e w' ⟨rfl, rfl⟩))
  exact post_panic (P := Tryz.prog) (fn := Tryz.f51) rfl ⟨rfl, Below.refl _ _⟩
set_option maxRecDepth 100000 in
set_option maxHeartbeats 8000000 in
theorem ent_bad_class (S : Nat → Prop) (w : World) (R : Nat) (L : PL) (W C E : Value) (st : Bool) (ln : Int) (h : RD S w R L W C E st ln) (s : ByteArray) (a : Option Addr) (n capr : Nat) (hn : n ≤ 1000000) (hst : st = true) (e0 : (s.toList == [108, 111, 99, 97, 108, 101]) = false) (e1 : (s.toList == [119, 101, 105, 103, 104, 116]) = false) (e2 : (s.toList == [108, 111, 119, 101, 114]) = false) (e3 : (s.toList == [117, 112, 112, 101, 114]) = false) (e4 : (s.toList == [99, 108, 97, 115, 115]) = true) (e5 : (s.toList == [101, 108, 101, 109, 101, 110, 116]) = false) (hc : ¬ 1 ≤ n) :
    Calls Tryz.prog 51 #[.pointer (some ⟨R, 0, none⟩), .string s, (.slice a n capr)] w (EndM S w R ln true (.error 1)) := by
  subst hst
  have hcI : decide ((1 : Int) ≤ n) = false := by simp; omega
  have hcN : decide (1 ≤ n) = false := by simp; omega
  have HD := Lib.hid h
  have hlt := h.lt
  have hni : (n : Int) ≤ 1000000 := by omega
  obtain ⟨⟨x0, x1, x2, x3⟩, ⟨x4, x5, x6, x7⟩, xf⟩ := HD.out.cells
  clear h
  go_enter Tryz.func51, Tryz.ntmps51
  go_wp2_with (first
    | (go_at_call 52; with_reducible refine (require_ok _ _).mono ?_; rintro e w' ⟨rfl, rfl⟩))
  exact post_panic (P := Tryz.prog) (fn := Tryz.f51) rfl ⟨rfl, Below.refl _ _⟩
set_option maxRecDepth 100000 in
set_option maxHeartbeats 8000000 in
theorem ent_bad_element (S : Nat → Prop) (w : World) (R : Nat) (L : PL) (W C E : Value) (st : Bool) (ln : Int) (h : RD S w R L W C E st ln) (s : ByteArray) (a : Option Addr) (n capr : Nat) (hn : n ≤ 1000000) (hst : st = true) (e0 : (s.toList == [108, 111, 99, 97, 108, 101]) = false) (e1 : (s.toList == [119, 101, 105, 103, 104, 116]) = false) (e2 : (s.toList == [108, 111, 119, 101, 114]) = false) (e3 : (s.toList == [117, 112, 112, 101, 114]) = false) (e4 : (s.toList == [99, 108, 97, 115, 115]) = false) (e5 : (s.toList == [101, 108, 101, 109, 101, 110, 116]) = true) (hc : n ≠ 3) :
    Calls Tryz.prog 51 #[.pointer (some ⟨R, 0, none⟩), .string s, (.slice a n capr)] w (EndM S w R ln true (.error 1)) := by
  subst hst
  have hcN : (n == 3) = false := by simpa using hc
  have hcI : ((n : Int) == 3) = false := by simp; omega
  have HD := Lib.hid h
  have hlt := h.lt
  have hni : (n : Int) ≤ 1000000 := by omega
  obtain ⟨⟨x0, x1, x2, x3⟩, ⟨x4, x5, x6, x7⟩, xf⟩ := HD.out.cells
  clear h
  go_enter Tryz.func51, Tryz.ntmps51
  go_wp2_with (first
    | (go_at_call 52; with_reducible refine (require_ok _ _).mono ?_; rintro e w' ⟨rfl, rfl⟩))
  exact post_panic (P := Tryz.prog) (fn := Tryz.f51) rfl ⟨rfl, Below.refl _ _⟩
end Go.Proofs.YticfhbffoajgcaaGreatDoor
/- The reader's method entry: the methods that it calls. (Written by gen_ltent.py.) -/
set_option linter.unusedVariables false
namespace Go.Proofs.YticfhbffoajgcaaGreatDoor
open Go.RowKit

theorem keep_cell {S : Nat → Prop} {w w' : World} {b o : Nat} {v : Value} (hk : Keep S w w') (hb : b < w.heap.size) (hS : ¬ S b) (h : w.cell? ⟨b, o, none⟩ = some v) : w'.cell? ⟨b, o, none⟩ = some v := by
  rw [World.cell?_of_block (w := w) (hk.block b hb hS)]
  exact h
set_option maxRecDepth 100000 in
set_option maxHeartbeats 8000000 in
theorem ent_locale_ok (S : Nat → Prop) (w : World) (R : Nat) (L : PL) (W C E : Value) (st : Bool) (ln : Int) (h : RD S w R L W C E st ln) (s : ByteArray) (b o n capr : Nat) (hn : n ≤ 1000000) (L' : PL) (X : ByteArray) (hst : st = false) (e0 : (s.toList == [108, 111, 99, 97, 108, 101]) = true) (e1 : (s.toList == [119, 101, 105, 103, 104, 116]) = false) (e2 : (s.toList == [108, 111, 119, 101, 114]) = false) (e3 : (s.toList == [117, 112, 112, 101, 114]) = false) (e4 : (s.toList == [99, 108, 97, 115, 115]) = false) (e5 : (s.toList == [101, 108, 101, 109, 101, 110, 116]) = false) (hc : n = 1) (hcell : w.cell? ⟨b, o, none⟩ = some (.string X)) (HM : Calls Tryz.prog 89 #[.pointer (some ⟨R, 0, none⟩), .string X] w (EndM S w R ln true (.ok L'))) :
    Calls Tryz.prog 51 #[.pointer (some ⟨R, 0, none⟩), .string s, .slice (some ⟨b, o, none⟩) n capr] w (EndM S w R ln true (.ok L')) := by
  subst hst
  subst hc
  have HD := Lib.hid h
  have hlt := h.lt
  obtain ⟨⟨x0, x1, x2, x3⟩, ⟨x4, x5, x6, x7⟩, xf⟩ := HD.out.cells
  clear h
  have HMh := Lib.hid HM
  clear HM
  go_enter Tryz.func51, Tryz.ntmps51
  go_wp2_with (first
    | (go_at_call 52; with_reducible refine (require_ok _ _).mono ?_; rintro e w' ⟨rfl, rfl⟩)
    | (go_at_call 89; refine HMh.out.mono ?_; rintro e w1 ⟨W1, C1, E1, rfl, hr, hk⟩; have HR1 := Lib.hid hr; have HK1 := Lib.hid hk; clear hr hk))
  go_end0
  exact ⟨W1, C1, E1, rfl, HR1.out, HK1.out⟩
set_option maxRecDepth 100000 in
set_option maxHeartbeats 8000000 in
theorem ent_locale_no (S : Nat → Prop) (w : World) (R : Nat) (L : PL) (W C E : Value) (st : Bool) (ln : Int) (h : RD S w R L W C E st ln) (s : ByteArray) (b o n capr : Nat) (hn : n ≤ 1000000) (x : Int) (X : ByteArray) (hst : st = false) (e0 : (s.toList == [108, 111, 99, 97, 108, 101]) = true) (e1 : (s.toList == [119, 101, 105, 103, 104, 116]) = false) (e2 : (s.toList == [108, 111, 119, 101, 114]) = false) (e3 : (s.toList == [117, 112, 112, 101, 114]) = false) (e4 : (s.toList == [99, 108, 97, 115, 115]) = false) (e5 : (s.toList == [101, 108, 101, 109, 101, 110, 116]) = false) (hc : n = 1) (hcell : w.cell? ⟨b, o, none⟩ = some (.string X)) (HM : Calls Tryz.prog 89 #[.pointer (some ⟨R, 0, none⟩), .string X] w (EndM S w R ln true (.error x))) :
    Calls Tryz.prog 51 #[.pointer (some ⟨R, 0, none⟩), .string s, .slice (some ⟨b, o, none⟩) n capr] w (EndM S w R ln true (.error x)) := by
  subst hst
  subst hc
  have HD := Lib.hid h
  have hlt := h.lt
  obtain ⟨⟨x0, x1, x2, x3⟩, ⟨x4, x5, x6, x7⟩, xf⟩ := HD.out.cells
  clear h
  have HMh := Lib.hid HM
  clear HM
  go_enter Tryz.func51, Tryz.ntmps51
  go_wp2_with (first
    | (go_at_call 52; with_reducible refine (require_ok _ _).mono ?_; rintro e w' ⟨rfl, rfl⟩)
    | (go_at_call 89; refine HMh.out.mono ?_; rintro e w1 ⟨rfl, hb⟩; have HB1 := Lib.hid hb; clear hb))
  exact post_panic (P := Tryz.prog) (fn := Tryz.f51) rfl ⟨rfl, HB1.out⟩
set_option maxRecDepth 100000 in
set_option maxHeartbeats 8000000 in
theorem ent_weight_ok (S : Nat → Prop) (w : World) (R : Nat) (L : PL) (W C E : Value) (st : Bool) (ln : Int) (h : RD S w R L W C E st ln) (s : ByteArray) (b o n capr : Nat) (hn : n ≤ 1000000) (L' : PL) (X : ByteArray) (m : Nat) (hst : st = true) (e0 : (s.toList == [108, 111, 99, 97, 108, 101]) = false) (e1 : (s.toList == [119, 101, 105, 103, 104, 116]) = true) (e2 : (s.toList == [108, 111, 119, 101, 114]) = false) (e3 : (s.toList == [117, 112, 112, 101, 114]) = false) (e4 : (s.toList == [99, 108, 97, 115, 115]) = false) (e5 : (s.toList == [101, 108, 101, 109, 101, 110, 116]) = false) (hc : 2 ≤ n) (hm : n = m + 1) (hcap : n ≤ capr) (hb : b < w.heap.size) (hsep : ¬ own S R b) (hcell : w.cell? ⟨b, o + m, none⟩ = some (.string X)) (HM : Calls Tryz.prog 90 #[.pointer (some ⟨R, 0, none⟩), .slice (some ⟨b, o, none⟩) m capr, .string X] w.drew (EndM S w.drew R ln true (.ok L'))) :
    Calls Tryz.prog 51 #[.pointer (some ⟨R, 0, none⟩), .string s, .slice (some ⟨b, o, none⟩) n capr] w (EndM S w R ln true (.ok L')) := by
  subst hst
  have HD := Lib.hid h
  have hlt := h.lt
  have hni : (n : Int) ≤ 1000000 := by omega
  obtain ⟨⟨x0, x1, x2, x3⟩, ⟨x4, x5, x6, x7⟩, xf⟩ := HD.out.cells
  clear h
  have HMh := Lib.hid HM
  have HSep : Hid (b < w.heap.size ∧ ¬ own S R b) := ⟨hb, hsep⟩
  have hci : (2 : Int) ≤ n := by omega
  have hsub : IntKind.i64.wrap ((n : Int) - 1) = (m : Int) := by rw [IntWalk.i64_in _ (by omega)]; omega
  have b1 : (m : Int) ≤ capr := by omega
  have b2 : (m : Int) < n := by omega
  have b3 : (0 : Int) ≤ m := by omega
  have b4 : m < n := by omega
  have HC := Lib.hid hcell
  clear HM hb hsep hm hcap hcell
  go_enter Tryz.func51, Tryz.ntmps51
  go_wp2_with (first
    | (go_at_call 52; with_reducible refine (require_ok _ _).mono ?_; rintro e w' ⟨rfl, rfl⟩))
  refine wp_region_held_drew (S := fun w' => w'.cell? ⟨b, o + m, none⟩ = some (.string X)) (by kernel_rfl) ?_ (fun hHeld => ?_)
  · exact HC.out
  refine wpAnyH_take (i := 0) (v := ?av0) rfl (by kernel_rfl) (by kernel_rfl) (by kernel_rfl) (fun _ _ _ h => h) (Or.inl ⟨by rfl, ?ay0⟩) (by assumption) ?ar0
  case ay0 =>
    intro wx hSw
    clear hSw
    go_simp
    first | done | (with_reducible rfl)
  (try simp only [Act.put, List.getElem_toArray, List.getElem_cons_zero, List.setIfInBounds_toArray, List.set_cons_zero, List.set_cons_succ])
  refine wpAnyH_take (i := 1) (v := ?av1) rfl (by kernel_rfl) (by kernel_rfl) (by kernel_rfl) (fun _ _ _ h => h) (Or.inl ⟨by rfl, ?ay1⟩) (by assumption) ?ar1
  case ay1 =>
    intro wx hSw
    clear hSw
    go_simp
    first | done | (with_reducible rfl)
  (try simp only [Act.put, List.getElem_toArray, List.getElem_cons_succ, List.getElem_cons_zero, List.setIfInBounds_toArray, List.set_cons_zero, List.set_cons_succ])
  refine wpAnyH_take (i := 2) (v := ?av2) rfl (by kernel_rfl) (by kernel_rfl) (by kernel_rfl) (fun _ _ _ h => h) (Or.inl ⟨by rfl, ?ay2⟩) (by assumption) ?ar2
  case ay2 =>
    intro wx hSw
    clear hSw
    go_simp
    first | done | (with_reducible rfl)
  (try simp only [Act.put, List.getElem_toArray, List.getElem_cons_succ, List.getElem_cons_zero, List.setIfInBounds_toArray, List.set_cons_zero, List.set_cons_succ])
  refine wpAnyH_take (i := 3) (v := ?av3) rfl (by kernel_rfl) (by kernel_rfl) (by kernel_rfl) (fun _ _ _ h => h) (Or.inl ⟨by rfl, ?ay3⟩) (by assumption) ?ar3
  case ay3 =>
    intro wx hSw
    clear hSw
    go_simp
    first | done | (with_reducible rfl)
  (try simp only [Act.put, List.getElem_toArray, List.getElem_cons_succ, List.getElem_cons_zero, List.setIfInBounds_toArray, List.set_cons_zero, List.set_cons_succ])
  refine wpAnyH_take (i := 4) (v := ?av4) rfl (by kernel_rfl) (by kernel_rfl) (by kernel_rfl) (fun _ _ _ h => h) (Or.inl ⟨by rfl, ?ay4⟩) (by assumption) ?ar4
  case ay4 =>
    intro wx hSw
    clear hSw
    go_simp
    first | done | (with_reducible rfl)
  (try simp only [Act.put, List.getElem_toArray, List.getElem_cons_succ, List.getElem_cons_zero, List.setIfInBounds_toArray, List.set_cons_zero, List.set_cons_succ])
  refine wpAnyH_take (i := 5) (v := ?av5) rfl (by kernel_rfl) (by kernel_rfl) (by kernel_rfl) (fun _ _ _ h => h) (Or.inl ⟨by rfl, ?ay5⟩) (by assumption) ?ar5
  case ay5 =>
    intro wx hSw
    clear hSw
    go_simp
    first | done | (with_reducible rfl)
  (try simp only [Act.put, List.getElem_toArray, List.getElem_cons_succ, List.getElem_cons_zero, List.setIfInBounds_toArray, List.set_cons_zero, List.set_cons_succ])
  refine wpAnyH_take (i := 6) (v := ?av6) rfl (by kernel_rfl) (by kernel_rfl) (by kernel_rfl) (fun _ _ _ h => h) (Or.inl ⟨by rfl, ?ay6⟩) (by assumption) ?ar6
  case ay6 =>
    intro wx hSw
    clear hSw
    go_simp
    first | done | (with_reducible rfl)
  (try simp only [Act.put, List.getElem_toArray, List.getElem_cons_succ, List.getElem_cons_zero, List.setIfInBounds_toArray, List.set_cons_zero, List.set_cons_succ])
  refine wpAnyH_take (i := 7) (v := ?av7) rfl (by kernel_rfl) (by kernel_rfl) (by kernel_rfl) (fun _ _ _ h => h) (Or.inl ⟨by rfl, ?ay7⟩) (by assumption) ?ar7
  case ay7 =>
    intro wx hSw
    clear hSw
    go_simp
    first | done | (with_reducible rfl)
  (try simp only [Act.put, List.getElem_toArray, List.getElem_cons_succ, List.getElem_cons_zero, List.setIfInBounds_toArray, List.set_cons_zero, List.set_cons_succ])
  refine wpAnyH_take (i := 8) (v := ?av8) rfl (by kernel_rfl) (by kernel_rfl) (by kernel_rfl) (fun _ _ _ h => h) (Or.inl ⟨by rfl, ?ay8⟩) (by assumption) ?ar8
  case ay8 =>
    intro wx hSw
    clear hSw
    go_simp
    first | done | (with_reducible rfl)
  (try simp only [Act.put, List.getElem_toArray, List.getElem_cons_succ, List.getElem_cons_zero, List.setIfInBounds_toArray, List.set_cons_zero, List.set_cons_succ])
  refine wpAnyH_take (i := 9) (v := ?av9) rfl (by kernel_rfl) (by kernel_rfl) (by kernel_rfl) (fun _ _ _ h => h) (Or.inl ⟨by rfl, ?ay9⟩) (by assumption) ?ar9
  case ay9 =>
    intro wx hSw
    have hcl := hSw
    clear hSw
    go_simp
    first | done | (with_reducible rfl)
  (try simp only [Act.put, List.getElem_toArray, List.getElem_cons_succ, List.getElem_cons_zero, List.setIfInBounds_toArray, List.set_cons_zero, List.set_cons_succ])
  refine wpAnyH_ready (rs := [10]) (by kernel_rfl) (by simp) ?_
  refine AllReadyH.cons rfl (fun K hK => ?_) AllReadyH.nil
  go_simp
  go_at_call 90
  refine HMh.out.mono ?_
  rintro e w1 ⟨W1, C1, E1, rfl, hr, hk⟩
  refine hK.out _ _ ?_ (fun _ => ?_)
  · exact keep_cell hk HSep.out.1 HSep.out.2 HC.out
  clear hK K
  (try simp only [Act.put, List.getElem_toArray, List.getElem_cons_succ, List.getElem_cons_zero, List.setIfInBounds_toArray, List.set_cons_zero, List.set_cons_succ])
  refine wpAnyH_done (by kernel_rfl) ?_ _
  have HR1 := Lib.hid hr
  have HK1 := Lib.hid hk
  clear hr hk
  go_wp2
  go_end0
  exact EndM.drew (r := .ok L') ⟨W1, C1, E1, rfl, HR1.out, HK1.out⟩
set_option maxRecDepth 100000 in
set_option maxHeartbeats 8000000 in
theorem ent_weight_no (S : Nat → Prop) (w : World) (R : Nat) (L : PL) (W C E : Value) (st : Bool) (ln : Int) (h : RD S w R L W C E st ln) (s : ByteArray) (b o n capr : Nat) (hn : n ≤ 1000000) (x : Int) (X : ByteArray) (m : Nat) (hst : st = true) (e0 : (s.toList == [108, 111, 99, 97, 108, 101]) = false) (e1 : (s.toList == [119, 101, 105, 103, 104, 116]) = true) (e2 : (s.toList == [108, 111, 119, 101, 114]) = false) (e3 : (s.toList == [117, 112, 112, 101, 114]) = false) (e4 : (s.toList == [99, 108, 97, 115, 115]) = false) (e5 : (s.toList == [101, 108, 101, 109, 101, 110, 116]) = false) (hc : 2 ≤ n) (hm : n = m + 1) (hcap : n ≤ capr) (hb : b < w.heap.size) (hsep : ¬ own S R b) (hcell : w.cell? ⟨b, o + m, none⟩ = some (.string X)) (HM : Calls Tryz.prog 90 #[.pointer (some ⟨R, 0, none⟩), .slice (some ⟨b, o, none⟩) m capr, .string X] w.drew (EndM S w.drew R ln true (.error x))) :
    Calls Tryz.prog 51 #[.pointer (some ⟨R, 0, none⟩), .string s, .slice (some ⟨b, o, none⟩) n capr] w (EndM S w R ln true (.error x)) := by
  subst hst
  have HD := Lib.hid h
  have hlt := h.lt
  have hni : (n : Int) ≤ 1000000 := by omega
  obtain ⟨⟨x0, x1, x2, x3⟩, ⟨x4, x5, x6, x7⟩, xf⟩ := HD.out.cells
  clear h
  have HMh := Lib.hid HM
  have HSep : Hid (b < w.heap.size ∧ ¬ own S R b) := ⟨hb, hsep⟩
  have hci : (2 : Int) ≤ n := by omega
  have hsub : IntKind.i64.wrap ((n : Int) - 1) = (m : Int) := by rw [IntWalk.i64_in _ (by omega)]; omega
  have b1 : (m : Int) ≤ capr := by omega
  have b2 : (m : Int) < n := by omega
  have b3 : (0 : Int) ≤ m := by omega
  have b4 : m < n := by omega
  have HC := Lib.hid hcell
  clear HM hb hsep hm hcap hcell
  go_enter Tryz.func51, Tryz.ntmps51
  go_wp2_with (first
    | (go_at_call 52; with_reducible refine (require_ok _ _).mono ?_; rintro e w' ⟨rfl, rfl⟩))
  refine wp_region_held_drew (S := fun w' => w'.cell? ⟨b, o + m, none⟩ = some (.string X)) (by kernel_rfl) ?_ (fun hHeld => ?_)
  · exact HC.out
  refine wpAnyH_take (i := 0) (v := ?av0) rfl (by kernel_rfl) (by kernel_rfl) (by kernel_rfl) (fun _ _ _ h => h) (Or.inl ⟨by rfl, ?ay0⟩) (by assumption) ?ar0
  case ay0 =>
    intro wx hSw
    clear hSw
    go_simp
    first | done | (with_reducible rfl)
  (try simp only [Act.put, List.getElem_toArray, List.getElem_cons_zero, List.setIfInBounds_toArray, List.set_cons_zero, List.set_cons_succ])
  refine wpAnyH_take (i := 1) (v := ?av1) rfl (by kernel_rfl) (by kernel_rfl) (by kernel_rfl) (fun _ _ _ h => h) (Or.inl ⟨by rfl, ?ay1⟩) (by assumption) ?ar1
  case ay1 =>
    intro wx hSw
    clear hSw
    go_simp
    first | done | (with_reducible rfl)
  (try simp only [Act.put, List.getElem_toArray, List.getElem_cons_succ, List.getElem_cons_zero, List.setIfInBounds_toArray, List.set_cons_zero, List.set_cons_succ])
  refine wpAnyH_take (i := 2) (v := ?av2) rfl (by kernel_rfl) (by kernel_rfl) (by kernel_rfl) (fun _ _ _ h => h) (Or.inl ⟨by rfl, ?ay2⟩) (by assumption) ?ar2
  case ay2 =>
    intro wx hSw
    clear hSw
    go_simp
    first | done | (with_reducible rfl)
  (try simp only [Act.put, List.getElem_toArray, List.getElem_cons_succ, List.getElem_cons_zero, List.setIfInBounds_toArray, List.set_cons_zero, List.set_cons_succ])
  refine wpAnyH_take (i := 3) (v := ?av3) rfl (by kernel_rfl) (by kernel_rfl) (by kernel_rfl) (fun _ _ _ h => h) (Or.inl ⟨by rfl, ?ay3⟩) (by assumption) ?ar3
  case ay3 =>
    intro wx hSw
    clear hSw
    go_simp
    first | done | (with_reducible rfl)
  (try simp only [Act.put, List.getElem_toArray, List.getElem_cons_succ, List.getElem_cons_zero, List.setIfInBounds_toArray, List.set_cons_zero, List.set_cons_succ])
  refine wpAnyH_take (i := 4) (v := ?av4) rfl (by kernel_rfl) (by kernel_rfl) (by kernel_rfl) (fun _ _ _ h => h) (Or.inl ⟨by rfl, ?ay4⟩) (by assumption) ?ar4
  case ay4 =>
    intro wx hSw
    clear hSw
    go_simp
    first | done | (with_reducible rfl)
  (try simp only [Act.put, List.getElem_toArray, List.getElem_cons_succ, List.getElem_cons_zero, List.setIfInBounds_toArray, List.set_cons_zero, List.set_cons_succ])
  refine wpAnyH_take (i := 5) (v := ?av5) rfl (by kernel_rfl) (by kernel_rfl) (by kernel_rfl) (fun _ _ _ h => h) (Or.inl ⟨by rfl, ?ay5⟩) (by assumption) ?ar5
  case ay5 =>
    intro wx hSw
    clear hSw
    go_simp
    first | done | (with_reducible rfl)
  (try simp only [Act.put, List.getElem_toArray, List.getElem_cons_succ, List.getElem_cons_zero, List.setIfInBounds_toArray, List.set_cons_zero, List.set_cons_succ])
  refine wpAnyH_take (i := 6) (v := ?av6) rfl (by kernel_rfl) (by kernel_rfl) (by kernel_rfl) (fun _ _ _ h => h) (Or.inl ⟨by rfl, ?ay6⟩) (by assumption) ?ar6
  case ay6 =>
    intro wx hSw
    clear hSw
    go_simp
    first | done | (with_reducible rfl)
  (try simp only [Act.put, List.getElem_toArray, List.getElem_cons_succ, List.getElem_cons_zero, List.setIfInBounds_toArray, List.set_cons_zero, List.set_cons_succ])
  refine wpAnyH_take (i := 7) (v := ?av7) rfl (by kernel_rfl) (by kernel_rfl) (by kernel_rfl) (fun _ _ _ h => h) (Or.inl ⟨by rfl, ?ay7⟩) (by assumption) ?ar7
  case ay7 =>
    intro wx hSw
    clear hSw
    go_simp
    first | done | (with_reducible rfl)
  (try simp only [Act.put, List.getElem_toArray, List.getElem_cons_succ, List.getElem_cons_zero, List.setIfInBounds_toArray, List.set_cons_zero, List.set_cons_succ])
  refine wpAnyH_take (i := 8) (v := ?av8) rfl (by kernel_rfl) (by kernel_rfl) (by kernel_rfl) (fun _ _ _ h => h) (Or.inl ⟨by rfl, ?ay8⟩) (by assumption) ?ar8
  case ay8 =>
    intro wx hSw
    clear hSw
    go_simp
    first | done | (with_reducible rfl)
  (try simp only [Act.put, List.getElem_toArray, List.getElem_cons_succ, List.getElem_cons_zero, List.setIfInBounds_toArray, List.set_cons_zero, List.set_cons_succ])
  refine wpAnyH_take (i := 9) (v := ?av9) rfl (by kernel_rfl) (by kernel_rfl) (by kernel_rfl) (fun _ _ _ h => h) (Or.inl ⟨by rfl, ?ay9⟩) (by assumption) ?ar9
  case ay9 =>
    intro wx hSw
    have hcl := hSw
    clear hSw
    go_simp
    first | done | (with_reducible rfl)
  (try simp only [Act.put, List.getElem_toArray, List.getElem_cons_succ, List.getElem_cons_zero, List.setIfInBounds_toArray, List.set_cons_zero, List.set_cons_succ])
  refine wpAnyH_ready (rs := [10]) (by kernel_rfl) (by simp) ?_
  refine AllReadyH.cons rfl (fun K hK => ?_) AllReadyH.nil
  go_simp
  go_at_call 90
  refine HMh.out.mono ?_
  rintro e w1 ⟨rfl, hb⟩
  exact post_panic (P := Tryz.prog) (fn := Tryz.f51) rfl ⟨rfl, (Below.refl _ _).drew.trans hb⟩
theorem low_ok {S : Nat → Prop} {w : World} {R : Nat} {L : PL} {W C E : Value} {ln : Int} {w1 : World} (h : RD S w R L W C E true ln) (hb : Below w.heap.size w w1) (t : List UInt8) : EndM S w R ln true (.ok { L with lower := t }) (.returned (.tuple #[])) (w1.setCell ⟨R, 2, none⟩ (.string (mk t))) :=
  Did.of h.lt ((h.next hb).lower t) ((Keep.of_below hb).put R 2 (.inl (.inr rfl)) _)
theorem up_ok {S : Nat → Prop} {w : World} {R : Nat} {L : PL} {W C E : Value} {ln : Int} {w1 : World} (h : RD S w R L W C E true ln) (hb : Below w.heap.size w w1) (t : List UInt8) : EndM S w R ln true (.ok { L with upper := t }) (.returned (.tuple #[])) (w1.setCell ⟨R, 3, none⟩ (.string (mk t))) :=
  Did.of h.lt ((h.next hb).upper t) ((Keep.of_below hb).put R 3 (.inl (.inr rfl)) _)
set_option maxRecDepth 100000 in
set_option maxHeartbeats 8000000 in
theorem ent_lower_ok (S : Nat → Prop) (w : World) (R : Nat) (L : PL) (W C E : Value) (st : Bool) (ln : Int) (h : RD S w R L W C E st ln) (s : ByteArray) (b o n capr : Nat) (hn : n ≤ 1000000) (t : List UInt8) (X Y : ByteArray) (hst : st = true) (e0 : (s.toList == [108, 111, 99, 97, 108, 101]) = false) (e1 : (s.toList == [119, 101, 105, 103, 104, 116]) = false) (e2 : (s.toList == [108, 111, 119, 101, 114]) = true) (e3 : (s.toList == [117, 112, 112, 101, 114]) = false) (e4 : (s.toList == [99, 108, 97, 115, 115]) = false) (e5 : (s.toList == [101, 108, 101, 109, 101, 110, 116]) = false) (hc : n = 2) (hcell : w.cell? ⟨b, o, none⟩ = some (.string X)) (hcell2 : w.cell? ⟨b, o + 1, none⟩ = some (.string Y)) (hb : b < w.heap.size) (hsep : ¬ own S R b) (HM : Calls Tryz.prog 91 #[.string (mk L.lower), .string X, .string Y] w.drew fun e w' => e = .returned (.string (mk t)) ∧ Below w.drew.heap.size w.drew w') :
    Calls Tryz.prog 51 #[.pointer (some ⟨R, 0, none⟩), .string s, .slice (some ⟨b, o, none⟩) n capr] w (EndM S w R ln true (.ok { L with lower := t })) := by
  subst hst
  subst hc
  have HD := Lib.hid h
  have hlt := h.lt
  obtain ⟨⟨x0, x1, x2, x3⟩, ⟨x4, x5, x6, x7⟩, xf⟩ := HD.out.cells
  clear h
  have HMh := Lib.hid HM
  have HSep : Hid (b < w.heap.size ∧ ¬ own S R b) := ⟨hb, hsep⟩
  have HC : Hid (w.cell? ⟨b, o, none⟩ = some (.string X) ∧ w.cell? ⟨b, o + 1, none⟩ = some (.string Y)) := ⟨hcell, hcell2⟩
  clear HM hb hsep hcell hcell2
  go_enter Tryz.func51, Tryz.ntmps51
  go_wp2_with (first
    | (go_at_call 52; with_reducible refine (require_ok _ _).mono ?_; rintro e w' ⟨rfl, rfl⟩))
  refine wp_region_held_drew (S := fun w' => w'.cell? ⟨b, o, none⟩ = some (.string X) ∧ w'.cell? ⟨b, o + 1, none⟩ = some (.string Y)) (by kernel_rfl) ?_ (fun hHeld => ?_)
  · exact HC.out
  refine wpAnyH_take (i := 0) (v := ?av0) rfl (by kernel_rfl) (by kernel_rfl) (by kernel_rfl) (fun _ _ _ h => h) (Or.inl ⟨by rfl, ?ay0⟩) (by assumption) ?ar0
  case ay0 =>
    intro wx hSw
    clear hSw
    go_simp
    first | done | (with_reducible rfl)
  (try simp only [Act.put, List.getElem_toArray, List.getElem_cons_zero, List.setIfInBounds_toArray, List.set_cons_zero, List.set_cons_succ])
  refine wpAnyH_take (i := 1) (v := ?av1) rfl (by kernel_rfl) (by kernel_rfl) (by kernel_rfl) (fun _ _ _ h => h) (Or.inl ⟨by rfl, ?ay1⟩) (by assumption) ?ar1
  case ay1 =>
    intro wx hSw
    clear hSw
    go_simp
    first | done | (with_reducible rfl)
  (try simp only [Act.put, List.getElem_toArray, List.getElem_cons_succ, List.getElem_cons_zero, List.setIfInBounds_toArray, List.set_cons_zero, List.set_cons_succ])
  refine wpAnyH_take (i := 2) (v := ?av2) rfl (by kernel_rfl) (by kernel_rfl) (by kernel_rfl) (fun _ _ _ h => h) (Or.inl ⟨by rfl, ?ay2⟩) (by assumption) ?ar2
  case ay2 =>
    intro wx hSw
    clear hSw
    go_simp
    first | done | (with_reducible rfl)
  (try simp only [Act.put, List.getElem_toArray, List.getElem_cons_succ, List.getElem_cons_zero, List.setIfInBounds_toArray, List.set_cons_zero, List.set_cons_succ])
  refine wpAnyH_take (i := 3) (v := ?av3) rfl (by kernel_rfl) (by kernel_rfl) (by kernel_rfl) (fun _ _ _ h => h) (Or.inl ⟨by rfl, ?ay3⟩) (by assumption) ?ar3
  case ay3 =>
    intro wx hSw
    clear hSw
    go_simp
    first | done | (with_reducible rfl)
  (try simp only [Act.put, List.getElem_toArray, List.getElem_cons_succ, List.getElem_cons_zero, List.setIfInBounds_toArray, List.set_cons_zero, List.set_cons_succ])
  refine wpAnyH_take (i := 4) (v := ?av4) rfl (by kernel_rfl) (by kernel_rfl) (by kernel_rfl) (fun _ _ _ h => h) (Or.inl ⟨by rfl, ?ay4⟩) (by assumption) ?ar4
  case ay4 =>
    intro wx hSw
    clear hSw
    go_simp
    first | done | (with_reducible rfl)
  (try simp only [Act.put, List.getElem_toArray, List.getElem_cons_succ, List.getElem_cons_zero, List.setIfInBounds_toArray, List.set_cons_zero, List.set_cons_succ])
  refine wpAnyH_take (i := 6) (v := ?av6) rfl (by kernel_rfl) (by kernel_rfl) (by kernel_rfl) (fun _ _ _ h => h) (Or.inl ⟨by rfl, ?ay6⟩) (by assumption) ?ar6
  case ay6 =>
    intro wx hSw
    clear hSw
    go_simp
    first | done | (with_reducible rfl)
  (try simp only [Act.put, List.getElem_toArray, List.getElem_cons_succ, List.getElem_cons_zero, List.setIfInBounds_toArray, List.set_cons_zero, List.set_cons_succ])
  refine wpAnyH_take (i := 7) (v := ?av7) rfl (by kernel_rfl) (by kernel_rfl) (by kernel_rfl) (fun _ _ _ h => h) (Or.inl ⟨by rfl, ?ay7⟩) (by assumption) ?ar7
  case ay7 =>
    intro wx hSw
    clear hSw
    go_simp
    first | done | (with_reducible rfl)
  (try simp only [Act.put, List.getElem_toArray, List.getElem_cons_succ, List.getElem_cons_zero, List.setIfInBounds_toArray, List.set_cons_zero, List.set_cons_succ])
  refine wpAnyH_take (i := 8) (v := ?av8) rfl (by kernel_rfl) (by kernel_rfl) (by kernel_rfl) (fun _ _ _ h => h) (Or.inl ⟨by rfl, ?ay8⟩) (by assumption) ?ar8
  case ay8 =>
    intro wx hSw
    have hcl := hSw.1
    clear hSw
    go_simp
    first | done | (with_reducible rfl)
  (try simp only [Act.put, List.getElem_toArray, List.getElem_cons_succ, List.getElem_cons_zero, List.setIfInBounds_toArray, List.set_cons_zero, List.set_cons_succ])
  refine wpAnyH_take (i := 9) (v := ?av9) rfl (by kernel_rfl) (by kernel_rfl) (by kernel_rfl) (fun _ _ _ h => h) (Or.inl ⟨by rfl, ?ay9⟩) (by assumption) ?ar9
  case ay9 =>
    intro wx hSw
    clear hSw
    go_simp
    first | done | (with_reducible rfl)
  (try simp only [Act.put, List.getElem_toArray, List.getElem_cons_succ, List.getElem_cons_zero, List.setIfInBounds_toArray, List.set_cons_zero, List.set_cons_succ])
  refine wpAnyH_take (i := 10) (v := ?av10) rfl (by kernel_rfl) (by kernel_rfl) (by kernel_rfl) (fun _ _ _ h => h) (Or.inl ⟨by rfl, ?ay10⟩) (by assumption) ?ar10
  case ay10 =>
    intro wx hSw
    clear hSw
    go_simp
    first | done | (with_reducible rfl)
  (try simp only [Act.put, List.getElem_toArray, List.getElem_cons_succ, List.getElem_cons_zero, List.setIfInBounds_toArray, List.set_cons_zero, List.set_cons_succ])
  refine wpAnyH_take (i := 11) (v := ?av11) rfl (by kernel_rfl) (by kernel_rfl) (by kernel_rfl) (fun _ _ _ h => h) (Or.inl ⟨by rfl, ?ay11⟩) (by assumption) ?ar11
  case ay11 =>
    intro wx hSw
    have hcl := hSw.2
    clear hSw
    go_simp
    first | done | (with_reducible rfl)
  (try simp only [Act.put, List.getElem_toArray, List.getElem_cons_succ, List.getElem_cons_zero, List.setIfInBounds_toArray, List.set_cons_zero, List.set_cons_succ])
  refine wpAnyH_ready (rs := [5]) (by kernel_rfl) (by simp) ?_
  refine AllReadyH.cons rfl (fun K hK => ?_) AllReadyH.nil
  go_simp
  refine hK.out _ _ hHeld (fun _ => ?_)
  clear hK K
  (try simp only [Act.put, List.getElem_toArray, List.getElem_cons_succ, List.getElem_cons_zero, List.setIfInBounds_toArray, List.set_cons_zero, List.set_cons_succ])
  refine wpAnyH_ready (rs := [12]) (by kernel_rfl) (by simp) ?_
  refine AllReadyH.cons rfl (fun K hK => ?_) AllReadyH.nil
  go_simp
  go_at_call 91
  refine HMh.out.mono ?_
  rintro e w1 ⟨rfl, hb⟩
  have HB1 : Hid (Below w.heap.size w w1) := (Below.refl _ _).drew.trans hb
  refine hK.out _ _ ⟨keep_words HB1.out HC.out.1, keep_words HB1.out HC.out.2⟩ (fun _ => ?_)
  clear hK K hb
  (try simp only [Act.put, List.getElem_toArray, List.getElem_cons_succ, List.getElem_cons_zero, List.setIfInBounds_toArray, List.set_cons_zero, List.set_cons_succ])
  clear x0 x1 x2 x3 x4 x5 x6 x7 xf
  have hD1 := HD.out.next HB1.out
  obtain ⟨⟨x0, x1, x2, x3⟩, ⟨x4, x5, x6, x7⟩, xf⟩ := hD1.cells
  clear hD1
  refine wpAnyH_take (i := 13) (v := ?bv13) rfl (by kernel_rfl) (by kernel_rfl) (by kernel_rfl) (fun _ _ _ h => h) (Or.inl ⟨by rfl, ?by13⟩) (by assumption) ?br13
  case by13 =>
    intro wx hSw
    clear hSw
    go_simp
    first | done | (with_reducible rfl)
  (try simp only [Act.put, List.getElem_toArray, List.getElem_cons_succ, List.getElem_cons_zero, List.setIfInBounds_toArray, List.set_cons_zero, List.set_cons_succ])
  refine wpAnyH_take (i := 14) (v := ?bv14) rfl (by kernel_rfl) (by kernel_rfl) (by kernel_rfl) (fun _ _ _ h => h) (Or.inl ⟨by rfl, ?by14⟩) (by assumption) ?br14
  case by14 =>
    intro wx hSw
    clear hSw
    go_simp
    first | done | (with_reducible rfl)
  (try simp only [Act.put, List.getElem_toArray, List.getElem_cons_succ, List.getElem_cons_zero, List.setIfInBounds_toArray, List.set_cons_zero, List.set_cons_succ])
  refine wpAnyH_take (i := 15) (v := ?bv15) rfl (by kernel_rfl) (by kernel_rfl) (by kernel_rfl) (fun _ _ _ h => h) (Or.inl ⟨by rfl, ?by15⟩) (by assumption) ?br15
  case by15 =>
    intro wx hSw
    clear hSw
    go_simp
    first | done | (with_reducible rfl)
  (try simp only [Act.put, List.getElem_toArray, List.getElem_cons_succ, List.getElem_cons_zero, List.setIfInBounds_toArray, List.set_cons_zero, List.set_cons_succ])
  refine wpAnyH_ready (rs := [16]) (by kernel_rfl) (by simp) ?_
  refine AllReadyH.cons rfl (fun K hK => ?_) AllReadyH.nil
  go_simp
  refine hK.out _ _ ?_ (fun _ => ?_)
  · exact ⟨keep_cell ((Keep.of_below (S := own S R) HB1.out).put R 2 (.inl (.inr rfl)) _) HSep.out.1 HSep.out.2 HC.out.1, keep_cell ((Keep.of_below (S := own S R) HB1.out).put R 2 (.inl (.inr rfl)) _) HSep.out.1 HSep.out.2 HC.out.2⟩
  clear hK K
  (try simp only [Act.put, List.getElem_toArray, List.getElem_cons_succ, List.getElem_cons_zero, List.setIfInBounds_toArray, List.set_cons_zero, List.set_cons_succ])
  refine wpAnyH_done (by kernel_rfl) ?_ _
  go_wp2
  go_end0
  exact low_ok HD.out HB1.out t
set_option maxRecDepth 100000 in
set_option maxHeartbeats 8000000 in
theorem ent_lower_no (S : Nat → Prop) (w : World) (R : Nat) (L : PL) (W C E : Value) (st : Bool) (ln : Int) (h : RD S w R L W C E st ln) (s : ByteArray) (b o n capr : Nat) (hn : n ≤ 1000000) (x : Int) (X Y : ByteArray) (hst : st = true) (e0 : (s.toList == [108, 111, 99, 97, 108, 101]) = false) (e1 : (s.toList == [119, 101, 105, 103, 104, 116]) = false) (e2 : (s.toList == [108, 111, 119, 101, 114]) = true) (e3 : (s.toList == [117, 112, 112, 101, 114]) = false) (e4 : (s.toList == [99, 108, 97, 115, 115]) = false) (e5 : (s.toList == [101, 108, 101, 109, 101, 110, 116]) = false) (hc : n = 2) (hcell : w.cell? ⟨b, o, none⟩ = some (.string X)) (hcell2 : w.cell? ⟨b, o + 1, none⟩ = some (.string Y)) (hb : b < w.heap.size) (hsep : ¬ own S R b) (HM : Calls Tryz.prog 91 #[.string (mk L.lower), .string X, .string Y] w.drew fun e w' => e = .panicked (pch x) ∧ Below w.drew.heap.size w.drew w') :
    Calls Tryz.prog 51 #[.pointer (some ⟨R, 0, none⟩), .string s, .slice (some ⟨b, o, none⟩) n capr] w (EndM S w R ln true (.error x)) := by
  subst hst
  subst hc
  have HD := Lib.hid h
  have hlt := h.lt
  obtain ⟨⟨x0, x1, x2, x3⟩, ⟨x4, x5, x6, x7⟩, xf⟩ := HD.out.cells
  clear h
  have HMh := Lib.hid HM
  have HSep : Hid (b < w.heap.size ∧ ¬ own S R b) := ⟨hb, hsep⟩
  have HC : Hid (w.cell? ⟨b, o, none⟩ = some (.string X) ∧ w.cell? ⟨b, o + 1, none⟩ = some (.string Y)) := ⟨hcell, hcell2⟩
  clear HM hb hsep hcell hcell2
  go_enter Tryz.func51, Tryz.ntmps51
  go_wp2_with (first
    | (go_at_call 52; with_reducible refine (require_ok _ _).mono ?_; rintro e w' ⟨rfl, rfl⟩))
  refine wp_region_held_drew (S := fun w' => w'.cell? ⟨b, o, none⟩ = some (.string X) ∧ w'.cell? ⟨b, o + 1, none⟩ = some (.string Y)) (by kernel_rfl) ?_ (fun hHeld => ?_)
  · exact HC.out
  refine wpAnyH_take (i := 0) (v := ?av0) rfl (by kernel_rfl) (by kernel_rfl) (by kernel_rfl) (fun _ _ _ h => h) (Or.inl ⟨by rfl, ?ay0⟩) (by assumption) ?ar0
  case ay0 =>
    intro wx hSw
    clear hSw
    go_simp
    first | done | (with_reducible rfl)
  (try simp only [Act.put, List.getElem_toArray, List.getElem_cons_zero, List.setIfInBounds_toArray, List.set_cons_zero, List.set_cons_succ])
  refine wpAnyH_take (i := 1) (v := ?av1) rfl (by kernel_rfl) (by kernel_rfl) (by kernel_rfl) (fun _ _ _ h => h) (Or.inl ⟨by rfl, ?ay1⟩) (by assumption) ?ar1
  case ay1 =>
    intro wx hSw
    clear hSw
    go_simp
    first | done | (with_reducible rfl)
  (try simp only [Act.put, List.getElem_toArray, List.getElem_cons_succ, List.getElem_cons_zero, List.setIfInBounds_toArray, List.set_cons_zero, List.set_cons_succ])
  refine wpAnyH_take (i := 2) (v := ?av2) rfl (by kernel_rfl) (by kernel_rfl) (by kernel_rfl) (fun _ _ _ h => h) (Or.inl ⟨by rfl, ?ay2⟩) (by assumption) ?ar2
  case ay2 =>
    intro wx hSw
    clear hSw
    go_simp
    first | done | (with_reducible rfl)
  (try simp only [Act.put, List.getElem_toArray, List.getElem_cons_succ, List.getElem_cons_zero, List.setIfInBounds_toArray, List.set_cons_zero, List.set_cons_succ])
  refine wpAnyH_take (i := 3) (v := ?av3) rfl (by kernel_rfl) (by kernel_rfl) (by kernel_rfl) (fun _ _ _ h => h) (Or.inl ⟨by rfl, ?ay3⟩) (by assumption) ?ar3
  case ay3 =>
    intro wx hSw
    clear hSw
    go_simp
    first | done | (with_reducible rfl)
  (try simp only [Act.put, List.getElem_toArray, List.getElem_cons_succ, List.getElem_cons_zero, List.setIfInBounds_toArray, List.set_cons_zero, List.set_cons_succ])
  refine wpAnyH_take (i := 4) (v := ?av4) rfl (by kernel_rfl) (by kernel_rfl) (by kernel_rfl) (fun _ _ _ h => h) (Or.inl ⟨by rfl, ?ay4⟩) (by assumption) ?ar4
  case ay4 =>
    intro wx hSw
    clear hSw
    go_simp
    first | done | (with_reducible rfl)
  (try simp only [Act.put, List.getElem_toArray, List.getElem_cons_succ, List.getElem_cons_zero, List.setIfInBounds_toArray, List.set_cons_zero, List.set_cons_succ])
  refine wpAnyH_take (i := 6) (v := ?av6) rfl (by kernel_rfl) (by kernel_rfl) (by kernel_rfl) (fun _ _ _ h => h) (Or.inl ⟨by rfl, ?ay6⟩) (by assumption) ?ar6
  case ay6 =>
    intro wx hSw
    clear hSw
    go_simp
    first | done | (with_reducible rfl)
  (try simp only [Act.put, List.getElem_toArray, List.getElem_cons_succ, List.getElem_cons_zero, List.setIfInBounds_toArray, List.set_cons_zero, List.set_cons_succ])
  refine wpAnyH_take (i := 7) (v := ?av7) rfl (by kernel_rfl) (by kernel_rfl) (by kernel_rfl) (fun _ _ _ h => h) (Or.inl ⟨by rfl, ?ay7⟩) (by assumption) ?ar7
  case ay7 =>
    intro wx hSw
    clear hSw
    go_simp
    first | done | (with_reducible rfl)
  (try simp only [Act.put, List.getElem_toArray, List.getElem_cons_succ, List.getElem_cons_zero, List.setIfInBounds_toArray, List.set_cons_zero, List.set_cons_succ])
  refine wpAnyH_take (i := 8) (v := ?av8) rfl (by kernel_rfl) (by kernel_rfl) (by kernel_rfl) (fun _ _ _ h => h) (Or.inl ⟨by rfl, ?ay8⟩) (by assumption) ?ar8
  case ay8 =>
    intro wx hSw
    have hcl := hSw.1
    clear hSw
    go_simp
    first | done | (with_reducible rfl)
  (try simp only [Act.put, List.getElem_toArray, List.getElem_cons_succ, List.getElem_cons_zero, List.setIfInBounds_toArray, List.set_cons_zero, List.set_cons_succ])
  refine wpAnyH_take (i := 9) (v := ?av9) rfl (by kernel_rfl) (by kernel_rfl) (by kernel_rfl) (fun _ _ _ h => h) (Or.inl ⟨by rfl, ?ay9⟩) (by assumption) ?ar9
  case ay9 =>
    intro wx hSw
    clear hSw
    go_simp
    first | done | (with_reducible rfl)
  (try simp only [Act.put, List.getElem_toArray, List.getElem_cons_succ, List.getElem_cons_zero, List.setIfInBounds_toArray, List.set_cons_zero, List.set_cons_succ])
  refine wpAnyH_take (i := 10) (v := ?av10) rfl (by kernel_rfl) (by kernel_rfl) (by kernel_rfl) (fun _ _ _ h => h) (Or.inl ⟨by rfl, ?ay10⟩) (by assumption) ?ar10
  case ay10 =>
    intro wx hSw
    clear hSw
    go_simp
    first | done | (with_reducible rfl)
  (try simp only [Act.put, List.getElem_toArray, List.getElem_cons_succ, List.getElem_cons_zero, List.setIfInBounds_toArray, List.set_cons_zero, List.set_cons_succ])
  refine wpAnyH_take (i := 11) (v := ?av11) rfl (by kernel_rfl) (by kernel_rfl) (by kernel_rfl) (fun _ _ _ h => h) (Or.inl ⟨by rfl, ?ay11⟩) (by assumption) ?ar11
  case ay11 =>
    intro wx hSw
    have hcl := hSw.2
    clear hSw
    go_simp
    first | done | (with_reducible rfl)
  (try simp only [Act.put, List.getElem_toArray, List.getElem_cons_succ, List.getElem_cons_zero, List.setIfInBounds_toArray, List.set_cons_zero, List.set_cons_succ])
  refine wpAnyH_ready (rs := [5]) (by kernel_rfl) (by simp) ?_
  refine AllReadyH.cons rfl (fun K hK => ?_) AllReadyH.nil
  go_simp
  refine hK.out _ _ hHeld (fun _ => ?_)
  clear hK K
  (try simp only [Act.put, List.getElem_toArray, List.getElem_cons_succ, List.getElem_cons_zero, List.setIfInBounds_toArray, List.set_cons_zero, List.set_cons_succ])
  refine wpAnyH_ready (rs := [12]) (by kernel_rfl) (by simp) ?_
  refine AllReadyH.cons rfl (fun K hK => ?_) AllReadyH.nil
  go_simp
  go_at_call 91
  refine HMh.out.mono ?_
  rintro e w1 ⟨rfl, hb⟩
  exact post_panic (P := Tryz.prog) (fn := Tryz.f51) rfl ⟨rfl, (Below.refl _ _).drew.trans hb⟩
set_option maxRecDepth 100000 in
set_option maxHeartbeats 8000000 in
theorem ent_upper_ok (S : Nat → Prop) (w : World) (R : Nat) (L : PL) (W C E : Value) (st : Bool) (ln : Int) (h : RD S w R L W C E st ln) (s : ByteArray) (b o n capr : Nat) (hn : n ≤ 1000000) (t : List UInt8) (X Y : ByteArray) (hst : st = true) (e0 : (s.toList == [108, 111, 99, 97, 108, 101]) = false) (e1 : (s.toList == [119, 101, 105, 103, 104, 116]) = false) (e2 : (s.toList == [108, 111, 119, 101, 114]) = false) (e3 : (s.toList == [117, 112, 112, 101, 114]) = true) (e4 : (s.toList == [99, 108, 97, 115, 115]) = false) (e5 : (s.toList == [101, 108, 101, 109, 101, 110, 116]) = false) (hc : n = 2) (hcell : w.cell? ⟨b, o, none⟩ = some (.string X)) (hcell2 : w.cell? ⟨b, o + 1, none⟩ = some (.string Y)) (hb : b < w.heap.size) (hsep : ¬ own S R b) (HM : Calls Tryz.prog 91 #[.string (mk L.upper), .string X, .string Y] w.drew fun e w' => e = .returned (.string (mk t)) ∧ Below w.drew.heap.size w.drew w') :
    Calls Tryz.prog 51 #[.pointer (some ⟨R, 0, none⟩), .string s, .slice (some ⟨b, o, none⟩) n capr] w (EndM S w R ln true (.ok { L with upper := t })) := by
  subst hst
  subst hc
  have HD := Lib.hid h
  have hlt := h.lt
  obtain ⟨⟨x0, x1, x2, x3⟩, ⟨x4, x5, x6, x7⟩, xf⟩ := HD.out.cells
  clear h
  have HMh := Lib.hid HM
  have HSep : Hid (b < w.heap.size ∧ ¬ own S R b) := ⟨hb, hsep⟩
  have HC : Hid (w.cell? ⟨b, o, none⟩ = some (.string X) ∧ w.cell? ⟨b, o + 1, none⟩ = some (.string Y)) := ⟨hcell, hcell2⟩
  clear HM hb hsep hcell hcell2
  go_enter Tryz.func51, Tryz.ntmps51
  go_wp2_with (first
    | (go_at_call 52; with_reducible refine (require_ok _ _).mono ?_; rintro e w' ⟨rfl, rfl⟩))
  refine wp_region_held_drew (S := fun w' => w'.cell? ⟨b, o, none⟩ = some (.string X) ∧ w'.cell? ⟨b, o + 1, none⟩ = some (.string Y)) (by kernel_rfl) ?_ (fun hHeld => ?_)
  · exact HC.out
  refine wpAnyH_take (i := 0) (v := ?av0) rfl (by kernel_rfl) (by kernel_rfl) (by kernel_rfl) (fun _ _ _ h => h) (Or.inl ⟨by rfl, ?ay0⟩) (by assumption) ?ar0
  case ay0 =>
    intro wx hSw
    clear hSw
    go_simp
    first | done | (with_reducible rfl)
  (try simp only [Act.put, List.getElem_toArray, List.getElem_cons_zero, List.setIfInBounds_toArray, List.set_cons_zero, List.set_cons_succ])
  refine wpAnyH_take (i := 1) (v := ?av1) rfl (by kernel_rfl) (by kernel_rfl) (by kernel_rfl) (fun _ _ _ h => h) (Or.inl ⟨by rfl, ?ay1⟩) (by assumption) ?ar1
  case ay1 =>
    intro wx hSw
    clear hSw
    go_simp
    first | done | (with_reducible rfl)
  (try simp only [Act.put, List.getElem_toArray, List.getElem_cons_succ, List.getElem_cons_zero, List.setIfInBounds_toArray, List.set_cons_zero, List.set_cons_succ])
  refine wpAnyH_take (i := 2) (v := ?av2) rfl (by kernel_rfl) (by kernel_rfl) (by kernel_rfl) (fun _ _ _ h => h) (Or.inl ⟨by rfl, ?ay2⟩) (by assumption) ?ar2
  case ay2 =>
    intro wx hSw
    clear hSw
    go_simp
    first | done | (with_reducible rfl)
  (try simp only [Act.put, List.getElem_toArray, List.getElem_cons_succ, List.getElem_cons_zero, List.setIfInBounds_toArray, List.set_cons_zero, List.set_cons_succ])
  refine wpAnyH_take (i := 3) (v := ?av3) rfl (by kernel_rfl) (by kernel_rfl) (by kernel_rfl) (fun _ _ _ h => h) (Or.inl ⟨by rfl, ?ay3⟩) (by assumption) ?ar3
  case ay3 =>
    intro wx hSw
    clear hSw
    go_simp
    first | done | (with_reducible rfl)
  (try simp only [Act.put, List.getElem_toArray, List.getElem_cons_succ, List.getElem_cons_zero, List.setIfInBounds_toArray, List.set_cons_zero, List.set_cons_succ])
  refine wpAnyH_take (i := 4) (v := ?av4) rfl (by kernel_rfl) (by kernel_rfl) (by kernel_rfl) (fun _ _ _ h => h) (Or.inl ⟨by rfl, ?ay4⟩) (by assumption) ?ar4
  case ay4 =>
    intro wx hSw
    clear hSw
    go_simp
    first | done | (with_reducible rfl)
  (try simp only [Act.put, List.getElem_toArray, List.getElem_cons_succ, List.getElem_cons_zero, List.setIfInBounds_toArray, List.set_cons_zero, List.set_cons_succ])
  refine wpAnyH_take (i := 6) (v := ?av6) rfl (by kernel_rfl) (by kernel_rfl) (by kernel_rfl) (fun _ _ _ h => h) (Or.inl ⟨by rfl, ?ay6⟩) (by assumption) ?ar6
  case ay6 =>
    intro wx hSw
    clear hSw
    go_simp
    first | done | (with_reducible rfl)
  (try simp only [Act.put, List.getElem_toArray, List.getElem_cons_succ, List.getElem_cons_zero, List.setIfInBounds_toArray, List.set_cons_zero, List.set_cons_succ])
  refine wpAnyH_take (i := 7) (v := ?av7) rfl (by kernel_rfl) (by kernel_rfl) (by kernel_rfl) (fun _ _ _ h => h) (Or.inl ⟨by rfl, ?ay7⟩) (by assumption) ?ar7
  case ay7 =>
    intro wx hSw
    clear hSw
    go_simp
    first | done | (with_reducible rfl)
  (try simp only [Act.put, List.getElem_toArray, List.getElem_cons_succ, List.getElem_cons_zero, List.setIfInBounds_toArray, List.set_cons_zero, List.set_cons_succ])
  refine wpAnyH_take (i := 8) (v := ?av8) rfl (by kernel_rfl) (by kernel_rfl) (by kernel_rfl) (fun _ _ _ h => h) (Or.inl ⟨by rfl, ?ay8⟩) (by assumption) ?ar8
  case ay8 =>
    intro wx hSw
    have hcl := hSw.1
    clear hSw
    go_simp
    first | done | (with_reducible rfl)
  (try simp only [Act.put, List.getElem_toArray, List.getElem_cons_succ, List.getElem_cons_zero, List.setIfInBounds_toArray, List.set_cons_zero, List.set_cons_succ])
  refine wpAnyH_take (i := 9) (v := ?av9) rfl (by kernel_rfl) (by kernel_rfl) (by kernel_rfl) (fun _ _ _ h => h) (Or.inl ⟨by rfl, ?ay9⟩) (by assumption) ?ar9
  case ay9 =>
    intro wx hSw
    clear hSw
    go_simp
    first | done | (with_reducible rfl)
  (try simp only [Act.put, List.getElem_toArray, List.getElem_cons_succ, List.getElem_cons_zero, List.setIfInBounds_toArray, List.set_cons_zero, List.set_cons_succ])
  refine wpAnyH_take (i := 10) (v := ?av10) rfl (by kernel_rfl) (by kernel_rfl) (by kernel_rfl) (fun _ _ _ h => h) (Or.inl ⟨by rfl, ?ay10⟩) (by assumption) ?ar10
  case ay10 =>
    intro wx hSw
    clear hSw
    go_simp
    first | done | (with_reducible rfl)
  (try simp only [Act.put, List.getElem_toArray, List.getElem_cons_succ, List.getElem_cons_zero, List.setIfInBounds_toArray, List.set_cons_zero, List.set_cons_succ])
  refine wpAnyH_take (i := 11) (v := ?av11) rfl (by kernel_rfl) (by kernel_rfl) (by kernel_rfl) (fun _ _ _ h => h) (Or.inl ⟨by rfl, ?ay11⟩) (by assumption) ?ar11
  case ay11 =>
    intro wx hSw
    have hcl := hSw.2
    clear hSw
    go_simp
    first | done | (with_reducible rfl)
  (try simp only [Act.put, List.getElem_toArray, List.getElem_cons_succ, List.getElem_cons_zero, List.setIfInBounds_toArray, List.set_cons_zero, List.set_cons_succ])
  refine wpAnyH_ready (rs := [5]) (by kernel_rfl) (by simp) ?_
  refine AllReadyH.cons rfl (fun K hK => ?_) AllReadyH.nil
  go_simp
  refine hK.out _ _ hHeld (fun _ => ?_)
  clear hK K
  (try simp only [Act.put, List.getElem_toArray, List.getElem_cons_succ, List.getElem_cons_zero, List.setIfInBounds_toArray, List.set_cons_zero, List.set_cons_succ])
  refine wpAnyH_ready (rs := [12]) (by kernel_rfl) (by simp) ?_
  refine AllReadyH.cons rfl (fun K hK => ?_) AllReadyH.nil
  go_simp
  go_at_call 91
  refine HMh.out.mono ?_
  rintro e w1 ⟨rfl, hb⟩
  have HB1 : Hid (Below w.heap.size w w1) := (Below.refl _ _).drew.trans hb
  refine hK.out _ _ ⟨keep_words HB1.out HC.out.1, keep_words HB1.out HC.out.2⟩ (fun _ => ?_)
  clear hK K hb
  (try simp only [Act.put, List.getElem_toArray, List.getElem_cons_succ, List.getElem_cons_zero, List.setIfInBounds_toArray, List.set_cons_zero, List.set_cons_succ])
  clear x0 x1 x2 x3 x4 x5 x6 x7 xf
  have hD1 := HD.out.next HB1.out
  obtain ⟨⟨x0, x1, x2, x3⟩, ⟨x4, x5, x6, x7⟩, xf⟩ := hD1.cells
  clear hD1
  refine wpAnyH_take (i := 13) (v := ?bv13) rfl (by kernel_rfl) (by kernel_rfl) (by kernel_rfl) (fun _ _ _ h => h) (Or.inl ⟨by rfl, ?by13⟩) (by assumption) ?br13
  case by13 =>
    intro wx hSw
    clear hSw
    go_simp
    first | done | (with_reducible rfl)
  (try simp only [Act.put, List.getElem_toArray, List.getElem_cons_succ, List.getElem_cons_zero, List.setIfInBounds_toArray, List.set_cons_zero, List.set_cons_succ])
  refine wpAnyH_take (i := 14) (v := ?bv14) rfl (by kernel_rfl) (by kernel_rfl) (by kernel_rfl) (fun _ _ _ h => h) (Or.inl ⟨by rfl, ?by14⟩) (by assumption) ?br14
  case by14 =>
    intro wx hSw
    clear hSw
    go_simp
    first | done | (with_reducible rfl)
  (try simp only [Act.put, List.getElem_toArray, List.getElem_cons_succ, List.getElem_cons_zero, List.setIfInBounds_toArray, List.set_cons_zero, List.set_cons_succ])
  refine wpAnyH_take (i := 15) (v := ?bv15) rfl (by kernel_rfl) (by kernel_rfl) (by kernel_rfl) (fun _ _ _ h => h) (Or.inl ⟨by rfl, ?by15⟩) (by assumption) ?br15
  case by15 =>
    intro wx hSw
    clear hSw
    go_simp
    first | done | (with_reducible rfl)
  (try simp only [Act.put, List.getElem_toArray, List.getElem_cons_succ, List.getElem_cons_zero, List.setIfInBounds_toArray, List.set_cons_zero, List.set_cons_succ])
  refine wpAnyH_ready (rs := [16]) (by kernel_rfl) (by simp) ?_
  refine AllReadyH.cons rfl (fun K hK => ?_) AllReadyH.nil
  go_simp
  refine hK.out _ _ ?_ (fun _ => ?_)
  · exact ⟨keep_cell ((Keep.of_below (S := own S R) HB1.out).put R 3 (.inl (.inr rfl)) _) HSep.out.1 HSep.out.2 HC.out.1, keep_cell ((Keep.of_below (S := own S R) HB1.out).put R 3 (.inl (.inr rfl)) _) HSep.out.1 HSep.out.2 HC.out.2⟩
  clear hK K
  (try simp only [Act.put, List.getElem_toArray, List.getElem_cons_succ, List.getElem_cons_zero, List.setIfInBounds_toArray, List.set_cons_zero, List.set_cons_succ])
  refine wpAnyH_done (by kernel_rfl) ?_ _
  go_wp2
  go_end0
  exact up_ok HD.out HB1.out t
set_option maxRecDepth 100000 in
set_option maxHeartbeats 8000000 in
theorem ent_upper_no (S : Nat → Prop) (w : World) (R : Nat) (L : PL) (W C E : Value) (st : Bool) (ln : Int) (h : RD S w R L W C E st ln) (s : ByteArray) (b o n capr : Nat) (hn : n ≤ 1000000) (x : Int) (X Y : ByteArray) (hst : st = true) (e0 : (s.toList == [108, 111, 99, 97, 108, 101]) = false) (e1 : (s.toList == [119, 101, 105, 103, 104, 116]) = false) (e2 : (s.toList == [108, 111, 119, 101, 114]) = false) (e3 : (s.toList == [117, 112, 112, 101, 114]) = true) (e4 : (s.toList == [99, 108, 97, 115, 115]) = false) (e5 : (s.toList == [101, 108, 101, 109, 101, 110, 116]) = false) (hc : n = 2) (hcell : w.cell? ⟨b, o, none⟩ = some (.string X)) (hcell2 : w.cell? ⟨b, o + 1, none⟩ = some (.string Y)) (hb : b < w.heap.size) (hsep : ¬ own S R b) (HM : Calls Tryz.prog 91 #[.string (mk L.upper), .string X, .string Y] w.drew fun e w' => e = .panicked (pch x) ∧ Below w.drew.heap.size w.drew w') :
    Calls Tryz.prog 51 #[.pointer (some ⟨R, 0, none⟩), .string s, .slice (some ⟨b, o, none⟩) n capr] w (EndM S w R ln true (.error x)) := by
  subst hst
  subst hc
  have HD := Lib.hid h
  have hlt := h.lt
  obtain ⟨⟨x0, x1, x2, x3⟩, ⟨x4, x5, x6, x7⟩, xf⟩ := HD.out.cells
  clear h
  have HMh := Lib.hid HM
  have HSep : Hid (b < w.heap.size ∧ ¬ own S R b) := ⟨hb, hsep⟩
  have HC : Hid (w.cell? ⟨b, o, none⟩ = some (.string X) ∧ w.cell? ⟨b, o + 1, none⟩ = some (.string Y)) := ⟨hcell, hcell2⟩
  clear HM hb hsep hcell hcell2
  go_enter Tryz.func51, Tryz.ntmps51
  go_wp2_with (first
    | (go_at_call 52; with_reducible refine (require_ok _ _).mono ?_; rintro e w' ⟨rfl, rfl⟩))
  refine wp_region_held_drew (S := fun w' => w'.cell? ⟨b, o, none⟩ = some (.string X) ∧ w'.cell? ⟨b, o + 1, none⟩ = some (.string Y)) (by kernel_rfl) ?_ (fun hHeld => ?_)
  · exact HC.out
  refine wpAnyH_take (i := 0) (v := ?av0) rfl (by kernel_rfl) (by kernel_rfl) (by kernel_rfl) (fun _ _ _ h => h) (Or.inl ⟨by rfl, ?ay0⟩) (by assumption) ?ar0
  case ay0 =>
    intro wx hSw
    clear hSw
    go_simp
    first | done | (with_reducible rfl)
  (try simp only [Act.put, List.getElem_toArray, List.getElem_cons_zero, List.setIfInBounds_toArray, List.set_cons_zero, List.set_cons_succ])
  refine wpAnyH_take (i := 1) (v := ?av1) rfl (by kernel_rfl) (by kernel_rfl) (by kernel_rfl) (fun _ _ _ h => h) (Or.inl ⟨by rfl, ?ay1⟩) (by assumption) ?ar1
  case ay1 =>
    intro wx hSw
    clear hSw
    go_simp
    first | done | (with_reducible rfl)
  (try simp only [Act.put, List.getElem_toArray, List.getElem_cons_succ, List.getElem_cons_zero, List.setIfInBounds_toArray, List.set_cons_zero, List.set_cons_succ])
  refine wpAnyH_take (i := 2) (v := ?av2) rfl (by kernel_rfl) (by kernel_rfl) (by kernel_rfl) (fun _ _ _ h => h) (Or.inl ⟨by rfl, ?ay2⟩) (by assumption) ?ar2
  case ay2 =>
    intro wx hSw
    clear hSw
    go_simp
    first | done | (with_reducible rfl)
  (try simp only [Act.put, List.getElem_toArray, List.getElem_cons_succ, List.getElem_cons_zero, List.setIfInBounds_toArray, List.set_cons_zero, List.set_cons_succ])
  refine wpAnyH_take (i := 3) (v := ?av3) rfl (by kernel_rfl) (by kernel_rfl) (by kernel_rfl) (fun _ _ _ h => h) (Or.inl ⟨by rfl, ?ay3⟩) (by assumption) ?ar3
  case ay3 =>
    intro wx hSw
    clear hSw
    go_simp
    first | done | (with_reducible rfl)
  (try simp only [Act.put, List.getElem_toArray, List.getElem_cons_succ, List.getElem_cons_zero, List.setIfInBounds_toArray, List.set_cons_zero, List.set_cons_succ])
  refine wpAnyH_take (i := 4) (v := ?av4) rfl (by kernel_rfl) (by kernel_rfl) (by kernel_rfl) (fun _ _ _ h => h) (Or.inl ⟨by rfl, ?ay4⟩) (by assumption) ?ar4
  case ay4 =>
    intro wx hSw
    clear hSw
    go_simp
    first | done | (with_reducible rfl)
  (try simp only [Act.put, List.getElem_toArray, List.getElem_cons_succ, List.getElem_cons_zero, List.setIfInBounds_toArray, List.set_cons_zero, List.set_cons_succ])
  refine wpAnyH_take (i := 6) (v := ?av6) rfl (by kernel_rfl) (by kernel_rfl) (by kernel_rfl) (fun _ _ _ h => h) (Or.inl ⟨by rfl, ?ay6⟩) (by assumption) ?ar6
  case ay6 =>
    intro wx hSw
    clear hSw
    go_simp
    first | done | (with_reducible rfl)
  (try simp only [Act.put, List.getElem_toArray, List.getElem_cons_succ, List.getElem_cons_zero, List.setIfInBounds_toArray, List.set_cons_zero, List.set_cons_succ])
  refine wpAnyH_take (i := 7) (v := ?av7) rfl (by kernel_rfl) (by kernel_rfl) (by kernel_rfl) (fun _ _ _ h => h) (Or.inl ⟨by rfl, ?ay7⟩) (by assumption) ?ar7
  case ay7 =>
    intro wx hSw
    clear hSw
    go_simp
    first | done | (with_reducible rfl)
  (try simp only [Act.put, List.getElem_toArray, List.getElem_cons_succ, List.getElem_cons_zero, List.setIfInBounds_toArray, List.set_cons_zero, List.set_cons_succ])
  refine wpAnyH_take (i := 8) (v := ?av8) rfl (by kernel_rfl) (by kernel_rfl) (by kernel_rfl) (fun _ _ _ h => h) (Or.inl ⟨by rfl, ?ay8⟩) (by assumption) ?ar8
  case ay8 =>
    intro wx hSw
    have hcl := hSw.1
    clear hSw
    go_simp
    first | done | (with_reducible rfl)
  (try simp only [Act.put, List.getElem_toArray, List.getElem_cons_succ, List.getElem_cons_zero, List.setIfInBounds_toArray, List.set_cons_zero, List.set_cons_succ])
  refine wpAnyH_take (i := 9) (v := ?av9) rfl (by kernel_rfl) (by kernel_rfl) (by kernel_rfl) (fun _ _ _ h => h) (Or.inl ⟨by rfl, ?ay9⟩) (by assumption) ?ar9
  case ay9 =>
    intro wx hSw
    clear hSw
    go_simp
    first | done | (with_reducible rfl)
  (try simp only [Act.put, List.getElem_toArray, List.getElem_cons_succ, List.getElem_cons_zero, List.setIfInBounds_toArray, List.set_cons_zero, List.set_cons_succ])
  refine wpAnyH_take (i := 10) (v := ?av10) rfl (by kernel_rfl) (by kernel_rfl) (by kernel_rfl) (fun _ _ _ h => h) (Or.inl ⟨by rfl, ?ay10⟩) (by assumption) ?ar10
  case ay10 =>
    intro wx hSw
    clear hSw
    go_simp
    first | done | (with_reducible rfl)
  (try simp only [Act.put, List.getElem_toArray, List.getElem_cons_succ, List.getElem_cons_zero, List.setIfInBounds_toArray, List.set_cons_zero, List.set_cons_succ])
  refine wpAnyH_take (i := 11) (v := ?av11) rfl (by kernel_rfl) (by kernel_rfl) (by kernel_rfl) (fun _ _ _ h => h) (Or.inl ⟨by rfl, ?ay11⟩) (by assumption) ?ar11
  case ay11 =>
    intro wx hSw
    have hcl := hSw.2
    clear hSw
    go_simp
    first | done | (with_reducible rfl)
  (try simp only [Act.put, List.getElem_toArray, List.getElem_cons_succ, List.getElem_cons_zero, List.setIfInBounds_toArray, List.set_cons_zero, List.set_cons_succ])
  refine wpAnyH_ready (rs := [5]) (by kernel_rfl) (by simp) ?_
  refine AllReadyH.cons rfl (fun K hK => ?_) AllReadyH.nil
  go_simp
  refine hK.out _ _ hHeld (fun _ => ?_)
  clear hK K
  (try simp only [Act.put, List.getElem_toArray, List.getElem_cons_succ, List.getElem_cons_zero, List.setIfInBounds_toArray, List.set_cons_zero, List.set_cons_succ])
  refine wpAnyH_ready (rs := [12]) (by kernel_rfl) (by simp) ?_
  refine AllReadyH.cons rfl (fun K hK => ?_) AllReadyH.nil
  go_simp
  go_at_call 91
  refine HMh.out.mono ?_
  rintro e w1 ⟨rfl, hb⟩
  exact post_panic (P := Tryz.prog) (fn := Tryz.f51) rfl ⟨rfl, (Below.refl _ _).drew.trans hb⟩
set_option maxRecDepth 100000 in
set_option maxHeartbeats 8000000 in
theorem ent_class1_ok (S : Nat → Prop) (w : World) (R : Nat) (L : PL) (W C E : Value) (st : Bool) (ln : Int) (h : RD S w R L W C E st ln) (s : ByteArray) (b o n capr : Nat) (hn : n ≤ 1000000) (L' : PL) (X : ByteArray) (m : Nat) (hst : st = true) (e0 : (s.toList == [108, 111, 99, 97, 108, 101]) = false) (e1 : (s.toList == [119, 101, 105, 103, 104, 116]) = false) (e2 : (s.toList == [108, 111, 119, 101, 114]) = false) (e3 : (s.toList == [117, 112, 112, 101, 114]) = false) (e4 : (s.toList == [99, 108, 97, 115, 115]) = true) (e5 : (s.toList == [101, 108, 101, 109, 101, 110, 116]) = false) (hm : n = m + 1) (hcap : n ≤ capr) (hcap1 : capr = 1) (hb : b < w.heap.size) (hsep : ¬ own S R b) (hcell : w.cell? ⟨b, o, none⟩ = some (.string X)) (HM : Calls Tryz.prog 92 #[.pointer (some ⟨R, 0, none⟩), .string X, .slice (some ⟨b, o, none⟩) 0 0] w.drew (EndM S w.drew R ln true (.ok L'))) :
    Calls Tryz.prog 51 #[.pointer (some ⟨R, 0, none⟩), .string s, .slice (some ⟨b, o, none⟩) n capr] w (EndM S w R ln true (.ok L')) := by
  subst hst
  obtain rfl : m = 0 := by omega
  subst hm
  subst hcap1
  have HD := Lib.hid h
  have hlt := h.lt
  obtain ⟨⟨x0, x1, x2, x3⟩, ⟨x4, x5, x6, x7⟩, xf⟩ := HD.out.cells
  clear h
  have HMh := Lib.hid HM
  have HSep : Hid (b < w.heap.size ∧ ¬ own S R b) := ⟨hb, hsep⟩
  have HC := Lib.hid hcell
  clear HM hb hsep hcell
  go_enter Tryz.func51, Tryz.ntmps51
  go_wp2_with (first
    | (go_at_call 52; with_reducible refine (require_ok _ _).mono ?_; rintro e w' ⟨rfl, rfl⟩))
  refine wp_region_held_drew (S := fun w' => w'.cell? ⟨b, o, none⟩ = some (.string X)) (by kernel_rfl) ?_ (fun hHeld => ?_)
  · exact HC.out
  refine wpAnyH_take (i := 0) (v := ?av0) rfl (by kernel_rfl) (by kernel_rfl) (by kernel_rfl) (fun _ _ _ h => h) (Or.inl ⟨by rfl, ?ay0⟩) (by assumption) ?ar0
  case ay0 =>
    intro wx hSw
    clear hSw
    go_simp
    first | done | (with_reducible rfl)
  (try simp only [Act.put, List.getElem_toArray, List.getElem_cons_zero, List.setIfInBounds_toArray, List.set_cons_zero, List.set_cons_succ])
  refine wpAnyH_take (i := 1) (v := ?av1) rfl (by kernel_rfl) (by kernel_rfl) (by kernel_rfl) (fun _ _ _ h => h) (Or.inl ⟨by rfl, ?ay1⟩) (by assumption) ?ar1
  case ay1 =>
    intro wx hSw
    clear hSw
    go_simp
    first | done | (with_reducible rfl)
  (try simp only [Act.put, List.getElem_toArray, List.getElem_cons_succ, List.getElem_cons_zero, List.setIfInBounds_toArray, List.set_cons_zero, List.set_cons_succ])
  refine wpAnyH_take (i := 2) (v := ?av2) rfl (by kernel_rfl) (by kernel_rfl) (by kernel_rfl) (fun _ _ _ h => h) (Or.inl ⟨by rfl, ?ay2⟩) (by assumption) ?ar2
  case ay2 =>
    intro wx hSw
    clear hSw
    go_simp
    first | done | (with_reducible rfl)
  (try simp only [Act.put, List.getElem_toArray, List.getElem_cons_succ, List.getElem_cons_zero, List.setIfInBounds_toArray, List.set_cons_zero, List.set_cons_succ])
  refine wpAnyH_take (i := 3) (v := ?av3) rfl (by kernel_rfl) (by kernel_rfl) (by kernel_rfl) (fun _ _ _ h => h) (Or.inl ⟨by rfl, ?ay3⟩) (by assumption) ?ar3
  case ay3 =>
    intro wx hSw
    have hcl := hSw
    clear hSw
    go_simp
    first | done | (with_reducible rfl)
  (try simp only [Act.put, List.getElem_toArray, List.getElem_cons_succ, List.getElem_cons_zero, List.setIfInBounds_toArray, List.set_cons_zero, List.set_cons_succ])
  refine wpAnyH_take (i := 4) (v := ?av4) rfl (by kernel_rfl) (by kernel_rfl) (by kernel_rfl) (fun _ _ _ h => h) (Or.inl ⟨by rfl, ?ay4⟩) (by assumption) ?ar4
  case ay4 =>
    intro wx hSw
    clear hSw
    go_simp
    first | done | (with_reducible rfl)
  (try simp only [Act.put, List.getElem_toArray, List.getElem_cons_succ, List.getElem_cons_zero, List.setIfInBounds_toArray, List.set_cons_zero, List.set_cons_succ])
  refine wpAnyH_take (i := 5) (v := ?av5) rfl (by kernel_rfl) (by kernel_rfl) (by kernel_rfl) (fun _ _ _ h => h) (Or.inl ⟨by rfl, ?ay5⟩) (by assumption) ?ar5
  case ay5 =>
    intro wx hSw
    clear hSw
    go_simp
    first | done | (with_reducible rfl)
  (try simp only [Act.put, List.getElem_toArray, List.getElem_cons_succ, List.getElem_cons_zero, List.setIfInBounds_toArray, List.set_cons_zero, List.set_cons_succ])
  refine wpAnyH_ready (rs := [6]) (by kernel_rfl) (by simp) ?_
  refine AllReadyH.cons rfl (fun K hK => ?_) AllReadyH.nil
  go_simp
  go_at_call 92
  refine HMh.out.mono ?_
  rintro e w1 ⟨W1, C1, E1, rfl, hr, hk⟩
  refine hK.out _ _ ?_ (fun _ => ?_)
  · exact keep_cell hk HSep.out.1 HSep.out.2 HC.out
  clear hK K
  (try simp only [Act.put, List.getElem_toArray, List.getElem_cons_succ, List.getElem_cons_zero, List.setIfInBounds_toArray, List.set_cons_zero, List.set_cons_succ])
  refine wpAnyH_done (by kernel_rfl) ?_ _
  have HR1 := Lib.hid hr
  have HK1 := Lib.hid hk
  clear hr hk
  go_wp2
  go_end0
  exact EndM.drew (r := .ok L') ⟨W1, C1, E1, rfl, HR1.out, HK1.out⟩
set_option maxRecDepth 100000 in
set_option maxHeartbeats 8000000 in
theorem ent_class1_no (S : Nat → Prop) (w : World) (R : Nat) (L : PL) (W C E : Value) (st : Bool) (ln : Int) (h : RD S w R L W C E st ln) (s : ByteArray) (b o n capr : Nat) (hn : n ≤ 1000000) (x : Int) (X : ByteArray) (m : Nat) (hst : st = true) (e0 : (s.toList == [108, 111, 99, 97, 108, 101]) = false) (e1 : (s.toList == [119, 101, 105, 103, 104, 116]) = false) (e2 : (s.toList == [108, 111, 119, 101, 114]) = false) (e3 : (s.toList == [117, 112, 112, 101, 114]) = false) (e4 : (s.toList == [99, 108, 97, 115, 115]) = true) (e5 : (s.toList == [101, 108, 101, 109, 101, 110, 116]) = false) (hm : n = m + 1) (hcap : n ≤ capr) (hcap1 : capr = 1) (hb : b < w.heap.size) (hsep : ¬ own S R b) (hcell : w.cell? ⟨b, o, none⟩ = some (.string X)) (HM : Calls Tryz.prog 92 #[.pointer (some ⟨R, 0, none⟩), .string X, .slice (some ⟨b, o, none⟩) 0 0] w.drew (EndM S w.drew R ln true (.error x))) :
    Calls Tryz.prog 51 #[.pointer (some ⟨R, 0, none⟩), .string s, .slice (some ⟨b, o, none⟩) n capr] w (EndM S w R ln true (.error x)) := by
  subst hst
  obtain rfl : m = 0 := by omega
  subst hm
  subst hcap1
  have HD := Lib.hid h
  have hlt := h.lt
  obtain ⟨⟨x0, x1, x2, x3⟩, ⟨x4, x5, x6, x7⟩, xf⟩ := HD.out.cells
  clear h
  have HMh := Lib.hid HM
  have HSep : Hid (b < w.heap.size ∧ ¬ own S R b) := ⟨hb, hsep⟩
  have HC := Lib.hid hcell
  clear HM hb hsep hcell
  go_enter Tryz.func51, Tryz.ntmps51
  go_wp2_with (first
    | (go_at_call 52; with_reducible refine (require_ok _ _).mono ?_; rintro e w' ⟨rfl, rfl⟩))
  refine wp_region_held_drew (S := fun w' => w'.cell? ⟨b, o, none⟩ = some (.string X)) (by kernel_rfl) ?_ (fun hHeld => ?_)
  · exact HC.out
  refine wpAnyH_take (i := 0) (v := ?av0) rfl (by kernel_rfl) (by kernel_rfl) (by kernel_rfl) (fun _ _ _ h => h) (Or.inl ⟨by rfl, ?ay0⟩) (by assumption) ?ar0
  case ay0 =>
    intro wx hSw
    clear hSw
    go_simp
    first | done | (with_reducible rfl)
  (try simp only [Act.put, List.getElem_toArray, List.getElem_cons_zero, List.setIfInBounds_toArray, List.set_cons_zero, List.set_cons_succ])
  refine wpAnyH_take (i := 1) (v := ?av1) rfl (by kernel_rfl) (by kernel_rfl) (by kernel_rfl) (fun _ _ _ h => h) (Or.inl ⟨by rfl, ?ay1⟩) (by assumption) ?ar1
  case ay1 =>
    intro wx hSw
    clear hSw
    go_simp
    first | done | (with_reducible rfl)
  (try simp only [Act.put, List.getElem_toArray, List.getElem_cons_succ, List.getElem_cons_zero, List.setIfInBounds_toArray, List.set_cons_zero, List.set_cons_succ])
  refine wpAnyH_take (i := 2) (v := ?av2) rfl (by kernel_rfl) (by kernel_rfl) (by kernel_rfl) (fun _ _ _ h => h) (Or.inl ⟨by rfl, ?ay2⟩) (by assumption) ?ar2
  case ay2 =>
    intro wx hSw
    clear hSw
    go_simp
    first | done | (with_reducible rfl)
  (try simp only [Act.put, List.getElem_toArray, List.getElem_cons_succ, List.getElem_cons_zero, List.setIfInBounds_toArray, List.set_cons_zero, List.set_cons_succ])
  refine wpAnyH_take (i := 3) (v := ?av3) rfl (by kernel_rfl) (by kernel_rfl) (by kernel_rfl) (fun _ _ _ h => h) (Or.inl ⟨by rfl, ?ay3⟩) (by assumption) ?ar3
  case ay3 =>
    intro wx hSw
    have hcl := hSw
    clear hSw
    go_simp
    first | done | (with_reducible rfl)
  (try simp only [Act.put, List.getElem_toArray, List.getElem_cons_succ, List.getElem_cons_zero, List.setIfInBounds_toArray, List.set_cons_zero, List.set_cons_succ])
  refine wpAnyH_take (i := 4) (v := ?av4) rfl (by kernel_rfl) (by kernel_rfl) (by kernel_rfl) (fun _ _ _ h => h) (Or.inl ⟨by rfl, ?ay4⟩) (by assumption) ?ar4
  case ay4 =>
    intro wx hSw
    clear hSw
    go_simp
    first | done | (with_reducible rfl)
  (try simp only [Act.put, List.getElem_toArray, List.getElem_cons_succ, List.getElem_cons_zero, List.setIfInBounds_toArray, List.set_cons_zero, List.set_cons_succ])
  refine wpAnyH_take (i := 5) (v := ?av5) rfl (by kernel_rfl) (by kernel_rfl) (by kernel_rfl) (fun _ _ _ h => h) (Or.inl ⟨by rfl, ?ay5⟩) (by assumption) ?ar5
  case ay5 =>
    intro wx hSw
    clear hSw
    go_simp
    first | done | (with_reducible rfl)
  (try simp only [Act.put, List.getElem_toArray, List.getElem_cons_succ, List.getElem_cons_zero, List.setIfInBounds_toArray, List.set_cons_zero, List.set_cons_succ])
  refine wpAnyH_ready (rs := [6]) (by kernel_rfl) (by simp) ?_
  refine AllReadyH.cons rfl (fun K hK => ?_) AllReadyH.nil
  go_simp
  go_at_call 92
  refine HMh.out.mono ?_
  rintro e w1 ⟨rfl, hb⟩
  exact post_panic (P := Tryz.prog) (fn := Tryz.f51) rfl ⟨rfl, (Below.refl _ _).drew.trans hb⟩
set_option maxRecDepth 100000 in
set_option maxHeartbeats 8000000 in
theorem ent_class_ok (S : Nat → Prop) (w : World) (R : Nat) (L : PL) (W C E : Value) (st : Bool) (ln : Int) (h : RD S w R L W C E st ln) (s : ByteArray) (b o n capr : Nat) (hn : n ≤ 1000000) (L' : PL) (X : ByteArray) (m : Nat) (hst : st = true) (e0 : (s.toList == [108, 111, 99, 97, 108, 101]) = false) (e1 : (s.toList == [119, 101, 105, 103, 104, 116]) = false) (e2 : (s.toList == [108, 111, 119, 101, 114]) = false) (e3 : (s.toList == [117, 112, 112, 101, 114]) = false) (e4 : (s.toList == [99, 108, 97, 115, 115]) = true) (e5 : (s.toList == [101, 108, 101, 109, 101, 110, 116]) = false) (hm : n = m + 1) (hcap : n ≤ capr) (hcap1 : capr ≠ 1) (hb : b < w.heap.size) (hsep : ¬ own S R b) (hcell : w.cell? ⟨b, o, none⟩ = some (.string X)) (HM : Calls Tryz.prog 92 #[.pointer (some ⟨R, 0, none⟩), .string X, .slice (some ⟨b, o + 1, none⟩) m (capr - 1)] w.drew (EndM S w.drew R ln true (.ok L'))) :
    Calls Tryz.prog 51 #[.pointer (some ⟨R, 0, none⟩), .string s, .slice (some ⟨b, o, none⟩) n capr] w (EndM S w R ln true (.ok L')) := by
  subst hst
  have HD := Lib.hid h
  have hlt := h.lt
  have hni : (n : Int) ≤ 1000000 := by omega
  obtain ⟨⟨x0, x1, x2, x3⟩, ⟨x4, x5, x6, x7⟩, xf⟩ := HD.out.cells
  clear h
  have HMh := Lib.hid HM
  have HSep : Hid (b < w.heap.size ∧ ¬ own S R b) := ⟨hb, hsep⟩
  have hci : (1 : Int) ≤ n := by omega
  have hci0 : (0 : Int) < n := by omega
  have hcn0 : 0 < n := by omega
  have hci2 : (1 : Int) ≤ capr := by omega
  have hnm : n - 1 = m := by omega
  have hcc : (capr == 1) = false := by simpa using hcap1
  have HC := Lib.hid hcell
  clear HM hb hsep hcell hm hcap
  go_enter Tryz.func51, Tryz.ntmps51
  go_wp2_with (first
    | (go_at_call 52; with_reducible refine (require_ok _ _).mono ?_; rintro e w' ⟨rfl, rfl⟩))
  refine wp_region_held_drew (S := fun w' => w'.cell? ⟨b, o, none⟩ = some (.string X)) (by kernel_rfl) ?_ (fun hHeld => ?_)
  · exact HC.out
  refine wpAnyH_take (i := 0) (v := ?av0) rfl (by kernel_rfl) (by kernel_rfl) (by kernel_rfl) (fun _ _ _ h => h) (Or.inl ⟨by rfl, ?ay0⟩) (by assumption) ?ar0
  case ay0 =>
    intro wx hSw
    clear hSw
    go_simp
    first | done | (with_reducible rfl)
  (try simp only [Act.put, List.getElem_toArray, List.getElem_cons_zero, List.setIfInBounds_toArray, List.set_cons_zero, List.set_cons_succ])
  refine wpAnyH_take (i := 1) (v := ?av1) rfl (by kernel_rfl) (by kernel_rfl) (by kernel_rfl) (fun _ _ _ h => h) (Or.inl ⟨by rfl, ?ay1⟩) (by assumption) ?ar1
  case ay1 =>
    intro wx hSw
    clear hSw
    go_simp
    first | done | (with_reducible rfl)
  (try simp only [Act.put, List.getElem_toArray, List.getElem_cons_succ, List.getElem_cons_zero, List.setIfInBounds_toArray, List.set_cons_zero, List.set_cons_succ])
  refine wpAnyH_take (i := 2) (v := ?av2) rfl (by kernel_rfl) (by kernel_rfl) (by kernel_rfl) (fun _ _ _ h => h) (Or.inl ⟨by rfl, ?ay2⟩) (by assumption) ?ar2
  case ay2 =>
    intro wx hSw
    clear hSw
    go_simp
    first | done | (with_reducible rfl)
  (try simp only [Act.put, List.getElem_toArray, List.getElem_cons_succ, List.getElem_cons_zero, List.setIfInBounds_toArray, List.set_cons_zero, List.set_cons_succ])
  refine wpAnyH_take (i := 3) (v := ?av3) rfl (by kernel_rfl) (by kernel_rfl) (by kernel_rfl) (fun _ _ _ h => h) (Or.inl ⟨by rfl, ?ay3⟩) (by assumption) ?ar3
  case ay3 =>
    intro wx hSw
    have hcl := hSw
    clear hSw
    go_simp
    first | done | (with_reducible rfl)
  (try simp only [Act.put, List.getElem_toArray, List.getElem_cons_succ, List.getElem_cons_zero, List.setIfInBounds_toArray, List.set_cons_zero, List.set_cons_succ])
  refine wpAnyH_take (i := 4) (v := ?av4) rfl (by kernel_rfl) (by kernel_rfl) (by kernel_rfl) (fun _ _ _ h => h) (Or.inl ⟨by rfl, ?ay4⟩) (by assumption) ?ar4
  case ay4 =>
    intro wx hSw
    clear hSw
    go_simp
    first | done | (with_reducible rfl)
  (try simp only [Act.put, List.getElem_toArray, List.getElem_cons_succ, List.getElem_cons_zero, List.setIfInBounds_toArray, List.set_cons_zero, List.set_cons_succ])
  refine wpAnyH_take (i := 5) (v := ?av5) rfl (by kernel_rfl) (by kernel_rfl) (by kernel_rfl) (fun _ _ _ h => h) (Or.inl ⟨by rfl, ?ay5⟩) (by assumption) ?ar5
  case ay5 =>
    intro wx hSw
    clear hSw
    go_simp
    first | done | (with_reducible rfl)
  (try simp only [Act.put, List.getElem_toArray, List.getElem_cons_succ, List.getElem_cons_zero, List.setIfInBounds_toArray, List.set_cons_zero, List.set_cons_succ])
  refine wpAnyH_ready (rs := [6]) (by kernel_rfl) (by simp) ?_
  refine AllReadyH.cons rfl (fun K hK => ?_) AllReadyH.nil
  go_simp
  go_at_call 92
  refine HMh.out.mono ?_
  rintro e w1 ⟨W1, C1, E1, rfl, hr, hk⟩
  refine hK.out _ _ ?_ (fun _ => ?_)
  · exact keep_cell hk HSep.out.1 HSep.out.2 HC.out
  clear hK K
  (try simp only [Act.put, List.getElem_toArray, List.getElem_cons_succ, List.getElem_cons_zero, List.setIfInBounds_toArray, List.set_cons_zero, List.set_cons_succ])
  refine wpAnyH_done (by kernel_rfl) ?_ _
  have HR1 := Lib.hid hr
  have HK1 := Lib.hid hk
  clear hr hk
  go_wp2
  go_end0
  exact EndM.drew (r := .ok L') ⟨W1, C1, E1, rfl, HR1.out, HK1.out⟩
set_option maxRecDepth 100000 in
set_option maxHeartbeats 8000000 in
theorem ent_class_no (S : Nat → Prop) (w : World) (R : Nat) (L : PL) (W C E : Value) (st : Bool) (ln : Int) (h : RD S w R L W C E st ln) (s : ByteArray) (b o n capr : Nat) (hn : n ≤ 1000000) (x : Int) (X : ByteArray) (m : Nat) (hst : st = true) (e0 : (s.toList == [108, 111, 99, 97, 108, 101]) = false) (e1 : (s.toList == [119, 101, 105, 103, 104, 116]) = false) (e2 : (s.toList == [108, 111, 119, 101, 114]) = false) (e3 : (s.toList == [117, 112, 112, 101, 114]) = false) (e4 : (s.toList == [99, 108, 97, 115, 115]) = true) (e5 : (s.toList == [101, 108, 101, 109, 101, 110, 116]) = false) (hm : n = m + 1) (hcap : n ≤ capr) (hcap1 : capr ≠ 1) (hb : b < w.heap.size) (hsep : ¬ own S R b) (hcell : w.cell? ⟨b, o, none⟩ = some (.string X)) (HM : Calls Tryz.prog 92 #[.pointer (some ⟨R, 0, none⟩), .string X, .slice (some ⟨b, o + 1, none⟩) m (capr - 1)] w.drew (EndM S w.drew R ln true (.error x))) :
    Calls Tryz.prog 51 #[.pointer (some ⟨R, 0, none⟩), .string s, .slice (some ⟨b, o, none⟩) n capr] w (EndM S w R ln true (.error x)) := by
  subst hst
  have HD := Lib.hid h
  have hlt := h.lt
  have hni : (n : Int) ≤ 1000000 := by omega
  obtain ⟨⟨x0, x1, x2, x3⟩, ⟨x4, x5, x6, x7⟩, xf⟩ := HD.out.cells
  clear h
  have HMh := Lib.hid HM
  have HSep : Hid (b < w.heap.size ∧ ¬ own S R b) := ⟨hb, hsep⟩
  have hci : (1 : Int) ≤ n := by omega
  have hci0 : (0 : Int) < n := by omega
  have hcn0 : 0 < n := by omega
  have hci2 : (1 : Int) ≤ capr := by omega
  have hnm : n - 1 = m := by omega
  have hcc : (capr == 1) = false := by simpa using hcap1
  have HC := Lib.hid hcell
  clear HM hb hsep hcell hm hcap
  go_enter Tryz.func51, Tryz.ntmps51
  go_wp2_with (first
    | (go_at_call 52; with_reducible refine (require_ok _ _).mono ?_; rintro e w' ⟨rfl, rfl⟩))
  refine wp_region_held_drew (S := fun w' => w'.cell? ⟨b, o, none⟩ = some (.string X)) (by kernel_rfl) ?_ (fun hHeld => ?_)
  · exact HC.out
  refine wpAnyH_take (i := 0) (v := ?av0) rfl (by kernel_rfl) (by kernel_rfl) (by kernel_rfl) (fun _ _ _ h => h) (Or.inl ⟨by rfl, ?ay0⟩) (by assumption) ?ar0
  case ay0 =>
    intro wx hSw
    clear hSw
    go_simp
    first | done | (with_reducible rfl)
  (try simp only [Act.put, List.getElem_toArray, List.getElem_cons_zero, List.setIfInBounds_toArray, List.set_cons_zero, List.set_cons_succ])
  refine wpAnyH_take (i := 1) (v := ?av1) rfl (by kernel_rfl) (by kernel_rfl) (by kernel_rfl) (fun _ _ _ h => h) (Or.inl ⟨by rfl, ?ay1⟩) (by assumption) ?ar1
  case ay1 =>
    intro wx hSw
    clear hSw
    go_simp
    first | done | (with_reducible rfl)
  (try simp only [Act.put, List.getElem_toArray, List.getElem_cons_succ, List.getElem_cons_zero, List.setIfInBounds_toArray, List.set_cons_zero, List.set_cons_succ])
  refine wpAnyH_take (i := 2) (v := ?av2) rfl (by kernel_rfl) (by kernel_rfl) (by kernel_rfl) (fun _ _ _ h => h) (Or.inl ⟨by rfl, ?ay2⟩) (by assumption) ?ar2
  case ay2 =>
    intro wx hSw
    clear hSw
    go_simp
    first | done | (with_reducible rfl)
  (try simp only [Act.put, List.getElem_toArray, List.getElem_cons_succ, List.getElem_cons_zero, List.setIfInBounds_toArray, List.set_cons_zero, List.set_cons_succ])
  refine wpAnyH_take (i := 3) (v := ?av3) rfl (by kernel_rfl) (by kernel_rfl) (by kernel_rfl) (fun _ _ _ h => h) (Or.inl ⟨by rfl, ?ay3⟩) (by assumption) ?ar3
  case ay3 =>
    intro wx hSw
    have hcl := hSw
    clear hSw
    go_simp
    first | done | (with_reducible rfl)
  (try simp only [Act.put, List.getElem_toArray, List.getElem_cons_succ, List.getElem_cons_zero, List.setIfInBounds_toArray, List.set_cons_zero, List.set_cons_succ])
  refine wpAnyH_take (i := 4) (v := ?av4) rfl (by kernel_rfl) (by kernel_rfl) (by kernel_rfl) (fun _ _ _ h => h) (Or.inl ⟨by rfl, ?ay4⟩) (by assumption) ?ar4
  case ay4 =>
    intro wx hSw
    clear hSw
    go_simp
    first | done | (with_reducible rfl)
  (try simp only [Act.put, List.getElem_toArray, List.getElem_cons_succ, List.getElem_cons_zero, List.setIfInBounds_toArray, List.set_cons_zero, List.set_cons_succ])
  refine wpAnyH_take (i := 5) (v := ?av5) rfl (by kernel_rfl) (by kernel_rfl) (by kernel_rfl) (fun _ _ _ h => h) (Or.inl ⟨by rfl, ?ay5⟩) (by assumption) ?ar5
  case ay5 =>
    intro wx hSw
    clear hSw
    go_simp
    first | done | (with_reducible rfl)
  (try simp only [Act.put, List.getElem_toArray, List.getElem_cons_succ, List.getElem_cons_zero, List.setIfInBounds_toArray, List.set_cons_zero, List.set_cons_succ])
  refine wpAnyH_ready (rs := [6]) (by kernel_rfl) (by simp) ?_
  refine AllReadyH.cons rfl (fun K hK => ?_) AllReadyH.nil
  go_simp
  go_at_call 92
  refine HMh.out.mono ?_
  rintro e w1 ⟨rfl, hb⟩
  exact post_panic (P := Tryz.prog) (fn := Tryz.f51) rfl ⟨rfl, (Below.refl _ _).drew.trans hb⟩
set_option maxRecDepth 100000 in
set_option maxHeartbeats 8000000 in
theorem ent_element_ok (S : Nat → Prop) (w : World) (R : Nat) (L : PL) (W C E : Value) (st : Bool) (ln : Int) (h : RD S w R L W C E st ln) (s : ByteArray) (b o n capr : Nat) (hn : n ≤ 1000000) (L' : PL) (X Y Z : ByteArray) (hst : st = true) (e0 : (s.toList == [108, 111, 99, 97, 108, 101]) = false) (e1 : (s.toList == [119, 101, 105, 103, 104, 116]) = false) (e2 : (s.toList == [108, 111, 119, 101, 114]) = false) (e3 : (s.toList == [117, 112, 112, 101, 114]) = false) (e4 : (s.toList == [99, 108, 97, 115, 115]) = false) (e5 : (s.toList == [101, 108, 101, 109, 101, 110, 116]) = true) (hc : n = 3) (hb : b < w.heap.size) (hsep : ¬ own S R b) (hcell : w.cell? ⟨b, o, none⟩ = some (.string X)) (hcell2 : w.cell? ⟨b, o + 1, none⟩ = some (.string Y)) (hcell3 : w.cell? ⟨b, o + 2, none⟩ = some (.string Z)) (HM : Calls Tryz.prog 93 #[.pointer (some ⟨R, 0, none⟩), .string X, .string Y, .string Z] w.drew (EndM S w.drew R ln true (.ok L'))) :
    Calls Tryz.prog 51 #[.pointer (some ⟨R, 0, none⟩), .string s, .slice (some ⟨b, o, none⟩) n capr] w (EndM S w R ln true (.ok L')) := by
  subst hst
  subst hc
  have HD := Lib.hid h
  have hlt := h.lt
  obtain ⟨⟨x0, x1, x2, x3⟩, ⟨x4, x5, x6, x7⟩, xf⟩ := HD.out.cells
  clear h
  have HMh := Lib.hid HM
  have HSep : Hid (b < w.heap.size ∧ ¬ own S R b) := ⟨hb, hsep⟩
  have HC : Hid (w.cell? ⟨b, o, none⟩ = some (.string X) ∧ w.cell? ⟨b, o + 1, none⟩ = some (.string Y) ∧ w.cell? ⟨b, o + 2, none⟩ = some (.string Z)) := ⟨hcell, hcell2, hcell3⟩
  clear HM hb hsep hcell hcell2 hcell3
  go_enter Tryz.func51, Tryz.ntmps51
  go_wp2_with (first
    | (go_at_call 52; with_reducible refine (require_ok _ _).mono ?_; rintro e w' ⟨rfl, rfl⟩))
  refine wp_region_held_drew (S := fun w' => w'.cell? ⟨b, o, none⟩ = some (.string X) ∧ w'.cell? ⟨b, o + 1, none⟩ = some (.string Y) ∧ w'.cell? ⟨b, o + 2, none⟩ = some (.string Z)) (by kernel_rfl) ?_ (fun hHeld => ?_)
  · exact HC.out
  refine wpAnyH_take (i := 0) (v := ?av0) rfl (by kernel_rfl) (by kernel_rfl) (by kernel_rfl) (fun _ _ _ h => h) (Or.inl ⟨by rfl, ?ay0⟩) (by assumption) ?ar0
  case ay0 =>
    intro wx hSw
    clear hSw
    go_simp
    first | done | (with_reducible rfl)
  (try simp only [Act.put, List.getElem_toArray, List.getElem_cons_zero, List.setIfInBounds_toArray, List.set_cons_zero, List.set_cons_succ])
  refine wpAnyH_take (i := 1) (v := ?av1) rfl (by kernel_rfl) (by kernel_rfl) (by kernel_rfl) (fun _ _ _ h => h) (Or.inl ⟨by rfl, ?ay1⟩) (by assumption) ?ar1
  case ay1 =>
    intro wx hSw
    clear hSw
    go_simp
    first | done | (with_reducible rfl)
  (try simp only [Act.put, List.getElem_toArray, List.getElem_cons_succ, List.getElem_cons_zero, List.setIfInBounds_toArray, List.set_cons_zero, List.set_cons_succ])
  refine wpAnyH_take (i := 2) (v := ?av2) rfl (by kernel_rfl) (by kernel_rfl) (by kernel_rfl) (fun _ _ _ h => h) (Or.inl ⟨by rfl, ?ay2⟩) (by assumption) ?ar2
  case ay2 =>
    intro wx hSw
    clear hSw
    go_simp
    first | done | (with_reducible rfl)
  (try simp only [Act.put, List.getElem_toArray, List.getElem_cons_succ, List.getElem_cons_zero, List.setIfInBounds_toArray, List.set_cons_zero, List.set_cons_succ])
  refine wpAnyH_take (i := 3) (v := ?av3) rfl (by kernel_rfl) (by kernel_rfl) (by kernel_rfl) (fun _ _ _ h => h) (Or.inl ⟨by rfl, ?ay3⟩) (by assumption) ?ar3
  case ay3 =>
    intro wx hSw
    have hcl := hSw.1
    clear hSw
    go_simp
    first | done | (with_reducible rfl)
  (try simp only [Act.put, List.getElem_toArray, List.getElem_cons_succ, List.getElem_cons_zero, List.setIfInBounds_toArray, List.set_cons_zero, List.set_cons_succ])
  refine wpAnyH_take (i := 4) (v := ?av4) rfl (by kernel_rfl) (by kernel_rfl) (by kernel_rfl) (fun _ _ _ h => h) (Or.inl ⟨by rfl, ?ay4⟩) (by assumption) ?ar4
  case ay4 =>
    intro wx hSw
    clear hSw
    go_simp
    first | done | (with_reducible rfl)
  (try simp only [Act.put, List.getElem_toArray, List.getElem_cons_succ, List.getElem_cons_zero, List.setIfInBounds_toArray, List.set_cons_zero, List.set_cons_succ])
  refine wpAnyH_take (i := 5) (v := ?av5) rfl (by kernel_rfl) (by kernel_rfl) (by kernel_rfl) (fun _ _ _ h => h) (Or.inl ⟨by rfl, ?ay5⟩) (by assumption) ?ar5
  case ay5 =>
    intro wx hSw
    clear hSw
    go_simp
    first | done | (with_reducible rfl)
  (try simp only [Act.put, List.getElem_toArray, List.getElem_cons_succ, List.getElem_cons_zero, List.setIfInBounds_toArray, List.set_cons_zero, List.set_cons_succ])
  refine wpAnyH_take (i := 6) (v := ?av6) rfl (by kernel_rfl) (by kernel_rfl) (by kernel_rfl) (fun _ _ _ h => h) (Or.inl ⟨by rfl, ?ay6⟩) (by assumption) ?ar6
  case ay6 =>
    intro wx hSw
    have hcl := hSw.2.1
    clear hSw
    go_simp
    first | done | (with_reducible rfl)
  (try simp only [Act.put, List.getElem_toArray, List.getElem_cons_succ, List.getElem_cons_zero, List.setIfInBounds_toArray, List.set_cons_zero, List.set_cons_succ])
  refine wpAnyH_take (i := 7) (v := ?av7) rfl (by kernel_rfl) (by kernel_rfl) (by kernel_rfl) (fun _ _ _ h => h) (Or.inl ⟨by rfl, ?ay7⟩) (by assumption) ?ar7
  case ay7 =>
    intro wx hSw
    clear hSw
    go_simp
    first | done | (with_reducible rfl)
  (try simp only [Act.put, List.getElem_toArray, List.getElem_cons_succ, List.getElem_cons_zero, List.setIfInBounds_toArray, List.set_cons_zero, List.set_cons_succ])
  refine wpAnyH_take (i := 8) (v := ?av8) rfl (by kernel_rfl) (by kernel_rfl) (by kernel_rfl) (fun _ _ _ h => h) (Or.inl ⟨by rfl, ?ay8⟩) (by assumption) ?ar8
  case ay8 =>
    intro wx hSw
    clear hSw
    go_simp
    first | done | (with_reducible rfl)
  (try simp only [Act.put, List.getElem_toArray, List.getElem_cons_succ, List.getElem_cons_zero, List.setIfInBounds_toArray, List.set_cons_zero, List.set_cons_succ])
  refine wpAnyH_take (i := 9) (v := ?av9) rfl (by kernel_rfl) (by kernel_rfl) (by kernel_rfl) (fun _ _ _ h => h) (Or.inl ⟨by rfl, ?ay9⟩) (by assumption) ?ar9
  case ay9 =>
    intro wx hSw
    have hcl := hSw.2.2
    clear hSw
    go_simp
    first | done | (with_reducible rfl)
  (try simp only [Act.put, List.getElem_toArray, List.getElem_cons_succ, List.getElem_cons_zero, List.setIfInBounds_toArray, List.set_cons_zero, List.set_cons_succ])
  refine wpAnyH_ready (rs := [10]) (by kernel_rfl) (by simp) ?_
  refine AllReadyH.cons rfl (fun K hK => ?_) AllReadyH.nil
  go_simp
  go_at_call 93
  refine HMh.out.mono ?_
  rintro e w1 ⟨W1, C1, E1, rfl, hr, hk⟩
  refine hK.out _ _ ?_ (fun _ => ?_)
  · exact ⟨keep_cell hk HSep.out.1 HSep.out.2 HC.out.1, keep_cell hk HSep.out.1 HSep.out.2 HC.out.2.1, keep_cell hk HSep.out.1 HSep.out.2 HC.out.2.2⟩
  clear hK K
  (try simp only [Act.put, List.getElem_toArray, List.getElem_cons_succ, List.getElem_cons_zero, List.setIfInBounds_toArray, List.set_cons_zero, List.set_cons_succ])
  refine wpAnyH_done (by kernel_rfl) ?_ _
  have HR1 := Lib.hid hr
  have HK1 := Lib.hid hk
  clear hr hk
  go_wp2
  go_end0
  exact EndM.drew (r := .ok L') ⟨W1, C1, E1, rfl, HR1.out, HK1.out⟩
set_option maxRecDepth 100000 in
set_option maxHeartbeats 8000000 in
theorem ent_element_no (S : Nat → Prop) (w : World) (R : Nat) (L : PL) (W C E : Value) (st : Bool) (ln : Int) (h : RD S w R L W C E st ln) (s : ByteArray) (b o n capr : Nat) (hn : n ≤ 1000000) (x : Int) (X Y Z : ByteArray) (hst : st = true) (e0 : (s.toList == [108, 111, 99, 97, 108, 101]) = false) (e1 : (s.toList == [119, 101, 105, 103, 104, 116]) = false) (e2 : (s.toList == [108, 111, 119, 101, 114]) = false) (e3 : (s.toList == [117, 112, 112, 101, 114]) = false) (e4 : (s.toList == [99, 108, 97, 115, 115]) = false) (e5 : (s.toList == [101, 108, 101, 109, 101, 110, 116]) = true) (hc : n = 3) (hb : b < w.heap.size) (hsep : ¬ own S R b) (hcell : w.cell? ⟨b, o, none⟩ = some (.string X)) (hcell2 : w.cell? ⟨b, o + 1, none⟩ = some (.string Y)) (hcell3 : w.cell? ⟨b, o + 2, none⟩ = some (.string Z)) (HM : Calls Tryz.prog 93 #[.pointer (some ⟨R, 0, none⟩), .string X, .string Y, .string Z] w.drew (EndM S w.drew R ln true (.error x))) :
    Calls Tryz.prog 51 #[.pointer (some ⟨R, 0, none⟩), .string s, .slice (some ⟨b, o, none⟩) n capr] w (EndM S w R ln true (.error x)) := by
  subst hst
  subst hc
  have HD := Lib.hid h
  have hlt := h.lt
  obtain ⟨⟨x0, x1, x2, x3⟩, ⟨x4, x5, x6, x7⟩, xf⟩ := HD.out.cells
  clear h
  have HMh := Lib.hid HM
  have HSep : Hid (b < w.heap.size ∧ ¬ own S R b) := ⟨hb, hsep⟩
  have HC : Hid (w.cell? ⟨b, o, none⟩ = some (.string X) ∧ w.cell? ⟨b, o + 1, none⟩ = some (.string Y) ∧ w.cell? ⟨b, o + 2, none⟩ = some (.string Z)) := ⟨hcell, hcell2, hcell3⟩
  clear HM hb hsep hcell hcell2 hcell3
  go_enter Tryz.func51, Tryz.ntmps51
  go_wp2_with (first
    | (go_at_call 52; with_reducible refine (require_ok _ _).mono ?_; rintro e w' ⟨rfl, rfl⟩))
  refine wp_region_held_drew (S := fun w' => w'.cell? ⟨b, o, none⟩ = some (.string X) ∧ w'.cell? ⟨b, o + 1, none⟩ = some (.string Y) ∧ w'.cell? ⟨b, o + 2, none⟩ = some (.string Z)) (by kernel_rfl) ?_ (fun hHeld => ?_)
  · exact HC.out
  refine wpAnyH_take (i := 0) (v := ?av0) rfl (by kernel_rfl) (by kernel_rfl) (by kernel_rfl) (fun _ _ _ h => h) (Or.inl ⟨by rfl, ?ay0⟩) (by assumption) ?ar0
  case ay0 =>
    intro wx hSw
    clear hSw
    go_simp
    first | done | (with_reducible rfl)
  (try simp only [Act.put, List.getElem_toArray, List.getElem_cons_zero, List.setIfInBounds_toArray, List.set_cons_zero, List.set_cons_succ])
  refine wpAnyH_take (i := 1) (v := ?av1) rfl (by kernel_rfl) (by kernel_rfl) (by kernel_rfl) (fun _ _ _ h => h) (Or.inl ⟨by rfl, ?ay1⟩) (by assumption) ?ar1
  case ay1 =>
    intro wx hSw
    clear hSw
    go_simp
    first | done | (with_reducible rfl)
  (try simp only [Act.put, List.getElem_toArray, List.getElem_cons_succ, List.getElem_cons_zero, List.setIfInBounds_toArray, List.set_cons_zero, List.set_cons_succ])
  refine wpAnyH_take (i := 2) (v := ?av2) rfl (by kernel_rfl) (by kernel_rfl) (by kernel_rfl) (fun _ _ _ h => h) (Or.inl ⟨by rfl, ?ay2⟩) (by assumption) ?ar2
  case ay2 =>
    intro wx hSw
    clear hSw
    go_simp
    first | done | (with_reducible rfl)
  (try simp only [Act.put, List.getElem_toArray, List.getElem_cons_succ, List.getElem_cons_zero, List.setIfInBounds_toArray, List.set_cons_zero, List.set_cons_succ])
  refine wpAnyH_take (i := 3) (v := ?av3) rfl (by kernel_rfl) (by kernel_rfl) (by kernel_rfl) (fun _ _ _ h => h) (Or.inl ⟨by rfl, ?ay3⟩) (by assumption) ?ar3
  case ay3 =>
    intro wx hSw
    have hcl := hSw.1
    clear hSw
    go_simp
    first | done | (with_reducible rfl)
  (try simp only [Act.put, List.getElem_toArray, List.getElem_cons_succ, List.getElem_cons_zero, List.setIfInBounds_toArray, List.set_cons_zero, List.set_cons_succ])
  refine wpAnyH_take (i := 4) (v := ?av4) rfl (by kernel_rfl) (by kernel_rfl) (by kernel_rfl) (fun _ _ _ h => h) (Or.inl ⟨by rfl, ?ay4⟩) (by assumption) ?ar4
  case ay4 =>
    intro wx hSw
    clear hSw
    go_simp
    first | done | (with_reducible rfl)
  (try simp only [Act.put, List.getElem_toArray, List.getElem_cons_succ, List.getElem_cons_zero, List.setIfInBounds_toArray, List.set_cons_zero, List.set_cons_succ])
  refine wpAnyH_take (i := 5) (v := ?av5) rfl (by kernel_rfl) (by kernel_rfl) (by kernel_rfl) (fun _ _ _ h => h) (Or.inl ⟨by rfl, ?ay5⟩) (by assumption) ?ar5
  case ay5 =>
    intro wx hSw
    clear hSw
    go_simp
    first | done | (with_reducible rfl)
  (try simp only [Act.put, List.getElem_toArray, List.getElem_cons_succ, List.getElem_cons_zero, List.setIfInBounds_toArray, List.set_cons_zero, List.set_cons_succ])
  refine wpAnyH_take (i := 6) (v := ?av6) rfl (by kernel_rfl) (by kernel_rfl) (by kernel_rfl) (fun _ _ _ h => h) (Or.inl ⟨by rfl, ?ay6⟩) (by assumption) ?ar6
  case ay6 =>
    intro wx hSw
    have hcl := hSw.2.1
    clear hSw
    go_simp
    first | done | (with_reducible rfl)
  (try simp only [Act.put, List.getElem_toArray, List.getElem_cons_succ, List.getElem_cons_zero, List.setIfInBounds_toArray, List.set_cons_zero, List.set_cons_succ])
  refine wpAnyH_take (i := 7) (v := ?av7) rfl (by kernel_rfl) (by kernel_rfl) (by kernel_rfl) (fun _ _ _ h => h) (Or.inl ⟨by rfl, ?ay7⟩) (by assumption) ?ar7
  case ay7 =>
    intro wx hSw
    clear hSw
    go_simp
    first | done | (with_reducible rfl)
  (try simp only [Act.put, List.getElem_toArray, List.getElem_cons_succ, List.getElem_cons_zero, List.setIfInBounds_toArray, List.set_cons_zero, List.set_cons_succ])
  refine wpAnyH_take (i := 8) (v := ?av8) rfl (by kernel_rfl) (by kernel_rfl) (by kernel_rfl) (fun _ _ _ h => h) (Or.inl ⟨by rfl, ?ay8⟩) (by assumption) ?ar8
  case ay8 =>
    intro wx hSw
    clear hSw
    go_simp
    first | done | (with_reducible rfl)
  (try simp only [Act.put, List.getElem_toArray, List.getElem_cons_succ, List.getElem_cons_zero, List.setIfInBounds_toArray, List.set_cons_zero, List.set_cons_succ])
  refine wpAnyH_take (i := 9) (v := ?av9) rfl (by kernel_rfl) (by kernel_rfl) (by kernel_rfl) (fun _ _ _ h => h) (Or.inl ⟨by rfl, ?ay9⟩) (by assumption) ?ar9
  case ay9 =>
    intro wx hSw
    have hcl := hSw.2.2
    clear hSw
    go_simp
    first | done | (with_reducible rfl)
  (try simp only [Act.put, List.getElem_toArray, List.getElem_cons_succ, List.getElem_cons_zero, List.setIfInBounds_toArray, List.set_cons_zero, List.set_cons_succ])
  refine wpAnyH_ready (rs := [10]) (by kernel_rfl) (by simp) ?_
  refine AllReadyH.cons rfl (fun K hK => ?_) AllReadyH.nil
  go_simp
  go_at_call 93
  refine HMh.out.mono ?_
  rintro e w1 ⟨rfl, hb⟩
  exact post_panic (P := Tryz.prog) (fn := Tryz.f51) rfl ⟨rfl, (Below.refl _ _).drew.trans hb⟩
end Go.Proofs.YticfhbffoajgcaaGreatDoor
/- The reader's method entry: all cases. (Written by gen_ltentc.py.) -/
set_option linter.unusedVariables false
namespace Go.Proofs.YticfhbffoajgcaaGreatDoor
open Go.RowKit

theorem kw_eq (s : ByteArray) (l : List UInt8) : (s.toList == l) = decide (s.data.toList = l) := by
  rw [ByteArray.toList_eq]
  by_cases h : s.data.toList = l
  · rw [h]; simp
  · rw [decide_eq_false h]; simpa using h
theorem entryT_req {st : Bool} {L : PL} {k : List UInt8} {r : List (List UInt8)} (h : decide (k = kLoc) = st) : entryT st L k r = .error 1 := by
  unfold entryT
  rw [if_pos]
  rw [← h]
  by_cases e : k = kLoc
  · rw [e]; simp
  · rw [decide_eq_false e]; simpa using e
theorem entryT_go {st : Bool} {L : PL} {k : List UInt8} {r : List (List UInt8)} (h : decide (k = kLoc) ≠ st) : entryT st L k r = if k = kLoc then (match r with
    | [x] => beginT L x
    | _ => .error 1)
  else if k = kWei then (if 2 ≤ r.length then weighT L r.dropLast (r.getLastD []) else .error 1)
  else if k = kLow then (match r with
    | [x, y] => lowT L x y
    | _ => .error 1)
  else if k = kUp then (match r with
    | [x, y] => upT L x y
    | _ => .error 1)
  else if k = kCls then (match r with
    | x :: t => classT L x t
    | _ => .error 1)
  else if k = kElm then (match r with
    | [x, y, z] => elemT L x y z
    | _ => .error 1)
  else .error 1 := by
  have hne : ¬ ((k == kLoc) = st) := by
    intro e
    apply h
    rw [← e]
    by_cases e2 : k = kLoc
    · rw [e2]; simp
    · rw [decide_eq_false e2]; simpa using fun e3 => e2 e3
  unfold entryT
  rw [if_neg hne]
  all_goals rfl
theorem entry_locale (S : Nat → Prop) (w : World) (R : Nat) (L : PL) (W C E : Value) (st : Bool) (ln : Int) (h : RD S w R L W C E st ln) (s : ByteArray) (a : Option Addr) (capr : Nat) (rs : List (List UInt8)) (hcap : rs.length ≤ capr) (hA : rs = [] ∨ ∃ b o, a = some ⟨b, o, none⟩ ∧ b < w.heap.size ∧ ArgsAt b o rs w ∧ ¬ own S R b) (hx : ∀ x ∈ rs, 0 < x.length ∧ x.length ≤ 1000000) (hr : rs.length ≤ 1000000) (h24 : L.cls.length ≤ 24) (h64 : L.els.length ≤ 64) (hlo : L.lower.length = 256) (hup : L.upper.length = 256) (hk : s.data.toList = kLoc) (hst : st = false) : Calls Tryz.prog 51 #[.pointer (some ⟨R, 0, none⟩), .string s, .slice a rs.length capr] w (EndM S w R ln true (entryT st L s.data.toList rs)) := by
  have hm : ∀ x ∈ rs, (mk x).size ≤ maxLen := fun x hm => by have := (hx x hm).2; unfold maxLen; show x.length ≤ _; omega
  rw [entryT_go (by rw [hk, hst]; decide)]
  rw [if_pos hk]
  match rs, hcap, hA, hx, hr, hm with
  | [x], hcap, hA, hx, hr, hm =>
    rcases hA with hA | ⟨b, o, rfl, hb, hA, hsep⟩
    · cases hA
    have hc := hA 0 (by simp)
    simp only [List.getElem_cons_zero, Nat.add_zero] at hc
    cases hn : nmL x with
    | true =>
      have hB : beginT L x = .ok { L with name := x } := by unfold beginT; rw [if_neg (by rw [hn]; decide)]
      show Calls Tryz.prog 51 _ w (EndM S w R ln true (beginT L x))
      rw [hB]
      exact ent_locale_ok S w R L W C E st ln h s b o _ capr (by simp) _ (mk x) hst (by rw [kw_eq, hk]; rfl) (by rw [kw_eq, hk]; rfl) (by rw [kw_eq, hk]; rfl) (by rw [kw_eq, hk]; rfl) (by rw [kw_eq, hk]; rfl) (by rw [kw_eq, hk]; rfl) rfl hc (begin_ok S w R L W C E st ln h (mk x) hn)
    | false =>
      have hB : beginT L x = .error 4 := by unfold beginT; rw [if_pos hn]
      show Calls Tryz.prog 51 _ w (EndM S w R ln true (beginT L x))
      rw [hB]
      exact ent_locale_no S w R L W C E st ln h s b o _ capr (by simp) _ (mk x) hst (by rw [kw_eq, hk]; rfl) (by rw [kw_eq, hk]; rfl) (by rw [kw_eq, hk]; rfl) (by rw [kw_eq, hk]; rfl) (by rw [kw_eq, hk]; rfl) (by rw [kw_eq, hk]; rfl) rfl hc (begin_no S w R L W C E st ln h (mk x) hn)
  | [], hcap, hA, hx, hr, hm => exact ent_bad_locale S w R L W C E st ln h s a _ capr (by simp) hst (by rw [kw_eq, hk]; rfl) (by rw [kw_eq, hk]; rfl) (by rw [kw_eq, hk]; rfl) (by rw [kw_eq, hk]; rfl) (by rw [kw_eq, hk]; rfl) (by rw [kw_eq, hk]; rfl) (by simp)
  | x :: y :: t, hcap, hA, hx, hr, hm => exact ent_bad_locale S w R L W C E st ln h s a _ capr (by simpa using hr) hst (by rw [kw_eq, hk]; rfl) (by rw [kw_eq, hk]; rfl) (by rw [kw_eq, hk]; rfl) (by rw [kw_eq, hk]; rfl) (by rw [kw_eq, hk]; rfl) (by rw [kw_eq, hk]; rfl) (by simp)
theorem entry_weight (S : Nat → Prop) (w : World) (R : Nat) (L : PL) (W C E : Value) (st : Bool) (ln : Int) (h : RD S w R L W C E st ln) (s : ByteArray) (a : Option Addr) (capr : Nat) (rs : List (List UInt8)) (hcap : rs.length ≤ capr) (hA : rs = [] ∨ ∃ b o, a = some ⟨b, o, none⟩ ∧ b < w.heap.size ∧ ArgsAt b o rs w ∧ ¬ own S R b) (hx : ∀ x ∈ rs, 0 < x.length ∧ x.length ≤ 1000000) (hr : rs.length ≤ 1000000) (h24 : L.cls.length ≤ 24) (h64 : L.els.length ≤ 64) (hlo : L.lower.length = 256) (hup : L.upper.length = 256) (hk : s.data.toList = kWei) (hst : st = true) : Calls Tryz.prog 51 #[.pointer (some ⟨R, 0, none⟩), .string s, .slice a rs.length capr] w (EndM S w R ln true (entryT st L s.data.toList rs)) := by
  have hm : ∀ x ∈ rs, (mk x).size ≤ maxLen := fun x hm => by have := (hx x hm).2; unfold maxLen; show x.length ≤ _; omega
  rw [entryT_go (by rw [hk, hst]; decide)]
  rw [if_neg (by rw [hk]; decide)]
  rw [if_pos hk]
  by_cases h2 : 2 ≤ rs.length
  · rw [if_pos h2]
    have hne : rs ≠ [] := by intro e; rw [e] at h2; simp at h2
    rcases hA with hA | ⟨b, o, rfl, hb, hA, hsep⟩
    · exact absurd hA hne
    have hlast : rs.getLastD [] = rs[rs.length - 1]'(by omega) := by
      rw [List.getLastD_eq_getLast?, List.getLast?_eq_getElem?, List.getElem?_eq_getElem (by omega)]; rfl
    have hc := hA (rs.length - 1) (by omega)
    have hM := weight_any S w.drew R L W C E st ln h.drew _ rs.dropLast (sa_of (n := rs.length - 1) (c := capr) (by simp) (by omega) hb (hA.below (Below.refl _ _).drew hb).init) (mk (rs[rs.length - 1]'(by omega))) (hm _ (List.getElem_mem _)) (fun x hx2 => hm x ((List.dropLast_sublist rs).subset hx2)) (by simp; omega)
    rw [mk_data, ← hlast, hst] at hM
    rw [← hlast] at hc
    cases hq : weighT L rs.dropLast (rs.getLastD []) with
    | ok L' =>
      rw [hq] at hM
      exact ent_weight_ok S w R L W C E st ln h s b o _ capr hr L' _ (rs.length - 1) hst (by rw [kw_eq, hk]; rfl) (by rw [kw_eq, hk]; rfl) (by rw [kw_eq, hk]; rfl) (by rw [kw_eq, hk]; rfl) (by rw [kw_eq, hk]; rfl) (by rw [kw_eq, hk]; rfl) h2 (by omega) hcap hb hsep hc hM
    | error x =>
      rw [hq] at hM
      exact ent_weight_no S w R L W C E st ln h s b o _ capr hr x _ (rs.length - 1) hst (by rw [kw_eq, hk]; rfl) (by rw [kw_eq, hk]; rfl) (by rw [kw_eq, hk]; rfl) (by rw [kw_eq, hk]; rfl) (by rw [kw_eq, hk]; rfl) (by rw [kw_eq, hk]; rfl) h2 (by omega) hcap hb hsep hc hM
  · rw [if_neg h2]
    exact ent_bad_weight S w R L W C E st ln h s a _ capr hr hst (by rw [kw_eq, hk]; rfl) (by rw [kw_eq, hk]; rfl) (by rw [kw_eq, hk]; rfl) (by rw [kw_eq, hk]; rfl) (by rw [kw_eq, hk]; rfl) (by rw [kw_eq, hk]; rfl) h2
theorem entry_lower (S : Nat → Prop) (w : World) (R : Nat) (L : PL) (W C E : Value) (st : Bool) (ln : Int) (h : RD S w R L W C E st ln) (s : ByteArray) (a : Option Addr) (capr : Nat) (rs : List (List UInt8)) (hcap : rs.length ≤ capr) (hA : rs = [] ∨ ∃ b o, a = some ⟨b, o, none⟩ ∧ b < w.heap.size ∧ ArgsAt b o rs w ∧ ¬ own S R b) (hx : ∀ x ∈ rs, 0 < x.length ∧ x.length ≤ 1000000) (hr : rs.length ≤ 1000000) (h24 : L.cls.length ≤ 24) (h64 : L.els.length ≤ 64) (hlo : L.lower.length = 256) (hup : L.upper.length = 256) (hk : s.data.toList = kLow) (hst : st = true) : Calls Tryz.prog 51 #[.pointer (some ⟨R, 0, none⟩), .string s, .slice a rs.length capr] w (EndM S w R ln true (entryT st L s.data.toList rs)) := by
  have hm : ∀ x ∈ rs, (mk x).size ≤ maxLen := fun x hm => by have := (hx x hm).2; unfold maxLen; show x.length ≤ _; omega
  rw [entryT_go (by rw [hk, hst]; decide)]
  rw [if_neg (by rw [hk]; decide)]
  rw [if_neg (by rw [hk]; decide)]
  rw [if_pos hk]
  match rs, hcap, hA, hx, hr, hm with
  | [x, y], hcap, hA, hx, hr, hm =>
    rcases hA with hA | ⟨b, o, rfl, hb, hA, hsep⟩
    · cases hA
    have hc := hA 0 (by simp)
    have hc2 := hA 1 (by simp)
    simp only [List.getElem_cons_zero, List.getElem_cons_succ, Nat.add_zero] at hc hc2
    have hzx := hm x (by simp)
    have hzy := hm y (by simp)
    cases hq : tabT L.lower x y with
    | ok t =>
      have hB : lowT L x y = .ok { L with lower := t } := by unfold lowT; rw [hq]
      show Calls Tryz.prog 51 _ w (EndM S w R ln true (lowT L x y))
      rw [hB]
      exact ent_lower_ok S w R L W C E st ln h s b o _ capr (by simp) t (mk x) (mk y) hst (by rw [kw_eq, hk]; rfl) (by rw [kw_eq, hk]; rfl) (by rw [kw_eq, hk]; rfl) (by rw [kw_eq, hk]; rfl) (by rw [kw_eq, hk]; rfl) (by rw [kw_eq, hk]; rfl) rfl hc hc2 hb hsep (replaced_ok (mk L.lower) (mk x) (mk y) t (by rw [mk_size]; exact hlo) hzx hzy w.drew hq)
    | error e =>
      have hB : lowT L x y = .error e := by unfold lowT; rw [hq]
      show Calls Tryz.prog 51 _ w (EndM S w R ln true (lowT L x y))
      rw [hB]
      exact ent_lower_no S w R L W C E st ln h s b o _ capr (by simp) e (mk x) (mk y) hst (by rw [kw_eq, hk]; rfl) (by rw [kw_eq, hk]; rfl) (by rw [kw_eq, hk]; rfl) (by rw [kw_eq, hk]; rfl) (by rw [kw_eq, hk]; rfl) (by rw [kw_eq, hk]; rfl) rfl hc hc2 hb hsep (replaced_no (mk L.lower) (mk x) (mk y) e hzx hzy w.drew hq)
  | [], hcap, hA, hx, hr, hm => exact ent_bad_lower S w R L W C E st ln h s a _ capr (by simp) hst (by rw [kw_eq, hk]; rfl) (by rw [kw_eq, hk]; rfl) (by rw [kw_eq, hk]; rfl) (by rw [kw_eq, hk]; rfl) (by rw [kw_eq, hk]; rfl) (by rw [kw_eq, hk]; rfl) (by simp)
  | [x], hcap, hA, hx, hr, hm => exact ent_bad_lower S w R L W C E st ln h s a _ capr (by simp) hst (by rw [kw_eq, hk]; rfl) (by rw [kw_eq, hk]; rfl) (by rw [kw_eq, hk]; rfl) (by rw [kw_eq, hk]; rfl) (by rw [kw_eq, hk]; rfl) (by rw [kw_eq, hk]; rfl) (by simp)
  | x :: y :: z :: t, hcap, hA, hx, hr, hm => exact ent_bad_lower S w R L W C E st ln h s a _ capr (by simpa using hr) hst (by rw [kw_eq, hk]; rfl) (by rw [kw_eq, hk]; rfl) (by rw [kw_eq, hk]; rfl) (by rw [kw_eq, hk]; rfl) (by rw [kw_eq, hk]; rfl) (by rw [kw_eq, hk]; rfl) (by simp)
theorem entry_upper (S : Nat → Prop) (w : World) (R : Nat) (L : PL) (W C E : Value) (st : Bool) (ln : Int) (h : RD S w R L W C E st ln) (s : ByteArray) (a : Option Addr) (capr : Nat) (rs : List (List UInt8)) (hcap : rs.length ≤ capr) (hA : rs = [] ∨ ∃ b o, a = some ⟨b, o, none⟩ ∧ b < w.heap.size ∧ ArgsAt b o rs w ∧ ¬ own S R b) (hx : ∀ x ∈ rs, 0 < x.length ∧ x.length ≤ 1000000) (hr : rs.length ≤ 1000000) (h24 : L.cls.length ≤ 24) (h64 : L.els.length ≤ 64) (hlo : L.lower.length = 256) (hup : L.upper.length = 256) (hk : s.data.toList = kUp) (hst : st = true) : Calls Tryz.prog 51 #[.pointer (some ⟨R, 0, none⟩), .string s, .slice a rs.length capr] w (EndM S w R ln true (entryT st L s.data.toList rs)) := by
  have hm : ∀ x ∈ rs, (mk x).size ≤ maxLen := fun x hm => by have := (hx x hm).2; unfold maxLen; show x.length ≤ _; omega
  rw [entryT_go (by rw [hk, hst]; decide)]
  rw [if_neg (by rw [hk]; decide)]
  rw [if_neg (by rw [hk]; decide)]
  rw [if_neg (by rw [hk]; decide)]
  rw [if_pos hk]
  match rs, hcap, hA, hx, hr, hm with
  | [x, y], hcap, hA, hx, hr, hm =>
    rcases hA with hA | ⟨b, o, rfl, hb, hA, hsep⟩
    · cases hA
    have hc := hA 0 (by simp)
    have hc2 := hA 1 (by simp)
    simp only [List.getElem_cons_zero, List.getElem_cons_succ, Nat.add_zero] at hc hc2
    have hzx := hm x (by simp)
    have hzy := hm y (by simp)
    cases hq : tabT L.upper x y with
    | ok t =>
      have hB : upT L x y = .ok { L with upper := t } := by unfold upT; rw [hq]
      show Calls Tryz.prog 51 _ w (EndM S w R ln true (upT L x y))
      rw [hB]
      exact ent_upper_ok S w R L W C E st ln h s b o _ capr (by simp) t (mk x) (mk y) hst (by rw [kw_eq, hk]; rfl) (by rw [kw_eq, hk]; rfl) (by rw [kw_eq, hk]; rfl) (by rw [kw_eq, hk]; rfl) (by rw [kw_eq, hk]; rfl) (by rw [kw_eq, hk]; rfl) rfl hc hc2 hb hsep (replaced_ok (mk L.upper) (mk x) (mk y) t (by rw [mk_size]; exact hup) hzx hzy w.drew hq)
    | error e =>
      have hB : upT L x y = .error e := by unfold upT; rw [hq]
      show Calls Tryz.prog 51 _ w (EndM S w R ln true (upT L x y))
      rw [hB]
      exact ent_upper_no S w R L W C E st ln h s b o _ capr (by simp) e (mk x) (mk y) hst (by rw [kw_eq, hk]; rfl) (by rw [kw_eq, hk]; rfl) (by rw [kw_eq, hk]; rfl) (by rw [kw_eq, hk]; rfl) (by rw [kw_eq, hk]; rfl) (by rw [kw_eq, hk]; rfl) rfl hc hc2 hb hsep (replaced_no (mk L.upper) (mk x) (mk y) e hzx hzy w.drew hq)
  | [], hcap, hA, hx, hr, hm => exact ent_bad_upper S w R L W C E st ln h s a _ capr (by simp) hst (by rw [kw_eq, hk]; rfl) (by rw [kw_eq, hk]; rfl) (by rw [kw_eq, hk]; rfl) (by rw [kw_eq, hk]; rfl) (by rw [kw_eq, hk]; rfl) (by rw [kw_eq, hk]; rfl) (by simp)
  | [x], hcap, hA, hx, hr, hm => exact ent_bad_upper S w R L W C E st ln h s a _ capr (by simp) hst (by rw [kw_eq, hk]; rfl) (by rw [kw_eq, hk]; rfl) (by rw [kw_eq, hk]; rfl) (by rw [kw_eq, hk]; rfl) (by rw [kw_eq, hk]; rfl) (by rw [kw_eq, hk]; rfl) (by simp)
  | x :: y :: z :: t, hcap, hA, hx, hr, hm => exact ent_bad_upper S w R L W C E st ln h s a _ capr (by simpa using hr) hst (by rw [kw_eq, hk]; rfl) (by rw [kw_eq, hk]; rfl) (by rw [kw_eq, hk]; rfl) (by rw [kw_eq, hk]; rfl) (by rw [kw_eq, hk]; rfl) (by rw [kw_eq, hk]; rfl) (by simp)
theorem entry_class (S : Nat → Prop) (w : World) (R : Nat) (L : PL) (W C E : Value) (st : Bool) (ln : Int) (h : RD S w R L W C E st ln) (s : ByteArray) (a : Option Addr) (capr : Nat) (rs : List (List UInt8)) (hcap : rs.length ≤ capr) (hA : rs = [] ∨ ∃ b o, a = some ⟨b, o, none⟩ ∧ b < w.heap.size ∧ ArgsAt b o rs w ∧ ¬ own S R b) (hx : ∀ x ∈ rs, 0 < x.length ∧ x.length ≤ 1000000) (hr : rs.length ≤ 1000000) (h24 : L.cls.length ≤ 24) (h64 : L.els.length ≤ 64) (hlo : L.lower.length = 256) (hup : L.upper.length = 256) (hk : s.data.toList = kCls) (hst : st = true) : Calls Tryz.prog 51 #[.pointer (some ⟨R, 0, none⟩), .string s, .slice a rs.length capr] w (EndM S w R ln true (entryT st L s.data.toList rs)) := by
  have hm : ∀ x ∈ rs, (mk x).size ≤ maxLen := fun x hm => by have := (hx x hm).2; unfold maxLen; show x.length ≤ _; omega
  rw [entryT_go (by rw [hk, hst]; decide)]
  rw [if_neg (by rw [hk]; decide)]
  rw [if_neg (by rw [hk]; decide)]
  rw [if_neg (by rw [hk]; decide)]
  rw [if_neg (by rw [hk]; decide)]
  rw [if_pos hk]
  match rs, hcap, hA, hx, hr, hm with
  | x :: t, hcap, hA, hx, hr, hm =>
    rcases hA with hA | ⟨b, o, rfl, hb, hA, hsep⟩
    · cases hA
    have hc := hA 0 (by simp)
    simp only [List.getElem_cons_zero, Nat.add_zero] at hc
    have hx2 : ∀ y ∈ t, 0 < y.length ∧ y.length ≤ 1000000 := fun y hy => hx y (List.mem_cons_of_mem _ hy)
    have hr2 : t.length ≤ 1000000 := by simp at hr; omega
    have hA2 := (hA.below (Below.refl _ _).drew hb).tail
    by_cases hone : capr = 1
    · have ht : t = [] := by
        have : t.length = 0 := by simp at hcap; omega
        exact List.eq_nil_of_length_eq_zero this
      subst ht
      have hM := class_any S w.drew R L W C E st ln h.drew (mk x) (.slice (some ⟨b, o, none⟩) 0 0) [] h24 ⟨_, 0, rfl, Nat.le_refl _, .inl rfl⟩ hx2 hr2
      rw [mk_data, hst] at hM
      cases hq : classT L x [] with
      | ok L' =>
        rw [hq] at hM
        show Calls Tryz.prog 51 _ w (EndM S w R ln true (classT L x []))
        rw [hq]
        exact ent_class1_ok S w R L W C E st ln h s b o _ capr hr L' (mk x) 0 hst (by rw [kw_eq, hk]; rfl) (by rw [kw_eq, hk]; rfl) (by rw [kw_eq, hk]; rfl) (by rw [kw_eq, hk]; rfl) (by rw [kw_eq, hk]; rfl) (by rw [kw_eq, hk]; rfl) rfl hcap hone hb hsep hc hM
      | error e =>
        rw [hq] at hM
        show Calls Tryz.prog 51 _ w (EndM S w R ln true (classT L x []))
        rw [hq]
        exact ent_class1_no S w R L W C E st ln h s b o _ capr hr e (mk x) 0 hst (by rw [kw_eq, hk]; rfl) (by rw [kw_eq, hk]; rfl) (by rw [kw_eq, hk]; rfl) (by rw [kw_eq, hk]; rfl) (by rw [kw_eq, hk]; rfl) (by rw [kw_eq, hk]; rfl) rfl hcap hone hb hsep hc hM
    · have hM := class_any S w.drew R L W C E st ln h.drew (mk x) (.slice (some ⟨b, o + 1, none⟩) t.length (capr - 1)) t h24 (sa_of rfl (by simp at hcap; omega) hb hA2) hx2 hr2
      rw [mk_data, hst] at hM
      cases hq : classT L x t with
      | ok L' =>
        rw [hq] at hM
        show Calls Tryz.prog 51 _ w (EndM S w R ln true (classT L x t))
        rw [hq]
        exact ent_class_ok S w R L W C E st ln h s b o _ capr hr L' (mk x) t.length hst (by rw [kw_eq, hk]; rfl) (by rw [kw_eq, hk]; rfl) (by rw [kw_eq, hk]; rfl) (by rw [kw_eq, hk]; rfl) (by rw [kw_eq, hk]; rfl) (by rw [kw_eq, hk]; rfl) rfl hcap hone hb hsep hc hM
      | error e =>
        rw [hq] at hM
        show Calls Tryz.prog 51 _ w (EndM S w R ln true (classT L x t))
        rw [hq]
        exact ent_class_no S w R L W C E st ln h s b o _ capr hr e (mk x) t.length hst (by rw [kw_eq, hk]; rfl) (by rw [kw_eq, hk]; rfl) (by rw [kw_eq, hk]; rfl) (by rw [kw_eq, hk]; rfl) (by rw [kw_eq, hk]; rfl) (by rw [kw_eq, hk]; rfl) rfl hcap hone hb hsep hc hM
  | [], hcap, hA, hx, hr, hm => exact ent_bad_class S w R L W C E st ln h s a _ capr (by simp) hst (by rw [kw_eq, hk]; rfl) (by rw [kw_eq, hk]; rfl) (by rw [kw_eq, hk]; rfl) (by rw [kw_eq, hk]; rfl) (by rw [kw_eq, hk]; rfl) (by rw [kw_eq, hk]; rfl) (by simp)
theorem entry_element (S : Nat → Prop) (w : World) (R : Nat) (L : PL) (W C E : Value) (st : Bool) (ln : Int) (h : RD S w R L W C E st ln) (s : ByteArray) (a : Option Addr) (capr : Nat) (rs : List (List UInt8)) (hcap : rs.length ≤ capr) (hA : rs = [] ∨ ∃ b o, a = some ⟨b, o, none⟩ ∧ b < w.heap.size ∧ ArgsAt b o rs w ∧ ¬ own S R b) (hx : ∀ x ∈ rs, 0 < x.length ∧ x.length ≤ 1000000) (hr : rs.length ≤ 1000000) (h24 : L.cls.length ≤ 24) (h64 : L.els.length ≤ 64) (hlo : L.lower.length = 256) (hup : L.upper.length = 256) (hk : s.data.toList = kElm) (hst : st = true) : Calls Tryz.prog 51 #[.pointer (some ⟨R, 0, none⟩), .string s, .slice a rs.length capr] w (EndM S w R ln true (entryT st L s.data.toList rs)) := by
  have hm : ∀ x ∈ rs, (mk x).size ≤ maxLen := fun x hm => by have := (hx x hm).2; unfold maxLen; show x.length ≤ _; omega
  rw [entryT_go (by rw [hk, hst]; decide)]
  rw [if_neg (by rw [hk]; decide)]
  rw [if_neg (by rw [hk]; decide)]
  rw [if_neg (by rw [hk]; decide)]
  rw [if_neg (by rw [hk]; decide)]
  rw [if_neg (by rw [hk]; decide)]
  rw [if_pos hk]
  match rs, hcap, hA, hx, hr, hm with
  | [x, y, z], hcap, hA, hx, hr, hm =>
    rcases hA with hA | ⟨b, o, rfl, hb, hA, hsep⟩
    · cases hA
    have hc := hA 0 (by simp)
    have hc2 := hA 1 (by simp)
    have hc3 := hA 2 (by simp)
    simp only [List.getElem_cons_zero, List.getElem_cons_succ, Nat.add_zero] at hc hc2 hc3
    have hM := element_any S w.drew R L W C E st ln h.drew (mk x) (mk y) (mk z) (hm x (by simp)) (hm y (by simp)) (hm z (by simp)) h64
    rw [mk_data, mk_data, mk_data, hst] at hM
    cases hq : elemT L x y z with
    | ok L' =>
      rw [hq] at hM
      show Calls Tryz.prog 51 _ w (EndM S w R ln true (elemT L x y z))
      rw [hq]
      exact ent_element_ok S w R L W C E st ln h s b o _ capr (by simp) L' (mk x) (mk y) (mk z) hst (by rw [kw_eq, hk]; rfl) (by rw [kw_eq, hk]; rfl) (by rw [kw_eq, hk]; rfl) (by rw [kw_eq, hk]; rfl) (by rw [kw_eq, hk]; rfl) (by rw [kw_eq, hk]; rfl) rfl hb hsep hc hc2 hc3 hM
    | error e =>
      rw [hq] at hM
      show Calls Tryz.prog 51 _ w (EndM S w R ln true (elemT L x y z))
      rw [hq]
      exact ent_element_no S w R L W C E st ln h s b o _ capr (by simp) e (mk x) (mk y) (mk z) hst (by rw [kw_eq, hk]; rfl) (by rw [kw_eq, hk]; rfl) (by rw [kw_eq, hk]; rfl) (by rw [kw_eq, hk]; rfl) (by rw [kw_eq, hk]; rfl) (by rw [kw_eq, hk]; rfl) rfl hb hsep hc hc2 hc3 hM
  | [], hcap, hA, hx, hr, hm => exact ent_bad_element S w R L W C E st ln h s a _ capr (by simp) hst (by rw [kw_eq, hk]; rfl) (by rw [kw_eq, hk]; rfl) (by rw [kw_eq, hk]; rfl) (by rw [kw_eq, hk]; rfl) (by rw [kw_eq, hk]; rfl) (by rw [kw_eq, hk]; rfl) (by simp)
  | [x], hcap, hA, hx, hr, hm => exact ent_bad_element S w R L W C E st ln h s a _ capr (by simp) hst (by rw [kw_eq, hk]; rfl) (by rw [kw_eq, hk]; rfl) (by rw [kw_eq, hk]; rfl) (by rw [kw_eq, hk]; rfl) (by rw [kw_eq, hk]; rfl) (by rw [kw_eq, hk]; rfl) (by simp)
  | [x, y], hcap, hA, hx, hr, hm => exact ent_bad_element S w R L W C E st ln h s a _ capr (by simp) hst (by rw [kw_eq, hk]; rfl) (by rw [kw_eq, hk]; rfl) (by rw [kw_eq, hk]; rfl) (by rw [kw_eq, hk]; rfl) (by rw [kw_eq, hk]; rfl) (by rw [kw_eq, hk]; rfl) (by simp)
  | x :: y :: z :: u :: t, hcap, hA, hx, hr, hm => exact ent_bad_element S w R L W C E st ln h s a _ capr (by simpa using hr) hst (by rw [kw_eq, hk]; rfl) (by rw [kw_eq, hk]; rfl) (by rw [kw_eq, hk]; rfl) (by rw [kw_eq, hk]; rfl) (by rw [kw_eq, hk]; rfl) (by rw [kw_eq, hk]; rfl) (by simp)
theorem entry_any (S : Nat → Prop) (w : World) (R : Nat) (L : PL) (W C E : Value) (st : Bool) (ln : Int) (h : RD S w R L W C E st ln) (s : ByteArray) (a : Option Addr) (capr : Nat) (rs : List (List UInt8)) (hcap : rs.length ≤ capr) (hA : rs = [] ∨ ∃ b o, a = some ⟨b, o, none⟩ ∧ b < w.heap.size ∧ ArgsAt b o rs w ∧ ¬ own S R b) (hx : ∀ x ∈ rs, 0 < x.length ∧ x.length ≤ 1000000) (hr : rs.length ≤ 1000000) (h24 : L.cls.length ≤ 24) (h64 : L.els.length ≤ 64) (hlo : L.lower.length = 256) (hup : L.upper.length = 256) : Calls Tryz.prog 51 #[.pointer (some ⟨R, 0, none⟩), .string s, .slice a rs.length capr] w (EndM S w R ln true (entryT st L s.data.toList rs)) := by
  by_cases hreq : decide (s.data.toList = kLoc) = st
  · rw [entryT_req hreq]
    cases st with
    | true => exact ent_req_true S w R L W C E true ln h s a _ capr hr rfl (by rw [kw_eq]; exact hreq)
    | false => exact ent_req_false S w R L W C E false ln h s a _ capr hr rfl (by rw [kw_eq]; exact hreq)
  · by_cases n0 : s.data.toList = kLoc
    · refine entry_locale S w R L W C E st ln h s a capr rs hcap hA hx hr h24 h64 hlo hup n0 ?_
      rw [decide_eq_true n0] at hreq
      cases st <;> simp_all
    · have hst : st = true := by
        rw [decide_eq_false n0] at hreq
        cases st <;> simp_all
      by_cases n1 : s.data.toList = kWei
      · exact entry_weight S w R L W C E st ln h s a capr rs hcap hA hx hr h24 h64 hlo hup n1 hst
      by_cases n2 : s.data.toList = kLow
      · exact entry_lower S w R L W C E st ln h s a capr rs hcap hA hx hr h24 h64 hlo hup n2 hst
      by_cases n3 : s.data.toList = kUp
      · exact entry_upper S w R L W C E st ln h s a capr rs hcap hA hx hr h24 h64 hlo hup n3 hst
      by_cases n4 : s.data.toList = kCls
      · exact entry_class S w R L W C E st ln h s a capr rs hcap hA hx hr h24 h64 hlo hup n4 hst
      by_cases n5 : s.data.toList = kElm
      · exact entry_element S w R L W C E st ln h s a capr rs hcap hA hx hr h24 h64 hlo hup n5 hst
      rw [entryT_go hreq, if_neg n0, if_neg n1, if_neg n2, if_neg n3, if_neg n4, if_neg n5]
      exact ent_none S w R L W C E st ln h s a _ capr hr hst (by rw [kw_eq, decide_eq_false]; exact n0) (by rw [kw_eq, decide_eq_false]; exact n1) (by rw [kw_eq, decide_eq_false]; exact n2) (by rw [kw_eq, decide_eq_false]; exact n3) (by rw [kw_eq, decide_eq_false]; exact n4) (by rw [kw_eq, decide_eq_false]; exact n5)
end Go.Proofs.YticfhbffoajgcaaGreatDoor
