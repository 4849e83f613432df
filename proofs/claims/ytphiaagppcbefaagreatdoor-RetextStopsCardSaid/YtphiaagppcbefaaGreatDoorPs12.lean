/- RxMath, TxMath, TxEsc, LtMem, LtState, LtApp, RxTree, RxA. -/
import Derived.Test.YtphiaagppcbefaaGreatDoorPs10
import Derived.Test.YtphiaagppcbefaaGreatDoorPs7
import Derived.Test.YtphiaagppcbefaaGreatDoorPs9
import Derived.Test.YtphiaagppcbefaaGreatDoorPs8
import Derived.Test.YtphiaagppcbefaaGreatDoorPs11
import Derived.Laws.IdiomStrings
import Derived.OwnWalk
import Derived.Below
import Derived.Test.YtphiaagppcbefaaGreatDoorRows
import Derived.Lib.Strings
import Derived.Lib.Bytealg
import Derived.Lib.SplitLaws
import Derived.Lib.Join
import Derived.Lib.LastIndexByte
import Derived.Test.YtphiaagppcbefaaGreatDoorPs1
import Derived.Lib.IndexLaws
import Derived.WalkKit
import Derived.WalkSpells
import Derived.WalkLawsBesides
import Derived.BigGuardPart
import Derived.Lib.Hide
import Derived.Deep.QuietTactic
import Derived.BigQuiet
import Derived.Deep.AppendLies
set_option linter.unusedVariables false
namespace Go.Proofs.YtphiaagppcbefaaGreatDoor
open Go.RowKit
inductive F where
  | nil : F
  | cons (op : Int) (st : Nat → Bool) (lo hi g : Int) (args rest : F) : F
structure TN where
  op : Int
  st : Nat → Bool
  lo : Int
  hi : Int
  g : Int
  args : F
def F.len : F → Nat
  | .nil => 0
  | .cons _ _ _ _ _ _ r => r.len + 1
def F.push : F → TN → F
  | .nil, t => .cons t.op t.st t.lo t.hi t.g t.args .nil
  | .cons o s l h g a r, t => .cons o s l h g a (r.push t)
theorem F.len_push (f : F) (t : TN) : (f.push t).len = f.len + 1 := by
  induction f with
  | nil => rfl
  | cons o s l h g a r _ ih => show (r.push t).len + 1 = r.len + 1 + 1; rw [ih]
def noSet : Nat → Bool := fun _ => false
def T0 : TN := ⟨0, noSet, 0, 0, 0, .nil⟩
def leafT (op : Int) : TN := ⟨op, noSet, 0, 0, 0, .nil⟩
def setR (st : Nat → Bool) : TN := ⟨2, st, 0, 0, 0, .nil⟩
def repR (lo hi : Int) (t : TN) : TN := ⟨5, noSet, lo, hi, 0, F.nil.push t⟩
def grpR (g : Int) (t : TN) : TN := ⟨6, noSet, 0, 0, g, F.nil.push t⟩
def bakR (g : Int) : TN := ⟨9, noSet, 0, 0, g, .nil⟩
def oneT (op : Int) : F → TN
  | .cons o s l h g a .nil => ⟨o, s, l, h, g, a⟩
  | f => ⟨op, noSet, 0, 0, 0, f⟩
def flg (fl k : Int) : Bool := !(bits .and .i64 fl k == 0)
abbrev CX.ext (c : CX) : Bool := flg c.fl 1
abbrev PS.to (p : PS) (n : Nat) : PS := { p with at_ := n }
def failT (c : CX) (p : PS) (e : Int) (i : Nat) : PS := if p.err = 0 then { p with err := e, ea := i, at_ := c.s.size } else { p with at_ := c.s.size }
def escT (c : CX) (x : Int) : Int × Int :=
  if x = 110 then (-2, 10) else if x = 116 then (-2, 9) else if 49 ≤ x ∧ x ≤ 57 then (-3, x)
  else if x = 47 then (-2, 47) else if spT x c.ext = true then (-2, x % 256)
  else if c.ext = false ∧ (x = 40 ∨ x = 41 ∨ x = 123) then (x, x) else (-4, x % 256)
def asT (c : CX) (p : PS) : Bool := decide (p.st = p.at_) || (decide (p.at_ = p.st + 1) && decide (gb c.s p.st = 94))
def opT (c : CX) (p : PS) (x : Int) : Bool :=
  if x = 93 ∨ x = 125 then false
  else if x = 42 ∧ c.ext = false then !(asT c p)
  else if x = 94 ∧ c.ext = false then decide (p.at_ = p.st)
  else if x = 36 ∧ c.ext = false then decide (p.at_ + 1 = c.s.size) || (decide (pkT c.s (p.at_ + 1) = 92) && decide (pkT c.s (p.at_ + 2) = 41))
  else spT x c.ext
def tokT (c : CX) (p : PS) : Int × Int × Nat :=
  if pkT c.s p.at_ = -1 then (-1, 0, 1)
  else if pkT c.s p.at_ = 92 then ((escT c (pkT c.s (p.at_ + 1))).1, (escT c (pkT c.s (p.at_ + 1))).2, 2)
  else if opT c p (pkT c.s p.at_) = true then (pkT c.s p.at_, 0, 1)
  else (-2, pkT c.s p.at_, 1)
abbrev kdT (c : CX) (p : PS) : Int := (tokT c p).1
abbrev vlT (c : CX) (p : PS) : Int := (tokT c p).2.1
abbrev szT (c : CX) (p : PS) : Nat := (tokT c p).2.2
abbrev pastT (c : CX) (p : PS) : PS := p.to (p.at_ + szT c p)
def accT (c : CX) (k : Int) (p : PS) : Bool × PS := if kdT c p = k then (true, pastT c p) else (false, p)
def unexT (c : CX) (p : PS) : PS := failT c p 1 (p.at_ + szT c p - 1)
def acbT (c : CX) (x : Int) (p : PS) : Bool × PS := if pkT c.s p.at_ = x then (true, p.to (p.at_ + 1)) else (false, p)
def expT (c : CX) (x : Int) (p : PS) : PS := if pkT c.s p.at_ = x then p.to (p.at_ + 1) else failT c p 1 p.at_
def dgT (x : Int) : Bool := decide (48 ≤ x) && decide (x ≤ 57)
def dgsT (s : ByteArray) : Nat → Nat → Nat
  | 0, i => i
  | n + 1, i => if dgT (pkT s i) = true then dgsT s n (i + 1) else i
def numE (c : CX) (p : PS) : Nat := if pkT c.s p.at_ = 48 then p.at_ + 1 else dgsT c.s c.s.size p.at_
def numW (c : CX) (p : PS) : List UInt8 := (c.s.extract p.at_ (numE c p)).data.toList
def nmrT (c : CX) (least : Int) (p : PS) : Int × PS :=
  if dgT (pkT c.s p.at_) = true then
    if parseE (numW c p) ≠ 0 ∨ 64 < parseV (numW c p) then (0, failT c (p.to (numE c p)) 3 p.at_)
    else if parseV (numW c p) < least then (0, failT c (p.to (numE c p)) 2 p.at_)
    else (parseV (numW c p), p.to (numE c p))
  else (0, failT c p 1 p.at_)
def bndE (c : CX) (p : PS) : PS := expT c 125 (if c.ext = true then p else expT c 92 p)
def bndT (c : CX) (p : PS) : (Int × Int) × PS :=
  let a := nmrT c 0 p
  if pkT c.s a.2.at_ = 44 then
    let q := a.2.to (a.2.at_ + 1)
    if dgT (pkT c.s q.at_) = true then
      let b := nmrT c a.1 q
      ((a.1, b.1), bndE c b.2)
    else ((a.1, -1), bndE c q)
  else ((a.1, a.1), bndE c a.2)
def sufT (c : CX) (t : TN) (p : PS) : TN × PS :=
  if kdT c p = 42 then (repR 0 (-1) t, pastT c p)
  else if kdT c p = 43 then (repR 1 (-1) t, pastT c p)
  else if kdT c p = 63 then (repR 0 1 t, pastT c p)
  else if kdT c p = 123 then (repR (bndT c (pastT c p)).1.1 (bndT c (pastT c p)).1.2 t, (bndT c (pastT c p)).2)
  else (t, p)
def foldT (c : CX) (st : Nat → Bool) : Nat → Bool := if flg c.fl 2 = true then fun x => st x || setOf (mapT (vld c.L).lower (bl (el st 256)) ++ mapT (vld c.L).upper (bl (el st 256))) x else st
def linT (c : CX) (st : Nat → Bool) : Nat → Bool := if flg c.fl 4 = true then fun x => st x && !setOf [10] x else st
def anyT (c : CX) (p : PS) : Int × PS := if pkT c.s p.at_ = -1 then (0, failT c p 1 p.at_) else (pkT c.s p.at_, p.to (p.at_ + 1))
def encT (c : CX) (m : Int) (p : PS) : Int × PS :=
  let a := anyT c (expT c m (expT c 91 p))
  (a.1, expT c 93 (expT c m a.2))
def rndT (c : CX) (p : PS) : Int × PS :=
  if pkT c.s p.at_ = 91 ∧ pkT c.s (p.at_ + 1) = 46 then encT c 46 p
  else
    let a := anyT c p
    if a.1 = 91 ∧ (pkT c.s a.2.at_ = 58 ∨ pkT c.s a.2.at_ = 61 ∨ pkT c.s a.2.at_ = -1) then (a.1, failT c a.2 1 a.2.at_) else a
def endC (s : ByteArray) : Nat → Nat → Option Nat
  | 0, _ => none
  | n + 1, i => if pkT s i = 58 ∧ pkT s (i + 1) = 93 then some i else endC s n (i + 1)
def clsT (c : CX) (p : PS) : (Nat → Bool) × PS := match endC c.s (c.s.size + 1) (p.at_ + 2) with
  | none => (noSet, failT c p 1 c.s.size)
  | some k => if (clsR (vld c.L) (c.s.extract (p.at_ + 2) k)).2 = true then ((clsR (vld c.L) (c.s.extract (p.at_ + 2) k)).1, p.to (k + 2)) else (noSet, failT c p 4 p.at_)
def itmT (c : CX) (p : PS) : (Nat → Bool) × PS :=
  if pkT c.s p.at_ = 91 ∧ pkT c.s (p.at_ + 1) = 58 then clsT c p
  else if pkT c.s p.at_ = 91 ∧ pkT c.s (p.at_ + 1) = 61 then (eqv (vld c.L) (encT c 61 p).1.toNat, (encT c 61 p).2)
  else
    let a := rndT c p
    if pkT c.s a.2.at_ = 45 ∧ pkT c.s (a.2.at_ + 1) ≠ 93 then
      let b := rndT c (a.2.to (a.2.at_ + 1))
      if (vld c.L).wt a.1.toNat ≤ (vld c.L).wt b.1.toNat then (btw (vld c.L) a.1.toNat b.1.toNat, b.2) else (noSet, failT c b.2 2 p.at_)
    else (between a.1.toNat a.1.toNat, a.2)
def itsT (c : CX) : Nat → (Nat → Bool) → PS → (Nat → Bool) × PS
  | 0, st, p => (st, p)
  | n + 1, st, p => if pkT c.s p.at_ = 93 ∨ pkT c.s p.at_ = -1 then (st, p) else itsT c n (fun x => st x || (itmT c p).1 x) (itmT c p).2
def brkS (c : CX) (inv : Bool) (st : Nat → Bool) : Nat → Bool := if inv = true then linT c (fun x => !foldT c st x) else foldT c st
def brkT (c : CX) (p : PS) : TN × PS :=
  let inv := acbT c 94 (acbT c 91 p).2
  let a := itmT c inv.2
  let b := itsT c (c.s.size + 1) a.1 a.2
  let q := expT c 93 b.2
  (setR (brkS c inv.1 b.1), if el (brkS c inv.1 b.1) 256 = [] then failT c q 2 p.at_ else q)
def bacT (c : CX) (v : Int) (p : PS) : TN × PS :=
  if p.cl (v - 48).toNat = true then (bakR (v - 48), p.to (p.at_ + szT c p)) else (T0, failT c p 4 p.at_)
def lopT (more : PS → Bool × PS) (step : PS → TN × PS) : Nat → F → PS → F × PS
  | 0, f, p => (f, p)
  | n + 1, f, p => if (more p).1 = true then lopT more step n (f.push (step (more p).2).1) (step (more p).2).2 else (f, (more p).2)
def joiT (c : CX) (op : Int) (more : PS → Bool × PS) (step : PS → TN × PS) (p : PS) : TN × PS :=
  let a := step p
  let b := lopT more step (c.s.size + 1) (F.nil.push a.1) a.2
  (oneT op b.1, b.2)
def morB (c : CX) (p : PS) : Bool × PS := (if kdT c p = -1 ∨ kdT c p = 124 then false else if kdT c p = 41 then decide (p.opn = 0) else true, p)
def pieW (c : CX) (grp : PS → TN × PS) (p : PS) : TN × PS :=
  if kdT c p = 94 then (leafT 7, pastT c p)
  else if kdT c p = 36 then (leafT 8, pastT c p)
  else if kdT c p = 40 then sufT c (grp p).1 (grp p).2
  else if kdT c p = 91 then sufT c (brkT c p).1 (brkT c p).2
  else if kdT c p = 46 then sufT c (setR (linT c fun x => !noSet x)) (pastT c p)
  else if kdT c p = -2 then sufT c (setR (foldT c (between (vlT c p).toNat (vlT c p).toNat))) (pastT c p)
  else if kdT c p = -3 then sufT c (bacT c (vlT c p) p).1 (bacT c (vlT c p) p).2
  else (T0, unexT c p)
def braW (c : CX) (grp : PS → TN × PS) (p : PS) : TN × PS := joiT c 3 (morB c) (pieW c grp) p
def uniW (c : CX) (grp : PS → TN × PS) (p : PS) : TN × PS := joiT c 4 (accT c 124) (braW c grp) p
def insW (c : CX) (grp : PS → TN × PS) (p : PS) : TN × PS := if c.ext = true ∧ kdT c p = 41 then (leafT 1, p) else uniW c grp p
def opnP (p : PS) : PS := { p with gr := p.gr + 1, opn := p.opn + 1 }
def cloP (p : PS) (n : Nat) : PS := { p with opn := p.opn - 1, cl := fun k => if k = n then true else p.cl k }
def begP (p : PS) : PS := { p with st := p.at_ }
def groT (c : CX) : Nat → PS → TN × PS
  | 0, p => (T0, p)
  | n + 1, p =>
    if p.gr = 9 then (T0, failT c p 3 p.at_)
    else
      let a := insW c (groT c n) (begP (accT c 40 (opnP p)).2)
      let b := accT c 41 a.2
      (grpR ((p.gr + 1 : Nat) : Int) a.1, cloP (if b.1 = true then b.2 else unexT c b.2) (p.gr + 1))
def PS0 : PS := { at_ := 0, st := 0, gr := 0, opn := 0, cl := fun _ => false, err := 0, ea := 0 }
def lvF : F → Nat
  | .nil => 0
  | .cons _ _ _ _ _ a r => max (lvF a + 1) (lvF r)
def lvT (t : TN) : Nat := lvF t.args + 1
def parT (c : CX) : TN × Int × Nat :=
  if 256 < c.s.size then (T0, 3, 256)
  else if c.s.size = 0 then (leafT 1, 0, 0)
  else
    let a := uniW c (groT c 10) PS0
    if a.2.err ≠ 0 then (T0, a.2.err, a.2.ea)
    else if 32 < lvT a.1 then (T0, 3, 0)
    else (a.1, 0, 0)
end Go.Proofs.YtphiaagppcbefaaGreatDoor
namespace Go.Proofs.YtphiaagppcbefaaGreatDoor
open Go.RowKit
def mk (l : List UInt8) : ByteArray := ⟨l.toArray⟩
theorem mk_data (l : List UInt8) : (mk l).data.toList = l := rfl
theorem mk_append (a b : List UInt8) : mk a ++ mk b = mk (a ++ b) := by
  apply ByteArray.ext; simp [mk]
def no (p : UInt8 → Bool) (l : List UInt8) : Bool := l.all fun c => !p c
end Go.Proofs.YtphiaagppcbefaaGreatDoor
namespace Go.Proofs.YtphiaagppcbefaaGreatDoor
open Go.RowKit
def lett (c : UInt8) : UInt8 := if c = 7 then 97 else if c = 8 then 98 else if c = 9 then 116 else if c = 10 then 110 else if c = 11 then 118 else if c = 12 then 102 else if c = 13 then 114 else if c = 92 then 92 else 0
def oct3 (c : UInt8) : List UInt8 := [92, UInt8.ofNat (48 + c.toNat / 64), UInt8.ofNat (48 + c.toNat / 8 % 8), UInt8.ofNat (48 + c.toNat % 8)]
def esc (c : UInt8) : List UInt8 := if lett c ≠ 0 then [92, lett c] else if c.toNat < 32 ∨ 126 < c.toNat then oct3 c else [c]
end Go.Proofs.YtphiaagppcbefaaGreatDoor
set_option linter.unusedVariables false
namespace Go.Proofs.YtphiaagppcbefaaGreatDoor
open Go.RowKit
structure Keep (S : Nat → Prop) (w w' : World) : Prop where
  os : w'.os = w.os
  tape : w'.tape = w.tape
  output : w'.output = w.output
  size : w.heap.size ≤ w'.heap.size
  block : ∀ k, k < w.heap.size → ¬ S k → w'.heap[k]? = w.heap[k]?
theorem Keep.refl (S : Nat → Prop) (w : World) : Keep S w w := ⟨rfl, rfl, rfl, Nat.le_refl _, fun _ _ _ => rfl⟩
theorem Keep.of_below {S : Nat → Prop} {w w' : World} (h : Below w.heap.size w w') : Keep S w w' := ⟨h.os, h.tape, h.output, h.size, fun k hk _ => h.block k hk⟩
theorem Keep.trans {S : Nat → Prop} {a b c : World} (h : Keep S a b) {S2 : Nat → Prop} (k : Keep S2 b c) (hS : ∀ g, g < a.heap.size → S2 g → S g) : Keep S a c :=
  ⟨k.os.trans h.os, k.tape.trans h.tape, k.output.trans h.output, Nat.le_trans h.size k.size, fun g hg hn => (k.block g (Nat.lt_of_lt_of_le hg h.size) (fun e => hn (hS g hg e))).trans (h.block g hg hn)⟩
theorem Keep.below {S : Nat → Prop} {w w' : World} {B : Nat} (h : Keep S w w') (hB : B ≤ w.heap.size) (hS : ∀ g, S g → B ≤ g) : Below B w w' :=
  ⟨h.os, h.tape, h.output, h.size, fun k hk => h.block k (by omega) (fun e => by have := hS k e; omega)⟩
theorem Keep.mono {S T : Nat → Prop} {w w' : World} (h : Keep S w w') (hST : ∀ g, S g → T g) : Keep T w w' := ⟨h.os, h.tape, h.output, h.size, fun k hk hn => h.block k hk (fun e => hn (hST k e))⟩
theorem Keep.next {S : Nat → Prop} {a b c : World} (h : Keep S a b) (k : Below b.heap.size b c) : Keep S a c := h.trans (Keep.of_below (S := fun _ => False) k) (fun _ _ e => e.elim)
theorem Keep.drew {S : Nat → Prop} {a w : World} (h : Keep S a w) : Keep S a w.drew := ⟨h.os, h.tape, h.output, h.size, h.block⟩
theorem Keep.alloc {S : Nat → Prop} {a w : World} (h : Keep S a w) (o : Obj) : Keep S a (w.alloc o) := h.next ((Below.refl _ _).alloc (Nat.le_refl _) _)
theorem Keep.put {S : Nat → Prop} {a w : World} (h : Keep S a w) (g j : Nat) (hg : S g ∨ a.heap.size ≤ g) (v : Value) : Keep S a (w.setCell ⟨g, j, none⟩ v) :=
  ⟨h.os, h.tape, h.output, by simpa [World.setCell] using h.size, fun k hk hn => (Below.heap_setCell w ⟨g, j, none⟩ v k (fun e => by
    have e2 : k = g := e
    subst e2
    rcases hg with hg | hg
    · exact hn hg
    · omega)).trans (h.block k hk hn)⟩
theorem Keep.grown {S : Nat → Prop} {a w w' : World} {row : Option Nat} (h : Keep S a w) (hg : w.grownBy w' row) (hr : ∀ k, row = some k → k < a.heap.size → S k) : Keep S a w' :=
  ⟨hg.os.trans h.os, hg.tape.trans h.tape, hg.output.trans h.output, Nat.le_trans h.size hg.size, fun k hk hn => (hg.block k (Nat.lt_of_lt_of_le hk h.size) (fun e => hn (hr k e.symm hk))).trans (h.block k hk hn)⟩
theorem own_same {w w' : World} {B n k : Nat} {t : TypeId} {v : Value} {xs : List Value} (h : w.ownsRow B t k v n xs) (hb : ∀ g, v.ownBlock = some g → g < w.heap.size → w'.heap[g]? = w.heap[g]?) : w'.ownsRow B t k v n xs := by
  obtain ⟨h1, h2⟩ := h
  refine ⟨h1, ?_⟩
  rcases h2 with h2 | ⟨g2, cap2, cur, e, hB2, hg, r⟩
  · exact .inl h2
  · exact .inr ⟨g2, cap2, cur, e, hB2, (hb g2 (by rw [e]; rfl) (Array.getElem?_eq_some_iff.1 hg).1).trans hg, r⟩
end Go.Proofs.YtphiaagppcbefaaGreatDoor
set_option linter.unusedVariables false
namespace Go.Proofs.YtphiaagppcbefaaGreatDoor
open Go.RowKit
def own (S : Nat → Prop) (R : Nat) : Nat → Prop := fun g => S g ∨ g = R
end Go.Proofs.YtphiaagppcbefaaGreatDoor
set_option linter.unusedVariables false
namespace Go.Proofs.YtphiaagppcbefaaGreatDoor
open Go.RowKit
theorem new_cells (w : World) (cs : List Value) (t : TypeId) (j : Nat) (u : Value) (h : cs[j]? = some u) : (w.alloc (.cells cs.toArray t)).cell? ((⟨w.heap.size, 0, none⟩ : Addr).add j) = some u := by
  have e : (⟨w.heap.size, 0, none⟩ : Addr).add j = ⟨w.heap.size, j, none⟩ := by unfold Addr.add; split <;> simp_all
  rw [e, cell_of_row _ w.heap.size j cs.toArray t (0, 0) (heap_alloc_new w _)]
  simpa using h
theorem app_st (T E : TypeId) (z : Value) (k bytes : Nat) (ht : Tryz.prog.underlying T = some (.slice E)) (hif : (Tryz.prog.info? E).map (fun i => (i.zero, i.size, i.bytes)) = some (some z, k, bytes)) (hz : z.cells.size = k) (hk : 0 < k)
    {W : World} {ops : Array Oper} {rest : List Oper} {o : Oper} {a : Act} {Q : Exit → Act → World → Prop} (w : World) (hgd : o.guard = none) (s x : Operand)
    (ho : o.op = .call { callee := .builtin .append, args := #[s, x], argTypes := #[T, T] })
    (v : Value) (n : Nat) (xs vs : List Value) (hW : W = w.alloc (.cells vs.toArray E)) (hs : a.eval s = v) (hown : w.ownsRow 0 E k v n xs) (g0 : Nat) (hg0 : w.heap.size = g0) (hx : a.eval x = .slice (some ⟨g0, 0, none⟩) 1 1) (hl : vs.length = k) (h1 : ∀ u ∈ vs, u.oneCell' = true)
    (h63 : n + 1 ≤ maxLen) (hby : (n + 1) * bytes ≤ 140737488355328)
    (h : ∀ g cap w', w'.ownsRow 0 E k (.slice (some ⟨g, 0, none⟩) (n + 1) cap) (n + 1) (xs ++ vs) → Keep (fun b => v.ownBlock = some b) w w' → (v.ownBlock = some g ∨ w.heap.size ≤ g) → wpList Tryz.prog ops Q rest (a.put o.dst (.slice (some ⟨g, 0, none⟩) (n + 1) cap)) w') :
    wpList Tryz.prog ops Q (o :: rest) a W := by
  subst hg0
  subst hW
  obtain ⟨i0, hi, hz0, hz1, hz2⟩ := info_parts hif
  refine wpList_append_lies _ hgd s x T ho 0 E i0 z k bytes ht hi hz0 hz1 hz2 hz hk v n xs hs (hown.alloc _) ⟨w.heap.size, 0, none⟩ 1 1 vs hx (by omega) (fun j u hu => new_cells w vs E j u hu) h1 (by decide) h63 hby (Nat.zero_le _) _ rfl ?_
  intro g cap w' hown' hgrow hat hlt
  refine h g cap w' hown' (((Keep.refl _ _).alloc _).grown hgrow (fun j e _ => e)) ?_
  rcases hat with hat | hat
  · exact .inl hat
  · right; rw [hat]; simp
theorem own_form {w : World} {B n k : Nat} {t : TypeId} {v : Value} {xs : List Value} (h : w.ownsRow B t k v n xs) : ∃ a c, v = .slice a n c := by
  rcases h.2 with ⟨e, h0⟩ | ⟨g, cap, _, e, _⟩
  · exact ⟨none, 0, by rw [e, h0]⟩
  · exact ⟨_, _, e⟩
end Go.Proofs.YtphiaagppcbefaaGreatDoor
set_option linter.unusedVariables false
namespace Go.Proofs.YtphiaagppcbefaaGreatDoor
open Go.RowKit
def rowV (op : Int) (st : Nat → Bool) (lo hi g : Int) (sv : Value) : List Value := [.int .i64 op, .int .u64 (wd st 0 64 : Nat), .int .u64 (wd st 64 64 : Nat), .int .u64 (wd st 128 64 : Nat), .int .u64 (wd st 192 64 : Nat), .int .i64 lo, .int .i64 hi, .int .i64 g, sv]
def FV (w : World) (S : Nat → Prop) : F → List Value → Prop
  | .nil, xs => xs = []
  | .cons o s l h g a r, xs => ∃ sv ys zs, xs = rowV o s l h g sv ++ ys ∧ (∃ ad cap, sv = .slice ad a.len cap ∧ a.len ≤ cap ∧ FV w S a zs ∧ (a.len = 0 ∨ ∃ b i, ad = some ⟨b, i, none⟩ ∧ S b ∧ b < w.heap.size ∧ ∀ j u, zs[j]? = some u → w.cell? ⟨b, i + j, none⟩ = some u)) ∧ FV w S r ys
def SV (w : World) (S : Nat → Prop) (a : F) (sv : Value) : Prop := ∃ zs ad cap, sv = .slice ad a.len cap ∧ a.len ≤ cap ∧ FV w S a zs ∧ (a.len = 0 ∨ ∃ b i, ad = some ⟨b, i, none⟩ ∧ S b ∧ b < w.heap.size ∧ ∀ j u, zs[j]? = some u → w.cell? ⟨b, i + j, none⟩ = some u)
def TV (w : World) (S : Nat → Prop) (t : TN) (v : Value) : Prop := ∃ sv, v = .agg (rowV t.op t.st t.lo t.hi t.g sv).toArray ∧ SV w S t.args sv
theorem FV.cons {w : World} {S : Nat → Prop} {o l h g : Int} {s : Nat → Bool} {a r : F} {xs : List Value} : FV w S (.cons o s l h g a r) xs ↔ ∃ sv ys, xs = rowV o s l h g sv ++ ys ∧ SV w S a sv ∧ FV w S r ys := by
  constructor
  · rintro ⟨sv, ys, zs, e, ⟨ad, cap, h1, h2, h3, h4⟩, h5⟩
    exact ⟨sv, ys, e, ⟨zs, ad, cap, h1, h2, h3, h4⟩, h5⟩
  · rintro ⟨sv, ys, e, ⟨zs, ad, cap, h1, h2, h3, h4⟩, h5⟩
    exact ⟨sv, ys, zs, e, ⟨ad, cap, h1, h2, h3, h4⟩, h5⟩
theorem SV.nil (w : World) (S : Nat → Prop) : SV w S .nil (.slice none 0 0) := ⟨[], none, 0, rfl, Nat.le_refl _, rfl, .inl rfl⟩
theorem TV.leaf (w : World) (S : Nat → Prop) (o l h g : Int) (s : Nat → Bool) : TV w S ⟨o, s, l, h, g, .nil⟩ (.agg #[.int .i64 o, .int .u64 (wd s 0 64 : Nat), .int .u64 (wd s 64 64 : Nat), .int .u64 (wd s 128 64 : Nat), .int .u64 (wd s 192 64 : Nat), .int .i64 l, .int .i64 h, .int .i64 g, .slice none 0 0]) := ⟨_, rfl, .nil w S⟩
def Afar (S T : Nat → Prop) (w w' : World) : Prop := w.heap.size ≤ w'.heap.size ∧ ∀ b, S b → b < w.heap.size → T b ∧ w'.heap[b]? = w.heap[b]?
theorem cell_same {w w' : World} {b i : Nat} (h : w'.heap[b]? = w.heap[b]?) : w'.cell? ⟨b, i, none⟩ = w.cell? ⟨b, i, none⟩ := by
  unfold World.cell?
  simp only [h]
theorem FV.far {w w' : World} {S T : Nat → Prop} (hf : Afar S T w w') : ∀ {f : F} {xs : List Value}, FV w S f xs → FV w' T f xs := by
  intro f
  induction f with
  | nil => intro xs h; exact h
  | cons o s l h g a r iha ihr =>
    rintro xs ⟨sv, ys, zs, e, ⟨ad, cap, h1, h2, h3, h4⟩, h5⟩
    refine ⟨sv, ys, zs, e, ⟨ad, cap, h1, h2, iha h3, ?_⟩, ihr h5⟩
    rcases h4 with h4 | ⟨b, i, h6, h7, h8, h9⟩
    · exact .inl h4
    · exact .inr ⟨b, i, h6, (hf.2 b h7 h8).1, Nat.lt_of_lt_of_le h8 hf.1, fun j u hu => (cell_same (hf.2 b h7 h8).2).trans (h9 j u hu)⟩
theorem SV.far {w w' : World} {S T : Nat → Prop} {a : F} {sv : Value} (h : SV w S a sv) (hf : Afar S T w w') : SV w' T a sv := by
  obtain ⟨zs, ad, cap, h1, h2, h3, h4⟩ := h
  refine ⟨zs, ad, cap, h1, h2, h3.far hf, ?_⟩
  rcases h4 with h4 | ⟨b, i, h6, h7, h8, h9⟩
  · exact .inl h4
  · exact .inr ⟨b, i, h6, (hf.2 b h7 h8).1, Nat.lt_of_lt_of_le h8 hf.1, fun j u hu => (cell_same (hf.2 b h7 h8).2).trans (h9 j u hu)⟩
theorem TV.far {w w' : World} {S T : Nat → Prop} {t : TN} {v : Value} (h : TV w S t v) (hf : Afar S T w w') : TV w' T t v := by
  obtain ⟨sv, e, h⟩ := h
  exact ⟨sv, e, h.far hf⟩
def Frm (n : Nat) : Nat → Prop := fun b => n ≤ b
theorem Afar.refl (S : Nat → Prop) (w : World) : Afar S S w w := ⟨Nat.le_refl _, fun _ h _ => ⟨h, rfl⟩⟩
theorem Afar.trans {S T U : Nat → Prop} {a b c : World} (h : Afar S T a b) (k : Afar T U b c) : Afar S U a c := ⟨Nat.le_trans h.1 k.1, fun g h1 h2 => ⟨(k.2 g (h.2 g h1 h2).1 (Nat.lt_of_lt_of_le h2 h.1)).1, (k.2 g (h.2 g h1 h2).1 (Nat.lt_of_lt_of_le h2 h.1)).2.trans (h.2 g h1 h2).2⟩⟩
theorem Afar.only {B n m : Nat} {w w' : World} (h : Only B w w') (hB : B < n) (hm : m ≤ n) : Afar (Frm n) (Frm m) w w' := ⟨h.size, fun b h1 h2 => ⟨Nat.le_trans hm h1, h.block b h2 (by have : n ≤ b := h1; omega)⟩⟩
theorem Afar.below {S : Nat → Prop} {w w' : World} (h : Below w.heap.size w w') : Afar S S w w' := ⟨h.size, fun b h1 h2 => ⟨h1, h.block b h2⟩⟩
theorem Afar.frm {n m : Nat} {w w' : World} (h : Below w.heap.size w w') (hm : m ≤ n) : Afar (Frm n) (Frm m) w w' := ⟨h.size, fun b h1 h2 => ⟨Nat.le_trans hm h1, h.block b h2⟩⟩
theorem FV.push {w : World} {S : Nat → Prop} {t : TN} {sv : Value} (ht : SV w S t.args sv) : ∀ {f : F} {xs : List Value}, FV w S f xs → FV w S (f.push t) (xs ++ rowV t.op t.st t.lo t.hi t.g sv) := by
  intro f
  induction f with
  | nil =>
    intro xs h
    have h : xs = [] := h
    subst h
    exact FV.cons.2 ⟨sv, [], by simp, ht, rfl⟩
  | cons o s l h g a r iha ihr =>
    intro xs hx
    obtain ⟨sv2, ys, e, h1, h2⟩ := FV.cons.1 hx
    exact FV.cons.2 ⟨sv2, ys ++ rowV t.op t.st t.lo t.hi t.g sv, by rw [e, List.append_assoc], h1, ihr h2⟩
theorem FV.len {w : World} {S : Nat → Prop} : ∀ {f : F} {xs : List Value}, FV w S f xs → xs.length = f.len * 9 := by
  intro f
  induction f with
  | nil => intro xs h; have h : xs = [] := h; subst h; rfl
  | cons o s l h g a r iha ihr =>
    intro xs hx
    obtain ⟨sv2, ys, e, h1, h2⟩ := FV.cons.1 hx
    rw [e, List.length_append, ihr h2]
    show 9 + r.len * 9 = (r.len + 1) * 9
    omega
theorem SV.own {w : World} {S : Nat → Prop} {f : F} {xs : List Value} {v : Value} {E : TypeId} {b0 : Nat} (h : FV w S f xs) (hS : ∀ g, v.ownBlock = some g → S g) (ho : w.ownsRow b0 E 9 v f.len xs) : SV w S f v := by
  obtain ⟨h1, h2⟩ := id ho
  rcases h2 with ⟨rfl, h0⟩ | ⟨g, cap, cur, rfl, hB, hg, hn, r⟩
  · exact ⟨xs, none, 0, by rw [h0], by omega, h, .inl h0⟩
  · exact ⟨xs, some ⟨g, 0, none⟩, cap, rfl, hn, h, .inr ⟨g, 0, rfl, hS g rfl, (Array.getElem?_eq_some_iff.1 hg).1, fun j u hu => by
      have := ho.cells (g := g) rfl j u hu
      rw [add_at] at this
      rw [Nat.zero_add]
      exact this⟩⟩
end Go.Proofs.YtphiaagppcbefaaGreatDoor
set_option linter.unusedVariables false
namespace Go.Proofs.YtphiaagppcbefaaGreatDoor
open Go.RowKit
theorem has_any (w : World) (B : Nat) (c : CX) (V : LV) (p : PS) (h : PM w B c V p) (k : Int) :
    Calls Tryz.prog 110 #[.pointer (some ⟨B, 0, none⟩), .int .i64 k] w fun e w' => e = .returned (.bool (flg c.fl k)) ∧ w = w' := by
  have h1 := h.pa.fl
  have h2 := h.pa.free 1
  unfold flg
  clear h
  go_enter Tryz.func110, Tryz.ntmps110
  go_wp2
  go_ret
  exact ⟨rfl, rfl⟩
theorem isDigit_rx (x : Int) (w : World) : Calls Tryz.prog 128 #[.int .i32 x] w fun e w' => e = .returned (.bool (dgT x)) ∧ w = w' := by
  by_cases h1 : 48 ≤ x
  · by_cases h2 : x ≤ 57
    · have e : dgT x = true := by unfold dgT; simp [h1, h2]
      rw [e]
      go_enter Tryz.func128, Tryz.ntmps128
      go_wp2
      go_ret
      exact ⟨rfl, rfl⟩
    · have e : dgT x = false := by unfold dgT; simp [h1, h2]
      rw [e]
      go_enter Tryz.func128, Tryz.ntmps128
      go_wp2
      go_ret
      exact ⟨rfl, rfl⟩
  · have e : dgT x = false := by unfold dgT; simp [h1]
    rw [e]
    go_enter Tryz.func128, Tryz.ntmps128
    go_wp2
    go_ret
    exact ⟨rfl, rfl⟩
set_option maxHeartbeats 4000000 in
theorem isSpecial_any (x : Int) (b : Bool) (w : World) : Calls Tryz.prog 72 #[.int .i32 x, .bool b] w fun e w' => e = .returned (.bool (spT x b)) ∧ w = w' := by
  obtain ⟨R, hR⟩ : ∃ R, spT x b = R := ⟨_, rfl⟩
  rw [hR]
  unfold spT at hR
  have HR := Lib.hid hR
  clear hR
  go_enter Tryz.func72, Tryz.ntmps72
  go_wp2
  all_goals
    go_ret
    have hr := HR.out
    refine ⟨?_, rfl⟩
    rw [← hr]
    congr 2
    clear HR hr
    simp only [beq_iff_eq, beq_eq_false_iff_ne, ne_eq] at *
    simp [*]
theorem peekAt_any (w : World) (B : Nat) (c : CX) (V : LV) (p : PS) (h : PM w B c V p) (i : Nat) (hi : i ≤ 1000) :
    Calls Tryz.prog 116 #[.pointer (some ⟨B, 0, none⟩), .int .i64 (i : Int)] w fun e w' => e = .returned (.int .i32 (pkT c.s i)) ∧ w = w' := by
  have h1 := h.pa.s
  have h2 := h.pa.free 0
  clear h
  by_cases hl : i < c.s.size
  · have e : pkT c.s i = ((c.s[i]).toNat : Int) := by unfold pkT; rw [if_pos hl, gb_at _ _ hl]
    rw [e]
    have hb : (c.s[i]).toNat < 256 := (c.s[i]).toNat_lt
    have hli : (i : Int) < c.s.size := by omega
    have hli2 : ¬ (c.s.size : Int) ≤ i := by omega
    clear e
    go_enter Tryz.func116, Tryz.ntmps116
    go_wp2
    go_ret
    exact ⟨rfl, rfl⟩
  · have e : pkT c.s i = -1 := by unfold pkT; rw [if_neg hl]
    rw [e]
    have hli2 : (c.s.size : Int) ≤ i := by omega
    clear e
    go_enter Tryz.func116, Tryz.ntmps116
    go_wp2
    go_ret
    exact ⟨rfl, rfl⟩
theorem peek_any (w : World) (B : Nat) (c : CX) (V : LV) (p : PS) (h : PM w B c V p) :
    Calls Tryz.prog 91 #[.pointer (some ⟨B, 0, none⟩)] w fun e w' => e = .returned (.int .i32 (pkT c.s p.at_)) ∧ w = w' := by
  have HP := Lib.hid (peekAt_any w B c V p h p.at_ (by have := h.at_; have := h.sz; omega))
  have h1 := h.pa.at_
  have h2 := h.pa.free 8
  clear h
  go_enter Tryz.func91, Tryz.ntmps91
  go_wp2_with (go_at_call 116; refine HP.out.mono ?_; rintro e w' ⟨rfl, rfl⟩)
  go_ret
  exact ⟨rfl, rfl⟩
end Go.Proofs.YtphiaagppcbefaaGreatDoor
