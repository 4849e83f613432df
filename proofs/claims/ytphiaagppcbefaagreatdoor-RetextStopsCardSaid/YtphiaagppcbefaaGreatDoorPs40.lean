/- RxWd, RxTop. -/
import Derived.Test.YtphiaagppcbefaaGreatDoorPs24
import Derived.Test.YtphiaagppcbefaaGreatDoorPs34
import Derived.Test.YtphiaagppcbefaaGreatDoorPs39
set_option linter.unusedVariables false
namespace Go.Proofs.YtphiaagppcbefaaGreatDoor
open Go.RowKit
def Wd (m : Nat) (t : TN) : Prop := t.args.len ≤ m ∧ widF t.args ≤ m
theorem wd_leaf {m : Nat} {t : TN} (h : t.args = .nil) : Wd m t := by
  unfold Wd
  rw [h]
  exact ⟨Nat.zero_le _, Nat.zero_le _⟩
theorem wd_push {m : Nat} {t : TN} (ht : Wd m t) : ∀ f : F, widF f ≤ m → widF (f.push t) ≤ m
  | .nil, _ => by
    show max (max (widF t.args) t.args.len) 0 ≤ m
    have h1 := ht.1
    have h2 := ht.2
    omega
  | .cons o s l h g a r, hf => by
    have h0 : max (max (widF a) a.len) (widF r) ≤ m := hf
    have h1 := wd_push ht r (by omega)
    show max (max (widF a) a.len) (widF (r.push t)) ≤ m
    omega
theorem wd_oneT {m : Nat} (op : Int) (f : F) (h1 : f.len ≤ m) (h2 : widF f ≤ m) : Wd m (oneT op f) := by
  cases f with
  | nil => exact ⟨h1, h2⟩
  | cons o s l h g a r =>
    cases r with
    | nil =>
      have h3 : max (max (widF a) a.len) 0 ≤ m := h2
      show a.len ≤ m ∧ widF a ≤ m
      omega
    | cons _ _ _ _ _ _ _ => exact ⟨h1, h2⟩
theorem wd_rep {m : Nat} (hm : 1 ≤ m) (lo hi : Int) {t : TN} (ht : Wd m t) : Wd m (repR lo hi t) := by
  refine ⟨?_, wd_push ht .nil (Nat.zero_le _)⟩
  show (F.nil.push t).len ≤ m
  rw [F.len_push]
  exact hm
theorem wd_grp {m : Nat} (hm : 1 ≤ m) (g : Int) {t : TN} (ht : Wd m t) : Wd m (grpR g t) := by
  refine ⟨?_, wd_push ht .nil (Nat.zero_le _)⟩
  show (F.nil.push t).len ≤ m
  rw [F.len_push]
  exact hm
theorem wd_suf {m : Nat} (hm : 1 ≤ m) (c : CX) {t : TN} (p : PS) (ht : Wd m t) : Wd m (sufT c t p).1 := by
  unfold sufT
  split
  · exact wd_rep hm _ _ ht
  split
  · exact wd_rep hm _ _ ht
  split
  · exact wd_rep hm _ _ ht
  split
  · exact wd_rep hm _ _ ht
  · exact ht
theorem wd_bac {m : Nat} (c : CX) (v : Int) (p : PS) : Wd m (bacT c v p).1 := by
  unfold bacT
  split <;> exact wd_leaf rfl
theorem wd_lop {more : PS → Bool × PS} {step : PS → TN × PS} {m : Nat} (hs : ∀ q, Wd m (step q).1) : ∀ (n : Nat) (f : F) (p : PS), widF f ≤ m → f.len + n ≤ m → (lopT more step n f p).1.len ≤ m ∧ widF (lopT more step n f p).1 ≤ m
  | 0, f, p, h, hl => ⟨hl, h⟩
  | n + 1, f, p, h, hl => by
    unfold lopT
    split
    · refine wd_lop hs n _ _ (wd_push (hs _) f h) ?_
      rw [F.len_push]
      omega
    · exact ⟨by show f.len ≤ m; omega, h⟩
theorem wd_joi {c : CX} {more : PS → Bool × PS} {step : PS → TN × PS} {m : Nat} (hm : c.s.size + 2 ≤ m) (hs : ∀ q, Wd m (step q).1) (op : Int) (p : PS) : Wd m (joiT c op more step p).1 := by
  unfold joiT
  have h1 : widF (F.nil.push (step p).1) ≤ m := wd_push (hs p) .nil (Nat.zero_le _)
  have h2 := wd_lop (more := more) hs (c.s.size + 1) (F.nil.push (step p).1) (step p).2 h1 (by rw [F.len_push]; show 0 + 1 + (c.s.size + 1) ≤ m; omega)
  exact wd_oneT op _ h2.1 h2.2
theorem wd_pie {c : CX} {grp : PS → TN × PS} {m : Nat} (hm : 1 ≤ m) (hg : ∀ q, Wd m (grp q).1) (p : PS) : Wd m (pieW c grp p).1 := by
  unfold pieW
  split
  · exact wd_leaf rfl
  split
  · exact wd_leaf rfl
  split
  · exact wd_suf hm c _ (hg p)
  split
  · exact wd_suf hm c _ (wd_leaf rfl)
  split
  · exact wd_suf hm c _ (wd_leaf rfl)
  split
  · exact wd_suf hm c _ (wd_leaf rfl)
  split
  · exact wd_suf hm c _ (wd_bac c _ p)
  · exact wd_leaf rfl
theorem wd_uni {c : CX} {grp : PS → TN × PS} {m : Nat} (hm : c.s.size + 2 ≤ m) (hg : ∀ q, Wd m (grp q).1) (p : PS) : Wd m (uniW c grp p).1 :=
  wd_joi hm (fun q => wd_joi hm (fun q2 => wd_pie (by omega) hg q2) 3 q) 4 p
theorem wd_gro {c : CX} {m : Nat} (hm : c.s.size + 2 ≤ m) : ∀ (n : Nat) (p : PS), Wd m (groT c n p).1
  | 0, p => wd_leaf rfl
  | n + 1, p => by
    unfold groT
    split
    · exact wd_leaf rfl
    · simp only
      refine wd_grp (by omega) _ ?_
      unfold insW
      split
      · exact wd_leaf rfl
      · exact wd_uni hm (fun q => wd_gro hm n q) _
theorem wd_all {c : CX} {m : Nat} (hm : c.s.size + 2 ≤ m) (p : PS) : Wd m (uniW c (groT c 10) p).1 := wd_uni hm (fun q => wd_gro hm 10 q) p
end Go.Proofs.YtphiaagppcbefaaGreatDoor
set_option linter.unusedVariables false
namespace Go.Proofs.YtphiaagppcbefaaGreatDoor
open Go.RowKit
theorem union_top (W : World) (B : Nat) (c : CX) (V : LV) (h : PM W B c V PS0) :
    Calls Tryz.prog 24 #[.pointer (some ⟨B, 0, none⟩)] W (Ret W B c V (uniW c (groT c 10) PS0)) :=
  union_any_rx W B c V PS0 h 10 (groT c 10) (gro_ok c 10) (Nat.le_refl 10) (Lib.hid (all_any B c V (Lib.hid fun W q hq hk => bracket_any W B c V q hq hk) 10))
end Go.Proofs.YtphiaagppcbefaaGreatDoor
