/- RxB, RxC. -/
import Derived.Test.YtphiaagppcbefaaGreatDoorPs12
import Derived.Test.YtphiaagppcbefaaGreatDoorPs6
set_option linter.unusedVariables false
namespace Go.Proofs.YtphiaagppcbefaaGreatDoor
open Go.RowKit
theorem PM.failed {w : World} {B : Nat} {c : CX} {V : LV} {p : PS} (h : PM w B c V p) (e : Int) (i : Nat) (h0 : p.err = 0) :
    Stp w B c V (failT c p e i) (((w.setCell ⟨B, 22, none⟩ (.int .i64 e)).setCell ⟨B, 23, none⟩ (.int .i64 (i : Int))).setCell ⟨B, 8, none⟩ (.int .i64 (c.s.size : Int))) := by
  have ho : Only B w (((w.setCell ⟨B, 22, none⟩ (.int .i64 e)).setCell ⟨B, 23, none⟩ (.int .i64 (i : Int))).setCell ⟨B, 8, none⟩ (.int .i64 (c.s.size : Int))) := (((Only.refl B w).put 22 _).put 23 _).put 8 _
  unfold failT
  rw [if_pos h0]
  exact ⟨⟨((h.pa.putErr e).putEa i).putAt c.s.size, h.lk.only ho, h.sz, Nat.le_refl _, Nat.le_trans h.st h.at_, h.gr, h.opn⟩, ho⟩
theorem PM.ended {w : World} {B : Nat} {c : CX} {V : LV} {p : PS} (h : PM w B c V p) (e : Int) (i : Nat) (h0 : p.err ≠ 0) :
    Stp w B c V (failT c p e i) (w.setCell ⟨B, 8, none⟩ (.int .i64 (c.s.size : Int))) := by
  unfold failT
  rw [if_neg h0]
  exact ⟨h.putAt _ (Nat.le_refl _) (Nat.le_trans h.st h.at_), (Only.refl B w).put 8 _⟩
theorem PM.moved {w : World} {B : Nat} {c : CX} {V : LV} {p : PS} (h : PM w B c V p) (n : Nat) (h1 : n ≤ c.s.size) (h2 : p.at_ ≤ n) : Stp w B c V (p.to n) (w.setCell ⟨B, 8, none⟩ (.int .i64 (n : Int))) :=
  ⟨h.putAt n h1 (Nat.le_trans h.st h2), (Only.refl B w).put 8 _⟩
theorem PM.same {w : World} {B : Nat} {c : CX} {V : LV} {p : PS} (h : PM w B c V p) : Stp w B c V p w := ⟨h, Only.refl B w⟩
theorem Stp.trans {w w1 w2 : World} {B : Nat} {c : CX} {V : LV} {p q : PS} (h : Stp w B c V p w1) (k : Stp w1 B c V q w2) : Stp w B c V q w2 := ⟨k.1, h.2.trans k.2⟩
theorem Stp.next {w w1 w2 : World} {B : Nat} {c : CX} {V : LV} {p : PS} (h : Stp w B c V p w1) (k : Below w1.heap.size w1 w2) : Stp w B c V p w2 := ⟨h.1.below k, h.2.next k⟩
theorem Stp.drew {w w1 : World} {B : Nat} {c : CX} {V : LV} {p : PS} (h : Stp w B c V p w1) : Stp w B c V p w1.drew := ⟨h.1.drew, h.2.drew⟩
set_option maxHeartbeats 4000000 in
theorem fail_any (w : World) (B : Nat) (c : CX) (V : LV) (p : PS) (h : PM w B c V p) (e : Int) (i : Nat) :
    Calls Tryz.prog 104 #[.pointer (some ⟨B, 0, none⟩), .int .i64 e, .int .i64 (i : Int)] w fun x w' => x = .returned (.tuple #[]) ∧ Stp w B c V (failT c p e i) w' := by
  have HP := Lib.hid h
  obtain ⟨⟨x0, x1, x2, x3, x4, x5, x6, x7⟩, xf⟩ := h.pa.all
  by_cases h0 : p.err = 0
  · rw [h0] at x6
    have HE := Lib.hid (h.failed e i h0)
    clear h h0
    go_enter Tryz.func104, Tryz.ntmps104
    go_wp2
    go_end0
    exact ⟨rfl, HE.out⟩
  · have HE := Lib.hid (h.ended e i h0)
    have h0b : (p.err == 0) = false := by simpa using h0
    clear h h0
    go_enter Tryz.func104, Tryz.ntmps104
    go_wp2
    go_end0
    exact ⟨rfl, HE.out⟩
set_option maxHeartbeats 4000000 in
theorem acceptByte_any (w : World) (B : Nat) (c : CX) (V : LV) (p : PS) (h : PM w B c V p) (x : Int) (hx : 0 ≤ x) :
    Calls Tryz.prog 106 #[.pointer (some ⟨B, 0, none⟩), .int .i32 x] w fun e w' => e = .returned (.bool (acbT c x p).1) ∧ Stp w B c V (acbT c x p).2 w' := by
  have HK := Lib.hid (peek_any w B c V p h)
  obtain ⟨⟨x0, x1, x2, x3, x4, x5, x6, x7⟩, xf⟩ := h.pa.all
  unfold acbT
  by_cases hk : pkT c.s p.at_ = x
  · have hlt : p.at_ < c.s.size := by
      have h2 := hk
      unfold pkT at h2
      split at h2
      · assumption
      · omega
    have hsz := h.sz
    have hb : (p.at_ : Int) ≤ 256 := by omega
    have HE := Lib.hid (h.moved (p.at_ + 1) (by omega) (by omega))
    simp only [if_pos hk]
    rw [hk] at HK
    clear h hk
    go_enter Tryz.func106, Tryz.ntmps106
    go_wp2_with (go_at_call 91; refine HK.out.mono ?_; rintro e w' ⟨rfl, rfl⟩)
    go_ret
    exact ⟨rfl, HE.out⟩
  · have hk2 : (pkT c.s p.at_ == x) = false := by simpa using hk
    have hk3 : (pkT c.s p.at_ != x) = true := by simpa using hk
    simp only [if_neg hk]
    have HE := Lib.hid h.same
    generalize pkT c.s p.at_ = K at *
    clear h hk
    go_enter Tryz.func106, Tryz.ntmps106
    go_wp2_with (go_at_call 91; refine HK.out.mono ?_; rintro e w' ⟨rfl, rfl⟩)
    go_ret
    exact ⟨rfl, HE.out⟩
set_option maxHeartbeats 4000000 in
theorem expectByte_any (w : World) (B : Nat) (c : CX) (V : LV) (p : PS) (h : PM w B c V p) (x : Int) (hx : 0 ≤ x) :
    Calls Tryz.prog 109 #[.pointer (some ⟨B, 0, none⟩), .int .i32 x] w fun e w' => e = .returned (.tuple #[]) ∧ Stp w B c V (expT c x p) w' := by
  have HK := Lib.hid (acceptByte_any w B c V p h x hx)
  unfold expT
  unfold acbT at HK
  by_cases hk : pkT c.s p.at_ = x
  · simp only [if_pos hk] at HK ⊢
    clear h hk
    go_enter Tryz.func109, Tryz.ntmps109
    go_wp2_with (go_at_call 106; refine HK.out.mono ?_; rintro e w1 ⟨rfl, hs⟩; have HE := Lib.hid hs; clear hs)
    go_end0
    exact ⟨rfl, HE.out⟩
  · simp only [if_neg hk] at HK ⊢
    clear h hk
    go_enter Tryz.func109, Tryz.ntmps109
    go_wp2_with (first
      | (go_at_call 106; refine HK.out.mono ?_; rintro e w1 ⟨rfl, hs⟩; obtain ⟨⟨x0, x1, x2, x3, x4, x5, x6, x7⟩, xf⟩ := hs.1.pa.all; have HF := Lib.hid (fail_any w1 B c V p hs.1 1 p.at_); have HE := Lib.hid hs; clear hs)
      | (go_at_call 104; refine HF.out.mono ?_; rintro e w2 ⟨rfl, hs⟩; have HE2 := Lib.hid (HE.out.trans hs); clear hs))
    go_end0
    exact ⟨rfl, HE2.out⟩
theorem pk_lt {s : ByteArray} {i : Nat} (h : pkT s i ≠ -1) : i < s.size := by
  unfold pkT at h
  split at h
  · assumption
  · omega
theorem pk_ge {s : ByteArray} {i : Nat} (h : pkT s i ≠ -1) : 0 ≤ pkT s i ∧ pkT s i < 256 := by
  have := pkT_range s i
  omega
set_option maxHeartbeats 4000000 in
theorem anyByte_any (w : World) (B : Nat) (c : CX) (V : LV) (p : PS) (h : PM w B c V p) :
    Calls Tryz.prog 145 #[.pointer (some ⟨B, 0, none⟩)] w fun e w' => e = .returned (.int .u8 (anyT c p).1) ∧ Stp w B c V (anyT c p).2 w' := by
  have HK := Lib.hid (peek_any w B c V p h)
  obtain ⟨⟨x0, x1, x2, x3, x4, x5, x6, x7⟩, xf⟩ := h.pa.all
  unfold anyT
  by_cases hk : pkT c.s p.at_ = -1
  · simp only [if_pos hk]
    have HF := Lib.hid (fail_any w B c V p h 1 p.at_)
    rw [hk] at HK
    clear h hk
    go_enter Tryz.func145, Tryz.ntmps145
    go_wp2_with (first
      | (go_at_call 91; refine HK.out.mono ?_; rintro e w' ⟨rfl, rfl⟩)
      | (go_at_call 104; refine HF.out.mono ?_; rintro e w2 ⟨rfl, hs⟩; have HE2 := Lib.hid hs; clear hs))
    go_ret
    exact ⟨rfl, HE2.out⟩
  · simp only [if_neg hk]
    have hlt := pk_lt hk
    obtain ⟨g0, g1⟩ := pk_ge hk
    have hk2 : (pkT c.s p.at_ == -1) = false := by simpa using hk
    have hsz := h.sz
    have hb : (p.at_ : Int) ≤ 256 := by omega
    have HE := Lib.hid (h.moved (p.at_ + 1) (by omega) (by omega))
    generalize pkT c.s p.at_ = K at *
    have hz : IntKind.u8.wrap K = K := IntWalk.u8_in _ (by omega)
    clear h hk
    go_enter Tryz.func145, Tryz.ntmps145
    go_wp2_with (go_at_call 91; refine HK.out.mono ?_; rintro e w' ⟨rfl, rfl⟩)
    go_ret
    exact ⟨rfl, HE.out⟩
end Go.Proofs.YtphiaagppcbefaaGreatDoor
set_option linter.unusedVariables false
namespace Go.Proofs.YtphiaagppcbefaaGreatDoor
open Go.RowKit
theorem pk_get (s : ByteArray) (i : Nat) : pkT s i = match s.data.toList[i]? with | some c => (c.toNat : Int) | none => -1 := by
  unfold pkT gb
  by_cases h : i < s.size
  · rw [if_pos h]
    have h2 : i < s.data.toList.length := by simpa using h
    have h3 : i < s.data.size := h
    rw [List.getElem?_eq_getElem h2, Array.getElem?_eq_getElem h3]
    simp
  · rw [if_neg h]
    have h2 : s.data.toList.length ≤ i := by simpa using Nat.le_of_not_lt h
    rw [List.getElem?_eq_none h2]
theorem pk_cons {s : ByteArray} {i : Nat} {x : UInt8} {r : List UInt8} (h : s.data.toList.drop i = x :: r) : pkT s i = (x.toNat : Int) := by
  have : s.data.toList[i]? = some x := by
    have e := congrArg (fun l => l[0]?) h
    simpa [List.getElem?_drop] using e
  rw [pk_get, this]
theorem pk_nil {s : ByteArray} {i : Nat} (h : s.data.toList.drop i = []) : pkT s i = -1 := by
  have : s.data.toList[i]? = none := by
    have e := congrArg (fun l => l[0]?) h
    simpa [List.getElem?_drop] using e
  rw [pk_get, this]
theorem drop_next {l : List UInt8} {i : Nat} {x : UInt8} {r : List UInt8} (h : l.drop i = x :: r) : l.drop (i + 1) = r := by
  have e := congrArg (List.drop 1) h
  rw [List.drop_drop] at e
  simpa [Nat.add_comm] using e
theorem u8_dec (a x : UInt8) : (a == x) = decide ((x.toNat : Int) = (a.toNat : Int)) := by
  by_cases h : a = x
  · subst h; simp
  · rw [beq_eq_false_iff_ne.2 h, decide_eq_false]
    intro e
    exact h (UInt8.toNat_inj.1 (by omega))
theorem pre2 (s : ByteArray) (i : Nat) (a b : UInt8) : List.isPrefixOf [a, b] (s.extract i s.size).data.toList = (decide (pkT s i = (a.toNat : Int)) && decide (pkT s (i + 1) = (b.toNat : Int))) := by
  rw [Lib.extract_to_end s i]
  cases h : s.data.toList.drop i with
  | nil =>
    rw [pk_nil h, decide_eq_false (by omega)]
    rfl
  | cons x r =>
    rw [pk_cons h]
    have h2 := drop_next h
    cases r with
    | nil =>
      rw [pk_nil h2, decide_eq_false (p := (-1 : Int) = _) (by omega), Bool.and_false]
      simp [List.isPrefixOf]
    | cons y r =>
      rw [pk_cons h2, ← u8_dec, ← u8_dec]
      simp [List.isPrefixOf]
theorem as_empty {s : ByteArray} {a b : Nat} (h : a = b) : (s.extract a b).toList.isEmpty = true := by
  rw [ByteArray.toList_eq, Lib.extract_data]
  subst h
  simp
theorem as_full {s : ByteArray} {a b : Nat} (h : a < b) (hb : b ≤ s.size) : (s.extract a b).toList.isEmpty = false ∧ ((s.extract a b).toList == [94]) = (decide (b = a + 1) && decide (gb s a = 94)) := by
  rw [ByteArray.toList_eq, Lib.extract_data]
  have hl : a < s.data.toList.length := by simp; omega
  have hd : s.data.toList.drop a = s.data.toList[a] :: s.data.toList.drop (a + 1) := List.drop_eq_getElem_cons hl
  have hg : gb s a = s.data.toList[a] := by
    unfold gb
    rw [Array.getElem?_eq_getElem (by simpa using hl)]
    simp
  have e : (s.data.toList.take b).drop a = s.data.toList[a] :: (s.data.toList.drop (a + 1)).take (b - (a + 1)) := by
    rw [List.drop_take, hd]
    have : b - a = (b - (a + 1)) + 1 := by omega
    rw [this, List.take_succ_cons]
  rw [hg]
  first
    | rw [e]
    | (rw [← List.drop_take, e])
    | skip
  refine ⟨rfl, ?_⟩
  by_cases hx : s.data.toList[a] = 94
  · rw [hx]
    by_cases hb2 : b = a + 1
    · subst hb2
      simp
    · have hne : (s.data.toList.drop (a + 1)).take (b - (a + 1)) ≠ [] := by
        intro h0
        have := congrArg List.length h0
        simp at this
        omega
      rw [decide_eq_false hb2, Bool.false_and, beq_eq_false_iff_ne]
      intro h0
      injection h0 with _ h1
      exact hne h1
  · rw [decide_eq_false hx, Bool.and_false, beq_eq_false_iff_ne]
    intro h0
    injection h0 with h1 _
    exact hx h1
set_option maxHeartbeats 4000000 in
theorem afterStart_any (w : World) (B : Nat) (c : CX) (V : LV) (p : PS) (h : PM w B c V p) :
    Calls Tryz.prog 117 #[.pointer (some ⟨B, 0, none⟩)] w fun e w' => e = .returned (.bool (asT c p)) ∧ Below w.heap.size w w' := by
  obtain ⟨⟨x0, x1, x2, x3, x4, x5, x6, x7⟩, xf⟩ := h.pa.all
  have h1 := h.st
  have h2 := h.at_
  have h3 := h.sz
  unfold asT
  have i1 : (p.st : Int) ≤ p.at_ := by omega
  have i2 : (p.at_ : Int) ≤ c.s.size := by omega
  by_cases hl : p.st = p.at_
  · have he := as_empty (s := c.s) hl
    rw [decide_eq_true hl, Bool.true_or]
    clear h hl h1 h2 h3
    go_enter Tryz.func117, Tryz.ntmps117
    go_wp2
    go_quiet (fail)
    go_wp2
    go_ret
    exact ⟨rfl, below_drewN (Below.refl _ _) _⟩
  · obtain ⟨he, h94⟩ := as_full (s := c.s) (a := p.st) (b := p.at_) (by omega) h2
    rw [decide_eq_false hl, Bool.false_or]
    generalize (decide (p.at_ = p.st + 1) && decide (gb c.s p.st = 94)) = D at *
    clear h hl h1 h2 h3
    go_enter Tryz.func117, Tryz.ntmps117
    go_wp2
    go_quiet (fail)
    go_wp2
    go_ret
    exact ⟨rfl, below_drewN (Below.refl _ _) _⟩
end Go.Proofs.YtphiaagppcbefaaGreatDoor
