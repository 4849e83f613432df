/- RxPl, RxCap. -/
import Derived.Test.YtphiaagppcbefaaGreatDoorPk15
import Derived.Test.YtphiaagppcbefaaGreatDoorPk37
import Derived.Test.YtphiaagppcbefaaGreatDoorPk3
import Derived.Test.YtphiaagppcbefaaGreatDoorPk6
import Derived.Test.YtphiaagppcbefaaGreatDoorPk9
set_option linter.unusedVariables false
namespace Go.Proofs.YtphiaagppcbefaaGreatDoor
open Go.RowKit
def plN (n : Nat) : Bool := decide (n = 0) || decide (n = 32) || (decide (65 ≤ n) && decide (n ≤ 90)) || (decide (97 ≤ n) && decide (n ≤ 122)) || (decide (48 ≤ n) && decide (n ≤ 57))
theorem plN_is {n : Nat} (h : plN n = true) : n = 0 ∨ n = 32 ∨ (65 ≤ n ∧ n ≤ 90) ∨ (97 ≤ n ∧ n ≤ 122) ∨ (48 ≤ n ∧ n ≤ 57) := by
  simp only [plN, Bool.or_eq_true, Bool.and_eq_true, decide_eq_true_eq] at h
  omega
def PlS (s : ByteArray) : Prop := ∀ i, i < s.size → plN (gb s i).toNat = true
theorem pk_in {s : ByteArray} {i : Nat} (h : i < s.size) : pkT s i = ((gb s i).toNat : Int) := by unfold pkT; rw [if_pos h]
theorem pk_out {s : ByteArray} {i : Nat} (h : s.size ≤ i) : pkT s i = -1 := by unfold pkT; rw [if_neg (by omega)]
theorem op_plx {c : CX} {p : PS} {n : Nat} (h : plN n = true) : opT c p (n : Int) = false := by
  have h := plN_is h
  unfold opT
  rw [if_neg (by omega), if_neg (by omega), if_neg (by omega), if_neg (by omega)]
  unfold spT
  rw [if_neg (by omega), if_neg (by omega)]
theorem tok_plx {c : CX} (hp : PlS c.s) (p : PS) (h : p.at_ < c.s.size) : tokT c p = (-2, ((gb c.s p.at_).toNat : Int), 1) := by
  have hb := hp p.at_ h
  have hn := plN_is hb
  unfold tokT
  rw [pk_in h]
  generalize (gb c.s p.at_).toNat = n at hb hn
  rw [if_neg (by omega), if_neg (by omega), op_plx hb, if_neg (by decide)]
theorem tk_out {c : CX} (p : PS) (h : c.s.size ≤ p.at_) : tokT c p = (-1, 0, 1) := by
  unfold tokT
  rw [pk_out h, if_pos rfl]
theorem kd_plx {c : CX} (hp : PlS c.s) (p : PS) : kdT c p = -2 ∨ kdT c p = -1 := by
  by_cases h : p.at_ < c.s.size
  · left; unfold kdT; rw [tok_plx hp p h]
  · right; unfold kdT; rw [tk_out p (by omega)]
theorem suf_plx {c : CX} (hp : PlS c.s) (t : TN) (p : PS) : sufT c t p = (t, p) := by
  have h := kd_plx hp p
  unfold sufT
  rw [if_neg (by omega), if_neg (by omega), if_neg (by omega), if_neg (by omega)]
def byS (c : CX) (i : Nat) : Nat → Bool := foldT c (between (gb c.s i).toNat (gb c.s i).toNat)
theorem pie_plx {c : CX} (hp : PlS c.s) (grp : PS → TN × PS) (p : PS) (h : p.at_ < c.s.size) : pieW c grp p = (setR (byS c p.at_), p.to (p.at_ + 1)) := by
  have ht := tok_plx hp p h
  have hk : kdT c p = -2 := by unfold kdT; rw [ht]
  have hv : vlT c p = ((gb c.s p.at_).toNat : Int) := by unfold vlT; rw [ht]
  have hz : pastT c p = p.to (p.at_ + 1) := by unfold pastT szT; rw [ht]
  unfold pieW
  rw [if_neg (by omega), if_neg (by omega), if_neg (by omega), if_neg (by omega), if_neg (by omega), if_pos hk, suf_plx hp, hv, hz, Int.toNat_natCast]
  rfl
theorem mor_plx {c : CX} (hp : PlS c.s) (p : PS) : morB c p = (decide (p.at_ < c.s.size), p) := by
  unfold morB
  by_cases h : p.at_ < c.s.size
  · have hk : kdT c p = -2 := by unfold kdT; rw [tok_plx hp p h]
    rw [if_neg (by omega), if_neg (by omega), decide_eq_true h]
  · have hk : kdT c p = -1 := by unfold kdT; rw [tk_out p (by omega)]
    rw [if_pos (.inl hk), decide_eq_false h]
def plF (c : CX) : Nat → F
  | 0 => .nil
  | k + 1 => (plF c k).push (setR (byS c k))
theorem plF_len (c : CX) : ∀ k, (plF c k).len = k
  | 0 => rfl
  | k + 1 => by
    show ((plF c k).push _).len = k + 1
    rw [F.len_push, plF_len c k]
theorem nth_push (t : TN) : ∀ (f : F) (i : Nat), (f.push t).nth i = if i < f.len then f.nth i else if i = f.len then t else T0
  | .nil, 0 => rfl
  | .nil, i + 1 => by
    rw [if_neg (by show ¬ i + 1 < 0; omega), if_neg (by show ¬ i + 1 = 0; omega)]
    rfl
  | .cons o s l h g a r, 0 => by
    rw [if_pos (by show 0 < r.len + 1; omega)]
    rfl
  | .cons o s l h g a r, i + 1 => by
    show (r.push t).nth i = if i + 1 < r.len + 1 then r.nth i else if i + 1 = r.len + 1 then t else T0
    rw [nth_push t r i]
    by_cases h1 : i < r.len
    · rw [if_pos h1, if_pos (by omega)]
    · rw [if_neg h1, if_neg (show ¬ i + 1 < r.len + 1 by omega)]
      by_cases h2 : i = r.len
      · rw [if_pos h2, if_pos (show i + 1 = r.len + 1 by omega)]
      · rw [if_neg h2, if_neg (show ¬ i + 1 = r.len + 1 by omega)]
theorem plF_nth (c : CX) : ∀ (k i : Nat), i < k → (plF c k).nth i = setR (byS c i)
  | 0, i, h => by omega
  | k + 1, i, h => by
    show ((plF c k).push _).nth i = _
    rw [nth_push, plF_len]
    by_cases h1 : i < k
    · rw [if_pos h1, plF_nth c k i h1]
    · rw [if_neg h1, if_pos (by omega)]
      obtain rfl : i = k := by omega
      rfl
theorem lv_plF (c : CX) : ∀ k, lvF (plF c k) ≤ 1
  | 0 => Nat.zero_le _
  | k + 1 => by
    show lvF ((plF c k).push _) ≤ 1
    rw [lv_push, lv_set]
    have := lv_plF c k
    omega
theorem lop_plx {c : CX} (hp : PlS c.s) (grp : PS → TN × PS) (p : PS) : ∀ (n k : Nat), k ≤ c.s.size → c.s.size < n + k → lopT (morB c) (pieW c grp) n (plF c k) (p.to k) = (plF c c.s.size, p.to c.s.size)
  | 0, k, h1, h2 => by omega
  | n + 1, k, h1, h2 => by
    unfold lopT
    rw [mor_plx hp]
    by_cases h : k < c.s.size
    · rw [if_pos (by simpa using h)]
      show lopT (morB c) (pieW c grp) n ((plF c k).push (pieW c grp (p.to k)).1) (pieW c grp (p.to k)).2 = _
      rw [pie_plx hp grp (p.to k) h]
      exact lop_plx hp grp p n (k + 1) (by omega) (by omega)
    · rw [if_neg (by simpa using h)]
      obtain rfl : k = c.s.size := by omega
      rfl
theorem oneT_many (op : Int) (f : F) (h : 2 ≤ f.len) : oneT op f = ⟨op, noSet, 0, 0, 0, f⟩ := by
  cases f with
  | nil => exact absurd h (by decide)
  | cons o s l hh g a r =>
    cases r with
    | nil => exact absurd h (by show ¬ 2 ≤ 1; decide)
    | cons _ _ _ _ _ _ _ => rfl
theorem bra_plx {c : CX} (hp : PlS c.s) (h2 : 2 ≤ c.s.size) (grp : PS → TN × PS) : braW c grp PS0 = (⟨3, noSet, 0, 0, 0, plF c c.s.size⟩, PS0.to c.s.size) := by
  unfold braW joiT
  have h1 : pieW c grp PS0 = (setR (byS c 0), PS0.to 1) := pie_plx hp grp PS0 (by show 0 < _; omega)
  have hl := lop_plx hp grp PS0 (c.s.size + 1) 1 (by omega) (by omega)
  rw [h1]
  show (oneT 3 (lopT (morB c) (pieW c grp) (c.s.size + 1) (plF c 1) (PS0.to 1)).1, (lopT (morB c) (pieW c grp) (c.s.size + 1) (plF c 1) (PS0.to 1)).2) = _
  rw [hl, oneT_many 3 _ (by rw [plF_len]; exact h2)]
theorem uni_plx {c : CX} (hp : PlS c.s) (h2 : 2 ≤ c.s.size) (grp : PS → TN × PS) : uniW c grp PS0 = (⟨3, noSet, 0, 0, 0, plF c c.s.size⟩, PS0.to c.s.size) := by
  unfold uniW joiT
  rw [bra_plx hp h2]
  have ha : accT c 124 (PS0.to c.s.size) = (false, PS0.to c.s.size) := by
    unfold accT kdT
    rw [tk_out _ (Nat.le_refl _), if_neg (by decide)]
  show (oneT 4 (lopT (accT c 124) (braW c grp) (c.s.size + 1) _ (PS0.to c.s.size)).1, (lopT (accT c 124) (braW c grp) (c.s.size + 1) _ (PS0.to c.s.size)).2) = _
  unfold lopT
  rw [ha]
  rfl
theorem par_plx {c : CX} (hp : PlS c.s) (h2 : 2 ≤ c.s.size) (h3 : c.s.size ≤ 256) : parT c = (⟨3, noSet, 0, 0, 0, plF c c.s.size⟩, 0, 0) := by
  unfold parT
  rw [if_neg (by omega), if_neg (by omega), uni_plx hp h2]
  have hl := lv_plF c c.s.size
  show (if (0 : Int) ≠ 0 then _ else if 32 < lvF (plF c c.s.size) + 1 then _ else _) = _
  rw [if_neg (by decide), if_neg (by omega)]
structure Cap (s u : ByteArray) : Prop where
  size : u.size = s.size
  up : ∀ i, i < s.size → gb u i = upC (gb s i).toNat
  nb : ∀ i, i < s.size → (gb s i).toNat ≠ 92 ∧ (gb s i).toNat ≠ 91
def upI (x : Int) : Int := if 97 ≤ x ∧ x ≤ 122 then x - 32 else x
theorem up_nat (b : UInt8) : ((upC b.toNat).toNat : Int) = upI (b.toNat : Int) := by
  have hb := b.toNat_lt
  unfold upI
  by_cases h : 97 ≤ b.toNat ∧ b.toNat ≤ 122
  · rw [upC_yes _ h.1 h.2, if_pos (by omega)]
  · rw [upC_no _ h (by omega), if_neg (by omega)]
theorem Cap.pk {s u : ByteArray} (h : Cap s u) (i : Nat) : pkT u i = upI (pkT s i) := by
  by_cases hi : i < s.size
  · rw [pk_in hi, pk_in (by rw [h.size]; exact hi), h.up i hi, up_nat]
  · rw [pk_out (s := s) (by omega), pk_out (s := u) (by rw [h.size]; omega)]
    rfl
theorem Cap.no {s u : ByteArray} (h : Cap s u) (i : Nat) : pkT s i ≠ 92 ∧ pkT s i ≠ 91 := by
  by_cases hi : i < s.size
  · have := h.nb i hi
    rw [pk_in hi]
    omega
  · rw [pk_out (by omega)]
    decide
def nlI (k : Int) : Prop := k < 65 ∨ (90 < k ∧ k < 97) ∨ 122 < k
theorem up_iff {x k : Int} (hk : nlI k) : upI x = k ↔ x = k := by
  unfold nlI at hk
  unfold upI
  split <;> omega
theorem Cap.is {s u : ByteArray} (h : Cap s u) (i : Nat) {k : Int} (hk : nlI k) : pkT u i = k ↔ pkT s i = k := by rw [h.pk, up_iff hk]
theorem dg_up (x : Int) : dgT (upI x) = dgT x := by
  unfold dgT upI
  split
  · rw [decide_eq_true (show (48 : Int) ≤ x - 32 by omega), decide_eq_true (show (48 : Int) ≤ x by omega), decide_eq_false (show ¬ x - 32 ≤ 57 by omega), decide_eq_false (show ¬ x ≤ 57 by omega)]
  · rfl
theorem gb_size {s : ByteArray} {i : Nat} (h : s.size ≤ i) : gb s i = 0 := by
  unfold gb
  rw [Array.getElem?_eq_none (by exact h)]
  rfl
theorem Cap.g94 {s u : ByteArray} (h : Cap s u) (i : Nat) : (gb u i = 94) ↔ (gb s i = 94) := by
  by_cases hi : i < s.size
  · have h1 := h.is i (k := 94) (by unfold nlI; omega)
    rw [pk_in hi, pk_in (by rw [h.size]; exact hi)] at h1
    have e : ∀ b : UInt8, b = 94 ↔ ((b.toNat : Int) = 94) := fun b => by
      rw [← UInt8.toNat_inj]
      show b.toNat = 94 ↔ _
      omega
    rw [e, e]
    exact h1
  · rw [gb_size (s := s) (by omega), gb_size (s := u) (by rw [h.size]; omega)]
theorem up_sp (x : Int) (e : Bool) : spT (upI x) e = spT x e := by
  unfold upI
  split
  · rename_i h
    unfold spT
    rw [if_neg (by omega), if_neg (by omega), if_neg (by omega), if_neg (by omega)]
  · rfl
section
variable {s u : ByteArray} {fl : Int} {L : Loc}
theorem cap_as (h : Cap s u) (p : PS) : asT ⟨u, fl, L⟩ p = asT ⟨s, fl, L⟩ p := by
  unfold asT
  show (_ || (_ && decide (gb u p.st = 94))) = (_ || (_ && decide (gb s p.st = 94)))
  rw [decide_eq_decide.2 (h.g94 p.st)]
theorem cap_op (h : Cap s u) (p : PS) (x : Int) : opT ⟨u, fl, L⟩ p (upI x) = opT ⟨s, fl, L⟩ p x := by
  have i1 : ∀ k, nlI k → (upI x = k ↔ x = k) := fun k hk => up_iff hk
  have a93 := i1 93 (by unfold nlI; omega)
  have a125 := i1 125 (by unfold nlI; omega)
  have a42 := i1 42 (by unfold nlI; omega)
  have a94 := i1 94 (by unfold nlI; omega)
  have a36 := i1 36 (by unfold nlI; omega)
  have p92 := h.is (p.at_ + 1) (k := 92) (by unfold nlI; omega)
  have p41 := h.is (p.at_ + 2) (k := 41) (by unfold nlI; omega)
  have q92 : decide (pkT u (p.at_ + 1) = 92) = decide (pkT s (p.at_ + 1) = 92) := decide_eq_decide.2 p92
  have q41 : decide (pkT u (p.at_ + 2) = 41) = decide (pkT s (p.at_ + 2) = 41) := decide_eq_decide.2 p41
  unfold opT
  rw [cap_as h, up_sp]
  show (if upI x = 93 ∨ upI x = 125 then false else if upI x = 42 ∧ _ then _ else if upI x = 94 ∧ _ then _ else if upI x = 36 ∧ _ then (decide (p.at_ + 1 = u.size) || (decide (pkT u (p.at_ + 1) = 92) && decide (pkT u (p.at_ + 2) = 41))) else _) = _
  rw [q92, q41, h.size]
  simp only [a93, a125, a42, a94, a36]
theorem cap_tok (h : Cap s u) (p : PS) : tokT ⟨u, fl, L⟩ p = (kdT ⟨s, fl, L⟩ p, (if kdT ⟨s, fl, L⟩ p = -2 then upI (vlT ⟨s, fl, L⟩ p) else vlT ⟨s, fl, L⟩ p), szT ⟨s, fl, L⟩ p) ∧ kdT ⟨s, fl, L⟩ p ≠ -3 ∧ kdT ⟨s, fl, L⟩ p ≠ 91 ∧ (kdT ⟨s, fl, L⟩ p = -2 → 0 ≤ vlT ⟨s, fl, L⟩ p ∧ vlT ⟨s, fl, L⟩ p < 256) := by
  have hn := h.no p.at_
  have hr := pkT_range s p.at_
  have i1 := h.is p.at_ (k := -1) (by unfold nlI; omega)
  have i2 := h.is p.at_ (k := 92) (by unfold nlI; omega)
  unfold kdT vlT szT tokT
  show ((if pkT u p.at_ = -1 then _ else if pkT u p.at_ = 92 then _ else if opT ⟨u, fl, L⟩ p (pkT u p.at_) = true then _ else _) = _) ∧ _
  dsimp only
  by_cases h1 : pkT s p.at_ = -1
  · rw [if_pos (i1.2 h1), if_pos h1]
    exact ⟨rfl, by decide, by decide, fun h => absurd h (by decide)⟩
  · rw [if_neg (fun x => h1 (i1.1 x)), if_neg h1, if_neg (fun x => hn.1 (i2.1 x)), if_neg hn.1, h.pk, cap_op h]
    by_cases h2 : opT ⟨s, fl, L⟩ p (pkT s p.at_) = true
    · rw [if_pos h2, if_pos h2]
      have hne : pkT s p.at_ ≠ -2 := by omega
      have hup : upI (pkT s p.at_) = pkT s p.at_ := by
        unfold upI
        split
        · rename_i hh
          exfalso
          revert h2
          unfold opT
          rw [if_neg (by omega), if_neg (by omega), if_neg (by omega), if_neg (by omega)]
          unfold spT
          rw [if_neg (by omega), if_neg (by omega)]
          decide
        · rfl
      rw [hup]
      exact ⟨by rw [if_neg hne], by omega, hn.2, fun h => absurd h hne⟩
    · rw [if_neg h2, if_neg h2]
      refine ⟨by rw [if_pos rfl], (by decide : (-2 : Int) ≠ -3), (by decide : (-2 : Int) ≠ 91), fun _ => ?_⟩
      show 0 ≤ pkT s p.at_ ∧ pkT s p.at_ < 256
      omega
end
end Go.Proofs.YtphiaagppcbefaaGreatDoor
set_option linter.unusedVariables false
namespace Go.Proofs.YtphiaagppcbefaaGreatDoor
open Go.RowKit
theorem ext_data (s : ByteArray) (a b : Nat) : (s.extract a b).data.toList = (s.data.toList.drop a).take (b - a) := by
  simp [ByteArray.data_extract, Array.toList_extract, List.extract_eq_take_drop]
theorem gb_list (s : ByteArray) (i : Nat) : s.data.toList[i]? = if i < s.size then some (gb s i) else none := by
  split
  · rename_i h
    rw [gb_at s i h, Array.getElem?_toList, Array.getElem?_eq_getElem (by exact h)]
    rfl
  · rename_i h
    rw [Array.getElem?_toList, Array.getElem?_eq_none (by exact Nat.le_of_not_lt h)]
theorem ext_same {s u : ByteArray} (hz : u.size = s.size) (a b : Nat) (h : ∀ j, a ≤ j → j < b → j < s.size → gb u j = gb s j) : (u.extract a b).data.toList = (s.extract a b).data.toList := by
  rw [ext_data, ext_data]
  apply List.ext_getElem?
  intro j
  rw [List.getElem?_take, List.getElem?_take, List.getElem?_drop, List.getElem?_drop, gb_list, gb_list, hz]
  by_cases hj : j < b - a
  · rw [if_pos hj, if_pos hj]
    by_cases h2 : a + j < s.size
    · rw [if_pos h2, if_pos h2, h (a + j) (by omega) (by omega) h2]
    · rw [if_neg h2, if_neg h2]
  · rw [if_neg hj, if_neg hj]
theorem gb_low : ∀ n, n < 256 → gb Ldef.lower n = lowC n := by decide +kernel
theorem gb_upp : ∀ n, n < 256 → gb Ldef.upper n = upC n := by decide +kernel
theorem el_one (n : Nat) (h : n < 256) : el (between n n) 256 = [n] := by
  have h1 : el (between n n) n = [] := by
    have := el_none (between n n) 0 n (fun k _ hk => by unfold between; rw [decide_eq_false (show ¬ n ≤ k by omega)]; rfl)
    rw [Nat.zero_add] at this
    rw [this]
    rfl
  have h2 : el (between n n) (n + 1) = [n] := by
    rw [el_succ, h1, if_pos (by unfold between; simp)]
    rfl
  have h3 := el_none (between n n) (n + 1) (255 - n) (fun k hk _ => by unfold between; rw [decide_eq_false (show ¬ k ≤ n by omega)]; exact Bool.and_false _)
  rw [show n + 1 + (255 - n) = 256 by omega] at h3
  rw [h3, h2]
theorem ofNat_lt {n : Nat} (h : n < 256) : (UInt8.ofNat n).toNat = n := by rw [UInt8.toNat_ofNat']; omega
theorem fold_def (c : CX) (hL : vld c.L = Ldef) (hf : flg c.fl 2 = true) (n : Nat) (h : n < 256) : foldT c (between n n) = fun x => (decide (n ≤ x) && decide (x ≤ n)) || (x == (lowC n).toNat || (x == (upC n).toNat || false)) := by
  unfold foldT
  rw [if_pos hf, hL, el_one n h]
  funext x
  show (between n n x || ([gb Ldef.lower (UInt8.ofNat n).toNat, gb Ldef.upper (UInt8.ofNat n).toNat].any fun b => x == b.toNat)) = _
  rw [ofNat_lt h, gb_low n h, gb_upp n h]
  rfl
theorem low_nat (n : Nat) (h : n < 256) : (lowC n).toNat = if 65 ≤ n ∧ n ≤ 90 then n + 32 else n := by
  split
  · rename_i hh
    have := lowC_yes n hh.1 hh.2
    omega
  · rename_i hh
    have := lowC_no n hh h
    omega
theorem upp_nat (n : Nat) (h : n < 256) : (upC n).toNat = if 97 ≤ n ∧ n ≤ 122 then n - 32 else n := by
  split
  · rename_i hh
    have := upC_yes n hh.1 hh.2
    omega
  · rename_i hh
    have := upC_no n hh h
    omega
theorem fold_up {c d : CX} (hL : vld c.L = Ldef) (hf : flg c.fl 2 = true) (hd : d.L = c.L) (hdf : d.fl = c.fl) (v : Int) (h1 : 0 ≤ v) (h2 : v < 256) : foldT d (between (upI v).toNat (upI v).toNat) = foldT c (between v.toNat v.toNat) := by
  obtain ⟨n, rfl⟩ : ∃ n : Nat, v = n := ⟨v.toNat, by omega⟩
  have hn : n < 256 := by omega
  have e : (upI (n : Int)).toNat = if 97 ≤ n ∧ n ≤ 122 then n - 32 else n := by
    unfold upI
    split <;> split <;> omega
  rw [e, Int.toNat_natCast, fold_def c hL hf n hn, fold_def d (by rw [hd]; exact hL) (by rw [hdf]; exact hf) _ (by split <;> omega)]
  funext x
  rw [low_nat n hn, upp_nat n hn, low_nat _ (by split <;> omega), upp_nat _ (by split <;> omega)]
  rw [Bool.eq_iff_iff]
  simp only [Bool.or_eq_true, Bool.and_eq_true, decide_eq_true_eq, beq_iff_eq, Bool.false_eq_true, or_false]
  (repeat' split) <;> omega
section
variable {s u : ByteArray} {fl : Int} {L : Loc}
theorem cap_kd (h : Cap s u) (p : PS) : kdT ⟨u, fl, L⟩ p = kdT ⟨s, fl, L⟩ p := by
  show (tokT ⟨u, fl, L⟩ p).1 = _
  rw [(cap_tok h p).1]
theorem cap_past (h : Cap s u) (p : PS) : pastT ⟨u, fl, L⟩ p = pastT ⟨s, fl, L⟩ p := by
  show p.to (p.at_ + (tokT ⟨u, fl, L⟩ p).2.2) = _
  rw [(cap_tok h p).1]
theorem cap_fail (h : Cap s u) (p : PS) (e : Int) (i : Nat) : failT ⟨u, fl, L⟩ p e i = failT ⟨s, fl, L⟩ p e i := by
  show (if p.err = 0 then { p with err := e, ea := i, at_ := u.size } else { p with at_ := u.size }) = _
  rw [h.size]
  rfl
theorem cap_unex (h : Cap s u) (p : PS) : unexT ⟨u, fl, L⟩ p = unexT ⟨s, fl, L⟩ p := by
  show failT ⟨u, fl, L⟩ p 1 (p.at_ + (tokT ⟨u, fl, L⟩ p).2.2 - 1) = _
  rw [(cap_tok h p).1, cap_fail h]
  rfl
theorem cap_acc (h : Cap s u) (k : Int) (p : PS) : accT ⟨u, fl, L⟩ k p = accT ⟨s, fl, L⟩ k p := by
  unfold accT
  rw [cap_kd h, cap_past h]
theorem cap_exp (h : Cap s u) (x : Int) (hx : nlI x) (p : PS) : expT ⟨u, fl, L⟩ x p = expT ⟨s, fl, L⟩ x p := by
  show (if pkT u p.at_ = x then p.to (p.at_ + 1) else failT ⟨u, fl, L⟩ p 1 p.at_) = if pkT s p.at_ = x then p.to (p.at_ + 1) else failT ⟨s, fl, L⟩ p 1 p.at_
  simp only [h.is p.at_ hx, cap_fail h]
theorem cap_dg (h : Cap s u) (i : Nat) : dgT (pkT u i) = dgT (pkT s i) := by rw [h.pk, dg_up]
theorem cap_dgs (h : Cap s u) : ∀ n i, dgsT u n i = dgsT s n i
  | 0, i => rfl
  | n + 1, i => by
    unfold dgsT
    rw [cap_dg h, cap_dgs h n (i + 1)]
theorem cap_numE (h : Cap s u) (p : PS) : numE ⟨u, fl, L⟩ p = numE ⟨s, fl, L⟩ p := by
  show (if pkT u p.at_ = 48 then p.at_ + 1 else dgsT u u.size p.at_) = if pkT s p.at_ = 48 then p.at_ + 1 else dgsT s s.size p.at_
  simp only [h.is p.at_ (k := 48) (by unfold nlI; omega), cap_dgs h, h.size]
theorem dgs_dig (s : ByteArray) : ∀ (n i j : Nat), i ≤ j → j < dgsT s n i → dgT (pkT s j) = true
  | 0, i, j, h1, h2 => by
    have h2 : j < i := h2
    omega
  | n + 1, i, j, h1, h2 => by
    unfold dgsT at h2
    by_cases hd : dgT (pkT s i) = true
    · rw [if_pos hd] at h2
      by_cases e : j = i
      · rw [e]; exact hd
      · exact dgs_dig s n (i + 1) j (by omega) h2
    · rw [if_neg hd] at h2
      omega
theorem cap_digit (h : Cap s u) (j : Nat) (hj : j < s.size) (hd : dgT (pkT s j) = true) : gb u j = gb s j := by
  rw [h.up j hj]
  rw [pk_in hj] at hd
  have hb := (gb s j).toNat_lt
  have : 48 ≤ (gb s j).toNat ∧ (gb s j).toNat ≤ 57 := by
    simp only [dgT, Bool.and_eq_true, decide_eq_true_eq] at hd
    omega
  rw [← UInt8.toNat_inj, upp_nat _ (by omega), if_neg (by omega)]
theorem cap_numW (h : Cap s u) (p : PS) : numW ⟨u, fl, L⟩ p = numW ⟨s, fl, L⟩ p := by
  unfold numW
  rw [cap_numE h]
  refine ext_same h.size _ _ fun j h1 h2 h3 => cap_digit h j h3 ?_
  unfold numE at h2
  by_cases h4 : pkT s p.at_ = 48
  · rw [if_pos h4] at h2
    obtain rfl : j = p.at_ := by omega
    rw [h4]
    decide
  · rw [if_neg h4] at h2
    exact dgs_dig s _ _ j h1 h2
theorem cap_nmr (h : Cap s u) (least : Int) (p : PS) : nmrT ⟨u, fl, L⟩ least p = nmrT ⟨s, fl, L⟩ least p := by
  unfold nmrT
  rw [cap_numW h, cap_numE h]
  simp only [cap_dg h, cap_fail h]
theorem cap_bndE (h : Cap s u) (p : PS) : bndE ⟨u, fl, L⟩ p = bndE ⟨s, fl, L⟩ p := by
  unfold bndE
  rw [cap_exp h 125 (by unfold nlI; omega), cap_exp h 92 (by unfold nlI; omega)]
theorem cap_bnd (h : Cap s u) (p : PS) : bndT ⟨u, fl, L⟩ p = bndT ⟨s, fl, L⟩ p := by
  unfold bndT
  simp only [cap_nmr h, cap_bndE h, cap_dg h, h.is _ (k := 44) (by unfold nlI; omega)]
theorem cap_suf (h : Cap s u) (t : TN) (p : PS) : sufT ⟨u, fl, L⟩ t p = sufT ⟨s, fl, L⟩ t p := by
  unfold sufT
  rw [cap_kd h, cap_past h, cap_bnd h]
theorem cap_pie (h : Cap s u) (hL : vld L = Ldef) (hf : flg fl 2 = true) (grp : PS → TN × PS) (p : PS) : pieW ⟨u, fl, L⟩ grp p = pieW ⟨s, fl, L⟩ grp p := by
  obtain ⟨ht, h3, h91, hv⟩ := cap_tok (fl := fl) (L := L) h p
  unfold pieW
  rw [cap_kd h, cap_past h, cap_unex h]
  simp only [cap_suf h, if_neg h91, if_neg h3]
  by_cases hk : kdT ⟨s, fl, L⟩ p = -2
  · have hv2 : vlT ⟨u, fl, L⟩ p = upI (vlT ⟨s, fl, L⟩ p) := by
      show (tokT ⟨u, fl, L⟩ p).2.1 = _
      rw [ht]
      exact if_pos hk
    rw [hv2, fold_up (c := ⟨s, fl, L⟩) (d := ⟨u, fl, L⟩) hL hf rfl rfl _ (hv hk).1 (hv hk).2]
    rfl
  · simp only [if_neg hk]
    rfl
theorem cap_mor (h : Cap s u) (p : PS) : morB ⟨u, fl, L⟩ p = morB ⟨s, fl, L⟩ p := by
  unfold morB
  rw [cap_kd h]
theorem cap_bra (h : Cap s u) (hL : vld L = Ldef) (hf : flg fl 2 = true) (grp : PS → TN × PS) : braW ⟨u, fl, L⟩ grp = braW ⟨s, fl, L⟩ grp := by
  funext p
  have e1 : pieW ⟨u, fl, L⟩ grp = pieW ⟨s, fl, L⟩ grp := funext fun q => cap_pie h hL hf grp q
  have e2 : morB ⟨u, fl, L⟩ = morB ⟨s, fl, L⟩ := funext fun q => cap_mor h q
  unfold braW joiT
  rw [e1, e2]
  show (oneT 3 (lopT _ _ (u.size + 1) _ _).1, (lopT _ _ (u.size + 1) _ _).2) = _
  rw [h.size]
theorem cap_uni (h : Cap s u) (hL : vld L = Ldef) (hf : flg fl 2 = true) (grp : PS → TN × PS) : uniW ⟨u, fl, L⟩ grp = uniW ⟨s, fl, L⟩ grp := by
  funext p
  have e2 : accT ⟨u, fl, L⟩ 124 = accT ⟨s, fl, L⟩ 124 := funext fun q => cap_acc h 124 q
  unfold uniW joiT
  rw [cap_bra h hL hf, e2]
  show (oneT 4 (lopT _ _ (u.size + 1) _ _).1, (lopT _ _ (u.size + 1) _ _).2) = _
  rw [h.size]
theorem cap_ins (h : Cap s u) (hL : vld L = Ldef) (hf : flg fl 2 = true) (grp : PS → TN × PS) (p : PS) : insW ⟨u, fl, L⟩ grp p = insW ⟨s, fl, L⟩ grp p := by
  unfold insW
  rw [cap_kd h, cap_uni h hL hf]
theorem cap_gro (h : Cap s u) (hL : vld L = Ldef) (hf : flg fl 2 = true) : ∀ n, groT ⟨u, fl, L⟩ n = groT ⟨s, fl, L⟩ n
  | 0 => rfl
  | n + 1 => by
    funext p
    unfold groT
    rw [cap_gro h hL hf n]
    simp only [cap_fail h, cap_acc h, cap_ins h hL hf, cap_unex h]
theorem cap_par (h : Cap s u) (hL : vld L = Ldef) (hf : flg fl 2 = true) : parT ⟨u, fl, L⟩ = parT ⟨s, fl, L⟩ := by
  unfold parT
  rw [cap_uni h hL hf, cap_gro h hL hf]
  show (if 256 < u.size then _ else if u.size = 0 then _ else _) = _
  rw [h.size]
end
end Go.Proofs.YtphiaagppcbefaaGreatDoor
