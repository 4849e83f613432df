/- RpInj, RpInjB. -/
import Derived.Test.YtbjobbkipmkndaaDoorPp26
import Derived.Test.YtbjobbkipmkndaaDoorPp20
import Derived.Test.YtbjobbkipmkndaaDoorPp28
set_option linter.unusedVariables false
set_option linter.unusedSimpArgs false
set_option maxRecDepth 100000
namespace Go.Proofs.YtbjobbkipmkndaaDoor
open Go.RowKit
def dec (m : Nat) : List UInt8 := txt m (cnt m)
theorem txt_snoc (m : Nat) : ∀ c, txt m (c + 1) = txt (m / 10) c ++ [UInt8.ofNat (48 + m % 10)]
  | 0 => by simp [txt]
  | c + 1 => by
    rw [txt_succ, txt_snoc m c, txt_succ, List.cons_append]
    congr 2
    rw [Nat.div_div_eq_div_mul, Nat.pow_succ, Nat.mul_comm 10]
theorem dec_small (m : Nat) (h : m < 10) : dec m = [UInt8.ofNat (48 + m)] := by
  unfold dec; rw [cnt_small m h]; simp [txt]; rw [Nat.mod_eq_of_lt h]
theorem dec_big (m : Nat) (h : ¬ m < 10) : dec m = dec (m / 10) ++ [UInt8.ofNat (48 + m % 10)] := by
  unfold dec; rw [cnt_big m h, txt_snoc]
theorem dec_digits (m : Nat) : allD (dec m) = true ∧ val (dec m) = -(m : Int) := by
  induction m using Nat.strongRecOn with
  | ind m ih =>
    by_cases h : m < 10
    · rw [dec_small m h]
      have hb := byte_toNat m h
      constructor
      · unfold allD; simp only [List.all_cons, List.all_nil, hb]; simp; omega
      · unfold val; simp only [List.foldl_cons, List.foldl_nil, hb]; omega
    · have hb := byte_toNat (m % 10) (by omega)
      obtain ⟨h1, h2⟩ := ih (m / 10) (by omega)
      rw [dec_big m h]
      constructor
      · rw [allD_snoc, h1, hb]; simp; omega
      · rw [val_snoc, h2, hb]; omega
theorem nt_nat (m : Nat) : nt (m : Int) = dec m := by
  unfold nt fmtS
  rw [if_neg (by omega)]
  rfl
theorem nt_inj (a b : Nat) (h : nt (a : Int) = nt (b : Int)) : a = b := by
  rw [nt_nat, nt_nat] at h
  have h1 := (dec_digits a).2
  rw [h, (dec_digits b).2] at h1
  omega
theorem nt_dig (a : Nat) : ∀ c ∈ nt (a : Int), 48 ≤ c.toNat ∧ c.toNat ≤ 57 := by
  intro c hc
  rw [nt_nat] at hc
  have h := (dec_digits a).1
  unfold allD at h
  rw [List.all_eq_true] at h
  have := h c hc
  simp at this
  exact this
theorem nt_pos (a : Nat) : ∃ c r, nt (a : Int) = c :: r ∧ 48 ≤ c.toNat ∧ c.toNat ≤ 57 := by
  cases h : nt (a : Int) with
  | nil =>
    rw [nt_nat] at h
    exfalso
    by_cases h2 : a < 10
    · rw [dec_small a h2] at h; cases h
    · rw [dec_big a h2] at h
      exact absurd h (by simp)
  | cons c r => exact ⟨c, r, rfl, nt_dig a c (by rw [h]; exact List.mem_cons_self ..)⟩
theorem cut_eq (s : UInt8) : ∀ (a b x y : List UInt8), s ∉ a → s ∉ b → a ++ s :: x = b ++ s :: y → a = b ∧ x = y
  | [], [], x, y, _, _, h => ⟨rfl, by simpa using h⟩
  | [], c :: b, x, y, _, hb, h => by
    rw [List.nil_append, List.cons_append] at h
    have := (List.cons.inj h).1
    exact absurd (by rw [this]; exact List.mem_cons_self ..) hb
  | c :: a, [], x, y, ha, _, h => by
    rw [List.nil_append, List.cons_append] at h
    have := (List.cons.inj h).1
    exact absurd (by rw [← this]; exact List.mem_cons_self ..) ha
  | c :: a, d :: b, x, y, ha, hb, h => by
    rw [List.cons_append, List.cons_append] at h
    obtain ⟨h1, h2⟩ := List.cons.inj h
    obtain ⟨h3, h4⟩ := cut_eq s a b x y (fun m => ha (List.mem_cons_of_mem _ m)) (fun m => hb (List.mem_cons_of_mem _ m)) h2
    exact ⟨by rw [h1, h3], h4⟩
theorem words_eq (s : UInt8) : ∀ (A B : List (List UInt8)), (∀ x ∈ A, s ∉ x) → (∀ x ∈ B, s ∉ x) → A.flatMap (fun x => s :: x) = B.flatMap (fun x => s :: x) → A = B
  | [], [], _, _, _ => rfl
  | [], b :: B, _, _, h => by simp at h
  | a :: A, [], _, _, h => by simp at h
  | [a], [b], _, _, h => by simp at h; rw [h]
  | [a], b :: c :: B, ha, hb, h => by
    exfalso
    simp only [List.flatMap_cons, List.flatMap_nil, List.append_nil, List.cons_append, List.cons.injEq, true_and] at h
    exact ha a (List.mem_cons_self ..) (by rw [h]; simp)
  | a :: c :: A, [b], ha, hb, h => by
    exfalso
    simp only [List.flatMap_cons, List.flatMap_nil, List.append_nil, List.cons_append, List.cons.injEq, true_and] at h
    exact hb b (List.mem_cons_self ..) (by rw [← h]; simp)
  | a :: c :: A, b :: d :: B, ha, hb, h => by
    have h2 : a ++ s :: (c ++ A.flatMap (fun x => s :: x)) = b ++ s :: (d ++ B.flatMap (fun x => s :: x)) := by
      simpa using h
    obtain ⟨h3, h4⟩ := cut_eq s a b _ _ (ha a (List.mem_cons_self ..)) (hb b (List.mem_cons_self ..)) h2
    have := words_eq s (c :: A) (d :: B) (fun x m => ha x (List.mem_cons_of_mem _ m)) (fun x m => hb x (List.mem_cons_of_mem _ m)) (by simp [h4])
    rw [h3, this]
theorem nt_no (a : Nat) (s : UInt8) (h : s.toNat < 48 ∨ 57 < s.toNat) : s ∉ nt (a : Int) := fun m => by have := nt_dig a s m; omega
def pcs (p : Nat → Bool) : Nat → List (Nat × Nat)
  | 0 => []
  | n + 1 => pcs p n ++ (if stt p n then [(n, re p n)] else [])
def pieceB (x : Nat × Nat) : List UInt8 := nt (x.1 : Int) ++ (if x.1 < x.2 then 45 :: nt (x.2 : Int) else [])
theorem rgs_pcs (p : Nat → Bool) : ∀ n, rgs p n = ((pcs p n).map pieceB).flatMap (fun x => 32 :: x)
  | 0 => rfl
  | n + 1 => by
    show rgs p n ++ _ = ((pcs p n ++ _).map pieceB).flatMap _
    rw [rgs_pcs p n, List.map_append, List.flatMap_append]
    by_cases h : stt p n = true
    · rw [if_pos h, if_pos h]; simp [piece, pieceB]
    · rw [if_neg h, if_neg h]; simp
theorem pieceB_no (x : Nat × Nat) : (32 : UInt8) ∉ pieceB x := by
  unfold pieceB
  intro m
  rcases List.mem_append.1 m with m | m
  · exact nt_no x.1 32 (by decide) m
  · by_cases h : x.1 < x.2
    · rw [if_pos h] at m
      rcases List.mem_cons.1 m with m | m
      · exact absurd m (by decide)
      · exact nt_no x.2 32 (by decide) m
    · rw [if_neg h] at m; cases m
theorem pieceB_inj (x y : Nat × Nat) (hx : x.1 ≤ x.2) (hy : y.1 ≤ y.2) (h : pieceB x = pieceB y) : x = y := by
  unfold pieceB at h
  by_cases h1 : x.1 < x.2 <;> by_cases h2 : y.1 < y.2
  · rw [if_pos h1, if_pos h2] at h
    obtain ⟨h3, h4⟩ := cut_eq 45 _ _ _ _ (nt_no x.1 45 (by decide)) (nt_no y.1 45 (by decide)) h
    exact Prod.ext (nt_inj _ _ h3) (nt_inj _ _ h4)
  · rw [if_pos h1, if_neg h2, List.append_nil] at h
    exact absurd (show (45 : UInt8) ∈ nt (y.1 : Int) by rw [← h]; simp) (nt_no y.1 45 (by decide))
  · rw [if_neg h1, if_pos h2, List.append_nil] at h
    exact absurd (show (45 : UInt8) ∈ nt (x.1 : Int) by rw [h]; simp) (nt_no x.1 45 (by decide))
  · rw [if_neg h1, if_neg h2, List.append_nil, List.append_nil] at h
    have := nt_inj _ _ h
    exact Prod.ext this (by omega)
theorem map_inj (f : Nat × Nat → List UInt8) (Q : Nat × Nat → Prop) (hf : ∀ x y, Q x → Q y → f x = f y → x = y) : ∀ (A B : List (Nat × Nat)), (∀ x ∈ A, Q x) → (∀ x ∈ B, Q x) → A.map f = B.map f → A = B
  | [], [], _, _, _ => rfl
  | [], b :: B, _, _, h => by cases h
  | a :: A, [], _, _, h => by cases h
  | a :: A, b :: B, ha, hb, h => by
    obtain ⟨h1, h2⟩ := List.cons.inj h
    rw [hf a b (ha a (List.mem_cons_self ..)) (hb b (List.mem_cons_self ..)) h1, map_inj f Q hf A B (fun x m => ha x (List.mem_cons_of_mem _ m)) (fun x m => hb x (List.mem_cons_of_mem _ m)) h2]
theorem pcs_run (p : Nat → Bool) : ∀ n, n ≤ 256 → ∀ x ∈ pcs p n, Run p x.1 x.2
  | 0, _, x, h => by cases h
  | n + 1, hn, x, h => by
    rcases List.mem_append.1 h with h | h
    · exact pcs_run p n (by omega) x h
    · by_cases hs : stt p n = true
      · rw [if_pos hs] at h
        obtain rfl := List.mem_singleton.1 h
        exact re_run p n (by omega) (by unfold stt at hs; simp at hs; exact hs.1)
      · rw [if_neg hs] at h; cases h
theorem pcs_mem (p : Nat → Bool) : ∀ n, n ≤ 256 → ∀ c, c < n → p c = true → ∃ x ∈ pcs p n, x.1 ≤ c ∧ c ≤ x.2 := by
  intro n hn c
  induction c with
  | zero =>
    intro hc hp
    have hs : stt p 0 = true := by unfold stt; simp [hp]
    have h1 : ∀ m, 0 < m → (0, re p 0) ∈ pcs p m := by
      intro m
      induction m with
      | zero => intro h; omega
      | succ m ih =>
        intro _
        show _ ∈ pcs p m ++ _
        by_cases h0 : m = 0
        · subst h0; rw [if_pos hs]; simp
        · exact List.mem_append_left _ (ih (by omega))
    exact ⟨_, h1 n hc, Nat.le_refl _, (re_run p 0 (by omega) hp).le⟩
  | succ c ih =>
    intro hc hp
    by_cases hq : p c = true
    · obtain ⟨x, hx, h1, h2⟩ := ih (by omega) hq
      have hr := pcs_run p n hn x hx
      refine ⟨x, hx, by omega, ?_⟩
      by_cases h3 : c = x.2
      · exfalso
        have := hr.stop (by omega)
        rw [← h3, hp] at this
        cases this
      · omega
    · have hs : stt p (c + 1) = true := by unfold stt; simp [hp, hq]
      have h1 : ∀ m, c + 1 < m → (c + 1, re p (c + 1)) ∈ pcs p m := by
        intro m
        induction m with
        | zero => intro h; omega
        | succ m ih2 =>
          intro hm
          show _ ∈ pcs p m ++ _
          by_cases h0 : m = c + 1
          · subst h0; rw [if_pos hs]; simp
          · exact List.mem_append_left _ (ih2 (by omega))
      exact ⟨_, h1 n hc, Nat.le_refl _, (re_run p (c + 1) (by omega) hp).le⟩
theorem rgs_inj (p q : Nat → Bool) (h : rgs p 256 = rgs q 256) : ∀ c, c < 256 → p c = q c := by
  rw [rgs_pcs, rgs_pcs] at h
  have h1 := words_eq 32 _ _ (fun x m => by obtain ⟨y, _, rfl⟩ := List.mem_map.1 m; exact pieceB_no y) (fun x m => by obtain ⟨y, _, rfl⟩ := List.mem_map.1 m; exact pieceB_no y) h
  have h2 := map_inj pieceB (fun x => x.1 ≤ x.2) (fun x y hx hy e => pieceB_inj x y hx hy e) _ _ (fun x m => (pcs_run p 256 (Nat.le_refl _) x m).le) (fun x m => (pcs_run q 256 (Nat.le_refl _) x m).le) h1
  have one : ∀ (p q : Nat → Bool), pcs p 256 = pcs q 256 → ∀ c, c < 256 → p c = true → q c = true := fun p q e c hc hp => by
    obtain ⟨x, hx, a, b⟩ := pcs_mem p 256 (Nat.le_refl _) c hc hp
    rw [e] at hx
    exact (pcs_run q 256 (Nat.le_refl _) x hx).all c a b
  intro c hc
  cases hp : p c with
  | true => rw [one p q h2 c hc hp]
  | false =>
    cases hq : q c with
    | false => rfl
    | true => rw [one q p h2.symm c hc hq] at hp; cases hp
theorem rgs_congr (p q : Nat → Bool) (h : ∀ c, c < 256 → p c = q c) : rgs p 256 = rgs q 256 := by
  have hre : ∀ d i, i + d = 255 → reF p d i = reF q d i := by
    intro d
    induction d with
    | zero => intro i _; rfl
    | succ d ih =>
      intro i hi
      show (if p (i + 1) then _ else _) = (if q (i + 1) then _ else _)
      rw [h (i + 1) (by omega), ih (i + 1) (by omega)]
  have hst : ∀ n, n < 256 → stt p n = stt q n := fun n hn => by unfold stt; rw [h n hn, h (n - 1) (by omega)]
  have : ∀ n, n ≤ 256 → rgs p n = rgs q n := by
    intro n
    induction n with
    | zero => intro _; rfl
    | succ n ih =>
      intro hn
      show rgs p n ++ _ = rgs q n ++ _
      rw [ih (by omega), hst n (by omega)]
      unfold re
      rw [hre (255 - n) n (by omega)]
  exact this 256 (Nat.le_refl _)
end Go.Proofs.YtbjobbkipmkndaaDoor
set_option linter.unusedVariables false
set_option linter.unusedSimpArgs false
set_option maxRecDepth 100000
namespace Go.Proofs.YtbjobbkipmkndaaDoor
open Go.RowKit
def usedI (i : IN) : IN := if i.op = 1 then ⟨i.op, i.st, 0, 0⟩ else if i.op = 2 then ⟨i.op, noSet, i.x, i.y⟩ else if i.op = 3 then ⟨i.op, noSet, i.x, 0⟩ else ⟨i.op, noSet, 0, 0⟩
def alL : List IN → List IN → Bool
  | [], [] => true
  | i :: r, j :: s => eqIN (usedI i) (usedI j) && alL r s
  | _, _ => false
structure Rt (i : IN) : Prop where
  lo : 1 ≤ i.op
  hi : i.op ≤ 6
  two : i.op = 2 → 0 ≤ i.x ∧ 0 ≤ i.y
  one : i.op = 3 → 0 ≤ i.x
theorem vOk_rt {n : Nat} {b : Bool} {i : IN} (h : vOk n b i = true) : Rt i := by
  unfold vOk at h
  simp only [Bool.and_eq_true] at h
  obtain ⟨h1, h2, h3⟩ := h
  unfold kok at h1
  simp only [Bool.and_eq_true, decide_eq_true_eq] at h1
  rw [List.all_eq_true] at h3
  have hin : ∀ x, x ∈ tgs i → 0 ≤ x := fun x m => by
    have := h3 x m
    unfold inR at this
    simp only [Bool.and_eq_true, decide_eq_true_eq] at this
    exact this.1
  refine ⟨h1.1, h1.2, fun e => ?_, fun e => ?_⟩
  · have ht : tgs i = [i.x, i.y] := by unfold tgs ktg; rw [if_pos e]; rfl
    exact ⟨hin _ (by rw [ht]; simp), hin _ (by rw [ht]; simp)⟩
  · have ht : tgs i = [i.x] := by unfold tgs ktg; rw [if_neg (by omega), if_pos e]; rfl
    exact hin _ (by rw [ht]; simp)
theorem vR_rt (n : Nat) : ∀ L : List IN, vR n L = true → ∀ i ∈ L, Rt i
  | [], _, i, h => by cases h
  | a :: r, h, i, hi => by
    have h : (vOk n r.isEmpty a && vR n r) = true := h
    simp only [Bool.and_eq_true] at h
    rcases List.mem_cons.1 hi with rfl | hi
    · exact vOk_rt h.1
    · exact vR_rt n r h.2 i hi
theorem eqc_all (p q : Nat → Bool) : eqc p q = true ↔ ∀ c, c < 256 → p c = q c := eqc_iff p q
theorem six {i : IN} (h : Rt i) : i.op = 1 ∨ i.op = 2 ∨ i.op = 3 ∨ i.op = 4 ∨ i.op = 5 ∨ i.op = 6 := by have := h.lo; have := h.hi; omega
theorem line_1 {i : IN} (h : i.op = 1) : lineT i = [115, 101, 116] ++ rgs i.st 256 := by unfold lineT kwd; rw [if_pos h, if_pos h]
theorem line_2 {i : IN} (h : i.op = 2) : lineT i = [115, 112, 108, 105, 116] ++ (32 :: nt i.x ++ 32 :: nt i.y) := by unfold lineT kwd tgT tgs ktg; rw [if_neg (by omega), if_pos h, if_neg (by omega), if_pos h]; simp
theorem line_3 {i : IN} (h : i.op = 3) : lineT i = [106, 117, 109, 112] ++ (32 :: nt i.x) := by unfold lineT kwd tgT tgs ktg; rw [if_neg (by omega), if_neg (by omega), if_pos h, if_neg (by omega), if_neg (by omega), if_pos h]; simp
theorem line_4 {i : IN} (h : i.op = 4) : lineT i = [98, 101, 103, 105, 110] := by unfold lineT kwd tgT tgs ktg; rw [if_neg (by omega), if_neg (by omega), if_neg (by omega), if_pos h, if_neg (by omega), if_neg (by omega), if_neg (by omega)]; simp
theorem line_5 {i : IN} (h : i.op = 5) : lineT i = [101, 110, 100] := by unfold lineT kwd tgT tgs ktg; rw [if_neg (by omega), if_neg (by omega), if_neg (by omega), if_neg (by omega), if_pos h, if_neg (by omega), if_neg (by omega), if_neg (by omega)]; simp
theorem line_6 {i : IN} (h : i.op = 6) : lineT i = [109, 97, 116, 99, 104] := by unfold lineT kwd tgT tgs ktg; rw [if_neg (by omega), if_neg (by omega), if_neg (by omega), if_neg (by omega), if_neg (by omega), if_pos h, if_neg (by omega), if_neg (by omega), if_neg (by omega)]; simp
theorem line_iff {i j : IN} (hi : Rt i) (hj : Rt j) : lineT i = lineT j ↔ eqIN (usedI i) (usedI j) = true := by
  rcases six hi with h | h | h | h | h | h <;> rcases six hj with k | k | k | k | k | k
  case inl.inl =>
    rw [line_1 h, line_1 k]
    unfold usedI eqIN
    rw [if_pos h, if_pos k]
    simp only [h, k, beq_self_eq_true, Bool.true_and, Bool.and_true, eqc_all]
    exact ⟨fun e => rgs_inj _ _ (List.append_cancel_left e), fun e => by rw [rgs_congr _ _ e]⟩
  case inr.inl.inr.inl =>
    rw [line_2 h, line_2 k]
    unfold usedI eqIN
    rw [if_neg (by omega), if_pos h, if_neg (by omega), if_pos k]
    obtain ⟨x0, y0⟩ := hi.two h
    obtain ⟨x1, y1⟩ := hj.two k
    have e0 := eqc_all noSet noSet
    simp only [h, k, beq_self_eq_true, Bool.true_and, Bool.and_eq_true, beq_iff_eq, e0]
    obtain ⟨a, ha⟩ : ∃ a : Nat, i.x = (a : Int) := ⟨i.x.toNat, by omega⟩
    obtain ⟨b, hb⟩ : ∃ b : Nat, i.y = (b : Int) := ⟨i.y.toNat, by omega⟩
    obtain ⟨c, hc⟩ : ∃ c : Nat, j.x = (c : Int) := ⟨j.x.toNat, by omega⟩
    obtain ⟨d, hd⟩ : ∃ d : Nat, j.y = (d : Int) := ⟨j.y.toNat, by omega⟩
    rw [ha, hb, hc, hd]
    constructor
    · intro e
      have e := List.append_cancel_left e
      rw [List.cons_append, List.cons_append] at e
      obtain ⟨e1, e2⟩ := cut_eq 32 _ _ _ _ (nt_no a 32 (by decide)) (nt_no c 32 (by decide)) (List.cons.inj e).2
      exact ⟨fun _ _ => trivial, by rw [nt_inj _ _ e1], by rw [nt_inj _ _ e2]⟩
    · rintro ⟨_, e1, e2⟩
      rw [e1, e2]
  case inr.inr.inl.inr.inr.inl =>
    rw [line_3 h, line_3 k]
    unfold usedI eqIN
    rw [if_neg (by omega), if_neg (by omega), if_pos h, if_neg (by omega), if_neg (by omega), if_pos k]
    have x0 := hi.one h
    have x1 := hj.one k
    have e0 := eqc_all noSet noSet
    simp only [h, k, beq_self_eq_true, Bool.true_and, Bool.and_true, Bool.and_eq_true, beq_iff_eq, e0]
    obtain ⟨a, ha⟩ : ∃ a : Nat, i.x = (a : Int) := ⟨i.x.toNat, by omega⟩
    obtain ⟨c, hc⟩ : ∃ c : Nat, j.x = (c : Int) := ⟨j.x.toNat, by omega⟩
    rw [ha, hc]
    constructor
    · intro e
      have e := List.append_cancel_left e
      exact ⟨fun _ _ => trivial, by rw [nt_inj _ _ (List.cons.inj e).2]⟩
    · rintro ⟨_, e1⟩
      rw [e1]
  case inr.inr.inr.inl.inr.inr.inr.inl =>
    rw [line_4 h, line_4 k]
    unfold usedI eqIN
    rw [if_neg (by omega), if_neg (by omega), if_neg (by omega), if_neg (by omega), if_neg (by omega), if_neg (by omega)]
    have e0 := (eqc_all noSet noSet).2 (fun _ _ => rfl)
    simp [h, k, e0]
  case inr.inr.inr.inr.inl.inr.inr.inr.inr.inl =>
    rw [line_5 h, line_5 k]
    unfold usedI eqIN
    rw [if_neg (by omega), if_neg (by omega), if_neg (by omega), if_neg (by omega), if_neg (by omega), if_neg (by omega)]
    have e0 := (eqc_all noSet noSet).2 (fun _ _ => rfl)
    simp [h, k, e0]
  case inr.inr.inr.inr.inr.inr.inr.inr.inr.inr =>
    rw [line_6 h, line_6 k]
    unfold usedI eqIN
    rw [if_neg (by omega), if_neg (by omega), if_neg (by omega), if_neg (by omega), if_neg (by omega), if_neg (by omega)]
    have e0 := (eqc_all noSet noSet).2 (fun _ _ => rfl)
    simp [h, k, e0]
  all_goals
    have hne : eqIN (usedI i) (usedI j) = false := by
      have u1 : (usedI i).op = i.op := by unfold usedI; split <;> (try split) <;> (try split) <;> rfl
      have u2 : (usedI j).op = j.op := by unfold usedI; split <;> (try split) <;> (try split) <;> rfl
      unfold eqIN
      rw [u1, u2, h, k]
      rfl
    rw [hne]
    refine ⟨fun e => ?_, fun e => by cases e⟩
    exfalso
    first
      | rw [line_1 h] at e | rw [line_2 h] at e | rw [line_3 h] at e | rw [line_4 h] at e | rw [line_5 h] at e | rw [line_6 h] at e
    first
      | rw [line_1 k] at e | rw [line_2 k] at e | rw [line_3 k] at e | rw [line_4 k] at e | rw [line_5 k] at e | rw [line_6 k] at e
    have e1 := congrArg (fun l => l.take 2) e
    simp at e1
def linesF : Nat → List IN → List UInt8
  | _, [] => []
  | k, i :: r => instT k i ++ linesF (k + 1) r
theorem linesF_all (L : List IN) : ∀ k, k ≤ L.length → linesT L k ++ linesF k (L.drop k) = linesF 0 L
  | 0, _ => by simp [linesT]
  | k + 1, h => by
    rw [linesT_succ L k (by omega), List.append_assoc, ← linesF_all L k (by omega), List.drop_eq_getElem_cons (show k < L.length by omega)]
    rfl
theorem linesT_F (L : List IN) : linesT L L.length = linesF 0 L := by
  have := linesF_all L L.length (Nat.le_refl _)
  rw [List.drop_length] at this
  simpa [linesF] using this
theorem line_no {i : IN} (h : Rt i) : (10 : UInt8) ∉ lineT i := by
  rcases six h with k | k | k | k | k | k
  · rw [line_1 k]
    intro m
    rcases List.mem_append.1 m with m | m
    · exact absurd m (by decide)
    · rw [rgs_pcs] at m
      obtain ⟨x, hx, m⟩ := List.mem_flatMap.1 m
      rcases List.mem_cons.1 m with m | m
      · exact absurd m (by decide)
      · obtain ⟨y, hy, rfl⟩ := List.mem_map.1 hx
        unfold pieceB at m
        rcases List.mem_append.1 m with m | m
        · exact nt_no y.1 10 (by decide) m
        · by_cases hh : y.1 < y.2
          · rw [if_pos hh] at m
            rcases List.mem_cons.1 m with m | m
            · exact absurd m (by decide)
            · exact nt_no y.2 10 (by decide) m
          · rw [if_neg hh] at m; cases m
  · rw [line_2 k]
    obtain ⟨x0, y0⟩ := h.two k
    obtain ⟨a, ha⟩ : ∃ a : Nat, i.x = (a : Int) := ⟨i.x.toNat, by omega⟩
    obtain ⟨b, hb⟩ : ∃ b : Nat, i.y = (b : Int) := ⟨i.y.toNat, by omega⟩
    rw [ha, hb]
    intro m
    rcases List.mem_append.1 m with m | m
    · exact absurd m (by decide)
    · rcases List.mem_append.1 m with m | m
      · rcases List.mem_cons.1 m with m | m
        · exact absurd m (by decide)
        · exact nt_no a 10 (by decide) m
      · rcases List.mem_cons.1 m with m | m
        · exact absurd m (by decide)
        · exact nt_no b 10 (by decide) m
  · rw [line_3 k]
    have x0 := h.one k
    obtain ⟨a, ha⟩ : ∃ a : Nat, i.x = (a : Int) := ⟨i.x.toNat, by omega⟩
    rw [ha]
    intro m
    rcases List.mem_append.1 m with m | m
    · exact absurd m (by decide)
    · rcases List.mem_cons.1 m with m | m
      · exact absurd m (by decide)
      · exact nt_no a 10 (by decide) m
  · rw [line_4 k]; decide
  · rw [line_5 k]; decide
  · rw [line_6 k]; decide
theorem inst_cut (k : Nat) (i : IN) (r : List UInt8) : instT k i ++ r = (nt (k : Int) ++ 32 :: lineT i) ++ 10 :: r := by unfold instT; simp
theorem inst_no (k : Nat) {i : IN} (h : Rt i) : (10 : UInt8) ∉ nt (k : Int) ++ 32 :: lineT i := by
  intro m
  rcases List.mem_append.1 m with m | m
  · exact nt_no k 10 (by decide) m
  · rcases List.mem_cons.1 m with m | m
    · exact absurd m (by decide)
    · exact line_no h m
theorem lines_iff : ∀ (L M : List IN) (k : Nat), (∀ i ∈ L, Rt i) → (∀ i ∈ M, Rt i) → (linesF k L = linesF k M ↔ alL L M = true)
  | [], [], k, _, _ => ⟨fun _ => rfl, fun _ => rfl⟩
  | [], j :: s, k, _, _ => ⟨fun h => by rw [linesF, linesF, inst_cut] at h; exact absurd h (by simp), fun h => by cases h⟩
  | i :: r, [], k, _, _ => ⟨fun h => by rw [linesF, linesF, inst_cut] at h; exact absurd h (by simp), fun h => by cases h⟩
  | i :: r, j :: s, k, hL, hM => by
    have hi := hL i (List.mem_cons_self ..)
    have hj := hM j (List.mem_cons_self ..)
    have ih := lines_iff r s (k + 1) (fun x m => hL x (List.mem_cons_of_mem _ m)) (fun x m => hM x (List.mem_cons_of_mem _ m))
    show instT k i ++ linesF (k + 1) r = instT k j ++ linesF (k + 1) s ↔ (eqIN (usedI i) (usedI j) && alL r s) = true
    rw [inst_cut, inst_cut, Bool.and_eq_true, ← line_iff hi hj, ← ih]
    constructor
    · intro h
      obtain ⟨h1, h2⟩ := cut_eq 10 _ _ _ _ (inst_no k hi) (inst_no k hj) h
      exact ⟨(List.cons.inj (List.append_cancel_left h1)).2, h2⟩
    · rintro ⟨h1, h2⟩
      rw [h1, h2]
theorem valL_all {L : List IN} (h : valL L = true) : 1 ≤ L.length ∧ ∀ i ∈ L, Rt i := by
  unfold valL at h
  simp only [Bool.and_eq_true, decide_eq_true_eq] at h
  exact ⟨h.1, vR_rt _ L h.2.2⟩
theorem lines_head {L : List IN} (h : 1 ≤ L.length) : ∃ c r, linesF 0 L = c :: r ∧ c.toNat ≤ 57 := by
  cases L with
  | nil => exact absurd h (by decide)
  | cons i r =>
    obtain ⟨c, t, h1, _, h3⟩ := nt_pos 0
    have h1 : nt ((0 : Nat) : Int) = c :: t := h1
    refine ⟨c, t ++ 32 :: lineT i ++ 10 :: linesF 1 r, ?_, h3⟩
    show instT 0 i ++ linesF 1 r = _
    rw [inst_cut, h1]
    simp
theorem pr_iff (L M : List IN) (ln lm : Bool) (hL : valL L = true) (hM : valL M = true) : prT ln L = prT lm M ↔ ((ln == lm) && alL L M) = true := by
  obtain ⟨l1, l2⟩ := valL_all hL
  obtain ⟨m1, m2⟩ := valL_all hM
  unfold prT
  rw [hL, hM, if_pos rfl, if_pos rfl, linesT_F, linesT_F]
  have hk := lines_iff L M 0 l2 m2
  obtain ⟨c, r, e1, e2⟩ := lines_head l1
  obtain ⟨d, s, f1, f2⟩ := lines_head m1
  cases ln <;> cases lm
  · simpa [headT] using hk
  · rw [e1]
    refine ⟨fun h => ?_, fun h => by simp at h⟩
    have h : c :: r = 108 :: ([105, 110, 101, 115, 10] ++ linesF 0 M) := h
    have := (List.cons.inj h).1
    rw [this] at e2
    exact absurd e2 (by decide)
  · rw [f1]
    refine ⟨fun h => ?_, fun h => by simp at h⟩
    have h : 108 :: ([105, 110, 101, 115, 10] ++ linesF 0 L) = d :: s := h
    have := (List.cons.inj h).1
    rw [← this] at f2
    exact absurd f2 (by decide)
  · simpa [headT] using hk
theorem bs_list (l : List UInt8) : (bs l).toList = l := by
  rw [ByteArray.toList_eq]
  rfl
theorem pr_eq (L M : List IN) (ln lm : Bool) (hL : valL L = true) (hM : valL M = true) : ((bs (prT ln L)).toList == (bs (prT lm M)).toList) = ((ln == lm) && alL L M) := by
  rw [bs_list, bs_list]
  have h := pr_iff L M ln lm hL hM
  cases hb : ((ln == lm) && alL L M) with
  | true => rw [hb] at h; simpa using h.2 rfl
  | false =>
    rw [hb] at h
    cases he : (prT ln L == prT lm M) with
    | false => rfl
    | true => exact absurd (h.1 (by simpa using he)) (by decide)
end Go.Proofs.YtbjobbkipmkndaaDoor
