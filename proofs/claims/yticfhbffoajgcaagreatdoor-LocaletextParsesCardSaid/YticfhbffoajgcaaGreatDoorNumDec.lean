/- Layer 1: the decimal form of an int; reading undoes writing, and writing undoes reading. -/
import Derived.Test.YticfhbffoajgcaaGreatDoorNumFormatB
namespace Go.Proofs.YticfhbffoajgcaaGreatDoor
open Go.RowKit

/-! ### The decimal form -/
def dec (m : Nat) : List UInt8 := txt m (cnt m)

theorem txt_snoc (m : Nat) : ∀ c, txt m (c + 1) = txt (m / 10) c ++ [UInt8.ofNat (48 + m % 10)]
  | 0 => by simp [txt]
  | c + 1 => by
    rw [txt_succ, txt_snoc m c, txt_succ, List.cons_append]
    congr 2
    rw [Nat.div_div_eq_div_mul, Nat.pow_succ, Nat.mul_comm 10]

theorem dec_small (m : Nat) (h : m < 10) : dec m = [UInt8.ofNat (48 + m)] := by
  unfold dec; rw [cnt_small m h]; simp [txt]; rw [Nat.mod_eq_of_lt h]
theorem dec_big (m : Nat) (h : ¬ m < 10) : dec m = dec (m / 10) ++ [UInt8.ofNat (48 + m % 10)] := by
  unfold dec; rw [cnt_big m h, txt_snoc]

theorem dec_digits (m : Nat) : allD (dec m) = true ∧ val (dec m) = -(m : Int) := by
  induction m using Nat.strongRecOn with
  | ind m ih =>
    by_cases h : m < 10
    · rw [dec_small m h]
      have hb := byte_toNat m h
      constructor
      · unfold allD; simp only [List.all_cons, List.all_nil, hb]; simp; omega
      · unfold val; simp only [List.foldl_cons, List.foldl_nil, hb]; omega
    · have hb := byte_toNat (m % 10) (by omega)
      obtain ⟨h1, h2⟩ := ih (m / 10) (by omega)
      rw [dec_big m h]
      constructor
      · rw [allD_snoc, h1, hb]; simp; omega
      · rw [val_snoc, h2, hb]; omega

theorem dec_head (m : Nat) : 0 < m → ∃ c r, dec m = c :: r ∧ c ≠ 48 := by
  induction m using Nat.strongRecOn with
  | ind m ih =>
    intro h0
    by_cases h : m < 10
    · refine ⟨_, [], dec_small m h, ?_⟩
      intro hc
      have hb := byte_toNat m h
      rw [hc] at hb
      have : (48 : UInt8).toNat = 48 := rfl
      omega
    · obtain ⟨c, r, h1, h2⟩ := ih (m / 10) (by omega) (by omega)
      exact ⟨c, r ++ [_], by rw [dec_big m h, h1]; rfl, h2⟩

theorem dec_mag (m : Nat) : magB (dec m) = true := by
  have hd := (dec_digits m).1
  by_cases h : m < 10
  · rw [dec_small m h] at hd ⊢
    show (!(UInt8.ofNat (48 + m) == 48 && !([] : List UInt8).isEmpty) && allD [UInt8.ofNat (48 + m)]) = true
    rw [hd]; simp
  · obtain ⟨c, r, h1, h2⟩ := dec_head m (by omega)
    rw [h1] at hd ⊢
    unfold magB; simp [h2]; exact hd

/-- A decimal form is the text of what it denotes. -/
theorem dec_of : ∀ (k : Nat) (d : List UInt8), d.length = k → magB d = true → ∃ v : Nat, d = dec v
  | k, d, hk, hm => by
    have hall := mag_all d hm
    rcases List.eq_nil_or_concat d with rfl | ⟨d', c, rfl⟩
    · cases hm
    · rw [List.concat_eq_append] at *
      rw [allD_snoc] at hall
      simp at hall
      obtain ⟨h1, h2, h3⟩ := hall
      have hc : c = UInt8.ofNat (48 + (c.toNat - 48)) := by
        apply UInt8.toNat_inj.1
        rw [byte_toNat _ (by omega)]; omega
      cases hd' : d' with
      | nil =>
        refine ⟨c.toNat - 48, ?_⟩
        rw [dec_small _ (by omega), ← hc]; rfl
      | cons a r =>
        subst hd'
        have ha : a ≠ 48 := by
          intro h
          subst h
          unfold magB at hm
          simp at hm
        have hm' : magB (a :: r) = true := by
          unfold magB; simp [ha]; exact h1
        obtain ⟨v', hv'⟩ := dec_of (a :: r).length (a :: r) rfl hm'
        have hv0 : v' ≠ 0 := by
          intro h
          subst h
          rw [dec_small 0 (by decide)] at hv'
          simp at hv'
          exact ha hv'.1
        refine ⟨v' * 10 + (c.toNat - 48), ?_⟩
        rw [dec_big _ (by omega), show (v' * 10 + (c.toNat - 48)) / 10 = v' by omega, show (v' * 10 + (c.toNat - 48)) % 10 = c.toNat - 48 by omega, ← hv', ← hc]
termination_by k => k
decreasing_by
  simp at hk ⊢
  omega

theorem fmtS_list (n : Int) : (fmtS n).data.toList = if n < 0 then 45 :: dec n.natAbs else dec n.natAbs := by
  unfold fmtS dec
  split <;> simp

theorem minus_dec (m : Nat) : minus (dec m) = false := by
  have hd := (dec_digits m).1
  unfold minus
  cases h : dec m with
  | nil => rfl
  | cons c r =>
    rw [h] at hd
    unfold allD at hd
    simp at hd
    simp
    intro hc
    subst hc
    exact absurd hd.1.1 (by decide)

/-- Reading undoes writing. -/
theorem parse_fmt (n : Int) (hf : fits n) : parseV (fmtS n).data.toList = n ∧ parseE (fmtS n).data.toList = 0 := by
  obtain ⟨h1, h2⟩ := hf
  rw [fmtS_list]
  by_cases hn : n < 0
  · rw [if_pos hn]
    have hm : minus (45 :: dec n.natAbs) = true := rfl
    have hg : digitsOf (45 :: dec n.natAbs) = dec n.natAbs := rfl
    have hv : val (dec n.natAbs) = n := by rw [(dec_digits _).2]; omega
    have hq : (dec n.natAbs == [48]) = false := by
      simp
      intro hc
      have := (dec_digits n.natAbs).2
      rw [hc] at this
      have e : val [48] = 0 := rfl
      omega
    have hb : parseBad (45 :: dec n.natAbs) = false := by
      unfold parseBad; rw [hg, dec_mag, hq]; simp
    unfold parseV parseE
    rw [hb, hg, hv, hm]
    have hf : fits n := ⟨h1, h2⟩
    simp [hf]
  · rw [if_neg hn]
    have hm := minus_dec n.natAbs
    have hg : digitsOf (dec n.natAbs) = dec n.natAbs := by unfold digitsOf; rw [hm]; rfl
    have hv : val (dec n.natAbs) = -n := by rw [(dec_digits _).2]; omega
    have hb : parseBad (dec n.natAbs) = false := by
      unfold parseBad; rw [hg, dec_mag, hm]; simp
    have hf : fits (-n) := ⟨by omega, by omega⟩
    have hf2 : fits n := ⟨h1, h2⟩
    unfold parseV parseE subV subE
    rw [hb, hg, hv, hm]
    simp [hf, hf2]

/-- Writing undoes reading; what is read is an int. -/
theorem fmt_parse (s : ByteArray) (h : parseE s.data.toList = 0) : fits (parseV s.data.toList) ∧ fmtS (parseV s.data.toList) = s := by
  unfold parseE at h
  unfold parseV
  rcases tf (parseBad s.data.toList) with hb | hb
  · rw [hb] at h; cases h
  · rw [hb] at h ⊢
    simp only [Bool.false_eq_true, if_false] at h ⊢
    unfold parseBad at hb
    simp only [Bool.or_eq_false_iff, Bool.not_eq_false'] at hb
    obtain ⟨hm, hz⟩ := hb
    obtain ⟨v, hv⟩ := dec_of _ _ rfl hm
    rw [hv, (dec_digits v).2] at h ⊢
    by_cases hf : fits (-(v : Int))
    · rw [if_neg (not_not_intro hf)] at h ⊢
      have hext : ∀ n : Int, (if n < 0 then 45 :: dec n.natAbs else dec n.natAbs) = s.data.toList → fmtS n = s := by
        intro n hn
        rw [← fmtS_list] at hn
        apply ByteArray.ext
        exact Array.toList_inj.1 hn
      rcases tf (minus s.data.toList) with hmi | hmi
      · rw [hmi] at h hz ⊢
        simp only [if_true, Bool.true_and] at h hz ⊢
        refine ⟨hf, hext _ ?_⟩
        have hv0 : v ≠ 0 := by
          intro hc
          subst hc
          rw [hv, dec_small 0 (by decide)] at hz
          exact absurd hz (by decide)
        rw [if_pos (by omega), Int.natAbs_neg, Int.natAbs_natCast, ← hv]
        unfold digitsOf
        rw [hmi]
        unfold minus at hmi
        cases hl : s.data.toList with
        | nil => rw [hl] at hmi; cases hmi
        | cons c r =>
          rw [hl] at hmi
          simp at hmi
          subst hmi
          rfl
      · rw [hmi] at h ⊢
        simp only [Bool.false_eq_true, if_false] at h ⊢
        unfold subE at h
        unfold subV
        by_cases hf2 : fits (0 - -(v : Int))
        · rw [if_pos hf2]
          refine ⟨hf2, hext _ ?_⟩
          rw [if_neg (by omega), show (0 - -(v : Int)).natAbs = v by omega, ← hv]
          unfold digitsOf
          rw [hmi]; rfl
        · rw [if_neg hf2] at h; cases h
    · rw [if_pos hf] at h; cases h

theorem fmtS_size (n : Int) (hf : fits n) : (fmtS n).size ≤ 40 := by
  obtain ⟨h1, h2⟩ := hf
  have h3 := txt_size n.natAbs (by omega)
  unfold fmtS
  split
  · rw [ByteArray.size_append]
    have : (⟨#[45]⟩ : ByteArray).size = 1 := rfl
    omega
  · omega

end Go.Proofs.YticfhbffoajgcaaGreatDoor
