/- Plain lists of bytes for layer 2: reading undoes writing, and writing undoes reading. It speaks of no program. -/
import Derived.Test.YtdgbfblhiongoaaDoorDecPrefix
import Derived.Test.YtdgbfblhiongoaaDoorDecFormat
namespace Go.Proofs.YtdgbfblhiongoaaDoor
open Go.RowKit

theorem nv_dec (v : Nat) : nv (dec v) = v := by
  have h := val_nv (dec v) (dec_digits v).1
  rw [(dec_digits v).2] at h; omega
theorem allD_txt (m : Nat) : ∀ c, allD (txt m c) = true
  | 0 => rfl
  | c + 1 => by
    rw [txt_succ]
    have h := byte_toNat (m / 10 ^ c % 10) (Nat.mod_lt _ (by decide))
    have h2 := allD_txt m c
    rw [allD_isD] at *
    rw [List.all_cons, h2, Bool.and_true, isD_iff, h]
    have := Nat.mod_lt (m / 10 ^ c) (y := 10) (by decide)
    omega
theorem nv_txt (m : Nat) : ∀ c, nv (txt m c) = m % 10 ^ c
  | 0 => by simp [txt, nv, Nat.mod_one]
  | c + 1 => by
    rw [txt_snoc, nv_snoc, nv_txt (m / 10) c, byte_toNat _ (Nat.mod_lt _ (by decide)), Nat.pow_succ, Nat.mul_comm (10 ^ c) 10, Nat.mod_mul, Nat.add_sub_cancel_left]
    omega
theorem last_txt (m c : Nat) : lastB (txt m (c + 1)) = decide (m % 10 = 0) := by
  unfold lastB
  rw [txt_snoc, List.getLast?_append]
  simp only [List.getLast?_singleton, Option.some_or]
  have h := byte_toNat (m % 10) (Nat.mod_lt _ (by decide))
  rw [Bool.eq_iff_iff]
  simp
  constructor
  · intro hc
    have : (UInt8.ofNat (48 + m % 10)).toNat = 48 := by rw [UInt8.ofNat_add]; simp [hc]
    omega
  · intro hc
    rw [hc]; rfl

/-- The digits behind the point, and what they denote. -/
theorem fdig_ok (r : Nat) (h0 : 0 < r) (h4 : r < 10000) : isF (fdig r) = true ∧ fr (fdig r) = r ∧ (fdig r).length ≤ 4 ∧ allD (fdig r) = true := by
  have key : ∀ (m c : Nat), c ≤ 3 → m % 10 ≠ 0 → m < 10 ^ (c + 1) → fdig r = txt m (c + 1) → m * 10 ^ (4 - (c + 1)) = r → isF (fdig r) = true ∧ fr (fdig r) = r ∧ (fdig r).length ≤ 4 ∧ allD (fdig r) = true := by
    intro m c hc hm hlt he hr
    rw [he]
    refine ⟨?_, ?_, by rw [txt_len]; omega, allD_txt _ _⟩
    · unfold isF
      rw [last_txt, allD_txt, txt_len, decide_eq_false hm]
      have : (txt m (c + 1)).isEmpty = false := by rw [txt_succ]; rfl
      rw [this]
      simp; omega
    · unfold fr
      rw [nv_txt, txt_len, Nat.mod_eq_of_lt hlt, hr]
  unfold fdig at key ⊢
  by_cases h1 : r % 1000 = 0
  · rw [if_pos h1] at key ⊢
    exact key (r / 1000) 0 (by omega) (by omega) (by simp; omega) rfl (by simp; omega)
  · rw [if_neg h1] at key ⊢
    by_cases h2 : r % 100 = 0
    · rw [if_pos h2] at key ⊢
      exact key (r / 100) 1 (by omega) (by omega) (by simp; omega) rfl (by simp; omega)
    · rw [if_neg h2] at key ⊢
      by_cases h3 : r % 10 = 0
      · rw [if_pos h3] at key ⊢
        exact key (r / 10) 2 (by omega) (by omega) (by simp; omega) rfl (by simp; omega)
      · rw [if_neg h3] at key ⊢
        exact key r 3 (by omega) (by omega) (by simpa using h4) rfl (by simp)

/-! ### Pieces of a text that was written -/
theorem dig_ne (c x : UInt8) (h : isD c = true) (hx : isD x = false) : c ≠ x := by rintro rfl; rw [h] at hx; cases hx
theorem dotB_app (a f : List UInt8) (h : allD a = true) : dotB (a ++ 46 :: f) = a ∧ dotF (a ++ 46 :: f) = f ∧ dotted (a ++ 46 :: f) = true := by
  induction a with
  | nil => exact ⟨rfl, rfl, rfl⟩
  | cons c r ih =>
    rw [allD_isD, List.all_cons, Bool.and_eq_true] at h
    obtain ⟨d1, d2, d3⟩ := dot_cons c (r ++ 46 :: f) (dig_ne c 46 h.1 (by decide))
    obtain ⟨i1, i2, i3⟩ := ih h.2
    rw [List.cons_append, d1, d2, d3, i1, i2, i3]
    exact ⟨rfl, rfl, rfl⟩
theorem dotB_dig (a : List UInt8) (h : allD a = true) : dotB a = a ∧ dotted a = false := by
  induction a with
  | nil => exact ⟨rfl, rfl⟩
  | cons c r ih =>
    rw [allD_isD, List.all_cons, Bool.and_eq_true] at h
    obtain ⟨d1, d2, d3⟩ := dot_cons c r (dig_ne c 46 h.1 (by decide))
    obtain ⟨i1, i2⟩ := ih h.2
    rw [d1, d3, i1, i2]
    exact ⟨rfl, rfl⟩
theorem ldig_app (a : List UInt8) (x : UInt8) (f : List UInt8) (h : allD a = true) (hx : isD x = false) : ldig (a ++ x :: f) = a ∧ rD (a ++ x :: f) = x :: f := by
  induction a with
  | nil => exact (ldig_cons x f).2 hx
  | cons c r ih =>
    rw [allD_isD, List.all_cons, Bool.and_eq_true] at h
    obtain ⟨l1, l2⟩ := (ldig_cons c (r ++ x :: f)).1 h.1
    obtain ⟨i1, i2⟩ := ih h.2
    rw [List.cons_append, l1, l2, i1, i2]
    exact ⟨rfl, rfl⟩
theorem rD_dig (a : List UInt8) (h : allD a = true) : rD a = [] := by
  unfold rD; rw [ldig_all a h, List.drop_length]
theorem dec_ne (n : Nat) : ∃ c r, dec n = c :: r ∧ isD c = true := by
  have hd := (dec_digits n).1
  cases h : dec n with
  | nil =>
    have : (dec n).length = cnt n := txt_len _ _
    have := cnt_pos n
    rw [h] at *; simp at *; omega
  | cons c r =>
    rw [h, allD_isD, List.all_cons, Bool.and_eq_true] at hd
    exact ⟨c, r, rfl, hd.1⟩
theorem hd_app (x : UInt8) (n : Nat) (f : List UInt8) (hx : isD x = false) : hd x (dec n ++ f) = false := by
  obtain ⟨c, r, h, hc⟩ := dec_ne n
  rw [h]
  unfold hd
  have := dig_ne c x hc hx
  simpa using this

/-- The parts of the text of a number. -/
theorem decT_parts (d : Int) : hd 45 (decT d) = decide (d < 0) ∧ tP (decT d) = dec (d.natAbs / 10000) ++ frT (d.natAbs % 10000) := by
  unfold decT tP cutP
  by_cases h : d < 0
  · rw [if_pos h]
    have : hd 45 ([45] ++ (dec (d.natAbs / 10000) ++ frT (d.natAbs % 10000))) = true := rfl
    rw [this, decide_eq_true h]
    exact ⟨rfl, rfl⟩
  · rw [if_neg h, List.nil_append, hd_app 45 _ _ (by decide), decide_eq_false h]
    exact ⟨rfl, rfl⟩

theorem parts_of (n r : Nat) : dotB (dec n ++ frT r) = dec n ∧ fF (dec n ++ frT r) = (if r = 0 then [] else fdig r) ∧ dotted (dec n ++ frT r) = decide (r ≠ 0) ∧
    ldig (dec n ++ frT r) = dec n ∧ rD (dec n ++ frT r) = frT r := by
  have hd := (dec_digits n).1
  unfold frT fF
  by_cases h : r = 0
  · rw [if_pos h, if_pos h, List.append_nil]
    obtain ⟨a, b⟩ := dotB_dig _ hd
    rw [a, b, ldig_all _ hd, rD_dig _ hd]
    exact ⟨rfl, rfl, by simp [h], rfl, rfl⟩
  · rw [if_neg h, if_neg h]
    obtain ⟨a, b, c⟩ := dotB_app (dec n) (fdig r) hd
    obtain ⟨e, f⟩ := ldig_app (dec n) 46 (fdig r) hd (by decide)
    rw [a, b, c, e, f]
    exact ⟨rfl, rfl, by simp [h], rfl, rfl⟩

/-- Reading a number that was written. -/
theorem parse_decT (d : Int) (hv : vB d = true) : pV (decT d) = d ∧ pE (decT d) = 0 := by
  obtain ⟨d1, d2⟩ := (vB_iff d).1 hv
  obtain ⟨q1, q2⟩ := decT_parts d
  have h4 : d.natAbs % 10000 < 10000 := Nat.mod_lt _ (by decide)
  obtain ⟨p1, p2, p3, _, _⟩ := parts_of (d.natAbs / 10000) (d.natAbs % 10000)
  have hw : wP (decT d) = dec (d.natAbs / 10000) := by unfold wP; rw [q2, p1]
  have hf : fP (decT d) = (if d.natAbs % 10000 = 0 then [] else fdig (d.natAbs % 10000)) := by unfold fP; rw [q2, p2]
  have hfr : fr (fP (decT d)) = d.natAbs % 10000 := by
    rw [hf]
    by_cases h : d.natAbs % 10000 = 0
    · rw [if_pos h, h]; rfl
    · rw [if_neg h]; exact (fdig_ok _ (by omega) h4).2.1
  have hmid : (dotted (tP (decT d)) && !isF (fP (decT d))) = false := by
    rw [q2, p3, hf]
    by_cases h : d.natAbs % 10000 = 0
    · simp [h]
    · rw [if_neg h, (fdig_ok _ (by omega) h4).1]; simp
  have hz : (hd 45 (decT d) && tP (decT d) == [48]) = false := by
    rw [q1]
    by_cases h : d < 0
    · rw [decide_eq_true h, Bool.true_and, beq_eq_false_iff_ne]
      intro hc
      have h1 : dotB (tP (decT d)) = dec (d.natAbs / 10000) := hw
      rw [hc] at h1
      have h2 : nv (dec (d.natAbs / 10000)) = 0 := by rw [← h1]; rfl
      rw [nv_dec] at h2
      have h3 : dotted (tP (decT d)) = false := by rw [hc]; rfl
      rw [q2, p3] at h3
      simp at h3
      omega
    · rw [decide_eq_false h, Bool.false_and]
  have hbad : pBad (decT d) = false := by
    unfold pBad
    rw [hz, hw, hd_dig _ (dec_digits _).1, hmid, dec_mag]; rfl
  have hx : pX (decT d) = d := by
    unfold pX
    rw [hw, hfr, nv_dec, q1]
    unfold sgn
    by_cases h : d < 0
    · rw [decide_eq_true h, if_pos rfl]; omega
    · rw [decide_eq_false h]; simp only [Bool.false_eq_true, if_false]; omega
  unfold pV pE
  rw [hbad, hw, nv_dec, hx]
  simp only [Bool.false_eq_true, if_false]
  rw [if_neg (by omega), if_neg (by omega)]
  unfold chkV chkE
  rw [hv]; exact ⟨rfl, rfl⟩

theorem trim_none (l : List UInt8) (c : UInt8) (r : List UInt8) (h : l = c :: r) (hc : [32, 9].contains c = false) : x1 l = l := by
  unfold x1 Lib.trimLeftS
  rw [h, List.dropWhile_cons]
  simp only [hc, Bool.false_eq_true, if_false]
theorem dig_blank (c : UInt8) (h : isD c = true) : [32, 9].contains c = false := by
  have h1 := dig_ne c 32 h (by decide)
  have h2 := dig_ne c 9 h (by decide)
  simp [h1, h2]

/-- The number at the beginning of a number that was written. -/
theorem prefix_decT (d : Int) (hv : vB d = true) : xV (decT d) = d ∧ xN (decT d) = (decT d).length := by
  obtain ⟨d1, d2⟩ := (vB_iff d).1 hv
  obtain ⟨q1, q2⟩ := decT_parts d
  have h4 : d.natAbs % 10000 < 10000 := Nat.mod_lt _ (by decide)
  obtain ⟨_, _, _, p4, p5⟩ := parts_of (d.natAbs / 10000) (d.natAbs % 10000)
  have h1 : x1 (decT d) = decT d := by
    by_cases h : d < 0
    · refine trim_none _ 45 (dec (d.natAbs / 10000) ++ frT (d.natAbs % 10000)) ?_ (by decide)
      unfold decT; rw [if_pos h]; rfl
    · obtain ⟨c, r, hc, hi⟩ := dec_ne (d.natAbs / 10000)
      refine trim_none _ c (r ++ frT (d.natAbs % 10000)) ?_ (dig_blank c hi)
      unfold decT; rw [if_neg h, hc]; rfl
  have h2 : x2 (decT d) = dec (d.natAbs / 10000) ++ frT (d.natAbs % 10000) := by
    unfold x2
    rw [h1]
    unfold unsign
    rw [q1]
    by_cases h : d < 0
    · rw [decide_eq_true h, if_pos rfl]; unfold decT; rw [if_pos h]; rfl
    · rw [decide_eq_false h]
      simp only [Bool.false_eq_true, if_false]
      unfold decT cutP
      rw [if_neg h, List.nil_append, hd_app 43 _ _ (by decide)]; rfl
  have h3 : xW (decT d) = dec (d.natAbs / 10000) := by unfold xW; rw [h2, p4]
  have h5 : x3 (decT d) = frT (d.natAbs % 10000) := by unfold x3; rw [h2, p5]
  have hne : xNone (decT d) = false := by
    unfold xNone
    obtain ⟨c, r, hc, _⟩ := dec_ne (d.natAbs / 10000)
    rw [h3, hc]; rfl
  have hrest : fr ((xF (decT d)).take 4) = d.natAbs % 10000 ∧ x4 (decT d) = [] := by
    unfold xF x4
    rw [h5]
    unfold frT
    by_cases h : d.natAbs % 10000 = 0
    · rw [if_pos h, h]; exact ⟨rfl, rfl⟩
    · rw [if_neg h]
      obtain ⟨_, f2, f3, f4⟩ := fdig_ok (d.natAbs % 10000) (by omega) h4
      have : hd 46 (46 :: fdig (d.natAbs % 10000)) = true := rfl
      rw [this, if_pos rfl, if_pos rfl, List.tail_cons, ldig_all _ f4, rD_dig _ f4, List.take_of_length_le f3]
      exact ⟨f2, rfl⟩
  unfold xV xN
  rw [hne]
  simp only [Bool.false_eq_true, if_false]
  rw [h3, hrest.1, hrest.2, h1, q1, (bw_nv _).1 (by rw [nv_dec]; omega), nv_dec]
  have hs : sgn ((d.natAbs / 10000 * 10000 + d.natAbs % 10000 : Nat) : Int) (decide (d < 0)) = d := by
    unfold sgn
    by_cases h : d < 0
    · rw [decide_eq_true h, if_pos rfl]; omega
    · rw [decide_eq_false h]; simp only [Bool.false_eq_true, if_false]; omega
  rw [hs, near_same d hv]
  exact ⟨rfl, by simp⟩

/-! ### Writing a number that was read -/
theorem txt_of (f : List UInt8) (h : allD f = true) : txt (nv f) f.length = f := by
  have : ∀ k, k ≤ f.length → txt (nv (f.take k)) k = f.take k := by
    intro k
    induction k with
    | zero => intro _; simp [txt]
    | succ k ih =>
      intro hk
      have hd := (isD_iff f[k]).1 (List.all_eq_true.1 h _ (List.getElem_mem (by omega)))
      rw [nv_take f k (by omega), txt_snoc, show (nv (f.take k) * 10 + (f[k].toNat - 48)) / 10 = nv (f.take k) by omega, show (nv (f.take k) * 10 + (f[k].toNat - 48)) % 10 = f[k].toNat - 48 by omega, ih (by omega), List.take_succ_eq_append_getElem (by omega)]
      congr 2
      apply UInt8.toNat_inj.1
      rw [byte_toNat _ (by omega)]; omega
  have h1 := this f.length (Nat.le_refl _)
  rw [List.take_length] at h1; exact h1
theorem last_nv (f : List UInt8) (h : allD f = true) (hn : f ≠ []) : lastB f = decide (nv f % 10 = 0) := by
  have hl : f.length = (f.length - 1) + 1 := by
    have : f.length ≠ 0 := fun hc => hn (List.eq_nil_of_length_eq_zero hc)
    omega
  have h1 := last_txt (nv f) (f.length - 1)
  rw [← hl, txt_of f h] at h1; exact h1

/-- The digits of a fraction are those that it denotes. -/
theorem fdig_of (f : List UInt8) (h : isF f = true) : 0 < fr f ∧ fr f < 10000 ∧ fdig (fr f) = f := by
  have hp := isF_parts f
  have h0 : f ≠ [] := fun hc => by rw [hp.2 (.inl hc)] at h; cases h
  have h4 : f.length ≤ 4 := by
    by_cases hc : 4 < f.length
    · rw [hp.2 (.inr (.inl hc))] at h; cases h
    · omega
  have ha : allD f = true := by
    rcases tf (allD f) with hc | hc
    · exact hc
    · rw [hp.2 (.inr (.inr (.inl hc)))] at h; cases h
  have hl : lastB f = false := by
    rcases tf (lastB f) with hc | hc
    · rw [hp.2 (.inr (.inr (.inr ⟨h0, hc⟩)))] at h; cases h
    · exact hc
  rw [last_nv f ha h0] at hl
  have hl := of_decide_eq_false hl
  have hb := nv_bound f ha
  have ht := txt_of f ha
  have hb2 := fr_bound f ha h4
  have hlen : f.length ≠ 0 := fun hc => h0 (List.eq_nil_of_length_eq_zero hc)
  have hc : f.length = 1 ∨ f.length = 2 ∨ f.length = 3 ∨ f.length = 4 := by omega
  unfold fr at *
  unfold fdig
  rcases hc with e | e | e | e <;> rw [e] at ht hb hb2 ⊢ <;> simp only [Nat.reduceSub, Nat.reducePow] at hb hb2 ⊢
  · rw [if_pos (by omega), show nv f * 1000 / 1000 = nv f by omega]; exact ⟨by omega, hb2, ht⟩
  · rw [if_neg (by omega), if_pos (by omega), show nv f * 100 / 100 = nv f by omega]; exact ⟨by omega, hb2, ht⟩
  · rw [if_neg (by omega), if_neg (by omega), if_pos (by omega), show nv f * 10 / 10 = nv f by omega]; exact ⟨by omega, hb2, ht⟩
  · rw [if_neg (by omega), if_neg (by omega), if_neg (by omega), Nat.mul_one]; exact ⟨by omega, by omega, ht⟩

theorem split_dot (t : List UInt8) : (dotted t = true → t = dotB t ++ 46 :: dotF t) ∧ (dotted t = false → t = dotB t) := by
  induction t with
  | nil => exact ⟨(fun h => by cases h), fun _ => rfl⟩
  | cons c r ih =>
    by_cases hc : c = 46
    · subst hc
      exact ⟨fun _ => rfl, fun h => by unfold dotted at h; simp at h⟩
    · obtain ⟨d1, d2, d3⟩ := dot_cons c r hc
      rw [d1, d2, d3]
      exact ⟨fun h => by rw [List.cons_append, ← ih.1 h], fun h => by rw [← ih.2 h]⟩

/-- Writing what was read. -/
theorem decT_parse (l : List UInt8) (h : pE l = 0) : vB (pV l) = true ∧ decT (pV l) = l := by
  unfold pE at h
  unfold pV
  rcases tf (pBad l) with hb | hb
  · rw [hb] at h; cases h
  rw [hb] at h ⊢
  simp only [Bool.false_eq_true, if_false] at h ⊢
  by_cases hn : 1000000000 < nv (wP l)
  · rw [if_pos hn] at h; cases h
  rw [if_neg hn] at h ⊢
  unfold chkE at h
  unfold chkV
  rcases tf (vB (pX l)) with hv | hv
  rotate_left
  · rw [hv] at h; cases h
  rw [hv, if_pos rfl]
  refine ⟨hv, ?_⟩
  unfold pBad at hb
  simp only [Bool.or_eq_false_iff, Bool.not_eq_false'] at hb
  obtain ⟨hz, _, hdf, hg⟩ := hb
  obtain ⟨v, hw⟩ := dec_of _ _ rfl hg
  have hnv : nv (wP l) = v := by rw [hw, nv_dec]
  -- the fraction
  have hfr : fr (fP l) < 10000 ∧ frT (fr (fP l)) = (if dotted (tP l) then 46 :: dotF (tP l) else []) ∧ (fr (fP l) = 0 ↔ dotted (tP l) = false) := by
    unfold fP fF at hdf ⊢
    rcases tf (dotted (tP l)) with hd | hd
    · rw [hd] at hdf ⊢
      simp only [if_true, Bool.true_and, Bool.not_eq_false'] at hdf ⊢
      obtain ⟨f1, f2, f3⟩ := fdig_of _ hdf
      unfold frT
      rw [if_neg (by omega), f3]
      exact ⟨f2, rfl, by simp; omega⟩
    · rw [hd]
      simp only [Bool.false_eq_true, if_false]
      exact ⟨by decide, rfl, by simp [fr, nv]⟩
  have ht : tP l = dec v ++ frT (fr (fP l)) := by
    rw [hfr.2.1, ← hw]
    unfold wP
    rcases tf (dotted (tP l)) with hd | hd
    · rw [hd, if_pos rfl]; exact (split_dot _).1 hd
    · rw [hd]; simp only [Bool.false_eq_true, if_false]; rw [List.append_nil]; exact (split_dot _).2 hd
  have hm : (pX l).natAbs = v * 10000 + fr (fP l) := by
    unfold pX sgn
    rw [hnv]
    split <;> omega
  have hneg : (pX l < 0) ↔ hd 45 l = true := by
    unfold pX sgn
    rw [hnv]
    rcases tf (hd 45 l) with hM | hM
    · rw [hM] at hz ⊢
      simp only [if_true, Bool.true_and] at hz ⊢
      have : v * 10000 + fr (fP l) ≠ 0 := by
        intro hc
        have h1 : v = 0 := by omega
        have h2 : fr (fP l) = 0 := by omega
        rw [ht, h1, h2] at hz
        have : dec 0 ++ frT 0 = [48] := by rw [dec_small 0 (by decide)]; rfl
        rw [this] at hz
        exact absurd hz (by decide)
      constructor
      · intro _; trivial
      · intro _; omega
    · rw [hM]
      simp only [Bool.false_eq_true, if_false, iff_false]
      omega
  unfold decT
  rw [hm, show (v * 10000 + fr (fP l)) / 10000 = v by omega, show (v * 10000 + fr (fP l)) % 10000 = fr (fP l) by omega, ← ht]
  unfold tP cutP
  rcases tf (hd 45 l) with hM | hM
  · rw [if_pos (hneg.2 hM), hM, if_pos rfl]
    unfold hd at hM
    cases l with
    | nil => cases hM
    | cons c r =>
      simp at hM
      subst hM; rfl
  · rw [if_neg (fun hc => by rw [hneg.1 hc] at hM; cases hM), hM]; rfl

end Go.Proofs.YtdgbfblhiongoaaDoor
