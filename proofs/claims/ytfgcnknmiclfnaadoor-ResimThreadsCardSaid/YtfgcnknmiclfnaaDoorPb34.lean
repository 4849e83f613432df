/- RsShA. -/
import Derived.Test.YtfgcnknmiclfnaaDoorPb31
set_option linter.unusedVariables false
set_option maxRecDepth 100000
set_option maxHeartbeats 8000000
namespace Go.Proofs.YtfgcnknmiclfnaaDoor
open Go.RowKit
theorem op_four {L : List IN} {k : Nat} {x : IN} (h : opAt L k 4 = false) (hx : L[k]? = some x) : x.op ≠ 4 := by
  unfold opAt at h
  rw [hx] at h
  simpa using h
theorem sucs_nobeg {L : List IN} (h : ∀ k, opAt L k 4 = false) (b1 b2 e : Bool) : sucs L b1 e = sucs L b2 e := by
  funext k
  unfold sucs
  cases hx : L[k]? with
  | none => rfl
  | some x =>
    have := op_four (h k) hx
    simp [this]
theorem enB_shift (ln : Bool) (pre s : List UInt8) (i : Nat) : enB ln (pre ++ s) (pre.length + i) = enB ln s i := by
  unfold enB
  rw [List.getElem?_append_right (by omega), show pre.length + i - pre.length = i by omega, show (decide (pre.length + i = (pre ++ s).length)) = decide (i = s.length) by
    rw [List.length_append]
    by_cases h : i = s.length
    · simp [h]
    · simp [h]]
theorem stp_shift {L : List IN} (h : ∀ k, opAt L k 4 = false) (ln : Bool) (pre s : List UInt8) (i : Nat) : stp L ln (pre ++ s) (pre.length + i) = stp L ln s i := by
  unfold stp
  rw [enB_shift]
  exact sucs_nobeg h _ _ _
theorem rd_right {L : List IN} (h : ∀ k, opAt L k 4 = false) {ln : Bool} {pre s : List UInt8} {f i b : Nat} (hr : Rd L ln s f i b) : Rd L ln (pre ++ s) (pre.length + f) (pre.length + i) b := by
  induction hr with
  | beg hb => exact .beg (by rw [stp_shift h]; exact hb)
  | @adv i a b x c h1 h2 h3 h4 h5 h6 ih =>
    exact .adv (i := pre.length + i) ih h2 h3 (by rw [List.getElem?_append_right (by omega), show pre.length + i - pre.length = i by omega]; exact h4) h5 (by
      rw [show pre.length + i + 1 = pre.length + (i + 1) by omega, stp_shift h]; exact h6)
theorem rd_left {L : List IN} (h : ∀ k, opAt L k 4 = false) {ln : Bool} {pre s : List UInt8} {f i b : Nat} (hr : Rd L ln (pre ++ s) (pre.length + f) i b) : ∃ j, i = pre.length + j ∧ Rd L ln s f j b := by
  generalize hf : pre.length + f = F at hr
  induction hr with
  | beg hb =>
    refine ⟨f, hf.symm, .beg ?_⟩
    rw [← hf, stp_shift h] at hb
    exact hb
  | @adv i a b x c h1 h2 h3 h4 h5 h6 ih =>
    obtain ⟨j, hj, hr⟩ := ih
    subst hj
    rw [List.getElem?_append_right (by omega), show pre.length + j - pre.length = j by omega] at h4
    rw [show pre.length + j + 1 = pre.length + (j + 1) by omega, stp_shift h] at h6
    exact ⟨j + 1, by omega, .adv hr h2 h3 h4 h5 h6⟩
theorem mt_shift {L : List IN} (h : ∀ k, opAt L k 4 = false) {ln : Bool} {pre s : List UInt8} {f e : Nat} : Mt L ln (pre ++ s) (pre.length + f) e ↔ ∃ e', e = pre.length + e' ∧ Mt L ln s f e' := by
  constructor
  · rintro ⟨h1, b, h2, h3⟩
    obtain ⟨j, rfl, hr⟩ := rd_left h h3
    rw [List.length_append] at h1
    exact ⟨j, rfl, by omega, b, h2, hr⟩
  · rintro ⟨e', rfl, h1, b, h2, h3⟩
    exact ⟨by rw [List.length_append]; omega, b, h2, rd_right h h3⟩
theorem ls_shift {L : List IN} (h : ∀ k, opAt L k 4 = false) {ln : Bool} {pre s : List UInt8} {n t1 t2 : Nat} {k1 k2 : Bool} (h1 : LSpec L ln s (n : Int) t1 k1) (h2 : LSpec L ln (pre ++ s) ((pre.length + n : Nat) : Int) t2 k2) : k1 = k2 ∧ (k1 = true → t2 = t1 + pre.length) := by
  rcases h1 with ⟨rfl, hv, n', e1, a1, a2⟩ | ⟨rfl, rfl, a1⟩
  · obtain rfl : n = n' := by omega
    rcases h2 with ⟨rfl, _, m', e2, b1, b2⟩ | ⟨rfl, rfl, b1⟩
    · obtain rfl : pre.length + n = m' := by omega
      obtain ⟨e', rfl, c1⟩ := (mt_shift h).1 b1
      have d1 := a2 e' c1
      have d2 := b2 (pre.length + t1) ((mt_shift h).2 ⟨t1, rfl, a1⟩)
      exact ⟨rfl, fun _ => by omega⟩
    · exact absurd ((mt_shift h).2 ⟨t1, rfl, a1⟩) (b1 hv _ rfl _)
  · rcases h2 with ⟨rfl, hv, m', e2, b1, b2⟩ | ⟨rfl, rfl, b1⟩
    · obtain rfl : pre.length + n = m' := by omega
      obtain ⟨e', rfl, c1⟩ := (mt_shift h).1 b1
      exact absurd c1 (a1 hv n rfl e')
    · exact ⟨rfl, fun h => by cases h⟩
theorem ss_later {L : List IN} {ln : Bool} {s : List UInt8} {n i mf mt mf' mt' : Nat} {ok : Bool} (h : SSpec L ln s (n : Int) mf mt true) (hn : n ≤ i) (hi : i ≤ mf) (h' : SSpec L ln s (i : Int) mf' mt' ok) : ok = true ∧ mf' = mf ∧ mt' = mt := by
  rcases h with ⟨_, hv, _, h1, h2, h3, h4⟩ | ⟨h, _⟩
  · rcases h' with ⟨rfl, _, _, g1, g2, g3, g4⟩ | ⟨rfl, _, _, g1⟩
    · have e1 : ¬ mf < mf' := fun hl => g4 mf mt (by omega) hl h2
      have e2 : ¬ mf' < mf := fun hl => h4 mf' mt' (by omega) hl g2
      obtain rfl : mf' = mf := by omega
      have a := h3 _ g2
      have b := g3 _ h2
      exact ⟨rfl, rfl, by omega⟩
    · exact absurd h2 (g1 hv (by omega) mf mt (by omega))
  · cases h
theorem ss_from {L : List IN} {ln : Bool} {s : List UInt8} {n mf mt : Nat} {ok : Bool} (h : SSpec L ln s (n : Int) mf mt ok) : mf ≤ s.length ∧ mt ≤ s.length ∧ (ok = true → n ≤ mf) := by
  rcases h with ⟨_, hv, _, h1, h2, h3, h4⟩ | ⟨rfl, rfl, rfl, _⟩
  · exact ⟨Nat.le_trans h2.le h2.1, h2.1, fun _ => by omega⟩
  · exact ⟨Nat.zero_le _, Nat.zero_le _, fun h => by cases h⟩
end Go.Proofs.YtfgcnknmiclfnaaDoor
