/- '==' and '!=' of two sets; the empty set. -/
import Derived.Test.YtpfbpgbgedbalaaRows
import Derived.Test.YtpfbpgbgedbalaaCsRow
import Derived.Test.YtpfbpgbgedbalaaRtTree
import Derived.ChangeKeysEq
set_option linter.unusedVariables false
namespace Go.Proofs.Ytpfbpgbgedbalaa
open Go.RowKit

set_option maxRecDepth 100000
theorem part_words (a b c d : Int) (w : World) : (part 23 #[.int .u64 a, .int .u64 b, .int .u64 c, .int .u64 d] 0).run Try.prog w = .ok (.agg #[.int .u64 a, .int .u64 b, .int .u64 c, .int .u64 d]) w := by kernel_rfl
theorem part_0 (a b c d : Int) (w : World) : (part 22 #[.int .u64 a, .int .u64 b, .int .u64 c, .int .u64 d] 0).run Try.prog w = .ok (.int .u64 a) w := by kernel_rfl
theorem part_1 (a b c d : Int) (w : World) : (part 22 #[.int .u64 a, .int .u64 b, .int .u64 c, .int .u64 d] 1).run Try.prog w = .ok (.int .u64 b) w := by kernel_rfl
theorem part_2 (a b c d : Int) (w : World) : (part 22 #[.int .u64 a, .int .u64 b, .int .u64 c, .int .u64 d] 2).run Try.prog w = .ok (.int .u64 c) w := by kernel_rfl
theorem part_3 (a b c d : Int) (w : World) : (part 22 #[.int .u64 a, .int .u64 b, .int .u64 c, .int .u64 d] 3).run Try.prog w = .ok (.int .u64 d) w := by kernel_rfl
theorem info_word : ∃ i, Try.prog.info? 22 = some i ∧ Try.prog.cellsOf 22 = 1 := ⟨_, rfl, by kernel_rfl⟩
theorem eq_arr (k : Nat) (a b c d a' b' c' d' : Int) (w : World) : (Op.equalIn (k + 2) 23 (.agg #[.int .u64 a, .int .u64 b, .int .u64 c, .int .u64 d]) (.agg #[.int .u64 a', .int .u64 b', .int .u64 c', .int .u64 d'])).run Try.prog w = .ok (a == a' && (b == b' && (c == c' && d == d'))) w := by
  obtain ⟨i, hi, hc⟩ := info_word
  rw [run_equalIn_array w (k + 1) _ _ Try.underlying23 hi, hc, show List.range 4 = [0, 1, 2, 3] from rfl]
  by_cases h0 : a = a' <;> by_cases h1 : b = b' <;> by_cases h2 : c = c' <;> by_cases h3 : d = d' <;>
    simp [Op.eqItems, part_0, part_1, part_2, part_3, run_equalIn_int w k 22 .u64 .u64 _ _ Try.underlying22, *]
theorem fields_cs : ∃ f : Field, Try.prog.fieldsOf 25 = #[f] ∧ f.name ≠ "_" ∧ f.type = 23 ∧ f.offset = 0 := ⟨_, rfl, by decide, rfl, rfl⟩
theorem equal_cs (a b c d a' b' c' d' : Int) (w : World) : (Op.equalIn 10000 25 (.agg #[.int .u64 a, .int .u64 b, .int .u64 c, .int .u64 d]) (.agg #[.int .u64 a', .int .u64 b', .int .u64 c', .int .u64 d'])).run Try.prog w = .ok (a == a' && (b == b' && (c == c' && d == d'))) w := by
  obtain ⟨f, hf, hn, ht, ho⟩ := fields_cs
  rw [run_equalIn_agg w 9999 25 _ _ (by kernel_rfl) (by kernel_rfl), hf]
  cases hb : (a == a' && (b == b' && (c == c' && d == d'))) <;> simp [Op.eqFields, hn, ht, ho, part_words, eq_arr 9997, hb]
/-- Do two sets hold the same bytes? -/
def eqc (p q : Nat → Bool) : Bool := ((wd p 0 64 : Nat) : Int) == ((wd q 0 64 : Nat) : Int) && (((wd p 64 64 : Nat) : Int) == ((wd q 64 64 : Nat) : Int) && (((wd p 128 64 : Nat) : Int) == ((wd q 128 64 : Nat) : Int) && ((wd p 192 64 : Nat) : Int) == ((wd q 192 64 : Nat) : Int)))
theorem eqc_iff (p q : Nat → Bool) : eqc p q = true ↔ ∀ c, c < 256 → p c = q c := by
  unfold eqc
  simp only [Bool.and_eq_true, beq_iff_eq, Int.natCast_inj]
  constructor
  · rintro ⟨h0, h1, h2, h3⟩ c hc
    by_cases a0 : c < 64
    · simpa using wd_inj p q 0 64 h0 c a0
    · by_cases a1 : c < 128
      · have := wd_inj p q 64 64 h1 (c - 64) (by omega)
        rwa [show 64 + (c - 64) = c by omega] at this
      · by_cases a2 : c < 192
        · have := wd_inj p q 128 64 h2 (c - 128) (by omega)
          rwa [show 128 + (c - 128) = c by omega] at this
        · have := wd_inj p q 192 64 h3 (c - 192) (by omega)
          rwa [show 192 + (c - 192) = c by omega] at this
  · intro h
    exact ⟨wd_congr p q 0 64 fun k hk => h _ (by omega), wd_congr p q 64 64 fun k hk => h _ (by omega), wd_congr p q 128 64 fun k hk => h _ (by omega), wd_congr p q 192 64 fun k hk => h _ (by omega)⟩
theorem eqc_self (p : Nat → Bool) : eqc p p = true := (eqc_iff p p).2 fun _ _ => rfl
theorem eql_cs (p q : Nat → Bool) (w : World) : (binOp .eql 25 (cs p) (cs q)).run Try.prog w = .ok (.bool (eqc p q)) w := by
  unfold cs cl
  rw [run_eql_struct, equal_cs]
  rfl
theorem neq_cs (p q : Nat → Bool) (w : World) : (binOp .neq 25 (cs p) (cs q)).run Try.prog w = .ok (.bool (!eqc p q)) w := by
  unfold cs cl
  rw [run_neq_struct, equal_cs]
  rfl
theorem wd_noSet : (wd noSet 0 64 : Nat) = 0 ∧ (wd noSet 64 64 : Nat) = 0 ∧ (wd noSet 128 64 : Nat) = 0 ∧ (wd noSet 192 64 : Nat) = 0 := by decide +kernel
theorem cmp_full {st : Nat → Bool} (h : eqc st noSet = false) (w : World) : (binOp .neq 25 (.agg #[.int .u64 (wd st 0 64 : Nat), .int .u64 (wd st 64 64 : Nat), .int .u64 (wd st 128 64 : Nat), .int .u64 (wd st 192 64 : Nat)]) (.agg #[.int .u64 0, .int .u64 0, .int .u64 0, .int .u64 0])).run Try.prog w = .ok (.bool true) w := by
  have := neq_cs st noSet w
  rw [h] at this
  unfold cs cl at this
  rw [wd_noSet.1, wd_noSet.2.1, wd_noSet.2.2.1, wd_noSet.2.2.2] at this
  exact this

set_option maxRecDepth 100000 in
set_option maxHeartbeats 8000000 in
theorem cmp_none {st : Nat → Bool} (h : eqc st noSet = true) (w : World) : (binOp .neq 25 (.agg #[.int .u64 (wd st 0 64 : Nat), .int .u64 (wd st 64 64 : Nat), .int .u64 (wd st 128 64 : Nat), .int .u64 (wd st 192 64 : Nat)]) (.agg #[.int .u64 0, .int .u64 0, .int .u64 0, .int .u64 0])).run Try.prog w = .ok (.bool false) w := by
  have := neq_cs st noSet w
  rw [h] at this
  unfold cs cl at this
  rw [wd_noSet.1, wd_noSet.2.1, wd_noSet.2.2.1, wd_noSet.2.2.2] at this
  exact this
end Go.Proofs.Ytpfbpgbgedbalaa
