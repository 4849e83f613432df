/- LcEq. -/
import Derived.Test.YtphiaagppcbefaaGreatDoorRows
import Derived.Test.YtphiaagppcbefaaGreatDoorPs7
import Derived.ChangeKeysEq
set_option linter.unusedVariables false
namespace Go.Proofs.YtphiaagppcbefaaGreatDoor
open Go.RowKit
set_option maxRecDepth 100000
theorem part_words (a b c d : Int) (w : World) : (part 30 #[.int .u64 a, .int .u64 b, .int .u64 c, .int .u64 d] 0).run Tryz.prog w = .ok (.agg #[.int .u64 a, .int .u64 b, .int .u64 c, .int .u64 d]) w := by kernel_rfl
theorem part_0 (a b c d : Int) (w : World) : (part 29 #[.int .u64 a, .int .u64 b, .int .u64 c, .int .u64 d] 0).run Tryz.prog w = .ok (.int .u64 a) w := by kernel_rfl
theorem part_1 (a b c d : Int) (w : World) : (part 29 #[.int .u64 a, .int .u64 b, .int .u64 c, .int .u64 d] 1).run Tryz.prog w = .ok (.int .u64 b) w := by kernel_rfl
theorem part_2 (a b c d : Int) (w : World) : (part 29 #[.int .u64 a, .int .u64 b, .int .u64 c, .int .u64 d] 2).run Tryz.prog w = .ok (.int .u64 c) w := by kernel_rfl
theorem part_3 (a b c d : Int) (w : World) : (part 29 #[.int .u64 a, .int .u64 b, .int .u64 c, .int .u64 d] 3).run Tryz.prog w = .ok (.int .u64 d) w := by kernel_rfl
theorem info_word : ∃ i, Tryz.prog.info? 29 = some i ∧ Tryz.prog.cellsOf 29 = 1 := ⟨_, rfl, by kernel_rfl⟩
theorem eq_arr (k : Nat) (a b c d a' b' c' d' : Int) (w : World) : (Op.equalIn (k + 2) 30 (.agg #[.int .u64 a, .int .u64 b, .int .u64 c, .int .u64 d]) (.agg #[.int .u64 a', .int .u64 b', .int .u64 c', .int .u64 d'])).run Tryz.prog w = .ok (a == a' && (b == b' && (c == c' && d == d'))) w := by
  obtain ⟨i, hi, hc⟩ := info_word
  rw [run_equalIn_array w (k + 1) _ _ Tryz.underlying30 hi, hc, show List.range 4 = [0, 1, 2, 3] from rfl]
  by_cases h0 : a = a' <;> by_cases h1 : b = b' <;> by_cases h2 : c = c' <;> by_cases h3 : d = d' <;>
    simp [Op.eqItems, part_0, part_1, part_2, part_3, run_equalIn_int w k 29 .u64 .u64 _ _ Tryz.underlying29, *]
theorem fields_cs : ∃ f : Field, Tryz.prog.fieldsOf 32 = #[f] ∧ f.name ≠ "_" ∧ f.type = 30 ∧ f.offset = 0 := ⟨_, rfl, by decide, rfl, rfl⟩
theorem equal_cs (a b c d a' b' c' d' : Int) (w : World) : (Op.equalIn 10000 32 (.agg #[.int .u64 a, .int .u64 b, .int .u64 c, .int .u64 d]) (.agg #[.int .u64 a', .int .u64 b', .int .u64 c', .int .u64 d'])).run Tryz.prog w = .ok (a == a' && (b == b' && (c == c' && d == d'))) w := by
  obtain ⟨f, hf, hn, ht, ho⟩ := fields_cs
  rw [run_equalIn_agg w 9999 32 _ _ (by kernel_rfl) (by kernel_rfl), hf]
  cases hb : (a == a' && (b == b' && (c == c' && d == d'))) <;> simp [Op.eqFields, hn, ht, ho, part_words, eq_arr 9997, hb]
def eqc (p q : Nat → Bool) : Bool := ((wd p 0 64 : Nat) : Int) == ((wd q 0 64 : Nat) : Int) && (((wd p 64 64 : Nat) : Int) == ((wd q 64 64 : Nat) : Int) && (((wd p 128 64 : Nat) : Int) == ((wd q 128 64 : Nat) : Int) && ((wd p 192 64 : Nat) : Int) == ((wd q 192 64 : Nat) : Int)))
theorem eqc_iff (p q : Nat → Bool) : eqc p q = true ↔ ∀ c, c < 256 → p c = q c := by
  unfold eqc
  simp only [Bool.and_eq_true, beq_iff_eq, Int.natCast_inj]
  constructor
  · rintro ⟨h0, h1, h2, h3⟩ c hc
    by_cases a0 : c < 64
    · simpa using wd_inj p q 0 64 h0 c a0
    · by_cases a1 : c < 128
      · have := wd_inj p q 64 64 h1 (c - 64) (by omega)
        rwa [show 64 + (c - 64) = c by omega] at this
      · by_cases a2 : c < 192
        · have := wd_inj p q 128 64 h2 (c - 128) (by omega)
          rwa [show 128 + (c - 128) = c by omega] at this
        · have := wd_inj p q 192 64 h3 (c - 192) (by omega)
          rwa [show 192 + (c - 192) = c by omega] at this
  · intro h
    exact ⟨wd_congr p q 0 64 fun k hk => h _ (by omega), wd_congr p q 64 64 fun k hk => h _ (by omega), wd_congr p q 128 64 fun k hk => h _ (by omega), wd_congr p q 192 64 fun k hk => h _ (by omega)⟩
theorem eqc_self (p : Nat → Bool) : eqc p p = true := (eqc_iff p p).2 fun _ _ => rfl
theorem eql_cs (p q : Nat → Bool) (w : World) : (binOp .eql 32 (cs p) (cs q)).run Tryz.prog w = .ok (.bool (eqc p q)) w := by
  unfold cs cl
  rw [run_eql_struct, equal_cs]
  rfl
theorem neq_cs (p q : Nat → Bool) (w : World) : (binOp .neq 32 (cs p) (cs q)).run Tryz.prog w = .ok (.bool (!eqc p q)) w := by
  unfold cs cl
  rw [run_neq_struct, equal_cs]
  rfl
end Go.Proofs.YtphiaagppcbefaaGreatDoor
