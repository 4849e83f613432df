/- '==' of two sets that are the same. -/
import Derived.Test.YtaodginhdfjpaaaDoorRows
import Derived.Test.YtaodginhdfjpaaaDoorCsRList
import Derived.ChangeKeysEq
set_option linter.unusedVariables false
namespace Go.Proofs.YtaodginhdfjpaaaDoor
open Go.RowKit

theorem part_words (a b c d : Int) (w : World) : (part 24 #[.int .u64 a, .int .u64 b, .int .u64 c, .int .u64 d] 0).run Tryd.prog w = .ok (.agg #[.int .u64 a, .int .u64 b, .int .u64 c, .int .u64 d]) w := by kernel_rfl
theorem part_0 (a b c d : Int) (w : World) : (part 23 #[.int .u64 a, .int .u64 b, .int .u64 c, .int .u64 d] 0).run Tryd.prog w = .ok (.int .u64 a) w := by kernel_rfl
theorem part_1 (a b c d : Int) (w : World) : (part 23 #[.int .u64 a, .int .u64 b, .int .u64 c, .int .u64 d] 1).run Tryd.prog w = .ok (.int .u64 b) w := by kernel_rfl
theorem part_2 (a b c d : Int) (w : World) : (part 23 #[.int .u64 a, .int .u64 b, .int .u64 c, .int .u64 d] 2).run Tryd.prog w = .ok (.int .u64 c) w := by kernel_rfl
theorem part_3 (a b c d : Int) (w : World) : (part 23 #[.int .u64 a, .int .u64 b, .int .u64 c, .int .u64 d] 3).run Tryd.prog w = .ok (.int .u64 d) w := by kernel_rfl
theorem info_word : ∃ i, Tryd.prog.info? 23 = some i ∧ Tryd.prog.cellsOf 23 = 1 := ⟨_, rfl, by kernel_rfl⟩
theorem eq_arr (k : Nat) (a b c d : Int) (w : World) : (Op.equalIn (k + 2) 24 (.agg #[.int .u64 a, .int .u64 b, .int .u64 c, .int .u64 d]) (.agg #[.int .u64 a, .int .u64 b, .int .u64 c, .int .u64 d])).run Tryd.prog w = .ok true w := by
  obtain ⟨i, hi, hc⟩ := info_word
  rw [run_equalIn_array w (k + 1) _ _ Tryd.underlying24 hi, hc, show List.range 4 = [0, 1, 2, 3] from rfl]
  simp [Op.eqItems, part_0, part_1, part_2, part_3, run_equalIn_int w k 23 .u64 .u64 _ _ Tryd.underlying23]
theorem fields_cs : ∃ f : Field, Tryd.prog.fieldsOf 26 = #[f] ∧ f.name ≠ "_" ∧ f.type = 24 ∧ f.offset = 0 := ⟨_, rfl, by decide, rfl, rfl⟩
theorem eql_same (a b c d : Int) (w : World) : (binOp .eql 26 (.agg #[.int .u64 a, .int .u64 b, .int .u64 c, .int .u64 d]) (.agg #[.int .u64 a, .int .u64 b, .int .u64 c, .int .u64 d])).run Tryd.prog w = .ok (.bool true) w := by
  obtain ⟨f, hf, hn, ht, ho⟩ := fields_cs
  rw [run_eql_struct, run_equalIn_agg w 9999 26 _ _ (by kernel_rfl) (by kernel_rfl), hf]
  simp [Op.eqFields, hn, ht, ho, part_words, eq_arr 9997]
end Go.Proofs.YtaodginhdfjpaaaDoor
