/- The set of the bytes of a string, and of those between two: the program's. -/
import Derived.Test.YticfhbffoajgcaaGreatDoorRows
import Derived.Test.YticfhbffoajgcaaGreatDoorCsOps
import Derived.StillTailTactics
set_option linter.unusedVariables false
namespace Go.Proofs.YticfhbffoajgcaaGreatDoor
open Go.RowKit

/-- The set of the bytes of a list. -/
def setOf (l : List UInt8) : Nat → Bool := fun c => l.any fun b => c == b.toNat
theorem setOf_nil : setOf [] = fun _ => false := rfl
theorem setOf_next (l : List UInt8) (k : Nat) (h : k < l.length) : setOf (l.take (k + 1)) = ins (setOf (l.take k)) (l[k]).toNat := by
  funext c
  unfold setOf ins
  rw [List.take_add_one, List.getElem?_eq_getElem h, List.any_append]
  simp

/-- From lo on, below n. -/
def rng (lo n : Nat) : Nat → Bool := fun c => decide (lo ≤ c) && decide (c < n)
theorem rng_empty (lo : Nat) : rng lo lo = fun _ => false := by
  funext c
  unfold rng
  by_cases h : lo ≤ c
  · have : ¬ c < lo := by omega
    simp [this]
  · simp [h]
theorem rng_next (lo n : Nat) (h : lo ≤ n) : rng lo (n + 1) = ins (rng lo n) n := by
  funext c
  unfold rng ins
  by_cases h1 : c = n
  · subst h1
    simp [h]
  · by_cases h2 : c < n
    · have : c < n + 1 := by omega
      simp [h1, h2, this]
    · have : ¬ c < n + 1 := by omega
      simp [h1, h2, this]
/-- From lo to hi. -/
def between (lo hi : Nat) : Nat → Bool := fun c => decide (lo ≤ c) && decide (c ≤ hi)
theorem rng_done (lo hi n : Nat) (h1 : hi < n) (h2 : n ≤ hi + 1 ∨ n = lo) : rng lo n = between lo hi := by
  funext c
  unfold rng between
  by_cases a : lo ≤ c
  · rcases h2 with h2 | h2
    · have e : (c < n) = (c ≤ hi) := by simp; omega
      simp [e]
    · have e : ¬ c < n := by omega
      have e2 : ¬ c ≤ hi := by omega
      simp [e, e2]
  · simp [a]

/-- Room for the result and for the set that is made. -/
def V2 (w : World) : World := (w.alloc (.cells #[.int .u64 0, .int .u64 0, .int .u64 0, .int .u64 0] 37)).alloc (.cells #[.int .u64 0, .int .u64 0, .int .u64 0, .int .u64 0] 37)
theorem V2_below (w : World) : Below w.heap.size w (V2 w) := ((Below.refl _ _).alloc (Nat.le_refl _) _).alloc (by simp) _
theorem V2_at (w : World) : At (V2 w) w.heap.size (fun _ => false) ∧ At (V2 w) (w.heap.size + 1) (fun _ => false) := by
  unfold V2
  rw [cl_zero]
  refine ⟨(At.new w _).alloc _, ?_⟩
  have := At.new (w.alloc (.cells (cl fun _ => false) 37)) (fun _ => false)
  simpa using this

theorem or_ins (p : Nat → Bool) (c j : Nat) (h : c / 64 = j) : bits BinOp.or IntKind.u64 ((wd p (64 * j) 64 : Nat) : Int) ((2 : Int) ^ (c % 64)) = ((wd (ins p c) (64 * j) 64 : Nat) : Int) := by
  subst h
  rw [show ((2 : Int) ^ (c % 64)) = ((2 ^ (c % 64) : Nat) : Int) by simp, bits_or_u64_nat _ _ (wd_lt64 _ _) (pow_lt64 c), wd_ins_or]

set_option maxHeartbeats 4000000 in
theorem of_any (s : ByteArray) (hs : s.size ≤ 300) (w : World) : Calls Tryz.prog 186 #[.string s] w fun e w' => e = .returned (cs (setOf s.data.toList)) ∧ Below w.heap.size w w' := by
  have HV := Lib.hid (V2_at w)
  have HB := Lib.hid (V2_below w)
  unfold cs cl
  have hS : (s.size : Int) ≤ 300 := by omega
  go_enter Tryz.func186, Tryz.ntmps186
  go_wp2
  go_loopw [7] (fun i wr => ∃ k : Nat, k ≤ s.size ∧ i = .int .i64 k ∧ Hid (Below w.heap.size w wr ∧ At wr w.heap.size (fun _ => false) ∧ At wr (w.heap.size + 1) (setOf (s.data.toList.take k)))) (fun i _ => s.size - (intOf i).toNat)
  case atStart => exact ⟨0, Nat.zero_le _, rfl, HB.out, HV.out.1, HV.out.2⟩
  case round =>
    obtain ⟨k, hk, rfl, HR⟩ := hrel
    by_cases hlt : k < s.size
    · have hi : (k : Int) < s.size := by omega
      obtain ⟨c, hsc⟩ : ∃ c, s[k].toNat = c := ⟨_, rfl⟩
      have hc : c < 256 := by rw [← hsc]; exact s[k].toNat_lt
      have HN0 := Lib.hid (setOf_next s.data.toList k (by simpa using hlt))
      have e : (s.data.toList[k]'(by simpa using hlt)).toNat = c := hsc
      rw [e] at HN0
      obtain ⟨j, hj⟩ : ∃ j, c / 64 = j := ⟨_, rfl⟩
      have hj4 : j < 4 := by omega
      have hq : (c : Int) / 64 = (j : Int) := by omega
      have hz : IntKind.u8.wrap (j : Int) = (j : Int) := IntWalk.u8_in _ (by omega)
      have hj0 : (j : Int) < 4 := by omega
      obtain ⟨b0, a3, a4⟩ := HR.out
      have c4 := a4.got j hj4
      have f4 := a4.free
      have hk2 := or_ins (setOf (s.data.toList.take k)) c j hj
      have HN := Lib.hid (a4.word (setOf (s.data.toList.take (k + 1))) j hj4 (by rw [HN0.out, ← hj]; exact ins_other _ c) (.int .u64 ((wd (ins (setOf (s.data.toList.take k)) c) (64 * j) 64 : Nat) : Int)) (by rw [HN0.out]))
      clear b0 a3 a4 e
      have hb := Lib.hid (bit_any c hc)
      go_wp2
      go_region_with ((go_at_call 189; refine (hb.out _).mono ?_; rintro e w1 ⟨rfl, rfl⟩))
      all_goals
        go_wp2
        go_roundw
        case rel => exact ⟨k + 1, by omega, by go_num, (HR.out.1.setCell (by simp) _).drew, (HR.out.2.1.apart _ (by omega)).drew, HN.out.drew⟩
        case measure => simp [intOf]; omega
    · obtain rfl : k = s.size := by omega
      obtain ⟨b0, a3, a4⟩ := HR.out
      rw [List.take_of_length_le (by simp)] at a4
      have HA := Lib.hid a3
      obtain ⟨⟨c0, c1⟩, ⟨c2, c3⟩, hf⟩ := a4.words
      obtain ⟨⟨d0, d1⟩, ⟨d2, d3⟩, hg⟩ := a3.words
      clear b0 a3 a4
      go_wp2
      exact bodyPost_ret (v := cs (setOf s.data.toList)) (ret_cs (q := setOf s.data.toList) Tryz.results186 _ _ w.heap.size (by simp) (HA.out.put4 _)) rfl ⟨rfl, below_put4 HR.out.1 _ (by omega) _⟩

set_option maxHeartbeats 4000000 in
theorem range_any (lo hi : Nat) (hl : lo < 256) (hh : hi < 256) (w : World) : Calls Tryz.prog 154 #[.int .u8 lo, .int .u8 hi] w fun e w' => e = .returned (cs (between lo hi)) ∧ Below w.heap.size w w' := by
  have HV := Lib.hid (V2_at w)
  have HB := Lib.hid (V2_below w)
  unfold cs cl
  go_enter Tryz.func154, Tryz.ntmps154
  go_wp2
  go_loopw [6] (fun i wr => ∃ n : Nat, lo ≤ n ∧ (n ≤ hi + 1 ∨ n = lo) ∧ i = .int .i64 n ∧ Hid (Below w.heap.size w wr ∧ At wr w.heap.size (fun _ => false) ∧ At wr (w.heap.size + 1) (rng lo n))) (fun i _ => 256 - (intOf i).toNat)
  case atStart => exact ⟨lo, Nat.le_refl _, Or.inr rfl, by go_num, HB.out, HV.out.1, by rw [rng_empty]; exact HV.out.2⟩
  case round =>
    obtain ⟨n, hn, hd, rfl, HR⟩ := hrel
    by_cases hlt : n ≤ hi
    · have hi1 : (n : Int) ≤ hi := by omega
      have hc : n < 256 := by omega
      have hw : IntKind.u8.wrap (n : Int) = (n : Int) := IntWalk.u8_in _ (by omega)
      obtain ⟨j, hj⟩ : ∃ j, n / 64 = j := ⟨_, rfl⟩
      have hj4 : j < 4 := by omega
      have hq : (n : Int) / 64 = (j : Int) := by omega
      have hq2 : (n : Int).tdiv 64 = (j : Int) := by rw [Int.tdiv_eq_ediv_of_nonneg (by omega)]; exact hq
      have hq3 : IntKind.i64.wrap (j : Int) = (j : Int) := IntWalk.i64_in _ (by omega)
      have hj00 : (0 : Int) ≤ (j : Int) := by omega
      have hj0 : (j : Int) < 4 := by omega
      obtain ⟨b0, a3, a4⟩ := HR.out
      have c4 := a4.got j hj4
      have f4 := a4.free
      have hk2 := or_ins (rng lo n) n j hj
      have HN := Lib.hid (a4.word (rng lo (n + 1)) j hj4 (by rw [rng_next lo n hn, ← hj]; exact ins_other _ n) (.int .u64 ((wd (ins (rng lo n) n) (64 * j) 64 : Nat) : Int)) (by rw [rng_next lo n hn]))
      clear b0 a3 a4
      have hb := Lib.hid (bit_any n hc)
      have HD := Lib.hid hd
      clear hd
      go_wp2
      go_region_with ((go_at_call 189; refine (hb.out _).mono ?_; rintro e w1 ⟨rfl, rfl⟩))
      all_goals
        go_wp2
        go_roundw
        case rel => exact ⟨n + 1, by omega, Or.inl (by omega), by go_num, (HR.out.1.setCell (by simp) _).drew, (HR.out.2.1.apart _ (by omega)).drew, HN.out.drew⟩
        case measure => simp [intOf]; omega
    · have hi1 : ¬ (n : Int) ≤ hi := by omega
      have HD := Lib.hid hd
      obtain ⟨b0, a3, a4⟩ := HR.out
      rw [rng_done lo hi n (by omega) hd] at a4
      have HA := Lib.hid a3
      obtain ⟨⟨c0, c1⟩, ⟨c2, c3⟩, hf⟩ := a4.words
      obtain ⟨⟨d0, d1⟩, ⟨d2, d3⟩, hg⟩ := a3.words
      clear b0 a3 a4 hd
      go_wp2
      exact bodyPost_ret (v := cs (between lo hi)) (ret_cs (q := between lo hi) Tryz.results154 _ _ w.heap.size (by simp) (HA.out.put4 _)) rfl ⟨rfl, below_put4 HR.out.1 _ (by omega) _⟩
end Go.Proofs.YticfhbffoajgcaaGreatDoor
