/- The number of bytes in a set, and their list. -/
import Derived.Test.YticfhbffoajgcaaGreatDoorRows
import Derived.Test.YticfhbffoajgcaaGreatDoorCsRefB
set_option linter.unusedVariables false
namespace Go.Proofs.YticfhbffoajgcaaGreatDoor
open Go.RowKit

/-- How many are in the first k words. -/
def en (p : Nat → Bool) (k : Nat) : Nat := (el p (64 * k)).length
theorem en_zero (p : Nat → Bool) : en p 0 = 0 := rfl
theorem en_next (p : Nat → Bool) (k : Nat) : en p (k + 1) = en p k + ct p (64 * k) 64 := by
  unfold en
  rw [show 64 * (k + 1) = 64 * k + 64 by omega, ct_el]
theorem en_le (p : Nat → Bool) (k : Nat) : en p k ≤ 64 * k := el_length_le p _

theorem index_cl (p : Nat → Bool) (k : Nat) (hk : k < 4) (w : World) : (Instr.index 35 (.agg #[.int .u64 (wd p 0 64 : Nat), .int .u64 (wd p 64 64 : Nat), .int .u64 (wd p 128 64 : Nat), .int .u64 (wd p 192 64 : Nat)]) (.int .i64 (k : Int))).run Tryz.prog w = .ok (.int .u64 ((wd p (64 * k) 64 : Nat) : Int)) w := by
  have h4 : k = 0 ∨ k = 1 ∨ k = 2 ∨ k = 3 := by omega
  rcases h4 with rfl | rfl | rfl | rfl
  all_goals (refine Eq.trans ?_ rfl; kernel_rfl)

/-- The array of 256 bytes whose first ones are done. -/
def rowOf (l : List Nat) : Array Value := (l.map (fun n => Value.int .u8 ((n : Nat) : Int)) ++ List.replicate (256 - l.length) (Value.int .u8 0)).toArray
theorem rowOf_nil : rowOf [] = Array.replicate 256 (.int .u8 0) := by
  unfold rowOf
  rw [List.map_nil, List.nil_append, List.length_nil, Nat.sub_zero, List.toArray_replicate]
theorem rowOf_at (l : List Nat) (h : l.length < 256) : (rowOf l)[l.length]? = some (.int .u8 0) := by
  unfold rowOf
  rw [List.getElem?_toArray, List.getElem?_append_right (by simp), List.getElem?_replicate, if_pos (by simp; omega)]
theorem rowOf_set (l : List Nat) (x : Nat) (h : l.length < 256) : (rowOf l).setIfInBounds l.length (.int .u8 ((x : Nat) : Int)) = rowOf (l ++ [x]) := by
  unfold rowOf
  obtain ⟨m, hm⟩ : ∃ m, 256 - l.length = m + 1 := ⟨256 - l.length - 1, by omega⟩
  have hm2 : 256 - (l ++ [x]).length = m := by simp; omega
  rw [hm, hm2, List.setIfInBounds_toArray, List.set_append_right _ _ (by simp)]
  simp [List.replicate_succ]
theorem rowOf_get (l : List Nat) (j : Nat) (h : j < l.length) : (rowOf l)[j]? = some (.int .u8 ((l[j] : Nat) : Int)) := by
  unfold rowOf
  rw [List.getElem?_toArray, List.getElem?_append_left (by simpa using h)]
  simp [h]

/-- The list as bytes. -/
def bl (l : List Nat) : List UInt8 := l.map UInt8.ofNat
theorem bl_length (l : List Nat) : (bl l).length = l.length := by simp [bl]
theorem el_lt (p : Nat → Bool) (n x : Nat) (h : x ∈ el p n) : x < n := ((mem_el p n x).1 h).1

theorem tab_keep {w w' : World} (h : tabAt w) (hb : Below w.heap.size w w') : tabAt w' := fun j hj => keep_words hb (h j hj)

/-- What a word still has to tell: the bytes from j on. -/
def rest (p : Nat → Bool) (b j x : Nat) : Prop := x < 2 ^ 64 ∧ ∀ m, m < 64 → x.testBit m = (decide (j ≤ m) && p (b + m))
theorem rest_start (p : Nat → Bool) (b : Nat) : rest p b 0 (wd p b 64) := ⟨wd_lt p b 64, fun m hm => by rw [wd_bit]; simp [hm]⟩
theorem rest_end (p : Nat → Bool) (b j : Nat) (hj : j ≤ 64) (h : rest p b j 0) : el p (b + 64) = el p (b + j) := by
  rw [show b + 64 = b + j + (64 - j) by omega]
  apply el_none
  intro k h1 h2
  have := h.2 (k - b) (by omega)
  rw [Nat.zero_testBit] at this
  have e1 : j ≤ k - b := by omega
  have e2 : b + (k - b) = k := by omega
  rw [e2] at this
  simpa [e1] using this.symm
theorem rest_next (p : Nat → Bool) (b j x : Nat) (h0 : x ≠ 0) (h : rest p b j x) : Lib.ctz 64 x < 64 ∧ j ≤ Lib.ctz 64 x ∧ el p (b + (Lib.ctz 64 x + 1)) = el p (b + j) ++ [b + Lib.ctz 64 x] ∧ rest p b (Lib.ctz 64 x + 1) (x &&& (x - 1)) := by
  obtain ⟨ht, hb, hz, ha⟩ := ctz_bit x h0 h.1
  generalize Lib.ctz 64 x = t at *
  have h1 := h.2 t ht
  rw [hb] at h1
  simp at h1
  obtain ⟨h2, h3⟩ := h1
  refine ⟨ht, h2, ?_, Nat.lt_of_le_of_lt Nat.and_le_left h.1, ?_⟩
  · rw [← Nat.add_assoc, el_succ, h3, if_pos rfl]
    congr 1
    rw [show b + t = b + j + (t - j) by omega]
    apply el_none
    intro k k1 k2
    have := h.2 (k - b) (by omega)
    rw [hz (k - b) (by omega)] at this
    have e1 : j ≤ k - b := by omega
    have e2 : b + (k - b) = k := by omega
    rw [e2] at this
    simpa [e1] using this.symm
  · intro m hm
    rw [ha, h.2 m hm]
    by_cases c1 : m = t
    · subst c1
      have : ¬ m + 1 ≤ m := by omega
      simp [this]
    · by_cases c2 : m < t
      · have e := h.2 m hm
        rw [hz m c2] at e
        have : ¬ t + 1 ≤ m := by omega
        rw [← e]
        simp [this]
      · have k1 : t + 1 ≤ m := by omega
        have k2 : j ≤ m := by omega
        simp [c1, k1, k2]

/-- The world in which List stands. -/
def WL (w : World) (p : Nat → Bool) (l : List Nat) : World := (w.alloc (.cells (cl p) 37)).alloc (.cells (rowOf l) 87)
theorem WL_below (w : World) (p : Nat → Bool) (l : List Nat) : Below w.heap.size w (WL w p l) := ((Below.refl _ _).alloc (Nat.le_refl _) _).alloc (by simp) _

set_option maxRecDepth 100000 in
set_option maxHeartbeats 4000000 in
theorem list_any (p : Nat → Bool) (w : World) (hT : tabAt w) : Calls Tryz.prog 104 #[cs p] w fun e w' => e = .returned (.string ⟨(bl (el p 256)).toArray⟩) ∧ Below w.heap.size w w' := by
  have HT := Lib.hid hT
  clear hT
  have HB := Lib.hid (WL_below w p)
  unfold cs cl at *
  have hv : ∀ w : World, (zeroValue 87).run Tryz.prog w = .ok (.agg (Array.replicate 256 (.int .u8 0))) w := fun _ => by kernel_rfl
  go_enter Tryz.func104, Tryz.ntmps104
  go_wp2
  rw [← rowOf_nil]
  go_loopw [4, 9] (fun c i wr => ∃ k : Nat, k ≤ 4 ∧ i = .int .i64 k ∧ c = .int .i64 ((el p (64 * k)).length : Nat) ∧ wr = (w.alloc (.cells #[.int .u64 (wd p 0 64 : Nat), .int .u64 (wd p 64 64 : Nat), .int .u64 (wd p 128 64 : Nat), .int .u64 (wd p 192 64 : Nat)] 37)).alloc (.cells (rowOf (el p (64 * k))) 87)) (fun _ i _ => 4 - (intOf i).toNat)
  case atStart => exact ⟨0, Nat.zero_le _, rfl, rfl, rfl⟩
  case round =>
    obtain ⟨k, hk, rfl, rfl, rfl⟩ := hrel
    by_cases hlt : k < 4
    · have hi : (k : Int) < 4 := by omega
      have ik := index_cl p k hlt
      have HR0 := Lib.hid (rest_start p (64 * k))
      go_wp2
      go_loopw [4, 6] (fun c x wr => ∃ j X : Nat, j ≤ 64 ∧ x = .int .u64 (X : Nat) ∧ Hid (rest p (64 * k) j X) ∧ c = .int .i64 ((el p (64 * k + j)).length : Nat) ∧ wr = (w.alloc (.cells #[.int .u64 (wd p 0 64 : Nat), .int .u64 (wd p 64 64 : Nat), .int .u64 (wd p 128 64 : Nat), .int .u64 (wd p 192 64 : Nat)] 37)).alloc (.cells (rowOf (el p (64 * k + j))) 87)) (fun _ x _ => (intOf x).toNat)
      case atStart => exact ⟨0, _, Nat.zero_le _, rfl, HR0.out, rfl, rfl⟩
      case round =>
        obtain ⟨j, X, hj, rfl, HX, rfl, rfl⟩ := hrel
        by_cases hx : X = 0
        · subst hx
          have HX2 := Lib.hid (rest_end p (64 * k) j hj HX.out)
          go_wp2
          go_roundw
          case rel => exact ⟨k + 1, by omega, by go_num, by rw [show 64 * (k + 1) = 64 * k + 64 by omega, HX2.out], by rw [show 64 * (k + 1) = 64 * k + 64 by omega, HX2.out]⟩
          case measure => simp [intOf]; omega
        · have hX64 : X < 18446744073709551616 := HX.out.1
          obtain ⟨ht, hjt, hel, hre⟩ := rest_next p (64 * k) j X hx HX.out
          have Htz := Lib.hid (fun w' (h : tabAt w') => tz_any X hX64 hx w' h)
          obtain ⟨t, hte⟩ : ∃ t, t = Lib.ctz 64 X := ⟨_, rfl⟩
          rw [← hte] at ht hjt hel hre Htz
          have hle := el_length_le p (64 * k + j)
          have hlen : (el p (64 * k + j)).length < 256 := by omega
          obtain ⟨E, hE⟩ : ∃ E, E = el p (64 * k + j) := ⟨_, rfl⟩
          rw [← hE] at hlen hel ⊢
          have HEl := Lib.hid hel
          have HRe := Lib.hid hre
          have hne : ((X : Int) == 0) = false := by simp; omega
          have hne1 : ((X : Int) != 0) = true := by simp; omega
          obtain ⟨Y, hY⟩ : ∃ Y, X - 1 = Y := ⟨_, rfl⟩
          obtain ⟨Z, hZ⟩ : ∃ Z, X &&& (X - 1) = Z := ⟨_, rfl⟩
          have hsub : IntKind.u64.wrap ((X : Int) - 1) = (Y : Int) := by rw [IntKind.wrap_u64]; omega
          have hand : bits BinOp.and IntKind.u64 (X : Int) (Y : Int) = (Z : Int) := by rw [← hZ, hY]; exact and64 X Y hX64 (by omega)
          have hby : IntKind.u8.wrap ((k : Int) * 64 + (t : Int)) = ((64 * k + t : Nat) : Int) := by rw [IntWalk.u8_in _ (by omega)]; omega
          have hat := rowOf_at E hlen
          have hset := rowOf_set E (64 * k + t) hlen
          have Hless : Hid (Z < X) := by rw [← hZ]; exact Nat.lt_of_le_of_lt Nat.and_le_right (by omega)
          rw [hZ] at HRe
          obtain ⟨G, hG⟩ : ∃ G, G = 64 * k + t := ⟨_, rfl⟩
          rw [← hG] at hby hset HEl
          have HG := Lib.hid hG
          obtain ⟨n, hn⟩ : ∃ n, E.length = n := ⟨_, rfl⟩
          rw [hn] at hat hset hlen ⊢
          have HN := Lib.hid hn
          have hn0 : (0 : Int) ≤ (n : Int) := by omega
          have hlt2 : (n : Int) < 256 := by omega
          clear hn
          clear hel hre hE hte hY hZ hle hG hX64
          go_wp2_with (first | (go_at_call 146; refine (Htz.out _ (by exact tab_keep HT.out (HB.out E))).mono ?_; rintro e w1 ⟨rfl, rfl⟩))
          go_roundw
          case rel => exact ⟨t + 1, Z, by omega, rfl, HRe.out, by rw [HEl.out, List.length_append, HN.out]; simp, by rw [HEl.out]⟩
          case measure => simp [intOf]; exact Hless.out
    · obtain rfl : k = 4 := by omega
      have ha : Tryz.prog.arrayLen 87 = 256 := by kernel_rfl
      have hle := el_length_le p 256
      have hle2 : (((el p 256).length : Nat) : Int) ≤ 256 := by omega
      have hcv : (convert 80 9 (.slice (some ⟨w.heap.size + 1, 0, none⟩) (el p 256).length 256)).run Tryz.prog (WL w p (el p 256)) = .ok (.string ⟨(bl (el p 256)).toArray⟩) (WL w p (el p 256)) := by
        have := run_convert_bytes_back (P := Tryz.prog) (WL w p (el p 256)) 80 9 5 ⟨w.heap.size + 1, 0, none⟩ 256 (bl (el p 256)) Tryz.underlying80 Tryz.underlying5 Tryz.underlying9 (fun j hj => by
          rw [bl_length] at hj
          have e0 : ((⟨w.heap.size + 1, 0, none⟩ : Addr).add j) = ⟨w.heap.size + 1, j, none⟩ := by unfold Addr.add; split <;> simp_all
          have e1 : (WL w p (el p 256)).heap[w.heap.size + 1]? = some (.cells (rowOf (el p 256)) 87 (0, 0)) := heap_alloc2_new w _ _
          rw [e0, cell_of_row _ _ j _ _ _ e1, rowOf_get _ j hj]
          have e2 := el_lt p 256 _ (List.getElem_mem hj)
          simp [bl]
          omega)
        rw [bl_length] at this
        exact this
      unfold WL cl at hcv
      clear hle
      go_wp2
      go_ret
      exact ⟨rfl, HB.out (el p 256)⟩
end Go.Proofs.YticfhbffoajgcaaGreatDoor
