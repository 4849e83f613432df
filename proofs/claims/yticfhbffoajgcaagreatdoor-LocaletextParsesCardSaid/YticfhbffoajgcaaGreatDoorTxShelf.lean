/- The library's functions that layer 3 calls, by the shelf's contracts: Count, LastIndexByte, Split, Join. -/
import Derived.Test.YticfhbffoajgcaaGreatDoorTxSeq
import Derived.Lib.SplitLaws
set_option linter.unusedVariables false
namespace Go.Proofs.YticfhbffoajgcaaGreatDoor
open Go.RowKit

theorem cnt_any (s : ByteArray) (w : World) : Calls Tryz.prog 167 #[.string s, .string ⟨#[10]⟩] w fun e w' => e = .returned (.int .i64 (s.data.toList.count 10)) ∧ w = w' :=
  (Any.strings_Count_one Tryz.lays138 s 10 w).mono fun e w' ⟨h1, h2⟩ => ⟨h1, h2.symm⟩
/-! ### Split at a line feed -/
theorem index_nl (b : UInt8) (l : List UInt8) : Lib.index (b :: l) [10] = if b = 10 then 0 else if Lib.index l [10] = -1 then -1 else Lib.index l [10] + 1 := by
  by_cases h : b = 10
  · subst h; rw [if_pos rfl, Lib.index]; simp [List.isPrefixOf]
  · have hp : ([10] : List UInt8).isPrefixOf (b :: l) = false := by simp [List.isPrefixOf, Ne.symm h]
    rw [if_neg h, Lib.index, hp]; simp
theorem index_byte : ∀ l : List UInt8, Lib.index l [10] = Lib.indexByte l 10
  | [] => rfl
  | b :: l => by
    rw [index_nl, index_byte l]
    show _ = if b == 10 then 0 else if Lib.indexByte l 10 == -1 then -1 else Lib.indexByte l 10 + 1
    by_cases h : b = 10
    · subst h; rfl
    · have hb : (b == 10) = false := by simpa using h
      rw [if_neg h, hb]
      simp only [Bool.false_eq_true, if_false]
      by_cases h2 : Lib.indexByte l 10 = -1
      · rw [if_pos h2, if_pos (by simpa using h2)]
      · rw [if_neg h2, if_neg (by simpa using h2)]
theorem split_segs : ∀ l : List UInt8, Lib.splitK [10] 0 (Lib.count l [10]) l = segs isL l
  | [] => by rw [Lib.count_miss (by rfl)]; rfl
  | b :: l => by
    have ih := split_segs l
    by_cases h : b = 10
    · subst h
      rw [Lib.count_cons_eq, segs_hit isL 10 l rfl, ← ih, Nat.add_comm]
      have hi : Lib.index (10 :: l) [10] = 0 := by rw [index_nl, if_pos rfl]
      unfold Lib.splitK
      rw [hi]
      cases hk : Lib.count l [10] with
      | zero => simp [Lib.splitK]
      | succ k => simp [Lib.splitK]
    · have hb : isL b = false := by simpa [isL] using h
      rw [Lib.count_cons_ne b 10 l h]
      have hi : Lib.index (b :: l) [10] = if Lib.index l [10] = -1 then -1 else Lib.index l [10] + 1 := by rw [index_nl, if_neg h]
      by_cases hm : Lib.index l [10] = -1
      · rw [Lib.count_miss hm] at ih ⊢
        have h2 : segs isL l = [l] := ih.symm
        rw [segs_miss isL b l l [] hb h2]; rfl
      · have hge := Lib.index_ge l [10]
        obtain ⟨j, hj⟩ : ∃ j : Nat, Lib.index l [10] = j := ⟨(Lib.index l [10]).toNat, by omega⟩
        rw [Lib.count_hit (by simp) hj, Nat.add_comm] at ih ⊢
        rw [hj] at hi
        rw [if_neg (by omega)] at hi
        generalize Lib.count (l.drop (j + [10].length)) [10] = k at *
        have e1 : Lib.splitK [10] 0 (k + 1) l = l.take j :: Lib.splitK [10] 0 k (l.drop (j + 1)) := by
          rw [Lib.splitK, if_neg (by simpa using hm), hj]; simp
        have e2 : Lib.splitK [10] 0 (k + 1) (b :: l) = (b :: l.take j) :: Lib.splitK [10] 0 k (l.drop (j + 1)) := by
          have h5 : ((j : Int) + 1).toNat = j + 1 := by omega
          rw [Lib.splitK, if_neg (by rw [hi]; simp; omega), hi, h5]; simp
        rw [e1] at ih
        rw [e2, segs_miss isL b l _ _ hb ih.symm]

theorem hi9 : (Tryz.prog.info? 9).map (fun i => (i.zero, i.size, i.bytes)) = some (some (.string ByteArray.empty), 1, 16) := by kernel_rfl
/-- The cells of a slice of strings. -/
def strs3 (xs : List (List UInt8)) : List Value := xs.map fun x => .string (mk x)
theorem segs_len (l : List UInt8) : (segs isL l).length = l.count 10 + 1 := by
  obtain ⟨q, t, h1, h2, _⟩ := pos_form l
  rw [h1, List.length_append, h2]; rfl

set_option maxHeartbeats 1000000 in
theorem split_any (s : ByteArray) (w : World) (hs : s.size < 4294967281) :
    Calls Tryz.prog 86 #[.string s, .string ⟨#[10]⟩] w fun e w' =>
      e = .returned (.slice (some ⟨w.heap.size, 0, none⟩) (segs isL s.data.toList).length (segs isL s.data.toList).length) ∧ w' = w.alloc (.cells (strs3 (segs isL s.data.toList)).toArray 9) := by
  have L := Tryz.lays146
  have h1 : 1 ≤ (⟨#[10]⟩ : ByteArray).size := Nat.le_refl _
  have hle := Lib.countB_le ⟨#[10]⟩ h1 s.size s (Nat.le_refl _)
  have hlen := Lib.splitB_all ⟨#[10]⟩ h1 0 _ s rfl
  have c := Any.strings_genSplit_core (ρ := Tryz.lays146_ren) { L with } hi9 s ⟨#[10]⟩ 0 (-1) (Lib.countB s ⟨#[10]⟩ + 1) w hs h1 (Nat.zero_le _)
    (fun x c _ => (Any.strings_Index_one { L with } x 10 _).mono fun e w' ⟨h1, h2⟩ => ⟨by rw [h1, ← index_byte], h2⟩)
    ((Any.strings_Count_one { L with } s 10 w).mono fun e w' ⟨h1, h2⟩ => ⟨by
      rw [h1]
      show _ = Ending.returned (Value.int .i64 ((Lib.count s.data.toList [10] : Nat) : Int))
      rw [Lib.count_one]; rfl, h2⟩) (by decide) (by decide) (by rw [if_pos (by decide)]; omega)
  rw [Nat.add_sub_cancel, hlen] at c
  have e2 : Lib.cellsOf (Lib.splitB ⟨#[10]⟩ 0 (Lib.countB s ⟨#[10]⟩) s) (Lib.countB s ⟨#[10]⟩ + 1) = ((Lib.splitB ⟨#[10]⟩ 0 (Lib.countB s ⟨#[10]⟩) s).map Value.string).toArray := by rw [← hlen]; exact Lib.cellsOf_full _
  rw [e2] at c
  have e3 : (Lib.splitB ⟨#[10]⟩ 0 (Lib.countB s ⟨#[10]⟩) s).map Value.string = strs3 (segs isL s.data.toList) := by
    have h3 := Lib.splitB_data ⟨#[10]⟩ 0 (Lib.countB s ⟨#[10]⟩) s
    have h4 : Lib.splitK [10] 0 (Lib.countB s ⟨#[10]⟩) s.data.toList = segs isL s.data.toList := split_segs _
    have h5 : (Lib.splitB ⟨#[10]⟩ 0 (Lib.countB s ⟨#[10]⟩) s).map (·.data.toList) = segs isL s.data.toList := h3.trans h4
    rw [← h5]
    unfold strs3
    rw [List.map_map]
    exact List.map_congr_left fun x _ => rfl
  have e4 : Lib.countB s ⟨#[10]⟩ + 1 = (segs isL s.data.toList).length := by
    have h5 := congrArg List.length e3
    rw [List.length_map, hlen] at h5
    unfold strs3 at h5
    rwa [List.length_map] at h5
  rw [e3, e4] at c
  have HC : Hid (Calls Tryz.prog 126 #[.string s, .string ⟨#[10]⟩, .int .i64 0, .int .i64 (-1)] w fun e w' =>
      e = .returned (.slice (some ⟨w.heap.size, 0, none⟩) (segs isL s.data.toList).length (segs isL s.data.toList).length) ∧ w' = w.alloc (.cells (strs3 (segs isL s.data.toList)).toArray 9)) := c
  clear c e2 e3 e4 hlen hle h1 L
  go_enter Tryz.func86, Tryz.ntmps86
  go_wp2_with (go_at_call 126; refine HC.out.mono ?_; rintro e w' ⟨rfl, hw⟩; rw [hw])
  go_ret
  exact ⟨rfl, rfl⟩

/-! ### Join with line feeds -/
theorem bextra : Builder.Extra Tryz.prog Tryz.lays156_ren := {
  sizeBuilder := by kernel_rfl
  liesBuilder := by kernel_rfl
  t5 := Tryz.underlying5
  a5 := Tryz.isAgg5
  z5 := Tryz.sizeOf5
  v5 := Tryz.zeroValue5
  infoByte := by kernel_rfl
  cellsByte := by kernel_rfl
  sizeByte := by kernel_rfl
  neB5 := by decide }

/-- A slice of strings in memory. -/
def SA (w : World) (v : Value) (xs : List (List UInt8)) : Prop :=
  ∃ (a : Option Addr) (c : Nat), v = .slice a xs.length c ∧ xs.length ≤ c ∧ (xs = [] ∨ ∃ b o, a = some ⟨b, o, none⟩ ∧ b < w.heap.size ∧ ∀ (j : Nat) (x : List UInt8), xs[j]? = some x → w.cell? ⟨b, o + j, none⟩ = some (.string (mk x)))
theorem SA.below {w w' : World} {v : Value} {xs : List (List UInt8)} (h : SA w v xs) (hb : Below w.heap.size w w') : SA w' v xs := by
  obtain ⟨a, c, h1, h2, h3⟩ := h
  refine ⟨a, c, h1, h2, ?_⟩
  rcases h3 with h3 | ⟨b, o, h4, h5, h6⟩
  · exact .inl h3
  · exact .inr ⟨b, o, h4, Nat.lt_of_lt_of_le h5 hb.size, fun j x hx => by rw [hb.cell h5]; exact h6 j x hx⟩

theorem join_len (xs : List (List UInt8)) : (Lib.join xs [10]).length ≤ (xs.map (·.length)).sum + xs.length := by
  rw [join_jl]
  have h := jn_len xs false
  unfold jn at h
  by_cases hx : xs = []
  · subst hx; exact Nat.zero_le _
  · rw [if_neg hx] at h; simpa using h
theorem sjoin_any (v : Value) (xs : List (List UInt8)) (w : World) (hv : SA w v xs) (hN : (xs.map (·.length)).sum + xs.length ≤ 140737488355328) :
    Calls Tryz.prog 103 #[v, .string ⟨#[10]⟩] w fun e w' => e = .returned (.string (mk (jl xs))) ∧ Below w.heap.size w w' := by
  obtain ⟨a, c, rfl, h2, h3⟩ := hv
  have hl := join_len xs
  rcases h3 with rfl | ⟨b, o, rfl, h5, h6⟩
  · exact (Any.strings_Join_none Tryz.lays156 bextra a c ⟨#[10]⟩ w).mono fun e w' ⟨he, hw⟩ => ⟨he, hw ▸ Below.refl _ _⟩
  · have hmap : (xs.map mk).map (·.data.toList) = xs := by rw [List.map_map]; exact List.map_id'' (fun x => rfl) xs
    have h := Any.strings_Join Tryz.lays156 bextra b o c (xs.map mk) ⟨#[10]⟩ w (fun j x hx => by
      rw [List.getElem?_map, Option.map_eq_some_iff] at hx
      obtain ⟨y, hy, rfl⟩ := hx
      exact h6 j y hy) h5 (by rw [List.length_map]; omega) (by rw [List.length_map]; exact h2) (by rw [hmap]; exact Nat.le_trans hl hN)
    rw [List.length_map, hmap] at h
    have e : Lib.join xs (⟨#[10]⟩ : ByteArray).data.toList = jl xs := join_jl xs
    rw [e] at h
    exact h
end Go.Proofs.YticfhbffoajgcaaGreatDoor
