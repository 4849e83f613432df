/- Several texts in one (a claim has at most 60 files). -/
import Derived.Test.YticfhbffoajgcaaGreatDoorTxShelf
import Derived.Test.YticfhbffoajgcaaGreatDoorTxOwn
import Derived.Laws.IdiomStrings
import Derived.OneCell
import Derived.Deep.RegionHeld3
import Derived.Deep.AppendLies
import Derived.Deep.RegionLaw
import Derived.StillTactics
import Derived.KernelRfl
import Derived.Test.YticfhbffoajgcaaGreatDoorTxSeq
/- Lines and Join, as the program has them. -/
set_option linter.unusedVariables false
namespace Go.Proofs.YticfhbffoajgcaaGreatDoor
open Go.RowKit

theorem cell_strs (w : World) (xs : List (List UInt8)) (t : TypeId) (j : Nat) (x : List UInt8) (h : xs[j]? = some x) : (w.alloc (.cells (strs3 xs).toArray t)).cell? ⟨w.heap.size, j, none⟩ = some (.string (mk x)) := by
  have hj := (List.getElem?_eq_some_iff.1 h).1
  have h2 : (strs3 xs)[j]? = some (.string (mk x)) := by unfold strs3; rw [List.getElem?_map, h]; rfl
  rw [cell_of_row _ w.heap.size j (strs3 xs).toArray t (0, 0) (heap_alloc_new w _)]
  simpa using h2

theorem ret_vb {v v' : Value} {b b' : Bool} (h1 : v = v') (h2 : b = b') : Ending.returned (.tuple #[v, .bool b]) = .returned (.tuple #[v', .bool b']) := by rw [h1, h2]
set_option maxHeartbeats 400000 in
theorem lines_any (s : ByteArray) (w : World) (hs : s.size < 4294967281) :
    Calls Tryz.prog 49 #[.string s] w fun e w' => ∃ v, e = .returned (.tuple #[v, .bool (lend s.data.toList)]) ∧ SA w' v (lin s.data.toList) ∧ Below w.heap.size w w' := by
  obtain ⟨q, t, hq⟩ := segs_snoc_form isL s.data.toList
  have hle := segs_count isL s.data.toList
  have H0 := split_any s w hs
  have HF := Lib.hid (lin_of s.data.toList q t hq)
  rw [size_len] at hle
  have hc0 : ∀ (j : Nat) (x : List UInt8), (segs isL s.data.toList)[j]? = some x → (w.alloc (.cells (strs3 (segs isL s.data.toList)).toArray 9)).cell? ⟨w.heap.size, j, none⟩ = some (.string (mk x)) := fun j x h => cell_strs w _ _ j x h
  have hbel : Below w.heap.size w (w.alloc (.cells (strs3 (segs isL s.data.toList)).toArray 9)) := (Below.refl _ _).alloc (Nat.le_refl _) _
  have hsz : w.heap.size < (w.alloc (.cells (strs3 (segs isL s.data.toList)).toArray 9)).heap.size := by simp
  generalize (w.alloc (.cells (strs3 (segs isL s.data.toList)).toArray 9)) = w1 at *
  rw [hq] at H0 hc0 hle
  rw [List.length_append] at H0 hle
  have hlast := hc0 q.length t (by rw [List.getElem?_append_right (Nat.le_refl _), Nat.sub_self]; rfl)
  have e1 : [t].length = 1 := rfl
  rw [e1] at H0 hle
  have HH : Hid (Calls Tryz.prog 86 #[.string s, .string ⟨#[10]⟩] w fun e w' => e = .returned (.slice (some ⟨w.heap.size, 0, none⟩) (q.length + 1) (q.length + 1)) ∧ w' = w1) := H0
  have HC := Lib.hid hc0
  have HB := Lib.hid hbel
  have HS := Lib.hid hsz
  generalize hm : q.length = m at *
  have HM := Lib.hid hm
  by_cases ht : t = []
  · obtain ⟨f1, f2⟩ := HF.out.1 ht
    have hne : (mk t).toList.isEmpty = true := by rw [ht, toList_mk]; rfl
    rw [f1, f2]
    clear hc0 H0 hq ht hbel hsz e1 f1 f2 HF hm
    go_enter Tryz.func49, Tryz.ntmps49
    go_wp2_with (first | (go_at_call 86; refine HH.out.mono ?_; rintro e w' ⟨rfl, rfl⟩))
    go_ret2
    refine ⟨.slice (some ⟨w.heap.size, 0, none⟩) m m, rfl, ?_, HB.out⟩
    refine ⟨_, m, by rw [HM.out], by rw [HM.out]; exact Nat.le_refl _, ?_⟩
    refine .inr ⟨w.heap.size, 0, rfl, HS.out, fun j x h => ?_⟩
    rw [Nat.zero_add]
    exact HC.out j x (by rw [List.getElem?_append_left (List.getElem?_eq_some_iff.1 h).1]; exact h)
  · obtain ⟨f1, f2⟩ := HF.out.2 ht
    have hne : (mk t).toList.isEmpty = false := by
      apply not_empty_of
      cases t with
      | nil => exact absurd rfl ht
      | cons a r => exact Nat.succ_pos _
    rw [f1, f2]
    clear hc0 H0 hq ht hbel hsz e1 f1 f2 HF hm
    go_enter Tryz.func49, Tryz.ntmps49
    go_wp2_with (first | (go_at_call 86; refine HH.out.mono ?_; rintro e w' ⟨rfl, rfl⟩))
    go_ret2
    refine ⟨.slice (some ⟨w.heap.size, 0, none⟩) (m + 1) (m + 1), rfl, ?_, HB.out⟩
    refine ⟨_, m + 1, by rw [List.length_append, HM.out]; rfl, by rw [List.length_append, HM.out]; exact Nat.le_refl _, ?_⟩
    refine .inr ⟨w.heap.size, 0, rfl, HS.out, fun j x h => ?_⟩
    rw [Nat.zero_add]
    exact HC.out j x h

set_option maxHeartbeats 400000 in
theorem tjoin_any (v : Value) (xs : List (List UInt8)) (b : Bool) (w : World) (hv : SA w v xs) (hN : (xs.map (·.length)).sum + xs.length ≤ 4294967281) :
    Calls Tryz.prog 64 #[v, .bool b] w fun e w' => e = .returned (.string (mk (jn xs b))) ∧ Below w.heap.size w w' := by
  have H0 : Hid (Calls Tryz.prog 103 #[v, .string ⟨#[10]⟩] w fun e w' => e = .returned (.string (mk (jl xs))) ∧ Below w.heap.size w w') := sjoin_any v xs w hv (by omega)
  obtain ⟨a, c, rfl, h2, _⟩ := hv
  have hl : (jl xs).length ≤ 4294967281 := by rw [← join_jl]; exact Nat.le_trans (join_len xs) hN
  have hsz : (mk (jl xs)).size ≤ 4294967281 := hl
  have hR : Hid (mk (jn xs b) = if xs.length = 0 then mk (jl xs) else if b then mk (jl xs) ++ ⟨#[10]⟩ else mk (jl xs)) := by
    show _ = _
    unfold jn
    by_cases hx : xs = []
    · rw [if_pos hx, if_pos (by rw [hx]; rfl), hx]; rfl
    · rw [if_neg hx, if_neg (fun e => hx (List.eq_nil_of_length_eq_zero e))]
      cases b
      · simp
      · rw [if_pos rfl, if_pos rfl, ← mk_append]; rfl
  generalize mk (jl xs) = J at *
  generalize mk (jn xs b) = R at *
  have hxl : xs.length ≤ 4294967281 := by omega
  clear hl hN
  generalize xs.length = n at *
  by_cases hn : n = 0
  · subst hn
    cases b
    all_goals
      go_enter Tryz.func64, Tryz.ntmps64
      go_wp2_with (first | (go_at_call 103; refine H0.out.mono ?_; rintro e w1 ⟨rfl, hb⟩))
      go_ret
      refine ⟨ret_s ?_, hb⟩
      rw [hR.out]; rfl
  · have h0 : 0 < n := by omega
    cases b
    all_goals
      go_enter Tryz.func64, Tryz.ntmps64
      go_wp2_with (first | (go_at_call 103; refine H0.out.mono ?_; rintro e w1 ⟨rfl, hb⟩))
      go_ret
      refine ⟨ret_s ?_, hb⟩
      rw [hR.out, if_neg hn]; rfl
end Go.Proofs.YticfhbffoajgcaaGreatDoor
/- Lists of strings: SameTexts, and the reference's Lines. -/
set_option linter.unusedVariables false
namespace Go.Proofs.YticfhbffoajgcaaGreatDoor
open Go.RowKit

theorem eqs_mk (x y : List UInt8) : ((mk x).toList == (mk y).toList) = decide (x = y) := by
  rw [toList_mk, toList_mk]
  by_cases h : x = y
  · subst h; simp
  · rw [decide_eq_false h]; simpa using h
theorem SA.get {w : World} {a : Option Addr} {c : Nat} {xs : List (List UInt8)} (h3 : xs = [] ∨ ∃ b o, a = some ⟨b, o, none⟩ ∧ b < w.heap.size ∧ ∀ (j : Nat) (x : List UInt8), xs[j]? = some x → w.cell? ⟨b, o + j, none⟩ = some (.string (mk x))) (k : Nat) (hk : k < xs.length) :
    ∃ b o, a = some ⟨b, o, none⟩ ∧ b < w.heap.size ∧ w.cell? ⟨b, o + k, none⟩ = some (.string (mk xs[k])) := by
  rcases h3 with rfl | ⟨b, o, h, h5, h6⟩
  · exact absurd hk (Nat.not_lt_zero _)
  · exact ⟨b, o, h, h5, h6 k _ (List.getElem?_eq_getElem hk)⟩

/-! ### The reference's Lines -/
theorem tinfoS : (Tryz.prog.info? 9).map (fun i => (i.zero, i.size, i.bytes)) = some (some (.string ByteArray.empty), 1, 16) := by kernel_rfl
theorem sa_own {w : World} {B n : Nat} {v : Value} {xs : List (List UInt8)} (h : w.ownsRow B 9 1 v n (strs3 xs)) : SA w v xs := by
  have hl : xs.length = n := by have := h.1; rw [strs_len] at this; omega
  have h2 := h
  rcases h.2 with ⟨rfl, h0⟩ | ⟨g, cap, cur, rfl, hg, hh, hnc, _⟩
  · obtain rfl : xs = [] := List.eq_nil_of_length_eq_zero (by omega)
    exact ⟨none, 0, rfl, Nat.le_refl _, .inl rfl⟩
  · refine ⟨some ⟨g, 0, none⟩, cap, by rw [hl], by omega, .inr ⟨g, 0, rfl, (h2.lt g rfl).2, fun j x hx => ?_⟩⟩
    have := h2.cells (g := g) rfl j (.string (mk x)) (by unfold strs3; rw [List.getElem?_map, hx]; rfl)
    rw [add_j] at this
    rw [Nat.zero_add]; exact this
theorem own_sapp {w : World} {B n m : Nat} {v : Value} {l r : List (List UInt8)} {vs : List Value} (h : w.ownsRow B 9 1 v (n + m) (strs3 l ++ vs)) (hv : vs = strs3 r) : w.ownsRow B 9 1 v (n + m) (strs3 (l ++ r)) := by
  rw [strs_app, ← hv]; exact h
theorem strs_ext (s : ByteArray) (j k : Nat) : ([.string (s.extract j k)] : List Value) = strs3 [(s.data.toList.drop j).take (k - j)] := by
  rw [ext_mid]; rfl
theorem strs_ext_end (s : ByteArray) (j : Nat) : ([.string (s.extract j s.size)] : List Value) = strs3 [s.data.toList.drop j] := by
  rw [ext_drop]; rfl

set_option maxHeartbeats 1000000 in
theorem rlines_any (s : ByteArray) (w : World) (hs : s.size ≤ 4294967280) :
    Calls Tryz.prog 31 #[.string s] w fun e w' => ∃ v, e = .returned (.tuple #[v, .bool (lend s.data.toList)]) ∧ SA w' v (lin s.data.toList) ∧ Below w.heap.size w w' := by
  go_enter Tryz.func31, Tryz.ntmps31
  go_wp2
  go_loopw [4, 5, 6] (fun v f i wr => ∃ (k j n : Nat) (sv : Value) (done : List (List UInt8)), sv = v ∧ k ≤ s.size ∧ j ≤ k ∧ n ≤ j ∧ i = .int .i64 k ∧ f = .int .i64 j ∧
      Hid (wr.ownsRow w.heap.size 9 1 sv n (strs3 done)) ∧ Hid (Below w.heap.size w wr) ∧ Hid (done ++ segs isL (s.data.toList.drop j) = segs isL s.data.toList) ∧ Hid (no isL ((s.data.toList.drop j).take (k - j)) = true)) (fun _ _ i _ => s.size - (intOf i).toNat)
  case atStart => exact ⟨0, 0, 0, _, [], rfl, Nat.zero_le _, Nat.le_refl _, Nat.le_refl _, rfl, rfl, World.ownsRow_nil _ _ _ _, Below.refl _ _, rfl, rfl⟩
  case round =>
    obtain ⟨k, j, n, v0, done, rfl, hk, hj, hn, rfl, rfl, hown, hb, hsg, hno⟩ := hrel
    have hBs := hb.out.size
    by_cases hlt : k < s.size
    · have hlt' : k < s.data.toList.length := by rw [size_len]; exact hlt
      have hg : s.data.toList[k] = s[k] := rfl
      have hq := isL_int s[k]
      rcases ttf (isL s[k]) with h0 | h0
      · rw [h0] at hq
        have hq' := hq.symm
        have HI := Lib.hid (strs_ext s j k)
        have HS : Hid (done ++ [(s.data.toList.drop j).take (k - j)] ++ segs isL (s.data.toList.drop (k + 1)) = segs isL s.data.toList) := by
          show _ = _
          rw [← hsg.out, segs_cut s.data.toList j k hj hlt' hno.out (by rw [hg]; exact h0)]; simp
        have HN : Hid (no isL ((s.data.toList.drop (k + 1)).take (k + 1 - (k + 1))) = true) := by
          show _ = true
          rw [Nat.sub_self]; rfl
        clear hsg hno hq hg h0
        go_wp2_with (first | (at_builtin; refine app_lit 59 9 (.string ByteArray.empty) 16 Tryz.underlying59 tinfoS rfl wr rfl _ _ rfl w.heap.size v0 _ _ _ _ rfl rfl hown.out rfl rfl ?c1 hBs ?c2 ?c3 ?_))
        case c1 => simp [Value.oneCell']
        case c2 => unfold maxLen; omega
        case c3 => omega
        intro v' w1 hown' hb'
        have HW := Lib.hid (own_sapp hown' HI.out)
        have HB := Lib.hid (hb' w hb.out)
        clear hown' hb'
        go_wp2
        go_roundw
        case rel => exact ⟨k + 1, k + 1, n + 1, _, _, rfl, by omega, by omega, by omega, by go_num, by go_num, HW.out, HB.out, HS.out, HN.out⟩
        case measure => simp [intOf]; omega
      · rw [h0] at hq
        have hq' := hq.symm
        have HN : Hid (no isL ((s.data.toList.drop j).take (k + 1 - j)) = true) := no_step isL s.data.toList j k hj hlt' hno.out (by rw [hg]; exact h0)
        clear hno hq hg h0
        go_wp2
        go_roundw
        case rel => exact ⟨k + 1, j, n, _, _, rfl, by omega, by omega, by omega, by go_num, rfl, hown.out, hb.out, hsg.out, HN.out⟩
        case measure => simp [intOf]; omega
    · obtain rfl : k = s.size := by omega
      have hna := drop_all isL s.data.toList j s.size (by rw [size_len]; exact Nat.le_refl _) hno.out
      have hs1 := segs_no isL _ hna
      have hs2 := hsg.out
      rw [hs1] at hs2
      have HF := Lib.hid (lin_of s.data.toList done _ hs2.symm)
      by_cases hj2 : j < s.size
      · have hne : s.data.toList.drop j ≠ [] := fun e => by
          have := congrArg List.length e
          rw [List.length_drop, size_len] at this; simp at this; omega
        obtain ⟨f1, f2⟩ := HF.out.2 hne
        have HI := Lib.hid (strs_ext_end s j)
        have F1 := Lib.hid f1
        have F2 := Lib.hid f2
        clear hs1 hs2 hna hno hsg HF hne f1 f2
        go_wp2_with (first | (at_builtin; refine app_lit 59 9 (.string ByteArray.empty) 16 Tryz.underlying59 tinfoS rfl wr rfl _ _ rfl w.heap.size v0 _ _ _ _ rfl rfl hown.out rfl rfl ?c1 hBs ?c2 ?c3 ?_))
        case c1 => simp [Value.oneCell']
        case c2 => unfold maxLen; omega
        case c3 => omega
        intro v' w1 hown' hb'
        have HW := Lib.hid (own_sapp hown' HI.out)
        have HB := Lib.hid (hb' w hb.out)
        clear hown' hb'
        go_wp2
        go_ret2
        refine ⟨v', ret_vb rfl F2.out.symm, ?_, HB.out⟩
        rw [F1.out]; exact sa_own HW.out
      · have hne : s.data.toList.drop j = [] := List.drop_eq_nil_of_le (by rw [size_len]; omega)
        obtain ⟨f1, f2⟩ := HF.out.1 hne
        have F1 := Lib.hid f1
        have F2 := Lib.hid f2
        clear hs1 hs2 hna hno hsg HF hne f1 f2
        go_wp2
        go_ret2
        refine ⟨v0, ret_vb rfl F2.out.symm, ?_, hb.out⟩
        rw [F1.out]; exact sa_own hown.out
end Go.Proofs.YticfhbffoajgcaaGreatDoor
/- Escape: the bytes that the program appends. -/
set_option linter.unusedVariables false
namespace Go.Proofs.YticfhbffoajgcaaGreatDoor
open Go.RowKit

def AppPost (B n : Nat) (l : List UInt8) (r : List UInt8) (w : World) (e : Ending) (w' : World) : Prop :=
  ∃ v', e = .returned v' ∧ w'.ownsRow B 5 1 v' (n + r.length) (ints (l ++ r)) ∧ Below B w w'
theorem app_post {B n m : Nat} {l r : List UInt8} {vs : List Value} {w w' : World} {v' : Value} (hown : w'.ownsRow B 5 1 v' (n + m) (ints l ++ vs)) (hm : m = r.length) (hv : vs = ints r) (hb : Below B w w') : AppPost B n l r w (.returned v') w' := by
  refine ⟨v', rfl, ?_, hb⟩
  rw [ints_app, ← hm, ← hv]; exact hown

theorem oct_ints (c : UInt8) : ([.int .u8 92, .int .u8 (48 + (c.toNat : Int) / 64), .int .u8 (48 + (c.toNat : Int) / 8 % 8), .int .u8 (48 + (c.toNat : Int) % 8)] : List Value) = ints (oct3 c) := by
  have h := c.toNat_lt
  unfold ints oct3
  simp only [List.map_cons, List.map_nil, List.cons.injEq, Value.int.injEq, true_and, and_true]
  refine ⟨rfl, ?_, ?_, ?_⟩
  all_goals (simp; omega)
theorem oct_ints2 (c : UInt8) : ([.int .u8 92, .int .u8 ((48 + (c.toNat : Int) / 64) % 256), .int .u8 ((48 + (c.toNat : Int) / 8 % 8) % 256), .int .u8 ((48 + (c.toNat : Int) % 8) % 256)] : List Value) = ints (oct3 c) := by
  have h := c.toNat_lt
  rw [← oct_ints c]
  simp only [List.cons.injEq, Value.int.injEq, true_and, and_true]
  omega
theorem bits7 (c : UInt8) : bits .and .u8 ((c.toNat : Int) / 8) 7 = (c.toNat : Int) / 8 % 8 ∧ bits .and .u8 (c.toNat : Int) 7 = (c.toNat : Int) % 8 := by
  revert c; apply all_bytes; decide +kernel

end Go.Proofs.YticfhbffoajgcaaGreatDoor
/- Escape, as the program and the reference have it. -/
set_option linter.unusedVariables false
namespace Go.Proofs.YticfhbffoajgcaaGreatDoor
open Go.RowKit

/-- A slice of bytes that the call has made, as a string. -/
theorem conv_own {w : World} {B n : Nat} {v : Value} {l : List UInt8} (h : w.ownsRow B 5 1 v n (ints l)) (hn : n = l.length) : (convert 80 9 v).run Tryz.prog w = .ok (.string (mk l)) w := by
  subst hn
  rcases Joins.ownsRow_forms h with ⟨rfl, h0⟩ | ⟨g, cap, rfl⟩
  · have hl : l = [] := List.eq_nil_of_length_eq_zero h0
    subst hl
    have hz := run_loadCells_list (P := Tryz.prog) w ⟨0, 0, none⟩ [] (fun j v hj => by simp at hj)
    rw [run_convert_bytes_string w 80 9 5 none 0 0 Tryz.underlying80 Tryz.underlying5 Tryz.underlying9]
    rfl
  · have hc := run_convert_bytes_back (P := Tryz.prog) w 80 9 5 ⟨g, 0, none⟩ cap l Tryz.underlying80 Tryz.underlying5 Tryz.underlying9 (fun j hj => h.cells rfl j _ (by unfold ints; rw [List.getElem?_map, List.getElem?_eq_getElem hj]; rfl))
    exact hc
theorem make_own (n : Nat) (hn : n ≤ 281474976710656) (u : World) : (Instr.makeSlice 80 (.int .i64 0) (.int .i64 (n : Int))).run Tryz.prog u = .ok (.slice (some ⟨u.heap.size, 0, none⟩) 0 n) (u.alloc (.cells (madeCells #[.int .u8 0] n) 5)) := by
  obtain ⟨i0, hi, hz0, hz1, hz2⟩ := info_parts infoB
  have h := run_make (P := Tryz.prog) u 80 5 i0 (.int .u8 0) Tryz.underlying80 hi hz0 .i64 .i64 0 (n : Int) (by omega) (by omega) (by rw [hz2]; omega) (by omega)
  have e : ((n : Nat) : Int).toNat = n := by omega
  rw [e] at h
  simpa [hz1, Value.cells] using h
theorem own_post {w : World} {B n k : Nat} {v : Value} {l : List UInt8} (h : w.ownsRow B 5 1 v n (ints l)) (hk : n = k) {r : List UInt8} (hr : l = r) : w.ownsRow B 5 1 v k (ints r) := by
  subst hk hr; exact h

theorem own_app {w : World} {B n m : Nat} {v : Value} {l r : List UInt8} {vs : List Value} (h : w.ownsRow B 5 1 v (n + m) (ints l ++ vs)) (hv : vs = ints r) : w.ownsRow B 5 1 v (n + m) (ints (l ++ r)) := by
  rw [ints_app, ← hv]; exact h
end Go.Proofs.YticfhbffoajgcaaGreatDoor
/- The reference's Join, and the law's test of lines. -/
set_option linter.unusedVariables false
namespace Go.Proofs.YticfhbffoajgcaaGreatDoor
open Go.RowKit

theorem bnext {w w1 w2 : World} (h : Below w.heap.size w w1) (k : Below w1.heap.size w1 w2) : Below w.heap.size w w2 := h.trans (k.mono h.size)

/-- 'append(b, s...)' where b is the call's own. -/
theorem app_str {w : World} {ops : Array Oper} {rest : List Oper} {o : Oper} {a : Act} {Q : Exit → Act → World → Prop} (hgd : o.guard = none) (s x : Operand)
    (ho : o.op = .call { callee := .builtin .append, args := #[s, x], argTypes := #[80, 9] })
    (B : Nat) (v : Value) (n : Nat) (l y : List UInt8) (hs : a.eval s = v) (hown : w.ownsRow B 5 1 v n (ints l)) (hx : a.eval x = .string (mk y))
    (hB : B ≤ w.heap.size) (hn : n + y.length ≤ 1000000000000)
    (h : ∀ v' w', w'.ownsRow B 5 1 v' (n + y.length) (ints (l ++ y)) → (∀ A0, Below B A0 w → Below B A0 w') → wpList Tryz.prog ops Q rest (a.put o.dst v') w') :
    wpList Tryz.prog ops Q (o :: rest) a w := by
  obtain ⟨i0, hi, hz0, hz1, hz2⟩ := info_parts infoB
  have e : (mk y).size = y.length := mk_size y
  refine Lib.wpList_append_own_string w hgd s x 80 9 ho B 5 i0 Tryz.underlying80 Tryz.underlying9 hi hz0 hz1 hz2 v n (ints l) hs hown (mk y) hx (by unfold maxLen; omega) (by omega) hB ?_
  intro v' w' hown' hgrow _
  have e2 : ints l ++ Lib.strCells (mk y) = ints (l ++ y) := by rw [ints_app]; rfl
  rw [e, e2] at hown'
  exact h v' w' hown' fun A0 hb => hb.grown hgrow hB (fun j e => (hown.lt j e).1)

theorem sum_mem : ∀ (xs : List (List UInt8)) (x : List UInt8), x ∈ xs → x.length ≤ (xs.map (·.length)).sum
  | [], x, h => by cases h
  | y :: r, x, h => by
    rw [List.map_cons, List.sum_cons]
    rcases List.mem_cons.1 h with rfl | h
    · omega
    · have := sum_mem r x h; omega
theorem plainL_true (xs : List (List UInt8)) (h : (xs.all fun x => no isL x) = true) : plainL xs true = true := by unfold plainL; rw [h]; rfl
theorem plainL_last (q : List (List UInt8)) (t : List UInt8) (h : ((q ++ [t]).all fun x => no isL x) = true) : plainL (q ++ [t]) false = !t.isEmpty := by
  unfold plainL; rw [h, List.getLast?_append]
  cases t <;> simp
theorem plainL_bad (xs : List (List UInt8)) (b : Bool) (k : Nat) (hk : k < xs.length) (h : no isL xs[k] = false) : plainL xs b = false := by
  have : (xs.all fun x => no isL x) = false := by
    rw [List.all_eq_false]
    exact ⟨xs[k], List.getElem_mem hk, by rw [h]; exact Bool.false_ne_true⟩
  unfold plainL; rw [this]; rfl
theorem no_bad (p : UInt8 → Bool) (l : List UInt8) (k : Nat) (hk : k < l.length) (h : p l[k] = true) : no p l = false := by
  unfold no
  rw [List.all_eq_false]
  exact ⟨l[k], List.getElem_mem hk, by rw [h]; decide⟩
theorem no_take_step (p : UInt8 → Bool) (l : List UInt8) (k : Nat) (hk : k < l.length) (h : no p (l.take k) = true) (hc : p l[k] = false) : no p (l.take (k + 1)) = true := by
  rw [List.take_succ_eq_append_getElem hk, no_snoc, h, hc]; rfl

end Go.Proofs.YticfhbffoajgcaaGreatDoor
/- Words, as the program has it: a closure that ends a word. -/
set_option linter.unusedVariables false
namespace Go.Proofs.YticfhbffoajgcaaGreatDoor
open Go.RowKit

/-- The variables that the closure has captured: the string, the words, where the word begins. -/
structure WI (B : Nat) (s : ByteArray) (j n : Nat) (done : List (List UInt8)) (w : World) : Prop where
  hS : w.heap[B]? = some (.cells #[.string s] 9 (0, 0))
  hW : ∃ v, w.heap[B + 1]? = some (.cells #[v] 59 (0, 0)) ∧ w.ownsRow (B + 3) 9 1 v n (strs3 done)
  hJ : w.heap[B + 2]? = some (.cells #[.int .i64 (j : Int)] 3 (0, 0))

theorem heap_set1 (w : World) (g : Nat) (x y : Value) (t : TypeId) (h : w.heap[g]? = some (.cells #[x] t (0, 0))) : (w.setCell ⟨g, 0, none⟩ y).heap[g]? = some (.cells #[y] t (0, 0)) := one_setCell h

theorem clo_skip (B : Nat) (s : ByteArray) (j n k : Nat) (done : List (List UInt8)) (w : World) (h : WI B s j n done w) (hj : ¬ (j : Int) < (k : Int)) (hk : k ≤ 4294967280) :
    Calls Tryz.prog 87 #[.int .i64 (k : Int), .pointer (some ⟨B + 2, 0, none⟩), .pointer (some ⟨B + 1, 0, none⟩), .pointer (some ⟨B, 0, none⟩)] w fun e w' => e = .returned (.tuple #[]) ∧ WI B s (k + 1) n done w' ∧ Below B w w' := by
  obtain ⟨hS, ⟨v, hW, hown⟩, hJ⟩ := h
  have cJ := cell_of_one hJ
  have fJ := free_of_one hJ
  go_enter Tryz.func87, Tryz.ntmps87
  go_wp2
  go_end0
  refine ⟨rfl, ⟨?_, ⟨v, ?_, ?_⟩, ?_⟩, (Below.refl _ _).setCell (by show B ≤ B + 2; omega) _⟩
  · exact (Below.heap_setCell _ _ _ _ (by show B ≠ B + 2; omega)).trans hS
  · exact (Below.heap_setCell _ _ _ _ (by show B + 1 ≠ B + 2; omega)).trans hW
  · exact ownsRow_setCell_below hown (by show B + 2 < B + 3; omega) _
  · exact heap_set1 _ _ _ _ _ hJ

set_option maxHeartbeats 4000000 in
set_option maxRecDepth 100000 in
theorem clo_word (B : Nat) (s : ByteArray) (j n k : Nat) (done : List (List UInt8)) (w : World) (h : WI B s j n done w) (hj : (j : Int) < (k : Int)) (hk : (k : Int) ≤ (s.size : Int)) (hs : s.size ≤ 4294967280) (hn : n ≤ j) :
    Calls Tryz.prog 87 #[.int .i64 (k : Int), .pointer (some ⟨B + 2, 0, none⟩), .pointer (some ⟨B + 1, 0, none⟩), .pointer (some ⟨B, 0, none⟩)] w fun e w' => e = .returned (.tuple #[]) ∧ WI B s (k + 1) (n + 1) (done ++ [(s.data.toList.drop j).take (k - j)]) w' ∧ Below B w w' := by
  obtain ⟨hS, ⟨v, hW, hown⟩, hJ⟩ := h
  have cJ := cell_of_one hJ
  have cS := cell_of_one hS
  have cW := cell_of_one hW
  have fW := free_of_one hW
  have fJ := free_of_one hJ
  have hlt : B + 2 < w.heap.size := (Array.getElem?_eq_some_iff.1 hJ).1
  obtain ⟨i0, hi0, hz0, hz1, hz2⟩ := info_parts tinfoS
  have HO := Lib.hid hown
  have HS := Lib.hid hS
  have HW := Lib.hid hW
  have HJ := Lib.hid hJ
  have j0 : (0 : Int) ≤ (j : Int) := Int.natCast_nonneg _
  have jk : (j : Int) ≤ (k : Int) := by omega
  have a1 : v.ownBlock ≠ some (B + 1) := fun e => by have := (hown.lt _ e).1; omega
  have a2 : v.ownBlock ≠ some (B + 2) := fun e => by have := (hown.lt _ e).1; omega
  have a3 : v.ownBlock ≠ some B := fun e => by have := (hown.lt _ e).1; omega
  clear hown hS hW hJ
  go_enter Tryz.func87, Tryz.ntmps87
  go_wp2_with fail
  have cWa : (w.alloc (.cells #[.string (s.extract j k)] 9)).cell? ⟨B + 1, 0, none⟩ = some v := (World.cell?_of_block (w := w) (Below.heap_alloc w (.cells #[.string (s.extract j k)] 9) (B + 1) (by omega))).trans cW
  go_region_law
    ((refine step_append_lies _ (by rfl) _ _ _ (by rfl) (B + 3) 9 i0 _ 1 16 Tryz.underlying59 hi0 hz0 hz1 hz2 rfl (by omega) v n (strs3 done) (by rfl) (HO.out.alloc (.cells #[.string (s.extract j k)] 9))
        ⟨w.heap.size, 0, none⟩ 1 1 [.string (s.extract j k)] (by rfl) (by rfl) (World.news_of_block (cs := #[.string (s.extract j k)]) (t := 9) (fr := (0, 0)) (heap_alloc_new w _)) (by simp [Value.oneCell'])
        (by omega) (by unfold maxLen; omega) (by omega) (by simp; omega) (w.heap.size + 1) (by simp) ?_; intro gg cap w1 hown1 hgrow hat hlt1; have fW1 : w1.frozen? ⟨B + 1, 0, none⟩ = false := (hgrow.frozen_far _ (by simp; omega) (Ne.symm a1)).trans ((World.frozen?_of_block (w := w) (Below.heap_alloc w (.cells #[.string (s.extract j k)] 9) (B + 1) (by omega))).trans fW); have cW1 : w1.cell? ⟨B + 1, 0, none⟩ = some v := (hgrow.cell_far _ (by simp; omega) (Ne.symm a1)).trans ((World.cell?_of_block (w := w) (Below.heap_alloc w (.cells #[.string (s.extract j k)] 9) (B + 1) (by omega))).trans cW)))
  all_goals
    have bJ : w1.heap[B + 2]? = some (.cells #[.int .i64 (j : Int)] 3 (0, 0)) := (hgrow.block (B + 2) (by simp; omega) (Ne.symm a2)).trans ((Below.heap_alloc w _ (B + 2) (by omega)).trans HJ.out)
    have bW : w1.heap[B + 1]? = some (.cells #[v] 59 (0, 0)) := (hgrow.block (B + 1) (by simp; omega) (Ne.symm a1)).trans ((Below.heap_alloc w _ (B + 1) (by omega)).trans HW.out)
    have bS : w1.heap[B]? = some (.cells #[.string s] 9 (0, 0)) := (hgrow.block B (by simp; omega) (Ne.symm a3)).trans ((Below.heap_alloc w _ B (by omega)).trans HS.out)
    have HBel : Hid (Below B w w1) := ((Below.refl B w).alloc (by omega) (.cells #[.string (s.extract j k)] 9)).drew.grown hgrow (by simp; omega) (fun j e => by have := (HO.out.lt j e).1; omega)
    have bJ2 : (w1.setCell ⟨B + 1, 0, none⟩ (.slice (some ⟨gg, 0, none⟩) (n + 1) cap)).heap[B + 2]? = some (.cells #[.int .i64 (j : Int)] 3 (0, 0)) := (Below.heap_setCell _ _ _ _ (by show B + 2 ≠ B + 1; omega)).trans bJ
    have HOw := Lib.hid (own_sapp hown1 (strs_ext s j k))
    have BW := Lib.hid bW
    have BS := Lib.hid bS
    have BJ2 := Lib.hid bJ2
    have cJ2 := cell_of_one bJ2
    have fJ2 := free_of_one bJ2
    clear bJ bW bS bJ2 hown1 hgrow hat cW1 fW1 cWa
    go_wp2
    go_end0
    refine ⟨rfl, ⟨?_, ⟨.slice (some ⟨gg, 0, none⟩) (n + 1) cap, ?_, ?_⟩, ?_⟩, ?_⟩
    · exact (Below.heap_setCell _ _ _ _ (by show B ≠ B + 2; omega)).trans ((Below.heap_setCell _ _ _ _ (by show B ≠ B + 1; omega)).trans BS.out)
    · exact (Below.heap_setCell _ _ _ _ (by show B + 1 ≠ B + 2; omega)).trans (heap_set1 _ _ _ _ _ BW.out)
    · exact ownsRow_setCell_below (ownsRow_setCell_below HOw.out (by show B + 1 < B + 3; omega) _) (by show B + 2 < B + 3; omega) _
    · exact heap_set1 _ _ _ _ _ BJ2.out
    · exact (HBel.out.setCell (by show B ≤ B + 1; omega) _).setCell (by show B ≤ B + 2; omega) _

theorem clo_any (B : Nat) (s : ByteArray) (j n k : Nat) (done : List (List UInt8)) (w : World) (h : WI B s j n done w) (hj : j ≤ k) (hk : k ≤ s.size) (hs : s.size ≤ 4294967280) (hn : n ≤ j) :
    Calls Tryz.prog 87 #[.int .i64 (k : Int), .pointer (some ⟨B + 2, 0, none⟩), .pointer (some ⟨B + 1, 0, none⟩), .pointer (some ⟨B, 0, none⟩)] w fun e w' => e = .returned (.tuple #[]) ∧
      ∃ n', n' ≤ k ∧ WI B s (k + 1) n' (done ++ if j < k then [(s.data.toList.drop j).take (k - j)] else []) w' ∧ Below B w w' := by
  by_cases hlt : j < k
  · refine (clo_word B s j n k done w h (by omega) (by omega) hs hn).mono fun e w' ⟨h1, h2, h3⟩ => ⟨h1, n + 1, by omega, ?_, h3⟩
    rw [if_pos hlt]; exact h2
  · refine (clo_skip B s j n k done w h (by omega) (by omega)).mono fun e w' ⟨h1, h2, h3⟩ => ⟨h1, n, by omega, ?_, h3⟩
    rw [if_neg hlt, List.append_nil]; exact h2
theorem WI.start (w : World) (s : ByteArray) : WI w.heap.size s 0 0 [] (((w.alloc (.cells #[.string s] 9)).alloc (.cells #[.slice none 0 0] 59)).alloc (.cells #[.int .i64 0] 3)) := by
  refine ⟨?_, ⟨_, ?_, World.ownsRow_nil _ _ _ _⟩, ?_⟩
  · rw [Below.heap_alloc _ _ _ (by simp; omega), Below.heap_alloc _ _ _ (by simp)]
    exact heap_alloc_new w _
  · rw [Below.heap_alloc _ _ _ (by simp)]
    have := heap_alloc_new (w.alloc (.cells #[.string s] 9)) (.cells #[.slice none 0 0] 59)
    simpa using this
  · have := heap_alloc_new ((w.alloc (.cells #[.string s] 9)).alloc (.cells #[.slice none 0 0] 59)) (.cells #[.int .i64 0] 3)
    simpa using this

set_option maxHeartbeats 2000000 in
theorem words_any (s : ByteArray) (w : World) (hs : s.size ≤ 4294967280) :
    Calls Tryz.prog 50 #[.string s] w fun e w' => ∃ v n, e = .returned v ∧ SA w' v (wds s.data.toList) ∧ w'.ownsRow w.heap.size 9 1 v n (strs3 (wds s.data.toList)) ∧ Below w.heap.size w w' := by
  have hmf : ∀ (fn : Fn) (first cap : Array Value) (w : World), (Instr.makeFunc fn first cap).run Tryz.prog w = .ok (.func fn first cap) w := fun _ _ _ _ => rfl
  have hst := Lib.hid (WI.start w s)
  have cS0 := cell_of_one (WI.start w s).hS
  go_enter Tryz.func50, Tryz.ntmps50
  go_wp2
  clear hmf cS0
  go_loopw [10] (fun i wr => ∃ (k j n : Nat) (done : List (List UInt8)), k ≤ s.size ∧ j ≤ k ∧ n ≤ j ∧ i = .int .i64 k ∧ Hid (WI w.heap.size s j n done wr) ∧ Hid (Below w.heap.size w wr) ∧
      Hid (done ++ wds (s.data.toList.drop j) = wds s.data.toList) ∧ Hid (no sp ((s.data.toList.drop j).take (k - j)) = true)) (fun i _ => s.size - (intOf i).toNat)
  case atStart => exact ⟨0, 0, 0, [], Nat.zero_le _, Nat.le_refl _, Nat.le_refl _, rfl, hst.out, (((Below.refl _ _).alloc (Nat.le_refl _) _).alloc (by simp) _).alloc (by simp; omega) _, rfl, rfl⟩
  case round =>
    obtain ⟨k, j, n, done, hk, hj, hn, rfl, hI, hb, hsg, hno⟩ := hrel
    have cS := cell_of_one hI.out.hS
    by_cases hlt : k < s.size
    · have hlt' : k < s.data.toList.length := by rw [size_len]; exact hlt
      have hg : s.data.toList[k] = s[k] := rfl
      have HSp : Hid (∀ w, Calls Tryz.prog 88 #[.int .u8 (s[k].toNat : Int)] w fun e w' => e = .returned (.bool (sp s[k])) ∧ w = w') := fun w => sep_any s[k] w
      rcases ttf (sp s[k]) with h0 | h0
      · have HC := Lib.hid (clo_any w.heap.size s j n k done wr hI.out hj (by omega) hs hn)
        have HS2 : Hid ((done ++ if j < k then [(s.data.toList.drop j).take (k - j)] else []) ++ wds (s.data.toList.drop (k + 1)) = wds s.data.toList) := by
          show _ = _
          rw [← hsg.out, wds_hit s.data.toList j k hj hlt' hno.out (by rw [hg]; exact h0), List.append_assoc]
        have HN : Hid (no sp ((s.data.toList.drop (k + 1)).take (k + 1 - (k + 1))) = true) := by
          show _ = true
          rw [Nat.sub_self]; rfl
        rw [h0] at HSp
        generalize (done ++ if j < k then [(s.data.toList.drop j).take (k - j)] else []) = done2 at *
        clear hsg hno hg h0 hI
        go_wp2_with (first
          | (go_at_call 88; refine (HSp.out _).mono ?_; rintro e w' ⟨rfl, rfl⟩)
          | (go_at_call 87; refine HC.out.mono ?_; rintro e w2 ⟨rfl, n2, hn2, hI2, hb2⟩; have HI2 := Lib.hid hI2; have HB2 := Lib.hid (hb.out.trans hb2); clear hI2 hb2))
        go_roundw
        case rel => exact ⟨k + 1, k + 1, n2, done2, by omega, by omega, by omega, by go_num, HI2.out, HB2.out, HS2.out, HN.out⟩
        case measure => simp [intOf]; omega
      · have HN : Hid (no sp ((s.data.toList.drop j).take (k + 1 - j)) = true) := no_step sp s.data.toList j k hj hlt' hno.out (by rw [hg]; exact h0)
        rw [h0] at HSp
        clear hno hg h0
        go_wp2_with (first
          | (go_at_call 88; refine (HSp.out _).mono ?_; rintro e w' ⟨rfl, rfl⟩))
        go_roundw
        case rel => exact ⟨k + 1, j, n, done, by omega, by omega, by omega, by go_num, hI.out, hb.out, hsg.out, HN.out⟩
        case measure => simp [intOf]; omega
    · obtain rfl : k = s.size := by omega
      have HC := Lib.hid (clo_any w.heap.size s j n s.size done wr hI.out hj (Nat.le_refl _) hs hn)
      have hna := drop_all sp s.data.toList j s.size (by rw [size_len]; exact Nat.le_refl _) hno.out
      have hd : (done ++ if j < s.size then [(s.data.toList.drop j).take (s.size - j)] else []) = wds s.data.toList := by
        rw [← hsg.out, wds_no _ hna]
        congr 1
        by_cases h : j < s.size
        · have hne : s.data.toList.drop j ≠ [] := fun e => by
            have := congrArg List.length e
            rw [List.length_drop, size_len] at this; simp at this; omega
          rw [if_pos h, if_neg hne, List.take_of_length_le (by rw [List.length_drop, size_len]; exact Nat.le_refl _)]
        · rw [if_neg h, if_pos (List.drop_eq_nil_of_le (by rw [size_len]; omega))]
      rw [hd] at HC
      clear hsg hno hd hna hI
      go_wp2_with (first
        | (go_at_call 87; refine HC.out.mono ?_; rintro e w2 ⟨rfl, n2, hn2, hI2, hb2⟩; obtain ⟨v2, hW2, ho2⟩ := hI2.hW; have cW2 := cell_of_one hW2; have HO2 := Lib.hid ho2; have HB2 := Lib.hid (hb.out.trans hb2); clear hI2 hb2 hW2 ho2))
      go_ret
      exact ⟨v2, n2, rfl, sa_own HO2.out, Joins.ownsRow_le HO2.out (by omega), HB2.out⟩
end Go.Proofs.YticfhbffoajgcaaGreatDoor
/- The reference's sequences of one byte. -/
set_option linter.unusedVariables false
namespace Go.Proofs.YticfhbffoajgcaaGreatDoor
open Go.RowKit

theorem sg_hit (x : Nat) (h1 : 7 ≤ x) (h2 : x ≤ 92) (h3 : lett (UInt8.ofNat x) ≠ 0) : sg (lett (UInt8.ofNat x)) = some (UInt8.ofNat x) := by
  have : ∀ y : Fin 93, 7 ≤ y.val → lett (UInt8.ofNat y.val) ≠ 0 → sg (lett (UInt8.ofNat y.val)) = some (UInt8.ofNat y.val) := by decide +kernel
  exact this ⟨x, by omega⟩ h1 h3
theorem sg_end (c : UInt8) (h1 : c ≠ 34) (h2 : c ≠ 47) : sg c = none ∨ ∃ y, 7 ≤ y ∧ y ≤ 92 ∧ lett (UInt8.ofNat y) = c ∧ c ≠ 0 := by
  have : ∀ c : UInt8, c ≠ 34 → c ≠ 47 → (sg c = none ∨ (7 ≤ ((sg c).getD 0).toNat ∧ ((sg c).getD 0).toNat ≤ 92 ∧ lett ((sg c).getD 0) = c ∧ c ≠ 0)) := by
    intro c; revert c; apply all_bytes; decide +kernel
  rcases this c h1 h2 with h | ⟨a, b, d, e⟩
  · exact .inl h
  · exact .inr ⟨((sg c).getD 0).toNat, a, b, by simpa using d, e⟩
def sgV (c : UInt8) : UInt8 := (sg c).getD 0
theorem ret_ib {k1 : IntKind} {a b : Int} {c d : Bool} (h1 : a = b) (h2 : c = d) : Ending.returned (.tuple #[.int k1 a, .bool c]) = .returned (.tuple #[.int k1 b, .bool d]) := by rw [h1, h2]

end Go.Proofs.YticfhbffoajgcaaGreatDoor
/- Unescape, as the program has it. -/
set_option linter.unusedVariables false
namespace Go.Proofs.YticfhbffoajgcaaGreatDoor
open Go.RowKit

def unR (l : List UInt8) : List UInt8 × Bool × Nat := unl l 0 []
def unE (b : Bool) : Int := if b then 0 else 1
def unV (R : List UInt8 × Bool × Nat) : Value := .tuple #[.string (mk R.1), .int .i64 (unE R.2.1), .int .i64 (R.2.2 : Int)]

end Go.Proofs.YticfhbffoajgcaaGreatDoor
/- Positions, as the program and the reference of layer 3 reckon them. -/
set_option linter.unusedVariables false
namespace Go.Proofs.YticfhbffoajgcaaGreatDoor
open Go.RowKit

theorem isL_byte (c : UInt8) : ((c.toNat : Int) == 10) = decide (c = 10) := by
  rw [← isL_int]; unfold isL
  by_cases h : c = 10
  · subst h; rfl
  · simp [h]
end Go.Proofs.YticfhbffoajgcaaGreatDoor
/- The examples that each law of layer 3 asks for. -/
set_option linter.unusedVariables false
namespace Go.Proofs.YticfhbffoajgcaaGreatDoor
open Go.RowKit

def ex3 : List (List UInt8) := [[97], [], [98]]
theorem aw_lines (w : World) : Calls Tryz.prog 49 #[.string ⟨#[97, 10, 10, 98]⟩] w fun e w' => ∃ b o c, e = .returned (.tuple #[.slice (some ⟨b, o, none⟩) 3 c, .bool false]) ∧ w'.cell? ⟨b, o, none⟩ = some (.string ⟨#[97]⟩) ∧ b < w'.heap.size ∧ SA w' (.slice (some ⟨b, o, none⟩) 3 c) ex3 ∧ Below w.heap.size w w' := by
  refine (lines_any (mk [97, 10, 10, 98]) w (by rw [mk_size]; decide)).mono ?_
  rintro e w' ⟨v, rfl, hs, hb⟩
  have h1 : lin (mk [97, 10, 10, 98]).data.toList = ex3 := by decide
  have h2 : lend (mk [97, 10, 10, 98]).data.toList = false := by decide
  rw [h1] at hs
  rw [h2]
  have hs2 := hs
  obtain ⟨a, c, rfl, h3, h4⟩ := hs
  rcases h4 with h4 | ⟨b, o, rfl, h5, h6⟩
  · cases h4
  · exact ⟨b, o, c, rfl, h6 0 [97] rfl, h5, hs2, hb⟩
theorem aw_join (v : Value) (w : World) (hv : SA w v ex3) : Calls Tryz.prog 64 #[v, .bool true] w fun e w' => e = .returned (.string ⟨#[97, 10, 10, 98, 10]⟩) ∧ Below w.heap.size w w' :=
  tjoin_any v ex3 true w hv (by decide)
theorem aw_conv (w : World) : (convert 80 9 (.slice (some ⟨w.heap.size, 0, none⟩) 1 1)).run Tryz.prog (w.alloc (.cells #[.int .u8 92] 5)) = .ok (.string ⟨#[92]⟩) (w.alloc (.cells #[.int .u8 92] 5)) :=
  conv_own (B := w.heap.size) (n := 1) (l := [92]) (World.ownsRow_lit w #[.int .u8 92] 1 (Nat.le_refl _) (by decide) rfl) rfl
theorem aw_bel {w1 w2 : World} {o : Obj} (h : Below (w1.alloc o).heap.size (w1.alloc o) w2) : Below w1.heap.size w1 w2 := ((Below.refl _ w1).alloc (Nat.le_refl _) _).trans (h.mono (by simp))

end Go.Proofs.YticfhbffoajgcaaGreatDoor
/- Words, as the reference has it; and the law on lines and words. -/
set_option linter.unusedVariables false
namespace Go.Proofs.YticfhbffoajgcaaGreatDoor
open Go.RowKit

/-- What the reference knows at k: no word has begun, or one has at j. -/
def RW (l : List UInt8) (done : List (List UInt8)) (m : Int) (k n : Nat) : Prop :=
  (m = -1 ∧ done ++ wds (l.drop k) = wds l) ∨ ∃ j : Nat, m = j ∧ j < k ∧ n ≤ j ∧ done ++ wds (l.drop j) = wds l ∧ no sp ((l.drop j).take (k - j)) = true

set_option maxHeartbeats 2000000 in
theorem rwords_any (s : ByteArray) (w : World) (hs : s.size ≤ 4294967280) :
    Calls Tryz.prog 32 #[.string s] w fun e w' => ∃ v, e = .returned v ∧ SA w' v (wds s.data.toList) ∧ Below w.heap.size w w' := by
  go_enter Tryz.func32, Tryz.ntmps32
  go_wp2
  go_loopw [3, 4, 5] (fun v f i wr => ∃ (k n : Nat) (m : Int) (sv : Value) (done : List (List UInt8)), sv = v ∧ k ≤ s.size ∧ n ≤ k ∧ i = .int .i64 k ∧ f = .int .i64 m ∧
      Hid (wr.ownsRow w.heap.size 9 1 sv n (strs3 done)) ∧ Hid (Below w.heap.size w wr) ∧
      Hid (RW s.data.toList done m k n)) (fun _ _ i _ => s.size - (intOf i).toNat)
  case atStart => exact ⟨0, 0, -1, _, [], rfl, Nat.zero_le _, Nat.le_refl _, rfl, rfl, World.ownsRow_nil _ _ _ _, Below.refl _ _, .inl ⟨rfl, rfl⟩⟩
  case round =>
    obtain ⟨k, n, m, v0, done, rfl, hk, hn, rfl, rfl, hown, hb, hm⟩ := hrel
    have hBs := hb.out.size
    by_cases hlt : k < s.size
    · have hlt' : k < s.data.toList.length := by rw [size_len]; exact hlt
      have hg : s.data.toList[k] = s[k] := rfl
      have HSp : Hid (∀ w, Calls Tryz.prog 53 #[.int .u8 (s[k].toNat : Int)] w fun e w' => e = .returned (.bool (sp s[k])) ∧ w = w') := fun w => space_any s[k] w
      rcases ttf (sp s[k]) with h0 | h0
      · rw [h0] at HSp
        rcases hm.out with ⟨rfl, hsg⟩ | ⟨j, rfl, hj, hnj, hsg, hno⟩
        · have HN : Hid (RW s.data.toList done (-1) (k + 1) n) :=
            .inl ⟨rfl, by rw [← hsg, wds_skip _ k hlt' (by rw [hg]; exact h0)]⟩
          clear hm hsg hg h0
          go_wp2_with (first | (go_at_call 53; refine (HSp.out _).mono ?_; rintro e w' ⟨rfl, rfl⟩))
          go_roundw
          case rel => exact ⟨k + 1, n, -1, _, _, rfl, by omega, by omega, by go_num, rfl, hown.out, hb.out, HN.out⟩
          case measure => simp [intOf]; omega
        · have HN : Hid (RW s.data.toList (done ++ [(s.data.toList.drop j).take (k - j)]) (-1) (k + 1) (n + 1)) :=
            .inl ⟨rfl, by rw [← hsg, wds_hit s.data.toList j k (by omega) hlt' hno (by rw [hg]; exact h0), if_pos hj, List.append_assoc]⟩
          have HI := Lib.hid (strs_ext s j k)
          have hjk : (j : Int) ≤ (k : Int) := by omega
          have hj0 : ¬ (j : Int) < 0 := by omega
          clear hm hsg hno hg h0
          go_wp2_with (first
            | (go_at_call 53; refine (HSp.out _).mono ?_; rintro e w' ⟨rfl, rfl⟩)
            | (at_builtin; refine app_lit 59 9 (.string ByteArray.empty) 16 Tryz.underlying59 tinfoS rfl wr rfl _ _ rfl w.heap.size v0 _ _ _ _ rfl rfl hown.out rfl rfl ?c1 hBs ?c2 ?c3 ?_))
          case c1 => simp [Value.oneCell']
          case c2 => unfold maxLen; omega
          case c3 => omega
          intro v' w1 hown' hb'
          have HW := Lib.hid (own_sapp hown' HI.out)
          have HB := Lib.hid (hb' w hb.out)
          clear hown' hb'
          go_wp2
          go_roundw
          case rel => exact ⟨k + 1, n + 1, -1, _, _, rfl, by omega, by omega, by go_num, rfl, HW.out, HB.out, HN.out⟩
          case measure => simp [intOf]; omega
      · rw [h0] at HSp
        rcases hm.out with ⟨rfl, hsg⟩ | ⟨j, rfl, hj, hnj, hsg, hno⟩
        · have HN : Hid (RW s.data.toList done (k : Int) (k + 1) n) :=
            .inr ⟨k, rfl, Nat.lt_succ_self k, hn, hsg, no_step sp s.data.toList k k (Nat.le_refl _) hlt' (by rw [Nat.sub_self]; rfl) (by rw [hg]; exact h0)⟩
          clear hm hsg hg h0
          go_wp2_with (first | (go_at_call 53; refine (HSp.out _).mono ?_; rintro e w' ⟨rfl, rfl⟩))
          go_roundw
          case rel => exact ⟨k + 1, n, k, _, _, rfl, by omega, by omega, by go_num, rfl, hown.out, hb.out, HN.out⟩
          case measure => simp [intOf]; omega
        · have HN : Hid (RW s.data.toList done (j : Int) (k + 1) n) :=
            .inr ⟨j, rfl, by omega, hnj, hsg, no_step sp s.data.toList j k (by omega) hlt' hno (by rw [hg]; exact h0)⟩
          have hj0 : ¬ (j : Int) < 0 := by omega
          clear hm hsg hno hg h0
          go_wp2_with (first | (go_at_call 53; refine (HSp.out _).mono ?_; rintro e w' ⟨rfl, rfl⟩))
          go_roundw
          case rel => exact ⟨k + 1, n, j, _, _, rfl, by omega, by omega, by go_num, rfl, hown.out, hb.out, HN.out⟩
          case measure => simp [intOf]; omega
    · obtain rfl : k = s.size := by omega
      rcases hm.out with ⟨rfl, hsg⟩ | ⟨j, rfl, hj, hnj, hsg, hno⟩
      · have he : done = wds s.data.toList := by
          rw [← hsg, List.drop_eq_nil_of_le (by rw [size_len]; exact Nat.le_refl _)]
          show done = done ++ []
          rw [List.append_nil]
        have HE := Lib.hid he
        clear hm hsg he
        go_wp2
        go_ret
        refine ⟨v0, rfl, ?_, hb.out⟩
        rw [← HE.out]; exact sa_own hown.out
      · have hna := drop_all sp s.data.toList j s.size (by rw [size_len]; exact Nat.le_refl _) hno
        have he : done ++ [s.data.toList.drop j] = wds s.data.toList := by
          rw [← hsg, wds_no _ hna, if_neg]
          intro e
          have := congrArg List.length e
          rw [List.length_drop, size_len] at this; simp at this; omega
        have HE := Lib.hid he
        have HI := Lib.hid (strs_ext_end s j)
        have hj0 : ¬ (j : Int) < 0 := by omega
        clear hm hsg hno hna he
        go_wp2_with (first
          | (at_builtin; refine app_lit 59 9 (.string ByteArray.empty) 16 Tryz.underlying59 tinfoS rfl wr rfl _ _ rfl w.heap.size v0 _ _ _ _ rfl rfl hown.out rfl rfl ?c1 hBs ?c2 ?c3 ?_))
        case c1 => simp [Value.oneCell']
        case c2 => unfold maxLen; omega
        case c3 => omega
        intro v' w1 hown' hb'
        have HW := Lib.hid (own_sapp hown' HI.out)
        have HB := Lib.hid (hb' w hb.out)
        clear hown' hb'
        go_wp2
        go_ret
        refine ⟨v', rfl, ?_, HB.out⟩
        rw [← HE.out]; exact sa_own HW.out

end Go.Proofs.YticfhbffoajgcaaGreatDoor
