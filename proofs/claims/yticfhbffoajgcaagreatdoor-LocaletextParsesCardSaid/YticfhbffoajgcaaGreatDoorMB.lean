/- Several texts in one (a claim has at most 60 files). -/
import Derived.Test.YticfhbffoajgcaaGreatDoorMX
import Derived.Test.YticfhbffoajgcaaGreatDoorMA
import Derived.Test.YticfhbffoajgcaaGreatDoorLcValid
import Derived.Defers
import Derived.Recover
import Derived.Test.YticfhbffoajgcaaGreatDoorLpDef
import Derived.Test.YticfhbffoajgcaaGreatDoorTxShelf
import Derived.Test.YticfhbffoajgcaaGreatDoorNumFormatB
import Derived.Test.YticfhbffoajgcaaGreatDoorNumDec
import Derived.BigQuiet
import Derived.Test.YticfhbffoajgcaaGreatDoorTxOwn
import Derived.Maps.OwnOps
import Derived.Test.YticfhbffoajgcaaGreatDoorCsList
import Derived.Test.YticfhbffoajgcaaGreatDoorLpCheck
/- The lines of a string: the slice is a new one. -/
set_option linter.unusedVariables false
namespace Go.Proofs.YticfhbffoajgcaaGreatDoor
open Go.RowKit

set_option maxRecDepth 100000 in
set_option maxHeartbeats 4000000 in
theorem lines_own (s : ByteArray) (w : World) (hs : s.size < 4294967281) :
    Calls Tryz.prog 49 #[.string s] w fun e w' => ∃ c, e = .returned (.tuple #[.slice (some ⟨w.heap.size, 0, none⟩) (lin s.data.toList).length c, .bool (lend s.data.toList)]) ∧ SA w' (.slice (some ⟨w.heap.size, 0, none⟩) (lin s.data.toList).length c) (lin s.data.toList) ∧ Below w.heap.size w w' ∧ w.heap.size < w'.heap.size := by
  obtain ⟨q, t, hq⟩ := segs_snoc_form isL s.data.toList
  have hle := segs_count isL s.data.toList
  have H0 := split_any s w hs
  have HF := Lib.hid (lin_of s.data.toList q t hq)
  rw [size_len] at hle
  have hc0 : ∀ (j : Nat) (x : List UInt8), (segs isL s.data.toList)[j]? = some x → (w.alloc (.cells (strs3 (segs isL s.data.toList)).toArray 9)).cell? ⟨w.heap.size, j, none⟩ = some (.string (mk x)) := fun j x h => cell_strs w _ _ j x h
  have hbel : Below w.heap.size w (w.alloc (.cells (strs3 (segs isL s.data.toList)).toArray 9)) := (Below.refl _ _).alloc (Nat.le_refl _) _
  have hsz : w.heap.size < (w.alloc (.cells (strs3 (segs isL s.data.toList)).toArray 9)).heap.size := by simp
  generalize (w.alloc (.cells (strs3 (segs isL s.data.toList)).toArray 9)) = w1 at *
  rw [hq] at H0 hc0 hle
  rw [List.length_append] at H0 hle
  have hlast := hc0 q.length t (by rw [List.getElem?_append_right (Nat.le_refl _), Nat.sub_self]; rfl)
  have e1 : [t].length = 1 := rfl
  rw [e1] at H0 hle
  have HH : Hid (Calls Tryz.prog 86 #[.string s, .string ⟨#[10]⟩] w fun e w' => e = .returned (.slice (some ⟨w.heap.size, 0, none⟩) (q.length + 1) (q.length + 1)) ∧ w' = w1) := H0
  have HC := Lib.hid hc0
  have HB := Lib.hid hbel
  have HS := Lib.hid hsz
  generalize hm : q.length = m at *
  have HM := Lib.hid hm
  by_cases ht : t = []
  · obtain ⟨f1, f2⟩ := HF.out.1 ht
    have hne : (mk t).toList.isEmpty = true := by rw [ht, toList_mk]; rfl
    rw [f1, f2]
    clear hc0 H0 hq ht hbel hsz e1 f1 f2 HF hm
    go_enter Tryz.func49, Tryz.ntmps49
    go_wp2_with (first | (go_at_call 86; refine HH.out.mono ?_; rintro e w' ⟨rfl, rfl⟩))
    go_ret2
    refine ⟨m, by rw [HM.out]; rfl, ?_, HB.out, HS.out⟩
    refine ⟨_, m, rfl, by rw [HM.out]; exact Nat.le_refl _, ?_⟩
    refine .inr ⟨w.heap.size, 0, rfl, HS.out, fun j x h => ?_⟩
    rw [Nat.zero_add]
    exact HC.out j x (by rw [List.getElem?_append_left (List.getElem?_eq_some_iff.1 h).1]; exact h)
  · obtain ⟨f1, f2⟩ := HF.out.2 ht
    have hne : (mk t).toList.isEmpty = false := by
      apply not_empty_of
      cases t with
      | nil => exact absurd rfl ht
      | cons a r => exact Nat.succ_pos _
    rw [f1, f2]
    clear hc0 H0 hq ht hbel hsz e1 f1 f2 HF hm
    go_enter Tryz.func49, Tryz.ntmps49
    go_wp2_with (first | (go_at_call 86; refine HH.out.mono ?_; rintro e w' ⟨rfl, rfl⟩))
    go_ret2
    refine ⟨m + 1, by rw [List.length_append, HM.out]; rfl, ?_, HB.out, HS.out⟩
    refine ⟨_, m + 1, rfl, by rw [List.length_append, HM.out]; exact Nat.le_refl _, ?_⟩
    refine .inr ⟨w.heap.size, 0, rfl, HS.out, fun j x h => ?_⟩
    rw [Nat.zero_add]
    exact HC.out j x h

end Go.Proofs.YticfhbffoajgcaaGreatDoor
/- The reader's method read. (Written by gen_ltread.py.) -/
set_option linter.unusedVariables false
namespace Go.Proofs.YticfhbffoajgcaaGreatDoor
open Go.RowKit

/-- The state behind k lines. -/
def RdL (S0 : Nat → Prop) (w : World) (R : Nat) (xs : List (List UInt8)) (k : Nat) (wr : World) : Prop :=
  ∃ S' L' W' C' E' st' ln', linesT 1 (xs.take k) (false, PLdef) = .ok (st', L') ∧ RD S' wr R L' W' C' E' st' ln' ∧ Keep (own S0 R) w wr ∧ (∀ g, S' g → (S0 g ∨ w.heap.size ≤ g) ∧ g < wr.heap.size ∧ g ≠ w.heap.size) ∧ Fit L' ∧ ArgsAt w.heap.size 0 xs wr ∧ w.heap.size < wr.heap.size
/-- How 'read' ends. -/
def EndR (S0 : Nat → Prop) (w : World) (R : Nat) (l : List UInt8) (e : Ending) (w' : World) : Prop := match linesT 1 (lin l) (false, PLdef) with
  | .error x => e = .panicked (pch x.1) ∧ w'.cell? ⟨R, 7, none⟩ = some (.int .i64 (x.2 : Int)) ∧ Keep (own S0 R) w w'
  | .ok s => if s.1 = true then ∃ S' W C E ln, e = .returned (.tuple #[]) ∧ RD S' w' R s.2 W C E true ln ∧ Keep (own S0 R) w w' ∧ (∀ g, S' g → S0 g ∨ w.heap.size ≤ g) ∧ Fit s.2
    else e = .panicked (pch 1) ∧ w'.cell? ⟨R, 7, none⟩ = some (.int .i64 (((lin l).length + 1 : Nat) : Int)) ∧ Keep (own S0 R) w w'
theorem RD.cut {S : Nat → Prop} {w : World} {R : Nat} {L : PL} {W C E : Value} {st : Bool} {ln : Int} (h : RD S w R L W C E st ln) : RD (fun g => S g ∧ g < w.heap.size) w R L W C E st ln := by
  obtain ⟨⟨⟨x, h1, h2, h3, h4⟩, h5, h6, h7, h8, h9⟩, hb, ho⟩ := h
  refine ⟨⟨⟨x, h1, ⟨h2, ?_⟩, h3, h4⟩, h5, h6, h7, fun g e => ⟨h8 g e, (h5.lt g e).2⟩, fun g e => ⟨h9 g e, (h6.lt g e).2⟩⟩, hb, fun e => ho e.1⟩
  obtain ⟨c0, cs, _, _, hh, _⟩ := h1
  exact (Array.getElem?_eq_some_iff.1 hh).1
theorem RdL.next {S0 : Nat → Prop} {w : World} {R : Nat} {xs : List (List UInt8)} {k : Nat} {wr wz : World} (h : RdL S0 w R xs k wr) (hb : Below wr.heap.size wr wz) : RdL S0 w R xs k wz := by
  obtain ⟨S', L', W', C', E', st', ln', h1, h2, h3, h4, h5, h6, h7⟩ := h
  exact ⟨S', L', W', C', E', st', ln', h1, h2.next hb, h3.next hb, fun g hg => ⟨(h4 g hg).1, Nat.lt_of_lt_of_le (h4 g hg).2.1 hb.size, (h4 g hg).2.2⟩, h5, h6.below hb h7, Nat.lt_of_lt_of_le h7 hb.size⟩
theorem read_lin {l : List UInt8} {k : Nat} {e : Int} {x : List UInt8} {t : Bool × PL} (xs : List (List UInt8)) (hxs : lin l = xs) (hk : k < xs.length) (hl : linesT 1 (xs.take k) (false, PLdef) = .ok t) (hx : xs[k] = x) (he : lineT (k + 1) t x = .error (e, k + 1)) : linesT 1 (lin l) (false, PLdef) = .error (e, k + 1) := by
  subst hxs
  have h1 := linesT_snoc 1 ((lin l).take k) (lin l)[k] (false, PLdef) t hl
  rw [← List.take_succ_eq_append_getElem hk, List.length_take, Nat.min_eq_left (Nat.le_of_lt hk), Nat.add_comm 1 k, hx, he] at h1
  have h2 := linesT_err 1 _ ((lin l).drop (k + 1)) _ _ h1
  rwa [List.take_append_drop] at h2
theorem head_eq (x : List UInt8) (h : 0 < (mk x).size) (c : Nat) (hc : ((mk x)[0]'h).toNat = c) : (x.head? == some 35) = (c == 35) := by
  cases x with
  | nil => cases h
  | cons a t =>
    have e : a.toNat = c := hc
    subst e
    rw [Bool.eq_iff_iff]
    simp only [List.head?_cons, beq_iff_eq, Option.some.injEq]
    constructor
    · intro h; subst h; rfl
    · intro h; exact UInt8.toNat_inj.1 h
set_option maxRecDepth 100000 in
set_option maxHeartbeats 16000000 in
theorem read_any (S0 : Nat → Prop) (w : World) (R : Nat) (W C E : Value) (h : RD S0 w R PLdef W C E false 0) (hS : ∀ g, S0 g → g < w.heap.size) (s : ByteArray) (hs : s.size ≤ 65536) :
    Calls Tryz.prog 30 #[.pointer (some ⟨R, 0, none⟩), .string s] w (EndR S0 w R s.data.toList) := by
  have HL := Lib.hid (lines_own s w (by omega))
  obtain ⟨hl1, hl2⟩ := lin_le s.data.toList
  have hlm : ∀ x ∈ lin s.data.toList, x.length ≤ 65536 := fun x hx => by
    have h1 := sum_mem _ x hx
    rw [size_len] at hl2
    omega
  rw [size_len] at hl1
  have HLm := Lib.hid hlm
  have HD := Lib.hid h
  have HS := Lib.hid hS
  have hlt := h.lt
  have HX0 : Hid (∀ e w', EndR S0 w R s.data.toList e w' ↔ EndR S0 w R s.data.toList e w') := fun _ _ => Iff.rfl
  obtain ⟨P, hP⟩ : ∃ P : Ending → World → Prop, EndR S0 w R s.data.toList = P := ⟨_, rfl⟩
  rw [hP]
  have HP := Lib.hid hP
  obtain ⟨xs, hxs⟩ : ∃ xs, lin s.data.toList = xs := ⟨_, rfl⟩
  rw [hxs] at HL hl1 HLm
  have HXs := Lib.hid hxs
  obtain ⟨n, hn⟩ : ∃ n, n = xs.length := ⟨_, rfl⟩
  rw [← hn] at HL hl1
  have HN := Lib.hid hn
  have hni : (n : Int) ≤ 65537 := by omega
  clear h hS hP hxs hn hlm hl2 HX0
  go_enter Tryz.func30, Tryz.ntmps30
  go_wp2_with (first
    | (go_at_call 49
       refine HL.out.mono ?_
       rintro e w1 ⟨c0, rfl, hsa, hb, hlt1⟩
       have HSa := Lib.hid hsa
       have HB := Lib.hid hb
       have HL1 := Lib.hid hlt1
       clear hsa hb hlt1))
  have hA0 : ArgsAt w.heap.size 0 xs w1 := by
    obtain ⟨a, c, h1, h2, h3⟩ := HSa.out
    intro k hk
    rcases h3 with h3 | ⟨b, o, e, hb, h3⟩
    · subst h3; cases hk
    · simp only [Value.slice.injEq] at h1
      rw [e] at h1
      simp only [Option.some.injEq, Addr.mk.injEq, and_true] at h1
      obtain ⟨⟨rfl, rfl⟩, -⟩ := h1
      exact h3 k _ (List.getElem?_eq_getElem hk)
  have H0 : Hid (RdL S0 w R xs 0 w1) := ⟨S0, PLdef, W, C, E, false, 0, rfl, HD.out.next HB.out, Keep.of_below HB.out, fun g hg => ⟨.inl hg, Nat.lt_of_lt_of_le (HS.out g hg) HB.out.size, Nat.ne_of_lt (HS.out g hg)⟩, Fit.def, hA0, HL1.out⟩
  have hc0 : n ≤ c0 := by
    obtain ⟨a, c, h1, h2, h3⟩ := HSa.out
    simp only [Value.slice.injEq] at h1
    rw [HN.out]
    omega
  clear hA0
  go_loopw [16] (fun i wr => ∃ k : Nat, k ≤ n ∧ i = .int .i64 k ∧ Hid (RdL S0 w R xs k wr)) (fun i _ => n - (intOf i).toNat)
  case atStart => exact ⟨0, Nat.zero_le _, rfl, H0.out⟩
  case round =>
    obtain ⟨k, hk, rfl, HR⟩ := hrel
    clear H0 HL
    by_cases hkn : k < n
    · have ki : (k : Int) < n := by omega
      have ki0 : (0 : Int) ≤ k := by omega
      have hkx : k < xs.length := by rw [← HN.out]; exact hkn
      obtain ⟨S1, L1, W1, C1, E1, st1, ln1, hlin, hD, hK, hSx, hF, hA, hsz⟩ := HR.out
      have ck := hA k hkx
      rw [Nat.zero_add] at ck
      have hxk := HLm.out _ (List.getElem_mem hkx)
      obtain ⟨x, hx⟩ : ∃ x, xs[k] = x := ⟨_, rfl⟩
      rw [hx] at ck hxk
      obtain ⟨⟨x0, x1, x2, x3⟩, ⟨x4, x5, x6, x7⟩, xf⟩ := hD.cells
      have hD2 := hD.line (((k + 1 : Nat)) : Int)
      have hkw : IntKind.i64.wrap ((k : Int) + 1) = ((k + 1 : Nat) : Int) := by rw [IntWalk.i64_in _ (by omega)]; omega
      have HDl := Lib.hid hD2
      have HKl := Lib.hid (hK.put R 7 (.inl (.inr rfl)) (.int .i64 ((k + 1 : Nat) : Int)))
      have hRb : w.heap.size ≠ R := by omega
      have HAl : Hid (ArgsAt w.heap.size 0 xs (wr.setCell ⟨R, 7, none⟩ (.int .i64 ((k + 1 : Nat) : Int)))) := fun q hq => by
        rw [World.cell?_of_block (w := wr) (Below.heap_setCell wr _ _ _ hRb)]
        exact hA q hq
      have HWd := Lib.hid (fun w => words_any (mk x) w (by rw [mk_size]; omega))
      rw [mk_data] at HWd
      have HLin := Lib.hid hlin
      have HSx := Lib.hid hSx
      have HF := Lib.hid hF
      have HXk := Lib.hid hx
      have hszl : w.heap.size < (wr.setCell ⟨R, 7, none⟩ (.int .i64 ((k + 1 : Nat) : Int))).heap.size := by simpa [World.setCell] using hsz
      have HSz := Lib.hid hszl
      obtain ⟨kn, hkn1⟩ : ∃ kn : Int, kn = ((k + 1 : Nat) : Int) := ⟨_, rfl⟩
      rw [← hkn1] at HDl HKl HAl HSz hkw
      have HKn := Lib.hid hkn1
      clear hlin hD hK hSx hF hA hsz hD2 hx hszl hkn1
      have HSn : Hid (linesT 1 (xs.take (k + 1)) (false, PLdef) = lineT (k + 1) (st1, L1) x) := by
        have h1 := linesT_snoc 1 (xs.take k) xs[k] (false, PLdef) _ HLin.out
        rw [← List.take_succ_eq_append_getElem hkx, List.length_take, Nat.min_eq_left (Nat.le_of_lt hkx), Nat.add_comm 1 k, HXk.out] at h1
        exact h1
      have HWm := Lib.hid (wds_mem x)
      have hwc := wds_count x
      obtain ⟨ws, hws⟩ : ∃ ws, wds x = ws := ⟨_, rfl⟩
      rw [hws] at HWd HWm hwc
      have HWs := Lib.hid hws
      clear hws
      cases ws with
      | nil =>
        have hskip : skipT x = true := by unfold skipT; rw [HWs.out]; rfl
        have hsn := HSn.out
        rw [lineT_skip _ _ _ hskip] at hsn
        have HSn2 := Lib.hid hsn
        generalize mk x = X at ck HWd
        clear hskip hsn
        go_wp2_with (first
          | (go_at_call 50
             refine (HWd.out _).mono ?_
             rintro e w2 ⟨v, m, rfl, hsv, hov, hb⟩
             have HB2 := Lib.hid hb
             obtain ⟨av, cv, rfl, hcv, hat⟩ := hsv
             clear hov hb hcv hat))
        go_roundw
        case rel => exact ⟨k + 1, by omega, by rw [HKn.out], RdL.next ⟨S1, L1, W1, C1, E1, st1, kn, HSn2.out, HDl.out, HKl.out, fun g hg => ⟨(HSx.out g hg).1, by have := (HSx.out g hg).2.1; simpa [World.setCell] using this, (HSx.out g hg).2.2⟩, HF.out, HAl.out, HSz.out⟩ HB2.out⟩
        case measure => simp [intOf]; have := HKn.out; omega
      | cons kw rs =>
        have hne : x ≠ [] := by
          intro e
          have := HWs.out
          rw [e] at this
          cases this
        have hpos : 0 < (mk x).size := by rw [mk_size]; exact List.length_pos_iff.2 hne
        obtain ⟨c, hc⟩ : ∃ c, ((mk x)[0]'hpos).toNat = c := ⟨_, rfl⟩
        have hh := head_eq x hpos c hc
        have hc0 : (0 : Int) ≤ c := by omega
        have hm0 : (0 : Int) < ((kw :: rs).length : Int) := by simp
        by_cases hsharp : c = 35
        · have hskip : skipT x = true := by unfold skipT; rw [hh, hsharp]; simp
          have hsn := HSn.out
          rw [lineT_skip _ _ _ hskip] at hsn
          have HSn2 := Lib.hid hsn
          have hcd : ((c : Int) != 35) = false := by simp; omega
          generalize mk x = X at ck HWd hpos hc
          have hpi : (0 : Int) < X.size := by omega
          clear hskip hsn hsharp hh hne
          go_wp2_with (first
            | (go_at_call 50
               refine (HWd.out _).mono ?_
               rintro e w2 ⟨v, m, rfl, hsv, hov, hb⟩
               have HB2 := Lib.hid hb
               obtain ⟨av, cv, rfl, hcv, hat⟩ := hsv
               clear hov hb hcv hat))
          go_roundw
          case rel => exact ⟨k + 1, by omega, by rw [HKn.out], RdL.next ⟨S1, L1, W1, C1, E1, st1, kn, HSn2.out, HDl.out, HKl.out, fun g hg => ⟨(HSx.out g hg).1, by have := (HSx.out g hg).2.1; simpa [World.setCell] using this, (HSx.out g hg).2.2⟩, HF.out, HAl.out, HSz.out⟩ HB2.out⟩
          case measure => simp [intOf]; have := HKn.out; omega
        · have hskip : skipT x = false := by
            unfold skipT
            rw [hh, HWs.out]
            simp [hsharp]
          have HLe := Lib.hid (lineT_entry (k + 1) (st1, L1) x kw rs hskip HWs.out)
          have hcd : ((c : Int) != 35) = true := by simp; omega
          generalize mk x = X at ck HWd hpos hc
          have hpi : (0 : Int) < X.size := by omega
          have hrs : rs.length ≤ 1000000 := by simp at hwc; omega
          have HWr : Hid (∀ y ∈ rs, 0 < y.length ∧ y.length ≤ 1000000) := fun y hy => by
            have := HWm.out y (List.mem_cons_of_mem _ hy)
            omega
          clear hskip hsharp hh hne
          go_wp2_with (first
            | (go_at_call 50
               refine (HWd.out _).mono ?_
               rintro e w2 ⟨v, m, rfl, hsv, hov, hb⟩
               have HB2 := Lib.hid hb
               obtain ⟨av, cv, rfl, hcv, hat⟩ := hsv
               have HSv := Lib.hid hat
               have HOv := Lib.hid hov
               clear hov hb hat))
          obtain ⟨m1, hm1⟩ : ∃ m1, rs.length + 1 = m1 := ⟨_, rfl⟩
          have hm2 : m1 - 1 = rs.length := by omega
          have hm3 : 0 < m1 := by omega
          have hm4 : (0 : Int) < m1 := by omega
          have hm5 : (1 : Int) ≤ m1 := by omega
          have hform := Joins.ownsRow_forms HOv.out
          rcases hform with ⟨-, h0⟩ | ⟨bv, cv', e0⟩
          · exact absurd (HOv.out.1) (by rw [h0]; simp [strs3])
          simp only [Value.slice.injEq] at e0
          obtain ⟨rfl, -, rfl⟩ := e0
          have hbv := HOv.out.lt bv rfl
          have hbe : Hid (wr.heap.size ≤ bv ∧ bv < w2.heap.size) := ⟨by have := hbv.1; simpa [World.setCell] using this, hbv.2⟩
          have hAw : Hid (ArgsAt bv 0 (kw :: rs) w2.drew) := fun q hq => by
            rcases HSv.out with h3 | ⟨b, o, e, hb, h3⟩
            · cases h3
            · simp only [Option.some.injEq, Addr.mk.injEq, and_true] at e
              obtain ⟨rfl, rfl⟩ := e
              exact h3 q _ (List.getElem?_eq_getElem hq)
          have ckw : w2.cell? ⟨bv, 0, none⟩ = some (.string (mk kw)) := by
            have := hAw.out 0 (by simp)
            simpa using this
          have HDe := Lib.hid ((HDl.out.next HB2.out).drew)
          have hRl : R < w2.heap.size := by have := HDe.out.lt; simpa using this
          have hRbv : bv ≠ R := by
            have h1 := hbe.out.1
            have h2 : R < wr.heap.size := by have := HDl.out.lt; simpa [World.setCell] using this
            omega
          have HSep : Hid (¬ own S1 R bv) := fun e => by
            rcases e with e | e
            · have h1 := (HSx.out bv e).2.1
              have h2 := hbe.out.1
              omega
            · exact hRbv e
          have HC := Lib.hid ckw
          have hcv1 : (1 : Int) ≤ cv := by simp at hcv; omega
          have hlen : (kw :: rs).length - 1 = rs.length := by simp
          by_cases hone : cv = 1
          · subst hone
            have hrs0 : rs = [] := List.eq_nil_of_length_eq_zero (by simp at hcv; exact List.eq_nil_iff_length_eq_zero.1 hcv)
            subst hrs0
            have hE := entry_any S1 w2.drew R L1 W1 C1 E1 st1 kn HDe.out (mk kw) (some ⟨bv, 0, none⟩) 0 [] (Nat.le_refl _) (.inl rfl) (fun y hy => by cases hy) (by simp) HF.out.cls HF.out.els HF.out.low HF.out.up
            rw [mk_data] at hE
            have HEn := Lib.hid hE
            clear hE
            cases hq : entryT st1 L1 kw [] with
            | error x1 =>
              rw [hq] at HEn
              have HEq := Lib.hid hq
              generalize hKW : mk kw = KW at HC HEn ckw
              clear hq
              refine wp_region_held_drew (S := fun w' => w'.cell? ⟨bv, 0, none⟩ = some (.string (KW))) (by kernel_rfl) ?_ (fun hHeld => ?_)
              · exact HC.out
              refine wpAnyH_take (i := 0) (v := ?pv0) rfl (by kernel_rfl) (by kernel_rfl) (by kernel_rfl) (fun _ _ _ h => h) (Or.inl ⟨by rfl, ?py0⟩) (by assumption) ?pr0
              case py0 =>
                intro wx hSw
                clear hSw
                go_simp
                first | done | (with_reducible rfl)
              (try simp only [Act.put, List.getElem_toArray, List.getElem_cons_zero, List.setIfInBounds_toArray, List.set_cons_zero, List.set_cons_succ])
              refine wpAnyH_take (i := 1) (v := ?pv1) rfl (by kernel_rfl) (by kernel_rfl) (by kernel_rfl) (fun _ _ _ h => h) (Or.inl ⟨by rfl, ?py1⟩) (by assumption) ?pr1
              case py1 =>
                intro wx hSw
                clear hSw
                go_simp
                first | done | (with_reducible rfl)
              (try simp only [Act.put, List.getElem_toArray, List.getElem_cons_succ, List.getElem_cons_zero, List.setIfInBounds_toArray, List.set_cons_zero, List.set_cons_succ])
              refine wpAnyH_take (i := 2) (v := ?pv2) rfl (by kernel_rfl) (by kernel_rfl) (by kernel_rfl) (fun _ _ _ h => h) (Or.inl ⟨by rfl, ?py2⟩) (by assumption) ?pr2
              case py2 =>
                intro wx hSw
                clear hSw
                go_simp
                first | done | (with_reducible rfl)
              (try simp only [Act.put, List.getElem_toArray, List.getElem_cons_succ, List.getElem_cons_zero, List.setIfInBounds_toArray, List.set_cons_zero, List.set_cons_succ])
              refine wpAnyH_take (i := 3) (v := ?pv3) rfl (by kernel_rfl) (by kernel_rfl) (by kernel_rfl) (fun _ _ _ h => h) (Or.inl ⟨by rfl, ?py3⟩) (by assumption) ?pr3
              case py3 =>
                intro wx hSw
                have hcl := hSw
                clear hSw
                go_simp
                first | done | (with_reducible rfl)
              (try simp only [Act.put, List.getElem_toArray, List.getElem_cons_succ, List.getElem_cons_zero, List.setIfInBounds_toArray, List.set_cons_zero, List.set_cons_succ])
              refine wpAnyH_take (i := 4) (v := ?pv4) rfl (by kernel_rfl) (by kernel_rfl) (by kernel_rfl) (fun _ _ _ h => h) (Or.inl ⟨by rfl, ?py4⟩) (by assumption) ?pr4
              case py4 =>
                intro wx hSw
                clear hSw
                go_simp
                first | done | (with_reducible rfl)
              (try simp only [Act.put, List.getElem_toArray, List.getElem_cons_succ, List.getElem_cons_zero, List.setIfInBounds_toArray, List.set_cons_zero, List.set_cons_succ])
              refine wpAnyH_take (i := 5) (v := ?pv5) rfl (by kernel_rfl) (by kernel_rfl) (by kernel_rfl) (fun _ _ _ h => h) (Or.inl ⟨by rfl, ?py5⟩) (by assumption) ?pr5
              case py5 =>
                intro wx hSw
                clear hSw
                go_simp
                first | done | (with_reducible rfl)
              (try simp only [Act.put, List.getElem_toArray, List.getElem_cons_succ, List.getElem_cons_zero, List.setIfInBounds_toArray, List.set_cons_zero, List.set_cons_succ])
              refine wpAnyH_ready (rs := [6]) (by kernel_rfl) (by simp) ?_
              refine AllReadyH.cons rfl (fun K hK => ?_) AllReadyH.nil
              go_simp
              go_at_call 51
              refine HEn.out.mono ?_
              rintro e w3 ⟨rfl, hb⟩
              refine post_panic (P := Tryz.prog) (fn := Tryz.f30) rfl ?_
              rw [← HP.out]
              unfold EndR
              rw [read_lin xs HXs.out hkx HLin.out HXk.out (by rw [HLe.out, HEq.out])]
              refine ⟨rfl, ?_, (HKl.out.next HB2.out).drew.next hb⟩
              have h7 := (HDe.out.next hb).cells.2.1.2.2.2
              rw [h7, HKn.out]
            | ok L2 =>
              rw [hq] at HEn
              have HEq := Lib.hid hq
              generalize hKW : mk kw = KW at HC HEn ckw
              clear hq
              refine wp_region_held_drew (S := fun w' => w'.cell? ⟨bv, 0, none⟩ = some (.string (KW))) (by kernel_rfl) ?_ (fun hHeld => ?_)
              · exact HC.out
              refine wpAnyH_take (i := 0) (v := ?pov0) rfl (by kernel_rfl) (by kernel_rfl) (by kernel_rfl) (fun _ _ _ h => h) (Or.inl ⟨by rfl, ?poy0⟩) (by assumption) ?por0
              case poy0 =>
                intro wx hSw
                clear hSw
                go_simp
                first | done | (with_reducible rfl)
              (try simp only [Act.put, List.getElem_toArray, List.getElem_cons_zero, List.setIfInBounds_toArray, List.set_cons_zero, List.set_cons_succ])
              refine wpAnyH_take (i := 1) (v := ?pov1) rfl (by kernel_rfl) (by kernel_rfl) (by kernel_rfl) (fun _ _ _ h => h) (Or.inl ⟨by rfl, ?poy1⟩) (by assumption) ?por1
              case poy1 =>
                intro wx hSw
                clear hSw
                go_simp
                first | done | (with_reducible rfl)
              (try simp only [Act.put, List.getElem_toArray, List.getElem_cons_succ, List.getElem_cons_zero, List.setIfInBounds_toArray, List.set_cons_zero, List.set_cons_succ])
              refine wpAnyH_take (i := 2) (v := ?pov2) rfl (by kernel_rfl) (by kernel_rfl) (by kernel_rfl) (fun _ _ _ h => h) (Or.inl ⟨by rfl, ?poy2⟩) (by assumption) ?por2
              case poy2 =>
                intro wx hSw
                clear hSw
                go_simp
                first | done | (with_reducible rfl)
              (try simp only [Act.put, List.getElem_toArray, List.getElem_cons_succ, List.getElem_cons_zero, List.setIfInBounds_toArray, List.set_cons_zero, List.set_cons_succ])
              refine wpAnyH_take (i := 3) (v := ?pov3) rfl (by kernel_rfl) (by kernel_rfl) (by kernel_rfl) (fun _ _ _ h => h) (Or.inl ⟨by rfl, ?poy3⟩) (by assumption) ?por3
              case poy3 =>
                intro wx hSw
                have hcl := hSw
                clear hSw
                go_simp
                first | done | (with_reducible rfl)
              (try simp only [Act.put, List.getElem_toArray, List.getElem_cons_succ, List.getElem_cons_zero, List.setIfInBounds_toArray, List.set_cons_zero, List.set_cons_succ])
              refine wpAnyH_take (i := 4) (v := ?pov4) rfl (by kernel_rfl) (by kernel_rfl) (by kernel_rfl) (fun _ _ _ h => h) (Or.inl ⟨by rfl, ?poy4⟩) (by assumption) ?por4
              case poy4 =>
                intro wx hSw
                clear hSw
                go_simp
                first | done | (with_reducible rfl)
              (try simp only [Act.put, List.getElem_toArray, List.getElem_cons_succ, List.getElem_cons_zero, List.setIfInBounds_toArray, List.set_cons_zero, List.set_cons_succ])
              refine wpAnyH_take (i := 5) (v := ?pov5) rfl (by kernel_rfl) (by kernel_rfl) (by kernel_rfl) (fun _ _ _ h => h) (Or.inl ⟨by rfl, ?poy5⟩) (by assumption) ?por5
              case poy5 =>
                intro wx hSw
                clear hSw
                go_simp
                first | done | (with_reducible rfl)
              (try simp only [Act.put, List.getElem_toArray, List.getElem_cons_succ, List.getElem_cons_zero, List.setIfInBounds_toArray, List.set_cons_zero, List.set_cons_succ])
              refine wpAnyH_ready (rs := [6]) (by kernel_rfl) (by simp) ?_
              refine AllReadyH.cons rfl (fun K hK => ?_) AllReadyH.nil
              go_simp
              go_at_call 51
              refine HEn.out.mono ?_
              rintro e w3 ⟨W3, C3, E3, rfl, hr, hk3⟩
              refine hK.out _ _ ?_ (fun _ => ?_)
              · exact keep_cell hk3 hbe.out.2 HSep.out HC.out
              clear hK K
              (try simp only [Act.put, List.getElem_toArray, List.getElem_cons_succ, List.getElem_cons_zero, List.setIfInBounds_toArray, List.set_cons_zero, List.set_cons_succ])
              refine wpAnyH_done (by kernel_rfl) ?_ _
              have HR3 := Lib.hid hr
              have HK3 := Lib.hid hk3
              clear hr hk3
              go_wp2
              go_roundw
              case rel =>
                refine ⟨k + 1, by omega, by rw [HKn.out], fun g => grow S1 w2.drew g ∧ g < w3.heap.size, L2, W3, C3, E3, true, kn, ?_, HR3.out.cut, ?_, ?_, HF.out.entry HEq.out, ?_, ?_⟩
                · rw [HSn.out, HLe.out, HEq.out]
                · refine (HKl.out.next HB2.out).drew.trans HK3.out (fun g hg he => ?_)
                  rcases he with he | he
                  · rcases (HSx.out g he).1 with h1 | h1
                    · exact .inl h1
                    · omega
                  · exact .inr he
                · rintro g ⟨hg, hgl⟩
                  refine ⟨?_, hgl, ?_⟩
                  · rcases hg with hg | hg
                    · exact (HSx.out g hg).1
                    · have h1 : w.heap.size < w2.heap.size := Nat.lt_of_lt_of_le HSz.out HB2.out.size
                      have h2 : w2.heap.size ≤ g := hg
                      exact .inr (by omega)
                  · rcases hg with hg | hg
                    · exact (HSx.out g hg).2.2
                    · have h1 : w.heap.size < w2.heap.size := Nat.lt_of_lt_of_le HSz.out HB2.out.size
                      have h2 : w2.heap.size ≤ g := hg
                      omega
                · refine (show ArgsAt w.heap.size 0 xs w2.drew from HAl.out.below HB2.out.drew HSz.out).keep HK3.out (Nat.lt_of_lt_of_le HSz.out HB2.out.size) (fun he => ?_)
                  rcases he with he | he
                  · exact (HSx.out _ he).2.2 rfl
                  · omega
                · exact Nat.lt_of_lt_of_le (Nat.lt_of_lt_of_le HSz.out HB2.out.size) HK3.out.size
              case measure => simp [intOf]; have := HKn.out; omega
          · have hcc : (cv == 1) = false := by simpa using hone
            have hE := entry_any S1 w2.drew R L1 W1 C1 E1 st1 kn HDe.out (mk kw) (some ⟨bv, 1, none⟩) (cv - 1) rs (by simp at hcv; omega) (.inr ⟨bv, 1, rfl, hbe.out.2, hAw.out.tail, HSep.out⟩) HWr.out hrs HF.out.cls HF.out.els HF.out.low HF.out.up
            rw [mk_data] at hE
            have HEn := Lib.hid hE
            clear hE
            cases hq : entryT st1 L1 kw rs with
            | error x1 =>
              rw [hq] at HEn
              have HEq := Lib.hid hq
              generalize hKW : mk kw = KW at HC HEn ckw
              clear hq
              refine wp_region_held_drew (S := fun w' => w'.cell? ⟨bv, 0, none⟩ = some (.string (KW))) (by kernel_rfl) ?_ (fun hHeld => ?_)
              · exact HC.out
              refine wpAnyH_take (i := 0) (v := ?qv0) rfl (by kernel_rfl) (by kernel_rfl) (by kernel_rfl) (fun _ _ _ h => h) (Or.inl ⟨by rfl, ?qy0⟩) (by assumption) ?qr0
              case qy0 =>
                intro wx hSw
                clear hSw
                go_simp
                first | done | (with_reducible rfl)
              (try simp only [Act.put, List.getElem_toArray, List.getElem_cons_zero, List.setIfInBounds_toArray, List.set_cons_zero, List.set_cons_succ])
              refine wpAnyH_take (i := 1) (v := ?qv1) rfl (by kernel_rfl) (by kernel_rfl) (by kernel_rfl) (fun _ _ _ h => h) (Or.inl ⟨by rfl, ?qy1⟩) (by assumption) ?qr1
              case qy1 =>
                intro wx hSw
                clear hSw
                go_simp
                first | done | (with_reducible rfl)
              (try simp only [Act.put, List.getElem_toArray, List.getElem_cons_succ, List.getElem_cons_zero, List.setIfInBounds_toArray, List.set_cons_zero, List.set_cons_succ])
              refine wpAnyH_take (i := 2) (v := ?qv2) rfl (by kernel_rfl) (by kernel_rfl) (by kernel_rfl) (fun _ _ _ h => h) (Or.inl ⟨by rfl, ?qy2⟩) (by assumption) ?qr2
              case qy2 =>
                intro wx hSw
                clear hSw
                go_simp
                first | done | (with_reducible rfl)
              (try simp only [Act.put, List.getElem_toArray, List.getElem_cons_succ, List.getElem_cons_zero, List.setIfInBounds_toArray, List.set_cons_zero, List.set_cons_succ])
              refine wpAnyH_take (i := 3) (v := ?qv3) rfl (by kernel_rfl) (by kernel_rfl) (by kernel_rfl) (fun _ _ _ h => h) (Or.inl ⟨by rfl, ?qy3⟩) (by assumption) ?qr3
              case qy3 =>
                intro wx hSw
                have hcl := hSw
                clear hSw
                go_simp
                first | done | (with_reducible rfl)
              (try simp only [Act.put, List.getElem_toArray, List.getElem_cons_succ, List.getElem_cons_zero, List.setIfInBounds_toArray, List.set_cons_zero, List.set_cons_succ])
              refine wpAnyH_take (i := 4) (v := ?qv4) rfl (by kernel_rfl) (by kernel_rfl) (by kernel_rfl) (fun _ _ _ h => h) (Or.inl ⟨by rfl, ?qy4⟩) (by assumption) ?qr4
              case qy4 =>
                intro wx hSw
                clear hSw
                go_simp
                first | done | (with_reducible rfl)
              (try simp only [Act.put, List.getElem_toArray, List.getElem_cons_succ, List.getElem_cons_zero, List.setIfInBounds_toArray, List.set_cons_zero, List.set_cons_succ])
              refine wpAnyH_take (i := 5) (v := ?qv5) rfl (by kernel_rfl) (by kernel_rfl) (by kernel_rfl) (fun _ _ _ h => h) (Or.inl ⟨by rfl, ?qy5⟩) (by assumption) ?qr5
              case qy5 =>
                intro wx hSw
                clear hSw
                go_simp
                first | done | (with_reducible rfl)
              (try simp only [Act.put, List.getElem_toArray, List.getElem_cons_succ, List.getElem_cons_zero, List.setIfInBounds_toArray, List.set_cons_zero, List.set_cons_succ])
              refine wpAnyH_ready (rs := [6]) (by kernel_rfl) (by simp) ?_
              refine AllReadyH.cons rfl (fun K hK => ?_) AllReadyH.nil
              go_simp
              go_at_call 51
              refine HEn.out.mono ?_
              rintro e w3 ⟨rfl, hb⟩
              refine post_panic (P := Tryz.prog) (fn := Tryz.f30) rfl ?_
              rw [← HP.out]
              unfold EndR
              rw [read_lin xs HXs.out hkx HLin.out HXk.out (by rw [HLe.out, HEq.out])]
              refine ⟨rfl, ?_, (HKl.out.next HB2.out).drew.next hb⟩
              have h7 := (HDe.out.next hb).cells.2.1.2.2.2
              rw [h7, HKn.out]
            | ok L2 =>
              rw [hq] at HEn
              have HEq := Lib.hid hq
              generalize hKW : mk kw = KW at HC HEn ckw
              clear hq
              refine wp_region_held_drew (S := fun w' => w'.cell? ⟨bv, 0, none⟩ = some (.string (KW))) (by kernel_rfl) ?_ (fun hHeld => ?_)
              · exact HC.out
              refine wpAnyH_take (i := 0) (v := ?qov0) rfl (by kernel_rfl) (by kernel_rfl) (by kernel_rfl) (fun _ _ _ h => h) (Or.inl ⟨by rfl, ?qoy0⟩) (by assumption) ?qor0
              case qoy0 =>
                intro wx hSw
                clear hSw
                go_simp
                first | done | (with_reducible rfl)
              (try simp only [Act.put, List.getElem_toArray, List.getElem_cons_zero, List.setIfInBounds_toArray, List.set_cons_zero, List.set_cons_succ])
              refine wpAnyH_take (i := 1) (v := ?qov1) rfl (by kernel_rfl) (by kernel_rfl) (by kernel_rfl) (fun _ _ _ h => h) (Or.inl ⟨by rfl, ?qoy1⟩) (by assumption) ?qor1
              case qoy1 =>
                intro wx hSw
                clear hSw
                go_simp
                first | done | (with_reducible rfl)
              (try simp only [Act.put, List.getElem_toArray, List.getElem_cons_succ, List.getElem_cons_zero, List.setIfInBounds_toArray, List.set_cons_zero, List.set_cons_succ])
              refine wpAnyH_take (i := 2) (v := ?qov2) rfl (by kernel_rfl) (by kernel_rfl) (by kernel_rfl) (fun _ _ _ h => h) (Or.inl ⟨by rfl, ?qoy2⟩) (by assumption) ?qor2
              case qoy2 =>
                intro wx hSw
                clear hSw
                go_simp
                first | done | (with_reducible rfl)
              (try simp only [Act.put, List.getElem_toArray, List.getElem_cons_succ, List.getElem_cons_zero, List.setIfInBounds_toArray, List.set_cons_zero, List.set_cons_succ])
              refine wpAnyH_take (i := 3) (v := ?qov3) rfl (by kernel_rfl) (by kernel_rfl) (by kernel_rfl) (fun _ _ _ h => h) (Or.inl ⟨by rfl, ?qoy3⟩) (by assumption) ?qor3
              case qoy3 =>
                intro wx hSw
                have hcl := hSw
                clear hSw
                go_simp
                first | done | (with_reducible rfl)
              (try simp only [Act.put, List.getElem_toArray, List.getElem_cons_succ, List.getElem_cons_zero, List.setIfInBounds_toArray, List.set_cons_zero, List.set_cons_succ])
              refine wpAnyH_take (i := 4) (v := ?qov4) rfl (by kernel_rfl) (by kernel_rfl) (by kernel_rfl) (fun _ _ _ h => h) (Or.inl ⟨by rfl, ?qoy4⟩) (by assumption) ?qor4
              case qoy4 =>
                intro wx hSw
                clear hSw
                go_simp
                first | done | (with_reducible rfl)
              (try simp only [Act.put, List.getElem_toArray, List.getElem_cons_succ, List.getElem_cons_zero, List.setIfInBounds_toArray, List.set_cons_zero, List.set_cons_succ])
              refine wpAnyH_take (i := 5) (v := ?qov5) rfl (by kernel_rfl) (by kernel_rfl) (by kernel_rfl) (fun _ _ _ h => h) (Or.inl ⟨by rfl, ?qoy5⟩) (by assumption) ?qor5
              case qoy5 =>
                intro wx hSw
                clear hSw
                go_simp
                first | done | (with_reducible rfl)
              (try simp only [Act.put, List.getElem_toArray, List.getElem_cons_succ, List.getElem_cons_zero, List.setIfInBounds_toArray, List.set_cons_zero, List.set_cons_succ])
              refine wpAnyH_ready (rs := [6]) (by kernel_rfl) (by simp) ?_
              refine AllReadyH.cons rfl (fun K hK => ?_) AllReadyH.nil
              go_simp
              go_at_call 51
              refine HEn.out.mono ?_
              rintro e w3 ⟨W3, C3, E3, rfl, hr, hk3⟩
              refine hK.out _ _ ?_ (fun _ => ?_)
              · exact keep_cell hk3 hbe.out.2 HSep.out HC.out
              clear hK K
              (try simp only [Act.put, List.getElem_toArray, List.getElem_cons_succ, List.getElem_cons_zero, List.setIfInBounds_toArray, List.set_cons_zero, List.set_cons_succ])
              refine wpAnyH_done (by kernel_rfl) ?_ _
              have HR3 := Lib.hid hr
              have HK3 := Lib.hid hk3
              clear hr hk3
              go_wp2
              go_roundw
              case rel =>
                refine ⟨k + 1, by omega, by rw [HKn.out], fun g => grow S1 w2.drew g ∧ g < w3.heap.size, L2, W3, C3, E3, true, kn, ?_, HR3.out.cut, ?_, ?_, HF.out.entry HEq.out, ?_, ?_⟩
                · rw [HSn.out, HLe.out, HEq.out]
                · refine (HKl.out.next HB2.out).drew.trans HK3.out (fun g hg he => ?_)
                  rcases he with he | he
                  · rcases (HSx.out g he).1 with h1 | h1
                    · exact .inl h1
                    · omega
                  · exact .inr he
                · rintro g ⟨hg, hgl⟩
                  refine ⟨?_, hgl, ?_⟩
                  · rcases hg with hg | hg
                    · exact (HSx.out g hg).1
                    · have h1 : w.heap.size < w2.heap.size := Nat.lt_of_lt_of_le HSz.out HB2.out.size
                      have h2 : w2.heap.size ≤ g := hg
                      exact .inr (by omega)
                  · rcases hg with hg | hg
                    · exact (HSx.out g hg).2.2
                    · have h1 : w.heap.size < w2.heap.size := Nat.lt_of_lt_of_le HSz.out HB2.out.size
                      have h2 : w2.heap.size ≤ g := hg
                      omega
                · refine (show ArgsAt w.heap.size 0 xs w2.drew from HAl.out.below HB2.out.drew HSz.out).keep HK3.out (Nat.lt_of_lt_of_le HSz.out HB2.out.size) (fun he => ?_)
                  rcases he with he | he
                  · exact (HSx.out _ he).2.2 rfl
                  · omega
                · exact Nat.lt_of_lt_of_le (Nat.lt_of_lt_of_le HSz.out HB2.out.size) HK3.out.size
              case measure => simp [intOf]; have := HKn.out; omega
    · obtain rfl : k = n := by omega
      obtain ⟨S1, L1, W1, C1, E1, st1, ln1, hlin, hD, hK, hSx, hF, hA, hsz⟩ := HR.out
      rw [List.take_of_length_le (by rw [← HN.out]; exact Nat.le_refl _), ← HXs.out] at hlin
      obtain ⟨⟨x0, x1, x2, x3⟩, ⟨x4, x5, x6, x7⟩, xf⟩ := hD.cells
      have hD2 := hD.line (((k + 1 : Nat)) : Int)
      have hkw : IntKind.i64.wrap ((k : Int) + 1) = ((k + 1 : Nat) : Int) := by rw [IntWalk.i64_in _ (by omega)]; omega
      have HDl := Lib.hid hD2
      have HKl := Lib.hid (hK.put R 7 (.inl (.inr rfl)) (.int .i64 ((k + 1 : Nat) : Int)))
      have HLin := Lib.hid hlin
      have HSx := Lib.hid hSx
      have HF := Lib.hid hF
      have hkl : (lin s.data.toList).length = k := by rw [HXs.out, ← HN.out]
      have HKk := Lib.hid hkl
      obtain ⟨kn, hkn1⟩ : ∃ kn : Int, kn = ((k + 1 : Nat) : Int) := ⟨_, rfl⟩
      rw [← hkn1] at HDl HKl hkw
      have HKn := Lib.hid hkn1
      clear hlin hD hK hSx hF hA hsz hD2 hkn1 hkl
      cases st1 with
      | true =>
        go_wp2_with (first
          | (go_at_call 52; with_reducible refine (require_ok _ _).mono ?_; rintro e w' ⟨rfl, rfl⟩))
        go_end0
        rw [← HP.out]
        unfold EndR
        rw [HLin.out]
        exact ⟨S1, W1, C1, E1, kn, rfl, HDl.out, HKl.out, fun g hg => (HSx.out g hg).1, HF.out⟩
      | false =>
        go_wp2_with (first
          | (go_at_call 52; with_reducible refine (require_no _ _).mono ?_; rintro e w' ⟨rfl, rfl⟩))
        refine post_panic (P := Tryz.prog) (fn := Tryz.f30) rfl ?_
        rw [← HP.out]
        unfold EndR
        rw [HLin.out]
        refine ⟨rfl, ?_, HKl.out⟩
        rw [HDl.out.cells.2.1.2.2.2, HKn.out, HKk.out]
end Go.Proofs.YticfhbffoajgcaaGreatDoor
/- What Parse defers: the panic of an entry becomes its error. -/
set_option linter.unusedVariables false
namespace Go.Proofs.YticfhbffoajgcaaGreatDoor
open Go.RowKit

theorem ta_nil (w : World) : (Instr.typeAssert .nilIface 20 27 true).run Tryz.prog w = .ok (.tuple #[.int .i64 0, .bool false]) w := by kernel_rfl
theorem ta_err (n : Int) (w : World) : (Instr.typeAssert (.iface 27 (.int .i64 n)) 20 27 true).run Tryz.prog w = .ok (.tuple #[.int .i64 n, .bool true]) w := by kernel_rfl
set_option maxRecDepth 100000 in
set_option maxHeartbeats 4000000 in
theorem catch_idle (R Bl Be Bn : Nat) (w : World) :
    CallsD Tryz.prog 29 #[.pointer (some ⟨R, 0, none⟩), .pointer (some ⟨Bl, 0, none⟩), .pointer (some ⟨Be, 0, none⟩), .pointer (some ⟨Bn, 0, none⟩)] .returning w fun e u' w' => e = .returned (.tuple #[]) ∧ u' = .returning ∧ w' = w := by
  refine callsD_of_wpS Tryz.func29 rfl fun c₀ cs hu => ?_
  apply wpS_seq
  apply wpS_region
  simp [wpOpsS, go_sem, recoverD, hu, Tryz.ntmps29, Exit.thenS, ta_nil]
  apply wpS_seq
  apply wpS_region
  simp [wpOpsS, go_sem, Exit.thenS]
  refine wpS_cond (t := false) (by simp [Act.eval, Array.replicate]) ?_
  simp only [Bool.false_eq_true, if_false]
  refine wpS_of_wp (wp_skip ?_)
  cases c₀
  simp_all [bodyPostS, results, Tryz.results29]
/-- What the closure leaves when it has recovered. -/
def caught (w : World) (B : Nat) (n ln : Int) : World := ((put6 w B (.string ⟨#[]⟩) (.slice none 0 0) (.string ⟨#[]⟩) (.string ⟨#[]⟩) (.slice none 0 0) (.slice none 0 0)).setCell ⟨B + 1, 0, none⟩ (.int .i64 n)).setCell ⟨B + 2, 0, none⟩ (.int .i64 ln)
set_option maxRecDepth 100000 in
set_option maxHeartbeats 4000000 in
theorem catch_err (R B : Nat) (n ln x1 x2 : Int) (older : List PanicEntry) (w : World) (h7 : w.cell? ⟨R, 7, none⟩ = some (.int .i64 ln))
    (hl : LAt w B zeroL) (he : w.heap[B + 1]? = some (.cells #[.int .i64 x1] 27 (0, 0))) (hn : w.heap[B + 2]? = some (.cells #[.int .i64 x2] 3 (0, 0))) :
    CallsD Tryz.prog 29 #[.pointer (some ⟨R, 0, none⟩), .pointer (some ⟨B, 0, none⟩), .pointer (some ⟨B + 1, 0, none⟩), .pointer (some ⟨B + 2, 0, none⟩)] (.panicking ({ v := .iface 27 (.int .i64 n), recovered := false } :: older)) w fun e u' w' => e = .returned (.tuple #[]) ∧ u' = .panicking ({ v := .iface 27 (.int .i64 n), recovered := true } :: older) ∧ w' = caught w B n ln := by
  refine callsD_of_wpS Tryz.func29 rfl fun c₀ cs hu => ?_
  apply wpS_seq
  apply wpS_region
  simp [wpOpsS, go_sem, recoverD, hu, Tryz.ntmps29, Exit.thenS, ta_err]
  apply wpS_seq
  apply wpS_region
  simp [wpOpsS, go_sem, Exit.thenS]
  refine wpS_cond (t := true) (by simp [Act.eval, Array.replicate]) ?_
  simp only [if_true]
  refine wpS_of_wp ?_
  obtain ⟨⟨y0, y1, y2⟩, ⟨y3, y4, y5⟩, yf⟩ := hl.six
  have ce : w.cell? ⟨B + 1, 0, none⟩ = some (.int .i64 x1) := cell_of_row _ _ 0 _ _ _ he
  have fe := frozen_of_row _ (B + 1) 0 _ _ he
  have cn : w.cell? ⟨B + 2, 0, none⟩ = some (.int .i64 x2) := cell_of_row _ _ 0 _ _ _ hn
  have fn := frozen_of_row _ (B + 2) 0 _ _ hn
  clear hl he hn
  simp only [show Array.replicate 12 undef = #[undef, undef, undef, undef, undef, undef, undef, undef, undef, undef, undef, undef] from rfl, List.setIfInBounds_toArray, List.set_cons_zero, List.set_cons_succ, List.append_toArray, List.cons_append, List.nil_append]
  go_wp2
  exact ⟨rfl, _, rfl, _, results_none rfl _ _ _, rfl, rfl, rfl⟩
end Go.Proofs.YticfhbffoajgcaaGreatDoor
/- The program's Default: its weights are the caller's own. (Written by gen_ltdef.py.) -/
set_option linter.unusedVariables false
namespace Go.Proofs.YticfhbffoajgcaaGreatDoor
open Go.RowKit

set_option maxRecDepth 100000 in
set_option maxHeartbeats 8000000 in
theorem pDefault_own (w : World) : Calls Tryz.prog 28 #[] w fun e w' => ∃ x y : Nat, w.heap.size ≤ x ∧ e = .returned (.agg (lcl Ldef (.slice (some ⟨x, 0, none⟩) 256 y) (.slice none 0 0) (.slice none 0 0))) ∧ (256 ≤ y ∧ w'.heap[x]? = some (.cells ((List.range 256).map nW).toArray 3 (0, 0))) ∧ Below w.heap.size w w' := by
  have H0 := Lib.hid (DP.start w)
  have hv : ∀ w, (zeroValue 87).run Tryz.prog w = .ok (.agg (Array.replicate 256 (Value.int .u8 0))) w := fun w => by kernel_rfl
  have hmk : ∀ w : World, (Instr.makeSlice 22 (.int .i64 256) (.int .i64 256)).run Tryz.prog w = .ok (.slice (some ⟨w.heap.size, 0, none⟩) 256 256) (w.alloc (.cells (madeCells #[.int .i64 0] 256) 3)) := fun w =>
    run_make_row' 22 3 (.int .i64 0) 8 Tryz.underlying22 infoI rfl .i64 .i64 256 (by decide) (by decide) w
  rw [made_W] at hmk
  rw [made_B] at hv
  obtain ⟨X, hX⟩ : ∃ X, (upl nW (.int .i64 0) 0).toArray = X := ⟨_, rfl⟩
  obtain ⟨Y, hY⟩ : ∃ Y, (upl nB (.int .u8 0) 0).toArray = Y := ⟨_, rfl⟩
  rw [hX] at hmk H0
  rw [hY] at hv H0
  have HY := Lib.hid hY
  clear hX hY
  unfold zeroL at H0
  go_enter Tryz.func28, Tryz.ntmps28
  go_wp2
  go_loopw [7] (fun i wr => ∃ k : Nat, k ≤ 256 ∧ i = .int .i64 k ∧ Hid (DP w.heap.size w wr k)) (fun i _ => 256 - (intOf i).toNat)
  case atStart => exact ⟨0, Nat.zero_le _, rfl, H0.out⟩
  case round =>
    obtain ⟨k, hk, rfl, HD⟩ := hrel
    by_cases hlt : k < 256
    · have hi : (k : Int) < 256 := by omega
      have hi0 : (0 : Int) ≤ k := by omega
      have hw : IntKind.u8.wrap (k : Int) = (k : Int) := IntWalk.u8_in _ (by omega)
      obtain ⟨⟨c1, f1⟩, c2, f2⟩ := HD.out.cells hlt
      have HN := Lib.hid (HD.out.next hlt)
      unfold nW nB at HN
      go_wp2
      go_roundw
      case rel => exact ⟨k + 1, by omega, by go_num, HN.out⟩
      case measure => simp [intOf]; omega
    · obtain rfl : k = 256 := by omega
      obtain ⟨SL0, hSL⟩ : ∃ L, bys allL = L := ⟨_, rfl⟩
      have HD2 := HD.out
      unfold DP at HD2
      rw [upl_full, upl_full, nB_all, hSL] at HD2
      obtain ⟨b0, l0, x0, y0, z0⟩ := HD2
      have sz0 : SL0.length = 256 := by rw [← hSL]; unfold bys; rw [List.length_map, allL_len]
      have szA : SL0.toArray.size = 256 := by simpa using sz0
      have one0 : ∀ v ∈ SL0, v.oneCell' = true := by
        rw [← hSL]
        unfold bys
        intro v hv
        obtain ⟨c, _, rfl⟩ := List.mem_map.1 hv
        rfl
      have oneA : SL0.toArray.all (·.oneCell') = true := by
        rw [Array.all_eq_true_iff_forall_mem]
        intro v hv
        exact one0 v (by simpa using hv)
      have hYs : Y.size = 256 := by rw [← HY.out, upl_none]; simp
      have hi0 : (Tryz.prog.info? 87).map (·.size) = some SL0.toArray.size := by rw [szA]; exact info256
      have a1 : ((wr.alloc (.cells Y 87)).alloc (.cells Y 87)).heap[wr.heap.size]? = some (.cells Y 87 (0, 0)) := by
        rw [Below.heap_alloc _ _ _ (by simp)]
        exact heap_alloc_new wr _
      have a2 : (((wr.alloc (.cells Y 87)).alloc (.cells Y 87)).setRow wr.heap.size SL0.toArray).heap[wr.heap.size + 1]? = some (.cells Y 87 (0, 0)) := by
        rw [setRow_other _ _ _ _ (by omega)]
        have := heap_alloc_new (wr.alloc (.cells Y 87)) (.cells Y 87)
        simpa using this
      have HC := DC.start HD.out Y
      rw [hSL] at HC
      have HY0 := Lib.hid y0
      have HA1 := Lib.hid a1
      have HA2 := Lib.hid a2
      have HSzA := Lib.hid szA
      have HYs := Lib.hid hYs
      have HI0 := Lib.hid hi0
      have HOA := Lib.hid oneA
      have HC0 := Lib.hid HC
      have HSL := Lib.hid hSL
      clear HC
      clear HD H0 hmk l0 x0 y0 z0 b0 hSL a1 a2 sz0 szA hYs hi0 one0 oneA
      go_wp2_with (first
        | (refine wpList_load_row rfl 87 _ rfl (w.heap.size + 2) rfl 87 SL0.toArray (0, 0) _ HY0.out Tryz.underlying87 rfl HI0.out ?_)
        | (refine wpList_store_row rfl 87 (.tmp 4) (.tmp 19) rfl wr.heap.size SL0.toArray rfl rfl 87 Y HA1.out HI0.out (HYs.out.trans HSzA.out.symm) HOA.out ?_)
        | (refine wpList_store_row rfl 87 (.tmp 5) (.tmp 20) rfl (wr.heap.size + 1) SL0.toArray rfl rfl 87 Y HA2.out HI0.out (HYs.out.trans HSzA.out.symm) HOA.out ?_))
      simp only [Act.put]
      generalize hW4 : (((wr.alloc (.cells Y 87)).alloc (.cells Y 87)).setRow wr.heap.size SL0.toArray).setRow (wr.heap.size + 1) SL0.toArray = W4 at HC0 ⊢
      have HC1 := Lib.hid HC0.out
      clear hW4 HC0 HA1 HA2 HY0
      rw [← HSL.out]
      refine wp_region_held_drew (S := fun _ => True) (by kernel_rfl) ?_ (fun hHeld => ?_)
      · trivial
      refine wpAnyH_take (i := 0) (v := ?w2v0) rfl (by kernel_rfl) (by kernel_rfl) (by kernel_rfl) (fun _ _ _ h => h) (Or.inl ⟨by rfl, ?w2y0⟩) (by assumption) ?w2r0
      case w2y0 =>
        intro w1 hSw
        go_simp
        first | done | (with_reducible rfl)
      (try simp only [Act.put, List.getElem_toArray, List.getElem_cons_zero, List.setIfInBounds_toArray, List.set_cons_zero, List.set_cons_succ])
      refine wpAnyH_take (i := 1) (v := ?w2v1) rfl (by kernel_rfl) (by kernel_rfl) (by kernel_rfl) (fun _ _ _ h => h) (Or.inl ⟨by rfl, ?w2y1⟩) (by assumption) ?w2r1
      case w2y1 =>
        intro w1 hSw
        go_simp
        first | done | (with_reducible rfl)
      (try simp only [Act.put, List.getElem_toArray, List.getElem_cons_succ, List.getElem_cons_zero, List.setIfInBounds_toArray, List.set_cons_zero, List.set_cons_succ])
      refine wpAnyH_ready (rs := [2]) (by kernel_rfl) (by simp) ?_
      refine AllReadyH.cons rfl (fun K hK => ?_) AllReadyH.nil
      refine step_copy rfl _ _ _ _ rfl 5 Tryz.underlying80 (by kernel_rfl) (wr.heap.size) 65 191 191 ⟨w.heap.size + 2, 97, none⟩ 26 159 rfl rfl (bys allL) 87 HC1.out.2.2.2.2.1 (bys ((allL.drop 97).take 26)) (dpart_len 97 (by decide)) (src_cells HC1.out.2.2.2.1 97 26) (part_fit 97 65 (by decide) (by decide)) (bys_one _) ?_
      intro w2 g1 g2 g3 g4
      have HC2 := Lib.hid (HC1.out.drew.copy1 _ _ g1 g2 g4)
      clear g1 g2 g3 g4
      refine hK.out _ _ ?_ (fun hHeld1 => ?_)
      · trivial
      clear hK K
      (try simp only [Act.put, List.getElem_toArray, List.getElem_cons_succ, List.getElem_cons_zero, List.setIfInBounds_toArray, List.set_cons_zero, List.set_cons_succ])
      refine wpAnyH_done (by kernel_rfl) ?_ _
      clear HC1
      go_wp2
      refine wp_region_held_drew (S := fun _ => True) (by kernel_rfl) ?_ (fun hHeld => ?_)
      · trivial
      refine wpAnyH_take (i := 0) (v := ?w3v0) rfl (by kernel_rfl) (by kernel_rfl) (by kernel_rfl) (fun _ _ _ h => h) (Or.inl ⟨by rfl, ?w3y0⟩) (by assumption) ?w3r0
      case w3y0 =>
        intro w1 hSw
        go_simp
        first | done | (with_reducible rfl)
      (try simp only [Act.put, List.getElem_toArray, List.getElem_cons_zero, List.setIfInBounds_toArray, List.set_cons_zero, List.set_cons_succ])
      refine wpAnyH_take (i := 1) (v := ?w3v1) rfl (by kernel_rfl) (by kernel_rfl) (by kernel_rfl) (fun _ _ _ h => h) (Or.inl ⟨by rfl, ?w3y1⟩) (by assumption) ?w3r1
      case w3y1 =>
        intro w1 hSw
        go_simp
        first | done | (with_reducible rfl)
      (try simp only [Act.put, List.getElem_toArray, List.getElem_cons_succ, List.getElem_cons_zero, List.setIfInBounds_toArray, List.set_cons_zero, List.set_cons_succ])
      refine wpAnyH_ready (rs := [2]) (by kernel_rfl) (by simp) ?_
      refine AllReadyH.cons rfl (fun K hK => ?_) AllReadyH.nil
      refine step_copy rfl _ _ _ _ rfl 5 Tryz.underlying80 (by kernel_rfl) (wr.heap.size + 1) 97 159 159 ⟨w.heap.size + 2, 65, none⟩ 26 191 rfl rfl (bys allL) 87 HC2.out.2.2.2.2.2.1 (bys ((allL.drop 65).take 26)) (dpart_len 65 (by decide)) (src_cells HC2.out.2.2.2.1 65 26) (part_fit 65 97 (by decide) (by decide)) (bys_one _) ?_
      intro w3 g1 g2 g3 g4
      have HC3 := Lib.hid (HC2.out.drew.copy2 _ _ g1 g2 g4)
      clear g1 g2 g3 g4
      refine hK.out _ _ ?_ (fun hHeld1 => ?_)
      · trivial
      clear hK K
      (try simp only [Act.put, List.getElem_toArray, List.getElem_cons_succ, List.getElem_cons_zero, List.setIfInBounds_toArray, List.set_cons_zero, List.set_cons_succ])
      refine wpAnyH_done (by kernel_rfl) ?_ _
      clear HC2
      go_wp2
      have HC4 := HC3.out
      rw [low_all, up_all] at HC4
      have HF := Lib.hid HC4.drew
      generalize hLo : (⟨(lowL 256).toArray⟩ : ByteArray) = Lo
      generalize hUp : (⟨(upL 256).toArray⟩ : ByteArray) = Up
      obtain ⟨⟨y0, y1, y2⟩, ⟨y3, y4, y5⟩, hg⟩ := LAt.six HC4.2.1
      have HLo := Lib.hid hLo
      have HUp := Lib.hid hUp
      have HGB : Hid (w.heap.size + 3 ≤ wr.heap.size) := HC4.2.2.2.2.2.2
      clear HC4 HC3 hLo hUp
      refine wp_region_held_drew (S := fun w' => w'.heap[wr.heap.size]? = some (.cells (bys (lowL 256)).toArray 87 (0, 0)) ∧ w'.heap[wr.heap.size + 1]? = some (.cells (bys (upL 256)).toArray 87 (0, 0))) (by kernel_rfl) ?_ (fun hHeld => ?_)
      · exact ⟨HF.out.2.2.2.2.1, HF.out.2.2.2.2.2.1⟩
      refine wpAnyH_take (i := 0) (v := ?av0) rfl (by kernel_rfl) (by kernel_rfl) (by kernel_rfl) (fun _ _ _ h => h) (Or.inl ⟨by rfl, ?ay0⟩) (by assumption) ?ar0
      case ay0 =>
        intro w1 hSw
        go_simp
        first | done | (with_reducible rfl)
      (try simp only [Act.put, List.getElem_toArray, List.getElem_cons_zero, List.setIfInBounds_toArray, List.set_cons_zero, List.set_cons_succ])
      refine wpAnyH_take (i := 1) (v := ?av1) rfl (by kernel_rfl) (by kernel_rfl) (by kernel_rfl) (fun _ _ _ h => h) (Or.inl ⟨by rfl, ?ay1⟩) (by assumption) ?ar1
      case ay1 =>
        intro w1 hSw
        go_simp
        first | done | (with_reducible rfl)
      (try simp only [Act.put, List.getElem_toArray, List.getElem_cons_succ, List.getElem_cons_zero, List.setIfInBounds_toArray, List.set_cons_zero, List.set_cons_succ])
      refine wpAnyH_take (i := 2) (v := .string Lo) rfl (by kernel_rfl) (by kernel_rfl) (by kernel_rfl) (fun _ _ _ h => h) (Or.inl ⟨by rfl, ?ay2⟩) (by assumption) ?ar2
      case ay2 =>
        intro w1 hSw
        have e4 := conv_row hSw.1 (lowL_len 256)
        rw [HLo.out] at e4
        clear hSw
        go_simp
        first | done | (with_reducible rfl)
      (try simp only [Act.put, List.getElem_toArray, List.getElem_cons_succ, List.getElem_cons_zero, List.setIfInBounds_toArray, List.set_cons_zero, List.set_cons_succ])
      refine wpAnyH_take (i := 3) (v := ?av3) rfl (by kernel_rfl) (by kernel_rfl) (by kernel_rfl) (fun _ _ _ h => h) (Or.inl ⟨by rfl, ?ay3⟩) (by assumption) ?ar3
      case ay3 =>
        intro w1 hSw
        go_simp
        first | done | (with_reducible rfl)
      (try simp only [Act.put, List.getElem_toArray, List.getElem_cons_succ, List.getElem_cons_zero, List.setIfInBounds_toArray, List.set_cons_zero, List.set_cons_succ])
      refine wpAnyH_take (i := 4) (v := .string Up) rfl (by kernel_rfl) (by kernel_rfl) (by kernel_rfl) (fun _ _ _ h => h) (Or.inl ⟨by rfl, ?ay4⟩) (by assumption) ?ar4
      case ay4 =>
        intro w1 hSw
        have e4 := conv_row hSw.2 (upL_len 256)
        rw [HUp.out] at e4
        clear hSw
        go_simp
        first | done | (with_reducible rfl)
      (try simp only [Act.put, List.getElem_toArray, List.getElem_cons_succ, List.getElem_cons_zero, List.setIfInBounds_toArray, List.set_cons_zero, List.set_cons_succ])
      refine wpAnyH_take (i := 5) (v := ?av5) rfl (by kernel_rfl) (by kernel_rfl) (by kernel_rfl) (fun _ _ _ h => h) (Or.inl ⟨by rfl, ?ay5⟩) (by assumption) ?ar5
      case ay5 =>
        intro w1 hSw
        go_simp
        first | done | (with_reducible rfl)
      (try simp only [Act.put, List.getElem_toArray, List.getElem_cons_succ, List.getElem_cons_zero, List.setIfInBounds_toArray, List.set_cons_zero, List.set_cons_succ])
      refine wpAnyH_ready (rs := [6]) (by kernel_rfl) (by simp) ?_
      refine AllReadyH.cons rfl (fun K hK => ?_) AllReadyH.nil
      rw [if_pos (by rfl)]
      refine wp_store_row 26 _ _ rfl w.heap.size #[.string psx, .slice (some ⟨w.heap.size + 1, 0, none⟩) 256 256, .string Lo, .string Up, .slice none 0 0, .slice none 0 0] rfl rfl 26 zeroL HF.out.2.1 info_loc rfl (by simp [Value.oneCell']) ?_
      refine hK.out _ _ ?_ (fun hHeld1 => ?_)
      · have h := HGB.out
        exact ⟨(setRow_other _ _ _ _ (by omega)).trans HF.out.2.2.2.2.1, (setRow_other _ _ _ _ (by omega)).trans HF.out.2.2.2.2.2.1⟩
      clear hK K
      (try simp only [Act.put, List.getElem_toArray, List.getElem_cons_succ, List.getElem_cons_zero])
      refine wpAnyH_done (by kernel_rfl) ?_ _
      go_wp2
      refine bodyPost_ret (ret_loc Tryz.results28 _ _ w.heap.size _ rfl rfl (setRow_heap _ _ _ _ _ _ HF.out.2.1)) rfl ⟨w.heap.size + 1, 256, by omega, ?_, ⟨Nat.le_refl _, (setRow_other _ _ _ _ (by omega)).trans HF.out.2.2.1⟩, below_setRow HF.out.1 (Nat.le_refl _) _⟩
      rw [lcl_def, HLo.out, HUp.out]
end Go.Proofs.YticfhbffoajgcaaGreatDoor
/- The program's Parse: what it returns is what the text describes. -/
set_option linter.unusedVariables false
namespace Go.Proofs.YticfhbffoajgcaaGreatDoor
open Go.RowKit

/-- A locale that the call has made. -/
def Made (B : Nat) (w : World) (L : PL) (W C E : Value) : Prop := ∃ S, LM S w L W C E ∧ ∀ g, S g → B ≤ g
/-- What Parse ends with. -/
def ParseEnd (w : World) (r : Except (Int × Nat) PL) (e : Ending) (w' : World) : Prop := Below w.heap.size w w' ∧ match r with
  | .ok L => ∃ W C E, e = .returned (.tuple #[.agg (lcl (toLoc 256 L) W C E), .int .i64 0, .int .i64 0]) ∧ Made w.heap.size w' L W C E ∧ Fit L
  | .error x => e = .returned (.tuple #[.agg zeroL, .int .i64 x.1, .int .i64 (x.2 : Int)])
theorem reader_start (w : World) (B x y : Nat) (hy : 256 ≤ y) (hx : w.heap[x]? = some (.cells ((List.range 256).map nW).toArray 3 (0, 0))) :
    RD (fun g => g = x) (w.alloc (.cells (rdC PLdef (.slice (some ⟨x, 0, none⟩) 256 y) (.slice none 0 0) (.slice none 0 0) false 0) 56)) w.heap.size PLdef (.slice (some ⟨x, 0, none⟩) 256 y) (.slice none 0 0) (.slice none 0 0) false 0 := by
  have hxl : x < w.heap.size := (Array.getElem?_eq_some_iff.1 hx).1
  refine ⟨⟨⟨x, ⟨y, _, rfl, hy, (Below.heap_alloc _ _ _ hxl).trans hx, fun j hj => ?_⟩, rfl, (by intro e; cases e), (by intro e; cases e)⟩, World.ownsRow_nil _ _ _ _, World.ownsRow_nil _ _ _ _, (by intro g e; cases e), (by intro g e; cases e), (by intro g e; cases e)⟩, heap_alloc_new w _, (by omega)⟩
  simp only [List.getElem?_toArray, List.getElem?_map, List.getElem?_range hj, Option.map_some]
  rfl
set_option maxRecDepth 100000 in
theorem ret_parse (tmps : Array Value) (w : World) (B : Nat) (v0 v1 v2 v3 v4 v5 a b : Value) (h2 : tmps.getD 2 undef = .pointer (some ⟨B, 0, none⟩)) (h3 : tmps.getD 3 undef = .pointer (some ⟨B + 1, 0, none⟩)) (h4 : tmps.getD 4 undef = .pointer (some ⟨B + 2, 0, none⟩))
    (hl : LAt w B #[v0, v1, v2, v3, v4, v5]) (he : w.cell? ⟨B + 1, 0, none⟩ = some a) (hn : w.cell? ⟨B + 2, 0, none⟩ = some b) : (results Tryz.f9 tmps).run Tryz.prog w = .ok (.tuple #[.agg #[v0, v1, v2, v3, v4, v5], a, b]) w := by
  obtain ⟨⟨y0, y1, y2⟩, ⟨y3, y4, y5⟩, yf⟩ := hl.six
  simp [Array.getD_eq_getD_getElem?] at h2 h3 h4
  simp [results, Tryz.results9, go_sem, h2, h3, h4, y0, y1, y2, y3, y4, y5, he, hn]
theorem setCell_other {w : World} {g k : Nat} (h : g ≠ k) (v : Value) (j : Nat) : (w.setCell ⟨k, 0, none⟩ v).cell? ⟨g, j, none⟩ = w.cell? ⟨g, j, none⟩ := World.cell?_of_block (w := w) (Below.heap_setCell w _ _ _ h)
theorem setCell_one {w : World} {g : Nat} {x : Value} {t : TypeId} (h : w.heap[g]? = some (.cells #[x] t (0, 0))) (v : Value) : (w.setCell ⟨g, 0, none⟩ v).cell? ⟨g, 0, none⟩ = some v := by
  rw [cell_of_row _ g 0 _ _ _ (heap_setCell_same w g 0 _ _ v h)]
  rfl
set_option maxRecDepth 100000 in
set_option maxHeartbeats 8000000 in
theorem parse_go (s : ByteArray) (hs : s.size ≤ 65536) (w : World) :
    Calls Tryz.prog 9 #[.string s] w (ParseEnd w (parseT s.data.toList)) := by
  obtain ⟨P, hP⟩ : ∃ P : Ending → World → Prop, ParseEnd w (parseT s.data.toList) = P := ⟨_, rfl⟩
  rw [hP]
  have HP := Lib.hid hP
  have hmf : ∀ (fn : Fn) (first cap : Array Value) (w : World), (Instr.makeFunc fn first cap).run Tryz.prog w = .ok (.func fn first cap) w := fun _ _ _ _ => rfl
  have HDf := Lib.hid pDefault_own
  have hsi : (s.size : Int) ≤ 65536 := by omega
  have Hs := Lib.hid hs
  obtain ⟨Lo, hLo⟩ : ∃ Lo, (⟨(lowL 256).toArray⟩ : ByteArray) = Lo := ⟨_, rfl⟩
  obtain ⟨Up, hUp⟩ : ∃ Up, (⟨(upL 256).toArray⟩ : ByteArray) = Up := ⟨_, rfl⟩
  simp only [lcl_def, hLo, hUp] at HDf
  have HLo := Lib.hid hLo
  have HUp := Lib.hid hUp
  have HBl : Hid (LAt (((w.alloc (.cells zeroL 26)).alloc (.cells #[.int .i64 0] 27)).alloc (.cells #[.int .i64 0] 3)) w.heap.size zeroL) := by
    show LAt _ _ _
    unfold LAt
    rw [Below.heap_alloc _ _ _ (by simp; omega), Below.heap_alloc _ _ _ (by simp)]
    exact heap_alloc_new w _
  have HBe : Hid ((((w.alloc (.cells zeroL 26)).alloc (.cells #[.int .i64 0] 27)).alloc (.cells #[.int .i64 0] 3)).heap[w.heap.size + 1]? = some (.cells #[.int .i64 0] 27 (0, 0))) := by
    show _ = _
    rw [Below.heap_alloc _ _ _ (by simp)]
    have := heap_alloc_new (w.alloc (.cells zeroL 26)) (.cells #[.int .i64 0] 27)
    simpa using this
  have HBn : Hid ((((w.alloc (.cells zeroL 26)).alloc (.cells #[.int .i64 0] 27)).alloc (.cells #[.int .i64 0] 3)).heap[w.heap.size + 2]? = some (.cells #[.int .i64 0] 3 (0, 0))) := by
    have e : ((w.alloc (.cells zeroL 26)).alloc (.cells #[.int .i64 0] 27)).heap.size = w.heap.size + 2 := by simp
    show _ = _
    rw [← e]
    exact heap_alloc_new _ _
  have HB : Hid (Below w.heap.size w (((w.alloc (.cells zeroL 26)).alloc (.cells #[.int .i64 0] 27)).alloc (.cells #[.int .i64 0] 3))) := (((Below.refl _ _).alloc (Nat.le_refl _) _).alloc (by simp) _).alloc (by simp; omega) _
  unfold zeroL at HBl HBe HBn HB
  clear hLo hUp hP hs
  go_enter_defers Tryz.func9, Tryz.ntmps9
  go_wp2_with (first
    | (go_at_call 28
       refine (HDf.out _).mono ?_
       rintro e w1 ⟨x, y, hx, rfl, hm, hb⟩
       have HM := Lib.hid hm
       have HX := Lib.hid hx
       have HB1 := Lib.hid hb
       clear hm hx hb))
  have hxx := HX.out
  have hM := HM.out
  have hxl : x < w1.heap.size := (Array.getElem?_eq_some_iff.1 hM.2).1
  have hsz : w.heap.size + 3 ≤ w1.heap.size := by have := HB1.out.size; simpa using this
  have hRD := reader_start w1 w.heap.size x y hM.1 hM.2
  have hbx : w.heap.size + 3 ≤ x := by simpa using hxx
  have hrd := read_any (fun g => g = x) _ _ _ _ _ hRD (fun g hg => by rw [hg]; simp; omega) s Hs.out
  rw [show rdC PLdef (.slice (some ⟨x, 0, none⟩) 256 y) (.slice none 0 0) (.slice none 0 0) false 0 = #[.string psx, .slice (some ⟨x, 0, none⟩) 256 y, .string Lo, .string Up, .slice none 0 0, .slice none 0 0, .bool false, .int .i64 0] by rw [← HLo.out, ← HUp.out]; rfl] at hrd
  have hb2 : Below w.heap.size w (w1.alloc (.cells #[.string psx, .slice (some ⟨x, 0, none⟩) 256 y, .string Lo, .string Up, .slice none 0 0, .slice none 0 0, .bool false, .int .i64 0] 56)) := (HB.out.trans (HB1.out.mono HB.out.size)).alloc (by omega) _
  have hl2 := (HBl.out.under HB1.out (by simp; omega)).under ((Below.refl w1.heap.size w1).alloc (Nat.le_refl _) (.cells #[.string psx, .slice (some ⟨x, 0, none⟩) 256 y, .string Lo, .string Up, .slice none 0 0, .slice none 0 0, .bool false, .int .i64 0] 56)) (by omega)
  have he2 := ((Below.refl w1.heap.size w1).alloc (Nat.le_refl _) (.cells #[.string psx, .slice (some ⟨x, 0, none⟩) 256 y, .string Lo, .string Up, .slice none 0 0, .slice none 0 0, .bool false, .int .i64 0] 56)).block (w.heap.size + 1) (by omega) |>.trans ((HB1.out.block (w.heap.size + 1) (by simp)).trans HBe.out)
  have hn2 := ((Below.refl w1.heap.size w1).alloc (Nat.le_refl _) (.cells #[.string psx, .slice (some ⟨x, 0, none⟩) 256 y, .string Lo, .string Up, .slice none 0 0, .slice none 0 0, .bool false, .int .i64 0] 56)).block (w.heap.size + 2) (by omega) |>.trans ((HB1.out.block (w.heap.size + 2) (by simp)).trans HBn.out)
  have hz2 : (w1.alloc (.cells #[.string psx, .slice (some ⟨x, 0, none⟩) 256 y, .string Lo, .string Up, .slice none 0 0, .slice none 0 0, .bool false, .int .i64 0] 56)).heap.size = w1.heap.size + 1 := by simp
  generalize (w1.alloc (.cells #[.string psx, .slice (some ⟨x, 0, none⟩) 256 y, .string Lo, .string Up, .slice none 0 0, .slice none 0 0, .bool false, .int .i64 0] 56)) = w2 at hrd hb2 hl2 he2 hn2 hz2 ⊢
  have HRd := Lib.hid hrd
  have HB2 := Lib.hid hb2
  have HL2 := Lib.hid hl2
  have HE2 := Lib.hid he2
  have HN2 := Lib.hid hn2
  have hfar : ∀ g, g < w.heap.size + 3 → ¬ own (fun g => g = x) w1.heap.size g := fun g hg he => by
    rcases he with he | he <;> omega
  have HFar := Lib.hid hfar
  have HZ2 := Lib.hid hz2
  have HSz := Lib.hid hsz
  have HBx := Lib.hid hbx
  have HBK : Hid (∀ w3, Keep (own (fun g => g = x) w1.heap.size) w2 w3 → Below w.heap.size w w3) := fun w3 hk => hb2.trans (hk.below (by omega) (fun g hg => by rcases hg with hg | hg <;> omega))
  clear hrd hb2 hl2 he2 hn2 hfar hRD hz2 hM hxl hxx hsz hbx HB1 HB HBl HBe HBn HM HX
  unfold EndR at HRd
  cases hq : linesT 1 (lin s.data.toList) (false, PLdef) with
  | error z =>
    rw [hq] at HRd
    have hp : parseT s.data.toList = .error z := by
      unfold parseT
      rw [if_neg (by have := Hs.out; rw [size_len]; omega), hq]
    have HPz := HP.out
    rw [hp] at HPz
    have HP2 := Lib.hid HPz
    clear HPz hp hq HP
    refine HRd.out.mono ?_
    rintro e w3 ⟨rfl, hc7, hk⟩
    refine leaves_cons (f := 29) (args := #[.pointer (some ⟨w1.heap.size, 0, none⟩), .pointer (some ⟨w.heap.size, 0, none⟩), .pointer (some ⟨w.heap.size + 1, 0, none⟩), .pointer (some ⟨w.heap.size + 1 + 1, 0, none⟩)]) (by simp) (by simp [go_sem]) ?_
    have hl3 : LAt w3 w.heap.size zeroL := (hk.block _ (by have := HZ2.out; have := HSz.out; omega) (HFar.out _ (by omega))).trans HL2.out
    have he3 := (hk.block _ (by have := HZ2.out; have := HSz.out; omega) (HFar.out (w.heap.size + 1) (by omega))).trans HE2.out
    have hn3 := (hk.block _ (by have := HZ2.out; have := HSz.out; omega) (HFar.out (w.heap.size + 2) (by omega))).trans HN2.out
    refine (catch_err w1.heap.size w.heap.size z.1 (z.2 : Int) 0 0 [] w3 hc7 hl3 he3 hn3).mono ?_
    rintro e u' w4 ⟨rfl, rfl, rfl⟩
    have h1 : LAt (caught w3 w.heap.size z.1 (z.2 : Int)) w.heap.size zeroL := by
      unfold caught
      exact LAt.apart (LAt.apart (hl3.put6 _ _ _ _ _ _) _ (by omega)) _ (by omega)
    have e1 := (put6_far w3 w.heap.size (w.heap.size + 1) (by omega) (.string ⟨#[]⟩) (.slice none 0 0) (.string ⟨#[]⟩) (.string ⟨#[]⟩) (.slice none 0 0) (.slice none 0 0)).trans he3
    have n1 := (put6_far w3 w.heap.size (w.heap.size + 2) (by omega) (.string ⟨#[]⟩) (.slice none 0 0) (.string ⟨#[]⟩) (.string ⟨#[]⟩) (.slice none 0 0) (.slice none 0 0)).trans hn3
    have e2 : (caught w3 w.heap.size z.1 (z.2 : Int)).cell? ⟨w.heap.size + 1, 0, none⟩ = some (.int .i64 z.1) := by
      unfold caught
      rw [setCell_other (by omega)]
      exact setCell_one e1 _
    have n2 : (caught w3 w.heap.size z.1 (z.2 : Int)).cell? ⟨w.heap.size + 2, 0, none⟩ = some (.int .i64 (z.2 : Int)) := by
      unfold caught
      exact setCell_one ((Below.heap_setCell _ _ _ _ (by simp)).trans n1) _
    refine ⟨_, ret_parse _ _ w.heap.size _ _ _ _ _ _ _ _ rfl rfl rfl h1 e2 n2, ?_⟩
    rw [← HP2.out]
    refine ⟨?_, rfl⟩
    exact ((below_put6 (HBK.out w3 hk) _ (Nat.le_refl _) _ _ _ _ _ _).setCell (by simp) _).setCell (by simp) _
  | ok z =>
    rw [hq] at HRd
    cases hz : z.1 with
    | false =>
      simp only [hz, Bool.false_eq_true, if_false] at HRd
      have hp : parseT s.data.toList = .error (1, (lin s.data.toList).length + 1) := by
        unfold parseT
        rw [if_neg (by have := Hs.out; rw [size_len]; omega), hq]
        simp only [hz, Bool.false_eq_true, if_false]
      have HPz := HP.out
      rw [hp] at HPz
      have HP2 := Lib.hid HPz
      clear HPz hp hq HP hz
      refine HRd.out.mono ?_
      rintro e w3 ⟨rfl, hc7, hk⟩
      refine leaves_cons (f := 29) (args := #[.pointer (some ⟨w1.heap.size, 0, none⟩), .pointer (some ⟨w.heap.size, 0, none⟩), .pointer (some ⟨w.heap.size + 1, 0, none⟩), .pointer (some ⟨w.heap.size + 1 + 1, 0, none⟩)]) (by simp) (by simp [go_sem]) ?_
      have hl3 : LAt w3 w.heap.size zeroL := (hk.block _ (by have := HZ2.out; have := HSz.out; omega) (HFar.out _ (by omega))).trans HL2.out
      have he3 := (hk.block _ (by have := HZ2.out; have := HSz.out; omega) (HFar.out (w.heap.size + 1) (by omega))).trans HE2.out
      have hn3 := (hk.block _ (by have := HZ2.out; have := HSz.out; omega) (HFar.out (w.heap.size + 2) (by omega))).trans HN2.out
      refine (catch_err w1.heap.size w.heap.size 1 (((lin s.data.toList).length + 1 : Nat) : Int) 0 0 [] w3 hc7 hl3 he3 hn3).mono ?_
      rintro e u' w4 ⟨rfl, rfl, rfl⟩
      have h1 : LAt (caught w3 w.heap.size 1 (((lin s.data.toList).length + 1 : Nat) : Int)) w.heap.size zeroL := by
        unfold caught
        exact LAt.apart (LAt.apart (hl3.put6 _ _ _ _ _ _) _ (by omega)) _ (by omega)
      have e1 := (put6_far w3 w.heap.size (w.heap.size + 1) (by omega) (.string ⟨#[]⟩) (.slice none 0 0) (.string ⟨#[]⟩) (.string ⟨#[]⟩) (.slice none 0 0) (.slice none 0 0)).trans he3
      have n1 := (put6_far w3 w.heap.size (w.heap.size + 2) (by omega) (.string ⟨#[]⟩) (.slice none 0 0) (.string ⟨#[]⟩) (.string ⟨#[]⟩) (.slice none 0 0) (.slice none 0 0)).trans hn3
      have e2 : (caught w3 w.heap.size 1 (((lin s.data.toList).length + 1 : Nat) : Int)).cell? ⟨w.heap.size + 1, 0, none⟩ = some (.int .i64 1) := by
        unfold caught
        rw [setCell_other (by omega)]
        exact setCell_one e1 _
      have n2 : (caught w3 w.heap.size 1 (((lin s.data.toList).length + 1 : Nat) : Int)).cell? ⟨w.heap.size + 2, 0, none⟩ = some (.int .i64 (((lin s.data.toList).length + 1 : Nat) : Int)) := by
        unfold caught
        exact setCell_one ((Below.heap_setCell _ _ _ _ (by simp)).trans n1) _
      refine ⟨_, ret_parse _ _ w.heap.size _ _ _ _ _ _ _ _ rfl rfl rfl h1 e2 n2, ?_⟩
      rw [← HP2.out]
      refine ⟨?_, rfl⟩
      exact ((below_put6 (HBK.out w3 hk) _ (Nat.le_refl _) _ _ _ _ _ _).setCell (by simp) _).setCell (by simp) _
    | true =>
      simp only [hz, if_true] at HRd
      have hp : parseT s.data.toList = .ok z.2 := by
        unfold parseT
        rw [if_neg (by have := Hs.out; rw [size_len]; omega), hq]
        simp only [hz, if_true]
      have HPz := HP.out
      rw [hp] at HPz
      have HP2 := Lib.hid HPz
      clear HPz hp hq HP hz
      refine HRd.out.mono ?_
      rintro e w3 ⟨S3, W3, C3, E3, ln3, rfl, hr, hk, hS3, hF⟩
      obtain ⟨xw, cw, rfl, -⟩ := hr.wat
      obtain ⟨aC, cC, rfl⟩ := own_form hr.lm.cls
      obtain ⟨aE, cE, rfl⟩ := own_form hr.lm.els
      have hl3 : LAt w3 w.heap.size zeroL := (hk.block _ (by have := HZ2.out; have := HSz.out; omega) (HFar.out _ (by omega))).trans HL2.out
      have he3 := (hk.block _ (by have := HZ2.out; have := HSz.out; omega) (HFar.out (w.heap.size + 1) (by omega))).trans HE2.out
      have hn3 := (hk.block _ (by have := HZ2.out; have := HSz.out; omega) (HFar.out (w.heap.size + 2) (by omega))).trans HN2.out
      have HR3 := Lib.hid hr
      have HK3 := Lib.hid hk
      have HF3 := Lib.hid hF
      have HS3 := Lib.hid hS3
      have HL3 := Lib.hid hl3
      have HE3 := Lib.hid he3
      have HN3 := Lib.hid hn3
      obtain ⟨⟨x0, x1, x2, x3⟩, ⟨x4, x5, x6, x7⟩, xf⟩ := hr.cells
      obtain ⟨⟨y0, y1, y2⟩, ⟨y3, y4, y5⟩, yf⟩ := hl3.six
      have ce : w3.cell? ⟨w.heap.size + 1, 0, none⟩ = some (.int .i64 0) := cell_of_row _ _ 0 _ _ _ he3
      have fe := frozen_of_row _ (w.heap.size + 1) 0 _ _ he3
      have cn : w3.cell? ⟨w.heap.size + 2, 0, none⟩ = some (.int .i64 0) := cell_of_row _ _ 0 _ _ _ hn3
      have fn := frozen_of_row _ (w.heap.size + 2) 0 _ _ hn3
      clear hr hk hS3 hF hl3 he3 hn3
      go_wp2
      refine leaves_cons (f := 29) (args := #[.pointer (some ⟨w1.heap.size, 0, none⟩), .pointer (some ⟨w.heap.size, 0, none⟩), .pointer (some ⟨w.heap.size + 1, 0, none⟩), .pointer (some ⟨w.heap.size + 1 + 1, 0, none⟩)]) (by simp) (by simp [go_sem]) ?_
      refine (catch_idle w1.heap.size w.heap.size (w.heap.size + 1) (w.heap.size + 1 + 1) _).mono ?_
      rintro e u' w4 ⟨rfl, rfl, rfl⟩
      have h1 := LAt.apart (LAt.apart (HL3.out.put6 (.string (mk z.2.name)) (.slice (some ⟨xw, 0, none⟩) 256 cw) (.string (mk z.2.lower)) (.string (mk z.2.upper)) (.slice aC z.2.cls.length cC) (.slice aE z.2.els.length cE)) (k := w.heap.size + 1) (j := 0) (.int .i64 0) (by omega)) (k := w.heap.size + 1 + 1) (j := 0) (.int .i64 0) (by omega)
      have e1 := (put6_far w3 w.heap.size (w.heap.size + 1) (by omega) (.string (mk z.2.name)) (.slice (some ⟨xw, 0, none⟩) 256 cw) (.string (mk z.2.lower)) (.string (mk z.2.upper)) (.slice aC z.2.cls.length cC) (.slice aE z.2.els.length cE)).trans HE3.out
      have n1 := (put6_far w3 w.heap.size (w.heap.size + 2) (by omega) (.string (mk z.2.name)) (.slice (some ⟨xw, 0, none⟩) 256 cw) (.string (mk z.2.lower)) (.string (mk z.2.upper)) (.slice aC z.2.cls.length cC) (.slice aE z.2.els.length cE)).trans HN3.out
      have e2 := (setCell_other (g := w.heap.size + 1) (k := w.heap.size + 1 + 1) (by omega) (.int .i64 0) 0).trans (setCell_one e1 (.int .i64 0))
      have n2 := setCell_one ((Below.heap_setCell (put6 w3 w.heap.size (.string (mk z.2.name)) (.slice (some ⟨xw, 0, none⟩) 256 cw) (.string (mk z.2.lower)) (.string (mk z.2.upper)) (.slice aC z.2.cls.length cC) (.slice aE z.2.els.length cE)) ⟨w.heap.size + 1, 0, none⟩ (.int .i64 0) (w.heap.size + 2) (by simp)).trans n1) (.int .i64 0)
      refine ⟨_, ret_parse _ _ w.heap.size _ _ _ _ _ _ _ _ rfl rfl rfl h1 e2 n2, ?_⟩
      rw [← HP2.out]
      refine ⟨((below_put6 (HBK.out w3 HK3.out) _ (Nat.le_refl _) _ _ _ _ _ _).setCell (by simp) _).setCell (by simp; omega) _, _, _, _, rfl, ⟨S3, HR3.out.lm.same fun g hg hgl => ?_, fun g hg => ?_⟩, HF3.out⟩
      · have h5 := HS3.out g hg
        have h6 := HBx.out
        have h7 := HZ2.out
        have h8 := HSz.out
        have h9 : w.heap.size + 3 ≤ g := by rcases h5 with h5 | h5 <;> omega
        exact (Below.heap_setCell _ _ _ _ (by show g ≠ w.heap.size + 1 + 1; omega)).trans ((Below.heap_setCell _ _ _ _ (by show g ≠ w.heap.size + 1; omega)).trans (put6_far w3 w.heap.size g (by omega) _ _ _ _ _ _))
      · have h5 := HS3.out g hg
        have h6 := HBx.out
        have h7 := HZ2.out
        have h8 := HSz.out
        rcases h5 with h5 | h5 <;> omega
set_option maxRecDepth 100000 in
set_option maxHeartbeats 8000000 in
theorem parse_lim (s : ByteArray) (hs : 65536 < s.size) (w : World) :
    Calls Tryz.prog 9 #[.string s] w (ParseEnd w (parseT s.data.toList)) := by
  have hp : parseT s.data.toList = .error (3, 0) := by
    unfold parseT
    rw [if_pos (by rw [size_len]; exact hs)]
  rw [hp]
  have hsi : (65536 : Int) < s.size := by omega
  have hd : decide ((65536 : Int) < s.size) = true := by simpa using hsi
  have hl2 : LAt (((w.alloc (.cells zeroL 26)).alloc (.cells #[.int .i64 0] 27)).alloc (.cells #[.int .i64 0] 3)) w.heap.size zeroL := by
    unfold LAt
    rw [Below.heap_alloc _ _ _ (by simp; omega), Below.heap_alloc _ _ _ (by simp)]
    exact heap_alloc_new w _
  have HB : Hid (Below w.heap.size w (((w.alloc (.cells zeroL 26)).alloc (.cells #[.int .i64 0] 27)).alloc (.cells #[.int .i64 0] 3))) := (((Below.refl _ _).alloc (Nat.le_refl _) _).alloc (by simp) _).alloc (by simp; omega) _
  have hl3 : LAt (((w.alloc (.cells zeroL 26)).alloc (.cells #[.int .i64 3] 27)).alloc (.cells #[.int .i64 0] 3)) w.heap.size zeroL := by
    unfold LAt
    rw [Below.heap_alloc _ _ _ (by simp; omega), Below.heap_alloc _ _ _ (by simp)]
    exact heap_alloc_new w _
  have he3 : (((w.alloc (.cells zeroL 26)).alloc (.cells #[.int .i64 3] 27)).alloc (.cells #[.int .i64 0] 3)).cell? ⟨w.heap.size + 1, 0, none⟩ = some (.int .i64 3) := by
    rw [World.cell?_of_block (w := (w.alloc (.cells zeroL 26)).alloc (.cells #[.int .i64 3] 27)) (Below.heap_alloc _ _ _ (by simp))]
    have e : (w.alloc (.cells zeroL 26)).heap.size = w.heap.size + 1 := by simp
    rw [← e]
    exact cell_of_row _ _ 0 _ _ (0, 0) (heap_alloc_new _ _)
  have hn3 : (((w.alloc (.cells zeroL 26)).alloc (.cells #[.int .i64 3] 27)).alloc (.cells #[.int .i64 0] 3)).cell? ⟨w.heap.size + 2, 0, none⟩ = some (.int .i64 0) := by
    have e : ((w.alloc (.cells zeroL 26)).alloc (.cells #[.int .i64 3] 27)).heap.size = w.heap.size + 2 := by simp
    rw [← e]
    exact cell_of_row _ _ 0 _ _ (0, 0) (heap_alloc_new _ _)
  have HB3 : Hid (Below w.heap.size w (((w.alloc (.cells zeroL 26)).alloc (.cells #[.int .i64 3] 27)).alloc (.cells #[.int .i64 0] 3))) := (((Below.refl _ _).alloc (Nat.le_refl _) _).alloc (by simp) _).alloc (by simp; omega) _
  have HL := Lib.hid hl3
  have HE := Lib.hid he3
  have HN := Lib.hid hn3
  unfold zeroL at HB HL HE HN HB3
  clear hl2 hl3 he3 hn3 hp hs
  go_enter_defers Tryz.func9, Tryz.ntmps9
  go_wp2
  exact ⟨_, ret_parse _ _ w.heap.size _ _ _ _ _ _ _ _ rfl rfl rfl HL.out HE.out HN.out, HB3.out, rfl⟩
theorem ltParse_any (s : ByteArray) (w : World) : Calls Tryz.prog 9 #[.string s] w (ParseEnd w (parseT s.data.toList)) := by
  by_cases h : s.size ≤ 65536
  · exact parse_go s h w
  · exact parse_lim s (by omega) w
end Go.Proofs.YticfhbffoajgcaaGreatDoor
/- The writer's small parts: words joined by spaces, byteText, successive. -/
set_option linter.unusedVariables false
namespace Go.Proofs.YticfhbffoajgcaaGreatDoor
open Go.RowKit

/-- Words with single spaces between them. -/
def jw (xs : List (List UInt8)) : List UInt8 := Lib.join xs [32]
theorem jt_len (r : List (List UInt8)) : (Lib.joinTail [32] r).length = (r.map (·.length)).sum + r.length := by
  induction r with
  | nil => rfl
  | cons y r ih =>
    have e : Lib.joinTail [32] (y :: r) = [32] ++ y ++ Lib.joinTail [32] r := by simp [Lib.joinTail]
    rw [e]
    simp only [List.length_append, ih, List.map_cons, List.sum_cons, List.length_cons, List.length_nil]
    omega
theorem jw_len (xs : List (List UInt8)) : (jw xs).length ≤ (xs.map (·.length)).sum + xs.length := by
  unfold jw
  cases xs with
  | nil => simp [Lib.join]
  | cons x r =>
    rw [Lib.join_cons, List.length_append, jt_len]
    simp only [List.map_cons, List.sum_cons, List.length_cons]
    omega
theorem sjw_any (v : Value) (xs : List (List UInt8)) (w : World) (hv : SA w v xs) (hN : (xs.map (·.length)).sum + xs.length ≤ 140737488355328) :
    Calls Tryz.prog 103 #[v, .string ⟨#[32]⟩] w fun e w' => e = .returned (.string (mk (jw xs))) ∧ Below w.heap.size w w' := by
  obtain ⟨a, c, rfl, h2, h3⟩ := hv
  have hl := jw_len xs
  rcases h3 with rfl | ⟨b, o, rfl, h5, h6⟩
  · exact (Any.strings_Join_none Tryz.lays156 bextra a c ⟨#[32]⟩ w).mono fun e w' ⟨he, hw⟩ => ⟨he, hw ▸ Below.refl _ _⟩
  · have hmap : (xs.map mk).map (·.data.toList) = xs := by rw [List.map_map]; exact List.map_id'' (fun x => rfl) xs
    have h := Any.strings_Join Tryz.lays156 bextra b o c (xs.map mk) ⟨#[32]⟩ w (fun j x hx => by
      rw [List.getElem?_map, Option.map_eq_some_iff] at hx
      obtain ⟨y, hy, rfl⟩ := hx
      exact h6 j y hy) h5 (by rw [List.length_map]; omega) (by rw [List.length_map]; exact h2) (by rw [hmap]; exact Nat.le_trans hl hN)
    rw [List.length_map, hmap] at h
    exact h
/-- The decimal form of a byte, of a weight. -/
def fmB (c : Nat) : List UInt8 := (fmtS (c : Int)).data.toList
theorem fmt_nat (c : Nat) (n : Int) (hn : (c : Int) = n) (hc : c ≤ 1000000) (w : World) : Calls Tryz.prog 63 #[.int .i64 n] w fun e w' => e = .returned (.string (mk (fmB c))) ∧ Below w.heap.size w w' := by
  subst hn
  exact fmt_any (c : Int) w (by unfold fits; omega)
set_option maxHeartbeats 400000 in
theorem byteText_any (c : Nat) (hc : c < 256) (w : World) : Calls Tryz.prog 62 #[.int .u8 (c : Int)] w fun e w' => e = .returned (.string (mk (fmB c))) ∧ Below w.heap.size w w' := by
  have HF := Lib.hid (fmt_nat c (c : Int) rfl (by omega) w)
  have hw : IntKind.i64.wrap (c : Int) = (c : Int) := IntWalk.i64_in _ (by omega)
  go_enter Tryz.func62, Tryz.ntmps62
  go_wp2_with (first
    | (go_at_call 63; refine HF.out.mono ?_; rintro e w1 ⟨rfl, hb⟩))
  go_ret
  exact ⟨rfl, hb⟩
/-- How many bytes at the beginning succeed each other. -/
def succL : List UInt8 → Nat
  | [] => 0
  | [_] => 1
  | a :: b :: r => if b = a + 1 then succL (b :: r) + 1 else 1
end Go.Proofs.YticfhbffoajgcaaGreatDoor
/- The writer's entry: a line of words. (Written by gen_ltwent.py.) -/
set_option linter.unusedVariables false
namespace Go.Proofs.YticfhbffoajgcaaGreatDoor
open Go.RowKit

/-- The writer in block B, its lines in a block of S. -/
def WS (S : Nat → Prop) (w : World) (B : Nat) (ls : List (List UInt8)) : Prop := ∃ v, w.heap[B]? = some (.cells #[v] 97 (0, 0)) ∧ w.ownsRow 0 9 1 v ls.length (strs3 ls) ∧ (∀ g, v.ownBlock = some g → S g) ∧ ¬ S B
theorem WS.lt {S : Nat → Prop} {w : World} {B : Nat} {ls : List (List UInt8)} (h : WS S w B ls) : B < w.heap.size := by
  obtain ⟨v, h1, _⟩ := h
  exact (Array.getElem?_eq_some_iff.1 h1).1
theorem WS.next {S : Nat → Prop} {w w' : World} {B : Nat} {ls : List (List UInt8)} (h : WS S w B ls) (hb : Below w.heap.size w w') : WS S w' B ls := by
  have hl := h.lt
  obtain ⟨v, h1, h2, h3, h4⟩ := h
  exact ⟨v, (hb.block B hl).trans h1, own_same h2 fun g _ hg => hb.block g hg, h3, h4⟩
theorem WS.more {S T : Nat → Prop} {w : World} {B : Nat} {ls : List (List UInt8)} (h : WS S w B ls) (hST : ∀ g, S g → T g) (hB : ¬ T B) : WS T w B ls := by
  obtain ⟨v, h1, h2, h3, h4⟩ := h
  exact ⟨v, h1, h2, fun g e => hST g (h3 g e), hB⟩
/-- What a writing method leaves. -/
def Wrote (S : Nat → Prop) (w : World) (B : Nat) (ls : List (List UInt8)) (e : Ending) (w' : World) : Prop := e = .returned (.tuple #[]) ∧ WS (grow S w) w' B ls ∧ Keep (own S B) w w'
theorem infoSt : (Tryz.prog.info? 9).map (fun i => (i.zero, i.size, i.bytes)) = some (some (.string ⟨#[]⟩), 1, 16) := by kernel_rfl
theorem own_one (w : World) (x : Value) (hx : x.oneCell' = true) : (w.alloc (.cells #[x] 9)).ownsRow 0 9 1 (.slice (some ⟨w.heap.size, 0, none⟩) 1 1) 1 [x] :=
  ⟨rfl, .inr ⟨w.heap.size, 1, #[x], rfl, Nat.zero_le _, heap_alloc_new w _, Nat.le_refl _, (by decide), rfl, rfl⟩⟩
theorem sa_news {w : World} {b o : Nat} {xs : List (List UInt8)} (h : ∀ (j : Nat) (x : List UInt8), xs[j]? = some x → w.cell? ⟨b, o + j, none⟩ = some (.string (mk x))) : ∀ j u, (strs3 xs)[j]? = some u → w.cell? ((⟨b, o, none⟩ : Addr).add j) = some u := by
  intro j u hu
  have e : (⟨b, o, none⟩ : Addr).add j = ⟨b, o + j, none⟩ := by unfold Addr.add; split <;> simp_all
  unfold strs3 at hu
  rw [List.getElem?_map, Option.map_eq_some_iff] at hu
  obtain ⟨x, hx, rfl⟩ := hu
  rw [e]
  exact h j x hx
theorem own_sa {w : World} {B g n cap : Nat} {xs : List (List UInt8)} (h : w.ownsRow B 9 1 (.slice (some ⟨g, 0, none⟩) n cap) n (strs3 xs)) (hn : n = xs.length) : SA w (.slice (some ⟨g, 0, none⟩) n cap) xs := by
  subst hn
  have hlt := (h.lt g rfl).2
  rcases h.2 with ⟨e, _⟩ | ⟨g2, cap2, cur, e, _, _, hc, _⟩
  · cases e
  · cases e
    refine ⟨_, _, rfl, hc, .inr ⟨g, 0, rfl, hlt, fun j x hx => ?_⟩⟩
    have := h.cells rfl j (.string (mk x)) (by unfold strs3; rw [List.getElem?_map, hx]; rfl)
    have e : (⟨g, 0, none⟩ : Addr).add j = ⟨g, 0 + j, none⟩ := by unfold Addr.add; split <;> simp_all
    rw [e] at this
    exact this
theorem went_end {S : Nat → Prop} {w w4 w5 : World} {B g5 cap5 : Nat} {v : Value} {ls : List (List UInt8)} {J : ByteArray} (hB : w.heap[B]? = some (.cells #[v] 97 (0, 0))) (ho : w.ownsRow 0 9 1 v ls.length (strs3 ls)) (hS : ∀ g, v.ownBlock = some g → S g) (hnB : ¬ S B)
    (hk4 : Below w.heap.size w w4) (hk5 : Keep (fun b => v.ownBlock = some b) w4 w5) (ho5 : w5.ownsRow 0 9 1 (.slice (some ⟨g5, 0, none⟩) (ls.length + 1) cap5) (ls.length + 1) (strs3 ls ++ [.string J])) (hat : v.ownBlock = some g5 ∨ w.heap.size ≤ g5) (hb5 : w5.heap[B]? = some (.cells #[v] 97 (0, 0))) :
    Wrote S w B (ls ++ [J.data.toList]) (.returned (.tuple #[])) (w5.setCell ⟨B, 0, none⟩ (.slice (some ⟨g5, 0, none⟩) (ls.length + 1) cap5)) := by
  have hBl : B < w.heap.size := (Array.getElem?_eq_some_iff.1 hB).1
  have hgB : g5 ≠ B := by
    rintro rfl
    rcases hat with h | h
    · exact hnB (hS _ h)
    · omega
  refine ⟨rfl, ⟨_, heap_setCell_same w5 B 0 _ _ _ hb5, ?_, ?_, grow_out hnB hBl⟩, ?_⟩
  · rw [List.length_append]
    show (w5.setCell _ _).ownsRow 0 _ 1 _ (ls.length + 1) (strs3 (ls ++ [J.data.toList]))
    have e : strs3 (ls ++ [J.data.toList]) = strs3 ls ++ [.string J] := by rw [strs_app]; rfl
    rw [e]
    refine own_same ho5 fun g e _ => Below.heap_setCell _ _ _ _ ?_
    have e2 : g5 = g := by simpa [Value.ownBlock] using e
    show g ≠ B
    rw [← e2]; exact hgB
  · intro g e
    have e2 : g5 = g := by simpa [Value.ownBlock] using e
    subst e2
    rcases hat with h | h
    · exact .inl (hS _ h)
    · exact .inr h
  · have h1 : Keep (own S B) w w5 := (Keep.of_below (S := own S B) hk4).trans hk5 (fun g _ e => .inl (hS g e))
    exact h1.put B 0 (.inl (.inr rfl)) _
theorem ownsRow_next {w w' : World} {n : Nat} {v : Value} {xs : List Value} (h : w.ownsRow 0 9 1 v n xs) (hb : Below w.heap.size w w') : w'.ownsRow 0 9 1 v n xs := own_same h fun g _ hg => hb.block g hg
set_option maxRecDepth 100000 in
set_option maxHeartbeats 16000000 in
theorem wentry_any (S : Nat → Prop) (w : World) (B : Nat) (ls : List (List UInt8)) (h : WS S w B ls) (kw : ByteArray) (av : Value) (args : List (List UInt8)) (hA : SA w av args) (hne : args ≠ []) (hls : ls.length ≤ 1000000) (hal : args.length ≤ 1000000) (hsum : ((kw.data.toList :: args).map (·.length)).sum ≤ 1000000000) :
    Calls Tryz.prog 58 #[.pointer (some ⟨B, 0, none⟩), .string kw, av] w (Wrote S w B (ls ++ [jw (kw.data.toList :: args)])) := by
  have hBl := h.lt
  obtain ⟨v, hBx, hov, hvS, hnB⟩ := h
  have HBx := Lib.hid hBx
  have HOv := Lib.hid hov
  have HvS := Lib.hid hvS
  have HvB2 := Lib.hid hnB
  have HvB : Hid (¬ v.ownBlock = some B) := fun e => hnB (hvS B e)
  have hcB : w.cell? ⟨B, 0, none⟩ = some v := cell_of_row w B 0 _ _ _ hBx
  obtain ⟨a, ca, rfl, hca, hat⟩ := hA
  obtain ⟨b, o, rfl, hb, hc⟩ : ∃ b o, a = some ⟨b, o, none⟩ ∧ b < w.heap.size ∧ ∀ (j : Nat) (x : List UInt8), args[j]? = some x → w.cell? ⟨b, o + j, none⟩ = some (.string (mk x)) := by
    rcases hat with h | h
    · exact absurd h hne
    · exact h
  have HA1 : Hid (∀ (j : Nat) (x : List UInt8), args[j]? = some x → (w.alloc (.cells #[.string kw] 9)).cell? ⟨b, o + j, none⟩ = some (.string (mk x))) := fun j x hx => by
    rw [World.cell?_of_block (w := w) (Below.heap_alloc w _ _ hb)]
    exact hc j x hx
  obtain ⟨n, hn⟩ : ∃ n, args.length = n := ⟨_, rfl⟩
  have HN := Lib.hid hn
  have hn0 : 0 < n := by rw [← hn]; exact List.length_pos_iff.2 hne
  rw [hn] at hca hal ⊢
  have HJ := Lib.hid (fun v w hv => sjw_any v (kw.data.toList :: args) w hv (by rw [List.length_cons, hn]; omega))
  obtain ⟨J, hJ⟩ : ∃ J, mk (jw (kw.data.toList :: args)) = J := ⟨_, rfl⟩
  rw [hJ] at HJ
  rw [show jw (kw.data.toList :: args) = J.data.toList by rw [← hJ]; rfl]
  obtain ⟨i0, hi0, hz0, hz1, hz2⟩ := info_parts infoSt
  have hcn : (n : Int) ≤ ca := by omega
  clear hBx hov hvS hnB hat hc hn hJ hne hsum
  go_enter Tryz.func58, Tryz.ntmps58
  go_wp2
  refine wp_region_held_drew (S := fun _ => True) (by kernel_rfl) ?_ (fun hHeld => ?_)
  · exact trivial
  refine wpAnyH_take (i := 0) (v := ?av0) rfl (by kernel_rfl) (by kernel_rfl) (by kernel_rfl) (fun _ _ _ h => h) (Or.inl ⟨by rfl, ?ay0⟩) (by assumption) ?ar0
  case ay0 =>
    intro wx hSw
    clear hSw
    go_simp
    first | done | (with_reducible rfl)
  (try simp only [Act.put, List.getElem_toArray, List.getElem_cons_zero, List.setIfInBounds_toArray, List.set_cons_zero, List.set_cons_succ])
  refine wpAnyH_take (i := 1) (v := ?av1) rfl (by kernel_rfl) (by kernel_rfl) (by kernel_rfl) (fun _ _ _ h => h) (Or.inl ⟨by rfl, ?ay1⟩) (by assumption) ?ar1
  case ay1 =>
    intro wx hSw
    clear hSw
    go_simp
    first | done | (with_reducible rfl)
  (try simp only [Act.put, List.getElem_toArray, List.getElem_cons_succ, List.getElem_cons_zero, List.setIfInBounds_toArray, List.set_cons_zero, List.set_cons_succ])
  refine wpAnyH_take (i := 2) (v := ?av2) rfl (by kernel_rfl) (by kernel_rfl) (by kernel_rfl) (fun _ _ _ h => h) (Or.inl ⟨by rfl, ?ay2⟩) (by assumption) ?ar2
  case ay2 =>
    intro wx hSw
    clear hSw
    go_simp
    first | done | (with_reducible rfl)
  (try simp only [Act.put, List.getElem_toArray, List.getElem_cons_succ, List.getElem_cons_zero, List.setIfInBounds_toArray, List.set_cons_zero, List.set_cons_succ])
  refine wpAnyH_take (i := 3) (v := ?av3) rfl (by kernel_rfl) (by kernel_rfl) (by kernel_rfl) (fun _ _ _ h => h) (Or.inl ⟨by rfl, ?ay3⟩) (by assumption) ?ar3
  case ay3 =>
    intro wx hSw
    clear hSw
    go_simp
    first | done | (with_reducible rfl)
  (try simp only [Act.put, List.getElem_toArray, List.getElem_cons_succ, List.getElem_cons_zero, List.setIfInBounds_toArray, List.set_cons_zero, List.set_cons_succ])
  refine wpAnyH_take (i := 5) (v := ?av5) rfl (by kernel_rfl) (by kernel_rfl) (by kernel_rfl) (fun _ _ _ h => h) (Or.inl ⟨by rfl, ?ay5⟩) (by assumption) ?ar5
  case ay5 =>
    intro wx hSw
    clear hSw
    go_simp
    first | done | (with_reducible rfl)
  (try simp only [Act.put, List.getElem_toArray, List.getElem_cons_succ, List.getElem_cons_zero, List.setIfInBounds_toArray, List.set_cons_zero, List.set_cons_succ])
  refine wpAnyH_take (i := 7) (v := ?av7) rfl (by kernel_rfl) (by kernel_rfl) (by kernel_rfl) (fun _ _ _ h => h) (Or.inl ⟨by rfl, ?ay7⟩) (by assumption) ?ar7
  case ay7 =>
    intro wx hSw
    clear hSw
    go_simp
    first | done | (with_reducible rfl)
  (try simp only [Act.put, List.getElem_toArray, List.getElem_cons_succ, List.getElem_cons_zero, List.setIfInBounds_toArray, List.set_cons_zero, List.set_cons_succ])
  refine wpAnyH_ready (rs := [4, 6]) (by kernel_rfl) (by simp) ?_
  refine AllReadyH.cons rfl (fun K hK => ?_) (AllReadyH.cons rfl (fun K hK => ?_) AllReadyH.nil)
  · go_simp
    refine hK.out _ _ trivial (fun _ => ?_)
    clear hK K
    (try simp only [Act.put, List.getElem_toArray, List.getElem_cons_succ, List.getElem_cons_zero, List.setIfInBounds_toArray, List.set_cons_zero, List.set_cons_succ])
    refine wpAnyH_ready (rs := [6]) (by kernel_rfl) (by simp) ?_
    refine AllReadyH.cons rfl (fun K hK => ?_) AllReadyH.nil
    go_simp
    refine hK.out _ _ trivial (fun _ => ?_)
    clear hK K
    (try simp only [Act.put, List.getElem_toArray, List.getElem_cons_succ, List.getElem_cons_zero, List.setIfInBounds_toArray, List.set_cons_zero, List.set_cons_succ])
    refine wpAnyH_ready (rs := [8]) (by kernel_rfl) (by simp) ?_
    refine AllReadyH.cons rfl (fun K hK => ?_) AllReadyH.nil
    refine step_append_lies _ (by rfl) (.tmp 12) (.tmp 13) 59 (by rfl) 0 9 i0 _ 1 16 Tryz.underlying59 hi0 hz0 hz1 hz2 rfl (by decide) (.slice (some ⟨w.heap.size, 0, none⟩) 1 1) 1 [.string kw] (by rfl) (own_one w (.string kw) rfl) ⟨b, o, none⟩ n ca (strs3 args) (by rfl) (by unfold strs3; rw [List.length_map, HN.out, Nat.mul_one]) (sa_news HA1.out) (strs_one args) hn0 (by unfold maxLen; omega) (by omega) (Nat.zero_le _) (w.heap.size + 1) (by simp) ?_
    intro g2 cap2 w2 ho2 hg2 hat2 hlt2
    have HO2 := Lib.hid ho2
    have HK2 : Hid (Below w.heap.size w w2) := ((Below.refl w.heap.size w).alloc (Nat.le_refl _) (.cells #[.string kw] 9)).drew.grown hg2 (by simp) (fun k e => by
      have e2 : w.heap.size = k := by simpa [Value.ownBlock] using e
      omega)
    have c2 : w2.cell? ⟨B, 0, none⟩ = some v := by rw [HK2.out.cell (by exact hBl)]; exact hcB
    clear ho2 hg2 hat2 hlt2
    refine hK.out _ _ trivial (fun _ => ?_)
    clear hK K
    (try simp only [Act.put, List.getElem_toArray, List.getElem_cons_succ, List.getElem_cons_zero, List.setIfInBounds_toArray, List.set_cons_zero, List.set_cons_succ])
    refine wpAnyH_ready (rs := [9]) (by kernel_rfl) (by simp) ?_
    refine AllReadyH.cons rfl (fun K hK => ?_) AllReadyH.nil
    go_simp
    go_at_call 103
    refine (HJ.out _ _ (own_sa (xs := kw.data.toList :: args) HO2.out (by rw [List.length_cons, HN.out]; omega))).mono ?_
    rintro e w3 ⟨rfl, hb3⟩
    have HK3 := Lib.hid (HK2.out.trans (hb3.mono HK2.out.size))
    have c3 : w3.cell? ⟨B, 0, none⟩ = some v := by rw [HK3.out.cell (by exact hBl)]; exact hcB
    clear hb3
    refine hK.out _ _ trivial (fun _ => ?_)
    clear hK K
    (try simp only [Act.put, List.getElem_toArray, List.getElem_cons_succ, List.getElem_cons_zero, List.setIfInBounds_toArray, List.set_cons_zero, List.set_cons_succ])
    refine wpAnyH_ready (rs := [10]) (by kernel_rfl) (by simp) ?_
    refine AllReadyH.cons rfl (fun K hK => ?_) AllReadyH.nil
    go_simp
    have HK4 : Hid (Below w.heap.size w (w3.alloc (.cells #[.string J] 9))) := HK3.out.alloc HK3.out.size _
    have c4 : (w3.alloc (.cells #[.string J] 9)).cell? ⟨B, 0, none⟩ = some v := by rw [HK4.out.cell (by exact hBl)]; exact hcB
    refine hK.out _ _ trivial (fun _ => ?_)
    clear hK K
    (try simp only [Act.put, List.getElem_toArray, List.getElem_cons_succ, List.getElem_cons_zero, List.setIfInBounds_toArray, List.set_cons_zero, List.set_cons_succ])
    refine wpAnyH_ready (rs := [11]) (by kernel_rfl) (by simp) ?_
    refine AllReadyH.cons rfl (fun K hK => ?_) AllReadyH.nil
    refine step_append_lies _ (by rfl) (.tmp 10) (.tmp 16) 59 (by rfl) 0 9 i0 _ 1 16 Tryz.underlying59 hi0 hz0 hz1 hz2 rfl (by decide) v ls.length (strs3 ls) (by rfl) ((ownsRow_next HOv.out HK3.out).alloc _) ⟨w3.heap.size, 0, none⟩ 1 1 [.string J] (by rfl) rfl (fun j u hu => new_cells w3 [.string J] 9 j u hu) (by simp [Value.oneCell']) (by decide) (by unfold maxLen; omega) (by omega) (Nat.zero_le _) (w3.heap.size + 1) (by simp) ?_
    intro g5 cap5 w5 ho5 hg5 hat5 hlt5
    have HK5 : Hid (Keep (fun b => v.ownBlock = some b) (w3.alloc (.cells #[.string J] 9)) w5) := (Keep.refl _ _).grown hg5 (fun k e _ => e)
    have HO5 := Lib.hid ho5
    have HAt5 : Hid (v.ownBlock = some g5 ∨ w.heap.size ≤ g5) := hat5.imp id (fun e => by have := HK3.out.size; omega)
    have hb5 : w5.heap[B]? = some (.cells #[v] 97 (0, 0)) := (HK5.out.block B (by have := HK4.out.size; omega) HvB.out).trans ((HK4.out.block B hBl).trans HBx.out)
    have HB5 := Lib.hid hb5
    have f5 := frozen_of_row w5 B 0 _ _ hb5
    have c5 : w5.cell? ⟨B, 0, none⟩ = some v := cell_of_row w5 B 0 _ _ _ hb5
    clear ho5 hg5 hat5 hlt5 hb5
    refine hK.out _ _ trivial (fun _ => ?_)
    clear hK K
    (try simp only [Act.put, List.getElem_toArray, List.getElem_cons_succ, List.getElem_cons_zero, List.setIfInBounds_toArray, List.set_cons_zero, List.set_cons_succ])
    refine wpAnyH_take (i := 12) (v := ?z1v12) rfl (by kernel_rfl) (by kernel_rfl) (by kernel_rfl) (fun _ _ _ h => h) (Or.inl ⟨by rfl, ?z1y12⟩) (by assumption) ?z1r12
    case z1y12 =>
      intro wx hSw
      clear hSw
      go_simp
      first | done | (with_reducible rfl)
    (try simp only [Act.put, List.getElem_toArray, List.getElem_cons_succ, List.getElem_cons_zero, List.setIfInBounds_toArray, List.set_cons_zero, List.set_cons_succ])
    refine wpAnyH_take (i := 13) (v := ?z1v13) rfl (by kernel_rfl) (by kernel_rfl) (by kernel_rfl) (fun _ _ _ h => h) (Or.inl ⟨by rfl, ?z1y13⟩) (by assumption) ?z1r13
    case z1y13 =>
      intro wx hSw
      clear hSw
      go_simp
      first | done | (with_reducible rfl)
    (try simp only [Act.put, List.getElem_toArray, List.getElem_cons_succ, List.getElem_cons_zero, List.setIfInBounds_toArray, List.set_cons_zero, List.set_cons_succ])
    refine wpAnyH_ready (rs := [14]) (by kernel_rfl) (by simp) ?_
    refine AllReadyH.cons rfl (fun K hK => ?_) AllReadyH.nil
    go_simp
    refine hK.out _ _ trivial (fun _ => ?_)
    clear hK K
    (try simp only [Act.put, List.getElem_toArray, List.getElem_cons_succ, List.getElem_cons_zero, List.setIfInBounds_toArray, List.set_cons_zero, List.set_cons_succ])
    refine wpAnyH_done (by kernel_rfl) ?_ _
    go_wp2
    go_end0
    exact went_end HBx.out HOv.out HvS.out HvB2.out HK4.out HK5.out HO5.out HAt5.out HB5.out
  · go_simp
    refine hK.out _ _ trivial (fun _ => ?_)
    clear hK K
    (try simp only [Act.put, List.getElem_toArray, List.getElem_cons_succ, List.getElem_cons_zero, List.setIfInBounds_toArray, List.set_cons_zero, List.set_cons_succ])
    refine wpAnyH_ready (rs := [4, 8]) (by kernel_rfl) (by simp) ?_
    refine AllReadyH.cons rfl (fun K hK => ?_) (AllReadyH.cons rfl (fun K hK => ?_) AllReadyH.nil)
    · go_simp
      refine hK.out _ _ trivial (fun _ => ?_)
      clear hK K
      (try simp only [Act.put, List.getElem_toArray, List.getElem_cons_succ, List.getElem_cons_zero, List.setIfInBounds_toArray, List.set_cons_zero, List.set_cons_succ])
      refine wpAnyH_ready (rs := [8]) (by kernel_rfl) (by simp) ?_
      refine AllReadyH.cons rfl (fun K hK => ?_) AllReadyH.nil
      refine step_append_lies _ (by rfl) (.tmp 12) (.tmp 13) 59 (by rfl) 0 9 i0 _ 1 16 Tryz.underlying59 hi0 hz0 hz1 hz2 rfl (by decide) (.slice (some ⟨w.heap.size, 0, none⟩) 1 1) 1 [.string kw] (by rfl) (own_one w (.string kw) rfl) ⟨b, o, none⟩ n ca (strs3 args) (by rfl) (by unfold strs3; rw [List.length_map, HN.out, Nat.mul_one]) (sa_news HA1.out) (strs_one args) hn0 (by unfold maxLen; omega) (by omega) (Nat.zero_le _) (w.heap.size + 1) (by simp) ?_
      intro g2 cap2 w2 ho2 hg2 hat2 hlt2
      have HO2 := Lib.hid ho2
      have HK2 : Hid (Below w.heap.size w w2) := ((Below.refl w.heap.size w).alloc (Nat.le_refl _) (.cells #[.string kw] 9)).drew.grown hg2 (by simp) (fun k e => by
        have e2 : w.heap.size = k := by simpa [Value.ownBlock] using e
        omega)
      have c2 : w2.cell? ⟨B, 0, none⟩ = some v := by rw [HK2.out.cell (by exact hBl)]; exact hcB
      clear ho2 hg2 hat2 hlt2
      refine hK.out _ _ trivial (fun _ => ?_)
      clear hK K
      (try simp only [Act.put, List.getElem_toArray, List.getElem_cons_succ, List.getElem_cons_zero, List.setIfInBounds_toArray, List.set_cons_zero, List.set_cons_succ])
      refine wpAnyH_ready (rs := [9]) (by kernel_rfl) (by simp) ?_
      refine AllReadyH.cons rfl (fun K hK => ?_) AllReadyH.nil
      go_simp
      go_at_call 103
      refine (HJ.out _ _ (own_sa (xs := kw.data.toList :: args) HO2.out (by rw [List.length_cons, HN.out]; omega))).mono ?_
      rintro e w3 ⟨rfl, hb3⟩
      have HK3 := Lib.hid (HK2.out.trans (hb3.mono HK2.out.size))
      have c3 : w3.cell? ⟨B, 0, none⟩ = some v := by rw [HK3.out.cell (by exact hBl)]; exact hcB
      clear hb3
      refine hK.out _ _ trivial (fun _ => ?_)
      clear hK K
      (try simp only [Act.put, List.getElem_toArray, List.getElem_cons_succ, List.getElem_cons_zero, List.setIfInBounds_toArray, List.set_cons_zero, List.set_cons_succ])
      refine wpAnyH_ready (rs := [10]) (by kernel_rfl) (by simp) ?_
      refine AllReadyH.cons rfl (fun K hK => ?_) AllReadyH.nil
      go_simp
      have HK4 : Hid (Below w.heap.size w (w3.alloc (.cells #[.string J] 9))) := HK3.out.alloc HK3.out.size _
      have c4 : (w3.alloc (.cells #[.string J] 9)).cell? ⟨B, 0, none⟩ = some v := by rw [HK4.out.cell (by exact hBl)]; exact hcB
      refine hK.out _ _ trivial (fun _ => ?_)
      clear hK K
      (try simp only [Act.put, List.getElem_toArray, List.getElem_cons_succ, List.getElem_cons_zero, List.setIfInBounds_toArray, List.set_cons_zero, List.set_cons_succ])
      refine wpAnyH_ready (rs := [11]) (by kernel_rfl) (by simp) ?_
      refine AllReadyH.cons rfl (fun K hK => ?_) AllReadyH.nil
      refine step_append_lies _ (by rfl) (.tmp 10) (.tmp 16) 59 (by rfl) 0 9 i0 _ 1 16 Tryz.underlying59 hi0 hz0 hz1 hz2 rfl (by decide) v ls.length (strs3 ls) (by rfl) ((ownsRow_next HOv.out HK3.out).alloc _) ⟨w3.heap.size, 0, none⟩ 1 1 [.string J] (by rfl) rfl (fun j u hu => new_cells w3 [.string J] 9 j u hu) (by simp [Value.oneCell']) (by decide) (by unfold maxLen; omega) (by omega) (Nat.zero_le _) (w3.heap.size + 1) (by simp) ?_
      intro g5 cap5 w5 ho5 hg5 hat5 hlt5
      have HK5 : Hid (Keep (fun b => v.ownBlock = some b) (w3.alloc (.cells #[.string J] 9)) w5) := (Keep.refl _ _).grown hg5 (fun k e _ => e)
      have HO5 := Lib.hid ho5
      have HAt5 : Hid (v.ownBlock = some g5 ∨ w.heap.size ≤ g5) := hat5.imp id (fun e => by have := HK3.out.size; omega)
      have hb5 : w5.heap[B]? = some (.cells #[v] 97 (0, 0)) := (HK5.out.block B (by have := HK4.out.size; omega) HvB.out).trans ((HK4.out.block B hBl).trans HBx.out)
      have HB5 := Lib.hid hb5
      have f5 := frozen_of_row w5 B 0 _ _ hb5
      have c5 : w5.cell? ⟨B, 0, none⟩ = some v := cell_of_row w5 B 0 _ _ _ hb5
      clear ho5 hg5 hat5 hlt5 hb5
      refine hK.out _ _ trivial (fun _ => ?_)
      clear hK K
      (try simp only [Act.put, List.getElem_toArray, List.getElem_cons_succ, List.getElem_cons_zero, List.setIfInBounds_toArray, List.set_cons_zero, List.set_cons_succ])
      refine wpAnyH_take (i := 12) (v := ?z2v12) rfl (by kernel_rfl) (by kernel_rfl) (by kernel_rfl) (fun _ _ _ h => h) (Or.inl ⟨by rfl, ?z2y12⟩) (by assumption) ?z2r12
      case z2y12 =>
        intro wx hSw
        clear hSw
        go_simp
        first | done | (with_reducible rfl)
      (try simp only [Act.put, List.getElem_toArray, List.getElem_cons_succ, List.getElem_cons_zero, List.setIfInBounds_toArray, List.set_cons_zero, List.set_cons_succ])
      refine wpAnyH_take (i := 13) (v := ?z2v13) rfl (by kernel_rfl) (by kernel_rfl) (by kernel_rfl) (fun _ _ _ h => h) (Or.inl ⟨by rfl, ?z2y13⟩) (by assumption) ?z2r13
      case z2y13 =>
        intro wx hSw
        clear hSw
        go_simp
        first | done | (with_reducible rfl)
      (try simp only [Act.put, List.getElem_toArray, List.getElem_cons_succ, List.getElem_cons_zero, List.setIfInBounds_toArray, List.set_cons_zero, List.set_cons_succ])
      refine wpAnyH_ready (rs := [14]) (by kernel_rfl) (by simp) ?_
      refine AllReadyH.cons rfl (fun K hK => ?_) AllReadyH.nil
      go_simp
      refine hK.out _ _ trivial (fun _ => ?_)
      clear hK K
      (try simp only [Act.put, List.getElem_toArray, List.getElem_cons_succ, List.getElem_cons_zero, List.setIfInBounds_toArray, List.set_cons_zero, List.set_cons_succ])
      refine wpAnyH_done (by kernel_rfl) ?_ _
      go_wp2
      go_end0
      exact went_end HBx.out HOv.out HvS.out HvB2.out HK4.out HK5.out HO5.out HAt5.out HB5.out
    · refine step_append_lies _ (by rfl) (.tmp 12) (.tmp 13) 59 (by rfl) 0 9 i0 _ 1 16 Tryz.underlying59 hi0 hz0 hz1 hz2 rfl (by decide) (.slice (some ⟨w.heap.size, 0, none⟩) 1 1) 1 [.string kw] (by rfl) (own_one w (.string kw) rfl) ⟨b, o, none⟩ n ca (strs3 args) (by rfl) (by unfold strs3; rw [List.length_map, HN.out, Nat.mul_one]) (sa_news HA1.out) (strs_one args) hn0 (by unfold maxLen; omega) (by omega) (Nat.zero_le _) (w.heap.size + 1) (by simp) ?_
      intro g2 cap2 w2 ho2 hg2 hat2 hlt2
      have HO2 := Lib.hid ho2
      have HK2 : Hid (Below w.heap.size w w2) := ((Below.refl w.heap.size w).alloc (Nat.le_refl _) (.cells #[.string kw] 9)).drew.grown hg2 (by simp) (fun k e => by
        have e2 : w.heap.size = k := by simpa [Value.ownBlock] using e
        omega)
      have c2 : w2.cell? ⟨B, 0, none⟩ = some v := by rw [HK2.out.cell (by exact hBl)]; exact hcB
      clear ho2 hg2 hat2 hlt2
      refine hK.out _ _ trivial (fun _ => ?_)
      clear hK K
      (try simp only [Act.put, List.getElem_toArray, List.getElem_cons_succ, List.getElem_cons_zero, List.setIfInBounds_toArray, List.set_cons_zero, List.set_cons_succ])
      refine wpAnyH_ready (rs := [4, 9]) (by kernel_rfl) (by simp) ?_
      refine AllReadyH.cons rfl (fun K hK => ?_) (AllReadyH.cons rfl (fun K hK => ?_) AllReadyH.nil)
      · go_simp
        refine hK.out _ _ trivial (fun _ => ?_)
        clear hK K
        (try simp only [Act.put, List.getElem_toArray, List.getElem_cons_succ, List.getElem_cons_zero, List.setIfInBounds_toArray, List.set_cons_zero, List.set_cons_succ])
        refine wpAnyH_ready (rs := [9]) (by kernel_rfl) (by simp) ?_
        refine AllReadyH.cons rfl (fun K hK => ?_) AllReadyH.nil
        go_simp
        go_at_call 103
        refine (HJ.out _ _ (own_sa (xs := kw.data.toList :: args) HO2.out (by rw [List.length_cons, HN.out]; omega))).mono ?_
        rintro e w3 ⟨rfl, hb3⟩
        have HK3 := Lib.hid (HK2.out.trans (hb3.mono HK2.out.size))
        have c3 : w3.cell? ⟨B, 0, none⟩ = some v := by rw [HK3.out.cell (by exact hBl)]; exact hcB
        clear hb3
        refine hK.out _ _ trivial (fun _ => ?_)
        clear hK K
        (try simp only [Act.put, List.getElem_toArray, List.getElem_cons_succ, List.getElem_cons_zero, List.setIfInBounds_toArray, List.set_cons_zero, List.set_cons_succ])
        refine wpAnyH_ready (rs := [10]) (by kernel_rfl) (by simp) ?_
        refine AllReadyH.cons rfl (fun K hK => ?_) AllReadyH.nil
        go_simp
        have HK4 : Hid (Below w.heap.size w (w3.alloc (.cells #[.string J] 9))) := HK3.out.alloc HK3.out.size _
        have c4 : (w3.alloc (.cells #[.string J] 9)).cell? ⟨B, 0, none⟩ = some v := by rw [HK4.out.cell (by exact hBl)]; exact hcB
        refine hK.out _ _ trivial (fun _ => ?_)
        clear hK K
        (try simp only [Act.put, List.getElem_toArray, List.getElem_cons_succ, List.getElem_cons_zero, List.setIfInBounds_toArray, List.set_cons_zero, List.set_cons_succ])
        refine wpAnyH_ready (rs := [11]) (by kernel_rfl) (by simp) ?_
        refine AllReadyH.cons rfl (fun K hK => ?_) AllReadyH.nil
        refine step_append_lies _ (by rfl) (.tmp 10) (.tmp 16) 59 (by rfl) 0 9 i0 _ 1 16 Tryz.underlying59 hi0 hz0 hz1 hz2 rfl (by decide) v ls.length (strs3 ls) (by rfl) ((ownsRow_next HOv.out HK3.out).alloc _) ⟨w3.heap.size, 0, none⟩ 1 1 [.string J] (by rfl) rfl (fun j u hu => new_cells w3 [.string J] 9 j u hu) (by simp [Value.oneCell']) (by decide) (by unfold maxLen; omega) (by omega) (Nat.zero_le _) (w3.heap.size + 1) (by simp) ?_
        intro g5 cap5 w5 ho5 hg5 hat5 hlt5
        have HK5 : Hid (Keep (fun b => v.ownBlock = some b) (w3.alloc (.cells #[.string J] 9)) w5) := (Keep.refl _ _).grown hg5 (fun k e _ => e)
        have HO5 := Lib.hid ho5
        have HAt5 : Hid (v.ownBlock = some g5 ∨ w.heap.size ≤ g5) := hat5.imp id (fun e => by have := HK3.out.size; omega)
        have hb5 : w5.heap[B]? = some (.cells #[v] 97 (0, 0)) := (HK5.out.block B (by have := HK4.out.size; omega) HvB.out).trans ((HK4.out.block B hBl).trans HBx.out)
        have HB5 := Lib.hid hb5
        have f5 := frozen_of_row w5 B 0 _ _ hb5
        have c5 : w5.cell? ⟨B, 0, none⟩ = some v := cell_of_row w5 B 0 _ _ _ hb5
        clear ho5 hg5 hat5 hlt5 hb5
        refine hK.out _ _ trivial (fun _ => ?_)
        clear hK K
        (try simp only [Act.put, List.getElem_toArray, List.getElem_cons_succ, List.getElem_cons_zero, List.setIfInBounds_toArray, List.set_cons_zero, List.set_cons_succ])
        refine wpAnyH_take (i := 12) (v := ?z3v12) rfl (by kernel_rfl) (by kernel_rfl) (by kernel_rfl) (fun _ _ _ h => h) (Or.inl ⟨by rfl, ?z3y12⟩) (by assumption) ?z3r12
        case z3y12 =>
          intro wx hSw
          clear hSw
          go_simp
          first | done | (with_reducible rfl)
        (try simp only [Act.put, List.getElem_toArray, List.getElem_cons_succ, List.getElem_cons_zero, List.setIfInBounds_toArray, List.set_cons_zero, List.set_cons_succ])
        refine wpAnyH_take (i := 13) (v := ?z3v13) rfl (by kernel_rfl) (by kernel_rfl) (by kernel_rfl) (fun _ _ _ h => h) (Or.inl ⟨by rfl, ?z3y13⟩) (by assumption) ?z3r13
        case z3y13 =>
          intro wx hSw
          clear hSw
          go_simp
          first | done | (with_reducible rfl)
        (try simp only [Act.put, List.getElem_toArray, List.getElem_cons_succ, List.getElem_cons_zero, List.setIfInBounds_toArray, List.set_cons_zero, List.set_cons_succ])
        refine wpAnyH_ready (rs := [14]) (by kernel_rfl) (by simp) ?_
        refine AllReadyH.cons rfl (fun K hK => ?_) AllReadyH.nil
        go_simp
        refine hK.out _ _ trivial (fun _ => ?_)
        clear hK K
        (try simp only [Act.put, List.getElem_toArray, List.getElem_cons_succ, List.getElem_cons_zero, List.setIfInBounds_toArray, List.set_cons_zero, List.set_cons_succ])
        refine wpAnyH_done (by kernel_rfl) ?_ _
        go_wp2
        go_end0
        exact went_end HBx.out HOv.out HvS.out HvB2.out HK4.out HK5.out HO5.out HAt5.out HB5.out
      · go_simp
        go_at_call 103
        refine (HJ.out _ _ (own_sa (xs := kw.data.toList :: args) HO2.out (by rw [List.length_cons, HN.out]; omega))).mono ?_
        rintro e w3 ⟨rfl, hb3⟩
        have HK3 := Lib.hid (HK2.out.trans (hb3.mono HK2.out.size))
        have c3 : w3.cell? ⟨B, 0, none⟩ = some v := by rw [HK3.out.cell (by exact hBl)]; exact hcB
        clear hb3
        refine hK.out _ _ trivial (fun _ => ?_)
        clear hK K
        (try simp only [Act.put, List.getElem_toArray, List.getElem_cons_succ, List.getElem_cons_zero, List.setIfInBounds_toArray, List.set_cons_zero, List.set_cons_succ])
        refine wpAnyH_ready (rs := [4, 10]) (by kernel_rfl) (by simp) ?_
        refine AllReadyH.cons rfl (fun K hK => ?_) (AllReadyH.cons rfl (fun K hK => ?_) AllReadyH.nil)
        · go_simp
          refine hK.out _ _ trivial (fun _ => ?_)
          clear hK K
          (try simp only [Act.put, List.getElem_toArray, List.getElem_cons_succ, List.getElem_cons_zero, List.setIfInBounds_toArray, List.set_cons_zero, List.set_cons_succ])
          refine wpAnyH_ready (rs := [10]) (by kernel_rfl) (by simp) ?_
          refine AllReadyH.cons rfl (fun K hK => ?_) AllReadyH.nil
          go_simp
          have HK4 : Hid (Below w.heap.size w (w3.alloc (.cells #[.string J] 9))) := HK3.out.alloc HK3.out.size _
          have c4 : (w3.alloc (.cells #[.string J] 9)).cell? ⟨B, 0, none⟩ = some v := by rw [HK4.out.cell (by exact hBl)]; exact hcB
          refine hK.out _ _ trivial (fun _ => ?_)
          clear hK K
          (try simp only [Act.put, List.getElem_toArray, List.getElem_cons_succ, List.getElem_cons_zero, List.setIfInBounds_toArray, List.set_cons_zero, List.set_cons_succ])
          refine wpAnyH_ready (rs := [11]) (by kernel_rfl) (by simp) ?_
          refine AllReadyH.cons rfl (fun K hK => ?_) AllReadyH.nil
          refine step_append_lies _ (by rfl) (.tmp 10) (.tmp 16) 59 (by rfl) 0 9 i0 _ 1 16 Tryz.underlying59 hi0 hz0 hz1 hz2 rfl (by decide) v ls.length (strs3 ls) (by rfl) ((ownsRow_next HOv.out HK3.out).alloc _) ⟨w3.heap.size, 0, none⟩ 1 1 [.string J] (by rfl) rfl (fun j u hu => new_cells w3 [.string J] 9 j u hu) (by simp [Value.oneCell']) (by decide) (by unfold maxLen; omega) (by omega) (Nat.zero_le _) (w3.heap.size + 1) (by simp) ?_
          intro g5 cap5 w5 ho5 hg5 hat5 hlt5
          have HK5 : Hid (Keep (fun b => v.ownBlock = some b) (w3.alloc (.cells #[.string J] 9)) w5) := (Keep.refl _ _).grown hg5 (fun k e _ => e)
          have HO5 := Lib.hid ho5
          have HAt5 : Hid (v.ownBlock = some g5 ∨ w.heap.size ≤ g5) := hat5.imp id (fun e => by have := HK3.out.size; omega)
          have hb5 : w5.heap[B]? = some (.cells #[v] 97 (0, 0)) := (HK5.out.block B (by have := HK4.out.size; omega) HvB.out).trans ((HK4.out.block B hBl).trans HBx.out)
          have HB5 := Lib.hid hb5
          have f5 := frozen_of_row w5 B 0 _ _ hb5
          have c5 : w5.cell? ⟨B, 0, none⟩ = some v := cell_of_row w5 B 0 _ _ _ hb5
          clear ho5 hg5 hat5 hlt5 hb5
          refine hK.out _ _ trivial (fun _ => ?_)
          clear hK K
          (try simp only [Act.put, List.getElem_toArray, List.getElem_cons_succ, List.getElem_cons_zero, List.setIfInBounds_toArray, List.set_cons_zero, List.set_cons_succ])
          refine wpAnyH_take (i := 12) (v := ?z4v12) rfl (by kernel_rfl) (by kernel_rfl) (by kernel_rfl) (fun _ _ _ h => h) (Or.inl ⟨by rfl, ?z4y12⟩) (by assumption) ?z4r12
          case z4y12 =>
            intro wx hSw
            clear hSw
            go_simp
            first | done | (with_reducible rfl)
          (try simp only [Act.put, List.getElem_toArray, List.getElem_cons_succ, List.getElem_cons_zero, List.setIfInBounds_toArray, List.set_cons_zero, List.set_cons_succ])
          refine wpAnyH_take (i := 13) (v := ?z4v13) rfl (by kernel_rfl) (by kernel_rfl) (by kernel_rfl) (fun _ _ _ h => h) (Or.inl ⟨by rfl, ?z4y13⟩) (by assumption) ?z4r13
          case z4y13 =>
            intro wx hSw
            clear hSw
            go_simp
            first | done | (with_reducible rfl)
          (try simp only [Act.put, List.getElem_toArray, List.getElem_cons_succ, List.getElem_cons_zero, List.setIfInBounds_toArray, List.set_cons_zero, List.set_cons_succ])
          refine wpAnyH_ready (rs := [14]) (by kernel_rfl) (by simp) ?_
          refine AllReadyH.cons rfl (fun K hK => ?_) AllReadyH.nil
          go_simp
          refine hK.out _ _ trivial (fun _ => ?_)
          clear hK K
          (try simp only [Act.put, List.getElem_toArray, List.getElem_cons_succ, List.getElem_cons_zero, List.setIfInBounds_toArray, List.set_cons_zero, List.set_cons_succ])
          refine wpAnyH_done (by kernel_rfl) ?_ _
          go_wp2
          go_end0
          exact went_end HBx.out HOv.out HvS.out HvB2.out HK4.out HK5.out HO5.out HAt5.out HB5.out
        · go_simp
          have HK4 : Hid (Below w.heap.size w (w3.alloc (.cells #[.string J] 9))) := HK3.out.alloc HK3.out.size _
          have c4 : (w3.alloc (.cells #[.string J] 9)).cell? ⟨B, 0, none⟩ = some v := by rw [HK4.out.cell (by exact hBl)]; exact hcB
          refine hK.out _ _ trivial (fun _ => ?_)
          clear hK K
          (try simp only [Act.put, List.getElem_toArray, List.getElem_cons_succ, List.getElem_cons_zero, List.setIfInBounds_toArray, List.set_cons_zero, List.set_cons_succ])
          refine wpAnyH_ready (rs := [4]) (by kernel_rfl) (by simp) ?_
          refine AllReadyH.cons rfl (fun K hK => ?_) AllReadyH.nil
          go_simp
          refine hK.out _ _ trivial (fun _ => ?_)
          clear hK K
          (try simp only [Act.put, List.getElem_toArray, List.getElem_cons_succ, List.getElem_cons_zero, List.setIfInBounds_toArray, List.set_cons_zero, List.set_cons_succ])
          refine wpAnyH_ready (rs := [11]) (by kernel_rfl) (by simp) ?_
          refine AllReadyH.cons rfl (fun K hK => ?_) AllReadyH.nil
          refine step_append_lies _ (by rfl) (.tmp 10) (.tmp 16) 59 (by rfl) 0 9 i0 _ 1 16 Tryz.underlying59 hi0 hz0 hz1 hz2 rfl (by decide) v ls.length (strs3 ls) (by rfl) ((ownsRow_next HOv.out HK3.out).alloc _) ⟨w3.heap.size, 0, none⟩ 1 1 [.string J] (by rfl) rfl (fun j u hu => new_cells w3 [.string J] 9 j u hu) (by simp [Value.oneCell']) (by decide) (by unfold maxLen; omega) (by omega) (Nat.zero_le _) (w3.heap.size + 1) (by simp) ?_
          intro g5 cap5 w5 ho5 hg5 hat5 hlt5
          have HK5 : Hid (Keep (fun b => v.ownBlock = some b) (w3.alloc (.cells #[.string J] 9)) w5) := (Keep.refl _ _).grown hg5 (fun k e _ => e)
          have HO5 := Lib.hid ho5
          have HAt5 : Hid (v.ownBlock = some g5 ∨ w.heap.size ≤ g5) := hat5.imp id (fun e => by have := HK3.out.size; omega)
          have hb5 : w5.heap[B]? = some (.cells #[v] 97 (0, 0)) := (HK5.out.block B (by have := HK4.out.size; omega) HvB.out).trans ((HK4.out.block B hBl).trans HBx.out)
          have HB5 := Lib.hid hb5
          have f5 := frozen_of_row w5 B 0 _ _ hb5
          have c5 : w5.cell? ⟨B, 0, none⟩ = some v := cell_of_row w5 B 0 _ _ _ hb5
          clear ho5 hg5 hat5 hlt5 hb5
          refine hK.out _ _ trivial (fun _ => ?_)
          clear hK K
          (try simp only [Act.put, List.getElem_toArray, List.getElem_cons_succ, List.getElem_cons_zero, List.setIfInBounds_toArray, List.set_cons_zero, List.set_cons_succ])
          refine wpAnyH_take (i := 12) (v := ?z5v12) rfl (by kernel_rfl) (by kernel_rfl) (by kernel_rfl) (fun _ _ _ h => h) (Or.inl ⟨by rfl, ?z5y12⟩) (by assumption) ?z5r12
          case z5y12 =>
            intro wx hSw
            clear hSw
            go_simp
            first | done | (with_reducible rfl)
          (try simp only [Act.put, List.getElem_toArray, List.getElem_cons_succ, List.getElem_cons_zero, List.setIfInBounds_toArray, List.set_cons_zero, List.set_cons_succ])
          refine wpAnyH_take (i := 13) (v := ?z5v13) rfl (by kernel_rfl) (by kernel_rfl) (by kernel_rfl) (fun _ _ _ h => h) (Or.inl ⟨by rfl, ?z5y13⟩) (by assumption) ?z5r13
          case z5y13 =>
            intro wx hSw
            clear hSw
            go_simp
            first | done | (with_reducible rfl)
          (try simp only [Act.put, List.getElem_toArray, List.getElem_cons_succ, List.getElem_cons_zero, List.setIfInBounds_toArray, List.set_cons_zero, List.set_cons_succ])
          refine wpAnyH_ready (rs := [14]) (by kernel_rfl) (by simp) ?_
          refine AllReadyH.cons rfl (fun K hK => ?_) AllReadyH.nil
          go_simp
          refine hK.out _ _ trivial (fun _ => ?_)
          clear hK K
          (try simp only [Act.put, List.getElem_toArray, List.getElem_cons_succ, List.getElem_cons_zero, List.setIfInBounds_toArray, List.set_cons_zero, List.set_cons_succ])
          refine wpAnyH_done (by kernel_rfl) ?_ _
          go_wp2
          go_end0
          exact went_end HBx.out HOv.out HvS.out HvB2.out HK4.out HK5.out HO5.out HAt5.out HB5.out
end Go.Proofs.YticfhbffoajgcaaGreatDoor
/- The writer's weights and forms where nothing differs. (Written by gen_ltsame.py.) -/
set_option linter.unusedVariables false
set_option maxRecDepth 100000
namespace Go.Proofs.YticfhbffoajgcaaGreatDoor
open Go.RowKit

set_option maxHeartbeats 4000000 in
theorem weights_same (B : Nat) (f : Nat → Int) (W1 W2 : Value) (w : World) (h1 : SL 1 256 (fun j _ => .int .i64 (f j)) w W1) (h2 : SL 1 256 (fun j _ => .int .i64 (f j)) w W2) :
    Calls Tryz.prog 59 #[.pointer (some ⟨B, 0, none⟩), W1, W2] w fun e w' => e = .returned (.tuple #[]) ∧ Below w.heap.size w w' := by
  obtain ⟨a1, c1, rfl, _, k1⟩ := h1
  obtain ⟨a2, c2, rfl, _, k2⟩ := h2
  rcases k1 with h0 | ⟨b1, o1, rfl, l1, k1⟩
  · omega
  rcases k2 with h0 | ⟨b2, o2, rfl, l2, k2⟩
  · omega
  have K1 := Lib.hid k1
  have K2 := Lib.hid k2
  have hmm := @run_makeMap Tryz.prog
  clear k1 k2
  go_enter Tryz.func59, Tryz.ntmps59
  go_wp2
  go_loopw [7, 15] (fun o0 i wr => ∃ k : Nat, k ≤ 256 ∧ o0 = .slice none 0 0 ∧ i = .int .i64 k ∧ Hid (Below w.heap.size w wr)) (fun _ i _ => 256 - (intOf i).toNat)
  case atStart => exact ⟨0, Nat.zero_le _, rfl, rfl, (Below.refl _ _).alloc (Nat.le_refl _) _⟩
  case round =>
    obtain ⟨k, hk, rfl, rfl, HB⟩ := hrel
    by_cases hkn : k < 256
    · have ki : (k : Int) < 256 := by omega
      have ki0 : (0 : Int) ≤ k := by omega
      have x1 : wr.cell? ⟨b1, o1 + k, none⟩ = some (.int .i64 (f k)) := by
        rw [HB.out.cell (by exact l1)]
        have := K1.out k 0 hkn (by decide)
        simpa using this
      have x2 : wr.cell? ⟨b2, o2 + k, none⟩ = some (.int .i64 (f k)) := by
        rw [HB.out.cell (by exact l2)]
        have := K2.out k 0 hkn (by decide)
        simpa using this
      generalize f k = X at x1 x2
      go_wp2
      go_roundw
      case rel => exact ⟨k + 1, by omega, rfl, by go_num, HB.out⟩
      case measure => simp [intOf]; omega
    · obtain rfl : k = 256 := by omega
      rename World => wA
      go_wp2
      go_loopw [46] (fun i wr => i = .int .i64 0 ∧ wr = wA) (fun _ _ => 0)
      case atStart => exact ⟨rfl, rfl⟩
      case round =>
        obtain ⟨rfl, rfl⟩ := hrel
        go_wp2
        go_end0
        exact ⟨rfl, HB.out⟩
set_option maxHeartbeats 4000000 in
theorem forms_same (B : Nat) (kw T : ByteArray) (hT : T.size ≤ 1000) (w : World) :
    Calls Tryz.prog 60 #[.pointer (some ⟨B, 0, none⟩), .string kw, .string T, .string T] w fun e w' => e = .returned (.tuple #[]) ∧ Below w.heap.size w w' := by
  have hTi : (T.size : Int) ≤ 1000 := by omega
  go_enter Tryz.func60, Tryz.ntmps60
  go_wp2
  go_loopw [11] (fun i wr => ∃ k : Nat, k ≤ T.size ∧ i = .int .i64 k ∧ Hid (Below w.heap.size w wr)) (fun i _ => T.size - (intOf i).toNat)
  case atStart => exact ⟨0, Nat.zero_le _, rfl, Below.refl _ _⟩
  case round =>
    obtain ⟨k, hk, rfl, HB⟩ := hrel
    by_cases hkn : k < T.size
    · have ki : (k : Int) < T.size := by omega
      have ki0 : (0 : Int) ≤ k := by omega
      obtain ⟨c, hc⟩ : ∃ c, (T[k]'hkn).toNat = c := ⟨_, rfl⟩
      have hcc : ((c : Int) != (c : Int)) = false := by simp
      go_wp2
      refine wp_region_held_drew (S := fun _ => True) (by kernel_rfl) ?_ (fun hHeld => ?_)
      · exact trivial
      refine wpAnyH_take (i := 0) (v := ?av0) rfl (by kernel_rfl) (by kernel_rfl) (by kernel_rfl) (fun _ _ _ h => h) (Or.inl ⟨by rfl, ?ay0⟩) (by assumption) ?ar0
      case ay0 =>
        intro wx hSw
        clear hSw
        go_simp
        first | done | (with_reducible rfl)
      (try simp only [Act.put, List.getElem_toArray, List.getElem_cons_zero, List.setIfInBounds_toArray, List.set_cons_zero, List.set_cons_succ])
      refine wpAnyH_take (i := 1) (v := ?av1) rfl (by kernel_rfl) (by kernel_rfl) (by kernel_rfl) (fun _ _ _ h => h) (Or.inl ⟨by rfl, ?ay1⟩) (by assumption) ?ar1
      case ay1 =>
        intro wx hSw
        clear hSw
        go_simp
        first | done | (with_reducible rfl)
      (try simp only [Act.put, List.getElem_toArray, List.getElem_cons_succ, List.getElem_cons_zero, List.setIfInBounds_toArray, List.set_cons_zero, List.set_cons_succ])
      refine wpAnyH_take (i := 2) (v := ?av2) rfl (by kernel_rfl) (by kernel_rfl) (by kernel_rfl) (fun _ _ _ h => h) (Or.inl ⟨by rfl, ?ay2⟩) (by assumption) ?ar2
      case ay2 =>
        intro wx hSw
        clear hSw
        go_simp
        first | done | (with_reducible rfl)
      (try simp only [Act.put, List.getElem_toArray, List.getElem_cons_succ, List.getElem_cons_zero, List.setIfInBounds_toArray, List.set_cons_zero, List.set_cons_succ])
      refine wpAnyH_take (i := 3) (v := ?av3) rfl (by kernel_rfl) (by kernel_rfl) (by kernel_rfl) (fun _ _ _ h => h) (Or.inl ⟨by rfl, ?ay3⟩) (by assumption) ?ar3
      case ay3 =>
        intro wx hSw
        clear hSw
        go_simp
        first | done | (with_reducible rfl)
      (try simp only [Act.put, List.getElem_toArray, List.getElem_cons_succ, List.getElem_cons_zero, List.setIfInBounds_toArray, List.set_cons_zero, List.set_cons_succ])
      refine wpAnyH_take (i := 4) (v := ?av4) rfl (by kernel_rfl) (by kernel_rfl) (by kernel_rfl) (fun _ _ _ h => h) (Or.inl ⟨by rfl, ?ay4⟩) (by assumption) ?ar4
      case ay4 =>
        intro wx hSw
        clear hSw
        go_simp
        first | done | (with_reducible rfl)
      (try simp only [Act.put, List.getElem_toArray, List.getElem_cons_succ, List.getElem_cons_zero, List.setIfInBounds_toArray, List.set_cons_zero, List.set_cons_succ])
      refine wpAnyH_take (i := 5) (v := ?av5) rfl (by kernel_rfl) (by kernel_rfl) (by kernel_rfl) (fun _ _ _ h => h) (Or.inl ⟨by rfl, ?ay5⟩) (by assumption) ?ar5
      case ay5 =>
        intro wx hSw
        clear hSw
        go_simp
        first | done | (with_reducible rfl)
      (try simp only [Act.put, List.getElem_toArray, List.getElem_cons_succ, List.getElem_cons_zero, List.setIfInBounds_toArray, List.set_cons_zero, List.set_cons_succ])
      refine wpAnyH_take (i := 6) (v := ?av6) rfl (by kernel_rfl) (by kernel_rfl) (by kernel_rfl) (fun _ _ _ h => h) (Or.inl ⟨by rfl, ?ay6⟩) (by assumption) ?ar6
      case ay6 =>
        intro wx hSw
        clear hSw
        go_simp
        first | done | (with_reducible rfl)
      (try simp only [Act.put, List.getElem_toArray, List.getElem_cons_succ, List.getElem_cons_zero, List.setIfInBounds_toArray, List.set_cons_zero, List.set_cons_succ])
      refine wpAnyH_done (by kernel_rfl) ?_ _
      go_wp2
      go_roundw
      case rel => exact ⟨k + 1, by omega, by go_num, HB.out.drew⟩
      case measure => simp [intOf]; omega
    · obtain rfl : k = T.size := by omega
      go_wp2
      go_end0
      exact ⟨rfl, HB.out⟩
end Go.Proofs.YticfhbffoajgcaaGreatDoor
/- The maximal ranges of a set: successive and rangesOf. (Written by gen_ltrng.py.) -/
set_option linter.unusedVariables false
set_option maxRecDepth 100000
namespace Go.Proofs.YticfhbffoajgcaaGreatDoor
open Go.RowKit

theorem succL_end (l : List UInt8) (k : Nat) (h : k + 1 = l.length) : succL (l.drop k) = 1 := by
  have : (l.drop k).length = 1 := by rw [List.length_drop]; omega
  obtain ⟨a, ha⟩ := List.length_eq_one_iff.1 this
  rw [ha]; rfl
theorem succL_step (l : List UInt8) (k : Nat) (h : k + 1 < l.length) : succL (l.drop k) = if l[k + 1] = l[k] + 1 then succL (l.drop (k + 1)) + 1 else 1 := by
  rw [List.drop_eq_getElem_cons (by omega : k < l.length), List.drop_eq_getElem_cons h]
  rfl
theorem succL_pos (l : List UInt8) (h : 0 < l.length) : 1 ≤ succL l ∧ succL l ≤ l.length := by
  induction l with
  | nil => cases h
  | cons a r ih =>
    cases r with
    | nil => exact ⟨Nat.le_refl _, Nat.le_refl _⟩
    | cons b r =>
      have := ih (by simp)
      unfold succL
      split
      · simp only [List.length_cons] at this ⊢; omega
      · simp
/-- The text of a range. -/
def rgOne (l : List UInt8) : List UInt8 := if succL l = 1 then fmB (l.headD 0).toNat else fmB (l.headD 0).toNat ++ [45] ++ fmB (l.getD (succL l - 1) 0).toNat
def rgs : Nat → List UInt8 → List (List UInt8)
  | 0, _ => []
  | n + 1, l => if l = [] then [] else rgOne l :: rgs n (l.drop (succL l))
theorem rgs_fuel (n m : Nat) (l : List UInt8) (hn : l.length ≤ n) (hm : l.length ≤ m) : rgs n l = rgs m l := by
  induction n generalizing m l with
  | zero =>
    have : l = [] := List.eq_nil_of_length_eq_zero (by omega)
    subst this
    cases m <;> simp [rgs]
  | succ n ih =>
    cases m with
    | zero =>
      have : l = [] := List.eq_nil_of_length_eq_zero (by omega)
      subst this
      simp [rgs]
    | succ m =>
      unfold rgs
      by_cases hl : l = []
      · rw [if_pos hl, if_pos hl]
      · rw [if_neg hl, if_neg hl]
        have hp := succL_pos l (List.length_pos_iff.2 hl)
        rw [ih m _ (by rw [List.length_drop]; omega) (by rw [List.length_drop]; omega)]
/-- The ranges of an ascending list. -/
def rgT (l : List UInt8) : List (List UInt8) := rgs l.length l
theorem rgT_nil : rgT [] = [] := rfl
theorem rgT_cons (l : List UInt8) (h : l ≠ []) : rgT l = rgOne l :: rgT (l.drop (succL l)) := by
  have hp := succL_pos l (List.length_pos_iff.2 h)
  unfold rgT
  rw [show l.length = (l.length - 1) + 1 by omega]
  simp only [rgs]
  rw [if_neg h]
  rw [rgs_fuel (l.length - 1) (l.drop (succL l)).length _ (by rw [List.length_drop]; omega) (Nat.le_refl _)]
theorem rgT_len (l : List UInt8) : (rgT l).length ≤ l.length := by
  obtain ⟨n, hn⟩ : ∃ n, l.length = n := ⟨_, rfl⟩
  induction n using Nat.strongRecOn generalizing l with
  | ind n ih =>
    by_cases h : l = []
    · subst h; exact Nat.le_refl _
    · have hp := succL_pos l (List.length_pos_iff.2 h)
      rw [rgT_cons l h, List.length_cons]
      have := ih (l.drop (succL l)).length (by rw [List.length_drop]; omega) (l.drop (succL l)) rfl
      rw [List.length_drop] at this
      omega
set_option maxHeartbeats 4000000 in
theorem successive_any (s : ByteArray) (hs0 : 0 < s.size) (hs : s.size ≤ 1000) (w : World) : Calls Tryz.prog 105 #[.string s] w fun e w' => e = .returned (.int .i64 (succL s.data.toList : Nat)) ∧ Below w.heap.size w w' := by
  obtain ⟨R, hR⟩ : ∃ R, succL s.data.toList = R := ⟨_, rfl⟩
  rw [hR]
  have HR := Lib.hid hR
  have hsi : (s.size : Int) ≤ 1000 := by omega
  clear hR
  go_enter Tryz.func105, Tryz.ntmps105
  go_wp2
  go_loopw [3] (fun i wr => ∃ k : Nat, k + 1 ≤ s.size ∧ i = .int .i64 ((k + 1 : Nat) : Int) ∧ Hid (R = k + succL (s.data.toList.drop k)) ∧ Hid (Below w.heap.size w wr)) (fun i _ => s.size - (intOf i).toNat)
  case atStart => exact ⟨0, by omega, rfl, by show R = 0 + succL s.data.toList; rw [HR.out, Nat.zero_add], Below.refl _ _⟩
  case round =>
    obtain ⟨k1, hk, rfl, HK, HB⟩ := hrel
    obtain ⟨k, hkk⟩ : ∃ k, k = k1 + 1 := ⟨_, rfl⟩
    rw [← hkk]
    have hw1 : IntKind.i64.wrap ((k : Int) - 1) = (k1 : Int) := by rw [IntWalk.i64_in _ (by omega)]; omega
    have k0 : (0 : Int) ≤ k := by omega
    have k10 : (0 : Int) ≤ k1 := by omega
    by_cases hlt : k < s.size
    · have hki : (k : Int) < s.size := by omega
      have hk1i : (k1 : Int) < s.size := by omega
      have hk1 : k1 < s.size := by omega
      have hst := succL_step s.data.toList k1 (by simp; omega)
      obtain ⟨a, ha⟩ : ∃ a, (s[k1]'hk1).toNat = a := ⟨_, rfl⟩
      obtain ⟨b, hb⟩ : ∃ b, (s[k]'hlt).toNat = b := ⟨_, rfl⟩
      obtain ⟨a1, ha1⟩ : ∃ a1, a1 = (a + 1) % 256 := ⟨_, rfl⟩
      have hla : a < 256 := by rw [← ha]; exact (s[k1]'hk1).toNat_lt
      have hwa : IntKind.u8.wrap ((a : Int) + 1) = (a1 : Int) := by
        subst ha1
        show ((a : Int) + 1) % 256 = _
        omega
      have hiff : (s.data.toList[k1 + 1]'(by simp; omega) = s.data.toList[k1]'(by simp; omega) + 1) ↔ b = a1 := by
        subst hkk
        rw [← UInt8.toNat_inj, UInt8.toNat_add]
        have e1 : (s.data.toList[k1 + 1]'(by simp; omega)).toNat = b := hb
        have e2 : (s.data.toList[k1]'(by simp; omega)).toNat = a := ha
        rw [e1, e2]
        show b = (a + 1) % 256 ↔ _
        rw [ha1]
      have hd1 : decide (k < s.size) = true := by simpa using hlt
      have HKk := Lib.hid hkk
      by_cases he : b = a1
      · rw [if_pos (hiff.2 he)] at hst
        have HSt := Lib.hid hst
        have hD : ((b : Int) == (a1 : Int)) = true := by rw [he]; simp
        have hD2 : (b == a1) = true := by simpa using he
        clear hst hiff ha1 he hkk
        go_wp2
        refine wp_region_held_drew (S := fun _ => True) (by kernel_rfl) ?_ (fun hHeld => ?_)
        · exact trivial
        refine wpAnyH_take (i := 0) (v := ?av0) rfl (by kernel_rfl) (by kernel_rfl) (by kernel_rfl) (fun _ _ _ h => h) (Or.inl ⟨by rfl, ?ay0⟩) (by assumption) ?ar0
        case ay0 =>
          intro wx hSw
          clear hSw
          go_simp
          first | done | (with_reducible rfl)
        (try simp only [Act.put, List.getElem_toArray, List.getElem_cons_zero, List.setIfInBounds_toArray, List.set_cons_zero, List.set_cons_succ])
        refine wpAnyH_take (i := 1) (v := ?av1) rfl (by kernel_rfl) (by kernel_rfl) (by kernel_rfl) (fun _ _ _ h => h) (Or.inl ⟨by rfl, ?ay1⟩) (by assumption) ?ar1
        case ay1 =>
          intro wx hSw
          clear hSw
          go_simp
          first | done | (with_reducible rfl)
        (try simp only [Act.put, List.getElem_toArray, List.getElem_cons_succ, List.getElem_cons_zero, List.setIfInBounds_toArray, List.set_cons_zero, List.set_cons_succ])
        refine wpAnyH_take (i := 2) (v := ?av2) rfl (by kernel_rfl) (by kernel_rfl) (by kernel_rfl) (fun _ _ _ h => h) (Or.inl ⟨by rfl, ?ay2⟩) (by assumption) ?ar2
        case ay2 =>
          intro wx hSw
          clear hSw
          go_simp
          first | done | (with_reducible rfl)
        (try simp only [Act.put, List.getElem_toArray, List.getElem_cons_succ, List.getElem_cons_zero, List.setIfInBounds_toArray, List.set_cons_zero, List.set_cons_succ])
        refine wpAnyH_take (i := 3) (v := ?av3) rfl (by kernel_rfl) (by kernel_rfl) (by kernel_rfl) (fun _ _ _ h => h) (Or.inl ⟨by rfl, ?ay3⟩) (by assumption) ?ar3
        case ay3 =>
          intro wx hSw
          clear hSw
          go_simp
          first | done | (with_reducible rfl)
        (try simp only [Act.put, List.getElem_toArray, List.getElem_cons_succ, List.getElem_cons_zero, List.setIfInBounds_toArray, List.set_cons_zero, List.set_cons_succ])
        refine wpAnyH_take (i := 4) (v := ?av4) rfl (by kernel_rfl) (by kernel_rfl) (by kernel_rfl) (fun _ _ _ h => h) (Or.inl ⟨by rfl, ?ay4⟩) (by assumption) ?ar4
        case ay4 =>
          intro wx hSw
          clear hSw
          go_simp
          first | done | (with_reducible rfl)
        (try simp only [Act.put, List.getElem_toArray, List.getElem_cons_succ, List.getElem_cons_zero, List.setIfInBounds_toArray, List.set_cons_zero, List.set_cons_succ])
        refine wpAnyH_take (i := 5) (v := ?av5) rfl (by kernel_rfl) (by kernel_rfl) (by kernel_rfl) (fun _ _ _ h => h) (Or.inl ⟨by rfl, ?ay5⟩) (by assumption) ?ar5
        case ay5 =>
          intro wx hSw
          clear hSw
          go_simp
          first | done | (with_reducible rfl)
        (try simp only [Act.put, List.getElem_toArray, List.getElem_cons_succ, List.getElem_cons_zero, List.setIfInBounds_toArray, List.set_cons_zero, List.set_cons_succ])
        refine wpAnyH_take (i := 6) (v := ?av6) rfl (by kernel_rfl) (by kernel_rfl) (by kernel_rfl) (fun _ _ _ h => h) (Or.inl ⟨by rfl, ?ay6⟩) (by assumption) ?ar6
        case ay6 =>
          intro wx hSw
          clear hSw
          go_simp
          first | done | (with_reducible rfl)
        (try simp only [Act.put, List.getElem_toArray, List.getElem_cons_succ, List.getElem_cons_zero, List.setIfInBounds_toArray, List.set_cons_zero, List.set_cons_succ])
        refine wpAnyH_take (i := 7) (v := ?av7) rfl (by kernel_rfl) (by kernel_rfl) (by kernel_rfl) (fun _ _ _ h => h) (Or.inl ⟨by rfl, ?ay7⟩) (by assumption) ?ar7
        case ay7 =>
          intro wx hSw
          clear hSw
          go_simp
          first | done | (with_reducible rfl)
        (try simp only [Act.put, List.getElem_toArray, List.getElem_cons_succ, List.getElem_cons_zero, List.setIfInBounds_toArray, List.set_cons_zero, List.set_cons_succ])
        refine wpAnyH_take (i := 8) (v := ?av8) rfl (by kernel_rfl) (by kernel_rfl) (by kernel_rfl) (fun _ _ _ h => h) (Or.inl ⟨by rfl, ?ay8⟩) (by assumption) ?ar8
        case ay8 =>
          intro wx hSw
          clear hSw
          go_simp
          first | done | (with_reducible rfl)
        (try simp only [Act.put, List.getElem_toArray, List.getElem_cons_succ, List.getElem_cons_zero, List.setIfInBounds_toArray, List.set_cons_zero, List.set_cons_succ])
        refine wpAnyH_take (i := 9) (v := ?av9) rfl (by kernel_rfl) (by kernel_rfl) (by kernel_rfl) (fun _ _ _ h => h) (Or.inl ⟨by rfl, ?ay9⟩) (by assumption) ?ar9
        case ay9 =>
          intro wx hSw
          clear hSw
          go_simp
          first | done | (with_reducible rfl)
        (try simp only [Act.put, List.getElem_toArray, List.getElem_cons_succ, List.getElem_cons_zero, List.setIfInBounds_toArray, List.set_cons_zero, List.set_cons_succ])
        refine wpAnyH_take (i := 10) (v := ?av10) rfl (by kernel_rfl) (by kernel_rfl) (by kernel_rfl) (fun _ _ _ h => h) (Or.inl ⟨by rfl, ?ay10⟩) (by assumption) ?ar10
        case ay10 =>
          intro wx hSw
          clear hSw
          go_simp
          first | done | (with_reducible rfl)
        (try simp only [Act.put, List.getElem_toArray, List.getElem_cons_succ, List.getElem_cons_zero, List.setIfInBounds_toArray, List.set_cons_zero, List.set_cons_succ])
        refine wpAnyH_take (i := 11) (v := ?av11) rfl (by kernel_rfl) (by kernel_rfl) (by kernel_rfl) (fun _ _ _ h => h) (Or.inl ⟨by rfl, ?ay11⟩) (by assumption) ?ar11
        case ay11 =>
          intro wx hSw
          clear hSw
          go_simp
          first | done | (with_reducible rfl)
        (try simp only [Act.put, List.getElem_toArray, List.getElem_cons_succ, List.getElem_cons_zero, List.setIfInBounds_toArray, List.set_cons_zero, List.set_cons_succ])
        refine wpAnyH_take (i := 12) (v := ?av12) rfl (by kernel_rfl) (by kernel_rfl) (by kernel_rfl) (fun _ _ _ h => h) (Or.inl ⟨by rfl, ?ay12⟩) (by assumption) ?ar12
        case ay12 =>
          intro wx hSw
          clear hSw
          go_simp
          first | done | (with_reducible rfl)
        (try simp only [Act.put, List.getElem_toArray, List.getElem_cons_succ, List.getElem_cons_zero, List.setIfInBounds_toArray, List.set_cons_zero, List.set_cons_succ])
        refine wpAnyH_take (i := 13) (v := ?av13) rfl (by kernel_rfl) (by kernel_rfl) (by kernel_rfl) (fun _ _ _ h => h) (Or.inl ⟨by rfl, ?ay13⟩) (by assumption) ?ar13
        case ay13 =>
          intro wx hSw
          clear hSw
          go_simp
          first | done | (with_reducible rfl)
        (try simp only [Act.put, List.getElem_toArray, List.getElem_cons_succ, List.getElem_cons_zero, List.setIfInBounds_toArray, List.set_cons_zero, List.set_cons_succ])
        refine wpAnyH_take (i := 14) (v := ?av14) rfl (by kernel_rfl) (by kernel_rfl) (by kernel_rfl) (fun _ _ _ h => h) (Or.inl ⟨by rfl, ?ay14⟩) (by assumption) ?ar14
        case ay14 =>
          intro wx hSw
          clear hSw
          go_simp
          first | done | (with_reducible rfl)
        (try simp only [Act.put, List.getElem_toArray, List.getElem_cons_succ, List.getElem_cons_zero, List.setIfInBounds_toArray, List.set_cons_zero, List.set_cons_succ])
        refine wpAnyH_done (by kernel_rfl) ?_ _
        go_wp2
        go_roundw
        case rel => exact ⟨k, by omega, by go_num, by show R = k + _; rw [HK.out, HSt.out, HKk.out]; omega, HB.out.drew⟩
        case measure => simp [intOf]; omega
      · rw [if_neg (fun h => he (hiff.1 h))] at hst
        have HSt := Lib.hid hst
        have hD : ((b : Int) == (a1 : Int)) = false := by simp; omega
        have hD2 : (b == a1) = false := by simpa using he
        clear hst hiff ha1 he hkk
        go_wp2
        refine wp_region_held_drew (S := fun _ => True) (by kernel_rfl) ?_ (fun hHeld => ?_)
        · exact trivial
        refine wpAnyH_take (i := 0) (v := ?bv0) rfl (by kernel_rfl) (by kernel_rfl) (by kernel_rfl) (fun _ _ _ h => h) (Or.inl ⟨by rfl, ?by0⟩) (by assumption) ?br0
        case by0 =>
          intro wx hSw
          clear hSw
          go_simp
          first | done | (with_reducible rfl)
        (try simp only [Act.put, List.getElem_toArray, List.getElem_cons_zero, List.setIfInBounds_toArray, List.set_cons_zero, List.set_cons_succ])
        refine wpAnyH_take (i := 1) (v := ?bv1) rfl (by kernel_rfl) (by kernel_rfl) (by kernel_rfl) (fun _ _ _ h => h) (Or.inl ⟨by rfl, ?by1⟩) (by assumption) ?br1
        case by1 =>
          intro wx hSw
          clear hSw
          go_simp
          first | done | (with_reducible rfl)
        (try simp only [Act.put, List.getElem_toArray, List.getElem_cons_succ, List.getElem_cons_zero, List.setIfInBounds_toArray, List.set_cons_zero, List.set_cons_succ])
        refine wpAnyH_take (i := 2) (v := ?bv2) rfl (by kernel_rfl) (by kernel_rfl) (by kernel_rfl) (fun _ _ _ h => h) (Or.inl ⟨by rfl, ?by2⟩) (by assumption) ?br2
        case by2 =>
          intro wx hSw
          clear hSw
          go_simp
          first | done | (with_reducible rfl)
        (try simp only [Act.put, List.getElem_toArray, List.getElem_cons_succ, List.getElem_cons_zero, List.setIfInBounds_toArray, List.set_cons_zero, List.set_cons_succ])
        refine wpAnyH_take (i := 3) (v := ?bv3) rfl (by kernel_rfl) (by kernel_rfl) (by kernel_rfl) (fun _ _ _ h => h) (Or.inl ⟨by rfl, ?by3⟩) (by assumption) ?br3
        case by3 =>
          intro wx hSw
          clear hSw
          go_simp
          first | done | (with_reducible rfl)
        (try simp only [Act.put, List.getElem_toArray, List.getElem_cons_succ, List.getElem_cons_zero, List.setIfInBounds_toArray, List.set_cons_zero, List.set_cons_succ])
        refine wpAnyH_take (i := 4) (v := ?bv4) rfl (by kernel_rfl) (by kernel_rfl) (by kernel_rfl) (fun _ _ _ h => h) (Or.inl ⟨by rfl, ?by4⟩) (by assumption) ?br4
        case by4 =>
          intro wx hSw
          clear hSw
          go_simp
          first | done | (with_reducible rfl)
        (try simp only [Act.put, List.getElem_toArray, List.getElem_cons_succ, List.getElem_cons_zero, List.setIfInBounds_toArray, List.set_cons_zero, List.set_cons_succ])
        refine wpAnyH_take (i := 5) (v := ?bv5) rfl (by kernel_rfl) (by kernel_rfl) (by kernel_rfl) (fun _ _ _ h => h) (Or.inl ⟨by rfl, ?by5⟩) (by assumption) ?br5
        case by5 =>
          intro wx hSw
          clear hSw
          go_simp
          first | done | (with_reducible rfl)
        (try simp only [Act.put, List.getElem_toArray, List.getElem_cons_succ, List.getElem_cons_zero, List.setIfInBounds_toArray, List.set_cons_zero, List.set_cons_succ])
        refine wpAnyH_take (i := 6) (v := ?bv6) rfl (by kernel_rfl) (by kernel_rfl) (by kernel_rfl) (fun _ _ _ h => h) (Or.inl ⟨by rfl, ?by6⟩) (by assumption) ?br6
        case by6 =>
          intro wx hSw
          clear hSw
          go_simp
          first | done | (with_reducible rfl)
        (try simp only [Act.put, List.getElem_toArray, List.getElem_cons_succ, List.getElem_cons_zero, List.setIfInBounds_toArray, List.set_cons_zero, List.set_cons_succ])
        refine wpAnyH_take (i := 7) (v := ?bv7) rfl (by kernel_rfl) (by kernel_rfl) (by kernel_rfl) (fun _ _ _ h => h) (Or.inl ⟨by rfl, ?by7⟩) (by assumption) ?br7
        case by7 =>
          intro wx hSw
          clear hSw
          go_simp
          first | done | (with_reducible rfl)
        (try simp only [Act.put, List.getElem_toArray, List.getElem_cons_succ, List.getElem_cons_zero, List.setIfInBounds_toArray, List.set_cons_zero, List.set_cons_succ])
        refine wpAnyH_take (i := 8) (v := ?bv8) rfl (by kernel_rfl) (by kernel_rfl) (by kernel_rfl) (fun _ _ _ h => h) (Or.inl ⟨by rfl, ?by8⟩) (by assumption) ?br8
        case by8 =>
          intro wx hSw
          clear hSw
          go_simp
          first | done | (with_reducible rfl)
        (try simp only [Act.put, List.getElem_toArray, List.getElem_cons_succ, List.getElem_cons_zero, List.setIfInBounds_toArray, List.set_cons_zero, List.set_cons_succ])
        refine wpAnyH_take (i := 9) (v := ?bv9) rfl (by kernel_rfl) (by kernel_rfl) (by kernel_rfl) (fun _ _ _ h => h) (Or.inl ⟨by rfl, ?by9⟩) (by assumption) ?br9
        case by9 =>
          intro wx hSw
          clear hSw
          go_simp
          first | done | (with_reducible rfl)
        (try simp only [Act.put, List.getElem_toArray, List.getElem_cons_succ, List.getElem_cons_zero, List.setIfInBounds_toArray, List.set_cons_zero, List.set_cons_succ])
        refine wpAnyH_take (i := 10) (v := ?bv10) rfl (by kernel_rfl) (by kernel_rfl) (by kernel_rfl) (fun _ _ _ h => h) (Or.inl ⟨by rfl, ?by10⟩) (by assumption) ?br10
        case by10 =>
          intro wx hSw
          clear hSw
          go_simp
          first | done | (with_reducible rfl)
        (try simp only [Act.put, List.getElem_toArray, List.getElem_cons_succ, List.getElem_cons_zero, List.setIfInBounds_toArray, List.set_cons_zero, List.set_cons_succ])
        refine wpAnyH_take (i := 11) (v := ?bv11) rfl (by kernel_rfl) (by kernel_rfl) (by kernel_rfl) (fun _ _ _ h => h) (Or.inl ⟨by rfl, ?by11⟩) (by assumption) ?br11
        case by11 =>
          intro wx hSw
          clear hSw
          go_simp
          first | done | (with_reducible rfl)
        (try simp only [Act.put, List.getElem_toArray, List.getElem_cons_succ, List.getElem_cons_zero, List.setIfInBounds_toArray, List.set_cons_zero, List.set_cons_succ])
        refine wpAnyH_take (i := 12) (v := ?bv12) rfl (by kernel_rfl) (by kernel_rfl) (by kernel_rfl) (fun _ _ _ h => h) (Or.inl ⟨by rfl, ?by12⟩) (by assumption) ?br12
        case by12 =>
          intro wx hSw
          clear hSw
          go_simp
          first | done | (with_reducible rfl)
        (try simp only [Act.put, List.getElem_toArray, List.getElem_cons_succ, List.getElem_cons_zero, List.setIfInBounds_toArray, List.set_cons_zero, List.set_cons_succ])
        refine wpAnyH_take (i := 13) (v := ?bv13) rfl (by kernel_rfl) (by kernel_rfl) (by kernel_rfl) (fun _ _ _ h => h) (Or.inl ⟨by rfl, ?by13⟩) (by assumption) ?br13
        case by13 =>
          intro wx hSw
          clear hSw
          go_simp
          first | done | (with_reducible rfl)
        (try simp only [Act.put, List.getElem_toArray, List.getElem_cons_succ, List.getElem_cons_zero, List.setIfInBounds_toArray, List.set_cons_zero, List.set_cons_succ])
        refine wpAnyH_take (i := 14) (v := ?bv14) rfl (by kernel_rfl) (by kernel_rfl) (by kernel_rfl) (fun _ _ _ h => h) (Or.inl ⟨by rfl, ?by14⟩) (by assumption) ?br14
        case by14 =>
          intro wx hSw
          clear hSw
          go_simp
          first | done | (with_reducible rfl)
        (try simp only [Act.put, List.getElem_toArray, List.getElem_cons_succ, List.getElem_cons_zero, List.setIfInBounds_toArray, List.set_cons_zero, List.set_cons_succ])
        refine wpAnyH_done (by kernel_rfl) ?_ _
        go_wp2
        go_ret
        exact ⟨ret_int (by rw [HK.out, HSt.out, HKk.out]), HB.out.drew⟩
    · have hst := succL_end s.data.toList k1 (by simp; omega)
      have HSt := Lib.hid hst
      have hd1 : decide (k < s.size) = false := by simpa using hlt
      have hd2 : decide ((k : Int) < s.size) = false := by simp; omega
      have HKk := Lib.hid hkk
      clear hst hkk
      go_wp2
      refine wp_region_held_drew (S := fun _ => True) (by kernel_rfl) ?_ (fun hHeld => ?_)
      · exact trivial
      refine wpAnyH_take (i := 0) (v := ?cv0) rfl (by kernel_rfl) (by kernel_rfl) (by kernel_rfl) (fun _ _ _ h => h) (Or.inl ⟨by rfl, ?cy0⟩) (by assumption) ?cr0
      case cy0 =>
        intro wx hSw
        clear hSw
        go_simp
        first | done | (with_reducible rfl)
      (try simp only [Act.put, List.getElem_toArray, List.getElem_cons_zero, List.setIfInBounds_toArray, List.set_cons_zero, List.set_cons_succ])
      refine wpAnyH_take (i := 1) (v := ?cv1) rfl (by kernel_rfl) (by kernel_rfl) (by kernel_rfl) (fun _ _ _ h => h) (Or.inl ⟨by rfl, ?cy1⟩) (by assumption) ?cr1
      case cy1 =>
        intro wx hSw
        clear hSw
        go_simp
        first | done | (with_reducible rfl)
      (try simp only [Act.put, List.getElem_toArray, List.getElem_cons_succ, List.getElem_cons_zero, List.setIfInBounds_toArray, List.set_cons_zero, List.set_cons_succ])
      refine wpAnyH_take (i := 2) (v := ?cv2) rfl (by kernel_rfl) (by kernel_rfl) (by kernel_rfl) (fun _ _ _ h => h) (Or.inl ⟨by rfl, ?cy2⟩) (by assumption) ?cr2
      case cy2 =>
        intro wx hSw
        clear hSw
        go_simp
        first | done | (with_reducible rfl)
      (try simp only [Act.put, List.getElem_toArray, List.getElem_cons_succ, List.getElem_cons_zero, List.setIfInBounds_toArray, List.set_cons_zero, List.set_cons_succ])
      refine wpAnyH_take (i := 3) (v := ?cv3) rfl (by kernel_rfl) (by kernel_rfl) (by kernel_rfl) (fun _ _ _ h => h) (Or.inl ⟨by rfl, ?cy3⟩) (by assumption) ?cr3
      case cy3 =>
        intro wx hSw
        clear hSw
        go_simp
        first | done | (with_reducible rfl)
      (try simp only [Act.put, List.getElem_toArray, List.getElem_cons_succ, List.getElem_cons_zero, List.setIfInBounds_toArray, List.set_cons_zero, List.set_cons_succ])
      refine wpAnyH_take (i := 4) (v := ?cv4) rfl (by kernel_rfl) (by kernel_rfl) (by kernel_rfl) (fun _ _ _ h => h) (Or.inl ⟨by rfl, ?cy4⟩) (by assumption) ?cr4
      case cy4 =>
        intro wx hSw
        clear hSw
        go_simp
        first | done | (with_reducible rfl)
      (try simp only [Act.put, List.getElem_toArray, List.getElem_cons_succ, List.getElem_cons_zero, List.setIfInBounds_toArray, List.set_cons_zero, List.set_cons_succ])
      refine wpAnyH_take (i := 5) (v := undef) rfl (by kernel_rfl) (by kernel_rfl) (by kernel_rfl) (fun _ _ _ h => h) (Or.inr ⟨by rfl, rfl⟩) (by assumption) ?cr5
      (try simp only [Act.put, List.getElem_toArray, List.getElem_cons_succ, List.getElem_cons_zero, List.setIfInBounds_toArray, List.set_cons_zero, List.set_cons_succ])
      refine wpAnyH_take (i := 6) (v := undef) rfl (by kernel_rfl) (by kernel_rfl) (by kernel_rfl) (fun _ _ _ h => h) (Or.inr ⟨by rfl, rfl⟩) (by assumption) ?cr6
      (try simp only [Act.put, List.getElem_toArray, List.getElem_cons_succ, List.getElem_cons_zero, List.setIfInBounds_toArray, List.set_cons_zero, List.set_cons_succ])
      refine wpAnyH_take (i := 7) (v := undef) rfl (by kernel_rfl) (by kernel_rfl) (by kernel_rfl) (fun _ _ _ h => h) (Or.inr ⟨by rfl, rfl⟩) (by assumption) ?cr7
      (try simp only [Act.put, List.getElem_toArray, List.getElem_cons_succ, List.getElem_cons_zero, List.setIfInBounds_toArray, List.set_cons_zero, List.set_cons_succ])
      refine wpAnyH_take (i := 8) (v := undef) rfl (by kernel_rfl) (by kernel_rfl) (by kernel_rfl) (fun _ _ _ h => h) (Or.inr ⟨by rfl, rfl⟩) (by assumption) ?cr8
      (try simp only [Act.put, List.getElem_toArray, List.getElem_cons_succ, List.getElem_cons_zero, List.setIfInBounds_toArray, List.set_cons_zero, List.set_cons_succ])
      refine wpAnyH_take (i := 9) (v := undef) rfl (by kernel_rfl) (by kernel_rfl) (by kernel_rfl) (fun _ _ _ h => h) (Or.inr ⟨by rfl, rfl⟩) (by assumption) ?cr9
      (try simp only [Act.put, List.getElem_toArray, List.getElem_cons_succ, List.getElem_cons_zero, List.setIfInBounds_toArray, List.set_cons_zero, List.set_cons_succ])
      refine wpAnyH_take (i := 10) (v := undef) rfl (by kernel_rfl) (by kernel_rfl) (by kernel_rfl) (fun _ _ _ h => h) (Or.inr ⟨by rfl, rfl⟩) (by assumption) ?cr10
      (try simp only [Act.put, List.getElem_toArray, List.getElem_cons_succ, List.getElem_cons_zero, List.setIfInBounds_toArray, List.set_cons_zero, List.set_cons_succ])
      refine wpAnyH_take (i := 11) (v := undef) rfl (by kernel_rfl) (by kernel_rfl) (by kernel_rfl) (fun _ _ _ h => h) (Or.inr ⟨by rfl, rfl⟩) (by assumption) ?cr11
      (try simp only [Act.put, List.getElem_toArray, List.getElem_cons_succ, List.getElem_cons_zero, List.setIfInBounds_toArray, List.set_cons_zero, List.set_cons_succ])
      refine wpAnyH_take (i := 12) (v := undef) rfl (by kernel_rfl) (by kernel_rfl) (by kernel_rfl) (fun _ _ _ h => h) (Or.inr ⟨by rfl, rfl⟩) (by assumption) ?cr12
      (try simp only [Act.put, List.getElem_toArray, List.getElem_cons_succ, List.getElem_cons_zero, List.setIfInBounds_toArray, List.set_cons_zero, List.set_cons_succ])
      refine wpAnyH_take (i := 13) (v := undef) rfl (by kernel_rfl) (by kernel_rfl) (by kernel_rfl) (fun _ _ _ h => h) (Or.inr ⟨by rfl, rfl⟩) (by assumption) ?cr13
      (try simp only [Act.put, List.getElem_toArray, List.getElem_cons_succ, List.getElem_cons_zero, List.setIfInBounds_toArray, List.set_cons_zero, List.set_cons_succ])
      refine wpAnyH_take (i := 14) (v := ?cv14) rfl (by kernel_rfl) (by kernel_rfl) (by kernel_rfl) (fun _ _ _ h => h) (Or.inl ⟨by rfl, ?cy14⟩) (by assumption) ?cr14
      case cy14 =>
        intro wx hSw
        clear hSw
        go_simp
        first | done | (with_reducible rfl)
      (try simp only [Act.put, List.getElem_toArray, List.getElem_cons_succ, List.getElem_cons_zero, List.setIfInBounds_toArray, List.set_cons_zero, List.set_cons_succ])
      refine wpAnyH_done (by kernel_rfl) ?_ _
      go_wp2
      go_ret
      exact ⟨ret_int (by rw [HK.out, HSt.out, HKk.out]), HB.out.drew⟩
theorem head0 (D : List UInt8) (h : 0 < D.length) : (D[0]'h).toNat = (D.headD 0).toNat := by
  cases D with
  | nil => cases h
  | cons x t => rfl
theorem getD_at (D : List UInt8) (k : Nat) (h : k < D.length) : (D[k]'h).toNat = (D.getD k 0).toNat := by
  rw [List.getD_eq_getElem?_getD, List.getElem?_eq_getElem h]; rfl
theorem own_nextB {w w' : World} {B n : Nat} {v : Value} {xs : List Value} (h : w.ownsRow B 9 1 v n xs) (hb : Below w.heap.size w w') : w'.ownsRow B 9 1 v n xs := own_same h fun g _ hg => hb.block g hg
theorem fmB_size (c : Nat) (hc : c ≤ 1000000) : (mk (fmB c)).size ≤ 40 := fmtS_size (c : Int) (by unfold fits; omega)
def strLen : Value → Nat
  | .string s => s.size
  | _ => 0
theorem rgT_drop (l : List UInt8) (j : Nat) (h : j < l.length) : rgT (l.drop j) = rgOne (l.drop j) :: rgT (l.drop (j + succL (l.drop j))) := by
  have hne : l.drop j ≠ [] := fun e => by
    have := congrArg List.length e
    rw [List.length_drop] at this
    simp at this
    omega
  rw [rgT_cons _ hne, List.drop_drop]
set_option maxHeartbeats 16000000 in
theorem rangesOf_any (p : Nat → Bool) (w : World) (hT : tabAt w) : Calls Tryz.prog 61 #[cs p] w fun e w' => ∃ v, e = .returned v ∧ w'.ownsRow w.heap.size 9 1 v (rgT (bl (el p 256))).length (strs3 (rgT (bl (el p 256)))) ∧ Below w.heap.size w w' := by
  have HB : Hid (Below w.heap.size w (w.alloc (.cells (cl p) 37))) := (Below.refl _ _).alloc (Nat.le_refl _) _
  have HA : Hid (At (w.alloc (.cells (cl p) 37)) w.heap.size p) := At.new w p
  have HL := Lib.hid (fun w hT => list_any p w hT)
  have HT : Hid (tabAt (w.alloc (.cells (cl p) 37))) := tab_keep hT ((Below.refl _ _).alloc (Nat.le_refl _) _)
  have hlen : (bl (el p 256)).length ≤ 256 := by rw [bl_length]; exact el_length_le p 256
  obtain ⟨l, hl⟩ : ∃ l, bl (el p 256) = l := ⟨_, rfl⟩
  have HL2 : Hid (∀ w, tabAt w → Calls Tryz.prog 104 #[cs p] w fun e w' => e = .returned (.string (mk l)) ∧ Below w.heap.size w w') := fun w hT => by
    rw [← hl]
    exact HL.out w hT
  rw [hl] at hlen ⊢
  obtain ⟨i0, hi0, hz0, hz1, hz2⟩ := info_parts infoSt
  obtain ⟨⟨u0, u1⟩, ⟨u2, u3⟩, u4⟩ := HA.out.words
  have Hlen := Lib.hid hlen
  unfold cs cl at *
  clear hT hl hlen HL
  go_enter Tryz.func61, Tryz.ntmps61
  go_wp2_with (first
    | (go_at_call 104
       refine (HL2.out _ HT.out).mono ?_
       rintro e w1 ⟨rfl, hb⟩
       have HB1 := Lib.hid (HB.out.trans (hb.mono HB.out.size))
       clear hb))
  go_loopw [3, 4] (fun v0 s0 wr => ∃ (j m : Nat) (v : Value), v = v0 ∧ s0 = .string (mk (l.drop j)) ∧ m ≤ j ∧ j ≤ l.length ∧ Hid (∃ done, m = done.length ∧ rgT l = done ++ rgT (l.drop j) ∧ wr.ownsRow w.heap.size 9 1 v m (strs3 done) ∧ Below w.heap.size w wr)) (fun _ s0 _ => strLen s0)
  case atStart => exact ⟨0, 0, _, rfl, rfl, Nat.le_refl _, Nat.zero_le _, [], rfl, rfl, World.ownsRow_nil _ _ _ _, HB1.out⟩
  case round =>
    obtain ⟨j, m, v, rfl, rfl, hmj, hjl, HR⟩ := hrel
    have hl256 := Hlen.out
    by_cases hlt : j < l.length
    · obtain ⟨done, hm, hrg, hov, hbl⟩ := HR.out
      have hsz : (mk (l.drop j)).size = l.length - j := by rw [mk_size, List.length_drop]
      have hp := succL_pos (l.drop j) (by rw [List.length_drop]; omega)
      have hrd := rgT_drop l j hlt
      have HS := Lib.hid (fun w => successive_any (mk (l.drop j)) (by omega) (by omega) w)
      rw [mk_data] at HS
      obtain ⟨q, hq⟩ : ∃ q, succL (l.drop j) = q := ⟨_, rfl⟩
      rw [hq] at HS hp hrd
      rw [List.length_drop] at hp
      obtain ⟨a, ha⟩ : ∃ a, ((l.drop j).headD 0).toNat = a := ⟨_, rfl⟩
      have hpos : 0 < (mk (l.drop j)).size := by omega
      have ha0 : ((mk (l.drop j))[0]'hpos).toNat = a := by
        rw [← ha]
        exact head0 (l.drop j) (by rw [List.length_drop]; omega)
      have hal : a < 256 := by rw [← ha]; exact UInt8.toNat_lt _
      have Ha := Lib.hid ha
      have HBa := Lib.hid (fun w => byteText_any a hal w)
      have hdrop : (mk (l.drop j)).extract q (mk (l.drop j)).size = mk (l.drop (j + q)) := by rw [ext_drop, mk_data, List.drop_drop]
      have hq0 : (0 : Int) ≤ q := by omega
      have hqs : (q : Int) ≤ (mk (l.drop j)).size := by omega
      have hqn : q ≤ (mk (l.drop j)).size := by omega
      have hpi : (0 : Int) < (mk (l.drop j)).size := by omega
      have hnemp : (mk (l.drop j)).toList.isEmpty = false := by
        rw [toList_mk, List.drop_eq_getElem_cons hlt]; rfl
      have Hov := Lib.hid hov
      have Hbl := Lib.hid hbl
      have Hrg := Lib.hid hrg
      have Hm := Lib.hid hm
      have Hrd := Lib.hid hrd
      have Hq := Lib.hid hq
      have hnn : (!(mk (l.drop j)).toList.isEmpty) = true := by rw [hnemp]; rfl
      have hss : j + q ≤ l.length := by omega
      have Hmeas : Hid ((mk (l.drop (j + q))).size < (mk (l.drop j)).size) := by
        show _ < _
        rw [mk_size, mk_size, List.length_drop, List.length_drop]; omega
      clear ha hov hbl hrg hm hrd hq
      by_cases hone : q = 1
      · have hqe : ((q : Int) == 1) = true := by rw [hone]; simp
        have hqe2 : (q == 1) = true := by rw [hone]; simp
        have Hone := Lib.hid hone
        generalize mk (l.drop j) = X at *
        have hrx : rgOne (l.drop j) = fmB a := by unfold rgOne; rw [Hq.out, if_pos Hone.out, Ha.out]
        have Hrx := Lib.hid hrx
        obtain ⟨T1, hT1⟩ : ∃ T1, mk (fmB a) = T1 := ⟨_, rfl⟩
        rw [hT1] at HBa
        have HT1 := Lib.hid hT1
        clear hone hsz hrx hT1
        go_wp2_with (first
          | (go_at_call 105
             refine (HS.out _).mono ?_
             rintro e w2 ⟨rfl, hb⟩
             have HO2 := Lib.hid (own_nextB Hov.out hb)
             have HB2 := Lib.hid (Hbl.out.trans (hb.mono Hbl.out.size))
             clear hb)
          | (go_at_call 62
             refine (HBa.out _).mono ?_
             rintro e w3 ⟨rfl, hb⟩
             have HO3 := Lib.hid (own_nextB HO2.out hb)
             have HB3 := Lib.hid (HB2.out.trans (hb.mono HB2.out.size))
             clear hb)
          | (at_builtin; refine app_lit 59 9 (.string ⟨#[]⟩) 16 Tryz.underlying59 infoSt rfl w3 rfl (.tmp 14) (.tmp 18) rfl w.heap.size v _ _ (strs3 done) [.string T1] rfl rfl HO3.out rfl rfl ?c1 ?c2 ?c3 ?c4 ?_))
        case c1 => simp [Value.oneCell']
        case c2 => exact HB3.out.size
        case c3 => unfold maxLen; omega
        case c4 => omega
        intro v' w5 hown' hb'
        have HO5 := Lib.hid hown'
        have HB5 := Lib.hid (hb' w HB3.out)
        clear hown' hb'
        go_wp2
        go_roundw
        case rel =>
          refine ⟨j + q, m + 1, _, rfl, rfl, by omega, hss, done ++ [rgOne (l.drop j)], by rw [List.length_append, ← Hm.out]; rfl, ?_, ?_, HB5.out⟩
          · rw [Hrg.out, Hrd.out, List.append_assoc]; rfl
          · have e : strs3 (done ++ [rgOne (l.drop j)]) = strs3 done ++ [.string T1] := by rw [strs_app, Hrx.out, ← HT1.out]; rfl
            rw [e]
            exact HO5.out
        case measure => exact Hmeas.out
      · have hqe : ((q : Int) == 1) = false := by simp; omega
        have hqe2 : (q == 1) = false := by simpa using hone
        obtain ⟨q1, hq1⟩ : ∃ q1, q1 = q - 1 := ⟨_, rfl⟩
        have hqw : IntKind.i64.wrap ((q : Int) - 1) = (q1 : Int) := by rw [IntWalk.i64_in _ (by omega)]; omega
        obtain ⟨c, hc⟩ : ∃ c, ((l.drop j).getD q1 0).toNat = c := ⟨_, rfl⟩
        have hq1s : q1 < (mk (l.drop j)).size := by omega
        have hc0 : ((mk (l.drop j))[q1]'hq1s).toNat = c := by
          rw [← hc]
          exact getD_at (l.drop j) q1 (by rw [List.length_drop]; omega)
        have hcl : c < 256 := by rw [← hc]; exact UInt8.toNat_lt _
        have HBc := Lib.hid (fun w => byteText_any c hcl w)
        have hq1i : (q1 : Int) < (mk (l.drop j)).size := by omega
        have hq10 : (0 : Int) ≤ q1 := by omega
        have hrx : rgOne (l.drop j) = fmB a ++ [45] ++ fmB c := by unfold rgOne; rw [Hq.out, if_neg hone, Ha.out, ← hq1, hc]
        have Hrx := Lib.hid hrx
        have z1 := fmB_size a (by omega)
        have z2 := fmB_size c (by omega)
        have hcat : mk (fmB a) ++ ⟨#[45]⟩ ++ mk (fmB c) = mk (fmB a ++ [45] ++ fmB c) := by rw [← mk_append, ← mk_append]; rfl
        obtain ⟨T1, hT1⟩ : ∃ T1, mk (fmB a) = T1 := ⟨_, rfl⟩
        obtain ⟨T2, hT2⟩ : ∃ T2, mk (fmB c) = T2 := ⟨_, rfl⟩
        rw [hT1] at HBa z1 hcat
        rw [hT2] at HBc z2 hcat
        have z3 : (T1 ++ ⟨#[45]⟩).size ≤ 41 := by rw [ByteArray.size_append]; show T1.size + 1 ≤ 41; omega
        obtain ⟨T3, hT3⟩ : ∃ T3, T1 ++ (⟨#[45]⟩ : ByteArray) = T3 := ⟨_, rfl⟩
        rw [hT3] at hcat z3
        obtain ⟨T4, hT4⟩ : ∃ T4, T3 ++ T2 = T4 := ⟨_, rfl⟩
        rw [hT4] at hcat
        have HCat := Lib.hid hcat
        have k1 : ¬ 9223372036854775807 < T1.size + 1 := by omega
        have k2 : ¬ 9223372036854775807 < T3.size + T2.size := by omega
        generalize mk (l.drop j) = X at *
        clear hone hsz hrx hT1 hT2 hcat hq1 hc
        go_wp2_with (first
          | (go_at_call 105
             refine (HS.out _).mono ?_
             rintro e w2 ⟨rfl, hb⟩
             have HO2 := Lib.hid (own_nextB Hov.out hb)
             have HB2 := Lib.hid (Hbl.out.trans (hb.mono Hbl.out.size))
             clear hb))
        refine wp_region_held_drew (S := fun _ => True) (by kernel_rfl) ?_ (fun hHeld => ?_)
        · exact trivial
        refine wpAnyH_take (i := 0) (v := ?rv0) rfl (by kernel_rfl) (by kernel_rfl) (by kernel_rfl) (fun _ _ _ h => h) (Or.inl ⟨by rfl, ?ry0⟩) (by assumption) ?rr0
        case ry0 =>
          intro wx hSw
          clear hSw
          go_simp
          first | done | (with_reducible rfl)
        (try simp only [Act.put, List.getElem_toArray, List.getElem_cons_zero, List.setIfInBounds_toArray, List.set_cons_zero, List.set_cons_succ])
        refine wpAnyH_take (i := 1) (v := ?rv1) rfl (by kernel_rfl) (by kernel_rfl) (by kernel_rfl) (fun _ _ _ h => h) (Or.inl ⟨by rfl, ?ry1⟩) (by assumption) ?rr1
        case ry1 =>
          intro wx hSw
          clear hSw
          go_simp
          first | done | (with_reducible rfl)
        (try simp only [Act.put, List.getElem_toArray, List.getElem_cons_succ, List.getElem_cons_zero, List.setIfInBounds_toArray, List.set_cons_zero, List.set_cons_succ])
        refine wpAnyH_take (i := 2) (v := ?rv2) rfl (by kernel_rfl) (by kernel_rfl) (by kernel_rfl) (fun _ _ _ h => h) (Or.inl ⟨by rfl, ?ry2⟩) (by assumption) ?rr2
        case ry2 =>
          intro wx hSw
          clear hSw
          go_simp
          first | done | (with_reducible rfl)
        (try simp only [Act.put, List.getElem_toArray, List.getElem_cons_succ, List.getElem_cons_zero, List.setIfInBounds_toArray, List.set_cons_zero, List.set_cons_succ])
        refine wpAnyH_take (i := 5) (v := ?rv5) rfl (by kernel_rfl) (by kernel_rfl) (by kernel_rfl) (fun _ _ _ h => h) (Or.inl ⟨by rfl, ?ry5⟩) (by assumption) ?rr5
        case ry5 =>
          intro wx hSw
          clear hSw
          go_simp
          first | done | (with_reducible rfl)
        (try simp only [Act.put, List.getElem_toArray, List.getElem_cons_succ, List.getElem_cons_zero, List.setIfInBounds_toArray, List.set_cons_zero, List.set_cons_succ])
        refine wpAnyH_take (i := 6) (v := ?rv6) rfl (by kernel_rfl) (by kernel_rfl) (by kernel_rfl) (fun _ _ _ h => h) (Or.inl ⟨by rfl, ?ry6⟩) (by assumption) ?rr6
        case ry6 =>
          intro wx hSw
          clear hSw
          go_simp
          first | done | (with_reducible rfl)
        (try simp only [Act.put, List.getElem_toArray, List.getElem_cons_succ, List.getElem_cons_zero, List.setIfInBounds_toArray, List.set_cons_zero, List.set_cons_succ])
        refine wpAnyH_take (i := 7) (v := ?rv7) rfl (by kernel_rfl) (by kernel_rfl) (by kernel_rfl) (fun _ _ _ h => h) (Or.inl ⟨by rfl, ?ry7⟩) (by assumption) ?rr7
        case ry7 =>
          intro wx hSw
          clear hSw
          go_simp
          first | done | (with_reducible rfl)
        (try simp only [Act.put, List.getElem_toArray, List.getElem_cons_succ, List.getElem_cons_zero, List.setIfInBounds_toArray, List.set_cons_zero, List.set_cons_succ])
        refine wpAnyH_take (i := 8) (v := ?rv8) rfl (by kernel_rfl) (by kernel_rfl) (by kernel_rfl) (fun _ _ _ h => h) (Or.inl ⟨by rfl, ?ry8⟩) (by assumption) ?rr8
        case ry8 =>
          intro wx hSw
          clear hSw
          go_simp
          first | done | (with_reducible rfl)
        (try simp only [Act.put, List.getElem_toArray, List.getElem_cons_succ, List.getElem_cons_zero, List.setIfInBounds_toArray, List.set_cons_zero, List.set_cons_succ])
        refine wpAnyH_ready (rs := [3]) (by kernel_rfl) (by simp) ?_
        refine AllReadyH.cons rfl (fun K hK => ?_) AllReadyH.nil
        go_simp
        go_at_call 62
        refine (HBa.out _).mono ?_
        rintro e w3 ⟨rfl, hb⟩
        have HO3 := Lib.hid (own_nextB (own_nextB HO2.out (Below.refl _ _).drew) hb)
        have HB3 := Lib.hid (HB2.out.drew.trans (hb.mono HB2.out.size))
        clear hb
        refine hK.out _ _ trivial (fun _ => ?_)
        clear hK K
        (try simp only [Act.put, List.getElem_toArray, List.getElem_cons_succ, List.getElem_cons_zero, List.setIfInBounds_toArray, List.set_cons_zero, List.set_cons_succ])
        refine wpAnyH_take (i := 4) (v := ?sv4) rfl (by kernel_rfl) (by kernel_rfl) (by kernel_rfl) (fun _ _ _ h => h) (Or.inl ⟨by rfl, ?sy4⟩) (by assumption) ?sr4
        case sy4 =>
          intro wx hSw
          clear hSw
          go_simp
          first | done | (with_reducible rfl)
        (try simp only [Act.put, List.getElem_toArray, List.getElem_cons_succ, List.getElem_cons_zero, List.setIfInBounds_toArray, List.set_cons_zero, List.set_cons_succ])
        refine wpAnyH_ready (rs := [9]) (by kernel_rfl) (by simp) ?_
        refine AllReadyH.cons rfl (fun K hK => ?_) AllReadyH.nil
        go_simp
        go_at_call 62
        refine (HBc.out _).mono ?_
        rintro e w4 ⟨rfl, hb⟩
        have HO4 := Lib.hid (own_nextB HO3.out hb)
        have HB4 := Lib.hid (HB3.out.trans (hb.mono HB3.out.size))
        clear hb
        refine hK.out _ _ trivial (fun _ => ?_)
        clear hK K
        (try simp only [Act.put, List.getElem_toArray, List.getElem_cons_succ, List.getElem_cons_zero, List.setIfInBounds_toArray, List.set_cons_zero, List.set_cons_succ])
        refine wpAnyH_take (i := 10) (v := ?tv10) rfl (by kernel_rfl) (by kernel_rfl) (by kernel_rfl) (fun _ _ _ h => h) (Or.inl ⟨by rfl, ?ty10⟩) (by assumption) ?tr10
        case ty10 =>
          intro wx hSw
          clear hSw
          go_simp
          first | done | (with_reducible rfl)
        (try simp only [Act.put, List.getElem_toArray, List.getElem_cons_succ, List.getElem_cons_zero, List.setIfInBounds_toArray, List.set_cons_zero, List.set_cons_succ])
        refine wpAnyH_ready (rs := [11]) (by kernel_rfl) (by simp) ?_
        refine AllReadyH.cons rfl (fun K hK => ?_) AllReadyH.nil
        go_simp
        refine hK.out _ _ trivial (fun _ => ?_)
        clear hK K
        (try simp only [Act.put, List.getElem_toArray, List.getElem_cons_succ, List.getElem_cons_zero, List.setIfInBounds_toArray, List.set_cons_zero, List.set_cons_succ])
        refine wpAnyH_ready (rs := [12]) (by kernel_rfl) (by simp) ?_
        refine AllReadyH.cons rfl (fun K hK => ?_) AllReadyH.nil
        refine step_append_lies _ (by rfl) (.tmp 20) (.tmp 31) 59 (by rfl) w.heap.size 9 i0 _ 1 16 Tryz.underlying59 hi0 hz0 hz1 hz2 rfl (by decide) v m (strs3 done) (by rfl) (HO4.out.alloc _) ⟨w4.heap.size, 0, none⟩ 1 1 [.string T4] (by rfl) rfl (fun j u hu => new_cells w4 [.string T4] 9 j u hu) (by simp [Value.oneCell']) (by decide) (by unfold maxLen; omega) (by omega) (by have := HB4.out.size; simp; omega) (w4.heap.size + 1) (by simp) ?_
        intro g5 cap5 w5 ho5 hg5 hat5 hlt5
        have HO5 := Lib.hid ho5
        have HB5 : Hid (Below w.heap.size w w5) := (HB4.out.alloc HB4.out.size (.cells #[.string T4] 9)).grown hg5 (by have := HB4.out.size; simp; omega) (fun k e => (HO4.out.lt k e).1)
        clear ho5 hg5 hat5 hlt5
        refine hK.out _ _ trivial (fun _ => ?_)
        clear hK K
        (try simp only [Act.put, List.getElem_toArray, List.getElem_cons_succ, List.getElem_cons_zero, List.setIfInBounds_toArray, List.set_cons_zero, List.set_cons_succ])
        refine wpAnyH_take (i := 13) (v := ?uv13) rfl (by kernel_rfl) (by kernel_rfl) (by kernel_rfl) (fun _ _ _ h => h) (Or.inl ⟨by rfl, ?uy13⟩) (by assumption) ?ur13
        case uy13 =>
          intro wx hSw
          clear hSw
          go_simp
          first | done | (with_reducible rfl)
        (try simp only [Act.put, List.getElem_toArray, List.getElem_cons_succ, List.getElem_cons_zero, List.setIfInBounds_toArray, List.set_cons_zero, List.set_cons_succ])
        refine wpAnyH_done (by kernel_rfl) ?_ _
        go_wp2
        go_roundw
        case rel =>
          refine ⟨j + q, m + 1, _, rfl, rfl, by omega, hss, done ++ [rgOne (l.drop j)], by rw [List.length_append, ← Hm.out]; rfl, ?_, ?_, HB5.out⟩
          · rw [Hrg.out, Hrd.out, List.append_assoc]; rfl
          · have e : strs3 (done ++ [rgOne (l.drop j)]) = strs3 done ++ [.string T4] := by rw [strs_app, Hrx.out, HCat.out]; rfl
            rw [e]
            exact HO5.out
        case measure => exact Hmeas.out
    · obtain rfl : j = l.length := by omega
      obtain ⟨done, hm, hrg, hov, hbl⟩ := HR.out
      rw [List.drop_length, rgT_nil, List.append_nil] at hrg
      have hemp : (mk (l.drop l.length)) = ⟨#[]⟩ := by rw [List.drop_length]; rfl
      have Hov := Lib.hid hov
      have Hbl := Lib.hid hbl
      have Hrg := Lib.hid hrg
      have Hm := Lib.hid hm
      rw [hemp]
      clear hrg hm hov hbl hemp
      go_wp2
      go_ret
      rw [Hrg.out, ← Hm.out]
      exact ⟨_, rfl, Hov.out, Hbl.out⟩
end Go.Proofs.YticfhbffoajgcaaGreatDoor
/- Format of a locale that differs from the default one in its name and its classes. (Written by gen_ltfmt.py.) -/
set_option linter.unusedVariables false
set_option maxRecDepth 100000
namespace Go.Proofs.YticfhbffoajgcaaGreatDoor
open Go.RowKit

def clsRg (p : Nat → Bool) : List (List UInt8) := rgT (bl (el p 256))
/-- The line of a class. -/
def clsLine (c : List UInt8 × (Nat → Bool)) : List UInt8 := jw (kCls :: c.1 :: clsRg c.2)
def plainLines (L : PL) (k : Nat) : List (List UInt8) := jw [kLoc, L.name] :: (L.cls.take k).map clsLine
/-- The canonical text of such a locale. -/
def fmtP (L : PL) : List UInt8 := jn (plainLines L L.cls.length) true
theorem WS.cut {S : Nat → Prop} {w : World} {B : Nat} {ls : List (List UInt8)} (h : WS S w B ls) : WS (fun g => S g ∧ g < w.heap.size) w B ls := by
  obtain ⟨v, h1, h2, h3, h4⟩ := h
  exact ⟨v, h1, h2, fun g e => ⟨h3 g e, (h2.lt g e).2⟩, fun e => h4 e.1⟩
theorem ws_new (w : World) : WS (fun _ => False) (w.alloc (.cells #[.slice none 0 0] 97)) w.heap.size [] := ⟨_, heap_alloc_new w _, World.ownsRow_nil _ _ _ _, (by intro g e; cases e), id⟩
theorem sa_lit (w : World) (x : List UInt8) : SA (w.alloc (.cells #[.string (mk x)] 9)) (.slice (some ⟨w.heap.size, 0, none⟩) 1 1) [x] :=
  ⟨_, _, rfl, Nat.le_refl _, .inr ⟨w.heap.size, 0, rfl, by simp, fun j y hy => by
    have : j = 0 := by
      have := (List.getElem?_eq_some_iff.1 hy).1
      simpa using this
    subst this
    simp only [List.getElem?_cons_zero, Option.some.injEq] at hy
    subst hy
    exact cell_of_row _ w.heap.size 0 _ _ (0, 0) (heap_alloc_new w _)⟩⟩
/-- The writer behind so many lines; all of it is new. -/
def FS (w0 : World) (B : Nat) (ls : List (List UInt8)) (w : World) : Prop := ∃ S, WS S w B ls ∧ Below w0.heap.size w0 w ∧ (∀ g, S g → B < g ∧ g < w.heap.size) ∧ w0.heap.size ≤ B
theorem FS.next {w0 w w' : World} {B : Nat} {ls : List (List UInt8)} (h : FS w0 B ls w) (hb : Below w.heap.size w w') : FS w0 B ls w' := by
  obtain ⟨S, h1, h2, h3, h4⟩ := h
  exact ⟨S, h1.next hb, h2.trans (hb.mono h2.size), fun g hg => ⟨(h3 g hg).1, Nat.lt_of_lt_of_le (h3 g hg).2 hb.size⟩, h4⟩
theorem FS.wrote {w0 w w' : World} {B : Nat} {ls : List (List UInt8)} {S : Nat → Prop} {e : Ending} (hB : B < w.heap.size) (h2 : Below w0.heap.size w0 w) (h3 : ∀ g, S g → B < g ∧ g < w.heap.size) (h4 : w0.heap.size ≤ B) (h : Wrote S w B ls e w') : FS w0 B ls w' ∧ Below B w w' := by
  obtain ⟨_, h5, h6⟩ := h
  have hk : Below B w w' := h6.below (Nat.le_of_lt hB) (fun g hg => by
    rcases hg with hg | hg
    · exact Nat.le_of_lt (h3 g hg).1
    · rw [hg]; exact Nat.le_refl _)
  refine ⟨⟨_, h5.cut, h2.trans (hk.mono h4), fun g hg => ⟨?_, hg.2⟩, h4⟩, hk⟩
  rcases hg.1 with hg | hg
  · exact (h3 g hg).1
  · exact Nat.lt_of_lt_of_le hB hg
/-- One more line. -/
theorem line_any {w0 w : World} {B : Nat} {ls : List (List UInt8)} (h : FS w0 B ls w) (kw : ByteArray) (av : Value) (args : List (List UInt8)) (hA : SA w av args) (hne : args ≠ []) (hls : ls.length ≤ 1000000) (hal : args.length ≤ 1000000) (hsum : ((kw.data.toList :: args).map (·.length)).sum ≤ 1000000000) :
    Calls Tryz.prog 58 #[.pointer (some ⟨B, 0, none⟩), .string kw, av] w fun e w' => e = .returned (.tuple #[]) ∧ FS w0 B (ls ++ [jw (kw.data.toList :: args)]) w' ∧ Below B w w' := by
  obtain ⟨S, h1, h2, h3, h4⟩ := h
  exact (wentry_any S w B ls h1 kw av args hA hne hls hal hsum).mono fun e w' h => ⟨h.1, FS.wrote h1.lt h2 h3 h4 h⟩
set_option maxHeartbeats 16000000 in
theorem format_plain (L : PL) (hw : L.wt = fun j : Nat => (j : Int)) (hlo : L.lower = lowL 256) (hup : L.upper = upL 256) (he : L.els = []) (hc : chk (toLoc 256 L) = 0) (h24 : L.cls.length ≤ 24)
    (hr : ∀ c ∈ L.cls, clsRg c.2 ≠ []) (hsum : ∀ c ∈ L.cls, ((kCls :: c.1 :: clsRg c.2).map (·.length)).sum ≤ 1000000) (hrl : ∀ c ∈ L.cls, (clsRg c.2).length ≤ 256) (hnm : L.name.length ≤ 1000) (hj : ((plainLines L L.cls.length).map (·.length)).sum + (plainLines L L.cls.length).length ≤ 4294967281)
    (W C E : Value) (w : World) (hM : LocM w (toLoc 256 L) W C E) (hT : tabAt w) :
    Calls Tryz.prog 34 #[.agg (lcl (toLoc 256 L) W C E)] w fun e w' => e = .returned (.string (mk (fmtP L))) ∧ Below w.heap.size w w' := by
  obtain ⟨F, hF⟩ : ∃ F, fmtP L = F := ⟨_, rfl⟩
  rw [hF]
  have HF := Lib.hid hF
  have HB : Hid (Below w.heap.size w (w.alloc (.cells (lcl (toLoc 256 L) W C E) 26))) := (Below.refl _ _).alloc (Nat.le_refl _) _
  have HA : Hid (LAt (w.alloc (.cells (lcl (toLoc 256 L) W C E) 26)) w.heap.size (lcl (toLoc 256 L) W C E)) := heap_alloc_new w _
  have HM := Lib.hid (hM.below HB.out)
  have HT := Lib.hid hT
  have HM0 := Lib.hid hM
  have HCk := Lib.hid (pCheck_any (toLoc 256 L) W C E)
  rw [hc] at HCk
  have HDf := Lib.hid pDefault_own
  obtain ⟨⟨aw, cw, rfl, hcw, kw⟩, ⟨ac, cc, rfl, hcc, kc⟩, ⟨ae, ce, rfl, hce, ke⟩⟩ := hM
  have HLw := Lib.hid kw
  have HLc := Lib.hid kc
  have e1 : lcl (toLoc 256 L) (.slice aw (toLoc 256 L).nw cw) (.slice ac (toLoc 256 L).nc cc) (.slice ae (toLoc 256 L).ne ce) = #[.string (mk L.name), .slice aw 256 cw, .string (mk (lowL 256)), .string (mk (upL 256)), .slice ac L.cls.length cc, .slice ae 0 ce] := by
    unfold lcl
    show #[Value.string (mk L.name), .slice aw 256 cw, .string (mk L.lower), .string (mk L.upper), .slice ac L.cls.length cc, .slice ae L.els.length ce] = _
    rw [hlo, hup, he]; rfl
  rw [e1] at HB HA HCk HM ⊢
  have e2 : ∀ W C E, lcl Ldef W C E = #[.string psx, W, .string (mk (lowL 256)), .string (mk (upL 256)), C, E] := fun W C E => lcl_def W C E
  simp only [e2] at HDf
  obtain ⟨Lo, hLo⟩ : ∃ Lo, mk (lowL 256) = Lo := ⟨_, rfl⟩
  obtain ⟨Up, hUp⟩ : ∃ Up, mk (upL 256) = Up := ⟨_, rfl⟩
  have hzl : Lo.size ≤ 1000 := by rw [← hLo, mk_size, lowL_len]; decide
  have hzu : Up.size ≤ 1000 := by rw [← hUp, mk_size, upL_len]; decide
  rw [hLo, hUp] at HB HA HCk HM ⊢
  simp only [hLo, hUp] at HDf
  have HL : Hid (mk (lowL 256) = Lo) := hLo
  clear hLo hUp hT hc hF e1 e2 he hlo hup
  obtain ⟨⟨x0, x1, x2⟩, ⟨x3, x4, x5⟩, xf⟩ := HA.out.six
  have HNm : Hid (L.name.length ≤ 1000) := hnm
  have HJ := Lib.hid hj
  have HSum := Lib.hid hsum
  have HRl := Lib.hid hrl
  have HRn := Lib.hid hr
  have HWt := Lib.hid hw
  clear hnm hj hsum hrl hr hw kw kc ke
  go_enter Tryz.func34, Tryz.ntmps34
  go_wp2_with (first
    | (go_at_call 57
       refine (HCk.out _ HM.out).mono ?_
       rintro e w1 ⟨rfl, hb⟩
       have HB1 := Lib.hid (HB.out.trans (hb.mono HB.out.size))
       have HA1 := Lib.hid (HA.out.under hb HA.out.lt)
       clear x0 x1 x2 x3 x4 x5 xf hb
       obtain ⟨⟨x0, x1, x2⟩, ⟨x3, x4, x5⟩, xf⟩ := HA1.out.six)
    | (go_at_call 28
       refine (HDf.out _).mono ?_
       rintro e w2 ⟨x, y, hx, rfl, hm, hb⟩
       have HM2 := Lib.hid hm
       have HB2 := Lib.hid (HB1.out.trans (hb.mono HB1.out.size))
       have HA2 := Lib.hid (HA1.out.under hb HA1.out.lt)
       clear x0 x1 x2 x3 x4 x5 xf hb hm hx
       obtain ⟨⟨x0, x1, x2⟩, ⟨x3, x4, x5⟩, xf⟩ := HA2.out.six
       have hzz : w.heap.size < w2.heap.size := HA2.out.lt))
  have hM2 := HM2.out
  have hxl : x < w2.heap.size := (Array.getElem?_eq_some_iff.1 hM2.2).1
  have hbl : Below w2.heap.size w2 (w2.alloc (.cells #[.string psx, .slice (some ⟨x, 0, none⟩) 256 y, .string Lo, .string Up, .slice none 0 0, .slice none 0 0] 26)) := (Below.refl _ _).alloc (Nat.le_refl _) _
  have hus : LAt (w2.alloc (.cells #[.string psx, .slice (some ⟨x, 0, none⟩) 256 y, .string Lo, .string Up, .slice none 0 0, .slice none 0 0] 26)) w2.heap.size #[.string psx, .slice (some ⟨x, 0, none⟩) 256 y, .string Lo, .string Up, .slice none 0 0, .slice none 0 0] := heap_alloc_new w2 _
  have hau := HA2.out.under hbl HA2.out.lt
  have hbu := HB2.out.trans (hbl.mono HB2.out.size)
  have hxu := (hbl.block x hxl).trans hM2.2
  have hsu : (w2.alloc (.cells #[.string psx, .slice (some ⟨x, 0, none⟩) 256 y, .string Lo, .string Up, .slice none 0 0, .slice none 0 0] 26)).heap.size = w2.heap.size + 1 := by simp
  generalize w2.alloc (.cells #[.string psx, .slice (some ⟨x, 0, none⟩) 256 y, .string Lo, .string Up, .slice none 0 0, .slice none 0 0] 26) = wu at hbl hus hau hbu hxu hsu ⊢
  have hbv : Below wu.heap.size wu (wu.alloc (.cells #[.slice none 0 0] 97)) := (Below.refl _ _).alloc (Nat.le_refl _) _
  have hfv : FS w (w2.heap.size + 1) [] (wu.alloc (.cells #[.slice none 0 0] 97)) := ⟨fun _ => False, by rw [← hsu]; exact ws_new wu, hbu.trans (hbv.mono hbu.size), fun g hg => hg.elim, by omega⟩
  have husv := hus.under hbv hus.lt
  have hauv := hau.under hbv hau.lt
  have hxv := (hbv.block x (by omega)).trans hxu
  have hsv : (wu.alloc (.cells #[.slice none 0 0] 97)).heap.size = w2.heap.size + 1 + 1 := by simp [hsu]
  generalize wu.alloc (.cells #[.slice none 0 0] 97) = wv at hbv hfv husv hauv hxv hsv ⊢
  have hbn : Below wv.heap.size wv (wv.alloc (.cells #[.string (mk L.name)] 9)) := (Below.refl _ _).alloc (Nat.le_refl _) _
  have hsa := sa_lit wv L.name
  rw [hsv] at hsa
  have hfn := hfv.next hbn
  have husn := husv.under hbn husv.lt
  have haun := hauv.under hbn hauv.lt
  have hxn := (hbn.block x (by omega)).trans hxv
  generalize wv.alloc (.cells #[.string (mk L.name)] 9) = wn at hbn hsa hfn husn haun hxn ⊢
  refine (line_any hfn ⟨#[108, 111, 99, 97, 108, 101]⟩ _ [L.name] hsa (by simp) (by simp) (by simp) (by have := HNm.out; simp; omega)).mono ?_
  rintro e w5 ⟨rfl, hf5, hb5⟩
  have ha5 := haun.under hb5 (by omega)
  have hu5 := husn.under hb5 (by omega)
  have hx5 := (hb5.block x (by omega)).trans hxn
  have hw5 : Below w.heap.size w w5 := by obtain ⟨_, _, h, _⟩ := hf5; exact h
  have hs1 : SL 1 256 (fun j _ => .int .i64 ((fun j : Nat => (j : Int)) j)) w5 (.slice aw 256 cw) := by
    have h1 := (HM0.out.below hw5).1
    have h2 : wtF (toLoc 256 L) = fun j _ => .int .i64 ((fun j : Nat => (j : Int)) j) := by
      funext j i
      show Value.int .i64 (L.wt j) = _
      rw [HWt.out]
    rw [h2] at h1
    exact h1
  have hs2 : SL 1 256 (fun j _ => .int .i64 ((fun j : Nat => (j : Int)) j)) w5 (.slice (some ⟨x, 0, none⟩) 256 y) := by
    refine ⟨_, y, rfl, hM2.1, .inr ⟨x, 0, rfl, (Array.getElem?_eq_some_iff.1 hx5).1, fun j i hj hi => ?_⟩⟩
    obtain rfl : i = 0 := by omega
    rw [cell_of_row w5 x _ _ _ _ hx5]
    have h3 : ((List.range 256).map nW).toArray[0 + j * 1 + 0]? = some (nW j) := by
      simp only [Nat.zero_add, Nat.mul_one, Nat.add_zero, List.getElem?_toArray, List.getElem?_map, List.getElem?_range hj, Option.map_some]
    exact h3
  have HF5 := Lib.hid hf5
  have HA5 := Lib.hid ha5
  have HU5 := Lib.hid hu5
  have HS1 := Lib.hid hs1
  have HS2 := Lib.hid hs2
  clear x0 x1 x2 x3 x4 x5 xf hs1 hs2 hw5 hx5 hb5 hf5 hbn hsa hfn husn haun hxn hbv hfv husv hauv hxv hsv hbl hus hau hbu hxu hsu hM2
  obtain ⟨⟨x0, x1, x2⟩, ⟨x3, x4, x5⟩, xf⟩ := ha5.six
  obtain ⟨⟨y0, y1, y2⟩, ⟨y3, y4, y5⟩, yf⟩ := hu5.six
  clear ha5 hu5
  go_wp2_with (first
    | (go_at_call 59
       refine (weights_same _ _ _ _ _ HS1.out HS2.out).mono ?_
       rintro e w6 ⟨rfl, hb⟩
       have HF6 := Lib.hid (HF5.out.next hb)
       have HA6 := Lib.hid (HA5.out.under hb HA5.out.lt)
       have HU6 := Lib.hid (HU5.out.under hb HU5.out.lt)
       clear x0 x1 x2 x3 x4 x5 xf y0 y1 y2 y3 y4 y5 yf hb
       obtain ⟨⟨x0, x1, x2⟩, ⟨x3, x4, x5⟩, xf⟩ := HA6.out.six
       obtain ⟨⟨y0, y1, y2⟩, ⟨y3, y4, y5⟩, yf⟩ := HU6.out.six)
    | (go_at_call 60
       with_reducible refine (forms_same _ _ Lo hzl _).mono ?_
       rintro e w7 ⟨rfl, hb⟩
       have HF7 := Lib.hid (HF6.out.next hb)
       have HA7 := Lib.hid (HA6.out.under hb HA6.out.lt)
       have HU7 := Lib.hid (HU6.out.under hb HU6.out.lt)
       clear x0 x1 x2 x3 x4 x5 xf y0 y1 y2 y3 y4 y5 yf hb
       obtain ⟨⟨x0, x1, x2⟩, ⟨x3, x4, x5⟩, xf⟩ := HA7.out.six
       obtain ⟨⟨y0, y1, y2⟩, ⟨y3, y4, y5⟩, yf⟩ := HU7.out.six)
    | (go_at_call 60
       with_reducible refine (forms_same _ _ Up hzu _).mono ?_
       rintro e w8 ⟨rfl, hb⟩
       have HF8 := Lib.hid (HF7.out.next hb)
       have HA8 := Lib.hid (HA7.out.under hb HA7.out.lt)
       clear x0 x1 x2 x3 x4 x5 xf y0 y1 y2 y3 y4 y5 yf hb
       obtain ⟨⟨x0, x1, x2⟩, ⟨x3, x4, x5⟩, xf⟩ := HA8.out.six))
  obtain ⟨n, hn⟩ : ∃ n, n = L.cls.length := ⟨_, rfl⟩
  have HN := Lib.hid hn
  rw [← hn] at h24 x4
  rw [← hn]
  have hni : (n : Int) ≤ 24 := by omega
  have hcc2 : n ≤ cc := by rw [hn]; exact hcc
  have HA8n := HA8.out
  rw [← hn] at HA8n
  have HA8m := Lib.hid HA8n
  clear x0 x1 x2 x3 x5 xf hn HA8n HA8
  go_loopw [35] (fun i wr => ∃ k : Nat, k ≤ n ∧ i = .int .i64 k ∧ Hid (FS w (w2.heap.size + 1) (plainLines L k) wr ∧ LAt wr w.heap.size #[.string (mk L.name), .slice aw 256 cw, .string Lo, .string Up, .slice ac n cc, .slice ae 0 ce])) (fun i _ => n - (intOf i).toNat)
  case atStart => exact ⟨0, Nat.zero_le _, rfl, HF8.out, HA8m.out⟩
  case round =>
    obtain ⟨k, hk, rfl, HR⟩ := hrel
    clear HF8 HA8m
    by_cases hkn : k < n
    · have ki : (k : Int) < n := by omega
      have ki0 : (0 : Int) ≤ k := by omega
      have hkL : k < L.cls.length := by rw [← HN.out]; exact hkn
      rcases HLc.out with h0 | ⟨bc, oc, rfl, hbc, hcells⟩
      · have h1 : L.cls.length = 0 := h0
        omega
      have hwr : Below w.heap.size w wr := by obtain ⟨_, _, h, _⟩ := HR.out.1; exact h
      have hcx : ∀ i, i < 5 → wr.cell? ⟨bc, oc + k * 5 + i, none⟩ = some (clsF (toLoc 256 L) k i) := fun i hi => by
        rw [hwr.cell (by exact hbc)]
        exact hcells k i hkL hi
      obtain ⟨c, hc⟩ : ∃ c, L.cls[k] = c := ⟨_, rfl⟩
      have hcn : clN L k = c.1 := by unfold clN; rw [List.getElem?_eq_getElem hkL, hc]; rfl
      have hcs : clS L k = c.2 := by unfold clS; rw [List.getElem?_eq_getElem hkL, hc]; rfl
      have hf0 : clsF (toLoc 256 L) k 0 = .string (mk c.1) := by rw [← hcn]; rfl
      have hfi : ∀ i, i < 4 → clsF (toLoc 256 L) k (i + 1) = .int .u64 ((wd c.2 (64 * i) 64 : Nat) : Int) := fun i hi => by rw [← hcs]; rfl
      have g0 := hcx 0 (by decide)
      have g1 := hcx 1 (by decide)
      have g2 := hcx 2 (by decide)
      have g3 := hcx 3 (by decide)
      have g4 := hcx 4 (by decide)
      rw [hf0] at g0
      rw [show 1 = 0 + 1 from rfl, hfi 0 (by decide)] at g1
      rw [show 2 = 1 + 1 from rfl, hfi 1 (by decide)] at g2
      rw [show 3 = 2 + 1 from rfl, hfi 2 (by decide)] at g3
      rw [show 4 = 3 + 1 from rfl, hfi 3 (by decide)] at g4
      have HCm : Hid (c ∈ L.cls) := by show c ∈ L.cls; rw [← hc]; exact List.getElem_mem hkL
      have HCk2 := Lib.hid hc
      clear hcx hf0 hfi hcn hcs hc hwr hcells
      simp only [Nat.add_zero, Nat.zero_add, Nat.reduceAdd, Nat.mul_zero, Nat.mul_one, Nat.reduceMul] at g0 g1 g2 g3 g4
      have HSm := Lib.hid (HSum.out c HCm.out)
      have HRn2 := Lib.hid (HRn.out c HCm.out)
      have HRl2 := Lib.hid (HRl.out c HCm.out)
      obtain ⟨p, hp⟩ : ∃ p, c.2 = p := ⟨_, rfl⟩
      obtain ⟨X, hX⟩ : ∃ X, mk c.1 = X := ⟨_, rfl⟩
      rw [hp] at g1 g2 g3 g4 HSm HRn2 HRl2
      rw [hX] at g0
      have HP := Lib.hid hp
      have HX := Lib.hid hX
      clear hp hX
      obtain ⟨Sx, hws, hbw, hSx, hwB⟩ := HR.out.1
      have HWs := Lib.hid hws
      have HBw := Lib.hid hbw
      have HSx := Lib.hid hSx
      have HAr := Lib.hid HR.out.2
      have hBl := hws.lt
      clear hws hbw hSx
      go_wp2
      have hbc2 : Below wr.heap.size wr (wr.alloc (.cells #[.string X, .int .u64 ((wd p 0 64 : Nat) : Int), .int .u64 ((wd p 64 64 : Nat) : Int), .int .u64 ((wd p 128 64 : Nat) : Int), .int .u64 ((wd p 192 64 : Nat) : Int)] 66)) := (Below.refl _ _).alloc (Nat.le_refl _) _
      have hbox : (wr.alloc (.cells #[.string X, .int .u64 ((wd p 0 64 : Nat) : Int), .int .u64 ((wd p 64 64 : Nat) : Int), .int .u64 ((wd p 128 64 : Nat) : Int), .int .u64 ((wd p 192 64 : Nat) : Int)] 66)).heap[wr.heap.size]? = some (.cells #[.string X, .int .u64 ((wd p 0 64 : Nat) : Int), .int .u64 ((wd p 64 64 : Nat) : Int), .int .u64 ((wd p 128 64 : Nat) : Int), .int .u64 ((wd p 192 64 : Nat) : Int)] 66 (0, 0)) := heap_alloc_new wr _
      have hcsz : (wr.alloc (.cells #[.string X, .int .u64 ((wd p 0 64 : Nat) : Int), .int .u64 ((wd p 64 64 : Nat) : Int), .int .u64 ((wd p 128 64 : Nat) : Int), .int .u64 ((wd p 192 64 : Nat) : Int)] 66)).heap.size = wr.heap.size + 1 := by simp
      generalize wr.alloc (.cells #[.string X, .int .u64 ((wd p 0 64 : Nat) : Int), .int .u64 ((wd p 64 64 : Nat) : Int), .int .u64 ((wd p 128 64 : Nat) : Int), .int .u64 ((wd p 192 64 : Nat) : Int)] 66) = wc at hbc2 hbox hcsz ⊢
      have HBc := Lib.hid hbc2
      have HBox := Lib.hid hbox
      have HTc : Hid (tabAt wc) := tab_keep HT.out (HBw.out.trans (hbc2.mono HBw.out.size))
      have HCs := Lib.hid hcsz
      obtain ⟨i0, hi0, hz0, hz1, hz2⟩ := info_parts infoSt
      have HRo := Lib.hid (fun w hT => rangesOf_any p w hT)
      unfold cs cl at HRo
      clear g0 g1 g2 g3 g4 hbc2 hbox hcsz
      refine wp_region_held_drew (S := fun w' => w'.heap[wr.heap.size]? = some (.cells #[.string X, .int .u64 ((wd p 0 64 : Nat) : Int), .int .u64 ((wd p 64 64 : Nat) : Int), .int .u64 ((wd p 128 64 : Nat) : Int), .int .u64 ((wd p 192 64 : Nat) : Int)] 66 (0, 0))) (by kernel_rfl) ?_ (fun hHeld => ?_)
      · exact HBox.out
      refine wpAnyH_take (i := 0) (v := ?av0) rfl (by kernel_rfl) (by kernel_rfl) (by kernel_rfl) (fun _ _ _ h => h) (Or.inl ⟨by rfl, ?ay0⟩) (by assumption) ?ar0
      case ay0 =>
        intro wx hSw
        clear hSw
        go_simp
        first | done | (with_reducible rfl)
      (try simp only [Act.put, List.getElem_toArray, List.getElem_cons_zero, List.setIfInBounds_toArray, List.set_cons_zero, List.set_cons_succ])
      refine wpAnyH_take (i := 1) (v := ?av1) rfl (by kernel_rfl) (by kernel_rfl) (by kernel_rfl) (fun _ _ _ h => h) (Or.inl ⟨by rfl, ?ay1⟩) (by assumption) ?ar1
      case ay1 =>
        intro wx hSw
        have hcl := cell_of_row wx wr.heap.size 0 _ _ _ hSw
        clear hSw
        go_simp
        first | done | (with_reducible rfl)
      (try simp only [Act.put, List.getElem_toArray, List.getElem_cons_succ, List.getElem_cons_zero, List.setIfInBounds_toArray, List.set_cons_zero, List.set_cons_succ])
      refine wpAnyH_take (i := 3) (v := ?av3) rfl (by kernel_rfl) (by kernel_rfl) (by kernel_rfl) (fun _ _ _ h => h) (Or.inl ⟨by rfl, ?ay3⟩) (by assumption) ?ar3
      case ay3 =>
        intro wx hSw
        clear hSw
        go_simp
        first | done | (with_reducible rfl)
      (try simp only [Act.put, List.getElem_toArray, List.getElem_cons_succ, List.getElem_cons_zero, List.setIfInBounds_toArray, List.set_cons_zero, List.set_cons_succ])
      refine wpAnyH_take (i := 4) (v := ?av4) rfl (by kernel_rfl) (by kernel_rfl) (by kernel_rfl) (fun _ _ _ h => h) (Or.inl ⟨by rfl, ?ay4⟩) (by assumption) ?ar4
      case ay4 =>
        intro wx hSw
        have hc1 := cell_of_row wx wr.heap.size 1 _ _ _ hSw
        have hc2 := cell_of_row wx wr.heap.size 2 _ _ _ hSw
        have hc3 := cell_of_row wx wr.heap.size 3 _ _ _ hSw
        have hc4 := cell_of_row wx wr.heap.size 4 _ _ _ hSw
        simp only [List.getElem?_toArray, List.getElem?_cons_succ, List.getElem?_cons_zero] at hc1 hc2 hc3 hc4
        clear hSw
        go_simp
        first | done | (with_reducible rfl)
      (try simp only [Act.put, List.getElem_toArray, List.getElem_cons_succ, List.getElem_cons_zero, List.setIfInBounds_toArray, List.set_cons_zero, List.set_cons_succ])
      refine wpAnyH_ready (rs := [2, 5]) (by kernel_rfl) (by simp) ?_
      refine AllReadyH.cons rfl (fun K hK => ?_) (AllReadyH.cons rfl (fun K hK => ?_) AllReadyH.nil)
      · go_simp
        refine hK.out _ _ ?_ (fun _ => ?_)
        · exact (Below.heap_alloc wc (.cells #[.string X] 9) _ (by have := HCs.out; omega)).trans HBox.out
        clear hK K
        (try simp only [Act.put, List.getElem_toArray, List.getElem_cons_succ, List.getElem_cons_zero, List.setIfInBounds_toArray, List.set_cons_zero, List.set_cons_succ])
        refine wpAnyH_ready (rs := [5]) (by kernel_rfl) (by simp) ?_
        refine AllReadyH.cons rfl (fun K hK => ?_) AllReadyH.nil
        go_simp
        go_at_call 61
        refine (HRo.out _ (tab_keep HTc.out ((Below.refl _ _).alloc (Nat.le_refl _) _).drew)).mono ?_
        rintro e w4 ⟨vr, rfl, hor, hb4⟩
        have hb4 := (Below.refl _ _).drew.trans hb4
        have hK0 : Below wc.heap.size wc (wc.alloc (.cells #[.string X] 9)) := (Below.refl _ _).alloc (Nat.le_refl _) _
        have HKz : Hid (Below wc.heap.size wc w4) := hK0.trans (hb4.mono hK0.size)
        have HOq : Hid (w4.ownsRow 0 9 1 (.slice (some ⟨wc.heap.size, 0, none⟩) 1 1) 1 [.string X]) := ownsRow_next (own_one wc (.string X) rfl) hb4
        have HOr := Lib.hid hor
        have hqge : wc.heap.size ≤ wc.heap.size := Nat.le_refl _
        have hbx4 : w4.heap[wr.heap.size]? = some (.cells #[.string X, .int .u64 ((wd p 0 64 : Nat) : Int), .int .u64 ((wd p 64 64 : Nat) : Int), .int .u64 ((wd p 128 64 : Nat) : Int), .int .u64 ((wd p 192 64 : Nat) : Int)] 66 (0, 0)) := (HKz.out.block _ (by have := HCs.out; omega)).trans HBox.out
        clear hor hb4 hK0
        refine hK.out _ _ ?_ (fun _ => ?_)
        · exact hbx4
        clear hK K
        (try simp only [Act.put, List.getElem_toArray, List.getElem_cons_succ, List.getElem_cons_zero, List.setIfInBounds_toArray, List.set_cons_zero, List.set_cons_succ])
        clear hbx4
        obtain ⟨gr, capr, rfl⟩ : ∃ gr capr, vr = .slice (some ⟨gr, 0, none⟩) (rgT (bl (el p 256))).length capr := by
          rcases Joins.ownsRow_forms HOr.out with ⟨_, h0⟩ | h
          · exact absurd (List.eq_nil_of_length_eq_zero h0) HRn2.out
          · exact h
        obtain ⟨m, hm⟩ : ∃ m, (rgT (bl (el p 256))).length = m := ⟨_, rfl⟩
        have hm0 : 0 < m := by rw [← hm]; exact List.length_pos_iff.2 HRn2.out
        have hm1 : m ≤ 256 := by rw [← hm]; exact HRl2.out
        rw [hm] at HOr
        have HMm := Lib.hid hm
        try rw [hm]
        clear hm
        refine wpAnyH_ready (rs := [6]) (by kernel_rfl) (by simp) ?_
        refine AllReadyH.cons rfl (fun K hK => ?_) AllReadyH.nil
        refine step_append_lies _ (by rfl) (.tmp 41) (.tmp 44) 59 (by rfl) 0 9 i0 _ 1 16 Tryz.underlying59 hi0 hz0 hz1 hz2 rfl (by decide) (.slice (some ⟨wc.heap.size, 0, none⟩) 1 1) 1 [.string X] (by rfl) HOq.out ⟨gr, 0, none⟩ m capr (strs3 (rgT (bl (el p 256)))) (by rfl) (by unfold strs3; rw [List.length_map, HMm.out, Nat.mul_one]) (fun j u hu => HOr.out.cells rfl j u hu) (strs_one _) hm0 (by unfold maxLen; omega) (by omega) (Nat.zero_le _) _ rfl ?_
        intro g6 cap6 w6 ho6 hg6 hat6 hlt6
        have HO6 := Lib.hid ho6
        have HK6 : Hid (Below wc.heap.size wc w6) := HKz.out.grown hg6 HKz.out.size (fun k e => by
          have e2 : wc.heap.size = k := by simpa [Value.ownBlock] using e
          rw [← e2]; exact hqge)
        have hbx6 : w6.heap[wr.heap.size]? = some (.cells #[.string X, .int .u64 ((wd p 0 64 : Nat) : Int), .int .u64 ((wd p 64 64 : Nat) : Int), .int .u64 ((wd p 128 64 : Nat) : Int), .int .u64 ((wd p 192 64 : Nat) : Int)] 66 (0, 0)) := (HK6.out.block _ (by have := HCs.out; omega)).trans HBox.out
        have HBx6 := Lib.hid hbx6
        clear ho6 hg6 hat6 hlt6
        refine hK.out _ _ ?_ (fun _ => ?_)
        · exact hbx6
        clear hK K hbx6
        (try simp only [Act.put, List.getElem_toArray, List.getElem_cons_succ, List.getElem_cons_zero, List.setIfInBounds_toArray, List.set_cons_zero, List.set_cons_succ])
        refine wpAnyH_ready (rs := [7]) (by kernel_rfl) (by simp) ?_
        refine AllReadyH.cons rfl (fun K hK => ?_) AllReadyH.nil
        go_simp
        go_at_call 58
        have hwr6 : Below wr.heap.size wr w6 := HBc.out.trans (HK6.out.mono HBc.out.size)
        refine (wentry_any Sx w6 (w2.heap.size + 1) (plainLines L k) (HWs.out.next hwr6) ⟨#[99, 108, 97, 115, 115]⟩ _ (c.1 :: rgT (bl (el p 256))) (own_sa (xs := c.1 :: rgT (bl (el p 256))) (by
          have h := HO6.out
          rw [← HX.out] at h
          exact h) (by rw [List.length_cons, HMm.out]; omega)) (by simp) (by unfold plainLines; simp; omega) (by rw [List.length_cons, HMm.out]; omega) (by have := HSm.out; unfold clsRg at this; exact Nat.le_trans this (by decide))).mono ?_
        rintro e w7 hwt
        have hbx7 : w7.heap[wr.heap.size]? = some (.cells #[.string X, .int .u64 ((wd p 0 64 : Nat) : Int), .int .u64 ((wd p 64 64 : Nat) : Int), .int .u64 ((wd p 128 64 : Nat) : Int), .int .u64 ((wd p 192 64 : Nat) : Int)] 66 (0, 0)) := (hwt.2.2.block _ (by have := HCs.out; have := HK6.out.size; omega) (fun he => by
          rcases he with he | he
          · exact Nat.lt_irrefl _ (HSx.out _ he).2
          · omega)).trans HBx6.out
        have hfs := FS.wrote (w0 := w) (Nat.lt_of_lt_of_le hBl hwr6.size) (HBw.out.trans (hwr6.mono HBw.out.size)) (fun g hg => ⟨(HSx.out g hg).1, Nat.lt_of_lt_of_le (HSx.out g hg).2 hwr6.size⟩) hwB hwt
        obtain ⟨rfl, -, -⟩ := hwt
        have ha7 := (HAr.out.under hwr6 HAr.out.lt).under hfs.2 (by omega)
        have HF7 := Lib.hid hfs.1
        have HA7 := Lib.hid ha7
        clear hfs ha7 hwr6
        refine hK.out _ _ ?_ (fun _ => ?_)
        · exact hbx7
        clear hK K hbx7
        (try simp only [Act.put, List.getElem_toArray, List.getElem_cons_succ, List.getElem_cons_zero, List.setIfInBounds_toArray, List.set_cons_zero, List.set_cons_succ])
        refine wpAnyH_done (by kernel_rfl) ?_ _
        go_wp2
        go_roundw
        case rel =>
          refine ⟨k + 1, by omega, by go_num, ?_, HA7.out⟩
          have h := HF7.out
          have e : plainLines L (k + 1) = plainLines L k ++ [clsLine c] := by
            unfold plainLines
            rw [List.take_succ_eq_append_getElem hkL, HCk2.out, List.map_append]
            rfl
          rw [e]
          have e2 : clsLine c = jw (kCls :: c.1 :: rgT (bl (el p 256))) := by unfold clsLine clsRg; rw [HP.out]
          rw [e2]
          exact h
        case measure => simp [intOf]; omega
      · go_simp
        go_at_call 61
        refine (HRo.out _ (tab_keep HTc.out (Below.refl _ _).drew)).mono ?_
        rintro e w4 ⟨vr, rfl, hor, hb4⟩
        have hb4 := (Below.refl _ _).drew.trans hb4
        have HK4 : Hid (Below wc.heap.size wc w4) := hb4
        have HO4 := Lib.hid hor
        have hbx4 : w4.heap[wr.heap.size]? = some (.cells #[.string X, .int .u64 ((wd p 0 64 : Nat) : Int), .int .u64 ((wd p 64 64 : Nat) : Int), .int .u64 ((wd p 128 64 : Nat) : Int), .int .u64 ((wd p 192 64 : Nat) : Int)] 66 (0, 0)) := (HK4.out.block _ (by have := HCs.out; omega)).trans HBox.out
        have HBx4 := Lib.hid hbx4
        clear hor hb4
        refine hK.out _ _ ?_ (fun _ => ?_)
        · exact hbx4
        clear hK K
        (try simp only [Act.put, List.getElem_toArray, List.getElem_cons_succ, List.getElem_cons_zero, List.setIfInBounds_toArray, List.set_cons_zero, List.set_cons_succ])
        clear hbx4
        refine wpAnyH_ready (rs := [2]) (by kernel_rfl) (by simp) ?_
        refine AllReadyH.cons rfl (fun K hK => ?_) AllReadyH.nil
        go_simp
        refine hK.out _ _ ?_ (fun _ => ?_)
        · exact (Below.heap_alloc w4 (.cells #[.string X] 9) _ (by have := HCs.out; have := HK4.out.size; omega)).trans HBx4.out
        clear hK K
        (try simp only [Act.put, List.getElem_toArray, List.getElem_cons_succ, List.getElem_cons_zero, List.setIfInBounds_toArray, List.set_cons_zero, List.set_cons_succ])
        have HKz : Hid (Below wc.heap.size wc (w4.alloc (.cells #[.string X] 9))) := HK4.out.alloc HK4.out.size _
        have HOq : Hid ((w4.alloc (.cells #[.string X] 9)).ownsRow 0 9 1 (.slice (some ⟨w4.heap.size, 0, none⟩) 1 1) 1 [.string X]) := own_one w4 (.string X) rfl
        have HOr := Lib.hid (HO4.out.alloc (.cells #[.string X] 9))
        have hqge : wc.heap.size ≤ w4.heap.size := HK4.out.size
        obtain ⟨gr, capr, rfl⟩ : ∃ gr capr, vr = .slice (some ⟨gr, 0, none⟩) (rgT (bl (el p 256))).length capr := by
          rcases Joins.ownsRow_forms HOr.out with ⟨_, h0⟩ | h
          · exact absurd (List.eq_nil_of_length_eq_zero h0) HRn2.out
          · exact h
        obtain ⟨m, hm⟩ : ∃ m, (rgT (bl (el p 256))).length = m := ⟨_, rfl⟩
        have hm0 : 0 < m := by rw [← hm]; exact List.length_pos_iff.2 HRn2.out
        have hm1 : m ≤ 256 := by rw [← hm]; exact HRl2.out
        rw [hm] at HOr
        have HMm := Lib.hid hm
        try rw [hm]
        clear hm
        refine wpAnyH_ready (rs := [6]) (by kernel_rfl) (by simp) ?_
        refine AllReadyH.cons rfl (fun K hK => ?_) AllReadyH.nil
        refine step_append_lies _ (by rfl) (.tmp 41) (.tmp 44) 59 (by rfl) 0 9 i0 _ 1 16 Tryz.underlying59 hi0 hz0 hz1 hz2 rfl (by decide) (.slice (some ⟨w4.heap.size, 0, none⟩) 1 1) 1 [.string X] (by rfl) HOq.out ⟨gr, 0, none⟩ m capr (strs3 (rgT (bl (el p 256)))) (by rfl) (by unfold strs3; rw [List.length_map, HMm.out, Nat.mul_one]) (fun j u hu => HOr.out.cells rfl j u hu) (strs_one _) hm0 (by unfold maxLen; omega) (by omega) (Nat.zero_le _) _ rfl ?_
        intro g6 cap6 w6 ho6 hg6 hat6 hlt6
        have HO6 := Lib.hid ho6
        have HK6 : Hid (Below wc.heap.size wc w6) := HKz.out.grown hg6 HKz.out.size (fun k e => by
          have e2 : w4.heap.size = k := by simpa [Value.ownBlock] using e
          rw [← e2]; exact hqge)
        have hbx6 : w6.heap[wr.heap.size]? = some (.cells #[.string X, .int .u64 ((wd p 0 64 : Nat) : Int), .int .u64 ((wd p 64 64 : Nat) : Int), .int .u64 ((wd p 128 64 : Nat) : Int), .int .u64 ((wd p 192 64 : Nat) : Int)] 66 (0, 0)) := (HK6.out.block _ (by have := HCs.out; omega)).trans HBox.out
        have HBx6 := Lib.hid hbx6
        clear ho6 hg6 hat6 hlt6
        refine hK.out _ _ ?_ (fun _ => ?_)
        · exact hbx6
        clear hK K hbx6
        (try simp only [Act.put, List.getElem_toArray, List.getElem_cons_succ, List.getElem_cons_zero, List.setIfInBounds_toArray, List.set_cons_zero, List.set_cons_succ])
        refine wpAnyH_ready (rs := [7]) (by kernel_rfl) (by simp) ?_
        refine AllReadyH.cons rfl (fun K hK => ?_) AllReadyH.nil
        go_simp
        go_at_call 58
        have hwr6 : Below wr.heap.size wr w6 := HBc.out.trans (HK6.out.mono HBc.out.size)
        refine (wentry_any Sx w6 (w2.heap.size + 1) (plainLines L k) (HWs.out.next hwr6) ⟨#[99, 108, 97, 115, 115]⟩ _ (c.1 :: rgT (bl (el p 256))) (own_sa (xs := c.1 :: rgT (bl (el p 256))) (by
          have h := HO6.out
          rw [← HX.out] at h
          exact h) (by rw [List.length_cons, HMm.out]; omega)) (by simp) (by unfold plainLines; simp; omega) (by rw [List.length_cons, HMm.out]; omega) (by have := HSm.out; unfold clsRg at this; exact Nat.le_trans this (by decide))).mono ?_
        rintro e w7 hwt
        have hbx7 : w7.heap[wr.heap.size]? = some (.cells #[.string X, .int .u64 ((wd p 0 64 : Nat) : Int), .int .u64 ((wd p 64 64 : Nat) : Int), .int .u64 ((wd p 128 64 : Nat) : Int), .int .u64 ((wd p 192 64 : Nat) : Int)] 66 (0, 0)) := (hwt.2.2.block _ (by have := HCs.out; have := HK6.out.size; omega) (fun he => by
          rcases he with he | he
          · exact Nat.lt_irrefl _ (HSx.out _ he).2
          · omega)).trans HBx6.out
        have hfs := FS.wrote (w0 := w) (Nat.lt_of_lt_of_le hBl hwr6.size) (HBw.out.trans (hwr6.mono HBw.out.size)) (fun g hg => ⟨(HSx.out g hg).1, Nat.lt_of_lt_of_le (HSx.out g hg).2 hwr6.size⟩) hwB hwt
        obtain ⟨rfl, -, -⟩ := hwt
        have ha7 := (HAr.out.under hwr6 HAr.out.lt).under hfs.2 (by omega)
        have HF7 := Lib.hid hfs.1
        have HA7 := Lib.hid ha7
        clear hfs ha7 hwr6
        refine hK.out _ _ ?_ (fun _ => ?_)
        · exact hbx7
        clear hK K hbx7
        (try simp only [Act.put, List.getElem_toArray, List.getElem_cons_succ, List.getElem_cons_zero, List.setIfInBounds_toArray, List.set_cons_zero, List.set_cons_succ])
        refine wpAnyH_done (by kernel_rfl) ?_ _
        go_wp2
        go_roundw
        case rel =>
          refine ⟨k + 1, by omega, by go_num, ?_, HA7.out⟩
          have h := HF7.out
          have e : plainLines L (k + 1) = plainLines L k ++ [clsLine c] := by
            unfold plainLines
            rw [List.take_succ_eq_append_getElem hkL, HCk2.out, List.map_append]
            rfl
          rw [e]
          have e2 : clsLine c = jw (kCls :: c.1 :: rgT (bl (el p 256))) := by unfold clsLine clsRg; rw [HP.out]
          rw [e2]
          exact h
        case measure => simp [intOf]; omega
    · obtain rfl : k = n := by omega
      obtain ⟨Sx, ⟨v, hv, hov, hvS, hvB⟩, hbw, hSx, hwB⟩ := HR.out.1
      obtain ⟨⟨x0, x1, x2⟩, ⟨x3, x4, x5⟩, xf⟩ := HR.out.2.six
      have hcv : wr.cell? ⟨w2.heap.size + 1, 0, none⟩ = some v := cell_of_row wr _ 0 _ _ _ hv
      obtain ⟨av, cv, rfl⟩ : ∃ av cv, v = .slice (some ⟨av, 0, none⟩) (plainLines L k).length cv := by
        rcases Joins.ownsRow_forms hov with ⟨_, h0⟩ | ⟨g, c, h⟩
        · unfold plainLines at h0; simp at h0
        · exact ⟨g, c, h⟩
      have hsa := own_sa hov rfl
      have hkL : k = L.cls.length := HN.out
      have HJn := Lib.hid (tjoin_any _ _ true wr hsa (by rw [hkL]; exact HJ.out))
      have HFk : Hid (F = jn (plainLines L k) true) := by show F = _; rw [← HF.out, hkL]; rfl
      have HBw := Lib.hid hbw
      have hli : ((plainLines L k).length : Int) ≤ 1000000 := by unfold plainLines; simp; omega
      generalize (plainLines L k).length = nl at hcv HJn hli
      clear hv hov hvS hvB hbw hSx hsa x0 x1 x2 x3 x4 xf hkL
      go_wp2
      go_loopw [51] (fun i wz => i = .int .i64 0 ∧ wz = wr) (fun _ _ => 0)
      case atStart => exact ⟨rfl, rfl⟩
      case round =>
        obtain ⟨rfl, rfl⟩ := hrel
        go_wp2_with (first
          | (go_at_call 64
             refine HJn.out.mono ?_
             rintro e w9 ⟨rfl, hb⟩
             have HB9 := Lib.hid (HBw.out.trans (hb.mono HBw.out.size))
             clear hb))
        go_ret
        exact ⟨by rw [HFk.out] <;> rfl, HB9.out⟩
end Go.Proofs.YticfhbffoajgcaaGreatDoor
/- The chapter's examples. (Written by gen_ltaw.py.) -/
set_option linter.unusedVariables false
set_option maxRecDepth 100000
namespace Go.Proofs.YticfhbffoajgcaaGreatDoor
open Go.RowKit

def aw1 : List UInt8 := [108, 111, 99, 97, 108, 101, 32, 97, 10, 99, 108, 97, 115, 115, 32, 118, 32, 57, 55, 32, 49, 48, 49, 45, 49, 48, 50, 10]
def aw2 : List UInt8 := [108, 111, 99, 97, 108, 101, 32, 97, 10, 10, 108, 111, 119, 101, 114, 32, 54, 53, 32, 50, 53, 54]
def awP : Nat → Bool := fun c => (false || between 97 97 c) || between 101 102 c
def L1 : PL := { PLdef with name := [97], cls := [([118], awP)] }
theorem aw_one : parseT aw1 = .ok L1 := by kernel_rfl
theorem aw_two : parseT aw2 = .error (2, 3) := by kernel_rfl
theorem aw_rg : clsRg awP = [[57, 55], [49, 48, 49, 45, 49, 48, 50]] := by decide +kernel
theorem aw_chk : chk (toLoc 256 L1) = 0 := by decide +kernel
theorem aw_txt : fmtP L1 = aw1 := by decide +kernel
theorem ex1_any (Lo Up : ByteArray) (hLo : mk (lowL 256) = Lo) (hUp : mk (upL 256) = Up) (w : World) : Calls Tryz.prog 9 #[.string ⟨#[108, 111, 99, 97, 108, 101, 32, 97, 10, 99, 108, 97, 115, 115, 32, 118, 32, 57, 55, 32, 49, 48, 49, 45, 49, 48, 50, 10]⟩] w fun e w' => ∃ x cw ac cc ae ce, e = .returned (.tuple #[.agg #[.string (mk [97]), .slice (some ⟨x, 0, none⟩) 256 cw, .string Lo, .string Up, .slice ac 1 cc, .slice ae 0 ce], .int .i64 0, .int .i64 0]) ∧ LocM w' (toLoc 256 L1) (.slice (some ⟨x, 0, none⟩) 256 cw) (.slice ac 1 cc) (.slice ae 0 ce) ∧ Below w.heap.size w w' := by
  refine (ltParse_any ⟨#[108, 111, 99, 97, 108, 101, 32, 97, 10, 99, 108, 97, 115, 115, 32, 118, 32, 57, 55, 32, 49, 48, 49, 45, 49, 48, 50, 10]⟩ w).mono ?_
  intro e w' h
  obtain ⟨hb, h⟩ := h
  rw [show parseT (⟨#[108, 111, 99, 97, 108, 101, 32, 97, 10, 99, 108, 97, 115, 115, 32, 118, 32, 57, 55, 32, 49, 48, 49, 45, 49, 48, 50, 10]⟩ : ByteArray).data.toList = .ok L1 from aw_one] at h
  obtain ⟨W, C, E, rfl, ⟨S, hlm, hS⟩, hF⟩ := h
  have hM := hlm.loc
  obtain ⟨⟨x, ⟨cw, cs, rfl, _⟩, _⟩, hc, he, _⟩ := hlm
  obtain ⟨ac, cc, rfl⟩ := own_form hc
  obtain ⟨ae, ce, rfl⟩ := own_form he
  refine ⟨x, cw, ac, cc, ae, ce, ?_, hM, hb⟩
  rw [← hLo, ← hUp]
  rfl
theorem ex2_any (w : World) : Calls Tryz.prog 9 #[.string ⟨#[108, 111, 99, 97, 108, 101, 32, 97, 10, 10, 108, 111, 119, 101, 114, 32, 54, 53, 32, 50, 53, 54]⟩] w fun e w' => e = .returned (.tuple #[.agg zeroL, .int .i64 2, .int .i64 3]) ∧ Below w.heap.size w w' := by
  refine (ltParse_any ⟨#[108, 111, 99, 97, 108, 101, 32, 97, 10, 10, 108, 111, 119, 101, 114, 32, 54, 53, 32, 50, 53, 54]⟩ w).mono ?_
  intro e w' h
  obtain ⟨hb, h⟩ := h
  rw [show parseT (⟨#[108, 111, 99, 97, 108, 101, 32, 97, 10, 10, 108, 111, 119, 101, 114, 32, 54, 53, 32, 50, 53, 54]⟩ : ByteArray).data.toList = .error (2, 3) from aw_two] at h
  exact ⟨h, hb⟩
theorem aw_fmt (Lo Up : ByteArray) (hLo : mk (lowL 256) = Lo) (hUp : mk (upL 256) = Up) (x cw cc ce : Nat) (ac ae : Option Addr) (w : World) (hM : LocM w (toLoc 256 L1) (.slice (some ⟨x, 0, none⟩) 256 cw) (.slice ac 1 cc) (.slice ae 0 ce)) (hT : tabAt w) :
    Calls Tryz.prog 34 #[.agg #[.string (mk [97]), .slice (some ⟨x, 0, none⟩) 256 cw, .string Lo, .string Up, .slice ac 1 cc, .slice ae 0 ce]] w fun e w' => e = .returned (.string (mk aw1)) ∧ Below w.heap.size w w' := by
  have h := format_plain L1 rfl rfl rfl rfl aw_chk (by decide) (fun c hc => by
    have : c = ([118], awP) := by simpa [L1] using hc
    subst this
    rw [aw_rg]; decide) (fun c hc => by
    have : c = ([118], awP) := by simpa [L1] using hc
    subst this
    rw [aw_rg]; decide) (fun c hc => by
    have : c = ([118], awP) := by simpa [L1] using hc
    subst this
    rw [aw_rg]; decide) (by decide) (by
    have : plainLines L1 L1.cls.length = [[108, 111, 99, 97, 108, 101, 32, 97], [99, 108, 97, 115, 115, 32, 118, 32, 57, 55, 32, 49, 48, 49, 45, 49, 48, 50]] := by decide +kernel
    rw [this]; decide) _ _ _ w hM hT
  rw [aw_txt] at h
  rw [← hLo, ← hUp]
  exact h
set_option maxHeartbeats 8000000 in
theorem ltAwake_any (w : World) (hT : tabAt w) : Calls Tryz.prog 12 #[] w fun e w' => e = .returned (.bool true) ∧ Below w.heap.size w w' := by
  obtain ⟨Lo, hLo⟩ : ∃ Lo, mk (lowL 256) = Lo := ⟨_, rfl⟩
  obtain ⟨Up, hUp⟩ : ∃ Up, mk (upL 256) = Up := ⟨_, rfl⟩
  have H1 := Lib.hid (ex1_any Lo Up hLo hUp w)
  have H2 := Lib.hid ex2_any
  have HF := Lib.hid (aw_fmt Lo Up hLo hUp)
  obtain ⟨Nm, hNm⟩ : ∃ Nm, mk [97] = Nm := ⟨_, rfl⟩
  obtain ⟨Tx, hTx⟩ : ∃ Tx, mk aw1 = Tx := ⟨_, rfl⟩
  rw [hNm] at H1 HF
  rw [hTx] at HF
  have hn : (Nm.toList == [97]) = true := by rw [← hNm, toList_mk]; rfl
  have ht : (Tx.toList == [108, 111, 99, 97, 108, 101, 32, 97, 10, 99, 108, 97, 115, 115, 32, 118, 32, 57, 55, 32, 49, 48, 49, 45, 49, 48, 50, 10]) = true := by rw [← hTx, toList_mk]; decide
  have HT := Lib.hid hT
  unfold zeroL at H2
  clear hLo hUp hNm hTx hT
  go_enter Tryz.func12, Tryz.ntmps12
  go_wp2_with (first
    | (go_at_call 9
       with_reducible refine H1.out.mono ?_
       rintro e w1 ⟨x, cw, ac, cc, ae, ce, rfl, hm, hb⟩
       have HM1 := Lib.hid hm
       have HB1 := Lib.hid hb
       have HBx : Hid (Below w1.heap.size w1 (w1.alloc (.cells #[.string Nm, .slice (some ⟨x, 0, none⟩) 256 cw, .string Lo, .string Up, .slice ac 1 cc, .slice ae 0 ce] 26))) := (Below.refl _ _).alloc (Nat.le_refl _) _
       have HA1 : Hid (LAt (w1.alloc (.cells #[.string Nm, .slice (some ⟨x, 0, none⟩) 256 cw, .string Lo, .string Up, .slice ac 1 cc, .slice ae 0 ce] 26)) w1.heap.size #[.string Nm, .slice (some ⟨x, 0, none⟩) 256 cw, .string Lo, .string Up, .slice ac 1 cc, .slice ae 0 ce]) := heap_alloc_new w1 _
       clear hm hb)
    | (go_at_call 9
       refine (H2.out _).mono ?_
       rintro e w2 ⟨rfl, hb⟩
       have hbz : Below w2.heap.size w2 (w2.alloc (.cells #[.string ⟨#[]⟩, .slice none 0 0, .string ⟨#[]⟩, .string ⟨#[]⟩, .slice none 0 0, .slice none 0 0] 26)) := (Below.refl _ _).alloc (Nat.le_refl _) _
       have hbb := HBx.out.trans (hb.mono HBx.out.size)
       have ha := (HA1.out.under hb HA1.out.lt).under hbz (Nat.lt_of_lt_of_le HA1.out.lt hb.size)
       have HM2 := Lib.hid ((HM1.out.below hbb).below hbz)
       have HB2 := Lib.hid ((HB1.out.trans (hbb.mono HB1.out.size)).trans (hbz.mono (Nat.le_trans HB1.out.size hbb.size)))
       have HT2 := Lib.hid (tab_keep HT.out HB2.out)
       have hlt := ha.lt
       have hl2 : w1.heap.size < w2.heap.size := Nat.lt_of_lt_of_le HA1.out.lt hb.size
       obtain ⟨⟨x0, x1, x2⟩, ⟨x3, x4, x5⟩, xf⟩ := (HA1.out.under hb HA1.out.lt).six
       clear hb hbz hbb ha hlt)
    | (go_at_call 34
       refine (HF.out x cw cc ce ac ae _ HM2.out HT2.out).mono ?_
       rintro e w3 ⟨rfl, hb⟩
       have HB3 := Lib.hid (HB2.out.trans (hb.mono HB2.out.size))
       clear hb))
  go_ret
  exact ⟨rfl, HB3.out⟩
end Go.Proofs.YticfhbffoajgcaaGreatDoor
