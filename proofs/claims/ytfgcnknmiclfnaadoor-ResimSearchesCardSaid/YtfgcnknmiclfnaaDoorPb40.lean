/- RsRfi. -/
import Derived.Test.YtfgcnknmiclfnaaDoorPb39
set_option linter.unusedVariables false
set_option linter.unusedSimpArgs false
set_option maxRecDepth 100000
set_option maxHeartbeats 8000000
namespace Go.Proofs.YtfgcnknmiclfnaaDoor
open Go.RowKit
noncomputable def mtB (L : List IN) (ln : Bool) (s : List UInt8) (n : Nat) : Nat → Bool := fun e => @decide (valL L = true ∧ Mt L ln s n e) (Classical.propDecidable _)
theorem mtB_iff {L : List IN} {ln : Bool} {s : List UInt8} {n e : Nat} : mtB L ln s n e = true ↔ valL L = true ∧ Mt L ln s n e := by simp [mtB]
theorem mtB_start (L : List IN) (ln : Bool) (s : List UInt8) (n : Nat) : yk (mtB L ln s n) n = [] := by
  unfold yk
  rw [List.filter_eq_nil_iff]
  intro e he h
  rw [List.mem_range] at he
  have := (mtB_iff.1 h).2.le
  omega
def ESpec (L : List IN) (ln : Bool) (s : List UInt8) (a : Int) (zs : List Nat) : Prop := zs.Pairwise (· < ·) ∧ ∀ e, e ∈ zs ↔ (valL L = true ∧ ∃ n : Nat, a = (n : Int) ∧ Mt L ln s n e)
theorem es_yk {L : List IN} {ln : Bool} {s : List UInt8} {n E : Nat} (h : s.length < E) : ESpec L ln s (n : Int) (yk (mtB L ln s n) E) := by
  refine ⟨List.Pairwise.filter _ List.pairwise_lt_range, fun e => ?_⟩
  unfold yk
  rw [List.mem_filter, List.mem_range, mtB_iff]
  constructor
  · rintro ⟨_, h1, h2⟩
    exact ⟨h1, n, rfl, h2⟩
  · rintro ⟨h1, n', e1, h2⟩
    obtain rfl : n = n' := by omega
    exact ⟨by have := h2.1; omega, h1, h2⟩
theorem es_neg {L : List IN} {ln : Bool} {s : List UInt8} {a : Int} (h : a < 0) : ESpec L ln s a [] :=
  ⟨List.Pairwise.nil, fun e => ⟨(fun h => by simp at h), fun ⟨_, n, e1, _⟩ => by omega⟩⟩
def FJ (L : List IN) (zs : List Nat) (k : Nat) (fd : Bool) : Prop := fd = true ↔ ∃ i b, i < k ∧ zs[i]? = some b ∧ opAt L b 6 = true
theorem FJ.start (L : List IN) (zs : List Nat) : FJ L zs 0 false := ⟨(fun h => by cases h), fun ⟨i, b, h, _⟩ => by omega⟩
theorem FJ.next {L : List IN} {zs : List Nat} {k b : Nat} {fd : Bool} (h : FJ L zs k fd) (hb : zs[k]? = some b) : FJ L zs (k + 1) (fd || opAt L b 6) := by
  constructor
  · intro hf
    rw [Bool.or_eq_true] at hf
    rcases hf with hf | hf
    · obtain ⟨i, c, h1, h2⟩ := h.1 hf
      exact ⟨i, c, by omega, h2⟩
    · exact ⟨k, b, by omega, hb, hf⟩
  · rintro ⟨i, c, h1, h2, h3⟩
    rw [Bool.or_eq_true]
    by_cases e : i = k
    · subst e
      rw [hb] at h2
      cases h2
      exact .inr h3
    · exact .inl (h.2 ⟨i, c, by omega, h2, h3⟩)
theorem FJ.done {L : List IN} {ln : Bool} {s : List UInt8} {n E : Nat} {zs : List Nat} {fd : Bool} (h : FJ L zs zs.length fd) (hT : TSpec L ln s (n : Int) (E : Int) zs) : fd = mtB L ln s n E := by
  rw [Bool.eq_iff_iff, mtB_iff]
  constructor
  · intro hf
    obtain ⟨i, b, h3, h4, h5⟩ := h.1 hf
    obtain ⟨hv, n', m', e1, e2, h6, h7, h8, h9⟩ := (hT.2 b).1 (List.mem_iff_getElem?.2 ⟨i, h4⟩)
    obtain rfl : n = n' := by omega
    obtain rfl : E = m' := by omega
    exact ⟨hv, h7, b, h5, h9⟩
  · rintro ⟨hv, h6, b, h7, h8⟩
    obtain ⟨i, hi⟩ := List.mem_iff_getElem?.1 ((hT.2 b).2 ⟨hv, n, E, rfl, rfl, h8.le, h6, op6_trm h7, h8⟩)
    exact h.2 ⟨i, b, (List.getElem?_eq_some_iff.1 hi).1, hi, h7⟩
theorem rends_any (L : List IN) (pv : Value) (n0 : Nat) (ln : Bool) (sv : ByteArray) (a : Int) (w : World) (hp : PI w n0 L pv) (hLn : L.length ≤ 1000000) (hs : sv.size ≤ 1000000) :
    Calls Tryd.prog 40 #[.agg #[pv, .bool ln], .string sv, .int .i64 a] w fun e w' => (∃ v zs, e = .returned v ∧ IL w' w.heap.size zs v ∧ ESpec L ln sv.data.toList a zs) ∧ Below w.heap.size w w' := by
  obtain ⟨ad, cap, rfl⟩ := hp.form
  obtain ⟨R, hR⟩ : ∃ R, w.heap.size = R := ⟨_, rfl⟩
  have hb := (Below.refl w.heap.size w).alloc (Nat.le_refl _) (.cells #[.slice ad L.length cap, .bool ln] 24)
  have hbx := heap_alloc_new w (.cells #[.slice ad L.length cap, .bool ln] 24)
  obtain ⟨W, hW⟩ : ∃ W, W = w.alloc (.cells #[.slice ad L.length cap, .bool ln] 24) := ⟨_, rfl⟩
  rw [← hW] at hb hbx
  rw [hR] at hbx
  have q0 := cell_of_row W R 0 _ _ _ hbx
  have q1 := cell_of_row W R 1 _ _ _ hbx
  have hlW : R < W.heap.size := (Array.getElem?_eq_some_iff.1 hbx).1
  have hpW := hp.below hb
  have HX := Lib.hid hbx
  have HB := Lib.hid hb
  have HW := Lib.hid hW
  have HP := Lib.hid hpW
  have hsI : (sv.size : Int) ≤ 1000000 := by omega
  have hLI : (L.length : Int) ≤ 1000000 := by omega
  clear hb hbx hW hp hpW
  by_cases ha : a < 0
  · go_enter Tryd.func40, Tryd.ntmps40
    go_upto_region 1 with fail
    rw [← HW.out]
    go_wp2_with fail
    go_ret
    try rw [← hR]
    refine ⟨?_, HB.out⟩
    first | exact ⟨_, [], rfl, il_nil _ _, es_neg ha⟩ | exact ⟨_, rfl, [], il_nil _ _, es_neg ha⟩
  obtain ⟨n, rfl⟩ : ∃ n : Nat, a = (n : Int) := ⟨a.toNat, by omega⟩
  have HTh := Lib.hid (fun (E : Nat) (W : World) hp => rthreads_any L (.slice ad L.length cap) n0 ln sv (n : Int) (E : Int) W hp (by omega) (by omega))
  obtain ⟨B0, hB0⟩ : ∃ B0, W.heap.size = B0 := ⟨_, rfl⟩
  have HB0 := Lib.hid hB0
  have hRB : R < B0 := by omega
  have HwB : Hid (w.heap.size ≤ B0) := Lib.hid (by omega)
  clear hB0
  go_enter Tryd.func40, Tryd.ntmps40
  go_upto_region 1 with fail
  rw [← HW.out]
  go_wp2_with fail
  go_loopw [7, 8] (fun x y wr => ∃ (E : Nat) (u : Value), u = x ∧ n ≤ E ∧ (E = n ∨ E ≤ sv.size + 1) ∧ y = .int .i64 E ∧ Hid (wr.ownsRow B0 3 1 u (yk (mtB L ln sv.data.toList n) E).length (rowN (yk (mtB L ln sv.data.toList n) E))) ∧ Hid (Below B0 W wr)) (fun _ y _ => sv.size + 1 - (intOf y).toNat)
  case atStart => exact ⟨n, _, rfl, Nat.le_refl _, .inl rfl, rfl, Lib.hid (by rw [mtB_start]; exact ⟨rfl, .inl ⟨rfl, rfl⟩⟩), Lib.hid (Below.refl _ _)⟩
  case round =>
    obtain ⟨E, u, rfl, hnE, hE, rfl, HO, HBr⟩ := hrel
    rename World => wA
    have hx := (HBr.out.block R hRB).trans HX.out
    have q0 := cell_of_row wA R 0 _ _ _ hx
    have q1 := cell_of_row wA R 1 _ _ _ hx
    have hlA : R < wA.heap.size := (Array.getElem?_eq_some_iff.1 hx).1
    clear hx
    by_cases hgo : E ≤ sv.size
    · have i1 : (E : Int) ≤ (sv.size : Int) := by omega
      have hE1 : E ≤ 1000000 := by omega
      have HBW : Hid (Below W.heap.size W wA) := Lib.hid (by rw [HB0.out]; exact HBr.out)
      go_wp2_with (first
        | (go_at_call 14; (with_reducible refine (HTh.out E _ (HP.out.below HBW.out)).mono ?_); rintro e w5 ⟨⟨v, zs, rfl, ⟨zad, zcap, rfl, hz⟩, hts⟩, hb5⟩
           have HZ := Lib.hid hz
           have HT := Lib.hid hts
           have HB5 := Lib.hid hb5
           clear hz hts hb5 q0 q1 hlA))
      have hzI : (zs.length : Int) ≤ 1000000 := by have := ts_len HT.out; omega
      have hA5 : wA.heap.size ≤ w5.heap.size := HB5.out.size
      have hBA : B0 ≤ wA.heap.size := by have := HBr.out.size; have := HB0.out; omega
      have HBr5 : Hid (Below B0 W w5) := Lib.hid (HBr.out.trans (HB5.out.mono hBA))
      have HO5 := Lib.hid (own_below HO.out HB5.out)
      have hx := (HBr5.out.block R hRB).trans HX.out
      have q0 := cell_of_row w5 R 0 _ _ _ hx
      have q1 := cell_of_row w5 R 1 _ _ _ hx
      have hl5 : R < w5.heap.size := (Array.getElem?_eq_some_iff.1 hx).1
      clear hx
      go_loopw [9, 28] (fun x y wr => ∃ (k : Nat) (fd : Bool), k ≤ zs.length ∧ x = .bool fd ∧ y = .int .i64 k ∧ wr = w5 ∧ Hid (FJ L zs k fd)) (fun _ y _ => zs.length - (intOf y).toNat)
      case atStart => exact ⟨0, false, Nat.zero_le _, rfl, rfl, rfl, Lib.hid (FJ.start _ _)⟩
      case round =>
        obtain ⟨k, fd, hk, rfl, rfl, rfl, HJ⟩ := hrel
        by_cases hkn : k < zs.length
        · have k1 : (k : Int) < (zs.length : Int) := by omega
          have k0 : (0 : Int) ≤ (k : Int) := by omega
          obtain ⟨b, hb⟩ : ∃ b, b = zs[k] := ⟨_, rfl⟩
          have hbs : zs[k]? = some b := by rw [hb]; exact List.getElem?_eq_getElem hkn
          have hbL : b < L.length := ts_lt HT.out (by rw [hb]; exact List.getElem_mem _)
          rcases HZ.out with h0 | ⟨zb, zoff, rfl, hz0, hzl, hzc⟩
          · omega
          have z0 := hzc k hkn
          rw [← hb] at z0
          obtain ⟨pb, pi, rfl, hpl, hrow⟩ := rows_after HP.out (by omega)
          obtain ⟨x, hx⟩ : ∃ x, x = L[b] := ⟨_, rfl⟩
          have hB5W : Below W.heap.size W wr := by rw [HB0.out]; exact HBr5.out
          have l0 : wr.cell? ⟨pb, pi + b * 7, none⟩ = some (.int .i64 x.op) := by rw [hx]; exact hrow b hbL wr hB5W 0 _ rfl (by decide)
          have hpb : pb < wr.heap.size := Nat.lt_of_lt_of_le hpl hB5W.size
          have hop : opAt L b 6 = decide (x.op = 6) := by unfold opAt; rw [List.getElem?_eq_getElem hbL, ← hx]
          have j3 : (0 : Int) ≤ (b : Int) := by omega
          have j4 : (b : Int) < (L.length : Int) := by omega
          have HN := Lib.hid (HJ.out.next hbs)
          rw [hop] at HN
          clear hb hbs hzc hrow hx hop hB5W
          cases fd with
          | true =>
            go_wp2_with fail
            go_roundw
            case rel => exact ⟨k + 1, true, by omega, rfl, by go_num, (by first | exact trivial | rfl), HN⟩
            case measure => simp [intOf]; omega
          | false =>
            by_cases h6 : x.op = 6
            · have g6 : (x.op == (6 : Int)) = true := by simp [h6]
              have HN2 : Hid (FJ L zs (k + 1) true) := Lib.hid (by have := HN.out; simpa [h6] using this)
              clear h6
              go_wp2_with fail
              go_roundw
              case rel => exact ⟨k + 1, true, by omega, rfl, by go_num, (by first | exact trivial | rfl), HN2⟩
              case measure => simp [intOf]; omega
            · have g6 : (x.op == (6 : Int)) = false := by simp [h6]
              have HN2 : Hid (FJ L zs (k + 1) false) := Lib.hid (by have := HN.out; simpa [h6] using this)
              clear h6
              go_wp2_with fail
              go_roundw
              case rel => exact ⟨k + 1, false, by omega, rfl, by go_num, (by first | exact trivial | rfl), HN2⟩
              case measure => simp [intOf]; omega
        · obtain rfl : k = zs.length := by omega
          have HD := Lib.hid (HJ.out.done HT.out)
          clear hkn q0 q1
          cases fd with
          | true =>
            have HN : Hid (yk (mtB L ln sv.data.toList n) (E + 1) = yk (mtB L ln sv.data.toList n) E ++ [E]) := Lib.hid (yk_yes HD.out.symm)
            have hBs : B0 ≤ wr.heap.size := by omega
            have hyl : (yk (mtB L ln sv.data.toList n) E).length ≤ 1000000 := by have := yk_len (mtB L ln sv.data.toList n) E; omega
            obtain ⟨uad, ucap, e⟩ := own_sl HO5.out
            subst e
            go_wp2_with (at_builtin; refine app1 B0 35 3 (.int .i64 0) 1 8 Tryd.underlying35 info_int rfl (by decide) wr rfl (.tmp 44) (.tmp 46) rfl hBs (.slice uad (yk (mtB L ln sv.data.toList n) E).length ucap) (yk (mtB L ln sv.data.toList n) E).length (rowN (yk (mtB L ln sv.data.toList n) E)) [.int .i64 (E : Int)] rfl rfl HO5.out _ rfl rfl rfl ?d1 ?d2 ?d3 ?_)
            case d1 => first | rfl | (intro u hu; simp at hu; subst hu; rfl)
            case d2 => unfold maxLen; omega
            case d3 => omega
            intro g cp w7 ho7 hk7 hg7
            have HO7 := Lib.hid ho7
            have HB7 : Hid (Below B0 W w7) := Lib.hid (HBr5.out.trans (hk7.below hBs (fun b e => (own_at HO5.out b e).1)))
            clear ho7 hk7 hg7
            go_wp2
            go_roundw
            case rel => exact ⟨E + 1, _, rfl, by omega, .inr (by omega), by go_num, Lib.hid (by rw [HN.out, List.length_append, rowN, List.map_append]; exact HO7.out), HB7⟩
            case measure => simp [intOf]; omega
          | false =>
            have HN : Hid (yk (mtB L ln sv.data.toList n) (E + 1) = yk (mtB L ln sv.data.toList n) E) := Lib.hid (yk_no HD.out.symm)
            go_wp2_with fail
            go_roundw
            case rel => exact ⟨E + 1, _, rfl, by omega, .inr (by omega), by go_num, by rw [HN.out]; exact HO5, HBr5⟩
            case measure => simp [intOf]; omega
    · have i1 : ¬ ((E : Int) ≤ (sv.size : Int)) := by omega
      have HE := Lib.hid (es_yk (L := L) (ln := ln) (s := sv.data.toList) (n := n) (E := E) (by rw [lb_len]; omega))
      go_wp2_with fail
      go_ret
      try rw [← hR]
      refine ⟨?_, HB.out.trans (HBr.out.mono HwB.out)⟩
      first | exact ⟨_, _, rfl, IL.low (il_own HO.out) HwB.out, HE.out⟩ | exact ⟨_, rfl, _, IL.low (il_own HO.out) HwB.out, HE.out⟩
theorem es_ls {L : List IN} {ln : Bool} {s : List UInt8} {a : Int} {zs : List Nat} (h : ESpec L ln s a zs) : (zs.length = 0 → LSpec L ln s a 0 false) ∧ ∀ t, zs[zs.length - 1]? = some t → LSpec L ln s a t true := by
  constructor
  · intro h0
    refine .inr ⟨rfl, rfl, fun hv n e1 e hm => ?_⟩
    have := (h.2 e).2 ⟨hv, n, e1, hm⟩
    rw [List.eq_nil_of_length_eq_zero h0] at this
    simp at this
  · intro t ht
    obtain ⟨hv, n, e1, hm⟩ := (h.2 t).1 (List.mem_iff_getElem?.2 ⟨_, ht⟩)
    refine .inl ⟨rfl, hv, n, e1, hm, fun e he => ?_⟩
    obtain ⟨i, hi⟩ := List.mem_iff_getElem?.1 ((h.2 e).2 ⟨hv, n, e1, he⟩)
    obtain ⟨h1, h2⟩ := List.getElem?_eq_some_iff.1 hi
    obtain ⟨h3, h4⟩ := List.getElem?_eq_some_iff.1 ht
    by_cases hE : i = zs.length - 1
    · subst hE; rw [hi] at ht; cases ht; exact Nat.le_refl _
    · have := (List.pairwise_iff_getElem.1 h.1) i (zs.length - 1) h1 h3 (by omega)
      omega
end Go.Proofs.YtfgcnknmiclfnaaDoor
