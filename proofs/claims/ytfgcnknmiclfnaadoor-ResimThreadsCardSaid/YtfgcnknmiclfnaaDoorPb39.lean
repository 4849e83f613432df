/- RsRfg. -/
import Derived.Test.YtfgcnknmiclfnaaDoorPb38
import Derived.Test.YtfgcnknmiclfnaaDoorPb29
set_option linter.unusedVariables false
set_option linter.unusedSimpArgs false
set_option maxRecDepth 100000
set_option maxHeartbeats 8000000
namespace Go.Proofs.YtfgcnknmiclfnaaDoor
open Go.RowKit
def yk (f : Nat → Bool) (k : Nat) : List Nat := (List.range k).filter f
theorem yk_yes {f : Nat → Bool} {k : Nat} (h : f k = true) : yk f (k + 1) = yk f k ++ [k] := by
  unfold yk
  rw [List.range_succ, List.filter_append]
  simp [h]
theorem yk_no {f : Nat → Bool} {k : Nat} (h : f k = false) : yk f (k + 1) = yk f k := by
  unfold yk
  rw [List.range_succ, List.filter_append]
  simp [h]
theorem yk_len (f : Nat → Bool) (k : Nat) : (yk f k).length ≤ k := by
  have := List.length_filter_le f (List.range k)
  rw [List.length_range] at this
  exact this
theorem yk_spec {L : List IN} {ln : Bool} {s : List UInt8} {n m : Nat} {M : Nat → Bool} (hv : valL L = true) (hnm : n ≤ m) (hm : m ≤ s.length) (h : ∀ b, b < L.length → (M b = true ↔ Rd L ln s n m b)) : TSpec L ln s (n : Int) (m : Int) (yk (fun b => M b && trm L b) L.length) := by
  refine ⟨List.Pairwise.filter _ List.pairwise_lt_range, fun b => ?_⟩
  unfold yk
  rw [List.mem_filter, List.mem_range, Bool.and_eq_true]
  constructor
  · rintro ⟨h1, h2, h3⟩
    exact ⟨hv, n, m, rfl, rfl, hnm, hm, h3, (h b h1).1 h2⟩
  · rintro ⟨_, n', m', e1, e2, _, _, h1, h2⟩
    obtain rfl : n = n' := by omega
    obtain rfl : m = m' := by omega
    have hb : b < L.length := by
      unfold trm at h1
      cases e : L[b]? with
      | none => rw [e] at h1; cases h1
      | some x => exact (List.getElem?_eq_some_iff.1 e).1
    exact ⟨hb, (h b hb).2 h2, h1⟩
theorem il_own {w : World} {B : Nat} {ys : List Nat} {u : Value} (h : w.ownsRow B 3 1 u ys.length (rowN ys)) : IL w B ys u := by
  rcases h.2 with ⟨rfl, h0⟩ | ⟨g, cap, cur, rfl, hB, hg, hn, _⟩
  · exact ⟨none, 0, by rw [h0], .inl h0⟩
  · refine ⟨_, cap, rfl, .inr ⟨g, 0, rfl, hB, (Array.getElem?_eq_some_iff.1 hg).1, fun k hk => ?_⟩⟩
    rw [Nat.zero_add, h.cellAt k (by omega)]
    unfold rowN
    rw [List.getElem?_map, List.getElem?_eq_getElem hk]
    rfl
theorem IL.low {w : World} {n0 m : Nat} {zs : List Nat} {v : Value} (h : IL w n0 zs v) (hm : m ≤ n0) : IL w m zs v := by
  obtain ⟨ad, cap, h1, h2⟩ := h
  refine ⟨ad, cap, h1, ?_⟩
  rcases h2 with h2 | ⟨b, off, e, hn, r⟩
  · exact .inl h2
  · exact .inr ⟨b, off, e, by omega, r⟩
theorem rthreads_any (L : List IN) (pv : Value) (n0 : Nat) (ln : Bool) (sv : ByteArray) (a c : Int) (w : World) (hp : PI w n0 L pv) (hLn : L.length ≤ 9223372036854775807) (hs : sv.size ≤ 1000000000) :
    Calls Tryd.prog 14 #[.agg #[pv, .bool ln], .string sv, .int .i64 a, .int .i64 c] w fun e w' => (∃ v zs, e = .returned v ∧ IL w' w.heap.size zs v ∧ TSpec L ln sv.data.toList a c zs) ∧ Below w.heap.size w w' := by
  obtain ⟨ad, cap, rfl⟩ := hp.form
  obtain ⟨R, hR⟩ : ∃ R, w.heap.size = R := ⟨_, rfl⟩
  have hb := (Below.refl w.heap.size w).alloc (Nat.le_refl _) (.cells #[.slice ad L.length cap, .bool ln] 24)
  have hbx := heap_alloc_new w (.cells #[.slice ad L.length cap, .bool ln] 24)
  obtain ⟨W, hW⟩ : ∃ W, W = w.alloc (.cells #[.slice ad L.length cap, .bool ln] 24) := ⟨_, rfl⟩
  rw [← hW] at hb hbx
  rw [hR] at hbx
  have q0 := cell_of_row W R 0 _ _ _ hbx
  have q1 := cell_of_row W R 1 _ _ _ hbx
  have hlW : R < W.heap.size := (Array.getElem?_eq_some_iff.1 hbx).1
  have hpW := hp.below hb
  have HX := Lib.hid hbx
  have HB := Lib.hid hb
  have HW := Lib.hid hW
  have HP := Lib.hid hpW
  have HVal : Hid (Calls Tryd.prog 16 #[.agg #[.slice ad L.length cap, .bool ln]] W fun e w' => e = .returned (.bool (valL L)) ∧ Below W.heap.size W w') := Lib.hid (rvalid_any L _ n0 ln W hpW hLn)
  have HLn := Lib.hid hLn
  have hsI : (sv.size : Int) ≤ 1000000000 := by omega
  clear hb hbx hW hp hpW hLn
  obtain ⟨g, hg⟩ : ∃ g, valL L = g := ⟨_, rfl⟩
  rw [hg] at HVal
  have HV := Lib.hid hg
  clear hg
  by_cases hno : (a < 0 ∨ (sv.size : Int) < a ∨ valL L = false) ∨ c < a ∨ (sv.size : Int) < c
  · have HNo := Lib.hid (no_t (L := L) (ln := ln) (s := sv.data.toList) hno)
    have hcs : g = false ∨ (g = true ∧ a < 0) ∨ (g = true ∧ ¬ a < 0 ∧ c < a) ∨ (g = true ∧ ¬ a < 0 ∧ ¬ c < a ∧ (sv.size : Int) < c) := by
      have hv := HV.out
      cases g with
      | false => exact .inl rfl
      | true =>
        right
        by_cases h1 : a < 0
        · exact .inl ⟨rfl, h1⟩
        · right
          by_cases h2 : c < a
          · exact .inl ⟨rfl, h1, h2⟩
          · right
            refine ⟨rfl, h1, h2, ?_⟩
            rcases hno with (h | h | h) | h | h
            · exact absurd h h1
            · omega
            · rw [hv] at h; cases h
            · exact absurd h h2
            · exact h
    clear hno
    rcases hcs with rfl | ⟨rfl, h1⟩ | ⟨rfl, h1, h2⟩ | ⟨rfl, h1, h2, h3⟩
    · go_enter Tryd.func14, Tryd.ntmps14
      go_upto_region 1 with fail
      rw [← HW.out]
      go_wp2_with (first
        | (go_at_call 16; (with_reducible refine HVal.out.mono ?_); rintro e w3 ⟨rfl, hb3⟩
           have HB3 := Lib.hid hb3
           clear hb3 q0 q1))
      go_ret
      try rw [← hR]
      refine ⟨?_, HB.out.trans (HB3.out.mono HB.out.size)⟩
      first | exact ⟨_, [], rfl, il_nil _ _, HNo.out⟩ | exact ⟨_, rfl, [], il_nil _ _, HNo.out⟩
    · go_enter Tryd.func14, Tryd.ntmps14
      go_upto_region 1 with fail
      rw [← HW.out]
      go_wp2_with (first
        | (go_at_call 16; (with_reducible refine HVal.out.mono ?_); rintro e w3 ⟨rfl, hb3⟩
           have HB3 := Lib.hid hb3
           clear hb3 q0 q1))
      go_ret
      try rw [← hR]
      refine ⟨?_, HB.out.trans (HB3.out.mono HB.out.size)⟩
      first | exact ⟨_, [], rfl, il_nil _ _, HNo.out⟩ | exact ⟨_, rfl, [], il_nil _ _, HNo.out⟩
    · go_enter Tryd.func14, Tryd.ntmps14
      go_upto_region 1 with fail
      rw [← HW.out]
      go_wp2_with (first
        | (go_at_call 16; (with_reducible refine HVal.out.mono ?_); rintro e w3 ⟨rfl, hb3⟩
           have HB3 := Lib.hid hb3
           clear hb3 q0 q1))
      go_ret
      try rw [← hR]
      refine ⟨?_, HB.out.trans (HB3.out.mono HB.out.size)⟩
      first | exact ⟨_, [], rfl, il_nil _ _, HNo.out⟩ | exact ⟨_, rfl, [], il_nil _ _, HNo.out⟩
    · go_enter Tryd.func14, Tryd.ntmps14
      go_upto_region 1 with fail
      rw [← HW.out]
      go_wp2_with (first
        | (go_at_call 16; (with_reducible refine HVal.out.mono ?_); rintro e w3 ⟨rfl, hb3⟩
           have HB3 := Lib.hid hb3
           clear hb3 q0 q1))
      go_ret
      try rw [← hR]
      refine ⟨?_, HB.out.trans (HB3.out.mono HB.out.size)⟩
      first | exact ⟨_, [], rfl, il_nil _ _, HNo.out⟩ | exact ⟨_, rfl, [], il_nil _ _, HNo.out⟩
  have hv : valL L = true := by
    cases h : valL L with
    | true => rfl
    | false => exact absurd (.inl (.inr (.inr h))) hno
  rw [hv] at HV
  obtain rfl : g = true := HV.out.symm
  obtain ⟨n, rfl⟩ : ∃ n : Nat, a = (n : Int) := ⟨a.toNat, by have : ¬ a < 0 := fun h => hno (.inl (.inl h)); omega⟩
  have c1 : ¬ (c < (n : Int)) := fun h => hno (.inr (.inl h))
  obtain ⟨m, rfl⟩ : ∃ m : Nat, c = (m : Int) := ⟨c.toNat, by omega⟩
  have c2 : ¬ ((sv.size : Int) < (m : Int)) := fun h => hno (.inr (.inr h))
  have c0 : ¬ ((n : Int) < 0) := by omega
  have hnm : n ≤ m := by omega
  have hm : m ≤ sv.size := by omega
  have hL : L.length ≤ 4096 := by
    have hv2 := hv
    unfold valL at hv2
    rw [Bool.and_eq_true, Bool.and_eq_true] at hv2
    exact of_decide_eq_true hv2.2.1
  have HRe := Lib.hid (fun (W : World) hp => rreached_any L (.slice ad L.length cap) n0 ln sv n m W hp hv hnm hm hs)
  have HSp := Lib.hid (fun (M : Nat → Bool) h => yk_spec (M := M) hv hnm (s := sv.data.toList) (ln := ln) hm h)
  have hLI : (L.length : Int) ≤ 4096 := by omega
  clear hno hv
  go_enter Tryd.func14, Tryd.ntmps14
  go_upto_region 1 with fail
  rw [← HW.out]
  go_wp2_with (first
    | (go_at_call 16; (with_reducible refine HVal.out.mono ?_); rintro e w3 ⟨rfl, hb3⟩
       have HB3 := Lib.hid hb3
       have hx3 := (hb3.block R hlW).trans HX.out
       have hl3 : R < w3.heap.size := (Array.getElem?_eq_some_iff.1 hx3).1
       clear hb3 q0 q1
       have q0 := cell_of_row w3 R 0 _ _ _ hx3
       have q1 := cell_of_row w3 R 1 _ _ _ hx3
       clear hx3)
    | (go_at_call 27; (with_reducible refine (HRe.out _ (HP.out.below HB3.out)).mono ?_); rintro e wA ⟨⟨B, mc, rfl, hB, hmB, hsp⟩, hbA⟩
       have HMB := Lib.hid hmB
       have HSP := Lib.hid (HSp.out _ hsp)
       have HBA := Lib.hid (HB3.out.trans (hbA.mono HB3.out.size))
       clear hB hmB hsp hbA q0 q1 hl3))
  obtain ⟨M, hM⟩ : ∃ M, rdM wA B = M := ⟨_, rfl⟩
  have HM := Lib.hid hM
  rw [hM] at HSP
  clear hM
  obtain ⟨B0, hB0⟩ : ∃ B0, wA.heap.size = B0 := ⟨_, rfl⟩
  have HB0 := Lib.hid hB0
  have HwB : Hid (w.heap.size ≤ B0) := Lib.hid (by have := HB.out.size; have := HBA.out.size; omega)
  have HWB : Hid (W.heap.size ≤ B0) := Lib.hid (by have := HBA.out.size; omega)
  clear hB0
  go_loopw [9, 11] (fun x y wr => ∃ (k : Nat) (u : Value), u = x ∧ k ≤ L.length ∧ y = .int .i64 k ∧ Hid (wr.ownsRow B0 3 1 u (yk (fun b => M b && trm L b) k).length (rowN (yk (fun b => M b && trm L b) k))) ∧ Hid (Below B0 wA wr)) (fun _ y _ => L.length - (intOf y).toNat)
  case atStart => exact ⟨0, _, rfl, Nat.zero_le _, rfl, Lib.hid ⟨rfl, .inl ⟨rfl, rfl⟩⟩, Lib.hid (Below.refl _ _)⟩
  case round =>
    obtain ⟨k, u, rfl, hk, rfl, HO, HBr⟩ := hrel
    rename World => wB
    have HBB : Hid (Below W.heap.size W wB) := Lib.hid (HBA.out.trans (HBr.out.mono HWB.out))
    have hx := (HBB.out.block R hlW).trans HX.out
    have q0 := cell_of_row wB R 0 _ _ _ hx
    have q1 := cell_of_row wB R 1 _ _ _ hx
    have hlB : R < wB.heap.size := (Array.getElem?_eq_some_iff.1 hx).1
    clear hx
    by_cases hkn : k < L.length
    · have k1 : (k : Int) < (L.length : Int) := by omega
      have k0 : (0 : Int) ≤ (k : Int) := by omega
      have hBB0 : B < B0 := by rw [← HB0.out]; exact HMB.out.lt
      have e0 : wB.cell? ⟨B, k, none⟩ = some (.bool (M k)) := (HBr.out.cell (p := ⟨B, k, none⟩) hBB0).trans (by rw [HMB.out.c k hkn, HM.out])
      have hlM : B < wB.heap.size := by have := HBr.out.size; have := HB0.out; omega
      obtain ⟨pb, pi, rfl, hpl, hrow⟩ := rows_after HP.out (by omega)
      obtain ⟨x, hx⟩ : ∃ x, x = L[k] := ⟨_, rfl⟩
      have l0 : wB.cell? ⟨pb, pi + k * 7, none⟩ = some (.int .i64 x.op) := by rw [hx]; exact hrow k hkn wB HBB.out 0 _ rfl (by decide)
      have hpb : pb < wB.heap.size := by have := HBB.out.size; omega
      have HT : Hid (trm L k = (decide (x.op = 1) || decide (x.op = 6))) := Lib.hid (by unfold trm; rw [List.getElem?_eq_getElem hkn, ← hx])
      obtain ⟨g, hg⟩ : ∃ g, M k = g := ⟨_, rfl⟩
      rw [hg] at e0
      have HG := Lib.hid hg
      have hBs : B0 ≤ wB.heap.size := by have := HB0.out; have := HBr.out.size; omega
      have hyl : (yk (fun b => M b && trm L b) k).length ≤ 4096 := by have := yk_len (fun b => M b && trm L b) k; omega
      obtain ⟨uad, ucap, e⟩ := own_sl HO.out
      subst e
      clear hrow hx hg
      cases g with
      | false =>
        have HN : Hid (yk (fun b => M b && trm L b) (k + 1) = yk (fun b => M b && trm L b) k) := Lib.hid (yk_no (by simp [HG.out]))
        go_wp2_with fail
        go_roundw
        case rel => exact ⟨k + 1, _, rfl, by omega, by go_num, by rw [HN.out]; exact HO, HBr⟩
        case measure => simp [intOf]; omega
      | true =>
        by_cases h1 : x.op = 1
        · have HN : Hid (yk (fun b => M b && trm L b) (k + 1) = yk (fun b => M b && trm L b) k ++ [k]) := Lib.hid (yk_yes (by simp [HG.out, HT.out, h1]))
          rw [h1] at l0
          clear h1
          go_wp2_with (at_builtin; refine app1 B0 35 3 (.int .i64 0) 1 8 Tryd.underlying35 info_int rfl (by decide) wB rfl (.tmp 64) (.tmp 66) rfl hBs (.slice uad (yk (fun b => M b && trm L b) k).length ucap) (yk (fun b => M b && trm L b) k).length (rowN (yk (fun b => M b && trm L b) k)) [.int .i64 (k : Int)] rfl rfl HO.out _ rfl rfl rfl ?d1 ?d2 ?d3 ?_)
          case d1 => first | rfl | (intro u hu; simp at hu; subst hu; rfl)
          case d2 => unfold maxLen; omega
          case d3 => omega
          intro g cp w7 ho7 hk7 hg7
          have HO7 := Lib.hid ho7
          have HB7 : Hid (Below B0 wA w7) := Lib.hid (HBr.out.trans (hk7.below hBs (fun b e => (own_at HO.out b e).1)))
          clear ho7 hk7 hg7 e0 l0
          go_wp2
          go_roundw
          case rel => exact ⟨k + 1, _, rfl, by omega, by go_num, Lib.hid (by rw [HN.out, List.length_append, rowN, List.map_append]; exact HO7.out), HB7⟩
          case measure => simp [intOf]; omega
        · have g1 : (x.op == (1 : Int)) = false := by simp [h1]
          by_cases h6 : x.op = 6
          · have HN : Hid (yk (fun b => M b && trm L b) (k + 1) = yk (fun b => M b && trm L b) k ++ [k]) := Lib.hid (yk_yes (by simp [HG.out, HT.out, h6]))
            rw [h6] at l0
            clear h1 h6 g1
            go_wp2_with (at_builtin; refine app1 B0 35 3 (.int .i64 0) 1 8 Tryd.underlying35 info_int rfl (by decide) wB rfl (.tmp 64) (.tmp 66) rfl hBs (.slice uad (yk (fun b => M b && trm L b) k).length ucap) (yk (fun b => M b && trm L b) k).length (rowN (yk (fun b => M b && trm L b) k)) [.int .i64 (k : Int)] rfl rfl HO.out _ rfl rfl rfl ?d1 ?d2 ?d3 ?_)
            case d1 => first | rfl | (intro u hu; simp at hu; subst hu; rfl)
            case d2 => unfold maxLen; omega
            case d3 => omega
            intro g cp w7 ho7 hk7 hg7
            have HO7 := Lib.hid ho7
            have HB7 : Hid (Below B0 wA w7) := Lib.hid (HBr.out.trans (hk7.below hBs (fun b e => (own_at HO.out b e).1)))
            clear ho7 hk7 hg7 e0 l0
            go_wp2
            go_roundw
            case rel => exact ⟨k + 1, _, rfl, by omega, by go_num, Lib.hid (by rw [HN.out, List.length_append, rowN, List.map_append]; exact HO7.out), HB7⟩
            case measure => simp [intOf]; omega
          · have g6 : (x.op == (6 : Int)) = false := by simp [h6]
            have HN : Hid (yk (fun b => M b && trm L b) (k + 1) = yk (fun b => M b && trm L b) k) := Lib.hid (yk_no (by simp [HT.out, h1, h6]))
            clear h1 h6
            go_wp2_with fail
            go_roundw
            case rel => exact ⟨k + 1, _, rfl, by omega, by go_num, by rw [HN.out]; exact HO, HBr⟩
            case measure => simp [intOf]; omega
    · obtain rfl : k = L.length := by omega
      go_wp2_with fail
      go_ret
      exact ⟨⟨_, _, rfl, IL.low (il_own HO.out) (by first | exact HwB.out | (have := HwB.out; omega)), HSP.out⟩, HB.out.trans ((HBA.out.trans (HBr.out.mono HWB.out)).mono HB.out.size)⟩
end Go.Proofs.YtfgcnknmiclfnaaDoor
