/- RsRfj. -/
import Derived.Test.YtfgcnknmiclfnaaDoorPb40
set_option linter.unusedVariables false
set_option linter.unusedSimpArgs false
set_option maxRecDepth 100000
set_option maxHeartbeats 8000000
namespace Go.Proofs.YtfgcnknmiclfnaaDoor
open Go.RowKit
theorem rlongest_any (L : List IN) (pv : Value) (n0 : Nat) (ln : Bool) (sv : ByteArray) (a : Int) (w : World) (hp : PI w n0 L pv) (hLn : L.length ≤ 1000000) (hs : sv.size ≤ 1000000) :
    Calls Tryd.prog 25 #[.agg #[pv, .bool ln], .string sv, .int .i64 a] w fun e w' => (∃ (te : Nat) (ok : Bool), e = .returned (.tuple #[.int .i64 (te : Int), .bool ok]) ∧ LSpec L ln sv.data.toList a te ok) ∧ Below w.heap.size w w' := by
  have hb := (Below.refl w.heap.size w).alloc (Nat.le_refl _) (.cells #[pv, .bool ln] 24)
  have hbx := heap_alloc_new w (.cells #[pv, .bool ln] 24)
  obtain ⟨W, hW⟩ : ∃ W, W = w.alloc (.cells #[pv, .bool ln] 24) := ⟨_, rfl⟩
  rw [← hW] at hb hbx
  have q0 := cell_of_row W w.heap.size 0 _ _ _ hbx
  have q1 := cell_of_row W w.heap.size 1 _ _ _ hbx
  have hlW : w.heap.size < W.heap.size := (Array.getElem?_eq_some_iff.1 hbx).1
  have HB := Lib.hid hb
  have HW := Lib.hid hW
  have HE := Lib.hid (rends_any L pv n0 ln sv a W (hp.below hb) hLn hs)
  clear hb hbx hW hp
  go_enter Tryd.func25, Tryd.ntmps25
  go_upto_region 1 with fail
  rw [← HW.out]
  go_upto_region 2 with (first
    | (go_at_call 40; (with_reducible refine HE.out.mono ?_); rintro e w5 ⟨⟨v, zs, rfl, ⟨zad, zcap, rfl, hz⟩, hts⟩, hb5⟩
       have HZ := Lib.hid hz
       have HT := Lib.hid hts
       have HB5 := Lib.hid (HB.out.trans (hb5.mono HB.out.size))
       clear hz hts hb5 q0 q1))
  have hzl : zs.length ≤ sv.size + 1 := sorted_len zs 0 (sv.size + 1) HT.out.1 (fun z hz => ⟨Nat.zero_le _, by
    obtain ⟨_, n, _, h1⟩ := (HT.out.2 z).1 hz
    have := h1.1
    rw [lb_len] at this
    omega⟩)
  have hzI : (zs.length : Int) ≤ 1000001 := by omega
  by_cases h0 : zs.length = 0
  · have h0I : ((zs.length : Int) == 0) = true := by rw [h0]; rfl
    have HL := Lib.hid ((es_ls HT.out).1 h0)
    clear h0 hzl
    go_wp2_with fail
    go_ret2
    exact ⟨⟨0, false, rfl, HL.out⟩, HB5.out⟩
  · have h0I : ((zs.length : Int) == 0) = false := beq_no (by omega)
    rcases HZ.out with h | ⟨zb, zoff, rfl, _, hzb, hzc⟩
    · exact absurd h h0
    obtain ⟨k, hk⟩ : ∃ k, zs.length = k + 1 := ⟨zs.length - 1, by omega⟩
    have z0 := hzc k (by omega)
    obtain ⟨t, ht⟩ : ∃ t, t = zs[k]'(by omega) := ⟨_, rfl⟩
    rw [← ht] at z0
    have HL := Lib.hid ((es_ls HT.out).2 t (by rw [hk, ht, Nat.add_sub_cancel]; exact List.getElem?_eq_getElem (by omega)))
    clear hzc ht h0 hzl
    rw [hk] at hzI h0I ⊢
    have hcast : ((k + 1 : Nat) : Int) = (k : Int) + 1 := by omega
    rw [hcast] at hzI h0I
    have k0 : (0 : Int) ≤ (k : Int) := by omega
    have k1 : (k : Int) < (k : Int) + 1 := by omega
    have k2 : ((k : Int) + 1 - 1) = (k : Int) := by omega
    go_wp2_with fail
    go_ret2
    exact ⟨⟨t, true, rfl, HL.out⟩, HB5.out⟩
theorem ss_found {L : List IN} {ln : Bool} {s : List UInt8} {n i te : Nat} (hni : n ≤ i) (hno : ∀ f e, n ≤ f → f < i → valL L = true → ¬ Mt L ln s f e) (h : LSpec L ln s (i : Int) te true) : SSpec L ln s (n : Int) i te true := by
  rcases h with ⟨_, hv, m, e1, a1, a2⟩ | ⟨h, _⟩
  · obtain rfl : i = m := by omega
    exact .inl ⟨rfl, hv, by omega, by omega, a1, a2, fun f e h1 h2 => hno f e (by omega) h2 hv⟩
  · cases h
theorem ss_none {L : List IN} {ln : Bool} {s : List UInt8} {n i : Nat} (hno : ∀ f e, n ≤ f → f < i → valL L = true → ¬ Mt L ln s f e) (hi : s.length < i) : SSpec L ln s (n : Int) 0 0 false :=
  .inr ⟨rfl, rfl, rfl, fun hv _ f e hf hm => by
    have h1 := hm.le
    have h2 := hm.1
    exact hno f e (by omega) (by omega) hv hm⟩
theorem rsearch_any (L : List IN) (pv : Value) (n0 : Nat) (ln : Bool) (sv : ByteArray) (a : Int) (w : World) (hp : PI w n0 L pv) (hLn : L.length ≤ 1000000) (hs : sv.size ≤ 1000000) :
    Calls Tryd.prog 11 #[.agg #[pv, .bool ln], .string sv, .int .i64 a] w fun e w' => (∃ (mf mt : Nat) (ok : Bool), e = .returned (.tuple #[.agg #[.int .i64 (mf : Int), .int .i64 (mt : Int)], .bool ok]) ∧ SSpec L ln sv.data.toList a mf mt ok) ∧ Below w.heap.size w w' := by
  obtain ⟨R, hR⟩ : ∃ R, w.heap.size + 1 = R := ⟨_, rfl⟩
  have hbx := heap_alloc_new w (.cells #[pv, .bool ln] 24)
  have hby := heap_alloc_new (w.alloc (.cells #[pv, .bool ln] 24)) (.cells #[.int .i64 0, .int .i64 0] 28)
  rw [show (w.alloc (.cells #[pv, .bool ln] 24)).heap.size = R by simp [hR]] at hby
  obtain ⟨W, hW⟩ : ∃ W, W = (w.alloc (.cells #[pv, .bool ln] 24)).alloc (.cells #[.int .i64 0, .int .i64 0] 28) := ⟨_, rfl⟩
  have hb : Below w.heap.size w W := by rw [hW]; exact ((Below.refl _ _).alloc (Nat.le_refl _) _).alloc (by simp) _
  have hbx : W.heap[w.heap.size]? = some (.cells #[pv, .bool ln] 24 (0, 0)) := by rw [hW]; exact (heap_alloc_old _ _ (by simp)).trans hbx
  rw [← hW] at hby
  have hlW : R < W.heap.size := (Array.getElem?_eq_some_iff.1 hby).1
  have HBy := Lib.hid hby
  have HBx := Lib.hid hbx
  have HB := Lib.hid hb
  have HW := Lib.hid hW
  have HP := Lib.hid (hp.below hb)
  have hwR : w.heap.size < R := by omega
  have hlw : w.heap.size < W.heap.size := by omega
  have hsI : (sv.size : Int) ≤ 1000000 := by omega
  have HL := Lib.hid (fun (i : Nat) (W : World) hp => rlongest_any L pv n0 ln sv (i : Int) W hp hLn hs)
  clear hb hbx hby hW hp
  by_cases ha : a < 0
  · have r0 := cell_of_row W R 0 _ _ _ HBy.out
    have r1 := cell_of_row W R 1 _ _ _ HBy.out
    have g0 := frozen_of_row W R 0 _ _ HBy.out
    have g1 := frozen_of_row W R 1 _ _ HBy.out
    go_enter Tryd.func11, Tryd.ntmps11
    go_upto_region 1 with fail
    rw [← HW.out]
    go_wp2_with fail
    go_loopw [8] (fun x wr => x = .int .i64 a ∧ wr = W) (fun _ _ => 0)
    case atStart => exact ⟨rfl, rfl⟩
    case round =>
      obtain ⟨rfl, rfl⟩ := hrel
      go_wp2_with fail
      have hpr := put2R HBy.out hwR (.int .i64 ((0 : Nat) : Int)) (.int .i64 ((0 : Nat) : Int))
      refine bodyPost_ret (v := .tuple #[.agg #[.int .i64 ((0 : Nat) : Int), .int .i64 ((0 : Nat) : Int)], .bool false]) (results_sp2 rfl _ _ R _ #[.int .i64 ((0 : Nat) : Int), .int .i64 ((0 : Nat) : Int)] (0, 0) (.bool false) rfl rfl hpr.1 isz_sp) rfl ?_
      refine ⟨?_, HB.out.trans hpr.2⟩
      first | exact ⟨0, 0, false, rfl, no_s (.inl ha)⟩ | exact ⟨0, 0, .inl ⟨rfl, no_s (.inl ha)⟩⟩
  obtain ⟨n, rfl⟩ : ∃ n : Nat, a = (n : Int) := ⟨a.toNat, by omega⟩
  clear ha
  go_enter Tryd.func11, Tryd.ntmps11
  go_upto_region 1 with fail
  rw [← HW.out]
  go_wp2_with fail
  go_loopw [8] (fun x wr => ∃ i : Nat, n ≤ i ∧ (i = n ∨ i ≤ sv.size + 1) ∧ x = .int .i64 i ∧ Hid ((∀ f e, n ≤ f → f < i → valL L = true → ¬ Mt L ln sv.data.toList f e) ∧ Below W.heap.size W wr)) (fun x _ => sv.size + 1 - (intOf x).toNat)
  case atStart => exact ⟨n, Nat.le_refl _, .inl rfl, rfl, Lib.hid ⟨fun f e h1 h2 => by omega, Below.refl _ _⟩⟩
  case round =>
    obtain ⟨i, hni, him, rfl, HR⟩ := hrel
    rename World => wA
    have hx := (HR.out.2.block w.heap.size hlw).trans HBx.out
    have q0 := cell_of_row wA w.heap.size 0 _ _ _ hx
    have q1 := cell_of_row wA w.heap.size 1 _ _ _ hx
    have hlA : w.heap.size < wA.heap.size := (Array.getElem?_eq_some_iff.1 hx).1
    clear hx
    have i0 : (0 : Int) ≤ (i : Int) := by omega
    by_cases hgo : i ≤ sv.size
    · have i1 : (i : Int) ≤ (sv.size : Int) := by omega
      go_upto_region 5 with (first
        | (go_at_call 25; (with_reducible refine (HL.out i _ (HP.out.below HR.out.2)).mono ?_); rintro e w5 ⟨⟨te, ok, rfl, hls⟩, hb5⟩
           have HS := Lib.hid hls
           have hb6 := HR.out.2.trans (hb5.mono HR.out.2.size)
           have HB5 := Lib.hid hb6
           have hr := (hb6.block R hlW).trans HBy.out
           have HRr := Lib.hid hr
           have r0 := cell_of_row w5 R 0 _ _ _ hr
           have r1 := cell_of_row w5 R 1 _ _ _ hr
           have g0 := frozen_of_row w5 R 0 _ _ hr
           have g1 := frozen_of_row w5 R 1 _ _ hr
           clear hls hb5 hb6 q0 q1 hr))
      cases ok with
      | true =>
        have HF := Lib.hid (ss_found hni HR.out.1 HS.out)
        go_wp2_with fail
        have hpr := put2R HRr.out hwR (.int .i64 (i : Int)) (.int .i64 (te : Int))
        refine bodyPost_ret (v := .tuple #[.agg #[.int .i64 (i : Int), .int .i64 (te : Int)], .bool true]) (results_sp2 rfl _ _ R _ #[.int .i64 (i : Int), .int .i64 (te : Int)] (0, 0) (.bool true) rfl rfl hpr.1 isz_sp) rfl ?_
        exact ⟨⟨i, te, true, rfl, HF.out⟩, HB.out.trans ((HB5.out.mono HB.out.size).trans hpr.2)⟩
      | false =>
        have HN : Hid (∀ f e, n ≤ f → f < i + 1 → valL L = true → ¬ Mt L ln sv.data.toList f e) := Lib.hid (fun f e h1 h2 hv hm => by
          by_cases e1 : f = i
          · subst e1
            rcases HS.out with ⟨h, _⟩ | ⟨_, _, h⟩
            · cases h
            · exact h hv f rfl e hm
          · exact HR.out.1 f e h1 (by omega) hv hm)
        go_wp2_with fail
        go_roundw
        case rel => exact ⟨i + 1, by omega, .inr (by omega), by go_num, Lib.hid ⟨HN.out, HB5.out⟩⟩
        case measure => simp [intOf]; omega
    · have i1 : ¬ ((i : Int) ≤ (sv.size : Int)) := by omega
      have HF := Lib.hid (ss_none HR.out.1 (by rw [lb_len]; omega))
      have hr := (HR.out.2.block R hlW).trans HBy.out
      have HRr := Lib.hid hr
      have r0 := cell_of_row wA R 0 _ _ _ hr
      have r1 := cell_of_row wA R 1 _ _ _ hr
      have g0 := frozen_of_row wA R 0 _ _ hr
      have g1 := frozen_of_row wA R 1 _ _ hr
      clear hr
      go_wp2_with fail
      have hpr := put2R HRr.out hwR (.int .i64 ((0 : Nat) : Int)) (.int .i64 ((0 : Nat) : Int))
      refine bodyPost_ret (v := .tuple #[.agg #[.int .i64 ((0 : Nat) : Int), .int .i64 ((0 : Nat) : Int)], .bool false]) (results_sp2 rfl _ _ R _ #[.int .i64 ((0 : Nat) : Int), .int .i64 ((0 : Nat) : Int)] (0, 0) (.bool false) rfl rfl hpr.1 isz_sp) rfl ?_
      refine ⟨?_, HB.out.trans ((HR.out.2.mono HB.out.size).trans hpr.2)⟩
      first | exact ⟨0, 0, false, rfl, HF.out⟩ | exact ⟨0, 0, .inl ⟨rfl, HF.out⟩⟩
theorem ss_unique {L : List IN} {ln : Bool} {s : List UInt8} {a : Int} {mf mt mf' mt' : Nat} {ok ok' : Bool} (h : SSpec L ln s a mf mt ok) (h' : SSpec L ln s a mf' mt' ok') : mf' = mf ∧ mt' = mt ∧ ok' = ok := by
  rcases h with ⟨rfl, hv, h0, h1, h2, h3, h4⟩ | ⟨rfl, rfl, rfl, h1⟩
  · rcases h' with ⟨rfl, _, _, g1, g2, g3, g4⟩ | ⟨rfl, _, _, g1⟩
    · have e1 : ¬ mf < mf' := fun hl => g4 mf mt h1 hl h2
      have e2 : ¬ mf' < mf := fun hl => h4 mf' mt' g1 hl g2
      obtain rfl : mf' = mf := by omega
      have a := h3 _ g2
      have b := g3 _ h2
      exact ⟨rfl, by omega, rfl⟩
    · exact absurd h2 (g1 hv h0 mf mt h1)
  · rcases h' with ⟨rfl, hv, g0, g1, g2, g3, g4⟩ | ⟨rfl, rfl, rfl, _⟩
    · exact absurd g2 (h1 hv g0 mf' mt' g1)
    · exact ⟨rfl, rfl, rfl⟩
end Go.Proofs.YtfgcnknmiclfnaaDoor
