/- RsSrch. -/
import Derived.Test.YtfgcnknmiclfnaaDoorPb22
import Derived.WalkMore
set_option linter.unusedVariables false
set_option linter.unusedSimpArgs false
set_option maxRecDepth 100000
set_option maxHeartbeats 8000000
namespace Go.Proofs.YtfgcnknmiclfnaaDoor
open Go.RowKit
def SSpec (L : List IN) (ln : Bool) (s : List UInt8) (a : Int) (mf mt : Nat) (ok : Bool) : Prop :=
  (ok = true ∧ valL L = true ∧ 0 ≤ a ∧ a ≤ (mf : Int) ∧ Mt L ln s mf mt ∧ (∀ e, Mt L ln s mf e → e ≤ mt) ∧ ∀ f e : Nat, a ≤ (f : Int) → f < mf → ¬ Mt L ln s f e) ∨ (ok = false ∧ mf = 0 ∧ mt = 0 ∧ (valL L = true → 0 ≤ a → ∀ f e : Nat, a ≤ (f : Int) → ¬ Mt L ln s f e))
theorem no_s {L : List IN} {ln : Bool} {s : List UInt8} {a : Int} (h : a < 0 ∨ (s.length : Int) < a ∨ valL L = false) : SSpec L ln s a 0 0 false :=
  .inr ⟨rfl, rfl, rfl, fun hv ha f e hf hm => by
    have h1 := hm.le
    have h2 := hm.1
    rcases h with h | h | h
    · omega
    · omega
    · rw [h] at hv; cases hv⟩
def QB (L : List IN) (ln : Bool) (s : List UInt8) (lo i : Nat) (M : Nat → Bool) (T : List (Nat × Nat)) : Prop := ∀ M' T', RR (stp L ln s i) (trm L) [0] i M M' T T' → ThS L ln s lo i i T'
theorem QB.start (L ln s i) : QB L ln s i i (fun _ => false) [] := fun _ _ h => start_ths h
theorem QB.adv {L : List IN} {ln : Bool} {s : List UInt8} {lo i : Nat} {T T' : List (Nat × Nat)} {c : UInt8} {M' : Nat → Bool} (h : ThS L ln s lo i i T) (hl : lo ≤ i) (hc : s[i]? = some c) (v : IV (stp L ln s (i + 1)) (trm L) (nexts L c T) M' T') : QB L ln s lo (i + 1) M' T' := fun M2 T2 r =>
  h.advBeg hl hc (v.add (fun p hp => by
    obtain ⟨h1, h2, _⟩ := h.rd hc (k := p.1) (f := p.2) hp .refl
    omega) r)
theorem res_s {L : List IN} {ln : Bool} {s : List UInt8} {lo i mf mt : Nat} {fd : Bool} (hv : valL L = true) (h : RES L ln s lo i mf mt fd) (hm : ∃ f, lo ≤ f ∧ f ≤ i ∧ Mt L ln s f i) : SSpec L ln s (lo : Int) mf mt fd := by
  obtain ⟨f, h1, h2, h3⟩ := hm
  rcases h with ⟨rfl, a1, a2, a3, a4, a5⟩ | ⟨rfl, _, _, a4⟩
  · exact .inl ⟨rfl, hv, by omega, by omega, a3, a4, fun g e b1 b2 => a5 g e (by omega) b2⟩
  · exact absurd h3 (a4 f i h1 h2)
theorem none_s {L : List IN} {ln : Bool} {s : List UInt8} {lo : Nat} (h : ∀ f e, lo ≤ f → e ≤ s.length → ¬ Mt L ln s f e) : SSpec L ln s (lo : Int) 0 0 false :=
  .inr ⟨rfl, rfl, rfl, fun _ _ f e hf hm => h f e (by omega) hm.1 hm⟩
theorem ThS.noend {L : List IN} {ln : Bool} {s : List UInt8} {lo i : Nat} {T : List (Nat × Nat)} (h : ThS L ln s lo i i T) (hj : ∀ (j : Nat) (p : Nat × Nat), T[j]? = some p → opAt L p.1 6 = false) (hn : ∀ f e, lo ≤ f → e < i → ¬ Mt L ln s f e) : ∀ f e, lo ≤ f → e < i + 1 → ¬ Mt L ln s f e := fun f e hf he hm => by
  by_cases h1 : e < i
  · exact hn f e hf h1 hm
  · obtain rfl : e = i := by omega
    obtain ⟨k, b, g, h2, h3, _⟩ := h.mt hf hm.le hm
    have := hj k _ h2
    rw [h3] at this
    cases this
theorem search_any (L : List IN) (pv : Value) (n0 : Nat) (ln : Bool) (sv : ByteArray) (a : Int) (w : World) (hp : PI w n0 L pv) (hk : KT w) (hsz : sv.size ≤ 1000000000) :
    Calls Tryd.prog 10 #[.agg #[pv, .bool ln], .string sv, .int .i64 a] w fun e w' => (∃ (mf mt : Nat) (ok : Bool), e = .returned (.tuple #[.agg #[.int .i64 (mf : Int), .int .i64 (mt : Int)], .bool ok]) ∧ SSpec L ln sv.data.toList a mf mt ok) ∧ Below w.heap.size w w' := by
  obtain ⟨R, hR⟩ : ∃ R, w.heap.size + 1 = R := ⟨_, rfl⟩
  have hbx := heap_alloc_new w (.cells #[pv, .bool ln] 24)
  have hby := heap_alloc_new (w.alloc (.cells #[pv, .bool ln] 24)) (.cells #[.int .i64 0, .int .i64 0] 28)
  rw [show (w.alloc (.cells #[pv, .bool ln] 24)).heap.size = R by simp [hR]] at hby
  obtain ⟨W, hW⟩ : ∃ W, W = (w.alloc (.cells #[pv, .bool ln] 24)).alloc (.cells #[.int .i64 0, .int .i64 0] 28) := ⟨_, rfl⟩
  have hb : Below w.heap.size w W := by rw [hW]; exact ((Below.refl _ _).alloc (Nat.le_refl _) _).alloc (by simp) _
  have hbx : W.heap[w.heap.size]? = some (.cells #[pv, .bool ln] 24 (0, 0)) := by rw [hW]; exact (heap_alloc_old _ _ (by simp)).trans hbx
  rw [← hW] at hby
  have q0 := cell_of_row W w.heap.size 0 _ _ _ hbx
  have q1 := cell_of_row W w.heap.size 1 _ _ _ hbx
  have hlW : R < W.heap.size := (Array.getElem?_eq_some_iff.1 hby).1
  have HBy := Lib.hid hby
  have HB := Lib.hid hb
  have HW := Lib.hid hW
  have hwR : w.heap.size < R := by omega
  have hlw : w.heap.size < W.heap.size := by omega
  by_cases hno : a < 0 ∨ (sv.size : Int) < a ∨ valL L = false
  · have HN := Lib.hid (newsim_no L pv n0 ln sv a W (hp.below hb) (hk.below hb) (by omega) hno)
    have HE := Lib.hid (no_s (L := L) (ln := ln) (s := sv.data.toList) hno)
    clear hb hbx hby hW hp hk hno
    go_enter Tryd.func10, Tryd.ntmps10
    go_upto_region 1 with fail
    rw [← HW.out]
    go_step3
    go_wp2_with (first
      | (go_at_call 20; (with_reducible refine HN.out.mono ?_); rintro e w2 ⟨rfl, hb2⟩
         have HB2 := Lib.hid (HB.out.trans (hb2.mono HB.out.size))
         have hr := (hb2.block R hlW).trans HBy.out
         have HRr := Lib.hid hr
         have r0 := cell_of_row w2 R 0 _ _ _ hr
         have r1 := cell_of_row w2 R 1 _ _ _ hr
         have g0 := frozen_of_row w2 R 0 _ _ hr
         have g1 := frozen_of_row w2 R 1 _ _ hr
         clear hb2 q0 q1 hr))
    rw [Exit.noGoto_ret]
    have hpr := put2R HRr.out hwR (.int .i64 ((0 : Nat) : Int)) (.int .i64 ((0 : Nat) : Int))
    refine bodyPost_ret (v := .tuple #[.agg #[.int .i64 ((0 : Nat) : Int), .int .i64 ((0 : Nat) : Int)], .bool false]) (results_sp2 rfl _ _ R _ #[.int .i64 ((0 : Nat) : Int), .int .i64 ((0 : Nat) : Int)] (0, 0) (.bool false) rfl rfl hpr.1 isz_sp) rfl ?_
    exact ⟨⟨0, 0, false, rfl, HE.out⟩, HB2.out.trans hpr.2⟩
  have hv : valL L = true := by
    cases h : valL L with
    | true => rfl
    | false => exact absurd (.inr (.inr h)) hno
  obtain ⟨n, rfl⟩ : ∃ n : Nat, a = (n : Int) := ⟨a.toNat, by have : ¬ a < 0 := fun h => hno (.inl h); omega⟩
  have hn : n ≤ sv.size := by have : ¬ (sv.size : Int) < (n : Int) := fun h => hno (.inr (.inl h)); omega
  have hL : L.length ≤ 4096 := by
    have hv2 := hv
    unfold valL at hv2
    rw [Bool.and_eq_true, Bool.and_eq_true] at hv2
    exact of_decide_eq_true hv2.2.1
  have HN := Lib.hid (newsim_yes L pv n0 ln sv n W (hp.below hb) (hk.below hb) hsz hn hv)
  have HBg := Lib.hid (fun (i P : Nat) (uv tv : Value) (w : World) (M : Nat → Bool) (T : List (Nat × Nat)) (hi : i ≤ sv.size) (h : RC L ln sv i P pv uv w tv M T) => begin_any hv hi hsz h)
  have HLg := Lib.hid (fun (i P : Nat) (uv tv : Value) (w : World) (M : Nat → Bool) (T : List (Nat × Nat)) (hi : i ≤ sv.size) (h : RC L ln sv i P pv uv w tv M T) (hli : LI L ln sv.data.toList n i i i i T 0 0 false) => longest_any hv h hli hi hsz)
  have HAdv := Lib.hid (fun (i P : Nat) (uv tv : Value) (T : List (Nat × Nat)) (M : Nat → Bool) (w : World) (h : RC L ln sv i P pv uv w tv M T) (a b c) => adv_any hv h a hsz b c)
  have HV := Lib.hid hv
  have hsI : (sv.size : Int) ≤ 1000000000 := by omega
  clear hb hbx hby hW hp hk hno hv
  go_enter Tryd.func10, Tryd.ntmps10
  go_upto_region 1 with fail
  rw [← HW.out]
  go_step3
  go_wp2_with (first
    | (go_at_call 20; (with_reducible refine HN.out.mono ?_); rintro e w2 ⟨P, rfl, hP, hr2, hb2⟩
       have HB2 := Lib.hid (HB.out.trans (hb2.mono HB.out.size))
       have HRr := Lib.hid ((hb2.block R hlW).trans HBy.out)
       have hRP : R < P := by omega
       have HR2 := Lib.hid hr2
       clear hb2 hP hr2 q0 q1))
  go_step3
  go_wp2_with fail
  go_loopw [] (fun wr => ∃ (i : Nat) (T : List (Nat × Nat)) (tv uv : Value) (M : Nat → Bool), n ≤ i ∧ i ≤ sv.size ∧ Hid (RC L ln sv i P pv uv wr tv M T ∧ QB L ln sv.data.toList n i M T ∧ (∀ f e, n ≤ f → e < i → ¬ Mt L ln sv.data.toList f e) ∧ Below P w2 wr)) (fun wr => sv.size - atOf wr P)
  case atStart => exact ⟨n, [], _, _, _, Nat.le_refl _, hn, Lib.hid ⟨HR2.out, QB.start _ _ _ _, fun f e h1 h2 hm => by have := hm.le; omega, Below.refl _ _⟩⟩
  case round =>
    obtain ⟨i, T, tv, uv, M, hni, hi, HR⟩ := hrel
    rename World => wA
    have HM0 : Hid (atOf wA P = i) := Lib.hid (atOf_sm HR.out.1.sm)
    go_upto_region 5 with (first
      | (go_at_call 21; (with_reducible refine (HBg.out i P _ _ _ _ _ hi HR.out.1).mono ?_); rintro e w3 ⟨rfl, tv3, M3, T3, hr3, hrr3, hm3⟩
         have HB3 : Hid (Below P w2 w3) := Lib.hid (HR.out.2.2.2.trans (hm3.keep.below (B := P) (Nat.le_of_lt HR.out.1.sm.lt) (RC.hS HR.out.1.sm)))
         have HR3 := Lib.hid hr3
         have HT3 := Lib.hid (HR.out.2.1 _ _ hrr3)
         clear hr3 hrr3 hm3))
    obtain ⟨tad, tcap, e⟩ := own_sl HR3.out.sm.own
    subst e
    have d4 := HR3.out.sm.c4
    have htl : T3.length ≤ 4096 := Nat.le_trans HR3.out.tc (Nat.le_trans (cntM_le _ _) hL)
    have htI : (T3.length : Int) ≤ 4096 := by omega
    go_wp2_with fail
    go_loopw [29] (fun j wr => ∃ k : Nat, k ≤ T3.length ∧ j = .int .i64 k ∧ Hid (∀ (j : Nat) (p : Nat × Nat), j < k → T3[j]? = some p → opAt L p.1 6 = false) ∧ Hid (Below w3.heap.size w3 wr)) (fun j _ => T3.length - (intOf j).toNat)
    case atStart => exact ⟨0, Nat.zero_le _, rfl, fun q _ hq => by omega, Below.refl _ _⟩
    case round =>
      obtain ⟨k, hk, rfl, HQ, HB⟩ := hrel
      clear d4
      by_cases hkn : k < T3.length
      · have ki : (k : Int) < T3.length := by omega
        have ki0 : (0 : Int) ≤ k := by omega
        have hrc := HR3.out.below HB.out
        obtain ⟨g1, cap1, e⟩ := own_more hrc.sm.own (by omega)
        injection e with e1 e2 e3
        subst e1 e3
        obtain ⟨t0, t1⟩ := tv_cells hrc.sm.own k hkn
        have hg1 := (own_at hrc.sm.own g1 rfl).2
        obtain ⟨q, hq⟩ : ∃ q, q = T3[k] := ⟨_, rfl⟩
        rw [← hq] at t0 t1
        have pn : q.1 < L.length := HT3.out.lt q (by rw [hq]; exact List.getElem_mem _)
        have hqT : T3[k]? = some q := by rw [hq]; exact List.getElem?_eq_getElem hkn
        have HQT := Lib.hid hqT
        obtain ⟨WB, hWB⟩ : ∃ WB, WB = wr.alloc (.cells #[.int .i64 (q.1 : Int), .int .i64 (q.2 : Int)] 66) := ⟨_, rfl⟩
        have hBB : Below wr.heap.size wr WB := by rw [hWB]; exact (Below.refl _ _).alloc (Nat.le_refl _) _
        have hbx : WB.heap[wr.heap.size]? = some (.cells #[.int .i64 (q.1 : Int), .int .i64 (q.2 : Int)] 66 (0, 0)) := by rw [hWB]; exact heap_alloc_new wr _
        have b0 := cell_of_row WB wr.heap.size 0 _ _ _ hbx
        have b1 := cell_of_row WB wr.heap.size 1 _ _ _ hbx
        have hlB : wr.heap.size < WB.heap.size := (Array.getElem?_eq_some_iff.1 hbx).1
        have hrB := hrc.below hBB
        have HE := Lib.hid (ends_any hrB q.1 q.2 pn hL)
        have HrB := Lib.hid hrB
        have HBB := Lib.hid (HB.out.trans (hBB.mono HB.out.size))
        have HWB := Lib.hid hWB
        obtain ⟨o, ho⟩ : ∃ o, opAt L q.1 6 = o := ⟨_, rfl⟩
        rw [ho] at HE
        have HO := Lib.hid ho
        clear hrc hq pn hqT ho hWB hBB hbx hrB
        cases o with
        | true =>
          have HRq : Hid (∃ f, n ≤ f ∧ f ≤ i ∧ Mt L ln sv.data.toList f i) := Lib.hid ⟨q.2, (HT3.out.hit (k := k) (b := q.1) (f := q.2) HQT.out HO.out hi).1, (HT3.out.hit (k := k) (b := q.1) (f := q.2) HQT.out HO.out hi).2⟩
          go_upto_region 8 with fail
          rw [← HWB.out]
          go_wp2_with (first
            | (go_at_call 22; (with_reducible refine HE.out.mono ?_); rintro e w5 ⟨rfl, hb5⟩
               have HR5 := Lib.hid (HrB.out.below hb5)
               have HB5 : Hid (Below P w2 w5) := Lib.hid (HB3.out.trans ((HBB.out.trans (hb5.mono HBB.out.size)).mono (Nat.le_of_lt HR3.out.sm.lt)))
               have HLi5 := Lib.hid (LI.start HT3.out hni (fun f e h1 _ h3 => HR.out.2.2.1 f e h1 h3))
               clear hb5 b0 b1 t0 t1)
            | (go_at_call 24; (with_reducible refine (HLg.out i P _ _ _ _ _ hi HR5.out HLi5.out).mono ?_); rintro e w6 ⟨mf, mt, fd, rfl, hres, hb6⟩
               have hb7 := HB5.out.trans hb6
               have HB7 := Lib.hid hb7
               have HRes := Lib.hid hres
               have hr := (hb7.block R hRP).trans HRr.out
               have HRr7 := Lib.hid hr
               have r0 := cell_of_row w6 R 0 _ _ _ hr
               have r1 := cell_of_row w6 R 1 _ _ _ hr
               have g0 := frozen_of_row w6 R 0 _ _ hr
               have g1 := frozen_of_row w6 R 1 _ _ hr
               clear hb6 hb7 hres hr))
          rw [Exit.noGoto_ret]
          have hpr := put2R HRr7.out hwR (.int .i64 (mf : Int)) (.int .i64 (mt : Int))
          refine bodyPost_ret (v := .tuple #[.agg #[.int .i64 (mf : Int), .int .i64 (mt : Int)], .bool fd]) (results_sp2 rfl _ _ R _ #[.int .i64 (mf : Int), .int .i64 (mt : Int)] (0, 0) (.bool fd) rfl rfl hpr.1 isz_sp) rfl ?_
          exact ⟨⟨mf, mt, fd, rfl, res_s HV.out HRes.out HRq.out⟩, HB2.out.trans ((HB7.out.mono (by omega)).trans hpr.2)⟩
        | false =>
          go_upto_region 8 with fail
          rw [← HWB.out]
          go_wp2_with (go_at_call 22; (with_reducible refine HE.out.mono ?_); rintro e w5 ⟨rfl, hb5⟩; have HB5 := Lib.hid (HBB.out.trans (hb5.mono HBB.out.size)); clear hb5 b0 b1 t0 t1)
          go_roundw
          case rel =>
            refine ⟨k + 1, by omega, by go_num, fun j p hj hp => ?_, HB5.out⟩
            by_cases e : j = k
            · subst e; rw [HQT.out] at hp; cases hp; exact HO.out
            · exact HQ.out j p (by omega) hp
          case measure => simp [intOf]; omega
      · obtain rfl : k = T3.length := by omega
        have HNo : Hid (∀ f e, n ≤ f → e < i + 1 → ¬ Mt L ln sv.data.toList f e) := Lib.hid (HT3.out.noend (fun j p hp => HQ.out j p (List.getElem?_eq_some_iff.1 hp).1 hp) HR.out.2.2.1)
        have hr5 := HR3.out.below HB.out
        have HR5 := Lib.hid hr5
        have HB5 : Hid (Below P w2 wr) := Lib.hid (HB3.out.trans (HB.out.mono (Nat.le_of_lt HR3.out.sm.lt)))
        by_cases hi2 : i < sv.size
        · obtain ⟨c, hc⟩ : ∃ c, sv.data.toList[i]? = some c := ⟨_, List.getElem?_eq_getElem (by rw [lb_len]; exact hi2)⟩
          have HA := Lib.hid (HAdv.out i P _ _ _ _ _ hr5 hi2 HT3.out.lt HT3.out.srt c hc)
          clear hr5
          go_wp2_with (go_at_call 23; (with_reducible refine HA.out.mono ?_); rintro e w6 ⟨rfl, hl6⟩; have HL6 := Lib.hid hl6; clear hl6)
          obtain ⟨tv6, M6, T6, s1, s2, s3, s4⟩ := HL6.out
          rw [List.take_length] at s2
          have hb6 : Below P wr w6 := s3.keep.below (Nat.le_of_lt HR5.out.sm.lt) (fun g e => by
            rcases e with e | e | e
            · omega
            · have := (own_at HR5.out.sm.own g e).1; omega
            · obtain ⟨_, _, hu⟩ := HR5.out.sm.spr
              have := (own_at hu g e).1; omega)
          go_roundw
          case rel => exact ⟨i + 1, T6, tv6, _, M6, by omega, hi2, Lib.hid ⟨s1, QB.adv HT3.out hni hc s2, HNo.out, HB5.out.trans hb6⟩⟩
          case measure => rw [atOf_sm s1.sm, HM0.out]; omega
        · have HI2 : Hid (i = sv.size) := Lib.hid (by omega)
          have HA := Lib.hid (adv_end hr5 HI2.out)
          clear hr5
          go_wp2_with (go_at_call 23; (with_reducible refine HA.out.mono ?_); rintro e w6 ⟨rfl, hb6⟩
                       have hb7 := HB5.out.trans (hb6.mono (Nat.le_of_lt HR5.out.sm.lt))
                       have HB7 := Lib.hid hb7
                       have hr := (hb7.block R hRP).trans HRr.out
                       have HRr7 := Lib.hid hr
                       have r0 := cell_of_row w6 R 0 _ _ _ hr
                       have r1 := cell_of_row w6 R 1 _ _ _ hr
                       have g0 := frozen_of_row w6 R 0 _ _ hr
                       have g1 := frozen_of_row w6 R 1 _ _ hr
                       clear hb6 hb7 hr)
          rw [Exit.noGoto_ret]
          have hpr := put2R HRr7.out hwR (.int .i64 ((0 : Nat) : Int)) (.int .i64 ((0 : Nat) : Int))
          refine bodyPost_ret (v := .tuple #[.agg #[.int .i64 ((0 : Nat) : Int), .int .i64 ((0 : Nat) : Int)], .bool false]) (results_sp2 rfl _ _ R _ #[.int .i64 ((0 : Nat) : Int), .int .i64 ((0 : Nat) : Int)] (0, 0) (.bool false) rfl rfl hpr.1 isz_sp) rfl ?_
          exact ⟨⟨0, 0, false, rfl, none_s (fun f e h1 h2 => HNo.out f e h1 (by have := HI2.out; rw [lb_len] at h2; omega))⟩, HB2.out.trans ((HB7.out.mono (by omega)).trans hpr.2)⟩
end Go.Proofs.YtfgcnknmiclfnaaDoor
