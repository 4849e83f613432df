/- RsCtl, RsIdx, RsLg. -/
import Derived.Test.YtfgcnknmiclfnaaDoorPb20
set_option linter.unusedVariables false
set_option linter.unusedSimpArgs false
set_option maxRecDepth 100000
set_option maxHeartbeats 8000000
namespace Go.Proofs.YtfgcnknmiclfnaaDoor
open Go.RowKit
def simCells (pv : Value) (ln : Bool) (sv : ByteArray) (at_ : Int) : List Value := [pv, .bool ln, .string sv, .int .i64 at_, .slice none 0 0] ++ (zeros ++ [.slice none 0 0])
theorem new_sm (w : World) (P : Nat) (pv : Value) (ln : Bool) (sv : ByteArray) (at_ : Nat) (h : w.heap[P]? = some (.cells (simCells pv ln sv at_).toArray 64 (0, 0))) : SM w P pv ln sv at_ (.slice none 0 0) (.slice none 0 0) (fun _ => false) [] := by
  have hc : ∀ j u, (simCells pv ln sv at_)[j]? = some u → w.cell? ⟨P, j, none⟩ = some u := fun j u hu => by
    rw [cell_of_row w P j _ _ _ h]; simpa using hu
  refine ⟨(Array.getElem?_eq_some_iff.1 h).1, hc 0 _ rfl, hc 1 _ rfl, hc 2 _ rfl, hc 3 _ rfl, hc 4 _ rfl, fun j hj => hc _ _ ?_, hc 69 _ rfl, fun j => frozen_of_row w P j _ _ h, ⟨rfl, .inl ⟨rfl, rfl⟩⟩, ⟨0, [], rfl, .inl ⟨rfl, rfl⟩⟩, fun g e => by cases e⟩
  unfold simCells
  rw [List.getElem?_append_right (by show 5 ≤ 5 + j; omega), show 5 + j - [pv, .bool ln, .string sv, .int .i64 (at_ : Int), .slice none 0 0].length = j by show 5 + j - 5 = j; omega, List.getElem?_append_left (by show j < 64; exact hj), wd_none]
  unfold zeros
  rw [List.getElem?_replicate, if_pos hj]
  rfl
theorem val_pos {L : List IN} (h : valL L = true) : 0 < L.length := by
  unfold valL at h
  rw [Bool.and_eq_true] at h
  have := of_decide_eq_true h.1
  omega
theorem newsim_no (L : List IN) (pv : Value) (n0 : Nat) (ln : Bool) (sv : ByteArray) (a : Int) (w : World) (hp : PI w n0 L pv) (hk : KT w) (hsz : sv.size ≤ 9223372036854775807) (hno : a < 0 ∨ (sv.size : Int) < a ∨ valL L = false) :
    Calls Tryd.prog 20 #[.agg #[pv, .bool ln], .string sv, .int .i64 a] w fun e w' => e = .returned (.tuple #[.pointer none, .bool false]) ∧ Below w.heap.size w w' := by
  have hb := (Below.refl w.heap.size w).alloc (Nat.le_refl _) (.cells #[pv, .bool ln] 24)
  have hbx := heap_alloc_new w (.cells #[pv, .bool ln] 24)
  have HV := Lib.hid (fun W (h : Below w.heap.size w W) => valid_any L pv n0 ln W (hp.below h) (hk.below h))
  obtain ⟨W, hW⟩ : ∃ W, W = w.alloc (.cells #[pv, .bool ln] 24) := ⟨_, rfl⟩
  rw [← hW] at hb hbx
  have q0 := cell_of_row W w.heap.size 0 _ _ _ hbx
  have q1 := cell_of_row W w.heap.size 1 _ _ _ hbx
  have hlW : w.heap.size < W.heap.size := (Array.getElem?_eq_some_iff.1 hbx).1
  have HB := Lib.hid hb
  have HW := Lib.hid hW
  have hsI : (sv.size : Int) ≤ 9223372036854775807 := by omega
  clear hb hbx hW hp hk
  by_cases h1 : a < 0
  · clear hno
    go_enter Tryd.func20, Tryd.ntmps20
    go_upto_region 1 with fail
    rw [← HW.out]
    go_wp2_with fail
    go_ret2
    exact ⟨rfl, HB.out⟩
  by_cases h2 : (sv.size : Int) < a
  · clear hno
    go_enter Tryd.func20, Tryd.ntmps20
    go_upto_region 1 with fail
    rw [← HW.out]
    go_wp2_with fail
    go_ret2
    exact ⟨rfl, HB.out⟩
  have h3 : valL L = false := by
    rcases hno with h | h | h
    · exact absurd h h1
    · exact absurd h h2
    · exact h
  rw [h3] at HV
  clear hno h3
  go_enter Tryd.func20, Tryd.ntmps20
  go_upto_region 1 with fail
  rw [← HW.out]
  go_wp2_with (first
    | (go_at_call 35; (with_reducible refine (HV.out _ HB.out).mono ?_); rintro e w2 ⟨rfl, hb2⟩
       have HB2 := Lib.hid (HB.out.trans (hb2.mono HB.out.size))
       clear hb2 q0 q1))
  go_ret2
  exact ⟨rfl, HB2.out⟩
theorem newsim_yes (L : List IN) (pv : Value) (n0 : Nat) (ln : Bool) (sv : ByteArray) (a : Nat) (w : World) (hp : PI w n0 L pv) (hk : KT w) (hsz : sv.size ≤ 1000000000) (ha : a ≤ sv.size) (hv : valL L = true) :
    Calls Tryd.prog 20 #[.agg #[pv, .bool ln], .string sv, .int .i64 (a : Int)] w fun e w' => ∃ P, e = .returned (.tuple #[.pointer (some ⟨P, 0, none⟩), .bool true]) ∧ w.heap.size ≤ P ∧ RC L ln sv a P pv (.slice none 0 0) w' (.slice none 0 0) (fun _ => false) [] ∧ Below w.heap.size w w' := by
  have hb := (Below.refl w.heap.size w).alloc (Nat.le_refl _) (.cells #[pv, .bool ln] 24)
  have hbx := heap_alloc_new w (.cells #[pv, .bool ln] 24)
  have HV := Lib.hid (fun W (h : Below w.heap.size w W) => valid_any L pv n0 ln W (hp.below h) (hk.below h))
  rw [hv] at HV
  have HPB : Hid (∀ W P, Below w.heap.size w W → w.heap.size ≤ P → PB W P L pv) := Lib.hid (fun W P hb hP => by
    obtain ⟨ad, cap, e, _, hc⟩ := hp
    rcases hc with h0 | ⟨b, i, rfl, _, hbl, hc⟩
    · have := val_pos hv; omega
    · exact ⟨b, i, cap, e, by omega, fun k hk j hj => (hb.cell (p := ⟨b, i + k * 7 + j, none⟩) hbl).trans (hc k hk j hj)⟩)
  obtain ⟨W, hW⟩ : ∃ W, W = w.alloc (.cells #[pv, .bool ln] 24) := ⟨_, rfl⟩
  rw [← hW] at hb hbx
  have q0 := cell_of_row W w.heap.size 0 _ _ _ hbx
  have q1 := cell_of_row W w.heap.size 1 _ _ _ hbx
  have hlW : w.heap.size < W.heap.size := (Array.getElem?_eq_some_iff.1 hbx).1
  have HB := Lib.hid hb
  have HW := Lib.hid hW
  have HBx := Lib.hid hbx
  have hsI : (sv.size : Int) ≤ 1000000000 := by omega
  have h1 : ¬ ((a : Int) < 0) := by omega
  have h2 : ¬ ((sv.size : Int) < (a : Int)) := by omega
  clear hb hbx hW hp hk hv ha
  go_enter Tryd.func20, Tryd.ntmps20
  go_upto_region 1 with fail
  rw [← HW.out]
  go_wp2_with (first
    | (go_at_call 35; (with_reducible refine (HV.out _ HB.out).mono ?_); rintro e w2 ⟨rfl, hb2⟩
       have HB2 := Lib.hid (HB.out.trans (hb2.mono HB.out.size))
       have hbx2 := (hb2.block w.heap.size hlW).trans HBx.out
       have r0 := cell_of_row w2 w.heap.size 0 _ _ _ hbx2
       have r1 := cell_of_row w2 w.heap.size 1 _ _ _ hbx2
       clear hb2 hbx2 q0 q1))
  have hnew := heap_alloc_new w2 (.cells (simCells pv ln sv a).toArray 64)
  have hbn := HB2.out.alloc HB2.out.size (.cells (simCells pv ln sv a).toArray 64)
  go_ret2
  refine ⟨_, rfl, HB2.out.size, ⟨new_sm _ _ _ _ _ _ hnew, HPB.out _ _ hbn HB2.out.size, Nat.zero_le _⟩, hbn⟩
section
variable {L : List IN} {ln : Bool} {sv : ByteArray} {at_ P : Nat} {pv uv : Value} {T : List (Nat × Nat)} {M : Nat → Bool} {w : World} {tv : Value}
theorem begin_any (hv : valL L = true) (ha : at_ ≤ sv.size) (hs : sv.size ≤ 1000000000) (h : RC L ln sv at_ P pv uv w tv M T) :
    Calls Tryd.prog 21 #[.pointer (some ⟨P, 0, none⟩)] w fun e w' => e = .returned (.tuple #[]) ∧ RPost L ln sv at_ P pv uv at_ w tv M T [0] w' := by
  have HR := Lib.hid (reach_any (ln := ln) (P := P) (pv := pv) (uv := uv) hv ha hs at_ L.length 0 w tv M T (by omega) (val_pos hv) h)
  have c3 := h.sm.c3
  clear h
  go_enter Tryd.func21, Tryd.ntmps21
  go_wp2_with (first
    | (go_at_call 36; (refine HR.out.mono ?_); rintro e w1 ⟨rfl, hr⟩; have HP := Lib.hid hr; clear hr c3))
  go_end0
  exact ⟨rfl, HP.out⟩
theorem ends_any (h : RC L ln sv at_ P pv uv w tv M T) (b f : Nat) (hb : b < L.length) (hn : L.length ≤ 4096) :
    Calls Tryd.prog 22 #[.pointer (some ⟨P, 0, none⟩), .agg #[.int .i64 (b : Int), .int .i64 (f : Int)]] w fun e w' => e = .returned (.bool (opAt L b 6)) ∧ Below w.heap.size w w' := by
  obtain ⟨g, i0, cap, rfl, hg, _⟩ := h.pb
  obtain ⟨I, hI⟩ : ∃ I, I = L[b] := ⟨_, rfl⟩
  have HO : Hid (opAt L b 6 = (I.op == 6)) := Lib.hid (by
    rw [opAt_of (x := I) (by rw [hI]; exact List.getElem?_eq_getElem hb)]
    by_cases e : I.op = 6 <;> simp [e])
  rw [HO.out]
  have hBB := (Below.refl w.heap.size w).alloc (Nat.le_refl _) (.cells #[.int .i64 (b : Int), .int .i64 (f : Int)] 66)
  have hbx := heap_alloc_new w (.cells #[.int .i64 (b : Int), .int .i64 (f : Int)] 66)
  obtain ⟨WB, hWB⟩ : ∃ WB, WB = w.alloc (.cells #[.int .i64 (b : Int), .int .i64 (f : Int)] 66) := ⟨_, rfl⟩
  rw [← hWB] at hBB hbx
  have b0 := cell_of_row WB w.heap.size 0 _ _ _ hbx
  have hlB : w.heap.size < WB.heap.size := (Array.getElem?_eq_some_iff.1 hbx).1
  have hrB := h.below hBB
  have c0 := hrB.sm.c0
  have cO : WB.cell? ⟨g, i0 + b * 7, none⟩ = some (.int .i64 I.op) := hrB.pb.at hb 0 (by decide) (by rw [← hI]; rfl)
  have hgw : g < WB.heap.size := by have := hrB.sm.lt; omega
  have pI : (b : Int) < (L.length : Int) := by omega
  have pI0 : (0 : Int) ≤ (b : Int) := by omega
  have hnI : (L.length : Int) ≤ 4096 := by omega
  have HW := Lib.hid hWB
  have HB := Lib.hid hBB
  clear h hI hWB hBB hbx hrB
  generalize I.op = o at *
  go_enter Tryd.func22, Tryd.ntmps22
  go_upto_region 1 with fail
  rw [← HW.out]
  go_quiet (fail)
  go_wp2
  go_ret
  exact ⟨rfl, HB.out.trans ((below_drewN (Below.refl _ _) _).mono HB.out.size)⟩
end
end Go.Proofs.YtfgcnknmiclfnaaDoor
set_option linter.unusedVariables false
set_option linter.unusedSimpArgs false
set_option maxRecDepth 100000
set_option maxHeartbeats 8000000
namespace Go.Proofs.YtfgcnknmiclfnaaDoor
open Go.RowKit
def Fnd (L : List IN) (T : List (Nat × Nat)) (r : Int) : Prop := (r = -1 ∧ ∀ (j : Nat) (p : Nat × Nat), T[j]? = some p → opAt L p.1 6 = false) ∨ ∃ k b f : Nat, r = (k : Int) ∧ T[k]? = some (b, f) ∧ opAt L b 6 = true ∧ ∀ (j : Nat) (p : Nat × Nat), j < k → T[j]? = some p → opAt L p.1 6 = false
theorem own_take {w : World} {B n N cap : Nat} {ad : Option Addr} {t : TypeId} {xs : List Value} {k : Nat} (h : w.ownsRow B t k (.slice ad N cap) N xs) (hn : n ≤ N) (hk : 0 < k) : w.ownsRow B t k (.slice ad n cap) n (xs.take (n * k)) := by
  obtain ⟨h1, h2⟩ := h
  refine ⟨by rw [List.length_take, h1]; exact Nat.min_eq_left (Nat.mul_le_mul_right k hn), ?_⟩
  rcases h2 with ⟨e, h0⟩ | ⟨g, cap', cur, e, hB, hg, a1, a2, a3, a4⟩
  · injection e with e1 e2 e3
    subst e1 e3
    obtain rfl : n = 0 := by omega
    exact .inl ⟨rfl, rfl⟩
  · injection e with e1 e2 e3
    subst e1 e3
    refine .inr ⟨g, cap, cur, rfl, hB, hg, Nat.le_trans hn a1, a2, a3, ?_⟩
    rw [← a4, List.take_take, Nat.min_eq_left (Nat.mul_le_mul_right k hn)]
section
variable {L : List IN} {ln : Bool} {sv : ByteArray} {at_ P : Nat} {pv uv : Value} {T : List (Nat × Nat)} {M : Nat → Bool} {w : World} {tv : Value}
theorem ixf_any (h : RC L ln sv at_ P pv uv w tv M T) (hn : L.length ≤ 4096) (hT : ∀ p, p ∈ T → p.1 < L.length) :
    Calls Tryd.prog 38 #[tv, .func (.func 22) #[.pointer (some ⟨P, 0, none⟩)] #[]] w fun e w' => (∃ r, e = .returned (.int .i64 r) ∧ Fnd L T r) ∧ Below w.heap.size w w' := by
  obtain ⟨tad, tcap, rfl⟩ := own_sl h.sm.own
  have htl : T.length ≤ 4096 := Nat.le_trans h.tc (Nat.le_trans (cntM_le _ _) hn)
  have htI : (T.length : Int) ≤ 4096 := by omega
  have HRC := Lib.hid h
  have HTn := Lib.hid hT
  clear h hT
  go_enter Tryd.func38, Tryd.ntmps38
  go_wp2
  go_loopw [8] (fun i wr => ∃ k : Nat, k ≤ T.length ∧ i = .int .i64 k ∧ Hid (∀ (j : Nat) (p : Nat × Nat), j < k → T[j]? = some p → opAt L p.1 6 = false) ∧ Hid (Below w.heap.size w wr)) (fun i _ => T.length - (intOf i).toNat)
  case atStart => exact ⟨0, Nat.zero_le _, rfl, fun q _ hq => by omega, Below.refl _ _⟩
  case round =>
    obtain ⟨k, hk, rfl, HQ, HB⟩ := hrel
    by_cases hkn : k < T.length
    · have ki : (k : Int) < T.length := by omega
      have ki0 : (0 : Int) ≤ k := by omega
      have hrc := HRC.out.below HB.out
      obtain ⟨g1, cap1, e⟩ := own_more hrc.sm.own (by omega)
      injection e with e1 e2 e3
      subst e1 e3
      obtain ⟨t0, t1⟩ := tv_cells hrc.sm.own k hkn
      have hg1 := (own_at hrc.sm.own g1 rfl).2
      obtain ⟨q, hq⟩ : ∃ q, q = T[k] := ⟨_, rfl⟩
      rw [← hq] at t0 t1
      have pn : q.1 < L.length := HTn.out q (by rw [hq]; exact List.getElem_mem _)
      have hqT : T[k]? = some q := by rw [hq]; exact List.getElem?_eq_getElem hkn
      have HQT := Lib.hid hqT
      have HE := Lib.hid (ends_any hrc q.1 q.2 pn hn)
      have HRc := Lib.hid hrc
      obtain ⟨o, ho⟩ : ∃ o, opAt L q.1 6 = o := ⟨_, rfl⟩
      rw [ho] at HE
      have HO := Lib.hid ho
      clear hrc hq pn hqT ho
      cases o with
      | true =>
        go_wp2_with (go_at_call 22; (with_reducible refine HE.out.mono ?_); rintro e w1 ⟨rfl, hb⟩; have HB1 := Lib.hid (HB.out.trans (hb.mono HB.out.size)); clear hb t0 t1)
        go_ret
        exact ⟨⟨_, rfl, .inr ⟨k, q.1, q.2, rfl, HQT.out, HO.out, HQ.out⟩⟩, HB1.out⟩
      | false =>
        go_wp2_with (go_at_call 22; (with_reducible refine HE.out.mono ?_); rintro e w1 ⟨rfl, hb⟩; have HB1 := Lib.hid (HB.out.trans (hb.mono HB.out.size)); clear hb t0 t1)
        go_roundw
        case rel =>
          refine ⟨k + 1, by omega, by go_num, fun j p hj hp => ?_, HB1.out⟩
          by_cases e : j = k
          · subst e; rw [HQT.out] at hp; cases hp; exact HO.out
          · exact HQ.out j p (by omega) hp
        case measure => simp [intOf]; omega
    · obtain rfl : k = T.length := by omega
      go_wp2
      go_ret
      exact ⟨⟨_, rfl, .inl ⟨rfl, fun j p hp => HQ.out j p (List.getElem?_eq_some_iff.1 hp).1 hp⟩⟩, HB.out⟩
theorem keep_any (h : RC L ln sv at_ P pv uv w tv M T) (hn : L.length ≤ 4096) (hsrt : T.Pairwise (fun p q => p.2 ≤ q.2)) (f k0 b0 : Nat) (hk0 : T[k0]? = some (b0, f)) :
    Calls Tryd.prog 39 #[.pointer (some ⟨P, 0, none⟩), .int .i64 (f : Int)] w fun e w' => e = .returned (.tuple #[]) ∧ ∃ tv' n, (∀ (k : Nat) (p : Nat × Nat), T[k]? = some p → (k < n ↔ p.2 ≤ f)) ∧ RC L ln sv at_ P pv uv w' tv' M (T.take n) ∧ Keep (fun b => b = P) w w' ∧ tv'.ownBlock = tv.ownBlock := by
  have hk1 := (List.getElem?_eq_some_iff.1 hk0).1
  obtain ⟨tad, tcap, e⟩ := own_more h.sm.own (by omega)
  obtain ⟨tcap', rfl⟩ : ∃ c, tv = .slice (some ⟨tad, 0, none⟩) T.length c := ⟨_, e⟩
  clear e
  have htl : T.length ≤ 4096 := Nat.le_trans h.tc (Nat.le_trans (cntM_le _ _) hn)
  have htI : (T.length : Int) ≤ 4096 := by omega
  have c4 := h.sm.c4
  have f4 := h.sm.fz 4
  have hcp : T.length ≤ tcap' := by
    rcases h.sm.own.2 with ⟨e, _⟩ | ⟨g, cap', cur, e, hB, hg, a1, a2, a3, a4⟩
    · cases e
    · injection e with e1 e2 e3; omega
  have hcpI : (T.length : Int) ≤ tcap' := by omega
  have HRC := Lib.hid h
  have HSr := Lib.hid hsrt
  have HK0 := Lib.hid hk0
  have hg1 := (own_at h.sm.own tad rfl).2
  clear h hsrt hk0 hn
  go_enter Tryd.func39, Tryd.ntmps39
  go_wp2
  go_loopw [4] (fun i wr => ∃ n : Nat, n ≤ T.length ∧ i = .int .i64 n ∧ k0 < n ∧ Hid (∀ (j : Nat) (p : Nat × Nat), n ≤ j → T[j]? = some p → f < p.2) ∧ wr = w) (fun i _ => (intOf i).toNat)
  case atStart => exact ⟨T.length, Nat.le_refl _, rfl, hk1, fun j p hj hp => by have := (List.getElem?_eq_some_iff.1 hp).1; omega, rfl⟩
  case round =>
    obtain ⟨n, hnl, rfl, hkn, HQ, rfl⟩ := hrel
    have hn1 : n - 1 < T.length := by omega
    obtain ⟨t0, t1⟩ := tv_cells HRC.out.sm.own (n - 1) hn1
    have hi : ((n : Int) - 1) = ((n - 1 : Nat) : Int) := by omega
    obtain ⟨m, hm⟩ : ∃ m, m = n - 1 := ⟨_, rfl⟩
    obtain ⟨q, hq⟩ : ∃ q, q = T[n - 1] := ⟨_, rfl⟩
    have hqT : T[n - 1]? = some q := by rw [hq]; exact List.getElem?_eq_getElem hn1
    rw [← hq] at t0 t1
    rw [← hm] at t0 t1 hi hqT
    have HQT := Lib.hid hqT
    have HM := Lib.hid hm
    have mi : (m : Int) < T.length := by omega
    have ni : (n : Int) ≤ T.length := by omega
    have ni1 : (1 : Int) ≤ n := by omega
    have mi0 : (0 : Int) ≤ (m : Int) := by omega
    have hwr : IntKind.i64.wrap ((n : Int) - 1) = (m : Int) := by rw [hi]; exact IntWalk.i64_in _ (by omega)
    clear hq hqT hm hn1
    by_cases hlt : f < q.2
    · have hltI : (f : Int) < (q.2 : Int) := by omega
      go_wp2
      go_roundw
      case rel =>
        refine ⟨m, by omega, by go_num, ?_, fun j p hj hp => ?_, trivial⟩
        · have hm := HM.out
          have : k0 ≠ m := fun e => by
            subst e
            have h1 := HQT.out
            rw [HK0.out] at h1
            cases h1
            exact absurd hlt (Nat.lt_irrefl _)
          omega
        · by_cases e : j = m
          · subst e; rw [HQT.out] at hp; cases hp; exact hlt
          · exact HQ.out j p (by have := HM.out; omega) hp
      case measure => simp [intOf]; omega
    · have hltI : ¬ ((f : Int) < (q.2 : Int)) := by omega
      have HFin : Hid (∀ (k : Nat) (p : Nat × Nat), T[k]? = some p → (k < n ↔ p.2 ≤ f)) := Lib.hid (fun k p hp => by
        constructor
        · intro hk
          have h1 := HQT.out
          obtain ⟨m1, m2⟩ := List.getElem?_eq_some_iff.1 h1
          obtain ⟨p1, p2⟩ := List.getElem?_eq_some_iff.1 hp
          by_cases e : k = m
          · subst e; rw [h1] at hp; cases hp; omega
          · have := List.pairwise_iff_getElem.1 HSr.out k m p1 m1 (by have := HM.out; omega)
            rw [m2, p2] at this
            omega
        · intro hk
          refine Nat.lt_of_not_le fun hle => ?_
          have := HQ.out k p hle hp
          omega)
      have HOw := Lib.hid (own_take HRC.out.sm.own hnl (by decide : 0 < 2))
      go_wp2
      go_end0
      have hl : (T.take n).length = n := by rw [List.length_take]; omega
      have hs := HRC.out.sm.setT (tv' := .slice (some ⟨tad, 0, none⟩) n tcap') (T' := T.take n) (by rw [hl, ← rowsT_take]; exact HOw.out) (fun g hg => HRC.out.sm.ne g hg)
      have hk := (Keep.refl (fun b => b = P) wr).put P 4 (.inl rfl) (.slice (some ⟨tad, 0, none⟩) n tcap')
      refine ⟨rfl, _, n, fun k a b h => HFin.out k (a, b) h, ⟨hs, HRC.out.pb.keep hk (Nat.le_of_lt HRC.out.sm.lt) (fun b e => by subst e; exact Nat.le_refl _), ?_⟩, hk, rfl⟩
      rw [hl]; exact Nat.le_trans hnl HRC.out.tc
end
end Go.Proofs.YtfgcnknmiclfnaaDoor
set_option linter.unusedVariables false
set_option linter.unusedSimpArgs false
set_option maxRecDepth 100000
set_option maxHeartbeats 8000000
namespace Go.Proofs.YtfgcnknmiclfnaaDoor
open Go.RowKit
theorem trm_lt {L : List IN} {b : Nat} (h : trm L b = true) : b < L.length := by
  unfold trm at h
  split at h
  · cases h
  · rename_i x hx; exact (List.getElem?_eq_some_iff.1 hx).1
theorem ThS.lt {L ln s lo F i T} (h : ThS L ln s lo F i T) : ∀ p, p ∈ T → p.1 < L.length := fun p hp => trm_lt ((h.mem p.1 p.2).1 hp).1
theorem isz_sp : (Tryd.prog.info? 28).map (·.size) = some 2 := by kernel_rfl
structure LG (L : List IN) (ln : Bool) (sv : ByteArray) (lo F0 P : Nat) (pv : Value) (w0 : World) (R i F n : Nat) (T : List (Nat × Nat)) (mf mt : Nat) (fd : Bool) (tv uv : Value) (M : Nat → Bool) (wr : World) : Prop where
  rc : RC L ln sv i P pv uv wr tv M T
  li : LI L ln sv.data.toList lo F0 F i n T mf mt fd
  bm : wr.heap[R + 1]? = some (.cells #[.int .i64 (mf : Int), .int .i64 (mt : Int)] 28 (0, 0))
  br : wr.heap[R]? = some (.cells #[.int .i64 0, .int .i64 0] 28 (0, 0))
  ne : ∀ g, (tv.ownBlock = some g ∨ uv.ownBlock = some g) → g ≠ R ∧ g ≠ R + 1
  lt : P < R
  bel : Below P w0 wr
section
variable {L : List IN} {ln : Bool} {sv : ByteArray} {lo F0 P R i F n : Nat} {pv tv uv tv' : Value} {T : List (Nat × Nat)} {mf mt : Nat} {fd : Bool} {M : Nat → Bool} {w0 wr w' : World}
theorem LG.lb (h : LG L ln sv lo F0 P pv w0 R i F n T mf mt fd tv uv M wr) : R + 1 < wr.heap.size := (Array.getElem?_eq_some_iff.1 h.bm).1
theorem LG.below (h : LG L ln sv lo F0 P pv w0 R i F n T mf mt fd tv uv M wr) (hb : Below wr.heap.size wr w') : LG L ln sv lo F0 P pv w0 R i F n T mf mt fd tv uv M w' :=
  ⟨h.rc.below hb, h.li, (hb.block _ h.lb).trans h.bm, (hb.block _ (by have := h.lb; omega)).trans h.br, h.ne, h.lt, h.bel.trans (hb.mono (Nat.le_of_lt h.rc.sm.lt))⟩
theorem LG.miss (h : LG L ln sv lo F0 P pv w0 R i F i T mf mt fd tv uv M wr) (hj : ∀ (j : Nat) (p : Nat × Nat), T[j]? = some p → opAt L p.1 6 = false) : LG L ln sv lo F0 P pv w0 R i F (i + 1) T mf mt fd tv uv M wr :=
  ⟨h.rc, h.li.miss hj, h.bm, h.br, h.ne, h.lt, h.bel⟩
theorem LG.put2 (h : LG L ln sv lo F0 P pv w0 R i F n T mf mt fd tv uv M wr) (x y : Value) : (((wr.setCell ⟨R + 1, 0, none⟩ x).setCell ⟨R + 1, 1, none⟩ y).heap[R + 1]? = some (.cells #[x, y] 28 (0, 0))) ∧ Keep (fun b => b = R + 1) wr ((wr.setCell ⟨R + 1, 0, none⟩ x).setCell ⟨R + 1, 1, none⟩ y) := by
  refine ⟨?_, ((Keep.refl (fun b => b = R + 1) wr).put (R + 1) 0 (.inl rfl) x).put (R + 1) 1 (.inl rfl) y⟩
  have h1 := heap_setCell_same wr (R + 1) 0 _ _ x h.bm
  have h2 := heap_setCell_same _ (R + 1) 1 _ _ y h1
  exact h2
theorem LG.hitA (h : LG L ln sv lo F0 P pv w0 R i F i T mf mt fd tv uv M wr) (x y : Value) : RC L ln sv i P pv uv ((wr.setCell ⟨R + 1, 0, none⟩ x).setCell ⟨R + 1, 1, none⟩ y) tv M T := by
  obtain ⟨h1, h2⟩ := h.put2 x y
  have hP := h.lt
  obtain ⟨un, uxs, hu⟩ := h.rc.sm.spr
  refine ⟨h.rc.sm.ofBlocks h2.size (h2.block P h.rc.sm.lt (by omega)) (own_keep h.rc.sm.own h2 (fun g hg e => (h.ne g (.inl hg)).2 e)) ⟨un, uxs, own_keep hu h2 (fun g hg e => (h.ne g (.inr hg)).2 e)⟩, h.rc.pb.keep h2 (Nat.le_of_lt h.rc.sm.lt) (fun b e => by omega), h.rc.tc⟩
theorem LG.hitB {k b f m : Nat} (h : LG L ln sv lo F0 P pv w0 R i F i T mf mt fd tv uv M wr) (hi : i ≤ sv.size) (hk : T[k]? = some (b, f)) (hb : opAt L b 6 = true) (hj : ∀ (j : Nat) (p : Nat × Nat), j < k → T[j]? = some p → opAt L p.1 6 = false)
    (hn : ∀ (k : Nat) (p : Nat × Nat), T[k]? = some p → (k < m ↔ p.2 ≤ f)) {wd : World} (hwd : Below ((wr.setCell ⟨R + 1, 0, none⟩ (.int .i64 (f : Int))).setCell ⟨R + 1, 1, none⟩ (.int .i64 (i : Int))).heap.size ((wr.setCell ⟨R + 1, 0, none⟩ (.int .i64 (f : Int))).setCell ⟨R + 1, 1, none⟩ (.int .i64 (i : Int))) wd) (hr : RC L ln sv i P pv uv w' tv' M (T.take m)) (hkp : Keep (fun b => b = P) wd w') (ho : tv'.ownBlock = tv.ownBlock) :
    LG L ln sv lo F0 P pv w0 R i f (i + 1) (T.take m) f i true tv' uv M w' := by
  obtain ⟨h1, h2⟩ := h.put2 (.int .i64 (f : Int)) (.int .i64 (i : Int))
  have hP := h.lt
  have h3 := h2.next hwd
  have hlb := h.lb
  have hsz := h3.size
  have hbm : wd.heap[R + 1]? = some (.cells #[.int .i64 (f : Int), .int .i64 (i : Int)] 28 (0, 0)) := (hwd.block _ (by have := h2.size; omega)).trans h1
  refine ⟨hr, h.li.hit hi hk hb (fun j p => hj j p) m (fun k p => hn k p), (hkp.block _ (by omega) (by omega)).trans hbm, (hkp.block _ (by omega) (by omega)).trans ((h3.block R (by omega) (by omega)).trans h.br), fun g hg => h.ne g (by rw [ho] at hg; exact hg), hP, h.bel.trans ((h3.below (B := P) (Nat.le_of_lt h.rc.sm.lt) (fun g e => by omega)).trans (hkp.below (B := P) (by omega) (fun g e => by omega)))⟩
theorem LG.adv {c : UInt8} (h : LG L ln sv lo F0 P pv w0 R i F (i + 1) T mf mt fd tv uv M wr) (hc : sv.data.toList[i]? = some c) (hl : LP L ln sv i P pv tv uv T c wr T.length w') : ∃ tv' M' T', LG L ln sv lo F0 P pv w0 R (i + 1) F (i + 1) T' mf mt fd tv' tv M' w' := by
  obtain ⟨tv', M', T', r1, r2, r3, r4⟩ := hl
  rw [List.take_length] at r2
  have hP := h.lt
  have hlb := h.lb
  have hfar : ∀ b, (b = R ∨ b = R + 1) → ¬ (b = P ∨ tv.ownBlock = some b ∨ uv.ownBlock = some b) := fun b hb e => by
    rcases e with e | e | e
    · omega
    · have := h.ne b (.inl e); omega
    · have := h.ne b (.inr e); omega
  refine ⟨tv', M', T', r1, h.li.adv hc r2, (r3.keep.block _ hlb (hfar _ (.inr rfl))).trans h.bm, (r3.keep.block _ (by omega) (hfar _ (.inl rfl))).trans h.br, fun g hg => ?_, hP, h.bel.trans (r3.keep.below (Nat.le_of_lt h.rc.sm.lt) (fun g e => ?_))⟩
  · rcases hg with hg | hg
    · rcases r3.own g hg with e | e
      · exact h.ne g (.inr e)
      · omega
    · exact h.ne g (.inl hg)
  · rcases e with e | e | e
    · omega
    · have := (own_at h.rc.sm.own g e).1; omega
    · obtain ⟨_, _, hu⟩ := h.rc.sm.spr
      have := (own_at hu g e).1; omega
end
end Go.Proofs.YtfgcnknmiclfnaaDoor
