/- RsReachB. -/
import Derived.Test.YtfgcnknmiclfnaaDoorPb18
set_option linter.unusedVariables false
set_option linter.unusedSimpArgs false
set_option maxRecDepth 100000
set_option maxHeartbeats 4000000
namespace Go.Proofs.YtfgcnknmiclfnaaDoor
open Go.RowKit
section
variable {L : List IN} {ln : Bool} {sv : ByteArray} {at_ P : Nat} {pv uv : Value}
theorem reach_split (hn : L.length ≤ 4096) (f m k : Nat) (w : World) (tv : Value) (M : Nat → Bool) (T : List (Nat × Nat)) (hk : k < L.length) (h : RC L ln sv at_ P pv uv w tv M T) (hm : M k = false) (ho : (L[k]).op = 2) (hc : L.length - cntM M L.length ≤ m + 1) (ih : ReachOk L ln sv at_ P pv uv f m) {a c : Nat} (hx : (L[k]).x = (a : Int)) (ha : a < L.length) (hy : (L[k]).y = (c : Int)) (hc2 : c < L.length) :
    Calls Tryd.prog 36 #[.pointer (some ⟨P, 0, none⟩), .int .i64 (k : Int), .int .i64 (f : Int)] w fun e w' => e = .returned (.tuple #[]) ∧ RPost L ln sv at_ P pv uv f w tv M T [k] w' := by
  have HA := Lib.hid (add_new h.sm k (by omega) hm)
  obtain ⟨b, i0, cap, rfl, hb, _⟩ := h.pb
  have hcn := cntM_put hm L.length hk
  have hcm : L.length - cntM (putM M k) L.length ≤ m := by omega
  have HR : Hid (∀ w1, SM w1 P (.slice (some ⟨b, i0, none⟩) L.length cap) ln sv at_ tv uv (putM M k) T → Mv P tv w tv w1 → RC L ln sv at_ P (.slice (some ⟨b, i0, none⟩) L.length cap) uv w1 tv (putM M k) T) := Lib.hid (fun w1 s m => h.mv s m (by have := h.tc; omega))
  have HOp : Hid (∀ w1 tv1 M1 T1, RC L ln sv at_ P (.slice (some ⟨b, i0, none⟩) L.length cap) uv w1 tv1 M1 T1 → w1.cell? ⟨b, i0 + k * 7, none⟩ = some (.int .i64 2)) := Lib.hid (fun w1 _ _ _ r => r.pb.at hk 0 (by decide) (by rw [← ho]; rfl))
  have HTm : Hid (trm L k = false) := Lib.hid (by rw [trm_at hk, ho]; rfl)
  have HX1 : Hid (∀ w1 tv1 M1 T1, RC L ln sv at_ P (.slice (some ⟨b, i0, none⟩) L.length cap) uv w1 tv1 M1 T1 → w1.cell? ⟨b, i0 + k * 7 + 5, none⟩ = some (.int .i64 (a : Int))) := Lib.hid (fun w1 _ _ _ r => r.pb.at hk 5 (by decide) (by rw [← hx]; rfl))
  have HX2 : Hid (∀ w1 tv1 M1 T1, RC L ln sv at_ P (.slice (some ⟨b, i0, none⟩) L.length cap) uv w1 tv1 M1 T1 → w1.cell? ⟨b, i0 + k * 7 + 6, none⟩ = some (.int .i64 (c : Int))) := Lib.hid (fun w1 _ _ _ r => r.pb.at hk 6 (by decide) (by rw [← hy]; rfl))
  have HI1 : Hid (∀ w1 tv1 M1 T1, (∀ j, putM M k j = true → M1 j = true) ∧ RC L ln sv at_ P (.slice (some ⟨b, i0, none⟩) L.length cap) uv w1 tv1 M1 T1 → Calls Tryd.prog 36 #[.pointer (some ⟨P, 0, none⟩), .int .i64 (a : Int), .int .i64 (f : Int)] w1 fun e w' => e = .returned (.tuple #[]) ∧ RPost L ln sv at_ P (.slice (some ⟨b, i0, none⟩) L.length cap) uv f w1 tv1 M1 T1 [a] w') := Lib.hid (fun w1 tv1 M1 T1 r => ih a w1 tv1 M1 T1 (by have := cntM_mono r.1 L.length; omega) ha r.2)
  have HI2 : Hid (∀ w1 tv1 M1 T1, (∀ j, putM M k j = true → M1 j = true) ∧ RC L ln sv at_ P (.slice (some ⟨b, i0, none⟩) L.length cap) uv w1 tv1 M1 T1 → Calls Tryd.prog 36 #[.pointer (some ⟨P, 0, none⟩), .int .i64 (c : Int), .int .i64 (f : Int)] w1 fun e w' => e = .returned (.tuple #[]) ∧ RPost L ln sv at_ P (.slice (some ⟨b, i0, none⟩) L.length cap) uv f w1 tv1 M1 T1 [c] w') := Lib.hid (fun w1 tv1 M1 T1 r => ih c w1 tv1 M1 T1 (by have := cntM_mono r.1 L.length; omega) hc2 r.2)
  have HS : Hid (stp L ln sv.data.toList at_ k = [a, c]) := Lib.hid (by rw [stp_at hk, ho, hx, hy]; rfl)
  have hki : (k : Int) < (L.length : Int) := by omega
  have hk0 : (0 : Int) ≤ (k : Int) := by omega
  have HHm := Lib.hid hm
  clear h hm hcn ho hc ih hcm hx hy
  have hkn : (L.length : Int) ≤ 4096 := by omega
  go_enter Tryd.func36, Tryd.ntmps36
  go_wp2_with (first
    | (go_at_call 57; (with_reducible refine HA.out.mono ?_); rintro e w1 ⟨rfl, hs1, hm1⟩
       have HM1 := Lib.hid hm1
       have hr1 := HR.out _ hs1 hm1
       have HR1 := Lib.hid hr1
       have c0 := hs1.c0
       have cO := HOp.out _ _ _ _ hr1
       have cX := HX1.out _ _ _ _ hr1
       have cY := HX2.out _ _ _ _ hr1
       have hbw : b < w1.heap.size := by have := hs1.lt; omega
       clear hs1 hm1 hr1)
    | (go_at_call 36; (with_reducible refine (HI1.out _ _ _ _ ⟨fun _ h => h, HR1.out⟩).mono ?_); rintro e w2 ⟨rfl, tv2, M2, T2, hr2, hrr2, hmv2⟩
       have HR2 := Lib.hid hr2
       have HRR2 := Lib.hid hrr2
       have HMV2 := Lib.hid hmv2
       have c0b := hr2.sm.c0
       have cOb := HOp.out _ _ _ _ hr2
       have cYb := HX2.out _ _ _ _ hr2
       have hbw2 : b < w2.heap.size := by have := hr2.sm.lt; omega
       clear c0 cO cX cY hr2 hrr2 hmv2)
    | (go_at_call 36; (with_reducible refine (HI2.out _ _ _ _ ⟨HRR2.out.mono, HR2.out⟩).mono ?_); rintro e w3 ⟨rfl, tv3, M3, T3, hr3, hrr3, hmv3⟩
       have HR3 := Lib.hid hr3
       have HRR3 := Lib.hid hrr3
       have HMV3 := Lib.hid hmv3
       clear c0b cOb cYb hr3 hrr3 hmv3))
  go_end0
  exact ⟨rfl, tv3, M3, T3, HR3.out, RR.node HHm.out HTm.out (by rw [HS.out]; exact HRR2.out.app HRR3.out), (HM1.out.trans HMV2.out).trans HMV3.out⟩
theorem reach_jump (hn : L.length ≤ 4096) (f m k : Nat) (w : World) (tv : Value) (M : Nat → Bool) (T : List (Nat × Nat)) (hk : k < L.length) (h : RC L ln sv at_ P pv uv w tv M T) (hm : M k = false) (ho : (L[k]).op = 3) (hc : L.length - cntM M L.length ≤ m + 1) (ih : ReachOk L ln sv at_ P pv uv f m) {a : Nat} (hx : (L[k]).x = (a : Int)) (ha : a < L.length) :
    Calls Tryd.prog 36 #[.pointer (some ⟨P, 0, none⟩), .int .i64 (k : Int), .int .i64 (f : Int)] w fun e w' => e = .returned (.tuple #[]) ∧ RPost L ln sv at_ P pv uv f w tv M T [k] w' := by
  have HA := Lib.hid (add_new h.sm k (by omega) hm)
  obtain ⟨b, i0, cap, rfl, hb, _⟩ := h.pb
  have hcn := cntM_put hm L.length hk
  have hcm : L.length - cntM (putM M k) L.length ≤ m := by omega
  have HR : Hid (∀ w1, SM w1 P (.slice (some ⟨b, i0, none⟩) L.length cap) ln sv at_ tv uv (putM M k) T → Mv P tv w tv w1 → RC L ln sv at_ P (.slice (some ⟨b, i0, none⟩) L.length cap) uv w1 tv (putM M k) T) := Lib.hid (fun w1 s m => h.mv s m (by have := h.tc; omega))
  have HOp : Hid (∀ w1 tv1 M1 T1, RC L ln sv at_ P (.slice (some ⟨b, i0, none⟩) L.length cap) uv w1 tv1 M1 T1 → w1.cell? ⟨b, i0 + k * 7, none⟩ = some (.int .i64 3)) := Lib.hid (fun w1 _ _ _ r => r.pb.at hk 0 (by decide) (by rw [← ho]; rfl))
  have HTm : Hid (trm L k = false) := Lib.hid (by rw [trm_at hk, ho]; rfl)
  have HX1 : Hid (∀ w1 tv1 M1 T1, RC L ln sv at_ P (.slice (some ⟨b, i0, none⟩) L.length cap) uv w1 tv1 M1 T1 → w1.cell? ⟨b, i0 + k * 7 + 5, none⟩ = some (.int .i64 (a : Int))) := Lib.hid (fun w1 _ _ _ r => r.pb.at hk 5 (by decide) (by rw [← hx]; rfl))
  have HI1 : Hid (∀ w1 tv1 M1 T1, (∀ j, putM M k j = true → M1 j = true) ∧ RC L ln sv at_ P (.slice (some ⟨b, i0, none⟩) L.length cap) uv w1 tv1 M1 T1 → Calls Tryd.prog 36 #[.pointer (some ⟨P, 0, none⟩), .int .i64 (a : Int), .int .i64 (f : Int)] w1 fun e w' => e = .returned (.tuple #[]) ∧ RPost L ln sv at_ P (.slice (some ⟨b, i0, none⟩) L.length cap) uv f w1 tv1 M1 T1 [a] w') := Lib.hid (fun w1 tv1 M1 T1 r => ih a w1 tv1 M1 T1 (by have := cntM_mono r.1 L.length; omega) ha r.2)
  have HS : Hid (stp L ln sv.data.toList at_ k = [a]) := Lib.hid (by rw [stp_at hk, ho, hx]; rfl)
  have hki : (k : Int) < (L.length : Int) := by omega
  have hk0 : (0 : Int) ≤ (k : Int) := by omega
  have HHm := Lib.hid hm
  clear h hm hcn ho hc ih hcm hx
  have hkn : (L.length : Int) ≤ 4096 := by omega
  go_enter Tryd.func36, Tryd.ntmps36
  go_wp2_with (first
    | (go_at_call 57; (with_reducible refine HA.out.mono ?_); rintro e w1 ⟨rfl, hs1, hm1⟩
       have HM1 := Lib.hid hm1
       have hr1 := HR.out _ hs1 hm1
       have HR1 := Lib.hid hr1
       have c0 := hs1.c0
       have cO := HOp.out _ _ _ _ hr1
       have cX := HX1.out _ _ _ _ hr1
       have hbw : b < w1.heap.size := by have := hs1.lt; omega
       clear hs1 hm1 hr1)
    | (go_at_call 36; (with_reducible refine (HI1.out _ _ _ _ ⟨fun _ h => h, HR1.out⟩).mono ?_); rintro e w2 ⟨rfl, tv2, M2, T2, hr2, hrr2, hmv2⟩
       have HR2 := Lib.hid hr2
       have HRR2 := Lib.hid hrr2
       have HMV2 := Lib.hid hmv2
       clear c0 cO cX hr2 hrr2 hmv2))
  go_end0
  exact ⟨rfl, tv2, M2, T2, HR2.out, RR.node HHm.out HTm.out (by rw [HS.out]; exact HRR2.out), HM1.out.trans HMV2.out⟩
theorem reach_begin_true (hn : L.length ≤ 4096) (f m k : Nat) (w : World) (tv : Value) (M : Nat → Bool) (T : List (Nat × Nat)) (hk : k < L.length) (h : RC L ln sv at_ P pv uv w tv M T) (hm : M k = false) (ho : (L[k]).op = 4) (hc : L.length - cntM M L.length ≤ m + 1) (ih : ReachOk L ln sv at_ P pv uv f m) (ha0 : at_ ≤ sv.size) (hs0 : sv.size ≤ 1000000000) (hv : bgB ln sv.data.toList at_ = true) (ha : k + 1 < L.length) :
    Calls Tryd.prog 36 #[.pointer (some ⟨P, 0, none⟩), .int .i64 (k : Int), .int .i64 (f : Int)] w fun e w' => e = .returned (.tuple #[]) ∧ RPost L ln sv at_ P pv uv f w tv M T [k] w' := by
  have HA := Lib.hid (add_new h.sm k (by omega) hm)
  obtain ⟨b, i0, cap, rfl, hb, _⟩ := h.pb
  have hcn := cntM_put hm L.length hk
  have hcm : L.length - cntM (putM M k) L.length ≤ m := by omega
  have HR : Hid (∀ w1, SM w1 P (.slice (some ⟨b, i0, none⟩) L.length cap) ln sv at_ tv uv (putM M k) T → Mv P tv w tv w1 → RC L ln sv at_ P (.slice (some ⟨b, i0, none⟩) L.length cap) uv w1 tv (putM M k) T) := Lib.hid (fun w1 s m => h.mv s m (by have := h.tc; omega))
  have HOp : Hid (∀ w1 tv1 M1 T1, RC L ln sv at_ P (.slice (some ⟨b, i0, none⟩) L.length cap) uv w1 tv1 M1 T1 → w1.cell? ⟨b, i0 + k * 7, none⟩ = some (.int .i64 4)) := Lib.hid (fun w1 _ _ _ r => r.pb.at hk 0 (by decide) (by rw [← ho]; rfl))
  have HTm : Hid (trm L k = false) := Lib.hid (by rw [trm_at hk, ho]; rfl)
  have HI1 : Hid (∀ w1 tv1 M1 T1, (∀ j, putM M k j = true → M1 j = true) ∧ RC L ln sv at_ P (.slice (some ⟨b, i0, none⟩) L.length cap) uv w1 tv1 M1 T1 → Calls Tryd.prog 36 #[.pointer (some ⟨P, 0, none⟩), .int .i64 ((k : Int) + 1), .int .i64 (f : Int)] w1 fun e w' => e = .returned (.tuple #[]) ∧ RPost L ln sv at_ P (.slice (some ⟨b, i0, none⟩) L.length cap) uv f w1 tv1 M1 T1 [(k + 1)] w') := Lib.hid (fun w1 tv1 M1 T1 r => ih (k + 1) w1 tv1 M1 T1 (by have := cntM_mono r.1 L.length; omega) ha r.2)
  have HS : Hid (stp L ln sv.data.toList at_ k = [k + 1]) := Lib.hid (by rw [stp_at hk, ho, hv]; rfl)
  have HB : Hid (∀ w1 tv1 M1 T1, RC L ln sv at_ P (.slice (some ⟨b, i0, none⟩) L.length cap) uv w1 tv1 M1 T1 → Calls Tryd.prog 58 #[.pointer (some ⟨P, 0, none⟩)] w1 fun e w' => e = .returned (.bool true) ∧ Below w1.heap.size w1 w') := Lib.hid (fun w1 _ _ _ r => by rw [← hv]; exact atBegin_any r.sm ha0 hs0)
  have hki : (k : Int) < (L.length : Int) := by omega
  have hk0 : (0 : Int) ≤ (k : Int) := by omega
  have HHm := Lib.hid hm
  clear h hm hcn ho hc ih hcm hv
  have hkn : (L.length : Int) ≤ 4096 := by omega
  go_enter Tryd.func36, Tryd.ntmps36
  go_wp2_with (first
    | (go_at_call 57; (with_reducible refine HA.out.mono ?_); rintro e w1 ⟨rfl, hs1, hm1⟩
       have HM1 := Lib.hid hm1
       have hr1 := HR.out _ hs1 hm1
       have HR1 := Lib.hid hr1
       have c0 := hs1.c0
       have cO := HOp.out _ _ _ _ hr1
       have hbw : b < w1.heap.size := by have := hs1.lt; omega
       clear hs1 hm1 hr1)
    | (go_at_call 58; (with_reducible refine (HB.out _ _ _ _ HR1.out).mono ?_); rintro e w2 ⟨rfl, hb2⟩
       have HB2 := Lib.hid hb2
       have HR2 := Lib.hid (HR1.out.below hb2)
       clear hb2 c0 cO hbw)
    | (go_at_call 36; (with_reducible refine (HI1.out _ _ _ _ ⟨fun _ h => h, HR2.out⟩).mono ?_); rintro e w3 ⟨rfl, tv3, M3, T3, hr3, hrr3, hmv3⟩
       have HR3 := Lib.hid hr3
       have HRR3 := Lib.hid hrr3
       have HMV3 := Lib.hid hmv3
       clear hr3 hrr3 hmv3))
  go_end0
  exact ⟨rfl, tv3, M3, T3, HR3.out, RR.node HHm.out HTm.out (by rw [HS.out]; exact HRR3.out), (HM1.out.next HB2.out).trans HMV3.out⟩
theorem reach_begin_false (hn : L.length ≤ 4096) (f m k : Nat) (w : World) (tv : Value) (M : Nat → Bool) (T : List (Nat × Nat)) (hk : k < L.length) (h : RC L ln sv at_ P pv uv w tv M T) (hm : M k = false) (ho : (L[k]).op = 4) (hc : L.length - cntM M L.length ≤ m + 1) (ih : ReachOk L ln sv at_ P pv uv f m) (ha0 : at_ ≤ sv.size) (hs0 : sv.size ≤ 1000000000) (hv : bgB ln sv.data.toList at_ = false) :
    Calls Tryd.prog 36 #[.pointer (some ⟨P, 0, none⟩), .int .i64 (k : Int), .int .i64 (f : Int)] w fun e w' => e = .returned (.tuple #[]) ∧ RPost L ln sv at_ P pv uv f w tv M T [k] w' := by
  have HA := Lib.hid (add_new h.sm k (by omega) hm)
  obtain ⟨b, i0, cap, rfl, hb, _⟩ := h.pb
  have hcn := cntM_put hm L.length hk
  have hcm : L.length - cntM (putM M k) L.length ≤ m := by omega
  have HR : Hid (∀ w1, SM w1 P (.slice (some ⟨b, i0, none⟩) L.length cap) ln sv at_ tv uv (putM M k) T → Mv P tv w tv w1 → RC L ln sv at_ P (.slice (some ⟨b, i0, none⟩) L.length cap) uv w1 tv (putM M k) T) := Lib.hid (fun w1 s m => h.mv s m (by have := h.tc; omega))
  have HOp : Hid (∀ w1 tv1 M1 T1, RC L ln sv at_ P (.slice (some ⟨b, i0, none⟩) L.length cap) uv w1 tv1 M1 T1 → w1.cell? ⟨b, i0 + k * 7, none⟩ = some (.int .i64 4)) := Lib.hid (fun w1 _ _ _ r => r.pb.at hk 0 (by decide) (by rw [← ho]; rfl))
  have HTm : Hid (trm L k = false) := Lib.hid (by rw [trm_at hk, ho]; rfl)
  have HS : Hid (stp L ln sv.data.toList at_ k = []) := Lib.hid (by rw [stp_at hk, ho, hv]; rfl)
  have HB : Hid (∀ w1 tv1 M1 T1, RC L ln sv at_ P (.slice (some ⟨b, i0, none⟩) L.length cap) uv w1 tv1 M1 T1 → Calls Tryd.prog 58 #[.pointer (some ⟨P, 0, none⟩)] w1 fun e w' => e = .returned (.bool false) ∧ Below w1.heap.size w1 w') := Lib.hid (fun w1 _ _ _ r => by rw [← hv]; exact atBegin_any r.sm ha0 hs0)
  have hki : (k : Int) < (L.length : Int) := by omega
  have hk0 : (0 : Int) ≤ (k : Int) := by omega
  have HHm := Lib.hid hm
  clear h hm hcn ho hc ih hcm hv
  have hkn : (L.length : Int) ≤ 4096 := by omega
  go_enter Tryd.func36, Tryd.ntmps36
  go_wp2_with (first
    | (go_at_call 57; (with_reducible refine HA.out.mono ?_); rintro e w1 ⟨rfl, hs1, hm1⟩
       have HM1 := Lib.hid hm1
       have hr1 := HR.out _ hs1 hm1
       have HR1 := Lib.hid hr1
       have c0 := hs1.c0
       have cO := HOp.out _ _ _ _ hr1
       have hbw : b < w1.heap.size := by have := hs1.lt; omega
       clear hs1 hm1 hr1)
    | (go_at_call 58; (with_reducible refine (HB.out _ _ _ _ HR1.out).mono ?_); rintro e w2 ⟨rfl, hb2⟩
       have HB2 := Lib.hid hb2
       have HR2 := Lib.hid (HR1.out.below hb2)
       clear hb2 c0 cO hbw))
  go_end0
  exact ⟨rfl, tv, putM M k, T, HR2.out, RR.node HHm.out HTm.out (by rw [HS.out]; exact RR.nil _ _ _ _ _), HM1.out.next HB2.out⟩
theorem reach_stop_true (hn : L.length ≤ 4096) (f m k : Nat) (w : World) (tv : Value) (M : Nat → Bool) (T : List (Nat × Nat)) (hk : k < L.length) (h : RC L ln sv at_ P pv uv w tv M T) (hm : M k = false) (ho : (L[k]).op = 5) (hc : L.length - cntM M L.length ≤ m + 1) (ih : ReachOk L ln sv at_ P pv uv f m) (ha0 : at_ ≤ sv.size) (hs0 : sv.size ≤ 1000000000) (hv : enB ln sv.data.toList at_ = true) (ha : k + 1 < L.length) :
    Calls Tryd.prog 36 #[.pointer (some ⟨P, 0, none⟩), .int .i64 (k : Int), .int .i64 (f : Int)] w fun e w' => e = .returned (.tuple #[]) ∧ RPost L ln sv at_ P pv uv f w tv M T [k] w' := by
  have HA := Lib.hid (add_new h.sm k (by omega) hm)
  obtain ⟨b, i0, cap, rfl, hb, _⟩ := h.pb
  have hcn := cntM_put hm L.length hk
  have hcm : L.length - cntM (putM M k) L.length ≤ m := by omega
  have HR : Hid (∀ w1, SM w1 P (.slice (some ⟨b, i0, none⟩) L.length cap) ln sv at_ tv uv (putM M k) T → Mv P tv w tv w1 → RC L ln sv at_ P (.slice (some ⟨b, i0, none⟩) L.length cap) uv w1 tv (putM M k) T) := Lib.hid (fun w1 s m => h.mv s m (by have := h.tc; omega))
  have HOp : Hid (∀ w1 tv1 M1 T1, RC L ln sv at_ P (.slice (some ⟨b, i0, none⟩) L.length cap) uv w1 tv1 M1 T1 → w1.cell? ⟨b, i0 + k * 7, none⟩ = some (.int .i64 5)) := Lib.hid (fun w1 _ _ _ r => r.pb.at hk 0 (by decide) (by rw [← ho]; rfl))
  have HTm : Hid (trm L k = false) := Lib.hid (by rw [trm_at hk, ho]; rfl)
  have HI1 : Hid (∀ w1 tv1 M1 T1, (∀ j, putM M k j = true → M1 j = true) ∧ RC L ln sv at_ P (.slice (some ⟨b, i0, none⟩) L.length cap) uv w1 tv1 M1 T1 → Calls Tryd.prog 36 #[.pointer (some ⟨P, 0, none⟩), .int .i64 ((k : Int) + 1), .int .i64 (f : Int)] w1 fun e w' => e = .returned (.tuple #[]) ∧ RPost L ln sv at_ P (.slice (some ⟨b, i0, none⟩) L.length cap) uv f w1 tv1 M1 T1 [(k + 1)] w') := Lib.hid (fun w1 tv1 M1 T1 r => ih (k + 1) w1 tv1 M1 T1 (by have := cntM_mono r.1 L.length; omega) ha r.2)
  have HS : Hid (stp L ln sv.data.toList at_ k = [k + 1]) := Lib.hid (by rw [stp_at hk, ho, hv]; rfl)
  have HB : Hid (∀ w1 tv1 M1 T1, RC L ln sv at_ P (.slice (some ⟨b, i0, none⟩) L.length cap) uv w1 tv1 M1 T1 → Calls Tryd.prog 59 #[.pointer (some ⟨P, 0, none⟩)] w1 fun e w' => e = .returned (.bool true) ∧ Below w1.heap.size w1 w') := Lib.hid (fun w1 _ _ _ r => by rw [← hv]; exact atEnd_any r.sm ha0 hs0)
  have hki : (k : Int) < (L.length : Int) := by omega
  have hk0 : (0 : Int) ≤ (k : Int) := by omega
  have HHm := Lib.hid hm
  clear h hm hcn ho hc ih hcm hv
  have hkn : (L.length : Int) ≤ 4096 := by omega
  go_enter Tryd.func36, Tryd.ntmps36
  go_wp2_with (first
    | (go_at_call 57; (with_reducible refine HA.out.mono ?_); rintro e w1 ⟨rfl, hs1, hm1⟩
       have HM1 := Lib.hid hm1
       have hr1 := HR.out _ hs1 hm1
       have HR1 := Lib.hid hr1
       have c0 := hs1.c0
       have cO := HOp.out _ _ _ _ hr1
       have hbw : b < w1.heap.size := by have := hs1.lt; omega
       clear hs1 hm1 hr1)
    | (go_at_call 59; (with_reducible refine (HB.out _ _ _ _ HR1.out).mono ?_); rintro e w2 ⟨rfl, hb2⟩
       have HB2 := Lib.hid hb2
       have HR2 := Lib.hid (HR1.out.below hb2)
       clear hb2 c0 cO hbw)
    | (go_at_call 36; (with_reducible refine (HI1.out _ _ _ _ ⟨fun _ h => h, HR2.out⟩).mono ?_); rintro e w3 ⟨rfl, tv3, M3, T3, hr3, hrr3, hmv3⟩
       have HR3 := Lib.hid hr3
       have HRR3 := Lib.hid hrr3
       have HMV3 := Lib.hid hmv3
       clear hr3 hrr3 hmv3))
  go_end0
  exact ⟨rfl, tv3, M3, T3, HR3.out, RR.node HHm.out HTm.out (by rw [HS.out]; exact HRR3.out), (HM1.out.next HB2.out).trans HMV3.out⟩
theorem reach_stop_false (hn : L.length ≤ 4096) (f m k : Nat) (w : World) (tv : Value) (M : Nat → Bool) (T : List (Nat × Nat)) (hk : k < L.length) (h : RC L ln sv at_ P pv uv w tv M T) (hm : M k = false) (ho : (L[k]).op = 5) (hc : L.length - cntM M L.length ≤ m + 1) (ih : ReachOk L ln sv at_ P pv uv f m) (ha0 : at_ ≤ sv.size) (hs0 : sv.size ≤ 1000000000) (hv : enB ln sv.data.toList at_ = false) :
    Calls Tryd.prog 36 #[.pointer (some ⟨P, 0, none⟩), .int .i64 (k : Int), .int .i64 (f : Int)] w fun e w' => e = .returned (.tuple #[]) ∧ RPost L ln sv at_ P pv uv f w tv M T [k] w' := by
  have HA := Lib.hid (add_new h.sm k (by omega) hm)
  obtain ⟨b, i0, cap, rfl, hb, _⟩ := h.pb
  have hcn := cntM_put hm L.length hk
  have hcm : L.length - cntM (putM M k) L.length ≤ m := by omega
  have HR : Hid (∀ w1, SM w1 P (.slice (some ⟨b, i0, none⟩) L.length cap) ln sv at_ tv uv (putM M k) T → Mv P tv w tv w1 → RC L ln sv at_ P (.slice (some ⟨b, i0, none⟩) L.length cap) uv w1 tv (putM M k) T) := Lib.hid (fun w1 s m => h.mv s m (by have := h.tc; omega))
  have HOp : Hid (∀ w1 tv1 M1 T1, RC L ln sv at_ P (.slice (some ⟨b, i0, none⟩) L.length cap) uv w1 tv1 M1 T1 → w1.cell? ⟨b, i0 + k * 7, none⟩ = some (.int .i64 5)) := Lib.hid (fun w1 _ _ _ r => r.pb.at hk 0 (by decide) (by rw [← ho]; rfl))
  have HTm : Hid (trm L k = false) := Lib.hid (by rw [trm_at hk, ho]; rfl)
  have HS : Hid (stp L ln sv.data.toList at_ k = []) := Lib.hid (by rw [stp_at hk, ho, hv]; rfl)
  have HB : Hid (∀ w1 tv1 M1 T1, RC L ln sv at_ P (.slice (some ⟨b, i0, none⟩) L.length cap) uv w1 tv1 M1 T1 → Calls Tryd.prog 59 #[.pointer (some ⟨P, 0, none⟩)] w1 fun e w' => e = .returned (.bool false) ∧ Below w1.heap.size w1 w') := Lib.hid (fun w1 _ _ _ r => by rw [← hv]; exact atEnd_any r.sm ha0 hs0)
  have hki : (k : Int) < (L.length : Int) := by omega
  have hk0 : (0 : Int) ≤ (k : Int) := by omega
  have HHm := Lib.hid hm
  clear h hm hcn ho hc ih hcm hv
  have hkn : (L.length : Int) ≤ 4096 := by omega
  go_enter Tryd.func36, Tryd.ntmps36
  go_wp2_with (first
    | (go_at_call 57; (with_reducible refine HA.out.mono ?_); rintro e w1 ⟨rfl, hs1, hm1⟩
       have HM1 := Lib.hid hm1
       have hr1 := HR.out _ hs1 hm1
       have HR1 := Lib.hid hr1
       have c0 := hs1.c0
       have cO := HOp.out _ _ _ _ hr1
       have hbw : b < w1.heap.size := by have := hs1.lt; omega
       clear hs1 hm1 hr1)
    | (go_at_call 59; (with_reducible refine (HB.out _ _ _ _ HR1.out).mono ?_); rintro e w2 ⟨rfl, hb2⟩
       have HB2 := Lib.hid hb2
       have HR2 := Lib.hid (HR1.out.below hb2)
       clear hb2 c0 cO hbw))
  go_end0
  exact ⟨rfl, tv, putM M k, T, HR2.out, RR.node HHm.out HTm.out (by rw [HS.out]; exact RR.nil _ _ _ _ _), HM1.out.next HB2.out⟩
theorem reach_any (hv : valL L = true) (ha0 : at_ ≤ sv.size) (hs0 : sv.size ≤ 1000000000) (f : Nat) : ∀ m, ReachOk L ln sv at_ P pv uv f m := by
  have hn : L.length ≤ 4096 := by
    unfold valL at hv
    rw [Bool.and_eq_true, Bool.and_eq_true] at hv
    exact of_decide_eq_true hv.2.1
  intro m
  induction m with
  | zero =>
    intro k w tv M T hc hk h
    cases hm : M k with
    | true => exact reach_old hn f k w tv M T hk h hm
    | false =>
      have h1 := cntM_put hm L.length hk
      have h2 := cntM_le (putM M k) L.length
      omega
  | succ m ih =>
    intro k w tv M T hc hk h
    cases hm : M k with
    | true => exact reach_old hn f k w tv M T hk h hm
    | false =>
      rcases val_cases hv hk with ⟨h1, h2⟩ | ⟨h1, ⟨a, h2, h3⟩, c, h4, h5⟩ | ⟨h1, a, h2, h3⟩ | ⟨h1, h2⟩ | ⟨h1, h2⟩ | h1
      · exact reach_leaf_1 hn f k w tv M T hk h hm h1
      · exact reach_split hn f m k w tv M T hk h hm h1 hc ih h2 h3 h4 h5
      · exact reach_jump hn f m k w tv M T hk h hm h1 hc ih h2 h3
      · cases hb : bgB ln sv.data.toList at_ with
        | true => exact reach_begin_true hn f m k w tv M T hk h hm h1 hc ih ha0 hs0 hb h2
        | false => exact reach_begin_false hn f m k w tv M T hk h hm h1 hc ih ha0 hs0 hb
      · cases hb : enB ln sv.data.toList at_ with
        | true => exact reach_stop_true hn f m k w tv M T hk h hm h1 hc ih ha0 hs0 hb h2
        | false => exact reach_stop_false hn f m k w tv M T hk h hm h1 hc ih ha0 hs0 hb
      · exact reach_leaf_6 hn f k w tv M T hk h hm h1
end
end Go.Proofs.YtfgcnknmiclfnaaDoor
