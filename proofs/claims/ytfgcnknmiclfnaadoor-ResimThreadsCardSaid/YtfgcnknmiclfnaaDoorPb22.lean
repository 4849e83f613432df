/- RsLong, RsTop. -/
import Derived.Test.YtfgcnknmiclfnaaDoorPb21
set_option linter.unusedVariables false
set_option linter.unusedSimpArgs false
set_option maxRecDepth 100000
set_option maxHeartbeats 8000000
namespace Go.Proofs.YtfgcnknmiclfnaaDoor
open Go.RowKit
theorem results_sp2 {fn : Func} {p u : Tmp} (h : fn.results = #[.cell p 28, .tmp u]) (tmps : Array Value) (w : World) (g : Nat) (t : TypeId) (cs : Array Value) (fr : Nat × Nat) (v : Value)
    (hp : tmps.getD p undef = .pointer (some ⟨g, 0, none⟩)) (hv : tmps.getD u undef = v) (hg : w.heap[g]? = some (.cells cs t fr)) (hi : (Tryd.prog.info? 28).map (·.size) = some cs.size) :
    (results fn tmps).run Tryd.prog w = .ok (.tuple #[.agg cs, v]) w := by
  rw [results_cell_tmp h, hp, hv]
  simp [asAddr, run_loadVar_row w g t 28 cs fr _ hg Tryd.underlying28 rfl hi]
def atOf (w : World) (P : Nat) : Nat := match w.cell? ⟨P, 3, none⟩ with
  | some (.int _ n) => n.toNat
  | _ => 0
theorem atOf_sm {w : World} {P : Nat} {pv : Value} {ln : Bool} {sv : ByteArray} {at_ : Nat} {tv uv : Value} {M : Nat → Bool} {T : List (Nat × Nat)} (h : SM w P pv ln sv at_ tv uv M T) : atOf w P = at_ := by
  unfold atOf; rw [h.c3]; simp
theorem put2R {w : World} {P R : Nat} (h : w.heap[R]? = some (.cells #[.int .i64 0, .int .i64 0] 28 (0, 0))) (hP : P < R) (x y : Value) : (((w.setCell ⟨R, 0, none⟩ x).setCell ⟨R, 1, none⟩ y).heap[R]? = some (.cells #[x, y] 28 (0, 0))) ∧ Below P w ((w.setCell ⟨R, 0, none⟩ x).setCell ⟨R, 1, none⟩ y) := by
  have hR : R < w.heap.size := (Array.getElem?_eq_some_iff.1 h).1
  refine ⟨?_, (((Keep.refl (fun b => b = R) w).put R 0 (.inl rfl) x).put R 1 (.inl rfl) y).below (by omega) (fun g e => by omega)⟩
  have h1 := heap_setCell_same w R 0 _ _ x h
  have h2 := heap_setCell_same _ R 1 _ _ y h1
  exact h2
section
variable {L : List IN} {ln : Bool} {sv : ByteArray} {lo F0 P at_ : Nat} {pv uv : Value} {T : List (Nat × Nat)} {M : Nat → Bool} {w : World} {tv : Value}
theorem longest_any (hv : valL L = true) (h : RC L ln sv at_ P pv uv w tv M T) (hli : LI L ln sv.data.toList lo F0 F0 at_ at_ T 0 0 false) (ha : at_ ≤ sv.size) (hs : sv.size ≤ 1000000000) :
    Calls Tryd.prog 24 #[.pointer (some ⟨P, 0, none⟩)] w fun e w' => ∃ mf mt : Nat, ∃ fd : Bool, e = .returned (.tuple #[.agg #[.int .i64 (mf : Int), .int .i64 (mt : Int)], .bool fd]) ∧ RES L ln sv.data.toList lo F0 mf mt fd ∧ Below P w w' := by
  have hn : L.length ≤ 4096 := by
    unfold valL at hv
    rw [Bool.and_eq_true, Bool.and_eq_true] at hv
    exact of_decide_eq_true hv.2.1
  obtain ⟨R, hR⟩ : ∃ R, w.heap.size = R := ⟨_, rfl⟩
  obtain ⟨W, hW⟩ : ∃ W, W = (w.alloc (.cells #[.int .i64 0, .int .i64 0] 28)).alloc (.cells #[.int .i64 0, .int .i64 0] 28) := ⟨_, rfl⟩
  have hbW : Below w.heap.size w W := by rw [hW]; exact ((Below.refl _ _).alloc (Nat.le_refl _) _).alloc (by simp) _
  have h1 : W.heap[R]? = some (.cells #[.int .i64 0, .int .i64 0] 28 (0, 0)) := by rw [hW, ← hR]; exact (heap_alloc_old _ _ (by simp)).trans (heap_alloc_new w _)
  have h2 : W.heap[R + 1]? = some (.cells #[.int .i64 0, .int .i64 0] 28 (0, 0)) := by
    have := heap_alloc_new (w.alloc (.cells #[.int .i64 0, .int .i64 0] 28)) (.cells #[.int .i64 0, .int .i64 0] 28)
    rw [show (w.alloc (.cells #[.int .i64 0, .int .i64 0] 28)).heap.size = R + 1 by simp [hR]] at this
    rw [hW]; exact this
  have hlg : LG L ln sv lo F0 P pv w R at_ F0 at_ T 0 0 false tv uv M W := ⟨h.below hbW, hli, h2, h1, fun g hg => by
    have : g < R := by
      rw [← hR]
      rcases hg with hg | hg
      · exact (own_at h.sm.own g hg).2
      · obtain ⟨_, _, hu⟩ := h.sm.spr; exact (own_at hu g hg).2
    omega, by rw [← hR]; exact h.sm.lt, hbW.mono (Nat.le_of_lt h.sm.lt)⟩
  have HLG := Lib.hid hlg
  have HW := Lib.hid hW
  have HV := Lib.hid hv
  have HAdv := Lib.hid (fun (i : Nat) (uv tv : Value) (T : List (Nat × Nat)) (M : Nat → Bool) (w : World) (h : RC L ln sv i P pv uv w tv M T) (a b c) => adv_any hv h a hs b c)
  have hsI : (sv.size : Int) ≤ 1000000000 := by omega
  clear h hli hW hbW h1 h2 hlg hv
  go_enter Tryd.func24, Tryd.ntmps24
  go_upto_region 2 with fail
  rw [← HW.out]
  go_wp2_with fail
  go_loopw [5] (fun s5 wr => ∃ (i F : Nat) (T : List (Nat × Nat)) (mf mt : Nat) (fd : Bool) (tv uv : Value) (M : Nat → Bool), i ≤ sv.size ∧ s5 = .bool fd ∧ Hid (LG L ln sv lo F0 P pv w R i F i T mf mt fd tv uv M wr)) (fun _ wr => sv.size - atOf wr P)
  case atStart => exact ⟨at_, F0, T, 0, 0, false, tv, uv, M, ha, rfl, HLG⟩
  case round =>
    obtain ⟨i, F, T, mf, mt, fd, tv, uv, M, hi, rfl, HG⟩ := hrel
    have hg := HG.out
    obtain ⟨tad, tcap, rfl⟩ := own_sl hg.rc.sm.own
    have c3 := hg.rc.sm.c3
    have c4 := hg.rc.sm.c4
    have HTn := Lib.hid hg.li.st.lt
    have HSr := Lib.hid hg.li.st.srt
    have htl : T.length ≤ 4096 := Nat.le_trans hg.rc.tc (Nat.le_trans (cntM_le _ _) hn)
    have htI : (T.length : Int) ≤ 4096 := by omega
    have hlb := hg.lb
    have hlt := hg.rc.sm.lt
    have hPR := hg.lt
    have hM0 : Hid (atOf wr P = i) := Lib.hid (atOf_sm hg.rc.sm)
    by_cases hT0 : T.length = 0
    · obtain rfl := List.eq_nil_of_length_eq_zero hT0
      have HRes := Lib.hid hg.li.empty
      have em0 := cell_of_row wr (R + 1) 0 _ _ _ HG.out.bm
      have em1 := cell_of_row wr (R + 1) 1 _ _ _ HG.out.bm
      have er0 := cell_of_row wr R 0 _ _ _ HG.out.br
      have er1 := cell_of_row wr R 1 _ _ _ HG.out.br
      have eg0 := frozen_of_row wr R 0 _ _ HG.out.br
      have eg1 := frozen_of_row wr R 1 _ _ HG.out.br
      have elt : R + 1 < wr.heap.size := HG.out.lb
      clear hg hT0
      go_wp2_with fail
      have hpr := put2R HG.out.br HG.out.lt (.int .i64 ((mf : Nat) : Int)) (.int .i64 ((mt : Nat) : Int))
      refine bodyPost_ret (v := .tuple #[.agg #[.int .i64 ((mf : Nat) : Int), .int .i64 ((mt : Nat) : Int)], .bool fd]) (results_sp2 rfl _ _ R _ #[.int .i64 ((mf : Nat) : Int), .int .i64 ((mt : Nat) : Int)] (0, 0) (.bool fd) rfl rfl hpr.1 isz_sp) rfl ?_
      exact ⟨mf, mt, fd, rfl, HRes.out, HG.out.bel.trans hpr.2⟩
    have hT1 : (0 : Int) < (T.length : Int) := by omega
    have HIx := Lib.hid (ixf_any hg.rc hn hg.li.st.lt)
    clear hg
    have hlenT : Hid (T.length ≠ 0) := Lib.hid hT0
    clear hT0
    have hv0 := HV.out
    by_cases hi2 : i < sv.size
    · obtain ⟨c, hc⟩ : ∃ c, sv.data.toList[i]? = some c := ⟨_, List.getElem?_eq_getElem (by rw [lb_len]; exact hi2)⟩
      go_upto_region 5 with (first
        | (go_at_call 38; (with_reducible refine HIx.out.mono ?_); rintro e w1 ⟨⟨r, rfl, hf⟩, hb1⟩
           have hg1 := HG.out.below hb1
           have HG1 := Lib.hid hg1
           have HF := Lib.hid hf
           have d3 := hg1.rc.sm.c3
           have d4 := hg1.rc.sm.c4
           have hlb1 := hg1.lb
           have hlt1 := hg1.rc.sm.lt
           have k0 := cell_of_row w1 (R + 1) 0 _ _ _ hg1.bm
           have k1 := cell_of_row w1 (R + 1) 1 _ _ _ hg1.bm
           have l0 := frozen_of_row w1 (R + 1) 0 _ _ hg1.bm
           have l1 := frozen_of_row w1 (R + 1) 1 _ _ hg1.bm
           clear hb1 hg1 hf c3 c4))
      rcases HF.out with ⟨rfl, hmiss⟩ | ⟨k, b, f, rfl, hk, hb, hj⟩
      · have hg2 := HG1.out.miss hmiss
        have HG2 := Lib.hid hg2
        have HA := Lib.hid (HAdv.out i uv (.slice tad T.length tcap) T M w1 hg2.rc hi2 hg2.li.st.lt hg2.li.st.srt c hc)
        clear hg2 hmiss HF
        go_wp2_with (first
          | (go_at_call 23; (with_reducible refine HA.out.mono ?_); rintro e w4 ⟨rfl, hl4⟩
             have HL4 := Lib.hid hl4
             clear hl4))
        obtain ⟨tv4, M4, T4, hg4⟩ := HG2.out.adv hc HL4.out
        go_roundw
        case rel => exact ⟨i + 1, F, T4, mf, mt, fd, tv4, _, M4, hi2, rfl, Lib.hid hg4⟩
        case measure => rw [atOf_sm hg4.rc.sm, hM0.out]; omega
      · have hk0 : (0 : Int) ≤ (k : Int) := by omega
        have hkT : k < T.length := (List.getElem?_eq_some_iff.1 hk).1
        have hkI : (k : Int) < (T.length : Int) := by omega
        obtain ⟨tg, tcap', e⟩ := own_more HG1.out.rc.sm.own (by omega)
        injection e with e1 e2 e3
        subst e1 e3
        obtain ⟨t0, t1⟩ := tv_cells HG1.out.rc.sm.own k hkT
        have hgl := (own_at HG1.out.rc.sm.own tg rfl).2
        have hkq : T[k] = (b, f) := by
          have := hk; rw [List.getElem?_eq_getElem hkT] at this; exact Option.some.inj this
        rw [hkq] at t0 t1
        have t1 : w1.cell? ⟨tg, k * 2 + 1, none⟩ = some (.int .i64 (f : Int)) := t1
        clear t0 hkq
        have HK := Lib.hid hk
        have HB6 := Lib.hid hb
        have HJ := Lib.hid hj
        clear hk hb hj HF
        go_upto_region 6 with fail
        go_cut [5] from 22 to 34 (fun x5 wx => x5 = .bool true ∧ Hid (∃ w5, w5 = (w1.setCell ⟨R + 1, 0, none⟩ (.int .i64 (f : Int))).setCell ⟨R + 1, 1, none⟩ (.int .i64 (i : Int)) ∧ Below w5.heap.size w5 wx))
        case first =>
          go_region
          all_goals go_wp2_with fail
          all_goals go_meet
          all_goals (case rel => exact ⟨rfl, Lib.hid ⟨_, rfl, (Below.refl _ _).drew⟩⟩)
        case rest =>
        obtain ⟨rfl, HX⟩ := hcut
        obtain ⟨w5, hw5, hb5⟩ := HX.out
        have hrA : RC L ln sv i P pv uv w5 (.slice (some ⟨tg, 0, none⟩) T.length tcap) M T := by rw [hw5]; exact HG1.out.hitA _ _
        have hrC := hrA.below hb5
        have hsz5 : w5.heap.size = w1.heap.size := by rw [hw5]; simp [World.setCell]
        have hm5 : w5.heap[R + 1]? = some (.cells #[.int .i64 (f : Int), .int .i64 (i : Int)] 28 (0, 0)) := by rw [hw5]; exact (HG1.out.put2 _ _).1
        have hmX := (hb5.block (R + 1) (by rw [hsz5]; exact hlb1)).trans hm5
        have x0 := cell_of_row _ (R + 1) 0 _ _ _ hmX
        have HKp := Lib.hid (keep_any hrC hn HSr.out f k b HK.out)
        have HW5 := Lib.hid hw5
        have HB5 := Lib.hid hb5
        clear hw5 hb5 hrA hrC hsz5 hm5 hmX t1 d3 d4 k0 k1 l0 l1 HX
        go_wp2_with (first
          | (go_at_call 39; (with_reducible refine HKp.out.mono ?_); rintro e w3 ⟨rfl, tv3, m, hm3, hr3, hk3, ho3⟩
             have hg3 := HG1.out.hitB hi HK.out HB6.out HJ.out hm3 (by rw [← HW5.out]; exact HB5.out) hr3 hk3 ho3
             have HG3 := Lib.hid hg3
             have HA := Lib.hid (HAdv.out i uv tv3 (T.take m) M w3 hg3.rc hi2 hg3.li.st.lt hg3.li.st.srt c hc)
             clear hg3 hm3 hr3 hk3 ho3 x0)
          | (go_at_call 23; (with_reducible refine HA.out.mono ?_); rintro e w4 ⟨rfl, hl4⟩
             have HL4 := Lib.hid hl4
             clear hl4))
        obtain ⟨tv4, M4, T4, hg4⟩ := HG3.out.adv hc HL4.out
        go_roundw
        case rel => exact ⟨i + 1, f, T4, f, i, true, tv4, _, M4, hi2, rfl, Lib.hid hg4⟩
        case measure => rw [atOf_sm hg4.rc.sm, hM0.out]; omega
    · have HI2 : Hid (i = sv.size) := Lib.hid (by omega)
      go_upto_region 5 with (first
        | (go_at_call 38; (with_reducible refine HIx.out.mono ?_); rintro e w1 ⟨⟨r, rfl, hf⟩, hb1⟩
           have hg1 := HG.out.below hb1
           have HG1 := Lib.hid hg1
           have HF := Lib.hid hf
           have d3 := hg1.rc.sm.c3
           have d4 := hg1.rc.sm.c4
           have hlb1 := hg1.lb
           have hlt1 := hg1.rc.sm.lt
           have k0 := cell_of_row w1 (R + 1) 0 _ _ _ hg1.bm
           have k1 := cell_of_row w1 (R + 1) 1 _ _ _ hg1.bm
           have l0 := frozen_of_row w1 (R + 1) 0 _ _ hg1.bm
           have l1 := frozen_of_row w1 (R + 1) 1 _ _ hg1.bm
           clear hb1 hg1 hf c3 c4))
      rcases HF.out with ⟨rfl, hmiss⟩ | ⟨k, b, f, rfl, hk, hb, hj⟩
      · have hg2 := HG1.out.miss hmiss
        have HG2 := Lib.hid hg2
        have HA := Lib.hid (adv_end hg2.rc HI2.out)
        have HRes : Hid (RES L ln sv.data.toList lo F0 mf mt fd) := Lib.hid (by have h := hg2.li; have e := HI2.out; subst e; exact h.last)
        clear hg2 hmiss HF
        go_wp2_with (first
          | (go_at_call 23; (with_reducible refine HA.out.mono ?_); rintro e w4 ⟨rfl, hb4⟩
             have hg4 := HG2.out.below hb4
             have HG4 := Lib.hid hg4
             have zm0 := cell_of_row w4 (R + 1) 0 _ _ _ hg4.bm
             have zm1 := cell_of_row w4 (R + 1) 1 _ _ _ hg4.bm
             have zr0 := cell_of_row w4 R 0 _ _ _ hg4.br
             have zr1 := cell_of_row w4 R 1 _ _ _ hg4.br
             have zg0 := frozen_of_row w4 R 0 _ _ hg4.br
             have zg1 := frozen_of_row w4 R 1 _ _ hg4.br
             have zlt : R + 1 < w4.heap.size := hg4.lb
             clear hb4 hg4))
        go_wp2_with fail
        have hpr := put2R HG4.out.br HG4.out.lt (.int .i64 ((mf : Nat) : Int)) (.int .i64 ((mt : Nat) : Int))
        refine bodyPost_ret (v := .tuple #[.agg #[.int .i64 ((mf : Nat) : Int), .int .i64 ((mt : Nat) : Int)], .bool fd]) (results_sp2 rfl _ _ R _ #[.int .i64 ((mf : Nat) : Int), .int .i64 ((mt : Nat) : Int)] (0, 0) (.bool fd) rfl rfl hpr.1 isz_sp) rfl ?_
        exact ⟨mf, mt, fd, rfl, HRes.out, HG4.out.bel.trans hpr.2⟩
      · have hk0 : (0 : Int) ≤ (k : Int) := by omega
        have hkT : k < T.length := (List.getElem?_eq_some_iff.1 hk).1
        have hkI : (k : Int) < (T.length : Int) := by omega
        obtain ⟨tg, tcap', e⟩ := own_more HG1.out.rc.sm.own (by omega)
        injection e with e1 e2 e3
        subst e1 e3
        obtain ⟨t0, t1⟩ := tv_cells HG1.out.rc.sm.own k hkT
        have hgl := (own_at HG1.out.rc.sm.own tg rfl).2
        have hkq : T[k] = (b, f) := by
          have := hk; rw [List.getElem?_eq_getElem hkT] at this; exact Option.some.inj this
        rw [hkq] at t0 t1
        have t1 : w1.cell? ⟨tg, k * 2 + 1, none⟩ = some (.int .i64 (f : Int)) := t1
        clear t0 hkq
        have HK := Lib.hid hk
        have HB6 := Lib.hid hb
        have HJ := Lib.hid hj
        clear hk hb hj HF
        go_upto_region 6 with fail
        go_cut [5] from 22 to 34 (fun x5 wx => x5 = .bool true ∧ Hid (∃ w5, w5 = (w1.setCell ⟨R + 1, 0, none⟩ (.int .i64 (f : Int))).setCell ⟨R + 1, 1, none⟩ (.int .i64 (i : Int)) ∧ Below w5.heap.size w5 wx))
        case first =>
          go_region
          all_goals go_wp2_with fail
          all_goals go_meet
          all_goals (case rel => exact ⟨rfl, Lib.hid ⟨_, rfl, (Below.refl _ _).drew⟩⟩)
        case rest =>
        obtain ⟨rfl, HX⟩ := hcut
        obtain ⟨w5, hw5, hb5⟩ := HX.out
        have hrA : RC L ln sv i P pv uv w5 (.slice (some ⟨tg, 0, none⟩) T.length tcap) M T := by rw [hw5]; exact HG1.out.hitA _ _
        have hrC := hrA.below hb5
        have hsz5 : w5.heap.size = w1.heap.size := by rw [hw5]; simp [World.setCell]
        have hm5 : w5.heap[R + 1]? = some (.cells #[.int .i64 (f : Int), .int .i64 (i : Int)] 28 (0, 0)) := by rw [hw5]; exact (HG1.out.put2 _ _).1
        have hmX := (hb5.block (R + 1) (by rw [hsz5]; exact hlb1)).trans hm5
        have x0 := cell_of_row _ (R + 1) 0 _ _ _ hmX
        have HKp := Lib.hid (keep_any hrC hn HSr.out f k b HK.out)
        have HW5 := Lib.hid hw5
        have HB5 := Lib.hid hb5
        clear hw5 hb5 hrA hrC hsz5 hm5 hmX t1 d3 d4 k0 k1 l0 l1 HX
        go_wp2_with (first
          | (go_at_call 39; (with_reducible refine HKp.out.mono ?_); rintro e w3 ⟨rfl, tv3, m, hm3, hr3, hk3, ho3⟩
             have hg3 := HG1.out.hitB hi HK.out HB6.out HJ.out hm3 (by rw [← HW5.out]; exact HB5.out) hr3 hk3 ho3
             have HG3 := Lib.hid hg3
             have HA := Lib.hid (adv_end hg3.rc HI2.out)
             have HRes : Hid (RES L ln sv.data.toList lo F0 f i true) := Lib.hid (by have h := hg3.li; have e := HI2.out; subst e; exact h.last)
             clear hg3 hm3 hr3 hk3 ho3 x0)
          | (go_at_call 23; (with_reducible refine HA.out.mono ?_); rintro e w4 ⟨rfl, hb4⟩
             have hg4 := HG3.out.below hb4
             have HG4 := Lib.hid hg4
             have zm0 := cell_of_row w4 (R + 1) 0 _ _ _ hg4.bm
             have zm1 := cell_of_row w4 (R + 1) 1 _ _ _ hg4.bm
             have zr0 := cell_of_row w4 R 0 _ _ _ hg4.br
             have zr1 := cell_of_row w4 R 1 _ _ _ hg4.br
             have zg0 := frozen_of_row w4 R 0 _ _ hg4.br
             have zg1 := frozen_of_row w4 R 1 _ _ hg4.br
             have zlt : R + 1 < w4.heap.size := hg4.lb
             clear hb4 hg4))
        go_wp2_with fail
        have hpr := put2R HG4.out.br HG4.out.lt (.int .i64 ((f : Nat) : Int)) (.int .i64 ((i : Nat) : Int))
        refine bodyPost_ret (v := .tuple #[.agg #[.int .i64 ((f : Nat) : Int), .int .i64 ((i : Nat) : Int)], .bool true]) (results_sp2 rfl _ _ R _ #[.int .i64 ((f : Nat) : Int), .int .i64 ((i : Nat) : Int)] (0, 0) (.bool true) rfl rfl hpr.1 isz_sp) rfl ?_
        exact ⟨f, i, true, rfl, HRes.out, HG4.out.bel.trans hpr.2⟩
end
end Go.Proofs.YtfgcnknmiclfnaaDoor
set_option linter.unusedVariables false
set_option linter.unusedSimpArgs false
set_option maxRecDepth 100000
set_option maxHeartbeats 8000000
namespace Go.Proofs.YtfgcnknmiclfnaaDoor
open Go.RowKit
def LSpec (L : List IN) (ln : Bool) (s : List UInt8) (a : Int) (te : Nat) (ok : Bool) : Prop :=
  (ok = true ∧ valL L = true ∧ ∃ n : Nat, a = (n : Int) ∧ Mt L ln s n te ∧ ∀ e, Mt L ln s n e → e ≤ te) ∨ (ok = false ∧ te = 0 ∧ (valL L = true → ∀ n : Nat, a = (n : Int) → ∀ e, ¬ Mt L ln s n e))
theorem Mt.le {L ln s f e} (h : Mt L ln s f e) : f ≤ e := h.2.elim fun _ h => h.2.le
theorem start_ths {L : List IN} {ln : Bool} {s : List UInt8} {i : Nat} {M' : Nat → Bool} {T' : List (Nat × Nat)} (h : RR (stp L ln s i) (trm L) [0] i (fun _ => false) M' [] T') : ThS L ln s i i i T' :=
  ThS.beg (IV.add (IV.nil _ _) (fun p hp => by simp at hp) h)
theorem start_li {L : List IN} {ln : Bool} {s : List UInt8} {i : Nat} {T' : List (Nat × Nat)} (h : ThS L ln s i i i T') : LI L ln s i i i i i T' 0 0 false :=
  LI.start h (Nat.le_refl _) (fun f e h1 h2 h3 hm => by have := hm.le; omega)
theorem res_l {L : List IN} {ln : Bool} {s : List UInt8} {n mf mt : Nat} {fd : Bool} (hv : valL L = true) (h : RES L ln s n n mf mt fd) : LSpec L ln s (n : Int) mt fd := by
  rcases h with ⟨rfl, h1, h2, h3, h4, _⟩ | ⟨rfl, _, rfl, h4⟩
  · obtain rfl : mf = n := by omega
    exact .inl ⟨rfl, hv, mf, rfl, h3, h4⟩
  · refine .inr ⟨rfl, rfl, fun _ m hm e => ?_⟩
    obtain rfl : n = m := by omega
    exact h4 n e (Nat.le_refl _) (Nat.le_refl _)
theorem no_l {L : List IN} {ln : Bool} {s : List UInt8} {a : Int} (h : a < 0 ∨ (s.length : Int) < a ∨ valL L = false) : LSpec L ln s a 0 false :=
  .inr ⟨rfl, rfl, fun hv n hn e hm => by
    have h1 := hm.le
    have h2 := hm.1
    rcases h with h | h | h
    · omega
    · omega
    · rw [h] at hv; cases hv⟩
theorem longestx_any (L : List IN) (pv : Value) (n0 : Nat) (ln : Bool) (sv : ByteArray) (a : Int) (w : World) (hp : PI w n0 L pv) (hk : KT w) (hsz : sv.size ≤ 1000000000) :
    Calls Tryd.prog 15 #[.agg #[pv, .bool ln], .string sv, .int .i64 a] w fun e w' => (∃ (te : Nat) (ok : Bool), e = .returned (.tuple #[.int .i64 (te : Int), .bool ok]) ∧ LSpec L ln sv.data.toList a te ok) ∧ Below w.heap.size w w' := by
  have hb := (Below.refl w.heap.size w).alloc (Nat.le_refl _) (.cells #[pv, .bool ln] 24)
  have hbx := heap_alloc_new w (.cells #[pv, .bool ln] 24)
  obtain ⟨W, hW⟩ : ∃ W, W = w.alloc (.cells #[pv, .bool ln] 24) := ⟨_, rfl⟩
  rw [← hW] at hb hbx
  have q0 := cell_of_row W w.heap.size 0 _ _ _ hbx
  have q1 := cell_of_row W w.heap.size 1 _ _ _ hbx
  have hlW : w.heap.size < W.heap.size := (Array.getElem?_eq_some_iff.1 hbx).1
  have HB := Lib.hid hb
  have HW := Lib.hid hW
  by_cases hno : a < 0 ∨ (sv.size : Int) < a ∨ valL L = false
  · have HN := Lib.hid (newsim_no L pv n0 ln sv a W (hp.below hb) (hk.below hb) (by omega) hno)
    have HE := Lib.hid (no_l (L := L) (ln := ln) (s := sv.data.toList) hno)
    clear hb hbx hW hp hk hno
    go_enter Tryd.func15, Tryd.ntmps15
    go_upto_region 1 with fail
    rw [← HW.out]
    go_wp2_with (first
      | (go_at_call 20; (with_reducible refine HN.out.mono ?_); rintro e w2 ⟨rfl, hb2⟩
         have HB2 := Lib.hid (HB.out.trans (hb2.mono HB.out.size))
         clear hb2 q0 q1))
    go_ret2
    exact ⟨⟨0, false, rfl, HE.out⟩, HB2.out⟩
  have hv : valL L = true := by
    cases h : valL L with
    | true => rfl
    | false => exact absurd (.inr (.inr h)) hno
  obtain ⟨n, rfl⟩ : ∃ n : Nat, a = (n : Int) := ⟨a.toNat, by have : ¬ a < 0 := fun h => hno (.inl h); omega⟩
  have hn : n ≤ sv.size := by have : ¬ (sv.size : Int) < (n : Int) := fun h => hno (.inr (.inl h)); omega
  have HN := Lib.hid (newsim_yes L pv n0 ln sv n W (hp.below hb) (hk.below hb) hsz hn hv)
  have HBg := Lib.hid (fun (P : Nat) (uv tv : Value) (w : World) (M : Nat → Bool) (T : List (Nat × Nat)) (h : RC L ln sv n P pv uv w tv M T) => begin_any hv hn hsz h)
  have HLg := Lib.hid (fun (P : Nat) (uv tv : Value) (w : World) (M : Nat → Bool) (T : List (Nat × Nat)) (h : RC L ln sv n P pv uv w tv M T) (hli : LI L ln sv.data.toList n n n n n T 0 0 false) => longest_any hv h hli hn hsz)
  have HV := Lib.hid hv
  clear hb hbx hW hp hk hno hv
  go_enter Tryd.func15, Tryd.ntmps15
  go_upto_region 1 with fail
  rw [← HW.out]
  go_wp2_with (first
    | (go_at_call 20; (with_reducible refine HN.out.mono ?_); rintro e w2 ⟨P, rfl, hP, hr2, hb2⟩
       have HB2 := Lib.hid (HB.out.trans (hb2.mono HB.out.size))
       have HP := Lib.hid hP
       have HR2 := Lib.hid hr2
       clear hb2 hP hr2 q0 q1)
    | (go_at_call 21; (with_reducible refine (HBg.out P _ _ _ _ _ HR2.out).mono ?_); rintro e w3 ⟨rfl, tv3, M3, T3, hr3, hrr3, hm3⟩
       have HB3 : Hid (Below w.heap.size w w3) := Lib.hid (HB2.out.trans ((hm3.keep.below (B := P) (Nat.le_of_lt HR2.out.sm.lt) (RC.hS HR2.out.sm)).mono (by have := HP.out; have := HB.out.size; omega)))
       have HR3 := Lib.hid hr3
       have HLi := Lib.hid (start_li (start_ths hrr3))
       clear hr3 hrr3 hm3)
    | (go_at_call 24; (with_reducible refine (HLg.out P _ _ _ _ _ HR3.out HLi.out).mono ?_); rintro e w4 ⟨mf, mt, fd, rfl, hres, hb4⟩
       have HB4 : Hid (Below w.heap.size w w4) := Lib.hid (HB3.out.trans (hb4.mono (by have := HP.out; have := HB.out.size; omega)))
       have HRes := Lib.hid hres
       clear hb4 hres))
  go_ret2
  exact ⟨⟨mt, fd, rfl, res_l HV.out HRes.out⟩, HB4.out.alloc HB4.out.size _⟩
end Go.Proofs.YtfgcnknmiclfnaaDoor
