/- RsThr. -/
import Derived.Test.YtfgcnknmiclfnaaDoorPb23
set_option linter.unusedVariables false
set_option linter.unusedSimpArgs false
set_option maxRecDepth 100000
set_option maxHeartbeats 8000000
namespace Go.Proofs.YtfgcnknmiclfnaaDoor
open Go.RowKit
def IL (w : World) (n0 : Nat) (zs : List Nat) (v : Value) : Prop := ∃ ad cap, v = .slice ad zs.length cap ∧ (zs.length = 0 ∨ ∃ b off, ad = some ⟨b, off, none⟩ ∧ n0 ≤ b ∧ b < w.heap.size ∧ ∀ (k : Nat) (hk : k < zs.length), w.cell? ⟨b, off + k, none⟩ = some (.int .i64 ((zs[k]'hk : Nat) : Int)))
theorem IL.below {w w' : World} {n0 : Nat} {zs : List Nat} {v : Value} (h : IL w n0 zs v) (hb : Below w.heap.size w w') : IL w' n0 zs v := by
  obtain ⟨ad, cap, h1, h2⟩ := h
  refine ⟨ad, cap, h1, ?_⟩
  rcases h2 with h2 | ⟨b, off, e, hn, hl, hc⟩
  · exact .inl h2
  · exact .inr ⟨b, off, e, hn, Nat.lt_of_lt_of_le hl hb.size, fun k hk => (hb.cell (p := ⟨b, off + k, none⟩) hl).trans (hc k hk)⟩
def SortOk : Prop := (∀ (blk cap : Nat) (zs : List Nat) (w : World), (∀ (j : Nat) (hj : j < zs.length), w.cell? ⟨blk, j, none⟩ = some (.int .i64 ((zs[j]'hj : Nat) : Int)) ∧ w.frozen? ⟨blk, j, none⟩ = false) → blk < w.heap.size → zs.length ≤ 4096 →
    Calls Tryd.prog 26 #[.slice (some ⟨blk, 0, none⟩) zs.length cap] w fun e w' => e = .returned (.tuple #[]) ∧ (∃ ys : List Nat, ys.Perm zs ∧ ys.Pairwise (· ≤ ·) ∧ ∀ (j : Nat) (hj : j < ys.length), w'.cell? ⟨blk, j, none⟩ = some (.int .i64 ((ys[j]'hj : Nat) : Int))) ∧ Keep (fun b => b = blk) w w') ∧
  ∀ w : World, Calls Tryd.prog 26 #[.slice none 0 0] w fun e w' => e = .returned (.tuple #[]) ∧ Below w.heap.size w w'
def TSpec (L : List IN) (ln : Bool) (s : List UInt8) (a c : Int) (zs : List Nat) : Prop := zs.Pairwise (· < ·) ∧ ∀ b, b ∈ zs ↔ (valL L = true ∧ ∃ n m : Nat, a = (n : Int) ∧ c = (m : Int) ∧ n ≤ m ∧ m ≤ s.length ∧ trm L b = true ∧ Rd L ln s n m b)
theorem no_t {L : List IN} {ln : Bool} {s : List UInt8} {a c : Int} (h : (a < 0 ∨ (s.length : Int) < a ∨ valL L = false) ∨ c < a ∨ (s.length : Int) < c) : TSpec L ln s a c [] :=
  ⟨List.Pairwise.nil, fun b => ⟨fun h => by simp at h, fun ⟨hv, n, m, e1, e2, h1, h2, _⟩ => by
    rcases h with (h | h | h) | h | h
    · omega
    · omega
    · rw [h] at hv; cases hv
    · omega
    · omega⟩⟩
theorem il_nil (w : World) (n0 : Nat) : IL w n0 [] (.slice none 0 0) := ⟨none, 0, rfl, .inl rfl⟩
theorem strict_of {ys : List Nat} (h : ys.Pairwise (· ≤ ·)) (hd : ys.Nodup) : ys.Pairwise (· < ·) := by
  refine (List.Pairwise.and h hd).imp ?_
  intro a b hab
  have := hab.1
  have := hab.2
  omega
theorem fin_t {L : List IN} {ln : Bool} {s : List UInt8} {n m i : Nat} {T : List (Nat × Nat)} (hv : valL L = true) (hnm : n ≤ m) (hm : m ≤ s.length) (h : ThS L ln s n n i T) (hni : n ≤ i) (him : i ≤ m) (hx : i = m ∨ T = []) {ys : List Nat} (hp : ys.Perm (T.map (·.1))) (hs : ys.Pairwise (· ≤ ·)) : TSpec L ln s (n : Int) (m : Int) ys := by
  refine ⟨strict_of hs (hp.nodup_iff.2 h.nd), fun b => ?_⟩
  rw [hp.mem_iff, List.mem_map]
  have key : (∃ p, p ∈ T ∧ p.1 = b) ↔ (trm L b = true ∧ Rd L ln s n m b) := by
    constructor
    · rintro ⟨p, hp, rfl⟩
      obtain ⟨h1, h2, h3, h4, _⟩ := (h.mem p.1 p.2).1 hp
      rcases hx with rfl | rfl
      · have e : p.2 = n := by omega
        rw [e] at h4
        exact ⟨h1, h4⟩
      · simp at hp
    · rintro ⟨h1, h2⟩
      rcases hx with rfl | rfl
      · exact ⟨(b, n), (h.mem b n).2 ⟨h1, Nat.le_refl _, Nat.le_refl _, h2, fun _ g _ _ => g⟩, rfl⟩
      · exfalso
        by_cases e : i = m
        · subst e; exact h.none b n h1 (Nat.le_refl _) (Nat.le_refl _) h2
        · exact Rd.gone (fun b hb => h.none b n hb (Nat.le_refl _) (Nat.le_refl _)) hni m b (by omega) h2
  rw [key]
  constructor
  · rintro ⟨h1, h2⟩; exact ⟨hv, n, m, rfl, rfl, hnm, hm, h1, h2⟩
  · rintro ⟨_, n', m', e1, e2, _, _, h1, h2⟩
    obtain rfl : n = n' := by omega
    obtain rfl : m = m' := by omega
    exact ⟨h1, h2⟩
theorem info_int : (Tryd.prog.info? 3).map (fun i => (i.zero, i.size, i.bytes)) = some (some (.int .i64 0), 1, 8) := by kernel_rfl
def rowN (zs : List Nat) : List Value := zs.map fun z : Nat => Value.int .i64 (z : Int)
def nums (T : List (Nat × Nat)) (k : Nat) : List Nat := (T.take k).map (·.1)
theorem threads_no (L : List IN) (pv : Value) (n0 : Nat) (ln : Bool) (sv : ByteArray) (a c : Int) (w : World) (hp : PI w n0 L pv) (hk : KT w) (hsz : sv.size ≤ 1000000000) (hno : (a < 0 ∨ (sv.size : Int) < a ∨ valL L = false) ∨ c < a ∨ (sv.size : Int) < c) :
    Calls Tryd.prog 13 #[.agg #[pv, .bool ln], .string sv, .int .i64 a, .int .i64 c] w fun e w' => e = .returned (.slice none 0 0) ∧ Below w.heap.size w w' := by
  have hb := (Below.refl w.heap.size w).alloc (Nat.le_refl _) (.cells #[pv, .bool ln] 24)
  have hbx := heap_alloc_new w (.cells #[pv, .bool ln] 24)
  obtain ⟨W, hW⟩ : ∃ W, W = w.alloc (.cells #[pv, .bool ln] 24) := ⟨_, rfl⟩
  rw [← hW] at hb hbx
  have q0 := cell_of_row W w.heap.size 0 _ _ _ hbx
  have q1 := cell_of_row W w.heap.size 1 _ _ _ hbx
  have hlW : w.heap.size < W.heap.size := (Array.getElem?_eq_some_iff.1 hbx).1
  have HB := Lib.hid hb
  have HW := Lib.hid hW
  by_cases hn1 : a < 0 ∨ (sv.size : Int) < a ∨ valL L = false
  · have HN := Lib.hid (newsim_no L pv n0 ln sv a W (hp.below hb) (hk.below hb) (by omega) hn1)
    clear hb hbx hW hp hk hno hn1
    go_enter Tryd.func13, Tryd.ntmps13
    go_upto_region 1 with fail
    rw [← HW.out]
    go_wp2_with (first
      | (go_at_call 20; (with_reducible refine HN.out.mono ?_); rintro e w2 ⟨rfl, hb2⟩
         have HB2 := Lib.hid (HB.out.trans (hb2.mono HB.out.size))
         clear hb2 q0 q1))
    go_ret
    exact ⟨rfl, HB2.out⟩
  have hv : valL L = true := by
    cases h : valL L with
    | true => rfl
    | false => exact absurd (.inr (.inr h)) hn1
  obtain ⟨n, rfl⟩ : ∃ n : Nat, a = (n : Int) := ⟨a.toNat, by have : ¬ a < 0 := fun h => hn1 (.inl h); omega⟩
  have hn : n ≤ sv.size := by have : ¬ (sv.size : Int) < (n : Int) := fun h => hn1 (.inr (.inl h)); omega
  have HN := Lib.hid (newsim_yes L pv n0 ln sv n W (hp.below hb) (hk.below hb) hsz hn hv)
  have hsI : (sv.size : Int) ≤ 1000000000 := by omega
  have hc : c < (n : Int) ∨ (sv.size : Int) < c := by
    rcases hno with h | h | h
    · exact absurd h hn1
    · exact .inl h
    · exact .inr h
  clear hb hbx hW hp hk hno hn1 hv
  by_cases hc1 : c < (n : Int)
  · clear hc
    go_enter Tryd.func13, Tryd.ntmps13
    go_upto_region 1 with fail
    rw [← HW.out]
    go_wp2_with (first
      | (go_at_call 20; (with_reducible refine HN.out.mono ?_); rintro e w2 ⟨P, rfl, hP, hr2, hb2⟩
         have HB2 := Lib.hid (HB.out.trans (hb2.mono HB.out.size))
         clear hb2 hP hr2 q0 q1))
    go_ret
    exact ⟨rfl, HB2.out⟩
  have hc2 : (sv.size : Int) < c := by
    rcases hc with h | h
    · exact absurd h hc1
    · exact h
  clear hc
  go_enter Tryd.func13, Tryd.ntmps13
  go_upto_region 1 with fail
  rw [← HW.out]
  go_wp2_with (first
    | (go_at_call 20; (with_reducible refine HN.out.mono ?_); rintro e w2 ⟨P, rfl, hP, hr2, hb2⟩
       have HB2 := Lib.hid (HB.out.trans (hb2.mono HB.out.size))
       clear hb2 hP hr2 q0 q1))
  go_ret
  exact ⟨rfl, HB2.out⟩
theorem threads_yes (hSort : SortOk) (L : List IN) (pv : Value) (n0 : Nat) (ln : Bool) (sv : ByteArray) (n m : Nat) (w : World) (hp : PI w n0 L pv) (hk : KT w) (hsz : sv.size ≤ 1000000000) (hv : valL L = true) (hnm : n ≤ m) (hm : m ≤ sv.size) :
    Calls Tryd.prog 13 #[.agg #[pv, .bool ln], .string sv, .int .i64 (n : Int), .int .i64 (m : Int)] w fun e w' => (∃ v zs, e = .returned v ∧ IL w' w.heap.size zs v ∧ TSpec L ln sv.data.toList (n : Int) (m : Int) zs) ∧ Below w.heap.size w w' := by
  have hb := (Below.refl w.heap.size w).alloc (Nat.le_refl _) (.cells #[pv, .bool ln] 24)
  have hbx := heap_alloc_new w (.cells #[pv, .bool ln] 24)
  obtain ⟨W, hW⟩ : ∃ W, W = w.alloc (.cells #[pv, .bool ln] 24) := ⟨_, rfl⟩
  rw [← hW] at hb hbx
  have q0 := cell_of_row W w.heap.size 0 _ _ _ hbx
  have q1 := cell_of_row W w.heap.size 1 _ _ _ hbx
  have hlW : w.heap.size < W.heap.size := (Array.getElem?_eq_some_iff.1 hbx).1
  have HB := Lib.hid hb
  have HW := Lib.hid hW
  have hn : n ≤ sv.size := by omega
  have hL : L.length ≤ 4096 := by
    have hv2 := hv
    unfold valL at hv2
    rw [Bool.and_eq_true, Bool.and_eq_true] at hv2
    exact of_decide_eq_true hv2.2.1
  have HN := Lib.hid (newsim_yes L pv n0 ln sv n W (hp.below hb) (hk.below hb) hsz hn hv)
  have HBg := Lib.hid (fun (i P : Nat) (uv tv : Value) (w : World) (M : Nat → Bool) (T : List (Nat × Nat)) (hi : i ≤ sv.size) (h : RC L ln sv i P pv uv w tv M T) => begin_any hv hi hsz h)
  have HAdv := Lib.hid (fun (i P : Nat) (uv tv : Value) (T : List (Nat × Nat)) (M : Nat → Bool) (w : World) (h : RC L ln sv i P pv uv w tv M T) (a b c) => adv_any hv h a hsz b c)
  have HV := Lib.hid hv
  have HSort := Lib.hid hSort
  have hsI : (sv.size : Int) ≤ 1000000000 := by omega
  have c1 : ¬ ((m : Int) < (n : Int)) := by omega
  have c2 : ¬ ((sv.size : Int) < (m : Int)) := by omega
  have HM := Lib.hid hm
  have HNM := Lib.hid hnm
  clear hb hbx hW hp hk hv hSort hm hnm
  go_enter Tryd.func13, Tryd.ntmps13
  go_upto_region 1 with fail
  rw [← HW.out]
  go_wp2_with (first
    | (go_at_call 20; (with_reducible refine HN.out.mono ?_); rintro e w2 ⟨P, rfl, hP, hr2, hb2⟩
       have HB2 := Lib.hid (HB.out.trans (hb2.mono HB.out.size))
       have hRP : w.heap.size < P := by omega
       have HR2 := Lib.hid hr2
       clear hb2 hP hr2 q0 q1)
    | (go_at_call 21; (with_reducible refine (HBg.out n P _ _ _ _ _ hn HR2.out).mono ?_); rintro e w3 ⟨rfl, tv3, M3, T3, hr3, hrr3, hm3⟩
       have HB3 : Hid (Below P w2 w3) := Lib.hid (hm3.keep.below (B := P) (Nat.le_of_lt HR2.out.sm.lt) (RC.hS HR2.out.sm))
       have HR3 := Lib.hid hr3
       have HT3 := Lib.hid (start_ths hrr3)
       clear hr3 hrr3 hm3))
  go_loopw [] (fun wr => ∃ (i : Nat) (T : List (Nat × Nat)) (tv uv : Value) (M : Nat → Bool), n ≤ i ∧ Hid (i ≤ m) ∧ Hid (RC L ln sv i P pv uv wr tv M T ∧ ThS L ln sv.data.toList n n i T ∧ Below P w2 wr)) (fun wr => sv.size - atOf wr P)
  case atStart => exact ⟨n, T3, tv3, _, M3, Nat.le_refl _, HNM, Lib.hid ⟨HR3.out, HT3.out, HB3.out⟩⟩
  case round =>
    obtain ⟨i, T, tv, uv, M, hni, HIm, HR⟩ := hrel
    rename World => wA
    have HM0 : Hid (atOf wA P = i) := Lib.hid (atOf_sm HR.out.1.sm)
    obtain ⟨tad, tcap, e⟩ := own_sl HR.out.1.sm.own
    subst e
    have d3 := HR.out.1.sm.c3
    have d4 := HR.out.1.sm.c4
    have htl : T.length ≤ 4096 := Nat.le_trans HR.out.1.tc (Nat.le_trans (cntM_le _ _) hL)
    have htI : (T.length : Int) ≤ 4096 := by omega
    by_cases hgo : i < m ∧ 0 < T.length
    · have g1 : (i : Int) < (m : Int) := by omega
      have g2 : (0 : Int) < (T.length : Int) := by omega
      have hi2 : i < sv.size := by have := HM.out; omega
      obtain ⟨c, hc⟩ : ∃ c, sv.data.toList[i]? = some c := ⟨_, List.getElem?_eq_getElem (by rw [lb_len]; exact hi2)⟩
      have HA := Lib.hid (HAdv.out i P _ _ _ _ _ HR.out.1 hi2 HR.out.2.1.lt HR.out.2.1.srt c hc)
      have HGo := Lib.hid hgo
      clear hgo
      go_wp2_with (go_at_call 23; (with_reducible refine HA.out.mono ?_); rintro e w6 ⟨rfl, hl6⟩; have HL6 := Lib.hid hl6; clear hl6 d3 d4)
      obtain ⟨tv6, M6, T6, s1, s2, s3, s4⟩ := HL6.out
      rw [List.take_length] at s2
      have hb6 : Below P wA w6 := s3.keep.below (Nat.le_of_lt HR.out.1.sm.lt) (fun g e => by
        rcases e with e | e | e
        · omega
        · have := (own_at HR.out.1.sm.own g e).1; omega
        · obtain ⟨_, _, hu⟩ := HR.out.1.sm.spr
          have := (own_at hu g e).1; omega)
      go_roundw
      case rel => exact ⟨i + 1, T6, tv6, _, M6, by omega, Lib.hid HGo.out.1, Lib.hid ⟨s1, HR.out.2.1.adv hni hc s2, HR.out.2.2.trans hb6⟩⟩
      case measure => rw [atOf_sm s1.sm, HM0.out]; omega
    have HX : Hid (i = m ∨ T = []) := Lib.hid (by
      by_cases h1 : i = m
      · exact .inl h1
      · right
        have h2 := HIm.out
        refine List.eq_nil_of_length_eq_zero ?_
        omega)
    have HFin := Lib.hid (fun (ys : List Nat) hp hs => fin_t (ys := ys) HV.out HNM.out HM.out HR.out.2.1 hni HIm.out HX.out hp hs)
    have HNT := Lib.hid hgo
    obtain ⟨B0, hB0⟩ : ∃ B0, wA.heap.size = B0 := ⟨_, rfl⟩
    have HB0 := Lib.hid hB0
    have HwB : Hid (w.heap.size ≤ B0) := Lib.hid (by have := HR.out.1.sm.lt; omega)
    have hend : ((i : Int) < (m : Int)) = False ∨ (0 : Int) < (T.length : Int) → ¬ ((i : Int) < (m : Int)) ∨ ¬ ((0 : Int) < (T.length : Int)) := fun _ => by
      by_cases h : (i : Int) < (m : Int)
      · right; intro h2; exact hgo ⟨by omega, by omega⟩
      · exact .inl h
    have hcase : ¬ ((i : Int) < (m : Int)) ∨ ((i : Int) < (m : Int) ∧ ¬ ((0 : Int) < (T.length : Int))) := by
      by_cases h : (i : Int) < (m : Int)
      · right; exact ⟨h, fun h2 => hgo ⟨by omega, by omega⟩⟩
      · exact .inl h
    clear hend hgo hB0
    rcases hcase with hx1 | ⟨hx1, hx2⟩
    · go_wp2_with fail
      go_loopw [11, 57] (fun v j wr => ∃ (k : Nat) (u : Value), u = v ∧ k ≤ T.length ∧ j = .int .i64 k ∧ Hid (wr.ownsRow B0 3 1 u k (rowN (nums T k))) ∧ Hid (k = 0 → u = .slice none 0 0) ∧ Hid (Below B0 wA wr)) (fun _ j _ => T.length - (intOf j).toNat)
      case atStart => exact ⟨0, _, rfl, Nat.zero_le _, rfl, Lib.hid ⟨rfl, .inl ⟨rfl, rfl⟩⟩, Lib.hid (fun _ => rfl), Lib.hid (Below.refl _ _)⟩
      case round =>
        obtain ⟨k, u, rfl, hk, rfl, HO, HZ, HB⟩ := hrel
        clear d3 d4
        by_cases hkn : k < T.length
        · have ki : (k : Int) < T.length := by omega
          have ki0 : (0 : Int) ≤ k := by omega
          obtain ⟨g1, cap1, e⟩ := own_more HR.out.1.sm.own (by omega)
          injection e with e1 e2 e3
          subst e1 e3
          obtain ⟨t0, t1⟩ := tv_cells HR.out.1.sm.own k hkn
          have hg0 := (own_at HR.out.1.sm.own g1 rfl).2
          have hg1 : g1 < B0 := by have := HB0.out; omega
          have t0 : wr.cell? ⟨g1, k * 2, none⟩ = _ := (HB.out.cell (p := ⟨g1, k * 2, none⟩) hg1).trans t0
          have t1 : wr.cell? ⟨g1, k * 2 + 1, none⟩ = _ := (HB.out.cell (p := ⟨g1, k * 2 + 1, none⟩) hg1).trans t1
          obtain ⟨q, hq⟩ : ∃ q, q = T[k] := ⟨_, rfl⟩
          rw [← hq] at t0 t1
          have hBs : B0 ≤ wr.heap.size := by have := HB0.out; have := HB.out.size; omega
          have hg2 : g1 < wr.heap.size := by omega
          obtain ⟨uad, ucap, e⟩ := own_sl HO.out
          subst e
          obtain ⟨WB, hWB⟩ : ∃ WB, WB = wr.alloc (.cells #[.int .i64 (q.1 : Int), .int .i64 (q.2 : Int)] 66) := ⟨_, rfl⟩
          have hBB : Below wr.heap.size wr WB := by rw [hWB]; exact (Below.refl _ _).alloc (Nat.le_refl _) _
          have hbx : WB.heap[wr.heap.size]? = some (.cells #[.int .i64 (q.1 : Int), .int .i64 (q.2 : Int)] 66 (0, 0)) := by rw [hWB]; exact heap_alloc_new wr _
          have b0 := cell_of_row WB wr.heap.size 0 _ _ _ hbx
          have b1 := cell_of_row WB wr.heap.size 1 _ _ _ hbx
          have hlB : wr.heap.size < WB.heap.size := (Array.getElem?_eq_some_iff.1 hbx).1
          have HOB := Lib.hid (own_below HO.out hBB)
          have HBB := Lib.hid (HB.out.trans (hBB.mono hBs))
          have HTk : Hid (rowN (nums T k) ++ [.int .i64 (q.1 : Int)] = rowN (nums T (k + 1))) := Lib.hid (by
            unfold nums; rw [List.take_succ_eq_append_getElem hkn, List.map_append, ← hq]; simp [rowN])
          have HWB := Lib.hid hWB
          have hbs2 : B0 ≤ WB.heap.size := by omega
          clear hq hWB hBB hbx
          go_upto_region 11 with fail
          rw [← HWB.out]
          go_wp2_with (at_builtin; refine app1 B0 35 3 (.int .i64 0) 1 8 Tryd.underlying35 info_int rfl (by decide) WB rfl (.tmp 61) (.tmp 64) rfl hbs2 (.slice uad k ucap) k (rowN (nums T k)) [.int .i64 (q.1 : Int)] rfl rfl HOB.out _ rfl rfl rfl ?d1 ?d2 ?d3 ?_)
          case d1 => first | rfl | (intro u hu; simp at hu; subst hu; rfl)
          case d2 => unfold maxLen; omega
          case d3 => omega
          intro g cp w7 ho7 hk7 hg7
          have HO7 := Lib.hid ho7
          have HB7 : Hid (Below B0 wA w7) := Lib.hid (HBB.out.trans (hk7.below hbs2 (fun b e => (own_at HOB.out b e).1)))
          clear ho7 hk7 hg7 b0 b1 t0 t1
          go_wp2
          go_roundw
          case rel => exact ⟨k + 1, _, rfl, by omega, by go_num, Lib.hid (by rw [← HTk.out]; exact HO7.out), Lib.hid (fun e => by omega), HB7⟩
          case measure => simp [intOf]; omega
        · obtain rfl : k = T.length := by omega
          by_cases hT0 : T.length = 0
          · obtain rfl := HZ.out hT0
            have HS := Lib.hid (HSort.out.2 wr)
            have HF0 := Lib.hid (HFin.out [] (by rw [List.eq_nil_of_length_eq_zero hT0]; exact List.Perm.refl _) List.Pairwise.nil)
            clear hT0
            go_wp2_with (go_at_call 26; (with_reducible refine HS.out.mono ?_); rintro e w8 ⟨rfl, hb8⟩; have HB8 := Lib.hid hb8; clear hb8)
            go_ret
            exact ⟨⟨_, [], rfl, il_nil _ _, HF0.out⟩, HB2.out.trans ((HR.out.2.2.mono (by omega)).trans ((HB.out.trans (HB8.out.mono (by have := HB0.out; have := HB.out.size; omega))).mono HwB.out))⟩
          · obtain ⟨g1, cap1, e⟩ := own_more HO.out (by omega)
            subst e
            have hzl : (T.map (·.1)).length = T.length := List.length_map _
            have hcl : ∀ (j : Nat) (hj : j < (T.map (·.1)).length), wr.cell? ⟨g1, j, none⟩ = some (.int .i64 (((T.map (·.1))[j]'hj : Nat) : Int)) ∧ wr.frozen? ⟨g1, j, none⟩ = false := fun j hj => by
              refine ⟨?_, HO.out.frozenAt _⟩
              rw [HO.out.cellAt j (by omega)]
              unfold rowN nums
              rw [List.take_length]
              rw [List.getElem?_map, List.getElem?_eq_getElem hj]
              rfl
            have hg1 := own_at HO.out g1 rfl
            have HS := HSort.out.1 g1 cap1 (T.map (·.1)) wr hcl hg1.2 (by omega)
            rw [hzl] at HS
            have HS := Lib.hid HS
            have HG1 := Lib.hid hg1
            have HZl := Lib.hid hzl
            clear hcl hzl hT0
            go_wp2_with (go_at_call 26; (with_reducible refine HS.out.mono ?_); rintro e w8 ⟨rfl, hy8, hk8⟩; have HY8 := Lib.hid hy8; have HK8 := Lib.hid hk8; clear hy8 hk8)
            go_ret
            obtain ⟨ys, y1, y2, y3⟩ := HY8.out
            have hyl : ys.length = T.length := y1.length_eq.trans HZl.out
            refine ⟨⟨_, ys, rfl, ⟨some ⟨g1, 0, none⟩, cap1, by rw [hyl]; rfl, .inr ⟨g1, 0, rfl, by have := HwB.out; have := HG1.out.1; omega, Nat.lt_of_lt_of_le HG1.out.2 HK8.out.size, fun j hj => by rw [Nat.zero_add]; exact y3 j hj⟩⟩, HFin.out ys y1 y2⟩, HB2.out.trans ((HR.out.2.2.mono (by omega)).trans ((HB.out.trans (HK8.out.below (by have := HB0.out; have := HB.out.size; omega) (fun b e => by have := HG1.out.1; omega))).mono HwB.out))⟩
    · obtain rfl : T = [] := List.eq_nil_of_length_eq_zero (by omega)
      have HF0 := Lib.hid (HFin.out [] (List.Perm.refl _) List.Pairwise.nil)
      have HS := Lib.hid (HSort.out.2 wA)
      clear hx2
      go_wp2_with fail
      go_loopw [11, 57] (fun v j wr => v = .slice none 0 0 ∧ j = .int .i64 0 ∧ wr = wA) (fun _ _ _ => 0)
      case atStart => exact ⟨rfl, rfl, rfl⟩
      case round =>
        obtain ⟨rfl, rfl, rfl⟩ := hrel
        go_wp2_with (go_at_call 26; (with_reducible refine HS.out.mono ?_); rintro e w8 ⟨rfl, hb8⟩; have HB8 := Lib.hid hb8; clear hb8)
        go_ret
        exact ⟨⟨_, [], rfl, il_nil _ _, HF0.out⟩, HB2.out.trans ((HR.out.2.2.mono (by omega)).trans (HB8.out.mono (by have := HwB.out; have := HB0.out; omega)))⟩
end Go.Proofs.YtfgcnknmiclfnaaDoor
