/- RsRff. -/
import Derived.Test.YtfgcnknmiclfnaaDoorPb37
import Derived.BigQuiet
set_option linter.unusedVariables false
set_option linter.unusedSimpArgs false
set_option maxRecDepth 100000
set_option maxHeartbeats 8000000
namespace Go.Proofs.YtfgcnknmiclfnaaDoor
open Go.RowKit
abbrev RX (R : Nat) (pv : Value) (ln : Bool) (pb o B k : Nat) (x : IN) (wB w' : World) : Prop := (w'.cell? ⟨R, 0, none⟩ = some pv ∧ w'.cell? ⟨R, 1, none⟩ = some (.bool ln) ∧ w'.cell? ⟨B, k, none⟩ = some (.bool true) ∧ w'.cell? ⟨pb, o, none⟩ = some (.int .i64 1) ∧ w'.cell? ⟨pb, o + 1, none⟩ = some (.int .u64 (wd x.st 0 64 : Nat)) ∧ w'.cell? ⟨pb, o + 2, none⟩ = some (.int .u64 (wd x.st 64 64 : Nat)) ∧ w'.cell? ⟨pb, o + 3, none⟩ = some (.int .u64 (wd x.st 128 64 : Nat)) ∧ w'.cell? ⟨pb, o + 4, none⟩ = some (.int .u64 (wd x.st 192 64 : Nat))) ∧ (R < w'.heap.size ∧ B < w'.heap.size ∧ pb < w'.heap.size) ∧ Below wB.heap.size wB w'
theorem RX.keep {R : Nat} {pv : Value} {ln : Bool} {pb o B k : Nat} {x : IN} {wB wx wy : World} (hb : Below wx.heap.size wx wy) (h : RX R pv ln pb o B k x wB wx) : RX R pv ln pb o B k x wB wy := by
  obtain ⟨⟨h0, h1, h2, h3, h4, h5, h6, h7⟩, ⟨h8, h9, h10⟩, h11⟩ := h
  exact ⟨⟨keep_cell hb h0, keep_cell hb h1, keep_cell hb h2, keep_cell hb h3, keep_cell hb h4, keep_cell hb h5, keep_cell hb h6, keep_cell hb h7⟩, ⟨Nat.lt_of_lt_of_le h8 hb.size, Nat.lt_of_lt_of_le h9 hb.size, Nat.lt_of_lt_of_le h10 hb.size⟩, h11.trans (hb.mono h11.size)⟩
theorem rreached_any (L : List IN) (pv : Value) (n0 : Nat) (ln : Bool) (sv : ByteArray) (n m : Nat) (w : World) (hp : PI w n0 L pv) (hv : valL L = true) (hnm : n ≤ m) (hm : m ≤ sv.size) (hs : sv.size ≤ 1000000000) :
    Calls Tryd.prog 27 #[.agg #[pv, .bool ln], .string sv, .int .i64 (n : Int), .int .i64 (m : Int)] w fun e w' => (∃ B mc, e = .returned (.slice (some ⟨B, 0, none⟩) L.length mc) ∧ w.heap.size ≤ B ∧ MB w' B L.length ∧ ∀ b, b < L.length → (rdM w' B b = true ↔ Rd L ln sv.data.toList n m b)) ∧ Below w.heap.size w w' := by
  obtain ⟨ad, cap, rfl⟩ := hp.form
  obtain ⟨R, hR⟩ : ∃ R, w.heap.size = R := ⟨_, rfl⟩
  have hL : 0 < L.length ∧ L.length ≤ 4096 := by
    have hv2 := hv
    unfold valL at hv2
    rw [Bool.and_eq_true, Bool.and_eq_true] at hv2
    exact ⟨by have := of_decide_eq_true hv2.1; omega, of_decide_eq_true hv2.2.1⟩
  obtain ⟨hL0, hL⟩ := hL
  obtain ⟨pb, pi, rfl, hpl, hrow⟩ := rows_after hp (by omega)
  have hb := (Below.refl w.heap.size w).alloc (Nat.le_refl _) (.cells #[.slice (some ⟨pb, pi, none⟩) L.length cap, .bool ln] 24)
  have hbx := heap_alloc_new w (.cells #[.slice (some ⟨pb, pi, none⟩) L.length cap, .bool ln] 24)
  obtain ⟨W, hW⟩ : ∃ W, W = w.alloc (.cells #[.slice (some ⟨pb, pi, none⟩) L.length cap, .bool ln] 24) := ⟨_, rfl⟩
  rw [← hW] at hb hbx
  rw [hR] at hbx
  have hzW : W.heap.size = R + 1 := by rw [hW, ← hR]; simp
  have q0 := cell_of_row W R 0 _ _ _ hbx
  have q1 := cell_of_row W R 1 _ _ _ hbx
  have hlW : R < W.heap.size := by omega
  have HX := Lib.hid hbx
  have HW := Lib.hid hW
  have HB := Lib.hid hb
  have hpW := hp.below hb
  have HP := Lib.hid hpW
  have HV := Lib.hid hv
  have HRow := Lib.hid (fun k hk (wr : World) (h : Below W.heap.size W wr) => hrow k hk wr (hb.trans (h.mono hb.size)))
  have HCl := Lib.hid (fun (i B mc : Nat) (wr : World) hb0 hB hmb hi => rclosed_any L (.slice (some ⟨pb, pi, none⟩) L.length cap) n0 ln sv i B mc W wr hpW hb0 hB hmb hv hi hs)
  have hLI : (L.length : Int) ≤ 4096 := by omega
  have hL0I : (0 : Int) < (L.length : Int) := by omega
  have hsI : (sv.size : Int) ≤ 1000000000 := by omega
  have hmI : (m : Int) ≤ (sv.size : Int) := by omega
  have hmk : ∀ w : World, (Instr.makeSlice 70 (.int .i64 (L.length : Int)) (.int .i64 (L.length : Int))).run Tryd.prog w = .ok (.slice (some ⟨w.heap.size, 0, none⟩) L.length L.length) (w.alloc (.cells (madeCells #[.bool false] L.length) 4)) := fun w =>
    run_make_row' 70 4 (.bool false) 1 Tryd.underlying70 infoBo rfl .i64 .i64 L.length (by omega) (by omega) w
  clear hb hbx hW hp hrow hpW hv
  go_enter Tryd.func27, Tryd.ntmps27
  go_upto_region 1 with fail
  rw [← HW.out]
  go_upto_region 2 with fail
  have hx1 := heap_alloc_new W (.cells (madeCells #[.bool false] L.length) 4)
  have hb1 : Below W.heap.size W (W.alloc (.cells (madeCells #[.bool false] L.length) 4)) := (Below.refl _ _).alloc (Nat.le_refl _) _
  generalize hW1 : W.alloc (.cells (madeCells #[.bool false] L.length) 4) = W1 at *
  clear hW1
  rw [hzW] at hx1
  obtain ⟨hm1, hf1⟩ := mb_made hx1
  have hpf := put_first hm1 hf1 hL0
  have e0 : W1.cell? ⟨R + 1, 0, none⟩ = some (.bool false) := by rw [hm1.c 0 hL0, hf1 0 hL0]
  have f0 := hm1.fz 0
  have hl1 := hm1.lt
  have hq1 := (hb1.block R hlW).trans HX.out
  have hk1 := keep_setB W1 (R + 1) 0 (.bool true)
  have hbs := hb1.trans (hk1.below (B := W.heap.size) (by rw [hzW]; omega) (fun g e => by omega))
  have HM1 := Lib.hid (hm1.set hL0)
  have HPF := Lib.hid hpf
  have HC := Lib.hid (HCl.out n (R + 1) L.length _ hbs (by omega) (hm1.set hL0) (by omega))
  have HBS := Lib.hid hbs
  have hxs := (hbs.block R hlW).trans HX.out
  clear q0 q1
  have q0 := cell_of_row _ R 0 _ _ _ hxs
  have q1 := cell_of_row _ R 1 _ _ _ hxs
  have hlRs : R < (W1.setCell ⟨R + 1, 0, none⟩ (.bool true)).heap.size := (Array.getElem?_eq_some_iff.1 hxs).1
  have HzW := Lib.hid hzW
  clear hx1 hb1 hm1 hf1 hpf hk1 hbs hq1 hxs
  go_wp2_with (first
    | (go_at_call 43; (with_reducible refine HC.out.mono ?_); rintro e w2 ⟨rfl, hm2, hc2, hk2⟩
       have HB2 := Lib.hid (HBS.out.trans (hk2.below (B := W.heap.size) (HBS.out.size) (fun g e => by have := HzW.out; omega)))
       have HM2 := Lib.hid hm2
       have HR2 := Lib.hid (rd_start hc2 HPF.out hL0)
       clear hm2 hc2 hk2 q0 q1 e0 f0 hlRs hl1))
  go_loopw [9, 10] (fun x y wr => ∃ B mc i : Nat, n ≤ i ∧ i ≤ m ∧ x = .slice (some ⟨B, 0, none⟩) L.length mc ∧ y = .int .i64 i ∧ Hid (R + 1 ≤ B ∧ MB wr B L.length ∧ (∀ b, b < L.length → (rdM wr B b = true ↔ Rd L ln sv.data.toList n i b)) ∧ Below W.heap.size W wr)) (fun _ y _ => m - (intOf y).toNat)
  case atStart => exact ⟨R + 1, L.length, n, Nat.le_refl _, hnm, rfl, rfl, Lib.hid ⟨Nat.le_refl _, HM2.out, HR2.out, HB2.out⟩⟩
  case round =>
    obtain ⟨B, mc, i, hni, him, rfl, rfl, HR⟩ := hrel
    rename World => wA
    have hx := (HR.out.2.2.2.block R hlW).trans HX.out
    have q0 := cell_of_row wA R 0 _ _ _ hx
    have q1 := cell_of_row wA R 1 _ _ _ hx
    have hlA : R < wA.heap.size := (Array.getElem?_eq_some_iff.1 hx).1
    clear hx
    by_cases hgo : i < m
    · have i1 : (i : Int) < (m : Int) := by omega
      have i2 : (i : Int) < (sv.size : Int) := by omega
      have i0 : (0 : Int) ≤ (i : Int) := by omega
      obtain ⟨c, hc⟩ : ∃ c, sv.data.toList[i]? = some c := ⟨_, List.getElem?_eq_getElem (by rw [lb_len]; omega)⟩
      have ix := idx_lb sv i c hc (i : Int) rfl
      have HC := Lib.hid hc
      clear hc
      go_upto_region 8 with fail
      have hx1 := heap_alloc_new wA (.cells (madeCells #[.bool false] L.length) 4)
      have hb1 : Below wA.heap.size wA (wA.alloc (.cells (madeCells #[.bool false] L.length) 4)) := (Below.refl _ _).alloc (Nat.le_refl _) _
      generalize hW1 : wA.alloc (.cells (madeCells #[.bool false] L.length) 4) = w1 at *
      obtain ⟨Z, hZ⟩ : ∃ Z, wA.heap.size = Z := ⟨_, rfl⟩
      rw [hZ] at hx1
      rw [hZ]
      obtain ⟨hm1, hf1⟩ := mb_made hx1
      have hBZ : B < Z := by rw [← hZ]; exact HR.out.2.1.lt
      have HM1 := Lib.hid hm1
      have HA1 : Hid (AF L c (rdM wA B) 0 (rdM w1 Z)) := Lib.hid (AF.start hf1)
      have HB1 := Lib.hid (HR.out.2.2.2.trans (hb1.mono HR.out.2.2.2.size))
      have HMB1 := Lib.hid (HR.out.2.1.below hb1)
      have HE1 := Lib.hid (rdM_below HR.out.2.1 hb1)
      have HZ1 : Hid (R + 1 ≤ Z) := Lib.hid (by omega)
      have HZW : Hid (W.heap.size ≤ Z) := Lib.hid (by rw [← hZ]; exact HR.out.2.2.2.size)
      have HCZ := Lib.hid (fun wr hb0 hmb => HCl.out (i + 1) Z L.length wr hb0 (by rw [← hZ]; exact HR.out.2.2.2.size) hmb (by omega))
      have hcast : ((i + 1 : Nat) : Int) = (i : Int) + 1 := by omega
      rw [hcast] at HCZ
      clear hx1 hb1 hW1 hm1 hf1 q0 q1 hlA hZ hcast
      go_wp2_with fail
      go_loopw [12] (fun x wr => ∃ k : Nat, k ≤ L.length ∧ x = .int .i64 k ∧ Hid (Keep (fun b => b = Z) w1 wr ∧ MB wr Z L.length ∧ AF L c (rdM wA B) k (rdM wr Z))) (fun x _ => L.length - (intOf x).toNat)
      case atStart => exact ⟨0, Nat.zero_le _, rfl, Lib.hid ⟨Keep.refl _ _, HM1.out, HA1.out⟩⟩
      case round =>
        obtain ⟨k, hk, rfl, HJ⟩ := hrel
        rename World => wB
        have HBB : Hid (Below W.heap.size W wB) := Lib.hid (HB1.out.trans (HJ.out.1.below (B := W.heap.size) HB1.out.size (fun g e => by have := HZW.out; omega)))
        have hx := (HBB.out.block R hlW).trans HX.out
        have q0 := cell_of_row wB R 0 _ _ _ hx
        have q1 := cell_of_row wB R 1 _ _ _ hx
        have hlB : R < wB.heap.size := (Array.getElem?_eq_some_iff.1 hx).1
        clear hx
        by_cases hkn : k < L.length
        · have k1 : (k : Int) < (L.length : Int) := by omega
          have k0 : (0 : Int) ≤ (k : Int) := by omega
          have hkB := HJ.out.1.block B HMB1.out.lt (by omega)
          have hmB := HMB1.out.block hkB HJ.out.1.size
          have hrB : rdM wB B = rdM wA B := (rdM_block hkB).trans HE1.out
          have e0 := hmB.c k hkn
          rw [hrB] at e0
          have hlBB := hmB.lt
          have hlZ := HJ.out.2.1.lt
          have hpb : pb < wB.heap.size := by have := HBB.out.size; omega
          obtain ⟨x, hx⟩ : ∃ x, x = L[k] := ⟨_, rfl⟩
          have hLk : L[k]? = some x := by rw [hx]; exact List.getElem?_eq_getElem hkn
          have l0 : wB.cell? ⟨pb, pi + k * 7, none⟩ = some (.int .i64 x.op) := by rw [hx]; exact HRow.out k hkn wB HBB.out 0 _ rfl (by decide)
          have l1 := HRow.out k hkn wB HBB.out 1 _ rfl (by decide)
          have l2 := HRow.out k hkn wB HBB.out 2 _ rfl (by decide)
          have l3 := HRow.out k hkn wB HBB.out 3 _ rfl (by decide)
          have l4 := HRow.out k hkn wB HBB.out 4 _ rfl (by decide)
          rw [← hx] at l1 l2 l3 l4
          have hcs := val_cases HV.out hkn
          rw [← hx] at hcs
          have hk7 : x.op = 1 → k + 1 < L.length := fun h => by
            rcases hcs with ⟨_, h2⟩ | ⟨h2, _⟩ | ⟨h2, _⟩ | ⟨h2, _⟩ | ⟨h2, _⟩ | h2
            · exact h2
            all_goals (rw [h] at h2; cases h2)
          obtain ⟨g, hg⟩ : ∃ g, rdM wA B k = g := ⟨_, rfl⟩
          rw [hg] at e0
          have HG := Lib.hid hg
          have HLk := Lib.hid hLk
          have HK7 := Lib.hid hk7
          clear hkB hmB hrB hx hcs hg hLk hk7
          cases g with
          | false =>
            go_wp2_with fail
            go_quiet (fail)
            go_wp2_with fail
            go_roundw
            case rel => exact ⟨k + 1, by omega, by go_num, Lib.hid ⟨HJ.out.1.trans (S2 := fun _ => False) (Keep.of_below (below_drewN (Below.refl _ _) _)) (fun g _ h => h.elim), HJ.out.2.1.below (below_drewN (Below.refl _ _) _), by rw [rdM_below HJ.out.2.1 (below_drewN (Below.refl _ _) _)]; exact HJ.out.2.2.miss HLk.out (fun h => by rw [HG.out] at h; exact absurd h.1 (by decide))⟩⟩
            case measure => simp [intOf]; omega
          | true =>
            by_cases h1 : x.op = 1
            · have hk7 := HK7.out h1
              rw [h1] at l0
              have HO := Lib.hid h1
              have HHs : Hid (∀ W, Calls Tryd.prog 17 #[.agg #[.int .u64 (wd x.st 0 64 : Nat), .int .u64 (wd x.st 64 64 : Nat), .int .u64 (wd x.st 128 64 : Nat), .int .u64 (wd x.st 192 64 : Nat)], .int .u8 (c.toNat : Int)] W fun e w' => e = .returned (.bool (x.st c.toNat)) ∧ Below W.heap.size W w') := Lib.hid (fun W => rhas_any x.st c.toNat (by have := c.toNat_lt; omega) W)
              obtain ⟨g2, hg2⟩ : ∃ g, x.st c.toNat = g := ⟨_, rfl⟩
              rw [hg2] at HHs
              have HG2 := Lib.hid hg2
              have HS5 : Hid (RX R (.slice (some ⟨pb, pi, none⟩) L.length cap) ln pb (pi + k * 7) B k x wB wB) := Lib.hid ⟨⟨q0, q1, e0, l0, l1, l2, l3, l4⟩, ⟨hlB, hlBB, hpb⟩, Below.refl _ _⟩
              clear h1 hg2
              go_wp2_with fail
              go_region_held3 (fun w' => RX R (.slice (some ⟨pb, pi, none⟩) L.length cap) ln pb (pi + k * 7) B k x wB w')
                (first | exact HS5.out | exact RX.keep (Below.drew (Below.refl _ _)) HS5.out | exact RX.keep hb ‹_›)
                (first
                  | (go_at_call 17; (with_reducible refine (HHs.out _).mono ?_); rintro e w6 ⟨rfl, hb⟩; skip))
              rename_i hS0
              have hb7 := hS0.2.2
              have hmZ := HJ.out.2.1.below hb7
              have hrZ := rdM_below HJ.out.2.1 hb7
              have HK8 := Lib.hid (HJ.out.1.trans (S2 := fun _ => False) (Keep.of_below hb7) (fun g _ h => h.elim))
              have HMZ := Lib.hid hmZ
              have HRZ := Lib.hid hrZ
              clear hS0 q0 q1 l0 l1 l2 l3 l4 e0 hb7 hrZ
              cases g2 with
              | true =>
                have e1 := hmZ.c (k + 1) hk7
                have f1 := hmZ.fz (k + 1)
                have hl7 := hmZ.lt
                have k1' : (k : Int) + 1 < (L.length : Int) := by omega
                have k0' : (0 : Int) ≤ (k : Int) + 1 := by omega
                clear hmZ
                go_wp2_with fail
                go_roundw
                case rel => exact ⟨k + 1, by omega, by go_num, Lib.hid ⟨HK8.out.trans (keep_setB _ Z (k + 1) _) (fun g _ e => e), HMZ.out.set hk7, by rw [rdM_set HMZ.out hk7, HRZ.out]; exact HJ.out.2.2.hit HLk.out HG.out HO.out HG2.out⟩⟩
                case measure => simp [intOf]; omega
              | false =>
                clear hmZ
                go_wp2_with fail
                go_roundw
                case rel => exact ⟨k + 1, by omega, by go_num, Lib.hid ⟨HK8.out, HMZ.out, by rw [HRZ.out]; exact HJ.out.2.2.miss HLk.out (fun h => by rw [HG2.out] at h; exact absurd h.2.2 (by decide))⟩⟩
                case measure => simp [intOf]; omega
            · have g1 : (x.op == (1 : Int)) = false := by simp [h1]
              have HO := Lib.hid h1
              clear h1
              go_wp2_with fail
              go_quiet (fail)
              go_wp2_with fail
              go_roundw
              case rel => exact ⟨k + 1, by omega, by go_num, Lib.hid ⟨HJ.out.1.trans (S2 := fun _ => False) (Keep.of_below (below_drewN (Below.refl _ _) _)) (fun g _ h => h.elim), HJ.out.2.1.below (below_drewN (Below.refl _ _) _), by rw [rdM_below HJ.out.2.1 (below_drewN (Below.refl _ _) _)]; exact HJ.out.2.2.miss HLk.out (fun h => HO.out h.2.1)⟩⟩
              case measure => simp [intOf]; omega
        · obtain rfl : k = L.length := by omega
          go_wp2_with (first
            | (go_at_call 43; (with_reducible refine (HCZ.out wB HBB.out HJ.out.2.1).mono ?_); rintro e w5 ⟨rfl, hm5, hc5, hk5⟩
               have HM5 := Lib.hid hm5
               have HR5 := Lib.hid (rd_step HR.out.2.2.1 hni HC.out HJ.out.2.2 hc5)
               have HB5 := Lib.hid (HBB.out.trans (hk5.below (B := W.heap.size) HBB.out.size (fun g e => by have := HZW.out; omega)))
               clear hm5 hc5 hk5 q0 q1))
          go_roundw
          case rel => exact ⟨Z, L.length, i + 1, by omega, by omega, rfl, by go_num, Lib.hid ⟨HZ1.out, HM5.out, HR5.out, HB5.out⟩⟩
          case measure => simp [intOf]; omega
    · obtain rfl : i = m := by omega
      go_wp2_with fail
      go_ret
      exact ⟨⟨B, mc, rfl, by have := HR.out.1; omega, HR.out.2.1, HR.out.2.2.1⟩, HB.out.trans (HR.out.2.2.2.mono HB.out.size)⟩
end Go.Proofs.YtfgcnknmiclfnaaDoor
