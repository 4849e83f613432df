/- RsRfd, RsRfe. -/
import Derived.Test.YtfgcnknmiclfnaaDoorPb36
import Derived.Deep.RegionHeld3
import Derived.Deep.OwnRows
set_option linter.unusedVariables false
set_option linter.unusedSimpArgs false
set_option maxRecDepth 100000
set_option maxHeartbeats 8000000
namespace Go.Proofs.YtfgcnknmiclfnaaDoor
open Go.RowKit
theorem stp_len (L : List IN) (ln : Bool) (s : List UInt8) (i k : Nat) : (stp L ln s i k).length ≤ 2 := by
  unfold stp sucs
  cases L[k]? with
  | none => simp
  | some x =>
    simp only
    repeat' split
    all_goals simp
theorem rclosed_any (L : List IN) (pv : Value) (n0 : Nat) (ln : Bool) (sv : ByteArray) (i B mc : Nat) (w0 w : World) (hp : PI w0 n0 L pv) (hb0 : Below w0.heap.size w0 w) (hB : w0.heap.size ≤ B) (hm : MB w B L.length) (hv : valL L = true) (hi : i ≤ sv.size) (hs : sv.size ≤ 1000000000) :
    Calls Tryd.prog 43 #[.agg #[pv, .bool ln], .string sv, .int .i64 (i : Int), .slice (some ⟨B, 0, none⟩) L.length mc] w fun e w' => e = .returned (.slice (some ⟨B, 0, none⟩) L.length mc) ∧ MB w' B L.length ∧ CL (stp L ln sv.data.toList i) L.length (rdM w B) (rdM w' B) ∧ Keep (fun b => b = B) w w' := by
  obtain ⟨ad, cap, rfl⟩ := hp.form
  obtain ⟨R, hR⟩ : ∃ R, w.heap.size = R := ⟨_, rfl⟩
  have hL : L.length ≤ 4096 := by
    have hv2 := hv
    unfold valL at hv2
    rw [Bool.and_eq_true, Bool.and_eq_true] at hv2
    exact of_decide_eq_true hv2.2.1
  have hb := (Below.refl w.heap.size w).alloc (Nat.le_refl _) (.cells #[.slice ad L.length cap, .bool ln] 24)
  have hbx := heap_alloc_new w (.cells #[.slice ad L.length cap, .bool ln] 24)
  obtain ⟨W, hW⟩ : ∃ W, W = w.alloc (.cells #[.slice ad L.length cap, .bool ln] 24) := ⟨_, rfl⟩
  rw [← hW] at hb hbx
  rw [hR] at hbx
  have hzW : W.heap.size = R + 1 := by rw [hW, ← hR]; simp
  have hBR : B < R := by rw [← hR]; exact hm.lt
  have q0 := cell_of_row W R 0 _ _ _ hbx
  have q1 := cell_of_row W R 1 _ _ _ hbx
  have hlW : R < W.heap.size := by omega
  obtain ⟨M, hM⟩ : ∃ M, rdM w B = M := ⟨_, rfl⟩
  have hMW : rdM W B = M := by rw [← hM]; exact rdM_below hm hb
  rw [hM]
  obtain ⟨S, hS⟩ : ∃ S, stp L ln sv.data.toList i = S := ⟨_, rfl⟩
  rw [hS]
  have HX := Lib.hid hbx
  have HW := Lib.hid hW
  have HMB := Lib.hid (hm.below hb)
  have HMW := Lib.hid hMW
  have HSt : Hid (∀ j, j < L.length → ∀ y ∈ S j, y < L.length) := Lib.hid (fun j hj y hy => stp_lt hv ln sv.data.toList i j hj y (by rw [hS]; exact hy))
  have HSl : Hid (∀ k, (S k).length ≤ 2) := Lib.hid (fun k => by rw [← hS]; exact stp_len _ _ _ _ _)
  have HKW : Hid (Keep (fun b => b = B) w W) := Lib.hid ⟨hb.os, hb.tape, hb.output, hb.size, fun b hb2 _ => hb.block b hb2⟩
  have HP : Hid (∀ wr, Keep (fun b => b = B) W wr → PI wr n0 L (.slice ad L.length cap)) := Lib.hid (fun wr hk => hp.below (hb0.trans ((hb.mono hb0.size).trans ((hk.below (B := w0.heap.size) (by have := hb0.size; omega) (fun g e => by omega)).mono (Nat.le_refl _)))))
  have HNx := Lib.hid (fun (k : Nat) (hk : k < L.length) (wr : World) hp => rnext_any L (.slice ad L.length cap) n0 ln sv i k wr hp hv hi hk hs)
  rw [hS] at HNx
  have hLI : (L.length : Int) ≤ 4096 := by omega
  clear hb hbx hW hp hm hb0 hM hMW hv hS hzW
  go_enter Tryd.func43, Tryd.ntmps43
  go_upto_region 1 with fail
  rw [← HW.out]
  go_wp2_with fail
  go_loopw [9] (fun x wr => ∃ ch : Bool, x = .bool ch ∧ Hid (Keep (fun b => b = B) W wr ∧ MB wr B L.length ∧ OV S L.length M (rdM wr B) ch)) (fun x wr => 2 * (L.length - cntM (rdM wr B) L.length) + bOf x)
  case atStart => exact ⟨true, rfl, Lib.hid ⟨Keep.refl _ _, HMB.out, by rw [HMW.out]; exact OV.start _ _ _⟩⟩
  case round =>
    obtain ⟨ch0, rfl, HR⟩ := hrel
    rename World => wA
    cases ch0 with
    | false =>
      go_wp2_with fail
      go_ret
      exact ⟨rfl, HR.out.2.1, HR.out.2.2.done HSt.out, HKW.out.trans HR.out.1 (fun g _ e => e)⟩
    | true =>
    go_wp2_with fail
    go_loopw [9, 10] (fun x y wr => ∃ (ch : Bool) (k : Nat), k ≤ L.length ∧ x = .bool ch ∧ y = .int .i64 k ∧ Hid (Keep (fun b => b = B) W wr ∧ MB wr B L.length ∧ CP S L.length M (rdM wA B) (rdM wr B) ch k [] 0)) (fun _ y _ => L.length - (intOf y).toNat)
    case atStart => exact ⟨false, 0, Nat.zero_le _, rfl, rfl, Lib.hid ⟨HR.out.1, HR.out.2.1, HR.out.2.2.pass⟩⟩
    case round =>
      obtain ⟨ch, k, hk, rfl, rfl, HQ⟩ := hrel
      rename World => wB
      by_cases hkn : k < L.length
      · have k1 : (k : Int) < (L.length : Int) := by omega
        have k0 : (0 : Int) ≤ (k : Int) := by omega
        have e0 := HQ.out.2.1.c k hkn
        have hlB := HQ.out.2.1.lt
        have hx := (HQ.out.1.block R hlW (by omega)).trans HX.out
        clear q0 q1
        have q0 := cell_of_row wB R 0 _ _ _ hx
        have q1 := cell_of_row wB R 1 _ _ _ hx
        have hlR : R < wB.heap.size := (Array.getElem?_eq_some_iff.1 hx).1
        clear hx
        obtain ⟨m, hmk⟩ : ∃ m, rdM wB B k = m := ⟨_, rfl⟩
        rw [hmk] at e0
        have HMK := Lib.hid hmk
        clear hmk
        cases m with
        | false =>
          go_wp2_with fail
          go_roundw
          case rel => exact ⟨ch, k + 1, by omega, rfl, by go_num, Lib.hid ⟨HQ.out.1, HQ.out.2.1, HQ.out.2.2.skip HMK.out⟩⟩
          case measure => simp [intOf]; omega
        | true =>
          go_wp2_with (first
            | (go_at_call 72; (with_reducible refine (HNx.out k hkn wB (HP.out wB HQ.out.1)).mono ?_); rintro e w5 ⟨⟨v, rfl, ⟨zad, zcap, rfl, hz⟩⟩, hb5⟩
               have HZ := Lib.hid hz
               have HB5 := Lib.hid hb5
               clear hz hb5 q0 q1 e0))
          have HK5 : Hid (Keep (fun b => b = B) W w5) := Lib.hid (HQ.out.1.trans (S2 := fun _ => False) ⟨HB5.out.os, HB5.out.tape, HB5.out.output, HB5.out.size, fun b hb _ => HB5.out.block b hb⟩ (fun g _ h => h.elim))
          have HM5 := Lib.hid (HQ.out.2.1.below HB5.out)
          have HE5 := Lib.hid (rdM_below HQ.out.2.1 HB5.out)
          have hzl : (S k).length ≤ 2 := HSl.out k
          have hzI : ((S k).length : Int) ≤ 2 := by omega
          go_loopw [9, 31] (fun x y wr => ∃ (ch1 : Bool) (q : Nat), q ≤ (S k).length ∧ x = .bool ch1 ∧ y = .int .i64 q ∧ Hid (Keep (fun b => b = B) w5 wr ∧ MB wr B L.length ∧ CP S L.length M (rdM wA B) (rdM wr B) ch1 k (S k) q ∧ rdM wr B k = true)) (fun _ y _ => (S k).length - (intOf y).toNat)
          case atStart => exact ⟨ch, 0, Nat.zero_le _, rfl, rfl, Lib.hid ⟨Keep.refl _ _, HM5.out, by rw [HE5.out]; exact HQ.out.2.2.list _, by rw [HE5.out]; exact HMK.out⟩⟩
          case round =>
            obtain ⟨ch1, q, hq, rfl, rfl, HJ⟩ := hrel
            rename World => wC
            by_cases hqn : q < (S k).length
            · have j1 : (q : Int) < ((S k).length : Int) := by omega
              have j0 : (0 : Int) ≤ (q : Int) := by omega
              obtain ⟨b, hb⟩ : ∃ b, b = (S k)[q] := ⟨_, rfl⟩
              have hbs : (S k)[q]? = some b := by rw [hb]; exact List.getElem?_eq_getElem hqn
              have hbL : b < L.length := HSt.out k hkn b (by rw [hb]; exact List.getElem_mem _)
              rcases HZ.out with h0 | ⟨zb, zoff, rfl, hz0, hzl2, hzc⟩
              · omega
              have z0 := (World.cell?_of_block (a := ⟨zb, zoff + q, none⟩) (HJ.out.1.block zb hzl2 (by have := HQ.out.2.1.lt; omega))).trans (hzc q hqn)
              rw [← hb] at z0
              have hzb : zb < wC.heap.size := Nat.lt_of_lt_of_le hzl2 HJ.out.1.size
              have b1 : (b : Int) < (L.length : Int) := by omega
              have b0 : (0 : Int) ≤ (b : Int) := by omega
              have e0 := HJ.out.2.1.c b hbL
              have f0 := HJ.out.2.1.fz b
              have hlB := HJ.out.2.1.lt
              have HBs := Lib.hid hbs
              obtain ⟨m, hmb⟩ : ∃ m, rdM wC B b = m := ⟨_, rfl⟩
              rw [hmb] at e0
              have HN := Lib.hid (HJ.out.2.2.1.hit hbs hbL hkn HJ.out.2.2.2)
              rw [hmb] at HN
              have HRel : Hid (Keep (fun b => b = B) w5 (wC.setCell ⟨B, b, none⟩ (.bool true)) ∧ MB (wC.setCell ⟨B, b, none⟩ (.bool true)) B L.length ∧ CP S L.length M (rdM wA B) (rdM (wC.setCell ⟨B, b, none⟩ (.bool true)) B) (ch1 || !m) k (S k) (q + 1) ∧ rdM (wC.setCell ⟨B, b, none⟩ (.bool true)) B k = true) :=
                Lib.hid ⟨HJ.out.1.trans (keep_setB wC B b _) (fun g _ e => e), HJ.out.2.1.set hbL, by rw [rdM_set HJ.out.2.1 hbL]; exact HN.out, by rw [rdM_set HJ.out.2.1 hbL]; exact putM_up HJ.out.2.2.2⟩
              clear hb hbs hzc hmb
              cases ch1 with
              | true =>
                go_wp2_with fail
                go_roundw
                case rel => exact ⟨true, q + 1, by omega, rfl, by go_num, HRel⟩
                case measure => simp [intOf]; omega
              | false =>
                cases m with
                | true =>
                  go_wp2_with fail
                  go_roundw
                  case rel => exact ⟨false, q + 1, by omega, rfl, by go_num, HRel⟩
                  case measure => simp [intOf]; omega
                | false =>
                  go_wp2_with fail
                  go_roundw
                  case rel => exact ⟨true, q + 1, by omega, rfl, by go_num, HRel⟩
                  case measure => simp [intOf]; omega
            · obtain rfl : q = (S k).length := by omega
              have HK6 : Hid (Keep (fun b => b = B) W wC) := Lib.hid (HK5.out.trans HJ.out.1 (fun g _ e => e))
              go_wp2_with fail
              go_roundw
              case rel => exact ⟨ch1, k + 1, by omega, rfl, by go_num, Lib.hid ⟨HK6.out, HJ.out.2.1, HJ.out.2.2.1.next⟩⟩
              case measure => simp [intOf]; omega
      · obtain rfl : k = L.length := by omega
        go_wp2_with fail
        go_roundw
        case rel => exact ⟨ch, rfl, Lib.hid ⟨HQ.out.1, HQ.out.2.1, HR.out.2.2.next HQ.out.2.2⟩⟩
        case measure => exact meas HQ.out.2.2
end Go.Proofs.YtfgcnknmiclfnaaDoor
set_option linter.unusedVariables false
set_option linter.unusedSimpArgs false
set_option maxRecDepth 100000
set_option maxHeartbeats 8000000
namespace Go.Proofs.YtfgcnknmiclfnaaDoor
open Go.RowKit
theorem rd_same {L : List IN} {ln : Bool} {s : List UInt8} {n b : Nat} (h : Rd L ln s n n b) : Rch (stp L ln s n) 0 b := by
  cases h with
  | beg h => exact h
  | adv h _ _ _ _ _ => have := h.le; omega
theorem rd_start {L : List IN} {ln : Bool} {s : List UInt8} {n : Nat} {M M' : Nat → Bool} (h : CL (stp L ln s n) L.length M M') (hM : ∀ a, a < L.length → (M a = true ↔ a = 0)) (h0 : 0 < L.length) : ∀ b, b < L.length → (M' b = true ↔ Rd L ln s n n b) := fun b hb => by
  refine (h b hb).trans ⟨?_, fun hr => ⟨0, h0, (hM 0 h0).2 rfl, rd_same hr⟩⟩
  rintro ⟨a, ha, hm, hr⟩
  obtain rfl := (hM a ha).1 hm
  exact .beg hr
def AF (L : List IN) (c : UInt8) (Mb : Nat → Bool) (k : Nat) (Ma : Nat → Bool) : Prop := ∀ j, j < L.length → (Ma j = true ↔ ∃ a x, a < k ∧ L[a]? = some x ∧ Mb a = true ∧ x.op = 1 ∧ x.st c.toNat = true ∧ j = a + 1)
theorem AF.start {L : List IN} {c : UInt8} {Mb Ma : Nat → Bool} (h : ∀ j, j < L.length → Ma j = false) : AF L c Mb 0 Ma := fun j hj => by
  rw [h j hj]
  exact ⟨(fun h => by cases h), fun ⟨a, x, ha, _⟩ => by omega⟩
theorem AF.hit {L : List IN} {c : UInt8} {Mb Ma : Nat → Bool} {k : Nat} {x : IN} (h : AF L c Mb k Ma) (hx : L[k]? = some x) (h1 : Mb k = true) (h2 : x.op = 1) (h3 : x.st c.toNat = true) : AF L c Mb (k + 1) (putM Ma (k + 1)) := fun j hj => by
  by_cases e : j = k + 1
  · subst e
    exact ⟨fun _ => ⟨k, x, by omega, hx, h1, h2, h3, rfl⟩, fun _ => by simp [putM]⟩
  · rw [show putM Ma (k + 1) j = Ma j by simp [putM, e], h j hj]
    constructor
    · rintro ⟨a, y, ha, r⟩; exact ⟨a, y, by omega, r⟩
    · rintro ⟨a, y, ha, hy, r1, r2, r3, r4⟩; exact ⟨a, y, by omega, hy, r1, r2, r3, r4⟩
theorem AF.miss {L : List IN} {c : UInt8} {Mb Ma : Nat → Bool} {k : Nat} {x : IN} (h : AF L c Mb k Ma) (hx : L[k]? = some x) (hn : ¬ (Mb k = true ∧ x.op = 1 ∧ x.st c.toNat = true)) : AF L c Mb (k + 1) Ma := fun j hj => by
  rw [h j hj]
  constructor
  · rintro ⟨a, y, ha, r⟩; exact ⟨a, y, by omega, r⟩
  · rintro ⟨a, y, ha, hy, r1, r2, r3, r4⟩
    by_cases e : a = k
    · subst e
      rw [hx] at hy
      cases hy
      exact absurd ⟨r1, r2, r3⟩ hn
    · exact ⟨a, y, by omega, hy, r1, r2, r3, r4⟩
theorem rd_step {L : List IN} {ln : Bool} {s : List UInt8} {n i : Nat} {c : UInt8} {Mb Ma M' : Nat → Bool} (hb : ∀ b, b < L.length → (Mb b = true ↔ Rd L ln s n i b)) (hn : n ≤ i) (hc : s[i]? = some c) (ha : AF L c Mb L.length Ma) (h : CL (stp L ln s (i + 1)) L.length Ma M') : ∀ b, b < L.length → (M' b = true ↔ Rd L ln s n (i + 1) b) := fun b hbl => by
  refine (h b hbl).trans ⟨?_, fun hr => ?_⟩
  · rintro ⟨j, hj, hm, hr⟩
    obtain ⟨a, x, hal, hx, h1, h2, h3, rfl⟩ := (ha j hj).1 hm
    exact .adv ((hb a hal).1 h1) hx h2 hc h3 hr
  · obtain ⟨a, x, c', h1, h2, h3, h4, h5, h6⟩ := hr.inv hn
    rw [hc] at h4
    cases h4
    have hal := (List.getElem?_eq_some_iff.1 h2).1
    by_cases e : a + 1 < L.length
    · exact ⟨a + 1, e, (ha (a + 1) e).2 ⟨a, x, hal, h2, (hb a hal).2 h1, h3, h5, rfl⟩, h6⟩
    · exfalso
      -- beyond the program nothing leads on
      have : ∀ y, Rch (stp L ln s (i + 1)) (a + 1) y → y = a + 1 := fun y hy => by
        induction hy with
        | refl => rfl
        | step _ hc ih =>
          subst ih
          unfold stp sucs at hc
          rw [List.getElem?_eq_none (by omega)] at hc
          simp at hc
      have := this b h6
      omega
theorem infoBo : (Tryd.prog.info? 4).map (fun i => (i.zero, i.size, i.bytes)) = some (some (.bool false), 1, 1) := by kernel_rfl
theorem one_made (z : Value) (n i : Nat) (hi : i < n) : (madeCells #[z] n)[i]? = some z := by
  rw [← Array.getElem?_toList, toList_madeCells_one, List.getElem?_replicate, if_pos hi]
theorem mb_made {w : World} {B n : Nat} {t : TypeId} (h : w.heap[B]? = some (.cells (madeCells #[.bool false] n) t (0, 0))) : MB w B n ∧ ∀ k, k < n → rdM w B k = false := by
  have hc : ∀ k, k < n → w.cell? ⟨B, k, none⟩ = some (.bool false) := fun k hk => by
    rw [cell_of_row w B k _ _ _ h, one_made _ n k hk]
  have hr : ∀ k, k < n → rdM w B k = false := fun k hk => by
    show isTrue (w.cell? ⟨B, k, none⟩) = false
    rw [hc k hk]
    rfl
  exact ⟨⟨(Array.getElem?_eq_some_iff.1 h).1, fun k hk => by rw [hr k hk]; exact hc k hk, fun k => frozen_of_row w B k _ _ h⟩, hr⟩
theorem put_first {w : World} {B n : Nat} (h : MB w B n) (h0 : ∀ k, k < n → rdM w B k = false) (hn : 0 < n) : ∀ a, a < n → (rdM (w.setCell ⟨B, 0, none⟩ (.bool true)) B a = true ↔ a = 0) := fun a ha => by
  rw [rdM_set h hn]
  by_cases e : a = 0
  · subst e; simp [putM]
  · simp [putM, e, h0 a ha]
end Go.Proofs.YtfgcnknmiclfnaaDoor
