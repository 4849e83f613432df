/- RsEndA, RsEnds. -/
import Derived.Test.YtfgcnknmiclfnaaDoorPb28
import Derived.Deep.RegionHeld3
set_option linter.unusedVariables false
set_option maxRecDepth 100000
set_option maxHeartbeats 8000000
namespace Go.Proofs.YtfgcnknmiclfnaaDoor
open Go.RowKit
def EI (L : List IN) (ln : Bool) (s : List UInt8) (n E last : Nat) (fd : Bool) : Prop :=
  (fd = true ∧ valL L = true ∧ last < E ∧ Mt L ln s n last ∧ ∀ e, e < E → Mt L ln s n e → e ≤ last) ∨ (fd = false ∧ last = 0 ∧ (valL L = true → ∀ e, e < E → ¬ Mt L ln s n e))
theorem EI.start (L : List IN) (ln : Bool) (s : List UInt8) (n : Nat) : EI L ln s n n 0 false :=
  .inr ⟨rfl, rfl, fun _ e he hm => by have := hm.le; omega⟩
def EJ (L : List IN) (zs : List Nat) (E last0 : Nat) (fd0 : Bool) (j last : Nat) (fd : Bool) : Prop :=
  (fd = true ∧ last = E ∧ ∃ i b, i < j ∧ zs[i]? = some b ∧ opAt L b 6 = true) ∨ (fd = fd0 ∧ last = last0 ∧ ∀ i b, i < j → zs[i]? = some b → opAt L b 6 = false)
theorem EJ.start (L : List IN) (zs : List Nat) (E last0 : Nat) (fd0 : Bool) : EJ L zs E last0 fd0 0 last0 fd0 := .inr ⟨rfl, rfl, fun i b h => by omega⟩
theorem EJ.hit {L : List IN} {zs : List Nat} {E last0 : Nat} {fd0 : Bool} {j b : Nat} (hb : zs[j]? = some b) (ho : opAt L b 6 = true) : EJ L zs E last0 fd0 (j + 1) E true := .inl ⟨rfl, rfl, j, b, by omega, hb, ho⟩
theorem EJ.miss {L : List IN} {zs : List Nat} {E last0 : Nat} {fd0 : Bool} {j last b : Nat} {fd : Bool} (h : EJ L zs E last0 fd0 j last fd) (hb : zs[j]? = some b) (ho : opAt L b 6 = false) : EJ L zs E last0 fd0 (j + 1) last fd := by
  rcases h with ⟨h1, h2, i, c, h3, h4, h5⟩ | ⟨h1, h2, h3⟩
  · exact .inl ⟨h1, h2, i, c, by omega, h4, h5⟩
  · refine .inr ⟨h1, h2, fun i c hi hc => ?_⟩
    by_cases e : i = j
    · subst e; rw [hb] at hc; cases hc; exact ho
    · exact h3 i c (by omega) hc
theorem EJ.done {L : List IN} {ln : Bool} {s : List UInt8} {zs : List Nat} {n E last0 last : Nat} {fd0 fd : Bool} (h : EJ L zs E last0 fd0 zs.length last fd) (hT : TSpec L ln s (n : Int) (E : Int) zs) (h0 : EI L ln s n E last0 fd0) : EI L ln s n (E + 1) last fd := by
  rcases h with ⟨rfl, rfl, i, b, h3, h4, h5⟩ | ⟨rfl, rfl, h3⟩
  · obtain ⟨hv, n', m', e1, e2, h6, h7, h8, h9⟩ := (hT.2 b).1 (List.mem_iff_getElem?.2 ⟨i, h4⟩)
    obtain rfl : n = n' := by omega
    obtain rfl : last = m' := by omega
    exact .inl ⟨rfl, hv, by omega, ⟨h7, b, h5, h9⟩, fun e he _ => by omega⟩
  · have hno : valL L = true → ¬ Mt L ln s n E := fun hv hm => by
      obtain ⟨h6, b, h7, h8⟩ := hm
      obtain ⟨i, hi⟩ := List.mem_iff_getElem?.1 ((hT.2 b).2 ⟨hv, n, E, rfl, rfl, h8.le, h6, op6_trm h7, h8⟩)
      have := h3 i b (List.getElem?_eq_some_iff.1 hi).1 hi
      rw [h7] at this
      cases this
    rcases h0 with ⟨rfl, hv, h5, h6, h7⟩ | ⟨rfl, rfl, h6⟩
    · refine .inl ⟨rfl, hv, by omega, h6, fun e he hm => ?_⟩
      by_cases e1 : e = E
      · subst e1; exact absurd hm (hno hv)
      · exact h7 e (by omega) hm
    · refine .inr ⟨rfl, rfl, fun hv e he hm => ?_⟩
      by_cases e1 : e = E
      · subst e1; exact hno hv hm
      · exact h6 hv e (by omega) hm
theorem EI.done {L : List IN} {ln : Bool} {s : List UInt8} {n last te : Nat} {fd ok : Bool} (h : EI L ln s n (s.length + 1) last fd) (hl : LSpec L ln s (n : Int) te ok) : ok = fd ∧ te = last := by
  rcases h with ⟨rfl, hv, h5, h6, h7⟩ | ⟨rfl, rfl, h6⟩
  · rcases hl with ⟨rfl, _, n', e1, l1, l2⟩ | ⟨rfl, rfl, l1⟩
    · obtain rfl : n = n' := by omega
      have a := h7 te (by have := l1.1; omega) l1
      have b := l2 last h6
      exact ⟨rfl, by omega⟩
    · exact absurd h6 (l1 hv n rfl last)
  · rcases hl with ⟨rfl, hv, n', e1, l1, l2⟩ | ⟨rfl, rfl, l1⟩
    · obtain rfl : n = n' := by omega
      exact absurd l1 (h6 hv te (by have := l1.1; omega))
    · exact ⟨rfl, rfl⟩
theorem ts_lt {L : List IN} {ln : Bool} {s : List UInt8} {a c : Int} {zs : List Nat} (h : TSpec L ln s a c zs) {b : Nat} (hb : b ∈ zs) : b < L.length := by
  have h1 := (h.2 b).1 hb
  obtain ⟨_, _, _, _, _, _, _, h2, _⟩ := h1
  unfold trm at h2
  cases e : L[b]? with
  | none => rw [e] at h2; cases h2
  | some x => exact (List.getElem?_eq_some_iff.1 e).1
theorem rows_after {w0 : World} {n : Nat} {L : List IN} {ad : Option Addr} {cap : Nat} (h : PI w0 n L (.slice ad L.length cap)) (h1 : 1 ≤ L.length) : ∃ b i0, ad = some ⟨b, i0, none⟩ ∧ b < w0.heap.size ∧ ∀ (k : Nat) (hk : k < L.length) (W : World), Below w0.heap.size w0 W → ∀ j u, (rowI (L[k]'hk))[j]? = some u → j < 7 → W.cell? ⟨b, i0 + k * 7 + j, none⟩ = some u := by
  obtain ⟨ad2, cap2, e2, _, h2⟩ := h
  cases e2
  rcases h2 with h2 | ⟨b, i, e1, _, e3, e4⟩
  · omega
  · exact ⟨b, i, e1, e3, fun k hk W hW j u hu hj => by rw [hW.cell (p := ⟨b, i + k * 7 + j, none⟩) e3, e4 k hk j hj, hu]⟩
theorem sorted_len : ∀ (zs : List Nat) (lo m : Nat), zs.Pairwise (· < ·) → (∀ z ∈ zs, lo ≤ z ∧ z < m) → zs.length ≤ m - lo
  | [], _, _, _, _ => Nat.zero_le _
  | z :: r, lo, m, hp, hm => by
    have h1 := List.pairwise_cons.1 hp
    have h2 := sorted_len r (z + 1) m h1.2 (fun y hy => ⟨h1.1 y hy, (hm y (List.mem_cons_of_mem _ hy)).2⟩)
    have h3 := hm z List.mem_cons_self
    simp only [List.length_cons]
    omega
theorem ts_len {L : List IN} {ln : Bool} {s : List UInt8} {a c : Int} {zs : List Nat} (h : TSpec L ln s a c zs) : zs.length ≤ L.length :=
  sorted_len zs 0 L.length h.1 (fun z hz => ⟨Nat.zero_le _, ts_lt h hz⟩)
theorem few_any (L : List IN) (pv : Value) (n0 : Nat) (ln : Bool) (sv : ByteArray) (w : World) (hp : PI w n0 L pv) :
    Calls Tryd.prog 8 #[.agg #[pv, .bool ln], .string sv] w fun e w' => e = .returned (.bool (decide (L.length ≤ 60) && decide (sv.size ≤ 24))) ∧ Below w.heap.size w w' := by
  obtain ⟨ad, cap, rfl, hcap, hcells⟩ := hp
  have hb := (Below.refl w.heap.size w).alloc (Nat.le_refl _) (.cells #[.slice ad L.length cap, .bool ln] 24)
  have hbx := heap_alloc_new w (.cells #[.slice ad L.length cap, .bool ln] 24)
  obtain ⟨W, hW⟩ : ∃ W, W = w.alloc (.cells #[.slice ad L.length cap, .bool ln] 24) := ⟨_, rfl⟩
  rw [← hW] at hb hbx
  have q0 := cell_of_row W w.heap.size 0 _ _ _ hbx
  have hlW : w.heap.size < W.heap.size := (Array.getElem?_eq_some_iff.1 hbx).1
  have HB := Lib.hid hb
  have HW := Lib.hid hW
  clear hb hbx hW hcells
  by_cases h1 : L.length ≤ 60
  · have i1 : (L.length : Int) ≤ 60 := by omega
    have HE : Hid ((decide (L.length ≤ 60) && decide (sv.size ≤ 24)) = decide (sv.size ≤ 24)) := Lib.hid (by simp [h1])
    clear h1
    by_cases h2 : sv.size ≤ 24
    · have i2 : (sv.size : Int) ≤ 24 := by omega
      have HE2 : Hid ((decide (L.length ≤ 60) && decide (sv.size ≤ 24)) = true) := Lib.hid (by rw [HE.out]; simp [h2])
      clear h2
      go_enter Tryd.func8, Tryd.ntmps8
      go_upto_region 1 with fail
      rw [← HW.out]
      go_wp2_with fail
      go_ret
      exact ⟨by rw [HE2.out]; rfl, HB.out⟩
    · have i2 : ¬ ((sv.size : Int) ≤ 24) := by omega
      have HE2 : Hid ((decide (L.length ≤ 60) && decide (sv.size ≤ 24)) = false) := Lib.hid (by rw [HE.out]; simp; omega)
      clear h2
      go_enter Tryd.func8, Tryd.ntmps8
      go_upto_region 1 with fail
      rw [← HW.out]
      go_wp2_with fail
      go_ret
      exact ⟨by rw [HE2.out]; rfl, HB.out⟩
  · have i1 : ¬ ((L.length : Int) ≤ 60) := by omega
    have HE2 : Hid ((decide (L.length ≤ 60) && decide (sv.size ≤ 24)) = false) := Lib.hid (by simp; omega)
    clear h1
    go_enter Tryd.func8, Tryd.ntmps8
    go_upto_region 1 with fail
    rw [← HW.out]
    go_wp2_with fail
    go_ret
    exact ⟨by rw [HE2.out]; rfl, HB.out⟩
end Go.Proofs.YtfgcnknmiclfnaaDoor
set_option linter.unusedVariables false
set_option linter.unusedSimpArgs false
set_option maxRecDepth 100000
set_option maxHeartbeats 8000000
namespace Go.Proofs.YtfgcnknmiclfnaaDoor
open Go.RowKit
theorem ends_law (L : List IN) (pv : Value) (ln : Bool) (sv : ByteArray) (a : Int) (w : World) (hp : PI w 0 L pv) (hK : KT w) : Calls Tryd.prog 5 #[.agg #[pv, .bool ln], .string sv, .int .i64 a] w fun e w' => e = .returned (.bool true) ∧ Below w.heap.size w w' := by
  obtain ⟨ad, cap, rfl⟩ := hp.form
  obtain ⟨R, hR⟩ : ∃ R, w.heap.size = R := ⟨_, rfl⟩
  have hb := (Below.refl w.heap.size w).alloc (Nat.le_refl _) (.cells #[.slice ad L.length cap, .bool ln] 24)
  have hbx := heap_alloc_new w (.cells #[.slice ad L.length cap, .bool ln] 24)
  obtain ⟨W, hW⟩ : ∃ W, W = w.alloc (.cells #[.slice ad L.length cap, .bool ln] 24) := ⟨_, rfl⟩
  rw [← hW] at hb hbx
  rw [hR] at hbx
  have q0 := cell_of_row W R 0 _ _ _ hbx
  have q1 := cell_of_row W R 1 _ _ _ hbx
  have hlW : R < W.heap.size := (Array.getElem?_eq_some_iff.1 hbx).1
  have HX := Lib.hid hbx
  have HB := Lib.hid hb
  have HW := Lib.hid hW
  have HP := Lib.hid (hp.below hb)
  have HK := Lib.hid (hK.below hb)
  have HAw := Lib.hid (fun W h => awake11 W h)
  have HF := Lib.hid (few_any L (.slice ad L.length cap) 0 ln sv W (hp.below hb))
  obtain ⟨f, hf⟩ : ∃ f, (decide (L.length ≤ 60) && decide (sv.size ≤ 24)) = f := ⟨_, rfl⟩
  rw [hf] at HF
  cases f with
  | false =>
    clear hb hbx hW hp hK hf
    go_enter Tryd.func5, Tryd.ntmps5
    go_upto_region 1 with fail
    rw [← HW.out]
    go_wp2_with (first
      | (go_at_call 8; (with_reducible refine HF.out.mono ?_); rintro e w4 ⟨rfl, hb4⟩
         have HB4 := Lib.hid hb4
         clear hb4 q0 q1)
      | (go_at_call 9; (with_reducible refine (HAw.out _ (HK.out.below HB4.out)).mono ?_); rintro e w9 ⟨rfl, hb9⟩; have HB9 := Lib.hid hb9; clear hb9))
    go_ret
    exact ⟨rfl, HB.out.trans ((HB4.out.trans (HB9.out.mono HB4.out.size)).mono HB.out.size)⟩
  | true =>
  rw [Bool.and_eq_true] at hf
  have h60 : L.length ≤ 60 := of_decide_eq_true hf.1
  have h24 : sv.size ≤ 24 := of_decide_eq_true hf.2
  have hsI : (sv.size : Int) ≤ 24 := by omega
  have hLI : (L.length : Int) ≤ 60 := by omega
  clear hb hbx hW hp hK hf
  by_cases ha : a < 0
  · go_enter Tryd.func5, Tryd.ntmps5
    go_upto_region 1 with fail
    rw [← HW.out]
    go_wp2_with (first
      | (go_at_call 8; (with_reducible refine HF.out.mono ?_); rintro e w4 ⟨rfl, hb4⟩
         have HB4 := Lib.hid hb4
         clear hb4 q0 q1)
      | (go_at_call 9; (with_reducible refine (HAw.out _ (HK.out.below HB4.out)).mono ?_); rintro e w9 ⟨rfl, hb9⟩; have HB9 := Lib.hid hb9; clear hb9))
    go_ret
    exact ⟨rfl, HB.out.trans ((HB4.out.trans (HB9.out.mono HB4.out.size)).mono HB.out.size)⟩
  by_cases hc : (sv.size : Int) < a
  · go_enter Tryd.func5, Tryd.ntmps5
    go_upto_region 1 with fail
    rw [← HW.out]
    go_wp2_with (first
      | (go_at_call 8; (with_reducible refine HF.out.mono ?_); rintro e w4 ⟨rfl, hb4⟩
         have HB4 := Lib.hid hb4
         clear hb4 q0 q1)
      | (go_at_call 9; (with_reducible refine (HAw.out _ (HK.out.below HB4.out)).mono ?_); rintro e w9 ⟨rfl, hb9⟩; have HB9 := Lib.hid hb9; clear hb9))
    go_ret
    exact ⟨rfl, HB.out.trans ((HB4.out.trans (HB9.out.mono HB4.out.size)).mono HB.out.size)⟩
  obtain ⟨n, rfl⟩ : ∃ n : Nat, a = (n : Int) := ⟨a.toNat, by omega⟩
  have hn : n ≤ sv.size := by omega
  have HTh := Lib.hid (fun (E : Nat) (W : World) hp hk => threads_any L (.slice ad L.length cap) 0 ln sv (n : Int) (E : Int) W hp hk (by omega))
  have HL := Lib.hid (fun (W : World) hp hk => longestx_any L (.slice ad L.length cap) 0 ln sv (n : Int) W hp hk (by omega))
  have hn0 : (0 : Int) ≤ (n : Int) := by omega
  have HLen : Hid (sv.data.toList.length = sv.size) := Lib.hid (lb_len sv)
  have H60 := Lib.hid h60
  clear ha h60 h24
  go_enter Tryd.func5, Tryd.ntmps5
  go_upto_region 1 with fail
  rw [← HW.out]
  go_wp2_with (first
    | (go_at_call 8; (with_reducible refine HF.out.mono ?_); rintro e w4 ⟨rfl, hb4⟩
       have HB4 := Lib.hid hb4
       clear hb4 q0 q1))
  go_loopw [7, 8, 9] (fun x y z wr => ∃ (E last : Nat) (fd : Bool), n ≤ E ∧ E ≤ sv.size + 1 ∧ x = .int .i64 last ∧ y = .bool fd ∧ z = .int .i64 E ∧ Hid (EI L ln sv.data.toList n E last fd ∧ Below W.heap.size W wr)) (fun _ _ z _ => sv.size + 1 - (intOf z).toNat)
  case atStart => exact ⟨n, 0, false, Nat.le_refl _, by omega, rfl, rfl, rfl, Lib.hid ⟨EI.start _ _ _ _, HB4.out⟩⟩
  case round =>
    obtain ⟨E, last, fd, hnE, hE, rfl, rfl, rfl, HR⟩ := hrel
    rename World => wA
    have hx := (HR.out.2.block R hlW).trans HX.out
    have q0 := cell_of_row wA R 0 _ _ _ hx
    have q1 := cell_of_row wA R 1 _ _ _ hx
    clear hx
    by_cases hgo : E ≤ sv.size
    · have i1 : (E : Int) ≤ (sv.size : Int) := by omega
      go_wp2_with (first
        | (go_at_call 13; (with_reducible refine (HTh.out E _ (HP.out.below HR.out.2) (HK.out.below HR.out.2)).mono ?_); rintro e w5 ⟨⟨v, zs, rfl, ⟨zad, zcap, rfl, hz⟩, hts⟩, hb5⟩
           have HZ := Lib.hid hz
           have HT := Lib.hid hts
           have HB5 := Lib.hid hb5
           clear hz hts hb5 q0 q1))
      have hzI : (zs.length : Int) ≤ 60 := by have := ts_len HT.out; omega
      go_loopw [7, 8, 42] (fun x y z wr => ∃ (k last1 : Nat) (fd1 : Bool), k ≤ zs.length ∧ x = .int .i64 last1 ∧ y = .bool fd1 ∧ z = .int .i64 k ∧ Hid (EJ L zs E last fd k last1 fd1 ∧ Below w5.heap.size w5 wr)) (fun _ _ z _ => zs.length - (intOf z).toNat)
      case atStart => exact ⟨0, last, fd, Nat.zero_le _, rfl, rfl, rfl, Lib.hid ⟨EJ.start _ _ _ _ _, Below.refl _ _⟩⟩
      case round =>
        obtain ⟨k, last1, fd1, hk, rfl, rfl, rfl, HJ⟩ := hrel
        rename World => wB
        have HBB : Hid (Below W.heap.size W wB) := Lib.hid (HR.out.2.trans ((HB5.out.trans (HJ.out.2.mono HB5.out.size)).mono HR.out.2.size))
        have hx := (HBB.out.block R hlW).trans HX.out
        have q0 := cell_of_row wB R 0 _ _ _ hx
        have q1 := cell_of_row wB R 1 _ _ _ hx
        clear hx
        by_cases hkn : k < zs.length
        · have ki : (k : Int) < (zs.length : Int) := by omega
          have ki0 : (0 : Int) ≤ (k : Int) := by omega
          obtain ⟨b, hb⟩ : ∃ b, b = zs[k] := ⟨_, rfl⟩
          have hbs : zs[k]? = some b := by rw [hb]; exact List.getElem?_eq_getElem hkn
          have hbL : b < L.length := ts_lt HT.out (by rw [hb]; exact List.getElem_mem _)
          rcases HZ.out with h0 | ⟨zb, zoff, rfl, hz0, hzl, hzc⟩
          · omega
          have z0 := (HJ.out.2.cell (p := ⟨zb, zoff + k, none⟩) hzl).trans (hzc k hkn)
          rw [← hb] at z0
          obtain ⟨pb, pi, rfl, hpl, hrow⟩ := rows_after HP.out (by omega)
          obtain ⟨x, hx⟩ : ∃ x, x = L[b] := ⟨_, rfl⟩
          have l0 : wB.cell? ⟨pb, pi + b * 7, none⟩ = some (.int .i64 x.op) := by rw [hx]; exact hrow b hbL wB HBB.out 0 _ rfl (by decide)
          have hzb : zb < wB.heap.size := Nat.lt_of_lt_of_le hzl HJ.out.2.size
          have hpb : pb < wB.heap.size := Nat.lt_of_lt_of_le hpl HBB.out.size
          have hop : opAt L b 6 = decide (x.op = 6) := by unfold opAt; rw [List.getElem?_eq_getElem hbL, ← hx]
          have j1 : ¬ ((b : Int) < 0) := by omega
          have j2 : ¬ ((L.length : Int) ≤ (b : Int)) := by omega
          have j3 : (0 : Int) ≤ (b : Int) := by omega
          have j4 : (b : Int) < (L.length : Int) := by omega
          have HBs := Lib.hid hbs
          have HOp := Lib.hid hop
          clear hb hbs hzc hrow hx hop
          by_cases h6 : x.op = 6
          · have g6 : (x.op == (6 : Int)) = true := by simp [h6]
            have HO : Hid (opAt L b 6 = true) := Lib.hid (by rw [HOp.out]; simp [h6])
            go_wp2_with fail
            go_roundw
            case rel => exact ⟨k + 1, E, true, by omega, rfl, rfl, by go_num, Lib.hid ⟨EJ.hit HBs.out HO.out, HJ.out.2⟩⟩
            case measure => simp [intOf]; omega
          · have g6 : (x.op == (6 : Int)) = false := by simp [h6]
            have HO : Hid (opAt L b 6 = false) := Lib.hid (by rw [HOp.out]; simp [h6])
            go_wp2_with fail
            go_roundw
            case rel => exact ⟨k + 1, last1, fd1, by omega, rfl, rfl, by go_num, Lib.hid ⟨HJ.out.1.miss HBs.out HO.out, HJ.out.2⟩⟩
            case measure => simp [intOf]; omega
        · obtain rfl : k = zs.length := by omega
          have HD := Lib.hid (HJ.out.1.done HT.out HR.out.1)
          clear hkn q0 q1
          go_wp2_with fail
          go_roundw
          case rel => exact ⟨E + 1, last1, fd1, by omega, by omega, rfl, rfl, by go_num, Lib.hid ⟨HD.out, HBB.out⟩⟩
          case measure => simp [intOf]; omega
    · obtain rfl : E = sv.size + 1 := by omega
      have i1 : ¬ (((sv.size + 1 : Nat) : Int) ≤ (sv.size : Int)) := by omega
      go_upto_region 17 with (first
        | (go_at_call 15; (with_reducible refine (HL.out _ (HP.out.below HR.out.2) (HK.out.below HR.out.2)).mono ?_); rintro e w5 ⟨⟨te, ok, rfl, hl5⟩, hb5⟩
           have HS5 := Lib.hid hl5
           have HB5 : Hid (Below W.heap.size W w5) := Lib.hid (HR.out.2.trans (hb5.mono HR.out.2.size))
           clear hl5 hb5 q0 q1))
      obtain ⟨rfl, rfl⟩ := EI.done (by rw [HLen.out]; exact HR.out.1) HS5.out
      cases ok with
      | true =>
        go_wp2_with (first
          | (go_at_call 9; (with_reducible refine (HAw.out _ (HK.out.below HB5.out)).mono ?_); rintro e w9 ⟨rfl, hb9⟩; have HB9 := Lib.hid hb9; clear hb9))
        go_ret
        exact ⟨rfl, HB.out.trans ((HB5.out.trans (HB9.out.mono HB5.out.size)).mono HB.out.size)⟩
      | false =>
        go_wp2_with (first
          | (go_at_call 9; (with_reducible refine (HAw.out _ (HK.out.below HB5.out)).mono ?_); rintro e w9 ⟨rfl, hb9⟩; have HB9 := Lib.hid hb9; clear hb9))
        go_ret
        exact ⟨rfl, HB.out.trans ((HB5.out.trans (HB9.out.mono HB5.out.size)).mono HB.out.size)⟩
end Go.Proofs.YtfgcnknmiclfnaaDoor
