/- RpTxL, RpLen. -/
import Derived.Test.YtbjobbkipmkndaaDoorPp22
import Derived.Test.YtbjobbkipmkndaaDoorPp25
import Derived.Test.YtbjobbkipmkndaaDoorPp14
set_option linter.unusedVariables false
set_option linter.unusedSimpArgs false
set_option maxRecDepth 100000
set_option maxHeartbeats 8000000
namespace Go.Proofs.YtbjobbkipmkndaaDoor
open Go.RowKit
theorem line_any (o : Int) (st : Nat → Bool) (x y : Int) (hf : fits x ∧ fits y) (hk : kok o = true) (w : World) : Calls Tryd.prog 25 #[.agg #[.int .i64 o, .int .u64 (wd st 0 64 : Nat), .int .u64 (wd st 64 64 : Nat), .int .u64 (wd st 128 64 : Nat), .int .u64 (wd st 192 64 : Nat), .int .i64 x, .int .i64 y]] w fun e w' => e = .returned (.string (bs (lineT ⟨o, st, x, y⟩))) ∧ Below w.heap.size w w' := by
  have hb := (Below.refl w.heap.size w).alloc (Nat.le_refl _) (.cells #[.int .i64 o, .int .u64 (wd st 0 64 : Nat), .int .u64 (wd st 64 64 : Nat), .int .u64 (wd st 128 64 : Nat), .int .u64 (wd st 192 64 : Nat), .int .i64 x, .int .i64 y] 39)
  have hbx := heap_alloc_new w (.cells #[.int .i64 o, .int .u64 (wd st 0 64 : Nat), .int .u64 (wd st 64 64 : Nat), .int .u64 (wd st 128 64 : Nat), .int .u64 (wd st 192 64 : Nat), .int .i64 x, .int .i64 y] 39)
  have HB := Lib.hid hb
  have HBx := Lib.hid hbx
  have ho : o = 1 ∨ o = 2 ∨ o = 3 ∨ o = 4 ∨ o = 5 ∨ o = 6 := by
    unfold kok at hk
    simp only [Bool.and_eq_true, decide_eq_true_eq] at hk
    omega
  have HF1 := Lib.hid (fun W => rfmt_any x W hf.1)
  have HF2 := Lib.hid (fun W => rfmt_any y W hf.2)
  have hN1 : (fmtS x) = bs (nt x) := rfl
  have hN2 : (fmtS y) = bs (nt y) := rfl
  have hz1 : (fmtS x).size ≤ 40 := nt_len x hf.1.1 hf.1.2
  have hz2 : (fmtS y).size ≤ 40 := nt_len y hf.2.1 hf.2.2
  generalize fmtS x = s1 at *
  generalize fmtS y = s2 at *
  have HN1 := Lib.hid hN1
  have HN2 := Lib.hid hN2
  clear hk hf hN1 hN2
  rcases ho with rfl | rfl | rfl | rfl | rfl | rfl
  · have HR := Lib.hid (fun W => ranges_any st W)
    have hR : bs (lineT ⟨1, st, x, y⟩) = (⟨#[115, 101, 116]⟩ : ByteArray) ++ bs (rgs st 256) := by
      have : lineT ⟨1, st, x, y⟩ = [115, 101, 116] ++ rgs st 256 := rfl
      rw [this, bs_app]
      rfl
    have HR2 := Lib.hid hR
    have hs : (bs (rgs st 256)).size ≤ 21000 := by rw [bs_size]; have := rgs_len st 256 (Nat.le_refl _); omega
    generalize bs (rgs st 256) = S at *
    unfold cs cl at HR
    obtain ⟨⟨a0, a1, a2⟩, ⟨a3, a4⟩, a5, a6⟩ := seven hbx
    clear hb hbx hR
    go_enter Tryd.func25, Tryd.ntmps25
    go_wp2_with (first
      | (go_at_call 35; (with_reducible refine (HR.out _).mono ?_); rintro e0 w1 ⟨rfl, hb⟩; have HB1 := Lib.hid (HB.out.trans (hb.mono HB.out.size)); clear hb))
    go_ret
    exact ⟨by rw [HR2.out]; rfl, HB1.out⟩
  · have HR2 : Hid (bs (lineT ⟨2, st, x, y⟩) = (((⟨#[115, 112, 108, 105, 116, 32]⟩ : ByteArray) ++ s1) ++ ⟨#[32]⟩) ++ s2) := Lib.hid (by
      rw [HN1.out, HN2.out]
      have : lineT ⟨2, st, x, y⟩ = [115, 112, 108, 105, 116] ++ ((32 :: nt x) ++ ((32 :: nt y) ++ [])) := rfl
      rw [this]
      apply ByteArray.ext
      simp [bs])
    obtain ⟨W, hW⟩ : ∃ W, W = w.alloc (.cells #[.int .i64 2, .int .u64 (wd st 0 64 : Nat), .int .u64 (wd st 64 64 : Nat), .int .u64 (wd st 128 64 : Nat), .int .u64 (wd st 192 64 : Nat), .int .i64 x, .int .i64 y] 39) := ⟨_, rfl⟩
    rw [← hW] at hb hbx HB HBx
    have HW := Lib.hid hW
    have hl : w.heap.size < W.heap.size := (Array.getElem?_eq_some_iff.1 hbx).1
    obtain ⟨⟨a0, a1, a2⟩, ⟨a3, a4⟩, a5, a6⟩ := seven hbx
    clear hb hbx hW
    go_enter Tryd.func25, Tryd.ntmps25
    go_upto_region 1 with fail
    rw [← HW.out]
    go_upto_region 5 with fail
    have g1 : ¬ 9223372036854775807 < 6 + s1.size := by omega
    have g2 : ¬ 9223372036854775807 < 6 + s1.size + 1 := by omega
    have g3 : ¬ 9223372036854775807 < 6 + s1.size + 1 + s2.size := by omega
    go_region_law
      (first
        | (go_simp; go_at_call 24; (with_reducible refine (HF1.out _).mono ?_); rintro e0 w1 ⟨rfl, hb⟩
           have HB1 : Hid (Below W.heap.size W w1) := Lib.hid ((Below.refl _ _).drew.trans hb)
           have hx1 := (HB1.out.block w.heap.size hl).trans HBx.out
           have b5 := cell_of_row w1 w.heap.size 5 _ _ _ hx1
           have b6 := cell_of_row w1 w.heap.size 6 _ _ _ hx1
           have hl1 : w.heap.size < w1.heap.size := (Array.getElem?_eq_some_iff.1 hx1).1
           clear hb hx1)
        | (go_simp; go_at_call 24; (with_reducible refine (HF2.out _).mono ?_); rintro e0 w2 ⟨rfl, hb⟩
           have HB2 : Hid (Below W.heap.size W w2) := Lib.hid (HB1.out.trans (hb.mono HB1.out.size))
           clear hb))
    all_goals
      go_wp2_with fail
      go_ret
      exact ⟨by rw [HR2.out]; rfl, HB.out.trans (HB2.out.mono HB.out.size)⟩
  · have HR2 : Hid (bs (lineT ⟨3, st, x, y⟩) = (⟨#[106, 117, 109, 112, 32]⟩ : ByteArray) ++ s1) := Lib.hid (by
      rw [HN1.out]
      have : lineT ⟨3, st, x, y⟩ = [106, 117, 109, 112] ++ ((32 :: nt x) ++ []) := rfl
      rw [this]
      apply ByteArray.ext
      simp [bs])
    obtain ⟨⟨a0, a1, a2⟩, ⟨a3, a4⟩, a5, a6⟩ := seven hbx
    clear hb hbx
    go_enter Tryd.func25, Tryd.ntmps25
    go_wp2_with (first
      | (go_at_call 24; (with_reducible refine (HF1.out _).mono ?_); rintro e0 w1 ⟨rfl, hb⟩; have HB1 := Lib.hid (HB.out.trans (hb.mono HB.out.size)); clear hb))
    go_ret
    exact ⟨by rw [HR2.out]; rfl, HB1.out⟩
  all_goals
    clear hb hbx
    go_enter Tryd.func25, Tryd.ntmps25
    go_wp2_with fail
    go_ret
    exact ⟨rfl, HB.out⟩
theorem vR_kok (n : Nat) : ∀ (L : List IN) (k : Nat) (hk : k < L.length), vR n L = true → kok (L[k]).op = true
  | [], _, h, _ => by cases h
  | i :: r, 0, _, h => by
    have h : (vOk n r.isEmpty i && vR n r) = true := h
    simp only [Bool.and_eq_true] at h
    have h1 := h.1
    unfold vOk at h1
    simp only [Bool.and_eq_true] at h1
    exact h1.1
  | i :: r, k + 1, hk, h => by
    have h : (vOk n r.isEmpty i && vR n r) = true := h
    simp only [Bool.and_eq_true] at h
    exact vR_kok n r k (by have : k + 1 < r.length + 1 := hk; omega) h.2
theorem rprint_any (L : List IN) (v : Value) (n0 : Nat) (ln : Bool) (w : World) (h : PI w n0 L v) (hL : L.length ≤ 9223372036854775807) (hf : ∀ i ∈ L, fits i.x ∧ fits i.y) : Calls Tryd.prog 11 #[.agg #[v, .bool ln]] w fun e w' => e = .returned (.string (bs (prT ln L))) ∧ Below w.heap.size w w' := by
  have hform := h.form
  obtain ⟨ad, cap, rfl⟩ := hform
  have hb := (Below.refl w.heap.size w).alloc (Nat.le_refl _) (.cells #[.slice ad L.length cap, .bool ln] 24)
  have hbx := heap_alloc_new w (.cells #[.slice ad L.length cap, .bool ln] 24)
  obtain ⟨W, hW⟩ : ∃ W, W = w.alloc (.cells #[.slice ad L.length cap, .bool ln] 24) := ⟨_, rfl⟩
  rw [← hW] at hb hbx
  have HW := Lib.hid hW
  have HB := Lib.hid hb
  have HBx := Lib.hid hbx
  have hP := h.below hb
  have HP := Lib.hid hP
  have HV := Lib.hid (rvalid_any L (.slice ad L.length cap) n0 ln W hP hL)
  have HF := Lib.hid hf
  have b0 := cell_of_row W w.heap.size 0 _ _ _ hbx
  have b1 := cell_of_row W w.heap.size 1 _ _ _ hbx
  have hlw : w.heap.size < W.heap.size := (Array.getElem?_eq_some_iff.1 hbx).1
  clear h hb hbx hW hP hf hL
  go_enter Tryd.func11, Tryd.ntmps11
  go_upto_region 1 with fail
  rw [← HW.out]
  cases hval : valL L
  · have hpr : Hid (prT ln L = []) := Lib.hid (by unfold prT; rw [hval]; rfl)
    rw [hval] at HV
    clear hval
    go_wp2_with (first
      | (go_at_call 9; (with_reducible refine HV.out.mono ?_); rintro e w1 ⟨rfl, hb⟩; have HB1 := Lib.hid (HB.out.trans (hb.mono HB.out.size)); clear hb b0 b1))
    go_ret
    exact ⟨by rw [hpr.out]; rfl, HB1.out⟩
  · obtain ⟨lb, hlb⟩ : ∃ lb, lb = ln := ⟨_, rfl⟩
    have HLb := Lib.hid hlb
    have hpr : Hid (prT ln L = headT lb ++ linesT L L.length) := Lib.hid (by rw [hlb]; unfold prT; rw [hval]; rfl)
    clear hlb
    rw [hval] at HV
    have h4 : 1 ≤ L.length ∧ L.length ≤ 4096 ∧ vR L.length L = true := by
      unfold valL at hval
      simp only [Bool.and_eq_true, decide_eq_true_eq] at hval
      exact ⟨hval.1, hval.2.1, hval.2.2⟩
    have HLL := Lib.hid (linesT_len L HF.out h4.2.1)
    have HKo := Lib.hid (fun k hk => vR_kok L.length L k hk h4.2.2)
    have hL4 : L.length ≤ 4096 := h4.2.1
    have hL1 : 1 ≤ L.length := h4.1
    have hL4I : (L.length : Int) ≤ 4096 := by omega
    have HHL := Lib.hid (headT_len lb)
    obtain ⟨b, i0, rfl, hbl, hce⟩ : ∃ b i, ad = some ⟨b, i, none⟩ ∧ b < W.heap.size ∧ ∀ (k : Nat) (hk : k < L.length) (j : Nat), j < 7 → W.cell? ⟨b, i + k * 7 + j, none⟩ = (rowI (L[k]'hk))[j]? := by
      obtain ⟨ad2, cap2, e2, _, h1⟩ := HP.out
      cases e2
      rcases h1 with h1 | ⟨b, i, e1, _, e2, e3⟩
      · omega
      · exact ⟨b, i, e1, e2, e3⟩
    have HCe := Lib.hid (And.intro hbl hce)
    clear hval h4 hbl hce
    have hL0 : (0 : Int) < (L.length : Int) := by omega
    have hh0 : (bs (headT lb)).size ≤ 90000000 := by rw [bs_size]; have := HHL.out; omega
    have HH0 : Hid (bs (headT lb) = bs (headT lb ++ linesT L 0)) := Lib.hid (by simp [linesT])
    have HH1 : Hid (bs (headT lb) = bs (headT ln)) := Lib.hid (by rw [HLb.out])
    cases ln
    all_goals
      go_upto_region 6 with (first
        | (go_at_call 9; (with_reducible refine HV.out.mono ?_); rintro e w1 ⟨rfl, hb⟩; have HB1 := Lib.hid hb; have hr1 := (hb.block w.heap.size hlw).trans HBx.out; clear b0 b1; have b0 := cell_of_row w1 w.heap.size 0 _ _ _ hr1; have b1 := cell_of_row w1 w.heap.size 1 _ _ _ hr1; have hl1 : w.heap.size < w1.heap.size := (Array.getElem?_eq_some_iff.1 hr1).1; clear hb hr1))
      go_wp2_with fail
      go_loopw [3, 4] (fun sv j wr => ∃ (k : Nat) (S : ByteArray), k ≤ L.length ∧ j = .int .i64 k ∧ sv = .string S ∧ S.size ≤ 90000000 ∧ Hid (S = bs (headT lb ++ linesT L k)) ∧ Hid (Below W.heap.size W wr)) (fun _ j _ => L.length - (intOf j).toNat)
      case atStart => exact ⟨0, _, Nat.zero_le _, rfl, rfl, by first | decide | (have := hh0; rw [HH1.out] at this; exact this), Lib.hid (by rw [← HH0.out, HH1.out]; rfl), HB1⟩
      case round =>
        obtain ⟨k, S, hk, rfl, rfl, hS, HS, HH⟩ := hrel
        have hbw := (HH.out.block w.heap.size hlw).trans HBx.out
        have d0 := cell_of_row wr w.heap.size 0 _ _ _ hbw
        have hlr : w.heap.size < wr.heap.size := (Array.getElem?_eq_some_iff.1 hbw).1
        clear b0 b1 hbw
        by_cases hkn : k < L.length
        · have ki : (k : Int) < L.length := by omega
          have ki0 : (0 : Int) ≤ k := by omega
          have hcx : ∀ (wz : World), Below W.heap.size W wz → ∀ j u, (rowI L[k])[j]? = some u → j < 7 → wz.cell? ⟨b, i0 + k * 7 + j, none⟩ = some u := fun wz hz j u hu hj => by
            rw [hz.cell (p := ⟨b, i0 + k * 7 + j, none⟩) HCe.out.1, HCe.out.2 k hkn j hj, hu]
          have hfi := HF.out L[k] (List.getElem_mem hkn)
          have hko := HKo.out k hkn
          have HSu := Lib.hid (linesT_succ L k hkn)
          have HLk := Lib.hid (HLL.out (k + 1) hkn)
          obtain ⟨i, hi⟩ : ∃ i, i = L[k] := ⟨_, rfl⟩
          rw [← hi] at hcx hfi hko HSu
          have HCx := Lib.hid hcx
          have c0 : wr.cell? ⟨b, i0 + k * 7, none⟩ = some (.int .i64 i.op) := hcx wr HH.out 0 _ rfl (by decide)
          have c1 := hcx wr HH.out 1 _ rfl (by decide)
          have c2 := hcx wr HH.out 2 _ rfl (by decide)
          have c3 := hcx wr HH.out 3 _ rfl (by decide)
          have c4 := hcx wr HH.out 4 _ rfl (by decide)
          have c5 := hcx wr HH.out 5 _ rfl (by decide)
          have c6 := hcx wr HH.out 6 _ rfl (by decide)
          have hlb : b < wr.heap.size := by have := HCe.out.1; have := HH.out.size; omega
          have HFm := Lib.hid (fun W => rfmt_any (k : Int) W ⟨by omega, by omega⟩)
          have HLi := Lib.hid (fun W => line_any i.op i.st i.x i.y hfi hko W)
          have eI : (⟨i.op, i.st, i.x, i.y⟩ : IN) = i := rfl
          rw [eI] at HLi
          have hNs : (fmtS (k : Int)).size ≤ 40 := nt_len (k : Int) (by omega) (by omega)
          have hIl : (bs (lineT i)).size ≤ 21200 := by rw [bs_size]; have := instT_len k (by omega) i hfi; unfold instT at this; simp only [List.length_append, List.length_cons] at this; omega
          have hEq : (((S ++ fmtS (k : Int)) ++ ⟨#[32]⟩) ++ bs (lineT i)) ++ ⟨#[10]⟩ = bs (headT lb ++ linesT L (k + 1)) := by
            rw [HS.out, HSu.out]
            unfold instT
            apply ByteArray.ext
            simp [bs, nt]
          have hS2 : (bs (headT lb ++ linesT L (k + 1))).size ≤ 90000000 := by rw [bs_size, List.length_append]; have := HHL.out; have := HLk.out; omega
          generalize fmtS (k : Int) = s at *
          generalize bs (lineT i) = l at *
          have HEq := Lib.hid hEq
          have HS2 := Lib.hid hS2
          clear hcx hfi hko hi hEq hS2 eI
          have g1 : ¬ 9223372036854775807 < S.size + s.size := by omega
          have g2 : ¬ 9223372036854775807 < S.size + s.size + 1 := by omega
          have g3 : ¬ 9223372036854775807 < S.size + s.size + 1 + l.size := by omega
          have g4 : ¬ 9223372036854775807 < S.size + s.size + 1 + l.size + 1 := by omega
          go_upto_region 9 with fail
          go_region_law
            (first
              | (go_simp; go_at_call 24; (with_reducible refine (HFm.out _).mono ?_); rintro e w4 ⟨rfl, hb4⟩
                 have HB4 : Hid (Below W.heap.size W w4) := Lib.hid (HH.out.trans (((Below.refl _ _).drew.trans hb4).mono HH.out.size))
                 have hx4 := (HB4.out.block w.heap.size hlw).trans HBx.out
                 clear d0 c0 c1 c2 c3 c4 c5 c6
                 have d0 := cell_of_row w4 w.heap.size 0 _ _ _ hx4
                 have hl4 : w.heap.size < w4.heap.size := (Array.getElem?_eq_some_iff.1 hx4).1
                 have c0 : w4.cell? ⟨b, i0 + k * 7, none⟩ = some (.int .i64 i.op) := HCx.out w4 HB4.out 0 _ rfl (by decide)
                 have c1 := HCx.out w4 HB4.out 1 _ rfl (by decide)
                 have c2 := HCx.out w4 HB4.out 2 _ rfl (by decide)
                 have c3 := HCx.out w4 HB4.out 3 _ rfl (by decide)
                 have c4 := HCx.out w4 HB4.out 4 _ rfl (by decide)
                 have c5 := HCx.out w4 HB4.out 5 _ rfl (by decide)
                 have c6 := HCx.out w4 HB4.out 6 _ rfl (by decide)
                 have hlb4 : b < w4.heap.size := by have := HCe.out.1; have := HB4.out.size; omega
                 clear hb4 hx4)
              | (go_simp; go_at_call 25; (with_reducible refine (HLi.out _).mono ?_); rintro e w5 ⟨rfl, hb5⟩
                 have HB5 : Hid (Below W.heap.size W w5) := Lib.hid (HB4.out.trans (hb5.mono HB4.out.size))
                 clear hb5))
          all_goals
            clear d0 c0 c1 c2 c3 c4 c5 c6
            go_wp2_with fail
            go_roundw
            case rel => exact ⟨k + 1, _, by omega, by go_num, rfl, by rw [HEq.out]; exact HS2.out, HEq, HB5⟩
            case measure => simp [intOf]; omega
        · obtain rfl : k = L.length := by omega
          go_wp2_with fail
          go_ret
          exact ⟨by rw [hpr.out, HS.out]; rfl, HB.out.trans (HH.out.mono HB.out.size)⟩
end Go.Proofs.YtbjobbkipmkndaaDoor
set_option linter.unusedVariables false
namespace Go.Proofs.YtbjobbkipmkndaaDoor
open Go.RowKit
def zsF : F → List Nat
  | .nil => []
  | .cons _ _ _ _ _ a r => (szF a + 1) :: zsF r
theorem zsF_sum : ∀ f : F, (zsF f).sum = szF f
  | .nil => rfl
  | .cons o s l h g a r => by show (szF a + 1) + (zsF r).sum = szF a + 1 + szF r; rw [zsF_sum r]
def BL : List Cd → List Nat → Prop
  | [], [] => True
  | c :: r, n :: m => (∀ b, (c b).length + 2 ≤ 4 * n) ∧ BL r m
  | _, _ => False
theorem BL.cat : ∀ {cs : List Cd} {ns : List Nat}, BL cs ns → ∀ b, (catC cs b).length + 2 * cs.length ≤ 4 * ns.sum
  | [], [], _, b => by simp [catC]
  | [], _ :: _, h, _ => h.elim
  | _ :: _, [], h, _ => h.elim
  | c :: r, n :: m, h, b => by
    have h1 := h.1 b
    have h2 := BL.cat h.2 (b + (c b).length)
    simp only [catC, List.length_append, List.length_cons, List.sum_cons]
    omega
theorem BL.alt : ∀ {cs : List Cd} {ns : List Nat}, BL cs ns → cs ≠ [] → ∀ b b', (altP 0 cs.dropLast b).length + ((cs.getLastD nilC) b').length + 2 ≤ 4 * ns.sum
  | [], _, _, h, _, _ => (h rfl).elim
  | _ :: _, [], h, _, _, _ => h.elim
  | [c], n :: m, h, _, b, b' => by
    have h1 := h.1 b'
    simp only [List.dropLast_singleton, altP, List.length_nil, List.getLastD_cons, List.getLastD_nil, List.sum_cons]
    omega
  | c :: d :: r, n :: m, h, _, b, b' => by
    have h1 := h.1 (b + 1)
    have h2 := BL.alt h.2 (by simp) (b + (c (b + 1)).length + 2) b'
    have e1 : (c :: d :: r).dropLast = c :: (d :: r).dropLast := rfl
    have e2 : (c :: d :: r).getLastD nilC = (d :: r).getLastD nilC := by simp
    rw [e1, e2]
    simp only [altP, List.length_append, List.length_cons, List.sum_cons]
    omega
theorem BL.head {cs : List Cd} {ns : List Nat} (h : BL cs ns) (b : Nat) : ((cs.headD nilC) b).length ≤ 4 * ns.sum := by
  match cs, ns, h with
  | [], [], _ => simp [nilC]
  | c :: r, n :: m, h =>
    have h1 := h.1 b
    simp only [List.headD_cons, List.sum_cons]
    omega
theorem BL_all : ∀ f : F, BL (cods f) (zsF f)
  | .nil => trivial
  | .cons o s l h g a r => by
    refine ⟨fun b => ?_, BL_all r⟩
    have ha := BL_all a
    have hs := zsF_sum a
    have h1 := ha.cat b
    unfold codN
    split
    · simp; omega
    split
    · simp; omega
    split
    · simp; omega
    split
    · omega
    split
    · cases hc : cods a with
      | nil =>
        have e : altC [] b = [] := by simp [altC, altE, altP, nilC]
        rw [e]
        simp
        omega
      | cons c t =>
        rw [← hc]
        have h2 := ha.alt (by rw [hc]; simp) b (b + (altP 0 (cods a).dropLast b).length)
        unfold altC altE
        rw [List.length_append, altP_len _ 0]
        omega
    split
    · have h2 := ha.head b
      have h3 := ha.head (b + 1)
      generalize (cods a).headD nilC = c0 at *
      unfold repC
      split
      · simp; omega
      · split
        · simp; omega
        · simp; omega
    · simp; omega
theorem codT_len (t : TN) (b : Nat) : (codT t b).length + 2 ≤ 4 * (szF t.args + 1) := (BL_all (.cons t.op t.st t.lo t.hi t.g t.args .nil)).1 b
def EXP : F → List Int → Prop
  | .nil, [] => True
  | .cons _ _ _ _ _ a r, x :: xs => 0 ≤ x ∧ (x ≤ 4096 → ((szF a : Nat) : Int) + 1 ≤ x) ∧ EXP r xs
  | _, _ => False
theorem foldl_sum : ∀ (ps : List Int) (a : Int), ps.foldl (· + ·) a = a + ps.sum
  | [], a => by simp
  | x :: r, a => by rw [List.foldl_cons, foldl_sum r, List.sum_cons]; omega
theorem EXP.sum : ∀ {f : F} {ps : List Int}, EXP f ps → 0 ≤ ps.sum ∧ (ps.sum ≤ 4096 → ((szF f : Nat) : Int) ≤ ps.sum)
  | .nil, [], _ => by simp [szF]
  | .nil, _ :: _, h => h.elim
  | .cons .., [], h => h.elim
  | .cons o s l hh g a r, x :: xs, h => by
    obtain ⟨h1, h2, h3⟩ := h
    obtain ⟨k1, k2⟩ := EXP.sum h3
    rw [List.sum_cons]
    refine ⟨by omega, fun h4 => ?_⟩
    have := h2 (by omega)
    have := k2 (by omega)
    show ((szF a + 1 + szF r : Nat) : Int) ≤ _
    omega
theorem szF_push (t : TN) : ∀ f : F, szF (f.push t) = szF f + (szF t.args + 1)
  | .nil => by show szF t.args + 1 + 0 = 0 + _; omega
  | .cons o s l h g a r => by show szF a + 1 + szF (r.push t) = szF a + 1 + szF r + _; rw [szF_push t r]; omega
theorem szF_times (t : TN) : ∀ (n : Nat) (f : F), szF (timesF n t f) = szF f + n * (szF t.args + 1)
  | 0, f => by simp [timesF]
  | n + 1, f => by rw [timesF, szF_times t n, szF_push, Nat.succ_mul]; omega
theorem sz_catT (f : F) : szF (catT f).args + 1 = if f.len = 1 then szF f else szF f + 1 := by
  cases f with
  | nil => rfl
  | cons o s l h g a r => cases r with
    | nil => show szF a + 1 = if 0 + 1 = 1 then szF a + 1 + 0 else _; simp
    | cons o2 s2 l2 h2 g2 a2 r2 => show _ = if r2.len + 1 + 1 = 1 then _ else _; rw [if_neg (by omega)]; rfl
theorem capI (u n : Int) (h : u ≤ 4096 → n ≤ u) : (if 4097 < u then (4097 : Int) else u) ≤ 4096 → n ≤ if 4097 < u then 4097 else u := by
  intro hle
  by_cases hu : 4097 < u
  · rw [if_pos hu] at hle
    omega
  · rw [if_neg hu] at hle ⊢
    exact h hle
theorem EXP_all : ∀ (f : F) (G : Nat → List Int), okE f → bkF f = false → EXP (expF f) (valF exsT f G).1
  | .nil, _, _, _ => trivial
  | .cons o s l h g a r, G, hok, hbk => by
    simp only [bkF, Bool.or_eq_false_iff, decide_eq_false_iff_not] at hbk
    obtain ⟨o9, hba, hbr⟩ := hbk
    rw [valF, if_neg o9]
    have ha := EXP_all a G hok.2.1 hba
    obtain ⟨s0, s1⟩ := ha.sum
    refine ⟨?_, ?_, EXP_all r _ hok.2.2 hbr⟩
    all_goals generalize (valF exsT a G).1 = ps at *
    · unfold exsT
      rw [if_neg o9]
      by_cases o5 : o = 5
      · rw [if_pos o5]
        obtain ⟨hl1, hl, hh⟩ := hok.1.2 o5
        obtain ⟨⟨c1, c2⟩, ⟨e1, e2⟩⟩ := bounds_cr l h hl hh
        obtain ⟨o1, s1', l1, h1, g1, a1, rfl⟩ := len1 hl1
        cases ps with
        | nil => exact ha.elim
        | cons x xs =>
          have hx : 0 ≤ x := ha.1
          have m1 := Int.mul_nonneg c1 hx
          have m2 := Int.mul_nonneg e1 (show (0 : Int) ≤ x + 1 by omega)
          show (0 : Int) ≤ if 4097 < _ then _ else _
          simp only [List.headD_cons]
          split <;> split <;> omega
      · rw [if_neg o5]
        dsimp only
        rw [foldl_sum]
        split <;> omega
    · unfold exsT
      rw [if_neg o9]
      unfold expN
      by_cases o5 : o = 5
      · rw [if_pos o5, if_pos o5]
        obtain ⟨hl1, hl, hh⟩ := hok.1.2 o5
        obtain ⟨⟨c1, c2⟩, ⟨e1, e2⟩⟩ := bounds_cr l h hl hh
        obtain ⟨o1, s1', l1, h1, g1, a1, rfl⟩ := len1 hl1
        cases ps with
        | nil => exact ha.elim
        | cons x xs =>
          have hx : 0 ≤ x := ha.1
          have hy : x ≤ 4096 → ((szF ((expF (.cons o1 s1' l1 h1 g1 a1 .nil)).nth 0).args : Nat) : Int) + 1 ≤ x := ha.2.1
          generalize (expF (.cons o1 s1' l1 h1 g1 a1 .nil)).nth 0 = y at *
          have m1 := Int.mul_nonneg c1 hx
          have m2 := Int.mul_nonneg e1 (show (0 : Int) ≤ x + 1 by omega)
          have hlen : (seqF ⟨o, s, l, h, g, .cons o1 s1' l1 h1 g1 a1 .nil⟩ y).len = (cpT l h).toNat + (rpT l h).toNat := by
            show (timesF (rpT l h).toNat (repT (loT l h) (hiT l h) y) (timesF (cpT l h).toNat y .nil)).len = _
            rw [timesF_len, timesF_len]
            show 0 + (cpT l h).toNat + (rpT l h).toNat = _
            omega
          have hsz : szF (seqF ⟨o, s, l, h, g, .cons o1 s1' l1 h1 g1 a1 .nil⟩ y) = (cpT l h).toNat * (szF y.args + 1) + (rpT l h).toNat * (szF y.args + 2) := by
            show szF (timesF (rpT l h).toNat (repT (loT l h) (hiT l h) y) (timesF (cpT l h).toNat y .nil)) = _
            rw [szF_times, szF_times]
            have e : szF (repT (loT l h) (hiT l h) y).args = szF y.args + 1 := by show szF y.args + 1 + 0 = _; omega
            rw [e]
            show 0 + (cpT l h).toNat * _ + (rpT l h).toNat * (szF y.args + 2) = _
            omega
          show (if 4097 < _ then (4097 : Int) else _) ≤ 4096 → ((szF (catT _).args : Nat) : Int) + 1 ≤ if 4097 < _ then (4097 : Int) else _
          simp only [List.headD_cons]
          refine capI _ _ (fun hle => ?_)
          have hc := sz_catT (seqF ⟨o, s, l, h, g, .cons o1 s1' l1 h1 g1 a1 .nil⟩ y)
          rw [hlen, hsz] at hc
          generalize seqF ⟨o, s, l, h, g, .cons o1 s1' l1 h1 g1 a1 .nil⟩ y = q at *
          obtain ⟨C, hC⟩ : ∃ C : Nat, cpT l h = (C : Int) := ⟨(cpT l h).toNat, by omega⟩
          obtain ⟨R, hR⟩ : ∃ R : Nat, rpT l h = (R : Int) := ⟨(rpT l h).toNat, by omega⟩
          simp only [hC, hR] at hle hc m1 m2 ⊢
          simp only [Int.toNat_natCast] at hc
          have key : x ≤ 4096 → ((C * (szF y.args + 1) + R * (szF y.args + 2) : Nat) : Int) ≤ C * x + R * (x + 1) := fun hx4 => by
            have hy' := hy hx4
            have k1 : ((C : Int)) * ((szF y.args : Int) + 1) ≤ C * x := Int.mul_le_mul_of_nonneg_left hy' (by omega)
            have k2 : ((R : Int)) * ((szF y.args : Int) + 2) ≤ R * (x + 1) := Int.mul_le_mul_of_nonneg_left (by omega) (by omega)
            simp only [Int.natCast_add, Int.natCast_mul]
            have e1 : ((1 : Nat) : Int) = 1 := rfl
            have e2 : ((2 : Nat) : Int) = 2 := rfl
            rw [e1, e2]
            omega
          have big : ¬ x ≤ 4096 → 1 ≤ C + R → 4096 < (C : Int) * x + R * (x + 1) := fun h1 h2 => by
            by_cases hC0 : C = 0
            · have hR1 : (1 : Int) ≤ R := by omega
              have := Int.mul_le_mul_of_nonneg_right hR1 (show (0 : Int) ≤ x + 1 by omega)
              omega
            · have hC1 : (1 : Int) ≤ C := by omega
              have := Int.mul_le_mul_of_nonneg_right hC1 hx
              omega
          by_cases h01 : C + R = 0
          · have h0 : C = 0 := by omega
            have h1 : R = 0 := by omega
            subst h0 h1
            simp at hc hle ⊢
            omega
          by_cases hCR : C + R = 1
          · have hCI : (C : Int) + R = 1 := by omega
            rw [if_pos hCR] at hc
            rw [if_pos hCI] at hle ⊢
            by_cases hx4 : x ≤ 4096
            · have := key hx4
              omega
            · have := big hx4 (by omega)
              omega
          · have hCI : ¬ (C : Int) + R = 1 := by omega
            rw [if_neg hCR] at hc
            rw [if_neg hCI] at hle ⊢
            by_cases hx4 : x ≤ 4096
            · have := key hx4
              omega
            · have := big hx4 (by omega)
              omega
      · rw [if_neg o5, if_neg o5]
        dsimp only
        rw [foldl_sum]
        intro hle
        split at hle
        · omega
        · split
          · omega
          · have := s1 (by omega)
            omega
theorem exp_size {t : TN} (hok : okE t.f) (hbk : bkF t.f = false) (h : valT exsT t ≤ 4096) : szF (expT t).args + 1 ≤ 4096 := by
  have h1 := EXP_all t.f G0 hok hbk
  unfold TN.f at h1
  rw [valF_cons] at h1
  obtain ⟨_, h2, _⟩ := h1
  have h3 := h2 h
  have h4 : ((szF (expT t).args : Nat) : Int) + 1 ≤ valT exsT t := h3
  omega
theorem cod_short {t : TN} (hok : okE t.f) (hbk : bkF t.f = false) (h : valT exsT t ≤ 4096) (b : Nat) : (codT (expT t) b).length ≤ 16384 := by
  have h1 := exp_size hok hbk h
  have h2 := codT_len (expT t) b
  omega
end Go.Proofs.YtbjobbkipmkndaaDoor
