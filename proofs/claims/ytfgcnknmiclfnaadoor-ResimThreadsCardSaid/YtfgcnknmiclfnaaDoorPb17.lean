/- RpValid. -/
import Derived.Test.YtfgcnknmiclfnaaDoorPb16
set_option linter.unusedVariables false
set_option linter.unusedSimpArgs false
set_option maxRecDepth 100000
set_option maxHeartbeats 8000000
namespace Go.Proofs.YtfgcnknmiclfnaaDoor
open Go.RowKit
theorem seven {w : World} {P : Nat} {t : TypeId} {a0 a1 a2 a3 a4 a5 a6 : Value} (h : w.heap[P]? = some (.cells #[a0, a1, a2, a3, a4, a5, a6] t (0, 0))) : (w.cell? ⟨P, 0, none⟩ = some a0 ∧ w.cell? ⟨P, 1, none⟩ = some a1 ∧ w.cell? ⟨P, 2, none⟩ = some a2) ∧ (w.cell? ⟨P, 3, none⟩ = some a3 ∧ w.cell? ⟨P, 4, none⟩ = some a4) ∧ w.cell? ⟨P, 5, none⟩ = some a5 ∧ w.cell? ⟨P, 6, none⟩ = some a6 :=
  ⟨⟨cell_of_row w P 0 _ _ _ h, cell_of_row w P 1 _ _ _ h, cell_of_row w P 2 _ _ _ h⟩, ⟨cell_of_row w P 3 _ _ _ h, cell_of_row w P 4 _ _ _ h⟩, cell_of_row w P 5 _ _ _ h, cell_of_row w P 6 _ _ _ h⟩
def tgs (i : IN) : List Int := [i.x, i.y].take (ktg i.op)
def inR (n : Nat) (x : Int) : Bool := decide (0 ≤ x) && decide (x < (n : Int))
def vOk (n : Nat) (last : Bool) (i : IN) : Bool := kok i.op && (!(kgo i.op && last) && (tgs i).all (inR n))
def vR (n : Nat) : List IN → Bool
  | [] => true
  | i :: r => vOk n r.isEmpty i && vR n r
def valL (L : List IN) : Bool := decide (1 ≤ L.length) && (decide (L.length ≤ 4096) && vR L.length L)
theorem ktg_le (o : Int) : ktg o ≤ 2 := by unfold ktg; split <;> (try split) <;> omega
theorem vR_drop (n : Nat) (L : List IN) (k : Nat) (hk : k < L.length) : vR n (L.drop k) = (vOk n (decide (k + 1 = L.length)) (L[k]) && vR n (L.drop (k + 1))) := by
  rw [List.drop_eq_getElem_cons hk]
  show (vOk n (L.drop (k + 1)).isEmpty _ && _) = _
  have e : (L.drop (k + 1)).isEmpty = decide (k + 1 = L.length) := by
    by_cases h : k + 1 = L.length
    · rw [List.drop_eq_nil_of_le (by omega)]; simp [h]
    · have : (L.drop (k + 1)).length ≠ 0 := by rw [List.length_drop]; omega
      cases hd : L.drop (k + 1) with
      | nil => rw [hd] at this; exact absurd rfl this
      | cons a r => simp [h]
  rw [e]
theorem tgs_len (i : IN) : (tgs i).length = ktg i.op := by
  have := ktg_le i.op
  unfold tgs
  rw [List.length_take]
  show min (ktg i.op) 2 = _
  omega
theorem tgs_0 (i : IN) (h : 0 < (tgs i).length) : (tgs i)[0] = i.x := List.getElem_take
theorem tgs_1 (i : IN) (h : 1 < (tgs i).length) : (tgs i)[1] = i.y := List.getElem_take
theorem valid_any (L : List IN) (v : Value) (n0 : Nat) (ln : Bool) (w : World) (h : PI w n0 L v) (hk : KT w) : Calls Tryd.prog 35 #[.agg #[v, .bool ln]] w fun e w' => e = .returned (.bool (valL L)) ∧ Below w.heap.size w w' := by
  obtain ⟨ad, cap, rfl, hcap, hcells⟩ := h
  have hb : Below w.heap.size w (w.alloc (.cells #[.slice ad L.length cap, .bool ln] 24)) := (Below.refl _ _).alloc (Nat.le_refl _) _
  have HB := Lib.hid hb
  by_cases h0 : L.length = 0
  · obtain rfl := List.eq_nil_of_length_eq_zero h0
    have e : valL [] = false := rfl
    rw [e]
    have HB : Hid (Below w.heap.size w (w.alloc (.cells #[.slice ad 0 cap, .bool ln] 24))) := HB
    clear hcells hb hcap h0
    go_enter Tryd.func35, Tryd.ntmps35
    go_wp2_with fail
    all_goals go_ret
    all_goals exact ⟨rfl, HB.out⟩
  have h0I : ((L.length : Int) == 0) = false := beq_no (by omega)
  by_cases h4 : 4096 < L.length
  · have e : valL L = false := by unfold valL; rw [decide_eq_false (show ¬ L.length ≤ 4096 by omega)]; simp
    rw [e]
    have h4I : (4096 : Int) < (L.length : Int) := by omega
    clear hcells hb hcap
    go_enter Tryd.func35, Tryd.ntmps35
    go_wp2_with fail
    all_goals go_ret
    all_goals exact ⟨rfl, HB.out⟩
  have h4I : ¬ (4096 : Int) < (L.length : Int) := by omega
  have h4J : (L.length : Int) ≤ 4096 := by omega
  have e : valL L = vR L.length L := by unfold valL; rw [decide_eq_true (show 1 ≤ L.length by omega), decide_eq_true (show L.length ≤ 4096 by omega)]; simp
  rw [e]
  have HK := Lib.hid hk
  obtain ⟨b, i0, rfl, hbl, hce⟩ : ∃ b i, ad = some ⟨b, i, none⟩ ∧ b < w.heap.size ∧ ∀ (k : Nat) (hk : k < L.length) (j : Nat), j < 7 → w.cell? ⟨b, i + k * 7 + j, none⟩ = (rowI (L[k]'hk))[j]? := by
    rcases hcells with h1 | ⟨b, i, e1, _, e2, e3⟩
    · omega
    · exact ⟨b, i, e1, e2, e3⟩
  have HCe := Lib.hid hce
  clear hcells hb hk e hce hcap
  have hL0 : (0 : Int) < (L.length : Int) := by omega
  go_enter Tryd.func35, Tryd.ntmps35
  go_wp2_with fail
  go_loopw [22] (fun i wr => ∃ (k : Nat), k ≤ L.length ∧ i = .int .i64 k ∧ Hid (Below w.heap.size w wr ∧ vR L.length L = vR L.length (L.drop k))) (fun i _ => L.length - (intOf i).toNat)
  case atStart => exact ⟨0, Nat.zero_le _, rfl, Lib.hid ⟨HB.out, by rw [List.drop_zero]⟩⟩
  case round =>
    obtain ⟨k, hk, rfl, HR⟩ := hrel
    by_cases hkn : k < L.length
    · have ki : (k : Int) < L.length := by omega
      have ki0 : (0 : Int) ≤ k := by omega
      have hstep := HR.out.2
      rw [vR_drop _ L k hkn] at hstep
      have hc : ∀ j u, (rowI L[k])[j]? = some u → j < 7 → wr.cell? ⟨b, i0 + k * 7 + j, none⟩ = some u := fun j u hu hj => by
        rw [HR.out.1.cell (by exact hbl), HCe.out k hkn j hj, hu]
      obtain ⟨i, hi⟩ : ∃ i, i = L[k] := ⟨_, rfl⟩
      rw [← hi] at hstep hc
      have c0 := hc 0 _ rfl (by decide)
      have c1 := hc 1 _ rfl (by decide)
      have c2 := hc 2 _ rfl (by decide)
      have c3 := hc 3 _ rfl (by decide)
      have c4 := hc 4 _ rfl (by decide)
      have c5 := hc 5 _ rfl (by decide)
      have c6 := hc 6 _ rfl (by decide)
      rw [Nat.add_zero] at c0
      have HSt := Lib.hid hstep
      have hal := (Below.refl wr.heap.size wr).alloc (Nat.le_refl _) (.cells #[.int .i64 i.op, .int .u64 (wd i.st 0 64 : Nat), .int .u64 (wd i.st 64 64 : Nat), .int .u64 (wd i.st 128 64 : Nat), .int .u64 (wd i.st 192 64 : Nat), .int .i64 i.x, .int .i64 i.y] 43)
      obtain ⟨W, hW⟩ : ∃ W, W = wr.alloc (.cells #[.int .i64 i.op, .int .u64 (wd i.st 0 64 : Nat), .int .u64 (wd i.st 64 64 : Nat), .int .u64 (wd i.st 128 64 : Nat), .int .u64 (wd i.st 192 64 : Nat), .int .i64 i.x, .int .i64 i.y] 43) := ⟨_, rfl⟩
      have hWr : W.heap[wr.heap.size]? = some (.cells #[.int .i64 i.op, .int .u64 (wd i.st 0 64 : Nat), .int .u64 (wd i.st 64 64 : Nat), .int .u64 (wd i.st 128 64 : Nat), .int .u64 (wd i.st 192 64 : Nat), .int .i64 i.x, .int .i64 i.y] 43 (0, 0)) := by rw [hW]; exact heap_alloc_new wr _
      rw [← hW] at hal
      have HW := Lib.hid hW
      have HWr := Lib.hid hWr
      have HBw := Lib.hid (HR.out.1.trans (hal.mono HR.out.1.size))
      obtain ⟨⟨a0, a1, a2⟩, ⟨a3, a4⟩, a5, a6⟩ := seven hWr
      have hlw : wr.heap.size < W.heap.size := (Array.getElem?_eq_some_iff.1 hWr).1
      have HKd := Lib.hid (kind_any i.op W ((HK.out.below HBw.out)))
      have HTg := Lib.hid (fun W s b => targets_any i s (ktg i.op) (ktg_le _) b W)
      obtain ⟨kt, hkt⟩ : ∃ kt, ktg i.op = kt := ⟨_, rfl⟩
      have hkt2 : kt ≤ 2 := by rw [← hkt]; exact ktg_le _
      have hgl : (tgs i).length = kt := by rw [tgs_len, hkt]
      have HGl := Lib.hid hgl
      rw [hkt] at HKd HTg
      obtain ⟨ko, hko⟩ : ∃ ko, kok i.op = ko := ⟨_, rfl⟩
      obtain ⟨kb, hkb⟩ : ∃ kb, kgo i.op = kb := ⟨_, rfl⟩
      have hv : vOk L.length (decide (k + 1 = L.length)) i = (ko && (!(kb && decide (k + 1 = L.length)) && (tgs i).all (inR L.length))) := by unfold vOk; rw [hko, hkb]
      rw [hv] at HSt
      rw [hko, hkb] at HKd
      rw [show bs (kwd i.op) = bs (kwd i.op) from rfl] at HKd
      generalize bs (kwd i.op) = ks at HKd
      clear hc hstep hal hW hWr hi hkt hko hkb hv hgl
      go_upto_region 7 with fail
      rw [← HW.out]
      clear c0 c1 c2 c3 c4 c5 c6
      have hcs : (ko = false) ∨ (ko = true ∧ kb = true ∧ k + 1 = L.length) ∨ (ko = true ∧ kb = false) ∨ (ko = true ∧ kb = true ∧ k + 1 ≠ L.length) := by
        cases ko <;> cases kb <;> simp <;> omega
      rcases hcs with rfl | ⟨rfl, rfl, hlast⟩ | ⟨rfl, rfl⟩ | ⟨rfl, rfl, hlast⟩
      · go_wp2_with (first | (go_at_call 55; (with_reducible refine HKd.out.mono ?_); rintro e w1 ⟨rfl, hb⟩; have HB1 := Lib.hid (HBw.out.trans (hb.mono HBw.out.size)); have hr1 := (hb.block wr.heap.size hlw).trans HWr.out; clear a0 a1 a2 a3 a4 a5 a6; obtain ⟨⟨a0, a1, a2⟩, ⟨a3, a4⟩, a5, a6⟩ := seven hr1; have hlw1 : wr.heap.size < w1.heap.size := (Array.getElem?_eq_some_iff.1 hr1).1; clear hb hr1))
        all_goals go_ret
        all_goals rw [HSt.out]
        all_goals exact ⟨by simp, HB1.out.alloc HB1.out.size _⟩
      · have hlI : ((k : Int) == (L.length : Int) - 1) = true := by simp; omega
        have hdl : decide (k + 1 = L.length) = true := by simpa using hlast
        rw [hdl] at HSt
        clear hlast hdl
        go_wp2_with (first | (go_at_call 55; (with_reducible refine HKd.out.mono ?_); rintro e w1 ⟨rfl, hb⟩; have HB1 := Lib.hid (HBw.out.trans (hb.mono HBw.out.size)); have hr1 := (hb.block wr.heap.size hlw).trans HWr.out; clear a0 a1 a2 a3 a4 a5 a6; obtain ⟨⟨a0, a1, a2⟩, ⟨a3, a4⟩, a5, a6⟩ := seven hr1; have hlw1 : wr.heap.size < w1.heap.size := (Array.getElem?_eq_some_iff.1 hr1).1; clear hb hr1))
        all_goals go_ret
        all_goals rw [HSt.out]
        all_goals exact ⟨by simp, HB1.out.alloc HB1.out.size _⟩
      · have hall : Hid (vR L.length L = ((tgs i).all (inR L.length) && vR L.length (L.drop (k + 1)))) := Lib.hid (by rw [HSt.out]; simp)
        go_wp2_with (first
          | (go_at_call 55; (with_reducible refine HKd.out.mono ?_); rintro e w1 ⟨rfl, hb⟩; have HB1 := Lib.hid (HBw.out.trans (hb.mono HBw.out.size)); have hr1 := (hb.block wr.heap.size hlw).trans HWr.out; clear a0 a1 a2 a3 a4 a5 a6; obtain ⟨⟨a0, a1, a2⟩, ⟨a3, a4⟩, a5, a6⟩ := seven hr1; have hlw1 : wr.heap.size < w1.heap.size := (Array.getElem?_eq_some_iff.1 hr1).1; clear hb hr1)
          | (go_at_call 56; (with_reducible refine (HTg.out _ _ _).mono ?_); rintro e w2 ⟨g, rfl, hg, hg1, hg2, hb⟩; have HB2 := Lib.hid ((HB1.out.alloc HB1.out.size _).trans (hb.mono (HB1.out.alloc HB1.out.size _).size)); have HG := Lib.hid hg; have HG2 := Lib.hid hg2; clear hb hg hg1 hg2 a0 a1 a2 a3 a4 a5 a6 hlw1))
        go_loopw [49] (fun j wr2 => ∃ (q : Nat), q ≤ kt ∧ j = .int .i64 q ∧ Hid (wr2 = w2 ∧ ((tgs i).take q).all (inR L.length) = true)) (fun j _ => kt - (intOf j).toNat)
        case atStart => exact ⟨0, Nat.zero_le _, rfl, Lib.hid ⟨rfl, rfl⟩⟩
        case round =>
          obtain ⟨q, hq, rfl, HQ⟩ := hrel
          obtain ⟨rfl, hpre⟩ := HQ.out
          by_cases hqn : q < kt
          · have kq : (q : Int) < kt := by omega
            have kq0 : (0 : Int) ≤ q := by omega
            have kq2 : (kt : Int) ≤ 2 := by omega
            have hql : q < (tgs i).length := by rw [HGl.out]; exact hqn
            have hg2 := HG2.out
            have hx : wr.cell? ⟨g, q, none⟩ = some (.int .i64 (tgs i)[q]) := by
              have : q = 0 ∨ q = 1 := by omega
              rcases this with rfl | rfl
              · rw [tgs_0]; exact HG.out.1
              · rw [tgs_1]; exact HG.out.2
            have hin : ∀ bx, inR L.length (tgs i)[q] = bx → ((tgs i).take (q + 1)).all (inR L.length) = bx := fun bx hb => by
              rw [List.take_succ_eq_append_getElem hql, List.all_append, hpre, Bool.true_and]
              simpa using hb
            have hno : inR L.length (tgs i)[q] = false → (tgs i).all (inR L.length) = false := fun hb => by
              rw [List.all_eq_false]
              exact ⟨_, List.getElem_mem hql, by simp [hb]⟩
            generalize (tgs i)[q] = x at *
            have HIn := Lib.hid hin
            have HNo := Lib.hid hno
            clear hin hno hql hpre HQ
            by_cases hx0 : x < 0
            · go_wp2_with fail
              all_goals go_ret
              all_goals rw [hall.out, HNo.out (by unfold inR; rw [decide_eq_false (by omega)]; rfl)]
              all_goals exact ⟨rfl, HB2.out⟩
            by_cases hxn : (L.length : Int) ≤ x
            · go_wp2_with fail
              all_goals go_ret
              all_goals rw [hall.out, HNo.out (by unfold inR; rw [decide_eq_false (show ¬ x < (L.length : Int) by omega)]; simp)]
              all_goals exact ⟨rfl, HB2.out⟩
            go_wp2_with fail
            go_roundw
            case rel => exact ⟨q + 1, by omega, by go_num, Lib.hid ⟨trivial, HIn.out true (by unfold inR; rw [decide_eq_true (by omega), decide_eq_true (by omega)]; rfl)⟩⟩
            case measure => simp [intOf]; omega
          · obtain rfl : q = kt := by omega
            rw [List.take_of_length_le (by rw [HGl.out]; exact Nat.le_refl _)] at hpre
            have HPre := Lib.hid hpre
            clear hpre HQ
            go_wp2_with fail
            go_roundw
            case rel => exact ⟨k + 1, by omega, by go_num, Lib.hid ⟨HB2.out, by rw [hall.out, HPre.out, Bool.true_and]⟩⟩
            case measure => simp [intOf]; omega
      · have hlI : ((k : Int) == (L.length : Int) - 1) = false := by simp; omega
        have hall : Hid (vR L.length L = ((tgs i).all (inR L.length) && vR L.length (L.drop (k + 1)))) := Lib.hid (by rw [HSt.out, decide_eq_false hlast]; simp)
        clear hlast
        go_wp2_with (first
          | (go_at_call 55; (with_reducible refine HKd.out.mono ?_); rintro e w1 ⟨rfl, hb⟩; have HB1 := Lib.hid (HBw.out.trans (hb.mono HBw.out.size)); have hr1 := (hb.block wr.heap.size hlw).trans HWr.out; clear a0 a1 a2 a3 a4 a5 a6; obtain ⟨⟨a0, a1, a2⟩, ⟨a3, a4⟩, a5, a6⟩ := seven hr1; have hlw1 : wr.heap.size < w1.heap.size := (Array.getElem?_eq_some_iff.1 hr1).1; clear hb hr1)
          | (go_at_call 56; (with_reducible refine (HTg.out _ _ _).mono ?_); rintro e w2 ⟨g, rfl, hg, hg1, hg2, hb⟩; have HB2 := Lib.hid ((HB1.out.alloc HB1.out.size _).trans (hb.mono (HB1.out.alloc HB1.out.size _).size)); have HG := Lib.hid hg; have HG2 := Lib.hid hg2; clear hb hg hg1 hg2 a0 a1 a2 a3 a4 a5 a6 hlw1))
        go_loopw [49] (fun j wr2 => ∃ (q : Nat), q ≤ kt ∧ j = .int .i64 q ∧ Hid (wr2 = w2 ∧ ((tgs i).take q).all (inR L.length) = true)) (fun j _ => kt - (intOf j).toNat)
        case atStart => exact ⟨0, Nat.zero_le _, rfl, Lib.hid ⟨rfl, rfl⟩⟩
        case round =>
          obtain ⟨q, hq, rfl, HQ⟩ := hrel
          obtain ⟨rfl, hpre⟩ := HQ.out
          by_cases hqn : q < kt
          · have kq : (q : Int) < kt := by omega
            have kq0 : (0 : Int) ≤ q := by omega
            have kq2 : (kt : Int) ≤ 2 := by omega
            have hql : q < (tgs i).length := by rw [HGl.out]; exact hqn
            have hg2 := HG2.out
            have hx : wr.cell? ⟨g, q, none⟩ = some (.int .i64 (tgs i)[q]) := by
              have : q = 0 ∨ q = 1 := by omega
              rcases this with rfl | rfl
              · rw [tgs_0]; exact HG.out.1
              · rw [tgs_1]; exact HG.out.2
            have hin : ∀ bx, inR L.length (tgs i)[q] = bx → ((tgs i).take (q + 1)).all (inR L.length) = bx := fun bx hb => by
              rw [List.take_succ_eq_append_getElem hql, List.all_append, hpre, Bool.true_and]
              simpa using hb
            have hno : inR L.length (tgs i)[q] = false → (tgs i).all (inR L.length) = false := fun hb => by
              rw [List.all_eq_false]
              exact ⟨_, List.getElem_mem hql, by simp [hb]⟩
            generalize (tgs i)[q] = x at *
            have HIn := Lib.hid hin
            have HNo := Lib.hid hno
            clear hin hno hql hpre HQ
            by_cases hx0 : x < 0
            · go_wp2_with fail
              all_goals go_ret
              all_goals rw [hall.out, HNo.out (by unfold inR; rw [decide_eq_false (by omega)]; rfl)]
              all_goals exact ⟨rfl, HB2.out⟩
            by_cases hxn : (L.length : Int) ≤ x
            · go_wp2_with fail
              all_goals go_ret
              all_goals rw [hall.out, HNo.out (by unfold inR; rw [decide_eq_false (show ¬ x < (L.length : Int) by omega)]; simp)]
              all_goals exact ⟨rfl, HB2.out⟩
            go_wp2_with fail
            go_roundw
            case rel => exact ⟨q + 1, by omega, by go_num, Lib.hid ⟨trivial, HIn.out true (by unfold inR; rw [decide_eq_true (by omega), decide_eq_true (by omega)]; rfl)⟩⟩
            case measure => simp [intOf]; omega
          · obtain rfl : q = kt := by omega
            rw [List.take_of_length_le (by rw [HGl.out]; exact Nat.le_refl _)] at hpre
            have HPre := Lib.hid hpre
            clear hpre HQ
            go_wp2_with fail
            go_roundw
            case rel => exact ⟨k + 1, by omega, by go_num, Lib.hid ⟨HB2.out, by rw [hall.out, HPre.out, Bool.true_and]⟩⟩
            case measure => simp [intOf]; omega
    · obtain rfl : k = L.length := by omega
      have hend := HR.out.2
      rw [List.drop_length] at hend
      have hend : vR L.length L = true := hend
      have HEnd := Lib.hid hend
      clear hend
      go_wp2_with fail
      go_ret
      rw [HEnd.out]
      exact ⟨rfl, HR.out.1⟩
end Go.Proofs.YtfgcnknmiclfnaaDoor
