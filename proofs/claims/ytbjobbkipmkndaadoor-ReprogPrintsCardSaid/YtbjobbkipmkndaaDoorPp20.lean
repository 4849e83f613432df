/- RpValid, NumMath, NumText, NumDigits, NumFormat. -/
import Derived.Test.YtbjobbkipmkndaaDoorPp19
import Derived.WalkKit
import Derived.WalkLawsBesides
import Derived.Lib.Hide
import Derived.Test.YtbjobbkipmkndaaDoorRows
import Derived.WalkSpells
import Derived.BigGuardPart
import Derived.Lib.Strings
import Derived.Laws.IdiomStrings
import Derived.OwnWalk
import Derived.Below
set_option linter.unusedVariables false
set_option linter.unusedSimpArgs false
set_option maxRecDepth 100000
set_option maxHeartbeats 8000000
namespace Go.Proofs.YtbjobbkipmkndaaDoor
open Go.RowKit
theorem seven {w : World} {P : Nat} {t : TypeId} {a0 a1 a2 a3 a4 a5 a6 : Value} (h : w.heap[P]? = some (.cells #[a0, a1, a2, a3, a4, a5, a6] t (0, 0))) : (w.cell? ⟨P, 0, none⟩ = some a0 ∧ w.cell? ⟨P, 1, none⟩ = some a1 ∧ w.cell? ⟨P, 2, none⟩ = some a2) ∧ (w.cell? ⟨P, 3, none⟩ = some a3 ∧ w.cell? ⟨P, 4, none⟩ = some a4) ∧ w.cell? ⟨P, 5, none⟩ = some a5 ∧ w.cell? ⟨P, 6, none⟩ = some a6 :=
  ⟨⟨cell_of_row w P 0 _ _ _ h, cell_of_row w P 1 _ _ _ h, cell_of_row w P 2 _ _ _ h⟩, ⟨cell_of_row w P 3 _ _ _ h, cell_of_row w P 4 _ _ _ h⟩, cell_of_row w P 5 _ _ _ h, cell_of_row w P 6 _ _ _ h⟩
def tgs (i : IN) : List Int := [i.x, i.y].take (ktg i.op)
def inR (n : Nat) (x : Int) : Bool := decide (0 ≤ x) && decide (x < (n : Int))
def vOk (n : Nat) (last : Bool) (i : IN) : Bool := kok i.op && (!(kgo i.op && last) && (tgs i).all (inR n))
def vR (n : Nat) : List IN → Bool
  | [] => true
  | i :: r => vOk n r.isEmpty i && vR n r
def valL (L : List IN) : Bool := decide (1 ≤ L.length) && (decide (L.length ≤ 4096) && vR L.length L)
theorem ktg_le (o : Int) : ktg o ≤ 2 := by unfold ktg; split <;> (try split) <;> omega
theorem vR_drop (n : Nat) (L : List IN) (k : Nat) (hk : k < L.length) : vR n (L.drop k) = (vOk n (decide (k + 1 = L.length)) (L[k]) && vR n (L.drop (k + 1))) := by
  rw [List.drop_eq_getElem_cons hk]
  show (vOk n (L.drop (k + 1)).isEmpty _ && _) = _
  have e : (L.drop (k + 1)).isEmpty = decide (k + 1 = L.length) := by
    by_cases h : k + 1 = L.length
    · rw [List.drop_eq_nil_of_le (by omega)]; simp [h]
    · have : (L.drop (k + 1)).length ≠ 0 := by rw [List.length_drop]; omega
      cases hd : L.drop (k + 1) with
      | nil => rw [hd] at this; exact absurd rfl this
      | cons a r => simp [h]
  rw [e]
theorem tgs_len (i : IN) : (tgs i).length = ktg i.op := by
  have := ktg_le i.op
  unfold tgs
  rw [List.length_take]
  show min (ktg i.op) 2 = _
  omega
theorem tgs_0 (i : IN) (h : 0 < (tgs i).length) : (tgs i)[0] = i.x := List.getElem_take
theorem tgs_1 (i : IN) (h : 1 < (tgs i).length) : (tgs i)[1] = i.y := List.getElem_take
theorem valid_any (L : List IN) (v : Value) (n0 : Nat) (ln : Bool) (w : World) (h : PI w n0 L v) (hk : KT w) : Calls Tryd.prog 8 #[.agg #[v, .bool ln]] w fun e w' => e = .returned (.bool (valL L)) ∧ Below w.heap.size w w' := by
  obtain ⟨ad, cap, rfl, hcap, hcells⟩ := h
  have hb : Below w.heap.size w (w.alloc (.cells #[.slice ad L.length cap, .bool ln] 24)) := (Below.refl _ _).alloc (Nat.le_refl _) _
  have HB := Lib.hid hb
  by_cases h0 : L.length = 0
  · obtain rfl := List.eq_nil_of_length_eq_zero h0
    have e : valL [] = false := rfl
    rw [e]
    have HB : Hid (Below w.heap.size w (w.alloc (.cells #[.slice ad 0 cap, .bool ln] 24))) := HB
    clear hcells hb hcap h0
    go_enter Tryd.func8, Tryd.ntmps8
    go_wp2_with fail
    all_goals go_ret
    all_goals exact ⟨rfl, HB.out⟩
  have h0I : ((L.length : Int) == 0) = false := beq_no (by omega)
  by_cases h4 : 4096 < L.length
  · have e : valL L = false := by unfold valL; rw [decide_eq_false (show ¬ L.length ≤ 4096 by omega)]; simp
    rw [e]
    have h4I : (4096 : Int) < (L.length : Int) := by omega
    clear hcells hb hcap
    go_enter Tryd.func8, Tryd.ntmps8
    go_wp2_with fail
    all_goals go_ret
    all_goals exact ⟨rfl, HB.out⟩
  have h4I : ¬ (4096 : Int) < (L.length : Int) := by omega
  have h4J : (L.length : Int) ≤ 4096 := by omega
  have e : valL L = vR L.length L := by unfold valL; rw [decide_eq_true (show 1 ≤ L.length by omega), decide_eq_true (show L.length ≤ 4096 by omega)]; simp
  rw [e]
  have HK := Lib.hid hk
  obtain ⟨b, i0, rfl, hbl, hce⟩ : ∃ b i, ad = some ⟨b, i, none⟩ ∧ b < w.heap.size ∧ ∀ (k : Nat) (hk : k < L.length) (j : Nat), j < 7 → w.cell? ⟨b, i + k * 7 + j, none⟩ = (rowI (L[k]'hk))[j]? := by
    rcases hcells with h1 | ⟨b, i, e1, _, e2, e3⟩
    · omega
    · exact ⟨b, i, e1, e2, e3⟩
  have HCe := Lib.hid hce
  clear hcells hb hk e hce hcap
  have hL0 : (0 : Int) < (L.length : Int) := by omega
  go_enter Tryd.func8, Tryd.ntmps8
  go_wp2_with fail
  go_loopw [22] (fun i wr => ∃ (k : Nat), k ≤ L.length ∧ i = .int .i64 k ∧ Hid (Below w.heap.size w wr ∧ vR L.length L = vR L.length (L.drop k))) (fun i _ => L.length - (intOf i).toNat)
  case atStart => exact ⟨0, Nat.zero_le _, rfl, Lib.hid ⟨HB.out, by rw [List.drop_zero]⟩⟩
  case round =>
    obtain ⟨k, hk, rfl, HR⟩ := hrel
    by_cases hkn : k < L.length
    · have ki : (k : Int) < L.length := by omega
      have ki0 : (0 : Int) ≤ k := by omega
      have hstep := HR.out.2
      rw [vR_drop _ L k hkn] at hstep
      have hc : ∀ j u, (rowI L[k])[j]? = some u → j < 7 → wr.cell? ⟨b, i0 + k * 7 + j, none⟩ = some u := fun j u hu hj => by
        rw [HR.out.1.cell (by exact hbl), HCe.out k hkn j hj, hu]
      obtain ⟨i, hi⟩ : ∃ i, i = L[k] := ⟨_, rfl⟩
      rw [← hi] at hstep hc
      have c0 := hc 0 _ rfl (by decide)
      have c1 := hc 1 _ rfl (by decide)
      have c2 := hc 2 _ rfl (by decide)
      have c3 := hc 3 _ rfl (by decide)
      have c4 := hc 4 _ rfl (by decide)
      have c5 := hc 5 _ rfl (by decide)
      have c6 := hc 6 _ rfl (by decide)
      rw [Nat.add_zero] at c0
      have HSt := Lib.hid hstep
      have hal := (Below.refl wr.heap.size wr).alloc (Nat.le_refl _) (.cells #[.int .i64 i.op, .int .u64 (wd i.st 0 64 : Nat), .int .u64 (wd i.st 64 64 : Nat), .int .u64 (wd i.st 128 64 : Nat), .int .u64 (wd i.st 192 64 : Nat), .int .i64 i.x, .int .i64 i.y] 39)
      obtain ⟨W, hW⟩ : ∃ W, W = wr.alloc (.cells #[.int .i64 i.op, .int .u64 (wd i.st 0 64 : Nat), .int .u64 (wd i.st 64 64 : Nat), .int .u64 (wd i.st 128 64 : Nat), .int .u64 (wd i.st 192 64 : Nat), .int .i64 i.x, .int .i64 i.y] 39) := ⟨_, rfl⟩
      have hWr : W.heap[wr.heap.size]? = some (.cells #[.int .i64 i.op, .int .u64 (wd i.st 0 64 : Nat), .int .u64 (wd i.st 64 64 : Nat), .int .u64 (wd i.st 128 64 : Nat), .int .u64 (wd i.st 192 64 : Nat), .int .i64 i.x, .int .i64 i.y] 39 (0, 0)) := by rw [hW]; exact heap_alloc_new wr _
      rw [← hW] at hal
      have HW := Lib.hid hW
      have HWr := Lib.hid hWr
      have HBw := Lib.hid (HR.out.1.trans (hal.mono HR.out.1.size))
      obtain ⟨⟨a0, a1, a2⟩, ⟨a3, a4⟩, a5, a6⟩ := seven hWr
      have hlw : wr.heap.size < W.heap.size := (Array.getElem?_eq_some_iff.1 hWr).1
      have HKd := Lib.hid (kind_any i.op W ((HK.out.below HBw.out)))
      have HTg := Lib.hid (fun W s b => targets_any i s (ktg i.op) (ktg_le _) b W)
      obtain ⟨kt, hkt⟩ : ∃ kt, ktg i.op = kt := ⟨_, rfl⟩
      have hkt2 : kt ≤ 2 := by rw [← hkt]; exact ktg_le _
      have hgl : (tgs i).length = kt := by rw [tgs_len, hkt]
      have HGl := Lib.hid hgl
      rw [hkt] at HKd HTg
      obtain ⟨ko, hko⟩ : ∃ ko, kok i.op = ko := ⟨_, rfl⟩
      obtain ⟨kb, hkb⟩ : ∃ kb, kgo i.op = kb := ⟨_, rfl⟩
      have hv : vOk L.length (decide (k + 1 = L.length)) i = (ko && (!(kb && decide (k + 1 = L.length)) && (tgs i).all (inR L.length))) := by unfold vOk; rw [hko, hkb]
      rw [hv] at HSt
      rw [hko, hkb] at HKd
      rw [show bs (kwd i.op) = bs (kwd i.op) from rfl] at HKd
      generalize bs (kwd i.op) = ks at HKd
      clear hc hstep hal hW hWr hi hkt hko hkb hv hgl
      go_upto_region 7 with fail
      rw [← HW.out]
      clear c0 c1 c2 c3 c4 c5 c6
      have hcs : (ko = false) ∨ (ko = true ∧ kb = true ∧ k + 1 = L.length) ∨ (ko = true ∧ kb = false) ∨ (ko = true ∧ kb = true ∧ k + 1 ≠ L.length) := by
        cases ko <;> cases kb <;> simp <;> omega
      rcases hcs with rfl | ⟨rfl, rfl, hlast⟩ | ⟨rfl, rfl⟩ | ⟨rfl, rfl, hlast⟩
      · go_wp2_with (first | (go_at_call 19; (with_reducible refine HKd.out.mono ?_); rintro e w1 ⟨rfl, hb⟩; have HB1 := Lib.hid (HBw.out.trans (hb.mono HBw.out.size)); have hr1 := (hb.block wr.heap.size hlw).trans HWr.out; clear a0 a1 a2 a3 a4 a5 a6; obtain ⟨⟨a0, a1, a2⟩, ⟨a3, a4⟩, a5, a6⟩ := seven hr1; have hlw1 : wr.heap.size < w1.heap.size := (Array.getElem?_eq_some_iff.1 hr1).1; clear hb hr1))
        all_goals go_ret
        all_goals rw [HSt.out]
        all_goals exact ⟨by simp, HB1.out.alloc HB1.out.size _⟩
      · have hlI : ((k : Int) == (L.length : Int) - 1) = true := by simp; omega
        have hdl : decide (k + 1 = L.length) = true := by simpa using hlast
        rw [hdl] at HSt
        clear hlast hdl
        go_wp2_with (first | (go_at_call 19; (with_reducible refine HKd.out.mono ?_); rintro e w1 ⟨rfl, hb⟩; have HB1 := Lib.hid (HBw.out.trans (hb.mono HBw.out.size)); have hr1 := (hb.block wr.heap.size hlw).trans HWr.out; clear a0 a1 a2 a3 a4 a5 a6; obtain ⟨⟨a0, a1, a2⟩, ⟨a3, a4⟩, a5, a6⟩ := seven hr1; have hlw1 : wr.heap.size < w1.heap.size := (Array.getElem?_eq_some_iff.1 hr1).1; clear hb hr1))
        all_goals go_ret
        all_goals rw [HSt.out]
        all_goals exact ⟨by simp, HB1.out.alloc HB1.out.size _⟩
      · have hall : Hid (vR L.length L = ((tgs i).all (inR L.length) && vR L.length (L.drop (k + 1)))) := Lib.hid (by rw [HSt.out]; simp)
        go_wp2_with (first
          | (go_at_call 19; (with_reducible refine HKd.out.mono ?_); rintro e w1 ⟨rfl, hb⟩; have HB1 := Lib.hid (HBw.out.trans (hb.mono HBw.out.size)); have hr1 := (hb.block wr.heap.size hlw).trans HWr.out; clear a0 a1 a2 a3 a4 a5 a6; obtain ⟨⟨a0, a1, a2⟩, ⟨a3, a4⟩, a5, a6⟩ := seven hr1; have hlw1 : wr.heap.size < w1.heap.size := (Array.getElem?_eq_some_iff.1 hr1).1; clear hb hr1)
          | (go_at_call 20; (with_reducible refine (HTg.out _ _ _).mono ?_); rintro e w2 ⟨g, rfl, hg, hg1, hg2, hb⟩; have HB2 := Lib.hid ((HB1.out.alloc HB1.out.size _).trans (hb.mono (HB1.out.alloc HB1.out.size _).size)); have HG := Lib.hid hg; have HG2 := Lib.hid hg2; clear hb hg hg1 hg2 a0 a1 a2 a3 a4 a5 a6 hlw1))
        go_loopw [49] (fun j wr2 => ∃ (q : Nat), q ≤ kt ∧ j = .int .i64 q ∧ Hid (wr2 = w2 ∧ ((tgs i).take q).all (inR L.length) = true)) (fun j _ => kt - (intOf j).toNat)
        case atStart => exact ⟨0, Nat.zero_le _, rfl, Lib.hid ⟨rfl, rfl⟩⟩
        case round =>
          obtain ⟨q, hq, rfl, HQ⟩ := hrel
          obtain ⟨rfl, hpre⟩ := HQ.out
          by_cases hqn : q < kt
          · have kq : (q : Int) < kt := by omega
            have kq0 : (0 : Int) ≤ q := by omega
            have kq2 : (kt : Int) ≤ 2 := by omega
            have hql : q < (tgs i).length := by rw [HGl.out]; exact hqn
            have hg2 := HG2.out
            have hx : wr.cell? ⟨g, q, none⟩ = some (.int .i64 (tgs i)[q]) := by
              have : q = 0 ∨ q = 1 := by omega
              rcases this with rfl | rfl
              · rw [tgs_0]; exact HG.out.1
              · rw [tgs_1]; exact HG.out.2
            have hin : ∀ bx, inR L.length (tgs i)[q] = bx → ((tgs i).take (q + 1)).all (inR L.length) = bx := fun bx hb => by
              rw [List.take_succ_eq_append_getElem hql, List.all_append, hpre, Bool.true_and]
              simpa using hb
            have hno : inR L.length (tgs i)[q] = false → (tgs i).all (inR L.length) = false := fun hb => by
              rw [List.all_eq_false]
              exact ⟨_, List.getElem_mem hql, by simp [hb]⟩
            generalize (tgs i)[q] = x at *
            have HIn := Lib.hid hin
            have HNo := Lib.hid hno
            clear hin hno hql hpre HQ
            by_cases hx0 : x < 0
            · go_wp2_with fail
              all_goals go_ret
              all_goals rw [hall.out, HNo.out (by unfold inR; rw [decide_eq_false (by omega)]; rfl)]
              all_goals exact ⟨rfl, HB2.out⟩
            by_cases hxn : (L.length : Int) ≤ x
            · go_wp2_with fail
              all_goals go_ret
              all_goals rw [hall.out, HNo.out (by unfold inR; rw [decide_eq_false (show ¬ x < (L.length : Int) by omega)]; simp)]
              all_goals exact ⟨rfl, HB2.out⟩
            go_wp2_with fail
            go_roundw
            case rel => exact ⟨q + 1, by omega, by go_num, Lib.hid ⟨trivial, HIn.out true (by unfold inR; rw [decide_eq_true (by omega), decide_eq_true (by omega)]; rfl)⟩⟩
            case measure => simp [intOf]; omega
          · obtain rfl : q = kt := by omega
            rw [List.take_of_length_le (by rw [HGl.out]; exact Nat.le_refl _)] at hpre
            have HPre := Lib.hid hpre
            clear hpre HQ
            go_wp2_with fail
            go_roundw
            case rel => exact ⟨k + 1, by omega, by go_num, Lib.hid ⟨HB2.out, by rw [hall.out, HPre.out, Bool.true_and]⟩⟩
            case measure => simp [intOf]; omega
      · have hlI : ((k : Int) == (L.length : Int) - 1) = false := by simp; omega
        have hall : Hid (vR L.length L = ((tgs i).all (inR L.length) && vR L.length (L.drop (k + 1)))) := Lib.hid (by rw [HSt.out, decide_eq_false hlast]; simp)
        clear hlast
        go_wp2_with (first
          | (go_at_call 19; (with_reducible refine HKd.out.mono ?_); rintro e w1 ⟨rfl, hb⟩; have HB1 := Lib.hid (HBw.out.trans (hb.mono HBw.out.size)); have hr1 := (hb.block wr.heap.size hlw).trans HWr.out; clear a0 a1 a2 a3 a4 a5 a6; obtain ⟨⟨a0, a1, a2⟩, ⟨a3, a4⟩, a5, a6⟩ := seven hr1; have hlw1 : wr.heap.size < w1.heap.size := (Array.getElem?_eq_some_iff.1 hr1).1; clear hb hr1)
          | (go_at_call 20; (with_reducible refine (HTg.out _ _ _).mono ?_); rintro e w2 ⟨g, rfl, hg, hg1, hg2, hb⟩; have HB2 := Lib.hid ((HB1.out.alloc HB1.out.size _).trans (hb.mono (HB1.out.alloc HB1.out.size _).size)); have HG := Lib.hid hg; have HG2 := Lib.hid hg2; clear hb hg hg1 hg2 a0 a1 a2 a3 a4 a5 a6 hlw1))
        go_loopw [49] (fun j wr2 => ∃ (q : Nat), q ≤ kt ∧ j = .int .i64 q ∧ Hid (wr2 = w2 ∧ ((tgs i).take q).all (inR L.length) = true)) (fun j _ => kt - (intOf j).toNat)
        case atStart => exact ⟨0, Nat.zero_le _, rfl, Lib.hid ⟨rfl, rfl⟩⟩
        case round =>
          obtain ⟨q, hq, rfl, HQ⟩ := hrel
          obtain ⟨rfl, hpre⟩ := HQ.out
          by_cases hqn : q < kt
          · have kq : (q : Int) < kt := by omega
            have kq0 : (0 : Int) ≤ q := by omega
            have kq2 : (kt : Int) ≤ 2 := by omega
            have hql : q < (tgs i).length := by rw [HGl.out]; exact hqn
            have hg2 := HG2.out
            have hx : wr.cell? ⟨g, q, none⟩ = some (.int .i64 (tgs i)[q]) := by
              have : q = 0 ∨ q = 1 := by omega
              rcases this with rfl | rfl
              · rw [tgs_0]; exact HG.out.1
              · rw [tgs_1]; exact HG.out.2
            have hin : ∀ bx, inR L.length (tgs i)[q] = bx → ((tgs i).take (q + 1)).all (inR L.length) = bx := fun bx hb => by
              rw [List.take_succ_eq_append_getElem hql, List.all_append, hpre, Bool.true_and]
              simpa using hb
            have hno : inR L.length (tgs i)[q] = false → (tgs i).all (inR L.length) = false := fun hb => by
              rw [List.all_eq_false]
              exact ⟨_, List.getElem_mem hql, by simp [hb]⟩
            generalize (tgs i)[q] = x at *
            have HIn := Lib.hid hin
            have HNo := Lib.hid hno
            clear hin hno hql hpre HQ
            by_cases hx0 : x < 0
            · go_wp2_with fail
              all_goals go_ret
              all_goals rw [hall.out, HNo.out (by unfold inR; rw [decide_eq_false (by omega)]; rfl)]
              all_goals exact ⟨rfl, HB2.out⟩
            by_cases hxn : (L.length : Int) ≤ x
            · go_wp2_with fail
              all_goals go_ret
              all_goals rw [hall.out, HNo.out (by unfold inR; rw [decide_eq_false (show ¬ x < (L.length : Int) by omega)]; simp)]
              all_goals exact ⟨rfl, HB2.out⟩
            go_wp2_with fail
            go_roundw
            case rel => exact ⟨q + 1, by omega, by go_num, Lib.hid ⟨trivial, HIn.out true (by unfold inR; rw [decide_eq_true (by omega), decide_eq_true (by omega)]; rfl)⟩⟩
            case measure => simp [intOf]; omega
          · obtain rfl : q = kt := by omega
            rw [List.take_of_length_le (by rw [HGl.out]; exact Nat.le_refl _)] at hpre
            have HPre := Lib.hid hpre
            clear hpre HQ
            go_wp2_with fail
            go_roundw
            case rel => exact ⟨k + 1, by omega, by go_num, Lib.hid ⟨HB2.out, by rw [hall.out, HPre.out, Bool.true_and]⟩⟩
            case measure => simp [intOf]; omega
    · obtain rfl : k = L.length := by omega
      have hend := HR.out.2
      rw [List.drop_length] at hend
      have hend : vR L.length L = true := hend
      have HEnd := Lib.hid hend
      clear hend
      go_wp2_with fail
      go_ret
      rw [HEnd.out]
      exact ⟨rfl, HR.out.1⟩
end Go.Proofs.YtbjobbkipmkndaaDoor
namespace Go.Proofs.YtbjobbkipmkndaaDoor
open Go.RowKit
def fits (n : Int) : Prop := -9223372036854775808 ≤ n ∧ n ≤ 9223372036854775807
instance (n : Int) : Decidable (fits n) := by unfold fits; infer_instance
end Go.Proofs.YtbjobbkipmkndaaDoor
namespace Go.Proofs.YtbjobbkipmkndaaDoor
open Go.RowKit
def allD (l : List UInt8) : Bool := l.all fun c => decide (48 ≤ c.toNat) && decide (c.toNat ≤ 57)
def val (l : List UInt8) : Int := l.foldl (fun n c => n * 10 - ((c.toNat : Int) - 48)) 0
theorem val_snoc (l : List UInt8) (c : UInt8) : val (l ++ [c]) = val l * 10 - ((c.toNat : Int) - 48) := by
  unfold val; rw [List.foldl_append]; rfl
theorem allD_snoc (l : List UInt8) (c : UInt8) : allD (l ++ [c]) = (allD l && (decide (48 ≤ c.toNat) && decide (c.toNat ≤ 57))) := by
  unfold allD; rw [List.all_append]; simp
end Go.Proofs.YtbjobbkipmkndaaDoor
namespace Go.Proofs.YtbjobbkipmkndaaDoor
open Go.RowKit
def cnt (m : Nat) : Nat := if m < 10 then 1 else cnt (m / 10) + 1
termination_by m
decreasing_by omega
theorem cnt_small (m : Nat) (h : m < 10) : cnt m = 1 := by rw [cnt, if_pos h]
theorem cnt_big (m : Nat) (h : ¬ m < 10) : cnt m = cnt (m / 10) + 1 := by rw [cnt, if_neg h]
theorem cnt_le : ∀ k m : Nat, m < 10 ^ (k + 1) → cnt m ≤ k + 1
  | 0, m, h => by rw [cnt_small m (by simpa using h)]; omega
  | k + 1, m, h => by
    by_cases hs : m < 10
    · rw [cnt_small m hs]; omega
    · rw [cnt_big m hs]
      have := cnt_le k (m / 10) (by apply Nat.div_lt_of_lt_mul; rw [Nat.pow_succ] at h; omega)
      omega
theorem div_step (m k : Nat) : m / 10 ^ (k + 1) = m / 10 ^ k / 10 := by rw [Nat.pow_succ, Nat.div_div_eq_div_mul]
def txt (m c : Nat) : List UInt8 := (List.range c).map fun j => UInt8.ofNat (48 + m / 10 ^ (c - 1 - j) % 10)
theorem txt_len (m c : Nat) : (txt m c).length = c := by simp [txt]
theorem txt_succ (m c : Nat) : txt m (c + 1) = UInt8.ofNat (48 + m / 10 ^ c % 10) :: txt m c := by
  unfold txt
  rw [List.range_succ_eq_map, List.map_cons, List.map_map]
  congr 1
  apply List.map_congr_left
  intro j _
  show UInt8.ofNat (48 + m / 10 ^ (c + 1 - 1 - (j + 1)) % 10) = _
  rw [show c + 1 - 1 - (j + 1) = c - 1 - j by omega]
def part (m c k : Nat) : List Value := (List.range c).map fun j => if c - k ≤ j then .int .u8 ((48 + m / 10 ^ (c - 1 - j) % 10 : Nat) : Int) else .int .u8 0
theorem part_len' (m c k : Nat) : (part m c k).length = c := by simp [part]
theorem part_zero (m c : Nat) : part m c 0 = List.replicate c (.int .u8 0) := by
  apply List.ext_getElem
  · simp [part]
  · intro j h1 h2
    rw [part_len'] at h1
    rw [List.getElem_replicate]
    simp only [part, List.getElem_map, List.getElem_range]
    rw [if_neg (by omega)]
theorem part_len (m c k : Nat) : (part m c k).length = c := by simp [part]
theorem part_at (m c k : Nat) (h : k < c) : (part m c k)[c - 1 - k]? = some (.int .u8 0) := by
  rw [List.getElem?_eq_getElem (by rw [part_len]; omega)]
  simp [part]
  omega
theorem part_step (m c k : Nat) (h : k < c) : (part m c k).set (c - 1 - k) (.int .u8 ((48 + m / 10 ^ k % 10 : Nat) : Int)) = part m c (k + 1) := by
  apply List.ext_getElem
  · simp [part]
  · intro j h1 h2
    rw [List.getElem_set]
    simp [part] at h2
    by_cases hj : c - 1 - k = j
    · rw [if_pos hj]
      subst hj
      simp only [part, List.getElem_map, List.getElem_range]
      rw [if_pos (by omega), show c - 1 - (c - 1 - k) = k by omega]
    · rw [if_neg hj]
      simp only [part, List.getElem_map, List.getElem_range]
      by_cases hk : c - k ≤ j
      · rw [if_pos hk, if_pos (by omega)]
      · rw [if_neg hk, if_neg (by omega)]
theorem byte_toNat (d : Nat) (h : d < 10) : (UInt8.ofNat (48 + d)).toNat = 48 + d := by
  rw [UInt8.toNat_ofNat']; omega
theorem part_all (m c : Nat) (j : Nat) (hj : j < (txt m c).length) : (part m c c)[j]? = some (.int .u8 (((txt m c)[j]).toNat : Int)) := by
  rw [txt_len] at hj
  rw [List.getElem?_eq_getElem (by rw [part_len]; exact hj)]
  simp only [part, txt, List.getElem_map, List.getElem_range]
  rw [if_pos (by omega), byte_toNat _ (by omega)]
end Go.Proofs.YtbjobbkipmkndaaDoor
namespace Go.Proofs.YtbjobbkipmkndaaDoor
open Go.RowKit
theorem Tryd.info5 : (Tryd.prog.info? 5).map (fun i => (i.zero, i.size, i.bytes)) = some (some (.int .u8 0), 1, 1) := by kernel_rfl
theorem ret_int {k : IntKind} {a b : Int} (h : a = b) : Ending.returned (.int k a) = .returned (.int k b) := by rw [h]
set_option maxHeartbeats 400000 in
theorem count_any (m : Nat) (w : World) (hm : m < 10000000000000000000) :
    Calls Tryd.prog 44 #[.int .u64 m] w fun e w' => e = .returned (.int .i64 (cnt m)) ∧ w = w' := by
  have HM := Lib.hid hm
  clear hm
  have hm' : m ≤ 10000000000000000000 := Nat.le_of_lt HM.out
  go_enter Tryd.func44, Tryd.ntmps44
  go_wp2
  go_loop [0, 4] (fun v i => ∃ k q : Nat, k ≤ 18 ∧ i = .int .i64 k ∧ v = .int .u64 q ∧ q ≤ 10000000000000000000 ∧ Hid (m / 10 ^ k = q) ∧ Hid (cnt q + k = cnt m)) (fun _ i => 19 - (intOf i).toNat)
  case atStart => exact ⟨0, m, by omega, rfl, rfl, hm', by simp [Hid], rfl⟩
  case round =>
    obtain ⟨k, q, hk, rfl, rfl, hq, h1, h2⟩ := hrel
    by_cases hs : q < 10
    · have h3 : Hid ((k : Int) + 1 = cnt m) := by
        have := h2.out
        rw [cnt_small q hs] at this
        show (k : Int) + 1 = cnt m
        omega
      have hs : (q : Int) < 10 := by omega
      clear h1 h2
      go_wp2
      all_goals (go_ret; exact ⟨ret_int h3.out, rfl⟩)
    · have hk2 : k < 18 := by
        have h4 := h1.out
        have h5 := HM.out
        by_cases e : k = 18
        · subst e
          have : m / 10 ^ 18 < 10 := by
            apply Nat.div_lt_of_lt_mul; omega
          omega
        · omega
      have h3 : Hid (m / 10 ^ (k + 1) = q / 10) := by
        show m / 10 ^ (k + 1) = q / 10
        rw [div_step, h1.out]
      have h4 : Hid (cnt (q / 10) + (k + 1) = cnt m) := by
        have := h2.out
        rw [cnt_big q hs] at this
        show cnt (q / 10) + (k + 1) = cnt m
        omega
      have hs : ¬ (q : Int) < 10 := by omega
      clear h1 h2
      go_wp2
      all_goals
        go_round
        case rel => exact ⟨k + 1, q / 10, by omega, by go_num, by simp, by omega, h3, h4⟩
        case measure => simp [intOf]; omega
theorem u8_cells (m c : Nat) {w : World} {B : Nat} (h : w.ownsRow B 5 1 (.slice (some ⟨B, 0, none⟩) c c) c (part m c c)) (j : Nat) (hj : j < (txt m c).length) :
    w.cell? ((⟨B, 0, none⟩ : Addr).add j) = some (.int .u8 (((txt m c)[j]).toNat : Int)) :=
  h.cells rfl j _ (part_all m c j hj)
set_option maxHeartbeats 400000 in
theorem fm_any (m : Nat) (w : World) (hm : m < 10000000000000000000) :
    Calls Tryd.prog 34 #[.int .u64 m] w fun e w' => e = .returned (.string ⟨(txt m (cnt m)).toArray⟩) ∧ Below w.heap.size w w' := by
  have HC : Hid (∀ w, Calls Tryd.prog 44 #[.int .u64 m] w fun e w' => e = .returned (.int .i64 (cnt m)) ∧ w = w') := fun w => count_any m w hm
  have hm' : m ≤ 10000000000000000000 := Nat.le_of_lt hm
  have hc20 : cnt m ≤ 20 := Nat.le_trans (cnt_le 18 m hm) (by omega)
  generalize cnt m = c at *
  obtain ⟨i0, hi, hz0, hz1, hz2⟩ := info_parts Tryd.info5
  clear hm
  go_enter Tryd.func34, Tryd.ntmps34
  go_wp2_with (first
    | (go_at_call 44; refine (HC.out _).mono ?_; rintro e w' ⟨rfl, rfl⟩)
    | (at_make; refine wpList_make_full _ rfl _ _ 54 rfl w.heap.size 5 i0 (.int .u8 0) 1 Tryd.underlying54 hi hz0 hz1 .i64 .i64 _ _ c rfl rfl rfl rfl (by rw [hz2]; omega) (by unfold maxLen; omega) (Nat.le_refl _) ?_; intro w0 hown0 hgrow0))
  have hown1 : w0.ownsRow w.heap.size 5 1 (.slice (some ⟨w.heap.size, 0, none⟩) c c) c (part m c 0) := by
    rw [part_zero, ← toList_madeCells_one]; rw [Nat.mul_one] at hown0; exact hown0
  have hbel : Below w.heap.size w w0 := (Below.refl _ w).grown hgrow0 (Nat.le_refl _) (fun k h => by cases h)
  have hsz : w.heap.size < w0.heap.size := (hown1.lt _ rfl).2
  clear hown0 hgrow0
  go_loopw [0, 11] (fun v i wr => ∃ k q : Nat, k ≤ c ∧ i = .int .i64 k ∧ v = .int .u64 q ∧ q ≤ 10000000000000000000 ∧ Hid (m / 10 ^ k = q) ∧
      wr.ownsRow w.heap.size 5 1 (.slice (some ⟨w.heap.size, 0, none⟩) c c) c (part m c k) ∧ Below w.heap.size w wr)
    (fun _ i _ => c - (intOf i).toNat)
  case atStart => exact ⟨0, m, by omega, rfl, rfl, hm', by simp [Hid], hown1, hbel⟩
  case round =>
    obtain ⟨k, q, hk, rfl, rfl, hq, h1, hown, hb⟩ := hrel
    by_cases hlt : k < c
    · have hcell : wr.cell? ⟨w.heap.size, c - 1 - k, none⟩ = some (.int .u8 0) := by
        rw [hown.cellAt (c - 1 - k) (by omega), part_at m c k hlt]
      have hfz : wr.frozen? ⟨w.heap.size, c - 1 - k, none⟩ = false := hown.frozenAt (c - 1 - k)
      have h3 : Hid (m / 10 ^ (k + 1) = q / 10) := by
        show m / 10 ^ (k + 1) = q / 10
        rw [div_step, h1.out]
      have hst := hown.stored (c - 1 - k) (.int .u8 ((48 + q % 10 : Nat) : Int))
      have e : ((48 + q % 10 : Nat) : Int) = 48 + (q : Int) % 10 := by omega
      have HS : Hid ((wr.setCell ⟨w.heap.size, c - 1 - k, none⟩ (.int .u8 (48 + (q : Int) % 10))).ownsRow w.heap.size 5 1 (.slice (some ⟨w.heap.size, 0, none⟩) c c) c (part m c (k + 1))) := by
        have := hst.1
        rw [← h1.out] at this
        rw [part_step m c k hlt] at this
        rw [h1.out, e] at this; exact this
      have HB : Hid (Below w.heap.size w (wr.setCell ⟨w.heap.size, c - 1 - k, none⟩ (.int .u8 (48 + (q : Int) % 10)))) := hb.setCell (Nat.le_refl _) _
      clear hst h1 e hown hb
      go_wp2
      go_roundw
      case rel => exact ⟨k + 1, q / 10, by omega, by go_num, by simp, by omega, h3, HS, HB⟩
      case measure => simp [intOf]; omega
    · obtain rfl : k = c := by omega
      have hcv := run_convert_bytes_back (P := Tryd.prog) wr 54 9 5 ⟨w.heap.size, 0, none⟩ k (txt m k) Tryd.underlying54 Tryd.underlying5 Tryd.underlying9 (u8_cells m k hown)
      rw [txt_len] at hcv
      clear h1 hown
      go_wp2
      go_ret
      exact ⟨rfl, hb⟩
end Go.Proofs.YtbjobbkipmkndaaDoor
