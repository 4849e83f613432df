/- RpTxI, RpTxP. -/
import Derived.Test.YtbjobbkipmkndaaDoorPp24
set_option linter.unusedVariables false
set_option linter.unusedSimpArgs false
set_option maxRecDepth 100000
set_option maxHeartbeats 8000000
namespace Go.Proofs.YtbjobbkipmkndaaDoor
open Go.RowKit
def tk (i : IN) (q : Nat) : List UInt8 := ((tgs i).take q).flatMap fun t => 32 :: nt t
theorem tk_all (i : IN) : tk i (ktg i.op) = tgT i := by unfold tk tgT; rw [← tgs_len, List.take_length]
theorem tk_succ (i : IN) (q : Nat) (h : q < (tgs i).length) : tk i (q + 1) = tk i q ++ (32 :: nt (tgs i)[q]) := by
  unfold tk
  rw [List.take_succ_eq_append_getElem h, List.flatMap_append]
  simp
theorem tgs_fit (i : IN) (hi : fits i.x ∧ fits i.y) (q : Nat) (h : q < (tgs i).length) : fits (tgs i)[q] := by
  have hm := List.getElem_mem h
  unfold tgs at hm
  have := List.mem_of_mem_take hm
  rcases List.mem_cons.1 this with e | e
  · rw [show (tgs i)[q] = i.x from e]; exact hi.1
  · rw [show (tgs i)[q] = i.y from List.mem_singleton.1 e]; exact hi.2
theorem tk_len (i : IN) (hi : fits i.x ∧ fits i.y) : ∀ q, q ≤ (tgs i).length → (tk i q).length ≤ 41 * q
  | 0, _ => by simp [tk]
  | q + 1, h => by
    have ih := tk_len i hi q (by omega)
    have hf := tgs_fit i hi q (by omega)
    have := nt_len _ hf.1 hf.2
    rw [tk_succ i q (by omega), List.length_append, List.length_cons]
    omega
theorem appinst_any (i : IN) (hi : fits i.x ∧ fits i.y) (B : Nat) (w : World) (v : Value) (xs : List UInt8) (h : OB B w v xs) (hz : xs.length ≤ 700000000) (hB : B ≤ w.heap.size) (hT : tabAt w) (hTB : 1 < B) (hK : KT w) :
    Calls Tryd.prog 22 #[v, .agg #[.int .i64 i.op, .int .u64 (wd i.st 0 64 : Nat), .int .u64 (wd i.st 64 64 : Nat), .int .u64 (wd i.st 128 64 : Nat), .int .u64 (wd i.st 192 64 : Nat), .int .i64 i.x, .int .i64 i.y]] w fun e w' => ∃ v', e = .returned v' ∧ OB B w' v' (xs ++ 32 :: lineT i) ∧ GB w w' v v' := by
  have hal := (Below.refl w.heap.size w).alloc (Nat.le_refl _) (.cells #[.int .i64 i.op, .int .u64 (wd i.st 0 64 : Nat), .int .u64 (wd i.st 64 64 : Nat), .int .u64 (wd i.st 128 64 : Nat), .int .u64 (wd i.st 192 64 : Nat), .int .i64 i.x, .int .i64 i.y] 39)
  have hWr := heap_alloc_new w (.cells #[.int .i64 i.op, .int .u64 (wd i.st 0 64 : Nat), .int .u64 (wd i.st 64 64 : Nat), .int .u64 (wd i.st 128 64 : Nat), .int .u64 (wd i.st 192 64 : Nat), .int .i64 i.x, .int .i64 i.y] 39)
  obtain ⟨W, hW⟩ : ∃ W, W = w.alloc (.cells #[.int .i64 i.op, .int .u64 (wd i.st 0 64 : Nat), .int .u64 (wd i.st 64 64 : Nat), .int .u64 (wd i.st 128 64 : Nat), .int .u64 (wd i.st 192 64 : Nat), .int .i64 i.x, .int .i64 i.y] 39) := ⟨_, rfl⟩
  rw [← hW] at hal hWr
  have HW := Lib.hid hW
  have HWr := Lib.hid hWr
  have HBw := Lib.hid hal
  obtain ⟨⟨a0, a1, a2⟩, ⟨a3, a4⟩, a5, a6⟩ := seven hWr
  have hlw : w.heap.size < W.heap.size := (Array.getElem?_eq_some_iff.1 hWr).1
  have HKd := Lib.hid (kind_any i.op W (hK.below hal))
  have HTg := Lib.hid (fun W s b => targets_any i s (ktg i.op) (ktg_le _) b W)
  have HO := Lib.hid h
  have HX := Lib.hid hz
  have HBB := Lib.hid hB
  have HOl := Lib.hid (fun g e => (h.lt g e).2)
  have HT0 := Lib.hid (And.intro hT hTB)
  have HI := Lib.hid hi
  obtain ⟨ad, cap, rfl⟩ := h.form
  clear h hz hT hTB hK hal hW hWr
  go_enter Tryd.func22, Tryd.ntmps22
  go_upto_region 1 with fail
  rw [← HW.out]
  obtain ⟨kb, hkb⟩ : ∃ kb, kgo i.op = kb := ⟨_, rfl⟩
  obtain ⟨ko, hko⟩ : ∃ ko, kok i.op = ko := ⟨_, rfl⟩
  obtain ⟨kt, hkt⟩ : ∃ kt, ktg i.op = kt := ⟨_, rfl⟩
  rw [hkb, hko, hkt] at HKd
  rw [hkt] at HTg
  go_upto_region 2 with (first
    | (go_at_call 19; (with_reducible refine HKd.out.mono ?_); rintro e w1 ⟨rfl, hb⟩; have HB1 := Lib.hid (HBw.out.trans (hb.mono HBw.out.size)); have hr1 := (hb.block w.heap.size hlw).trans HWr.out; clear a0 a1 a2 a3 a4 a5 a6; have hlw1 : w.heap.size < w1.heap.size := (Array.getElem?_eq_some_iff.1 hr1).1; have HR1 := Lib.hid hr1; clear hb hr1))
  have hW2 := heap_alloc_new w1 (.cells #[.string (bs (kwd i.op)), .int .i64 (kt : Int), .bool kb] 48)
  have hb2 := (Below.refl w1.heap.size w1).alloc (Nat.le_refl _) (.cells #[.string (bs (kwd i.op)), .int .i64 (kt : Int), .bool kb] 48)
  have hl2 : w1.heap.size < (w1.alloc (.cells #[.string (bs (kwd i.op)), .int .i64 (kt : Int), .bool kb] 48)).heap.size := (Array.getElem?_eq_some_iff.1 hW2).1
  generalize w1.alloc (.cells #[.string (bs (kwd i.op)), .int .i64 (kt : Int), .bool kb] 48) = W2 at *
  have HB2 := Lib.hid (HB1.out.trans (hb2.mono HB1.out.size))
  have HR2 := Lib.hid ((hb2.block w.heap.size hlw1).trans HR1.out)
  have HK2 := Lib.hid hW2
  have HO2 := Lib.hid (HO.out.below HB2.out)
  have hBW : B ≤ W2.heap.size := Nat.le_trans HBB.out HB2.out.size
  have k0 := cell_of_row W2 w1.heap.size 0 _ _ _ hW2
  have k0a : (W2.alloc (.cells #[.int .u8 32] 5)).cell? ⟨w1.heap.size, 0, none⟩ = some (.string (bs (kwd i.op))) := (World.cell?_of_block (w := W2) (Below.heap_alloc W2 (.cells #[.int .u8 32] 5) w1.heap.size hl2)).trans k0
  have HWL := Lib.hid (show (bs (kwd i.op)).size ≤ 5 by rw [bs_size]; exact kwd_len _)
  have HWd : Hid ((bs (kwd i.op)).data.toList = kwd i.op) := Lib.hid rfl
  generalize bs (kwd i.op) = ks at *
  clear hW2 hb2
  go_region_law
    (first
      | (refine step_app_blk (by rfl) B (.slice ad xs.length cap) xs 32 32 rfl _ _ W2.heap.size (by rfl) (by rfl) (by rfl) (heap_alloc_new W2 _) (HO2.out.below ((Below.refl _ _).alloc (Nat.le_refl _) (.cells #[.int .u8 32] 5))).drew (by have := HX.out; omega) (by have : W2.heap.size ≤ (W2.alloc (.cells #[.int .u8 32] 5)).heap.size := (by simp); exact Nat.le_trans hBW this) ?_
         intro v3 w3 ho3 hg3
         have k03 : w3.cell? ⟨w1.heap.size, 0, none⟩ = some (.string ks) := (cell_same (hg3.keep (by simp; omega) (fun e => by have := HOl.out _ e; omega))).trans k0a
         have HO3 := Lib.hid ho3
         have HG3 := Lib.hid hg3
         have hB3 : B ≤ w3.heap.size := Nat.le_trans hBW (Nat.le_trans (by simp) hg3.size)
         have HL3 : Hid ((xs ++ [(32 : UInt8)]).length + ks.size ≤ 1000000000) := Lib.hid (by rw [List.length_append, List.length_singleton]; have := HX.out; have := HWL.out; omega)
         clear ho3 hg3)
      | (refine step_app_str (by rfl) B v3 (xs ++ [32]) ks _ _ (by rfl) (by rfl) (by rfl) HO3.out HL3.out hB3 ?_
         intro v4 w4 ho4 hg4
         have HO4 := Lib.hid ho4
         have HG4 := Lib.hid hg4
         clear ho4 hg4))
  all_goals
    have hgx := HG3.out.trans HG4.out
    have hr4 := (hgx.keep (k := w.heap.size) (by show w.heap.size < (W2.alloc _).heap.size; simp; omega) (fun e => by have := HOl.out _ e; omega)).trans ((Below.heap_alloc W2 (.cells #[.int .u8 32] 5) w.heap.size (by omega)).trans HR2.out)
    have hk4 := (hgx.keep (k := w1.heap.size) (by show w1.heap.size < (W2.alloc _).heap.size; simp; omega) (fun e => by have := HOl.out _ e; omega)).trans ((Below.heap_alloc W2 (.cells #[.int .u8 32] 5) w1.heap.size (by omega)).trans HK2.out)
    have HG := Lib.hid ((GB.of (.slice ad xs.length cap) (HB2.out.alloc HB2.out.size (.cells #[.int .u8 32] 5)).drew).trans hgx)
    have HTa := Lib.hid (tab_keepG HT0.out.1 HG.out HO.out HBB.out HT0.out.2)
    have hB4 : B ≤ w4.heap.size := Nat.le_trans HBB.out HG.out.size
    have HOx : Hid (OB B w4 v4 (xs ++ 32 :: kwd i.op)) := Lib.hid (by have := HO4.out; rw [HWd.out] at this; simpa [List.append_assoc] using this)
    have HLx : Hid ((xs ++ 32 :: kwd i.op).length ≤ 700000010) := Lib.hid (by rw [List.length_append, List.length_cons]; have := HX.out; have := HWL.out; have := kwd_len i.op; omega)
    have HR4 := Lib.hid hr4
    have HK4 := Lib.hid hk4
    obtain ⟨⟨a0, a1, a2⟩, ⟨a3, a4⟩, a5, a6⟩ := seven hr4
    have b0 := cell_of_row w4 w1.heap.size 0 _ _ _ hk4
    have b1 := cell_of_row w4 w1.heap.size 1 _ _ _ hk4
    have b2 := cell_of_row w4 w1.heap.size 2 _ _ _ hk4
    have l4 : w.heap.size < w4.heap.size := (Array.getElem?_eq_some_iff.1 hr4).1
    have m4 : w1.heap.size < w4.heap.size := (Array.getElem?_eq_some_iff.1 hk4).1
    clear hgx hr4 hk4 k0 k0a k03 hBW hB3 HG3 HG4 HO3 HO4 HL3 HR2 HK2 HB2 HO2 HR1 hl2 hlw1 hlw hkb hko
  all_goals by_cases hop : i.op = 1
  all_goals first
    | (have o1 : (i.op == 1) = true := by simp [hop]
       have HS := Lib.hid (fun h hz hT => appset_any i.st B w4 v4 (xs ++ 32 :: kwd i.op) h hz hB4 hT)
       unfold cs cl at HS
       have HLi : Hid (32 :: lineT i = (32 :: kwd i.op) ++ rgs i.st 256) := Lib.hid (by unfold lineT; rw [if_pos hop]; rfl)
       have HOp := Lib.hid hop
       clear hop hkt
       go_wp2_with (first
         | (go_at_call 32; (with_reducible refine (HS.out HOx.out (by have := HLx.out; omega) HTa.out).mono ?_); rintro e0 w5 ⟨v5, rfl, ho5, hg5⟩; have HO5 := Lib.hid ho5; have HG5 := Lib.hid (HG.out.trans hg5); clear ho5 hg5))
       go_ret
       exact ⟨_, rfl, by have := HO5.out; rw [HLi.out, ← List.append_assoc]; exact this, HG5.out⟩)
    | skip
  all_goals
    have o1 : (i.op == 1) = false := by simp [hop]
    have HLi : Hid (32 :: lineT i = (32 :: kwd i.op) ++ tk i kt) := Lib.hid (by unfold lineT; rw [if_neg hop, ← hkt, tk_all]; rfl)
    have hgl : (tgs i).length = kt := by rw [tgs_len, hkt]
    have hkt2 : kt ≤ 2 := by rw [← hkt]; exact ktg_le _
    have HGl := Lib.hid hgl
    have HN32 := Lib.hid (fun (n : Int) (hn : fits n) (W : World) (v : Value) (ys : List UInt8) (h : OB B W v ys) (hz : ys.length ≤ 900000000) (hB : B ≤ W.heap.size) => appnum_any 32 32 rfl n hn B W v ys h hz hB)
    have HOw := Lib.hid (fun g e => (HOx.out.lt g e).2)
    clear hop hkt hgl
    go_wp2_with (first
      | (go_at_call 20; (with_reducible refine (HTg.out w4 ks kb).mono ?_); rintro e0 w5 ⟨g, rfl, hg1, hg3, hg4, hb5⟩; have HO5 := Lib.hid (HOx.out.below hb5); have HG5 := Lib.hid (HG.out.next hb5); have HC5 := Lib.hid hg1; have HGg := Lib.hid (And.intro hg3 hg4); clear hb5 hg1 hg3 hg4 a0 a1 a2 a3 a4 a5 a6 b0 b1 b2 l4 m4))
    go_loopw [0, 32] (fun tv j wq => ∃ (q : Nat) (x : Value), x = tv ∧ q ≤ kt ∧ j = .int .i64 q ∧ Hid (OB B wq x ((xs ++ 32 :: kwd i.op) ++ tk i q)) ∧ Hid (GB w5 wq v4 x)) (fun _ j _ => kt - (intOf j).toNat)
    case atStart => exact ⟨0, _, rfl, Nat.zero_le _, rfl, Lib.hid (by have := HO5.out; simpa [tk] using this), Lib.hid (GB.of _ (Below.refl _ _))⟩
    case round =>
      obtain ⟨q, x, rfl, hq, rfl, HQ, HH⟩ := hrel
      by_cases hqn : q < kt
      · have kq : (q : Int) < kt := by omega
        have kq0 : (0 : Int) ≤ q := by omega
        have kq2 : (kt : Int) ≤ 2 := by omega
        have hql : q < (tgs i).length := by rw [HGl.out]; exact hqn
        have hgk := HH.out.keep (k := g) HGg.out.2 (fun e => by have := HOw.out _ e; have := HGg.out.1; omega)
        have hgl : g < wr.heap.size := Nat.lt_of_lt_of_le HGg.out.2 HH.out.size
        have hx : wr.cell? ⟨g, q, none⟩ = some (.int .i64 (tgs i)[q]) := by
          refine (cell_same hgk).trans ?_
          have : q = 0 ∨ q = 1 := by omega
          rcases this with rfl | rfl
          · rw [tgs_0]; exact HC5.out.1
          · rw [tgs_1]; exact HC5.out.2
        have HS1 := Lib.hid (tk_succ i q hql)
        have HF1 := Lib.hid (tgs_fit i HI.out q hql)
        have HL1 : Hid (((xs ++ 32 :: kwd i.op) ++ tk i q).length ≤ 900000000) := Lib.hid (by rw [List.length_append]; have := HLx.out; have := tk_len i HI.out q (by omega); omega)
        have hBr : B ≤ wr.heap.size := Nat.le_trans HBB.out (Nat.le_trans HG5.out.size HH.out.size)
        generalize (tgs i)[q] = y at *
        clear hql hgk
        go_wp2_with (first
          | (go_at_call 33; (with_reducible refine (HN32.out y HF1.out wr x _ HQ.out HL1.out hBr).mono ?_); rintro e0 w6 ⟨v6, rfl, ho6, hg6⟩; have HO6 := Lib.hid ho6; have HG6 := Lib.hid (HH.out.trans hg6); clear ho6 hg6 hx))
        go_roundw
        case rel => exact ⟨q + 1, _, rfl, by omega, by go_num, Lib.hid (by rw [HS1.out, ← List.append_assoc]; exact HO6.out), HG6⟩
        case measure => simp [intOf]; omega
      · obtain rfl : q = kt := by omega
        go_wp2_with fail
        go_ret
        exact ⟨_, rfl, by rw [HLi.out, ← List.append_assoc]; exact HQ.out, HG5.out.trans HH.out⟩
end Go.Proofs.YtbjobbkipmkndaaDoor
set_option linter.unusedVariables false
set_option linter.unusedSimpArgs false
set_option maxRecDepth 100000
set_option maxHeartbeats 8000000
namespace Go.Proofs.YtbjobbkipmkndaaDoor
open Go.RowKit
theorem conv_OB {w : World} {B : Nat} {v : Value} {l : List UInt8} (h : OB B w v l) : (convert 54 9 v).run Tryd.prog w = .ok (.string (bs l)) w := by
  unfold OB at h
  rcases Joins.ownsRow_forms h with ⟨rfl, h0⟩ | ⟨g, cap, rfl⟩
  · have hl : l = [] := List.eq_nil_of_length_eq_zero h0
    subst hl
    rw [run_convert_bytes_string w 54 9 5 none 0 0 Tryd.underlying54 Tryd.underlying5 Tryd.underlying9]
    rfl
  · exact run_convert_bytes_back (P := Tryd.prog) w 54 9 5 ⟨g, 0, none⟩ cap l Tryd.underlying54 Tryd.underlying5 Tryd.underlying9 (fun j hj => h.cells rfl j _ (by
      unfold byC
      rw [List.getElem?_map, List.getElem?_eq_getElem hj]
      rfl))
theorem instT_len (k : Nat) (hk : k < 5000) (i : IN) (hi : fits i.x ∧ fits i.y) : (instT k i).length ≤ 21200 := by
  have h1 := nt_len (k : Int) (by omega) (by omega)
  have h2 := kwd_len i.op
  have h3 := rgs_len i.st 256 (Nat.le_refl _)
  have h4 := tk_len i hi (tgs i).length (Nat.le_refl _)
  have h5 := ktg_le i.op
  rw [tgs_len, tk_all] at h4
  unfold instT lineT
  simp only [List.length_append, List.length_cons, List.length_nil]
  by_cases ho : i.op = 1
  · rw [if_pos ho]; omega
  · rw [if_neg ho]; omega
theorem linesT_len (L : List IN) (hf : ∀ i ∈ L, fits i.x ∧ fits i.y) (h4 : L.length ≤ 4096) : ∀ k, k ≤ L.length → (linesT L k).length ≤ 21200 * k
  | 0, _ => by simp [linesT]
  | k + 1, h => by
    have ih := linesT_len L hf h4 k (by omega)
    have := instT_len k (by omega) L[k] (hf _ (List.getElem_mem _))
    rw [linesT_succ L k (by omega), List.length_append]
    omega
theorem headT_len (ln : Bool) : (headT ln).length ≤ 6 := by cases ln <;> decide
theorem tab_lt {w : World} (h : tabAt w) : 1 < w.heap.size := World.block_lt_of_cell? w _ (h 0 (by decide))
theorem kt_lt {w : World} (h : KT w) : 0 < w.heap.size := World.block_lt_of_cell? w _ (h 0 _ rfl)
theorem tab_under {B : Nat} {w w' : World} (h : tabAt w) (hb : Below B w w') (hB : 1 < B) : tabAt w' := fun j hj => (cell_same (hb.block _ hB)).trans (h j hj)
theorem kt_under {B : Nat} {w w' : World} (h : KT w) (hb : Below B w w') (hB : 0 < B) : KT w' := fun j v hj => (cell_same (hb.block _ hB)).trans (h j v hj)
theorem print_any (L : List IN) (v : Value) (n0 : Nat) (ln : Bool) (w : World) (h : PI w n0 L v) (hf : ∀ i ∈ L, fits i.x ∧ fits i.y) (hk : KT w) (hT : tabAt w) : Calls Tryd.prog 10 #[.agg #[v, .bool ln]] w fun e w' => e = .returned (.string (bs (prT ln L))) ∧ Below w.heap.size w w' := by
  have hform := h.form
  obtain ⟨ad, cap, rfl⟩ := hform
  have hb := (Below.refl w.heap.size w).alloc (Nat.le_refl _) (.cells #[.slice ad L.length cap, .bool ln] 24)
  have hbx := heap_alloc_new w (.cells #[.slice ad L.length cap, .bool ln] 24)
  have hsz : (w.alloc (.cells #[.slice ad L.length cap, .bool ln] 24)).heap.size = w.heap.size + 1 := by simp
  obtain ⟨W, hW⟩ : ∃ W, W = w.alloc (.cells #[.slice ad L.length cap, .bool ln] 24) := ⟨_, rfl⟩
  rw [← hW] at hb hbx hsz
  have HW := Lib.hid hW
  have HB := Lib.hid hb
  have HBx := Lib.hid hbx
  have hP := h.below hb
  have HP := Lib.hid hP
  have HKT := Lib.hid (hk.below hb)
  have HTa := Lib.hid (tab_keep hT hb)
  have HLt := Lib.hid (And.intro (tab_lt hT) (kt_lt hk))
  have HV := Lib.hid (valid_any L (.slice ad L.length cap) n0 ln W hP (hk.below hb))
  have HF := Lib.hid hf
  have b0 := cell_of_row W w.heap.size 0 _ _ _ hbx
  have b1 := cell_of_row W w.heap.size 1 _ _ _ hbx
  have HSz := Lib.hid hsz
  clear h hk hT hb hbx hW hP hf hsz
  go_enter Tryd.func10, Tryd.ntmps10
  go_upto_region 1 with fail
  rw [← HW.out]
  have hlw : w.heap.size < W.heap.size := by have := HSz.out; omega
  cases hval : valL L
  · have hpr : Hid (prT ln L = []) := Lib.hid (by unfold prT; rw [hval]; rfl)
    rw [hval] at HV
    clear hval
    go_wp2_with (first
      | (go_at_call 8; (with_reducible refine HV.out.mono ?_); rintro e w1 ⟨rfl, hb⟩; have HB1 := Lib.hid (HB.out.trans (hb.mono HB.out.size)); clear hb b0 b1))
    go_ret
    exact ⟨by rw [hpr.out]; rfl, HB1.out⟩
  · obtain ⟨lb, hlb⟩ : ∃ lb, lb = ln := ⟨_, rfl⟩
    have HLb := Lib.hid hlb
    have hpr : Hid (prT ln L = headT lb ++ linesT L L.length) := Lib.hid (by rw [hlb]; unfold prT; rw [hval]; rfl)
    clear hlb
    rw [hval] at HV
    have h4 : 1 ≤ L.length ∧ L.length ≤ 4096 := by
      unfold valL at hval
      simp only [Bool.and_eq_true, decide_eq_true_eq] at hval
      exact ⟨hval.1, hval.2.1⟩
    have HLL := Lib.hid (linesT_len L HF.out h4.2)
    have hL4 : L.length ≤ 4096 := h4.2
    have hL1 : 1 ≤ L.length := h4.1
    have hL4I : (L.length : Int) ≤ 4096 := by omega
    have HHL := Lib.hid (headT_len lb)
    clear hval h4
    go_upto_region 4 with (first
      | (go_at_call 8; (with_reducible refine HV.out.mono ?_); rintro e w1 ⟨rfl, hb⟩; have HB1 := Lib.hid (hb.mono (by have := HSz.out; omega) : Below (w.heap.size + 1) W w1); have hr1 := (hb.block w.heap.size hlw).trans HBx.out; clear b0 b1; have b0 := cell_of_row w1 w.heap.size 0 _ _ _ hr1; have b1 := cell_of_row w1 w.heap.size 1 _ _ _ hr1; have HR1 := Lib.hid hr1; have hl1 : w.heap.size < w1.heap.size := (Array.getElem?_eq_some_iff.1 hr1).1; clear hb hr1))
    have hB1 : w.heap.size + 1 ≤ w1.heap.size := by omega
    have HOn : Hid (OB (w.heap.size + 1) w1 (.slice none 0 0) []) := Lib.hid (OB.nil _ _)
    generalize (Value.slice none 0 0) = nv at HOn ⊢
    obtain ⟨b, i0, rfl, hbl, hce⟩ : ∃ b i, ad = some ⟨b, i, none⟩ ∧ b < W.heap.size ∧ ∀ (k : Nat) (hk : k < L.length) (j : Nat), j < 7 → W.cell? ⟨b, i + k * 7 + j, none⟩ = (rowI (L[k]'hk))[j]? := by
      obtain ⟨ad2, cap2, e2, _, h1⟩ := HP.out
      cases e2
      rcases h1 with h1 | ⟨b, i, e1, _, e2, e3⟩
      · omega
      · exact ⟨b, i, e1, e2, e3⟩
    have HCe := Lib.hid (And.intro (show b < w.heap.size + 1 by have := HSz.out; omega) hce)
    clear hbl hce
    have hL0 : (0 : Int) < (L.length : Int) := by omega
    cases ln
    case' false =>
      have HO2 : Hid (OB (w.heap.size + 1) w1 nv (headT lb)) := Lib.hid (by rw [HLb.out]; exact HOn.out)
      have HG2 := Lib.hid (Below.refl (w.heap.size + 1) w1)
      go_upto_region 6 with fail
    case' true =>
      go_upto_region 6 with (first
        | (at_builtin; refine wpList_app_str (w.heap.size + 1) nv [] ⟨#[108, 105, 110, 101, 115, 10]⟩ rfl _ _ rfl rfl rfl HOn.out (by decide) hB1 ?_; intro v2 w2 ho2 hg2; have HO2 : Hid (OB (w.heap.size + 1) w2 v2 (headT lb)) := Lib.hid (by rw [HLb.out]; exact ho2); have HG2 := Lib.hid (hg2.below HOn.out hB1); have hr2 := (HG2.out.block w.heap.size (by omega)).trans HR1.out; clear b0 b1; have b0 := cell_of_row w2 w.heap.size 0 _ _ _ hr2; have b1 := cell_of_row w2 w.heap.size 1 _ _ _ hr2; have hl2 : w.heap.size < w2.heap.size := (Array.getElem?_eq_some_iff.1 hr2).1; clear ho2 hg2 hr2))
    all_goals
      go_wp2_with fail
      go_loopw [3, 16] (fun tv j wr => ∃ (k : Nat) (x : Value), x = tv ∧ k ≤ L.length ∧ j = .int .i64 k ∧ Hid (OB (w.heap.size + 1) wr x (headT lb ++ linesT L k)) ∧ Hid (Below (w.heap.size + 1) w1 wr)) (fun _ j _ => L.length - (intOf j).toNat)
      case atStart => exact ⟨0, _, rfl, Nat.zero_le _, rfl, Lib.hid (by have := HO2.out; simpa [linesT] using this), HG2⟩
      case round =>
        obtain ⟨k, x, rfl, hk, rfl, HQ, HH⟩ := hrel
        have HBr := Lib.hid (HB1.out.trans HH.out)
        by_cases hkn : k < L.length
        · have ki : (k : Int) < L.length := by omega
          have ki0 : (0 : Int) ≤ k := by omega
          have hc : ∀ j u, (rowI L[k])[j]? = some u → j < 7 → wr.cell? ⟨b, i0 + k * 7 + j, none⟩ = some u := fun j u hu hj => by
            rw [(cell_same (HBr.out.block b HCe.out.1)), HCe.out.2 k hkn j hj, hu]
          have hfi := HF.out L[k] (List.getElem_mem hkn)
          have HSu := Lib.hid (linesT_succ L k hkn)
          have HLk := Lib.hid (HLL.out k hk)
          obtain ⟨i, hi⟩ : ∃ i, i = L[k] := ⟨_, rfl⟩
          rw [← hi] at hc hfi HSu
          have c0 := hc 0 _ rfl (by decide)
          have c1 := hc 1 _ rfl (by decide)
          have c2 := hc 2 _ rfl (by decide)
          have c3 := hc 3 _ rfl (by decide)
          have c4 := hc 4 _ rfl (by decide)
          have c5 := hc 5 _ rfl (by decide)
          have c6 := hc 6 _ rfl (by decide)
          rw [Nat.add_zero] at c0
          have hlb : b < wr.heap.size := by have := HCe.out.1; have := HBr.out.size; have := HSz.out; omega
          clear hc hi
          go_upto_region 9 with fail
          have hal := (Below.refl wr.heap.size wr).alloc (Nat.le_refl _) (.cells #[.int .i64 i.op, .int .u64 (wd i.st 0 64 : Nat), .int .u64 (wd i.st 64 64 : Nat), .int .u64 (wd i.st 128 64 : Nat), .int .u64 (wd i.st 192 64 : Nat), .int .i64 i.x, .int .i64 i.y] 39)
          have hwx := heap_alloc_new wr (.cells #[.int .i64 i.op, .int .u64 (wd i.st 0 64 : Nat), .int .u64 (wd i.st 64 64 : Nat), .int .u64 (wd i.st 128 64 : Nat), .int .u64 (wd i.st 192 64 : Nat), .int .i64 i.x, .int .i64 i.y] 39)
          generalize wr.alloc (.cells #[.int .i64 i.op, .int .u64 (wd i.st 0 64 : Nat), .int .u64 (wd i.st 64 64 : Nat), .int .u64 (wd i.st 128 64 : Nat), .int .u64 (wd i.st 192 64 : Nat), .int .i64 i.x, .int .i64 i.y] 39) = Wx at *
          obtain ⟨⟨d0, d1, d2⟩, ⟨d3, d4⟩, d5, d6⟩ := seven hwx
          have HWx := Lib.hid hwx
          have HAl := Lib.hid hal
          have hlx : wr.heap.size < Wx.heap.size := (Array.getElem?_eq_some_iff.1 hwx).1
          have HOx := Lib.hid (HQ.out.below hal)
          have HBx2 := Lib.hid (HBr.out.trans (hal.mono (Nat.le_trans HB1.out.size HH.out.size) |>.mono (by have := HBr.out.size; have := HSz.out; omega)))
          have hBx : w.heap.size + 1 ≤ Wx.heap.size := by have := HBx2.out.size; have := HSz.out; omega
          have HFm := Lib.hid (fun W => fmt_any (k : Int) W ⟨by omega, by omega⟩)
          have HNt : Hid ((fmtS (k : Int)).data.toList = nt (k : Int)) := Lib.hid rfl
          have HNl : Hid ((fmtS (k : Int)).size ≤ 40) := Lib.hid (nt_len (k : Int) (by omega) (by omega))
          have HI := Lib.hid (fun (w5 : World) (v : Value) (xs : List UInt8) (h : OB (w.heap.size + 1) w5 v xs) (hz : xs.length ≤ 700000000) (hB : w.heap.size + 1 ≤ w5.heap.size) (hT : tabAt w5) (hK : KT w5) => appinst_any i hfi (w.heap.size + 1) w5 v xs h hz hB hT (by have := HLt.out.1; omega) hK)
          have HLi : Hid ((lineT i).length ≤ 21200) := Lib.hid (by have := instT_len k (by omega) i hfi; unfold instT at this; simp only [List.length_append, List.length_cons] at this; omega)
          have HLk2 : Hid ((headT lb ++ linesT L k).length ≤ 90000000) := Lib.hid (by rw [List.length_append]; have := HHL.out; have := HLk.out; have : k ≤ 4096 := (by omega); omega)
          clear hwx hal c0 c1 c2 c3 c4 c5 c6 hfi
          generalize fmtS (k : Int) = s at *
          go_region_law
            (first
              | (go_simp; go_at_call 23; (with_reducible refine (HFm.out _).mono ?_); rintro e w4 ⟨rfl, hb4⟩
                 have hr4 := (hb4.block wr.heap.size hlx).trans HWx.out
                 have HR4 := Lib.hid hr4
                 have HO4 := Lib.hid (HOx.out.drew.below hb4)
                 have HB4 : Hid (Below (w.heap.size + 1) Wx w4) := Lib.hid (((Below.refl _ _).drew.trans hb4).mono hBx)
                 have hB4 : w.heap.size + 1 ≤ w4.heap.size := Nat.le_trans hBx HB4.out.size
                 have hl4 : wr.heap.size < w4.heap.size := (Array.getElem?_eq_some_iff.1 hr4).1
                 clear d0 d1 d2 d3 d4 d5 d6
                 obtain ⟨⟨d0, d1, d2⟩, ⟨d3, d4⟩, d5, d6⟩ := seven hr4
                 clear hr4 hb4)
              | (refine step_app_str (by rfl) (w.heap.size + 1) x _ s _ _ (by rfl) (by rfl) (by rfl) HO4.out (by have := HLk2.out; have := HNl.out; omega) hB4 ?_
                 intro v5 w5 ho5 hg5
                 have hr5 := (hg5.keep hl4 (fun e => by have := (HO4.out.lt _ e); have := HQ.out.lt _ e; omega)).trans HR4.out
                 have HO5 := Lib.hid ho5
                 have HB5 := Lib.hid (HB4.out.trans (hg5.below HO4.out hB4))
                 have hB5 : w.heap.size + 1 ≤ w5.heap.size := Nat.le_trans hBx HB5.out.size
                 clear d0 d1 d2 d3 d4 d5 d6
                 obtain ⟨⟨d0, d1, d2⟩, ⟨d3, d4⟩, d5, d6⟩ := seven hr5
                 clear hr5 ho5 hg5)
              | (go_simp; go_at_call 22; (with_reducible refine (HI.out w5 v5 _ HO5.out (by have := HLk2.out; have := HNl.out; rw [List.length_append]; have e9 : s.data.toList.length = s.size := (bsize s).symm; omega) hB5 (tab_under HTa.out (HBx2.out.trans HB5.out) (by have := HLt.out; omega)) (kt_under HKT.out (HBx2.out.trans HB5.out) (by have := HLt.out; omega))).mono ?_); rintro e w6 ⟨v6, rfl, ho6, hg6⟩
                 have HO6 := Lib.hid ho6
                 have HB6 := Lib.hid (HB5.out.trans (hg6.below HO5.out hB5))
                 have hB6 : w.heap.size + 1 ≤ w6.heap.size := Nat.le_trans hBx HB6.out.size
                 clear ho6 hg6))
          all_goals
            have hL6 : Hid ((((headT lb ++ linesT L k) ++ s.data.toList) ++ 32 :: lineT i).length + 1 ≤ 1000000000) := Lib.hid (by
              have h1 := HLk2.out
              have h2 := HNl.out
              have e9 : s.data.toList.length = s.size := (bsize s).symm
              have h3 := HLi.out
              simp only [List.length_append, List.length_cons] at h1 ⊢
              omega)
            have HEq : Hid ((((headT lb ++ linesT L k) ++ s.data.toList) ++ 32 :: lineT i) ++ [10] = headT lb ++ linesT L (k + 1)) := Lib.hid (by
              rw [HSu.out, HNt.out]
              unfold instT
              simp [List.append_assoc])
            have HBf := Lib.hid (HH.out.trans ((HAl.out.mono (Nat.le_trans hB1 HH.out.size)).trans HB6.out))
            clear d0 d1 d2 d3 d4 d5 d6 HO4 HO5 HB4 HB5 hB4 hB5 hl4 hlx
            go_wp2_with (first
              | (at_builtin; refine wpList_app_one (w.heap.size + 1) v6 _ 10 10 rfl rfl _ _ w6 rfl rfl rfl rfl HO6.out hL6.out hB6 ?_; intro v7 w7 ho7 hg7; have HO7 := Lib.hid ho7; have HB7 := Lib.hid (HBf.out.trans (hg7.below HO6.out hB6)); clear ho7 hg7))
            go_roundw
            case rel => exact ⟨k + 1, _, rfl, by omega, by go_num, Lib.hid (by rw [← HEq.out]; exact HO7.out), HB7⟩
            case measure => simp [intOf]; omega
        · obtain rfl : k = L.length := by omega
          have hcv := conv_OB HQ.out
          go_wp2_with fail
          go_ret
          exact ⟨by rw [hpr.out]; rfl, HB.out.trans (HBr.out.mono (by omega))⟩
end Go.Proofs.YtbjobbkipmkndaaDoor
