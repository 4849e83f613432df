/- RtUiv. -/
import Derived.Test.YtbjobbkipmkndaaDoorPj7
import Derived.Laws.EntriesVeiled
set_option linter.unusedVariables false
set_option linter.unusedSimpArgs false
set_option maxRecDepth 100000
set_option maxHeartbeats 8000000
namespace Go.Proofs.YtbjobbkipmkndaaDoor
open Go.RowKit
theorem val9_i (I : Int → Prop) (R : TN → List Int → Int) (HRu : Hid (Rule_i I R)) (f : F) (l h : Int) (st : Nat → Bool) (ad : Option Addr) (cap : Nat) (w : World) (S : Nat → Prop) (G X1 X3 : Nat) (grp : Nat → List Int) (gv : Nat → Value) (h0 : GMv 85 3 1 cells_i w G grp gv) (hE : Env 39 48 w G X1 X3) (k : Nat) (hk : k < 10) (hP : PN I ⟨9, st, l, h, (k : Int), f⟩ (grp k)) :
    Calls Tryd.prog 48 #[.agg #[.int .i64 9, .int .u64 (wd st 0 64 : Nat), .int .u64 (wd st 64 64 : Nat), .int .u64 (wd st 128 64 : Nat), .int .u64 (wd st 192 64 : Nat), .int .i64 l, .int .i64 h, .int .i64 (k : Int), .slice ad f.len cap], .pointer (some ⟨X1, 0, none⟩), .pointer (some ⟨G, 0, none⟩), .pointer (some ⟨X3, 0, none⟩)] w fun e w' => e = .returned (.int .i64 (R ⟨9, st, l, h, (k : Int), f⟩ (grp k))) ∧ (∃ gv', GMv 85 3 1 cells_i w' G grp gv' ∧ Mov gv gv' w.heap.size) ∧ Only G w w' := by
  have hGl := h0.lt
  have hX1 : X1 < w.heap.size := World.block_lt_of_cell? w _ hE.c1
  have hX3 : X3 < w.heap.size := World.block_lt_of_cell? w _ hE.c3
  have hx : Below w.heap.size w (w.alloc (.cells #[.int .i64 9, .int .u64 (wd st 0 64 : Nat), .int .u64 (wd st 64 64 : Nat), .int .u64 (wd st 128 64 : Nat), .int .u64 (wd st 192 64 : Nat), .int .i64 l, .int .i64 h, .int .i64 (k : Int), .slice ad f.len cap] 34)) := (Below.refl _ _).alloc (Nat.le_refl _) _
  have c1 := (hx.cell (p := ⟨X1, 0, none⟩) hX1).trans hE.c1
  have c3 := (hx.cell (p := ⟨X3, 0, none⟩) hX3).trans hE.c3
  have H0 := Lib.hid (h0.below hx)
  have HX := Lib.hid hx
  have HEn := Lib.hid (hE.only (Only.of_below (B := G) hx))
  have he : ((w.alloc (.cells #[.int .i64 9, .int .u64 (wd st 0 64 : Nat), .int .u64 (wd st 64 64 : Nat), .int .u64 (wd st 128 64 : Nat), .int .u64 (wd st 192 64 : Nat), .int .i64 l, .int .i64 h, .int .i64 (k : Int), .slice ad f.len cap] 34))).heap[w.heap.size]? = some (.cells #[.int .i64 9, .int .u64 (wd st 0 64 : Nat), .int .u64 (wd st 64 64 : Nat), .int .u64 (wd st 128 64 : Nat), .int .u64 (wd st 192 64 : Nat), .int .i64 l, .int .i64 h, .int .i64 (k : Int), .slice ad f.len cap] 34 (0, 0)) := by
    skip
    exact heap_alloc_new w _
  have HEB := Lib.hid he
  have HL := Lib.hid (And.intro hGl (And.intro hX1 hX3))
  have cg := (h0.below hx).cell k hk
  have HNR : Hid (∀ j, j < 10 → (gv j).ownBlock ≠ some (w.heap.size + 1)) := Lib.hid (fun j hj e => by have := (own_at (h0.pv j hj) _ e).2; omega)
  have hk0 : (0 : Int) ≤ (k : Int) := by omega
  have hk1 : (k : Int) < 10 := by omega
  have hz2 : w.heap.size < ((w.alloc (.cells #[.int .i64 9, .int .u64 (wd st 0 64 : Nat), .int .u64 (wd st 64 64 : Nat), .int .u64 (wd st 128 64 : Nat), .int .u64 (wd st 192 64 : Nat), .int .i64 l, .int .i64 h, .int .i64 (k : Int), .slice ad f.len cap] 34))).heap.size := by simp
  have HZ2 := Lib.hid hz2
  obtain ⟨⟨⟨a0, a1, a2⟩, a3, a4, a5⟩, a6, a7, a8⟩ := nine he
  have HP := Lib.hid hP
  clear h0 hE hx he hP hz2 c3
  go_enter Tryd.func48, Tryd.ntmps48
  go_upto_region 2 with fail
  generalize (w.alloc (.cells #[.int .i64 9, .int .u64 (wd st 0 64 : Nat), .int .u64 (wd st 64 64 : Nat), .int .u64 (wd st 128 64 : Nat), .int .u64 (wd st 192 64 : Nat), .int .i64 l, .int .i64 h, .int .i64 (k : Int), .slice ad f.len cap] 34)) = W2 at *
  have hpv : PV 3 1 cells_i W2.drew (G + 1) (grp k) (gv k) := (H0.out.below (Below.refl _ _).drew).pv k hk
  have HPV := Lib.hid hpv
  obtain ⟨qad, qcap, hq⟩ := own_sl hpv
  rw [hq] at cg HPV
  clear hq hpv
  go_still_tail 6, (by kernel_rfl)
  change wpList _ _ _ _ _ W2.drew
  go_wp2_with (first
    | (go_at_call 39; (with_reducible refine (HRu.out _ (G + 1) ⟨9, st, l, h, (k : Int), f⟩ ad cap (grp k) _ HPV.out HP.out).mono ?_); rintro e w1 ⟨rfl, hb⟩
       have hb2 := ((Below.refl W2.heap.size W2).drew).trans hb
       have HB := Lib.hid (HX.out.trans (hb2.mono HX.out.size))
       have HG1 := Lib.hid (H0.out.below hb2)
       skip
       clear hb hb2)
    )
  go_ret
  exact ⟨rfl, ⟨gv, HG1.out, Mov.refl _ _⟩, Only.of_below HB.out⟩
theorem val6_i (I : Int → Prop) (R : TN → List Int → Int) (HRu : Hid (Rule_i I R)) (f : F) (l h : Int) (st : Nat → Bool) (ad : Option Addr) (cap : Nat) (w : World) (S : Nat → Prop) (G X1 X3 : Nat) (grp : Nat → List Int) (gv : Nat → Value) (h0 : GMv 85 3 1 cells_i w G grp gv) (hE : Env 39 48 w G X1 X3) (Y : List Int × (Nat → List Int)) (hsv : SV w S f (.slice ad f.len cap)) (HMp : Hid (∀ W, SV W S f (.slice ad f.len cap) → GMv 85 3 1 cells_i W G grp gv → Env 39 48 W G X1 X3 → Calls Tryd.prog 49 #[.slice ad f.len cap, .func (.func 48) #[] #[.pointer (some ⟨X1, 0, none⟩), .pointer (some ⟨G, 0, none⟩), .pointer (some ⟨X3, 0, none⟩)]] W fun e w' => ∃ rv, e = .returned rv ∧ PV 3 1 cells_i w' W.heap.size Y.1 rv ∧ (∃ gv', GMv 85 3 1 cells_i w' G Y.2 gv' ∧ Mov gv gv' W.heap.size) ∧ Only G W w')) (k : Nat) (hk : k < 10) (hP : PN I ⟨6, st, l, h, (k : Int), f⟩ Y.1) :
    Calls Tryd.prog 48 #[.agg #[.int .i64 6, .int .u64 (wd st 0 64 : Nat), .int .u64 (wd st 64 64 : Nat), .int .u64 (wd st 128 64 : Nat), .int .u64 (wd st 192 64 : Nat), .int .i64 l, .int .i64 h, .int .i64 (k : Int), .slice ad f.len cap], .pointer (some ⟨X1, 0, none⟩), .pointer (some ⟨G, 0, none⟩), .pointer (some ⟨X3, 0, none⟩)] w fun e w' => e = .returned (.int .i64 (R ⟨6, st, l, h, (k : Int), f⟩ Y.1)) ∧ (∃ gv', GMv 85 3 1 cells_i w' G (upG Y.2 k Y.1) gv' ∧ Mov gv gv' w.heap.size) ∧ Only G w w' := by
  have hGl := h0.lt
  have hX1 : X1 < w.heap.size := World.block_lt_of_cell? w _ hE.c1
  have hX3 : X3 < w.heap.size := World.block_lt_of_cell? w _ hE.c3
  have hx : Below w.heap.size w (w.alloc (.cells #[.int .i64 6, .int .u64 (wd st 0 64 : Nat), .int .u64 (wd st 64 64 : Nat), .int .u64 (wd st 128 64 : Nat), .int .u64 (wd st 192 64 : Nat), .int .i64 l, .int .i64 h, .int .i64 (k : Int), .slice ad f.len cap] 34)) := (Below.refl _ _).alloc (Nat.le_refl _) _
  have c1 := (hx.cell (p := ⟨X1, 0, none⟩) hX1).trans hE.c1
  have c3 := (hx.cell (p := ⟨X3, 0, none⟩) hX3).trans hE.c3
  have H0 := Lib.hid (h0.below hx)
  have HX := Lib.hid hx
  have HEn := Lib.hid (hE.only (Only.of_below (B := G) hx))
  have he : ((w.alloc (.cells #[.int .i64 6, .int .u64 (wd st 0 64 : Nat), .int .u64 (wd st 64 64 : Nat), .int .u64 (wd st 128 64 : Nat), .int .u64 (wd st 192 64 : Nat), .int .i64 l, .int .i64 h, .int .i64 (k : Int), .slice ad f.len cap] 34))).heap[w.heap.size]? = some (.cells #[.int .i64 6, .int .u64 (wd st 0 64 : Nat), .int .u64 (wd st 64 64 : Nat), .int .u64 (wd st 128 64 : Nat), .int .u64 (wd st 192 64 : Nat), .int .i64 l, .int .i64 h, .int .i64 (k : Int), .slice ad f.len cap] 34 (0, 0)) := by
    skip
    exact heap_alloc_new w _
  have HEB := Lib.hid he
  have HL := Lib.hid (And.intro hGl (And.intro hX1 hX3))
  have HSV := Lib.hid (hsv.far (Afar.below hx))
  have hk0 : (0 : Int) ≤ (k : Int) := by omega
  have hk1 : (k : Int) < 10 := by omega
  have HNR : Hid (∀ j b, j < 10 → (gv j).ownBlock = some b → b < w.heap.size) := Lib.hid (fun j b hj e => (own_at (h0.pv j hj) _ e).2)
  have hz2 : w.heap.size < ((w.alloc (.cells #[.int .i64 6, .int .u64 (wd st 0 64 : Nat), .int .u64 (wd st 64 64 : Nat), .int .u64 (wd st 128 64 : Nat), .int .u64 (wd st 192 64 : Nat), .int .i64 l, .int .i64 h, .int .i64 (k : Int), .slice ad f.len cap] 34))).heap.size := by simp
  have HZ2 := Lib.hid hz2
  obtain ⟨⟨⟨a0, a1, a2⟩, a3, a4, a5⟩, a6, a7, a8⟩ := nine he
  have HP := Lib.hid hP
  clear h0 hE hx he hP hz2 hsv
  go_enter Tryd.func48, Tryd.ntmps48
  go_upto_region 3 with fail
  generalize hW2 : (w.alloc (.cells #[.int .i64 6, .int .u64 (wd st 0 64 : Nat), .int .u64 (wd st 64 64 : Nat), .int .u64 (wd st 128 64 : Nat), .int .u64 (wd st 192 64 : Nat), .int .i64 l, .int .i64 h, .int .i64 (k : Int), .slice ad f.len cap] 34)) = W2 at *
  clear hW2
  go_upto_region 4 with (first
    | (go_at_call 49; (with_reducible refine (HMp.out _ HSV.out H0.out HEn.out).mono ?_); rintro e w1 ⟨rv, rfl, hpv, ⟨gv2, hg2, hm2⟩, ho2⟩
       have HPV := Lib.hid hpv
       have HG2 := Lib.hid hg2
       have HM2 := Lib.hid hm2
       have HO2 := Lib.hid ho2
       clear hpv hg2 hm2 ho2 a0 a1 a2 a3 a4 a5 a6 a7 a8 c1 c3)
    )
  have hwl := HX.out.size
  have HWL := Lib.hid hwl
  have hPG : w.heap.size ≠ G := by have := HL.out.1; omega
  have hb1 := (HO2.out.block w.heap.size (by have := HZ2.out; omega) hPG).trans HEB.out
  have HB1 := Lib.hid hb1
  obtain ⟨⟨⟨a0, a1, a2⟩, a3, a4, a5⟩, a6, a7, a8⟩ := nine hb1
  have hEn1 := HEn.out.only HO2.out
  have HE1 := Lib.hid hEn1
  have c1 := hEn1.c1
  obtain ⟨rad, rcap, rfl⟩ := own_sl HPV.out
  have HPg : Hid (PV 3 1 cells_i w1 (G + 1) Y.1 (.slice rad Y.1.length rcap)) := Lib.hid (own_base HPV.out (by have := HL.out.1; omega))
  have HOw : Hid (Only G w w1) := Lib.hid ((Only.of_below HX.out).trans HO2.out)
  clear hb1 hEn1 hwl
  have cg := HG2.out.cell k hk
  have fg := HG2.out.free k
  have hGl1 := HG2.out.lt
  go_upto_region 6 with fail
  have HG3 := Lib.hid (HG2.out.put k hk HPg.out)
  have HO3 : Hid (Only G w1 (w1.setCell ⟨G, k, none⟩ (.slice rad Y.1.length rcap))) := Lib.hid ((Only.refl G w1).put k _)
  clear a0 a1 a2 a3 a4 a5 a6 a7 a8 c1 cg fg hGl1
  generalize w1.setCell ⟨G, k, none⟩ (.slice rad Y.1.length rcap) = W3 at HG3 HO3 ⊢
  have hb3 := (HO3.out.block w.heap.size (by have := (Array.getElem?_eq_some_iff.1 HB1.out).1; exact this) hPG).trans HB1.out
  obtain ⟨⟨⟨a0, a1, a2⟩, a3, a4, a5⟩, a6, a7, a8⟩ := nine hb3
  have c1 := (HE1.out.only HO3.out).c1
  have HP3 := Lib.hid (HPg.out.only (by omega) HO3.out)
  clear hb3
  have HMv : Hid (Mov gv (upV gv2 k (.slice rad Y.1.length rcap)) w.heap.size) := Lib.hid (fun j b hj e => by
      unfold upV at e
      by_cases ejk : j = k
      · rw [if_pos ejk] at e
        have := (own_at HPV.out b e).1
        have := HWL.out
        exact .inr (by omega)
      · rw [if_neg ejk] at e
        rcases HM2.out j b hj e with h1 | h1
        · exact .inl h1
        · have := HWL.out
          exact .inr (by omega))
  go_wp2_with (first
    | (go_at_call 39; (with_reducible refine (HRu.out _ (G + 1) ⟨6, st, l, h, (k : Int), f⟩ ad cap Y.1 _ HP3.out HP.out).mono ?_); rintro e w4 ⟨rfl, hb⟩
       have HB4 := Lib.hid (((HOw.out.trans HO3.out)).next hb)
       have HG4 := Lib.hid (HG3.out.below hb)
       skip
       clear hb)
    )
  go_ret
  exact ⟨rfl, ⟨_, HG4.out, HMv.out⟩, HB4.out⟩
theorem valo_i (I : Int → Prop) (R : TN → List Int → Int) (HRu : Hid (Rule_i I R)) (f : F) (o l h g : Int) (st : Nat → Bool) (ad : Option Addr) (cap : Nat) (w : World) (S : Nat → Prop) (G X1 X3 : Nat) (grp : Nat → List Int) (gv : Nat → Value) (h0 : GMv 85 3 1 cells_i w G grp gv) (hE : Env 39 48 w G X1 X3) (Y : List Int × (Nat → List Int)) (hsv : SV w S f (.slice ad f.len cap)) (HMp : Hid (∀ W, SV W S f (.slice ad f.len cap) → GMv 85 3 1 cells_i W G grp gv → Env 39 48 W G X1 X3 → Calls Tryd.prog 49 #[.slice ad f.len cap, .func (.func 48) #[] #[.pointer (some ⟨X1, 0, none⟩), .pointer (some ⟨G, 0, none⟩), .pointer (some ⟨X3, 0, none⟩)]] W fun e w' => ∃ rv, e = .returned rv ∧ PV 3 1 cells_i w' W.heap.size Y.1 rv ∧ (∃ gv', GMv 85 3 1 cells_i w' G Y.2 gv' ∧ Mov gv gv' W.heap.size) ∧ Only G W w')) (h9 : (o == 9) = false) (g9 : ¬ o = 9) (h6 : (o == 6) = false) (g6 : ¬ o = 6) (hP : PN I ⟨o, st, l, h, g, f⟩ Y.1) :
    Calls Tryd.prog 48 #[.agg #[.int .i64 o, .int .u64 (wd st 0 64 : Nat), .int .u64 (wd st 64 64 : Nat), .int .u64 (wd st 128 64 : Nat), .int .u64 (wd st 192 64 : Nat), .int .i64 l, .int .i64 h, .int .i64 g, .slice ad f.len cap], .pointer (some ⟨X1, 0, none⟩), .pointer (some ⟨G, 0, none⟩), .pointer (some ⟨X3, 0, none⟩)] w fun e w' => e = .returned (.int .i64 (R ⟨o, st, l, h, g, f⟩ Y.1)) ∧ (∃ gv', GMv 85 3 1 cells_i w' G Y.2 gv' ∧ Mov gv gv' w.heap.size) ∧ Only G w w' := by
  have hGl := h0.lt
  have hX1 : X1 < w.heap.size := World.block_lt_of_cell? w _ hE.c1
  have hX3 : X3 < w.heap.size := World.block_lt_of_cell? w _ hE.c3
  have hx : Below w.heap.size w (w.alloc (.cells #[.int .i64 o, .int .u64 (wd st 0 64 : Nat), .int .u64 (wd st 64 64 : Nat), .int .u64 (wd st 128 64 : Nat), .int .u64 (wd st 192 64 : Nat), .int .i64 l, .int .i64 h, .int .i64 g, .slice ad f.len cap] 34)) := (Below.refl _ _).alloc (Nat.le_refl _) _
  have c1 := (hx.cell (p := ⟨X1, 0, none⟩) hX1).trans hE.c1
  have c3 := (hx.cell (p := ⟨X3, 0, none⟩) hX3).trans hE.c3
  have H0 := Lib.hid (h0.below hx)
  have HX := Lib.hid hx
  have HEn := Lib.hid (hE.only (Only.of_below (B := G) hx))
  have he : ((w.alloc (.cells #[.int .i64 o, .int .u64 (wd st 0 64 : Nat), .int .u64 (wd st 64 64 : Nat), .int .u64 (wd st 128 64 : Nat), .int .u64 (wd st 192 64 : Nat), .int .i64 l, .int .i64 h, .int .i64 g, .slice ad f.len cap] 34))).heap[w.heap.size]? = some (.cells #[.int .i64 o, .int .u64 (wd st 0 64 : Nat), .int .u64 (wd st 64 64 : Nat), .int .u64 (wd st 128 64 : Nat), .int .u64 (wd st 192 64 : Nat), .int .i64 l, .int .i64 h, .int .i64 g, .slice ad f.len cap] 34 (0, 0)) := by
    skip
    exact heap_alloc_new w _
  have HEB := Lib.hid he
  have HL := Lib.hid (And.intro hGl (And.intro hX1 hX3))
  have HSV := Lib.hid (hsv.far (Afar.below hx))
  have HNR : Hid (∀ j b, j < 10 → (gv j).ownBlock = some b → b < w.heap.size) := Lib.hid (fun j b hj e => (own_at (h0.pv j hj) _ e).2)
  have hz2 : w.heap.size < ((w.alloc (.cells #[.int .i64 o, .int .u64 (wd st 0 64 : Nat), .int .u64 (wd st 64 64 : Nat), .int .u64 (wd st 128 64 : Nat), .int .u64 (wd st 192 64 : Nat), .int .i64 l, .int .i64 h, .int .i64 g, .slice ad f.len cap] 34))).heap.size := by simp
  have HZ2 := Lib.hid hz2
  obtain ⟨⟨⟨a0, a1, a2⟩, a3, a4, a5⟩, a6, a7, a8⟩ := nine he
  have HP := Lib.hid hP
  clear h0 hE hx he hP hz2 hsv
  go_enter Tryd.func48, Tryd.ntmps48
  go_upto_region 3 with fail
  generalize hW2 : (w.alloc (.cells #[.int .i64 o, .int .u64 (wd st 0 64 : Nat), .int .u64 (wd st 64 64 : Nat), .int .u64 (wd st 128 64 : Nat), .int .u64 (wd st 192 64 : Nat), .int .i64 l, .int .i64 h, .int .i64 g, .slice ad f.len cap] 34)) = W2 at *
  clear hW2
  go_upto_region 4 with (first
    | (go_at_call 49; (with_reducible refine (HMp.out _ HSV.out H0.out HEn.out).mono ?_); rintro e w1 ⟨rv, rfl, hpv, ⟨gv2, hg2, hm2⟩, ho2⟩
       have HPV := Lib.hid hpv
       have HG2 := Lib.hid hg2
       have HM2 := Lib.hid hm2
       have HO2 := Lib.hid ho2
       clear hpv hg2 hm2 ho2 a0 a1 a2 a3 a4 a5 a6 a7 a8 c1 c3)
    )
  have hwl := HX.out.size
  have HWL := Lib.hid hwl
  have hPG : w.heap.size ≠ G := by have := HL.out.1; omega
  have hb1 := (HO2.out.block w.heap.size (by have := HZ2.out; omega) hPG).trans HEB.out
  have HB1 := Lib.hid hb1
  obtain ⟨⟨⟨a0, a1, a2⟩, a3, a4, a5⟩, a6, a7, a8⟩ := nine hb1
  have hEn1 := HEn.out.only HO2.out
  have HE1 := Lib.hid hEn1
  have c1 := hEn1.c1
  obtain ⟨rad, rcap, rfl⟩ := own_sl HPV.out
  have HPg : Hid (PV 3 1 cells_i w1 (G + 1) Y.1 (.slice rad Y.1.length rcap)) := Lib.hid (own_base HPV.out (by have := HL.out.1; omega))
  have HOw : Hid (Only G w w1) := Lib.hid ((Only.of_below HX.out).trans HO2.out)
  clear hb1 hEn1 hwl
  have HG3 := HG2
  have HO3 : Hid (Only G w1 w1) := Lib.hid (Only.refl G w1)
  have HP3 := HPg
  have HMv : Hid (Mov gv gv2 w.heap.size) := Lib.hid (fun j b hj e => by
      rcases HM2.out j b hj e with h1 | h1
      · exact .inl h1
      · have := HWL.out
        exact .inr (by omega))
  go_wp2_with (first
    | (go_at_call 39; (with_reducible refine (HRu.out _ (G + 1) ⟨o, st, l, h, g, f⟩ ad cap Y.1 _ HP3.out HP.out).mono ?_); rintro e w4 ⟨rfl, hb⟩
       have HB4 := Lib.hid (((HOw.out.trans HO3.out)).next hb)
       have HG4 := Lib.hid (HG3.out.below hb)
       skip
       clear hb)
    )
  go_ret
  exact ⟨rfl, ⟨_, HG4.out, HMv.out⟩, HB4.out⟩
theorem valnode_i (I : Int → Prop) (R : TN → List Int → Int) (HRu : Hid (Rule_i I R)) (f : F) (hch : ∀ i, i < f.len → Val_i I R (f.nth i).args) : Val_i I R f := by
  intro o l h g st sv w S G X1 X3 grp gv hsv hS h0 hE hpre
  obtain ⟨ad, cap, rfl⟩ := slice_form hsv
  obtain ⟨hg, hp⟩ := hpre
  by_cases h9 : o = 9
  · subst h9
    have hP : PN I ⟨9, st, l, h, g, f⟩ (grp g.toNat) := by
      have := hp
      rw [if_pos rfl] at this
      exact this
    have hg := hg (.inr rfl)
    have hg : 1 ≤ g ∧ g ≤ 9 := hg
    obtain ⟨k, rfl⟩ : ∃ k : Nat, g = (k : Int) := ⟨g.toNat, by omega⟩
    exact val9_i I R HRu f l h st ad cap w S G X1 X3 grp gv h0 hE k (by omega) hP
  have hp2 : preF I R f grp ∧ PN I ⟨o, st, l, h, g, f⟩ (valF R f grp).1 := by
    have := hp
    rw [if_neg h9] at this
    exact this
  have hlen : f.len ≤ 600 := by
    have := hp2.2.len
    rw [valF_len] at this
    exact this
  have HMp := Lib.hid (fun W (h1 : SV W S f (.slice ad f.len cap)) (h2 : GMv 85 3 1 cells_i W G grp gv) (h3 : Env 39 48 W G X1 X3) => mapped_i I R f hch _ W S G X1 X3 grp gv h1 hS h2 h3 hp2.1 hlen)
  unfold valN
  by_cases h6 : o = 6
  · subst h6
    have hg : 1 ≤ g ∧ g ≤ 9 := hg (.inl rfl)
    obtain ⟨k, rfl⟩ : ∃ k : Nat, g = (k : Int) := ⟨g.toNat, by omega⟩
    have := val6_i I R HRu f l h st ad cap w S G X1 X3 grp gv h0 hE (valF R f grp) hsv HMp k (by omega) hp2.2
    exact this
  · have := valo_i I R HRu f o l h g st ad cap w S G X1 X3 grp gv h0 hE (valF R f grp) hsv HMp (by simpa using h9) h9 (by simpa using h6) h6 hp2.2
    rw [if_neg h9]
    show Calls _ _ _ _ fun e w' => _ ∧ (∃ gv', GMv _ _ _ _ w' G (if o = 6 then _ else (valF R f grp).2) gv' ∧ _) ∧ _
    rw [if_neg h6]
    exact this
theorem valall_i (I : Int → Prop) (R : TN → List Int → Int) (HRu : Hid (Rule_i I R)) : ∀ (f : F) (i : Nat), i < f.len → Val_i I R (f.nth i).args
  | .nil, i, h => by cases h
  | .cons o s l h g a r, 0, hi => valnode_i I R HRu a (valall_i I R HRu a)
  | .cons o s l h g a r, i + 1, hi => valall_i I R HRu r i (by have : i + 1 < r.len + 1 := hi; omega)
theorem valany_i (I : Int → Prop) (R : TN → List Int → Int) (HRu : Hid (Rule_i I R)) (f : F) : Val_i I R f := valnode_i I R HRu f (valall_i I R HRu f)
theorem valueof_i (I : Int → Prop) (R : TN → List Int → Int) (HRu : Hid (Rule_i I R)) (t : TN) (sv : Value) (w : World) (S : Nat → Prop) (hsv : SV w S t.args sv) (hS : ∀ b, S b → b < w.heap.size) (hpre : preN I R t G0) :
    Calls Tryd.prog 38 #[.agg #[.int .i64 t.op, .int .u64 (wd t.st 0 64 : Nat), .int .u64 (wd t.st 64 64 : Nat), .int .u64 (wd t.st 128 64 : Nat), .int .u64 (wd t.st 192 64 : Nat), .int .i64 t.lo, .int .i64 t.hi, .int .i64 t.g, sv], .func (.func 39) #[] #[]] w fun e w' => e = .returned (.int .i64 (valT R t)) ∧ Below w.heap.size w w' := by
  obtain ⟨ad, cap, rfl⟩ := slice_form hsv
  have HV := Lib.hid (valany_i I R HRu t.args t.op t.lo t.hi t.g t.st (.slice ad t.args.len cap))
  obtain ⟨V1, hV1⟩ : ∃ V1, V1 = w.alloc (.cells #[.int .i64 t.op, .int .u64 (wd t.st 0 64 : Nat), .int .u64 (wd t.st 64 64 : Nat), .int .u64 (wd t.st 128 64 : Nat), .int .u64 (wd t.st 192 64 : Nat), .int .i64 t.lo, .int .i64 t.hi, .int .i64 t.g, .slice ad t.args.len cap] 34) := ⟨_, rfl⟩
  have sV1 : V1.heap.size = w.heap.size + 1 := by rw [hV1]; simp
  have nV1 : V1.heap[w.heap.size]? = some (.cells #[.int .i64 t.op, .int .u64 (wd t.st 0 64 : Nat), .int .u64 (wd t.st 64 64 : Nat), .int .u64 (wd t.st 128 64 : Nat), .int .u64 (wd t.st 192 64 : Nat), .int .i64 t.lo, .int .i64 t.hi, .int .i64 t.g, .slice ad t.args.len cap] 34 (0, 0)) := by
    have := heap_alloc_new w (.cells #[.int .i64 t.op, .int .u64 (wd t.st 0 64 : Nat), .int .u64 (wd t.st 64 64 : Nat), .int .u64 (wd t.st 128 64 : Nat), .int .u64 (wd t.st 192 64 : Nat), .int .i64 t.lo, .int .i64 t.hi, .int .i64 t.g, .slice ad t.args.len cap] 34)
    rw [← hV1] at this
    exact this
  have bV1 : Below w.heap.size w V1 := by rw [hV1]; exact (Below.refl _ _).alloc (Nat.le_refl _) _
  obtain ⟨V2, hV2⟩ : ∃ V2, V2 = V1.alloc (.cells #[.func (.func 39) #[] #[]] 76) := ⟨_, rfl⟩
  have sV2 : V2.heap.size = w.heap.size + 1 + 1 := by rw [hV2]; simp [sV1]
  have nV2 : V2.heap[w.heap.size + 1]? = some (.cells #[.func (.func 39) #[] #[]] 76 (0, 0)) := by
    have := heap_alloc_new V1 (.cells #[.func (.func 39) #[] #[]] 76)
    rw [← hV2, sV1] at this
    exact this
  have bV2 : Below V1.heap.size V1 V2 := by rw [hV2]; exact (Below.refl _ _).alloc (Nat.le_refl _) _
  obtain ⟨V3, hV3⟩ : ∃ V3, V3 = V2.alloc (.cells (gcl fun _ => .slice none 0 0) 85) := ⟨_, rfl⟩
  have sV3 : V3.heap.size = w.heap.size + 1 + 1 + 1 := by rw [hV3]; simp [sV2]
  have nV3 : V3.heap[w.heap.size + 1 + 1]? = some (.cells (gcl fun _ => .slice none 0 0) 85 (0, 0)) := by
    have := heap_alloc_new V2 (.cells (gcl fun _ => .slice none 0 0) 85)
    rw [← hV3, sV2] at this
    exact this
  have bV3 : Below V2.heap.size V2 V3 := by rw [hV3]; exact (Below.refl _ _).alloc (Nat.le_refl _) _
  obtain ⟨V4, hV4⟩ : ∃ V4, V4 = V3.alloc (.cells #[.func (.func 48) #[] #[.pointer (some ⟨w.heap.size + 1, 0, none⟩), .pointer (some ⟨w.heap.size + 1 + 1, 0, none⟩), .pointer (some ⟨w.heap.size + 1 + 1 + 1, 0, none⟩)]] 86) := ⟨_, rfl⟩
  have sV4 : V4.heap.size = w.heap.size + 1 + 1 + 1 + 1 := by rw [hV4]; simp [sV3]
  have nV4 : V4.heap[w.heap.size + 1 + 1 + 1]? = some (.cells #[.func (.func 48) #[] #[.pointer (some ⟨w.heap.size + 1, 0, none⟩), .pointer (some ⟨w.heap.size + 1 + 1, 0, none⟩), .pointer (some ⟨w.heap.size + 1 + 1 + 1, 0, none⟩)]] 86 (0, 0)) := by
    have := heap_alloc_new V3 (.cells #[.func (.func 48) #[] #[.pointer (some ⟨w.heap.size + 1, 0, none⟩), .pointer (some ⟨w.heap.size + 1 + 1, 0, none⟩), .pointer (some ⟨w.heap.size + 1 + 1 + 1, 0, none⟩)]] 86)
    rw [← hV4, sV3] at this
    exact this
  have bV4 : Below V3.heap.size V3 V4 := by rw [hV4]; exact (Below.refl _ _).alloc (Nat.le_refl _) _
  obtain ⟨VL, hL⟩ : ∃ VL, VL = V4 := ⟨_, rfl⟩
  have hfR := nV2
  rw [← bV3.block _ (by omega)] at hfR
  rw [← bV4.block _ (by omega)] at hfR
  rw [← hL] at hfR
  have hfG := nV3
  rw [← bV4.block _ (by omega)] at hfG
  rw [← hL] at hfG
  have hfV := nV4
  rw [← hL] at hfV
  have hbw : Below w.heap.size w VL := by
    rw [hL]
    exact (((bV1.trans (bV2.mono (by omega))).trans (bV3.mono (by omega))).trans (bV4.mono (by omega)))
  have hVL : VL = ((((w.alloc (.cells #[.int .i64 t.op, .int .u64 (wd t.st 0 64 : Nat), .int .u64 (wd t.st 64 64 : Nat), .int .u64 (wd t.st 128 64 : Nat), .int .u64 (wd t.st 192 64 : Nat), .int .i64 t.lo, .int .i64 t.hi, .int .i64 t.g, .slice ad t.args.len cap] 34)).alloc (.cells #[.func (.func 39) #[] #[]] 76)).alloc (.cells #[.slice none 0 0, .slice none 0 0, .slice none 0 0, .slice none 0 0, .slice none 0 0, .slice none 0 0, .slice none 0 0, .slice none 0 0, .slice none 0 0, .slice none 0 0] 85)).alloc (.cells #[.func (.func 48) #[] #[.pointer (some ⟨w.heap.size + 1, 0, none⟩), .pointer (some ⟨w.heap.size + 1 + 1, 0, none⟩), .pointer (some ⟨w.heap.size + 1 + 1 + 1, 0, none⟩)]] 86)) := by rw [hL, hV4, hV3, hV2, hV1]; rfl
  have hsz : VL.heap.size = w.heap.size + 1 + 1 + 1 + 1 := by rw [hL, sV4]
  have HSV := Lib.hid (hsv.far (Afar.below hbw))
  have HSB := Lib.hid (show ∀ b, S b → b < w.heap.size + 1 + 1 from fun b hb => by have := hS b hb; omega)
  have hG : GMv 85 3 1 cells_i VL (w.heap.size + 1 + 1) G0 (fun _ => .slice none 0 0) := ⟨hfG, fun j _ => PV.nil _ _ _ _ _⟩
  have hEnv : Env 39 48 VL (w.heap.size + 1 + 1) (w.heap.size + 1) (w.heap.size + 1 + 1 + 1) := ⟨cell_of_row VL _ 0 _ _ _ hfR, cell_of_row VL _ 0 _ _ _ hfV, by omega, by omega⟩
  have HG := Lib.hid hG
  have HEn := Lib.hid hEnv
  have HBW := Lib.hid hbw
  clear hsz
  have HVL := Lib.hid hVL
  have HPre := Lib.hid hpre
  clear hsv hS hpre sV1 nV1 bV1 sV2 nV2 bV2 sV3 nV3 bV3 sV4 nV4 bV4 hfR hfG hfV hL hV1 hV2 hV3 hV4 V1 V2 V3 V4 hbw hG hEnv hVL
  go_enter Tryd.func38, Tryd.ntmps38
  go_wp2_with (first
    | (go_at_call 48; rw [← HVL.out]; (with_reducible refine (HV.out VL S (w.heap.size + 1 + 1) (w.heap.size + 1) (w.heap.size + 1 + 1 + 1) G0 _ HSV.out HSB.out HG.out HEn.out HPre.out).mono ?_); rintro e w1 ⟨rfl, _, ho⟩
       have HO := Lib.hid ho
       skip
       clear ho)
    )
  go_ret
  exact ⟨rfl, Below.only HBW.out HO.out (by omega) (by have := HBW.out.size; omega)⟩
end Go.Proofs.YtbjobbkipmkndaaDoor
