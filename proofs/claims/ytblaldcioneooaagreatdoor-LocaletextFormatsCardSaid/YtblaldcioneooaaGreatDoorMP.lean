/- Several texts in one (a claim has at most 60 files). -/
import Derived.Test.YtblaldcioneooaaGreatDoorMN
import Derived.Test.YtblaldcioneooaaGreatDoorMB
/- The reference's Format. (Written by gen_lrf4.py.) -/
set_option linter.unusedVariables false
set_option maxRecDepth 100000
namespace Go.Proofs.YtblaldcioneooaaGreatDoor
open Go.RowKit

theorem cost_take {α : Type} (f : α → List UInt8) (l : List α) (k : Nat) : cost ((l.take k).map f) ≤ cost (l.map f) := by
  have h := cost_app ((l.take k).map f) ((l.drop k).map f)
  rw [← List.map_append, List.take_append_drop] at h
  omega
theorem wOut_all (f : Nat → Int) : wOut f 256 = cat (weiLines f) := rfl
theorem clsLine_spc (c : List UInt8 × (Nat → Bool)) : clsLine c = kCls ++ 32 :: (c.1 ++ rOut c.2 256) := by
  unfold clsLine rOut
  rw [jw_spc, ← clsRg_B]
  show kCls ++ spc ([c.1] ++ clsRg c.2) = _
  rw [spc_app, spc_one]
  rfl
theorem elmLine_spc (t : List UInt8) (v : Int) : elmLine (t, v) = kElm ++ 32 :: (fmB (t.getD 0 0).toNat ++ 32 :: (fmB (t.getD 1 0).toNat ++ 32 :: fmB v.toNat)) := by
  unfold elmLine
  rw [jw_spc]
  unfold spc
  simp
theorem head_cat (P : PL) : cat (headLines P) = (kLoc ++ 32 :: (P.name ++ [10])) ++ (cat (weiLines P.wt) ++ (cat (forLines kLow P.lower (lowL 256) 256) ++ cat (forLines kUp P.upper (upL 256) 256))) := by
  unfold headLines
  rw [cat_app, cat_app, cat_app, cat_one, jw_spc, spc_one]
  simp
theorem cells5 {w w' : World} {b o : Nat} {v0 v1 v2 v3 v4 : Value} (h : w.cell? ⟨b, o, none⟩ = some v0 ∧ w.cell? ⟨b, o + 1, none⟩ = some v1 ∧ w.cell? ⟨b, o + 2, none⟩ = some v2 ∧ w.cell? ⟨b, o + 3, none⟩ = some v3 ∧ w.cell? ⟨b, o + 4, none⟩ = some v4) (hb : Below w.heap.size w w') (hl : b < w.heap.size) :
    w'.cell? ⟨b, o, none⟩ = some v0 ∧ w'.cell? ⟨b, o + 1, none⟩ = some v1 ∧ w'.cell? ⟨b, o + 2, none⟩ = some v2 ∧ w'.cell? ⟨b, o + 3, none⟩ = some v3 ∧ w'.cell? ⟨b, o + 4, none⟩ = some v4 :=
  ⟨(hb.cell (by exact hl)).trans h.1, (hb.cell (by exact hl)).trans h.2.1, (hb.cell (by exact hl)).trans h.2.2.1, (hb.cell (by exact hl)).trans h.2.2.2.1, (hb.cell (by exact hl)).trans h.2.2.2.2⟩
set_option maxHeartbeats 4000000 in
theorem rformat_no (L : Loc) (hc : chk L ≠ 0) (W C E : Value) (w : World) (hM : LocM w L W C E) :
    Calls Tryz.prog 10 #[.agg (lcl L W C E)] w fun e w' => e = .returned (.string ⟨#[]⟩) ∧ Below w.heap.size w w' := by
  have HB : Hid (Below w.heap.size w (w.alloc (.cells (lcl L W C E) 26))) := (Below.refl _ _).alloc (Nat.le_refl _) _
  have HA : Hid (LAt (w.alloc (.cells (lcl L W C E) 26)) w.heap.size (lcl L W C E)) := heap_alloc_new w _
  have HM := Lib.hid (hM.below HB.out)
  have HCk := Lib.hid (check_any L W C E)
  generalize chk L = c at hc HCk
  have hcn : (c != 0) = true := by simpa using hc
  unfold lcl at *
  obtain ⟨⟨x0, x1, x2⟩, ⟨x3, x4, x5⟩, xf⟩ := HA.out.six
  clear hM
  go_enter Tryz.func10, Tryz.ntmps10
  go_wp2_with (first
    | (go_at_call 26
       refine (HCk.out _ HM.out).mono ?_
       rintro e w1 ⟨rfl, hb⟩
       have HB1 := Lib.hid (HB.out.trans (hb.mono HB.out.size))
       clear hb))
  go_ret
  exact ⟨rfl, HB1.out⟩
set_option maxHeartbeats 32000000 in
theorem rformat_ok (L : Loc) (hv : VL L) (W C E : Value) (w : World) (hM : LocM w L W C E) :
    Calls Tryz.prog 10 #[.agg (lcl L W C E)] w fun e w' => e = .returned (.string (mk (cat (fmtLines (ofLoc L))))) ∧ Below w.heap.size w w' := by
  have HM0 := Lib.hid hM
  have HV := Lib.hid hv
  have hCk := check_any L W C E
  rw [(VL.iff L).2 hv] at hCk
  have HCk := Lib.hid hCk
  have HDf := Lib.hid default_any
  have HCost := Lib.hid (fmt_cost (ofLoc L) hv.vp)
  obtain ⟨⟨aw, cw, rfl, -, kw⟩, ⟨ac, cc, rfl, hcc, kc⟩, ⟨ae, ce, rfl, hce, ke⟩⟩ := hM
  rw [hv.nw] at kw HM0 HCk ⊢
  rcases kw with h0 | ⟨b0, o0, rfl, lw0, kw⟩
  · omega
  have SW0 : Hid (SL 1 256 (fun j _ => .int .i64 (L.wt j)) w (.slice (some ⟨b0, o0, none⟩) 256 cw)) := by
    have h := HM0.out.1
    rw [hv.nw] at h
    exact h
  have HLc := Lib.hid kc
  have HLe := Lib.hid ke
  obtain ⟨nc, hnc⟩ : ∃ nc, L.nc = nc := ⟨_, rfl⟩
  obtain ⟨ne, hne⟩ : ∃ ne, L.ne = ne := ⟨_, rfl⟩
  have hnc24 : nc ≤ 24 := by rw [← hnc]; exact hv.nc
  have hne64 : ne ≤ 64 := by rw [← hne]; exact hv.ne
  rw [hnc] at hcc HLc HM0 HCk ⊢
  rw [hne] at hce HLe HM0 HCk ⊢
  have HNc := Lib.hid hnc
  have HNe := Lib.hid hne
  have e2 : ∀ W C E, lcl Ldef W C E = #[.string psx, W, .string (mk (lowL 256)), .string (mk (upL 256)), C, E] := fun W C E => lcl_def W C E
  simp only [e2] at HDf
  obtain ⟨Lo, hLo⟩ : ∃ Lo, mk (lowL 256) = Lo := ⟨_, rfl⟩
  obtain ⟨Up, hUp⟩ : ∃ Up, mk (upL 256) = Up := ⟨_, rfl⟩
  have hzl : Lo.size = 256 := by rw [← hLo, mk_size, lowL_len]
  have hzu : Up.size = 256 := by rw [← hUp, mk_size, upL_len]
  have hc1 := cases_any ⟨#[108, 111, 119, 101, 114]⟩ L.lower Lo (by decide) hv.lo hzl
  have hc2 := cases_any ⟨#[117, 112, 112, 101, 114]⟩ L.upper Up (by decide) hv.up hzu
  have elo : Lo.data.toList = lowL 256 := by rw [← hLo]; rfl
  have eup : Up.data.toList = upL 256 := by rw [← hUp]; rfl
  rw [elo] at hc1
  rw [eup] at hc2
  simp only [hLo, hUp] at HDf
  have hnm := nm_len hv.nm
  have hnm2 : L.name.size ≤ 32 := by rw [← size_len]; exact hnm
  have hchead : cost (headLines (ofLoc L)) ≤ 63913 := by
    have := HCost.out
    unfold fmtLines at this
    rw [cost_app, cost_app] at this
    omega
  have hcat := head_cat (ofLoc L)
  have hhl : (cat (headLines (ofLoc L))).length ≤ 63913 := by rw [cat_len]; exact hchead
  rw [hcat] at hhl
  simp only [List.length_append, List.length_cons, List.length_nil] at hhl
  obtain ⟨ZW, hZW⟩ : ∃ Z, mk (wOut L.wt 256) = Z := ⟨_, rfl⟩
  obtain ⟨ZL, hZL⟩ : ∃ Z, mk (cat (forLines (ByteArray.mk #[108, 111, 119, 101, 114]).data.toList L.lower.data.toList (lowL 256) 256)) = Z := ⟨_, rfl⟩
  obtain ⟨ZU, hZU⟩ : ∃ Z, mk (cat (forLines (ByteArray.mk #[117, 112, 112, 101, 114]).data.toList L.upper.data.toList (upL 256) 256)) = Z := ⟨_, rfl⟩
  have z1 : ZW.size ≤ 63913 := by
    rw [← hZW, mk_size]
    have e : (wOut L.wt 256).length = (cat (weiLines (ofLoc L).wt)).length := rfl
    omega
  have z2 : ZL.size ≤ 63913 := by
    rw [← hZL, mk_size]
    have e : (cat (forLines (ByteArray.mk #[108, 111, 119, 101, 114]).data.toList L.lower.data.toList (lowL 256) 256)).length = (cat (forLines kLow (ofLoc L).lower (lowL 256) 256)).length := rfl
    omega
  have z3 : ZU.size ≤ 63913 := by
    rw [← hZU, mk_size]
    have e : (cat (forLines (ByteArray.mk #[117, 112, 112, 101, 114]).data.toList L.upper.data.toList (upL 256) 256)).length = (cat (forLines kUp (ofLoc L).upper (upL 256) 256)).length := rfl
    omega
  have hwe := fun (c0 c2 c3 c4 c5 d0 d2 d3 d4 d5 W1 W2 : Value) (w : World) => rweights_any L.wt hv.wt c0 c2 c3 c4 c5 d0 d2 d3 d4 d5 W1 W2 w
  rw [hZL] at hc1
  rw [hZU] at hc2
  rw [hZW] at hwe
  have HC1 := Lib.hid hc1
  have HC2 := Lib.hid hc2
  have HWe := Lib.hid hwe
  have HZW := Lib.hid hZW
  have HZL := Lib.hid hZL
  have HZU := Lib.hid hZU
  have HB : Hid (Below w.heap.size w (w.alloc (.cells (lcl L (.slice (some ⟨b0, o0, none⟩) 256 cw) (.slice ac nc cc) (.slice ae ne ce)) 26))) := (Below.refl _ _).alloc (Nat.le_refl _) _
  have HA : Hid (LAt (w.alloc (.cells (lcl L (.slice (some ⟨b0, o0, none⟩) 256 cw) (.slice ac nc cc) (.slice ae ne ce)) 26)) w.heap.size (lcl L (.slice (some ⟨b0, o0, none⟩) 256 cw) (.slice ac nc cc) (.slice ae ne ce))) := heap_alloc_new w _
  unfold lcl at HB HA HCk ⊢
  have inm : (L.name.size : Int) ≤ 32 := by omega
  have iz1 : (ZW.size : Int) ≤ 63913 := by omega
  have iz2 : (ZL.size : Int) ≤ 63913 := by omega
  have iz3 : (ZU.size : Int) ≤ 63913 := by omega
  clear hCk hc1 hc2 hwe hZW hZL hZU elo eup hzl hzu hLo hUp hcat hhl hchead e2 hnc hne hnm kw kc ke hv lw0
  obtain ⟨⟨x0, x1, x2⟩, ⟨x3, x4, x5⟩, xf⟩ := HA.out.six
  go_enter Tryz.func10, Tryz.ntmps10
  go_wp2_with (first
    | (go_at_call 26
       refine (HCk.out _ (HM0.out.below HB.out)).mono ?_
       rintro e w1 ⟨rfl, hb⟩
       have HB1 := Lib.hid (HB.out.trans (hb.mono HB.out.size))
       have HA1 := Lib.hid (HA.out.under hb HA.out.lt)
       clear x0 x1 x2 x3 x4 x5 xf hb)
    | (go_at_call 15
       refine (HDf.out _).mono ?_
       rintro e w2 ⟨x, y, hx, rfl, hm, hb⟩
       have HMd := Lib.hid hm
       have HBe := Lib.hid (HB1.out.trans (hb.mono HB1.out.size))
       have HAe := Lib.hid (HA1.out.under hb HA1.out.lt)
       have hzz : w.heap.size < w2.heap.size := HAe.out.lt
       clear hb hm hx))
  have hbq : Below w2.heap.size w2 (w2.alloc (.cells #[.string psx, .slice (some ⟨x, 0, none⟩) 256 y, .string Lo, .string Up, .slice none 0 0, .slice none 0 0] 26)) := (Below.refl _ _).alloc (Nat.le_refl _) _
  have hdq : LAt (w2.alloc (.cells #[.string psx, .slice (some ⟨x, 0, none⟩) 256 y, .string Lo, .string Up, .slice none 0 0, .slice none 0 0] 26)) w2.heap.size #[.string psx, .slice (some ⟨x, 0, none⟩) 256 y, .string Lo, .string Up, .slice none 0 0, .slice none 0 0] := heap_alloc_new w2 _
  have haq := HAe.out.under hbq HAe.out.lt
  have hBq := HBe.out.trans (hbq.mono HBe.out.size)
  have sdq : SL 1 256 (fun j _ => .int .i64 ((fun j : Nat => (j : Int)) j)) (w2.alloc (.cells #[.string psx, .slice (some ⟨x, 0, none⟩) 256 y, .string Lo, .string Up, .slice none 0 0, .slice none 0 0] 26)) (.slice (some ⟨x, 0, none⟩) 256 y) := (HMd.out.below hbq).1
  generalize w2.alloc (.cells #[.string psx, .slice (some ⟨x, 0, none⟩) 256 y, .string Lo, .string Up, .slice none 0 0, .slice none 0 0] 26) = wq at hbq hdq haq hBq sdq ⊢
  obtain ⟨B1, hB1⟩ : ∃ B1, w2.heap.size = B1 := ⟨_, rfl⟩
  rw [hB1] at hdq ⊢
  clear hB1
  obtain ⟨B0, hB0⟩ : ∃ B0, w.heap.size = B0 := ⟨_, rfl⟩
  rw [hB0] at haq ⊢
  have HB0 := Lib.hid hB0
  clear hB0
  have HA2 := Lib.hid haq
  have HD2 := Lib.hid hdq
  have HBq : Hid (Below w.heap.size w wq) := by show Below _ _ _; rw [HB0.out]; rw [HB0.out] at hBq; exact hBq
  have SW : Hid (SL 1 256 (fun j _ => .int .i64 (L.wt j)) wq (.slice (some ⟨b0, o0, none⟩) 256 cw)) := SW0.out.below HBq.out
  have SD := Lib.hid sdq
  clear hbq hdq haq hBq sdq
  refine wp_region_held_drew (S := fun w' => LAt w' B0 #[.string L.name, .slice (some ⟨b0, o0, none⟩) 256 cw, .string L.lower, .string L.upper, .slice ac nc cc, .slice ae ne ce] ∧ LAt w' B1 #[.string psx, .slice (some ⟨x, 0, none⟩) 256 y, .string Lo, .string Up, .slice none 0 0, .slice none 0 0]) (by kernel_rfl) ?_ (fun hHeld => ?_)
  · exact ⟨HA2.out.under (Below.refl _ _).drew HA2.out.lt, HD2.out.under (Below.refl _ _).drew HD2.out.lt⟩
  refine wpAnyH_take (i := 0) (v := ?av0) rfl (by kernel_rfl) (by kernel_rfl) (by kernel_rfl) (fun _ _ _ h => h) (Or.inl ⟨by rfl, ?ay0⟩) (by assumption) ?ar0
  case ay0 =>
    intro wx hSw
    have hq := hSw.1.six
    obtain ⟨⟨x0, x1, x2⟩, ⟨x3, x4, x5⟩, xf⟩ := hq
    have hq2 := hSw.2.six
    obtain ⟨⟨y0, y1, y2⟩, ⟨y3, y4, y5⟩, yf⟩ := hq2
    clear hSw
    go_simp
    first | done | (with_reducible rfl) | (rw [if_neg (by have l1 : (ByteArray.mk #[32]).size = 1 := rfl; have l3 : (ByteArray.mk #[108, 111, 99, 97, 108, 101, 32]).size = 7 := rfl; have l4 : (ByteArray.mk #[99, 108, 97, 115, 115, 32]).size = 6 := rfl; have l5 : (ByteArray.mk #[101, 108, 101, 109, 101, 110, 116, 32]).size = 8 := rfl; have l2 : (ByteArray.mk #[10]).size = 1 := rfl; first | omega | (simp only [ByteArray.size_append]; omega))] <;> with_reducible rfl)
  (try simp only [Act.put, List.getElem_toArray, List.getElem_cons_zero, List.setIfInBounds_toArray, List.set_cons_zero, List.set_cons_succ])
  refine wpAnyH_take (i := 1) (v := ?av1) rfl (by kernel_rfl) (by kernel_rfl) (by kernel_rfl) (fun _ _ _ h => h) (Or.inl ⟨by rfl, ?ay1⟩) (by assumption) ?ar1
  case ay1 =>
    intro wx hSw
    have hq := hSw.1.six
    obtain ⟨⟨x0, x1, x2⟩, ⟨x3, x4, x5⟩, xf⟩ := hq
    have hq2 := hSw.2.six
    obtain ⟨⟨y0, y1, y2⟩, ⟨y3, y4, y5⟩, yf⟩ := hq2
    clear hSw
    go_simp
    first | done | (with_reducible rfl) | (rw [if_neg (by have l1 : (ByteArray.mk #[32]).size = 1 := rfl; have l3 : (ByteArray.mk #[108, 111, 99, 97, 108, 101, 32]).size = 7 := rfl; have l4 : (ByteArray.mk #[99, 108, 97, 115, 115, 32]).size = 6 := rfl; have l5 : (ByteArray.mk #[101, 108, 101, 109, 101, 110, 116, 32]).size = 8 := rfl; have l2 : (ByteArray.mk #[10]).size = 1 := rfl; first | omega | (simp only [ByteArray.size_append]; omega))] <;> with_reducible rfl)
  (try simp only [Act.put, List.getElem_toArray, List.getElem_cons_succ, List.getElem_cons_zero, List.setIfInBounds_toArray, List.set_cons_zero, List.set_cons_succ])
  refine wpAnyH_take (i := 2) (v := ?av2) rfl (by kernel_rfl) (by kernel_rfl) (by kernel_rfl) (fun _ _ _ h => h) (Or.inl ⟨by rfl, ?ay2⟩) (by assumption) ?ar2
  case ay2 =>
    intro wx hSw
    have hq := hSw.1.six
    obtain ⟨⟨x0, x1, x2⟩, ⟨x3, x4, x5⟩, xf⟩ := hq
    have hq2 := hSw.2.six
    obtain ⟨⟨y0, y1, y2⟩, ⟨y3, y4, y5⟩, yf⟩ := hq2
    clear hSw
    go_simp
    first | done | (with_reducible rfl) | (rw [if_neg (by have l1 : (ByteArray.mk #[32]).size = 1 := rfl; have l3 : (ByteArray.mk #[108, 111, 99, 97, 108, 101, 32]).size = 7 := rfl; have l4 : (ByteArray.mk #[99, 108, 97, 115, 115, 32]).size = 6 := rfl; have l5 : (ByteArray.mk #[101, 108, 101, 109, 101, 110, 116, 32]).size = 8 := rfl; have l2 : (ByteArray.mk #[10]).size = 1 := rfl; first | omega | (simp only [ByteArray.size_append]; omega))] <;> with_reducible rfl)
  (try simp only [Act.put, List.getElem_toArray, List.getElem_cons_succ, List.getElem_cons_zero, List.setIfInBounds_toArray, List.set_cons_zero, List.set_cons_succ])
  refine wpAnyH_take (i := 3) (v := ?av3) rfl (by kernel_rfl) (by kernel_rfl) (by kernel_rfl) (fun _ _ _ h => h) (Or.inl ⟨by rfl, ?ay3⟩) (by assumption) ?ar3
  case ay3 =>
    intro wx hSw
    have hq := hSw.1.six
    obtain ⟨⟨x0, x1, x2⟩, ⟨x3, x4, x5⟩, xf⟩ := hq
    have hq2 := hSw.2.six
    obtain ⟨⟨y0, y1, y2⟩, ⟨y3, y4, y5⟩, yf⟩ := hq2
    clear hSw
    go_simp
    first | done | (with_reducible rfl) | (rw [if_neg (by have l1 : (ByteArray.mk #[32]).size = 1 := rfl; have l3 : (ByteArray.mk #[108, 111, 99, 97, 108, 101, 32]).size = 7 := rfl; have l4 : (ByteArray.mk #[99, 108, 97, 115, 115, 32]).size = 6 := rfl; have l5 : (ByteArray.mk #[101, 108, 101, 109, 101, 110, 116, 32]).size = 8 := rfl; have l2 : (ByteArray.mk #[10]).size = 1 := rfl; first | omega | (simp only [ByteArray.size_append]; omega))] <;> with_reducible rfl)
  (try simp only [Act.put, List.getElem_toArray, List.getElem_cons_succ, List.getElem_cons_zero, List.setIfInBounds_toArray, List.set_cons_zero, List.set_cons_succ])
  refine wpAnyH_take (i := 4) (v := ?av4) rfl (by kernel_rfl) (by kernel_rfl) (by kernel_rfl) (fun _ _ _ h => h) (Or.inl ⟨by rfl, ?ay4⟩) (by assumption) ?ar4
  case ay4 =>
    intro wx hSw
    have hq := hSw.1.six
    obtain ⟨⟨x0, x1, x2⟩, ⟨x3, x4, x5⟩, xf⟩ := hq
    have hq2 := hSw.2.six
    obtain ⟨⟨y0, y1, y2⟩, ⟨y3, y4, y5⟩, yf⟩ := hq2
    clear hSw
    go_simp
    first | done | (with_reducible rfl) | (rw [if_neg (by have l1 : (ByteArray.mk #[32]).size = 1 := rfl; have l3 : (ByteArray.mk #[108, 111, 99, 97, 108, 101, 32]).size = 7 := rfl; have l4 : (ByteArray.mk #[99, 108, 97, 115, 115, 32]).size = 6 := rfl; have l5 : (ByteArray.mk #[101, 108, 101, 109, 101, 110, 116, 32]).size = 8 := rfl; have l2 : (ByteArray.mk #[10]).size = 1 := rfl; first | omega | (simp only [ByteArray.size_append]; omega))] <;> with_reducible rfl)
  (try simp only [Act.put, List.getElem_toArray, List.getElem_cons_succ, List.getElem_cons_zero, List.setIfInBounds_toArray, List.set_cons_zero, List.set_cons_succ])
  refine wpAnyH_take (i := 5) (v := ?av5) rfl (by kernel_rfl) (by kernel_rfl) (by kernel_rfl) (fun _ _ _ h => h) (Or.inl ⟨by rfl, ?ay5⟩) (by assumption) ?ar5
  case ay5 =>
    intro wx hSw
    have hq := hSw.1.six
    obtain ⟨⟨x0, x1, x2⟩, ⟨x3, x4, x5⟩, xf⟩ := hq
    have hq2 := hSw.2.six
    obtain ⟨⟨y0, y1, y2⟩, ⟨y3, y4, y5⟩, yf⟩ := hq2
    clear hSw
    go_simp
    first | done | (with_reducible rfl) | (rw [if_neg (by have l1 : (ByteArray.mk #[32]).size = 1 := rfl; have l3 : (ByteArray.mk #[108, 111, 99, 97, 108, 101, 32]).size = 7 := rfl; have l4 : (ByteArray.mk #[99, 108, 97, 115, 115, 32]).size = 6 := rfl; have l5 : (ByteArray.mk #[101, 108, 101, 109, 101, 110, 116, 32]).size = 8 := rfl; have l2 : (ByteArray.mk #[10]).size = 1 := rfl; first | omega | (simp only [ByteArray.size_append]; omega))] <;> with_reducible rfl)
  (try simp only [Act.put, List.getElem_toArray, List.getElem_cons_succ, List.getElem_cons_zero, List.setIfInBounds_toArray, List.set_cons_zero, List.set_cons_succ])
  refine wpAnyH_take (i := 8) (v := ?av8) rfl (by kernel_rfl) (by kernel_rfl) (by kernel_rfl) (fun _ _ _ h => h) (Or.inl ⟨by rfl, ?ay8⟩) (by assumption) ?ar8
  case ay8 =>
    intro wx hSw
    have hq := hSw.1.six
    obtain ⟨⟨x0, x1, x2⟩, ⟨x3, x4, x5⟩, xf⟩ := hq
    have hq2 := hSw.2.six
    obtain ⟨⟨y0, y1, y2⟩, ⟨y3, y4, y5⟩, yf⟩ := hq2
    clear hSw
    go_simp
    first | done | (with_reducible rfl) | (rw [if_neg (by have l1 : (ByteArray.mk #[32]).size = 1 := rfl; have l3 : (ByteArray.mk #[108, 111, 99, 97, 108, 101, 32]).size = 7 := rfl; have l4 : (ByteArray.mk #[99, 108, 97, 115, 115, 32]).size = 6 := rfl; have l5 : (ByteArray.mk #[101, 108, 101, 109, 101, 110, 116, 32]).size = 8 := rfl; have l2 : (ByteArray.mk #[10]).size = 1 := rfl; first | omega | (simp only [ByteArray.size_append]; omega))] <;> with_reducible rfl)
  (try simp only [Act.put, List.getElem_toArray, List.getElem_cons_succ, List.getElem_cons_zero, List.setIfInBounds_toArray, List.set_cons_zero, List.set_cons_succ])
  refine wpAnyH_take (i := 9) (v := ?av9) rfl (by kernel_rfl) (by kernel_rfl) (by kernel_rfl) (fun _ _ _ h => h) (Or.inl ⟨by rfl, ?ay9⟩) (by assumption) ?ar9
  case ay9 =>
    intro wx hSw
    have hq := hSw.1.six
    obtain ⟨⟨x0, x1, x2⟩, ⟨x3, x4, x5⟩, xf⟩ := hq
    have hq2 := hSw.2.six
    obtain ⟨⟨y0, y1, y2⟩, ⟨y3, y4, y5⟩, yf⟩ := hq2
    clear hSw
    go_simp
    first | done | (with_reducible rfl) | (rw [if_neg (by have l1 : (ByteArray.mk #[32]).size = 1 := rfl; have l3 : (ByteArray.mk #[108, 111, 99, 97, 108, 101, 32]).size = 7 := rfl; have l4 : (ByteArray.mk #[99, 108, 97, 115, 115, 32]).size = 6 := rfl; have l5 : (ByteArray.mk #[101, 108, 101, 109, 101, 110, 116, 32]).size = 8 := rfl; have l2 : (ByteArray.mk #[10]).size = 1 := rfl; first | omega | (simp only [ByteArray.size_append]; omega))] <;> with_reducible rfl)
  (try simp only [Act.put, List.getElem_toArray, List.getElem_cons_succ, List.getElem_cons_zero, List.setIfInBounds_toArray, List.set_cons_zero, List.set_cons_succ])
  refine wpAnyH_take (i := 10) (v := ?av10) rfl (by kernel_rfl) (by kernel_rfl) (by kernel_rfl) (fun _ _ _ h => h) (Or.inl ⟨by rfl, ?ay10⟩) (by assumption) ?ar10
  case ay10 =>
    intro wx hSw
    have hq := hSw.1.six
    obtain ⟨⟨x0, x1, x2⟩, ⟨x3, x4, x5⟩, xf⟩ := hq
    have hq2 := hSw.2.six
    obtain ⟨⟨y0, y1, y2⟩, ⟨y3, y4, y5⟩, yf⟩ := hq2
    clear hSw
    go_simp
    first | done | (with_reducible rfl) | (rw [if_neg (by have l1 : (ByteArray.mk #[32]).size = 1 := rfl; have l3 : (ByteArray.mk #[108, 111, 99, 97, 108, 101, 32]).size = 7 := rfl; have l4 : (ByteArray.mk #[99, 108, 97, 115, 115, 32]).size = 6 := rfl; have l5 : (ByteArray.mk #[101, 108, 101, 109, 101, 110, 116, 32]).size = 8 := rfl; have l2 : (ByteArray.mk #[10]).size = 1 := rfl; first | omega | (simp only [ByteArray.size_append]; omega))] <;> with_reducible rfl)
  (try simp only [Act.put, List.getElem_toArray, List.getElem_cons_succ, List.getElem_cons_zero, List.setIfInBounds_toArray, List.set_cons_zero, List.set_cons_succ])
  refine wpAnyH_take (i := 11) (v := ?av11) rfl (by kernel_rfl) (by kernel_rfl) (by kernel_rfl) (fun _ _ _ h => h) (Or.inl ⟨by rfl, ?ay11⟩) (by assumption) ?ar11
  case ay11 =>
    intro wx hSw
    have hq := hSw.1.six
    obtain ⟨⟨x0, x1, x2⟩, ⟨x3, x4, x5⟩, xf⟩ := hq
    have hq2 := hSw.2.six
    obtain ⟨⟨y0, y1, y2⟩, ⟨y3, y4, y5⟩, yf⟩ := hq2
    clear hSw
    go_simp
    first | done | (with_reducible rfl) | (rw [if_neg (by have l1 : (ByteArray.mk #[32]).size = 1 := rfl; have l3 : (ByteArray.mk #[108, 111, 99, 97, 108, 101, 32]).size = 7 := rfl; have l4 : (ByteArray.mk #[99, 108, 97, 115, 115, 32]).size = 6 := rfl; have l5 : (ByteArray.mk #[101, 108, 101, 109, 101, 110, 116, 32]).size = 8 := rfl; have l2 : (ByteArray.mk #[10]).size = 1 := rfl; first | omega | (simp only [ByteArray.size_append]; omega))] <;> with_reducible rfl)
  (try simp only [Act.put, List.getElem_toArray, List.getElem_cons_succ, List.getElem_cons_zero, List.setIfInBounds_toArray, List.set_cons_zero, List.set_cons_succ])
  refine wpAnyH_take (i := 14) (v := ?av14) rfl (by kernel_rfl) (by kernel_rfl) (by kernel_rfl) (fun _ _ _ h => h) (Or.inl ⟨by rfl, ?ay14⟩) (by assumption) ?ar14
  case ay14 =>
    intro wx hSw
    have hq := hSw.1.six
    obtain ⟨⟨x0, x1, x2⟩, ⟨x3, x4, x5⟩, xf⟩ := hq
    have hq2 := hSw.2.six
    obtain ⟨⟨y0, y1, y2⟩, ⟨y3, y4, y5⟩, yf⟩ := hq2
    clear hSw
    go_simp
    first | done | (with_reducible rfl) | (rw [if_neg (by have l1 : (ByteArray.mk #[32]).size = 1 := rfl; have l3 : (ByteArray.mk #[108, 111, 99, 97, 108, 101, 32]).size = 7 := rfl; have l4 : (ByteArray.mk #[99, 108, 97, 115, 115, 32]).size = 6 := rfl; have l5 : (ByteArray.mk #[101, 108, 101, 109, 101, 110, 116, 32]).size = 8 := rfl; have l2 : (ByteArray.mk #[10]).size = 1 := rfl; first | omega | (simp only [ByteArray.size_append]; omega))] <;> with_reducible rfl)
  (try simp only [Act.put, List.getElem_toArray, List.getElem_cons_succ, List.getElem_cons_zero, List.setIfInBounds_toArray, List.set_cons_zero, List.set_cons_succ])
  refine wpAnyH_take (i := 15) (v := ?av15) rfl (by kernel_rfl) (by kernel_rfl) (by kernel_rfl) (fun _ _ _ h => h) (Or.inl ⟨by rfl, ?ay15⟩) (by assumption) ?ar15
  case ay15 =>
    intro wx hSw
    have hq := hSw.1.six
    obtain ⟨⟨x0, x1, x2⟩, ⟨x3, x4, x5⟩, xf⟩ := hq
    have hq2 := hSw.2.six
    obtain ⟨⟨y0, y1, y2⟩, ⟨y3, y4, y5⟩, yf⟩ := hq2
    clear hSw
    go_simp
    first | done | (with_reducible rfl) | (rw [if_neg (by have l1 : (ByteArray.mk #[32]).size = 1 := rfl; have l3 : (ByteArray.mk #[108, 111, 99, 97, 108, 101, 32]).size = 7 := rfl; have l4 : (ByteArray.mk #[99, 108, 97, 115, 115, 32]).size = 6 := rfl; have l5 : (ByteArray.mk #[101, 108, 101, 109, 101, 110, 116, 32]).size = 8 := rfl; have l2 : (ByteArray.mk #[10]).size = 1 := rfl; first | omega | (simp only [ByteArray.size_append]; omega))] <;> with_reducible rfl)
  (try simp only [Act.put, List.getElem_toArray, List.getElem_cons_succ, List.getElem_cons_zero, List.setIfInBounds_toArray, List.set_cons_zero, List.set_cons_succ])
  refine wpAnyH_take (i := 16) (v := ?av16) rfl (by kernel_rfl) (by kernel_rfl) (by kernel_rfl) (fun _ _ _ h => h) (Or.inl ⟨by rfl, ?ay16⟩) (by assumption) ?ar16
  case ay16 =>
    intro wx hSw
    have hq := hSw.1.six
    obtain ⟨⟨x0, x1, x2⟩, ⟨x3, x4, x5⟩, xf⟩ := hq
    have hq2 := hSw.2.six
    obtain ⟨⟨y0, y1, y2⟩, ⟨y3, y4, y5⟩, yf⟩ := hq2
    clear hSw
    go_simp
    first | done | (with_reducible rfl) | (rw [if_neg (by have l1 : (ByteArray.mk #[32]).size = 1 := rfl; have l3 : (ByteArray.mk #[108, 111, 99, 97, 108, 101, 32]).size = 7 := rfl; have l4 : (ByteArray.mk #[99, 108, 97, 115, 115, 32]).size = 6 := rfl; have l5 : (ByteArray.mk #[101, 108, 101, 109, 101, 110, 116, 32]).size = 8 := rfl; have l2 : (ByteArray.mk #[10]).size = 1 := rfl; first | omega | (simp only [ByteArray.size_append]; omega))] <;> with_reducible rfl)
  (try simp only [Act.put, List.getElem_toArray, List.getElem_cons_succ, List.getElem_cons_zero, List.setIfInBounds_toArray, List.set_cons_zero, List.set_cons_succ])
  refine wpAnyH_take (i := 17) (v := ?av17) rfl (by kernel_rfl) (by kernel_rfl) (by kernel_rfl) (fun _ _ _ h => h) (Or.inl ⟨by rfl, ?ay17⟩) (by assumption) ?ar17
  case ay17 =>
    intro wx hSw
    have hq := hSw.1.six
    obtain ⟨⟨x0, x1, x2⟩, ⟨x3, x4, x5⟩, xf⟩ := hq
    have hq2 := hSw.2.six
    obtain ⟨⟨y0, y1, y2⟩, ⟨y3, y4, y5⟩, yf⟩ := hq2
    clear hSw
    go_simp
    first | done | (with_reducible rfl) | (rw [if_neg (by have l1 : (ByteArray.mk #[32]).size = 1 := rfl; have l3 : (ByteArray.mk #[108, 111, 99, 97, 108, 101, 32]).size = 7 := rfl; have l4 : (ByteArray.mk #[99, 108, 97, 115, 115, 32]).size = 6 := rfl; have l5 : (ByteArray.mk #[101, 108, 101, 109, 101, 110, 116, 32]).size = 8 := rfl; have l2 : (ByteArray.mk #[10]).size = 1 := rfl; first | omega | (simp only [ByteArray.size_append]; omega))] <;> with_reducible rfl)
  (try simp only [Act.put, List.getElem_toArray, List.getElem_cons_succ, List.getElem_cons_zero, List.setIfInBounds_toArray, List.set_cons_zero, List.set_cons_succ])
  refine wpAnyH_ready (rs := [6]) (by kernel_rfl) (by simp) ?_
  refine AllReadyH.cons rfl (fun K hK => ?_) AllReadyH.nil
  go_simp
  go_at_call 27
  with_reducible refine (HWe.out _ _ _ _ _ _ _ _ _ _ _ _ _ (SW.out.below (Below.refl _ _).drew) (SD.out.below (Below.refl _ _).drew)).mono ?_
  rintro e wa ⟨rfl, hb⟩
  have HBa := Lib.hid ((Below.refl _ _).drew.trans hb)
  refine hK.out _ _ ?_ (fun _ => ?_)
  · exact ⟨(HA2.out.under (HBa.out) HA2.out.lt), (HD2.out.under (HBa.out) HD2.out.lt)⟩
  clear hK K hb
  (try simp only [Act.put, List.getElem_toArray, List.getElem_cons_succ, List.getElem_cons_zero, List.setIfInBounds_toArray, List.set_cons_zero, List.set_cons_succ])
  refine wpAnyH_take (i := 7) (v := ?bv7) rfl (by kernel_rfl) (by kernel_rfl) (by kernel_rfl) (fun _ _ _ h => h) (Or.inl ⟨by rfl, ?by7⟩) (by assumption) ?br7
  case by7 =>
    intro wx hSw
    have hq := hSw.1.six
    obtain ⟨⟨x0, x1, x2⟩, ⟨x3, x4, x5⟩, xf⟩ := hq
    have hq2 := hSw.2.six
    obtain ⟨⟨y0, y1, y2⟩, ⟨y3, y4, y5⟩, yf⟩ := hq2
    clear hSw
    go_simp
    first | done | (with_reducible rfl) | (rw [if_neg (by have l1 : (ByteArray.mk #[32]).size = 1 := rfl; have l3 : (ByteArray.mk #[108, 111, 99, 97, 108, 101, 32]).size = 7 := rfl; have l4 : (ByteArray.mk #[99, 108, 97, 115, 115, 32]).size = 6 := rfl; have l5 : (ByteArray.mk #[101, 108, 101, 109, 101, 110, 116, 32]).size = 8 := rfl; have l2 : (ByteArray.mk #[10]).size = 1 := rfl; first | omega | (simp only [ByteArray.size_append]; omega))] <;> with_reducible rfl)
  (try simp only [Act.put, List.getElem_toArray, List.getElem_cons_succ, List.getElem_cons_zero, List.setIfInBounds_toArray, List.set_cons_zero, List.set_cons_succ])
  refine wpAnyH_ready (rs := [12]) (by kernel_rfl) (by simp) ?_
  refine AllReadyH.cons rfl (fun K hK => ?_) AllReadyH.nil
  go_simp
  go_at_call 28
  with_reducible refine (HC1.out _).mono ?_
  rintro e wb ⟨rfl, hb⟩
  have HBb := Lib.hid (HBa.out.trans (hb.mono HBa.out.size))
  refine hK.out _ _ ?_ (fun _ => ?_)
  · exact ⟨(HA2.out.under (HBb.out) HA2.out.lt), (HD2.out.under (HBb.out) HD2.out.lt)⟩
  clear hK K hb
  (try simp only [Act.put, List.getElem_toArray, List.getElem_cons_succ, List.getElem_cons_zero, List.setIfInBounds_toArray, List.set_cons_zero, List.set_cons_succ])
  refine wpAnyH_take (i := 13) (v := ?cv13) rfl (by kernel_rfl) (by kernel_rfl) (by kernel_rfl) (fun _ _ _ h => h) (Or.inl ⟨by rfl, ?cy13⟩) (by assumption) ?cr13
  case cy13 =>
    intro wx hSw
    have hq := hSw.1.six
    obtain ⟨⟨x0, x1, x2⟩, ⟨x3, x4, x5⟩, xf⟩ := hq
    have hq2 := hSw.2.six
    obtain ⟨⟨y0, y1, y2⟩, ⟨y3, y4, y5⟩, yf⟩ := hq2
    clear hSw
    go_simp
    first | done | (with_reducible rfl) | (rw [if_neg (by have l1 : (ByteArray.mk #[32]).size = 1 := rfl; have l3 : (ByteArray.mk #[108, 111, 99, 97, 108, 101, 32]).size = 7 := rfl; have l4 : (ByteArray.mk #[99, 108, 97, 115, 115, 32]).size = 6 := rfl; have l5 : (ByteArray.mk #[101, 108, 101, 109, 101, 110, 116, 32]).size = 8 := rfl; have l2 : (ByteArray.mk #[10]).size = 1 := rfl; first | omega | (simp only [ByteArray.size_append]; omega))] <;> with_reducible rfl)
  (try simp only [Act.put, List.getElem_toArray, List.getElem_cons_succ, List.getElem_cons_zero, List.setIfInBounds_toArray, List.set_cons_zero, List.set_cons_succ])
  refine wpAnyH_ready (rs := [18]) (by kernel_rfl) (by simp) ?_
  refine AllReadyH.cons rfl (fun K hK => ?_) AllReadyH.nil
  go_simp
  go_at_call 28
  with_reducible refine (HC2.out _).mono ?_
  rintro e wc ⟨rfl, hb⟩
  have HBc := Lib.hid (HBb.out.trans (hb.mono HBb.out.size))
  refine hK.out _ _ ?_ (fun _ => ?_)
  · exact ⟨(HA2.out.under (HBc.out) HA2.out.lt), (HD2.out.under (HBc.out) HD2.out.lt)⟩
  clear hK K hb
  (try simp only [Act.put, List.getElem_toArray, List.getElem_cons_succ, List.getElem_cons_zero, List.setIfInBounds_toArray, List.set_cons_zero, List.set_cons_succ])
  refine wpAnyH_take (i := 19) (v := ?dv19) rfl (by kernel_rfl) (by kernel_rfl) (by kernel_rfl) (fun _ _ _ h => h) (Or.inl ⟨by rfl, ?dy19⟩) (by assumption) ?dr19
  case dy19 =>
    intro wx hSw
    have hq := hSw.1.six
    obtain ⟨⟨x0, x1, x2⟩, ⟨x3, x4, x5⟩, xf⟩ := hq
    have hq2 := hSw.2.six
    obtain ⟨⟨y0, y1, y2⟩, ⟨y3, y4, y5⟩, yf⟩ := hq2
    clear hSw
    go_simp
    first | done | (with_reducible rfl) | (rw [if_neg (by have l1 : (ByteArray.mk #[32]).size = 1 := rfl; have l3 : (ByteArray.mk #[108, 111, 99, 97, 108, 101, 32]).size = 7 := rfl; have l4 : (ByteArray.mk #[99, 108, 97, 115, 115, 32]).size = 6 := rfl; have l5 : (ByteArray.mk #[101, 108, 101, 109, 101, 110, 116, 32]).size = 8 := rfl; have l2 : (ByteArray.mk #[10]).size = 1 := rfl; first | omega | (simp only [ByteArray.size_append]; omega))] <;> with_reducible rfl)
  (try simp only [Act.put, List.getElem_toArray, List.getElem_cons_succ, List.getElem_cons_zero, List.setIfInBounds_toArray, List.set_cons_zero, List.set_cons_succ])
  refine wpAnyH_take (i := 20) (v := ?dv20) rfl (by kernel_rfl) (by kernel_rfl) (by kernel_rfl) (fun _ _ _ h => h) (Or.inl ⟨by rfl, ?dy20⟩) (by assumption) ?dr20
  case dy20 =>
    intro wx hSw
    have hq := hSw.1.six
    obtain ⟨⟨x0, x1, x2⟩, ⟨x3, x4, x5⟩, xf⟩ := hq
    have hq2 := hSw.2.six
    obtain ⟨⟨y0, y1, y2⟩, ⟨y3, y4, y5⟩, yf⟩ := hq2
    clear hSw
    go_simp
    first | done | (with_reducible rfl) | (rw [if_neg (by have l1 : (ByteArray.mk #[32]).size = 1 := rfl; have l3 : (ByteArray.mk #[108, 111, 99, 97, 108, 101, 32]).size = 7 := rfl; have l4 : (ByteArray.mk #[99, 108, 97, 115, 115, 32]).size = 6 := rfl; have l5 : (ByteArray.mk #[101, 108, 101, 109, 101, 110, 116, 32]).size = 8 := rfl; have l2 : (ByteArray.mk #[10]).size = 1 := rfl; first | omega | (simp only [ByteArray.size_append]; omega))] <;> with_reducible rfl)
  (try simp only [Act.put, List.getElem_toArray, List.getElem_cons_succ, List.getElem_cons_zero, List.setIfInBounds_toArray, List.set_cons_zero, List.set_cons_succ])
  refine wpAnyH_done (by kernel_rfl) ?_ _
  have hO0 : (ByteArray.mk #[108, 111, 99, 97, 108, 101, 32] ++ L.name ++ ByteArray.mk #[10] ++ ZW ++ ZL ++ ZU) = mk (cat (headLines (ofLoc L))) := by
    rw [head_cat]
    apply ByteArray.ext
    apply Array.ext'
    rw [← HZW.out, ← HZL.out, ← HZU.out]
    simp [mk, kLoc, kLow, kUp, ofLoc, wOut_all, ByteArray.data_append]
  have HP : Hid (LAt wc B0 #[.string L.name, .slice (some ⟨b0, o0, none⟩) 256 cw, .string L.lower, .string L.upper, .slice ac nc cc, .slice ae ne ce] ∧ Below w.heap.size w wc) := ⟨HA2.out.under HBc.out HA2.out.lt, HBq.out.trans (HBc.out.mono HBq.out.size)⟩
  have HCl : Hid ((ofLoc L).cls.length = nc) := by show _ = _; rw [← HNc.out]; simp [ofLoc]
  have HEl : Hid ((ofLoc L).els.length = ne) := by show _ = _; rw [← HNe.out]; simp [ofLoc]
  have hni : (nc : Int) ≤ 24 := by omega
  have hnei : (ne : Int) ≤ 64 := by omega
  generalize (ByteArray.mk #[108, 111, 99, 97, 108, 101, 32] ++ L.name ++ ByteArray.mk #[10] ++ ZW ++ ZL ++ ZU) = O0 at hO0 ⊢
  have HO0 := Lib.hid hO0
  clear hO0
  go_wp2
  go_loopw [4, 5] (fun o v wr => ∃ (k : Nat) (O : ByteArray), k ≤ nc ∧ o = .string O ∧ v = .int .i64 k ∧ Hid (O = mk (cat (headLines (ofLoc L) ++ ((ofLoc L).cls.take k).map clsLine)) ∧ Below wc.heap.size wc wr)) (fun _ v _ => nc - (intOf v).toNat)
  case atStart => exact ⟨0, _, Nat.zero_le _, rfl, rfl, by simp only [List.take_zero, List.map_nil, List.append_nil]; exact HO0.out, Below.refl _ _⟩
  case round =>
    obtain ⟨k, O, hk, rfl, rfl, HR⟩ := hrel
    have hOs : O.size ≤ 63913 := by
      rw [HR.out.1, mk_size, cat_len, cost_app]
      have h1 := cost_take clsLine (ofLoc L).cls k
      have h2 := HCost.out
      unfold fmtLines at h2
      rw [cost_app, cost_app] at h2
      omega
    have hOi : (O.size : Int) ≤ 63913 := by omega
    have hwr : Below w.heap.size w wr := HP.out.2.trans (HR.out.2.mono HP.out.2.size)
    have HAr : Hid (LAt wr B0 #[.string L.name, .slice (some ⟨b0, o0, none⟩) 256 cw, .string L.lower, .string L.upper, .slice ac nc cc, .slice ae ne ce]) := HP.out.1.under HR.out.2 HP.out.1.lt
    obtain ⟨⟨x0, x1, x2⟩, ⟨x3, x4, x5⟩, xf⟩ := HAr.out.six
    by_cases hkn : k < nc
    · have ki : (k : Int) < nc := by omega
      have ki0 : (0 : Int) ≤ k := by omega
      have hkL : k < (ofLoc L).cls.length := by rw [HCl.out]; exact hkn
      rcases HLc.out with h0 | ⟨bc, oc, rfl, hbc, hcells⟩
      · omega
      have hcx : ∀ i, i < 5 → wr.cell? ⟨bc, oc + k * 5 + i, none⟩ = some (clsF L k i) := fun i hi => by
        rw [hwr.cell (by exact hbc)]
        exact hcells k i hkn hi
      have hfi : ∀ i, i < 4 → clsF L k (i + 1) = .int .u64 ((wd (L.cset k) (64 * i) 64 : Nat) : Int) := fun i hi => rfl
      have g0 := hcx 0 (by decide)
      have g1 := hcx 1 (by decide)
      have g2 := hcx 2 (by decide)
      have g3 := hcx 3 (by decide)
      have g4 := hcx 4 (by decide)
      rw [show clsF L k 0 = .string (L.cn k) from rfl] at g0
      rw [show 1 = 0 + 1 from rfl, hfi 0 (by decide)] at g1
      rw [show 2 = 1 + 1 from rfl, hfi 1 (by decide)] at g2
      rw [show 3 = 2 + 1 from rfl, hfi 2 (by decide)] at g3
      rw [show 4 = 3 + 1 from rfl, hfi 3 (by decide)] at g4
      simp only [Nat.add_zero, Nat.zero_add, Nat.reduceAdd, Nat.mul_zero, Nat.mul_one, Nat.reduceMul] at g0 g1 g2 g3 g4
      have hnk := nm_len (HV.out.cn k (by rw [HNc.out]; exact hkn)).1
      have HLn : Hid (cat (headLines (ofLoc L) ++ ((ofLoc L).cls.take (k + 1)).map clsLine) = cat (headLines (ofLoc L) ++ ((ofLoc L).cls.take k).map clsLine) ++ ((kCls ++ 32 :: ((L.cn k).data.toList ++ rOut (L.cset k) 256)) ++ [10])) := by
        show _ = _
        rw [takeS clsLine _ k hkL, ← List.append_assoc, cat_app, cat_one, clsLine_spc]
        simp only [ofLoc, List.getElem_map, List.getElem_range]
      obtain ⟨p, hp⟩ : ∃ p, L.cset k = p := ⟨_, rfl⟩
      obtain ⟨X, hX⟩ : ∃ X, L.cn k = X := ⟨_, rfl⟩
      rw [hp] at g1 g2 g3 g4 HLn
      rw [hX] at g0 hnk HLn
      rw [size_len] at hnk
      have iX : (X.size : Int) ≤ 32 := by omega
      have hra := rranges_any p
      have hrl := rOut_len p 256 (Nat.le_refl _)
      obtain ⟨ZR, hZR⟩ : ∃ Z, mk (rOut p 256) = Z := ⟨_, rfl⟩
      have zr : ZR.size ≤ 2048 := by rw [← hZR, mk_size]; exact hrl
      have izr : (ZR.size : Int) ≤ 2048 := by omega
      rw [hZR] at hra
      unfold cs cl at hra
      have HRa := Lib.hid hra
      have HZR := Lib.hid hZR
      have HGs : Hid (wr.cell? ⟨bc, oc + k * 5, none⟩ = some (.string X) ∧ wr.cell? ⟨bc, oc + k * 5 + 1, none⟩ = some (.int .u64 ((wd p 0 64 : Nat) : Int)) ∧ wr.cell? ⟨bc, oc + k * 5 + 2, none⟩ = some (.int .u64 ((wd p 64 64 : Nat) : Int)) ∧ wr.cell? ⟨bc, oc + k * 5 + 3, none⟩ = some (.int .u64 ((wd p 128 64 : Nat) : Int)) ∧ wr.cell? ⟨bc, oc + k * 5 + 4, none⟩ = some (.int .u64 ((wd p 192 64 : Nat) : Int))) := ⟨g0, g1, g2, g3, g4⟩
      have hbl : bc < wr.heap.size := Nat.lt_of_lt_of_le hbc hwr.size
      clear hcx hfi hcells hkL hp hX hra hrl hZR hnk g0 g1 g2 g3 g4 hwr
      go_wp2
      refine wp_region_held_drew (S := fun w' => LAt w' B0 #[.string L.name, .slice (some ⟨b0, o0, none⟩) 256 cw, .string L.lower, .string L.upper, .slice (some ⟨bc, oc, none⟩) nc cc, .slice ae ne ce] ∧ (w'.cell? ⟨bc, oc + k * 5, none⟩ = some (.string X) ∧ w'.cell? ⟨bc, oc + k * 5 + 1, none⟩ = some (.int .u64 ((wd p 0 64 : Nat) : Int)) ∧ w'.cell? ⟨bc, oc + k * 5 + 2, none⟩ = some (.int .u64 ((wd p 64 64 : Nat) : Int)) ∧ w'.cell? ⟨bc, oc + k * 5 + 3, none⟩ = some (.int .u64 ((wd p 128 64 : Nat) : Int)) ∧ w'.cell? ⟨bc, oc + k * 5 + 4, none⟩ = some (.int .u64 ((wd p 192 64 : Nat) : Int)))) (by kernel_rfl) ?_ (fun hHeld => ?_)
      · exact ⟨HAr.out.under (Below.refl _ _).drew HAr.out.lt, HGs.out⟩
      refine wpAnyH_take (i := 0) (v := ?ev0) rfl (by kernel_rfl) (by kernel_rfl) (by kernel_rfl) (fun _ _ _ h => h) (Or.inl ⟨by rfl, ?ey0⟩) (by assumption) ?er0
      case ey0 =>
        intro wx hSw
        have hq := hSw.1.six
        obtain ⟨⟨x0, x1, x2⟩, ⟨x3, x4, x5⟩, xf⟩ := hq
        have hq2 := hSw.2
        obtain ⟨g0, g1, g2, g3, g4⟩ := hq2
        clear hSw
        go_simp
        first | done | (with_reducible rfl) | (rw [if_neg (by have l1 : (ByteArray.mk #[32]).size = 1 := rfl; have l3 : (ByteArray.mk #[108, 111, 99, 97, 108, 101, 32]).size = 7 := rfl; have l4 : (ByteArray.mk #[99, 108, 97, 115, 115, 32]).size = 6 := rfl; have l5 : (ByteArray.mk #[101, 108, 101, 109, 101, 110, 116, 32]).size = 8 := rfl; have l2 : (ByteArray.mk #[10]).size = 1 := rfl; first | omega | (simp only [ByteArray.size_append]; omega))] <;> with_reducible rfl)
      (try simp only [Act.put, List.getElem_toArray, List.getElem_cons_zero, List.setIfInBounds_toArray, List.set_cons_zero, List.set_cons_succ])
      refine wpAnyH_take (i := 1) (v := ?ev1) rfl (by kernel_rfl) (by kernel_rfl) (by kernel_rfl) (fun _ _ _ h => h) (Or.inl ⟨by rfl, ?ey1⟩) (by assumption) ?er1
      case ey1 =>
        intro wx hSw
        have hq := hSw.1.six
        obtain ⟨⟨x0, x1, x2⟩, ⟨x3, x4, x5⟩, xf⟩ := hq
        have hq2 := hSw.2
        obtain ⟨g0, g1, g2, g3, g4⟩ := hq2
        clear hSw
        go_simp
        first | done | (with_reducible rfl) | (rw [if_neg (by have l1 : (ByteArray.mk #[32]).size = 1 := rfl; have l3 : (ByteArray.mk #[108, 111, 99, 97, 108, 101, 32]).size = 7 := rfl; have l4 : (ByteArray.mk #[99, 108, 97, 115, 115, 32]).size = 6 := rfl; have l5 : (ByteArray.mk #[101, 108, 101, 109, 101, 110, 116, 32]).size = 8 := rfl; have l2 : (ByteArray.mk #[10]).size = 1 := rfl; first | omega | (simp only [ByteArray.size_append]; omega))] <;> with_reducible rfl)
      (try simp only [Act.put, List.getElem_toArray, List.getElem_cons_succ, List.getElem_cons_zero, List.setIfInBounds_toArray, List.set_cons_zero, List.set_cons_succ])
      refine wpAnyH_take (i := 2) (v := ?ev2) rfl (by kernel_rfl) (by kernel_rfl) (by kernel_rfl) (fun _ _ _ h => h) (Or.inl ⟨by rfl, ?ey2⟩) (by assumption) ?er2
      case ey2 =>
        intro wx hSw
        have hq := hSw.1.six
        obtain ⟨⟨x0, x1, x2⟩, ⟨x3, x4, x5⟩, xf⟩ := hq
        have hq2 := hSw.2
        obtain ⟨g0, g1, g2, g3, g4⟩ := hq2
        clear hSw
        go_simp
        first | done | (with_reducible rfl) | (rw [if_neg (by have l1 : (ByteArray.mk #[32]).size = 1 := rfl; have l3 : (ByteArray.mk #[108, 111, 99, 97, 108, 101, 32]).size = 7 := rfl; have l4 : (ByteArray.mk #[99, 108, 97, 115, 115, 32]).size = 6 := rfl; have l5 : (ByteArray.mk #[101, 108, 101, 109, 101, 110, 116, 32]).size = 8 := rfl; have l2 : (ByteArray.mk #[10]).size = 1 := rfl; first | omega | (simp only [ByteArray.size_append]; omega))] <;> with_reducible rfl)
      (try simp only [Act.put, List.getElem_toArray, List.getElem_cons_succ, List.getElem_cons_zero, List.setIfInBounds_toArray, List.set_cons_zero, List.set_cons_succ])
      refine wpAnyH_take (i := 3) (v := ?ev3) rfl (by kernel_rfl) (by kernel_rfl) (by kernel_rfl) (fun _ _ _ h => h) (Or.inl ⟨by rfl, ?ey3⟩) (by assumption) ?er3
      case ey3 =>
        intro wx hSw
        have hq := hSw.1.six
        obtain ⟨⟨x0, x1, x2⟩, ⟨x3, x4, x5⟩, xf⟩ := hq
        have hq2 := hSw.2
        obtain ⟨g0, g1, g2, g3, g4⟩ := hq2
        clear hSw
        go_simp
        first | done | (with_reducible rfl) | (rw [if_neg (by have l1 : (ByteArray.mk #[32]).size = 1 := rfl; have l3 : (ByteArray.mk #[108, 111, 99, 97, 108, 101, 32]).size = 7 := rfl; have l4 : (ByteArray.mk #[99, 108, 97, 115, 115, 32]).size = 6 := rfl; have l5 : (ByteArray.mk #[101, 108, 101, 109, 101, 110, 116, 32]).size = 8 := rfl; have l2 : (ByteArray.mk #[10]).size = 1 := rfl; first | omega | (simp only [ByteArray.size_append]; omega))] <;> with_reducible rfl)
      (try simp only [Act.put, List.getElem_toArray, List.getElem_cons_succ, List.getElem_cons_zero, List.setIfInBounds_toArray, List.set_cons_zero, List.set_cons_succ])
      refine wpAnyH_take (i := 4) (v := ?ev4) rfl (by kernel_rfl) (by kernel_rfl) (by kernel_rfl) (fun _ _ _ h => h) (Or.inl ⟨by rfl, ?ey4⟩) (by assumption) ?er4
      case ey4 =>
        intro wx hSw
        have hq := hSw.1.six
        obtain ⟨⟨x0, x1, x2⟩, ⟨x3, x4, x5⟩, xf⟩ := hq
        have hq2 := hSw.2
        obtain ⟨g0, g1, g2, g3, g4⟩ := hq2
        clear hSw
        go_simp
        first | done | (with_reducible rfl) | (rw [if_neg (by have l1 : (ByteArray.mk #[32]).size = 1 := rfl; have l3 : (ByteArray.mk #[108, 111, 99, 97, 108, 101, 32]).size = 7 := rfl; have l4 : (ByteArray.mk #[99, 108, 97, 115, 115, 32]).size = 6 := rfl; have l5 : (ByteArray.mk #[101, 108, 101, 109, 101, 110, 116, 32]).size = 8 := rfl; have l2 : (ByteArray.mk #[10]).size = 1 := rfl; first | omega | (simp only [ByteArray.size_append]; omega))] <;> with_reducible rfl)
      (try simp only [Act.put, List.getElem_toArray, List.getElem_cons_succ, List.getElem_cons_zero, List.setIfInBounds_toArray, List.set_cons_zero, List.set_cons_succ])
      refine wpAnyH_take (i := 5) (v := ?ev5) rfl (by kernel_rfl) (by kernel_rfl) (by kernel_rfl) (fun _ _ _ h => h) (Or.inl ⟨by rfl, ?ey5⟩) (by assumption) ?er5
      case ey5 =>
        intro wx hSw
        have hq := hSw.1.six
        obtain ⟨⟨x0, x1, x2⟩, ⟨x3, x4, x5⟩, xf⟩ := hq
        have hq2 := hSw.2
        obtain ⟨g0, g1, g2, g3, g4⟩ := hq2
        clear hSw
        go_simp
        first | done | (with_reducible rfl) | (rw [if_neg (by have l1 : (ByteArray.mk #[32]).size = 1 := rfl; have l3 : (ByteArray.mk #[108, 111, 99, 97, 108, 101, 32]).size = 7 := rfl; have l4 : (ByteArray.mk #[99, 108, 97, 115, 115, 32]).size = 6 := rfl; have l5 : (ByteArray.mk #[101, 108, 101, 109, 101, 110, 116, 32]).size = 8 := rfl; have l2 : (ByteArray.mk #[10]).size = 1 := rfl; first | omega | (simp only [ByteArray.size_append]; omega))] <;> with_reducible rfl)
      (try simp only [Act.put, List.getElem_toArray, List.getElem_cons_succ, List.getElem_cons_zero, List.setIfInBounds_toArray, List.set_cons_zero, List.set_cons_succ])
      refine wpAnyH_take (i := 6) (v := ?ev6) rfl (by kernel_rfl) (by kernel_rfl) (by kernel_rfl) (fun _ _ _ h => h) (Or.inl ⟨by rfl, ?ey6⟩) (by assumption) ?er6
      case ey6 =>
        intro wx hSw
        have hq := hSw.1.six
        obtain ⟨⟨x0, x1, x2⟩, ⟨x3, x4, x5⟩, xf⟩ := hq
        have hq2 := hSw.2
        obtain ⟨g0, g1, g2, g3, g4⟩ := hq2
        clear hSw
        go_simp
        first | done | (with_reducible rfl) | (rw [if_neg (by have l1 : (ByteArray.mk #[32]).size = 1 := rfl; have l3 : (ByteArray.mk #[108, 111, 99, 97, 108, 101, 32]).size = 7 := rfl; have l4 : (ByteArray.mk #[99, 108, 97, 115, 115, 32]).size = 6 := rfl; have l5 : (ByteArray.mk #[101, 108, 101, 109, 101, 110, 116, 32]).size = 8 := rfl; have l2 : (ByteArray.mk #[10]).size = 1 := rfl; first | omega | (simp only [ByteArray.size_append]; omega))] <;> with_reducible rfl)
      (try simp only [Act.put, List.getElem_toArray, List.getElem_cons_succ, List.getElem_cons_zero, List.setIfInBounds_toArray, List.set_cons_zero, List.set_cons_succ])
      refine wpAnyH_take (i := 7) (v := ?ev7) rfl (by kernel_rfl) (by kernel_rfl) (by kernel_rfl) (fun _ _ _ h => h) (Or.inl ⟨by rfl, ?ey7⟩) (by assumption) ?er7
      case ey7 =>
        intro wx hSw
        have hq := hSw.1.six
        obtain ⟨⟨x0, x1, x2⟩, ⟨x3, x4, x5⟩, xf⟩ := hq
        have hq2 := hSw.2
        obtain ⟨g0, g1, g2, g3, g4⟩ := hq2
        clear hSw
        go_simp
        first | done | (with_reducible rfl) | (rw [if_neg (by have l1 : (ByteArray.mk #[32]).size = 1 := rfl; have l3 : (ByteArray.mk #[108, 111, 99, 97, 108, 101, 32]).size = 7 := rfl; have l4 : (ByteArray.mk #[99, 108, 97, 115, 115, 32]).size = 6 := rfl; have l5 : (ByteArray.mk #[101, 108, 101, 109, 101, 110, 116, 32]).size = 8 := rfl; have l2 : (ByteArray.mk #[10]).size = 1 := rfl; first | omega | (simp only [ByteArray.size_append]; omega))] <;> with_reducible rfl)
      (try simp only [Act.put, List.getElem_toArray, List.getElem_cons_succ, List.getElem_cons_zero, List.setIfInBounds_toArray, List.set_cons_zero, List.set_cons_succ])
      refine wpAnyH_take (i := 8) (v := ?ev8) rfl (by kernel_rfl) (by kernel_rfl) (by kernel_rfl) (fun _ _ _ h => h) (Or.inl ⟨by rfl, ?ey8⟩) (by assumption) ?er8
      case ey8 =>
        intro wx hSw
        have hq := hSw.1.six
        obtain ⟨⟨x0, x1, x2⟩, ⟨x3, x4, x5⟩, xf⟩ := hq
        have hq2 := hSw.2
        obtain ⟨g0, g1, g2, g3, g4⟩ := hq2
        clear hSw
        go_simp
        first | done | (with_reducible rfl) | (rw [if_neg (by have l1 : (ByteArray.mk #[32]).size = 1 := rfl; have l3 : (ByteArray.mk #[108, 111, 99, 97, 108, 101, 32]).size = 7 := rfl; have l4 : (ByteArray.mk #[99, 108, 97, 115, 115, 32]).size = 6 := rfl; have l5 : (ByteArray.mk #[101, 108, 101, 109, 101, 110, 116, 32]).size = 8 := rfl; have l2 : (ByteArray.mk #[10]).size = 1 := rfl; first | omega | (simp only [ByteArray.size_append]; omega))] <;> with_reducible rfl)
      (try simp only [Act.put, List.getElem_toArray, List.getElem_cons_succ, List.getElem_cons_zero, List.setIfInBounds_toArray, List.set_cons_zero, List.set_cons_succ])
      refine wpAnyH_take (i := 9) (v := ?ev9) rfl (by kernel_rfl) (by kernel_rfl) (by kernel_rfl) (fun _ _ _ h => h) (Or.inl ⟨by rfl, ?ey9⟩) (by assumption) ?er9
      case ey9 =>
        intro wx hSw
        have hq := hSw.1.six
        obtain ⟨⟨x0, x1, x2⟩, ⟨x3, x4, x5⟩, xf⟩ := hq
        have hq2 := hSw.2
        obtain ⟨g0, g1, g2, g3, g4⟩ := hq2
        clear hSw
        go_simp
        first | done | (with_reducible rfl) | (rw [if_neg (by have l1 : (ByteArray.mk #[32]).size = 1 := rfl; have l3 : (ByteArray.mk #[108, 111, 99, 97, 108, 101, 32]).size = 7 := rfl; have l4 : (ByteArray.mk #[99, 108, 97, 115, 115, 32]).size = 6 := rfl; have l5 : (ByteArray.mk #[101, 108, 101, 109, 101, 110, 116, 32]).size = 8 := rfl; have l2 : (ByteArray.mk #[10]).size = 1 := rfl; first | omega | (simp only [ByteArray.size_append]; omega))] <;> with_reducible rfl)
      (try simp only [Act.put, List.getElem_toArray, List.getElem_cons_succ, List.getElem_cons_zero, List.setIfInBounds_toArray, List.set_cons_zero, List.set_cons_succ])
      refine wpAnyH_take (i := 10) (v := ?ev10) rfl (by kernel_rfl) (by kernel_rfl) (by kernel_rfl) (fun _ _ _ h => h) (Or.inl ⟨by rfl, ?ey10⟩) (by assumption) ?er10
      case ey10 =>
        intro wx hSw
        have hq := hSw.1.six
        obtain ⟨⟨x0, x1, x2⟩, ⟨x3, x4, x5⟩, xf⟩ := hq
        have hq2 := hSw.2
        obtain ⟨g0, g1, g2, g3, g4⟩ := hq2
        clear hSw
        go_simp
        first | done | (with_reducible rfl) | (rw [if_neg (by have l1 : (ByteArray.mk #[32]).size = 1 := rfl; have l3 : (ByteArray.mk #[108, 111, 99, 97, 108, 101, 32]).size = 7 := rfl; have l4 : (ByteArray.mk #[99, 108, 97, 115, 115, 32]).size = 6 := rfl; have l5 : (ByteArray.mk #[101, 108, 101, 109, 101, 110, 116, 32]).size = 8 := rfl; have l2 : (ByteArray.mk #[10]).size = 1 := rfl; first | omega | (simp only [ByteArray.size_append]; omega))] <;> with_reducible rfl)
      (try simp only [Act.put, List.getElem_toArray, List.getElem_cons_succ, List.getElem_cons_zero, List.setIfInBounds_toArray, List.set_cons_zero, List.set_cons_succ])
      refine wpAnyH_take (i := 11) (v := ?ev11) rfl (by kernel_rfl) (by kernel_rfl) (by kernel_rfl) (fun _ _ _ h => h) (Or.inl ⟨by rfl, ?ey11⟩) (by assumption) ?er11
      case ey11 =>
        intro wx hSw
        have hq := hSw.1.six
        obtain ⟨⟨x0, x1, x2⟩, ⟨x3, x4, x5⟩, xf⟩ := hq
        have hq2 := hSw.2
        obtain ⟨g0, g1, g2, g3, g4⟩ := hq2
        clear hSw
        go_simp
        first | done | (with_reducible rfl) | (rw [if_neg (by have l1 : (ByteArray.mk #[32]).size = 1 := rfl; have l3 : (ByteArray.mk #[108, 111, 99, 97, 108, 101, 32]).size = 7 := rfl; have l4 : (ByteArray.mk #[99, 108, 97, 115, 115, 32]).size = 6 := rfl; have l5 : (ByteArray.mk #[101, 108, 101, 109, 101, 110, 116, 32]).size = 8 := rfl; have l2 : (ByteArray.mk #[10]).size = 1 := rfl; first | omega | (simp only [ByteArray.size_append]; omega))] <;> with_reducible rfl)
      (try simp only [Act.put, List.getElem_toArray, List.getElem_cons_succ, List.getElem_cons_zero, List.setIfInBounds_toArray, List.set_cons_zero, List.set_cons_succ])
      refine wpAnyH_take (i := 12) (v := ?ev12) rfl (by kernel_rfl) (by kernel_rfl) (by kernel_rfl) (fun _ _ _ h => h) (Or.inl ⟨by rfl, ?ey12⟩) (by assumption) ?er12
      case ey12 =>
        intro wx hSw
        have hq := hSw.1.six
        obtain ⟨⟨x0, x1, x2⟩, ⟨x3, x4, x5⟩, xf⟩ := hq
        have hq2 := hSw.2
        obtain ⟨g0, g1, g2, g3, g4⟩ := hq2
        clear hSw
        go_simp
        first | done | (with_reducible rfl) | (rw [if_neg (by have l1 : (ByteArray.mk #[32]).size = 1 := rfl; have l3 : (ByteArray.mk #[108, 111, 99, 97, 108, 101, 32]).size = 7 := rfl; have l4 : (ByteArray.mk #[99, 108, 97, 115, 115, 32]).size = 6 := rfl; have l5 : (ByteArray.mk #[101, 108, 101, 109, 101, 110, 116, 32]).size = 8 := rfl; have l2 : (ByteArray.mk #[10]).size = 1 := rfl; first | omega | (simp only [ByteArray.size_append]; omega))] <;> with_reducible rfl)
      (try simp only [Act.put, List.getElem_toArray, List.getElem_cons_succ, List.getElem_cons_zero, List.setIfInBounds_toArray, List.set_cons_zero, List.set_cons_succ])
      refine wpAnyH_take (i := 13) (v := ?ev13) rfl (by kernel_rfl) (by kernel_rfl) (by kernel_rfl) (fun _ _ _ h => h) (Or.inl ⟨by rfl, ?ey13⟩) (by assumption) ?er13
      case ey13 =>
        intro wx hSw
        have hq := hSw.1.six
        obtain ⟨⟨x0, x1, x2⟩, ⟨x3, x4, x5⟩, xf⟩ := hq
        have hq2 := hSw.2
        obtain ⟨g0, g1, g2, g3, g4⟩ := hq2
        clear hSw
        go_simp
        first | done | (with_reducible rfl) | (rw [if_neg (by have l1 : (ByteArray.mk #[32]).size = 1 := rfl; have l3 : (ByteArray.mk #[108, 111, 99, 97, 108, 101, 32]).size = 7 := rfl; have l4 : (ByteArray.mk #[99, 108, 97, 115, 115, 32]).size = 6 := rfl; have l5 : (ByteArray.mk #[101, 108, 101, 109, 101, 110, 116, 32]).size = 8 := rfl; have l2 : (ByteArray.mk #[10]).size = 1 := rfl; first | omega | (simp only [ByteArray.size_append]; omega))] <;> with_reducible rfl)
      (try simp only [Act.put, List.getElem_toArray, List.getElem_cons_succ, List.getElem_cons_zero, List.setIfInBounds_toArray, List.set_cons_zero, List.set_cons_succ])
      refine wpAnyH_take (i := 14) (v := ?ev14) rfl (by kernel_rfl) (by kernel_rfl) (by kernel_rfl) (fun _ _ _ h => h) (Or.inl ⟨by rfl, ?ey14⟩) (by assumption) ?er14
      case ey14 =>
        intro wx hSw
        have hq := hSw.1.six
        obtain ⟨⟨x0, x1, x2⟩, ⟨x3, x4, x5⟩, xf⟩ := hq
        have hq2 := hSw.2
        obtain ⟨g0, g1, g2, g3, g4⟩ := hq2
        clear hSw
        go_simp
        first | done | (with_reducible rfl) | (rw [if_neg (by have l1 : (ByteArray.mk #[32]).size = 1 := rfl; have l3 : (ByteArray.mk #[108, 111, 99, 97, 108, 101, 32]).size = 7 := rfl; have l4 : (ByteArray.mk #[99, 108, 97, 115, 115, 32]).size = 6 := rfl; have l5 : (ByteArray.mk #[101, 108, 101, 109, 101, 110, 116, 32]).size = 8 := rfl; have l2 : (ByteArray.mk #[10]).size = 1 := rfl; first | omega | (simp only [ByteArray.size_append]; omega))] <;> with_reducible rfl)
      (try simp only [Act.put, List.getElem_toArray, List.getElem_cons_succ, List.getElem_cons_zero, List.setIfInBounds_toArray, List.set_cons_zero, List.set_cons_succ])
      refine wpAnyH_ready (rs := [15]) (by kernel_rfl) (by simp) ?_
      refine AllReadyH.cons rfl (fun K hK => ?_) AllReadyH.nil
      go_simp
      go_at_call 29
      with_reducible refine (HRa.out _).mono ?_
      rintro e wa ⟨rfl, hb⟩
      have HBa := Lib.hid ((Below.refl _ _).drew.trans hb)
      refine hK.out _ _ ?_ (fun _ => ?_)
      · exact ⟨HAr.out.under HBa.out HAr.out.lt, cells5 HGs.out HBa.out hbl⟩
      clear hK K hb
      (try simp only [Act.put, List.getElem_toArray, List.getElem_cons_succ, List.getElem_cons_zero, List.setIfInBounds_toArray, List.set_cons_zero, List.set_cons_succ])
      refine wpAnyH_take (i := 16) (v := ?fv16) rfl (by kernel_rfl) (by kernel_rfl) (by kernel_rfl) (fun _ _ _ h => h) (Or.inl ⟨by rfl, ?fy16⟩) (by assumption) ?fr16
      case fy16 =>
        intro wx hSw
        have hq := hSw.1.six
        obtain ⟨⟨x0, x1, x2⟩, ⟨x3, x4, x5⟩, xf⟩ := hq
        have hq2 := hSw.2
        obtain ⟨g0, g1, g2, g3, g4⟩ := hq2
        clear hSw
        go_simp
        first | done | (with_reducible rfl) | (rw [if_neg (by have l1 : (ByteArray.mk #[32]).size = 1 := rfl; have l3 : (ByteArray.mk #[108, 111, 99, 97, 108, 101, 32]).size = 7 := rfl; have l4 : (ByteArray.mk #[99, 108, 97, 115, 115, 32]).size = 6 := rfl; have l5 : (ByteArray.mk #[101, 108, 101, 109, 101, 110, 116, 32]).size = 8 := rfl; have l2 : (ByteArray.mk #[10]).size = 1 := rfl; first | omega | (simp only [ByteArray.size_append]; omega))] <;> with_reducible rfl)
      (try simp only [Act.put, List.getElem_toArray, List.getElem_cons_succ, List.getElem_cons_zero, List.setIfInBounds_toArray, List.set_cons_zero, List.set_cons_succ])
      refine wpAnyH_take (i := 17) (v := ?fv17) rfl (by kernel_rfl) (by kernel_rfl) (by kernel_rfl) (fun _ _ _ h => h) (Or.inl ⟨by rfl, ?fy17⟩) (by assumption) ?fr17
      case fy17 =>
        intro wx hSw
        have hq := hSw.1.six
        obtain ⟨⟨x0, x1, x2⟩, ⟨x3, x4, x5⟩, xf⟩ := hq
        have hq2 := hSw.2
        obtain ⟨g0, g1, g2, g3, g4⟩ := hq2
        clear hSw
        go_simp
        first | done | (with_reducible rfl) | (rw [if_neg (by have l1 : (ByteArray.mk #[32]).size = 1 := rfl; have l3 : (ByteArray.mk #[108, 111, 99, 97, 108, 101, 32]).size = 7 := rfl; have l4 : (ByteArray.mk #[99, 108, 97, 115, 115, 32]).size = 6 := rfl; have l5 : (ByteArray.mk #[101, 108, 101, 109, 101, 110, 116, 32]).size = 8 := rfl; have l2 : (ByteArray.mk #[10]).size = 1 := rfl; first | omega | (simp only [ByteArray.size_append]; omega))] <;> with_reducible rfl)
      (try simp only [Act.put, List.getElem_toArray, List.getElem_cons_succ, List.getElem_cons_zero, List.setIfInBounds_toArray, List.set_cons_zero, List.set_cons_succ])
      refine wpAnyH_take (i := 18) (v := ?fv18) rfl (by kernel_rfl) (by kernel_rfl) (by kernel_rfl) (fun _ _ _ h => h) (Or.inl ⟨by rfl, ?fy18⟩) (by assumption) ?fr18
      case fy18 =>
        intro wx hSw
        have hq := hSw.1.six
        obtain ⟨⟨x0, x1, x2⟩, ⟨x3, x4, x5⟩, xf⟩ := hq
        have hq2 := hSw.2
        obtain ⟨g0, g1, g2, g3, g4⟩ := hq2
        clear hSw
        go_simp
        first | done | (with_reducible rfl) | (rw [if_neg (by have l1 : (ByteArray.mk #[32]).size = 1 := rfl; have l3 : (ByteArray.mk #[108, 111, 99, 97, 108, 101, 32]).size = 7 := rfl; have l4 : (ByteArray.mk #[99, 108, 97, 115, 115, 32]).size = 6 := rfl; have l5 : (ByteArray.mk #[101, 108, 101, 109, 101, 110, 116, 32]).size = 8 := rfl; have l2 : (ByteArray.mk #[10]).size = 1 := rfl; first | omega | (simp only [ByteArray.size_append]; omega))] <;> with_reducible rfl)
      (try simp only [Act.put, List.getElem_toArray, List.getElem_cons_succ, List.getElem_cons_zero, List.setIfInBounds_toArray, List.set_cons_zero, List.set_cons_succ])
      refine wpAnyH_done (by kernel_rfl) ?_ _
      go_wp2
      go_roundw
      case rel =>
        refine ⟨k + 1, _, by omega, rfl, by go_num, ?_, HR.out.2.trans (HBa.out.mono HR.out.2.size)⟩
        rw [HLn.out, mk_app, ← HR.out.1]
        apply ByteArray.ext
        apply Array.ext'
        rw [← HZR.out]
        simp [mk, kCls, ByteArray.data_append]
      case measure => simp [intOf]; omega
    · obtain rfl : k = nc := by omega
      have HFc : Hid (O = mk (cat (headLines (ofLoc L) ++ (ofLoc L).cls.map clsLine))) := by
        have h := HR.out.1
        rw [List.take_of_length_le (by rw [HCl.out]; exact Nat.le_refl _)] at h
        exact h
      have HQ : Hid (LAt wr B0 #[.string L.name, .slice (some ⟨b0, o0, none⟩) 256 cw, .string L.lower, .string L.upper, .slice ac k cc, .slice ae ne ce] ∧ Below w.heap.size w wr) := ⟨HAr.out, hwr⟩
      clear hwr HR hOs hOi
      rename World => wA
      go_wp2
      clear x0 x1 x2 x3 x4 x5 xf
      go_loopw [4, 6] (fun o v wr => ∃ (j : Nat) (O : ByteArray), j ≤ ne ∧ o = .string O ∧ v = .int .i64 j ∧ Hid (O = mk (cat (headLines (ofLoc L) ++ (ofLoc L).cls.map clsLine ++ ((ofLoc L).els.take j).map elmLine)) ∧ Below wA.heap.size wA wr)) (fun _ v _ => ne - (intOf v).toNat)
      case atStart => exact ⟨0, _, Nat.zero_le _, rfl, rfl, by simp only [List.take_zero, List.map_nil, List.append_nil]; exact HFc.out, Below.refl _ _⟩
      case round =>
        obtain ⟨j, O, hj, rfl, rfl, HR⟩ := hrel
        have hOs : O.size ≤ 63913 := by
          rw [HR.out.1, mk_size, cat_len, cost_app]
          have h1 := cost_take elmLine (ofLoc L).els j
          have h2 := HCost.out
          unfold fmtLines at h2
          rw [cost_app] at h2
          omega
        have hOi : (O.size : Int) ≤ 63913 := by omega
        have hwr : Below w.heap.size w wr := HQ.out.2.trans (HR.out.2.mono HQ.out.2.size)
        have HAr2 : Hid (LAt wr B0 #[.string L.name, .slice (some ⟨b0, o0, none⟩) 256 cw, .string L.lower, .string L.upper, .slice ac k cc, .slice ae ne ce]) := HQ.out.1.under HR.out.2 HQ.out.1.lt
        obtain ⟨⟨x0, x1, x2⟩, ⟨x3, x4, x5⟩, xf⟩ := HAr2.out.six
        by_cases hjn : j < ne
        · have ki : (j : Int) < ne := by omega
          have ki0 : (0 : Int) ≤ j := by omega
          have hjL : j < (ofLoc L).els.length := by rw [HEl.out]; exact hjn
          have hje : j < L.ne := by rw [HNe.out]; exact hjn
          rcases HLe.out with h0 | ⟨be, oe, rfl, hbe, hcells⟩
          · omega
          have hcx : ∀ i, i < 2 → wr.cell? ⟨be, oe + j * 2 + i, none⟩ = some (elmF L j i) := fun i hi => by
            rw [hwr.cell (by exact hbe)]
            exact hcells j i hjn hi
          have g0 := hcx 0 (by decide)
          have g1 := hcx 1 (by decide)
          rw [show elmF L j 0 = .string (L.et j) from rfl] at g0
          rw [show elmF L j 1 = .int .i64 (L.ew j) from rfl] at g1
          simp only [Nat.add_zero] at g0
          obtain ⟨hes, hv0, hv1, -⟩ := HV.out.et j hje
          have h0 : 0 < (L.et j).size := by omega
          have h1 : 1 < (L.et j).size := by omega
          have HLn : Hid (cat (headLines (ofLoc L) ++ (ofLoc L).cls.map clsLine ++ ((ofLoc L).els.take (j + 1)).map elmLine) = cat (headLines (ofLoc L) ++ (ofLoc L).cls.map clsLine ++ ((ofLoc L).els.take j).map elmLine) ++ ((kElm ++ (32 : UInt8) :: (fmB ((L.et j)[0]'h0).toNat ++ (32 : UInt8) :: (fmB ((L.et j)[1]'h1).toNat ++ (32 : UInt8) :: fmB (L.ew j).toNat))) ++ [(10 : UInt8)])) := by
            show _ = _
            rw [takeS elmLine _ j hjL, ← List.append_assoc, cat_app, cat_one]
            simp only [ofLoc, List.getElem_map, List.getElem_range]
            rw [elmLine_spc, getD_byte (L.et j) 0 h0, getD_byte (L.et j) 1 h1]
          generalize L.et j = X at g0 hes h0 h1 HLn
          generalize L.ew j = V at g1 hv0 hv1 HLn
          obtain ⟨ca, hca⟩ : ∃ c, (X[0]'h0).toNat = c := ⟨_, rfl⟩
          obtain ⟨cb, hcb⟩ : ∃ c, (X[1]'h1).toNat = c := ⟨_, rfl⟩
          have ca256 : ca < 256 := by rw [← hca]; exact UInt8.toNat_lt _
          have cb256 : cb < 256 := by rw [← hcb]; exact UInt8.toNat_lt _
          rw [hca, hcb] at HLn
          have wca : IntKind.i64.wrap (ca : Int) = (ca : Int) := IntWalk.i64_in _ (by omega)
          have wcb : IntKind.i64.wrap (cb : Int) = (cb : Int) := IntWalk.i64_in _ (by omega)
          have hfa := fun w => rfmt_any (ca : Int) w (by unfold fits; omega)
          have hfb := fun w => rfmt_any (cb : Int) w (by unfold fits; omega)
          have hfv := fun w => rfmt_any V w (by unfold fits; omega)
          have za := fmtS_size (ca : Int) (by unfold fits; omega)
          have zb := fmtS_size (cb : Int) (by unfold fits; omega)
          have zv := fmtS_size V (by unfold fits; omega)
          have hVn : ((V.toNat : Nat) : Int) = V := by omega
          have HVn := Lib.hid hVn
          obtain ⟨FA, hFA⟩ : ∃ F, fmtS (ca : Int) = F := ⟨_, rfl⟩
          obtain ⟨FB, hFB⟩ : ∃ F, fmtS (cb : Int) = F := ⟨_, rfl⟩
          obtain ⟨FV, hFV⟩ : ∃ F, fmtS V = F := ⟨_, rfl⟩
          rw [hFA] at hfa za
          rw [hFB] at hfb zb
          rw [hFV] at hfv zv
          have HFa := Lib.hid hfa
          have HFb := Lib.hid hfb
          have HFv := Lib.hid hfv
          have HFA := Lib.hid hFA
          have HFB := Lib.hid hFB
          have HFV := Lib.hid hFV
          have hXi0 : (0 : Int) < X.size := by omega
          have hXi1 : (1 : Int) < X.size := by omega
          clear hcx hcells hwr hjL hje hVn hfa hfb hfv hFA hFB hFV
          go_wp2
          have hbc2 : Below wr.heap.size wr (wr.alloc (.cells #[.string X, .int .i64 V] 53)) := (Below.refl _ _).alloc (Nat.le_refl _) _
          have hbox : (wr.alloc (.cells #[.string X, .int .i64 V] 53)).heap[wr.heap.size]? = some (.cells #[.string X, .int .i64 V] 53 (0, 0)) := heap_alloc_new wr _
          have hcsz : (wr.alloc (.cells #[.string X, .int .i64 V] 53)).heap.size = wr.heap.size + 1 := by simp
          generalize wr.alloc (.cells #[.string X, .int .i64 V] 53) = wc2 at hbc2 hbox hcsz ⊢
          have HBcc := Lib.hid hbc2
          have HBox := Lib.hid hbox
          have HCs := Lib.hid hcsz
          clear g0 g1 hbc2 hbox hcsz
          refine wp_region_held_drew (S := fun w' => w'.heap[wr.heap.size]? = some (.cells #[.string X, .int .i64 V] 53 (0, 0))) (by kernel_rfl) ?_ (fun hHeld => ?_)
          · exact HBox.out
          refine wpAnyH_take (i := 0) (v := ?gv0) rfl (by kernel_rfl) (by kernel_rfl) (by kernel_rfl) (fun _ _ _ h => h) (Or.inl ⟨by rfl, ?gy0⟩) (by assumption) ?gr0
          case gy0 =>
            intro wx hSw
            clear hSw
            go_simp
            first | done | (with_reducible rfl) | (rw [if_neg (by have l1 : (ByteArray.mk #[32]).size = 1 := rfl; have l3 : (ByteArray.mk #[108, 111, 99, 97, 108, 101, 32]).size = 7 := rfl; have l4 : (ByteArray.mk #[99, 108, 97, 115, 115, 32]).size = 6 := rfl; have l5 : (ByteArray.mk #[101, 108, 101, 109, 101, 110, 116, 32]).size = 8 := rfl; have l2 : (ByteArray.mk #[10]).size = 1 := rfl; first | omega | (simp only [ByteArray.size_append]; omega))] <;> with_reducible rfl)
          (try simp only [Act.put, List.getElem_toArray, List.getElem_cons_zero, List.setIfInBounds_toArray, List.set_cons_zero, List.set_cons_succ])
          refine wpAnyH_take (i := 1) (v := ?gv1) rfl (by kernel_rfl) (by kernel_rfl) (by kernel_rfl) (fun _ _ _ h => h) (Or.inl ⟨by rfl, ?gy1⟩) (by assumption) ?gr1
          case gy1 =>
            intro wx hSw
            clear hSw
            go_simp
            first | done | (with_reducible rfl) | (rw [if_neg (by have l1 : (ByteArray.mk #[32]).size = 1 := rfl; have l3 : (ByteArray.mk #[108, 111, 99, 97, 108, 101, 32]).size = 7 := rfl; have l4 : (ByteArray.mk #[99, 108, 97, 115, 115, 32]).size = 6 := rfl; have l5 : (ByteArray.mk #[101, 108, 101, 109, 101, 110, 116, 32]).size = 8 := rfl; have l2 : (ByteArray.mk #[10]).size = 1 := rfl; first | omega | (simp only [ByteArray.size_append]; omega))] <;> with_reducible rfl)
          (try simp only [Act.put, List.getElem_toArray, List.getElem_cons_succ, List.getElem_cons_zero, List.setIfInBounds_toArray, List.set_cons_zero, List.set_cons_succ])
          refine wpAnyH_take (i := 2) (v := ?gv2) rfl (by kernel_rfl) (by kernel_rfl) (by kernel_rfl) (fun _ _ _ h => h) (Or.inl ⟨by rfl, ?gy2⟩) (by assumption) ?gr2
          case gy2 =>
            intro wx hSw
            clear hSw
            go_simp
            first | done | (with_reducible rfl) | (rw [if_neg (by have l1 : (ByteArray.mk #[32]).size = 1 := rfl; have l3 : (ByteArray.mk #[108, 111, 99, 97, 108, 101, 32]).size = 7 := rfl; have l4 : (ByteArray.mk #[99, 108, 97, 115, 115, 32]).size = 6 := rfl; have l5 : (ByteArray.mk #[101, 108, 101, 109, 101, 110, 116, 32]).size = 8 := rfl; have l2 : (ByteArray.mk #[10]).size = 1 := rfl; first | omega | (simp only [ByteArray.size_append]; omega))] <;> with_reducible rfl)
          (try simp only [Act.put, List.getElem_toArray, List.getElem_cons_succ, List.getElem_cons_zero, List.setIfInBounds_toArray, List.set_cons_zero, List.set_cons_succ])
          refine wpAnyH_take (i := 3) (v := ?gv3) rfl (by kernel_rfl) (by kernel_rfl) (by kernel_rfl) (fun _ _ _ h => h) (Or.inl ⟨by rfl, ?gy3⟩) (by assumption) ?gr3
          case gy3 =>
            intro wx hSw
            have hcl := cell_of_row wx wr.heap.size 0 _ _ _ hSw
            simp only [List.getElem?_toArray, List.getElem?_cons_zero] at hcl
            clear hSw
            go_simp
            first | done | (with_reducible rfl) | (rw [if_neg (by have l1 : (ByteArray.mk #[32]).size = 1 := rfl; have l3 : (ByteArray.mk #[108, 111, 99, 97, 108, 101, 32]).size = 7 := rfl; have l4 : (ByteArray.mk #[99, 108, 97, 115, 115, 32]).size = 6 := rfl; have l5 : (ByteArray.mk #[101, 108, 101, 109, 101, 110, 116, 32]).size = 8 := rfl; have l2 : (ByteArray.mk #[10]).size = 1 := rfl; first | omega | (simp only [ByteArray.size_append]; omega))] <;> with_reducible rfl)
          (try simp only [Act.put, List.getElem_toArray, List.getElem_cons_succ, List.getElem_cons_zero, List.setIfInBounds_toArray, List.set_cons_zero, List.set_cons_succ])
          refine wpAnyH_take (i := 4) (v := ?gv4) rfl (by kernel_rfl) (by kernel_rfl) (by kernel_rfl) (fun _ _ _ h => h) (Or.inl ⟨by rfl, ?gy4⟩) (by assumption) ?gr4
          case gy4 =>
            intro wx hSw
            clear hSw
            go_simp
            first | done | (with_reducible rfl) | (rw [if_neg (by have l1 : (ByteArray.mk #[32]).size = 1 := rfl; have l3 : (ByteArray.mk #[108, 111, 99, 97, 108, 101, 32]).size = 7 := rfl; have l4 : (ByteArray.mk #[99, 108, 97, 115, 115, 32]).size = 6 := rfl; have l5 : (ByteArray.mk #[101, 108, 101, 109, 101, 110, 116, 32]).size = 8 := rfl; have l2 : (ByteArray.mk #[10]).size = 1 := rfl; first | omega | (simp only [ByteArray.size_append]; omega))] <;> with_reducible rfl)
          (try simp only [Act.put, List.getElem_toArray, List.getElem_cons_succ, List.getElem_cons_zero, List.setIfInBounds_toArray, List.set_cons_zero, List.set_cons_succ])
          refine wpAnyH_take (i := 5) (v := ?gv5) rfl (by kernel_rfl) (by kernel_rfl) (by kernel_rfl) (fun _ _ _ h => h) (Or.inl ⟨by rfl, ?gy5⟩) (by assumption) ?gr5
          case gy5 =>
            intro wx hSw
            clear hSw
            go_simp
            first | done | (with_reducible rfl) | (rw [if_neg (by have l1 : (ByteArray.mk #[32]).size = 1 := rfl; have l3 : (ByteArray.mk #[108, 111, 99, 97, 108, 101, 32]).size = 7 := rfl; have l4 : (ByteArray.mk #[99, 108, 97, 115, 115, 32]).size = 6 := rfl; have l5 : (ByteArray.mk #[101, 108, 101, 109, 101, 110, 116, 32]).size = 8 := rfl; have l2 : (ByteArray.mk #[10]).size = 1 := rfl; first | omega | (simp only [ByteArray.size_append]; omega))] <;> with_reducible rfl)
          (try simp only [Act.put, List.getElem_toArray, List.getElem_cons_succ, List.getElem_cons_zero, List.setIfInBounds_toArray, List.set_cons_zero, List.set_cons_succ])
          refine wpAnyH_take (i := 9) (v := ?gv9) rfl (by kernel_rfl) (by kernel_rfl) (by kernel_rfl) (fun _ _ _ h => h) (Or.inl ⟨by rfl, ?gy9⟩) (by assumption) ?gr9
          case gy9 =>
            intro wx hSw
            clear hSw
            go_simp
            first | done | (with_reducible rfl) | (rw [if_neg (by have l1 : (ByteArray.mk #[32]).size = 1 := rfl; have l3 : (ByteArray.mk #[108, 111, 99, 97, 108, 101, 32]).size = 7 := rfl; have l4 : (ByteArray.mk #[99, 108, 97, 115, 115, 32]).size = 6 := rfl; have l5 : (ByteArray.mk #[101, 108, 101, 109, 101, 110, 116, 32]).size = 8 := rfl; have l2 : (ByteArray.mk #[10]).size = 1 := rfl; first | omega | (simp only [ByteArray.size_append]; omega))] <;> with_reducible rfl)
          (try simp only [Act.put, List.getElem_toArray, List.getElem_cons_succ, List.getElem_cons_zero, List.setIfInBounds_toArray, List.set_cons_zero, List.set_cons_succ])
          refine wpAnyH_take (i := 10) (v := ?gv10) rfl (by kernel_rfl) (by kernel_rfl) (by kernel_rfl) (fun _ _ _ h => h) (Or.inl ⟨by rfl, ?gy10⟩) (by assumption) ?gr10
          case gy10 =>
            intro wx hSw
            have hcl := cell_of_row wx wr.heap.size 0 _ _ _ hSw
            simp only [List.getElem?_toArray, List.getElem?_cons_zero] at hcl
            clear hSw
            go_simp
            first | done | (with_reducible rfl) | (rw [if_neg (by have l1 : (ByteArray.mk #[32]).size = 1 := rfl; have l3 : (ByteArray.mk #[108, 111, 99, 97, 108, 101, 32]).size = 7 := rfl; have l4 : (ByteArray.mk #[99, 108, 97, 115, 115, 32]).size = 6 := rfl; have l5 : (ByteArray.mk #[101, 108, 101, 109, 101, 110, 116, 32]).size = 8 := rfl; have l2 : (ByteArray.mk #[10]).size = 1 := rfl; first | omega | (simp only [ByteArray.size_append]; omega))] <;> with_reducible rfl)
          (try simp only [Act.put, List.getElem_toArray, List.getElem_cons_succ, List.getElem_cons_zero, List.setIfInBounds_toArray, List.set_cons_zero, List.set_cons_succ])
          refine wpAnyH_take (i := 11) (v := ?gv11) rfl (by kernel_rfl) (by kernel_rfl) (by kernel_rfl) (fun _ _ _ h => h) (Or.inl ⟨by rfl, ?gy11⟩) (by assumption) ?gr11
          case gy11 =>
            intro wx hSw
            clear hSw
            go_simp
            first | done | (with_reducible rfl) | (rw [if_neg (by have l1 : (ByteArray.mk #[32]).size = 1 := rfl; have l3 : (ByteArray.mk #[108, 111, 99, 97, 108, 101, 32]).size = 7 := rfl; have l4 : (ByteArray.mk #[99, 108, 97, 115, 115, 32]).size = 6 := rfl; have l5 : (ByteArray.mk #[101, 108, 101, 109, 101, 110, 116, 32]).size = 8 := rfl; have l2 : (ByteArray.mk #[10]).size = 1 := rfl; first | omega | (simp only [ByteArray.size_append]; omega))] <;> with_reducible rfl)
          (try simp only [Act.put, List.getElem_toArray, List.getElem_cons_succ, List.getElem_cons_zero, List.setIfInBounds_toArray, List.set_cons_zero, List.set_cons_succ])
          refine wpAnyH_take (i := 12) (v := ?gv12) rfl (by kernel_rfl) (by kernel_rfl) (by kernel_rfl) (fun _ _ _ h => h) (Or.inl ⟨by rfl, ?gy12⟩) (by assumption) ?gr12
          case gy12 =>
            intro wx hSw
            clear hSw
            go_simp
            first | done | (with_reducible rfl) | (rw [if_neg (by have l1 : (ByteArray.mk #[32]).size = 1 := rfl; have l3 : (ByteArray.mk #[108, 111, 99, 97, 108, 101, 32]).size = 7 := rfl; have l4 : (ByteArray.mk #[99, 108, 97, 115, 115, 32]).size = 6 := rfl; have l5 : (ByteArray.mk #[101, 108, 101, 109, 101, 110, 116, 32]).size = 8 := rfl; have l2 : (ByteArray.mk #[10]).size = 1 := rfl; first | omega | (simp only [ByteArray.size_append]; omega))] <;> with_reducible rfl)
          (try simp only [Act.put, List.getElem_toArray, List.getElem_cons_succ, List.getElem_cons_zero, List.setIfInBounds_toArray, List.set_cons_zero, List.set_cons_succ])
          refine wpAnyH_take (i := 16) (v := ?gv16) rfl (by kernel_rfl) (by kernel_rfl) (by kernel_rfl) (fun _ _ _ h => h) (Or.inl ⟨by rfl, ?gy16⟩) (by assumption) ?gr16
          case gy16 =>
            intro wx hSw
            clear hSw
            go_simp
            first | done | (with_reducible rfl) | (rw [if_neg (by have l1 : (ByteArray.mk #[32]).size = 1 := rfl; have l3 : (ByteArray.mk #[108, 111, 99, 97, 108, 101, 32]).size = 7 := rfl; have l4 : (ByteArray.mk #[99, 108, 97, 115, 115, 32]).size = 6 := rfl; have l5 : (ByteArray.mk #[101, 108, 101, 109, 101, 110, 116, 32]).size = 8 := rfl; have l2 : (ByteArray.mk #[10]).size = 1 := rfl; first | omega | (simp only [ByteArray.size_append]; omega))] <;> with_reducible rfl)
          (try simp only [Act.put, List.getElem_toArray, List.getElem_cons_succ, List.getElem_cons_zero, List.setIfInBounds_toArray, List.set_cons_zero, List.set_cons_succ])
          refine wpAnyH_take (i := 17) (v := ?gv17) rfl (by kernel_rfl) (by kernel_rfl) (by kernel_rfl) (fun _ _ _ h => h) (Or.inl ⟨by rfl, ?gy17⟩) (by assumption) ?gr17
          case gy17 =>
            intro wx hSw
            have hcl := cell_of_row wx wr.heap.size 1 _ _ _ hSw
            simp only [List.getElem?_toArray, List.getElem?_cons_succ, List.getElem?_cons_zero] at hcl
            clear hSw
            go_simp
            first | done | (with_reducible rfl) | (rw [if_neg (by have l1 : (ByteArray.mk #[32]).size = 1 := rfl; have l3 : (ByteArray.mk #[108, 111, 99, 97, 108, 101, 32]).size = 7 := rfl; have l4 : (ByteArray.mk #[99, 108, 97, 115, 115, 32]).size = 6 := rfl; have l5 : (ByteArray.mk #[101, 108, 101, 109, 101, 110, 116, 32]).size = 8 := rfl; have l2 : (ByteArray.mk #[10]).size = 1 := rfl; first | omega | (simp only [ByteArray.size_append]; omega))] <;> with_reducible rfl)
          (try simp only [Act.put, List.getElem_toArray, List.getElem_cons_succ, List.getElem_cons_zero, List.setIfInBounds_toArray, List.set_cons_zero, List.set_cons_succ])
          refine wpAnyH_ready (rs := [6]) (by kernel_rfl) (by simp) ?_
          refine AllReadyH.cons rfl (fun K hK => ?_) AllReadyH.nil
          go_simp
          go_at_call 30
          with_reducible refine (HFa.out _).mono ?_
          rintro e wa ⟨rfl, hb⟩
          have HBa := Lib.hid (show Below wc2.heap.size wc2 wa from (Below.refl _ _).drew.trans hb)
          refine hK.out _ _ ?_ (fun _ => ?_)
          · exact ((HBa.out.block _ (by have := HCs.out; omega)).trans HBox.out)
          clear hK K hb
          (try simp only [Act.put, List.getElem_toArray, List.getElem_cons_succ, List.getElem_cons_zero, List.setIfInBounds_toArray, List.set_cons_zero, List.set_cons_succ])
          refine wpAnyH_take (i := 7) (v := ?hv7) rfl (by kernel_rfl) (by kernel_rfl) (by kernel_rfl) (fun _ _ _ h => h) (Or.inl ⟨by rfl, ?hy7⟩) (by assumption) ?hr7
          case hy7 =>
            intro wx hSw
            clear hSw
            go_simp
            first | done | (with_reducible rfl) | (rw [if_neg (by have l1 : (ByteArray.mk #[32]).size = 1 := rfl; have l3 : (ByteArray.mk #[108, 111, 99, 97, 108, 101, 32]).size = 7 := rfl; have l4 : (ByteArray.mk #[99, 108, 97, 115, 115, 32]).size = 6 := rfl; have l5 : (ByteArray.mk #[101, 108, 101, 109, 101, 110, 116, 32]).size = 8 := rfl; have l2 : (ByteArray.mk #[10]).size = 1 := rfl; first | omega | (simp only [ByteArray.size_append]; omega))] <;> with_reducible rfl)
          (try simp only [Act.put, List.getElem_toArray, List.getElem_cons_succ, List.getElem_cons_zero, List.setIfInBounds_toArray, List.set_cons_zero, List.set_cons_succ])
          refine wpAnyH_take (i := 8) (v := ?hv8) rfl (by kernel_rfl) (by kernel_rfl) (by kernel_rfl) (fun _ _ _ h => h) (Or.inl ⟨by rfl, ?hy8⟩) (by assumption) ?hr8
          case hy8 =>
            intro wx hSw
            clear hSw
            go_simp
            first | done | (with_reducible rfl) | (rw [if_neg (by have l1 : (ByteArray.mk #[32]).size = 1 := rfl; have l3 : (ByteArray.mk #[108, 111, 99, 97, 108, 101, 32]).size = 7 := rfl; have l4 : (ByteArray.mk #[99, 108, 97, 115, 115, 32]).size = 6 := rfl; have l5 : (ByteArray.mk #[101, 108, 101, 109, 101, 110, 116, 32]).size = 8 := rfl; have l2 : (ByteArray.mk #[10]).size = 1 := rfl; first | omega | (simp only [ByteArray.size_append]; omega))] <;> with_reducible rfl)
          (try simp only [Act.put, List.getElem_toArray, List.getElem_cons_succ, List.getElem_cons_zero, List.setIfInBounds_toArray, List.set_cons_zero, List.set_cons_succ])
          refine wpAnyH_ready (rs := [13]) (by kernel_rfl) (by simp) ?_
          refine AllReadyH.cons rfl (fun K hK => ?_) AllReadyH.nil
          go_simp
          go_at_call 30
          with_reducible refine (HFb.out _).mono ?_
          rintro e wb ⟨rfl, hb⟩
          have HBb := Lib.hid (HBa.out.trans (hb.mono HBa.out.size))
          refine hK.out _ _ ?_ (fun _ => ?_)
          · exact ((HBb.out.block _ (by have := HCs.out; omega)).trans HBox.out)
          clear hK K hb
          (try simp only [Act.put, List.getElem_toArray, List.getElem_cons_succ, List.getElem_cons_zero, List.setIfInBounds_toArray, List.set_cons_zero, List.set_cons_succ])
          refine wpAnyH_take (i := 14) (v := ?iv14) rfl (by kernel_rfl) (by kernel_rfl) (by kernel_rfl) (fun _ _ _ h => h) (Or.inl ⟨by rfl, ?iy14⟩) (by assumption) ?ir14
          case iy14 =>
            intro wx hSw
            clear hSw
            go_simp
            first | done | (with_reducible rfl) | (rw [if_neg (by have l1 : (ByteArray.mk #[32]).size = 1 := rfl; have l3 : (ByteArray.mk #[108, 111, 99, 97, 108, 101, 32]).size = 7 := rfl; have l4 : (ByteArray.mk #[99, 108, 97, 115, 115, 32]).size = 6 := rfl; have l5 : (ByteArray.mk #[101, 108, 101, 109, 101, 110, 116, 32]).size = 8 := rfl; have l2 : (ByteArray.mk #[10]).size = 1 := rfl; first | omega | (simp only [ByteArray.size_append]; omega))] <;> with_reducible rfl)
          (try simp only [Act.put, List.getElem_toArray, List.getElem_cons_succ, List.getElem_cons_zero, List.setIfInBounds_toArray, List.set_cons_zero, List.set_cons_succ])
          refine wpAnyH_take (i := 15) (v := ?iv15) rfl (by kernel_rfl) (by kernel_rfl) (by kernel_rfl) (fun _ _ _ h => h) (Or.inl ⟨by rfl, ?iy15⟩) (by assumption) ?ir15
          case iy15 =>
            intro wx hSw
            clear hSw
            go_simp
            first | done | (with_reducible rfl) | (rw [if_neg (by have l1 : (ByteArray.mk #[32]).size = 1 := rfl; have l3 : (ByteArray.mk #[108, 111, 99, 97, 108, 101, 32]).size = 7 := rfl; have l4 : (ByteArray.mk #[99, 108, 97, 115, 115, 32]).size = 6 := rfl; have l5 : (ByteArray.mk #[101, 108, 101, 109, 101, 110, 116, 32]).size = 8 := rfl; have l2 : (ByteArray.mk #[10]).size = 1 := rfl; first | omega | (simp only [ByteArray.size_append]; omega))] <;> with_reducible rfl)
          (try simp only [Act.put, List.getElem_toArray, List.getElem_cons_succ, List.getElem_cons_zero, List.setIfInBounds_toArray, List.set_cons_zero, List.set_cons_succ])
          refine wpAnyH_ready (rs := [18]) (by kernel_rfl) (by simp) ?_
          refine AllReadyH.cons rfl (fun K hK => ?_) AllReadyH.nil
          go_simp
          go_at_call 30
          with_reducible refine (HFv.out _).mono ?_
          rintro e we ⟨rfl, hb⟩
          have HBd := Lib.hid (HBb.out.trans (hb.mono HBb.out.size))
          refine hK.out _ _ ?_ (fun _ => ?_)
          · exact ((HBd.out.block _ (by have := HCs.out; omega)).trans HBox.out)
          clear hK K hb
          (try simp only [Act.put, List.getElem_toArray, List.getElem_cons_succ, List.getElem_cons_zero, List.setIfInBounds_toArray, List.set_cons_zero, List.set_cons_succ])
          refine wpAnyH_take (i := 19) (v := ?jv19) rfl (by kernel_rfl) (by kernel_rfl) (by kernel_rfl) (fun _ _ _ h => h) (Or.inl ⟨by rfl, ?jy19⟩) (by assumption) ?jr19
          case jy19 =>
            intro wx hSw
            clear hSw
            go_simp
            first | done | (with_reducible rfl) | (rw [if_neg (by have l1 : (ByteArray.mk #[32]).size = 1 := rfl; have l3 : (ByteArray.mk #[108, 111, 99, 97, 108, 101, 32]).size = 7 := rfl; have l4 : (ByteArray.mk #[99, 108, 97, 115, 115, 32]).size = 6 := rfl; have l5 : (ByteArray.mk #[101, 108, 101, 109, 101, 110, 116, 32]).size = 8 := rfl; have l2 : (ByteArray.mk #[10]).size = 1 := rfl; first | omega | (simp only [ByteArray.size_append]; omega))] <;> with_reducible rfl)
          (try simp only [Act.put, List.getElem_toArray, List.getElem_cons_succ, List.getElem_cons_zero, List.setIfInBounds_toArray, List.set_cons_zero, List.set_cons_succ])
          refine wpAnyH_take (i := 20) (v := ?jv20) rfl (by kernel_rfl) (by kernel_rfl) (by kernel_rfl) (fun _ _ _ h => h) (Or.inl ⟨by rfl, ?jy20⟩) (by assumption) ?jr20
          case jy20 =>
            intro wx hSw
            clear hSw
            go_simp
            first | done | (with_reducible rfl) | (rw [if_neg (by have l1 : (ByteArray.mk #[32]).size = 1 := rfl; have l3 : (ByteArray.mk #[108, 111, 99, 97, 108, 101, 32]).size = 7 := rfl; have l4 : (ByteArray.mk #[99, 108, 97, 115, 115, 32]).size = 6 := rfl; have l5 : (ByteArray.mk #[101, 108, 101, 109, 101, 110, 116, 32]).size = 8 := rfl; have l2 : (ByteArray.mk #[10]).size = 1 := rfl; first | omega | (simp only [ByteArray.size_append]; omega))] <;> with_reducible rfl)
          (try simp only [Act.put, List.getElem_toArray, List.getElem_cons_succ, List.getElem_cons_zero, List.setIfInBounds_toArray, List.set_cons_zero, List.set_cons_succ])
          refine wpAnyH_take (i := 21) (v := ?jv21) rfl (by kernel_rfl) (by kernel_rfl) (by kernel_rfl) (fun _ _ _ h => h) (Or.inl ⟨by rfl, ?jy21⟩) (by assumption) ?jr21
          case jy21 =>
            intro wx hSw
            clear hSw
            go_simp
            first | done | (with_reducible rfl) | (rw [if_neg (by have l1 : (ByteArray.mk #[32]).size = 1 := rfl; have l3 : (ByteArray.mk #[108, 111, 99, 97, 108, 101, 32]).size = 7 := rfl; have l4 : (ByteArray.mk #[99, 108, 97, 115, 115, 32]).size = 6 := rfl; have l5 : (ByteArray.mk #[101, 108, 101, 109, 101, 110, 116, 32]).size = 8 := rfl; have l2 : (ByteArray.mk #[10]).size = 1 := rfl; first | omega | (simp only [ByteArray.size_append]; omega))] <;> with_reducible rfl)
          (try simp only [Act.put, List.getElem_toArray, List.getElem_cons_succ, List.getElem_cons_zero, List.setIfInBounds_toArray, List.set_cons_zero, List.set_cons_succ])
          refine wpAnyH_done (by kernel_rfl) ?_ _
          go_wp2
          go_roundw
          case rel =>
            refine ⟨j + 1, _, by omega, rfl, by go_num, ?_, HR.out.2.trans ((HBcc.out.trans (HBd.out.mono HBcc.out.size)).mono HR.out.2.size)⟩
            rw [HLn.out, mk_app, ← HR.out.1]
            apply ByteArray.ext
            apply Array.ext'
            rw [← HFA.out, ← HFB.out, ← HFV.out]
            simp [mk, kElm, fmB, HVn.out, ByteArray.data_append]
          case measure => simp [intOf]; omega
        · obtain rfl : j = ne := by omega
          have hall : O = mk (cat (fmtLines (ofLoc L))) := by
            have h := HR.out.1
            rw [List.take_of_length_le (by rw [HEl.out]; exact Nat.le_refl _)] at h
            exact h
          have HD : Hid (O = mk (cat (fmtLines (ofLoc L))) ∧ Below w.heap.size w wr) := ⟨hall, hwr⟩
          clear hall hwr HR
          go_wp2
          go_ret
          obtain rfl : O = _ := HD.out.1
          exact ⟨rfl, HD.out.2⟩
end Go.Proofs.YtblaldcioneooaaGreatDoor
/- The law on Format. (Written by gen_lrf5.py.) -/
set_option linter.unusedVariables false
set_option maxRecDepth 100000
namespace Go.Proofs.YtblaldcioneooaaGreatDoor
open Go.RowKit

set_option maxHeartbeats 8000000 in
theorem fm_law (L : Loc) (W C E : Value) (w : World) (hT : tabAt w) (hM : LocM w L W C E) (S : ByteArray) (hF : ∀ w, LocM w L W C E → tabAt w → Calls Tryz.prog 9 #[.agg (lcl L W C E)] w fun e w' => e = .returned (.string S) ∧ Below w.heap.size w w')
    (hR : ∀ w, LocM w L W C E → Calls Tryz.prog 10 #[.agg (lcl L W C E)] w fun e w' => e = .returned (.string S) ∧ Below w.heap.size w w') :
    Calls Tryz.prog 4 #[.agg (lcl L W C E)] w fun e w' => e = .returned (.bool true) ∧ Below w.heap.size w w' := by
  have hb0 : Below w.heap.size w (w.alloc (.cells (lcl L W C E) 26)) := (Below.refl _ _).alloc (Nat.le_refl _) _
  have ha0 : LAt (w.alloc (.cells (lcl L W C E) 26)) w.heap.size (lcl L W C E) := heap_alloc_new w _
  have HM0 := Lib.hid hM
  have HT := Lib.hid hT
  have HF := Lib.hid hF
  have HR := Lib.hid hR
  have HAw := Lib.hid ltAwake_any
  have hse : (S.toList == S.toList) = true := by simp
  unfold lcl at *
  clear hM hT hF hR
  go_enter Tryz.func4, Tryz.ntmps4
  go_wp2
  have H0 : Hid (Below w.heap.size w (w.alloc (.cells #[.string L.name, W, .string L.lower, .string L.upper, C, E] 26)).drew) := hb0.drew
  have H0A : Hid (LAt (w.alloc (.cells #[.string L.name, W, .string L.lower, .string L.upper, C, E] 26)).drew w.heap.size #[.string L.name, W, .string L.lower, .string L.upper, C, E]) := ha0
  clear hb0 ha0
  refine wp_region_held_drew (S := fun w' => LAt w' w.heap.size #[.string L.name, W, .string L.lower, .string L.upper, C, E] ∧ Below w.heap.size w w') (by kernel_rfl) ?_ (fun hHeld => ?_)
  · exact ⟨H0A.out, H0.out⟩
  refine wpAnyH_take (i := 0) (v := ?av0) rfl (by kernel_rfl) (by kernel_rfl) (by kernel_rfl) (fun _ _ _ h => h) (Or.inl ⟨by rfl, ?ay0⟩) (by assumption) ?ar0
  case ay0 =>
    intro wx hSw
    have hq := hSw.1.six
    obtain ⟨⟨x0, x1, x2⟩, ⟨x3, x4, x5⟩, xf⟩ := hq
    clear hSw
    go_simp
    first | done | (with_reducible rfl)
  (try simp only [Act.put, List.getElem_toArray, List.getElem_cons_zero, List.setIfInBounds_toArray, List.set_cons_zero, List.set_cons_succ])
  refine wpAnyH_take (i := 2) (v := ?av2) rfl (by kernel_rfl) (by kernel_rfl) (by kernel_rfl) (fun _ _ _ h => h) (Or.inl ⟨by rfl, ?ay2⟩) (by assumption) ?ar2
  case ay2 =>
    intro wx hSw
    have hq := hSw.1.six
    obtain ⟨⟨x0, x1, x2⟩, ⟨x3, x4, x5⟩, xf⟩ := hq
    clear hSw
    go_simp
    first | done | (with_reducible rfl)
  (try simp only [Act.put, List.getElem_toArray, List.getElem_cons_succ, List.getElem_cons_zero, List.setIfInBounds_toArray, List.set_cons_zero, List.set_cons_succ])
  refine wpAnyH_ready (rs := [1]) (by kernel_rfl) (by simp) ?_
  refine AllReadyH.cons rfl (fun K hK => ?_) AllReadyH.nil
  go_simp
  go_at_call 9
  refine (HF.out _ (HM0.out.below H0.out) (tab_keep HT.out H0.out)).mono ?_
  rintro e w1 ⟨rfl, hb⟩
  have H1 := Lib.hid (H0.out.trans (hb.mono H0.out.size))
  have H1A := Lib.hid (H0A.out.under hb H0A.out.lt)
  refine hK.out _ _ ?_ (fun _ => ?_)
  · exact ⟨H1A.out, H1.out⟩
  clear hK K hb
  (try simp only [Act.put, List.getElem_toArray, List.getElem_cons_succ, List.getElem_cons_zero, List.setIfInBounds_toArray, List.set_cons_zero, List.set_cons_succ])
  refine wpAnyH_ready (rs := [3]) (by kernel_rfl) (by simp) ?_
  refine AllReadyH.cons rfl (fun K hK => ?_) AllReadyH.nil
  go_simp
  go_at_call 10
  refine (HR.out _ (HM0.out.below H1.out)).mono ?_
  rintro e w2 ⟨rfl, hb⟩
  have H2 := Lib.hid (H1.out.trans (hb.mono H1.out.size))
  have H2A := Lib.hid (H1A.out.under hb H1A.out.lt)
  refine hK.out _ _ ?_ (fun _ => ?_)
  · exact ⟨H2A.out, H2.out⟩
  clear hK K hb
  (try simp only [Act.put, List.getElem_toArray, List.getElem_cons_succ, List.getElem_cons_zero, List.setIfInBounds_toArray, List.set_cons_zero, List.set_cons_succ])
  refine wpAnyH_take (i := 4) (v := ?bv4) rfl (by kernel_rfl) (by kernel_rfl) (by kernel_rfl) (fun _ _ _ h => h) (Or.inl ⟨by rfl, ?by4⟩) (by assumption) ?br4
  case by4 =>
    intro wx hSw
    have hq := hSw.1.six
    obtain ⟨⟨x0, x1, x2⟩, ⟨x3, x4, x5⟩, xf⟩ := hq
    clear hSw
    go_simp
    first | done | (rw [hse] <;> with_reducible rfl) | (with_reducible rfl)
  (try simp only [Act.put, List.getElem_toArray, List.getElem_cons_succ, List.getElem_cons_zero, List.setIfInBounds_toArray, List.set_cons_zero, List.set_cons_succ])
  refine wpAnyH_take (i := 5) (v := ?cv5) rfl (by kernel_rfl) (by kernel_rfl) (by kernel_rfl) (fun _ _ _ h => h) (Or.inl ⟨by rfl, ?cy5⟩) (by assumption) ?cr5
  case cy5 =>
    intro wx hSw
    have hq := hSw.1.six
    obtain ⟨⟨x0, x1, x2⟩, ⟨x3, x4, x5⟩, xf⟩ := hq
    clear hSw
    go_simp
    first | done | (with_reducible rfl)
  (try simp only [Act.put, List.getElem_toArray, List.getElem_cons_succ, List.getElem_cons_zero, List.setIfInBounds_toArray, List.set_cons_zero, List.set_cons_succ])
  refine wpAnyH_ready (rs := [6]) (by kernel_rfl) (by simp) ?_
  refine AllReadyH.cons rfl (fun K hK => ?_) AllReadyH.nil
  go_simp
  go_at_call 8
  refine (HAw.out _ (tab_keep HT.out H2.out)).mono ?_
  rintro e w3 ⟨rfl, hb⟩
  have H3 := Lib.hid (H2.out.trans (hb.mono H2.out.size))
  have H3A := Lib.hid (H2A.out.under hb H2A.out.lt)
  refine hK.out _ _ ?_ (fun _ => ?_)
  · exact ⟨H3A.out, H3.out⟩
  clear hK K hb
  (try simp only [Act.put, List.getElem_toArray, List.getElem_cons_succ, List.getElem_cons_zero, List.setIfInBounds_toArray, List.set_cons_zero, List.set_cons_succ])
  refine wpAnyH_take (i := 7) (v := ?dv7) rfl (by kernel_rfl) (by kernel_rfl) (by kernel_rfl) (fun _ _ _ h => h) (Or.inl ⟨by rfl, ?dy7⟩) (by assumption) ?dr7
  case dy7 =>
    intro wx hSw
    have hq := hSw.1.six
    obtain ⟨⟨x0, x1, x2⟩, ⟨x3, x4, x5⟩, xf⟩ := hq
    clear hSw
    go_simp
    first | done | (with_reducible rfl)
  (try simp only [Act.put, List.getElem_toArray, List.getElem_cons_succ, List.getElem_cons_zero, List.setIfInBounds_toArray, List.set_cons_zero, List.set_cons_succ])
  refine wpAnyH_take (i := 8) (v := ?dv8) rfl (by kernel_rfl) (by kernel_rfl) (by kernel_rfl) (fun _ _ _ h => h) (Or.inl ⟨by rfl, ?dy8⟩) (by assumption) ?dr8
  case dy8 =>
    intro wx hSw
    have hq := hSw.1.six
    obtain ⟨⟨x0, x1, x2⟩, ⟨x3, x4, x5⟩, xf⟩ := hq
    clear hSw
    go_simp
    first | done | (with_reducible rfl)
  (try simp only [Act.put, List.getElem_toArray, List.getElem_cons_succ, List.getElem_cons_zero, List.setIfInBounds_toArray, List.set_cons_zero, List.set_cons_succ])
  refine wpAnyH_done (by kernel_rfl) ?_ _
  go_wp2
  go_ret
  exact ⟨rfl, H3.out⟩
theorem formats_law (L : Loc) (W C E : Value) (w : World) (hT : tabAt w) (hM : LocM w L W C E) :
    Calls Tryz.prog 4 #[.agg (lcl L W C E)] w fun e w' => e = .returned (.bool true) ∧ Below w.heap.size w w' := by
  by_cases hc : chk L = 0
  · have hv := (VL.iff L).1 hc
    refine fm_law L W C E w hT hM (mk (fmtL (ofLoc L))) (fun w h1 h2 => format_ok L hv W C E w h1 h2) (fun w h1 => ?_)
    rw [fmt_cat]
    exact rformat_ok L hv W C E w h1
  · exact fm_law L W C E w hT hM ⟨#[]⟩ (fun w h1 _ => format_no L hc W C E w h1) (fun w h1 => rformat_no L hc W C E w h1)
end Go.Proofs.YtblaldcioneooaaGreatDoor
