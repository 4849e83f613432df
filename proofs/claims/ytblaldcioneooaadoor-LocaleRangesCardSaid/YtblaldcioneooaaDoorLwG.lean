/- The law LocaleRanges: what it goes by, and the case of no range. (Written by gen_lwg.py.) -/
import Derived.Test.YtblaldcioneooaaDoorRows
import Derived.Test.YtblaldcioneooaaDoorLwB
import Derived.Test.YtblaldcioneooaaDoorLcEq
set_option linter.unusedVariables false
namespace Go.Proofs.YtblaldcioneooaaDoor
open Go.RowKit

theorem eqv_yes (V : Loc) (a b : Nat) : eqv V a b = true ↔ V.wt a ≤ V.wt b ∧ V.wt b ≤ V.wt a := by
  unfold eqv hvy
  simp only [Bool.and_eq_true, decide_eq_true_eq]
theorem btw_yes (V : Loc) (a b c : Nat) : btw V a b c = true ↔ V.wt a ≤ V.wt c ∧ V.wt c ≤ V.wt b := by
  unfold btw hvy
  simp only [Bool.and_eq_true, decide_eq_true_eq]
theorem eqv_eq (V : Loc) (a b : Nat) (hb : b < 256) : eqc (eqv V b) (eqv V a) = eqv V a b := by
  rw [Bool.eq_iff_iff, eqc_iff]
  constructor
  · intro h
    rw [← h b hb, eqv_yes]
    omega
  · intro h c hc
    rw [eqv_yes] at h
    rw [Bool.eq_iff_iff, eqv_yes, eqv_yes]
    omega
theorem rng_in (V : Loc) (lo hi c : Nat) (hc : c < 256) : eqc (fun d => eqv V c d && btw V lo hi d) (eqv V c) = btw V lo hi c := by
  rw [Bool.eq_iff_iff, eqc_iff, btw_yes]
  constructor
  · intro h
    have h1 := h c hc
    rw [Bool.eq_iff_iff, Bool.and_eq_true, eqv_yes, btw_yes] at h1
    omega
  · intro h d hd
    rw [Bool.eq_iff_iff, Bool.and_eq_true, eqv_yes, btw_yes]
    omega
theorem rng_out (V : Loc) (lo hi c : Nat) (h : btw V lo hi c = false) : eqc (fun d => eqv V c d && btw V lo hi d) (fun _ => false) = true := by
  rw [eqc_iff]
  intro d hd
  have h1 : ¬ (btw V lo hi c = true) := by rw [h]; decide
  rw [btw_yes] at h1
  rw [Bool.eq_iff_iff, Bool.and_eq_true, eqv_yes, btw_yes]
  constructor
  · intro h2
    omega
  · intro h2
    cases h2
theorem rng_union (V : Loc) (lo hi c : Nat) (h : btw V lo hi c = true) : eqc (fun d => btw V lo c d || btw V c hi d) (btw V lo hi) = true := by
  rw [eqc_iff]
  intro d hd
  rw [btw_yes] at h
  rw [Bool.eq_iff_iff, Bool.or_eq_true, btw_yes, btw_yes, btw_yes]
  omega
theorem rng_inter (V : Loc) (lo hi c : Nat) (h : btw V lo hi c = true) : eqc (fun d => btw V lo c d && btw V c hi d) (eqv V c) = true := by
  rw [eqc_iff]
  intro d hd
  rw [btw_yes] at h
  rw [Bool.eq_iff_iff, Bool.and_eq_true, btw_yes, btw_yes, eqv_yes]
  omega
theorem eql_is (p q : Nat → Bool) (b : Bool) (h : eqc p q = b) (w : World) : (binOp .eql 38 (cs p) (cs q)).run Tryd.prog w = .ok (.bool b) w := by rw [eql_cs, h]
theorem neq_is (p q : Nat → Bool) (b : Bool) (h : eqc p q = !b) (w : World) : (binOp .neq 38 (cs p) (cs q)).run Tryd.prog w = .ok (.bool b) w := by rw [neq_cs, h, Bool.not_not]
theorem neq_zero (p : Nat → Bool) (h : eqc p (fun _ => false) = true) (w : World) : (binOp .neq 38 (cs p) (.agg #[.int .u64 0, .int .u64 0, .int .u64 0, .int .u64 0])).run Tryd.prog w = .ok (.bool false) w := by
  rw [cl_zero]
  exact neq_is p (fun _ => false) false h w

/-- The locale in its block, and the set of the first byte. -/
def GS (w0 : World) (L : Loc) (W C E : Value) (g : Nat) (P : Nat → Bool) (w : World) : Prop := RS w0 L W C E w ∧ At w g P
theorem GS.drew {w0 w : World} {L : Loc} {W C E : Value} {g : Nat} {P : Nat → Bool} (h : GS w0 L W C E g P w) : GS w0 L W C E g P w.drew := ⟨h.1.drew, h.2⟩
theorem GS.keep {w0 w w' : World} {L : Loc} {W C E : Value} {g : Nat} {P : Nat → Bool} (hb : Below w.heap.size w w') (h : GS w0 L W C E g P w) : GS w0 L W C E g P w' := ⟨RS.keep hb h.1, h.2.below hb h.2.lt⟩

set_option maxRecDepth 100000 in
set_option maxHeartbeats 16000000 in
theorem ranges_no (L : Loc) (W C E : Value) (lo hi : Nat) (hlo : lo < 256) (hhi : hi < 256) (hc : (vld L).wt hi < (vld L).wt lo) (w : World) (hT : ltabAt w) (hM : LocM w L W C E) :
    Calls Tryd.prog 4 #[.agg (lcl L W C E), .int .u8 (lo : Int), .int .u8 (hi : Int)] w fun e w' => e = .returned (.bool true) ∧ Below w.heap.size w w' := by
  have HB : Hid (Below w.heap.size w (w.alloc (.cells (lcl L W C E) 26))) := (Below.refl _ _).alloc (Nat.le_refl _) _
  have HR : Hid (RS w L W C E (w.alloc (.cells (lcl L W C E) 26))) := ⟨heap_alloc_new w _, hM.below HB.out, HB.out⟩
  have HT := Lib.hid hT
  have HTk := Lib.hid (fun (wx : World) (hb : Below w.heap.size w wx) => ltab_keep HT.out hb)
  have HAw := Lib.hid awake_any
  have hE : eqv (vld L) lo lo = true := by rw [eqv_yes]; omega
  have hF : eqv (vld L) lo hi = false := by rw [Bool.eq_false_iff, Ne, eqv_yes]; omega
  have hA1 : btw (vld L) hi lo lo = true := by rw [btw_yes]; omega
  have hA2 : btw (vld L) hi lo hi = true := by rw [btw_yes]; omega
  have H1 := Lib.hid (pEquiv_any L W C E lo hlo)
  have H4 := Lib.hid (pEquiv_any L W C E hi hhi)
  have H2 := Lib.hid (rhas_any (eqv (vld L) lo) lo hlo)
  have H3 := Lib.hid (rhas_any (eqv (vld L) lo) hi hhi)
  have HQ1 := Lib.hid (eql_is (eqv (vld L) hi) (eqv (vld L) lo) false (by rw [eqv_eq _ _ _ hhi, hF]))
  have H5 := Lib.hid (pBetween_any L W C E lo hi hlo hhi)
  have H6 := Lib.hid (pBetween_any L W C E hi lo hhi hlo)
  have H7 := Lib.hid (rhas_any (btw (vld L) hi lo) lo hlo)
  have H8 := Lib.hid (rhas_any (btw (vld L) hi lo) hi hhi)
  rw [if_neg (by omega)] at H5
  rw [if_pos (by omega)] at H6
  have HQ2 := Lib.hid (neq_zero (fun _ => false) (eqc_self _))
  rw [hE] at H2
  rw [hF] at H3
  rw [hA1] at H7
  rw [hA2] at H8
  generalize eqv (vld L) lo = P at H1 H2 H3 HQ1
  generalize eqv (vld L) hi = P2 at H4 HQ1
  generalize btw (vld L) hi lo = B at H6 H7 H8
  generalize (fun _ : Nat => false) = Z at H5 HQ2
  clear hE hF hA1 hA2
  unfold lcl at H1 H4 H5 H6
  unfold cs cl at H1 H2 H3 H4 H5 H6 H7 H8 HQ1 HQ2
  obtain ⟨⟨aw, capw, rfl, _⟩, ⟨ac, capc, rfl, _⟩, ⟨ae, cape, rfl, _⟩⟩ := hM
  have hl := HR.out.1
  unfold lcl at hl
  obtain ⟨⟨x0, x1, x2⟩, ⟨x3, x4, x5⟩, hf⟩ := hl.six
  clear hl hf hT HT HB
  unfold lcl at HR
  go_enter Tryd.func4, Tryd.ntmps4
  unfold lcl
  go_wp2_with (first
    | (go_at_call 14
       refine (H1.out _ HR.out.2.1).mono ?_
       rintro e w1 ⟨rfl, hb⟩
       have hb2 := hb.alloc hb.size (.cells #[.int .u64 ((wd P 0 64 : Nat) : Int), .int .u64 ((wd P 64 64 : Nat) : Int), .int .u64 ((wd P 128 64 : Nat) : Int), .int .u64 ((wd P 192 64 : Nat) : Int)] 38)
       have hR := HR.out.keep hb2
       clear x0 x1 x2 x3 x4 x5 HR
       have HG : Hid (GS w L (.slice aw L.nw capw) (.slice ac L.nc capc) (.slice ae L.ne cape) w1.heap.size P (w1.alloc (.cells #[.int .u64 ((wd P 0 64 : Nat) : Int), .int .u64 ((wd P 64 64 : Nat) : Int), .int .u64 ((wd P 128 64 : Nat) : Int), .int .u64 ((wd P 192 64 : Nat) : Int)] 38))) := ⟨hR, At.new w1 P⟩
       clear hb hb2 hR))
  refine wp_region_held_drew (S := fun w' => GS w L (.slice aw L.nw capw) (.slice ac L.nc capc) (.slice ae L.ne cape) w1.heap.size P w') (by kernel_rfl) ?_ (fun hHeld => ?_)
  · exact HG.out.drew
  refine wpAnyH_take (i := 0) (v := ?av0) rfl (by kernel_rfl) (by kernel_rfl) (by kernel_rfl) (fun _ _ _ h => h) (Or.inl ⟨by rfl, ?ay0⟩) (by assumption) ?ar0
  case ay0 =>
    intro wx hSw
    have hw := hSw.2.words
    obtain ⟨⟨z0, z1⟩, ⟨z2, z3⟩, z4⟩ := hw
    clear hSw
    go_simp
    first | done | (with_reducible rfl)
  (try simp only [Act.put, List.getElem_toArray, List.getElem_cons_zero, List.setIfInBounds_toArray, List.set_cons_zero, List.set_cons_succ])
  refine wpAnyH_take (i := 1) (v := ?av1) rfl (by kernel_rfl) (by kernel_rfl) (by kernel_rfl) (fun _ _ _ h => h) (Or.inl ⟨by rfl, ?ay1⟩) (by assumption) ?ar1
  case ay1 =>
    intro wx hSw
    clear hSw
    go_simp
    first | done | (with_reducible rfl)
  (try simp only [Act.put, List.getElem_toArray, List.getElem_cons_succ, List.getElem_cons_zero, List.setIfInBounds_toArray, List.set_cons_zero, List.set_cons_succ])
  refine wpAnyH_ready (rs := [2]) (by kernel_rfl) (by simp) ?_
  refine AllReadyH.cons rfl (fun K hK => ?_) AllReadyH.nil
  go_simp
  go_at_call 15
  refine (H2.out _).mono ?_
  rintro e w2 ⟨rfl, hb⟩
  refine hK.out _ _ ?_ (fun hH1 => ?_)
  · exact GS.keep hb hHeld
  clear hK K hb
  (try simp only [Act.put, List.getElem_toArray, List.getElem_cons_succ, List.getElem_cons_zero, List.setIfInBounds_toArray, List.set_cons_zero, List.set_cons_succ])
  refine wpAnyH_take (i := 3) (v := ?bv3) rfl (by kernel_rfl) (by kernel_rfl) (by kernel_rfl) (fun _ _ _ h => h) (Or.inl ⟨by rfl, ?by3⟩) (by assumption) ?br3
  case by3 =>
    intro wx hSw
    clear hSw
    go_simp
    first | done | (with_reducible rfl)
  (try simp only [Act.put, List.getElem_toArray, List.getElem_cons_succ, List.getElem_cons_zero, List.setIfInBounds_toArray, List.set_cons_zero, List.set_cons_succ])
  refine wpAnyH_take (i := 4) (v := ?bv4) rfl (by kernel_rfl) (by kernel_rfl) (by kernel_rfl) (fun _ _ _ h => h) (Or.inl ⟨by rfl, ?by4⟩) (by assumption) ?br4
  case by4 =>
    intro wx hSw
    clear hSw
    go_simp
    first | done | (with_reducible rfl)
  (try simp only [Act.put, List.getElem_toArray, List.getElem_cons_succ, List.getElem_cons_zero, List.setIfInBounds_toArray, List.set_cons_zero, List.set_cons_succ])
  refine wpAnyH_take (i := 5) (v := ?bv5) rfl (by kernel_rfl) (by kernel_rfl) (by kernel_rfl) (fun _ _ _ h => h) (Or.inl ⟨by rfl, ?by5⟩) (by assumption) ?br5
  case by5 =>
    intro wx hSw
    have hw := hSw.2.words
    obtain ⟨⟨z0, z1⟩, ⟨z2, z3⟩, z4⟩ := hw
    clear hSw
    go_simp
    first | done | (with_reducible rfl)
  (try simp only [Act.put, List.getElem_toArray, List.getElem_cons_succ, List.getElem_cons_zero, List.setIfInBounds_toArray, List.set_cons_zero, List.set_cons_succ])
  refine wpAnyH_take (i := 6) (v := ?bv6) rfl (by kernel_rfl) (by kernel_rfl) (by kernel_rfl) (fun _ _ _ h => h) (Or.inl ⟨by rfl, ?by6⟩) (by assumption) ?br6
  case by6 =>
    intro wx hSw
    clear hSw
    go_simp
    first | done | (with_reducible rfl)
  (try simp only [Act.put, List.getElem_toArray, List.getElem_cons_succ, List.getElem_cons_zero, List.setIfInBounds_toArray, List.set_cons_zero, List.set_cons_succ])
  refine wpAnyH_take (i := 8) (v := ?bv8) rfl (by kernel_rfl) (by kernel_rfl) (by kernel_rfl) (fun _ _ _ h => h) (Or.inl ⟨by rfl, ?by8⟩) (by assumption) ?br8
  case by8 =>
    intro wx hSw
    have hl := hSw.1.1
    unfold lcl at hl
    obtain ⟨⟨x0, x1, x2⟩, ⟨x3, x4, x5⟩, hf⟩ := hl.six
    clear hl hf
    clear hSw
    go_simp
    first | done | (with_reducible rfl)
  (try simp only [Act.put, List.getElem_toArray, List.getElem_cons_succ, List.getElem_cons_zero, List.setIfInBounds_toArray, List.set_cons_zero, List.set_cons_succ])
  refine wpAnyH_take (i := 9) (v := ?bv9) rfl (by kernel_rfl) (by kernel_rfl) (by kernel_rfl) (fun _ _ _ h => h) (Or.inl ⟨by rfl, ?by9⟩) (by assumption) ?br9
  case by9 =>
    intro wx hSw
    clear hSw
    go_simp
    first | done | (with_reducible rfl)
  (try simp only [Act.put, List.getElem_toArray, List.getElem_cons_succ, List.getElem_cons_zero, List.setIfInBounds_toArray, List.set_cons_zero, List.set_cons_succ])
  refine wpAnyH_take (i := 11) (v := ?bv11) rfl (by kernel_rfl) (by kernel_rfl) (by kernel_rfl) (fun _ _ _ h => h) (Or.inl ⟨by rfl, ?by11⟩) (by assumption) ?br11
  case by11 =>
    intro wx hSw
    have hw := hSw.2.words
    obtain ⟨⟨z0, z1⟩, ⟨z2, z3⟩, z4⟩ := hw
    clear hSw
    go_simp
    first | done | (with_reducible rfl)
  (try simp only [Act.put, List.getElem_toArray, List.getElem_cons_succ, List.getElem_cons_zero, List.setIfInBounds_toArray, List.set_cons_zero, List.set_cons_succ])
  refine wpAnyH_ready (rs := [7]) (by kernel_rfl) (by simp) ?_
  refine AllReadyH.cons rfl (fun K hK => ?_) AllReadyH.nil
  go_simp
  go_at_call 15
  refine (H3.out _).mono ?_
  rintro e w3 ⟨rfl, hb⟩
  refine hK.out _ _ ?_ (fun hH2 => ?_)
  · exact GS.keep hb hH1
  clear hK K hb
  (try simp only [Act.put, List.getElem_toArray, List.getElem_cons_succ, List.getElem_cons_zero, List.setIfInBounds_toArray, List.set_cons_zero, List.set_cons_succ])
  refine wpAnyH_ready (rs := [10]) (by kernel_rfl) (by simp) ?_
  refine AllReadyH.cons rfl (fun K hK => ?_) AllReadyH.nil
  go_simp
  go_at_call 14
  refine (H4.out _ hH2.1.2.1).mono ?_
  rintro e w4 ⟨rfl, hb⟩
  refine hK.out _ _ ?_ (fun hH3 => ?_)
  · exact GS.keep hb hH2
  clear hK K hb
  (try simp only [Act.put, List.getElem_toArray, List.getElem_cons_succ, List.getElem_cons_zero, List.setIfInBounds_toArray, List.set_cons_zero, List.set_cons_succ])
  refine wpAnyH_take (i := 12) (v := ?cv12) rfl (by kernel_rfl) (by kernel_rfl) (by kernel_rfl) (fun _ _ _ h => h) (Or.inl ⟨by rfl, ?cy12⟩) (by assumption) ?cr12
  case cy12 =>
    intro wx hSw
    have hn := HQ1.out
    clear hSw
    go_simp
    first | done | (with_reducible rfl)
  (try simp only [Act.put, List.getElem_toArray, List.getElem_cons_succ, List.getElem_cons_zero, List.setIfInBounds_toArray, List.set_cons_zero, List.set_cons_succ])
  refine wpAnyH_take (i := 13) (v := ?cv13) rfl (by kernel_rfl) (by kernel_rfl) (by kernel_rfl) (fun _ _ _ h => h) (Or.inl ⟨by rfl, ?cy13⟩) (by assumption) ?cr13
  case cy13 =>
    intro wx hSw
    clear hSw
    go_simp
    first | done | (with_reducible rfl)
  (try simp only [Act.put, List.getElem_toArray, List.getElem_cons_succ, List.getElem_cons_zero, List.setIfInBounds_toArray, List.set_cons_zero, List.set_cons_succ])
  refine wpAnyH_take (i := 14) (v := ?cv14) rfl (by kernel_rfl) (by kernel_rfl) (by kernel_rfl) (fun _ _ _ h => h) (Or.inl ⟨by rfl, ?cy14⟩) (by assumption) ?cr14
  case cy14 =>
    intro wx hSw
    clear hSw
    go_simp
    first | done | (with_reducible rfl)
  (try simp only [Act.put, List.getElem_toArray, List.getElem_cons_succ, List.getElem_cons_zero, List.setIfInBounds_toArray, List.set_cons_zero, List.set_cons_succ])
  refine wpAnyH_done (by kernel_rfl) ?_ _
  have HG2 := Lib.hid hH3
  clear hHeld hH1 hH2 hH3 HG
  have hl := HG2.out.1.1
  unfold lcl at hl
  obtain ⟨⟨x0, x1, x2⟩, ⟨x3, x4, x5⟩, hf⟩ := hl.six
  obtain ⟨⟨u0, u1⟩, ⟨u2, u3⟩, u4⟩ := HG2.out.2.words
  clear hl hf
  have HM2 := Lib.hid HG2.out.1.2.1
  have HBa := Lib.hid HG2.out.1.2.2
  have hn2 := HQ2.out
  go_wp2_with (first
    | (go_at_call 16
       with_reducible refine (H5.out _ HM2.out).mono ?_
       rintro e w5 ⟨rfl, hb⟩
       have hb2 := hb.alloc hb.size (.cells #[.int .u64 ((wd Z 0 64 : Nat) : Int), .int .u64 ((wd Z 64 64 : Nat) : Int), .int .u64 ((wd Z 128 64 : Nat) : Int), .int .u64 ((wd Z 192 64 : Nat) : Int)] 38)
       have hG := GS.keep hb2 HG2.out
       clear x0 x1 x2 x3 x4 x5 u0 u1 u2 u3 u4 HG2 HM2
       have HZ := Lib.hid (At.new w5 Z)
       have HG3 := Lib.hid hG
       have HM3 := Lib.hid hG.1.2.1
       have hl := hG.1.1
       unfold lcl at hl
       obtain ⟨⟨x0, x1, x2⟩, ⟨x3, x4, x5⟩, hf⟩ := hl.six
       clear hb hb2 hG hl hf)
    | (go_at_call 16
       with_reducible refine (H6.out _ HM3.out).mono ?_
       rintro e w6 ⟨rfl, hb⟩
       have hb2 := hb.alloc hb.size (.cells #[.int .u64 ((wd B 0 64 : Nat) : Int), .int .u64 ((wd B 64 64 : Nat) : Int), .int .u64 ((wd B 128 64 : Nat) : Int), .int .u64 ((wd B 192 64 : Nat) : Int)] 38)
       have hG := GS.keep hb2 HG3.out
       have hZ := HZ.out.below hb2 HZ.out.lt
       clear x0 x1 x2 x3 x4 x5 HG3 HM3
       obtain ⟨⟨u0, u1⟩, ⟨u2, u3⟩, u4⟩ := hZ.words
       have hb6 := At.new w6 B
       have HB6 := Lib.hid hb6
       obtain ⟨⟨v0, v1⟩, ⟨v2, v3⟩, v4⟩ := hb6.words
       have HBb := Lib.hid hG.1.2.2
       clear hb hb2 hG hZ hb6)
    | (go_at_call 15
       with_reducible refine (H7.out _).mono ?_
       rintro e w7 ⟨rfl, hb⟩
       have hb7 := HB6.out.below hb HB6.out.lt
       clear u0 u1 u2 u3 u4 v0 v1 v2 v3 v4 HB6
       obtain ⟨⟨v0, v1⟩, ⟨v2, v3⟩, v4⟩ := hb7.words
       have HBc := Lib.hid (HBb.out.trans (hb.mono HBb.out.size))
       clear hb hb7)
    | (go_at_call 15
       with_reducible refine (H8.out _).mono ?_
       rintro e w8 ⟨rfl, hb⟩
       have HBd := Lib.hid (HBc.out.trans (hb.mono HBc.out.size))
       clear hb)
    | (go_at_call 13
       refine (HAw.out _ (HTk.out _ HBd.out)).mono ?_
       rintro e w9 ⟨rfl, hb⟩
       have HBe := Lib.hid (HBd.out.trans (hb.mono HBd.out.size))
       clear hb))
  go_ret
  exact ⟨rfl, HBe.out⟩
end Go.Proofs.YtblaldcioneooaaDoor
