/- The law LocaleRanges: the case of a range. (Written by gen_lwh.py.) -/
import Derived.Test.YtblaldcioneooaaDoorLwG
set_option linter.unusedVariables false
namespace Go.Proofs.YtblaldcioneooaaDoor
open Go.RowKit

/-- The locale in its block, and four sets. -/
def G4 (w0 : World) (L : Loc) (W C E : Value) (g1 g2 g3 g4 : Nat) (P1 P2 P3 P4 : Nat → Bool) (w : World) : Prop := RS w0 L W C E w ∧ At w g1 P1 ∧ At w g2 P2 ∧ At w g3 P3 ∧ At w g4 P4
theorem G4.drew {w0 w : World} {L : Loc} {W C E : Value} {g1 g2 g3 g4 : Nat} {P1 P2 P3 P4 : Nat → Bool} (h : G4 w0 L W C E g1 g2 g3 g4 P1 P2 P3 P4 w) : G4 w0 L W C E g1 g2 g3 g4 P1 P2 P3 P4 w.drew := ⟨h.1.drew, h.2⟩
theorem G4.keep {w0 w w' : World} {L : Loc} {W C E : Value} {g1 g2 g3 g4 : Nat} {P1 P2 P3 P4 : Nat → Bool} (hb : Below w.heap.size w w') (h : G4 w0 L W C E g1 g2 g3 g4 P1 P2 P3 P4 w) : G4 w0 L W C E g1 g2 g3 g4 P1 P2 P3 P4 w' := ⟨RS.keep hb h.1, h.2.1.below hb h.2.1.lt, h.2.2.1.below hb h.2.2.1.lt, h.2.2.2.1.below hb h.2.2.2.1.lt, h.2.2.2.2.below hb h.2.2.2.2.lt⟩

set_option maxRecDepth 100000 in
set_option maxHeartbeats 16000000 in
theorem ranges_yes (L : Loc) (W C E : Value) (lo hi : Nat) (hlo : lo < 256) (hhi : hi < 256) (hc : (vld L).wt lo ≤ (vld L).wt hi) (w : World) (hT : ltabAt w) (hM : LocM w L W C E) :
    Calls Tryd.prog 4 #[.agg (lcl L W C E), .int .u8 (lo : Int), .int .u8 (hi : Int)] w fun e w' => e = .returned (.bool true) ∧ Below w.heap.size w w' := by
  have HB : Hid (Below w.heap.size w (w.alloc (.cells (lcl L W C E) 26))) := (Below.refl _ _).alloc (Nat.le_refl _) _
  have HR : Hid (RS w L W C E (w.alloc (.cells (lcl L W C E) 26))) := ⟨heap_alloc_new w _, hM.below HB.out, HB.out⟩
  have HT := Lib.hid hT
  have HTk := Lib.hid (fun (wx : World) (hb : Below w.heap.size w wx) => ltab_keep HT.out hb)
  have HAw := Lib.hid awake_any
  have hE : eqv (vld L) lo lo = true := by rw [eqv_yes]; omega
  have H1 := Lib.hid (pEquiv_any L W C E lo hlo)
  have H4 := Lib.hid (pEquiv_any L W C E hi hhi)
  have H2 := Lib.hid (rhas_any (eqv (vld L) lo) lo hlo)
  have H3 := Lib.hid (rhas_any (eqv (vld L) lo) hi hhi)
  have HQ1 := Lib.hid (eql_is (eqv (vld L) hi) (eqv (vld L) lo) _ (eqv_eq _ _ _ hhi))
  have H5 := Lib.hid (pBetween_any L W C E lo hi hlo hhi)
  have H6 := Lib.hid (pBetween_any L W C E hi lo hhi hlo)
  rw [if_pos hc] at H5
  obtain ⟨B, hB⟩ : ∃ B, (if (vld L).wt hi ≤ (vld L).wt lo then Value.tuple #[cs (btw (vld L) hi lo), .bool true] else Value.tuple #[cs fun _ => false, .bool false]) = .tuple #[cs B, .bool (eqv (vld L) lo hi)] := by
    by_cases h : (vld L).wt hi ≤ (vld L).wt lo
    · exact ⟨_, by rw [if_pos h, (eqv_yes _ _ _).2 ⟨hc, h⟩]⟩
    · exact ⟨_, by rw [if_neg h, Bool.eq_false_iff.2 (fun h2 => h ((eqv_yes _ _ _).1 h2).2)]⟩
  rw [hB] at H6
  rw [hE] at H2
  have HPE := Lib.hid (fun k hk => pEquiv_any L W C E k hk)
  have HPX := Lib.hid (fun k hk (h : btw (vld L) lo hi k = true) => (by have h2 := pBetween_any L W C E lo k hlo hk; rw [if_pos ((btw_yes _ _ _ _).1 h).1] at h2; exact h2 : ∀ (w : World) (hM : LocM w L W C E), Calls Tryd.prog 16 #[.agg (lcl L W C E), .int .u8 lo, .int .u8 k] w fun e w' => e = .returned (.tuple #[cs (btw (vld L) lo k), .bool true]) ∧ Below w.heap.size w w'))
  have HPY := Lib.hid (fun k hk (h : btw (vld L) lo hi k = true) => (by have h2 := pBetween_any L W C E k hi hk hhi; rw [if_pos ((btw_yes _ _ _ _).1 h).2] at h2; exact h2 : ∀ (w : World) (hM : LocM w L W C E), Calls Tryd.prog 16 #[.agg (lcl L W C E), .int .u8 k, .int .u8 hi] w fun e w' => e = .returned (.tuple #[cs (btw (vld L) k hi), .bool true]) ∧ Below w.heap.size w w'))
  generalize vld L = V at *
  generalize eqv V lo hi = b1 at H3 HQ1 H6
  generalize eqv V lo = P at H1 H2 H3 HQ1
  generalize eqv V hi = P2 at H4 HQ1
  obtain ⟨A, hA⟩ : ∃ A, btw V lo hi = A := ⟨_, rfl⟩
  have HA := Lib.hid hA
  rw [hA] at H5
  clear hE hB hA hc
  unfold lcl at H1 H4 H5 H6 HPE HPX HPY
  unfold cs cl at H1 H2 H3 H4 H5 H6 HQ1
  obtain ⟨⟨aw, capw, rfl, _⟩, ⟨ac, capc, rfl, _⟩, ⟨ae, cape, rfl, _⟩⟩ := hM
  have hl := HR.out.1
  unfold lcl at hl
  obtain ⟨⟨x0, x1, x2⟩, ⟨x3, x4, x5⟩, hf⟩ := hl.six
  clear hl hf hT HT HB
  unfold lcl at HR
  go_enter Tryd.func4, Tryd.ntmps4
  unfold lcl
  go_wp2_with (first
    | (go_at_call 14
       refine (H1.out _ HR.out.2.1).mono ?_
       rintro e w1 ⟨rfl, hb⟩
       have hb2 := hb.alloc hb.size (.cells #[.int .u64 ((wd P 0 64 : Nat) : Int), .int .u64 ((wd P 64 64 : Nat) : Int), .int .u64 ((wd P 128 64 : Nat) : Int), .int .u64 ((wd P 192 64 : Nat) : Int)] 38)
       have hR := HR.out.keep hb2
       clear x0 x1 x2 x3 x4 x5 HR
       have HG : Hid (GS w L (.slice aw L.nw capw) (.slice ac L.nc capc) (.slice ae L.ne cape) w1.heap.size P (w1.alloc (.cells #[.int .u64 ((wd P 0 64 : Nat) : Int), .int .u64 ((wd P 64 64 : Nat) : Int), .int .u64 ((wd P 128 64 : Nat) : Int), .int .u64 ((wd P 192 64 : Nat) : Int)] 38))) := ⟨hR, At.new w1 P⟩
       clear hb hb2 hR))
  refine wp_region_held_drew (S := fun w' => GS w L (.slice aw L.nw capw) (.slice ac L.nc capc) (.slice ae L.ne cape) w1.heap.size P w') (by kernel_rfl) ?_ (fun hHeld => ?_)
  · exact HG.out.drew
  refine wpAnyH_take (i := 0) (v := ?av0) rfl (by kernel_rfl) (by kernel_rfl) (by kernel_rfl) (fun _ _ _ h => h) (Or.inl ⟨by rfl, ?ay0⟩) (by assumption) ?ar0
  case ay0 =>
    intro wx hSw
    have hw := hSw.2.words
    obtain ⟨⟨z0, z1⟩, ⟨z2, z3⟩, z4⟩ := hw
    clear hSw
    go_simp
    first | done | (with_reducible rfl)
  (try simp only [Act.put, List.getElem_toArray, List.getElem_cons_zero, List.setIfInBounds_toArray, List.set_cons_zero, List.set_cons_succ])
  refine wpAnyH_take (i := 1) (v := ?av1) rfl (by kernel_rfl) (by kernel_rfl) (by kernel_rfl) (fun _ _ _ h => h) (Or.inl ⟨by rfl, ?ay1⟩) (by assumption) ?ar1
  case ay1 =>
    intro wx hSw
    clear hSw
    go_simp
    first | done | (with_reducible rfl)
  (try simp only [Act.put, List.getElem_toArray, List.getElem_cons_succ, List.getElem_cons_zero, List.setIfInBounds_toArray, List.set_cons_zero, List.set_cons_succ])
  refine wpAnyH_ready (rs := [2]) (by kernel_rfl) (by simp) ?_
  refine AllReadyH.cons rfl (fun K hK => ?_) AllReadyH.nil
  go_simp
  go_at_call 15
  refine (H2.out _).mono ?_
  rintro e w2 ⟨rfl, hb⟩
  refine hK.out _ _ ?_ (fun hH1 => ?_)
  · exact GS.keep hb hHeld
  clear hK K hb
  (try simp only [Act.put, List.getElem_toArray, List.getElem_cons_succ, List.getElem_cons_zero, List.setIfInBounds_toArray, List.set_cons_zero, List.set_cons_succ])
  refine wpAnyH_take (i := 3) (v := ?bv3) rfl (by kernel_rfl) (by kernel_rfl) (by kernel_rfl) (fun _ _ _ h => h) (Or.inl ⟨by rfl, ?by3⟩) (by assumption) ?br3
  case by3 =>
    intro wx hSw
    clear hSw
    go_simp
    first | done | (with_reducible rfl)
  (try simp only [Act.put, List.getElem_toArray, List.getElem_cons_succ, List.getElem_cons_zero, List.setIfInBounds_toArray, List.set_cons_zero, List.set_cons_succ])
  refine wpAnyH_take (i := 4) (v := ?bv4) rfl (by kernel_rfl) (by kernel_rfl) (by kernel_rfl) (fun _ _ _ h => h) (Or.inl ⟨by rfl, ?by4⟩) (by assumption) ?br4
  case by4 =>
    intro wx hSw
    clear hSw
    go_simp
    first | done | (with_reducible rfl)
  (try simp only [Act.put, List.getElem_toArray, List.getElem_cons_succ, List.getElem_cons_zero, List.setIfInBounds_toArray, List.set_cons_zero, List.set_cons_succ])
  refine wpAnyH_take (i := 5) (v := ?bv5) rfl (by kernel_rfl) (by kernel_rfl) (by kernel_rfl) (fun _ _ _ h => h) (Or.inl ⟨by rfl, ?by5⟩) (by assumption) ?br5
  case by5 =>
    intro wx hSw
    have hw := hSw.2.words
    obtain ⟨⟨z0, z1⟩, ⟨z2, z3⟩, z4⟩ := hw
    clear hSw
    go_simp
    first | done | (with_reducible rfl)
  (try simp only [Act.put, List.getElem_toArray, List.getElem_cons_succ, List.getElem_cons_zero, List.setIfInBounds_toArray, List.set_cons_zero, List.set_cons_succ])
  refine wpAnyH_take (i := 6) (v := ?bv6) rfl (by kernel_rfl) (by kernel_rfl) (by kernel_rfl) (fun _ _ _ h => h) (Or.inl ⟨by rfl, ?by6⟩) (by assumption) ?br6
  case by6 =>
    intro wx hSw
    clear hSw
    go_simp
    first | done | (with_reducible rfl)
  (try simp only [Act.put, List.getElem_toArray, List.getElem_cons_succ, List.getElem_cons_zero, List.setIfInBounds_toArray, List.set_cons_zero, List.set_cons_succ])
  refine wpAnyH_take (i := 8) (v := ?bv8) rfl (by kernel_rfl) (by kernel_rfl) (by kernel_rfl) (fun _ _ _ h => h) (Or.inl ⟨by rfl, ?by8⟩) (by assumption) ?br8
  case by8 =>
    intro wx hSw
    have hl := hSw.1.1
    unfold lcl at hl
    obtain ⟨⟨x0, x1, x2⟩, ⟨x3, x4, x5⟩, hf⟩ := hl.six
    clear hl hf
    clear hSw
    go_simp
    first | done | (with_reducible rfl)
  (try simp only [Act.put, List.getElem_toArray, List.getElem_cons_succ, List.getElem_cons_zero, List.setIfInBounds_toArray, List.set_cons_zero, List.set_cons_succ])
  refine wpAnyH_take (i := 9) (v := ?bv9) rfl (by kernel_rfl) (by kernel_rfl) (by kernel_rfl) (fun _ _ _ h => h) (Or.inl ⟨by rfl, ?by9⟩) (by assumption) ?br9
  case by9 =>
    intro wx hSw
    clear hSw
    go_simp
    first | done | (with_reducible rfl)
  (try simp only [Act.put, List.getElem_toArray, List.getElem_cons_succ, List.getElem_cons_zero, List.setIfInBounds_toArray, List.set_cons_zero, List.set_cons_succ])
  refine wpAnyH_take (i := 11) (v := ?bv11) rfl (by kernel_rfl) (by kernel_rfl) (by kernel_rfl) (fun _ _ _ h => h) (Or.inl ⟨by rfl, ?by11⟩) (by assumption) ?br11
  case by11 =>
    intro wx hSw
    have hw := hSw.2.words
    obtain ⟨⟨z0, z1⟩, ⟨z2, z3⟩, z4⟩ := hw
    clear hSw
    go_simp
    first | done | (with_reducible rfl)
  (try simp only [Act.put, List.getElem_toArray, List.getElem_cons_succ, List.getElem_cons_zero, List.setIfInBounds_toArray, List.set_cons_zero, List.set_cons_succ])
  refine wpAnyH_ready (rs := [7]) (by kernel_rfl) (by simp) ?_
  refine AllReadyH.cons rfl (fun K hK => ?_) AllReadyH.nil
  go_simp
  go_at_call 15
  refine (H3.out _).mono ?_
  rintro e w3 ⟨rfl, hb⟩
  refine hK.out _ _ ?_ (fun hH2 => ?_)
  · exact GS.keep hb hH1
  clear hK K hb
  (try simp only [Act.put, List.getElem_toArray, List.getElem_cons_succ, List.getElem_cons_zero, List.setIfInBounds_toArray, List.set_cons_zero, List.set_cons_succ])
  refine wpAnyH_ready (rs := [10]) (by kernel_rfl) (by simp) ?_
  refine AllReadyH.cons rfl (fun K hK => ?_) AllReadyH.nil
  go_simp
  go_at_call 14
  refine (H4.out _ hH2.1.2.1).mono ?_
  rintro e w4 ⟨rfl, hb⟩
  refine hK.out _ _ ?_ (fun hH3 => ?_)
  · exact GS.keep hb hH2
  clear hK K hb
  (try simp only [Act.put, List.getElem_toArray, List.getElem_cons_succ, List.getElem_cons_zero, List.setIfInBounds_toArray, List.set_cons_zero, List.set_cons_succ])
  refine wpAnyH_take (i := 12) (v := ?cv12) rfl (by kernel_rfl) (by kernel_rfl) (by kernel_rfl) (fun _ _ _ h => h) (Or.inl ⟨by rfl, ?cy12⟩) (by assumption) ?cr12
  case cy12 =>
    intro wx hSw
    have hn := HQ1.out
    clear hSw
    go_simp
    first | done | (with_reducible rfl)
  (try simp only [Act.put, List.getElem_toArray, List.getElem_cons_succ, List.getElem_cons_zero, List.setIfInBounds_toArray, List.set_cons_zero, List.set_cons_succ])
  refine wpAnyH_take (i := 13) (v := ?cv13) rfl (by kernel_rfl) (by kernel_rfl) (by kernel_rfl) (fun _ _ _ h => h) (Or.inl ⟨by rfl, ?cy13⟩) (by assumption) ?cr13
  case cy13 =>
    intro wx hSw
    clear hSw
    go_simp
    first | done | (with_reducible rfl)
  (try simp only [Act.put, List.getElem_toArray, List.getElem_cons_succ, List.getElem_cons_zero, List.setIfInBounds_toArray, List.set_cons_zero, List.set_cons_succ])
  refine wpAnyH_take (i := 14) (v := ?cv14) rfl (by kernel_rfl) (by kernel_rfl) (by kernel_rfl) (fun _ _ _ h => h) (Or.inl ⟨by rfl, ?cy14⟩) (by assumption) ?cr14
  case cy14 =>
    intro wx hSw
    clear hSw
    go_simp
    first | done | (with_reducible rfl)
  (try simp only [Act.put, List.getElem_toArray, List.getElem_cons_succ, List.getElem_cons_zero, List.setIfInBounds_toArray, List.set_cons_zero, List.set_cons_succ])
  refine wpAnyH_done (by kernel_rfl) ?_ _
  have HG2 := Lib.hid hH3
  clear hHeld hH1 hH2 hH3 HG
  have hl := HG2.out.1.1
  unfold lcl at hl
  obtain ⟨⟨x0, x1, x2⟩, ⟨x3, x4, x5⟩, hf⟩ := hl.six
  obtain ⟨⟨u0, u1⟩, ⟨u2, u3⟩, u4⟩ := HG2.out.2.words
  clear hl hf
  have HM2 := Lib.hid HG2.out.1.2.1
  go_wp2_with (first
    | (go_at_call 16
       with_reducible refine (H5.out _ HM2.out).mono ?_
       rintro e w5 ⟨rfl, hb⟩
       have hb2 := hb.alloc hb.size (.cells #[.int .u64 ((wd A 0 64 : Nat) : Int), .int .u64 ((wd A 64 64 : Nat) : Int), .int .u64 ((wd A 128 64 : Nat) : Int), .int .u64 ((wd A 192 64 : Nat) : Int)] 38)
       have hG := GS.keep hb2 HG2.out
       clear x0 x1 x2 x3 x4 x5 u0 u1 u2 u3 u4 HG2 HM2
       have HZ := Lib.hid (At.new w5 A)
       have HG3 := Lib.hid hG
       have HM3 := Lib.hid hG.1.2.1
       have hl := hG.1.1
       unfold lcl at hl
       obtain ⟨⟨x0, x1, x2⟩, ⟨x3, x4, x5⟩, hf⟩ := hl.six
       clear hl hf
       clear hb hb2 hG)
    | (go_at_call 16
       with_reducible refine (H6.out _ HM3.out).mono ?_
       rintro e w6 ⟨rfl, hb⟩
       have hb2 := hb.alloc hb.size (.cells #[.int .u64 ((wd B 0 64 : Nat) : Int), .int .u64 ((wd B 64 64 : Nat) : Int), .int .u64 ((wd B 128 64 : Nat) : Int), .int .u64 ((wd B 192 64 : Nat) : Int)] 38)
       have hG := GS.keep hb2 HG3.out
       have hZ := HZ.out.below hb2 HZ.out.lt
       clear x0 x1 x2 x3 x4 x5 HG3 HM3
       obtain ⟨⟨u0, u1⟩, ⟨u2, u3⟩, u4⟩ := hG.2.words
       have HG4 : Hid (GS w L (.slice aw L.nw capw) (.slice ac L.nc capc) (.slice ae L.ne cape) w5.heap.size A (w6.alloc (.cells #[.int .u64 ((wd B 0 64 : Nat) : Int), .int .u64 ((wd B 64 64 : Nat) : Int), .int .u64 ((wd B 128 64 : Nat) : Int), .int .u64 ((wd B 192 64 : Nat) : Int)] 38))) := ⟨hG.1, hZ⟩
       clear hb hb2 hG hZ)
    | (go_at_call 15
       with_reducible refine (H3.out _).mono ?_
       rintro e w7 ⟨rfl, hb⟩
       have HG5 := Lib.hid (GS.keep hb HG4.out)
       clear u0 u1 u2 u3 u4 HG4 hb))
  go_loopw [12] (fun i wr => ∃ k : Nat, k ≤ 256 ∧ i = .int .i64 k ∧ Hid (GS w L (.slice aw L.nw capw) (.slice ac L.nc capc) (.slice ae L.ne cape) w5.heap.size A wr)) (fun i _ => 256 - (intOf i).toNat)
  case atStart => exact ⟨0, Nat.zero_le _, rfl, HG5.out⟩
  case round =>
    obtain ⟨k, hk, rfl, HG⟩ := hrel
    clear HG5
    by_cases hkn : k < 256
    · have ki : (k : Int) < 256 := by omega
      have kw : IntKind.u8.wrap (k : Int) = (k : Int) := IntWalk.u8_in _ (by omega)
      rcases bool_tf (A k) with hh | hh
      · have C1 := Lib.hid (HPE.out k hkn)
        have C2 := Lib.hid (rinter_any (eqv V k) A)
        have C3 := Lib.hid (rhas_any A k hkn)
        have q1 := rng_in V lo hi k hkn
        rw [HA.out, hh] at q1
        have Q1 := Lib.hid (eql_is _ _ _ q1)
        rw [hh] at C3
        have hbt : btw V lo hi k = true := by rw [HA.out]; exact hh
        have C4 := Lib.hid (HPX.out k hkn hbt)
        have C5 := Lib.hid (HPY.out k hkn hbt)
        have C6 := Lib.hid (runion_any (btw V lo k) (btw V k hi))
        have C7 := Lib.hid (rinter_any (btw V lo k) (btw V k hi))
        have q2 := rng_union V lo hi k hbt
        have q3 := rng_inter V lo hi k hbt
        rw [HA.out] at q2
        have Q2 := Lib.hid (neq_is _ _ false q2)
        have Q3 := Lib.hid (neq_is _ _ false q3)
        clear q2 q3 hbt
        generalize (fun d => btw V lo k d || btw V k hi d) = Un at C6 Q2
        generalize (fun d => btw V lo k d && btw V k hi d) = In at C7 Q3
        generalize btw V lo k = X at C4 C6 C7
        generalize btw V k hi = Y at C5 C6 C7
        generalize (fun d => eqv V k d && A d) = Cm at C2 Q1
        generalize eqv V k = F at C1 C2 Q1 Q3
        clear q1 hh
        unfold cs cl at C1 C2 C3 Q1 C4 C5 C6 C7 Q2 Q3
        have hM := HG.out.1.2.1
        have HMa := Lib.hid hM
        have hl := HG.out.1.1
        unfold lcl at hl
        obtain ⟨⟨x0, x1, x2⟩, ⟨x3, x4, x5⟩, hf⟩ := hl.six
        clear hl hf
        obtain ⟨⟨u0, u1⟩, ⟨u2, u3⟩, u4⟩ := HG.out.2.words
        clear hM
        go_wp2_with (first
          | (go_at_call 14
             with_reducible refine (C1.out _ HMa.out).mono ?_
             rintro e w8 ⟨rfl, hb⟩
             have hb2 := hb.alloc hb.size (.cells #[.int .u64 ((wd F 0 64 : Nat) : Int), .int .u64 ((wd F 64 64 : Nat) : Int), .int .u64 ((wd F 128 64 : Nat) : Int), .int .u64 ((wd F 192 64 : Nat) : Int)] 38)
             have hG := GS.keep hb2 HG.out
             clear x0 x1 x2 x3 x4 x5 u0 u1 u2 u3 u4 HG HMa
             have HGa := Lib.hid hG
             have hf8 := At.new w8 F
             have HF := Lib.hid hf8
             obtain ⟨⟨u0, u1⟩, ⟨u2, u3⟩, u4⟩ := hG.2.words
             obtain ⟨⟨v0, v1⟩, ⟨v2, v3⟩, v4⟩ := hf8.words
             clear hG hf8
             clear hb hb2)
          | (go_at_call 17
             with_reducible refine (C2.out _).mono ?_
             rintro e w9 ⟨rfl, hb⟩
             have hb2 := hb.alloc hb.size (.cells #[.int .u64 ((wd Cm 0 64 : Nat) : Int), .int .u64 ((wd Cm 64 64 : Nat) : Int), .int .u64 ((wd Cm 128 64 : Nat) : Int), .int .u64 ((wd Cm 192 64 : Nat) : Int)] 38)
             have hG := GS.keep hb2 HGa.out
             have hF := HF.out.below hb2 HF.out.lt
             clear u0 u1 u2 u3 u4 v0 v1 v2 v3 v4 HGa HF
             have HH : Hid (G4 w L (.slice aw L.nw capw) (.slice ac L.nc capc) (.slice ae L.ne cape) w5.heap.size w8.heap.size w9.heap.size w9.heap.size A F Cm Cm (w9.alloc (.cells #[.int .u64 ((wd Cm 0 64 : Nat) : Int), .int .u64 ((wd Cm 64 64 : Nat) : Int), .int .u64 ((wd Cm 128 64 : Nat) : Int), .int .u64 ((wd Cm 192 64 : Nat) : Int)] 38))) := ⟨hG.1, hG.2, hF, At.new w9 Cm, At.new w9 Cm⟩
             clear hG hF
             clear hb hb2))
        refine wp_region_held_drew (S := fun w' => G4 w L (.slice aw L.nw capw) (.slice ac L.nc capc) (.slice ae L.ne cape) w5.heap.size w8.heap.size w9.heap.size w9.heap.size A F Cm Cm w') (by kernel_rfl) ?_ (fun hHeld => ?_)
        · exact HH.out.drew
        refine wpAnyH_take (i := 0) (v := ?axv0) rfl (by kernel_rfl) (by kernel_rfl) (by kernel_rfl) (fun _ _ _ h => h) (Or.inl ⟨by rfl, ?axy0⟩) (by assumption) ?axr0
        case axy0 =>
          intro wx hSw
          have hw := hSw.2.1.words
          obtain ⟨⟨z0, z1⟩, ⟨z2, z3⟩, z4⟩ := hw
          clear hSw
          go_simp
          first | done | (with_reducible rfl)
        (try simp only [Act.put, List.getElem_toArray, List.getElem_cons_zero, List.setIfInBounds_toArray, List.set_cons_zero, List.set_cons_succ])
        refine wpAnyH_take (i := 1) (v := ?axv1) rfl (by kernel_rfl) (by kernel_rfl) (by kernel_rfl) (fun _ _ _ h => h) (Or.inl ⟨by rfl, ?axy1⟩) (by assumption) ?axr1
        case axy1 =>
          intro wx hSw
          clear hSw
          go_simp
          first | done | (with_reducible rfl)
        (try simp only [Act.put, List.getElem_toArray, List.getElem_cons_succ, List.getElem_cons_zero, List.setIfInBounds_toArray, List.set_cons_zero, List.set_cons_succ])
        refine wpAnyH_take (i := 3) (v := ?axv3) rfl (by kernel_rfl) (by kernel_rfl) (by kernel_rfl) (fun _ _ _ h => h) (Or.inl ⟨by rfl, ?axy3⟩) (by assumption) ?axr3
        case axy3 =>
          intro wx hSw
          have hw := hSw.2.2.2.1.words
          obtain ⟨⟨z0, z1⟩, ⟨z2, z3⟩, z4⟩ := hw
          clear hSw
          go_simp
          first | done | (with_reducible rfl)
        (try simp only [Act.put, List.getElem_toArray, List.getElem_cons_succ, List.getElem_cons_zero, List.setIfInBounds_toArray, List.set_cons_zero, List.set_cons_succ])
        refine wpAnyH_take (i := 4) (v := ?axv4) rfl (by kernel_rfl) (by kernel_rfl) (by kernel_rfl) (fun _ _ _ h => h) (Or.inl ⟨by rfl, ?axy4⟩) (by assumption) ?axr4
        case axy4 =>
          intro wx hSw
          have hw := hSw.2.2.1.words
          obtain ⟨⟨z0, z1⟩, ⟨z2, z3⟩, z4⟩ := hw
          clear hSw
          go_simp
          first | done | (with_reducible rfl)
        (try simp only [Act.put, List.getElem_toArray, List.getElem_cons_succ, List.getElem_cons_zero, List.setIfInBounds_toArray, List.set_cons_zero, List.set_cons_succ])
        refine wpAnyH_take (i := 5) (v := ?axv5) rfl (by kernel_rfl) (by kernel_rfl) (by kernel_rfl) (fun _ _ _ h => h) (Or.inl ⟨by rfl, ?axy5⟩) (by assumption) ?axr5
        case axy5 =>
          intro wx hSw
          have hn := Q1.out
          clear hSw
          go_simp
          first | done | (with_reducible rfl)
        (try simp only [Act.put, List.getElem_toArray, List.getElem_cons_succ, List.getElem_cons_zero, List.setIfInBounds_toArray, List.set_cons_zero, List.set_cons_succ])
        refine wpAnyH_ready (rs := [2]) (by kernel_rfl) (by simp) ?_
        refine AllReadyH.cons rfl (fun K hK => ?_) AllReadyH.nil
        go_simp
        go_at_call 15
        refine (C3.out _).mono ?_
        rintro e w10 ⟨rfl, hb⟩
        refine hK.out _ _ ?_ (fun hH1 => ?_)
        · exact G4.keep hb hHeld
        clear hK K hb
        (try simp only [Act.put, List.getElem_toArray, List.getElem_cons_succ, List.getElem_cons_zero, List.setIfInBounds_toArray, List.set_cons_zero, List.set_cons_succ])
        refine wpAnyH_take (i := 6) (v := ?bxv6) rfl (by kernel_rfl) (by kernel_rfl) (by kernel_rfl) (fun _ _ _ h => h) (Or.inl ⟨by rfl, ?bxy6⟩) (by assumption) ?bxr6
        case bxy6 =>
          intro wx hSw
          clear hSw
          go_simp
          first | done | (with_reducible rfl)
        (try simp only [Act.put, List.getElem_toArray, List.getElem_cons_succ, List.getElem_cons_zero, List.setIfInBounds_toArray, List.set_cons_zero, List.set_cons_succ])
        refine wpAnyH_take (i := 7) (v := ?bxv7) rfl (by kernel_rfl) (by kernel_rfl) (by kernel_rfl) (fun _ _ _ h => h) (Or.inl ⟨by rfl, ?bxy7⟩) (by assumption) ?bxr7
        case bxy7 =>
          intro wx hSw
          clear hSw
          go_simp
          first | done | (with_reducible rfl)
        (try simp only [Act.put, List.getElem_toArray, List.getElem_cons_succ, List.getElem_cons_zero, List.setIfInBounds_toArray, List.set_cons_zero, List.set_cons_succ])
        refine wpAnyH_take (i := 8) (v := ?bxv8) rfl (by kernel_rfl) (by kernel_rfl) (by kernel_rfl) (fun _ _ _ h => h) (Or.inl ⟨by rfl, ?bxy8⟩) (by assumption) ?bxr8
        case bxy8 =>
          intro wx hSw
          have hw := hSw.2.1.words
          obtain ⟨⟨z0, z1⟩, ⟨z2, z3⟩, z4⟩ := hw
          clear hSw
          go_simp
          first | done | (with_reducible rfl)
        (try simp only [Act.put, List.getElem_toArray, List.getElem_cons_succ, List.getElem_cons_zero, List.setIfInBounds_toArray, List.set_cons_zero, List.set_cons_succ])
        refine wpAnyH_take (i := 9) (v := ?bxv9) rfl (by kernel_rfl) (by kernel_rfl) (by kernel_rfl) (fun _ _ _ h => h) (Or.inl ⟨by rfl, ?bxy9⟩) (by assumption) ?bxr9
        case bxy9 =>
          intro wx hSw
          clear hSw
          go_simp
          first | done | (with_reducible rfl)
        (try simp only [Act.put, List.getElem_toArray, List.getElem_cons_succ, List.getElem_cons_zero, List.setIfInBounds_toArray, List.set_cons_zero, List.set_cons_succ])
        refine wpAnyH_ready (rs := [10]) (by kernel_rfl) (by simp) ?_
        refine AllReadyH.cons rfl (fun K hK => ?_) AllReadyH.nil
        go_simp
        go_at_call 15
        refine (C3.out _).mono ?_
        rintro e w11 ⟨rfl, hb⟩
        refine hK.out _ _ ?_ (fun hH2 => ?_)
        · exact G4.keep hb hH1
        clear hK K hb
        (try simp only [Act.put, List.getElem_toArray, List.getElem_cons_succ, List.getElem_cons_zero, List.setIfInBounds_toArray, List.set_cons_zero, List.set_cons_succ])
        refine wpAnyH_take (i := 11) (v := ?cxv11) rfl (by kernel_rfl) (by kernel_rfl) (by kernel_rfl) (fun _ _ _ h => h) (Or.inl ⟨by rfl, ?cxy11⟩) (by assumption) ?cxr11
        case cxy11 =>
          intro wx hSw
          clear hSw
          go_simp
          first | done | (with_reducible rfl)
        (try simp only [Act.put, List.getElem_toArray, List.getElem_cons_succ, List.getElem_cons_zero, List.setIfInBounds_toArray, List.set_cons_zero, List.set_cons_succ])
        refine wpAnyH_take (i := 12) (v := ?cxv12) rfl (by kernel_rfl) (by kernel_rfl) (by kernel_rfl) (fun _ _ _ h => h) (Or.inl ⟨by rfl, ?cxy12⟩) (by assumption) ?cxr12
        case cxy12 =>
          intro wx hSw
          clear hSw
          go_simp
          first | done | (with_reducible rfl)
        (try simp only [Act.put, List.getElem_toArray, List.getElem_cons_succ, List.getElem_cons_zero, List.setIfInBounds_toArray, List.set_cons_zero, List.set_cons_succ])
        refine wpAnyH_take (i := 13) (v := undef) rfl (by kernel_rfl) (by kernel_rfl) (by kernel_rfl) (fun _ _ _ h => h) (Or.inr ⟨by rfl, rfl⟩) (by assumption) ?sxr13
        (try simp only [Act.put, List.getElem_toArray, List.getElem_cons_succ, List.getElem_cons_zero, List.setIfInBounds_toArray, List.set_cons_zero, List.set_cons_succ])
        refine wpAnyH_take (i := 14) (v := undef) rfl (by kernel_rfl) (by kernel_rfl) (by kernel_rfl) (fun _ _ _ h => h) (Or.inr ⟨by rfl, rfl⟩) (by assumption) ?sxr14
        (try simp only [Act.put, List.getElem_toArray, List.getElem_cons_succ, List.getElem_cons_zero, List.setIfInBounds_toArray, List.set_cons_zero, List.set_cons_succ])
        refine wpAnyH_take (i := 15) (v := undef) rfl (by kernel_rfl) (by kernel_rfl) (by kernel_rfl) (fun _ _ _ h => h) (Or.inr ⟨by rfl, rfl⟩) (by assumption) ?sxr15
        (try simp only [Act.put, List.getElem_toArray, List.getElem_cons_succ, List.getElem_cons_zero, List.setIfInBounds_toArray, List.set_cons_zero, List.set_cons_succ])
        refine wpAnyH_take (i := 16) (v := ?gxv16) rfl (by kernel_rfl) (by kernel_rfl) (by kernel_rfl) (fun _ _ _ h => h) (Or.inl ⟨by rfl, ?gxy16⟩) (by assumption) ?gxr16
        case gxy16 =>
          intro wx hSw
          clear hSw
          go_simp
          first | done | (with_reducible rfl)
        (try simp only [Act.put, List.getElem_toArray, List.getElem_cons_succ, List.getElem_cons_zero, List.setIfInBounds_toArray, List.set_cons_zero, List.set_cons_succ])
        refine wpAnyH_take (i := 17) (v := ?gxv17) rfl (by kernel_rfl) (by kernel_rfl) (by kernel_rfl) (fun _ _ _ h => h) (Or.inl ⟨by rfl, ?gxy17⟩) (by assumption) ?gxr17
        case gxy17 =>
          intro wx hSw
          clear hSw
          go_simp
          first | done | (with_reducible rfl)
        (try simp only [Act.put, List.getElem_toArray, List.getElem_cons_succ, List.getElem_cons_zero, List.setIfInBounds_toArray, List.set_cons_zero, List.set_cons_succ])
        refine wpAnyH_done (by kernel_rfl) ?_ _
        have HJ := Lib.hid hH2
        clear hHeld hH1 hH2 HH
        have hl := HJ.out.1.1
        unfold lcl at hl
        obtain ⟨⟨x0, x1, x2⟩, ⟨x3, x4, x5⟩, hf⟩ := hl.six
        clear hl hf
        obtain ⟨⟨u0, u1⟩, ⟨u2, u3⟩, u4⟩ := HJ.out.2.1.words
        go_wp2_with (first
          | (go_at_call 15
             with_reducible refine (C3.out _).mono ?_
             rintro e w12 ⟨rfl, hb⟩
             have hJ := G4.keep hb HJ.out
             clear x0 x1 x2 x3 x4 x5 u0 u1 u2 u3 u4 HJ
             have HK := Lib.hid hJ
             have HMb := Lib.hid hJ.1.2.1
             have hl := hJ.1.1
             unfold lcl at hl
             obtain ⟨⟨x0, x1, x2⟩, ⟨x3, x4, x5⟩, hf⟩ := hl.six
             clear hl hf
             clear hb hJ)
          | (go_at_call 16
             with_reducible refine (C4.out _ HMb.out).mono ?_
             rintro e w13 ⟨rfl, hb⟩
             have hb2 := hb.alloc hb.size (.cells #[.int .u64 ((wd X 0 64 : Nat) : Int), .int .u64 ((wd X 64 64 : Nat) : Int), .int .u64 ((wd X 128 64 : Nat) : Int), .int .u64 ((wd X 192 64 : Nat) : Int)] 38)
             have hJ := G4.keep hb2 HK.out
             clear x0 x1 x2 x3 x4 x5 HK HMb
             have HKb := Lib.hid hJ
             have HMc := Lib.hid hJ.1.2.1
             have HX := Lib.hid (At.new w13 X)
             have hl := hJ.1.1
             unfold lcl at hl
             obtain ⟨⟨x0, x1, x2⟩, ⟨x3, x4, x5⟩, hf⟩ := hl.six
             clear hl hf
             clear hJ
             clear hb hb2)
          | (go_at_call 16
             with_reducible refine (C5.out _ HMc.out).mono ?_
             rintro e w14 ⟨rfl, hb⟩
             have hb2 := hb.alloc hb.size (.cells #[.int .u64 ((wd Y 0 64 : Nat) : Int), .int .u64 ((wd Y 64 64 : Nat) : Int), .int .u64 ((wd Y 128 64 : Nat) : Int), .int .u64 ((wd Y 192 64 : Nat) : Int)] 38)
             have hJ := G4.keep hb2 HKb.out
             have hX := HX.out.below hb2 HX.out.lt
             clear x0 x1 x2 x3 x4 x5 HKb HMc HX
             have HN : Hid (G4 w L (.slice aw L.nw capw) (.slice ac L.nc capc) (.slice ae L.ne cape) w5.heap.size w8.heap.size w13.heap.size w14.heap.size A F X Y (w14.alloc (.cells #[.int .u64 ((wd Y 0 64 : Nat) : Int), .int .u64 ((wd Y 64 64 : Nat) : Int), .int .u64 ((wd Y 128 64 : Nat) : Int), .int .u64 ((wd Y 192 64 : Nat) : Int)] 38))) := ⟨hJ.1, hJ.2.1, hJ.2.2.1, hX, At.new w14 Y⟩
             clear hJ hX
             clear hb hb2))
        refine wp_region_held_drew (S := fun w' => G4 w L (.slice aw L.nw capw) (.slice ac L.nc capc) (.slice ae L.ne cape) w5.heap.size w8.heap.size w13.heap.size w14.heap.size A F X Y w') (by kernel_rfl) ?_ (fun hHeld => ?_)
        · exact HN.out.drew
        refine wpAnyH_take (i := 0) (v := ?dxv0) rfl (by kernel_rfl) (by kernel_rfl) (by kernel_rfl) (fun _ _ _ h => h) (Or.inl ⟨by rfl, ?dxy0⟩) (by assumption) ?dxr0
        case dxy0 =>
          intro wx hSw
          clear hSw
          go_simp
          first | done | (with_reducible rfl)
        (try simp only [Act.put, List.getElem_toArray, List.getElem_cons_zero, List.setIfInBounds_toArray, List.set_cons_zero, List.set_cons_succ])
        refine wpAnyH_take (i := 1) (v := ?dxv1) rfl (by kernel_rfl) (by kernel_rfl) (by kernel_rfl) (fun _ _ _ h => h) (Or.inl ⟨by rfl, ?dxy1⟩) (by assumption) ?dxr1
        case dxy1 =>
          intro wx hSw
          clear hSw
          go_simp
          first | done | (with_reducible rfl)
        (try simp only [Act.put, List.getElem_toArray, List.getElem_cons_succ, List.getElem_cons_zero, List.setIfInBounds_toArray, List.set_cons_zero, List.set_cons_succ])
        refine wpAnyH_take (i := 2) (v := ?dxv2) rfl (by kernel_rfl) (by kernel_rfl) (by kernel_rfl) (fun _ _ _ h => h) (Or.inl ⟨by rfl, ?dxy2⟩) (by assumption) ?dxr2
        case dxy2 =>
          intro wx hSw
          clear hSw
          go_simp
          first | done | (with_reducible rfl)
        (try simp only [Act.put, List.getElem_toArray, List.getElem_cons_succ, List.getElem_cons_zero, List.setIfInBounds_toArray, List.set_cons_zero, List.set_cons_succ])
        refine wpAnyH_take (i := 3) (v := ?dxv3) rfl (by kernel_rfl) (by kernel_rfl) (by kernel_rfl) (fun _ _ _ h => h) (Or.inl ⟨by rfl, ?dxy3⟩) (by assumption) ?dxr3
        case dxy3 =>
          intro wx hSw
          clear hSw
          go_simp
          first | done | (with_reducible rfl)
        (try simp only [Act.put, List.getElem_toArray, List.getElem_cons_succ, List.getElem_cons_zero, List.setIfInBounds_toArray, List.set_cons_zero, List.set_cons_succ])
        refine wpAnyH_take (i := 4) (v := ?dxv4) rfl (by kernel_rfl) (by kernel_rfl) (by kernel_rfl) (fun _ _ _ h => h) (Or.inl ⟨by rfl, ?dxy4⟩) (by assumption) ?dxr4
        case dxy4 =>
          intro wx hSw
          clear hSw
          go_simp
          first | done | (with_reducible rfl)
        (try simp only [Act.put, List.getElem_toArray, List.getElem_cons_succ, List.getElem_cons_zero, List.setIfInBounds_toArray, List.set_cons_zero, List.set_cons_succ])
        refine wpAnyH_take (i := 5) (v := ?dxv5) rfl (by kernel_rfl) (by kernel_rfl) (by kernel_rfl) (fun _ _ _ h => h) (Or.inl ⟨by rfl, ?dxy5⟩) (by assumption) ?dxr5
        case dxy5 =>
          intro wx hSw
          clear hSw
          go_simp
          first | done | (with_reducible rfl)
        (try simp only [Act.put, List.getElem_toArray, List.getElem_cons_succ, List.getElem_cons_zero, List.setIfInBounds_toArray, List.set_cons_zero, List.set_cons_succ])
        refine wpAnyH_take (i := 6) (v := ?dxv6) rfl (by kernel_rfl) (by kernel_rfl) (by kernel_rfl) (fun _ _ _ h => h) (Or.inl ⟨by rfl, ?dxy6⟩) (by assumption) ?dxr6
        case dxy6 =>
          intro wx hSw
          clear hSw
          go_simp
          first | done | (with_reducible rfl)
        (try simp only [Act.put, List.getElem_toArray, List.getElem_cons_succ, List.getElem_cons_zero, List.setIfInBounds_toArray, List.set_cons_zero, List.set_cons_succ])
        refine wpAnyH_take (i := 7) (v := ?dxv7) rfl (by kernel_rfl) (by kernel_rfl) (by kernel_rfl) (fun _ _ _ h => h) (Or.inl ⟨by rfl, ?dxy7⟩) (by assumption) ?dxr7
        case dxy7 =>
          intro wx hSw
          have hw := hSw.2.2.2.1.words
          obtain ⟨⟨z0, z1⟩, ⟨z2, z3⟩, z4⟩ := hw
          clear hSw
          go_simp
          first | done | (with_reducible rfl)
        (try simp only [Act.put, List.getElem_toArray, List.getElem_cons_succ, List.getElem_cons_zero, List.setIfInBounds_toArray, List.set_cons_zero, List.set_cons_succ])
        refine wpAnyH_take (i := 8) (v := ?dxv8) rfl (by kernel_rfl) (by kernel_rfl) (by kernel_rfl) (fun _ _ _ h => h) (Or.inl ⟨by rfl, ?dxy8⟩) (by assumption) ?dxr8
        case dxy8 =>
          intro wx hSw
          have hw := hSw.2.2.2.2.words
          obtain ⟨⟨z0, z1⟩, ⟨z2, z3⟩, z4⟩ := hw
          clear hSw
          go_simp
          first | done | (with_reducible rfl)
        (try simp only [Act.put, List.getElem_toArray, List.getElem_cons_succ, List.getElem_cons_zero, List.setIfInBounds_toArray, List.set_cons_zero, List.set_cons_succ])
        refine wpAnyH_take (i := 10) (v := ?dxv10) rfl (by kernel_rfl) (by kernel_rfl) (by kernel_rfl) (fun _ _ _ h => h) (Or.inl ⟨by rfl, ?dxy10⟩) (by assumption) ?dxr10
        case dxy10 =>
          intro wx hSw
          have hw := hSw.2.1.words
          obtain ⟨⟨z0, z1⟩, ⟨z2, z3⟩, z4⟩ := hw
          clear hSw
          go_simp
          first | done | (with_reducible rfl)
        (try simp only [Act.put, List.getElem_toArray, List.getElem_cons_succ, List.getElem_cons_zero, List.setIfInBounds_toArray, List.set_cons_zero, List.set_cons_succ])
        refine wpAnyH_ready (rs := [9]) (by kernel_rfl) (by simp) ?_
        refine AllReadyH.cons rfl (fun K hK => ?_) AllReadyH.nil
        go_simp
        go_at_call 18
        refine (C6.out _).mono ?_
        rintro e w15 ⟨rfl, hb⟩
        refine hK.out _ _ ?_ (fun hH1 => ?_)
        · exact G4.keep hb hHeld
        clear hK K hb
        (try simp only [Act.put, List.getElem_toArray, List.getElem_cons_succ, List.getElem_cons_zero, List.setIfInBounds_toArray, List.set_cons_zero, List.set_cons_succ])
        refine wpAnyH_take (i := 11) (v := ?exv11) rfl (by kernel_rfl) (by kernel_rfl) (by kernel_rfl) (fun _ _ _ h => h) (Or.inl ⟨by rfl, ?exy11⟩) (by assumption) ?exr11
        case exy11 =>
          intro wx hSw
          have hn := Q2.out
          clear hSw
          go_simp
          first | done | (with_reducible rfl)
        (try simp only [Act.put, List.getElem_toArray, List.getElem_cons_succ, List.getElem_cons_zero, List.setIfInBounds_toArray, List.set_cons_zero, List.set_cons_succ])
        refine wpAnyH_take (i := 12) (v := ?exv12) rfl (by kernel_rfl) (by kernel_rfl) (by kernel_rfl) (fun _ _ _ h => h) (Or.inl ⟨by rfl, ?exy12⟩) (by assumption) ?exr12
        case exy12 =>
          intro wx hSw
          clear hSw
          go_simp
          first | done | (with_reducible rfl)
        (try simp only [Act.put, List.getElem_toArray, List.getElem_cons_succ, List.getElem_cons_zero, List.setIfInBounds_toArray, List.set_cons_zero, List.set_cons_succ])
        refine wpAnyH_take (i := 13) (v := ?exv13) rfl (by kernel_rfl) (by kernel_rfl) (by kernel_rfl) (fun _ _ _ h => h) (Or.inl ⟨by rfl, ?exy13⟩) (by assumption) ?exr13
        case exy13 =>
          intro wx hSw
          clear hSw
          go_simp
          first | done | (with_reducible rfl)
        (try simp only [Act.put, List.getElem_toArray, List.getElem_cons_succ, List.getElem_cons_zero, List.setIfInBounds_toArray, List.set_cons_zero, List.set_cons_succ])
        refine wpAnyH_take (i := 14) (v := ?exv14) rfl (by kernel_rfl) (by kernel_rfl) (by kernel_rfl) (fun _ _ _ h => h) (Or.inl ⟨by rfl, ?exy14⟩) (by assumption) ?exr14
        case exy14 =>
          intro wx hSw
          have hw := hSw.2.2.2.1.words
          obtain ⟨⟨z0, z1⟩, ⟨z2, z3⟩, z4⟩ := hw
          clear hSw
          go_simp
          first | done | (with_reducible rfl)
        (try simp only [Act.put, List.getElem_toArray, List.getElem_cons_succ, List.getElem_cons_zero, List.setIfInBounds_toArray, List.set_cons_zero, List.set_cons_succ])
        refine wpAnyH_take (i := 15) (v := ?exv15) rfl (by kernel_rfl) (by kernel_rfl) (by kernel_rfl) (fun _ _ _ h => h) (Or.inl ⟨by rfl, ?exy15⟩) (by assumption) ?exr15
        case exy15 =>
          intro wx hSw
          have hw := hSw.2.2.2.2.words
          obtain ⟨⟨z0, z1⟩, ⟨z2, z3⟩, z4⟩ := hw
          clear hSw
          go_simp
          first | done | (with_reducible rfl)
        (try simp only [Act.put, List.getElem_toArray, List.getElem_cons_succ, List.getElem_cons_zero, List.setIfInBounds_toArray, List.set_cons_zero, List.set_cons_succ])
        refine wpAnyH_take (i := 17) (v := ?exv17) rfl (by kernel_rfl) (by kernel_rfl) (by kernel_rfl) (fun _ _ _ h => h) (Or.inl ⟨by rfl, ?exy17⟩) (by assumption) ?exr17
        case exy17 =>
          intro wx hSw
          have hw := hSw.2.2.1.words
          obtain ⟨⟨z0, z1⟩, ⟨z2, z3⟩, z4⟩ := hw
          clear hSw
          go_simp
          first | done | (with_reducible rfl)
        (try simp only [Act.put, List.getElem_toArray, List.getElem_cons_succ, List.getElem_cons_zero, List.setIfInBounds_toArray, List.set_cons_zero, List.set_cons_succ])
        refine wpAnyH_ready (rs := [16]) (by kernel_rfl) (by simp) ?_
        refine AllReadyH.cons rfl (fun K hK => ?_) AllReadyH.nil
        go_simp
        go_at_call 17
        refine (C7.out _).mono ?_
        rintro e w16 ⟨rfl, hb⟩
        refine hK.out _ _ ?_ (fun hH2 => ?_)
        · exact G4.keep hb hH1
        clear hK K hb
        (try simp only [Act.put, List.getElem_toArray, List.getElem_cons_succ, List.getElem_cons_zero, List.setIfInBounds_toArray, List.set_cons_zero, List.set_cons_succ])
        refine wpAnyH_take (i := 18) (v := ?fxv18) rfl (by kernel_rfl) (by kernel_rfl) (by kernel_rfl) (fun _ _ _ h => h) (Or.inl ⟨by rfl, ?fxy18⟩) (by assumption) ?fxr18
        case fxy18 =>
          intro wx hSw
          have hn := Q3.out
          clear hSw
          go_simp
          first | done | (with_reducible rfl)
        (try simp only [Act.put, List.getElem_toArray, List.getElem_cons_succ, List.getElem_cons_zero, List.setIfInBounds_toArray, List.set_cons_zero, List.set_cons_succ])
        refine wpAnyH_take (i := 19) (v := ?fxv19) rfl (by kernel_rfl) (by kernel_rfl) (by kernel_rfl) (fun _ _ _ h => h) (Or.inl ⟨by rfl, ?fxy19⟩) (by assumption) ?fxr19
        case fxy19 =>
          intro wx hSw
          clear hSw
          go_simp
          first | done | (with_reducible rfl)
        (try simp only [Act.put, List.getElem_toArray, List.getElem_cons_succ, List.getElem_cons_zero, List.setIfInBounds_toArray, List.set_cons_zero, List.set_cons_succ])
        refine wpAnyH_done (by kernel_rfl) ?_ _
        have HO := Lib.hid hH2
        clear hHeld hH1 hH2 HN
        go_wp2
        go_roundw
        case rel => exact ⟨k + 1, by omega, by go_num, HO.out.1, HO.out.2.1⟩
        case measure => simp [intOf]; omega
      · have C1 := Lib.hid (HPE.out k hkn)
        have C2 := Lib.hid (rinter_any (eqv V k) A)
        have C3 := Lib.hid (rhas_any A k hkn)
        have q1 := rng_in V lo hi k hkn
        rw [HA.out, hh] at q1
        have Q1 := Lib.hid (eql_is _ _ _ q1)
        rw [hh] at C3
        have hbt : btw V lo hi k = false := by rw [HA.out]; exact hh
        have q4 := rng_out V lo hi k hbt
        rw [HA.out] at q4
        have Q4 := Lib.hid (neq_zero _ q4)
        clear q4 hbt
        generalize (fun d => eqv V k d && A d) = Cm at C2 Q1 Q4
        generalize eqv V k = F at C1 C2 Q1
        clear q1 hh
        unfold cs cl at C1 C2 C3 Q1 Q4
        have hM := HG.out.1.2.1
        have HMa := Lib.hid hM
        have hl := HG.out.1.1
        unfold lcl at hl
        obtain ⟨⟨x0, x1, x2⟩, ⟨x3, x4, x5⟩, hf⟩ := hl.six
        clear hl hf
        obtain ⟨⟨u0, u1⟩, ⟨u2, u3⟩, u4⟩ := HG.out.2.words
        clear hM
        go_wp2_with (first
          | (go_at_call 14
             with_reducible refine (C1.out _ HMa.out).mono ?_
             rintro e w8 ⟨rfl, hb⟩
             have hb2 := hb.alloc hb.size (.cells #[.int .u64 ((wd F 0 64 : Nat) : Int), .int .u64 ((wd F 64 64 : Nat) : Int), .int .u64 ((wd F 128 64 : Nat) : Int), .int .u64 ((wd F 192 64 : Nat) : Int)] 38)
             have hG := GS.keep hb2 HG.out
             clear x0 x1 x2 x3 x4 x5 u0 u1 u2 u3 u4 HG HMa
             have HGa := Lib.hid hG
             have hf8 := At.new w8 F
             have HF := Lib.hid hf8
             obtain ⟨⟨u0, u1⟩, ⟨u2, u3⟩, u4⟩ := hG.2.words
             obtain ⟨⟨v0, v1⟩, ⟨v2, v3⟩, v4⟩ := hf8.words
             clear hG hf8
             clear hb hb2)
          | (go_at_call 17
             with_reducible refine (C2.out _).mono ?_
             rintro e w9 ⟨rfl, hb⟩
             have hb2 := hb.alloc hb.size (.cells #[.int .u64 ((wd Cm 0 64 : Nat) : Int), .int .u64 ((wd Cm 64 64 : Nat) : Int), .int .u64 ((wd Cm 128 64 : Nat) : Int), .int .u64 ((wd Cm 192 64 : Nat) : Int)] 38)
             have hG := GS.keep hb2 HGa.out
             have hF := HF.out.below hb2 HF.out.lt
             clear u0 u1 u2 u3 u4 v0 v1 v2 v3 v4 HGa HF
             have HH : Hid (G4 w L (.slice aw L.nw capw) (.slice ac L.nc capc) (.slice ae L.ne cape) w5.heap.size w8.heap.size w9.heap.size w9.heap.size A F Cm Cm (w9.alloc (.cells #[.int .u64 ((wd Cm 0 64 : Nat) : Int), .int .u64 ((wd Cm 64 64 : Nat) : Int), .int .u64 ((wd Cm 128 64 : Nat) : Int), .int .u64 ((wd Cm 192 64 : Nat) : Int)] 38))) := ⟨hG.1, hG.2, hF, At.new w9 Cm, At.new w9 Cm⟩
             clear hG hF
             clear hb hb2))
        refine wp_region_held_drew (S := fun w' => G4 w L (.slice aw L.nw capw) (.slice ac L.nc capc) (.slice ae L.ne cape) w5.heap.size w8.heap.size w9.heap.size w9.heap.size A F Cm Cm w') (by kernel_rfl) ?_ (fun hHeld => ?_)
        · exact HH.out.drew
        refine wpAnyH_take (i := 0) (v := ?ayv0) rfl (by kernel_rfl) (by kernel_rfl) (by kernel_rfl) (fun _ _ _ h => h) (Or.inl ⟨by rfl, ?ayy0⟩) (by assumption) ?ayr0
        case ayy0 =>
          intro wx hSw
          have hw := hSw.2.1.words
          obtain ⟨⟨z0, z1⟩, ⟨z2, z3⟩, z4⟩ := hw
          clear hSw
          go_simp
          first | done | (with_reducible rfl)
        (try simp only [Act.put, List.getElem_toArray, List.getElem_cons_zero, List.setIfInBounds_toArray, List.set_cons_zero, List.set_cons_succ])
        refine wpAnyH_take (i := 1) (v := ?ayv1) rfl (by kernel_rfl) (by kernel_rfl) (by kernel_rfl) (fun _ _ _ h => h) (Or.inl ⟨by rfl, ?ayy1⟩) (by assumption) ?ayr1
        case ayy1 =>
          intro wx hSw
          clear hSw
          go_simp
          first | done | (with_reducible rfl)
        (try simp only [Act.put, List.getElem_toArray, List.getElem_cons_succ, List.getElem_cons_zero, List.setIfInBounds_toArray, List.set_cons_zero, List.set_cons_succ])
        refine wpAnyH_take (i := 3) (v := ?ayv3) rfl (by kernel_rfl) (by kernel_rfl) (by kernel_rfl) (fun _ _ _ h => h) (Or.inl ⟨by rfl, ?ayy3⟩) (by assumption) ?ayr3
        case ayy3 =>
          intro wx hSw
          have hw := hSw.2.2.2.1.words
          obtain ⟨⟨z0, z1⟩, ⟨z2, z3⟩, z4⟩ := hw
          clear hSw
          go_simp
          first | done | (with_reducible rfl)
        (try simp only [Act.put, List.getElem_toArray, List.getElem_cons_succ, List.getElem_cons_zero, List.setIfInBounds_toArray, List.set_cons_zero, List.set_cons_succ])
        refine wpAnyH_take (i := 4) (v := ?ayv4) rfl (by kernel_rfl) (by kernel_rfl) (by kernel_rfl) (fun _ _ _ h => h) (Or.inl ⟨by rfl, ?ayy4⟩) (by assumption) ?ayr4
        case ayy4 =>
          intro wx hSw
          have hw := hSw.2.2.1.words
          obtain ⟨⟨z0, z1⟩, ⟨z2, z3⟩, z4⟩ := hw
          clear hSw
          go_simp
          first | done | (with_reducible rfl)
        (try simp only [Act.put, List.getElem_toArray, List.getElem_cons_succ, List.getElem_cons_zero, List.setIfInBounds_toArray, List.set_cons_zero, List.set_cons_succ])
        refine wpAnyH_take (i := 5) (v := ?ayv5) rfl (by kernel_rfl) (by kernel_rfl) (by kernel_rfl) (fun _ _ _ h => h) (Or.inl ⟨by rfl, ?ayy5⟩) (by assumption) ?ayr5
        case ayy5 =>
          intro wx hSw
          have hn := Q1.out
          clear hSw
          go_simp
          first | done | (with_reducible rfl)
        (try simp only [Act.put, List.getElem_toArray, List.getElem_cons_succ, List.getElem_cons_zero, List.setIfInBounds_toArray, List.set_cons_zero, List.set_cons_succ])
        refine wpAnyH_ready (rs := [2]) (by kernel_rfl) (by simp) ?_
        refine AllReadyH.cons rfl (fun K hK => ?_) AllReadyH.nil
        go_simp
        go_at_call 15
        refine (C3.out _).mono ?_
        rintro e w10 ⟨rfl, hb⟩
        refine hK.out _ _ ?_ (fun hH1 => ?_)
        · exact G4.keep hb hHeld
        clear hK K hb
        (try simp only [Act.put, List.getElem_toArray, List.getElem_cons_succ, List.getElem_cons_zero, List.setIfInBounds_toArray, List.set_cons_zero, List.set_cons_succ])
        refine wpAnyH_take (i := 6) (v := ?byv6) rfl (by kernel_rfl) (by kernel_rfl) (by kernel_rfl) (fun _ _ _ h => h) (Or.inl ⟨by rfl, ?byy6⟩) (by assumption) ?byr6
        case byy6 =>
          intro wx hSw
          clear hSw
          go_simp
          first | done | (with_reducible rfl)
        (try simp only [Act.put, List.getElem_toArray, List.getElem_cons_succ, List.getElem_cons_zero, List.setIfInBounds_toArray, List.set_cons_zero, List.set_cons_succ])
        refine wpAnyH_take (i := 7) (v := ?byv7) rfl (by kernel_rfl) (by kernel_rfl) (by kernel_rfl) (fun _ _ _ h => h) (Or.inl ⟨by rfl, ?byy7⟩) (by assumption) ?byr7
        case byy7 =>
          intro wx hSw
          clear hSw
          go_simp
          first | done | (with_reducible rfl)
        (try simp only [Act.put, List.getElem_toArray, List.getElem_cons_succ, List.getElem_cons_zero, List.setIfInBounds_toArray, List.set_cons_zero, List.set_cons_succ])
        refine wpAnyH_take (i := 8) (v := ?byv8) rfl (by kernel_rfl) (by kernel_rfl) (by kernel_rfl) (fun _ _ _ h => h) (Or.inl ⟨by rfl, ?byy8⟩) (by assumption) ?byr8
        case byy8 =>
          intro wx hSw
          have hw := hSw.2.1.words
          obtain ⟨⟨z0, z1⟩, ⟨z2, z3⟩, z4⟩ := hw
          clear hSw
          go_simp
          first | done | (with_reducible rfl)
        (try simp only [Act.put, List.getElem_toArray, List.getElem_cons_succ, List.getElem_cons_zero, List.setIfInBounds_toArray, List.set_cons_zero, List.set_cons_succ])
        refine wpAnyH_take (i := 9) (v := ?byv9) rfl (by kernel_rfl) (by kernel_rfl) (by kernel_rfl) (fun _ _ _ h => h) (Or.inl ⟨by rfl, ?byy9⟩) (by assumption) ?byr9
        case byy9 =>
          intro wx hSw
          clear hSw
          go_simp
          first | done | (with_reducible rfl)
        (try simp only [Act.put, List.getElem_toArray, List.getElem_cons_succ, List.getElem_cons_zero, List.setIfInBounds_toArray, List.set_cons_zero, List.set_cons_succ])
        refine wpAnyH_ready (rs := [10]) (by kernel_rfl) (by simp) ?_
        refine AllReadyH.cons rfl (fun K hK => ?_) AllReadyH.nil
        go_simp
        go_at_call 15
        refine (C3.out _).mono ?_
        rintro e w11 ⟨rfl, hb⟩
        refine hK.out _ _ ?_ (fun hH2 => ?_)
        · exact G4.keep hb hH1
        clear hK K hb
        (try simp only [Act.put, List.getElem_toArray, List.getElem_cons_succ, List.getElem_cons_zero, List.setIfInBounds_toArray, List.set_cons_zero, List.set_cons_succ])
        refine wpAnyH_take (i := 11) (v := ?cyv11) rfl (by kernel_rfl) (by kernel_rfl) (by kernel_rfl) (fun _ _ _ h => h) (Or.inl ⟨by rfl, ?cyy11⟩) (by assumption) ?cyr11
        case cyy11 =>
          intro wx hSw
          clear hSw
          go_simp
          first | done | (with_reducible rfl)
        (try simp only [Act.put, List.getElem_toArray, List.getElem_cons_succ, List.getElem_cons_zero, List.setIfInBounds_toArray, List.set_cons_zero, List.set_cons_succ])
        refine wpAnyH_take (i := 12) (v := ?cyv12) rfl (by kernel_rfl) (by kernel_rfl) (by kernel_rfl) (fun _ _ _ h => h) (Or.inl ⟨by rfl, ?cyy12⟩) (by assumption) ?cyr12
        case cyy12 =>
          intro wx hSw
          clear hSw
          go_simp
          first | done | (with_reducible rfl)
        (try simp only [Act.put, List.getElem_toArray, List.getElem_cons_succ, List.getElem_cons_zero, List.setIfInBounds_toArray, List.set_cons_zero, List.set_cons_succ])
        refine wpAnyH_take (i := 13) (v := ?syv13) rfl (by kernel_rfl) (by kernel_rfl) (by kernel_rfl) (fun _ _ _ h => h) (Or.inl ⟨by rfl, ?syy13⟩) (by assumption) ?syr13
        case syy13 =>
          intro wx hSw
          have hw := hSw.2.2.2.1.words
          obtain ⟨⟨z0, z1⟩, ⟨z2, z3⟩, z4⟩ := hw
          clear hSw
          go_simp
          first | done | (with_reducible rfl)
        (try simp only [Act.put, List.getElem_toArray, List.getElem_cons_succ, List.getElem_cons_zero, List.setIfInBounds_toArray, List.set_cons_zero, List.set_cons_succ])
        refine wpAnyH_take (i := 14) (v := ?syv14) rfl (by kernel_rfl) (by kernel_rfl) (by kernel_rfl) (fun _ _ _ h => h) (Or.inl ⟨by rfl, ?syy14⟩) (by assumption) ?syr14
        case syy14 =>
          intro wx hSw
          clear hSw
          go_simp
          first | done | (with_reducible rfl)
        (try simp only [Act.put, List.getElem_toArray, List.getElem_cons_succ, List.getElem_cons_zero, List.setIfInBounds_toArray, List.set_cons_zero, List.set_cons_succ])
        refine wpAnyH_take (i := 15) (v := ?syv15) rfl (by kernel_rfl) (by kernel_rfl) (by kernel_rfl) (fun _ _ _ h => h) (Or.inl ⟨by rfl, ?syy15⟩) (by assumption) ?syr15
        case syy15 =>
          intro wx hSw
          have hn := Q4.out
          clear hSw
          go_simp
          first | done | (with_reducible rfl)
        (try simp only [Act.put, List.getElem_toArray, List.getElem_cons_succ, List.getElem_cons_zero, List.setIfInBounds_toArray, List.set_cons_zero, List.set_cons_succ])
        refine wpAnyH_take (i := 16) (v := ?gyv16) rfl (by kernel_rfl) (by kernel_rfl) (by kernel_rfl) (fun _ _ _ h => h) (Or.inl ⟨by rfl, ?gyy16⟩) (by assumption) ?gyr16
        case gyy16 =>
          intro wx hSw
          clear hSw
          go_simp
          first | done | (with_reducible rfl)
        (try simp only [Act.put, List.getElem_toArray, List.getElem_cons_succ, List.getElem_cons_zero, List.setIfInBounds_toArray, List.set_cons_zero, List.set_cons_succ])
        refine wpAnyH_take (i := 17) (v := ?gyv17) rfl (by kernel_rfl) (by kernel_rfl) (by kernel_rfl) (fun _ _ _ h => h) (Or.inl ⟨by rfl, ?gyy17⟩) (by assumption) ?gyr17
        case gyy17 =>
          intro wx hSw
          clear hSw
          go_simp
          first | done | (with_reducible rfl)
        (try simp only [Act.put, List.getElem_toArray, List.getElem_cons_succ, List.getElem_cons_zero, List.setIfInBounds_toArray, List.set_cons_zero, List.set_cons_succ])
        refine wpAnyH_done (by kernel_rfl) ?_ _
        have HJ := Lib.hid hH2
        clear hHeld hH1 hH2 HH
        have hl := HJ.out.1.1
        unfold lcl at hl
        obtain ⟨⟨x0, x1, x2⟩, ⟨x3, x4, x5⟩, hf⟩ := hl.six
        clear hl hf
        obtain ⟨⟨u0, u1⟩, ⟨u2, u3⟩, u4⟩ := HJ.out.2.1.words
        go_wp2_with (first
          | (go_at_call 15
             with_reducible refine (C3.out _).mono ?_
             rintro e w12 ⟨rfl, hb⟩
             have hJ := G4.keep hb HJ.out
             clear x0 x1 x2 x3 x4 x5 u0 u1 u2 u3 u4 HJ
             have HK := Lib.hid hJ
             have HMb := Lib.hid hJ.1.2.1
             have hl := hJ.1.1
             unfold lcl at hl
             obtain ⟨⟨x0, x1, x2⟩, ⟨x3, x4, x5⟩, hf⟩ := hl.six
             clear hl hf
             clear hb hJ))
        go_roundw
        case rel => exact ⟨k + 1, by omega, by go_num, HK.out.1, HK.out.2.1⟩
        case measure => simp [intOf]; omega
    · obtain rfl : k = 256 := by omega
      have HBz := Lib.hid HG.out.1.2.2
      go_wp2_with (go_at_call 13; refine (HAw.out _ (HTk.out _ HBz.out)).mono ?_; rintro e w9 ⟨rfl, hb⟩; have HBe := Lib.hid (HBz.out.trans (hb.mono HBz.out.size)); clear hb)
      go_ret
      exact ⟨rfl, HBe.out⟩

theorem ranges_law (L : Loc) (W C E : Value) (lo hi : Nat) (hlo : lo < 256) (hhi : hi < 256) (w : World) (hT : ltabAt w) (hM : LocM w L W C E) :
    Calls Tryd.prog 4 #[.agg (lcl L W C E), .int .u8 (lo : Int), .int .u8 (hi : Int)] w fun e w' => e = .returned (.bool true) ∧ Below w.heap.size w w' := by
  by_cases hc : (vld L).wt lo ≤ (vld L).wt hi
  · exact ranges_yes L W C E lo hi hlo hhi hc w hT hM
  · exact ranges_no L W C E lo hi hlo hhi (by omega) w hT hM
end Go.Proofs.YtblaldcioneooaaDoor
