/- The reference's Equivalent and Between. (Written by gen_lrsets.py.) -/
import Derived.Test.YtoijbjndafcedaaDoorRows
import Derived.Test.YtoijbjndafcedaaDoorLrSplit
set_option linter.unusedVariables false
namespace Go.Proofs.YtoijbjndafcedaaDoor
open Go.RowKit

theorem SL.setf {k n g : Nat} {f : Nat → Nat → Value} {w : World} {sv : Value} (h : SL k n f w sv) (hA : AtAny w g) (i0 : Nat) (hi0 : i0 < k) (hv : ∀ n', f 0 i0 ≠ .int .u64 n') (c : Array Value) : SL k n f (w.setRow g c) sv := by
  obtain ⟨r, hA⟩ := hA
  obtain ⟨a, cap, e, hc, h⟩ := h
  refine ⟨a, cap, e, hc, ?_⟩
  by_cases hn : n = 0
  · exact .inl hn
  rcases h with h | ⟨b, off, ha, hlt, h⟩
  · exact .inl h
  · have hb : b ≠ g := at_ne hA (h 0 i0 (by omega) hi0) hv
    refine .inr ⟨b, off, ha, by rw [size_setRow]; exact hlt, fun j i hj hi => ?_⟩
    rw [World.cell?_of_block (w := w) (a := ⟨b, off + j * k + i, none⟩) (setRow_other w g b c hb)]
    exact h j i hj hi
/-- The locale in its block, and a set that is to be written. -/
def RQ (w0 : World) (g : Nat) (V : Loc) (W C E : Value) (w : World) : Prop := RS w0 V W C E w ∧ AtAny w g
theorem RQ.drew {w0 w : World} {g : Nat} {V : Loc} {W C E : Value} (h : RQ w0 g V W C E w) : RQ w0 g V W C E w.drew := ⟨h.1.drew, h.2⟩
theorem RQ.keep {w0 w w' : World} {g : Nat} {V : Loc} {W C E : Value} (hb : Below w.heap.size w w') (h : RQ w0 g V W C E w) : RQ w0 g V W C E w' := ⟨RS.keep hb h.1, h.2.below hb⟩
theorem RQ.set {w0 w : World} {g : Nat} {V : Loc} {W C E : Value} (hg : w0.heap.size < g) (h : RQ w0 g V W C E w) (q : Nat → Bool) : RQ w0 g V W C E (w.setRow g (cl q)) := by
  have h2 := h.2
  obtain ⟨r, hr⟩ := h2
  refine ⟨⟨(setRow_other w g w0.heap.size _ (by omega)).trans h.1.1, ⟨?_, ?_, ?_⟩, below_setRow h.1.2.2 (by omega) _⟩, ⟨q, hr.set q⟩⟩
  · exact SL.setf h.1.2.1.1 h.2 0 (by decide) (fun n' e => by cases e) _
  · exact SL.setf h.1.2.1.2.1 h.2 0 (by decide) (fun n' e => by cases e) _
  · exact SL.setf h.1.2.1.2.2 h.2 0 (by decide) (fun n' e => by cases e) _
theorem RS.wt {w0 w : World} {V : Loc} {b o m cap c : Nat} {C E : Value} (h : RS w0 V (.slice (some ⟨b, o, none⟩) m cap) C E w) (hc : c < V.nw) : w.cell? ⟨b, o + c, none⟩ = some (.int .i64 (V.wt c)) := by
  obtain ⟨a, cap', e, _, h⟩ := h.2.1.1
  rcases h with h | ⟨b', o', ha, _, h⟩
  · omega
  simp only [Value.slice.injEq] at e
  obtain ⟨rfl, -, -⟩ := e
  simp only [Option.some.injEq, Addr.mk.injEq] at ha
  obtain ⟨rfl, rfl, -⟩ := ha
  have := h c 0 hc (by decide)
  simpa [wtF] using this

set_option maxRecDepth 100000 in
set_option maxHeartbeats 8000000 in
theorem rEquiv_any (L : Loc) (W C E : Value) (c : Nat) (hc : c < 256) (w : World) (hM : LocM w L W C E) :
    Calls Tryd.prog 28 #[.agg (lcl L W C E), .int .u8 c] w fun e w' => e = .returned (cs (eqv (vld L) c)) ∧ Below w.heap.size w w' := by
  have HB : Hid (Below w.heap.size w ((w.alloc (.cells (lcl L W C E) 26)).alloc (.cells #[.int .u64 0, .int .u64 0, .int .u64 0, .int .u64 0] 43))) := ((Below.refl _ _).alloc (Nat.le_refl _) _).alloc (by simp) _
  have HA : Hid (LAt ((w.alloc (.cells (lcl L W C E) 26)).alloc (.cells #[.int .u64 0, .int .u64 0, .int .u64 0, .int .u64 0] 43)) w.heap.size (lcl L W C E)) := by
    show LAt _ _ _
    unfold LAt
    rw [Below.heap_alloc _ _ _ (by simp)]
    exact heap_alloc_new w _
  have HZ : Hid (At ((w.alloc (.cells (lcl L W C E) 26)).alloc (.cells #[.int .u64 0, .int .u64 0, .int .u64 0, .int .u64 0] 43)) (w.heap.size + 1) (fun _ => false)) := by
    show At _ _ _
    rw [cl_zero]
    have := At.new (w.alloc (.cells (lcl L W C E) 26)) (fun _ => false)
    simpa using this
  have HU := Lib.hid (valid_any L W C E _ (hM.below HB.out))
  have HV := Lib.hid (ok_vld L)
  generalize vld L = V at *
  have HWg := Lib.hid (fun (W C E : Value) wx hm => heavy_any V HV.out W C E (V.wt c) (V.wt c) wx hm)
  unfold eqv
  generalize hvy V.wt (V.wt c) (V.wt c) = P at HWg ⊢
  have ci : (c : Int) < 256 := by omega
  have ci0 : (0 : Int) ≤ c := by omega
  obtain ⟨⟨aw, capw, rfl, _⟩, ⟨ac, capc, rfl, _⟩, ⟨ae, cape, rfl, _⟩⟩ := hM
  unfold lcl at HB HA HU HZ ⊢
  unfold cs lcl at HWg
  unfold cs
  go_enter Tryd.func28, Tryd.ntmps28
  go_wp2_with (first
    | (go_at_call 50
       refine HU.out.mono ?_
       rintro e w1 ⟨W1, C1, E1, rfl, hm, hb⟩
       have l1 := HA.out.under hb HA.out.lt
       have z1 := HZ.out.below hb HZ.out.lt
       have HRp := Lib.hid (RS.start l1 hm (HB.out.trans (hb.mono HB.out.size)))
       have HZp := Lib.hid z1
       obtain ⟨⟨aw1, capw1, rfl, _⟩, ⟨ac1, capc1, rfl, _⟩, ⟨ae1, cape1, rfl, _⟩⟩ := hm
       obtain ⟨⟨y0, y1, y2⟩, ⟨y3, y4, y5⟩, hg⟩ := l1.six
       clear l1 z1 hb))
  clear y0 y1 y2 y3 y4 y5 hg HU
  generalize hS : (((((w1.setCell _ _).setCell _ _).setCell _ _).setCell _ _).setCell _ _).setCell _ _ = wS
  have hP : PW w1 w.heap.size V (.slice aw1 V.nw capw1) (.slice ac1 V.nc capc1) (.slice ae1 V.ne cape1) = wS := hS
  have HR : Hid (RS w V (.slice aw1 V.nw capw1) (.slice ac1 V.nc capc1) (.slice ae1 V.ne cape1) wS) := by
    show RS w V _ _ _ wS
    rw [← hP]
    exact HRp.out
  have HZ1 : Hid (At wS (w.heap.size + 1) (fun _ => false)) := by
    show At _ _ _
    rw [← hP]
    exact (put6_far w1 w.heap.size (w.heap.size + 1) (by omega) _ _ _ _ _ _).trans HZp.out
  clear hS hP HRp HZp HA HB HZ
  have hsw := HR.out.2.1.1
  obtain ⟨aw2, capw2, ew, _, hwc⟩ := hsw
  rw [HV.out.nw] at hwc
  rcases hwc with hwc | ⟨bw, ow, rfl, hwl, hwc⟩
  · omega
  simp only [Value.slice.injEq] at ew
  obtain ⟨rfl, -, rfl⟩ := ew
  clear hwl hwc
  have hnwi : (V.nw : Int) = 256 := by rw [HV.out.nw]; rfl
  have cw : (c : Int) < V.nw := by rw [hnwi]; exact ci
  have Hc : Hid (c < V.nw) := by show c < V.nw; rw [HV.out.nw]; exact hc
  generalize hX : V.wt c = X at HWg
  have HX := Lib.hid hX
  have HS0 : Hid (RQ w (w.heap.size + 1) V (.slice (some ⟨bw, ow, none⟩) V.nw capw1) (.slice ac1 V.nc capc1) (.slice ae1 V.ne cape1) wS) := ⟨HR.out, ⟨_, HZ1.out⟩⟩
  clear hnwi hc HR HZ1 hX
  refine wp_region_held_drew (S := fun w' => RQ w (w.heap.size + 1) V (.slice (some ⟨bw, ow, none⟩) V.nw capw1) (.slice ac1 V.nc capc1) (.slice ae1 V.ne cape1) w') (by kernel_rfl) ?_ (fun hHeld => ?_)
  · exact HS0.out.drew
  refine wpAnyH_take (i := 0) (v := ?av0) rfl (by kernel_rfl) (by kernel_rfl) (by kernel_rfl) (fun _ _ _ h => h) (Or.inl ⟨by rfl, ?ay0⟩) (by assumption) ?ar0
  case ay0 =>
    intro wx hSw
    have hl := hSw.1.1
    unfold lcl at hl
    obtain ⟨⟨x0, x1, x2⟩, ⟨x3, x4, x5⟩, hf⟩ := hl.six
    clear hl hf
    clear hSw
    go_simp
    first | done | (with_reducible rfl)
  (try simp only [Act.put, List.getElem_toArray, List.getElem_cons_zero, List.setIfInBounds_toArray, List.set_cons_zero, List.set_cons_succ])
  refine wpAnyH_take (i := 1) (v := ?av1) rfl (by kernel_rfl) (by kernel_rfl) (by kernel_rfl) (fun _ _ _ h => h) (Or.inl ⟨by rfl, ?ay1⟩) (by assumption) ?ar1
  case ay1 =>
    intro wx hSw
    clear hSw
    go_simp
    first | done | (with_reducible rfl)
  (try simp only [Act.put, List.getElem_toArray, List.getElem_cons_succ, List.getElem_cons_zero, List.setIfInBounds_toArray, List.set_cons_zero, List.set_cons_succ])
  refine wpAnyH_take (i := 2) (v := ?av2) rfl (by kernel_rfl) (by kernel_rfl) (by kernel_rfl) (fun _ _ _ h => h) (Or.inl ⟨by rfl, ?ay2⟩) (by assumption) ?ar2
  case ay2 =>
    intro wx hSw
    have hl := hSw.1.1
    unfold lcl at hl
    obtain ⟨⟨x0, x1, x2⟩, ⟨x3, x4, x5⟩, hf⟩ := hl.six
    clear hl hf
    clear hSw
    go_simp
    first | done | (with_reducible rfl)
  (try simp only [Act.put, List.getElem_toArray, List.getElem_cons_succ, List.getElem_cons_zero, List.setIfInBounds_toArray, List.set_cons_zero, List.set_cons_succ])
  refine wpAnyH_take (i := 3) (v := ?av3) rfl (by kernel_rfl) (by kernel_rfl) (by kernel_rfl) (fun _ _ _ h => h) (Or.inl ⟨by rfl, ?ay3⟩) (by assumption) ?ar3
  case ay3 =>
    intro wx hSw
    clear hSw
    go_simp
    first | done | (with_reducible rfl)
  (try simp only [Act.put, List.getElem_toArray, List.getElem_cons_succ, List.getElem_cons_zero, List.setIfInBounds_toArray, List.set_cons_zero, List.set_cons_succ])
  refine wpAnyH_take (i := 4) (v := ?av4) rfl (by kernel_rfl) (by kernel_rfl) (by kernel_rfl) (fun _ _ _ h => h) (Or.inl ⟨by rfl, ?ay4⟩) (by assumption) ?ar4
  case ay4 =>
    intro wx hSw
    clear hSw
    go_simp
    first | done | (with_reducible rfl)
  (try simp only [Act.put, List.getElem_toArray, List.getElem_cons_succ, List.getElem_cons_zero, List.setIfInBounds_toArray, List.set_cons_zero, List.set_cons_succ])
  refine wpAnyH_take (i := 5) (v := ?av5) rfl (by kernel_rfl) (by kernel_rfl) (by kernel_rfl) (fun _ _ _ h => h) (Or.inl ⟨by rfl, ?ay5⟩) (by assumption) ?ar5
  case ay5 =>
    intro wx hSw
    have hcell := HX.out ▸ RS.wt hSw.1 Hc.out
    clear hSw
    go_simp
    first | done | (with_reducible rfl)
  (try simp only [Act.put, List.getElem_toArray, List.getElem_cons_succ, List.getElem_cons_zero, List.setIfInBounds_toArray, List.set_cons_zero, List.set_cons_succ])
  refine wpAnyH_take (i := 6) (v := ?av6) rfl (by kernel_rfl) (by kernel_rfl) (by kernel_rfl) (fun _ _ _ h => h) (Or.inl ⟨by rfl, ?ay6⟩) (by assumption) ?ar6
  case ay6 =>
    intro wx hSw
    clear hSw
    go_simp
    first | done | (with_reducible rfl)
  (try simp only [Act.put, List.getElem_toArray, List.getElem_cons_succ, List.getElem_cons_zero, List.setIfInBounds_toArray, List.set_cons_zero, List.set_cons_succ])
  refine wpAnyH_take (i := 7) (v := ?av7) rfl (by kernel_rfl) (by kernel_rfl) (by kernel_rfl) (fun _ _ _ h => h) (Or.inl ⟨by rfl, ?ay7⟩) (by assumption) ?ar7
  case ay7 =>
    intro wx hSw
    have hl := hSw.1.1
    unfold lcl at hl
    obtain ⟨⟨x0, x1, x2⟩, ⟨x3, x4, x5⟩, hf⟩ := hl.six
    clear hl hf
    clear hSw
    go_simp
    first | done | (with_reducible rfl)
  (try simp only [Act.put, List.getElem_toArray, List.getElem_cons_succ, List.getElem_cons_zero, List.setIfInBounds_toArray, List.set_cons_zero, List.set_cons_succ])
  refine wpAnyH_take (i := 8) (v := ?av8) rfl (by kernel_rfl) (by kernel_rfl) (by kernel_rfl) (fun _ _ _ h => h) (Or.inl ⟨by rfl, ?ay8⟩) (by assumption) ?ar8
  case ay8 =>
    intro wx hSw
    clear hSw
    go_simp
    first | done | (with_reducible rfl)
  (try simp only [Act.put, List.getElem_toArray, List.getElem_cons_succ, List.getElem_cons_zero, List.setIfInBounds_toArray, List.set_cons_zero, List.set_cons_succ])
  refine wpAnyH_take (i := 9) (v := ?av9) rfl (by kernel_rfl) (by kernel_rfl) (by kernel_rfl) (fun _ _ _ h => h) (Or.inl ⟨by rfl, ?ay9⟩) (by assumption) ?ar9
  case ay9 =>
    intro wx hSw
    clear hSw
    go_simp
    first | done | (with_reducible rfl)
  (try simp only [Act.put, List.getElem_toArray, List.getElem_cons_succ, List.getElem_cons_zero, List.setIfInBounds_toArray, List.set_cons_zero, List.set_cons_succ])
  refine wpAnyH_take (i := 10) (v := ?av10) rfl (by kernel_rfl) (by kernel_rfl) (by kernel_rfl) (fun _ _ _ h => h) (Or.inl ⟨by rfl, ?ay10⟩) (by assumption) ?ar10
  case ay10 =>
    intro wx hSw
    have hcell := HX.out ▸ RS.wt hSw.1 Hc.out
    clear hSw
    go_simp
    first | done | (with_reducible rfl)
  (try simp only [Act.put, List.getElem_toArray, List.getElem_cons_succ, List.getElem_cons_zero, List.setIfInBounds_toArray, List.set_cons_zero, List.set_cons_succ])
  refine wpAnyH_ready (rs := [11]) (by kernel_rfl) (by simp) ?_
  refine AllReadyH.cons rfl (fun K hK => ?_) AllReadyH.nil
  go_simp
  go_at_call 61
  refine (HWg.out _ _ _ _ hHeld.1.2.1).mono ?_
  rintro e w2 ⟨rfl, hb⟩
  refine hK.out _ _ ?_ (fun hHeld1 => ?_)
  · exact RQ.keep hb hHeld
  clear hK K hb
  (try simp only [Act.put, List.getElem_toArray, List.getElem_cons_succ, List.getElem_cons_zero, List.setIfInBounds_toArray, List.set_cons_zero, List.set_cons_succ])
  have hAny := hHeld1.2
  obtain ⟨r, hr⟩ := hAny
  refine wpAnyH_ready (rs := [12]) (by kernel_rfl) (by simp) ?_
  refine AllReadyH.cons rfl (fun K hK => ?_) AllReadyH.nil
  rw [if_pos (by rfl)]
  refine wp_store_row 43 _ _ rfl (w.heap.size + 1) (cl P) rfl rfl 43 _ hr info_cs rfl (cl_one P) ?_
  refine hK.out _ _ ?_ (fun hHeld2 => ?_)
  · exact RQ.set (Nat.lt_succ_self _) hHeld1 P
  clear hK K
  (try simp only [Act.put, List.getElem_toArray, List.getElem_cons_succ, List.getElem_cons_zero])
  refine wpAnyH_done (by kernel_rfl) ?_ _
  have HRR := Lib.hid (And.intro (hr.set P) hHeld2.1.2.2)
  clear hHeld hHeld1 hHeld2 hr
  go_wp2
  exact bodyPost_ret (v := cs P) (ret_cs (q := P) Tryd.results28 _ _ (w.heap.size + 1) (by simp) HRR.out.1) rfl ⟨rfl, HRR.out.2⟩

set_option maxRecDepth 100000 in
set_option maxHeartbeats 8000000 in
theorem rBetween_any (L : Loc) (W C E : Value) (lo hi : Nat) (hlo : lo < 256) (hhi : hi < 256) (w : World) (hM : LocM w L W C E) :
    Calls Tryd.prog 26 #[.agg (lcl L W C E), .int .u8 lo, .int .u8 hi] w fun e w' => e = .returned (if (vld L).wt lo ≤ (vld L).wt hi then .tuple #[cs (btw (vld L) lo hi), .bool true] else .tuple #[cs fun _ => false, .bool false]) ∧ Below w.heap.size w w' := by
  have HB : Hid (Below w.heap.size w ((w.alloc (.cells (lcl L W C E) 26)).alloc (.cells #[.int .u64 0, .int .u64 0, .int .u64 0, .int .u64 0] 43))) := ((Below.refl _ _).alloc (Nat.le_refl _) _).alloc (by simp) _
  have HA : Hid (LAt ((w.alloc (.cells (lcl L W C E) 26)).alloc (.cells #[.int .u64 0, .int .u64 0, .int .u64 0, .int .u64 0] 43)) w.heap.size (lcl L W C E)) := by
    show LAt _ _ _
    unfold LAt
    rw [Below.heap_alloc _ _ _ (by simp)]
    exact heap_alloc_new w _
  have HZ : Hid (At ((w.alloc (.cells (lcl L W C E) 26)).alloc (.cells #[.int .u64 0, .int .u64 0, .int .u64 0, .int .u64 0] 43)) (w.heap.size + 1) (fun _ => false)) := by
    show At _ _ _
    rw [cl_zero]
    have := At.new (w.alloc (.cells (lcl L W C E) 26)) (fun _ => false)
    simpa using this
  have HU := Lib.hid (valid_any L W C E _ (hM.below HB.out))
  have HV := Lib.hid (ok_vld L)
  generalize vld L = V at *
  have HWg := Lib.hid (fun (W C E : Value) wx hm => heavy_any V HV.out W C E (V.wt lo) (V.wt hi) wx hm)
  unfold btw
  generalize hvy V.wt (V.wt lo) (V.wt hi) = P at HWg ⊢
  obtain ⟨X, hX⟩ : ∃ X, V.wt lo = X := ⟨_, rfl⟩
  obtain ⟨Y, hY⟩ : ∃ Y, V.wt hi = Y := ⟨_, rfl⟩
  rw [hX, hY] at HWg ⊢
  have HX := Lib.hid hX
  have HY := Lib.hid hY
  have ci : (lo : Int) < 256 := by omega
  have ci0 : (0 : Int) ≤ lo := by omega
  have di : (hi : Int) < 256 := by omega
  have di0 : (0 : Int) ≤ hi := by omega
  clear hX hY
  obtain ⟨⟨aw, capw, rfl, _⟩, ⟨ac, capc, rfl, _⟩, ⟨ae, cape, rfl, _⟩⟩ := hM
  unfold lcl at HB HA HU HZ ⊢
  unfold cs lcl at HWg
  unfold cs
  by_cases hle : X ≤ Y
  · have hn : ¬ Y < X := by omega
    rw [if_pos hle]
    clear hle
    go_enter Tryd.func26, Tryd.ntmps26
    go_wp2_with (first
      | (go_at_call 50
         refine HU.out.mono ?_
         rintro e w1 ⟨W1, C1, E1, rfl, hm, hb⟩
         have l1 := HA.out.under hb HA.out.lt
         have z1 := HZ.out.below hb HZ.out.lt
         have HRp := Lib.hid (RS.start l1 hm (HB.out.trans (hb.mono HB.out.size)))
         have HZp := Lib.hid z1
         obtain ⟨⟨aw1, capw1, rfl, _⟩, ⟨ac1, capc1, rfl, _⟩, ⟨ae1, cape1, rfl, _⟩⟩ := hm
         obtain ⟨⟨y0, y1, y2⟩, ⟨y3, y4, y5⟩, hg⟩ := l1.six
         clear l1 z1 hb))
    clear y0 y1 y2 y3 y4 y5 hg HU
    generalize hS : (((((w1.setCell _ _).setCell _ _).setCell _ _).setCell _ _).setCell _ _).setCell _ _ = wS
    have hP : PW w1 w.heap.size V (.slice aw1 V.nw capw1) (.slice ac1 V.nc capc1) (.slice ae1 V.ne cape1) = wS := hS
    have HR : Hid (RS w V (.slice aw1 V.nw capw1) (.slice ac1 V.nc capc1) (.slice ae1 V.ne cape1) wS) := by
      show RS w V _ _ _ wS
      rw [← hP]
      exact HRp.out
    have HZ1 : Hid (At wS (w.heap.size + 1) (fun _ => false)) := by
      show At _ _ _
      rw [← hP]
      exact (put6_far w1 w.heap.size (w.heap.size + 1) (by omega) _ _ _ _ _ _).trans HZp.out
    clear hS hP HRp HZp HA HB HZ
    have hsw := HR.out.2.1.1
    obtain ⟨aw2, capw2, ew, _, hwc⟩ := hsw
    rw [HV.out.nw] at hwc
    rcases hwc with hwc | ⟨bw, ow, rfl, hwl, hwc⟩
    · omega
    simp only [Value.slice.injEq] at ew
    obtain ⟨rfl, -, rfl⟩ := ew
    clear hwl hwc
    have hnwi : (V.nw : Int) = 256 := by rw [HV.out.nw]; rfl
    have cw : (lo : Int) < V.nw := by rw [hnwi]; exact ci
    have dw : (hi : Int) < V.nw := by rw [hnwi]; exact di
    have Hlo : Hid (lo < V.nw) := by show lo < V.nw; rw [HV.out.nw]; exact hlo
    have Hhi : Hid (hi < V.nw) := by show hi < V.nw; rw [HV.out.nw]; exact hhi
    have k1 := HX.out ▸ RS.wt HR.out Hlo.out
    have k2 := HY.out ▸ RS.wt HR.out Hhi.out
    have hl := HR.out.1
    unfold lcl at hl
    obtain ⟨⟨l0, l1, l2⟩, ⟨l3, l4, l5⟩, hlf⟩ := hl.six
    clear hnwi l0 l2 l3 l4 l5 hlf hl
    have HS0 : Hid (RQ w (w.heap.size + 1) V (.slice (some ⟨bw, ow, none⟩) V.nw capw1) (.slice ac1 V.nc capc1) (.slice ae1 V.ne cape1) wS) := ⟨HR.out, ⟨_, HZ1.out⟩⟩
    clear HZ1
    go_quiet (fail)
    go_wp2
    have HS1 : Hid (RQ w (w.heap.size + 1) V (.slice (some ⟨bw, ow, none⟩) V.nw capw1) (.slice ac1 V.nc capc1) (.slice ae1 V.ne cape1) (wS.drewN nq)) := RQ.keep (below_drewN (Below.refl _ _) _) HS0.out
    clear HS0 k1 k2 l1 HR
    refine wp_region_held_drew (S := fun w' => RQ w (w.heap.size + 1) V (.slice (some ⟨bw, ow, none⟩) V.nw capw1) (.slice ac1 V.nc capc1) (.slice ae1 V.ne cape1) w') (by kernel_rfl) ?_ (fun hHeld => ?_)
    · exact HS1.out.drew
    refine wpAnyH_take (i := 0) (v := ?bv0) rfl (by kernel_rfl) (by kernel_rfl) (by kernel_rfl) (fun _ _ _ h => h) (Or.inl ⟨by rfl, ?by0⟩) (by assumption) ?br0
    case by0 =>
      intro wx hSw
      have hl := hSw.1.1
      unfold lcl at hl
      obtain ⟨⟨x0, x1, x2⟩, ⟨x3, x4, x5⟩, hf⟩ := hl.six
      clear hl hf
      clear hSw
      go_simp
      first | done | (with_reducible rfl)
    (try simp only [Act.put, List.getElem_toArray, List.getElem_cons_zero, List.setIfInBounds_toArray, List.set_cons_zero, List.set_cons_succ])
    refine wpAnyH_take (i := 1) (v := ?bv1) rfl (by kernel_rfl) (by kernel_rfl) (by kernel_rfl) (fun _ _ _ h => h) (Or.inl ⟨by rfl, ?by1⟩) (by assumption) ?br1
    case by1 =>
      intro wx hSw
      clear hSw
      go_simp
      first | done | (with_reducible rfl)
    (try simp only [Act.put, List.getElem_toArray, List.getElem_cons_succ, List.getElem_cons_zero, List.setIfInBounds_toArray, List.set_cons_zero, List.set_cons_succ])
    refine wpAnyH_take (i := 2) (v := ?bv2) rfl (by kernel_rfl) (by kernel_rfl) (by kernel_rfl) (fun _ _ _ h => h) (Or.inl ⟨by rfl, ?by2⟩) (by assumption) ?br2
    case by2 =>
      intro wx hSw
      have hl := hSw.1.1
      unfold lcl at hl
      obtain ⟨⟨x0, x1, x2⟩, ⟨x3, x4, x5⟩, hf⟩ := hl.six
      clear hl hf
      clear hSw
      go_simp
      first | done | (with_reducible rfl)
    (try simp only [Act.put, List.getElem_toArray, List.getElem_cons_succ, List.getElem_cons_zero, List.setIfInBounds_toArray, List.set_cons_zero, List.set_cons_succ])
    refine wpAnyH_take (i := 3) (v := ?bv3) rfl (by kernel_rfl) (by kernel_rfl) (by kernel_rfl) (fun _ _ _ h => h) (Or.inl ⟨by rfl, ?by3⟩) (by assumption) ?br3
    case by3 =>
      intro wx hSw
      clear hSw
      go_simp
      first | done | (with_reducible rfl)
    (try simp only [Act.put, List.getElem_toArray, List.getElem_cons_succ, List.getElem_cons_zero, List.setIfInBounds_toArray, List.set_cons_zero, List.set_cons_succ])
    refine wpAnyH_take (i := 4) (v := ?bv4) rfl (by kernel_rfl) (by kernel_rfl) (by kernel_rfl) (fun _ _ _ h => h) (Or.inl ⟨by rfl, ?by4⟩) (by assumption) ?br4
    case by4 =>
      intro wx hSw
      clear hSw
      go_simp
      first | done | (with_reducible rfl)
    (try simp only [Act.put, List.getElem_toArray, List.getElem_cons_succ, List.getElem_cons_zero, List.setIfInBounds_toArray, List.set_cons_zero, List.set_cons_succ])
    refine wpAnyH_take (i := 5) (v := ?bv5) rfl (by kernel_rfl) (by kernel_rfl) (by kernel_rfl) (fun _ _ _ h => h) (Or.inl ⟨by rfl, ?by5⟩) (by assumption) ?br5
    case by5 =>
      intro wx hSw
      have hcell := HX.out ▸ RS.wt hSw.1 Hlo.out
      clear hSw
      go_simp
      first | done | (with_reducible rfl)
    (try simp only [Act.put, List.getElem_toArray, List.getElem_cons_succ, List.getElem_cons_zero, List.setIfInBounds_toArray, List.set_cons_zero, List.set_cons_succ])
    refine wpAnyH_take (i := 6) (v := ?bv6) rfl (by kernel_rfl) (by kernel_rfl) (by kernel_rfl) (fun _ _ _ h => h) (Or.inl ⟨by rfl, ?by6⟩) (by assumption) ?br6
    case by6 =>
      intro wx hSw
      clear hSw
      go_simp
      first | done | (with_reducible rfl)
    (try simp only [Act.put, List.getElem_toArray, List.getElem_cons_succ, List.getElem_cons_zero, List.setIfInBounds_toArray, List.set_cons_zero, List.set_cons_succ])
    refine wpAnyH_take (i := 7) (v := ?bv7) rfl (by kernel_rfl) (by kernel_rfl) (by kernel_rfl) (fun _ _ _ h => h) (Or.inl ⟨by rfl, ?by7⟩) (by assumption) ?br7
    case by7 =>
      intro wx hSw
      have hl := hSw.1.1
      unfold lcl at hl
      obtain ⟨⟨x0, x1, x2⟩, ⟨x3, x4, x5⟩, hf⟩ := hl.six
      clear hl hf
      clear hSw
      go_simp
      first | done | (with_reducible rfl)
    (try simp only [Act.put, List.getElem_toArray, List.getElem_cons_succ, List.getElem_cons_zero, List.setIfInBounds_toArray, List.set_cons_zero, List.set_cons_succ])
    refine wpAnyH_take (i := 8) (v := ?bv8) rfl (by kernel_rfl) (by kernel_rfl) (by kernel_rfl) (fun _ _ _ h => h) (Or.inl ⟨by rfl, ?by8⟩) (by assumption) ?br8
    case by8 =>
      intro wx hSw
      clear hSw
      go_simp
      first | done | (with_reducible rfl)
    (try simp only [Act.put, List.getElem_toArray, List.getElem_cons_succ, List.getElem_cons_zero, List.setIfInBounds_toArray, List.set_cons_zero, List.set_cons_succ])
    refine wpAnyH_take (i := 9) (v := ?bv9) rfl (by kernel_rfl) (by kernel_rfl) (by kernel_rfl) (fun _ _ _ h => h) (Or.inl ⟨by rfl, ?by9⟩) (by assumption) ?br9
    case by9 =>
      intro wx hSw
      clear hSw
      go_simp
      first | done | (with_reducible rfl)
    (try simp only [Act.put, List.getElem_toArray, List.getElem_cons_succ, List.getElem_cons_zero, List.setIfInBounds_toArray, List.set_cons_zero, List.set_cons_succ])
    refine wpAnyH_take (i := 10) (v := ?bv10) rfl (by kernel_rfl) (by kernel_rfl) (by kernel_rfl) (fun _ _ _ h => h) (Or.inl ⟨by rfl, ?by10⟩) (by assumption) ?br10
    case by10 =>
      intro wx hSw
      have hcell := HY.out ▸ RS.wt hSw.1 Hhi.out
      clear hSw
      go_simp
      first | done | (with_reducible rfl)
    (try simp only [Act.put, List.getElem_toArray, List.getElem_cons_succ, List.getElem_cons_zero, List.setIfInBounds_toArray, List.set_cons_zero, List.set_cons_succ])
    refine wpAnyH_ready (rs := [11]) (by kernel_rfl) (by simp) ?_
    refine AllReadyH.cons rfl (fun K hK => ?_) AllReadyH.nil
    go_simp
    go_at_call 61
    refine (HWg.out _ _ _ _ hHeld.1.2.1).mono ?_
    rintro e w2 ⟨rfl, hb⟩
    refine hK.out _ _ ?_ (fun hHeld1 => ?_)
    · exact RQ.keep hb hHeld
    clear hK K hb
    (try simp only [Act.put, List.getElem_toArray, List.getElem_cons_succ, List.getElem_cons_zero, List.setIfInBounds_toArray, List.set_cons_zero, List.set_cons_succ])
    have hAny := hHeld1.2
    obtain ⟨r, hr⟩ := hAny
    refine wpAnyH_ready (rs := [12]) (by kernel_rfl) (by simp) ?_
    refine AllReadyH.cons rfl (fun K hK => ?_) AllReadyH.nil
    rw [if_pos (by rfl)]
    refine wp_store_row 43 _ _ rfl (w.heap.size + 1) (cl P) rfl rfl 43 _ hr info_cs rfl (cl_one P) ?_
    refine hK.out _ _ ?_ (fun hHeld2 => ?_)
    · exact RQ.set (Nat.lt_succ_self _) hHeld1 P
    clear hK K
    (try simp only [Act.put, List.getElem_toArray, List.getElem_cons_succ, List.getElem_cons_zero])
    refine wpAnyH_take (i := 13) (v := ?bv13) rfl (by kernel_rfl) (by kernel_rfl) (by kernel_rfl) (fun _ _ _ h => h) (Or.inl ⟨by rfl, ?by13⟩) (by assumption) ?br13
    case by13 =>
      intro wx hSw
      clear hSw
      go_simp
      first | done | (with_reducible rfl)
    (try simp only [Act.put, List.getElem_toArray, List.getElem_cons_succ, List.getElem_cons_zero, List.setIfInBounds_toArray, List.set_cons_zero, List.set_cons_succ])
    refine wpAnyH_done (by kernel_rfl) ?_ _
    have HRR := Lib.hid (And.intro (hr.set P) hHeld2.1.2.2)
    clear hHeld hHeld1 hHeld2 hr
    go_wp2
    exact bodyPost_ret (ret_cs2 Tryd.results26 _ _ (w.heap.size + 1) P (.bool true) (by simp) (by simp) HRR.out.1) rfl ⟨rfl, HRR.out.2⟩
  · have hn : Y < X := by omega
    rw [if_neg hle]
    clear hle
    go_enter Tryd.func26, Tryd.ntmps26
    go_wp2_with (first
      | (go_at_call 50
         refine HU.out.mono ?_
         rintro e w1 ⟨W1, C1, E1, rfl, hm, hb⟩
         have l1 := HA.out.under hb HA.out.lt
         have z1 := HZ.out.below hb HZ.out.lt
         have HRp := Lib.hid (RS.start l1 hm (HB.out.trans (hb.mono HB.out.size)))
         have HZp := Lib.hid z1
         obtain ⟨⟨aw1, capw1, rfl, _⟩, ⟨ac1, capc1, rfl, _⟩, ⟨ae1, cape1, rfl, _⟩⟩ := hm
         obtain ⟨⟨y0, y1, y2⟩, ⟨y3, y4, y5⟩, hg⟩ := l1.six
         clear l1 z1 hb))
    clear y0 y1 y2 y3 y4 y5 hg HU
    generalize hS : (((((w1.setCell _ _).setCell _ _).setCell _ _).setCell _ _).setCell _ _).setCell _ _ = wS
    have hP : PW w1 w.heap.size V (.slice aw1 V.nw capw1) (.slice ac1 V.nc capc1) (.slice ae1 V.ne cape1) = wS := hS
    have HR : Hid (RS w V (.slice aw1 V.nw capw1) (.slice ac1 V.nc capc1) (.slice ae1 V.ne cape1) wS) := by
      show RS w V _ _ _ wS
      rw [← hP]
      exact HRp.out
    have HZ1 : Hid (At wS (w.heap.size + 1) (fun _ => false)) := by
      show At _ _ _
      rw [← hP]
      exact (put6_far w1 w.heap.size (w.heap.size + 1) (by omega) _ _ _ _ _ _).trans HZp.out
    clear hS hP HRp HZp HA HB HZ
    have hsw := HR.out.2.1.1
    obtain ⟨aw2, capw2, ew, _, hwc⟩ := hsw
    rw [HV.out.nw] at hwc
    rcases hwc with hwc | ⟨bw, ow, rfl, hwl, hwc⟩
    · omega
    simp only [Value.slice.injEq] at ew
    obtain ⟨rfl, -, rfl⟩ := ew
    clear hwl hwc
    have hnwi : (V.nw : Int) = 256 := by rw [HV.out.nw]; rfl
    have cw : (lo : Int) < V.nw := by rw [hnwi]; exact ci
    have dw : (hi : Int) < V.nw := by rw [hnwi]; exact di
    have Hlo : Hid (lo < V.nw) := by show lo < V.nw; rw [HV.out.nw]; exact hlo
    have Hhi : Hid (hi < V.nw) := by show hi < V.nw; rw [HV.out.nw]; exact hhi
    have k1 := HX.out ▸ RS.wt HR.out Hlo.out
    have k2 := HY.out ▸ RS.wt HR.out Hhi.out
    have hl := HR.out.1
    unfold lcl at hl
    obtain ⟨⟨l0, l1, l2⟩, ⟨l3, l4, l5⟩, hlf⟩ := hl.six
    clear hnwi l0 l2 l3 l4 l5 hlf hl
    obtain ⟨⟨d0, d1⟩, ⟨d2, d3⟩, hg⟩ := HZ1.out.words
    go_quiet (fail)
    go_wp2
    rw [put4_zero]
    exact bodyPost_ret (ret_cs2 Tryd.results26 _ _ (w.heap.size + 1) (fun _ => false) (.bool false) (by simp) (by simp) (At.put4 (g := w.heap.size + 1) HZ1.out _)) rfl ⟨rfl, below_put4 (below_drewN HR.out.2.2 _) _ (Nat.le_succ _) _⟩
end Go.Proofs.YtoijbjndafcedaaDoor
