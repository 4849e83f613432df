/- The reference's Compare, Split, Lower and Upper. (Written by gen_lrc.py.) -/
import Derived.Test.YtoijbjndafcedaaDoorRows
import Derived.Test.YtoijbjndafcedaaDoorLrWts
import Derived.Test.YtoijbjndafcedaaDoorLpCase
set_option linter.unusedVariables false
namespace Go.Proofs.YtoijbjndafcedaaDoor
open Go.RowKit

theorem lat_ne {w : World} {g b o : Nat} {s0 s2 s3 : ByteArray} {a1 a4 a5 : Option Addr} {n1 n4 n5 c1 c4 c5 : Nat} {k : IntKind} {x : Int} (hA : LAt w g #[.string s0, .slice a1 n1 c1, .string s2, .string s3, .slice a4 n4 c4, .slice a5 n5 c5]) (h : w.cell? ⟨b, o, none⟩ = some (.int k x)) : b ≠ g := by
  rintro rfl
  rw [hA.cell o] at h
  match o, h with
  | 0, h => simp at h
  | 1, h => simp at h
  | 2, h => simp at h
  | 3, h => simp at h
  | 4, h => simp at h
  | 5, h => simp at h
  | o + 6, h => simp at h
theorem SL.putf {k n g : Nat} {f : Nat → Nat → Value} {w : World} {sv : Value} (h : SL k n f w sv) (i0 : Nat) (hi0 : i0 < k) (hne : ∀ b o, 0 < n → w.cell? ⟨b, o, none⟩ = some (f 0 i0) → b ≠ g) (c0 c1 c2 c3 c4 c5 : Value) : SL k n f (Go.Proofs.YtoijbjndafcedaaDoor.put6 w g c0 c1 c2 c3 c4 c5) sv := by
  obtain ⟨a, cap, e, hc, h⟩ := h
  refine ⟨a, cap, e, hc, ?_⟩
  by_cases hn : n = 0
  · exact .inl hn
  rcases h with h | ⟨b, off, ha, hlt, h⟩
  · exact .inl h
  · have hb := hne b _ (by omega) (h 0 i0 (by omega) hi0)
    refine .inr ⟨b, off, ha, Nat.lt_of_lt_of_eq hlt (put6_size w g c0 c1 c2 c3 c4 c5).symm, fun j i hj hi => ?_⟩
    rw [World.cell?_of_block (w := w) (a := ⟨b, off + j * k + i, none⟩) (put6_far w g b hb c0 c1 c2 c3 c4 c5)]
    exact h j i hj hi
/-- A function that goes by a valid locale has it in its first block. -/
def RS (w0 : World) (V : Loc) (W C E : Value) (w : World) : Prop := LAt w w0.heap.size (lcl V W C E) ∧ LocM w V W C E ∧ Below w0.heap.size w0 w
theorem RS.start {w0 w1 : World} {L V : Loc} {aw ac ae : Option Addr} {nw nc ne cw cc ce : Nat} {W1 C1 E1 : Value} (hA : LAt w1 w0.heap.size (lcl L (.slice aw nw cw) (.slice ac nc cc) (.slice ae ne ce))) (hm : LocM w1 V W1 C1 E1) (hb : Below w0.heap.size w0 w1) :
    RS w0 V W1 C1 E1 (put6 w1 w0.heap.size (.string V.name) W1 (.string V.lower) (.string V.upper) C1 E1) := by
  unfold lcl at hA
  refine ⟨LAt.put6 hA _ _ _ _ _ _, ⟨?_, ?_, ?_⟩, below_put6 hb _ (Nat.le_refl _) _ _ _ _ _ _⟩
  · exact SL.putf hm.1 0 (by decide) (fun b o _ h => lat_ne hA h) _ _ _ _ _ _
  · exact SL.putf hm.2.1 1 (by decide) (fun b o _ h => by rw [clsF_word V 0 0] at h; exact lat_ne hA h) _ _ _ _ _ _
  · exact SL.putf hm.2.2 1 (by decide) (fun b o _ h => lat_ne hA h) _ _ _ _ _ _
theorem RS.drew {w0 w : World} {V : Loc} {W C E : Value} (h : RS w0 V W C E w) : RS w0 V W C E w.drew := ⟨h.1, h.2.1.below (Below.refl _ _).drew, h.2.2.drew⟩
theorem RS.keep {w0 w w' : World} {V : Loc} {W C E : Value} (hb : Below w.heap.size w w') (h : RS w0 V W C E w) : RS w0 V W C E w' := ⟨h.1.under hb h.1.lt, h.2.1.below hb, h.2.2.trans (hb.mono h.2.2.size)⟩
theorem wts_len (V : Loc) (l : List UInt8) : (wts V l).length ≤ l.length := by
  have := pcs_len V l
  unfold pcs at this
  unfold wts
  rw [List.length_map] at this ⊢
  exact this

set_option maxRecDepth 100000 in
set_option maxHeartbeats 8000000 in
theorem rCompare_any (L : Loc) (W C E : Value) (a b : ByteArray) (ha : a.size ≤ 4294967280) (hb : b.size ≤ 4294967280) (w : World) (hM : LocM w L W C E) :
    Calls Tryd.prog 18 #[.agg (lcl L W C E), .string a, .string b] w fun e w' => e = .returned (.int .i64 (cmpL (vld L) a.data.toList b.data.toList)) ∧ Below w.heap.size w w' := by
  have HB : Hid (Below w.heap.size w (w.alloc (.cells (lcl L W C E) 26))) := (Below.refl _ _).alloc (Nat.le_refl _) _
  have HA : Hid (LAt (w.alloc (.cells (lcl L W C E) 26)) w.heap.size (lcl L W C E)) := heap_alloc_new w _
  have HU := Lib.hid (valid_any L W C E _ (hM.below HB.out))
  have HV := Lib.hid (ok_vld L)
  have HBy := Lib.hid (rBytes_any a b ha hb)
  generalize vld L = V at *
  have HWa := Lib.hid (fun (W C E : Value) wx hm => rweights_any V HV.out W C E a ha wx hm)
  have HWb := Lib.hid (fun (W C E : Value) wx hm => rweights_any V HV.out W C E b hb wx hm)
  have HOr := Lib.hid (order_any (wts V a.data.toList) (wts V b.data.toList) (by have := wts_len V a.data.toList; rw [size_data] at this; omega) (by have := wts_len V b.data.toList; rw [size_data] at this; omega))
  obtain ⟨R, hR⟩ : ∃ R, cmpL V a.data.toList b.data.toList = R := ⟨_, rfl⟩
  rw [hR]
  unfold cmpL at hR
  generalize ord (bI a.data.toList) (bI b.data.toList) = Z at hR HBy
  obtain ⟨O, hO⟩ : ∃ O, ord (wts V a.data.toList) (wts V b.data.toList) = O := ⟨_, rfl⟩
  rw [hO] at hR HOr
  have HR0 := Lib.hid hR
  generalize wts V a.data.toList = A at *
  generalize wts V b.data.toList = D at *
  clear hR hO
  obtain ⟨⟨aw, capw, rfl, _⟩, ⟨ac, capc, rfl, _⟩, ⟨ae, cape, rfl, _⟩⟩ := hM
  unfold lcl at HB HA HU ⊢
  go_enter Tryd.func18, Tryd.ntmps18
  go_wp2_with (first
    | (go_at_call 50
       refine HU.out.mono ?_
       rintro e w1 ⟨W1, C1, E1, rfl, hm, hb⟩
       have l1 := HA.out.under hb HA.out.lt
       have HR := Lib.hid (RS.start l1 hm (HB.out.trans (hb.mono HB.out.size)))
       obtain ⟨⟨aw1, capw1, rfl, _⟩, ⟨ac1, capc1, rfl, _⟩, ⟨ae1, cape1, rfl, _⟩⟩ := hm
       obtain ⟨⟨y0, y1, y2⟩, ⟨y3, y4, y5⟩, hg⟩ := l1.six
       clear l1 hb))
  refine wp_region_held_drew (S := fun w' => RS w V (.slice aw1 V.nw capw1) (.slice ac1 V.nc capc1) (.slice ae1 V.ne cape1) w') (by kernel_rfl) ?_ (fun hHeld => ?_)
  · exact HR.out.drew
  clear y0 y1 y2 y3 y4 y5 hg HU
  refine wpAnyH_take (i := 0) (v := ?av0) rfl (by kernel_rfl) (by kernel_rfl) (by kernel_rfl) (fun _ _ _ h => h) (Or.inl ⟨by rfl, ?ay0⟩) (by assumption) ?ar0
  case ay0 =>
    intro wx hSw
    have hl := hSw.1
    unfold lcl at hl
    obtain ⟨⟨x0, x1, x2⟩, ⟨x3, x4, x5⟩, hf⟩ := hl.six
    clear hl hf
    clear hSw
    go_simp
    first | done | (with_reducible rfl)
  (try simp only [Act.put, List.getElem_toArray, List.getElem_cons_zero, List.setIfInBounds_toArray, List.set_cons_zero, List.set_cons_succ])
  refine wpAnyH_take (i := 1) (v := ?av1) rfl (by kernel_rfl) (by kernel_rfl) (by kernel_rfl) (fun _ _ _ h => h) (Or.inl ⟨by rfl, ?ay1⟩) (by assumption) ?ar1
  case ay1 =>
    intro wx hSw
    clear hSw
    go_simp
    first | done | (with_reducible rfl)
  (try simp only [Act.put, List.getElem_toArray, List.getElem_cons_succ, List.getElem_cons_zero, List.setIfInBounds_toArray, List.set_cons_zero, List.set_cons_succ])
  refine wpAnyH_take (i := 3) (v := ?av3) rfl (by kernel_rfl) (by kernel_rfl) (by kernel_rfl) (fun _ _ _ h => h) (Or.inl ⟨by rfl, ?ay3⟩) (by assumption) ?ar3
  case ay3 =>
    intro wx hSw
    have hl := hSw.1
    unfold lcl at hl
    obtain ⟨⟨x0, x1, x2⟩, ⟨x3, x4, x5⟩, hf⟩ := hl.six
    clear hl hf
    clear hSw
    go_simp
    first | done | (with_reducible rfl)
  (try simp only [Act.put, List.getElem_toArray, List.getElem_cons_succ, List.getElem_cons_zero, List.setIfInBounds_toArray, List.set_cons_zero, List.set_cons_succ])
  refine wpAnyH_take (i := 4) (v := ?av4) rfl (by kernel_rfl) (by kernel_rfl) (by kernel_rfl) (fun _ _ _ h => h) (Or.inl ⟨by rfl, ?ay4⟩) (by assumption) ?ar4
  case ay4 =>
    intro wx hSw
    clear hSw
    go_simp
    first | done | (with_reducible rfl)
  (try simp only [Act.put, List.getElem_toArray, List.getElem_cons_succ, List.getElem_cons_zero, List.setIfInBounds_toArray, List.set_cons_zero, List.set_cons_succ])
  refine wpAnyH_ready (rs := [2]) (by kernel_rfl) (by simp) ?_
  refine AllReadyH.cons rfl (fun K hK => ?_) AllReadyH.nil
  go_simp
  go_at_call 55
  refine (HWa.out _ _ _ _ hHeld.2.1).mono ?_
  rintro e w2 ⟨v2, rfl, hn, hb⟩
  have NA0 := Lib.hid hn
  refine hK.out _ _ ?_ (fun hHeld1 => ?_)
  · exact RS.keep hb hHeld
  clear hK K hb hn
  (try simp only [Act.put, List.getElem_toArray, List.getElem_cons_succ, List.getElem_cons_zero, List.setIfInBounds_toArray, List.set_cons_zero, List.set_cons_succ])
  refine wpAnyH_ready (rs := [5]) (by kernel_rfl) (by simp) ?_
  refine AllReadyH.cons rfl (fun K hK => ?_) AllReadyH.nil
  go_simp
  go_at_call 55
  refine (HWb.out _ _ _ _ hHeld1.2.1).mono ?_
  rintro e w3 ⟨v5, rfl, hn, hb⟩
  have NB := Lib.hid hn
  refine hK.out _ _ ?_ (fun hHeld2 => ?_)
  · exact RS.keep hb hHeld1
  have NA := Lib.hid (NL.below NA0.out hb)
  clear hK K hn hb
  (try simp only [Act.put, List.getElem_toArray, List.getElem_cons_succ, List.getElem_cons_zero, List.setIfInBounds_toArray, List.set_cons_zero, List.set_cons_succ])
  refine wpAnyH_ready (rs := [6]) (by kernel_rfl) (by simp) ?_
  refine AllReadyH.cons rfl (fun K hK => ?_) AllReadyH.nil
  go_simp
  go_at_call 54
  refine (HOr.out _ _ _ NA.out NB.out).mono ?_
  rintro e w4 ⟨rfl, hb⟩
  refine hK.out _ _ ?_ (fun hHeld3 => ?_)
  · exact RS.keep hb hHeld2
  clear hK K hb
  (try simp only [Act.put, List.getElem_toArray, List.getElem_cons_succ, List.getElem_cons_zero, List.setIfInBounds_toArray, List.set_cons_zero, List.set_cons_succ])
  refine wpAnyH_take (i := 7) (v := ?bv7) rfl (by kernel_rfl) (by kernel_rfl) (by kernel_rfl) (fun _ _ _ h => h) (Or.inl ⟨by rfl, ?by7⟩) (by assumption) ?br7
  case by7 =>
    intro wx hSw
    clear hSw
    go_simp
    first | done | (with_reducible rfl)
  (try simp only [Act.put, List.getElem_toArray, List.getElem_cons_succ, List.getElem_cons_zero, List.setIfInBounds_toArray, List.set_cons_zero, List.set_cons_succ])
  refine wpAnyH_done (by kernel_rfl) ?_ _
  have HBl := Lib.hid hHeld3.2.2
  clear hHeld hHeld1 hHeld2 hHeld3
  by_cases h0 : O = 0
  · have e1 : (O != 0) = false := by rw [bne_eq_false_iff_eq]; exact h0
    have HN : Hid (R = Z) := by
      have := HR0.out
      rw [if_pos h0] at this
      exact this.symm
    clear h0
    go_wp2_with (go_at_call 35; refine (HBy.out _).mono ?_; rintro e w5 ⟨rfl, hb⟩; have HB5 := Lib.hid (HBl.out.trans (hb.mono HBl.out.size)); clear hb)
    go_ret
    exact ⟨by rw [HN.out] <;> rfl, HB5.out⟩
  · have e1 : (O != 0) = true := by rw [bne_iff_ne]; exact h0
    have HN : Hid (R = O) := by
      have := HR0.out
      rw [if_neg h0] at this
      exact this.symm
    clear h0
    go_wp2
    go_ret
    exact ⟨by rw [HN.out] <;> rfl, HBl.out⟩

set_option maxRecDepth 100000 in
set_option maxHeartbeats 4000000 in
theorem rLower_any (L : Loc) (W C E : Value) (s : ByteArray) (hs : s.size ≤ 4294967280) (w : World) (hM : LocM w L W C E) :
    Calls Tryd.prog 20 #[.agg (lcl L W C E), .string s] w fun e w' => e = .returned (.string ⟨(mapT (vld L).lower s.data.toList).toArray⟩) ∧ Below w.heap.size w w' := by
  have hfd := fld2
  have HB : Hid (Below w.heap.size w (w.alloc (.cells (lcl L W C E) 26))) := (Below.refl _ _).alloc (Nat.le_refl _) _
  have HA : Hid (LAt (w.alloc (.cells (lcl L W C E) 26)) w.heap.size (lcl L W C E)) := heap_alloc_new w _
  have HU := Lib.hid (valid_any L W C E _ (hM.below HB.out))
  have HV := Lib.hid (ok_vld L)
  have HT := Lib.hid (mapped_any (vld L).lower s (ok_vld L).lo (by omega))
  generalize vld L = V at *
  generalize (⟨(mapT V.lower s.data.toList).toArray⟩ : ByteArray) = R at *
  obtain ⟨⟨aw, capw, rfl, _⟩, ⟨ac, capc, rfl, _⟩, ⟨ae, cape, rfl, _⟩⟩ := hM
  unfold lcl at HB HA HU ⊢
  go_enter Tryd.func20, Tryd.ntmps20
  go_wp2_with (first
    | (go_at_call 50
       refine HU.out.mono ?_
       rintro e w1 ⟨W1, C1, E1, rfl, hm, hb⟩
       have HB1 := Lib.hid (HB.out.trans (hb.mono HB.out.size))
       clear hb hm)
    | (go_at_call 57
       refine (HT.out _).mono ?_
       rintro e w2 ⟨rfl, hb⟩
       have HB2 := Lib.hid (HB1.out.trans (hb.mono HB1.out.size))
       clear hb))
  go_ret
  exact ⟨rfl, HB2.out⟩

set_option maxRecDepth 100000 in
set_option maxHeartbeats 4000000 in
theorem rUpper_any (L : Loc) (W C E : Value) (s : ByteArray) (hs : s.size ≤ 4294967280) (w : World) (hM : LocM w L W C E) :
    Calls Tryd.prog 22 #[.agg (lcl L W C E), .string s] w fun e w' => e = .returned (.string ⟨(mapT (vld L).upper s.data.toList).toArray⟩) ∧ Below w.heap.size w w' := by
  have hfd := fld3
  have HB : Hid (Below w.heap.size w (w.alloc (.cells (lcl L W C E) 26))) := (Below.refl _ _).alloc (Nat.le_refl _) _
  have HA : Hid (LAt (w.alloc (.cells (lcl L W C E) 26)) w.heap.size (lcl L W C E)) := heap_alloc_new w _
  have HU := Lib.hid (valid_any L W C E _ (hM.below HB.out))
  have HV := Lib.hid (ok_vld L)
  have HT := Lib.hid (mapped_any (vld L).upper s (ok_vld L).up (by omega))
  generalize vld L = V at *
  generalize (⟨(mapT V.upper s.data.toList).toArray⟩ : ByteArray) = R at *
  obtain ⟨⟨aw, capw, rfl, _⟩, ⟨ac, capc, rfl, _⟩, ⟨ae, cape, rfl, _⟩⟩ := hM
  unfold lcl at HB HA HU ⊢
  go_enter Tryd.func22, Tryd.ntmps22
  go_wp2_with (first
    | (go_at_call 50
       refine HU.out.mono ?_
       rintro e w1 ⟨W1, C1, E1, rfl, hm, hb⟩
       have HB1 := Lib.hid (HB.out.trans (hb.mono HB.out.size))
       clear hb hm)
    | (go_at_call 57
       refine (HT.out _).mono ?_
       rintro e w2 ⟨rfl, hb⟩
       have HB2 := Lib.hid (HB1.out.trans (hb.mono HB1.out.size))
       clear hb))
  go_ret
  exact ⟨rfl, HB2.out⟩
end Go.Proofs.YtoijbjndafcedaaDoor
