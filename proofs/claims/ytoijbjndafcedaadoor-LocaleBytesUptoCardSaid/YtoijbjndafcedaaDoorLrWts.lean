/- The reference's weights, Compare and Split. (Written by gen_lrs.py.) -/
import Derived.Test.YtoijbjndafcedaaDoorRows
import Derived.Test.YtoijbjndafcedaaDoorLrOrd
set_option linter.unusedVariables false
namespace Go.Proofs.YtoijbjndafcedaaDoor
open Go.RowKit

/-- 'append(v, u)' as one step of a region that draws. -/
theorem step_app (T E : TypeId) (z : Value) (bytes : Nat) (ht : Tryd.prog.underlying T = some (.slice E)) (hif : (Tryd.prog.info? E).map (fun i => (i.zero, i.size, i.bytes)) = some (some z, 1, bytes)) (hz : z.cells.size = 1)
    {ops : Array Oper} {o : Oper} {a : Act} {K : Act → World → Prop} {Q : Exit → Act → World → Prop} {F : Prop} (w : World) (hgd : o.guard = none) (s x : Operand)
    (ho : o.op = .call { callee := .builtin .append, args := #[s, x], argTypes := #[T, T] })
    (B : Nat) (v : Value) (n : Nat) (xs : List Value) (u : Value) (hs : a.eval s = v) (hown : w.ownsRow B E 1 v n xs) (hx : a.eval x = .slice (some ⟨w.heap.size, 0, none⟩) 1 1) (h1 : u.oneCell' = true)
    (hB : B ≤ w.heap.size) (h63 : n + 1 ≤ maxLen) (hby : (n + 1) * bytes ≤ 140737488355328)
    (h : ∀ v' w', w'.ownsRow B E 1 v' (n + 1) (xs ++ [u]) → (∀ A0, Below B A0 w → Below B A0 w') → K (a.put o.dst v') w') :
    if Region.wanted o (yielded ops a.tmps) = true then Oper.wp Tryd.prog o a (w.alloc (.cells #[u] E)) K Q else F := by
  have hw : Region.wanted o (yielded ops a.tmps) = true := by simp [Region.wanted, hgd]
  rw [if_pos hw]
  obtain ⟨i0, hi, hz0, hz1, hz2⟩ := info_parts hif
  refine wp_append_lies (w := w.alloc (.cells #[u] E)) s x T ho B E i0 z 1 bytes ht hi hz0 hz1 hz2 hz (by decide) v n xs hs (hown.alloc _) ⟨w.heap.size, 0, none⟩ 1 1 [u] hx rfl (fun j y hy => row_cells w [u] E j y hy) (by simpa using h1) (by decide) h63 hby (by simp; omega) _ rfl ?_
  intro g cap w' hown' hgrow _ _
  exact h _ w' hown' fun A0 hb => (hb.alloc hB _).grown hgrow (by simp; omega) (fun j e => (hown.lt j e).1)

/-- What find finds. -/
theorem hit_hp (V : Loc) (hV : Ok V) (s : ByteArray) (o k : Nat) (hk : k < V.ne) (ho : o ≤ s.size) : hit V s o k = hpAt V (s.data.toList.drop o) k := by
  have h2 := hV.et k hk
  have hl : (V.et k).data.toList.length = 2 := by rw [size_data]; exact h2
  have hp := Lib.hasPrefix_of_take (s.data.toList.drop o) (V.et k).data.toList
  unfold Lib.hasPrefix at hp
  unfold hit hpAt eqS
  rw [← hp, hl, List.length_drop, size_data, ByteArray.toList_eq, ByteArray.toList_eq, Lib.extract_data]
  have e1 : decide (o + 2 ≤ s.size) = decide (2 ≤ s.size - o) := by
    rw [decide_eq_decide]
    omega
  rw [e1, show o + 2 - o = 2 by omega]
theorem find_congr (l : List Nat) (p q : Nat → Bool) (h : ∀ x ∈ l, p x = q x) : l.find? p = l.find? q := by
  induction l with
  | nil => rfl
  | cons a r ih =>
    rw [List.find?_cons, List.find?_cons, h a (by simp), ih (fun x hx => h x (by simp [hx]))]
theorem find_eq (V : Loc) (hV : Ok V) (s : ByteArray) (o : Nat) (ho : o ≤ s.size) : findL V s o = match eIx V (s.data.toList.drop o) with
    | some k => (k : Int)
    | none => -1 := by
  have e : (List.range V.ne).find? (hit V s o) = eIx V (s.data.toList.drop o) := by
    rw [eIx_eq]
    exact find_congr _ _ _ fun k hk => hit_hp V hV s o k (by simpa using hk) ho
  unfold findL
  rw [e]
  cases eIx V (s.data.toList.drop o) <;> rfl
theorem find_some {V : Loc} (hV : Ok V) {s : ByteArray} {o k : Nat} (ho : o ≤ s.size) (h : eIx V (s.data.toList.drop o) = some k) : findL V s o = (k : Int) ∧ k < V.ne ∧ o + 2 ≤ s.size := by
  refine ⟨by rw [find_eq V hV s o ho, h], ?_, ?_⟩
  · have := List.mem_of_find?_eq_some h
    simpa using this
  · have h1 := List.find?_some h
    have hk : k < V.ne := by simpa using List.mem_of_find?_eq_some h
    rw [List.isPrefixOf_iff_prefix] at h1
    have := h1.length_le
    rw [List.length_drop, size_data, size_data, hV.et k hk] at this
    omega
theorem find_non {V : Loc} (hV : Ok V) {s : ByteArray} {o : Nat} (ho : o ≤ s.size) (h : eIx V (s.data.toList.drop o) = none) : findL V s o = -1 := by rw [find_eq V hV s o ho, h]
theorem headD_drop (s : ByteArray) (o : Nat) (h : o < s.size) : (s.data.toList.drop o).headD 0 = s[o] := by
  have hl : o < s.data.toList.length := by rw [size_data]; exact h
  rw [List.drop_eq_getElem_cons hl]
  rfl
theorem nums_one (X : List Int) (x : Int) : nums X ++ [.int .i64 x] = nums (X ++ [x]) := by
  rw [nums_app]
  rfl

set_option maxRecDepth 100000 in
set_option maxHeartbeats 8000000 in
theorem rweights_any (V : Loc) (hV : Ok V) (W C E : Value) (s : ByteArray) (hs : s.size ≤ 4294967280) (w : World) (hM : LocM w V W C E) :
    Calls Tryd.prog 55 #[.agg (lcl V W C E), .string s] w fun e w' => ∃ v, e = .returned v ∧ NL w' v (wts V s.data.toList) ∧ Below w.heap.size w w' := by
  have hB : Below w.heap.size w (w.alloc (.cells (lcl V W C E) 26)) := (Below.refl _ _).alloc (Nat.le_refl _) _
  have HB := Lib.hid hB
  have HM := Lib.hid (hM.below hB)
  have HL : Hid (LAt (w.alloc (.cells (lcl V W C E) 26)) w.heap.size (lcl V W C E)) := heap_alloc_new w _
  have HV := Lib.hid hV
  have h64 := hV.ne
  have HF := Lib.hid (fun (o : Nat) (ho : o ≤ s.size) wx hm => find_any V W C E s o ho (by omega) h64 wx hm)
  have HSz : Hid (w.heap.size + 1 ≤ (w.alloc (.cells (lcl V W C E) 26)).heap.size) := by show _ ≤ _; simp
  have hsi : (s.size : Int) ≤ 4294967280 := by omega
  have h64i : (V.ne : Int) ≤ 64 := by omega
  clear hB hV
  have hM0 := hM
  obtain ⟨⟨aw, capw, rfl, _, hw⟩, ⟨ac, capc, rfl, _⟩, ⟨ae, cape, rfl, _, he⟩⟩ := hM0
  rw [HV.out.nw] at hw
  rcases hw with hw | ⟨bw, ow, rfl, hwlt, hwc⟩
  · omega
  have HWc := Lib.hid hwc
  have HWl := Lib.hid hwlt
  have HEc := Lib.hid he
  clear hwc hwlt he
  unfold lcl at HF
  go_enter Tryd.func55, Tryd.ntmps55
  unfold lcl
  go_wp2
  go_loopw [5, 6] (fun o i wr => ∃ (k : Nat) (v : Value) (done : List Int), v = o ∧ k ≤ s.size ∧ done.length ≤ k ∧ i = .int .i64 k ∧ Hid (done ++ wts V (s.data.toList.drop k) = wts V s.data.toList) ∧ Hid (wr.ownsRow (w.heap.size + 1) 3 1 v done.length (nums done)) ∧ Hid (Below (w.heap.size + 1) (w.alloc (.cells (lcl V (.slice (some ⟨bw, ow, none⟩) V.nw capw) (.slice ac V.nc capc) (.slice ae V.ne cape)) 26)) wr)) (fun _ i _ => s.size - (intOf i).toNat)
  case atStart => exact ⟨0, _, [], rfl, Nat.zero_le _, Nat.le_refl _, rfl, rfl, World.ownsRow_nil _ _ _ _, Below.refl _ _⟩
  case round =>
    obtain ⟨k, v, done, rfl, hk, hd, rfl, HD, HOw, HBr⟩ := hrel
    by_cases hlt : k < s.size
    · have ki : (k : Int) < s.size := by omega
      have ki0 : (0 : Int) ≤ k := by omega
      have HBw := Lib.hid (HB.out.trans (HBr.out.mono (Nat.le_succ _)))
      have hLr := HL.out.under HBr.out (Nat.lt_succ_self _)
      have HMr := Lib.hid (HBw.out.size)
      have HFk := Lib.hid (HF.out k hk wr (hM.below HBw.out))
      unfold lcl at hLr
      obtain ⟨⟨l0, l1, l2⟩, ⟨l3, l4, l5⟩, hlf⟩ := hLr.six
      have hdl : 0 < (s.data.toList.drop k).length := by rw [List.length_drop, size_data]; omega
      have HW := Lib.hid (wts_cons V (s.data.toList.drop k) hdl)
      rw [List.drop_drop] at HW
      obtain ⟨I, hI⟩ : ∃ I, eIx V (s.data.toList.drop k) = I := ⟨_, rfl⟩
      obtain ⟨c, hc⟩ : ∃ c, s[k].toNat = c := ⟨_, rfl⟩
      have c256 : c < 256 := by rw [← hc]; exact s[k].toNat_lt
      have ci : (c : Int) < 256 := by omega
      have ci0 : (0 : Int) ≤ c := by omega
      cases I with
      | none =>
        have hf := find_non HV.out hk hI
        have hn1 := stN_none hI
        have hw1 := stW_none hI
        rw [headD_drop s k hlt, hc] at hw1
        rw [hf] at HFk
        rw [hn1, hw1] at HW
        have HB1 : Hid (w.heap.size + 1 ≤ wr.heap.size) := Nat.le_trans HSz.out HBr.out.size
        have cw : wr.cell? ⟨bw, ow + c, none⟩ = some (.int .i64 (V.wt c)) := by
          rw [HBw.out.cell (by exact HWl.out)]
          have := HWc.out c 0 c256 (by decide)
          simpa [wtF] using this
        have HCw := Lib.hid cw
        have HL1 := Lib.hid l1
        have hnw : V.nw = 256 := HV.out.nw
        have hnwi : (c : Int) < V.nw := by rw [hnw]; exact ci
        generalize V.wt c = X at *
        clear hf hn1 hw1 hI hdl hLr cw hlf hnw
        go_wp2_with (first
          | (go_at_call 51; refine HFk.out.mono ?_; rintro e w3 ⟨rfl, hb⟩; have HBf := Lib.hid hb; have HOw3 := Lib.hid (own_under HOw.out hb); clear hb))
        have m1 := (HBf.out.cell (p := ⟨w.heap.size, 1, none⟩) (by have h1 := HB1.out; exact h1)).trans HL1.out
        have mw := (HBf.out.cell (p := ⟨bw, ow + c, none⟩) (by have h1 := HB1.out; have h2 := HWl.out; show bw < _; omega)).trans HCw.out
        have HM1 := Lib.hid m1
        have HMw := Lib.hid mw
        have HB3 : Hid (w.heap.size + 1 ≤ w3.heap.size) := Nat.le_trans HB1.out HBf.out.size
        have HWl1 : Hid (bw < w.heap.size + 1) := Nat.lt_succ_of_lt HWl.out
        clear l0 l1 l2 l3 l4 l5 m1 mw
        refine wp_region_held_drew (S := fun w' => Below (w.heap.size + 1) w3 w') (by kernel_rfl) ?_ (fun hHeld => ?_)
        · exact (Below.refl _ _).drew
        refine wpAnyH_take (i := 0) (v := ?cv0) rfl (by kernel_rfl) (by kernel_rfl) (by kernel_rfl) (fun _ _ _ h => h) (Or.inl ⟨by rfl, ?cy0⟩) (by assumption) ?cr0
        case cy0 =>
          intro wx hSw
          clear hSw
          go_simp
          first | done | (with_reducible rfl)
        (try simp only [Act.put, List.getElem_toArray, List.getElem_cons_zero, List.setIfInBounds_toArray, List.set_cons_zero, List.set_cons_succ])
        refine wpAnyH_take (i := 1) (v := ?cv1) rfl (by kernel_rfl) (by kernel_rfl) (by kernel_rfl) (fun _ _ _ h => h) (Or.inl ⟨by rfl, ?cy1⟩) (by assumption) ?cr1
        case cy1 =>
          intro wx hSw
          clear hSw
          go_simp
          first | done | (with_reducible rfl)
        (try simp only [Act.put, List.getElem_toArray, List.getElem_cons_succ, List.getElem_cons_zero, List.setIfInBounds_toArray, List.set_cons_zero, List.set_cons_succ])
        refine wpAnyH_take (i := 2) (v := ?cv2) rfl (by kernel_rfl) (by kernel_rfl) (by kernel_rfl) (fun _ _ _ h => h) (Or.inl ⟨by rfl, ?cy2⟩) (by assumption) ?cr2
        case cy2 =>
          intro wx hSw
          have hcell := (hSw.cell (p := ⟨w.heap.size, 1, none⟩) (Nat.lt_succ_self _)).trans HM1.out
          clear hSw
          go_simp
          first | done | (with_reducible rfl)
        (try simp only [Act.put, List.getElem_toArray, List.getElem_cons_succ, List.getElem_cons_zero, List.setIfInBounds_toArray, List.set_cons_zero, List.set_cons_succ])
        refine wpAnyH_take (i := 3) (v := ?cv3) rfl (by kernel_rfl) (by kernel_rfl) (by kernel_rfl) (fun _ _ _ h => h) (Or.inl ⟨by rfl, ?cy3⟩) (by assumption) ?cr3
        case cy3 =>
          intro wx hSw
          clear hSw
          go_simp
          first | done | (with_reducible rfl)
        (try simp only [Act.put, List.getElem_toArray, List.getElem_cons_succ, List.getElem_cons_zero, List.setIfInBounds_toArray, List.set_cons_zero, List.set_cons_succ])
        refine wpAnyH_take (i := 4) (v := ?cv4) rfl (by kernel_rfl) (by kernel_rfl) (by kernel_rfl) (fun _ _ _ h => h) (Or.inl ⟨by rfl, ?cy4⟩) (by assumption) ?cr4
        case cy4 =>
          intro wx hSw
          clear hSw
          go_simp
          first | done | (with_reducible rfl)
        (try simp only [Act.put, List.getElem_toArray, List.getElem_cons_succ, List.getElem_cons_zero, List.setIfInBounds_toArray, List.set_cons_zero, List.set_cons_succ])
        refine wpAnyH_take (i := 5) (v := ?cv5) rfl (by kernel_rfl) (by kernel_rfl) (by kernel_rfl) (fun _ _ _ h => h) (Or.inl ⟨by rfl, ?cy5⟩) (by assumption) ?cr5
        case cy5 =>
          intro wx hSw
          clear hSw
          go_simp
          first | done | (with_reducible rfl)
        (try simp only [Act.put, List.getElem_toArray, List.getElem_cons_succ, List.getElem_cons_zero, List.setIfInBounds_toArray, List.set_cons_zero, List.set_cons_succ])
        refine wpAnyH_take (i := 6) (v := ?cv6) rfl (by kernel_rfl) (by kernel_rfl) (by kernel_rfl) (fun _ _ _ h => h) (Or.inl ⟨by rfl, ?cy6⟩) (by assumption) ?cr6
        case cy6 =>
          intro wx hSw
          clear hSw
          go_simp
          first | done | (with_reducible rfl)
        (try simp only [Act.put, List.getElem_toArray, List.getElem_cons_succ, List.getElem_cons_zero, List.setIfInBounds_toArray, List.set_cons_zero, List.set_cons_succ])
        refine wpAnyH_take (i := 7) (v := ?cv7) rfl (by kernel_rfl) (by kernel_rfl) (by kernel_rfl) (fun _ _ _ h => h) (Or.inl ⟨by rfl, ?cy7⟩) (by assumption) ?cr7
        case cy7 =>
          intro wx hSw
          have hcell := (hSw.cell (p := ⟨bw, ow + c, none⟩) HWl1.out).trans HMw.out
          clear hSw
          go_simp
          first | done | (with_reducible rfl)
        (try simp only [Act.put, List.getElem_toArray, List.getElem_cons_succ, List.getElem_cons_zero, List.setIfInBounds_toArray, List.set_cons_zero, List.set_cons_succ])
        refine wpAnyH_ready (rs := [8]) (by kernel_rfl) (by simp) ?_
        refine AllReadyH.cons rfl (fun K hK => ?_) AllReadyH.nil
        go_simp
        refine hK.out _ _ ?_ (fun hHeld1 => ?_)
        · exact hHeld.alloc HB3.out _
        clear hK K
        (try simp only [Act.put, List.getElem_toArray, List.getElem_cons_succ, List.getElem_cons_zero, List.setIfInBounds_toArray, List.set_cons_zero, List.set_cons_succ])
        refine wpAnyH_ready (rs := [9]) (by kernel_rfl) (by simp) ?_
        refine AllReadyH.cons rfl (fun K hK => ?_) AllReadyH.nil
        refine step_app 22 3 (.int .i64 0) 8 Tryd.underlying22 infoI rfl w3.drew rfl _ _ rfl (w.heap.size + 1) v _ _ (.int .i64 X) rfl HOw3.out rfl (by simp [Value.oneCell']) HB3.out (by unfold maxLen; omega) (by omega) ?_
        intro v' w' hown' hb'
        refine hK.out _ _ ?_ (fun hHeld2 => ?_)
        · exact hb' _ hHeld
        have HB4 := Lib.hid (hb' _ ((HBr.out.trans (HBf.out.mono HB1.out)).drew))
        have HO4 : Hid (w'.ownsRow (w.heap.size + 1) 3 1 v' (done ++ [X]).length (nums (done ++ [X]))) := by
          show World.ownsRow _ _ _ _ _ _ _
          rw [← nums_one, List.length_append]
          exact hown'
        clear hK K hown' hb' hHeld hHeld1
        (try simp only [Act.put, List.getElem_toArray, List.getElem_cons_succ, List.getElem_cons_zero, List.setIfInBounds_toArray, List.set_cons_zero, List.set_cons_succ])
        refine wpAnyH_take (i := 10) (v := ?cv10) rfl (by kernel_rfl) (by kernel_rfl) (by kernel_rfl) (fun _ _ _ h => h) (Or.inl ⟨by rfl, ?cy10⟩) (by assumption) ?cr10
        case cy10 =>
          intro wx hSw
          clear hSw
          go_simp
          first | done | (with_reducible rfl)
        (try simp only [Act.put, List.getElem_toArray, List.getElem_cons_succ, List.getElem_cons_zero, List.setIfInBounds_toArray, List.set_cons_zero, List.set_cons_succ])
        refine wpAnyH_done (by kernel_rfl) ?_ _
        clear hHeld2
        go_wp2
        go_roundw
        case rel =>
          refine ⟨k + 1, _, done ++ [X], rfl, by omega, by simp; omega, by go_num, ?_, HO4.out, HB4.out⟩
          show _ = _
          rw [List.append_assoc, ← HD.out, HW.out]
          rfl
        case measure => simp [intOf]; omega
      | some j =>
        obtain ⟨hf, hj, h2⟩ := find_some HV.out hk hI
        have hn1 := stN_some hI
        have hw1 := stW_some hI
        rw [hf] at HFk
        rw [hn1, hw1] at HW
        have HB1 : Hid (w.heap.size + 1 ≤ wr.heap.size) := Nat.le_trans HSz.out HBr.out.size
        rcases HEc.out with h0 | ⟨be, oe, rfl, helt, hec⟩
        · omega
        have ce : wr.cell? ⟨be, oe + j * 2 + 1, none⟩ = some (.int .i64 (V.ew j)) := by
          rw [HBw.out.cell (by exact helt)]
          exact hec j 1 hj (by decide)
        have HCe := Lib.hid ce
        have HEl := Lib.hid helt
        have HL5 := Lib.hid l5
        have ji : (j : Int) < V.ne := by omega
        have ji0 : (0 : Int) ≤ j := by omega
        have ji1 : ¬ (j : Int) < 0 := by omega
        have h2i : (k : Int) + 2 ≤ s.size := by omega
        generalize V.ew j = X at *
        clear hf hn1 hw1 hI hdl hLr ce hlf hec helt
        go_wp2_with (first
          | (go_at_call 51
             refine HFk.out.mono ?_
             rintro e w3 ⟨rfl, hb⟩
             have HBf := Lib.hid hb
             have HOw3 := Lib.hid (own_under HOw.out hb)
             have m5 := (hb.cell (p := ⟨w.heap.size, 5, none⟩) (by have h1 := HB1.out; exact h1)).trans HL5.out
             have me := (hb.cell (p := ⟨be, oe + j * 2 + 1, none⟩) (by have h1 := HB1.out; have h2 := HEl.out; show be < _; omega)).trans HCe.out
             have HB3 : Hid (w.heap.size + 1 ≤ w3.heap.size) := Nat.le_trans HB1.out hb.size
             clear hb)
          | (at_builtin; refine app_row 22 3 (.int .i64 0) 8 Tryd.underlying22 infoI rfl w3 rfl _ _ rfl (w.heap.size + 1) v _ _ _ _ rfl rfl HOw3.out rfl rfl ?c1 ?c0 ?c2 ?c3 ?_))
        case c1 => simp [Value.oneCell']
        case c0 => exact HB3.out
        case c2 => unfold maxLen; omega
        case c3 => omega
        intro v' w' hown' hb'
        have HB4 := Lib.hid (hb' _ (HBr.out.trans (HBf.out.mono HB1.out)))
        have HO4 : Hid (w'.ownsRow (w.heap.size + 1) 3 1 v' (done ++ [X]).length (nums (done ++ [X]))) := by
          show World.ownsRow _ _ _ _ _ _ _
          rw [← nums_one, List.length_append]
          exact hown'
        clear hown' hb' m5 me
        go_wp2
        go_roundw
        case rel =>
          refine ⟨k + 2, _, done ++ [X], rfl, by omega, by simp; omega, by go_num, ?_, HO4.out, HB4.out⟩
          show _ = _
          rw [List.append_assoc, ← HD.out, HW.out]
          rfl
        case measure => simp [intOf]; omega
    · obtain rfl : k = s.size := by omega
      have HD2 : Hid (done = wts V s.data.toList) := by
        show _ = _
        have := HD.out
        rw [List.drop_eq_nil_of_le (by rw [size_data]; exact Nat.le_refl _), wts_nil, List.append_nil] at this
        exact this
      have HT := Lib.hid (own_NL HOw.out rfl)
      rw [HD2.out] at HT
      go_wp2
      go_ret
      exact ⟨_, rfl, HT.out, HB.out.trans (HBr.out.mono (Nat.le_succ _))⟩
end Go.Proofs.YtoijbjndafcedaaDoor
