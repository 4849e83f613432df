/- The program's step as a closure. -/
import Derived.Test.YtblaldcioneooaaDoorRows
import Derived.Test.YtblaldcioneooaaDoorLpStep
set_option linter.unusedVariables false
namespace Go.Proofs.YtblaldcioneooaaDoor
open Go.RowKit

def hpAt (V : Loc) (l : List UInt8) (k : Nat) : Bool := (V.et k).data.toList.isPrefixOf l
theorem eIx_eq (V : Loc) (l : List UInt8) : eIx V l = (List.range V.ne).find? (hpAt V l) := rfl
theorem eIx_at (V : Loc) (l : List UInt8) (k : Nat) (hk : k < V.ne) (h : hpAt V l k = true) (hb : ∀ q, q < k → hpAt V l q = false) : eIx V l = some k := by
  rw [eIx_eq, List.find?_range_eq_some]
  exact ⟨h, by simpa using hk, fun j hj => by simp [hb j hj]⟩
theorem eIx_none (V : Loc) (l : List UInt8) (hb : ∀ q, q < V.ne → hpAt V l q = false) : eIx V l = none := by
  rw [eIx_eq, List.find?_eq_none]
  intro x hx
  simp [hb x (by simpa using hx)]
theorem stN_some {V : Loc} {l : List UInt8} {k : Nat} (h : eIx V l = some k) : stN V l = 2 := by unfold stN; rw [h]
theorem stW_some {V : Loc} {l : List UInt8} {k : Nat} (h : eIx V l = some k) : stW V l = V.ew k := by unfold stW; rw [h]
theorem stN_none {V : Loc} {l : List UInt8} (h : eIx V l = none) : stN V l = 1 := by unfold stN; rw [h]
theorem stW_none {V : Loc} {l : List UInt8} (h : eIx V l = none) : stW V l = V.wt ((l.headD 0).toNat) := by unfold stW; rw [h]
theorem head_at (s : ByteArray) (h : 0 < s.size) : (s.data.toList.headD 0) = s[0] := by
  have h2 : 0 < s.data.toList.length := by simpa using h
  rw [List.headD_eq_head?_getD, List.head?_eq_getElem?, List.getElem?_eq_getElem h2]
  rfl
theorem fb_none (V : Loc) (hV : Ok V) (s : ByteArray) (h : 0 < s.size) (hf : setOf (fbL V V.ne) (s[0].toNat) = false) : ∀ q, q < V.ne → hpAt V s.data.toList q = false := by
  intro q hq
  apply Bool.eq_false_iff.2
  intro hp
  have hs := hV.et q hq
  have h0 : 0 < (V.et q).size := by omega
  have hd : (V.et q)[0] = s[0] := by
    have e1 := head_at (V.et q) h0
    have e2 := head_at s h
    unfold hpAt at hp
    rw [List.isPrefixOf_iff_prefix] at hp
    obtain ⟨t, ht⟩ := hp
    rw [← e1, ← e2, ← ht]
    have hlen : 0 < (V.et q).data.toList.length := by simpa using h0
    cases hl : (V.et q).data.toList with
    | nil => rw [hl] at hlen; simp at hlen
    | cons a r => rfl
  have : setOf (fbL V V.ne) (s[0].toNat) = true := by
    unfold setOf
    rw [List.any_eq_true]
    refine ⟨gb (V.et q) 0, ?_, ?_⟩
    · unfold fbL
      exact List.mem_map.2 ⟨q, by simpa using hq, rfl⟩
    · rw [gb_at _ _ h0, hd]
      simp
  rw [this] at hf
  cases hf

set_option maxRecDepth 100000 in
set_option maxHeartbeats 8000000 in
theorem step_any (V : Loc) (hV : Ok V) (W C E : Value) (s : ByteArray) (hs : 0 < s.size) (p q : Nat) (w : World) (hM : LocM w V W C E) (hP : LAt w p (lcl V W C E)) (hQ : At w q (setOf (fbL V V.ne))) :
    Calls Tryd.prog 58 #[.string s, .pointer (some ⟨q, 0, none⟩), .pointer (some ⟨p, 0, none⟩)] w fun e w' => e = .returned (.tuple #[.int .i64 (stN V s.data.toList), .int .i64 (stW V s.data.toList)]) ∧ Below w.heap.size w w' := by
  obtain ⟨c, hc⟩ : ∃ c, s[0].toNat = c := ⟨_, rfl⟩
  have c256 : c < 256 := by rw [← hc]; exact s[0].toNat_lt
  have hsi : (0 : Int) < s.size := by omega
  have HH := Lib.hid (has_any (setOf (fbL V V.ne)) c c256)
  have HFb := Lib.hid (fb_none V hV s hs)
  rw [hc] at HFb
  have hW0 := hM.1
  have hE0 := hM.2.2
  have hHd := head_at s hs
  have HPl := Lib.hid hP.lt
  have HQl := Lib.hid hQ.lt
  have HP := Lib.hid hP
  have HQ := Lib.hid hQ
  obtain ⟨⟨c0, c1⟩, ⟨c2, c3⟩, hf⟩ := hQ.words
  unfold lcl at hP
  obtain ⟨⟨l0, l1, l2⟩, ⟨l3, l4, l5⟩, hlf⟩ := LAt.six hP
  obtain ⟨N, hN⟩ : ∃ N, stN V s.data.toList = N := ⟨_, rfl⟩
  obtain ⟨X, hX⟩ : ∃ X, stW V s.data.toList = X := ⟨_, rfl⟩
  rw [hN, hX]
  have HN := Lib.hid hN
  have HX := Lib.hid hX
  have HHd := Lib.hid hHd
  have HV := Lib.hid hV
  clear hN hX hHd hP hQ hM l0 l2 l3 l4 hlf hf
  obtain ⟨aw, capw, rfl, hcw, hw⟩ := hW0
  rw [HV.out.nw] at hw
  rcases hw with hw | ⟨bw, ow, rfl, hwlt, hwc⟩
  · omega
  have cw0 := hwc c 0 c256 (by decide)
  have cw : w.cell? ⟨bw, ow + c, none⟩ = some (.int .i64 (V.wt c)) := by simpa [wtF] using cw0
  have HCw := Lib.hid cw
  have HWl := Lib.hid hwlt
  have ci : (c : Int) < 256 := by omega
  have ci0 : (0 : Int) ≤ c := by omega
  have hnw : (V.nw : Int) = 256 := by rw [HV.out.nw]; rfl
  have hnw2 : (c : Int) < V.nw := by rw [hnw]; exact ci
  clear hcw hwc cw0 cw hnw hwlt
  have HB0 : Hid (Below w.heap.size w w) := Lib.hid (Below.refl _ _)
  rcases bool_tf (setOf (fbL V V.ne) c) with hh | hh
  · rw [hh] at HH
    unfold cs cl at HH
    obtain ⟨ae, cape, rfl, hce, he⟩ := hE0
    have h64 := HV.out.ne
    obtain ⟨n, hn⟩ : ∃ n, V.ne = n := ⟨_, rfl⟩
    have HNe := Lib.hid hn
    rw [hn] at he h64 l5
    have i64 : (n : Int) ≤ 64 := by omega
    clear hn hh hce HFb
    have L1 := Lib.hid l1
    have L5 := Lib.hid l5
    clear l1 l5
    rcases he with he | ⟨b, off, rfl, hlt, he⟩
    · subst he
      have h0 : eIx V s.data.toList = none := eIx_none V _ fun k hk => by rw [HNe.out] at hk; omega
      have hN2 : Hid (N = 1) := HN.out.symm.trans ((congrArg (fun z : Nat => z) (stN_none h0)))
      have hX2 : Hid (X = V.wt c) := HX.out.symm.trans ((stW_none h0).trans (by rw [HHd.out, hc]))
      clear h0
      go_enter Tryd.func58, Tryd.ntmps58
      go_wp2
      go_region_with ((go_at_call 59; refine (HH.out _).mono ?_; rintro e w1 ⟨rfl, hb⟩; have hb0 := (Below.refl w.heap.size w).drew.trans (hb.mono (Nat.le_refl _)); have HB := Lib.hid hb0; have m1 := (hb0.cell (p := ⟨p, 1, none⟩) HPl.out).trans L1.out; have m5 := (hb0.cell (p := ⟨p, 5, none⟩) HPl.out).trans L5.out; have mw := (hb0.cell (p := ⟨bw, ow + c, none⟩) HWl.out).trans HCw.out; clear hb hb0))
      all_goals
        go_wp2
        go_loopw [15] (fun i wr => i = .int .i64 0 ∧ wr = w1) (fun _ _ => 0)
        case atStart => exact ⟨rfl, rfl⟩
        case round =>
          obtain ⟨rfl, rfl⟩ := hrel
          go_wp2
          go_quiet (fail)
          go_wp2
          go_ret2
          exact ⟨by rw [hN2.out, hX2.out] <;> rfl, below_drewN HB.out _⟩
    · have HE := Lib.hid he
      have HLt := Lib.hid hlt
      clear he hlt
      go_enter Tryd.func58, Tryd.ntmps58
      go_wp2
      go_region_with ((go_at_call 59; refine (HH.out _).mono ?_; rintro e w1 ⟨rfl, hb⟩; have hb0 := (Below.refl w.heap.size w).drew.trans (hb.mono (Nat.le_refl _)); have HB := Lib.hid hb0; have m1 := (hb0.cell (p := ⟨p, 1, none⟩) HPl.out).trans L1.out; have m5 := (hb0.cell (p := ⟨p, 5, none⟩) HPl.out).trans L5.out; have mw := (hb0.cell (p := ⟨bw, ow + c, none⟩) HWl.out).trans HCw.out; clear hb hb0))
      all_goals
        go_wp2
        clear m1 m5 mw
        go_loopw [15] (fun i wr => ∃ k : Nat, k ≤ n ∧ i = .int .i64 k ∧ Hid (∀ q, q < k → hpAt V s.data.toList q = false) ∧ Hid (Below w.heap.size w wr)) (fun i _ => n - (intOf i).toNat)
        case atStart => exact ⟨0, Nat.zero_le _, rfl, fun q hq => by omega, HB.out⟩
        case round =>
          obtain ⟨k, hk, rfl, HQ2, HB2⟩ := hrel
          by_cases hkn : k < n
          · have ki : (k : Int) < n := by omega
            have ki0 : (0 : Int) ≤ k := by omega
            have ck0 : wr.cell? ⟨b, off + k * 2, none⟩ = some (.string (V.et k)) := by
              rw [HB2.out.cell (by exact HLt.out)]
              exact HE.out k 0 hkn (by decide)
            have ck1 : wr.cell? ⟨b, off + k * 2 + 1, none⟩ = some (.int .i64 (V.ew k)) := by
              rw [HB2.out.cell (by exact HLt.out)]
              exact HE.out k 1 hkn (by decide)
            have HBn := Lib.hid (HB2.out.alloc HB2.out.size (.cells #[.string (V.et k), .int .i64 (V.ew k)] 68))
            have HP2 := Lib.hid (hp_any s (V.et k))
            obtain ⟨D, hD⟩ : ∃ D, (V.et k).data.toList.isPrefixOf s.data.toList = D := ⟨_, rfl⟩
            rw [hD] at HP2
            have HD : Hid (hpAt V s.data.toList k = D) := hD
            clear hD
            rcases bool_tf D with hd | hd
            · subst hd
              have h0 : eIx V s.data.toList = some k := eIx_at V _ k (by rw [HNe.out]; exact hkn) HD.out HQ2.out
              have hN2 : Hid (N = 2) := HN.out.symm.trans (congrArg (fun z : Nat => z) (stN_some h0))
              have hX2 : Hid (X = V.ew k) := HX.out.symm.trans (stW_some h0)
              clear h0
              go_wp2_with (go_at_call 60; refine (HP2.out _).mono ?_; rintro e w2 ⟨rfl, rfl⟩)
              go_quiet (fail)
              go_wp2
              go_ret2
              exact ⟨by rw [hN2.out, hX2.out] <;> rfl, below_drewN HBn.out _⟩
            · subst hd
              go_wp2_with (go_at_call 60; refine (HP2.out _).mono ?_; rintro e w2 ⟨rfl, rfl⟩)
              go_roundw
              case rel =>
                refine ⟨k + 1, by omega, by go_num, fun q hq => ?_, HBn.out⟩
                by_cases e : q = k
                · subst e; exact HD.out
                · exact HQ2.out q (by omega)
              case measure => simp [intOf]; omega
          · obtain rfl : k = n := by omega
            have h0 : eIx V s.data.toList = none := eIx_none V _ (by rw [HNe.out]; exact HQ2.out)
            have hN2 : Hid (N = 1) := HN.out.symm.trans (congrArg (fun z : Nat => z) (stN_none h0))
            have hX2 : Hid (X = V.wt c) := HX.out.symm.trans ((stW_none h0).trans (by rw [HHd.out, hc]))
            have m1 := (HB2.out.cell (p := ⟨p, 1, none⟩) HPl.out).trans L1.out
            have mw := (HB2.out.cell (p := ⟨bw, ow + c, none⟩) HWl.out).trans HCw.out
            clear h0
            go_wp2
            go_quiet (fail)
            go_wp2
            go_ret2
            exact ⟨by rw [hN2.out, hX2.out] <;> rfl, below_drewN HB2.out _⟩
  · rw [hh] at HH
    unfold cs cl at HH
    have h0 : eIx V s.data.toList = none := eIx_none V _ (HFb.out hh)
    have hN2 : Hid (N = 1) := HN.out.symm.trans (congrArg (fun z : Nat => z) (stN_none h0))
    have hX2 : Hid (X = V.wt c) := HX.out.symm.trans ((stW_none h0).trans (by rw [HHd.out, hc]))
    have L1 := Lib.hid l1
    have L5 := Lib.hid l5
    clear h0 hh hE0 HFb l1 l5
    go_enter Tryd.func58, Tryd.ntmps58
    go_wp2
    go_region_with ((go_at_call 59; refine (HH.out _).mono ?_; rintro e w1 ⟨rfl, hb⟩; have hb0 := (Below.refl w.heap.size w).drew.trans (hb.mono (Nat.le_refl _)); have HB := Lib.hid hb0; have m1 := (hb0.cell (p := ⟨p, 1, none⟩) HPl.out).trans L1.out; have m5 := (hb0.cell (p := ⟨p, 5, none⟩) HPl.out).trans L5.out; have mw := (hb0.cell (p := ⟨bw, ow + c, none⟩) HWl.out).trans HCw.out; clear hb hb0))
    all_goals
      go_wp2
      go_quiet (fail)
      go_wp2
      go_ret2
      exact ⟨by rw [hN2.out, hX2.out] <;> rfl, below_drewN HB.out _⟩
end Go.Proofs.YtblaldcioneooaaDoor
