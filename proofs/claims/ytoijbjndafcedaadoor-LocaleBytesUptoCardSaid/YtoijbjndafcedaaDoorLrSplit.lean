/- The reference's Split, and its bytes by weight. (Written by gen_lrp.py.) -/
import Derived.Test.YtoijbjndafcedaaDoorRows
import Derived.Test.YtoijbjndafcedaaDoorLrCmp
import Derived.Test.YtoijbjndafcedaaDoorLpWeigh
set_option linter.unusedVariables false
namespace Go.Proofs.YtoijbjndafcedaaDoor
open Go.RowKit

def PW (w1 : World) (g : Nat) (V : Loc) (W C E : Value) : World := put6 w1 g (.string V.name) W (.string V.lower) (.string V.upper) C E
theorem strl_mid (X : List (List UInt8)) (x : ByteArray) (k m : Nat) : strl (X.map mkS) ++ [.string (x.extract k (k + m))] = strl ((X ++ [(x.data.toList.drop k).take m]).map mkS) := by
  rw [List.map_append, strl_app]
  congr 1
  show _ = [Value.string (mkS ((x.data.toList.drop k).take m))]
  rw [Lib.extract_eq, Nat.add_sub_cancel_left]
  rfl

set_option maxRecDepth 100000 in
set_option maxHeartbeats 8000000 in
theorem rSplit_any (L : Loc) (W C E : Value) (s : ByteArray) (hs : s.size ≤ 4294967280) (w : World) (hM : LocM w L W C E) :
    Calls Tryd.prog 16 #[.agg (lcl L W C E), .string s] w fun e w' => ∃ v, e = .returned v ∧ TL w' v (pcs (vld L) s.data.toList) ∧ Below w.heap.size w w' := by
  have HB : Hid (Below w.heap.size w (w.alloc (.cells (lcl L W C E) 26))) := (Below.refl _ _).alloc (Nat.le_refl _) _
  have HA : Hid (LAt (w.alloc (.cells (lcl L W C E) 26)) w.heap.size (lcl L W C E)) := heap_alloc_new w _
  have HU := Lib.hid (valid_any L W C E _ (hM.below HB.out))
  have HV := Lib.hid (ok_vld L)
  generalize vld L = V at *
  have HF := Lib.hid (fun (W C E : Value) (o : Nat) (ho : o ≤ s.size) wx hm => find_any V W C E s o ho (by omega) HV.out.ne wx hm)
  have hsi : (s.size : Int) ≤ 4294967280 := by omega
  obtain ⟨⟨aw, capw, rfl, _⟩, ⟨ac, capc, rfl, _⟩, ⟨ae, cape, rfl, _⟩⟩ := hM
  unfold lcl at HB HA HU HF ⊢
  go_enter Tryd.func16, Tryd.ntmps16
  go_wp2_with (first
    | (go_at_call 50
       refine HU.out.mono ?_
       rintro e w1 ⟨W1, C1, E1, rfl, hm, hb⟩
       have l1 := HA.out.under hb HA.out.lt
       have HR := Lib.hid (RS.start l1 hm (HB.out.trans (hb.mono HB.out.size)))
       obtain ⟨⟨aw1, capw1, rfl, _⟩, ⟨ac1, capc1, rfl, _⟩, ⟨ae1, cape1, rfl, _⟩⟩ := hm
       obtain ⟨⟨y0, y1, y2⟩, ⟨y3, y4, y5⟩, hg⟩ := l1.six
       clear l1 hb))
  clear y0 y1 y2 y3 y4 y5 hg HU
  go_loopw [5, 6] (fun o i wr => ∃ (k : Nat) (v : Value) (done : List (List UInt8)), v = o ∧ k ≤ s.size ∧ done.length ≤ k ∧ i = .int .i64 k ∧ Hid (done ++ pcs V (s.data.toList.drop k) = pcs V s.data.toList) ∧ Hid (wr.ownsRow (PW w1 w.heap.size V (.slice aw1 V.nw capw1) (.slice ac1 V.nc capc1) (.slice ae1 V.ne cape1)).heap.size 9 1 v done.length (strl (done.map mkS))) ∧ Hid (Below (PW w1 w.heap.size V (.slice aw1 V.nw capw1) (.slice ac1 V.nc capc1) (.slice ae1 V.ne cape1)).heap.size (PW w1 w.heap.size V (.slice aw1 V.nw capw1) (.slice ac1 V.nc capc1) (.slice ae1 V.ne cape1)) wr)) (fun _ i _ => s.size - (intOf i).toNat)
  case atStart => exact ⟨0, _, [], rfl, Nat.zero_le _, Nat.le_refl _, rfl, rfl, World.ownsRow_nil _ _ _ _, Below.refl _ _⟩
  case round =>
    obtain ⟨k, v, done, rfl, hk, hd, rfl, HD, HOw, HBr⟩ := hrel
    by_cases hlt : k < s.size
    · have ki : (k : Int) < s.size := by omega
      have ki0 : (0 : Int) ≤ k := by omega
      have HRr := Lib.hid (RS.keep HBr.out (show RS w V _ _ _ (PW w1 w.heap.size V (.slice aw1 V.nw capw1) (.slice ac1 V.nc capc1) (.slice ae1 V.ne cape1)) from HR.out))
      have hLr := HRr.out.1
      have HFk := Lib.hid (HF.out _ _ _ k hk wr HRr.out.2.1)
      unfold lcl at hLr
      obtain ⟨⟨l0, l1, l2⟩, ⟨l3, l4, l5⟩, hlf⟩ := hLr.six
      have hdl : 0 < (s.data.toList.drop k).length := by rw [List.length_drop, size_data]; omega
      have HW := Lib.hid (pcs_cons V (s.data.toList.drop k) hdl)
      rw [List.drop_drop] at HW
      obtain ⟨I, hI⟩ : ∃ I, eIx V (s.data.toList.drop k) = I := ⟨_, rfl⟩
      have HB1 := Lib.hid HBr.out.size
      cases I with
      | none =>
        have hf := find_non HV.out hk hI
        have hn1 := stN_none hI
        rw [hf] at HFk
        rw [hn1] at HW
        have k1 : (k : Int) + 1 ≤ s.size := by omega
        clear hf hn1 hI hdl hLr hlf
        go_wp2_with (first
          | (go_at_call 51
             refine HFk.out.mono ?_
             rintro e w3 ⟨rfl, hb⟩
             have HBf := Lib.hid hb
             have HOw3 := Lib.hid (own_under HOw.out hb)
             have HB3 := Lib.hid (Nat.le_trans HB1.out hb.size)
             clear hb)
          | (at_builtin; refine app_row 32 9 (.string ⟨#[]⟩) 16 Tryd.underlying32 infoS rfl w3 rfl _ _ rfl (PW w1 w.heap.size V (.slice aw1 V.nw capw1) (.slice ac1 V.nc capc1) (.slice ae1 V.ne cape1)).heap.size v _ _ _ _ rfl rfl HOw3.out rfl rfl ?c1 ?c0 ?c2 ?c3 ?_))
        case c1 => simp [Value.oneCell']
        case c0 => exact HB3.out
        case c2 => unfold maxLen; omega
        case c3 => omega
        intro v' w' hown' hb'
        have HB4 := Lib.hid (hb' _ (HBr.out.trans (HBf.out.mono HB1.out)))
        have HO4 : Hid (w'.ownsRow (PW w1 w.heap.size V (.slice aw1 V.nw capw1) (.slice ac1 V.nc capc1) (.slice ae1 V.ne cape1)).heap.size 9 1 v' (done ++ [(s.data.toList.drop k).take 1]).length (strl ((done ++ [(s.data.toList.drop k).take 1]).map mkS))) := by
          show World.ownsRow _ _ _ _ _ _ _
          rw [← strl_mid, List.length_append]
          exact hown'
        clear hown' hb'
        go_wp2
        go_roundw
        case rel =>
          refine ⟨k + 1, _, done ++ [(s.data.toList.drop k).take 1], rfl, by omega, by simp; omega, by go_num, ?_, HO4.out, HB4.out⟩
          show _ = _
          rw [List.append_assoc, ← HD.out, HW.out]
          rfl
        case measure => simp [intOf]; omega
      | some j =>
        obtain ⟨hf, hj, h2⟩ := find_some HV.out hk hI
        have hn1 := stN_some hI
        rw [hf] at HFk
        rw [hn1] at HW
        have j0 : (0 : Int) ≤ j := by omega
        have k2 : (k : Int) + 2 ≤ s.size := by omega
        clear hf hn1 hI hdl hLr hlf
        go_wp2_with (first
          | (go_at_call 51
             refine HFk.out.mono ?_
             rintro e w3 ⟨rfl, hb⟩
             have HBf := Lib.hid hb
             have HOw3 := Lib.hid (own_under HOw.out hb)
             have HB3 := Lib.hid (Nat.le_trans HB1.out hb.size)
             clear hb)
          | (at_builtin; refine app_row 32 9 (.string ⟨#[]⟩) 16 Tryd.underlying32 infoS rfl w3 rfl _ _ rfl (PW w1 w.heap.size V (.slice aw1 V.nw capw1) (.slice ac1 V.nc capc1) (.slice ae1 V.ne cape1)).heap.size v _ _ _ _ rfl rfl HOw3.out rfl rfl ?c1 ?c0 ?c2 ?c3 ?_))
        case c1 => simp [Value.oneCell']
        case c0 => exact HB3.out
        case c2 => unfold maxLen; omega
        case c3 => omega
        intro v' w' hown' hb'
        have HB4 := Lib.hid (hb' _ (HBr.out.trans (HBf.out.mono HB1.out)))
        have HO4 : Hid (w'.ownsRow (PW w1 w.heap.size V (.slice aw1 V.nw capw1) (.slice ac1 V.nc capc1) (.slice ae1 V.ne cape1)).heap.size 9 1 v' (done ++ [(s.data.toList.drop k).take 2]).length (strl ((done ++ [(s.data.toList.drop k).take 2]).map mkS))) := by
          show World.ownsRow _ _ _ _ _ _ _
          rw [← strl_mid, List.length_append]
          exact hown'
        clear hown' hb'
        go_wp2
        go_roundw
        case rel =>
          refine ⟨k + 2, _, done ++ [(s.data.toList.drop k).take 2], rfl, by omega, by simp; omega, by go_num, ?_, HO4.out, HB4.out⟩
          show _ = _
          rw [List.append_assoc, ← HD.out, HW.out]
          rfl
        case measure => simp [intOf]; omega
    · obtain rfl : k = s.size := by omega
      have HD2 : Hid (done = pcs V s.data.toList) := by
        show _ = _
        have := HD.out
        rw [List.drop_eq_nil_of_le (by rw [size_data]; exact Nat.le_refl _), pcs_nil, List.append_nil] at this
        exact this
      have HT := Lib.hid (own_TL HOw.out rfl)
      rw [HD2.out] at HT
      have HRr := Lib.hid (RS.keep HBr.out (show RS w V _ _ _ (PW w1 w.heap.size V (.slice aw1 V.nw capw1) (.slice ac1 V.nc capc1) (.slice ae1 V.ne cape1)) from HR.out))
      go_wp2
      go_ret
      exact ⟨_, rfl, HT.out, HRr.out.2.2⟩

set_option maxRecDepth 100000 in
set_option maxHeartbeats 8000000 in
theorem heavy_any (V : Loc) (hV : Ok V) (W C E : Value) (lo hi : Int) (w : World) (hM : LocM w V W C E) :
    Calls Tryd.prog 61 #[.agg (lcl V W C E), .int .i64 lo, .int .i64 hi] w fun e w' => e = .returned (cs (hvy V.wt lo hi)) ∧ Below w.heap.size w w' := by
  have HOf := Lib.hid (rof_any ⟨(bel (hvy V.wt lo hi) 256).toArray⟩ (by rw [mk_size]; have := bel_len (hvy V.wt lo hi) 256; omega))
  rw [cs_bel] at HOf
  obtain ⟨P, hP⟩ : ∃ P, hvy V.wt lo hi = P := ⟨_, rfl⟩
  rw [hP] at HOf
  have HP := Lib.hid hP
  rw [← cs_bel (hvy V.wt lo hi), cs_bel, hP]
  clear hP
  have HB0 : Hid (Below w.heap.size w ((w.alloc (.cells (lcl V W C E) 26)).alloc (.cells #[.int .u64 0, .int .u64 0, .int .u64 0, .int .u64 0] 43))) := ((Below.refl _ _).alloc (Nat.le_refl _) _).alloc (by simp) _
  have HA0 : Hid (At ((w.alloc (.cells (lcl V W C E) 26)).alloc (.cells #[.int .u64 0, .int .u64 0, .int .u64 0, .int .u64 0] 43)) (w.heap.size + 1) (fun _ => false)) := by
    show At _ _ _
    rw [cl_zero]
    have := At.new (w.alloc (.cells (lcl V W C E) 26)) (fun _ => false)
    simpa using this
  have HL0 : Hid (LAt ((w.alloc (.cells (lcl V W C E) 26)).alloc (.cells #[.int .u64 0, .int .u64 0, .int .u64 0, .int .u64 0] 43)) w.heap.size (lcl V W C E)) := by
    show LAt _ _ _
    unfold LAt
    rw [Below.heap_alloc _ _ _ (by simp)]
    exact heap_alloc_new w _
  have HZs : Hid (w.heap.size + 2 ≤ ((w.alloc (.cells (lcl V W C E) 26)).alloc (.cells #[.int .u64 0, .int .u64 0, .int .u64 0, .int .u64 0] 43)).heap.size) := by show _ ≤ _; simp
  have HPl := Lib.hid (bel_len P)
  have HPy := Lib.hid (bel_yes P)
  have HPn := Lib.hid (bel_no P)
  have HV := Lib.hid hV
  have hnw := hV.nw
  unfold cs at HOf ⊢
  clear hV
  obtain ⟨⟨aw, capw, rfl, _, hw⟩, ⟨ac, capc, rfl, _⟩, ⟨ae, cape, rfl, _⟩⟩ := hM
  rw [hnw] at hw
  rcases hw with hw | ⟨b, off, rfl, hwl, hwc⟩
  · omega
  have HC := Lib.hid hwc
  have HLt := Lib.hid hwl
  have hnwi : (V.nw : Int) = 256 := by rw [hnw]; rfl
  have HNw := Lib.hid hnwi
  clear hwc hwl hnw hnwi
  go_enter Tryd.func61, Tryd.ntmps61
  unfold lcl
  go_wp2
  go_loopw [7, 8] (fun o i wr => ∃ (k : Nat) (v : Value), v = o ∧ k ≤ 256 ∧ i = .int .i64 k ∧ Hid (wr.ownsRow (w.heap.size + 2) 5 1 v (bel P k).length (bys (bel P k))) ∧ Hid (Below (w.heap.size + 2) ((w.alloc (.cells (lcl V (.slice (some ⟨b, off, none⟩) V.nw capw) (.slice ac V.nc capc) (.slice ae V.ne cape)) 26)).alloc (.cells #[.int .u64 0, .int .u64 0, .int .u64 0, .int .u64 0] 43)) wr)) (fun _ i _ => 256 - (intOf i).toNat)
  case atStart => exact ⟨0, _, rfl, Nat.zero_le _, rfl, World.ownsRow_nil _ _ _ _, Below.refl _ _⟩
  case round =>
    obtain ⟨k, v, rfl, hk, rfl, HOw, HBr⟩ := hrel
    by_cases hlt : k < 256
    · have ki : (k : Int) < 256 := by omega
      have ki0 : (0 : Int) ≤ k := by omega
      have kw : (k : Int) < V.nw := by rw [HNw.out]; exact ki
      have hwp : IntKind.u8.wrap (k : Int) = (k : Int) := IntWalk.u8_in _ (by omega)
      have ck : wr.cell? ⟨b, off + k, none⟩ = some (.int .i64 (V.wt k)) := by
        have h1 := (HB0.out.trans (HBr.out.mono (by omega))).cell (p := ⟨b, off + k, none⟩) (by exact HLt.out)
        rw [h1]
        have := HC.out k 0 hlt (by decide)
        simpa [wtF] using this
      have hLr := HL0.out.under HBr.out (by omega)
      have l1 := hLr.cell 1
      unfold lcl at l1
      have hpk : P k = (decide (lo ≤ V.wt k) && decide (V.wt k ≤ hi)) := by rw [← HP.out]; rfl
      obtain ⟨X, hX⟩ : ∃ X, V.wt k = X := ⟨_, rfl⟩
      rw [hX] at ck hpk
      clear hX hLr
      simp only [List.getElem?_toArray, List.getElem?_cons_succ, List.getElem?_cons_zero] at l1
      by_cases h1 : lo ≤ X
      · by_cases h2 : X ≤ hi
        · have hp : P k = true := by rw [hpk, decide_eq_true h1, decide_eq_true h2]; rfl
          have HY := Lib.hid (HPy.out k hp)
          have HLn := HPl.out k
          clear hpk hp
          go_wp2_with (first
            | (at_builtin; refine app_row 80 5 (.int .u8 0) 1 Tryd.underlying80 infoU rfl wr rfl _ _ rfl (w.heap.size + 2) v _ _ _ _ rfl rfl HOw.out rfl rfl ?c1 ?c0 ?c2 ?c3 ?_))
          case c1 => simp [Value.oneCell']
          case c0 => exact Nat.le_trans HZs.out HBr.out.size
          case c2 => unfold maxLen; omega
          case c3 => omega
          intro v' w' hown' hb'
          have HB1 := Lib.hid (hb' _ HBr.out)
          have HO1 : Hid (w'.ownsRow (w.heap.size + 2) 5 1 v' (bel P (k + 1)).length (bys (bel P (k + 1)))) := by
            show World.ownsRow _ _ _ _ _ _ _
            rw [HY.out, bys_app, bys_ofNat k hlt, List.length_append]
            exact hown'
          clear hown' hb'
          go_wp2
          go_roundw
          case rel => exact ⟨k + 1, _, rfl, by omega, by go_num, HO1.out, HB1.out⟩
          case measure => simp [intOf]; omega
        · have hp : P k = false := by rw [hpk, decide_eq_false h2]; simp
          have HY := Lib.hid (HPn.out k hp)
          clear hpk hp
          go_wp2
          go_roundw
          case rel => exact ⟨k + 1, _, rfl, by omega, by go_num, by show World.ownsRow _ _ _ _ _ _ _; rw [HY.out]; exact HOw.out, HBr.out⟩
          case measure => simp [intOf]; omega
      · have hp : P k = false := by rw [hpk, decide_eq_false h1]; simp
        have HY := Lib.hid (HPn.out k hp)
        clear hpk hp
        go_wp2
        go_roundw
        case rel => exact ⟨k + 1, _, rfl, by omega, by go_num, by show World.ownsRow _ _ _ _ _ _ _; rw [HY.out]; exact HOw.out, HBr.out⟩
        case measure => simp [intOf]; omega
    · obtain rfl : k = 256 := by omega
      have hcv := conv_bys HOw.out rfl
      have HAr := Lib.hid (HA0.out.below HBr.out (by omega))
      have HBw := Lib.hid (HB0.out.trans (HBr.out.mono (by omega)))
      go_wp2_with (first
        | (go_at_call 46
           refine (HOf.out _).mono ?_
           rintro e w1 ⟨rfl, hb⟩
           have HB1 := Lib.hid (HBw.out.trans (hb.mono HBw.out.size))
           have B1 := HAr.out.below hb HAr.out.lt
           have HA1 := Lib.hid B1
           obtain ⟨⟨d0, d1⟩, ⟨d2, d3⟩, hg⟩ := B1.words
           clear B1 hb
           unfold cl))
      exact bodyPost_ret (v := cs P) (ret_cs (q := P) Tryd.results61 _ _ (w.heap.size + 1) (by simp) (HA1.out.put4 _)) rfl ⟨rfl, below_put4 HB1.out _ (Nat.le_succ _) _⟩
end Go.Proofs.YtoijbjndafcedaaDoor
