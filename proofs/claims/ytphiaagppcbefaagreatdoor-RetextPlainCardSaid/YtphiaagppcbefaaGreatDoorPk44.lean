/- RxLwF, RxFrame. -/
import Derived.Test.YtphiaagppcbefaaGreatDoorPk42
import Derived.Test.YtphiaagppcbefaaGreatDoorPk40
import Derived.Test.YtphiaagppcbefaaGreatDoorPk43
import Derived.WalkKit
import Derived.ProofKit
import Derived.OpenShut
import Derived.Lay
import Derived.LaidMore
import Derived.LaidLaws
import Derived.SizedLaws
import Derived.SliceStrings
import Derived.Laws.IdiomArrays
import Derived.Lib.LaidTab
import Derived.Deep.DeepHandedRow
import Derived.Deep.Slices
import Derived.Shelf.Vars
set_option linter.unusedVariables false
namespace Go.Proofs.YtphiaagppcbefaaGreatDoor
open Go.RowKit
def NoB (s : ByteArray) : Prop := ∀ i, i < s.size → (gb s i).toNat ≠ 92 ∧ (gb s i).toNat ≠ 91
instance (s : ByteArray) : Decidable (NoB s) := by unfold NoB; infer_instance
set_option maxRecDepth 100000 in
set_option maxHeartbeats 8000000 in
theorem simple_any (s : ByteArray) (hs : s.size ≤ 100000) (w : World) : Calls Tryz.prog 23 #[.string s] w fun e w' => e = .returned (.bool (decide (NoB s))) ∧ w' = w := by
  have hsi : (s.size : Int) ≤ 100000 := by omega
  go_enter Tryz.func23, Tryz.ntmps23
  go_wp2
  go_loopw [3] (fun i wr => ∃ k : Nat, k ≤ s.size ∧ i = .int .i64 k ∧ wr = w ∧ Hid (∀ j, j < k → (gb s j).toNat ≠ 92 ∧ (gb s j).toNat ≠ 91)) (fun i _ => s.size - (intOf i).toNat)
  case atStart => exact ⟨0, Nat.zero_le _, rfl, rfl, fun j h => by omega⟩
  case round =>
    obtain ⟨k, hk, rfl, rfl, HN⟩ := hrel
    by_cases hkn : k < s.size
    · have ki : (k : Int) < s.size := by omega
      have ki0 : (0 : Int) ≤ k := by omega
      have hg := gb_at s k hkn
      by_cases h1 : s[k].toNat = 92
      · have e1 : ((s[k].toNat : Int) == 92) = true := by simp [h1]
        have HF := Lib.hid (decide_eq_false (fun (h : NoB s) => (h k hkn).1 (by rw [hg]; exact h1)))
        clear hg h1
        go_wp2
        go_ret
        exact ⟨by rw [HF.out] <;> rfl, rfl⟩
      · have e1 : ((s[k].toNat : Int) == 92) = false := by simpa using (by omega : ¬ (s[k].toNat : Int) = 92)
        by_cases h2 : s[k].toNat = 91
        · have e2 : ((s[k].toNat : Int) == 91) = true := by simp [h2]
          have HF := Lib.hid (decide_eq_false (fun (h : NoB s) => (h k hkn).2 (by rw [hg]; exact h2)))
          clear hg h2
          go_wp2
          go_ret
          exact ⟨by rw [HF.out] <;> rfl, rfl⟩
        · have e2 : ((s[k].toNat : Int) == 91) = false := by simpa using (by omega : ¬ (s[k].toNat : Int) = 91)
          have HN2 : Hid (∀ j, j < k + 1 → (gb s j).toNat ≠ 92 ∧ (gb s j).toNat ≠ 91) := Lib.hid fun j hj => by
            by_cases hjk : j < k
            · exact HN.out j hjk
            · obtain rfl : j = k := by omega
              rw [hg]
              exact ⟨h1, h2⟩
          clear hg h1 h2
          go_wp2
          go_roundw
          case rel => exact ⟨k + 1, by omega, by go_num, by first | rfl | trivial, HN2.out⟩
          case measure => simp [intOf]; omega
    · obtain rfl : k = s.size := by omega
      have HF := Lib.hid (decide_eq_true (show NoB s from HN.out))
      go_wp2
      go_ret
      exact ⟨by rw [HF.out] <;> rfl, rfl⟩
def ParX (W : World) (r : TN × Int × Nat) (e : Ending) (w' : World) : Prop := ∃ ad cap, e = .returned (.tuple #[.agg #[.int .i64 r.1.op, .int .u64 (wd r.1.st 0 64 : Nat), .int .u64 (wd r.1.st 64 64 : Nat), .int .u64 (wd r.1.st 128 64 : Nat), .int .u64 (wd r.1.st 192 64 : Nat), .int .i64 r.1.lo, .int .i64 r.1.hi, .int .i64 r.1.g, .slice ad r.1.args.len cap], .int .i64 r.2.1, .int .i64 (r.2.2 : Int)]) ∧ SV w' (Frm W.heap.size) r.1.args (.slice ad r.1.args.len cap) ∧ Below W.heap.size W w'
theorem par_x (s : ByteArray) (fl : Int) (W : World) (x y : Nat) (hM : LocM W Ldef (.slice (some ⟨x, 0, none⟩) 256 y) (.slice none 0 0) (.slice none 0 0)) (hT : TB W) (r : TN × Int × Nat) (hr : parT ⟨s, fl, Ldef⟩ = r) :
    Calls Tryz.prog 11 #[.string s, .int .i64 fl, (.agg (lcl Ldef (.slice (some ⟨x, 0, none⟩) 256 y) (.slice none 0 0) (.slice none 0 0)))] W (ParX W r) := by
  refine (parse_rx W ⟨s, fl, Ldef⟩ ⟨_, _, _⟩ hM hT.1 hT.2).mono ?_
  rw [hr]
  rintro e w' ⟨v, rfl, ⟨sv, rfl, hsv⟩, hb⟩
  obtain ⟨ad, cap, rfl⟩ := slice_form hsv
  exact ⟨ad, cap, rfl, hsv, hb⟩
theorem par_wid (c : CX) (m : Nat) (hm : c.s.size + 2 ≤ m) : (parT c).1.args.len ≤ m ∧ widF (parT c).1.args ≤ m := by
  unfold parT
  split
  · exact ⟨Nat.zero_le _, Nat.zero_le _⟩
  split
  · exact ⟨Nat.zero_le _, Nat.zero_le _⟩
  dsimp only
  split
  · exact ⟨Nat.zero_le _, Nat.zero_le _⟩
  split
  · exact ⟨Nat.zero_le _, Nat.zero_le _⟩
  · exact wd_all hm PS0
theorem cap_of (s : ByteArray) (h : NoB s) : Cap s ⟨(mapT (vld Ldef).upper s.data.toList).toArray⟩ := by
  rw [vld_defR]
  have hz : (⟨(mapT Ldef.upper s.data.toList).toArray⟩ : ByteArray).size = s.size := by
    show (mapT Ldef.upper s.data.toList).toArray.size = s.size
    unfold mapT
    simp
  refine ⟨hz, fun i hi => ?_, h⟩
  have h1 : (mapT Ldef.upper s.data.toList)[i]? = some (upC (gb s i).toNat) := by
    unfold mapT
    rw [List.getElem?_map, gb_list, if_pos hi]
    show some (gb Ldef.upper (gb s i).toNat) = _
    rw [gb_upp _ (gb s i).toNat_lt]
  show (mapT Ldef.upper s.data.toList).toArray[i]?.getD 0 = _
  rw [List.getElem?_toArray, h1]
  rfl
set_option maxRecDepth 100000 in
set_option maxHeartbeats 8000000 in
theorem folds_long (s : ByteArray) (fl : Int) (w : World) (hT : TB w) (h : 200 < s.size) : Calls Tryz.prog 7 #[.string s, .int .i64 fl] w fun e w' => e = .returned (.bool true) ∧ Below w.heap.size w w' := by
  have hi : (200 : Int) < s.size := by omega
  have HA := Lib.hid (aw_rx w hT)
  clear hT
  go_enter Tryz.func7, Tryz.ntmps7
  go_wp2_with (first
    | (go_at_call 10; refine HA.out.mono ?_; rintro e w1 ⟨rfl, hb⟩; have HB := Lib.hid hb; clear hb)
    )
  go_ret
  exact ⟨rfl, HB.out⟩
set_option maxRecDepth 100000 in
set_option maxHeartbeats 8000000 in
theorem folds_not (s : ByteArray) (fl : Int) (w : World) (hT : TB w) (h : s.size ≤ 200) (hn : ¬ NoB s) : Calls Tryz.prog 7 #[.string s, .int .i64 fl] w fun e w' => e = .returned (.bool true) ∧ Below w.heap.size w w' := by
  have hi : ¬ (200 : Int) < s.size := by omega
  have HA := Lib.hid (fun W (h : TB W) => aw_rx W h)
  have HT := Lib.hid hT
  have HS := Lib.hid (simple_any s (by omega) w)
  rw [decide_eq_false hn] at HS
  clear hT hn
  go_enter Tryz.func7, Tryz.ntmps7
  go_wp2_with (first
    | (go_at_call 23; refine HS.out.mono ?_; rintro e w1 ⟨rfl, hw⟩; subst hw)
    | (go_at_call 10; refine (HA.out _ HT.out).mono ?_; rintro e w1 ⟨rfl, hb⟩; have HB := Lib.hid hb; clear hb)
    )
  go_ret
  exact ⟨rfl, HB.out⟩
set_option maxRecDepth 100000 in
set_option maxHeartbeats 8000000 in
theorem folds_main (s : ByteArray) (fl : Int) (w : World) (hT : TB w) (h : s.size ≤ 200) (hn : NoB s) : Calls Tryz.prog 7 #[.string s, .int .i64 fl] w fun e w' => e = .returned (.bool true) ∧ Below w.heap.size w w' := by
  have hi : ¬ (200 : Int) < s.size := by omega
  have hcap := cap_of s hn
  have HUp : Hid (∀ W x y, LocM W Ldef (.slice (some ⟨x, 0, none⟩) 256 y) (.slice none 0 0) (.slice none 0 0) → Calls Tryz.prog 22 #[(.agg (lcl Ldef (.slice (some ⟨x, 0, none⟩) 256 y) (.slice none 0 0) (.slice none 0 0))), .string s] W fun e w' => e = .returned (.string ⟨(mapT (vld Ldef).upper s.data.toList).toArray⟩) ∧ Below W.heap.size W w') := Lib.hid fun W x y hM => rUp_rx Ldef _ _ _ s (by omega) W hM
  generalize (⟨(mapT (vld Ldef).upper s.data.toList).toArray⟩ : ByteArray) = u at hcap HUp
  have hp := cap_par (fl := bits .or .i64 fl 2) (L := Ldef) hcap vld_defR (flg_on fl)
  have hw := par_wid ⟨s, bits .or .i64 fl 2, Ldef⟩ 1000 (by show s.size + 2 ≤ 1000; omega)
  obtain ⟨r, hr⟩ : ∃ r, parT ⟨s, bits .or .i64 fl 2, Ldef⟩ = r := ⟨_, rfl⟩
  rw [hr] at hp hw
  have HP1 := Lib.hid (fun W x y hM hT => par_x s (bits .or .i64 fl 2) W x y hM hT r hr)
  have HP2 := Lib.hid (fun W x y hM hT => par_x u (bits .or .i64 fl 2) W x y hM hT r hp)
  have HSm := Lib.hid (fun W S R a1 c1 a2 c2 (h1 : SV W S r.1.args (.slice a1 r.1.args.len c1)) (h2 : SV W R r.1.args (.slice a2 r.1.args.len c2)) => same_any r.1.args r.1.op r.1.lo r.1.hi r.1.g r.1.st _ _ W S R h1 h2 (by omega))
  have HA := Lib.hid (fun W (h : TB W) => aw_rx W h)
  have HT := Lib.hid hT
  have HS := Lib.hid (simple_any s (by omega) w)
  rw [decide_eq_true hn] at HS
  have H0 := Lib.hid (Below.refl w.heap.size w)
  clear hT hn hcap hp hw hr
  go_enter Tryz.func7, Tryz.ntmps7
  go_upto_region 4 with (first
    | (go_at_call 23; refine HS.out.mono ?_; rintro e w1 ⟨rfl, hw⟩; subst hw)
    | (go_at_call 17; refine (default_any _).mono ?_; rintro e w1 ⟨x1, y1, _, rfl, hM, hb⟩; have HM1 := Lib.hid hM; have HD1 := Lib.hid (H0.out.trans (hb.mono H0.out.size)); clear hM hb)
    | (go_at_call 11; (with_reducible refine (HP1.out _ _ _ HM1.out (HT.out.keep HD1.out)).mono ?_); rintro e v1 ⟨ad1, cap1, rfl, hsv, hb⟩; have HV1 := Lib.hid hsv; have HE1 := Lib.hid (HD1.out.trans (hb.mono HD1.out.size)); clear hsv hb)
    )
  have hbn := HE1.out.alloc HE1.out.size (.cells #[.int .i64 r.1.op, .int .u64 (wd r.1.st 0 64 : Nat), .int .u64 (wd r.1.st 64 64 : Nat), .int .u64 (wd r.1.st 128 64 : Nat), .int .u64 (wd r.1.st 192 64 : Nat), .int .i64 r.1.lo, .int .i64 r.1.hi, .int .i64 r.1.g, .slice ad1 r.1.args.len cap1] 35)
  have hrn : RN (v1.alloc (.cells #[.int .i64 r.1.op, .int .u64 (wd r.1.st 0 64 : Nat), .int .u64 (wd r.1.st 64 64 : Nat), .int .u64 (wd r.1.st 128 64 : Nat), .int .u64 (wd r.1.st 192 64 : Nat), .int .i64 r.1.lo, .int .i64 r.1.hi, .int .i64 r.1.g, .slice ad1 r.1.args.len cap1] 35)) v1.heap.size #[.int .i64 r.1.op, .int .u64 (wd r.1.st 0 64 : Nat), .int .u64 (wd r.1.st 64 64 : Nat), .int .u64 (wd r.1.st 128 64 : Nat), .int .u64 (wd r.1.st 192 64 : Nat), .int .i64 r.1.lo, .int .i64 r.1.hi, .int .i64 r.1.g, .slice ad1 r.1.args.len cap1] := heap_alloc_new v1 _
  have hsn := HV1.out.far (Afar.below ((Below.refl v1.heap.size v1).alloc (Nat.le_refl _) (.cells #[.int .i64 r.1.op, .int .u64 (wd r.1.st 0 64 : Nat), .int .u64 (wd r.1.st 64 64 : Nat), .int .u64 (wd r.1.st 128 64 : Nat), .int .u64 (wd r.1.st 192 64 : Nat), .int .i64 r.1.lo, .int .i64 r.1.hi, .int .i64 r.1.g, .slice ad1 r.1.args.len cap1] 35)))
  generalize (v1.alloc (.cells #[.int .i64 r.1.op, .int .u64 (wd r.1.st 0 64 : Nat), .int .u64 (wd r.1.st 64 64 : Nat), .int .u64 (wd r.1.st 128 64 : Nat), .int .u64 (wd r.1.st 192 64 : Nat), .int .i64 r.1.lo, .int .i64 r.1.hi, .int .i64 r.1.g, .slice ad1 r.1.args.len cap1] 35)) = u1 at hbn hrn hsn ⊢
  generalize v1.heap.size = eb at hrn ⊢
  have HBw := Lib.hid hbn
  have HRn := Lib.hid hrn
  have HSn := Lib.hid hsn
  have HT1 := Lib.hid (HT.out.keep hbn)
  have HU0 := Lib.hid (Below.refl u1.heap.size u1)
  clear hbn hrn hsn HM1 HD1 HV1 HE1 HP1
  go_upto_region 5 with (first
    | (go_at_call 17; refine (default_any u1).mono ?_; rintro e w2 ⟨x2, y2, _, rfl, hM, hb⟩; have HM2 := Lib.hid hM; have HD2 := Lib.hid hb; clear hM hb)
    | (go_at_call 22; (with_reducible refine (HUp.out _ _ _ HM2.out).mono ?_); rintro e w3 ⟨rfl, hb⟩; have HD3 := Lib.hid (HD2.out.trans (hb.mono HD2.out.size)); clear hb)
    | (go_at_call 17; refine (default_any _).mono ?_; rintro e w4 ⟨x4, y4, _, rfl, hM, hb⟩; have HM4 := Lib.hid hM; have HD4 := Lib.hid (HD3.out.trans (hb.mono HD3.out.size)); clear hM hb)
    | (go_at_call 11; (with_reducible refine (HP2.out _ _ _ HM4.out (HT1.out.keep HD4.out)).mono ?_); rintro e v4 ⟨ad4, cap4, rfl, hsv, hb⟩; have HV4 := Lib.hid hsv; have HE4 := Lib.hid (HD4.out.trans (hb.mono HD4.out.size)); clear hsv hb)
    )
  have hbn := HE4.out.alloc HE4.out.size (.cells #[.int .i64 r.1.op, .int .u64 (wd r.1.st 0 64 : Nat), .int .u64 (wd r.1.st 64 64 : Nat), .int .u64 (wd r.1.st 128 64 : Nat), .int .u64 (wd r.1.st 192 64 : Nat), .int .i64 r.1.lo, .int .i64 r.1.hi, .int .i64 r.1.g, .slice ad4 r.1.args.len cap4] 35)
  have hrn : RN (v4.alloc (.cells #[.int .i64 r.1.op, .int .u64 (wd r.1.st 0 64 : Nat), .int .u64 (wd r.1.st 64 64 : Nat), .int .u64 (wd r.1.st 128 64 : Nat), .int .u64 (wd r.1.st 192 64 : Nat), .int .i64 r.1.lo, .int .i64 r.1.hi, .int .i64 r.1.g, .slice ad4 r.1.args.len cap4] 35)) v4.heap.size #[.int .i64 r.1.op, .int .u64 (wd r.1.st 0 64 : Nat), .int .u64 (wd r.1.st 64 64 : Nat), .int .u64 (wd r.1.st 128 64 : Nat), .int .u64 (wd r.1.st 192 64 : Nat), .int .i64 r.1.lo, .int .i64 r.1.hi, .int .i64 r.1.g, .slice ad4 r.1.args.len cap4] := heap_alloc_new v4 _
  have hsn := HV4.out.far (Afar.below ((Below.refl v4.heap.size v4).alloc (Nat.le_refl _) (.cells #[.int .i64 r.1.op, .int .u64 (wd r.1.st 0 64 : Nat), .int .u64 (wd r.1.st 64 64 : Nat), .int .u64 (wd r.1.st 128 64 : Nat), .int .u64 (wd r.1.st 192 64 : Nat), .int .i64 r.1.lo, .int .i64 r.1.hi, .int .i64 r.1.g, .slice ad4 r.1.args.len cap4] 35)))
  generalize (v4.alloc (.cells #[.int .i64 r.1.op, .int .u64 (wd r.1.st 0 64 : Nat), .int .u64 (wd r.1.st 64 64 : Nat), .int .u64 (wd r.1.st 128 64 : Nat), .int .u64 (wd r.1.st 192 64 : Nat), .int .i64 r.1.lo, .int .i64 r.1.hi, .int .i64 r.1.g, .slice ad4 r.1.args.len cap4] 35)) = u4 at hbn hrn hsn ⊢
  generalize v4.heap.size = ec at hrn ⊢
  have hr1 := HRn.out.below hbn
  have HSa := Lib.hid (HSn.out.far (Afar.below hbn))
  have HSb := Lib.hid hsn
  have HT4 := Lib.hid (HT1.out.keep hbn)
  have HBx := Lib.hid hbn
  have a0 : u4.cell? ⟨eb, 0, none⟩ = some (.int .i64 r.1.op) := hr1.cell 0
  have a1 : u4.cell? ⟨eb, 1, none⟩ = some (.int .u64 (wd r.1.st 0 64 : Nat)) := hr1.cell 1
  have a2 : u4.cell? ⟨eb, 2, none⟩ = some (.int .u64 (wd r.1.st 64 64 : Nat)) := hr1.cell 2
  have a3 : u4.cell? ⟨eb, 3, none⟩ = some (.int .u64 (wd r.1.st 128 64 : Nat)) := hr1.cell 3
  have a4 : u4.cell? ⟨eb, 4, none⟩ = some (.int .u64 (wd r.1.st 192 64 : Nat)) := hr1.cell 4
  have a5 : u4.cell? ⟨eb, 5, none⟩ = some (.int .i64 r.1.lo) := hr1.cell 5
  have a6 : u4.cell? ⟨eb, 6, none⟩ = some (.int .i64 r.1.hi) := hr1.cell 6
  have a7 : u4.cell? ⟨eb, 7, none⟩ = some (.int .i64 r.1.g) := hr1.cell 7
  have a8 : u4.cell? ⟨eb, 8, none⟩ = some (.slice ad1 r.1.args.len cap1) := hr1.cell 8
  have b0 : u4.cell? ⟨ec, 0, none⟩ = some (.int .i64 r.1.op) := hrn.cell 0
  have b1 : u4.cell? ⟨ec, 1, none⟩ = some (.int .u64 (wd r.1.st 0 64 : Nat)) := hrn.cell 1
  have b2 : u4.cell? ⟨ec, 2, none⟩ = some (.int .u64 (wd r.1.st 64 64 : Nat)) := hrn.cell 2
  have b3 : u4.cell? ⟨ec, 3, none⟩ = some (.int .u64 (wd r.1.st 128 64 : Nat)) := hrn.cell 3
  have b4 : u4.cell? ⟨ec, 4, none⟩ = some (.int .u64 (wd r.1.st 192 64 : Nat)) := hrn.cell 4
  have b5 : u4.cell? ⟨ec, 5, none⟩ = some (.int .i64 r.1.lo) := hrn.cell 5
  have b6 : u4.cell? ⟨ec, 6, none⟩ = some (.int .i64 r.1.hi) := hrn.cell 6
  have b7 : u4.cell? ⟨ec, 7, none⟩ = some (.int .i64 r.1.g) := hrn.cell 7
  have b8 : u4.cell? ⟨ec, 8, none⟩ = some (.slice ad4 r.1.args.len cap4) := hrn.cell 8
  clear hbn hrn hsn hr1 HM2 HD2 HD3 HM4 HD4 HV4 HE4 HP2
  go_wp2_with (first
    | (go_at_call 13; (with_reducible refine (HSm.out _ _ _ _ _ _ _ HSa.out HSb.out).mono ?_); rintro e w5 ⟨rfl, hb⟩; have HB5 := Lib.hid hb; clear hb)
    | (go_at_call 10; refine (HA.out _ (HT4.out.keep HB5.out)).mono ?_; rintro e w6 ⟨rfl, hb⟩; have HB6 := Lib.hid (HB5.out.trans (hb.mono HB5.out.size)); clear hb)
    )
  go_ret
  exact ⟨rfl, HBw.out.trans ((HBx.out.trans (HB6.out.mono HBx.out.size)).mono HBw.out.size)⟩
theorem folds_law (s : ByteArray) (fl : Int) (w : World) (hT : TB w) : Calls Tryz.prog 7 #[.string s, .int .i64 fl] w fun e w' => e = .returned (.bool true) ∧ Below w.heap.size w w' := by
  by_cases h : s.size ≤ 200
  · by_cases hn : NoB s
    · exact folds_main s fl w hT h hn
    · exact folds_not s fl w hT h hn
  · exact folds_long s fl w hT (by omega)
end Go.Proofs.YtphiaagppcbefaaGreatDoor
set_option linter.unusedVariables false
set_option maxRecDepth 100000
namespace Go.Proofs.YtphiaagppcbefaaGreatDoor
open Go.ChangeShapes Go.WideShapes Go.ChangeAt Go.RowKit
theorem witness_rowS {H : Type} {enc : TypeId × Value → H} {C : Checked} {os : Os} {f : FuncId} {fn : Func} {s : OpenSpec} {conds : List PathCond} {apart : Bool} {laid : List (String × DataW Unit)} (modest : Bool) (w0 : World) (args : Array Value) (hos : w0.os = os)
    (hsh : (w0.forCall (fun _ _ => 0) ⟨#[], args, []⟩).Shaped C.prog)
    (hok : Input.okWideB C.prog (w0.forCall (fun _ _ => 0) ⟨#[], args, []⟩) f ⟨#[], args, []⟩ = true)
    (hrow : s.preRow enc C.prog fn conds apart laid (w0.forCall (fun _ _ => 0) ⟨#[], args, []⟩).memory args) :
    ∃ (w : World) (tape : Tape) (i : Input), w.os = os ∧ (w.forCall tape i).Shaped C.prog ∧ i.vars = [] ∧ Input.okWide C.prog (w.forCall tape i) .any w.heap.size f i ∧
      s.preRow enc C.prog fn conds apart laid (w.forCall tape i).memory i.args ∧ ({ modest := modest } : Assume).holds C.prog (lone (Frame.enter C.prog f i.args .normal) [] (w.forCall tape i)) :=
  ⟨w0, fun _ _ => 0, ⟨#[], args, []⟩, hos, hsh, (Input.okWide_of_okWideB (base := 0) hok).1, (Input.okWide_of_okWideB hok).2, hrow, by
    simp only [Assume.holds]
    exact ⟨by simp, by simp, fun _ => Modest.zero, by simp, by simp⟩⟩
def tabName : String := "math/bits.deBruijn64tab"
def tabName2 : String := Rows.retextPlainRow.named.getD 1 ""
def laid1 : List (String × DataW Unit) := [(tabName, Rows.laid_math_bits_deBruijn64tab), (tabName2, Rows.laid_texttools_locale_standardClasses)]
theorem gTab : Tryz.prog.globalNamed tabName = some 0 := by kernel_rfl
theorem tTab : (Tryz.prog.globals[0]?).map (·.type) = some 124 := by kernel_rfl
theorem tab_laid : (Rows.laid_math_bits_deBruijn64tab : DataW Unit) = Lib.tabData .u8 (Lib.deBruijn64tab.map fun n : Nat => ((n : Nat) : Int)) := by
  unfold Rows.laid_math_bits_deBruijn64tab Lib.tabData Lib.deBruijn64tab
  rfl
theorem tab_of {W : World} (h : laidMetH Tryz.prog laid1 W) : tabAt W := by
  rw [MakeChecks.laidMetH_plain _ _ _ (by kernel_rfl)] at h
  unfold laid1 at h
  rw [tab_laid] at h
  have ht := Lib.tabIs_of_head gTab tTab Tryz.underlying124 Tryz.underlying5 (by kernel_rfl) (by kernel_rfl) h
  intro j hj
  have := Lib.TabIs.cell ht gTab j (by simpa using hj)
  rw [this]
  simp [List.getD, List.getElem?_eq_getElem hj]
theorem gTab2 : Tryz.prog.globalNamed tabName2 = some 1 := by kernel_rfl
theorem tTab2 : (Tryz.prog.globals[1]?).map (·.type) = some 143 := by kernel_rfl
theorem tab_laid2 : (Rows.laid_texttools_locale_standardClasses : DataW Unit) = .agg ((List.range 12).map fun i => .agg [.lit (.string (nmL2 i)), .lit (.string (rgL i))]) := rfl
theorem cells_tab : Tryz.prog.cellsOf 142 = 2 := by kernel_rfl
theorem cells_str : Tryz.prog.cellsOf 9 = 1 := by kernel_rfl
theorem fields_tab : ∃ f0 f1 : Field, Tryz.prog.underlying 142 = some (.struct #[f0, f1]) ∧ (f0.type = 9 ∧ f0.offset = 0) ∧ f1.type = 9 ∧ f1.offset = 1 := ⟨_, _, Tryz.underlying142, ⟨rfl, rfl⟩, rfl, rfl⟩
theorem mkS_of (s : ByteArray) (l : List UInt8) (h : s.data.toList = l) : s = mkS l := by
  subst h
  exact (Lib.mk_data s).symm
theorem ltab_of {W : World} (h : laidMetH Tryz.prog laid1 W) : ltabAt W := by
  rw [MakeChecks.laidMetH_plain _ _ _ (by kernel_rfl)] at h
  unfold laid1 at h
  rw [tab_laid2] at h
  obtain ⟨ps, ⟨_, _, _, _, _, _, _, _, _, _, htl, _⟩, _⟩ := h
  obtain ⟨g', t', cs, fuel, p, q, hg', ht', hvar, hd, _, _⟩ := htl
  obtain rfl := Option.some.inj (gTab2.symm.trans hg')
  obtain rfl := Option.some.inj (tTab2.symm.trans ht')
  obtain ⟨xs, m, _, hx, hl, hn, hel⟩ := DataW.trod_array Tryz.underlying143 hd
  rw [cells_tab] at hel
  have hxs : xs.map (·.1) = (List.range 12).map fun i => DataW.agg [.lit (.string (nmL2 i)), .lit (.string (rgL i))] := by
    have := congrArg Prod.fst hx
    simp only [DataW.agg.injEq] at this
    exact this.symm
  have key : ∀ i, i < 12 → cs[2 * i]? = some (.string (mkS (nmL2 i))) ∧ cs[2 * i + 1]? = some (.string (mkS (rgL i))) := by
    intro i hi
    obtain ⟨f0, f1, hu, ⟨ht0, ho0⟩, ht1, ho1⟩ := fields_tab
    have hy := hel i hi
    have hxi : i < xs.length := by omega
    rw [List.getElem?_eq_getElem hxi] at hy
    have h1 : (xs.map (·.1))[i]? = some (xs[i]).1 := by rw [List.getElem?_map, List.getElem?_eq_getElem hxi]; rfl
    rw [hxs, List.getElem?_map, List.getElem?_range hi] at h1
    simp only [Option.map_some, Option.some.injEq] at h1
    obtain ⟨y0, y1, k, hyx, hlen, t0, t1⟩ := trod_struct2 hu hy
    rw [ht0, ho0, cells_str] at t0
    rw [ht1, ho1, cells_str] at t1
    obtain ⟨s0, e0, rfl, _⟩ := DataW.trod_string Tryz.underlying9 t0
    obtain ⟨s1, e1, rfl, _⟩ := DataW.trod_string Tryz.underlying9 t1
    rw [hyx] at h1
    simp only [DataW.agg.injEq, List.cons.injEq, DataW.lit.injEq, Lit.string.injEq, and_true] at h1
    obtain ⟨h2, h3⟩ := h1
    have g0 := congrArg (fun l => l[0]?) e0
    have g1 := congrArg (fun l => l[0]?) e1
    simp only [List.getElem?_take, List.getElem?_drop, List.getElem?_cons_zero, Array.getElem?_toList] at g0 g1
    rw [mkS_of s0 _ h2.symm] at g0
    rw [mkS_of s1 _ h3.symm] at g1
    constructor
    · simpa [Nat.mul_comm] using g0
    · simpa [Nat.mul_comm] using g1
  intro j v hj
  have hj24 : j < 24 := by
    have := (Array.getElem?_eq_some_iff.1 hj).1
    exact this
  rw [World.var?_cell gTab2 hvar j]
  have hv : v = .string (mkS (tabS.getD j [])) := by
    unfold tabCells at hj
    rw [List.getElem?_toArray, List.getElem?_map] at hj
    have hlt : j < tabS.length := hj24
    rw [List.getElem?_eq_getElem hlt] at hj
    simp only [Option.map_some, Option.some.injEq] at hj
    rw [← hj]
    simp [List.getD, List.getElem?_eq_getElem hlt]
  subst hv
  by_cases he : j % 2 = 0
  · have := (key (j / 2) (by omega)).1
    have e : 2 * (j / 2) = j := by omega
    unfold nmL2 at this
    rw [e] at this
    exact this
  · have := (key (j / 2) (by omega)).2
    have e : 2 * (j / 2) + 1 = j := by omega
    unfold rgL at this
    rw [e] at this
    exact this
theorem max_of {W : World} (h : W.ShapedOpen Tryz.prog) : maxAt W :=
  cell_of_shapedOpen_int (P := Tryz.prog) (g := 2) (t := 3) (zero := #[.int .i64 0]) h (of_decide_eq_true (by kernel_rfl)) (by kernel_rfl) rfl (by kernel_rfl) (by kernel_rfl) Tryz.underlying3
theorem tb_of {W : World} (h : laidMetH Tryz.prog laid1 W) (hs : W.ShapedOpen Tryz.prog) : TB W := ⟨⟨tab_of h, max_of hs⟩, ltab_of h⟩
end Go.Proofs.YtphiaagppcbefaaGreatDoor
