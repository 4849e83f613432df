/- RxLwP. -/
import Derived.Test.YtphiaagppcbefaaGreatDoorPk45
import Derived.Deep.QuietTactic
import Derived.BigQuiet
set_option linter.unusedVariables false
namespace Go.Proofs.YtphiaagppcbefaaGreatDoor
open Go.RowKit
theorem par_p (s : ByteArray) (fl : Int) (F : F) (W : World) (x y : Nat) (hM : LocM W Ldef (.slice (some ⟨x, 0, none⟩) 256 y) (.slice none 0 0) (.slice none 0 0)) (hT : TB W) (hr : parT ⟨s, fl, Ldef⟩ = (⟨3, noSet, 0, 0, 0, F⟩, 0, 0)) :
    Calls Tryz.prog 11 #[.string s, .int .i64 fl, (.agg (lcl Ldef (.slice (some ⟨x, 0, none⟩) 256 y) (.slice none 0 0) (.slice none 0 0)))] W fun e w' => ∃ ad cap, e = .returned (.tuple #[.agg #[.int .i64 3, .int .u64 0, .int .u64 0, .int .u64 0, .int .u64 0, .int .i64 0, .int .i64 0, .int .i64 0, .slice ad F.len cap], .int .i64 0, .int .i64 0]) ∧ SV w' (Frm W.heap.size) F (.slice ad F.len cap) ∧ Below W.heap.size W w' := by
  refine (parse_rx W ⟨s, fl, Ldef⟩ ⟨_, _, _⟩ hM hT.1 hT.2).mono ?_
  rw [hr]
  rintro e w' ⟨v, rfl, ⟨sv, rfl, hsv⟩, hb⟩
  obtain ⟨ad, cap, rfl⟩ := slice_form hsv
  refine ⟨ad, cap, ?_, hsv, hb⟩
  unfold rowV
  show Ending.returned (.tuple #[.agg #[.int .i64 3, .int .u64 (wd noSet 0 64 : Nat), .int .u64 (wd noSet 64 64 : Nat), .int .u64 (wd noSet 128 64 : Nat), .int .u64 (wd noSet 192 64 : Nat), .int .i64 0, .int .i64 0, .int .i64 0, .slice ad F.len cap], .int .i64 0, .int .i64 0]) = _
  rw [wd_noSet.1, wd_noSet.2.1, wd_noSet.2.2.1, wd_noSet.2.2.2]
  rfl
theorem same_p (F : F) (W : World) (S R : Nat → Prop) (a1 a2 : Option Addr) (c1 c2 : Nat) (h1 : SV W S F (.slice a1 F.len c1)) (h2 : SV W R F (.slice a2 F.len c2)) (hw : F.len ≤ 1000000 ∧ widF F ≤ 1000000) :
    Calls Tryz.prog 13 #[.agg #[.int .i64 3, .int .u64 0, .int .u64 0, .int .u64 0, .int .u64 0, .int .i64 0, .int .i64 0, .int .i64 0, .slice a1 F.len c1], .agg #[.int .i64 3, .int .u64 0, .int .u64 0, .int .u64 0, .int .u64 0, .int .i64 0, .int .i64 0, .int .i64 0, .slice a2 F.len c2]] W fun e w' => e = .returned (.bool true) ∧ Below W.heap.size W w' := by
  have h := same_any F 3 0 0 0 noSet _ _ W S R h1 h2 hw
  rw [wd_noSet.1, wd_noSet.2.1, wd_noSet.2.2.1, wd_noSet.2.2.2] at h
  exact h
theorem byS_flag (s : ByteArray) (f g : Int) (L : Loc) (h : flg f 2 = flg g 2) (i : Nat) : byS ⟨s, f, L⟩ i = byS ⟨s, g, L⟩ i := by
  unfold byS foldT
  show (if flg f 2 = true then _ else _) = if flg g 2 = true then _ else _
  rw [h]
theorem plF_flag (s : ByteArray) (f g : Int) (L : Loc) (h : flg f 2 = flg g 2) : ∀ k, plF ⟨s, f, L⟩ k = plF ⟨s, g, L⟩ k
  | 0 => rfl
  | k + 1 => by
    show (plF ⟨s, f, L⟩ k).push (setR (byS ⟨s, f, L⟩ k)) = _
    rw [plF_flag s f g L h k, byS_flag s f g L h k]
    rfl
theorem node_p {w5 : World} {S : Nat → Prop} {F : F} {ad : Option Addr} {cap n : Nat} (h : SV w5 S F (.slice ad n cap)) (hl : F.len = n) (k : Nat) (hk : k < n) (st : Nat → Bool) (hn : F.nth k = setR st) :
    ∃ b i0, ad = some ⟨b, i0, none⟩ ∧ ∀ wx, Below w5.heap.size w5 wx → wx.cell? ⟨b, i0 + k * 9, none⟩ = some (.int .i64 2) ∧ wx.cell? ⟨b, i0 + k * 9 + 1, none⟩ = some (.int .u64 (wd st 0 64 : Nat)) ∧ wx.cell? ⟨b, i0 + k * 9 + 2, none⟩ = some (.int .u64 (wd st 64 64 : Nat)) ∧ wx.cell? ⟨b, i0 + k * 9 + 3, none⟩ = some (.int .u64 (wd st 128 64 : Nat)) ∧ wx.cell? ⟨b, i0 + k * 9 + 4, none⟩ = some (.int .u64 (wd st 192 64 : Nat)) := by
  obtain ⟨zs, ad2, cap2, he, hcap, hfv, hcells⟩ := h
  cases he
  obtain ⟨b, i0, rfl, _, hbl, hce⟩ : ∃ b i, ad = some ⟨b, i, none⟩ ∧ S b ∧ b < w5.heap.size ∧ ∀ j u, zs[j]? = some u → w5.cell? ⟨b, i + j, none⟩ = some u := by
    rcases hcells with h0 | h0
    · omega
    · exact h0
  obtain ⟨sv2, hsv2, hrow⟩ := FV.nth k hfv (by omega)
  rw [hn] at hrow
  have hcell : ∀ wx, Below w5.heap.size w5 wx → ∀ j u, (rowV 2 st 0 0 0 sv2)[j]? = some u → wx.cell? ⟨b, i0 + k * 9 + j, none⟩ = some u := fun wx hb j u hu => by
    rw [hb.cell (by exact hbl), Nat.add_assoc]
    exact hce _ u (hrow j u hu)
  exact ⟨b, i0, rfl, fun wx hb => ⟨hcell wx hb 0 _ rfl, hcell wx hb 1 _ rfl, hcell wx hb 2 _ rfl, hcell wx hb 3 _ rfl, hcell wx hb 4 _ rfl⟩⟩
set_option maxRecDepth 100000 in
set_option maxHeartbeats 8000000 in
theorem plain_long (s : ByteArray) (fl : Int) (w : World) (hT : TB w) (h : 100 < s.size) : Calls Tryz.prog 6 #[.string s, .int .i64 fl] w fun e w' => e = .returned (.bool true) ∧ Below w.heap.size w w' := by
  have hi : (100 : Int) < s.size := by omega
  have hi0 : True := trivial
  have HA := Lib.hid (fun W (h : TB W) => aw_rx W h)
  have HT := Lib.hid hT
  clear hT
  go_enter Tryz.func6, Tryz.ntmps6
  go_wp2_with (first
    | (go_at_call 10; refine (HA.out _ HT.out).mono ?_; rintro e w1 ⟨rfl, hb⟩; have HB := Lib.hid hb; clear hb)
    )
  go_ret
  exact ⟨rfl, HB.out⟩
set_option maxRecDepth 100000 in
set_option maxHeartbeats 8000000 in
theorem plain_not (s : ByteArray) (fl : Int) (w : World) (hT : TB w) (h : s.size ≤ 100) (hn : ¬ PlS s) : Calls Tryz.prog 6 #[.string s, .int .i64 fl] w fun e w' => e = .returned (.bool true) ∧ Below w.heap.size w w' := by
  have hi : ¬ (100 : Int) < s.size := by omega
  have HS := Lib.hid (plain_any s (by omega) w)
  rw [decide_eq_false hn] at HS
  have HA := Lib.hid (fun W (h : TB W) => aw_rx W h)
  have HT := Lib.hid hT
  clear hT
  go_enter Tryz.func6, Tryz.ntmps6
  go_wp2_with (first
    | (go_at_call 18; refine HS.out.mono ?_; rintro e w1 ⟨rfl, hw⟩; subst hw)
    | (go_at_call 10; refine (HA.out _ HT.out).mono ?_; rintro e w1 ⟨rfl, hb⟩; have HB := Lib.hid hb; clear hb)
    )
  go_ret
  exact ⟨rfl, HB.out⟩
set_option maxRecDepth 100000 in
set_option maxHeartbeats 8000000 in
theorem plain_short (s : ByteArray) (fl : Int) (w : World) (hT : TB w) (h : s.size < 2) (hn : PlS s) : Calls Tryz.prog 6 #[.string s, .int .i64 fl] w fun e w' => e = .returned (.bool true) ∧ Below w.heap.size w w' := by
  have hi : ¬ (100 : Int) < s.size := by omega
  have hi2 : (s.size : Int) < 2 := by omega
  have HS := Lib.hid (plain_any s (by omega) w)
  rw [decide_eq_true hn] at HS
  have HA := Lib.hid (fun W (h : TB W) => aw_rx W h)
  have HT := Lib.hid hT
  clear hT
  go_enter Tryz.func6, Tryz.ntmps6
  go_wp2_with (first
    | (go_at_call 18; refine HS.out.mono ?_; rintro e w1 ⟨rfl, hw⟩; subst hw)
    | (go_at_call 10; refine (HA.out _ HT.out).mono ?_; rintro e w1 ⟨rfl, hb⟩; have HB := Lib.hid hb; clear hb)
    )
  go_ret
  exact ⟨rfl, HB.out⟩
def SW (w5 : World) (g : Nat) (wx : World) : Prop := Below w5.heap.size w5 wx ∧ ∃ q, At wx g q
theorem SW.keep {w5 w w' : World} {g : Nat} (h : SW w5 g w) (hb : Below w.heap.size w w') : SW w5 g w' := ⟨h.1.trans (hb.mono h.1.size), h.2.imp fun q hq => hq.below hb hq.lt⟩
theorem SW.drew {w5 w : World} {g : Nat} (h : SW w5 g w) : SW w5 g w.drew := h.keep (Below.refl _ _).drew
theorem SW.set {w5 w : World} {g : Nat} (h : SW w5 g w) (hg : w5.heap.size ≤ g) (q : Nat → Bool) : SW w5 g (w.setRow g (cl q)) := ⟨below_setRow h.1 hg _, q, h.2.elim fun _ hq => hq.set q⟩
set_option maxRecDepth 100000 in
set_option maxHeartbeats 8000000 in
theorem plain_main (s : ByteArray) (fl : Int) (w : World) (hT : TB w) (h : s.size ≤ 100) (h2 : 2 ≤ s.size) (hn : PlS s) : Calls Tryz.prog 6 #[.string s, .int .i64 fl] w fun e w' => e = .returned (.bool true) ∧ Below w.heap.size w w' := by
  have hi : ¬ (100 : Int) < s.size := by omega
  have hi2 : ¬ (s.size : Int) < 2 := by omega
  have hp1 := par_plx (c := ⟨s, (bits .or .i64 fl 1), Ldef⟩) hn h2 (by show s.size ≤ 256; omega)
  have hp2 := par_plx (c := ⟨s, (bits .andNot .i64 fl 1), Ldef⟩) hn h2 (by show s.size ≤ 256; omega)
  have hw := par_wid ⟨s, (bits .or .i64 fl 1), Ldef⟩ 1000 (by show s.size + 2 ≤ 1000; omega)
  rw [hp1] at hw
  have hfe := plF_flag s (bits .andNot .i64 fl 1) (bits .or .i64 fl 1) Ldef ((flg_not1 fl).trans (flg_or1 fl).symm) s.size
  change parT _ = (⟨3, noSet, 0, 0, 0, plF _ s.size⟩, 0, 0) at hp1 hp2
  rw [hfe] at hp2
  have hlen := plF_len ⟨s, (bits .or .i64 fl 1), Ldef⟩ s.size
  have hnth := plF_nth ⟨s, (bits .or .i64 fl 1), Ldef⟩ s.size
  change (plF _ s.size).len ≤ 1000 ∧ widF (plF _ s.size) ≤ 1000 at hw
  generalize plF ⟨s, (bits .or .i64 fl 1), Ldef⟩ s.size = F at hp1 hp2 hw hlen hnth
  have HP1 := Lib.hid (fun W x y hM hT => par_p s (bits .or .i64 fl 1) F W x y hM hT hp1)
  have HP2 := Lib.hid (fun W x y hM hT => par_p s (bits .andNot .i64 fl 1) F W x y hM hT hp2)
  have HSm := Lib.hid (fun W S R a1 a2 c1 c2 h1 h2 => same_p F W S R a1 a2 c1 c2 h1 h2 (by omega))
  rw [hlen] at HP1 HP2 HSm
  have HNth := Lib.hid hnth
  have HLen := Lib.hid hlen
  have HA := Lib.hid (fun W (h : TB W) => aw_rx W h)
  have HT := Lib.hid hT
  have HS := Lib.hid (plain_any s (by omega) w)
  rw [decide_eq_true hn] at HS
  have H0 := Lib.hid (Below.refl w.heap.size w)
  clear hT hp1 hp2 hw hfe hlen hnth
  go_enter Tryz.func6, Tryz.ntmps6
  go_upto_region 4 with (first
    | (go_at_call 18; refine HS.out.mono ?_; rintro e w1 ⟨rfl, hw⟩; subst hw)
    | (go_at_call 17; refine (default_any _).mono ?_; rintro e w1 ⟨x1, y1, _, rfl, hM, hb⟩; have HM1 := Lib.hid hM; have HD1 := Lib.hid (H0.out.trans (hb.mono H0.out.size)); clear hM hb)
    | (go_at_call 11; (with_reducible refine (HP1.out _ _ _ HM1.out (HT.out.keep HD1.out)).mono ?_); rintro e v1 ⟨ad1, cap1, rfl, hsv, hb⟩; have HV1 := Lib.hid hsv; have HE1 := Lib.hid (HD1.out.trans (hb.mono HD1.out.size)); clear hsv hb)
    )
  have hbn := HE1.out.alloc HE1.out.size (.cells #[.int .i64 3, .int .u64 0, .int .u64 0, .int .u64 0, .int .u64 0, .int .i64 0, .int .i64 0, .int .i64 0, .slice ad1 s.size cap1] 35)
  have hrn : RN (v1.alloc (.cells #[.int .i64 3, .int .u64 0, .int .u64 0, .int .u64 0, .int .u64 0, .int .i64 0, .int .i64 0, .int .i64 0, .slice ad1 s.size cap1] 35)) v1.heap.size #[.int .i64 3, .int .u64 0, .int .u64 0, .int .u64 0, .int .u64 0, .int .i64 0, .int .i64 0, .int .i64 0, .slice ad1 s.size cap1] := heap_alloc_new v1 _
  have hsn := HV1.out.far (Afar.below ((Below.refl v1.heap.size v1).alloc (Nat.le_refl _) (.cells #[.int .i64 3, .int .u64 0, .int .u64 0, .int .u64 0, .int .u64 0, .int .i64 0, .int .i64 0, .int .i64 0, .slice ad1 s.size cap1] 35)))
  generalize (v1.alloc (.cells #[.int .i64 3, .int .u64 0, .int .u64 0, .int .u64 0, .int .u64 0, .int .i64 0, .int .i64 0, .int .i64 0, .slice ad1 s.size cap1] 35)) = u1 at hbn hrn hsn ⊢
  generalize v1.heap.size = eb at hrn ⊢
  have HBw := Lib.hid hbn
  have HRn := Lib.hid hrn
  have HSn := Lib.hid hsn
  have HT1 := Lib.hid (HT.out.keep hbn)
  have HU0 := Lib.hid (Below.refl u1.heap.size u1)
  clear hbn hrn hsn HM1 HD1 HV1 HE1 HP1
  go_upto_region 5 with (first
    | (go_at_call 17; refine (default_any _).mono ?_; rintro e w4 ⟨x4, y4, _, rfl, hM, hb⟩; have HM4 := Lib.hid hM; have HD4 := Lib.hid (HU0.out.trans (hb.mono HU0.out.size)); clear hM hb)
    | (go_at_call 11; (with_reducible refine (HP2.out _ _ _ HM4.out (HT1.out.keep HD4.out)).mono ?_); rintro e v4 ⟨ad4, cap4, rfl, hsv, hb⟩; have HV4 := Lib.hid hsv; have HE4 := Lib.hid (HD4.out.trans (hb.mono HD4.out.size)); clear hsv hb)
    )
  have hbn := HE4.out.alloc HE4.out.size (.cells #[.int .i64 3, .int .u64 0, .int .u64 0, .int .u64 0, .int .u64 0, .int .i64 0, .int .i64 0, .int .i64 0, .slice ad4 s.size cap4] 35)
  have hrn : RN (v4.alloc (.cells #[.int .i64 3, .int .u64 0, .int .u64 0, .int .u64 0, .int .u64 0, .int .i64 0, .int .i64 0, .int .i64 0, .slice ad4 s.size cap4] 35)) v4.heap.size #[.int .i64 3, .int .u64 0, .int .u64 0, .int .u64 0, .int .u64 0, .int .i64 0, .int .i64 0, .int .i64 0, .slice ad4 s.size cap4] := heap_alloc_new v4 _
  have hsn := HV4.out.far (Afar.below ((Below.refl v4.heap.size v4).alloc (Nat.le_refl _) (.cells #[.int .i64 3, .int .u64 0, .int .u64 0, .int .u64 0, .int .u64 0, .int .i64 0, .int .i64 0, .int .i64 0, .slice ad4 s.size cap4] 35)))
  generalize (v4.alloc (.cells #[.int .i64 3, .int .u64 0, .int .u64 0, .int .u64 0, .int .u64 0, .int .i64 0, .int .i64 0, .int .i64 0, .slice ad4 s.size cap4] 35)) = u4 at hbn hrn hsn ⊢
  generalize v4.heap.size = ec at hrn ⊢
  have hr1 := HRn.out.below hbn
  have hs1 := HSn.out.far (Afar.below hbn)
  have HSb := Lib.hid hsn
  have HT4 := Lib.hid (HT1.out.keep hbn)
  have HB4 := Lib.hid (HBw.out.trans (hbn.mono HBw.out.size))
  have HR4 := Lib.hid hr1
  have HSa := Lib.hid hs1
  have a0 : u4.cell? ⟨eb, 0, none⟩ = some (.int .i64 3) := hr1.cell 0
  have a1 : u4.cell? ⟨eb, 1, none⟩ = some (.int .u64 0) := hr1.cell 1
  have a2 : u4.cell? ⟨eb, 2, none⟩ = some (.int .u64 0) := hr1.cell 2
  have a3 : u4.cell? ⟨eb, 3, none⟩ = some (.int .u64 0) := hr1.cell 3
  have a4 : u4.cell? ⟨eb, 4, none⟩ = some (.int .u64 0) := hr1.cell 4
  have a5 : u4.cell? ⟨eb, 5, none⟩ = some (.int .i64 0) := hr1.cell 5
  have a6 : u4.cell? ⟨eb, 6, none⟩ = some (.int .i64 0) := hr1.cell 6
  have a7 : u4.cell? ⟨eb, 7, none⟩ = some (.int .i64 0) := hr1.cell 7
  have a8 : u4.cell? ⟨eb, 8, none⟩ = some (.slice ad1 s.size cap1) := hr1.cell 8
  have b0 : u4.cell? ⟨ec, 0, none⟩ = some (.int .i64 3) := hrn.cell 0
  have b1 : u4.cell? ⟨ec, 1, none⟩ = some (.int .u64 0) := hrn.cell 1
  have b2 : u4.cell? ⟨ec, 2, none⟩ = some (.int .u64 0) := hrn.cell 2
  have b3 : u4.cell? ⟨ec, 3, none⟩ = some (.int .u64 0) := hrn.cell 3
  have b4 : u4.cell? ⟨ec, 4, none⟩ = some (.int .u64 0) := hrn.cell 4
  have b5 : u4.cell? ⟨ec, 5, none⟩ = some (.int .i64 0) := hrn.cell 5
  have b6 : u4.cell? ⟨ec, 6, none⟩ = some (.int .i64 0) := hrn.cell 6
  have b7 : u4.cell? ⟨ec, 7, none⟩ = some (.int .i64 0) := hrn.cell 7
  have b8 : u4.cell? ⟨ec, 8, none⟩ = some (.slice ad4 s.size cap4) := hrn.cell 8
  clear hbn hrn hsn hr1 hs1 HM4 HD4 HV4 HE4 HP2 HBw HRn HSn HU0 HT1
  go_wp2_with (first
    | (go_at_call 13; (with_reducible refine (HSm.out _ _ _ _ _ _ _ HSa.out HSb.out).mono ?_); rintro e w5 ⟨rfl, hb⟩; have HB5 := Lib.hid (HB4.out.trans (hb.mono HB4.out.size)); have hr5 := HR4.out.below hb; have HS5 := Lib.hid (HSa.out.far (Afar.below hb)); have HT5 := Lib.hid (HT4.out.keep hb); clear a0 a1 a2 a3 a4 a5 a6 a7 a8 b0 b1 b2 b3 b4 b5 b6 b7 b8; have HR5 := Lib.hid hr5; have a0 : w5.cell? ⟨eb, 0, none⟩ = some (.int .i64 3) := hr5.cell 0; have a8 : w5.cell? ⟨eb, 8, none⟩ = some (.slice ad1 s.size cap1) := hr5.cell 8; clear hb hr5 HR4 HSa HSb HB4 HT4)
    )
  have HFl : Hid (∀ k, k < s.size → F.nth k = setR (byS ⟨s, (bits .or .i64 fl 1), Ldef⟩ k)) := HNth
  have HU5 := Lib.hid (Below.refl w5.heap.size w5)
  go_loopw [11] (fun i wr => ∃ k : Nat, k ≤ s.size ∧ i = .int .i64 k ∧ Hid (Below w5.heap.size w5 wr)) (fun i _ => s.size - (intOf i).toNat)
  case atStart => exact ⟨0, Nat.zero_le _, rfl, HU5.out⟩
  case round =>
    obtain ⟨k, hk, rfl, HB⟩ := hrel
    by_cases hkn : k < s.size
    · have ki : (k : Int) < s.size := by omega
      have ki0 : (0 : Int) ≤ k := by omega
      have ki1 : (0 : Int) ≤ (k : Int) + 1 := by omega
      have ki2 : (k : Int) + 1 ≤ s.size := by omega
      have hwr : IntKind.i64.wrap ((k : Int) + 1) = (k : Int) + 1 := by rw [IntKind.wrap_i64]; omega
      have hnt : ((k : Int) + 1).toNat = k + 1 := by omega
      have hle1 : (k : Int) ≤ (k : Int) + 1 := by omega
      have hX := (gb s k).toNat_lt
      have hex : (s.extract k (k + 1)).data.toList = [gb s k] := by
        rw [ext_data, Nat.add_sub_cancel_left]
        apply List.ext_getElem?
        intro j
        rw [List.getElem?_take, List.getElem?_drop, gb_list]
        by_cases hj : j < 1
        · obtain rfl : j = 0 := by omega
          rw [if_pos hj, Nat.add_zero, if_pos hkn]
          rfl
        · rw [if_neg hj]
          obtain ⟨j, rfl⟩ : ∃ q, j = q + 1 := ⟨j - 1, by omega⟩
          rfl
      have hes : (s.extract k (k + 1)).size = 1 := by
        rw [ByteArray.size_extract]
        omega
      obtain ⟨b, i0, had, hcf⟩ := node_p HS5.out HLen.out k hkn _ (HNth.out k hkn)
      subst had
      obtain ⟨Q, hQ⟩ : ∃ Q, byS ⟨s, (bits .or .i64 fl 1), Ldef⟩ k = Q := ⟨_, rfl⟩
      rw [hQ] at hcf
      have CF := Lib.hid hcf
      have hset : ∀ z : UInt8, ∀ c, c < 256 → setOf [z] c = between z.toNat z.toNat c := fun z c _ => by
        unfold setOf between
        rw [Bool.eq_iff_iff]
        simp only [List.any_cons, List.any_nil, Bool.or_false, beq_iff_eq, Bool.and_eq_true, decide_eq_true_eq]
        omega
      have hcmp : ∀ w, (binOp .neq 32 (.agg #[.int .u64 (wd (Q) 0 64 : Nat), .int .u64 (wd (Q) 64 64 : Nat), .int .u64 (wd (Q) 128 64 : Nat), .int .u64 (wd (Q) 192 64 : Nat)]) (.agg #[.int .u64 (wd (Q) 0 64 : Nat), .int .u64 (wd (Q) 64 64 : Nat), .int .u64 (wd (Q) 128 64 : Nat), .int .u64 (wd (Q) 192 64 : Nat)])).run Tryz.prog w = .ok (.bool false) w := fun w => by
        have := neq_cs Q Q w
        rw [eqc_self] at this
        exact this
      by_cases hfl : flg fl 2 = true
      · have hz : ¬ bits .and .i64 fl 2 = 0 := fun e => by
          unfold flg at hfl
          rw [e] at hfl
          cases hfl
        have hz1 : (bits .and .i64 fl 2 == 0) = false := by simpa using hz
        have hz2 : (bits .and .i64 fl 2 != 0) = true := by simpa using hz
        have hfold := fold_def ⟨s, (bits .or .i64 fl 1), Ldef⟩ vld_defR ((flg_or1 fl).trans hfl) (gb s k).toNat hX
        have HOf : Hid (∀ W, Calls Tryz.prog 19 #[.string (s.extract k (k + 1))] W fun e w' => e = .returned (cs (setOf [gb s k])) ∧ Below W.heap.size W w') := Lib.hid fun W => by
          have := rof_any (s.extract k (k + 1)) (by omega) W
          rw [hex] at this
          exact this
        have HLow : Hid (∀ W x y, LocM W Ldef (.slice (some ⟨x, 0, none⟩) 256 y) (.slice none 0 0) (.slice none 0 0) → Calls Tryz.prog 21 #[(.agg (lcl Ldef (.slice (some ⟨x, 0, none⟩) 256 y) (.slice none 0 0) (.slice none 0 0))), .string (s.extract k (k + 1))] W fun e w' => e = .returned (.string ⟨#[lowC (gb s k).toNat]⟩) ∧ Below W.heap.size W w') := Lib.hid fun W x y hM => by
          have := rLow_rx Ldef _ _ _ (s.extract k (k + 1)) (by omega) W hM
          rw [hex, vld_defR] at this
          unfold mapT at this
          rw [List.map_cons, gb_low _ hX] at this
          exact this
        have HUpp : Hid (∀ W x y, LocM W Ldef (.slice (some ⟨x, 0, none⟩) 256 y) (.slice none 0 0) (.slice none 0 0) → Calls Tryz.prog 22 #[(.agg (lcl Ldef (.slice (some ⟨x, 0, none⟩) 256 y) (.slice none 0 0) (.slice none 0 0))), .string (s.extract k (k + 1))] W fun e w' => e = .returned (.string ⟨#[upC (gb s k).toNat]⟩) ∧ Below W.heap.size W w') := Lib.hid fun W x y hM => by
          have := rUp_rx Ldef _ _ _ (s.extract k (k + 1)) (by omega) W hM
          rw [hex, vld_defR] at this
          unfold mapT at this
          rw [List.map_cons, gb_upp _ hX] at this
          exact this
        have HOl : Hid (∀ W, Calls Tryz.prog 19 #[.string ⟨#[lowC (gb s k).toNat]⟩] W fun e w' => e = .returned (cs (setOf [lowC (gb s k).toNat])) ∧ Below W.heap.size W w') := Lib.hid fun W => rof_any ⟨#[lowC (gb s k).toNat]⟩ (by show 1 ≤ 300; omega) W
        have HOu : Hid (∀ W, Calls Tryz.prog 19 #[.string ⟨#[upC (gb s k).toNat]⟩] W fun e w' => e = .returned (cs (setOf [upC (gb s k).toNat])) ∧ Below W.heap.size W w') := Lib.hid fun W => rof_any ⟨#[upC (gb s k).toNat]⟩ (by show 1 ≤ 300; omega) W
        have HUn : Hid (∀ W, Calls Tryz.prog 20 #[cs (setOf [lowC (gb s k).toNat]), cs (setOf [upC (gb s k).toNat])] W fun e w' => e = .returned (cs Q) ∧ Below W.heap.size W w') := Lib.hid fun W => by
          have := runion_any (setOf [lowC (gb s k).toNat]) (setOf [upC (gb s k).toNat]) W
          rw [cs_congr (fun c => setOf [lowC (gb s k).toNat] c || setOf [upC (gb s k).toNat] c) Q (fun c hc => by
            rw [← hQ]
            unfold byS
            show _ = foldT ⟨s, (bits .or .i64 fl 1), Ldef⟩ (between (gb s k).toNat (gb s k).toNat) c
            rw [hfold]
            unfold setOf
            rw [low_nat _ hX, upp_nat _ hX]
            rw [Bool.eq_iff_iff]
            simp only [List.any_cons, List.any_nil, Bool.or_false, Bool.or_eq_true, Bool.and_eq_true, decide_eq_true_eq, beq_iff_eq, low_nat _ hX, upp_nat _ hX]
            (repeat' split) <;> omega)] at this
          exact this
        clear hcf hfold hex hes hX hset hfl hQ
        go_upto_region 11 with (first
          | (go_at_call 19; (with_reducible refine (HOf.out _).mono ?_); rintro e w6 ⟨rfl, hb⟩; have HB6 := Lib.hid (HB.out.trans (hb.mono HB.out.size)); unfold cs cl; clear hb))
        have hb7 := HB6.out.alloc HB6.out.size (.cells #[.int .u64 (wd (setOf [gb s k]) 0 64 : Nat), .int .u64 (wd (setOf [gb s k]) 64 64 : Nat), .int .u64 (wd (setOf [gb s k]) 128 64 : Nat), .int .u64 (wd (setOf [gb s k]) 192 64 : Nat)] 32)
        have hat : At (w6.alloc (.cells #[.int .u64 (wd (setOf [gb s k]) 0 64 : Nat), .int .u64 (wd (setOf [gb s k]) 64 64 : Nat), .int .u64 (wd (setOf [gb s k]) 128 64 : Nat), .int .u64 (wd (setOf [gb s k]) 192 64 : Nat)] 32)) w6.heap.size (setOf [gb s k]) := heap_alloc_new w6 _
        have hg5 := HB6.out.size
        generalize (w6.alloc (.cells #[.int .u64 (wd (setOf [gb s k]) 0 64 : Nat), .int .u64 (wd (setOf [gb s k]) 64 64 : Nat), .int .u64 (wd (setOf [gb s k]) 128 64 : Nat), .int .u64 (wd (setOf [gb s k]) 192 64 : Nat)] 32)) = w7 at hb7 hat ⊢
        generalize w6.heap.size = g at hat hg5 ⊢
        have HB7 := Lib.hid (show SW w5 g w7 from ⟨hb7, _, hat⟩)
        clear hb7 hat HB6 HOf
        go_upto_region 12 with fail
        refine wp_region_held_drew (S := SW w5 g) (by kernel_rfl) ?_ (fun hHeld => ?_)
        · exact HB7.out.drew
        refine wpAnyH_take (i := 1) (v := ?ev1) rfl (by kernel_rfl) (by kernel_rfl) (by kernel_rfl) (fun _ _ _ h => h) (Or.inl ⟨by rfl, ?ey1⟩) (by assumption) ?er1
        case ey1 =>
          intro wx hSw
          clear hSw
          go_simp
          first | done | (with_reducible rfl)
        (try simp only [Act.put, List.getElem_toArray, List.getElem_cons_succ, List.getElem_cons_zero, List.setIfInBounds_toArray, List.set_cons_zero, List.set_cons_succ])
        refine wpAnyH_take (i := 2) (v := ?ev2) rfl (by kernel_rfl) (by kernel_rfl) (by kernel_rfl) (fun _ _ _ h => h) (Or.inl ⟨by rfl, ?ey2⟩) (by assumption) ?er2
        case ey2 =>
          intro wx hSw
          clear hSw
          go_simp
          first | done | (with_reducible rfl)
        (try simp only [Act.put, List.getElem_toArray, List.getElem_cons_succ, List.getElem_cons_zero, List.setIfInBounds_toArray, List.set_cons_zero, List.set_cons_succ])
        refine wpAnyH_take (i := 3) (v := ?ev3) rfl (by kernel_rfl) (by kernel_rfl) (by kernel_rfl) (fun _ _ _ h => h) (Or.inl ⟨by rfl, ?ey3⟩) (by assumption) ?er3
        case ey3 =>
          intro wx hSw
          clear hSw
          go_simp
          first | done | (with_reducible rfl)
        (try simp only [Act.put, List.getElem_toArray, List.getElem_cons_succ, List.getElem_cons_zero, List.setIfInBounds_toArray, List.set_cons_zero, List.set_cons_succ])
        refine wpAnyH_take (i := 4) (v := ?ev4) rfl (by kernel_rfl) (by kernel_rfl) (by kernel_rfl) (fun _ _ _ h => h) (Or.inl ⟨by rfl, ?ey4⟩) (by assumption) ?er4
        case ey4 =>
          intro wx hSw
          clear hSw
          go_simp
          first | done | (with_reducible rfl)
        (try simp only [Act.put, List.getElem_toArray, List.getElem_cons_succ, List.getElem_cons_zero, List.setIfInBounds_toArray, List.set_cons_zero, List.set_cons_succ])
        refine wpAnyH_take (i := 5) (v := ?ev5) rfl (by kernel_rfl) (by kernel_rfl) (by kernel_rfl) (fun _ _ _ h => h) (Or.inl ⟨by rfl, ?ey5⟩) (by assumption) ?er5
        case ey5 =>
          intro wx hSw
          clear hSw
          go_simp
          first | done | (with_reducible rfl)
        (try simp only [Act.put, List.getElem_toArray, List.getElem_cons_succ, List.getElem_cons_zero, List.setIfInBounds_toArray, List.set_cons_zero, List.set_cons_succ])
        refine wpAnyH_take (i := 9) (v := ?ev9) rfl (by kernel_rfl) (by kernel_rfl) (by kernel_rfl) (fun _ _ _ h => h) (Or.inl ⟨by rfl, ?ey9⟩) (by assumption) ?er9
        case ey9 =>
          intro wx hSw
          clear hSw
          go_simp
          first | done | (with_reducible rfl)
        (try simp only [Act.put, List.getElem_toArray, List.getElem_cons_succ, List.getElem_cons_zero, List.setIfInBounds_toArray, List.set_cons_zero, List.set_cons_succ])
        refine wpAnyH_take (i := 10) (v := ?ev10) rfl (by kernel_rfl) (by kernel_rfl) (by kernel_rfl) (fun _ _ _ h => h) (Or.inl ⟨by rfl, ?ey10⟩) (by assumption) ?er10
        case ey10 =>
          intro wx hSw
          clear hSw
          go_simp
          first | done | (with_reducible rfl)
        (try simp only [Act.put, List.getElem_toArray, List.getElem_cons_succ, List.getElem_cons_zero, List.setIfInBounds_toArray, List.set_cons_zero, List.set_cons_succ])
        refine wpAnyH_take (i := 11) (v := ?ev11) rfl (by kernel_rfl) (by kernel_rfl) (by kernel_rfl) (fun _ _ _ h => h) (Or.inl ⟨by rfl, ?ey11⟩) (by assumption) ?er11
        case ey11 =>
          intro wx hSw
          clear hSw
          go_simp
          first | done | (with_reducible rfl)
        (try simp only [Act.put, List.getElem_toArray, List.getElem_cons_succ, List.getElem_cons_zero, List.setIfInBounds_toArray, List.set_cons_zero, List.set_cons_succ])
        refine wpAnyH_take (i := 12) (v := ?ev12) rfl (by kernel_rfl) (by kernel_rfl) (by kernel_rfl) (fun _ _ _ h => h) (Or.inl ⟨by rfl, ?ey12⟩) (by assumption) ?er12
        case ey12 =>
          intro wx hSw
          clear hSw
          go_simp
          first | done | (with_reducible rfl)
        (try simp only [Act.put, List.getElem_toArray, List.getElem_cons_succ, List.getElem_cons_zero, List.setIfInBounds_toArray, List.set_cons_zero, List.set_cons_succ])
        refine wpAnyH_take (i := 13) (v := ?ev13) rfl (by kernel_rfl) (by kernel_rfl) (by kernel_rfl) (fun _ _ _ h => h) (Or.inl ⟨by rfl, ?ey13⟩) (by assumption) ?er13
        case ey13 =>
          intro wx hSw
          clear hSw
          go_simp
          first | done | (with_reducible rfl)
        (try simp only [Act.put, List.getElem_toArray, List.getElem_cons_succ, List.getElem_cons_zero, List.setIfInBounds_toArray, List.set_cons_zero, List.set_cons_succ])
        refine wpAnyH_ready (rs := [0]) (by kernel_rfl) (by simp) ?_
        refine AllReadyH.cons rfl (fun K hK => ?_) AllReadyH.nil
        go_simp
        go_at_call 17
        refine (default_any _).mono ?_
        rintro e w10 ⟨x1, y1, _, rfl, hM1, hb1⟩
        refine hK.out _ _ ?_ (fun hHeld1 => ?_)
        · exact hHeld.keep hb1
        clear hK K
        (try simp only [Act.put, List.getElem_toArray, List.getElem_cons_zero, List.setIfInBounds_toArray, List.set_cons_zero, List.set_cons_succ])
        refine wpAnyH_ready (rs := [6]) (by kernel_rfl) (by simp) ?_
        refine AllReadyH.cons rfl (fun K hK => ?_) AllReadyH.nil
        go_simp
        go_at_call 21
        refine (HLow.out _ _ _ hM1).mono ?_
        rintro e w11 ⟨rfl, hb2⟩
        refine hK.out _ _ ?_ (fun hHeld2 => ?_)
        · exact hHeld1.keep hb2
        clear hK K
        (try simp only [Act.put, List.getElem_toArray, List.getElem_cons_succ, List.getElem_cons_zero, List.setIfInBounds_toArray, List.set_cons_zero, List.set_cons_succ])
        refine wpAnyH_ready (rs := [7]) (by kernel_rfl) (by simp) ?_
        refine AllReadyH.cons rfl (fun K hK => ?_) AllReadyH.nil
        go_simp
        go_at_call 19
        refine (HOl.out _).mono ?_
        rintro e w12 ⟨rfl, hb3⟩
        refine hK.out _ _ ?_ (fun hHeld3 => ?_)
        · exact hHeld2.keep hb3
        clear hK K
        (try simp only [Act.put, List.getElem_toArray, List.getElem_cons_succ, List.getElem_cons_zero, List.setIfInBounds_toArray, List.set_cons_zero, List.set_cons_succ])
        refine wpAnyH_ready (rs := [8]) (by kernel_rfl) (by simp) ?_
        refine AllReadyH.cons rfl (fun K hK => ?_) AllReadyH.nil
        go_simp
        go_at_call 17
        refine (default_any _).mono ?_
        rintro e w13 ⟨x4, y4, _, rfl, hM4, hb4⟩
        refine hK.out _ _ ?_ (fun hHeld4 => ?_)
        · exact hHeld3.keep hb4
        clear hK K
        (try simp only [Act.put, List.getElem_toArray, List.getElem_cons_succ, List.getElem_cons_zero, List.setIfInBounds_toArray, List.set_cons_zero, List.set_cons_succ])
        refine wpAnyH_ready (rs := [14]) (by kernel_rfl) (by simp) ?_
        refine AllReadyH.cons rfl (fun K hK => ?_) AllReadyH.nil
        go_simp
        go_at_call 22
        refine (HUpp.out _ _ _ hM4).mono ?_
        rintro e w14 ⟨rfl, hb5⟩
        refine hK.out _ _ ?_ (fun hHeld5 => ?_)
        · exact hHeld4.keep hb5
        clear hK K
        (try simp only [Act.put, List.getElem_toArray, List.getElem_cons_succ, List.getElem_cons_zero, List.setIfInBounds_toArray, List.set_cons_zero, List.set_cons_succ])
        refine wpAnyH_ready (rs := [15]) (by kernel_rfl) (by simp) ?_
        refine AllReadyH.cons rfl (fun K hK => ?_) AllReadyH.nil
        go_simp
        go_at_call 19
        refine (HOu.out _).mono ?_
        rintro e w15 ⟨rfl, hb6⟩
        refine hK.out _ _ ?_ (fun hHeld6 => ?_)
        · exact hHeld5.keep hb6
        clear hK K
        (try simp only [Act.put, List.getElem_toArray, List.getElem_cons_succ, List.getElem_cons_zero, List.setIfInBounds_toArray, List.set_cons_zero, List.set_cons_succ])
        refine wpAnyH_ready (rs := [16]) (by kernel_rfl) (by simp) ?_
        refine AllReadyH.cons rfl (fun K hK => ?_) AllReadyH.nil
        go_simp
        go_at_call 20
        refine (HUn.out _).mono ?_
        rintro e w16 ⟨rfl, hb7⟩
        refine hK.out _ _ ?_ (fun hHeld7 => ?_)
        · exact hHeld6.keep hb7
        clear hK K
        (try simp only [Act.put, List.getElem_toArray, List.getElem_cons_succ, List.getElem_cons_zero, List.setIfInBounds_toArray, List.set_cons_zero, List.set_cons_succ])
        obtain ⟨r8, hr8⟩ := hHeld7.2
        refine wpAnyH_ready (rs := [17]) (by kernel_rfl) (by simp) ?_
        refine AllReadyH.cons rfl (fun K hK => ?_) AllReadyH.nil
        rw [if_pos (by rfl)]
        refine wp_store_row 32 _ _ rfl g (cl Q) rfl rfl 32 _ hr8 info_cs rfl (cl_one Q) ?_
        refine hK.out _ _ ?_ (fun hHeld8 => ?_)
        · exact hHeld7.set hg5 Q
        clear hK K
        (try simp only [Act.put, List.getElem_toArray, List.getElem_cons_succ, List.getElem_cons_zero])
        refine wpAnyH_done (by kernel_rfl) ?_ _
        have hb9 := hHeld8.1
        have at9 := hr8.set Q
        generalize (w16.setRow g (cl Q)) = w9 at hb9 at9 ⊢
        clear hHeld hHeld1 hHeld2 hHeld3 hHeld4 hHeld5 hHeld6 hHeld7 hHeld8 hr8 hM1 hM4 hb1 hb2 hb3 hb4 hb5 hb6 hb7 HLow HUpp HOl HOu HUn HB7 HB
        go_upto_region 13 with fail
        have HB9 := Lib.hid hb9
        obtain ⟨c0, c1, c2, c3, c4⟩ := CF.out w9 hb9
        have a8 : w9.cell? ⟨eb, 8, none⟩ = some (.slice (some ⟨b, i0, none⟩) s.size cap1) := (HR5.out.below hb9).cell 8
        obtain ⟨⟨x0, x1⟩, ⟨x2, x3⟩, x4⟩ := at9.words
        clear hb9 at9
        go_quiet (fail)
        go_wp2
        go_roundw
        case rel => exact ⟨k + 1, by omega, by go_num, by exact HB9.out.trans (below_drewN (Below.refl _ _) nq)⟩
        case measure => simp [intOf]; omega
      · have hfl2 : flg fl 2 = false := by simpa using hfl
        have hz : bits .and .i64 fl 2 = 0 := by
          unfold flg at hfl2
          simpa using hfl2
        have hz1 : (bits .and .i64 fl 2 == 0) = true := by simpa using hz
        have hz2 : (bits .and .i64 fl 2 != 0) = false := by simpa using hz
        have hQ2 : between (gb s k).toNat (gb s k).toNat = Q := by
          rw [← hQ]
          unfold byS foldT
          rw [if_neg (by show ¬ flg (bits .or .i64 fl 1) 2 = true; rw [flg_or1, hfl2]; decide)]
        have HOf : Hid (∀ W, Calls Tryz.prog 19 #[.string (s.extract k (k + 1))] W fun e w' => e = .returned (cs Q) ∧ Below W.heap.size W w') := Lib.hid fun W => by
          have := rof_any (s.extract k (k + 1)) (by omega) W
          rw [hex, cs_congr _ _ (hset (gb s k)), hQ2] at this
          exact this
        clear hcf hex hes hX hset hfl hfl2 hQ hQ2
        go_upto_region 11 with (first
          | (go_at_call 19; (with_reducible refine (HOf.out _).mono ?_); rintro e w6 ⟨rfl, hb⟩; have HB6 := Lib.hid (HB.out.trans (hb.mono HB.out.size)); unfold cs cl; clear hb))
        have hb9 := HB6.out.alloc HB6.out.size (.cells #[.int .u64 (wd (Q) 0 64 : Nat), .int .u64 (wd (Q) 64 64 : Nat), .int .u64 (wd (Q) 128 64 : Nat), .int .u64 (wd (Q) 192 64 : Nat)] 32)
        have at9 : At (w6.alloc (.cells #[.int .u64 (wd (Q) 0 64 : Nat), .int .u64 (wd (Q) 64 64 : Nat), .int .u64 (wd (Q) 128 64 : Nat), .int .u64 (wd (Q) 192 64 : Nat)] 32)) w6.heap.size Q := heap_alloc_new w6 _
        generalize (w6.alloc (.cells #[.int .u64 (wd (Q) 0 64 : Nat), .int .u64 (wd (Q) 64 64 : Nat), .int .u64 (wd (Q) 128 64 : Nat), .int .u64 (wd (Q) 192 64 : Nat)] 32)) = w9 at hb9 at9 ⊢
        generalize w6.heap.size = g at at9 ⊢
        clear HB6 HOf HB
        go_upto_region 13 with fail
        have HB9 := Lib.hid hb9
        obtain ⟨c0, c1, c2, c3, c4⟩ := CF.out w9 hb9
        have a8 : w9.cell? ⟨eb, 8, none⟩ = some (.slice (some ⟨b, i0, none⟩) s.size cap1) := (HR5.out.below hb9).cell 8
        obtain ⟨⟨x0, x1⟩, ⟨x2, x3⟩, x4⟩ := at9.words
        clear hb9 at9
        go_quiet (fail)
        go_wp2
        go_roundw
        case rel => exact ⟨k + 1, by omega, by go_num, by exact HB9.out.trans (below_drewN (Below.refl _ _) nq)⟩
        case measure => simp [intOf]; omega
    · obtain rfl : k = s.size := by omega
      have HB9 := Lib.hid (HB5.out.trans (HB.out.mono HB5.out.size))
      have HT9 := Lib.hid (HT5.out.keep HB.out)
      clear HB
      go_wp2_with (first
        | (go_at_call 10; refine (HA.out _ HT9.out).mono ?_; rintro e w6 ⟨rfl, hb⟩; have HBz := Lib.hid (HB9.out.trans (hb.mono HB9.out.size)); clear hb)
        )
      go_ret
      exact ⟨rfl, HBz.out⟩
theorem plain_law (s : ByteArray) (fl : Int) (w : World) (hT : TB w) : Calls Tryz.prog 6 #[.string s, .int .i64 fl] w fun e w' => e = .returned (.bool true) ∧ Below w.heap.size w w' := by
  by_cases h : s.size ≤ 100
  · by_cases hn : PlS s
    · by_cases h2 : 2 ≤ s.size
      · exact plain_main s fl w hT h h2 hn
      · exact plain_short s fl w hT (by omega) hn
    · exact plain_not s fl w hT h hn
  · exact plain_long s fl w hT (by omega)
end Go.Proofs.YtphiaagppcbefaaGreatDoor
