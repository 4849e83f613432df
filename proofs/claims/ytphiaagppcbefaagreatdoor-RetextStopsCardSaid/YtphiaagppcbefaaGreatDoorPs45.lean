/- RxLwS. -/
import Derived.Test.YtphiaagppcbefaaGreatDoorPs44
set_option linter.unusedVariables false
namespace Go.Proofs.YtphiaagppcbefaaGreatDoor
open Go.RowKit
theorem par_e (s : ByteArray) (fl : Int) (W : World) (x y : Nat) (hM : LocM W Ldef (.slice (some ⟨x, 0, none⟩) 256 y) (.slice none 0 0) (.slice none 0 0)) (hT : TB W) (r : TN × Int × Nat) (hr : parT ⟨s, fl, Ldef⟩ = r) (z : Int) (k : Nat) (h1 : r.2.1 = z) (h2 : r.2.2 = k) :
    Calls Tryz.prog 11 #[.string s, .int .i64 fl, (.agg (lcl Ldef (.slice (some ⟨x, 0, none⟩) 256 y) (.slice none 0 0) (.slice none 0 0)))] W fun e w' => ∃ ad cap, e = .returned (.tuple #[.agg #[.int .i64 r.1.op, .int .u64 (wd r.1.st 0 64 : Nat), .int .u64 (wd r.1.st 64 64 : Nat), .int .u64 (wd r.1.st 128 64 : Nat), .int .u64 (wd r.1.st 192 64 : Nat), .int .i64 r.1.lo, .int .i64 r.1.hi, .int .i64 r.1.g, .slice ad r.1.args.len cap], .int .i64 z, .int .i64 (k : Int)]) ∧ Below W.heap.size W w' := by
  refine (par_x s fl W x y hM hT r hr).mono ?_
  rintro e w' ⟨ad, cap, rfl, hsv, hb⟩
  rw [h1, h2]
  exact ⟨ad, cap, rfl, hb⟩
set_option maxRecDepth 100000 in
set_option maxHeartbeats 8000000 in
theorem stops_long (s : ByteArray) (fl : Int) (w : World) (hT : TB w) (h : 200 < s.size) : Calls Tryz.prog 8 #[.string s, .int .i64 fl] w fun e w' => e = .returned (.bool true) ∧ Below w.heap.size w w' := by
  have hi : (200 : Int) < s.size := by omega
  have HA := Lib.hid (fun W (h : TB W) => aw_rx W h)
  have HT := Lib.hid hT
  have H0 := Lib.hid (Below.refl w.heap.size w)
  clear hT
  go_enter Tryz.func8, Tryz.ntmps8
  go_wp2_with (first
    | (go_at_call 10; refine (HA.out _ (HT.out.keep H0.out)).mono ?_; rintro e w9 ⟨rfl, hb⟩; have HB9 := Lib.hid (H0.out.trans (hb.mono H0.out.size)); clear hb)
    )
  go_ret
  exact ⟨rfl, HB9.out⟩
set_option maxRecDepth 100000 in
set_option maxHeartbeats 8000000 in
theorem stops_ok (s : ByteArray) (fl : Int) (w : World) (hT : TB w) (h : s.size ≤ 200) (r : TN × Int × Nat) (hr : parT ⟨s, fl, Ldef⟩ = r) (h1 : r.2.1 = 0) (h2 : r.2.2 = 0) : Calls Tryz.prog 8 #[.string s, .int .i64 fl] w fun e w' => e = .returned (.bool true) ∧ Below w.heap.size w w' := by
  have hi : ¬ (200 : Int) < s.size := by omega
  have HP1 := Lib.hid (fun W x y hM hT => par_e s fl W x y hM hT r hr 0 0 h1 h2)
  clear hr h1 h2
  have HA := Lib.hid (fun W (h : TB W) => aw_rx W h)
  have HT := Lib.hid hT
  have H0 := Lib.hid (Below.refl w.heap.size w)
  clear hT
  go_enter Tryz.func8, Tryz.ntmps8
  go_upto_region 4 with (first
    | (go_at_call 17; refine (default_any _).mono ?_; rintro e w1 ⟨x1, y1, _, rfl, hM, hb⟩; have HM1 := Lib.hid hM; have HD1 := Lib.hid (H0.out.trans (hb.mono H0.out.size)); clear hM hb)
    | (go_at_call 11; (with_reducible refine (HP1.out _ _ _ HM1.out (HT.out.keep HD1.out)).mono ?_); rintro e v1 ⟨ad1, cap1, rfl, hb⟩; have HE1 := Lib.hid (HD1.out.trans (hb.mono HD1.out.size)); clear hb)
    )
  have HU1 := Lib.hid (HE1.out.alloc HE1.out.size (.cells #[.int .i64 r.1.op, .int .u64 (wd r.1.st 0 64 : Nat), .int .u64 (wd r.1.st 64 64 : Nat), .int .u64 (wd r.1.st 128 64 : Nat), .int .u64 (wd r.1.st 192 64 : Nat), .int .i64 r.1.lo, .int .i64 r.1.hi, .int .i64 r.1.g, .slice ad1 r.1.args.len cap1] 35))
  generalize (v1.alloc (.cells #[.int .i64 r.1.op, .int .u64 (wd r.1.st 0 64 : Nat), .int .u64 (wd r.1.st 64 64 : Nat), .int .u64 (wd r.1.st 128 64 : Nat), .int .u64 (wd r.1.st 192 64 : Nat), .int .i64 r.1.lo, .int .i64 r.1.hi, .int .i64 r.1.g, .slice ad1 r.1.args.len cap1] 35)) = u1 at HU1 ⊢
  clear HM1 HD1 HE1
  go_wp2_with (first
    | (go_at_call 10; refine (HA.out _ (HT.out.keep HU1.out)).mono ?_; rintro e w9 ⟨rfl, hb⟩; have HB9 := Lib.hid (HU1.out.trans (hb.mono HU1.out.size)); clear hb)
    )
  go_ret
  exact ⟨rfl, HB9.out⟩
set_option maxRecDepth 100000 in
set_option maxHeartbeats 8000000 in
theorem stops_far (s : ByteArray) (fl : Int) (w : World) (hT : TB w) (h : s.size ≤ 200) (r : TN × Int × Nat) (hr : parT ⟨s, fl, Ldef⟩ = r) (z : Int) (k : Nat) (h1 : r.2.1 = z) (h2 : r.2.2 = k) (hz : z ≠ 0) (hk : k ≤ s.size) (hc : z ≠ 1 ∨ k = s.size) : Calls Tryz.prog 8 #[.string s, .int .i64 fl] w fun e w' => e = .returned (.bool true) ∧ Below w.heap.size w w' := by
  have hi : ¬ (200 : Int) < s.size := by omega
  have hz1 : (z == 0) = false := by simpa using hz
  have hk1 : ¬ (s.size : Int) < (k : Int) := by omega
  have hk0 : ¬ (k : Int) < 0 := by omega
  have HP1 := Lib.hid (fun W x y hM hT => par_e s fl W x y hM hT r hr z k h1 h2)
  clear hr h1 h2
  have HA := Lib.hid (fun W (h : TB W) => aw_rx W h)
  have HT := Lib.hid hT
  have H0 := Lib.hid (Below.refl w.heap.size w)
  clear hT
  go_enter Tryz.func8, Tryz.ntmps8
  go_upto_region 4 with (first
    | (go_at_call 17; refine (default_any _).mono ?_; rintro e w1 ⟨x1, y1, _, rfl, hM, hb⟩; have HM1 := Lib.hid hM; have HD1 := Lib.hid (H0.out.trans (hb.mono H0.out.size)); clear hM hb)
    | (go_at_call 11; (with_reducible refine (HP1.out _ _ _ HM1.out (HT.out.keep HD1.out)).mono ?_); rintro e v1 ⟨ad1, cap1, rfl, hb⟩; have HE1 := Lib.hid (HD1.out.trans (hb.mono HD1.out.size)); clear hb)
    )
  have HU1 := Lib.hid (HE1.out.alloc HE1.out.size (.cells #[.int .i64 r.1.op, .int .u64 (wd r.1.st 0 64 : Nat), .int .u64 (wd r.1.st 64 64 : Nat), .int .u64 (wd r.1.st 128 64 : Nat), .int .u64 (wd r.1.st 192 64 : Nat), .int .i64 r.1.lo, .int .i64 r.1.hi, .int .i64 r.1.g, .slice ad1 r.1.args.len cap1] 35))
  generalize (v1.alloc (.cells #[.int .i64 r.1.op, .int .u64 (wd r.1.st 0 64 : Nat), .int .u64 (wd r.1.st 64 64 : Nat), .int .u64 (wd r.1.st 128 64 : Nat), .int .u64 (wd r.1.st 192 64 : Nat), .int .i64 r.1.lo, .int .i64 r.1.hi, .int .i64 r.1.g, .slice ad1 r.1.args.len cap1] 35)) = u1 at HU1 ⊢
  clear HM1 HD1 HE1
  by_cases hz2 : z = 1
  · have hks : k = s.size := by rcases hc with h | h; exact absurd hz2 h; exact h
    subst hz2
    have hks1 : ((k : Int) == (s.size : Int)) = true := by rw [hks]; exact beq_self_eq_true _
    have hks2 : (k : Int) = (s.size : Int) := by omega
    clear hks hc
    go_wp2_with (first
      | (go_at_call 10; refine (HA.out _ (HT.out.keep HU1.out)).mono ?_; rintro e w9 ⟨rfl, hb⟩; have HB9 := Lib.hid (HU1.out.trans (hb.mono HU1.out.size)); clear hb)
      )
    go_ret
    exact ⟨rfl, HB9.out⟩
  · have hz3 : (z == 1) = false := by simpa using hz2
    have hz4 : (z != 1) = true := by simpa using hz2
    clear hc
    go_wp2_with (first
      | (go_at_call 10; refine (HA.out _ (HT.out.keep HU1.out)).mono ?_; rintro e w9 ⟨rfl, hb⟩; have HB9 := Lib.hid (HU1.out.trans (hb.mono HU1.out.size)); clear hb)
      )
    go_ret
    exact ⟨rfl, HB9.out⟩
set_option maxRecDepth 100000 in
set_option maxHeartbeats 8000000 in
theorem stops_main (s : ByteArray) (fl : Int) (w : World) (hT : TB w) (h : s.size ≤ 200) (r : TN × Int × Nat) (hr : parT ⟨s, fl, Ldef⟩ = r) (k : Nat) (h1 : r.2.1 = 1) (h2 : r.2.2 = k) (hk : k < s.size) : Calls Tryz.prog 8 #[.string s, .int .i64 fl] w fun e w' => e = .returned (.bool true) ∧ Below w.heap.size w w' := by
  have hi : ¬ (200 : Int) < s.size := by omega
  have hk1 : ¬ (s.size : Int) < (k : Int) := by omega
  have hk0 : ¬ (k : Int) < 0 := by omega
  have hk2 : ((k : Int) == (s.size : Int)) = false := by simpa using (by omega : ¬ (k : Int) = (s.size : Int))
  have hk3 : ¬ (k : Int) = (s.size : Int) := by omega
  have hwr : IntKind.i64.wrap ((k : Int) + 1) = (k : Int) + 1 := by rw [IntKind.wrap_i64]; omega
  have hnt : ((k : Int) + 1).toNat = k + 1 := by omega
  have hp1 : (0 : Int) ≤ (k : Int) + 1 := by omega
  have hp2 : (k : Int) + 1 ≤ s.size := by omega
  have hp3 : (0 : Int) ≤ (k : Int) := by omega
  have hp4 : (k : Int) ≤ s.size := by omega
  have hq1 : (parT ⟨s, fl, Ldef⟩).2.1 = 1 := by rw [hr]; exact h1
  have hq2 : (parT ⟨s, fl, Ldef⟩).2.2 = k := by rw [hr]; exact h2
  have hst := stop_here (fl := fl) (L := Ldef) (by omega) hq1 hq2 hk (pre_ext s (k + 1) hk)
  have hbe := stop_before (fl := fl) (L := Ldef) (by omega) hq1 hq2 (pre_ext s k (Nat.le_of_lt hk))
  obtain ⟨r2, hr2⟩ : ∃ r2, parT ⟨s.extract 0 (k + 1), fl, Ldef⟩ = r2 := ⟨_, rfl⟩
  obtain ⟨r3, hr3⟩ : ∃ r3, parT ⟨s.extract 0 k, fl, Ldef⟩ = r3 := ⟨_, rfl⟩
  rw [hr2] at hst
  rw [hr3] at hbe
  obtain ⟨z3, hz3⟩ : ∃ z3, r3.2.1 = z3 := ⟨_, rfl⟩
  obtain ⟨k3, hk33⟩ : ∃ k3, r3.2.2 = k3 := ⟨_, rfl⟩
  rw [hz3, hk33] at hbe
  have HP1 := Lib.hid (fun W x y hM hT => par_e s fl W x y hM hT r hr 1 k h1 h2)
  have HP2 := Lib.hid (fun W x y hM hT => par_e (s.extract 0 (k + 1)) fl W x y hM hT r2 hr2 1 k hst.1 hst.2)
  have HP3 := Lib.hid (fun W x y hM hT => par_e (s.extract 0 k) fl W x y hM hT r3 hr3 z3 k3 hz3 hk33)
  have HBe := Lib.hid hbe
  clear hr h1 h2 hq1 hq2 hst hbe hr2 hr3 hz3 hk33 hk
  have HA := Lib.hid (fun W (h : TB W) => aw_rx W h)
  have HT := Lib.hid hT
  have H0 := Lib.hid (Below.refl w.heap.size w)
  clear hT
  go_enter Tryz.func8, Tryz.ntmps8
  go_upto_region 4 with (first
    | (go_at_call 17; refine (default_any _).mono ?_; rintro e w1 ⟨x1, y1, _, rfl, hM, hb⟩; have HM1 := Lib.hid hM; have HD1 := Lib.hid (H0.out.trans (hb.mono H0.out.size)); clear hM hb)
    | (go_at_call 11; (with_reducible refine (HP1.out _ _ _ HM1.out (HT.out.keep HD1.out)).mono ?_); rintro e v1 ⟨ad1, cap1, rfl, hb⟩; have HE1 := Lib.hid (HD1.out.trans (hb.mono HD1.out.size)); clear hb)
    )
  have HU1 := Lib.hid (HE1.out.alloc HE1.out.size (.cells #[.int .i64 r.1.op, .int .u64 (wd r.1.st 0 64 : Nat), .int .u64 (wd r.1.st 64 64 : Nat), .int .u64 (wd r.1.st 128 64 : Nat), .int .u64 (wd r.1.st 192 64 : Nat), .int .i64 r.1.lo, .int .i64 r.1.hi, .int .i64 r.1.g, .slice ad1 r.1.args.len cap1] 35))
  generalize (v1.alloc (.cells #[.int .i64 r.1.op, .int .u64 (wd r.1.st 0 64 : Nat), .int .u64 (wd r.1.st 64 64 : Nat), .int .u64 (wd r.1.st 128 64 : Nat), .int .u64 (wd r.1.st 192 64 : Nat), .int .i64 r.1.lo, .int .i64 r.1.hi, .int .i64 r.1.g, .slice ad1 r.1.args.len cap1] 35)) = u1 at HU1 ⊢
  clear HM1 HD1 HE1
  go_upto_region 10 with fail
  go_cut [8, 9, 10] (fun p y n wx => ∃ pv : Value, p = pv ∧ y = .int .i64 1 ∧ n = .int .i64 (k : Int) ∧ Below w.heap.size w wx)
  case first =>
    refine wp_region_held_drew (S := Below w.heap.size w) (by kernel_rfl) ?_ (fun hHeld => ?_)
    · exact HU1.out.drew
    refine wpAnyH_take (i := 0) (v := ?p2v0) rfl (by kernel_rfl) (by kernel_rfl) (by kernel_rfl) (fun _ _ _ h => h) (Or.inl ⟨by rfl, ?p2y0⟩) (by assumption) ?p2r0
    case p2y0 =>
      intro wx hSw
      clear hSw
      go_simp
      first | done | (with_reducible rfl)
    (try simp only [Act.put, List.getElem_toArray, List.getElem_cons_zero, List.setIfInBounds_toArray, List.set_cons_zero, List.set_cons_succ])
    refine wpAnyH_take (i := 1) (v := ?p2v1) rfl (by kernel_rfl) (by kernel_rfl) (by kernel_rfl) (fun _ _ _ h => h) (Or.inl ⟨by rfl, ?p2y1⟩) (by assumption) ?p2r1
    case p2y1 =>
      intro wx hSw
      clear hSw
      go_simp
      first | done | (with_reducible rfl)
    (try simp only [Act.put, List.getElem_toArray, List.getElem_cons_succ, List.getElem_cons_zero, List.setIfInBounds_toArray, List.set_cons_zero, List.set_cons_succ])
    refine wpAnyH_take (i := 2) (v := ?p2v2) rfl (by kernel_rfl) (by kernel_rfl) (by kernel_rfl) (fun _ _ _ h => h) (Or.inl ⟨by rfl, ?p2y2⟩) (by assumption) ?p2r2
    case p2y2 =>
      intro wx hSw
      clear hSw
      go_simp
      first | done | (with_reducible rfl)
    (try simp only [Act.put, List.getElem_toArray, List.getElem_cons_succ, List.getElem_cons_zero, List.setIfInBounds_toArray, List.set_cons_zero, List.set_cons_succ])
    refine wpAnyH_take (i := 3) (v := ?p2v3) rfl (by kernel_rfl) (by kernel_rfl) (by kernel_rfl) (fun _ _ _ h => h) (Or.inl ⟨by rfl, ?p2y3⟩) (by assumption) ?p2r3
    case p2y3 =>
      intro wx hSw
      clear hSw
      go_simp
      first | done | (with_reducible rfl)
    (try simp only [Act.put, List.getElem_toArray, List.getElem_cons_succ, List.getElem_cons_zero, List.setIfInBounds_toArray, List.set_cons_zero, List.set_cons_succ])
    refine wpAnyH_take (i := 4) (v := ?p2v4) rfl (by kernel_rfl) (by kernel_rfl) (by kernel_rfl) (fun _ _ _ h => h) (Or.inl ⟨by rfl, ?p2y4⟩) (by assumption) ?p2r4
    case p2y4 =>
      intro wx hSw
      clear hSw
      go_simp
      first | done | (with_reducible rfl)
    (try simp only [Act.put, List.getElem_toArray, List.getElem_cons_succ, List.getElem_cons_zero, List.setIfInBounds_toArray, List.set_cons_zero, List.set_cons_succ])
    refine wpAnyH_ready (rs := [5, 11]) (by kernel_rfl) (by simp) ?_
    refine AllReadyH.cons rfl (fun K hK => ?_) (AllReadyH.cons rfl (fun K hK => ?_) AllReadyH.nil)
    · go_simp
      go_at_call 17
      refine (default_any _).mono ?_
      rintro e wdd ⟨xd, yd, _, rfl, hM, hbd⟩
      refine hK.out _ _ ?_ (fun hH1 => ?_)
      · exact hHeld.trans (hbd.mono hHeld.size)
      clear hK K
      (try simp only [Act.put, List.getElem_toArray, List.getElem_cons_succ, List.getElem_cons_zero, List.setIfInBounds_toArray, List.set_cons_zero, List.set_cons_succ])
      refine wpAnyH_ready (rs := [6, 11]) (by kernel_rfl) (by simp) ?_
      refine AllReadyH.cons rfl (fun K hK => ?_) (AllReadyH.cons rfl (fun K hK => ?_) AllReadyH.nil)
      · go_simp
        go_at_call 11
        (with_reducible refine (HP2.out _ _ _ hM (HT.out.keep hH1)).mono ?_)
        rintro e wp ⟨ad2, cap2, rfl, hbp⟩
        refine hK.out _ _ ?_ (fun hH2 => ?_)
        · exact hH1.trans (hbp.mono hH1.size)
        clear hK K
        (try simp only [Act.put, List.getElem_toArray, List.getElem_cons_succ, List.getElem_cons_zero, List.setIfInBounds_toArray, List.set_cons_zero, List.set_cons_succ])
        refine wpAnyH_take (i := 7) (v := ?q2v7) rfl (by kernel_rfl) (by kernel_rfl) (by kernel_rfl) (fun _ _ _ h => h) (Or.inl ⟨by rfl, ?q2y7⟩) (by assumption) ?q2r7
        case q2y7 =>
          intro wx hSw
          clear hSw
          go_simp
          first | done | (with_reducible rfl)
        (try simp only [Act.put, List.getElem_toArray, List.getElem_cons_succ, List.getElem_cons_zero, List.setIfInBounds_toArray, List.set_cons_zero, List.set_cons_succ])
        refine wpAnyH_take (i := 8) (v := ?q2v8) rfl (by kernel_rfl) (by kernel_rfl) (by kernel_rfl) (fun _ _ _ h => h) (Or.inl ⟨by rfl, ?q2y8⟩) (by assumption) ?q2r8
        case q2y8 =>
          intro wx hSw
          clear hSw
          go_simp
          first | done | (with_reducible rfl)
        (try simp only [Act.put, List.getElem_toArray, List.getElem_cons_succ, List.getElem_cons_zero, List.setIfInBounds_toArray, List.set_cons_zero, List.set_cons_succ])
        refine wpAnyH_take (i := 9) (v := ?q2v9) rfl (by kernel_rfl) (by kernel_rfl) (by kernel_rfl) (fun _ _ _ h => h) (Or.inl ⟨by rfl, ?q2y9⟩) (by assumption) ?q2r9
        case q2y9 =>
          intro wx hSw
          clear hSw
          go_simp
          first | done | (with_reducible rfl)
        (try simp only [Act.put, List.getElem_toArray, List.getElem_cons_succ, List.getElem_cons_zero, List.setIfInBounds_toArray, List.set_cons_zero, List.set_cons_succ])
        refine wpAnyH_take (i := 10) (v := ?q2v10) rfl (by kernel_rfl) (by kernel_rfl) (by kernel_rfl) (fun _ _ _ h => h) (Or.inl ⟨by rfl, ?q2y10⟩) (by assumption) ?q2r10
        case q2y10 =>
          intro wx hSw
          clear hSw
          go_simp
          first | done | (with_reducible rfl)
        (try simp only [Act.put, List.getElem_toArray, List.getElem_cons_succ, List.getElem_cons_zero, List.setIfInBounds_toArray, List.set_cons_zero, List.set_cons_succ])
        refine wpAnyH_ready (rs := [11]) (by kernel_rfl) (by simp) ?_
        refine AllReadyH.cons rfl (fun K hK => ?_) AllReadyH.nil
        go_simp
        have hzb : RN (wp.alloc (.cells #[.int .i64 0, .int .u64 0, .int .u64 0, .int .u64 0, .int .u64 0, .int .i64 0, .int .i64 0, .int .i64 0, .slice none 0 0] 35)) (wp).heap.size zero9 := heap_alloc_new wp _
        have hab := (Below.refl (wp).heap.size wp).alloc (Nat.le_refl _) (.cells #[.int .i64 0, .int .u64 0, .int .u64 0, .int .u64 0, .int .u64 0, .int .i64 0, .int .i64 0, .int .i64 0, .slice none 0 0] 35)
        have hgb : w.heap.size ≤ (wp).heap.size := hH2.size
        refine hK.out _ _ ?_ (fun hH3 => ?_)
        · exact hH2.alloc hH2.size _
        clear hK K
        (try simp only [Act.put, List.getElem_toArray, List.getElem_cons_succ, List.getElem_cons_zero, List.setIfInBounds_toArray, List.set_cons_zero, List.set_cons_succ])
        refine wpAnyH_ready (rs := [12]) (by kernel_rfl) (by simp) ?_
        refine AllReadyH.cons rfl (fun K hK => ?_) AllReadyH.nil
        rw [if_pos (by rfl)]
        refine wp_store_row 35 _ _ rfl (wp.heap.size) #[.int .i64 r2.1.op, .int .u64 (wd r2.1.st 0 64 : Nat), .int .u64 (wd r2.1.st 64 64 : Nat), .int .u64 (wd r2.1.st 128 64 : Nat), .int .u64 (wd r2.1.st 192 64 : Nat), .int .i64 r2.1.lo, .int .i64 r2.1.hi, .int .i64 r2.1.g, .slice ad2 r2.1.args.len cap2] rfl rfl 35 zero9 hzb info_reP rfl (by simp [Value.oneCell']) ?_
        refine hK.out _ _ ?_ (fun hLast => ?_)
        · exact below_setRow hH3 (by omega) _
        clear hK K
        (try simp only [Act.put, List.getElem_toArray, List.getElem_cons_succ, List.getElem_cons_zero])
        refine wpAnyH_take (i := 13) (v := ?z2v13) rfl (by kernel_rfl) (by kernel_rfl) (by kernel_rfl) (fun _ _ _ h => h) (Or.inl ⟨by rfl, ?z2y13⟩) (by assumption) ?z2r13
        case z2y13 =>
          intro wx hSw
          clear hSw
          go_simp
          first | done | (with_reducible rfl)
        (try simp only [Act.put, List.getElem_toArray, List.getElem_cons_succ, List.getElem_cons_zero, List.setIfInBounds_toArray, List.set_cons_zero, List.set_cons_succ])
        refine wpAnyH_take (i := 14) (v := ?z2v14) rfl (by kernel_rfl) (by kernel_rfl) (by kernel_rfl) (fun _ _ _ h => h) (Or.inl ⟨by rfl, ?z2y14⟩) (by assumption) ?z2r14
        case z2y14 =>
          intro wx hSw
          clear hSw
          go_simp
          first | done | (with_reducible rfl)
        (try simp only [Act.put, List.getElem_toArray, List.getElem_cons_succ, List.getElem_cons_zero, List.setIfInBounds_toArray, List.set_cons_zero, List.set_cons_succ])
        refine wpAnyH_done (by kernel_rfl) ?_ _
        have HLast := Lib.hid hLast
        go_wp2
        go_meet
        case rel => exact ⟨_, rfl, rfl, rfl, HLast.out⟩
      · go_simp
        have hzb : RN (wdd.alloc (.cells #[.int .i64 0, .int .u64 0, .int .u64 0, .int .u64 0, .int .u64 0, .int .i64 0, .int .i64 0, .int .i64 0, .slice none 0 0] 35)) (wdd).heap.size zero9 := heap_alloc_new wdd _
        have hab := (Below.refl (wdd).heap.size wdd).alloc (Nat.le_refl _) (.cells #[.int .i64 0, .int .u64 0, .int .u64 0, .int .u64 0, .int .u64 0, .int .i64 0, .int .i64 0, .int .i64 0, .slice none 0 0] 35)
        have hgb : w.heap.size ≤ (wdd).heap.size := hH1.size
        have hM2 := hM.below hab
        refine hK.out _ _ ?_ (fun hH2 => ?_)
        · exact hH1.alloc hH1.size _
        clear hK K
        (try simp only [Act.put, List.getElem_toArray, List.getElem_cons_succ, List.getElem_cons_zero, List.setIfInBounds_toArray, List.set_cons_zero, List.set_cons_succ])
        refine wpAnyH_ready (rs := [6]) (by kernel_rfl) (by simp) ?_
        refine AllReadyH.cons rfl (fun K hK => ?_) AllReadyH.nil
        go_simp
        go_at_call 11
        (with_reducible refine (HP2.out _ _ _ hM2 (HT.out.keep hH2)).mono ?_)
        rintro e wp ⟨ad2, cap2, rfl, hbp⟩
        refine hK.out _ _ ?_ (fun hH3 => ?_)
        · exact hH2.trans (hbp.mono hH2.size)
        clear hK K
        (try simp only [Act.put, List.getElem_toArray, List.getElem_cons_succ, List.getElem_cons_zero, List.setIfInBounds_toArray, List.set_cons_zero, List.set_cons_succ])
        refine wpAnyH_take (i := 7) (v := ?r2v7) rfl (by kernel_rfl) (by kernel_rfl) (by kernel_rfl) (fun _ _ _ h => h) (Or.inl ⟨by rfl, ?r2y7⟩) (by assumption) ?r2r7
        case r2y7 =>
          intro wx hSw
          clear hSw
          go_simp
          first | done | (with_reducible rfl)
        (try simp only [Act.put, List.getElem_toArray, List.getElem_cons_succ, List.getElem_cons_zero, List.setIfInBounds_toArray, List.set_cons_zero, List.set_cons_succ])
        refine wpAnyH_take (i := 8) (v := ?r2v8) rfl (by kernel_rfl) (by kernel_rfl) (by kernel_rfl) (fun _ _ _ h => h) (Or.inl ⟨by rfl, ?r2y8⟩) (by assumption) ?r2r8
        case r2y8 =>
          intro wx hSw
          clear hSw
          go_simp
          first | done | (with_reducible rfl)
        (try simp only [Act.put, List.getElem_toArray, List.getElem_cons_succ, List.getElem_cons_zero, List.setIfInBounds_toArray, List.set_cons_zero, List.set_cons_succ])
        refine wpAnyH_take (i := 9) (v := ?r2v9) rfl (by kernel_rfl) (by kernel_rfl) (by kernel_rfl) (fun _ _ _ h => h) (Or.inl ⟨by rfl, ?r2y9⟩) (by assumption) ?r2r9
        case r2y9 =>
          intro wx hSw
          clear hSw
          go_simp
          first | done | (with_reducible rfl)
        (try simp only [Act.put, List.getElem_toArray, List.getElem_cons_succ, List.getElem_cons_zero, List.setIfInBounds_toArray, List.set_cons_zero, List.set_cons_succ])
        refine wpAnyH_take (i := 10) (v := ?r2v10) rfl (by kernel_rfl) (by kernel_rfl) (by kernel_rfl) (fun _ _ _ h => h) (Or.inl ⟨by rfl, ?r2y10⟩) (by assumption) ?r2r10
        case r2y10 =>
          intro wx hSw
          clear hSw
          go_simp
          first | done | (with_reducible rfl)
        (try simp only [Act.put, List.getElem_toArray, List.getElem_cons_succ, List.getElem_cons_zero, List.setIfInBounds_toArray, List.set_cons_zero, List.set_cons_succ])
        refine wpAnyH_ready (rs := [12]) (by kernel_rfl) (by simp) ?_
        refine AllReadyH.cons rfl (fun K hK => ?_) AllReadyH.nil
        rw [if_pos (by rfl)]
        refine wp_store_row 35 _ _ rfl (wdd.heap.size) #[.int .i64 r2.1.op, .int .u64 (wd r2.1.st 0 64 : Nat), .int .u64 (wd r2.1.st 64 64 : Nat), .int .u64 (wd r2.1.st 128 64 : Nat), .int .u64 (wd r2.1.st 192 64 : Nat), .int .i64 r2.1.lo, .int .i64 r2.1.hi, .int .i64 r2.1.g, .slice ad2 r2.1.args.len cap2] rfl rfl 35 zero9 (hzb.below hbp) info_reP rfl (by simp [Value.oneCell']) ?_
        refine hK.out _ _ ?_ (fun hLast => ?_)
        · exact below_setRow hH3 (by omega) _
        clear hK K
        (try simp only [Act.put, List.getElem_toArray, List.getElem_cons_succ, List.getElem_cons_zero])
        refine wpAnyH_take (i := 13) (v := ?y2v13) rfl (by kernel_rfl) (by kernel_rfl) (by kernel_rfl) (fun _ _ _ h => h) (Or.inl ⟨by rfl, ?y2y13⟩) (by assumption) ?y2r13
        case y2y13 =>
          intro wx hSw
          clear hSw
          go_simp
          first | done | (with_reducible rfl)
        (try simp only [Act.put, List.getElem_toArray, List.getElem_cons_succ, List.getElem_cons_zero, List.setIfInBounds_toArray, List.set_cons_zero, List.set_cons_succ])
        refine wpAnyH_take (i := 14) (v := ?y2v14) rfl (by kernel_rfl) (by kernel_rfl) (by kernel_rfl) (fun _ _ _ h => h) (Or.inl ⟨by rfl, ?y2y14⟩) (by assumption) ?y2r14
        case y2y14 =>
          intro wx hSw
          clear hSw
          go_simp
          first | done | (with_reducible rfl)
        (try simp only [Act.put, List.getElem_toArray, List.getElem_cons_succ, List.getElem_cons_zero, List.setIfInBounds_toArray, List.set_cons_zero, List.set_cons_succ])
        refine wpAnyH_done (by kernel_rfl) ?_ _
        have HLast := Lib.hid hLast
        go_wp2
        go_meet
        case rel => exact ⟨_, rfl, rfl, rfl, HLast.out⟩
    · go_simp
      have hzb : RN (u1.drew.alloc (.cells #[.int .i64 0, .int .u64 0, .int .u64 0, .int .u64 0, .int .u64 0, .int .i64 0, .int .i64 0, .int .i64 0, .slice none 0 0] 35)) (u1.drew).heap.size zero9 := heap_alloc_new u1.drew _
      have hab := (Below.refl (u1.drew).heap.size u1.drew).alloc (Nat.le_refl _) (.cells #[.int .i64 0, .int .u64 0, .int .u64 0, .int .u64 0, .int .u64 0, .int .i64 0, .int .i64 0, .int .i64 0, .slice none 0 0] 35)
      have hgb : w.heap.size ≤ (u1.drew).heap.size := hHeld.size
      refine hK.out _ _ ?_ (fun hH1 => ?_)
      · exact hHeld.alloc hHeld.size _
      clear hK K
      (try simp only [Act.put, List.getElem_toArray, List.getElem_cons_succ, List.getElem_cons_zero, List.setIfInBounds_toArray, List.set_cons_zero, List.set_cons_succ])
      refine wpAnyH_ready (rs := [5]) (by kernel_rfl) (by simp) ?_
      refine AllReadyH.cons rfl (fun K hK => ?_) AllReadyH.nil
      go_simp
      go_at_call 17
      refine (default_any _).mono ?_
      rintro e wdd ⟨xd, yd, _, rfl, hM, hbd⟩
      refine hK.out _ _ ?_ (fun hH2 => ?_)
      · exact hH1.trans (hbd.mono hH1.size)
      clear hK K
      (try simp only [Act.put, List.getElem_toArray, List.getElem_cons_succ, List.getElem_cons_zero, List.setIfInBounds_toArray, List.set_cons_zero, List.set_cons_succ])
      refine wpAnyH_ready (rs := [6]) (by kernel_rfl) (by simp) ?_
      refine AllReadyH.cons rfl (fun K hK => ?_) AllReadyH.nil
      go_simp
      go_at_call 11
      (with_reducible refine (HP2.out _ _ _ hM (HT.out.keep hH2)).mono ?_)
      rintro e wp ⟨ad2, cap2, rfl, hbp⟩
      refine hK.out _ _ ?_ (fun hH3 => ?_)
      · exact hH2.trans (hbp.mono hH2.size)
      clear hK K
      (try simp only [Act.put, List.getElem_toArray, List.getElem_cons_succ, List.getElem_cons_zero, List.setIfInBounds_toArray, List.set_cons_zero, List.set_cons_succ])
      refine wpAnyH_take (i := 7) (v := ?s2v7) rfl (by kernel_rfl) (by kernel_rfl) (by kernel_rfl) (fun _ _ _ h => h) (Or.inl ⟨by rfl, ?s2y7⟩) (by assumption) ?s2r7
      case s2y7 =>
        intro wx hSw
        clear hSw
        go_simp
        first | done | (with_reducible rfl)
      (try simp only [Act.put, List.getElem_toArray, List.getElem_cons_succ, List.getElem_cons_zero, List.setIfInBounds_toArray, List.set_cons_zero, List.set_cons_succ])
      refine wpAnyH_take (i := 8) (v := ?s2v8) rfl (by kernel_rfl) (by kernel_rfl) (by kernel_rfl) (fun _ _ _ h => h) (Or.inl ⟨by rfl, ?s2y8⟩) (by assumption) ?s2r8
      case s2y8 =>
        intro wx hSw
        clear hSw
        go_simp
        first | done | (with_reducible rfl)
      (try simp only [Act.put, List.getElem_toArray, List.getElem_cons_succ, List.getElem_cons_zero, List.setIfInBounds_toArray, List.set_cons_zero, List.set_cons_succ])
      refine wpAnyH_take (i := 9) (v := ?s2v9) rfl (by kernel_rfl) (by kernel_rfl) (by kernel_rfl) (fun _ _ _ h => h) (Or.inl ⟨by rfl, ?s2y9⟩) (by assumption) ?s2r9
      case s2y9 =>
        intro wx hSw
        clear hSw
        go_simp
        first | done | (with_reducible rfl)
      (try simp only [Act.put, List.getElem_toArray, List.getElem_cons_succ, List.getElem_cons_zero, List.setIfInBounds_toArray, List.set_cons_zero, List.set_cons_succ])
      refine wpAnyH_take (i := 10) (v := ?s2v10) rfl (by kernel_rfl) (by kernel_rfl) (by kernel_rfl) (fun _ _ _ h => h) (Or.inl ⟨by rfl, ?s2y10⟩) (by assumption) ?s2r10
      case s2y10 =>
        intro wx hSw
        clear hSw
        go_simp
        first | done | (with_reducible rfl)
      (try simp only [Act.put, List.getElem_toArray, List.getElem_cons_succ, List.getElem_cons_zero, List.setIfInBounds_toArray, List.set_cons_zero, List.set_cons_succ])
      refine wpAnyH_ready (rs := [12]) (by kernel_rfl) (by simp) ?_
      refine AllReadyH.cons rfl (fun K hK => ?_) AllReadyH.nil
      rw [if_pos (by rfl)]
      refine wp_store_row 35 _ _ rfl (u1.drew.heap.size) #[.int .i64 r2.1.op, .int .u64 (wd r2.1.st 0 64 : Nat), .int .u64 (wd r2.1.st 64 64 : Nat), .int .u64 (wd r2.1.st 128 64 : Nat), .int .u64 (wd r2.1.st 192 64 : Nat), .int .i64 r2.1.lo, .int .i64 r2.1.hi, .int .i64 r2.1.g, .slice ad2 r2.1.args.len cap2] rfl rfl 35 zero9 ((hzb.below hbd).below hbp) info_reP rfl (by simp [Value.oneCell']) ?_
      refine hK.out _ _ ?_ (fun hLast => ?_)
      · exact below_setRow hH3 (by omega) _
      clear hK K
      (try simp only [Act.put, List.getElem_toArray, List.getElem_cons_succ, List.getElem_cons_zero])
      refine wpAnyH_take (i := 13) (v := ?x2v13) rfl (by kernel_rfl) (by kernel_rfl) (by kernel_rfl) (fun _ _ _ h => h) (Or.inl ⟨by rfl, ?x2y13⟩) (by assumption) ?x2r13
      case x2y13 =>
        intro wx hSw
        clear hSw
        go_simp
        first | done | (with_reducible rfl)
      (try simp only [Act.put, List.getElem_toArray, List.getElem_cons_succ, List.getElem_cons_zero, List.setIfInBounds_toArray, List.set_cons_zero, List.set_cons_succ])
      refine wpAnyH_take (i := 14) (v := ?x2v14) rfl (by kernel_rfl) (by kernel_rfl) (by kernel_rfl) (fun _ _ _ h => h) (Or.inl ⟨by rfl, ?x2y14⟩) (by assumption) ?x2r14
      case x2y14 =>
        intro wx hSw
        clear hSw
        go_simp
        first | done | (with_reducible rfl)
      (try simp only [Act.put, List.getElem_toArray, List.getElem_cons_succ, List.getElem_cons_zero, List.setIfInBounds_toArray, List.set_cons_zero, List.set_cons_succ])
      refine wpAnyH_done (by kernel_rfl) ?_ _
      have HLast := Lib.hid hLast
      go_wp2
      go_meet
      case rel => exact ⟨_, rfl, rfl, rfl, HLast.out⟩
  case rest =>
    obtain ⟨pv, rfl, rfl, rfl, hbc⟩ := hcut
    have HU2 := Lib.hid hbc
    clear hbc HU1 HP1 HP2
    go_upto_region 11 with fail
    go_cut [11, 12, 13] (fun p y n wx => ∃ pv : Value, p = pv ∧ y = .int .i64 z3 ∧ n = .int .i64 (k3 : Int) ∧ Below w.heap.size w wx)
    case first =>
      refine wp_region_held_drew (S := Below w.heap.size w) (by kernel_rfl) ?_ (fun hHeld => ?_)
      · exact HU2.out.drew
      refine wpAnyH_take (i := 0) (v := ?p3v0) rfl (by kernel_rfl) (by kernel_rfl) (by kernel_rfl) (fun _ _ _ h => h) (Or.inl ⟨by rfl, ?p3y0⟩) (by assumption) ?p3r0
      case p3y0 =>
        intro wx hSw
        clear hSw
        go_simp
        first | done | (with_reducible rfl)
      (try simp only [Act.put, List.getElem_toArray, List.getElem_cons_zero, List.setIfInBounds_toArray, List.set_cons_zero, List.set_cons_succ])
      refine wpAnyH_take (i := 1) (v := ?p3v1) rfl (by kernel_rfl) (by kernel_rfl) (by kernel_rfl) (fun _ _ _ h => h) (Or.inl ⟨by rfl, ?p3y1⟩) (by assumption) ?p3r1
      case p3y1 =>
        intro wx hSw
        clear hSw
        go_simp
        first | done | (with_reducible rfl)
      (try simp only [Act.put, List.getElem_toArray, List.getElem_cons_succ, List.getElem_cons_zero, List.setIfInBounds_toArray, List.set_cons_zero, List.set_cons_succ])
      refine wpAnyH_take (i := 2) (v := ?p3v2) rfl (by kernel_rfl) (by kernel_rfl) (by kernel_rfl) (fun _ _ _ h => h) (Or.inl ⟨by rfl, ?p3y2⟩) (by assumption) ?p3r2
      case p3y2 =>
        intro wx hSw
        clear hSw
        go_simp
        first | done | (with_reducible rfl)
      (try simp only [Act.put, List.getElem_toArray, List.getElem_cons_succ, List.getElem_cons_zero, List.setIfInBounds_toArray, List.set_cons_zero, List.set_cons_succ])
      refine wpAnyH_take (i := 3) (v := ?p3v3) rfl (by kernel_rfl) (by kernel_rfl) (by kernel_rfl) (fun _ _ _ h => h) (Or.inl ⟨by rfl, ?p3y3⟩) (by assumption) ?p3r3
      case p3y3 =>
        intro wx hSw
        clear hSw
        go_simp
        first | done | (with_reducible rfl)
      (try simp only [Act.put, List.getElem_toArray, List.getElem_cons_succ, List.getElem_cons_zero, List.setIfInBounds_toArray, List.set_cons_zero, List.set_cons_succ])
      refine wpAnyH_ready (rs := [4, 10]) (by kernel_rfl) (by simp) ?_
      refine AllReadyH.cons rfl (fun K hK => ?_) (AllReadyH.cons rfl (fun K hK => ?_) AllReadyH.nil)
      · go_simp
        go_at_call 17
        refine (default_any _).mono ?_
        rintro e wdd ⟨xd, yd, _, rfl, hM, hbd⟩
        refine hK.out _ _ ?_ (fun hH1 => ?_)
        · exact hHeld.trans (hbd.mono hHeld.size)
        clear hK K
        (try simp only [Act.put, List.getElem_toArray, List.getElem_cons_succ, List.getElem_cons_zero, List.setIfInBounds_toArray, List.set_cons_zero, List.set_cons_succ])
        refine wpAnyH_ready (rs := [5, 10]) (by kernel_rfl) (by simp) ?_
        refine AllReadyH.cons rfl (fun K hK => ?_) (AllReadyH.cons rfl (fun K hK => ?_) AllReadyH.nil)
        · go_simp
          go_at_call 11
          (with_reducible refine (HP3.out _ _ _ hM (HT.out.keep hH1)).mono ?_)
          rintro e wp ⟨ad3, cap3, rfl, hbp⟩
          refine hK.out _ _ ?_ (fun hH2 => ?_)
          · exact hH1.trans (hbp.mono hH1.size)
          clear hK K
          (try simp only [Act.put, List.getElem_toArray, List.getElem_cons_succ, List.getElem_cons_zero, List.setIfInBounds_toArray, List.set_cons_zero, List.set_cons_succ])
          refine wpAnyH_take (i := 6) (v := ?q3v6) rfl (by kernel_rfl) (by kernel_rfl) (by kernel_rfl) (fun _ _ _ h => h) (Or.inl ⟨by rfl, ?q3y6⟩) (by assumption) ?q3r6
          case q3y6 =>
            intro wx hSw
            clear hSw
            go_simp
            first | done | (with_reducible rfl)
          (try simp only [Act.put, List.getElem_toArray, List.getElem_cons_succ, List.getElem_cons_zero, List.setIfInBounds_toArray, List.set_cons_zero, List.set_cons_succ])
          refine wpAnyH_take (i := 7) (v := ?q3v7) rfl (by kernel_rfl) (by kernel_rfl) (by kernel_rfl) (fun _ _ _ h => h) (Or.inl ⟨by rfl, ?q3y7⟩) (by assumption) ?q3r7
          case q3y7 =>
            intro wx hSw
            clear hSw
            go_simp
            first | done | (with_reducible rfl)
          (try simp only [Act.put, List.getElem_toArray, List.getElem_cons_succ, List.getElem_cons_zero, List.setIfInBounds_toArray, List.set_cons_zero, List.set_cons_succ])
          refine wpAnyH_take (i := 8) (v := ?q3v8) rfl (by kernel_rfl) (by kernel_rfl) (by kernel_rfl) (fun _ _ _ h => h) (Or.inl ⟨by rfl, ?q3y8⟩) (by assumption) ?q3r8
          case q3y8 =>
            intro wx hSw
            clear hSw
            go_simp
            first | done | (with_reducible rfl)
          (try simp only [Act.put, List.getElem_toArray, List.getElem_cons_succ, List.getElem_cons_zero, List.setIfInBounds_toArray, List.set_cons_zero, List.set_cons_succ])
          refine wpAnyH_take (i := 9) (v := ?q3v9) rfl (by kernel_rfl) (by kernel_rfl) (by kernel_rfl) (fun _ _ _ h => h) (Or.inl ⟨by rfl, ?q3y9⟩) (by assumption) ?q3r9
          case q3y9 =>
            intro wx hSw
            clear hSw
            go_simp
            first | done | (with_reducible rfl)
          (try simp only [Act.put, List.getElem_toArray, List.getElem_cons_succ, List.getElem_cons_zero, List.setIfInBounds_toArray, List.set_cons_zero, List.set_cons_succ])
          refine wpAnyH_ready (rs := [10]) (by kernel_rfl) (by simp) ?_
          refine AllReadyH.cons rfl (fun K hK => ?_) AllReadyH.nil
          go_simp
          have hzb : RN (wp.alloc (.cells #[.int .i64 0, .int .u64 0, .int .u64 0, .int .u64 0, .int .u64 0, .int .i64 0, .int .i64 0, .int .i64 0, .slice none 0 0] 35)) (wp).heap.size zero9 := heap_alloc_new wp _
          have hab := (Below.refl (wp).heap.size wp).alloc (Nat.le_refl _) (.cells #[.int .i64 0, .int .u64 0, .int .u64 0, .int .u64 0, .int .u64 0, .int .i64 0, .int .i64 0, .int .i64 0, .slice none 0 0] 35)
          have hgb : w.heap.size ≤ (wp).heap.size := hH2.size
          refine hK.out _ _ ?_ (fun hH3 => ?_)
          · exact hH2.alloc hH2.size _
          clear hK K
          (try simp only [Act.put, List.getElem_toArray, List.getElem_cons_succ, List.getElem_cons_zero, List.setIfInBounds_toArray, List.set_cons_zero, List.set_cons_succ])
          refine wpAnyH_ready (rs := [11]) (by kernel_rfl) (by simp) ?_
          refine AllReadyH.cons rfl (fun K hK => ?_) AllReadyH.nil
          rw [if_pos (by rfl)]
          refine wp_store_row 35 _ _ rfl (wp.heap.size) #[.int .i64 r3.1.op, .int .u64 (wd r3.1.st 0 64 : Nat), .int .u64 (wd r3.1.st 64 64 : Nat), .int .u64 (wd r3.1.st 128 64 : Nat), .int .u64 (wd r3.1.st 192 64 : Nat), .int .i64 r3.1.lo, .int .i64 r3.1.hi, .int .i64 r3.1.g, .slice ad3 r3.1.args.len cap3] rfl rfl 35 zero9 hzb info_reP rfl (by simp [Value.oneCell']) ?_
          refine hK.out _ _ ?_ (fun hLast => ?_)
          · exact below_setRow hH3 (by omega) _
          clear hK K
          (try simp only [Act.put, List.getElem_toArray, List.getElem_cons_succ, List.getElem_cons_zero])
          refine wpAnyH_take (i := 12) (v := ?z3v12) rfl (by kernel_rfl) (by kernel_rfl) (by kernel_rfl) (fun _ _ _ h => h) (Or.inl ⟨by rfl, ?z3y12⟩) (by assumption) ?z3r12
          case z3y12 =>
            intro wx hSw
            clear hSw
            go_simp
            first | done | (with_reducible rfl)
          (try simp only [Act.put, List.getElem_toArray, List.getElem_cons_succ, List.getElem_cons_zero, List.setIfInBounds_toArray, List.set_cons_zero, List.set_cons_succ])
          refine wpAnyH_take (i := 13) (v := ?z3v13) rfl (by kernel_rfl) (by kernel_rfl) (by kernel_rfl) (fun _ _ _ h => h) (Or.inl ⟨by rfl, ?z3y13⟩) (by assumption) ?z3r13
          case z3y13 =>
            intro wx hSw
            clear hSw
            go_simp
            first | done | (with_reducible rfl)
          (try simp only [Act.put, List.getElem_toArray, List.getElem_cons_succ, List.getElem_cons_zero, List.setIfInBounds_toArray, List.set_cons_zero, List.set_cons_succ])
          refine wpAnyH_done (by kernel_rfl) ?_ _
          have HLast := Lib.hid hLast
          go_wp2
          go_meet
          case rel => exact ⟨_, rfl, rfl, rfl, HLast.out⟩
        · go_simp
          have hzb : RN (wdd.alloc (.cells #[.int .i64 0, .int .u64 0, .int .u64 0, .int .u64 0, .int .u64 0, .int .i64 0, .int .i64 0, .int .i64 0, .slice none 0 0] 35)) (wdd).heap.size zero9 := heap_alloc_new wdd _
          have hab := (Below.refl (wdd).heap.size wdd).alloc (Nat.le_refl _) (.cells #[.int .i64 0, .int .u64 0, .int .u64 0, .int .u64 0, .int .u64 0, .int .i64 0, .int .i64 0, .int .i64 0, .slice none 0 0] 35)
          have hgb : w.heap.size ≤ (wdd).heap.size := hH1.size
          have hM2 := hM.below hab
          refine hK.out _ _ ?_ (fun hH2 => ?_)
          · exact hH1.alloc hH1.size _
          clear hK K
          (try simp only [Act.put, List.getElem_toArray, List.getElem_cons_succ, List.getElem_cons_zero, List.setIfInBounds_toArray, List.set_cons_zero, List.set_cons_succ])
          refine wpAnyH_ready (rs := [5]) (by kernel_rfl) (by simp) ?_
          refine AllReadyH.cons rfl (fun K hK => ?_) AllReadyH.nil
          go_simp
          go_at_call 11
          (with_reducible refine (HP3.out _ _ _ hM2 (HT.out.keep hH2)).mono ?_)
          rintro e wp ⟨ad3, cap3, rfl, hbp⟩
          refine hK.out _ _ ?_ (fun hH3 => ?_)
          · exact hH2.trans (hbp.mono hH2.size)
          clear hK K
          (try simp only [Act.put, List.getElem_toArray, List.getElem_cons_succ, List.getElem_cons_zero, List.setIfInBounds_toArray, List.set_cons_zero, List.set_cons_succ])
          refine wpAnyH_take (i := 6) (v := ?r3v6) rfl (by kernel_rfl) (by kernel_rfl) (by kernel_rfl) (fun _ _ _ h => h) (Or.inl ⟨by rfl, ?r3y6⟩) (by assumption) ?r3r6
          case r3y6 =>
            intro wx hSw
            clear hSw
            go_simp
            first | done | (with_reducible rfl)
          (try simp only [Act.put, List.getElem_toArray, List.getElem_cons_succ, List.getElem_cons_zero, List.setIfInBounds_toArray, List.set_cons_zero, List.set_cons_succ])
          refine wpAnyH_take (i := 7) (v := ?r3v7) rfl (by kernel_rfl) (by kernel_rfl) (by kernel_rfl) (fun _ _ _ h => h) (Or.inl ⟨by rfl, ?r3y7⟩) (by assumption) ?r3r7
          case r3y7 =>
            intro wx hSw
            clear hSw
            go_simp
            first | done | (with_reducible rfl)
          (try simp only [Act.put, List.getElem_toArray, List.getElem_cons_succ, List.getElem_cons_zero, List.setIfInBounds_toArray, List.set_cons_zero, List.set_cons_succ])
          refine wpAnyH_take (i := 8) (v := ?r3v8) rfl (by kernel_rfl) (by kernel_rfl) (by kernel_rfl) (fun _ _ _ h => h) (Or.inl ⟨by rfl, ?r3y8⟩) (by assumption) ?r3r8
          case r3y8 =>
            intro wx hSw
            clear hSw
            go_simp
            first | done | (with_reducible rfl)
          (try simp only [Act.put, List.getElem_toArray, List.getElem_cons_succ, List.getElem_cons_zero, List.setIfInBounds_toArray, List.set_cons_zero, List.set_cons_succ])
          refine wpAnyH_take (i := 9) (v := ?r3v9) rfl (by kernel_rfl) (by kernel_rfl) (by kernel_rfl) (fun _ _ _ h => h) (Or.inl ⟨by rfl, ?r3y9⟩) (by assumption) ?r3r9
          case r3y9 =>
            intro wx hSw
            clear hSw
            go_simp
            first | done | (with_reducible rfl)
          (try simp only [Act.put, List.getElem_toArray, List.getElem_cons_succ, List.getElem_cons_zero, List.setIfInBounds_toArray, List.set_cons_zero, List.set_cons_succ])
          refine wpAnyH_ready (rs := [11]) (by kernel_rfl) (by simp) ?_
          refine AllReadyH.cons rfl (fun K hK => ?_) AllReadyH.nil
          rw [if_pos (by rfl)]
          refine wp_store_row 35 _ _ rfl (wdd.heap.size) #[.int .i64 r3.1.op, .int .u64 (wd r3.1.st 0 64 : Nat), .int .u64 (wd r3.1.st 64 64 : Nat), .int .u64 (wd r3.1.st 128 64 : Nat), .int .u64 (wd r3.1.st 192 64 : Nat), .int .i64 r3.1.lo, .int .i64 r3.1.hi, .int .i64 r3.1.g, .slice ad3 r3.1.args.len cap3] rfl rfl 35 zero9 (hzb.below hbp) info_reP rfl (by simp [Value.oneCell']) ?_
          refine hK.out _ _ ?_ (fun hLast => ?_)
          · exact below_setRow hH3 (by omega) _
          clear hK K
          (try simp only [Act.put, List.getElem_toArray, List.getElem_cons_succ, List.getElem_cons_zero])
          refine wpAnyH_take (i := 12) (v := ?y3v12) rfl (by kernel_rfl) (by kernel_rfl) (by kernel_rfl) (fun _ _ _ h => h) (Or.inl ⟨by rfl, ?y3y12⟩) (by assumption) ?y3r12
          case y3y12 =>
            intro wx hSw
            clear hSw
            go_simp
            first | done | (with_reducible rfl)
          (try simp only [Act.put, List.getElem_toArray, List.getElem_cons_succ, List.getElem_cons_zero, List.setIfInBounds_toArray, List.set_cons_zero, List.set_cons_succ])
          refine wpAnyH_take (i := 13) (v := ?y3v13) rfl (by kernel_rfl) (by kernel_rfl) (by kernel_rfl) (fun _ _ _ h => h) (Or.inl ⟨by rfl, ?y3y13⟩) (by assumption) ?y3r13
          case y3y13 =>
            intro wx hSw
            clear hSw
            go_simp
            first | done | (with_reducible rfl)
          (try simp only [Act.put, List.getElem_toArray, List.getElem_cons_succ, List.getElem_cons_zero, List.setIfInBounds_toArray, List.set_cons_zero, List.set_cons_succ])
          refine wpAnyH_done (by kernel_rfl) ?_ _
          have HLast := Lib.hid hLast
          go_wp2
          go_meet
          case rel => exact ⟨_, rfl, rfl, rfl, HLast.out⟩
      · go_simp
        have hzb : RN (wc.drew.alloc (.cells #[.int .i64 0, .int .u64 0, .int .u64 0, .int .u64 0, .int .u64 0, .int .i64 0, .int .i64 0, .int .i64 0, .slice none 0 0] 35)) (wc.drew).heap.size zero9 := heap_alloc_new wc.drew _
        have hab := (Below.refl (wc.drew).heap.size wc.drew).alloc (Nat.le_refl _) (.cells #[.int .i64 0, .int .u64 0, .int .u64 0, .int .u64 0, .int .u64 0, .int .i64 0, .int .i64 0, .int .i64 0, .slice none 0 0] 35)
        have hgb : w.heap.size ≤ (wc.drew).heap.size := hHeld.size
        refine hK.out _ _ ?_ (fun hH1 => ?_)
        · exact hHeld.alloc hHeld.size _
        clear hK K
        (try simp only [Act.put, List.getElem_toArray, List.getElem_cons_succ, List.getElem_cons_zero, List.setIfInBounds_toArray, List.set_cons_zero, List.set_cons_succ])
        refine wpAnyH_ready (rs := [4]) (by kernel_rfl) (by simp) ?_
        refine AllReadyH.cons rfl (fun K hK => ?_) AllReadyH.nil
        go_simp
        go_at_call 17
        refine (default_any _).mono ?_
        rintro e wdd ⟨xd, yd, _, rfl, hM, hbd⟩
        refine hK.out _ _ ?_ (fun hH2 => ?_)
        · exact hH1.trans (hbd.mono hH1.size)
        clear hK K
        (try simp only [Act.put, List.getElem_toArray, List.getElem_cons_succ, List.getElem_cons_zero, List.setIfInBounds_toArray, List.set_cons_zero, List.set_cons_succ])
        refine wpAnyH_ready (rs := [5]) (by kernel_rfl) (by simp) ?_
        refine AllReadyH.cons rfl (fun K hK => ?_) AllReadyH.nil
        go_simp
        go_at_call 11
        (with_reducible refine (HP3.out _ _ _ hM (HT.out.keep hH2)).mono ?_)
        rintro e wp ⟨ad3, cap3, rfl, hbp⟩
        refine hK.out _ _ ?_ (fun hH3 => ?_)
        · exact hH2.trans (hbp.mono hH2.size)
        clear hK K
        (try simp only [Act.put, List.getElem_toArray, List.getElem_cons_succ, List.getElem_cons_zero, List.setIfInBounds_toArray, List.set_cons_zero, List.set_cons_succ])
        refine wpAnyH_take (i := 6) (v := ?s3v6) rfl (by kernel_rfl) (by kernel_rfl) (by kernel_rfl) (fun _ _ _ h => h) (Or.inl ⟨by rfl, ?s3y6⟩) (by assumption) ?s3r6
        case s3y6 =>
          intro wx hSw
          clear hSw
          go_simp
          first | done | (with_reducible rfl)
        (try simp only [Act.put, List.getElem_toArray, List.getElem_cons_succ, List.getElem_cons_zero, List.setIfInBounds_toArray, List.set_cons_zero, List.set_cons_succ])
        refine wpAnyH_take (i := 7) (v := ?s3v7) rfl (by kernel_rfl) (by kernel_rfl) (by kernel_rfl) (fun _ _ _ h => h) (Or.inl ⟨by rfl, ?s3y7⟩) (by assumption) ?s3r7
        case s3y7 =>
          intro wx hSw
          clear hSw
          go_simp
          first | done | (with_reducible rfl)
        (try simp only [Act.put, List.getElem_toArray, List.getElem_cons_succ, List.getElem_cons_zero, List.setIfInBounds_toArray, List.set_cons_zero, List.set_cons_succ])
        refine wpAnyH_take (i := 8) (v := ?s3v8) rfl (by kernel_rfl) (by kernel_rfl) (by kernel_rfl) (fun _ _ _ h => h) (Or.inl ⟨by rfl, ?s3y8⟩) (by assumption) ?s3r8
        case s3y8 =>
          intro wx hSw
          clear hSw
          go_simp
          first | done | (with_reducible rfl)
        (try simp only [Act.put, List.getElem_toArray, List.getElem_cons_succ, List.getElem_cons_zero, List.setIfInBounds_toArray, List.set_cons_zero, List.set_cons_succ])
        refine wpAnyH_take (i := 9) (v := ?s3v9) rfl (by kernel_rfl) (by kernel_rfl) (by kernel_rfl) (fun _ _ _ h => h) (Or.inl ⟨by rfl, ?s3y9⟩) (by assumption) ?s3r9
        case s3y9 =>
          intro wx hSw
          clear hSw
          go_simp
          first | done | (with_reducible rfl)
        (try simp only [Act.put, List.getElem_toArray, List.getElem_cons_succ, List.getElem_cons_zero, List.setIfInBounds_toArray, List.set_cons_zero, List.set_cons_succ])
        refine wpAnyH_ready (rs := [11]) (by kernel_rfl) (by simp) ?_
        refine AllReadyH.cons rfl (fun K hK => ?_) AllReadyH.nil
        rw [if_pos (by rfl)]
        refine wp_store_row 35 _ _ rfl (wc.drew.heap.size) #[.int .i64 r3.1.op, .int .u64 (wd r3.1.st 0 64 : Nat), .int .u64 (wd r3.1.st 64 64 : Nat), .int .u64 (wd r3.1.st 128 64 : Nat), .int .u64 (wd r3.1.st 192 64 : Nat), .int .i64 r3.1.lo, .int .i64 r3.1.hi, .int .i64 r3.1.g, .slice ad3 r3.1.args.len cap3] rfl rfl 35 zero9 ((hzb.below hbd).below hbp) info_reP rfl (by simp [Value.oneCell']) ?_
        refine hK.out _ _ ?_ (fun hLast => ?_)
        · exact below_setRow hH3 (by omega) _
        clear hK K
        (try simp only [Act.put, List.getElem_toArray, List.getElem_cons_succ, List.getElem_cons_zero])
        refine wpAnyH_take (i := 12) (v := ?x3v12) rfl (by kernel_rfl) (by kernel_rfl) (by kernel_rfl) (fun _ _ _ h => h) (Or.inl ⟨by rfl, ?x3y12⟩) (by assumption) ?x3r12
        case x3y12 =>
          intro wx hSw
          clear hSw
          go_simp
          first | done | (with_reducible rfl)
        (try simp only [Act.put, List.getElem_toArray, List.getElem_cons_succ, List.getElem_cons_zero, List.setIfInBounds_toArray, List.set_cons_zero, List.set_cons_succ])
        refine wpAnyH_take (i := 13) (v := ?x3v13) rfl (by kernel_rfl) (by kernel_rfl) (by kernel_rfl) (fun _ _ _ h => h) (Or.inl ⟨by rfl, ?x3y13⟩) (by assumption) ?x3r13
        case x3y13 =>
          intro wx hSw
          clear hSw
          go_simp
          first | done | (with_reducible rfl)
        (try simp only [Act.put, List.getElem_toArray, List.getElem_cons_succ, List.getElem_cons_zero, List.setIfInBounds_toArray, List.set_cons_zero, List.set_cons_succ])
        refine wpAnyH_done (by kernel_rfl) ?_ _
        have HLast := Lib.hid hLast
        go_wp2
        go_meet
        case rel => exact ⟨_, rfl, rfl, rfl, HLast.out⟩
    case rest =>
      obtain ⟨pv2, rfl, rfl, rfl, hbc⟩ := hcut
      have HU3 := Lib.hid hbc
      clear hbc HP3
      have hbe := HBe.out
      clear HBe
      rcases hbe with (hbe | hbe) | ⟨hbe, hbe2⟩
      · subst hbe
        go_wp2_with (first
          | (go_at_call 10; refine (HA.out _ (HT.out.keep HU3.out)).mono ?_; rintro e w9 ⟨rfl, hb⟩; have HB9 := Lib.hid (HU3.out.trans (hb.mono HU3.out.size)); clear hb)
          )
        go_ret
        exact ⟨rfl, HB9.out⟩
      · subst hbe
        go_wp2_with (first
          | (go_at_call 10; refine (HA.out _ (HT.out.keep HU3.out)).mono ?_; rintro e w9 ⟨rfl, hb⟩; have HB9 := Lib.hid (HU3.out.trans (hb.mono HU3.out.size)); clear hb)
          )
        go_ret
        exact ⟨rfl, HB9.out⟩
      · subst hbe
        subst hbe2
        go_wp2_with (first
          | (go_at_call 10; refine (HA.out _ (HT.out.keep HU3.out)).mono ?_; rintro e w9 ⟨rfl, hb⟩; have HB9 := Lib.hid (HU3.out.trans (hb.mono HU3.out.size)); clear hb)
          )
        go_ret
        exact ⟨rfl, HB9.out⟩
theorem stops_law (s : ByteArray) (fl : Int) (w : World) (hT : TB w) : Calls Tryz.prog 8 #[.string s, .int .i64 fl] w fun e w' => e = .returned (.bool true) ∧ Below w.heap.size w w' := by
  by_cases h : s.size ≤ 200
  · obtain ⟨r, hr⟩ : ∃ r, parT ⟨s, fl, Ldef⟩ = r := ⟨_, rfl⟩
    have h0 := par_zero ⟨s, fl, Ldef⟩
    have h1 := par_at ⟨s, fl, Ldef⟩ (by show s.size ≤ 256; omega)
    rw [hr] at h0 h1
    by_cases hz : r.2.1 = 0
    · exact stops_ok s fl w hT h r hr hz (h0 hz)
    · have h1 : r.2.2 ≤ s.size := h1 hz
      by_cases hc : r.2.1 = 1 ∧ r.2.2 < s.size
      · exact stops_main s fl w hT h r hr _ hc.1 rfl hc.2
      · exact stops_far s fl w hT h r hr _ _ rfl rfl hz h1 (by
          by_cases e : r.2.1 = 1
          · right; by_cases e2 : r.2.2 < s.size
            · exact absurd ⟨e, e2⟩ hc
            · omega
          · exact .inl e)
  · exact stops_long s fl w hT (by omega)
end Go.Proofs.YtphiaagppcbefaaGreatDoor
