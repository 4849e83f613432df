/- RxZ. -/
import Derived.Test.YtphiaagppcbefaaGreatDoorPs37
import Derived.StillTailTactics
import Derived.Deep.CutRange
import Derived.Deep.Cut
import Derived.Deep.DeepCutAuto
import Derived.Test.YtphiaagppcbefaaGreatDoorPs23
import Derived.Test.YtphiaagppcbefaaGreatDoorPs19
import Derived.Test.YtphiaagppcbefaaGreatDoorPs38
import Derived.Deep.LoopGhost
set_option linter.unusedVariables false
namespace Go.Proofs.YtphiaagppcbefaaGreatDoor
open Go.RowKit
theorem itm_strict {c : CX} {p : PS} (h : Gd c p) (hl : p.at_ < c.s.size) : p.at_ < (itmT c p).2.at_ := by
  have h91 : pkT c.s p.at_ = 91 → ∀ m, 0 ≤ m → p.at_ < (encT c m p).2.at_ := fun hk m hm => by
    have e : expT c 91 p = p.to (p.at_ + 1) := by unfold expT; rw [if_pos hk]
    have g1 : Gd c (p.to (p.at_ + 1)) := Mv.gd h (mv_to h (p.at_ + 1) (by omega) (by omega))
    unfold encT
    rw [e]
    have a1 := mv_exp g1 m hm
    have a2 := mv_any (Mv.gd g1 a1)
    have g2 := Mv.gd g1 (a1.trans a2)
    have a3 := mv_exp g2 m hm
    have a4 := mv_exp (Mv.gd g2 a3) 93 (by omega)
    have e1 := (a1.trans (a2.trans (a3.trans a4))).a
    have e2 : (p.to (p.at_ + 1)).at_ = p.at_ + 1 := rfl
    rw [e2] at e1
    show p.at_ < (expT c 93 (expT c m (anyT c (expT c m (p.to (p.at_ + 1)))).2)).at_
    omega
  have hr : p.at_ < (rndT c p).2.at_ := by
    unfold rndT
    split
    · rename_i hk; exact h91 hk.1 46 (by omega)
    · have ha : p.at_ < (anyT c p).2.at_ := by
        unfold anyT
        split
        · rw [(mv_fail h 1 p.at_).2]; exact hl
        · show p.at_ < p.at_ + 1; omega
      have g := Mv.gd h (mv_any h)
      simp only
      split
      · have := (mv_fail g 1 (anyT c p).2.at_).1.a
        exact Nat.lt_of_lt_of_le ha this
      · exact ha
  unfold itmT
  split
  · unfold clsT
    split
    · rw [(mv_fail h 1 c.s.size).2]; exact hl
    · rename_i k hk
      have h1 := endC_le _ _ _ _ hk
      split
      · show p.at_ < k + 2; omega
      · rw [(mv_fail h 4 p.at_).2]; exact hl
  split
  · rename_i hk; exact h91 hk.1 61 (by omega)
  · have h1 := mv_rnd h
    generalize rndT c p = a at *
    simp only
    split
    · rename_i hk
      have hl2 := pk_lt (s := c.s) (i := a.2.at_) (by rw [hk.1]; decide)
      have g1 := Mv.gd h h1
      have h2 := mv_to g1 (a.2.at_ + 1) (by omega) (by omega)
      have g2 := Mv.gd g1 h2
      have h3 := mv_rnd g2
      have e1 := (h2.trans h3).a
      split
      · show p.at_ < (rndT c (a.2.to (a.2.at_ + 1))).2.at_; omega
      · have h4 := (mv_fail (Mv.gd g2 h3) 2 p.at_).1.a
        show p.at_ < (failT c (rndT c (a.2.to (a.2.at_ + 1))).2 2 p.at_).at_
        omega
    · exact hr
theorem brk_eq {c : CX} {p q0 : PS} {I : Bool} {RES : (Nat → Bool) × PS} (h : acbT c 94 (acbT c 91 p).2 = (I, q0)) (hr : itsT c (c.s.size + 1) (itmT c q0).1 (itmT c q0).2 = RES) :
    brkT c p = (setR (brkS c I RES.1), if el (brkS c I RES.1) 256 = [] then failT c (expT c 93 RES.2) 2 p.at_ else expT c 93 RES.2) := by
  unfold brkT
  rw [h]
  simp only
  rw [hr]
theorem el_nil (q : Nat → Bool) : eqc q (fun _ => false) = decide (el q 256 = []) := by
  by_cases h : el q 256 = []
  · rw [decide_eq_true h, eqc_iff]
    intro x hx
    by_cases hq : q x = true
    · have : x ∈ el q 256 := by unfold el; rw [List.mem_filter]; exact ⟨by simpa using hx, hq⟩
      rw [h] at this
      cases this
    · simpa using hq
  · rw [decide_eq_false h]
    cases he : eqc q (fun _ => false) with
    | false => rfl
    | true =>
      exfalso
      apply h
      rw [eqc_iff] at he
      unfold el
      rw [List.filter_eq_nil_iff]
      intro x hx
      have : x < 256 := by simpa using hx
      rw [he x this]
      decide
theorem put4_far {w : World} {g k : Nat} (hk : g ≠ k) (f : Nat → Bool) : (put4 w k f).heap[g]? = w.heap[g]? := by
  unfold put4
  rw [Below.heap_setCell _ _ _ _ hk, Below.heap_setCell _ _ _ _ hk, Below.heap_setCell _ _ _ _ hk, Below.heap_setCell _ _ _ _ hk]
set_option maxRecDepth 100000 in
set_option maxHeartbeats 16000000 in
theorem brk_true_true (w : World) (B : Nat) (c : CX) (V : LV) (p : PS) (h : PM w B c V p) (hk : pkT c.s p.at_ = 91) (q0 : PS) (hi : acbT c 94 (p.to (p.at_ + 1)) = (true, q0)) (hE : eqc (brkS c true (itsT c (c.s.size + 1) (itmT c q0).1 (itmT c q0).2).1) (fun _ => false) = true) :
    Calls Tryz.prog 84 #[.pointer (some ⟨B, 0, none⟩)] w (Ret w B c V (brkT c p)) := by
  have hx : Below w.heap.size w (w.alloc (.cells #[.int .i64 0, .int .u64 0, .int .u64 0, .int .u64 0, .int .u64 0, .int .i64 0, .int .i64 0, .int .i64 0, .slice none 0 0] 35)) := (Below.refl _ _).alloc (Nat.le_refl _) _
  have HS := Lib.hid (Stp.of_below h hx)
  have HR := Lib.hid (RAt.one w #[.int .i64 0, .int .u64 0, .int .u64 0, .int .u64 0, .int .u64 0, .int .i64 0, .int .i64 0, .int .i64 0, .slice none 0 0])
  have HL := Lib.hid h.lt
  have HA1 := Lib.hid (fun W h => acceptByte_yes W B c V p h 91 (by omega) hk)
  have HA2 : Hid (∀ W, PM W B c V (p.to (p.at_ + 1)) → Calls Tryz.prog 106 #[.pointer (some ⟨B, 0, none⟩), .int .i32 94] W fun e w' => e = .returned (.bool true) ∧ Stp W B c V q0 w') := fun W h => by
    have := acceptByte_any W B c V _ h 94 (by omega)
    rw [hi] at this
    exact this
  obtain ⟨RES, hRES⟩ : ∃ RES, itsT c (c.s.size + 1) (itmT c q0).1 (itmT c q0).2 = RES := ⟨_, rfl⟩
  rw [hRES] at hE
  have HBK : Hid (brkT c p = (setR (brkS c true RES.1), if el (brkS c true RES.1) 256 = [] then failT c (expT c 93 RES.2) 2 p.at_ else expT c 93 RES.2)) := by
    have e1 : acbT c 91 p = (true, p.to (p.at_ + 1)) := by unfold acbT; rw [if_pos hk]
    exact brk_eq (by rw [e1]; exact hi) hRES
  obtain ⟨⟨A, q1⟩, hr⟩ : ∃ r, itmT c q0 = r := ⟨_, rfl⟩
  rw [hr] at hRES
  have HI : Hid (∀ W, PM W B c V q0 → Calls Tryz.prog 107 #[.pointer (some ⟨B, 0, none⟩)] W fun e w' => e = .returned (cs A) ∧ Stp W B c V q1 w') := fun W h => by
    have := item_any W B c V q0 h
    rw [hr] at this
    exact this
  unfold cs cl at HI
  have HEx := Lib.hid (fun W q' h => expectByte_any W B c V q' h 93 (by omega))
  have HRE := Lib.hid hRES
  have HEq0 := Lib.hid hE
  have hp := HS.out.1
  obtain ⟨⟨x0, x1, x2, x3, x4, x5, x6, x7⟩, xf⟩ := hp.pa.all
  clear h hx hk hi hE hRES hr
  go_enter Tryz.func84, Tryz.ntmps84
  go_wp2_with (first
    | (go_at_call 106; (with_reducible refine (HA1.out _ hp).mono ?_); rintro e wz ⟨rfl, hs⟩; have HR := Lib.hid (HR.out.only hs.2 (by have := HL.out; omega)); have HS := Lib.hid (HS.out.trans hs); clear x0 x1 x2 x3 x4 x5 x6 x7 xf; clear hs hp; have hp := HS.out.1; obtain ⟨⟨x0, x1, x2, x3, x4, x5, x6, x7⟩, xf⟩ := hp.pa.all)
    | (go_at_call 106; (with_reducible refine (HA2.out _ hp).mono ?_); rintro e wz ⟨rfl, hs⟩; have HR := Lib.hid (HR.out.only hs.2 (by have := HL.out; omega)); have HS := Lib.hid (HS.out.trans hs); clear x0 x1 x2 x3 x4 x5 x6 x7 xf; clear hs hp; have hp := HS.out.1; obtain ⟨⟨x0, x1, x2, x3, x4, x5, x6, x7⟩, xf⟩ := hp.pa.all)
    | (go_at_call 107; (with_reducible refine (HI.out _ hp).mono ?_); rintro e wi ⟨rfl, hs⟩; have hx5 : Below wi.heap.size wi (wi.alloc (.cells #[.int .u64 (wd A 0 64 : Nat), .int .u64 (wd A 64 64 : Nat), .int .u64 (wd A 128 64 : Nat), .int .u64 (wd A 192 64 : Nat)] 32)) := (Below.refl _ _).alloc (Nat.le_refl _) _; have HXW := Lib.hid (Nat.lt_of_lt_of_le HR.out.lt hs.2.size); have HXB := Lib.hid hs.1.lt; have HR := Lib.hid ((HR.out.only hs.2 (by have := HL.out; omega)).below hx5); have HS := Lib.hid (HS.out.trans (hs.next hx5)); have HX : Hid (At (wi.alloc (.cells #[.int .u64 (wd A 0 64 : Nat), .int .u64 (wd A 64 64 : Nat), .int .u64 (wd A 128 64 : Nat), .int .u64 (wd A 192 64 : Nat)] 32)) wi.heap.size A) := Lib.hid (At.new wi A); clear hs hp hx5; clear x0 x1 x2 x3 x4 x5 x6 x7 xf)
    )
  generalize (wi.alloc (.cells #[.int .u64 (wd A 0 64 : Nat), .int .u64 (wd A 64 64 : Nat), .int .u64 (wd A 128 64 : Nat), .int .u64 (wd A 192 64 : Nat)] 32)) = W1 at *
  have HX : Hid (At W1 wi.heap.size A) := HX
  generalize wi.heap.size = X at HX HXW HXB ⊢
  have HJ0 := Lib.hid (And.intro HX.out (And.intro HS.out HR.out))
  clear HX HS HR
  go_loopg [] (c.s.size + 1) (fun k wr => ∃ (st : Nat → Bool) (q : PS), Hid (itsT c k st q = RES ∧ c.s.size + 1 ≤ q.at_ + k) ∧ Hid (At wr X st ∧ Stp w B c V q wr ∧ RAt wr w.heap.size #[.int .i64 0, .int .u64 0, .int .u64 0, .int .u64 0, .int .u64 0, .int .i64 0, .int .i64 0, .int .i64 0, .slice none 0 0]))
  case atStart => exact ⟨A, q1, ⟨HRE.out, by omega⟩, HJ0.out⟩
  case round =>
    obtain ⟨st, q, HM, HJ⟩ := hrel
    clear HJ0 HRE
    have hgd := HJ.out.2.1.1.gd
    obtain ⟨k, hk⟩ : ∃ k, gk = k + 1 := ⟨gk - 1, by have := HM.out.2; have := hgd.at_; omega⟩
    have HKk := Lib.hid hk
    have hm := HM.out
    rw [hk] at hm
    by_cases h93 : pkT c.s q.at_ = 93
    · have HRS : Hid (RES = (st, q)) := by
        rw [← hm.1]
        show (if pkT c.s q.at_ = 93 ∨ pkT c.s q.at_ = -1 then _ else _) = _
        rw [if_pos (.inl h93)]
      clear hgd hk hm HM
      have hp := HJ.out.2.1.1
      obtain ⟨⟨x0, x1, x2, x3, x4, x5, x6, x7⟩, xf⟩ := hp.pa.all
      obtain ⟨⟨s0, s1⟩, ⟨s2, s3⟩, sf⟩ := HJ.out.1.words
      have HX := Lib.hid HJ.out.1
      have HS := Lib.hid HJ.out.2.1
      have HR := Lib.hid HJ.out.2.2
      have hEq := HEq0.out
      rw [HRS.out] at hEq
      have hq9 : eqc (linT c (fun x => !foldT c st x)) (fun _ => false) = true := hEq
      have HFo : Hid (∀ W q', PM W B c V q' → Calls Tryz.prog 87 #[.pointer (some ⟨B, 0, none⟩), cs st] W fun e w' => e = .returned (cs (foldT c st)) ∧ Below W.heap.size W w') := fun W q' h => folded_any W B c V q' h st
      have HCo : Hid (∀ W, Calls Tryz.prog 71 #[cs (foldT c st)] W fun e w' => e = .returned (cs fun x => !foldT c st x) ∧ Below W.heap.size W w') := fun W => compl_any _ W
      have HLi : Hid (∀ W q', PM W B c V q' → Calls Tryz.prog 86 #[.pointer (some ⟨B, 0, none⟩), cs fun x => !foldT c st x] W fun e w' => e = .returned (cs (linT c fun x => !foldT c st x)) ∧ Below W.heap.size W w') := fun W q' h => lin_any W B c V q' h _
      have HSo : Hid (∀ W, Calls Tryz.prog 85 #[cs (linT c (fun x => !foldT c st x))] W fun e w' => e = .returned (setV (linT c (fun x => !foldT c st x))) ∧ Below W.heap.size W w') := fun W => setOf_any _ W
      have hcmp : ∀ w, (binOp .eql 32 (cs (linT c (fun x => !foldT c st x))) (.agg #[.int .u64 0, .int .u64 0, .int .u64 0, .int .u64 0])).run Tryz.prog w = .ok (.bool true) w := fun w => by
        have := eql_cs (linT c (fun x => !foldT c st x)) (fun _ => false) w
        rw [hq9] at this
        unfold cs at this ⊢
        rw [← cl_zero] at this
        exact this
      have HFl := Lib.hid (fun W q' h => fail_any W B c V q' h 2 p.at_)
      have HRQ := Lib.hid (show brkT c p = (setR (linT c (fun x => !foldT c st x)), failT c (expT c 93 q) 2 p.at_) from by
        rw [HBK.out, HRS.out]
        show (setR (linT c (fun x => !foldT c st x)), if el (linT c (fun x => !foldT c st x)) 256 = [] then failT c (expT c 93 q) 2 p.at_ else expT c 93 q) = _
        have h0 := el_nil (linT c (fun x => !foldT c st x))
        rw [hq9] at h0
        rw [if_pos (by simpa using h0.symm)])
      generalize foldT c st = FO at *
      generalize (fun x => !FO x) = CO at *
      generalize linT c CO = LI at *
      unfold setV at HSo
      unfold cs cl at HFo HSo hcmp HCo HLi
      clear hEq hq9 HJ HEq0 HBK
      go_upto_region 9 with (first
        | (go_at_call 91; refine (peek_any _ B c V _ hp).mono ?_; rintro e w' ⟨rfl, rfl⟩)
        | (go_at_call 109; (with_reducible refine (HEx.out _ _ hp).mono ?_); rintro e wz ⟨rfl, hs⟩; have HR := Lib.hid (HR.out.only hs.2 (by have := HL.out; omega)); have HX := Lib.hid (HX.out.only hs.2 (by have := HXB.out; omega)); clear s0 s1 s2 s3 sf; obtain ⟨⟨s0, s1⟩, ⟨s2, s3⟩, sf⟩ := HX.out.words; have HS := Lib.hid (HS.out.trans hs); clear x0 x1 x2 x3 x4 x5 x6 x7 xf; clear hs hp; have hp := HS.out.1; obtain ⟨⟨x0, x1, x2, x3, x4, x5, x6, x7⟩, xf⟩ := hp.pa.all)
        | (go_at_call 87; (with_reducible refine (HFo.out _ _ hp).mono ?_); rintro e wv ⟨rfl, hb⟩; have HR := Lib.hid (HR.out.below hb); have HX := Lib.hid (HX.out.below hb HX.out.lt); have HS := Lib.hid (HS.out.next hb); clear s0 s1 s2 s3 sf; clear x0 x1 x2 x3 x4 x5 x6 x7 xf; clear hb hp; have hp := HS.out.1; obtain ⟨⟨x0, x1, x2, x3, x4, x5, x6, x7⟩, xf⟩ := hp.pa.all; obtain ⟨⟨s0, s1⟩, ⟨s2, s3⟩, sf⟩ := HX.out.words)
        )
      have HS := Lib.hid (HS.out.put4 HL.out X (by have := HXW.out; omega) (FO))
      have HR := Lib.hid (HR.out.same (put4_far (g := w.heap.size) (k := X) (by have := HXW.out; omega) (FO)))
      have HX := Lib.hid (HX.out.put4 (FO))
      unfold Go.Proofs.YtphiaagppcbefaaGreatDoor.put4 at HS HR HX
      clear s0 s1 s2 s3 sf hp
      clear x0 x1 x2 x3 x4 x5 x6 x7 xf
      generalize (World.setCell _ ⟨X, 3, none⟩ _) = w5 at HS HR HX ⊢
      have hp := HS.out.1
      obtain ⟨⟨x0, x1, x2, x3, x4, x5, x6, x7⟩, xf⟩ := hp.pa.all
      obtain ⟨⟨s0, s1⟩, ⟨s2, s3⟩, sf⟩ := HX.out.words
      go_upto_region 11 with (first
        | (go_at_call 71; (with_reducible refine (HCo.out _).mono ?_); rintro e wv ⟨rfl, hb⟩; have HR := Lib.hid (HR.out.below hb); have HX := Lib.hid (HX.out.below hb HX.out.lt); have HS := Lib.hid (HS.out.next hb); clear s0 s1 s2 s3 sf; clear x0 x1 x2 x3 x4 x5 x6 x7 xf; clear hb hp; have hp := HS.out.1; obtain ⟨⟨x0, x1, x2, x3, x4, x5, x6, x7⟩, xf⟩ := hp.pa.all; obtain ⟨⟨s0, s1⟩, ⟨s2, s3⟩, sf⟩ := HX.out.words)
        | (go_at_call 86; (with_reducible refine (HLi.out _ _ hp).mono ?_); rintro e wv ⟨rfl, hb⟩; have HR := Lib.hid (HR.out.below hb); have HX := Lib.hid (HX.out.below hb HX.out.lt); have HS := Lib.hid (HS.out.next hb); clear s0 s1 s2 s3 sf; clear x0 x1 x2 x3 x4 x5 x6 x7 xf; clear hb hp; have hp := HS.out.1; obtain ⟨⟨x0, x1, x2, x3, x4, x5, x6, x7⟩, xf⟩ := hp.pa.all; obtain ⟨⟨s0, s1⟩, ⟨s2, s3⟩, sf⟩ := HX.out.words)
        )
      have HS := Lib.hid (HS.out.put4 HL.out X (by have := HXW.out; omega) (LI))
      have HR := Lib.hid (HR.out.same (put4_far (g := w.heap.size) (k := X) (by have := HXW.out; omega) (LI)))
      have HX := Lib.hid (HX.out.put4 (LI))
      unfold Go.Proofs.YtphiaagppcbefaaGreatDoor.put4 at HS HR HX
      clear s0 s1 s2 s3 sf hp
      clear x0 x1 x2 x3 x4 x5 x6 x7 xf
      generalize (World.setCell _ ⟨X, 3, none⟩ _) = w5 at HS HR HX ⊢
      have hp := HS.out.1
      obtain ⟨⟨x0, x1, x2, x3, x4, x5, x6, x7⟩, xf⟩ := hp.pa.all
      obtain ⟨⟨s0, s1⟩, ⟨s2, s3⟩, sf⟩ := HX.out.words
      obtain ⟨⟨⟨n0, n1, n2⟩, ⟨n3, n4, n5⟩, ⟨n6, n7, n8⟩⟩, nf⟩ := HR.out.all
      go_wp2_with (first
        | (go_at_call 104; (with_reducible refine (HFl.out _ _ hp).mono ?_); rintro e wz ⟨rfl, hs⟩; have HR := Lib.hid (HR.out.only hs.2 (by have := HL.out; omega)); have HX := Lib.hid (HX.out.only hs.2 (by have := HXB.out; omega)); clear s0 s1 s2 s3 sf n0 n1 n2 n3 n4 n5 n6 n7 n8 nf; obtain ⟨⟨s0, s1⟩, ⟨s2, s3⟩, sf⟩ := HX.out.words; obtain ⟨⟨⟨n0, n1, n2⟩, ⟨n3, n4, n5⟩, ⟨n6, n7, n8⟩⟩, nf⟩ := HR.out.all; have HS := Lib.hid (HS.out.trans hs); clear x0 x1 x2 x3 x4 x5 x6 x7 xf; clear hs hp; have hp := HS.out.1; obtain ⟨⟨x0, x1, x2, x3, x4, x5, x6, x7⟩, xf⟩ := hp.pa.all)
        | (go_at_call 85; (with_reducible refine (HSo.out _).mono ?_); rintro e wv ⟨rfl, hb⟩; have HR := Lib.hid (HR.out.below hb); have HS := Lib.hid (HS.out.next hb); clear n0 n1 n2 n3 n4 n5 n6 n7 n8 nf; obtain ⟨⟨⟨n0, n1, n2⟩, ⟨n3, n4, n5⟩, ⟨n6, n7, n8⟩⟩, nf⟩ := HR.out.all; clear hb)
        )
      refine bodyPost_ret (v := .agg #[.int .i64 2, .int .u64 (wd LI 0 64 : Nat), .int .u64 (wd LI 64 64 : Nat), .int .u64 (wd LI 128 64 : Nat), .int .u64 (wd LI 192 64 : Nat), .int .i64 0, .int .i64 0, .int .i64 0, .slice none 0 0]) (ret_re Tryz.results84 _ _ w.heap.size _ rfl (by simp) (HR.out.put9 _ _ _ _ _ _ _ _ _)) rfl ?_
      rw [HRQ.out]
      exact ⟨_, rfl, TV.leaf _ _ 2 0 0 0 LI, HS.out.put9 HL.out _ (Nat.le_refl _) _ _ _ _ _ _ _ _ _⟩
    by_cases hm1 : pkT c.s q.at_ = -1
    · have HRS : Hid (RES = (st, q)) := by
        rw [← hm.1]
        show (if pkT c.s q.at_ = 93 ∨ pkT c.s q.at_ = -1 then _ else _) = _
        rw [if_pos (.inr hm1)]
      clear hgd hk hm HM h93
      have hp := HJ.out.2.1.1
      obtain ⟨⟨x0, x1, x2, x3, x4, x5, x6, x7⟩, xf⟩ := hp.pa.all
      obtain ⟨⟨s0, s1⟩, ⟨s2, s3⟩, sf⟩ := HJ.out.1.words
      have HX := Lib.hid HJ.out.1
      have HS := Lib.hid HJ.out.2.1
      have HR := Lib.hid HJ.out.2.2
      have hEq := HEq0.out
      rw [HRS.out] at hEq
      have hq9 : eqc (linT c (fun x => !foldT c st x)) (fun _ => false) = true := hEq
      have HFo : Hid (∀ W q', PM W B c V q' → Calls Tryz.prog 87 #[.pointer (some ⟨B, 0, none⟩), cs st] W fun e w' => e = .returned (cs (foldT c st)) ∧ Below W.heap.size W w') := fun W q' h => folded_any W B c V q' h st
      have HCo : Hid (∀ W, Calls Tryz.prog 71 #[cs (foldT c st)] W fun e w' => e = .returned (cs fun x => !foldT c st x) ∧ Below W.heap.size W w') := fun W => compl_any _ W
      have HLi : Hid (∀ W q', PM W B c V q' → Calls Tryz.prog 86 #[.pointer (some ⟨B, 0, none⟩), cs fun x => !foldT c st x] W fun e w' => e = .returned (cs (linT c fun x => !foldT c st x)) ∧ Below W.heap.size W w') := fun W q' h => lin_any W B c V q' h _
      have HSo : Hid (∀ W, Calls Tryz.prog 85 #[cs (linT c (fun x => !foldT c st x))] W fun e w' => e = .returned (setV (linT c (fun x => !foldT c st x))) ∧ Below W.heap.size W w') := fun W => setOf_any _ W
      have hcmp : ∀ w, (binOp .eql 32 (cs (linT c (fun x => !foldT c st x))) (.agg #[.int .u64 0, .int .u64 0, .int .u64 0, .int .u64 0])).run Tryz.prog w = .ok (.bool true) w := fun w => by
        have := eql_cs (linT c (fun x => !foldT c st x)) (fun _ => false) w
        rw [hq9] at this
        unfold cs at this ⊢
        rw [← cl_zero] at this
        exact this
      have HFl := Lib.hid (fun W q' h => fail_any W B c V q' h 2 p.at_)
      have HRQ := Lib.hid (show brkT c p = (setR (linT c (fun x => !foldT c st x)), failT c (expT c 93 q) 2 p.at_) from by
        rw [HBK.out, HRS.out]
        show (setR (linT c (fun x => !foldT c st x)), if el (linT c (fun x => !foldT c st x)) 256 = [] then failT c (expT c 93 q) 2 p.at_ else expT c 93 q) = _
        have h0 := el_nil (linT c (fun x => !foldT c st x))
        rw [hq9] at h0
        rw [if_pos (by simpa using h0.symm)])
      generalize foldT c st = FO at *
      generalize (fun x => !FO x) = CO at *
      generalize linT c CO = LI at *
      unfold setV at HSo
      unfold cs cl at HFo HSo hcmp HCo HLi
      clear hEq hq9 HJ HEq0 HBK
      go_upto_region 9 with (first
        | (go_at_call 91; refine (peek_any _ B c V _ hp).mono ?_; rintro e w' ⟨rfl, rfl⟩)
        | (go_at_call 109; (with_reducible refine (HEx.out _ _ hp).mono ?_); rintro e wz ⟨rfl, hs⟩; have HR := Lib.hid (HR.out.only hs.2 (by have := HL.out; omega)); have HX := Lib.hid (HX.out.only hs.2 (by have := HXB.out; omega)); clear s0 s1 s2 s3 sf; obtain ⟨⟨s0, s1⟩, ⟨s2, s3⟩, sf⟩ := HX.out.words; have HS := Lib.hid (HS.out.trans hs); clear x0 x1 x2 x3 x4 x5 x6 x7 xf; clear hs hp; have hp := HS.out.1; obtain ⟨⟨x0, x1, x2, x3, x4, x5, x6, x7⟩, xf⟩ := hp.pa.all)
        | (go_at_call 87; (with_reducible refine (HFo.out _ _ hp).mono ?_); rintro e wv ⟨rfl, hb⟩; have HR := Lib.hid (HR.out.below hb); have HX := Lib.hid (HX.out.below hb HX.out.lt); have HS := Lib.hid (HS.out.next hb); clear s0 s1 s2 s3 sf; clear x0 x1 x2 x3 x4 x5 x6 x7 xf; clear hb hp; have hp := HS.out.1; obtain ⟨⟨x0, x1, x2, x3, x4, x5, x6, x7⟩, xf⟩ := hp.pa.all; obtain ⟨⟨s0, s1⟩, ⟨s2, s3⟩, sf⟩ := HX.out.words)
        )
      have HS := Lib.hid (HS.out.put4 HL.out X (by have := HXW.out; omega) (FO))
      have HR := Lib.hid (HR.out.same (put4_far (g := w.heap.size) (k := X) (by have := HXW.out; omega) (FO)))
      have HX := Lib.hid (HX.out.put4 (FO))
      unfold Go.Proofs.YtphiaagppcbefaaGreatDoor.put4 at HS HR HX
      clear s0 s1 s2 s3 sf hp
      clear x0 x1 x2 x3 x4 x5 x6 x7 xf
      generalize (World.setCell _ ⟨X, 3, none⟩ _) = w5 at HS HR HX ⊢
      have hp := HS.out.1
      obtain ⟨⟨x0, x1, x2, x3, x4, x5, x6, x7⟩, xf⟩ := hp.pa.all
      obtain ⟨⟨s0, s1⟩, ⟨s2, s3⟩, sf⟩ := HX.out.words
      go_upto_region 11 with (first
        | (go_at_call 71; (with_reducible refine (HCo.out _).mono ?_); rintro e wv ⟨rfl, hb⟩; have HR := Lib.hid (HR.out.below hb); have HX := Lib.hid (HX.out.below hb HX.out.lt); have HS := Lib.hid (HS.out.next hb); clear s0 s1 s2 s3 sf; clear x0 x1 x2 x3 x4 x5 x6 x7 xf; clear hb hp; have hp := HS.out.1; obtain ⟨⟨x0, x1, x2, x3, x4, x5, x6, x7⟩, xf⟩ := hp.pa.all; obtain ⟨⟨s0, s1⟩, ⟨s2, s3⟩, sf⟩ := HX.out.words)
        | (go_at_call 86; (with_reducible refine (HLi.out _ _ hp).mono ?_); rintro e wv ⟨rfl, hb⟩; have HR := Lib.hid (HR.out.below hb); have HX := Lib.hid (HX.out.below hb HX.out.lt); have HS := Lib.hid (HS.out.next hb); clear s0 s1 s2 s3 sf; clear x0 x1 x2 x3 x4 x5 x6 x7 xf; clear hb hp; have hp := HS.out.1; obtain ⟨⟨x0, x1, x2, x3, x4, x5, x6, x7⟩, xf⟩ := hp.pa.all; obtain ⟨⟨s0, s1⟩, ⟨s2, s3⟩, sf⟩ := HX.out.words)
        )
      have HS := Lib.hid (HS.out.put4 HL.out X (by have := HXW.out; omega) (LI))
      have HR := Lib.hid (HR.out.same (put4_far (g := w.heap.size) (k := X) (by have := HXW.out; omega) (LI)))
      have HX := Lib.hid (HX.out.put4 (LI))
      unfold Go.Proofs.YtphiaagppcbefaaGreatDoor.put4 at HS HR HX
      clear s0 s1 s2 s3 sf hp
      clear x0 x1 x2 x3 x4 x5 x6 x7 xf
      generalize (World.setCell _ ⟨X, 3, none⟩ _) = w5 at HS HR HX ⊢
      have hp := HS.out.1
      obtain ⟨⟨x0, x1, x2, x3, x4, x5, x6, x7⟩, xf⟩ := hp.pa.all
      obtain ⟨⟨s0, s1⟩, ⟨s2, s3⟩, sf⟩ := HX.out.words
      obtain ⟨⟨⟨n0, n1, n2⟩, ⟨n3, n4, n5⟩, ⟨n6, n7, n8⟩⟩, nf⟩ := HR.out.all
      go_wp2_with (first
        | (go_at_call 104; (with_reducible refine (HFl.out _ _ hp).mono ?_); rintro e wz ⟨rfl, hs⟩; have HR := Lib.hid (HR.out.only hs.2 (by have := HL.out; omega)); have HX := Lib.hid (HX.out.only hs.2 (by have := HXB.out; omega)); clear s0 s1 s2 s3 sf n0 n1 n2 n3 n4 n5 n6 n7 n8 nf; obtain ⟨⟨s0, s1⟩, ⟨s2, s3⟩, sf⟩ := HX.out.words; obtain ⟨⟨⟨n0, n1, n2⟩, ⟨n3, n4, n5⟩, ⟨n6, n7, n8⟩⟩, nf⟩ := HR.out.all; have HS := Lib.hid (HS.out.trans hs); clear x0 x1 x2 x3 x4 x5 x6 x7 xf; clear hs hp; have hp := HS.out.1; obtain ⟨⟨x0, x1, x2, x3, x4, x5, x6, x7⟩, xf⟩ := hp.pa.all)
        | (go_at_call 85; (with_reducible refine (HSo.out _).mono ?_); rintro e wv ⟨rfl, hb⟩; have HR := Lib.hid (HR.out.below hb); have HS := Lib.hid (HS.out.next hb); clear n0 n1 n2 n3 n4 n5 n6 n7 n8 nf; obtain ⟨⟨⟨n0, n1, n2⟩, ⟨n3, n4, n5⟩, ⟨n6, n7, n8⟩⟩, nf⟩ := HR.out.all; clear hb)
        )
      refine bodyPost_ret (v := .agg #[.int .i64 2, .int .u64 (wd LI 0 64 : Nat), .int .u64 (wd LI 64 64 : Nat), .int .u64 (wd LI 128 64 : Nat), .int .u64 (wd LI 192 64 : Nat), .int .i64 0, .int .i64 0, .int .i64 0, .slice none 0 0]) (ret_re Tryz.results84 _ _ w.heap.size _ rfl (by simp) (HR.out.put9 _ _ _ _ _ _ _ _ _)) rfl ?_
      rw [HRQ.out]
      exact ⟨_, rfl, TV.leaf _ _ 2 0 0 0 LI, HS.out.put9 HL.out _ (Nat.le_refl _) _ _ _ _ _ _ _ _ _⟩
    · obtain ⟨⟨M, q2⟩, hr⟩ : ∃ r, itmT c q = r := ⟨_, rfl⟩
      have HRL : Hid (itsT c k (fun x => st x || M x) q2 = RES ∧ c.s.size + 1 ≤ q2.at_ + k) := by
        have h1 : itsT c (k + 1) st q = itsT c k (fun x => st x || (itmT c q).1 x) (itmT c q).2 := by
          show (if pkT c.s q.at_ = 93 ∨ pkT c.s q.at_ = -1 then _ else _) = _
          rw [if_neg (by rintro (e | e); exact h93 e; exact hm1 e)]
        have h2 := itm_strict hgd (pk_lt hm1)
        rw [hr] at h1 h2
        exact ⟨by rw [← hm.1, h1], by have h4 : q.at_ < q2.at_ := h2; have := hm.2; omega⟩
      have HI2 : Hid (∀ W, PM W B c V q → Calls Tryz.prog 107 #[.pointer (some ⟨B, 0, none⟩)] W fun e w' => e = .returned (cs M) ∧ Stp W B c V q2 w') := fun W h => by
        have := item_any W B c V q h
        rw [hr] at this
        exact this
      have HUn := Lib.hid (union_any st M)
      generalize (fun x => st x || M x) = UN at *
      unfold cs cl at HI2 HUn
      have r1 : (pkT c.s q.at_ == 93) = false := by simpa using h93
      have r2 : (pkT c.s q.at_ == -1) = false := by simpa using hm1
      have r3 : (pkT c.s q.at_ != 93) = true := by simpa using h93
      have r4 : (pkT c.s q.at_ != -1) = true := by simpa using hm1
      have HS := Lib.hid HJ.out.2.1
      have HR := Lib.hid HJ.out.2.2
      have HX := Lib.hid HJ.out.1
      clear hgd hk hm HM h93 hm1 hr HJ HI HEq0 HBK
      have hp := HS.out.1
      obtain ⟨⟨x0, x1, x2, x3, x4, x5, x6, x7⟩, xf⟩ := hp.pa.all
      go_upto_region 6 with (first
        | (go_at_call 91; refine (peek_any _ B c V _ hp).mono ?_; rintro e w' ⟨rfl, rfl⟩)
        )
      have HR := Lib.hid (HR.out.same (w' := wr.drew) rfl)
      have HX := Lib.hid HX.out.drew
      have HS := Lib.hid HS.out.drew
      clear x0 x1 x2 x3 x4 x5 x6 x7 xf
      clear hp
      have hp := HS.out.1
      obtain ⟨⟨s0, s1⟩, ⟨s2, s3⟩, sf⟩ := HX.out.words
      refine wp_region_held_drew (S := fun _ => True) (by kernel_rfl) ?_ (fun hHeld => ?_)
      · exact trivial
      refine wpAnyH_take (i := 1) (v := ?av1) rfl (by kernel_rfl) (by kernel_rfl) (by kernel_rfl) (fun _ _ _ h => h) (Or.inl ⟨by rfl, ?ay1⟩) (by assumption) ?ar1
      case ay1 =>
        intro wx hSw
        clear hSw
        go_simp
        first | done | (with_reducible rfl)
      (try simp only [Act.put, List.getElem_toArray, List.getElem_cons_succ, List.getElem_cons_zero, List.setIfInBounds_toArray, List.set_cons_zero, List.set_cons_succ])
      refine wpAnyH_ready (rs := [0, 2]) (by kernel_rfl) (by simp) ?_
      refine AllReadyH.cons rfl (fun K hK => ?_) (AllReadyH.cons rfl (fun K hK => ?_) AllReadyH.nil)
      · go_simp
        refine hK.out _ _ trivial (fun _ => ?_)
        clear hK K
        (try simp only [Act.put, List.getElem_toArray, List.getElem_cons_zero, List.setIfInBounds_toArray, List.set_cons_zero, List.set_cons_succ])
        refine wpAnyH_ready (rs := [2]) (by kernel_rfl) (by simp) ?_
        refine AllReadyH.cons rfl (fun K hK => ?_) AllReadyH.nil
        go_simp
        go_at_call 107
        refine (HI2.out _ hp).mono ?_
        rintro e wz ⟨rfl, hs⟩
        have HR := Lib.hid (HR.out.only hs.2 (by have := HL.out; omega))
        have HX := Lib.hid (HX.out.only hs.2 (by have := HXB.out; omega))
        have HS := Lib.hid (HS.out.trans hs)
        clear s0 s1 s2 s3 sf
        clear hs hp
        obtain ⟨⟨s0, s1⟩, ⟨s2, s3⟩, sf⟩ := HX.out.words
        refine hK.out _ _ trivial (fun _ => ?_)
        clear hK K
        (try simp only [Act.put, List.getElem_toArray, List.getElem_cons_succ, List.getElem_cons_zero, List.setIfInBounds_toArray, List.set_cons_zero, List.set_cons_succ])
        refine wpAnyH_ready (rs := [3]) (by kernel_rfl) (by simp) ?_
        refine AllReadyH.cons rfl (fun K hK => ?_) AllReadyH.nil
        go_simp
        go_at_call 108
        refine (HUn.out _).mono ?_
        rintro e wv ⟨rfl, hb⟩
        have HR := Lib.hid (HR.out.below hb)
        have HX := Lib.hid (HX.out.below hb HX.out.lt)
        have HS := Lib.hid (HS.out.next hb)
        clear s0 s1 s2 s3 sf hb
        obtain ⟨⟨s0, s1⟩, ⟨s2, s3⟩, sf⟩ := HX.out.words
        refine hK.out _ _ trivial (fun _ => ?_)
        clear hK K
        (try simp only [Act.put, List.getElem_toArray, List.getElem_cons_succ, List.getElem_cons_zero, List.setIfInBounds_toArray, List.set_cons_zero, List.set_cons_succ])
        refine wpAnyH_ready (rs := [4]) (by kernel_rfl) (by simp) ?_
        refine AllReadyH.cons rfl (fun K hK => ?_) AllReadyH.nil
        go_simp
        refine hK.out _ _ trivial (fun _ => ?_)
        clear hK K
        (try simp only [Act.put, List.getElem_toArray, List.getElem_cons_succ, List.getElem_cons_zero, List.setIfInBounds_toArray, List.set_cons_zero, List.set_cons_succ])
        refine wpAnyH_done (by kernel_rfl) ?_ _
        go_wp2
        go_roundg k
        case measure => have := HKk.out; omega
        case rel => exact ⟨UN, q2, HRL.out, HX.out.put4 UN, HS.out.put4 HL.out X (by have := HXW.out; omega) UN, HR.out.same (put4_far (g := w.heap.size) (k := X) (by have := HXW.out; omega) UN)⟩
      · go_simp
        go_at_call 107
        refine (HI2.out _ hp).mono ?_
        rintro e wz ⟨rfl, hs⟩
        have HR := Lib.hid (HR.out.only hs.2 (by have := HL.out; omega))
        have HX := Lib.hid (HX.out.only hs.2 (by have := HXB.out; omega))
        have HS := Lib.hid (HS.out.trans hs)
        clear s0 s1 s2 s3 sf
        clear hs hp
        obtain ⟨⟨s0, s1⟩, ⟨s2, s3⟩, sf⟩ := HX.out.words
        refine hK.out _ _ trivial (fun _ => ?_)
        clear hK K
        (try simp only [Act.put, List.getElem_toArray, List.getElem_cons_succ, List.getElem_cons_zero, List.setIfInBounds_toArray, List.set_cons_zero, List.set_cons_succ])
        refine wpAnyH_ready (rs := [0]) (by kernel_rfl) (by simp) ?_
        refine AllReadyH.cons rfl (fun K hK => ?_) AllReadyH.nil
        go_simp
        refine hK.out _ _ trivial (fun _ => ?_)
        clear hK K
        (try simp only [Act.put, List.getElem_toArray, List.getElem_cons_zero, List.setIfInBounds_toArray, List.set_cons_zero, List.set_cons_succ])
        refine wpAnyH_ready (rs := [3]) (by kernel_rfl) (by simp) ?_
        refine AllReadyH.cons rfl (fun K hK => ?_) AllReadyH.nil
        go_simp
        go_at_call 108
        refine (HUn.out _).mono ?_
        rintro e wv ⟨rfl, hb⟩
        have HR := Lib.hid (HR.out.below hb)
        have HX := Lib.hid (HX.out.below hb HX.out.lt)
        have HS := Lib.hid (HS.out.next hb)
        clear s0 s1 s2 s3 sf hb
        obtain ⟨⟨s0, s1⟩, ⟨s2, s3⟩, sf⟩ := HX.out.words
        refine hK.out _ _ trivial (fun _ => ?_)
        clear hK K
        (try simp only [Act.put, List.getElem_toArray, List.getElem_cons_succ, List.getElem_cons_zero, List.setIfInBounds_toArray, List.set_cons_zero, List.set_cons_succ])
        refine wpAnyH_ready (rs := [4]) (by kernel_rfl) (by simp) ?_
        refine AllReadyH.cons rfl (fun K hK => ?_) AllReadyH.nil
        go_simp
        refine hK.out _ _ trivial (fun _ => ?_)
        clear hK K
        (try simp only [Act.put, List.getElem_toArray, List.getElem_cons_succ, List.getElem_cons_zero, List.setIfInBounds_toArray, List.set_cons_zero, List.set_cons_succ])
        refine wpAnyH_done (by kernel_rfl) ?_ _
        go_wp2
        go_roundg k
        case measure => have := HKk.out; omega
        case rel => exact ⟨UN, q2, HRL.out, HX.out.put4 UN, HS.out.put4 HL.out X (by have := HXW.out; omega) UN, HR.out.same (put4_far (g := w.heap.size) (k := X) (by have := HXW.out; omega) UN)⟩
set_option maxRecDepth 100000 in
set_option maxHeartbeats 16000000 in
theorem brk_true_false (w : World) (B : Nat) (c : CX) (V : LV) (p : PS) (h : PM w B c V p) (hk : pkT c.s p.at_ = 91) (q0 : PS) (hi : acbT c 94 (p.to (p.at_ + 1)) = (true, q0)) (hE : eqc (brkS c true (itsT c (c.s.size + 1) (itmT c q0).1 (itmT c q0).2).1) (fun _ => false) = false) :
    Calls Tryz.prog 84 #[.pointer (some ⟨B, 0, none⟩)] w (Ret w B c V (brkT c p)) := by
  have hx : Below w.heap.size w (w.alloc (.cells #[.int .i64 0, .int .u64 0, .int .u64 0, .int .u64 0, .int .u64 0, .int .i64 0, .int .i64 0, .int .i64 0, .slice none 0 0] 35)) := (Below.refl _ _).alloc (Nat.le_refl _) _
  have HS := Lib.hid (Stp.of_below h hx)
  have HR := Lib.hid (RAt.one w #[.int .i64 0, .int .u64 0, .int .u64 0, .int .u64 0, .int .u64 0, .int .i64 0, .int .i64 0, .int .i64 0, .slice none 0 0])
  have HL := Lib.hid h.lt
  have HA1 := Lib.hid (fun W h => acceptByte_yes W B c V p h 91 (by omega) hk)
  have HA2 : Hid (∀ W, PM W B c V (p.to (p.at_ + 1)) → Calls Tryz.prog 106 #[.pointer (some ⟨B, 0, none⟩), .int .i32 94] W fun e w' => e = .returned (.bool true) ∧ Stp W B c V q0 w') := fun W h => by
    have := acceptByte_any W B c V _ h 94 (by omega)
    rw [hi] at this
    exact this
  obtain ⟨RES, hRES⟩ : ∃ RES, itsT c (c.s.size + 1) (itmT c q0).1 (itmT c q0).2 = RES := ⟨_, rfl⟩
  rw [hRES] at hE
  have HBK : Hid (brkT c p = (setR (brkS c true RES.1), if el (brkS c true RES.1) 256 = [] then failT c (expT c 93 RES.2) 2 p.at_ else expT c 93 RES.2)) := by
    have e1 : acbT c 91 p = (true, p.to (p.at_ + 1)) := by unfold acbT; rw [if_pos hk]
    exact brk_eq (by rw [e1]; exact hi) hRES
  obtain ⟨⟨A, q1⟩, hr⟩ : ∃ r, itmT c q0 = r := ⟨_, rfl⟩
  rw [hr] at hRES
  have HI : Hid (∀ W, PM W B c V q0 → Calls Tryz.prog 107 #[.pointer (some ⟨B, 0, none⟩)] W fun e w' => e = .returned (cs A) ∧ Stp W B c V q1 w') := fun W h => by
    have := item_any W B c V q0 h
    rw [hr] at this
    exact this
  unfold cs cl at HI
  have HEx := Lib.hid (fun W q' h => expectByte_any W B c V q' h 93 (by omega))
  have HRE := Lib.hid hRES
  have HEq0 := Lib.hid hE
  have hp := HS.out.1
  obtain ⟨⟨x0, x1, x2, x3, x4, x5, x6, x7⟩, xf⟩ := hp.pa.all
  clear h hx hk hi hE hRES hr
  go_enter Tryz.func84, Tryz.ntmps84
  go_wp2_with (first
    | (go_at_call 106; (with_reducible refine (HA1.out _ hp).mono ?_); rintro e wz ⟨rfl, hs⟩; have HR := Lib.hid (HR.out.only hs.2 (by have := HL.out; omega)); have HS := Lib.hid (HS.out.trans hs); clear x0 x1 x2 x3 x4 x5 x6 x7 xf; clear hs hp; have hp := HS.out.1; obtain ⟨⟨x0, x1, x2, x3, x4, x5, x6, x7⟩, xf⟩ := hp.pa.all)
    | (go_at_call 106; (with_reducible refine (HA2.out _ hp).mono ?_); rintro e wz ⟨rfl, hs⟩; have HR := Lib.hid (HR.out.only hs.2 (by have := HL.out; omega)); have HS := Lib.hid (HS.out.trans hs); clear x0 x1 x2 x3 x4 x5 x6 x7 xf; clear hs hp; have hp := HS.out.1; obtain ⟨⟨x0, x1, x2, x3, x4, x5, x6, x7⟩, xf⟩ := hp.pa.all)
    | (go_at_call 107; (with_reducible refine (HI.out _ hp).mono ?_); rintro e wi ⟨rfl, hs⟩; have hx5 : Below wi.heap.size wi (wi.alloc (.cells #[.int .u64 (wd A 0 64 : Nat), .int .u64 (wd A 64 64 : Nat), .int .u64 (wd A 128 64 : Nat), .int .u64 (wd A 192 64 : Nat)] 32)) := (Below.refl _ _).alloc (Nat.le_refl _) _; have HXW := Lib.hid (Nat.lt_of_lt_of_le HR.out.lt hs.2.size); have HXB := Lib.hid hs.1.lt; have HR := Lib.hid ((HR.out.only hs.2 (by have := HL.out; omega)).below hx5); have HS := Lib.hid (HS.out.trans (hs.next hx5)); have HX : Hid (At (wi.alloc (.cells #[.int .u64 (wd A 0 64 : Nat), .int .u64 (wd A 64 64 : Nat), .int .u64 (wd A 128 64 : Nat), .int .u64 (wd A 192 64 : Nat)] 32)) wi.heap.size A) := Lib.hid (At.new wi A); clear hs hp hx5; clear x0 x1 x2 x3 x4 x5 x6 x7 xf)
    )
  generalize (wi.alloc (.cells #[.int .u64 (wd A 0 64 : Nat), .int .u64 (wd A 64 64 : Nat), .int .u64 (wd A 128 64 : Nat), .int .u64 (wd A 192 64 : Nat)] 32)) = W1 at *
  have HX : Hid (At W1 wi.heap.size A) := HX
  generalize wi.heap.size = X at HX HXW HXB ⊢
  have HJ0 := Lib.hid (And.intro HX.out (And.intro HS.out HR.out))
  clear HX HS HR
  go_loopg [] (c.s.size + 1) (fun k wr => ∃ (st : Nat → Bool) (q : PS), Hid (itsT c k st q = RES ∧ c.s.size + 1 ≤ q.at_ + k) ∧ Hid (At wr X st ∧ Stp w B c V q wr ∧ RAt wr w.heap.size #[.int .i64 0, .int .u64 0, .int .u64 0, .int .u64 0, .int .u64 0, .int .i64 0, .int .i64 0, .int .i64 0, .slice none 0 0]))
  case atStart => exact ⟨A, q1, ⟨HRE.out, by omega⟩, HJ0.out⟩
  case round =>
    obtain ⟨st, q, HM, HJ⟩ := hrel
    clear HJ0 HRE
    have hgd := HJ.out.2.1.1.gd
    obtain ⟨k, hk⟩ : ∃ k, gk = k + 1 := ⟨gk - 1, by have := HM.out.2; have := hgd.at_; omega⟩
    have HKk := Lib.hid hk
    have hm := HM.out
    rw [hk] at hm
    by_cases h93 : pkT c.s q.at_ = 93
    · have HRS : Hid (RES = (st, q)) := by
        rw [← hm.1]
        show (if pkT c.s q.at_ = 93 ∨ pkT c.s q.at_ = -1 then _ else _) = _
        rw [if_pos (.inl h93)]
      clear hgd hk hm HM
      have hp := HJ.out.2.1.1
      obtain ⟨⟨x0, x1, x2, x3, x4, x5, x6, x7⟩, xf⟩ := hp.pa.all
      obtain ⟨⟨s0, s1⟩, ⟨s2, s3⟩, sf⟩ := HJ.out.1.words
      have HX := Lib.hid HJ.out.1
      have HS := Lib.hid HJ.out.2.1
      have HR := Lib.hid HJ.out.2.2
      have hEq := HEq0.out
      rw [HRS.out] at hEq
      have hq9 : eqc (linT c (fun x => !foldT c st x)) (fun _ => false) = false := hEq
      have HFo : Hid (∀ W q', PM W B c V q' → Calls Tryz.prog 87 #[.pointer (some ⟨B, 0, none⟩), cs st] W fun e w' => e = .returned (cs (foldT c st)) ∧ Below W.heap.size W w') := fun W q' h => folded_any W B c V q' h st
      have HCo : Hid (∀ W, Calls Tryz.prog 71 #[cs (foldT c st)] W fun e w' => e = .returned (cs fun x => !foldT c st x) ∧ Below W.heap.size W w') := fun W => compl_any _ W
      have HLi : Hid (∀ W q', PM W B c V q' → Calls Tryz.prog 86 #[.pointer (some ⟨B, 0, none⟩), cs fun x => !foldT c st x] W fun e w' => e = .returned (cs (linT c fun x => !foldT c st x)) ∧ Below W.heap.size W w') := fun W q' h => lin_any W B c V q' h _
      have HSo : Hid (∀ W, Calls Tryz.prog 85 #[cs (linT c (fun x => !foldT c st x))] W fun e w' => e = .returned (setV (linT c (fun x => !foldT c st x))) ∧ Below W.heap.size W w') := fun W => setOf_any _ W
      have hcmp : ∀ w, (binOp .eql 32 (cs (linT c (fun x => !foldT c st x))) (.agg #[.int .u64 0, .int .u64 0, .int .u64 0, .int .u64 0])).run Tryz.prog w = .ok (.bool false) w := fun w => by
        have := eql_cs (linT c (fun x => !foldT c st x)) (fun _ => false) w
        rw [hq9] at this
        unfold cs at this ⊢
        rw [← cl_zero] at this
        exact this
      have HFl := Lib.hid (fun W q' h => fail_any W B c V q' h 2 p.at_)
      have HRQ := Lib.hid (show brkT c p = (setR (linT c (fun x => !foldT c st x)), expT c 93 q) from by
        rw [HBK.out, HRS.out]
        show (setR (linT c (fun x => !foldT c st x)), if el (linT c (fun x => !foldT c st x)) 256 = [] then failT c (expT c 93 q) 2 p.at_ else expT c 93 q) = _
        have h0 := el_nil (linT c (fun x => !foldT c st x))
        rw [hq9] at h0
        rw [if_neg (by simpa using h0.symm)])
      generalize foldT c st = FO at *
      generalize (fun x => !FO x) = CO at *
      generalize linT c CO = LI at *
      unfold setV at HSo
      unfold cs cl at HFo HSo hcmp HCo HLi
      clear hEq hq9 HJ HEq0 HBK
      go_upto_region 9 with (first
        | (go_at_call 91; refine (peek_any _ B c V _ hp).mono ?_; rintro e w' ⟨rfl, rfl⟩)
        | (go_at_call 109; (with_reducible refine (HEx.out _ _ hp).mono ?_); rintro e wz ⟨rfl, hs⟩; have HR := Lib.hid (HR.out.only hs.2 (by have := HL.out; omega)); have HX := Lib.hid (HX.out.only hs.2 (by have := HXB.out; omega)); clear s0 s1 s2 s3 sf; obtain ⟨⟨s0, s1⟩, ⟨s2, s3⟩, sf⟩ := HX.out.words; have HS := Lib.hid (HS.out.trans hs); clear x0 x1 x2 x3 x4 x5 x6 x7 xf; clear hs hp; have hp := HS.out.1; obtain ⟨⟨x0, x1, x2, x3, x4, x5, x6, x7⟩, xf⟩ := hp.pa.all)
        | (go_at_call 87; (with_reducible refine (HFo.out _ _ hp).mono ?_); rintro e wv ⟨rfl, hb⟩; have HR := Lib.hid (HR.out.below hb); have HX := Lib.hid (HX.out.below hb HX.out.lt); have HS := Lib.hid (HS.out.next hb); clear s0 s1 s2 s3 sf; clear x0 x1 x2 x3 x4 x5 x6 x7 xf; clear hb hp; have hp := HS.out.1; obtain ⟨⟨x0, x1, x2, x3, x4, x5, x6, x7⟩, xf⟩ := hp.pa.all; obtain ⟨⟨s0, s1⟩, ⟨s2, s3⟩, sf⟩ := HX.out.words)
        )
      have HS := Lib.hid (HS.out.put4 HL.out X (by have := HXW.out; omega) (FO))
      have HR := Lib.hid (HR.out.same (put4_far (g := w.heap.size) (k := X) (by have := HXW.out; omega) (FO)))
      have HX := Lib.hid (HX.out.put4 (FO))
      unfold Go.Proofs.YtphiaagppcbefaaGreatDoor.put4 at HS HR HX
      clear s0 s1 s2 s3 sf hp
      clear x0 x1 x2 x3 x4 x5 x6 x7 xf
      generalize (World.setCell _ ⟨X, 3, none⟩ _) = w5 at HS HR HX ⊢
      have hp := HS.out.1
      obtain ⟨⟨x0, x1, x2, x3, x4, x5, x6, x7⟩, xf⟩ := hp.pa.all
      obtain ⟨⟨s0, s1⟩, ⟨s2, s3⟩, sf⟩ := HX.out.words
      go_upto_region 11 with (first
        | (go_at_call 71; (with_reducible refine (HCo.out _).mono ?_); rintro e wv ⟨rfl, hb⟩; have HR := Lib.hid (HR.out.below hb); have HX := Lib.hid (HX.out.below hb HX.out.lt); have HS := Lib.hid (HS.out.next hb); clear s0 s1 s2 s3 sf; clear x0 x1 x2 x3 x4 x5 x6 x7 xf; clear hb hp; have hp := HS.out.1; obtain ⟨⟨x0, x1, x2, x3, x4, x5, x6, x7⟩, xf⟩ := hp.pa.all; obtain ⟨⟨s0, s1⟩, ⟨s2, s3⟩, sf⟩ := HX.out.words)
        | (go_at_call 86; (with_reducible refine (HLi.out _ _ hp).mono ?_); rintro e wv ⟨rfl, hb⟩; have HR := Lib.hid (HR.out.below hb); have HX := Lib.hid (HX.out.below hb HX.out.lt); have HS := Lib.hid (HS.out.next hb); clear s0 s1 s2 s3 sf; clear x0 x1 x2 x3 x4 x5 x6 x7 xf; clear hb hp; have hp := HS.out.1; obtain ⟨⟨x0, x1, x2, x3, x4, x5, x6, x7⟩, xf⟩ := hp.pa.all; obtain ⟨⟨s0, s1⟩, ⟨s2, s3⟩, sf⟩ := HX.out.words)
        )
      have HS := Lib.hid (HS.out.put4 HL.out X (by have := HXW.out; omega) (LI))
      have HR := Lib.hid (HR.out.same (put4_far (g := w.heap.size) (k := X) (by have := HXW.out; omega) (LI)))
      have HX := Lib.hid (HX.out.put4 (LI))
      unfold Go.Proofs.YtphiaagppcbefaaGreatDoor.put4 at HS HR HX
      clear s0 s1 s2 s3 sf hp
      clear x0 x1 x2 x3 x4 x5 x6 x7 xf
      generalize (World.setCell _ ⟨X, 3, none⟩ _) = w5 at HS HR HX ⊢
      have hp := HS.out.1
      obtain ⟨⟨x0, x1, x2, x3, x4, x5, x6, x7⟩, xf⟩ := hp.pa.all
      obtain ⟨⟨s0, s1⟩, ⟨s2, s3⟩, sf⟩ := HX.out.words
      obtain ⟨⟨⟨n0, n1, n2⟩, ⟨n3, n4, n5⟩, ⟨n6, n7, n8⟩⟩, nf⟩ := HR.out.all
      go_wp2_with (first
        | (go_at_call 104; (with_reducible refine (HFl.out _ _ hp).mono ?_); rintro e wz ⟨rfl, hs⟩; have HR := Lib.hid (HR.out.only hs.2 (by have := HL.out; omega)); have HX := Lib.hid (HX.out.only hs.2 (by have := HXB.out; omega)); clear s0 s1 s2 s3 sf n0 n1 n2 n3 n4 n5 n6 n7 n8 nf; obtain ⟨⟨s0, s1⟩, ⟨s2, s3⟩, sf⟩ := HX.out.words; obtain ⟨⟨⟨n0, n1, n2⟩, ⟨n3, n4, n5⟩, ⟨n6, n7, n8⟩⟩, nf⟩ := HR.out.all; have HS := Lib.hid (HS.out.trans hs); clear x0 x1 x2 x3 x4 x5 x6 x7 xf; clear hs hp; have hp := HS.out.1; obtain ⟨⟨x0, x1, x2, x3, x4, x5, x6, x7⟩, xf⟩ := hp.pa.all)
        | (go_at_call 85; (with_reducible refine (HSo.out _).mono ?_); rintro e wv ⟨rfl, hb⟩; have HR := Lib.hid (HR.out.below hb); have HS := Lib.hid (HS.out.next hb); clear n0 n1 n2 n3 n4 n5 n6 n7 n8 nf; obtain ⟨⟨⟨n0, n1, n2⟩, ⟨n3, n4, n5⟩, ⟨n6, n7, n8⟩⟩, nf⟩ := HR.out.all; clear hb)
        )
      refine bodyPost_ret (v := .agg #[.int .i64 2, .int .u64 (wd LI 0 64 : Nat), .int .u64 (wd LI 64 64 : Nat), .int .u64 (wd LI 128 64 : Nat), .int .u64 (wd LI 192 64 : Nat), .int .i64 0, .int .i64 0, .int .i64 0, .slice none 0 0]) (ret_re Tryz.results84 _ _ w.heap.size _ rfl (by simp) (HR.out.put9 _ _ _ _ _ _ _ _ _)) rfl ?_
      rw [HRQ.out]
      exact ⟨_, rfl, TV.leaf _ _ 2 0 0 0 LI, HS.out.put9 HL.out _ (Nat.le_refl _) _ _ _ _ _ _ _ _ _⟩
    by_cases hm1 : pkT c.s q.at_ = -1
    · have HRS : Hid (RES = (st, q)) := by
        rw [← hm.1]
        show (if pkT c.s q.at_ = 93 ∨ pkT c.s q.at_ = -1 then _ else _) = _
        rw [if_pos (.inr hm1)]
      clear hgd hk hm HM h93
      have hp := HJ.out.2.1.1
      obtain ⟨⟨x0, x1, x2, x3, x4, x5, x6, x7⟩, xf⟩ := hp.pa.all
      obtain ⟨⟨s0, s1⟩, ⟨s2, s3⟩, sf⟩ := HJ.out.1.words
      have HX := Lib.hid HJ.out.1
      have HS := Lib.hid HJ.out.2.1
      have HR := Lib.hid HJ.out.2.2
      have hEq := HEq0.out
      rw [HRS.out] at hEq
      have hq9 : eqc (linT c (fun x => !foldT c st x)) (fun _ => false) = false := hEq
      have HFo : Hid (∀ W q', PM W B c V q' → Calls Tryz.prog 87 #[.pointer (some ⟨B, 0, none⟩), cs st] W fun e w' => e = .returned (cs (foldT c st)) ∧ Below W.heap.size W w') := fun W q' h => folded_any W B c V q' h st
      have HCo : Hid (∀ W, Calls Tryz.prog 71 #[cs (foldT c st)] W fun e w' => e = .returned (cs fun x => !foldT c st x) ∧ Below W.heap.size W w') := fun W => compl_any _ W
      have HLi : Hid (∀ W q', PM W B c V q' → Calls Tryz.prog 86 #[.pointer (some ⟨B, 0, none⟩), cs fun x => !foldT c st x] W fun e w' => e = .returned (cs (linT c fun x => !foldT c st x)) ∧ Below W.heap.size W w') := fun W q' h => lin_any W B c V q' h _
      have HSo : Hid (∀ W, Calls Tryz.prog 85 #[cs (linT c (fun x => !foldT c st x))] W fun e w' => e = .returned (setV (linT c (fun x => !foldT c st x))) ∧ Below W.heap.size W w') := fun W => setOf_any _ W
      have hcmp : ∀ w, (binOp .eql 32 (cs (linT c (fun x => !foldT c st x))) (.agg #[.int .u64 0, .int .u64 0, .int .u64 0, .int .u64 0])).run Tryz.prog w = .ok (.bool false) w := fun w => by
        have := eql_cs (linT c (fun x => !foldT c st x)) (fun _ => false) w
        rw [hq9] at this
        unfold cs at this ⊢
        rw [← cl_zero] at this
        exact this
      have HFl := Lib.hid (fun W q' h => fail_any W B c V q' h 2 p.at_)
      have HRQ := Lib.hid (show brkT c p = (setR (linT c (fun x => !foldT c st x)), expT c 93 q) from by
        rw [HBK.out, HRS.out]
        show (setR (linT c (fun x => !foldT c st x)), if el (linT c (fun x => !foldT c st x)) 256 = [] then failT c (expT c 93 q) 2 p.at_ else expT c 93 q) = _
        have h0 := el_nil (linT c (fun x => !foldT c st x))
        rw [hq9] at h0
        rw [if_neg (by simpa using h0.symm)])
      generalize foldT c st = FO at *
      generalize (fun x => !FO x) = CO at *
      generalize linT c CO = LI at *
      unfold setV at HSo
      unfold cs cl at HFo HSo hcmp HCo HLi
      clear hEq hq9 HJ HEq0 HBK
      go_upto_region 9 with (first
        | (go_at_call 91; refine (peek_any _ B c V _ hp).mono ?_; rintro e w' ⟨rfl, rfl⟩)
        | (go_at_call 109; (with_reducible refine (HEx.out _ _ hp).mono ?_); rintro e wz ⟨rfl, hs⟩; have HR := Lib.hid (HR.out.only hs.2 (by have := HL.out; omega)); have HX := Lib.hid (HX.out.only hs.2 (by have := HXB.out; omega)); clear s0 s1 s2 s3 sf; obtain ⟨⟨s0, s1⟩, ⟨s2, s3⟩, sf⟩ := HX.out.words; have HS := Lib.hid (HS.out.trans hs); clear x0 x1 x2 x3 x4 x5 x6 x7 xf; clear hs hp; have hp := HS.out.1; obtain ⟨⟨x0, x1, x2, x3, x4, x5, x6, x7⟩, xf⟩ := hp.pa.all)
        | (go_at_call 87; (with_reducible refine (HFo.out _ _ hp).mono ?_); rintro e wv ⟨rfl, hb⟩; have HR := Lib.hid (HR.out.below hb); have HX := Lib.hid (HX.out.below hb HX.out.lt); have HS := Lib.hid (HS.out.next hb); clear s0 s1 s2 s3 sf; clear x0 x1 x2 x3 x4 x5 x6 x7 xf; clear hb hp; have hp := HS.out.1; obtain ⟨⟨x0, x1, x2, x3, x4, x5, x6, x7⟩, xf⟩ := hp.pa.all; obtain ⟨⟨s0, s1⟩, ⟨s2, s3⟩, sf⟩ := HX.out.words)
        )
      have HS := Lib.hid (HS.out.put4 HL.out X (by have := HXW.out; omega) (FO))
      have HR := Lib.hid (HR.out.same (put4_far (g := w.heap.size) (k := X) (by have := HXW.out; omega) (FO)))
      have HX := Lib.hid (HX.out.put4 (FO))
      unfold Go.Proofs.YtphiaagppcbefaaGreatDoor.put4 at HS HR HX
      clear s0 s1 s2 s3 sf hp
      clear x0 x1 x2 x3 x4 x5 x6 x7 xf
      generalize (World.setCell _ ⟨X, 3, none⟩ _) = w5 at HS HR HX ⊢
      have hp := HS.out.1
      obtain ⟨⟨x0, x1, x2, x3, x4, x5, x6, x7⟩, xf⟩ := hp.pa.all
      obtain ⟨⟨s0, s1⟩, ⟨s2, s3⟩, sf⟩ := HX.out.words
      go_upto_region 11 with (first
        | (go_at_call 71; (with_reducible refine (HCo.out _).mono ?_); rintro e wv ⟨rfl, hb⟩; have HR := Lib.hid (HR.out.below hb); have HX := Lib.hid (HX.out.below hb HX.out.lt); have HS := Lib.hid (HS.out.next hb); clear s0 s1 s2 s3 sf; clear x0 x1 x2 x3 x4 x5 x6 x7 xf; clear hb hp; have hp := HS.out.1; obtain ⟨⟨x0, x1, x2, x3, x4, x5, x6, x7⟩, xf⟩ := hp.pa.all; obtain ⟨⟨s0, s1⟩, ⟨s2, s3⟩, sf⟩ := HX.out.words)
        | (go_at_call 86; (with_reducible refine (HLi.out _ _ hp).mono ?_); rintro e wv ⟨rfl, hb⟩; have HR := Lib.hid (HR.out.below hb); have HX := Lib.hid (HX.out.below hb HX.out.lt); have HS := Lib.hid (HS.out.next hb); clear s0 s1 s2 s3 sf; clear x0 x1 x2 x3 x4 x5 x6 x7 xf; clear hb hp; have hp := HS.out.1; obtain ⟨⟨x0, x1, x2, x3, x4, x5, x6, x7⟩, xf⟩ := hp.pa.all; obtain ⟨⟨s0, s1⟩, ⟨s2, s3⟩, sf⟩ := HX.out.words)
        )
      have HS := Lib.hid (HS.out.put4 HL.out X (by have := HXW.out; omega) (LI))
      have HR := Lib.hid (HR.out.same (put4_far (g := w.heap.size) (k := X) (by have := HXW.out; omega) (LI)))
      have HX := Lib.hid (HX.out.put4 (LI))
      unfold Go.Proofs.YtphiaagppcbefaaGreatDoor.put4 at HS HR HX
      clear s0 s1 s2 s3 sf hp
      clear x0 x1 x2 x3 x4 x5 x6 x7 xf
      generalize (World.setCell _ ⟨X, 3, none⟩ _) = w5 at HS HR HX ⊢
      have hp := HS.out.1
      obtain ⟨⟨x0, x1, x2, x3, x4, x5, x6, x7⟩, xf⟩ := hp.pa.all
      obtain ⟨⟨s0, s1⟩, ⟨s2, s3⟩, sf⟩ := HX.out.words
      obtain ⟨⟨⟨n0, n1, n2⟩, ⟨n3, n4, n5⟩, ⟨n6, n7, n8⟩⟩, nf⟩ := HR.out.all
      go_wp2_with (first
        | (go_at_call 104; (with_reducible refine (HFl.out _ _ hp).mono ?_); rintro e wz ⟨rfl, hs⟩; have HR := Lib.hid (HR.out.only hs.2 (by have := HL.out; omega)); have HX := Lib.hid (HX.out.only hs.2 (by have := HXB.out; omega)); clear s0 s1 s2 s3 sf n0 n1 n2 n3 n4 n5 n6 n7 n8 nf; obtain ⟨⟨s0, s1⟩, ⟨s2, s3⟩, sf⟩ := HX.out.words; obtain ⟨⟨⟨n0, n1, n2⟩, ⟨n3, n4, n5⟩, ⟨n6, n7, n8⟩⟩, nf⟩ := HR.out.all; have HS := Lib.hid (HS.out.trans hs); clear x0 x1 x2 x3 x4 x5 x6 x7 xf; clear hs hp; have hp := HS.out.1; obtain ⟨⟨x0, x1, x2, x3, x4, x5, x6, x7⟩, xf⟩ := hp.pa.all)
        | (go_at_call 85; (with_reducible refine (HSo.out _).mono ?_); rintro e wv ⟨rfl, hb⟩; have HR := Lib.hid (HR.out.below hb); have HS := Lib.hid (HS.out.next hb); clear n0 n1 n2 n3 n4 n5 n6 n7 n8 nf; obtain ⟨⟨⟨n0, n1, n2⟩, ⟨n3, n4, n5⟩, ⟨n6, n7, n8⟩⟩, nf⟩ := HR.out.all; clear hb)
        )
      refine bodyPost_ret (v := .agg #[.int .i64 2, .int .u64 (wd LI 0 64 : Nat), .int .u64 (wd LI 64 64 : Nat), .int .u64 (wd LI 128 64 : Nat), .int .u64 (wd LI 192 64 : Nat), .int .i64 0, .int .i64 0, .int .i64 0, .slice none 0 0]) (ret_re Tryz.results84 _ _ w.heap.size _ rfl (by simp) (HR.out.put9 _ _ _ _ _ _ _ _ _)) rfl ?_
      rw [HRQ.out]
      exact ⟨_, rfl, TV.leaf _ _ 2 0 0 0 LI, HS.out.put9 HL.out _ (Nat.le_refl _) _ _ _ _ _ _ _ _ _⟩
    · obtain ⟨⟨M, q2⟩, hr⟩ : ∃ r, itmT c q = r := ⟨_, rfl⟩
      have HRL : Hid (itsT c k (fun x => st x || M x) q2 = RES ∧ c.s.size + 1 ≤ q2.at_ + k) := by
        have h1 : itsT c (k + 1) st q = itsT c k (fun x => st x || (itmT c q).1 x) (itmT c q).2 := by
          show (if pkT c.s q.at_ = 93 ∨ pkT c.s q.at_ = -1 then _ else _) = _
          rw [if_neg (by rintro (e | e); exact h93 e; exact hm1 e)]
        have h2 := itm_strict hgd (pk_lt hm1)
        rw [hr] at h1 h2
        exact ⟨by rw [← hm.1, h1], by have h4 : q.at_ < q2.at_ := h2; have := hm.2; omega⟩
      have HI2 : Hid (∀ W, PM W B c V q → Calls Tryz.prog 107 #[.pointer (some ⟨B, 0, none⟩)] W fun e w' => e = .returned (cs M) ∧ Stp W B c V q2 w') := fun W h => by
        have := item_any W B c V q h
        rw [hr] at this
        exact this
      have HUn := Lib.hid (union_any st M)
      generalize (fun x => st x || M x) = UN at *
      unfold cs cl at HI2 HUn
      have r1 : (pkT c.s q.at_ == 93) = false := by simpa using h93
      have r2 : (pkT c.s q.at_ == -1) = false := by simpa using hm1
      have r3 : (pkT c.s q.at_ != 93) = true := by simpa using h93
      have r4 : (pkT c.s q.at_ != -1) = true := by simpa using hm1
      have HS := Lib.hid HJ.out.2.1
      have HR := Lib.hid HJ.out.2.2
      have HX := Lib.hid HJ.out.1
      clear hgd hk hm HM h93 hm1 hr HJ HI HEq0 HBK
      have hp := HS.out.1
      obtain ⟨⟨x0, x1, x2, x3, x4, x5, x6, x7⟩, xf⟩ := hp.pa.all
      go_upto_region 6 with (first
        | (go_at_call 91; refine (peek_any _ B c V _ hp).mono ?_; rintro e w' ⟨rfl, rfl⟩)
        )
      have HR := Lib.hid (HR.out.same (w' := wr.drew) rfl)
      have HX := Lib.hid HX.out.drew
      have HS := Lib.hid HS.out.drew
      clear x0 x1 x2 x3 x4 x5 x6 x7 xf
      clear hp
      have hp := HS.out.1
      obtain ⟨⟨s0, s1⟩, ⟨s2, s3⟩, sf⟩ := HX.out.words
      refine wp_region_held_drew (S := fun _ => True) (by kernel_rfl) ?_ (fun hHeld => ?_)
      · exact trivial
      refine wpAnyH_take (i := 1) (v := ?av1) rfl (by kernel_rfl) (by kernel_rfl) (by kernel_rfl) (fun _ _ _ h => h) (Or.inl ⟨by rfl, ?ay1⟩) (by assumption) ?ar1
      case ay1 =>
        intro wx hSw
        clear hSw
        go_simp
        first | done | (with_reducible rfl)
      (try simp only [Act.put, List.getElem_toArray, List.getElem_cons_succ, List.getElem_cons_zero, List.setIfInBounds_toArray, List.set_cons_zero, List.set_cons_succ])
      refine wpAnyH_ready (rs := [0, 2]) (by kernel_rfl) (by simp) ?_
      refine AllReadyH.cons rfl (fun K hK => ?_) (AllReadyH.cons rfl (fun K hK => ?_) AllReadyH.nil)
      · go_simp
        refine hK.out _ _ trivial (fun _ => ?_)
        clear hK K
        (try simp only [Act.put, List.getElem_toArray, List.getElem_cons_zero, List.setIfInBounds_toArray, List.set_cons_zero, List.set_cons_succ])
        refine wpAnyH_ready (rs := [2]) (by kernel_rfl) (by simp) ?_
        refine AllReadyH.cons rfl (fun K hK => ?_) AllReadyH.nil
        go_simp
        go_at_call 107
        refine (HI2.out _ hp).mono ?_
        rintro e wz ⟨rfl, hs⟩
        have HR := Lib.hid (HR.out.only hs.2 (by have := HL.out; omega))
        have HX := Lib.hid (HX.out.only hs.2 (by have := HXB.out; omega))
        have HS := Lib.hid (HS.out.trans hs)
        clear s0 s1 s2 s3 sf
        clear hs hp
        obtain ⟨⟨s0, s1⟩, ⟨s2, s3⟩, sf⟩ := HX.out.words
        refine hK.out _ _ trivial (fun _ => ?_)
        clear hK K
        (try simp only [Act.put, List.getElem_toArray, List.getElem_cons_succ, List.getElem_cons_zero, List.setIfInBounds_toArray, List.set_cons_zero, List.set_cons_succ])
        refine wpAnyH_ready (rs := [3]) (by kernel_rfl) (by simp) ?_
        refine AllReadyH.cons rfl (fun K hK => ?_) AllReadyH.nil
        go_simp
        go_at_call 108
        refine (HUn.out _).mono ?_
        rintro e wv ⟨rfl, hb⟩
        have HR := Lib.hid (HR.out.below hb)
        have HX := Lib.hid (HX.out.below hb HX.out.lt)
        have HS := Lib.hid (HS.out.next hb)
        clear s0 s1 s2 s3 sf hb
        obtain ⟨⟨s0, s1⟩, ⟨s2, s3⟩, sf⟩ := HX.out.words
        refine hK.out _ _ trivial (fun _ => ?_)
        clear hK K
        (try simp only [Act.put, List.getElem_toArray, List.getElem_cons_succ, List.getElem_cons_zero, List.setIfInBounds_toArray, List.set_cons_zero, List.set_cons_succ])
        refine wpAnyH_ready (rs := [4]) (by kernel_rfl) (by simp) ?_
        refine AllReadyH.cons rfl (fun K hK => ?_) AllReadyH.nil
        go_simp
        refine hK.out _ _ trivial (fun _ => ?_)
        clear hK K
        (try simp only [Act.put, List.getElem_toArray, List.getElem_cons_succ, List.getElem_cons_zero, List.setIfInBounds_toArray, List.set_cons_zero, List.set_cons_succ])
        refine wpAnyH_done (by kernel_rfl) ?_ _
        go_wp2
        go_roundg k
        case measure => have := HKk.out; omega
        case rel => exact ⟨UN, q2, HRL.out, HX.out.put4 UN, HS.out.put4 HL.out X (by have := HXW.out; omega) UN, HR.out.same (put4_far (g := w.heap.size) (k := X) (by have := HXW.out; omega) UN)⟩
      · go_simp
        go_at_call 107
        refine (HI2.out _ hp).mono ?_
        rintro e wz ⟨rfl, hs⟩
        have HR := Lib.hid (HR.out.only hs.2 (by have := HL.out; omega))
        have HX := Lib.hid (HX.out.only hs.2 (by have := HXB.out; omega))
        have HS := Lib.hid (HS.out.trans hs)
        clear s0 s1 s2 s3 sf
        clear hs hp
        obtain ⟨⟨s0, s1⟩, ⟨s2, s3⟩, sf⟩ := HX.out.words
        refine hK.out _ _ trivial (fun _ => ?_)
        clear hK K
        (try simp only [Act.put, List.getElem_toArray, List.getElem_cons_succ, List.getElem_cons_zero, List.setIfInBounds_toArray, List.set_cons_zero, List.set_cons_succ])
        refine wpAnyH_ready (rs := [0]) (by kernel_rfl) (by simp) ?_
        refine AllReadyH.cons rfl (fun K hK => ?_) AllReadyH.nil
        go_simp
        refine hK.out _ _ trivial (fun _ => ?_)
        clear hK K
        (try simp only [Act.put, List.getElem_toArray, List.getElem_cons_zero, List.setIfInBounds_toArray, List.set_cons_zero, List.set_cons_succ])
        refine wpAnyH_ready (rs := [3]) (by kernel_rfl) (by simp) ?_
        refine AllReadyH.cons rfl (fun K hK => ?_) AllReadyH.nil
        go_simp
        go_at_call 108
        refine (HUn.out _).mono ?_
        rintro e wv ⟨rfl, hb⟩
        have HR := Lib.hid (HR.out.below hb)
        have HX := Lib.hid (HX.out.below hb HX.out.lt)
        have HS := Lib.hid (HS.out.next hb)
        clear s0 s1 s2 s3 sf hb
        obtain ⟨⟨s0, s1⟩, ⟨s2, s3⟩, sf⟩ := HX.out.words
        refine hK.out _ _ trivial (fun _ => ?_)
        clear hK K
        (try simp only [Act.put, List.getElem_toArray, List.getElem_cons_succ, List.getElem_cons_zero, List.setIfInBounds_toArray, List.set_cons_zero, List.set_cons_succ])
        refine wpAnyH_ready (rs := [4]) (by kernel_rfl) (by simp) ?_
        refine AllReadyH.cons rfl (fun K hK => ?_) AllReadyH.nil
        go_simp
        refine hK.out _ _ trivial (fun _ => ?_)
        clear hK K
        (try simp only [Act.put, List.getElem_toArray, List.getElem_cons_succ, List.getElem_cons_zero, List.setIfInBounds_toArray, List.set_cons_zero, List.set_cons_succ])
        refine wpAnyH_done (by kernel_rfl) ?_ _
        go_wp2
        go_roundg k
        case measure => have := HKk.out; omega
        case rel => exact ⟨UN, q2, HRL.out, HX.out.put4 UN, HS.out.put4 HL.out X (by have := HXW.out; omega) UN, HR.out.same (put4_far (g := w.heap.size) (k := X) (by have := HXW.out; omega) UN)⟩
set_option maxRecDepth 100000 in
set_option maxHeartbeats 16000000 in
theorem brk_false_true (w : World) (B : Nat) (c : CX) (V : LV) (p : PS) (h : PM w B c V p) (hk : pkT c.s p.at_ = 91) (q0 : PS) (hi : acbT c 94 (p.to (p.at_ + 1)) = (false, q0)) (hE : eqc (brkS c false (itsT c (c.s.size + 1) (itmT c q0).1 (itmT c q0).2).1) (fun _ => false) = true) :
    Calls Tryz.prog 84 #[.pointer (some ⟨B, 0, none⟩)] w (Ret w B c V (brkT c p)) := by
  have hx : Below w.heap.size w (w.alloc (.cells #[.int .i64 0, .int .u64 0, .int .u64 0, .int .u64 0, .int .u64 0, .int .i64 0, .int .i64 0, .int .i64 0, .slice none 0 0] 35)) := (Below.refl _ _).alloc (Nat.le_refl _) _
  have HS := Lib.hid (Stp.of_below h hx)
  have HR := Lib.hid (RAt.one w #[.int .i64 0, .int .u64 0, .int .u64 0, .int .u64 0, .int .u64 0, .int .i64 0, .int .i64 0, .int .i64 0, .slice none 0 0])
  have HL := Lib.hid h.lt
  have HA1 := Lib.hid (fun W h => acceptByte_yes W B c V p h 91 (by omega) hk)
  have HA2 : Hid (∀ W, PM W B c V (p.to (p.at_ + 1)) → Calls Tryz.prog 106 #[.pointer (some ⟨B, 0, none⟩), .int .i32 94] W fun e w' => e = .returned (.bool false) ∧ Stp W B c V q0 w') := fun W h => by
    have := acceptByte_any W B c V _ h 94 (by omega)
    rw [hi] at this
    exact this
  obtain ⟨RES, hRES⟩ : ∃ RES, itsT c (c.s.size + 1) (itmT c q0).1 (itmT c q0).2 = RES := ⟨_, rfl⟩
  rw [hRES] at hE
  have HBK : Hid (brkT c p = (setR (brkS c false RES.1), if el (brkS c false RES.1) 256 = [] then failT c (expT c 93 RES.2) 2 p.at_ else expT c 93 RES.2)) := by
    have e1 : acbT c 91 p = (true, p.to (p.at_ + 1)) := by unfold acbT; rw [if_pos hk]
    exact brk_eq (by rw [e1]; exact hi) hRES
  obtain ⟨⟨A, q1⟩, hr⟩ : ∃ r, itmT c q0 = r := ⟨_, rfl⟩
  rw [hr] at hRES
  have HI : Hid (∀ W, PM W B c V q0 → Calls Tryz.prog 107 #[.pointer (some ⟨B, 0, none⟩)] W fun e w' => e = .returned (cs A) ∧ Stp W B c V q1 w') := fun W h => by
    have := item_any W B c V q0 h
    rw [hr] at this
    exact this
  unfold cs cl at HI
  have HEx := Lib.hid (fun W q' h => expectByte_any W B c V q' h 93 (by omega))
  have HRE := Lib.hid hRES
  have HEq0 := Lib.hid hE
  have hp := HS.out.1
  obtain ⟨⟨x0, x1, x2, x3, x4, x5, x6, x7⟩, xf⟩ := hp.pa.all
  clear h hx hk hi hE hRES hr
  go_enter Tryz.func84, Tryz.ntmps84
  go_wp2_with (first
    | (go_at_call 106; (with_reducible refine (HA1.out _ hp).mono ?_); rintro e wz ⟨rfl, hs⟩; have HR := Lib.hid (HR.out.only hs.2 (by have := HL.out; omega)); have HS := Lib.hid (HS.out.trans hs); clear x0 x1 x2 x3 x4 x5 x6 x7 xf; clear hs hp; have hp := HS.out.1; obtain ⟨⟨x0, x1, x2, x3, x4, x5, x6, x7⟩, xf⟩ := hp.pa.all)
    | (go_at_call 106; (with_reducible refine (HA2.out _ hp).mono ?_); rintro e wz ⟨rfl, hs⟩; have HR := Lib.hid (HR.out.only hs.2 (by have := HL.out; omega)); have HS := Lib.hid (HS.out.trans hs); clear x0 x1 x2 x3 x4 x5 x6 x7 xf; clear hs hp; have hp := HS.out.1; obtain ⟨⟨x0, x1, x2, x3, x4, x5, x6, x7⟩, xf⟩ := hp.pa.all)
    | (go_at_call 107; (with_reducible refine (HI.out _ hp).mono ?_); rintro e wi ⟨rfl, hs⟩; have hx5 : Below wi.heap.size wi (wi.alloc (.cells #[.int .u64 (wd A 0 64 : Nat), .int .u64 (wd A 64 64 : Nat), .int .u64 (wd A 128 64 : Nat), .int .u64 (wd A 192 64 : Nat)] 32)) := (Below.refl _ _).alloc (Nat.le_refl _) _; have HXW := Lib.hid (Nat.lt_of_lt_of_le HR.out.lt hs.2.size); have HXB := Lib.hid hs.1.lt; have HR := Lib.hid ((HR.out.only hs.2 (by have := HL.out; omega)).below hx5); have HS := Lib.hid (HS.out.trans (hs.next hx5)); have HX : Hid (At (wi.alloc (.cells #[.int .u64 (wd A 0 64 : Nat), .int .u64 (wd A 64 64 : Nat), .int .u64 (wd A 128 64 : Nat), .int .u64 (wd A 192 64 : Nat)] 32)) wi.heap.size A) := Lib.hid (At.new wi A); clear hs hp hx5; clear x0 x1 x2 x3 x4 x5 x6 x7 xf)
    )
  generalize (wi.alloc (.cells #[.int .u64 (wd A 0 64 : Nat), .int .u64 (wd A 64 64 : Nat), .int .u64 (wd A 128 64 : Nat), .int .u64 (wd A 192 64 : Nat)] 32)) = W1 at *
  have HX : Hid (At W1 wi.heap.size A) := HX
  generalize wi.heap.size = X at HX HXW HXB ⊢
  have HJ0 := Lib.hid (And.intro HX.out (And.intro HS.out HR.out))
  clear HX HS HR
  go_loopg [] (c.s.size + 1) (fun k wr => ∃ (st : Nat → Bool) (q : PS), Hid (itsT c k st q = RES ∧ c.s.size + 1 ≤ q.at_ + k) ∧ Hid (At wr X st ∧ Stp w B c V q wr ∧ RAt wr w.heap.size #[.int .i64 0, .int .u64 0, .int .u64 0, .int .u64 0, .int .u64 0, .int .i64 0, .int .i64 0, .int .i64 0, .slice none 0 0]))
  case atStart => exact ⟨A, q1, ⟨HRE.out, by omega⟩, HJ0.out⟩
  case round =>
    obtain ⟨st, q, HM, HJ⟩ := hrel
    clear HJ0 HRE
    have hgd := HJ.out.2.1.1.gd
    obtain ⟨k, hk⟩ : ∃ k, gk = k + 1 := ⟨gk - 1, by have := HM.out.2; have := hgd.at_; omega⟩
    have HKk := Lib.hid hk
    have hm := HM.out
    rw [hk] at hm
    by_cases h93 : pkT c.s q.at_ = 93
    · have HRS : Hid (RES = (st, q)) := by
        rw [← hm.1]
        show (if pkT c.s q.at_ = 93 ∨ pkT c.s q.at_ = -1 then _ else _) = _
        rw [if_pos (.inl h93)]
      clear hgd hk hm HM
      have hp := HJ.out.2.1.1
      obtain ⟨⟨x0, x1, x2, x3, x4, x5, x6, x7⟩, xf⟩ := hp.pa.all
      obtain ⟨⟨s0, s1⟩, ⟨s2, s3⟩, sf⟩ := HJ.out.1.words
      have HX := Lib.hid HJ.out.1
      have HS := Lib.hid HJ.out.2.1
      have HR := Lib.hid HJ.out.2.2
      have hEq := HEq0.out
      rw [HRS.out] at hEq
      have hq9 : eqc (foldT c st) (fun _ => false) = true := hEq
      have HFo : Hid (∀ W q', PM W B c V q' → Calls Tryz.prog 87 #[.pointer (some ⟨B, 0, none⟩), cs st] W fun e w' => e = .returned (cs (foldT c st)) ∧ Below W.heap.size W w') := fun W q' h => folded_any W B c V q' h st
      have HSo : Hid (∀ W, Calls Tryz.prog 85 #[cs (foldT c st)] W fun e w' => e = .returned (setV (foldT c st)) ∧ Below W.heap.size W w') := fun W => setOf_any _ W
      have hcmp : ∀ w, (binOp .eql 32 (cs (foldT c st)) (.agg #[.int .u64 0, .int .u64 0, .int .u64 0, .int .u64 0])).run Tryz.prog w = .ok (.bool true) w := fun w => by
        have := eql_cs (foldT c st) (fun _ => false) w
        rw [hq9] at this
        unfold cs at this ⊢
        rw [← cl_zero] at this
        exact this
      have HFl := Lib.hid (fun W q' h => fail_any W B c V q' h 2 p.at_)
      have HRQ := Lib.hid (show brkT c p = (setR (foldT c st), failT c (expT c 93 q) 2 p.at_) from by
        rw [HBK.out, HRS.out]
        show (setR (foldT c st), if el (foldT c st) 256 = [] then failT c (expT c 93 q) 2 p.at_ else expT c 93 q) = _
        have h0 := el_nil (foldT c st)
        rw [hq9] at h0
        rw [if_pos (by simpa using h0.symm)])
      generalize foldT c st = FO at *
      unfold setV at HSo
      unfold cs cl at HFo HSo hcmp 
      clear hEq hq9 HJ HEq0 HBK
      go_upto_region 9 with (first
        | (go_at_call 91; refine (peek_any _ B c V _ hp).mono ?_; rintro e w' ⟨rfl, rfl⟩)
        | (go_at_call 109; (with_reducible refine (HEx.out _ _ hp).mono ?_); rintro e wz ⟨rfl, hs⟩; have HR := Lib.hid (HR.out.only hs.2 (by have := HL.out; omega)); have HX := Lib.hid (HX.out.only hs.2 (by have := HXB.out; omega)); clear s0 s1 s2 s3 sf; obtain ⟨⟨s0, s1⟩, ⟨s2, s3⟩, sf⟩ := HX.out.words; have HS := Lib.hid (HS.out.trans hs); clear x0 x1 x2 x3 x4 x5 x6 x7 xf; clear hs hp; have hp := HS.out.1; obtain ⟨⟨x0, x1, x2, x3, x4, x5, x6, x7⟩, xf⟩ := hp.pa.all)
        | (go_at_call 87; (with_reducible refine (HFo.out _ _ hp).mono ?_); rintro e wv ⟨rfl, hb⟩; have HR := Lib.hid (HR.out.below hb); have HX := Lib.hid (HX.out.below hb HX.out.lt); have HS := Lib.hid (HS.out.next hb); clear s0 s1 s2 s3 sf; clear x0 x1 x2 x3 x4 x5 x6 x7 xf; clear hb hp; have hp := HS.out.1; obtain ⟨⟨x0, x1, x2, x3, x4, x5, x6, x7⟩, xf⟩ := hp.pa.all; obtain ⟨⟨s0, s1⟩, ⟨s2, s3⟩, sf⟩ := HX.out.words)
        )
      have HS := Lib.hid (HS.out.put4 HL.out X (by have := HXW.out; omega) (FO))
      have HR := Lib.hid (HR.out.same (put4_far (g := w.heap.size) (k := X) (by have := HXW.out; omega) (FO)))
      have HX := Lib.hid (HX.out.put4 (FO))
      unfold Go.Proofs.YtphiaagppcbefaaGreatDoor.put4 at HS HR HX
      clear s0 s1 s2 s3 sf hp
      clear x0 x1 x2 x3 x4 x5 x6 x7 xf
      generalize (World.setCell _ ⟨X, 3, none⟩ _) = w5 at HS HR HX ⊢
      have hp := HS.out.1
      obtain ⟨⟨x0, x1, x2, x3, x4, x5, x6, x7⟩, xf⟩ := hp.pa.all
      obtain ⟨⟨s0, s1⟩, ⟨s2, s3⟩, sf⟩ := HX.out.words
      obtain ⟨⟨⟨n0, n1, n2⟩, ⟨n3, n4, n5⟩, ⟨n6, n7, n8⟩⟩, nf⟩ := HR.out.all
      go_wp2_with (first
        | (go_at_call 104; (with_reducible refine (HFl.out _ _ hp).mono ?_); rintro e wz ⟨rfl, hs⟩; have HR := Lib.hid (HR.out.only hs.2 (by have := HL.out; omega)); have HX := Lib.hid (HX.out.only hs.2 (by have := HXB.out; omega)); clear s0 s1 s2 s3 sf n0 n1 n2 n3 n4 n5 n6 n7 n8 nf; obtain ⟨⟨s0, s1⟩, ⟨s2, s3⟩, sf⟩ := HX.out.words; obtain ⟨⟨⟨n0, n1, n2⟩, ⟨n3, n4, n5⟩, ⟨n6, n7, n8⟩⟩, nf⟩ := HR.out.all; have HS := Lib.hid (HS.out.trans hs); clear x0 x1 x2 x3 x4 x5 x6 x7 xf; clear hs hp; have hp := HS.out.1; obtain ⟨⟨x0, x1, x2, x3, x4, x5, x6, x7⟩, xf⟩ := hp.pa.all)
        | (go_at_call 85; (with_reducible refine (HSo.out _).mono ?_); rintro e wv ⟨rfl, hb⟩; have HR := Lib.hid (HR.out.below hb); have HS := Lib.hid (HS.out.next hb); clear n0 n1 n2 n3 n4 n5 n6 n7 n8 nf; obtain ⟨⟨⟨n0, n1, n2⟩, ⟨n3, n4, n5⟩, ⟨n6, n7, n8⟩⟩, nf⟩ := HR.out.all; clear hb)
        )
      refine bodyPost_ret (v := .agg #[.int .i64 2, .int .u64 (wd FO 0 64 : Nat), .int .u64 (wd FO 64 64 : Nat), .int .u64 (wd FO 128 64 : Nat), .int .u64 (wd FO 192 64 : Nat), .int .i64 0, .int .i64 0, .int .i64 0, .slice none 0 0]) (ret_re Tryz.results84 _ _ w.heap.size _ rfl (by simp) (HR.out.put9 _ _ _ _ _ _ _ _ _)) rfl ?_
      rw [HRQ.out]
      exact ⟨_, rfl, TV.leaf _ _ 2 0 0 0 FO, HS.out.put9 HL.out _ (Nat.le_refl _) _ _ _ _ _ _ _ _ _⟩
    by_cases hm1 : pkT c.s q.at_ = -1
    · have HRS : Hid (RES = (st, q)) := by
        rw [← hm.1]
        show (if pkT c.s q.at_ = 93 ∨ pkT c.s q.at_ = -1 then _ else _) = _
        rw [if_pos (.inr hm1)]
      clear hgd hk hm HM h93
      have hp := HJ.out.2.1.1
      obtain ⟨⟨x0, x1, x2, x3, x4, x5, x6, x7⟩, xf⟩ := hp.pa.all
      obtain ⟨⟨s0, s1⟩, ⟨s2, s3⟩, sf⟩ := HJ.out.1.words
      have HX := Lib.hid HJ.out.1
      have HS := Lib.hid HJ.out.2.1
      have HR := Lib.hid HJ.out.2.2
      have hEq := HEq0.out
      rw [HRS.out] at hEq
      have hq9 : eqc (foldT c st) (fun _ => false) = true := hEq
      have HFo : Hid (∀ W q', PM W B c V q' → Calls Tryz.prog 87 #[.pointer (some ⟨B, 0, none⟩), cs st] W fun e w' => e = .returned (cs (foldT c st)) ∧ Below W.heap.size W w') := fun W q' h => folded_any W B c V q' h st
      have HSo : Hid (∀ W, Calls Tryz.prog 85 #[cs (foldT c st)] W fun e w' => e = .returned (setV (foldT c st)) ∧ Below W.heap.size W w') := fun W => setOf_any _ W
      have hcmp : ∀ w, (binOp .eql 32 (cs (foldT c st)) (.agg #[.int .u64 0, .int .u64 0, .int .u64 0, .int .u64 0])).run Tryz.prog w = .ok (.bool true) w := fun w => by
        have := eql_cs (foldT c st) (fun _ => false) w
        rw [hq9] at this
        unfold cs at this ⊢
        rw [← cl_zero] at this
        exact this
      have HFl := Lib.hid (fun W q' h => fail_any W B c V q' h 2 p.at_)
      have HRQ := Lib.hid (show brkT c p = (setR (foldT c st), failT c (expT c 93 q) 2 p.at_) from by
        rw [HBK.out, HRS.out]
        show (setR (foldT c st), if el (foldT c st) 256 = [] then failT c (expT c 93 q) 2 p.at_ else expT c 93 q) = _
        have h0 := el_nil (foldT c st)
        rw [hq9] at h0
        rw [if_pos (by simpa using h0.symm)])
      generalize foldT c st = FO at *
      unfold setV at HSo
      unfold cs cl at HFo HSo hcmp 
      clear hEq hq9 HJ HEq0 HBK
      go_upto_region 9 with (first
        | (go_at_call 91; refine (peek_any _ B c V _ hp).mono ?_; rintro e w' ⟨rfl, rfl⟩)
        | (go_at_call 109; (with_reducible refine (HEx.out _ _ hp).mono ?_); rintro e wz ⟨rfl, hs⟩; have HR := Lib.hid (HR.out.only hs.2 (by have := HL.out; omega)); have HX := Lib.hid (HX.out.only hs.2 (by have := HXB.out; omega)); clear s0 s1 s2 s3 sf; obtain ⟨⟨s0, s1⟩, ⟨s2, s3⟩, sf⟩ := HX.out.words; have HS := Lib.hid (HS.out.trans hs); clear x0 x1 x2 x3 x4 x5 x6 x7 xf; clear hs hp; have hp := HS.out.1; obtain ⟨⟨x0, x1, x2, x3, x4, x5, x6, x7⟩, xf⟩ := hp.pa.all)
        | (go_at_call 87; (with_reducible refine (HFo.out _ _ hp).mono ?_); rintro e wv ⟨rfl, hb⟩; have HR := Lib.hid (HR.out.below hb); have HX := Lib.hid (HX.out.below hb HX.out.lt); have HS := Lib.hid (HS.out.next hb); clear s0 s1 s2 s3 sf; clear x0 x1 x2 x3 x4 x5 x6 x7 xf; clear hb hp; have hp := HS.out.1; obtain ⟨⟨x0, x1, x2, x3, x4, x5, x6, x7⟩, xf⟩ := hp.pa.all; obtain ⟨⟨s0, s1⟩, ⟨s2, s3⟩, sf⟩ := HX.out.words)
        )
      have HS := Lib.hid (HS.out.put4 HL.out X (by have := HXW.out; omega) (FO))
      have HR := Lib.hid (HR.out.same (put4_far (g := w.heap.size) (k := X) (by have := HXW.out; omega) (FO)))
      have HX := Lib.hid (HX.out.put4 (FO))
      unfold Go.Proofs.YtphiaagppcbefaaGreatDoor.put4 at HS HR HX
      clear s0 s1 s2 s3 sf hp
      clear x0 x1 x2 x3 x4 x5 x6 x7 xf
      generalize (World.setCell _ ⟨X, 3, none⟩ _) = w5 at HS HR HX ⊢
      have hp := HS.out.1
      obtain ⟨⟨x0, x1, x2, x3, x4, x5, x6, x7⟩, xf⟩ := hp.pa.all
      obtain ⟨⟨s0, s1⟩, ⟨s2, s3⟩, sf⟩ := HX.out.words
      obtain ⟨⟨⟨n0, n1, n2⟩, ⟨n3, n4, n5⟩, ⟨n6, n7, n8⟩⟩, nf⟩ := HR.out.all
      go_wp2_with (first
        | (go_at_call 104; (with_reducible refine (HFl.out _ _ hp).mono ?_); rintro e wz ⟨rfl, hs⟩; have HR := Lib.hid (HR.out.only hs.2 (by have := HL.out; omega)); have HX := Lib.hid (HX.out.only hs.2 (by have := HXB.out; omega)); clear s0 s1 s2 s3 sf n0 n1 n2 n3 n4 n5 n6 n7 n8 nf; obtain ⟨⟨s0, s1⟩, ⟨s2, s3⟩, sf⟩ := HX.out.words; obtain ⟨⟨⟨n0, n1, n2⟩, ⟨n3, n4, n5⟩, ⟨n6, n7, n8⟩⟩, nf⟩ := HR.out.all; have HS := Lib.hid (HS.out.trans hs); clear x0 x1 x2 x3 x4 x5 x6 x7 xf; clear hs hp; have hp := HS.out.1; obtain ⟨⟨x0, x1, x2, x3, x4, x5, x6, x7⟩, xf⟩ := hp.pa.all)
        | (go_at_call 85; (with_reducible refine (HSo.out _).mono ?_); rintro e wv ⟨rfl, hb⟩; have HR := Lib.hid (HR.out.below hb); have HS := Lib.hid (HS.out.next hb); clear n0 n1 n2 n3 n4 n5 n6 n7 n8 nf; obtain ⟨⟨⟨n0, n1, n2⟩, ⟨n3, n4, n5⟩, ⟨n6, n7, n8⟩⟩, nf⟩ := HR.out.all; clear hb)
        )
      refine bodyPost_ret (v := .agg #[.int .i64 2, .int .u64 (wd FO 0 64 : Nat), .int .u64 (wd FO 64 64 : Nat), .int .u64 (wd FO 128 64 : Nat), .int .u64 (wd FO 192 64 : Nat), .int .i64 0, .int .i64 0, .int .i64 0, .slice none 0 0]) (ret_re Tryz.results84 _ _ w.heap.size _ rfl (by simp) (HR.out.put9 _ _ _ _ _ _ _ _ _)) rfl ?_
      rw [HRQ.out]
      exact ⟨_, rfl, TV.leaf _ _ 2 0 0 0 FO, HS.out.put9 HL.out _ (Nat.le_refl _) _ _ _ _ _ _ _ _ _⟩
    · obtain ⟨⟨M, q2⟩, hr⟩ : ∃ r, itmT c q = r := ⟨_, rfl⟩
      have HRL : Hid (itsT c k (fun x => st x || M x) q2 = RES ∧ c.s.size + 1 ≤ q2.at_ + k) := by
        have h1 : itsT c (k + 1) st q = itsT c k (fun x => st x || (itmT c q).1 x) (itmT c q).2 := by
          show (if pkT c.s q.at_ = 93 ∨ pkT c.s q.at_ = -1 then _ else _) = _
          rw [if_neg (by rintro (e | e); exact h93 e; exact hm1 e)]
        have h2 := itm_strict hgd (pk_lt hm1)
        rw [hr] at h1 h2
        exact ⟨by rw [← hm.1, h1], by have h4 : q.at_ < q2.at_ := h2; have := hm.2; omega⟩
      have HI2 : Hid (∀ W, PM W B c V q → Calls Tryz.prog 107 #[.pointer (some ⟨B, 0, none⟩)] W fun e w' => e = .returned (cs M) ∧ Stp W B c V q2 w') := fun W h => by
        have := item_any W B c V q h
        rw [hr] at this
        exact this
      have HUn := Lib.hid (union_any st M)
      generalize (fun x => st x || M x) = UN at *
      unfold cs cl at HI2 HUn
      have r1 : (pkT c.s q.at_ == 93) = false := by simpa using h93
      have r2 : (pkT c.s q.at_ == -1) = false := by simpa using hm1
      have r3 : (pkT c.s q.at_ != 93) = true := by simpa using h93
      have r4 : (pkT c.s q.at_ != -1) = true := by simpa using hm1
      have HS := Lib.hid HJ.out.2.1
      have HR := Lib.hid HJ.out.2.2
      have HX := Lib.hid HJ.out.1
      clear hgd hk hm HM h93 hm1 hr HJ HI HEq0 HBK
      have hp := HS.out.1
      obtain ⟨⟨x0, x1, x2, x3, x4, x5, x6, x7⟩, xf⟩ := hp.pa.all
      go_upto_region 6 with (first
        | (go_at_call 91; refine (peek_any _ B c V _ hp).mono ?_; rintro e w' ⟨rfl, rfl⟩)
        )
      have HR := Lib.hid (HR.out.same (w' := wr.drew) rfl)
      have HX := Lib.hid HX.out.drew
      have HS := Lib.hid HS.out.drew
      clear x0 x1 x2 x3 x4 x5 x6 x7 xf
      clear hp
      have hp := HS.out.1
      obtain ⟨⟨s0, s1⟩, ⟨s2, s3⟩, sf⟩ := HX.out.words
      refine wp_region_held_drew (S := fun _ => True) (by kernel_rfl) ?_ (fun hHeld => ?_)
      · exact trivial
      refine wpAnyH_take (i := 1) (v := ?av1) rfl (by kernel_rfl) (by kernel_rfl) (by kernel_rfl) (fun _ _ _ h => h) (Or.inl ⟨by rfl, ?ay1⟩) (by assumption) ?ar1
      case ay1 =>
        intro wx hSw
        clear hSw
        go_simp
        first | done | (with_reducible rfl)
      (try simp only [Act.put, List.getElem_toArray, List.getElem_cons_succ, List.getElem_cons_zero, List.setIfInBounds_toArray, List.set_cons_zero, List.set_cons_succ])
      refine wpAnyH_ready (rs := [0, 2]) (by kernel_rfl) (by simp) ?_
      refine AllReadyH.cons rfl (fun K hK => ?_) (AllReadyH.cons rfl (fun K hK => ?_) AllReadyH.nil)
      · go_simp
        refine hK.out _ _ trivial (fun _ => ?_)
        clear hK K
        (try simp only [Act.put, List.getElem_toArray, List.getElem_cons_zero, List.setIfInBounds_toArray, List.set_cons_zero, List.set_cons_succ])
        refine wpAnyH_ready (rs := [2]) (by kernel_rfl) (by simp) ?_
        refine AllReadyH.cons rfl (fun K hK => ?_) AllReadyH.nil
        go_simp
        go_at_call 107
        refine (HI2.out _ hp).mono ?_
        rintro e wz ⟨rfl, hs⟩
        have HR := Lib.hid (HR.out.only hs.2 (by have := HL.out; omega))
        have HX := Lib.hid (HX.out.only hs.2 (by have := HXB.out; omega))
        have HS := Lib.hid (HS.out.trans hs)
        clear s0 s1 s2 s3 sf
        clear hs hp
        obtain ⟨⟨s0, s1⟩, ⟨s2, s3⟩, sf⟩ := HX.out.words
        refine hK.out _ _ trivial (fun _ => ?_)
        clear hK K
        (try simp only [Act.put, List.getElem_toArray, List.getElem_cons_succ, List.getElem_cons_zero, List.setIfInBounds_toArray, List.set_cons_zero, List.set_cons_succ])
        refine wpAnyH_ready (rs := [3]) (by kernel_rfl) (by simp) ?_
        refine AllReadyH.cons rfl (fun K hK => ?_) AllReadyH.nil
        go_simp
        go_at_call 108
        refine (HUn.out _).mono ?_
        rintro e wv ⟨rfl, hb⟩
        have HR := Lib.hid (HR.out.below hb)
        have HX := Lib.hid (HX.out.below hb HX.out.lt)
        have HS := Lib.hid (HS.out.next hb)
        clear s0 s1 s2 s3 sf hb
        obtain ⟨⟨s0, s1⟩, ⟨s2, s3⟩, sf⟩ := HX.out.words
        refine hK.out _ _ trivial (fun _ => ?_)
        clear hK K
        (try simp only [Act.put, List.getElem_toArray, List.getElem_cons_succ, List.getElem_cons_zero, List.setIfInBounds_toArray, List.set_cons_zero, List.set_cons_succ])
        refine wpAnyH_ready (rs := [4]) (by kernel_rfl) (by simp) ?_
        refine AllReadyH.cons rfl (fun K hK => ?_) AllReadyH.nil
        go_simp
        refine hK.out _ _ trivial (fun _ => ?_)
        clear hK K
        (try simp only [Act.put, List.getElem_toArray, List.getElem_cons_succ, List.getElem_cons_zero, List.setIfInBounds_toArray, List.set_cons_zero, List.set_cons_succ])
        refine wpAnyH_done (by kernel_rfl) ?_ _
        go_wp2
        go_roundg k
        case measure => have := HKk.out; omega
        case rel => exact ⟨UN, q2, HRL.out, HX.out.put4 UN, HS.out.put4 HL.out X (by have := HXW.out; omega) UN, HR.out.same (put4_far (g := w.heap.size) (k := X) (by have := HXW.out; omega) UN)⟩
      · go_simp
        go_at_call 107
        refine (HI2.out _ hp).mono ?_
        rintro e wz ⟨rfl, hs⟩
        have HR := Lib.hid (HR.out.only hs.2 (by have := HL.out; omega))
        have HX := Lib.hid (HX.out.only hs.2 (by have := HXB.out; omega))
        have HS := Lib.hid (HS.out.trans hs)
        clear s0 s1 s2 s3 sf
        clear hs hp
        obtain ⟨⟨s0, s1⟩, ⟨s2, s3⟩, sf⟩ := HX.out.words
        refine hK.out _ _ trivial (fun _ => ?_)
        clear hK K
        (try simp only [Act.put, List.getElem_toArray, List.getElem_cons_succ, List.getElem_cons_zero, List.setIfInBounds_toArray, List.set_cons_zero, List.set_cons_succ])
        refine wpAnyH_ready (rs := [0]) (by kernel_rfl) (by simp) ?_
        refine AllReadyH.cons rfl (fun K hK => ?_) AllReadyH.nil
        go_simp
        refine hK.out _ _ trivial (fun _ => ?_)
        clear hK K
        (try simp only [Act.put, List.getElem_toArray, List.getElem_cons_zero, List.setIfInBounds_toArray, List.set_cons_zero, List.set_cons_succ])
        refine wpAnyH_ready (rs := [3]) (by kernel_rfl) (by simp) ?_
        refine AllReadyH.cons rfl (fun K hK => ?_) AllReadyH.nil
        go_simp
        go_at_call 108
        refine (HUn.out _).mono ?_
        rintro e wv ⟨rfl, hb⟩
        have HR := Lib.hid (HR.out.below hb)
        have HX := Lib.hid (HX.out.below hb HX.out.lt)
        have HS := Lib.hid (HS.out.next hb)
        clear s0 s1 s2 s3 sf hb
        obtain ⟨⟨s0, s1⟩, ⟨s2, s3⟩, sf⟩ := HX.out.words
        refine hK.out _ _ trivial (fun _ => ?_)
        clear hK K
        (try simp only [Act.put, List.getElem_toArray, List.getElem_cons_succ, List.getElem_cons_zero, List.setIfInBounds_toArray, List.set_cons_zero, List.set_cons_succ])
        refine wpAnyH_ready (rs := [4]) (by kernel_rfl) (by simp) ?_
        refine AllReadyH.cons rfl (fun K hK => ?_) AllReadyH.nil
        go_simp
        refine hK.out _ _ trivial (fun _ => ?_)
        clear hK K
        (try simp only [Act.put, List.getElem_toArray, List.getElem_cons_succ, List.getElem_cons_zero, List.setIfInBounds_toArray, List.set_cons_zero, List.set_cons_succ])
        refine wpAnyH_done (by kernel_rfl) ?_ _
        go_wp2
        go_roundg k
        case measure => have := HKk.out; omega
        case rel => exact ⟨UN, q2, HRL.out, HX.out.put4 UN, HS.out.put4 HL.out X (by have := HXW.out; omega) UN, HR.out.same (put4_far (g := w.heap.size) (k := X) (by have := HXW.out; omega) UN)⟩
set_option maxRecDepth 100000 in
set_option maxHeartbeats 16000000 in
theorem brk_false_false (w : World) (B : Nat) (c : CX) (V : LV) (p : PS) (h : PM w B c V p) (hk : pkT c.s p.at_ = 91) (q0 : PS) (hi : acbT c 94 (p.to (p.at_ + 1)) = (false, q0)) (hE : eqc (brkS c false (itsT c (c.s.size + 1) (itmT c q0).1 (itmT c q0).2).1) (fun _ => false) = false) :
    Calls Tryz.prog 84 #[.pointer (some ⟨B, 0, none⟩)] w (Ret w B c V (brkT c p)) := by
  have hx : Below w.heap.size w (w.alloc (.cells #[.int .i64 0, .int .u64 0, .int .u64 0, .int .u64 0, .int .u64 0, .int .i64 0, .int .i64 0, .int .i64 0, .slice none 0 0] 35)) := (Below.refl _ _).alloc (Nat.le_refl _) _
  have HS := Lib.hid (Stp.of_below h hx)
  have HR := Lib.hid (RAt.one w #[.int .i64 0, .int .u64 0, .int .u64 0, .int .u64 0, .int .u64 0, .int .i64 0, .int .i64 0, .int .i64 0, .slice none 0 0])
  have HL := Lib.hid h.lt
  have HA1 := Lib.hid (fun W h => acceptByte_yes W B c V p h 91 (by omega) hk)
  have HA2 : Hid (∀ W, PM W B c V (p.to (p.at_ + 1)) → Calls Tryz.prog 106 #[.pointer (some ⟨B, 0, none⟩), .int .i32 94] W fun e w' => e = .returned (.bool false) ∧ Stp W B c V q0 w') := fun W h => by
    have := acceptByte_any W B c V _ h 94 (by omega)
    rw [hi] at this
    exact this
  obtain ⟨RES, hRES⟩ : ∃ RES, itsT c (c.s.size + 1) (itmT c q0).1 (itmT c q0).2 = RES := ⟨_, rfl⟩
  rw [hRES] at hE
  have HBK : Hid (brkT c p = (setR (brkS c false RES.1), if el (brkS c false RES.1) 256 = [] then failT c (expT c 93 RES.2) 2 p.at_ else expT c 93 RES.2)) := by
    have e1 : acbT c 91 p = (true, p.to (p.at_ + 1)) := by unfold acbT; rw [if_pos hk]
    exact brk_eq (by rw [e1]; exact hi) hRES
  obtain ⟨⟨A, q1⟩, hr⟩ : ∃ r, itmT c q0 = r := ⟨_, rfl⟩
  rw [hr] at hRES
  have HI : Hid (∀ W, PM W B c V q0 → Calls Tryz.prog 107 #[.pointer (some ⟨B, 0, none⟩)] W fun e w' => e = .returned (cs A) ∧ Stp W B c V q1 w') := fun W h => by
    have := item_any W B c V q0 h
    rw [hr] at this
    exact this
  unfold cs cl at HI
  have HEx := Lib.hid (fun W q' h => expectByte_any W B c V q' h 93 (by omega))
  have HRE := Lib.hid hRES
  have HEq0 := Lib.hid hE
  have hp := HS.out.1
  obtain ⟨⟨x0, x1, x2, x3, x4, x5, x6, x7⟩, xf⟩ := hp.pa.all
  clear h hx hk hi hE hRES hr
  go_enter Tryz.func84, Tryz.ntmps84
  go_wp2_with (first
    | (go_at_call 106; (with_reducible refine (HA1.out _ hp).mono ?_); rintro e wz ⟨rfl, hs⟩; have HR := Lib.hid (HR.out.only hs.2 (by have := HL.out; omega)); have HS := Lib.hid (HS.out.trans hs); clear x0 x1 x2 x3 x4 x5 x6 x7 xf; clear hs hp; have hp := HS.out.1; obtain ⟨⟨x0, x1, x2, x3, x4, x5, x6, x7⟩, xf⟩ := hp.pa.all)
    | (go_at_call 106; (with_reducible refine (HA2.out _ hp).mono ?_); rintro e wz ⟨rfl, hs⟩; have HR := Lib.hid (HR.out.only hs.2 (by have := HL.out; omega)); have HS := Lib.hid (HS.out.trans hs); clear x0 x1 x2 x3 x4 x5 x6 x7 xf; clear hs hp; have hp := HS.out.1; obtain ⟨⟨x0, x1, x2, x3, x4, x5, x6, x7⟩, xf⟩ := hp.pa.all)
    | (go_at_call 107; (with_reducible refine (HI.out _ hp).mono ?_); rintro e wi ⟨rfl, hs⟩; have hx5 : Below wi.heap.size wi (wi.alloc (.cells #[.int .u64 (wd A 0 64 : Nat), .int .u64 (wd A 64 64 : Nat), .int .u64 (wd A 128 64 : Nat), .int .u64 (wd A 192 64 : Nat)] 32)) := (Below.refl _ _).alloc (Nat.le_refl _) _; have HXW := Lib.hid (Nat.lt_of_lt_of_le HR.out.lt hs.2.size); have HXB := Lib.hid hs.1.lt; have HR := Lib.hid ((HR.out.only hs.2 (by have := HL.out; omega)).below hx5); have HS := Lib.hid (HS.out.trans (hs.next hx5)); have HX : Hid (At (wi.alloc (.cells #[.int .u64 (wd A 0 64 : Nat), .int .u64 (wd A 64 64 : Nat), .int .u64 (wd A 128 64 : Nat), .int .u64 (wd A 192 64 : Nat)] 32)) wi.heap.size A) := Lib.hid (At.new wi A); clear hs hp hx5; clear x0 x1 x2 x3 x4 x5 x6 x7 xf)
    )
  generalize (wi.alloc (.cells #[.int .u64 (wd A 0 64 : Nat), .int .u64 (wd A 64 64 : Nat), .int .u64 (wd A 128 64 : Nat), .int .u64 (wd A 192 64 : Nat)] 32)) = W1 at *
  have HX : Hid (At W1 wi.heap.size A) := HX
  generalize wi.heap.size = X at HX HXW HXB ⊢
  have HJ0 := Lib.hid (And.intro HX.out (And.intro HS.out HR.out))
  clear HX HS HR
  go_loopg [] (c.s.size + 1) (fun k wr => ∃ (st : Nat → Bool) (q : PS), Hid (itsT c k st q = RES ∧ c.s.size + 1 ≤ q.at_ + k) ∧ Hid (At wr X st ∧ Stp w B c V q wr ∧ RAt wr w.heap.size #[.int .i64 0, .int .u64 0, .int .u64 0, .int .u64 0, .int .u64 0, .int .i64 0, .int .i64 0, .int .i64 0, .slice none 0 0]))
  case atStart => exact ⟨A, q1, ⟨HRE.out, by omega⟩, HJ0.out⟩
  case round =>
    obtain ⟨st, q, HM, HJ⟩ := hrel
    clear HJ0 HRE
    have hgd := HJ.out.2.1.1.gd
    obtain ⟨k, hk⟩ : ∃ k, gk = k + 1 := ⟨gk - 1, by have := HM.out.2; have := hgd.at_; omega⟩
    have HKk := Lib.hid hk
    have hm := HM.out
    rw [hk] at hm
    by_cases h93 : pkT c.s q.at_ = 93
    · have HRS : Hid (RES = (st, q)) := by
        rw [← hm.1]
        show (if pkT c.s q.at_ = 93 ∨ pkT c.s q.at_ = -1 then _ else _) = _
        rw [if_pos (.inl h93)]
      clear hgd hk hm HM
      have hp := HJ.out.2.1.1
      obtain ⟨⟨x0, x1, x2, x3, x4, x5, x6, x7⟩, xf⟩ := hp.pa.all
      obtain ⟨⟨s0, s1⟩, ⟨s2, s3⟩, sf⟩ := HJ.out.1.words
      have HX := Lib.hid HJ.out.1
      have HS := Lib.hid HJ.out.2.1
      have HR := Lib.hid HJ.out.2.2
      have hEq := HEq0.out
      rw [HRS.out] at hEq
      have hq9 : eqc (foldT c st) (fun _ => false) = false := hEq
      have HFo : Hid (∀ W q', PM W B c V q' → Calls Tryz.prog 87 #[.pointer (some ⟨B, 0, none⟩), cs st] W fun e w' => e = .returned (cs (foldT c st)) ∧ Below W.heap.size W w') := fun W q' h => folded_any W B c V q' h st
      have HSo : Hid (∀ W, Calls Tryz.prog 85 #[cs (foldT c st)] W fun e w' => e = .returned (setV (foldT c st)) ∧ Below W.heap.size W w') := fun W => setOf_any _ W
      have hcmp : ∀ w, (binOp .eql 32 (cs (foldT c st)) (.agg #[.int .u64 0, .int .u64 0, .int .u64 0, .int .u64 0])).run Tryz.prog w = .ok (.bool false) w := fun w => by
        have := eql_cs (foldT c st) (fun _ => false) w
        rw [hq9] at this
        unfold cs at this ⊢
        rw [← cl_zero] at this
        exact this
      have HFl := Lib.hid (fun W q' h => fail_any W B c V q' h 2 p.at_)
      have HRQ := Lib.hid (show brkT c p = (setR (foldT c st), expT c 93 q) from by
        rw [HBK.out, HRS.out]
        show (setR (foldT c st), if el (foldT c st) 256 = [] then failT c (expT c 93 q) 2 p.at_ else expT c 93 q) = _
        have h0 := el_nil (foldT c st)
        rw [hq9] at h0
        rw [if_neg (by simpa using h0.symm)])
      generalize foldT c st = FO at *
      unfold setV at HSo
      unfold cs cl at HFo HSo hcmp 
      clear hEq hq9 HJ HEq0 HBK
      go_upto_region 9 with (first
        | (go_at_call 91; refine (peek_any _ B c V _ hp).mono ?_; rintro e w' ⟨rfl, rfl⟩)
        | (go_at_call 109; (with_reducible refine (HEx.out _ _ hp).mono ?_); rintro e wz ⟨rfl, hs⟩; have HR := Lib.hid (HR.out.only hs.2 (by have := HL.out; omega)); have HX := Lib.hid (HX.out.only hs.2 (by have := HXB.out; omega)); clear s0 s1 s2 s3 sf; obtain ⟨⟨s0, s1⟩, ⟨s2, s3⟩, sf⟩ := HX.out.words; have HS := Lib.hid (HS.out.trans hs); clear x0 x1 x2 x3 x4 x5 x6 x7 xf; clear hs hp; have hp := HS.out.1; obtain ⟨⟨x0, x1, x2, x3, x4, x5, x6, x7⟩, xf⟩ := hp.pa.all)
        | (go_at_call 87; (with_reducible refine (HFo.out _ _ hp).mono ?_); rintro e wv ⟨rfl, hb⟩; have HR := Lib.hid (HR.out.below hb); have HX := Lib.hid (HX.out.below hb HX.out.lt); have HS := Lib.hid (HS.out.next hb); clear s0 s1 s2 s3 sf; clear x0 x1 x2 x3 x4 x5 x6 x7 xf; clear hb hp; have hp := HS.out.1; obtain ⟨⟨x0, x1, x2, x3, x4, x5, x6, x7⟩, xf⟩ := hp.pa.all; obtain ⟨⟨s0, s1⟩, ⟨s2, s3⟩, sf⟩ := HX.out.words)
        )
      have HS := Lib.hid (HS.out.put4 HL.out X (by have := HXW.out; omega) (FO))
      have HR := Lib.hid (HR.out.same (put4_far (g := w.heap.size) (k := X) (by have := HXW.out; omega) (FO)))
      have HX := Lib.hid (HX.out.put4 (FO))
      unfold Go.Proofs.YtphiaagppcbefaaGreatDoor.put4 at HS HR HX
      clear s0 s1 s2 s3 sf hp
      clear x0 x1 x2 x3 x4 x5 x6 x7 xf
      generalize (World.setCell _ ⟨X, 3, none⟩ _) = w5 at HS HR HX ⊢
      have hp := HS.out.1
      obtain ⟨⟨x0, x1, x2, x3, x4, x5, x6, x7⟩, xf⟩ := hp.pa.all
      obtain ⟨⟨s0, s1⟩, ⟨s2, s3⟩, sf⟩ := HX.out.words
      obtain ⟨⟨⟨n0, n1, n2⟩, ⟨n3, n4, n5⟩, ⟨n6, n7, n8⟩⟩, nf⟩ := HR.out.all
      go_wp2_with (first
        | (go_at_call 104; (with_reducible refine (HFl.out _ _ hp).mono ?_); rintro e wz ⟨rfl, hs⟩; have HR := Lib.hid (HR.out.only hs.2 (by have := HL.out; omega)); have HX := Lib.hid (HX.out.only hs.2 (by have := HXB.out; omega)); clear s0 s1 s2 s3 sf n0 n1 n2 n3 n4 n5 n6 n7 n8 nf; obtain ⟨⟨s0, s1⟩, ⟨s2, s3⟩, sf⟩ := HX.out.words; obtain ⟨⟨⟨n0, n1, n2⟩, ⟨n3, n4, n5⟩, ⟨n6, n7, n8⟩⟩, nf⟩ := HR.out.all; have HS := Lib.hid (HS.out.trans hs); clear x0 x1 x2 x3 x4 x5 x6 x7 xf; clear hs hp; have hp := HS.out.1; obtain ⟨⟨x0, x1, x2, x3, x4, x5, x6, x7⟩, xf⟩ := hp.pa.all)
        | (go_at_call 85; (with_reducible refine (HSo.out _).mono ?_); rintro e wv ⟨rfl, hb⟩; have HR := Lib.hid (HR.out.below hb); have HS := Lib.hid (HS.out.next hb); clear n0 n1 n2 n3 n4 n5 n6 n7 n8 nf; obtain ⟨⟨⟨n0, n1, n2⟩, ⟨n3, n4, n5⟩, ⟨n6, n7, n8⟩⟩, nf⟩ := HR.out.all; clear hb)
        )
      refine bodyPost_ret (v := .agg #[.int .i64 2, .int .u64 (wd FO 0 64 : Nat), .int .u64 (wd FO 64 64 : Nat), .int .u64 (wd FO 128 64 : Nat), .int .u64 (wd FO 192 64 : Nat), .int .i64 0, .int .i64 0, .int .i64 0, .slice none 0 0]) (ret_re Tryz.results84 _ _ w.heap.size _ rfl (by simp) (HR.out.put9 _ _ _ _ _ _ _ _ _)) rfl ?_
      rw [HRQ.out]
      exact ⟨_, rfl, TV.leaf _ _ 2 0 0 0 FO, HS.out.put9 HL.out _ (Nat.le_refl _) _ _ _ _ _ _ _ _ _⟩
    by_cases hm1 : pkT c.s q.at_ = -1
    · have HRS : Hid (RES = (st, q)) := by
        rw [← hm.1]
        show (if pkT c.s q.at_ = 93 ∨ pkT c.s q.at_ = -1 then _ else _) = _
        rw [if_pos (.inr hm1)]
      clear hgd hk hm HM h93
      have hp := HJ.out.2.1.1
      obtain ⟨⟨x0, x1, x2, x3, x4, x5, x6, x7⟩, xf⟩ := hp.pa.all
      obtain ⟨⟨s0, s1⟩, ⟨s2, s3⟩, sf⟩ := HJ.out.1.words
      have HX := Lib.hid HJ.out.1
      have HS := Lib.hid HJ.out.2.1
      have HR := Lib.hid HJ.out.2.2
      have hEq := HEq0.out
      rw [HRS.out] at hEq
      have hq9 : eqc (foldT c st) (fun _ => false) = false := hEq
      have HFo : Hid (∀ W q', PM W B c V q' → Calls Tryz.prog 87 #[.pointer (some ⟨B, 0, none⟩), cs st] W fun e w' => e = .returned (cs (foldT c st)) ∧ Below W.heap.size W w') := fun W q' h => folded_any W B c V q' h st
      have HSo : Hid (∀ W, Calls Tryz.prog 85 #[cs (foldT c st)] W fun e w' => e = .returned (setV (foldT c st)) ∧ Below W.heap.size W w') := fun W => setOf_any _ W
      have hcmp : ∀ w, (binOp .eql 32 (cs (foldT c st)) (.agg #[.int .u64 0, .int .u64 0, .int .u64 0, .int .u64 0])).run Tryz.prog w = .ok (.bool false) w := fun w => by
        have := eql_cs (foldT c st) (fun _ => false) w
        rw [hq9] at this
        unfold cs at this ⊢
        rw [← cl_zero] at this
        exact this
      have HFl := Lib.hid (fun W q' h => fail_any W B c V q' h 2 p.at_)
      have HRQ := Lib.hid (show brkT c p = (setR (foldT c st), expT c 93 q) from by
        rw [HBK.out, HRS.out]
        show (setR (foldT c st), if el (foldT c st) 256 = [] then failT c (expT c 93 q) 2 p.at_ else expT c 93 q) = _
        have h0 := el_nil (foldT c st)
        rw [hq9] at h0
        rw [if_neg (by simpa using h0.symm)])
      generalize foldT c st = FO at *
      unfold setV at HSo
      unfold cs cl at HFo HSo hcmp 
      clear hEq hq9 HJ HEq0 HBK
      go_upto_region 9 with (first
        | (go_at_call 91; refine (peek_any _ B c V _ hp).mono ?_; rintro e w' ⟨rfl, rfl⟩)
        | (go_at_call 109; (with_reducible refine (HEx.out _ _ hp).mono ?_); rintro e wz ⟨rfl, hs⟩; have HR := Lib.hid (HR.out.only hs.2 (by have := HL.out; omega)); have HX := Lib.hid (HX.out.only hs.2 (by have := HXB.out; omega)); clear s0 s1 s2 s3 sf; obtain ⟨⟨s0, s1⟩, ⟨s2, s3⟩, sf⟩ := HX.out.words; have HS := Lib.hid (HS.out.trans hs); clear x0 x1 x2 x3 x4 x5 x6 x7 xf; clear hs hp; have hp := HS.out.1; obtain ⟨⟨x0, x1, x2, x3, x4, x5, x6, x7⟩, xf⟩ := hp.pa.all)
        | (go_at_call 87; (with_reducible refine (HFo.out _ _ hp).mono ?_); rintro e wv ⟨rfl, hb⟩; have HR := Lib.hid (HR.out.below hb); have HX := Lib.hid (HX.out.below hb HX.out.lt); have HS := Lib.hid (HS.out.next hb); clear s0 s1 s2 s3 sf; clear x0 x1 x2 x3 x4 x5 x6 x7 xf; clear hb hp; have hp := HS.out.1; obtain ⟨⟨x0, x1, x2, x3, x4, x5, x6, x7⟩, xf⟩ := hp.pa.all; obtain ⟨⟨s0, s1⟩, ⟨s2, s3⟩, sf⟩ := HX.out.words)
        )
      have HS := Lib.hid (HS.out.put4 HL.out X (by have := HXW.out; omega) (FO))
      have HR := Lib.hid (HR.out.same (put4_far (g := w.heap.size) (k := X) (by have := HXW.out; omega) (FO)))
      have HX := Lib.hid (HX.out.put4 (FO))
      unfold Go.Proofs.YtphiaagppcbefaaGreatDoor.put4 at HS HR HX
      clear s0 s1 s2 s3 sf hp
      clear x0 x1 x2 x3 x4 x5 x6 x7 xf
      generalize (World.setCell _ ⟨X, 3, none⟩ _) = w5 at HS HR HX ⊢
      have hp := HS.out.1
      obtain ⟨⟨x0, x1, x2, x3, x4, x5, x6, x7⟩, xf⟩ := hp.pa.all
      obtain ⟨⟨s0, s1⟩, ⟨s2, s3⟩, sf⟩ := HX.out.words
      obtain ⟨⟨⟨n0, n1, n2⟩, ⟨n3, n4, n5⟩, ⟨n6, n7, n8⟩⟩, nf⟩ := HR.out.all
      go_wp2_with (first
        | (go_at_call 104; (with_reducible refine (HFl.out _ _ hp).mono ?_); rintro e wz ⟨rfl, hs⟩; have HR := Lib.hid (HR.out.only hs.2 (by have := HL.out; omega)); have HX := Lib.hid (HX.out.only hs.2 (by have := HXB.out; omega)); clear s0 s1 s2 s3 sf n0 n1 n2 n3 n4 n5 n6 n7 n8 nf; obtain ⟨⟨s0, s1⟩, ⟨s2, s3⟩, sf⟩ := HX.out.words; obtain ⟨⟨⟨n0, n1, n2⟩, ⟨n3, n4, n5⟩, ⟨n6, n7, n8⟩⟩, nf⟩ := HR.out.all; have HS := Lib.hid (HS.out.trans hs); clear x0 x1 x2 x3 x4 x5 x6 x7 xf; clear hs hp; have hp := HS.out.1; obtain ⟨⟨x0, x1, x2, x3, x4, x5, x6, x7⟩, xf⟩ := hp.pa.all)
        | (go_at_call 85; (with_reducible refine (HSo.out _).mono ?_); rintro e wv ⟨rfl, hb⟩; have HR := Lib.hid (HR.out.below hb); have HS := Lib.hid (HS.out.next hb); clear n0 n1 n2 n3 n4 n5 n6 n7 n8 nf; obtain ⟨⟨⟨n0, n1, n2⟩, ⟨n3, n4, n5⟩, ⟨n6, n7, n8⟩⟩, nf⟩ := HR.out.all; clear hb)
        )
      refine bodyPost_ret (v := .agg #[.int .i64 2, .int .u64 (wd FO 0 64 : Nat), .int .u64 (wd FO 64 64 : Nat), .int .u64 (wd FO 128 64 : Nat), .int .u64 (wd FO 192 64 : Nat), .int .i64 0, .int .i64 0, .int .i64 0, .slice none 0 0]) (ret_re Tryz.results84 _ _ w.heap.size _ rfl (by simp) (HR.out.put9 _ _ _ _ _ _ _ _ _)) rfl ?_
      rw [HRQ.out]
      exact ⟨_, rfl, TV.leaf _ _ 2 0 0 0 FO, HS.out.put9 HL.out _ (Nat.le_refl _) _ _ _ _ _ _ _ _ _⟩
    · obtain ⟨⟨M, q2⟩, hr⟩ : ∃ r, itmT c q = r := ⟨_, rfl⟩
      have HRL : Hid (itsT c k (fun x => st x || M x) q2 = RES ∧ c.s.size + 1 ≤ q2.at_ + k) := by
        have h1 : itsT c (k + 1) st q = itsT c k (fun x => st x || (itmT c q).1 x) (itmT c q).2 := by
          show (if pkT c.s q.at_ = 93 ∨ pkT c.s q.at_ = -1 then _ else _) = _
          rw [if_neg (by rintro (e | e); exact h93 e; exact hm1 e)]
        have h2 := itm_strict hgd (pk_lt hm1)
        rw [hr] at h1 h2
        exact ⟨by rw [← hm.1, h1], by have h4 : q.at_ < q2.at_ := h2; have := hm.2; omega⟩
      have HI2 : Hid (∀ W, PM W B c V q → Calls Tryz.prog 107 #[.pointer (some ⟨B, 0, none⟩)] W fun e w' => e = .returned (cs M) ∧ Stp W B c V q2 w') := fun W h => by
        have := item_any W B c V q h
        rw [hr] at this
        exact this
      have HUn := Lib.hid (union_any st M)
      generalize (fun x => st x || M x) = UN at *
      unfold cs cl at HI2 HUn
      have r1 : (pkT c.s q.at_ == 93) = false := by simpa using h93
      have r2 : (pkT c.s q.at_ == -1) = false := by simpa using hm1
      have r3 : (pkT c.s q.at_ != 93) = true := by simpa using h93
      have r4 : (pkT c.s q.at_ != -1) = true := by simpa using hm1
      have HS := Lib.hid HJ.out.2.1
      have HR := Lib.hid HJ.out.2.2
      have HX := Lib.hid HJ.out.1
      clear hgd hk hm HM h93 hm1 hr HJ HI HEq0 HBK
      have hp := HS.out.1
      obtain ⟨⟨x0, x1, x2, x3, x4, x5, x6, x7⟩, xf⟩ := hp.pa.all
      go_upto_region 6 with (first
        | (go_at_call 91; refine (peek_any _ B c V _ hp).mono ?_; rintro e w' ⟨rfl, rfl⟩)
        )
      have HR := Lib.hid (HR.out.same (w' := wr.drew) rfl)
      have HX := Lib.hid HX.out.drew
      have HS := Lib.hid HS.out.drew
      clear x0 x1 x2 x3 x4 x5 x6 x7 xf
      clear hp
      have hp := HS.out.1
      obtain ⟨⟨s0, s1⟩, ⟨s2, s3⟩, sf⟩ := HX.out.words
      refine wp_region_held_drew (S := fun _ => True) (by kernel_rfl) ?_ (fun hHeld => ?_)
      · exact trivial
      refine wpAnyH_take (i := 1) (v := ?av1) rfl (by kernel_rfl) (by kernel_rfl) (by kernel_rfl) (fun _ _ _ h => h) (Or.inl ⟨by rfl, ?ay1⟩) (by assumption) ?ar1
      case ay1 =>
        intro wx hSw
        clear hSw
        go_simp
        first | done | (with_reducible rfl)
      (try simp only [Act.put, List.getElem_toArray, List.getElem_cons_succ, List.getElem_cons_zero, List.setIfInBounds_toArray, List.set_cons_zero, List.set_cons_succ])
      refine wpAnyH_ready (rs := [0, 2]) (by kernel_rfl) (by simp) ?_
      refine AllReadyH.cons rfl (fun K hK => ?_) (AllReadyH.cons rfl (fun K hK => ?_) AllReadyH.nil)
      · go_simp
        refine hK.out _ _ trivial (fun _ => ?_)
        clear hK K
        (try simp only [Act.put, List.getElem_toArray, List.getElem_cons_zero, List.setIfInBounds_toArray, List.set_cons_zero, List.set_cons_succ])
        refine wpAnyH_ready (rs := [2]) (by kernel_rfl) (by simp) ?_
        refine AllReadyH.cons rfl (fun K hK => ?_) AllReadyH.nil
        go_simp
        go_at_call 107
        refine (HI2.out _ hp).mono ?_
        rintro e wz ⟨rfl, hs⟩
        have HR := Lib.hid (HR.out.only hs.2 (by have := HL.out; omega))
        have HX := Lib.hid (HX.out.only hs.2 (by have := HXB.out; omega))
        have HS := Lib.hid (HS.out.trans hs)
        clear s0 s1 s2 s3 sf
        clear hs hp
        obtain ⟨⟨s0, s1⟩, ⟨s2, s3⟩, sf⟩ := HX.out.words
        refine hK.out _ _ trivial (fun _ => ?_)
        clear hK K
        (try simp only [Act.put, List.getElem_toArray, List.getElem_cons_succ, List.getElem_cons_zero, List.setIfInBounds_toArray, List.set_cons_zero, List.set_cons_succ])
        refine wpAnyH_ready (rs := [3]) (by kernel_rfl) (by simp) ?_
        refine AllReadyH.cons rfl (fun K hK => ?_) AllReadyH.nil
        go_simp
        go_at_call 108
        refine (HUn.out _).mono ?_
        rintro e wv ⟨rfl, hb⟩
        have HR := Lib.hid (HR.out.below hb)
        have HX := Lib.hid (HX.out.below hb HX.out.lt)
        have HS := Lib.hid (HS.out.next hb)
        clear s0 s1 s2 s3 sf hb
        obtain ⟨⟨s0, s1⟩, ⟨s2, s3⟩, sf⟩ := HX.out.words
        refine hK.out _ _ trivial (fun _ => ?_)
        clear hK K
        (try simp only [Act.put, List.getElem_toArray, List.getElem_cons_succ, List.getElem_cons_zero, List.setIfInBounds_toArray, List.set_cons_zero, List.set_cons_succ])
        refine wpAnyH_ready (rs := [4]) (by kernel_rfl) (by simp) ?_
        refine AllReadyH.cons rfl (fun K hK => ?_) AllReadyH.nil
        go_simp
        refine hK.out _ _ trivial (fun _ => ?_)
        clear hK K
        (try simp only [Act.put, List.getElem_toArray, List.getElem_cons_succ, List.getElem_cons_zero, List.setIfInBounds_toArray, List.set_cons_zero, List.set_cons_succ])
        refine wpAnyH_done (by kernel_rfl) ?_ _
        go_wp2
        go_roundg k
        case measure => have := HKk.out; omega
        case rel => exact ⟨UN, q2, HRL.out, HX.out.put4 UN, HS.out.put4 HL.out X (by have := HXW.out; omega) UN, HR.out.same (put4_far (g := w.heap.size) (k := X) (by have := HXW.out; omega) UN)⟩
      · go_simp
        go_at_call 107
        refine (HI2.out _ hp).mono ?_
        rintro e wz ⟨rfl, hs⟩
        have HR := Lib.hid (HR.out.only hs.2 (by have := HL.out; omega))
        have HX := Lib.hid (HX.out.only hs.2 (by have := HXB.out; omega))
        have HS := Lib.hid (HS.out.trans hs)
        clear s0 s1 s2 s3 sf
        clear hs hp
        obtain ⟨⟨s0, s1⟩, ⟨s2, s3⟩, sf⟩ := HX.out.words
        refine hK.out _ _ trivial (fun _ => ?_)
        clear hK K
        (try simp only [Act.put, List.getElem_toArray, List.getElem_cons_succ, List.getElem_cons_zero, List.setIfInBounds_toArray, List.set_cons_zero, List.set_cons_succ])
        refine wpAnyH_ready (rs := [0]) (by kernel_rfl) (by simp) ?_
        refine AllReadyH.cons rfl (fun K hK => ?_) AllReadyH.nil
        go_simp
        refine hK.out _ _ trivial (fun _ => ?_)
        clear hK K
        (try simp only [Act.put, List.getElem_toArray, List.getElem_cons_zero, List.setIfInBounds_toArray, List.set_cons_zero, List.set_cons_succ])
        refine wpAnyH_ready (rs := [3]) (by kernel_rfl) (by simp) ?_
        refine AllReadyH.cons rfl (fun K hK => ?_) AllReadyH.nil
        go_simp
        go_at_call 108
        refine (HUn.out _).mono ?_
        rintro e wv ⟨rfl, hb⟩
        have HR := Lib.hid (HR.out.below hb)
        have HX := Lib.hid (HX.out.below hb HX.out.lt)
        have HS := Lib.hid (HS.out.next hb)
        clear s0 s1 s2 s3 sf hb
        obtain ⟨⟨s0, s1⟩, ⟨s2, s3⟩, sf⟩ := HX.out.words
        refine hK.out _ _ trivial (fun _ => ?_)
        clear hK K
        (try simp only [Act.put, List.getElem_toArray, List.getElem_cons_succ, List.getElem_cons_zero, List.setIfInBounds_toArray, List.set_cons_zero, List.set_cons_succ])
        refine wpAnyH_ready (rs := [4]) (by kernel_rfl) (by simp) ?_
        refine AllReadyH.cons rfl (fun K hK => ?_) AllReadyH.nil
        go_simp
        refine hK.out _ _ trivial (fun _ => ?_)
        clear hK K
        (try simp only [Act.put, List.getElem_toArray, List.getElem_cons_succ, List.getElem_cons_zero, List.setIfInBounds_toArray, List.set_cons_zero, List.set_cons_succ])
        refine wpAnyH_done (by kernel_rfl) ?_ _
        go_wp2
        go_roundg k
        case measure => have := HKk.out; omega
        case rel => exact ⟨UN, q2, HRL.out, HX.out.put4 UN, HS.out.put4 HL.out X (by have := HXW.out; omega) UN, HR.out.same (put4_far (g := w.heap.size) (k := X) (by have := HXW.out; omega) UN)⟩
theorem bracket_any (w : World) (B : Nat) (c : CX) (V : LV) (p : PS) (h : PM w B c V p) (hk : kdT c p = 91) :
    Calls Tryz.prog 84 #[.pointer (some ⟨B, 0, none⟩)] w (Ret w B c V (brkT c p)) := by
  have hk2 := kd_91 hk
  obtain ⟨⟨I, q0⟩, hi⟩ : ∃ r, acbT c 94 (p.to (p.at_ + 1)) = r := ⟨_, rfl⟩
  obtain ⟨E, hE⟩ : ∃ E, eqc (brkS c I (itsT c (c.s.size + 1) (itmT c q0).1 (itmT c q0).2).1) (fun _ => false) = E := ⟨_, rfl⟩
  cases I <;> cases E
  · exact brk_false_false w B c V p h hk2 q0 hi hE
  · exact brk_false_true w B c V p h hk2 q0 hi hE
  · exact brk_true_false w B c V p h hk2 q0 hi hE
  · exact brk_true_true w B c V p h hk2 q0 hi hE
end Go.Proofs.YtphiaagppcbefaaGreatDoor
