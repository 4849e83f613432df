/- RxN, RxO. -/
import Derived.Test.YtphiaagppcbefaaGreatDoorPs21
import Derived.StillTailTactics
import Derived.Deep.CutRange
import Derived.Deep.Cut
import Derived.Deep.DeepCutAuto
import Derived.Deep.LoopGhost
set_option linter.unusedVariables false
namespace Go.Proofs.YtphiaagppcbefaaGreatDoor
open Go.RowKit
theorem own_some {w : World} {n : Nat} {v : Value} {xs : List Value} {E : TypeId} (h : w.ownsRow 0 E 9 v n xs) (hn : 1 ≤ n) : ∃ g cap, v = .slice (some ⟨g, 0, none⟩) n cap := by
  obtain ⟨h1, h2⟩ := h
  rcases h2 with ⟨rfl, h0⟩ | ⟨g, cap, cur, rfl, _⟩
  · omega
  · exact ⟨g, cap, rfl⟩
theorem own_cell {w : World} {n g cap : Nat} {xs : List Value} {E : TypeId} (h : w.ownsRow 0 E 9 (.slice (some ⟨g, 0, none⟩) n cap) n xs) (j : Nat) (u : Value) (hu : xs[j]? = some u) : w.cell? ⟨g, j, none⟩ = some u := by
  have := h.cells (g := g) rfl j u hu
  rwa [add_at] at this
theorem slice_form {w : World} {S : Nat → Prop} {a : F} {sv : Value} (h : SV w S a sv) : ∃ ad cap, sv = .slice ad a.len cap := by
  obtain ⟨_, ad, cap, e, _⟩ := h
  exact ⟨ad, cap, e⟩
theorem Afar.put9 {S T : Nat → Prop} {w : World} {g : Nat} (a b c d e f h i j : Value) (hS : ∀ b, S b → T b ∧ b ≠ g) : Afar S T w (put9 w g a b c d e f h i j) :=
  ⟨by unfold Go.Proofs.YtphiaagppcbefaaGreatDoor.put9; simp [World.setCell], fun k h1 _ => ⟨(hS k h1).1, put9_other w k g a b c d e f h i j (hS k h1).2⟩⟩
theorem one_of {op : Int} {f : F} (h : f.len = 1) : ∃ t : TN, f = .cons t.op t.st t.lo t.hi t.g t.args .nil ∧ oneT op f = t := by
  cases f with
  | nil => simp [F.len] at h
  | cons o s l hh g a r =>
    cases r with
    | nil => exact ⟨⟨o, s, l, hh, g, a⟩, rfl, rfl⟩
    | cons _ _ _ _ _ _ _ => simp [F.len] at h
theorem one_not {op : Int} {f : F} (h : 1 ≤ f.len) (h1 : f.len ≠ 1) : oneT op f = ⟨op, noSet, 0, 0, 0, f⟩ := by
  cases f with
  | nil => simp [F.len] at h
  | cons o s l hh g a r =>
    cases r with
    | nil => simp [F.len] at h1
    | cons _ _ _ _ _ _ _ => rfl
set_option maxRecDepth 100000 in
set_option maxHeartbeats 8000000 in
theorem join_piece (w : World) (B : Nat) (c : CX) (V : LV) (p : PS) (h : PM w B c V p) (X : Nat) (hX : w.cell? ⟨X, 0, none⟩ = some (.pointer (some ⟨B, 0, none⟩))) (hXB : X ≠ B) (op : Int) (more : PS → Bool × PS) (step : PS → TN × PS) (G : PS → Prop)
    (HStep : Hid (∀ W q, PM W B c V q → G q → Calls Tryz.prog 60 #[.pointer (some ⟨B, 0, none⟩)] W (Ret W B c V (step q))))
    (HMore : Hid (∀ W q, PM W B c V q → W.cell? ⟨X, 0, none⟩ = some (.pointer (some ⟨B, 0, none⟩)) → Calls Tryz.prog 61 #[.pointer (some ⟨X, 0, none⟩)] W fun e w' => e = .returned (.bool (more q).1) ∧ Stp W B c V (more q).2 w'))
    (HG : Hid (∀ q, Gd c q → G q → G (step q).2 ∧ G (more q).2)) (hG : G p)
    (HProg : Hid (∀ q, Gd c q → G q → (more q).1 = true → q.at_ < (step (more q).2).2.at_)) :
    Calls Tryz.prog 38 #[.int .i64 op, .func (.func 60) #[.pointer (some ⟨B, 0, none⟩)] #[], .func (.func 61) #[] #[.pointer (some ⟨X, 0, none⟩)]] w (Ret w B c V (joiT c op more step p)) := by
  have hx : Below w.heap.size w (w.alloc (.cells #[.int .i64 0, .int .u64 0, .int .u64 0, .int .u64 0, .int .u64 0, .int .i64 0, .int .i64 0, .int .i64 0, .slice none 0 0] 35)) := (Below.refl _ _).alloc (Nat.le_refl _) _
  have hS0 := Stp.of_below h hx
  have HR0 := Lib.hid (RAt.one w #[.int .i64 0, .int .u64 0, .int .u64 0, .int .u64 0, .int .u64 0, .int .i64 0, .int .i64 0, .int .i64 0, .slice none 0 0])
  have HX0 := Lib.hid (keep_words hx hX)
  have HL := Lib.hid h.lt
  have hXw : X < w.heap.size := World.block_lt_of_cell? w _ hX
  have HXw := Lib.hid (And.intro hXw hXB)
  have HSz := Lib.hid h.sz
  have HGp := Lib.hid (HG.out p h.gd hG)
  obtain ⟨RES, hRES⟩ : ∃ RES, lopT more step (c.s.size + 1) (F.nil.push (step p).1) (step p).2 = RES := ⟨_, rfl⟩
  have HRES : Hid (joiT c op more step p = (oneT op RES.1, RES.2)) := by rw [← hRES]; rfl
  have HRE0 := Lib.hid hRES
  have hp := hS0.1
  have HS0 := Lib.hid hS0
  clear h hx hX hXB hXw hS0 hRES
  go_enter Tryz.func38, Tryz.ntmps38
  go_wp2_with (first
    | (go_at_call 60; (with_reducible refine (HStep.out _ _ hp hG).mono ?_); rintro e w2 ⟨v, rfl, ht, hs⟩; obtain ⟨sv, rfl, hsv⟩ := ht; obtain ⟨ad, cp, rfl⟩ := slice_form hsv; unfold rowV; have HT := Lib.hid (And.intro hsv hs); clear hsv hs)
    )
  clear hp hG
  have HJ0 := Lib.hid (JB.start (X := X) (t := (step p).1) (HS0.out.trans HT.out.2) (HR0.out.only HT.out.2.2 (by have := HL.out; omega)) (HT.out.2.2.cell HXw.out.2 HX0.out) (by
    have := HT.out.1
    have e : (w.alloc (.cells #[.int .i64 0, .int .u64 0, .int .u64 0, .int .u64 0, .int .u64 0, .int .i64 0, .int .i64 0, .int .i64 0, .slice none 0 0] 35)).heap.size = w.heap.size + 1 := by simp
    rw [e] at this
    exact this) (by have := HT.out.2.2.size; simpa using this))
  unfold rowV at HJ0
  go_loopg [7] (c.s.size + 1) (fun k v wr => ∃ (f : F) (q : PS) (xs : List Value), Hid (lopT more step k f q = RES ∧ c.s.size + 1 ≤ q.at_ + k ∧ f.len + k = c.s.size + 2 ∧ 1 ≤ f.len ∧ G q) ∧ Hid (JB w B c V X f q xs v wr))
  case atStart => exact ⟨F.nil.push (step p).1, (step p).2, _, ⟨HRE0.out, by omega, by show 1 + (c.s.size + 1) = c.s.size + 2; omega, Nat.le_refl _, HGp.out.1⟩, HJ0.out⟩
  case round =>
    obtain ⟨f, q, xs, HM, HJ⟩ := hrel
    clear HJ0 HT HRE0
    obtain ⟨g, cap, rfl⟩ := own_some HJ.out.1 HM.out.2.2.2.1
    have hp := HJ.out.2.2.2.1.1
    have hgd := hp.gd
    have hcx := HJ.out.2.2.2.2.2
    obtain ⟨k, hk⟩ : ∃ k, gk = k + 1 := ⟨gk - 1, by have := HM.out.2.1; have := hgd.at_; omega⟩
    have HK := Lib.hid hk
    have hMq := HMore.out wr q hp hcx
    have HGq := Lib.hid (HG.out q hgd HM.out.2.2.2.2)
    by_cases hm : (more q).1 = true
    · rw [hm] at hMq
      have HMq := Lib.hid hMq
      have HPr := Lib.hid (HProg.out q hgd HM.out.2.2.2.2 hm)
      have HMo := Lib.hid hm
      have hG := HGq.out.2
      clear hMq hp hgd hcx hk hm
      go_wp2_with (first
        | (go_at_call 61; refine HMq.out.mono ?_; rintro e w3 ⟨rfl, hs⟩; have HJ2 := Lib.hid (HJ.out.step HL.out HXw.out.2 hs); have hp := hs.1; clear hs)
        | (go_at_call 60; (with_reducible refine (HStep.out _ _ hp hG).mono ?_); rintro e w2 ⟨v, rfl, ht, hs⟩; obtain ⟨sv, rfl, hsv⟩ := ht; obtain ⟨ad, cp, rfl⟩ := slice_form hsv; unfold rowV; have HT := Lib.hid (And.intro hsv hs); clear hsv hs)
        | (at_builtin; refine app_st 33 35 (.agg #[.int .i64 0, .int .u64 0, .int .u64 0, .int .u64 0, .int .u64 0, .int .i64 0, .int .i64 0, .int .i64 0, .slice none 0 0]) 9 88 Tryz.underlying33 infoRe rfl (by decide) w2 rfl (.tmp 13) (.tmp 16) rfl (.slice (some ⟨g, 0, none⟩) f.len cap) f.len xs [.int .i64 (step (more q).2).1.op, .int .u64 (wd (step (more q).2).1.st 0 64 : Nat), .int .u64 (wd (step (more q).2).1.st 64 64 : Nat), .int .u64 (wd (step (more q).2).1.st 128 64 : Nat), .int .u64 (wd (step (more q).2).1.st 192 64 : Nat), .int .i64 (step (more q).2).1.lo, .int .i64 (step (more q).2).1.hi, .int .i64 (step (more q).2).1.g, .slice ad (step (more q).2).1.args.len cp] rfl rfl ((HJ2.out.step HL.out HXw.out.2 HT.out.2).1) _ rfl rfl rfl ?d1 ?d2 ?d3 ?_)
        )
      case d1 => simp [Value.oneCell']
      case d2 => unfold maxLen; have := HM.out.2.2.1; have := HSz.out; omega
      case d3 => have := HM.out.2.2.1; have := HSz.out; omega
      intro g2 cap2 w5 ho hkp hgg
      have HJ5 := Lib.hid (JB.push HJ2.out HL.out HXw.out.2 HXw.out.1 HT.out.2 HT.out.1 ho hkp hgg)
      clear ho hkp hgg hp hG
      go_wp2
      go_roundg k
      case measure => have := HK.out; omega
      case rel =>
        have hm1 := HM.out
        have e1 : lopT more step (k + 1) f q = lopT more step k (f.push (step (more q).2).1) (step (more q).2).2 := by
          show (if (more q).1 = true then _ else _) = _
          rw [if_pos HMo.out]
        have hk2 := HK.out
        refine ⟨f.push (step (more q).2).1, (step (more q).2).2, xs ++ [.int .i64 (step (more q).2).1.op, .int .u64 (wd (step (more q).2).1.st 0 64 : Nat), .int .u64 (wd (step (more q).2).1.st 64 64 : Nat), .int .u64 (wd (step (more q).2).1.st 128 64 : Nat), .int .u64 (wd (step (more q).2).1.st 192 64 : Nat), .int .i64 (step (more q).2).1.lo, .int .i64 (step (more q).2).1.hi, .int .i64 (step (more q).2).1.g, .slice ad (step (more q).2).1.args.len cp], ⟨?_, ?_, ?_, ?_, ?_⟩, ?_⟩
        · rw [← e1, ← hk2]; exact hm1.1
        · have := HPr.out; have := hm1.2.1; omega
        · rw [F.len_push]; have := hm1.2.2.1; omega
        · rw [F.len_push]; omega
        · exact (HG.out _ HJ2.out.2.2.2.1.1.gd HGq.out.2).1
        · have := HJ5.out
          rw [F.len_push] at this
          exact this
    · have hmf : (more q).1 = false := by simpa using hm
      rw [hmf] at hMq
      have HMq := Lib.hid hMq
      have HR1 : Hid (RES = (f, (more q).2)) := by
        rw [← HM.out.1, HK.out]
        show (if (more q).1 = true then _ else _) = _
        rw [if_neg hm]
      have hfl := HM.out.2.2.2.1
      have HGo := Lib.hid HM.out.2.2.1
      clear hMq hp hgd hcx hk hm hmf HM HStep HG HProg HMore
      by_cases h1 : f.len = 1
      · obtain ⟨t, hft, ht1⟩ := one_of (op := op) h1
        have hfv := HJ.out.2.2.1
        rw [hft] at hfv
        obtain ⟨sv, ys, hxs, hsv, hys⟩ := FV.cons.1 hfv
        have hys : ys = [] := hys
        subst hys
        obtain ⟨ad, cp, rfl⟩ := slice_form hsv
        have HO := HJ.out.1
        rw [h1, hxs] at HO
        have HO := Lib.hid HO
        have HSV := Lib.hid hsv
        have HF1 := Lib.hid ht1
        rw [h1]
        clear hfv hsv hft ht1 hfl h1 hxs
        go_wp2_with (first
          | (go_at_call 61; refine HMq.out.mono ?_; rintro e w3 ⟨rfl, hs⟩; have HJ2 := Lib.hid (HJ.out.step HL.out HXw.out.2 hs); have HO3 := Lib.hid (own_same HO.out fun b hb hl => hs.2.block b hl (by have := HJ.out.2.1 b hb; have := HL.out; omega)); have HSV3 := Lib.hid (HSV.out.far (w' := w3) (T := fun b => w.heap.size + 1 ≤ b) ⟨hs.2.size, fun b hb hl => ⟨hb.1, hs.2.block b hl (by have := hb.1; have := HL.out; omega)⟩⟩); obtain ⟨⟨⟨n0, n1, n2⟩, ⟨n3, n4, n5⟩, ⟨n6, n7, n8⟩⟩, nf⟩ := HJ2.out.2.2.2.2.1.all; have m0 := own_cell HO3.out 0 _ rfl; have m1 := own_cell HO3.out 1 _ rfl; have m2 := own_cell HO3.out 2 _ rfl; have m3 := own_cell HO3.out 3 _ rfl; have m4 := own_cell HO3.out 4 _ rfl; have m5 := own_cell HO3.out 5 _ rfl; have m6 := own_cell HO3.out 6 _ rfl; have m7 := own_cell HO3.out 7 _ rfl; have m8 := own_cell HO3.out 8 _ rfl; clear hs)
          )
        refine bodyPost_ret (v := .agg #[.int .i64 t.op, .int .u64 (wd t.st 0 64 : Nat), .int .u64 (wd t.st 64 64 : Nat), .int .u64 (wd t.st 128 64 : Nat), .int .u64 (wd t.st 192 64 : Nat), .int .i64 t.lo, .int .i64 t.hi, .int .i64 t.g, .slice ad t.args.len cp]) (ret_re Tryz.results38 _ _ w.heap.size _ rfl (by simp) (HJ2.out.2.2.2.2.1.put9 _ _ _ _ _ _ _ _ _)) rfl ?_
        rw [HRES.out, HR1.out]
        refine ⟨_, rfl, ?_, HJ2.out.2.2.2.1.put9 HL.out _ (Nat.le_refl _) _ _ _ _ _ _ _ _ _⟩
        show TV _ _ (oneT op f) _
        rw [HF1.out]
        exact ⟨_, rfl, HSV3.out.far (Afar.put9 _ _ _ _ _ _ _ _ _ fun b hb => ⟨by show w.heap.size ≤ b; omega, by omega⟩)⟩
      · have q1 : ((f.len : Int) == 1) = false := by simp; omega
        have q2 : (f.len == 1) = false := by simpa using h1
        have HF1 := Lib.hid (one_not (op := op) hfl h1)
        clear hfl h1
        go_wp2_with (first
          | (go_at_call 61; refine HMq.out.mono ?_; rintro e w3 ⟨rfl, hs⟩; have HJ2 := Lib.hid (HJ.out.step HL.out HXw.out.2 hs); obtain ⟨⟨⟨n0, n1, n2⟩, ⟨n3, n4, n5⟩, ⟨n6, n7, n8⟩⟩, nf⟩ := HJ2.out.2.2.2.2.1.all; clear hs)
          )
        refine bodyPost_ret (v := .agg #[.int .i64 op, .int .u64 0, .int .u64 0, .int .u64 0, .int .u64 0, .int .i64 0, .int .i64 0, .int .i64 0, .slice (some ⟨g, 0, none⟩) f.len cap]) (ret_re Tryz.results38 _ _ w.heap.size _ rfl (by simp) (HJ2.out.2.2.2.2.1.put9 _ _ _ _ _ _ _ _ _)) rfl ?_
        rw [HRES.out, HR1.out]
        refine ⟨_, rfl, ?_, HJ2.out.2.2.2.1.put9 HL.out _ (Nat.le_refl _) _ _ _ _ _ _ _ _ _⟩
        show TV _ _ (oneT op f) _
        rw [HF1.out]
        have hgw : w.heap.size + 1 ≤ g := HJ2.out.2.1 g rfl
        refine ⟨_, rfl, SV.own (HJ2.out.2.2.1.far (Afar.put9 _ _ _ _ _ _ _ _ _ fun b hb => ⟨by show w.heap.size ≤ b; have := hb.1; omega, by have := hb.1; omega⟩)) (fun b e => ?_) (own_same HJ2.out.1 fun b e _ => put9_other _ _ _ _ _ _ _ _ _ _ _ _ (fun e3 => ?_))⟩
        · have e2 : g = b := by simpa [Value.ownBlock] using e
          show w.heap.size ≤ b
          omega
        · have e2 : g = b := by simpa [Value.ownBlock] using e
          omega
set_option maxRecDepth 100000 in
set_option maxHeartbeats 8000000 in
theorem join_branch (w : World) (B : Nat) (c : CX) (V : LV) (p : PS) (h : PM w B c V p) (X : Nat) (hX : w.cell? ⟨X, 0, none⟩ = some (.pointer (some ⟨B, 0, none⟩))) (hXB : X ≠ B) (op : Int) (more : PS → Bool × PS) (step : PS → TN × PS) (G : PS → Prop)
    (HStep : Hid (∀ W q, PM W B c V q → G q → Calls Tryz.prog 39 #[.pointer (some ⟨B, 0, none⟩)] W (Ret W B c V (step q))))
    (HMore : Hid (∀ W q, PM W B c V q → W.cell? ⟨X, 0, none⟩ = some (.pointer (some ⟨B, 0, none⟩)) → Calls Tryz.prog 40 #[.pointer (some ⟨X, 0, none⟩)] W fun e w' => e = .returned (.bool (more q).1) ∧ Stp W B c V (more q).2 w'))
    (HG : Hid (∀ q, Gd c q → G q → G (step q).2 ∧ G (more q).2)) (hG : G p)
    (HProg : Hid (∀ q, Gd c q → G q → (more q).1 = true → q.at_ < (step (more q).2).2.at_)) :
    Calls Tryz.prog 38 #[.int .i64 op, .func (.func 39) #[.pointer (some ⟨B, 0, none⟩)] #[], .func (.func 40) #[] #[.pointer (some ⟨X, 0, none⟩)]] w (Ret w B c V (joiT c op more step p)) := by
  have hx : Below w.heap.size w (w.alloc (.cells #[.int .i64 0, .int .u64 0, .int .u64 0, .int .u64 0, .int .u64 0, .int .i64 0, .int .i64 0, .int .i64 0, .slice none 0 0] 35)) := (Below.refl _ _).alloc (Nat.le_refl _) _
  have hS0 := Stp.of_below h hx
  have HR0 := Lib.hid (RAt.one w #[.int .i64 0, .int .u64 0, .int .u64 0, .int .u64 0, .int .u64 0, .int .i64 0, .int .i64 0, .int .i64 0, .slice none 0 0])
  have HX0 := Lib.hid (keep_words hx hX)
  have HL := Lib.hid h.lt
  have hXw : X < w.heap.size := World.block_lt_of_cell? w _ hX
  have HXw := Lib.hid (And.intro hXw hXB)
  have HSz := Lib.hid h.sz
  have HGp := Lib.hid (HG.out p h.gd hG)
  obtain ⟨RES, hRES⟩ : ∃ RES, lopT more step (c.s.size + 1) (F.nil.push (step p).1) (step p).2 = RES := ⟨_, rfl⟩
  have HRES : Hid (joiT c op more step p = (oneT op RES.1, RES.2)) := by rw [← hRES]; rfl
  have HRE0 := Lib.hid hRES
  have hp := hS0.1
  have HS0 := Lib.hid hS0
  clear h hx hX hXB hXw hS0 hRES
  go_enter Tryz.func38, Tryz.ntmps38
  go_wp2_with (first
    | (go_at_call 39; (with_reducible refine (HStep.out _ _ hp hG).mono ?_); rintro e w2 ⟨v, rfl, ht, hs⟩; obtain ⟨sv, rfl, hsv⟩ := ht; obtain ⟨ad, cp, rfl⟩ := slice_form hsv; unfold rowV; have HT := Lib.hid (And.intro hsv hs); clear hsv hs)
    )
  clear hp hG
  have HJ0 := Lib.hid (JB.start (X := X) (t := (step p).1) (HS0.out.trans HT.out.2) (HR0.out.only HT.out.2.2 (by have := HL.out; omega)) (HT.out.2.2.cell HXw.out.2 HX0.out) (by
    have := HT.out.1
    have e : (w.alloc (.cells #[.int .i64 0, .int .u64 0, .int .u64 0, .int .u64 0, .int .u64 0, .int .i64 0, .int .i64 0, .int .i64 0, .slice none 0 0] 35)).heap.size = w.heap.size + 1 := by simp
    rw [e] at this
    exact this) (by have := HT.out.2.2.size; simpa using this))
  unfold rowV at HJ0
  go_loopg [7] (c.s.size + 1) (fun k v wr => ∃ (f : F) (q : PS) (xs : List Value), Hid (lopT more step k f q = RES ∧ c.s.size + 1 ≤ q.at_ + k ∧ f.len + k = c.s.size + 2 ∧ 1 ≤ f.len ∧ G q) ∧ Hid (JB w B c V X f q xs v wr))
  case atStart => exact ⟨F.nil.push (step p).1, (step p).2, _, ⟨HRE0.out, by omega, by show 1 + (c.s.size + 1) = c.s.size + 2; omega, Nat.le_refl _, HGp.out.1⟩, HJ0.out⟩
  case round =>
    obtain ⟨f, q, xs, HM, HJ⟩ := hrel
    clear HJ0 HT HRE0
    obtain ⟨g, cap, rfl⟩ := own_some HJ.out.1 HM.out.2.2.2.1
    have hp := HJ.out.2.2.2.1.1
    have hgd := hp.gd
    have hcx := HJ.out.2.2.2.2.2
    obtain ⟨k, hk⟩ : ∃ k, gk = k + 1 := ⟨gk - 1, by have := HM.out.2.1; have := hgd.at_; omega⟩
    have HK := Lib.hid hk
    have hMq := HMore.out wr q hp hcx
    have HGq := Lib.hid (HG.out q hgd HM.out.2.2.2.2)
    by_cases hm : (more q).1 = true
    · rw [hm] at hMq
      have HMq := Lib.hid hMq
      have HPr := Lib.hid (HProg.out q hgd HM.out.2.2.2.2 hm)
      have HMo := Lib.hid hm
      have hG := HGq.out.2
      clear hMq hp hgd hcx hk hm
      go_wp2_with (first
        | (go_at_call 40; refine HMq.out.mono ?_; rintro e w3 ⟨rfl, hs⟩; have HJ2 := Lib.hid (HJ.out.step HL.out HXw.out.2 hs); have hp := hs.1; clear hs)
        | (go_at_call 39; (with_reducible refine (HStep.out _ _ hp hG).mono ?_); rintro e w2 ⟨v, rfl, ht, hs⟩; obtain ⟨sv, rfl, hsv⟩ := ht; obtain ⟨ad, cp, rfl⟩ := slice_form hsv; unfold rowV; have HT := Lib.hid (And.intro hsv hs); clear hsv hs)
        | (at_builtin; refine app_st 33 35 (.agg #[.int .i64 0, .int .u64 0, .int .u64 0, .int .u64 0, .int .u64 0, .int .i64 0, .int .i64 0, .int .i64 0, .slice none 0 0]) 9 88 Tryz.underlying33 infoRe rfl (by decide) w2 rfl (.tmp 13) (.tmp 16) rfl (.slice (some ⟨g, 0, none⟩) f.len cap) f.len xs [.int .i64 (step (more q).2).1.op, .int .u64 (wd (step (more q).2).1.st 0 64 : Nat), .int .u64 (wd (step (more q).2).1.st 64 64 : Nat), .int .u64 (wd (step (more q).2).1.st 128 64 : Nat), .int .u64 (wd (step (more q).2).1.st 192 64 : Nat), .int .i64 (step (more q).2).1.lo, .int .i64 (step (more q).2).1.hi, .int .i64 (step (more q).2).1.g, .slice ad (step (more q).2).1.args.len cp] rfl rfl ((HJ2.out.step HL.out HXw.out.2 HT.out.2).1) _ rfl rfl rfl ?d1 ?d2 ?d3 ?_)
        )
      case d1 => simp [Value.oneCell']
      case d2 => unfold maxLen; have := HM.out.2.2.1; have := HSz.out; omega
      case d3 => have := HM.out.2.2.1; have := HSz.out; omega
      intro g2 cap2 w5 ho hkp hgg
      have HJ5 := Lib.hid (JB.push HJ2.out HL.out HXw.out.2 HXw.out.1 HT.out.2 HT.out.1 ho hkp hgg)
      clear ho hkp hgg hp hG
      go_wp2
      go_roundg k
      case measure => have := HK.out; omega
      case rel =>
        have hm1 := HM.out
        have e1 : lopT more step (k + 1) f q = lopT more step k (f.push (step (more q).2).1) (step (more q).2).2 := by
          show (if (more q).1 = true then _ else _) = _
          rw [if_pos HMo.out]
        have hk2 := HK.out
        refine ⟨f.push (step (more q).2).1, (step (more q).2).2, xs ++ [.int .i64 (step (more q).2).1.op, .int .u64 (wd (step (more q).2).1.st 0 64 : Nat), .int .u64 (wd (step (more q).2).1.st 64 64 : Nat), .int .u64 (wd (step (more q).2).1.st 128 64 : Nat), .int .u64 (wd (step (more q).2).1.st 192 64 : Nat), .int .i64 (step (more q).2).1.lo, .int .i64 (step (more q).2).1.hi, .int .i64 (step (more q).2).1.g, .slice ad (step (more q).2).1.args.len cp], ⟨?_, ?_, ?_, ?_, ?_⟩, ?_⟩
        · rw [← e1, ← hk2]; exact hm1.1
        · have := HPr.out; have := hm1.2.1; omega
        · rw [F.len_push]; have := hm1.2.2.1; omega
        · rw [F.len_push]; omega
        · exact (HG.out _ HJ2.out.2.2.2.1.1.gd HGq.out.2).1
        · have := HJ5.out
          rw [F.len_push] at this
          exact this
    · have hmf : (more q).1 = false := by simpa using hm
      rw [hmf] at hMq
      have HMq := Lib.hid hMq
      have HR1 : Hid (RES = (f, (more q).2)) := by
        rw [← HM.out.1, HK.out]
        show (if (more q).1 = true then _ else _) = _
        rw [if_neg hm]
      have hfl := HM.out.2.2.2.1
      have HGo := Lib.hid HM.out.2.2.1
      clear hMq hp hgd hcx hk hm hmf HM HStep HG HProg HMore
      by_cases h1 : f.len = 1
      · obtain ⟨t, hft, ht1⟩ := one_of (op := op) h1
        have hfv := HJ.out.2.2.1
        rw [hft] at hfv
        obtain ⟨sv, ys, hxs, hsv, hys⟩ := FV.cons.1 hfv
        have hys : ys = [] := hys
        subst hys
        obtain ⟨ad, cp, rfl⟩ := slice_form hsv
        have HO := HJ.out.1
        rw [h1, hxs] at HO
        have HO := Lib.hid HO
        have HSV := Lib.hid hsv
        have HF1 := Lib.hid ht1
        rw [h1]
        clear hfv hsv hft ht1 hfl h1 hxs
        go_wp2_with (first
          | (go_at_call 40; refine HMq.out.mono ?_; rintro e w3 ⟨rfl, hs⟩; have HJ2 := Lib.hid (HJ.out.step HL.out HXw.out.2 hs); have HO3 := Lib.hid (own_same HO.out fun b hb hl => hs.2.block b hl (by have := HJ.out.2.1 b hb; have := HL.out; omega)); have HSV3 := Lib.hid (HSV.out.far (w' := w3) (T := fun b => w.heap.size + 1 ≤ b) ⟨hs.2.size, fun b hb hl => ⟨hb.1, hs.2.block b hl (by have := hb.1; have := HL.out; omega)⟩⟩); obtain ⟨⟨⟨n0, n1, n2⟩, ⟨n3, n4, n5⟩, ⟨n6, n7, n8⟩⟩, nf⟩ := HJ2.out.2.2.2.2.1.all; have m0 := own_cell HO3.out 0 _ rfl; have m1 := own_cell HO3.out 1 _ rfl; have m2 := own_cell HO3.out 2 _ rfl; have m3 := own_cell HO3.out 3 _ rfl; have m4 := own_cell HO3.out 4 _ rfl; have m5 := own_cell HO3.out 5 _ rfl; have m6 := own_cell HO3.out 6 _ rfl; have m7 := own_cell HO3.out 7 _ rfl; have m8 := own_cell HO3.out 8 _ rfl; clear hs)
          )
        refine bodyPost_ret (v := .agg #[.int .i64 t.op, .int .u64 (wd t.st 0 64 : Nat), .int .u64 (wd t.st 64 64 : Nat), .int .u64 (wd t.st 128 64 : Nat), .int .u64 (wd t.st 192 64 : Nat), .int .i64 t.lo, .int .i64 t.hi, .int .i64 t.g, .slice ad t.args.len cp]) (ret_re Tryz.results38 _ _ w.heap.size _ rfl (by simp) (HJ2.out.2.2.2.2.1.put9 _ _ _ _ _ _ _ _ _)) rfl ?_
        rw [HRES.out, HR1.out]
        refine ⟨_, rfl, ?_, HJ2.out.2.2.2.1.put9 HL.out _ (Nat.le_refl _) _ _ _ _ _ _ _ _ _⟩
        show TV _ _ (oneT op f) _
        rw [HF1.out]
        exact ⟨_, rfl, HSV3.out.far (Afar.put9 _ _ _ _ _ _ _ _ _ fun b hb => ⟨by show w.heap.size ≤ b; omega, by omega⟩)⟩
      · have q1 : ((f.len : Int) == 1) = false := by simp; omega
        have q2 : (f.len == 1) = false := by simpa using h1
        have HF1 := Lib.hid (one_not (op := op) hfl h1)
        clear hfl h1
        go_wp2_with (first
          | (go_at_call 40; refine HMq.out.mono ?_; rintro e w3 ⟨rfl, hs⟩; have HJ2 := Lib.hid (HJ.out.step HL.out HXw.out.2 hs); obtain ⟨⟨⟨n0, n1, n2⟩, ⟨n3, n4, n5⟩, ⟨n6, n7, n8⟩⟩, nf⟩ := HJ2.out.2.2.2.2.1.all; clear hs)
          )
        refine bodyPost_ret (v := .agg #[.int .i64 op, .int .u64 0, .int .u64 0, .int .u64 0, .int .u64 0, .int .i64 0, .int .i64 0, .int .i64 0, .slice (some ⟨g, 0, none⟩) f.len cap]) (ret_re Tryz.results38 _ _ w.heap.size _ rfl (by simp) (HJ2.out.2.2.2.2.1.put9 _ _ _ _ _ _ _ _ _)) rfl ?_
        rw [HRES.out, HR1.out]
        refine ⟨_, rfl, ?_, HJ2.out.2.2.2.1.put9 HL.out _ (Nat.le_refl _) _ _ _ _ _ _ _ _ _⟩
        show TV _ _ (oneT op f) _
        rw [HF1.out]
        have hgw : w.heap.size + 1 ≤ g := HJ2.out.2.1 g rfl
        refine ⟨_, rfl, SV.own (HJ2.out.2.2.1.far (Afar.put9 _ _ _ _ _ _ _ _ _ fun b hb => ⟨by show w.heap.size ≤ b; have := hb.1; omega, by have := hb.1; omega⟩)) (fun b e => ?_) (own_same HJ2.out.1 fun b e _ => put9_other _ _ _ _ _ _ _ _ _ _ _ _ (fun e3 => ?_))⟩
        · have e2 : g = b := by simpa [Value.ownBlock] using e
          show w.heap.size ≤ b
          omega
        · have e2 : g = b := by simpa [Value.ownBlock] using e
          omega
end Go.Proofs.YtphiaagppcbefaaGreatDoor
set_option linter.unusedVariables false
namespace Go.Proofs.YtphiaagppcbefaaGreatDoor
open Go.RowKit
structure Mv (c : CX) (p q : PS) : Prop where
  a : p.at_ ≤ q.at_
  b : q.at_ ≤ c.s.size
  g : p.gr ≤ q.gr
  g9 : q.gr ≤ 9
  o : q.opn = p.opn
  s : q.st ≤ q.at_
theorem Mv.refl {c : CX} {p : PS} (h : Gd c p) : Mv c p p := ⟨Nat.le_refl _, h.at_, Nat.le_refl _, h.gr, rfl, h.st⟩
theorem Mv.trans {c : CX} {p q r : PS} (h : Mv c p q) (k : Mv c q r) : Mv c p r := ⟨Nat.le_trans h.a k.a, k.b, Nat.le_trans h.g k.g, k.g9, k.o.trans h.o, k.s⟩
theorem Mv.gd {c : CX} {p q : PS} (h : Gd c p) (k : Mv c p q) : Gd c q := ⟨k.b, k.s, k.g9, by have := k.o; have := k.g; have := h.opn; omega⟩
theorem mv_to {c : CX} {p : PS} (h : Gd c p) (n : Nat) (h1 : p.at_ ≤ n) (h2 : n ≤ c.s.size) : Mv c p (p.to n) := ⟨h1, h2, Nat.le_refl _, h.gr, rfl, Nat.le_trans h.st h1⟩
theorem mv_fail {c : CX} {p : PS} (h : Gd c p) (e : Int) (i : Nat) : Mv c p (failT c p e i) ∧ (failT c p e i).at_ = c.s.size := by
  unfold failT
  split
  · exact ⟨⟨h.at_, Nat.le_refl _, Nat.le_refl _, h.gr, rfl, Nat.le_trans h.st h.at_⟩, rfl⟩
  · exact ⟨⟨h.at_, Nat.le_refl _, Nat.le_refl _, h.gr, rfl, Nat.le_trans h.st h.at_⟩, rfl⟩
theorem mv_exp {c : CX} {p : PS} (h : Gd c p) (x : Int) (hx : 0 ≤ x) : Mv c p (expT c x p) := by
  unfold expT
  split
  · rename_i hk
    have := pk_lt (s := c.s) (i := p.at_) (by omega)
    exact mv_to h _ (by omega) (by omega)
  · exact (mv_fail h _ _).1
theorem mv_acb {c : CX} {p : PS} (h : Gd c p) (x : Int) (hx : 0 ≤ x) : Mv c p (acbT c x p).2 := by
  unfold acbT
  split
  · rename_i hk
    have := pk_lt (s := c.s) (i := p.at_) (by omega)
    exact mv_to h _ (by omega) (by omega)
  · exact Mv.refl h
theorem mv_past {c : CX} {p : PS} (h : Gd c p) (h1 : kdT c p ≠ -1) (h4 : kdT c p ≠ -4) : Mv c p (pastT c p) ∧ p.at_ < (pastT c p).at_ := by
  have h5 := tok_fit h1 h4
  have h6 := sz_le c p
  exact ⟨mv_to h _ (by omega) h5, by show p.at_ < p.at_ + szT c p; omega⟩
theorem mv_acc {c : CX} {p : PS} (h : Gd c p) (k : Int) (h1 : k ≠ -1) (h4 : k ≠ -4) : Mv c p (accT c k p).2 ∧ ((accT c k p).1 = true → p.at_ < (accT c k p).2.at_) := by
  unfold accT
  by_cases hk : kdT c p = k
  · simp only [if_pos hk]
    have := mv_past h (by rw [hk]; exact h1) (by rw [hk]; exact h4)
    exact ⟨this.1, fun _ => this.2⟩
  · simp only [if_neg hk]
    exact ⟨Mv.refl h, fun e => by cases e⟩
theorem mv_unex {c : CX} {p : PS} (h : Gd c p) : Mv c p (unexT c p) ∧ (unexT c p).at_ = c.s.size := mv_fail h _ _
theorem mv_nmr {c : CX} {p : PS} (h : Gd c p) (least : Int) : Mv c p (nmrT c least p).2 := by
  unfold nmrT
  split
  · rename_i hd
    have h1 := numE_le hd
    have h2 := mv_to h (numE c p) h1.2 h1.1
    split
    · exact h2.trans (mv_fail (Mv.gd h h2) _ _).1
    split
    · exact h2.trans (mv_fail (Mv.gd h h2) _ _).1
    · exact h2
  · exact (mv_fail h _ _).1
theorem mv_bndE {c : CX} {p : PS} (h : Gd c p) : Mv c p (bndE c p) := by
  unfold bndE
  split
  · exact mv_exp h _ (by omega)
  · have h1 := mv_exp h 92 (by omega)
    exact h1.trans (mv_exp (Mv.gd h h1) _ (by omega))
theorem mv_bnd {c : CX} {p : PS} (h : Gd c p) : Mv c p (bndT c p).2 := by
  unfold bndT
  have h1 := mv_nmr h 0
  generalize nmrT c 0 p = a at *
  have g1 := Mv.gd h h1
  simp only
  split
  · rename_i hk
    have hl := pk_lt (s := c.s) (i := a.2.at_) (by omega)
    have h2 := h1.trans (mv_to g1 (a.2.at_ + 1) (by omega) (by omega))
    have g2 := Mv.gd h h2
    split
    · have h3 := h2.trans (mv_nmr g2 a.1)
      exact h3.trans (mv_bndE (Mv.gd h h3))
    · exact h2.trans (mv_bndE g2)
  · exact h1.trans (mv_bndE g1)
theorem mv_suf {c : CX} {p : PS} (h : Gd c p) (t : TN) : Mv c p (sufT c t p).2 := by
  unfold sufT
  split
  · rename_i hk; exact (mv_past h (by rw [hk]; decide) (by rw [hk]; decide)).1
  split
  · rename_i hk; exact (mv_past h (by rw [hk]; decide) (by rw [hk]; decide)).1
  split
  · rename_i hk; exact (mv_past h (by rw [hk]; decide) (by rw [hk]; decide)).1
  split
  · rename_i hk
    have h1 := (mv_past h (by rw [hk]; decide) (by rw [hk]; decide)).1
    exact h1.trans (mv_bnd (Mv.gd h h1))
  · exact Mv.refl h
theorem mv_any {c : CX} {p : PS} (h : Gd c p) : Mv c p (anyT c p).2 := by
  unfold anyT
  split
  · exact (mv_fail h _ _).1
  · rename_i hk
    have := pk_lt hk
    exact mv_to h _ (by omega) (by omega)
theorem mv_enc {c : CX} {p : PS} (h : Gd c p) (m : Int) (hm : 0 ≤ m) : Mv c p (encT c m p).2 := by
  unfold encT
  have h1 := mv_exp h 91 (by omega)
  have h2 := h1.trans (mv_exp (Mv.gd h h1) m hm)
  have h3 := h2.trans (mv_any (Mv.gd h h2))
  have h4 := h3.trans (mv_exp (Mv.gd h h3) m hm)
  exact h4.trans (mv_exp (Mv.gd h h4) 93 (by omega))
theorem mv_rnd {c : CX} {p : PS} (h : Gd c p) : Mv c p (rndT c p).2 := by
  unfold rndT
  split
  · exact mv_enc h _ (by omega)
  · have h1 := mv_any h
    simp only
    split
    · exact h1.trans (mv_fail (Mv.gd h h1) _ _).1
    · exact h1
theorem mv_bac {c : CX} {p : PS} (h : Gd c p) (v : Int) (h1 : kdT c p ≠ -1) (h4 : kdT c p ≠ -4) : Mv c p (bacT c v p).2 ∧ p.at_ < (bacT c v p).2.at_ := by
  have h2 := mv_past h h1 h4
  unfold bacT
  split
  · exact h2
  · have h3 := mv_fail h 4 p.at_
    have h5 := tok_fit h1 h4
    have h6 := sz_le c p
    exact ⟨h3.1, by rw [h3.2]; omega⟩
end Go.Proofs.YtphiaagppcbefaaGreatDoor
