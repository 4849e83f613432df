/- LpUse, LpCmp, CsWith, CsOps. -/
import Derived.Test.YtphiaagppcbefaaGreatDoorRows
import Derived.Test.YtphiaagppcbefaaGreatDoorPs5
import Derived.Test.YtphiaagppcbefaaGreatDoorPs0
import Derived.Test.YtphiaagppcbefaaGreatDoorPs1
import Derived.WalkLawsBesides
import Derived.BigQuiet
import Derived.Lib.Strings
import Derived.Deep.RegionHeld3
set_option linter.unusedVariables false
namespace Go.Proofs.YtphiaagppcbefaaGreatDoor
open Go.RowKit
attribute [local irreducible] Ldef
set_option maxRecDepth 100000 in
set_option maxHeartbeats 4000000 in
theorem usable_own (L : Loc) (W C E : Value) (w : World) (hM : LocM w L W C E) (hX : chk L = 0) :
    Calls Tryz.prog 136 #[.agg (lcl L W C E)] w fun e w' => e = .returned (.agg (lcl L W C E)) ∧ LocM w' L W C E ∧ Below w.heap.size w w' := by
  have HC := Lib.hid (pCheck_any L W C E)
  have HM := Lib.hid (hM.below (VL2_below w (lcl L W C E)))
  have HO := Lib.hid (VL2_one w (lcl L W C E))
  have HT := Lib.hid (VL2_two w (lcl L W C E))
  have HB := Lib.hid (VL2_below w (lcl L W C E))
  have HW := Lib.hid hM
  rw [hX] at HC
  clear hX
  obtain ⟨⟨aw, capw, rfl, _⟩, ⟨ac, capc, rfl, _⟩, ⟨ae, cape, rfl, _⟩⟩ := hM
  unfold lcl at *
  go_enter Tryz.func136, Tryz.ntmps136
  go_wp2_with (first
    | (go_at_call 146
       refine (HC.out _ (by exact HM.out)).mono ?_
       rintro e w1 ⟨rfl, hb⟩
       have l1 := HO.out.under hb HO.out.lt
       have z1 := HT.out.under hb HT.out.lt
       have HZ := Lib.hid z1
       have HB1 := Lib.hid (HB.out.trans (hb.mono (by exact HB.out.size)))
       obtain ⟨⟨e0, e1, e2⟩, ⟨e3, e4, e5⟩, hf⟩ := l1.six
       obtain ⟨⟨y0, y1, y2⟩, ⟨y3, y4, y5⟩, hg⟩ := z1.six
       clear l1 z1 hb))
  exact bodyPost_ret (ret_loc Tryz.results136 _ _ (w.heap.size + 1) _ rfl rfl (HZ.out.put6 _ _ _ _ _ _)) rfl ⟨rfl, HW.out.below (below_put6 HB1.out _ (by omega) _ _ _ _ _ _), below_put6 HB1.out _ (by omega) _ _ _ _ _ _⟩
set_option maxRecDepth 100000 in
set_option maxHeartbeats 4000000 in
theorem usable_not (L : Loc) (W C E : Value) (w : World) (hM : LocM w L W C E) (hX : chk L ≠ 0) :
    Calls Tryz.prog 136 #[.agg (lcl L W C E)] w fun e w' => ∃ x y : Nat, w.heap.size ≤ x ∧ e = .returned (.agg (lcl Ldef (.slice (some ⟨x, 0, none⟩) 256 y) (.slice none 0 0) (.slice none 0 0))) ∧ LocM w' Ldef (.slice (some ⟨x, 0, none⟩) 256 y) (.slice none 0 0) (.slice none 0 0) ∧ Below w.heap.size w w' := by
  have HC := Lib.hid (pCheck_any L W C E)
  have HM := Lib.hid (hM.below (VL2_below w (lcl L W C E)))
  have HT := Lib.hid (VL2_two w (lcl L W C E))
  have HB := Lib.hid (VL2_below w (lcl L W C E))
  have HD := Lib.hid pDefault_any
  obtain ⟨X, hX2⟩ : ∃ X, chk L = X := ⟨_, rfl⟩
  rw [hX2] at HC hX
  have x1 : (X != 0) = true := by rw [bne_iff_ne]; exact hX
  clear hX hX2
  obtain ⟨⟨aw, capw, rfl, _⟩, ⟨ac, capc, rfl, _⟩, ⟨ae, cape, rfl, _⟩⟩ := hM
  unfold lcl at *
  go_enter Tryz.func136, Tryz.ntmps136
  go_wp2_with (first
    | (go_at_call 146
       refine (HC.out _ (by exact HM.out)).mono ?_
       rintro e w1 ⟨rfl, hb⟩
       have HT1 := Lib.hid (HT.out.under hb HT.out.lt)
       have HB1 := Lib.hid (HB.out.trans (hb.mono (by exact HB.out.size)))
       clear hb)
    | (go_at_call 147
       refine (HD.out _).mono ?_
       rintro e w2 ⟨x, y, hx, rfl, hm, hb⟩
       have hsx : w.heap.size + 2 ≤ x := Nat.le_trans HT1.out.lt hx
       have z1 := HT1.out.under hb HT1.out.lt
       have HZ := Lib.hid z1
       have HB2 := Lib.hid (HB1.out.trans (hb.mono HB1.out.size))
       have HM2 := Lib.hid hm
       have HS := Lib.hid hm
       obtain ⟨⟨y0, y1, y2⟩, ⟨y3, y4, y5⟩, hg⟩ := z1.six
       clear z1 hb hm))
  exact bodyPost_ret (ret_loc Tryz.results136 _ _ (w.heap.size + 1) _ rfl rfl (HZ.out.put6 _ _ _ _ _ _)) rfl ⟨x, y, by omega, rfl, locM_def (SL.put6 (locM_wt HM2.out) (by omega) _ _ _ _ _ _), below_put6 HB2.out _ (by omega) _ _ _ _ _ _⟩
theorem usable_any (L : Loc) (W C E : Value) (w : World) (hM : LocM w L W C E) :
    Calls Tryz.prog 136 #[.agg (lcl L W C E)] w fun e w' => ∃ W' C' E', e = .returned (.agg (lcl (vld L) W' C' E')) ∧ LocM w' (vld L) W' C' E' ∧ Below w.heap.size w w' := by
  by_cases hX : chk L = 0
  · have e : vld L = L := by unfold vld; rw [if_pos hX]
    rw [e]
    exact (usable_own L W C E w hM hX).mono fun e w' h => ⟨W, C, E, h⟩
  · have e : vld L = Ldef := by unfold vld; rw [if_neg hX]
    rw [e]
    exact (usable_not L W C E w hM hX).mono fun e w' ⟨x, y, _, h⟩ => ⟨_, _, _, h⟩
end Go.Proofs.YtphiaagppcbefaaGreatDoor
set_option linter.unusedVariables false
namespace Go.Proofs.YtphiaagppcbefaaGreatDoor
open Go.RowKit
theorem hp_in (s t : ByteArray) (w : World) : Calls Tryz.prog 137 #[.string s, .string t] w fun e w' => e = .returned (.bool (t.data.toList.isPrefixOf s.data.toList)) ∧ w = w' := by
  have hk := Lib.hasPrefix_of_take s.data.toList t.data.toList
  unfold Lib.hasPrefix at hk
  have es : s.data.toList.length = s.size := by simp
  have et : t.data.toList.length = t.size := by simp
  obtain ⟨R, hR⟩ : ∃ R, t.data.toList.isPrefixOf s.data.toList = R := ⟨_, rfl⟩
  rw [hR, es, et] at hk
  rw [hR]
  clear hR
  by_cases h : t.size ≤ s.size
  · have hi : (t.size : Int) ≤ s.size := by omega
    have hx : ((s.extract 0 t.size).toList == t.toList) = R := by
      rw [ByteArray.toList_eq, ByteArray.toList_eq, Lib.extract_data, ← hk, decide_eq_true h]
      simp
    clear hk es et
    go_enter Tryz.func137, Tryz.ntmps137
    go_wp2
    go_ret
    exact ⟨rfl, rfl⟩
  · have hi : ¬ (t.size : Int) ≤ s.size := by omega
    rw [decide_eq_false h] at hk
    simp only [Bool.false_and] at hk
    subst hk
    clear es et
    go_enter Tryz.func137, Tryz.ntmps137
    go_wp2
    go_ret
    exact ⟨rfl, rfl⟩
theorem hp_any (s t : ByteArray) (w : World) : Calls Tryz.prog 118 #[.string s, .string t] w fun e w' => e = .returned (.bool (t.data.toList.isPrefixOf s.data.toList)) ∧ w = w' := by
  have H := Lib.hid (hp_in s t)
  generalize t.data.toList.isPrefixOf s.data.toList = R at *
  go_enter Tryz.func118, Tryz.ntmps118
  go_wp2_with (go_at_call 137; refine (H.out _).mono ?_; rintro e w1 ⟨rfl, rfl⟩)
  go_ret
  exact ⟨rfl, rfl⟩
end Go.Proofs.YtphiaagppcbefaaGreatDoor
namespace Go.Proofs.YtphiaagppcbefaaGreatDoor
open Go.RowKit
def W2 (w : World) (p : Nat → Bool) : World := (w.alloc (.cells (cl p) 32)).alloc (.cells #[.int .u64 0, .int .u64 0, .int .u64 0, .int .u64 0] 32)
end Go.Proofs.YtphiaagppcbefaaGreatDoor
set_option linter.unusedVariables false
namespace Go.Proofs.YtphiaagppcbefaaGreatDoor
open Go.RowKit
theorem At.drew {w : World} {g : Nat} {p : Nat → Bool} (h : At w g p) : At w.drew g p := h
def V4 (w : World) (p q : Nat → Bool) : World := (((w.alloc (.cells (cl p) 32)).alloc (.cells (cl q) 32)).alloc (.cells #[.int .u64 0, .int .u64 0, .int .u64 0, .int .u64 0] 32)).alloc (.cells #[.int .u64 0, .int .u64 0, .int .u64 0, .int .u64 0] 32)
theorem V4_below (w : World) (p q : Nat → Bool) : Below w.heap.size w (V4 w p q) := ((((Below.refl _ _).alloc (Nat.le_refl _) _).alloc (by simp) _).alloc (by simp; omega) _).alloc (by simp; omega) _
theorem V4_at (w : World) (p q : Nat → Bool) : At (V4 w p q) w.heap.size p ∧ At (V4 w p q) (w.heap.size + 1) q ∧ At (V4 w p q) (w.heap.size + 2) (fun _ => false) ∧ At (V4 w p q) (w.heap.size + 3) (fun _ => false) := by
  unfold V4
  rw [cl_zero]
  refine ⟨(((At.new w p).alloc _).alloc _).alloc _, ?_, ?_, ?_⟩
  · have := ((At.new (w.alloc (.cells (cl p) 32)) q).alloc (.cells (cl fun _ => false) 32)).alloc (.cells (cl fun _ => false) 32)
    simpa using this
  · have := (At.new ((w.alloc (.cells (cl p) 32)).alloc (.cells (cl q) 32)) (fun _ => false)).alloc (.cells (cl fun _ => false) 32)
    simpa using this
  · have := At.new (((w.alloc (.cells (cl p) 32)).alloc (.cells (cl q) 32)).alloc (.cells (cl fun _ => false) 32)) (fun _ => false)
    simpa using this
def upw (f : Nat → Bool) (k : Nat) : Nat → Bool := fun c => decide (c < 64 * k) && f c
theorem upw_zero (f : Nat → Bool) : upw f 0 = fun _ => false := by
  funext c
  simp [upw]
theorem upw_next (f : Nat → Bool) (k : Nat) : ∀ c, c < 256 → c / 64 ≠ k → upw f k c = upw f (k + 1) c := by
  intro c _ hc
  unfold upw
  by_cases h : c < 64 * k
  · have h2 : c < 64 * (k + 1) := by omega
    simp [h, h2]
  · have h2 : ¬ c < 64 * (k + 1) := by omega
    simp [h, h2]
theorem upw_word (f : Nat → Bool) (k : Nat) : wd (upw f (k + 1)) (64 * k) 64 = wd f (64 * k) 64 := by
  apply wd_congr
  intro i hi
  have : 64 * k + i < 64 * (k + 1) := by omega
  simp [upw, this]
theorem upw_all (f : Nat → Bool) : ∀ c, c < 256 → upw f 4 c = f c := by
  intro c hc
  have : c < 64 * 4 := by omega
  simp [upw, this]
theorem At.same {w : World} {g : Nat} {p q : Nat → Bool} (h : At w g p) (e : ∀ c, c < 256 → p c = q c) : At w g q := by
  unfold At at *
  rw [h, cl_congr p q e]
theorem or64 (p q : Nat → Bool) (b : Nat) : bits BinOp.or IntKind.u64 ((wd p b 64 : Nat) : Int) ((wd q b 64 : Nat) : Int) = ((wd (fun c => p c || q c) b 64 : Nat) : Int) := by
  rw [bits_or_u64_nat _ _ (wd_lt64 p b) (wd_lt64 q b), wd_or]
theorem and64w (p q : Nat → Bool) (b : Nat) : bits BinOp.and IntKind.u64 ((wd p b 64 : Nat) : Int) ((wd q b 64 : Nat) : Int) = ((wd (fun c => p c && q c) b 64 : Nat) : Int) := by
  rw [bits_and_u64_nat _ _ (wd_lt64 p b) (wd_lt64 q b), wd_and]
theorem union_any (p q : Nat → Bool) (w : World) : Calls Tryz.prog 108 #[cs p, cs q] w fun e w' => e = .returned (cs fun c => p c || q c) ∧ Below w.heap.size w w' := by
  have HV := Lib.hid (V4_at w p q)
  have HB := Lib.hid (V4_below w p q)
  unfold cs cl
  obtain ⟨f, hf⟩ : ∃ f : Nat → Bool, f = fun c => p c || q c := ⟨_, rfl⟩
  have HL : ∀ b, bits BinOp.or IntKind.u64 ((wd p b 64 : Nat) : Int) ((wd q b 64 : Nat) : Int) = ((wd f b 64 : Nat) : Int) := fun b => by rw [hf]; exact or64 p q b
  rw [← hf]
  clear hf
  go_enter Tryz.func108, Tryz.ntmps108
  go_wp2
  go_loopw [7] (fun i wr => ∃ k : Nat, k ≤ 4 ∧ i = .int .i64 k ∧ Hid (Below w.heap.size w wr ∧ At wr w.heap.size p ∧ At wr (w.heap.size + 1) q ∧ At wr (w.heap.size + 2) (fun _ => false) ∧ At wr (w.heap.size + 3) (upw f k))) (fun i _ => 4 - (intOf i).toNat)
  case atStart => exact ⟨0, Nat.zero_le _, rfl, HB.out, HV.out.1, HV.out.2.1, HV.out.2.2.1, by rw [upw_zero]; exact HV.out.2.2.2⟩
  case round =>
    obtain ⟨k, hk, rfl, HR⟩ := hrel
    by_cases hlt : k < 4
    · have hi : (k : Int) < 4 := by omega
      obtain ⟨b0, a1, a2, a3, a4⟩ := HR.out
      have c1 := a1.got k hlt
      have c2 := a2.got k hlt
      have c4 := a4.got k hlt
      have f4 := a4.free
      have HN := Lib.hid (a4.word (upw f (k + 1)) k hlt (upw_next f k) (.int .u64 ((wd f (64 * k) 64 : Nat) : Int)) (by rw [upw_word]))
      clear b0 a1 a2 a3 a4
      go_wp2
      go_region
      go_wp2
      go_roundw
      case rel => exact ⟨k + 1, by omega, by go_num, HR.out.1.drew.setCell (by simp; omega) _, HR.out.2.1.drew.apart _ (by omega), HR.out.2.2.1.drew.apart _ (by omega), HR.out.2.2.2.1.drew.apart _ (by omega), HN.out⟩
      case measure => simp [intOf]; omega
    · obtain rfl : k = 4 := by omega
      obtain ⟨b0, a1, a2, a3, a4⟩ := HR.out
      have a5 := a4.same (upw_all f)
      have HA := Lib.hid a3
      obtain ⟨⟨c0, c1⟩, ⟨c2, c3⟩, hf⟩ := a5.words
      obtain ⟨⟨d0, d1⟩, ⟨d2, d3⟩, hg⟩ := a3.words
      clear b0 a1 a2 a3 a4 a5
      go_wp2
      exact bodyPost_ret (v := cs f) (ret_cs (q := f) Tryz.results108 _ _ (w.heap.size + 2) (by simp) (HA.out.put4 f)) rfl ⟨rfl, below_put4 HR.out.1 _ (by omega) f⟩
theorem inter_any (p q : Nat → Bool) (w : World) : Calls Tryz.prog 134 #[cs p, cs q] w fun e w' => e = .returned (cs fun c => p c && q c) ∧ Below w.heap.size w w' := by
  have HV := Lib.hid (V4_at w p q)
  have HB := Lib.hid (V4_below w p q)
  unfold cs cl
  obtain ⟨f, hf⟩ : ∃ f : Nat → Bool, f = fun c => p c && q c := ⟨_, rfl⟩
  have HL : ∀ b, bits BinOp.and IntKind.u64 ((wd p b 64 : Nat) : Int) ((wd q b 64 : Nat) : Int) = ((wd f b 64 : Nat) : Int) := fun b => by rw [hf]; exact and64w p q b
  rw [← hf]
  clear hf
  go_enter Tryz.func134, Tryz.ntmps134
  go_wp2
  go_loopw [7] (fun i wr => ∃ k : Nat, k ≤ 4 ∧ i = .int .i64 k ∧ Hid (Below w.heap.size w wr ∧ At wr w.heap.size p ∧ At wr (w.heap.size + 1) q ∧ At wr (w.heap.size + 2) (fun _ => false) ∧ At wr (w.heap.size + 3) (upw f k))) (fun i _ => 4 - (intOf i).toNat)
  case atStart => exact ⟨0, Nat.zero_le _, rfl, HB.out, HV.out.1, HV.out.2.1, HV.out.2.2.1, by rw [upw_zero]; exact HV.out.2.2.2⟩
  case round =>
    obtain ⟨k, hk, rfl, HR⟩ := hrel
    by_cases hlt : k < 4
    · have hi : (k : Int) < 4 := by omega
      obtain ⟨b0, a1, a2, a3, a4⟩ := HR.out
      have c1 := a1.got k hlt
      have c2 := a2.got k hlt
      have c4 := a4.got k hlt
      have f4 := a4.free
      have HN := Lib.hid (a4.word (upw f (k + 1)) k hlt (upw_next f k) (.int .u64 ((wd f (64 * k) 64 : Nat) : Int)) (by rw [upw_word]))
      clear b0 a1 a2 a3 a4
      go_wp2
      go_region
      go_wp2
      go_roundw
      case rel => exact ⟨k + 1, by omega, by go_num, HR.out.1.drew.setCell (by simp; omega) _, HR.out.2.1.drew.apart _ (by omega), HR.out.2.2.1.drew.apart _ (by omega), HR.out.2.2.2.1.drew.apart _ (by omega), HN.out⟩
      case measure => simp [intOf]; omega
    · obtain rfl : k = 4 := by omega
      obtain ⟨b0, a1, a2, a3, a4⟩ := HR.out
      have a5 := a4.same (upw_all f)
      have HA := Lib.hid a3
      obtain ⟨⟨c0, c1⟩, ⟨c2, c3⟩, hf⟩ := a5.words
      obtain ⟨⟨d0, d1⟩, ⟨d2, d3⟩, hg⟩ := a3.words
      clear b0 a1 a2 a3 a4 a5
      go_wp2
      exact bodyPost_ret (v := cs f) (ret_cs (q := f) Tryz.results134 _ _ (w.heap.size + 2) (by simp) (HA.out.put4 f)) rfl ⟨rfl, below_put4 HR.out.1 _ (by omega) f⟩
theorem not64 (p : Nat → Bool) (b : Nat) : bits BinOp.xor IntKind.u64 (if IntKind.u64.signed = true then -1 else IntKind.u64.max) ((wd p b 64 : Nat) : Int) = ((wd (fun c => !p c) b 64 : Nat) : Int) := by
  have e : (if IntKind.u64.signed = true then -1 else IntKind.u64.max) = ((18446744073709551615 : Nat) : Int) := by decide
  rw [e, bits_xor_u64_nat _ _ (by decide) (wd_lt64 p b)]
  congr 1
  apply Nat.eq_of_testBit_eq
  intro i
  rw [Nat.testBit_xor, wd_bit, wd_bit, show 18446744073709551615 = 2 ^ 64 - 1 from rfl, Nat.testBit_two_pow_sub_one]
  cases decide (i < 64) <;> simp
def V3 (w : World) (p : Nat → Bool) : World := ((w.alloc (.cells (cl p) 32)).alloc (.cells #[.int .u64 0, .int .u64 0, .int .u64 0, .int .u64 0] 32)).alloc (.cells #[.int .u64 0, .int .u64 0, .int .u64 0, .int .u64 0] 32)
theorem V3_below (w : World) (p : Nat → Bool) : Below w.heap.size w (V3 w p) := (((Below.refl _ _).alloc (Nat.le_refl _) _).alloc (by simp) _).alloc (by simp; omega) _
theorem V3_at (w : World) (p : Nat → Bool) : At (V3 w p) w.heap.size p ∧ At (V3 w p) (w.heap.size + 1) (fun _ => false) ∧ At (V3 w p) (w.heap.size + 2) (fun _ => false) := by
  unfold V3
  rw [cl_zero]
  refine ⟨((At.new w p).alloc _).alloc _, ?_, ?_⟩
  · have := (At.new (w.alloc (.cells (cl p) 32)) (fun _ => false)).alloc (.cells (cl fun _ => false) 32)
    simpa using this
  · have := At.new ((w.alloc (.cells (cl p) 32)).alloc (.cells (cl fun _ => false) 32)) (fun _ => false)
    simpa using this
theorem compl_any (p : Nat → Bool) (w : World) : Calls Tryz.prog 71 #[cs p] w fun e w' => e = .returned (cs fun c => !p c) ∧ Below w.heap.size w w' := by
  have HV := Lib.hid (V3_at w p)
  have HB := Lib.hid (V3_below w p)
  unfold cs cl
  obtain ⟨f, hf⟩ : ∃ f : Nat → Bool, f = fun c => !p c := ⟨_, rfl⟩
  have HL : ∀ b, bits BinOp.xor IntKind.u64 (if IntKind.u64.signed = true then -1 else IntKind.u64.max) ((wd p b 64 : Nat) : Int) = ((wd f b 64 : Nat) : Int) := fun b => by rw [hf]; exact not64 p b
  rw [← hf]
  clear hf
  go_enter Tryz.func71, Tryz.ntmps71
  go_wp2
  go_loopw [5] (fun i wr => ∃ k : Nat, k ≤ 4 ∧ i = .int .i64 k ∧ Hid (Below w.heap.size w wr ∧ At wr w.heap.size p ∧ At wr (w.heap.size + 1) (fun _ => false) ∧ At wr (w.heap.size + 2) (upw f k))) (fun i _ => 4 - (intOf i).toNat)
  case atStart => exact ⟨0, Nat.zero_le _, rfl, HB.out, HV.out.1, HV.out.2.1, by rw [upw_zero]; exact HV.out.2.2⟩
  case round =>
    obtain ⟨k, hk, rfl, HR⟩ := hrel
    by_cases hlt : k < 4
    · have hi : (k : Int) < 4 := by omega
      obtain ⟨b0, a1, a3, a4⟩ := HR.out
      have c1 := a1.got k hlt
      have c4 := a4.got k hlt
      have f4 := a4.free
      have HN := Lib.hid (a4.word (upw f (k + 1)) k hlt (upw_next f k) (.int .u64 ((wd f (64 * k) 64 : Nat) : Int)) (by rw [upw_word]))
      clear b0 a1 a3 a4
      go_wp2
      go_roundw
      case rel => exact ⟨k + 1, by omega, by go_num, HR.out.1.setCell (by simp; omega) _, HR.out.2.1.apart _ (by omega), HR.out.2.2.1.apart _ (by omega), HN.out⟩
      case measure => simp [intOf]; omega
    · obtain rfl : k = 4 := by omega
      obtain ⟨b0, a1, a3, a4⟩ := HR.out
      have a5 := a4.same (upw_all f)
      have HA := Lib.hid a3
      obtain ⟨⟨c0, c1⟩, ⟨c2, c3⟩, hf⟩ := a5.words
      obtain ⟨⟨d0, d1⟩, ⟨d2, d3⟩, hg⟩ := a3.words
      clear b0 a1 a3 a4 a5
      go_wp2
      exact bodyPost_ret (v := cs f) (ret_cs (q := f) Tryz.results71 _ _ (w.heap.size + 1) (by simp) (HA.out.put4 f)) rfl ⟨rfl, below_put4 HR.out.1 _ (by omega) f⟩
def U3 (w : World) (p q : Nat → Bool) : World := ((w.alloc (.cells (cl p) 32)).alloc (.cells (cl q) 32)).alloc (.cells #[.int .u64 0, .int .u64 0, .int .u64 0, .int .u64 0] 32)
theorem U3_below (w : World) (p q : Nat → Bool) : Below w.heap.size w (U3 w p q) := (((Below.refl _ _).alloc (Nat.le_refl _) _).alloc (by simp) _).alloc (by simp; omega) _
theorem U3_at (w : World) (p q : Nat → Bool) : At (U3 w p q) w.heap.size p ∧ At (U3 w p q) (w.heap.size + 1) q ∧ At (U3 w p q) (w.heap.size + 2) (fun _ => false) := by
  unfold U3
  rw [cl_zero]
  refine ⟨((At.new w p).alloc _).alloc _, ?_, ?_⟩
  · have := (At.new (w.alloc (.cells (cl p) 32)) q).alloc (.cells (cl fun _ => false) 32)
    simpa using this
  · have := At.new ((w.alloc (.cells (cl p) 32)).alloc (.cells (cl q) 32)) (fun _ => false)
    simpa using this
theorem keep_words {w w' : World} (hb : Below w.heap.size w w') {a : Addr} {v : Value} (h : w.cell? a = some v) : w'.cell? a = some v := by
  rw [hb.cell (World.block_lt_of_cell? w _ h), h]
abbrev Wds (w : World) (g : Nat) (p : Nat → Bool) : Prop :=
  (w.cell? ⟨g, 0, none⟩ = some (.int .u64 ((wd p 0 64 : Nat) : Int)) ∧ w.cell? ⟨g, 1, none⟩ = some (.int .u64 ((wd p 64 64 : Nat) : Int))) ∧
    (w.cell? ⟨g, 2, none⟩ = some (.int .u64 ((wd p 128 64 : Nat) : Int)) ∧ w.cell? ⟨g, 3, none⟩ = some (.int .u64 ((wd p 192 64 : Nat) : Int)))
theorem Wds.of {w : World} {g : Nat} {p : Nat → Bool} (h : At w g p) : Wds w g p := ⟨h.words.1, h.words.2.1⟩
theorem Wds.keep {w w' : World} {g : Nat} {p : Nat → Bool} (h : Wds w g p) (hb : Below w.heap.size w w') : Wds w' g p :=
  ⟨⟨keep_words hb h.1.1, keep_words hb h.1.2⟩, ⟨keep_words hb h.2.1, keep_words hb h.2.2⟩⟩
def AtAny (w : World) (g : Nat) : Prop := ∃ r, At w g r
theorem AtAny.free {w : World} {g : Nat} (h : AtAny w g) (j : Nat) : w.frozen? ⟨g, j, none⟩ = false := by
  obtain ⟨r, h⟩ := h
  exact h.free j
theorem AtAny.below {w w' : World} {g : Nat} (h : AtAny w g) (hb : Below w.heap.size w w') : AtAny w' g := by
  obtain ⟨r, h⟩ := h
  exact ⟨r, h.below hb h.lt⟩
theorem AtAny.put {w : World} {g : Nat} (h : AtAny w g) (f : Nat → Bool) : At (put4 w g f) g f := by
  obtain ⟨r, h⟩ := h
  exact h.put4 f
def cv (w : World) (g j : Nat) : Value := (w.cell? ⟨g, j, none⟩).getD undef
abbrev Wany (w : World) (g : Nat) : Prop :=
  (w.cell? ⟨g, 0, none⟩ = some (cv w g 0) ∧ w.cell? ⟨g, 1, none⟩ = some (cv w g 1)) ∧ (w.cell? ⟨g, 2, none⟩ = some (cv w g 2) ∧ w.cell? ⟨g, 3, none⟩ = some (cv w g 3))
theorem AtAny.cells {w : World} {g : Nat} (h : AtAny w g) : Wany w g := by
  obtain ⟨r, h⟩ := h
  unfold Wany cv
  rw [h.got 0 (by decide), h.got 1 (by decide), h.got 2 (by decide), h.got 3 (by decide)]
  exact ⟨⟨rfl, rfl⟩, ⟨rfl, rfl⟩⟩
abbrev S2 (w0 : World) (p q : Nat → Bool) (w : World) : Prop :=
  Wds w w0.heap.size p ∧ Wds w (w0.heap.size + 1) q ∧ Wany w (w0.heap.size + 2) ∧ (∀ j, w.frozen? ⟨w0.heap.size + 2, j, none⟩ = false) ∧ Below w0.heap.size w0 w ∧ AtAny w (w0.heap.size + 2)
theorem S2.start (w0 : World) (p q : Nat → Bool) : S2 w0 p q (U3 w0 p q).drew :=
  have h := U3_at w0 p q
  ⟨Wds.of h.1.drew, Wds.of h.2.1.drew, AtAny.cells ⟨_, h.2.2.drew⟩, h.2.2.drew.free, (U3_below w0 p q).drew, ⟨_, h.2.2.drew⟩⟩
theorem S2.keep {w0 w w' : World} {p q : Nat → Bool} (hb : Below w.heap.size w w') (h : S2 w0 p q w) : S2 w0 p q w' :=
  have a := h.2.2.2.2.2.below hb
  ⟨h.1.keep hb, h.2.1.keep hb, a.cells, a.free, h.2.2.2.2.1.trans (hb.mono h.2.2.2.2.1.size), a⟩
theorem cell_put4 {w : World} {g k : Nat} (hk : g ≠ k) (f : Nat → Bool) (j : Nat) : (put4 w k f).cell? ⟨g, j, none⟩ = w.cell? ⟨g, j, none⟩ := by
  apply World.cell?_of_block
  show (put4 w k f).heap[g]? = w.heap[g]?
  unfold put4
  rw [Below.heap_setCell _ _ _ _ hk, Below.heap_setCell _ _ _ _ hk, Below.heap_setCell _ _ _ _ hk, Below.heap_setCell _ _ _ _ hk]
theorem Wds.put {w : World} {g k : Nat} {p : Nat → Bool} (h : Wds w g p) (hk : g ≠ k) (f : Nat → Bool) : Wds (put4 w k f) g p :=
  ⟨⟨(cell_put4 hk f 0).trans h.1.1, (cell_put4 hk f 1).trans h.1.2⟩, ⟨(cell_put4 hk f 2).trans h.2.1, (cell_put4 hk f 3).trans h.2.2⟩⟩
theorem S2.put {w0 w : World} {p q : Nat → Bool} (h : S2 w0 p q w) (f : Nat → Bool) : S2 w0 p q (put4 w (w0.heap.size + 2) f) :=
  have a := h.2.2.2.2.2.put f
  ⟨h.1.put (by omega) f, h.2.1.put (by omega) f, AtAny.cells ⟨_, a⟩, a.free, below_put4 h.2.2.2.2.1 _ (by omega) f, ⟨_, a⟩⟩
theorem unset {w : World} {g j : Nat} {v : Value} {c : Array Value} {t : TypeId} (h : (w.setCell ⟨g, j, none⟩ v).heap[g]? = some (.cells c t (0, 0))) : ∃ c0, w.heap[g]? = some (.cells c0 t (0, 0)) ∧ c0.size = c.size := by
  simp only [World.setCell, Array.getElem?_modify] at h
  cases hw : w.heap[g]? with
  | none => simp [hw] at h
  | some o =>
    rw [hw] at h
    cases o with
    | cells c0 t0 fr0 =>
      simp at h
      obtain ⟨rfl, rfl, rfl⟩ := h
      exact ⟨c0, rfl, by simp⟩
    | _ => simp at h
theorem list4 {α : Type} (l : List α) (h : l.length = 4) : ∃ a b c d, l = [a, b, c, d] := by
  match l, h with
  | [a, b, c, d], _ => exact ⟨a, b, c, d, rfl⟩
theorem set4_all (c0 : Array Value) (h : c0.size = 4) (a b c d : Value) : (((c0.setIfInBounds 0 a).setIfInBounds 1 b).setIfInBounds 2 c).setIfInBounds 3 d = #[a, b, c, d] := by
  obtain ⟨l⟩ := c0
  obtain ⟨x, y, z, u, rfl⟩ := list4 l h
  simp
theorem AtAny.done {w : World} {g : Nat} {f : Nat → Bool} (h : AtAny (put4 w g f) g) : At (put4 w g f) g f := by
  obtain ⟨r, h⟩ := h
  unfold At put4 at *
  obtain ⟨c3, h3, s3⟩ := unset h
  obtain ⟨c2, h2, s2⟩ := unset h3
  obtain ⟨c1, h1, s1⟩ := unset h2
  obtain ⟨c0, h0, s0⟩ := unset h1
  have s : c0.size = 4 := by rw [s0, s1, s2, s3, cl_size]
  have k1 := heap_setCell_same w g 0 _ _ (.int .u64 ((wd f 0 64 : Nat) : Int)) h0
  have k2 := heap_setCell_same _ g 1 _ _ (.int .u64 ((wd f 64 64 : Nat) : Int)) k1
  have k3 := heap_setCell_same _ g 2 _ _ (.int .u64 ((wd f 128 64 : Nat) : Int)) k2
  have k4 := heap_setCell_same _ g 3 _ _ (.int .u64 ((wd f 192 64 : Nat) : Int)) k3
  rw [set4_all c0 s] at k4
  exact k4
set_option maxHeartbeats 2000000 in
theorem minus_any (p q : Nat → Bool) (w : World) : Calls Tryz.prog 111 #[cs p, cs q] w fun e w' => e = .returned (cs fun c => p c && !q c) ∧ Below w.heap.size w w' := by
  have HS := Lib.hid (S2.start w p q)
  have Hc := Lib.hid (compl_any q)
  have Hi := Lib.hid (inter_any p fun c => !q c)
  unfold cs cl at *
  go_enter Tryz.func111, Tryz.ntmps111
  go_wp2
  generalize hW : ((w.alloc (.cells _ 32)).alloc (.cells _ 32)).alloc (.cells _ 32) = W
  have hU : U3 w p q = W := hW
  rw [hU] at HS
  clear hU hW
  go_region_held3 (fun w' => S2 w p q w')
    (first | exact HS.out | exact S2.keep hb ‹_› | exact S2.put ‹_› (fun c => p c && !q c))
    (first
      | (go_at_call 71; refine (Hc.out _).mono ?_; rintro e w1 ⟨rfl, hb⟩)
      | (go_at_call 134; refine (Hi.out _).mono ?_; rintro e w1 ⟨rfl, hb⟩))
  rename_i hS
  obtain ⟨_, _, _, _, hB, hA⟩ := hS
  have HD := Lib.hid (And.intro hB (AtAny.done (f := fun c => p c && !q c) hA))
  clear hB hA
  go_wp2
  exact bodyPost_ret (v := cs fun c => p c && !q c) (ret_cs (q := fun c => p c && !q c) Tryz.results111 _ _ (w.heap.size + 2) (by simp) HD.out.2) rfl ⟨rfl, HD.out.1⟩
end Go.Proofs.YtphiaagppcbefaaGreatDoor
