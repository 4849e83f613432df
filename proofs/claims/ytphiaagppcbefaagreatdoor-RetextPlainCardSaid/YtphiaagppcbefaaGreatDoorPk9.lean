/- CsOf, CsRef, CsRefB, LpStep, LpOrd, LpSplit. -/
import Derived.Test.YtphiaagppcbefaaGreatDoorRows
import Derived.Test.YtphiaagppcbefaaGreatDoorPk8
import Derived.StillTailTactics
import Derived.Deep.RegionWith
import Derived.Lib.IndexBytes
set_option linter.unusedVariables false
namespace Go.Proofs.YtphiaagppcbefaaGreatDoor
open Go.RowKit
def setOf (l : List UInt8) : Nat → Bool := fun c => l.any fun b => c == b.toNat
theorem setOf_next (l : List UInt8) (k : Nat) (h : k < l.length) : setOf (l.take (k + 1)) = ins (setOf (l.take k)) (l[k]).toNat := by
  funext c
  unfold setOf ins
  rw [List.take_add_one, List.getElem?_eq_getElem h, List.any_append]
  simp
def rng (lo n : Nat) : Nat → Bool := fun c => decide (lo ≤ c) && decide (c < n)
theorem rng_empty (lo : Nat) : rng lo lo = fun _ => false := by
  funext c
  unfold rng
  by_cases h : lo ≤ c
  · have : ¬ c < lo := by omega
    simp [this]
  · simp [h]
theorem rng_next (lo n : Nat) (h : lo ≤ n) : rng lo (n + 1) = ins (rng lo n) n := by
  funext c
  unfold rng ins
  by_cases h1 : c = n
  · subst h1
    simp [h]
  · by_cases h2 : c < n
    · have : c < n + 1 := by omega
      simp [h1, h2, this]
    · have : ¬ c < n + 1 := by omega
      simp [h1, h2, this]
def between (lo hi : Nat) : Nat → Bool := fun c => decide (lo ≤ c) && decide (c ≤ hi)
theorem rng_done (lo hi n : Nat) (h1 : hi < n) (h2 : n ≤ hi + 1 ∨ n = lo) : rng lo n = between lo hi := by
  funext c
  unfold rng between
  by_cases a : lo ≤ c
  · rcases h2 with h2 | h2
    · have e : (c < n) = (c ≤ hi) := by simp; omega
      simp [e]
    · have e : ¬ c < n := by omega
      have e2 : ¬ c ≤ hi := by omega
      simp [e, e2]
  · simp [a]
def V2 (w : World) : World := (w.alloc (.cells #[.int .u64 0, .int .u64 0, .int .u64 0, .int .u64 0] 32)).alloc (.cells #[.int .u64 0, .int .u64 0, .int .u64 0, .int .u64 0] 32)
theorem V2_below (w : World) : Below w.heap.size w (V2 w) := ((Below.refl _ _).alloc (Nat.le_refl _) _).alloc (by simp) _
theorem V2_at (w : World) : At (V2 w) w.heap.size (fun _ => false) ∧ At (V2 w) (w.heap.size + 1) (fun _ => false) := by
  unfold V2
  rw [cl_zero]
  refine ⟨(At.new w _).alloc _, ?_⟩
  have := At.new (w.alloc (.cells (cl fun _ => false) 32)) (fun _ => false)
  simpa using this
theorem or_ins (p : Nat → Bool) (c j : Nat) (h : c / 64 = j) : bits BinOp.or IntKind.u64 ((wd p (64 * j) 64 : Nat) : Int) ((2 : Int) ^ (c % 64)) = ((wd (ins p c) (64 * j) 64 : Nat) : Int) := by
  subst h
  rw [show ((2 : Int) ^ (c % 64)) = ((2 ^ (c % 64) : Nat) : Int) by simp, bits_or_u64_nat _ _ (wd_lt64 _ _) (pow_lt64 c), wd_ins_or]
set_option maxHeartbeats 4000000 in
theorem of_any (s : ByteArray) (hs : s.size ≤ 300) (w : World) : Calls Tryz.prog 112 #[.string s] w fun e w' => e = .returned (cs (setOf s.data.toList)) ∧ Below w.heap.size w w' := by
  have HV := Lib.hid (V2_at w)
  have HB := Lib.hid (V2_below w)
  unfold cs cl
  have hS : (s.size : Int) ≤ 300 := by omega
  go_enter Tryz.func112, Tryz.ntmps112
  go_wp2
  go_loopw [7] (fun i wr => ∃ k : Nat, k ≤ s.size ∧ i = .int .i64 k ∧ Hid (Below w.heap.size w wr ∧ At wr w.heap.size (fun _ => false) ∧ At wr (w.heap.size + 1) (setOf (s.data.toList.take k)))) (fun i _ => s.size - (intOf i).toNat)
  case atStart => exact ⟨0, Nat.zero_le _, rfl, HB.out, HV.out.1, HV.out.2⟩
  case round =>
    obtain ⟨k, hk, rfl, HR⟩ := hrel
    by_cases hlt : k < s.size
    · have hi : (k : Int) < s.size := by omega
      obtain ⟨c, hsc⟩ : ∃ c, s[k].toNat = c := ⟨_, rfl⟩
      have hc : c < 256 := by rw [← hsc]; exact s[k].toNat_lt
      have HN0 := Lib.hid (setOf_next s.data.toList k (by simpa using hlt))
      have e : (s.data.toList[k]'(by simpa using hlt)).toNat = c := hsc
      rw [e] at HN0
      obtain ⟨j, hj⟩ : ∃ j, c / 64 = j := ⟨_, rfl⟩
      have hj4 : j < 4 := by omega
      have hq : (c : Int) / 64 = (j : Int) := by omega
      have hz : IntKind.u8.wrap (j : Int) = (j : Int) := IntWalk.u8_in _ (by omega)
      have hj0 : (j : Int) < 4 := by omega
      obtain ⟨b0, a3, a4⟩ := HR.out
      have c4 := a4.got j hj4
      have f4 := a4.free
      have hk2 := or_ins (setOf (s.data.toList.take k)) c j hj
      have HN := Lib.hid (a4.word (setOf (s.data.toList.take (k + 1))) j hj4 (by rw [HN0.out, ← hj]; exact ins_other _ c) (.int .u64 ((wd (ins (setOf (s.data.toList.take k)) c) (64 * j) 64 : Nat) : Int)) (by rw [HN0.out]))
      clear b0 a3 a4 e
      have hb := Lib.hid (bit_any c hc)
      go_wp2
      go_region_with ((go_at_call 115; refine (hb.out _).mono ?_; rintro e w1 ⟨rfl, rfl⟩))
      all_goals
        go_wp2
        go_roundw
        case rel => exact ⟨k + 1, by omega, by go_num, (HR.out.1.setCell (by simp) _).drew, (HR.out.2.1.apart _ (by omega)).drew, HN.out.drew⟩
        case measure => simp [intOf]; omega
    · obtain rfl : k = s.size := by omega
      obtain ⟨b0, a3, a4⟩ := HR.out
      rw [List.take_of_length_le (by simp)] at a4
      have HA := Lib.hid a3
      obtain ⟨⟨c0, c1⟩, ⟨c2, c3⟩, hf⟩ := a4.words
      obtain ⟨⟨d0, d1⟩, ⟨d2, d3⟩, hg⟩ := a3.words
      clear b0 a3 a4
      go_wp2
      exact bodyPost_ret (v := cs (setOf s.data.toList)) (ret_cs (q := setOf s.data.toList) Tryz.results112 _ _ w.heap.size (by simp) (HA.out.put4 _)) rfl ⟨rfl, below_put4 HR.out.1 _ (by omega) _⟩
set_option maxHeartbeats 4000000 in
theorem range_any (lo hi : Nat) (hl : lo < 256) (hh : hi < 256) (w : World) : Calls Tryz.prog 88 #[.int .u8 lo, .int .u8 hi] w fun e w' => e = .returned (cs (between lo hi)) ∧ Below w.heap.size w w' := by
  have HV := Lib.hid (V2_at w)
  have HB := Lib.hid (V2_below w)
  unfold cs cl
  go_enter Tryz.func88, Tryz.ntmps88
  go_wp2
  go_loopw [6] (fun i wr => ∃ n : Nat, lo ≤ n ∧ (n ≤ hi + 1 ∨ n = lo) ∧ i = .int .i64 n ∧ Hid (Below w.heap.size w wr ∧ At wr w.heap.size (fun _ => false) ∧ At wr (w.heap.size + 1) (rng lo n))) (fun i _ => 256 - (intOf i).toNat)
  case atStart => exact ⟨lo, Nat.le_refl _, Or.inr rfl, by go_num, HB.out, HV.out.1, by rw [rng_empty]; exact HV.out.2⟩
  case round =>
    obtain ⟨n, hn, hd, rfl, HR⟩ := hrel
    by_cases hlt : n ≤ hi
    · have hi1 : (n : Int) ≤ hi := by omega
      have hc : n < 256 := by omega
      have hw : IntKind.u8.wrap (n : Int) = (n : Int) := IntWalk.u8_in _ (by omega)
      obtain ⟨j, hj⟩ : ∃ j, n / 64 = j := ⟨_, rfl⟩
      have hj4 : j < 4 := by omega
      have hq : (n : Int) / 64 = (j : Int) := by omega
      have hq2 : (n : Int).tdiv 64 = (j : Int) := by rw [Int.tdiv_eq_ediv_of_nonneg (by omega)]; exact hq
      have hq3 : IntKind.i64.wrap (j : Int) = (j : Int) := IntWalk.i64_in _ (by omega)
      have hj00 : (0 : Int) ≤ (j : Int) := by omega
      have hj0 : (j : Int) < 4 := by omega
      obtain ⟨b0, a3, a4⟩ := HR.out
      have c4 := a4.got j hj4
      have f4 := a4.free
      have hk2 := or_ins (rng lo n) n j hj
      have HN := Lib.hid (a4.word (rng lo (n + 1)) j hj4 (by rw [rng_next lo n hn, ← hj]; exact ins_other _ n) (.int .u64 ((wd (ins (rng lo n) n) (64 * j) 64 : Nat) : Int)) (by rw [rng_next lo n hn]))
      clear b0 a3 a4
      have hb := Lib.hid (bit_any n hc)
      have HD := Lib.hid hd
      clear hd
      go_wp2
      go_region_with ((go_at_call 115; refine (hb.out _).mono ?_; rintro e w1 ⟨rfl, rfl⟩))
      all_goals
        go_wp2
        go_roundw
        case rel => exact ⟨n + 1, by omega, Or.inl (by omega), by go_num, (HR.out.1.setCell (by simp) _).drew, (HR.out.2.1.apart _ (by omega)).drew, HN.out.drew⟩
        case measure => simp [intOf]; omega
    · have hi1 : ¬ (n : Int) ≤ hi := by omega
      have HD := Lib.hid hd
      obtain ⟨b0, a3, a4⟩ := HR.out
      rw [rng_done lo hi n (by omega) hd] at a4
      have HA := Lib.hid a3
      obtain ⟨⟨c0, c1⟩, ⟨c2, c3⟩, hf⟩ := a4.words
      obtain ⟨⟨d0, d1⟩, ⟨d2, d3⟩, hg⟩ := a3.words
      clear b0 a3 a4 hd
      go_wp2
      exact bodyPost_ret (v := cs (between lo hi)) (ret_cs (q := between lo hi) Tryz.results88 _ _ w.heap.size (by simp) (HA.out.put4 _)) rfl ⟨rfl, below_put4 HR.out.1 _ (by omega) _⟩
end Go.Proofs.YtphiaagppcbefaaGreatDoor
set_option linter.unusedVariables false
namespace Go.Proofs.YtphiaagppcbefaaGreatDoor
open Go.RowKit
def upb (f : Nat → Bool) (n : Nat) : Nat → Bool := fun c => decide (c < n) && f c
theorem upb_zero (f : Nat → Bool) : upb f 0 = fun _ => false := by
  funext c
  simp [upb]
theorem upb_one (f : Nat → Bool) (n : Nat) (h : f n = true) : upb f (n + 1) = ins (upb f n) n := by
  funext c
  unfold upb ins
  by_cases h1 : c = n
  · subst h1
    simp [h]
  · by_cases h2 : c < n
    · have : c < n + 1 := by omega
      simp [h1, h2, this]
    · have : ¬ c < n + 1 := by omega
      simp [h1, h2, this]
theorem upb_no (f : Nat → Bool) (n : Nat) (h : f n = false) : upb f (n + 1) = upb f n := by
  funext c
  unfold upb
  by_cases h1 : c = n
  · subst h1
    simp [h]
  · have e : (c < n + 1) = (c < n) := by simp; omega
    simp [e]
theorem upb_all (f : Nat → Bool) : ∀ c, c < 256 → upb f 256 c = f c := by
  intro c hc
  simp [upb, hc]
set_option maxHeartbeats 4000000 in
theorem rof_any (s : ByteArray) (hs : s.size ≤ 300) (w : World) : Calls Tryz.prog 19 #[.string s] w fun e w' => e = .returned (cs (setOf s.data.toList)) ∧ Below w.heap.size w w' := by
  have HV := Lib.hid (V2_at w)
  have HB := Lib.hid (V2_below w)
  unfold cs cl
  have hS : (s.size : Int) ≤ 300 := by omega
  go_enter Tryz.func19, Tryz.ntmps19
  go_wp2
  go_loopw [4] (fun i wr => ∃ k : Nat, k ≤ s.size ∧ i = .int .i64 k ∧ Hid (Below w.heap.size w wr ∧ At wr w.heap.size (fun _ => false) ∧ At wr (w.heap.size + 1) (setOf (s.data.toList.take k)))) (fun i _ => s.size - (intOf i).toNat)
  case atStart => exact ⟨0, Nat.zero_le _, rfl, HB.out, HV.out.1, HV.out.2⟩
  case round =>
    obtain ⟨k, hk, rfl, HR⟩ := hrel
    by_cases hlt : k < s.size
    · have hi : (k : Int) < s.size := by omega
      obtain ⟨c, hsc⟩ : ∃ c, s[k].toNat = c := ⟨_, rfl⟩
      have hc : c < 256 := by rw [← hsc]; exact s[k].toNat_lt
      have HN0 := setOf_next s.data.toList k (by simpa using hlt)
      have e : (s.data.toList[k]'(by simpa using hlt)).toNat = c := hsc
      rw [e] at HN0
      have Hw := Lib.hid (with_any (setOf (s.data.toList.take k)) c hc)
      rw [← HN0] at Hw
      clear HN0 e
      unfold cs cl at Hw
      obtain ⟨b0, a3, a4⟩ := HR.out
      obtain ⟨⟨c0, c1⟩, ⟨c2, c3⟩, hf⟩ := a4.words
      clear b0 a3 a4
      go_wp2
      go_region_with ((go_at_call 34; refine (Hw.out _).mono ?_; rintro e w1 ⟨rfl, hb⟩; have a4 := HR.out.2.2.drew.below hb HR.out.2.2.lt; obtain ⟨⟨d0, d1⟩, ⟨d2, d3⟩, hg⟩ := a4.words; have HY := Lib.hid (And.intro (HR.out.1.drew.trans (hb.mono HR.out.1.size)) (And.intro (HR.out.2.1.drew.below hb HR.out.2.1.lt) a4)); clear a4 hb))
      all_goals
        go_wp2
        go_roundw
        case rel => exact ⟨k + 1, by omega, by go_num, below_put4 HY.out.1 _ (by simp) _, HY.out.2.1.put4_other (by omega) _, HY.out.2.2.put4 _⟩
        case measure => simp [intOf]; omega
    · obtain rfl : k = s.size := by omega
      obtain ⟨b0, a3, a4⟩ := HR.out
      rw [List.take_of_length_le (by simp)] at a4
      have HA := Lib.hid a3
      obtain ⟨⟨c0, c1⟩, ⟨c2, c3⟩, hf⟩ := a4.words
      obtain ⟨⟨d0, d1⟩, ⟨d2, d3⟩, hg⟩ := a3.words
      clear b0 a3 a4
      go_wp2
      exact bodyPost_ret (v := cs (setOf s.data.toList)) (ret_cs (q := setOf s.data.toList) Tryz.results19 _ _ w.heap.size (by simp) (HA.out.put4 _)) rfl ⟨rfl, below_put4 HR.out.1 _ (by omega) _⟩
abbrev S4 (w0 : World) (p q r : Nat → Bool) (w : World) : Prop :=
  Wds w w0.heap.size p ∧ Wds w (w0.heap.size + 1) q ∧ (Below w0.heap.size w0 w ∧ At w w0.heap.size p ∧ At w (w0.heap.size + 1) q ∧ At w (w0.heap.size + 2) (fun _ => false) ∧ At w (w0.heap.size + 3) r)
theorem S4.of {w0 w : World} {p q r : Nat → Bool} (h : Below w0.heap.size w0 w ∧ At w w0.heap.size p ∧ At w (w0.heap.size + 1) q ∧ At w (w0.heap.size + 2) (fun _ => false) ∧ At w (w0.heap.size + 3) r) : S4 w0 p q r w.drew :=
  ⟨Wds.of h.2.1.drew, Wds.of h.2.2.1.drew, h.1.drew, h.2⟩
theorem S4.keep {w0 w w' : World} {p q r : Nat → Bool} (hb : Below w.heap.size w w') (h : S4 w0 p q r w) : S4 w0 p q r w' :=
  have a := h.2.2
  ⟨h.1.keep hb, h.2.1.keep hb, a.1.trans (hb.mono a.1.size), a.2.1.below hb a.2.1.lt, a.2.2.1.below hb a.2.2.1.lt, a.2.2.2.1.below hb a.2.2.2.1.lt, a.2.2.2.2.below hb a.2.2.2.2.lt⟩
set_option maxHeartbeats 4000000 in
theorem ror_any (p q : Nat → Bool) (w : World) : Calls Tryz.prog 35 #[.int .i64 1, cs p, cs q] w fun e w' => e = .returned (cs fun c => p c || q c) ∧ Below w.heap.size w w' := by
  have HV := Lib.hid (V4_at w p q)
  have HB := Lib.hid (V4_below w p q)
  unfold cs cl
  obtain ⟨f, hf⟩ : ∃ f : Nat → Bool, f = fun c => p c || q c := ⟨_, rfl⟩
  have HF : Hid (∀ n, f n = (p n || q n)) := fun n => by rw [hf]
  rw [← hf]
  clear hf
  go_enter Tryz.func35, Tryz.ntmps35
  go_wp2
  go_loopw [8] (fun i wr => ∃ n : Nat, n ≤ 256 ∧ i = .int .i64 n ∧ Hid (Below w.heap.size w wr ∧ At wr w.heap.size p ∧ At wr (w.heap.size + 1) q ∧ At wr (w.heap.size + 2) (fun _ => false) ∧ At wr (w.heap.size + 3) (upb f n))) (fun i _ => 256 - (intOf i).toNat)
  case atStart => exact ⟨0, Nat.zero_le _, rfl, HB.out, HV.out.1, HV.out.2.1, HV.out.2.2.1, by rw [upb_zero]; exact HV.out.2.2.2⟩
  case round =>
    obtain ⟨n, hn, rfl, HR⟩ := hrel
    by_cases hlt : n < 256
    · have hi : (n : Int) < 256 := by omega
      have hw : IntKind.u8.wrap (n : Int) = (n : Int) := IntWalk.u8_in _ (by omega)
      have H1 := Lib.hid (rhas_any p n hlt)
      have H2 := Lib.hid (rhas_any q n hlt)
      have HS := Lib.hid (S4.of HR.out)
      unfold cs cl at H1 H2
      have hcases : (p n = true ∧ q n = true) ∨ (p n = true ∧ q n = false) ∨ (p n = false ∧ q n = true) ∨ (p n = false ∧ q n = false) := by
        cases p n <;> cases q n <;> simp
      rcases hcases with ⟨hp, hq⟩ | ⟨hp, hq⟩ | ⟨hp, hq⟩ | ⟨hp, hq⟩
      · have HE : Hid (upb f (n + 1) = ins (upb f n) n) := Lib.hid (upb_one f n (by rw [HF.out n, hp, hq]; rfl))
        have Hw := Lib.hid (with_any (upb f n) n hlt)
        rw [← HE.out] at Hw
        unfold cs cl at Hw
        go_wp2
        go_region_held3 (fun w' => S4 w p q (upb f n) w')
          (first | exact HS.out | exact S4.keep hb ‹_›)
          (first
            | (go_at_call 58; with_reducible refine (H1.out _).mono ?_; rintro e w1 ⟨rfl, hb⟩)
            | (go_at_call 58; with_reducible refine (H2.out _).mono ?_; rintro e w1 ⟨rfl, hb⟩))
        rename_i hS
        obtain ⟨_, _, hX⟩ := hS
        have HX := Lib.hid hX
        obtain ⟨⟨o0, o1⟩, ⟨o2, o3⟩, ho⟩ := HX.out.2.2.2.2.words
        clear hX
        go_wp2_with (first
          | (go_at_call 34
             refine (Hw.out _).mono ?_
             rintro e w2 ⟨rfl, hb2⟩
             have a4 := HX.out.2.2.2.2.below hb2 HX.out.2.2.2.2.lt
             obtain ⟨⟨d0, d1⟩, ⟨d2, d3⟩, hg⟩ := a4.words
             have HY := Lib.hid (And.intro (HX.out.1.trans (hb2.mono HX.out.1.size)) (And.intro (HX.out.2.1.below hb2 HX.out.2.1.lt) (And.intro (HX.out.2.2.1.below hb2 HX.out.2.2.1.lt) (And.intro (HX.out.2.2.2.1.below hb2 HX.out.2.2.2.1.lt) a4))))
             clear a4 hb2))
        go_roundw
        case rel => exact ⟨n + 1, by omega, by go_num, below_put4 HY.out.1 _ (by omega) _, HY.out.2.1.put4_other (by omega) _, HY.out.2.2.1.put4_other (by omega) _, HY.out.2.2.2.1.put4_other (by omega) _, HY.out.2.2.2.2.put4 _⟩
        case measure => simp [intOf]; omega
      · have HE : Hid (upb f (n + 1) = ins (upb f n) n) := Lib.hid (upb_one f n (by rw [HF.out n, hp, hq]; rfl))
        have Hw := Lib.hid (with_any (upb f n) n hlt)
        rw [← HE.out] at Hw
        unfold cs cl at Hw
        go_wp2
        go_region_held3 (fun w' => S4 w p q (upb f n) w')
          (first | exact HS.out | exact S4.keep hb ‹_›)
          (first
            | (go_at_call 58; with_reducible refine (H1.out _).mono ?_; rintro e w1 ⟨rfl, hb⟩)
            | (go_at_call 58; with_reducible refine (H2.out _).mono ?_; rintro e w1 ⟨rfl, hb⟩))
        rename_i hS
        obtain ⟨_, _, hX⟩ := hS
        have HX := Lib.hid hX
        obtain ⟨⟨o0, o1⟩, ⟨o2, o3⟩, ho⟩ := HX.out.2.2.2.2.words
        clear hX
        go_wp2_with (first
          | (go_at_call 34
             refine (Hw.out _).mono ?_
             rintro e w2 ⟨rfl, hb2⟩
             have a4 := HX.out.2.2.2.2.below hb2 HX.out.2.2.2.2.lt
             obtain ⟨⟨d0, d1⟩, ⟨d2, d3⟩, hg⟩ := a4.words
             have HY := Lib.hid (And.intro (HX.out.1.trans (hb2.mono HX.out.1.size)) (And.intro (HX.out.2.1.below hb2 HX.out.2.1.lt) (And.intro (HX.out.2.2.1.below hb2 HX.out.2.2.1.lt) (And.intro (HX.out.2.2.2.1.below hb2 HX.out.2.2.2.1.lt) a4))))
             clear a4 hb2))
        go_roundw
        case rel => exact ⟨n + 1, by omega, by go_num, below_put4 HY.out.1 _ (by omega) _, HY.out.2.1.put4_other (by omega) _, HY.out.2.2.1.put4_other (by omega) _, HY.out.2.2.2.1.put4_other (by omega) _, HY.out.2.2.2.2.put4 _⟩
        case measure => simp [intOf]; omega
      · have HE : Hid (upb f (n + 1) = ins (upb f n) n) := Lib.hid (upb_one f n (by rw [HF.out n, hp, hq]; rfl))
        have Hw := Lib.hid (with_any (upb f n) n hlt)
        rw [← HE.out] at Hw
        unfold cs cl at Hw
        go_wp2
        go_region_held3 (fun w' => S4 w p q (upb f n) w')
          (first | exact HS.out | exact S4.keep hb ‹_›)
          (first
            | (go_at_call 58; with_reducible refine (H1.out _).mono ?_; rintro e w1 ⟨rfl, hb⟩)
            | (go_at_call 58; with_reducible refine (H2.out _).mono ?_; rintro e w1 ⟨rfl, hb⟩))
        rename_i hS
        obtain ⟨_, _, hX⟩ := hS
        have HX := Lib.hid hX
        obtain ⟨⟨o0, o1⟩, ⟨o2, o3⟩, ho⟩ := HX.out.2.2.2.2.words
        clear hX
        go_wp2_with (first
          | (go_at_call 34
             refine (Hw.out _).mono ?_
             rintro e w2 ⟨rfl, hb2⟩
             have a4 := HX.out.2.2.2.2.below hb2 HX.out.2.2.2.2.lt
             obtain ⟨⟨d0, d1⟩, ⟨d2, d3⟩, hg⟩ := a4.words
             have HY := Lib.hid (And.intro (HX.out.1.trans (hb2.mono HX.out.1.size)) (And.intro (HX.out.2.1.below hb2 HX.out.2.1.lt) (And.intro (HX.out.2.2.1.below hb2 HX.out.2.2.1.lt) (And.intro (HX.out.2.2.2.1.below hb2 HX.out.2.2.2.1.lt) a4))))
             clear a4 hb2))
        go_roundw
        case rel => exact ⟨n + 1, by omega, by go_num, below_put4 HY.out.1 _ (by omega) _, HY.out.2.1.put4_other (by omega) _, HY.out.2.2.1.put4_other (by omega) _, HY.out.2.2.2.1.put4_other (by omega) _, HY.out.2.2.2.2.put4 _⟩
        case measure => simp [intOf]; omega
      · have HE : Hid (upb f (n + 1) = upb f n) := Lib.hid (upb_no f n (by rw [HF.out n, hp, hq]; rfl))
        go_wp2
        go_region_held3 (fun w' => S4 w p q (upb f n) w')
          (first | exact HS.out | exact S4.keep hb ‹_›)
          (first
            | (go_at_call 58; with_reducible refine (H1.out _).mono ?_; rintro e w1 ⟨rfl, hb⟩)
            | (go_at_call 58; with_reducible refine (H2.out _).mono ?_; rintro e w1 ⟨rfl, hb⟩))
        rename_i hS
        obtain ⟨_, _, hX⟩ := hS
        have HX := Lib.hid hX
        obtain ⟨⟨o0, o1⟩, ⟨o2, o3⟩, ho⟩ := HX.out.2.2.2.2.words
        clear hX
        go_wp2
        go_roundw
        case rel => exact ⟨n + 1, by omega, by go_num, HX.out.1, HX.out.2.1, HX.out.2.2.1, HX.out.2.2.2.1, by rw [HE.out]; exact HX.out.2.2.2.2⟩
        case measure => simp [intOf]; omega
    · obtain rfl : n = 256 := by omega
      obtain ⟨b0, a1, a2, a3, a4⟩ := HR.out
      have a5 := a4.same (upb_all f)
      have HA := Lib.hid a3
      obtain ⟨⟨c0, c1⟩, ⟨c2, c3⟩, hf⟩ := a5.words
      obtain ⟨⟨d0, d1⟩, ⟨d2, d3⟩, hg⟩ := a3.words
      clear b0 a1 a2 a3 a4 a5
      go_wp2
      exact bodyPost_ret (v := cs f) (ret_cs (q := f) Tryz.results35 _ _ (w.heap.size + 2) (by simp) (HA.out.put4 f)) rfl ⟨rfl, below_put4 HR.out.1 _ (by omega) f⟩
end Go.Proofs.YtphiaagppcbefaaGreatDoor
set_option linter.unusedVariables false
namespace Go.Proofs.YtphiaagppcbefaaGreatDoor
open Go.RowKit
theorem runion_any (p q : Nat → Bool) (w : World) : Calls Tryz.prog 20 #[cs p, cs q] w fun e w' => e = .returned (cs fun c => p c || q c) ∧ Below w.heap.size w w' := by
  have HU := Lib.hid (U3_at w p q)
  have HB := Lib.hid (U3_below w p q)
  have Hc := Lib.hid (ror_any p q)
  unfold cs cl at *
  go_enter Tryz.func20, Tryz.ntmps20
  go_wp2_with (first
    | (go_at_call 35
       refine (Hc.out _).mono ?_
       rintro e w1 ⟨rfl, hb⟩
       have a4 := HU.out.2.2.below hb HU.out.2.2.lt
       obtain ⟨⟨d0, d1⟩, ⟨d2, d3⟩, hg⟩ := a4.words
       have HY := Lib.hid (And.intro (HB.out.trans (hb.mono HB.out.size)) a4)
       clear a4 hb))
  exact bodyPost_ret (v := cs fun c => p c || q c) (ret_cs (q := fun c => p c || q c) Tryz.results20 _ _ (w.heap.size + 2) (by simp) (HY.out.2.put4 _)) rfl ⟨rfl, below_put4 HY.out.1 _ (by omega) _⟩
end Go.Proofs.YtphiaagppcbefaaGreatDoor
set_option linter.unusedVariables false
namespace Go.Proofs.YtphiaagppcbefaaGreatDoor
open Go.RowKit
structure Ok (V : Loc) : Prop where
  nw : V.nw = 256
  lo : V.lower.size = 256
  up : V.upper.size = 256
  nc : V.nc ≤ 24
  ne : V.ne ≤ 64
  et : ∀ k, k < V.ne → (V.et k).size = 2
theorem firstErr_all (f : Nat → Int) (n : Nat) (h : firstErr f n = 0) : ∀ k, k < n → f k = 0 := by
  induction n with
  | zero => intro k hk; omega
  | succ n ih =>
    rw [firstErr_succ] at h
    by_cases h1 : firstErr f n = 0
    · rw [if_pos h1] at h
      intro k hk
      by_cases e : k = n
      · subst e; exact h
      · exact ih h1 k (by omega)
    · rw [if_neg h1] at h
      exact absurd h h1
theorem ok_of {L : Loc} (h : chk L = 0) : Ok L := by
  unfold chk at h
  by_cases h1 : nmB L.name = true
  · rw [if_pos h1] at h
    by_cases h2 : L.nw = 256
    · rw [if_pos h2] at h
      by_cases h3 : firstErr (wtAt L.wt) 256 = 0
      · rw [if_pos h3] at h
        by_cases h4 : L.lower.size = 256 ∧ L.upper.size = 256
        · rw [if_pos h4] at h
          by_cases h5 : clsErr L.nc L.cn = 0
          · rw [if_pos h5] at h
            have c24 : L.nc ≤ 24 := by
              unfold clsErr at h5
              by_cases hc : L.nc ≤ 24
              · exact hc
              · rw [if_neg hc] at h5
                omega
            unfold elmErr at h
            by_cases he : L.ne ≤ 64
            · rw [if_pos he] at h
              refine ⟨h2, h4.1, h4.2, c24, he, fun k hk => ?_⟩
              have := firstErr_all _ _ h k hk
              unfold elmAt at this
              by_cases hs : (L.et k).size = 2 ∧ 0 ≤ L.ew k ∧ L.ew k ≤ 65535
              · exact hs.1
              · rw [if_neg hs] at this
                omega
            · rw [if_neg he] at h
              omega
          · rw [if_neg h5] at h
            exact absurd h h5
        · rw [if_neg h4] at h
          omega
      · rw [if_neg h3] at h
        exact absurd h h3
    · rw [if_neg h2] at h
      omega
  · rw [if_neg h1] at h
    omega
theorem mkl_size (l : List UInt8) : (⟨l.toArray⟩ : ByteArray).size = l.length := by
  show l.toArray.size = _
  simp
theorem ok_def : Ok Ldef := by
  refine ⟨rfl, ?_, ?_, Nat.zero_le _, Nat.zero_le _, fun k hk => absurd hk (Nat.not_lt_zero k)⟩
  · exact (mkl_size _).trans (lowL_len 256)
  · exact (mkl_size _).trans (upL_len 256)
theorem ok_vld (L : Loc) : Ok (vld L) := by
  unfold vld
  by_cases h : chk L = 0
  · rw [if_pos h]
    exact ok_of h
  · rw [if_neg h]
    exact ok_def
end Go.Proofs.YtphiaagppcbefaaGreatDoor
set_option linter.unusedVariables false
namespace Go.Proofs.YtphiaagppcbefaaGreatDoor
open Go.RowKit
theorem size_data (s : ByteArray) : s.data.toList.length = s.size := by simp
theorem drop_data (s : ByteArray) (k : Nat) : (s.extract k s.size).data.toList = s.data.toList.drop k := Lib.extract_to_end s k
theorem drop_size (s : ByteArray) (k : Nat) : (s.extract k s.size).size = s.size - k := by
  have := congrArg List.length (drop_data s k)
  rw [List.length_drop, size_data, size_data] at this
  exact this
end Go.Proofs.YtphiaagppcbefaaGreatDoor
set_option linter.unusedVariables false
namespace Go.Proofs.YtphiaagppcbefaaGreatDoor
open Go.RowKit
def mkS (l : List UInt8) : ByteArray := ⟨l.toArray⟩
theorem mkS_data (l : List UInt8) : (mkS l).data.toList = l := by unfold mkS; simp
end Go.Proofs.YtphiaagppcbefaaGreatDoor
