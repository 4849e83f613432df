/- The reference's functions of layer 4 that make sets. (Written by gen_ref.py.) -/
import Derived.Test.YtpfbpgbgedbalaaRows
import Derived.Test.YtpfbpgbgedbalaaCsOf
set_option linter.unusedVariables false
namespace Go.Proofs.Ytpfbpgbgedbalaa
open Go.RowKit

/-- The elements below n. -/
def upb (f : Nat → Bool) (n : Nat) : Nat → Bool := fun c => decide (c < n) && f c
theorem upb_zero (f : Nat → Bool) : upb f 0 = fun _ => false := by
  funext c
  simp [upb]
theorem upb_one (f : Nat → Bool) (n : Nat) (h : f n = true) : upb f (n + 1) = ins (upb f n) n := by
  funext c
  unfold upb ins
  by_cases h1 : c = n
  · subst h1
    simp [h]
  · by_cases h2 : c < n
    · have : c < n + 1 := by omega
      simp [h1, h2, this]
    · have : ¬ c < n + 1 := by omega
      simp [h1, h2, this]
theorem upb_no (f : Nat → Bool) (n : Nat) (h : f n = false) : upb f (n + 1) = upb f n := by
  funext c
  unfold upb
  by_cases h1 : c = n
  · subst h1
    simp [h]
  · have e : (c < n + 1) = (c < n) := by simp; omega
    simp [e]
theorem upb_all (f : Nat → Bool) : ∀ c, c < 256 → upb f 256 c = f c := by
  intro c hc
  simp [upb, hc]

set_option maxHeartbeats 4000000 in
theorem rof_any (s : ByteArray) (hs : s.size ≤ 300) (w : World) : Calls Try.prog 36 #[.string s] w fun e w' => e = .returned (cs (setOf s.data.toList)) ∧ Below w.heap.size w w' := by
  have HV := Lib.hid (V2_at w)
  have HB := Lib.hid (V2_below w)
  unfold cs cl
  have hS : (s.size : Int) ≤ 300 := by omega
  go_enter Try.func36, Try.ntmps36
  go_wp2
  go_loopw [4] (fun i wr => ∃ k : Nat, k ≤ s.size ∧ i = .int .i64 k ∧ Hid (Below w.heap.size w wr ∧ At wr w.heap.size (fun _ => false) ∧ At wr (w.heap.size + 1) (setOf (s.data.toList.take k)))) (fun i _ => s.size - (intOf i).toNat)
  case atStart => exact ⟨0, Nat.zero_le _, rfl, HB.out, HV.out.1, HV.out.2⟩
  case round =>
    obtain ⟨k, hk, rfl, HR⟩ := hrel
    by_cases hlt : k < s.size
    · have hi : (k : Int) < s.size := by omega
      obtain ⟨c, hsc⟩ : ∃ c, s[k].toNat = c := ⟨_, rfl⟩
      have hc : c < 256 := by rw [← hsc]; exact s[k].toNat_lt
      have HN0 := setOf_next s.data.toList k (by simpa using hlt)
      have e : (s.data.toList[k]'(by simpa using hlt)).toNat = c := hsc
      rw [e] at HN0
      have Hw := Lib.hid (with_any (setOf (s.data.toList.take k)) c hc)
      rw [← HN0] at Hw
      clear HN0 e
      unfold cs cl at Hw
      obtain ⟨b0, a3, a4⟩ := HR.out
      obtain ⟨⟨c0, c1⟩, ⟨c2, c3⟩, hf⟩ := a4.words
      clear b0 a3 a4
      go_wp2
      go_region_with ((go_at_call 68; refine (Hw.out _).mono ?_; rintro e w1 ⟨rfl, hb⟩; have a4 := HR.out.2.2.drew.below hb HR.out.2.2.lt; obtain ⟨⟨d0, d1⟩, ⟨d2, d3⟩, hg⟩ := a4.words; have HY := Lib.hid (And.intro (HR.out.1.drew.trans (hb.mono HR.out.1.size)) (And.intro (HR.out.2.1.drew.below hb HR.out.2.1.lt) a4)); clear a4 hb))
      all_goals
        go_wp2
        go_roundw
        case rel => exact ⟨k + 1, by omega, by go_num, below_put4 HY.out.1 _ (by simp) _, HY.out.2.1.put4_other (by omega) _, HY.out.2.2.put4 _⟩
        case measure => simp [intOf]; omega
    · obtain rfl : k = s.size := by omega
      obtain ⟨b0, a3, a4⟩ := HR.out
      rw [List.take_of_length_le (by simp)] at a4
      have HA := Lib.hid a3
      obtain ⟨⟨c0, c1⟩, ⟨c2, c3⟩, hf⟩ := a4.words
      obtain ⟨⟨d0, d1⟩, ⟨d2, d3⟩, hg⟩ := a3.words
      clear b0 a3 a4
      go_wp2
      exact bodyPost_ret (v := cs (setOf s.data.toList)) (ret_cs (q := setOf s.data.toList) Try.results36 _ _ w.heap.size (by simp) (HA.out.put4 _)) rfl ⟨rfl, below_put4 HR.out.1 _ (by omega) _⟩


/-- What combine holds of the world in a round. -/
abbrev S4 (w0 : World) (p q r : Nat → Bool) (w : World) : Prop :=
  Wds w w0.heap.size p ∧ Wds w (w0.heap.size + 1) q ∧ (Below w0.heap.size w0 w ∧ At w w0.heap.size p ∧ At w (w0.heap.size + 1) q ∧ At w (w0.heap.size + 2) (fun _ => false) ∧ At w (w0.heap.size + 3) r)
theorem S4.of {w0 w : World} {p q r : Nat → Bool} (h : Below w0.heap.size w0 w ∧ At w w0.heap.size p ∧ At w (w0.heap.size + 1) q ∧ At w (w0.heap.size + 2) (fun _ => false) ∧ At w (w0.heap.size + 3) r) : S4 w0 p q r w.drew :=
  ⟨Wds.of h.2.1.drew, Wds.of h.2.2.1.drew, h.1.drew, h.2⟩
theorem S4.keep {w0 w w' : World} {p q r : Nat → Bool} (hb : Below w.heap.size w w') (h : S4 w0 p q r w) : S4 w0 p q r w' :=
  have a := h.2.2
  ⟨h.1.keep hb, h.2.1.keep hb, a.1.trans (hb.mono a.1.size), a.2.1.below hb a.2.1.lt, a.2.2.1.below hb a.2.2.1.lt, a.2.2.2.1.below hb a.2.2.2.1.lt, a.2.2.2.2.below hb a.2.2.2.2.lt⟩


set_option maxHeartbeats 4000000 in
theorem rand_any (p q : Nat → Bool) (w : World) : Calls Try.prog 51 #[.int .i64 0, cs p, cs q] w fun e w' => e = .returned (cs fun c => p c && q c) ∧ Below w.heap.size w w' := by
  have HV := Lib.hid (V4_at w p q)
  have HB := Lib.hid (V4_below w p q)
  unfold cs cl
  obtain ⟨f, hf⟩ : ∃ f : Nat → Bool, f = fun c => p c && q c := ⟨_, rfl⟩
  have HF : Hid (∀ n, f n = (p n && q n)) := fun n => by rw [hf]
  rw [← hf]
  clear hf
  go_enter Try.func51, Try.ntmps51
  go_wp2
  go_loopw [8] (fun i wr => ∃ n : Nat, n ≤ 256 ∧ i = .int .i64 n ∧ Hid (Below w.heap.size w wr ∧ At wr w.heap.size p ∧ At wr (w.heap.size + 1) q ∧ At wr (w.heap.size + 2) (fun _ => false) ∧ At wr (w.heap.size + 3) (upb f n))) (fun i _ => 256 - (intOf i).toNat)
  case atStart => exact ⟨0, Nat.zero_le _, rfl, HB.out, HV.out.1, HV.out.2.1, HV.out.2.2.1, by rw [upb_zero]; exact HV.out.2.2.2⟩
  case round =>
    obtain ⟨n, hn, rfl, HR⟩ := hrel
    by_cases hlt : n < 256
    · have hi : (n : Int) < 256 := by omega
      have hw : IntKind.u8.wrap (n : Int) = (n : Int) := IntWalk.u8_in _ (by omega)
      have H1 := Lib.hid (rhas_any p n hlt)
      have H2 := Lib.hid (rhas_any q n hlt)
      have HS := Lib.hid (S4.of HR.out)
      unfold cs cl at H1 H2
      have hcases : (p n = true ∧ q n = true) ∨ (p n = true ∧ q n = false) ∨ (p n = false ∧ q n = true) ∨ (p n = false ∧ q n = false) := by
        cases p n <;> cases q n <;> simp
      rcases hcases with ⟨hp, hq⟩ | ⟨hp, hq⟩ | ⟨hp, hq⟩ | ⟨hp, hq⟩
      · have HE : Hid (upb f (n + 1) = ins (upb f n) n) := Lib.hid (upb_one f n (by rw [HF.out n, hp, hq]; rfl))
        have Hw := Lib.hid (with_any (upb f n) n hlt)
        rw [← HE.out] at Hw
        unfold cs cl at Hw
        go_wp2
        go_region_held3 (fun w' => S4 w p q (upb f n) w')
          (first | exact HS.out | exact S4.keep hb ‹_›)
          (first
            | (go_at_call 18; with_reducible refine (H1.out _).mono ?_; rintro e w1 ⟨rfl, hb⟩)
            | (go_at_call 18; with_reducible refine (H2.out _).mono ?_; rintro e w1 ⟨rfl, hb⟩))
        rename_i hS
        obtain ⟨_, _, hX⟩ := hS
        have HX := Lib.hid hX
        obtain ⟨⟨o0, o1⟩, ⟨o2, o3⟩, ho⟩ := HX.out.2.2.2.2.words
        clear hX
        go_wp2_with (first
          | (go_at_call 68
             refine (Hw.out _).mono ?_
             rintro e w2 ⟨rfl, hb2⟩
             have a4 := HX.out.2.2.2.2.below hb2 HX.out.2.2.2.2.lt
             obtain ⟨⟨d0, d1⟩, ⟨d2, d3⟩, hg⟩ := a4.words
             have HY := Lib.hid (And.intro (HX.out.1.trans (hb2.mono HX.out.1.size)) (And.intro (HX.out.2.1.below hb2 HX.out.2.1.lt) (And.intro (HX.out.2.2.1.below hb2 HX.out.2.2.1.lt) (And.intro (HX.out.2.2.2.1.below hb2 HX.out.2.2.2.1.lt) a4))))
             clear a4 hb2))
        go_roundw
        case rel => exact ⟨n + 1, by omega, by go_num, below_put4 HY.out.1 _ (by omega) _, HY.out.2.1.put4_other (by omega) _, HY.out.2.2.1.put4_other (by omega) _, HY.out.2.2.2.1.put4_other (by omega) _, HY.out.2.2.2.2.put4 _⟩
        case measure => simp [intOf]; omega
      · have HE : Hid (upb f (n + 1) = upb f n) := Lib.hid (upb_no f n (by rw [HF.out n, hp, hq]; rfl))
        go_wp2
        go_region_held3 (fun w' => S4 w p q (upb f n) w')
          (first | exact HS.out | exact S4.keep hb ‹_›)
          (first
            | (go_at_call 18; with_reducible refine (H1.out _).mono ?_; rintro e w1 ⟨rfl, hb⟩)
            | (go_at_call 18; with_reducible refine (H2.out _).mono ?_; rintro e w1 ⟨rfl, hb⟩))
        rename_i hS
        obtain ⟨_, _, hX⟩ := hS
        have HX := Lib.hid hX
        obtain ⟨⟨o0, o1⟩, ⟨o2, o3⟩, ho⟩ := HX.out.2.2.2.2.words
        clear hX
        go_wp2
        go_roundw
        case rel => exact ⟨n + 1, by omega, by go_num, HX.out.1, HX.out.2.1, HX.out.2.2.1, HX.out.2.2.2.1, by rw [HE.out]; exact HX.out.2.2.2.2⟩
        case measure => simp [intOf]; omega
      · have HE : Hid (upb f (n + 1) = upb f n) := Lib.hid (upb_no f n (by rw [HF.out n, hp, hq]; rfl))
        go_wp2
        go_region_held3 (fun w' => S4 w p q (upb f n) w')
          (first | exact HS.out | exact S4.keep hb ‹_›)
          (first
            | (go_at_call 18; with_reducible refine (H1.out _).mono ?_; rintro e w1 ⟨rfl, hb⟩)
            | (go_at_call 18; with_reducible refine (H2.out _).mono ?_; rintro e w1 ⟨rfl, hb⟩))
        rename_i hS
        obtain ⟨_, _, hX⟩ := hS
        have HX := Lib.hid hX
        obtain ⟨⟨o0, o1⟩, ⟨o2, o3⟩, ho⟩ := HX.out.2.2.2.2.words
        clear hX
        go_wp2
        go_roundw
        case rel => exact ⟨n + 1, by omega, by go_num, HX.out.1, HX.out.2.1, HX.out.2.2.1, HX.out.2.2.2.1, by rw [HE.out]; exact HX.out.2.2.2.2⟩
        case measure => simp [intOf]; omega
      · have HE : Hid (upb f (n + 1) = upb f n) := Lib.hid (upb_no f n (by rw [HF.out n, hp, hq]; rfl))
        go_wp2
        go_region_held3 (fun w' => S4 w p q (upb f n) w')
          (first | exact HS.out | exact S4.keep hb ‹_›)
          (first
            | (go_at_call 18; with_reducible refine (H1.out _).mono ?_; rintro e w1 ⟨rfl, hb⟩)
            | (go_at_call 18; with_reducible refine (H2.out _).mono ?_; rintro e w1 ⟨rfl, hb⟩))
        rename_i hS
        obtain ⟨_, _, hX⟩ := hS
        have HX := Lib.hid hX
        obtain ⟨⟨o0, o1⟩, ⟨o2, o3⟩, ho⟩ := HX.out.2.2.2.2.words
        clear hX
        go_wp2
        go_roundw
        case rel => exact ⟨n + 1, by omega, by go_num, HX.out.1, HX.out.2.1, HX.out.2.2.1, HX.out.2.2.2.1, by rw [HE.out]; exact HX.out.2.2.2.2⟩
        case measure => simp [intOf]; omega
    · obtain rfl : n = 256 := by omega
      obtain ⟨b0, a1, a2, a3, a4⟩ := HR.out
      have a5 := a4.same (upb_all f)
      have HA := Lib.hid a3
      obtain ⟨⟨c0, c1⟩, ⟨c2, c3⟩, hf⟩ := a5.words
      obtain ⟨⟨d0, d1⟩, ⟨d2, d3⟩, hg⟩ := a3.words
      clear b0 a1 a2 a3 a4 a5
      go_wp2
      exact bodyPost_ret (v := cs f) (ret_cs (q := f) Try.results51 _ _ (w.heap.size + 2) (by simp) (HA.out.put4 f)) rfl ⟨rfl, below_put4 HR.out.1 _ (by omega) f⟩

set_option maxHeartbeats 4000000 in
theorem ror_any (p q : Nat → Bool) (w : World) : Calls Try.prog 51 #[.int .i64 1, cs p, cs q] w fun e w' => e = .returned (cs fun c => p c || q c) ∧ Below w.heap.size w w' := by
  have HV := Lib.hid (V4_at w p q)
  have HB := Lib.hid (V4_below w p q)
  unfold cs cl
  obtain ⟨f, hf⟩ : ∃ f : Nat → Bool, f = fun c => p c || q c := ⟨_, rfl⟩
  have HF : Hid (∀ n, f n = (p n || q n)) := fun n => by rw [hf]
  rw [← hf]
  clear hf
  go_enter Try.func51, Try.ntmps51
  go_wp2
  go_loopw [8] (fun i wr => ∃ n : Nat, n ≤ 256 ∧ i = .int .i64 n ∧ Hid (Below w.heap.size w wr ∧ At wr w.heap.size p ∧ At wr (w.heap.size + 1) q ∧ At wr (w.heap.size + 2) (fun _ => false) ∧ At wr (w.heap.size + 3) (upb f n))) (fun i _ => 256 - (intOf i).toNat)
  case atStart => exact ⟨0, Nat.zero_le _, rfl, HB.out, HV.out.1, HV.out.2.1, HV.out.2.2.1, by rw [upb_zero]; exact HV.out.2.2.2⟩
  case round =>
    obtain ⟨n, hn, rfl, HR⟩ := hrel
    by_cases hlt : n < 256
    · have hi : (n : Int) < 256 := by omega
      have hw : IntKind.u8.wrap (n : Int) = (n : Int) := IntWalk.u8_in _ (by omega)
      have H1 := Lib.hid (rhas_any p n hlt)
      have H2 := Lib.hid (rhas_any q n hlt)
      have HS := Lib.hid (S4.of HR.out)
      unfold cs cl at H1 H2
      have hcases : (p n = true ∧ q n = true) ∨ (p n = true ∧ q n = false) ∨ (p n = false ∧ q n = true) ∨ (p n = false ∧ q n = false) := by
        cases p n <;> cases q n <;> simp
      rcases hcases with ⟨hp, hq⟩ | ⟨hp, hq⟩ | ⟨hp, hq⟩ | ⟨hp, hq⟩
      · have HE : Hid (upb f (n + 1) = ins (upb f n) n) := Lib.hid (upb_one f n (by rw [HF.out n, hp, hq]; rfl))
        have Hw := Lib.hid (with_any (upb f n) n hlt)
        rw [← HE.out] at Hw
        unfold cs cl at Hw
        go_wp2
        go_region_held3 (fun w' => S4 w p q (upb f n) w')
          (first | exact HS.out | exact S4.keep hb ‹_›)
          (first
            | (go_at_call 18; with_reducible refine (H1.out _).mono ?_; rintro e w1 ⟨rfl, hb⟩)
            | (go_at_call 18; with_reducible refine (H2.out _).mono ?_; rintro e w1 ⟨rfl, hb⟩))
        rename_i hS
        obtain ⟨_, _, hX⟩ := hS
        have HX := Lib.hid hX
        obtain ⟨⟨o0, o1⟩, ⟨o2, o3⟩, ho⟩ := HX.out.2.2.2.2.words
        clear hX
        go_wp2_with (first
          | (go_at_call 68
             refine (Hw.out _).mono ?_
             rintro e w2 ⟨rfl, hb2⟩
             have a4 := HX.out.2.2.2.2.below hb2 HX.out.2.2.2.2.lt
             obtain ⟨⟨d0, d1⟩, ⟨d2, d3⟩, hg⟩ := a4.words
             have HY := Lib.hid (And.intro (HX.out.1.trans (hb2.mono HX.out.1.size)) (And.intro (HX.out.2.1.below hb2 HX.out.2.1.lt) (And.intro (HX.out.2.2.1.below hb2 HX.out.2.2.1.lt) (And.intro (HX.out.2.2.2.1.below hb2 HX.out.2.2.2.1.lt) a4))))
             clear a4 hb2))
        go_roundw
        case rel => exact ⟨n + 1, by omega, by go_num, below_put4 HY.out.1 _ (by omega) _, HY.out.2.1.put4_other (by omega) _, HY.out.2.2.1.put4_other (by omega) _, HY.out.2.2.2.1.put4_other (by omega) _, HY.out.2.2.2.2.put4 _⟩
        case measure => simp [intOf]; omega
      · have HE : Hid (upb f (n + 1) = ins (upb f n) n) := Lib.hid (upb_one f n (by rw [HF.out n, hp, hq]; rfl))
        have Hw := Lib.hid (with_any (upb f n) n hlt)
        rw [← HE.out] at Hw
        unfold cs cl at Hw
        go_wp2
        go_region_held3 (fun w' => S4 w p q (upb f n) w')
          (first | exact HS.out | exact S4.keep hb ‹_›)
          (first
            | (go_at_call 18; with_reducible refine (H1.out _).mono ?_; rintro e w1 ⟨rfl, hb⟩)
            | (go_at_call 18; with_reducible refine (H2.out _).mono ?_; rintro e w1 ⟨rfl, hb⟩))
        rename_i hS
        obtain ⟨_, _, hX⟩ := hS
        have HX := Lib.hid hX
        obtain ⟨⟨o0, o1⟩, ⟨o2, o3⟩, ho⟩ := HX.out.2.2.2.2.words
        clear hX
        go_wp2_with (first
          | (go_at_call 68
             refine (Hw.out _).mono ?_
             rintro e w2 ⟨rfl, hb2⟩
             have a4 := HX.out.2.2.2.2.below hb2 HX.out.2.2.2.2.lt
             obtain ⟨⟨d0, d1⟩, ⟨d2, d3⟩, hg⟩ := a4.words
             have HY := Lib.hid (And.intro (HX.out.1.trans (hb2.mono HX.out.1.size)) (And.intro (HX.out.2.1.below hb2 HX.out.2.1.lt) (And.intro (HX.out.2.2.1.below hb2 HX.out.2.2.1.lt) (And.intro (HX.out.2.2.2.1.below hb2 HX.out.2.2.2.1.lt) a4))))
             clear a4 hb2))
        go_roundw
        case rel => exact ⟨n + 1, by omega, by go_num, below_put4 HY.out.1 _ (by omega) _, HY.out.2.1.put4_other (by omega) _, HY.out.2.2.1.put4_other (by omega) _, HY.out.2.2.2.1.put4_other (by omega) _, HY.out.2.2.2.2.put4 _⟩
        case measure => simp [intOf]; omega
      · have HE : Hid (upb f (n + 1) = ins (upb f n) n) := Lib.hid (upb_one f n (by rw [HF.out n, hp, hq]; rfl))
        have Hw := Lib.hid (with_any (upb f n) n hlt)
        rw [← HE.out] at Hw
        unfold cs cl at Hw
        go_wp2
        go_region_held3 (fun w' => S4 w p q (upb f n) w')
          (first | exact HS.out | exact S4.keep hb ‹_›)
          (first
            | (go_at_call 18; with_reducible refine (H1.out _).mono ?_; rintro e w1 ⟨rfl, hb⟩)
            | (go_at_call 18; with_reducible refine (H2.out _).mono ?_; rintro e w1 ⟨rfl, hb⟩))
        rename_i hS
        obtain ⟨_, _, hX⟩ := hS
        have HX := Lib.hid hX
        obtain ⟨⟨o0, o1⟩, ⟨o2, o3⟩, ho⟩ := HX.out.2.2.2.2.words
        clear hX
        go_wp2_with (first
          | (go_at_call 68
             refine (Hw.out _).mono ?_
             rintro e w2 ⟨rfl, hb2⟩
             have a4 := HX.out.2.2.2.2.below hb2 HX.out.2.2.2.2.lt
             obtain ⟨⟨d0, d1⟩, ⟨d2, d3⟩, hg⟩ := a4.words
             have HY := Lib.hid (And.intro (HX.out.1.trans (hb2.mono HX.out.1.size)) (And.intro (HX.out.2.1.below hb2 HX.out.2.1.lt) (And.intro (HX.out.2.2.1.below hb2 HX.out.2.2.1.lt) (And.intro (HX.out.2.2.2.1.below hb2 HX.out.2.2.2.1.lt) a4))))
             clear a4 hb2))
        go_roundw
        case rel => exact ⟨n + 1, by omega, by go_num, below_put4 HY.out.1 _ (by omega) _, HY.out.2.1.put4_other (by omega) _, HY.out.2.2.1.put4_other (by omega) _, HY.out.2.2.2.1.put4_other (by omega) _, HY.out.2.2.2.2.put4 _⟩
        case measure => simp [intOf]; omega
      · have HE : Hid (upb f (n + 1) = upb f n) := Lib.hid (upb_no f n (by rw [HF.out n, hp, hq]; rfl))
        go_wp2
        go_region_held3 (fun w' => S4 w p q (upb f n) w')
          (first | exact HS.out | exact S4.keep hb ‹_›)
          (first
            | (go_at_call 18; with_reducible refine (H1.out _).mono ?_; rintro e w1 ⟨rfl, hb⟩)
            | (go_at_call 18; with_reducible refine (H2.out _).mono ?_; rintro e w1 ⟨rfl, hb⟩))
        rename_i hS
        obtain ⟨_, _, hX⟩ := hS
        have HX := Lib.hid hX
        obtain ⟨⟨o0, o1⟩, ⟨o2, o3⟩, ho⟩ := HX.out.2.2.2.2.words
        clear hX
        go_wp2
        go_roundw
        case rel => exact ⟨n + 1, by omega, by go_num, HX.out.1, HX.out.2.1, HX.out.2.2.1, HX.out.2.2.2.1, by rw [HE.out]; exact HX.out.2.2.2.2⟩
        case measure => simp [intOf]; omega
    · obtain rfl : n = 256 := by omega
      obtain ⟨b0, a1, a2, a3, a4⟩ := HR.out
      have a5 := a4.same (upb_all f)
      have HA := Lib.hid a3
      obtain ⟨⟨c0, c1⟩, ⟨c2, c3⟩, hf⟩ := a5.words
      obtain ⟨⟨d0, d1⟩, ⟨d2, d3⟩, hg⟩ := a3.words
      clear b0 a1 a2 a3 a4 a5
      go_wp2
      exact bodyPost_ret (v := cs f) (ret_cs (q := f) Try.results51 _ _ (w.heap.size + 2) (by simp) (HA.out.put4 f)) rfl ⟨rfl, below_put4 HR.out.1 _ (by omega) f⟩

set_option maxHeartbeats 4000000 in
theorem rdiff_any (p q : Nat → Bool) (w : World) : Calls Try.prog 51 #[.int .i64 2, cs p, cs q] w fun e w' => e = .returned (cs fun c => p c && !q c) ∧ Below w.heap.size w w' := by
  have HV := Lib.hid (V4_at w p q)
  have HB := Lib.hid (V4_below w p q)
  unfold cs cl
  obtain ⟨f, hf⟩ : ∃ f : Nat → Bool, f = fun c => p c && !q c := ⟨_, rfl⟩
  have HF : Hid (∀ n, f n = (p n && !q n)) := fun n => by rw [hf]
  rw [← hf]
  clear hf
  go_enter Try.func51, Try.ntmps51
  go_wp2
  go_loopw [8] (fun i wr => ∃ n : Nat, n ≤ 256 ∧ i = .int .i64 n ∧ Hid (Below w.heap.size w wr ∧ At wr w.heap.size p ∧ At wr (w.heap.size + 1) q ∧ At wr (w.heap.size + 2) (fun _ => false) ∧ At wr (w.heap.size + 3) (upb f n))) (fun i _ => 256 - (intOf i).toNat)
  case atStart => exact ⟨0, Nat.zero_le _, rfl, HB.out, HV.out.1, HV.out.2.1, HV.out.2.2.1, by rw [upb_zero]; exact HV.out.2.2.2⟩
  case round =>
    obtain ⟨n, hn, rfl, HR⟩ := hrel
    by_cases hlt : n < 256
    · have hi : (n : Int) < 256 := by omega
      have hw : IntKind.u8.wrap (n : Int) = (n : Int) := IntWalk.u8_in _ (by omega)
      have H1 := Lib.hid (rhas_any p n hlt)
      have H2 := Lib.hid (rhas_any q n hlt)
      have HS := Lib.hid (S4.of HR.out)
      unfold cs cl at H1 H2
      have hcases : (p n = true ∧ q n = true) ∨ (p n = true ∧ q n = false) ∨ (p n = false ∧ q n = true) ∨ (p n = false ∧ q n = false) := by
        cases p n <;> cases q n <;> simp
      rcases hcases with ⟨hp, hq⟩ | ⟨hp, hq⟩ | ⟨hp, hq⟩ | ⟨hp, hq⟩
      · have HE : Hid (upb f (n + 1) = upb f n) := Lib.hid (upb_no f n (by rw [HF.out n, hp, hq]; rfl))
        go_wp2
        go_region_held3 (fun w' => S4 w p q (upb f n) w')
          (first | exact HS.out | exact S4.keep hb ‹_›)
          (first
            | (go_at_call 18; with_reducible refine (H1.out _).mono ?_; rintro e w1 ⟨rfl, hb⟩)
            | (go_at_call 18; with_reducible refine (H2.out _).mono ?_; rintro e w1 ⟨rfl, hb⟩))
        rename_i hS
        obtain ⟨_, _, hX⟩ := hS
        have HX := Lib.hid hX
        obtain ⟨⟨o0, o1⟩, ⟨o2, o3⟩, ho⟩ := HX.out.2.2.2.2.words
        clear hX
        go_wp2
        go_roundw
        case rel => exact ⟨n + 1, by omega, by go_num, HX.out.1, HX.out.2.1, HX.out.2.2.1, HX.out.2.2.2.1, by rw [HE.out]; exact HX.out.2.2.2.2⟩
        case measure => simp [intOf]; omega
      · have HE : Hid (upb f (n + 1) = ins (upb f n) n) := Lib.hid (upb_one f n (by rw [HF.out n, hp, hq]; rfl))
        have Hw := Lib.hid (with_any (upb f n) n hlt)
        rw [← HE.out] at Hw
        unfold cs cl at Hw
        go_wp2
        go_region_held3 (fun w' => S4 w p q (upb f n) w')
          (first | exact HS.out | exact S4.keep hb ‹_›)
          (first
            | (go_at_call 18; with_reducible refine (H1.out _).mono ?_; rintro e w1 ⟨rfl, hb⟩)
            | (go_at_call 18; with_reducible refine (H2.out _).mono ?_; rintro e w1 ⟨rfl, hb⟩))
        rename_i hS
        obtain ⟨_, _, hX⟩ := hS
        have HX := Lib.hid hX
        obtain ⟨⟨o0, o1⟩, ⟨o2, o3⟩, ho⟩ := HX.out.2.2.2.2.words
        clear hX
        go_wp2_with (first
          | (go_at_call 68
             refine (Hw.out _).mono ?_
             rintro e w2 ⟨rfl, hb2⟩
             have a4 := HX.out.2.2.2.2.below hb2 HX.out.2.2.2.2.lt
             obtain ⟨⟨d0, d1⟩, ⟨d2, d3⟩, hg⟩ := a4.words
             have HY := Lib.hid (And.intro (HX.out.1.trans (hb2.mono HX.out.1.size)) (And.intro (HX.out.2.1.below hb2 HX.out.2.1.lt) (And.intro (HX.out.2.2.1.below hb2 HX.out.2.2.1.lt) (And.intro (HX.out.2.2.2.1.below hb2 HX.out.2.2.2.1.lt) a4))))
             clear a4 hb2))
        go_roundw
        case rel => exact ⟨n + 1, by omega, by go_num, below_put4 HY.out.1 _ (by omega) _, HY.out.2.1.put4_other (by omega) _, HY.out.2.2.1.put4_other (by omega) _, HY.out.2.2.2.1.put4_other (by omega) _, HY.out.2.2.2.2.put4 _⟩
        case measure => simp [intOf]; omega
      · have HE : Hid (upb f (n + 1) = upb f n) := Lib.hid (upb_no f n (by rw [HF.out n, hp, hq]; rfl))
        go_wp2
        go_region_held3 (fun w' => S4 w p q (upb f n) w')
          (first | exact HS.out | exact S4.keep hb ‹_›)
          (first
            | (go_at_call 18; with_reducible refine (H1.out _).mono ?_; rintro e w1 ⟨rfl, hb⟩)
            | (go_at_call 18; with_reducible refine (H2.out _).mono ?_; rintro e w1 ⟨rfl, hb⟩))
        rename_i hS
        obtain ⟨_, _, hX⟩ := hS
        have HX := Lib.hid hX
        obtain ⟨⟨o0, o1⟩, ⟨o2, o3⟩, ho⟩ := HX.out.2.2.2.2.words
        clear hX
        go_wp2
        go_roundw
        case rel => exact ⟨n + 1, by omega, by go_num, HX.out.1, HX.out.2.1, HX.out.2.2.1, HX.out.2.2.2.1, by rw [HE.out]; exact HX.out.2.2.2.2⟩
        case measure => simp [intOf]; omega
      · have HE : Hid (upb f (n + 1) = upb f n) := Lib.hid (upb_no f n (by rw [HF.out n, hp, hq]; rfl))
        go_wp2
        go_region_held3 (fun w' => S4 w p q (upb f n) w')
          (first | exact HS.out | exact S4.keep hb ‹_›)
          (first
            | (go_at_call 18; with_reducible refine (H1.out _).mono ?_; rintro e w1 ⟨rfl, hb⟩)
            | (go_at_call 18; with_reducible refine (H2.out _).mono ?_; rintro e w1 ⟨rfl, hb⟩))
        rename_i hS
        obtain ⟨_, _, hX⟩ := hS
        have HX := Lib.hid hX
        obtain ⟨⟨o0, o1⟩, ⟨o2, o3⟩, ho⟩ := HX.out.2.2.2.2.words
        clear hX
        go_wp2
        go_roundw
        case rel => exact ⟨n + 1, by omega, by go_num, HX.out.1, HX.out.2.1, HX.out.2.2.1, HX.out.2.2.2.1, by rw [HE.out]; exact HX.out.2.2.2.2⟩
        case measure => simp [intOf]; omega
    · obtain rfl : n = 256 := by omega
      obtain ⟨b0, a1, a2, a3, a4⟩ := HR.out
      have a5 := a4.same (upb_all f)
      have HA := Lib.hid a3
      obtain ⟨⟨c0, c1⟩, ⟨c2, c3⟩, hf⟩ := a5.words
      obtain ⟨⟨d0, d1⟩, ⟨d2, d3⟩, hg⟩ := a3.words
      clear b0 a1 a2 a3 a4 a5
      go_wp2
      exact bodyPost_ret (v := cs f) (ret_cs (q := f) Try.results51 _ _ (w.heap.size + 2) (by simp) (HA.out.put4 f)) rfl ⟨rfl, below_put4 HR.out.1 _ (by omega) f⟩
end Go.Proofs.Ytpfbpgbgedbalaa
