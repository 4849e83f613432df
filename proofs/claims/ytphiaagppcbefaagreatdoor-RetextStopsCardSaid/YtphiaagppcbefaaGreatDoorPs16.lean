/- RxF. -/
import Derived.Test.YtphiaagppcbefaaGreatDoorPs15
import Derived.StillTailTactics
import Derived.Deep.CutRange
import Derived.Deep.Cut
import Derived.Deep.DeepCutAuto
set_option linter.unusedVariables false
namespace Go.Proofs.YtphiaagppcbefaaGreatDoor
open Go.RowKit
theorem sp_end (b : Bool) : spT (-1) b = false := by unfold spT; simp
theorem esc_end (c : CX) : (escT c (-1)).1 = -4 := by
  unfold escT
  simp [sp_end]
theorem fldTk (a b d : Value) (w : World) : (Instr.field 88 (.agg #[a, b, d]) 2).run Tryz.prog w = .ok d w := by kernel_rfl
theorem tok_fit {c : CX} {p : PS} (h1 : kdT c p ≠ -1) (h4 : kdT c p ≠ -4) : p.at_ + szT c p ≤ c.s.size := by
  unfold kdT tokT at h1 h4
  unfold szT tokT
  by_cases e1 : pkT c.s p.at_ = -1
  · rw [if_pos e1] at h1
    exact absurd rfl h1
  rw [if_neg e1] at h1 h4 ⊢
  have hl := pk_lt e1
  by_cases e2 : pkT c.s p.at_ = 92
  · rw [if_pos e2] at h1 h4 ⊢
    by_cases e3 : pkT c.s (p.at_ + 1) = -1
    · rw [e3] at h4
      exact absurd (esc_end c) h4
    · have := pk_lt e3
      show p.at_ + 2 ≤ c.s.size
      omega
  · rw [if_neg e2]
    split <;> (show p.at_ + 1 ≤ c.s.size; omega)
theorem sz_le (c : CX) (p : PS) : 1 ≤ szT c p ∧ szT c p ≤ 2 := by
  unfold szT tokT
  split
  · exact ⟨by show 1 ≤ 1; omega, by show 1 ≤ 2; omega⟩
  split
  · exact ⟨by show 1 ≤ 2; omega, by show 2 ≤ 2; omega⟩
  split <;> exact ⟨by show 1 ≤ 1; omega, by show 1 ≤ 2; omega⟩
theorem Stp.of_below {w w1 : World} {B : Nat} {c : CX} {V : LV} {p : PS} (h : PM w B c V p) (hb : Below w.heap.size w w1) : Stp w B c V p w1 := ⟨h.below hb, .of_below hb⟩
theorem Stp.moved {w w1 : World} {B : Nat} {c : CX} {V : LV} {p : PS} (h : Stp w B c V p w1) (n : Nat) (h1 : n ≤ c.s.size) (h2 : p.at_ ≤ n) : Stp w B c V (p.to n) (w1.setCell ⟨B, 8, none⟩ (.int .i64 (n : Int))) := h.trans (h.1.moved n h1 h2)
set_option maxRecDepth 100000 in
set_option maxHeartbeats 4000000 in
theorem accept_any (w : World) (B : Nat) (c : CX) (V : LV) (p : PS) (h : PM w B c V p) (k : Int) (hk1 : k ≠ -1) (hk4 : k ≠ -4) :
    Calls Tryz.prog 41 #[.pointer (some ⟨B, 0, none⟩), .int .i32 k] w fun e w' => e = .returned (.bool (accT c k p).1) ∧ Stp w B c V (accT c k p).2 w' := by
  have HT := Lib.hid (token_any w B c V p h)
  have hfit := @tok_fit c p
  have hsz := sz_le c p
  have HP := Lib.hid h
  have h8 := h.sz
  unfold tokV at HT
  unfold accT
  unfold pastT
  unfold kdT szT at *
  obtain ⟨⟨K, v, z⟩, hT⟩ : ∃ T, tokT c p = T := ⟨_, rfl⟩
  rw [hT] at HT hfit hsz ⊢
  clear hT
  simp only at HT hfit hsz ⊢
  by_cases hk : K = k
  · subst hk
    have hf := hfit hk1 hk4
    simp only [if_true]
    have hb1 : (p.at_ : Int) ≤ 256 := by omega
    have hb2 : (z : Int) ≤ 2 := by omega
    have HF := Lib.hid hf
    clear h hf hfit hsz h8 hk1 hk4
    go_enter Tryz.func41, Tryz.ntmps41
    go_upto_region 4 with (first
      | (go_at_call 62; refine HT.out.mono ?_; rintro e w1 ⟨rfl, hb⟩; have hx : Below w.heap.size w (w1.alloc (.cells #[.int .i32 K, .int .u8 v, .int .i64 (z : Int)] 88)) := hb.alloc hb.size _; have HS := Lib.hid (Stp.of_below HP.out hx); obtain ⟨⟨x0, x1, x2, x3, x4, x5, x6, x7⟩, xf⟩ := HS.out.1.pa.all; clear hb hx))
    have q0 : (w1.alloc (.cells #[.int .i32 K, .int .u8 v, .int .i64 (z : Int)] 88)).cell? ⟨w1.heap.size, 2, none⟩ = some (.int .i64 (z : Int)) := by simp
    generalize (w1.alloc (.cells #[.int .i32 K, .int .u8 v, .int .i64 (z : Int)] 88)) = w2 at *
    generalize w1.heap.size = g1 at *
    have HD := Lib.hid HS.out.drew
    go_still_tail 9, (by kernel_rfl)
    change wpList _ _ _ _ _ w2.drew
    clear x0 x1 x2 x3 x4 x5 x6 x7 xf q0 HS
    generalize w2.drew = w3 at HD ⊢
    obtain ⟨⟨x0, x1, x2, x3, x4, x5, x6, x7⟩, xf⟩ := HD.out.1.pa.all
    go_wp2
    go_ret
    exact ⟨rfl, HD.out.moved (p.at_ + z) HF.out (Nat.le_add_right _ _)⟩
  · have hk2 : (K == k) = false := by simpa using hk
    have hk3 : (K != k) = true := by simpa using hk
    simp only [if_neg hk]
    clear h hfit hsz h8 hk1 hk4 hk
    go_enter Tryz.func41, Tryz.ntmps41
    go_wp2_with (first
      | (go_at_call 62; refine HT.out.mono ?_; rintro e w1 ⟨rfl, hb⟩; have hx : Below w.heap.size w (w1.alloc (.cells #[.int .i32 K, .int .u8 v, .int .i64 (z : Int)] 88)) := hb.alloc hb.size _; have HS := Lib.hid (Stp.of_below HP.out hx); obtain ⟨⟨x0, x1, x2, x3, x4, x5, x6, x7⟩, xf⟩ := HS.out.1.pa.all; clear hb hx))
    go_ret
    exact ⟨rfl, HS.out⟩
set_option maxRecDepth 100000 in
set_option maxHeartbeats 4000000 in
theorem unexpected_any (w : World) (B : Nat) (c : CX) (V : LV) (p : PS) (h : PM w B c V p) :
    Calls Tryz.prog 90 #[.pointer (some ⟨B, 0, none⟩)] w fun e w' => e = .returned (.tuple #[]) ∧ Stp w B c V (unexT c p) w' := by
  have HT : Hid (∀ W, PM W B c V p → Calls Tryz.prog 62 #[.pointer (some ⟨B, 0, none⟩)] W fun e w' => e = .returned (.agg #[.int .i32 (kdT c p), .int .u8 (vlT c p), .int .i64 (szT c p : Int)]) ∧ Below W.heap.size W w') := fun W h => token_any W B c V p h
  have HFl : Hid (∀ W, PM W B c V p → Calls Tryz.prog 104 #[.pointer (some ⟨B, 0, none⟩), .int .i64 1, .int .i64 ((p.at_ + szT c p - 1 : Nat) : Int)] W fun e w' => e = .returned (.tuple #[]) ∧ Stp W B c V (unexT c p) w') := fun W h => fail_any W B c V p h 1 _
  have hsz := sz_le c p
  have h8 := h.sz
  have h9 := h.at_
  have hfd := fldTk
  have HPd := Lib.hid h.drew
  obtain ⟨⟨x0, x1, x2, x3, x4, x5, x6, x7⟩, xf⟩ := HPd.out.pa.all
  generalize kdT c p = K at *
  generalize vlT c p = v at *
  have hcast : ((p.at_ + szT c p - 1 : Nat) : Int) = (p.at_ : Int) + (szT c p : Int) - 1 := by omega
  rw [hcast] at HFl
  generalize szT c p = z at *
  have hb1 : (p.at_ : Int) ≤ 256 := by omega
  have hb2 : (z : Int) ≤ 2 := by omega
  have hb3 : (1 : Int) ≤ z := by omega
  have hw1 : IntKind.i64.wrap ((p.at_ : Int) + (z : Int)) = (p.at_ : Int) + (z : Int) := IntWalk.i64_in _ (by omega)
  have hw2 : IntKind.i64.wrap ((p.at_ : Int) + (z : Int) - 1) = (p.at_ : Int) + (z : Int) - 1 := IntWalk.i64_in _ (by omega)
  clear h hsz h8 h9 hcast
  go_enter Tryz.func90, Tryz.ntmps90
  go_wp2
  refine wp_region_held_drew (S := fun _ => True) (by kernel_rfl) ?_ (fun hHeld => ?_)
  · exact trivial
  refine wpAnyH_take (i := 0) (v := ?av0) rfl (by kernel_rfl) (by kernel_rfl) (by kernel_rfl) (fun _ _ _ h => h) (Or.inl ⟨by rfl, ?ay0⟩) (by assumption) ?ar0
  case ay0 =>
    intro wx hSw
    clear hSw
    go_simp
    first | done | (with_reducible rfl)
  (try simp only [Act.put, List.getElem_toArray, List.getElem_cons_zero, List.setIfInBounds_toArray, List.set_cons_zero, List.set_cons_succ])
  refine wpAnyH_take (i := 1) (v := ?av1) rfl (by kernel_rfl) (by kernel_rfl) (by kernel_rfl) (fun _ _ _ h => h) (Or.inl ⟨by rfl, ?ay1⟩) (by assumption) ?ar1
  case ay1 =>
    intro wx hSw
    clear hSw
    go_simp
    first | done | (with_reducible rfl)
  (try simp only [Act.put, List.getElem_toArray, List.getElem_cons_succ, List.getElem_cons_zero, List.setIfInBounds_toArray, List.set_cons_zero, List.set_cons_succ])
  refine wpAnyH_take (i := 2) (v := ?av2) rfl (by kernel_rfl) (by kernel_rfl) (by kernel_rfl) (fun _ _ _ h => h) (Or.inl ⟨by rfl, ?ay2⟩) (by assumption) ?ar2
  case ay2 =>
    intro wx hSw
    clear hSw
    go_simp
    first | done | (with_reducible rfl)
  (try simp only [Act.put, List.getElem_toArray, List.getElem_cons_succ, List.getElem_cons_zero, List.setIfInBounds_toArray, List.set_cons_zero, List.set_cons_succ])
  refine wpAnyH_take (i := 3) (v := ?av3) rfl (by kernel_rfl) (by kernel_rfl) (by kernel_rfl) (fun _ _ _ h => h) (Or.inl ⟨by rfl, ?ay3⟩) (by assumption) ?ar3
  case ay3 =>
    intro wx hSw
    clear hSw
    go_simp
    first | done | (with_reducible rfl)
  (try simp only [Act.put, List.getElem_toArray, List.getElem_cons_succ, List.getElem_cons_zero, List.setIfInBounds_toArray, List.set_cons_zero, List.set_cons_succ])
  refine wpAnyH_take (i := 5) (v := ?av5) rfl (by kernel_rfl) (by kernel_rfl) (by kernel_rfl) (fun _ _ _ h => h) (Or.inl ⟨by rfl, ?ay5⟩) (by assumption) ?ar5
  case ay5 =>
    intro wx hSw
    clear hSw
    go_simp
    first | done | (with_reducible rfl)
  (try simp only [Act.put, List.getElem_toArray, List.getElem_cons_succ, List.getElem_cons_zero, List.setIfInBounds_toArray, List.set_cons_zero, List.set_cons_succ])
  refine wpAnyH_ready (rs := [4, 6]) (by kernel_rfl) (by simp) ?_
  refine AllReadyH.cons rfl (fun K hK => ?_) (AllReadyH.cons rfl (fun K hK => ?_) AllReadyH.nil)
  · go_simp
    refine hK.out _ _ trivial (fun _ => ?_)
    clear hK K
    (try simp only [Act.put, List.getElem_toArray, List.getElem_cons_succ, List.getElem_cons_zero, List.setIfInBounds_toArray, List.set_cons_zero, List.set_cons_succ])
    clear x0 x1 x2 x3 x4 x5 x6 x7 xf
    refine wpAnyH_ready (rs := [6]) (by kernel_rfl) (by simp) ?_
    refine AllReadyH.cons rfl (fun K hK => ?_) AllReadyH.nil
    go_simp
    go_at_call 62
    refine (HT.out _ HPd.out).mono ?_
    rintro e w1 ⟨rfl, hb⟩
    have HS := Lib.hid (Stp.of_below HPd.out hb)
    obtain ⟨⟨x0, x1, x2, x3, x4, x5, x6, x7⟩, xf⟩ := HS.out.1.pa.all
    clear hb
    refine hK.out _ _ trivial (fun _ => ?_)
    clear hK K
    (try simp only [Act.put, List.getElem_toArray, List.getElem_cons_succ, List.getElem_cons_zero, List.setIfInBounds_toArray, List.set_cons_zero, List.set_cons_succ])
    refine wpAnyH_take (i := 7) (v := ?bv7) rfl (by kernel_rfl) (by kernel_rfl) (by kernel_rfl) (fun _ _ _ h => h) (Or.inl ⟨by rfl, ?by7⟩) (by assumption) ?br7
    case by7 =>
      intro wx hSw
      clear hSw
      go_simp
      first | done | (with_reducible rfl)
    (try simp only [Act.put, List.getElem_toArray, List.getElem_cons_succ, List.getElem_cons_zero, List.setIfInBounds_toArray, List.set_cons_zero, List.set_cons_succ])
    refine wpAnyH_take (i := 8) (v := ?bv8) rfl (by kernel_rfl) (by kernel_rfl) (by kernel_rfl) (fun _ _ _ h => h) (Or.inl ⟨by rfl, ?by8⟩) (by assumption) ?br8
    case by8 =>
      intro wx hSw
      clear hSw
      go_simp
      first | done | (with_reducible rfl)
    (try simp only [Act.put, List.getElem_toArray, List.getElem_cons_succ, List.getElem_cons_zero, List.setIfInBounds_toArray, List.set_cons_zero, List.set_cons_succ])
    refine wpAnyH_take (i := 9) (v := ?bv9) rfl (by kernel_rfl) (by kernel_rfl) (by kernel_rfl) (fun _ _ _ h => h) (Or.inl ⟨by rfl, ?by9⟩) (by assumption) ?br9
    case by9 =>
      intro wx hSw
      clear hSw
      go_simp
      first | done | (with_reducible rfl)
    (try simp only [Act.put, List.getElem_toArray, List.getElem_cons_succ, List.getElem_cons_zero, List.setIfInBounds_toArray, List.set_cons_zero, List.set_cons_succ])
    refine wpAnyH_ready (rs := [10]) (by kernel_rfl) (by simp) ?_
    refine AllReadyH.cons rfl (fun K hK => ?_) AllReadyH.nil
    go_simp
    go_at_call 104
    refine (HFl.out _ HS.out.1).mono ?_
    rintro e w2 ⟨rfl, hs⟩
    have HE := Lib.hid (HS.out.trans hs)
    clear hs
    refine hK.out _ _ trivial (fun _ => ?_)
    clear hK K
    (try simp only [Act.put, List.getElem_toArray, List.getElem_cons_succ, List.getElem_cons_zero, List.setIfInBounds_toArray, List.set_cons_zero, List.set_cons_succ])
    refine wpAnyH_done (by kernel_rfl) ?_ _
    go_wp2
    go_end0
    exact ⟨rfl, (Stp.trans ⟨HPd.out, (Only.refl B w).drew⟩ HE.out)⟩
  · clear x0 x1 x2 x3 x4 x5 x6 x7 xf
    go_simp
    go_at_call 62
    refine (HT.out _ HPd.out).mono ?_
    rintro e w1 ⟨rfl, hb⟩
    have HS := Lib.hid (Stp.of_below HPd.out hb)
    obtain ⟨⟨x0, x1, x2, x3, x4, x5, x6, x7⟩, xf⟩ := HS.out.1.pa.all
    clear hb
    refine hK.out _ _ trivial (fun _ => ?_)
    clear hK K
    (try simp only [Act.put, List.getElem_toArray, List.getElem_cons_succ, List.getElem_cons_zero, List.setIfInBounds_toArray, List.set_cons_zero, List.set_cons_succ])
    refine wpAnyH_take (i := 7) (v := ?cv7) rfl (by kernel_rfl) (by kernel_rfl) (by kernel_rfl) (fun _ _ _ h => h) (Or.inl ⟨by rfl, ?cy7⟩) (by assumption) ?cr7
    case cy7 =>
      intro wx hSw
      clear hSw
      go_simp
      first | done | (with_reducible rfl)
    (try simp only [Act.put, List.getElem_toArray, List.getElem_cons_succ, List.getElem_cons_zero, List.setIfInBounds_toArray, List.set_cons_zero, List.set_cons_succ])
    refine wpAnyH_ready (rs := [4]) (by kernel_rfl) (by simp) ?_
    refine AllReadyH.cons rfl (fun K hK => ?_) AllReadyH.nil
    go_simp
    refine hK.out _ _ trivial (fun _ => ?_)
    clear hK K
    (try simp only [Act.put, List.getElem_toArray, List.getElem_cons_succ, List.getElem_cons_zero, List.setIfInBounds_toArray, List.set_cons_zero, List.set_cons_succ])
    refine wpAnyH_take (i := 8) (v := ?cv8) rfl (by kernel_rfl) (by kernel_rfl) (by kernel_rfl) (fun _ _ _ h => h) (Or.inl ⟨by rfl, ?cy8⟩) (by assumption) ?cr8
    case cy8 =>
      intro wx hSw
      clear hSw
      go_simp
      first | done | (with_reducible rfl)
    (try simp only [Act.put, List.getElem_toArray, List.getElem_cons_succ, List.getElem_cons_zero, List.setIfInBounds_toArray, List.set_cons_zero, List.set_cons_succ])
    refine wpAnyH_take (i := 9) (v := ?cv9) rfl (by kernel_rfl) (by kernel_rfl) (by kernel_rfl) (fun _ _ _ h => h) (Or.inl ⟨by rfl, ?cy9⟩) (by assumption) ?cr9
    case cy9 =>
      intro wx hSw
      clear hSw
      go_simp
      first | done | (with_reducible rfl)
    (try simp only [Act.put, List.getElem_toArray, List.getElem_cons_succ, List.getElem_cons_zero, List.setIfInBounds_toArray, List.set_cons_zero, List.set_cons_succ])
    refine wpAnyH_ready (rs := [10]) (by kernel_rfl) (by simp) ?_
    refine AllReadyH.cons rfl (fun K hK => ?_) AllReadyH.nil
    go_simp
    go_at_call 104
    refine (HFl.out _ HS.out.1).mono ?_
    rintro e w2 ⟨rfl, hs⟩
    have HE := Lib.hid (HS.out.trans hs)
    clear hs
    refine hK.out _ _ trivial (fun _ => ?_)
    clear hK K
    (try simp only [Act.put, List.getElem_toArray, List.getElem_cons_succ, List.getElem_cons_zero, List.setIfInBounds_toArray, List.set_cons_zero, List.set_cons_succ])
    refine wpAnyH_done (by kernel_rfl) ?_ _
    go_wp2
    go_end0
    exact ⟨rfl, (Stp.trans ⟨HPd.out, (Only.refl B w).drew⟩ HE.out)⟩
end Go.Proofs.YtphiaagppcbefaaGreatDoor
