/- The law of Boolean algebras. (Written by gen_alg.py.) -/
import Derived.Test.YtaodginhdfjpaaaDoorRows
import Derived.Test.YtaodginhdfjpaaaDoorCsLawsC
set_option linter.unusedVariables false
namespace Go.Proofs.YtaodginhdfjpaaaDoor
open Go.RowKit

theorem union_as (p q r : Nat → Bool) (h : ∀ x, (p x || q x) = r x) (w : World) : Calls Tryd.prog 19 #[cs p, cs q] w fun e w' => e = .returned (cs r) ∧ Below w.heap.size w w' := by
  have e : r = fun x => p x || q x := by funext x; exact (h x).symm
  rw [e]; exact union_any p q w
theorem inter_as (p q r : Nat → Bool) (h : ∀ x, (p x && q x) = r x) (w : World) : Calls Tryd.prog 21 #[cs p, cs q] w fun e w' => e = .returned (cs r) ∧ Below w.heap.size w w' := by
  have e : r = fun x => p x && q x := by funext x; exact (h x).symm
  rw [e]; exact inter_any p q w
theorem minus_as (p q r : Nat → Bool) (h : ∀ x, (p x && !q x) = r x) (w : World) : Calls Tryd.prog 23 #[cs p, cs q] w fun e w' => e = .returned (cs r) ∧ Below w.heap.size w w' := by
  have e : r = fun x => p x && !q x := by funext x; exact (h x).symm
  rw [e]; exact minus_any p q w
theorem compl_as (p r : Nat → Bool) (h : ∀ x, (!p x) = r x) (w : World) : Calls Tryd.prog 25 #[cs p] w fun e w' => e = .returned (cs r) ∧ Below w.heap.size w w' := by
  have e : r = fun x => !p x := by funext x; exact (h x).symm
  rw [e]; exact compl_any p w

/-- The world in which a law stands that has boxed three sets. -/
def B3 (w : World) (p q r : Nat → Bool) : World := (B2 w p q).alloc (.cells (cl r) 26)
/-- What a law that has boxed three sets holds of the world. -/
abbrev L3 (w0 : World) (p q r : Nat → Bool) (w : World) : Prop := Wds w w0.heap.size p ∧ Wds w (w0.heap.size + 1) q ∧ Wds w (w0.heap.size + 2) r ∧ tabAt w ∧ Below w0.heap.size w0 w
theorem L3.start (w0 : World) (p q r : Nat → Bool) (h : tabAt w0) : L3 w0 p q r (B3 w0 p q r) :=
  have h2 := L2.start w0 p q h
  have e : (B2 w0 p q).heap.size = w0.heap.size + 2 := by simp [B2]
  have hb : Below (B2 w0 p q).heap.size (B2 w0 p q) (B3 w0 p q r) := (Below.refl _ _).alloc (Nat.le_refl _) _
  have h3 : At (B3 w0 p q r) (w0.heap.size + 2) r := by
    have := At.new (B2 w0 p q) r
    rw [e] at this
    exact this
  ⟨h2.1.keep hb, h2.2.1.keep hb, Wds.of h3, tab_keep h2.2.2.1 hb, h2.2.2.2.trans (hb.mono h2.2.2.2.size)⟩
theorem L3.drew {w0 w : World} {p q r : Nat → Bool} (h : L3 w0 p q r w) : L3 w0 p q r w.drew := ⟨h.1, h.2.1, h.2.2.1, h.2.2.2.1, h.2.2.2.2.drew⟩
theorem L3.keep {w0 w w' : World} {p q r : Nat → Bool} (hb : Below w.heap.size w w') (h : L3 w0 p q r w) : L3 w0 p q r w' :=
  ⟨h.1.keep hb, h.2.1.keep hb, h.2.2.1.keep hb, tab_keep h.2.2.2.1 hb, h.2.2.2.2.trans (hb.mono h.2.2.2.2.size)⟩
theorem L3.tab {w0 w : World} {p q r : Nat → Bool} (h : L3 w0 p q r w) : tabAt w := h.2.2.2.1

set_option maxRecDepth 100000 in
set_option maxHeartbeats 40000000 in
theorem charsetAlgebra_law (a b c : Nat → Bool) (w : World) (hT : tabAt w) :
    Calls Tryd.prog 6 #[cs a, cs b, cs c] w fun e w' => e = .returned (.bool true) ∧ Below w.heap.size w w' := by
  have HS := Lib.hid (L3.start w a b c hT)
  clear hT
  have HA := Lib.hid awake_any
  have HC : Hid (∀ w, Calls Tryd.prog 17 #[cs fun _ => true] w fun e w' => e = .returned (.int .i64 256) ∧ Below w.heap.size w w') := fun w => by
    have := count_any (fun _ => true) w
    rw [el_full_length] at this
    exact this
  obtain ⟨f1, hf1⟩ : ∃ f : Nat → Bool, ∀ x, f x = (a x || b x) := ⟨fun x => a x || b x, fun _ => rfl⟩
  obtain ⟨f2, hf2⟩ : ∃ f : Nat → Bool, ∀ x, f x = (a x && b x) := ⟨fun x => a x && b x, fun _ => rfl⟩
  obtain ⟨f3, hf3⟩ : ∃ f : Nat → Bool, ∀ x, f x = (a x || (b x || c x)) := ⟨fun x => a x || (b x || c x), fun _ => rfl⟩
  obtain ⟨f4, hf4⟩ : ∃ f : Nat → Bool, ∀ x, f x = (b x || c x) := ⟨fun x => b x || c x, fun _ => rfl⟩
  obtain ⟨f5, hf5⟩ : ∃ f : Nat → Bool, ∀ x, f x = (a x && (b x && c x)) := ⟨fun x => a x && (b x && c x), fun _ => rfl⟩
  obtain ⟨f6, hf6⟩ : ∃ f : Nat → Bool, ∀ x, f x = (b x && c x) := ⟨fun x => b x && c x, fun _ => rfl⟩
  obtain ⟨f7, hf7⟩ : ∃ f : Nat → Bool, ∀ x, f x = (a x && (b x || c x)) := ⟨fun x => a x && (b x || c x), fun _ => rfl⟩
  obtain ⟨f8, hf8⟩ : ∃ f : Nat → Bool, ∀ x, f x = (a x && c x) := ⟨fun x => a x && c x, fun _ => rfl⟩
  obtain ⟨f9, hf9⟩ : ∃ f : Nat → Bool, ∀ x, f x = (a x || (b x && c x)) := ⟨fun x => a x || (b x && c x), fun _ => rfl⟩
  obtain ⟨f10, hf10⟩ : ∃ f : Nat → Bool, ∀ x, f x = (a x || c x) := ⟨fun x => a x || c x, fun _ => rfl⟩
  obtain ⟨f11, hf11⟩ : ∃ f : Nat → Bool, ∀ x, f x = (!(a x || b x)) := ⟨fun x => !(a x || b x), fun _ => rfl⟩
  obtain ⟨n1, hn1⟩ : ∃ f : Nat → Bool, ∀ x, f x = (!a x) := ⟨fun x => !a x, fun _ => rfl⟩
  obtain ⟨n2, hn2⟩ : ∃ f : Nat → Bool, ∀ x, f x = (!b x) := ⟨fun x => !b x, fun _ => rfl⟩
  obtain ⟨f12, hf12⟩ : ∃ f : Nat → Bool, ∀ x, f x = (a x && !b x) := ⟨fun x => a x && !b x, fun _ => rfl⟩
  have H0 := Lib.hid (union_as a b f1 (fun x => by simp only [hf1] <;> (cases a x <;> cases b x <;> cases c x <;> rfl)))
  have H1 := Lib.hid (union_as b a f1 (fun x => by simp only [hf1] <;> (cases a x <;> cases b x <;> cases c x <;> rfl)))
  have H2 := Lib.hid (inter_as a b f2 (fun x => by simp only [hf2] <;> (cases a x <;> cases b x <;> cases c x <;> rfl)))
  have H3 := Lib.hid (inter_as b a f2 (fun x => by simp only [hf2] <;> (cases a x <;> cases b x <;> cases c x <;> rfl)))
  have H4 := Lib.hid (union_as f1 c f3 (fun x => by simp only [hf1, hf3] <;> (cases a x <;> cases b x <;> cases c x <;> rfl)))
  have H5 := Lib.hid (union_as b c f4 (fun x => by simp only [hf4] <;> (cases a x <;> cases b x <;> cases c x <;> rfl)))
  have H6 := Lib.hid (union_as a f4 f3 (fun x => by simp only [hf3, hf4] <;> (cases a x <;> cases b x <;> cases c x <;> rfl)))
  have H7 := Lib.hid (inter_as f2 c f5 (fun x => by simp only [hf2, hf5] <;> (cases a x <;> cases b x <;> cases c x <;> rfl)))
  have H8 := Lib.hid (inter_as b c f6 (fun x => by simp only [hf6] <;> (cases a x <;> cases b x <;> cases c x <;> rfl)))
  have H9 := Lib.hid (inter_as a f6 f5 (fun x => by simp only [hf5, hf6] <;> (cases a x <;> cases b x <;> cases c x <;> rfl)))
  have H10 := Lib.hid (inter_as a f4 f7 (fun x => by simp only [hf4, hf7] <;> (cases a x <;> cases b x <;> cases c x <;> rfl)))
  have H11 := Lib.hid (inter_as a c f8 (fun x => by simp only [hf8] <;> (cases a x <;> cases b x <;> cases c x <;> rfl)))
  have H12 := Lib.hid (union_as f2 f8 f7 (fun x => by simp only [hf2, hf7, hf8] <;> (cases a x <;> cases b x <;> cases c x <;> rfl)))
  have H13 := Lib.hid (union_as a f6 f9 (fun x => by simp only [hf6, hf9] <;> (cases a x <;> cases b x <;> cases c x <;> rfl)))
  have H14 := Lib.hid (union_as a c f10 (fun x => by simp only [hf10] <;> (cases a x <;> cases b x <;> cases c x <;> rfl)))
  have H15 := Lib.hid (inter_as f1 f10 f9 (fun x => by simp only [hf1, hf10, hf9] <;> (cases a x <;> cases b x <;> cases c x <;> rfl)))
  have H16 := Lib.hid (compl_as f1 f11 (fun x => by simp only [hf1, hf11] <;> (cases a x <;> cases b x <;> cases c x <;> rfl)))
  have H17 := Lib.hid (compl_as a n1 (fun x => by simp only [hn1] <;> (cases a x <;> cases b x <;> cases c x <;> rfl)))
  have H18 := Lib.hid (compl_as b n2 (fun x => by simp only [hn2] <;> (cases a x <;> cases b x <;> cases c x <;> rfl)))
  have H19 := Lib.hid (inter_as n1 n2 f11 (fun x => by simp only [hf11, hn1, hn2] <;> (cases a x <;> cases b x <;> cases c x <;> rfl)))
  have H20 := Lib.hid (compl_as n1 a (fun x => by simp only [hn1] <;> (cases a x <;> cases b x <;> cases c x <;> rfl)))
  have H21 := Lib.hid (inter_as a n1 (fun _ => false) (fun x => by simp only [hn1] <;> (cases a x <;> cases b x <;> cases c x <;> rfl)))
  have H22 := Lib.hid (union_as a n1 (fun _ => true) (fun x => by simp only [hn1] <;> (cases a x <;> cases b x <;> cases c x <;> rfl)))
  have H23 := Lib.hid (minus_as a b f12 (fun x => by simp only [hf12] <;> (cases a x <;> cases b x <;> cases c x <;> rfl)))
  have H24 := Lib.hid (inter_as a n2 f12 (fun x => by simp only [hf12, hn2] <;> (cases a x <;> cases b x <;> cases c x <;> rfl)))
  clear hf1 hf2 hf3 hf4 hf5 hf6 hf7 hf8 hf9 hf10 hf11 hn1 hn2 hf12
  have hg := eq_guard
  unfold cs at *
  rw [← cl_zero] at H21
  unfold cl at *
  have he0 := eql_same (wd f1 0 64 : Nat) (wd f1 64 64 : Nat) (wd f1 128 64 : Nat) (wd f1 192 64 : Nat)
  have he1 := eql_same (wd f2 0 64 : Nat) (wd f2 64 64 : Nat) (wd f2 128 64 : Nat) (wd f2 192 64 : Nat)
  have he2 := eql_same (wd f3 0 64 : Nat) (wd f3 64 64 : Nat) (wd f3 128 64 : Nat) (wd f3 192 64 : Nat)
  have he3 := eql_same (wd f5 0 64 : Nat) (wd f5 64 64 : Nat) (wd f5 128 64 : Nat) (wd f5 192 64 : Nat)
  have he4 := eql_same (wd f7 0 64 : Nat) (wd f7 64 64 : Nat) (wd f7 128 64 : Nat) (wd f7 192 64 : Nat)
  have he5 := eql_same (wd f9 0 64 : Nat) (wd f9 64 64 : Nat) (wd f9 128 64 : Nat) (wd f9 192 64 : Nat)
  have he6 := eql_same (wd f11 0 64 : Nat) (wd f11 64 64 : Nat) (wd f11 128 64 : Nat) (wd f11 192 64 : Nat)
  have he7 := eql_same (wd a 0 64 : Nat) (wd a 64 64 : Nat) (wd a 128 64 : Nat) (wd a 192 64 : Nat)
  have he8 := eql_same (wd f12 0 64 : Nat) (wd f12 64 64 : Nat) (wd f12 128 64 : Nat) (wd f12 192 64 : Nat)
  have hez := eql_same 0 0 0 0
  go_enter Tryd.func6, Tryd.ntmps6
  go_wp2
  generalize hW : ((w.alloc (.cells _ 26)).alloc (.cells _ 26)).alloc (.cells _ 26) = W
  have hU : B3 w a b c = W := hW
  rw [hU] at HS
  clear hU hW
  go_region_held3 (fun w' => L3 w a b c w')
    (first | exact L3.drew HS.out | exact L3.keep hb ‹_›)
    (first
      | (go_at_call 19; with_reducible refine (H0.out _).mono ?_; rintro e w1 ⟨rfl, hb⟩)
      | (go_at_call 19; with_reducible refine (H1.out _).mono ?_; rintro e w1 ⟨rfl, hb⟩)
      | (go_at_call 21; with_reducible refine (H2.out _).mono ?_; rintro e w1 ⟨rfl, hb⟩)
      | (go_at_call 21; with_reducible refine (H3.out _).mono ?_; rintro e w1 ⟨rfl, hb⟩))
  rename_i hS
  have HS := Lib.hid hS
  clear hS
  go_wp2
  go_region_held3 (fun w' => L3 w a b c w')
    (first | exact L3.drew HS.out | exact L3.keep hb ‹_›)
    (first
      | (go_at_call 19; with_reducible refine (H0.out _).mono ?_; rintro e w1 ⟨rfl, hb⟩)
      | (go_at_call 19; with_reducible refine (H4.out _).mono ?_; rintro e w1 ⟨rfl, hb⟩)
      | (go_at_call 19; with_reducible refine (H5.out _).mono ?_; rintro e w1 ⟨rfl, hb⟩)
      | (go_at_call 19; with_reducible refine (H6.out _).mono ?_; rintro e w1 ⟨rfl, hb⟩)
      | (go_at_call 21; with_reducible refine (H2.out _).mono ?_; rintro e w1 ⟨rfl, hb⟩)
      | (go_at_call 21; with_reducible refine (H7.out _).mono ?_; rintro e w1 ⟨rfl, hb⟩)
      | (go_at_call 21; with_reducible refine (H8.out _).mono ?_; rintro e w1 ⟨rfl, hb⟩)
      | (go_at_call 21; with_reducible refine (H9.out _).mono ?_; rintro e w1 ⟨rfl, hb⟩))
  rename_i hS
  have HS := Lib.hid hS
  clear hS
  go_wp2
  go_region_held3 (fun w' => L3 w a b c w')
    (first | exact L3.drew HS.out | exact L3.keep hb ‹_›)
    (first
      | (go_at_call 19; with_reducible refine (H5.out _).mono ?_; rintro e w1 ⟨rfl, hb⟩)
      | (go_at_call 21; with_reducible refine (H10.out _).mono ?_; rintro e w1 ⟨rfl, hb⟩)
      | (go_at_call 21; with_reducible refine (H2.out _).mono ?_; rintro e w1 ⟨rfl, hb⟩)
      | (go_at_call 21; with_reducible refine (H11.out _).mono ?_; rintro e w1 ⟨rfl, hb⟩)
      | (go_at_call 19; with_reducible refine (H12.out _).mono ?_; rintro e w1 ⟨rfl, hb⟩)
      | (go_at_call 21; with_reducible refine (H8.out _).mono ?_; rintro e w1 ⟨rfl, hb⟩)
      | (go_at_call 19; with_reducible refine (H13.out _).mono ?_; rintro e w1 ⟨rfl, hb⟩)
      | (go_at_call 19; with_reducible refine (H0.out _).mono ?_; rintro e w1 ⟨rfl, hb⟩)
      | (go_at_call 19; with_reducible refine (H14.out _).mono ?_; rintro e w1 ⟨rfl, hb⟩)
      | (go_at_call 21; with_reducible refine (H15.out _).mono ?_; rintro e w1 ⟨rfl, hb⟩))
  rename_i hS
  have HS := Lib.hid hS
  clear hS
  go_wp2
  go_region_held3 (fun w' => L3 w a b c w')
    (first | exact L3.drew HS.out | exact L3.keep hb ‹_›)
    (first
      | (go_at_call 19; with_reducible refine (H0.out _).mono ?_; rintro e w1 ⟨rfl, hb⟩)
      | (go_at_call 25; with_reducible refine (H16.out _).mono ?_; rintro e w1 ⟨rfl, hb⟩)
      | (go_at_call 25; with_reducible refine (H17.out _).mono ?_; rintro e w1 ⟨rfl, hb⟩)
      | (go_at_call 25; with_reducible refine (H18.out _).mono ?_; rintro e w1 ⟨rfl, hb⟩)
      | (go_at_call 21; with_reducible refine (H19.out _).mono ?_; rintro e w1 ⟨rfl, hb⟩)
      | (go_at_call 25; with_reducible refine (H20.out _).mono ?_; rintro e w1 ⟨rfl, hb⟩))
  rename_i hS
  have HS := Lib.hid hS
  clear hS
  go_wp2
  go_region_held3 (fun w' => L3 w a b c w')
    (first | exact L3.drew HS.out | exact L3.keep hb ‹_›)
    (first
      | (go_at_call 25; with_reducible refine (H17.out _).mono ?_; rintro e w1 ⟨rfl, hb⟩)
      | (go_at_call 21; with_reducible refine (H21.out _).mono ?_; rintro e w1 ⟨rfl, hb⟩)
      | (go_at_call 19; with_reducible refine (H22.out _).mono ?_; rintro e w1 ⟨rfl, hb⟩)
      | (go_at_call 17; refine (HC.out _).mono ?_; rintro e w1 ⟨rfl, hb⟩))
  rename_i hS
  have HS := Lib.hid hS
  clear hS
  go_wp2
  go_region_held3 (fun w' => L3 w a b c w')
    (first | exact L3.drew HS.out | exact L3.keep hb ‹_›)
    (first
      | (go_at_call 23; with_reducible refine (H23.out _).mono ?_; rintro e w1 ⟨rfl, hb⟩)
      | (go_at_call 25; with_reducible refine (H18.out _).mono ?_; rintro e w1 ⟨rfl, hb⟩)
      | (go_at_call 21; with_reducible refine (H24.out _).mono ?_; rintro e w1 ⟨rfl, hb⟩)
      | (go_at_call 8; refine (HA.out _ (by exact L3.tab (w0 := w) (p := a) (q := b) (r := c) (by assumption))).mono ?_; rintro e w1 ⟨rfl, hb⟩))
  rename_i hS
  have HS := Lib.hid hS
  clear hS
  go_wp2
  go_ret
  exact ⟨rfl, HS.out.2.2.2.2⟩
end Go.Proofs.YtaodginhdfjpaaaDoor
