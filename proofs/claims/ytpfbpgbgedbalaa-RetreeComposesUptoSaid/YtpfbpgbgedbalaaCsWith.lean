/- The reference's way to put a byte into a set. -/
import Derived.Test.YtpfbpgbgedbalaaRows
import Derived.Test.YtpfbpgbgedbalaaCsRow
namespace Go.Proofs.Ytpfbpgbgedbalaa
open Go.RowKit

theorem wrap_ins (p : Nat → Bool) (c j : Nat) (h : c / 64 = j) (hp : p c = false) : IntKind.u64.wrap (((wd p (64 * j) 64 : Nat) : Int) + IntKind.u64.wrap ((2 : Int) ^ (c % 64))) = ((wd (ins p c) (64 * j) 64 : Nat) : Int) := by
  subst h
  have e := wd_ins_add p c hp
  have l := wd_lt64 (ins p c) (64 * (c / 64))
  rw [pow_cast, add64 _ _ (by omega), e]

/-- The world in which a function stands that has boxed one set and made room for its result. -/
def W2 (w : World) (p : Nat → Bool) : World := (w.alloc (.cells (cl p) 25)).alloc (.cells #[.int .u64 0, .int .u64 0, .int .u64 0, .int .u64 0] 25)
theorem W2_one (w : World) (p : Nat → Bool) : At (W2 w p) w.heap.size p := (At.new w p).alloc _
theorem W2_two (w : World) (p : Nat → Bool) : At (W2 w p) (w.heap.size + 1) (fun _ => false) := by
  have := At.new (w.alloc (.cells (cl p) 25)) (fun _ => false)
  unfold W2
  rw [cl_zero]
  simpa using this
theorem W2_below (w : World) (p : Nat → Bool) : Below w.heap.size w (W2 w p) := ((Below.refl _ _).alloc (Nat.le_refl _) _).alloc (by simp) _

set_option linter.unusedVariables false in
theorem with_any (p : Nat → Bool) (c : Nat) (hc : c < 256) (w : World) : Calls Try.prog 68 #[cs p, .int .u8 c] w fun e w' => e = .returned (cs (ins p c)) ∧ Below w.heap.size w w' := by
  obtain ⟨j, hj⟩ : ∃ j, c / 64 = j := ⟨_, rfl⟩
  have hj4 : j < 4 := by omega
  have hq : (c : Int) / 64 = (j : Int) := by omega
  have hz : IntKind.u8.wrap (j : Int) = (j : Int) := IntWalk.u8_in _ (by omega)
  have hj0 : (j : Int) < 4 := by omega
  have A1 := Lib.hid (W2_one w p)
  have A2 := Lib.hid (W2_two w p)
  have HB := Lib.hid (W2_below w p)
  have Hp := Lib.hid (rhas_any p c hc)
  by_cases hp : p c = true
  · rw [ins_same p c hp]
    unfold cs cl at Hp ⊢
    go_enter Try.func68, Try.ntmps68
    go_wp2_with (first
      | (go_at_call 18
         refine (Hp.out _).mono ?_
         rintro e w1 ⟨rfl, hb⟩
         have HB1 : Hid (Below w.heap.size w w1) := Lib.hid (HB.out.trans (hb.mono (by simp; omega)))
         have B1 : At w1 w.heap.size p := A1.out.below hb A1.out.lt
         have B2 : At w1 (w.heap.size + 1) (fun _ => false) := A2.out.below hb A2.out.lt
         have HA := Lib.hid B2
         clear hb
         obtain ⟨⟨c0, c1⟩, ⟨c2, c3⟩, hf⟩ := B1.words
         obtain ⟨⟨d0, d1⟩, ⟨d2, d3⟩, hg⟩ := B2.words
         clear B1 B2))
    exact bodyPost_ret (v := cs p) (ret_cs (q := p) Try.results68 _ _ (w.heap.size + 1) (by simp) (HA.out.put4 p)) rfl ⟨rfl, below_put4 HB1.out _ (by omega) p⟩
  · simp only [Bool.not_eq_true] at hp
    have hk := wrap_ins p c j hj hp
    unfold cs cl at Hp ⊢
    go_enter Try.func68, Try.ntmps68
    go_wp2_with (first
      | (go_at_call 18
         refine (Hp.out _).mono ?_
         rintro e w1 ⟨rfl, hb⟩
         have HB1 : Hid (Below w.heap.size w w1) := Lib.hid (HB.out.trans (hb.mono (by simp; omega)))
         have B1 : At w1 w.heap.size p := A1.out.below hb A1.out.lt
         have B2 : At w1 (w.heap.size + 1) (fun _ => false) := A2.out.below hb A2.out.lt
         clear hb
         have cj := B1.got j hj4
         have hf := B1.free
         have E1 : At (w1.setCell ⟨w.heap.size, j, none⟩ (.int .u64 ((wd (ins p c) (64 * j) 64 : Nat) : Int))) w.heap.size (ins p c) := B1.word (ins p c) j hj4 (by rw [← hj]; exact ins_other p c) _ rfl
         have E2 : At (w1.setCell ⟨w.heap.size, j, none⟩ (.int .u64 ((wd (ins p c) (64 * j) 64 : Nat) : Int))) (w.heap.size + 1) (fun _ => false) := B2.apart _ (by omega)
         have HA := Lib.hid E2
         obtain ⟨⟨c0, c1⟩, ⟨c2, c3⟩, hf'⟩ := E1.words
         obtain ⟨⟨d0, d1⟩, ⟨d2, d3⟩, hg⟩ := E2.words
         clear B1 B2 E1 E2))
    exact bodyPost_ret (v := cs (ins p c)) (ret_cs (q := ins p c) Try.results68 _ _ (w.heap.size + 1) (by simp) (HA.out.put4 (ins p c))) rfl ⟨rfl, below_put4 (HB1.out.setCell (Nat.le_refl _) _) _ (by omega) (ins p c)⟩
end Go.Proofs.Ytpfbpgbgedbalaa
