/- The chapter's examples, and the first law of layer 4: what Of and Range make. -/
import Derived.Test.YtaodginhdfjpaaaDoorRows
import Derived.Test.YtaodginhdfjpaaaDoorCsEq
set_option linter.unusedVariables false
namespace Go.Proofs.YtaodginhdfjpaaaDoor
open Go.RowKit

theorem el_abc : bl (el (setOf [99, 97, 98, 99]) 256) = [97, 98, 99] := by decide +kernel
theorem el_abc_length : (el (setOf [99, 97, 98, 99]) 256).length = 3 := by decide +kernel
theorem el_za_length : (el (between 122 97) 256).length = 0 := by decide +kernel
theorem el_full_length : (el (fun _ => true) 256).length = 256 := el_true 256
theorem eq_guard : Tryd.prog.eqGuardType Tryd.prog.depth 26 = false := by kernel_rfl

set_option maxHeartbeats 2000000 in
theorem awake_any (w : World) (hT : tabAt w) : Calls Tryd.prog 8 #[] w fun e w' => e = .returned (.bool true) ∧ Below w.heap.size w w' := by
  have HT := Lib.hid hT
  clear hT
  have HB := Lib.hid (Below.refl w.heap.size w)
  have H1 := Lib.hid (of_any ⟨#[99, 97, 98, 99]⟩ (by decide))
  have H2 := Lib.hid (list_any (setOf [99, 97, 98, 99]))
  have H3 := Lib.hid (count_any (setOf [99, 97, 98, 99]))
  have H4 : Hid (∀ w, Calls Tryd.prog 11 #[.int .u8 122, .int .u8 97] w fun e w' => e = .returned (cs (between 122 97)) ∧ Below w.heap.size w w') := range_any 122 97 (by decide) (by decide)
  have H5 := Lib.hid (count_any (between 122 97))
  have H6 : Hid (∀ w, Calls Tryd.prog 25 #[cs fun _ => false] w fun e w' => e = .returned (cs fun _ => true) ∧ Below w.heap.size w w') := compl_any fun _ => false
  have H7 := Lib.hid (count_any fun _ => true)
  rw [el_abc] at H2
  rw [el_abc_length] at H3
  rw [el_za_length] at H5
  rw [el_full_length] at H7
  unfold cs at *
  rw [← cl_zero] at H6
  unfold cl at *
  go_enter Tryd.func8, Tryd.ntmps8
  go_wp2_with (first
    | (go_at_call 9; refine (H1.out _).mono ?_; rintro e w1 ⟨rfl, hb⟩; have HB := Lib.hid (HB.out.trans (hb.mono HB.out.size)); clear hb)
    | (go_at_call 15; refine (H2.out _ (by exact tab_keep HT.out HB.out)).mono ?_; rintro e w1 ⟨rfl, hb⟩; have HB := Lib.hid (HB.out.trans (hb.mono HB.out.size)); clear hb)
    | (go_at_call 11; refine (H4.out _).mono ?_; rintro e w1 ⟨rfl, hb⟩; have HB := Lib.hid (HB.out.trans (hb.mono HB.out.size)); clear hb)
    | (go_at_call 25; refine (H6.out _).mono ?_; rintro e w1 ⟨rfl, hb⟩; have HB := Lib.hid (HB.out.trans (hb.mono HB.out.size)); clear hb)
    | (go_at_call 17; with_reducible refine (H3.out _).mono ?_; rintro e w1 ⟨rfl, hb⟩; have HB := Lib.hid (HB.out.trans (hb.mono HB.out.size)); clear hb)
    | (go_at_call 17; with_reducible refine (H5.out _).mono ?_; rintro e w1 ⟨rfl, hb⟩; have HB := Lib.hid (HB.out.trans (hb.mono HB.out.size)); clear hb)
    | (go_at_call 17; with_reducible refine (H7.out _).mono ?_; rintro e w1 ⟨rfl, hb⟩; have HB := Lib.hid (HB.out.trans (hb.mono HB.out.size)); clear hb))
  go_ret
  exact ⟨rfl, HB.out⟩

set_option maxHeartbeats 4000000 in
theorem charsetOf_law (s : ByteArray) (lo hi : Nat) (hl : lo < 256) (hh : hi < 256) (w : World) (hT : tabAt w) :
    Calls Tryd.prog 3 #[.string s, .int .u8 lo, .int .u8 hi] w fun e w' => e = .returned (.bool true) ∧ Below w.heap.size w w' := by
  have HT := Lib.hid hT
  clear hT
  have HB := Lib.hid (Below.refl w.heap.size w)
  have HA := Lib.hid awake_any
  by_cases hs : s.size ≤ 300
  · have hS : ¬ (300 : Int) < s.size := by omega
    have H1 := Lib.hid (of_any s hs)
    have H2 := Lib.hid (rof_any s hs)
    have H3 := Lib.hid (range_any lo hi hl hh)
    have H4 := Lib.hid (rrange_any lo hi hl hh)
    have hg := eq_guard
    unfold cs cl at *
    have he1 := eql_same (wd (setOf s.data.toList) 0 64 : Nat) (wd (setOf s.data.toList) 64 64 : Nat) (wd (setOf s.data.toList) 128 64 : Nat) (wd (setOf s.data.toList) 192 64 : Nat)
    have he2 := eql_same (wd (between lo hi) 0 64 : Nat) (wd (between lo hi) 64 64 : Nat) (wd (between lo hi) 128 64 : Nat) (wd (between lo hi) 192 64 : Nat)
    clear hs
    go_enter Tryd.func3, Tryd.ntmps3
    go_wp2_with (first
      | (go_at_call 9; refine (H1.out _).mono ?_; rintro e w1 ⟨rfl, hb⟩; have HB := Lib.hid (HB.out.trans (hb.mono HB.out.size)); clear hb)
      | (go_at_call 10; refine (H2.out _).mono ?_; rintro e w1 ⟨rfl, hb⟩; have HB := Lib.hid (HB.out.trans (hb.mono HB.out.size)); clear hb)
      | (go_at_call 11; refine (H3.out _).mono ?_; rintro e w1 ⟨rfl, hb⟩; have HB := Lib.hid (HB.out.trans (hb.mono HB.out.size)); clear hb)
      | (go_at_call 12; refine (H4.out _).mono ?_; rintro e w1 ⟨rfl, hb⟩; have HB := Lib.hid (HB.out.trans (hb.mono HB.out.size)); clear hb)
      | (go_at_call 8; refine (HA.out _ (by exact tab_keep HT.out HB.out)).mono ?_; rintro e w1 ⟨rfl, hb⟩; have HB := Lib.hid (HB.out.trans (hb.mono HB.out.size)); clear hb))
    go_ret
    exact ⟨rfl, HB.out⟩
  · have hS : (300 : Int) < s.size := by omega
    clear hs
    go_enter Tryd.func3, Tryd.ntmps3
    go_wp2_with (first
      | (go_at_call 8; refine (HA.out _ (by exact tab_keep HT.out HB.out)).mono ?_; rintro e w1 ⟨rfl, hb⟩; have HB := Lib.hid (HB.out.trans (hb.mono HB.out.size)); clear hb))
    go_ret
    exact ⟨rfl, HB.out⟩
end Go.Proofs.YtaodginhdfjpaaaDoor
