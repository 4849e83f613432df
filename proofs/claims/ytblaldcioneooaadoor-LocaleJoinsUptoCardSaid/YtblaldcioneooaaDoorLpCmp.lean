/- cmp.Compare at numbers and at strings; strings.HasPrefix. -/
import Derived.Test.YtblaldcioneooaaDoorRows
import Derived.Test.YtblaldcioneooaaDoorLcMath
import Derived.Test.YtblaldcioneooaaDoorLpSmall
import Derived.WalkLawsBesides
import Derived.BigQuiet
import Derived.Lib.Strings
set_option linter.unusedVariables false
namespace Go.Proofs.YtblaldcioneooaaDoor
open Go.RowKit

theorem nanI_any (x : Int) (w : World) : Calls Tryd.prog 86 #[.int .i64 x] w fun e w' => e = .returned (.bool false) ∧ w = w' := by
  have hx : (x != x) = false := by simp
  go_enter Tryd.func86, Tryd.ntmps86
  go_wp2
  go_ret
  exact ⟨by simp, rfl⟩
theorem nanS_any (s : ByteArray) (w : World) : Calls Tryd.prog 87 #[.string s] w fun e w' => e = .returned (.bool false) ∧ w = w' := by
  go_enter Tryd.func87, Tryd.ntmps87
  go_wp2
  go_ret
  exact ⟨by simp, rfl⟩
/-- -1, 0 or 1. -/
def cmpI (x y : Int) : Int := if x < y then -1 else if y < x then 1 else 0
theorem cmpInt_any (x y : Int) (w : World) : Calls Tryd.prog 63 #[.int .i64 x, .int .i64 y] w fun e w' => e = .returned (.int .i64 (cmpI x y)) ∧ w = w' := by
  have H1 := Lib.hid (nanI_any x)
  have H2 := Lib.hid (nanI_any y)
  obtain ⟨R, hR⟩ : ∃ R, cmpI x y = R := ⟨_, rfl⟩
  rw [hR]
  have HR := Lib.hid hR
  clear hR
  by_cases h1 : x < y
  · have HN : Hid (R = -1) := by show R = -1; rw [← HR.out]; unfold cmpI; rw [if_pos h1]
    go_enter Tryd.func63, Tryd.ntmps63
    go_wp2_with (first
      | (go_at_call 86; with_reducible refine (H1.out _).mono ?_; rintro e w1 ⟨rfl, rfl⟩)
      | (go_at_call 86; with_reducible refine (H2.out _).mono ?_; rintro e w1 ⟨rfl, rfl⟩))
    go_ret
    exact ⟨by rw [HN.out] <;> rfl, rfl⟩
  · by_cases h2 : y < x
    · have HN : Hid (R = 1) := by show R = 1; rw [← HR.out]; unfold cmpI; rw [if_neg h1, if_pos h2]
      go_enter Tryd.func63, Tryd.ntmps63
      go_wp2_with (first
        | (go_at_call 86; with_reducible refine (H1.out _).mono ?_; rintro e w1 ⟨rfl, rfl⟩)
        | (go_at_call 86; with_reducible refine (H2.out _).mono ?_; rintro e w1 ⟨rfl, rfl⟩))
      go_ret
      exact ⟨by rw [HN.out] <;> rfl, rfl⟩
    · have HN : Hid (R = 0) := by show R = 0; rw [← HR.out]; unfold cmpI; rw [if_neg h1, if_neg h2]
      go_enter Tryd.func63, Tryd.ntmps63
      go_wp2_with (first
        | (go_at_call 86; with_reducible refine (H1.out _).mono ?_; rintro e w1 ⟨rfl, rfl⟩)
        | (go_at_call 86; with_reducible refine (H2.out _).mono ?_; rintro e w1 ⟨rfl, rfl⟩))
      go_ret
      exact ⟨by rw [HN.out] <;> rfl, rfl⟩
theorem cmpStr_any (x y : ByteArray) (w : World) : Calls Tryd.prog 64 #[.string x, .string y] w fun e w' => e = .returned (.int .i64 (ord (bI x.data.toList) (bI y.data.toList))) ∧ w = w' := by
  have H1 := Lib.hid (nanS_any x)
  have H2 := Lib.hid (nanS_any y)
  obtain ⟨R, hR⟩ : ∃ R, ord (bI x.data.toList) (bI y.data.toList) = R := ⟨_, rfl⟩
  rw [hR]
  have hl : Op.bytesLess x.toList y.toList = decide (R < 0) := by rw [ByteArray.toList_eq, ByteArray.toList_eq, bytesLess_ord, hR]
  have he : (x.toList == y.toList) = decide (R = 0) := by
    rw [ByteArray.toList_eq, ByteArray.toList_eq, ← hR]
    by_cases h : x.data.toList = y.data.toList
    · rw [h, ord_self]
      simp
    · have h0 : ¬ ord (bI x.data.toList) (bI y.data.toList) = 0 := fun e => h (bI_inj _ _ (ord_eq _ _ e))
      rw [beq_eq_false_iff_ne.2 h, decide_eq_false h0]
  have hr := ord_range (bI x.data.toList) (bI y.data.toList)
  rw [hR] at hr
  clear hR
  rcases hr with rfl | rfl | rfl
  · rw [show decide ((-1 : Int) < 0) = true from rfl] at hl
    clear he
    go_enter Tryd.func64, Tryd.ntmps64
    go_wp2_with (first
      | (go_at_call 87; with_reducible refine (H1.out _).mono ?_; rintro e w1 ⟨rfl, rfl⟩)
      | (go_at_call 87; with_reducible refine (H2.out _).mono ?_; rintro e w1 ⟨rfl, rfl⟩))
    go_ret
    exact ⟨rfl, rfl⟩
  · rw [show decide ((0 : Int) < 0) = false from rfl] at hl
    rw [show decide ((0 : Int) = 0) = true from rfl] at he
    go_enter Tryd.func64, Tryd.ntmps64
    go_wp2_with (first
      | (go_at_call 87; with_reducible refine (H1.out _).mono ?_; rintro e w1 ⟨rfl, rfl⟩)
      | (go_at_call 87; with_reducible refine (H2.out _).mono ?_; rintro e w1 ⟨rfl, rfl⟩))
    go_ret
    exact ⟨rfl, rfl⟩
  · rw [show decide ((1 : Int) < 0) = false from rfl] at hl
    rw [show decide ((1 : Int) = 0) = false from rfl] at he
    go_enter Tryd.func64, Tryd.ntmps64
    go_wp2_with (first
      | (go_at_call 87; with_reducible refine (H1.out _).mono ?_; rintro e w1 ⟨rfl, rfl⟩)
      | (go_at_call 87; with_reducible refine (H2.out _).mono ?_; rintro e w1 ⟨rfl, rfl⟩))
    go_ret
    exact ⟨rfl, rfl⟩

theorem hp_in (s t : ByteArray) (w : World) : Calls Tryd.prog 83 #[.string s, .string t] w fun e w' => e = .returned (.bool (t.data.toList.isPrefixOf s.data.toList)) ∧ w = w' := by
  have hk := Lib.hasPrefix_of_take s.data.toList t.data.toList
  unfold Lib.hasPrefix at hk
  have es : s.data.toList.length = s.size := by simp
  have et : t.data.toList.length = t.size := by simp
  obtain ⟨R, hR⟩ : ∃ R, t.data.toList.isPrefixOf s.data.toList = R := ⟨_, rfl⟩
  rw [hR, es, et] at hk
  rw [hR]
  clear hR
  by_cases h : t.size ≤ s.size
  · have hi : (t.size : Int) ≤ s.size := by omega
    have hx : ((s.extract 0 t.size).toList == t.toList) = R := by
      rw [ByteArray.toList_eq, ByteArray.toList_eq, Lib.extract_data, ← hk, decide_eq_true h]
      simp
    clear hk es et
    go_enter Tryd.func83, Tryd.ntmps83
    go_wp2
    go_ret
    exact ⟨rfl, rfl⟩
  · have hi : ¬ (t.size : Int) ≤ s.size := by omega
    rw [decide_eq_false h] at hk
    simp only [Bool.false_and] at hk
    subst hk
    clear es et
    go_enter Tryd.func83, Tryd.ntmps83
    go_wp2
    go_ret
    exact ⟨rfl, rfl⟩
theorem hp_any (s t : ByteArray) (w : World) : Calls Tryd.prog 60 #[.string s, .string t] w fun e w' => e = .returned (.bool (t.data.toList.isPrefixOf s.data.toList)) ∧ w = w' := by
  have H := Lib.hid (hp_in s t)
  generalize t.data.toList.isPrefixOf s.data.toList = R at *
  go_enter Tryd.func60, Tryd.ntmps60
  go_wp2_with (go_at_call 83; refine (H.out _).mono ?_; rintro e w1 ⟨rfl, rfl⟩)
  go_ret
  exact ⟨rfl, rfl⟩
end Go.Proofs.YtblaldcioneooaaDoor
