/- The rule of Length. -/
import Derived.Test.YtpfbpgbgedbalaaRtUlv
set_option linter.unusedVariables false
set_option linter.unusedSimpArgs false
set_option maxRecDepth 100000
set_option maxHeartbeats 8000000
namespace Go.Proofs.Ytpfbpgbgedbalaa
open Go.RowKit

def sumT (a b : Int) : Int := if a = -1 ∨ b = -1 then -1 else if 2147483647 - b < a then 2147483647 else a + b
def prodT (a b : Int) : Int := if a = 0 ∨ b = 0 then 0 else if a = -1 ∨ b = -1 then -1 else if 2147483647 / b < a then 2147483647 else a * b
def lesT (a b : Int) : Int := if b < a then b else a
def greT (a b : Int) : Int := if a = -1 ∨ b = -1 then -1 else if a < b then b else a
/-- Lengths are in their bounds. -/
def LOk (x : Int × Int) : Prop := (0 ≤ x.1 ∧ x.1 ≤ 2147483647) ∧ (-1 ≤ x.2 ∧ x.2 ≤ 2147483647)
def comT (f g : Int → Int → Int) : List (Int × Int) → Int × Int
  | [] => (0, 0)
  | x :: r => r.foldl (fun a p => (f a.1 p.1, g a.2 p.2)) x
def lenT (t : TN) (ps : List (Int × Int)) : Int × Int :=
  if t.op = 2 then (1, 1) else if t.op = 3 then comT sumT sumT ps else if t.op = 4 then comT lesT greT ps else if t.op = 5 then (prodT (ps.headD (0, 0)).1 t.lo, prodT (ps.headD (0, 0)).2 t.hi)
  else if t.op = 6 ∨ t.op = 9 then ps.headD (0, 0) else (0, 0)
theorem sum_any (a b : Int) (ha : -1 ≤ a ∧ a ≤ 2147483647) (hb : -1 ≤ b ∧ b ≤ 2147483647) (w : World) : Calls Try.prog 55 #[.int .i64 a, .int .i64 b] w fun e w' => e = .returned (.int .i64 (sumT a b)) ∧ w' = w := by
  obtain ⟨a1, a2⟩ := ha
  obtain ⟨b1, b2⟩ := hb
  go_enter Try.func55, Try.ntmps55
  go_wp2_with fail
  all_goals go_ret
  all_goals refine ⟨?_, rfl⟩
  all_goals (unfold sumT; congr 2; simp_all <;> omega)
theorem les_any (a b : Int) (w : World) : Calls Try.prog 56 #[.int .i64 a, .int .i64 b] w fun e w' => e = .returned (.int .i64 (lesT a b)) ∧ w' = w := by
  go_enter Try.func56, Try.ntmps56
  go_wp2_with fail
  all_goals go_ret
  all_goals refine ⟨?_, rfl⟩
  all_goals (unfold lesT; congr 2; simp_all <;> omega)
theorem gre_any (a b : Int) (w : World) : Calls Try.prog 57 #[.int .i64 a, .int .i64 b] w fun e w' => e = .returned (.int .i64 (greT a b)) ∧ w' = w := by
  go_enter Try.func57, Try.ntmps57
  go_wp2_with fail
  all_goals go_ret
  all_goals refine ⟨?_, rfl⟩
  all_goals (unfold greT; congr 2; simp_all <;> omega)
theorem prod_any (a b : Int) (ha : -1 ≤ a ∧ a ≤ 2147483647) (hb : -1 ≤ b ∧ b ≤ 64) (w : World) : Calls Try.prog 58 #[.int .i64 a, .int .i64 b] w fun e w' => e = .returned (.int .i64 (prodT a b)) ∧ w' = w := by
  obtain ⟨a1, a2⟩ := ha
  obtain ⟨b1, b2⟩ := hb
  by_cases a0 : a = 0
  · subst a0
    go_enter Try.func58, Try.ntmps58
    go_wp2_with fail
    go_ret
    exact ⟨by simp [prodT], rfl⟩
  have e0 : (a == 0) = false := by simpa using a0
  by_cases b0 : b = 0
  · subst b0
    go_enter Try.func58, Try.ntmps58
    go_wp2_with fail
    go_ret
    exact ⟨by simp [prodT], rfl⟩
  have e1 : (b == 0) = false := by simpa using b0
  by_cases am : a = -1
  · subst am
    go_enter Try.func58, Try.ntmps58
    go_wp2_with fail
    go_ret
    exact ⟨by simp [prodT, b0], rfl⟩
  have e2 : (a == -1) = false := by simpa using am
  by_cases bm : b = -1
  · subst bm
    go_enter Try.func58, Try.ntmps58
    go_wp2_with fail
    go_ret
    exact ⟨by simp [prodT, a0], rfl⟩
  have e3 : (b == -1) = false := by simpa using bm
  have hb1 : 1 ≤ b := by omega
  have ha1 : 1 ≤ a := by omega
  have hm1 : 0 ≤ a * b := Int.mul_nonneg (by omega) (by omega)
  have hm2 : a * b ≤ 2147483647 * 64 := Int.mul_le_mul a2 b2 (by omega) (by omega)
  go_enter Try.func58, Try.ntmps58
  go_wp2_with fail
  all_goals go_ret
  all_goals refine ⟨?_, rfl⟩
  all_goals (unfold prodT; congr 2; simp_all <;> omega)
theorem sumT_ok (a b : Int) (ha : -1 ≤ a ∧ a ≤ 2147483647) (hb : -1 ≤ b ∧ b ≤ 2147483647) : -1 ≤ sumT a b ∧ sumT a b ≤ 2147483647 := by
  unfold sumT; split
  · omega
  · split <;> omega
theorem sumT_pos (a b : Int) (ha : 0 ≤ a ∧ a ≤ 2147483647) (hb : 0 ≤ b ∧ b ≤ 2147483647) : 0 ≤ sumT a b ∧ sumT a b ≤ 2147483647 := by
  unfold sumT; split
  · omega
  · split <;> omega
theorem greT_ok (a b : Int) (ha : -1 ≤ a ∧ a ≤ 2147483647) (hb : -1 ≤ b ∧ b ≤ 2147483647) : -1 ≤ greT a b ∧ greT a b ≤ 2147483647 := by
  unfold greT; split
  · omega
  · split <;> omega
theorem lesT_ok (a b : Int) (ha : 0 ≤ a ∧ a ≤ 2147483647) (hb : 0 ≤ b ∧ b ≤ 2147483647) : 0 ≤ lesT a b ∧ lesT a b ≤ 2147483647 := by
  unfold lesT; split <;> omega
theorem prodT_ok (a b : Int) (ha : -1 ≤ a ∧ a ≤ 2147483647) (hb : -1 ≤ b ∧ b ≤ 64) : -1 ≤ prodT a b ∧ prodT a b ≤ 2147483647 := by
  unfold prodT
  split
  · omega
  split
  · omega
  split
  · omega
  · rename_i h1 h2 h3
    have hb1 : 1 ≤ b := by omega
    have h4 : a ≤ 2147483647 / b := by omega
    have h5 : a * b ≤ 2147483647 := by
      have := Int.mul_le_mul_of_nonneg_right h4 (show (0 : Int) ≤ b by omega)
      exact Int.le_trans this (Int.ediv_mul_le _ (by omega))
    have h6 : 0 ≤ a * b := Int.mul_nonneg (by omega) (by omega)
    omega
theorem prodT_pos (a b : Int) (ha : 0 ≤ a ∧ a ≤ 2147483647) (hb : 0 ≤ b ∧ b ≤ 64) : 0 ≤ prodT a b := by
  unfold prodT
  split
  · omega
  split
  · omega
  split
  · omega
  · exact Int.mul_nonneg (by omega) (by omega)
/-- A pair of functions for combined. -/
structure Pair2 (F1 F2 : Nat) (f g : Int → Int → Int) : Prop where
  c1 : ∀ (a b : Int) (w : World), (0 ≤ a ∧ a ≤ 2147483647) → (0 ≤ b ∧ b ≤ 2147483647) → Calls Try.prog F1 #[.int .i64 a, .int .i64 b] w fun e w' => e = .returned (.int .i64 (f a b)) ∧ w' = w
  c2 : ∀ (a b : Int) (w : World), (-1 ≤ a ∧ a ≤ 2147483647) → (-1 ≤ b ∧ b ≤ 2147483647) → Calls Try.prog F2 #[.int .i64 a, .int .i64 b] w fun e w' => e = .returned (.int .i64 (g a b)) ∧ w' = w
  o1 : ∀ (a b : Int), (0 ≤ a ∧ a ≤ 2147483647) → (0 ≤ b ∧ b ≤ 2147483647) → 0 ≤ f a b ∧ f a b ≤ 2147483647
  o2 : ∀ (a b : Int), (-1 ≤ a ∧ a ≤ 2147483647) → (-1 ≤ b ∧ b ≤ 2147483647) → -1 ≤ g a b ∧ g a b ≤ 2147483647
theorem pair_sum : Pair2 55 55 sumT sumT :=
  ⟨fun a b w ha hb => sum_any a b ⟨by omega, ha.2⟩ ⟨by omega, hb.2⟩ w, fun a b w ha hb => sum_any a b ha hb w, fun a b => sumT_pos a b, fun a b => sumT_ok a b⟩
theorem pair_alt : Pair2 56 57 lesT greT :=
  ⟨fun a b w ha hb => les_any a b w, fun a b w ha hb => gre_any a b w, fun a b => lesT_ok a b, fun a b => greT_ok a b⟩
theorem fold_ok {F1 F2 : Nat} {f g : Int → Int → Int} (hp : Pair2 F1 F2 f g) : ∀ (r : List (Int × Int)) (x : Int × Int), LOk x → (∀ y, y ∈ r → LOk y) → LOk (r.foldl (fun a p => (f a.1 p.1, g a.2 p.2)) x)
  | [], x, hx, _ => hx
  | y :: r, x, hx, hr => by
    rw [List.foldl_cons]
    have hy := hr y (List.mem_cons_self ..)
    exact fold_ok hp r _ ⟨hp.o1 _ _ hx.1 hy.1, hp.o2 _ _ hx.2 hy.2⟩ (fun z hz => hr z (List.mem_cons_of_mem _ hz))
end Go.Proofs.Ytpfbpgbgedbalaa
