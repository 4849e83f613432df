/- The rule of Nullable. -/
import Derived.Test.YtpfbpgbgedbalaaRtUbv
set_option linter.unusedVariables false
set_option linter.unusedSimpArgs false
set_option maxRecDepth 100000
set_option maxHeartbeats 8000000
namespace Go.Proofs.Ytpfbpgbgedbalaa
open Go.RowKit

def nullT (t : TN) (ps : List Bool) : Bool :=
  if t.op = 2 then false else if t.op = 3 then !ps.contains false else if t.op = 4 then ps.contains true else if t.op = 5 then decide (t.lo = 0) || ps.headD false else if t.op = 6 ∨ t.op = 9 then ps.headD false else true
theorem flat_b (ps : List Bool) : ps.flatMap cells_b = ps.map fun b => .bool b := by
  induction ps with
  | nil => rfl
  | cons b r ih => rw [List.flatMap_cons, ih]; rfl
/-- The first place from j on. -/
def idxB (x : Bool) : List Bool → Nat → Int
  | [], _ => -1
  | b :: r, j => if x == b then (j : Int) else idxB x r (j + 1)
theorem idxB_has (x : Bool) : ∀ (l : List Bool) (j : Nat), decide (0 ≤ idxB x l j) = l.contains x
  | [], j => rfl
  | b :: r, j => by
    rw [idxB]
    by_cases h : (x == b) = true
    · rw [if_pos h]
      have : x = b := by simpa using h
      subst this
      simp
    · rw [if_neg h, idxB_has x r (j + 1)]
      have : ¬ x = b := by simpa using h
      cases x <;> cases b <;> simp_all
theorem index_any (x : Bool) (ps : List Bool) (pv : Value) (n0 : Nat) (w : World) (h : PV 4 1 cells_b w n0 ps pv) (hl : ps.length ≤ 600) :
    Calls Try.prog 81 #[pv, .bool x] w fun e w' => e = .returned (.int .i64 (idxB x ps 0)) ∧ w' = w := by
  obtain ⟨ad, cap, rfl⟩ := own_sl h
  have hl' : (ps.length : Int) ≤ 600 := by omega
  have HP := Lib.hid h
  clear h
  go_enter Try.func81, Try.ntmps81
  go_wp2_with fail
  go_loop [8] (fun i => ∃ k : Nat, k ≤ ps.length ∧ i = .int .i64 k ∧ Hid (idxB x ps 0 = idxB x (ps.drop k) k)) (fun i => ps.length - (intOf i).toNat)
  case atStart => exact ⟨0, Nat.zero_le _, rfl, Lib.hid (by rw [List.drop_zero])⟩
  case round =>
    obtain ⟨k, hk, rfl, HI⟩ := hrel
    by_cases hkn : k < ps.length
    · have ki : (k : Int) < ps.length := by omega
      have ki0 : (0 : Int) ≤ k := by omega
      obtain ⟨g, cap2, hs⟩ := own_more HP.out (by omega)
      cases hs
      have hc := HP.out.get clen_b k hkn 0 (by decide)
      rw [Nat.mul_one, Nat.add_zero] at hc
      have hd : ps.drop k = ps[k] :: ps.drop (k + 1) := List.drop_eq_getElem_cons hkn
      have hI := HI.out
      rw [hd, idxB] at hI
      replace hc : w.cell? ⟨g, k, none⟩ = some (.bool ps[k]) := hc
      generalize ps[k] = b at hc hI
      cases hxb : (x == b) with
      | true =>
        rw [hxb, if_pos rfl] at hI
        have HI2 := Lib.hid hI
        clear hI hd
        go_wp2_with fail
        go_ret
        rw [HI2.out]
        exact ⟨rfl, rfl⟩
      | false =>
        rw [hxb, if_neg (by decide)] at hI
        have HI2 := Lib.hid hI
        clear hI hd
        go_wp2_with fail
        go_round
        case rel => exact ⟨k + 1, by omega, by go_num, HI2⟩
        case measure => simp [intOf]; omega
    · obtain rfl : k = ps.length := by omega
      have hI := HI.out
      rw [List.drop_length] at hI
      have HI2 := Lib.hid hI
      clear hI
      go_wp2_with fail
      go_ret
      rw [HI2.out]
      exact ⟨rfl, rfl⟩
theorem contains_any (x : Bool) (ps : List Bool) (pv : Value) (n0 : Nat) (w : World) (h : PV 4 1 cells_b w n0 ps pv) (hl : ps.length ≤ 600) :
    Calls Try.prog 67 #[pv, .bool x] w fun e w' => e = .returned (.bool (ps.contains x)) ∧ w' = w := by
  have HI := Lib.hid (index_any x ps pv n0 w h hl)
  have HH := Lib.hid (idxB_has x ps 0)
  obtain ⟨ad, cap, rfl⟩ := own_sl h
  generalize idxB x ps 0 = z at HI HH
  clear h
  go_enter Try.func67, Try.ntmps67
  go_wp2_with (first
    | (go_at_call 81; (with_reducible refine HI.out.mono ?_); rintro e w1 ⟨rfl, rfl⟩)
    )
  go_ret
  exact ⟨by rw [← HH.out]; rfl, rfl⟩
theorem rule_b : Rule_b (fun _ => True) nullT := by
  intro w n0 t ad cap ps pv hpv hP
  have HCf := Lib.hid (fun W (h : PV 4 1 cells_b W n0 ps pv) => contains_any false ps pv n0 W h hP.len)
  have HCt := Lib.hid (fun W (h : PV 4 1 cells_b W n0 ps pv) => contains_any true ps pv n0 W h hP.len)
  have hb : Below w.heap.size w (w.alloc (.cells #[.int .i64 t.op, .int .u64 (wd t.st 0 64 : Nat), .int .u64 (wd t.st 64 64 : Nat), .int .u64 (wd t.st 128 64 : Nat), .int .u64 (wd t.st 192 64 : Nat), .int .i64 t.lo, .int .i64 t.hi, .int .i64 t.g, .slice ad t.args.len cap] 28)) := (Below.refl _ _).alloc (Nat.le_refl _) _
  have HPV := Lib.hid (hpv.below hb)
  obtain ⟨qad, qcap, rfl⟩ := own_sl hpv
  obtain ⟨op, st, lo, hi, g, args⟩ := t
  obtain ⟨hrep, hone, htwo, hinv, hlen⟩ := hP
  dsimp only at *
  -- the first part, where there is one
  have h1 : (op = 5 ∨ op = 6 ∨ op = 9) → ∃ b q, qad = some ⟨q, 0, none⟩ ∧ ps = [b] ∧ w.cell? ⟨q, 0, none⟩ = some (.bool b) ∧ q < w.heap.size := by
    intro ho
    have hl1 : ps.length = 1 := by
      rcases ho with ho | ho
      · exact (hrep ho).1
      · exact hone ho
    obtain ⟨b, rfl⟩ := List.length_eq_one_iff.1 hl1
    obtain ⟨q, c2, hs⟩ := own_more hpv (by simp)
    cases hs
    exact ⟨b, q, rfl, rfl, by have := hpv.get clen_b 0 (by simp) 0 (by decide); exact this, (own_at hpv q rfl).2⟩
  clear hpv hrep hone htwo hinv hb
  by_cases o2 : op = 2
  · subst o2
    go_enter Try.func33, Try.ntmps33
    go_wp2_with fail
    go_ret
    exact ⟨rfl, (Below.refl _ _).alloc (Nat.le_refl _) _⟩
  by_cases o3 : op = 3
  · subst o3
    go_enter Try.func33, Try.ntmps33
    go_wp2_with (first | (go_at_call 67; (with_reducible refine (HCf.out _ HPV.out).mono ?_); rintro e w1 ⟨rfl, rfl⟩))
    go_ret
    exact ⟨by simp [nullT], (Below.refl _ _).alloc (Nat.le_refl _) _⟩
  by_cases o4 : op = 4
  · subst o4
    go_enter Try.func33, Try.ntmps33
    go_wp2_with (first | (go_at_call 67; (with_reducible refine (HCt.out _ HPV.out).mono ?_); rintro e w1 ⟨rfl, rfl⟩))
    go_ret
    exact ⟨by simp [nullT], (Below.refl _ _).alloc (Nat.le_refl _) _⟩
  by_cases o5 : op = 5
  · subst o5
    obtain ⟨b, q, rfl, rfl, hc, hq⟩ := h1 (.inl rfl)
    clear HCf HCt h1 HPV
    go_enter Try.func33, Try.ntmps33
    go_wp2_with fail
    all_goals go_ret
    all_goals refine ⟨?_, (Below.refl _ _).alloc (Nat.le_refl _) _⟩
    all_goals (unfold nullT; simp_all)
  by_cases o6 : op = 6
  · subst o6
    obtain ⟨b, q, rfl, rfl, hc, hq⟩ := h1 (.inr (.inl rfl))
    clear HCf HCt h1 HPV
    go_enter Try.func33, Try.ntmps33
    go_wp2_with fail
    go_ret
    exact ⟨rfl, (Below.refl _ _).alloc (Nat.le_refl _) _⟩
  by_cases o9 : op = 9
  · subst o9
    obtain ⟨b, q, rfl, rfl, hc, hq⟩ := h1 (.inr (.inr rfl))
    clear HCf HCt h1 HPV
    go_enter Try.func33, Try.ntmps33
    go_wp2_with fail
    go_ret
    exact ⟨rfl, (Below.refl _ _).alloc (Nat.le_refl _) _⟩
  have e2 : (op == 2) = false := by simpa using o2
  have e3 : (op == 3) = false := by simpa using o3
  have e4 : (op == 4) = false := by simpa using o4
  have e5 : (op == 5) = false := by simpa using o5
  have e6 : (op == 6) = false := by simpa using o6
  have e9 : (op == 9) = false := by simpa using o9
  have er : nullT ⟨op, st, lo, hi, g, args⟩ ps = true := by simp [nullT, o2, o3, o4, o5, o6, o9]
  rw [er]
  clear HCf HCt h1 HPV er
  go_enter Try.func33, Try.ntmps33
  go_wp2_with fail
  go_ret
  exact ⟨rfl, (Below.refl _ _).alloc (Nat.le_refl _) _⟩
end Go.Proofs.Ytpfbpgbgedbalaa
