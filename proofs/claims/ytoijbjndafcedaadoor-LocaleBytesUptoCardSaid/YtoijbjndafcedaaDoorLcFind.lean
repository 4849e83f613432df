/- The reference's find: the collating element with which a string continues. -/
import Derived.Test.YtoijbjndafcedaaDoorRows
import Derived.Test.YtoijbjndafcedaaDoorLcCheck
set_option linter.unusedVariables false
namespace Go.Proofs.YtoijbjndafcedaaDoor
open Go.RowKit

/-- Does the string continue at 'o' with element k? -/
def hit (L : Loc) (s : ByteArray) (o k : Nat) : Bool := decide (o + 2 ≤ s.size) && eqS (s.extract o (o + 2)) (L.et k)
def findL (L : Loc) (s : ByteArray) (o : Nat) : Int := match (List.range L.ne).find? (hit L s o) with
  | some k => (k : Int)
  | none => -1
theorem find_at (L : Loc) (s : ByteArray) (o k : Nat) (hk : k < L.ne) (h : hit L s o k = true) (hb : ∀ q, q < k → hit L s o q = false) : findL L s o = (k : Int) := by
  have e : (List.range L.ne).find? (hit L s o) = some k := by
    rw [List.find?_range_eq_some]
    exact ⟨h, by simpa using hk, fun j hj => by simp [hb j hj]⟩
  unfold findL
  rw [e]
theorem find_none (L : Loc) (s : ByteArray) (o : Nat) (hb : ∀ q, q < L.ne → hit L s o q = false) : findL L s o = -1 := by
  have e : (List.range L.ne).find? (hit L s o) = none := by
    rw [List.find?_eq_none]
    intro x hx
    simp [hb x (by simpa using hx)]
  unfold findL
  rw [e]

set_option maxRecDepth 100000 in
set_option maxHeartbeats 8000000 in
theorem find_any (L : Loc) (W C E : Value) (s : ByteArray) (o : Nat) (ho : o ≤ s.size) (hs : s.size ≤ 140737488355328) (h64 : L.ne ≤ 64) (w : World) (hM : LocM w L W C E) :
    Calls Tryd.prog 51 #[.agg (lcl L W C E), .string s, .int .i64 o] w fun e w' => e = .returned (.int .i64 (findL L s o)) ∧ Below w.heap.size w w' := by
  have hB : Below w.heap.size w (w.alloc (.cells (lcl L W C E) 26)) := (Below.refl _ _).alloc (Nat.le_refl _) _
  have h5 : (w.alloc (.cells (lcl L W C E) 26)).cell? ⟨w.heap.size, 5, none⟩ = some E := by
    rw [cell_of_row _ w.heap.size 5 _ _ (0, 0) (heap_alloc_new w _)]
    rfl
  have HX := Lib.hid (And.intro hB h5)
  obtain ⟨_, _, aE, capE, rfl, hcE, hE⟩ := hM
  obtain ⟨R, hR⟩ : ∃ R, findL L s o = R := ⟨_, rfl⟩
  rw [hR]
  have HR := Lib.hid hR
  clear hR hB h5
  obtain ⟨n, hn⟩ : ∃ n, L.ne = n := ⟨_, rfl⟩
  have HNe := Lib.hid hn
  rw [hn] at HX hE h64 ⊢
  have hn64 : (n : Int) ≤ 64 := by omega
  clear hn hcE
  have hsi : (s.size : Int) ≤ 140737488355328 := by omega
  have hoi : (o : Int) ≤ s.size := by omega
  have ho0 : (0 : Int) ≤ o := by omega
  unfold lcl at *
  rcases hE with h0 | ⟨b, off, rfl, hlt, hE⟩
  · subst h0
    have HN : Hid (R = -1) := HR.out.symm.trans (find_none L s o fun q hq => by rw [HNe.out] at hq; omega)
    go_enter Tryd.func51, Tryd.ntmps51
    go_wp2
    go_loopw [7] (fun i wr => i = .int .i64 0 ∧ wr = w.alloc (.cells #[.string L.name, W, .string L.lower, .string L.upper, C, .slice aE 0 capE] 26)) (fun _ _ => 0)
    case atStart => exact ⟨rfl, rfl⟩
    case round =>
      obtain ⟨rfl, rfl⟩ := hrel
      go_wp2
      go_ret
      exact ⟨by rw [HN.out]; rfl, HX.out.1⟩
  · have HE := Lib.hid hE
    have HLt := Lib.hid hlt
    clear hE hlt
    go_enter Tryd.func51, Tryd.ntmps51
    go_wp2
    go_loopw [7] (fun i wr => ∃ k : Nat, k ≤ n ∧ i = .int .i64 k ∧ Hid (∀ q, q < k → hit L s o q = false) ∧ Hid (Below w.heap.size w wr ∧ wr.cell? ⟨w.heap.size, 5, none⟩ = some (.slice (some ⟨b, off, none⟩) n capE))) (fun i _ => n - (intOf i).toNat)
    case atStart => exact ⟨0, Nat.zero_le _, rfl, fun q hq => by omega, HX.out.1, HX.out.2⟩
    case round =>
      obtain ⟨k, hk, rfl, HQ, HB⟩ := hrel
      have c5 := HB.out.2
      by_cases hkn : k < n
      · have ki : (k : Int) < n := by omega
        have ki0 : (0 : Int) ≤ k := by omega
        have ce : wr.cell? ⟨b, off + k * 2, none⟩ = some (.string (L.et k)) := by
          rw [HB.out.1.cell (by exact HLt.out)]
          exact HE.out k 0 hkn (by decide)
        by_cases h2 : o + 2 ≤ s.size
        · have i2 : (o : Int) + 2 ≤ s.size := by omega
          have d2 : decide ((o : Int) + 2 ≤ s.size) = true := decide_eq_true i2
          have d3 : decide (o + 2 ≤ s.size) = true := decide_eq_true h2
          obtain ⟨D, hD⟩ : ∃ D, ((s.extract o (o + 2)).toList == (L.et k).toList) = D := ⟨_, rfl⟩
          have HH : Hid (hit L s o k = D) := by
            show hit L s o k = D
            unfold hit eqS
            rw [d3, hD]
            rfl
          by_cases hd : D = true
          · subst hd
            have HN : Hid (R = (k : Int)) := HR.out.symm.trans (find_at L s o k (by rw [HNe.out]; exact hkn) HH.out HQ.out)
            go_wp2
            go_quiet (fail)
            go_wp2
            go_ret
            exact ⟨by rw [HN.out]; rfl, below_drewN HB.out.1 _⟩
          · have hdf : D = false := by simpa using hd
            subst hdf
            clear hd
            go_wp2
            go_quiet (fail)
            go_wp2
            go_roundw
            case rel =>
              refine ⟨k + 1, by omega, by go_num, fun q hq => ?_, below_drewN HB.out.1 _, HB.out.2⟩
              by_cases e : q = k
              · subst e; exact HH.out
              · exact HQ.out q (by omega)
            case measure => simp [intOf]; omega
        · have i2 : ¬ (o : Int) + 2 ≤ s.size := by omega
          have d2 : decide ((o : Int) + 2 ≤ s.size) = false := decide_eq_false i2
          have d3 : decide (o + 2 ≤ s.size) = false := decide_eq_false h2
          have HH : Hid (hit L s o k = false) := by
            show hit L s o k = false
            unfold hit
            rw [d3]
            rfl
          go_wp2
          go_quiet (fail)
          go_wp2
          go_roundw
          case rel =>
            refine ⟨k + 1, by omega, by go_num, fun q hq => ?_, below_drewN HB.out.1 _, HB.out.2⟩
            by_cases e : q = k
            · subst e; exact HH.out
            · exact HQ.out q (by omega)
          case measure => simp [intOf]; omega
      · obtain rfl : k = n := by omega
        have HN : Hid (R = -1) := HR.out.symm.trans (find_none L s o (by rw [HNe.out]; exact HQ.out))
        go_wp2
        go_ret
        exact ⟨by rw [HN.out]; rfl, HB.out.1⟩
end Go.Proofs.YtoijbjndafcedaaDoor
