/- The rule of First: the set of first bytes, and whether each part may be empty. -/
import Derived.Test.YtpfbpgbgedbalaaRtUgv
import Derived.Test.YtpfbpgbgedbalaaRtN
import Derived.Test.YtpfbpgbgedbalaaCsOps
set_option linter.unusedVariables false
set_option linter.unusedSimpArgs false
set_option maxRecDepth 100000
set_option maxHeartbeats 8000000
namespace Go.Proofs.Ytpfbpgbgedbalaa
open Go.RowKit

def uniP (p q : Nat → Bool) : Nat → Bool := fun c => p c || q c
/-- The union of the parts' first bytes; of a sequence, up to the first part that is not empty. -/
def fstL (cat : Bool) : List ((Nat → Bool) × Bool) → (Nat → Bool) → (Nat → Bool)
  | [], a => a
  | p :: r, a => if (cat && !p.2) = true then uniP a p.1 else fstL cat r (uniP a p.1)
def fstT (t : TN) (ps : List ((Nat → Bool) × Bool)) : Nat → Bool := if t.op = 2 then t.st else if t.op = 5 ∧ t.hi = 0 then noSet else fstL (decide (t.op = 3)) ps noSet
def begT (t : TN) (ps : List ((Nat → Bool) × Bool)) : (Nat → Bool) × Bool := (fstT t ps, nullT t (ps.map (·.2)))
theorem empty_any (x : (Nat → Bool) × Bool) (w : World) : Calls Try.prog 62 #[.agg #[.int .u64 (wd x.1 0 64 : Nat), .int .u64 (wd x.1 64 64 : Nat), .int .u64 (wd x.1 128 64 : Nat), .int .u64 (wd x.1 192 64 : Nat), .bool x.2]] w fun e w' => e = .returned (.bool x.2) ∧ Below w.heap.size w w' := by
  go_enter Try.func62, Try.ntmps62
  go_wp2_with fail
  go_ret
  exact ⟨rfl, (Below.refl _ _).alloc (Nat.le_refl _) _⟩
theorem mapgb_any (ps : List ((Nat → Bool) × Bool)) (pv : Value) (n0 : Nat) (w : World) (h : PV 63 5 cells_g w n0 ps pv) (h6 : ps.length ≤ 600) :
    Calls Try.prog 64 #[pv, .func (.func 62) #[] #[]] w fun e w' => ∃ rv, e = .returned rv ∧ PV 4 1 cells_b w' w.heap.size (ps.map (·.2)) rv ∧ Below w.heap.size w w' := by
  obtain ⟨qad, qcap, rfl⟩ := own_sl h
  have hl' : (ps.length : Int) ≤ 600 := by omega
  have HP := Lib.hid h
  clear h
  go_enter Try.func64, Try.ntmps64
  go_wp2_with fail
  go_loopw [5, 10] (fun v i wr => ∃ (j : Nat) (ys : List Bool), j ≤ ps.length ∧ i = .int .i64 j ∧ Hid (ys.length = j ∧ PV 4 1 cells_b wr w.heap.size ys v ∧ Below w.heap.size w wr ∧ ys = (ps.take j).map (·.2))) (fun _ i _ => ps.length - (intOf i).toNat)
  case atStart => exact ⟨0, [], Nat.zero_le _, rfl, Lib.hid ⟨rfl, PV.nil _ _ _ _ _, Below.refl _ _, rfl⟩⟩
  case round =>
    obtain ⟨j, ys, hj, rfl, HB⟩ := hrel
    obtain ⟨rad, rcap, rfl⟩ := own_sl HB.out.2.1
    by_cases hjn : j < ps.length
    · have ki : (j : Int) < ps.length := by omega
      have ki0 : (0 : Int) ≤ j := by omega
      obtain ⟨q, c2, hs⟩ := own_more HP.out (by omega)
      cases hs
      have hpw : PV 63 5 cells_g wr n0 ps (.slice (some ⟨q, 0, none⟩) ps.length qcap) := HP.out.below HB.out.2.2.1
      have c0 := hpw.get clen_g j hjn 0 (by decide)
      have c1 := hpw.get clen_g j hjn 1 (by decide)
      have c2 := hpw.get clen_g j hjn 2 (by decide)
      have c3 := hpw.get clen_g j hjn 3 (by decide)
      have c4 := hpw.get clen_g j hjn 4 (by decide)
      have ht : (ps.take (j + 1)).map (·.2) = (ps.take j).map (·.2) ++ [ps[j].2] := by rw [List.take_add_one, List.getElem?_eq_getElem hjn, List.map_append]; rfl
      have HT := Lib.hid ht
      generalize ps[j] = x at *
      replace c0 : wr.cell? ⟨q, j * 5, none⟩ = some (.int .u64 (wd x.1 0 64 : Nat)) := c0
      replace c1 : wr.cell? ⟨q, j * 5 + 1, none⟩ = some (.int .u64 (wd x.1 64 64 : Nat)) := c1
      replace c2 : wr.cell? ⟨q, j * 5 + 2, none⟩ = some (.int .u64 (wd x.1 128 64 : Nat)) := c2
      replace c3 : wr.cell? ⟨q, j * 5 + 3, none⟩ = some (.int .u64 (wd x.1 192 64 : Nat)) := c3
      replace c4 : wr.cell? ⟨q, j * 5 + 4, none⟩ = some (.bool x.2) := c4
      have HEm := Lib.hid (fun W => empty_any x W)
      obtain ⟨xp, xb⟩ := x
      clear hpw ht
      go_wp2_with (first
        | (go_at_call 62; (with_reducible refine (HEm.out _).mono ?_); rintro e w1 ⟨rfl, hb⟩
           have HB1 := Lib.hid (((Below.refl wr.heap.size wr).alloc (Nat.le_refl _) _).trans (hb.mono (by simp)))
           have HPV := Lib.hid (HB.out.2.1.below HB1.out)
           clear hb c0 c1 c2 c3 c4)
        | (at_builtin; refine app1 w.heap.size 41 4 (.bool false) 1 1 Try.underlying41 info_b rfl (by decide) w1 rfl (.tmp 14) (.tmp 18) rfl (by have := HB.out.2.2.1.size; have := HB1.out.size; omega) (.slice rad ys.length rcap) ys.length _ (cells_b xb) rfl rfl HPV.out _ rfl rfl rfl ?d1 ?d2 ?d3 ?_))
      case d1 => simp [cells_b, Value.oneCell']
      case d2 => have := HB.out.1; unfold maxLen; omega
      case d3 => have := HB.out.1; omega
      intro g0 cap0 w8 ho8 hk8 hg8
      have HF : Hid ((ys ++ [xb]).length = j + 1 ∧ PV 4 1 cells_b w8 w.heap.size (ys ++ [xb]) (.slice (some ⟨g0, 0, none⟩) (ys.length + 1) cap0) ∧ Below w.heap.size w w8 ∧ ys ++ [xb] = (ps.take (j + 1)).map (·.2)) := by
        refine Lib.hid ⟨by rw [List.length_append, HB.out.1]; rfl, ?_, ?_, by rw [HT.out, ← HB.out.2.2.2]⟩
        · unfold PV
          rw [List.length_append, List.flatMap_append]
          exact ho8
        · exact HB.out.2.2.1.trans ((HB1.out.mono HB.out.2.2.1.size).trans (hk8.below (by have := HB.out.2.2.1.size; have := HB1.out.size; omega) (fun g hg => (own_at HB.out.2.1 g hg).1)))
      clear ho8 hk8 hg8
      go_wp2_with fail
      go_roundw
      case rel => exact ⟨j + 1, ys ++ [xb], by omega, by go_num, HF⟩
      case measure => simp [intOf]; omega
    · obtain rfl : j = ps.length := by omega
      have hend := HB.out.2.2.2
      rw [List.take_length] at hend
      have HEnd := Lib.hid hend
      clear hend
      go_wp2_with fail
      go_ret
      exact ⟨_, rfl, by rw [← HEnd.out]; exact HB.out.2.1, HB.out.2.2.1⟩
end Go.Proofs.Ytpfbpgbgedbalaa
