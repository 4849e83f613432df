/- Unescape, as the program has it. -/
import Derived.Test.YtgcpagnnkmpeoaaDoorTxEscW
import Derived.Test.YtgcpagnnkmpeoaaDoorTxSing
set_option linter.unusedVariables false
namespace Go.Proofs.YtgcpagnnkmpeoaaDoor
open Go.RowKit

def unR (l : List UInt8) : List UInt8 × Bool × Nat := unl l 0 []
def unE (b : Bool) : Int := if b then 0 else 1
def unV (R : List UInt8 × Bool × Nat) : Value := .tuple #[.string (mk R.1), .int .i64 (unE R.2.1), .int .i64 (R.2.2 : Int)]

set_option maxHeartbeats 1000000 in
theorem unesc_any (s : ByteArray) (w : World) (hs : s.size ≤ 140737488351232) :
    Calls Tryd.prog 24 #[.string s] w fun e w' => e = .returned (unV (unR s.data.toList)) ∧ Below w.heap.size w w' := by
  have hmk := make_own s.size (by omega)
  generalize hR : unR s.data.toList = R
  have HR := Lib.hid hR
  clear hR
  go_enter Tryd.func24, Tryd.ntmps24
  go_wp2
  clear hmk
  go_loopw [5, 6] (fun v i wr => ∃ (k n : Nat) (sv : Value) (acc : List UInt8), sv = v ∧ k ≤ s.size ∧ i = .int .i64 k ∧ n ≤ k ∧ Hid (n = acc.length) ∧ Hid (wr.ownsRow w.heap.size 5 1 sv n (ints acc)) ∧ Hid (Below w.heap.size w wr) ∧ Hid (unl (s.data.toList.drop k) k acc = R)) (fun _ i _ => s.size - (intOf i).toNat)
  case atStart => exact ⟨0, 0, _, [], rfl, Nat.zero_le _, rfl, Nat.le_refl _, rfl, World.ownsRow_made w _ s.size (Nat.le_refl _) (by unfold maxLen; omega) (by simp [size_madeCells]), (Below.refl _ _).alloc (Nat.le_refl _) _, HR.out⟩
  case round =>
    obtain ⟨k, n, v0, acc, rfl, hk, rfl, hnk, hn, hown, hb, hx⟩ := hrel
    have hBs := hb.out.size
    by_cases hlt : k < s.size
    · have hlt' : k < s.data.toList.length := by rw [size_len]; exact hlt
      have hg : s.data.toList[k] = s[k] := rfl
      have hq := beq_byte s[k] 92
      rw [show ((92 : UInt8).toNat : Int) = 92 from rfl] at hq
      rcases tf (s[k] == 92) with h0 | h0
      · rw [h0] at hq
        have h1 : s[k] = 92 := by simpa using h0
        have hex : s.extract (k + 1) s.size = mk (s.data.toList.drop (k + 1)) := ext_drop s (k + 1)
        have HS : Hid (∀ w, Calls Tryd.prog 35 #[.string (s.extract (k + 1) s.size)] w fun e w' => e = .returned (.tuple #[.int .u8 ((seqB (s.data.toList.drop (k + 1))).1.toNat : Int), .int .i64 ((seqB (s.data.toList.drop (k + 1))).2 : Int)]) ∧ w = w') := fun w => by
          rw [hex]; exact seqb_any (mk (s.data.toList.drop (k + 1))) w
        have hle := (seqB_le (s.data.toList.drop (k + 1))).1
        rw [List.length_drop, size_len] at hle
        by_cases hz : (seqB (s.data.toList.drop (k + 1))).2 = 0
        · have hr : Hid (R = ([], false, k)) := by
            show R = _
            rw [← hx.out, unl_bad _ k acc hlt' (by rw [hg]; exact h1) hz]
          rw [hz] at HS
          generalize ((seqB (s.data.toList.drop (k + 1))).1.toNat : Int) = b at *
          clear hx hex hz hle hg h0
          go_wp2_with (first | (go_at_call 35; refine (HS.out _).mono ?_; rintro e w' ⟨rfl, rfl⟩))
          go_ret3
          refine ⟨?_, hb.out⟩
          rw [hr.out]; rfl
        · have hr : Hid (unl (s.data.toList.drop (k + 1 + (seqB (s.data.toList.drop (k + 1))).2)) (k + 1 + (seqB (s.data.toList.drop (k + 1))).2) (acc ++ [(seqB (s.data.toList.drop (k + 1))).1]) = R) := by
            show _ = R
            rw [← hx.out, unl_seq _ k acc hlt' (by rw [hg]; exact h1) hz]
          have HI : Hid (([.int .u8 ((seqB (s.data.toList.drop (k + 1))).1.toNat : Int)] : List Value) = ints [(seqB (s.data.toList.drop (k + 1))).1]) := rfl
          have HN : Hid (n + 1 = (acc ++ [(seqB (s.data.toList.drop (k + 1))).1]).length) := by show _ = _; rw [List.length_append, ← hn.out]; rfl
          generalize hA : acc ++ [(seqB (s.data.toList.drop (k + 1))).1] = acc2 at *
          have HA := Lib.hid hA
          generalize ((seqB (s.data.toList.drop (k + 1))).1.toNat : Int) = b at *
          generalize hL : (seqB (s.data.toList.drop (k + 1))).2 = L at *
          have hz' : ((L : Int) == 0) = false := by simp; omega
          clear hx hex hg h0 hA hL
          go_wp2_with (first | (go_at_call 35; refine (HS.out _).mono ?_; rintro e w' ⟨rfl, rfl⟩) | (at_builtin; refine app_lit 42 5 (.int .u8 0) 1 Tryd.underlying42 infoB rfl wr rfl _ _ rfl w.heap.size v0 _ _ _ _ rfl rfl hown.out rfl rfl ?c1 hBs ?c2 ?c3 ?_))
          case c1 => simp [Value.oneCell']
          case c2 => unfold maxLen; omega
          case c3 => omega
          intro v' w1 hown' hb'
          have HW := Lib.hid (own_app hown' HI.out)
          rw [HA.out] at HW
          have HB := Lib.hid (hb' w hb.out)
          clear hown' hb'
          go_wp2
          go_roundw
          case rel => exact ⟨k + 1 + L, n + 1, _, acc2, rfl, by omega, by go_num, by omega, HN.out, HW.out, HB.out, hr.out⟩
          case measure => simp [intOf]; omega
      · rw [h0] at hq
        have h1 : s[k] ≠ 92 := by simpa using h0
        have hr : Hid (unl (s.data.toList.drop (k + 1)) (k + 1) (acc ++ [s[k]]) = R) := by
          show _ = R
          rw [← hx.out, unl_char _ k acc hlt' (by rw [hg]; exact h1), hg]
        have HN : Hid (n + 1 = (acc ++ [s[k]]).length) := by show _ = _; rw [List.length_append, ← hn.out]; rfl
        clear hx hg h0
        go_wp2_with (first | (at_builtin; refine app_lit 42 5 (.int .u8 0) 1 Tryd.underlying42 infoB rfl wr rfl _ _ rfl w.heap.size v0 _ _ _ _ rfl rfl hown.out rfl rfl ?c1 hBs ?c2 ?c3 ?_))
        case c1 => simp [Value.oneCell']
        case c2 => unfold maxLen; omega
        case c3 => omega
        intro v' w1 hown' hb'
        have HW := Lib.hid (own_app (r := [s[k]]) hown' rfl)
        have HB := Lib.hid (hb' w hb.out)
        clear hown' hb'
        go_wp2
        go_roundw
        case rel => exact ⟨k + 1, n + 1, _, _, rfl, by omega, by go_num, by omega, HN.out, HW.out, HB.out, hr.out⟩
        case measure => simp [intOf]; omega
    · obtain rfl : k = s.size := by omega
      have hr : Hid (R = (acc, true, 0)) := by
        show R = _
        rw [← hx.out, List.drop_eq_nil_of_le (by rw [size_len]; exact Nat.le_refl _), unl_nil]
      have hcv := conv_own hown.out hn.out
      clear hx
      go_wp2
      go_ret3
      refine ⟨?_, hb.out⟩
      rw [hr.out]; rfl
end Go.Proofs.YtgcpagnnkmpeoaaDoor
