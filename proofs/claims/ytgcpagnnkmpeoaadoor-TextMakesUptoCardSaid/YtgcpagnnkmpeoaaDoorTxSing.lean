/- The reference's sequences of one byte. -/
import Derived.Test.YtgcpagnnkmpeoaaDoorTxSeq
set_option linter.unusedVariables false
namespace Go.Proofs.YtgcpagnnkmpeoaaDoor
open Go.RowKit

theorem letter_nat (x : Nat) (hx : x ≤ 255) (w : World) : Calls Tryd.prog 36 #[.int .u8 (x : Int)] w fun e w' => e = .returned (.int .u8 ((lett (UInt8.ofNat x)).toNat : Int)) ∧ w = w' := by
  have h := letter_any (UInt8.ofNat x) w
  have e : ((UInt8.ofNat x).toNat : Int) = x := by simp; omega
  rw [e] at h; exact h
theorem sg_hit (x : Nat) (h1 : 7 ≤ x) (h2 : x ≤ 92) (h3 : lett (UInt8.ofNat x) ≠ 0) : sg (lett (UInt8.ofNat x)) = some (UInt8.ofNat x) := by
  have : ∀ y : Fin 93, 7 ≤ y.val → lett (UInt8.ofNat y.val) ≠ 0 → sg (lett (UInt8.ofNat y.val)) = some (UInt8.ofNat y.val) := by decide +kernel
  exact this ⟨x, by omega⟩ h1 h3
theorem sg_end (c : UInt8) (h1 : c ≠ 34) (h2 : c ≠ 47) : sg c = none ∨ ∃ y, 7 ≤ y ∧ y ≤ 92 ∧ lett (UInt8.ofNat y) = c ∧ c ≠ 0 := by
  have : ∀ c : UInt8, c ≠ 34 → c ≠ 47 → (sg c = none ∨ (7 ≤ ((sg c).getD 0).toNat ∧ ((sg c).getD 0).toNat ≤ 92 ∧ lett ((sg c).getD 0) = c ∧ c ≠ 0)) := by
    intro c; revert c; apply all_bytes; decide +kernel
  rcases this c h1 h2 with h | ⟨a, b, d, e⟩
  · exact .inl h
  · exact .inr ⟨((sg c).getD 0).toNat, a, b, by simpa using d, e⟩
def sgV (c : UInt8) : UInt8 := (sg c).getD 0
theorem ret_ib {k1 : IntKind} {a b : Int} {c d : Bool} (h1 : a = b) (h2 : c = d) : Ending.returned (.tuple #[.int k1 a, .bool c]) = .returned (.tuple #[.int k1 b, .bool d]) := by rw [h1, h2]

set_option maxHeartbeats 400000 in
theorem single_any (c : UInt8) (w : World) : Calls Tryd.prog 38 #[.int .u8 (c.toNat : Int)] w fun e w' => e = .returned (.tuple #[.int .u8 ((sgV c).toNat : Int), .bool (sg c).isSome]) ∧ w = w' := by
  have q1 := beq_byte c 34
  have q2 := beq_byte c 47
  have q0 := beq_byte c 0
  have e1 : ((34 : UInt8).toNat : Int) = 34 := rfl
  have e2 : ((47 : UInt8).toNat : Int) = 47 := rfl
  have e0 : ((0 : UInt8).toNat : Int) = 0 := rfl
  rw [e1] at q1
  rw [e2] at q2
  rw [e0] at q0
  rcases tf (c == 34) with h1 | h1
  · rw [h1] at q1
    have hc : c = 34 := by simpa using h1
    subst hc
    clear q1 q2 q0 h1 e1 e2 e0
    go_enter Tryd.func38, Tryd.ntmps38
    go_wp2
    go_ret2
    exact ⟨rfl, rfl⟩
  · rcases tf (c == 47) with h2 | h2
    · have hc : c = 47 := by simpa using h2
      subst hc
      clear q1 q2 q0 h1 e1 e2 e0 h2
      go_enter Tryd.func38, Tryd.ntmps38
      go_wp2
      go_ret2
      exact ⟨rfl, rfl⟩
    · rw [h1] at q1
      rw [h2] at q2
      have n1 : c ≠ 34 := by simpa using h1
      have n2 : c ≠ 47 := by simpa using h2
      have HE := Lib.hid (sg_end c n1 n2)
      have HN := Lib.hid (⟨n1, n2⟩ : c ≠ 34 ∧ c ≠ 47)
      clear h1 h2 n1 n2 e1 e2 e0
      generalize hV : ((sgV c).toNat : Int) = V
      generalize hB : (sg c).isSome = B
      have HV := Lib.hid hV
      have HB := Lib.hid hB
      clear hV hB
      go_enter Tryd.func38, Tryd.ntmps38
      go_wp2
      go_loop [4] (fun i => ∃ k : Nat, 7 ≤ k ∧ k ≤ 93 ∧ i = .int .i64 k ∧ Hid (∀ y, 7 ≤ y → y < k → ¬ (lett (UInt8.ofNat y) = c ∧ c ≠ 0))) (fun i => 93 - (intOf i).toNat)
      case atStart => exact ⟨7, Nat.le_refl _, by omega, rfl, fun y h1 h2 => by omega⟩
      case round =>
        obtain ⟨k, hk7, hk, rfl, hx⟩ := hrel
        by_cases hlt : (k : Int) ≤ 92
        · have HL : Hid (∀ w, Calls Tryd.prog 36 #[.int .u8 (k : Int)] w fun e w' => e = .returned (.int .u8 ((lett (UInt8.ofNat k)).toNat : Int)) ∧ w = w') := fun w => letter_nat k (by omega) w
          have q3 := beq_byte (lett (UInt8.ofNat k)) c
          have k8 : IntKind.u8.wrap (k : Int) = (k : Int) := by simp [IntKind.wrap, IntKind.bits, IntKind.signed]; omega
          rcases tf (lett (UInt8.ofNat k) == c) with h3 | h3
          · have hl : lett (UInt8.ofNat k) = c := by simpa using h3
            rcases tf (c == 0) with h4 | h4
            · have hc : c = 0 := by simpa using h4
              have HS : Hid (∀ y, 7 ≤ y → y < k + 1 → ¬ (lett (UInt8.ofNat y) = c ∧ c ≠ 0)) := fun y h1 h2 h5 => h5.2 hc
              rw [h3] at q3
              rw [h4] at q0
              generalize ((lett (UInt8.ofNat k)).toNat : Int) = L at *
              clear hx hl h3 h4 hc
              go_wp2_with (first | (go_at_call 36; refine (HL.out _).mono ?_; rintro e w' ⟨rfl, rfl⟩))
              go_round
              case rel => exact ⟨k + 1, by omega, by omega, by go_num, HS⟩
              case measure => simp [intOf]; omega
            · have hc : c ≠ 0 := by simpa using h4
              have hs := sg_hit k hk7 (by omega) (by rw [hl]; exact hc)
              rw [hl] at hs
              have v1 : V = (k : Int) := by rw [← HV.out]; unfold sgV; rw [hs]; simp; omega
              have v2 : B = true := by rw [← HB.out, hs]; rfl
              have HVV := Lib.hid v1
              have HBB := Lib.hid v2
              rw [h3] at q3
              rw [h4] at q0
              generalize ((lett (UInt8.ofNat k)).toNat : Int) = L at *
              clear hx hl h3 h4 hc hs v1 v2
              go_wp2_with (first | (go_at_call 36; refine (HL.out _).mono ?_; rintro e w' ⟨rfl, rfl⟩))
              go_ret2
              exact ⟨ret_ib HVV.out.symm HBB.out.symm, rfl⟩
          · have hl : lett (UInt8.ofNat k) ≠ c := by simpa using h3
            have HS : Hid (∀ y, 7 ≤ y → y < k + 1 → ¬ (lett (UInt8.ofNat y) = c ∧ c ≠ 0)) := fun y h1 h2 => by
              by_cases e : y = k
              · subst e; exact fun h => hl h.1
              · exact hx.out y h1 (by omega)
            rw [h3] at q3
            generalize ((lett (UInt8.ofNat k)).toNat : Int) = L at *
            clear hx hl h3
            go_wp2_with (first | (go_at_call 36; refine (HL.out _).mono ?_; rintro e w' ⟨rfl, rfl⟩))
            go_round
            case rel => exact ⟨k + 1, by omega, by omega, by go_num, HS⟩
            case measure => simp [intOf]; omega
        · have hn : sg c = none := by
            rcases HE.out with h | ⟨y, a, b, d, e⟩
            · exact h
            · exact absurd ⟨d, e⟩ (hx.out y a (by omega))
          have v1 : V = 0 := by rw [← HV.out]; unfold sgV; rw [hn]; rfl
          have v2 : B = false := by rw [← HB.out, hn]; rfl
          have HVV := Lib.hid v1
          have HBB := Lib.hid v2
          clear hx hn v1 v2
          go_wp2
          go_ret2
          exact ⟨ret_ib HVV.out.symm HBB.out.symm, rfl⟩
end Go.Proofs.YtgcpagnnkmpeoaaDoor
