/- Escape, as the program and the reference have it. -/
import Derived.Test.YtgcpagnnkmpeoaaDoorTxApp
import Derived.Laws.IdiomStrings
set_option linter.unusedVariables false
namespace Go.Proofs.YtgcpagnnkmpeoaaDoor
open Go.RowKit

/-- A slice of bytes that the call has made, as a string. -/
theorem conv_own {w : World} {B n : Nat} {v : Value} {l : List UInt8} (h : w.ownsRow B 5 1 v n (ints l)) (hn : n = l.length) : (convert 42 9 v).run Tryd.prog w = .ok (.string (mk l)) w := by
  subst hn
  rcases Joins.ownsRow_forms h with ⟨rfl, h0⟩ | ⟨g, cap, rfl⟩
  · have hl : l = [] := List.eq_nil_of_length_eq_zero h0
    subst hl
    have hz := run_loadCells_list (P := Tryd.prog) w ⟨0, 0, none⟩ [] (fun j v hj => by simp at hj)
    rw [run_convert_bytes_string w 42 9 5 none 0 0 Tryd.underlying42 Tryd.underlying5 Tryd.underlying9]
    rfl
  · have hc := run_convert_bytes_back (P := Tryd.prog) w 42 9 5 ⟨g, 0, none⟩ cap l Tryd.underlying42 Tryd.underlying5 Tryd.underlying9 (fun j hj => h.cells rfl j _ (by unfold ints; rw [List.getElem?_map, List.getElem?_eq_getElem hj]; rfl))
    exact hc
theorem make_own (n : Nat) (hn : n ≤ 281474976710656) (u : World) : (Instr.makeSlice 42 (.int .i64 0) (.int .i64 (n : Int))).run Tryd.prog u = .ok (.slice (some ⟨u.heap.size, 0, none⟩) 0 n) (u.alloc (.cells (madeCells #[.int .u8 0] n) 5)) := by
  obtain ⟨i0, hi, hz0, hz1, hz2⟩ := info_parts infoB
  have h := run_make (P := Tryd.prog) u 42 5 i0 (.int .u8 0) Tryd.underlying42 hi hz0 .i64 .i64 0 (n : Int) (by omega) (by omega) (by rw [hz2]; omega) (by omega)
  have e : ((n : Nat) : Int).toNat = n := by omega
  rw [e] at h
  simpa [hz1, Value.cells] using h
theorem own_post {w : World} {B n k : Nat} {v : Value} {l : List UInt8} (h : w.ownsRow B 5 1 v n (ints l)) (hk : n = k) {r : List UInt8} (hr : l = r) : w.ownsRow B 5 1 v k (ints r) := by
  subst hk hr; exact h

set_option maxHeartbeats 400000 in
theorem escape_any (s : ByteArray) (w : World) (hs : s.size ≤ 200000000000) :
    Calls Tryd.prog 23 #[.string s] w fun e w' => e = .returned (.string (mk (escL s.data.toList))) ∧ Below w.heap.size w w' := by
  have hmk := make_own s.size (by omega)
  generalize hR : mk (escL s.data.toList) = R
  have HR := Lib.hid hR
  clear hR
  go_enter Tryd.func23, Tryd.ntmps23
  go_wp2
  clear hmk
  go_loopw [3, 10] (fun v i wr => ∃ (k n : Nat), k ≤ s.size ∧ i = .int .i64 k ∧ Hid (n = (escL (s.data.toList.take k)).length) ∧ Hid (wr.ownsRow w.heap.size 5 1 v n (ints (escL (s.data.toList.take k)))) ∧ Hid (Below w.heap.size w wr)) (fun _ i _ => s.size - (intOf i).toNat)
  case atStart => exact ⟨0, 0, Nat.zero_le _, rfl, rfl, World.ownsRow_made w _ s.size (Nat.le_refl _) (by unfold maxLen; omega) (by simp [size_madeCells]), (Below.refl _ _).alloc (Nat.le_refl _) _⟩
  case round =>
    obtain ⟨k, n, hk, rfl, hn, hown, hb⟩ := hrel
    by_cases hlt : k < s.size
    · have hlt' : k < s.data.toList.length := by rw [size_len]; exact hlt
      have hg : s.data.toList[k] = s[k] := rfl
      have hle := escL_take_len s.data.toList k
      rw [← hn.out, size_len] at hle
      have HA : Hid (Calls Tryd.prog 34 #[_, .int .u8 (s[k].toNat : Int)] wr (AppPost w.heap.size n (escL (s.data.toList.take k)) (esc s[k]) wr)) := app_any w.heap.size n _ _ s[k] wr hb.out.size hown.out (by omega)
      have ht := Lib.hid (escL_take s.data.toList k hlt')
      rw [hg] at ht
      clear hg hle hown
      go_wp2_with (first | (go_at_call 34; refine HA.out.mono ?_; rintro e w1 ⟨v', rfl, hown', hb'⟩; have HO := Lib.hid hown'; have HB := Lib.hid hb'; clear hown' hb'))
      go_roundw
      case rel => exact ⟨k + 1, n + (esc s[k]).length, by omega, by go_num, by show _ = _; rw [ht.out, List.length_append, ← hn.out], by show World.ownsRow _ _ _ _ _ _ _; rw [ht.out]; exact HO.out, hb.out.trans HB.out⟩
      case measure => simp [intOf]; omega
    · obtain rfl : k = s.size := by omega
      have e1 : s.data.toList.take s.size = s.data.toList := by rw [← size_len, List.take_length]
      rw [e1] at hn hown
      have hcv := conv_own hown.out hn.out
      rw [HR.out] at hcv
      go_wp2
      go_ret
      exact ⟨rfl, hb.out⟩

theorem own_app {w : World} {B n m : Nat} {v : Value} {l r : List UInt8} {vs : List Value} (h : w.ownsRow B 5 1 v (n + m) (ints l ++ vs)) (hv : vs = ints r) : w.ownsRow B 5 1 v (n + m) (ints (l ++ r)) := by
  rw [ints_app, ← hv]; exact h
set_option maxHeartbeats 1000000 in
theorem rescape_any (s : ByteArray) (w : World) (hs : s.size ≤ 200000000000) :
    Calls Tryd.prog 25 #[.string s] w fun e w' => e = .returned (.string (mk (escL s.data.toList))) ∧ Below w.heap.size w w' := by
  generalize hR : mk (escL s.data.toList) = R
  have HR := Lib.hid hR
  clear hR
  go_enter Tryd.func25, Tryd.ntmps25
  go_wp2
  go_loopw [3, 4] (fun v i wr => ∃ (k n : Nat) (sv : Value), sv = v ∧ k ≤ s.size ∧ i = .int .i64 k ∧ Hid (n = (escL (s.data.toList.take k)).length) ∧ Hid (wr.ownsRow w.heap.size 5 1 v n (ints (escL (s.data.toList.take k)))) ∧ Hid (Below w.heap.size w wr)) (fun _ i _ => s.size - (intOf i).toNat)
  case atStart => exact ⟨0, 0, _, rfl, Nat.zero_le _, rfl, rfl, World.ownsRow_nil _ _ _ _, Below.refl _ _⟩
  case round =>
    obtain ⟨k, n, v0, rfl, hk, rfl, hn, hown, hb⟩ := hrel
    by_cases hlt : k < s.size
    · have hlt' : k < s.data.toList.length := by rw [size_len]; exact hlt
      have hg : s.data.toList[k] = s[k] := rfl
      have hle := escL_take_len s.data.toList k
      rw [← hn.out, size_len] at hle
      have ht := Lib.hid (escL_take s.data.toList k hlt')
      rw [hg] at ht
      have HL : Hid (∀ w, Calls Tryd.prog 36 #[.int .u8 (s[k].toNat : Int)] w fun e w' => e = .returned (.int .u8 ((lett s[k]).toNat : Int)) ∧ w = w') := fun w => letter_any s[k] w
      have hq := beq_byte (lett s[k]) 0
      rw [show ((0 : UInt8).toNat : Int) = 0 from rfl] at hq
      have hes : Hid (esc s[k] = if lett s[k] ≠ 0 then [92, lett s[k]] else if s[k].toNat < 32 ∨ 126 < s[k].toNat then oct3 s[k] else [s[k]]) := rfl
      have hcl := byte_le s[k]
      obtain ⟨c1, c2⟩ := hcl
      have nle : n ≤ 1000000000000 := by omega
      have hBs := hb.out.size
      clear hg hle
      rcases tf (lett s[k] == 0) with h0 | h0
      · rw [h0] at hq
        have h1 : lett s[k] = 0 := by simpa using h0
        have hes2 := hes.out
        rw [if_neg (fun e => e h1)] at hes2
        by_cases h32 : (s[k].toNat : Int) < 32
        · rw [if_pos (.inl (by omega))] at hes2
          rw [hes2] at ht
          generalize ((lett s[k]).toNat : Int) = L at *
          clear hes hes2 h0 h1
          go_wp2_with (first | (go_at_call 36; refine (HL.out _).mono ?_; rintro e w' ⟨rfl, rfl⟩) | (at_builtin; refine app_lit 42 5 (.int .u8 0) 1 Tryd.underlying42 infoB rfl wr rfl _ _ rfl w.heap.size v0 _ _ _ _ rfl rfl hown.out rfl rfl ?c1 hBs ?c2 ?c3 ?_))
          case c1 => simp [Value.oneCell']
          case c2 => unfold maxLen; omega
          case c3 => omega
          intro v' w1 hown' hb'
          have HW := Lib.hid (own_app hown' (by first | exact oct_ints s[k] | (have hlt := s[k].toNat_lt; rw [← oct_ints s[k]]; simp only [List.cons.injEq, Value.int.injEq, true_and, and_true]; omega)))
          have HB := Lib.hid (hb' w hb.out)
          clear hown' hb'
          go_wp2
          go_roundw
          case rel => exact ⟨k + 1, n + 4, _, rfl, by omega, by go_num, by show _ = _; rw [ht.out, List.length_append, ← hn.out]; rfl, by show World.ownsRow _ _ _ _ _ _ _; rw [ht.out]; exact HW.out, HB.out⟩
          case measure => simp [intOf]; omega
        · by_cases h126 : 126 < (s[k].toNat : Int)
          · rw [if_pos (.inr (by omega))] at hes2
            rw [hes2] at ht
            generalize ((lett s[k]).toNat : Int) = L at *
            clear hes hes2 h0 h1
            go_wp2_with (first | (go_at_call 36; refine (HL.out _).mono ?_; rintro e w' ⟨rfl, rfl⟩) | (at_builtin; refine app_lit 42 5 (.int .u8 0) 1 Tryd.underlying42 infoB rfl wr rfl _ _ rfl w.heap.size v0 _ _ _ _ rfl rfl hown.out rfl rfl ?c1 hBs ?c2 ?c3 ?_))
            case c1 => simp [Value.oneCell']
            case c2 => unfold maxLen; omega
            case c3 => omega
            intro v' w1 hown' hb'
            have HW := Lib.hid (own_app hown' (by first | exact oct_ints s[k] | (have hlt := s[k].toNat_lt; rw [← oct_ints s[k]]; simp only [List.cons.injEq, Value.int.injEq, true_and, and_true]; omega)))
            have HB := Lib.hid (hb' w hb.out)
            clear hown' hb'
            go_wp2
            go_roundw
            case rel => exact ⟨k + 1, n + 4, _, rfl, by omega, by go_num, by show _ = _; rw [ht.out, List.length_append, ← hn.out]; rfl, by show World.ownsRow _ _ _ _ _ _ _; rw [ht.out]; exact HW.out, HB.out⟩
            case measure => simp [intOf]; omega
          · have d1 : decide ((s[k].toNat : Int) < 32) = false := decide_eq_false h32
            have d2 : decide (126 < (s[k].toNat : Int)) = false := decide_eq_false h126
            have d3 : 32 ≤ (s[k].toNat : Int) := by omega
            have d4 : (s[k].toNat : Int) ≤ 126 := by omega
            rw [if_neg (by omega)] at hes2
            rw [hes2] at ht
            generalize ((lett s[k]).toNat : Int) = L at *
            clear hes hes2 h0 h1
            go_wp2_with (first | (go_at_call 36; refine (HL.out _).mono ?_; rintro e w' ⟨rfl, rfl⟩) | (at_builtin; refine app_lit 42 5 (.int .u8 0) 1 Tryd.underlying42 infoB rfl wr rfl _ _ rfl w.heap.size v0 _ _ _ _ rfl rfl hown.out rfl rfl ?c1 hBs ?c2 ?c3 ?_))
            case c1 => simp [Value.oneCell']
            case c2 => unfold maxLen; omega
            case c3 => omega
            intro v' w1 hown' hb'
            have HW := Lib.hid (own_app (r := [s[k]]) hown' rfl)
            have HB := Lib.hid (hb' w hb.out)
            clear hown' hb'
            go_wp2
            go_roundw
            case rel => exact ⟨k + 1, n + 1, _, rfl, by omega, by go_num, by show _ = _; rw [ht.out, List.length_append, ← hn.out]; rfl, by show World.ownsRow _ _ _ _ _ _ _; rw [ht.out]; exact HW.out, HB.out⟩
            case measure => simp [intOf]; omega
      · rw [h0] at hq
        have h1 : lett s[k] ≠ 0 := by simpa using h0
        have hes2 := hes.out
        rw [if_pos h1] at hes2
        rw [hes2] at ht
        have HI : Hid (([.int .u8 92, .int .u8 ((lett s[k]).toNat : Int)] : List Value) = ints [92, lett s[k]]) := rfl
        generalize ((lett s[k]).toNat : Int) = L at *
        clear hes hes2 h0 h1
        go_wp2_with (first | (go_at_call 36; refine (HL.out _).mono ?_; rintro e w' ⟨rfl, rfl⟩) | (at_builtin; refine app_lit 42 5 (.int .u8 0) 1 Tryd.underlying42 infoB rfl wr rfl _ _ rfl w.heap.size v0 _ _ _ _ rfl rfl hown.out rfl rfl ?c1 hBs ?c2 ?c3 ?_))
        case c1 => simp [Value.oneCell']
        case c2 => unfold maxLen; omega
        case c3 => omega
        intro v' w1 hown' hb'
        have HW := Lib.hid (own_app hown' HI.out)
        have HB := Lib.hid (hb' w hb.out)
        clear hown' hb'
        go_wp2
        go_roundw
        case rel => exact ⟨k + 1, n + 2, _, rfl, by omega, by go_num, by show _ = _; rw [ht.out, List.length_append, ← hn.out]; rfl, by show World.ownsRow _ _ _ _ _ _ _; rw [ht.out]; exact HW.out, HB.out⟩
        case measure => simp [intOf]; omega
    · obtain rfl : k = s.size := by omega
      have e1 : s.data.toList.take s.size = s.data.toList := by rw [← size_len, List.take_length]
      rw [e1] at hn hown
      have hcv := conv_own hown.out hn.out
      rw [HR.out] at hcv
      go_wp2
      go_ret
      exact ⟨rfl, hb.out⟩
end Go.Proofs.YtgcpagnnkmpeoaaDoor
