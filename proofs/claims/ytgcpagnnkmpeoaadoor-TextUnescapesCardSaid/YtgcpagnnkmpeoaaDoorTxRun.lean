/- Unescape, as the reference has it. -/
import Derived.Test.YtgcpagnnkmpeoaaDoorTxUn
set_option linter.unusedVariables false
namespace Go.Proofs.YtgcpagnnkmpeoaaDoor
open Go.RowKit

set_option maxHeartbeats 1000000 in
theorem runesc_any (s : ByteArray) (w : World) (hs : s.size ≤ 140737488351232) :
    Calls Tryd.prog 26 #[.string s] w fun e w' => e = .returned (unV (unR s.data.toList)) ∧ Below w.heap.size w w' := by
  generalize hR : unR s.data.toList = R
  have HR := Lib.hid hR
  clear hR
  go_enter Tryd.func26, Tryd.ntmps26
  go_wp2
  go_loopw [5, 6] (fun v i wr => ∃ (k n : Nat) (sv : Value) (acc : List UInt8), sv = v ∧ k ≤ s.size ∧ i = .int .i64 k ∧ n ≤ k ∧ Hid (n = acc.length) ∧ Hid (wr.ownsRow w.heap.size 5 1 sv n (ints acc)) ∧ Hid (Below w.heap.size w wr) ∧ Hid (unl (s.data.toList.drop k) k acc = R)) (fun _ i _ => s.size - (intOf i).toNat)
  case atStart => exact ⟨0, 0, _, [], rfl, Nat.zero_le _, rfl, Nat.le_refl _, rfl, World.ownsRow_nil _ _ _ _, Below.refl _ _, HR.out⟩
  case round =>
    obtain ⟨k, n, v0, acc, rfl, hk, rfl, hnk, hn, hown, hb, hx⟩ := hrel
    have hBs := hb.out.size
    by_cases hlt : k < s.size
    · have hlt' : k < s.data.toList.length := by rw [size_len]; exact hlt
      have hg : s.data.toList[k] = s[k] := rfl
      have hq := beq_byte s[k] 92
      rw [show ((92 : UInt8).toNat : Int) = 92 from rfl] at hq
      rcases tf (s[k] == 92) with h0 | h0
      · rw [h0] at hq
        have h1 : s[k] = 92 := by simpa using h0
        have HO : Hid (∀ w, Calls Tryd.prog 37 #[.string s, .int .i64 ((k : Int) + 1)] w fun e w' => e = .returned (.tuple #[.int .i64 ((octL 3 (s.data.toList.drop (k + 1)) 0 0).1 : Int), .int .i64 ((octL 3 (s.data.toList.drop (k + 1)) 0 0).2 : Int)]) ∧ w = w') := fun w => roct_any s (k + 1) w (by omega) (by omega)
        have hbad : (seqB (s.data.toList.drop (k + 1))).2 = 0 → Hid (R = ([], false, k)) := fun hz => by
          show R = _
          rw [← hx.out, unl_bad _ k acc hlt' (by rw [hg]; exact h1) hz]
        have hseq : ∀ (c : UInt8) (L : Nat), seqB (s.data.toList.drop (k + 1)) = (c, L) → L ≠ 0 → Hid (unl (s.data.toList.drop (k + 1 + L)) (k + 1 + L) (acc ++ [c]) = R) := fun c L hz hL => by
          show _ = R
          have := unl_seq _ k acc hlt' (by rw [hg]; exact h1) (by rw [hz]; exact hL)
          rw [hz] at this
          rw [← hx.out, this]
        have hNN : ∀ c : UInt8, Hid (n + 1 = (acc ++ [c]).length) := fun c => by show _ = _; rw [List.length_append, ← hn.out]; rfl
        have hOb := octL_bound (s.data.toList.drop (k + 1)) 3 0 0
        have hOv := octL_val (s.data.toList.drop (k + 1)) 3 0 0 (by decide)
        rw [List.length_drop, size_len] at hOb
        by_cases hlt2 : k + 1 < s.size
        · have hlt2' : k + 1 < s.data.toList.length := by rw [size_len]; exact hlt2
          have hg2 : s.data.toList[k + 1] = s[k + 1] := rfl
          have hd := List.drop_eq_getElem_cons hlt2'
          rw [hg2] at hd
          rcases tf (isO s[k + 1]) with ho | ho
          · have hso := seqB_oct s[k + 1] (s.data.toList.drop (k + 1 + 1)) ho
            have hpos := (oct_pos s[k + 1] (s.data.toList.drop (k + 1 + 1))).mpr ho
            rw [← hd] at hso hpos
            have hv8 : 8 ^ (octL 3 (s.data.toList.drop (k + 1)) 0 0).2 ≤ 512 := pow8 _ (by omega)
            unfold octB at hso
            generalize octL 3 (s.data.toList.drop (k + 1)) 0 0 = O at *
            obtain ⟨V, K⟩ := O
            simp only [] at hso hpos hOb hOv hv8 HO
            have hV : V ≤ 511 := by omega
            have k0 : 0 < (K : Int) := by omega
            by_cases hb255 : 255 < V
            · rw [if_pos hb255] at hso
              have hr := hbad (by rw [hso])
              have k1 : ¬ (V : Int) ≤ 255 := by omega
              clear hbad hseq hNN hOb hOv hd hg hg2 hso hv8 hx h0 ho
              go_wp2_with (first | (go_at_call 37; refine (HO.out _).mono ?_; rintro e w' ⟨rfl, rfl⟩))
              go_ret3
              refine ⟨?_, hb.out⟩
              rw [hr.out]; rfl
            · rw [if_neg hb255] at hso
              have hr := hseq _ K hso (by omega)
              have HN := hNN (UInt8.ofNat V)
              have k1 : (V : Int) ≤ 255 := by omega
              have k2 : IntKind.u8.wrap (V : Int) = (V : Int) := by simp [IntKind.wrap, IntKind.bits, IntKind.signed]; omega
              have HI : Hid (([.int .u8 (V : Int)] : List Value) = ints [UInt8.ofNat V]) := by
                show _ = [Value.int .u8 ((UInt8.ofNat V).toNat : Int)]
                rw [show ((UInt8.ofNat V).toNat : Int) = (V : Int) by simp; omega]
              clear hbad hseq hNN hOv hd hg hg2 hso hv8 hx h0 ho
              go_wp2_with (first | (go_at_call 37; refine (HO.out _).mono ?_; rintro e w' ⟨rfl, rfl⟩) | (at_builtin; refine app_lit 42 5 (.int .u8 0) 1 Tryd.underlying42 infoB rfl wr rfl _ _ rfl w.heap.size v0 _ _ _ _ rfl rfl hown.out rfl rfl ?c1 hBs ?c2 ?c3 ?_))
              case c1 => simp [Value.oneCell']
              case c2 => unfold maxLen; omega
              case c3 => omega
              intro v' w1 hown' hb'
              have HW := Lib.hid (own_app hown' HI.out)
              have HB := Lib.hid (hb' w hb.out)
              clear hown' hb'
              go_wp2
              go_roundw
              case rel => exact ⟨k + 1 + K, n + 1, _, _, rfl, by omega, by go_num, by omega, HN.out, HW.out, HB.out, hr.out⟩
              case measure => simp [intOf]; omega
          · have hso := seqB_sg s[k + 1] (s.data.toList.drop (k + 1 + 1)) ho
            have hno := octL_no s[k + 1] (s.data.toList.drop (k + 1 + 1)) ho
            rw [← hd] at hso hno
            rw [hno] at HO
            have HG : Hid (∀ w, Calls Tryd.prog 38 #[.int .u8 (s[k + 1].toNat : Int)] w fun e w' => e = .returned (.tuple #[.int .u8 ((sgV s[k + 1]).toNat : Int), .bool (sg s[k + 1]).isSome]) ∧ w = w') := fun w => single_any s[k + 1] w
            have i1 : ¬ (s.size : Int) ≤ (k : Int) + 1 := by omega
            cases hsg : sg s[k + 1] with
            | none =>
              rw [hsg] at hso HG
              have hr := hbad (by rw [hso])
              generalize ((sgV s[k + 1]).toNat : Int) = b at *
              simp only [Option.isSome_none] at HG
              clear hbad hseq hNN hOb hOv hd hg hg2 hso hno hx h0 ho hsg
              go_wp2_with (first | (go_at_call 37; refine (HO.out _).mono ?_; rintro e w' ⟨rfl, rfl⟩) | (go_at_call 38; refine (HG.out _).mono ?_; rintro e w' ⟨rfl, rfl⟩))
              go_ret3
              refine ⟨?_, hb.out⟩
              rw [hr.out]; rfl
            | some c =>
              rw [hsg] at hso HG
              have hr := hseq c 1 hso (by omega)
              have HN := hNN c
              have hsv : sgV s[k + 1] = c := by unfold sgV; rw [hsg]; rfl
              rw [hsv] at HG
              have HI : Hid (([.int .u8 (c.toNat : Int)] : List Value) = ints [c]) := rfl
              simp only [Option.isSome_some] at HG
              generalize (c.toNat : Int) = b at *
              clear hbad hseq hNN hOb hOv hd hg hg2 hso hno hx h0 ho hsg hsv
              go_wp2_with (first | (go_at_call 37; refine (HO.out _).mono ?_; rintro e w' ⟨rfl, rfl⟩) | (go_at_call 38; refine (HG.out _).mono ?_; rintro e w' ⟨rfl, rfl⟩) | (at_builtin; refine app_lit 42 5 (.int .u8 0) 1 Tryd.underlying42 infoB rfl wr rfl _ _ rfl w.heap.size v0 _ _ _ _ rfl rfl hown.out rfl rfl ?c1 hBs ?c2 ?c3 ?_))
              case c1 => simp [Value.oneCell']
              case c2 => unfold maxLen; omega
              case c3 => omega
              intro v' w1 hown' hb'
              have HW := Lib.hid (own_app hown' HI.out)
              have HB := Lib.hid (hb' w hb.out)
              clear hown' hb'
              go_wp2
              go_roundw
              case rel => exact ⟨k + 1 + 1, n + 1, _, _, rfl, by omega, by go_num, by omega, HN.out, HW.out, HB.out, hr.out⟩
              case measure => simp [intOf]; omega
        · have hnil : s.data.toList.drop (k + 1) = [] := List.drop_eq_nil_of_le (by rw [size_len]; omega)
          have hr := hbad (by rw [hnil]; rfl)
          rw [hnil] at HO
          have HO2 : Hid (∀ w, Calls Tryd.prog 37 #[.string s, .int .i64 ((k : Int) + 1)] w fun e w' => e = .returned (.tuple #[.int .i64 0, .int .i64 0]) ∧ w = w') := HO.out
          have i1 : (s.size : Int) ≤ (k : Int) + 1 := by omega
          clear hbad hseq hNN hOb hOv hg hnil hx h0 HO
          go_wp2_with (first | (go_at_call 37; refine (HO2.out _).mono ?_; rintro e w' ⟨rfl, rfl⟩))
          go_ret3
          refine ⟨?_, hb.out⟩
          rw [hr.out]; rfl
      · rw [h0] at hq
        have h1 : s[k] ≠ 92 := by simpa using h0
        have hr : Hid (unl (s.data.toList.drop (k + 1)) (k + 1) (acc ++ [s[k]]) = R) := by
          show _ = R
          rw [← hx.out, unl_char _ k acc hlt' (by rw [hg]; exact h1), hg]
        have HN : Hid (n + 1 = (acc ++ [s[k]]).length) := by show _ = _; rw [List.length_append, ← hn.out]; rfl
        clear hx hg h0
        go_wp2_with (first | (at_builtin; refine app_lit 42 5 (.int .u8 0) 1 Tryd.underlying42 infoB rfl wr rfl _ _ rfl w.heap.size v0 _ _ _ _ rfl rfl hown.out rfl rfl ?c1 hBs ?c2 ?c3 ?_))
        case c1 => simp [Value.oneCell']
        case c2 => unfold maxLen; omega
        case c3 => omega
        intro v' w1 hown' hb'
        have HW := Lib.hid (own_app (r := [s[k]]) hown' rfl)
        have HB := Lib.hid (hb' w hb.out)
        clear hown' hb'
        go_wp2
        go_roundw
        case rel => exact ⟨k + 1, n + 1, _, _, rfl, by omega, by go_num, by omega, HN.out, HW.out, HB.out, hr.out⟩
        case measure => simp [intOf]; omega
    · obtain rfl : k = s.size := by omega
      have hr : Hid (R = (acc, true, 0)) := by
        show R = _
        rw [← hx.out, List.drop_eq_nil_of_le (by rw [size_len]; exact Nat.le_refl _), unl_nil]
      have hcv := conv_own hown.out hn.out
      clear hx
      go_wp2
      go_ret3
      refine ⟨?_, hb.out⟩
      rw [hr.out]; rfl
end Go.Proofs.YtgcpagnnkmpeoaaDoor
