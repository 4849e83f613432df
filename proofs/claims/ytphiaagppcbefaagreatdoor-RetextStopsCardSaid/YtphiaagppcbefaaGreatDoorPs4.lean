/- LcDefB, LcValid. -/
import Derived.Test.YtphiaagppcbefaaGreatDoorRows
import Derived.Test.YtphiaagppcbefaaGreatDoorPs1
set_option linter.unusedVariables false
namespace Go.Proofs.YtphiaagppcbefaaGreatDoor
open Go.RowKit
attribute [local irreducible] lowL upL idL Ldef lcl
set_option maxRecDepth 100000 in
set_option maxHeartbeats 8000000 in
theorem default_any (w : World) : Calls Tryz.prog 17 #[] w fun e w' => ∃ x y : Nat, w.heap.size ≤ x ∧ e = .returned (.agg (lcl Ldef (.slice (some ⟨x, 0, none⟩) 256 y) (.slice none 0 0) (.slice none 0 0))) ∧ LocM w' Ldef (.slice (some ⟨x, 0, none⟩) 256 y) (.slice none 0 0) (.slice none 0 0) ∧ Below w.heap.size w w' := by
  have H0 := Lib.hid (def0 w)
  go_enter Tryz.func17, Tryz.ntmps17
  go_wp2
  go_loopw [2, 3, 4] (fun o2 o3 i wr => ∃ (k : Nat) (v1 v2 v3 : Value), v2 = o2 ∧ v3 = o3 ∧ k ≤ 256 ∧ i = .int .i64 k ∧ Hid (DefAt w.heap.size w wr k k k v1 v2 v3)) (fun _ _ i _ => 256 - (intOf i).toNat)
  case atStart => exact ⟨0, _, _, _, rfl, rfl, Nat.zero_le _, rfl, H0.out⟩
  case round =>
    obtain ⟨k, v1, v2, v3, rfl, rfl, hk, rfl, HD⟩ := hrel
    by_cases hlt : k < 256
    · have hi : (k : Int) < 256 := by omega
      have hi0 : (0 : Int) ≤ k := by omega
      have hw : IntKind.u8.wrap (k : Int) = (k : Int) := IntWalk.u8_in _ (by omega)
      have c1 : wr.cell? ⟨w.heap.size + 1, 1, none⟩ = some v1 := (HD.out.2.2.1.cell 1)
      have hf := HD.out.2.2.1.free
      have hB1 : w.heap.size + 2 ≤ wr.heap.size := HD.out.2.2.1.lt
      have hcut : ((k : Int) < 65) ∨ ((65 : Int) ≤ k ∧ (k : Int) ≤ 90) ∨ ((91 : Int) ≤ k ∧ (k : Int) ≤ 96) ∨ ((97 : Int) ≤ k ∧ (k : Int) ≤ 122) ∨ ((123 : Int) ≤ k) := by omega
      rcases hcut with h1 | h1 | h1 | h1 | h1
      · have n1 : ¬ (65 : Int) ≤ k := by omega
        have n2 : ¬ (97 : Int) ≤ k := by omega
        have HL := Lib.hid (lowC_no k (by omega) hlt)
        have HU := Lib.hid (upC_no k (by omega) hlt)
        go_wp2_with (first
          | (at_builtin; refine app_far 22 3 (.int .i64 0) 8 Tryz.underlying22 infoI rfl wr rfl _ _ rfl (w.heap.size + 2) v1 _ _ _ _ rfl rfl HD.out.2.2.2.1 _ rfl rfl rfl ?c1 (by decide) hB1 ?c2 ?c3 ?_))
        case c1 => simp [Value.oneCell']
        case c2 => unfold maxLen; omega
        case c3 => omega
        intro x1 y1 w1 hown hbel hsz hfar
        have b1 := hbel wr (Below.refl _ _)
        have HD1 := Lib.hid (def1 HD.out hown hbel hfar)
        have g1 : w1.cell? ⟨w.heap.size + 1, 1, none⟩ = some v1 := (HD.out.2.2.1.under b1 (by omega)).cell 1
        have hf1 := (HD.out.2.2.1.under b1 (by omega)).free
        have hs1 : w.heap.size + 2 ≤ (w1.setCell ⟨w.heap.size + 1, 1, none⟩ (.slice (some ⟨x1, 0, none⟩) (k + 1) y1)).heap.size := HD1.out.2.2.1.lt
        clear hown hbel hsz hfar b1
        go_wp2_with (first
          | (at_builtin; refine app_far 62 5 (.int .u8 0) 1 Tryz.underlying62 infoU rfl (w1.setCell ⟨w.heap.size + 1, 1, none⟩ (.slice (some ⟨x1, 0, none⟩) (k + 1) y1)) rfl _ _ rfl (w.heap.size + 2) v2 _ _ _ _ rfl rfl HD1.out.2.2.2.2.1 w1.heap.size (by simp) rfl rfl ?c1 (by decide) hs1 ?c2 ?c3 ?_))
        case c1 => simp [Value.oneCell']
        case c2 => unfold maxLen; omega
        case c3 => omega
        intro x2 y2 w2 hown hbel hsz hfar
        have HD2 := Lib.hid (def2 HD1.out HL.out hown hbel hfar)
        have hs2 : w.heap.size + 2 ≤ w2.heap.size := HD2.out.2.2.1.lt
        clear hown hbel hsz hfar
        go_wp2_with (first
          | (at_builtin; refine app_far 62 5 (.int .u8 0) 1 Tryz.underlying62 infoU rfl w2 rfl _ _ rfl (w.heap.size + 2) v3 _ _ _ _ rfl rfl HD2.out.2.2.2.2.2.1 _ rfl rfl rfl ?c1 (by decide) hs2 ?c2 ?c3 ?_))
        case c1 => simp [Value.oneCell']
        case c2 => unfold maxLen; omega
        case c3 => omega
        intro x3 y3 w3 hown hbel hsz hfar
        have HD3 := Lib.hid (def3 HD2.out HU.out hown hbel hfar)
        clear hown hbel hsz hfar
        go_wp2
        go_roundw
        case rel => exact ⟨k + 1, _, _, _, rfl, rfl, by omega, by go_num, HD3.out⟩
        case measure => simp [intOf]; omega
      · have p1 : (65 : Int) ≤ k := by omega
        have p2 : (k : Int) ≤ 90 := by omega
        have n2 : ¬ (97 : Int) ≤ k := by omega
        have HL := Lib.hid (lowC_yes k (by omega) (by omega))
        have HU := Lib.hid (upC_no k (by omega) hlt)
        have hw2 : IntKind.u8.wrap ((k : Int) + 32) = (k : Int) + 32 := IntWalk.u8_in _ (by omega)
        go_wp2_with (first
          | (at_builtin; refine app_far 22 3 (.int .i64 0) 8 Tryz.underlying22 infoI rfl wr rfl _ _ rfl (w.heap.size + 2) v1 _ _ _ _ rfl rfl HD.out.2.2.2.1 _ rfl rfl rfl ?c1 (by decide) hB1 ?c2 ?c3 ?_))
        case c1 => simp [Value.oneCell']
        case c2 => unfold maxLen; omega
        case c3 => omega
        intro x1 y1 w1 hown hbel hsz hfar
        have b1 := hbel wr (Below.refl _ _)
        have HD1 := Lib.hid (def1 HD.out hown hbel hfar)
        have g1 : w1.cell? ⟨w.heap.size + 1, 1, none⟩ = some v1 := (HD.out.2.2.1.under b1 (by omega)).cell 1
        have hf1 := (HD.out.2.2.1.under b1 (by omega)).free
        have hs1 : w.heap.size + 2 ≤ (w1.setCell ⟨w.heap.size + 1, 1, none⟩ (.slice (some ⟨x1, 0, none⟩) (k + 1) y1)).heap.size := HD1.out.2.2.1.lt
        clear hown hbel hsz hfar b1
        go_wp2_with (first
          | (at_builtin; refine app_far 62 5 (.int .u8 0) 1 Tryz.underlying62 infoU rfl (w1.setCell ⟨w.heap.size + 1, 1, none⟩ (.slice (some ⟨x1, 0, none⟩) (k + 1) y1)) rfl _ _ rfl (w.heap.size + 2) v2 _ _ _ _ rfl rfl HD1.out.2.2.2.2.1 w1.heap.size (by simp) rfl rfl ?c1 (by decide) hs1 ?c2 ?c3 ?_))
        case c1 => simp [Value.oneCell']
        case c2 => unfold maxLen; omega
        case c3 => omega
        intro x2 y2 w2 hown hbel hsz hfar
        have HD2 := Lib.hid (def2 HD1.out HL.out hown hbel hfar)
        have hs2 : w.heap.size + 2 ≤ w2.heap.size := HD2.out.2.2.1.lt
        clear hown hbel hsz hfar
        go_wp2_with (first
          | (at_builtin; refine app_far 62 5 (.int .u8 0) 1 Tryz.underlying62 infoU rfl w2 rfl _ _ rfl (w.heap.size + 2) v3 _ _ _ _ rfl rfl HD2.out.2.2.2.2.2.1 _ rfl rfl rfl ?c1 (by decide) hs2 ?c2 ?c3 ?_))
        case c1 => simp [Value.oneCell']
        case c2 => unfold maxLen; omega
        case c3 => omega
        intro x3 y3 w3 hown hbel hsz hfar
        have HD3 := Lib.hid (def3 HD2.out HU.out hown hbel hfar)
        clear hown hbel hsz hfar
        go_wp2
        go_roundw
        case rel => exact ⟨k + 1, _, _, _, rfl, rfl, by omega, by go_num, HD3.out⟩
        case measure => simp [intOf]; omega
      · have p1 : (65 : Int) ≤ k := by omega
        have q1 : ¬ (k : Int) ≤ 90 := by omega
        have n2 : ¬ (97 : Int) ≤ k := by omega
        have HL := Lib.hid (lowC_no k (by omega) hlt)
        have HU := Lib.hid (upC_no k (by omega) hlt)
        go_wp2_with (first
          | (at_builtin; refine app_far 22 3 (.int .i64 0) 8 Tryz.underlying22 infoI rfl wr rfl _ _ rfl (w.heap.size + 2) v1 _ _ _ _ rfl rfl HD.out.2.2.2.1 _ rfl rfl rfl ?c1 (by decide) hB1 ?c2 ?c3 ?_))
        case c1 => simp [Value.oneCell']
        case c2 => unfold maxLen; omega
        case c3 => omega
        intro x1 y1 w1 hown hbel hsz hfar
        have b1 := hbel wr (Below.refl _ _)
        have HD1 := Lib.hid (def1 HD.out hown hbel hfar)
        have g1 : w1.cell? ⟨w.heap.size + 1, 1, none⟩ = some v1 := (HD.out.2.2.1.under b1 (by omega)).cell 1
        have hf1 := (HD.out.2.2.1.under b1 (by omega)).free
        have hs1 : w.heap.size + 2 ≤ (w1.setCell ⟨w.heap.size + 1, 1, none⟩ (.slice (some ⟨x1, 0, none⟩) (k + 1) y1)).heap.size := HD1.out.2.2.1.lt
        clear hown hbel hsz hfar b1
        go_wp2_with (first
          | (at_builtin; refine app_far 62 5 (.int .u8 0) 1 Tryz.underlying62 infoU rfl (w1.setCell ⟨w.heap.size + 1, 1, none⟩ (.slice (some ⟨x1, 0, none⟩) (k + 1) y1)) rfl _ _ rfl (w.heap.size + 2) v2 _ _ _ _ rfl rfl HD1.out.2.2.2.2.1 w1.heap.size (by simp) rfl rfl ?c1 (by decide) hs1 ?c2 ?c3 ?_))
        case c1 => simp [Value.oneCell']
        case c2 => unfold maxLen; omega
        case c3 => omega
        intro x2 y2 w2 hown hbel hsz hfar
        have HD2 := Lib.hid (def2 HD1.out HL.out hown hbel hfar)
        have hs2 : w.heap.size + 2 ≤ w2.heap.size := HD2.out.2.2.1.lt
        clear hown hbel hsz hfar
        go_wp2_with (first
          | (at_builtin; refine app_far 62 5 (.int .u8 0) 1 Tryz.underlying62 infoU rfl w2 rfl _ _ rfl (w.heap.size + 2) v3 _ _ _ _ rfl rfl HD2.out.2.2.2.2.2.1 _ rfl rfl rfl ?c1 (by decide) hs2 ?c2 ?c3 ?_))
        case c1 => simp [Value.oneCell']
        case c2 => unfold maxLen; omega
        case c3 => omega
        intro x3 y3 w3 hown hbel hsz hfar
        have HD3 := Lib.hid (def3 HD2.out HU.out hown hbel hfar)
        clear hown hbel hsz hfar
        go_wp2
        go_roundw
        case rel => exact ⟨k + 1, _, _, _, rfl, rfl, by omega, by go_num, HD3.out⟩
        case measure => simp [intOf]; omega
      · have p1 : (65 : Int) ≤ k := by omega
        have q1 : ¬ (k : Int) ≤ 90 := by omega
        have p3 : (97 : Int) ≤ k := by omega
        have p4 : (k : Int) ≤ 122 := by omega
        have HL := Lib.hid (lowC_no k (by omega) hlt)
        have HU := Lib.hid (upC_yes k (by omega) (by omega))
        have hw2 : IntKind.u8.wrap ((k : Int) - 32) = (k : Int) - 32 := IntWalk.u8_in _ (by omega)
        go_wp2_with (first
          | (at_builtin; refine app_far 22 3 (.int .i64 0) 8 Tryz.underlying22 infoI rfl wr rfl _ _ rfl (w.heap.size + 2) v1 _ _ _ _ rfl rfl HD.out.2.2.2.1 _ rfl rfl rfl ?c1 (by decide) hB1 ?c2 ?c3 ?_))
        case c1 => simp [Value.oneCell']
        case c2 => unfold maxLen; omega
        case c3 => omega
        intro x1 y1 w1 hown hbel hsz hfar
        have b1 := hbel wr (Below.refl _ _)
        have HD1 := Lib.hid (def1 HD.out hown hbel hfar)
        have g1 : w1.cell? ⟨w.heap.size + 1, 1, none⟩ = some v1 := (HD.out.2.2.1.under b1 (by omega)).cell 1
        have hf1 := (HD.out.2.2.1.under b1 (by omega)).free
        have hs1 : w.heap.size + 2 ≤ (w1.setCell ⟨w.heap.size + 1, 1, none⟩ (.slice (some ⟨x1, 0, none⟩) (k + 1) y1)).heap.size := HD1.out.2.2.1.lt
        clear hown hbel hsz hfar b1
        go_wp2_with (first
          | (at_builtin; refine app_far 62 5 (.int .u8 0) 1 Tryz.underlying62 infoU rfl (w1.setCell ⟨w.heap.size + 1, 1, none⟩ (.slice (some ⟨x1, 0, none⟩) (k + 1) y1)) rfl _ _ rfl (w.heap.size + 2) v2 _ _ _ _ rfl rfl HD1.out.2.2.2.2.1 w1.heap.size (by simp) rfl rfl ?c1 (by decide) hs1 ?c2 ?c3 ?_))
        case c1 => simp [Value.oneCell']
        case c2 => unfold maxLen; omega
        case c3 => omega
        intro x2 y2 w2 hown hbel hsz hfar
        have HD2 := Lib.hid (def2 HD1.out HL.out hown hbel hfar)
        have hs2 : w.heap.size + 2 ≤ w2.heap.size := HD2.out.2.2.1.lt
        clear hown hbel hsz hfar
        go_wp2_with (first
          | (at_builtin; refine app_far 62 5 (.int .u8 0) 1 Tryz.underlying62 infoU rfl w2 rfl _ _ rfl (w.heap.size + 2) v3 _ _ _ _ rfl rfl HD2.out.2.2.2.2.2.1 _ rfl rfl rfl ?c1 (by decide) hs2 ?c2 ?c3 ?_))
        case c1 => simp [Value.oneCell']
        case c2 => unfold maxLen; omega
        case c3 => omega
        intro x3 y3 w3 hown hbel hsz hfar
        have HD3 := Lib.hid (def3 HD2.out HU.out hown hbel hfar)
        clear hown hbel hsz hfar
        go_wp2
        go_roundw
        case rel => exact ⟨k + 1, _, _, _, rfl, rfl, by omega, by go_num, HD3.out⟩
        case measure => simp [intOf]; omega
      · have p1 : (65 : Int) ≤ k := by omega
        have q1 : ¬ (k : Int) ≤ 90 := by omega
        have p3 : (97 : Int) ≤ k := by omega
        have q4 : ¬ (k : Int) ≤ 122 := by omega
        have HL := Lib.hid (lowC_no k (by omega) hlt)
        have HU := Lib.hid (upC_no k (by omega) hlt)
        go_wp2_with (first
          | (at_builtin; refine app_far 22 3 (.int .i64 0) 8 Tryz.underlying22 infoI rfl wr rfl _ _ rfl (w.heap.size + 2) v1 _ _ _ _ rfl rfl HD.out.2.2.2.1 _ rfl rfl rfl ?c1 (by decide) hB1 ?c2 ?c3 ?_))
        case c1 => simp [Value.oneCell']
        case c2 => unfold maxLen; omega
        case c3 => omega
        intro x1 y1 w1 hown hbel hsz hfar
        have b1 := hbel wr (Below.refl _ _)
        have HD1 := Lib.hid (def1 HD.out hown hbel hfar)
        have g1 : w1.cell? ⟨w.heap.size + 1, 1, none⟩ = some v1 := (HD.out.2.2.1.under b1 (by omega)).cell 1
        have hf1 := (HD.out.2.2.1.under b1 (by omega)).free
        have hs1 : w.heap.size + 2 ≤ (w1.setCell ⟨w.heap.size + 1, 1, none⟩ (.slice (some ⟨x1, 0, none⟩) (k + 1) y1)).heap.size := HD1.out.2.2.1.lt
        clear hown hbel hsz hfar b1
        go_wp2_with (first
          | (at_builtin; refine app_far 62 5 (.int .u8 0) 1 Tryz.underlying62 infoU rfl (w1.setCell ⟨w.heap.size + 1, 1, none⟩ (.slice (some ⟨x1, 0, none⟩) (k + 1) y1)) rfl _ _ rfl (w.heap.size + 2) v2 _ _ _ _ rfl rfl HD1.out.2.2.2.2.1 w1.heap.size (by simp) rfl rfl ?c1 (by decide) hs1 ?c2 ?c3 ?_))
        case c1 => simp [Value.oneCell']
        case c2 => unfold maxLen; omega
        case c3 => omega
        intro x2 y2 w2 hown hbel hsz hfar
        have HD2 := Lib.hid (def2 HD1.out HL.out hown hbel hfar)
        have hs2 : w.heap.size + 2 ≤ w2.heap.size := HD2.out.2.2.1.lt
        clear hown hbel hsz hfar
        go_wp2_with (first
          | (at_builtin; refine app_far 62 5 (.int .u8 0) 1 Tryz.underlying62 infoU rfl w2 rfl _ _ rfl (w.heap.size + 2) v3 _ _ _ _ rfl rfl HD2.out.2.2.2.2.2.1 _ rfl rfl rfl ?c1 (by decide) hs2 ?c2 ?c3 ?_))
        case c1 => simp [Value.oneCell']
        case c2 => unfold maxLen; omega
        case c3 => omega
        intro x3 y3 w3 hown hbel hsz hfar
        have HD3 := Lib.hid (def3 HD2.out HU.out hown hbel hfar)
        clear hown hbel hsz hfar
        go_wp2
        go_roundw
        case rel => exact ⟨k + 1, _, _, _, rfl, rfl, by omega, by go_num, HD3.out⟩
        case measure => simp [intOf]; omega
    · obtain rfl : k = 256 := by omega
      obtain ⟨x1, cp1, rfl, hx1, _⟩ := HD.out.2.2.2.1.form (by omega)
      obtain ⟨X, hX⟩ : ∃ X : ByteArray, (⟨(lowL 256).toArray⟩ : ByteArray) = X := ⟨_, rfl⟩
      obtain ⟨Y, hY⟩ : ∃ Y : ByteArray, (⟨(upL 256).toArray⟩ : ByteArray) = Y := ⟨_, rfl⟩
      have hc1 := conv_bys HD.out.2.2.2.2.1 (by rw [lowL_len])
      rw [hX] at hc1
      have l1 := HD.out.2.2.1
      have c2 : wr.cell? ⟨w.heap.size + 1, 2, none⟩ = some (.string ⟨#[]⟩) := l1.cell 2
      have hf := l1.free
      have l2 := l1.put 2 (.string X)
      have o3 := ownsRow_setCell_below HD.out.2.2.2.2.2.1 (a := ⟨w.heap.size + 1, 2, none⟩) (by simp) (.string X)
      have hc2 := conv_bys o3 (by rw [upL_len])
      rw [hY] at hc2
      have d3 : (wr.setCell ⟨w.heap.size + 1, 2, none⟩ (.string X)).cell? ⟨w.heap.size + 1, 3, none⟩ = some (.string ⟨#[]⟩) := l2.cell 3
      have hf2 := l2.free
      have l3 := l2.put 3 (.string Y)
      have z3 := ((HD.out.2.1.apart (k := w.heap.size + 1) (j := 2) (.string X) (by omega)).apart (k := w.heap.size + 1) (j := 3) (.string Y) (by omega))
      have e0 : ((wr.setCell ⟨w.heap.size + 1, 2, none⟩ (.string X)).setCell ⟨w.heap.size + 1, 3, none⟩ (.string Y)).cell? ⟨w.heap.size + 1, 0, none⟩ = some (.string psx) := l3.cell 0
      have e1 : ((wr.setCell ⟨w.heap.size + 1, 2, none⟩ (.string X)).setCell ⟨w.heap.size + 1, 3, none⟩ (.string Y)).cell? ⟨w.heap.size + 1, 1, none⟩ = some (.slice (some ⟨x1, 0, none⟩) 256 cp1) := l3.cell 1
      have e2 : ((wr.setCell ⟨w.heap.size + 1, 2, none⟩ (.string X)).setCell ⟨w.heap.size + 1, 3, none⟩ (.string Y)).cell? ⟨w.heap.size + 1, 2, none⟩ = some (.string X) := l3.cell 2
      have e3 : ((wr.setCell ⟨w.heap.size + 1, 2, none⟩ (.string X)).setCell ⟨w.heap.size + 1, 3, none⟩ (.string Y)).cell? ⟨w.heap.size + 1, 3, none⟩ = some (.string Y) := l3.cell 3
      have e4 : ((wr.setCell ⟨w.heap.size + 1, 2, none⟩ (.string X)).setCell ⟨w.heap.size + 1, 3, none⟩ (.string Y)).cell? ⟨w.heap.size + 1, 4, none⟩ = some (.slice none 0 0) := l3.cell 4
      have e5 : ((wr.setCell ⟨w.heap.size + 1, 2, none⟩ (.string X)).setCell ⟨w.heap.size + 1, 3, none⟩ (.string Y)).cell? ⟨w.heap.size + 1, 5, none⟩ = some (.slice none 0 0) := l3.cell 5
      have y0 : ((wr.setCell ⟨w.heap.size + 1, 2, none⟩ (.string X)).setCell ⟨w.heap.size + 1, 3, none⟩ (.string Y)).cell? ⟨w.heap.size, 0, none⟩ = some (.string ⟨#[]⟩) := z3.cell 0
      have y1 : ((wr.setCell ⟨w.heap.size + 1, 2, none⟩ (.string X)).setCell ⟨w.heap.size + 1, 3, none⟩ (.string Y)).cell? ⟨w.heap.size, 1, none⟩ = some (.slice none 0 0) := z3.cell 1
      have y2 : ((wr.setCell ⟨w.heap.size + 1, 2, none⟩ (.string X)).setCell ⟨w.heap.size + 1, 3, none⟩ (.string Y)).cell? ⟨w.heap.size, 2, none⟩ = some (.string ⟨#[]⟩) := z3.cell 2
      have y3 : ((wr.setCell ⟨w.heap.size + 1, 2, none⟩ (.string X)).setCell ⟨w.heap.size + 1, 3, none⟩ (.string Y)).cell? ⟨w.heap.size, 3, none⟩ = some (.string ⟨#[]⟩) := z3.cell 3
      have y4 : ((wr.setCell ⟨w.heap.size + 1, 2, none⟩ (.string X)).setCell ⟨w.heap.size + 1, 3, none⟩ (.string Y)).cell? ⟨w.heap.size, 4, none⟩ = some (.slice none 0 0) := z3.cell 4
      have y5 : ((wr.setCell ⟨w.heap.size + 1, 2, none⟩ (.string X)).setCell ⟨w.heap.size + 1, 3, none⟩ (.string Y)).cell? ⟨w.heap.size, 5, none⟩ = some (.slice none 0 0) := z3.cell 5
      have hf3 := l3.free
      have hf4 := z3.free
      have hp := own_put6 (ownsRow_setCell_below (ownsRow_setCell_below HD.out.2.2.2.1 (a := ⟨w.heap.size + 1, 2, none⟩) (by simp) (.string X)) (a := ⟨w.heap.size + 1, 3, none⟩) (by simp) (.string Y)) w.heap.size (by omega) (.string psx) (.slice (some ⟨x1, 0, none⟩) 256 cp1) (.string X) (.string Y) (.slice none 0 0) (.slice none 0 0)
      have HP := Lib.hid (own_SL hp (wtF Ldef) idL_at)
      have HZ3 := Lib.hid (z3.put6 (.string psx) (.slice (some ⟨x1, 0, none⟩) 256 cp1) (.string X) (.string Y) (.slice none 0 0) (.slice none 0 0))
      have HB3 := Lib.hid (below_put6 ((HD.out.1.setCell (p := ⟨w.heap.size + 1, 2, none⟩) (by simp) (.string X)).setCell (p := ⟨w.heap.size + 1, 3, none⟩) (by simp) (.string Y)) w.heap.size (Nat.le_refl _) (.string psx) (.slice (some ⟨x1, 0, none⟩) 256 cp1) (.string X) (.string Y) (.slice none 0 0) (.slice none 0 0))
      have HX := Lib.hid hX
      have HY := Lib.hid hY
      clear hp hX hY
      clear l1 l2 o3 l3 z3
      go_wp2
      have hv : (Value.agg #[.string psx, .slice (some ⟨x1, 0, none⟩) 256 cp1, .string X, .string Y, .slice none 0 0, .slice none 0 0]) = .agg (lcl Ldef (.slice (some ⟨x1, 0, none⟩) 256 cp1) (.slice none 0 0) (.slice none 0 0)) := by
        rw [lcl_def, HX.out, HY.out]
      exact bodyPost_ret (ret_loc Tryz.results17 _ _ w.heap.size _ rfl rfl HZ3.out) rfl ⟨x1, cp1, by omega, congrArg Ending.returned hv, locM_def HP.out, HB3.out⟩
end Go.Proofs.YtphiaagppcbefaaGreatDoor
set_option linter.unusedVariables false
namespace Go.Proofs.YtphiaagppcbefaaGreatDoor
open Go.RowKit
def vld (L : Loc) : Loc := if chk L = 0 then L else Ldef
theorem LAt.six {w : World} {g : Nat} {x0 x1 x2 x3 x4 x5 : Value} (h : LAt w g #[x0, x1, x2, x3, x4, x5]) :
    (w.cell? ⟨g, 0, none⟩ = some x0 ∧ w.cell? ⟨g, 1, none⟩ = some x1 ∧ w.cell? ⟨g, 2, none⟩ = some x2) ∧ (w.cell? ⟨g, 3, none⟩ = some x3 ∧ w.cell? ⟨g, 4, none⟩ = some x4 ∧ w.cell? ⟨g, 5, none⟩ = some x5) ∧ ∀ j, w.frozen? ⟨g, j, none⟩ = false :=
  ⟨⟨h.cell 0, h.cell 1, h.cell 2⟩, ⟨h.cell 3, h.cell 4, h.cell 5⟩, h.free⟩
def VL2 (w : World) (c : Array Value) : World := (w.alloc (.cells c 26)).alloc (.cells zeroL 26)
theorem VL2_one (w : World) (c : Array Value) : LAt (VL2 w c) w.heap.size c := by
  unfold LAt VL2
  rw [heap_alloc_old _ _ (by simp)]
  exact heap_alloc_new w _
theorem VL2_two (w : World) (c : Array Value) : LAt (VL2 w c) (w.heap.size + 1) zeroL := by
  have e1 : (w.alloc (.cells c 26)).heap.size = w.heap.size + 1 := by simp
  unfold LAt VL2
  rw [← e1]
  exact heap_alloc_new _ _
theorem VL2_below (w : World) (c : Array Value) : Below w.heap.size w (VL2 w c) := ((Below.refl _ _).alloc (Nat.le_refl _) _).alloc (by simp) _
theorem LocM.put6 {w : World} {L : Loc} {W C E : Value} {B : Nat} (h : LocM w L W C E) (hB : w.heap.size ≤ B) (c0 c1 c2 c3 c4 c5 : Value) : LocM (Go.Proofs.YtphiaagppcbefaaGreatDoor.put6 w B c0 c1 c2 c3 c4 c5) L W C E := h.below (below_put6 (Below.refl _ _) B hB c0 c1 c2 c3 c4 c5)
theorem put6_far (w : World) (g k : Nat) (h : k ≠ g) (c0 c1 c2 c3 c4 c5 : Value) : (Go.Proofs.YtphiaagppcbefaaGreatDoor.put6 w g c0 c1 c2 c3 c4 c5).heap[k]? = w.heap[k]? := by
  unfold Go.Proofs.YtphiaagppcbefaaGreatDoor.put6
  rw [Below.heap_setCell _ ⟨g, 5, none⟩ _ k h, Below.heap_setCell _ ⟨g, 4, none⟩ _ k h, Below.heap_setCell _ ⟨g, 3, none⟩ _ k h, Below.heap_setCell _ ⟨g, 2, none⟩ _ k h, Below.heap_setCell _ ⟨g, 1, none⟩ _ k h, Below.heap_setCell _ ⟨g, 0, none⟩ _ k h]
theorem put6_size (w : World) (g : Nat) (c0 c1 c2 c3 c4 c5 : Value) : (Go.Proofs.YtphiaagppcbefaaGreatDoor.put6 w g c0 c1 c2 c3 c4 c5).heap.size = w.heap.size := by
  unfold Go.Proofs.YtphiaagppcbefaaGreatDoor.put6
  simp
theorem SL.put6 {k n x y g : Nat} {f : Nat → Nat → Value} {w : World} (h : SL k n f w (.slice (some ⟨x, 0, none⟩) n y)) (hx : x ≠ g) (c0 c1 c2 c3 c4 c5 : Value) : SL k n f (Go.Proofs.YtphiaagppcbefaaGreatDoor.put6 w g c0 c1 c2 c3 c4 c5) (.slice (some ⟨x, 0, none⟩) n y) := by
  obtain ⟨a, cap, e, hc, h⟩ := h
  refine ⟨a, cap, e, hc, ?_⟩
  rcases h with h | ⟨b, off, ha, hlt, h⟩
  · exact .inl h
  · have hb : b = x := by
      rw [ha] at e
      simp at e
      omega
    refine .inr ⟨b, off, ha, Nat.lt_of_lt_of_eq hlt (put6_size w g c0 c1 c2 c3 c4 c5).symm, fun j i hj hi => ?_⟩
    rw [World.cell?_of_block (w := w) (a := ⟨b, off + j * k + i, none⟩) (put6_far w g b (by rw [hb]; exact hx) c0 c1 c2 c3 c4 c5)]
    exact h j i hj hi
theorem locM_wt {w : World} {W C E : Value} (h : LocM w Ldef W C E) : SL 1 256 (wtF Ldef) w W := h.1
attribute [local irreducible] Ldef
end Go.Proofs.YtphiaagppcbefaaGreatDoor
