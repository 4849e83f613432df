/- RxV, RxLaid. -/
import Derived.Test.YtphiaagppcbefaaGreatDoorPs32
import Derived.StillTailTactics
import Derived.Deep.CutRange
import Derived.Deep.Cut
import Derived.Deep.DeepCutAuto
import Derived.Test.YtphiaagppcbefaaGreatDoorPs33
import Derived.Shelf.Strings.Cut
import Derived.Test.YtphiaagppcbefaaGreatDoorProg
set_option linter.unusedVariables false
namespace Go.Proofs.YtphiaagppcbefaaGreatDoor
open Go.RowKit
theorem group_any (w : World) (B : Nat) (c : CX) (V : LV) (p : PS) (h : PM w B c V p) (n : Nat) (HIns : Hid (∀ W q, PM W B c V q → Gn n q → Calls Tryz.prog 105 #[.pointer (some ⟨B, 0, none⟩)] W (Ret W B c V (insW c (groT c n) q)))) (hG : Gn (n + 1) p) (hk : kdT c p = 40) :
    Calls Tryz.prog 83 #[.pointer (some ⟨B, 0, none⟩)] w (Ret w B c V (groT c (n + 1) p)) := by
  unfold groT
  by_cases h9 : p.gr = 9
  · rw [if_pos h9]; exact gro_none w B c V p h h9
  rw [if_neg h9]
  have hgr := h.gr
  have hgd := h.gd
  have hop : Gd c (opnP p) := ⟨hgd.at_, hgd.st, by show p.gr + 1 ≤ 9; omega, by show p.opn + 1 ≤ p.gr + 1; have := hgd.opn; omega⟩
  have hk2 : kdT c (opnP p) = 40 := by
    have : tokT c (opnP p) = tokT c p := kd_same rfl rfl
    unfold kdT
    rw [this]
    exact hk
  have e1 : accT c 40 (opnP p) = (true, pastT c (opnP p)) := by
    unfold accT
    rw [if_pos hk2]
  rw [e1]
  have hb := mv_past hop (by rw [hk2]; decide) (by rw [hk2]; decide)
  have gb : Gd c (begP (pastT c (opnP p))) := ⟨hb.1.b, Nat.le_refl _, hop.gr, hop.opn⟩
  have hG2 : Gn n (begP (pastT c (opnP p))) := by
    have : 10 ≤ p.gr + (n + 1) := hG
    show 10 ≤ p.gr + 1 + n
    omega
  obtain ⟨a, ha⟩ : ∃ a, insW c (groT c n) (begP (pastT c (opnP p))) = a := ⟨_, rfl⟩
  have hi := mv_ins (gro_ok c n) gb hG2
  simp only
  rw [ha] at hi ⊢
  have hao : a.2.opn = p.opn + 1 := hi.o
  have hd : p.gr = 0 ∨ p.gr = 1 ∨ p.gr = 2 ∨ p.gr = 3 ∨ p.gr = 4 ∨ p.gr = 5 ∨ p.gr = 6 ∨ p.gr = 7 ∨ p.gr = 8 := by omega
  rcases hd with hg | hg | hg | hg | hg | hg | hg | hg | hg
  · rw [hg]
    by_cases hc : kdT c a.2 = 41
    · have e2 : accT c 41 a.2 = (true, pastT c a.2) := by unfold accT; rw [if_pos hc]
      rw [e2]
      exact gro_0_y w B c V p h n HIns hg hk hG a ha hao hc
    · have e2 : accT c 41 a.2 = (false, a.2) := by unfold accT; rw [if_neg hc]
      rw [e2]
      exact gro_0_n w B c V p h n HIns hg hk hG a ha hao hc
  · rw [hg]
    by_cases hc : kdT c a.2 = 41
    · have e2 : accT c 41 a.2 = (true, pastT c a.2) := by unfold accT; rw [if_pos hc]
      rw [e2]
      exact gro_1_y w B c V p h n HIns hg hk hG a ha hao hc
    · have e2 : accT c 41 a.2 = (false, a.2) := by unfold accT; rw [if_neg hc]
      rw [e2]
      exact gro_1_n w B c V p h n HIns hg hk hG a ha hao hc
  · rw [hg]
    by_cases hc : kdT c a.2 = 41
    · have e2 : accT c 41 a.2 = (true, pastT c a.2) := by unfold accT; rw [if_pos hc]
      rw [e2]
      exact gro_2_y w B c V p h n HIns hg hk hG a ha hao hc
    · have e2 : accT c 41 a.2 = (false, a.2) := by unfold accT; rw [if_neg hc]
      rw [e2]
      exact gro_2_n w B c V p h n HIns hg hk hG a ha hao hc
  · rw [hg]
    by_cases hc : kdT c a.2 = 41
    · have e2 : accT c 41 a.2 = (true, pastT c a.2) := by unfold accT; rw [if_pos hc]
      rw [e2]
      exact gro_3_y w B c V p h n HIns hg hk hG a ha hao hc
    · have e2 : accT c 41 a.2 = (false, a.2) := by unfold accT; rw [if_neg hc]
      rw [e2]
      exact gro_3_n w B c V p h n HIns hg hk hG a ha hao hc
  · rw [hg]
    by_cases hc : kdT c a.2 = 41
    · have e2 : accT c 41 a.2 = (true, pastT c a.2) := by unfold accT; rw [if_pos hc]
      rw [e2]
      exact gro_4_y w B c V p h n HIns hg hk hG a ha hao hc
    · have e2 : accT c 41 a.2 = (false, a.2) := by unfold accT; rw [if_neg hc]
      rw [e2]
      exact gro_4_n w B c V p h n HIns hg hk hG a ha hao hc
  · rw [hg]
    by_cases hc : kdT c a.2 = 41
    · have e2 : accT c 41 a.2 = (true, pastT c a.2) := by unfold accT; rw [if_pos hc]
      rw [e2]
      exact gro_5_y w B c V p h n HIns hg hk hG a ha hao hc
    · have e2 : accT c 41 a.2 = (false, a.2) := by unfold accT; rw [if_neg hc]
      rw [e2]
      exact gro_5_n w B c V p h n HIns hg hk hG a ha hao hc
  · rw [hg]
    by_cases hc : kdT c a.2 = 41
    · have e2 : accT c 41 a.2 = (true, pastT c a.2) := by unfold accT; rw [if_pos hc]
      rw [e2]
      exact gro_6_y w B c V p h n HIns hg hk hG a ha hao hc
    · have e2 : accT c 41 a.2 = (false, a.2) := by unfold accT; rw [if_neg hc]
      rw [e2]
      exact gro_6_n w B c V p h n HIns hg hk hG a ha hao hc
  · rw [hg]
    by_cases hc : kdT c a.2 = 41
    · have e2 : accT c 41 a.2 = (true, pastT c a.2) := by unfold accT; rw [if_pos hc]
      rw [e2]
      exact gro_7_y w B c V p h n HIns hg hk hG a ha hao hc
    · have e2 : accT c 41 a.2 = (false, a.2) := by unfold accT; rw [if_neg hc]
      rw [e2]
      exact gro_7_n w B c V p h n HIns hg hk hG a ha hao hc
  · rw [hg]
    by_cases hc : kdT c a.2 = 41
    · have e2 : accT c 41 a.2 = (true, pastT c a.2) := by unfold accT; rw [if_pos hc]
      rw [e2]
      exact gro_8_y w B c V p h n HIns hg hk hG a ha hao hc
    · have e2 : accT c 41 a.2 = (false, a.2) := by unfold accT; rw [if_neg hc]
      rw [e2]
      exact gro_8_n w B c V p h n HIns hg hk hG a ha hao hc
theorem all_any (B : Nat) (c : CX) (V : LV) (HBr : Hid (∀ W q, PM W B c V q → kdT c q = 91 → Calls Tryz.prog 84 #[.pointer (some ⟨B, 0, none⟩)] W (Ret W B c V (brkT c q)))) :
    ∀ n, (∀ W q, PM W B c V q → Gn n q → Calls Tryz.prog 60 #[.pointer (some ⟨B, 0, none⟩)] W (Ret W B c V (pieW c (groT c n) q)))
  | 0, W, q, h, hG => by
    have h1 : 10 ≤ q.gr + 0 := hG
    have := h.gr
    omega
  | n + 1, W, q, h, hG => by
    refine piece_any W B c V q h (n + 1) (groT c (n + 1)) hG (Lib.hid fun W2 q2 h2 hG2 hk2 => ?_) HBr
    refine group_any W2 B c V q2 h2 n (Lib.hid fun W3 q3 h3 hG3 => ?_) hG2 hk2
    exact grouped_any W3 B c V q3 h3 n (groT c n) (gro_ok c n) hG3 (Lib.hid (all_any B c V HBr n))
end Go.Proofs.YtphiaagppcbefaaGreatDoor
namespace Go.Proofs
open Go.Shelf
def Tryz.lays145_ren : Go.Shelf.Ren := ⟨fun | 145 => 142 | 220 => 157 | 219 => 168 | 217 => 177 | 225 => 178 | 224 => 179 | 267 => 180 | 266 => 183 | 314 => 184 | n => n, fun | 9 => 9 | 4 => 4 | 59 => 134 | 3 => 3 | 5 => 5 | 46 => 125 | 146 => 158 | 51 => 157 | n => n, fun | 1 => 2 | n => n⟩
theorem Tryz.lays145 : Go.Proofs.Lays.n145 Tryz.prog Tryz.lays145_ren := {
  mixed := by kernel_rfl
  f145 := Tryz.func142.trans (congrArg some (by kernel_rfl))
  f217 := Tryz.func177.trans (congrArg some (by kernel_rfl))
  f219 := Tryz.func168.trans (congrArg some (by kernel_rfl))
  f220 := Tryz.func157.trans (congrArg some (by kernel_rfl))
  f224 := Tryz.func179.trans (congrArg some (by kernel_rfl))
  f225 := Tryz.func178.trans (congrArg some (by kernel_rfl))
  f266 := Tryz.func183.trans (congrArg some (by kernel_rfl))
  f267 := Tryz.func180.trans (congrArg some (by kernel_rfl))
  f314 := Tryz.func184.trans (congrArg some (by kernel_rfl))
  t3 := Tryz.underlying3
  a3 := Tryz.isAgg3
  z3 := Tryz.sizeOf3
  v3 := Tryz.zeroValue3
  t4 := Tryz.underlying4
  a4 := Tryz.isAgg4
  z4 := Tryz.sizeOf4
  v4 := Tryz.zeroValue4
  t5 := Tryz.underlying5
  a5 := Tryz.isAgg5
  z5 := Tryz.sizeOf5
  v5 := Tryz.zeroValue5
  t9 := Tryz.underlying9
  a9 := Tryz.isAgg9
  z9 := Tryz.sizeOf9
  v9 := Tryz.zeroValue9
  t46 := Tryz.underlying125
  a46 := Tryz.isAgg125
  z46 := Tryz.sizeOf125
  v46 := Tryz.zeroValue125
  t51 := Tryz.underlying157
  a51 := Tryz.isAgg157
  z51 := Tryz.sizeOf157
  v51 := Tryz.zeroValue157
  t59 := Tryz.underlying134
  a59 := Tryz.isAgg134
  z59 := Tryz.sizeOf134
  v59 := Tryz.zeroValue134
  t146 := Tryz.underlying158
  a146 := Tryz.isAgg158
  z146 := Tryz.sizeOf158
  v146 := Tryz.zeroValue158
  g1 := by kernel_rfl }
end Go.Proofs
