/- A locale in memory, and the reference's Check. -/
import Derived.Test.YticfhbffoajgcaaGreatDoorRows
import Derived.Test.YticfhbffoajgcaaGreatDoorLcMem
import Derived.Test.YticfhbffoajgcaaGreatDoorCsRow
set_option linter.unusedVariables false
namespace Go.Proofs.YticfhbffoajgcaaGreatDoor
open Go.RowKit

/-- A locale, plainly. -/
structure Loc where
  name : ByteArray
  lower : ByteArray
  upper : ByteArray
  nw : Nat
  wt : Nat → Int
  nc : Nat
  cn : Nat → ByteArray
  cset : Nat → Nat → Bool
  ne : Nat
  et : Nat → ByteArray
  ew : Nat → Int

def wtF (L : Loc) : Nat → Nat → Value := fun j _ => .int .i64 (L.wt j)
def clsF (L : Loc) : Nat → Nat → Value := fun j i => if i = 0 then .string (L.cn j) else .int .u64 ((wd (L.cset j) (64 * (i - 1)) 64 : Nat) : Int)
def elmF (L : Loc) : Nat → Nat → Value := fun j i => if i = 0 then .string (L.et j) else .int .i64 (L.ew j)
/-- The three slices of a locale stand in memory. -/
def LocM (w : World) (L : Loc) (W C E : Value) : Prop := SL 1 L.nw (wtF L) w W ∧ SL 5 L.nc (clsF L) w C ∧ SL 2 L.ne (elmF L) w E
theorem LocM.below {w w' : World} {L : Loc} {W C E : Value} (h : LocM w L W C E) (hb : Below w.heap.size w w') : LocM w' L W C E := ⟨h.1.below hb, h.2.1.below hb, h.2.2.below hb⟩
/-- The cells of a locale. -/
def lcl (L : Loc) (W C E : Value) : Array Value := #[.string L.name, W, .string L.lower, .string L.upper, C, E]

def wtAt (x : Nat → Int) (i : Nat) : Int := if (decide (0 ≤ x i) && decide (x i ≤ 65535)) = true then 0 else 2
/-- The error of a locale. -/
def chk (L : Loc) : Int :=
  if nmB L.name = true then
    if L.nw = 256 then
      if firstErr (wtAt L.wt) 256 = 0 then
        if L.lower.size = 256 ∧ L.upper.size = 256 then
          if clsErr L.nc L.cn = 0 then elmErr L.ne L.et L.ew else clsErr L.nc L.cn
        else 2
      else firstErr (wtAt L.wt) 256
    else 2
  else 4

set_option maxRecDepth 100000 in
set_option maxHeartbeats 8000000 in
theorem check_any (L : Loc) (W C E : Value) (w : World) (hM : LocM w L W C E) :
    Calls Tryz.prog 85 #[.agg (lcl L W C E)] w fun e w' => e = .returned (.int .i64 (chk L)) ∧ Below w.heap.size w w' := by
  have hB : Below w.heap.size w (w.alloc (.cells (lcl L W C E) 26)) := (Below.refl _ _).alloc (Nat.le_refl _) _
  have HM := Lib.hid (hM.below hB)
  have HB := Lib.hid hB
  obtain ⟨⟨aw, capw, rfl, hcw, hw⟩, hC, hE⟩ := hM
  have HNm := Lib.hid (isName_any L.name)
  obtain ⟨R, hR⟩ : ∃ R, chk L = R := ⟨_, rfl⟩
  rw [hR]
  have HR := Lib.hid hR
  clear hR hB hC hE
  unfold lcl at *
  by_cases hn : nmB L.name = true
  · rw [hn] at HNm
    by_cases h256 : L.nw = 256
    · rw [h256] at hw
      rcases hw with hw | ⟨b, off, rfl, hlt, hw⟩
      · omega
      have HW := Lib.hid hw
      have hchk : R = if firstErr (wtAt L.wt) 256 = 0 then (if L.lower.size = 256 ∧ L.upper.size = 256 then (if clsErr L.nc L.cn = 0 then elmErr L.ne L.et L.ew else clsErr L.nc L.cn) else 2) else firstErr (wtAt L.wt) 256 := by
        rw [← HR.out]
        unfold chk
        rw [if_pos hn, if_pos h256]
      have HK := Lib.hid hchk
      have HLt := Lib.hid hlt
      rw [h256] at HM HB ⊢
      clear hw hn h256 hchk hcw hlt
      go_enter Tryz.func85, Tryz.ntmps85
      go_wp2_with (first | (go_at_call 56; refine (HNm.out _).mono ?_; rintro e w1 ⟨rfl, rfl⟩))
      go_loopw [3] (fun i wr => ∃ k : Nat, k ≤ 256 ∧ i = .int .i64 k ∧ Hid (firstErr (wtAt L.wt) k = 0) ∧ wr = w.alloc (.cells #[.string L.name, .slice (some ⟨b, off, none⟩) 256 capw, .string L.lower, .string L.upper, C, E] 26)) (fun i _ => 256 - (intOf i).toNat)
      case atStart => exact ⟨0, Nat.zero_le _, rfl, rfl, rfl⟩
      case round =>
        obtain ⟨k, hk, rfl, HE, rfl⟩ := hrel
        by_cases hk2 : k < 256
        · have ki : (k : Int) < 256 := by omega
          have ki0 : (0 : Int) ≤ k := by omega
          have ck : (w.alloc (.cells #[.string L.name, .slice (some ⟨b, off, none⟩) 256 capw, .string L.lower, .string L.upper, C, E] 26)).cell? ⟨b, off + k, none⟩ = some (.int .i64 (L.wt k)) := by
            have h1 := HW.out k 0 hk2 (by decide)
            have h2 : w.cell? ⟨b, off + k, none⟩ = some (.int .i64 (L.wt k)) := by simpa [wtF] using h1
            exact (Below.cell ((Below.refl w.heap.size w).alloc (Nat.le_refl _) _) (by exact HLt.out)).trans h2
          have HLi := Lib.hid (light_any (L.wt k))
          obtain ⟨B, hB⟩ : ∃ B, (decide (0 ≤ L.wt k) && decide (L.wt k ≤ 65535)) = B := ⟨_, rfl⟩
          rw [hB] at HLi
          have HBn := Lib.hid hB
          clear hB
          by_cases hb : B = true
          · subst hb
            have HF : Hid (wtAt L.wt k = 0) := by
              show wtAt L.wt k = 0
              unfold wtAt
              rw [if_pos HBn.out]
            go_wp2_with (first | (go_at_call 123; refine (HLi.out _).mono ?_; rintro e w1 ⟨rfl, rfl⟩))
            go_roundw
            case rel => exact ⟨k + 1, by omega, by go_num, (firstErr_next _ k HE.out).trans HF.out, trivial⟩
            case measure => simp [intOf]; omega
          · have hbf : B = false := by simpa using hb
            subst hbf
            have HF : Hid (wtAt L.wt k = 2) := by
              show wtAt L.wt k = 2
              unfold wtAt
              rw [if_neg (by rw [HBn.out]; decide)]
            have HN : Hid (R = 2) := by
              have h2 : wtAt L.wt k ≠ 0 := by rw [HF.out]; decide
              have h3 := (firstErr_stop _ k 256 HE.out h2 hk2).trans HF.out
              show R = 2
              rw [HK.out, h3]
              rfl
            clear hb
            go_wp2_with (first | (go_at_call 123; refine (HLi.out _).mono ?_; rintro e w1 ⟨rfl, rfl⟩))
            go_ret
            exact ⟨by rw [HN.out]; rfl, HB.out⟩
        · obtain rfl : k = 256 := by omega
          have hK2 : R = if L.lower.size = 256 ∧ L.upper.size = 256 then (if clsErr L.nc L.cn = 0 then elmErr L.ne L.et L.ew else clsErr L.nc L.cn) else 2 := by
            rw [HK.out, if_pos HE.out]
          have HK2 := Lib.hid hK2
          clear hK2
          by_cases hl : L.lower.size = 256
          · have l1 : ((L.lower.size : Int) != 256) = false := by rw [bne_eq_false_iff_eq]; omega
            have l2 : (L.lower.size != 256) = false := by rw [bne_eq_false_iff_eq]; exact hl
            by_cases hu : L.upper.size = 256
            · have u1 : ((L.upper.size : Int) != 256) = false := by rw [bne_eq_false_iff_eq]; omega
              have u2 : (L.upper.size != 256) = false := by rw [bne_eq_false_iff_eq]; exact hu
              have hK3 : R = if clsErr L.nc L.cn = 0 then elmErr L.ne L.et L.ew else clsErr L.nc L.cn := by rw [HK2.out, if_pos ⟨hl, hu⟩]
              have HK3 := Lib.hid hK3
              have HCc := Lib.hid (checkClasses_any L.nc (clsF L) L.cn (fun j => rfl) C)
              have HEe := Lib.hid (checkElements_any L.ne (elmF L) L.et L.ew (fun j => rfl) (fun j => rfl) E)
              clear hK3 hl hu
              obtain ⟨X, hX⟩ : ∃ X, clsErr L.nc L.cn = X := ⟨_, rfl⟩
              rw [hX] at HCc HK3
              by_cases hx : X = 0
              · subst hx
                have HN : Hid (R = elmErr L.ne L.et L.ew) := by
                  show R = _
                  rw [HK3.out, if_pos rfl]
                clear hX
                go_wp2_with (first
                  | (go_at_call 124
                     refine (HCc.out _ (by exact HM.out.2.1)).mono ?_
                     rintro e w1 ⟨rfl, hb⟩
                     have c5 : w1.cell? ⟨w.heap.size, 5, none⟩ = some E := by
                       rw [hb.cell (by simp), cell_of_row _ w.heap.size 5 _ _ (0, 0) (heap_alloc_new w _)]
                       rfl
                     have HE1 := Lib.hid (HM.out.2.2.below hb)
                     have HB1 := Lib.hid (HB.out.trans (hb.mono HB.out.size))
                     clear hb)
                  | (go_at_call 125
                     refine (HEe.out _ (by exact HE1.out)).mono ?_
                     rintro e w2 ⟨rfl, hb⟩
                     have HB2 := Lib.hid (HB1.out.trans (hb.mono HB1.out.size))
                     clear hb))
                go_ret
                exact ⟨by rw [HN.out]; rfl, HB2.out⟩
              · have HN : Hid (R = X) := by
                  show R = X
                  rw [HK3.out, if_neg hx]
                have x1 : (X != 0) = true := by rw [bne_iff_ne]; exact hx
                clear hX hx
                go_wp2_with (first
                  | (go_at_call 124
                     refine (HCc.out _ (by exact HM.out.2.1)).mono ?_
                     rintro e w1 ⟨rfl, hb⟩
                     have HB1 := Lib.hid (HB.out.trans (hb.mono HB.out.size))
                     clear hb))
                go_ret
                exact ⟨by rw [HN.out]; rfl, HB1.out⟩
            · have u1 : ((L.upper.size : Int) != 256) = true := by rw [bne_iff_ne]; omega
              have u2 : (L.upper.size != 256) = true := by rw [bne_iff_ne]; exact hu
              have HN : Hid (R = 2) := by
                show R = 2
                rw [HK2.out, if_neg (fun h => hu h.2)]
              clear hu hl
              go_wp2
              go_ret
              exact ⟨by rw [HN.out]; rfl, HB.out⟩
          · have l1 : ((L.lower.size : Int) != 256) = true := by rw [bne_iff_ne]; omega
            have l2 : (L.lower.size != 256) = true := by rw [bne_iff_ne]; exact hl
            have HN : Hid (R = 2) := by
              show R = 2
              rw [HK2.out, if_neg (fun h => hl h.1)]
            clear hl
            go_wp2
            go_ret
            exact ⟨by rw [HN.out]; rfl, HB.out⟩
    · have HN : Hid (R = 2) := by
        show R = 2
        rw [← HR.out]
        unfold chk
        rw [if_pos hn, if_neg h256]
      have e1 : ((L.nw : Int) != 256) = true := by rw [bne_iff_ne]; omega
      have e2 : (L.nw != 256) = true := by rw [bne_iff_ne]; exact h256
      clear hn h256 hw hcw
      go_enter Tryz.func85, Tryz.ntmps85
      go_wp2_with (first | (go_at_call 56; refine (HNm.out _).mono ?_; rintro e w1 ⟨rfl, rfl⟩))
      go_ret
      exact ⟨by rw [HN.out]; rfl, HB.out⟩
  · have hn2 : nmB L.name = false := by simpa using hn
    have HN : Hid (R = 4) := by
      show R = 4
      rw [← HR.out]
      unfold chk
      rw [if_neg hn]
    rw [hn2] at HNm
    clear hn hn2 hw hcw
    go_enter Tryz.func85, Tryz.ntmps85
    go_wp2_with (first | (go_at_call 56; refine (HNm.out _).mono ?_; rintro e w1 ⟨rfl, rfl⟩))
    go_ret
    exact ⟨by rw [HN.out]; rfl, HB.out⟩
end Go.Proofs.YticfhbffoajgcaaGreatDoor
