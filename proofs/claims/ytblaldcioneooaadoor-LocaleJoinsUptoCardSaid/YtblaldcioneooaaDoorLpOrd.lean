/- The program's Split and Compare. -/
import Derived.Test.YtblaldcioneooaaDoorRows
import Derived.Test.YtblaldcioneooaaDoorLpClos
import Derived.Lib.IndexBytes
set_option linter.unusedVariables false
namespace Go.Proofs.YtblaldcioneooaaDoor
open Go.RowKit

/-- The step as a value: what it has captured lies in blocks p and q. -/
def fv (p q : Nat) : Value := .func (.func 58) #[] #[.pointer (some ⟨q, 0, none⟩), .pointer (some ⟨p, 0, none⟩)]
/-- What the step has captured. -/
def SP (w : World) (V : Loc) (W C E : Value) (p q : Nat) : Prop := LocM w V W C E ∧ LAt w p (lcl V W C E) ∧ At w q (setOf (fbL V V.ne))
theorem SP.keep {w w' : World} {V : Loc} {W C E : Value} {p q : Nat} (h : SP w V W C E p q) (hb : Below w.heap.size w w') : SP w' V W C E p q :=
  ⟨h.1.below hb, h.2.1.under hb h.2.1.lt, h.2.2.below hb h.2.2.lt⟩

set_option maxRecDepth 100000 in
set_option maxHeartbeats 8000000 in
theorem stepOf_any (V : Loc) (hV : Ok V) (W C E : Value) (w : World) (hM : LocM w V W C E) :
    Calls Tryd.prog 32 #[.agg (lcl V W C E)] w fun e w' => ∃ p q, e = .returned (fv p q) ∧ SP w' V W C E p q ∧ Below w.heap.size w w' := by
  have hmf : ∀ (fn : Fn) (first cap : Array Value) (w : World), (Instr.makeFunc fn first cap).run Tryd.prog w = .ok (.func fn first cap) w := fun _ _ _ _ => rfl
  have hB : Below w.heap.size w (w.alloc (.cells (lcl V W C E) 26)) := (Below.refl _ _).alloc (Nat.le_refl _) _
  have HF := Lib.hid (firstBytes_any V hV E (w.alloc (.cells (lcl V W C E) 26)) (hM.2.2.below hB))
  have HM := Lib.hid hM
  have HB := Lib.hid hB
  have HL : Hid (LAt (w.alloc (.cells (lcl V W C E) 26)) w.heap.size (lcl V W C E)) := heap_alloc_new w _
  clear hB
  obtain ⟨⟨aw, capw, rfl, _⟩, ⟨ac, capc, rfl, _⟩, ⟨ae, cape, rfl, _⟩⟩ := hM
  unfold lcl fv at *
  unfold cs cl at HF
  go_enter Tryd.func32, Tryd.ntmps32
  go_wp2_with (go_at_call 57; refine HF.out.mono ?_; rintro e w1 ⟨rfl, hb⟩; have HB1 := Lib.hid (HB.out.trans (hb.mono HB.out.size)); have HL1 := Lib.hid (HL.out.under hb HL.out.lt); clear hb)
  go_ret
  refine ⟨w.heap.size, w1.heap.size, rfl, ⟨HM.out.below (HB1.out.alloc HB1.out.size _), ?_, At.new w1 _⟩, HB1.out.alloc HB1.out.size _⟩
  exact (Below.heap_alloc w1 _ _ HL1.out.lt).trans HL1.out

theorem step_sp (V : Loc) (hV : Ok V) (W C E : Value) (s : ByteArray) (hs : 0 < s.size) (p q : Nat) (w : World) (h : SP w V W C E p q) :
    Calls Tryd.prog 58 #[.string s, .pointer (some ⟨q, 0, none⟩), .pointer (some ⟨p, 0, none⟩)] w fun e w' => e = .returned (.tuple #[.int .i64 (stN V s.data.toList), .int .i64 (stW V s.data.toList)]) ∧ Below w.heap.size w w' := step_any V hV W C E s hs p q w h.1 h.2.1 h.2.2
theorem size_data (s : ByteArray) : s.data.toList.length = s.size := by simp
theorem isEmpty_false_ne (s : ByteArray) (h : 0 < s.size) : 0 < s.data.toList.length := by rw [size_data]; exact h
theorem drop_data (s : ByteArray) (k : Nat) : (s.extract k s.size).data.toList = s.data.toList.drop k := Lib.extract_to_end s k
theorem drop_size (s : ByteArray) (k : Nat) : (s.extract k s.size).size = s.size - k := by
  have := congrArg List.length (drop_data s k)
  rw [List.length_drop, size_data, size_data] at this
  exact this
theorem stN_fits (V : Loc) (hV : Ok V) (l : List UInt8) (h : 0 < l.length) : stN V l ≤ l.length := by
  unfold stN
  cases he : eIx V l with
  | none => exact h
  | some k =>
    have h1 := List.find?_some he
    have h2 := List.mem_of_find?_eq_some he
    have hk : k < V.ne := by simpa using h2
    rw [List.isPrefixOf_iff_prefix] at h1
    have := h1.length_le
    have hs := hV.et k hk
    have hl : (V.et k).data.toList.length = 2 := by simpa using hs
    show 2 ≤ l.length
    omega

set_option maxRecDepth 100000 in
set_option maxHeartbeats 8000000 in
theorem pCompare_any (L : Loc) (W C E : Value) (a b : ByteArray) (w : World) (hM : LocM w L W C E) :
    Calls Tryd.prog 37 #[.agg (lcl L W C E), .string a, .string b] w fun e w' => e = .returned (.int .i64 (cmpL (vld L) a.data.toList b.data.toList)) ∧ Below w.heap.size w w' := by
  have hB : Below w.heap.size w (w.alloc (.cells (lcl L W C E) 26)) := (Below.refl _ _).alloc (Nat.le_refl _) _
  have HB := Lib.hid hB
  have HU := Lib.hid (usable_any L W C E (w.alloc (.cells (lcl L W C E) 26)) (hM.below hB))
  have HV := Lib.hid (ok_vld L)
  have HSt := Lib.hid (stepOf_any (vld L) (ok_vld L))
  generalize vld L = V at *
  obtain ⟨R, hR⟩ : ∃ R, cmpL V a.data.toList b.data.toList = R := ⟨_, rfl⟩
  rw [hR]
  have HR := Lib.hid hR
  clear hR hB
  obtain ⟨⟨aw, capw, rfl, _⟩, ⟨ac, capc, rfl, _⟩, ⟨ae, cape, rfl, _⟩⟩ := hM
  unfold lcl at HB HU ⊢
  go_enter Tryd.func37, Tryd.ntmps37
  go_wp2_with (first
    | (go_at_call 33
       refine HU.out.mono ?_
       rintro e w1 ⟨W1, C1, E1, rfl, hm, hb⟩
       have HM1 := Lib.hid hm
       have HB1 := Lib.hid (HB.out.trans (hb.mono HB.out.size))
       clear hb hm)
    | (go_at_call 32
       refine (HSt.out _ _ _ _ HM1.out).mono ?_
       rintro e w2 ⟨p, q, rfl, hs, hb⟩
       have HS2 := Lib.hid hs
       have HB2 := Lib.hid (HB1.out.trans (hb.mono HB1.out.size))
       clear hb hs
       unfold fv))
  go_loopw [8, 9] (fun ra rb wr => ∃ x y : ByteArray, ra = .string x ∧ rb = .string y ∧ Hid (ord (wts V a.data.toList) (wts V b.data.toList) = ord (wts V x.data.toList) (wts V y.data.toList)) ∧ Hid (SP wr V W1 C1 E1 p q) ∧ Hid (Below w.heap.size w wr)) (fun ra _ _ => match ra with | .string x => x.size | _ => 0)
  case atStart => exact ⟨a, b, rfl, rfl, rfl, HS2.out, HB2.out⟩
  case round =>
    obtain ⟨x, y, rfl, rfl, HO, HS, HBr⟩ := hrel
    by_cases hx : 0 < x.size
    · have ex := lisEmpty_no x hx
      by_cases hy : 0 < y.size
      · have ey := lisEmpty_no y hy
        have H1 := Lib.hid (step_sp V HV.out W1 C1 E1 x hx p q)
        have H2 := Lib.hid (step_sp V HV.out W1 C1 E1 y hy p q)
        have hlx := isEmpty_false_ne x hx
        have hly := isEmpty_false_ne y hy
        have px := stN_pos V x.data.toList
        have fx := stN_fits V HV.out _ hlx
        have py := stN_pos V y.data.toList
        have fy := stN_fits V HV.out _ hly
        have HWx := Lib.hid (wts_cons V _ hlx)
        have HWy := Lib.hid (wts_cons V _ hly)
        have HDx := Lib.hid (drop_data x (stN V x.data.toList))
        have HDy := Lib.hid (drop_data y (stN V y.data.toList))
        have HZx := Lib.hid (drop_size x (stN V x.data.toList))
        have sx : x.data.toList.length = x.size := by simp
        have sy : y.data.toList.length = y.size := by simp
        rw [sx] at fx
        rw [sy] at fy
        generalize stN V x.data.toList = nx at *
        generalize stN V y.data.toList = ny at *
        generalize stW V x.data.toList = ux at *
        generalize stW V y.data.toList = uy at *
        clear sx sy hlx hly
        have fxi : (nx : Int) ≤ x.size := by omega
        have fyi : (ny : Int) ≤ y.size := by omega
        by_cases hne : ux = uy
        · have e1 : (ux != uy) = false := by rw [bne_eq_false_iff_eq]; exact hne
          go_wp2_with (first
            | (go_at_call 58; with_reducible refine (H1.out _ HS.out).mono ?_; rintro e w3 ⟨rfl, hb⟩; have HS3 := Lib.hid (HS.out.keep hb); have HB3 := Lib.hid (HBr.out.trans (hb.mono HBr.out.size)); clear hb)
            | (go_at_call 58; with_reducible refine (H2.out _ HS3.out).mono ?_; rintro e w4 ⟨rfl, hb⟩; have HS4 := Lib.hid (HS3.out.keep hb); have HB4 := Lib.hid (HB3.out.trans (hb.mono HB3.out.size)); clear hb))
          go_quiet (fail)
          go_wp2
          go_roundw
          case rel =>
            refine ⟨x.extract nx x.size, y.extract ny y.size, rfl, rfl, ?_, HS4.out.keep (below_drewN (Below.refl _ _) _), below_drewN HB4.out _⟩
            show _ = _
            rw [HDx.out, HDy.out, HO.out, HWx.out, HWy.out, hne]
            simp only [ord, Int.lt_irrefl, if_false]
          case measure =>
            have := HZx.out
            simp only [this]
            omega
        · have e1 : (ux != uy) = true := by rw [bne_iff_ne]; exact hne
          have HN : Hid (R = cmpI ux uy) := by
            show R = _
            have ho : ord (wts V a.data.toList) (wts V b.data.toList) = cmpI ux uy := by
              rw [HO.out, HWx.out, HWy.out]
              unfold ord cmpI
              by_cases h1 : ux < uy
              · rw [if_pos h1, if_pos h1]
              · have h2 : uy < ux := by omega
                rw [if_neg h1, if_neg h1, if_pos h2, if_pos h2]
            have h0 : cmpI ux uy ≠ 0 := by
              unfold cmpI
              by_cases h1 : ux < uy
              · rw [if_pos h1]; decide
              · have h2 : uy < ux := by omega
                rw [if_neg h1, if_pos h2]; decide
            rw [← HR.out]
            unfold cmpL
            rw [ho, if_neg h0]
          have HC := Lib.hid (cmpInt_any ux uy)
          generalize cmpI ux uy = Z at HN HC
          go_wp2_with (first
            | (go_at_call 58; with_reducible refine (H1.out _ HS.out).mono ?_; rintro e w3 ⟨rfl, hb⟩; have HS3 := Lib.hid (HS.out.keep hb); have HB3 := Lib.hid (HBr.out.trans (hb.mono HBr.out.size)); clear hb)
            | (go_at_call 58; with_reducible refine (H2.out _ HS3.out).mono ?_; rintro e w4 ⟨rfl, hb⟩; have HS4 := Lib.hid (HS3.out.keep hb); have HB4 := Lib.hid (HB3.out.trans (hb.mono HB3.out.size)); clear hb)
            | (go_at_call 63; refine (HC.out _).mono ?_; rintro e w5 ⟨rfl, rfl⟩))
          go_ret
          exact ⟨by rw [HN.out] <;> rfl, HB4.out⟩
      · have hy0 : y.size = 0 := by omega
        have ey := isEmpty_yes y hy0
        have hly : y.data.toList = [] := List.eq_nil_of_length_eq_zero (by rw [size_data]; exact hy0)
        have hlx := isEmpty_false_ne x hx
        have en : (x.toList == y.toList) = false := by
          rw [ByteArray.toList_eq, ByteArray.toList_eq, hly, beq_eq_false_iff_ne]
          intro h
          rw [h] at hlx
          simp at hlx
        have HN : Hid (R = 1) := by
          show R = 1
          have ho : ord (wts V a.data.toList) (wts V b.data.toList) = 1 := by
            rw [HO.out, hly, wts_cons V _ hlx]
            rfl
          rw [← HR.out]
          unfold cmpL
          rw [ho]
          rfl
        have HC : Hid (∀ w, Calls Tryd.prog 63 #[.int .i64 x.size, .int .i64 y.size] w fun e w' => e = .returned (.int .i64 1) ∧ w = w') := by
          have h1 := cmpInt_any (x.size : Int) (y.size : Int)
          have : cmpI (x.size : Int) (y.size : Int) = 1 := by
            unfold cmpI
            rw [if_neg (by omega), if_pos (by omega)]
          rw [this] at h1
          exact h1
        clear hy0 hy hly
        go_wp2_with (first
          | (go_at_call 63; refine (HC.out _).mono ?_; rintro e w5 ⟨rfl, rfl⟩))
        go_ret
        exact ⟨by rw [HN.out] <;> rfl, HBr.out⟩
    · have hx0 : x.size = 0 := by omega
      have ex := isEmpty_yes x hx0
      have hlx : x.data.toList = [] := List.eq_nil_of_length_eq_zero (by rw [size_data]; exact hx0)
      by_cases hy : 0 < y.size
      · have hly := isEmpty_false_ne y hy
        have en : (x.toList == y.toList) = false := by
          rw [ByteArray.toList_eq, ByteArray.toList_eq, hlx, beq_eq_false_iff_ne]
          intro h
          rw [← h] at hly
          simp at hly
        have HN : Hid (R = -1) := by
          show R = -1
          have ho : ord (wts V a.data.toList) (wts V b.data.toList) = -1 := by
            rw [HO.out, hlx, wts_cons V _ hly]
            rfl
          rw [← HR.out]
          unfold cmpL
          rw [ho]
          rfl
        have HC : Hid (∀ w, Calls Tryd.prog 63 #[.int .i64 x.size, .int .i64 y.size] w fun e w' => e = .returned (.int .i64 (-1)) ∧ w = w') := by
          have h1 := cmpInt_any (x.size : Int) (y.size : Int)
          have : cmpI (x.size : Int) (y.size : Int) = -1 := by
            unfold cmpI
            rw [if_pos (by omega)]
          rw [this] at h1
          exact h1
        clear hx0 hx hlx
        go_wp2_with (first
          | (go_at_call 63; refine (HC.out _).mono ?_; rintro e w5 ⟨rfl, rfl⟩))
        go_ret
        exact ⟨by rw [HN.out] <;> rfl, HBr.out⟩
      · have hy0 : y.size = 0 := by omega
        have hly : y.data.toList = [] := List.eq_nil_of_length_eq_zero (by rw [size_data]; exact hy0)
        have en : (x.toList == y.toList) = true := by
          rw [ByteArray.toList_eq, ByteArray.toList_eq, hlx, hly]
          rfl
        have HN : Hid (R = ord (bI a.data.toList) (bI b.data.toList)) := by
          show R = _
          have ho : ord (wts V a.data.toList) (wts V b.data.toList) = 0 := by
            rw [HO.out, hlx, hly]
            rfl
          rw [← HR.out]
          unfold cmpL
          rw [ho, if_pos rfl]
        have HC := Lib.hid (cmpStr_any a b)
        generalize ord (bI a.data.toList) (bI b.data.toList) = Z at HN HC
        clear hx0 hx hlx hy0 hy hly
        go_wp2_with (first
          | (go_at_call 64; refine (HC.out _).mono ?_; rintro e w5 ⟨rfl, rfl⟩))
        go_ret
        exact ⟨by rw [HN.out] <;> rfl, HBr.out⟩
end Go.Proofs.YtblaldcioneooaaDoor
