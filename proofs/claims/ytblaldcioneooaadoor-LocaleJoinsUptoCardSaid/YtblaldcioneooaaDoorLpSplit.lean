/- The program's Split: a list of strings in memory. -/
import Derived.Test.YtblaldcioneooaaDoorRows
import Derived.Test.YtblaldcioneooaaDoorLpOrd
set_option linter.unusedVariables false
namespace Go.Proofs.YtblaldcioneooaaDoor
open Go.RowKit

def mkS (l : List UInt8) : ByteArray := ⟨l.toArray⟩
theorem mkS_data (l : List UInt8) : (mkS l).data.toList = l := by unfold mkS; simp
theorem mkS_size (l : List UInt8) : (mkS l).size = l.length := mk_size l
/-- A list of strings in memory. -/
def TL (w : World) (v : Value) (X : List (List UInt8)) : Prop := SL 1 X.length (fun j _ => .string (mkS (X.getD j []))) w v
theorem TL.below {w w' : World} {v : Value} {X : List (List UInt8)} (h : TL w v X) (hb : Below w.heap.size w w') : TL w' v X := SL.below h hb
theorem own_TL {w : World} {B n : Nat} {v : Value} {X : List (List UInt8)} (h : w.ownsRow B 9 1 v n (strl (X.map mkS))) (hn : n = X.length) : TL w v X := by
  subst hn
  rcases Joins.ownsRow_forms h with ⟨rfl, h0⟩ | ⟨g, cap, rfl⟩
  · have hX : X = [] := List.eq_nil_of_length_eq_zero h0
    subst hX
    exact SL_nil _ _ _
  · refine own_SL h _ fun j hj => ?_
    unfold strl
    rw [List.map_map, List.getElem?_map, List.getElem?_eq_getElem hj]
    simp [List.getD, List.getElem?_eq_getElem hj]
theorem strl_one (X : List (List UInt8)) (x : ByteArray) (k : Nat) : strl (X.map mkS) ++ [.string (x.extract 0 k)] = strl ((X ++ [x.data.toList.take k]).map mkS) := by
  rw [List.map_append, strl_app]
  congr 1
  show _ = [Value.string (mkS (x.data.toList.take k))]
  rw [Lib.extract_eq]
  rfl

set_option maxRecDepth 100000 in
set_option maxHeartbeats 8000000 in
theorem pSplit_any (L : Loc) (W C E : Value) (s : ByteArray) (hs : s.size ≤ 4294967280) (w : World) (hM : LocM w L W C E) :
    Calls Tryd.prog 11 #[.agg (lcl L W C E), .string s] w fun e w' => ∃ v, e = .returned v ∧ TL w' v (pcs (vld L) s.data.toList) ∧ Below w.heap.size w w' := by
  have hB : Below w.heap.size w (w.alloc (.cells (lcl L W C E) 26)) := (Below.refl _ _).alloc (Nat.le_refl _) _
  have HB := Lib.hid hB
  have HU := Lib.hid (usable_any L W C E (w.alloc (.cells (lcl L W C E) 26)) (hM.below hB))
  have HV := Lib.hid (ok_vld L)
  have HSt := Lib.hid (stepOf_any (vld L) (ok_vld L))
  generalize vld L = V at *
  clear hB
  obtain ⟨⟨aw, capw, rfl, _⟩, ⟨ac, capc, rfl, _⟩, ⟨ae, cape, rfl, _⟩⟩ := hM
  unfold lcl at HB HU ⊢
  go_enter Tryd.func11, Tryd.ntmps11
  go_wp2_with (first
    | (go_at_call 33
       refine HU.out.mono ?_
       rintro e w1 ⟨W1, C1, E1, rfl, hm, hb⟩
       have HM1 := Lib.hid hm
       have HB1 := Lib.hid (HB.out.trans (hb.mono HB.out.size))
       clear hb hm)
    | (go_at_call 32
       refine (HSt.out _ _ _ _ HM1.out).mono ?_
       rintro e w2 ⟨p, q, rfl, hs, hb⟩
       have HS2 := Lib.hid hs
       have HB2 := Lib.hid (HB1.out.trans (hb.mono HB1.out.size))
       clear hb hs
       unfold fv))
  go_loopw [1, 6] (fun ra o wr => ∃ (x : ByteArray) (v : Value) (done : List (List UInt8)), v = o ∧ ra = .string x ∧ done.length + x.size ≤ s.size ∧ Hid (done ++ pcs V x.data.toList = pcs V s.data.toList) ∧ Hid (wr.ownsRow w2.heap.size 9 1 v done.length (strl (done.map mkS))) ∧ Hid (Below w2.heap.size w2 wr)) (fun ra _ _ => match ra with | .string x => x.size | _ => 0)
  case atStart => exact ⟨s, _, [], rfl, rfl, by simp, rfl, World.ownsRow_nil _ _ _ _, Below.refl _ _⟩
  case round =>
    obtain ⟨x, v, done, rfl, rfl, hlen, HO, HOw, HBr⟩ := hrel
    have HS := Lib.hid (HS2.out.keep HBr.out)
    by_cases hx : 0 < x.size
    · have ex := lisEmpty_no x hx
      have H1 := Lib.hid (step_sp V HV.out W1 C1 E1 x hx p q)
      have hlx := isEmpty_false_ne x hx
      have px := stN_pos V x.data.toList
      have fx := stN_fits V HV.out _ hlx
      have HP := Lib.hid (pcs_cons V _ hlx)
      have HDx := Lib.hid (drop_data x (stN V x.data.toList))
      have HZx := Lib.hid (drop_size x (stN V x.data.toList))
      rw [size_data] at fx
      generalize stN V x.data.toList = nx at *
      generalize stW V x.data.toList = ux at *
      clear hlx
      have fxi : (nx : Int) ≤ x.size := by omega
      have px0 : (0 : Int) ≤ nx := by omega
      go_wp2_with (first
        | (go_at_call 58; refine (H1.out _ HS.out).mono ?_; rintro e w3 ⟨rfl, hb⟩; have HB3 := Lib.hid (HBr.out.trans (hb.mono HBr.out.size)); have HOw3 := Lib.hid (own_under HOw.out hb); clear hb)
        | (at_builtin; refine app_row 30 9 (.string ⟨#[]⟩) 16 Tryd.underlying30 infoS rfl w3 rfl _ _ rfl w2.heap.size v _ _ _ _ rfl rfl HOw3.out rfl rfl ?c1 ?c0 ?c2 ?c3 ?_))
      case c1 => simp [Value.oneCell']
      case c0 => exact HB3.out.size
      case c2 => unfold maxLen; omega
      case c3 => omega
      intro v' w' hown' hb'
      have HB4 := Lib.hid (hb' w2 HB3.out)
      have HO4 : Hid (w'.ownsRow w2.heap.size 9 1 v' (done ++ [x.data.toList.take nx]).length (strl ((done ++ [x.data.toList.take nx]).map mkS))) := by
        show World.ownsRow _ _ _ _ _ _ _
        rw [← strl_one, List.length_append]
        exact hown'
      clear hown' hb'
      go_wp2
      go_roundw
      case rel =>
        refine ⟨x.extract nx x.size, _, done ++ [x.data.toList.take nx], rfl, rfl, ?_, ?_, HO4.out, HB4.out⟩
        · have := HZx.out
          simp only [List.length_append, List.length_cons, List.length_nil]
          omega
        · show _ = _
          rw [HDx.out, ← HO.out, HP.out, List.append_assoc]
          rfl
      case measure =>
        have := HZx.out
        simp only [this]
        omega
    · have hx0 : x.size = 0 := by omega
      have ex := isEmpty_yes x hx0
      have hlx : x.data.toList = [] := List.eq_nil_of_length_eq_zero (by rw [size_data]; exact hx0)
      have HD : Hid (done = pcs V s.data.toList) := by
        show _ = _
        have := HO.out
        rw [hlx, pcs_nil, List.append_nil] at this
        exact this
      have HT := Lib.hid (own_TL HOw.out rfl)
      rw [HD.out] at HT
      clear hx0 hlx hx
      go_wp2
      go_ret
      exact ⟨_, rfl, HT.out, HB2.out.trans (HBr.out.mono HB2.out.size)⟩
end Go.Proofs.YtblaldcioneooaaDoor
