/- Several texts in one (a claim has at most 60 files). -/
import Derived.Test.YticfhbffoajgcaaGreatDoorMQ
import Derived.Test.YticfhbffoajgcaaGreatDoorMA
import Derived.Test.YticfhbffoajgcaaGreatDoorLcDefB
import Derived.Test.YticfhbffoajgcaaGreatDoorMX
/- What the reference's change rests on. (Written by gen_lrp5.py.) -/
set_option linter.unusedVariables false
namespace Go.Proofs.YticfhbffoajgcaaGreatDoor
open Go.RowKit

theorem EntR.pass {S : Nat → Prop} {w w1 w2 : World} {r : Except Int PL} {e : Ending} (h : EntR S w1 r e w2) (hb : Below w.heap.size w w1) (hlt : ∀ b, S b → b < w.heap.size) (hz : LAt w1 (w.heap.size + 1) zeroL) :
    ∃ (s0 s2 s3 : ByteArray) (pW pC pE : Option Addr) (nW cW nC cC nE cE : Nat), e = .returned (.tuple #[.agg #[.string s0, .slice pW nW cW, .string s2, .string s3, .slice pC nC cC, .slice pE nE cE], .int .i64 (codeR r)]) ∧ LAt w2 (w.heap.size + 1) zeroL ∧
      EntR S w r (.returned (.tuple #[.agg #[.string s0, .slice pW nW cW, .string s2, .string s3, .slice pC nC cC, .slice pE nE cE], .int .i64 (codeR r)])) (put6 w2 (w.heap.size + 1) (.string s0) (.slice pW nW cW) (.string s2) (.string s3) (.slice pC nC cC) (.slice pE nE cE)) := by
  obtain ⟨s0, s2, s3, W, C, E, rfl, ⟨pW, nW, cW, rfl⟩, ⟨pC, nC, cC, rfl⟩, ⟨pE, nE, cE, rfl⟩, hk, hL⟩ := h
  have hR := hz.lt
  refine ⟨s0, s2, s3, pW, pC, pE, nW, cW, nC, cC, nE, cE, rfl, (hk.block _ hR (fun e => by have := hlt _ e; omega)).trans hz, ⟨_, _, _, _, _, _, rfl, Sl.mk' _ _ _, Sl.mk' _ _ _, Sl.mk' _ _ _, ((Keep.of_below (S := S) hb).trans hk (fun g _ e => e)).put6 _ (by omega) _ _ _ _ _ _, fun L' he => ?_⟩⟩
  obtain ⟨a, b, c, hM⟩ := hL L' he
  exact ⟨a, b, c, (hM.same (fun b hb _ => put6_far _ _ b (by
    rcases hb with hb | hb
    · have := hlt b hb
      omega
    · omega) _ _ _ _ _ _)).more (fun b hb2 => hb2.imp id (fun h => Nat.le_trans hb.size h))⟩
theorem numsT_ne : ∀ {l : List (List UInt8)} {m : Nat} {x : Int}, numsT l m = .error x → (x == 0) = false := by
  intro l
  induction l with
  | nil => intro m x h; cases h
  | cons y l ih =>
    intro m x h
    simp only [numsT] at h
    split at h
    · rename_i e he
      cases h
      exact numT_ne' he
    · split at h
      · rename_i e he
        cases h
        exact ih he
      · cases h
theorem numsT_len : ∀ {l : List (List UInt8)} {m : Nat} {b : List Nat}, numsT l m = .ok b → b.length = l.length := by
  intro l
  induction l with
  | nil => intro m b h; cases h; rfl
  | cons y l ih =>
    intro m b h
    simp only [numsT] at h
    split at h
    · cases h
    · split at h
      · cases h
      · rename_i t ht
        cases h
        simp [ih ht]
theorem numsT_two {l : List (List UInt8)} {b : List Nat} (hl : l.length = 2) (h : numsT l 255 = .ok b) : ∃ x y, b = [x, y] ∧ x < 256 ∧ y < 256 := by
  match l, hl with
  | [p, q], _ =>
    simp only [numsT, List.isEmpty_cons, List.isEmpty_nil, Bool.false_eq_true, if_false, if_true] at h
    split at h
    · cases h
    · rename_i n hn
      split at h
      · cases h
      · rename_i t ht
        split at ht
        · cases ht
        · rename_i n2 hn2
          cases ht
          cases h
          have := numT_lt hn
          have := numT_lt hn2
          exact ⟨_, _, rfl, by omega, by omega⟩
theorem numsT_three {l : List (List UInt8)} {b : List Nat} (hl : l.length = 3) (h : numsT l 65535 = .ok b) : ∃ x y z, b = [x, y, z] ∧ x < 256 ∧ y < 256 ∧ z < 65536 := by
  match l, hl with
  | [p, q, r], _ =>
    simp only [numsT, List.isEmpty_cons, List.isEmpty_nil, Bool.false_eq_true, if_false, if_true] at h
    split at h
    · cases h
    · rename_i n hn
      split at h
      · cases h
      · rename_i t ht
        split at ht
        · cases ht
        · rename_i n2 hn2
          split at ht
          · cases ht
          · rename_i t3 ht3
            split at ht3
            · cases ht3
            · rename_i n3 hn3
              cases ht3
              cases ht
              cases h
              have := numT_lt hn
              have := numT_lt hn2
              have := numT_lt hn3
              exact ⟨_, _, _, rfl, by omega, by omega, by omega⟩
theorem numsT_bytes : ∀ {l : List (List UInt8)} {m : Nat} {b : List Nat}, numsT l m = .ok b → (∀ j (h : j < b.length), j + 1 < b.length → b[j] < 256) ∧ ∀ j (h : j < b.length), b[j] ≤ max m 255 := by
  intro l
  induction l with
  | nil => intro m b h; cases h; exact ⟨fun j h => by simp at h, fun j h => by simp at h⟩
  | cons y l ih =>
    intro m b h
    simp only [numsT] at h
    split at h
    · cases h
    · rename_i n hn
      split at h
      · cases h
      · rename_i t ht
        cases h
        have hlen := numsT_len ht
        have h2 := numT_lt hn
        refine ⟨fun j hj hj2 => ?_, fun j hj => ?_⟩
        · cases j with
          | zero =>
            have : l.isEmpty = false := by
              cases l with
              | nil => simp at hlen; subst hlen; simp at hj2
              | cons _ _ => rfl
            rw [this] at h2
            simp at h2 ⊢
            omega
          | succ j => exact (ih ht).1 j (by simpa using hj) (by simpa using hj2)
        · cases j with
          | zero =>
            have : n ≤ max m 255 := by
              split at h2 <;> omega
            simpa using this
          | succ j => exact (ih ht).2 j (by simpa using hj)
theorem nI_get (l : List Nat) (j : Nat) (h : j < l.length) : (nI l)[j]? = some (.int .i64 (l[j] : Int)) := by
  unfold nI nums
  rw [List.map_map, List.getElem?_map, List.getElem?_eq_getElem h]
  rfl
theorem row_get {w : World} {B n gn cn : Nat} {l : List Nat} (h : w.ownsRow B 3 1 (.slice (some ⟨gn, 0, none⟩) n cn) n (nI l)) (j : Nat) (hj : j < l.length) : w.cell? ⟨gn, j, none⟩ = some (.int .i64 (l[j] : Int)) := by
  have := h.cells rfl j _ (nI_get l j hj)
  rwa [add_at] at this
theorem LM.lower {S : Nat → Prop} {w : World} {L : PL} {W C E : Value} (h : LM S w L W C E) (t : List UInt8) : LM S w { L with lower := t } W C E := ⟨h.wts, h.cls, h.els, h.apart, h.inC, h.inE⟩
theorem LM.upper {S : Nat → Prop} {w : World} {L : PL} {W C E : Value} (h : LM S w L W C E) (t : List UInt8) : LM S w { L with upper := t } W C E := ⟨h.wts, h.cls, h.els, h.apart, h.inC, h.inE⟩
theorem LM.name {S : Nat → Prop} {w : World} {L : PL} {W C E : Value} (h : LM S w L W C E) (t : List UInt8) : LM S w { L with name := t } W C E := ⟨h.wts, h.cls, h.els, h.apart, h.inC, h.inE⟩
theorem LM.weigh {S : Nat → Prop} {w : World} {L : PL} {x cap : Nat} {C E : Value} (h : LM S w L (.slice (some ⟨x, 0, none⟩) 256 cap) C E) (n : Nat) (hn : n < 256) (v : Int) :
    LM S (w.setCell ⟨x, n, none⟩ (.int .i64 v)) { L with wt := put1 L.wt n v } (.slice (some ⟨x, 0, none⟩) 256 cap) C E := by
  obtain ⟨⟨x2, ⟨cap2, cs, e, hc, hh, hf⟩, h2, h3⟩, h4, h5, h6, h7, h8⟩ := h
  simp only [Value.slice.injEq, Option.some.injEq, Addr.mk.injEq, and_true, true_and] at e
  obtain ⟨rfl, rfl⟩ := e
  have hfar : ∀ g, g ≠ x → (w.setCell ⟨x, n, none⟩ (.int .i64 v)).heap[g]? = w.heap[g]? := fun g hg => Below.heap_setCell w _ _ g hg
  refine ⟨⟨x, ⟨cap, cs.setIfInBounds n (.int .i64 v), rfl, hc, heap_setCell_same w x n _ _ _ hh, fun j hj => ?_⟩, h2, h3⟩, own_same h4 fun g e _ => hfar g (fun e2 => h3.1 (by rw [e, e2])), own_same h5 fun g e _ => hfar g (fun e2 => h3.2 (by rw [e, e2])), h6, h7, h8⟩
  rw [Array.getElem?_setIfInBounds]
  have hsz := (Array.getElem?_eq_some_iff.1 (hf n hn)).1
  unfold put1
  by_cases hjn : j = n
  · subst hjn
    simp [hsz]
  · rw [if_neg (fun e => hjn e.symm), hf j hj]
    simp [hjn]
theorem LM.wat {S : Nat → Prop} {w : World} {L : PL} {x cap : Nat} {C E : Value} (h : LM S w L (.slice (some ⟨x, 0, none⟩) 256 cap) C E) : S x ∧ x < w.heap.size ∧ 256 ≤ cap ∧ (∀ n, n < 256 → w.cell? ⟨x, n, none⟩ = some (.int .i64 (L.wt n))) ∧ ∀ n, w.frozen? ⟨x, n, none⟩ = false := by
  obtain ⟨⟨x2, ⟨cap2, cs, e, hc, hh, hf⟩, h2, h3⟩, _⟩ := h
  simp only [Value.slice.injEq, Option.some.injEq, Addr.mk.injEq, and_true, true_and] at e
  obtain ⟨rfl, rfl⟩ := e
  exact ⟨h2, (Array.getElem?_eq_some_iff.1 hh).1, hc, fun n hn => by rw [cell_of_row w x n _ _ _ hh]; exact hf n hn, fun n => frozen_of_row w x n _ _ hh⟩
end Go.Proofs.YticfhbffoajgcaaGreatDoor
/- The reference's change: a locale changed by an entry. (Written by gen_lrp5.py.) -/
set_option linter.unusedVariables false
namespace Go.Proofs.YticfhbffoajgcaaGreatDoor
open Go.RowKit

set_option maxRecDepth 100000 in
set_option maxHeartbeats 8000000 in
theorem rchange_cls (S : Nat → Prop) (g o c : Nat) (w : World) (L : PL) (W C E : Value) (h : LM S w L W C E) (hlt : ∀ b, S b → b < w.heap.size) (hsep : ¬ S g) (k : List UInt8) (r : List (List UInt8)) (hW : WR w g o (k :: r)) (hc : r.length + 1 ≤ c) (hr1 : 1 ≤ r.length) (hl : r.length ≤ 900000) (hs : ∀ y ∈ r, 0 < y.length ∧ y.length ≤ 1000000) (hF : Fit L)  (p_cls : k = kCls) :
    Calls Tryz.prog 55 #[.agg #[.string (mk L.name), W, .string (mk L.lower), .string (mk L.upper), C, E], .slice (some ⟨g, o, none⟩) (r.length + 1) c] w (EntR S w (changeR L k r)) := by
  obtain ⟨aC, capC, rfl⟩ := own_form h.cls
  obtain ⟨aE, capE, rfl⟩ := own_form h.els
  obtain ⟨xw, ⟨cw, ws, rfl, hcw, hxw, hxf⟩, hxS, hxC, hxE⟩ := h.wts
  have HL := Lib.hid h
  obtain ⟨Q, hQ⟩ : ∃ Q, changeR L k r = Q := ⟨_, rfl⟩
  rw [hQ]
  have HQ := Lib.hid hQ
  have hS := RB.start w #[.string (mk L.name), .slice (some ⟨xw, 0, none⟩) 256 cw, .string (mk L.lower), .string (mk L.upper), .slice aC L.cls.length capC, .slice aE L.els.length capE]
  have HW := Lib.hid hW
  have HX := Lib.hid hs
  have HLt := Lib.hid hlt
  have HSep := Lib.hid hsep
  have HF := Lib.hid hF
  have hsz := hW.lt
  clear hQ h hs hW hlt hsep hxw hxf hxS hxC hxE hF
  unfold VL2 zeroL at hS
  have hKk : (mk k).data.toList = k := rfl
  have e_cls := leq' (s := mk k) (l := kCls) (by rw [hKk]; exact p_cls)
  unfold kCls at e_cls
  clear hKk
  obtain ⟨x, rs, rfl⟩ : ∃ x rs, r = x :: rs := by
    cases r with
    | nil => simp at hr1
    | cons x rs => exact ⟨x, rs, rfl⟩
  have hq2 : classT L x rs = Q := by rw [← HQ.out]; unfold changeR; rw [if_pos p_cls]; rfl
  have HQ2 := Lib.hid hq2
  have hln : rs.length + 2 = (x :: rs).length + 1 := by simp
  have HLn := Lib.hid hln
  have hX2 : ∀ y ∈ rs, 0 < y.length ∧ y.length ≤ 1000000 := fun y hy => HX.out y (List.mem_cons_of_mem _ hy)
  have HX2 := Lib.hid hX2
  have hlr : rs.length ≤ 900000 := by simp at hl; omega
  have hcr : rs.length + 2 ≤ c := by simp at hc; omega
  clear hq2 hX2 hln p_cls
  generalize hKe : mk k = K at *
  have HKe := Lib.hid hKe
  clear hKe
  obtain ⟨nn, hnn⟩ : ∃ nn, (x :: rs).length + 1 = nn := ⟨_, rfl⟩
  obtain ⟨m, hm⟩ : ∃ m, (x :: rs).length = m := ⟨_, rfl⟩
  have HMr := Lib.hid hm
  rw [hnn]
  have g0 : (0 : Int) < nn := by omega
  have g1 : (1 : Int) ≤ nn := by omega
  have g2 : (1 : Int) < nn := by omega
  have g3 : 1 ≤ nn := by omega
  have g4 : 0 < nn := by omega
  have g5 : (1 : Int) ≤ c := by omega
  have g6 : nn - 1 = m := by omega
  have g7 : (c == 1) = false := by simp; omega
  go_enter Tryz.func55, Tryz.ntmps55
  go_upto_region 1 with fail
  generalize ((w.alloc (.cells #[.string (mk L.name), .slice (some ⟨xw, 0, none⟩) 256 cw, .string (mk L.lower), .string (mk L.upper), .slice aC L.cls.length capC, .slice aE L.els.length capE] 26)).alloc (.cells #[.string ⟨#[]⟩, .slice none 0 0, .string ⟨#[]⟩, .string ⟨#[]⟩, .slice none 0 0, .slice none 0 0] 26)) = w1 at hS ⊢
  have c0 : w1.cell? ⟨g, o, none⟩ = some (.string K) := by rw [← HKe.out]; exact (HW.out.below hS.1 HW.out.lt).at_ 0 (by simp)
  have HS1 := Lib.hid hS
  obtain ⟨⟨y0, y1, y2⟩, ⟨y3, y4, y5⟩, yf⟩ := hS.2.1.six
  obtain ⟨⟨z0, z1, z2⟩, ⟨z3, z4, z5⟩, zf⟩ := LAt.six hS.2.2
  clear hS
  have HCl := Lib.hid (rclass_any S g o c w1 L (.slice (some ⟨xw, 0, none⟩) 256 cw) (.slice aC L.cls.length capC) (.slice aE L.els.length capE) (HL.out.next HS1.out.1) (fun b hb => Nat.lt_of_lt_of_le (HLt.out b hb) HS1.out.1.size) HSep.out k x rs (HW.out.below HS1.out.1 HW.out.lt) hcr hlr HX2.out HF.out.cls)
  rw [HQ2.out, HLn.out, hnn] at HCl
  go_wp2_with (first
    | (go_at_call 94
       refine HCl.out.mono ?_
       rintro e w2 he
       obtain ⟨s0, s2, s3, pW, pC, pE, nW, cW, nC, cC, nE, cE, rfl, hz, hfin⟩ := EntR.pass he HS1.out.1 HLt.out HS1.out.2.2
       have HZ := Lib.hid hz
       have HFin := Lib.hid hfin
       obtain ⟨⟨u0, u1, u2⟩, ⟨u3, u4, u5⟩, uf⟩ := LAt.six hz
       clear he hz hfin))
  exact bodyPost_ret (ret_loc2 Tryz.results55 _ _ (w.heap.size + 1) _ _ rfl (by simp) (by simp) (HZ.out.put6 _ _ _ _ _ _)) rfl HFin.out
set_option maxRecDepth 100000 in
set_option maxHeartbeats 8000000 in
theorem rchange_low (S : Nat → Prop) (g o c : Nat) (w : World) (L : PL) (W C E : Value) (h : LM S w L W C E) (hlt : ∀ b, S b → b < w.heap.size) (hsep : ¬ S g) (k : List UInt8) (r : List (List UInt8)) (hW : WR w g o (k :: r)) (hc : r.length + 1 ≤ c) (hr1 : 1 ≤ r.length) (hl : r.length ≤ 900000) (hs : ∀ y ∈ r, 0 < y.length ∧ y.length ≤ 1000000) (hF : Fit L) (h2 : r.length = 2) (n_cls : ¬ k = kCls) (p_low : k = kLow) :
    Calls Tryz.prog 55 #[.agg #[.string (mk L.name), W, .string (mk L.lower), .string (mk L.upper), C, E], .slice (some ⟨g, o, none⟩) (r.length + 1) c] w (EntR S w (changeR L k r)) := by
  obtain ⟨aC, capC, rfl⟩ := own_form h.cls
  obtain ⟨aE, capE, rfl⟩ := own_form h.els
  obtain ⟨xw, ⟨cw, ws, rfl, hcw, hxw, hxf⟩, hxS, hxC, hxE⟩ := h.wts
  have HL := Lib.hid h
  obtain ⟨Q, hQ⟩ : ∃ Q, changeR L k r = Q := ⟨_, rfl⟩
  rw [hQ]
  have HQ := Lib.hid hQ
  have hS := RB.start w #[.string (mk L.name), .slice (some ⟨xw, 0, none⟩) 256 cw, .string (mk L.lower), .string (mk L.upper), .slice aC L.cls.length capC, .slice aE L.els.length capE]
  have HW := Lib.hid hW
  have HX := Lib.hid hs
  have HLt := Lib.hid hlt
  have HSep := Lib.hid hsep
  have HF := Lib.hid hF
  have hsz := hW.lt
  clear hQ h hs hW hlt hsep hxw hxf hxS hxC hxE hF
  unfold VL2 zeroL at hS
  have hKk : (mk k).data.toList = k := rfl
  have e_cls := leq (s := mk k) (l := kCls) (by rw [hKk]; exact n_cls)
  unfold kCls at e_cls
  have e_low := leq' (s := mk k) (l := kLow) (by rw [hKk]; exact p_low)
  unfold kLow at e_low
  clear hKk
  generalize hKe : mk k = K at *
  have HKe := Lib.hid hKe
  clear hKe
  obtain ⟨nn, hnn⟩ : ∃ nn, r.length + 1 = nn := ⟨_, rfl⟩
  obtain ⟨m, hm⟩ : ∃ m, r.length = m := ⟨_, rfl⟩
  have HMr := Lib.hid hm
  rw [hnn]
  have g0 : (0 : Int) < nn := by omega
  have g1 : (1 : Int) ≤ nn := by omega
  have g2 : (1 : Int) < nn := by omega
  have g3 : 1 ≤ nn := by omega
  have g4 : 0 < nn := by omega
  have g5 : (1 : Int) ≤ c := by omega
  have g6 : nn - 1 = m := by omega
  have g7 : (c == 1) = false := by simp; omega
  go_enter Tryz.func55, Tryz.ntmps55
  go_upto_region 1 with fail
  generalize ((w.alloc (.cells #[.string (mk L.name), .slice (some ⟨xw, 0, none⟩) 256 cw, .string (mk L.lower), .string (mk L.upper), .slice aC L.cls.length capC, .slice aE L.els.length capE] 26)).alloc (.cells #[.string ⟨#[]⟩, .slice none 0 0, .string ⟨#[]⟩, .string ⟨#[]⟩, .slice none 0 0, .slice none 0 0] 26)) = w1 at hS ⊢
  have c0 : w1.cell? ⟨g, o, none⟩ = some (.string K) := by rw [← HKe.out]; exact (HW.out.below hS.1 HW.out.lt).at_ 0 (by simp)
  have HS1 := Lib.hid hS
  obtain ⟨⟨y0, y1, y2⟩, ⟨y3, y4, y5⟩, yf⟩ := hS.2.1.six
  obtain ⟨⟨z0, z1, z2⟩, ⟨z3, z4, z5⟩, zf⟩ := LAt.six hS.2.2
  clear hS
  have HNu := Lib.hid (rnumbers_any r g (o + 1) (c - 1) 255 w1 ((HW.out.below HS1.out.1 HW.out.lt).drop 1) (by omega) (fun y hy => (HX.out y hy).2) (by decide))
  rw [HMr.out] at HNu
  cases hnk : numsT r 255 with
  | error x =>
    rw [hnk] at HNu
    have hx0 := numsT_ne hnk
    have hx1 : (x != 0) = true := by rw [bne, hx0]; rfl
    have HQ2 : Hid (Q = .error x) := by
      show Q = .error x
      rw [← HQ.out]
      unfold changeR
      rw [if_neg n_cls, if_pos (Or.inl p_low), hnk]
    clear hnk n_cls p_low
    go_wp2_with (first
      | (go_at_call 95
         refine HNu.out.mono ?_
         rintro e w2 ⟨hb, rfl⟩
         have HR2 := Lib.hid (HS1.out.keep hb)
         clear y0 y1 y2 y3 y4 y5 yf z0 z1 z2 z3 z4 z5 zf c0
         obtain ⟨⟨y0, y1, y2⟩, ⟨y3, y4, y5⟩, yf⟩ := HR2.out.2.1.six
         obtain ⟨⟨z0, z1, z2⟩, ⟨z3, z4, z5⟩, zf⟩ := LAt.six HR2.out.2.2
         clear hb))
    exact bodyPost_ret (ret_loc2 Tryz.results55 _ _ (w.heap.size + 1) _ _ rfl (by simp) (by simp) (HR2.out.2.2.put6 _ _ _ _ _ _)) rfl (entR_err HQ2.out (Keep.of_below (below_put6 HR2.out.1 _ (by omega) _ _ _ _ _ _)) (Sl.mk' _ _ _) (Sl.mk' _ _ _) (Sl.mk' _ _ _))
  | ok l =>
    rw [hnk] at HNu
    have hq2 : Q = .ok { L with lower := putB L.lower (l.getD 0 0) (l.getD 1 0) } := by
      rw [← HQ.out]
      unfold changeR
      rw [if_neg n_cls, if_pos (Or.inl p_low), hnk]
      simp only [if_pos p_low]
    have hln := numsT_len hnk
    have HBy := Lib.hid (numsT_bytes hnk)
    obtain ⟨a, b, rfl, ha, hb0⟩ := numsT_two h2 hnk
    have HQ2 : Hid (Q = .ok { L with lower := putB L.lower a b }) := hq2
    have HWi := Lib.hid (fun w => rwith_any (mk L.lower) a b HF.out.low ha hb0 w)
    rw [show (mk L.lower).data.toList = L.lower from rfl] at HWi
    have hl0 : 0 < [a, b].length := by simp
    clear hnk n_cls p_low hq2
    go_upto_region 15 with (first
      | (go_at_call 95
         refine HNu.out.mono ?_
         rintro e w2 ⟨hb, v, rfl, hown⟩
         obtain ⟨gn, cn, rfl, hgn, hgl⟩ := hown.form hl0
         have HO := Lib.hid hown
         have HGn := Lib.hid (⟨Nat.lt_of_lt_of_le HS1.out.2.2.lt hgn, hgl⟩ : w.heap.size + 1 < gn ∧ gn < w2.heap.size)
         have HR2 := Lib.hid (HS1.out.keep hb)
         have c2 : w2.cell? ⟨g, o, none⟩ = some (.string K) := by rw [← HKe.out]; exact (HW.out.below HR2.out.1 HW.out.lt).at_ 0 (by simp)
         clear y0 y1 y2 y3 y4 y5 yf z0 z1 z2 z3 z4 z5 zf c0
         obtain ⟨⟨y0, y1, y2⟩, ⟨y3, y4, y5⟩, yf⟩ := HR2.out.2.1.six
         obtain ⟨⟨z0, z1, z2⟩, ⟨z3, z4, z5⟩, zf⟩ := LAt.six HR2.out.2.2
         clear hb hown hgn hgl))
    have k0 : w2.cell? ⟨gn, 0, none⟩ = some (.int .i64 (a : Int)) := row_get HO.out 0 (by simp)
    have k1 : w2.cell? ⟨gn, 1, none⟩ = some (.int .i64 (b : Int)) := row_get HO.out 1 (by simp)
    have hr3 := HR2.out.drew
    go_still_tail 8, (by kernel_rfl)
    change wpList _ _ _ _ _ w2.drew
    clear y0 y1 y2 y3 y4 y5 yf z0 z1 z2 z3 z4 z5 zf c2 k0 k1
    generalize w2.drew = w3 at hr3 ⊢
    have HR3 := Lib.hid hr3
    clear hr3
    go_upto_region 20 with (first
      | (go_at_call 96
         refine (HWi.out _).mono ?_
         rintro e w4 ⟨rfl, hb⟩
         have HR4 := Lib.hid (HR3.out.keep hb)
         obtain ⟨⟨y0, y1, y2⟩, ⟨y3, y4, y5⟩, yf⟩ := HR4.out.2.1.six
         clear hb))
    have ha6 : LAt (w4.setCell ⟨w.heap.size, 2, none⟩ (.string (mk (putB L.lower a b)))) w.heap.size #[.string (mk L.name), .slice (some ⟨xw, 0, none⟩) 256 cw, .string (mk (putB L.lower a b)), .string (mk L.upper), .slice aC L.cls.length capC, .slice aE L.els.length capE] := HR4.out.2.1.put 2 _
    have hz6 : LAt (w4.setCell ⟨w.heap.size, 2, none⟩ (.string (mk (putB L.lower a b)))) (w.heap.size + 1) zeroL := HR4.out.2.2.apart _ (by omega)
    have hb6 : Below w.heap.size w (w4.setCell ⟨w.heap.size, 2, none⟩ (.string (mk (putB L.lower a b)))) := HR4.out.1.setCell (p := ⟨w.heap.size, 2, none⟩) (Nat.le_refl _) _
    generalize (w4.setCell ⟨w.heap.size, 2, none⟩ (.string (mk (putB L.lower a b)))) = w6 at ha6 hz6 hb6 ⊢
    have HZ6 := Lib.hid hz6
    have HB6 := Lib.hid hb6
    clear y0 y1 y2 y3 y4 y5 yf
    obtain ⟨⟨y0, y1, y2⟩, ⟨y3, y4, y5⟩, yf⟩ := ha6.six
    obtain ⟨⟨z0, z1, z2⟩, ⟨z3, z4, z5⟩, zf⟩ := LAt.six hz6
    clear ha6 hz6 hb6
    go_wp2
    exact bodyPost_ret (ret_loc2 Tryz.results55 _ _ (w.heap.size + 1) _ _ rfl (by simp) (by simp) (HZ6.out.put6 _ _ _ _ _ _)) rfl (entR_ok HQ2.out rfl rfl rfl (Keep.of_below (below_put6 HB6.out _ (by omega) _ _ _ _ _ _)) (((HL.out.next (below_put6 HB6.out _ (by omega) _ _ _ _ _ _)).lower _).more (grow_sub S w)) (Sl.mk' _ _ _) (Sl.mk' _ _ _) (Sl.mk' _ _ _))
set_option maxRecDepth 100000 in
set_option maxHeartbeats 8000000 in
theorem rchange_up (S : Nat → Prop) (g o c : Nat) (w : World) (L : PL) (W C E : Value) (h : LM S w L W C E) (hlt : ∀ b, S b → b < w.heap.size) (hsep : ¬ S g) (k : List UInt8) (r : List (List UInt8)) (hW : WR w g o (k :: r)) (hc : r.length + 1 ≤ c) (hr1 : 1 ≤ r.length) (hl : r.length ≤ 900000) (hs : ∀ y ∈ r, 0 < y.length ∧ y.length ≤ 1000000) (hF : Fit L) (h2 : r.length = 2) (n_cls : ¬ k = kCls) (n_low : ¬ k = kLow) (p_up : k = kUp) :
    Calls Tryz.prog 55 #[.agg #[.string (mk L.name), W, .string (mk L.lower), .string (mk L.upper), C, E], .slice (some ⟨g, o, none⟩) (r.length + 1) c] w (EntR S w (changeR L k r)) := by
  obtain ⟨aC, capC, rfl⟩ := own_form h.cls
  obtain ⟨aE, capE, rfl⟩ := own_form h.els
  obtain ⟨xw, ⟨cw, ws, rfl, hcw, hxw, hxf⟩, hxS, hxC, hxE⟩ := h.wts
  have HL := Lib.hid h
  obtain ⟨Q, hQ⟩ : ∃ Q, changeR L k r = Q := ⟨_, rfl⟩
  rw [hQ]
  have HQ := Lib.hid hQ
  have hS := RB.start w #[.string (mk L.name), .slice (some ⟨xw, 0, none⟩) 256 cw, .string (mk L.lower), .string (mk L.upper), .slice aC L.cls.length capC, .slice aE L.els.length capE]
  have HW := Lib.hid hW
  have HX := Lib.hid hs
  have HLt := Lib.hid hlt
  have HSep := Lib.hid hsep
  have HF := Lib.hid hF
  have hsz := hW.lt
  clear hQ h hs hW hlt hsep hxw hxf hxS hxC hxE hF
  unfold VL2 zeroL at hS
  have hKk : (mk k).data.toList = k := rfl
  have e_cls := leq (s := mk k) (l := kCls) (by rw [hKk]; exact n_cls)
  unfold kCls at e_cls
  have e_low := leq (s := mk k) (l := kLow) (by rw [hKk]; exact n_low)
  unfold kLow at e_low
  have e_up := leq' (s := mk k) (l := kUp) (by rw [hKk]; exact p_up)
  unfold kUp at e_up
  clear hKk
  generalize hKe : mk k = K at *
  have HKe := Lib.hid hKe
  clear hKe
  obtain ⟨nn, hnn⟩ : ∃ nn, r.length + 1 = nn := ⟨_, rfl⟩
  obtain ⟨m, hm⟩ : ∃ m, r.length = m := ⟨_, rfl⟩
  have HMr := Lib.hid hm
  rw [hnn]
  have g0 : (0 : Int) < nn := by omega
  have g1 : (1 : Int) ≤ nn := by omega
  have g2 : (1 : Int) < nn := by omega
  have g3 : 1 ≤ nn := by omega
  have g4 : 0 < nn := by omega
  have g5 : (1 : Int) ≤ c := by omega
  have g6 : nn - 1 = m := by omega
  have g7 : (c == 1) = false := by simp; omega
  go_enter Tryz.func55, Tryz.ntmps55
  go_upto_region 1 with fail
  generalize ((w.alloc (.cells #[.string (mk L.name), .slice (some ⟨xw, 0, none⟩) 256 cw, .string (mk L.lower), .string (mk L.upper), .slice aC L.cls.length capC, .slice aE L.els.length capE] 26)).alloc (.cells #[.string ⟨#[]⟩, .slice none 0 0, .string ⟨#[]⟩, .string ⟨#[]⟩, .slice none 0 0, .slice none 0 0] 26)) = w1 at hS ⊢
  have c0 : w1.cell? ⟨g, o, none⟩ = some (.string K) := by rw [← HKe.out]; exact (HW.out.below hS.1 HW.out.lt).at_ 0 (by simp)
  have HS1 := Lib.hid hS
  obtain ⟨⟨y0, y1, y2⟩, ⟨y3, y4, y5⟩, yf⟩ := hS.2.1.six
  obtain ⟨⟨z0, z1, z2⟩, ⟨z3, z4, z5⟩, zf⟩ := LAt.six hS.2.2
  clear hS
  have HNu := Lib.hid (rnumbers_any r g (o + 1) (c - 1) 255 w1 ((HW.out.below HS1.out.1 HW.out.lt).drop 1) (by omega) (fun y hy => (HX.out y hy).2) (by decide))
  rw [HMr.out] at HNu
  cases hnk : numsT r 255 with
  | error x =>
    rw [hnk] at HNu
    have hx0 := numsT_ne hnk
    have hx1 : (x != 0) = true := by rw [bne, hx0]; rfl
    have HQ2 : Hid (Q = .error x) := by
      show Q = .error x
      rw [← HQ.out]
      unfold changeR
      rw [if_neg n_cls, if_pos (Or.inr p_up), hnk]
    clear hnk n_cls n_low p_up
    go_wp2_with (first
      | (go_at_call 95
         refine HNu.out.mono ?_
         rintro e w2 ⟨hb, rfl⟩
         have HR2 := Lib.hid (HS1.out.keep hb)
         clear y0 y1 y2 y3 y4 y5 yf z0 z1 z2 z3 z4 z5 zf c0
         obtain ⟨⟨y0, y1, y2⟩, ⟨y3, y4, y5⟩, yf⟩ := HR2.out.2.1.six
         obtain ⟨⟨z0, z1, z2⟩, ⟨z3, z4, z5⟩, zf⟩ := LAt.six HR2.out.2.2
         clear hb))
    exact bodyPost_ret (ret_loc2 Tryz.results55 _ _ (w.heap.size + 1) _ _ rfl (by simp) (by simp) (HR2.out.2.2.put6 _ _ _ _ _ _)) rfl (entR_err HQ2.out (Keep.of_below (below_put6 HR2.out.1 _ (by omega) _ _ _ _ _ _)) (Sl.mk' _ _ _) (Sl.mk' _ _ _) (Sl.mk' _ _ _))
  | ok l =>
    rw [hnk] at HNu
    have hq2 : Q = .ok { L with upper := putB L.upper (l.getD 0 0) (l.getD 1 0) } := by
      rw [← HQ.out]
      unfold changeR
      rw [if_neg n_cls, if_pos (Or.inr p_up), hnk]
      simp only [if_neg n_low, if_pos p_up]
    have hln := numsT_len hnk
    have HBy := Lib.hid (numsT_bytes hnk)
    obtain ⟨a, b, rfl, ha, hb0⟩ := numsT_two h2 hnk
    have HQ2 : Hid (Q = .ok { L with upper := putB L.upper a b }) := hq2
    have HWi := Lib.hid (fun w => rwith_any (mk L.upper) a b HF.out.up ha hb0 w)
    rw [show (mk L.upper).data.toList = L.upper from rfl] at HWi
    have hl0 : 0 < [a, b].length := by simp
    clear hnk n_cls n_low p_up hq2
    go_upto_region 17 with (first
      | (go_at_call 95
         refine HNu.out.mono ?_
         rintro e w2 ⟨hb, v, rfl, hown⟩
         obtain ⟨gn, cn, rfl, hgn, hgl⟩ := hown.form hl0
         have HO := Lib.hid hown
         have HGn := Lib.hid (⟨Nat.lt_of_lt_of_le HS1.out.2.2.lt hgn, hgl⟩ : w.heap.size + 1 < gn ∧ gn < w2.heap.size)
         have HR2 := Lib.hid (HS1.out.keep hb)
         have c2 : w2.cell? ⟨g, o, none⟩ = some (.string K) := by rw [← HKe.out]; exact (HW.out.below HR2.out.1 HW.out.lt).at_ 0 (by simp)
         clear y0 y1 y2 y3 y4 y5 yf z0 z1 z2 z3 z4 z5 zf c0
         obtain ⟨⟨y0, y1, y2⟩, ⟨y3, y4, y5⟩, yf⟩ := HR2.out.2.1.six
         obtain ⟨⟨z0, z1, z2⟩, ⟨z3, z4, z5⟩, zf⟩ := LAt.six HR2.out.2.2
         clear hb hown hgn hgl))
    have k0 : w2.cell? ⟨gn, 0, none⟩ = some (.int .i64 (a : Int)) := row_get HO.out 0 (by simp)
    have k1 : w2.cell? ⟨gn, 1, none⟩ = some (.int .i64 (b : Int)) := row_get HO.out 1 (by simp)
    have hr3 := HR2.out.drew
    go_still_tail 8, (by kernel_rfl)
    change wpList _ _ _ _ _ w2.drew
    clear y0 y1 y2 y3 y4 y5 yf z0 z1 z2 z3 z4 z5 zf c2 k0 k1
    generalize w2.drew = w3 at hr3 ⊢
    have HR3 := Lib.hid hr3
    clear hr3
    go_upto_region 20 with (first
      | (go_at_call 96
         refine (HWi.out _).mono ?_
         rintro e w4 ⟨rfl, hb⟩
         have HR4 := Lib.hid (HR3.out.keep hb)
         obtain ⟨⟨y0, y1, y2⟩, ⟨y3, y4, y5⟩, yf⟩ := HR4.out.2.1.six
         clear hb))
    have ha6 : LAt (w4.setCell ⟨w.heap.size, 3, none⟩ (.string (mk (putB L.upper a b)))) w.heap.size #[.string (mk L.name), .slice (some ⟨xw, 0, none⟩) 256 cw, .string (mk L.lower), .string (mk (putB L.upper a b)), .slice aC L.cls.length capC, .slice aE L.els.length capE] := HR4.out.2.1.put 3 _
    have hz6 : LAt (w4.setCell ⟨w.heap.size, 3, none⟩ (.string (mk (putB L.upper a b)))) (w.heap.size + 1) zeroL := HR4.out.2.2.apart _ (by omega)
    have hb6 : Below w.heap.size w (w4.setCell ⟨w.heap.size, 3, none⟩ (.string (mk (putB L.upper a b)))) := HR4.out.1.setCell (p := ⟨w.heap.size, 3, none⟩) (Nat.le_refl _) _
    generalize (w4.setCell ⟨w.heap.size, 3, none⟩ (.string (mk (putB L.upper a b)))) = w6 at ha6 hz6 hb6 ⊢
    have HZ6 := Lib.hid hz6
    have HB6 := Lib.hid hb6
    clear y0 y1 y2 y3 y4 y5 yf
    obtain ⟨⟨y0, y1, y2⟩, ⟨y3, y4, y5⟩, yf⟩ := ha6.six
    obtain ⟨⟨z0, z1, z2⟩, ⟨z3, z4, z5⟩, zf⟩ := LAt.six hz6
    clear ha6 hz6 hb6
    go_wp2
    exact bodyPost_ret (ret_loc2 Tryz.results55 _ _ (w.heap.size + 1) _ _ rfl (by simp) (by simp) (HZ6.out.put6 _ _ _ _ _ _)) rfl (entR_ok HQ2.out rfl rfl rfl (Keep.of_below (below_put6 HB6.out _ (by omega) _ _ _ _ _ _)) (((HL.out.next (below_put6 HB6.out _ (by omega) _ _ _ _ _ _)).upper _).more (grow_sub S w)) (Sl.mk' _ _ _) (Sl.mk' _ _ _) (Sl.mk' _ _ _))
set_option maxRecDepth 100000 in
set_option maxHeartbeats 8000000 in
theorem rchange_elm (S : Nat → Prop) (g o c : Nat) (w : World) (L : PL) (W C E : Value) (h : LM S w L W C E) (hlt : ∀ b, S b → b < w.heap.size) (hsep : ¬ S g) (k : List UInt8) (r : List (List UInt8)) (hW : WR w g o (k :: r)) (hc : r.length + 1 ≤ c) (hr1 : 1 ≤ r.length) (hl : r.length ≤ 900000) (hs : ∀ y ∈ r, 0 < y.length ∧ y.length ≤ 1000000) (hF : Fit L) (h3 : r.length = 3) (n_cls : ¬ k = kCls) (n_low : ¬ k = kLow) (n_up : ¬ k = kUp) (p_elm : k = kElm) :
    Calls Tryz.prog 55 #[.agg #[.string (mk L.name), W, .string (mk L.lower), .string (mk L.upper), C, E], .slice (some ⟨g, o, none⟩) (r.length + 1) c] w (EntR S w (changeR L k r)) := by
  obtain ⟨aC, capC, rfl⟩ := own_form h.cls
  obtain ⟨aE, capE, rfl⟩ := own_form h.els
  obtain ⟨xw, ⟨cw, ws, rfl, hcw, hxw, hxf⟩, hxS, hxC, hxE⟩ := h.wts
  have HL := Lib.hid h
  obtain ⟨Q, hQ⟩ : ∃ Q, changeR L k r = Q := ⟨_, rfl⟩
  rw [hQ]
  have HQ := Lib.hid hQ
  have hS := RB.start w #[.string (mk L.name), .slice (some ⟨xw, 0, none⟩) 256 cw, .string (mk L.lower), .string (mk L.upper), .slice aC L.cls.length capC, .slice aE L.els.length capE]
  have HW := Lib.hid hW
  have HX := Lib.hid hs
  have HLt := Lib.hid hlt
  have HSep := Lib.hid hsep
  have HF := Lib.hid hF
  have hsz := hW.lt
  clear hQ h hs hW hlt hsep hxw hxf hxS hxC hxE hF
  unfold VL2 zeroL at hS
  have hKk : (mk k).data.toList = k := rfl
  have e_cls := leq (s := mk k) (l := kCls) (by rw [hKk]; exact n_cls)
  unfold kCls at e_cls
  have e_low := leq (s := mk k) (l := kLow) (by rw [hKk]; exact n_low)
  unfold kLow at e_low
  have e_up := leq (s := mk k) (l := kUp) (by rw [hKk]; exact n_up)
  unfold kUp at e_up
  have e_elm := leq' (s := mk k) (l := kElm) (by rw [hKk]; exact p_elm)
  unfold kElm at e_elm
  clear hKk
  generalize hKe : mk k = K at *
  have HKe := Lib.hid hKe
  clear hKe
  obtain ⟨nn, hnn⟩ : ∃ nn, r.length + 1 = nn := ⟨_, rfl⟩
  obtain ⟨m, hm⟩ : ∃ m, r.length = m := ⟨_, rfl⟩
  have HMr := Lib.hid hm
  rw [hnn]
  have g0 : (0 : Int) < nn := by omega
  have g1 : (1 : Int) ≤ nn := by omega
  have g2 : (1 : Int) < nn := by omega
  have g3 : 1 ≤ nn := by omega
  have g4 : 0 < nn := by omega
  have g5 : (1 : Int) ≤ c := by omega
  have g6 : nn - 1 = m := by omega
  have g7 : (c == 1) = false := by simp; omega
  go_enter Tryz.func55, Tryz.ntmps55
  go_upto_region 1 with fail
  generalize ((w.alloc (.cells #[.string (mk L.name), .slice (some ⟨xw, 0, none⟩) 256 cw, .string (mk L.lower), .string (mk L.upper), .slice aC L.cls.length capC, .slice aE L.els.length capE] 26)).alloc (.cells #[.string ⟨#[]⟩, .slice none 0 0, .string ⟨#[]⟩, .string ⟨#[]⟩, .slice none 0 0, .slice none 0 0] 26)) = w1 at hS ⊢
  have c0 : w1.cell? ⟨g, o, none⟩ = some (.string K) := by rw [← HKe.out]; exact (HW.out.below hS.1 HW.out.lt).at_ 0 (by simp)
  have HS1 := Lib.hid hS
  obtain ⟨⟨y0, y1, y2⟩, ⟨y3, y4, y5⟩, yf⟩ := hS.2.1.six
  obtain ⟨⟨z0, z1, z2⟩, ⟨z3, z4, z5⟩, zf⟩ := LAt.six hS.2.2
  clear hS
  have HNu := Lib.hid (rnumbers_any r g (o + 1) (c - 1) 65535 w1 ((HW.out.below HS1.out.1 HW.out.lt).drop 1) (by omega) (fun y hy => (HX.out y hy).2) (by decide))
  rw [HMr.out] at HNu
  cases hnk : numsT r 65535 with
  | error x =>
    rw [hnk] at HNu
    have hx0 := numsT_ne hnk
    have hx1 : (x != 0) = true := by rw [bne, hx0]; rfl
    have HQ2 : Hid (Q = .error x) := by
      show Q = .error x
      rw [← HQ.out]
      unfold changeR
      rw [if_neg n_cls, if_neg (fun e => e.elim n_low n_up), hnk]
    clear hnk n_cls n_low n_up p_elm
    go_wp2_with (first
      | (go_at_call 95
         refine HNu.out.mono ?_
         rintro e w2 ⟨hb, rfl⟩
         have HR2 := Lib.hid (HS1.out.keep hb)
         clear y0 y1 y2 y3 y4 y5 yf z0 z1 z2 z3 z4 z5 zf c0
         obtain ⟨⟨y0, y1, y2⟩, ⟨y3, y4, y5⟩, yf⟩ := HR2.out.2.1.six
         obtain ⟨⟨z0, z1, z2⟩, ⟨z3, z4, z5⟩, zf⟩ := LAt.six HR2.out.2.2
         clear hb))
    exact bodyPost_ret (ret_loc2 Tryz.results55 _ _ (w.heap.size + 1) _ _ rfl (by simp) (by simp) (HR2.out.2.2.put6 _ _ _ _ _ _)) rfl (entR_err HQ2.out (Keep.of_below (below_put6 HR2.out.1 _ (by omega) _ _ _ _ _ _)) (Sl.mk' _ _ _) (Sl.mk' _ _ _) (Sl.mk' _ _ _))
  | ok l =>
    rw [hnk] at HNu
    have hq2 : Q = elemR L l := by
      rw [← HQ.out]
      unfold changeR
      rw [if_neg n_cls, if_neg (fun e => e.elim n_low n_up), hnk]
      simp only [if_neg n_low, if_neg n_up, if_pos p_elm]
    have hln := numsT_len hnk
    have HBy := Lib.hid (numsT_bytes hnk)
    obtain ⟨a, b, z, rfl, ha, hb0, hz0⟩ := numsT_three h3 hnk
    have HQ2 : Hid (elemR L [a, b, z] = Q) := hq2.symm
    have hl0 : 0 < [a, b, z].length := by simp
    have HEl := Lib.hid (fun gn cn w => relement_any S gn cn w L (.slice (some ⟨xw, 0, none⟩) 256 cw) (.slice aC L.cls.length capC) (.slice aE L.els.length capE))
    have HAB := Lib.hid (⟨ha, hb0⟩ : a < 256 ∧ b < 256)
    clear hnk n_cls n_low n_up p_elm hq2 ha hb0 hz0
    go_wp2_with (first
      | (go_at_call 95
         refine HNu.out.mono ?_
         rintro e w2 ⟨hb, v, rfl, hown⟩
         obtain ⟨gn, cn, rfl, hgn, hgl⟩ := hown.form hl0
         have HO := Lib.hid hown
         have HGn := Lib.hid (⟨Nat.lt_of_lt_of_le HS1.out.2.2.lt hgn, hgl⟩ : w.heap.size + 1 < gn ∧ gn < w2.heap.size)
         have HR2 := Lib.hid (HS1.out.keep hb)
         have c2 : w2.cell? ⟨g, o, none⟩ = some (.string K) := by rw [← HKe.out]; exact (HW.out.below HR2.out.1 HW.out.lt).at_ 0 (by simp)
         clear y0 y1 y2 y3 y4 y5 yf z0 z1 z2 z3 z4 z5 zf c0
         obtain ⟨⟨y0, y1, y2⟩, ⟨y3, y4, y5⟩, yf⟩ := HR2.out.2.1.six
         obtain ⟨⟨z0, z1, z2⟩, ⟨z3, z4, z5⟩, zf⟩ := LAt.six HR2.out.2.2
         clear hb hown hgn hgl)
      | (go_at_call 97
         have hcall := HEl.out gn cn w2 (HL.out.next HR2.out.1) (fun b hb => Nat.lt_of_lt_of_le (HLt.out b hb) HR2.out.1.size) (fun e => by have h1 := HLt.out _ e; have h2 := HGn.out.1; omega) a b z HAB.out.1 HAB.out.2 (row_get HO.out 0 (by simp)) (row_get HO.out 1 (by simp)) (row_get HO.out 2 (by simp)) HF.out.els
         rw [HQ2.out] at hcall
         refine hcall.mono ?_
         clear hcall
         rintro e w4 he
         obtain ⟨s0, s2, s3, pW, pC, pE, nW, cW, nC, cC, nE, cE, rfl, hz, hfin⟩ := EntR.pass he HR2.out.1 HLt.out HR2.out.2.2
         have HZ := Lib.hid hz
         have HFin := Lib.hid hfin
         obtain ⟨⟨u0, u1, u2⟩, ⟨u3, u4, u5⟩, uf⟩ := LAt.six hz
         clear he hz hfin))
    exact bodyPost_ret (ret_loc2 Tryz.results55 _ _ (w.heap.size + 1) _ _ rfl (by simp) (by simp) (HZ.out.put6 _ _ _ _ _ _)) rfl HFin.out
end Go.Proofs.YticfhbffoajgcaaGreatDoor
/- The reference's change: weights, and whatever the keyword is. (Written by gen_lrp5.py.) -/
set_option linter.unusedVariables false
namespace Go.Proofs.YticfhbffoajgcaaGreatDoor
open Go.RowKit

set_option maxRecDepth 100000 in
set_option maxHeartbeats 8000000 in
theorem rchange_wei (S : Nat → Prop) (g o c : Nat) (w : World) (L : PL) (W C E : Value) (h : LM S w L W C E) (hlt : ∀ b, S b → b < w.heap.size) (hsep : ¬ S g) (k : List UInt8) (r : List (List UInt8)) (hW : WR w g o (k :: r)) (hc : r.length + 1 ≤ c) (hr1 : 1 ≤ r.length) (hl : r.length ≤ 900000) (hs : ∀ y ∈ r, 0 < y.length ∧ y.length ≤ 1000000) (hF : Fit L) (h2 : 2 ≤ r.length) (n_cls : ¬ k = kCls) (n_low : ¬ k = kLow) (n_up : ¬ k = kUp) (n_elm : ¬ k = kElm)  :
    Calls Tryz.prog 55 #[.agg #[.string (mk L.name), W, .string (mk L.lower), .string (mk L.upper), C, E], .slice (some ⟨g, o, none⟩) (r.length + 1) c] w (EntR S w (changeR L k r)) := by
  obtain ⟨aC, capC, rfl⟩ := own_form h.cls
  obtain ⟨aE, capE, rfl⟩ := own_form h.els
  obtain ⟨xw, ⟨cw, ws, rfl, hcw, hxw, hxf⟩, hxS, hxC, hxE⟩ := h.wts
  have HL := Lib.hid h
  obtain ⟨Q, hQ⟩ : ∃ Q, changeR L k r = Q := ⟨_, rfl⟩
  rw [hQ]
  have HQ := Lib.hid hQ
  have hS := RB.start w #[.string (mk L.name), .slice (some ⟨xw, 0, none⟩) 256 cw, .string (mk L.lower), .string (mk L.upper), .slice aC L.cls.length capC, .slice aE L.els.length capE]
  have HW := Lib.hid hW
  have HX := Lib.hid hs
  have HLt := Lib.hid hlt
  have HSep := Lib.hid hsep
  have HF := Lib.hid hF
  have hsz := hW.lt
  clear hQ h hs hW hlt hsep hxw hxf hxS hxC hxE hF
  unfold VL2 zeroL at hS
  have hKk : (mk k).data.toList = k := rfl
  have e_cls := leq (s := mk k) (l := kCls) (by rw [hKk]; exact n_cls)
  unfold kCls at e_cls
  have e_low := leq (s := mk k) (l := kLow) (by rw [hKk]; exact n_low)
  unfold kLow at e_low
  have e_up := leq (s := mk k) (l := kUp) (by rw [hKk]; exact n_up)
  unfold kUp at e_up
  have e_elm := leq (s := mk k) (l := kElm) (by rw [hKk]; exact n_elm)
  unfold kElm at e_elm
  clear hKk
  generalize hKe : mk k = K at *
  have HKe := Lib.hid hKe
  clear hKe
  obtain ⟨nn, hnn⟩ : ∃ nn, r.length + 1 = nn := ⟨_, rfl⟩
  obtain ⟨m, hm⟩ : ∃ m, r.length = m := ⟨_, rfl⟩
  have HMr := Lib.hid hm
  rw [hnn]
  have g0 : (0 : Int) < nn := by omega
  have g1 : (1 : Int) ≤ nn := by omega
  have g2 : (1 : Int) < nn := by omega
  have g3 : 1 ≤ nn := by omega
  have g4 : 0 < nn := by omega
  have g5 : (1 : Int) ≤ c := by omega
  have g6 : nn - 1 = m := by omega
  have g7 : (c == 1) = false := by simp; omega
  go_enter Tryz.func55, Tryz.ntmps55
  go_upto_region 1 with fail
  generalize ((w.alloc (.cells #[.string (mk L.name), .slice (some ⟨xw, 0, none⟩) 256 cw, .string (mk L.lower), .string (mk L.upper), .slice aC L.cls.length capC, .slice aE L.els.length capE] 26)).alloc (.cells #[.string ⟨#[]⟩, .slice none 0 0, .string ⟨#[]⟩, .string ⟨#[]⟩, .slice none 0 0, .slice none 0 0] 26)) = w1 at hS ⊢
  have c0 : w1.cell? ⟨g, o, none⟩ = some (.string K) := by rw [← HKe.out]; exact (HW.out.below hS.1 HW.out.lt).at_ 0 (by simp)
  have HS1 := Lib.hid hS
  obtain ⟨⟨y0, y1, y2⟩, ⟨y3, y4, y5⟩, yf⟩ := hS.2.1.six
  obtain ⟨⟨z0, z1, z2⟩, ⟨z3, z4, z5⟩, zf⟩ := LAt.six hS.2.2
  clear hS
  have HNu := Lib.hid (rnumbers_any r g (o + 1) (c - 1) 65535 w1 ((HW.out.below HS1.out.1 HW.out.lt).drop 1) (by omega) (fun y hy => (HX.out y hy).2) (by decide))
  rw [HMr.out] at HNu
  cases hnk : numsT r 65535 with
  | error x =>
    rw [hnk] at HNu
    have hx0 := numsT_ne hnk
    have hx1 : (x != 0) = true := by rw [bne, hx0]; rfl
    have HQ2 : Hid (Q = .error x) := by
      show Q = .error x
      rw [← HQ.out]
      unfold changeR
      rw [if_neg n_cls, if_neg (fun e => e.elim n_low n_up), hnk]
    clear hnk n_cls n_low n_up n_elm
    go_wp2_with (first
      | (go_at_call 95
         refine HNu.out.mono ?_
         rintro e w2 ⟨hb, rfl⟩
         have HR2 := Lib.hid (HS1.out.keep hb)
         clear y0 y1 y2 y3 y4 y5 yf z0 z1 z2 z3 z4 z5 zf c0
         obtain ⟨⟨y0, y1, y2⟩, ⟨y3, y4, y5⟩, yf⟩ := HR2.out.2.1.six
         obtain ⟨⟨z0, z1, z2⟩, ⟨z3, z4, z5⟩, zf⟩ := LAt.six HR2.out.2.2
         clear hb))
    exact bodyPost_ret (ret_loc2 Tryz.results55 _ _ (w.heap.size + 1) _ _ rfl (by simp) (by simp) (HR2.out.2.2.put6 _ _ _ _ _ _)) rfl (entR_err HQ2.out (Keep.of_below (below_put6 HR2.out.1 _ (by omega) _ _ _ _ _ _)) (Sl.mk' _ _ _) (Sl.mk' _ _ _) (Sl.mk' _ _ _))
  | ok l =>
    rw [hnk] at HNu
    have hq2 : Q = .ok { L with wt := putW L.wt l.dropLast (l.getLastD 0) } := by
      rw [← HQ.out]
      unfold changeR
      rw [if_neg n_cls, if_neg (fun e => e.elim n_low n_up), hnk]
      simp only [if_neg n_low, if_neg n_up, if_neg n_elm]
    have hln := numsT_len hnk
    have HBy := Lib.hid (numsT_bytes hnk)
    obtain ⟨p, hp⟩ : ∃ p, l.length = p + 1 := ⟨l.length - 1, by omega⟩
    have hpm : m = p + 1 := by omega
    have hp9 : p ≤ 900000 := by omega
    have HP := Lib.hid hp
    obtain ⟨V, hV⟩ : ∃ V, l[p]? = some V := ⟨l[p]'(by omega), List.getElem?_eq_getElem (by omega)⟩
    have hlast : l.getLastD 0 = V := by
      rw [List.getLastD_eq_getLast?, List.getLast?_eq_getElem?, hp, show p + 1 - 1 = p by omega, hV]; rfl
    have hdrop : l.dropLast = l.take p := by rw [List.dropLast_eq_take, hp]; rfl
    rw [hlast, hdrop] at hq2
    have HQ2 := Lib.hid hq2
    have HV := Lib.hid hV
    have hl0 : 0 < l.length := by omega
    clear hnk n_cls n_low n_up n_elm hq2 hlast hdrop hV
    clear hl0
    have HPm := Lib.hid hpm
    obtain ⟨N, hN⟩ : ∃ N, l.length = N := ⟨_, rfl⟩
    have HNl := Lib.hid hN
    have hNp : N = p + 1 := by omega
    have HNp := Lib.hid hNp
    have hl0 : 0 < N := by omega
    have q1 : IntKind.i64.wrap ((N : Int) - 1) = (p : Int) := by rw [IntWalk.i64_in _ (by omega)]; omega
    have q2 : (0 : Int) ≤ p := by omega
    have q3 : (p : Int) < N := by omega
    have q4 : p < N := by omega
    clear hp hpm hN hNp
    go_upto_region 10 with (first
      | (go_at_call 95
         refine HNu.out.mono ?_
         rintro e w2 ⟨hb, v, rfl, hown⟩
         rw [HNl.out] at hown
         obtain ⟨gn, cn, rfl, hgn, hgl⟩ := hown.form hl0
         have HO := Lib.hid hown
         have HGn := Lib.hid (⟨Nat.lt_of_lt_of_le HS1.out.2.2.lt hgn, hgl⟩ : w.heap.size + 1 < gn ∧ gn < w2.heap.size)
         have HR2 := Lib.hid (HS1.out.keep hb)
         have c2 : w2.cell? ⟨g, o, none⟩ = some (.string K) := by rw [← HKe.out]; exact (HW.out.below HR2.out.1 HW.out.lt).at_ 0 (by simp)
         clear y0 y1 y2 y3 y4 y5 yf z0 z1 z2 z3 z4 z5 zf c0
         obtain ⟨⟨y0, y1, y2⟩, ⟨y3, y4, y5⟩, yf⟩ := HR2.out.2.1.six
         obtain ⟨⟨z0, z1, z2⟩, ⟨z3, z4, z5⟩, zf⟩ := LAt.six HR2.out.2.2
         clear hb hown hgn hgl))
    have HQ0 : Hid (LAt w2 w.heap.size #[.string (mk L.name), .slice (some ⟨xw, 0, none⟩) 256 cw, .string (mk L.lower), .string (mk L.upper), .slice aC L.cls.length capC, .slice aE L.els.length capE] ∧ LAt w2 (w.heap.size + 1) zeroL ∧ Keep S w w2 ∧ LM S w2 { L with wt := putW L.wt (l.take 0) V } (.slice (some ⟨xw, 0, none⟩) 256 cw) (.slice aC L.cls.length capC) (.slice aE L.els.length capE) ∧ w2.heap[gn]? = w2.heap[gn]? ∧ w2.heap.size ≤ w2.heap.size) :=
      ⟨HR2.out.2.1, HR2.out.2.2, Keep.of_below HR2.out.1, by rw [List.take_zero, putW_nil]; exact HL.out.next HR2.out.1, rfl, Nat.le_refl _⟩
    clear y0 y1 y2 y3 y4 y5 yf z0 z1 z2 z3 z4 z5 zf c2
    go_wp2
    go_loopw [9] (fun i wr => ∃ q : Nat, q ≤ p ∧ i = .int .i64 q ∧ Hid (LAt wr w.heap.size #[.string (mk L.name), .slice (some ⟨xw, 0, none⟩) 256 cw, .string (mk L.lower), .string (mk L.upper), .slice aC L.cls.length capC, .slice aE L.els.length capE] ∧ LAt wr (w.heap.size + 1) zeroL ∧ Keep S w wr ∧ LM S wr { L with wt := putW L.wt (l.take q) V } (.slice (some ⟨xw, 0, none⟩) 256 cw) (.slice aC L.cls.length capC) (.slice aE L.els.length capE) ∧ wr.heap[gn]? = w2.heap[gn]? ∧ w2.heap.size ≤ wr.heap.size)) (fun i _ => p - (intOf i).toNat)
    case atStart => exact ⟨0, Nat.zero_le _, rfl, ⟨HQ0.out.1, HQ0.out.2.1, HQ0.out.2.2.1, HQ0.out.2.2.2.1, rfl, Nat.le_refl _⟩⟩
    case round =>
      obtain ⟨q, hq, rfl, HZ⟩ := hrel
      clear HQ0
      have p0 : (0 : Int) ≤ q := by omega
      by_cases hqp : q < p
      · have p1 : (q : Int) < p := by omega
        have p2 : (q : Int) < N := by omega
        have p3 : q < N := by omega
        have hql : q < l.length := by rw [HP.out]; omega
        have hpl : p < l.length := by rw [HP.out]; omega
        obtain ⟨ch, hch⟩ : ∃ ch, l[q] = ch := ⟨_, rfl⟩
        have hc256 : ch < 256 := by rw [← hch]; exact HBy.out.1 q hql (by rw [HP.out]; omega)
        have HCh := Lib.hid hch
        have k0 : wr.cell? ⟨gn, q, none⟩ = some (.int .i64 (ch : Int)) := by rw [World.cell?_of_block (w := w2) HZ.out.2.2.2.2.1, ← hch]; exact row_get HO.out q hql
        have k1 : wr.cell? ⟨gn, p, none⟩ = some (.int .i64 (V : Int)) := by rw [World.cell?_of_block (w := w2) HZ.out.2.2.2.2.1, ← show l[p] = V from Option.some.inj ((List.getElem?_eq_getElem hpl).symm.trans HV.out)]; exact row_get HO.out p hpl
        obtain ⟨hxS, hxl, hcw2, hxc, hxf⟩ := HZ.out.2.2.2.1.wat
        have hx1 := hxc ch hc256
        generalize { L with wt := putW L.wt (l.take q) V }.wt ch = old at hx1
        have hx2 := hxf ch
        have p4 : (ch : Int) < 256 := by omega
        have p5 : (0 : Int) ≤ ch := by omega
        have y1 := HZ.out.1.six.1.2.1
        have HXw : Hid (xw < w.heap.size) := HLt.out _ hxS
        have HXS := Lib.hid hxS
        clear hch hxc hxf hxl hcw2 hxS
        --B1(
        go_upto_region 13 with fail
        go_still_tail 13, (by kernel_rfl)
        change wpList _ _ _ _ _ wr.drew
        have hx3 : wr.drew.cell? ⟨xw, ch, none⟩ = some (.int .i64 old) := hx1
        have hx4 : wr.drew.frozen? ⟨xw, ch, none⟩ = false := hx2
        have HZ4 : Hid (LAt wr.drew w.heap.size #[.string (mk L.name), .slice (some ⟨xw, 0, none⟩) 256 cw, .string (mk L.lower), .string (mk L.upper), .slice aC L.cls.length capC, .slice aE L.els.length capE] ∧ LAt wr.drew (w.heap.size + 1) zeroL ∧ Keep S w wr.drew ∧ LM S wr.drew { L with wt := putW L.wt (l.take q) V } (.slice (some ⟨xw, 0, none⟩) 256 cw) (.slice aC L.cls.length capC) (.slice aE L.els.length capE) ∧ wr.drew.heap[gn]? = w2.heap[gn]? ∧ w2.heap.size ≤ wr.drew.heap.size) :=
          ⟨HZ.out.1, HZ.out.2.1, HZ.out.2.2.1.drew, HZ.out.2.2.2.1.next (Below.refl _ _).drew, HZ.out.2.2.2.2.1, HZ.out.2.2.2.2.2⟩
        clear k0 k1 hx1 hx2 y1 HZ
        generalize wr.drew = w4 at hx3 hx4 HZ4 ⊢
        go_wp2
        go_roundw
        case rel =>
          have hw := HZ4.out.2.2.2.1.weigh ch hc256 (V : Int)
          have hql : q < l.length := by rw [HP.out]; omega
          refine ⟨q + 1, by omega, by go_num, HZ4.out.1.apart _ (by have := HXw.out; omega), HZ4.out.2.1.apart _ (by have := HXw.out; omega), HZ4.out.2.2.1.put xw ch (.inl HXS.out) _, ?_, (Below.heap_setCell w4 ⟨xw, ch, none⟩ _ gn (by have h1 := HXw.out; have h2 := HGn.out.1; show gn ≠ xw; omega)).trans HZ4.out.2.2.2.2.1, by have := HZ4.out.2.2.2.2.2; simpa [World.setCell] using this⟩
          rw [List.take_succ_eq_append_getElem hql, ← putW_snoc, HCh.out]
          exact hw
        case measure => simp [intOf]; omega
        --B1)
      · obtain rfl : q = p := by omega
        obtain ⟨⟨y0, y1, y2⟩, ⟨y3, y4, y5⟩, yf⟩ := HZ.out.1.six
        obtain ⟨⟨z0, z1, z2⟩, ⟨z3, z4, z5⟩, zf⟩ := LAt.six HZ.out.2.1
        go_wp2
        exact bodyPost_ret (ret_loc2 Tryz.results55 _ _ (w.heap.size + 1) _ _ rfl (by simp) (by simp) (HZ.out.2.1.put6 _ _ _ _ _ _)) rfl (entR_ok HQ2.out rfl rfl rfl (HZ.out.2.2.1.put6 _ (by omega) _ _ _ _ _ _) ((HZ.out.2.2.2.1.same (fun b hb _ => put6_far _ _ b (by have := HLt.out b hb; omega) _ _ _ _ _ _)).more (grow_sub S w)) (Sl.mk' _ _ _) (Sl.mk' _ _ _) (Sl.mk' _ _ _))
theorem rchange_any (S : Nat → Prop) (g o c : Nat) (w : World) (L : PL) (W C E : Value) (h : LM S w L W C E) (hlt : ∀ b, S b → b < w.heap.size) (hsep : ¬ S g) (k : List UInt8) (r : List (List UInt8)) (hW : WR w g o (k :: r)) (hc : r.length + 1 ≤ c) (hr1 : 1 ≤ r.length) (hl : r.length ≤ 900000) (hs : ∀ y ∈ r, 0 < y.length ∧ y.length ≤ 1000000) (hF : Fit L) (hbad : badR true k (r.length + 1) = false) :
    Calls Tryz.prog 55 #[.agg #[.string (mk L.name), W, .string (mk L.lower), .string (mk L.upper), C, E], .slice (some ⟨g, o, none⟩) (r.length + 1) c] w (EntR S w (changeR L k r)) := by
  unfold badR at hbad
  by_cases c1 : k = kCls
  · exact rchange_cls S g o c w L W C E h hlt hsep k r hW hc hr1 hl hs hF c1
  by_cases c2 : k = kLow
  · have e1 : leastT kLow = (3, false) := by decide
    subst c2
    rw [e1] at hbad
    exact rchange_low S g o c w L W C E h hlt hsep kLow r hW hc hr1 hl hs hF (by simp at hbad; omega) c1 rfl
  by_cases c3 : k = kUp
  · have e1 : leastT kUp = (3, false) := by decide
    subst c3
    rw [e1] at hbad
    exact rchange_up S g o c w L W C E h hlt hsep kUp r hW hc hr1 hl hs hF (by simp at hbad; omega) c1 c2 rfl
  by_cases c4 : k = kElm
  · have e1 : leastT kElm = (4, false) := by decide
    subst c4
    rw [e1] at hbad
    exact rchange_elm S g o c w L W C E h hlt hsep kElm r hW hc hr1 hl hs hF (by simp at hbad; omega) c1 c2 c3 rfl
  refine rchange_wei S g o c w L W C E h hlt hsep k r hW hc hr1 hl hs hF ?_ c1 c2 c3 c4
  by_cases c5 : k = kWei
  · have e1 : leastT kWei = (3, true) := by decide
    subst c5
    rw [e1] at hbad
    simp at hbad
    omega
  by_cases c6 : k = kLoc
  · subst c6
    simp at hbad
  · exfalso
    have e1 : leastT k = (0, false) := by unfold leastT; simp [c1, c2, c3, c4, c5, c6]
    rw [e1] at hbad
    simp at hbad
end Go.Proofs.YticfhbffoajgcaaGreatDoor
/- The reference's entry. (Written by gen_lrp6.py.) -/
set_option linter.unusedVariables false
namespace Go.Proofs.YticfhbffoajgcaaGreatDoor
open Go.RowKit

set_option maxRecDepth 100000 in
set_option maxHeartbeats 8000000 in
theorem rentry_bad1 (S : Nat → Prop) (g o c : Nat) (w : World) (L : PL) (W C E : Value) (h : LM S w L W C E) (hlt : ∀ b, S b → b < w.heap.size) (hsep : ¬ S g) (k : List UInt8) (r : List (List UInt8)) (hW : WR w g o (k :: r)) (hc : r.length + 1 ≤ c) (hl : r.length ≤ 900000) (hs : ∀ y ∈ r, 0 < y.length ∧ y.length ≤ 1000000) (hF : Fit L) (b : Bool) (d1 : (((leastT k).1 : Int) == 0) = true) :
    Calls Tryz.prog 33 #[.agg #[.string (mk L.name), W, .string (mk L.lower), .string (mk L.upper), C, E], .slice (some ⟨g, o, none⟩) (r.length + 1) c, .bool b] w (EntR S w (.error 1)) := by
  obtain ⟨aC, capC, rfl⟩ := own_form h.cls
  obtain ⟨aE, capE, rfl⟩ := own_form h.els
  obtain ⟨xw, ⟨cw, ws, rfl, hcw, hxw, hxf⟩, hxS, hxC, hxE⟩ := h.wts
  have HL := Lib.hid h
  have hS := RB.start w #[.string (mk L.name), .slice (some ⟨xw, 0, none⟩) 256 cw, .string (mk L.lower), .string (mk L.upper), .slice aC L.cls.length capC, .slice aE L.els.length capE]
  have HW := Lib.hid hW
  have HX := Lib.hid hs
  have HLt := Lib.hid hlt
  have HSep := Lib.hid hsep
  have HF := Lib.hid hF
  have hsz := hW.lt
  clear h hs hW hlt hsep hxw hxf hxS hxC hxE hF
  unfold VL2 zeroL at hS
  have HLe := Lib.hid (fun w => rleast_any (mk k) w)
  rw [show (mk k).data.toList = k from rfl] at HLe
  generalize (leastT k).1 = ln at *
  generalize (leastT k).2 = mr at *
  generalize hKe : mk k = K at *
  have HKe := Lib.hid hKe
  clear hKe
  obtain ⟨nn, hnn⟩ : ∃ nn, r.length + 1 = nn := ⟨_, rfl⟩
  have HNn := Lib.hid hnn
  have g0 : (0 : Int) < nn := by omega
  have g4 : 0 < nn := by omega
  rw [hnn]
  clear hnn hc hl
  go_enter Tryz.func33, Tryz.ntmps33
  go_upto_region 1 with fail
  generalize ((w.alloc (.cells #[.string (mk L.name), .slice (some ⟨xw, 0, none⟩) 256 cw, .string (mk L.lower), .string (mk L.upper), .slice aC L.cls.length capC, .slice aE L.els.length capE] 26)).alloc (.cells #[.string ⟨#[]⟩, .slice none 0 0, .string ⟨#[]⟩, .string ⟨#[]⟩, .slice none 0 0, .slice none 0 0] 26)) = w1 at hS ⊢
  have c0 : w1.cell? ⟨g, o, none⟩ = some (.string K) := by rw [← HKe.out]; exact (HW.out.below hS.1 HW.out.lt).at_ 0 (by simp)
  have HS1 := Lib.hid hS
  obtain ⟨⟨y0, y1, y2⟩, ⟨y3, y4, y5⟩, yf⟩ := hS.2.1.six
  obtain ⟨⟨z0, z1, z2⟩, ⟨z3, z4, z5⟩, zf⟩ := LAt.six hS.2.2
  clear hS
  go_wp2_with (first | (go_at_call 54; refine (HLe.out _).mono ?_; rintro e w2 ⟨rfl, rfl⟩))
  exact bodyPost_ret (ret_loc2 Tryz.results33 _ _ (w.heap.size + 1) _ _ rfl (by simp) (by simp) (HS1.out.2.2.put6 _ _ _ _ _ _)) rfl (entR_err rfl (Keep.of_below (below_put6 HS1.out.1 _ (by omega) _ _ _ _ _ _)) (Sl.mk' _ _ _) (Sl.mk' _ _ _) (Sl.mk' _ _ _))
set_option maxRecDepth 100000 in
set_option maxHeartbeats 8000000 in
theorem rentry_bad2a (S : Nat → Prop) (g o c : Nat) (w : World) (L : PL) (W C E : Value) (h : LM S w L W C E) (hlt : ∀ b, S b → b < w.heap.size) (hsep : ¬ S g) (k : List UInt8) (r : List (List UInt8)) (hW : WR w g o (k :: r)) (hc : r.length + 1 ≤ c) (hl : r.length ≤ 900000) (hs : ∀ y ∈ r, 0 < y.length ∧ y.length ≤ 1000000) (hF : Fit L) (d1 : (((leastT k).1 : Int) == 0) = false) (e_loc : ((mk k).toList == [108, 111, 99, 97, 108, 101]) = false) :
    Calls Tryz.prog 33 #[.agg #[.string (mk L.name), W, .string (mk L.lower), .string (mk L.upper), C, E], .slice (some ⟨g, o, none⟩) (r.length + 1) c, .bool true] w (EntR S w (.error 1)) := by
  obtain ⟨aC, capC, rfl⟩ := own_form h.cls
  obtain ⟨aE, capE, rfl⟩ := own_form h.els
  obtain ⟨xw, ⟨cw, ws, rfl, hcw, hxw, hxf⟩, hxS, hxC, hxE⟩ := h.wts
  have HL := Lib.hid h
  have hS := RB.start w #[.string (mk L.name), .slice (some ⟨xw, 0, none⟩) 256 cw, .string (mk L.lower), .string (mk L.upper), .slice aC L.cls.length capC, .slice aE L.els.length capE]
  have HW := Lib.hid hW
  have HX := Lib.hid hs
  have HLt := Lib.hid hlt
  have HSep := Lib.hid hsep
  have HF := Lib.hid hF
  have hsz := hW.lt
  clear h hs hW hlt hsep hxw hxf hxS hxC hxE hF
  unfold VL2 zeroL at hS
  have HLe := Lib.hid (fun w => rleast_any (mk k) w)
  rw [show (mk k).data.toList = k from rfl] at HLe
  generalize (leastT k).1 = ln at *
  generalize (leastT k).2 = mr at *
  generalize hKe : mk k = K at *
  have HKe := Lib.hid hKe
  clear hKe
  obtain ⟨nn, hnn⟩ : ∃ nn, r.length + 1 = nn := ⟨_, rfl⟩
  have HNn := Lib.hid hnn
  have g0 : (0 : Int) < nn := by omega
  have g4 : 0 < nn := by omega
  rw [hnn]
  clear hnn hc hl
  go_enter Tryz.func33, Tryz.ntmps33
  go_upto_region 1 with fail
  generalize ((w.alloc (.cells #[.string (mk L.name), .slice (some ⟨xw, 0, none⟩) 256 cw, .string (mk L.lower), .string (mk L.upper), .slice aC L.cls.length capC, .slice aE L.els.length capE] 26)).alloc (.cells #[.string ⟨#[]⟩, .slice none 0 0, .string ⟨#[]⟩, .string ⟨#[]⟩, .slice none 0 0, .slice none 0 0] 26)) = w1 at hS ⊢
  have c0 : w1.cell? ⟨g, o, none⟩ = some (.string K) := by rw [← HKe.out]; exact (HW.out.below hS.1 HW.out.lt).at_ 0 (by simp)
  have HS1 := Lib.hid hS
  obtain ⟨⟨y0, y1, y2⟩, ⟨y3, y4, y5⟩, yf⟩ := hS.2.1.six
  obtain ⟨⟨z0, z1, z2⟩, ⟨z3, z4, z5⟩, zf⟩ := LAt.six hS.2.2
  clear hS
  go_wp2_with (first | (go_at_call 54; refine (HLe.out _).mono ?_; rintro e w2 ⟨rfl, rfl⟩))
  exact bodyPost_ret (ret_loc2 Tryz.results33 _ _ (w.heap.size + 1) _ _ rfl (by simp) (by simp) (HS1.out.2.2.put6 _ _ _ _ _ _)) rfl (entR_err rfl (Keep.of_below (below_put6 HS1.out.1 _ (by omega) _ _ _ _ _ _)) (Sl.mk' _ _ _) (Sl.mk' _ _ _) (Sl.mk' _ _ _))
set_option maxRecDepth 100000 in
set_option maxHeartbeats 8000000 in
theorem rentry_bad2b (S : Nat → Prop) (g o c : Nat) (w : World) (L : PL) (W C E : Value) (h : LM S w L W C E) (hlt : ∀ b, S b → b < w.heap.size) (hsep : ¬ S g) (k : List UInt8) (r : List (List UInt8)) (hW : WR w g o (k :: r)) (hc : r.length + 1 ≤ c) (hl : r.length ≤ 900000) (hs : ∀ y ∈ r, 0 < y.length ∧ y.length ≤ 1000000) (hF : Fit L) (d1 : (((leastT k).1 : Int) == 0) = false) (e_loc : ((mk k).toList == [108, 111, 99, 97, 108, 101]) = true) :
    Calls Tryz.prog 33 #[.agg #[.string (mk L.name), W, .string (mk L.lower), .string (mk L.upper), C, E], .slice (some ⟨g, o, none⟩) (r.length + 1) c, .bool false] w (EntR S w (.error 1)) := by
  obtain ⟨aC, capC, rfl⟩ := own_form h.cls
  obtain ⟨aE, capE, rfl⟩ := own_form h.els
  obtain ⟨xw, ⟨cw, ws, rfl, hcw, hxw, hxf⟩, hxS, hxC, hxE⟩ := h.wts
  have HL := Lib.hid h
  have hS := RB.start w #[.string (mk L.name), .slice (some ⟨xw, 0, none⟩) 256 cw, .string (mk L.lower), .string (mk L.upper), .slice aC L.cls.length capC, .slice aE L.els.length capE]
  have HW := Lib.hid hW
  have HX := Lib.hid hs
  have HLt := Lib.hid hlt
  have HSep := Lib.hid hsep
  have HF := Lib.hid hF
  have hsz := hW.lt
  clear h hs hW hlt hsep hxw hxf hxS hxC hxE hF
  unfold VL2 zeroL at hS
  have HLe := Lib.hid (fun w => rleast_any (mk k) w)
  rw [show (mk k).data.toList = k from rfl] at HLe
  generalize (leastT k).1 = ln at *
  generalize (leastT k).2 = mr at *
  generalize hKe : mk k = K at *
  have HKe := Lib.hid hKe
  clear hKe
  obtain ⟨nn, hnn⟩ : ∃ nn, r.length + 1 = nn := ⟨_, rfl⟩
  have HNn := Lib.hid hnn
  have g0 : (0 : Int) < nn := by omega
  have g4 : 0 < nn := by omega
  rw [hnn]
  clear hnn hc hl
  go_enter Tryz.func33, Tryz.ntmps33
  go_upto_region 1 with fail
  generalize ((w.alloc (.cells #[.string (mk L.name), .slice (some ⟨xw, 0, none⟩) 256 cw, .string (mk L.lower), .string (mk L.upper), .slice aC L.cls.length capC, .slice aE L.els.length capE] 26)).alloc (.cells #[.string ⟨#[]⟩, .slice none 0 0, .string ⟨#[]⟩, .string ⟨#[]⟩, .slice none 0 0, .slice none 0 0] 26)) = w1 at hS ⊢
  have c0 : w1.cell? ⟨g, o, none⟩ = some (.string K) := by rw [← HKe.out]; exact (HW.out.below hS.1 HW.out.lt).at_ 0 (by simp)
  have HS1 := Lib.hid hS
  obtain ⟨⟨y0, y1, y2⟩, ⟨y3, y4, y5⟩, yf⟩ := hS.2.1.six
  obtain ⟨⟨z0, z1, z2⟩, ⟨z3, z4, z5⟩, zf⟩ := LAt.six hS.2.2
  clear hS
  go_wp2_with (first | (go_at_call 54; refine (HLe.out _).mono ?_; rintro e w2 ⟨rfl, rfl⟩))
  exact bodyPost_ret (ret_loc2 Tryz.results33 _ _ (w.heap.size + 1) _ _ rfl (by simp) (by simp) (HS1.out.2.2.put6 _ _ _ _ _ _)) rfl (entR_err rfl (Keep.of_below (below_put6 HS1.out.1 _ (by omega) _ _ _ _ _ _)) (Sl.mk' _ _ _) (Sl.mk' _ _ _) (Sl.mk' _ _ _))
set_option maxRecDepth 100000 in
set_option maxHeartbeats 8000000 in
theorem rentry_bad3a (S : Nat → Prop) (g o c : Nat) (w : World) (L : PL) (W C E : Value) (h : LM S w L W C E) (hlt : ∀ b, S b → b < w.heap.size) (hsep : ¬ S g) (k : List UInt8) (r : List (List UInt8)) (hW : WR w g o (k :: r)) (hc : r.length + 1 ≤ c) (hl : r.length ≤ 900000) (hs : ∀ y ∈ r, 0 < y.length ∧ y.length ≤ 1000000) (hF : Fit L) (d1 : (((leastT k).1 : Int) == 0) = false) (d3 : ((r.length + 1 : Nat) : Int) < ((leastT k).1 : Int)) (e_loc : ((mk k).toList == [108, 111, 99, 97, 108, 101]) = true) :
    Calls Tryz.prog 33 #[.agg #[.string (mk L.name), W, .string (mk L.lower), .string (mk L.upper), C, E], .slice (some ⟨g, o, none⟩) (r.length + 1) c, .bool true] w (EntR S w (.error 1)) := by
  obtain ⟨aC, capC, rfl⟩ := own_form h.cls
  obtain ⟨aE, capE, rfl⟩ := own_form h.els
  obtain ⟨xw, ⟨cw, ws, rfl, hcw, hxw, hxf⟩, hxS, hxC, hxE⟩ := h.wts
  have HL := Lib.hid h
  have hS := RB.start w #[.string (mk L.name), .slice (some ⟨xw, 0, none⟩) 256 cw, .string (mk L.lower), .string (mk L.upper), .slice aC L.cls.length capC, .slice aE L.els.length capE]
  have HW := Lib.hid hW
  have HX := Lib.hid hs
  have HLt := Lib.hid hlt
  have HSep := Lib.hid hsep
  have HF := Lib.hid hF
  have hsz := hW.lt
  clear h hs hW hlt hsep hxw hxf hxS hxC hxE hF
  unfold VL2 zeroL at hS
  have HLe := Lib.hid (fun w => rleast_any (mk k) w)
  rw [show (mk k).data.toList = k from rfl] at HLe
  generalize (leastT k).1 = ln at *
  generalize (leastT k).2 = mr at *
  generalize hKe : mk k = K at *
  have HKe := Lib.hid hKe
  clear hKe
  obtain ⟨nn, hnn⟩ : ∃ nn, r.length + 1 = nn := ⟨_, rfl⟩
  have HNn := Lib.hid hnn
  have g0 : (0 : Int) < nn := by omega
  have g4 : 0 < nn := by omega
  rw [hnn] at ⊢ d3
  have d3n : nn < ln := by omega
  clear hnn hc hl
  go_enter Tryz.func33, Tryz.ntmps33
  go_upto_region 1 with fail
  generalize ((w.alloc (.cells #[.string (mk L.name), .slice (some ⟨xw, 0, none⟩) 256 cw, .string (mk L.lower), .string (mk L.upper), .slice aC L.cls.length capC, .slice aE L.els.length capE] 26)).alloc (.cells #[.string ⟨#[]⟩, .slice none 0 0, .string ⟨#[]⟩, .string ⟨#[]⟩, .slice none 0 0, .slice none 0 0] 26)) = w1 at hS ⊢
  have c0 : w1.cell? ⟨g, o, none⟩ = some (.string K) := by rw [← HKe.out]; exact (HW.out.below hS.1 HW.out.lt).at_ 0 (by simp)
  have HS1 := Lib.hid hS
  obtain ⟨⟨y0, y1, y2⟩, ⟨y3, y4, y5⟩, yf⟩ := hS.2.1.six
  obtain ⟨⟨z0, z1, z2⟩, ⟨z3, z4, z5⟩, zf⟩ := LAt.six hS.2.2
  clear hS
  go_wp2_with (first | (go_at_call 54; refine (HLe.out _).mono ?_; rintro e w2 ⟨rfl, rfl⟩))
  exact bodyPost_ret (ret_loc2 Tryz.results33 _ _ (w.heap.size + 1) _ _ rfl (by simp) (by simp) (HS1.out.2.2.put6 _ _ _ _ _ _)) rfl (entR_err rfl (Keep.of_below (below_put6 HS1.out.1 _ (by omega) _ _ _ _ _ _)) (Sl.mk' _ _ _) (Sl.mk' _ _ _) (Sl.mk' _ _ _))
set_option maxRecDepth 100000 in
set_option maxHeartbeats 8000000 in
theorem rentry_bad3b (S : Nat → Prop) (g o c : Nat) (w : World) (L : PL) (W C E : Value) (h : LM S w L W C E) (hlt : ∀ b, S b → b < w.heap.size) (hsep : ¬ S g) (k : List UInt8) (r : List (List UInt8)) (hW : WR w g o (k :: r)) (hc : r.length + 1 ≤ c) (hl : r.length ≤ 900000) (hs : ∀ y ∈ r, 0 < y.length ∧ y.length ≤ 1000000) (hF : Fit L) (d1 : (((leastT k).1 : Int) == 0) = false) (d3 : ((r.length + 1 : Nat) : Int) < ((leastT k).1 : Int)) (e_loc : ((mk k).toList == [108, 111, 99, 97, 108, 101]) = false) :
    Calls Tryz.prog 33 #[.agg #[.string (mk L.name), W, .string (mk L.lower), .string (mk L.upper), C, E], .slice (some ⟨g, o, none⟩) (r.length + 1) c, .bool false] w (EntR S w (.error 1)) := by
  obtain ⟨aC, capC, rfl⟩ := own_form h.cls
  obtain ⟨aE, capE, rfl⟩ := own_form h.els
  obtain ⟨xw, ⟨cw, ws, rfl, hcw, hxw, hxf⟩, hxS, hxC, hxE⟩ := h.wts
  have HL := Lib.hid h
  have hS := RB.start w #[.string (mk L.name), .slice (some ⟨xw, 0, none⟩) 256 cw, .string (mk L.lower), .string (mk L.upper), .slice aC L.cls.length capC, .slice aE L.els.length capE]
  have HW := Lib.hid hW
  have HX := Lib.hid hs
  have HLt := Lib.hid hlt
  have HSep := Lib.hid hsep
  have HF := Lib.hid hF
  have hsz := hW.lt
  clear h hs hW hlt hsep hxw hxf hxS hxC hxE hF
  unfold VL2 zeroL at hS
  have HLe := Lib.hid (fun w => rleast_any (mk k) w)
  rw [show (mk k).data.toList = k from rfl] at HLe
  generalize (leastT k).1 = ln at *
  generalize (leastT k).2 = mr at *
  generalize hKe : mk k = K at *
  have HKe := Lib.hid hKe
  clear hKe
  obtain ⟨nn, hnn⟩ : ∃ nn, r.length + 1 = nn := ⟨_, rfl⟩
  have HNn := Lib.hid hnn
  have g0 : (0 : Int) < nn := by omega
  have g4 : 0 < nn := by omega
  rw [hnn] at ⊢ d3
  have d3n : nn < ln := by omega
  clear hnn hc hl
  go_enter Tryz.func33, Tryz.ntmps33
  go_upto_region 1 with fail
  generalize ((w.alloc (.cells #[.string (mk L.name), .slice (some ⟨xw, 0, none⟩) 256 cw, .string (mk L.lower), .string (mk L.upper), .slice aC L.cls.length capC, .slice aE L.els.length capE] 26)).alloc (.cells #[.string ⟨#[]⟩, .slice none 0 0, .string ⟨#[]⟩, .string ⟨#[]⟩, .slice none 0 0, .slice none 0 0] 26)) = w1 at hS ⊢
  have c0 : w1.cell? ⟨g, o, none⟩ = some (.string K) := by rw [← HKe.out]; exact (HW.out.below hS.1 HW.out.lt).at_ 0 (by simp)
  have HS1 := Lib.hid hS
  obtain ⟨⟨y0, y1, y2⟩, ⟨y3, y4, y5⟩, yf⟩ := hS.2.1.six
  obtain ⟨⟨z0, z1, z2⟩, ⟨z3, z4, z5⟩, zf⟩ := LAt.six hS.2.2
  clear hS
  go_wp2_with (first | (go_at_call 54; refine (HLe.out _).mono ?_; rintro e w2 ⟨rfl, rfl⟩))
  exact bodyPost_ret (ret_loc2 Tryz.results33 _ _ (w.heap.size + 1) _ _ rfl (by simp) (by simp) (HS1.out.2.2.put6 _ _ _ _ _ _)) rfl (entR_err rfl (Keep.of_below (below_put6 HS1.out.1 _ (by omega) _ _ _ _ _ _)) (Sl.mk' _ _ _) (Sl.mk' _ _ _) (Sl.mk' _ _ _))
set_option maxRecDepth 100000 in
set_option maxHeartbeats 8000000 in
theorem rentry_bad4a (S : Nat → Prop) (g o c : Nat) (w : World) (L : PL) (W C E : Value) (h : LM S w L W C E) (hlt : ∀ b, S b → b < w.heap.size) (hsep : ¬ S g) (k : List UInt8) (r : List (List UInt8)) (hW : WR w g o (k :: r)) (hc : r.length + 1 ≤ c) (hl : r.length ≤ 900000) (hs : ∀ y ∈ r, 0 < y.length ∧ y.length ≤ 1000000) (hF : Fit L) (d1 : (((leastT k).1 : Int) == 0) = false) (d3 : ¬ ((r.length + 1 : Nat) : Int) < ((leastT k).1 : Int)) (d4 : ((leastT k).1 : Int) < ((r.length + 1 : Nat) : Int)) (d5 : (leastT k).2 = false) (e_loc : ((mk k).toList == [108, 111, 99, 97, 108, 101]) = true) :
    Calls Tryz.prog 33 #[.agg #[.string (mk L.name), W, .string (mk L.lower), .string (mk L.upper), C, E], .slice (some ⟨g, o, none⟩) (r.length + 1) c, .bool true] w (EntR S w (.error 1)) := by
  obtain ⟨aC, capC, rfl⟩ := own_form h.cls
  obtain ⟨aE, capE, rfl⟩ := own_form h.els
  obtain ⟨xw, ⟨cw, ws, rfl, hcw, hxw, hxf⟩, hxS, hxC, hxE⟩ := h.wts
  have HL := Lib.hid h
  have hS := RB.start w #[.string (mk L.name), .slice (some ⟨xw, 0, none⟩) 256 cw, .string (mk L.lower), .string (mk L.upper), .slice aC L.cls.length capC, .slice aE L.els.length capE]
  have HW := Lib.hid hW
  have HX := Lib.hid hs
  have HLt := Lib.hid hlt
  have HSep := Lib.hid hsep
  have HF := Lib.hid hF
  have hsz := hW.lt
  clear h hs hW hlt hsep hxw hxf hxS hxC hxE hF
  unfold VL2 zeroL at hS
  have HLe := Lib.hid (fun w => rleast_any (mk k) w)
  rw [show (mk k).data.toList = k from rfl] at HLe
  generalize (leastT k).1 = ln at *
  generalize (leastT k).2 = mr at *
  generalize hKe : mk k = K at *
  have HKe := Lib.hid hKe
  clear hKe
  obtain ⟨nn, hnn⟩ : ∃ nn, r.length + 1 = nn := ⟨_, rfl⟩
  have HNn := Lib.hid hnn
  have g0 : (0 : Int) < nn := by omega
  have g4 : 0 < nn := by omega
  rw [hnn] at ⊢ d3 d4
  have d3n : ¬ nn < ln := by omega
  have d4n : ln < nn := by omega
  clear hnn hc hl
  go_enter Tryz.func33, Tryz.ntmps33
  go_upto_region 1 with fail
  generalize ((w.alloc (.cells #[.string (mk L.name), .slice (some ⟨xw, 0, none⟩) 256 cw, .string (mk L.lower), .string (mk L.upper), .slice aC L.cls.length capC, .slice aE L.els.length capE] 26)).alloc (.cells #[.string ⟨#[]⟩, .slice none 0 0, .string ⟨#[]⟩, .string ⟨#[]⟩, .slice none 0 0, .slice none 0 0] 26)) = w1 at hS ⊢
  have c0 : w1.cell? ⟨g, o, none⟩ = some (.string K) := by rw [← HKe.out]; exact (HW.out.below hS.1 HW.out.lt).at_ 0 (by simp)
  have HS1 := Lib.hid hS
  obtain ⟨⟨y0, y1, y2⟩, ⟨y3, y4, y5⟩, yf⟩ := hS.2.1.six
  obtain ⟨⟨z0, z1, z2⟩, ⟨z3, z4, z5⟩, zf⟩ := LAt.six hS.2.2
  clear hS
  subst d5
  go_wp2_with (first | (go_at_call 54; refine (HLe.out _).mono ?_; rintro e w2 ⟨rfl, rfl⟩))
  exact bodyPost_ret (ret_loc2 Tryz.results33 _ _ (w.heap.size + 1) _ _ rfl (by simp) (by simp) (HS1.out.2.2.put6 _ _ _ _ _ _)) rfl (entR_err rfl (Keep.of_below (below_put6 HS1.out.1 _ (by omega) _ _ _ _ _ _)) (Sl.mk' _ _ _) (Sl.mk' _ _ _) (Sl.mk' _ _ _))
set_option maxRecDepth 100000 in
set_option maxHeartbeats 8000000 in
theorem rentry_bad4b (S : Nat → Prop) (g o c : Nat) (w : World) (L : PL) (W C E : Value) (h : LM S w L W C E) (hlt : ∀ b, S b → b < w.heap.size) (hsep : ¬ S g) (k : List UInt8) (r : List (List UInt8)) (hW : WR w g o (k :: r)) (hc : r.length + 1 ≤ c) (hl : r.length ≤ 900000) (hs : ∀ y ∈ r, 0 < y.length ∧ y.length ≤ 1000000) (hF : Fit L) (d1 : (((leastT k).1 : Int) == 0) = false) (d3 : ¬ ((r.length + 1 : Nat) : Int) < ((leastT k).1 : Int)) (d4 : ((leastT k).1 : Int) < ((r.length + 1 : Nat) : Int)) (d5 : (leastT k).2 = false) (e_loc : ((mk k).toList == [108, 111, 99, 97, 108, 101]) = false) :
    Calls Tryz.prog 33 #[.agg #[.string (mk L.name), W, .string (mk L.lower), .string (mk L.upper), C, E], .slice (some ⟨g, o, none⟩) (r.length + 1) c, .bool false] w (EntR S w (.error 1)) := by
  obtain ⟨aC, capC, rfl⟩ := own_form h.cls
  obtain ⟨aE, capE, rfl⟩ := own_form h.els
  obtain ⟨xw, ⟨cw, ws, rfl, hcw, hxw, hxf⟩, hxS, hxC, hxE⟩ := h.wts
  have HL := Lib.hid h
  have hS := RB.start w #[.string (mk L.name), .slice (some ⟨xw, 0, none⟩) 256 cw, .string (mk L.lower), .string (mk L.upper), .slice aC L.cls.length capC, .slice aE L.els.length capE]
  have HW := Lib.hid hW
  have HX := Lib.hid hs
  have HLt := Lib.hid hlt
  have HSep := Lib.hid hsep
  have HF := Lib.hid hF
  have hsz := hW.lt
  clear h hs hW hlt hsep hxw hxf hxS hxC hxE hF
  unfold VL2 zeroL at hS
  have HLe := Lib.hid (fun w => rleast_any (mk k) w)
  rw [show (mk k).data.toList = k from rfl] at HLe
  generalize (leastT k).1 = ln at *
  generalize (leastT k).2 = mr at *
  generalize hKe : mk k = K at *
  have HKe := Lib.hid hKe
  clear hKe
  obtain ⟨nn, hnn⟩ : ∃ nn, r.length + 1 = nn := ⟨_, rfl⟩
  have HNn := Lib.hid hnn
  have g0 : (0 : Int) < nn := by omega
  have g4 : 0 < nn := by omega
  rw [hnn] at ⊢ d3 d4
  have d3n : ¬ nn < ln := by omega
  have d4n : ln < nn := by omega
  clear hnn hc hl
  go_enter Tryz.func33, Tryz.ntmps33
  go_upto_region 1 with fail
  generalize ((w.alloc (.cells #[.string (mk L.name), .slice (some ⟨xw, 0, none⟩) 256 cw, .string (mk L.lower), .string (mk L.upper), .slice aC L.cls.length capC, .slice aE L.els.length capE] 26)).alloc (.cells #[.string ⟨#[]⟩, .slice none 0 0, .string ⟨#[]⟩, .string ⟨#[]⟩, .slice none 0 0, .slice none 0 0] 26)) = w1 at hS ⊢
  have c0 : w1.cell? ⟨g, o, none⟩ = some (.string K) := by rw [← HKe.out]; exact (HW.out.below hS.1 HW.out.lt).at_ 0 (by simp)
  have HS1 := Lib.hid hS
  obtain ⟨⟨y0, y1, y2⟩, ⟨y3, y4, y5⟩, yf⟩ := hS.2.1.six
  obtain ⟨⟨z0, z1, z2⟩, ⟨z3, z4, z5⟩, zf⟩ := LAt.six hS.2.2
  clear hS
  subst d5
  go_wp2_with (first | (go_at_call 54; refine (HLe.out _).mono ?_; rintro e w2 ⟨rfl, rfl⟩))
  exact bodyPost_ret (ret_loc2 Tryz.results33 _ _ (w.heap.size + 1) _ _ rfl (by simp) (by simp) (HS1.out.2.2.put6 _ _ _ _ _ _)) rfl (entR_err rfl (Keep.of_below (below_put6 HS1.out.1 _ (by omega) _ _ _ _ _ _)) (Sl.mk' _ _ _) (Sl.mk' _ _ _) (Sl.mk' _ _ _))
set_option maxRecDepth 100000 in
set_option maxHeartbeats 8000000 in
theorem rentry_chg1 (S : Nat → Prop) (g o c : Nat) (w : World) (L : PL) (W C E : Value) (h : LM S w L W C E) (hlt : ∀ b, S b → b < w.heap.size) (hsep : ¬ S g) (k : List UInt8) (r : List (List UInt8)) (hW : WR w g o (k :: r)) (hc : r.length + 1 ≤ c) (hl : r.length ≤ 900000) (hs : ∀ y ∈ r, 0 < y.length ∧ y.length ≤ 1000000) (hF : Fit L) (d1 : (((leastT k).1 : Int) == 0) = false) (d3 : ¬ ((r.length + 1 : Nat) : Int) < ((leastT k).1 : Int)) (d4 : ¬ ((leastT k).1 : Int) < ((r.length + 1 : Nat) : Int)) (e_loc : ((mk k).toList == [108, 111, 99, 97, 108, 101]) = false) (hr1 : 1 ≤ r.length) (hbad : badR true k (r.length + 1) = false) :
    Calls Tryz.prog 33 #[.agg #[.string (mk L.name), W, .string (mk L.lower), .string (mk L.upper), C, E], .slice (some ⟨g, o, none⟩) (r.length + 1) c, .bool false] w (EntR S w (changeR L k r)) := by
  obtain ⟨aC, capC, rfl⟩ := own_form h.cls
  obtain ⟨aE, capE, rfl⟩ := own_form h.els
  obtain ⟨xw, ⟨cw, ws, rfl, hcw, hxw, hxf⟩, hxS, hxC, hxE⟩ := h.wts
  have HL := Lib.hid h
  have hsep0 := hsep
  have hs0 := hs
  have hF0 := hF
  have hS := RB.start w #[.string (mk L.name), .slice (some ⟨xw, 0, none⟩) 256 cw, .string (mk L.lower), .string (mk L.upper), .slice aC L.cls.length capC, .slice aE L.els.length capE]
  have HW := Lib.hid hW
  have HX := Lib.hid hs
  have HLt := Lib.hid hlt
  have HSep := Lib.hid hsep
  have HF := Lib.hid hF
  have hsz := hW.lt
  clear h hs hW hlt hsep hxw hxf hxS hxC hxE hF
  unfold VL2 zeroL at hS
  have HCh := Lib.hid (fun w W C E h hlt hW => rchange_any S g o c w L W C E h hlt hsep0 k r hW hc hr1 hl hs0 hF0 hbad)
  have HLe := Lib.hid (fun w => rleast_any (mk k) w)
  rw [show (mk k).data.toList = k from rfl] at HLe
  generalize (leastT k).1 = ln at *
  generalize (leastT k).2 = mr at *
  clear hsep0 hs0 hF0 hbad
  generalize hKe : mk k = K at *
  have HKe := Lib.hid hKe
  clear hKe
  obtain ⟨nn, hnn⟩ : ∃ nn, r.length + 1 = nn := ⟨_, rfl⟩
  have HNn := Lib.hid hnn
  have g0 : (0 : Int) < nn := by omega
  have g4 : 0 < nn := by omega
  rw [hnn] at ⊢ d3 d4
  have d3n : ¬ nn < ln := by omega
  have d4n : ¬ ln < nn := by omega
  clear hnn hc hl
  go_enter Tryz.func33, Tryz.ntmps33
  go_upto_region 1 with fail
  generalize ((w.alloc (.cells #[.string (mk L.name), .slice (some ⟨xw, 0, none⟩) 256 cw, .string (mk L.lower), .string (mk L.upper), .slice aC L.cls.length capC, .slice aE L.els.length capE] 26)).alloc (.cells #[.string ⟨#[]⟩, .slice none 0 0, .string ⟨#[]⟩, .string ⟨#[]⟩, .slice none 0 0, .slice none 0 0] 26)) = w1 at hS ⊢
  have c0 : w1.cell? ⟨g, o, none⟩ = some (.string K) := by rw [← HKe.out]; exact (HW.out.below hS.1 HW.out.lt).at_ 0 (by simp)
  have HS1 := Lib.hid hS
  obtain ⟨⟨y0, y1, y2⟩, ⟨y3, y4, y5⟩, yf⟩ := hS.2.1.six
  obtain ⟨⟨z0, z1, z2⟩, ⟨z3, z4, z5⟩, zf⟩ := LAt.six hS.2.2
  clear hS
  have HCa := Lib.hid (HCh.out w1 (.slice (some ⟨xw, 0, none⟩) 256 cw) (.slice aC L.cls.length capC) (.slice aE L.els.length capE) (HL.out.next HS1.out.1) (fun b hb => Nat.lt_of_lt_of_le (HLt.out b hb) HS1.out.1.size) (HW.out.below HS1.out.1 HW.out.lt))
  rw [HNn.out] at HCa
  clear HCh
  go_wp2_with (first
    | (go_at_call 54; refine (HLe.out _).mono ?_; rintro e w2 ⟨rfl, rfl⟩)
    | (go_at_call 55
       refine HCa.out.mono ?_
       rintro e w2 he
       obtain ⟨s0, s2, s3, pW, pC, pE, nW, cW, nC, cC, nE, cE, rfl, hz, hfin⟩ := EntR.pass he HS1.out.1 HLt.out HS1.out.2.2
       have HZ := Lib.hid hz
       have HFin := Lib.hid hfin
       obtain ⟨⟨u0, u1, u2⟩, ⟨u3, u4, u5⟩, uf⟩ := LAt.six hz
       clear he hz hfin))
  exact bodyPost_ret (ret_loc2 Tryz.results33 _ _ (w.heap.size + 1) _ _ rfl (by simp) (by simp) (HZ.out.put6 _ _ _ _ _ _)) rfl HFin.out
set_option maxRecDepth 100000 in
set_option maxHeartbeats 8000000 in
theorem rentry_chg2 (S : Nat → Prop) (g o c : Nat) (w : World) (L : PL) (W C E : Value) (h : LM S w L W C E) (hlt : ∀ b, S b → b < w.heap.size) (hsep : ¬ S g) (k : List UInt8) (r : List (List UInt8)) (hW : WR w g o (k :: r)) (hc : r.length + 1 ≤ c) (hl : r.length ≤ 900000) (hs : ∀ y ∈ r, 0 < y.length ∧ y.length ≤ 1000000) (hF : Fit L) (d1 : (((leastT k).1 : Int) == 0) = false) (d3 : ¬ ((r.length + 1 : Nat) : Int) < ((leastT k).1 : Int)) (d4 : ((leastT k).1 : Int) < ((r.length + 1 : Nat) : Int)) (d5 : (leastT k).2 = true) (e_loc : ((mk k).toList == [108, 111, 99, 97, 108, 101]) = false) (hr1 : 1 ≤ r.length) (hbad : badR true k (r.length + 1) = false) :
    Calls Tryz.prog 33 #[.agg #[.string (mk L.name), W, .string (mk L.lower), .string (mk L.upper), C, E], .slice (some ⟨g, o, none⟩) (r.length + 1) c, .bool false] w (EntR S w (changeR L k r)) := by
  obtain ⟨aC, capC, rfl⟩ := own_form h.cls
  obtain ⟨aE, capE, rfl⟩ := own_form h.els
  obtain ⟨xw, ⟨cw, ws, rfl, hcw, hxw, hxf⟩, hxS, hxC, hxE⟩ := h.wts
  have HL := Lib.hid h
  have hsep0 := hsep
  have hs0 := hs
  have hF0 := hF
  have hS := RB.start w #[.string (mk L.name), .slice (some ⟨xw, 0, none⟩) 256 cw, .string (mk L.lower), .string (mk L.upper), .slice aC L.cls.length capC, .slice aE L.els.length capE]
  have HW := Lib.hid hW
  have HX := Lib.hid hs
  have HLt := Lib.hid hlt
  have HSep := Lib.hid hsep
  have HF := Lib.hid hF
  have hsz := hW.lt
  clear h hs hW hlt hsep hxw hxf hxS hxC hxE hF
  unfold VL2 zeroL at hS
  have HCh := Lib.hid (fun w W C E h hlt hW => rchange_any S g o c w L W C E h hlt hsep0 k r hW hc hr1 hl hs0 hF0 hbad)
  have HLe := Lib.hid (fun w => rleast_any (mk k) w)
  rw [show (mk k).data.toList = k from rfl] at HLe
  generalize (leastT k).1 = ln at *
  generalize (leastT k).2 = mr at *
  clear hsep0 hs0 hF0 hbad
  generalize hKe : mk k = K at *
  have HKe := Lib.hid hKe
  clear hKe
  obtain ⟨nn, hnn⟩ : ∃ nn, r.length + 1 = nn := ⟨_, rfl⟩
  have HNn := Lib.hid hnn
  have g0 : (0 : Int) < nn := by omega
  have g4 : 0 < nn := by omega
  rw [hnn] at ⊢ d3 d4
  have d3n : ¬ nn < ln := by omega
  have d4n : ln < nn := by omega
  clear hnn hc hl
  go_enter Tryz.func33, Tryz.ntmps33
  go_upto_region 1 with fail
  generalize ((w.alloc (.cells #[.string (mk L.name), .slice (some ⟨xw, 0, none⟩) 256 cw, .string (mk L.lower), .string (mk L.upper), .slice aC L.cls.length capC, .slice aE L.els.length capE] 26)).alloc (.cells #[.string ⟨#[]⟩, .slice none 0 0, .string ⟨#[]⟩, .string ⟨#[]⟩, .slice none 0 0, .slice none 0 0] 26)) = w1 at hS ⊢
  have c0 : w1.cell? ⟨g, o, none⟩ = some (.string K) := by rw [← HKe.out]; exact (HW.out.below hS.1 HW.out.lt).at_ 0 (by simp)
  have HS1 := Lib.hid hS
  obtain ⟨⟨y0, y1, y2⟩, ⟨y3, y4, y5⟩, yf⟩ := hS.2.1.six
  obtain ⟨⟨z0, z1, z2⟩, ⟨z3, z4, z5⟩, zf⟩ := LAt.six hS.2.2
  clear hS
  subst d5
  have HCa := Lib.hid (HCh.out w1 (.slice (some ⟨xw, 0, none⟩) 256 cw) (.slice aC L.cls.length capC) (.slice aE L.els.length capE) (HL.out.next HS1.out.1) (fun b hb => Nat.lt_of_lt_of_le (HLt.out b hb) HS1.out.1.size) (HW.out.below HS1.out.1 HW.out.lt))
  rw [HNn.out] at HCa
  clear HCh
  go_wp2_with (first
    | (go_at_call 54; refine (HLe.out _).mono ?_; rintro e w2 ⟨rfl, rfl⟩)
    | (go_at_call 55
       refine HCa.out.mono ?_
       rintro e w2 he
       obtain ⟨s0, s2, s3, pW, pC, pE, nW, cW, nC, cC, nE, cE, rfl, hz, hfin⟩ := EntR.pass he HS1.out.1 HLt.out HS1.out.2.2
       have HZ := Lib.hid hz
       have HFin := Lib.hid hfin
       obtain ⟨⟨u0, u1, u2⟩, ⟨u3, u4, u5⟩, uf⟩ := LAt.six hz
       clear he hz hfin))
  exact bodyPost_ret (ret_loc2 Tryz.results33 _ _ (w.heap.size + 1) _ _ rfl (by simp) (by simp) (HZ.out.put6 _ _ _ _ _ _)) rfl HFin.out
set_option maxRecDepth 100000 in
set_option maxHeartbeats 8000000 in
theorem rentry_namn (S : Nat → Prop) (g o c : Nat) (w : World) (L : PL) (W C E : Value) (h : LM S w L W C E) (hlt : ∀ b, S b → b < w.heap.size) (hsep : ¬ S g) (k : List UInt8) (r : List (List UInt8)) (hW : WR w g o (k :: r)) (hc : r.length + 1 ≤ c) (hl : r.length ≤ 900000) (hs : ∀ y ∈ r, 0 < y.length ∧ y.length ≤ 1000000) (hF : Fit L) (d1 : (((leastT k).1 : Int) == 0) = false) (d3 : ¬ ((r.length + 1 : Nat) : Int) < ((leastT k).1 : Int)) (d4 : ¬ ((leastT k).1 : Int) < ((r.length + 1 : Nat) : Int)) (e_loc : ((mk k).toList == [108, 111, 99, 97, 108, 101]) = true) (hr1 : 1 < r.length + 1) (hn : nmL (r.headD []) = false) :
    Calls Tryz.prog 33 #[.agg #[.string (mk L.name), W, .string (mk L.lower), .string (mk L.upper), C, E], .slice (some ⟨g, o, none⟩) (r.length + 1) c, .bool true] w (EntR S w (.error 4)) := by
  have hx1 : ∃ x t, r = x :: t := by
    cases r with
    | nil => simp at hr1
    | cons x t => exact ⟨x, t, rfl⟩
  obtain ⟨aC, capC, rfl⟩ := own_form h.cls
  obtain ⟨aE, capE, rfl⟩ := own_form h.els
  obtain ⟨xw, ⟨cw, ws, rfl, hcw, hxw, hxf⟩, hxS, hxC, hxE⟩ := h.wts
  have HL := Lib.hid h
  have hS := RB.start w #[.string (mk L.name), .slice (some ⟨xw, 0, none⟩) 256 cw, .string (mk L.lower), .string (mk L.upper), .slice aC L.cls.length capC, .slice aE L.els.length capE]
  have HW := Lib.hid hW
  have HX := Lib.hid hs
  have HLt := Lib.hid hlt
  have HSep := Lib.hid hsep
  have HF := Lib.hid hF
  have hsz := hW.lt
  clear h hs hW hlt hsep hxw hxf hxS hxC hxE hF
  unfold VL2 zeroL at hS
  have HN := Lib.hid (fun w => isName_any (mk (r.headD [])) w)
  rw [show nmB (mk (r.headD [])) = nmL (r.headD []) from rfl, hn] at HN
  have HLe := Lib.hid (fun w => rleast_any (mk k) w)
  rw [show (mk k).data.toList = k from rfl] at HLe
  generalize (leastT k).1 = ln at *
  generalize (leastT k).2 = mr at *
  generalize hXe : mk (r.headD []) = X at HN
  have HXe := Lib.hid hXe
  have HXt := Lib.hid hx1
  clear hXe hn hx1
  generalize hKe : mk k = K at *
  have HKe := Lib.hid hKe
  clear hKe
  obtain ⟨nn, hnn⟩ : ∃ nn, r.length + 1 = nn := ⟨_, rfl⟩
  have HNn := Lib.hid hnn
  have g0 : (0 : Int) < nn := by omega
  have g4 : 0 < nn := by omega
  rw [hnn] at ⊢ d3 d4
  have d3n : ¬ nn < ln := by omega
  have d4n : ¬ ln < nn := by omega
  have g1 : (1 : Int) < nn := by omega
  clear hnn hc hl
  go_enter Tryz.func33, Tryz.ntmps33
  go_upto_region 1 with fail
  generalize ((w.alloc (.cells #[.string (mk L.name), .slice (some ⟨xw, 0, none⟩) 256 cw, .string (mk L.lower), .string (mk L.upper), .slice aC L.cls.length capC, .slice aE L.els.length capE] 26)).alloc (.cells #[.string ⟨#[]⟩, .slice none 0 0, .string ⟨#[]⟩, .string ⟨#[]⟩, .slice none 0 0, .slice none 0 0] 26)) = w1 at hS ⊢
  have c0 : w1.cell? ⟨g, o, none⟩ = some (.string K) := by rw [← HKe.out]; exact (HW.out.below hS.1 HW.out.lt).at_ 0 (by simp)
  have HS1 := Lib.hid hS
  obtain ⟨⟨y0, y1, y2⟩, ⟨y3, y4, y5⟩, yf⟩ := hS.2.1.six
  obtain ⟨⟨z0, z1, z2⟩, ⟨z3, z4, z5⟩, zf⟩ := LAt.six hS.2.2
  clear hS

  have c1 : w1.cell? ⟨g, o + 1, none⟩ = some (.string X) := by
    obtain ⟨x, t, hrt⟩ := HXt.out
    have := (HW.out.below HS1.out.1 HW.out.lt).at_ 1 (by rw [hrt]; simp)
    rw [this, ← HXe.out]
    simp only [hrt, List.getElem_cons_succ, List.getElem_cons_zero, List.headD_cons]
  go_wp2_with (first
    | (go_at_call 54; refine (HLe.out _).mono ?_; rintro e w2 ⟨rfl, rfl⟩)
    | (go_at_call 56; refine (HN.out _).mono ?_; rintro e w2 ⟨rfl, rfl⟩))
  exact bodyPost_ret (ret_loc2 Tryz.results33 _ _ (w.heap.size + 1) _ _ rfl (by simp) (by simp) (HS1.out.2.2.put6 _ _ _ _ _ _)) rfl (entR_err rfl (Keep.of_below (below_put6 HS1.out.1 _ (by omega) _ _ _ _ _ _)) (Sl.mk' _ _ _) (Sl.mk' _ _ _) (Sl.mk' _ _ _))
set_option maxRecDepth 100000 in
set_option maxHeartbeats 8000000 in
theorem rentry_namk (S : Nat → Prop) (g o c : Nat) (w : World) (L : PL) (W C E : Value) (h : LM S w L W C E) (hlt : ∀ b, S b → b < w.heap.size) (hsep : ¬ S g) (k : List UInt8) (r : List (List UInt8)) (hW : WR w g o (k :: r)) (hc : r.length + 1 ≤ c) (hl : r.length ≤ 900000) (hs : ∀ y ∈ r, 0 < y.length ∧ y.length ≤ 1000000) (hF : Fit L) (d1 : (((leastT k).1 : Int) == 0) = false) (d3 : ¬ ((r.length + 1 : Nat) : Int) < ((leastT k).1 : Int)) (d4 : ¬ ((leastT k).1 : Int) < ((r.length + 1 : Nat) : Int)) (e_loc : ((mk k).toList == [108, 111, 99, 97, 108, 101]) = true) (hr1 : 1 < r.length + 1) (hn : nmL (r.headD []) = true) :
    Calls Tryz.prog 33 #[.agg #[.string (mk L.name), W, .string (mk L.lower), .string (mk L.upper), C, E], .slice (some ⟨g, o, none⟩) (r.length + 1) c, .bool true] w (EntR S w (.ok { L with name := r.headD [] })) := by
  have hx1 : ∃ x t, r = x :: t := by
    cases r with
    | nil => simp at hr1
    | cons x t => exact ⟨x, t, rfl⟩
  obtain ⟨aC, capC, rfl⟩ := own_form h.cls
  obtain ⟨aE, capE, rfl⟩ := own_form h.els
  obtain ⟨xw, ⟨cw, ws, rfl, hcw, hxw, hxf⟩, hxS, hxC, hxE⟩ := h.wts
  have HL := Lib.hid h
  have hS := RB.start w #[.string (mk L.name), .slice (some ⟨xw, 0, none⟩) 256 cw, .string (mk L.lower), .string (mk L.upper), .slice aC L.cls.length capC, .slice aE L.els.length capE]
  have HW := Lib.hid hW
  have HX := Lib.hid hs
  have HLt := Lib.hid hlt
  have HSep := Lib.hid hsep
  have HF := Lib.hid hF
  have hsz := hW.lt
  clear h hs hW hlt hsep hxw hxf hxS hxC hxE hF
  unfold VL2 zeroL at hS
  have HN := Lib.hid (fun w => isName_any (mk (r.headD [])) w)
  rw [show nmB (mk (r.headD [])) = nmL (r.headD []) from rfl, hn] at HN
  have HLe := Lib.hid (fun w => rleast_any (mk k) w)
  rw [show (mk k).data.toList = k from rfl] at HLe
  generalize (leastT k).1 = ln at *
  generalize (leastT k).2 = mr at *
  generalize hXe : mk (r.headD []) = X at HN
  have HXe := Lib.hid hXe
  have HXt := Lib.hid hx1
  clear hXe hn hx1
  generalize hKe : mk k = K at *
  have HKe := Lib.hid hKe
  clear hKe
  obtain ⟨nn, hnn⟩ : ∃ nn, r.length + 1 = nn := ⟨_, rfl⟩
  have HNn := Lib.hid hnn
  have g0 : (0 : Int) < nn := by omega
  have g4 : 0 < nn := by omega
  rw [hnn] at ⊢ d3 d4
  have d3n : ¬ nn < ln := by omega
  have d4n : ¬ ln < nn := by omega
  have g1 : (1 : Int) < nn := by omega
  clear hnn hc hl
  go_enter Tryz.func33, Tryz.ntmps33
  go_upto_region 1 with fail
  generalize ((w.alloc (.cells #[.string (mk L.name), .slice (some ⟨xw, 0, none⟩) 256 cw, .string (mk L.lower), .string (mk L.upper), .slice aC L.cls.length capC, .slice aE L.els.length capE] 26)).alloc (.cells #[.string ⟨#[]⟩, .slice none 0 0, .string ⟨#[]⟩, .string ⟨#[]⟩, .slice none 0 0, .slice none 0 0] 26)) = w1 at hS ⊢
  have c0 : w1.cell? ⟨g, o, none⟩ = some (.string K) := by rw [← HKe.out]; exact (HW.out.below hS.1 HW.out.lt).at_ 0 (by simp)
  have HS1 := Lib.hid hS
  obtain ⟨⟨y0, y1, y2⟩, ⟨y3, y4, y5⟩, yf⟩ := hS.2.1.six
  obtain ⟨⟨z0, z1, z2⟩, ⟨z3, z4, z5⟩, zf⟩ := LAt.six hS.2.2
  clear hS

  have c1 : w1.cell? ⟨g, o + 1, none⟩ = some (.string X) := by
    obtain ⟨x, t, hrt⟩ := HXt.out
    have := (HW.out.below HS1.out.1 HW.out.lt).at_ 1 (by rw [hrt]; simp)
    rw [this, ← HXe.out]
    simp only [hrt, List.getElem_cons_succ, List.getElem_cons_zero, List.headD_cons]
  go_upto_region 9 with (first
    | (go_at_call 54; refine (HLe.out _).mono ?_; rintro e w2 ⟨rfl, rfl⟩)
    | (go_at_call 56; refine (HN.out _).mono ?_; rintro e w2 ⟨rfl, rfl⟩))
  have ha6 : LAt (w1.setCell ⟨w.heap.size, 0, none⟩ (.string X)) w.heap.size #[.string X, .slice (some ⟨xw, 0, none⟩) 256 cw, .string (mk L.lower), .string (mk L.upper), .slice aC L.cls.length capC, .slice aE L.els.length capE] := HS1.out.2.1.put 0 _
  have hz6 : LAt (w1.setCell ⟨w.heap.size, 0, none⟩ (.string X)) (w.heap.size + 1) zeroL := HS1.out.2.2.apart _ (by omega)
  have hb6 : Below w.heap.size w (w1.setCell ⟨w.heap.size, 0, none⟩ (.string X)) := HS1.out.1.setCell (p := ⟨w.heap.size, 0, none⟩) (Nat.le_refl _) _
  generalize (w1.setCell ⟨w.heap.size, 0, none⟩ (.string X)) = w6 at ha6 hz6 hb6 ⊢
  have HZ6 := Lib.hid hz6
  have HB6 := Lib.hid hb6
  clear y0 y1 y2 y3 y4 y5 yf z0 z1 z2 z3 z4 z5 zf c0 c1
  obtain ⟨⟨y0, y1, y2⟩, ⟨y3, y4, y5⟩, yf⟩ := ha6.six
  obtain ⟨⟨z0, z1, z2⟩, ⟨z3, z4, z5⟩, zf⟩ := LAt.six hz6
  clear ha6 hz6 hb6
  go_wp2
  exact bodyPost_ret (ret_loc2 Tryz.results33 _ _ (w.heap.size + 1) _ _ rfl (by simp) (by simp) (HZ6.out.put6 _ _ _ _ _ _)) rfl (entR_ok rfl HXe.out.symm rfl rfl (Keep.of_below (below_put6 HB6.out _ (by omega) _ _ _ _ _ _)) (((HL.out.next (below_put6 HB6.out _ (by omega) _ _ _ _ _ _)).name _).more (grow_sub S w)) (Sl.mk' _ _ _) (Sl.mk' _ _ _) (Sl.mk' _ _ _))
theorem rentry_any (S : Nat → Prop) (g o c : Nat) (w : World) (L : PL) (W C E : Value) (h : LM S w L W C E) (hlt : ∀ b, S b → b < w.heap.size) (hsep : ¬ S g) (k : List UInt8) (r : List (List UInt8)) (hW : WR w g o (k :: r)) (hc : r.length + 1 ≤ c) (hl : r.length ≤ 900000) (hs : ∀ y ∈ r, 0 < y.length ∧ y.length ≤ 1000000) (hF : Fit L) (st : Bool) :
    Calls Tryz.prog 33 #[.agg #[.string (mk L.name), W, .string (mk L.lower), .string (mk L.upper), C, E], .slice (some ⟨g, o, none⟩) (r.length + 1) c, .bool (!st)] w (EntR S w (entryT st L k r)) := by
  rw [← entry_eq]
  by_cases c1 : (leastT k).1 = 0
  · have hq : entryR st L k r = .error 1 := by unfold entryR badR; rw [if_pos (by simp [c1])]
    rw [hq]
    exact rentry_bad1 S g o c w L W C E h hlt hsep k r hW hc hl hs hF (!st) (by rw [c1]; rfl)
  have d1 : (((leastT k).1 : Int) == 0) = false := by simp [c1]
  by_cases c3 : r.length + 1 < (leastT k).1
  · have hq : entryR st L k r = .error 1 := by unfold entryR badR; rw [if_pos (by simp [c3])]
    rw [hq]
    by_cases ck : k = kLoc
    · have e_loc := leq' (s := mk k) (l := kLoc) ck
      cases st with
      | true => exact rentry_bad2b S g o c w L W C E h hlt hsep k r hW hc hl hs hF d1 e_loc
      | false => exact rentry_bad3a S g o c w L W C E h hlt hsep k r hW hc hl hs hF d1 (by omega) e_loc
    · have e_loc := leq (s := mk k) (l := kLoc) ck
      cases st with
      | true => exact rentry_bad3b S g o c w L W C E h hlt hsep k r hW hc hl hs hF d1 (by omega) e_loc
      | false => exact rentry_bad2a S g o c w L W C E h hlt hsep k r hW hc hl hs hF d1 e_loc
  by_cases c4 : (leastT k).1 < r.length + 1 ∧ (leastT k).2 = false
  · have hq : entryR st L k r = .error 1 := by unfold entryR badR; rw [if_pos (by simp [c4])]
    rw [hq]
    by_cases ck : k = kLoc
    · have e_loc := leq' (s := mk k) (l := kLoc) ck
      cases st with
      | true => exact rentry_bad2b S g o c w L W C E h hlt hsep k r hW hc hl hs hF d1 e_loc
      | false => exact rentry_bad4a S g o c w L W C E h hlt hsep k r hW hc hl hs hF d1 (by omega) (by omega) c4.2 e_loc
    · have e_loc := leq (s := mk k) (l := kLoc) ck
      cases st with
      | true => exact rentry_bad4b S g o c w L W C E h hlt hsep k r hW hc hl hs hF d1 (by omega) (by omega) c4.2 e_loc
      | false => exact rentry_bad2a S g o c w L W C E h hlt hsep k r hW hc hl hs hF d1 e_loc
  by_cases ck : k = kLoc
  · have e_loc := leq' (s := mk k) (l := kLoc) ck
    have bk : (k == kLoc) = true := by rw [ck]; rfl
    cases st with
    | true =>
      have hq : entryR true L k r = .error 1 := by unfold entryR badR; rw [if_pos (by simp [bk])]
      rw [hq]
      exact rentry_bad2b S g o c w L W C E h hlt hsep k r hW hc hl hs hF d1 e_loc
    | false =>
      have e2 : leastT k = (2, false) := by rw [ck]; decide
      rw [e2] at c3 c4
      simp only [and_true] at c4
      have hq : entryR false L k r = beginT L (r.headD []) := by unfold entryR badR; rw [if_neg (by rw [e2, bk]; simp; omega)]; rfl
      rw [hq]
      unfold beginT
      cases hn : nmL (r.headD []) with
      | true =>
        rw [if_neg (by decide)]
        exact rentry_namk S g o c w L W C E h hlt hsep k r hW hc hl hs hF d1 (by rw [e2]; omega) (by rw [e2]; omega) e_loc (by omega) hn
      | false =>
        rw [if_pos rfl]
        exact rentry_namn S g o c w L W C E h hlt hsep k r hW hc hl hs hF d1 (by rw [e2]; omega) (by rw [e2]; omega) e_loc (by omega) hn
  · have e_loc := leq (s := mk k) (l := kLoc) ck
    have bk : (k == kLoc) = false := beq_eq_false_iff_ne.2 ck
    cases st with
    | false =>
      have hq : entryR false L k r = .error 1 := by unfold entryR badR; rw [if_pos (by simp [bk])]
      rw [hq]
      exact rentry_bad2a S g o c w L W C E h hlt hsep k r hW hc hl hs hF d1 e_loc
    | true =>
      have hb : badR true k (r.length + 1) = false := by
        unfold badR
        rw [bk]
        simp only [Bool.not_true, bne_self_eq_false, Bool.or_false, Bool.or_eq_false_iff, decide_eq_false_iff_not, Bool.and_eq_false_iff, Bool.not_eq_false']
        refine ⟨⟨c1, c3⟩, ?_⟩
        by_cases c5 : (leastT k).1 < r.length + 1
        · right
          cases h2 : (leastT k).2 with
          | true => rfl
          | false => exact absurd ⟨c5, h2⟩ c4
        · exact .inl c5
      have hq : entryR true L k r = changeR L k r := by unfold entryR; rw [if_neg (by rw [hb]; decide)]; rfl
      rw [hq]
      have hle : 2 ≤ (leastT k).1 := by
        unfold leastT at c1 ⊢
        (repeat' split) <;> simp_all
      by_cases c5 : (leastT k).1 < r.length + 1
      · have h2 : (leastT k).2 = true := by
          cases h2 : (leastT k).2 with
          | true => rfl
          | false => exact absurd ⟨c5, h2⟩ c4
        exact rentry_chg2 S g o c w L W C E h hlt hsep k r hW hc hl hs hF d1 (by omega) (by omega) h2 e_loc (by omega) hb
      · exact rentry_chg1 S g o c w L W C E h hlt hsep k r hW hc hl hs hF d1 (by omega) (by omega) e_loc (by omega) hb
end Go.Proofs.YticfhbffoajgcaaGreatDoor
/- The reference's Words and Default: what they hand back is new. (Written by gen_lrp7.py.) -/
set_option linter.unusedVariables false
namespace Go.Proofs.YticfhbffoajgcaaGreatDoor
open Go.RowKit

theorem own_new {w : World} {B n k : Nat} {t : TypeId} {v : Value} {xs : List Value} (h : w.ownsRow B t k v n xs) (a : Addr) (m c : Nat) (e : v = .slice (some a) m c) : B ≤ a.block := by
  rcases h.2 with ⟨e2, _⟩ | ⟨g, cap, cur, e2, hB, _⟩
  · rw [e] at e2; cases e2
  · rw [e] at e2
    simp only [Value.slice.injEq, Option.some.injEq] at e2
    rw [e2.1]; exact hB
set_option maxRecDepth 100000 in
set_option maxHeartbeats 8000000 in
theorem rwords_own (s : ByteArray) (w : World) (hs : s.size ≤ 4294967280) :
    Calls Tryz.prog 32 #[.string s] w fun e w' => ∃ v, e = .returned v ∧ SA w' v (wds s.data.toList) ∧ Below w.heap.size w w' ∧ ∀ a m c, v = .slice (some a) m c → w.heap.size ≤ a.block := by
  go_enter Tryz.func32, Tryz.ntmps32
  go_wp2
  go_loopw [3, 4, 5] (fun v f i wr => ∃ (k n : Nat) (m : Int) (sv : Value) (done : List (List UInt8)), sv = v ∧ k ≤ s.size ∧ n ≤ k ∧ i = .int .i64 k ∧ f = .int .i64 m ∧
      Hid (wr.ownsRow w.heap.size 9 1 sv n (strs3 done)) ∧ Hid (Below w.heap.size w wr) ∧
      Hid (RW s.data.toList done m k n)) (fun _ _ i _ => s.size - (intOf i).toNat)
  case atStart => exact ⟨0, 0, -1, _, [], rfl, Nat.zero_le _, Nat.le_refl _, rfl, rfl, World.ownsRow_nil _ _ _ _, Below.refl _ _, .inl ⟨rfl, rfl⟩⟩
  case round =>
    obtain ⟨k, n, m, v0, done, rfl, hk, hn, rfl, rfl, hown, hb, hm⟩ := hrel
    have hBs := hb.out.size
    by_cases hlt : k < s.size
    · have hlt' : k < s.data.toList.length := by rw [size_len]; exact hlt
      have hg : s.data.toList[k] = s[k] := rfl
      have HSp : Hid (∀ w, Calls Tryz.prog 53 #[.int .u8 (s[k].toNat : Int)] w fun e w' => e = .returned (.bool (sp s[k])) ∧ w = w') := fun w => space_any s[k] w
      rcases ttf (sp s[k]) with h0 | h0
      · rw [h0] at HSp
        rcases hm.out with ⟨rfl, hsg⟩ | ⟨j, rfl, hj, hnj, hsg, hno⟩
        · have HN : Hid (RW s.data.toList done (-1) (k + 1) n) :=
            .inl ⟨rfl, by rw [← hsg, wds_skip _ k hlt' (by rw [hg]; exact h0)]⟩
          clear hm hsg hg h0
          go_wp2_with (first | (go_at_call 53; refine (HSp.out _).mono ?_; rintro e w' ⟨rfl, rfl⟩))
          go_roundw
          case rel => exact ⟨k + 1, n, -1, _, _, rfl, by omega, by omega, by go_num, rfl, hown.out, hb.out, HN.out⟩
          case measure => simp [intOf]; omega
        · have HN : Hid (RW s.data.toList (done ++ [(s.data.toList.drop j).take (k - j)]) (-1) (k + 1) (n + 1)) :=
            .inl ⟨rfl, by rw [← hsg, wds_hit s.data.toList j k (by omega) hlt' hno (by rw [hg]; exact h0), if_pos hj, List.append_assoc]⟩
          have HI := Lib.hid (strs_ext s j k)
          have hjk : (j : Int) ≤ (k : Int) := by omega
          have hj0 : ¬ (j : Int) < 0 := by omega
          clear hm hsg hno hg h0
          go_wp2_with (first
            | (go_at_call 53; refine (HSp.out _).mono ?_; rintro e w' ⟨rfl, rfl⟩)
            | (at_builtin; refine app_lit 59 9 (.string ByteArray.empty) 16 Tryz.underlying59 tinfoS rfl wr rfl _ _ rfl w.heap.size v0 _ _ _ _ rfl rfl hown.out rfl rfl ?c1 hBs ?c2 ?c3 ?_))
          case c1 => simp [Value.oneCell']
          case c2 => unfold maxLen; omega
          case c3 => omega
          intro v' w1 hown' hb'
          have HW := Lib.hid (own_sapp hown' HI.out)
          have HB := Lib.hid (hb' w hb.out)
          clear hown' hb'
          go_wp2
          go_roundw
          case rel => exact ⟨k + 1, n + 1, -1, _, _, rfl, by omega, by omega, by go_num, rfl, HW.out, HB.out, HN.out⟩
          case measure => simp [intOf]; omega
      · rw [h0] at HSp
        rcases hm.out with ⟨rfl, hsg⟩ | ⟨j, rfl, hj, hnj, hsg, hno⟩
        · have HN : Hid (RW s.data.toList done (k : Int) (k + 1) n) :=
            .inr ⟨k, rfl, Nat.lt_succ_self k, hn, hsg, no_step sp s.data.toList k k (Nat.le_refl _) hlt' (by rw [Nat.sub_self]; rfl) (by rw [hg]; exact h0)⟩
          clear hm hsg hg h0
          go_wp2_with (first | (go_at_call 53; refine (HSp.out _).mono ?_; rintro e w' ⟨rfl, rfl⟩))
          go_roundw
          case rel => exact ⟨k + 1, n, k, _, _, rfl, by omega, by omega, by go_num, rfl, hown.out, hb.out, HN.out⟩
          case measure => simp [intOf]; omega
        · have HN : Hid (RW s.data.toList done (j : Int) (k + 1) n) :=
            .inr ⟨j, rfl, by omega, hnj, hsg, no_step sp s.data.toList j k (by omega) hlt' hno (by rw [hg]; exact h0)⟩
          have hj0 : ¬ (j : Int) < 0 := by omega
          clear hm hsg hno hg h0
          go_wp2_with (first | (go_at_call 53; refine (HSp.out _).mono ?_; rintro e w' ⟨rfl, rfl⟩))
          go_roundw
          case rel => exact ⟨k + 1, n, j, _, _, rfl, by omega, by omega, by go_num, rfl, hown.out, hb.out, HN.out⟩
          case measure => simp [intOf]; omega
    · obtain rfl : k = s.size := by omega
      rcases hm.out with ⟨rfl, hsg⟩ | ⟨j, rfl, hj, hnj, hsg, hno⟩
      · have he : done = wds s.data.toList := by
          rw [← hsg, List.drop_eq_nil_of_le (by rw [size_len]; exact Nat.le_refl _)]
          show done = done ++ []
          rw [List.append_nil]
        have HE := Lib.hid he
        clear hm hsg he
        go_wp2
        go_ret
        refine ⟨v0, rfl, ?_, hb.out, own_new hown.out⟩
        rw [← HE.out]; exact sa_own hown.out
      · have hna := drop_all sp s.data.toList j s.size (by rw [size_len]; exact Nat.le_refl _) hno
        have he : done ++ [s.data.toList.drop j] = wds s.data.toList := by
          rw [← hsg, wds_no _ hna, if_neg]
          intro e
          have := congrArg List.length e
          rw [List.length_drop, size_len] at this; simp at this; omega
        have HE := Lib.hid he
        have HI := Lib.hid (strs_ext_end s j)
        have hj0 : ¬ (j : Int) < 0 := by omega
        clear hm hsg hno hna he
        go_wp2_with (first
          | (at_builtin; refine app_lit 59 9 (.string ByteArray.empty) 16 Tryz.underlying59 tinfoS rfl wr rfl _ _ rfl w.heap.size v0 _ _ _ _ rfl rfl hown.out rfl rfl ?c1 hBs ?c2 ?c3 ?_))
        case c1 => simp [Value.oneCell']
        case c2 => unfold maxLen; omega
        case c3 => omega
        intro v' w1 hown' hb'
        have HW := Lib.hid (own_sapp hown' HI.out)
        have HB := Lib.hid (hb' w hb.out)
        clear hown' hb'
        go_wp2
        go_ret
        refine ⟨v', rfl, ?_, HB.out, own_new HW.out⟩
        rw [← HE.out]; exact sa_own HW.out

attribute [local irreducible] lowL upL idL Ldef lcl

set_option maxRecDepth 100000 in
set_option maxHeartbeats 8000000 in
theorem rdefault_own (w : World) : Calls Tryz.prog 21 #[] w fun e w' => ∃ x y : Nat, w.heap.size ≤ x ∧ e = .returned (.agg (lcl Ldef (.slice (some ⟨x, 0, none⟩) 256 y) (.slice none 0 0) (.slice none 0 0))) ∧ w'.ownsRow (w.heap.size + 2) 3 1 (.slice (some ⟨x, 0, none⟩) 256 y) 256 (nums (idL 256)) ∧ Below w.heap.size w w' := by
  have H0 := Lib.hid (def0 w)
  go_enter Tryz.func21, Tryz.ntmps21
  go_wp2
  go_loopw [2, 3, 4] (fun o2 o3 i wr => ∃ (k : Nat) (v1 v2 v3 : Value), v2 = o2 ∧ v3 = o3 ∧ k ≤ 256 ∧ i = .int .i64 k ∧ Hid (DefAt w.heap.size w wr k k k v1 v2 v3)) (fun _ _ i _ => 256 - (intOf i).toNat)
  case atStart => exact ⟨0, _, _, _, rfl, rfl, Nat.zero_le _, rfl, H0.out⟩
  case round =>
    obtain ⟨k, v1, v2, v3, rfl, rfl, hk, rfl, HD⟩ := hrel
    by_cases hlt : k < 256
    · have hi : (k : Int) < 256 := by omega
      have hi0 : (0 : Int) ≤ k := by omega
      have hw : IntKind.u8.wrap (k : Int) = (k : Int) := IntWalk.u8_in _ (by omega)
      have c1 : wr.cell? ⟨w.heap.size + 1, 1, none⟩ = some v1 := (HD.out.2.2.1.cell 1)
      have hf := HD.out.2.2.1.free
      have hB1 : w.heap.size + 2 ≤ wr.heap.size := HD.out.2.2.1.lt
      have hcut : ((k : Int) < 65) ∨ ((65 : Int) ≤ k ∧ (k : Int) ≤ 90) ∨ ((91 : Int) ≤ k ∧ (k : Int) ≤ 96) ∨ ((97 : Int) ≤ k ∧ (k : Int) ≤ 122) ∨ ((123 : Int) ≤ k) := by omega
      rcases hcut with h1 | h1 | h1 | h1 | h1
      · have n1 : ¬ (65 : Int) ≤ k := by omega
        have n2 : ¬ (97 : Int) ≤ k := by omega
        have HL := Lib.hid (lowC_no k (by omega) hlt)
        have HU := Lib.hid (upC_no k (by omega) hlt)
        go_wp2_with (first
          | (at_builtin; refine app_far 22 3 (.int .i64 0) 8 Tryz.underlying22 infoI rfl wr rfl _ _ rfl (w.heap.size + 2) v1 _ _ _ _ rfl rfl HD.out.2.2.2.1 _ rfl rfl rfl ?c1 (by decide) hB1 ?c2 ?c3 ?_))
        case c1 => simp [Value.oneCell']
        case c2 => unfold maxLen; omega
        case c3 => omega
        intro x1 y1 w1 hown hbel hsz hfar
        have b1 := hbel wr (Below.refl _ _)
        have HD1 := Lib.hid (def1 HD.out hown hbel hfar)
        have g1 : w1.cell? ⟨w.heap.size + 1, 1, none⟩ = some v1 := (HD.out.2.2.1.under b1 (by omega)).cell 1
        have hf1 := (HD.out.2.2.1.under b1 (by omega)).free
        have hs1 : w.heap.size + 2 ≤ (w1.setCell ⟨w.heap.size + 1, 1, none⟩ (.slice (some ⟨x1, 0, none⟩) (k + 1) y1)).heap.size := HD1.out.2.2.1.lt
        clear hown hbel hsz hfar b1
        go_wp2_with (first
          | (at_builtin; refine app_far 80 5 (.int .u8 0) 1 Tryz.underlying80 infoU rfl (w1.setCell ⟨w.heap.size + 1, 1, none⟩ (.slice (some ⟨x1, 0, none⟩) (k + 1) y1)) rfl _ _ rfl (w.heap.size + 2) v2 _ _ _ _ rfl rfl HD1.out.2.2.2.2.1 w1.heap.size (by simp) rfl rfl ?c1 (by decide) hs1 ?c2 ?c3 ?_))
        case c1 => simp [Value.oneCell']
        case c2 => unfold maxLen; omega
        case c3 => omega
        intro x2 y2 w2 hown hbel hsz hfar
        have HD2 := Lib.hid (def2 HD1.out HL.out hown hbel hfar)
        have hs2 : w.heap.size + 2 ≤ w2.heap.size := HD2.out.2.2.1.lt
        clear hown hbel hsz hfar
        go_wp2_with (first
          | (at_builtin; refine app_far 80 5 (.int .u8 0) 1 Tryz.underlying80 infoU rfl w2 rfl _ _ rfl (w.heap.size + 2) v3 _ _ _ _ rfl rfl HD2.out.2.2.2.2.2.1 _ rfl rfl rfl ?c1 (by decide) hs2 ?c2 ?c3 ?_))
        case c1 => simp [Value.oneCell']
        case c2 => unfold maxLen; omega
        case c3 => omega
        intro x3 y3 w3 hown hbel hsz hfar
        have HD3 := Lib.hid (def3 HD2.out HU.out hown hbel hfar)
        clear hown hbel hsz hfar
        go_wp2
        go_roundw
        case rel => exact ⟨k + 1, _, _, _, rfl, rfl, by omega, by go_num, HD3.out⟩
        case measure => simp [intOf]; omega
      · have p1 : (65 : Int) ≤ k := by omega
        have p2 : (k : Int) ≤ 90 := by omega
        have n2 : ¬ (97 : Int) ≤ k := by omega
        have HL := Lib.hid (lowC_yes k (by omega) (by omega))
        have HU := Lib.hid (upC_no k (by omega) hlt)
        have hw2 : IntKind.u8.wrap ((k : Int) + 32) = (k : Int) + 32 := IntWalk.u8_in _ (by omega)
        go_wp2_with (first
          | (at_builtin; refine app_far 22 3 (.int .i64 0) 8 Tryz.underlying22 infoI rfl wr rfl _ _ rfl (w.heap.size + 2) v1 _ _ _ _ rfl rfl HD.out.2.2.2.1 _ rfl rfl rfl ?c1 (by decide) hB1 ?c2 ?c3 ?_))
        case c1 => simp [Value.oneCell']
        case c2 => unfold maxLen; omega
        case c3 => omega
        intro x1 y1 w1 hown hbel hsz hfar
        have b1 := hbel wr (Below.refl _ _)
        have HD1 := Lib.hid (def1 HD.out hown hbel hfar)
        have g1 : w1.cell? ⟨w.heap.size + 1, 1, none⟩ = some v1 := (HD.out.2.2.1.under b1 (by omega)).cell 1
        have hf1 := (HD.out.2.2.1.under b1 (by omega)).free
        have hs1 : w.heap.size + 2 ≤ (w1.setCell ⟨w.heap.size + 1, 1, none⟩ (.slice (some ⟨x1, 0, none⟩) (k + 1) y1)).heap.size := HD1.out.2.2.1.lt
        clear hown hbel hsz hfar b1
        go_wp2_with (first
          | (at_builtin; refine app_far 80 5 (.int .u8 0) 1 Tryz.underlying80 infoU rfl (w1.setCell ⟨w.heap.size + 1, 1, none⟩ (.slice (some ⟨x1, 0, none⟩) (k + 1) y1)) rfl _ _ rfl (w.heap.size + 2) v2 _ _ _ _ rfl rfl HD1.out.2.2.2.2.1 w1.heap.size (by simp) rfl rfl ?c1 (by decide) hs1 ?c2 ?c3 ?_))
        case c1 => simp [Value.oneCell']
        case c2 => unfold maxLen; omega
        case c3 => omega
        intro x2 y2 w2 hown hbel hsz hfar
        have HD2 := Lib.hid (def2 HD1.out HL.out hown hbel hfar)
        have hs2 : w.heap.size + 2 ≤ w2.heap.size := HD2.out.2.2.1.lt
        clear hown hbel hsz hfar
        go_wp2_with (first
          | (at_builtin; refine app_far 80 5 (.int .u8 0) 1 Tryz.underlying80 infoU rfl w2 rfl _ _ rfl (w.heap.size + 2) v3 _ _ _ _ rfl rfl HD2.out.2.2.2.2.2.1 _ rfl rfl rfl ?c1 (by decide) hs2 ?c2 ?c3 ?_))
        case c1 => simp [Value.oneCell']
        case c2 => unfold maxLen; omega
        case c3 => omega
        intro x3 y3 w3 hown hbel hsz hfar
        have HD3 := Lib.hid (def3 HD2.out HU.out hown hbel hfar)
        clear hown hbel hsz hfar
        go_wp2
        go_roundw
        case rel => exact ⟨k + 1, _, _, _, rfl, rfl, by omega, by go_num, HD3.out⟩
        case measure => simp [intOf]; omega
      · have p1 : (65 : Int) ≤ k := by omega
        have q1 : ¬ (k : Int) ≤ 90 := by omega
        have n2 : ¬ (97 : Int) ≤ k := by omega
        have HL := Lib.hid (lowC_no k (by omega) hlt)
        have HU := Lib.hid (upC_no k (by omega) hlt)
        go_wp2_with (first
          | (at_builtin; refine app_far 22 3 (.int .i64 0) 8 Tryz.underlying22 infoI rfl wr rfl _ _ rfl (w.heap.size + 2) v1 _ _ _ _ rfl rfl HD.out.2.2.2.1 _ rfl rfl rfl ?c1 (by decide) hB1 ?c2 ?c3 ?_))
        case c1 => simp [Value.oneCell']
        case c2 => unfold maxLen; omega
        case c3 => omega
        intro x1 y1 w1 hown hbel hsz hfar
        have b1 := hbel wr (Below.refl _ _)
        have HD1 := Lib.hid (def1 HD.out hown hbel hfar)
        have g1 : w1.cell? ⟨w.heap.size + 1, 1, none⟩ = some v1 := (HD.out.2.2.1.under b1 (by omega)).cell 1
        have hf1 := (HD.out.2.2.1.under b1 (by omega)).free
        have hs1 : w.heap.size + 2 ≤ (w1.setCell ⟨w.heap.size + 1, 1, none⟩ (.slice (some ⟨x1, 0, none⟩) (k + 1) y1)).heap.size := HD1.out.2.2.1.lt
        clear hown hbel hsz hfar b1
        go_wp2_with (first
          | (at_builtin; refine app_far 80 5 (.int .u8 0) 1 Tryz.underlying80 infoU rfl (w1.setCell ⟨w.heap.size + 1, 1, none⟩ (.slice (some ⟨x1, 0, none⟩) (k + 1) y1)) rfl _ _ rfl (w.heap.size + 2) v2 _ _ _ _ rfl rfl HD1.out.2.2.2.2.1 w1.heap.size (by simp) rfl rfl ?c1 (by decide) hs1 ?c2 ?c3 ?_))
        case c1 => simp [Value.oneCell']
        case c2 => unfold maxLen; omega
        case c3 => omega
        intro x2 y2 w2 hown hbel hsz hfar
        have HD2 := Lib.hid (def2 HD1.out HL.out hown hbel hfar)
        have hs2 : w.heap.size + 2 ≤ w2.heap.size := HD2.out.2.2.1.lt
        clear hown hbel hsz hfar
        go_wp2_with (first
          | (at_builtin; refine app_far 80 5 (.int .u8 0) 1 Tryz.underlying80 infoU rfl w2 rfl _ _ rfl (w.heap.size + 2) v3 _ _ _ _ rfl rfl HD2.out.2.2.2.2.2.1 _ rfl rfl rfl ?c1 (by decide) hs2 ?c2 ?c3 ?_))
        case c1 => simp [Value.oneCell']
        case c2 => unfold maxLen; omega
        case c3 => omega
        intro x3 y3 w3 hown hbel hsz hfar
        have HD3 := Lib.hid (def3 HD2.out HU.out hown hbel hfar)
        clear hown hbel hsz hfar
        go_wp2
        go_roundw
        case rel => exact ⟨k + 1, _, _, _, rfl, rfl, by omega, by go_num, HD3.out⟩
        case measure => simp [intOf]; omega
      · have p1 : (65 : Int) ≤ k := by omega
        have q1 : ¬ (k : Int) ≤ 90 := by omega
        have p3 : (97 : Int) ≤ k := by omega
        have p4 : (k : Int) ≤ 122 := by omega
        have HL := Lib.hid (lowC_no k (by omega) hlt)
        have HU := Lib.hid (upC_yes k (by omega) (by omega))
        have hw2 : IntKind.u8.wrap ((k : Int) - 32) = (k : Int) - 32 := IntWalk.u8_in _ (by omega)
        go_wp2_with (first
          | (at_builtin; refine app_far 22 3 (.int .i64 0) 8 Tryz.underlying22 infoI rfl wr rfl _ _ rfl (w.heap.size + 2) v1 _ _ _ _ rfl rfl HD.out.2.2.2.1 _ rfl rfl rfl ?c1 (by decide) hB1 ?c2 ?c3 ?_))
        case c1 => simp [Value.oneCell']
        case c2 => unfold maxLen; omega
        case c3 => omega
        intro x1 y1 w1 hown hbel hsz hfar
        have b1 := hbel wr (Below.refl _ _)
        have HD1 := Lib.hid (def1 HD.out hown hbel hfar)
        have g1 : w1.cell? ⟨w.heap.size + 1, 1, none⟩ = some v1 := (HD.out.2.2.1.under b1 (by omega)).cell 1
        have hf1 := (HD.out.2.2.1.under b1 (by omega)).free
        have hs1 : w.heap.size + 2 ≤ (w1.setCell ⟨w.heap.size + 1, 1, none⟩ (.slice (some ⟨x1, 0, none⟩) (k + 1) y1)).heap.size := HD1.out.2.2.1.lt
        clear hown hbel hsz hfar b1
        go_wp2_with (first
          | (at_builtin; refine app_far 80 5 (.int .u8 0) 1 Tryz.underlying80 infoU rfl (w1.setCell ⟨w.heap.size + 1, 1, none⟩ (.slice (some ⟨x1, 0, none⟩) (k + 1) y1)) rfl _ _ rfl (w.heap.size + 2) v2 _ _ _ _ rfl rfl HD1.out.2.2.2.2.1 w1.heap.size (by simp) rfl rfl ?c1 (by decide) hs1 ?c2 ?c3 ?_))
        case c1 => simp [Value.oneCell']
        case c2 => unfold maxLen; omega
        case c3 => omega
        intro x2 y2 w2 hown hbel hsz hfar
        have HD2 := Lib.hid (def2 HD1.out HL.out hown hbel hfar)
        have hs2 : w.heap.size + 2 ≤ w2.heap.size := HD2.out.2.2.1.lt
        clear hown hbel hsz hfar
        go_wp2_with (first
          | (at_builtin; refine app_far 80 5 (.int .u8 0) 1 Tryz.underlying80 infoU rfl w2 rfl _ _ rfl (w.heap.size + 2) v3 _ _ _ _ rfl rfl HD2.out.2.2.2.2.2.1 _ rfl rfl rfl ?c1 (by decide) hs2 ?c2 ?c3 ?_))
        case c1 => simp [Value.oneCell']
        case c2 => unfold maxLen; omega
        case c3 => omega
        intro x3 y3 w3 hown hbel hsz hfar
        have HD3 := Lib.hid (def3 HD2.out HU.out hown hbel hfar)
        clear hown hbel hsz hfar
        go_wp2
        go_roundw
        case rel => exact ⟨k + 1, _, _, _, rfl, rfl, by omega, by go_num, HD3.out⟩
        case measure => simp [intOf]; omega
      · have p1 : (65 : Int) ≤ k := by omega
        have q1 : ¬ (k : Int) ≤ 90 := by omega
        have p3 : (97 : Int) ≤ k := by omega
        have q4 : ¬ (k : Int) ≤ 122 := by omega
        have HL := Lib.hid (lowC_no k (by omega) hlt)
        have HU := Lib.hid (upC_no k (by omega) hlt)
        go_wp2_with (first
          | (at_builtin; refine app_far 22 3 (.int .i64 0) 8 Tryz.underlying22 infoI rfl wr rfl _ _ rfl (w.heap.size + 2) v1 _ _ _ _ rfl rfl HD.out.2.2.2.1 _ rfl rfl rfl ?c1 (by decide) hB1 ?c2 ?c3 ?_))
        case c1 => simp [Value.oneCell']
        case c2 => unfold maxLen; omega
        case c3 => omega
        intro x1 y1 w1 hown hbel hsz hfar
        have b1 := hbel wr (Below.refl _ _)
        have HD1 := Lib.hid (def1 HD.out hown hbel hfar)
        have g1 : w1.cell? ⟨w.heap.size + 1, 1, none⟩ = some v1 := (HD.out.2.2.1.under b1 (by omega)).cell 1
        have hf1 := (HD.out.2.2.1.under b1 (by omega)).free
        have hs1 : w.heap.size + 2 ≤ (w1.setCell ⟨w.heap.size + 1, 1, none⟩ (.slice (some ⟨x1, 0, none⟩) (k + 1) y1)).heap.size := HD1.out.2.2.1.lt
        clear hown hbel hsz hfar b1
        go_wp2_with (first
          | (at_builtin; refine app_far 80 5 (.int .u8 0) 1 Tryz.underlying80 infoU rfl (w1.setCell ⟨w.heap.size + 1, 1, none⟩ (.slice (some ⟨x1, 0, none⟩) (k + 1) y1)) rfl _ _ rfl (w.heap.size + 2) v2 _ _ _ _ rfl rfl HD1.out.2.2.2.2.1 w1.heap.size (by simp) rfl rfl ?c1 (by decide) hs1 ?c2 ?c3 ?_))
        case c1 => simp [Value.oneCell']
        case c2 => unfold maxLen; omega
        case c3 => omega
        intro x2 y2 w2 hown hbel hsz hfar
        have HD2 := Lib.hid (def2 HD1.out HL.out hown hbel hfar)
        have hs2 : w.heap.size + 2 ≤ w2.heap.size := HD2.out.2.2.1.lt
        clear hown hbel hsz hfar
        go_wp2_with (first
          | (at_builtin; refine app_far 80 5 (.int .u8 0) 1 Tryz.underlying80 infoU rfl w2 rfl _ _ rfl (w.heap.size + 2) v3 _ _ _ _ rfl rfl HD2.out.2.2.2.2.2.1 _ rfl rfl rfl ?c1 (by decide) hs2 ?c2 ?c3 ?_))
        case c1 => simp [Value.oneCell']
        case c2 => unfold maxLen; omega
        case c3 => omega
        intro x3 y3 w3 hown hbel hsz hfar
        have HD3 := Lib.hid (def3 HD2.out HU.out hown hbel hfar)
        clear hown hbel hsz hfar
        go_wp2
        go_roundw
        case rel => exact ⟨k + 1, _, _, _, rfl, rfl, by omega, by go_num, HD3.out⟩
        case measure => simp [intOf]; omega
    · obtain rfl : k = 256 := by omega
      obtain ⟨x1, cp1, rfl, hx1, _⟩ := HD.out.2.2.2.1.form (by omega)
      obtain ⟨X, hX⟩ : ∃ X : ByteArray, (⟨(lowL 256).toArray⟩ : ByteArray) = X := ⟨_, rfl⟩
      obtain ⟨Y, hY⟩ : ∃ Y : ByteArray, (⟨(upL 256).toArray⟩ : ByteArray) = Y := ⟨_, rfl⟩
      have hc1 := conv_bys HD.out.2.2.2.2.1 (by rw [lowL_len])
      rw [hX] at hc1
      have l1 := HD.out.2.2.1
      have c2 : wr.cell? ⟨w.heap.size + 1, 2, none⟩ = some (.string ⟨#[]⟩) := l1.cell 2
      have hf := l1.free
      have l2 := l1.put 2 (.string X)
      have o3 := ownsRow_setCell_below HD.out.2.2.2.2.2.1 (a := ⟨w.heap.size + 1, 2, none⟩) (by simp) (.string X)
      have hc2 := conv_bys o3 (by rw [upL_len])
      rw [hY] at hc2
      have d3 : (wr.setCell ⟨w.heap.size + 1, 2, none⟩ (.string X)).cell? ⟨w.heap.size + 1, 3, none⟩ = some (.string ⟨#[]⟩) := l2.cell 3
      have hf2 := l2.free
      have l3 := l2.put 3 (.string Y)
      have z3 := ((HD.out.2.1.apart (k := w.heap.size + 1) (j := 2) (.string X) (by omega)).apart (k := w.heap.size + 1) (j := 3) (.string Y) (by omega))
      have e0 : ((wr.setCell ⟨w.heap.size + 1, 2, none⟩ (.string X)).setCell ⟨w.heap.size + 1, 3, none⟩ (.string Y)).cell? ⟨w.heap.size + 1, 0, none⟩ = some (.string psx) := l3.cell 0
      have e1 : ((wr.setCell ⟨w.heap.size + 1, 2, none⟩ (.string X)).setCell ⟨w.heap.size + 1, 3, none⟩ (.string Y)).cell? ⟨w.heap.size + 1, 1, none⟩ = some (.slice (some ⟨x1, 0, none⟩) 256 cp1) := l3.cell 1
      have e2 : ((wr.setCell ⟨w.heap.size + 1, 2, none⟩ (.string X)).setCell ⟨w.heap.size + 1, 3, none⟩ (.string Y)).cell? ⟨w.heap.size + 1, 2, none⟩ = some (.string X) := l3.cell 2
      have e3 : ((wr.setCell ⟨w.heap.size + 1, 2, none⟩ (.string X)).setCell ⟨w.heap.size + 1, 3, none⟩ (.string Y)).cell? ⟨w.heap.size + 1, 3, none⟩ = some (.string Y) := l3.cell 3
      have e4 : ((wr.setCell ⟨w.heap.size + 1, 2, none⟩ (.string X)).setCell ⟨w.heap.size + 1, 3, none⟩ (.string Y)).cell? ⟨w.heap.size + 1, 4, none⟩ = some (.slice none 0 0) := l3.cell 4
      have e5 : ((wr.setCell ⟨w.heap.size + 1, 2, none⟩ (.string X)).setCell ⟨w.heap.size + 1, 3, none⟩ (.string Y)).cell? ⟨w.heap.size + 1, 5, none⟩ = some (.slice none 0 0) := l3.cell 5
      have y0 : ((wr.setCell ⟨w.heap.size + 1, 2, none⟩ (.string X)).setCell ⟨w.heap.size + 1, 3, none⟩ (.string Y)).cell? ⟨w.heap.size, 0, none⟩ = some (.string ⟨#[]⟩) := z3.cell 0
      have y1 : ((wr.setCell ⟨w.heap.size + 1, 2, none⟩ (.string X)).setCell ⟨w.heap.size + 1, 3, none⟩ (.string Y)).cell? ⟨w.heap.size, 1, none⟩ = some (.slice none 0 0) := z3.cell 1
      have y2 : ((wr.setCell ⟨w.heap.size + 1, 2, none⟩ (.string X)).setCell ⟨w.heap.size + 1, 3, none⟩ (.string Y)).cell? ⟨w.heap.size, 2, none⟩ = some (.string ⟨#[]⟩) := z3.cell 2
      have y3 : ((wr.setCell ⟨w.heap.size + 1, 2, none⟩ (.string X)).setCell ⟨w.heap.size + 1, 3, none⟩ (.string Y)).cell? ⟨w.heap.size, 3, none⟩ = some (.string ⟨#[]⟩) := z3.cell 3
      have y4 : ((wr.setCell ⟨w.heap.size + 1, 2, none⟩ (.string X)).setCell ⟨w.heap.size + 1, 3, none⟩ (.string Y)).cell? ⟨w.heap.size, 4, none⟩ = some (.slice none 0 0) := z3.cell 4
      have y5 : ((wr.setCell ⟨w.heap.size + 1, 2, none⟩ (.string X)).setCell ⟨w.heap.size + 1, 3, none⟩ (.string Y)).cell? ⟨w.heap.size, 5, none⟩ = some (.slice none 0 0) := z3.cell 5
      have hf3 := l3.free
      have hf4 := z3.free
      have hp := own_put6 (ownsRow_setCell_below (ownsRow_setCell_below HD.out.2.2.2.1 (a := ⟨w.heap.size + 1, 2, none⟩) (by simp) (.string X)) (a := ⟨w.heap.size + 1, 3, none⟩) (by simp) (.string Y)) w.heap.size (by omega) (.string psx) (.slice (some ⟨x1, 0, none⟩) 256 cp1) (.string X) (.string Y) (.slice none 0 0) (.slice none 0 0)
      have HP := Lib.hid hp
      have HZ3 := Lib.hid (z3.put6 (.string psx) (.slice (some ⟨x1, 0, none⟩) 256 cp1) (.string X) (.string Y) (.slice none 0 0) (.slice none 0 0))
      have HB3 := Lib.hid (below_put6 ((HD.out.1.setCell (p := ⟨w.heap.size + 1, 2, none⟩) (by simp) (.string X)).setCell (p := ⟨w.heap.size + 1, 3, none⟩) (by simp) (.string Y)) w.heap.size (Nat.le_refl _) (.string psx) (.slice (some ⟨x1, 0, none⟩) 256 cp1) (.string X) (.string Y) (.slice none 0 0) (.slice none 0 0))
      have HX := Lib.hid hX
      have HY := Lib.hid hY
      clear hp hX hY
      clear l1 l2 o3 l3 z3
      go_wp2
      have hv : (Value.agg #[.string psx, .slice (some ⟨x1, 0, none⟩) 256 cp1, .string X, .string Y, .slice none 0 0, .slice none 0 0]) = .agg (lcl Ldef (.slice (some ⟨x1, 0, none⟩) 256 cp1) (.slice none 0 0) (.slice none 0 0)) := by
        rw [lcl_def, HX.out, HY.out]
      exact bodyPost_ret (ret_loc Tryz.results21 _ _ w.heap.size _ rfl rfl HZ3.out) rfl ⟨x1, cp1, by omega, congrArg Ending.returned hv, HP.out, HB3.out⟩
theorem setT_ne : ∀ {l : List (List UInt8)} {p : Nat → Bool} {x : Int}, setT l p = .error x → (x == 0) = false := by
  intro l
  induction l with
  | nil => intro p x h; cases h
  | cons y l ih =>
    intro p x h
    simp only [setT] at h
    split at h
    · rename_i e he
      cases h
      exact spanT_ne he
    · exact ih h
theorem entryT_ne {st : Bool} {L : PL} {k : List UInt8} {r : List (List UInt8)} {x : Int} (h : entryT st L k r = .error x) : (x == 0) = false := by
  rw [← entry_eq] at h
  unfold entryR at h
  split at h
  · cases h; rfl
  · split at h
    · unfold changeR at h
      split at h
      · unfold classT at h
        split at h
        · cases h; rfl
        · split at h
          · cases h; rfl
          · split at h
            · cases h; rfl
            · split at h
              · rename_i e he
                cases h
                exact setT_ne he
              · cases h
      · split at h
        · rename_i e he
          cases h
          exact numsT_ne he
        · split at h
          · cases h
          · split at h
            · cases h
            · split at h
              · unfold elemR at h
                split at h
                · cases h; rfl
                · split at h
                  · cases h; rfl
                  · cases h
              · cases h
    · unfold beginT at h
      split at h
      · cases h; rfl
      · cases h
end Go.Proofs.YticfhbffoajgcaaGreatDoor
