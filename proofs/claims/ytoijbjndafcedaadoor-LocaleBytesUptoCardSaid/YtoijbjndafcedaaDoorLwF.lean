/- The law LocaleBytes: the default locale goes by bytes. (Written by gen_lwf.py.) -/
import Derived.Test.YtoijbjndafcedaaDoorRows
import Derived.Test.YtoijbjndafcedaaDoorLwB
set_option linter.unusedVariables false
namespace Go.Proofs.YtoijbjndafcedaaDoor
open Go.RowKit

theorem def_none (l : List UInt8) : eIx Ldef l = none := by
  unfold eIx
  rw [show Ldef.ne = 0 from rfl]
  rfl
theorem def_stN (l : List UInt8) : stN Ldef l = 1 := by
  unfold stN
  rw [def_none]
theorem def_stW (l : List UInt8) : stW Ldef l = ((l.headD 0).toNat : Int) := by
  unfold stW
  rw [def_none]
  rfl
theorem pcs_def (l : List UInt8) : pcs Ldef l = l.map fun c => [c] := by
  induction l with
  | nil => rfl
  | cons c r ih =>
    rw [pcs_cons Ldef _ (by simp), def_stN]
    simpa using ih
theorem wts_def (l : List UInt8) : wts Ldef l = bI l := by
  induction l with
  | nil => rfl
  | cons c r ih =>
    rw [wts_cons Ldef _ (by simp), def_stN, def_stW]
    simpa [bI] using ih
theorem cmpL_def (a b : List UInt8) : cmpL Ldef a b = ord (bI a) (bI b) := by
  unfold cmpL
  rw [wts_def, wts_def]
  split <;> rfl
/-- The locale of the law's last comparison: a name and nothing else. -/
def Lnone : Loc := { name := ⟨#[110, 111, 110, 101]⟩, lower := ⟨#[]⟩, upper := ⟨#[]⟩, nw := 0, wt := fun _ => 0, nc := 0, cn := fun _ => ⟨#[]⟩, cset := fun _ _ => false, ne := 0, et := fun _ => ⟨#[]⟩, ew := fun _ => 0 }
theorem vld_none : vld Lnone = Ldef := by
  unfold vld
  rw [if_neg]
  unfold chk
  rw [if_neg (show ¬ Lnone.nw = 256 by decide)]
  split <;> decide
theorem locM_none (w : World) : LocM w Lnone (.slice none 0 0) (.slice none 0 0) (.slice none 0 0) := ⟨SL_nil _ _ _, SL_nil _ _ _, SL_nil _ _ _⟩
theorem bytes_none (a b : ByteArray) (w : World) :
    Calls Tryd.prog 17 #[.agg #[.string ⟨#[110, 111, 110, 101]⟩, .slice none 0 0, .string ⟨#[]⟩, .string ⟨#[]⟩, .slice none 0 0, .slice none 0 0], .string a, .string b] w fun e w' => e = .returned (.int .i64 (ord (bI a.data.toList) (bI b.data.toList))) ∧ Below w.heap.size w w' := by
  have h := pCompare_any Lnone _ _ _ a b w (locM_none w)
  rw [vld_none, cmpL_def] at h
  exact h
theorem SL.one {n : Nat} {f : Nat → Nat → Value} {w : World} {b o m cap j : Nat} (h : SL 1 n f w (.slice (some ⟨b, o, none⟩) m cap)) (hj : j < n) : w.cell? ⟨b, o + j, none⟩ = some (f j 0) := by
  obtain ⟨a, cap', e, _, h⟩ := h
  rcases h with h | ⟨b', o', ha, _, h⟩
  · omega
  simp only [Value.slice.injEq] at e
  obtain ⟨rfl, -, -⟩ := e
  simp only [Option.some.injEq, Addr.mk.injEq] at ha
  obtain ⟨rfl, rfl, -⟩ := ha
  simpa using h j 0 hj (by decide)
/-- The default locale in its block. -/
def BS (w0 : World) (g : Nat) (Lo Up : ByteArray) (x y : Nat) (w : World) : Prop := LAt w g #[.string psx, .slice (some ⟨x, 0, none⟩) 256 y, .string Lo, .string Up, .slice none 0 0, .slice none 0 0] ∧ LocM w Ldef (.slice (some ⟨x, 0, none⟩) 256 y) (.slice none 0 0) (.slice none 0 0) ∧ Below w0.heap.size w0 w
theorem BS.drew {w0 w : World} {g : Nat} {Lo Up : ByteArray} {x y : Nat} (h : BS w0 g Lo Up x y w) : BS w0 g Lo Up x y w.drew := ⟨h.1, h.2.1.below (Below.refl _ _).drew, h.2.2.drew⟩
theorem BS.keep {w0 w w' : World} {g : Nat} {Lo Up : ByteArray} {x y : Nat} (hb : Below w.heap.size w w') (h : BS w0 g Lo Up x y w) : BS w0 g Lo Up x y w' := ⟨h.1.under hb h.1.lt, h.2.1.below hb, h.2.2.trans (hb.mono h.2.2.size)⟩
/-- .. and the pieces of a string. -/
def BT (w0 : World) (g : Nat) (Lo Up : ByteArray) (x y n : Nat) (X : List (List UInt8)) (v : Value) (w : World) : Prop := BS w0 g Lo Up x y w ∧ SL 1 n (fun j _ => .string (mkS (X.getD j []))) w v
theorem BT.drew {w0 w : World} {g : Nat} {Lo Up : ByteArray} {x y n : Nat} {X : List (List UInt8)} {v : Value} (h : BT w0 g Lo Up x y n X v w) : BT w0 g Lo Up x y n X v w.drew := ⟨h.1.drew, h.2.below (Below.refl _ _).drew⟩
theorem BT.keep {w0 w w' : World} {g : Nat} {Lo Up : ByteArray} {x y n : Nat} {X : List (List UInt8)} {v : Value} (hb : Below w.heap.size w w') (h : BT w0 g Lo Up x y n X v w) : BT w0 g Lo Up x y n X v w' := ⟨h.1.keep hb, h.2.below hb⟩
theorem piece_eq (s : ByteArray) (k : Nat) (hk : k < s.size) : ((mkS ((s.data.toList.map fun c => [c]).getD k [])).toList == (s.extract k (k + 1)).toList) = true := by
  rw [Lib.extract_eq, Nat.add_sub_cancel_left, beq_iff_eq]
  have hl : k < s.data.toList.length := by rw [size_data]; exact hk
  congr 2
  rw [List.getD_eq_getElem?_getD, List.getElem?_map, List.getElem?_eq_getElem hl, List.drop_eq_getElem_cons hl]
  rfl

set_option maxRecDepth 100000 in
set_option maxHeartbeats 16000000 in
theorem bytes_law (s t : ByteArray) (hs : s.size ≤ 4294967280) (ht : t.size ≤ 4294967280) (w : World) (hT : tabAt w) :
    Calls Tryd.prog 10 #[.string s, .string t] w fun e w' => e = .returned (.bool true) ∧ Below w.heap.size w w' := by
  have HT := Lib.hid hT
  have HTk := Lib.hid (fun (wx : World) (hb : Below w.heap.size w wx) => tab_keep HT.out hb)
  have HAw := Lib.hid awake_any
  have HD := Lib.hid pDefault_any
  have H1 := Lib.hid (fun (W C E : Value) => pSplit_any Ldef W C E s hs)
  have H2 := Lib.hid (rBytes_any s t hs ht)
  have H3 := Lib.hid (fun (W C E : Value) => pCompare_any Ldef W C E s t)
  have H4 := Lib.hid (bytes_none s t)
  have hlen : (s.data.toList.map fun c => [c]).length = s.size := by rw [List.length_map, size_data]
  have HQ := Lib.hid (piece_eq s)
  simp only [vld_def, pcs_def] at H1
  simp only [vld_def, cmpL_def] at H3
  unfold TL at H1
  rw [hlen] at H1
  generalize (s.data.toList.map fun c => [c]) = X at H1 HQ
  generalize ord (bI s.data.toList) (bI t.data.toList) = R at H2 H3 H4
  generalize hLo : (⟨(lowL 256).toArray⟩ : ByteArray) = Lo
  generalize hUp : (⟨(upL 256).toArray⟩ : ByteArray) = Up
  have hl : ∀ W C E, lcl Ldef W C E = #[.string psx, W, .string Lo, .string Up, C, E] := fun W C E => by rw [lcl_def, hLo, hUp]
  simp only [hl] at HD H1 H3
  clear hl hLo hUp hlen hT HT
  go_enter Tryd.func10, Tryd.ntmps10
  go_wp2_with (first
    | (go_at_call 34
       refine (HD.out _).mono ?_
       rintro e w1 ⟨x, y, hx, rfl, hm, hb⟩
       have hb2 : Below w1.heap.size w1 (w1.alloc (.cells #[.string psx, .slice (some ⟨x, 0, none⟩) 256 y, .string Lo, .string Up, .slice none 0 0, .slice none 0 0] 26)) := (Below.refl _ _).alloc (Nat.le_refl _) _
       have hE : BS w w1.heap.size Lo Up x y (w1.alloc (.cells #[.string psx, .slice (some ⟨x, 0, none⟩) 256 y, .string Lo, .string Up, .slice none 0 0, .slice none 0 0] 26)) := ⟨heap_alloc_new w1 _, hm.below hb2, hb.trans (hb2.mono hb.size)⟩
       obtain ⟨⟨y0, y1, y2⟩, ⟨y3, y4, y5⟩, hf⟩ := hE.1.six
       have HE := Lib.hid hE
       clear hx hm hb hb2 hE hf)
    | (go_at_call 15
       refine (H1.out _ _ _ _ HE.out.2.1).mono ?_
       rintro e w2 ⟨v, rfl, hv, hb⟩
       have hE := HE.out.keep hb
       clear y0 y1 y2 y3 y4 y5 HE
       have hE2 : BT w w1.heap.size Lo Up x y s.size X v w2 := ⟨hE, hv⟩
       obtain ⟨a, cap, rfl, hc, hcells⟩ := hv
       have HE2 := Lib.hid hE2
       clear hb hE hE2 hc hcells))
  go_loopw [7] (fun i wr => ∃ k : Nat, k ≤ s.size ∧ i = .int .i64 k ∧ Hid (BT w w1.heap.size Lo Up x y s.size X (.slice a s.size cap) wr)) (fun i _ => s.size - (intOf i).toNat)
  case atStart => exact ⟨0, Nat.zero_le _, rfl, HE2.out⟩
  case round =>
    obtain ⟨k, hk, rfl, HB⟩ := hrel
    clear HE2
    by_cases hkn : k < s.size
    · have ki : (k : Int) < s.size := by omega
      have ki0 : (0 : Int) ≤ k := by omega
      have ki1 : (k : Int) + 1 ≤ s.size := by omega
      have kw : IntKind.i64.wrap ((k : Int) + 1) = (k : Int) + 1 := IntWalk.i64_in _ (by omega)
      have kn : ((k : Int) + 1).toNat = k + 1 := by omega
      have ki2 : (k : Int) ≤ k + 1 := by omega
      have ki3 : (0 : Int) ≤ (k : Int) + 1 := by omega
      obtain ⟨b, o, rfl⟩ : ∃ b o, a = some ⟨b, o, none⟩ := by
        obtain ⟨a', cap', e, _, h⟩ := HB.out.2
        rcases h with h | ⟨b, o, ha, _, _⟩
        · omega
        · simp only [Value.slice.injEq] at e
          exact ⟨b, o, e.1.trans ha⟩
      have HPq := Lib.hid (HQ.out k hkn)
      generalize hx : mkS (X.getD k []) = xk at HPq
      have HXk := Lib.hid hx
      clear hx
      go_wp2
      refine wp_region_held_drew (S := fun w' => BT w w1.heap.size Lo Up x y s.size X (.slice (some ⟨b, o, none⟩) s.size cap) w') (by kernel_rfl) ?_ (fun hHeld => ?_)
      · exact HB.out.drew
      refine wpAnyH_take (i := 0) (v := ?av0) rfl (by kernel_rfl) (by kernel_rfl) (by kernel_rfl) (fun _ _ _ h => h) (Or.inl ⟨by rfl, ?ay0⟩) (by assumption) ?ar0
      case ay0 =>
        intro wx hSw
        clear hSw
        go_simp
        first | done | (with_reducible rfl)
      (try simp only [Act.put, List.getElem_toArray, List.getElem_cons_zero, List.setIfInBounds_toArray, List.set_cons_zero, List.set_cons_succ])
      refine wpAnyH_take (i := 1) (v := ?av1) rfl (by kernel_rfl) (by kernel_rfl) (by kernel_rfl) (fun _ _ _ h => h) (Or.inl ⟨by rfl, ?ay1⟩) (by assumption) ?ar1
      case ay1 =>
        intro wx hSw
        clear hSw
        go_simp
        first | done | (with_reducible rfl)
      (try simp only [Act.put, List.getElem_toArray, List.getElem_cons_succ, List.getElem_cons_zero, List.setIfInBounds_toArray, List.set_cons_zero, List.set_cons_succ])
      refine wpAnyH_take (i := 2) (v := ?av2) rfl (by kernel_rfl) (by kernel_rfl) (by kernel_rfl) (fun _ _ _ h => h) (Or.inl ⟨by rfl, ?ay2⟩) (by assumption) ?ar2
      case ay2 =>
        intro wx hSw
        clear hSw
        go_simp
        first | done | (with_reducible rfl)
      (try simp only [Act.put, List.getElem_toArray, List.getElem_cons_succ, List.getElem_cons_zero, List.setIfInBounds_toArray, List.set_cons_zero, List.set_cons_succ])
      refine wpAnyH_take (i := 3) (v := ?av3) rfl (by kernel_rfl) (by kernel_rfl) (by kernel_rfl) (fun _ _ _ h => h) (Or.inl ⟨by rfl, ?ay3⟩) (by assumption) ?ar3
      case ay3 =>
        intro wx hSw
        have hcell : wx.cell? ⟨b, o + k, none⟩ = some (.string xk) := HXk.out ▸ hSw.2.one hkn
        clear hSw
        go_simp
        first | done | (with_reducible rfl)
      (try simp only [Act.put, List.getElem_toArray, List.getElem_cons_succ, List.getElem_cons_zero, List.setIfInBounds_toArray, List.set_cons_zero, List.set_cons_succ])
      refine wpAnyH_take (i := 4) (v := ?av4) rfl (by kernel_rfl) (by kernel_rfl) (by kernel_rfl) (fun _ _ _ h => h) (Or.inl ⟨by rfl, ?ay4⟩) (by assumption) ?ar4
      case ay4 =>
        intro wx hSw
        clear hSw
        go_simp
        first | done | (with_reducible rfl)
      (try simp only [Act.put, List.getElem_toArray, List.getElem_cons_succ, List.getElem_cons_zero, List.setIfInBounds_toArray, List.set_cons_zero, List.set_cons_succ])
      refine wpAnyH_take (i := 5) (v := ?av5) rfl (by kernel_rfl) (by kernel_rfl) (by kernel_rfl) (fun _ _ _ h => h) (Or.inl ⟨by rfl, ?ay5⟩) (by assumption) ?ar5
      case ay5 =>
        intro wx hSw
        clear hSw
        go_simp
        first | done | (with_reducible rfl)
      (try simp only [Act.put, List.getElem_toArray, List.getElem_cons_succ, List.getElem_cons_zero, List.setIfInBounds_toArray, List.set_cons_zero, List.set_cons_succ])
      refine wpAnyH_take (i := 6) (v := ?av6) rfl (by kernel_rfl) (by kernel_rfl) (by kernel_rfl) (fun _ _ _ h => h) (Or.inl ⟨by rfl, ?ay6⟩) (by assumption) ?ar6
      case ay6 =>
        intro wx hSw
        clear hSw
        go_simp
        first | done | (with_reducible rfl)
      (try simp only [Act.put, List.getElem_toArray, List.getElem_cons_succ, List.getElem_cons_zero, List.setIfInBounds_toArray, List.set_cons_zero, List.set_cons_succ])
      refine wpAnyH_take (i := 7) (v := ?av7) rfl (by kernel_rfl) (by kernel_rfl) (by kernel_rfl) (fun _ _ _ h => h) (Or.inl ⟨by rfl, ?ay7⟩) (by assumption) ?ar7
      case ay7 =>
        intro wx hSw
        clear hSw
        go_simp
        first | done | (with_reducible rfl)
      (try simp only [Act.put, List.getElem_toArray, List.getElem_cons_succ, List.getElem_cons_zero, List.setIfInBounds_toArray, List.set_cons_zero, List.set_cons_succ])
      refine wpAnyH_take (i := 8) (v := ?av8) rfl (by kernel_rfl) (by kernel_rfl) (by kernel_rfl) (fun _ _ _ h => h) (Or.inl ⟨by rfl, ?ay8⟩) (by assumption) ?ar8
      case ay8 =>
        intro wx hSw
        clear hSw
        go_simp
        first | done | (with_reducible rfl)
      (try simp only [Act.put, List.getElem_toArray, List.getElem_cons_succ, List.getElem_cons_zero, List.setIfInBounds_toArray, List.set_cons_zero, List.set_cons_succ])
      refine wpAnyH_take (i := 9) (v := ?av9) rfl (by kernel_rfl) (by kernel_rfl) (by kernel_rfl) (fun _ _ _ h => h) (Or.inl ⟨by rfl, ?ay9⟩) (by assumption) ?ar9
      case ay9 =>
        intro wx hSw
        have hq := HPq.out
        clear hSw
        go_simp
        first | done | (with_reducible rfl)
      (try simp only [Act.put, List.getElem_toArray, List.getElem_cons_succ, List.getElem_cons_zero, List.setIfInBounds_toArray, List.set_cons_zero, List.set_cons_succ])
      refine wpAnyH_done (by kernel_rfl) ?_ _
      have HH := Lib.hid hHeld
      clear hHeld HPq HXk HB
      go_wp2
      go_roundw
      case rel => exact ⟨k + 1, by omega, by go_num, HH.out⟩
      case measure => simp [intOf]; omega
    · obtain rfl : k = s.size := by omega
      obtain ⟨⟨y0, y1, y2⟩, ⟨y3, y4, y5⟩, hf⟩ := HB.out.1.1.six
      clear hf
      go_wp2_with (first
        | (go_at_call 35
           refine (H2.out _).mono ?_
           rintro e w3 ⟨rfl, hb⟩
           have hE := HB.out.1.keep hb
           clear y0 y1 y2 y3 y4 y5
           obtain ⟨⟨y0, y1, y2⟩, ⟨y3, y4, y5⟩, hf⟩ := hE.1.six
           have HM3 := Lib.hid hE.2.1
           have HB3 := Lib.hid hE.2.2
           clear hE hb hf)
        | (go_at_call 17
           with_reducible refine (H3.out _ _ _ _ HM3.out).mono ?_
           rintro e w4 ⟨rfl, hb⟩
           have HB4 := Lib.hid (HB3.out.trans (hb.mono HB3.out.size))
           clear hb)
        | (go_at_call 17
           with_reducible refine (H4.out _).mono ?_
           rintro e w5 ⟨rfl, hb⟩
           have HB5 := Lib.hid (HB4.out.trans (hb.mono HB4.out.size))
           clear hb)
        | (go_at_call 13
           refine (HAw.out _ (HTk.out _ HB5.out)).mono ?_
           rintro e w6 ⟨rfl, hb⟩
           have HB6 := Lib.hid (HB5.out.trans (hb.mono HB5.out.size))
           clear hb))
      go_ret
      exact ⟨rfl, HB6.out⟩
end Go.Proofs.YtoijbjndafcedaaDoor
