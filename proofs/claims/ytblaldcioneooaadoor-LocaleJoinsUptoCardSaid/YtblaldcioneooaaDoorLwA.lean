/- The law's own small functions: the sample, and the tests of sameness. -/
import Derived.Test.YtblaldcioneooaaDoorRows
import Derived.Test.YtblaldcioneooaaDoorLrSplit
set_option linter.unusedVariables false
namespace Go.Proofs.YtblaldcioneooaaDoor
open Go.RowKit

/-- The locale of the chapter's first example. -/
def Lsam : Loc := { Ldef with ne := 1, et := fun _ => ⟨#[99, 104]⟩, ew := fun _ => 500 }
theorem lcl_sam (W C E : Value) : lcl Lsam W C E = lcl Ldef W C E := rfl
theorem SL_one {w : World} {g : Nat} (h : w.heap[g]? = some (.cells #[.string ⟨#[99, 104]⟩, .int .i64 500] 68 (0, 0))) : SL 2 1 (elmF Lsam) w (.slice (some ⟨g, 0, none⟩) 1 1) := by
  refine ⟨_, _, rfl, Nat.le_refl _, .inr ⟨g, 0, rfl, (Array.getElem?_eq_some_iff.1 h).1, fun j i hj hi => ?_⟩⟩
  obtain rfl : j = 0 := by omega
  have : i = 0 ∨ i = 1 := by omega
  rcases this with rfl | rfl
  · rw [cell_of_row w g _ _ _ _ h]; rfl
  · rw [cell_of_row w g _ _ _ _ h]; rfl

theorem elm_new (w1 : World) (c : Array Value) : ((w1.alloc (.cells c 26)).alloc (.cells #[.string ⟨#[99, 104]⟩, .int .i64 500] 68)).heap[w1.heap.size + 1]? = some (.cells #[.string ⟨#[99, 104]⟩, .int .i64 500] 68 (0, 0)) := by
  have := heap_alloc_new (w1.alloc (.cells c 26)) (.cells #[.string ⟨#[99, 104]⟩, .int .i64 500] 68)
  simpa using this

set_option maxRecDepth 100000 in
set_option maxHeartbeats 4000000 in
theorem sample_any (w : World) : Calls Tryd.prog 34 #[] w fun e w' => ∃ W E, e = .returned (.agg (lcl Lsam W (.slice none 0 0) E)) ∧ LocM w' Lsam W (.slice none 0 0) E ∧ Below w.heap.size w w' := by
  have HB : Hid (Below w.heap.size w (w.alloc (.cells zeroL 26))) := (Below.refl _ _).alloc (Nat.le_refl _) _
  have HA : Hid (LAt (w.alloc (.cells zeroL 26)) w.heap.size zeroL) := heap_alloc_new w _
  have HD := Lib.hid (default_any (w.alloc (.cells zeroL 26)))
  generalize hLo : (⟨(lowL 256).toArray⟩ : ByteArray) = Lo
  generalize hUp : (⟨(upL 256).toArray⟩ : ByteArray) = Up
  have hl : ∀ W C E, lcl Ldef W C E = #[.string psx, W, .string Lo, .string Up, C, E] := fun W C E => by rw [lcl_def, hLo, hUp]
  have hl2 : ∀ W C E, lcl Lsam W C E = #[.string psx, W, .string Lo, .string Up, C, E] := fun W C E => by rw [lcl_sam, hl]
  simp only [hl] at HD
  simp only [hl2]
  unfold zeroL at HB HA HD
  clear hl hl2 hLo hUp
  go_enter Tryd.func34, Tryd.ntmps34
  go_wp2_with (first
    | (go_at_call 10
       refine HD.out.mono ?_
       rintro e w1 ⟨x, y, hx, rfl, hm, hb⟩
       have HM := Lib.hid hm
       have HB1 := Lib.hid (HB.out.trans (hb.mono HB.out.size))
       have a1 := HA.out.under hb HA.out.lt
       have HA1 := Lib.hid a1
       have hB2 : Below w1.heap.size w1 ((w1.alloc (.cells #[.string psx, .slice (some ⟨x, 0, none⟩) 256 y, .string Lo, .string Up, .slice none 0 0, .slice (some ⟨w1.heap.size + 1, 0, none⟩) 1 1] 26)).alloc (.cells #[.string ⟨#[99, 104]⟩, .int .i64 500] 68)) := ((Below.refl _ _).alloc (Nat.le_refl _) _).alloc (by simp) _
       have HB2 := Lib.hid (HB1.out.trans (hB2.mono HB1.out.size))
       have a2 := a1.under hB2 a1.lt
       have HA2 := Lib.hid a2
       have HE2 : Hid (((w1.alloc (.cells #[.string psx, .slice (some ⟨x, 0, none⟩) 256 y, .string Lo, .string Up, .slice none 0 0, .slice (some ⟨w1.heap.size + 1, 0, none⟩) 1 1] 26)).alloc (.cells #[.string ⟨#[99, 104]⟩, .int .i64 500] 68)).heap[w1.heap.size + 1]? = some (.cells #[.string ⟨#[99, 104]⟩, .int .i64 500] 68 (0, 0))) := Lib.hid (elm_new _ _)
       have HM2 := Lib.hid (hm.1.below hB2)
       obtain ⟨⟨y0, y1, y2⟩, ⟨y3, y4, y5⟩, hg⟩ := a2.six
       clear hb hm hx a1 a2 hB2))
  refine bodyPost_ret (ret_loc Tryd.results34 _ _ w.heap.size _ rfl rfl (LAt.put6 HA2.out _ _ _ _ _ _)) rfl ⟨_, _, rfl, ⟨?_, SL_nil _ _ _, ?_⟩, below_put6 HB2.out _ (Nat.le_refl _) _ _ _ _ _ _⟩
  · exact SL.putf HM2.out 0 (by decide) (fun b o _ h => lat_ne HA2.out h) _ _ _ _ _ _
  · refine SL_one ?_
    have h1 := HA1.out.lt
    exact (put6_far _ w.heap.size (w1.heap.size + 1) (by omega) _ _ _ _ _ _).trans HE2.out

/-- Is a string an element? -/
def prD (V : Loc) (x : ByteArray) : Bool := (List.range V.ne).any fun k => eqS (V.et k) x
set_option maxRecDepth 100000 in
set_option maxHeartbeats 4000000 in
theorem pair_any (V : Loc) (hV : Ok V) (E : Value) (x : ByteArray) (w : World) (hS : SL 2 V.ne (elmF V) w E) :
    Calls Tryd.prog 12 #[E, .string x] w fun e w' => e = .returned (.bool (prD V x)) ∧ w = w' := by
  obtain ⟨R, hR⟩ : ∃ R, prD V x = R := ⟨_, rfl⟩
  rw [hR]
  have HR := Lib.hid hR
  have h64 := hV.ne
  clear hR
  obtain ⟨a, cap, rfl, hcap, hcells⟩ := hS
  have HC := Lib.hid hcells
  have h64i : (V.ne : Int) ≤ 64 := by omega
  clear hcells
  go_enter Tryd.func12, Tryd.ntmps12
  go_wp2
  go_loopw [5] (fun i wr => ∃ k : Nat, k ≤ V.ne ∧ i = .int .i64 k ∧ Hid (∀ q, q < k → eqS (V.et q) x = false) ∧ wr = w) (fun i _ => V.ne - (intOf i).toNat)
  case atStart => exact ⟨0, Nat.zero_le _, rfl, fun q hq => by omega, rfl⟩
  case round =>
    obtain ⟨k, hk, rfl, HQ, rfl⟩ := hrel
    by_cases hkn : k < V.ne
    · have ki : (k : Int) < V.ne := by omega
      have ki0 : (0 : Int) ≤ k := by omega
      rcases HC.out with h0 | ⟨b, off, rfl, hlt, hc⟩
      · omega
      have ck0 : wr.cell? ⟨b, off + k * 2, none⟩ = some (.string (V.et k)) := hc k 0 hkn (by decide)
      clear hc hlt
      obtain ⟨D, hD⟩ : ∃ D, ((V.et k).toList == x.toList) = D := ⟨_, rfl⟩
      have HD : Hid (eqS (V.et k) x = D) := hD
      rcases bool_tf D with hd | hd
      · subst hd
        have HN : Hid (R = true) := by
          show R = true
          rw [← HR.out]
          exact List.any_eq_true.2 ⟨k, by simpa using hkn, HD.out⟩
        go_wp2
        go_ret
        exact ⟨by rw [HN.out] <;> rfl, rfl⟩
      · subst hd
        go_wp2
        go_roundw
        case rel =>
          refine ⟨k + 1, by omega, by go_num, fun q hq => ?_, trivial⟩
          by_cases e : q = k
          · subst e; exact HD.out
          · exact HQ.out q (by omega)
        case measure => simp [intOf]; omega
    · obtain rfl : k = V.ne := by omega
      have HN : Hid (R = false) := by
        show R = false
        rw [← HR.out]
        unfold prD
        rw [List.any_eq_false]
        intro q hq
        rw [HQ.out q (by simpa using hq)]
        decide
      go_wp2
      go_ret
      exact ⟨by rw [HN.out] <;> rfl, rfl⟩

set_option maxRecDepth 100000 in
set_option maxHeartbeats 8000000 in
theorem sameLocale_any (L : Loc) (hw : L.nw = 256) (hc : L.nc = 0) (he : L.ne = 0) (W1 C1 E1 W2 C2 E2 : Value) (w : World) (h1 : LocM w L W1 C1 E1) (h2 : LocM w L W2 C2 E2) :
    Calls Tryd.prog 23 #[.agg (lcl L W1 C1 E1), .agg (lcl L W2 C2 E2)] w fun e w' => e = .returned (.bool true) ∧ Below w.heap.size w w' := by
  have HB : Hid (Below w.heap.size w ((w.alloc (.cells (lcl L W1 C1 E1) 26)).alloc (.cells (lcl L W2 C2 E2) 26))) := ((Below.refl _ _).alloc (Nat.le_refl _) _).alloc (by simp) _
  have HA1 : Hid (LAt ((w.alloc (.cells (lcl L W1 C1 E1) 26)).alloc (.cells (lcl L W2 C2 E2) 26)) w.heap.size (lcl L W1 C1 E1)) := by
    show LAt _ _ _
    unfold LAt
    rw [Below.heap_alloc _ _ _ (by simp)]
    exact heap_alloc_new w _
  have HA2 : Hid (LAt ((w.alloc (.cells (lcl L W1 C1 E1) 26)).alloc (.cells (lcl L W2 C2 E2) 26)) (w.heap.size + 1) (lcl L W2 C2 E2)) := by
    show LAt _ _ _
    have := heap_alloc_new (w.alloc (.cells (lcl L W1 C1 E1) 26)) (.cells (lcl L W2 C2 E2) 26)
    unfold LAt
    simpa using this
  obtain ⟨⟨aw1, cw1, rfl, _, k1⟩, ⟨ac1, cc1, rfl, _⟩, ⟨ae1, ce1, rfl, _⟩⟩ := h1
  obtain ⟨⟨aw2, cw2, rfl, _, k2⟩, ⟨ac2, cc2, rfl, _⟩, ⟨ae2, ce2, rfl, _⟩⟩ := h2
  have HK1 := Lib.hid k1
  have HK2 := Lib.hid k2
  rw [hw] at HB HA1 HA2 HK1 HK2 ⊢
  rw [hc] at HB HA1 HA2 ⊢
  rw [he] at HB HA1 HA2 ⊢
  clear k1 k2 hw hc he
  rcases HK1.out with h0 | ⟨b1, o1, rfl, hl1, hc1⟩
  · omega
  rcases HK2.out with h0 | ⟨b2, o2, rfl, hl2, hc2⟩
  · omega
  have HC1 := Lib.hid hc1
  have HC2 := Lib.hid hc2
  have HL1 := Lib.hid hl1
  have HL2 := Lib.hid hl2
  clear hc1 hc2 hl1 hl2
  unfold lcl at *
  go_enter Tryd.func23, Tryd.ntmps23
  go_wp2
  go_loopw [5] (fun i wr => ∃ k : Nat, k ≤ 256 ∧ i = .int .i64 k ∧ Hid (Below (w.heap.size + 2) ((w.alloc (.cells #[.string L.name, .slice (some ⟨b1, o1, none⟩) 256 cw1, .string L.lower, .string L.upper, .slice ac1 0 cc1, .slice ae1 0 ce1] 26)).alloc (.cells #[.string L.name, .slice (some ⟨b2, o2, none⟩) 256 cw2, .string L.lower, .string L.upper, .slice ac2 0 cc2, .slice ae2 0 ce2] 26)) wr)) (fun i _ => 256 - (intOf i).toNat)
  case atStart => exact ⟨0, Nat.zero_le _, rfl, Below.refl _ _⟩
  case round =>
    obtain ⟨k, hk, rfl, HBr⟩ := hrel
    obtain ⟨⟨x0, x1, x2⟩, ⟨x3, x4, x5⟩, hf⟩ := (HA1.out.under HBr.out (by omega)).six
    obtain ⟨⟨y0, y1, y2⟩, ⟨y3, y4, y5⟩, hg⟩ := (HA2.out.under HBr.out (by omega)).six
    have HBw := Lib.hid (HB.out.trans (HBr.out.mono (by omega)))
    clear hf hg
    by_cases hkn : k < 256
    · have ki : (k : Int) < 256 := by omega
      have ki0 : (0 : Int) ≤ k := by omega
      have c1 : wr.cell? ⟨b1, o1 + k, none⟩ = some (.int .i64 (L.wt k)) := by
        rw [HBw.out.cell (by exact HL1.out)]
        have := HC1.out k 0 hkn (by decide)
        simpa [wtF] using this
      have c2 : wr.cell? ⟨b2, o2 + k, none⟩ = some (.int .i64 (L.wt k)) := by
        rw [HBw.out.cell (by exact HL2.out)]
        have := HC2.out k 0 hkn (by decide)
        simpa [wtF] using this
      generalize L.wt k = X at c1 c2
      go_wp2
      go_quiet (fail)
      go_wp2
      go_roundw
      case rel => exact ⟨k + 1, by omega, by go_num, below_drewN HBr.out _⟩
      case measure => simp [intOf]; omega
    · obtain rfl : k = 256 := by omega
      rename World => wA
      go_wp2
      go_loopw [6] (fun i wr => i = .int .i64 0 ∧ wr = wA) (fun _ _ => 0)
      case atStart => exact ⟨rfl, rfl⟩
      case round =>
        obtain ⟨rfl, rfl⟩ := hrel
        rename World => wA
        go_wp2
        go_loopw [7] (fun i wr => i = .int .i64 0 ∧ wr = wA) (fun _ _ => 0)
        case atStart => exact ⟨rfl, rfl⟩
        case round =>
          obtain ⟨rfl, rfl⟩ := hrel
          go_wp2
          go_ret
          exact ⟨rfl, HBw.out⟩
end Go.Proofs.YtblaldcioneooaaDoor
