/- RsEndA. -/
import Derived.Test.YtfgcnknmiclfnaaDoorPb28
set_option linter.unusedVariables false
set_option maxRecDepth 100000
set_option maxHeartbeats 8000000
namespace Go.Proofs.YtfgcnknmiclfnaaDoor
open Go.RowKit
def EI (L : List IN) (ln : Bool) (s : List UInt8) (n E last : Nat) (fd : Bool) : Prop :=
  (fd = true ∧ valL L = true ∧ last < E ∧ Mt L ln s n last ∧ ∀ e, e < E → Mt L ln s n e → e ≤ last) ∨ (fd = false ∧ last = 0 ∧ (valL L = true → ∀ e, e < E → ¬ Mt L ln s n e))
theorem EI.start (L : List IN) (ln : Bool) (s : List UInt8) (n : Nat) : EI L ln s n n 0 false :=
  .inr ⟨rfl, rfl, fun _ e he hm => by have := hm.le; omega⟩
def EJ (L : List IN) (zs : List Nat) (E last0 : Nat) (fd0 : Bool) (j last : Nat) (fd : Bool) : Prop :=
  (fd = true ∧ last = E ∧ ∃ i b, i < j ∧ zs[i]? = some b ∧ opAt L b 6 = true) ∨ (fd = fd0 ∧ last = last0 ∧ ∀ i b, i < j → zs[i]? = some b → opAt L b 6 = false)
theorem EJ.start (L : List IN) (zs : List Nat) (E last0 : Nat) (fd0 : Bool) : EJ L zs E last0 fd0 0 last0 fd0 := .inr ⟨rfl, rfl, fun i b h => by omega⟩
theorem EJ.hit {L : List IN} {zs : List Nat} {E last0 : Nat} {fd0 : Bool} {j b : Nat} (hb : zs[j]? = some b) (ho : opAt L b 6 = true) : EJ L zs E last0 fd0 (j + 1) E true := .inl ⟨rfl, rfl, j, b, by omega, hb, ho⟩
theorem EJ.miss {L : List IN} {zs : List Nat} {E last0 : Nat} {fd0 : Bool} {j last b : Nat} {fd : Bool} (h : EJ L zs E last0 fd0 j last fd) (hb : zs[j]? = some b) (ho : opAt L b 6 = false) : EJ L zs E last0 fd0 (j + 1) last fd := by
  rcases h with ⟨h1, h2, i, c, h3, h4, h5⟩ | ⟨h1, h2, h3⟩
  · exact .inl ⟨h1, h2, i, c, by omega, h4, h5⟩
  · refine .inr ⟨h1, h2, fun i c hi hc => ?_⟩
    by_cases e : i = j
    · subst e; rw [hb] at hc; cases hc; exact ho
    · exact h3 i c (by omega) hc
theorem EJ.done {L : List IN} {ln : Bool} {s : List UInt8} {zs : List Nat} {n E last0 last : Nat} {fd0 fd : Bool} (h : EJ L zs E last0 fd0 zs.length last fd) (hT : TSpec L ln s (n : Int) (E : Int) zs) (h0 : EI L ln s n E last0 fd0) : EI L ln s n (E + 1) last fd := by
  rcases h with ⟨rfl, rfl, i, b, h3, h4, h5⟩ | ⟨rfl, rfl, h3⟩
  · obtain ⟨hv, n', m', e1, e2, h6, h7, h8, h9⟩ := (hT.2 b).1 (List.mem_iff_getElem?.2 ⟨i, h4⟩)
    obtain rfl : n = n' := by omega
    obtain rfl : last = m' := by omega
    exact .inl ⟨rfl, hv, by omega, ⟨h7, b, h5, h9⟩, fun e he _ => by omega⟩
  · have hno : valL L = true → ¬ Mt L ln s n E := fun hv hm => by
      obtain ⟨h6, b, h7, h8⟩ := hm
      obtain ⟨i, hi⟩ := List.mem_iff_getElem?.1 ((hT.2 b).2 ⟨hv, n, E, rfl, rfl, h8.le, h6, op6_trm h7, h8⟩)
      have := h3 i b (List.getElem?_eq_some_iff.1 hi).1 hi
      rw [h7] at this
      cases this
    rcases h0 with ⟨rfl, hv, h5, h6, h7⟩ | ⟨rfl, rfl, h6⟩
    · refine .inl ⟨rfl, hv, by omega, h6, fun e he hm => ?_⟩
      by_cases e1 : e = E
      · subst e1; exact absurd hm (hno hv)
      · exact h7 e (by omega) hm
    · refine .inr ⟨rfl, rfl, fun hv e he hm => ?_⟩
      by_cases e1 : e = E
      · subst e1; exact hno hv hm
      · exact h6 hv e (by omega) hm
theorem EI.done {L : List IN} {ln : Bool} {s : List UInt8} {n last te : Nat} {fd ok : Bool} (h : EI L ln s n (s.length + 1) last fd) (hl : LSpec L ln s (n : Int) te ok) : ok = fd ∧ te = last := by
  rcases h with ⟨rfl, hv, h5, h6, h7⟩ | ⟨rfl, rfl, h6⟩
  · rcases hl with ⟨rfl, _, n', e1, l1, l2⟩ | ⟨rfl, rfl, l1⟩
    · obtain rfl : n = n' := by omega
      have a := h7 te (by have := l1.1; omega) l1
      have b := l2 last h6
      exact ⟨rfl, by omega⟩
    · exact absurd h6 (l1 hv n rfl last)
  · rcases hl with ⟨rfl, hv, n', e1, l1, l2⟩ | ⟨rfl, rfl, l1⟩
    · obtain rfl : n = n' := by omega
      exact absurd l1 (h6 hv te (by have := l1.1; omega))
    · exact ⟨rfl, rfl⟩
theorem ts_lt {L : List IN} {ln : Bool} {s : List UInt8} {a c : Int} {zs : List Nat} (h : TSpec L ln s a c zs) {b : Nat} (hb : b ∈ zs) : b < L.length := by
  have h1 := (h.2 b).1 hb
  obtain ⟨_, _, _, _, _, _, _, h2, _⟩ := h1
  unfold trm at h2
  cases e : L[b]? with
  | none => rw [e] at h2; cases h2
  | some x => exact (List.getElem?_eq_some_iff.1 e).1
theorem rows_after {w0 : World} {n : Nat} {L : List IN} {ad : Option Addr} {cap : Nat} (h : PI w0 n L (.slice ad L.length cap)) (h1 : 1 ≤ L.length) : ∃ b i0, ad = some ⟨b, i0, none⟩ ∧ b < w0.heap.size ∧ ∀ (k : Nat) (hk : k < L.length) (W : World), Below w0.heap.size w0 W → ∀ j u, (rowI (L[k]'hk))[j]? = some u → j < 7 → W.cell? ⟨b, i0 + k * 7 + j, none⟩ = some u := by
  obtain ⟨ad2, cap2, e2, _, h2⟩ := h
  cases e2
  rcases h2 with h2 | ⟨b, i, e1, _, e3, e4⟩
  · omega
  · exact ⟨b, i, e1, e3, fun k hk W hW j u hu hj => by rw [hW.cell (p := ⟨b, i + k * 7 + j, none⟩) e3, e4 k hk j hj, hu]⟩
theorem sorted_len : ∀ (zs : List Nat) (lo m : Nat), zs.Pairwise (· < ·) → (∀ z ∈ zs, lo ≤ z ∧ z < m) → zs.length ≤ m - lo
  | [], _, _, _, _ => Nat.zero_le _
  | z :: r, lo, m, hp, hm => by
    have h1 := List.pairwise_cons.1 hp
    have h2 := sorted_len r (z + 1) m h1.2 (fun y hy => ⟨h1.1 y hy, (hm y (List.mem_cons_of_mem _ hy)).2⟩)
    have h3 := hm z List.mem_cons_self
    simp only [List.length_cons]
    omega
theorem ts_len {L : List IN} {ln : Bool} {s : List UInt8} {a c : Int} {zs : List Nat} (h : TSpec L ln s a c zs) : zs.length ≤ L.length :=
  sorted_len zs 0 L.length h.1 (fun z hz => ⟨Nat.zero_le _, ts_lt h hz⟩)
theorem few_any (L : List IN) (pv : Value) (n0 : Nat) (ln : Bool) (sv : ByteArray) (w : World) (hp : PI w n0 L pv) :
    Calls Tryd.prog 8 #[.agg #[pv, .bool ln], .string sv] w fun e w' => e = .returned (.bool (decide (L.length ≤ 60) && decide (sv.size ≤ 24))) ∧ Below w.heap.size w w' := by
  obtain ⟨ad, cap, rfl, hcap, hcells⟩ := hp
  have hb := (Below.refl w.heap.size w).alloc (Nat.le_refl _) (.cells #[.slice ad L.length cap, .bool ln] 24)
  have hbx := heap_alloc_new w (.cells #[.slice ad L.length cap, .bool ln] 24)
  obtain ⟨W, hW⟩ : ∃ W, W = w.alloc (.cells #[.slice ad L.length cap, .bool ln] 24) := ⟨_, rfl⟩
  rw [← hW] at hb hbx
  have q0 := cell_of_row W w.heap.size 0 _ _ _ hbx
  have hlW : w.heap.size < W.heap.size := (Array.getElem?_eq_some_iff.1 hbx).1
  have HB := Lib.hid hb
  have HW := Lib.hid hW
  clear hb hbx hW hcells
  by_cases h1 : L.length ≤ 60
  · have i1 : (L.length : Int) ≤ 60 := by omega
    have HE : Hid ((decide (L.length ≤ 60) && decide (sv.size ≤ 24)) = decide (sv.size ≤ 24)) := Lib.hid (by simp [h1])
    clear h1
    by_cases h2 : sv.size ≤ 24
    · have i2 : (sv.size : Int) ≤ 24 := by omega
      have HE2 : Hid ((decide (L.length ≤ 60) && decide (sv.size ≤ 24)) = true) := Lib.hid (by rw [HE.out]; simp [h2])
      clear h2
      go_enter Tryd.func8, Tryd.ntmps8
      go_upto_region 1 with fail
      rw [← HW.out]
      go_wp2_with fail
      go_ret
      exact ⟨by rw [HE2.out]; rfl, HB.out⟩
    · have i2 : ¬ ((sv.size : Int) ≤ 24) := by omega
      have HE2 : Hid ((decide (L.length ≤ 60) && decide (sv.size ≤ 24)) = false) := Lib.hid (by rw [HE.out]; simp; omega)
      clear h2
      go_enter Tryd.func8, Tryd.ntmps8
      go_upto_region 1 with fail
      rw [← HW.out]
      go_wp2_with fail
      go_ret
      exact ⟨by rw [HE2.out]; rfl, HB.out⟩
  · have i1 : ¬ ((L.length : Int) ≤ 60) := by omega
    have HE2 : Hid ((decide (L.length ≤ 60) && decide (sv.size ≤ 24)) = false) := Lib.hid (by simp; omega)
    clear h1
    go_enter Tryd.func8, Tryd.ntmps8
    go_upto_region 1 with fail
    rw [← HW.out]
    go_wp2_with fail
    go_ret
    exact ⟨by rw [HE2.out]; rfl, HB.out⟩
end Go.Proofs.YtfgcnknmiclfnaaDoor
