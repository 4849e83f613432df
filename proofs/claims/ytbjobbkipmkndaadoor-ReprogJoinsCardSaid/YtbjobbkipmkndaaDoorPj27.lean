/- RpLawG, RpJa. -/
import Derived.Test.YtbjobbkipmkndaaDoorPj24
import Derived.Test.YtbjobbkipmkndaaDoorPj26
import Derived.Deep.QuietTactic
import Derived.BigQuiet
import Derived.Test.YtbjobbkipmkndaaDoorPj25
import Derived.Deep.RegionLaw
import Derived.Deep.RegionHeld3
import Derived.BigGuardPart
set_option linter.unusedVariables false
set_option linter.unusedSimpArgs false
set_option maxRecDepth 100000
set_option maxHeartbeats 8000000
namespace Go.Proofs.YtbjobbkipmkndaaDoor
open Go.RowKit
theorem pl_step (f : F) (hch : ∀ i, i < f.len → PlG (f.nth i).args) : PlG f := by
  intro o l h g st sv w S hsv hS hlen hsh
  unfold plT plN
  by_cases o6 : o = 6
  · subst o6
    by_cases h1 : f.len = 1
    · rw [if_pos ⟨rfl, h1⟩]
      have := pl_group f hch h1 l h g st sv w S hsv hS hsh
      rw [show (plF (⟨6, st, l, h, g, f⟩ : TN).args).nth 0 = plT (f.nth 0) from plF_nth f 0 (by omega)]
      exact this
    · rw [if_neg (fun k => h1 k.2)]
      exact pl_nodeb f hch l h g st sv w S hsv hS hlen hsh h1
  · rw [if_neg (fun k => o6 k.1)]
    exact pl_nodea f hch o l h g st sv w S hsv hS hlen hsh (by simpa using o6)
theorem pl_all : ∀ (f : F) (i : Nat), i < f.len → PlG (f.nth i).args
  | .nil, i, h => by cases h
  | .cons o s l h g a r, 0, hi => pl_step a (pl_all a)
  | .cons o s l h g a r, i + 1, hi => pl_all r i (by have : i + 1 < r.len + 1 := hi; omega)
theorem pl_any (f : F) : PlG f := pl_step f (pl_all f)
theorem pl_fits : ∀ f : F, f.fits → (plF f).fits
  | .nil, _ => trivial
  | .cons o s l h g a r, hf => by
    have ha := pl_fits a hf.2.2.1
    have hr := pl_fits r hf.2.2.2
    refine fits_cons.2 ⟨?_, hr⟩
    show fitN (plN ⟨o, s, l, h, g, a⟩ (plF a))
    unfold plN
    by_cases h6 : o = 6 ∧ a.len = 1
    · rw [if_pos h6]
      exact fits_nth0 ha (by rw [plF_len]; omega)
    · rw [if_neg h6]
      exact ⟨hf.1, by show (plF a).len ≤ maxLen; rw [plF_len]; exact hf.2.1, ha, trivial⟩
theorem pl_fitN {t : TN} (h : fitN t) : fitN (plT t) := by
  have := pl_fits (.cons t.op t.st t.lo t.hi t.g t.args .nil) h
  exact (fits_cons.1 this).1
theorem same_any (L : List IN) (v1 v2 : Value) (n m : Nat) (w : World) (h1 : PI w n L v1) (h2 : PI w m L v2) (hl : L.length ≤ 1000000) : Calls Tryd.prog 15 #[v1, v2] w fun e w' => e = .returned (.bool true) ∧ Below w.heap.size w w' := by
  obtain ⟨ad1, cap1, rfl, hc1, hce1⟩ := h1
  obtain ⟨ad2, cap2, rfl, hc2, hce2⟩ := h2
  have hlI : (L.length : Int) ≤ 1000000 := by omega
  have HC1 := Lib.hid hce1
  have HC2 := Lib.hid hce2
  clear hce1 hce2 hc1 hc2
  go_enter Tryd.func15, Tryd.ntmps15
  go_wp2_with fail
  go_loopw [5] (fun i wr => ∃ (k : Nat), k ≤ L.length ∧ i = .int .i64 k ∧ Hid (Below w.heap.size w wr)) (fun i _ => L.length - (intOf i).toNat)
  case atStart => exact ⟨0, Nat.zero_le _, rfl, Lib.hid (Below.refl _ _)⟩
  case round =>
    obtain ⟨k, hk, rfl, HR⟩ := hrel
    by_cases hkn : k < L.length
    · have ki : (k : Int) < L.length := by omega
      have ki0 : (0 : Int) ≤ k := by omega
      obtain ⟨b1, i1, rfl, hbl1, hcc1⟩ : ∃ b i, ad1 = some ⟨b, i, none⟩ ∧ b < w.heap.size ∧ ∀ (k : Nat) (hk : k < L.length) (j : Nat), j < 7 → w.cell? ⟨b, i + k * 7 + j, none⟩ = (rowI (L[k]'hk))[j]? := by
        rcases HC1.out with h1 | ⟨b, i, e1, _, e2, e3⟩
        · omega
        · exact ⟨b, i, e1, e2, e3⟩
      obtain ⟨b2, i2, rfl, hbl2, hcc2⟩ : ∃ b i, ad2 = some ⟨b, i, none⟩ ∧ b < w.heap.size ∧ ∀ (k : Nat) (hk : k < L.length) (j : Nat), j < 7 → w.cell? ⟨b, i + k * 7 + j, none⟩ = (rowI (L[k]'hk))[j]? := by
        rcases HC2.out with h1 | ⟨b, i, e1, _, e2, e3⟩
        · omega
        · exact ⟨b, i, e1, e2, e3⟩
      have hp : ∀ j u, (rowI L[k])[j]? = some u → j < 7 → wr.cell? ⟨b1, i1 + k * 7 + j, none⟩ = some u := fun j u hu hj => (HR.out.cell (by exact hbl1)).trans ((hcc1 k hkn j hj).trans hu)
      have hq : ∀ j u, (rowI L[k])[j]? = some u → j < 7 → wr.cell? ⟨b2, i2 + k * 7 + j, none⟩ = some u := fun j u hu hj => (HR.out.cell (by exact hbl2)).trans ((hcc2 k hkn j hj).trans hu)
      generalize L[k] = i at *
      have p0 := hp 0 _ rfl (by decide)
      have q0 := hq 0 _ rfl (by decide)
      have p1 := hp 1 _ rfl (by decide)
      have q1 := hq 1 _ rfl (by decide)
      have p2 := hp 2 _ rfl (by decide)
      have q2 := hq 2 _ rfl (by decide)
      have p3 := hp 3 _ rfl (by decide)
      have q3 := hq 3 _ rfl (by decide)
      have p4 := hp 4 _ rfl (by decide)
      have q4 := hq 4 _ rfl (by decide)
      have p5 := hp 5 _ rfl (by decide)
      have q5 := hq 5 _ rfl (by decide)
      have p6 := hp 6 _ rfl (by decide)
      have q6 := hq 6 _ rfl (by decide)
      rw [Nat.add_zero] at p0 q0
      have HNq := neq_IN i i
      have he : eqIN i i = true := by unfold eqIN; rw [eqc_self]; simp
      rw [he] at HNq
      clear hp hq hcc1 hcc2 he
      go_upto_region 6 with fail
      go_quiet (fail)
      go_wp2_with fail
      go_roundw
      case rel => exact ⟨k + 1, by omega, by go_num, Lib.hid (below_drewN HR.out _)⟩
      case measure => simp [intOf]; omega
    · obtain rfl : k = L.length := by omega
      go_wp2_with fail
      go_ret
      exact ⟨rfl, HR.out⟩
end Go.Proofs.YtbjobbkipmkndaaDoor
set_option linter.unusedVariables false
set_option linter.unusedSimpArgs false
set_option maxRecDepth 100000
set_option maxHeartbeats 16000000
namespace Go.Proofs.YtbjobbkipmkndaaDoor
open Go.RowKit
theorem plain_sv {w0 w : World} {t : TN} {sv : Value} (h : TI w0 t sv) (hb : Below w0.heap.size w0 w) (hN : fitN t) (hs : t.args.len ≤ 1599289640354 ∧ shF t.args) : Calls Tryd.prog 14 #[.agg #[.int .i64 t.op, .int .u64 (wd t.st 0 64 : Nat), .int .u64 (wd t.st 64 64 : Nat), .int .u64 (wd t.st 128 64 : Nat), .int .u64 (wd t.st 192 64 : Nat), .int .i64 t.lo, .int .i64 t.hi, .int .i64 t.g, sv]] w fun e w' => ∃ sv', e = .returned (.agg #[.int .i64 (plT t).op, .int .u64 (wd (plT t).st 0 64 : Nat), .int .u64 (wd (plT t).st 64 64 : Nat), .int .u64 (wd (plT t).st 128 64 : Nat), .int .u64 (wd (plT t).st 192 64 : Nat), .int .i64 (plT t).lo, .int .i64 (plT t).hi, .int .i64 (plT t).g, sv']) ∧ SV w' (Frm w.heap.size) (plT t).args sv' ∧ Below w.heap.size w w' := by
  obtain ⟨S, h1, h2, h3⟩ := h.below hb
  exact pl_any t.args t.op t.lo t.hi t.g t.st sv w S h1 h2 hs.1 hs.2
theorem ti_sv {w : World} {S : Nat → Prop} {t : TN} {sv : Value} (h : SV w S t.args sv) (hf : fitN t) : TI w t sv := ⟨_, SV.low h, fun b hb => hb.2, ⟨hf.2.1, hf.2.2.1⟩, hf.1.2.2.2⟩
theorem set_size (w : World) (a : Addr) (v : Value) : (w.setCell a v).heap.size = w.heap.size := by simp [World.setCell]
theorem nine_set (w : World) (P : Nat) (x0 x1 x2 x3 x4 x5 x6 x7 x8 : Value) (old : Array Value) (t : TypeId) (hl : old.size = 9) (h : w.heap[P]? = some (.cells old t (0, 0))) : ((((((((((w).setCell ⟨P, 0, none⟩ x0).setCell ⟨P, 1, none⟩ x1).setCell ⟨P, 2, none⟩ x2).setCell ⟨P, 3, none⟩ x3).setCell ⟨P, 4, none⟩ x4).setCell ⟨P, 5, none⟩ x5).setCell ⟨P, 6, none⟩ x6).setCell ⟨P, 7, none⟩ x7).setCell ⟨P, 8, none⟩ x8).heap[P]? = some (.cells #[x0, x1, x2, x3, x4, x5, x6, x7, x8] t (0, 0)) := by
  obtain ⟨l⟩ := old
  match l, hl with
  | [o0, o1, o2, o3, o4, o5, o6, o7, o8], _ =>
    have h0 := heap_setCell_same w P 0 _ _ x0 h
    have h1 := heap_setCell_same _ P 1 _ _ x1 h0
    have h2 := heap_setCell_same _ P 2 _ _ x2 h1
    have h3 := heap_setCell_same _ P 3 _ _ x3 h2
    have h4 := heap_setCell_same _ P 4 _ _ x4 h3
    have h5 := heap_setCell_same _ P 5 _ _ x5 h4
    have h6 := heap_setCell_same _ P 6 _ _ x6 h5
    have h7 := heap_setCell_same _ P 7 _ _ x7 h6
    have h8 := heap_setCell_same _ P 8 _ _ x8 h7
    simp only [List.setIfInBounds_toArray, List.set_cons_succ, List.set_cons_zero] at h8
    exact h8
theorem nine_other (w : World) (P k : Nat) (hk : k ≠ P) (x0 x1 x2 x3 x4 x5 x6 x7 x8 : Value) : ((((((((((w).setCell ⟨P, 0, none⟩ x0).setCell ⟨P, 1, none⟩ x1).setCell ⟨P, 2, none⟩ x2).setCell ⟨P, 3, none⟩ x3).setCell ⟨P, 4, none⟩ x4).setCell ⟨P, 5, none⟩ x5).setCell ⟨P, 6, none⟩ x6).setCell ⟨P, 7, none⟩ x7).setCell ⟨P, 8, none⟩ x8).heap[k]? = w.heap[k]? := by
  rw [Below.heap_setCell _ ⟨P, 8, none⟩ _ k hk]
  rw [Below.heap_setCell _ ⟨P, 7, none⟩ _ k hk]
  rw [Below.heap_setCell _ ⟨P, 6, none⟩ _ k hk]
  rw [Below.heap_setCell _ ⟨P, 5, none⟩ _ k hk]
  rw [Below.heap_setCell _ ⟨P, 4, none⟩ _ k hk]
  rw [Below.heap_setCell _ ⟨P, 3, none⟩ _ k hk]
  rw [Below.heap_setCell _ ⟨P, 2, none⟩ _ k hk]
  rw [Below.heap_setCell _ ⟨P, 1, none⟩ _ k hk]
  rw [Below.heap_setCell _ ⟨P, 0, none⟩ _ k hk]
theorem nine_size (w : World) (P : Nat) (x0 x1 x2 x3 x4 x5 x6 x7 x8 : Value) : ((((((((((w).setCell ⟨P, 0, none⟩ x0).setCell ⟨P, 1, none⟩ x1).setCell ⟨P, 2, none⟩ x2).setCell ⟨P, 3, none⟩ x3).setCell ⟨P, 4, none⟩ x4).setCell ⟨P, 5, none⟩ x5).setCell ⟨P, 6, none⟩ x6).setCell ⟨P, 7, none⟩ x7).setCell ⟨P, 8, none⟩ x8).heap.size = w.heap.size := by
  rw [set_size, set_size, set_size, set_size, set_size, set_size, set_size, set_size, set_size]
theorem nine_below {B : Nat} {a w : World} (P : Nat) (x0 x1 x2 x3 x4 x5 x6 x7 x8 : Value) (h : Below B a w) (hP : B ≤ P) : Below B a ((((((((((w).setCell ⟨P, 0, none⟩ x0).setCell ⟨P, 1, none⟩ x1).setCell ⟨P, 2, none⟩ x2).setCell ⟨P, 3, none⟩ x3).setCell ⟨P, 4, none⟩ x4).setCell ⟨P, 5, none⟩ x5).setCell ⟨P, 6, none⟩ x6).setCell ⟨P, 7, none⟩ x7).setCell ⟨P, 8, none⟩ x8) :=
  ((((((((h.setCell hP _).setCell hP _).setCell hP _).setCell hP _).setCell hP _).setCell hP _).setCell hP _).setCell hP _).setCell hP _
theorem bd_prg (t : TN) (h : (prgT t).length ≤ 4096) : ∀ i ∈ prgT t, Bd i := by
  intro i hi
  have hl := prg_len t
  unfold prgT at hi
  rcases List.mem_append.1 hi with hi | hi
  · have hk := Gd_codT t 0 i hi
    rcases hk with k | ⟨k1, ⟨k2, k3⟩, k4, k5⟩ | ⟨k1, k2, k3⟩
    · exact ⟨fun e => by omega, fun e => by omega⟩
    · exact ⟨fun _ => ⟨⟨by omega, by omega⟩, by omega, by omega⟩, fun e => by omega⟩
    · exact ⟨fun e => by omega, fun _ => ⟨by omega, by omega⟩⟩
  · obtain rfl := List.mem_singleton.1 hi
    exact ⟨fun e => absurd e (by decide), fun e => absurd e (by decide)⟩
theorem rowsI_app (A B : List IN) : rowsI (A ++ B) = rowsI A ++ rowsI B := by simp [rowsI]
theorem rowsI_one (L : List IN) : ∀ u ∈ rowsI L, u.oneCell' = true := by
  intro u hu
  obtain ⟨i, _, hi⟩ := List.mem_flatMap.1 hu
  unfold rowI at hi
  simp only [List.mem_cons, List.not_mem_nil, or_false] at hi
  rcases hi with rfl | rfl | rfl | rfl | rfl | rfl | rfl <;> rfl
theorem add_offJ (b o j : Nat) : (⟨b, o, none⟩ : Addr).add j = ⟨b, o + j, none⟩ := by unfold Addr.add; split <;> simp_all
theorem pi_rows {W : World} {n : Nat} {L : List IN} {ad : Option Addr} {cap : Nat} (h : PI W n L (.slice ad L.length cap)) (h1 : 1 ≤ L.length) : L.length ≤ cap ∧ ∃ b i, ad = some ⟨b, i, none⟩ ∧ ∀ m j u, (rowsI (L.take m))[j]? = some u → W.cell? ((⟨b, i, none⟩ : Addr).add j) = some u := by
  obtain ⟨ad2, cap2, e2, hc, h2⟩ := h
  cases e2
  refine ⟨hc, ?_⟩
  rcases h2 with h2 | ⟨b, i, e1, _, e3, e4⟩
  · omega
  · refine ⟨b, i, e1, fun m j u hu => ?_⟩
    have hu2 : (rowsI L)[j]? = some u := by
      rw [← List.take_append_drop m L, rowsI_app, List.getElem?_append_left (List.getElem?_eq_some_iff.1 hu).1]
      exact hu
    have hj : j < L.length * 7 := by rw [← rowsI_len]; exact (List.getElem?_eq_some_iff.1 hu2).1
    have hk : j / 7 < L.length := by omega
    have hr := rowsI_get L (j / 7) hk (j % 7) (Nat.mod_lt _ (by decide))
    have e5 : j / 7 * 7 + j % 7 = j := by omega
    rw [e5] at hr
    have := e4 (j / 7) hk (j % 7) (Nat.mod_lt _ (by decide))
    rw [add_offJ, show i + j = i + j / 7 * 7 + j % 7 by omega, this, ← hr]
    exact hu2
theorem sp_row (x y : Int) : rowI (sp x y) = [.int .i64 2, .int .u64 0, .int .u64 0, .int .u64 0, .int .u64 0, .int .i64 x, .int .i64 y] := by
  unfold rowI sp
  rw [wd_noSet.1, wd_noSet.2.1, wd_noSet.2.2.1, wd_noSet.2.2.2]
  rfl
theorem wpList_app_rows {ops : Array Oper} {rest : List Oper} {o : Oper} {a : Act} {Q : Exit → Act → World → Prop} {w : World} (hgd : o.guard = none) (s x : Operand)
    (ho : o.op = .call { callee := .builtin .append, args := #[s, x], argTypes := #[22, 22] })
    (B : Nat) (v : Value) (n : Nat) (A : List IN) (hs : a.eval s = v) (hown : w.ownsRow B 39 7 v n (rowsI A)) (ad : Addr) (m c : Nat) (L : List IN) (hx : a.eval x = .slice (some ad) m c) (hl : L.length = m) (hnews : ∀ j u, (rowsI L)[j]? = some u → w.cell? (ad.add j) = some u)
    (h63 : n + m ≤ 1000000) (hB : B ≤ w.heap.size)
    (h : ∀ v' w', w'.ownsRow B 39 7 v' (n + m) (rowsI (A ++ L)) → Below B w w' → wpList Tryd.prog ops Q rest (a.put o.dst v') w') : wpList Tryd.prog ops Q (o :: rest) a w := by
  obtain ⟨i0, hi0, hz0, hz1, hz2⟩ := info_parts infoI
  refine wpList_append_own w hgd s x 22 ho B 39 i0 _ 7 56 Tryd.underlying22 hi0 hz0 hz1 hz2 rfl (by omega) v n (rowsI A) hs hown ad m c (rowsI L) hx (by rw [rowsI_len, hl]) hnews (rowsI_one L) (by unfold maxLen; omega) (by omega) hB ?_
  intro v' w' ho' hg _
  rw [← rowsI_app] at ho'
  exact h v' w' ho' ((Below.refl _ _).grown hg hB (fun j e => (World.ownsRow.lt hown j e).1))
end Go.Proofs.YtbjobbkipmkndaaDoor
