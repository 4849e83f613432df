/- RpTx, RpTxR, RpTxG. -/
import Derived.Test.YtbjobbkipmkndaaDoorPp20
import Derived.Test.YtbjobbkipmkndaaDoorPp21
import Derived.Laws.OwnMore
import Derived.Laws.AppendOwnNone
import Derived.Laws.IdiomStrings
import Derived.Lib.AppendStr
import Derived.Lib.SmallJoins
import Derived.OwnWalk
import Derived.Deep.RegionLaw
import Derived.Deep.RegionHeld3
import Derived.BigGuardPart
import Derived.Deep.QuietTactic
import Derived.BigQuiet
set_option linter.unusedVariables false
set_option linter.unusedSimpArgs false
set_option maxRecDepth 100000
set_option maxHeartbeats 8000000
namespace Go.Proofs.YtbjobbkipmkndaaDoor
open Go.RowKit
def nt (n : Int) : List UInt8 := (fmtS n).data.toList
theorem bs_app (a b : List UInt8) : bs (a ++ b) = bs a ++ bs b := by
  apply ByteArray.ext
  simp [bs]
theorem bs_size (l : List UInt8) : (bs l).size = l.length := by simp [bs, ByteArray.size]
theorem nt_len (n : Int) (h1 : -9223372036854775808 ≤ n) (h2 : n ≤ 9223372036854775807) : (nt n).length ≤ 40 := by
  have h := txt_size n.natAbs (by omega)
  have e : (nt n).length = (fmtS n).size := rfl
  rw [e]
  unfold fmtS
  split
  · rw [ByteArray.size_append]
    have : (⟨#[45]⟩ : ByteArray).size = 1 := rfl
    omega
  · omega
def reF (p : Nat → Bool) : Nat → Nat → Nat
  | 0, i => i
  | d + 1, i => if p (i + 1) then reF p d (i + 1) else i
def re (p : Nat → Bool) (i : Nat) : Nat := reF p (255 - i) i
structure Run (p : Nat → Bool) (i e : Nat) : Prop where
  le : i ≤ e
  top : e ≤ 255
  all : ∀ c, i ≤ c → c ≤ e → p c = true
  stop : e < 255 → p (e + 1) = false
theorem reF_run (p : Nat → Bool) : ∀ d i, i + d = 255 → p i = true → Run p i (reF p d i)
  | 0, i, h, hi => ⟨Nat.le_refl _, by show i ≤ 255; omega, fun c h1 h2 => by have h2 : c ≤ i := h2; rw [show c = i by omega]; exact hi, fun h2 => by have h2 : i < 255 := h2; omega⟩
  | d + 1, i, h, hi => by
    unfold reF
    by_cases hp : p (i + 1) = true
    · rw [if_pos hp]
      have r := reF_run p d (i + 1) (by omega) hp
      refine ⟨by have := r.le; omega, r.top, fun c h1 h2 => ?_, r.stop⟩
      by_cases hc : c = i
      · rw [hc]; exact hi
      · exact r.all c (by omega) h2
    · rw [if_neg hp]
      exact ⟨Nat.le_refl _, by omega, fun c h1 h2 => by rw [show c = i by omega]; exact hi, fun _ => by simpa using hp⟩
theorem re_run (p : Nat → Bool) (i : Nat) (h : i < 256) (hi : p i = true) : Run p i (re p i) := reF_run p _ i (by omega) hi
theorem Run.uniq {p : Nat → Bool} {i e e' : Nat} (h : Run p i e) (k : Run p i e') : e = e' := by
  rcases Nat.lt_trichotomy e e' with h1 | h1 | h1
  · have := h.stop (by have := k.top; omega)
    rw [k.all (e + 1) (by have := h.le; omega) (by omega)] at this
    cases this
  · exact h1
  · have := k.stop (by have := h.top; omega)
    rw [h.all (e' + 1) (by have := k.le; omega) (by omega)] at this
    cases this
theorem Run.re {p : Nat → Bool} {i e : Nat} (h : Run p i e) : Proofs.YtbjobbkipmkndaaDoor.re p i = e := (re_run p i (by have := h.le; have := h.top; omega) (h.all i (Nat.le_refl _) h.le)).uniq h
def piece (i e : Nat) : List UInt8 := 32 :: nt i ++ (if i < e then 45 :: nt e else [])
def stt (p : Nat → Bool) (i : Nat) : Bool := p i && !(decide (0 < i) && p (i - 1))
def rgs (p : Nat → Bool) : Nat → List UInt8
  | 0 => []
  | n + 1 => rgs p n ++ (if stt p n then piece n (re p n) else [])
theorem piece_len (i e : Nat) (hi : i < 256) (he : e < 256) : (piece i e).length ≤ 82 := by
  have h1 := nt_len i (by omega) (by omega)
  have h2 := nt_len e (by omega) (by omega)
  unfold piece
  split <;> simp <;> omega
theorem rgs_len (p : Nat → Bool) : ∀ n, n ≤ 256 → (rgs p n).length ≤ 82 * n
  | 0, _ => by simp [rgs]
  | n + 1, h => by
    have ih := rgs_len p n (by omega)
    show (rgs p n ++ _).length ≤ _
    rw [List.length_append]
    by_cases hs : stt p n = true
    · rw [if_pos hs]
      have hp : p n = true := by unfold stt at hs; simp at hs; exact hs.1
      have := piece_len n (re p n) (by omega) (by have := (re_run p n (by omega) hp).top; omega)
      omega
    · rw [if_neg hs]
      simp; omega
theorem rgs_skip (p : Nat → Bool) (b : Nat) : ∀ n, b ≤ n → (∀ c, b ≤ c → c < n → stt p c = false) → rgs p n = rgs p b
  | 0, h, _ => by rw [show b = 0 by omega]
  | n + 1, h, hc => by
    by_cases hb : b = n + 1
    · rw [hb]
    · show rgs p n ++ _ = _
      rw [hc n (by omega) (by omega), rgs_skip p b n (by omega) (fun c h1 h2 => hc c h1 (by omega))]
      simp
theorem stt_no {p : Nat → Bool} {c : Nat} (h : p c = false) : stt p c = false := by unfold stt; rw [h]; rfl
theorem stt_in {p : Nat → Bool} {c : Nat} (h0 : 0 < c) (h : p (c - 1) = true) : stt p c = false := by unfold stt; simp [h, h0]
def tgT (i : IN) : List UInt8 := (tgs i).flatMap fun t => 32 :: nt t
def lineT (i : IN) : List UInt8 := kwd i.op ++ (if i.op = 1 then rgs i.st 256 else tgT i)
def instT (k : Nat) (i : IN) : List UInt8 := nt k ++ (32 :: lineT i ++ [10])
def linesT (L : List IN) : Nat → List UInt8
  | 0 => []
  | k + 1 => linesT L k ++ (match L[k]? with | some i => instT k i | none => [])
theorem linesT_succ (L : List IN) (k : Nat) (hk : k < L.length) : linesT L (k + 1) = linesT L k ++ instT k L[k] := by
  show _ ++ _ = _
  rw [List.getElem?_eq_getElem hk]
def headT (ln : Bool) : List UInt8 := if ln then [108, 105, 110, 101, 115, 10] else []
def prT (ln : Bool) (L : List IN) : List UInt8 := if valL L then headT ln ++ linesT L L.length else []
theorem kwd_len (o : Int) : (kwd o).length ≤ 5 := by
  unfold kwd
  by_cases h1 : o = 1
  · rw [if_pos h1]; decide
  by_cases h2 : o = 2
  · rw [if_neg h1, if_pos h2]; decide
  by_cases h3 : o = 3
  · rw [if_neg h1, if_neg h2, if_pos h3]; decide
  by_cases h4 : o = 4
  · rw [if_neg h1, if_neg h2, if_neg h3, if_pos h4]; decide
  by_cases h5 : o = 5
  · rw [if_neg h1, if_neg h2, if_neg h3, if_neg h4, if_pos h5]; decide
  by_cases h6 : o = 6
  · rw [if_neg h1, if_neg h2, if_neg h3, if_neg h4, if_neg h5, if_pos h6]; decide
  rw [if_neg h1, if_neg h2, if_neg h3, if_neg h4, if_neg h5, if_neg h6]; decide
end Go.Proofs.YtbjobbkipmkndaaDoor
set_option linter.unusedVariables false
set_option linter.unusedSimpArgs false
set_option maxRecDepth 100000
set_option maxHeartbeats 8000000
namespace Go.Proofs.YtbjobbkipmkndaaDoor
open Go.RowKit
theorem right_any (o : Int) (st : Nat → Bool) (x y : Int) (k n : Nat) (hk : k < n) (hn : n ≤ 9223372036854775807) (w : World) : Calls Tryd.prog 21 #[.agg #[.int .i64 o, .int .u64 (wd st 0 64 : Nat), .int .u64 (wd st 64 64 : Nat), .int .u64 (wd st 128 64 : Nat), .int .u64 (wd st 192 64 : Nat), .int .i64 x, .int .i64 y], .int .i64 k, .int .i64 n] w fun e w' => e = .returned (.bool (vOk n (decide (k + 1 = n)) ⟨o, st, x, y⟩)) ∧ Below w.heap.size w w' := by
  have hb := (Below.refl w.heap.size w).alloc (Nat.le_refl _) (.cells #[.int .i64 o, .int .u64 (wd st 0 64 : Nat), .int .u64 (wd st 64 64 : Nat), .int .u64 (wd st 128 64 : Nat), .int .u64 (wd st 192 64 : Nat), .int .i64 x, .int .i64 y] 39)
  have HB := Lib.hid hb
  have kI : (k : Int) < n := by omega
  have nI : (n : Int) ≤ 9223372036854775807 := by omega
  by_cases h1 : o = 1 ∨ o = 4 ∨ o = 5
  · have hv : Hid (vOk n (decide (k + 1 = n)) ⟨o, st, x, y⟩ = decide ((k : Int) + 1 < n)) := Lib.hid (by
      by_cases hl : k + 1 = n
      · have : ¬ ((k : Int) + 1 < n) := by omega
        rcases h1 with rfl | rfl | rfl <;> simp [vOk, kok, kgo, tgs, ktg, hl, this] <;> omega
      · have : ((k : Int) + 1 < n) := by omega
        rcases h1 with rfl | rfl | rfl <;> simp [vOk, kok, kgo, tgs, ktg, hl, this])
    rw [hv.out]
    clear hb
    rcases h1 with rfl | rfl | rfl
    all_goals go_enter Tryd.func21, Tryd.ntmps21
    all_goals go_wp2_with fail
    all_goals go_ret
    all_goals exact ⟨rfl, HB.out⟩
  by_cases h2 : o = 2
  · subst h2
    have hv : Hid (vOk n (decide (k + 1 = n)) ⟨2, st, x, y⟩ = (inR n x && inR n y)) := Lib.hid (by simp [vOk, kok, kgo, tgs, ktg])
    rw [hv.out]
    clear hb h1
    go_enter Tryd.func21, Tryd.ntmps21
    go_wp2_with fail
    all_goals go_ret
    all_goals exact ⟨by unfold inR; simp_all <;> (intros; omega), HB.out⟩
  by_cases h3 : o = 3
  · subst h3
    have hv : Hid (vOk n (decide (k + 1 = n)) ⟨3, st, x, y⟩ = inR n x) := Lib.hid (by simp [vOk, kok, kgo, tgs, ktg])
    rw [hv.out]
    clear hb h1 h2
    go_enter Tryd.func21, Tryd.ntmps21
    go_wp2_with fail
    all_goals go_ret
    all_goals exact ⟨by unfold inR; simp_all <;> (intros; omega), HB.out⟩
  have hv : Hid (vOk n (decide (k + 1 = n)) ⟨o, st, x, y⟩ = decide (o = 6)) := Lib.hid (by
    by_cases h6 : o = 6
    · subst h6; simp [vOk, kok, kgo, tgs, ktg]
    · have : kok o = false := by unfold kok; simp; omega
      simp [vOk, this, h6])
  rw [hv.out]
  have o1 : (o == 1) = false := by simp; omega
  have o2 : (o == 2) = false := by simp; omega
  have o3 : (o == 3) = false := by simp; omega
  have o4 : (o == 4) = false := by simp; omega
  have o5 : (o == 5) = false := by simp; omega
  have o6 : Hid ((o == 6) = decide (o = 6)) := Lib.hid rfl
  clear hb h1 h2 h3 hv
  go_enter Tryd.func21, Tryd.ntmps21
  go_wp2_with fail
  all_goals go_ret
  all_goals exact ⟨by first | rfl | (rw [o6.out]) | simp_all, HB.out⟩
theorem rvalid_any (L : List IN) (v : Value) (n0 : Nat) (ln : Bool) (w : World) (h : PI w n0 L v) (hL : L.length ≤ 9223372036854775807) : Calls Tryd.prog 9 #[.agg #[v, .bool ln]] w fun e w' => e = .returned (.bool (valL L)) ∧ Below w.heap.size w w' := by
  obtain ⟨ad, cap, rfl, hcap, hcells⟩ := h
  have hb : Below w.heap.size w (w.alloc (.cells #[.slice ad L.length cap, .bool ln] 24)) := (Below.refl _ _).alloc (Nat.le_refl _) _
  have hbx := heap_alloc_new w (.cells #[.slice ad L.length cap, .bool ln] 24)
  obtain ⟨W, hW⟩ : ∃ W, W = w.alloc (.cells #[.slice ad L.length cap, .bool ln] 24) := ⟨_, rfl⟩
  rw [← hW] at hb hbx
  have HW := Lib.hid hW
  have HB := Lib.hid hb
  have HBx := Lib.hid hbx
  have hlw : w.heap.size < W.heap.size := (Array.getElem?_eq_some_iff.1 hbx).1
  have HC := Lib.hid hcells
  have hLI : (L.length : Int) ≤ 9223372036854775807 := by omega
  have HRi := Lib.hid (fun (o : Int) (st : Nat → Bool) (x y : Int) (k : Nat) (hk : k < L.length) (W : World) => right_any o st x y k L.length hk hL W)
  have HV0 : Hid (vR L.length L = false → valL L = false) := Lib.hid (fun e => by unfold valL; rw [e]; simp)
  have HV1 : Hid (vR L.length L = true → valL L = (decide (1 ≤ L.length) && decide (L.length ≤ 4096))) := Lib.hid (fun e => by unfold valL; rw [e]; simp)
  clear hcells hb hbx hcap hW
  go_enter Tryd.func9, Tryd.ntmps9
  go_upto_region 1 with fail
  rw [← HW.out]
  go_wp2_with fail
  go_loopw [3] (fun i wr => ∃ (k : Nat), k ≤ L.length ∧ i = .int .i64 k ∧ Hid (Below W.heap.size W wr ∧ vR L.length L = vR L.length (L.drop k))) (fun i _ => L.length - (intOf i).toNat)
  case atStart => exact ⟨0, Nat.zero_le _, rfl, Lib.hid ⟨Below.refl _ _, by rw [List.drop_zero]⟩⟩
  case round =>
    obtain ⟨k, hk, rfl, HR⟩ := hrel
    have hbw := (HR.out.1.block w.heap.size hlw).trans HBx.out
    have b0 := cell_of_row wr w.heap.size 0 _ _ _ hbw
    have hlr : w.heap.size < wr.heap.size := (Array.getElem?_eq_some_iff.1 hbw).1
    by_cases hkn : k < L.length
    · have ki : (k : Int) < L.length := by omega
      have ki0 : (0 : Int) ≤ k := by omega
      obtain ⟨b, i0, rfl, hbl, hce⟩ : ∃ b i, ad = some ⟨b, i, none⟩ ∧ b < w.heap.size ∧ ∀ (k : Nat) (hk : k < L.length) (j : Nat), j < 7 → w.cell? ⟨b, i + k * 7 + j, none⟩ = (rowI (L[k]'hk))[j]? := by
        rcases HC.out with h1 | ⟨b, i, e1, _, e2, e3⟩
        · omega
        · exact ⟨b, i, e1, e2, e3⟩
      have hstep := HR.out.2
      rw [vR_drop _ L k hkn] at hstep
      have hc : ∀ j u, (rowI L[k])[j]? = some u → j < 7 → wr.cell? ⟨b, i0 + k * 7 + j, none⟩ = some u := fun j u hu hj => by
        rw [HR.out.1.cell (p := ⟨b, i0 + k * 7 + j, none⟩) (by have := HB.out.size; show b < W.heap.size; omega), HB.out.cell (p := ⟨b, i0 + k * 7 + j, none⟩) hbl, hce k hkn j hj, hu]
      obtain ⟨i, hi⟩ : ∃ i, i = L[k] := ⟨_, rfl⟩
      rw [← hi] at hstep hc
      have c0 := hc 0 _ rfl (by decide)
      have c1 := hc 1 _ rfl (by decide)
      have c2 := hc 2 _ rfl (by decide)
      have c3 := hc 3 _ rfl (by decide)
      have c4 := hc 4 _ rfl (by decide)
      have c5 := hc 5 _ rfl (by decide)
      have c6 := hc 6 _ rfl (by decide)
      rw [Nat.add_zero] at c0
      have HSt := Lib.hid hstep
      have HCl := Lib.hid (HRi.out i.op i.st i.x i.y k hkn)
      have eI : (⟨i.op, i.st, i.x, i.y⟩ : IN) = i := rfl
      rw [eI] at HCl
      have hlb : b < wr.heap.size := by have := HB.out.size; have := HR.out.1.size; omega
      obtain ⟨vb, hvb⟩ : ∃ vb, vb = vOk L.length (decide (k + 1 = L.length)) i := ⟨_, rfl⟩
      rw [← hvb] at HSt HCl
      clear hc hstep hbl hce hi hvb eI hbw
      go_upto_region 4 with fail
      go_region_law
        (first
          | (go_simp; go_at_call 21; (with_reducible refine (HCl.out _).mono ?_); rintro e w1 ⟨rfl, hb1⟩; have HB1 : Hid (Below W.heap.size W w1) := Lib.hid (HR.out.1.trans (((Below.refl _ _).drew.trans hb1).mono HR.out.1.size)); clear hb1))
      all_goals clear c0 c1 c2 c3 c4 c5 c6 b0
      all_goals cases vb
      all_goals first
        | (go_wp2_with fail
           go_ret
           exact ⟨by rw [HV0.out (by rw [HSt.out]; rfl)]; rfl, HB.out.trans (HB1.out.mono HB.out.size)⟩)
        | (go_wp2_with fail
           go_roundw
           case rel => exact ⟨k + 1, by omega, by go_num, Lib.hid ⟨HB1.out, by rw [HSt.out]; rfl⟩⟩
           case measure => simp [intOf]; omega)
    · obtain rfl : k = L.length := by omega
      have hend := HR.out.2
      rw [List.drop_length] at hend
      have HEnd := Lib.hid (HV1.out hend)
      clear hend
      have HLe : Hid ((decide ((L.length : Int) ≤ 4096)) = decide (L.length ≤ 4096)) := Lib.hid (by by_cases h : L.length ≤ 4096 <;> simp [h] <;> omega)
      by_cases h1 : (1 : Int) ≤ (L.length : Int)
      · have HE2 : Hid (valL L = decide ((L.length : Int) ≤ 4096)) := Lib.hid (by rw [HEnd.out, HLe.out, decide_eq_true (show 1 ≤ L.length by omega)]; rfl)
        go_wp2_with fail
        all_goals go_ret
        all_goals exact ⟨by rw [HE2.out]; first | rfl | simp_all, HB.out.trans (HR.out.1.mono HB.out.size)⟩
      · have HE2 : Hid (valL L = false) := Lib.hid (by rw [HEnd.out, decide_eq_false (show ¬ 1 ≤ L.length by omega)]; rfl)
        have hd : decide ((1 : Int) ≤ (L.length : Int)) = false := decide_eq_false h1
        go_wp2_with fail
        all_goals go_ret
        all_goals exact ⟨by rw [HE2.out]; first | rfl | simp_all, HB.out.trans (HR.out.1.mono HB.out.size)⟩
end Go.Proofs.YtbjobbkipmkndaaDoor
set_option linter.unusedVariables false
set_option linter.unusedSimpArgs false
set_option maxRecDepth 100000
set_option maxHeartbeats 8000000
namespace Go.Proofs.YtbjobbkipmkndaaDoor
open Go.RowKit
theorem ranges_any (p : Nat → Bool) (w : World) : Calls Tryd.prog 35 #[cs p] w fun e w' => e = .returned (.string (bs (rgs p 256))) ∧ Below w.heap.size w w' := by
  have HA := Lib.hid (At.new w p)
  have HB : Hid (Below w.heap.size w (w.alloc (.cells (cl p) 31))) := (Below.refl _ _).alloc (Nat.le_refl _) _
  unfold cs cl at *
  go_enter Tryd.func35, Tryd.ntmps35
  go_wp2_with fail
  go_loopw [3, 4] (fun sv i wr => ∃ (k : Nat) (S : ByteArray), k ≤ 256 ∧ i = .int .i64 k ∧ sv = .string S ∧ S.size ≤ 21000 ∧ Hid (S = bs (rgs p k)) ∧ Hid (Below w.heap.size w wr ∧ At wr w.heap.size p)) (fun _ i _ => 256 - (intOf i).toNat)
  case atStart => exact ⟨0, _, Nat.zero_le _, rfl, rfl, by decide, Lib.hid rfl, Lib.hid ⟨HB.out, HA.out⟩⟩
  case round =>
    obtain ⟨k, S, hk, rfl, rfl, hS, HS, HX⟩ := hrel
    by_cases hlt : k < 256
    · have hi : (k : Int) < 256 := by omega
      have hi0 : (0 : Int) ≤ k := by omega
      have hw : IntKind.u8.wrap (k : Int) = (k : Int) := IntWalk.u8_in _ (by omega)
      have H1 := Lib.hid (rhas_any p k hlt)
      unfold cs cl at H1
      obtain ⟨⟨c0, c1⟩, ⟨c2, c3⟩, hf⟩ := HX.out.2.words
      by_cases hp : p k = true
      · by_cases hs : stt p k = true
        · have hk0 : k = 0 ∨ p (k - 1) = false := by
            unfold stt at hs
            rw [hp] at hs
            simp at hs
            by_cases h0 : k = 0
            · exact .inl h0
            · exact .inr (by first | exact hs (by omega) | (rcases hs with h | h; omega; exact h))
          obtain ⟨e, he⟩ : ∃ e, e = re p k := ⟨_, rfl⟩
          have hrun : Run p k e := by rw [he]; exact re_run p k hlt hp
          have HE : Hid (rgs p (k + 1) = rgs p k ++ piece k e) := Lib.hid (by show rgs p k ++ _ = _; rw [if_pos hs, he])
          have HRu := Lib.hid hrun
          have HEl := Lib.hid (And.intro hrun.le hrun.top)
          have HF1 := Lib.hid (fun W => rfmt_any (k : Int) W ⟨by omega, by omega⟩)
          have HF2 := Lib.hid (fun W => rfmt_any (e : Int) W ⟨by have := hrun.top; omega, by have := hrun.top; omega⟩)
          have HN1 : Hid ((fmtS (k : Int)) = bs (nt (k : Int))) := Lib.hid rfl
          have HN2 : Hid ((fmtS (e : Int)) = bs (nt (e : Int))) := Lib.hid rfl
          have hz1 : (fmtS (k : Int)).size ≤ 40 := nt_len (k : Int) (by omega) (by omega)
          have hz2 : (fmtS (e : Int)).size ≤ 40 := nt_len (e : Int) (by omega) (by have := hrun.top; omega)
          have hSb : (rgs p (k + 1)).length ≤ 21000 := by have := rgs_len p (k + 1) (by omega); omega
          have HSb := Lib.hid hSb
          generalize fmtS (k : Int) = s1 at *
          generalize fmtS (e : Int) = s2 at *
          rw [hp] at H1
          clear hs he hrun hSb
          by_cases hz0 : k = 0
          case' pos =>
            have hd1 : decide ((0 : Int) < k) = false := decide_eq_false (by omega)
            have hd2 : decide (0 < k) = false := decide_eq_false (by omega)
            have HZ := Lib.hid hz0
            clear hz0 hk0
            go_wp2_with (first
              | (go_at_call 45; (with_reducible refine (H1.out _).mono ?_); rintro e0 w1 ⟨rfl, hb⟩; have HXc := Lib.hid (And.intro (HX.out.1.trans (hb.mono HX.out.1.size)) (HX.out.2.below hb HX.out.2.lt)); clear hb c0 c1 c2 c3 hf))
          case' neg =>
            obtain ⟨k1, hk1⟩ : ∃ k1, k = k1 + 1 := ⟨k - 1, by omega⟩
            have hp1 : p k1 = false := by
              rcases hk0 with h | h
              · exact absurd h hz0
              · rw [hk1] at h; exact h
            have hw1 : IntKind.u8.wrap ((k : Int) - 1) = (k1 : Int) := by rw [IntWalk.u8_in _ (by omega)]; omega
            have hi1 : (0 : Int) < k := by omega
            have hi2 : 0 < k := by omega
            have H2 := Lib.hid (rhas_any p k1 (by omega))
            unfold cs cl at H2
            rw [hp1] at H2
            have HK1 := Lib.hid hk1
            clear hz0 hk0 hk1 hp1
            go_wp2_with (first
              | (go_at_call 45; (with_reducible refine (H1.out _).mono ?_); rintro e0 w1 ⟨rfl, hb⟩; have HX1 := Lib.hid (And.intro (HX.out.1.trans (hb.mono HX.out.1.size)) (HX.out.2.below hb HX.out.2.lt)); clear hb c0 c1 c2 c3 hf; obtain ⟨⟨c0, c1⟩, ⟨c2, c3⟩, hf⟩ := HX1.out.2.words)
              | (go_at_call 45; (with_reducible refine (H2.out _).mono ?_); rintro e0 w2 ⟨rfl, hb⟩; have HXc := Lib.hid (And.intro (HX1.out.1.trans (hb.mono HX1.out.1.size)) (HX1.out.2.below hb HX1.out.2.lt)); clear hb c0 c1 c2 c3 hf))
          all_goals
            go_loopw [5] (fun j wq => ∃ (m : Nat), k ≤ m ∧ m ≤ e ∧ j = .int .i64 m ∧ Hid (Below w.heap.size w wq ∧ At wq w.heap.size p)) (fun j _ => e - (intOf j).toNat)
            case atStart => exact ⟨k, Nat.le_refl _, HEl.out.1, rfl, HXc⟩
            case round =>
              obtain ⟨m, hm1, hm2, rfl, HM⟩ := hrel
              obtain ⟨⟨c0, c1⟩, ⟨c2, c3⟩, hf⟩ := HM.out.2.words
              have hE := HEl.out
              have hm0 : (0 : Int) ≤ m := by omega
              by_cases hme : m < e
              · have hpm : p (m + 1) = true := HRu.out.all (m + 1) (by omega) (by omega)
                have H3 := Lib.hid (rhas_any p (m + 1) (by omega))
                unfold cs cl at H3
                rw [hpm, show ((m + 1 : Nat) : Int) = (m : Int) + 1 by omega] at H3
                have hwm : IntKind.u8.wrap ((m : Int) + 1) = (m : Int) + 1 := IntWalk.u8_in _ (by omega)
                have hm255 : (m : Int) < 255 := by omega
                clear hE hpm
                go_wp2_with (first
                  | (go_at_call 45; (with_reducible refine (H3.out _).mono ?_); rintro e0 w3 ⟨rfl, hb⟩; have HM2 := Lib.hid (And.intro (HM.out.1.trans (hb.mono HM.out.1.size)) (HM.out.2.below hb HM.out.2.lt)); clear hb c0 c1 c2 c3 hf))
                go_roundw
                case rel => exact ⟨m + 1, by omega, by omega, by go_num, HM2⟩
                case measure => simp [intOf]; omega
              · obtain rfl : m = e := by omega
                have hSz1 : (bs (rgs p (k + 1))).size ≤ 21000 := by rw [bs_size]; exact HSb.out
                have HSz1 := Lib.hid hSz1
                have hT1 : Hid (¬ k < m → (S ++ ⟨#[32]⟩) ++ s1 = bs (rgs p (k + 1))) := Lib.hid (fun h => by
                  rw [HS.out, HN1.out, HE.out]
                  unfold piece
                  rw [if_neg h]
                  apply ByteArray.ext
                  simp [bs])
                have hT2 : Hid (k < m → (((S ++ ⟨#[32]⟩) ++ s1) ++ ⟨#[45]⟩) ++ s2 = bs (rgs p (k + 1))) := Lib.hid (fun h => by
                  rw [HS.out, HN1.out, HN2.out, HE.out]
                  unfold piece
                  rw [if_pos h]
                  apply ByteArray.ext
                  simp [bs])
                by_cases hm5 : m < 255
                case' pos =>
                  have hpm : p (m + 1) = false := HRu.out.stop hm5
                  have H3 := Lib.hid (rhas_any p (m + 1) (by omega))
                  unfold cs cl at H3
                  rw [hpm, show ((m + 1 : Nat) : Int) = (m : Int) + 1 by omega] at H3
                  have hwm : IntKind.u8.wrap ((m : Int) + 1) = (m : Int) + 1 := IntWalk.u8_in _ (by omega)
                  have hm255 : (m : Int) < 255 := by omega
                  clear hpm
                case' neg =>
                  have hg1 : decide ((m : Int) < 255) = false := decide_eq_false (by omega)
                  have hg2 : decide (m < 255) = false := decide_eq_false (by omega)
                  have H3 := H1
                  clear hm5
                all_goals by_cases hkm : k < m
                all_goals first
                  | (have hq1 : (k : Int) < (m : Int) := by omega
                     have HQ : Hid (k < m) := Lib.hid hkm)
                  | (have hq1 : decide ((k : Int) < (m : Int)) = false := decide_eq_false (by omega)
                     have hq2 : decide (k < m) = false := decide_eq_false hkm
                     have HQ : Hid (¬ k < m) := Lib.hid hkm
                     clear hkm)
                all_goals clear hE hSz1
                all_goals
                  go_wp2_with (first
                    | (go_at_call 45; (with_reducible refine (H3.out _).mono ?_); rintro e0 w3 ⟨rfl, hb⟩; have HM2 := Lib.hid (And.intro (HM.out.1.trans (hb.mono HM.out.1.size)) (HM.out.2.below hb HM.out.2.lt)); clear hb c0 c1 c2 c3 hf)
                    | (go_at_call 24; (with_reducible refine (HF1.out _).mono ?_); rintro e0 w4 ⟨rfl, hb⟩; have HM4 := (by first | exact Lib.hid (And.intro (HM2.out.1.trans (hb.mono HM2.out.1.size)) (HM2.out.2.below hb HM2.out.2.lt)) | exact Lib.hid (And.intro (HM.out.1.trans (hb.mono HM.out.1.size)) (HM.out.2.below hb HM.out.2.lt)) : Hid (Below w.heap.size w w4 ∧ At w4 w.heap.size p)); clear hb)
                    | (go_at_call 24; (with_reducible refine (HF2.out _).mono ?_); rintro e0 w5 ⟨rfl, hb⟩; have HM5 := Lib.hid (And.intro (HM4.out.1.trans (hb.mono HM4.out.1.size)) (HM4.out.2.below hb HM4.out.2.lt)); clear hb))
                  go_roundw
                all_goals first
                  | (case rel => exact ⟨k + 1, _, by omega, by go_num, rfl, by rw [hT2.out HQ.out]; exact HSz1.out, Lib.hid (hT2.out HQ.out), HM5⟩)
                  | (case rel => exact ⟨k + 1, _, by omega, by go_num, rfl, by rw [hT1.out HQ.out]; exact HSz1.out, Lib.hid (hT1.out HQ.out), HM4⟩)
                  | (case measure => simp [intOf]; omega)
        · have hk0 : 0 < k ∧ p (k - 1) = true := by
            unfold stt at hs
            rw [hp] at hs
            simp at hs
            exact ⟨by omega, hs.2⟩
          obtain ⟨k1, hk1⟩ : ∃ k1, k = k1 + 1 := ⟨k - 1, by omega⟩
          have HK1 := Lib.hid hk1
          have hp1 : p k1 = true := by have := hk0.2; rw [hk1] at this; exact this
          have hw1 : IntKind.u8.wrap ((k : Int) - 1) = (k1 : Int) := by rw [IntWalk.u8_in _ (by omega)]; omega
          have hi1 : (0 : Int) < k := by omega
          have hi2 : 0 < k := by omega
          have H2 := Lib.hid (rhas_any p k1 (by omega))
          unfold cs cl at H2
          rw [hp1] at H2
          rw [hp] at H1
          have HE : Hid (rgs p (k + 1) = rgs p k) := Lib.hid (by show rgs p k ++ _ = _; rw [if_neg hs, List.append_nil])
          clear hk0 hs hk1 hp1
          go_wp2_with (first
            | (go_at_call 45; (with_reducible refine (H1.out _).mono ?_); rintro e w1 ⟨rfl, hb⟩; have HX1 := Lib.hid (And.intro (HX.out.1.trans (hb.mono HX.out.1.size)) (HX.out.2.below hb HX.out.2.lt)); clear hb c0 c1 c2 c3 hf; obtain ⟨⟨c0, c1⟩, ⟨c2, c3⟩, hf⟩ := HX1.out.2.words)
            | (go_at_call 45; (with_reducible refine (H2.out _).mono ?_); rintro e w2 ⟨rfl, hb⟩; have HX2 := Lib.hid (And.intro (HX1.out.1.trans (hb.mono HX1.out.1.size)) (HX1.out.2.below hb HX1.out.2.lt)); clear hb c0 c1 c2 c3 hf))
          go_roundw
          case rel => exact ⟨k + 1, S, by omega, by go_num, rfl, hS, Lib.hid (by rw [HE.out]; exact HS.out), HX2⟩
          case measure => simp [intOf]; omega
      · simp only [Bool.not_eq_true] at hp
        rw [hp] at H1
        have HE : Hid (rgs p (k + 1) = rgs p k) := Lib.hid (by show rgs p k ++ _ = _; rw [stt_no hp, if_neg (by decide), List.append_nil])
        go_wp2_with (first
          | (go_at_call 45; (with_reducible refine (H1.out _).mono ?_); rintro e w1 ⟨rfl, hb⟩; have HX1 := Lib.hid (And.intro (HX.out.1.trans (hb.mono HX.out.1.size)) (HX.out.2.below hb HX.out.2.lt)); clear hb c0 c1 c2 c3 hf))
        go_roundw
        case rel => exact ⟨k + 1, S, by omega, by go_num, rfl, hS, Lib.hid (by rw [HE.out]; exact HS.out), HX1⟩
        case measure => simp [intOf]; omega
    · obtain rfl : k = 256 := by omega
      go_wp2_with fail
      go_ret
      exact ⟨by rw [HS.out]; rfl, HX.out.1⟩
end Go.Proofs.YtbjobbkipmkndaaDoor
