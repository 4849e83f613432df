/- RsAwk, RsEx, RsAwake, NumMath, NumDigits, CsList. -/
import Derived.Test.YtfgcnknmiclfnaaDoorPb27
import Derived.Test.YtfgcnknmiclfnaaDoorPb26
import Derived.KernelRfl
import Derived.WalkKit
import Derived.WalkLawsBesides
import Derived.Lib.Hide
import Derived.Test.YtfgcnknmiclfnaaDoorRows
import Derived.Test.YtfgcnknmiclfnaaDoorPb8
set_option linter.unusedVariables false
set_option linter.unusedSimpArgs false
set_option maxRecDepth 100000
set_option maxHeartbeats 8000000
namespace Go.Proofs.YtfgcnknmiclfnaaDoor
open Go.RowKit
def TIR (R : Nat) (w : World) (f : F) (sv : Value) : Prop := ∃ S, SV w S f sv ∧ ∀ b, S b → R < b ∧ b < w.heap.size
theorem TIR.below {R : Nat} {w w' : World} {f : F} {sv : Value} (h : TIR R w f sv) (hb : Below w.heap.size w w') : TIR R w' f sv := by
  obtain ⟨S, h1, h2⟩ := h
  exact ⟨S, h1.far (Afar.below hb), fun b hS => ⟨(h2 b hS).1, Nat.lt_of_lt_of_le (h2 b hS).2 hb.size⟩⟩
theorem TIR.leaf (R : Nat) (w : World) : TIR R w .nil (.slice none 0 0) := ⟨fun _ => False, .nil _ _, fun _ h => h.elim⟩
theorem tir_two {R : Nat} {w : World} {x y : TN} {sv tv : Value} (h : TIR R w x.args sv) (k : TIR R w y.args tv) (hR : R < w.heap.size) :
    TIR R (w.alloc (.cells #[.int .i64 x.op, .int .u64 (wd x.st 0 64 : Nat), .int .u64 (wd x.st 64 64 : Nat), .int .u64 (wd x.st 128 64 : Nat), .int .u64 (wd x.st 192 64 : Nat), .int .i64 x.lo, .int .i64 x.hi, .int .i64 x.g, sv, .int .i64 y.op, .int .u64 (wd y.st 0 64 : Nat), .int .u64 (wd y.st 64 64 : Nat), .int .u64 (wd y.st 128 64 : Nat), .int .u64 (wd y.st 192 64 : Nat), .int .i64 y.lo, .int .i64 y.hi, .int .i64 y.g, tv] 55)) (twoF x y) (.slice (some ⟨w.heap.size, 0, none⟩) 2 2) := by
  obtain ⟨S, h1, h2⟩ := h
  obtain ⟨T, k1, k2⟩ := k
  have ha : Afar S (fun b => (S b ∨ T b) ∨ b = w.heap.size) w (w.alloc (.cells #[.int .i64 x.op, .int .u64 (wd x.st 0 64 : Nat), .int .u64 (wd x.st 64 64 : Nat), .int .u64 (wd x.st 128 64 : Nat), .int .u64 (wd x.st 192 64 : Nat), .int .i64 x.lo, .int .i64 x.hi, .int .i64 x.g, sv, .int .i64 y.op, .int .u64 (wd y.st 0 64 : Nat), .int .u64 (wd y.st 64 64 : Nat), .int .u64 (wd y.st 128 64 : Nat), .int .u64 (wd y.st 192 64 : Nat), .int .i64 y.lo, .int .i64 y.hi, .int .i64 y.g, tv] 55)) := ⟨by simp, fun b hb hl => ⟨.inl (.inl hb), Below.heap_alloc _ _ _ hl⟩⟩
  have hc : Afar T (fun b => (S b ∨ T b) ∨ b = w.heap.size) w (w.alloc (.cells #[.int .i64 x.op, .int .u64 (wd x.st 0 64 : Nat), .int .u64 (wd x.st 64 64 : Nat), .int .u64 (wd x.st 128 64 : Nat), .int .u64 (wd x.st 192 64 : Nat), .int .i64 x.lo, .int .i64 x.hi, .int .i64 x.g, sv, .int .i64 y.op, .int .u64 (wd y.st 0 64 : Nat), .int .u64 (wd y.st 64 64 : Nat), .int .u64 (wd y.st 128 64 : Nat), .int .u64 (wd y.st 192 64 : Nat), .int .i64 y.lo, .int .i64 y.hi, .int .i64 y.g, tv] 55)) := ⟨by simp, fun b hb hl => ⟨.inl (.inr hb), Below.heap_alloc _ _ _ hl⟩⟩
  refine ⟨fun b => (S b ∨ T b) ∨ b = w.heap.size, ⟨rowV x.op x.st x.lo x.hi x.g sv ++ (rowV y.op y.st y.lo y.hi y.g tv ++ []), _, 2, rfl, Nat.le_refl _, FV.cons.2 ⟨sv, _, rfl, h1.far ha, FV.cons.2 ⟨tv, [], rfl, k1.far hc, rfl⟩⟩, .inr ⟨w.heap.size, 0, rfl, .inr rfl, by simp, fun j u hu => ?_⟩⟩, fun b hb => ?_⟩
  · have := new_cells w (rowV x.op x.st x.lo x.hi x.g sv ++ (rowV y.op y.st y.lo y.hi y.g tv ++ [])) 55 j u hu
    rw [add_at] at this
    rw [Nat.zero_add]
    exact this
  · rcases hb with (hb | hb) | rfl
    · have := h2 b hb; simp; omega
    · have := k2 b hb; simp; omega
    · simp; omega
theorem nT_fits : nT.args.len ≤ maxLen ∧ nT.args.fits := by simp [nT, nC, twoF, lfT, F.fits, F.len, maxLen]
theorem alts_any (w : World) : Calls Tryd.prog 19 #[] w fun e w' => ∃ ad cap, e = .returned (.agg #[.int .i64 nT.op, .int .u64 (wd nT.st 0 64 : Nat), .int .u64 (wd nT.st 64 64 : Nat), .int .u64 (wd nT.st 128 64 : Nat), .int .u64 (wd nT.st 192 64 : Nat), .int .i64 nT.lo, .int .i64 nT.hi, .int .i64 nT.g, .slice ad 2 cap]) ∧ TI w' nT (.slice ad 2 cap) ∧ Below w.heap.size w w' := by
  have HB97 : Hid (∀ w, Calls Tryd.prog 34 #[.int .u8 97] w fun e w' => e = .returned (.agg #[.int .i64 (lfT 97).op, .int .u64 (wd (lfT 97).st 0 64 : Nat), .int .u64 (wd (lfT 97).st 64 64 : Nat), .int .u64 (wd (lfT 97).st 128 64 : Nat), .int .u64 (wd (lfT 97).st 192 64 : Nat), .int .i64 (lfT 97).lo, .int .i64 (lfT 97).hi, .int .i64 (lfT 97).g, .slice none 0 0]) ∧ Below w.heap.size w w') := Lib.hid (fun w => byte_any 97 (by decide) w)
  have HB98 : Hid (∀ w, Calls Tryd.prog 34 #[.int .u8 98] w fun e w' => e = .returned (.agg #[.int .i64 (lfT 98).op, .int .u64 (wd (lfT 98).st 0 64 : Nat), .int .u64 (wd (lfT 98).st 64 64 : Nat), .int .u64 (wd (lfT 98).st 128 64 : Nat), .int .u64 (wd (lfT 98).st 192 64 : Nat), .int .i64 (lfT 98).lo, .int .i64 (lfT 98).hi, .int .i64 (lfT 98).g, .slice none 0 0]) ∧ Below w.heap.size w w') := Lib.hid (fun w => byte_any 98 (by decide) w)
  have HN1 : Hid (∀ (w : World) (ad : Option Addr) (cap : Nat), Calls Tryd.prog 33 #[.int .i64 3, .slice ad 2 cap] w fun e w' => e = .returned (.agg #[.int .i64 nC.op, .int .u64 (wd nC.st 0 64 : Nat), .int .u64 (wd nC.st 64 64 : Nat), .int .u64 (wd nC.st 128 64 : Nat), .int .u64 (wd nC.st 192 64 : Nat), .int .i64 nC.lo, .int .i64 nC.hi, .int .i64 nC.g, .slice ad 2 cap]) ∧ Below w.heap.size w w') := Lib.hid (fun w ad cap => node_any 3 ad 2 cap w)
  have HN2 : Hid (∀ (w : World) (ad : Option Addr) (cap : Nat), Calls Tryd.prog 33 #[.int .i64 4, .slice ad 2 cap] w fun e w' => e = .returned (.agg #[.int .i64 nT.op, .int .u64 (wd nT.st 0 64 : Nat), .int .u64 (wd nT.st 64 64 : Nat), .int .u64 (wd nT.st 128 64 : Nat), .int .u64 (wd nT.st 192 64 : Nat), .int .i64 nT.lo, .int .i64 nT.hi, .int .i64 nT.g, .slice ad 2 cap]) ∧ Below w.heap.size w w') := Lib.hid (fun w ad cap => node_any 4 ad 2 cap w)
  obtain ⟨W, hW⟩ : ∃ W, W = w.alloc (.cells #[.int .i64 0, .int .u64 0, .int .u64 0, .int .u64 0, .int .u64 0, .int .i64 0, .int .i64 0, .int .i64 0, .slice none 0 0] 55) := ⟨_, rfl⟩
  have hb : Below w.heap.size w W := by rw [hW]; exact (Below.refl _ _).alloc (Nat.le_refl _) _
  have hg : W.heap[w.heap.size]? = some (.cells #[.int .i64 0, .int .u64 0, .int .u64 0, .int .u64 0, .int .u64 0, .int .i64 0, .int .i64 0, .int .i64 0, .slice none 0 0] 55 (0, 0)) := by rw [hW]; exact heap_alloc_new w _
  have HB := Lib.hid hb
  have HG := Lib.hid hg
  have HW := Lib.hid hW
  have hl : w.heap.size < W.heap.size := (Array.getElem?_eq_some_iff.1 hg).1
  have HBw := Lib.hid (Below.refl W.heap.size W)
  clear hb hg hW
  go_enter Tryd.func19, Tryd.ntmps19
  go_upto_region 1 with fail
  rw [← HW.out]
  go_wp2_with (first
    | (go_at_call 34; (with_reducible refine (HB97.out _).mono ?_); rintro e w1 ⟨rfl, hb⟩; have HBw := Lib.hid (HBw.out.trans (hb.mono HBw.out.size)); clear hb)
    | (go_at_call 34; (with_reducible refine (HB98.out _).mono ?_); rintro e w3 ⟨rfl, hb⟩; have HBw := Lib.hid (HBw.out.trans (hb.mono HBw.out.size)); clear hb)
    | (go_at_call 33; (with_reducible refine (HN1.out (w3.alloc (.cells #[.int .i64 (lfT 97).op, .int .u64 (wd (lfT 97).st 0 64 : Nat), .int .u64 (wd (lfT 97).st 64 64 : Nat), .int .u64 (wd (lfT 97).st 128 64 : Nat), .int .u64 (wd (lfT 97).st 192 64 : Nat), .int .i64 (lfT 97).lo, .int .i64 (lfT 97).hi, .int .i64 (lfT 97).g, .slice none 0 0, .int .i64 (lfT 98).op, .int .u64 (wd (lfT 98).st 0 64 : Nat), .int .u64 (wd (lfT 98).st 64 64 : Nat), .int .u64 (wd (lfT 98).st 128 64 : Nat), .int .u64 (wd (lfT 98).st 192 64 : Nat), .int .i64 (lfT 98).lo, .int .i64 (lfT 98).hi, .int .i64 (lfT 98).g, .slice none 0 0] 55)) _ _).mono ?_); rintro e w4 ⟨rfl, hb⟩
       have HBx := Lib.hid ((HBw.out.alloc HBw.out.size (.cells #[.int .i64 (lfT 97).op, .int .u64 (wd (lfT 97).st 0 64 : Nat), .int .u64 (wd (lfT 97).st 64 64 : Nat), .int .u64 (wd (lfT 97).st 128 64 : Nat), .int .u64 (wd (lfT 97).st 192 64 : Nat), .int .i64 (lfT 97).lo, .int .i64 (lfT 97).hi, .int .i64 (lfT 97).g, .slice none 0 0, .int .i64 (lfT 98).op, .int .u64 (wd (lfT 98).st 0 64 : Nat), .int .u64 (wd (lfT 98).st 64 64 : Nat), .int .u64 (wd (lfT 98).st 128 64 : Nat), .int .u64 (wd (lfT 98).st 192 64 : Nat), .int .i64 (lfT 98).lo, .int .i64 (lfT 98).hi, .int .i64 (lfT 98).g, .slice none 0 0] 55)).trans (hb.mono (HBw.out.alloc HBw.out.size _).size))
       have T1 : Hid (TIR w.heap.size w4 nC.args (.slice (some ⟨w3.heap.size, 0, none⟩) 2 2)) := Lib.hid (TIR.below (tir_two (x := lfT 97) (y := lfT 98) (TIR.leaf _ _) (TIR.leaf _ _) (by have := HBw.out.size; omega)) hb)
       clear hb)
    | (go_at_call 33; (with_reducible refine (HN2.out (w4.alloc (.cells #[.int .i64 (lfT 97).op, .int .u64 (wd (lfT 97).st 0 64 : Nat), .int .u64 (wd (lfT 97).st 64 64 : Nat), .int .u64 (wd (lfT 97).st 128 64 : Nat), .int .u64 (wd (lfT 97).st 192 64 : Nat), .int .i64 (lfT 97).lo, .int .i64 (lfT 97).hi, .int .i64 (lfT 97).g, .slice none 0 0, .int .i64 nC.op, .int .u64 (wd nC.st 0 64 : Nat), .int .u64 (wd nC.st 64 64 : Nat), .int .u64 (wd nC.st 128 64 : Nat), .int .u64 (wd nC.st 192 64 : Nat), .int .i64 nC.lo, .int .i64 nC.hi, .int .i64 nC.g, .slice (some ⟨w3.heap.size, 0, none⟩) 2 2] 55)) _ _).mono ?_); rintro e w5 ⟨rfl, hb⟩
       have HBy := Lib.hid ((HBx.out.alloc HBx.out.size (.cells #[.int .i64 (lfT 97).op, .int .u64 (wd (lfT 97).st 0 64 : Nat), .int .u64 (wd (lfT 97).st 64 64 : Nat), .int .u64 (wd (lfT 97).st 128 64 : Nat), .int .u64 (wd (lfT 97).st 192 64 : Nat), .int .i64 (lfT 97).lo, .int .i64 (lfT 97).hi, .int .i64 (lfT 97).g, .slice none 0 0, .int .i64 nC.op, .int .u64 (wd nC.st 0 64 : Nat), .int .u64 (wd nC.st 64 64 : Nat), .int .u64 (wd nC.st 128 64 : Nat), .int .u64 (wd nC.st 192 64 : Nat), .int .i64 nC.lo, .int .i64 nC.hi, .int .i64 nC.g, .slice (some ⟨w3.heap.size, 0, none⟩) 2 2] 55)).trans (hb.mono (HBx.out.alloc HBx.out.size _).size))
       have T2 : Hid (TIR w.heap.size w5 nT.args (.slice (some ⟨w4.heap.size, 0, none⟩) 2 2)) := Lib.hid (TIR.below (tir_two (x := lfT 97) (y := nC) (TIR.leaf _ _) T1.out (by have := HBx.out.size; omega)) hb)
       have HRes := Lib.hid ((HBy.out.block w.heap.size hl).trans HG.out)
       clear hb)
    | (refine wpList_store_row rfl 55 (.tmp 0) (.tmp 7) rfl w.heap.size #[.int .i64 nT.op, .int .u64 (wd nT.st 0 64 : Nat), .int .u64 (wd nT.st 64 64 : Nat), .int .u64 (wd nT.st 128 64 : Nat), .int .u64 (wd nT.st 192 64 : Nat), .int .i64 nT.lo, .int .i64 nT.hi, .int .i64 nT.g, .slice (some ⟨w4.heap.size, 0, none⟩) 2 2] rfl rfl 55 _ HRes.out isz_re rfl (by simp [Value.oneCell']) ?_))
  refine bodyPost_ret (v := .agg #[.int .i64 nT.op, .int .u64 (wd nT.st 0 64 : Nat), .int .u64 (wd nT.st 64 64 : Nat), .int .u64 (wd nT.st 128 64 : Nat), .int .u64 (wd nT.st 192 64 : Nat), .int .i64 nT.lo, .int .i64 nT.hi, .int .i64 nT.g, .slice (some ⟨w4.heap.size, 0, none⟩) 2 2]) (results_cell_row rfl _ _ w.heap.size _ #[.int .i64 nT.op, .int .u64 (wd nT.st 0 64 : Nat), .int .u64 (wd nT.st 64 64 : Nat), .int .u64 (wd nT.st 128 64 : Nat), .int .u64 (wd nT.st 192 64 : Nat), .int .i64 nT.lo, .int .i64 nT.hi, .int .i64 nT.g, .slice (some ⟨w4.heap.size, 0, none⟩) 2 2] (0, 0) _ rfl (setRow_heap _ _ _ _ _ _ HRes.out) Tryd.underlying55 rfl isz_re) rfl ?_
  have hbz := below_setRow (HB.out.trans (HBy.out.mono HB.out.size)) (Nat.le_refl w.heap.size) #[.int .i64 nT.op, .int .u64 (wd nT.st 0 64 : Nat), .int .u64 (wd nT.st 64 64 : Nat), .int .u64 (wd nT.st 128 64 : Nat), .int .u64 (wd nT.st 192 64 : Nat), .int .i64 nT.lo, .int .i64 nT.hi, .int .i64 nT.g, .slice (some ⟨w4.heap.size, 0, none⟩) 2 2]
  obtain ⟨S, s1, s2⟩ := T2.out
  exact ⟨_, _, rfl, ⟨S, s1.far ⟨by rw [setRow_size]; exact Nat.le_refl _, fun b hb hl => ⟨hb, setRow_other _ _ b _ (by have := (s2 b hb).1; omega)⟩⟩, fun b hb => by rw [setRow_size]; exact (s2 b hb).2, nT_fits, by decide, by decide⟩, hbz⟩
end Go.Proofs.YtfgcnknmiclfnaaDoor
set_option linter.unusedVariables false
set_option linter.unusedSimpArgs false
set_option maxRecDepth 100000
namespace Go.Proofs.YtfgcnknmiclfnaaDoor
open Go.RowKit
theorem Rd.sub0 {L : List IN} {ln : Bool} {s : List UInt8} {f b : Nat} (X : List Nat) (h0 : 0 ∈ X) (hc : ∀ k, k ∈ X → ∀ y, y ∈ stp L ln s f k → y ∈ X) (h : Rd L ln s f f b) : b ∈ X := h.inv0.closed (X := fun k => k ∈ X) h0 hc
theorem Rd.sub1 {L : List IN} {ln : Bool} {s : List UInt8} {f i b : Nat} {c : UInt8} (X Y : List Nat) (hf : f ≤ i) (hX : ∀ a, Rd L ln s f i a → a ∈ X) (hs : s[i]? = some c) (hn : ∀ a, a ∈ X → sel L c (a, 0) = true → a + 1 ∈ Y) (hc : ∀ k, k ∈ Y → ∀ y, y ∈ stp L ln s (i + 1) k → y ∈ Y) (h : Rd L ln s f (i + 1) b) : b ∈ Y := by
  obtain ⟨a, x, c', r1, r2, r3, r4, r5, r6⟩ := h.inv hf
  rw [hs] at r4
  obtain rfl := Option.some.inj r4
  exact r6.closed (X := fun k => k ∈ Y) (hn a (hX a r1) (sel_ex.2 ⟨x, r2, r3, r5⟩)) hc
theorem pA_val : valL pA = true := by kernel_rfl
def sB : List UInt8 := [97, 98]
def sC : List UInt8 := [120, 97, 98]
theorem selA : sel pA 97 (3, 0) = true := by kernel_rfl
theorem selA1 : sel pA 97 (1, 0) = true := by kernel_rfl
theorem selB : sel pA 98 (4, 0) = true := by kernel_rfl
theorem Rd.go {L : List IN} {ln : Bool} {s : List UInt8} {f i a b : Nat} {c : UInt8} (h : Rd L ln s f i a) (hs : s[i]? = some c) (hn : sel L c (a, 0) = true) (hr : Rch (stp L ln s (i + 1)) (a + 1) b) : Rd L ln s f (i + 1) b := by
  obtain ⟨x, h1, h2, h3⟩ := sel_ex.1 hn
  exact .adv h h1 h2 hs h3 hr
theorem op6_5 : opAt pA 5 6 = true := by kernel_rfl
theorem rd_003 : Rd pA false sB 0 0 3 := .beg (.step .refl (by have : stp pA false sB 0 0 = [1, 3] := by kernel_rfl
                                                               rw [this]; simp))
theorem rd_001 : Rd pA false sB 0 0 1 := .beg (.step .refl (by have : stp pA false sB 0 0 = [1, 3] := by kernel_rfl
                                                               rw [this]; simp))
theorem rd_014 : Rd pA false sB 0 1 4 := rd_003.go (c := 97) rfl selA .refl
theorem rd_015 : Rd pA false sB 0 1 5 := rd_001.go (c := 97) rfl selA1 (.step .refl (by have : stp pA false sB 1 2 = [5] := by kernel_rfl
                                                                                        rw [this]; simp))
theorem rd_025 : Rd pA false sB 0 2 5 := rd_014.go (c := 98) rfl selB .refl
theorem mt_02 : Mt pA false sB 0 2 := ⟨by decide, 5, op6_5, rd_025⟩
theorem ex_l {te : Nat} {ok : Bool} (h : LSpec pA false sB 0 te ok) : te = 2 ∧ ok = true := by
  rcases h with ⟨h1, _, n, hn, h2, h3⟩ | ⟨_, _, h3⟩
  · obtain rfl : n = 0 := by omega
    have a := h3 2 mt_02
    have b := h2.1
    exact ⟨by have : te ≤ 2 := b; omega, h1⟩
  · exact absurd mt_02 (h3 pA_val 0 rfl 2)
theorem set_00 (b : Nat) (h : Rd pA false sB 0 0 b) : b ∈ [0, 1, 3] := Rd.sub0 [0, 1, 3] (by simp) (by decide +kernel) h
theorem set_01 (b : Nat) (h : Rd pA false sB 0 1 b) : b ∈ [2, 4, 5] := Rd.sub1 (c := 97) [0, 1, 3] [2, 4, 5] (Nat.le_refl _) set_00 rfl (by decide +kernel) (by decide +kernel) h
theorem trm_2 : trm pA 2 = false := by kernel_rfl
theorem trm_4 : trm pA 4 = true := by kernel_rfl
theorem trm_5 : trm pA 5 = true := by kernel_rfl
theorem sorted_ext : ∀ {a b : List Nat}, a.Pairwise (· < ·) → b.Pairwise (· < ·) → (∀ x, x ∈ a ↔ x ∈ b) → a = b
  | [], [], _, _, _ => rfl
  | [], y :: b, _, _, h => by have := (h y).2 (by simp); simp at this
  | x :: a, [], _, _, h => by have := (h x).1 (by simp); simp at this
  | x :: a, y :: b, ha, hb, h => by
    obtain ⟨ha1, ha2⟩ := List.pairwise_cons.1 ha
    obtain ⟨hb1, hb2⟩ := List.pairwise_cons.1 hb
    have hxy : x = y := by
      have h1 := (h x).1 (by simp)
      have h2 := (h y).2 (by simp)
      rcases List.mem_cons.1 h1 with e | e
      · exact e
      · rcases List.mem_cons.1 h2 with e2 | e2
        · exact e2.symm
        · have := hb1 x e; have := ha1 y e2; omega
    subst hxy
    rw [sorted_ext ha2 hb2 (fun z => ?_)]
    constructor
    · intro hz
      rcases List.mem_cons.1 ((h z).1 (List.mem_cons_of_mem _ hz)) with e | e
      · have := ha1 z hz; omega
      · exact e
    · intro hz
      rcases List.mem_cons.1 ((h z).2 (List.mem_cons_of_mem _ hz)) with e | e
      · have := hb1 z hz; omega
      · exact e
theorem ex_t {zs : List Nat} (h : TSpec pA false sB 0 1 zs) : zs = [4, 5] := by
  refine sorted_ext h.1 (by simp) fun x => ?_
  rw [h.2 x]
  constructor
  · rintro ⟨_, n, m, hn, hm, _, _, ht, hr⟩
    obtain rfl : n = 0 := by omega
    obtain rfl : m = 1 := by omega
    have := set_01 x hr
    simp at this
    rcases this with rfl | rfl | rfl
    · rw [trm_2] at ht; cases ht
    · simp
    · simp
  · intro hx
    simp at hx
    rcases hx with rfl | rfl
    · exact ⟨pA_val, 0, 1, rfl, rfl, by decide, by decide, trm_4, rd_014⟩
    · exact ⟨pA_val, 0, 1, rfl, rfl, by decide, by decide, trm_5, rd_015⟩
theorem rc_113 : Rd pA false sC 1 1 3 := .beg (.step .refl (by have : stp pA false sC 1 0 = [1, 3] := by kernel_rfl
                                                               rw [this]; simp))
theorem rc_124 : Rd pA false sC 1 2 4 := rc_113.go (c := 97) rfl selA .refl
theorem rc_135 : Rd pA false sC 1 3 5 := rc_124.go (c := 98) rfl selB .refl
theorem mt_13 : Mt pA false sC 1 3 := ⟨by decide, 5, op6_5, rc_135⟩
theorem sec_00 (b : Nat) (h : Rd pA false sC 0 0 b) : b ∈ [0, 1, 3] := Rd.sub0 [0, 1, 3] (by simp) (by decide +kernel) h
theorem sec_01 (b : Nat) (h : Rd pA false sC 0 1 b) : b ∈ ([] : List Nat) := Rd.sub1 (c := 120) [0, 1, 3] [] (Nat.le_refl _) sec_00 rfl (by decide +kernel) (by simp) h
theorem no_0 (e : Nat) : ¬ Mt pA false sC 0 e := by
  rintro ⟨he, b, hb, hr⟩
  by_cases h0 : e = 0
  · subst h0
    have := sec_00 b hr
    simp at this
    rcases this with rfl | rfl | rfl <;> exact absurd hb (by decide +kernel)
  · by_cases h1 : e = 1
    · subst h1
      have := sec_01 b hr
      simp at this
    · exact Rd.gone (i := 1) (fun b _ hr => by have := sec_01 b hr; simp at this) (by omega) e b (by omega) hr
theorem ex_s {mf mt : Nat} {ok : Bool} (h : SSpec pA false sC 0 mf mt ok) : mf = 1 ∧ mt = 3 ∧ ok = true := by
  rcases h with ⟨h1, _, _, h2, h3, h4, h5⟩ | ⟨_, _, _, h4⟩
  · have a1 : ¬ 1 < mf := fun h => h5 1 3 (by omega) h mt_13
    have a0 : mf ≠ 0 := fun e => by subst e; exact no_0 _ h3
    obtain rfl : mf = 1 := by omega
    have b1 := h4 3 mt_13
    have b2 : mt ≤ 3 := h3.1
    exact ⟨rfl, by omega, h1⟩
  · exact absurd mt_13 (h4 pA_val (by omega) 1 3 (by omega))
end Go.Proofs.YtfgcnknmiclfnaaDoor
set_option linter.unusedVariables false
set_option linter.unusedSimpArgs false
set_option maxRecDepth 100000
set_option maxHeartbeats 8000000
namespace Go.Proofs.YtfgcnknmiclfnaaDoor
open Go.RowKit
section
variable (o x : Int) (w : World)
theorem psp_0 : (Go.part 3 #[.int .i64 o, .int .i64 x] 0).run Tryd.prog w = .ok (.int .i64 o) w := by kernel_rfl
theorem psp_1 : (Go.part 3 #[.int .i64 o, .int .i64 x] 1).run Tryd.prog w = .ok (.int .i64 x) w := by kernel_rfl
end
theorem fields_sp : ∃ f0 f1 : Field, Tryd.prog.fieldsOf 28 = #[f0, f1] ∧ (f0.name ≠ "_" ∧ f0.type = 3 ∧ f0.offset = 0) ∧ f1.name ≠ "_" ∧ f1.type = 3 ∧ f1.offset = 1 := ⟨_, _, rfl, ⟨by decide, rfl, rfl⟩, by decide, rfl, rfl⟩
theorem equal_sp (o x o' x' : Int) (w : World) : (Op.equalIn 10000 28 (.agg #[.int .i64 o, .int .i64 x]) (.agg #[.int .i64 o', .int .i64 x'])).run Tryd.prog w = .ok (o == o' && x == x') w := by
  obtain ⟨f0, f1, hf, ⟨n0, t0, o0⟩, n1, t1, o1⟩ := fields_sp
  rw [run_equalIn_agg w 9999 28 _ _ (by kernel_rfl) (by kernel_rfl), hf]
  cases h0 : (o == o') <;> cases hx : (x == x') <;>
    simp [Op.eqFields, n0, t0, o0, n1, t1, o1, psp_0, psp_1, run_equalIn_int _ 9998 3 .i64 .i64 _ _ Tryd.underlying3, h0, hx]
theorem eql_sp (o x o' x' : Int) (w : World) : (binOp .eql 28 (.agg #[.int .i64 o, .int .i64 x]) (.agg #[.int .i64 o', .int .i64 x'])).run Tryd.prog w = .ok (.bool (o == o' && x == x')) w := by
  rw [run_eql_struct, equal_sp]
  rfl
theorem neq_sp (o x o' x' : Int) (w : World) : (binOp .neq 28 (.agg #[.int .i64 o, .int .i64 x]) (.agg #[.int .i64 o', .int .i64 x'])).run Tryd.prog w = .ok (.bool (!(o == o' && x == x'))) w := by
  rw [run_neq_struct, equal_sp]
  rfl
theorem awake11 (w : World) (hK : KT w) : Calls Tryd.prog 9 #[] w fun e w' => e = .returned (.bool true) ∧ Below w.heap.size w w' := by
  have HAlt := Lib.hid (alts_any w)
  have HK := Lib.hid hK
  have HL := Lib.hid (fun (pv : Value) (n0 : Nat) (W : World) hp hk => (longestx_any pA pv n0 false ⟨#[97, 98]⟩ 0 W hp hk (by decide)))
  have HTh := Lib.hid (fun (pv : Value) (n0 : Nat) (W : World) hp hk => (threads_any pA pv n0 false ⟨#[97, 98]⟩ 0 1 W hp hk (by decide)))
  have HS := Lib.hid (fun (pv : Value) (n0 : Nat) (W : World) hp hk => (search_any pA pv n0 false ⟨#[120, 97, 98]⟩ 0 W hp hk (by decide)))
  clear hK
  have Eq0 := fun w => eql_sp 1 3 1 3 w
  go_enter Tryd.func9, Tryd.ntmps9
  go_upto_region 2 with (first
    | (go_at_call 19; (with_reducible refine HAlt.out.mono ?_); rintro e w1 ⟨ad, cap, rfl, hti, hb1⟩; have HTi := Lib.hid hti; have HB1 := Lib.hid hb1; clear hti hb1)
    | (go_at_call 18; (with_reducible refine (rcompile_nT HTi.out).mono ?_); rintro e w2 ⟨pv, rfl, hp2, hb2⟩
       obtain ⟨pad, pcap, rfl⟩ := hp2.form
       have HP2 := Lib.hid hp2
       have HB2 := Lib.hid (HB1.out.trans (hb2.mono HB1.out.size))
       clear hp2 hb2))
  have hx3 := heap_alloc_new w2 (.cells #[.slice pad pA.length pcap, .bool false] 24)
  have hb3 : Below w2.heap.size w2 (w2.alloc (.cells #[.slice pad pA.length pcap, .bool false] 24)) := (Below.refl _ _).alloc (Nat.le_refl _) _
  generalize hW3 : w2.alloc (.cells #[.slice pad pA.length pcap, .bool false] 24) = W3 at *
  obtain ⟨R, hR⟩ : ∃ R, w2.heap.size = R := ⟨_, rfl⟩
  rw [hR] at hx3
  have q0 := cell_of_row W3 R 0 _ _ _ hx3
  have q1 := cell_of_row W3 R 1 _ _ _ hx3
  have hl3 : R < W3.heap.size := (Array.getElem?_eq_some_iff.1 hx3).1
  have HX3 := Lib.hid hx3
  have HB3 := Lib.hid (HB2.out.trans (hb3.mono HB2.out.size))
  have HP3 := Lib.hid (HP2.out.below hb3)
  clear hx3 hb3 hW3
  rw [hR]
  go_wp2_with (first
    | (go_at_call 15; (refine (HL.out (.slice pad pA.length pcap) _ _ HP3.out (HK.out.below HB3.out)).mono ?_); rintro e w4 ⟨⟨te, ok, rfl, hl4⟩, hb4⟩
       obtain ⟨rfl, rfl⟩ := ex_l hl4
       have HB4 := Lib.hid (HB3.out.trans (hb4.mono HB3.out.size))
       have HP4 := Lib.hid (HP3.out.below hb4)
       have hx4 := (hb4.block R hl3).trans HX3.out
       have HX4 := Lib.hid hx4
       clear q0 q1
       have q0 := cell_of_row w4 R 0 _ _ _ hx4
       have q1 := cell_of_row w4 R 1 _ _ _ hx4
       have hl4b : R < w4.heap.size := (Array.getElem?_eq_some_iff.1 hx4).1
       clear hl4 hb4 hx4)
    | (go_at_call 13; (refine (HTh.out (.slice pad pA.length pcap) _ _ HP4.out (HK.out.below HB4.out)).mono ?_); rintro e w5 ⟨⟨v5, zs, rfl, hil, ht5⟩, hb5⟩
       obtain rfl := ex_t ht5
       obtain ⟨ad5, cap5, rfl, _⟩ := hil
       have HB5 := Lib.hid (HB4.out.trans (hb5.mono HB4.out.size))
       have HP5 := Lib.hid (HP4.out.below hb5)
       have hx5 := (hb5.block R hl4b).trans HX4.out
       have HX5 := Lib.hid hx5
       clear q0 q1
       have q0 := cell_of_row w5 R 0 _ _ _ hx5
       have q1 := cell_of_row w5 R 1 _ _ _ hx5
       have hl5b : R < w5.heap.size := (Array.getElem?_eq_some_iff.1 hx5).1
       clear ht5 hb5 hx5)
    | (go_at_call 10; (refine (HS.out (.slice pad pA.length pcap) _ _ HP5.out (HK.out.below HB5.out)).mono ?_); rintro e w6 ⟨⟨mf, mt, ok, rfl, hs6⟩, hb6⟩
       obtain ⟨rfl, rfl, rfl⟩ := ex_s hs6
       have HB6 := Lib.hid (HB5.out.trans (hb6.mono HB5.out.size))
       clear hs6 hb6 q0 q1))
  go_ret
  exact ⟨rfl, HB6.out.alloc HB6.out.size _⟩
end Go.Proofs.YtfgcnknmiclfnaaDoor
namespace Go.Proofs.YtfgcnknmiclfnaaDoor
open Go.RowKit
def fits (n : Int) : Prop := -9223372036854775808 ≤ n ∧ n ≤ 9223372036854775807
instance (n : Int) : Decidable (fits n) := by unfold fits; infer_instance
end Go.Proofs.YtfgcnknmiclfnaaDoor
namespace Go.Proofs.YtfgcnknmiclfnaaDoor
open Go.RowKit
def part (m c k : Nat) : List Value := (List.range c).map fun j => if c - k ≤ j then .int .u8 ((48 + m / 10 ^ (c - 1 - j) % 10 : Nat) : Int) else .int .u8 0
end Go.Proofs.YtfgcnknmiclfnaaDoor
set_option linter.unusedVariables false
namespace Go.Proofs.YtfgcnknmiclfnaaDoor
open Go.RowKit
def en (p : Nat → Bool) (k : Nat) : Nat := (el p (64 * k)).length
def bl (l : List Nat) : List UInt8 := l.map UInt8.ofNat
def rest (p : Nat → Bool) (b j x : Nat) : Prop := x < 2 ^ 64 ∧ ∀ m, m < 64 → x.testBit m = (decide (j ≤ m) && p (b + m))
end Go.Proofs.YtfgcnknmiclfnaaDoor
