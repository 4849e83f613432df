/- Several texts in one (a claim has at most 60 files). -/
import Derived.Test.YtpfbpgbgedbalaaMX
import Derived.Test.YtpfbpgbgedbalaaCsRefB
import Derived.Deep.RegionHeld3
/- Byte, Node, Rep of texttoolslaw08. -/
set_option linter.unusedVariables false
set_option linter.unusedSimpArgs false
set_option maxRecDepth 100000
set_option maxHeartbeats 4000000
namespace Go.Proofs.Ytpfbpgbgedbalaa
open Go.RowKit

theorem conv_byte (c : Nat) (hc : c < 256) (w : World) (g : Nat) (hg : w.heap.size = g) :
    (convert 106 9 (.slice (some ⟨g, 0, none⟩) 1 1)).run Try.prog (w.alloc (.cells #[.int .u8 c] 5)) = .ok (.string ⟨#[UInt8.ofNat c]⟩) (w.alloc (.cells #[.int .u8 c] 5)) := by
  subst hg
  exact run_convert_bytes_back (P := Try.prog) _ 106 9 5 ⟨w.heap.size, 0, none⟩ 1 [UInt8.ofNat c] Try.underlying106 Try.underlying5 Try.underlying9 (fun j hj => by
    obtain rfl : j = 0 := by simpa using hj
    have := new_cells w [.int .u8 c] 5 0 _ rfl
    rw [add_at] at this
    rw [show [UInt8.ofNat c][0] = UInt8.ofNat c from rfl]
    have e : (UInt8.ofNat c).toNat = c := by simp [UInt8.toNat_ofNat]; omega
    rw [e]
    exact this)
theorem byte_any (c : Nat) (hc : c < 256) (w : World) :
    Calls Try.prog 34 #[.int .u8 c] w fun e w' => e = .returned (.agg #[.int .i64 2, .int .u64 (wd (setOf [UInt8.ofNat c]) 0 64 : Nat), .int .u64 (wd (setOf [UInt8.ofNat c]) 64 64 : Nat), .int .u64 (wd (setOf [UInt8.ofNat c]) 128 64 : Nat), .int .u64 (wd (setOf [UInt8.ofNat c]) 192 64 : Nat), .int .i64 0, .int .i64 0, .int .i64 0, .slice none 0 0]) ∧ Below w.heap.size w w' := by
  have HOf := Lib.hid (fun W => rof_any ⟨#[UInt8.ofNat c]⟩ (by show 1 ≤ 300; decide) W)
  have hcv := fun g h => conv_byte c hc (w.alloc (.cells #[.int .i64 0, .int .u64 0, .int .u64 0, .int .u64 0, .int .u64 0, .int .i64 0, .int .i64 0, .int .i64 0, .slice none 0 0] 28)) g h
  have hcv1 := hcv (w.heap.size + 1) (by simp)
  have he := heap_alloc_new w (.cells #[.int .i64 0, .int .u64 0, .int .u64 0, .int .u64 0, .int .u64 0, .int .i64 0, .int .i64 0, .int .i64 0, .slice none 0 0] 28)
  have hb : Below w.heap.size w (w.alloc (.cells #[.int .i64 0, .int .u64 0, .int .u64 0, .int .u64 0, .int .u64 0, .int .i64 0, .int .i64 0, .int .i64 0, .slice none 0 0] 28)) := (Below.refl _ _).alloc (Nat.le_refl _) _
  have hl : w.heap.size < (w.alloc (.cells #[.int .i64 0, .int .u64 0, .int .u64 0, .int .u64 0, .int .u64 0, .int .i64 0, .int .i64 0, .int .i64 0, .slice none 0 0] 28)).heap.size := by simp
  have HE := Lib.hid he
  have HB := Lib.hid hb
  have HL := Lib.hid hl
  clear hcv he hb hl
  have HP : Hid (setOf (⟨#[UInt8.ofNat c]⟩ : ByteArray).data.toList = setOf [UInt8.ofNat c]) := Lib.hid rfl
  rw [HP.out] at HOf
  have HCl : Hid (cs (setOf [UInt8.ofNat c]) = .agg #[.int .u64 (wd (setOf [UInt8.ofNat c]) 0 64 : Nat), .int .u64 (wd (setOf [UInt8.ofNat c]) 64 64 : Nat), .int .u64 (wd (setOf [UInt8.ofNat c]) 128 64 : Nat), .int .u64 (wd (setOf [UInt8.ofNat c]) 192 64 : Nat)]) := Lib.hid rfl
  rw [HCl.out] at HOf
  clear HCl HP
  generalize setOf [UInt8.ofNat c] = p at *
  go_enter Try.func34, Try.ntmps34
  go_wp2_with (first
    | (go_at_call 36; refine (HOf.out _).mono ?_; rintro e w1 ⟨rfl, hb⟩
       have HB1 := Lib.hid ((HB.out.alloc HB.out.size (.cells #[.int .u8 c] 5)).trans (hb.mono (HB.out.alloc HB.out.size _).size))
       have HR1 := Lib.hid ((hb.block w.heap.size (by simp; omega)).trans ((Below.heap_alloc _ _ _ HL.out).trans HE.out))
       clear hb hcv1)
    | (refine wpList_store_row rfl 28 (.tmp 2) (.tmp 7) rfl w.heap.size #[.int .i64 2, .int .u64 (wd p 0 64 : Nat), .int .u64 (wd p 64 64 : Nat), .int .u64 (wd p 128 64 : Nat), .int .u64 (wd p 192 64 : Nat), .int .i64 0, .int .i64 0, .int .i64 0, .slice none 0 0] rfl rfl 28 _ HR1.out isz_re rfl (by simp [Value.oneCell']) ?_))
  refine bodyPost_ret (v := .agg #[.int .i64 2, .int .u64 (wd p 0 64 : Nat), .int .u64 (wd p 64 64 : Nat), .int .u64 (wd p 128 64 : Nat), .int .u64 (wd p 192 64 : Nat), .int .i64 0, .int .i64 0, .int .i64 0, .slice none 0 0]) (results_cell_row rfl _ _ w.heap.size _ #[.int .i64 2, .int .u64 (wd p 0 64 : Nat), .int .u64 (wd p 64 64 : Nat), .int .u64 (wd p 128 64 : Nat), .int .u64 (wd p 192 64 : Nat), .int .i64 0, .int .i64 0, .int .i64 0, .slice none 0 0] (0, 0) _ rfl (setRow_heap w1 _ _ _ _ _ HR1.out) Try.underlying28 rfl isz_re) rfl ?_
  exact ⟨rfl, below_setRow HB1.out (Nat.le_refl _) _⟩
theorem node_any (op : Int) (ad : Option Addr) (n cap : Nat) (w : World) :
    Calls Try.prog 23 #[.int .i64 op, .slice ad n cap] w fun e w' => e = .returned (.agg #[.int .i64 op, .int .u64 (wd noSet 0 64 : Nat), .int .u64 (wd noSet 64 64 : Nat), .int .u64 (wd noSet 128 64 : Nat), .int .u64 (wd noSet 192 64 : Nat), .int .i64 0, .int .i64 0, .int .i64 0, .slice ad n cap]) ∧ Below w.heap.size w w' := by
  have he := heap_alloc_new w (.cells #[.int .i64 0, .int .u64 0, .int .u64 0, .int .u64 0, .int .u64 0, .int .i64 0, .int .i64 0, .int .i64 0, .slice none 0 0] 28)
  have hb : Below w.heap.size w (w.alloc (.cells #[.int .i64 0, .int .u64 0, .int .u64 0, .int .u64 0, .int .u64 0, .int .i64 0, .int .i64 0, .int .i64 0, .slice none 0 0] 28)) := (Below.refl _ _).alloc (Nat.le_refl _) _
  have HE := Lib.hid he
  have HB := Lib.hid hb
  clear he hb
  go_enter Try.func23, Try.ntmps23
  go_wp2_with (first
    | (refine wpList_store_row rfl 28 (.tmp 4) (.tmp 7) rfl w.heap.size #[.int .i64 op, .int .u64 0, .int .u64 0, .int .u64 0, .int .u64 0, .int .i64 0, .int .i64 0, .int .i64 0, .slice ad n cap] rfl rfl 28 _ HE.out isz_re rfl (by simp [Value.oneCell']) ?_))
  refine bodyPost_ret (v := .agg #[.int .i64 op, .int .u64 0, .int .u64 0, .int .u64 0, .int .u64 0, .int .i64 0, .int .i64 0, .int .i64 0, .slice ad n cap]) (results_cell_row rfl _ _ w.heap.size _ #[.int .i64 op, .int .u64 0, .int .u64 0, .int .u64 0, .int .u64 0, .int .i64 0, .int .i64 0, .int .i64 0, .slice ad n cap] (0, 0) _ rfl (setRow_heap _ _ _ _ _ _ HE.out) Try.underlying28 rfl isz_re) rfl ?_
  simp only [wd_noSet.1, wd_noSet.2.1, wd_noSet.2.2.1, wd_noSet.2.2.2]
  exact ⟨rfl, below_setRow HB.out (Nat.le_refl _) _⟩
/-- A new list of one tree, of two. -/
theorem sv_one {w : World} {x : TN} {sv : Value} {S : Nat → Prop} (h1 : SV w S x.args sv) :
    SV (w.alloc (.cells #[.int .i64 x.op, .int .u64 (wd x.st 0 64 : Nat), .int .u64 (wd x.st 64 64 : Nat), .int .u64 (wd x.st 128 64 : Nat), .int .u64 (wd x.st 192 64 : Nat), .int .i64 x.lo, .int .i64 x.hi, .int .i64 x.g, sv] 28)) (fun b => S b ∨ b = w.heap.size) (.cons x.op x.st x.lo x.hi x.g x.args .nil) (.slice (some ⟨w.heap.size, 0, none⟩) 1 1) := by
  have ha : Afar S (fun b => S b ∨ b = w.heap.size) w (w.alloc (.cells #[.int .i64 x.op, .int .u64 (wd x.st 0 64 : Nat), .int .u64 (wd x.st 64 64 : Nat), .int .u64 (wd x.st 128 64 : Nat), .int .u64 (wd x.st 192 64 : Nat), .int .i64 x.lo, .int .i64 x.hi, .int .i64 x.g, sv] 28)) := ⟨by simp, fun b hb hl => ⟨.inl hb, Below.heap_alloc _ _ _ hl⟩⟩
  refine ⟨rowV x.op x.st x.lo x.hi x.g sv ++ [], _, 1, rfl, Nat.le_refl _, FV.cons.2 ⟨sv, [], rfl, h1.far ha, rfl⟩, .inr ⟨w.heap.size, 0, rfl, .inr rfl, by simp, fun j u hu => ?_⟩⟩
  rw [List.append_nil] at hu
  have := new_cells w (rowV x.op x.st x.lo x.hi x.g sv) 28 j u hu
  rw [add_at] at this
  rw [Nat.zero_add]
  exact this
theorem ti_two {w : World} {x y : TN} {sv tv : Value} (h : TI w x sv) (k : TI w y tv) (hx : F.fits (.cons x.op x.st x.lo x.hi x.g x.args .nil)) (hy : F.fits (.cons y.op y.st y.lo y.hi y.g y.args .nil)) (op lo hi g : Int) (st : Nat → Bool) (hg : -9223372036854775808 ≤ g ∧ g ≤ 9223372036854775807) :
    TI (w.alloc (.cells #[.int .i64 x.op, .int .u64 (wd x.st 0 64 : Nat), .int .u64 (wd x.st 64 64 : Nat), .int .u64 (wd x.st 128 64 : Nat), .int .u64 (wd x.st 192 64 : Nat), .int .i64 x.lo, .int .i64 x.hi, .int .i64 x.g, sv, .int .i64 y.op, .int .u64 (wd y.st 0 64 : Nat), .int .u64 (wd y.st 64 64 : Nat), .int .u64 (wd y.st 128 64 : Nat), .int .u64 (wd y.st 192 64 : Nat), .int .i64 y.lo, .int .i64 y.hi, .int .i64 y.g, tv] 28)) ⟨op, st, lo, hi, g, .cons x.op x.st x.lo x.hi x.g x.args (.cons y.op y.st y.lo y.hi y.g y.args .nil)⟩ (.slice (some ⟨w.heap.size, 0, none⟩) 2 2) := by
  obtain ⟨S, h1, h2, h3, h4⟩ := h
  obtain ⟨T, k1, k2, k3, k4⟩ := k
  have ha : Afar S (fun b => (S b ∨ T b) ∨ b = w.heap.size) w (w.alloc (.cells #[.int .i64 x.op, .int .u64 (wd x.st 0 64 : Nat), .int .u64 (wd x.st 64 64 : Nat), .int .u64 (wd x.st 128 64 : Nat), .int .u64 (wd x.st 192 64 : Nat), .int .i64 x.lo, .int .i64 x.hi, .int .i64 x.g, sv, .int .i64 y.op, .int .u64 (wd y.st 0 64 : Nat), .int .u64 (wd y.st 64 64 : Nat), .int .u64 (wd y.st 128 64 : Nat), .int .u64 (wd y.st 192 64 : Nat), .int .i64 y.lo, .int .i64 y.hi, .int .i64 y.g, tv] 28)) := ⟨by simp, fun b hb hl => ⟨.inl (.inl hb), Below.heap_alloc _ _ _ hl⟩⟩
  have hc : Afar T (fun b => (S b ∨ T b) ∨ b = w.heap.size) w (w.alloc (.cells #[.int .i64 x.op, .int .u64 (wd x.st 0 64 : Nat), .int .u64 (wd x.st 64 64 : Nat), .int .u64 (wd x.st 128 64 : Nat), .int .u64 (wd x.st 192 64 : Nat), .int .i64 x.lo, .int .i64 x.hi, .int .i64 x.g, sv, .int .i64 y.op, .int .u64 (wd y.st 0 64 : Nat), .int .u64 (wd y.st 64 64 : Nat), .int .u64 (wd y.st 128 64 : Nat), .int .u64 (wd y.st 192 64 : Nat), .int .i64 y.lo, .int .i64 y.hi, .int .i64 y.g, tv] 28)) := ⟨by simp, fun b hb hl => ⟨.inl (.inr hb), Below.heap_alloc _ _ _ hl⟩⟩
  refine ⟨fun b => (S b ∨ T b) ∨ b = w.heap.size, ⟨rowV x.op x.st x.lo x.hi x.g sv ++ (rowV y.op y.st y.lo y.hi y.g tv ++ []), _, 2, rfl, Nat.le_refl _, FV.cons.2 ⟨sv, _, rfl, h1.far ha, FV.cons.2 ⟨tv, [], rfl, k1.far hc, rfl⟩⟩, .inr ⟨w.heap.size, 0, rfl, .inr rfl, by simp, fun j u hu => ?_⟩⟩, fun b hb => ?_, ⟨?_, hx.1, hx.2.1, hx.2.2.1, hy⟩, hg.1, hg.2⟩
  · have := new_cells w (rowV x.op x.st x.lo x.hi x.g sv ++ (rowV y.op y.st y.lo y.hi y.g tv ++ [])) 28 j u hu
    rw [add_at] at this
    rw [Nat.zero_add]
    exact this
  · rcases hb with (hb | hb) | rfl
    · have := h2 b hb; simp; omega
    · have := k2 b hb; simp; omega
    · simp
  · show 2 ≤ maxLen
    decide
theorem rep_any (lo hi : Int) (x : TN) (sv : Value) (w : World) (h : TI w x sv) (hx : F.fits (.cons x.op x.st x.lo x.hi x.g x.args .nil)) :
    Calls Try.prog 35 #[.int .i64 lo, .int .i64 hi, .agg #[.int .i64 x.op, .int .u64 (wd x.st 0 64 : Nat), .int .u64 (wd x.st 64 64 : Nat), .int .u64 (wd x.st 128 64 : Nat), .int .u64 (wd x.st 192 64 : Nat), .int .i64 x.lo, .int .i64 x.hi, .int .i64 x.g, sv]] w fun e w' => ∃ sv', e = .returned (.agg #[.int .i64 5, .int .u64 (wd noSet 0 64 : Nat), .int .u64 (wd noSet 64 64 : Nat), .int .u64 (wd noSet 128 64 : Nat), .int .u64 (wd noSet 192 64 : Nat), .int .i64 lo, .int .i64 hi, .int .i64 0, sv']) ∧ TI w' ⟨5, noSet, lo, hi, 0, .cons x.op x.st x.lo x.hi x.g x.args .nil⟩ sv' ∧ Below w.heap.size w w' := by
  have hb : Below w.heap.size w ((w.alloc (.cells #[.int .i64 x.op, .int .u64 (wd x.st 0 64 : Nat), .int .u64 (wd x.st 64 64 : Nat), .int .u64 (wd x.st 128 64 : Nat), .int .u64 (wd x.st 192 64 : Nat), .int .i64 x.lo, .int .i64 x.hi, .int .i64 x.g, sv] 28)).alloc (.cells #[.int .i64 0, .int .u64 0, .int .u64 0, .int .u64 0, .int .u64 0, .int .i64 0, .int .i64 0, .int .i64 0, .slice none 0 0] 28)) := ((Below.refl _ _).alloc (Nat.le_refl _) _).alloc (by simp) _
  have he : ((w.alloc (.cells #[.int .i64 x.op, .int .u64 (wd x.st 0 64 : Nat), .int .u64 (wd x.st 64 64 : Nat), .int .u64 (wd x.st 128 64 : Nat), .int .u64 (wd x.st 192 64 : Nat), .int .i64 x.lo, .int .i64 x.hi, .int .i64 x.g, sv] 28)).alloc (.cells #[.int .i64 0, .int .u64 0, .int .u64 0, .int .u64 0, .int .u64 0, .int .i64 0, .int .i64 0, .int .i64 0, .slice none 0 0] 28)).heap[w.heap.size]? = some (.cells #[.int .i64 x.op, .int .u64 (wd x.st 0 64 : Nat), .int .u64 (wd x.st 64 64 : Nat), .int .u64 (wd x.st 128 64 : Nat), .int .u64 (wd x.st 192 64 : Nat), .int .i64 x.lo, .int .i64 x.hi, .int .i64 x.g, sv] 28 (0, 0)) := by
    rw [Below.heap_alloc _ _ _ (by simp)]
    exact heap_alloc_new w _
  have hr : ((w.alloc (.cells #[.int .i64 x.op, .int .u64 (wd x.st 0 64 : Nat), .int .u64 (wd x.st 64 64 : Nat), .int .u64 (wd x.st 128 64 : Nat), .int .u64 (wd x.st 192 64 : Nat), .int .i64 x.lo, .int .i64 x.hi, .int .i64 x.g, sv] 28)).alloc (.cells #[.int .i64 0, .int .u64 0, .int .u64 0, .int .u64 0, .int .u64 0, .int .i64 0, .int .i64 0, .int .i64 0, .slice none 0 0] 28)).heap[w.heap.size + 1]? = some (.cells #[.int .i64 0, .int .u64 0, .int .u64 0, .int .u64 0, .int .u64 0, .int .i64 0, .int .i64 0, .int .i64 0, .slice none 0 0] 28 (0, 0)) := by
    have := heap_alloc_new (w.alloc (.cells #[.int .i64 x.op, .int .u64 (wd x.st 0 64 : Nat), .int .u64 (wd x.st 64 64 : Nat), .int .u64 (wd x.st 128 64 : Nat), .int .u64 (wd x.st 192 64 : Nat), .int .i64 x.lo, .int .i64 x.hi, .int .i64 x.g, sv] 28)) (.cells #[.int .i64 0, .int .u64 0, .int .u64 0, .int .u64 0, .int .u64 0, .int .i64 0, .int .i64 0, .int .i64 0, .slice none 0 0] 28)
    simpa using this
  have hz : ((w.alloc (.cells #[.int .i64 x.op, .int .u64 (wd x.st 0 64 : Nat), .int .u64 (wd x.st 64 64 : Nat), .int .u64 (wd x.st 128 64 : Nat), .int .u64 (wd x.st 192 64 : Nat), .int .i64 x.lo, .int .i64 x.hi, .int .i64 x.g, sv] 28)).alloc (.cells #[.int .i64 0, .int .u64 0, .int .u64 0, .int .u64 0, .int .u64 0, .int .i64 0, .int .i64 0, .int .i64 0, .slice none 0 0] 28)).heap.size = w.heap.size + 1 + 1 := by simp
  obtain ⟨S, h1, h2, h3, h4⟩ := h
  have hT := h1.far (Afar.below hb)
  obtain ⟨⟨⟨a0, a1, a2⟩, a3, a4, a5⟩, a6, a7, a8⟩ := nine he
  have hT2 := sv_one hT
  have hb2 := hb.alloc hb.size (.cells #[.int .i64 x.op, .int .u64 (wd x.st 0 64 : Nat), .int .u64 (wd x.st 64 64 : Nat), .int .u64 (wd x.st 128 64 : Nat), .int .u64 (wd x.st 192 64 : Nat), .int .i64 x.lo, .int .i64 x.hi, .int .i64 x.g, sv] 28)
  have hr2 : (((w.alloc (.cells #[.int .i64 x.op, .int .u64 (wd x.st 0 64 : Nat), .int .u64 (wd x.st 64 64 : Nat), .int .u64 (wd x.st 128 64 : Nat), .int .u64 (wd x.st 192 64 : Nat), .int .i64 x.lo, .int .i64 x.hi, .int .i64 x.g, sv] 28)).alloc (.cells #[.int .i64 0, .int .u64 0, .int .u64 0, .int .u64 0, .int .u64 0, .int .i64 0, .int .i64 0, .int .i64 0, .slice none 0 0] 28)).alloc (.cells #[.int .i64 x.op, .int .u64 (wd x.st 0 64 : Nat), .int .u64 (wd x.st 64 64 : Nat), .int .u64 (wd x.st 128 64 : Nat), .int .u64 (wd x.st 192 64 : Nat), .int .i64 x.lo, .int .i64 x.hi, .int .i64 x.g, sv] 28)).heap[w.heap.size + 1]? = some (.cells #[.int .i64 0, .int .u64 0, .int .u64 0, .int .u64 0, .int .u64 0, .int .i64 0, .int .i64 0, .int .i64 0, .slice none 0 0] 28 (0, 0)) := by
    rw [Below.heap_alloc _ _ _ (by simp)]
    exact hr
  rw [hz] at hT2
  have HT2 := Lib.hid hT2
  have HB2 := Lib.hid hb2
  have HR2 := Lib.hid hr2
  clear hb hr hT hT2 hb2 hr2 he h1 h3 h4
  have H2 := Lib.hid h2
  have HX := Lib.hid hx
  clear h2 hx
  go_enter Try.func35, Try.ntmps35
  go_wp2_with (first
    | (refine wpList_store_row rfl 28 (.tmp 6) (.tmp 11) rfl (w.heap.size + 1) #[.int .i64 5, .int .u64 0, .int .u64 0, .int .u64 0, .int .u64 0, .int .i64 lo, .int .i64 hi, .int .i64 0, (.slice (some ⟨w.heap.size + 1 + 1, 0, none⟩) 1 1)] rfl rfl 28 _ HR2.out isz_re rfl (by simp [Value.oneCell']) ?_))
  refine bodyPost_ret (v := .agg #[.int .i64 5, .int .u64 0, .int .u64 0, .int .u64 0, .int .u64 0, .int .i64 lo, .int .i64 hi, .int .i64 0, (.slice (some ⟨w.heap.size + 1 + 1, 0, none⟩) 1 1)]) (results_cell_row rfl _ _ (w.heap.size + 1) _ #[.int .i64 5, .int .u64 0, .int .u64 0, .int .u64 0, .int .u64 0, .int .i64 lo, .int .i64 hi, .int .i64 0, (.slice (some ⟨w.heap.size + 1 + 1, 0, none⟩) 1 1)] (0, 0) _ rfl (setRow_heap _ _ _ _ _ _ HR2.out) Try.underlying28 rfl isz_re) rfl ?_
  simp only [wd_noSet.1, wd_noSet.2.1, wd_noSet.2.2.1, wd_noSet.2.2.2]
  refine ⟨_, rfl, ?_, below_setRow HB2.out (by omega) _⟩
  refine ⟨fun b => S b ∨ b = w.heap.size + 1 + 1, HT2.out.far ⟨by rw [setRow_size]; exact Nat.le_refl _, fun b hb hl => ⟨hb, setRow_other _ _ b _ (by rcases hb with hb | hb; have := H2.out b hb; omega; omega)⟩⟩, fun b hb => ?_, ⟨?_, HX.out⟩, (by show (-9223372036854775808 : Int) ≤ 0; decide), (by show (0 : Int) ≤ 9223372036854775807; decide)⟩
  · rw [setRow_size]
    rcases hb with hb | rfl
    · have := H2.out b hb; simp; omega
    · simp
  · show 1 ≤ maxLen
    decide
end Go.Proofs.Ytpfbpgbgedbalaa
/- The values of texttoolslaw08's example: by evaluation. -/
set_option linter.unusedVariables false
set_option maxRecDepth 100000
namespace Go.Proofs.Ytpfbpgbgedbalaa
open Go.RowKit

def bT (c : Nat) : TN := ⟨2, setOf [UInt8.ofNat c], 0, 0, 0, .nil⟩
def one (x : TN) : F := .cons x.op x.st x.lo x.hi x.g x.args .nil
def two (x y : TN) : F := .cons x.op x.st x.lo x.hi x.g x.args (.cons y.op y.st y.lo y.hi y.g y.args .nil)
def t1A : TN := ⟨3, noSet, 0, 0, 0, two (bT 99) (bT 100)⟩
def t2A : TN := ⟨4, noSet, 0, 0, 0, two (bT 98) t1A⟩
def t3A : TN := ⟨5, noSet, 2, 3, 0, one t2A⟩
def tA : TN := ⟨3, noSet, 0, 0, 0, two (bT 97) t3A⟩
theorem aw_check : checkT tA = 0 := by kernel_rfl
theorem aw_len : lenOf tA = (3, 7) := by kernel_rfl
theorem aw_fst : cl (fstOf tA).1 = cl (setOf [97]) ∧ (fstOf tA).2 = false := ⟨by kernel_rfl, by kernel_rfl⟩
theorem aw_nul : nulOf tA = false := by kernel_rfl
theorem aw_exp : (expdT tA).2 = 0 := by kernel_rfl
theorem aw_expn : ((survT (expdT tA).1).n : Int) = 19 := by kernel_rfl
theorem aw_nul2 : nulOf ⟨5, noSet, 0, -1, 0, one tA⟩ = true := by kernel_rfl
theorem aw_check2 : checkT ⟨5, noSet, 2, 1, 0, one tA⟩ = 2 := by kernel_rfl
theorem aw_size : ((survT tA).n : Int) = 8 := by kernel_rfl
theorem aw_grp : ((survT tA).cl.length : Int) = 0 := by kernel_rfl
theorem aw_back : (survT tA).bk = false := by kernel_rfl
theorem aw_back2 : (survT ⟨9, noSet, 0, 0, 0, .nil⟩).bk = true := by kernel_rfl
theorem aw_grp2 : ((survT ⟨6, noSet, 0, 0, 0, .nil⟩).cl.length : Int) = 1 := by kernel_rfl
end Go.Proofs.Ytpfbpgbgedbalaa
/- awake of texttoolslaw08. (Written by gen_rtax.py.) -/
set_option linter.unusedVariables false
set_option linter.unusedSimpArgs false
set_option maxRecDepth 100000
set_option maxHeartbeats 8000000
namespace Go.Proofs.Ytpfbpgbgedbalaa
open Go.RowKit

theorem ti_leaf (w : World) (op lo hi : Int) (st : Nat → Bool) : TI w ⟨op, st, lo, hi, 0, .nil⟩ (.slice none 0 0) := ⟨fun _ => False, .nil _ _, fun _ h => h.elim, ⟨Nat.zero_le _, trivial⟩, by show (-9223372036854775808 : Int) ≤ 0; decide, by show (0 : Int) ≤ 9223372036854775807; decide⟩
theorem fitB {c : Nat} : F.fits (.cons (bT c).op (bT c).st (bT c).lo (bT c).hi (bT c).g (bT c).args .nil) := by simp [bT, F.fits, F.len, maxLen]
theorem fit1 : F.fits (.cons t1A.op t1A.st t1A.lo t1A.hi t1A.g t1A.args .nil) := by simp [t1A, two, bT, F.fits, F.len, maxLen]
theorem fit2 : F.fits (.cons t2A.op t2A.st t2A.lo t2A.hi t2A.g t2A.args .nil) := by simp [t2A, t1A, two, bT, F.fits, F.len, maxLen]
theorem fit3 : F.fits (.cons t3A.op t3A.st t3A.lo t3A.hi t3A.g t3A.args .nil) := by simp [t3A, t2A, t1A, one, two, bT, F.fits, F.len, maxLen]
theorem fitE : F.fits (.cons tA.op tA.st tA.lo tA.hi tA.g tA.args .nil) := by simp [tA, t3A, t2A, t1A, one, two, bT, F.fits, F.len, maxLen]
def tR1 : TN := ⟨5, noSet, 0, -1, 0, one tA⟩
def tR2 : TN := ⟨5, noSet, 2, 1, 0, one tA⟩
abbrev AW (W0 : World) (eb xb sb : Nat) (E X : TN) (sE sX : Value) (p : Nat → Bool) (w : World) : Prop := (((w.cell? ⟨eb, 0, none⟩ = some (.int .i64 E.op) ∧ w.cell? ⟨eb, 1, none⟩ = some (.int .u64 (wd E.st 0 64 : Nat)) ∧ w.cell? ⟨eb, 2, none⟩ = some (.int .u64 (wd E.st 64 64 : Nat))) ∧ (w.cell? ⟨eb, 3, none⟩ = some (.int .u64 (wd E.st 128 64 : Nat)) ∧ w.cell? ⟨eb, 4, none⟩ = some (.int .u64 (wd E.st 192 64 : Nat)) ∧ w.cell? ⟨eb, 5, none⟩ = some (.int .i64 E.lo))) ∧ (w.cell? ⟨eb, 6, none⟩ = some (.int .i64 E.hi) ∧ w.cell? ⟨eb, 7, none⟩ = some (.int .i64 E.g) ∧ w.cell? ⟨eb, 8, none⟩ = some (sE))) ∧ (((w.cell? ⟨xb, 0, none⟩ = some (.int .i64 X.op) ∧ w.cell? ⟨xb, 1, none⟩ = some (.int .u64 (wd X.st 0 64 : Nat)) ∧ w.cell? ⟨xb, 2, none⟩ = some (.int .u64 (wd X.st 64 64 : Nat))) ∧ (w.cell? ⟨xb, 3, none⟩ = some (.int .u64 (wd X.st 128 64 : Nat)) ∧ w.cell? ⟨xb, 4, none⟩ = some (.int .u64 (wd X.st 192 64 : Nat)) ∧ w.cell? ⟨xb, 5, none⟩ = some (.int .i64 X.lo))) ∧ (w.cell? ⟨xb, 6, none⟩ = some (.int .i64 X.hi) ∧ w.cell? ⟨xb, 7, none⟩ = some (.int .i64 X.g) ∧ w.cell? ⟨xb, 8, none⟩ = some (sX))) ∧ (w.cell? ⟨sb, 0, none⟩ = some (.int .u64 (wd p 0 64 : Nat)) ∧ w.cell? ⟨sb, 1, none⟩ = some (.int .u64 (wd p 64 64 : Nat)) ∧ w.cell? ⟨sb, 2, none⟩ = some (.int .u64 (wd p 128 64 : Nat)) ∧ w.cell? ⟨sb, 3, none⟩ = some (.int .u64 (wd p 192 64 : Nat))) ∧ Below W0.heap.size W0 w
theorem AW.keep {W0 w w' : World} {eb xb sb : Nat} {E X : TN} {sE sX : Value} {p : Nat → Bool} (hb : Below w.heap.size w w') (h : AW W0 eb xb sb E X sE sX p w) : AW W0 eb xb sb E X sE sX p w' := by
  have hc : ∀ {a : Addr} {v : Value}, w.cell? a = some v → w'.cell? a = some v := fun {a v} h => keep_cell hb h
  exact ⟨⟨⟨⟨hc h.1.1.1.1, hc h.1.1.1.2.1, hc h.1.1.1.2.2⟩, hc h.1.1.2.1, hc h.1.1.2.2.1, hc h.1.1.2.2.2⟩, hc h.1.2.1, hc h.1.2.2.1, hc h.1.2.2.2⟩, ⟨⟨⟨hc h.2.1.1.1.1, hc h.2.1.1.1.2.1, hc h.2.1.1.1.2.2⟩, hc h.2.1.1.2.1, hc h.2.1.1.2.2.1, hc h.2.1.1.2.2.2⟩, hc h.2.1.2.1, hc h.2.1.2.2.1, hc h.2.1.2.2.2⟩, ⟨hc h.2.2.1.1, hc h.2.2.1.2.1, hc h.2.2.1.2.2.1, hc h.2.2.1.2.2.2⟩, h.2.2.2.trans (hb.mono h.2.2.2.size)⟩
theorem AW.bel {W0 w : World} {eb xb sb : Nat} {E X : TN} {sE sX : Value} {p : Nat → Bool} (h : AW W0 eb xb sb E X sE sX p w) : Below W0.heap.size W0 w := h.2.2.2
theorem aw08 (w : World) : Calls Try.prog 13 #[] w fun e w' => e = .returned (.bool true) ∧ Below w.heap.size w w' := by
  have HB97 : Hid (∀ w, Calls Try.prog 34 #[.int .u8 97] w fun e w' => e = .returned (.agg #[.int .i64 (bT 97).op, .int .u64 (wd (bT 97).st 0 64 : Nat), .int .u64 (wd (bT 97).st 64 64 : Nat), .int .u64 (wd (bT 97).st 128 64 : Nat), .int .u64 (wd (bT 97).st 192 64 : Nat), .int .i64 (bT 97).lo, .int .i64 (bT 97).hi, .int .i64 (bT 97).g, .slice none 0 0]) ∧ Below w.heap.size w w') := Lib.hid (byte_any 97 (by decide))
  have HB98 : Hid (∀ w, Calls Try.prog 34 #[.int .u8 98] w fun e w' => e = .returned (.agg #[.int .i64 (bT 98).op, .int .u64 (wd (bT 98).st 0 64 : Nat), .int .u64 (wd (bT 98).st 64 64 : Nat), .int .u64 (wd (bT 98).st 128 64 : Nat), .int .u64 (wd (bT 98).st 192 64 : Nat), .int .i64 (bT 98).lo, .int .i64 (bT 98).hi, .int .i64 (bT 98).g, .slice none 0 0]) ∧ Below w.heap.size w w') := Lib.hid (byte_any 98 (by decide))
  have HB99 : Hid (∀ w, Calls Try.prog 34 #[.int .u8 99] w fun e w' => e = .returned (.agg #[.int .i64 (bT 99).op, .int .u64 (wd (bT 99).st 0 64 : Nat), .int .u64 (wd (bT 99).st 64 64 : Nat), .int .u64 (wd (bT 99).st 128 64 : Nat), .int .u64 (wd (bT 99).st 192 64 : Nat), .int .i64 (bT 99).lo, .int .i64 (bT 99).hi, .int .i64 (bT 99).g, .slice none 0 0]) ∧ Below w.heap.size w w') := Lib.hid (byte_any 99 (by decide))
  have HB100 : Hid (∀ w, Calls Try.prog 34 #[.int .u8 100] w fun e w' => e = .returned (.agg #[.int .i64 (bT 100).op, .int .u64 (wd (bT 100).st 0 64 : Nat), .int .u64 (wd (bT 100).st 64 64 : Nat), .int .u64 (wd (bT 100).st 128 64 : Nat), .int .u64 (wd (bT 100).st 192 64 : Nat), .int .i64 (bT 100).lo, .int .i64 (bT 100).hi, .int .i64 (bT 100).g, .slice none 0 0]) ∧ Below w.heap.size w w') := Lib.hid (byte_any 100 (by decide))
  have HN1 : Hid (∀ (w : World) (ad : Option Addr) (cap : Nat), Calls Try.prog 23 #[.int .i64 3, .slice ad 2 cap] w fun e w' => e = .returned (.agg #[.int .i64 t1A.op, .int .u64 (wd t1A.st 0 64 : Nat), .int .u64 (wd t1A.st 64 64 : Nat), .int .u64 (wd t1A.st 128 64 : Nat), .int .u64 (wd t1A.st 192 64 : Nat), .int .i64 t1A.lo, .int .i64 t1A.hi, .int .i64 t1A.g, .slice ad 2 cap]) ∧ Below w.heap.size w w') := Lib.hid (fun w ad cap => node_any 3 ad 2 cap w)
  have HN2 : Hid (∀ (w : World) (ad : Option Addr) (cap : Nat), Calls Try.prog 23 #[.int .i64 4, .slice ad 2 cap] w fun e w' => e = .returned (.agg #[.int .i64 t2A.op, .int .u64 (wd t2A.st 0 64 : Nat), .int .u64 (wd t2A.st 64 64 : Nat), .int .u64 (wd t2A.st 128 64 : Nat), .int .u64 (wd t2A.st 192 64 : Nat), .int .i64 t2A.lo, .int .i64 t2A.hi, .int .i64 t2A.g, .slice ad 2 cap]) ∧ Below w.heap.size w w') := Lib.hid (fun w ad cap => node_any 4 ad 2 cap w)
  have HN3 : Hid (∀ (w : World) (ad : Option Addr) (cap : Nat), Calls Try.prog 23 #[.int .i64 3, .slice ad 2 cap] w fun e w' => e = .returned (.agg #[.int .i64 tA.op, .int .u64 (wd tA.st 0 64 : Nat), .int .u64 (wd tA.st 64 64 : Nat), .int .u64 (wd tA.st 128 64 : Nat), .int .u64 (wd tA.st 192 64 : Nat), .int .i64 tA.lo, .int .i64 tA.hi, .int .i64 tA.g, .slice ad 2 cap]) ∧ Below w.heap.size w w') := Lib.hid (fun w ad cap => node_any 3 ad 2 cap w)
  have HRp : Hid (∀ (w : World) (sv : Value), TI w t2A sv → Calls Try.prog 35 #[.int .i64 2, .int .i64 3, .agg #[.int .i64 t2A.op, .int .u64 (wd t2A.st 0 64 : Nat), .int .u64 (wd t2A.st 64 64 : Nat), .int .u64 (wd t2A.st 128 64 : Nat), .int .u64 (wd t2A.st 192 64 : Nat), .int .i64 t2A.lo, .int .i64 t2A.hi, .int .i64 t2A.g, sv]] w fun e w' => ∃ sv', e = .returned (.agg #[.int .i64 t3A.op, .int .u64 (wd t3A.st 0 64 : Nat), .int .u64 (wd t3A.st 64 64 : Nat), .int .u64 (wd t3A.st 128 64 : Nat), .int .u64 (wd t3A.st 192 64 : Nat), .int .i64 t3A.lo, .int .i64 t3A.hi, .int .i64 t3A.g, sv']) ∧ TI w' t3A sv' ∧ Below w.heap.size w w') := Lib.hid (fun w sv h => rep_any 2 3 t2A sv w h fit2)
  have H0 := Lib.hid (Below.refl w.heap.size w)
  go_enter Try.func13, Try.ntmps13
  go_upto_region 2 with (first
    | (go_at_call 34; (with_reducible refine (HB97.out _).mono ?_); rintro e w1 ⟨rfl, hb⟩; have H1 := Lib.hid (H0.out.trans (hb.mono H0.out.size)); clear hb)
    | (go_at_call 34; (with_reducible refine (HB98.out _).mono ?_); rintro e w1 ⟨rfl, hb⟩; have H2 := Lib.hid (H1.out.trans (hb.mono H1.out.size)); clear hb)
    | (go_at_call 34; (with_reducible refine (HB99.out _).mono ?_); rintro e w1 ⟨rfl, hb⟩; have H3 := Lib.hid (H2.out.trans (hb.mono H2.out.size)); clear hb)
    | (go_at_call 34; (with_reducible refine (HB100.out _).mono ?_); rintro e w4 ⟨rfl, hb⟩; have H4 := Lib.hid (H3.out.trans (hb.mono H3.out.size)); clear hb)
    | (go_at_call 23; (with_reducible refine (HN1.out (w4.alloc (.cells #[.int .i64 (bT 99).op, .int .u64 (wd (bT 99).st 0 64 : Nat), .int .u64 (wd (bT 99).st 64 64 : Nat), .int .u64 (wd (bT 99).st 128 64 : Nat), .int .u64 (wd (bT 99).st 192 64 : Nat), .int .i64 (bT 99).lo, .int .i64 (bT 99).hi, .int .i64 (bT 99).g, .slice none 0 0, .int .i64 (bT 100).op, .int .u64 (wd (bT 100).st 0 64 : Nat), .int .u64 (wd (bT 100).st 64 64 : Nat), .int .u64 (wd (bT 100).st 128 64 : Nat), .int .u64 (wd (bT 100).st 192 64 : Nat), .int .i64 (bT 100).lo, .int .i64 (bT 100).hi, .int .i64 (bT 100).g, .slice none 0 0] 28)) _ _).mono ?_); rintro e w5 ⟨rfl, hb⟩; 
       have H5 := Lib.hid ((H4.out.alloc H4.out.size (.cells #[.int .i64 (bT 99).op, .int .u64 (wd (bT 99).st 0 64 : Nat), .int .u64 (wd (bT 99).st 64 64 : Nat), .int .u64 (wd (bT 99).st 128 64 : Nat), .int .u64 (wd (bT 99).st 192 64 : Nat), .int .i64 (bT 99).lo, .int .i64 (bT 99).hi, .int .i64 (bT 99).g, .slice none 0 0, .int .i64 (bT 100).op, .int .u64 (wd (bT 100).st 0 64 : Nat), .int .u64 (wd (bT 100).st 64 64 : Nat), .int .u64 (wd (bT 100).st 128 64 : Nat), .int .u64 (wd (bT 100).st 192 64 : Nat), .int .i64 (bT 100).lo, .int .i64 (bT 100).hi, .int .i64 (bT 100).g, .slice none 0 0] 28)).trans (hb.mono (H4.out.alloc H4.out.size _).size))
       have T1 : Hid (TI w5 t1A (.slice (some ⟨w4.heap.size, 0, none⟩) 2 2)) := Lib.hid (TI.below (ti_two (ti_leaf w4 2 0 0 (bT 99).st) (ti_leaf w4 2 0 0 (bT 100).st) fitB fitB 3 0 0 0 noSet (by decide)) hb)
       clear hb)
    | (go_at_call 23; (with_reducible refine (HN2.out (w5.alloc (.cells #[.int .i64 (bT 98).op, .int .u64 (wd (bT 98).st 0 64 : Nat), .int .u64 (wd (bT 98).st 64 64 : Nat), .int .u64 (wd (bT 98).st 128 64 : Nat), .int .u64 (wd (bT 98).st 192 64 : Nat), .int .i64 (bT 98).lo, .int .i64 (bT 98).hi, .int .i64 (bT 98).g, .slice none 0 0, .int .i64 t1A.op, .int .u64 (wd t1A.st 0 64 : Nat), .int .u64 (wd t1A.st 64 64 : Nat), .int .u64 (wd t1A.st 128 64 : Nat), .int .u64 (wd t1A.st 192 64 : Nat), .int .i64 t1A.lo, .int .i64 t1A.hi, .int .i64 t1A.g, (.slice (some ⟨w4.heap.size, 0, none⟩) 2 2)] 28)) _ _).mono ?_); rintro e w6 ⟨rfl, hb⟩; 
       have H6 := Lib.hid ((H5.out.alloc H5.out.size (.cells #[.int .i64 (bT 98).op, .int .u64 (wd (bT 98).st 0 64 : Nat), .int .u64 (wd (bT 98).st 64 64 : Nat), .int .u64 (wd (bT 98).st 128 64 : Nat), .int .u64 (wd (bT 98).st 192 64 : Nat), .int .i64 (bT 98).lo, .int .i64 (bT 98).hi, .int .i64 (bT 98).g, .slice none 0 0, .int .i64 t1A.op, .int .u64 (wd t1A.st 0 64 : Nat), .int .u64 (wd t1A.st 64 64 : Nat), .int .u64 (wd t1A.st 128 64 : Nat), .int .u64 (wd t1A.st 192 64 : Nat), .int .i64 t1A.lo, .int .i64 t1A.hi, .int .i64 t1A.g, (.slice (some ⟨w4.heap.size, 0, none⟩) 2 2)] 28)).trans (hb.mono (H5.out.alloc H5.out.size _).size))
       have T2 : Hid (TI w6 t2A (.slice (some ⟨w5.heap.size, 0, none⟩) 2 2)) := Lib.hid (TI.below (ti_two (ti_leaf w5 2 0 0 (bT 98).st) T1.out fitB fit1 4 0 0 0 noSet (by decide)) hb)
       clear hb)
    | (go_at_call 35; (with_reducible refine (HRp.out _ _ T2.out).mono ?_); rintro e w7 ⟨sv7, rfl, hT3, hb⟩; have H7 := Lib.hid (H6.out.trans (hb.mono H6.out.size)); have T3 : Hid (TI w7 t3A sv7) := Lib.hid hT3; clear hb hT3)
    | (go_at_call 23; (with_reducible refine (HN3.out (w7.alloc (.cells #[.int .i64 (bT 97).op, .int .u64 (wd (bT 97).st 0 64 : Nat), .int .u64 (wd (bT 97).st 64 64 : Nat), .int .u64 (wd (bT 97).st 128 64 : Nat), .int .u64 (wd (bT 97).st 192 64 : Nat), .int .i64 (bT 97).lo, .int .i64 (bT 97).hi, .int .i64 (bT 97).g, .slice none 0 0, .int .i64 t3A.op, .int .u64 (wd t3A.st 0 64 : Nat), .int .u64 (wd t3A.st 64 64 : Nat), .int .u64 (wd t3A.st 128 64 : Nat), .int .u64 (wd t3A.st 192 64 : Nat), .int .i64 t3A.lo, .int .i64 t3A.hi, .int .i64 t3A.g, sv7] 28)) _ _).mono ?_); rintro e w8 ⟨rfl, hb⟩; 
       have H8 := Lib.hid ((H7.out.alloc H7.out.size (.cells #[.int .i64 (bT 97).op, .int .u64 (wd (bT 97).st 0 64 : Nat), .int .u64 (wd (bT 97).st 64 64 : Nat), .int .u64 (wd (bT 97).st 128 64 : Nat), .int .u64 (wd (bT 97).st 192 64 : Nat), .int .i64 (bT 97).lo, .int .i64 (bT 97).hi, .int .i64 (bT 97).g, .slice none 0 0, .int .i64 t3A.op, .int .u64 (wd t3A.st 0 64 : Nat), .int .u64 (wd t3A.st 64 64 : Nat), .int .u64 (wd t3A.st 128 64 : Nat), .int .u64 (wd t3A.st 192 64 : Nat), .int .i64 t3A.lo, .int .i64 t3A.hi, .int .i64 t3A.g, sv7] 28)).trans (hb.mono (H7.out.alloc H7.out.size _).size))
       have TE : Hid (TI w8 tA (.slice (some ⟨w7.heap.size, 0, none⟩) 2 2)) := Lib.hid (TI.below (ti_two (ti_leaf w7 2 0 0 (bT 97).st) T3.out fitB fit3 3 0 0 0 noSet (by decide)) hb)
       clear hb))
  have hrow := heap_alloc_new w8 (.cells #[.int .i64 tA.op, .int .u64 (wd tA.st 0 64 : Nat), .int .u64 (wd tA.st 64 64 : Nat), .int .u64 (wd tA.st 128 64 : Nat), .int .u64 (wd tA.st 192 64 : Nat), .int .i64 tA.lo, .int .i64 tA.hi, .int .i64 tA.g, (.slice (some ⟨w7.heap.size, 0, none⟩) 2 2)] 28)
  have hb9 : Below w8.heap.size w8 (w8.alloc (.cells #[.int .i64 tA.op, .int .u64 (wd tA.st 0 64 : Nat), .int .u64 (wd tA.st 64 64 : Nat), .int .u64 (wd tA.st 128 64 : Nat), .int .u64 (wd tA.st 192 64 : Nat), .int .i64 tA.lo, .int .i64 tA.hi, .int .i64 tA.g, (.slice (some ⟨w7.heap.size, 0, none⟩) 2 2)] 28)) := (Below.refl _ _).alloc (Nat.le_refl _) _
  have TE9 := Lib.hid (TE.out.below hb9)
  have H9 := Lib.hid (H8.out.trans (hb9.mono H8.out.size))
  have hl9 : w8.heap.size < (w8.alloc (.cells #[.int .i64 tA.op, .int .u64 (wd tA.st 0 64 : Nat), .int .u64 (wd tA.st 64 64 : Nat), .int .u64 (wd tA.st 128 64 : Nat), .int .u64 (wd tA.st 192 64 : Nat), .int .i64 tA.lo, .int .i64 tA.hi, .int .i64 tA.g, (.slice (some ⟨w7.heap.size, 0, none⟩) 2 2)] 28)).heap.size := by simp
  clear HB97 HB98 HB99 HB100 HN1 HN2 HN3 HRp H1 H2 H3 H4 H5 H6 H7 H8 T1 T2 T3 TE hb9
  have HL : Hid (∀ (w : World) (sv : Value), TI w tA sv → Calls Try.prog 7 #[.agg #[.int .i64 tA.op, .int .u64 (wd tA.st 0 64 : Nat), .int .u64 (wd tA.st 64 64 : Nat), .int .u64 (wd tA.st 128 64 : Nat), .int .u64 (wd tA.st 192 64 : Nat), .int .i64 tA.lo, .int .i64 tA.hi, .int .i64 tA.g, sv]] w fun e w' => e = .returned (.tuple #[.int .i64 3, .int .i64 7]) ∧ Below w.heap.size w w') := Lib.hid (fun w sv h => by have := length_ti h; rw [aw_len] at this; exact this)
  have HF : Hid (∀ (w : World) (sv : Value), TI w tA sv → Calls Try.prog 9 #[.agg #[.int .i64 tA.op, .int .u64 (wd tA.st 0 64 : Nat), .int .u64 (wd tA.st 64 64 : Nat), .int .u64 (wd tA.st 128 64 : Nat), .int .u64 (wd tA.st 192 64 : Nat), .int .i64 tA.lo, .int .i64 tA.hi, .int .i64 tA.g, sv]] w fun e w' => e = .returned (.tuple #[.agg #[.int .u64 (wd (setOf [97]) 0 64 : Nat), .int .u64 (wd (setOf [97]) 64 64 : Nat), .int .u64 (wd (setOf [97]) 128 64 : Nat), .int .u64 (wd (setOf [97]) 192 64 : Nat)], .bool false]) ∧ Below w.heap.size w w') := Lib.hid (fun w sv h => by have := first_ti h; rw [aw_fst.1, aw_fst.2] at this; exact this)
  have HX : Hid (∀ (w : World) (sv : Value), TI w tA sv → Calls Try.prog 19 #[.agg #[.int .i64 tA.op, .int .u64 (wd tA.st 0 64 : Nat), .int .u64 (wd tA.st 64 64 : Nat), .int .u64 (wd tA.st 128 64 : Nat), .int .u64 (wd tA.st 192 64 : Nat), .int .i64 tA.lo, .int .i64 tA.hi, .int .i64 tA.g, sv]] w fun e w' => ∃ sv', e = .returned (.tuple #[.agg #[.int .i64 (expdT tA).1.op, .int .u64 (wd (expdT tA).1.st 0 64 : Nat), .int .u64 (wd (expdT tA).1.st 64 64 : Nat), .int .u64 (wd (expdT tA).1.st 128 64 : Nat), .int .u64 (wd (expdT tA).1.st 192 64 : Nat), .int .i64 (expdT tA).1.lo, .int .i64 (expdT tA).1.hi, .int .i64 (expdT tA).1.g, sv'], .int .i64 0]) ∧ TI w' (expdT tA).1 sv' ∧ Below w.heap.size w w') := Lib.hid (fun w sv h => by have := expand_tj h; rw [aw_exp] at this; exact this)
  have HO : Hid (∀ (w : World), Calls Try.prog 36 #[.string ⟨#[97]⟩] w fun e w' => e = .returned (.agg #[.int .u64 (wd (setOf [97]) 0 64 : Nat), .int .u64 (wd (setOf [97]) 64 64 : Nat), .int .u64 (wd (setOf [97]) 128 64 : Nat), .int .u64 (wd (setOf [97]) 192 64 : Nat)]) ∧ Below w.heap.size w w') := Lib.hid (fun w => rof_any ⟨#[97]⟩ (by show 1 ≤ 300; decide) w)
  have HNu : Hid (∀ (w : World) (sv : Value), TI w tA sv → Calls Try.prog 11 #[.agg #[.int .i64 tA.op, .int .u64 (wd tA.st 0 64 : Nat), .int .u64 (wd tA.st 64 64 : Nat), .int .u64 (wd tA.st 128 64 : Nat), .int .u64 (wd tA.st 192 64 : Nat), .int .i64 tA.lo, .int .i64 tA.hi, .int .i64 tA.g, sv]] w fun e w' => e = .returned (.bool false) ∧ Below w.heap.size w w') := Lib.hid (fun w sv h => by have := nullable_ti h; rw [aw_nul] at this; exact this)
  have HR1 : Hid (∀ (w : World) (sv : Value), TI w tA sv → Calls Try.prog 35 #[.int .i64 0, .int .i64 (-1), .agg #[.int .i64 tA.op, .int .u64 (wd tA.st 0 64 : Nat), .int .u64 (wd tA.st 64 64 : Nat), .int .u64 (wd tA.st 128 64 : Nat), .int .u64 (wd tA.st 192 64 : Nat), .int .i64 tA.lo, .int .i64 tA.hi, .int .i64 tA.g, sv]] w fun e w' => ∃ sv', e = .returned (.agg #[.int .i64 tR1.op, .int .u64 (wd tR1.st 0 64 : Nat), .int .u64 (wd tR1.st 64 64 : Nat), .int .u64 (wd tR1.st 128 64 : Nat), .int .u64 (wd tR1.st 192 64 : Nat), .int .i64 tR1.lo, .int .i64 tR1.hi, .int .i64 tR1.g, sv']) ∧ TI w' tR1 sv' ∧ Below w.heap.size w w') := Lib.hid (fun w sv h => rep_any 0 (-1) tA sv w h fitE)
  have HR2 : Hid (∀ (w : World) (sv : Value), TI w tA sv → Calls Try.prog 35 #[.int .i64 2, .int .i64 1, .agg #[.int .i64 tA.op, .int .u64 (wd tA.st 0 64 : Nat), .int .u64 (wd tA.st 64 64 : Nat), .int .u64 (wd tA.st 128 64 : Nat), .int .u64 (wd tA.st 192 64 : Nat), .int .i64 tA.lo, .int .i64 tA.hi, .int .i64 tA.g, sv]] w fun e w' => ∃ sv', e = .returned (.agg #[.int .i64 tR2.op, .int .u64 (wd tR2.st 0 64 : Nat), .int .u64 (wd tR2.st 64 64 : Nat), .int .u64 (wd tR2.st 128 64 : Nat), .int .u64 (wd tR2.st 192 64 : Nat), .int .i64 tR2.lo, .int .i64 tR2.hi, .int .i64 tR2.g, sv']) ∧ TI w' tR2 sv' ∧ Below w.heap.size w w') := Lib.hid (fun w sv h => rep_any 2 1 tA sv w h fitE)
  have HN1 : Hid (∀ (w : World) (sv : Value), TI w tR1 sv → Calls Try.prog 11 #[.agg #[.int .i64 tR1.op, .int .u64 (wd tR1.st 0 64 : Nat), .int .u64 (wd tR1.st 64 64 : Nat), .int .u64 (wd tR1.st 128 64 : Nat), .int .u64 (wd tR1.st 192 64 : Nat), .int .i64 tR1.lo, .int .i64 tR1.hi, .int .i64 tR1.g, sv]] w fun e w' => e = .returned (.bool true) ∧ Below w.heap.size w w') := Lib.hid (fun w sv h => by have := nullable_ti h; rw [show nulOf tR1 = true from aw_nul2] at this; exact this)
  have HC : Hid (∀ (w : World) (sv : Value), TI w tA sv → Calls Try.prog 20 #[.agg #[.int .i64 tA.op, .int .u64 (wd tA.st 0 64 : Nat), .int .u64 (wd tA.st 64 64 : Nat), .int .u64 (wd tA.st 128 64 : Nat), .int .u64 (wd tA.st 192 64 : Nat), .int .i64 tA.lo, .int .i64 tA.hi, .int .i64 tA.g, sv]] w fun e w' => e = .returned (.int .i64 0) ∧ Below w.heap.size w w') := Lib.hid (fun w sv h => by have := check_ti h; rw [aw_check] at this; exact this)
  have HC2 : Hid (∀ (w : World) (sv : Value), TI w tR2 sv → Calls Try.prog 20 #[.agg #[.int .i64 tR2.op, .int .u64 (wd tR2.st 0 64 : Nat), .int .u64 (wd tR2.st 64 64 : Nat), .int .u64 (wd tR2.st 128 64 : Nat), .int .u64 (wd tR2.st 192 64 : Nat), .int .i64 tR2.lo, .int .i64 tR2.hi, .int .i64 tR2.g, sv]] w fun e w' => e = .returned (.int .i64 2) ∧ Below w.heap.size w w') := Lib.hid (fun w sv h => by have := check_ti h; rw [show checkT tR2 = 2 from aw_check2] at this; exact this)
  have HSz : Hid (∀ (w : World) (sv : Value), TI w tA sv → Calls Try.prog 24 #[.agg #[.int .i64 tA.op, .int .u64 (wd tA.st 0 64 : Nat), .int .u64 (wd tA.st 64 64 : Nat), .int .u64 (wd tA.st 128 64 : Nat), .int .u64 (wd tA.st 192 64 : Nat), .int .i64 tA.lo, .int .i64 tA.hi, .int .i64 tA.g, sv]] w fun e w' => e = .returned (.int .i64 8) ∧ Below w.heap.size w w') := Lib.hid (fun w sv h => by have := size_ti h; rw [aw_size] at this; exact this)
  have HSx : Hid (∀ (w : World) (sv : Value), TI w (expdT tA).1 sv → Calls Try.prog 24 #[.agg #[.int .i64 (expdT tA).1.op, .int .u64 (wd (expdT tA).1.st 0 64 : Nat), .int .u64 (wd (expdT tA).1.st 64 64 : Nat), .int .u64 (wd (expdT tA).1.st 128 64 : Nat), .int .u64 (wd (expdT tA).1.st 192 64 : Nat), .int .i64 (expdT tA).1.lo, .int .i64 (expdT tA).1.hi, .int .i64 (expdT tA).1.g, sv]] w fun e w' => e = .returned (.int .i64 19) ∧ Below w.heap.size w w') := Lib.hid (fun w sv h => by have := size_ti h; rw [aw_expn] at this; exact this)
  have HG : Hid (∀ (w : World) (sv : Value), TI w tA sv → Calls Try.prog 15 #[.agg #[.int .i64 tA.op, .int .u64 (wd tA.st 0 64 : Nat), .int .u64 (wd tA.st 64 64 : Nat), .int .u64 (wd tA.st 128 64 : Nat), .int .u64 (wd tA.st 192 64 : Nat), .int .i64 tA.lo, .int .i64 tA.hi, .int .i64 tA.g, sv]] w fun e w' => e = .returned (.int .i64 0) ∧ Below w.heap.size w w') := Lib.hid (fun w sv h => by have := groups_ti h; rw [aw_grp] at this; exact this)
  have HBk : Hid (∀ (w : World) (sv : Value), TI w tA sv → Calls Try.prog 37 #[.agg #[.int .i64 tA.op, .int .u64 (wd tA.st 0 64 : Nat), .int .u64 (wd tA.st 64 64 : Nat), .int .u64 (wd tA.st 128 64 : Nat), .int .u64 (wd tA.st 192 64 : Nat), .int .i64 tA.lo, .int .i64 tA.hi, .int .i64 tA.g, sv]] w fun e w' => e = .returned (.bool false) ∧ Below w.heap.size w w') := Lib.hid (fun w sv h => by have := back_ti h; rw [aw_back] at this; exact this)
  have HBk2 : Hid (∀ (w : World), Calls Try.prog 37 #[.agg #[.int .i64 9, .int .u64 0, .int .u64 0, .int .u64 0, .int .u64 0, .int .i64 0, .int .i64 0, .int .i64 0, .slice none 0 0]] w fun e w' => e = .returned (.bool true) ∧ Below w.heap.size w w') := Lib.hid (fun w => by have := back_ti (ti_leaf w 9 0 0 noSet); rw [aw_back2] at this; simp only [wd_noSet.1, wd_noSet.2.1, wd_noSet.2.2.1, wd_noSet.2.2.2] at this; exact this)
  have HG2 : Hid (∀ (w : World), Calls Try.prog 15 #[.agg #[.int .i64 6, .int .u64 0, .int .u64 0, .int .u64 0, .int .u64 0, .int .i64 0, .int .i64 0, .int .i64 0, .slice none 0 0]] w fun e w' => e = .returned (.int .i64 1) ∧ Below w.heap.size w w') := Lib.hid (fun w => by have := groups_ti (ti_leaf w 6 0 0 noSet); rw [aw_grp2] at this; simp only [wd_noSet.1, wd_noSet.2.1, wd_noSet.2.2.1, wd_noSet.2.2.2] at this; exact this)
  generalize w8.alloc (.cells #[.int .i64 tA.op, .int .u64 (wd tA.st 0 64 : Nat), .int .u64 (wd tA.st 64 64 : Nat), .int .u64 (wd tA.st 128 64 : Nat), .int .u64 (wd tA.st 192 64 : Nat), .int .i64 tA.lo, .int .i64 tA.hi, .int .i64 tA.g, (.slice (some ⟨w7.heap.size, 0, none⟩) 2 2)] 28) = W at *
  generalize (.slice (some ⟨w7.heap.size, 0, none⟩) 2 2 : Value) = sE at *
  generalize w8.heap.size = eb at *
  generalize (expdT tA).1 = X at *
  generalize setOf [97] = p at *
  generalize tR1 = R1 at *
  generalize tR2 = R2 at *
  generalize tA = E at *
  have HRw := Lib.hid hrow
  clear hrow
  obtain ⟨⟨⟨a0, a1, a2⟩, a3, a4, a5⟩, a6, a7, a8⟩ := nine HRw.out
  go_upto_region 4 with (first
    | (go_at_call 7; (with_reducible refine (HL.out _ _ TE9.out).mono ?_); rintro e u1 ⟨rfl, hb⟩; 
       have TE10 := Lib.hid (TE9.out.below hb)
       have HRw1 := Lib.hid ((hb.block eb hl9).trans HRw.out)
       have hl10 : eb < u1.heap.size := by have := hb.size; omega
       have H10 := Lib.hid (H9.out.trans (hb.mono H9.out.size))
       clear a0 a1 a2 a3 a4 a5 a6 a7 a8 hb
       obtain ⟨⟨⟨a0, a1, a2⟩, a3, a4, a5⟩, a6, a7, a8⟩ := nine HRw1.out)
    | (go_at_call 9; (with_reducible refine (HF.out _ _ TE10.out).mono ?_); rintro e u2 ⟨rfl, hb⟩; 
       have TE11 := Lib.hid (TE10.out.below hb)
       have HRw2 := Lib.hid ((hb.block eb hl10).trans HRw1.out)
       have hl11 : eb < u2.heap.size := by have := hb.size; omega
       have H11 := Lib.hid (H10.out.trans (hb.mono H10.out.size))
       clear a0 a1 a2 a3 a4 a5 a6 a7 a8 hb))
  have hrs := heap_alloc_new u2 (.cells #[.int .u64 (wd p 0 64 : Nat), .int .u64 (wd p 64 64 : Nat), .int .u64 (wd p 128 64 : Nat), .int .u64 (wd p 192 64 : Nat)] 25)
  have hb2 : Below u2.heap.size u2 (u2.alloc (.cells #[.int .u64 (wd p 0 64 : Nat), .int .u64 (wd p 64 64 : Nat), .int .u64 (wd p 128 64 : Nat), .int .u64 (wd p 192 64 : Nat)] 25)) := (Below.refl _ _).alloc (Nat.le_refl _) _
  have TE12 := Lib.hid (TE11.out.below hb2)
  have HRw3 := Lib.hid ((hb2.block eb hl11).trans HRw2.out)
  have hls : u2.heap.size < (u2.alloc (.cells #[.int .u64 (wd p 0 64 : Nat), .int .u64 (wd p 64 64 : Nat), .int .u64 (wd p 128 64 : Nat), .int .u64 (wd p 192 64 : Nat)] 25)).heap.size := by simp
  have hle : eb < (u2.alloc (.cells #[.int .u64 (wd p 0 64 : Nat), .int .u64 (wd p 64 64 : Nat), .int .u64 (wd p 128 64 : Nat), .int .u64 (wd p 192 64 : Nat)] 25)).heap.size := by simp; omega
  have H12 := Lib.hid (H11.out.trans (hb2.mono H11.out.size))
  clear hb2 hl9 hl10 hl11 HRw HRw1 HRw2 TE9 TE10 TE11 H9 H10 H11
  generalize u2.alloc (.cells #[.int .u64 (wd p 0 64 : Nat), .int .u64 (wd p 64 64 : Nat), .int .u64 (wd p 128 64 : Nat), .int .u64 (wd p 192 64 : Nat)] 25) = U2 at *
  generalize u2.heap.size = sb at *
  have HRs := Lib.hid hrs
  clear hrs
  obtain ⟨⟨⟨a0, a1, a2⟩, a3, a4, a5⟩, a6, a7, a8⟩ := nine HRw3.out
  go_upto_region 5 with (first
    | (go_at_call 19; (with_reducible refine (HX.out _ _ TE12.out).mono ?_); rintro e u3 ⟨sX, rfl, hT, hb⟩; 
       obtain ⟨adX, capX, rfl⟩ := hT.form
       have TX := Lib.hid hT
       have TE13 := Lib.hid (TE12.out.below hb)
       have HRw4 := Lib.hid ((hb.block eb hle).trans HRw3.out)
       have HRs4 := Lib.hid ((hb.block sb hls).trans HRs.out)
       have hle2 : eb < u3.heap.size := by have := hb.size; omega
       have hls2 : sb < u3.heap.size := by have := hb.size; omega
       have H13 := Lib.hid (H12.out.trans (hb.mono H12.out.size))
       clear a0 a1 a2 a3 a4 a5 a6 a7 a8 hb hT))
  generalize (.slice adX X.args.len capX : Value) = sX at *
  have hrx := heap_alloc_new u3 (.cells #[.int .i64 X.op, .int .u64 (wd X.st 0 64 : Nat), .int .u64 (wd X.st 64 64 : Nat), .int .u64 (wd X.st 128 64 : Nat), .int .u64 (wd X.st 192 64 : Nat), .int .i64 X.lo, .int .i64 X.hi, .int .i64 X.g, sX] 28)
  have hb3 : Below u3.heap.size u3 (u3.alloc (.cells #[.int .i64 X.op, .int .u64 (wd X.st 0 64 : Nat), .int .u64 (wd X.st 64 64 : Nat), .int .u64 (wd X.st 128 64 : Nat), .int .u64 (wd X.st 192 64 : Nat), .int .i64 X.lo, .int .i64 X.hi, .int .i64 X.g, sX] 28)) := (Below.refl _ _).alloc (Nat.le_refl _) _
  have TE14 := Lib.hid (TE13.out.below hb3)
  have TX14 := Lib.hid (TX.out.below hb3)
  have HRw5 := Lib.hid ((hb3.block eb hle2).trans HRw4.out)
  have HRs5 := Lib.hid ((hb3.block sb hls2).trans HRs4.out)
  have H14 := Lib.hid (H13.out.trans (hb3.mono H13.out.size))
  clear hb3 hle hls hle2 hls2 HRw3 HRw4 HRs HRs4 TE12 TE13 TX H12 H13
  generalize u3.alloc (.cells #[.int .i64 X.op, .int .u64 (wd X.st 0 64 : Nat), .int .u64 (wd X.st 64 64 : Nat), .int .u64 (wd X.st 128 64 : Nat), .int .u64 (wd X.st 192 64 : Nat), .int .i64 X.lo, .int .i64 X.hi, .int .i64 X.g, sX] 28) = U at *
  generalize u3.heap.size = xb at *
  have hA : AW U eb xb sb E X sE sX p U := ⟨nine HRw5.out, nine hrx, ⟨cell_of_row U sb 0 _ _ _ HRs5.out, cell_of_row U sb 1 _ _ _ HRs5.out, cell_of_row U sb 2 _ _ _ HRs5.out, cell_of_row U sb 3 _ _ _ HRs5.out⟩, Below.refl _ _⟩
  have HA := Lib.hid hA
  clear hA hrx HRw5 HRs5
  have hcmp : ∀ w, (binOp .neq 25 (.agg #[.int .u64 (wd p 0 64 : Nat), .int .u64 (wd p 64 64 : Nat), .int .u64 (wd p 128 64 : Nat), .int .u64 (wd p 192 64 : Nat)]) (.agg #[.int .u64 (wd p 0 64 : Nat), .int .u64 (wd p 64 64 : Nat), .int .u64 (wd p 128 64 : Nat), .int .u64 (wd p 192 64 : Nat)])).run Try.prog w = .ok (.bool false) w := fun w => by
    have := neq_cs p p w
    rw [eqc_self] at this
    exact this
  go_wp2_with fail
  go_region_held3 (fun w' => AW U eb xb sb E X sE sX p w')
    (first | exact AW.keep (Below.drew (Below.refl _ _)) HA.out | exact AW.keep hb ‹_›)
    (first
      | (go_at_call 36; (with_reducible refine (HO.out _).mono ?_); rintro e u4 ⟨rfl, hb⟩; skip)
      | (go_at_call 11; (with_reducible refine (HNu.out _ _ (TE14.out.below (AW.bel (by assumption)))).mono ?_); rintro e u4 ⟨rfl, hb⟩; skip)
      | (go_at_call 35; (with_reducible refine (HR1.out _ _ (TE14.out.below (AW.bel (by assumption)))).mono ?_); rintro e u5 ⟨sR, rfl, hR, hb⟩; skip)
      | (go_at_call 11; (with_reducible refine (HN1.out _ _ hR).mono ?_); rintro e u6 ⟨rfl, hb⟩; skip))
  rename_i hS0
  clear hcmp
  go_wp2_with (first
    | (go_at_call 20; (with_reducible refine (HC.out _ _ (TE14.out.below (AW.bel hS0))).mono ?_); rintro e v1 ⟨rfl, hb⟩; have hS1 := AW.keep hb hS0; clear hS0 hb)
    | (go_at_call 35; (with_reducible refine (HR2.out _ _ (TE14.out.below (AW.bel hS1))).mono ?_); rintro e v2 ⟨sR, rfl, hR, hb⟩; have hS2 := AW.keep hb hS1; clear hS1 hb)
    | (go_at_call 20; (with_reducible refine (HC2.out _ _ hR).mono ?_); rintro e v3 ⟨rfl, hb⟩; have hS3 := AW.keep hb hS2; clear hS2 hb hR)
    | (go_at_call 24; (with_reducible refine (HSz.out _ _ (TE14.out.below (AW.bel hS3))).mono ?_); rintro e v4 ⟨rfl, hb⟩; have hS4 := AW.keep hb hS3; clear hS3 hb)
    | (go_at_call 24; (with_reducible refine (HSx.out _ _ (TX14.out.below (AW.bel hS4))).mono ?_); rintro e v5 ⟨rfl, hb⟩; have hS5 := AW.keep hb hS4; clear hS4 hb)
    | (go_at_call 15; (with_reducible refine (HG.out _ _ (TE14.out.below (AW.bel hS5))).mono ?_); rintro e v6 ⟨rfl, hb⟩; have hS6 := AW.keep hb hS5; clear hS5 hb)
    | (go_at_call 37; (with_reducible refine (HBk.out _ _ (TE14.out.below (AW.bel hS6))).mono ?_); rintro e v7 ⟨rfl, hb⟩; have hS7 := AW.keep hb hS6; clear hS6 hb)
    | (go_at_call 37; (with_reducible refine (HBk2.out _).mono ?_); rintro e v8 ⟨rfl, hb⟩; have hS8 := AW.keep hb hS7; clear hS7 hb)
    | (go_at_call 15; (with_reducible refine (HG2.out _).mono ?_); rintro e v9 ⟨rfl, hb⟩; have hS9 := AW.keep hb hS8; clear hS8 hb)
)
  go_ret
  exact ⟨rfl, H14.out.trans ((AW.bel hS9).mono H14.out.size)⟩
end Go.Proofs.Ytpfbpgbgedbalaa
