/- CsRef, RpAw, RpEq. -/
import Derived.Test.YtbjobbkipmkndaaDoorRows
import Derived.Test.YtbjobbkipmkndaaDoorPv21
import Derived.Test.YtbjobbkipmkndaaDoorPv13
import Derived.Test.YtbjobbkipmkndaaDoorPv14
set_option linter.unusedVariables false
namespace Go.Proofs.YtbjobbkipmkndaaDoor
open Go.RowKit
set_option maxHeartbeats 4000000 in
theorem rof_any (s : ByteArray) (hs : s.size ≤ 300) (w : World) : Calls Tryd.prog 36 #[.string s] w fun e w' => e = .returned (cs (setOf s.data.toList)) ∧ Below w.heap.size w w' := by
  have HV := Lib.hid (V2_at w)
  have HB := Lib.hid (V2_below w)
  unfold cs cl
  have hS : (s.size : Int) ≤ 300 := by omega
  go_enter Tryd.func36, Tryd.ntmps36
  go_wp2
  go_loopw [4] (fun i wr => ∃ k : Nat, k ≤ s.size ∧ i = .int .i64 k ∧ Hid (Below w.heap.size w wr ∧ At wr w.heap.size (fun _ => false) ∧ At wr (w.heap.size + 1) (setOf (s.data.toList.take k)))) (fun i _ => s.size - (intOf i).toNat)
  case atStart => exact ⟨0, Nat.zero_le _, rfl, HB.out, HV.out.1, HV.out.2⟩
  case round =>
    obtain ⟨k, hk, rfl, HR⟩ := hrel
    by_cases hlt : k < s.size
    · have hi : (k : Int) < s.size := by omega
      obtain ⟨c, hsc⟩ : ∃ c, s[k].toNat = c := ⟨_, rfl⟩
      have hc : c < 256 := by rw [← hsc]; exact s[k].toNat_lt
      have HN0 := setOf_next s.data.toList k (by simpa using hlt)
      have e : (s.data.toList[k]'(by simpa using hlt)).toNat = c := hsc
      rw [e] at HN0
      have Hw := Lib.hid (with_any (setOf (s.data.toList.take k)) c hc)
      rw [← HN0] at Hw
      clear HN0 e
      unfold cs cl at Hw
      obtain ⟨b0, a3, a4⟩ := HR.out
      obtain ⟨⟨c0, c1⟩, ⟨c2, c3⟩, hf⟩ := a4.words
      clear b0 a3 a4
      go_wp2
      go_region_with ((go_at_call 46; refine (Hw.out _).mono ?_; rintro e w1 ⟨rfl, hb⟩; have a4 := HR.out.2.2.drew.below hb HR.out.2.2.lt; obtain ⟨⟨d0, d1⟩, ⟨d2, d3⟩, hg⟩ := a4.words; have HY := Lib.hid (And.intro (HR.out.1.drew.trans (hb.mono HR.out.1.size)) (And.intro (HR.out.2.1.drew.below hb HR.out.2.1.lt) a4)); clear a4 hb))
      all_goals
        go_wp2
        go_roundw
        case rel => exact ⟨k + 1, by omega, by go_num, below_put4 HY.out.1 _ (by simp) _, HY.out.2.1.put4_other (by omega) _, HY.out.2.2.put4 _⟩
        case measure => simp [intOf]; omega
    · obtain rfl : k = s.size := by omega
      obtain ⟨b0, a3, a4⟩ := HR.out
      rw [List.take_of_length_le (by simp)] at a4
      have HA := Lib.hid a3
      obtain ⟨⟨c0, c1⟩, ⟨c2, c3⟩, hf⟩ := a4.words
      obtain ⟨⟨d0, d1⟩, ⟨d2, d3⟩, hg⟩ := a3.words
      clear b0 a3 a4
      go_wp2
      exact bodyPost_ret (v := cs (setOf s.data.toList)) (ret_cs (q := setOf s.data.toList) Tryd.results36 _ _ w.heap.size (by simp) (HA.out.put4 _)) rfl ⟨rfl, below_put4 HR.out.1 _ (by omega) _⟩
end Go.Proofs.YtbjobbkipmkndaaDoor
set_option linter.unusedVariables false
set_option linter.unusedSimpArgs false
set_option maxRecDepth 100000
set_option maxHeartbeats 4000000
namespace Go.Proofs.YtbjobbkipmkndaaDoor
open Go.RowKit
theorem conv_byte (c : Nat) (hc : c < 256) (w : World) (g : Nat) (hg : w.heap.size = g) :
    (convert 54 9 (.slice (some ⟨g, 0, none⟩) 1 1)).run Tryd.prog (w.alloc (.cells #[.int .u8 c] 5)) = .ok (.string ⟨#[UInt8.ofNat c]⟩) (w.alloc (.cells #[.int .u8 c] 5)) := by
  subst hg
  exact run_convert_bytes_back (P := Tryd.prog) _ 54 9 5 ⟨w.heap.size, 0, none⟩ 1 [UInt8.ofNat c] Tryd.underlying54 Tryd.underlying5 Tryd.underlying9 (fun j hj => by
    obtain rfl : j = 0 := by simpa using hj
    have := new_cells w [.int .u8 c] 5 0 _ rfl
    rw [add_at] at this
    rw [show [UInt8.ofNat c][0] = UInt8.ofNat c from rfl]
    have e : (UInt8.ofNat c).toNat = c := by simp [UInt8.toNat_ofNat]; omega
    rw [e]
    exact this)
theorem byte_any (c : Nat) (hc : c < 256) (w : World) :
    Calls Tryd.prog 26 #[.int .u8 c] w fun e w' => e = .returned (.agg #[.int .i64 2, .int .u64 (wd (setOf [UInt8.ofNat c]) 0 64 : Nat), .int .u64 (wd (setOf [UInt8.ofNat c]) 64 64 : Nat), .int .u64 (wd (setOf [UInt8.ofNat c]) 128 64 : Nat), .int .u64 (wd (setOf [UInt8.ofNat c]) 192 64 : Nat), .int .i64 0, .int .i64 0, .int .i64 0, .slice none 0 0]) ∧ Below w.heap.size w w' := by
  have HOf := Lib.hid (fun W => rof_any ⟨#[UInt8.ofNat c]⟩ (by show 1 ≤ 300; decide) W)
  have hcv := fun g h => conv_byte c hc (w.alloc (.cells #[.int .i64 0, .int .u64 0, .int .u64 0, .int .u64 0, .int .u64 0, .int .i64 0, .int .i64 0, .int .i64 0, .slice none 0 0] 34)) g h
  have hcv1 := hcv (w.heap.size + 1) (by simp)
  have he := heap_alloc_new w (.cells #[.int .i64 0, .int .u64 0, .int .u64 0, .int .u64 0, .int .u64 0, .int .i64 0, .int .i64 0, .int .i64 0, .slice none 0 0] 34)
  have hb : Below w.heap.size w (w.alloc (.cells #[.int .i64 0, .int .u64 0, .int .u64 0, .int .u64 0, .int .u64 0, .int .i64 0, .int .i64 0, .int .i64 0, .slice none 0 0] 34)) := (Below.refl _ _).alloc (Nat.le_refl _) _
  have hl : w.heap.size < (w.alloc (.cells #[.int .i64 0, .int .u64 0, .int .u64 0, .int .u64 0, .int .u64 0, .int .i64 0, .int .i64 0, .int .i64 0, .slice none 0 0] 34)).heap.size := by simp
  have HE := Lib.hid he
  have HB := Lib.hid hb
  have HL := Lib.hid hl
  clear hcv he hb hl
  have HP : Hid (setOf (⟨#[UInt8.ofNat c]⟩ : ByteArray).data.toList = setOf [UInt8.ofNat c]) := Lib.hid rfl
  rw [HP.out] at HOf
  have HCl : Hid (cs (setOf [UInt8.ofNat c]) = .agg #[.int .u64 (wd (setOf [UInt8.ofNat c]) 0 64 : Nat), .int .u64 (wd (setOf [UInt8.ofNat c]) 64 64 : Nat), .int .u64 (wd (setOf [UInt8.ofNat c]) 128 64 : Nat), .int .u64 (wd (setOf [UInt8.ofNat c]) 192 64 : Nat)]) := Lib.hid rfl
  rw [HCl.out] at HOf
  clear HCl HP
  generalize setOf [UInt8.ofNat c] = p at *
  go_enter Tryd.func26, Tryd.ntmps26
  go_wp2_with (first
    | (go_at_call 36; refine (HOf.out _).mono ?_; rintro e w1 ⟨rfl, hb⟩
       have HB1 := Lib.hid ((HB.out.alloc HB.out.size (.cells #[.int .u8 c] 5)).trans (hb.mono (HB.out.alloc HB.out.size _).size))
       have HR1 := Lib.hid ((hb.block w.heap.size (by simp; omega)).trans ((Below.heap_alloc _ _ _ HL.out).trans HE.out))
       clear hb hcv1)
    | (refine wpList_store_row rfl 34 (.tmp 2) (.tmp 7) rfl w.heap.size #[.int .i64 2, .int .u64 (wd p 0 64 : Nat), .int .u64 (wd p 64 64 : Nat), .int .u64 (wd p 128 64 : Nat), .int .u64 (wd p 192 64 : Nat), .int .i64 0, .int .i64 0, .int .i64 0, .slice none 0 0] rfl rfl 34 _ HR1.out isz_re rfl (by simp [Value.oneCell']) ?_))
  refine bodyPost_ret (v := .agg #[.int .i64 2, .int .u64 (wd p 0 64 : Nat), .int .u64 (wd p 64 64 : Nat), .int .u64 (wd p 128 64 : Nat), .int .u64 (wd p 192 64 : Nat), .int .i64 0, .int .i64 0, .int .i64 0, .slice none 0 0]) (results_cell_row rfl _ _ w.heap.size _ #[.int .i64 2, .int .u64 (wd p 0 64 : Nat), .int .u64 (wd p 64 64 : Nat), .int .u64 (wd p 128 64 : Nat), .int .u64 (wd p 192 64 : Nat), .int .i64 0, .int .i64 0, .int .i64 0, .slice none 0 0] (0, 0) _ rfl (setRow_heap w1 _ _ _ _ _ HR1.out) Tryd.underlying34 rfl isz_re) rfl ?_
  exact ⟨rfl, below_setRow HB1.out (Nat.le_refl _) _⟩
theorem node_any (op : Int) (ad : Option Addr) (n cap : Nat) (w : World) :
    Calls Tryd.prog 16 #[.int .i64 op, .slice ad n cap] w fun e w' => e = .returned (.agg #[.int .i64 op, .int .u64 (wd noSet 0 64 : Nat), .int .u64 (wd noSet 64 64 : Nat), .int .u64 (wd noSet 128 64 : Nat), .int .u64 (wd noSet 192 64 : Nat), .int .i64 0, .int .i64 0, .int .i64 0, .slice ad n cap]) ∧ Below w.heap.size w w' := by
  have he := heap_alloc_new w (.cells #[.int .i64 0, .int .u64 0, .int .u64 0, .int .u64 0, .int .u64 0, .int .i64 0, .int .i64 0, .int .i64 0, .slice none 0 0] 34)
  have hb : Below w.heap.size w (w.alloc (.cells #[.int .i64 0, .int .u64 0, .int .u64 0, .int .u64 0, .int .u64 0, .int .i64 0, .int .i64 0, .int .i64 0, .slice none 0 0] 34)) := (Below.refl _ _).alloc (Nat.le_refl _) _
  have HE := Lib.hid he
  have HB := Lib.hid hb
  clear he hb
  go_enter Tryd.func16, Tryd.ntmps16
  go_wp2_with (first
    | (refine wpList_store_row rfl 34 (.tmp 4) (.tmp 7) rfl w.heap.size #[.int .i64 op, .int .u64 0, .int .u64 0, .int .u64 0, .int .u64 0, .int .i64 0, .int .i64 0, .int .i64 0, .slice ad n cap] rfl rfl 34 _ HE.out isz_re rfl (by simp [Value.oneCell']) ?_))
  refine bodyPost_ret (v := .agg #[.int .i64 op, .int .u64 0, .int .u64 0, .int .u64 0, .int .u64 0, .int .i64 0, .int .i64 0, .int .i64 0, .slice ad n cap]) (results_cell_row rfl _ _ w.heap.size _ #[.int .i64 op, .int .u64 0, .int .u64 0, .int .u64 0, .int .u64 0, .int .i64 0, .int .i64 0, .int .i64 0, .slice ad n cap] (0, 0) _ rfl (setRow_heap _ _ _ _ _ _ HE.out) Tryd.underlying34 rfl isz_re) rfl ?_
  simp only [wd_noSet.1, wd_noSet.2.1, wd_noSet.2.2.1, wd_noSet.2.2.2]
  exact ⟨rfl, below_setRow HB.out (Nat.le_refl _) _⟩
theorem sv_one {w : World} {x : TN} {sv : Value} {S : Nat → Prop} (h1 : SV w S x.args sv) :
    SV (w.alloc (.cells #[.int .i64 x.op, .int .u64 (wd x.st 0 64 : Nat), .int .u64 (wd x.st 64 64 : Nat), .int .u64 (wd x.st 128 64 : Nat), .int .u64 (wd x.st 192 64 : Nat), .int .i64 x.lo, .int .i64 x.hi, .int .i64 x.g, sv] 34)) (fun b => S b ∨ b = w.heap.size) (.cons x.op x.st x.lo x.hi x.g x.args .nil) (.slice (some ⟨w.heap.size, 0, none⟩) 1 1) := by
  have ha : Afar S (fun b => S b ∨ b = w.heap.size) w (w.alloc (.cells #[.int .i64 x.op, .int .u64 (wd x.st 0 64 : Nat), .int .u64 (wd x.st 64 64 : Nat), .int .u64 (wd x.st 128 64 : Nat), .int .u64 (wd x.st 192 64 : Nat), .int .i64 x.lo, .int .i64 x.hi, .int .i64 x.g, sv] 34)) := ⟨by simp, fun b hb hl => ⟨.inl hb, Below.heap_alloc _ _ _ hl⟩⟩
  refine ⟨rowV x.op x.st x.lo x.hi x.g sv ++ [], _, 1, rfl, Nat.le_refl _, FV.cons.2 ⟨sv, [], rfl, h1.far ha, rfl⟩, .inr ⟨w.heap.size, 0, rfl, .inr rfl, by simp, fun j u hu => ?_⟩⟩
  rw [List.append_nil] at hu
  have := new_cells w (rowV x.op x.st x.lo x.hi x.g sv) 34 j u hu
  rw [add_at] at this
  rw [Nat.zero_add]
  exact this
theorem ti_two {w : World} {x y : TN} {sv tv : Value} (h : TI w x sv) (k : TI w y tv) (hx : F.fits (.cons x.op x.st x.lo x.hi x.g x.args .nil)) (hy : F.fits (.cons y.op y.st y.lo y.hi y.g y.args .nil)) (op lo hi g : Int) (st : Nat → Bool) (hg : -9223372036854775808 ≤ g ∧ g ≤ 9223372036854775807) :
    TI (w.alloc (.cells #[.int .i64 x.op, .int .u64 (wd x.st 0 64 : Nat), .int .u64 (wd x.st 64 64 : Nat), .int .u64 (wd x.st 128 64 : Nat), .int .u64 (wd x.st 192 64 : Nat), .int .i64 x.lo, .int .i64 x.hi, .int .i64 x.g, sv, .int .i64 y.op, .int .u64 (wd y.st 0 64 : Nat), .int .u64 (wd y.st 64 64 : Nat), .int .u64 (wd y.st 128 64 : Nat), .int .u64 (wd y.st 192 64 : Nat), .int .i64 y.lo, .int .i64 y.hi, .int .i64 y.g, tv] 34)) ⟨op, st, lo, hi, g, .cons x.op x.st x.lo x.hi x.g x.args (.cons y.op y.st y.lo y.hi y.g y.args .nil)⟩ (.slice (some ⟨w.heap.size, 0, none⟩) 2 2) := by
  obtain ⟨S, h1, h2, h3, h4⟩ := h
  obtain ⟨T, k1, k2, k3, k4⟩ := k
  have ha : Afar S (fun b => (S b ∨ T b) ∨ b = w.heap.size) w (w.alloc (.cells #[.int .i64 x.op, .int .u64 (wd x.st 0 64 : Nat), .int .u64 (wd x.st 64 64 : Nat), .int .u64 (wd x.st 128 64 : Nat), .int .u64 (wd x.st 192 64 : Nat), .int .i64 x.lo, .int .i64 x.hi, .int .i64 x.g, sv, .int .i64 y.op, .int .u64 (wd y.st 0 64 : Nat), .int .u64 (wd y.st 64 64 : Nat), .int .u64 (wd y.st 128 64 : Nat), .int .u64 (wd y.st 192 64 : Nat), .int .i64 y.lo, .int .i64 y.hi, .int .i64 y.g, tv] 34)) := ⟨by simp, fun b hb hl => ⟨.inl (.inl hb), Below.heap_alloc _ _ _ hl⟩⟩
  have hc : Afar T (fun b => (S b ∨ T b) ∨ b = w.heap.size) w (w.alloc (.cells #[.int .i64 x.op, .int .u64 (wd x.st 0 64 : Nat), .int .u64 (wd x.st 64 64 : Nat), .int .u64 (wd x.st 128 64 : Nat), .int .u64 (wd x.st 192 64 : Nat), .int .i64 x.lo, .int .i64 x.hi, .int .i64 x.g, sv, .int .i64 y.op, .int .u64 (wd y.st 0 64 : Nat), .int .u64 (wd y.st 64 64 : Nat), .int .u64 (wd y.st 128 64 : Nat), .int .u64 (wd y.st 192 64 : Nat), .int .i64 y.lo, .int .i64 y.hi, .int .i64 y.g, tv] 34)) := ⟨by simp, fun b hb hl => ⟨.inl (.inr hb), Below.heap_alloc _ _ _ hl⟩⟩
  refine ⟨fun b => (S b ∨ T b) ∨ b = w.heap.size, ⟨rowV x.op x.st x.lo x.hi x.g sv ++ (rowV y.op y.st y.lo y.hi y.g tv ++ []), _, 2, rfl, Nat.le_refl _, FV.cons.2 ⟨sv, _, rfl, h1.far ha, FV.cons.2 ⟨tv, [], rfl, k1.far hc, rfl⟩⟩, .inr ⟨w.heap.size, 0, rfl, .inr rfl, by simp, fun j u hu => ?_⟩⟩, fun b hb => ?_, ⟨?_, hx.1, hx.2.1, hx.2.2.1, hy⟩, hg.1, hg.2⟩
  · have := new_cells w (rowV x.op x.st x.lo x.hi x.g sv ++ (rowV y.op y.st y.lo y.hi y.g tv ++ [])) 34 j u hu
    rw [add_at] at this
    rw [Nat.zero_add]
    exact this
  · rcases hb with (hb | hb) | rfl
    · have := h2 b hb; simp; omega
    · have := k2 b hb; simp; omega
    · simp
  · show 2 ≤ maxLen
    decide
theorem ti_one {w : World} {x : TN} {sv : Value} (h : TI w x sv) (hx : F.fits (.cons x.op x.st x.lo x.hi x.g x.args .nil)) (op lo hi g : Int) (st : Nat → Bool) (hg : -9223372036854775808 ≤ g ∧ g ≤ 9223372036854775807) :
    TI (w.alloc (.cells #[.int .i64 x.op, .int .u64 (wd x.st 0 64 : Nat), .int .u64 (wd x.st 64 64 : Nat), .int .u64 (wd x.st 128 64 : Nat), .int .u64 (wd x.st 192 64 : Nat), .int .i64 x.lo, .int .i64 x.hi, .int .i64 x.g, sv] 34)) ⟨op, st, lo, hi, g, .cons x.op x.st x.lo x.hi x.g x.args .nil⟩ (.slice (some ⟨w.heap.size, 0, none⟩) 1 1) := by
  obtain ⟨S, h1, h2, h3, h4⟩ := h
  refine ⟨fun b => S b ∨ b = w.heap.size, sv_one h1, fun b hb => ?_, ⟨?_, hx⟩, hg.1, hg.2⟩
  · rcases hb with hb | rfl
    · have := h2 b hb; simp; omega
    · simp
  · show 1 ≤ maxLen
    decide
theorem ti_leaf (w : World) (op lo hi : Int) (st : Nat → Bool) : TI w ⟨op, st, lo, hi, 0, .nil⟩ (.slice none 0 0) := ⟨fun _ => False, .nil _ _, fun _ h => h.elim, ⟨Nat.zero_le _, trivial⟩, by show (-9223372036854775808 : Int) ≤ 0; decide, by show (0 : Int) ≤ 9223372036854775807; decide⟩
end Go.Proofs.YtbjobbkipmkndaaDoor
set_option linter.unusedVariables false
set_option linter.unusedSimpArgs false
namespace Go.Proofs.YtbjobbkipmkndaaDoor
open Go.RowKit
set_option maxRecDepth 100000
section
variable (o a b c d x y : Int) (w : World)
theorem pin_0 : (part 3 #[.int .i64 o, .int .u64 a, .int .u64 b, .int .u64 c, .int .u64 d, .int .i64 x, .int .i64 y] 0).run Tryd.prog w = .ok (.int .i64 o) w := by kernel_rfl
theorem pin_1 : (part 31 #[.int .i64 o, .int .u64 a, .int .u64 b, .int .u64 c, .int .u64 d, .int .i64 x, .int .i64 y] 1).run Tryd.prog w = .ok (.agg #[.int .u64 a, .int .u64 b, .int .u64 c, .int .u64 d]) w := by kernel_rfl
theorem pin_5 : (part 3 #[.int .i64 o, .int .u64 a, .int .u64 b, .int .u64 c, .int .u64 d, .int .i64 x, .int .i64 y] 5).run Tryd.prog w = .ok (.int .i64 x) w := by kernel_rfl
theorem pin_6 : (part 3 #[.int .i64 o, .int .u64 a, .int .u64 b, .int .u64 c, .int .u64 d, .int .i64 x, .int .i64 y] 6).run Tryd.prog w = .ok (.int .i64 y) w := by kernel_rfl
end
theorem fields_in : ∃ f0 f1 f2 f3 : Field, Tryd.prog.fieldsOf 39 = #[f0, f1, f2, f3] ∧ (f0.name ≠ "_" ∧ f0.type = 3 ∧ f0.offset = 0) ∧ (f1.name ≠ "_" ∧ f1.type = 31 ∧ f1.offset = 1) ∧ (f2.name ≠ "_" ∧ f2.type = 3 ∧ f2.offset = 5) ∧ f3.name ≠ "_" ∧ f3.type = 3 ∧ f3.offset = 6 := ⟨_, _, _, _, rfl, ⟨by decide, rfl, rfl⟩, ⟨by decide, rfl, rfl⟩, ⟨by decide, rfl, rfl⟩, by decide, rfl, rfl⟩
theorem equal_cs9 (a b c d a' b' c' d' : Int) (w : World) : (Op.equalIn 9999 31 (.agg #[.int .u64 a, .int .u64 b, .int .u64 c, .int .u64 d]) (.agg #[.int .u64 a', .int .u64 b', .int .u64 c', .int .u64 d'])).run Tryd.prog w = .ok (a == a' && (b == b' && (c == c' && d == d'))) w := by
  obtain ⟨f, hf, hn, ht, ho⟩ := fields_cs
  rw [run_equalIn_agg w 9998 31 _ _ (by kernel_rfl) (by kernel_rfl), hf]
  cases hb : (a == a' && (b == b' && (c == c' && d == d'))) <;> simp [Op.eqFields, hn, ht, ho, part_words, eq_arr 9996, hb]
set_option maxHeartbeats 4000000 in
theorem equal_in (o a b c d x y o' a' b' c' d' x' y' : Int) (w : World) : (Op.equalIn 10000 39 (.agg #[.int .i64 o, .int .u64 a, .int .u64 b, .int .u64 c, .int .u64 d, .int .i64 x, .int .i64 y]) (.agg #[.int .i64 o', .int .u64 a', .int .u64 b', .int .u64 c', .int .u64 d', .int .i64 x', .int .i64 y'])).run Tryd.prog w = .ok (o == o' && ((a == a' && (b == b' && (c == c' && d == d'))) && (x == x' && y == y'))) w := by
  obtain ⟨f0, f1, f2, f3, hf, ⟨n0, t0, o0⟩, ⟨n1, t1, o1⟩, ⟨n2, t2, o2⟩, n3, t3, o3⟩ := fields_in
  rw [run_equalIn_agg w 9999 39 _ _ (by kernel_rfl) (by kernel_rfl), hf]
  cases h0 : (o == o') <;> cases hb : (a == a' && (b == b' && (c == c' && d == d'))) <;> cases hx : (x == x') <;> cases hy : (y == y') <;>
    simp [Op.eqFields, n0, t0, o0, n1, t1, o1, n2, t2, o2, n3, t3, o3, pin_0, pin_1, pin_5, pin_6, equal_cs9, run_equalIn_int _ 9998 3 .i64 .i64 _ _ Tryd.underlying3, h0, hb, hx, hy]
theorem eql_in (o a b c d x y o' a' b' c' d' x' y' : Int) (w : World) : (binOp .eql 39 (.agg #[.int .i64 o, .int .u64 a, .int .u64 b, .int .u64 c, .int .u64 d, .int .i64 x, .int .i64 y]) (.agg #[.int .i64 o', .int .u64 a', .int .u64 b', .int .u64 c', .int .u64 d', .int .i64 x', .int .i64 y'])).run Tryd.prog w = .ok (.bool (o == o' && ((a == a' && (b == b' && (c == c' && d == d'))) && (x == x' && y == y')))) w := by
  rw [run_eql_struct, equal_in]
  rfl
theorem neq_in (o a b c d x y o' a' b' c' d' x' y' : Int) (w : World) : (binOp .neq 39 (.agg #[.int .i64 o, .int .u64 a, .int .u64 b, .int .u64 c, .int .u64 d, .int .i64 x, .int .i64 y]) (.agg #[.int .i64 o', .int .u64 a', .int .u64 b', .int .u64 c', .int .u64 d', .int .i64 x', .int .i64 y'])).run Tryd.prog w = .ok (.bool (!(o == o' && ((a == a' && (b == b' && (c == c' && d == d'))) && (x == x' && y == y'))))) w := by
  rw [run_neq_struct, equal_in]
  rfl
def eqIN (i j : IN) : Bool := i.op == j.op && (eqc i.st j.st && (i.x == j.x && i.y == j.y))
theorem neq_IN (i j : IN) (w : World) : (binOp .neq 39 (.agg #[.int .i64 i.op, .int .u64 (wd i.st 0 64 : Nat), .int .u64 (wd i.st 64 64 : Nat), .int .u64 (wd i.st 128 64 : Nat), .int .u64 (wd i.st 192 64 : Nat), .int .i64 i.x, .int .i64 i.y]) (.agg #[.int .i64 j.op, .int .u64 (wd j.st 0 64 : Nat), .int .u64 (wd j.st 64 64 : Nat), .int .u64 (wd j.st 128 64 : Nat), .int .u64 (wd j.st 192 64 : Nat), .int .i64 j.x, .int .i64 j.y])).run Tryd.prog w = .ok (.bool (!eqIN i j)) w := by
  rw [neq_in]
  rfl
end Go.Proofs.YtbjobbkipmkndaaDoor
