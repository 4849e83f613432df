/- RpAw, RpEq, RpAwk. -/
import Derived.Test.YtbjobbkipmkndaaDoorPj13
import Derived.Test.YtbjobbkipmkndaaDoorRows
import Derived.Test.YtbjobbkipmkndaaDoorPj25
import Derived.Test.YtbjobbkipmkndaaDoorPj16
import Derived.Test.YtbjobbkipmkndaaDoorPj22
import Derived.Test.YtbjobbkipmkndaaDoorPj24
set_option linter.unusedVariables false
set_option linter.unusedSimpArgs false
set_option maxRecDepth 100000
set_option maxHeartbeats 4000000
namespace Go.Proofs.YtbjobbkipmkndaaDoor
open Go.RowKit
theorem conv_byte (c : Nat) (hc : c < 256) (w : World) (g : Nat) (hg : w.heap.size = g) :
    (convert 54 9 (.slice (some ⟨g, 0, none⟩) 1 1)).run Tryd.prog (w.alloc (.cells #[.int .u8 c] 5)) = .ok (.string ⟨#[UInt8.ofNat c]⟩) (w.alloc (.cells #[.int .u8 c] 5)) := by
  subst hg
  exact run_convert_bytes_back (P := Tryd.prog) _ 54 9 5 ⟨w.heap.size, 0, none⟩ 1 [UInt8.ofNat c] Tryd.underlying54 Tryd.underlying5 Tryd.underlying9 (fun j hj => by
    obtain rfl : j = 0 := by simpa using hj
    have := new_cells w [.int .u8 c] 5 0 _ rfl
    rw [add_at] at this
    rw [show [UInt8.ofNat c][0] = UInt8.ofNat c from rfl]
    have e : (UInt8.ofNat c).toNat = c := by simp [UInt8.toNat_ofNat]; omega
    rw [e]
    exact this)
theorem byte_any (c : Nat) (hc : c < 256) (w : World) :
    Calls Tryd.prog 26 #[.int .u8 c] w fun e w' => e = .returned (.agg #[.int .i64 2, .int .u64 (wd (setOf [UInt8.ofNat c]) 0 64 : Nat), .int .u64 (wd (setOf [UInt8.ofNat c]) 64 64 : Nat), .int .u64 (wd (setOf [UInt8.ofNat c]) 128 64 : Nat), .int .u64 (wd (setOf [UInt8.ofNat c]) 192 64 : Nat), .int .i64 0, .int .i64 0, .int .i64 0, .slice none 0 0]) ∧ Below w.heap.size w w' := by
  have HOf := Lib.hid (fun W => rof_any ⟨#[UInt8.ofNat c]⟩ (by show 1 ≤ 300; decide) W)
  have hcv := fun g h => conv_byte c hc (w.alloc (.cells #[.int .i64 0, .int .u64 0, .int .u64 0, .int .u64 0, .int .u64 0, .int .i64 0, .int .i64 0, .int .i64 0, .slice none 0 0] 34)) g h
  have hcv1 := hcv (w.heap.size + 1) (by simp)
  have he := heap_alloc_new w (.cells #[.int .i64 0, .int .u64 0, .int .u64 0, .int .u64 0, .int .u64 0, .int .i64 0, .int .i64 0, .int .i64 0, .slice none 0 0] 34)
  have hb : Below w.heap.size w (w.alloc (.cells #[.int .i64 0, .int .u64 0, .int .u64 0, .int .u64 0, .int .u64 0, .int .i64 0, .int .i64 0, .int .i64 0, .slice none 0 0] 34)) := (Below.refl _ _).alloc (Nat.le_refl _) _
  have hl : w.heap.size < (w.alloc (.cells #[.int .i64 0, .int .u64 0, .int .u64 0, .int .u64 0, .int .u64 0, .int .i64 0, .int .i64 0, .int .i64 0, .slice none 0 0] 34)).heap.size := by simp
  have HE := Lib.hid he
  have HB := Lib.hid hb
  have HL := Lib.hid hl
  clear hcv he hb hl
  have HP : Hid (setOf (⟨#[UInt8.ofNat c]⟩ : ByteArray).data.toList = setOf [UInt8.ofNat c]) := Lib.hid rfl
  rw [HP.out] at HOf
  have HCl : Hid (cs (setOf [UInt8.ofNat c]) = .agg #[.int .u64 (wd (setOf [UInt8.ofNat c]) 0 64 : Nat), .int .u64 (wd (setOf [UInt8.ofNat c]) 64 64 : Nat), .int .u64 (wd (setOf [UInt8.ofNat c]) 128 64 : Nat), .int .u64 (wd (setOf [UInt8.ofNat c]) 192 64 : Nat)]) := Lib.hid rfl
  rw [HCl.out] at HOf
  clear HCl HP
  generalize setOf [UInt8.ofNat c] = p at *
  go_enter Tryd.func26, Tryd.ntmps26
  go_wp2_with (first
    | (go_at_call 36; refine (HOf.out _).mono ?_; rintro e w1 ⟨rfl, hb⟩
       have HB1 := Lib.hid ((HB.out.alloc HB.out.size (.cells #[.int .u8 c] 5)).trans (hb.mono (HB.out.alloc HB.out.size _).size))
       have HR1 := Lib.hid ((hb.block w.heap.size (by simp; omega)).trans ((Below.heap_alloc _ _ _ HL.out).trans HE.out))
       clear hb hcv1)
    | (refine wpList_store_row rfl 34 (.tmp 2) (.tmp 7) rfl w.heap.size #[.int .i64 2, .int .u64 (wd p 0 64 : Nat), .int .u64 (wd p 64 64 : Nat), .int .u64 (wd p 128 64 : Nat), .int .u64 (wd p 192 64 : Nat), .int .i64 0, .int .i64 0, .int .i64 0, .slice none 0 0] rfl rfl 34 _ HR1.out isz_re rfl (by simp [Value.oneCell']) ?_))
  refine bodyPost_ret (v := .agg #[.int .i64 2, .int .u64 (wd p 0 64 : Nat), .int .u64 (wd p 64 64 : Nat), .int .u64 (wd p 128 64 : Nat), .int .u64 (wd p 192 64 : Nat), .int .i64 0, .int .i64 0, .int .i64 0, .slice none 0 0]) (results_cell_row rfl _ _ w.heap.size _ #[.int .i64 2, .int .u64 (wd p 0 64 : Nat), .int .u64 (wd p 64 64 : Nat), .int .u64 (wd p 128 64 : Nat), .int .u64 (wd p 192 64 : Nat), .int .i64 0, .int .i64 0, .int .i64 0, .slice none 0 0] (0, 0) _ rfl (setRow_heap w1 _ _ _ _ _ HR1.out) Tryd.underlying34 rfl isz_re) rfl ?_
  exact ⟨rfl, below_setRow HB1.out (Nat.le_refl _) _⟩
theorem node_any (op : Int) (ad : Option Addr) (n cap : Nat) (w : World) :
    Calls Tryd.prog 16 #[.int .i64 op, .slice ad n cap] w fun e w' => e = .returned (.agg #[.int .i64 op, .int .u64 (wd noSet 0 64 : Nat), .int .u64 (wd noSet 64 64 : Nat), .int .u64 (wd noSet 128 64 : Nat), .int .u64 (wd noSet 192 64 : Nat), .int .i64 0, .int .i64 0, .int .i64 0, .slice ad n cap]) ∧ Below w.heap.size w w' := by
  have he := heap_alloc_new w (.cells #[.int .i64 0, .int .u64 0, .int .u64 0, .int .u64 0, .int .u64 0, .int .i64 0, .int .i64 0, .int .i64 0, .slice none 0 0] 34)
  have hb : Below w.heap.size w (w.alloc (.cells #[.int .i64 0, .int .u64 0, .int .u64 0, .int .u64 0, .int .u64 0, .int .i64 0, .int .i64 0, .int .i64 0, .slice none 0 0] 34)) := (Below.refl _ _).alloc (Nat.le_refl _) _
  have HE := Lib.hid he
  have HB := Lib.hid hb
  clear he hb
  go_enter Tryd.func16, Tryd.ntmps16
  go_wp2_with (first
    | (refine wpList_store_row rfl 34 (.tmp 4) (.tmp 7) rfl w.heap.size #[.int .i64 op, .int .u64 0, .int .u64 0, .int .u64 0, .int .u64 0, .int .i64 0, .int .i64 0, .int .i64 0, .slice ad n cap] rfl rfl 34 _ HE.out isz_re rfl (by simp [Value.oneCell']) ?_))
  refine bodyPost_ret (v := .agg #[.int .i64 op, .int .u64 0, .int .u64 0, .int .u64 0, .int .u64 0, .int .i64 0, .int .i64 0, .int .i64 0, .slice ad n cap]) (results_cell_row rfl _ _ w.heap.size _ #[.int .i64 op, .int .u64 0, .int .u64 0, .int .u64 0, .int .u64 0, .int .i64 0, .int .i64 0, .int .i64 0, .slice ad n cap] (0, 0) _ rfl (setRow_heap _ _ _ _ _ _ HE.out) Tryd.underlying34 rfl isz_re) rfl ?_
  simp only [wd_noSet.1, wd_noSet.2.1, wd_noSet.2.2.1, wd_noSet.2.2.2]
  exact ⟨rfl, below_setRow HB.out (Nat.le_refl _) _⟩
theorem sv_one {w : World} {x : TN} {sv : Value} {S : Nat → Prop} (h1 : SV w S x.args sv) :
    SV (w.alloc (.cells #[.int .i64 x.op, .int .u64 (wd x.st 0 64 : Nat), .int .u64 (wd x.st 64 64 : Nat), .int .u64 (wd x.st 128 64 : Nat), .int .u64 (wd x.st 192 64 : Nat), .int .i64 x.lo, .int .i64 x.hi, .int .i64 x.g, sv] 34)) (fun b => S b ∨ b = w.heap.size) (.cons x.op x.st x.lo x.hi x.g x.args .nil) (.slice (some ⟨w.heap.size, 0, none⟩) 1 1) := by
  have ha : Afar S (fun b => S b ∨ b = w.heap.size) w (w.alloc (.cells #[.int .i64 x.op, .int .u64 (wd x.st 0 64 : Nat), .int .u64 (wd x.st 64 64 : Nat), .int .u64 (wd x.st 128 64 : Nat), .int .u64 (wd x.st 192 64 : Nat), .int .i64 x.lo, .int .i64 x.hi, .int .i64 x.g, sv] 34)) := ⟨by simp, fun b hb hl => ⟨.inl hb, Below.heap_alloc _ _ _ hl⟩⟩
  refine ⟨rowV x.op x.st x.lo x.hi x.g sv ++ [], _, 1, rfl, Nat.le_refl _, FV.cons.2 ⟨sv, [], rfl, h1.far ha, rfl⟩, .inr ⟨w.heap.size, 0, rfl, .inr rfl, by simp, fun j u hu => ?_⟩⟩
  rw [List.append_nil] at hu
  have := new_cells w (rowV x.op x.st x.lo x.hi x.g sv) 34 j u hu
  rw [add_at] at this
  rw [Nat.zero_add]
  exact this
theorem ti_two {w : World} {x y : TN} {sv tv : Value} (h : TI w x sv) (k : TI w y tv) (hx : F.fits (.cons x.op x.st x.lo x.hi x.g x.args .nil)) (hy : F.fits (.cons y.op y.st y.lo y.hi y.g y.args .nil)) (op lo hi g : Int) (st : Nat → Bool) (hg : -9223372036854775808 ≤ g ∧ g ≤ 9223372036854775807) :
    TI (w.alloc (.cells #[.int .i64 x.op, .int .u64 (wd x.st 0 64 : Nat), .int .u64 (wd x.st 64 64 : Nat), .int .u64 (wd x.st 128 64 : Nat), .int .u64 (wd x.st 192 64 : Nat), .int .i64 x.lo, .int .i64 x.hi, .int .i64 x.g, sv, .int .i64 y.op, .int .u64 (wd y.st 0 64 : Nat), .int .u64 (wd y.st 64 64 : Nat), .int .u64 (wd y.st 128 64 : Nat), .int .u64 (wd y.st 192 64 : Nat), .int .i64 y.lo, .int .i64 y.hi, .int .i64 y.g, tv] 34)) ⟨op, st, lo, hi, g, .cons x.op x.st x.lo x.hi x.g x.args (.cons y.op y.st y.lo y.hi y.g y.args .nil)⟩ (.slice (some ⟨w.heap.size, 0, none⟩) 2 2) := by
  obtain ⟨S, h1, h2, h3, h4⟩ := h
  obtain ⟨T, k1, k2, k3, k4⟩ := k
  have ha : Afar S (fun b => (S b ∨ T b) ∨ b = w.heap.size) w (w.alloc (.cells #[.int .i64 x.op, .int .u64 (wd x.st 0 64 : Nat), .int .u64 (wd x.st 64 64 : Nat), .int .u64 (wd x.st 128 64 : Nat), .int .u64 (wd x.st 192 64 : Nat), .int .i64 x.lo, .int .i64 x.hi, .int .i64 x.g, sv, .int .i64 y.op, .int .u64 (wd y.st 0 64 : Nat), .int .u64 (wd y.st 64 64 : Nat), .int .u64 (wd y.st 128 64 : Nat), .int .u64 (wd y.st 192 64 : Nat), .int .i64 y.lo, .int .i64 y.hi, .int .i64 y.g, tv] 34)) := ⟨by simp, fun b hb hl => ⟨.inl (.inl hb), Below.heap_alloc _ _ _ hl⟩⟩
  have hc : Afar T (fun b => (S b ∨ T b) ∨ b = w.heap.size) w (w.alloc (.cells #[.int .i64 x.op, .int .u64 (wd x.st 0 64 : Nat), .int .u64 (wd x.st 64 64 : Nat), .int .u64 (wd x.st 128 64 : Nat), .int .u64 (wd x.st 192 64 : Nat), .int .i64 x.lo, .int .i64 x.hi, .int .i64 x.g, sv, .int .i64 y.op, .int .u64 (wd y.st 0 64 : Nat), .int .u64 (wd y.st 64 64 : Nat), .int .u64 (wd y.st 128 64 : Nat), .int .u64 (wd y.st 192 64 : Nat), .int .i64 y.lo, .int .i64 y.hi, .int .i64 y.g, tv] 34)) := ⟨by simp, fun b hb hl => ⟨.inl (.inr hb), Below.heap_alloc _ _ _ hl⟩⟩
  refine ⟨fun b => (S b ∨ T b) ∨ b = w.heap.size, ⟨rowV x.op x.st x.lo x.hi x.g sv ++ (rowV y.op y.st y.lo y.hi y.g tv ++ []), _, 2, rfl, Nat.le_refl _, FV.cons.2 ⟨sv, _, rfl, h1.far ha, FV.cons.2 ⟨tv, [], rfl, k1.far hc, rfl⟩⟩, .inr ⟨w.heap.size, 0, rfl, .inr rfl, by simp, fun j u hu => ?_⟩⟩, fun b hb => ?_, ⟨?_, hx.1, hx.2.1, hx.2.2.1, hy⟩, hg.1, hg.2⟩
  · have := new_cells w (rowV x.op x.st x.lo x.hi x.g sv ++ (rowV y.op y.st y.lo y.hi y.g tv ++ [])) 34 j u hu
    rw [add_at] at this
    rw [Nat.zero_add]
    exact this
  · rcases hb with (hb | hb) | rfl
    · have := h2 b hb; simp; omega
    · have := k2 b hb; simp; omega
    · simp
  · show 2 ≤ maxLen
    decide
theorem ti_one {w : World} {x : TN} {sv : Value} (h : TI w x sv) (hx : F.fits (.cons x.op x.st x.lo x.hi x.g x.args .nil)) (op lo hi g : Int) (st : Nat → Bool) (hg : -9223372036854775808 ≤ g ∧ g ≤ 9223372036854775807) :
    TI (w.alloc (.cells #[.int .i64 x.op, .int .u64 (wd x.st 0 64 : Nat), .int .u64 (wd x.st 64 64 : Nat), .int .u64 (wd x.st 128 64 : Nat), .int .u64 (wd x.st 192 64 : Nat), .int .i64 x.lo, .int .i64 x.hi, .int .i64 x.g, sv] 34)) ⟨op, st, lo, hi, g, .cons x.op x.st x.lo x.hi x.g x.args .nil⟩ (.slice (some ⟨w.heap.size, 0, none⟩) 1 1) := by
  obtain ⟨S, h1, h2, h3, h4⟩ := h
  refine ⟨fun b => S b ∨ b = w.heap.size, sv_one h1, fun b hb => ?_, ⟨?_, hx⟩, hg.1, hg.2⟩
  · rcases hb with hb | rfl
    · have := h2 b hb; simp; omega
    · simp
  · show 1 ≤ maxLen
    decide
theorem ti_leaf (w : World) (op lo hi : Int) (st : Nat → Bool) : TI w ⟨op, st, lo, hi, 0, .nil⟩ (.slice none 0 0) := ⟨fun _ => False, .nil _ _, fun _ h => h.elim, ⟨Nat.zero_le _, trivial⟩, by show (-9223372036854775808 : Int) ≤ 0; decide, by show (0 : Int) ≤ 9223372036854775807; decide⟩
end Go.Proofs.YtbjobbkipmkndaaDoor
set_option linter.unusedVariables false
set_option linter.unusedSimpArgs false
namespace Go.Proofs.YtbjobbkipmkndaaDoor
open Go.RowKit
set_option maxRecDepth 100000
section
variable (o a b c d x y : Int) (w : World)
theorem pin_0 : (Go.part 3 #[.int .i64 o, .int .u64 a, .int .u64 b, .int .u64 c, .int .u64 d, .int .i64 x, .int .i64 y] 0).run Tryd.prog w = .ok (.int .i64 o) w := by kernel_rfl
theorem pin_1 : (Go.part 31 #[.int .i64 o, .int .u64 a, .int .u64 b, .int .u64 c, .int .u64 d, .int .i64 x, .int .i64 y] 1).run Tryd.prog w = .ok (.agg #[.int .u64 a, .int .u64 b, .int .u64 c, .int .u64 d]) w := by kernel_rfl
theorem pin_5 : (Go.part 3 #[.int .i64 o, .int .u64 a, .int .u64 b, .int .u64 c, .int .u64 d, .int .i64 x, .int .i64 y] 5).run Tryd.prog w = .ok (.int .i64 x) w := by kernel_rfl
theorem pin_6 : (Go.part 3 #[.int .i64 o, .int .u64 a, .int .u64 b, .int .u64 c, .int .u64 d, .int .i64 x, .int .i64 y] 6).run Tryd.prog w = .ok (.int .i64 y) w := by kernel_rfl
end
theorem fields_in : ∃ f0 f1 f2 f3 : Field, Tryd.prog.fieldsOf 39 = #[f0, f1, f2, f3] ∧ (f0.name ≠ "_" ∧ f0.type = 3 ∧ f0.offset = 0) ∧ (f1.name ≠ "_" ∧ f1.type = 31 ∧ f1.offset = 1) ∧ (f2.name ≠ "_" ∧ f2.type = 3 ∧ f2.offset = 5) ∧ f3.name ≠ "_" ∧ f3.type = 3 ∧ f3.offset = 6 := ⟨_, _, _, _, rfl, ⟨by decide, rfl, rfl⟩, ⟨by decide, rfl, rfl⟩, ⟨by decide, rfl, rfl⟩, by decide, rfl, rfl⟩
theorem equal_cs9 (a b c d a' b' c' d' : Int) (w : World) : (Op.equalIn 9999 31 (.agg #[.int .u64 a, .int .u64 b, .int .u64 c, .int .u64 d]) (.agg #[.int .u64 a', .int .u64 b', .int .u64 c', .int .u64 d'])).run Tryd.prog w = .ok (a == a' && (b == b' && (c == c' && d == d'))) w := by
  obtain ⟨f, hf, hn, ht, ho⟩ := fields_cs
  rw [run_equalIn_agg w 9998 31 _ _ (by kernel_rfl) (by kernel_rfl), hf]
  cases hb : (a == a' && (b == b' && (c == c' && d == d'))) <;> simp [Op.eqFields, hn, ht, ho, part_words, eq_arr 9996, hb]
set_option maxHeartbeats 4000000 in
theorem equal_in (o a b c d x y o' a' b' c' d' x' y' : Int) (w : World) : (Op.equalIn 10000 39 (.agg #[.int .i64 o, .int .u64 a, .int .u64 b, .int .u64 c, .int .u64 d, .int .i64 x, .int .i64 y]) (.agg #[.int .i64 o', .int .u64 a', .int .u64 b', .int .u64 c', .int .u64 d', .int .i64 x', .int .i64 y'])).run Tryd.prog w = .ok (o == o' && ((a == a' && (b == b' && (c == c' && d == d'))) && (x == x' && y == y'))) w := by
  obtain ⟨f0, f1, f2, f3, hf, ⟨n0, t0, o0⟩, ⟨n1, t1, o1⟩, ⟨n2, t2, o2⟩, n3, t3, o3⟩ := fields_in
  rw [run_equalIn_agg w 9999 39 _ _ (by kernel_rfl) (by kernel_rfl), hf]
  cases h0 : (o == o') <;> cases hb : (a == a' && (b == b' && (c == c' && d == d'))) <;> cases hx : (x == x') <;> cases hy : (y == y') <;>
    simp [Op.eqFields, n0, t0, o0, n1, t1, o1, n2, t2, o2, n3, t3, o3, pin_0, pin_1, pin_5, pin_6, equal_cs9, run_equalIn_int _ 9998 3 .i64 .i64 _ _ Tryd.underlying3, h0, hb, hx, hy]
theorem eql_in (o a b c d x y o' a' b' c' d' x' y' : Int) (w : World) : (binOp .eql 39 (.agg #[.int .i64 o, .int .u64 a, .int .u64 b, .int .u64 c, .int .u64 d, .int .i64 x, .int .i64 y]) (.agg #[.int .i64 o', .int .u64 a', .int .u64 b', .int .u64 c', .int .u64 d', .int .i64 x', .int .i64 y'])).run Tryd.prog w = .ok (.bool (o == o' && ((a == a' && (b == b' && (c == c' && d == d'))) && (x == x' && y == y')))) w := by
  rw [run_eql_struct, equal_in]
  rfl
theorem neq_in (o a b c d x y o' a' b' c' d' x' y' : Int) (w : World) : (binOp .neq 39 (.agg #[.int .i64 o, .int .u64 a, .int .u64 b, .int .u64 c, .int .u64 d, .int .i64 x, .int .i64 y]) (.agg #[.int .i64 o', .int .u64 a', .int .u64 b', .int .u64 c', .int .u64 d', .int .i64 x', .int .i64 y'])).run Tryd.prog w = .ok (.bool (!(o == o' && ((a == a' && (b == b' && (c == c' && d == d'))) && (x == x' && y == y'))))) w := by
  rw [run_neq_struct, equal_in]
  rfl
def eqIN (i j : IN) : Bool := i.op == j.op && (eqc i.st j.st && (i.x == j.x && i.y == j.y))
theorem neq_IN (i j : IN) (w : World) : (binOp .neq 39 (.agg #[.int .i64 i.op, .int .u64 (wd i.st 0 64 : Nat), .int .u64 (wd i.st 64 64 : Nat), .int .u64 (wd i.st 128 64 : Nat), .int .u64 (wd i.st 192 64 : Nat), .int .i64 i.x, .int .i64 i.y]) (.agg #[.int .i64 j.op, .int .u64 (wd j.st 0 64 : Nat), .int .u64 (wd j.st 64 64 : Nat), .int .u64 (wd j.st 128 64 : Nat), .int .u64 (wd j.st 192 64 : Nat), .int .i64 j.x, .int .i64 j.y])).run Tryd.prog w = .ok (.bool (!eqIN i j)) w := by
  rw [neq_in]
  rfl
end Go.Proofs.YtbjobbkipmkndaaDoor
set_option linter.unusedVariables false
set_option linter.unusedSimpArgs false
set_option maxRecDepth 100000
set_option maxHeartbeats 8000000
namespace Go.Proofs.YtbjobbkipmkndaaDoor
open Go.RowKit
def bT (c : Nat) : TN := ⟨2, setOf [UInt8.ofNat c], 0, 0, 0, .nil⟩
def one (x : TN) : F := .cons x.op x.st x.lo x.hi x.g x.args .nil
def two (x y : TN) : F := .cons x.op x.st x.lo x.hi x.g x.args (.cons y.op y.st y.lo y.hi y.g y.args .nil)
def nA : TN := ⟨4, noSet, 0, 0, 0, two (bT 97) (bT 98)⟩
def tW : TN := ⟨5, noSet, 0, -1, 0, one nA⟩
def pW : List IN := [sp 1 6, sp 2 4, ⟨1, setOf [97], 0, 0⟩, jm 5, ⟨1, setOf [98], 0, 0⟩, jm 0, ⟨6, noSet, 0, 0⟩]
theorem aw_cmp : cmpT tW = (pW, 0) := by kernel_rfl
theorem aw_val : valL pW = true := by kernel_rfl
theorem fitB {c : Nat} : F.fits (.cons (bT c).op (bT c).st (bT c).lo (bT c).hi (bT c).g (bT c).args .nil) := by simp [bT, F.fits, F.len, maxLen]
theorem fitA : F.fits (.cons nA.op nA.st nA.lo nA.hi nA.g nA.args .nil) := by simp [nA, two, bT, F.fits, F.len, maxLen]
theorem awake_any (w : World) (hK : KT w) : Calls Tryd.prog 12 #[] w fun e w' => e = .returned (.bool true) ∧ Below w.heap.size w w' := by
  have HB97 : Hid (∀ w, Calls Tryd.prog 26 #[.int .u8 97] w fun e w' => e = .returned (.agg #[.int .i64 (bT 97).op, .int .u64 (wd (bT 97).st 0 64 : Nat), .int .u64 (wd (bT 97).st 64 64 : Nat), .int .u64 (wd (bT 97).st 128 64 : Nat), .int .u64 (wd (bT 97).st 192 64 : Nat), .int .i64 (bT 97).lo, .int .i64 (bT 97).hi, .int .i64 (bT 97).g, .slice none 0 0]) ∧ Below w.heap.size w w') := Lib.hid (byte_any 97 (by decide))
  have HB98 : Hid (∀ w, Calls Tryd.prog 26 #[.int .u8 98] w fun e w' => e = .returned (.agg #[.int .i64 (bT 98).op, .int .u64 (wd (bT 98).st 0 64 : Nat), .int .u64 (wd (bT 98).st 64 64 : Nat), .int .u64 (wd (bT 98).st 128 64 : Nat), .int .u64 (wd (bT 98).st 192 64 : Nat), .int .i64 (bT 98).lo, .int .i64 (bT 98).hi, .int .i64 (bT 98).g, .slice none 0 0]) ∧ Below w.heap.size w w') := Lib.hid (byte_any 98 (by decide))
  have HN1 : Hid (∀ (w : World) (ad : Option Addr) (cap : Nat), Calls Tryd.prog 16 #[.int .i64 4, .slice ad 2 cap] w fun e w' => e = .returned (.agg #[.int .i64 nA.op, .int .u64 (wd nA.st 0 64 : Nat), .int .u64 (wd nA.st 64 64 : Nat), .int .u64 (wd nA.st 128 64 : Nat), .int .u64 (wd nA.st 192 64 : Nat), .int .i64 nA.lo, .int .i64 nA.hi, .int .i64 nA.g, .slice ad 2 cap]) ∧ Below w.heap.size w w') := Lib.hid (fun w ad cap => node_any 4 ad 2 cap w)
  have H0 := Lib.hid (Below.refl w.heap.size w)
  have HKT := Lib.hid hK
  go_enter Tryd.func12, Tryd.ntmps12
  go_upto_region 2 with (first
    | (go_at_call 26; (with_reducible refine (HB97.out _).mono ?_); rintro e w1 ⟨rfl, hb⟩; have H1 := Lib.hid (H0.out.trans (hb.mono H0.out.size)); clear hb)
    | (go_at_call 26; (with_reducible refine (HB98.out _).mono ?_); rintro e w2 ⟨rfl, hb⟩; have H2 := Lib.hid (H1.out.trans (hb.mono H1.out.size)); clear hb)
    | (go_at_call 16; (with_reducible refine (HN1.out (w2.alloc (.cells #[.int .i64 (bT 97).op, .int .u64 (wd (bT 97).st 0 64 : Nat), .int .u64 (wd (bT 97).st 64 64 : Nat), .int .u64 (wd (bT 97).st 128 64 : Nat), .int .u64 (wd (bT 97).st 192 64 : Nat), .int .i64 (bT 97).lo, .int .i64 (bT 97).hi, .int .i64 (bT 97).g, .slice none 0 0, .int .i64 (bT 98).op, .int .u64 (wd (bT 98).st 0 64 : Nat), .int .u64 (wd (bT 98).st 64 64 : Nat), .int .u64 (wd (bT 98).st 128 64 : Nat), .int .u64 (wd (bT 98).st 192 64 : Nat), .int .i64 (bT 98).lo, .int .i64 (bT 98).hi, .int .i64 (bT 98).g, .slice none 0 0] 34)) _ _).mono ?_); rintro e w3 ⟨rfl, hb⟩
       have H3 := Lib.hid ((H2.out.alloc H2.out.size (.cells #[.int .i64 (bT 97).op, .int .u64 (wd (bT 97).st 0 64 : Nat), .int .u64 (wd (bT 97).st 64 64 : Nat), .int .u64 (wd (bT 97).st 128 64 : Nat), .int .u64 (wd (bT 97).st 192 64 : Nat), .int .i64 (bT 97).lo, .int .i64 (bT 97).hi, .int .i64 (bT 97).g, .slice none 0 0, .int .i64 (bT 98).op, .int .u64 (wd (bT 98).st 0 64 : Nat), .int .u64 (wd (bT 98).st 64 64 : Nat), .int .u64 (wd (bT 98).st 128 64 : Nat), .int .u64 (wd (bT 98).st 192 64 : Nat), .int .i64 (bT 98).lo, .int .i64 (bT 98).hi, .int .i64 (bT 98).g, .slice none 0 0] 34)).trans (hb.mono (H2.out.alloc H2.out.size _).size))
       have T1 : Hid (TI w3 nA (.slice (some ⟨w2.heap.size, 0, none⟩) 2 2)) := Lib.hid (TI.below (ti_two (ti_leaf w2 2 0 0 (bT 97).st) (ti_leaf w2 2 0 0 (bT 98).st) fitB fitB 4 0 0 0 noSet (by decide)) hb)
       clear hb))
  have hb4 : Below w3.heap.size w3 ((w3.alloc (.cells #[.int .i64 nA.op, .int .u64 (wd nA.st 0 64 : Nat), .int .u64 (wd nA.st 64 64 : Nat), .int .u64 (wd nA.st 128 64 : Nat), .int .u64 (wd nA.st 192 64 : Nat), .int .i64 nA.lo, .int .i64 nA.hi, .int .i64 nA.g, .slice (some ⟨w2.heap.size, 0, none⟩) 2 2] 34)).alloc (.cells #[.int .i64 5, .int .u64 0, .int .u64 0, .int .u64 0, .int .u64 0, .int .i64 0, .int .i64 (-1), .int .i64 0, .slice (some ⟨w3.heap.size, 0, none⟩) 1 1] 34)) := ((Below.refl _ _).alloc (Nat.le_refl _) _).alloc (by simp) _
  have TW : TI ((w3.alloc (.cells #[.int .i64 nA.op, .int .u64 (wd nA.st 0 64 : Nat), .int .u64 (wd nA.st 64 64 : Nat), .int .u64 (wd nA.st 128 64 : Nat), .int .u64 (wd nA.st 192 64 : Nat), .int .i64 nA.lo, .int .i64 nA.hi, .int .i64 nA.g, .slice (some ⟨w2.heap.size, 0, none⟩) 2 2] 34)).alloc (.cells #[.int .i64 5, .int .u64 0, .int .u64 0, .int .u64 0, .int .u64 0, .int .i64 0, .int .i64 (-1), .int .i64 0, .slice (some ⟨w3.heap.size, 0, none⟩) 1 1] 34)) tW (.slice (some ⟨w3.heap.size, 0, none⟩) 1 1) := (ti_one T1.out fitA 5 0 (-1) 0 noSet (by decide)).below ((Below.refl _ _).alloc (Nat.le_refl _) _)
  have he4 := heap_alloc_new (w3.alloc (.cells #[.int .i64 nA.op, .int .u64 (wd nA.st 0 64 : Nat), .int .u64 (wd nA.st 64 64 : Nat), .int .u64 (wd nA.st 128 64 : Nat), .int .u64 (wd nA.st 192 64 : Nat), .int .i64 nA.lo, .int .i64 nA.hi, .int .i64 nA.g, .slice (some ⟨w2.heap.size, 0, none⟩) 2 2] 34)) (.cells #[.int .i64 5, .int .u64 0, .int .u64 0, .int .u64 0, .int .u64 0, .int .i64 0, .int .i64 (-1), .int .i64 0, .slice (some ⟨w3.heap.size, 0, none⟩) 1 1] 34)
  have hs4 : (w3.alloc (.cells #[.int .i64 nA.op, .int .u64 (wd nA.st 0 64 : Nat), .int .u64 (wd nA.st 64 64 : Nat), .int .u64 (wd nA.st 128 64 : Nat), .int .u64 (wd nA.st 192 64 : Nat), .int .i64 nA.lo, .int .i64 nA.hi, .int .i64 nA.g, .slice (some ⟨w2.heap.size, 0, none⟩) 2 2] 34)).heap.size = w3.heap.size + 1 := by simp
  rw [hs4] at he4
  have H4 := Lib.hid (H3.out.trans (hb4.mono H3.out.size))
  generalize hW4 : ((w3.alloc (.cells #[.int .i64 nA.op, .int .u64 (wd nA.st 0 64 : Nat), .int .u64 (wd nA.st 64 64 : Nat), .int .u64 (wd nA.st 128 64 : Nat), .int .u64 (wd nA.st 192 64 : Nat), .int .i64 nA.lo, .int .i64 nA.hi, .int .i64 nA.g, .slice (some ⟨w2.heap.size, 0, none⟩) 2 2] 34)).alloc (.cells #[.int .i64 5, .int .u64 0, .int .u64 0, .int .u64 0, .int .u64 0, .int .i64 0, .int .i64 (-1), .int .i64 0, .slice (some ⟨w3.heap.size, 0, none⟩) 1 1] 34)) = w4 at *
  have HC : Hid (Calls Tryd.prog 13 #[.agg #[.int .i64 5, .int .u64 0, .int .u64 0, .int .u64 0, .int .u64 0, .int .i64 0, .int .i64 (-1), .int .i64 0, .slice (some ⟨w3.heap.size, 0, none⟩) 1 1], .bool true] w4 fun e w' => ∃ pv, e = .returned (.tuple #[.agg #[pv, .bool true], .int .i64 0]) ∧ PI w' w4.heap.size pW pv ∧ Below w4.heap.size w4 w') := Lib.hid (by
    have h1 := compile_ti TW true
    rw [aw_cmp] at h1
    have h2 : Calls Tryd.prog 13 #[.agg #[.int .i64 5, .int .u64 (wd noSet 0 64 : Nat), .int .u64 (wd noSet 64 64 : Nat), .int .u64 (wd noSet 128 64 : Nat), .int .u64 (wd noSet 192 64 : Nat), .int .i64 0, .int .i64 (-1), .int .i64 0, .slice (some ⟨w3.heap.size, 0, none⟩) 1 1], .bool true] w4 fun e w' => ∃ pv, e = .returned (.tuple #[.agg #[pv, .bool true], .int .i64 0]) ∧ PI w' w4.heap.size pW pv ∧ Below w4.heap.size w4 w' := h1
    rw [wd_noSet.1, wd_noSet.2.1, wd_noSet.2.2.1, wd_noSet.2.2.2] at h2
    exact h2)
  obtain ⟨⟨⟨a0, a1, a2⟩, a3, a4, a5⟩, a6, a7, a8⟩ := nine he4
  have hl4 : w3.heap.size + 1 < w4.heap.size := (Array.getElem?_eq_some_iff.1 he4).1
  clear HB97 HB98 HN1 H1 H2 H3 T1 TW he4 hs4 hb4 hW4
  have HV := Lib.hid (fun W v (h : PI W w4.heap.size pW v) (hk : KT W) => valid_any pW v w4.heap.size true W h hk)
  rw [aw_val] at HV
  have Eq0 : ∀ w : World, (binOp .eql 39 (.agg #[.int .i64 2, .int .u64 0, .int .u64 0, .int .u64 0, .int .u64 0, .int .i64 1, .int .i64 6]) (.agg #[.int .i64 2, .int .u64 0, .int .u64 0, .int .u64 0, .int .u64 0, .int .i64 1, .int .i64 6])).run Tryd.prog w = .ok (.bool true) w := fun w => eql_in ..
  have Eq3 : ∀ w : World, (binOp .eql 39 (.agg #[.int .i64 3, .int .u64 0, .int .u64 0, .int .u64 0, .int .u64 0, .int .i64 5, .int .i64 0]) (.agg #[.int .i64 3, .int .u64 0, .int .u64 0, .int .u64 0, .int .u64 0, .int .i64 5, .int .i64 0])).run Tryd.prog w = .ok (.bool true) w := fun w => eql_in ..
  go_wp2_with (first
    | (go_at_call 13; (with_reducible refine HC.out.mono ?_); rintro e w5 ⟨pv, rfl, hp, hb⟩
       have H5 := Lib.hid (H4.out.trans (hb.mono H4.out.size))
       have H5a := Lib.hid (fun x => H5.out.alloc H5.out.size x)
       have HP5 := Lib.hid (fun x => hp.below ((Below.refl w5.heap.size w5).alloc (Nat.le_refl _) x))
       obtain ⟨ad, cap, rfl, hcap, hce⟩ := hp
       obtain ⟨b, i0, rfl, hbl, hcc⟩ : ∃ b i, ad = some ⟨b, i, none⟩ ∧ b < w5.heap.size ∧ ∀ (k : Nat) (hk : k < pW.length) (j : Nat), j < 7 → w5.cell? ⟨b, i + k * 7 + j, none⟩ = (rowI (pW[k]'hk))[j]? := by
         rcases hce with h1 | ⟨b, i, e1, _, e2, e3⟩
         · cases h1
         · exact ⟨b, i, e1, e2, e3⟩
       have HCc := Lib.hid hcc
       have hl7 : pW.length = 7 := rfl
       rw [hl7] at HP5
       clear hb hce hcc a0 a1 a2 a3 a4 a5 a6 a7 a8 hl4)
    | (go_at_call 8; (with_reducible refine (HV.out _ _ (HP5.out _) (HKT.out.below (H5a.out _))).mono ?_); rintro e w6 ⟨rfl, hb⟩
       have H6 := Lib.hid ((H5a.out _).trans (hb.mono (H5a.out _).size))
       have hq : ∀ (a : Addr), a.block < w5.heap.size → w6.cell? a = w5.cell? a := fun a ha => (hb.cell (by simp; omega)).trans (World.cell?_alloc_lt _ _ _ ha)
       have hp6 : ∀ (k j : Nat) (u : Value), (match pW[k]? with | some i => (rowI i)[j]? | none => none) = some u → j < 7 → w6.cell? ⟨b, i0 + k * 7 + j, none⟩ = some u := fun k j u hu hj => by
         rw [hq _ hbl]
         cases hk : pW[k]? with
         | none => rw [hk] at hu; cases hu
         | some i =>
           rw [hk] at hu
           obtain ⟨h1, h2⟩ := List.getElem?_eq_some_iff.1 hk
           rw [HCc.out k h1 j hj, h2]
           exact hu
       have p0_0 : w6.cell? ⟨b, i0, none⟩ = some (.int .i64 2) := hp6 0 0 _ rfl (by decide)
       have p0_1 : w6.cell? ⟨b, i0 + 1, none⟩ = some (.int .u64 0) := hp6 0 1 _ rfl (by decide)
       have p0_2 : w6.cell? ⟨b, i0 + 2, none⟩ = some (.int .u64 0) := hp6 0 2 _ rfl (by decide)
       have p0_3 : w6.cell? ⟨b, i0 + 3, none⟩ = some (.int .u64 0) := hp6 0 3 _ rfl (by decide)
       have p0_4 : w6.cell? ⟨b, i0 + 4, none⟩ = some (.int .u64 0) := hp6 0 4 _ rfl (by decide)
       have p0_5 : w6.cell? ⟨b, i0 + 5, none⟩ = some (.int .i64 1) := hp6 0 5 _ rfl (by decide)
       have p0_6 : w6.cell? ⟨b, i0 + 6, none⟩ = some (.int .i64 6) := hp6 0 6 _ rfl (by decide)
       have p3_0 : w6.cell? ⟨b, i0 + 21, none⟩ = some (.int .i64 3) := hp6 3 0 _ rfl (by decide)
       have p3_1 : w6.cell? ⟨b, i0 + 22, none⟩ = some (.int .u64 0) := hp6 3 1 _ rfl (by decide)
       have p3_2 : w6.cell? ⟨b, i0 + 23, none⟩ = some (.int .u64 0) := hp6 3 2 _ rfl (by decide)
       have p3_3 : w6.cell? ⟨b, i0 + 24, none⟩ = some (.int .u64 0) := hp6 3 3 _ rfl (by decide)
       have p3_4 : w6.cell? ⟨b, i0 + 25, none⟩ = some (.int .u64 0) := hp6 3 4 _ rfl (by decide)
       have p3_5 : w6.cell? ⟨b, i0 + 26, none⟩ = some (.int .i64 5) := hp6 3 5 _ rfl (by decide)
       have p3_6 : w6.cell? ⟨b, i0 + 27, none⟩ = some (.int .i64 0) := hp6 3 6 _ rfl (by decide)
       have p6_0 : w6.cell? ⟨b, i0 + 42, none⟩ = some (.int .i64 6) := hp6 6 0 _ rfl (by decide)
       have hbx := (hb.block w5.heap.size (by simp)).trans (heap_alloc_new w5 _)
       have q0 := cell_of_row w6 w5.heap.size 0 _ _ _ hbx
       have q1 := cell_of_row w6 w5.heap.size 1 _ _ _ hbx
       have hl6 : w5.heap.size < w6.heap.size := (Array.getElem?_eq_some_iff.1 hbx).1
       clear hb hq hp6 hbx))
  go_ret
  exact ⟨rfl, H6.out⟩
end Go.Proofs.YtbjobbkipmkndaaDoor
