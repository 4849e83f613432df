/- RsRefC. -/
import Derived.Test.YtfgcnknmiclfnaaDoorPb12
import Derived.Test.YtfgcnknmiclfnaaDoorPb10
set_option linter.unusedVariables false
set_option linter.unusedSimpArgs false
set_option maxRecDepth 100000
set_option maxHeartbeats 8000000
namespace Go.Proofs.YtfgcnknmiclfnaaDoor
open Go.RowKit
def OI (w : World) (B : Nat) (v : Value) (L : List IN) : Prop := w.ownsRow B 43 7 v L.length (rowsI L)
structure KO (v : Value) (w : World) (v' : Value) (w' : World) : Prop where
  keep : Keep (fun b => v.ownBlock = some b) w w'
  own : ∀ g, v'.ownBlock = some g → v.ownBlock = some g ∨ w.heap.size ≤ g
theorem KO.refl (v : Value) (w : World) : KO v w v w := ⟨Keep.refl _ _, fun _ h => .inl h⟩
theorem KO.trans {u v x : Value} {a b c : World} (h : KO u a v b) (k : KO v b x c) : KO u a x c := by
  refine ⟨h.keep.trans k.keep fun g hg e => ?_, fun g e => ?_⟩
  · rcases h.own g e with e | e
    · exact e
    · omega
  · rcases k.own g e with e | e
    · exact h.own g e
    · right; have := h.keep.size; omega
theorem KO.next {u v : Value} {a b c : World} (h : KO u a v b) (k : Below b.heap.size b c) : KO u a v c := ⟨h.keep.next k, h.own⟩
theorem KO.of_below {v : Value} {a b : World} (k : Below a.heap.size a b) : KO v a v b := ⟨Keep.of_below k, fun _ h => .inl h⟩
theorem KO.low {u v : Value} {a b : World} {B : Nat} {L : List IN} (h : KO u a v b) (ho : OI a B u L) (hB : B ≤ a.heap.size) : Below B a b := h.keep.below hB (fun g e => (own_at ho g e).1)
def CodeC (c : Nat → List IN) (B : Nat) (o l h g : Int) (st : Nat → Bool) (f : F) : Prop := ∀ (S : Nat → Prop) (sv : Value) (w : World) (v : Value) (L : List IN), SV w S f sv → (∀ b, S b → b < B) → B ≤ w.heap.size → OI w B v L → L.length + (c L.length).length ≤ 1000 →
  Calls Tryd.prog 32 #[v, .agg #[.int .i64 o, .int .u64 (wd st 0 64 : Nat), .int .u64 (wd st 64 64 : Nat), .int .u64 (wd st 128 64 : Nat), .int .u64 (wd st 192 64 : Nat), .int .i64 l, .int .i64 h, .int .i64 g, sv]] w fun e w' => ∃ v', e = .returned v' ∧ OI w' B v' (L ++ c L.length) ∧ KO v w v' w'
theorem code_set (B : Nat) (l h g : Int) (st : Nat → Bool) : CodeC (fun _ => [⟨1, st, 0, 0⟩]) B 2 l h g st .nil := by
  intro S sv w v L hsv hS hB hov hbd
  obtain ⟨vad, vcap, rfl⟩ := own_sl hov
  obtain ⟨W2, hW2⟩ : ∃ W2, W2 = w.alloc (.cells #[.int .i64 2, .int .u64 (wd st 0 64 : Nat), .int .u64 (wd st 64 64 : Nat), .int .u64 (wd st 128 64 : Nat), .int .u64 (wd st 192 64 : Nat), .int .i64 l, .int .i64 h, .int .i64 g, sv] 55) := ⟨_, rfl⟩
  have hx : Below w.heap.size w W2 := by rw [hW2]; exact (Below.refl _ _).alloc (Nat.le_refl _) _
  have hg0 : W2.heap[w.heap.size]? = some (.cells #[.int .i64 2, .int .u64 (wd st 0 64 : Nat), .int .u64 (wd st 64 64 : Nat), .int .u64 (wd st 128 64 : Nat), .int .u64 (wd st 192 64 : Nat), .int .i64 l, .int .i64 h, .int .i64 g, sv] 55 (0, 0)) := by
    rw [hW2]
    exact heap_alloc_new w _
  have a0 := cell_of_row W2 w.heap.size 0 _ _ _ hg0
  have a1 := cell_of_row W2 w.heap.size 1 _ _ _ hg0
  have a2 := cell_of_row W2 w.heap.size 2 _ _ _ hg0
  have a3 := cell_of_row W2 w.heap.size 3 _ _ _ hg0
  have a4 := cell_of_row W2 w.heap.size 4 _ _ _ hg0
  have hl2 : w.heap.size < W2.heap.size := (Array.getElem?_eq_some_iff.1 hg0).1
  have HO2 : Hid (OI W2 B (.slice vad L.length vcap) L) := Lib.hid (own_below hov hx)
  have HX := Lib.hid hx
  have HW2 := Lib.hid hW2
  have hbd2 : L.length ≤ 1000 := by omega
  have hB2 : B ≤ W2.heap.size := by omega
  clear hsv hx hg0 hW2 hov
  go_enter Tryd.func32, Tryd.ntmps32
  go_upto_region 1 with fail
  rw [← HW2.out]
  go_wp2_with (at_builtin; refine app1 B 22 43 (.agg #[.int .i64 0, .int .u64 0, .int .u64 0, .int .u64 0, .int .u64 0, .int .i64 0, .int .i64 0]) 7 56 Tryd.underlying22 infoI rfl (by decide) W2 rfl (.tmp 10) (.tmp 14) rfl hB2 (.slice vad L.length vcap) L.length (rowsI L) (rowI ⟨1, st, 0, 0⟩) rfl rfl HO2.out _ rfl rfl rfl ?d1 ?d2 ?d3 ?_)
  case d1 => intro u hu; simp [rowI] at hu; rcases hu with rfl | rfl | rfl | rfl | rfl | rfl | rfl <;> rfl
  case d2 => unfold maxLen; omega
  case d3 => omega
  intro gg cp w3 ho3 hk3 hg3
  have HO3 := Lib.hid ho3
  have HK3 := Lib.hid hk3
  have HG3 := Lib.hid hg3
  clear ho3 hk3 hg3 a0 a1 a2 a3 a4
  go_wp2
  go_ret
  refine ⟨_, rfl, ?_, (KO.of_below HX.out).trans ⟨HK3.out, fun j e => ?_⟩⟩
  · unfold OI
    rw [List.length_append, rowsI_snoc]
    exact HO3.out
  · have e2 : gg = j := by simpa [Value.ownBlock] using e
    subst e2; exact HG3.out
def twoF (x y : TN) : F := .cons x.op x.st x.lo x.hi x.g x.args (.cons y.op y.st y.lo y.hi y.g y.args .nil)
def CodeT (c : Nat → List IN) (B : Nat) (t : TN) : Prop := CodeC c B t.op t.lo t.hi t.g t.st t.args
def cat2 (c d : Nat → List IN) : Nat → List IN := fun b => c b ++ d (b + (c b).length)
theorem code_cat (B : Nat) (c d : Nat → List IN) (x y : TN) (l h g : Int) (st : Nat → Bool) (hx : CodeT c B x) (hy : CodeT d B y) : CodeC (cat2 c d) B 3 l h g st (twoF x y) := by
  intro S sv w v L hsv hS hB hov hbd
  obtain ⟨ad, cap, rfl⟩ := slice_form hsv
  have e2 : (twoF x y).len = 2 := rfl
  have HSV := Lib.hid hsv
  rw [e2] at HSV ⊢
  obtain ⟨W2, hW2⟩ : ∃ W2, W2 = w.alloc (.cells #[.int .i64 3, .int .u64 (wd st 0 64 : Nat), .int .u64 (wd st 64 64 : Nat), .int .u64 (wd st 128 64 : Nat), .int .u64 (wd st 192 64 : Nat), .int .i64 l, .int .i64 h, .int .i64 g, .slice ad 2 cap] 55) := ⟨_, rfl⟩
  have hxb : Below w.heap.size w W2 := by rw [hW2]; exact (Below.refl _ _).alloc (Nat.le_refl _) _
  have hg0 : W2.heap[w.heap.size]? = some (.cells #[.int .i64 3, .int .u64 (wd st 0 64 : Nat), .int .u64 (wd st 64 64 : Nat), .int .u64 (wd st 128 64 : Nat), .int .u64 (wd st 192 64 : Nat), .int .i64 l, .int .i64 h, .int .i64 g, .slice ad 2 cap] 55 (0, 0)) := by
    rw [hW2]
    exact heap_alloc_new w _
  have HG0 := Lib.hid hg0
  have HO2 : Hid (OI W2 B v L) := Lib.hid (own_below hov hxb)
  have HX := Lib.hid hxb
  have HW2 := Lib.hid hW2
  have HOv := Lib.hid hov
  have hlv : Hid (∀ gg, v.ownBlock = some gg → gg < w.heap.size) := Lib.hid (fun gg e => (own_at hov gg e).2)
  let A : Nat → List IN := fun k => if k = 0 then L else if k = 1 then L ++ c L.length else L ++ cat2 c d L.length
  have hA : A = fun k => if k = 0 then L else if k = 1 then L ++ c L.length else L ++ cat2 c d L.length := rfl
  have hst : ∀ k, k < 2 → ∀ (W : World) (u : Value) (svk : Value), SV W S ((twoF x y).nth k).args svk → B ≤ W.heap.size → OI W B u (A k) → Calls Tryd.prog 32 #[u, .agg #[.int .i64 ((twoF x y).nth k).op, .int .u64 (wd ((twoF x y).nth k).st 0 64 : Nat), .int .u64 (wd ((twoF x y).nth k).st 64 64 : Nat), .int .u64 (wd ((twoF x y).nth k).st 128 64 : Nat), .int .u64 (wd ((twoF x y).nth k).st 192 64 : Nat), .int .i64 ((twoF x y).nth k).lo, .int .i64 ((twoF x y).nth k).hi, .int .i64 ((twoF x y).nth k).g, svk]] W fun e w' => ∃ v', e = .returned v' ∧ OI w' B v' (A (k + 1)) ∧ KO u W v' w' := by
    intro k hk W u svk h1 h2 h3
    have hlen : L.length + ((c L.length).length + (d (L.length + (c L.length).length)).length) ≤ 1000 := by
      have := hbd; unfold cat2 at this; rw [List.length_append] at this; omega
    have hk2 : k = 0 ∨ k = 1 := by omega
    rcases hk2 with rfl | rfl
    · exact hx S svk W u L h1 hS h2 h3 (by omega)
    · have := hy S svk W u (L ++ c L.length) h1 hS h2 h3 (by rw [List.length_append]; omega)
      rw [List.length_append, List.append_assoc] at this
      exact this
  have HSt := Lib.hid hst
  have HA0 : Hid (A 0 = L) := Lib.hid rfl
  have HA2 : Hid (A 2 = L ++ cat2 c d L.length) := Lib.hid rfl
  clear_value A
  have HS := Lib.hid hS
  clear hsv hxb hg0 hW2 hov hx hy hst hS hA hbd
  have HB := Lib.hid hB
  have hB2 : B ≤ W2.heap.size := by have := HX.out.size; omega
  have a0 : W2.cell? ⟨w.heap.size, 0, none⟩ = some (.int .i64 3) := cell_of_row W2 w.heap.size 0 _ _ _ HG0.out
  go_enter Tryd.func32, Tryd.ntmps32
  go_upto_region 1 with fail
  rw [← HW2.out]
  go_wp2_with fail
  go_loopw [0, 5] (fun u i wr => ∃ (k : Nat) (v1 : Value), v1 = u ∧ k ≤ 2 ∧ i = .int .i64 k ∧ Hid (OI wr B v1 (A k) ∧ KO v W2 v1 wr)) (fun _ i _ => 2 - (intOf i).toNat)
  case atStart => exact ⟨0, v, rfl, by decide, rfl, Lib.hid ⟨by rw [HA0.out]; exact HO2.out, KO.refl _ _⟩⟩
  case round =>
    obtain ⟨k, v1, rfl, hk, rfl, HR⟩ := hrel
    clear a0
    have hbl : Below B W2 wr := HR.out.2.low HO2.out hB2
    have hboxn : ¬ v.ownBlock = some w.heap.size := fun e => by have := hlv.out _ e; omega
    have hbox := (HR.out.2.keep.block w.heap.size (Array.getElem?_eq_some_iff.1 HG0.out).1 hboxn).trans HG0.out
    have b8 := cell_of_row wr w.heap.size 8 _ _ _ hbox
    have hszr := HR.out.2.keep.size
    by_cases hkn : k < 2
    · have ki : (k : Int) < 2 := by omega
      have ki0 : (0 : Int) ≤ k := by omega
      have hfar : Afar S S w wr := ⟨by have := HX.out.size; omega, fun b h1 h2 => ⟨h1, (hbl.block b (HS.out b h1)).trans (HX.out.block b h2)⟩⟩
      obtain ⟨b, i0, ad2, cp2, rfl, hsv2, c0, c1, c2, c3, c4, c5, c6, c7, c8⟩ := kid HSV.out hfar k hkn
      have HL := Lib.hid (fun u (h3 : OI wr B u (A k)) => HSt.out k hkn wr u (.slice ad2 ((twoF x y).nth k).args.len cp2) hsv2 (by omega) h3)
      have hlt := (World.block_lt_of_cell? wr _ c0)
      clear hsv2 hfar hbl hbox
      generalize ((twoF x y).nth k) = q at *
      go_wp2_with (first
          | (go_at_call 32; (with_reducible refine (HL.out _ HR.out.1).mono ?_); rintro e w3 ⟨v3, rfl, ho3, hk3⟩; have HO3 := Lib.hid ho3; have HK3 := Lib.hid hk3; clear ho3 hk3 b8 c0 c1 c2 c3 c4 c5 c6 c7 c8))
      go_roundw
      case rel => exact ⟨k + 1, v3, rfl, by omega, by go_num, Lib.hid ⟨HO3.out, HR.out.2.trans HK3.out⟩⟩
      case measure => simp [intOf]; omega
    · obtain rfl : k = 2 := by omega
      clear hbl hbox
      go_wp2_with fail
      go_ret
      exact ⟨_, rfl, by rw [← HA2.out]; exact HR.out.1, (KO.of_below HX.out).trans HR.out.2⟩
end Go.Proofs.YtfgcnknmiclfnaaDoor
