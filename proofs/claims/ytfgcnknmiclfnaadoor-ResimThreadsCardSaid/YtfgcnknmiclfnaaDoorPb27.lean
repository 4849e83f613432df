/- RsRefF, RsLaid, RsSort. -/
import Derived.Test.YtfgcnknmiclfnaaDoorPb25
import Derived.Test.YtfgcnknmiclfnaaDoorPb26
import Derived.Shelf.Sort.Plain
import Derived.Shelf.Slices.In.SortNone
import Derived.Test.YtfgcnknmiclfnaaDoorProg
import Derived.Test.YtfgcnknmiclfnaaDoorPb24
import Derived.Sort.OwnSortedInts
set_option linter.unusedVariables false
set_option linter.unusedSimpArgs false
set_option maxRecDepth 100000
set_option maxHeartbeats 8000000
namespace Go.Proofs.YtfgcnknmiclfnaaDoor
open Go.RowKit
def lfT (c : Nat) : TN := ⟨2, setOf [UInt8.ofNat c], 0, 0, 0, .nil⟩
def nC : TN := ⟨3, noSet, 0, 0, 0, twoF (lfT 97) (lfT 98)⟩
def nT : TN := ⟨4, noSet, 0, 0, 0, twoF (lfT 97) nC⟩
def sA (c : Nat) : IN := ⟨1, setOf [UInt8.ofNat c], 0, 0⟩
def pA : List IN := [⟨2, noSet, 1, 3⟩, sA 97, ⟨3, noSet, 5, 0⟩, sA 97, sA 98, ⟨6, noSet, 0, 0⟩]
theorem nT_check : checkT nT = 0 := by kernel_rfl
theorem nT_valid : Valid nT := (checkT_iff nT).1 nT_check
theorem nT_sp : spF nT.args := ⟨.inl rfl, trivial, .inr (.inl rfl), ⟨.inl rfl, trivial, .inl rfl, trivial, trivial⟩, trivial⟩
theorem nT_sh : shF nT.args := by simp [nT, nC, twoF, lfT, shF, F.len]
theorem isz_pg : (Tryd.prog.info? 24).map (·.size) = some 2 := by kernel_rfl
theorem results_pg2 {fn : Func} {p u : Tmp} (h : fn.results = #[.cell p 24, .tmp u]) (tmps : Array Value) (w : World) (g : Nat) (t : TypeId) (cs : Array Value) (fr : Nat × Nat) (v : Value)
    (hp : tmps.getD p undef = .pointer (some ⟨g, 0, none⟩)) (hv : tmps.getD u undef = v) (hg : w.heap[g]? = some (.cells cs t fr)) (hi : (Tryd.prog.info? 24).map (·.size) = some cs.size) :
    (results fn tmps).run Tryd.prog w = .ok (.tuple #[.agg cs, v]) w := by
  rw [results_cell_tmp h, hp, hv]
  simp [asAddr, run_loadVar_row w g t 24 cs fr _ hg Tryd.underlying24 rfl hi]
theorem put2P {w : World} {R : Nat} {u0 u1 : Value} {n : Nat} (h : w.heap[R]? = some (.cells #[u0, u1] 24 (0, 0))) (hn : n ≤ R) (x y : Value) : (((w.setCell ⟨R, 0, none⟩ x).setCell ⟨R, 1, none⟩ y).heap[R]? = some (.cells #[x, y] 24 (0, 0))) ∧ Below n w ((w.setCell ⟨R, 0, none⟩ x).setCell ⟨R, 1, none⟩ y) ∧ Keep (fun b => b = R) w ((w.setCell ⟨R, 0, none⟩ x).setCell ⟨R, 1, none⟩ y) := by
  have hR : R < w.heap.size := (Array.getElem?_eq_some_iff.1 h).1
  have hk := ((Keep.refl (fun b => b = R) w).put R 0 (.inl rfl) x).put R 1 (.inl rfl) y
  refine ⟨?_, hk.below (by omega) (fun g e => by omega), hk⟩
  have h1 := heap_setCell_same w R 0 _ _ x h
  have h2 := heap_setCell_same _ R 1 _ _ y h1
  exact h2
theorem rcompile_nT {w : World} {ad : Option Addr} {cap : Nat} (h : TI w nT (.slice ad 2 cap)) :
    Calls Tryd.prog 18 #[.agg #[.int .i64 nT.op, .int .u64 (wd nT.st 0 64 : Nat), .int .u64 (wd nT.st 64 64 : Nat), .int .u64 (wd nT.st 128 64 : Nat), .int .u64 (wd nT.st 192 64 : Nat), .int .i64 nT.lo, .int .i64 nT.hi, .int .i64 nT.g, .slice ad 2 cap], .bool false] w fun e w' => ∃ pv, e = .returned (.tuple #[.agg #[pv, .bool false], .int .i64 0]) ∧ PI w' w.heap.size pA pv ∧ Below w.heap.size w w' := by
  obtain ⟨R, hR⟩ : ∃ R, w.heap.size + 1 = R := ⟨_, rfl⟩
  obtain ⟨W, hW⟩ : ∃ W, W = (w.alloc (.cells #[.int .i64 nT.op, .int .u64 (wd nT.st 0 64 : Nat), .int .u64 (wd nT.st 64 64 : Nat), .int .u64 (wd nT.st 128 64 : Nat), .int .u64 (wd nT.st 192 64 : Nat), .int .i64 nT.lo, .int .i64 nT.hi, .int .i64 nT.g, .slice ad 2 cap] 55)).alloc (.cells #[.slice none 0 0, .bool false] 24) := ⟨_, rfl⟩
  have hb : Below w.heap.size w W := by rw [hW]; exact ((Below.refl _ _).alloc (Nat.le_refl _) _).alloc (by simp) _
  have h1 : W.heap[w.heap.size]? = some (.cells #[.int .i64 nT.op, .int .u64 (wd nT.st 0 64 : Nat), .int .u64 (wd nT.st 64 64 : Nat), .int .u64 (wd nT.st 128 64 : Nat), .int .u64 (wd nT.st 192 64 : Nat), .int .i64 nT.lo, .int .i64 nT.hi, .int .i64 nT.g, .slice ad 2 cap] 55 (0, 0)) := by rw [hW]; exact (heap_alloc_old _ _ (by simp)).trans (heap_alloc_new w _)
  have h2 : W.heap[R]? = some (.cells #[.slice none 0 0, .bool false] 24 (0, 0)) := by
    have := heap_alloc_new (w.alloc (.cells #[.int .i64 nT.op, .int .u64 (wd nT.st 0 64 : Nat), .int .u64 (wd nT.st 64 64 : Nat), .int .u64 (wd nT.st 128 64 : Nat), .int .u64 (wd nT.st 192 64 : Nat), .int .i64 nT.lo, .int .i64 nT.hi, .int .i64 nT.g, .slice ad 2 cap] 55)) (.cells #[.slice none 0 0, .bool false] 24)
    rw [show (w.alloc (.cells #[.int .i64 nT.op, .int .u64 (wd nT.st 0 64 : Nat), .int .u64 (wd nT.st 64 64 : Nat), .int .u64 (wd nT.st 128 64 : Nat), .int .u64 (wd nT.st 192 64 : Nat), .int .i64 nT.lo, .int .i64 nT.hi, .int .i64 nT.g, .slice ad 2 cap] 55)).heap.size = R by simp [hR]] at this
    rw [hW]; exact this
  have HT : Hid (∀ wx, Below W.heap.size W wx → TI wx nT (.slice ad 2 cap) ∧ wx.heap[w.heap.size]? = some (.cells #[.int .i64 nT.op, .int .u64 (wd nT.st 0 64 : Nat), .int .u64 (wd nT.st 64 64 : Nat), .int .u64 (wd nT.st 128 64 : Nat), .int .u64 (wd nT.st 192 64 : Nat), .int .i64 nT.lo, .int .i64 nT.hi, .int .i64 nT.g, .slice ad 2 cap] 55 (0, 0)) ∧ wx.heap[R]? = some (.cells #[.slice none 0 0, .bool false] 24 (0, 0))) := Lib.hid (fun wx hx => by
    have e1 := (Array.getElem?_eq_some_iff.1 h1).1
    have e2 := (Array.getElem?_eq_some_iff.1 h2).1
    exact ⟨h.below (hb.trans (hx.mono hb.size)), (hx.block _ e1).trans h1, (hx.block _ e2).trans h2⟩)
  have HCk : Hid (∀ wx, Below W.heap.size W wx → Calls Tryd.prog 29 #[.agg #[.int .i64 nT.op, .int .u64 (wd nT.st 0 64 : Nat), .int .u64 (wd nT.st 64 64 : Nat), .int .u64 (wd nT.st 128 64 : Nat), .int .u64 (wd nT.st 192 64 : Nat), .int .i64 nT.lo, .int .i64 nT.hi, .int .i64 nT.g, .slice ad 2 cap]] wx fun e w' => e = .returned (.int .i64 0) ∧ Below wx.heap.size wx w') := Lib.hid (fun wx hx => (rcheck_ti (HT.out wx hx).1 (by decide)).mono (by
    rintro e w' ⟨⟨k, rfl, hk⟩, hb⟩
    exact ⟨by rw [hk.2 nT_valid], hb⟩))
  have HBk : Hid (∀ wx, Below W.heap.size W wx → Calls Tryd.prog 30 #[.agg #[.int .i64 nT.op, .int .u64 (wd nT.st 0 64 : Nat), .int .u64 (wd nT.st 64 64 : Nat), .int .u64 (wd nT.st 128 64 : Nat), .int .u64 (wd nT.st 192 64 : Nat), .int .i64 nT.lo, .int .i64 nT.hi, .int .i64 nT.g, .slice ad 2 cap]] wx fun e w' => e = .returned (.bool false) ∧ Below wx.heap.size wx w') := Lib.hid (fun wx hx => by
    obtain ⟨S, s1, s2, s3, s4⟩ := (HT.out wx hx).1
    exact back_pl nT.args nT.op nT.lo nT.hi nT.g nT.st _ wx S s1 s3 nT_sp (.inr (.inr rfl)))
  have HEx : Hid (∀ wx, Below W.heap.size W wx → Calls Tryd.prog 31 #[.agg #[.int .i64 nT.op, .int .u64 (wd nT.st 0 64 : Nat), .int .u64 (wd nT.st 64 64 : Nat), .int .u64 (wd nT.st 128 64 : Nat), .int .u64 (wd nT.st 192 64 : Nat), .int .i64 nT.lo, .int .i64 nT.hi, .int .i64 nT.g, .slice ad 2 cap]] wx fun e w' => ∃ sv', e = .returned (.tuple #[.agg #[.int .i64 nT.op, .int .u64 (wd nT.st 0 64 : Nat), .int .u64 (wd nT.st 64 64 : Nat), .int .u64 (wd nT.st 128 64 : Nat), .int .u64 (wd nT.st 192 64 : Nat), .int .i64 nT.lo, .int .i64 nT.hi, .int .i64 nT.g, sv'], .int .i64 0]) ∧ SV w' (Frm wx.heap.size) nT.args sv' ∧ Below wx.heap.size wx w') := Lib.hid (fun wx hx => rexpand_pl (HT.out wx hx).1 (by decide) (by decide) nT_valid nT_sp (.inr (.inr rfl)) nT_sh (by decide))
  obtain ⟨⟨⟨a0, a1, a2⟩, a3, a4, a5⟩, a6, a7, a8⟩ := nine h1
  have hlw : w.heap.size < W.heap.size := (Array.getElem?_eq_some_iff.1 h1).1
  have hRW : R < W.heap.size := (Array.getElem?_eq_some_iff.1 h2).1
  have HB := Lib.hid hb
  have HW := Lib.hid hW
  have HR := Lib.hid hR
  clear h h1 h2 hW hb
  go_enter Tryd.func18, Tryd.ntmps18
  go_upto_region 1 with fail
  rw [← HW.out]
  go_upto_region 9 with (first
    | (go_at_call 29; (with_reducible refine (HCk.out _ (Below.refl _ _)).mono ?_); rintro e w2 ⟨rfl, hb2⟩
       have HB2 := Lib.hid hb2
       clear a0 a1 a2 a3 a4 a5 a6 a7 a8
       obtain ⟨⟨⟨a0, a1, a2⟩, a3, a4, a5⟩, a6, a7, a8⟩ := nine (HT.out w2 hb2).2.1
       have hl2 : w.heap.size < w2.heap.size := by have := hb2.size; omega
       clear hb2)
    | (go_at_call 30; (with_reducible refine (HBk.out _ HB2.out).mono ?_); rintro e w3 ⟨rfl, hb3⟩
       have hb4 := HB2.out.trans (hb3.mono HB2.out.size)
       have HB3 := Lib.hid hb4
       clear a0 a1 a2 a3 a4 a5 a6 a7 a8
       obtain ⟨⟨⟨a0, a1, a2⟩, a3, a4, a5⟩, a6, a7, a8⟩ := nine (HT.out w3 hb4).2.1
       have hl3 : w.heap.size < w3.heap.size := by have := hb4.size; omega
       clear hb3 hb4)
    | (go_at_call 31; (with_reducible refine (HEx.out _ HB3.out).mono ?_); rintro e w5 ⟨sv5, rfl, hsv5, hb5⟩
       have hb6 := HB3.out.trans (hb5.mono HB3.out.size)
       have HB5 := Lib.hid hb6
       have HSv := Lib.hid hsv5
       have HRes := Lib.hid (HT.out w5 hb6).2.2
       obtain ⟨ad5, cp5, rfl⟩ := slice_form hsv5
       clear a0 a1 a2 a3 a4 a5 a6 a7 a8 hb5 hb6 hsv5))
  have hx7 := heap_alloc_new w5 (.cells #[.int .i64 nT.op, .int .u64 (wd nT.st 0 64 : Nat), .int .u64 (wd nT.st 64 64 : Nat), .int .u64 (wd nT.st 128 64 : Nat), .int .u64 (wd nT.st 192 64 : Nat), .int .i64 nT.lo, .int .i64 nT.hi, .int .i64 nT.g, .slice ad5 nT.args.len cp5] 55)
  have hb7 : Below w5.heap.size w5 (w5.alloc (.cells #[.int .i64 nT.op, .int .u64 (wd nT.st 0 64 : Nat), .int .u64 (wd nT.st 64 64 : Nat), .int .u64 (wd nT.st 128 64 : Nat), .int .u64 (wd nT.st 192 64 : Nat), .int .i64 nT.lo, .int .i64 nT.hi, .int .i64 nT.g, .slice ad5 nT.args.len cp5] 55)) := (Below.refl _ _).alloc (Nat.le_refl _) _
  generalize hW7 : w5.alloc (.cells #[.int .i64 nT.op, .int .u64 (wd nT.st 0 64 : Nat), .int .u64 (wd nT.st 64 64 : Nat), .int .u64 (wd nT.st 128 64 : Nat), .int .u64 (wd nT.st 192 64 : Nat), .int .i64 nT.lo, .int .i64 nT.hi, .int .i64 nT.g, .slice ad5 nT.args.len cp5] 55) = W7 at *
  obtain ⟨⟨⟨a0, a1, a2⟩, a3, a4, a5⟩, a6, a7, a8⟩ := nine hx7
  have hl7 : w5.heap.size < W7.heap.size := (Array.getElem?_eq_some_iff.1 hx7).1
  obtain ⟨B, hB⟩ : ∃ B, W7.heap.size = B := ⟨_, rfl⟩
  have hsv7 : SV W7 (fun b => b < w5.heap.size) nT.args (.slice ad5 nT.args.len cp5) := (HSv.out.far (T := fun b => b < w5.heap.size) ⟨Nat.le_refl _, fun b _ hl => ⟨hl, rfl⟩⟩).far (Afar.below hb7)
  have HCode : Hid (Calls Tryd.prog 32 #[.slice none 0 0, .agg #[.int .i64 nT.op, .int .u64 (wd nT.st 0 64 : Nat), .int .u64 (wd nT.st 64 64 : Nat), .int .u64 (wd nT.st 128 64 : Nat), .int .u64 (wd nT.st 192 64 : Nat), .int .i64 nT.lo, .int .i64 nT.hi, .int .i64 nT.g, .slice ad5 nT.args.len cp5]] W7 fun e w' => ∃ v', e = .returned v' ∧ OI w' B v' [⟨2, noSet, 1, 3⟩, sA 97, ⟨3, noSet, 5, 0⟩, sA 97, sA 98] ∧ KO (.slice none 0 0) W7 v' w') := Lib.hid (code_alt B (fun _ => [sA 97]) (cat2 (fun _ => [sA 97]) (fun _ => [sA 98])) (lfT 97) nC nT.lo nT.hi nT.g nT.st (code_set B 0 0 0 _) (code_cat B _ _ (lfT 97) (lfT 98) 0 0 0 noSet (code_set B 0 0 0 _) (code_set B 0 0 0 _)) (fun b => b < w5.heap.size) ad5 cp5 W7 (.slice none 0 0) hsv7 (fun b hb => by omega) (by omega) ⟨rfl, .inl ⟨rfl, rfl⟩⟩ (by decide))
  have HB7 : Hid (Below W.heap.size W W7) := Lib.hid (HB5.out.trans (hb7.mono HB5.out.size))
  have HBs := Lib.hid hB
  clear hx7 hb7 hW7 hsv7 hB
  go_wp2_with (first
    | (go_at_call 32; (with_reducible refine HCode.out.mono ?_); rintro e w8 ⟨v8, rfl, ho8, hk8⟩
       have ho8 : w8.ownsRow B 43 7 v8 5 (rowsI [⟨2, noSet, 1, 3⟩, sA 97, ⟨3, noSet, 5, 0⟩, sA 97, sA 98]) := ho8
       obtain ⟨vad, vcap, rfl⟩ := own_sl ho8
       have HO8 := Lib.hid ho8
       have hb8 : Below W.heap.size W w8 := HB7.out.trans ((hk8.keep.below (B := W7.heap.size) (Nat.le_refl _) (fun g e => by cases e)).mono HB7.out.size)
       have HB8 := Lib.hid hb8
       have hB8 : B ≤ w8.heap.size := by have := hk8.keep.size; have := HBs.out; omega
       clear ho8 hk8 hb8 a0 a1 a2 a3 a4 a5 a6 a7 a8)
    | (at_builtin; refine app1 B 22 43 (.agg #[.int .i64 0, .int .u64 0, .int .u64 0, .int .u64 0, .int .u64 0, .int .i64 0, .int .i64 0]) 7 56 Tryd.underlying22 infoI rfl (by decide) w8 rfl (.tmp 30) (.tmp 32) rfl hB8 (.slice vad 5 vcap) 5 (rowsI [⟨2, noSet, 1, 3⟩, sA 97, ⟨3, noSet, 5, 0⟩, sA 97, sA 98]) [.int .i64 6, .int .u64 0, .int .u64 0, .int .u64 0, .int .u64 0, .int .i64 0, .int .i64 0] rfl rfl HO8.out _ rfl rfl rfl ?d1 ?d2 ?d3 ?_))
  case d1 => first | rfl | (intro u hu; simp at hu; rcases hu with rfl | rfl | rfl <;> rfl)
  case d2 => first | decide | (unfold maxLen; omega)
  case d3 => first | decide | omega
  intro g9 cp9 w9 ho9 hk9 hg9
  have h9 : PI w9 B pA (.slice (some ⟨g9, 0, none⟩) 6 cp9) := PI.own (by
    have e : rowsI pA = rowsI [⟨2, noSet, 1, 3⟩, sA 97, ⟨3, noSet, 5, 0⟩, sA 97, sA 98] ++ [.int .i64 6, .int .u64 0, .int .u64 0, .int .u64 0, .int .u64 0, .int .i64 0, .int .i64 0] := by
      rw [← rowI_lit, ← rowsI_snoc]; rfl
    rw [e]
    exact ho9)
  have hb9 : Below W.heap.size W w9 := HB8.out.trans ((hk9.below (B := B) hB8 (fun g e => (own_at HO8.out g e).1)).mono (by have := HBs.out; have := HB7.out.size; omega))
  have hr9 := (HT.out w9 hb9).2.2
  have r0 := cell_of_row w9 R 0 _ _ _ hr9
  have r1 := cell_of_row w9 R 1 _ _ _ hr9
  have f0 := frozen_of_row w9 R 0 _ _ hr9
  have f1 := frozen_of_row w9 R 1 _ _ hr9
  have HR9 := Lib.hid hr9
  have HP9 := Lib.hid h9
  have HB9 := Lib.hid hb9
  clear ho9 hk9 hg9 h9 hb9 hr9
  go_wp2_with fail
  obtain ⟨p1, p2, p3⟩ := put2P (n := w.heap.size) HR9.out (by have := HR.out; omega) (.slice (some ⟨g9, 0, none⟩) 6 cp9) (.bool false)
  refine bodyPost_ret (v := .tuple #[.agg #[.slice (some ⟨g9, 0, none⟩) 6 cp9, .bool false], .int .i64 0]) (results_pg2 rfl _ _ R _ #[.slice (some ⟨g9, 0, none⟩) 6 cp9, .bool false] (0, 0) (.int .i64 0) rfl rfl p1 isz_pg) rfl ?_
  have hRB : R < B := by have := HBs.out; have := HB7.out.size; omega
  refine ⟨_, rfl, (HP9.out.turn p3.size (fun b hb hl => p3.block b hl (by omega))).low (by have := HR.out; omega), HB.out.trans ((HB9.out.mono HB.out.size).trans p2)⟩
end Go.Proofs.YtfgcnknmiclfnaaDoor
namespace Go.Proofs
open Go.Shelf
def Tryd.lays189_ren : Go.Shelf.Ren := ⟨fun | 189 => 26 | 125 => 42 | 257 => 41 | 128 => 70 | 129 => 71 | 294 => 61 | 295 => 62 | 296 => 63 | 297 => 64 | 298 => 65 | 299 => 66 | 216 => 67 | 300 => 68 | 301 => 69 | 328 => 80 | 329 => 81 | 330 => 82 | 331 => 83 | 332 => 84 | 215 => 85 | 343 => 87 | n => n, fun | 28 => 35 | 3 => 3 | 46 => 87 | 0 => 0 | 51 => 113 | 53 => 38 | 4 => 4 | 183 => 106 | 182 => 105 | 131 => 44 | 5 => 5 | 9 => 9 | 218 => 122 | 222 => 126 | 228 => 129 | 229 => 130 | n => n, fun | n => n⟩
theorem Tryd.lays189 : Go.Proofs.Lays.n189 Tryd.prog Tryd.lays189_ren := {
  mixed := by kernel_rfl
  f125 := Tryd.func42.trans (congrArg some (by kernel_rfl))
  f128 := Tryd.func70.trans (congrArg some (by kernel_rfl))
  f129 := Tryd.func71.trans (congrArg some (by kernel_rfl))
  f189 := Tryd.func26.trans (congrArg some (by kernel_rfl))
  f215 := Tryd.func85.trans (congrArg some (by kernel_rfl))
  f216 := Tryd.func67.trans (congrArg some (by kernel_rfl))
  f257 := Tryd.func41.trans (congrArg some (by kernel_rfl))
  f294 := Tryd.func61.trans (congrArg some (by kernel_rfl))
  f295 := Tryd.func62.trans (congrArg some (by kernel_rfl))
  f296 := Tryd.func63.trans (congrArg some (by kernel_rfl))
  f297 := Tryd.func64.trans (congrArg some (by kernel_rfl))
  f298 := Tryd.func65.trans (congrArg some (by kernel_rfl))
  f299 := Tryd.func66.trans (congrArg some (by kernel_rfl))
  f300 := Tryd.func68.trans (congrArg some (by kernel_rfl))
  f301 := Tryd.func69.trans (congrArg some (by kernel_rfl))
  f328 := Tryd.func80.trans (congrArg some (by kernel_rfl))
  f329 := Tryd.func81.trans (congrArg some (by kernel_rfl))
  f330 := Tryd.func82.trans (congrArg some (by kernel_rfl))
  f331 := Tryd.func83.trans (congrArg some (by kernel_rfl))
  f332 := Tryd.func84.trans (congrArg some (by kernel_rfl))
  f343 := Tryd.func87.trans (congrArg some (by kernel_rfl))
  t0 := Tryd.underlying0
  a0 := Tryd.isAgg0
  z0 := Tryd.sizeOf0
  v0 := Tryd.zeroValue0
  t3 := Tryd.underlying3
  a3 := Tryd.isAgg3
  z3 := Tryd.sizeOf3
  v3 := Tryd.zeroValue3
  t4 := Tryd.underlying4
  a4 := Tryd.isAgg4
  z4 := Tryd.sizeOf4
  v4 := Tryd.zeroValue4
  t5 := Tryd.underlying5
  a5 := Tryd.isAgg5
  z5 := Tryd.sizeOf5
  v5 := Tryd.zeroValue5
  t9 := Tryd.underlying9
  a9 := Tryd.isAgg9
  z9 := Tryd.sizeOf9
  v9 := Tryd.zeroValue9
  t28 := Tryd.underlying35
  a28 := Tryd.isAgg35
  z28 := Tryd.sizeOf35
  v28 := Tryd.zeroValue35
  t46 := Tryd.underlying87
  a46 := Tryd.isAgg87
  z46 := Tryd.sizeOf87
  v46 := Tryd.zeroValue87
  t51 := Tryd.underlying113
  a51 := Tryd.isAgg113
  z51 := Tryd.sizeOf113
  v51 := Tryd.zeroValue113
  t53 := Tryd.underlying38
  a53 := Tryd.isAgg38
  z53 := Tryd.sizeOf38
  v53 := Tryd.zeroValue38
  t131 := Tryd.underlying44
  a131 := Tryd.isAgg44
  z131 := Tryd.sizeOf44
  v131 := Tryd.zeroValue44
  t182 := Tryd.underlying105
  a182 := Tryd.isAgg105
  z182 := Tryd.sizeOf105
  v182 := Tryd.zeroValue105
  t183 := Tryd.underlying106
  a183 := Tryd.isAgg106
  z183 := Tryd.sizeOf106
  v183 := Tryd.zeroValue106
  t218 := Tryd.underlying122
  a218 := Tryd.isAgg122
  z218 := Tryd.sizeOf122
  v218 := Tryd.zeroValue122
  t222 := Tryd.underlying126
  a222 := Tryd.isAgg126
  z222 := Tryd.sizeOf126
  v222 := Tryd.zeroValue126
  t228 := Tryd.underlying129
  a228 := Tryd.isAgg129
  z228 := Tryd.sizeOf129
  v228 := Tryd.zeroValue129
  t229 := Tryd.underlying130
  a229 := Tryd.isAgg130
  z229 := Tryd.sizeOf130
  v229 := Tryd.zeroValue130 }
end Go.Proofs
set_option linter.unusedVariables false
set_option linter.unusedSimpArgs false
set_option maxRecDepth 100000
set_option maxHeartbeats 4000000
namespace Go.Proofs.YtfgcnknmiclfnaaDoor
open Go.RowKit Go.Sort
theorem toNats (l : List Int) (h : ∀ x ∈ l, 0 ≤ x) : (l.map Int.toNat).map (fun z : Nat => (z : Int)) = l := by
  rw [List.map_map]
  refine (List.map_congr_left (g := id) fun x hx => ?_).trans (List.map_id l)
  have := h x hx
  show ((x.toNat : Nat) : Int) = x
  omega
theorem sort_ok : SortOk := by
  refine ⟨fun blk cap zs w hc hb hl => ?_, fun w => ?_⟩
  · have hlen : (zs.map fun z : Nat => (z : Int)).length = zs.length := List.length_map _
    have hH : Holds (Value.int .i64) w blk 0 (zs.map fun z : Nat => (z : Int)).toArray := fun j hj => by
      have hj : j < zs.length := by simpa using hj
      obtain ⟨h1, h2⟩ := hc j hj
      rw [Nat.zero_add]
      refine ⟨?_, h2⟩
      rw [h1]
      simp [hj]
    have hS := Any.slices_Sort_int Tryd.lays189 blk 0 cap (zs.map fun z : Nat => (z : Int)) w hH hb (by rw [hlen]; omega)
    rw [hlen] at hS
    refine hS.mono ?_
    rintro e w' ⟨rfl, n, os, rfl⟩
    obtain ⟨ms, hms⟩ : ∃ ms, ms = (zs.map fun z : Nat => (z : Int)).mergeSort fun x y => decide (x ≤ y) := ⟨_, rfl⟩
    have hp : ms.Perm (zs.map fun z : Nat => (z : Int)) := by rw [hms]; exact List.mergeSort_perm _ _
    have hsr : ms.Pairwise (fun x y => (decide (x ≤ y)) = true) := by
      rw [hms]
      refine List.pairwise_mergeSort (fun a b c h1 h2 => ?_) (fun a b => ?_) _
      · have := of_decide_eq_true h1; have := of_decide_eq_true h2; exact decide_eq_true (by omega)
      · simp; omega
    rw [← hms]
    have hnn : ∀ x ∈ ms, 0 ≤ x := fun x hx => by
      obtain ⟨z, _, rfl⟩ := List.mem_map.1 (hp.mem_iff.1 hx)
      omega
    have hmn := toNats ms hnn
    have hml : ms.length = zs.length := hp.length_eq.trans hlen
    have hH2 : Holds (Value.int .i64) (grow (putRow (Value.int .i64) (Sort.ahead w n) blk 0 ms.toArray) os) blk 0 ms.toArray :=
      holds_grow _ _ _ _ _ _ (by simpa [Sort.ahead] using hb) (holds_putRow (Value.int .i64) (Sort.ahead w n) blk 0 (zs.map fun z : Nat => (z : Int)).toArray ms.toArray hH (by simp [hml]))
    have hg := grownBy_sortedI (w := w) (g := blk) (n := n) (os := os) ms.toArray
    refine ⟨rfl, ⟨ms.map Int.toNat, ?_, ?_, fun j hj => ?_⟩, (Keep.refl (fun b => b = blk) w).grown hg (fun k e _ => (Option.some.inj e).symm)⟩
    · have h1 := hp.map Int.toNat
      rw [List.map_map] at h1
      have h2 : (zs.map (Int.toNat ∘ fun z : Nat => (z : Int))) = zs := (List.map_congr_left (g := id) fun z _ => by simp).trans (List.map_id zs)
      rw [h2] at h1
      exact h1
    · rw [List.pairwise_map]
      refine hsr.imp ?_
      intro a b h
      have := of_decide_eq_true h
      omega
    · have hj2 : j < ms.length := by simpa using hj
      have h1 := (hH2 j (by simpa using hj2)).1
      rw [Nat.zero_add] at h1
      rw [h1]
      have h3 : 0 ≤ ms[j] := hnn _ (List.getElem_mem hj2)
      have h4 : (((ms.map Int.toNat)[j]'hj : Nat) : Int) = ms[j] := by
        rw [List.getElem_map]; omega
      rw [h4]
      simp [hj2]
  · refine (Any.slices_Sort_int_none Tryd.lays189 none 0 w).mono ?_
    rintro e w' ⟨rfl, rfl⟩
    exact ⟨rfl, Below.refl _ _⟩
theorem threads_any (L : List IN) (pv : Value) (n0 : Nat) (ln : Bool) (sv : ByteArray) (a c : Int) (w : World) (hp : PI w n0 L pv) (hk : KT w) (hsz : sv.size ≤ 1000000000) :
    Calls Tryd.prog 13 #[.agg #[pv, .bool ln], .string sv, .int .i64 a, .int .i64 c] w fun e w' => (∃ v zs, e = .returned v ∧ IL w' w.heap.size zs v ∧ TSpec L ln sv.data.toList a c zs) ∧ Below w.heap.size w w' := by
  by_cases hno : (a < 0 ∨ (sv.size : Int) < a ∨ valL L = false) ∨ c < a ∨ (sv.size : Int) < c
  · refine (threads_no L pv n0 ln sv a c w hp hk hsz hno).mono ?_
    rintro e w' ⟨rfl, hb⟩
    exact ⟨⟨_, [], rfl, il_nil _ _, no_t hno⟩, hb⟩
  · have hv : valL L = true := by
      cases h : valL L with
      | true => rfl
      | false => exact absurd (.inl (.inr (.inr h))) hno
    have h1 : ¬ a < 0 := fun h => hno (.inl (.inl h))
    have h2 : ¬ c < a := fun h => hno (.inr (.inl h))
    have h3 : ¬ (sv.size : Int) < c := fun h => hno (.inr (.inr h))
    obtain ⟨n, rfl⟩ : ∃ n : Nat, a = (n : Int) := ⟨a.toNat, by omega⟩
    obtain ⟨m, rfl⟩ : ∃ m : Nat, c = (m : Int) := ⟨c.toNat, by omega⟩
    exact threads_yes sort_ok L pv n0 ln sv n m w hp hk hsz hv (by omega) (by omega)
end Go.Proofs.YtfgcnknmiclfnaaDoor
