/- RbF. -/
import Derived.Test.YtfgcnknmiclfnaaDoorPb5
set_option linter.unusedVariables false
set_option linter.unusedSimpArgs false
set_option maxRecDepth 100000
set_option maxHeartbeats 8000000
namespace Go.Proofs.YtfgcnknmiclfnaaDoor
open Go.RowKit
theorem PV.keep {T : Type} {E : TypeId} {k : Nat} {c : T → List Value} {w w' : World} {n0 : Nat} {xs : List T} {v : Value} {S : Nat → Prop} (h : PV E k c w n0 xs v) (hb : Keep S w w') (hS : ∀ g, v.ownBlock = some g → ¬ S g) : PV E k c w' n0 xs v := own_keep h hb hS
theorem Keep.afar {S T : Nat → Prop} {w w' : World} (h : Keep S w w') (hT : ∀ b, T b → ¬ S b) : Afar T T w w' := ⟨h.size, fun b h1 h2 => ⟨h1, h.block b h2 (hT b h1)⟩⟩
def NamR (r : Option (List Int)) (n0 : Nat) (v : Value) (w w' : World) (cv : Value) (b : Bool) : Prop := match r with
  | some ys => b = true ∧ PV 3 1 cells_i w' n0 ys cv ∧ ∀ g, cv.ownBlock = some g → v.ownBlock = some g ∨ w.heap.size ≤ g
  | none => b = false
def NamOk (f : F) : Prop := ∀ (o l h g : Int) (st : Nat → Bool) (sv : Value) (w : World) (S : Nat → Prop) (n0 : Nat) (xs : List Int) (v : Value), SV w S f sv → f.len ≤ maxLen ∧ f.fits → (∀ b, S b → b < n0) → n0 ≤ w.heap.size → PV 3 1 cells_i w n0 xs v → xs.length + szF f + 1 ≤ 4000000 →
  Calls Tryd.prog 46 #[.agg #[.int .i64 o, .int .u64 (wd st 0 64 : Nat), .int .u64 (wd st 64 64 : Nat), .int .u64 (wd st 128 64 : Nat), .int .u64 (wd st 192 64 : Nat), .int .i64 l, .int .i64 h, .int .i64 g, sv], v] w fun e w' => (∃ cv b, e = .returned (.tuple #[cv, .bool b]) ∧ NamR (nmdN o g f xs) n0 v w w' cv b) ∧ Keep (fun b => v.ownBlock = some b) w w'
theorem nmd_step (f : F) (k : Nat) (hk : k < f.len) (n : List Int) : nmdF (f.drop k) n = match nmdN (f.nth k).op (f.nth k).g (f.nth k).args n with | none => none | some m => nmdF (f.drop (k + 1)) m := by
  rw [F.drop_step f k hk, nmdF_cons]
  cases nmdN (f.nth k).op (f.nth k).g (f.nth k).args n <;> rfl
theorem nmdF_le : ∀ (f : F) (n m : List Int), nmdF f n = some m → m.length ≤ n.length + szF f
  | .nil, n, m, h => by obtain rfl := Option.some.inj h; exact Nat.le_refl _
  | .cons o s l hh g a r, n, m, h => by
    rw [nmdF] at h
    split at h
    · cases h
    · cases hn : nmdF a n with
      | none => rw [hn] at h; cases h
      | some d =>
        rw [hn] at h
        have i := nmdF_le a n d hn
        have j := nmdF_le r _ m h
        show m.length ≤ n.length + (szF a + 1 + szF r)
        split at j
        · rw [List.length_append] at j
          simp only [List.length_cons, List.length_nil] at j
          omega
        · omega
theorem nmdN_le {o g : Int} {a : F} {n m : List Int} (hm : nmdN o g a n = some m) : m.length ≤ n.length + szF a + 1 := by
  unfold nmdN at hm
  split at hm
  · cases hm
  · cases hn : nmdF a n with
    | none => rw [hn] at hm; cases hm
    | some d =>
      rw [hn] at hm
      have i := nmdF_le a n d hn
      have hm : some (if o = 6 then d ++ [g] else d) = some m := hm
      obtain rfl := Option.some.inj hm
      split
      · rw [List.length_append]
        simp only [List.length_cons, List.length_nil]
        omega
      · omega
theorem nam_x (f : F) (hch : ∀ i, i < f.len → NamOk (f.nth i).args) (o l h g : Int) (st : Nat → Bool) (sv : Value) (w : World) (S : Nat → Prop) (n0 : Nat) (xs : List Int) (v : Value) (hsv : SV w S f sv) (hft : f.len ≤ maxLen ∧ f.fits) (hS : ∀ b, S b → b < n0) (hn0 : n0 ≤ w.heap.size) (hpv : PV 3 1 cells_i w n0 xs v) (hbd : xs.length + szF f + 1 ≤ 4000000) (e9 : (o == 9) = false) (e6 : (o == 6) = false) :
    Calls Tryd.prog 46 #[.agg #[.int .i64 o, .int .u64 (wd st 0 64 : Nat), .int .u64 (wd st 64 64 : Nat), .int .u64 (wd st 128 64 : Nat), .int .u64 (wd st 192 64 : Nat), .int .i64 l, .int .i64 h, .int .i64 g, sv], v] w fun e w' => (∃ cv b, e = .returned (.tuple #[cv, .bool b]) ∧ NamR (nmdF f xs) n0 v w w' cv b) ∧ Keep (fun b => v.ownBlock = some b) w w' := by
  have HSV := Lib.hid hsv
  have HCh := Lib.hid hch
  have HF := Lib.hid hft
  obtain ⟨ad, cap, rfl⟩ := slice_form hsv
  obtain ⟨W2, hW2⟩ : ∃ W2, W2 = w.alloc (.cells #[.int .i64 o, .int .u64 (wd st 0 64 : Nat), .int .u64 (wd st 64 64 : Nat), .int .u64 (wd st 128 64 : Nat), .int .u64 (wd st 192 64 : Nat), .int .i64 l, .int .i64 h, .int .i64 g, .slice ad f.len cap] 55) := ⟨_, rfl⟩
  have hx : Below w.heap.size w W2 := by rw [hW2]; exact (Below.refl _ _).alloc (Nat.le_refl _) _
  have hz2 : W2.heap.size = w.heap.size + 1 := by rw [hW2]; simp
  have hg0 : W2.heap[w.heap.size]? = some (.cells #[.int .i64 o, .int .u64 (wd st 0 64 : Nat), .int .u64 (wd st 64 64 : Nat), .int .u64 (wd st 128 64 : Nat), .int .u64 (wd st 192 64 : Nat), .int .i64 l, .int .i64 h, .int .i64 g, .slice ad f.len cap] 55 (0, 0)) := by
    rw [hW2]
    exact heap_alloc_new w _
  have HX := Lib.hid hx
  have HG0 := Lib.hid hg0
  have HZ := Lib.hid hz2
  have HW2 := Lib.hid hW2
  have BX : Hid (∀ wx, Below W2.heap.size W2 wx → Below w.heap.size w wx ∧ wx.cell? ⟨w.heap.size, 0, none⟩ = some (.int .i64 o) ∧ wx.cell? ⟨w.heap.size, 7, none⟩ = some (.int .i64 g) ∧ wx.cell? ⟨w.heap.size, 8, none⟩ = some (.slice ad f.len cap)) := Lib.hid fun wx hb => by
    have hr := (hb.block _ (by have := HZ.out; omega)).trans HG0.out
    exact ⟨HX.out.trans (hb.mono HX.out.size), cell_of_row wx w.heap.size 0 _ _ _ hr, cell_of_row wx w.heap.size 7 _ _ _ hr, cell_of_row wx w.heap.size 8 _ _ _ hr⟩
  clear hsv hch hft hx hz2 hg0 hW2
  have hfl : (f.len : Int) ≤ 9223372036854775807 := by have := HF.out.1; unfold maxLen at this; omega
  have HPV := Lib.hid (show PV 3 1 cells_i W2 n0 xs v from by rw [HW2.out]; exact hpv.below ((Below.refl _ _).alloc (Nat.le_refl _) _))
  have HN := Lib.hid hn0
  have HS := Lib.hid hS
  have HBd := Lib.hid hbd
  have HOB := Lib.hid (fun g (hg : v.ownBlock = some g) => (own_at hpv g hg))
  obtain ⟨vad, vcap, rfl⟩ := own_sl hpv
  generalize hxl : xs.length = xl at *
  have HXl := Lib.hid hxl
  clear hpv hn0 hS hbd hxl
  go_enter Tryd.func46, Tryd.ntmps46
  go_wp2_with fail
  go_loopw [1, 6] (fun c i wr => ∃ (k : Nat) (ys : List Int), k ≤ f.len ∧ i = .int .i64 k ∧ Hid (ys.length + szF (f.drop k) ≤ 4000000 ∧ PV 3 1 cells_i wr n0 ys c ∧ (∀ g, c.ownBlock = some g → (Value.slice vad xl vcap).ownBlock = some g ∨ W2.heap.size ≤ g) ∧ Keep (fun b => (Value.slice vad xl vcap).ownBlock = some b) W2 wr ∧ nmdF f xs = nmdF (f.drop k) ys)) (fun _ i _ => f.len - (intOf i).toNat)
  case atStart =>
    refine ⟨0, xs, Nat.zero_le _, rfl, Lib.hid ⟨?_, (by rw [← HW2.out]; exact HPV.out), fun g hg => .inl hg, (by rw [← HW2.out]; exact Keep.refl _ _), by cases f <;> rfl⟩⟩
    have : f.drop 0 = f := by cases f <;> rfl
    rw [this, HXl.out]
    have := HBd.out
    omega
  case round =>
    obtain ⟨k, ys, hk, rfl, HB⟩ := hrel
    have hkw : Keep (fun b => (Value.slice vad xl vcap).ownBlock = some b) w wr := ((Keep.of_below HX.out).trans HB.out.2.2.2.1 (fun _ _ h => h)).mono (fun _ h => h)
    have hnb : ¬ (Value.slice vad xl vcap).ownBlock = some w.heap.size := fun e => by have := (HOB.out _ e).2; omega
    have hbox : wr.heap[w.heap.size]? = some (.cells #[.int .i64 o, .int .u64 (wd st 0 64 : Nat), .int .u64 (wd st 64 64 : Nat), .int .u64 (wd st 128 64 : Nat), .int .u64 (wd st 192 64 : Nat), .int .i64 l, .int .i64 h, .int .i64 g, .slice ad f.len cap] 55 (0, 0)) := (HB.out.2.2.2.1.block _ (by have := HZ.out; omega) hnb).trans HG0.out
    have b0 := cell_of_row wr w.heap.size 0 _ _ _ hbox
    have b7 := cell_of_row wr w.heap.size 7 _ _ _ hbox
    have bx := cell_of_row wr w.heap.size 8 _ _ _ hbox
    replace b0 : wr.cell? ⟨w.heap.size, 0, none⟩ = some (.int .i64 o) := b0
    replace b7 : wr.cell? ⟨w.heap.size, 7, none⟩ = some (.int .i64 g) := b7
    replace bx : wr.cell? ⟨w.heap.size, 8, none⟩ = some (.slice ad f.len cap) := bx
    have hlt : w.heap.size < wr.heap.size := (Array.getElem?_eq_some_iff.1 hbox).1
    have HLT := Lib.hid hlt
    have HKW := Lib.hid hkw
    have HBox := Lib.hid hbox
    clear hkw hnb hbox hlt
    by_cases hkn : k < f.len
    · have ki : (k : Int) < f.len := by omega
      have ki0 : (0 : Int) ≤ k := by omega
      obtain ⟨b, i0, ad2, cp2, rfl, hsv2, c0, c1, c2, c3, c4, c5, c6, c7, c8⟩ := kid HSV.out (HKW.out.afar (fun b hb e => by have := HS.out b hb; have := (HOB.out b e).1; omega)) k hkn
      have HS2 := Lib.hid hsv2
      have hst := sz_step f k hkn
      have hle := HB.out.1
      rw [hst] at hle
      obtain ⟨cad, ccap, rfl⟩ := own_sl HB.out.2.1
      have HL := Lib.hid (fun W hW hn (hP : PV 3 1 cells_i W n0 ys (.slice cad ys.length ccap)) => HCh.out k hkn (f.nth k).op (f.nth k).lo (f.nth k).hi (f.nth k).g (f.nth k).st (.slice ad2 (f.nth k).args.len cp2) W S n0 ys (.slice cad ys.length ccap) hW (F.fits_nth k HF.out.2 hkn) HS.out hn hP (by omega))
      have HSt := Lib.hid (HB.out.2.2.2.2.trans (nmd_step f k hkn ys))
      obtain ⟨R, hR⟩ : ∃ R, R = nmdN (f.nth k).op (f.nth k).g (f.nth k).args ys := ⟨_, rfl⟩
      have HR := Lib.hid hR
      have HLe := Lib.hid hle
      rw [← hR] at HSt HL
      clear hst hle hR hsv2
      cases R with
      | none =>
        go_wp2_with (first
          | (go_at_call 46; (with_reducible refine (HL.out _ HS2.out (by have := HN.out; have := HLT.out; omega) HB.out.2.1).mono ?_); rintro e w2 ⟨⟨m2, b2, rfl, hb2⟩, hb⟩; replace hb2 : b2 = false := hb2; subst hb2; have HB1 := Lib.hid hb; clear hb bx b0 b7 c0 c1 c2 c3 c4 c5 c6 c7 c8))
        go_ret2
        refine ⟨⟨_, _, rfl, ?_⟩, ?_⟩
        · rw [HSt.out]; rfl
        · exact HKW.out.trans HB1.out (fun g hg h => by
            rcases HB.out.2.2.1 g h with h1 | h1
            · exact h1
            · have := HZ.out; omega)
      | some zs =>
        go_wp2_with (first
          | (go_at_call 46; (with_reducible refine (HL.out _ HS2.out (by have := HN.out; have := HLT.out; omega) HB.out.2.1).mono ?_); rintro e w2 ⟨⟨m2, b2, rfl, hb2⟩, hb⟩; obtain ⟨rfl, hp2, ho2⟩ : b2 = true ∧ PV 3 1 cells_i w2 n0 zs m2 ∧ (∀ g, m2.ownBlock = some g → (Value.slice cad ys.length ccap).ownBlock = some g ∨ wr.heap.size ≤ g) := hb2; have HB1 := Lib.hid hb; have HP2 := Lib.hid hp2; have HO2 := Lib.hid ho2; clear hb bx b0 b7 c0 c1 c2 c3 c4 c5 c6 c7 c8 hp2 ho2))
        go_roundw
        case rel =>
          refine ⟨k + 1, zs, by omega, by go_num, Lib.hid ⟨by have := nmdN_le HR.out.symm; have := HLe.out; omega, HP2.out, fun g hg => ?_, ?_, HSt.out⟩⟩
          · rcases HO2.out g hg with h1 | h1
            · exact HB.out.2.2.1 g h1
            · right; have := HLT.out; have := HB.out.2.2.2.1.size; omega
          · exact HB.out.2.2.2.1.trans HB1.out (fun g hg h => by
              rcases HB.out.2.2.1 g h with h1 | h1
              · exact h1
              · omega)
        case measure => simp [intOf]; omega
    · obtain rfl : k = f.len := by omega
      have hd := HB.out.2.2.2.2
      rw [F.drop_len] at hd
      have HD := Lib.hid hd
      clear hd
      obtain ⟨cad, ccap, rfl⟩ := own_sl HB.out.2.1
      go_wp2_with fail
      go_ret2
      refine ⟨⟨_, _, rfl, ?_⟩, HKW.out⟩
      rw [HD.out]
      refine ⟨rfl, HB.out.2.1, fun g hg => ?_⟩
      rcases HB.out.2.2.1 g hg with h1 | h1
      · exact .inl h1
      · right; have := HZ.out; omega
theorem nam_6 (f : F) (hch : ∀ i, i < f.len → NamOk (f.nth i).args) (l h g : Int) (st : Nat → Bool) (sv : Value) (w : World) (S : Nat → Prop) (n0 : Nat) (xs : List Int) (v : Value) (hsv : SV w S f sv) (hft : f.len ≤ maxLen ∧ f.fits) (hS : ∀ b, S b → b < n0) (hn0 : n0 ≤ w.heap.size) (hpv : PV 3 1 cells_i w n0 xs v) (hbd : xs.length + szF f + 1 ≤ 4000000) :
    Calls Tryd.prog 46 #[.agg #[.int .i64 6, .int .u64 (wd st 0 64 : Nat), .int .u64 (wd st 64 64 : Nat), .int .u64 (wd st 128 64 : Nat), .int .u64 (wd st 192 64 : Nat), .int .i64 l, .int .i64 h, .int .i64 g, sv], v] w fun e w' => (∃ cv b, e = .returned (.tuple #[cv, .bool b]) ∧ NamR ((nmdF f xs).map fun d => d ++ [g]) n0 v w w' cv b) ∧ Keep (fun b => v.ownBlock = some b) w w' := by
  have HSV := Lib.hid hsv
  have HCh := Lib.hid hch
  have HF := Lib.hid hft
  obtain ⟨ad, cap, rfl⟩ := slice_form hsv
  obtain ⟨W2, hW2⟩ : ∃ W2, W2 = w.alloc (.cells #[.int .i64 6, .int .u64 (wd st 0 64 : Nat), .int .u64 (wd st 64 64 : Nat), .int .u64 (wd st 128 64 : Nat), .int .u64 (wd st 192 64 : Nat), .int .i64 l, .int .i64 h, .int .i64 g, .slice ad f.len cap] 55) := ⟨_, rfl⟩
  have hx : Below w.heap.size w W2 := by rw [hW2]; exact (Below.refl _ _).alloc (Nat.le_refl _) _
  have hz2 : W2.heap.size = w.heap.size + 1 := by rw [hW2]; simp
  have hg0 : W2.heap[w.heap.size]? = some (.cells #[.int .i64 6, .int .u64 (wd st 0 64 : Nat), .int .u64 (wd st 64 64 : Nat), .int .u64 (wd st 128 64 : Nat), .int .u64 (wd st 192 64 : Nat), .int .i64 l, .int .i64 h, .int .i64 g, .slice ad f.len cap] 55 (0, 0)) := by
    rw [hW2]
    exact heap_alloc_new w _
  have HX := Lib.hid hx
  have HG0 := Lib.hid hg0
  have HZ := Lib.hid hz2
  have HW2 := Lib.hid hW2
  have BX : Hid (∀ wx, Below W2.heap.size W2 wx → Below w.heap.size w wx ∧ wx.cell? ⟨w.heap.size, 0, none⟩ = some (.int .i64 6) ∧ wx.cell? ⟨w.heap.size, 7, none⟩ = some (.int .i64 g) ∧ wx.cell? ⟨w.heap.size, 8, none⟩ = some (.slice ad f.len cap)) := Lib.hid fun wx hb => by
    have hr := (hb.block _ (by have := HZ.out; omega)).trans HG0.out
    exact ⟨HX.out.trans (hb.mono HX.out.size), cell_of_row wx w.heap.size 0 _ _ _ hr, cell_of_row wx w.heap.size 7 _ _ _ hr, cell_of_row wx w.heap.size 8 _ _ _ hr⟩
  clear hsv hch hft hx hz2 hg0 hW2
  have hfl : (f.len : Int) ≤ 9223372036854775807 := by have := HF.out.1; unfold maxLen at this; omega
  have HPV := Lib.hid (show PV 3 1 cells_i W2 n0 xs v from by rw [HW2.out]; exact hpv.below ((Below.refl _ _).alloc (Nat.le_refl _) _))
  have HN := Lib.hid hn0
  have HS := Lib.hid hS
  have HBd := Lib.hid hbd
  have HOB := Lib.hid (fun g (hg : v.ownBlock = some g) => (own_at hpv g hg))
  obtain ⟨vad, vcap, rfl⟩ := own_sl hpv
  generalize hxl : xs.length = xl at *
  have HXl := Lib.hid hxl
  clear hpv hn0 hS hbd hxl
  go_enter Tryd.func46, Tryd.ntmps46
  go_wp2_with fail
  go_loopw [1, 6] (fun c i wr => ∃ (k : Nat) (ys : List Int), k ≤ f.len ∧ i = .int .i64 k ∧ Hid (ys.length + szF (f.drop k) ≤ 4000000 ∧ PV 3 1 cells_i wr n0 ys c ∧ (∀ g, c.ownBlock = some g → (Value.slice vad xl vcap).ownBlock = some g ∨ W2.heap.size ≤ g) ∧ Keep (fun b => (Value.slice vad xl vcap).ownBlock = some b) W2 wr ∧ nmdF f xs = nmdF (f.drop k) ys)) (fun _ i _ => f.len - (intOf i).toNat)
  case atStart =>
    refine ⟨0, xs, Nat.zero_le _, rfl, Lib.hid ⟨?_, (by rw [← HW2.out]; exact HPV.out), fun g hg => .inl hg, (by rw [← HW2.out]; exact Keep.refl _ _), by cases f <;> rfl⟩⟩
    have : f.drop 0 = f := by cases f <;> rfl
    rw [this, HXl.out]
    have := HBd.out
    omega
  case round =>
    obtain ⟨k, ys, hk, rfl, HB⟩ := hrel
    have hkw : Keep (fun b => (Value.slice vad xl vcap).ownBlock = some b) w wr := ((Keep.of_below HX.out).trans HB.out.2.2.2.1 (fun _ _ h => h)).mono (fun _ h => h)
    have hnb : ¬ (Value.slice vad xl vcap).ownBlock = some w.heap.size := fun e => by have := (HOB.out _ e).2; omega
    have hbox : wr.heap[w.heap.size]? = some (.cells #[.int .i64 6, .int .u64 (wd st 0 64 : Nat), .int .u64 (wd st 64 64 : Nat), .int .u64 (wd st 128 64 : Nat), .int .u64 (wd st 192 64 : Nat), .int .i64 l, .int .i64 h, .int .i64 g, .slice ad f.len cap] 55 (0, 0)) := (HB.out.2.2.2.1.block _ (by have := HZ.out; omega) hnb).trans HG0.out
    have b0 := cell_of_row wr w.heap.size 0 _ _ _ hbox
    have b7 := cell_of_row wr w.heap.size 7 _ _ _ hbox
    have bx := cell_of_row wr w.heap.size 8 _ _ _ hbox
    replace b0 : wr.cell? ⟨w.heap.size, 0, none⟩ = some (.int .i64 6) := b0
    replace b7 : wr.cell? ⟨w.heap.size, 7, none⟩ = some (.int .i64 g) := b7
    replace bx : wr.cell? ⟨w.heap.size, 8, none⟩ = some (.slice ad f.len cap) := bx
    have hlt : w.heap.size < wr.heap.size := (Array.getElem?_eq_some_iff.1 hbox).1
    have HLT := Lib.hid hlt
    have HKW := Lib.hid hkw
    have HBox := Lib.hid hbox
    clear hkw hnb hbox hlt
    by_cases hkn : k < f.len
    · have ki : (k : Int) < f.len := by omega
      have ki0 : (0 : Int) ≤ k := by omega
      obtain ⟨b, i0, ad2, cp2, rfl, hsv2, c0, c1, c2, c3, c4, c5, c6, c7, c8⟩ := kid HSV.out (HKW.out.afar (fun b hb e => by have := HS.out b hb; have := (HOB.out b e).1; omega)) k hkn
      have HS2 := Lib.hid hsv2
      have hst := sz_step f k hkn
      have hle := HB.out.1
      rw [hst] at hle
      obtain ⟨cad, ccap, rfl⟩ := own_sl HB.out.2.1
      have HL := Lib.hid (fun W hW hn (hP : PV 3 1 cells_i W n0 ys (.slice cad ys.length ccap)) => HCh.out k hkn (f.nth k).op (f.nth k).lo (f.nth k).hi (f.nth k).g (f.nth k).st (.slice ad2 (f.nth k).args.len cp2) W S n0 ys (.slice cad ys.length ccap) hW (F.fits_nth k HF.out.2 hkn) HS.out hn hP (by omega))
      have HSt := Lib.hid (HB.out.2.2.2.2.trans (nmd_step f k hkn ys))
      obtain ⟨R, hR⟩ : ∃ R, R = nmdN (f.nth k).op (f.nth k).g (f.nth k).args ys := ⟨_, rfl⟩
      have HR := Lib.hid hR
      have HLe := Lib.hid hle
      rw [← hR] at HSt HL
      clear hst hle hR hsv2
      cases R with
      | none =>
        go_wp2_with (first
          | (go_at_call 46; (with_reducible refine (HL.out _ HS2.out (by have := HN.out; have := HLT.out; omega) HB.out.2.1).mono ?_); rintro e w2 ⟨⟨m2, b2, rfl, hb2⟩, hb⟩; replace hb2 : b2 = false := hb2; subst hb2; have HB1 := Lib.hid hb; clear hb bx b0 b7 c0 c1 c2 c3 c4 c5 c6 c7 c8))
        go_ret2
        refine ⟨⟨_, _, rfl, ?_⟩, ?_⟩
        · rw [HSt.out]; rfl
        · exact HKW.out.trans HB1.out (fun g hg h => by
            rcases HB.out.2.2.1 g h with h1 | h1
            · exact h1
            · have := HZ.out; omega)
      | some zs =>
        go_wp2_with (first
          | (go_at_call 46; (with_reducible refine (HL.out _ HS2.out (by have := HN.out; have := HLT.out; omega) HB.out.2.1).mono ?_); rintro e w2 ⟨⟨m2, b2, rfl, hb2⟩, hb⟩; obtain ⟨rfl, hp2, ho2⟩ : b2 = true ∧ PV 3 1 cells_i w2 n0 zs m2 ∧ (∀ g, m2.ownBlock = some g → (Value.slice cad ys.length ccap).ownBlock = some g ∨ wr.heap.size ≤ g) := hb2; have HB1 := Lib.hid hb; have HP2 := Lib.hid hp2; have HO2 := Lib.hid ho2; clear hb bx b0 b7 c0 c1 c2 c3 c4 c5 c6 c7 c8 hp2 ho2))
        go_roundw
        case rel =>
          refine ⟨k + 1, zs, by omega, by go_num, Lib.hid ⟨by have := nmdN_le HR.out.symm; have := HLe.out; omega, HP2.out, fun g hg => ?_, ?_, HSt.out⟩⟩
          · rcases HO2.out g hg with h1 | h1
            · exact HB.out.2.2.1 g h1
            · right; have := HLT.out; have := HB.out.2.2.2.1.size; omega
          · exact HB.out.2.2.2.1.trans HB1.out (fun g hg h => by
              rcases HB.out.2.2.1 g h with h1 | h1
              · exact h1
              · omega)
        case measure => simp [intOf]; omega
    · obtain rfl : k = f.len := by omega
      have hd := HB.out.2.2.2.2
      rw [F.drop_len] at hd
      have HD := Lib.hid hd
      clear hd
      obtain ⟨cad, ccap, rfl⟩ := own_sl HB.out.2.1
      have hsz : ys.length ≤ 4000000 := by have := HB.out.1; omega
      have HYs := Lib.hid hsz
      have HGk := Lib.hid (fun j => frozen_of_row wr w.heap.size j _ _ HBox.out)
      clear hsz HCh HF
      go_wp2_with (at_builtin; refine app1 n0 35 3 (.int .i64 0) 1 8 Tryd.underlying35 info_i rfl (by decide) wr rfl (.tmp 44) (.tmp 47) rfl (by have := HN.out; have := HLT.out; omega) (.slice cad ys.length ccap) ys.length _ (cells_i g) rfl rfl HB.out.2.1 _ rfl rfl rfl ?d1 ?d2 ?d3 ?_)
      case d1 => simp [cells_i, Value.oneCell']
      case d2 => have := HYs.out; unfold maxLen; omega
      case d3 => have := HYs.out; omega
      intro g0 cap0 w8 ho8 hk8 hg8
      have HO8 := Lib.hid ho8
      have HK8 := Lib.hid hk8
      have HG8 := Lib.hid hg8
      clear ho8 hk8 hg8
      go_wp2_with fail
      go_ret2
      refine ⟨⟨_, _, rfl, ?_⟩, ?_⟩
      · rw [HD.out]
        show true = true ∧ _ ∧ _
        refine ⟨rfl, ?_, fun x hx => ?_⟩
        · unfold PV
          rw [List.length_append, List.flatMap_append]
          have : ([g] : List Int).flatMap cells_i = cells_i g := by simp
          rw [this]
          exact HO8.out
        · have hx : some g0 = some x := hx
          cases hx
          rcases HG8.out with h1 | h1
          · rcases HB.out.2.2.1 g0 h1 with h2 | h2
            · exact .inl h2
            · right; have := HZ.out; omega
          · right; have := HLT.out; omega
      · exact HKW.out.trans HK8.out (fun x hx h => by
          rcases HB.out.2.2.1 x h with h1 | h1
          · exact h1
          · have := HZ.out; omega)
theorem nam_9 (f : F) (hch : ∀ i, i < f.len → NamOk (f.nth i).args) (l h g : Int) (st : Nat → Bool) (sv : Value) (w : World) (S : Nat → Prop) (n0 : Nat) (xs : List Int) (v : Value) (hsv : SV w S f sv) (hft : f.len ≤ maxLen ∧ f.fits) (hS : ∀ b, S b → b < n0) (hn0 : n0 ≤ w.heap.size) (hpv : PV 3 1 cells_i w n0 xs v) (hbd : xs.length + szF f + 1 ≤ 4000000) (hcon : xs.contains g = true) :
    Calls Tryd.prog 46 #[.agg #[.int .i64 9, .int .u64 (wd st 0 64 : Nat), .int .u64 (wd st 64 64 : Nat), .int .u64 (wd st 128 64 : Nat), .int .u64 (wd st 192 64 : Nat), .int .i64 l, .int .i64 h, .int .i64 g, sv], v] w fun e w' => (∃ cv b, e = .returned (.tuple #[cv, .bool b]) ∧ NamR (nmdF f xs) n0 v w w' cv b) ∧ Keep (fun b => v.ownBlock = some b) w w' := by
  have HSV := Lib.hid hsv
  have HCh := Lib.hid hch
  have HF := Lib.hid hft
  obtain ⟨ad, cap, rfl⟩ := slice_form hsv
  obtain ⟨W2, hW2⟩ : ∃ W2, W2 = w.alloc (.cells #[.int .i64 9, .int .u64 (wd st 0 64 : Nat), .int .u64 (wd st 64 64 : Nat), .int .u64 (wd st 128 64 : Nat), .int .u64 (wd st 192 64 : Nat), .int .i64 l, .int .i64 h, .int .i64 g, .slice ad f.len cap] 55) := ⟨_, rfl⟩
  have hx : Below w.heap.size w W2 := by rw [hW2]; exact (Below.refl _ _).alloc (Nat.le_refl _) _
  have hz2 : W2.heap.size = w.heap.size + 1 := by rw [hW2]; simp
  have hg0 : W2.heap[w.heap.size]? = some (.cells #[.int .i64 9, .int .u64 (wd st 0 64 : Nat), .int .u64 (wd st 64 64 : Nat), .int .u64 (wd st 128 64 : Nat), .int .u64 (wd st 192 64 : Nat), .int .i64 l, .int .i64 h, .int .i64 g, .slice ad f.len cap] 55 (0, 0)) := by
    rw [hW2]
    exact heap_alloc_new w _
  have HX := Lib.hid hx
  have HG0 := Lib.hid hg0
  have HZ := Lib.hid hz2
  have HW2 := Lib.hid hW2
  have BX : Hid (∀ wx, Below W2.heap.size W2 wx → Below w.heap.size w wx ∧ wx.cell? ⟨w.heap.size, 0, none⟩ = some (.int .i64 9) ∧ wx.cell? ⟨w.heap.size, 7, none⟩ = some (.int .i64 g) ∧ wx.cell? ⟨w.heap.size, 8, none⟩ = some (.slice ad f.len cap)) := Lib.hid fun wx hb => by
    have hr := (hb.block _ (by have := HZ.out; omega)).trans HG0.out
    exact ⟨HX.out.trans (hb.mono HX.out.size), cell_of_row wx w.heap.size 0 _ _ _ hr, cell_of_row wx w.heap.size 7 _ _ _ hr, cell_of_row wx w.heap.size 8 _ _ _ hr⟩
  clear hsv hch hft hx hz2 hg0 hW2
  have hfl : (f.len : Int) ≤ 9223372036854775807 := by have := HF.out.1; unfold maxLen at this; omega
  have HPV := Lib.hid (show PV 3 1 cells_i W2 n0 xs v from by rw [HW2.out]; exact hpv.below ((Below.refl _ _).alloc (Nat.le_refl _) _))
  have HN := Lib.hid hn0
  have HS := Lib.hid hS
  have HBd := Lib.hid hbd
  have HOB := Lib.hid (fun g (hg : v.ownBlock = some g) => (own_at hpv g hg))
  obtain ⟨vad, vcap, rfl⟩ := own_sl hpv
  generalize hxl : xs.length = xl at *
  have HXl := Lib.hid hxl
  clear hpv hn0 hS hbd hxl
  have HHs := Lib.hid (fun W (hP : PV 3 1 cells_i W n0 xs (.slice vad xl vcap)) => ihas_any n0 xs (.slice vad xl vcap) g W hP (by have := HBd.out; have := HXl.out; omega))
  rw [hcon] at HHs
  go_enter Tryd.func46, Tryd.ntmps46
  go_wp2_with (first
    | (go_at_call 75; (with_reducible refine (HHs.out _ (by rw [← HW2.out]; exact HPV.out)).mono ?_); rintro e w1 ⟨rfl, rfl⟩))
  go_loopw [1, 6] (fun c i wr => ∃ (k : Nat) (ys : List Int), k ≤ f.len ∧ i = .int .i64 k ∧ Hid (ys.length + szF (f.drop k) ≤ 4000000 ∧ PV 3 1 cells_i wr n0 ys c ∧ (∀ g, c.ownBlock = some g → (Value.slice vad xl vcap).ownBlock = some g ∨ W2.heap.size ≤ g) ∧ Keep (fun b => (Value.slice vad xl vcap).ownBlock = some b) W2 wr ∧ nmdF f xs = nmdF (f.drop k) ys)) (fun _ i _ => f.len - (intOf i).toNat)
  case atStart =>
    refine ⟨0, xs, Nat.zero_le _, rfl, Lib.hid ⟨?_, (by rw [← HW2.out]; exact HPV.out), fun g hg => .inl hg, (by rw [← HW2.out]; exact Keep.refl _ _), by cases f <;> rfl⟩⟩
    have : f.drop 0 = f := by cases f <;> rfl
    rw [this, HXl.out]
    have := HBd.out
    omega
  case round =>
    obtain ⟨k, ys, hk, rfl, HB⟩ := hrel
    have hkw : Keep (fun b => (Value.slice vad xl vcap).ownBlock = some b) w wr := ((Keep.of_below HX.out).trans HB.out.2.2.2.1 (fun _ _ h => h)).mono (fun _ h => h)
    have hnb : ¬ (Value.slice vad xl vcap).ownBlock = some w.heap.size := fun e => by have := (HOB.out _ e).2; omega
    have hbox : wr.heap[w.heap.size]? = some (.cells #[.int .i64 9, .int .u64 (wd st 0 64 : Nat), .int .u64 (wd st 64 64 : Nat), .int .u64 (wd st 128 64 : Nat), .int .u64 (wd st 192 64 : Nat), .int .i64 l, .int .i64 h, .int .i64 g, .slice ad f.len cap] 55 (0, 0)) := (HB.out.2.2.2.1.block _ (by have := HZ.out; omega) hnb).trans HG0.out
    have b0 := cell_of_row wr w.heap.size 0 _ _ _ hbox
    have b7 := cell_of_row wr w.heap.size 7 _ _ _ hbox
    have bx := cell_of_row wr w.heap.size 8 _ _ _ hbox
    replace b0 : wr.cell? ⟨w.heap.size, 0, none⟩ = some (.int .i64 9) := b0
    replace b7 : wr.cell? ⟨w.heap.size, 7, none⟩ = some (.int .i64 g) := b7
    replace bx : wr.cell? ⟨w.heap.size, 8, none⟩ = some (.slice ad f.len cap) := bx
    have hlt : w.heap.size < wr.heap.size := (Array.getElem?_eq_some_iff.1 hbox).1
    have HLT := Lib.hid hlt
    have HKW := Lib.hid hkw
    have HBox := Lib.hid hbox
    clear hkw hnb hbox hlt
    by_cases hkn : k < f.len
    · have ki : (k : Int) < f.len := by omega
      have ki0 : (0 : Int) ≤ k := by omega
      obtain ⟨b, i0, ad2, cp2, rfl, hsv2, c0, c1, c2, c3, c4, c5, c6, c7, c8⟩ := kid HSV.out (HKW.out.afar (fun b hb e => by have := HS.out b hb; have := (HOB.out b e).1; omega)) k hkn
      have HS2 := Lib.hid hsv2
      have hst := sz_step f k hkn
      have hle := HB.out.1
      rw [hst] at hle
      obtain ⟨cad, ccap, rfl⟩ := own_sl HB.out.2.1
      have HL := Lib.hid (fun W hW hn (hP : PV 3 1 cells_i W n0 ys (.slice cad ys.length ccap)) => HCh.out k hkn (f.nth k).op (f.nth k).lo (f.nth k).hi (f.nth k).g (f.nth k).st (.slice ad2 (f.nth k).args.len cp2) W S n0 ys (.slice cad ys.length ccap) hW (F.fits_nth k HF.out.2 hkn) HS.out hn hP (by omega))
      have HSt := Lib.hid (HB.out.2.2.2.2.trans (nmd_step f k hkn ys))
      obtain ⟨R, hR⟩ : ∃ R, R = nmdN (f.nth k).op (f.nth k).g (f.nth k).args ys := ⟨_, rfl⟩
      have HR := Lib.hid hR
      have HLe := Lib.hid hle
      rw [← hR] at HSt HL
      clear hst hle hR hsv2
      cases R with
      | none =>
        go_wp2_with (first
          | (go_at_call 46; (with_reducible refine (HL.out _ HS2.out (by have := HN.out; have := HLT.out; omega) HB.out.2.1).mono ?_); rintro e w2 ⟨⟨m2, b2, rfl, hb2⟩, hb⟩; replace hb2 : b2 = false := hb2; subst hb2; have HB1 := Lib.hid hb; clear hb bx b0 b7 c0 c1 c2 c3 c4 c5 c6 c7 c8))
        go_ret2
        refine ⟨⟨_, _, rfl, ?_⟩, ?_⟩
        · rw [HSt.out]; rfl
        · exact HKW.out.trans HB1.out (fun g hg h => by
            rcases HB.out.2.2.1 g h with h1 | h1
            · exact h1
            · have := HZ.out; omega)
      | some zs =>
        go_wp2_with (first
          | (go_at_call 46; (with_reducible refine (HL.out _ HS2.out (by have := HN.out; have := HLT.out; omega) HB.out.2.1).mono ?_); rintro e w2 ⟨⟨m2, b2, rfl, hb2⟩, hb⟩; obtain ⟨rfl, hp2, ho2⟩ : b2 = true ∧ PV 3 1 cells_i w2 n0 zs m2 ∧ (∀ g, m2.ownBlock = some g → (Value.slice cad ys.length ccap).ownBlock = some g ∨ wr.heap.size ≤ g) := hb2; have HB1 := Lib.hid hb; have HP2 := Lib.hid hp2; have HO2 := Lib.hid ho2; clear hb bx b0 b7 c0 c1 c2 c3 c4 c5 c6 c7 c8 hp2 ho2))
        go_roundw
        case rel =>
          refine ⟨k + 1, zs, by omega, by go_num, Lib.hid ⟨by have := nmdN_le HR.out.symm; have := HLe.out; omega, HP2.out, fun g hg => ?_, ?_, HSt.out⟩⟩
          · rcases HO2.out g hg with h1 | h1
            · exact HB.out.2.2.1 g h1
            · right; have := HLT.out; have := HB.out.2.2.2.1.size; omega
          · exact HB.out.2.2.2.1.trans HB1.out (fun g hg h => by
              rcases HB.out.2.2.1 g h with h1 | h1
              · exact h1
              · omega)
        case measure => simp [intOf]; omega
    · obtain rfl : k = f.len := by omega
      have hd := HB.out.2.2.2.2
      rw [F.drop_len] at hd
      have HD := Lib.hid hd
      clear hd
      obtain ⟨cad, ccap, rfl⟩ := own_sl HB.out.2.1
      go_wp2_with fail
      go_ret2
      refine ⟨⟨_, _, rfl, ?_⟩, HKW.out⟩
      rw [HD.out]
      refine ⟨rfl, HB.out.2.1, fun g hg => ?_⟩
      rcases HB.out.2.2.1 g hg with h1 | h1
      · exact .inl h1
      · right; have := HZ.out; omega
theorem nam_9n (f : F) (l h g : Int) (st : Nat → Bool) (sv : Value) (w : World) (n0 : Nat) (xs : List Int) (v : Value) (hsv : ∃ ad cap, sv = .slice ad f.len cap) (hpv : PV 3 1 cells_i w n0 xs v) (hl : xs.length ≤ 4000000) (hcon : xs.contains g = false) :
    Calls Tryd.prog 46 #[.agg #[.int .i64 9, .int .u64 (wd st 0 64 : Nat), .int .u64 (wd st 64 64 : Nat), .int .u64 (wd st 128 64 : Nat), .int .u64 (wd st 192 64 : Nat), .int .i64 l, .int .i64 h, .int .i64 g, sv], v] w fun e w' => (∃ cv b, e = .returned (.tuple #[cv, .bool b]) ∧ NamR none n0 v w w' cv b) ∧ Keep (fun b => v.ownBlock = some b) w w' := by
  obtain ⟨ad, cap, rfl⟩ := hsv
  have HX := Lib.hid ((Below.refl w.heap.size w).alloc (Nat.le_refl _) (.cells #[.int .i64 9, .int .u64 (wd st 0 64 : Nat), .int .u64 (wd st 64 64 : Nat), .int .u64 (wd st 128 64 : Nat), .int .u64 (wd st 192 64 : Nat), .int .i64 l, .int .i64 h, .int .i64 g, .slice ad f.len cap] 55))
  have HPV := Lib.hid (hpv.below HX.out)
  obtain ⟨vad, vcap, rfl⟩ := own_sl hpv
  have HHs := Lib.hid (fun W (hP : PV 3 1 cells_i W n0 xs (.slice vad xs.length vcap)) => ihas_any n0 xs (.slice vad xs.length vcap) g W hP hl)
  rw [hcon] at HHs
  clear hpv hl hcon
  go_enter Tryd.func46, Tryd.ntmps46
  go_wp2_with (first
    | (go_at_call 75; (with_reducible refine (HHs.out _ HPV.out).mono ?_); rintro e w1 ⟨rfl, rfl⟩))
  go_ret2
  exact ⟨⟨_, _, rfl, rfl⟩, Keep.of_below HX.out⟩
theorem nam_node (f : F) (hch : ∀ i, i < f.len → NamOk (f.nth i).args) : NamOk f := by
  intro o l h g st sv w S n0 xs v hsv hft hS hn0 hpv hbd
  unfold nmdN
  by_cases o9 : o = 9
  · subst o9
    cases hc : xs.contains g
    · rw [if_pos ⟨rfl, rfl⟩]
      exact nam_9n f l h g st sv w n0 xs v (slice_form hsv) hpv (by omega) hc
    · rw [if_neg (by simp)]
      have := nam_9 f hch l h g st sv w S n0 xs v hsv hft hS hn0 hpv hbd hc
      cases hn : nmdF f xs with
      | none => rw [hn] at this; exact this
      | some d => rw [hn] at this; exact this
  rw [if_neg (fun k => o9 k.1)]
  by_cases o6 : o = 6
  · subst o6
    have := nam_6 f hch l h g st sv w S n0 xs v hsv hft hS hn0 hpv hbd
    cases hn : nmdF f xs with
    | none => rw [hn] at this; exact this
    | some d => rw [hn] at this; exact this
  · have := nam_x f hch o l h g st sv w S n0 xs v hsv hft hS hn0 hpv hbd (by simpa using o9) (by simpa using o6)
    cases hn : nmdF f xs with
    | none => rw [hn] at this; exact this
    | some d =>
      rw [hn] at this
      simp only [if_neg o6]
      exact this
theorem nam_all : ∀ (f : F) (i : Nat), i < f.len → NamOk (f.nth i).args
  | .nil, i, h => by cases h
  | .cons o s l h g a r, 0, hi => nam_node a (nam_all a)
  | .cons o s l h g a r, i + 1, hi => nam_all r i (by have : i + 1 < r.len + 1 := hi; omega)
theorem nam_any (f : F) : NamOk f := nam_node f (nam_all f)
end Go.Proofs.YtfgcnknmiclfnaaDoor
