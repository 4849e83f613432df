/- RxNrm. -/
import Derived.Test.YtphiaagppcbefaaGreatDoorPs24
import Derived.Test.YtphiaagppcbefaaGreatDoorPs38
import Derived.Test.YtphiaagppcbefaaGreatDoorPs7
import Derived.StillTailTactics
import Derived.Deep.CutRange
import Derived.Deep.Cut
import Derived.Deep.DeepCutAuto
set_option linter.unusedVariables false
namespace Go.Proofs.YtphiaagppcbefaaGreatDoor
open Go.RowKit
def okNode (o : Int) (s : Nat → Bool) (l h g : Int) (n : Nat) : Prop :=
  l = 0 ∧ g = 0 ∧ ((o = 2 ∧ eqc s noSet = false ∧ h = 0 ∧ n = 0) ∨ ((o = 3 ∨ o = 4) ∧ s = noSet ∧ h = 0 ∧ 2 ≤ n) ∨ (o = 5 ∧ s = noSet ∧ h = -1 ∧ n = 1))
def okIn (po o : Int) : Prop := (po = 3 ∧ (o = 2 ∨ o = 5)) ∨ (po = 4 ∧ (o = 2 ∨ o = 3 ∨ o = 5)) ∨ (po = 5 ∧ o = 2)
def okK : Nat → Int → F → Prop
  | _, _, .nil => True
  | lvl, po, .cons o s l h g a r => okNode o s l h g a.len ∧ okIn po o ∧ lvl ≤ 32 ∧ okK (lvl + 1) o a ∧ okK lvl po r
theorem okK_nth : ∀ {f : F} {lvl : Nat} {po : Int} (i : Nat), okK lvl po f → i < f.len → okNode (f.nth i).op (f.nth i).st (f.nth i).lo (f.nth i).hi (f.nth i).g (f.nth i).args.len ∧ okIn po (f.nth i).op ∧ lvl ≤ 32 ∧ okK (lvl + 1) (f.nth i).op (f.nth i).args
  | .nil, _, _, i, h, hi => by cases hi
  | .cons o s l h g a r, lvl, po, 0, hk, _ => ⟨hk.1, hk.2.1, hk.2.2.1, hk.2.2.2.1⟩
  | .cons o s l h g a r, lvl, po, i + 1, hk, hi => okK_nth (f := r) i hk.2.2.2.2 (by have : i + 1 < r.len + 1 := hi; omega)
theorem wd_noSet : (wd noSet 0 64 : Nat) = 0 ∧ (wd noSet 64 64 : Nat) = 0 ∧ (wd noSet 128 64 : Nat) = 0 ∧ (wd noSet 192 64 : Nat) = 0 := by decide +kernel
theorem have_2 (w : World) : Calls Tryz.prog 98 #[.int .i64 2, .int .i64 0] w fun e w' => e = .returned (.bool true) ∧ w' = w := by
  go_enter Tryz.func98, Tryz.ntmps98
  go_wp2
  go_ret
  exact ⟨rfl, rfl⟩
theorem have_3 (n : Int) (h : 2 ≤ n) (w : World) : Calls Tryz.prog 98 #[.int .i64 3, .int .i64 n] w fun e w' => e = .returned (.bool true) ∧ w' = w := by
  have h1 : ¬ n < 2 := by omega
  go_enter Tryz.func98, Tryz.ntmps98
  go_wp2
  go_ret
  exact ⟨rfl, rfl⟩
theorem have_4 (n : Int) (h : 2 ≤ n) (w : World) : Calls Tryz.prog 98 #[.int .i64 4, .int .i64 n] w fun e w' => e = .returned (.bool true) ∧ w' = w := by
  have h1 : ¬ n < 2 := by omega
  go_enter Tryz.func98, Tryz.ntmps98
  go_wp2
  go_ret
  exact ⟨rfl, rfl⟩
theorem have_5 (w : World) : Calls Tryz.prog 98 #[.int .i64 5, .int .i64 1] w fun e w' => e = .returned (.bool true) ∧ w' = w := by
  go_enter Tryz.func98, Tryz.ntmps98
  go_wp2
  go_ret
  exact ⟨rfl, rfl⟩
theorem cont_3_2 (w : World) : Calls Tryz.prog 69 #[.int .i64 3, .int .i64 2] w fun e w' => e = .returned (.bool true) ∧ w' = w := by
  go_enter Tryz.func69, Tryz.ntmps69
  go_wp2
  go_ret
  exact ⟨rfl, rfl⟩
theorem cont_3_5 (w : World) : Calls Tryz.prog 69 #[.int .i64 3, .int .i64 5] w fun e w' => e = .returned (.bool true) ∧ w' = w := by
  go_enter Tryz.func69, Tryz.ntmps69
  go_wp2
  go_ret
  exact ⟨rfl, rfl⟩
theorem cont_4_2 (w : World) : Calls Tryz.prog 69 #[.int .i64 4, .int .i64 2] w fun e w' => e = .returned (.bool true) ∧ w' = w := by
  go_enter Tryz.func69, Tryz.ntmps69
  go_wp2
  go_ret
  exact ⟨rfl, rfl⟩
theorem cont_4_3 (w : World) : Calls Tryz.prog 69 #[.int .i64 4, .int .i64 3] w fun e w' => e = .returned (.bool true) ∧ w' = w := by
  go_enter Tryz.func69, Tryz.ntmps69
  go_wp2
  go_ret
  exact ⟨rfl, rfl⟩
theorem cont_4_5 (w : World) : Calls Tryz.prog 69 #[.int .i64 4, .int .i64 5] w fun e w' => e = .returned (.bool true) ∧ w' = w := by
  go_enter Tryz.func69, Tryz.ntmps69
  go_wp2
  go_ret
  exact ⟨rfl, rfl⟩
theorem cont_5_2 (w : World) : Calls Tryz.prog 69 #[.int .i64 5, .int .i64 2] w fun e w' => e = .returned (.bool true) ∧ w' = w := by
  go_enter Tryz.func69, Tryz.ntmps69
  go_wp2
  go_ret
  exact ⟨rfl, rfl⟩
theorem cont_ok {po o : Int} (h : okIn po o) (w : World) : Calls Tryz.prog 69 #[.int .i64 po, .int .i64 o] w fun e w' => e = .returned (.bool true) ∧ w' = w := by
  rcases h with ⟨rfl, rfl | rfl⟩ | ⟨rfl, rfl | rfl | rfl⟩ | ⟨rfl, rfl⟩
  · exact cont_3_2 w
  · exact cont_3_5 w
  · exact cont_4_2 w
  · exact cont_4_3 w
  · exact cont_4_5 w
  · exact cont_5_2 w
theorem cmp_zero (w : World) : (binOp .neq 32 (.agg #[.int .u64 0, .int .u64 0, .int .u64 0, .int .u64 0]) (.agg #[.int .u64 0, .int .u64 0, .int .u64 0, .int .u64 0])).run Tryz.prog w = .ok (.bool false) w := by
  have := neq_cs noSet noSet w
  rw [eqc_self] at this
  unfold cs cl at this
  rw [wd_noSet.1, wd_noSet.2.1, wd_noSet.2.2.1, wd_noSet.2.2.2] at this
  exact this
theorem cmp_full {st : Nat → Bool} (h : eqc st noSet = false) (w : World) : (binOp .neq 32 (.agg #[.int .u64 (wd st 0 64 : Nat), .int .u64 (wd st 64 64 : Nat), .int .u64 (wd st 128 64 : Nat), .int .u64 (wd st 192 64 : Nat)]) (.agg #[.int .u64 0, .int .u64 0, .int .u64 0, .int .u64 0])).run Tryz.prog w = .ok (.bool true) w := by
  have := neq_cs st noSet w
  rw [h] at this
  unfold cs cl at this
  rw [wd_noSet.1, wd_noSet.2.1, wd_noSet.2.2.1, wd_noSet.2.2.2] at this
  exact this
set_option maxRecDepth 100000 in
set_option maxHeartbeats 8000000 in
theorem fields_2 (st : Nat → Bool) (hs : eqc st noSet = false) (ad : Option Addr) (cap : Nat) (w : World) : Calls Tryz.prog 67 #[.agg #[.int .i64 2, .int .u64 (wd st 0 64 : Nat), .int .u64 (wd st 64 64 : Nat), .int .u64 (wd st 128 64 : Nat), .int .u64 (wd st 192 64 : Nat), .int .i64 0, .int .i64 0, .int .i64 0, .slice ad 0 cap]] w fun e w' => e = .returned (.bool true) ∧ Below w.heap.size w w' := by
  have hcmp := cmp_full hs
  have HH := Lib.hid (fun W => have_2 W)
  skip
  clear hs
  go_enter Tryz.func67, Tryz.ntmps67
  go_wp2_with (first
    | (go_at_call 98; (with_reducible refine (HH.out _).mono ?_); rintro e w1 ⟨rfl, rfl⟩)
    )
  go_ret
  exact ⟨rfl, (Below.refl _ _).alloc (Nat.le_refl _) _⟩
theorem group_2 (P : Value) (st : Nat → Bool) (ad : Option Addr) (cap : Nat) (w : World) : Calls Tryz.prog 68 #[P, .agg #[.int .i64 2, .int .u64 (wd st 0 64 : Nat), .int .u64 (wd st 64 64 : Nat), .int .u64 (wd st 128 64 : Nat), .int .u64 (wd st 192 64 : Nat), .int .i64 0, .int .i64 0, .int .i64 0, .slice ad 0 cap]] w fun e w' => e = .returned (.bool true) ∧ Below w.heap.size w w' := by
  skip
  go_enter Tryz.func68, Tryz.ntmps68
  go_wp2
  go_ret
  exact ⟨rfl, (Below.refl _ _).alloc (Nat.le_refl _) _⟩
set_option maxRecDepth 100000 in
set_option maxHeartbeats 8000000 in
theorem fields_3 (n : Nat) (hn : 2 ≤ (n : Int)) (ad : Option Addr) (cap : Nat) (w : World) : Calls Tryz.prog 67 #[.agg #[.int .i64 3, .int .u64 0, .int .u64 0, .int .u64 0, .int .u64 0, .int .i64 0, .int .i64 0, .int .i64 0, .slice ad n cap]] w fun e w' => e = .returned (.bool true) ∧ Below w.heap.size w w' := by
  have hcmp := cmp_zero
  have HH := Lib.hid (fun W => have_3 n hn W)
  have HN := Lib.hid hn; clear hn
  skip
  go_enter Tryz.func67, Tryz.ntmps67
  go_wp2_with (first
    | (go_at_call 98; (with_reducible refine (HH.out _).mono ?_); rintro e w1 ⟨rfl, rfl⟩)
    )
  go_ret
  exact ⟨rfl, (Below.refl _ _).alloc (Nat.le_refl _) _⟩
theorem group_3 (P : Value) (n : Nat) (hn : 2 ≤ (n : Int)) (ad : Option Addr) (cap : Nat) (w : World) : Calls Tryz.prog 68 #[P, .agg #[.int .i64 3, .int .u64 0, .int .u64 0, .int .u64 0, .int .u64 0, .int .i64 0, .int .i64 0, .int .i64 0, .slice ad n cap]] w fun e w' => e = .returned (.bool true) ∧ Below w.heap.size w w' := by
  have HN := Lib.hid hn; clear hn
  go_enter Tryz.func68, Tryz.ntmps68
  go_wp2
  go_ret
  exact ⟨rfl, (Below.refl _ _).alloc (Nat.le_refl _) _⟩
set_option maxRecDepth 100000 in
set_option maxHeartbeats 8000000 in
theorem fields_4 (n : Nat) (hn : 2 ≤ (n : Int)) (ad : Option Addr) (cap : Nat) (w : World) : Calls Tryz.prog 67 #[.agg #[.int .i64 4, .int .u64 0, .int .u64 0, .int .u64 0, .int .u64 0, .int .i64 0, .int .i64 0, .int .i64 0, .slice ad n cap]] w fun e w' => e = .returned (.bool true) ∧ Below w.heap.size w w' := by
  have hcmp := cmp_zero
  have HH := Lib.hid (fun W => have_4 n hn W)
  have HN := Lib.hid hn; clear hn
  skip
  go_enter Tryz.func67, Tryz.ntmps67
  go_wp2_with (first
    | (go_at_call 98; (with_reducible refine (HH.out _).mono ?_); rintro e w1 ⟨rfl, rfl⟩)
    )
  go_ret
  exact ⟨rfl, (Below.refl _ _).alloc (Nat.le_refl _) _⟩
theorem group_4 (P : Value) (n : Nat) (hn : 2 ≤ (n : Int)) (ad : Option Addr) (cap : Nat) (w : World) : Calls Tryz.prog 68 #[P, .agg #[.int .i64 4, .int .u64 0, .int .u64 0, .int .u64 0, .int .u64 0, .int .i64 0, .int .i64 0, .int .i64 0, .slice ad n cap]] w fun e w' => e = .returned (.bool true) ∧ Below w.heap.size w w' := by
  have HN := Lib.hid hn; clear hn
  go_enter Tryz.func68, Tryz.ntmps68
  go_wp2
  go_ret
  exact ⟨rfl, (Below.refl _ _).alloc (Nat.le_refl _) _⟩
set_option maxRecDepth 100000 in
set_option maxHeartbeats 8000000 in
theorem fields_5 (ad : Option Addr) (cap : Nat) (w : World) : Calls Tryz.prog 67 #[.agg #[.int .i64 5, .int .u64 0, .int .u64 0, .int .u64 0, .int .u64 0, .int .i64 0, .int .i64 (-1), .int .i64 0, .slice ad 1 cap]] w fun e w' => e = .returned (.bool true) ∧ Below w.heap.size w w' := by
  have hcmp := cmp_zero
  have HH := Lib.hid (fun W => have_5 W)
  skip
  skip
  go_enter Tryz.func67, Tryz.ntmps67
  go_wp2_with (first
    | (go_at_call 98; (with_reducible refine (HH.out _).mono ?_); rintro e w1 ⟨rfl, rfl⟩)
    )
  go_ret
  exact ⟨rfl, (Below.refl _ _).alloc (Nat.le_refl _) _⟩
theorem group_5 (P : Value) (ad : Option Addr) (cap : Nat) (w : World) : Calls Tryz.prog 68 #[P, .agg #[.int .i64 5, .int .u64 0, .int .u64 0, .int .u64 0, .int .u64 0, .int .i64 0, .int .i64 (-1), .int .i64 0, .slice ad 1 cap]] w fun e w' => e = .returned (.bool true) ∧ Below w.heap.size w w' := by
  skip
  go_enter Tryz.func68, Tryz.ntmps68
  go_wp2
  go_ret
  exact ⟨rfl, (Below.refl _ _).alloc (Nat.le_refl _) _⟩
theorem fields_ok {o l h g : Int} {st : Nat → Bool} {n : Nat} (hk : okNode o st l h g n) (ad : Option Addr) (cap : Nat) (w : World) : Calls Tryz.prog 67 #[.agg #[.int .i64 o, .int .u64 (wd st 0 64 : Nat), .int .u64 (wd st 64 64 : Nat), .int .u64 (wd st 128 64 : Nat), .int .u64 (wd st 192 64 : Nat), .int .i64 l, .int .i64 h, .int .i64 g, .slice ad n cap]] w fun e w' => e = .returned (.bool true) ∧ Below w.heap.size w w' := by
  obtain ⟨rfl, rfl, ⟨rfl, hs, rfl, rfl⟩ | ⟨rfl | rfl, rfl, rfl, hn⟩ | ⟨rfl, rfl, rfl, rfl⟩⟩ := hk
  · exact fields_2 st hs ad cap w
  · rw [wd_noSet.1, wd_noSet.2.1, wd_noSet.2.2.1, wd_noSet.2.2.2]
    exact fields_3 n (by omega) ad cap w
  · rw [wd_noSet.1, wd_noSet.2.1, wd_noSet.2.2.1, wd_noSet.2.2.2]
    exact fields_4 n (by omega) ad cap w
  · rw [wd_noSet.1, wd_noSet.2.1, wd_noSet.2.2.1, wd_noSet.2.2.2]
    exact fields_5 ad cap w
theorem group_ok (P : Value) {o l h g : Int} {st : Nat → Bool} {n : Nat} (hk : okNode o st l h g n) (ad : Option Addr) (cap : Nat) (w : World) : Calls Tryz.prog 68 #[P, .agg #[.int .i64 o, .int .u64 (wd st 0 64 : Nat), .int .u64 (wd st 64 64 : Nat), .int .u64 (wd st 128 64 : Nat), .int .u64 (wd st 192 64 : Nat), .int .i64 l, .int .i64 h, .int .i64 g, .slice ad n cap]] w fun e w' => e = .returned (.bool true) ∧ Below w.heap.size w w' := by
  obtain ⟨rfl, rfl, ⟨rfl, hs, rfl, rfl⟩ | ⟨rfl | rfl, rfl, rfl, hn⟩ | ⟨rfl, rfl, rfl, rfl⟩⟩ := hk
  · exact group_2 P st ad cap w
  · rw [wd_noSet.1, wd_noSet.2.1, wd_noSet.2.2.1, wd_noSet.2.2.2]
    exact group_3 P n (by omega) ad cap w
  · rw [wd_noSet.1, wd_noSet.2.1, wd_noSet.2.2.1, wd_noSet.2.2.2]
    exact group_4 P n (by omega) ad cap w
  · rw [wd_noSet.1, wd_noSet.2.1, wd_noSet.2.2.1, wd_noSet.2.2.2]
    exact group_5 P ad cap w
def ChkOk (f : F) : Prop := ∀ (o l h g : Int) (st : Nat → Bool) (sv : Value) (w : World) (S : Nat → Prop) (P : Value) (lvl : Nat), SV w S f sv → okNode o st l h g f.len → okK (lvl + 1) o f → lvl ≤ 32 → f.len ≤ 1000000 ∧ widF f ≤ 1000000 →
  Calls Tryz.prog 46 #[P, .agg #[.int .i64 o, .int .u64 (wd st 0 64 : Nat), .int .u64 (wd st 64 64 : Nat), .int .u64 (wd st 128 64 : Nat), .int .u64 (wd st 192 64 : Nat), .int .i64 l, .int .i64 h, .int .i64 g, sv], .int .i64 (lvl : Int)] w fun e w' => e = .returned (.bool true) ∧ Below w.heap.size w w'
set_option maxRecDepth 100000 in
set_option maxHeartbeats 8000000 in
theorem chk_node (f : F) (hch : ∀ i, i < f.len → ChkOk (f.nth i).args) : ChkOk f := by
  intro o l h g st sv w S P lvl hsv hnode hok hlvl hwd
  have hfl : (f.len : Int) ≤ 1000000 := by omega
  have hl32 : ¬ (32 : Int) < (lvl : Int) := by omega
  have HW := Lib.hid hwd
  obtain ⟨zs, ad, cap, rfl, hcap, hfv, hcells⟩ := hsv
  have HFi := Lib.hid (fun W => fields_ok hnode ad cap W)
  have HGr := Lib.hid (fun W => group_ok P hnode ad cap W)
  have ho6 : (o == 6) = false := by
    obtain ⟨_, _, ⟨rfl, _⟩ | ⟨rfl | rfl, _⟩ | ⟨rfl, _⟩⟩ := hnode <;> rfl
  have HOk := Lib.hid hok
  have HCh := Lib.hid hch
  have HFV := Lib.hid hfv
  have HCe := Lib.hid hcells
  have HNode := Lib.hid hnode
  obtain ⟨W2, hW2⟩ : ∃ W2, W2 = w.alloc (.cells #[.int .i64 o, .int .u64 (wd st 0 64 : Nat), .int .u64 (wd st 64 64 : Nat), .int .u64 (wd st 128 64 : Nat), .int .u64 (wd st 192 64 : Nat), .int .i64 l, .int .i64 h, .int .i64 g, .slice ad f.len cap] 35) := ⟨_, rfl⟩
  have hx : Below w.heap.size w W2 := by rw [hW2]; exact (Below.refl _ _).alloc (Nat.le_refl _) _
  have hz2 : W2.heap.size = w.heap.size + 1 := by rw [hW2]; simp
  have hg0 : W2.heap[w.heap.size]? = some (.cells #[.int .i64 o, .int .u64 (wd st 0 64 : Nat), .int .u64 (wd st 64 64 : Nat), .int .u64 (wd st 128 64 : Nat), .int .u64 (wd st 192 64 : Nat), .int .i64 l, .int .i64 h, .int .i64 g, .slice ad f.len cap] 35 (0, 0)) := by
    rw [hW2]
    exact heap_alloc_new w _
  have HX := Lib.hid hx
  have HG0 := Lib.hid hg0
  have HZ := Lib.hid hz2
  have HW2 := Lib.hid hW2
  clear hch hfv hcells hx hcap hwd hok hnode hlvl hz2 hg0 hW2
  go_enter Tryz.func46, Tryz.ntmps46
  go_wp2_with (first
    | (go_at_call 67; (with_reducible refine (HFi.out _).mono ?_); rintro e w1 ⟨rfl, hb1⟩
       rw [← HW2.out] at hb1
       have k1 : ∀ j u, W2.cell? ⟨w.heap.size, j, none⟩ = some u → w1.cell? ⟨w.heap.size, j, none⟩ = some u := fun j u hu => (hb1.cell (by have := HZ.out; show w.heap.size < _; omega)).trans hu
       have HB1 := Lib.hid hb1
       have HC0 := Lib.hid (fun j => cell_of_row W2 w.heap.size j _ _ _ HG0.out)
       have a0 := k1 0 _ (HC0.out 0); have a1 := k1 1 _ (HC0.out 1); have a2 := k1 2 _ (HC0.out 2); have a3 := k1 3 _ (HC0.out 3); have a4 := k1 4 _ (HC0.out 4); have a5 := k1 5 _ (HC0.out 5); have a6 := k1 6 _ (HC0.out 6); have a7 := k1 7 _ (HC0.out 7); have a8 := k1 8 _ (HC0.out 8)
       clear k1 hb1)
    | (go_at_call 68; (with_reducible refine (HGr.out _).mono ?_); rintro e w2 ⟨rfl, hb2⟩
       have hb3 := HB1.out.trans (hb2.mono HB1.out.size)
       have k1 : ∀ j u, W2.cell? ⟨w.heap.size, j, none⟩ = some u → w2.cell? ⟨w.heap.size, j, none⟩ = some u := fun j u hu => (hb3.cell (by have := HZ.out; show w.heap.size < _; omega)).trans hu
       clear a0 a1 a2 a3 a4 a5 a6 a7 a8
       have HB2 := Lib.hid hb3
       have a0 := k1 0 _ (HC0.out 0); have a8 := k1 8 _ (HC0.out 8)
       clear k1 hb2 hb3)
    )
  clear a0 a8
  have HB2w := HB2
  go_loopw [25] (fun i wr => ∃ k : Nat, k ≤ f.len ∧ i = .int .i64 k ∧ Hid (Below W2.heap.size W2 wr)) (fun i _ => f.len - (intOf i).toNat)
  case atStart => exact ⟨0, Nat.zero_le _, rfl, HB2.out⟩
  case round =>
    obtain ⟨k, hk, rfl, HB⟩ := hrel
    have b0 : wr.cell? ⟨w.heap.size, 0, none⟩ = some (.int .i64 o) := cell_of_row wr w.heap.size 0 _ _ _ ((HB.out.block _ (by have := HZ.out; omega)).trans HG0.out)
    have hsz : w.heap.size < wr.heap.size := by have := HB.out.size; have := HZ.out; omega
    by_cases hkn : k < f.len
    · have ki : (k : Int) < f.len := by omega
      have ki0 : (0 : Int) ≤ k := by omega
      obtain ⟨b, i0, rfl, _, hbl, hce⟩ : ∃ b i, ad = some ⟨b, i, none⟩ ∧ S b ∧ b < w.heap.size ∧ ∀ j u, zs[j]? = some u → w.cell? ⟨b, i + j, none⟩ = some u := by
        rcases HCe.out with h0 | h0
        · omega
        · exact h0
      obtain ⟨sv2, hsv2, hrow⟩ := FV.nth k HFV.out hkn
      obtain ⟨ad2, cp2, rfl⟩ := slice_form hsv2
      have hcell : ∀ j u, (rowV (f.nth k).op (f.nth k).st (f.nth k).lo (f.nth k).hi (f.nth k).g (.slice ad2 (f.nth k).args.len cp2))[j]? = some u → wr.cell? ⟨b, i0 + k * 9 + j, none⟩ = some u := fun j u hu => by
        rw [HB.out.cell (by have := HZ.out; show b < W2.heap.size; omega), HX.out.cell (by exact hbl), Nat.add_assoc]
        exact hce _ u (hrow j u hu)
      have c0 := hcell 0 _ rfl
      have c1 := hcell 1 _ rfl
      have c2 := hcell 2 _ rfl
      have c3 := hcell 3 _ rfl
      have c4 := hcell 4 _ rfl
      have c5 := hcell 5 _ rfl
      have c6 := hcell 6 _ rfl
      have c7 := hcell 7 _ rfl
      have c8 := hcell 8 _ rfl
      rw [Nat.add_zero] at c0
      obtain ⟨hn, hin, hl3, hok3⟩ := okK_nth k HOk.out hkn
      have HCo := Lib.hid (fun W => cont_ok hin W)
      have HC := HCh.out k hkn
      have HL := Lib.hid (fun W (hW : SV W S (f.nth k).args (.slice ad2 (f.nth k).args.len cp2)) => HC (f.nth k).op (f.nth k).lo (f.nth k).hi (f.nth k).g (f.nth k).st _ W S P (lvl + 1) hW hn hok3 hl3 (by have h1 := wid_nth f k hkn; have := HW.out; omega))
      have elv : ((lvl + 1 : Nat) : Int) = (lvl : Int) + 1 := by omega
      rw [elv] at HL
      have lv0 : (0 : Int) ≤ lvl := by omega
      have lv1 : (lvl : Int) ≤ 32 := by omega
      have HS2 : Hid (SV wr S (f.nth k).args (.slice ad2 (f.nth k).args.len cp2)) := Lib.hid ((hsv2.far (Afar.below HX.out)).far (Afar.below HB.out))
      clear hcell hce hrow hsv2 HC hn hin hl3 hok3 elv
      go_wp2_with (first
        | (go_at_call 69; (with_reducible refine (HCo.out _).mono ?_); rintro e w1 ⟨rfl, rfl⟩)
        | (go_at_call 46; refine (HL.out _ (HS2.out.far (Afar.below ((Below.refl _ _).alloc (Nat.le_refl _) _)))).mono ?_; rintro e w1 ⟨rfl, hb⟩; have HB1 := Lib.hid ((HB.out.alloc HB.out.size _).trans (hb.mono (by have := HB.out.size; simp; omega))); clear hb)
        )
      go_roundw
      case rel => exact ⟨k + 1, by omega, by go_num, HB1.out⟩
      case measure => simp [intOf]; omega
    · obtain rfl : k = f.len := by omega
      go_wp2
      go_ret
      exact ⟨rfl, HX.out.trans (HB.out.mono (by have := HZ.out; omega))⟩
theorem chk_all : ∀ (f : F) (i : Nat), i < f.len → ChkOk (f.nth i).args
  | .nil, i, h => by cases h
  | .cons o s l h g a r, 0, hi => chk_node a (chk_all a)
  | .cons o s l h g a r, i + 1, hi => chk_all r i (by have : i + 1 < r.len + 1 := hi; omega)
theorem check_rx (f : F) : ChkOk f := chk_node f (chk_all f)
theorem normal_rx (t : TN) (sv : Value) (w : World) (S : Nat → Prop) (hsv : SV w S t.args sv) (hn : okNode t.op t.st t.lo t.hi t.g t.args.len) (hok : okK 2 t.op t.args) (hwd : t.args.len ≤ 1000000 ∧ widF t.args ≤ 1000000) :
    Calls Tryz.prog 30 #[.agg #[.int .i64 t.op, .int .u64 (wd t.st 0 64 : Nat), .int .u64 (wd t.st 64 64 : Nat), .int .u64 (wd t.st 128 64 : Nat), .int .u64 (wd t.st 192 64 : Nat), .int .i64 t.lo, .int .i64 t.hi, .int .i64 t.g, sv]] w fun e w' => e = .returned (.bool true) ∧ Below w.heap.size w w' := by
  obtain ⟨ad, cap, rfl⟩ := slice_form hsv
  have HC := Lib.hid (fun W P (h : SV W S t.args (.slice ad t.args.len cap)) => check_rx t.args t.op t.lo t.hi t.g t.st _ W S P 1 h hn hok (by omega) hwd)
  have HS := Lib.hid hsv
  clear hsv hn hok hwd
  go_enter Tryz.func30, Tryz.ntmps30
  go_wp2_with (first
    | (go_at_call 46; refine (HC.out _ _ (HS.out.far (Afar.below (((Below.refl _ _).alloc (Nat.le_refl _) _).alloc (by simp) _)))).mono ?_; rintro e w1 ⟨rfl, hb⟩; have HB1 := Lib.hid ((((Below.refl w.heap.size w).alloc (Nat.le_refl _) _).alloc (by simp) _).trans (hb.mono (by simp; omega))); clear hb)
    )
  go_ret
  exact ⟨rfl, HB1.out⟩
end Go.Proofs.YtphiaagppcbefaaGreatDoor
