/- RsLawB, RtFrame, RsKt, RsSet. -/
import Derived.Test.YtfgcnknmiclfnaaDoorPb28
import Derived.Test.YtfgcnknmiclfnaaDoorPb29
import Derived.Deep.RegionHeld3
import Derived.Test.YtfgcnknmiclfnaaDoorPb7
import Derived.WalkKit
import Derived.ProofKit
import Derived.OpenShut
import Derived.Lay
import Derived.LaidMore
import Derived.LaidLaws
import Derived.SizedLaws
import Derived.Laws.IdiomArrays
import Derived.Lib.LaidTab
import Derived.Deep.DeepHandedRow
import Derived.SliceStrings
import Derived.Deep.Slices
import Derived.Test.YtfgcnknmiclfnaaDoorPb16
import Derived.Deep.Strs
set_option linter.unusedVariables false
set_option linter.unusedSimpArgs false
set_option maxRecDepth 100000
set_option maxHeartbeats 8000000
namespace Go.Proofs.YtfgcnknmiclfnaaDoor
open Go.RowKit
def qB (p : Nat → Bool) : List IN := [⟨1, p, 0, 0⟩, ⟨6, noSet, 0, 0⟩]
theorem qB_val (p : Nat → Bool) : valL (qB p) = true := rfl
theorem qB_stp (p : Nat → Bool) (s : List UInt8) (i k : Nat) : stp (qB p) false s i k = [] := by
  unfold stp sucs qB
  match k with
  | 0 => rfl
  | 1 => rfl
  | k + 2 => rfl
theorem qB_rch (p : Nat → Bool) (s : List UInt8) (i a b : Nat) (h : Rch (stp (qB p) false s i) a b) : b = a := h.closed (X := fun k => k = a) rfl (fun k _ y hy => by rw [qB_stp] at hy; simp at hy)
theorem qB_6 (p : Nat → Bool) (b : Nat) (h : opAt (qB p) b 6 = true) : b = 1 := by
  match b, h with
  | 0, h => cases h
  | 1, _ => rfl
  | b + 2, h => cases h
theorem qB_1 (p : Nat → Bool) (c : UInt8) (a : Nat) (x : IN) (h1 : (qB p)[a]? = some x) (h2 : x.op = 1) (h3 : x.st c.toNat = true) : a = 0 ∧ p c.toNat = true := by
  match a, h1 with
  | 0, h1 => cases h1; exact ⟨rfl, h3⟩
  | 1, h1 => cases h1; cases h2
  | a + 2, h1 => cases h1
theorem qB_mt (p : Nat → Bool) (s : List UInt8) (n e : Nat) (h : Mt (qB p) false s n e) : e = n + 1 ∧ ∃ c, s[n]? = some c ∧ p c.toNat = true := by
  obtain ⟨he, b, hb, hr⟩ := h
  obtain rfl := qB_6 p b hb
  have hle := hr.le
  by_cases h0 : e = n
  · subst h0
    have := qB_rch p s e _ _ hr.inv0
    omega
  · obtain ⟨i, rfl⟩ : ∃ i, e = i + 1 := ⟨e - 1, by omega⟩
    obtain ⟨a, x, c, r1, r2, r3, r4, r5, r6⟩ := hr.inv (by omega)
    obtain ⟨rfl, hp⟩ := qB_1 p c a x r2 r3 r5
    by_cases h1 : i = n
    · subst h1; exact ⟨rfl, c, r4, hp⟩
    · obtain ⟨j, rfl⟩ : ∃ j, i = j + 1 := ⟨i - 1, by omega⟩
      obtain ⟨a2, x2, c2, _, _, _, _, _, q6⟩ := r1.inv (by omega)
      have := qB_rch p s _ _ _ q6
      omega
theorem qB_go (p : Nat → Bool) (s : List UInt8) (n : Nat) (c : UInt8) (hs : s[n]? = some c) (hp : p c.toNat = true) : Mt (qB p) false s n (n + 1) := by
  refine ⟨(List.getElem?_eq_some_iff.1 hs).1, 1, rfl, .adv (a := 0) (x := ⟨1, p, 0, 0⟩) (.beg .refl) rfl rfl hs hp .refl⟩
theorem bytes_yes {p : Nat → Bool} {s : List UInt8} {a : Int} {te : Nat} (h : LSpec (qB p) false s a te true) : ∃ (n : Nat) (c : UInt8), a = (n : Int) ∧ s[n]? = some c ∧ p c.toNat = true ∧ te = n + 1 := by
  rcases h with ⟨_, _, n, hn, h2, _⟩ | ⟨h, _⟩
  · obtain ⟨e, c, h3, h4⟩ := qB_mt p s n te h2
    exact ⟨n, c, hn, h3, h4, e⟩
  · cases h
theorem bytes_no {p : Nat → Bool} {s : List UInt8} {a : Int} {te : Nat} (h : LSpec (qB p) false s a te false) (n : Nat) (c : UInt8) (hn : a = (n : Int)) (hs : s[n]? = some c) : p c.toNat = false := by
  rcases h with ⟨h, _⟩ | ⟨_, _, h⟩
  · cases h
  · cases hp : p c.toNat with
    | false => rfl
    | true => exact absurd (qB_go p s n c hs hp) (h (qB_val p) n hn (n + 1))
abbrev SB (w : World) (p : Nat → Bool) (w' : World) : Prop := (w'.cell? ⟨w.heap.size, 0, none⟩ = some (.int .u64 (wd p 0 64 : Nat)) ∧ w'.cell? ⟨w.heap.size, 1, none⟩ = some (.int .u64 (wd p 64 64 : Nat)) ∧ w'.cell? ⟨w.heap.size, 2, none⟩ = some (.int .u64 (wd p 128 64 : Nat)) ∧ w'.cell? ⟨w.heap.size, 3, none⟩ = some (.int .u64 (wd p 192 64 : Nat))) ∧ w.heap.size < w'.heap.size ∧ Below w.heap.size w w'
theorem SB.keep {w wx wy : World} {p : Nat → Bool} (hb : Below wx.heap.size wx wy) (h : SB w p wx) : SB w p wy := by
  obtain ⟨⟨h0, h1, h2, h3⟩, h4, h5⟩ := h
  exact ⟨⟨keep_cell hb h0, keep_cell hb h1, keep_cell hb h2, keep_cell hb h3⟩, Nat.lt_of_lt_of_le h4 hb.size, h5.trans (hb.mono h5.size)⟩
theorem bytes_law (p : Nat → Bool) (s : ByteArray) (a : Int) (w : World) (hK : KT w) (ha : -9223372036854775808 ≤ a ∧ a ≤ 9223372036854775807) (hsz : s.size ≤ 9223372036854775807) : Calls Tryd.prog 7 #[cs p, .string s, .int .i64 a] w fun e w' => e = .returned (.bool true) ∧ Below w.heap.size w w' := by
  unfold cs cl
  have HK := Lib.hid hK
  have HAw := Lib.hid (fun W h => awake11 W h)
  obtain ⟨W1, hW1⟩ : ∃ W1, W1 = w.alloc (.cells #[.int .u64 (wd p 0 64 : Nat), .int .u64 (wd p 64 64 : Nat), .int .u64 (wd p 128 64 : Nat), .int .u64 (wd p 192 64 : Nat)] 41) := ⟨_, rfl⟩
  have hb1 : Below w.heap.size w W1 := by rw [hW1]; exact (Below.refl _ _).alloc (Nat.le_refl _) _
  have hx1 : W1.heap[w.heap.size]? = some (.cells #[.int .u64 (wd p 0 64 : Nat), .int .u64 (wd p 64 64 : Nat), .int .u64 (wd p 128 64 : Nat), .int .u64 (wd p 192 64 : Nat)] 41 (0, 0)) := by rw [hW1]; exact heap_alloc_new w _
  have s0 := cell_of_row W1 w.heap.size 0 _ _ _ hx1
  have s1 := cell_of_row W1 w.heap.size 1 _ _ _ hx1
  have s2 := cell_of_row W1 w.heap.size 2 _ _ _ hx1
  have s3 := cell_of_row W1 w.heap.size 3 _ _ _ hx1
  have hl1 : w.heap.size < W1.heap.size := (Array.getElem?_eq_some_iff.1 hx1).1
  have HB1 := Lib.hid hb1
  have HX1 := Lib.hid hx1
  have HW1 := Lib.hid hW1
  clear hb1 hx1 hW1 hK
  go_enter Tryd.func7, Tryd.ntmps7
  go_upto_region 1 with fail
  rw [← HW1.out]
  go_upto_region 2 with fail
  have hx2 := heap_alloc_new W1 (.cells #[.int .i64 1, .int .u64 (wd p 0 64 : Nat), .int .u64 (wd p 64 64 : Nat), .int .u64 (wd p 128 64 : Nat), .int .u64 (wd p 192 64 : Nat), .int .i64 0, .int .i64 0, .int .i64 6, .int .u64 0, .int .u64 0, .int .u64 0, .int .u64 0, .int .i64 0, .int .i64 0] 43)
  have hb2 : Below W1.heap.size W1 (W1.alloc (.cells #[.int .i64 1, .int .u64 (wd p 0 64 : Nat), .int .u64 (wd p 64 64 : Nat), .int .u64 (wd p 128 64 : Nat), .int .u64 (wd p 192 64 : Nat), .int .i64 0, .int .i64 0, .int .i64 6, .int .u64 0, .int .u64 0, .int .u64 0, .int .u64 0, .int .i64 0, .int .i64 0] 43)) := (Below.refl _ _).alloc (Nat.le_refl _) _
  have hp2 : PI (W1.alloc (.cells #[.int .i64 1, .int .u64 (wd p 0 64 : Nat), .int .u64 (wd p 64 64 : Nat), .int .u64 (wd p 128 64 : Nat), .int .u64 (wd p 192 64 : Nat), .int .i64 0, .int .i64 0, .int .i64 6, .int .u64 0, .int .u64 0, .int .u64 0, .int .u64 0, .int .i64 0, .int .i64 0] 43)) 0 (qB p) (.slice (some ⟨W1.heap.size, 0, none⟩) 2 2) := ⟨_, 2, rfl, Nat.le_refl _, .inr ⟨W1.heap.size, 0, rfl, Nat.zero_le _, by simp, fun k hk j hj => by
    rw [Nat.zero_add, cell_of_row _ W1.heap.size (k * 7 + j) _ _ _ hx2]
    have e : rowsI (qB p) = [.int .i64 1, .int .u64 (wd p 0 64 : Nat), .int .u64 (wd p 64 64 : Nat), .int .u64 (wd p 128 64 : Nat), .int .u64 (wd p 192 64 : Nat), .int .i64 0, .int .i64 0, .int .i64 6, .int .u64 0, .int .u64 0, .int .u64 0, .int .u64 0, .int .i64 0, .int .i64 0] := by
      unfold qB
      rw [show rowsI [(⟨1, p, 0, 0⟩ : IN), ⟨6, noSet, 0, 0⟩] = rowI ⟨1, p, 0, 0⟩ ++ rowI ⟨6, noSet, 0, 0⟩ by simp [rowsI], rowI_lit]
      rfl
    rw [← rowsI_get (qB p) k hk j hj, e]
    simp⟩⟩
  generalize hW2 : W1.alloc (.cells #[.int .i64 1, .int .u64 (wd p 0 64 : Nat), .int .u64 (wd p 64 64 : Nat), .int .u64 (wd p 128 64 : Nat), .int .u64 (wd p 192 64 : Nat), .int .i64 0, .int .i64 0, .int .i64 6, .int .u64 0, .int .u64 0, .int .u64 0, .int .u64 0, .int .i64 0, .int .i64 0] 43) = W2 at *
  have hx3 := heap_alloc_new W2 (.cells #[.slice (some ⟨W1.heap.size, 0, none⟩) 2 2, .bool false] 24)
  have hb3 : Below W2.heap.size W2 (W2.alloc (.cells #[.slice (some ⟨W1.heap.size, 0, none⟩) 2 2, .bool false] 24)) := (Below.refl _ _).alloc (Nat.le_refl _) _
  have hz2 : W2.heap.size = W1.heap.size + 1 := by rw [← hW2]; simp
  generalize hW3 : W2.alloc (.cells #[.slice (some ⟨W1.heap.size, 0, none⟩) 2 2, .bool false] 24) = W3 at *
  rw [hz2] at hx3
  obtain ⟨R, hR⟩ : ∃ R, W1.heap.size + 1 = R := ⟨_, rfl⟩
  rw [hR] at hx3
  rw [hR]
  have hl3 : R < W3.heap.size := (Array.getElem?_eq_some_iff.1 hx3).1
  have HX3 := Lib.hid hx3
  have hb13 := hb2.trans (hb3.mono hb2.size)
  have HB3 : Hid (Below w.heap.size w W3) := Lib.hid (HB1.out.trans (hb13.mono HB1.out.size))
  have HP3 : Hid (PI W3 0 (qB p) (.slice (some ⟨W1.heap.size, 0, none⟩) 2 2)) := Lib.hid (hp2.below hb3)
  have HC3 : Hid (W3.heap[w.heap.size]? = some (.cells #[.int .u64 (wd p 0 64 : Nat), .int .u64 (wd p 64 64 : Nat), .int .u64 (wd p 128 64 : Nat), .int .u64 (wd p 192 64 : Nat)] 41 (0, 0))) := Lib.hid ((hb13.block w.heap.size hl1).trans HX1.out)
  have q0 := cell_of_row W3 R 0 _ _ _ hx3
  have q1 := cell_of_row W3 R 1 _ _ _ hx3
  have hlw3 : w.heap.size < W3.heap.size := (Array.getElem?_eq_some_iff.1 HC3.out).1
  clear s0 s1 s2 s3 hx2 hb2 hp2 hW2 hx3 hb3 hz2 hW3 hb13 hl1
  have HVal : Hid (∀ W, Below W3.heap.size W3 W → Calls Tryd.prog 16 #[.agg #[.slice (some ⟨W1.heap.size, 0, none⟩) 2 2, .bool false]] W fun e w' => e = .returned (.bool true) ∧ Below W.heap.size W w') := Lib.hid (fun W hb => rvalid_any (qB p) _ 0 false W (HP3.out.below hb) (by show 2 ≤ 9223372036854775807; decide))
  by_cases h24 : 24 < s.size
  · have h24I : (24 : Int) < (s.size : Int) := by omega
    clear q0 q1
    go_wp2_with (first
      | (go_at_call 9; (with_reducible refine (HAw.out _ (HK.out.below HB3.out)).mono ?_); rintro e w9 ⟨rfl, hb9⟩; have HB9 := Lib.hid hb9; clear hb9))
    go_ret
    exact ⟨rfl, HB3.out.trans (HB9.out.mono HB3.out.size)⟩
  have h24I : ¬ ((24 : Int) < (s.size : Int)) := by omega
  have hs24 : (s.size : Int) ≤ 24 := by omega
  have HL := Lib.hid (fun (W : World) hp hk => (longestx_any (qB p) (.slice (some ⟨W1.heap.size, 0, none⟩) 2 2) 0 false s a W hp hk (by omega)))
  go_upto_region 5 with (first
    | (go_at_call 16; (with_reducible refine (HVal.out _ (Below.refl _ _)).mono ?_); rintro e w4 ⟨rfl, hb4⟩
       have HB4 := Lib.hid hb4
       have hx4 := (hb4.block R hl3).trans HX3.out
       clear q0 q1
       have q0 := cell_of_row w4 R 0 _ _ _ hx4
       have q1 := cell_of_row w4 R 1 _ _ _ hx4
       have hl4 : R < w4.heap.size := by have := hb4.size; omega
       clear hb4 hx4)
    | (go_at_call 15; (refine (HL.out _ (HP3.out.below HB4.out) (HK.out.below (HB3.out.trans (HB4.out.mono HB3.out.size)))).mono ?_); rintro e w5 ⟨⟨te, ok, rfl, hl5⟩, hb5⟩
       have hb6 := HB4.out.trans (hb5.mono HB4.out.size)
       have HB5 := Lib.hid hb6
       have HSp := Lib.hid hl5
       have hc5 := (hb6.block w.heap.size hlw3).trans HC3.out
       clear q0 q1
       have s0 := cell_of_row w5 w.heap.size 0 _ _ _ hc5
       have s1 := cell_of_row w5 w.heap.size 1 _ _ _ hc5
       have s2 := cell_of_row w5 w.heap.size 2 _ _ _ hc5
       have s3 := cell_of_row w5 w.heap.size 3 _ _ _ hc5
       have hl5b : w.heap.size < w5.heap.size := (Array.getElem?_eq_some_iff.1 hc5).1
       have HC5 := Lib.hid hc5
       clear hl5 hb5 hb6 hc5))
  have HB6 : Hid (Below w.heap.size w w5) := Lib.hid (HB3.out.trans (HB5.out.mono HB3.out.size))
  by_cases hin : 0 ≤ a ∧ a < (s.size : Int)
  · obtain ⟨h0, h1⟩ := hin
    obtain ⟨n, rfl⟩ : ∃ n : Nat, a = (n : Int) := ⟨a.toNat, by omega⟩
    obtain ⟨c, hc⟩ : ∃ c, s.data.toList[n]? = some c := ⟨_, List.getElem?_eq_getElem (by rw [lb_len]; omega)⟩
    have ix := idx_lb s n c hc (n : Int) rfl
    have HHs : Hid (∀ W, Calls Tryd.prog 17 #[.agg #[.int .u64 (wd p 0 64 : Nat), .int .u64 (wd p 64 64 : Nat), .int .u64 (wd p 128 64 : Nat), .int .u64 (wd p 192 64 : Nat)], .int .u8 (c.toNat : Int)] W fun e w' => e = .returned (.bool (p c.toNat)) ∧ Below W.heap.size W w') := Lib.hid (fun W => rhas_any p c.toNat (by have := c.toNat_lt; omega) W)
    have hok : ok = p c.toNat ∧ (ok = true → te = n + 1) := by
      cases ok with
      | true =>
        obtain ⟨m, c', e1, e2, e3, e4⟩ := bytes_yes HSp.out
        obtain rfl : n = m := by omega
        rw [hc] at e2
        cases e2
        exact ⟨e3.symm, fun _ => e4⟩
      | false => exact ⟨(bytes_no HSp.out n c rfl hc).symm, fun h => by cases h⟩
    obtain ⟨hok1, hok2⟩ := hok
    rw [← hok1] at HHs
    have HO2 := Lib.hid hok2
    clear hok1 hok2 hc
    have HFin : Hid (∀ (w7 : World), Below w.heap.size w w7 → KT w7) := Lib.hid (fun w7 h => HK.out.below h)
    have HS5 : Hid (SB w p w5) := Lib.hid ⟨⟨s0, s1, s2, s3⟩, hl5b, HB6.out⟩
    go_region_held3 (fun w' => SB w p w')
      (first | exact HS5.out | exact SB.keep (Below.drew (Below.refl _ _)) HS5.out | exact SB.keep hb ‹_›)
      (first
        | (go_at_call 17; (with_reducible refine (HHs.out _).mono ?_); rintro e w6 ⟨rfl, hb⟩; skip))
    rename_i hS0
    have HB7 := Lib.hid hS0.2.2
    clear hS0 s0 s1 s2 s3
    cases ok with
    | true =>
      have hte := HO2.out rfl
      subst hte
      have hT : ((((n + 1 : Nat) : Int)) == (n : Int) + 1) = true := by simp
      go_wp2_with (first
        | (go_at_call 9; (with_reducible refine (HAw.out _ (HFin.out _ HB7.out)).mono ?_); rintro e w9 ⟨rfl, hb9⟩; have HB9 := Lib.hid hb9; clear hb9))
      go_ret
      exact ⟨rfl, HB7.out.trans (HB9.out.mono HB7.out.size)⟩
    | false =>
      go_wp2_with (first
        | (go_at_call 9; (with_reducible refine (HAw.out _ (HFin.out _ HB7.out)).mono ?_); rintro e w9 ⟨rfl, hb9⟩; have HB9 := Lib.hid hb9; clear hb9))
      go_ret
      exact ⟨rfl, HB7.out.trans (HB9.out.mono HB7.out.size)⟩
  · obtain rfl : ok = false := by
      cases ok with
      | false => rfl
      | true =>
        obtain ⟨m, c', e1, e2, e3, e4⟩ := bytes_yes HSp.out
        have := (List.getElem?_eq_some_iff.1 e2).1
        rw [lb_len] at this
        exact absurd ⟨by omega, by omega⟩ hin
    by_cases h0 : 0 ≤ a
    · have h1 : ¬ (a < (s.size : Int)) := fun h => hin ⟨h0, h⟩
      clear hin
      go_quiet (fail)
      have HB8 := Lib.hid (below_drewN HB6.out nq)
      clear s0 s1 s2 s3
      all_goals (go_wp2_with (first
        | (go_at_call 9; (with_reducible refine (HAw.out _ (HK.out.below HB8.out)).mono ?_); rintro e w9 ⟨rfl, hb9⟩; have HB9 := Lib.hid hb9; clear hb9)))
      all_goals go_ret
      all_goals exact ⟨rfl, HB8.out.trans (HB9.out.mono HB8.out.size)⟩
    · clear hin
      go_quiet (fail)
      have HB8 := Lib.hid (below_drewN HB6.out nq)
      clear s0 s1 s2 s3
      all_goals (go_wp2_with (first
        | (go_at_call 9; (with_reducible refine (HAw.out _ (HK.out.below HB8.out)).mono ?_); rintro e w9 ⟨rfl, hb9⟩; have HB9 := Lib.hid hb9; clear hb9)))
      all_goals go_ret
      all_goals exact ⟨rfl, HB8.out.trans (HB9.out.mono HB8.out.size)⟩
end Go.Proofs.YtfgcnknmiclfnaaDoor
set_option linter.unusedVariables false
set_option maxRecDepth 100000
namespace Go.Proofs.YtfgcnknmiclfnaaDoor
open Go.ChangeShapes Go.WideShapes Go.ChangeAt Go.RowKit
theorem witness_rowS {H : Type} {enc : TypeId × Value → H} {C : Checked} {os : Os} {f : FuncId} {fn : Func} {s : OpenSpec} {conds : List PathCond} {apart : Bool} {laid : List (String × DataW Unit)} (modest : Bool) (w0 : World) (args : Array Value) (hos : w0.os = os)
    (hsh : (w0.forCall (fun _ _ => 0) ⟨#[], args, []⟩).Shaped C.prog)
    (hok : Input.okWideB C.prog (w0.forCall (fun _ _ => 0) ⟨#[], args, []⟩) f ⟨#[], args, []⟩ = true)
    (hrow : s.preRow enc C.prog fn conds apart laid (w0.forCall (fun _ _ => 0) ⟨#[], args, []⟩).memory args) :
    ∃ (w : World) (tape : Tape) (i : Input), w.os = os ∧ (w.forCall tape i).Shaped C.prog ∧ i.vars = [] ∧ Input.okWide C.prog (w.forCall tape i) .any w.heap.size f i ∧
      s.preRow enc C.prog fn conds apart laid (w.forCall tape i).memory i.args ∧ ({ modest := modest } : Assume).holds C.prog (lone (Frame.enter C.prog f i.args .normal) [] (w.forCall tape i)) :=
  ⟨w0, fun _ _ => 0, ⟨#[], args, []⟩, hos, hsh, (Input.okWide_of_okWideB (base := 0) hok).1, (Input.okWide_of_okWideB hok).2, hrow, by
    simp only [Assume.holds]
    exact ⟨by simp, by simp, fun _ => Modest.zero, by simp, by simp⟩⟩
theorem add_off (b o j : Nat) : (⟨b, o, none⟩ : Addr).add j = ⟨b, o + j, none⟩ := by unfold Addr.add; split <;> simp_all
namespace Tree
theorem cells_cs : Tryd.prog.cellsOf 41 = 4 := by kernel_rfl
theorem cells_arr : Tryd.prog.cellsOf 39 = 4 := by kernel_rfl
theorem cells_wd : Tryd.prog.cellsOf 38 = 1 := by kernel_rfl
theorem cells_int : Tryd.prog.cellsOf 3 = 1 := by kernel_rfl
theorem fieldsS : ∃ f0 : Field, Tryd.prog.underlying 41 = some (.struct #[f0]) ∧ f0.type = 39 ∧ f0.offset = 0 := ⟨_, Tryd.underlying41, rfl, rfl⟩
theorem word_nat (x : Int) (h : (Lit.int .u64 x).wf = true) : ∃ n : Nat, x = (n : Int) ∧ n < 2 ^ 64 := by
  have hb := bounds_u64 h
  exact ⟨x.toNat, by omega, by omega⟩
section
variable {H : Type} {enc : TypeId × Value → H} {W : World} {base : Nat} {sp : Nat → Bool} {hd : Bool}
theorem open_words {fuel : Nat} {c0 c1 c2 c3 : Value} {y : DataW H × List MemPlace} (h : DataW.trod enc Tryd.prog W base sp hd fuel 41 [c0, c1, c2, c3] = some y) : ∃ P : Nat → Bool, [c0, c1, c2, c3] = (cl P).toList := by
  obtain ⟨f0, hu, hft, hfo⟩ := fieldsS
  obtain ⟨y0, n, _, hl, hy⟩ := trod_struct1 hu h
  rw [hft, hfo, cells_arr] at hy
  have hy' : DataW.trod enc Tryd.prog W base sp hd n 39 [c0, c1, c2, c3] = some y0 := hy
  obtain ⟨z0, z1, z2, z3, m, hz, h0, h1, h2, h3⟩ := trod_array4 Tryd.underlying39 cells_wd hy'
  obtain ⟨x0, e0, rfl, w0⟩ := DataW.trod_int Tryd.underlying38 h0
  obtain ⟨x1, e1, rfl, w1⟩ := DataW.trod_int Tryd.underlying38 h1
  obtain ⟨x2, e2, rfl, w2⟩ := DataW.trod_int Tryd.underlying38 h2
  obtain ⟨x3, e3, rfl, w3⟩ := DataW.trod_int Tryd.underlying38 h3
  simp at e0 e1 e2 e3
  subst e0 e1 e2 e3
  obtain ⟨n0, rfl, l0⟩ := word_nat x0 w0
  obtain ⟨n1, rfl, l1⟩ := word_nat x1 w1
  obtain ⟨n2, rfl, l2⟩ := word_nat x2 w2
  obtain ⟨n3, rfl, l3⟩ := word_nat x3 w3
  refine ⟨toP n0 n1 n2 n3, ?_⟩
  unfold cl
  rw [toP0 n0 n1 n2 n3 l0, toP1 n0 n1 n2 n3 l1, toP2 n0 n1 n2 n3 l2, toP3 n0 n1 n2 n3 l3]
theorem elem_cell {b off k j : Nat} {cs : List Value} (h : W.cells? base ((⟨b, off, none⟩ : Addr).add (j * k)) k = some cs) (i : Nat) (hi : i < k) : W.cell? ⟨b, off + j * k + i, none⟩ = cs[i]? := by
  have h2 := (World.cells?_some h).2.2 i hi
  rwa [add_off, add_off] at h2
theorem elem_spot {a : Addr} {k : Nat} {cs : List Value} (hk : 0 < k) (h : W.cells? base (a.add (0 * k)) k = some cs) : a = ⟨a.block, a.off, none⟩ ∧ a.block < W.heap.size := by
  obtain ⟨_, hl, hc⟩ := World.cells?_some h
  have h0 := hc 0 hk
  have hlt : 0 < cs.length := by omega
  rw [List.getElem?_eq_getElem hlt] at h0
  have e : (a.add (0 * k)).add 0 = a := by simp [Addr.add]
  rw [e] at h0
  have hs := World.cell?_spot h0
  refine ⟨?_, World.block_lt_of_cell? W _ h0⟩
  obtain ⟨b, o, s⟩ := a
  simp only at hs
  rw [hs]
end
end Tree
end Go.Proofs.YtfgcnknmiclfnaaDoor
set_option linter.unusedVariables false
set_option maxRecDepth 100000
namespace Go.Proofs.YtfgcnknmiclfnaaDoor
open Go.ChangeShapes Go.WideShapes Go.ChangeAt Go.RowKit
def kdName : String := Rows.resimBytesRow.named.headD ""
def laidK : List (String × DataW Unit) := [(kdName, Rows.laid_texttools_reprog_kinds)]
theorem gKd : Tryd.prog.globalNamed kdName = some 0 := by kernel_rfl
theorem tKd : (Tryd.prog.globals[0]?).map (·.type) = some 119 := by kernel_rfl
theorem kd_laid : (Rows.laid_texttools_reprog_kinds : DataW Unit) = .agg ((List.range 6).map fun i => .agg [.lit (.string (kwd (i + 1 : Nat))), .lit (.int .i64 (ktg (i + 1 : Nat) : Nat)), .lit (.bool (kgo (i + 1 : Nat)))]) := rfl
theorem cells_kd : Tryd.prog.cellsOf 98 = 3 := by kernel_rfl
theorem cells_kstr : Tryd.prog.cellsOf 9 = 1 := by kernel_rfl
theorem cells_kint : Tryd.prog.cellsOf 3 = 1 := by kernel_rfl
theorem cells_kbool : Tryd.prog.cellsOf 4 = 1 := by kernel_rfl
theorem fields_kd : ∃ f0 f1 f2 : Field, Tryd.prog.underlying 98 = some (.struct #[f0, f1, f2]) ∧ (f0.type = 9 ∧ f0.offset = 0) ∧ (f1.type = 3 ∧ f1.offset = 1) ∧ f2.type = 4 ∧ f2.offset = 2 := ⟨_, _, _, Tryd.underlying98, ⟨rfl, rfl⟩, ⟨rfl, rfl⟩, rfl, rfl⟩
theorem bs_of (s : ByteArray) (l : List UInt8) (h : s.data.toList = l) : s = bs l := by
  subst h
  rfl
theorem kind_cells {W : World} {cs : Array Value} {H : Type} {enc : TypeId × Value → H} {base : Nat} {sp : Nat → Bool} {hd' : Bool} {fuel : Nat} {p : List MemPlace}
    (hd : DataW.trod enc Tryd.prog W base sp hd' fuel 119 cs.toList = some (.agg ((List.range 6).map fun i => .agg [.lit (.string (kwd (i + 1 : Nat))), .lit (.int .i64 (ktg (i + 1 : Nat) : Nat)), .lit (.bool (kgo (i + 1 : Nat)))]), p)) :
    ∀ (j : Nat) v, kindCells[j]? = some v → cs[j]? = some v := by
  obtain ⟨xs, m, _, hx, hl, hn, hel⟩ := DataW.trod_array Tryd.underlying119 hd
  rw [cells_kd] at hel
  have hxs : xs.map (·.1) = (List.range 6).map fun i => DataW.agg [.lit (.string (kwd (i + 1 : Nat))), .lit (.int .i64 (ktg (i + 1 : Nat) : Nat)), .lit (.bool (kgo (i + 1 : Nat)))] := by
    have := congrArg Prod.fst hx
    simp only [DataW.agg.injEq] at this
    exact this.symm
  have key : ∀ i, i < 6 → cs[3 * i]? = some (.string (bs (kwd (i + 1 : Nat)))) ∧ cs[3 * i + 1]? = some (.int .i64 (ktg (i + 1 : Nat) : Nat)) ∧ cs[3 * i + 2]? = some (.bool (kgo (i + 1 : Nat))) := by
    intro i hi
    obtain ⟨f0, f1, f2, hu, ⟨ht0, ho0⟩, ⟨ht1, ho1⟩, ht2, ho2⟩ := fields_kd
    have hy := hel i hi
    have hxi : i < xs.length := by omega
    rw [List.getElem?_eq_getElem hxi] at hy
    have h1 : (xs.map (·.1))[i]? = some (xs[i]).1 := by rw [List.getElem?_map, List.getElem?_eq_getElem hxi]; rfl
    rw [hxs, List.getElem?_map, List.getElem?_range hi] at h1
    simp only [Option.map_some, Option.some.injEq] at h1
    obtain ⟨y0, y1, y2, k, hyx, hlen, t0, t1, t2⟩ := Deep.trod_struct3 hu hy
    rw [ht0, ho0, cells_kstr] at t0
    rw [ht1, ho1, cells_kint] at t1
    rw [ht2, ho2, cells_kbool] at t2
    obtain ⟨s0, e0, rfl, _⟩ := DataW.trod_string Tryd.underlying9 t0
    obtain ⟨z1, e1, rfl, _⟩ := DataW.trod_int Tryd.underlying3 t1
    obtain ⟨b2, e2, rfl, _⟩ := DataW.trod_bool Tryd.underlying4 t2
    rw [hyx] at h1
    simp only [DataW.agg.injEq, List.cons.injEq, DataW.lit.injEq, Lit.string.injEq, Lit.int.injEq, Lit.bool.injEq, and_true, true_and] at h1
    obtain ⟨h2, h3, h4⟩ := h1
    have g0 := congrArg (fun l => l[0]?) e0
    have g1 := congrArg (fun l => l[0]?) e1
    have g2 := congrArg (fun l => l[0]?) e2
    simp only [List.getElem?_take, List.getElem?_drop, List.getElem?_cons_zero, Array.getElem?_toList] at g0 g1 g2
    rw [bs_of s0 _ h2.symm] at g0
    rw [← h3] at g1
    rw [← h4] at g2
    refine ⟨?_, ?_, ?_⟩
    · simpa [Nat.mul_comm] using g0
    · simpa [Nat.mul_comm] using g1
    · simpa [Nat.mul_comm] using g2
  intro j v hj
  have hj18 : j < 18 := by
    have h1 := (List.getElem?_eq_some_iff.1 hj).1
    have h2 : kindCells.length = 18 := rfl
    omega
  have hall : ∀ i, i < 6 → kindCells[3 * i]? = some (.string (bs (kwd (i + 1 : Nat)))) ∧ kindCells[3 * i + 1]? = some (.int .i64 (ktg (i + 1 : Nat) : Nat)) ∧ kindCells[3 * i + 2]? = some (.bool (kgo (i + 1 : Nat))) := by
    intro i hi
    have : i = 0 ∨ i = 1 ∨ i = 2 ∨ i = 3 ∨ i = 4 ∨ i = 5 := by omega
    rcases this with rfl | rfl | rfl | rfl | rfl | rfl <;> exact ⟨rfl, rfl, rfl⟩
  have hm : j % 3 = 0 ∨ j % 3 = 1 ∨ j % 3 = 2 := by omega
  obtain ⟨k0, k1, k2⟩ := key (j / 3) (by omega)
  obtain ⟨l0, l1, l2⟩ := hall (j / 3) (by omega)
  rcases hm with hm | hm | hm
  · have e : 3 * (j / 3) = j := by omega
    rw [e] at k0 l0
    rw [k0, ← l0, hj]
  · have e : 3 * (j / 3) + 1 = j := by omega
    rw [e] at k1 l1
    rw [k1, ← l1, hj]
  · have e : 3 * (j / 3) + 2 = j := by omega
    rw [e] at k2 l2
    rw [k2, ← l2, hj]
theorem kt_of {W : World} (h : laidMetH Tryd.prog laidK W) : KT W := by
  rw [MakeChecks.laidMetH_plain _ _ _ (by kernel_rfl)] at h
  unfold laidK at h
  rw [kd_laid] at h
  obtain ⟨ps, ⟨g', t', cs, fuel, p, q, hg', ht', hvar, hd, _, _⟩, _⟩ := h
  obtain rfl := Option.some.inj (gKd.symm.trans hg')
  obtain rfl := Option.some.inj (tKd.symm.trans ht')
  intro j v hj
  rw [World.var?_cell gKd hvar j]
  exact kind_cells hd j v hj
end Go.Proofs.YtfgcnknmiclfnaaDoor
set_option linter.unusedVariables false
set_option maxRecDepth 100000
namespace Go.Proofs.YtfgcnknmiclfnaaDoor
open Go.ChangeShapes Go.WideShapes Go.ChangeAt Go.RowKit
theorem cells_cs : Tryd.prog.cellsOf 41 = 4 := by kernel_rfl
theorem cells_arr : Tryd.prog.cellsOf 39 = 4 := by kernel_rfl
theorem cells_wd : Tryd.prog.cellsOf 38 = 1 := by kernel_rfl
theorem fields_of : ∃ f0 : Field, Tryd.prog.underlying 41 = some (.struct #[f0]) ∧ f0.type = 39 ∧ f0.offset = 0 := ⟨_, Tryd.underlying41, rfl, rfl⟩
theorem word_nat (x : Int) (h : (Lit.int .u64 x).wf = true) : ∃ n : Nat, x = (n : Int) ∧ n < 2 ^ 64 := by
  have hb := bounds_u64 h
  exact ⟨x.toNat, by omega, by omega⟩
section
variable {H : Type} {enc : TypeId × Value → H} {W : World} {base : Nat}
theorem open_cs {v : Value} {b0 : Nat} {sp : Nat → Bool} {hd : Bool} {d : DataW H} {p : List MemPlace} (hv : Value.okWide Tryd.prog W .any b0 41 v)
    (h : DataW.Trod enc Tryd.prog W base sp hd 41 v d p) : ∃ P : Nat → Bool, v = cs P ∧ p = [] ∧
      d = .agg [.agg [.lit (.int .u64 ((wd P 0 64 : Nat) : Int)), .lit (.int .u64 ((wd P 64 64 : Nat) : Int)), .lit (.int .u64 ((wd P 128 64 : Nat) : Int)), .lit (.int .u64 ((wd P 192 64 : Nat) : Int))]] := by
  obtain ⟨f0, hu, hft, hfo⟩ := fields_of
  obtain ⟨cells, rfl, hsz⟩ := okWide_struct hu hv
  rw [cells_cs] at hsz
  obtain ⟨l⟩ := cells
  obtain ⟨c0, c1, c2, c3, rfl⟩ := list4 l hsz
  obtain ⟨fuel, hf⟩ := h
  obtain ⟨y0, n, hx, hl, hy⟩ := trod_struct1 hu hf
  rw [hft, hfo, cells_arr] at hy
  have hy' : DataW.trod enc Tryd.prog W base sp hd n 39 [c0, c1, c2, c3] = some y0 := hy
  obtain ⟨z0, z1, z2, z3, m, hz, h0, h1, h2, h3⟩ := trod_array4 Tryd.underlying39 cells_wd hy'
  obtain ⟨x0, e0, rfl, w0⟩ := DataW.trod_int Tryd.underlying38 h0
  obtain ⟨x1, e1, rfl, w1⟩ := DataW.trod_int Tryd.underlying38 h1
  obtain ⟨x2, e2, rfl, w2⟩ := DataW.trod_int Tryd.underlying38 h2
  obtain ⟨x3, e3, rfl, w3⟩ := DataW.trod_int Tryd.underlying38 h3
  simp at e0 e1 e2 e3
  subst e0 e1 e2 e3
  subst hz
  simp only [Prod.mk.injEq] at hx
  obtain ⟨rfl, rfl⟩ := hx
  obtain ⟨n0, rfl, l0⟩ := word_nat x0 w0
  obtain ⟨n1, rfl, l1⟩ := word_nat x1 w1
  obtain ⟨n2, rfl, l2⟩ := word_nat x2 w2
  obtain ⟨n3, rfl, l3⟩ := word_nat x3 w3
  refine ⟨toP n0 n1 n2 n3, ?_, by simp, ?_⟩
  · unfold cs cl
    rw [toP0 n0 n1 n2 n3 l0, toP1 n0 n1 n2 n3 l1, toP2 n0 n1 n2 n3 l2, toP3 n0 n1 n2 n3 l3]
  · rw [toP0 n0 n1 n2 n3 l0, toP1 n0 n1 n2 n3 l1, toP2 n0 n1 n2 n3 l2, toP3 n0 n1 n2 n3 l3]
theorem wf_word (n : Nat) (h : n < 18446744073709551616) : (Lit.int .u64 (n : Int)).wf = true := by
  have : IntKind.u64.wrap (n : Int) = (n : Int) := by rw [IntKind.wrap_u64]; omega
  rw [← this]
  exact wf_wrap _ _
theorem shut_cs {sp : Nat → Bool} {hd : Bool} (P : Nat → Bool) : DataW.Trod enc Tryd.prog W base sp hd 41 (cs P)
      (.agg [.agg [.lit (.int .u64 ((wd P 0 64 : Nat) : Int)), .lit (.int .u64 ((wd P 64 64 : Nat) : Int)), .lit (.int .u64 ((wd P 128 64 : Nat) : Int)), .lit (.int .u64 ((wd P 192 64 : Nat) : Int))]]) [] := by
  obtain ⟨f0, hu, hft, hfo⟩ := fields_of
  have w0 := wf_word _ (wd_lt64 P 0)
  have w1 := wf_word _ (wd_lt64 P 64)
  have w2 := wf_word _ (wd_lt64 P 128)
  have w3 := wf_word _ (wd_lt64 P 192)
  refine ⟨3, ?_⟩
  have ha : DataW.trod enc Tryd.prog W base sp hd 2 39 [.int .u64 ((wd P 0 64 : Nat) : Int), .int .u64 ((wd P 64 64 : Nat) : Int), .int .u64 ((wd P 128 64 : Nat) : Int), .int .u64 ((wd P 192 64 : Nat) : Int)] =
      some (.agg [.lit (.int .u64 ((wd P 0 64 : Nat) : Int)), .lit (.int .u64 ((wd P 64 64 : Nat) : Int)), .lit (.int .u64 ((wd P 128 64 : Nat) : Int)), .lit (.int .u64 ((wd P 192 64 : Nat) : Int))], []) := by
    simp [DataW.trod, Tryd.underlying39, Tryd.underlying38, cells_arr, cells_wd, w0, w1, w2, w3, show List.range 4 = [0, 1, 2, 3] from rfl]
  have := trod_struct1_mk (enc := enc) (w := W) (base := base) (spare := sp) (held := hd) (n := 2) (cs := [.int .u64 ((wd P 0 64 : Nat) : Int), .int .u64 ((wd P 64 64 : Nat) : Int), .int .u64 ((wd P 128 64 : Nat) : Int), .int .u64 ((wd P 192 64 : Nat) : Int)]) hu (by rw [cells_cs]; rfl) (by rw [hft, hfo, cells_arr]; exact ha)
  exact this
end
end Go.Proofs.YtfgcnknmiclfnaaDoor
