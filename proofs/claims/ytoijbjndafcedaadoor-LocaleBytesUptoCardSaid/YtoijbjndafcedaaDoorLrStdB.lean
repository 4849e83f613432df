/- The reference's standard classes, the others. (Written by gen_lrstd.py.) -/
import Derived.Test.YtoijbjndafcedaaDoorRows
import Derived.Test.YtoijbjndafcedaaDoorLrStdA
set_option linter.unusedVariables false
namespace Go.Proofs.YtoijbjndafcedaaDoor
open Go.RowKit

set_option maxRecDepth 100000 in
set_option maxHeartbeats 8000000 in
theorem std_7 (n : ByteArray) (w : World) (e0 : (n.toList == ([97, 108, 112, 104, 97] : List UInt8)) = false) (e1 : (n.toList == ([100, 105, 103, 105, 116] : List UInt8)) = false) (e2 : (n.toList == ([97, 108, 110, 117, 109] : List UInt8)) = false) (e3 : (n.toList == ([117, 112, 112, 101, 114] : List UInt8)) = false) (e4 : (n.toList == ([108, 111, 119, 101, 114] : List UInt8)) = false) (e5 : (n.toList == ([120, 100, 105, 103, 105, 116] : List UInt8)) = false) (e6 : (n.toList == ([98, 108, 97, 110, 107] : List UInt8)) = false) (e7 : (n.toList == ([115, 112, 97, 99, 101] : List UInt8)) = true) :
    Calls Tryd.prog 59 #[.string n] w fun e w' => e = .returned (.tuple #[cs (fun c => setOf [32] c || between 9 13 c), .bool true]) ∧ Below w.heap.size w w' := by
  have HB : Hid (Below w.heap.size w (w.alloc (.cells #[.int .u64 0, .int .u64 0, .int .u64 0, .int .u64 0] 43))) := (Below.refl _ _).alloc (Nat.le_refl _) _
  have HA : Hid (At (w.alloc (.cells #[.int .u64 0, .int .u64 0, .int .u64 0, .int .u64 0] 43)) w.heap.size (fun _ => false)) := by
    show At _ _ _
    rw [cl_zero]
    exact At.new w _
  have HRu : Hid (∀ w, Calls Tryd.prog 79 #[.int .u8 65, .int .u8 90] w fun e w' => e = .returned (cs (between 65 90)) ∧ Below w.heap.size w w') := rrange_any 65 90 (by decide) (by decide)
  have HRl : Hid (∀ w, Calls Tryd.prog 79 #[.int .u8 97, .int .u8 122] w fun e w' => e = .returned (cs (between 97 122)) ∧ Below w.heap.size w w') := rrange_any 97 122 (by decide) (by decide)
  have HRd : Hid (∀ w, Calls Tryd.prog 79 #[.int .u8 48, .int .u8 57] w fun e w' => e = .returned (cs (between 48 57)) ∧ Below w.heap.size w w') := rrange_any 48 57 (by decide) (by decide)
  have HU1 := Lib.hid (runion_any (between 65 90) (between 97 122))
  have HU2 := Lib.hid (runion_any (fun c => between 65 90 c || between 97 122 c) (between 48 57))
  have HX1 := Lib.hid (rof_any ⟨#[32]⟩ (by decide))
  have HX2 : Hid (∀ w, Calls Tryd.prog 79 #[.int .u8 9, .int .u8 13] w fun e w' => e = .returned (cs (between 9 13)) ∧ Below w.heap.size w w') := rrange_any 9 13 (by decide) (by decide)
  have HX3 := Lib.hid (runion_any (setOf [32]) (between 9 13))
  unfold cs cl at HRu HRl HRd HU1 HU2 HX1 HX2 HX3
  go_enter Tryd.func59, Tryd.ntmps59
  go_wp2_with (first
    | (go_at_call 79; with_reducible refine (HRu.out _).mono ?_; rintro e w1 ⟨rfl, hb⟩; have HB1 := Lib.hid (HB.out.trans (hb.mono HB.out.size)); have HA1 := Lib.hid (HA.out.below hb HA.out.lt); clear hb)
    | (go_at_call 79; with_reducible refine (HRl.out _).mono ?_; rintro e w2 ⟨rfl, hb⟩; have HB2 := Lib.hid (HB1.out.trans (hb.mono HB1.out.size)); have HA2 := Lib.hid (HA1.out.below hb HA1.out.lt); clear hb)
    | (go_at_call 79; with_reducible refine (HRd.out _).mono ?_; rintro e w3 ⟨rfl, hb⟩; have HB3 := Lib.hid (HB2.out.trans (hb.mono HB2.out.size)); have HA3 := Lib.hid (HA2.out.below hb HA2.out.lt); have HB3a : Hid (Below w.heap.size w (((w3.alloc (.cells (cl (between 65 90)) 43)).alloc (.cells (cl (between 97 122)) 43)).alloc (.cells (cl (between 48 57)) 43))) := Lib.hid (((HB3.out.alloc HB3.out.size _).alloc (by simp; have := HB3.out.size; omega) _).alloc (by simp; have := HB3.out.size; omega) _); have HA3a := Lib.hid (((HA3.out.alloc (.cells (cl (between 65 90)) 43)).alloc (.cells (cl (between 97 122)) 43)).alloc (.cells (cl (between 48 57)) 43)); have HU3 := Lib.hid (up3 w3); have HL3 := Lib.hid (lo3 w3); have HD3 := Lib.hid (di3 w3); clear hb)
    | (go_at_call 33; with_reducible refine (HU1.out _).mono ?_; rintro e w4 ⟨rfl, hb⟩; have HB4 : Hid (Below w.heap.size w (w4.alloc (.cells (cl (fun c => between 65 90 c || between 97 122 c)) 43))) := Lib.hid ((HB3a.out.trans (hb.mono HB3a.out.size)).alloc ((HB3a.out.trans (hb.mono HB3a.out.size)).size) _); have HA4 := Lib.hid ((HA3a.out.below hb HA3a.out.lt).alloc (.cells (cl (fun c => between 65 90 c || between 97 122 c)) 43)); have HU4 := Lib.hid ((HU3.out.below hb HU3.out.lt).alloc (.cells (cl (fun c => between 65 90 c || between 97 122 c)) 43)); have HL4 := Lib.hid ((HL3.out.below hb HL3.out.lt).alloc (.cells (cl (fun c => between 65 90 c || between 97 122 c)) 43)); have HD4 := Lib.hid ((HD3.out.below hb HD3.out.lt).alloc (.cells (cl (fun c => between 65 90 c || between 97 122 c)) 43)); have HP4 := Lib.hid (At.new w4 (fun c => between 65 90 c || between 97 122 c)); have q := HD4.out.words; unfold cl at q; obtain ⟨⟨q0, q1⟩, ⟨q2, q3⟩, q4⟩ := q; clear hb)
    | (go_at_call 33; with_reducible refine (HU2.out _).mono ?_; rintro e w5 ⟨rfl, hb⟩; have HB5 : Hid (Below w.heap.size w (w5.alloc (.cells (cl (fun c => (between 65 90 c || between 97 122 c) || between 48 57 c)) 43))) := Lib.hid ((HB4.out.trans (hb.mono HB4.out.size)).alloc ((HB4.out.trans (hb.mono HB4.out.size)).size) _); have HA5 := Lib.hid ((HA4.out.below hb HA4.out.lt).alloc (.cells (cl (fun c => (between 65 90 c || between 97 122 c) || between 48 57 c)) 43)); have r := HA5.out.words; unfold cl at r; obtain ⟨⟨r0, r1⟩, ⟨r2, r3⟩, r4⟩ := r; clear hb)
    | (go_at_call 46; refine (HX1.out _).mono ?_; rintro e w6 ⟨rfl, hb⟩; have HB6 := Lib.hid (HB5.out.trans (hb.mono HB5.out.size)); have HA6 := Lib.hid (HA5.out.below hb HA5.out.lt); clear hb)
    | (go_at_call 79; with_reducible refine (HX2.out _).mono ?_; rintro e w7 ⟨rfl, hb⟩; have HB7 := Lib.hid (HB6.out.trans (hb.mono HB6.out.size)); have HA7 := Lib.hid (HA6.out.below hb HA6.out.lt); clear hb)
    | (go_at_call 33; with_reducible refine (HX3.out _).mono ?_; rintro e w8 ⟨rfl, hb⟩; have HB8 := Lib.hid (HB7.out.trans (hb.mono HB7.out.size)); have HA8 := Lib.hid (HA7.out.below hb HA7.out.lt); have r := HA8.out.words; obtain ⟨⟨x0, x1⟩, ⟨x2, x3⟩, x4⟩ := r; clear hb))
  exact bodyPost_ret (ret_cs2 Tryd.results59 _ _ w.heap.size (fun c => setOf [32] c || between 9 13 c) (.bool true) (by simp) (by simp) (HA8.out.put4 _)) rfl ⟨rfl, below_put4 HB8.out _ (Nat.le_refl _) _⟩

set_option maxRecDepth 100000 in
set_option maxHeartbeats 8000000 in
theorem std_8 (n : ByteArray) (w : World) (e0 : (n.toList == ([97, 108, 112, 104, 97] : List UInt8)) = false) (e1 : (n.toList == ([100, 105, 103, 105, 116] : List UInt8)) = false) (e2 : (n.toList == ([97, 108, 110, 117, 109] : List UInt8)) = false) (e3 : (n.toList == ([117, 112, 112, 101, 114] : List UInt8)) = false) (e4 : (n.toList == ([108, 111, 119, 101, 114] : List UInt8)) = false) (e5 : (n.toList == ([120, 100, 105, 103, 105, 116] : List UInt8)) = false) (e6 : (n.toList == ([98, 108, 97, 110, 107] : List UInt8)) = false) (e7 : (n.toList == ([115, 112, 97, 99, 101] : List UInt8)) = false) (e8 : (n.toList == ([99, 110, 116, 114, 108] : List UInt8)) = true) :
    Calls Tryd.prog 59 #[.string n] w fun e w' => e = .returned (.tuple #[cs (fun c => between 0 31 c || between 127 127 c), .bool true]) ∧ Below w.heap.size w w' := by
  have HB : Hid (Below w.heap.size w (w.alloc (.cells #[.int .u64 0, .int .u64 0, .int .u64 0, .int .u64 0] 43))) := (Below.refl _ _).alloc (Nat.le_refl _) _
  have HA : Hid (At (w.alloc (.cells #[.int .u64 0, .int .u64 0, .int .u64 0, .int .u64 0] 43)) w.heap.size (fun _ => false)) := by
    show At _ _ _
    rw [cl_zero]
    exact At.new w _
  have HRu : Hid (∀ w, Calls Tryd.prog 79 #[.int .u8 65, .int .u8 90] w fun e w' => e = .returned (cs (between 65 90)) ∧ Below w.heap.size w w') := rrange_any 65 90 (by decide) (by decide)
  have HRl : Hid (∀ w, Calls Tryd.prog 79 #[.int .u8 97, .int .u8 122] w fun e w' => e = .returned (cs (between 97 122)) ∧ Below w.heap.size w w') := rrange_any 97 122 (by decide) (by decide)
  have HRd : Hid (∀ w, Calls Tryd.prog 79 #[.int .u8 48, .int .u8 57] w fun e w' => e = .returned (cs (between 48 57)) ∧ Below w.heap.size w w') := rrange_any 48 57 (by decide) (by decide)
  have HU1 := Lib.hid (runion_any (between 65 90) (between 97 122))
  have HU2 := Lib.hid (runion_any (fun c => between 65 90 c || between 97 122 c) (between 48 57))
  have HX1 : Hid (∀ w, Calls Tryd.prog 79 #[.int .u8 0, .int .u8 31] w fun e w' => e = .returned (cs (between 0 31)) ∧ Below w.heap.size w w') := rrange_any 0 31 (by decide) (by decide)
  have HX2 : Hid (∀ w, Calls Tryd.prog 79 #[.int .u8 127, .int .u8 127] w fun e w' => e = .returned (cs (between 127 127)) ∧ Below w.heap.size w w') := rrange_any 127 127 (by decide) (by decide)
  have HX3 := Lib.hid (runion_any (between 0 31) (between 127 127))
  unfold cs cl at HRu HRl HRd HU1 HU2 HX1 HX2 HX3
  go_enter Tryd.func59, Tryd.ntmps59
  go_wp2_with (first
    | (go_at_call 79; with_reducible refine (HRu.out _).mono ?_; rintro e w1 ⟨rfl, hb⟩; have HB1 := Lib.hid (HB.out.trans (hb.mono HB.out.size)); have HA1 := Lib.hid (HA.out.below hb HA.out.lt); clear hb)
    | (go_at_call 79; with_reducible refine (HRl.out _).mono ?_; rintro e w2 ⟨rfl, hb⟩; have HB2 := Lib.hid (HB1.out.trans (hb.mono HB1.out.size)); have HA2 := Lib.hid (HA1.out.below hb HA1.out.lt); clear hb)
    | (go_at_call 79; with_reducible refine (HRd.out _).mono ?_; rintro e w3 ⟨rfl, hb⟩; have HB3 := Lib.hid (HB2.out.trans (hb.mono HB2.out.size)); have HA3 := Lib.hid (HA2.out.below hb HA2.out.lt); have HB3a : Hid (Below w.heap.size w (((w3.alloc (.cells (cl (between 65 90)) 43)).alloc (.cells (cl (between 97 122)) 43)).alloc (.cells (cl (between 48 57)) 43))) := Lib.hid (((HB3.out.alloc HB3.out.size _).alloc (by simp; have := HB3.out.size; omega) _).alloc (by simp; have := HB3.out.size; omega) _); have HA3a := Lib.hid (((HA3.out.alloc (.cells (cl (between 65 90)) 43)).alloc (.cells (cl (between 97 122)) 43)).alloc (.cells (cl (between 48 57)) 43)); have HU3 := Lib.hid (up3 w3); have HL3 := Lib.hid (lo3 w3); have HD3 := Lib.hid (di3 w3); clear hb)
    | (go_at_call 33; with_reducible refine (HU1.out _).mono ?_; rintro e w4 ⟨rfl, hb⟩; have HB4 : Hid (Below w.heap.size w (w4.alloc (.cells (cl (fun c => between 65 90 c || between 97 122 c)) 43))) := Lib.hid ((HB3a.out.trans (hb.mono HB3a.out.size)).alloc ((HB3a.out.trans (hb.mono HB3a.out.size)).size) _); have HA4 := Lib.hid ((HA3a.out.below hb HA3a.out.lt).alloc (.cells (cl (fun c => between 65 90 c || between 97 122 c)) 43)); have HU4 := Lib.hid ((HU3.out.below hb HU3.out.lt).alloc (.cells (cl (fun c => between 65 90 c || between 97 122 c)) 43)); have HL4 := Lib.hid ((HL3.out.below hb HL3.out.lt).alloc (.cells (cl (fun c => between 65 90 c || between 97 122 c)) 43)); have HD4 := Lib.hid ((HD3.out.below hb HD3.out.lt).alloc (.cells (cl (fun c => between 65 90 c || between 97 122 c)) 43)); have HP4 := Lib.hid (At.new w4 (fun c => between 65 90 c || between 97 122 c)); have q := HD4.out.words; unfold cl at q; obtain ⟨⟨q0, q1⟩, ⟨q2, q3⟩, q4⟩ := q; clear hb)
    | (go_at_call 33; with_reducible refine (HU2.out _).mono ?_; rintro e w5 ⟨rfl, hb⟩; have HB5 : Hid (Below w.heap.size w (w5.alloc (.cells (cl (fun c => (between 65 90 c || between 97 122 c) || between 48 57 c)) 43))) := Lib.hid ((HB4.out.trans (hb.mono HB4.out.size)).alloc ((HB4.out.trans (hb.mono HB4.out.size)).size) _); have HA5 := Lib.hid ((HA4.out.below hb HA4.out.lt).alloc (.cells (cl (fun c => (between 65 90 c || between 97 122 c) || between 48 57 c)) 43)); have r := HA5.out.words; unfold cl at r; obtain ⟨⟨r0, r1⟩, ⟨r2, r3⟩, r4⟩ := r; clear hb)
    | (go_at_call 79; with_reducible refine (HX1.out _).mono ?_; rintro e w6 ⟨rfl, hb⟩; have HB6 := Lib.hid (HB5.out.trans (hb.mono HB5.out.size)); have HA6 := Lib.hid (HA5.out.below hb HA5.out.lt); clear hb)
    | (go_at_call 79; with_reducible refine (HX2.out _).mono ?_; rintro e w7 ⟨rfl, hb⟩; have HB7 := Lib.hid (HB6.out.trans (hb.mono HB6.out.size)); have HA7 := Lib.hid (HA6.out.below hb HA6.out.lt); clear hb)
    | (go_at_call 33; with_reducible refine (HX3.out _).mono ?_; rintro e w8 ⟨rfl, hb⟩; have HB8 := Lib.hid (HB7.out.trans (hb.mono HB7.out.size)); have HA8 := Lib.hid (HA7.out.below hb HA7.out.lt); have r := HA8.out.words; obtain ⟨⟨x0, x1⟩, ⟨x2, x3⟩, x4⟩ := r; clear hb))
  exact bodyPost_ret (ret_cs2 Tryd.results59 _ _ w.heap.size (fun c => between 0 31 c || between 127 127 c) (.bool true) (by simp) (by simp) (HA8.out.put4 _)) rfl ⟨rfl, below_put4 HB8.out _ (Nat.le_refl _) _⟩

set_option maxRecDepth 100000 in
set_option maxHeartbeats 8000000 in
theorem std_9 (n : ByteArray) (w : World) (e0 : (n.toList == ([97, 108, 112, 104, 97] : List UInt8)) = false) (e1 : (n.toList == ([100, 105, 103, 105, 116] : List UInt8)) = false) (e2 : (n.toList == ([97, 108, 110, 117, 109] : List UInt8)) = false) (e3 : (n.toList == ([117, 112, 112, 101, 114] : List UInt8)) = false) (e4 : (n.toList == ([108, 111, 119, 101, 114] : List UInt8)) = false) (e5 : (n.toList == ([120, 100, 105, 103, 105, 116] : List UInt8)) = false) (e6 : (n.toList == ([98, 108, 97, 110, 107] : List UInt8)) = false) (e7 : (n.toList == ([115, 112, 97, 99, 101] : List UInt8)) = false) (e8 : (n.toList == ([99, 110, 116, 114, 108] : List UInt8)) = false) (e9 : (n.toList == ([103, 114, 97, 112, 104] : List UInt8)) = true) :
    Calls Tryd.prog 59 #[.string n] w fun e w' => e = .returned (.tuple #[cs (between 33 126), .bool true]) ∧ Below w.heap.size w w' := by
  have HB : Hid (Below w.heap.size w (w.alloc (.cells #[.int .u64 0, .int .u64 0, .int .u64 0, .int .u64 0] 43))) := (Below.refl _ _).alloc (Nat.le_refl _) _
  have HA : Hid (At (w.alloc (.cells #[.int .u64 0, .int .u64 0, .int .u64 0, .int .u64 0] 43)) w.heap.size (fun _ => false)) := by
    show At _ _ _
    rw [cl_zero]
    exact At.new w _
  have HRu : Hid (∀ w, Calls Tryd.prog 79 #[.int .u8 65, .int .u8 90] w fun e w' => e = .returned (cs (between 65 90)) ∧ Below w.heap.size w w') := rrange_any 65 90 (by decide) (by decide)
  have HRl : Hid (∀ w, Calls Tryd.prog 79 #[.int .u8 97, .int .u8 122] w fun e w' => e = .returned (cs (between 97 122)) ∧ Below w.heap.size w w') := rrange_any 97 122 (by decide) (by decide)
  have HRd : Hid (∀ w, Calls Tryd.prog 79 #[.int .u8 48, .int .u8 57] w fun e w' => e = .returned (cs (between 48 57)) ∧ Below w.heap.size w w') := rrange_any 48 57 (by decide) (by decide)
  have HU1 := Lib.hid (runion_any (between 65 90) (between 97 122))
  have HU2 := Lib.hid (runion_any (fun c => between 65 90 c || between 97 122 c) (between 48 57))
  have HX1 : Hid (∀ w, Calls Tryd.prog 79 #[.int .u8 33, .int .u8 126] w fun e w' => e = .returned (cs (between 33 126)) ∧ Below w.heap.size w w') := rrange_any 33 126 (by decide) (by decide)
  unfold cs cl at HRu HRl HRd HU1 HU2 HX1
  go_enter Tryd.func59, Tryd.ntmps59
  go_wp2_with (first
    | (go_at_call 79; with_reducible refine (HRu.out _).mono ?_; rintro e w1 ⟨rfl, hb⟩; have HB1 := Lib.hid (HB.out.trans (hb.mono HB.out.size)); have HA1 := Lib.hid (HA.out.below hb HA.out.lt); clear hb)
    | (go_at_call 79; with_reducible refine (HRl.out _).mono ?_; rintro e w2 ⟨rfl, hb⟩; have HB2 := Lib.hid (HB1.out.trans (hb.mono HB1.out.size)); have HA2 := Lib.hid (HA1.out.below hb HA1.out.lt); clear hb)
    | (go_at_call 79; with_reducible refine (HRd.out _).mono ?_; rintro e w3 ⟨rfl, hb⟩; have HB3 := Lib.hid (HB2.out.trans (hb.mono HB2.out.size)); have HA3 := Lib.hid (HA2.out.below hb HA2.out.lt); have HB3a : Hid (Below w.heap.size w (((w3.alloc (.cells (cl (between 65 90)) 43)).alloc (.cells (cl (between 97 122)) 43)).alloc (.cells (cl (between 48 57)) 43))) := Lib.hid (((HB3.out.alloc HB3.out.size _).alloc (by simp; have := HB3.out.size; omega) _).alloc (by simp; have := HB3.out.size; omega) _); have HA3a := Lib.hid (((HA3.out.alloc (.cells (cl (between 65 90)) 43)).alloc (.cells (cl (between 97 122)) 43)).alloc (.cells (cl (between 48 57)) 43)); have HU3 := Lib.hid (up3 w3); have HL3 := Lib.hid (lo3 w3); have HD3 := Lib.hid (di3 w3); clear hb)
    | (go_at_call 33; with_reducible refine (HU1.out _).mono ?_; rintro e w4 ⟨rfl, hb⟩; have HB4 : Hid (Below w.heap.size w (w4.alloc (.cells (cl (fun c => between 65 90 c || between 97 122 c)) 43))) := Lib.hid ((HB3a.out.trans (hb.mono HB3a.out.size)).alloc ((HB3a.out.trans (hb.mono HB3a.out.size)).size) _); have HA4 := Lib.hid ((HA3a.out.below hb HA3a.out.lt).alloc (.cells (cl (fun c => between 65 90 c || between 97 122 c)) 43)); have HU4 := Lib.hid ((HU3.out.below hb HU3.out.lt).alloc (.cells (cl (fun c => between 65 90 c || between 97 122 c)) 43)); have HL4 := Lib.hid ((HL3.out.below hb HL3.out.lt).alloc (.cells (cl (fun c => between 65 90 c || between 97 122 c)) 43)); have HD4 := Lib.hid ((HD3.out.below hb HD3.out.lt).alloc (.cells (cl (fun c => between 65 90 c || between 97 122 c)) 43)); have HP4 := Lib.hid (At.new w4 (fun c => between 65 90 c || between 97 122 c)); have q := HD4.out.words; unfold cl at q; obtain ⟨⟨q0, q1⟩, ⟨q2, q3⟩, q4⟩ := q; clear hb)
    | (go_at_call 33; with_reducible refine (HU2.out _).mono ?_; rintro e w5 ⟨rfl, hb⟩; have HB5 : Hid (Below w.heap.size w (w5.alloc (.cells (cl (fun c => (between 65 90 c || between 97 122 c) || between 48 57 c)) 43))) := Lib.hid ((HB4.out.trans (hb.mono HB4.out.size)).alloc ((HB4.out.trans (hb.mono HB4.out.size)).size) _); have HA5 := Lib.hid ((HA4.out.below hb HA4.out.lt).alloc (.cells (cl (fun c => (between 65 90 c || between 97 122 c) || between 48 57 c)) 43)); have r := HA5.out.words; unfold cl at r; obtain ⟨⟨r0, r1⟩, ⟨r2, r3⟩, r4⟩ := r; clear hb)
    | (go_at_call 79; with_reducible refine (HX1.out _).mono ?_; rintro e w6 ⟨rfl, hb⟩; have HB6 := Lib.hid (HB5.out.trans (hb.mono HB5.out.size)); have HA6 := Lib.hid (HA5.out.below hb HA5.out.lt); have r := HA6.out.words; obtain ⟨⟨x0, x1⟩, ⟨x2, x3⟩, x4⟩ := r; clear hb))
  exact bodyPost_ret (ret_cs2 Tryd.results59 _ _ w.heap.size (between 33 126) (.bool true) (by simp) (by simp) (HA6.out.put4 _)) rfl ⟨rfl, below_put4 HB6.out _ (Nat.le_refl _) _⟩

set_option maxRecDepth 100000 in
set_option maxHeartbeats 8000000 in
theorem std_10 (n : ByteArray) (w : World) (e0 : (n.toList == ([97, 108, 112, 104, 97] : List UInt8)) = false) (e1 : (n.toList == ([100, 105, 103, 105, 116] : List UInt8)) = false) (e2 : (n.toList == ([97, 108, 110, 117, 109] : List UInt8)) = false) (e3 : (n.toList == ([117, 112, 112, 101, 114] : List UInt8)) = false) (e4 : (n.toList == ([108, 111, 119, 101, 114] : List UInt8)) = false) (e5 : (n.toList == ([120, 100, 105, 103, 105, 116] : List UInt8)) = false) (e6 : (n.toList == ([98, 108, 97, 110, 107] : List UInt8)) = false) (e7 : (n.toList == ([115, 112, 97, 99, 101] : List UInt8)) = false) (e8 : (n.toList == ([99, 110, 116, 114, 108] : List UInt8)) = false) (e9 : (n.toList == ([103, 114, 97, 112, 104] : List UInt8)) = false) (e10 : (n.toList == ([112, 114, 105, 110, 116] : List UInt8)) = true) :
    Calls Tryd.prog 59 #[.string n] w fun e w' => e = .returned (.tuple #[cs (between 32 126), .bool true]) ∧ Below w.heap.size w w' := by
  have HB : Hid (Below w.heap.size w (w.alloc (.cells #[.int .u64 0, .int .u64 0, .int .u64 0, .int .u64 0] 43))) := (Below.refl _ _).alloc (Nat.le_refl _) _
  have HA : Hid (At (w.alloc (.cells #[.int .u64 0, .int .u64 0, .int .u64 0, .int .u64 0] 43)) w.heap.size (fun _ => false)) := by
    show At _ _ _
    rw [cl_zero]
    exact At.new w _
  have HRu : Hid (∀ w, Calls Tryd.prog 79 #[.int .u8 65, .int .u8 90] w fun e w' => e = .returned (cs (between 65 90)) ∧ Below w.heap.size w w') := rrange_any 65 90 (by decide) (by decide)
  have HRl : Hid (∀ w, Calls Tryd.prog 79 #[.int .u8 97, .int .u8 122] w fun e w' => e = .returned (cs (between 97 122)) ∧ Below w.heap.size w w') := rrange_any 97 122 (by decide) (by decide)
  have HRd : Hid (∀ w, Calls Tryd.prog 79 #[.int .u8 48, .int .u8 57] w fun e w' => e = .returned (cs (between 48 57)) ∧ Below w.heap.size w w') := rrange_any 48 57 (by decide) (by decide)
  have HU1 := Lib.hid (runion_any (between 65 90) (between 97 122))
  have HU2 := Lib.hid (runion_any (fun c => between 65 90 c || between 97 122 c) (between 48 57))
  have HX1 : Hid (∀ w, Calls Tryd.prog 79 #[.int .u8 32, .int .u8 126] w fun e w' => e = .returned (cs (between 32 126)) ∧ Below w.heap.size w w') := rrange_any 32 126 (by decide) (by decide)
  unfold cs cl at HRu HRl HRd HU1 HU2 HX1
  go_enter Tryd.func59, Tryd.ntmps59
  go_wp2_with (first
    | (go_at_call 79; with_reducible refine (HRu.out _).mono ?_; rintro e w1 ⟨rfl, hb⟩; have HB1 := Lib.hid (HB.out.trans (hb.mono HB.out.size)); have HA1 := Lib.hid (HA.out.below hb HA.out.lt); clear hb)
    | (go_at_call 79; with_reducible refine (HRl.out _).mono ?_; rintro e w2 ⟨rfl, hb⟩; have HB2 := Lib.hid (HB1.out.trans (hb.mono HB1.out.size)); have HA2 := Lib.hid (HA1.out.below hb HA1.out.lt); clear hb)
    | (go_at_call 79; with_reducible refine (HRd.out _).mono ?_; rintro e w3 ⟨rfl, hb⟩; have HB3 := Lib.hid (HB2.out.trans (hb.mono HB2.out.size)); have HA3 := Lib.hid (HA2.out.below hb HA2.out.lt); have HB3a : Hid (Below w.heap.size w (((w3.alloc (.cells (cl (between 65 90)) 43)).alloc (.cells (cl (between 97 122)) 43)).alloc (.cells (cl (between 48 57)) 43))) := Lib.hid (((HB3.out.alloc HB3.out.size _).alloc (by simp; have := HB3.out.size; omega) _).alloc (by simp; have := HB3.out.size; omega) _); have HA3a := Lib.hid (((HA3.out.alloc (.cells (cl (between 65 90)) 43)).alloc (.cells (cl (between 97 122)) 43)).alloc (.cells (cl (between 48 57)) 43)); have HU3 := Lib.hid (up3 w3); have HL3 := Lib.hid (lo3 w3); have HD3 := Lib.hid (di3 w3); clear hb)
    | (go_at_call 33; with_reducible refine (HU1.out _).mono ?_; rintro e w4 ⟨rfl, hb⟩; have HB4 : Hid (Below w.heap.size w (w4.alloc (.cells (cl (fun c => between 65 90 c || between 97 122 c)) 43))) := Lib.hid ((HB3a.out.trans (hb.mono HB3a.out.size)).alloc ((HB3a.out.trans (hb.mono HB3a.out.size)).size) _); have HA4 := Lib.hid ((HA3a.out.below hb HA3a.out.lt).alloc (.cells (cl (fun c => between 65 90 c || between 97 122 c)) 43)); have HU4 := Lib.hid ((HU3.out.below hb HU3.out.lt).alloc (.cells (cl (fun c => between 65 90 c || between 97 122 c)) 43)); have HL4 := Lib.hid ((HL3.out.below hb HL3.out.lt).alloc (.cells (cl (fun c => between 65 90 c || between 97 122 c)) 43)); have HD4 := Lib.hid ((HD3.out.below hb HD3.out.lt).alloc (.cells (cl (fun c => between 65 90 c || between 97 122 c)) 43)); have HP4 := Lib.hid (At.new w4 (fun c => between 65 90 c || between 97 122 c)); have q := HD4.out.words; unfold cl at q; obtain ⟨⟨q0, q1⟩, ⟨q2, q3⟩, q4⟩ := q; clear hb)
    | (go_at_call 33; with_reducible refine (HU2.out _).mono ?_; rintro e w5 ⟨rfl, hb⟩; have HB5 : Hid (Below w.heap.size w (w5.alloc (.cells (cl (fun c => (between 65 90 c || between 97 122 c) || between 48 57 c)) 43))) := Lib.hid ((HB4.out.trans (hb.mono HB4.out.size)).alloc ((HB4.out.trans (hb.mono HB4.out.size)).size) _); have HA5 := Lib.hid ((HA4.out.below hb HA4.out.lt).alloc (.cells (cl (fun c => (between 65 90 c || between 97 122 c) || between 48 57 c)) 43)); have r := HA5.out.words; unfold cl at r; obtain ⟨⟨r0, r1⟩, ⟨r2, r3⟩, r4⟩ := r; clear hb)
    | (go_at_call 79; with_reducible refine (HX1.out _).mono ?_; rintro e w6 ⟨rfl, hb⟩; have HB6 := Lib.hid (HB5.out.trans (hb.mono HB5.out.size)); have HA6 := Lib.hid (HA5.out.below hb HA5.out.lt); have r := HA6.out.words; obtain ⟨⟨x0, x1⟩, ⟨x2, x3⟩, x4⟩ := r; clear hb))
  exact bodyPost_ret (ret_cs2 Tryd.results59 _ _ w.heap.size (between 32 126) (.bool true) (by simp) (by simp) (HA6.out.put4 _)) rfl ⟨rfl, below_put4 HB6.out _ (Nat.le_refl _) _⟩

set_option maxRecDepth 100000 in
set_option maxHeartbeats 8000000 in
theorem std_11 (n : ByteArray) (w : World) (e0 : (n.toList == ([97, 108, 112, 104, 97] : List UInt8)) = false) (e1 : (n.toList == ([100, 105, 103, 105, 116] : List UInt8)) = false) (e2 : (n.toList == ([97, 108, 110, 117, 109] : List UInt8)) = false) (e3 : (n.toList == ([117, 112, 112, 101, 114] : List UInt8)) = false) (e4 : (n.toList == ([108, 111, 119, 101, 114] : List UInt8)) = false) (e5 : (n.toList == ([120, 100, 105, 103, 105, 116] : List UInt8)) = false) (e6 : (n.toList == ([98, 108, 97, 110, 107] : List UInt8)) = false) (e7 : (n.toList == ([115, 112, 97, 99, 101] : List UInt8)) = false) (e8 : (n.toList == ([99, 110, 116, 114, 108] : List UInt8)) = false) (e9 : (n.toList == ([103, 114, 97, 112, 104] : List UInt8)) = false) (e10 : (n.toList == ([112, 114, 105, 110, 116] : List UInt8)) = false) (e11 : (n.toList == ([112, 117, 110, 99, 116] : List UInt8)) = true) :
    Calls Tryd.prog 59 #[.string n] w fun e w' => e = .returned (.tuple #[cs (fun c => between 33 126 c && !((between 65 90 c || between 97 122 c) || between 48 57 c)), .bool true]) ∧ Below w.heap.size w w' := by
  have HB : Hid (Below w.heap.size w (w.alloc (.cells #[.int .u64 0, .int .u64 0, .int .u64 0, .int .u64 0] 43))) := (Below.refl _ _).alloc (Nat.le_refl _) _
  have HA : Hid (At (w.alloc (.cells #[.int .u64 0, .int .u64 0, .int .u64 0, .int .u64 0] 43)) w.heap.size (fun _ => false)) := by
    show At _ _ _
    rw [cl_zero]
    exact At.new w _
  have HRu : Hid (∀ w, Calls Tryd.prog 79 #[.int .u8 65, .int .u8 90] w fun e w' => e = .returned (cs (between 65 90)) ∧ Below w.heap.size w w') := rrange_any 65 90 (by decide) (by decide)
  have HRl : Hid (∀ w, Calls Tryd.prog 79 #[.int .u8 97, .int .u8 122] w fun e w' => e = .returned (cs (between 97 122)) ∧ Below w.heap.size w w') := rrange_any 97 122 (by decide) (by decide)
  have HRd : Hid (∀ w, Calls Tryd.prog 79 #[.int .u8 48, .int .u8 57] w fun e w' => e = .returned (cs (between 48 57)) ∧ Below w.heap.size w w') := rrange_any 48 57 (by decide) (by decide)
  have HU1 := Lib.hid (runion_any (between 65 90) (between 97 122))
  have HU2 := Lib.hid (runion_any (fun c => between 65 90 c || between 97 122 c) (between 48 57))
  have HX1 : Hid (∀ w, Calls Tryd.prog 79 #[.int .u8 33, .int .u8 126] w fun e w' => e = .returned (cs (between 33 126)) ∧ Below w.heap.size w w') := rrange_any 33 126 (by decide) (by decide)
  have HX2 := Lib.hid (rminus_any (between 33 126) (fun c => (between 65 90 c || between 97 122 c) || between 48 57 c))
  obtain ⟨PU, hPU⟩ : ∃ X, (fun c => between 33 126 c && !((between 65 90 c || between 97 122 c) || between 48 57 c)) = X := ⟨_, rfl⟩
  rw [hPU] at HX2 ⊢
  clear hPU
  unfold cs cl at HRu HRl HRd HU1 HU2 HX1 HX2
  go_enter Tryd.func59, Tryd.ntmps59
  go_wp2_with (first
    | (go_at_call 79; with_reducible refine (HRu.out _).mono ?_; rintro e w1 ⟨rfl, hb⟩; have HB1 := Lib.hid (HB.out.trans (hb.mono HB.out.size)); have HA1 := Lib.hid (HA.out.below hb HA.out.lt); clear hb)
    | (go_at_call 79; with_reducible refine (HRl.out _).mono ?_; rintro e w2 ⟨rfl, hb⟩; have HB2 := Lib.hid (HB1.out.trans (hb.mono HB1.out.size)); have HA2 := Lib.hid (HA1.out.below hb HA1.out.lt); clear hb)
    | (go_at_call 79; with_reducible refine (HRd.out _).mono ?_; rintro e w3 ⟨rfl, hb⟩; have HB3 := Lib.hid (HB2.out.trans (hb.mono HB2.out.size)); have HA3 := Lib.hid (HA2.out.below hb HA2.out.lt); have HB3a : Hid (Below w.heap.size w (((w3.alloc (.cells (cl (between 65 90)) 43)).alloc (.cells (cl (between 97 122)) 43)).alloc (.cells (cl (between 48 57)) 43))) := Lib.hid (((HB3.out.alloc HB3.out.size _).alloc (by simp; have := HB3.out.size; omega) _).alloc (by simp; have := HB3.out.size; omega) _); have HA3a := Lib.hid (((HA3.out.alloc (.cells (cl (between 65 90)) 43)).alloc (.cells (cl (between 97 122)) 43)).alloc (.cells (cl (between 48 57)) 43)); have HU3 := Lib.hid (up3 w3); have HL3 := Lib.hid (lo3 w3); have HD3 := Lib.hid (di3 w3); clear hb)
    | (go_at_call 33; with_reducible refine (HU1.out _).mono ?_; rintro e w4 ⟨rfl, hb⟩; have HB4 : Hid (Below w.heap.size w (w4.alloc (.cells (cl (fun c => between 65 90 c || between 97 122 c)) 43))) := Lib.hid ((HB3a.out.trans (hb.mono HB3a.out.size)).alloc ((HB3a.out.trans (hb.mono HB3a.out.size)).size) _); have HA4 := Lib.hid ((HA3a.out.below hb HA3a.out.lt).alloc (.cells (cl (fun c => between 65 90 c || between 97 122 c)) 43)); have HU4 := Lib.hid ((HU3.out.below hb HU3.out.lt).alloc (.cells (cl (fun c => between 65 90 c || between 97 122 c)) 43)); have HL4 := Lib.hid ((HL3.out.below hb HL3.out.lt).alloc (.cells (cl (fun c => between 65 90 c || between 97 122 c)) 43)); have HD4 := Lib.hid ((HD3.out.below hb HD3.out.lt).alloc (.cells (cl (fun c => between 65 90 c || between 97 122 c)) 43)); have HP4 := Lib.hid (At.new w4 (fun c => between 65 90 c || between 97 122 c)); have q := HD4.out.words; unfold cl at q; obtain ⟨⟨q0, q1⟩, ⟨q2, q3⟩, q4⟩ := q; clear hb)
    | (go_at_call 33; with_reducible refine (HU2.out _).mono ?_; rintro e w5 ⟨rfl, hb⟩; have HB5 : Hid (Below w.heap.size w (w5.alloc (.cells (cl (fun c => (between 65 90 c || between 97 122 c) || between 48 57 c)) 43))) := Lib.hid ((HB4.out.trans (hb.mono HB4.out.size)).alloc ((HB4.out.trans (hb.mono HB4.out.size)).size) _); have HA5 := Lib.hid ((HA4.out.below hb HA4.out.lt).alloc (.cells (cl (fun c => (between 65 90 c || between 97 122 c) || between 48 57 c)) 43)); have HW5 : Hid (w4.heap.size + 1 ≤ w5.heap.size) := Lib.hid (Nat.le_trans (Nat.le_of_eq (by simp)) hb.size); have HS5 := Lib.hid (At.new w5 (fun c => (between 65 90 c || between 97 122 c) || between 48 57 c)); have r := HA5.out.words; unfold cl at r; obtain ⟨⟨r0, r1⟩, ⟨r2, r3⟩, r4⟩ := r; clear hb))
  refine wp_region_held_drew (S := fun w' => At w' w5.heap.size (fun c => (between 65 90 c || between 97 122 c) || between 48 57 c) ∧ AtAny w' w.heap.size ∧ Below w.heap.size w w') (by kernel_rfl) ?_ (fun hHeld => ?_)
  · exact ⟨HS5.out, ⟨_, HA5.out⟩, HB5.out.drew⟩
  refine wpAnyH_take (i := 1) (v := ?av1) rfl (by kernel_rfl) (by kernel_rfl) (by kernel_rfl) (fun _ _ _ h => h) (Or.inl ⟨by rfl, ?ay1⟩) (by assumption) ?ar1
  case ay1 =>
    intro wx hSw
    have hq := hSw.1.words
    unfold cl at hq
    obtain ⟨⟨c0, c1⟩, ⟨c2, c3⟩, hf⟩ := hq
    clear hSw
    go_simp
    first | done | (with_reducible rfl)
  (try simp only [Act.put, List.getElem_toArray, List.getElem_cons_succ, List.getElem_cons_zero, List.setIfInBounds_toArray, List.set_cons_zero, List.set_cons_succ])
  refine wpAnyH_ready (rs := [0]) (by kernel_rfl) (by simp) ?_
  refine AllReadyH.cons rfl (fun K hK => ?_) AllReadyH.nil
  go_simp
  go_at_call 79
  refine (HX1.out _).mono ?_
  rintro e w6 ⟨rfl, hb⟩
  refine hK.out _ _ ?_ (fun hH1 => ?_)
  · exact ⟨hHeld.1.below hb hHeld.1.lt, hHeld.2.1.below hb, hHeld.2.2.trans (hb.mono hHeld.2.2.size)⟩
  clear hK K hb
  (try simp only [Act.put, List.getElem_toArray, List.getElem_cons_zero, List.setIfInBounds_toArray, List.set_cons_zero, List.set_cons_succ])
  refine wpAnyH_ready (rs := [2]) (by kernel_rfl) (by simp) ?_
  refine AllReadyH.cons rfl (fun K hK => ?_) AllReadyH.nil
  go_simp
  go_at_call 80
  refine (HX2.out _).mono ?_
  rintro e w7 ⟨rfl, hb⟩
  refine hK.out _ _ ?_ (fun hH4 => ?_)
  · exact ⟨hH1.1.below hb hH1.1.lt, hH1.2.1.below hb, hH1.2.2.trans (hb.mono hH1.2.2.size)⟩
  clear hK K hb
  (try simp only [Act.put, List.getElem_toArray, List.getElem_cons_succ, List.getElem_cons_zero, List.setIfInBounds_toArray, List.set_cons_zero, List.set_cons_succ])
  have hne : w.heap.size < w5.heap.size := by have h1 := HA4.out.lt; have h2 := HW5.out; simp at h1; omega
  have hAny := hH4.2.1
  obtain ⟨r, hr⟩ := hAny
  refine wpAnyH_ready (rs := [3]) (by kernel_rfl) (by simp) ?_
  refine AllReadyH.cons rfl (fun K hK => ?_) AllReadyH.nil
  rw [if_pos (by rfl)]
  refine wp_store_row 43 _ _ rfl (w.heap.size) (cl (PU)) rfl rfl 43 _ hr info_cs rfl (cl_one _) ?_
  refine hK.out _ _ ?_ (fun hH5 => ?_)
  · exact ⟨hH4.1.other _ (by have := hne; omega), ⟨_, hr.set _⟩, below_setRow hH4.2.2 (Nat.le_refl _) _⟩
  clear hK K
  (try simp only [Act.put, List.getElem_toArray, List.getElem_cons_succ, List.getElem_cons_zero])
  refine wpAnyH_take (i := 4) (v := ?bv4) rfl (by kernel_rfl) (by kernel_rfl) (by kernel_rfl) (fun _ _ _ h => h) (Or.inl ⟨by rfl, ?by4⟩) (by assumption) ?br4
  case by4 =>
    intro wx hSw
    clear hSw
    go_simp
    first | done | (with_reducible rfl)
  (try simp only [Act.put, List.getElem_toArray, List.getElem_cons_succ, List.getElem_cons_zero, List.setIfInBounds_toArray, List.set_cons_zero, List.set_cons_succ])
  refine wpAnyH_done (by kernel_rfl) ?_ _
  go_wp2
  exact bodyPost_ret (ret_cs2 Tryd.results59 _ _ w.heap.size (PU) (.bool true) (by simp) (by simp) (hr.set _)) rfl ⟨rfl, hH5.2.2⟩

set_option maxRecDepth 100000 in
set_option maxHeartbeats 8000000 in
theorem std_12 (n : ByteArray) (w : World) (e0 : (n.toList == ([97, 108, 112, 104, 97] : List UInt8)) = false) (e1 : (n.toList == ([100, 105, 103, 105, 116] : List UInt8)) = false) (e2 : (n.toList == ([97, 108, 110, 117, 109] : List UInt8)) = false) (e3 : (n.toList == ([117, 112, 112, 101, 114] : List UInt8)) = false) (e4 : (n.toList == ([108, 111, 119, 101, 114] : List UInt8)) = false) (e5 : (n.toList == ([120, 100, 105, 103, 105, 116] : List UInt8)) = false) (e6 : (n.toList == ([98, 108, 97, 110, 107] : List UInt8)) = false) (e7 : (n.toList == ([115, 112, 97, 99, 101] : List UInt8)) = false) (e8 : (n.toList == ([99, 110, 116, 114, 108] : List UInt8)) = false) (e9 : (n.toList == ([103, 114, 97, 112, 104] : List UInt8)) = false) (e10 : (n.toList == ([112, 114, 105, 110, 116] : List UInt8)) = false) (e11 : (n.toList == ([112, 117, 110, 99, 116] : List UInt8)) = false) :
    Calls Tryd.prog 59 #[.string n] w fun e w' => e = .returned (.tuple #[cs (fun _ => false), .bool false]) ∧ Below w.heap.size w w' := by
  have HB : Hid (Below w.heap.size w (w.alloc (.cells #[.int .u64 0, .int .u64 0, .int .u64 0, .int .u64 0] 43))) := (Below.refl _ _).alloc (Nat.le_refl _) _
  have HA : Hid (At (w.alloc (.cells #[.int .u64 0, .int .u64 0, .int .u64 0, .int .u64 0] 43)) w.heap.size (fun _ => false)) := by
    show At _ _ _
    rw [cl_zero]
    exact At.new w _
  have HRu : Hid (∀ w, Calls Tryd.prog 79 #[.int .u8 65, .int .u8 90] w fun e w' => e = .returned (cs (between 65 90)) ∧ Below w.heap.size w w') := rrange_any 65 90 (by decide) (by decide)
  have HRl : Hid (∀ w, Calls Tryd.prog 79 #[.int .u8 97, .int .u8 122] w fun e w' => e = .returned (cs (between 97 122)) ∧ Below w.heap.size w w') := rrange_any 97 122 (by decide) (by decide)
  have HRd : Hid (∀ w, Calls Tryd.prog 79 #[.int .u8 48, .int .u8 57] w fun e w' => e = .returned (cs (between 48 57)) ∧ Below w.heap.size w w') := rrange_any 48 57 (by decide) (by decide)
  have HU1 := Lib.hid (runion_any (between 65 90) (between 97 122))
  have HU2 := Lib.hid (runion_any (fun c => between 65 90 c || between 97 122 c) (between 48 57))
  unfold cs cl at HRu HRl HRd HU1 HU2
  go_enter Tryd.func59, Tryd.ntmps59
  go_wp2_with (first
    | (go_at_call 79; with_reducible refine (HRu.out _).mono ?_; rintro e w1 ⟨rfl, hb⟩; have HB1 := Lib.hid (HB.out.trans (hb.mono HB.out.size)); have HA1 := Lib.hid (HA.out.below hb HA.out.lt); clear hb)
    | (go_at_call 79; with_reducible refine (HRl.out _).mono ?_; rintro e w2 ⟨rfl, hb⟩; have HB2 := Lib.hid (HB1.out.trans (hb.mono HB1.out.size)); have HA2 := Lib.hid (HA1.out.below hb HA1.out.lt); clear hb)
    | (go_at_call 79; with_reducible refine (HRd.out _).mono ?_; rintro e w3 ⟨rfl, hb⟩; have HB3 := Lib.hid (HB2.out.trans (hb.mono HB2.out.size)); have HA3 := Lib.hid (HA2.out.below hb HA2.out.lt); have HB3a : Hid (Below w.heap.size w (((w3.alloc (.cells (cl (between 65 90)) 43)).alloc (.cells (cl (between 97 122)) 43)).alloc (.cells (cl (between 48 57)) 43))) := Lib.hid (((HB3.out.alloc HB3.out.size _).alloc (by simp; have := HB3.out.size; omega) _).alloc (by simp; have := HB3.out.size; omega) _); have HA3a := Lib.hid (((HA3.out.alloc (.cells (cl (between 65 90)) 43)).alloc (.cells (cl (between 97 122)) 43)).alloc (.cells (cl (between 48 57)) 43)); have HU3 := Lib.hid (up3 w3); have HL3 := Lib.hid (lo3 w3); have HD3 := Lib.hid (di3 w3); clear hb)
    | (go_at_call 33; with_reducible refine (HU1.out _).mono ?_; rintro e w4 ⟨rfl, hb⟩; have HB4 : Hid (Below w.heap.size w (w4.alloc (.cells (cl (fun c => between 65 90 c || between 97 122 c)) 43))) := Lib.hid ((HB3a.out.trans (hb.mono HB3a.out.size)).alloc ((HB3a.out.trans (hb.mono HB3a.out.size)).size) _); have HA4 := Lib.hid ((HA3a.out.below hb HA3a.out.lt).alloc (.cells (cl (fun c => between 65 90 c || between 97 122 c)) 43)); have HU4 := Lib.hid ((HU3.out.below hb HU3.out.lt).alloc (.cells (cl (fun c => between 65 90 c || between 97 122 c)) 43)); have HL4 := Lib.hid ((HL3.out.below hb HL3.out.lt).alloc (.cells (cl (fun c => between 65 90 c || between 97 122 c)) 43)); have HD4 := Lib.hid ((HD3.out.below hb HD3.out.lt).alloc (.cells (cl (fun c => between 65 90 c || between 97 122 c)) 43)); have HP4 := Lib.hid (At.new w4 (fun c => between 65 90 c || between 97 122 c)); have q := HD4.out.words; unfold cl at q; obtain ⟨⟨q0, q1⟩, ⟨q2, q3⟩, q4⟩ := q; clear hb)
    | (go_at_call 33; with_reducible refine (HU2.out _).mono ?_; rintro e w5 ⟨rfl, hb⟩; have HB5 : Hid (Below w.heap.size w (w5.alloc (.cells (cl (fun c => (between 65 90 c || between 97 122 c) || between 48 57 c)) 43))) := Lib.hid ((HB4.out.trans (hb.mono HB4.out.size)).alloc ((HB4.out.trans (hb.mono HB4.out.size)).size) _); have HA5 := Lib.hid ((HA4.out.below hb HA4.out.lt).alloc (.cells (cl (fun c => (between 65 90 c || between 97 122 c) || between 48 57 c)) 43)); have r := HA5.out.words; unfold cl at r; obtain ⟨⟨r0, r1⟩, ⟨r2, r3⟩, r4⟩ := r; clear hb))
  rw [put4_zero]
  exact bodyPost_ret (ret_cs2 Tryd.results59 _ _ w.heap.size (fun _ => false) (.bool false) (by simp) (by simp) (HA5.out.put4 _)) rfl ⟨rfl, below_put4 HB5.out _ (Nat.le_refl _) _⟩
end Go.Proofs.YtoijbjndafcedaaDoor
