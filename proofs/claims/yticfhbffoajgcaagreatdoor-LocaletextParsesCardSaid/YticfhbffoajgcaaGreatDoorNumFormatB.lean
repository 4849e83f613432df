/- Writing an int: the program's Format and the reference's are one text. -/
import Derived.Test.YticfhbffoajgcaaGreatDoorNumFormat
namespace Go.Proofs.YticfhbffoajgcaaGreatDoor
open Go.RowKit

/-- The decimal text of an int. -/
def fmtS (n : Int) : ByteArray := if n < 0 then ⟨#[45]⟩ ++ ⟨(txt n.natAbs (cnt n.natAbs)).toArray⟩ else ⟨(txt n.natAbs (cnt n.natAbs)).toArray⟩

theorem u64_neg (m : Nat) (h : m ≤ 9223372036854775808) : IntKind.u64.wrap (-IntKind.u64.wrap (-(m : Int))) = m := by
  rw [IntKind.wrap_u64, IntKind.wrap_u64]; omega

theorem txt_size (m : Nat) (h : m ≤ 9223372036854775808) : (⟨(txt m (cnt m)).toArray⟩ : ByteArray).size ≤ 20 := by
  have h1 : (⟨(txt m (cnt m)).toArray⟩ : ByteArray).size = cnt m := txt_len m (cnt m)
  have h2 := cnt_le 18 m (by omega)
  omega

set_option maxHeartbeats 400000 in
theorem fmt_any (n : Int) (w : World) (hf : fits n) :
    Calls Tryz.prog 63 #[.int .i64 n] w fun e w' => e = .returned (.string (fmtS n)) ∧ Below w.heap.size w w' := by
  obtain ⟨h1, h2⟩ := hf
  unfold fmtS
  have HF : Hid (∀ w, Calls Tryz.prog 106 #[.int .u64 (n.natAbs : Int)] w fun e w' => e = .returned (.string ⟨(txt n.natAbs (cnt n.natAbs)).toArray⟩) ∧ Below w.heap.size w w') := fun w => fm_any n.natAbs w (by omega)
  by_cases hn : n < 0
  · rw [if_pos hn]
    obtain ⟨m, rfl⟩ : ∃ m : Nat, n = -(m : Int) := ⟨n.natAbs, by omega⟩
    rw [Int.natAbs_neg, Int.natAbs_natCast] at HF ⊢
    have hc := u64_neg m (by omega)
    have hts : (⟨(txt m (cnt m)).toArray⟩ : ByteArray).size ≤ 20 := txt_size m (by omega)
    generalize (⟨(txt m (cnt m)).toArray⟩ : ByteArray) = t at *
    clear h1 h2
    go_enter Tryz.func63, Tryz.ntmps63
    go_wp2_with (go_at_call 106; refine (HF.out _).mono ?_; rintro e w' ⟨rfl, hb⟩)
    go_ret
    exact ⟨rfl, hb⟩
  · rw [if_neg hn]
    obtain ⟨m, rfl⟩ : ∃ m : Nat, n = (m : Int) := ⟨n.natAbs, by omega⟩
    rw [Int.natAbs_natCast] at HF ⊢
    generalize (⟨(txt m (cnt m)).toArray⟩ : ByteArray) = t at *
    clear h1
    go_enter Tryz.func63, Tryz.ntmps63
    go_wp2_with (go_at_call 106; refine (HF.out _).mono ?_; rintro e w' ⟨rfl, hb⟩)
    go_ret
    exact ⟨rfl, hb⟩

/-- One byte made into a string. -/
theorem conv_one (w : World) (d : Nat) (hd : d < 10) :
    (convert 80 9 (.slice (some ⟨w.heap.size, 0, none⟩) 1 1)).run Tryz.prog (w.alloc (.cells #[.int .u8 (48 + (d : Int))] 5)) = .ok (.string ⟨#[UInt8.ofNat (48 + d)]⟩) (w.alloc (.cells #[.int .u8 (48 + (d : Int))] 5)) :=
  run_convert_bytes_back (P := Tryz.prog) _ 80 9 5 ⟨w.heap.size, 0, none⟩ 1 [UInt8.ofNat (48 + d)] Tryz.underlying80 Tryz.underlying5 Tryz.underlying9 (fun j hj => by
    have : j = 0 := by simpa using hj
    subst this
    have hb := byte_toNat d hd
    show (w.alloc (.cells #[.int .u8 (48 + (d : Int))] 5)).cell? ⟨w.heap.size, 0, none⟩ = _
    rw [World.cell?_alloc_mark]
    show some (Value.int .u8 (48 + (d : Int))) = some (.int .u8 ((UInt8.ofNat (48 + d)).toNat : Int))
    rw [hb]; rfl)

theorem ret_str {a b : ByteArray} (h : a = b) : Ending.returned (.string a) = .returned (.string b) := by rw [h]

theorem txt_push (m k : Nat) : (⟨#[UInt8.ofNat (48 + m / 10 ^ k % 10)]⟩ : ByteArray) ++ ⟨(txt m k).toArray⟩ = ⟨(txt m (k + 1)).toArray⟩ := by
  rw [txt_succ]
  apply ByteArray.ext
  simp

end Go.Proofs.YticfhbffoajgcaaGreatDoor
