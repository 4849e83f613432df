/- RpAw. -/
import Derived.Test.YtfgcnknmiclfnaaDoorPb8
import Derived.Test.YtfgcnknmiclfnaaDoorRows
set_option linter.unusedVariables false
set_option linter.unusedSimpArgs false
set_option maxRecDepth 100000
set_option maxHeartbeats 4000000
namespace Go.Proofs.YtfgcnknmiclfnaaDoor
open Go.RowKit
theorem conv_byte (c : Nat) (hc : c < 256) (w : World) (g : Nat) (hg : w.heap.size = g) :
    (convert 96 9 (.slice (some ⟨g, 0, none⟩) 1 1)).run Tryd.prog (w.alloc (.cells #[.int .u8 c] 5)) = .ok (.string ⟨#[UInt8.ofNat c]⟩) (w.alloc (.cells #[.int .u8 c] 5)) := by
  subst hg
  exact run_convert_bytes_back (P := Tryd.prog) _ 96 9 5 ⟨w.heap.size, 0, none⟩ 1 [UInt8.ofNat c] Tryd.underlying96 Tryd.underlying5 Tryd.underlying9 (fun j hj => by
    obtain rfl : j = 0 := by simpa using hj
    have := new_cells w [.int .u8 c] 5 0 _ rfl
    rw [add_at] at this
    rw [show [UInt8.ofNat c][0] = UInt8.ofNat c from rfl]
    have e : (UInt8.ofNat c).toNat = c := by simp [UInt8.toNat_ofNat]; omega
    rw [e]
    exact this)
theorem byte_any (c : Nat) (hc : c < 256) (w : World) :
    Calls Tryd.prog 34 #[.int .u8 c] w fun e w' => e = .returned (.agg #[.int .i64 2, .int .u64 (wd (setOf [UInt8.ofNat c]) 0 64 : Nat), .int .u64 (wd (setOf [UInt8.ofNat c]) 64 64 : Nat), .int .u64 (wd (setOf [UInt8.ofNat c]) 128 64 : Nat), .int .u64 (wd (setOf [UInt8.ofNat c]) 192 64 : Nat), .int .i64 0, .int .i64 0, .int .i64 0, .slice none 0 0]) ∧ Below w.heap.size w w' := by
  have HOf := Lib.hid (fun W => rof_any ⟨#[UInt8.ofNat c]⟩ (by show 1 ≤ 300; decide) W)
  have hcv := fun g h => conv_byte c hc (w.alloc (.cells #[.int .i64 0, .int .u64 0, .int .u64 0, .int .u64 0, .int .u64 0, .int .i64 0, .int .i64 0, .int .i64 0, .slice none 0 0] 55)) g h
  have hcv1 := hcv (w.heap.size + 1) (by simp)
  have he := heap_alloc_new w (.cells #[.int .i64 0, .int .u64 0, .int .u64 0, .int .u64 0, .int .u64 0, .int .i64 0, .int .i64 0, .int .i64 0, .slice none 0 0] 55)
  have hb : Below w.heap.size w (w.alloc (.cells #[.int .i64 0, .int .u64 0, .int .u64 0, .int .u64 0, .int .u64 0, .int .i64 0, .int .i64 0, .int .i64 0, .slice none 0 0] 55)) := (Below.refl _ _).alloc (Nat.le_refl _) _
  have hl : w.heap.size < (w.alloc (.cells #[.int .i64 0, .int .u64 0, .int .u64 0, .int .u64 0, .int .u64 0, .int .i64 0, .int .i64 0, .int .i64 0, .slice none 0 0] 55)).heap.size := by simp
  have HE := Lib.hid he
  have HB := Lib.hid hb
  have HL := Lib.hid hl
  clear hcv he hb hl
  have HP : Hid (setOf (⟨#[UInt8.ofNat c]⟩ : ByteArray).data.toList = setOf [UInt8.ofNat c]) := Lib.hid rfl
  rw [HP.out] at HOf
  have HCl : Hid (cs (setOf [UInt8.ofNat c]) = .agg #[.int .u64 (wd (setOf [UInt8.ofNat c]) 0 64 : Nat), .int .u64 (wd (setOf [UInt8.ofNat c]) 64 64 : Nat), .int .u64 (wd (setOf [UInt8.ofNat c]) 128 64 : Nat), .int .u64 (wd (setOf [UInt8.ofNat c]) 192 64 : Nat)]) := Lib.hid rfl
  rw [HCl.out] at HOf
  clear HCl HP
  generalize setOf [UInt8.ofNat c] = p at *
  go_enter Tryd.func34, Tryd.ntmps34
  go_wp2_with (first
    | (go_at_call 54; refine (HOf.out _).mono ?_; rintro e w1 ⟨rfl, hb⟩
       have HB1 := Lib.hid ((HB.out.alloc HB.out.size (.cells #[.int .u8 c] 5)).trans (hb.mono (HB.out.alloc HB.out.size _).size))
       have HR1 := Lib.hid ((hb.block w.heap.size (by simp; omega)).trans ((Below.heap_alloc _ _ _ HL.out).trans HE.out))
       clear hb hcv1)
    | (refine wpList_store_row rfl 55 (.tmp 2) (.tmp 7) rfl w.heap.size #[.int .i64 2, .int .u64 (wd p 0 64 : Nat), .int .u64 (wd p 64 64 : Nat), .int .u64 (wd p 128 64 : Nat), .int .u64 (wd p 192 64 : Nat), .int .i64 0, .int .i64 0, .int .i64 0, .slice none 0 0] rfl rfl 55 _ HR1.out isz_re rfl (by simp [Value.oneCell']) ?_))
  refine bodyPost_ret (v := .agg #[.int .i64 2, .int .u64 (wd p 0 64 : Nat), .int .u64 (wd p 64 64 : Nat), .int .u64 (wd p 128 64 : Nat), .int .u64 (wd p 192 64 : Nat), .int .i64 0, .int .i64 0, .int .i64 0, .slice none 0 0]) (results_cell_row rfl _ _ w.heap.size _ #[.int .i64 2, .int .u64 (wd p 0 64 : Nat), .int .u64 (wd p 64 64 : Nat), .int .u64 (wd p 128 64 : Nat), .int .u64 (wd p 192 64 : Nat), .int .i64 0, .int .i64 0, .int .i64 0, .slice none 0 0] (0, 0) _ rfl (setRow_heap w1 _ _ _ _ _ HR1.out) Tryd.underlying55 rfl isz_re) rfl ?_
  exact ⟨rfl, below_setRow HB1.out (Nat.le_refl _) _⟩
theorem node_any (op : Int) (ad : Option Addr) (n cap : Nat) (w : World) :
    Calls Tryd.prog 33 #[.int .i64 op, .slice ad n cap] w fun e w' => e = .returned (.agg #[.int .i64 op, .int .u64 (wd noSet 0 64 : Nat), .int .u64 (wd noSet 64 64 : Nat), .int .u64 (wd noSet 128 64 : Nat), .int .u64 (wd noSet 192 64 : Nat), .int .i64 0, .int .i64 0, .int .i64 0, .slice ad n cap]) ∧ Below w.heap.size w w' := by
  have he := heap_alloc_new w (.cells #[.int .i64 0, .int .u64 0, .int .u64 0, .int .u64 0, .int .u64 0, .int .i64 0, .int .i64 0, .int .i64 0, .slice none 0 0] 55)
  have hb : Below w.heap.size w (w.alloc (.cells #[.int .i64 0, .int .u64 0, .int .u64 0, .int .u64 0, .int .u64 0, .int .i64 0, .int .i64 0, .int .i64 0, .slice none 0 0] 55)) := (Below.refl _ _).alloc (Nat.le_refl _) _
  have HE := Lib.hid he
  have HB := Lib.hid hb
  clear he hb
  go_enter Tryd.func33, Tryd.ntmps33
  go_wp2_with (first
    | (refine wpList_store_row rfl 55 (.tmp 4) (.tmp 7) rfl w.heap.size #[.int .i64 op, .int .u64 0, .int .u64 0, .int .u64 0, .int .u64 0, .int .i64 0, .int .i64 0, .int .i64 0, .slice ad n cap] rfl rfl 55 _ HE.out isz_re rfl (by simp [Value.oneCell']) ?_))
  refine bodyPost_ret (v := .agg #[.int .i64 op, .int .u64 0, .int .u64 0, .int .u64 0, .int .u64 0, .int .i64 0, .int .i64 0, .int .i64 0, .slice ad n cap]) (results_cell_row rfl _ _ w.heap.size _ #[.int .i64 op, .int .u64 0, .int .u64 0, .int .u64 0, .int .u64 0, .int .i64 0, .int .i64 0, .int .i64 0, .slice ad n cap] (0, 0) _ rfl (setRow_heap _ _ _ _ _ _ HE.out) Tryd.underlying55 rfl isz_re) rfl ?_
  simp only [wd_noSet.1, wd_noSet.2.1, wd_noSet.2.2.1, wd_noSet.2.2.2]
  exact ⟨rfl, below_setRow HB.out (Nat.le_refl _) _⟩
end Go.Proofs.YtfgcnknmiclfnaaDoor
