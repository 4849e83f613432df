/- CsList, RxMem, NumMath, NumWalks. -/
import Derived.Test.YtphiaagppcbefaaGreatDoorRows
import Derived.Test.YtphiaagppcbefaaGreatDoorPs7
import Derived.Test.YtphiaagppcbefaaGreatDoorPs0
import Derived.Test.YtphiaagppcbefaaGreatDoorPs1
import Derived.Test.YtphiaagppcbefaaGreatDoorPs9
import Derived.WalkKit
import Derived.WalkLawsBesides
import Derived.WalkSpells
import Derived.BigGuardPart
import Derived.Lib.Hide
set_option linter.unusedVariables false
namespace Go.Proofs.YtphiaagppcbefaaGreatDoor
open Go.RowKit
theorem index_cl (p : Nat → Bool) (k : Nat) (hk : k < 4) (w : World) : (Instr.index 30 (.agg #[.int .u64 (wd p 0 64 : Nat), .int .u64 (wd p 64 64 : Nat), .int .u64 (wd p 128 64 : Nat), .int .u64 (wd p 192 64 : Nat)]) (.int .i64 (k : Int))).run Tryz.prog w = .ok (.int .u64 ((wd p (64 * k) 64 : Nat) : Int)) w := by
  have h4 : k = 0 ∨ k = 1 ∨ k = 2 ∨ k = 3 := by omega
  rcases h4 with rfl | rfl | rfl | rfl
  all_goals (refine Eq.trans ?_ rfl; kernel_rfl)
def rowOf (l : List Nat) : Array Value := (l.map (fun n => Value.int .u8 ((n : Nat) : Int)) ++ List.replicate (256 - l.length) (Value.int .u8 0)).toArray
theorem rowOf_nil : rowOf [] = Array.replicate 256 (.int .u8 0) := by
  unfold rowOf
  rw [List.map_nil, List.nil_append, List.length_nil, Nat.sub_zero, List.toArray_replicate]
theorem rowOf_at (l : List Nat) (h : l.length < 256) : (rowOf l)[l.length]? = some (.int .u8 0) := by
  unfold rowOf
  rw [List.getElem?_toArray, List.getElem?_append_right (by simp), List.getElem?_replicate, if_pos (by simp; omega)]
theorem rowOf_set (l : List Nat) (x : Nat) (h : l.length < 256) : (rowOf l).setIfInBounds l.length (.int .u8 ((x : Nat) : Int)) = rowOf (l ++ [x]) := by
  unfold rowOf
  obtain ⟨m, hm⟩ : ∃ m, 256 - l.length = m + 1 := ⟨256 - l.length - 1, by omega⟩
  have hm2 : 256 - (l ++ [x]).length = m := by simp; omega
  rw [hm, hm2, List.setIfInBounds_toArray, List.set_append_right _ _ (by simp)]
  simp [List.replicate_succ]
theorem rowOf_get (l : List Nat) (j : Nat) (h : j < l.length) : (rowOf l)[j]? = some (.int .u8 ((l[j] : Nat) : Int)) := by
  unfold rowOf
  rw [List.getElem?_toArray, List.getElem?_append_left (by simpa using h)]
  simp [h]
def bl (l : List Nat) : List UInt8 := l.map UInt8.ofNat
theorem bl_length (l : List Nat) : (bl l).length = l.length := by simp [bl]
theorem el_lt (p : Nat → Bool) (n x : Nat) (h : x ∈ el p n) : x < n := ((mem_el p n x).1 h).1
theorem tab_keep {w w' : World} (h : tabAt w) (hb : Below w.heap.size w w') : tabAt w' := fun j hj => keep_words hb (h j hj)
def rest (p : Nat → Bool) (b j x : Nat) : Prop := x < 2 ^ 64 ∧ ∀ m, m < 64 → x.testBit m = (decide (j ≤ m) && p (b + m))
theorem rest_start (p : Nat → Bool) (b : Nat) : rest p b 0 (wd p b 64) := ⟨wd_lt p b 64, fun m hm => by rw [wd_bit]; simp [hm]⟩
theorem rest_end (p : Nat → Bool) (b j : Nat) (hj : j ≤ 64) (h : rest p b j 0) : el p (b + 64) = el p (b + j) := by
  rw [show b + 64 = b + j + (64 - j) by omega]
  apply el_none
  intro k h1 h2
  have := h.2 (k - b) (by omega)
  rw [Nat.zero_testBit] at this
  have e1 : j ≤ k - b := by omega
  have e2 : b + (k - b) = k := by omega
  rw [e2] at this
  simpa [e1] using this.symm
theorem rest_next (p : Nat → Bool) (b j x : Nat) (h0 : x ≠ 0) (h : rest p b j x) : Lib.ctz 64 x < 64 ∧ j ≤ Lib.ctz 64 x ∧ el p (b + (Lib.ctz 64 x + 1)) = el p (b + j) ++ [b + Lib.ctz 64 x] ∧ rest p b (Lib.ctz 64 x + 1) (x &&& (x - 1)) := by
  obtain ⟨ht, hb, hz, ha⟩ := ctz_bit x h0 h.1
  generalize Lib.ctz 64 x = t at *
  have h1 := h.2 t ht
  rw [hb] at h1
  simp at h1
  obtain ⟨h2, h3⟩ := h1
  refine ⟨ht, h2, ?_, Nat.lt_of_le_of_lt Nat.and_le_left h.1, ?_⟩
  · rw [← Nat.add_assoc, el_succ, h3, if_pos rfl]
    congr 1
    rw [show b + t = b + j + (t - j) by omega]
    apply el_none
    intro k k1 k2
    have := h.2 (k - b) (by omega)
    rw [hz (k - b) (by omega)] at this
    have e1 : j ≤ k - b := by omega
    have e2 : b + (k - b) = k := by omega
    rw [e2] at this
    simpa [e1] using this.symm
  · intro m hm
    rw [ha, h.2 m hm]
    by_cases c1 : m = t
    · subst c1
      have : ¬ m + 1 ≤ m := by omega
      simp [this]
    · by_cases c2 : m < t
      · have e := h.2 m hm
        rw [hz m c2] at e
        have : ¬ t + 1 ≤ m := by omega
        rw [← e]
        simp [this]
      · have k1 : t + 1 ≤ m := by omega
        have k2 : j ≤ m := by omega
        simp [c1, k1, k2]
def WL (w : World) (p : Nat → Bool) (l : List Nat) : World := (w.alloc (.cells (cl p) 32)).alloc (.cells (rowOf l) 106)
theorem WL_below (w : World) (p : Nat → Bool) (l : List Nat) : Below w.heap.size w (WL w p l) := ((Below.refl _ _).alloc (Nat.le_refl _) _).alloc (by simp) _
set_option maxRecDepth 100000 in
set_option maxHeartbeats 4000000 in
theorem list_any (p : Nat → Bool) (w : World) (hT : tabAt w) : Calls Tryz.prog 70 #[cs p] w fun e w' => e = .returned (.string ⟨(bl (el p 256)).toArray⟩) ∧ Below w.heap.size w w' := by
  have HT := Lib.hid hT
  clear hT
  have HB := Lib.hid (WL_below w p)
  unfold cs cl at *
  have hv : ∀ w : World, (zeroValue 106).run Tryz.prog w = .ok (.agg (Array.replicate 256 (.int .u8 0))) w := fun _ => by kernel_rfl
  go_enter Tryz.func70, Tryz.ntmps70
  go_wp2
  rw [← rowOf_nil]
  go_loopw [4, 9] (fun c i wr => ∃ k : Nat, k ≤ 4 ∧ i = .int .i64 k ∧ c = .int .i64 ((el p (64 * k)).length : Nat) ∧ wr = (w.alloc (.cells #[.int .u64 (wd p 0 64 : Nat), .int .u64 (wd p 64 64 : Nat), .int .u64 (wd p 128 64 : Nat), .int .u64 (wd p 192 64 : Nat)] 32)).alloc (.cells (rowOf (el p (64 * k))) 106)) (fun _ i _ => 4 - (intOf i).toNat)
  case atStart => exact ⟨0, Nat.zero_le _, rfl, rfl, rfl⟩
  case round =>
    obtain ⟨k, hk, rfl, rfl, rfl⟩ := hrel
    by_cases hlt : k < 4
    · have hi : (k : Int) < 4 := by omega
      have ik := index_cl p k hlt
      have HR0 := Lib.hid (rest_start p (64 * k))
      go_wp2
      go_loopw [4, 6] (fun c x wr => ∃ j X : Nat, j ≤ 64 ∧ x = .int .u64 (X : Nat) ∧ Hid (rest p (64 * k) j X) ∧ c = .int .i64 ((el p (64 * k + j)).length : Nat) ∧ wr = (w.alloc (.cells #[.int .u64 (wd p 0 64 : Nat), .int .u64 (wd p 64 64 : Nat), .int .u64 (wd p 128 64 : Nat), .int .u64 (wd p 192 64 : Nat)] 32)).alloc (.cells (rowOf (el p (64 * k + j))) 106)) (fun _ x _ => (intOf x).toNat)
      case atStart => exact ⟨0, _, Nat.zero_le _, rfl, HR0.out, rfl, rfl⟩
      case round =>
        obtain ⟨j, X, hj, rfl, HX, rfl, rfl⟩ := hrel
        by_cases hx : X = 0
        · subst hx
          have HX2 := Lib.hid (rest_end p (64 * k) j hj HX.out)
          go_wp2
          go_roundw
          case rel => exact ⟨k + 1, by omega, by go_num, by rw [show 64 * (k + 1) = 64 * k + 64 by omega, HX2.out], by rw [show 64 * (k + 1) = 64 * k + 64 by omega, HX2.out]⟩
          case measure => simp [intOf]; omega
        · have hX64 : X < 18446744073709551616 := HX.out.1
          obtain ⟨ht, hjt, hel, hre⟩ := rest_next p (64 * k) j X hx HX.out
          have Htz := Lib.hid (fun w' (h : tabAt w') => tz_any X hX64 hx w' h)
          obtain ⟨t, hte⟩ : ∃ t, t = Lib.ctz 64 X := ⟨_, rfl⟩
          rw [← hte] at ht hjt hel hre Htz
          have hle := el_length_le p (64 * k + j)
          have hlen : (el p (64 * k + j)).length < 256 := by omega
          obtain ⟨E, hE⟩ : ∃ E, E = el p (64 * k + j) := ⟨_, rfl⟩
          rw [← hE] at hlen hel ⊢
          have HEl := Lib.hid hel
          have HRe := Lib.hid hre
          have hne : ((X : Int) == 0) = false := by simp; omega
          have hne1 : ((X : Int) != 0) = true := by simp; omega
          obtain ⟨Y, hY⟩ : ∃ Y, X - 1 = Y := ⟨_, rfl⟩
          obtain ⟨Z, hZ⟩ : ∃ Z, X &&& (X - 1) = Z := ⟨_, rfl⟩
          have hsub : IntKind.u64.wrap ((X : Int) - 1) = (Y : Int) := by rw [IntKind.wrap_u64]; omega
          have hand : bits BinOp.and IntKind.u64 (X : Int) (Y : Int) = (Z : Int) := by rw [← hZ, hY]; exact and64 X Y hX64 (by omega)
          have hby : IntKind.u8.wrap ((k : Int) * 64 + (t : Int)) = ((64 * k + t : Nat) : Int) := by rw [IntWalk.u8_in _ (by omega)]; omega
          have hat := rowOf_at E hlen
          have hset := rowOf_set E (64 * k + t) hlen
          have Hless : Hid (Z < X) := by rw [← hZ]; exact Nat.lt_of_le_of_lt Nat.and_le_right (by omega)
          rw [hZ] at HRe
          obtain ⟨G, hG⟩ : ∃ G, G = 64 * k + t := ⟨_, rfl⟩
          rw [← hG] at hby hset HEl
          have HG := Lib.hid hG
          obtain ⟨n, hn⟩ : ∃ n, E.length = n := ⟨_, rfl⟩
          rw [hn] at hat hset hlen ⊢
          have HN := Lib.hid hn
          have hn0 : (0 : Int) ≤ (n : Int) := by omega
          have hlt2 : (n : Int) < 256 := by omega
          clear hn
          clear hel hre hE hte hY hZ hle hG hX64
          go_wp2_with (first | (go_at_call 99; refine (Htz.out _ (by exact tab_keep HT.out (HB.out E))).mono ?_; rintro e w1 ⟨rfl, rfl⟩))
          go_roundw
          case rel => exact ⟨t + 1, Z, by omega, rfl, HRe.out, by rw [HEl.out, List.length_append, HN.out]; simp, by rw [HEl.out]⟩
          case measure => simp [intOf]; exact Hless.out
    · obtain rfl : k = 4 := by omega
      have ha : Tryz.prog.arrayLen 106 = 256 := by kernel_rfl
      have hle := el_length_le p 256
      have hle2 : (((el p 256).length : Nat) : Int) ≤ 256 := by omega
      have hcv : (convert 62 9 (.slice (some ⟨w.heap.size + 1, 0, none⟩) (el p 256).length 256)).run Tryz.prog (WL w p (el p 256)) = .ok (.string ⟨(bl (el p 256)).toArray⟩) (WL w p (el p 256)) := by
        have := run_convert_bytes_back (P := Tryz.prog) (WL w p (el p 256)) 62 9 5 ⟨w.heap.size + 1, 0, none⟩ 256 (bl (el p 256)) Tryz.underlying62 Tryz.underlying5 Tryz.underlying9 (fun j hj => by
          rw [bl_length] at hj
          have e0 : ((⟨w.heap.size + 1, 0, none⟩ : Addr).add j) = ⟨w.heap.size + 1, j, none⟩ := by unfold Addr.add; split <;> simp_all
          have e1 : (WL w p (el p 256)).heap[w.heap.size + 1]? = some (.cells (rowOf (el p 256)) 106 (0, 0)) := heap_alloc2_new w _ _
          rw [e0, cell_of_row _ _ j _ _ _ e1, rowOf_get _ j hj]
          have e2 := el_lt p 256 _ (List.getElem_mem hj)
          simp [bl]
          omega)
        rw [bl_length] at this
        exact this
      unfold WL cl at hcv
      clear hle
      go_wp2
      go_ret
      exact ⟨rfl, HB.out (el p 256)⟩
end Go.Proofs.YtphiaagppcbefaaGreatDoor
set_option linter.unusedVariables false
namespace Go.Proofs.YtphiaagppcbefaaGreatDoor
open Go.RowKit
structure CX where
  s : ByteArray
  fl : Int
  L : Loc
structure LV where
  W : Value
  C : Value
  E : Value
structure PS where
  at_ : Nat
  st : Nat
  gr : Nat
  opn : Nat
  cl : Nat → Bool
  err : Int
  ea : Nat
def pcells (c : CX) (V : LV) (p : PS) : Array Value := #[.string c.s, .int .i64 c.fl, .string c.L.name, V.W, .string c.L.lower, .string c.L.upper, V.C, V.E, .int .i64 (p.at_ : Int), .int .i64 (p.st : Int), .int .i64 (p.gr : Int), .int .i64 (p.opn : Int),
  .bool (p.cl 0), .bool (p.cl 1), .bool (p.cl 2), .bool (p.cl 3), .bool (p.cl 4), .bool (p.cl 5), .bool (p.cl 6), .bool (p.cl 7), .bool (p.cl 8), .bool (p.cl 9), .int .i64 p.err, .int .i64 (p.ea : Int)]
def PA (w : World) (B : Nat) (c : CX) (V : LV) (p : PS) : Prop := w.heap[B]? = some (.cells (pcells c V p) 54 (0, 0))
theorem PA.lt {w : World} {B : Nat} {c : CX} {V : LV} {p : PS} (h : PA w B c V p) : B < w.heap.size := (Array.getElem?_eq_some_iff.1 h).1
theorem PA.cell {w : World} {B : Nat} {c : CX} {V : LV} {p : PS} (h : PA w B c V p) (j : Nat) : w.cell? ⟨B, j, none⟩ = (pcells c V p)[j]? := cell_of_row w B j _ _ _ h
theorem PA.free {w : World} {B : Nat} {c : CX} {V : LV} {p : PS} (h : PA w B c V p) (j : Nat) : w.frozen? ⟨B, j, none⟩ = false := frozen_of_row w B j _ _ h
theorem PA.s {w : World} {B : Nat} {c : CX} {V : LV} {p : PS} (h : PA w B c V p) : w.cell? ⟨B, 0, none⟩ = some (.string c.s) := h.cell 0
theorem PA.fl {w : World} {B : Nat} {c : CX} {V : LV} {p : PS} (h : PA w B c V p) : w.cell? ⟨B, 1, none⟩ = some (.int .i64 c.fl) := h.cell 1
theorem PA.at_ {w : World} {B : Nat} {c : CX} {V : LV} {p : PS} (h : PA w B c V p) : w.cell? ⟨B, 8, none⟩ = some (.int .i64 (p.at_ : Int)) := h.cell 8
theorem PA.st {w : World} {B : Nat} {c : CX} {V : LV} {p : PS} (h : PA w B c V p) : w.cell? ⟨B, 9, none⟩ = some (.int .i64 (p.st : Int)) := h.cell 9
theorem PA.gr {w : World} {B : Nat} {c : CX} {V : LV} {p : PS} (h : PA w B c V p) : w.cell? ⟨B, 10, none⟩ = some (.int .i64 (p.gr : Int)) := h.cell 10
theorem PA.opn {w : World} {B : Nat} {c : CX} {V : LV} {p : PS} (h : PA w B c V p) : w.cell? ⟨B, 11, none⟩ = some (.int .i64 (p.opn : Int)) := h.cell 11
theorem PA.err {w : World} {B : Nat} {c : CX} {V : LV} {p : PS} (h : PA w B c V p) : w.cell? ⟨B, 22, none⟩ = some (.int .i64 p.err) := h.cell 22
theorem PA.ea {w : World} {B : Nat} {c : CX} {V : LV} {p : PS} (h : PA w B c V p) : w.cell? ⟨B, 23, none⟩ = some (.int .i64 (p.ea : Int)) := h.cell 23
theorem PA.below {w w' : World} {B : Nat} {c : CX} {V : LV} {p : PS} (h : PA w B c V p) (hb : Below w.heap.size w w') : PA w' B c V p := (hb.block B h.lt).trans h
theorem PA.drew {w : World} {B : Nat} {c : CX} {V : LV} {p : PS} (h : PA w B c V p) : PA w.drew B c V p := h
theorem PA.put {w : World} {B : Nat} {c : CX} {V : LV} {p : PS} (h : PA w B c V p) (j : Nat) (v : Value) : (w.setCell ⟨B, j, none⟩ v).heap[B]? = some (.cells ((pcells c V p).setIfInBounds j v) 54 (0, 0)) := heap_setCell_same w B j _ _ v h
theorem PA.putAt {w : World} {B : Nat} {c : CX} {V : LV} {p : PS} (h : PA w B c V p) (n : Nat) : PA (w.setCell ⟨B, 8, none⟩ (.int .i64 (n : Int))) B c V { p with at_ := n } := h.put 8 _
theorem PA.putSt {w : World} {B : Nat} {c : CX} {V : LV} {p : PS} (h : PA w B c V p) (n : Nat) : PA (w.setCell ⟨B, 9, none⟩ (.int .i64 (n : Int))) B c V { p with st := n } := h.put 9 _
theorem PA.putGr {w : World} {B : Nat} {c : CX} {V : LV} {p : PS} (h : PA w B c V p) (n : Nat) : PA (w.setCell ⟨B, 10, none⟩ (.int .i64 (n : Int))) B c V { p with gr := n } := h.put 10 _
theorem PA.putOp {w : World} {B : Nat} {c : CX} {V : LV} {p : PS} (h : PA w B c V p) (n : Nat) : PA (w.setCell ⟨B, 11, none⟩ (.int .i64 (n : Int))) B c V { p with opn := n } := h.put 11 _
theorem PA.putErr {w : World} {B : Nat} {c : CX} {V : LV} {p : PS} (h : PA w B c V p) (x : Int) : PA (w.setCell ⟨B, 22, none⟩ (.int .i64 x)) B c V { p with err := x } := h.put 22 _
theorem PA.putEa {w : World} {B : Nat} {c : CX} {V : LV} {p : PS} (h : PA w B c V p) (n : Nat) : PA (w.setCell ⟨B, 23, none⟩ (.int .i64 (n : Int))) B c V { p with ea := n } := h.put 23 _
structure Only (B : Nat) (w w' : World) : Prop where
  os : w'.os = w.os
  tape : w'.tape = w.tape
  output : w'.output = w.output
  size : w.heap.size ≤ w'.heap.size
  block : ∀ k, k < w.heap.size → k ≠ B → w'.heap[k]? = w.heap[k]?
theorem Only.refl (B : Nat) (w : World) : Only B w w := ⟨rfl, rfl, rfl, Nat.le_refl _, fun _ _ _ => rfl⟩
theorem Only.of_below {B : Nat} {w w' : World} (h : Below w.heap.size w w') : Only B w w' := ⟨h.os, h.tape, h.output, h.size, fun k hk _ => h.block k hk⟩
theorem Only.trans {B : Nat} {a b c : World} (h : Only B a b) (k : Only B b c) : Only B a c :=
  ⟨k.os.trans h.os, k.tape.trans h.tape, k.output.trans h.output, Nat.le_trans h.size k.size, fun g hg hn => (k.block g (Nat.lt_of_lt_of_le hg h.size) hn).trans (h.block g hg hn)⟩
theorem Only.next {B : Nat} {a b c : World} (h : Only B a b) (k : Below b.heap.size b c) : Only B a c := h.trans (.of_below k)
theorem Only.put {B : Nat} {a w : World} (h : Only B a w) (j : Nat) (v : Value) : Only B a (w.setCell ⟨B, j, none⟩ v) :=
  ⟨h.os, h.tape, h.output, by simpa [World.setCell] using h.size, fun k hk hn => (Below.heap_setCell w ⟨B, j, none⟩ v k hn).trans (h.block k hk hn)⟩
def pkT (s : ByteArray) (i : Nat) : Int := if i < s.size then ((gb s i).toNat : Int) else -1
def spT (c : Int) (ext : Bool) : Bool :=
  if c = 46 ∨ c = 91 ∨ c = 93 ∨ c = 42 ∨ c = 94 ∨ c = 36 ∨ c = 92 then true
  else if c = 40 ∨ c = 41 ∨ c = 43 ∨ c = 63 ∨ c = 123 ∨ c = 125 ∨ c = 124 then ext else false
theorem pkT_range (s : ByteArray) (i : Nat) : -1 ≤ pkT s i ∧ pkT s i ≤ 255 := by
  unfold pkT
  split
  · have := (gb s i).toNat_lt
    omega
  · omega
theorem PA.block {w w' : World} {B : Nat} {c : CX} {V : LV} {p : PS} (h : PA w B c V p) (hb : w'.heap[B]? = w.heap[B]?) : PA w' B c V p := hb.trans h
theorem PA.all {w : World} {B : Nat} {c : CX} {V : LV} {p : PS} (h : PA w B c V p) : (w.cell? ⟨B, 0, none⟩ = some (.string c.s) ∧ w.cell? ⟨B, 1, none⟩ = some (.int .i64 c.fl) ∧ w.cell? ⟨B, 8, none⟩ = some (.int .i64 (p.at_ : Int)) ∧ w.cell? ⟨B, 9, none⟩ = some (.int .i64 (p.st : Int)) ∧ w.cell? ⟨B, 10, none⟩ = some (.int .i64 (p.gr : Int)) ∧ w.cell? ⟨B, 11, none⟩ = some (.int .i64 (p.opn : Int)) ∧ w.cell? ⟨B, 22, none⟩ = some (.int .i64 p.err) ∧ w.cell? ⟨B, 23, none⟩ = some (.int .i64 (p.ea : Int))) ∧ ∀ j, w.frozen? ⟨B, j, none⟩ = false :=
  ⟨⟨h.s, h.fl, h.at_, h.st, h.gr, h.opn, h.err, h.ea⟩, h.free⟩
def maxAt (w : World) : Prop := ∃ m : Int, w.cell? ⟨2, 0, none⟩ = some (.int .i64 m)
theorem max_keep {w w' : World} (h : maxAt w) (hb : Below w.heap.size w w') : maxAt w' := by
  obtain ⟨m, h⟩ := h
  exact ⟨m, keep_words hb h⟩
def LK (w : World) (B : Nat) (c : CX) (V : LV) : Prop := ∃ w0, LocM w0 c.L V.W V.C V.E ∧ (tabAt w0 ∧ maxAt w0) ∧ ltabAt w0 ∧ w0.heap.size ≤ B ∧ Below w0.heap.size w0 w
theorem LK.only {w w' : World} {B : Nat} {c : CX} {V : LV} (h : LK w B c V) (k : Only B w w') : LK w' B c V := by
  obtain ⟨w0, h1, h2, h3, h4, h5⟩ := h
  exact ⟨w0, h1, h2, h3, h4, ⟨k.os.trans h5.os, k.tape.trans h5.tape, k.output.trans h5.output, Nat.le_trans h5.size k.size, fun g hg => (k.block g (Nat.lt_of_lt_of_le hg h5.size) (by omega)).trans (h5.block g hg)⟩⟩
theorem LK.loc {w : World} {B : Nat} {c : CX} {V : LV} (h : LK w B c V) : LocM w c.L V.W V.C V.E := by
  obtain ⟨w0, h1, h2, h3, h4, h5⟩ := h
  exact h1.below h5
theorem LK.tab {w : World} {B : Nat} {c : CX} {V : LV} (h : LK w B c V) : tabAt w := by
  obtain ⟨w0, h1, h2, h3, h4, h5⟩ := h
  exact tab_keep h2.1 h5
theorem LK.max {w : World} {B : Nat} {c : CX} {V : LV} (h : LK w B c V) : maxAt w := by
  obtain ⟨w0, h1, h2, h3, h4, h5⟩ := h
  exact max_keep h2.2 h5
theorem LK.ltab {w : World} {B : Nat} {c : CX} {V : LV} (h : LK w B c V) : ltabAt w := by
  obtain ⟨w0, h1, h2, h3, h4, h5⟩ := h
  exact ltab_keep h3 h5
structure PM (w : World) (B : Nat) (c : CX) (V : LV) (p : PS) : Prop where
  pa : PA w B c V p
  lk : LK w B c V
  sz : c.s.size ≤ 256
  at_ : p.at_ ≤ c.s.size
  st : p.st ≤ p.at_
  gr : p.gr ≤ 9
  opn : p.opn ≤ p.gr
theorem PM.lt {w : World} {B : Nat} {c : CX} {V : LV} {p : PS} (h : PM w B c V p) : B < w.heap.size := h.pa.lt
theorem PM.below {w w' : World} {B : Nat} {c : CX} {V : LV} {p : PS} (h : PM w B c V p) (hb : Below w.heap.size w w') : PM w' B c V p := ⟨h.pa.below hb, h.lk.only (.of_below hb), h.sz, h.at_, h.st, h.gr, h.opn⟩
theorem PM.drew {w : World} {B : Nat} {c : CX} {V : LV} {p : PS} (h : PM w B c V p) : PM w.drew B c V p := ⟨h.pa, h.lk.only ⟨rfl, rfl, rfl, Nat.le_refl _, fun _ _ _ => rfl⟩, h.sz, h.at_, h.st, h.gr, h.opn⟩
theorem PM.putAt {w : World} {B : Nat} {c : CX} {V : LV} {p : PS} (h : PM w B c V p) (n : Nat) (h1 : n ≤ c.s.size) (h2 : p.st ≤ n) : PM (w.setCell ⟨B, 8, none⟩ (.int .i64 (n : Int))) B c V { p with at_ := n } :=
  ⟨h.pa.putAt n, h.lk.only ((Only.refl B w).put 8 _), h.sz, h1, h2, h.gr, h.opn⟩
theorem Only.drew {B : Nat} {a w : World} (h : Only B a w) : Only B a w.drew := ⟨h.os, h.tape, h.output, h.size, h.block⟩
def Stp (w : World) (B : Nat) (c : CX) (V : LV) (p' : PS) (w' : World) : Prop := PM w' B c V p' ∧ Only B w w'
end Go.Proofs.YtphiaagppcbefaaGreatDoor
namespace Go.Proofs.YtphiaagppcbefaaGreatDoor
open Go.RowKit
def fits (n : Int) : Prop := -9223372036854775808 ≤ n ∧ n ≤ 9223372036854775807
instance (n : Int) : Decidable (fits n) := by unfold fits; infer_instance
theorem toInt_of (x : Int) (h : fits x) : (BitVec.ofInt 64 x).toInt = x := by
  unfold fits at h
  rw [BitVec.toInt_ofInt, Int.bmod_def]
  split <;> omega
theorem wrap_toNat (v : BitVec 64) : IntKind.i64.wrap (v.toNat : Int) = v.toInt := by
  rw [BitVec.toInt_eq_toNat_cond]
  have := v.isLt
  simp [IntKind.wrap, IntKind.bits, IntKind.signed]
  split <;> split <;> omega
theorem msb_of (x : Int) (h : fits x) : (BitVec.ofInt 64 x).msb = decide (x < 0) := by
  rw [BitVec.msb_eq_toInt, toInt_of x h]
theorem xor_neg (x y : Int) (hx : fits x) (hy : fits y) : bits .xor .i64 x y < 0 ↔ (decide (x < 0) ^^ decide (y < 0)) = true := by
  show IntKind.i64.wrap ((BitVec.ofInt 64 x ^^^ BitVec.ofInt 64 y).toNat : Int) < 0 ↔ _
  rw [wrap_toNat, ← msb_of x hx, ← msb_of y hy, ← BitVec.msb_xor, BitVec.msb_eq_toInt]
  simp
theorem and_neg (x y : Int) (hx : fits x) (hy : fits y) : bits .and .i64 x y < 0 ↔ x < 0 ∧ y < 0 := by
  show IntKind.i64.wrap ((BitVec.ofInt 64 x &&& BitVec.ofInt 64 y).toNat : Int) < 0 ↔ _
  rw [wrap_toNat]
  have : ((BitVec.ofInt 64 x &&& BitVec.ofInt 64 y).msb = true) ↔ (x < 0 ∧ y < 0) := by
    rw [BitVec.msb_and, msb_of x hx, msb_of y hy]; simp
  rw [← this, BitVec.msb_eq_toInt]
  simp
theorem bits_fits (op : BinOp) (x y : Int) : fits (bits op .i64 x y) := ⟨bits_lo_i64 op x y, bits_hi_i64 op x y⟩
theorem wrap64_fits (n : Int) : fits (wrap64 n) := by unfold fits wrap64; omega
theorem sub_test (a b : Int) (ha : fits a) (hb : fits b) : bits .and .i64 (bits .xor .i64 a b) (bits .xor .i64 a (wrap64 (a - b))) < 0 ↔ ¬ fits (a - b) := by
  rw [and_neg _ _ (bits_fits ..) (bits_fits ..), xor_neg _ _ ha hb, xor_neg _ _ ha (wrap64_fits _)]
  unfold fits at *
  have h : wrap64 (a - b) = (a - b + 9223372036854775808) % 18446744073709551616 - 9223372036854775808 := by unfold wrap64; rfl
  by_cases h1 : wrap64 (a - b) < 0 <;> by_cases h2 : a < 0 <;> by_cases h3 : b < 0 <;> simp [h1, h2, h3] <;> omega
def subV (a b : Int) : Int := if fits (a - b) then a - b else 0
def subE (a b : Int) : Int := if fits (a - b) then 0 else 9
def mulV (a b : Int) : Int := if fits (a * b) then a * b else 0
def mulE (a b : Int) : Int := if fits (a * b) then 0 else 9
def leastB (a b : Int) : Bool := a == -9223372036854775808 && b == -1
theorem leastB_iff (a b : Int) : leastB a b = true ↔ (a = -9223372036854775808 ∧ b = -1) := by unfold leastB; simp
theorem leastB_not (a b : Int) : leastB a b = false ↔ ¬ (a = -9223372036854775808 ∧ b = -1) := by rw [← leastB_iff]; simp
theorem mul_fits_div (a b : Int) (hb : b ≠ 0) : (a * b).tdiv b = a := Int.mul_tdiv_cancel a hb
theorem tdiv_fits (a b : Int) (ha : fits a) (h : ¬ (a = -9223372036854775808 ∧ b = -1)) : fits (a.tdiv b) := by
  unfold fits at *
  by_cases hb : b = -1
  · subst hb
    rw [Int.tdiv_neg, Int.tdiv_one]
    omega
  · have h1 : (a.tdiv b).natAbs = a.natAbs / b.natAbs := Int.natAbs_tdiv a b
    by_cases hz : b = 0
    · subst hz; rw [Int.tdiv_zero]; omega
    · by_cases hm : a = -9223372036854775808
      · have hb2 : 2 ≤ b.natAbs ∨ b = 1 := by omega
        rcases hb2 with hb2 | rfl
        · have : a.natAbs / b.natAbs ≤ a.natAbs / 2 := Nat.div_le_div_left hb2 (by omega)
          omega
        · rw [Int.tdiv_one]; omega
      · have : a.natAbs / b.natAbs ≤ a.natAbs := Nat.div_le_self _ _
        omega
theorem mul_test (a b : Int) (hb : fits b) (h0 : b ≠ 0) (hx : ¬ (a = -9223372036854775808 ∧ b = -1)) (h : (wrap64 (a * b)).tdiv b = a) : fits (a * b) := by
  have hw : wrap64 (a * b) = (a * b + 9223372036854775808) % 18446744073709551616 - 9223372036854775808 := by unfold wrap64; rfl
  have hf := wrap64_fits (a * b)
  generalize hW : wrap64 (a * b) = W at *
  have hd : W = b * a + W.tmod b := by
    have := Int.mul_tdiv_add_tmod W b
    rw [h] at this; omega
  have hr : (W.tmod b).natAbs < b.natAbs := by
    rw [Int.natAbs_tmod]; exact Nat.mod_lt _ (by omega)
  rw [Int.mul_comm b a] at hd
  unfold fits at *
  generalize a * b = P at *
  omega
theorem mul_quo_fits (a b : Int) (ha : fits a) (hx : ¬ (a = -9223372036854775808 ∧ b = -1)) : fits ((wrap64 (a * b)).tdiv b) := by
  apply tdiv_fits _ _ (wrap64_fits _)
  rintro ⟨h1, h2⟩
  subst h2
  have hw : wrap64 (a * -1) = (a * -1 + 9223372036854775808) % 18446744073709551616 - 9223372036854775808 := by unfold wrap64; rfl
  unfold fits at ha
  omega
theorem mul_quo (a b : Int) (hb : fits b) (h0 : b ≠ 0) (hx : ¬ (a = -9223372036854775808 ∧ b = -1)) : ((wrap64 (a * b)).tdiv b = a) ↔ fits (a * b) := by
  constructor
  · intro h; exact mul_test a b hb h0 hx h
  · intro h
    rw [IntWalk.wrap64_in _ h]
    exact mul_fits_div a b h0
theorem least_fits : ¬ fits (-9223372036854775808 * -1) := by decide
theorem mul_zero_fits (a : Int) : fits (a * 0) := by unfold fits; omega
end Go.Proofs.YtphiaagppcbefaaGreatDoor
namespace Go.Proofs.YtphiaagppcbefaaGreatDoor
open Go.RowKit
set_option maxHeartbeats 400000 in
theorem sub_any (a b : Int) (w : World) (ha : fits a) (hb : fits b) :
    Calls Tryz.prog 156 #[.int .i64 a, .int .i64 b] w fun e w' => e = .returned (.tuple #[.int .i64 (subV a b), .int .i64 (subE a b)]) ∧ w = w' := by
  have ht := sub_test a b ha hb
  unfold subV subE
  by_cases h : fits (a - b)
  · rw [if_pos h, if_pos h]
    have h1 : ¬ bits .and .i64 (bits .xor .i64 a b) (bits .xor .i64 a (a - b)) < 0 := by
      rw [IntWalk.wrap64_in _ h] at ht
      exact fun hc => (ht.1 hc) h
    obtain ⟨h2, h3⟩ := h
    clear ht ha hb
    go_enter Tryz.func156, Tryz.ntmps156
    go_wp2
    go_ret2
    exact ⟨rfl, rfl⟩
  · rw [if_neg h, if_neg h]
    have h1 := ht.2 h
    clear ht ha hb h
    go_enter Tryz.func156, Tryz.ntmps156
    go_wp2
    go_ret2
    exact ⟨rfl, rfl⟩
set_option maxHeartbeats 400000 in
theorem least_any (a b : Int) (w : World) :
    Calls Tryz.prog 176 #[.int .i64 a, .int .i64 b] w fun e w' => e = .returned (.bool (leastB a b)) ∧ w = w' := by
  unfold leastB
  by_cases h : (a == -9223372036854775808) = true
  · rw [h]
    obtain rfl : a = -9223372036854775808 := by simpa using h
    clear h
    go_enter Tryz.func176, Tryz.ntmps176
    go_wp2
    go_ret
    exact ⟨by simp, rfl⟩
  · have h1 : (a == -9223372036854775808) = false := by simpa using h
    rw [h1]
    clear h
    go_enter Tryz.func176, Tryz.ntmps176
    go_wp2
    go_ret
    exact ⟨by simp, rfl⟩
theorem least_no (a b : Int) (w : World) (h : leastB a b = false) :
    Calls Tryz.prog 176 #[.int .i64 a, .int .i64 b] w fun e w' => e = .returned (.bool false) ∧ w = w' :=
  (least_any a b w).mono fun e w' ⟨h1, h2⟩ => ⟨by rw [h1, h], h2⟩
set_option maxHeartbeats 400000 in
theorem mul_any (a b : Int) (w : World) (ha : fits a) (hb : fits b) :
    Calls Tryz.prog 167 #[.int .i64 a, .int .i64 b] w fun e w' => e = .returned (.tuple #[.int .i64 (mulV a b), .int .i64 (mulE a b)]) ∧ w = w' := by
  unfold mulV mulE
  by_cases h0 : b = 0
  · subst h0
    rw [if_pos (mul_zero_fits a), if_pos (mul_zero_fits a), Int.mul_zero]
    clear ha hb
    go_enter Tryz.func167, Tryz.ntmps167
    go_wp2
    go_ret2
    exact ⟨rfl, rfl⟩
  · have hb0 : (b == 0) = false := by simpa using h0
    by_cases hx : a = -9223372036854775808 ∧ b = -1
    · obtain ⟨rfl, rfl⟩ := hx
      rw [if_neg least_fits, if_neg least_fits]
      clear h0 hb0 ha hb
      go_enter Tryz.func167, Tryz.ntmps167
      go_wp2
      go_ret2
      exact ⟨rfl, rfl⟩
    · have hq := mul_quo a b hb h0 hx
      have hf := mul_quo_fits a b ha hx
      have hl := (leastB_not a b).2 hx
      have HL : Hid (leastB a b = false) := hl
      clear hl
      by_cases h : fits (a * b)
      · rw [if_pos h, if_pos h]
        have h2 := hq.2 h
        rw [IntWalk.wrap64_in _ h] at h2 hf
        obtain ⟨h4, h5⟩ := h
        obtain ⟨h6, h7⟩ := ha
        clear hq h2 hx hf hb
        go_enter Tryz.func167, Tryz.ntmps167
        go_wp2_with (go_at_call 176; refine (least_no _ _ _ HL.out).mono ?_; rintro e w' ⟨rfl, rfl⟩)
        go_ret2
        exact ⟨rfl, rfl⟩
      · rw [if_neg h, if_neg h]
        have h2 : ¬ (wrap64 (a * b)).tdiv b = a := fun hc => h (hq.1 hc)
        have h3 : ((wrap64 (a * b)).tdiv b != a) = true := by simpa using h2
        obtain ⟨h6, h7⟩ := hf
        clear hq h2 hx ha hb h
        go_enter Tryz.func167, Tryz.ntmps167
        go_wp2_with (go_at_call 176; refine (least_no _ _ _ HL.out).mono ?_; rintro e w' ⟨rfl, rfl⟩)
        go_ret2
        exact ⟨rfl, rfl⟩
end Go.Proofs.YtphiaagppcbefaaGreatDoor
