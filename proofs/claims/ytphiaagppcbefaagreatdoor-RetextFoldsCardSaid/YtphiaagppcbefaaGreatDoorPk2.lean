/- CsRow, LcCheck, LcOwn. -/
import Derived.Test.YtphiaagppcbefaaGreatDoorRows
import Derived.Test.YtphiaagppcbefaaGreatDoorPk1
import Derived.Laws.CopyOwn
import Derived.Laws.Rows
import Derived.Laws.Tables
import Derived.Laws.World
import Derived.Laws.OwnMore
import Derived.Laws.AppendOwnNone
import Derived.Laws.IdiomStrings
import Derived.Lib.AppendStr
import Derived.Lib.SmallJoins
import Derived.OwnWalk
namespace Go.Proofs.YtphiaagppcbefaaGreatDoor
open Go.RowKit
theorem cl_size (p : Nat → Bool) : (cl p).size = 4 := rfl
theorem cl_one (p : Nat → Bool) : (cl p).all (·.oneCell') = true := by simp [cl, Value.oneCell']
theorem info_cs : (Tryz.prog.info? 32).map (·.size) = some 4 := by kernel_rfl
def At (w : World) (g : Nat) (p : Nat → Bool) : Prop := w.heap[g]? = some (.cells (cl p) 32 (0, 0))
theorem At.lt {w : World} {g : Nat} {p : Nat → Bool} (h : At w g p) : g < w.heap.size := (Array.getElem?_eq_some_iff.1 h).1
theorem At.new (w : World) (p : Nat → Bool) : At (w.alloc (.cells (cl p) 32)) w.heap.size p := heap_alloc_new w _
theorem At.alloc {w : World} {g : Nat} {p : Nat → Bool} (h : At w g p) (o : Obj) : At (w.alloc o) g p := (Below.heap_alloc w o g h.lt).trans h
theorem At.below {w w' : World} {g : Nat} {p : Nat → Bool} (h : At w g p) {B : Nat} (hb : Below B w w') (hB : g < B) : At w' g p := (hb.block g hB).trans h
theorem At.set {w : World} {g : Nat} {p : Nat → Bool} (h : At w g p) (q : Nat → Bool) : At (w.setRow g (cl q)) g q := setRow_heap w g _ _ _ _ h
theorem At.other {w : World} {g k : Nat} {p : Nat → Bool} (h : At w g p) (c : Array Value) (hk : g ≠ k) : At (w.setRow k c) g p := (setRow_other w k g c hk).trans h
theorem At.cell {w : World} {g : Nat} {p : Nat → Bool} (h : At w g p) (j : Nat) : w.cell? ⟨g, j, none⟩ = (cl p)[j]? := cell_of_row w g j _ _ _ h
theorem At.free {w : World} {g : Nat} {p : Nat → Bool} (h : At w g p) (j : Nat) : w.frozen? ⟨g, j, none⟩ = false := frozen_of_row w g j _ _ h
theorem cl_zero : (#[.int .u64 0, .int .u64 0, .int .u64 0, .int .u64 0] : Array Value) = cl (fun _ => false) := by
  simp [cl, wd_none]
theorem cl_get (p : Nat → Bool) (j : Nat) (hj : j < 4) : (cl p)[j]? = some (.int .u64 ((wd p (64 * j) 64 : Nat) : Int)) := by
  match j, hj with
  | 0, _ => rfl
  | 1, _ => rfl
  | 2, _ => rfl
  | 3, _ => rfl
theorem cl_congr (p q : Nat → Bool) (h : ∀ c, c < 256 → p c = q c) : cl p = cl q := by
  unfold cl
  rw [wd_congr p q 0 64 fun k hk => h _ (by omega), wd_congr p q 64 64 fun k hk => h _ (by omega), wd_congr p q 128 64 fun k hk => h _ (by omega), wd_congr p q 192 64 fun k hk => h _ (by omega)]
theorem cs_congr (p q : Nat → Bool) (h : ∀ c, c < 256 → p c = q c) : cs p = cs q := by
  unfold cs
  rw [cl_congr p q h]
theorem cl_set (p q : Nat → Bool) (j : Nat) (hj : j < 4) (h : ∀ c, c < 256 → c / 64 ≠ j → p c = q c) (v : Value) (hv : v = .int .u64 ((wd q (64 * j) 64 : Nat) : Int)) : (cl p).setIfInBounds j v = cl q := by
  subst hv
  match j, hj with
  | 0, _ =>
    unfold cl
    rw [wd_congr p q 64 64 fun k hk => h _ (by omega) (by omega), wd_congr p q 128 64 fun k hk => h _ (by omega) (by omega), wd_congr p q 192 64 fun k hk => h _ (by omega) (by omega)]
    simp
  | 1, _ =>
    unfold cl
    rw [wd_congr p q 0 64 fun k hk => h _ (by omega) (by omega), wd_congr p q 128 64 fun k hk => h _ (by omega) (by omega), wd_congr p q 192 64 fun k hk => h _ (by omega) (by omega)]
    simp
  | 2, _ =>
    unfold cl
    rw [wd_congr p q 0 64 fun k hk => h _ (by omega) (by omega), wd_congr p q 64 64 fun k hk => h _ (by omega) (by omega), wd_congr p q 192 64 fun k hk => h _ (by omega) (by omega)]
    simp
  | 3, _ =>
    unfold cl
    rw [wd_congr p q 0 64 fun k hk => h _ (by omega) (by omega), wd_congr p q 64 64 fun k hk => h _ (by omega) (by omega), wd_congr p q 128 64 fun k hk => h _ (by omega) (by omega)]
    simp
theorem At.word {w : World} {g : Nat} {p : Nat → Bool} (hA : At w g p) (q : Nat → Bool) (j : Nat) (hj : j < 4) (h : ∀ c, c < 256 → c / 64 ≠ j → p c = q c) (v : Value) (hv : v = .int .u64 ((wd q (64 * j) 64 : Nat) : Int)) : At (w.setCell ⟨g, j, none⟩ v) g q :=
  (heap_setCell_same w g j _ _ v hA).trans (by rw [cl_set p q j hj h v hv])
theorem At.apart {w : World} {g k j : Nat} {p : Nat → Bool} (hA : At w g p) (v : Value) (hk : g ≠ k) : At (w.setCell ⟨k, j, none⟩ v) g p :=
  (Below.heap_setCell w ⟨k, j, none⟩ v g hk).trans hA
theorem At.got {w : World} {g : Nat} {p : Nat → Bool} (hA : At w g p) (j : Nat) (hj : j < 4) : w.cell? ⟨g, j, none⟩ = some (.int .u64 ((wd p (64 * j) 64 : Nat) : Int)) := (hA.cell j).trans (cl_get p j hj)
def ins (p : Nat → Bool) (c : Nat) : Nat → Bool := fun x => p x || x == c
theorem ins_other (p : Nat → Bool) (c : Nat) : ∀ x, x < 256 → x / 64 ≠ c / 64 → p x = ins p c x := by
  intro x _ hx
  have : ¬ x = c := fun e => hx (by rw [e])
  simp [ins, this]
theorem wd_ins_or (p : Nat → Bool) (c : Nat) : wd p (64 * (c / 64)) 64 ||| 2 ^ (c % 64) = wd (ins p c) (64 * (c / 64)) 64 := by
  rw [wd_one, wd_or]
  rfl
theorem wd_ins_any (p : Nat → Bool) (c b n : Nat) (hp : p c = false) : wd (ins p c) b n = wd p b n + (if b ≤ c ∧ c < b + n then 2 ^ (c - b) else 0) := by
  induction n with
  | zero =>
    have : ¬ (b ≤ c ∧ c < b + 0) := by omega
    rw [if_neg this]
    rfl
  | succ n ih =>
    simp only [wd, ih]
    by_cases h : b + n = c
    · have h1 : ¬ (b ≤ c ∧ c < b + n) := by omega
      have h2 : b ≤ c ∧ c < b + (n + 1) := by omega
      have h3 : c - b = n := by omega
      rw [if_neg h1, if_pos h2, h, hp, h3]
      simp [ins]
    · have e : ins p c (b + n) = p (b + n) := by simp [ins, h]
      rw [e]
      by_cases h1 : b ≤ c ∧ c < b + n
      · have h2 : b ≤ c ∧ c < b + (n + 1) := by omega
        rw [if_pos h1, if_pos h2]
        omega
      · have h2 : ¬ (b ≤ c ∧ c < b + (n + 1)) := by omega
        rw [if_neg h1, if_neg h2]
        omega
theorem wd_ins_add (p : Nat → Bool) (c : Nat) (hp : p c = false) : wd p (64 * (c / 64)) 64 + 2 ^ (c % 64) = wd (ins p c) (64 * (c / 64)) 64 := by
  rw [wd_ins_any p c _ _ hp, if_pos (by omega)]
  congr 2
  omega
theorem ins_same (p : Nat → Bool) (c : Nat) (hp : p c = true) : ins p c = p := by
  funext x
  unfold ins
  by_cases h : x = c
  · simp [h, hp]
  · simp [h]
theorem At.words {w : World} {g : Nat} {p : Nat → Bool} (hA : At w g p) : (w.cell? ⟨g, 0, none⟩ = some (.int .u64 ((wd p 0 64 : Nat) : Int)) ∧ w.cell? ⟨g, 1, none⟩ = some (.int .u64 ((wd p 64 64 : Nat) : Int))) ∧
    (w.cell? ⟨g, 2, none⟩ = some (.int .u64 ((wd p 128 64 : Nat) : Int)) ∧ w.cell? ⟨g, 3, none⟩ = some (.int .u64 ((wd p 192 64 : Nat) : Int))) ∧ ∀ j, w.frozen? ⟨g, j, none⟩ = false :=
  ⟨⟨hA.got 0 (by decide), hA.got 1 (by decide)⟩, ⟨hA.got 2 (by decide), hA.got 3 (by decide)⟩, hA.free⟩
def put4 (w : World) (g : Nat) (q : Nat → Bool) : World :=
  ((((w.setCell ⟨g, 0, none⟩ (.int .u64 ((wd q 0 64 : Nat) : Int))).setCell ⟨g, 1, none⟩ (.int .u64 ((wd q 64 64 : Nat) : Int))).setCell ⟨g, 2, none⟩ (.int .u64 ((wd q 128 64 : Nat) : Int))).setCell ⟨g, 3, none⟩ (.int .u64 ((wd q 192 64 : Nat) : Int)))
theorem At.put4 {w : World} {g : Nat} {r : Nat → Bool} (hA : At w g r) (q : Nat → Bool) : At (put4 w g q) g q := by
  have h1 := heap_setCell_same w g 0 _ _ (.int .u64 ((wd q 0 64 : Nat) : Int)) hA
  have h2 := heap_setCell_same _ g 1 _ _ (.int .u64 ((wd q 64 64 : Nat) : Int)) h1
  have h3 := heap_setCell_same _ g 2 _ _ (.int .u64 ((wd q 128 64 : Nat) : Int)) h2
  have h4 := heap_setCell_same _ g 3 _ _ (.int .u64 ((wd q 192 64 : Nat) : Int)) h3
  refine Eq.trans h4 ?_
  simp [cl]
theorem below_put4 {B : Nat} {a w : World} (h : Below B a w) (g : Nat) (hB : B ≤ g) (q : Nat → Bool) : Below B a (put4 w g q) :=
  (((h.setCell (p := ⟨g, 0, none⟩) hB _).setCell (p := ⟨g, 1, none⟩) hB _).setCell (p := ⟨g, 2, none⟩) hB _).setCell (p := ⟨g, 3, none⟩) hB _
theorem At.put4_other {w : World} {g k : Nat} {p : Nat → Bool} (hA : At w g p) (hk : g ≠ k) (q : Nat → Bool) : At (Go.Proofs.YtphiaagppcbefaaGreatDoor.put4 w k q) g p :=
  (((hA.apart _ hk).apart _ hk).apart _ hk).apart _ hk
theorem ret_cs {fn : Func} {t0 : Tmp} (hr : fn.results = #[.cell t0 32]) (tmps : Array Value) (w : World) (g : Nat) (q : Nat → Bool) (hp : tmps.getD t0 undef = .pointer (some ⟨g, 0, none⟩)) (hA : At w g q) :
    (results fn tmps).run Tryz.prog w = .ok (cs q) w :=
  results_cell_row hr tmps w g _ (cl q) (0, 0) _ hp hA Tryz.underlying32 rfl info_cs
end Go.Proofs.YtphiaagppcbefaaGreatDoor
set_option linter.unusedVariables false
namespace Go.Proofs.YtphiaagppcbefaaGreatDoor
open Go.RowKit
structure Loc where
  name : ByteArray
  lower : ByteArray
  upper : ByteArray
  nw : Nat
  wt : Nat → Int
  nc : Nat
  cn : Nat → ByteArray
  cset : Nat → Nat → Bool
  ne : Nat
  et : Nat → ByteArray
  ew : Nat → Int
def wtF (L : Loc) : Nat → Nat → Value := fun j _ => .int .i64 (L.wt j)
def clsF (L : Loc) : Nat → Nat → Value := fun j i => if i = 0 then .string (L.cn j) else .int .u64 ((wd (L.cset j) (64 * (i - 1)) 64 : Nat) : Int)
def elmF (L : Loc) : Nat → Nat → Value := fun j i => if i = 0 then .string (L.et j) else .int .i64 (L.ew j)
def LocM (w : World) (L : Loc) (W C E : Value) : Prop := SL 1 L.nw (wtF L) w W ∧ SL 5 L.nc (clsF L) w C ∧ SL 2 L.ne (elmF L) w E
theorem LocM.below {w w' : World} {L : Loc} {W C E : Value} (h : LocM w L W C E) (hb : Below w.heap.size w w') : LocM w' L W C E := ⟨h.1.below hb, h.2.1.below hb, h.2.2.below hb⟩
def lcl (L : Loc) (W C E : Value) : Array Value := #[.string L.name, W, .string L.lower, .string L.upper, C, E]
def wtAt (x : Nat → Int) (i : Nat) : Int := if (decide (0 ≤ x i) && decide (x i ≤ 65535)) = true then 0 else 2
def chk (L : Loc) : Int :=
  if nmB L.name = true then
    if L.nw = 256 then
      if firstErr (wtAt L.wt) 256 = 0 then
        if L.lower.size = 256 ∧ L.upper.size = 256 then
          if clsErr L.nc L.cn = 0 then elmErr L.ne L.et L.ew else clsErr L.nc L.cn
        else 2
      else firstErr (wtAt L.wt) 256
    else 2
  else 4
set_option maxRecDepth 100000 in
set_option maxHeartbeats 8000000 in
theorem check_any (L : Loc) (W C E : Value) (w : World) (hM : LocM w L W C E) :
    Calls Tryz.prog 59 #[.agg (lcl L W C E)] w fun e w' => e = .returned (.int .i64 (chk L)) ∧ Below w.heap.size w w' := by
  have hB : Below w.heap.size w (w.alloc (.cells (lcl L W C E) 26)) := (Below.refl _ _).alloc (Nat.le_refl _) _
  have HM := Lib.hid (hM.below hB)
  have HB := Lib.hid hB
  obtain ⟨⟨aw, capw, rfl, hcw, hw⟩, hC, hE⟩ := hM
  have HNm := Lib.hid (isName_any L.name)
  obtain ⟨R, hR⟩ : ∃ R, chk L = R := ⟨_, rfl⟩
  rw [hR]
  have HR := Lib.hid hR
  clear hR hB hC hE
  unfold lcl at *
  by_cases hn : nmB L.name = true
  · rw [hn] at HNm
    by_cases h256 : L.nw = 256
    · rw [h256] at hw
      rcases hw with hw | ⟨b, off, rfl, hlt, hw⟩
      · omega
      have HW := Lib.hid hw
      have hchk : R = if firstErr (wtAt L.wt) 256 = 0 then (if L.lower.size = 256 ∧ L.upper.size = 256 then (if clsErr L.nc L.cn = 0 then elmErr L.ne L.et L.ew else clsErr L.nc L.cn) else 2) else firstErr (wtAt L.wt) 256 := by
        rw [← HR.out]
        unfold chk
        rw [if_pos hn, if_pos h256]
      have HK := Lib.hid hchk
      have HLt := Lib.hid hlt
      rw [h256] at HM HB ⊢
      clear hw hn h256 hchk hcw hlt
      go_enter Tryz.func59, Tryz.ntmps59
      go_wp2_with (first | (go_at_call 78; refine (HNm.out _).mono ?_; rintro e w1 ⟨rfl, rfl⟩))
      go_loopw [3] (fun i wr => ∃ k : Nat, k ≤ 256 ∧ i = .int .i64 k ∧ Hid (firstErr (wtAt L.wt) k = 0) ∧ wr = w.alloc (.cells #[.string L.name, .slice (some ⟨b, off, none⟩) 256 capw, .string L.lower, .string L.upper, C, E] 26)) (fun i _ => 256 - (intOf i).toNat)
      case atStart => exact ⟨0, Nat.zero_le _, rfl, rfl, rfl⟩
      case round =>
        obtain ⟨k, hk, rfl, HE, rfl⟩ := hrel
        by_cases hk2 : k < 256
        · have ki : (k : Int) < 256 := by omega
          have ki0 : (0 : Int) ≤ k := by omega
          have ck : (w.alloc (.cells #[.string L.name, .slice (some ⟨b, off, none⟩) 256 capw, .string L.lower, .string L.upper, C, E] 26)).cell? ⟨b, off + k, none⟩ = some (.int .i64 (L.wt k)) := by
            have h1 := HW.out k 0 hk2 (by decide)
            have h2 : w.cell? ⟨b, off + k, none⟩ = some (.int .i64 (L.wt k)) := by simpa [wtF] using h1
            exact (Below.cell ((Below.refl w.heap.size w).alloc (Nat.le_refl _) _) (by exact HLt.out)).trans h2
          have HLi := Lib.hid (light_any (L.wt k))
          obtain ⟨B, hB⟩ : ∃ B, (decide (0 ≤ L.wt k) && decide (L.wt k ≤ 65535)) = B := ⟨_, rfl⟩
          rw [hB] at HLi
          have HBn := Lib.hid hB
          clear hB
          by_cases hb : B = true
          · subst hb
            have HF : Hid (wtAt L.wt k = 0) := by
              show wtAt L.wt k = 0
              unfold wtAt
              rw [if_pos HBn.out]
            go_wp2_with (first | (go_at_call 79; refine (HLi.out _).mono ?_; rintro e w1 ⟨rfl, rfl⟩))
            go_roundw
            case rel => exact ⟨k + 1, by omega, by go_num, (firstErr_next _ k HE.out).trans HF.out, trivial⟩
            case measure => simp [intOf]; omega
          · have hbf : B = false := by simpa using hb
            subst hbf
            have HF : Hid (wtAt L.wt k = 2) := by
              show wtAt L.wt k = 2
              unfold wtAt
              rw [if_neg (by rw [HBn.out]; decide)]
            have HN : Hid (R = 2) := by
              have h2 : wtAt L.wt k ≠ 0 := by rw [HF.out]; decide
              have h3 := (firstErr_stop _ k 256 HE.out h2 hk2).trans HF.out
              show R = 2
              rw [HK.out, h3]
              rfl
            clear hb
            go_wp2_with (first | (go_at_call 79; refine (HLi.out _).mono ?_; rintro e w1 ⟨rfl, rfl⟩))
            go_ret
            exact ⟨by rw [HN.out]; rfl, HB.out⟩
        · obtain rfl : k = 256 := by omega
          have hK2 : R = if L.lower.size = 256 ∧ L.upper.size = 256 then (if clsErr L.nc L.cn = 0 then elmErr L.ne L.et L.ew else clsErr L.nc L.cn) else 2 := by
            rw [HK.out, if_pos HE.out]
          have HK2 := Lib.hid hK2
          clear hK2
          by_cases hl : L.lower.size = 256
          · have l1 : ((L.lower.size : Int) != 256) = false := by rw [bne_eq_false_iff_eq]; omega
            have l2 : (L.lower.size != 256) = false := by rw [bne_eq_false_iff_eq]; exact hl
            by_cases hu : L.upper.size = 256
            · have u1 : ((L.upper.size : Int) != 256) = false := by rw [bne_eq_false_iff_eq]; omega
              have u2 : (L.upper.size != 256) = false := by rw [bne_eq_false_iff_eq]; exact hu
              have hK3 : R = if clsErr L.nc L.cn = 0 then elmErr L.ne L.et L.ew else clsErr L.nc L.cn := by rw [HK2.out, if_pos ⟨hl, hu⟩]
              have HK3 := Lib.hid hK3
              have HCc := Lib.hid (checkClasses_any L.nc (clsF L) L.cn (fun j => rfl) C)
              have HEe := Lib.hid (checkElements_any L.ne (elmF L) L.et L.ew (fun j => rfl) (fun j => rfl) E)
              clear hK3 hl hu
              obtain ⟨X, hX⟩ : ∃ X, clsErr L.nc L.cn = X := ⟨_, rfl⟩
              rw [hX] at HCc HK3
              by_cases hx : X = 0
              · subst hx
                have HN : Hid (R = elmErr L.ne L.et L.ew) := by
                  show R = _
                  rw [HK3.out, if_pos rfl]
                clear hX
                go_wp2_with (first
                  | (go_at_call 80
                     refine (HCc.out _ (by exact HM.out.2.1)).mono ?_
                     rintro e w1 ⟨rfl, hb⟩
                     have c5 : w1.cell? ⟨w.heap.size, 5, none⟩ = some E := by
                       rw [hb.cell (by simp), cell_of_row _ w.heap.size 5 _ _ (0, 0) (heap_alloc_new w _)]
                       rfl
                     have HE1 := Lib.hid (HM.out.2.2.below hb)
                     have HB1 := Lib.hid (HB.out.trans (hb.mono HB.out.size))
                     clear hb)
                  | (go_at_call 81
                     refine (HEe.out _ (by exact HE1.out)).mono ?_
                     rintro e w2 ⟨rfl, hb⟩
                     have HB2 := Lib.hid (HB1.out.trans (hb.mono HB1.out.size))
                     clear hb))
                go_ret
                exact ⟨by rw [HN.out]; rfl, HB2.out⟩
              · have HN : Hid (R = X) := by
                  show R = X
                  rw [HK3.out, if_neg hx]
                have x1 : (X != 0) = true := by rw [bne_iff_ne]; exact hx
                clear hX hx
                go_wp2_with (first
                  | (go_at_call 80
                     refine (HCc.out _ (by exact HM.out.2.1)).mono ?_
                     rintro e w1 ⟨rfl, hb⟩
                     have HB1 := Lib.hid (HB.out.trans (hb.mono HB.out.size))
                     clear hb))
                go_ret
                exact ⟨by rw [HN.out]; rfl, HB1.out⟩
            · have u1 : ((L.upper.size : Int) != 256) = true := by rw [bne_iff_ne]; omega
              have u2 : (L.upper.size != 256) = true := by rw [bne_iff_ne]; exact hu
              have HN : Hid (R = 2) := by
                show R = 2
                rw [HK2.out, if_neg (fun h => hu h.2)]
              clear hu hl
              go_wp2
              go_ret
              exact ⟨by rw [HN.out]; rfl, HB.out⟩
          · have l1 : ((L.lower.size : Int) != 256) = true := by rw [bne_iff_ne]; omega
            have l2 : (L.lower.size != 256) = true := by rw [bne_iff_ne]; exact hl
            have HN : Hid (R = 2) := by
              show R = 2
              rw [HK2.out, if_neg (fun h => hl h.1)]
            clear hl
            go_wp2
            go_ret
            exact ⟨by rw [HN.out]; rfl, HB.out⟩
    · have HN : Hid (R = 2) := by
        show R = 2
        rw [← HR.out]
        unfold chk
        rw [if_pos hn, if_neg h256]
      have e1 : ((L.nw : Int) != 256) = true := by rw [bne_iff_ne]; omega
      have e2 : (L.nw != 256) = true := by rw [bne_iff_ne]; exact h256
      clear hn h256 hw hcw
      go_enter Tryz.func59, Tryz.ntmps59
      go_wp2_with (first | (go_at_call 78; refine (HNm.out _).mono ?_; rintro e w1 ⟨rfl, rfl⟩))
      go_ret
      exact ⟨by rw [HN.out]; rfl, HB.out⟩
  · have hn2 : nmB L.name = false := by simpa using hn
    have HN : Hid (R = 4) := by
      show R = 4
      rw [← HR.out]
      unfold chk
      rw [if_neg hn]
    rw [hn2] at HNm
    clear hn hn2 hw hcw
    go_enter Tryz.func59, Tryz.ntmps59
    go_wp2_with (first | (go_at_call 78; refine (HNm.out _).mono ?_; rintro e w1 ⟨rfl, rfl⟩))
    go_ret
    exact ⟨by rw [HN.out]; rfl, HB.out⟩
end Go.Proofs.YtphiaagppcbefaaGreatDoor
set_option linter.unusedVariables false
namespace Go.Proofs.YtphiaagppcbefaaGreatDoor
open Go.RowKit
theorem infoU : (Tryz.prog.info? 5).map (fun i => (i.zero, i.size, i.bytes)) = some (some (.int .u8 0), 1, 1) := by kernel_rfl
theorem infoI : (Tryz.prog.info? 3).map (fun i => (i.zero, i.size, i.bytes)) = some (some (.int .i64 0), 1, 8) := by kernel_rfl
def bys (l : List UInt8) : List Value := l.map fun c => .int .u8 (c.toNat : Int)
def nums (l : List Int) : List Value := l.map fun n => .int .i64 n
theorem bys_app (l r : List UInt8) : bys (l ++ r) = bys l ++ bys r := by unfold bys; rw [List.map_append]
theorem nums_app (l r : List Int) : nums (l ++ r) = nums l ++ nums r := by unfold nums; rw [List.map_append]
theorem add_at (g j : Nat) : (⟨g, 0, none⟩ : Addr).add j = ⟨g, j, none⟩ := by unfold Addr.add; split <;> simp_all
theorem row_cells (w : World) (cs : List Value) (t : TypeId) (j : Nat) (u : Value) (h : cs[j]? = some u) : (w.alloc (.cells cs.toArray t)).cell? ((⟨w.heap.size, 0, none⟩ : Addr).add j) = some u := by
  rw [add_at, cell_of_row _ w.heap.size j cs.toArray t (0, 0) (heap_alloc_new w _)]
  simpa using h
theorem own_under {w w' : World} {B n : Nat} {t : TypeId} {v : Value} {xs : List Value} (h : w.ownsRow B t 1 v n xs) (hb : Below w.heap.size w w') : w'.ownsRow B t 1 v n xs := by
  obtain ⟨h1, h2⟩ := h
  refine ⟨h1, ?_⟩
  rcases h2 with h2 | ⟨g, cap, cur, e, hB, hg, r⟩
  · exact .inl h2
  · exact .inr ⟨g, cap, cur, e, hB, (hb.block g (Array.getElem?_eq_some_iff.1 hg).1).trans hg, r⟩
theorem app_row (T E : TypeId) (z : Value) (bytes : Nat) (ht : Tryz.prog.underlying T = some (.slice E)) (hif : (Tryz.prog.info? E).map (fun i => (i.zero, i.size, i.bytes)) = some (some z, 1, bytes)) (hz : z.cells.size = 1)
    {W : World} {ops : Array Oper} {rest : List Oper} {o : Oper} {a : Act} {Q : Exit → Act → World → Prop} (w : World) (hgd : o.guard = none) (s x : Operand)
    (ho : o.op = .call { callee := .builtin .append, args := #[s, x], argTypes := #[T, T] })
    (B : Nat) (v : Value) (n m : Nat) (xs vs : List Value) (hW : W = w.alloc (.cells vs.toArray E)) (hs : a.eval s = v) (hown : w.ownsRow B E 1 v n xs) (hx : a.eval x = .slice (some ⟨w.heap.size, 0, none⟩) m m) (hm : vs.length = m) (h1 : ∀ u ∈ vs, u.oneCell' = true)
    (hB : B ≤ w.heap.size) (h63 : n + m ≤ maxLen) (hby : (n + m) * bytes ≤ 140737488355328)
    (h : ∀ v' w', w'.ownsRow B E 1 v' (n + m) (xs ++ vs) → (∀ A0, Below B A0 w → Below B A0 w') → wpList Tryz.prog ops Q rest (a.put o.dst v') w') :
    wpList Tryz.prog ops Q (o :: rest) a W := by
  subst hW
  obtain ⟨i0, hi, hz0, hz1, hz2⟩ := info_parts hif
  refine wpList_append_own _ hgd s x T ho B E i0 z 1 bytes ht hi hz0 hz1 hz2 hz (by decide) v n xs hs (hown.alloc _) ⟨w.heap.size, 0, none⟩ m m vs hx (by omega) (fun j u hu => row_cells w vs E j u hu) h1 h63 hby (by simp; omega) ?_
  intro v' w' hown' hgrow _
  exact h v' w' hown' fun A0 hb => (hb.alloc hB _).grown hgrow (by simp; omega) (fun j e => (hown.lt j e).1)
theorem conv_bys {w : World} {B n : Nat} {v : Value} {l : List UInt8} (h : w.ownsRow B 5 1 v n (bys l)) (hn : n = l.length) : (convert 62 9 v).run Tryz.prog w = .ok (.string ⟨l.toArray⟩) w := by
  subst hn
  rcases Joins.ownsRow_forms h with ⟨rfl, h0⟩ | ⟨g, cap, rfl⟩
  · have hl : l = [] := List.eq_nil_of_length_eq_zero h0
    subst hl
    rw [run_convert_bytes_string w 62 9 5 none 0 0 Tryz.underlying62 Tryz.underlying5 Tryz.underlying9]
    rfl
  · exact run_convert_bytes_back (P := Tryz.prog) w 62 9 5 ⟨g, 0, none⟩ cap l Tryz.underlying62 Tryz.underlying5 Tryz.underlying9 (fun j hj => h.cells rfl j _ (by
      unfold bys
      rw [List.getElem?_map, List.getElem?_eq_getElem hj]
      rfl))
def gb (T : ByteArray) (k : Nat) : UInt8 := T.data[k]?.getD 0
theorem gb_at (T : ByteArray) (k : Nat) (h : k < T.size) : gb T k = T[k] := by
  unfold gb
  rw [Array.getElem?_eq_getElem h]
  rfl
def mapT (T : ByteArray) (l : List UInt8) : List UInt8 := l.map fun c => gb T c.toNat
theorem map_next (T s : ByteArray) (k : Nat) (h : k < s.size) : mapT T (s.data.toList.take (k + 1)) = mapT T (s.data.toList.take k) ++ [gb T s[k].toNat] := by
  unfold mapT
  rw [List.take_add_one, List.getElem?_eq_getElem (by simpa using h), List.map_append]
  rfl
set_option maxRecDepth 100000 in
set_option maxHeartbeats 4000000 in
theorem mapped_any (T s : ByteArray) (hT : T.size = 256) (hs : s.size ≤ 140737488355328) (w : World) :
    Calls Tryz.prog 36 #[.string T, .string s] w fun e w' => e = .returned (.string ⟨(mapT T s.data.toList).toArray⟩) ∧ Below w.heap.size w w' := by
  obtain ⟨R, hR⟩ : ∃ R, R = mapT T s.data.toList := ⟨_, rfl⟩
  rw [← hR]
  have HR := Lib.hid hR
  clear hR
  have hsi : (s.size : Int) ≤ 140737488355328 := by omega
  have hTi : (T.size : Int) = 256 := by omega
  go_enter Tryz.func36, Tryz.ntmps36
  go_wp2
  go_loopw [5, 6] (fun o i wr => ∃ (k : Nat) (v : Value), v = o ∧ k ≤ s.size ∧ i = .int .i64 k ∧ Hid (wr.ownsRow w.heap.size 5 1 v k (bys (mapT T (s.data.toList.take k)))) ∧ Hid (Below w.heap.size w wr)) (fun _ i _ => s.size - (intOf i).toNat)
  case atStart => exact ⟨0, _, rfl, Nat.zero_le _, rfl, World.ownsRow_nil _ _ _ _, Below.refl _ _⟩
  case round =>
    obtain ⟨k, v, rfl, hk, rfl, HO, HB⟩ := hrel
    by_cases hlt : k < s.size
    · have hi : (k : Int) < s.size := by omega
      have hi0 : (0 : Int) ≤ k := by omega
      have hm := map_next T s k hlt
      rw [gb_at T s[k].toNat (by have := s[k].toNat_lt; omega)] at hm
      obtain ⟨c, hc⟩ : ∃ c, s[k].toNat = c := ⟨_, rfl⟩
      have c256 : (c : Int) < 256 := by have := s[k].toNat_lt; omega
      have c0 : (0 : Int) ≤ c := by omega
      simp only [hc] at hm
      have HM := Lib.hid hm
      clear hm
      go_wp2_with (first
        | (at_builtin; refine app_row 62 5 (.int .u8 0) 1 Tryz.underlying62 infoU rfl wr rfl _ _ rfl w.heap.size v _ _ _ _ rfl rfl HO.out rfl rfl ?c1 ?c0 ?c2 ?c3 ?_))
      case c1 => simp [Value.oneCell']
      case c0 => exact HB.out.size
      case c2 => unfold maxLen; omega
      case c3 => omega
      intro v' w' hown' hb'
      have HW := Lib.hid hown'
      have HB1 := Lib.hid (hb' w HB.out)
      clear hown' hb'
      go_wp2
      go_roundw
      case rel =>
        refine ⟨k + 1, _, rfl, by omega, by go_num, ?_, HB1.out⟩
        show World.ownsRow _ _ _ _ _ _ _
        rw [HM.out, bys_app]
        exact HW.out
      case measure => simp [intOf]; omega
    · obtain rfl : k = s.size := by omega
      have hcv := conv_bys HO.out (by unfold mapT; simp)
      rw [List.take_of_length_le (by simp), ← HR.out] at hcv
      go_wp2
      go_ret
      exact ⟨rfl, HB.out⟩
end Go.Proofs.YtphiaagppcbefaaGreatDoor
