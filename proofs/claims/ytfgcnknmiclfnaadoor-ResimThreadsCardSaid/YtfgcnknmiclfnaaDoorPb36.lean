/- RsRfa, RsRfb, RsRfc. -/
import Derived.Test.YtfgcnknmiclfnaaDoorPb31
import Derived.BigQuiet
set_option linter.unusedVariables false
set_option linter.unusedSimpArgs false
set_option maxRecDepth 100000
set_option maxHeartbeats 8000000
namespace Go.Proofs.YtfgcnknmiclfnaaDoor
open Go.RowKit
theorem ranch_any (pv : Value) (ln : Bool) (sv : ByteArray) (i : Nat) (o : Int) (w : World) (ho : o = 4 ∨ o = 5) (hi : i ≤ sv.size) (hs : sv.size ≤ 1000000000) :
    Calls Tryd.prog 86 #[.agg #[pv, .bool ln], .int .i64 o, .string sv, .int .i64 (i : Int)] w fun e w' => e = .returned (.bool (if o = 4 then bgB ln sv.data.toList i else enB ln sv.data.toList i)) ∧ Below w.heap.size w w' := by
  have hb := (Below.refl w.heap.size w).alloc (Nat.le_refl _) (.cells #[pv, .bool ln] 24)
  have hbx := heap_alloc_new w (.cells #[pv, .bool ln] 24)
  obtain ⟨W, hW⟩ : ∃ W, W = w.alloc (.cells #[pv, .bool ln] 24) := ⟨_, rfl⟩
  rw [← hW] at hb hbx
  have q1 := cell_of_row W w.heap.size 1 _ _ _ hbx
  have hlW : w.heap.size < W.heap.size := (Array.getElem?_eq_some_iff.1 hbx).1
  have HB := Lib.hid hb
  have HW := Lib.hid hW
  have hsI : (sv.size : Int) ≤ 1000000000 := by omega
  have hiI : (i : Int) ≤ (sv.size : Int) := by omega
  clear hb hbx hW
  rcases ho with rfl | rfl
  · rw [if_pos rfl]
    by_cases h0 : i = 0
    · subst h0
      have e : Hid (bgB ln sv.data.toList 0 = true) := Lib.hid rfl
      rw [e.out]
      go_enter Tryd.func86, Tryd.ntmps86
      go_upto_region 1 with fail
      rw [← HW.out]
      go_wp2_with fail
      go_ret
      exact ⟨rfl, HB.out⟩
    have h0I : ((i : Int) == 0) = false := beq_no (by omega)
    have hp : (0 : Int) < (i : Int) := by omega
    cases ln with
    | false =>
      have e : Hid (bgB false sv.data.toList i = false) := Lib.hid (by unfold bgB; rw [decide_eq_false h0]; rfl)
      rw [e.out]
      go_enter Tryd.func86, Tryd.ntmps86
      go_upto_region 1 with fail
      rw [← HW.out]
      go_wp2_with fail
      go_ret
      exact ⟨rfl, HB.out⟩
    | true =>
      obtain ⟨c, hc⟩ : ∃ c, sv.data.toList[i - 1]? = some c := ⟨_, List.getElem?_eq_getElem (by rw [lb_len]; omega)⟩
      have ix := idx_lb sv (i - 1) c hc ((i : Int) - 1) (by omega)
      have e : Hid (bgB true sv.data.toList i = ((c.toNat : Int) == 10)) := Lib.hid (by unfold bgB; rw [decide_eq_false h0, hc, ten]; simp)
      rw [e.out]
      generalize (c.toNat : Int) = z at *
      clear hc
      go_enter Tryd.func86, Tryd.ntmps86
      go_upto_region 1 with fail
      rw [← HW.out]
      go_wp2_with fail
      go_ret
      exact ⟨rfl, HB.out⟩
  · rw [if_neg (by decide)]
    by_cases h0 : i = sv.size
    · have e : Hid (enB ln sv.data.toList i = true) := Lib.hid (by unfold enB; rw [lb_len, decide_eq_true h0]; rfl)
      rw [e.out]
      have h0I : ((i : Int) == (sv.size : Int)) = true := by simp; omega
      clear h0
      go_enter Tryd.func86, Tryd.ntmps86
      go_upto_region 1 with fail
      rw [← HW.out]
      go_wp2_with fail
      go_ret
      exact ⟨rfl, HB.out⟩
    have h0I : ((i : Int) == (sv.size : Int)) = false := beq_no (by omega)
    have hp : (0 : Int) ≤ (i : Int) := by omega
    have hq : (i : Int) < (sv.size : Int) := by omega
    cases ln with
    | false =>
      have e : Hid (enB false sv.data.toList i = false) := Lib.hid (by unfold enB; rw [lb_len, decide_eq_false h0]; rfl)
      rw [e.out]
      go_enter Tryd.func86, Tryd.ntmps86
      go_upto_region 1 with fail
      rw [← HW.out]
      go_wp2_with fail
      go_ret
      exact ⟨rfl, HB.out⟩
    | true =>
      obtain ⟨c, hc⟩ : ∃ c, sv.data.toList[i]? = some c := ⟨_, List.getElem?_eq_getElem (by rw [lb_len]; omega)⟩
      have ix := idx_lb sv i c hc (i : Int) rfl
      have e : Hid (enB true sv.data.toList i = ((c.toNat : Int) == 10)) := Lib.hid (by unfold enB; rw [lb_len, decide_eq_false h0, hc, ten]; simp)
      rw [e.out]
      generalize (c.toNat : Int) = z at *
      clear hc
      go_enter Tryd.func86, Tryd.ntmps86
      go_upto_region 1 with fail
      rw [← HW.out]
      go_wp2_with fail
      go_ret
      exact ⟨rfl, HB.out⟩
end Go.Proofs.YtfgcnknmiclfnaaDoor
set_option linter.unusedVariables false
set_option linter.unusedSimpArgs false
set_option maxRecDepth 100000
set_option maxHeartbeats 8000000
namespace Go.Proofs.YtfgcnknmiclfnaaDoor
open Go.RowKit
theorem il_one (w : World) (n0 x : Nat) (hn : n0 ≤ w.heap.size) (o : TypeId) : IL (w.alloc (.cells #[.int .i64 (x : Int)] o)) n0 [x] (.slice (some ⟨w.heap.size, 0, none⟩) 1 1) :=
  ⟨_, 1, rfl, .inr ⟨w.heap.size, 0, rfl, hn, by simp, fun k hk => by
    rw [cell_of_row _ w.heap.size (0 + k) _ _ _ (heap_alloc_new w _)]
    have : k = 0 := by simp at hk; omega
    subst this
    rfl⟩⟩
theorem il_two (w : World) (n0 x y : Nat) (hn : n0 ≤ w.heap.size) (o : TypeId) : IL (w.alloc (.cells #[.int .i64 (x : Int), .int .i64 (y : Int)] o)) n0 [x, y] (.slice (some ⟨w.heap.size, 0, none⟩) 2 2) :=
  ⟨_, 2, rfl, .inr ⟨w.heap.size, 0, rfl, hn, by simp, fun k hk => by
    rw [cell_of_row _ w.heap.size (0 + k) _ _ _ (heap_alloc_new w _)]
    have : k = 0 ∨ k = 1 := by simp at hk; omega
    rcases this with rfl | rfl <;> rfl⟩⟩
theorem rnext_any (L : List IN) (pv : Value) (n0 : Nat) (ln : Bool) (sv : ByteArray) (i k : Nat) (w : World) (hp : PI w n0 L pv) (hv : valL L = true) (hi : i ≤ sv.size) (hk : k < L.length) (hs : sv.size ≤ 1000000000) :
    Calls Tryd.prog 72 #[.agg #[pv, .bool ln], .string sv, .int .i64 (i : Int), .int .i64 (k : Int)] w fun e w' => (∃ v, e = .returned v ∧ IL w' w.heap.size (stp L ln sv.data.toList i k) v) ∧ Below w.heap.size w w' := by
  obtain ⟨ad, cap, rfl⟩ := hp.form
  obtain ⟨R, hR⟩ : ∃ R, w.heap.size = R := ⟨_, rfl⟩
  have hL : L.length ≤ 4096 := by
    have hv2 := hv
    unfold valL at hv2
    rw [Bool.and_eq_true, Bool.and_eq_true] at hv2
    exact of_decide_eq_true hv2.2.1
  have hcs := val_cases hv hk
  obtain ⟨pb, pi, rfl, hpl, hrow⟩ := rows_after hp (by omega)
  have hb := (Below.refl w.heap.size w).alloc (Nat.le_refl _) (.cells #[.slice (some ⟨pb, pi, none⟩) L.length cap, .bool ln] 24)
  have hbx := heap_alloc_new w (.cells #[.slice (some ⟨pb, pi, none⟩) L.length cap, .bool ln] 24)
  obtain ⟨W, hW⟩ : ∃ W, W = w.alloc (.cells #[.slice (some ⟨pb, pi, none⟩) L.length cap, .bool ln] 24) := ⟨_, rfl⟩
  rw [← hW] at hb hbx
  rw [hR] at hbx
  have hzW : W.heap.size = R + 1 := by rw [hW, ← hR]; simp
  have q0 := cell_of_row W R 0 _ _ _ hbx
  have q1 := cell_of_row W R 1 _ _ _ hbx
  have hlW : R < W.heap.size := by omega
  obtain ⟨x, hx⟩ : ∃ x, x = L[k] := ⟨_, rfl⟩
  rw [← hx] at hcs
  have l0 : W.cell? ⟨pb, pi + k * 7, none⟩ = some (.int .i64 x.op) := by rw [hx]; exact hrow k hk W hb 0 _ rfl (by decide)
  have l1 := hrow k hk W hb 1 _ rfl (by decide)
  have l2 := hrow k hk W hb 2 _ rfl (by decide)
  have l3 := hrow k hk W hb 3 _ rfl (by decide)
  have l4 := hrow k hk W hb 4 _ rfl (by decide)
  have l5 := hrow k hk W hb 5 _ rfl (by decide)
  have l6 := hrow k hk W hb 6 _ rfl (by decide)
  rw [← hx] at l1 l2 l3 l4 l5 l6
  have hpb : pb < W.heap.size := by omega
  have HB := Lib.hid hb
  have HW := Lib.hid hW
  have k1 : (k : Int) < (L.length : Int) := by omega
  have k0 : (0 : Int) ≤ (k : Int) := by omega
  have hLI : (L.length : Int) ≤ 4096 := by omega
  have HS : Hid (stp L ln sv.data.toList i k = if x.op = 2 then [x.x.toNat, x.y.toNat] else if x.op = 3 then [x.x.toNat] else if x.op = 4 then (if bgB ln sv.data.toList i then [k + 1] else []) else if x.op = 5 then (if enB ln sv.data.toList i then [k + 1] else []) else []) := Lib.hid (by
    unfold stp sucs
    rw [List.getElem?_eq_getElem hk, ← hx])
  have HX := Lib.hid hbx
  clear hb hbx hW hp hrow hx hv
  go_enter Tryd.func72, Tryd.ntmps72
  go_upto_region 1 with fail
  rw [← HW.out]
  go_upto_region 2 with fail
  have hx2 := heap_alloc_new W (.cells #[.int .i64 x.op, .int .u64 (wd x.st 0 64 : Nat), .int .u64 (wd x.st 64 64 : Nat), .int .u64 (wd x.st 128 64 : Nat), .int .u64 (wd x.st 192 64 : Nat), .int .i64 x.x, .int .i64 x.y] 43)
  have hb2 : Below W.heap.size W (W.alloc (.cells #[.int .i64 x.op, .int .u64 (wd x.st 0 64 : Nat), .int .u64 (wd x.st 64 64 : Nat), .int .u64 (wd x.st 128 64 : Nat), .int .u64 (wd x.st 192 64 : Nat), .int .i64 x.x, .int .i64 x.y] 43)) := (Below.refl _ _).alloc (Nat.le_refl _) _
  generalize hW2 : W.alloc (.cells #[.int .i64 x.op, .int .u64 (wd x.st 0 64 : Nat), .int .u64 (wd x.st 64 64 : Nat), .int .u64 (wd x.st 128 64 : Nat), .int .u64 (wd x.st 192 64 : Nat), .int .i64 x.x, .int .i64 x.y] 43) = W2 at *
  have hz2 : W2.heap.size = R + 2 := by rw [← hW2]; simp [hzW]
  rw [hzW] at hx2
  have hx0 := (hb2.block R (by omega)).trans HX.out
  clear q0 q1 l0 l1 l2 l3 l4 l5 l6
  have q0 := cell_of_row W2 R 0 _ _ _ hx0
  have q1 := cell_of_row W2 R 1 _ _ _ hx0
  have m0 : W2.cell? ⟨R + 1, 0, none⟩ = some (.int .i64 x.op) := cell_of_row W2 (R + 1) 0 _ _ _ hx2
  have m5 : W2.cell? ⟨R + 1, 5, none⟩ = some (.int .i64 x.x) := cell_of_row W2 (R + 1) 5 _ _ _ hx2
  have m6 : W2.cell? ⟨R + 1, 6, none⟩ = some (.int .i64 x.y) := cell_of_row W2 (R + 1) 6 _ _ _ hx2
  have hlR : R < W2.heap.size := by omega
  have hlR1 : R + 1 < W2.heap.size := by omega
  have HB2 : Hid (Below w.heap.size w W2) := Lib.hid (HB.out.trans (hb2.mono HB.out.size))
  have HZ2 : Hid (w.heap.size ≤ W2.heap.size) := Lib.hid (by omega)
  clear hx2 hb2 hW2 hx0 hz2 hzW hlW
  rcases hcs with ⟨h, _⟩ | ⟨h, ⟨a, ha, _⟩, b, hb, _⟩ | ⟨h, a, ha, _⟩ | ⟨h, _⟩ | ⟨h, _⟩ | h
  · rw [h] at m0
    rw [h] at HS
    have HE : Hid (stp L ln sv.data.toList i k = []) := HS
    go_wp2_with fail
    go_ret
    try rw [← hR]
    exact ⟨⟨_, rfl, by rw [HE.out]; exact il_nil _ _⟩, HB2.out⟩
  · rw [h] at m0
    rw [ha] at m5
    rw [hb] at m6
    rw [h, ha, hb] at HS
    have HE : Hid (stp L ln sv.data.toList i k = [a, b]) := Lib.hid (by rw [HS.out]; simp)
    go_wp2_with fail
    go_ret
    try rw [← hR]
    exact ⟨⟨_, rfl, by rw [HE.out]; exact il_two _ _ _ _ HZ2.out _⟩, HB2.out.alloc HZ2.out _⟩
  · rw [h] at m0
    rw [ha] at m5
    rw [h, ha] at HS
    have HE : Hid (stp L ln sv.data.toList i k = [a]) := Lib.hid (by rw [HS.out]; simp)
    go_wp2_with fail
    go_ret
    try rw [← hR]
    exact ⟨⟨_, rfl, by rw [HE.out]; exact il_one _ _ _ HZ2.out _⟩, HB2.out.alloc HZ2.out _⟩
  · rw [h] at m0
    rw [h] at HS
    have HA := Lib.hid (ranch_any (.slice (some ⟨pb, pi, none⟩) L.length cap) ln sv i 4 W2 (.inl rfl) hi hs)
    rw [if_pos rfl] at HA
    obtain ⟨g, hg⟩ : ∃ g, bgB ln sv.data.toList i = g := ⟨_, rfl⟩
    rw [hg] at HA HS
    clear hg
    cases g with
    | false =>
      have HE : Hid (stp L ln sv.data.toList i k = []) := HS
      go_wp2_with (go_at_call 86; (with_reducible refine HA.out.mono ?_); rintro e w3 ⟨rfl, hb3⟩; have HB3 := Lib.hid (HB2.out.trans (hb3.mono HB2.out.size)); clear hb3 q0 q1 m0 m5 m6)
      go_ret
      try rw [← hR]
      exact ⟨⟨_, rfl, by rw [HE.out]; exact il_nil _ _⟩, HB3.out⟩
    | true =>
      have HE : Hid (stp L ln sv.data.toList i k = [k + 1]) := HS
      go_wp2_with (go_at_call 86; (with_reducible refine HA.out.mono ?_); rintro e w3 ⟨rfl, hb3⟩; have HB3 := Lib.hid (HB2.out.trans (hb3.mono HB2.out.size)); clear hb3 q0 q1 m0 m5 m6)
      go_ret
      try rw [← hR]
      exact ⟨⟨_, rfl, by rw [HE.out]; exact il_one _ _ (k + 1) HB3.out.size _⟩, HB3.out.alloc HB3.out.size _⟩
  · rw [h] at m0
    rw [h] at HS
    have HA := Lib.hid (ranch_any (.slice (some ⟨pb, pi, none⟩) L.length cap) ln sv i 5 W2 (.inr rfl) hi hs)
    rw [if_neg (by decide)] at HA
    obtain ⟨g, hg⟩ : ∃ g, enB ln sv.data.toList i = g := ⟨_, rfl⟩
    rw [hg] at HA HS
    clear hg
    cases g with
    | false =>
      have HE : Hid (stp L ln sv.data.toList i k = []) := HS
      go_wp2_with (go_at_call 86; (with_reducible refine HA.out.mono ?_); rintro e w3 ⟨rfl, hb3⟩; have HB3 := Lib.hid (HB2.out.trans (hb3.mono HB2.out.size)); clear hb3 q0 q1 m0 m5 m6)
      go_ret
      try rw [← hR]
      exact ⟨⟨_, rfl, by rw [HE.out]; exact il_nil _ _⟩, HB3.out⟩
    | true =>
      have HE : Hid (stp L ln sv.data.toList i k = [k + 1]) := HS
      go_wp2_with (go_at_call 86; (with_reducible refine HA.out.mono ?_); rintro e w3 ⟨rfl, hb3⟩; have HB3 := Lib.hid (HB2.out.trans (hb3.mono HB2.out.size)); clear hb3 q0 q1 m0 m5 m6)
      go_ret
      try rw [← hR]
      exact ⟨⟨_, rfl, by rw [HE.out]; exact il_one _ _ (k + 1) HB3.out.size _⟩, HB3.out.alloc HB3.out.size _⟩
  · rw [h] at m0
    rw [h] at HS
    have HE : Hid (stp L ln sv.data.toList i k = []) := HS
    go_wp2_with fail
    go_ret
    try rw [← hR]
    exact ⟨⟨_, rfl, by rw [HE.out]; exact il_nil _ _⟩, HB2.out⟩
end Go.Proofs.YtfgcnknmiclfnaaDoor
set_option linter.unusedVariables false
set_option linter.unusedSimpArgs false
set_option maxRecDepth 100000
set_option maxHeartbeats 8000000
namespace Go.Proofs.YtfgcnknmiclfnaaDoor
open Go.RowKit
def isTrue : Option Value → Bool
  | some (.bool b) => b
  | _ => false
def rdM (w : World) (B k : Nat) : Bool := isTrue (w.cell? ⟨B, k, none⟩)
structure MB (w : World) (B n : Nat) : Prop where
  lt : B < w.heap.size
  c : ∀ k, k < n → w.cell? ⟨B, k, none⟩ = some (.bool (rdM w B k))
  fz : ∀ k, w.frozen? ⟨B, k, none⟩ = false
theorem rdM_block {w w' : World} {B : Nat} (h : w'.heap[B]? = w.heap[B]?) : rdM w' B = rdM w B := by
  funext k
  unfold rdM
  rw [show w'.cell? ⟨B, k, none⟩ = w.cell? ⟨B, k, none⟩ from World.cell?_of_block h]
theorem MB.block {w w' : World} {B n : Nat} (h : MB w B n) (hb : w'.heap[B]? = w.heap[B]?) (hs : w.heap.size ≤ w'.heap.size) : MB w' B n :=
  ⟨Nat.lt_of_lt_of_le h.lt hs, fun k hk => by rw [rdM_block hb]; exact (World.cell?_of_block hb).trans (h.c k hk), fun k => (World.frozen?_of_block hb).trans (h.fz k)⟩
theorem MB.below {w w' : World} {B n : Nat} (h : MB w B n) (hb : Below w.heap.size w w') : MB w' B n := h.block (hb.block B h.lt) hb.size
theorem rdM_below {w w' : World} {B n : Nat} (h : MB w B n) (hb : Below w.heap.size w w') : rdM w' B = rdM w B := rdM_block (hb.block B h.lt)
theorem rdM_set {w : World} {B n k : Nat} (h : MB w B n) (hk : k < n) : rdM (w.setCell ⟨B, k, none⟩ (.bool true)) B = putM (rdM w B) k := by
  funext j
  show isTrue ((w.setCell ⟨B, k, none⟩ (.bool true)).cell? ⟨B, j, none⟩) = putM (rdM w B) k j
  by_cases e : j = k
  · subst e
    rw [setP_eq (h.c j hk)]
    simp [isTrue, putM]
  · rw [World.cell?_setCell_other (a := ⟨B, k, none⟩) (b := ⟨B, j, none⟩) w _ (other B k j (fun h => e h.symm))]
    simp [putM, rdM, e]
theorem MB.set {w : World} {B n k : Nat} (h : MB w B n) (hk : k < n) : MB (w.setCell ⟨B, k, none⟩ (.bool true)) B n := by
  refine ⟨by simpa [World.setCell] using h.lt, fun j hj => ?_, fun j => by rw [World.frozen?_setCell]; exact h.fz j⟩
  rw [rdM_set h hk]
  by_cases e : j = k
  · subst e
    rw [setP_eq (h.c j hk)]
    simp [putM]
  · rw [World.cell?_setCell_other (a := ⟨B, k, none⟩) (b := ⟨B, j, none⟩) w _ (other B k j (fun h => e h.symm)), h.c j hj]
    simp [putM, e]
theorem keep_setB (w : World) (B k : Nat) (u : Value) : Keep (fun b => b = B) w (w.setCell ⟨B, k, none⟩ u) := by
  refine ⟨rfl, rfl, rfl, by simp [World.setCell], fun j hj hn => ?_⟩
  exact Below.heap_setCell w ⟨B, k, none⟩ u j (fun e => hn e)
def bOf : Value → Nat
  | .bool true => 1
  | _ => 0
structure CP (S : Nat → List Nat) (n : Nat) (M Ms Mc : Nat → Bool) (ch : Bool) (k : Nat) (zs : List Nat) (q : Nat) : Prop where
  up : ∀ j, Ms j = true → Mc j = true
  inv : ∀ j, j < n → Mc j = true → ∃ a, a < n ∧ M a = true ∧ Rch S a j
  big : ch = true → cntM Ms n < cntM Mc n
  no : ch = false → Mc = Ms ∧ (∀ j, j < k → Ms j = true → ∀ y ∈ S j, Ms y = true) ∧ ∀ i b, i < q → zs[i]? = some b → Ms b = true
theorem putM_of {M : Nat → Bool} {b : Nat} (h : M b = true) : putM M b = M := by
  funext j
  by_cases e : j = b
  · subst e; simp [putM, h]
  · simp [putM, e]
theorem putM_up {M : Nat → Bool} {b j : Nat} (h : M j = true) : putM M b j = true := by simp [putM, h]
theorem CP.hit {S : Nat → List Nat} {n : Nat} {M Ms Mc : Nat → Bool} {ch : Bool} {k q b : Nat} (h : CP S n M Ms Mc ch k (S k) q) (hq : (S k)[q]? = some b) (hb : b < n) (hk : k < n) (hm : Mc k = true) : CP S n M Ms (putM Mc b) (ch || !(Mc b)) k (S k) (q + 1) := by
  refine ⟨fun j hj => putM_up (h.up j hj), fun j hj hm2 => ?_, fun hc => ?_, fun hc => ?_⟩
  · by_cases e : j = b
    · subst e
      obtain ⟨a, ha, hma, hr⟩ := h.inv k hk hm
      exact ⟨a, ha, hma, .step hr (List.mem_iff_getElem?.2 ⟨q, hq⟩)⟩
    · refine h.inv j hj ?_
      simpa [putM, e] using hm2
  · cases hmb : Mc b with
    | true =>
      rw [hmb] at hc
      rw [putM_of hmb]
      exact h.big (by simpa using hc)
    | false =>
      rw [cntM_put hmb n hb]
      have := cntM_mono h.up n
      omega
  · rw [Bool.or_eq_false_iff] at hc
    obtain ⟨h1, h2⟩ := hc
    have hmb : Mc b = true := by simpa using h2
    obtain ⟨e1, e2, e3⟩ := h.no h1
    refine ⟨by rw [putM_of hmb]; exact e1, e2, fun i c hi hc => ?_⟩
    by_cases e : i = q
    · subst e
      rw [hq] at hc
      cases hc
      rw [← e1]; exact hmb
    · exact e3 i c (by omega) hc
theorem CP.next {S : Nat → List Nat} {n : Nat} {M Ms Mc : Nat → Bool} {ch : Bool} {k : Nat} (h : CP S n M Ms Mc ch k (S k) (S k).length) : CP S n M Ms Mc ch (k + 1) [] 0 :=
  ⟨h.up, h.inv, h.big, fun hc => by
    obtain ⟨e1, e2, e3⟩ := h.no hc
    refine ⟨e1, fun j hj hm y hy => ?_, fun i b hi _ => by omega⟩
    by_cases e : j = k
    · subst e
      obtain ⟨i, hi⟩ := List.mem_iff_getElem?.1 hy
      exact e3 i y (List.getElem?_eq_some_iff.1 hi).1 hi
    · exact e2 j (by omega) hm y hy⟩
theorem CP.skip {S : Nat → List Nat} {n : Nat} {M Ms Mc : Nat → Bool} {ch : Bool} {k : Nat} (h : CP S n M Ms Mc ch k [] 0) (hm : Mc k = false) : CP S n M Ms Mc ch (k + 1) [] 0 :=
  ⟨h.up, h.inv, h.big, fun hc => by
    obtain ⟨e1, e2, e3⟩ := h.no hc
    refine ⟨e1, fun j hj hm2 y hy => ?_, fun i b hi _ => by omega⟩
    by_cases e : j = k
    · subst e
      rw [← e1, hm] at hm2
      cases hm2
    · exact e2 j (by omega) hm2 y hy⟩
theorem CP.list {S : Nat → List Nat} {n : Nat} {M Ms Mc : Nat → Bool} {ch : Bool} {k : Nat} (h : CP S n M Ms Mc ch k [] 0) (zs : List Nat) : CP S n M Ms Mc ch k zs 0 :=
  ⟨h.up, h.inv, h.big, fun hc => ⟨(h.no hc).1, (h.no hc).2.1, fun i b hi _ => by omega⟩⟩
structure OV (S : Nat → List Nat) (n : Nat) (M Mc : Nat → Bool) (ch : Bool) : Prop where
  up : ∀ j, M j = true → Mc j = true
  inv : ∀ j, j < n → Mc j = true → ∃ a, a < n ∧ M a = true ∧ Rch S a j
  cl : ch = false → ∀ j, j < n → Mc j = true → ∀ y ∈ S j, Mc y = true
theorem OV.start (S : Nat → List Nat) (n : Nat) (M : Nat → Bool) : OV S n M M true := ⟨fun _ h => h, fun j hj h => ⟨j, hj, h, .refl⟩, fun h => by cases h⟩
theorem OV.pass {S : Nat → List Nat} {n : Nat} {M Mc : Nat → Bool} (h : OV S n M Mc true) : CP S n M Mc Mc false 0 [] 0 :=
  ⟨fun _ h => h, h.inv, (fun h => by cases h), fun _ => ⟨rfl, (fun j hj => by omega), fun i b hi => by omega⟩⟩
theorem OV.next {S : Nat → List Nat} {n : Nat} {M Ms Mc : Nat → Bool} {ch : Bool} (h0 : OV S n M Ms true) (h : CP S n M Ms Mc ch n [] 0) : OV S n M Mc ch :=
  ⟨fun j hj => h.up j (h0.up j hj), h.inv, fun hc j hj hm y hy => by
    obtain ⟨e1, e2, _⟩ := h.no hc
    rw [e1] at hm ⊢
    exact e2 j hj hm y hy⟩
def CL (S : Nat → List Nat) (n : Nat) (M M' : Nat → Bool) : Prop := ∀ k, k < n → (M' k = true ↔ ∃ a, a < n ∧ M a = true ∧ Rch S a k)
theorem OV.done {S : Nat → List Nat} {n : Nat} {M Mc : Nat → Bool} (h : OV S n M Mc false) (hS : ∀ j, j < n → ∀ y ∈ S j, y < n) : CL S n M Mc := fun k hk => by
  refine ⟨h.inv k hk, ?_⟩
  rintro ⟨a, ha, hm, hr⟩
  have : k < n ∧ Mc k = true := by
    clear hk
    induction hr with
    | refl => exact ⟨ha, h.up a hm⟩
    | step _ hc ih => exact ⟨hS _ ih.1 _ hc, h.cl rfl _ ih.1 ih.2 _ hc⟩
  exact this.2
theorem meas {S : Nat → List Nat} {n : Nat} {M Ms Mc : Nat → Bool} {ch : Bool} {k : Nat} {zs : List Nat} {q : Nat} (h : CP S n M Ms Mc ch k zs q) : 2 * (n - cntM Mc n) + bOf (.bool ch) < 2 * (n - cntM Ms n) + 1 := by
  have h1 := cntM_le Mc n
  cases ch with
  | true =>
    have := h.big rfl
    show 2 * (n - cntM Mc n) + 1 < _
    omega
  | false =>
    rw [(h.no rfl).1]
    show 2 * (n - cntM Ms n) + 0 < _
    omega
theorem stp_lt {L : List IN} (hv : valL L = true) (ln : Bool) (s : List UInt8) (i k : Nat) (hk : k < L.length) : ∀ y ∈ stp L ln s i k, y < L.length := by
  intro y hy
  unfold stp sucs at hy
  rw [List.getElem?_eq_getElem hk] at hy
  simp only at hy
  rcases val_cases hv hk with ⟨h, _⟩ | ⟨h, ⟨a, ha, ha2⟩, b, hb, hb2⟩ | ⟨h, a, ha, ha2⟩ | ⟨h, h2⟩ | ⟨h, h2⟩ | h
  · rw [h] at hy; simp at hy
  · rw [h, ha, hb] at hy
    simp at hy
    rcases hy with rfl | rfl
    · exact ha2
    · exact hb2
  · rw [h, ha] at hy
    simp at hy
    subst hy; exact ha2
  · rw [h] at hy
    by_cases hb : bgB ln s i = true
    · simp [hb] at hy; omega
    · simp [hb] at hy
  · rw [h] at hy
    by_cases hb : enB ln s i = true
    · simp [hb] at hy; omega
    · simp [hb] at hy
  · rw [h] at hy; simp at hy
end Go.Proofs.YtfgcnknmiclfnaaDoor
