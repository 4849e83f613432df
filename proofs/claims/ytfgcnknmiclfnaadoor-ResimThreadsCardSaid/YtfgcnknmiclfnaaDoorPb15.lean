/- RsMem, RsAnch. -/
import Derived.Test.YtfgcnknmiclfnaaDoorPb14
import Derived.Test.YtfgcnknmiclfnaaDoorPb10
import Derived.Deep.MidRow
import Derived.BigGuardPart
import Derived.Deep.QuietTactic
import Derived.BigQuiet
set_option linter.unusedVariables false
set_option linter.unusedSimpArgs false
set_option maxRecDepth 100000
set_option maxHeartbeats 4000000
namespace Go.Proofs.YtfgcnknmiclfnaaDoor
open Go.RowKit
def rowT (p : Nat × Nat) : List Value := [.int .i64 (p.1 : Int), .int .i64 (p.2 : Int)]
def rowsT (T : List (Nat × Nat)) : List Value := T.flatMap rowT
theorem rowsT_snoc (T : List (Nat × Nat)) (p : Nat × Nat) : rowsT (T ++ [p]) = rowsT T ++ rowT p := by simp [rowsT]
theorem rowsT_get : ∀ (T : List (Nat × Nat)) (k : Nat) (hk : k < T.length) (j : Nat), j < 2 → (rowsT T)[k * 2 + j]? = (rowT (T[k]'hk))[j]?
  | [], _, h, _, _ => by cases h
  | i :: r, 0, _, j, hj => by
    show (rowT i ++ rowsT r)[0 * 2 + j]? = _
    rw [Nat.zero_mul, Nat.zero_add, List.getElem?_append_left (by show j < 2; exact hj)]
    rfl
  | i :: r, k + 1, hk, j, hj => by
    show (rowT i ++ rowsT r)[(k + 1) * 2 + j]? = _
    rw [List.getElem?_append_right (by show 2 ≤ _; omega), show (rowT i).length = 2 from rfl, show (k + 1) * 2 + j - 2 = k * 2 + j by omega]
    exact rowsT_get r k (by have : k + 1 < r.length + 1 := hk; omega) j hj
theorem rowsT_take : ∀ (T : List (Nat × Nat)) (n : Nat), (rowsT T).take (n * 2) = rowsT (T.take n)
  | [], n => by simp [rowsT]
  | i :: r, 0 => by simp [rowsT]
  | i :: r, n + 1 => by
    show (rowT i ++ rowsT r).take ((n + 1) * 2) = rowT i ++ rowsT (r.take n)
    rw [List.take_append, ← rowsT_take r n, List.take_of_length_le (by show 2 ≤ _; omega), show (n + 1) * 2 - (rowT i).length = n * 2 by show (n + 1) * 2 - 2 = _; omega]
theorem infoT : (Tryd.prog.info? 66).map (fun i => (i.zero, i.size, i.bytes)) = some (some (.agg #[.int .i64 0, .int .i64 0]), 2, 16) := by kernel_rfl
theorem isz_mk : (Tryd.prog.info? 62).map (·.size) = some 64 := by kernel_rfl
structure SM (w : World) (P : Nat) (pv : Value) (ln : Bool) (sv : ByteArray) (at_ : Nat) (tv uv : Value) (M : Nat → Bool) (T : List (Nat × Nat)) : Prop where
  lt : P < w.heap.size
  c0 : w.cell? ⟨P, 0, none⟩ = some pv
  c1 : w.cell? ⟨P, 1, none⟩ = some (.bool ln)
  c2 : w.cell? ⟨P, 2, none⟩ = some (.string sv)
  c3 : w.cell? ⟨P, 3, none⟩ = some (.int .i64 (at_ : Int))
  c4 : w.cell? ⟨P, 4, none⟩ = some tv
  cm : ∀ j, j < 64 → w.cell? ⟨P, 5 + j, none⟩ = some (.int .u64 (wd M (64 * j) 64 : Nat))
  c5 : w.cell? ⟨P, 69, none⟩ = some uv
  fz : ∀ j, w.frozen? ⟨P, j, none⟩ = false
  own : w.ownsRow (P + 1) 66 2 tv T.length (rowsT T)
  spr : ∃ n xs, w.ownsRow (P + 1) 66 2 uv n xs
  ne : ∀ g, tv.ownBlock = some g → ¬ uv.ownBlock = some g
section
variable {w w' : World} {P : Nat} {pv : Value} {ln : Bool} {sv : ByteArray} {at_ : Nat} {tv uv : Value} {M : Nat → Bool} {T : List (Nat × Nat)}
theorem SM.ofBlocks (h : SM w P pv ln sv at_ tv uv M T) (hs : w.heap.size ≤ w'.heap.size) (hb : w'.heap[P]? = w.heap[P]?) (ht : w'.ownsRow (P + 1) 66 2 tv T.length (rowsT T)) (hu : ∃ n xs, w'.ownsRow (P + 1) 66 2 uv n xs) : SM w' P pv ln sv at_ tv uv M T :=
  ⟨Nat.lt_of_lt_of_le h.lt hs, (World.cell?_of_block hb).trans h.c0, (World.cell?_of_block hb).trans h.c1, (World.cell?_of_block hb).trans h.c2, (World.cell?_of_block hb).trans h.c3, (World.cell?_of_block hb).trans h.c4, fun j hj => (World.cell?_of_block hb).trans (h.cm j hj), (World.cell?_of_block hb).trans h.c5, fun j => (World.frozen?_of_block hb).trans (h.fz j), ht, hu, h.ne⟩
theorem SM.below (h : SM w P pv ln sv at_ tv uv M T) (hb : Below w.heap.size w w') : SM w' P pv ln sv at_ tv uv M T :=
  h.ofBlocks hb.size (hb.block P h.lt) (own_below h.own hb) (h.spr.imp fun n h => h.imp fun xs h => own_below h hb)
theorem SM.drew (h : SM w P pv ln sv at_ tv uv M T) : SM w.drew P pv ln sv at_ tv uv M T := h.below (Below.refl _ _).drew
theorem setP_own {a : Addr} {v u : Value} {n : Nat} {xs : List Value} {t : TypeId} {k : Nat} (h : w.ownsRow (P + 1) t k v n xs) (ha : a.block = P) : (w.setCell a u).ownsRow (P + 1) t k v n xs :=
  own_keep (S := fun b => b = P) h (by
    refine ⟨rfl, rfl, rfl, by simp [World.setCell], fun j hj hn => ?_⟩
    exact Below.heap_setCell w a u j (fun e => hn (e.trans ha))) (fun g hg e => by
      have := (own_at h g hg).1; omega)
theorem other (P i j : Nat) (h : i ≠ j) : (⟨P, i, none⟩ : Addr) ≠ ⟨P, j, none⟩ := fun e => by cases e; exact h rfl
theorem setP_ne {i j : Nat} {x : Value} (h : (w.cell? ⟨P, j, none⟩) = some x) (hij : i ≠ j) (u : Value) : (w.setCell ⟨P, i, none⟩ u).cell? ⟨P, j, none⟩ = some x := (World.cell?_setCell_other (a := ⟨P, i, none⟩) (b := ⟨P, j, none⟩) w u (other P i j hij)).trans h
theorem setP_eq {a : Addr} {x : Value} (h : w.cell? a = some x) (u : Value) : (w.setCell a u).cell? a = some u := World.cell?_setCell_same w a u h
theorem SM.setAt (h : SM w P pv ln sv at_ tv uv M T) (k : Nat) : SM (w.setCell ⟨P, 3, none⟩ (.int .i64 (k : Int))) P pv ln sv k tv uv M T :=
  ⟨by simpa [World.setCell] using h.lt, setP_ne h.c0 (by decide) _, setP_ne h.c1 (by decide) _, setP_ne h.c2 (by decide) _, setP_eq h.c3 _, setP_ne h.c4 (by decide) _, fun j hj => setP_ne (h.cm j hj) (by omega) _, setP_ne h.c5 (by decide) _, fun j => by rw [World.frozen?_setCell]; exact h.fz j, setP_own h.own rfl, h.spr.imp fun n h => h.imp fun xs h => setP_own h rfl, h.ne⟩
theorem putM_wd (M : Nat → Bool) (k : Nat) : wd M (64 * (k / 64)) 64 ||| 2 ^ (k % 64) = wd (putM M k) (64 * (k / 64)) 64 := by
  rw [wd_one, wd_or]
  refine wd_congr _ _ _ _ fun j _ => ?_
  show (M _ || (_ == k)) = (M _ || decide (_ = k))
  rfl
theorem SM.setMark (h : SM w P pv ln sv at_ tv uv M T) (k : Nat) (hk : k < 4096) : SM (w.setCell ⟨P, 5 + k / 64, none⟩ (.int .u64 ((wd M (64 * (k / 64)) 64 ||| 2 ^ (k % 64) : Nat) : Int))) P pv ln sv at_ tv uv (putM M k) T := by
  refine ⟨by simpa [World.setCell] using h.lt, setP_ne h.c0 (by omega) _, setP_ne h.c1 (by omega) _, setP_ne h.c2 (by omega) _, setP_ne h.c3 (by omega) _, setP_ne h.c4 (by omega) _, fun j hj => ?_, setP_ne h.c5 (by omega) _, fun j => by rw [World.frozen?_setCell]; exact h.fz j, setP_own h.own rfl, h.spr.imp fun n h => h.imp fun xs h => setP_own h rfl, h.ne⟩
  by_cases e : j = k / 64
  · subst e
    rw [setP_eq (h.cm _ hj), putM_wd]
  · rw [setP_ne (h.cm j hj) (by omega) _]
    congr 3
    refine wd_congr _ _ _ _ fun i hi => ?_
    have : 64 * j + i ≠ k := by omega
    simp [putM, this]
theorem SM.setT (h : SM w P pv ln sv at_ tv uv M T) {tv' : Value} {T' : List (Nat × Nat)} (ho : w.ownsRow (P + 1) 66 2 tv' T'.length (rowsT T')) (hn : ∀ g, tv'.ownBlock = some g → ¬ uv.ownBlock = some g) : SM (w.setCell ⟨P, 4, none⟩ tv') P pv ln sv at_ tv' uv M T' :=
  ⟨by simpa [World.setCell] using h.lt, setP_ne h.c0 (by decide) _, setP_ne h.c1 (by decide) _, setP_ne h.c2 (by decide) _, setP_ne h.c3 (by decide) _, setP_eq h.c4 _, fun j hj => setP_ne (h.cm j hj) (by omega) _, setP_ne h.c5 (by decide) _, fun j => by rw [World.frozen?_setCell]; exact h.fz j, setP_own ho rfl, h.spr.imp fun n h => h.imp fun xs h => setP_own h rfl, hn⟩
theorem SM.mark (h : SM w P pv ln sv at_ tv uv M T) (k : Nat) (hk : k < 4096) : w.cell? ⟨P, 5 + k / 64, none⟩ = some (.int .u64 (wd M (64 * (k / 64)) 64 : Nat)) := h.cm (k / 64) (by omega)
end
def cntM (M : Nat → Bool) (n : Nat) : Nat := (el M n).length
theorem cntM_le (M : Nat → Bool) (n : Nat) : cntM M n ≤ n := el_length_le M n
theorem cntM_mono {M M' : Nat → Bool} (h : ∀ j, M j = true → M' j = true) : ∀ n, cntM M n ≤ cntM M' n
  | 0 => Nat.le_refl _
  | n + 1 => by
    have := cntM_mono h n
    unfold cntM at *
    rw [el_succ, el_succ, List.length_append, List.length_append]
    cases hm : M n with
    | false => simp; omega
    | true => rw [h n hm]; simp; omega
theorem cntM_put {M : Nat → Bool} {k : Nat} (hk : M k = false) : ∀ n, k < n → cntM (putM M k) n = cntM M n + 1
  | 0, h => by omega
  | n + 1, h => by
    unfold cntM
    rw [el_succ, el_succ, List.length_append, List.length_append]
    by_cases e : n = k
    · subst e
      have h1 : (el (putM M n) n).length = (el M n).length := by
        rw [el_congr (putM M n) M n fun j hj => by simp [putM]; omega]
      rw [h1, putM_self, hk]; simp
    · have ih := cntM_put hk n (by omega)
      unfold cntM at ih
      have h2 : putM M k n = M n := by simp [putM, e]
      rw [ih, h2]; omega
theorem mask_test (M : Nat → Bool) (k : Nat) : (bits BinOp.and IntKind.u64 (wd M (64 * (k / 64)) 64 : Nat) (IntKind.u64.wrap ((2 : Int) ^ (k % 64))) != 0) = M k := by
  rw [pow_cast]
  have := and_test M k _ rfl
  rw [show ((2 : Int) ^ (k % 64)) = ((2 ^ (k % 64) : Nat) : Int) by simp] at this
  exact this
theorem mask_or (M : Nat → Bool) (k : Nat) : bits BinOp.or IntKind.u64 (wd M (64 * (k / 64)) 64 : Nat) (IntKind.u64.wrap ((2 : Int) ^ (k % 64))) = ((wd M (64 * (k / 64)) 64 ||| 2 ^ (k % 64) : Nat) : Int) := by
  rw [pow_cast]
  exact bits_or_u64_nat _ _ (wd_lt64 _ _) (pow_lt64 k)
theorem add_old {w : World} {P : Nat} {pv : Value} {ln : Bool} {sv : ByteArray} {at_ : Nat} {tv uv : Value} {M : Nat → Bool} {T : List (Nat × Nat)} (h : SM w P pv ln sv at_ tv uv M T) (k : Nat) (hk : k < 4096) (hm : M k = true) :
    Calls Tryd.prog 57 #[.pointer (some ⟨P, 5, none⟩), .int .i64 (k : Int)] w fun e w' => e = .returned (.bool false) ∧ Below w.heap.size w w' := by
  have c0 := h.mark k hk
  have f0 := h.fz (5 + k / 64)
  have hT := mask_test M k
  rw [hm] at hT
  generalize wd M (64 * (k / 64)) 64 = x at *
  have hk0 : (0 : Int) ≤ (k : Int) := by omega
  have hk1 : (k : Int) < 4096 := by omega
  clear h hm
  go_enter Tryd.func57, Tryd.ntmps57
  go_wp2
  go_quiet (fail)
  go_wp2
  go_ret
  exact ⟨rfl, (below_drewN (Below.refl _ _) _)⟩
theorem add_new {w : World} {P : Nat} {pv : Value} {ln : Bool} {sv : ByteArray} {at_ : Nat} {tv uv : Value} {M : Nat → Bool} {T : List (Nat × Nat)} (h : SM w P pv ln sv at_ tv uv M T) (k : Nat) (hk : k < 4096) (hm : M k = false) :
    Calls Tryd.prog 57 #[.pointer (some ⟨P, 5, none⟩), .int .i64 (k : Int)] w fun e w' => e = .returned (.bool true) ∧ SM w' P pv ln sv at_ tv uv (putM M k) T ∧ Mv P tv w tv w' := by
  have c0 := h.mark k hk
  have f0 := h.fz (5 + k / 64)
  have hT := mask_test M k
  rw [hm] at hT
  have HO := Lib.hid (mask_or M k)
  have HS := Lib.hid (fun n => (h.below (below_drewN (Below.refl _ _) n)).setMark k hk)
  have HK := Lib.hid (fun n => ((Keep.of_below (S := fun b => b = P ∨ tv.ownBlock = some b) (below_drewN (Below.refl w.heap.size w) n))).put P (5 + k / 64) (.inl (.inl rfl)))
  generalize wd M (64 * (k / 64)) 64 = x at *
  have hk0 : (0 : Int) ≤ (k : Int) := by omega
  have hk1 : (k : Int) < 4096 := by omega
  clear h hm
  go_enter Tryd.func57, Tryd.ntmps57
  go_wp2
  go_quiet (fail)
  go_wp2
  go_ret
  rw [HO.out]
  exact ⟨rfl, HS.out _, HK.out _ _, fun _ e => .inl e⟩
end Go.Proofs.YtfgcnknmiclfnaaDoor
set_option linter.unusedVariables false
set_option linter.unusedSimpArgs false
set_option maxRecDepth 100000
set_option maxHeartbeats 4000000
namespace Go.Proofs.YtfgcnknmiclfnaaDoor
open Go.RowKit
theorem lb_len (s : ByteArray) : s.data.toList.length = s.size := rfl
theorem idx_lb (s : ByteArray) (j : Nat) (c : UInt8) (hj : s.data.toList[j]? = some c) (z : Int) (hz : z = (j : Int)) : ∀ w : World, (Instr.index 9 (.string s) (.int .i64 z)).run Tryd.prog w = .ok (.int .u8 (c.toNat : Int)) w := fun w => by
  subst hz
  obtain ⟨h1, h2⟩ := List.getElem?_eq_some_iff.1 hj
  have hl : (0 : Int) ≤ (j : Int) ∧ (j : Int) < (s.size : Int) := ⟨by omega, by have : j < s.size := h1; omega⟩
  rw [run_index_string (h := Tryd.underlying9), dif_pos hl]
  have hq : (s[(j : Int).toNat]'(by have := hl.2; omega)) = c := h2
  rw [hq]
theorem ten (c : UInt8) : ((c.toNat : Int) == 10) = decide (c = 10) := by
  by_cases h : c = 10
  · subst h; rfl
  · rw [decide_eq_false h]
    have : c.toNat ≠ 10 := fun e => h (UInt8.toNat_inj.1 e)
    simp; omega
theorem atBegin_any {w : World} {P : Nat} {pv : Value} {ln : Bool} {sv : ByteArray} {at_ : Nat} {tv uv : Value} {M : Nat → Bool} {T : List (Nat × Nat)} (h : SM w P pv ln sv at_ tv uv M T) (ha : at_ ≤ sv.size) (hs : sv.size ≤ 1000000000) :
    Calls Tryd.prog 58 #[.pointer (some ⟨P, 0, none⟩)] w fun e w' => e = .returned (.bool (bgB ln sv.data.toList at_)) ∧ Below w.heap.size w w' := by
  have c1 := h.c1
  have c2 := h.c2
  have c3 := h.c3
  clear h
  by_cases h0 : at_ = 0
  · subst h0
    have e : Hid (bgB ln sv.data.toList 0 = true) := Lib.hid rfl
    rw [e.out]
    go_enter Tryd.func58, Tryd.ntmps58
    go_wp2
    go_quiet (fail)
    go_wp2
    go_ret
    exact ⟨rfl, (below_drewN (Below.refl _ _) _)⟩
  have h0I : ((at_ : Int) == 0) = false := beq_no (by omega)
  have hp : (0 : Int) < (at_ : Int) := by omega
  have hq : (at_ : Int) ≤ 1000000000 := by omega
  cases ln with
  | false =>
    have e : Hid (bgB false sv.data.toList at_ = false) := Lib.hid (by unfold bgB; rw [decide_eq_false h0]; rfl)
    rw [e.out]
    go_enter Tryd.func58, Tryd.ntmps58
    go_wp2
    go_quiet (fail)
    go_wp2
    go_ret
    exact ⟨rfl, (below_drewN (Below.refl _ _) _)⟩
  | true =>
    obtain ⟨c, hc⟩ : ∃ c, sv.data.toList[at_ - 1]? = some c := ⟨_, List.getElem?_eq_getElem (by rw [lb_len]; omega)⟩
    have ix := idx_lb sv (at_ - 1) c hc ((at_ : Int) - 1) (by omega)
    have e : Hid (bgB true sv.data.toList at_ = ((c.toNat : Int) == 10)) := Lib.hid (by unfold bgB; rw [decide_eq_false h0, hc, ten]; simp)
    rw [e.out]
    generalize (c.toNat : Int) = z at *
    clear hc
    go_enter Tryd.func58, Tryd.ntmps58
    go_wp2
    go_quiet (fail)
    go_wp2
    go_ret
    exact ⟨rfl, (below_drewN (Below.refl _ _) _)⟩
theorem atEnd_any {w : World} {P : Nat} {pv : Value} {ln : Bool} {sv : ByteArray} {at_ : Nat} {tv uv : Value} {M : Nat → Bool} {T : List (Nat × Nat)} (h : SM w P pv ln sv at_ tv uv M T) (ha : at_ ≤ sv.size) (hs : sv.size ≤ 1000000000) :
    Calls Tryd.prog 59 #[.pointer (some ⟨P, 0, none⟩)] w fun e w' => e = .returned (.bool (enB ln sv.data.toList at_)) ∧ Below w.heap.size w w' := by
  have c1 := h.c1
  have c2 := h.c2
  have c3 := h.c3
  clear h
  have hsI : (sv.size : Int) ≤ 1000000000 := by omega
  by_cases h0 : at_ = sv.size
  · have e : Hid (enB ln sv.data.toList at_ = true) := Lib.hid (by unfold enB; rw [lb_len, decide_eq_true h0]; rfl)
    rw [e.out]
    have h0I : ((at_ : Int) == (sv.size : Int)) = true := by simp; omega
    clear h0
    go_enter Tryd.func59, Tryd.ntmps59
    go_wp2
    go_quiet (fail)
    go_wp2
    go_ret
    exact ⟨rfl, (below_drewN (Below.refl _ _) _)⟩
  have h0I : ((at_ : Int) == (sv.size : Int)) = false := beq_no (by omega)
  have hp : (0 : Int) ≤ (at_ : Int) := by omega
  have hq : (at_ : Int) < (sv.size : Int) := by omega
  cases ln with
  | false =>
    have e : Hid (enB false sv.data.toList at_ = false) := Lib.hid (by unfold enB; rw [lb_len, decide_eq_false h0]; rfl)
    rw [e.out]
    go_enter Tryd.func59, Tryd.ntmps59
    go_wp2
    go_quiet (fail)
    go_wp2
    go_ret
    exact ⟨rfl, (below_drewN (Below.refl _ _) _)⟩
  | true =>
    obtain ⟨c, hc⟩ : ∃ c, sv.data.toList[at_]? = some c := ⟨_, List.getElem?_eq_getElem (by rw [lb_len]; omega)⟩
    have ix := idx_lb sv at_ c hc (at_ : Int) rfl
    have e : Hid (enB true sv.data.toList at_ = ((c.toNat : Int) == 10)) := Lib.hid (by unfold enB; rw [lb_len, decide_eq_false h0, hc, ten]; simp)
    rw [e.out]
    generalize (c.toNat : Int) = z at *
    clear hc
    go_enter Tryd.func59, Tryd.ntmps59
    go_wp2
    go_quiet (fail)
    go_wp2
    go_ret
    exact ⟨rfl, (below_drewN (Below.refl _ _) _)⟩
end Go.Proofs.YtfgcnknmiclfnaaDoor
