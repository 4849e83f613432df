/- Writing a decimal number: the program's Format. -/
import Derived.Test.YtdgbfblhiongoaaDoorDecNumB
import Derived.Laws.OwnMore
import Derived.Lib.SmallJoins
namespace Go.Proofs.YtdgbfblhiongoaaDoor
open Go.RowKit

/-- The digits behind the point of r units, r less than 10000. -/
def fdig (r : Nat) : List UInt8 := if r % 1000 = 0 then txt (r / 1000) 1 else if r % 100 = 0 then txt (r / 100) 2 else if r % 10 = 0 then txt (r / 10) 3 else txt r 4
def frT (r : Nat) : List UInt8 := if r = 0 then [] else 46 :: fdig r
/-- The decimal text of a number of units. -/
def decT (d : Int) : List UInt8 := (if d < 0 then [45] else []) ++ (dec (d.natAbs / 10000) ++ frT (d.natAbs % 10000))

def fpart (r k : Nat) : List UInt8 := 46 :: txt (r / 10 ^ (4 - k)) k
def ints (l : List UInt8) : List Value := l.map fun c => .int .u8 (c.toNat : Int)
theorem ints_snoc (l : List UInt8) (c : UInt8) : ints (l ++ [c]) = ints l ++ [.int .u8 (c.toNat : Int)] := by unfold ints; rw [List.map_append]; rfl
theorem fpart_next (r k : Nat) (h : k < 4) : fpart r (k + 1) = fpart r k ++ [UInt8.ofNat (48 + r % 10 ^ (4 - k) / 10 ^ (3 - k))] := by
  unfold fpart
  rw [txt_snoc, List.cons_append, show 4 - (k + 1) = 3 - k by omega, show 4 - k = (3 - k) + 1 by omega, Nat.pow_succ, Nat.mod_mul_right_div_self, Nat.div_div_eq_div_mul]
theorem fpart_end (r k : Nat) (hr : 0 < r) (h4 : r < 10000) (hk : k ≤ 4) (hz : r % 10 ^ (4 - k) = 0) (hm : ∀ j, j < k → r % 10 ^ (4 - j) ≠ 0) : fpart r k = frT r := by
  unfold frT fdig fpart
  rw [if_neg (by omega)]
  have hc : k = 0 ∨ k = 1 ∨ k = 2 ∨ k = 3 ∨ k = 4 := by omega
  rcases hc with rfl | rfl | rfl | rfl | rfl
  · rw [Nat.mod_eq_of_lt (by simpa using h4)] at hz; omega
  · rw [if_pos hz]
  · rw [if_neg (hm 1 (by omega)), if_pos hz]
  · rw [if_neg (hm 1 (by omega)), if_neg (hm 2 (by omega)), if_pos hz]
  · rw [if_neg (hm 1 (by omega)), if_neg (hm 2 (by omega)), if_neg (hm 3 (by omega)), Nat.sub_self, Nat.pow_zero, Nat.div_one]
theorem fpart_len (r k : Nat) : (fpart r k).length = k + 1 := by unfold fpart; rw [List.length_cons, txt_len]
theorem ints_at (l : List UInt8) (j : Nat) (hj : j < l.length) : (ints l)[j]? = some (.int .u8 (l[j].toNat : Int)) := by
  unfold ints; rw [List.getElem?_map, List.getElem?_eq_getElem hj]; rfl

theorem ff_own (r k d : Nat) (hd : d < 10) (h4 : fpart r (k + 1) = fpart r k ++ [UInt8.ofNat (48 + d)]) {w1 : World} {B : Nat} {v : Value} {n : Nat} {x : Int}
    (h : w1.ownsRow B 5 1 v n (ints (fpart r k) ++ [.int .u8 x])) (hx : x = 48 + (d : Int)) : w1.ownsRow B 5 1 v n (ints (fpart r (k + 1))) := by
  rw [h4, ints_snoc, byte_toNat d hd]
  subst hx; exact h

theorem ff_zero (w : World) : Calls Tryd.prog 65 #[.int .i64 0] w fun e w' => e = .returned (.string ⟨#[]⟩) ∧ Below w.heap.size w w' := by
  go_enter Tryd.func65, Tryd.ntmps65
  go_wp2
  go_ret
  exact ⟨rfl, Below.refl _ _⟩

set_option maxHeartbeats 1000000 in
theorem ff_pos (r : Nat) (w : World) (hr : 0 < r) (h4 : r < 10000) (hU : unitsAt w) :
    Calls Tryd.prog 65 #[.int .i64 r] w fun e w' => e = .returned (.string (mk (frT r))) ∧ Below w.heap.size w w' := by
  have HU : Hid (unitsAt w) := hU
  have HR : Hid (0 < r ∧ r < 10000) := ⟨hr, h4⟩
  have z0 : ((r : Int) == 0) = false := by simp; omega
  obtain ⟨i0, hi, hz0, hz1, hz2⟩ := info_parts Tryd.info5
  have h9 : r ≤ 9999 := by omega
  clear hU hr h4
  go_enter Tryd.func65, Tryd.ntmps65
  go_wp2
  go_loopw [0, 3, 4] (fun x v p wr => ∃ (k q : Nat) (z : Int), k ≤ 4 ∧ z = (k : Int) + 1 ∧ p = .int .i64 z ∧ x = .int .i64 q ∧ q ≤ 9999 ∧ Hid (r % 10 ^ (4 - k) = q) ∧ Hid (∀ j, j < k → r % 10 ^ (4 - j) ≠ 0) ∧
      wr.ownsRow w.heap.size 5 1 v (k + 1) (ints (fpart r k)) ∧ Below w.heap.size w wr) (fun _ _ p _ => 6 - (intOf p).toNat)
  case atStart =>
    refine ⟨0, r, 1, by omega, rfl, rfl, rfl, h9, ?_, fun j h => absurd h (Nat.not_lt_zero j), ?_, (Below.refl _ _).alloc (Nat.le_refl _) _⟩
    · exact Nat.mod_eq_of_lt (by have := HR.out; simpa using this.2)
    · exact World.ownsRow_lit w #[.int .u8 46] 1 (Nat.le_refl _) (by decide) rfl
  case round =>
    obtain ⟨k, q, z, hk, hz, rfl, rfl, hq, h1, h2, hown, hb⟩ := hrel
    by_cases hq0 : 0 < q
    · have hk4 : k < 4 := by
        by_cases e : k = 4
        · subst e
          have := h1.out
          rw [Nat.sub_self, Nat.pow_zero, Nat.mod_one] at this
          omega
        · omega
      have hU := HU.out.below hb
      obtain ⟨_, _, u1, u2, u3, u4⟩ := hU
      have h3 : Hid (∀ j, j < k + 1 → r % 10 ^ (4 - j) ≠ 0) := fun j hj => by
        by_cases e : j = k
        · subst e; rw [h1.out]; omega
        · exact h2.out j (by omega)
      have h4 := fpart_next r k hk4
      rw [h1.out] at h4
      have h5 : Hid (r % 10 ^ (4 - (k + 1)) = q % 10 ^ (3 - k)) := by
        show r % 10 ^ (4 - (k + 1)) = q % 10 ^ (3 - k)
        rw [← h1.out, show 4 - (k + 1) = 3 - k by omega, show 4 - k = (3 - k) + 1 by omega, Nat.pow_succ, Nat.mod_mul_right_mod]
      have H4 := Lib.hid h4
      have H6 : Hid (r % 10 ^ (4 - k) = q) := h1.out
      have hzi : Hid (z = (k : Int) + 1) := hz
      clear h1 h2 h4 hz
      have hsz := hb.size
      have hc : k = 0 ∨ k = 1 ∨ k = 2 ∨ k = 3 := by omega
      rcases hc with rfl | rfl | rfl | rfl
      · obtain rfl : z = 1 := hzi.out
        have e10 : 10 ^ (3 - 0) = 1000 := by decide
        rw [e10] at H4 h5
        have hd9 : q / 1000 < 10 := by
          have h6 : r % 10 ^ (4 - 0) < 10 ^ (4 - 0) := Nat.mod_lt _ (by decide)
          rw [H6.out] at h6
          have e11 : 10 ^ (4 - 0) = 10000 := by decide
          rw [e11] at h6
          omega
        have hd10 : (q : Int) / 1000 ≤ 9 := by omega
        go_wp2_with (at_builtin; refine wpList_append_own _ rfl _ _ 74 rfl (w.heap.size) 5 i0 (.int .u8 0) 1 1 Tryd.underlying74 hi hz0 hz1 hz2 rfl (by decide) _ _ _ rfl (hown.alloc _) ⟨wr.heap.size, 0, none⟩ 1 1 [.int .u8 (48 + (q : Int) / 1000)] rfl rfl ?c1_0 ?c2_0 ?c3_0 ?c4_0 ?c5_0 ?_)
        case c2_0 => rfl
        case c3_0 => decide
        case c5_0 => omega
        intro v' w1 hown' hgrow _
        have hn := Lib.hid (ff_own r 0 (q / 1000) hd9 H4.out hown' (by omega))
        have hbel := (hb.alloc hb.size (.cells #[.int .u8 (48 + (q : Int) / 1000)] 5)).grown hgrow (by simp; omega) (fun j e => (hown.lt j e).1)
        have HB := Lib.hid hbel
        obtain ⟨_, _, v1, v2, v3, v4⟩ := HU.out.below hbel
        clear hown' hgrow hown hb hbel hd9 u1 u2 u3 u4 H4
        go_wp2
        go_roundw
        case rel => exact ⟨0 + 1, q % 1000, 0 + 2, by omega, by omega, rfl, by simp, by omega, h5, h3, hn.out, HB.out⟩
        case measure => simp [intOf]
      · obtain rfl : z = 2 := hzi.out
        have e10 : 10 ^ (3 - 1) = 100 := by decide
        rw [e10] at H4 h5
        have hd9 : q / 100 < 10 := by
          have h6 : r % 10 ^ (4 - 1) < 10 ^ (4 - 1) := Nat.mod_lt _ (by decide)
          rw [H6.out] at h6
          have e11 : 10 ^ (4 - 1) = 1000 := by decide
          rw [e11] at h6
          omega
        have hd10 : (q : Int) / 100 ≤ 9 := by omega
        go_wp2_with (at_builtin; refine wpList_append_own _ rfl _ _ 74 rfl (w.heap.size) 5 i0 (.int .u8 0) 1 1 Tryd.underlying74 hi hz0 hz1 hz2 rfl (by decide) _ _ _ rfl (hown.alloc _) ⟨wr.heap.size, 0, none⟩ 1 1 [.int .u8 (48 + (q : Int) / 100)] rfl rfl ?c1_1 ?c2_1 ?c3_1 ?c4_1 ?c5_1 ?_)
        case c2_1 => rfl
        case c3_1 => decide
        case c5_1 => omega
        intro v' w1 hown' hgrow _
        have hn := Lib.hid (ff_own r 1 (q / 100) hd9 H4.out hown' (by omega))
        have hbel := (hb.alloc hb.size (.cells #[.int .u8 (48 + (q : Int) / 100)] 5)).grown hgrow (by simp; omega) (fun j e => (hown.lt j e).1)
        have HB := Lib.hid hbel
        obtain ⟨_, _, v1, v2, v3, v4⟩ := HU.out.below hbel
        clear hown' hgrow hown hb hbel hd9 u1 u2 u3 u4 H4
        go_wp2
        go_roundw
        case rel => exact ⟨1 + 1, q % 100, 1 + 2, by omega, by omega, rfl, by simp, by omega, h5, h3, hn.out, HB.out⟩
        case measure => simp [intOf]
      · obtain rfl : z = 3 := hzi.out
        have e10 : 10 ^ (3 - 2) = 10 := by decide
        rw [e10] at H4 h5
        have hd9 : q / 10 < 10 := by
          have h6 : r % 10 ^ (4 - 2) < 10 ^ (4 - 2) := Nat.mod_lt _ (by decide)
          rw [H6.out] at h6
          have e11 : 10 ^ (4 - 2) = 100 := by decide
          rw [e11] at h6
          omega
        have hd10 : (q : Int) / 10 ≤ 9 := by omega
        go_wp2_with (at_builtin; refine wpList_append_own _ rfl _ _ 74 rfl (w.heap.size) 5 i0 (.int .u8 0) 1 1 Tryd.underlying74 hi hz0 hz1 hz2 rfl (by decide) _ _ _ rfl (hown.alloc _) ⟨wr.heap.size, 0, none⟩ 1 1 [.int .u8 (48 + (q : Int) / 10)] rfl rfl ?c1_2 ?c2_2 ?c3_2 ?c4_2 ?c5_2 ?_)
        case c2_2 => rfl
        case c3_2 => decide
        case c5_2 => omega
        intro v' w1 hown' hgrow _
        have hn := Lib.hid (ff_own r 2 (q / 10) hd9 H4.out hown' (by omega))
        have hbel := (hb.alloc hb.size (.cells #[.int .u8 (48 + (q : Int) / 10)] 5)).grown hgrow (by simp; omega) (fun j e => (hown.lt j e).1)
        have HB := Lib.hid hbel
        obtain ⟨_, _, v1, v2, v3, v4⟩ := HU.out.below hbel
        clear hown' hgrow hown hb hbel hd9 u1 u2 u3 u4 H4
        go_wp2
        go_roundw
        case rel => exact ⟨2 + 1, q % 10, 2 + 2, by omega, by omega, rfl, by simp, by omega, h5, h3, hn.out, HB.out⟩
        case measure => simp [intOf]
      · obtain rfl : z = 4 := hzi.out
        have e10 : 10 ^ (3 - 3) = 1 := by decide
        rw [e10] at H4 h5
        have hd9 : q / 1 < 10 := by
          have h6 : r % 10 ^ (4 - 3) < 10 ^ (4 - 3) := Nat.mod_lt _ (by decide)
          rw [H6.out] at h6
          have e11 : 10 ^ (4 - 3) = 10 := by decide
          rw [e11] at h6
          omega
        have hd10 : (q : Int) ≤ 9 := by omega
        go_wp2_with (at_builtin; refine wpList_append_own _ rfl _ _ 74 rfl (w.heap.size) 5 i0 (.int .u8 0) 1 1 Tryd.underlying74 hi hz0 hz1 hz2 rfl (by decide) _ _ _ rfl (hown.alloc _) ⟨wr.heap.size, 0, none⟩ 1 1 [.int .u8 (48 + (q : Int))] rfl rfl ?c1_3 ?c2_3 ?c3_3 ?c4_3 ?c5_3 ?_)
        case c2_3 => rfl
        case c3_3 => decide
        case c5_3 => omega
        intro v' w1 hown' hgrow _
        have hn := Lib.hid (ff_own r 3 (q / 1) hd9 H4.out hown' (by omega))
        have hbel := (hb.alloc hb.size (.cells #[.int .u8 (48 + (q : Int))] 5)).grown hgrow (by simp; omega) (fun j e => (hown.lt j e).1)
        have HB := Lib.hid hbel
        obtain ⟨_, _, v1, v2, v3, v4⟩ := HU.out.below hbel
        clear hown' hgrow hown hb hbel hd9 u1 u2 u3 u4 H4
        go_wp2
        go_roundw
        case rel => exact ⟨3 + 1, q % 1, 3 + 2, by omega, by omega, rfl, by simp, by omega, h5, h3, hn.out, HB.out⟩
        case measure => simp [intOf]
    · obtain rfl : q = 0 := by omega
      have HT : Hid (fpart r k = frT r) := fpart_end r k HR.out.1 HR.out.2 hk h1.out h2.out
      obtain ⟨g, cap, rfl⟩ := Joins.ownsRow_form hown (Nat.succ_pos k)
      have hcv := run_convert_bytes_back (P := Tryd.prog) wr 74 9 5 ⟨g, 0, none⟩ cap (fpart r k) Tryd.underlying74 Tryd.underlying5 Tryd.underlying9 (fun j hj => hown.cells rfl j _ (ints_at _ j hj))
      rw [fpart_len] at hcv
      clear h1 h2 hown hz
      go_wp2
      go_ret
      exact ⟨ret_s (by rw [← HT.out]; rfl), hb⟩

theorem ff_any (r : Nat) (w : World) (h4 : r < 10000) (hU : unitsAt w) :
    Calls Tryd.prog 65 #[.int .i64 r] w fun e w' => e = .returned (.string (mk (frT r))) ∧ Below w.heap.size w w' := by
  by_cases h : r = 0
  · subst h; exact ff_zero w
  · exact ff_pos r w (by omega) h4 hU

theorem frT_len (r : Nat) : (frT r).length ≤ 5 := by
  unfold frT fdig
  split
  · simp
  · split
    · simp [txt_len]
    · split
      · simp [txt_len]
      · split <;> simp [txt_len]

theorem dec_len (n : Nat) (h : n < 10000000000) : (dec n).length ≤ 10 := by
  unfold dec; rw [txt_len]; exact cnt_le 9 n (by simpa using h)

set_option maxHeartbeats 400000 in
theorem dfmt_any (d : Int) (w : World) (hU : unitsAt w) :
    Calls Tryd.prog 36 #[.int .i64 d] w fun e w' => e = .returned (.string (mk (decT (nearV d)))) ∧ Below w.heap.size w w' := by
  have HN : Hid (∀ w, Calls Tryd.prog 48 #[.int .i64 d] w fun e w' => e = .returned (.int .i64 (nearV d)) ∧ w = w') := fun w => near_any d w
  have HU : Hid (unitsAt w) := hU
  obtain ⟨d1, d2⟩ := near_valid d
  generalize nearV d = x at *
  clear hU
  unfold decT
  obtain ⟨m, hm⟩ : ∃ m : Nat, m = x.natAbs := ⟨_, rfl⟩
  have hm2 : m ≤ 10000000000000 := by omega
  have HF : Hid (∀ w, Calls Tryd.prog 64 #[.int .i64 ((m : Int) / 10000)] w fun e w' => e = .returned (.string (mk (dec (m / 10000)))) ∧ Below w.heap.size w w') := fun w => by
    have := fmt_any (((m / 10000 : Nat) : Int)) w ⟨by omega, by omega⟩
    unfold fmtS at this
    rw [if_neg (by omega), Int.natAbs_natCast] at this
    rw [show (m : Int) / 10000 = ((m / 10000 : Nat) : Int) by omega]
    exact this
  have HR : Hid (∀ w, unitsAt w → Calls Tryd.prog 65 #[.int .i64 ((m : Int) % 10000)] w fun e w' => e = .returned (.string (mk (frT (m % 10000)))) ∧ Below w.heap.size w w') := fun w hU => by
    have := ff_any (m % 10000) w (Nat.mod_lt _ (by omega)) hU
    rw [show (m : Int) % 10000 = ((m % 10000 : Nat) : Int) by omega]
    exact this
  have l1 : (mk (dec (m / 10000))).size ≤ 10 := dec_len _ (by omega)
  have l2 : (mk (frT (m % 10000))).size ≤ 5 := frT_len _
  by_cases hx : x < 0
  · have HS : Hid (mk ((if x < 0 then [45] else []) ++ (dec (x.natAbs / 10000) ++ frT (x.natAbs % 10000))) = ⟨#[45]⟩ ++ mk (dec (m / 10000)) ++ mk (frT (m % 10000))) := by
      show mk _ = _
      rw [if_pos hx, ← hm, ← List.append_assoc, ← mk_append, ← mk_append]; rfl
    rw [HS.out]
    generalize mk (dec (m / 10000)) = a at *
    generalize mk (frT (m % 10000)) = b at *
    obtain rfl : x = -(m : Int) := by omega
    have hm0 : 0 < (m : Int) := by omega
    clear HS hm d1 d2
    go_enter Tryd.func36, Tryd.ntmps36
    go_wp2_with (first | (go_at_call 48; refine (HN.out _).mono ?_; rintro e w' ⟨rfl, rfl⟩) | (go_at_call 64; refine (HF.out _).mono ?_; rintro e w1 ⟨rfl, hb1⟩) | (go_at_call 65; refine (HR.out _ (HU.out.below hb1)).mono ?_; rintro e w2 ⟨rfl, hb2⟩))
    go_ret
    exact ⟨rfl, hb1.trans (hb2.mono hb1.size)⟩
  · have HS : Hid (mk ((if x < 0 then [45] else []) ++ (dec (x.natAbs / 10000) ++ frT (x.natAbs % 10000))) = mk (dec (m / 10000)) ++ mk (frT (m % 10000))) := by
      show mk _ = _
      rw [if_neg hx, ← hm, List.nil_append, ← mk_append]
    rw [HS.out]
    have HE : Hid ((⟨#[]⟩ : ByteArray) ++ mk (dec (m / 10000)) ++ mk (frT (m % 10000)) = mk (dec (m / 10000)) ++ mk (frT (m % 10000))) := by
      show (⟨#[]⟩ : ByteArray) ++ mk (dec (m / 10000)) ++ mk (frT (m % 10000)) = _
      have : (⟨#[]⟩ : ByteArray) = mk [] := rfl
      rw [this, mk_append, List.nil_append]
    generalize mk (dec (m / 10000)) = a at *
    generalize mk (frT (m % 10000)) = b at *
    obtain rfl : x = (m : Int) := by omega
    clear HS hm d1 d2
    go_enter Tryd.func36, Tryd.ntmps36
    go_wp2_with (first | (go_at_call 48; refine (HN.out _).mono ?_; rintro e w' ⟨rfl, rfl⟩) | (go_at_call 64; refine (HF.out _).mono ?_; rintro e w1 ⟨rfl, hb1⟩) | (go_at_call 65; refine (HR.out _ (HU.out.below hb1)).mono ?_; rintro e w2 ⟨rfl, hb2⟩))
    go_ret
    exact ⟨ret_s (by first | exact HE.out | rfl), hb1.trans (hb2.mono hb1.size)⟩

end Go.Proofs.YtdgbfblhiongoaaDoor
