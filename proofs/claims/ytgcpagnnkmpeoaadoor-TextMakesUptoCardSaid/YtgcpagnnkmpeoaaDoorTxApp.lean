/- Escape: the bytes that the program appends. -/
import Derived.Test.YtgcpagnnkmpeoaaDoorTxOwn
set_option linter.unusedVariables false
namespace Go.Proofs.YtgcpagnnkmpeoaaDoor
open Go.RowKit

def AppPost (B n : Nat) (l : List UInt8) (r : List UInt8) (w : World) (e : Ending) (w' : World) : Prop :=
  ∃ v', e = .returned v' ∧ w'.ownsRow B 5 1 v' (n + r.length) (ints (l ++ r)) ∧ Below B w w'
theorem app_post {B n m : Nat} {l r : List UInt8} {vs : List Value} {w w' : World} {v' : Value} (hown : w'.ownsRow B 5 1 v' (n + m) (ints l ++ vs)) (hm : m = r.length) (hv : vs = ints r) (hb : Below B w w') : AppPost B n l r w (.returned v') w' := by
  refine ⟨v', rfl, ?_, hb⟩
  rw [ints_app, ← hm, ← hv]; exact hown

set_option maxHeartbeats 400000 in
theorem app_bs (B n : Nat) (v : Value) (l : List UInt8)  (w : World) (hB : B ≤ w.heap.size) (hown : w.ownsRow B 5 1 v n (ints l)) (hn : n ≤ 1000000000000) :
    Calls Tryd.prog 34 #[v, .int .u8 92] w (AppPost B n l [92, 92] w) := by
  have HO : Hid (w.ownsRow B 5 1 v n (ints l)) := hown
  clear hown
  go_enter Tryd.func34, Tryd.ntmps34
  go_wp2_with (at_builtin; refine app_lit 42 5 (.int .u8 0) 1 Tryd.underlying42 infoB rfl w rfl _ _ rfl B v _ _ _ _ rfl rfl HO.out rfl rfl ?c1 hB ?c2 ?c3 ?_)
  case c1 => simp [Value.oneCell']
  case c2 => unfold maxLen; omega
  case c3 => omega
  intro v' w' hown' hb'
  have HW := Lib.hid hown'
  have HB := Lib.hid (hb' w (Below.refl _ _))
  clear hown' hb'
  go_wp2
  go_ret
  exact app_post HW.out rfl rfl HB.out

set_option maxHeartbeats 400000 in
theorem app_plain (B n : Nat) (v : Value) (l : List UInt8) (c : UInt8) (w : World) (hB : B ≤ w.heap.size) (hown : w.ownsRow B 5 1 v n (ints l)) (hn : n ≤ 1000000000000) (h1 : 32 ≤ (c.toNat : Int)) (h2 : (c.toNat : Int) ≤ 126) (h3 : ((c.toNat : Int) == 92) = false) :
    Calls Tryd.prog 34 #[v, .int .u8 (c.toNat : Int)] w (AppPost B n l [c] w) := by
  have HO : Hid (w.ownsRow B 5 1 v n (ints l)) := hown
  clear hown
  go_enter Tryd.func34, Tryd.ntmps34
  go_wp2_with (at_builtin; refine app_lit 42 5 (.int .u8 0) 1 Tryd.underlying42 infoB rfl w rfl _ _ rfl B v _ _ _ _ rfl rfl HO.out rfl rfl ?c1 hB ?c2 ?c3 ?_)
  case c1 => simp [Value.oneCell']
  case c2 => unfold maxLen; omega
  case c3 => omega
  intro v' w' hown' hb'
  have HW := Lib.hid hown'
  have HB := Lib.hid (hb' w (Below.refl _ _))
  clear hown' hb'
  go_wp2
  go_ret
  exact app_post HW.out rfl rfl HB.out

set_option maxHeartbeats 400000 in
theorem app_l7 (B n : Nat) (v : Value) (l : List UInt8)  (w : World) (hB : B ≤ w.heap.size) (hown : w.ownsRow B 5 1 v n (ints l)) (hn : n ≤ 1000000000000) :
    Calls Tryd.prog 34 #[v, .int .u8 7] w (AppPost B n l [92, 97] w) := by
  have HO : Hid (w.ownsRow B 5 1 v n (ints l)) := hown
  clear hown
  go_enter Tryd.func34, Tryd.ntmps34
  go_wp2_with (at_builtin; refine app_lit 42 5 (.int .u8 0) 1 Tryd.underlying42 infoB rfl w rfl _ _ rfl B v _ _ _ _ rfl rfl HO.out rfl rfl ?c1 hB ?c2 ?c3 ?_)
  case c1 => simp [Value.oneCell']
  case c2 => unfold maxLen; omega
  case c3 => omega
  intro v' w' hown' hb'
  have HW := Lib.hid hown'
  have HB := Lib.hid (hb' w (Below.refl _ _))
  clear hown' hb'
  go_wp2
  go_ret
  exact app_post HW.out rfl rfl HB.out

set_option maxHeartbeats 400000 in
theorem app_l8 (B n : Nat) (v : Value) (l : List UInt8)  (w : World) (hB : B ≤ w.heap.size) (hown : w.ownsRow B 5 1 v n (ints l)) (hn : n ≤ 1000000000000) :
    Calls Tryd.prog 34 #[v, .int .u8 8] w (AppPost B n l [92, 98] w) := by
  have HO : Hid (w.ownsRow B 5 1 v n (ints l)) := hown
  clear hown
  go_enter Tryd.func34, Tryd.ntmps34
  go_wp2_with (at_builtin; refine app_lit 42 5 (.int .u8 0) 1 Tryd.underlying42 infoB rfl w rfl _ _ rfl B v _ _ _ _ rfl rfl HO.out rfl rfl ?c1 hB ?c2 ?c3 ?_)
  case c1 => simp [Value.oneCell']
  case c2 => unfold maxLen; omega
  case c3 => omega
  intro v' w' hown' hb'
  have HW := Lib.hid hown'
  have HB := Lib.hid (hb' w (Below.refl _ _))
  clear hown' hb'
  go_wp2
  go_ret
  exact app_post HW.out rfl rfl HB.out

set_option maxHeartbeats 400000 in
theorem app_l9 (B n : Nat) (v : Value) (l : List UInt8)  (w : World) (hB : B ≤ w.heap.size) (hown : w.ownsRow B 5 1 v n (ints l)) (hn : n ≤ 1000000000000) :
    Calls Tryd.prog 34 #[v, .int .u8 9] w (AppPost B n l [92, 116] w) := by
  have HO : Hid (w.ownsRow B 5 1 v n (ints l)) := hown
  clear hown
  go_enter Tryd.func34, Tryd.ntmps34
  go_wp2_with (at_builtin; refine app_lit 42 5 (.int .u8 0) 1 Tryd.underlying42 infoB rfl w rfl _ _ rfl B v _ _ _ _ rfl rfl HO.out rfl rfl ?c1 hB ?c2 ?c3 ?_)
  case c1 => simp [Value.oneCell']
  case c2 => unfold maxLen; omega
  case c3 => omega
  intro v' w' hown' hb'
  have HW := Lib.hid hown'
  have HB := Lib.hid (hb' w (Below.refl _ _))
  clear hown' hb'
  go_wp2
  go_ret
  exact app_post HW.out rfl rfl HB.out

set_option maxHeartbeats 400000 in
theorem app_l10 (B n : Nat) (v : Value) (l : List UInt8)  (w : World) (hB : B ≤ w.heap.size) (hown : w.ownsRow B 5 1 v n (ints l)) (hn : n ≤ 1000000000000) :
    Calls Tryd.prog 34 #[v, .int .u8 10] w (AppPost B n l [92, 110] w) := by
  have HO : Hid (w.ownsRow B 5 1 v n (ints l)) := hown
  clear hown
  go_enter Tryd.func34, Tryd.ntmps34
  go_wp2_with (at_builtin; refine app_lit 42 5 (.int .u8 0) 1 Tryd.underlying42 infoB rfl w rfl _ _ rfl B v _ _ _ _ rfl rfl HO.out rfl rfl ?c1 hB ?c2 ?c3 ?_)
  case c1 => simp [Value.oneCell']
  case c2 => unfold maxLen; omega
  case c3 => omega
  intro v' w' hown' hb'
  have HW := Lib.hid hown'
  have HB := Lib.hid (hb' w (Below.refl _ _))
  clear hown' hb'
  go_wp2
  go_ret
  exact app_post HW.out rfl rfl HB.out

set_option maxHeartbeats 400000 in
theorem app_l11 (B n : Nat) (v : Value) (l : List UInt8)  (w : World) (hB : B ≤ w.heap.size) (hown : w.ownsRow B 5 1 v n (ints l)) (hn : n ≤ 1000000000000) :
    Calls Tryd.prog 34 #[v, .int .u8 11] w (AppPost B n l [92, 118] w) := by
  have HO : Hid (w.ownsRow B 5 1 v n (ints l)) := hown
  clear hown
  go_enter Tryd.func34, Tryd.ntmps34
  go_wp2_with (at_builtin; refine app_lit 42 5 (.int .u8 0) 1 Tryd.underlying42 infoB rfl w rfl _ _ rfl B v _ _ _ _ rfl rfl HO.out rfl rfl ?c1 hB ?c2 ?c3 ?_)
  case c1 => simp [Value.oneCell']
  case c2 => unfold maxLen; omega
  case c3 => omega
  intro v' w' hown' hb'
  have HW := Lib.hid hown'
  have HB := Lib.hid (hb' w (Below.refl _ _))
  clear hown' hb'
  go_wp2
  go_ret
  exact app_post HW.out rfl rfl HB.out

set_option maxHeartbeats 400000 in
theorem app_l12 (B n : Nat) (v : Value) (l : List UInt8)  (w : World) (hB : B ≤ w.heap.size) (hown : w.ownsRow B 5 1 v n (ints l)) (hn : n ≤ 1000000000000) :
    Calls Tryd.prog 34 #[v, .int .u8 12] w (AppPost B n l [92, 102] w) := by
  have HO : Hid (w.ownsRow B 5 1 v n (ints l)) := hown
  clear hown
  go_enter Tryd.func34, Tryd.ntmps34
  go_wp2_with (at_builtin; refine app_lit 42 5 (.int .u8 0) 1 Tryd.underlying42 infoB rfl w rfl _ _ rfl B v _ _ _ _ rfl rfl HO.out rfl rfl ?c1 hB ?c2 ?c3 ?_)
  case c1 => simp [Value.oneCell']
  case c2 => unfold maxLen; omega
  case c3 => omega
  intro v' w' hown' hb'
  have HW := Lib.hid hown'
  have HB := Lib.hid (hb' w (Below.refl _ _))
  clear hown' hb'
  go_wp2
  go_ret
  exact app_post HW.out rfl rfl HB.out

set_option maxHeartbeats 400000 in
theorem app_l13 (B n : Nat) (v : Value) (l : List UInt8)  (w : World) (hB : B ≤ w.heap.size) (hown : w.ownsRow B 5 1 v n (ints l)) (hn : n ≤ 1000000000000) :
    Calls Tryd.prog 34 #[v, .int .u8 13] w (AppPost B n l [92, 114] w) := by
  have HO : Hid (w.ownsRow B 5 1 v n (ints l)) := hown
  clear hown
  go_enter Tryd.func34, Tryd.ntmps34
  go_wp2_with (at_builtin; refine app_lit 42 5 (.int .u8 0) 1 Tryd.underlying42 infoB rfl w rfl _ _ rfl B v _ _ _ _ rfl rfl HO.out rfl rfl ?c1 hB ?c2 ?c3 ?_)
  case c1 => simp [Value.oneCell']
  case c2 => unfold maxLen; omega
  case c3 => omega
  intro v' w' hown' hb'
  have HW := Lib.hid hown'
  have HB := Lib.hid (hb' w (Below.refl _ _))
  clear hown' hb'
  go_wp2
  go_ret
  exact app_post HW.out rfl rfl HB.out

theorem oct_ints (c : UInt8) : ([.int .u8 92, .int .u8 (48 + (c.toNat : Int) / 64), .int .u8 (48 + (c.toNat : Int) / 8 % 8), .int .u8 (48 + (c.toNat : Int) % 8)] : List Value) = ints (oct3 c) := by
  have h := c.toNat_lt
  unfold ints oct3
  simp only [List.map_cons, List.map_nil, List.cons.injEq, Value.int.injEq, true_and, and_true]
  refine ⟨rfl, ?_, ?_, ?_⟩
  all_goals (simp; omega)
theorem oct_ints2 (c : UInt8) : ([.int .u8 92, .int .u8 ((48 + (c.toNat : Int) / 64) % 256), .int .u8 ((48 + (c.toNat : Int) / 8 % 8) % 256), .int .u8 ((48 + (c.toNat : Int) % 8) % 256)] : List Value) = ints (oct3 c) := by
  have h := c.toNat_lt
  rw [← oct_ints c]
  simp only [List.cons.injEq, Value.int.injEq, true_and, and_true]
  omega
theorem bits7 (c : UInt8) : bits .and .u8 ((c.toNat : Int) / 8) 7 = (c.toNat : Int) / 8 % 8 ∧ bits .and .u8 (c.toNat : Int) 7 = (c.toNat : Int) % 8 := by
  revert c; apply all_bytes; decide +kernel

set_option maxHeartbeats 400000 in
theorem app_o1 (B n : Nat) (v : Value) (l : List UInt8) (c : UInt8) (w : World) (hB : B ≤ w.heap.size) (hown : w.ownsRow B 5 1 v n (ints l)) (hn : n ≤ 1000000000000) (h1 : (c.toNat : Int) < 7) (h4 : ¬ 32 ≤ (c.toNat : Int)) (h5 : ¬ 7 ≤ (c.toNat : Int)) (b1 : bits .and .u8 ((c.toNat : Int) / 8) 7 = (c.toNat : Int) / 8 % 8) (b2 : bits .and .u8 (c.toNat : Int) 7 = (c.toNat : Int) % 8) (h3 : ((c.toNat : Int) == 92) = false) :
    Calls Tryd.prog 34 #[v, .int .u8 (c.toNat : Int)] w (AppPost B n l (oct3 c) w) := by
  have HO : Hid (w.ownsRow B 5 1 v n (ints l)) := hown
  clear hown
  go_enter Tryd.func34, Tryd.ntmps34
  go_wp2_with (at_builtin; refine app_lit 42 5 (.int .u8 0) 1 Tryd.underlying42 infoB rfl w rfl _ _ rfl B v _ _ _ _ rfl rfl HO.out rfl rfl ?c1 hB ?c2 ?c3 ?_)
  case c1 => simp [Value.oneCell']
  case c2 => unfold maxLen; omega
  case c3 => omega
  intro v' w' hown' hb'
  have HW := Lib.hid hown'
  have HB := Lib.hid (hb' w (Below.refl _ _))
  clear hown' hb'
  go_wp2
  go_ret
  exact app_post HW.out rfl (by first | exact oct_ints c | (have hlt := c.toNat_lt; rw [← oct_ints c]; simp only [List.cons.injEq, Value.int.injEq, true_and, and_true]; omega)) HB.out

set_option maxHeartbeats 400000 in
theorem app_o2 (B n : Nat) (v : Value) (l : List UInt8) (c : UInt8) (w : World) (hB : B ≤ w.heap.size) (hown : w.ownsRow B 5 1 v n (ints l)) (hn : n ≤ 1000000000000) (h1 : 14 ≤ (c.toNat : Int)) (h2 : (c.toNat : Int) < 32) (h4 : ¬ 32 ≤ (c.toNat : Int)) (h5 : 7 ≤ (c.toNat : Int)) (h6 : ¬ (c.toNat : Int) < 14) (b1 : bits .and .u8 ((c.toNat : Int) / 8) 7 = (c.toNat : Int) / 8 % 8) (b2 : bits .and .u8 (c.toNat : Int) 7 = (c.toNat : Int) % 8) (h3 : ((c.toNat : Int) == 92) = false) :
    Calls Tryd.prog 34 #[v, .int .u8 (c.toNat : Int)] w (AppPost B n l (oct3 c) w) := by
  have HO : Hid (w.ownsRow B 5 1 v n (ints l)) := hown
  clear hown
  go_enter Tryd.func34, Tryd.ntmps34
  go_wp2_with (at_builtin; refine app_lit 42 5 (.int .u8 0) 1 Tryd.underlying42 infoB rfl w rfl _ _ rfl B v _ _ _ _ rfl rfl HO.out rfl rfl ?c1 hB ?c2 ?c3 ?_)
  case c1 => simp [Value.oneCell']
  case c2 => unfold maxLen; omega
  case c3 => omega
  intro v' w' hown' hb'
  have HW := Lib.hid hown'
  have HB := Lib.hid (hb' w (Below.refl _ _))
  clear hown' hb'
  go_wp2
  go_ret
  exact app_post HW.out rfl (by first | exact oct_ints c | (have hlt := c.toNat_lt; rw [← oct_ints c]; simp only [List.cons.injEq, Value.int.injEq, true_and, and_true]; omega)) HB.out

set_option maxHeartbeats 400000 in
theorem app_o3 (B n : Nat) (v : Value) (l : List UInt8) (c : UInt8) (w : World) (hB : B ≤ w.heap.size) (hown : w.ownsRow B 5 1 v n (ints l)) (hn : n ≤ 1000000000000) (h1 : 126 < (c.toNat : Int)) (h4 : 32 ≤ (c.toNat : Int)) (h5 : 7 ≤ (c.toNat : Int)) (h6 : ¬ (c.toNat : Int) < 14) (h7 : ¬ (c.toNat : Int) ≤ 126) (b1 : bits .and .u8 ((c.toNat : Int) / 8) 7 = (c.toNat : Int) / 8 % 8) (b2 : bits .and .u8 (c.toNat : Int) 7 = (c.toNat : Int) % 8) (h3 : ((c.toNat : Int) == 92) = false) :
    Calls Tryd.prog 34 #[v, .int .u8 (c.toNat : Int)] w (AppPost B n l (oct3 c) w) := by
  have HO : Hid (w.ownsRow B 5 1 v n (ints l)) := hown
  clear hown
  go_enter Tryd.func34, Tryd.ntmps34
  go_wp2_with (at_builtin; refine app_lit 42 5 (.int .u8 0) 1 Tryd.underlying42 infoB rfl w rfl _ _ rfl B v _ _ _ _ rfl rfl HO.out rfl rfl ?c1 hB ?c2 ?c3 ?_)
  case c1 => simp [Value.oneCell']
  case c2 => unfold maxLen; omega
  case c3 => omega
  intro v' w' hown' hb'
  have HW := Lib.hid hown'
  have HB := Lib.hid (hb' w (Below.refl _ _))
  clear hown' hb'
  go_wp2
  go_ret
  exact app_post HW.out rfl (by first | exact oct_ints c | (have hlt := c.toNat_lt; rw [← oct_ints c]; simp only [List.cons.injEq, Value.int.injEq, true_and, and_true]; omega)) HB.out

theorem app_any (B n : Nat) (v : Value) (l : List UInt8) (c : UInt8) (w : World) (hB : B ≤ w.heap.size) (hown : w.ownsRow B 5 1 v n (ints l)) (hn : n ≤ 1000000000000) :
    Calls Tryd.prog 34 #[v, .int .u8 (c.toNat : Int)] w (AppPost B n l (esc c) w) := by
  have hne : c ≠ 92 → ((c.toNat : Int) == 92) = false := fun h => by
    have q := beq_byte c 92
    rw [show ((92 : UInt8).toNat : Int) = 92 from rfl] at q
    rw [q]; simpa using h
  have hcase : c = 92 ∨ c = 7 ∨ c = 8 ∨ c = 9 ∨ c = 10 ∨ c = 11 ∨ c = 12 ∨ c = 13 ∨ (c ≠ 92 ∧ 32 ≤ c.toNat ∧ c.toNat ≤ 126 ∧ esc c = [c]) ∨ (c ≠ 92 ∧ c.toNat < 7 ∧ esc c = oct3 c) ∨ (c ≠ 92 ∧ 14 ≤ c.toNat ∧ c.toNat < 32 ∧ esc c = oct3 c) ∨ (c ≠ 92 ∧ 126 < c.toNat ∧ esc c = oct3 c) := by
    clear hne hown; revert c; apply all_bytes; decide +kernel
  rcases hcase with h | h | h | h | h | h | h | h | ⟨h, h1, h2, h3⟩ | ⟨h, h1, h3⟩ | ⟨h, h1, h2, h3⟩ | ⟨h, h1, h3⟩
  · subst h; exact app_bs B n v l w hB hown hn
  · subst h; exact app_l7 B n v l w hB hown hn
  · subst h; exact app_l8 B n v l w hB hown hn
  · subst h; exact app_l9 B n v l w hB hown hn
  · subst h; exact app_l10 B n v l w hB hown hn
  · subst h; exact app_l11 B n v l w hB hown hn
  · subst h; exact app_l12 B n v l w hB hown hn
  · subst h; exact app_l13 B n v l w hB hown hn
  · rw [h3]; exact app_plain B n v l c w hB hown hn (by omega) (by omega) (hne h)
  · rw [h3]; exact app_o1 B n v l c w hB hown hn (by omega) (by omega) (by omega) (bits7 c).1 (bits7 c).2 (hne h)
  · rw [h3]; exact app_o2 B n v l c w hB hown hn (by omega) (by omega) (by omega) (by omega) (by omega) (bits7 c).1 (bits7 c).2 (hne h)
  · rw [h3]; exact app_o3 B n v l c w hB hown hn (by omega) (by omega) (by omega) (by omega) (by omega) (bits7 c).1 (bits7 c).2 (hne h)
end Go.Proofs.YtgcpagnnkmpeoaaDoor
