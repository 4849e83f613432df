/- RxPrt. -/
import Derived.Test.YtphiaagppcbefaaGreatDoorPs42
import Derived.Test.YtphiaagppcbefaaGreatDoorPs12
import Derived.Test.YtphiaagppcbefaaGreatDoorPs24
import Derived.Test.YtphiaagppcbefaaGreatDoorPs41
import Derived.Test.YtphiaagppcbefaaGreatDoorPs10
import Derived.Test.YtphiaagppcbefaaGreatDoorPs6
import Derived.Lib.AppendStr
import Derived.StillTailTactics
import Derived.Deep.CutRange
import Derived.Deep.Cut
import Derived.Deep.DeepCutAuto
set_option linter.unusedVariables false
namespace Go.Proofs.YtphiaagppcbefaaGreatDoor
open Go.RowKit
def OneS (st : Nat → Bool) : Prop := ∃ n : Nat, n < 256 ∧ spT (n : Int) true = false ∧ st = between n n
def letN (o : Int) (st : Nat → Bool) : Prop := o = 2 → OneS st
def letF : F → Prop
  | .nil => True
  | .cons o s _ _ _ a r => letN o s ∧ letF a ∧ letF r
theorem letF_nth : ∀ {f : F} (i : Nat), letF f → i < f.len → letN (f.nth i).op (f.nth i).st ∧ letF (f.nth i).args
  | .nil, i, h, hi => by cases hi
  | .cons o s l h g a r, 0, hk, _ => ⟨hk.1, hk.2.1⟩
  | .cons o s l h g a r, i + 1, hk, hi => letF_nth (f := r) i hk.2.2 (by have : i + 1 < r.len + 1 := hi; omega)
def joinB (sep : List UInt8) : List (List UInt8) → List UInt8
  | [] => []
  | x :: xs => x ++ (xs.map (sep ++ ·)).flatten
theorem joinB_snoc (sep : List UInt8) (l : List (List UInt8)) (x : List UInt8) : joinB sep (l ++ [x]) = joinB sep l ++ ((if l = [] then [] else sep) ++ x) := by
  cases l with
  | nil => simp [joinB]
  | cons y ys => simp [joinB, List.append_assoc]
def sepO (o : Int) : List UInt8 := if o = 4 then [124] else []
def nodeB (o : Int) (s : Nat → Bool) (inner : List UInt8) : List UInt8 := if o = 2 then bl (el s 256) else if o = 5 then inner ++ [42] else inner
def ptF : F → List (List UInt8)
  | .nil => []
  | .cons o s _ _ _ a r => nodeB o s (joinB (sepO o) (ptF a)) :: ptF r
def prN (o : Int) (s : Nat → Bool) (a : F) : List UInt8 := nodeB o s (joinB (sepO o) (ptF a))
theorem ptF_len : ∀ f : F, (ptF f).length = f.len
  | .nil => rfl
  | .cons o s l h g a r => by show (ptF r).length + 1 = r.len + 1; rw [ptF_len r]
theorem ptF_nth : ∀ (f : F) (k : Nat), k < f.len → (ptF f)[k]? = some (prN (f.nth k).op (f.nth k).st (f.nth k).args)
  | .nil, k, h => by cases h
  | .cons o s l h g a r, 0, _ => rfl
  | .cons o s l h g a r, k + 1, hk => by
    show (ptF r)[k]? = _
    exact ptF_nth r k (by have : k + 1 < r.len + 1 := hk; omega)
def prK (sep : List UInt8) (f : F) (k : Nat) : List UInt8 := joinB sep ((ptF f).take k)
theorem prK_all (sep : List UInt8) (f : F) : prK sep f f.len = joinB sep (ptF f) := by
  unfold prK
  rw [← ptF_len f, List.take_length]
theorem prK_next (sep : List UInt8) (f : F) (k : Nat) (h : k < f.len) : prK sep f (k + 1) = prK sep f k ++ ((if k = 0 then [] else sep) ++ prN (f.nth k).op (f.nth k).st (f.nth k).args) := by
  have h1 := ptF_nth f k h
  have h2 : (ptF f).take (k + 1) = (ptF f).take k ++ [prN (f.nth k).op (f.nth k).st (f.nth k).args] := by
    rw [List.take_add_one, h1]
    rfl
  unfold prK
  rw [h2, joinB_snoc]
  have h3 : ((ptF f).take k = []) ↔ k = 0 := by
    rw [List.take_eq_nil_iff]
    constructor
    · rintro (h | h)
      · exact h
      · have := ptF_len f
        rw [h] at this
        have : f.len = 0 := this.symm
        omega
    · exact .inl
  by_cases h0 : k = 0
  · rw [if_pos h0, if_pos (h3.2 h0)]
  · rw [if_neg h0, if_neg (fun x => h0 (h3.1 x))]
theorem prK_le (sep : List UInt8) (f : F) : ∀ k j, k ≤ j → j ≤ f.len → (prK sep f k).length ≤ (prK sep f j).length
  | k, 0, h, _ => by have : k = 0 := by omega
                     subst this; exact Nat.le_refl _
  | k, j + 1, h, hj => by
    by_cases e : k = j + 1
    · subst e; exact Nat.le_refl _
    · have := prK_le sep f k j (by omega) (by omega)
      rw [prK_next sep f j (by omega), List.length_append]
      omega
def OB (B : Nat) (w : World) (v : Value) (xs : List UInt8) : Prop := w.ownsRow B 5 1 v xs.length (bys xs)
theorem OB.below {B : Nat} {w w' : World} {v : Value} {xs : List UInt8} (h : OB B w v xs) (hb : Below w.heap.size w w') : OB B w' v xs := own_under h hb
theorem OB.drew {B : Nat} {w : World} {v : Value} {xs : List UInt8} (h : OB B w v xs) : OB B w.drew v xs := h.below (Below.refl _ _).drew
theorem OB.nil (B : Nat) (w : World) : OB B w (.slice none 0 0) [] := World.ownsRow_nil _ _ _ _
theorem OB.form {B : Nat} {w : World} {v : Value} {xs : List UInt8} (h : OB B w v xs) : ∃ a c, v = .slice a xs.length c := own_form h
structure GB (w w' : World) (v v' : Value) : Prop where
  g : w.grownBy w' v.ownBlock
  at_ : ∀ k, v'.ownBlock = some k → v.ownBlock = some k ∨ w.heap.size ≤ k
theorem GB.of {w w' : World} (v : Value) (h : Below w.heap.size w w') : GB w w' v v := ⟨⟨h.os, h.tape, h.output, h.size, fun k hk _ => h.block k hk⟩, fun k e => .inl e⟩
theorem GB.trans {w w1 w2 : World} {v v1 v2 : Value} (h : GB w w1 v v1) (k : GB w1 w2 v1 v2) : GB w w2 v v2 := by
  have s1 := h.g.size
  refine ⟨⟨k.g.os.trans h.g.os, k.g.tape.trans h.g.tape, k.g.output.trans h.g.output, Nat.le_trans s1 k.g.size, fun b hb hn => (k.g.block b (by omega) (fun e => ?_)).trans (h.g.block b hb hn)⟩, fun b e => ?_⟩
  · rcases h.at_ b e.symm with h2 | h2
    · exact hn h2.symm
    · omega
  · rcases k.at_ b e with h2 | h2
    · exact h.at_ b h2
    · exact .inr (by omega)
theorem GB.below {w w' : World} {v v' : Value} (h : GB w w' v v') {B : Nat} {xs : List UInt8} (ho : OB B w v xs) (hB : B ≤ w.heap.size) : Below B w w' := (Below.refl _ _).grown h.g hB (fun j e => (World.ownsRow.lt ho j e).1)
theorem GB.keep {w w' : World} {v v' : Value} (h : GB w w' v v') {k : Nat} (hk : k < w.heap.size) (hn : v.ownBlock ≠ some k) : w'.heap[k]? = w.heap[k]? := h.g.block k hk (fun e => hn e.symm)
theorem run_app_str (B : Nat) (w : World) (v : Value) (xs : List UInt8) (s : ByteArray) (ty : TypeId) (h : OB B w v xs) (hs : xs.length + s.size ≤ 1000000) (hB : B ≤ w.heap.size) :
    ∃ v' w', (Builtin.append_ #[62, 9] ty #[v, .string s]).run Tryz.prog w = .ok v' w' ∧ OB B w' v' (xs ++ s.data.toList) ∧ GB w w' v v' := by
  obtain ⟨i0, hi, hz0, hz1, hz2⟩ := info_parts infoU
  obtain ⟨v', w', h1, h2, h3, h4⟩ := Lib.run_append_own_string (P := Tryz.prog) w B 62 9 ty 5 i0 Tryz.underlying62 Tryz.underlying9 hi hz0 hz1 hz2 v xs.length (bys xs) h s (by unfold maxLen; omega) (by omega) hB
  refine ⟨v', w', h1, ?_, h3, ?_⟩
  · unfold OB
    rw [List.length_append, bys_app]
    exact h2
  · rcases h.2 with ⟨rfl, h0⟩ | ⟨g, cap, cur, rfl, hbg, hg, hnc, hcm, hcs, htake⟩
    · by_cases hz : s.size = 0
      · intro k e
        rw [h4.2 ⟨rfl, hz⟩] at e
        cases e
      · have hr := run_append_nil_string (P := Tryz.prog) w 62 9 ty 5 i0 (.int .u8 0) Tryz.underlying62 Tryz.underlying9 hi hz0 s (by omega) (by omega) (by rw [hz2]; omega)
        rw [hr] at h1
        injection h1 with e1 e2
        intro k e
        rw [← e1] at e
        cases e
        exact .inr (Nat.le_refl _)
    · by_cases hroom : xs.length + s.size ≤ cap
      · have hr := Lib.run_append_room_string (P := Tryz.prog) w 62 9 ty 5 i0 Tryz.underlying62 Tryz.underlying9 hi hz1 g xs.length cap cur hg s hroom (by omega)
        rw [hr] at h1
        injection h1 with e1 e2
        intro k e
        rw [← e1] at e
        exact .inl e
      · have hr := Lib.run_append_grow_string (P := Tryz.prog) w 62 9 ty 5 i0 (.int .u8 0) Tryz.underlying62 Tryz.underlying9 hi hz0 ⟨g, 0, none⟩ xs.length cap (bys xs) (by rw [hz1]; simpa using h.1) (World.ownsRow.cells h (g := g) rfl) s (by omega) (by omega) (by rw [hz2]; exact growslice_fits (by omega) (by omega))
        rw [hr] at h1
        injection h1 with e1 e2
        intro k e
        rw [← e1] at e
        cases e
        exact .inr (Nat.le_refl _)
theorem wp_app_str {o : Oper} {a : Act} {w : World} {K : Act → World → Prop} {Q : Exit → Act → World → Prop} (B : Nat) (v : Value) (xs : List UInt8) (s : ByteArray) (sl x : Operand)
    (ho : o.op = .call { callee := .builtin .append, args := #[sl, x], argTypes := #[62, 9] }) (hs : a.eval sl = v) (hx : a.eval x = .string s) (h : OB B w v xs) (hz : xs.length + s.size ≤ 1000000) (hB : B ≤ w.heap.size)
    (hK : ∀ v' w', OB B w' v' (xs ++ s.data.toList) → GB w w' v v' → K (a.put o.dst v') w') : o.wp Tryz.prog a w K Q := by
  obtain ⟨v', w', hr, h2, h3⟩ := run_app_str B w v xs s o.type h hz hB
  unfold Oper.wp execOp
  simp only [ho, resolve, invoke, builtin, Sem.run_bind, Sem.run_pure, Result.andThen_ok, List.map_toArray, List.map_cons, List.map_nil, hs, hx, hr]
  exact hK v' w' h2 h3
theorem wpList_app_str {ops : Array Oper} {rest : List Oper} {o : Oper} {a : Act} {w : World} {Q : Exit → Act → World → Prop} (B : Nat) (v : Value) (xs : List UInt8) (s : ByteArray) (hgd : o.guard = none) (sl x : Operand)
    (ho : o.op = .call { callee := .builtin .append, args := #[sl, x], argTypes := #[62, 9] }) (hs : a.eval sl = v) (hx : a.eval x = .string s) (h : OB B w v xs) (hz : xs.length + s.size ≤ 1000000) (hB : B ≤ w.heap.size)
    (hK : ∀ v' w', OB B w' v' (xs ++ s.data.toList) → GB w w' v v' → wpList Tryz.prog ops Q rest (a.put o.dst v') w') : wpList Tryz.prog ops Q (o :: rest) a w :=
  wpList_plain hgd fun _ hK2 => wp_app_str B v xs s sl x ho hs hx h hz hB fun v' w' h1 h2 => hK2 _ _ (hK v' w' h1 h2)
theorem tab_under {B : Nat} {w w' : World} (h : tabAt w) (hb : Below B w w') (hB : 0 < B) : tabAt w' := fun j hj => (cell_same (hb.block _ hB)).trans (h j hj)
theorem one_compl (n : Nat) (h : n < 256) : eqc (fun x => !between n n x) noSet = false := by
  cases he : eqc (fun x => !between n n x) noSet with
  | false => rfl
  | true =>
    exfalso
    rw [eqc_iff] at he
    have h1 := he (if n = 0 then 1 else 0) (by split <;> omega)
    unfold between noSet at h1
    by_cases h0 : n = 0
    · subst h0
      exact absurd h1 (by decide)
    · rw [if_neg h0, decide_eq_false (show ¬ n ≤ 0 by omega)] at h1
      simp at h1
set_option maxRecDepth 100000 in
set_option maxHeartbeats 8000000 in
theorem formatSet_one (n : Nat) (hn : n < 256) (hs : spT (n : Int) true = false) (w : World) (hT : tabAt w) : Calls Tryz.prog 47 #[cs (between n n)] w fun e w' => e = .returned (.string ⟨#[UInt8.ofNat n]⟩) ∧ Below w.heap.size w w' := by
  have hl : bl (el (between n n) 256) = [UInt8.ofNat n] := by rw [el_one n hn]; rfl
  have HLi : Hid (∀ W, tabAt W → Calls Tryz.prog 70 #[cs (between n n)] W fun e w' => e = .returned (.string ⟨#[UInt8.ofNat n]⟩) ∧ Below W.heap.size W w') := Lib.hid fun W h => by
    have := list_any (between n n) W h
    rw [hl] at this
    exact this
  have HCo := Lib.hid (fun W => compl_any (between n n) W)
  have hcmp : ∀ w, (binOp .eql 32 (cs fun x => !between n n x) (.agg #[.int .u64 0, .int .u64 0, .int .u64 0, .int .u64 0])).run Tryz.prog w = .ok (.bool false) w := fun w => by
    have := eql_cs (fun x => !between n n x) noSet w
    rw [one_compl n hn] at this
    unfold cs cl at this ⊢
    rw [wd_noSet.1, wd_noSet.2.1, wd_noSet.2.2.1, wd_noSet.2.2.2] at this
    exact this
  have hb : ((UInt8.ofNat n).toNat : Int) = (n : Int) := by rw [ofNat_lt hn]
  have HSp : Hid (∀ W, Calls Tryz.prog 72 #[.int .i32 (wrap32 (((⟨#[UInt8.ofNat n]⟩ : ByteArray)[0]'(Nat.zero_lt_one)).toNat : Int)), .bool true] W fun e w' => e = .returned (.bool false) ∧ W = w') := Lib.hid fun W => by
    have := isSpecial_any (n : Int) true W
    have e : wrap32 (((⟨#[UInt8.ofNat n]⟩ : ByteArray)[0]'(Nat.zero_lt_one)).toNat : Int) = (n : Int) := by
      show wrap32 ((UInt8.ofNat n).toNat : Int) = _
      rw [hb]
      unfold wrap32
      omega
    rw [hs] at this
    rw [e]
    exact this
  have HT := Lib.hid hT
  have HA0 := Lib.hid (show At (w.alloc (.cells (cl (between n n)) 32)) w.heap.size (between n n) from heap_alloc_new w _)
  clear hl hs hT hb
  unfold cs cl at *
  go_enter Tryz.func47, Tryz.ntmps47
  go_wp2_with (first
    | (go_at_call 70; (with_reducible refine (HLi.out _ (tab_keep HT.out ((Below.refl _ _).alloc (Nat.le_refl _) _))).mono ?_); rintro e w1 ⟨rfl, hb1⟩; have HB1 := Lib.hid (((Below.refl w.heap.size w).alloc (Nat.le_refl _) _).trans (hb1.mono (by simp))); obtain ⟨⟨x0, x1⟩, ⟨x2, x3⟩, x4⟩ := (HA0.out.below hb1 HA0.out.lt).words; clear hb1)
    | (go_at_call 71; (with_reducible refine (HCo.out _).mono ?_); rintro e w2 ⟨rfl, hb2⟩; have HB2 := Lib.hid (HB1.out.trans (hb2.mono HB1.out.size)); clear hb2 x0 x1 x2 x3 x4)
    | (go_at_call 72; (with_reducible refine (HSp.out _).mono ?_); rintro e w3 ⟨rfl, rfl⟩)
    )
  go_ret
  exact ⟨rfl, HB2.out⟩
theorem suffix_star (w : World) : Calls Tryz.prog 49 #[.int .i64 0, .int .i64 (-1)] w fun e w' => e = .returned (.string ⟨#[42]⟩) ∧ w' = w := by
  go_enter Tryz.func49, Tryz.ntmps49
  go_wp2
  go_ret
  exact ⟨rfl, rfl⟩
def AppOk (f : F) : Prop := ∀ (o l h g : Int) (st : Nat → Bool) (sv : Value) (w : World) (B : Nat) (pv : Value) (xs : List UInt8) (lvl : Nat), SV w (fun b => b < B) f sv → OB B w pv xs → B ≤ w.heap.size → tabAt w → 0 < B → okNode o st l h g f.len → okK lvl o f → letN o st → letF f → f.len ≤ 1000000 ∧ widF f ≤ 1000000 → (xs ++ prN o st f).length ≤ 256 →
  Calls Tryz.prog 31 #[pv, .agg #[.int .i64 o, .int .u64 (wd st 0 64 : Nat), .int .u64 (wd st 64 64 : Nat), .int .u64 (wd st 128 64 : Nat), .int .u64 (wd st 192 64 : Nat), .int .i64 l, .int .i64 h, .int .i64 g, sv]] w fun e w' => ∃ v, e = .returned v ∧ OB B w' v (xs ++ prN o st f) ∧ GB w w' pv v
def PrtOk (f : F) : Prop := ∀ (sep : ByteArray) (po : Int) (sv : Value) (w : World) (B : Nat) (pv : Value) (xs : List UInt8) (lvl : Nat), SV w (fun b => b < B) f sv → OB B w pv xs → B ≤ w.heap.size → tabAt w → 0 < B → okK lvl po f → letF f → f.len ≤ 1000000 ∧ widF f ≤ 1000000 → sep.size ≤ 10 → (xs ++ joinB sep.data.toList (ptF f)).length ≤ 256 →
  Calls Tryz.prog 48 #[pv, sv, .string sep] w fun e w' => ∃ v, e = .returned v ∧ OB B w' v (xs ++ joinB sep.data.toList (ptF f)) ∧ GB w w' pv v
set_option maxRecDepth 100000 in
set_option maxHeartbeats 8000000 in
theorem app_set (f : F) (o l h g : Int) (st : Nat → Bool) (sv : Value) (w : World) (B : Nat) (pv : Value) (xs : List UInt8) (ho : o = 2) (hOB : OB B w pv xs) (hB : B ≤ w.heap.size) (hT : tabAt w) (hl : letN o st) (hlen : (xs ++ prN o st f).length ≤ 256) :
    Calls Tryz.prog 31 #[pv, .agg #[.int .i64 o, .int .u64 (wd st 0 64 : Nat), .int .u64 (wd st 64 64 : Nat), .int .u64 (wd st 128 64 : Nat), .int .u64 (wd st 192 64 : Nat), .int .i64 l, .int .i64 h, .int .i64 g, sv]] w fun e w' => ∃ v, e = .returned v ∧ OB B w' v (xs ++ prN o st f) ∧ GB w w' pv v := by
  obtain ⟨n, hn, hs, rfl⟩ := hl ho
  subst ho
  have hp : prN 2 (between n n) f = [UInt8.ofNat n] := by
    show bl (el (between n n) 256) = _
    rw [el_one n hn]
    rfl
  rw [hp]
  obtain ⟨pa, pc, rfl⟩ := hOB.form
  have HFS : Hid (∀ W, tabAt W → Calls Tryz.prog 47 #[cs (between n n)] W fun e w' => e = .returned (.string ⟨#[UInt8.ofNat n]⟩) ∧ Below W.heap.size W w') := Lib.hid fun W h => formatSet_one n hn hs W h
  have HO := Lib.hid hOB
  have HT := Lib.hid hT
  have HLn := Lib.hid (show xs.length + 1 ≤ 256 by rw [hp, List.length_append] at hlen; exact hlen)
  clear hOB hT hlen hp
  unfold cs cl at *
  go_enter Tryz.func31, Tryz.ntmps31
  go_wp2_with (first
    | (go_at_call 47; (with_reducible refine (HFS.out _ (tab_keep HT.out ((Below.refl _ _).alloc (Nat.le_refl _) _))).mono ?_); rintro e w1 ⟨rfl, hb1⟩; have HB1 := Lib.hid (((Below.refl w.heap.size w).alloc (Nat.le_refl _) _).trans (hb1.mono (by simp))); clear hb1)
    | (at_builtin; refine wpList_app_str B _ xs ⟨#[UInt8.ofNat n]⟩ rfl _ _ rfl rfl rfl (HO.out.below HB1.out) (by have := HLn.out; show xs.length + 1 ≤ 1000000; omega) (Nat.le_trans hB HB1.out.size) ?_; intro v2 w2 ho2 hb2; have HO2 := Lib.hid ho2; have HB2 := Lib.hid ((GB.of (.slice pa xs.length pc) HB1.out).trans hb2); clear ho2 hb2)
    )
  go_ret
  exact ⟨_, rfl, HO2.out, HB2.out⟩
set_option maxRecDepth 100000 in
set_option maxHeartbeats 8000000 in
theorem app_cat (f : F) (HP : PrtOk f) (o l h g : Int) (st : Nat → Bool) (sv : Value) (w : World) (B : Nat) (pv : Value) (xs : List UInt8) (lvl : Nat) (ho : o = 3) (hsv : SV w (fun b => b < B) f sv) (hOB : OB B w pv xs) (hB : B ≤ w.heap.size) (hT : tabAt w) (hB0 : 0 < B) (hok : okK lvl o f) (hl : letF f) (hfl : f.len ≤ 1000000 ∧ widF f ≤ 1000000) (hlen : (xs ++ prN o st f).length ≤ 256) :
    Calls Tryz.prog 31 #[pv, .agg #[.int .i64 o, .int .u64 (wd st 0 64 : Nat), .int .u64 (wd st 64 64 : Nat), .int .u64 (wd st 128 64 : Nat), .int .u64 (wd st 192 64 : Nat), .int .i64 l, .int .i64 h, .int .i64 g, sv]] w fun e w' => ∃ v, e = .returned v ∧ OB B w' v (xs ++ prN o st f) ∧ GB w w' pv v := by
  subst ho
  have hp : prN 3 st f = joinB (⟨#[]⟩ : ByteArray).data.toList (ptF f) := rfl
  rw [hp] at hlen ⊢
  obtain ⟨pa, pc, rfl⟩ := hOB.form
  obtain ⟨ad, cap, rfl⟩ := slice_form hsv
  have HC := Lib.hid (fun W (h1 : SV W (fun b => b < B) f (.slice ad f.len cap)) (h2 : OB B W (.slice pa xs.length pc) xs) (h3 : B ≤ W.heap.size) (h4 : tabAt W) => HP ⟨#[]⟩ 3 _ W B _ xs lvl h1 h2 h3 h4 hB0 hok hl hfl (by decide) hlen)
  have HO := Lib.hid hOB
  have HT := Lib.hid hT
  have HS := Lib.hid hsv
  clear hOB hT hsv hlen hp hok hl HP
  go_enter Tryz.func31, Tryz.ntmps31
  go_wp2_with (first
    | (go_at_call 48; have hx := (Below.refl w.heap.size w).alloc (Nat.le_refl _) (.cells #[.int .i64 3, .int .u64 (wd st 0 64 : Nat), .int .u64 (wd st 64 64 : Nat), .int .u64 (wd st 128 64 : Nat), .int .u64 (wd st 192 64 : Nat), .int .i64 l, .int .i64 h, .int .i64 g, .slice ad f.len cap] 35); (with_reducible refine (HC.out _ (HS.out.far (Afar.below hx)) (HO.out.below hx) (Nat.le_trans hB hx.size) (tab_keep HT.out hx)).mono ?_); rintro e w1 ⟨v1, rfl, ho1, hb1⟩; have HO1 := Lib.hid ho1; have HB1 := Lib.hid ((GB.of (.slice pa xs.length pc) hx).trans hb1); clear ho1 hb1 hx)
    )
  go_ret
  exact ⟨_, rfl, HO1.out, HB1.out⟩
set_option maxRecDepth 100000 in
set_option maxHeartbeats 8000000 in
theorem app_alt (f : F) (HP : PrtOk f) (o l h g : Int) (st : Nat → Bool) (sv : Value) (w : World) (B : Nat) (pv : Value) (xs : List UInt8) (lvl : Nat) (ho : o = 4) (hsv : SV w (fun b => b < B) f sv) (hOB : OB B w pv xs) (hB : B ≤ w.heap.size) (hT : tabAt w) (hB0 : 0 < B) (hok : okK lvl o f) (hl : letF f) (hfl : f.len ≤ 1000000 ∧ widF f ≤ 1000000) (hlen : (xs ++ prN o st f).length ≤ 256) :
    Calls Tryz.prog 31 #[pv, .agg #[.int .i64 o, .int .u64 (wd st 0 64 : Nat), .int .u64 (wd st 64 64 : Nat), .int .u64 (wd st 128 64 : Nat), .int .u64 (wd st 192 64 : Nat), .int .i64 l, .int .i64 h, .int .i64 g, sv]] w fun e w' => ∃ v, e = .returned v ∧ OB B w' v (xs ++ prN o st f) ∧ GB w w' pv v := by
  subst ho
  have hp : prN 4 st f = joinB (⟨#[124]⟩ : ByteArray).data.toList (ptF f) := rfl
  rw [hp] at hlen ⊢
  obtain ⟨pa, pc, rfl⟩ := hOB.form
  obtain ⟨ad, cap, rfl⟩ := slice_form hsv
  have HC := Lib.hid (fun W (h1 : SV W (fun b => b < B) f (.slice ad f.len cap)) (h2 : OB B W (.slice pa xs.length pc) xs) (h3 : B ≤ W.heap.size) (h4 : tabAt W) => HP ⟨#[124]⟩ 4 _ W B _ xs lvl h1 h2 h3 h4 hB0 hok hl hfl (by decide) hlen)
  have HO := Lib.hid hOB
  have HT := Lib.hid hT
  have HS := Lib.hid hsv
  clear hOB hT hsv hlen hp hok hl HP
  go_enter Tryz.func31, Tryz.ntmps31
  go_wp2_with (first
    | (go_at_call 48; have hx := (Below.refl w.heap.size w).alloc (Nat.le_refl _) (.cells #[.int .i64 4, .int .u64 (wd st 0 64 : Nat), .int .u64 (wd st 64 64 : Nat), .int .u64 (wd st 128 64 : Nat), .int .u64 (wd st 192 64 : Nat), .int .i64 l, .int .i64 h, .int .i64 g, .slice ad f.len cap] 35); (with_reducible refine (HC.out _ (HS.out.far (Afar.below hx)) (HO.out.below hx) (Nat.le_trans hB hx.size) (tab_keep HT.out hx)).mono ?_); rintro e w1 ⟨v1, rfl, ho1, hb1⟩; have HO1 := Lib.hid ho1; have HB1 := Lib.hid ((GB.of (.slice pa xs.length pc) hx).trans hb1); clear ho1 hb1 hx)
    )
  go_ret
  exact ⟨_, rfl, HO1.out, HB1.out⟩
def SR (B bx : Nat) (row : Array Value) (W2 wx : World) : Prop := RN wx bx row ∧ Below B W2 wx
theorem SR.step {B bx : Nat} {row : Array Value} {W2 w w' : World} {v v' : Value} {xs : List UInt8} (h : SR B bx row W2 w) (hb : GB w w' v v') (ho : OB B w v xs) (hB : B ≤ w.heap.size) (hv : v.ownBlock ≠ some bx) : SR B bx row W2 w' :=
  ⟨(hb.keep (Array.getElem?_eq_some_iff.1 h.1).1 hv).trans h.1, h.2.trans (hb.below ho hB)⟩
theorem prN_rep (st : Nat → Bool) (f : F) (h : f.len = 1) : prN 5 st f = prN (f.nth 0).op (f.nth 0).st (f.nth 0).args ++ [42] := by
  have h1 := prK_all (sepO 5) f
  have h2 := prK_next (sepO 5) f 0 (by omega)
  rw [h] at h1
  show joinB (sepO 5) (ptF f) ++ [42] = _
  rw [← h1, h2, if_pos rfl]
  rfl
set_option maxRecDepth 100000 in
set_option maxHeartbeats 8000000 in
theorem app_rep (f : F) (hf : f.len = 1) (hch : AppOk (f.nth 0).args) (st : Nat → Bool) (sv : Value) (w : World) (B : Nat) (pv : Value) (xs : List UInt8) (lvl : Nat) (hsv : SV w (fun b => b < B) f sv) (hOB : OB B w pv xs) (hB : B ≤ w.heap.size) (hT : tabAt w) (hB0 : 0 < B) (hok : okK lvl 5 f) (hl : letF f) (hfl : widF f ≤ 1000000) (hlen : (xs ++ prN 5 st f).length ≤ 256) :
    Calls Tryz.prog 31 #[pv, .agg #[.int .i64 5, .int .u64 (wd st 0 64 : Nat), .int .u64 (wd st 64 64 : Nat), .int .u64 (wd st 128 64 : Nat), .int .u64 (wd st 192 64 : Nat), .int .i64 0, .int .i64 (-1), .int .i64 0, sv]] w fun e w' => ∃ v, e = .returned v ∧ OB B w' v (xs ++ prN 5 st f) ∧ GB w w' pv v := by
  rw [prN_rep st f hf] at hlen ⊢
  obtain ⟨pa, pc, rfl⟩ := hOB.form
  have hpv : ∀ k, (Value.slice pa xs.length pc).ownBlock = some k → k < w.heap.size := fun k e => (World.ownsRow.lt hOB k e).2
  obtain ⟨zs, ad, cap, rfl, hcap, hfv, hcells⟩ := hsv
  rw [hf] at hcells ⊢
  obtain ⟨b, i0, rfl, hbB, hbl, hce⟩ : ∃ b i, ad = some ⟨b, i, none⟩ ∧ b < B ∧ b < w.heap.size ∧ ∀ j u, zs[j]? = some u → w.cell? ⟨b, i + j, none⟩ = some u := by
    rcases hcells with h0 | h0
    · omega
    · exact h0
  obtain ⟨sv2, hsv2, hrow⟩ := FV.nth 0 hfv (by omega)
  obtain ⟨ad2, cp2, rfl⟩ := slice_form hsv2
  obtain ⟨hn, hin, hl3, hok3⟩ := okK_nth 0 hok (by omega)
  obtain ⟨hl4, hl5⟩ := letF_nth 0 hl (by omega)
  have hw := wid_nth f 0 (by omega)
  have hlen2 : (xs ++ prN (f.nth 0).op (f.nth 0).st (f.nth 0).args).length ≤ 256 := by
    rw [List.length_append, List.length_append] at hlen
    rw [List.length_append]
    omega
  have HL := Lib.hid (fun W (h1 : SV W (fun b => b < B) (f.nth 0).args (.slice ad2 (f.nth 0).args.len cp2)) (h2 : OB B W (.slice pa xs.length pc) xs) (h3 : B ≤ W.heap.size) (h4 : tabAt W) => hch (f.nth 0).op (f.nth 0).lo (f.nth 0).hi (f.nth 0).g (f.nth 0).st _ W B _ xs (lvl + 1) h1 h2 h3 h4 hB0 hn hok3 hl4 hl5 (by omega) hlen2)
  have HLn := Lib.hid (show (xs ++ prN (f.nth 0).op (f.nth 0).st (f.nth 0).args).length + 1 ≤ 1000000 by omega)
  have CF : Hid (∀ wx, Below B w wx → wx.cell? ⟨b, i0, none⟩ = some (.int .i64 (f.nth 0).op) ∧ wx.cell? ⟨b, i0 + 1, none⟩ = some (.int .u64 (wd (f.nth 0).st 0 64 : Nat)) ∧ wx.cell? ⟨b, i0 + 2, none⟩ = some (.int .u64 (wd (f.nth 0).st 64 64 : Nat)) ∧ wx.cell? ⟨b, i0 + 3, none⟩ = some (.int .u64 (wd (f.nth 0).st 128 64 : Nat)) ∧ wx.cell? ⟨b, i0 + 4, none⟩ = some (.int .u64 (wd (f.nth 0).st 192 64 : Nat)) ∧ wx.cell? ⟨b, i0 + 5, none⟩ = some (.int .i64 (f.nth 0).lo) ∧ wx.cell? ⟨b, i0 + 6, none⟩ = some (.int .i64 (f.nth 0).hi) ∧ wx.cell? ⟨b, i0 + 7, none⟩ = some (.int .i64 (f.nth 0).g) ∧ wx.cell? ⟨b, i0 + 8, none⟩ = some (.slice ad2 (f.nth 0).args.len cp2)) := Lib.hid fun wx hb => by
    have hcell : ∀ j u, (rowV (f.nth 0).op (f.nth 0).st (f.nth 0).lo (f.nth 0).hi (f.nth 0).g (.slice ad2 (f.nth 0).args.len cp2))[j]? = some u → wx.cell? ⟨b, i0 + j, none⟩ = some u := fun j u hu => by
      rw [cell_same (hb.block b hbB)]
      have := hrow j u hu
      rw [Nat.zero_mul, Nat.zero_add] at this
      exact hce _ u this
    exact ⟨hcell 0 _ rfl, hcell 1 _ rfl, hcell 2 _ rfl, hcell 3 _ rfl, hcell 4 _ rfl, hcell 5 _ rfl, hcell 6 _ rfl, hcell 7 _ rfl, hcell 8 _ rfl⟩
  have HO := Lib.hid hOB
  have HT := Lib.hid hT
  have HS := Lib.hid hsv2
  have HPv := Lib.hid hpv
  have HSu := Lib.hid (fun W => suffix_star W)
  clear hOB hT hsv2 hlen hlen2 hok hl hch hcells hce hrow hfv hcap hn hin hl3 hok3 hl4 hl5 hw hpv hfl
  go_enter Tryz.func31, Tryz.ntmps31
  go_upto_region 9 with fail
  have hx := (Below.refl w.heap.size w).alloc (Nat.le_refl _) (.cells #[.int .i64 5, .int .u64 (wd st 0 64 : Nat), .int .u64 (wd st 64 64 : Nat), .int .u64 (wd st 128 64 : Nat), .int .u64 (wd st 192 64 : Nat), .int .i64 0, .int .i64 (-1), .int .i64 0, .slice (some ⟨b, i0, none⟩) 1 cap] 35)
  have hbx : RN (w.alloc (.cells #[.int .i64 5, .int .u64 (wd st 0 64 : Nat), .int .u64 (wd st 64 64 : Nat), .int .u64 (wd st 128 64 : Nat), .int .u64 (wd st 192 64 : Nat), .int .i64 0, .int .i64 (-1), .int .i64 0, .slice (some ⟨b, i0, none⟩) 1 cap] 35)) w.heap.size #[.int .i64 5, .int .u64 (wd st 0 64 : Nat), .int .u64 (wd st 64 64 : Nat), .int .u64 (wd st 128 64 : Nat), .int .u64 (wd st 192 64 : Nat), .int .i64 0, .int .i64 (-1), .int .i64 0, .slice (some ⟨b, i0, none⟩) 1 cap] := heap_alloc_new w _
  have hzz : (w.alloc (.cells #[.int .i64 5, .int .u64 (wd st 0 64 : Nat), .int .u64 (wd st 64 64 : Nat), .int .u64 (wd st 128 64 : Nat), .int .u64 (wd st 192 64 : Nat), .int .i64 0, .int .i64 (-1), .int .i64 0, .slice (some ⟨b, i0, none⟩) 1 cap] 35)).heap.size = w.heap.size + 1 := by simp
  generalize (w.alloc (.cells #[.int .i64 5, .int .u64 (wd st 0 64 : Nat), .int .u64 (wd st 64 64 : Nat), .int .u64 (wd st 128 64 : Nat), .int .u64 (wd st 192 64 : Nat), .int .i64 0, .int .i64 (-1), .int .i64 0, .slice (some ⟨b, i0, none⟩) 1 cap] 35)) = W2 at hx hbx hzz ⊢
  have HX := Lib.hid hx
  have HBX := Lib.hid hbx
  clear hx hbx
  refine wp_region_held_drew (S := SR B w.heap.size #[.int .i64 5, .int .u64 (wd st 0 64 : Nat), .int .u64 (wd st 64 64 : Nat), .int .u64 (wd st 128 64 : Nat), .int .u64 (wd st 192 64 : Nat), .int .i64 0, .int .i64 (-1), .int .i64 0, .slice (some ⟨b, i0, none⟩) 1 cap] W2) (by kernel_rfl) ?_ (fun hHeld => ?_)
  · exact ⟨HBX.out, (Below.refl B W2).drew⟩
  refine wpAnyH_take (i := 0) (v := ?ev0) rfl (by kernel_rfl) (by kernel_rfl) (by kernel_rfl) (fun _ _ _ h => h) (Or.inl ⟨by rfl, ?ey0⟩) (by assumption) ?er0
  case ey0 =>
    intro wx hSw
    clear hSw
    go_simp
    first | done | (with_reducible rfl)
  (try simp only [Act.put, List.getElem_toArray, List.getElem_cons_zero, List.setIfInBounds_toArray, List.set_cons_zero, List.set_cons_succ])
  refine wpAnyH_take (i := 1) (v := ?ev1) rfl (by kernel_rfl) (by kernel_rfl) (by kernel_rfl) (fun _ _ _ h => h) (Or.inl ⟨by rfl, ?ey1⟩) (by assumption) ?er1
  case ey1 =>
    intro wx hSw
    clear hSw
    go_simp
    first | done | (with_reducible rfl)
  (try simp only [Act.put, List.getElem_toArray, List.getElem_cons_succ, List.getElem_cons_zero, List.setIfInBounds_toArray, List.set_cons_zero, List.set_cons_succ])
  refine wpAnyH_take (i := 2) (v := ?ev2) rfl (by kernel_rfl) (by kernel_rfl) (by kernel_rfl) (fun _ _ _ h => h) (Or.inl ⟨by rfl, ?ey2⟩) (by assumption) ?er2
  case ey2 =>
    intro wx hSw
    have hcell := hSw.1.cell 8
    clear hSw
    go_simp
    first | done | (with_reducible rfl)
  (try simp only [Act.put, List.getElem_toArray, List.getElem_cons_succ, List.getElem_cons_zero, List.setIfInBounds_toArray, List.set_cons_zero, List.set_cons_succ])
  refine wpAnyH_take (i := 3) (v := ?ev3) rfl (by kernel_rfl) (by kernel_rfl) (by kernel_rfl) (fun _ _ _ h => h) (Or.inl ⟨by rfl, ?ey3⟩) (by assumption) ?er3
  case ey3 =>
    intro wx hSw
    clear hSw
    go_simp
    first | done | (with_reducible rfl)
  (try simp only [Act.put, List.getElem_toArray, List.getElem_cons_succ, List.getElem_cons_zero, List.setIfInBounds_toArray, List.set_cons_zero, List.set_cons_succ])
  refine wpAnyH_take (i := 4) (v := ?ev4) rfl (by kernel_rfl) (by kernel_rfl) (by kernel_rfl) (fun _ _ _ h => h) (Or.inl ⟨by rfl, ?ey4⟩) (by assumption) ?er4
  case ey4 =>
    intro wx hSw
    have ⟨c0, c1, c2, c3, c4, c5, c6, c7, c8⟩ := CF.out _ ((HX.out.mono hB).trans hSw.2)
    clear hSw
    go_simp
    first | done | (with_reducible rfl)
  (try simp only [Act.put, List.getElem_toArray, List.getElem_cons_succ, List.getElem_cons_zero, List.setIfInBounds_toArray, List.set_cons_zero, List.set_cons_succ])
  refine wpAnyH_take (i := 6) (v := ?ev6) rfl (by kernel_rfl) (by kernel_rfl) (by kernel_rfl) (fun _ _ _ h => h) (Or.inl ⟨by rfl, ?ey6⟩) (by assumption) ?er6
  case ey6 =>
    intro wx hSw
    clear hSw
    go_simp
    first | done | (with_reducible rfl)
  (try simp only [Act.put, List.getElem_toArray, List.getElem_cons_succ, List.getElem_cons_zero, List.setIfInBounds_toArray, List.set_cons_zero, List.set_cons_succ])
  refine wpAnyH_take (i := 7) (v := ?ev7) rfl (by kernel_rfl) (by kernel_rfl) (by kernel_rfl) (fun _ _ _ h => h) (Or.inl ⟨by rfl, ?ey7⟩) (by assumption) ?er7
  case ey7 =>
    intro wx hSw
    have hcell := hSw.1.cell 5
    clear hSw
    go_simp
    first | done | (with_reducible rfl)
  (try simp only [Act.put, List.getElem_toArray, List.getElem_cons_succ, List.getElem_cons_zero, List.setIfInBounds_toArray, List.set_cons_zero, List.set_cons_succ])
  refine wpAnyH_take (i := 8) (v := ?ev8) rfl (by kernel_rfl) (by kernel_rfl) (by kernel_rfl) (fun _ _ _ h => h) (Or.inl ⟨by rfl, ?ey8⟩) (by assumption) ?er8
  case ey8 =>
    intro wx hSw
    clear hSw
    go_simp
    first | done | (with_reducible rfl)
  (try simp only [Act.put, List.getElem_toArray, List.getElem_cons_succ, List.getElem_cons_zero, List.setIfInBounds_toArray, List.set_cons_zero, List.set_cons_succ])
  refine wpAnyH_take (i := 9) (v := ?ev9) rfl (by kernel_rfl) (by kernel_rfl) (by kernel_rfl) (fun _ _ _ h => h) (Or.inl ⟨by rfl, ?ey9⟩) (by assumption) ?er9
  case ey9 =>
    intro wx hSw
    have hcell := hSw.1.cell 6
    clear hSw
    go_simp
    first | done | (with_reducible rfl)
  (try simp only [Act.put, List.getElem_toArray, List.getElem_cons_succ, List.getElem_cons_zero, List.setIfInBounds_toArray, List.set_cons_zero, List.set_cons_succ])
  refine wpAnyH_ready (rs := [5]) (by kernel_rfl) (by simp) ?_
  refine AllReadyH.cons rfl (fun K hK => ?_) AllReadyH.nil
  go_simp
  go_at_call 31
  refine (HL.out _ (HS.out.far ⟨by have := HX.out.size; have := hHeld.2.size; omega, fun k h1 _ => ⟨h1, ((HX.out.mono hB).trans hHeld.2).block k h1⟩⟩) ((HO.out.below HX.out).drew) (by have := HX.out.size; have := hHeld.2.size; omega) (tab_keep (tab_keep HT.out HX.out) (Below.refl _ _).drew)).mono ?_
  rintro e w1 ⟨v1, rfl, ho1, hb1⟩
  refine hK.out _ _ ?_ (fun hHeld1 => ?_)
  · exact hHeld.step hb1 (HO.out.below HX.out).drew (by have := HX.out.size; have := hHeld.2.size; omega) (fun e => by have := HPv.out _ e; omega)
  clear hK K
  (try simp only [Act.put, List.getElem_toArray, List.getElem_cons_succ, List.getElem_cons_zero, List.setIfInBounds_toArray, List.set_cons_zero, List.set_cons_succ])
  refine wpAnyH_ready (rs := [10]) (by kernel_rfl) (by simp) ?_
  refine AllReadyH.cons rfl (fun K hK => ?_) AllReadyH.nil
  go_simp
  go_at_call 49
  refine (HSu.out _).mono ?_
  rintro e w2 ⟨rfl, hq⟩
  refine hK.out _ _ ?_ (fun hHeld2 => ?_)
  · exact by rw [hq]; exact hHeld1
  clear hK K
  (try simp only [Act.put, List.getElem_toArray, List.getElem_cons_succ, List.getElem_cons_zero, List.setIfInBounds_toArray, List.set_cons_zero, List.set_cons_succ])
  subst hq
  refine wpAnyH_ready (rs := [11]) (by kernel_rfl) (by simp) ?_
  refine AllReadyH.cons rfl (fun K hK => ?_) AllReadyH.nil
  rw [if_pos (by rfl)]
  refine wp_app_str B v1 _ ⟨#[42]⟩ _ _ rfl rfl rfl ho1 HLn.out (by have := HX.out.size; have := hHeld2.2.size; omega) ?_
  intro v3 w3 ho3 hb3
  refine hK.out _ _ ?_ (fun hHeld3 => ?_)
  · exact hHeld2.step hb3 ho1 (by have := HX.out.size; have := hHeld2.2.size; omega) (fun e => by
      rcases hb1.at_ _ e with h1 | h1
      · have := HPv.out _ h1; omega
      · have : W2.heap.size ≤ w.heap.size := h1; omega)
  clear hK K
  (try simp only [Act.put, List.getElem_toArray, List.getElem_cons_succ, List.getElem_cons_zero, List.setIfInBounds_toArray, List.set_cons_zero, List.set_cons_succ])
  refine wpAnyH_take (i := 12) (v := ?fv12) rfl (by kernel_rfl) (by kernel_rfl) (by kernel_rfl) (fun _ _ _ h => h) (Or.inl ⟨by rfl, ?fy12⟩) (by assumption) ?fr12
  case fy12 =>
    intro wx hSw
    clear hSw
    go_simp
    first | done | (with_reducible rfl)
  (try simp only [Act.put, List.getElem_toArray, List.getElem_cons_succ, List.getElem_cons_zero, List.setIfInBounds_toArray, List.set_cons_zero, List.set_cons_succ])
  refine wpAnyH_done (by kernel_rfl) ?_ _
  have HF := Lib.hid (And.intro ho3 ((GB.of (.slice pa xs.length pc) HX.out).trans (((GB.of (.slice pa xs.length pc) (Below.refl W2.heap.size W2).drew).trans hb1).trans hb3)))
  clear hHeld hHeld1 hHeld2 hHeld3 ho1 hb1 ho3 hb3
  go_wp2
  go_ret
  rw [← List.append_assoc]
  exact ⟨_, rfl, HF.out.1, HF.out.2⟩
set_option maxRecDepth 100000 in
set_option maxHeartbeats 8000000 in
theorem parts_node (f : F) (hch : ∀ i, i < f.len → AppOk (f.nth i).args) : PrtOk f := by
  intro sep po sv w B pv xs lvl hsv hOB hB hT hB0 hok hl hfl hsep hlen
  have hfi : (f.len : Int) ≤ 1000000 := by omega
  obtain ⟨zs, ad, cap, rfl, hcap, hfv, hcells⟩ := hsv
  obtain ⟨SB, hSB⟩ : ∃ SB, sep.data.toList = SB := ⟨_, rfl⟩
  have hsz : SB.length = sep.size := by rw [← hSB]; simp
  rw [hSB] at hlen ⊢
  have HLen := Lib.hid hlen
  have HPK : Hid (∀ k, k ≤ f.len → (xs ++ prK SB f k).length ≤ 256) := Lib.hid fun k hk => by
    have h1 := prK_le SB f k f.len hk (Nat.le_refl _)
    rw [prK_all] at h1
    rw [List.length_append] at hlen ⊢
    omega
  have HCh := Lib.hid hch
  have HFV := Lib.hid hfv
  have HCe := Lib.hid hcells
  have HOk := Lib.hid hok
  have HLt := Lib.hid hl
  have HO := Lib.hid hOB
  have HT := Lib.hid hT
  have HW := Lib.hid hfl
  have HSB := Lib.hid hSB
  have HSz := Lib.hid hsz
  clear hch hfv hcells hcap hok hl hOB hT hlen hsz hSB
  go_enter Tryz.func48, Tryz.ntmps48
  go_wp2
  go_loopw [0, 11] (fun p i wr => ∃ (k : Nat) (pw : Value), k ≤ f.len ∧ i = .int .i64 k ∧ p = pw ∧ Hid (OB B wr pw (xs ++ prK SB f k)) ∧ Hid (GB w wr pv pw)) (fun _ i _ => f.len - (intOf i).toNat)
  case atStart => exact ⟨0, pv, Nat.zero_le _, rfl, rfl, by show OB B w pv (xs ++ []); rw [List.append_nil]; exact HO.out, GB.of pv (Below.refl _ _)⟩
  case round =>
    obtain ⟨k, pw, hk, rfl, rfl, HP, HG⟩ := hrel
    by_cases hkn : k < f.len
    · have ki : (k : Int) < f.len := by omega
      have ki0 : (0 : Int) ≤ k := by omega
      obtain ⟨b, i0, rfl, hbB, hbl, hce⟩ : ∃ b i, ad = some ⟨b, i, none⟩ ∧ b < B ∧ b < w.heap.size ∧ ∀ j u, zs[j]? = some u → w.cell? ⟨b, i + j, none⟩ = some u := by
        rcases HCe.out with h0 | h0
        · omega
        · exact h0
      have hbw := HG.out.below HO.out hB
      have hbr : B ≤ wr.heap.size := by have := hbw.size; omega
      obtain ⟨sv2, hsv2, hrow⟩ := FV.nth k HFV.out hkn
      obtain ⟨ad2, cp2, rfl⟩ := slice_form hsv2
      have hcell : ∀ j u, (rowV (f.nth k).op (f.nth k).st (f.nth k).lo (f.nth k).hi (f.nth k).g (.slice ad2 (f.nth k).args.len cp2))[j]? = some u → wr.cell? ⟨b, i0 + k * 9 + j, none⟩ = some u := fun j u hu => by
        rw [cell_same (hbw.block b hbB), Nat.add_assoc]
        exact hce _ u (hrow j u hu)
      have c0 := hcell 0 _ rfl
      have c1 := hcell 1 _ rfl
      have c2 := hcell 2 _ rfl
      have c3 := hcell 3 _ rfl
      have c4 := hcell 4 _ rfl
      have c5 := hcell 5 _ rfl
      have c6 := hcell 6 _ rfl
      have c7 := hcell 7 _ rfl
      have c8 := hcell 8 _ rfl
      rw [Nat.add_zero] at c0
      obtain ⟨hn, hin, hl3, hok3⟩ := okK_nth k HOk.out hkn
      obtain ⟨hl4, hl5⟩ := letF_nth k HLt.out hkn
      have hw := wid_nth f k hkn
      have hnx := prK_next SB f k hkn
      have hl256 := HPK.out (k + 1) (by omega)
      have hl0 := HPK.out k hk
      obtain ⟨ys, hys⟩ : ∃ ys, xs ++ prK SB f k = ys := ⟨_, rfl⟩
      rw [hnx, ← List.append_assoc, hys] at hl256
      rw [hys] at hl0
      have HNx : Hid (xs ++ prK SB f (k + 1) = ys ++ ((if k = 0 then [] else SB) ++ prN (f.nth k).op (f.nth k).st (f.nth k).args)) := Lib.hid (by rw [hnx, ← List.append_assoc, hys])
      have hOB := HP.out
      rw [hys] at hOB
      obtain ⟨pa, pc, rfl⟩ := hOB.form
      have HP2 := Lib.hid hOB
      have hle : ¬ (256 : Int) < (ys.length : Int) := by omega
      have HL := Lib.hid (fun W (v : Value) (qs : List UInt8) (h0 : (qs ++ prN (f.nth k).op (f.nth k).st (f.nth k).args).length ≤ 256) (h1 : SV W (fun b => b < B) (f.nth k).args (.slice ad2 (f.nth k).args.len cp2)) (h2 : OB B W v qs) (h3 : B ≤ W.heap.size) (h4 : tabAt W) => HCh.out k hkn (f.nth k).op (f.nth k).lo (f.nth k).hi (f.nth k).g (f.nth k).st _ W B v qs (lvl + 1) h1 h2 h3 h4 hB0 hn hok3 hl4 hl5 (by have := HW.out; omega) h0)
      have HS2 : Hid (SV w (fun b => b < B) (f.nth k).args (.slice ad2 (f.nth k).args.len cp2)) := Lib.hid hsv2
      have HTr : Hid (∀ W, Below B w W → tabAt W) := Lib.hid fun W h => tab_under HT.out h hB0
      have HSV : Hid (∀ W, Below B w W → SV W (fun b => b < B) (f.nth k).args (.slice ad2 (f.nth k).args.len cp2)) := Lib.hid fun W h => HS2.out.far ⟨h.size, fun b' h1 _ => ⟨h1, h.block b' h1⟩⟩
      have HBW := Lib.hid hbw
      clear hcell hce hrow hsv2 hn hin hl3 hok3 hl4 hl5 hw hnx hys hOB hbw HP
      by_cases hk0 : k = 0
      · have HLa := Lib.hid (show (ys ++ prN (f.nth k).op (f.nth k).st (f.nth k).args).length ≤ 256 by rw [if_pos hk0] at hl256; exact hl256)
        have HEq : Hid (xs ++ prK SB f (k + 1) = ys ++ prN (f.nth k).op (f.nth k).st (f.nth k).args) := Lib.hid (by rw [HNx.out, if_pos hk0]; rfl)
        have hk1 : ¬ (0 : Int) < k := by omega
        have hk2 : decide ((0 : Int) < k) = false := decide_eq_false hk1
        have hk3 : decide (0 < k) = false := decide_eq_false (by omega)
        clear hl256 hl0 HNx hk0
        go_wp2_with (first
          | (go_at_call 31; have ha := (Below.refl wr.heap.size wr).alloc (Nat.le_refl _) (.cells #[.int .i64 (f.nth k).op, .int .u64 (wd (f.nth k).st 0 64 : Nat), .int .u64 (wd (f.nth k).st 64 64 : Nat), .int .u64 (wd (f.nth k).st 128 64 : Nat), .int .u64 (wd (f.nth k).st 192 64 : Nat), .int .i64 (f.nth k).lo, .int .i64 (f.nth k).hi, .int .i64 (f.nth k).g, .slice ad2 (f.nth k).args.len cp2] 35); refine (HL.out _ _ ys HLa.out (HSV.out _ (HBW.out.trans (ha.mono hbr))) (HP2.out.below ha) (by have := ha.size; omega) (HTr.out _ (HBW.out.trans (ha.mono hbr)))).mono ?_; rintro e w1 ⟨v1, rfl, ho1, hg1⟩; have HO1 := Lib.hid ho1; have HG1 := Lib.hid ((HG.out.trans (GB.of _ ha)).trans hg1); clear ho1 hg1 ha)
          )
        go_roundw
        case rel => exact ⟨k + 1, v1, by omega, by go_num, rfl, by rw [HEq.out]; exact HO1.out, HG1.out⟩
        case measure => simp [intOf]; omega
      · have HLa := Lib.hid (show ((ys ++ SB) ++ prN (f.nth k).op (f.nth k).st (f.nth k).args).length ≤ 256 by rw [if_neg hk0] at hl256; rw [List.append_assoc]; exact hl256)
        have HLb := Lib.hid (show ys.length + sep.size ≤ 1000000 by omega)
        have HEq : Hid (xs ++ prK SB f (k + 1) = (ys ++ SB) ++ prN (f.nth k).op (f.nth k).st (f.nth k).args) := Lib.hid (by rw [HNx.out, if_neg hk0, List.append_assoc])
        have hk1 : (0 : Int) < k := by omega
        have hk2 : decide (0 < k) = true := decide_eq_true (by omega)
        clear hl256 hl0 HNx hk0
        go_wp2_with (first
          | (at_builtin; have ha := (Below.refl wr.heap.size wr).alloc (Nat.le_refl _) (.cells #[.int .i64 (f.nth k).op, .int .u64 (wd (f.nth k).st 0 64 : Nat), .int .u64 (wd (f.nth k).st 64 64 : Nat), .int .u64 (wd (f.nth k).st 128 64 : Nat), .int .u64 (wd (f.nth k).st 192 64 : Nat), .int .i64 (f.nth k).lo, .int .i64 (f.nth k).hi, .int .i64 (f.nth k).g, .slice ad2 (f.nth k).args.len cp2] 35); refine wpList_app_str B _ ys sep rfl _ _ rfl rfl rfl (HP2.out.below ha) HLb.out (by have := ha.size; omega) ?_; intro v2 w2 ho2 hg2; rw [HSB.out] at ho2; have HO2 := Lib.hid ho2; have HG2 := Lib.hid ((HG.out.trans (GB.of _ ha)).trans hg2); have a0 : w2.cell? ⟨wr.heap.size, 0, none⟩ = some (.int .i64 (f.nth k).op) := (cell_of_row w2 wr.heap.size 0 _ _ _ ((hg2.keep (by simp) (fun e => by have := (World.ownsRow.lt HP2.out _ e).2; omega)).trans (heap_alloc_new wr (.cells #[.int .i64 (f.nth k).op, .int .u64 (wd (f.nth k).st 0 64 : Nat), .int .u64 (wd (f.nth k).st 64 64 : Nat), .int .u64 (wd (f.nth k).st 128 64 : Nat), .int .u64 (wd (f.nth k).st 192 64 : Nat), .int .i64 (f.nth k).lo, .int .i64 (f.nth k).hi, .int .i64 (f.nth k).g, .slice ad2 (f.nth k).args.len cp2] 35)))); have a1 : w2.cell? ⟨wr.heap.size, 1, none⟩ = some (.int .u64 (wd (f.nth k).st 0 64 : Nat)) := (cell_of_row w2 wr.heap.size 1 _ _ _ ((hg2.keep (by simp) (fun e => by have := (World.ownsRow.lt HP2.out _ e).2; omega)).trans (heap_alloc_new wr (.cells #[.int .i64 (f.nth k).op, .int .u64 (wd (f.nth k).st 0 64 : Nat), .int .u64 (wd (f.nth k).st 64 64 : Nat), .int .u64 (wd (f.nth k).st 128 64 : Nat), .int .u64 (wd (f.nth k).st 192 64 : Nat), .int .i64 (f.nth k).lo, .int .i64 (f.nth k).hi, .int .i64 (f.nth k).g, .slice ad2 (f.nth k).args.len cp2] 35)))); have a2 : w2.cell? ⟨wr.heap.size, 2, none⟩ = some (.int .u64 (wd (f.nth k).st 64 64 : Nat)) := (cell_of_row w2 wr.heap.size 2 _ _ _ ((hg2.keep (by simp) (fun e => by have := (World.ownsRow.lt HP2.out _ e).2; omega)).trans (heap_alloc_new wr (.cells #[.int .i64 (f.nth k).op, .int .u64 (wd (f.nth k).st 0 64 : Nat), .int .u64 (wd (f.nth k).st 64 64 : Nat), .int .u64 (wd (f.nth k).st 128 64 : Nat), .int .u64 (wd (f.nth k).st 192 64 : Nat), .int .i64 (f.nth k).lo, .int .i64 (f.nth k).hi, .int .i64 (f.nth k).g, .slice ad2 (f.nth k).args.len cp2] 35)))); have a3 : w2.cell? ⟨wr.heap.size, 3, none⟩ = some (.int .u64 (wd (f.nth k).st 128 64 : Nat)) := (cell_of_row w2 wr.heap.size 3 _ _ _ ((hg2.keep (by simp) (fun e => by have := (World.ownsRow.lt HP2.out _ e).2; omega)).trans (heap_alloc_new wr (.cells #[.int .i64 (f.nth k).op, .int .u64 (wd (f.nth k).st 0 64 : Nat), .int .u64 (wd (f.nth k).st 64 64 : Nat), .int .u64 (wd (f.nth k).st 128 64 : Nat), .int .u64 (wd (f.nth k).st 192 64 : Nat), .int .i64 (f.nth k).lo, .int .i64 (f.nth k).hi, .int .i64 (f.nth k).g, .slice ad2 (f.nth k).args.len cp2] 35)))); have a4 : w2.cell? ⟨wr.heap.size, 4, none⟩ = some (.int .u64 (wd (f.nth k).st 192 64 : Nat)) := (cell_of_row w2 wr.heap.size 4 _ _ _ ((hg2.keep (by simp) (fun e => by have := (World.ownsRow.lt HP2.out _ e).2; omega)).trans (heap_alloc_new wr (.cells #[.int .i64 (f.nth k).op, .int .u64 (wd (f.nth k).st 0 64 : Nat), .int .u64 (wd (f.nth k).st 64 64 : Nat), .int .u64 (wd (f.nth k).st 128 64 : Nat), .int .u64 (wd (f.nth k).st 192 64 : Nat), .int .i64 (f.nth k).lo, .int .i64 (f.nth k).hi, .int .i64 (f.nth k).g, .slice ad2 (f.nth k).args.len cp2] 35)))); have a5 : w2.cell? ⟨wr.heap.size, 5, none⟩ = some (.int .i64 (f.nth k).lo) := (cell_of_row w2 wr.heap.size 5 _ _ _ ((hg2.keep (by simp) (fun e => by have := (World.ownsRow.lt HP2.out _ e).2; omega)).trans (heap_alloc_new wr (.cells #[.int .i64 (f.nth k).op, .int .u64 (wd (f.nth k).st 0 64 : Nat), .int .u64 (wd (f.nth k).st 64 64 : Nat), .int .u64 (wd (f.nth k).st 128 64 : Nat), .int .u64 (wd (f.nth k).st 192 64 : Nat), .int .i64 (f.nth k).lo, .int .i64 (f.nth k).hi, .int .i64 (f.nth k).g, .slice ad2 (f.nth k).args.len cp2] 35)))); have a6 : w2.cell? ⟨wr.heap.size, 6, none⟩ = some (.int .i64 (f.nth k).hi) := (cell_of_row w2 wr.heap.size 6 _ _ _ ((hg2.keep (by simp) (fun e => by have := (World.ownsRow.lt HP2.out _ e).2; omega)).trans (heap_alloc_new wr (.cells #[.int .i64 (f.nth k).op, .int .u64 (wd (f.nth k).st 0 64 : Nat), .int .u64 (wd (f.nth k).st 64 64 : Nat), .int .u64 (wd (f.nth k).st 128 64 : Nat), .int .u64 (wd (f.nth k).st 192 64 : Nat), .int .i64 (f.nth k).lo, .int .i64 (f.nth k).hi, .int .i64 (f.nth k).g, .slice ad2 (f.nth k).args.len cp2] 35)))); have a7 : w2.cell? ⟨wr.heap.size, 7, none⟩ = some (.int .i64 (f.nth k).g) := (cell_of_row w2 wr.heap.size 7 _ _ _ ((hg2.keep (by simp) (fun e => by have := (World.ownsRow.lt HP2.out _ e).2; omega)).trans (heap_alloc_new wr (.cells #[.int .i64 (f.nth k).op, .int .u64 (wd (f.nth k).st 0 64 : Nat), .int .u64 (wd (f.nth k).st 64 64 : Nat), .int .u64 (wd (f.nth k).st 128 64 : Nat), .int .u64 (wd (f.nth k).st 192 64 : Nat), .int .i64 (f.nth k).lo, .int .i64 (f.nth k).hi, .int .i64 (f.nth k).g, .slice ad2 (f.nth k).args.len cp2] 35)))); have a8 : w2.cell? ⟨wr.heap.size, 8, none⟩ = some (.slice ad2 (f.nth k).args.len cp2) := (cell_of_row w2 wr.heap.size 8 _ _ _ ((hg2.keep (by simp) (fun e => by have := (World.ownsRow.lt HP2.out _ e).2; omega)).trans (heap_alloc_new wr (.cells #[.int .i64 (f.nth k).op, .int .u64 (wd (f.nth k).st 0 64 : Nat), .int .u64 (wd (f.nth k).st 64 64 : Nat), .int .u64 (wd (f.nth k).st 128 64 : Nat), .int .u64 (wd (f.nth k).st 192 64 : Nat), .int .i64 (f.nth k).lo, .int .i64 (f.nth k).hi, .int .i64 (f.nth k).g, .slice ad2 (f.nth k).args.len cp2] 35)))); clear ho2 hg2 ha)
          | (go_at_call 31; refine (HL.out _ _ (ys ++ SB) HLa.out (HSV.out _ (HG2.out.below HO.out hB)) HO2.out (by have := (HG2.out.below HO.out hB).size; omega) (HTr.out _ (HG2.out.below HO.out hB))).mono ?_; rintro e w1 ⟨v1, rfl, ho1, hg1⟩; have HO1 := Lib.hid ho1; have HG1 := Lib.hid (HG2.out.trans hg1); clear ho1 hg1)
          )
        go_roundw
        case rel => exact ⟨k + 1, v1, by omega, by go_num, rfl, by rw [HEq.out]; exact HO1.out, HG1.out⟩
        case measure => simp [intOf]; omega
    · obtain rfl : k = f.len := by omega
      go_wp2
      go_ret
      exact ⟨_, rfl, by rw [← prK_all]; exact HP.out, HG.out⟩
theorem app_node (f : F) (hch : ∀ i, i < f.len → AppOk (f.nth i).args) : AppOk f := by
  intro o l h g st sv w B pv xs lvl hsv hOB hB hT hB0 hnode hok hlet hl hfl hlen
  have HP := parts_node f hch
  obtain ⟨rfl, rfl, ⟨ho, _, _, _⟩ | ⟨ho | ho, _, _, _⟩ | ⟨rfl, _, rfl, hf⟩⟩ := id hnode
  · exact app_set f o 0 h 0 st sv w B pv xs ho hOB hB hT hlet hlen
  · exact app_cat f HP o 0 h 0 st sv w B pv xs lvl ho hsv hOB hB hT hB0 hok hl hfl hlen
  · exact app_alt f HP o 0 h 0 st sv w B pv xs lvl ho hsv hOB hB hT hB0 hok hl hfl hlen
  · exact app_rep f hf (hch 0 (by omega)) st sv w B pv xs lvl hsv hOB hB hT hB0 hok hl hfl.2 hlen
theorem app_all : ∀ (f : F) (i : Nat), i < f.len → AppOk (f.nth i).args
  | .nil, i, h => by cases h
  | .cons o s l h g a r, 0, hi => app_node a (app_all a)
  | .cons o s l h g a r, i + 1, hi => app_all r i (by have : i + 1 < r.len + 1 := hi; omega)
theorem append_rx (f : F) : AppOk f := app_node f (app_all f)
set_option maxRecDepth 100000 in
set_option maxHeartbeats 8000000 in
theorem print_rx (t : TN) (sv : Value) (w : World) (S : Nat → Prop) (hsv : SV w S t.args sv) (hT : tabAt w) (hB0 : 0 < w.heap.size) (hn : okNode t.op t.st t.lo t.hi t.g t.args.len) (hok : okK 2 t.op t.args) (hwd : t.args.len ≤ 1000000 ∧ widF t.args ≤ 1000000) (hlet : letN t.op t.st) (hl : letF t.args) (hlen : (prN t.op t.st t.args).length ≤ 256) :
    Calls Tryz.prog 15 #[.agg #[.int .i64 t.op, .int .u64 (wd t.st 0 64 : Nat), .int .u64 (wd t.st 64 64 : Nat), .int .u64 (wd t.st 128 64 : Nat), .int .u64 (wd t.st 192 64 : Nat), .int .i64 t.lo, .int .i64 t.hi, .int .i64 t.g, sv]] w fun e w' => e = .returned (.tuple #[.string ⟨(prN t.op t.st t.args).toArray⟩, .int .i64 0]) ∧ Below w.heap.size w w' := by
  obtain ⟨ad, cap, rfl⟩ := slice_form hsv
  have HN := Lib.hid (fun W (h : SV W S t.args (.slice ad t.args.len cap)) => normal_rx t _ W S h hn hok hwd)
  have HA := Lib.hid (fun W (h1 : SV W (fun b => b < w.heap.size) t.args (.slice ad t.args.len cap)) (h3 : w.heap.size ≤ W.heap.size) (h4 : tabAt W) => append_rx t.args t.op t.lo t.hi t.g t.st _ W w.heap.size (.slice none 0 0) [] 2 h1 (OB.nil _ _) h3 h4 hB0 hn hok hlet hl hwd hlen)
  have HS := Lib.hid hsv
  have HS2 : Hid (∀ W, Below w.heap.size w W → SV W (fun b => b < w.heap.size) t.args (.slice ad t.args.len cap)) := Lib.hid fun W hb => hsv.far ⟨hb.size, fun b h1 h2 => ⟨h2, hb.block b h2⟩⟩
  have HT := Lib.hid hT
  obtain ⟨ps, hps⟩ : ∃ ps, prN t.op t.st t.args = ps := ⟨_, rfl⟩
  rw [hps] at HA hlen ⊢
  have hle : ¬ (256 : Int) < (ps.length : Int) := by omega
  clear hsv hn hok hwd hlet hl hT hps hlen
  go_enter Tryz.func15, Tryz.ntmps15
  go_wp2_with (first
    | (go_at_call 30; have hx := (Below.refl w.heap.size w).alloc (Nat.le_refl _) (.cells #[.int .i64 t.op, .int .u64 (wd t.st 0 64 : Nat), .int .u64 (wd t.st 64 64 : Nat), .int .u64 (wd t.st 128 64 : Nat), .int .u64 (wd t.st 192 64 : Nat), .int .i64 t.lo, .int .i64 t.hi, .int .i64 t.g, .slice ad t.args.len cap] 35); refine (HN.out _ (HS.out.far (Afar.below hx))).mono ?_; rintro e w1 ⟨rfl, hb1⟩; have HB1 := Lib.hid (hx.trans (hb1.mono hx.size)); have a0 : w1.cell? ⟨w.heap.size, 0, none⟩ = some (.int .i64 t.op) := (cell_of_row w1 w.heap.size 0 _ _ _ ((hb1.block _ (by simp)).trans (heap_alloc_new w _))); have a1 : w1.cell? ⟨w.heap.size, 1, none⟩ = some (.int .u64 (wd t.st 0 64 : Nat)) := (cell_of_row w1 w.heap.size 1 _ _ _ ((hb1.block _ (by simp)).trans (heap_alloc_new w _))); have a2 : w1.cell? ⟨w.heap.size, 2, none⟩ = some (.int .u64 (wd t.st 64 64 : Nat)) := (cell_of_row w1 w.heap.size 2 _ _ _ ((hb1.block _ (by simp)).trans (heap_alloc_new w _))); have a3 : w1.cell? ⟨w.heap.size, 3, none⟩ = some (.int .u64 (wd t.st 128 64 : Nat)) := (cell_of_row w1 w.heap.size 3 _ _ _ ((hb1.block _ (by simp)).trans (heap_alloc_new w _))); have a4 : w1.cell? ⟨w.heap.size, 4, none⟩ = some (.int .u64 (wd t.st 192 64 : Nat)) := (cell_of_row w1 w.heap.size 4 _ _ _ ((hb1.block _ (by simp)).trans (heap_alloc_new w _))); have a5 : w1.cell? ⟨w.heap.size, 5, none⟩ = some (.int .i64 t.lo) := (cell_of_row w1 w.heap.size 5 _ _ _ ((hb1.block _ (by simp)).trans (heap_alloc_new w _))); have a6 : w1.cell? ⟨w.heap.size, 6, none⟩ = some (.int .i64 t.hi) := (cell_of_row w1 w.heap.size 6 _ _ _ ((hb1.block _ (by simp)).trans (heap_alloc_new w _))); have a7 : w1.cell? ⟨w.heap.size, 7, none⟩ = some (.int .i64 t.g) := (cell_of_row w1 w.heap.size 7 _ _ _ ((hb1.block _ (by simp)).trans (heap_alloc_new w _))); have a8 : w1.cell? ⟨w.heap.size, 8, none⟩ = some (.slice ad t.args.len cap) := (cell_of_row w1 w.heap.size 8 _ _ _ ((hb1.block _ (by simp)).trans (heap_alloc_new w _))); clear hb1 hx)
    | (go_at_call 31; refine (HA.out _ (HS2.out _ HB1.out) HB1.out.size (tab_keep HT.out HB1.out)).mono ?_; rintro e w2 ⟨v2, rfl, ho2, hg2⟩; rw [List.nil_append] at ho2; obtain ⟨pa, pc, rfl⟩ := ho2.form; have hcv := conv_bys ho2 rfl; have HB2 := Lib.hid (HB1.out.trans (hg2.below (OB.nil w.heap.size _) HB1.out.size)); clear ho2 hg2 a0 a1 a2 a3 a4 a5 a6 a7 a8)
    )
  go_ret2
  exact ⟨rfl, HB2.out⟩
end Go.Proofs.YtphiaagppcbefaaGreatDoor
