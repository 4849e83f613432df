/- LpUnion, LpClass. -/
import Derived.Test.YtphiaagppcbefaaGreatDoorRows
import Derived.Test.YtphiaagppcbefaaGreatDoorPs8
set_option linter.unusedVariables false
namespace Go.Proofs.YtphiaagppcbefaaGreatDoor
open Go.RowKit
def uniL : List UInt8 → Nat → Bool
  | a :: b :: r => fun c => between a.toNat b.toNat c || uniL r c
  | _ => fun _ => false
theorem uniL_two (l : List UInt8) (h : 2 ≤ l.length) (c : Nat) : uniL l c = (between (l[0]).toNat (l[1]).toNat c || uniL (l.drop 2) c) := by
  match l, h with
  | [], h => simp at h
  | [a], h => simp at h
  | a :: b :: r, _ => rfl
theorem uniL_cut (s : ByteArray) (h : 2 ≤ s.size) (c : Nat) : uniL s.data.toList c = (between s[0].toNat s[1].toNat c || uniL (s.data.toList.drop 2) c) :=
  uniL_two s.data.toList (by rw [size_data]; exact h) c
def UN (B : Nat) (w0 w : World) (p : Nat → Bool) : Prop := Below B w0 w ∧ At w B (fun _ => false) ∧ At w (B + 1) p
theorem UN.start (w : World) : UN w.heap.size w ((w.alloc (.cells #[.int .u64 0, .int .u64 0, .int .u64 0, .int .u64 0] 32)).alloc (.cells #[.int .u64 0, .int .u64 0, .int .u64 0, .int .u64 0] 32)) (fun _ => false) := by
  rw [cl_zero]
  refine ⟨((Below.refl _ _).alloc (Nat.le_refl _) _).alloc (by simp) _, (At.new w _).alloc _, ?_⟩
  have := At.new (w.alloc (.cells (cl fun _ => false) 32)) (fun _ => false)
  simpa using this
theorem UN.keep {B : Nat} {w0 w w' : World} {p : Nat → Bool} (h : UN B w0 w p) (hB : w0.heap.size = B) (hb : Below w.heap.size w w') : UN B w0 w' p :=
  ⟨h.1.trans (hb.mono (by have := h.1.size; omega)), h.2.1.below hb h.2.1.lt, h.2.2.below hb h.2.2.lt⟩
theorem UN.set {B : Nat} {w0 w : World} {p : Nat → Bool} (h : UN B w0 w p) (q : Nat → Bool) : UN B w0 (w.setRow (B + 1) (cl q)) q :=
  ⟨below_setRow h.1 (Nat.le_succ _) _, h.2.1.other _ (by omega), h.2.2.set q⟩
theorem UN.drew {B : Nat} {w0 w : World} {p : Nat → Bool} (h : UN B w0 w p) : UN B w0 w.drew p := ⟨h.1.drew, h.2.1, h.2.2⟩
set_option maxRecDepth 100000 in
set_option maxHeartbeats 8000000 in
theorem punion_any (s : ByteArray) (m : Nat) (hs : s.size = 2 * m) (hs2 : s.size ≤ 4294967280) (w : World) :
    Calls Tryz.prog 158 #[.string s] w fun e w' => e = .returned (cs (uniL s.data.toList)) ∧ Below w.heap.size w w' := by
  have H0 := Lib.hid (UN.start w)
  obtain ⟨R, hR⟩ : ∃ R, uniL s.data.toList = R := ⟨_, rfl⟩
  rw [hR]
  have HR := Lib.hid hR
  clear hR
  have HS := Lib.hid hs
  clear hs
  unfold cs
  go_enter Tryz.func158, Tryz.ntmps158
  go_wp2
  go_loopw [0] (fun r wr => ∃ (x : ByteArray) (p : Nat → Bool) (k : Nat), r = .string x ∧ x.size ≤ 4294967280 ∧ Hid (x.size = 2 * k) ∧ Hid (∀ c, (p c || uniL x.data.toList c) = R c) ∧ Hid (UN w.heap.size w wr p)) (fun r _ => match r with | .string x => x.size | _ => 0)
  case atStart => exact ⟨s, _, m, rfl, hs2, HS.out, fun c => by rw [HR.out]; rfl, H0.out⟩
  case round =>
    obtain ⟨x, p, k, rfl, hx2, HK, HP, HU⟩ := hrel
    by_cases hx : 0 < x.size
    · have ex := lisEmpty_no x hx
      have h2 : 2 ≤ x.size := by have := HK.out; omega
      have i1 : (1 : Int) < x.size := by omega
      have i2 : (2 : Int) ≤ x.size := by omega
      have HC := Lib.hid (uniL_cut x h2)
      have HDx := Lib.hid (drop_data x 2)
      have HZx := Lib.hid (drop_size x 2)
      obtain ⟨a, ha⟩ : ∃ a, x[0].toNat = a := ⟨_, rfl⟩
      obtain ⟨b, hb⟩ : ∃ b, x[1].toNat = b := ⟨_, rfl⟩
      have a256 : a < 256 := by rw [← ha]; exact x[0].toNat_lt
      have b256 : b < 256 := by rw [← hb]; exact x[1].toNat_lt
      rw [ha, hb] at HC
      have HRg := Lib.hid (range_any a b a256 b256)
      have HUn := Lib.hid (union_any p (between a b))
      unfold cs cl at HRg HUn
      obtain ⟨⟨c0, c1⟩, ⟨c2, c3⟩, hf⟩ := HU.out.2.2.words
      have HUd := Lib.hid HU.out.drew
      clear hf a256 b256
      go_wp2
      refine wp_region_held_drew (S := fun _ => True) (by kernel_rfl) ?_ (fun hHeld => ?_)
      · trivial
      refine wpAnyH_take (i := 1) (v := ?av1) rfl (by kernel_rfl) (by kernel_rfl) (by kernel_rfl) (fun _ _ _ h => h) (Or.inl ⟨by rfl, ?ay1⟩) (by assumption) ?ar1
      case ay1 =>
        intro wx hSw
        clear hSw
        go_simp
        first | done | (with_reducible rfl)
      (try simp only [Act.put, List.getElem_toArray, List.getElem_cons_succ, List.getElem_cons_zero, List.setIfInBounds_toArray, List.set_cons_zero, List.set_cons_succ])
      refine wpAnyH_take (i := 2) (v := ?av2) rfl (by kernel_rfl) (by kernel_rfl) (by kernel_rfl) (fun _ _ _ h => h) (Or.inl ⟨by rfl, ?ay2⟩) (by assumption) ?ar2
      case ay2 =>
        intro wx hSw
        clear hSw
        go_simp
        first | done | (with_reducible rfl)
      (try simp only [Act.put, List.getElem_toArray, List.getElem_cons_succ, List.getElem_cons_zero, List.setIfInBounds_toArray, List.set_cons_zero, List.set_cons_succ])
      refine wpAnyH_take (i := 3) (v := ?av3) rfl (by kernel_rfl) (by kernel_rfl) (by kernel_rfl) (fun _ _ _ h => h) (Or.inl ⟨by rfl, ?ay3⟩) (by assumption) ?ar3
      case ay3 =>
        intro wx hSw
        clear hSw
        go_simp
        first | done | (with_reducible rfl)
      (try simp only [Act.put, List.getElem_toArray, List.getElem_cons_succ, List.getElem_cons_zero, List.setIfInBounds_toArray, List.set_cons_zero, List.set_cons_succ])
      refine wpAnyH_take (i := 4) (v := ?av4) rfl (by kernel_rfl) (by kernel_rfl) (by kernel_rfl) (fun _ _ _ h => h) (Or.inl ⟨by rfl, ?ay4⟩) (by assumption) ?ar4
      case ay4 =>
        intro wx hSw
        clear hSw
        go_simp
        first | done | (with_reducible rfl)
      (try simp only [Act.put, List.getElem_toArray, List.getElem_cons_succ, List.getElem_cons_zero, List.setIfInBounds_toArray, List.set_cons_zero, List.set_cons_succ])
      refine wpAnyH_ready (rs := [0, 5]) (by kernel_rfl) (by simp) ?_
      refine AllReadyH.cons rfl (fun K hK => ?_) (AllReadyH.cons rfl (fun K hK => ?_) AllReadyH.nil)
      · go_simp
        refine hK.out _ _ ?_ (fun hHeld1 => ?_)
        · trivial
        clear hK K
        (try simp only [Act.put, List.getElem_toArray, List.getElem_cons_zero, List.setIfInBounds_toArray, List.set_cons_zero, List.set_cons_succ])
        refine wpAnyH_ready (rs := [5]) (by kernel_rfl) (by simp) ?_
        refine AllReadyH.cons rfl (fun K hK => ?_) AllReadyH.nil
        go_simp
        go_at_call 88
        refine (HRg.out _).mono ?_
        rintro e w3 ⟨rfl, hbl⟩
        have HU3 := Lib.hid (HUd.out.keep rfl hbl)
        clear hbl
        refine hK.out _ _ ?_ (fun hHeld9 => ?_)
        · trivial
        clear hK K
        (try simp only [Act.put, List.getElem_toArray, List.getElem_cons_succ, List.getElem_cons_zero, List.setIfInBounds_toArray, List.set_cons_zero, List.set_cons_succ])
        refine wpAnyH_ready (rs := [6]) (by kernel_rfl) (by simp) ?_
        refine AllReadyH.cons rfl (fun K hK => ?_) AllReadyH.nil
        go_simp
        go_at_call 108
        refine (HUn.out _).mono ?_
        rintro e w4 ⟨rfl, hbl⟩
        have HU4 := Lib.hid (HU3.out.keep rfl hbl)
        clear hbl
        refine hK.out _ _ ?_ (fun hHeld2 => ?_)
        · trivial
        clear hK K
        (try simp only [Act.put, List.getElem_toArray, List.getElem_cons_succ, List.getElem_cons_zero, List.setIfInBounds_toArray, List.set_cons_zero, List.set_cons_succ])
        refine wpAnyH_ready (rs := [7]) (by kernel_rfl) (by simp) ?_
        refine AllReadyH.cons rfl (fun K hK => ?_) AllReadyH.nil
        rw [if_pos (by rfl)]
        refine wp_store_row 32 _ _ rfl (w.heap.size + 1) (cl fun c => p c || between a b c) rfl rfl 32 _ HU4.out.2.2 info_cs rfl (cl_one _) ?_
        refine hK.out _ _ ?_ (fun hHeld3 => ?_)
        · trivial
        clear hK K
        (try simp only [Act.put, List.getElem_toArray, List.getElem_cons_succ, List.getElem_cons_zero])
        refine wpAnyH_done (by kernel_rfl) ?_ _
        go_wp2
        go_roundw
        case rel =>
          refine ⟨x.extract 2 x.size, fun c => p c || between a b c, k - 1, rfl, ?_, ?_, ?_, HU4.out.set _⟩
          · rw [HZx.out]; omega
          · show _ = _
            rw [HZx.out, HK.out]; omega
          · show ∀ c, _
            intro c
            rw [HDx.out, ← HP.out c, HC.out c, Bool.or_assoc]
        case measure =>
          have := HZx.out
          simp only [this]
          omega
      · go_simp
        go_at_call 88
        refine (HRg.out _).mono ?_
        rintro e w3 ⟨rfl, hbl⟩
        have HU3 := Lib.hid (HUd.out.keep rfl hbl)
        clear hbl c0 c1 c2 c3
        obtain ⟨⟨c0, c1⟩, ⟨c2, c3⟩, hf⟩ := HU3.out.2.2.words
        clear hf
        refine hK.out _ _ ?_ (fun hHeld9 => ?_)
        · trivial
        clear hK K
        (try simp only [Act.put, List.getElem_toArray, List.getElem_cons_succ, List.getElem_cons_zero, List.setIfInBounds_toArray, List.set_cons_zero, List.set_cons_succ])
        refine wpAnyH_ready (rs := [0]) (by kernel_rfl) (by simp) ?_
        refine AllReadyH.cons rfl (fun K hK => ?_) AllReadyH.nil
        go_simp
        refine hK.out _ _ ?_ (fun hHeld1 => ?_)
        · trivial
        clear hK K
        (try simp only [Act.put, List.getElem_toArray, List.getElem_cons_zero, List.setIfInBounds_toArray, List.set_cons_zero, List.set_cons_succ])
        refine wpAnyH_ready (rs := [6]) (by kernel_rfl) (by simp) ?_
        refine AllReadyH.cons rfl (fun K hK => ?_) AllReadyH.nil
        go_simp
        go_at_call 108
        refine (HUn.out _).mono ?_
        rintro e w4 ⟨rfl, hbl⟩
        have HU4 := Lib.hid (HU3.out.keep rfl hbl)
        clear hbl
        refine hK.out _ _ ?_ (fun hHeld2 => ?_)
        · trivial
        clear hK K
        (try simp only [Act.put, List.getElem_toArray, List.getElem_cons_succ, List.getElem_cons_zero, List.setIfInBounds_toArray, List.set_cons_zero, List.set_cons_succ])
        refine wpAnyH_ready (rs := [7]) (by kernel_rfl) (by simp) ?_
        refine AllReadyH.cons rfl (fun K hK => ?_) AllReadyH.nil
        rw [if_pos (by rfl)]
        refine wp_store_row 32 _ _ rfl (w.heap.size + 1) (cl fun c => p c || between a b c) rfl rfl 32 _ HU4.out.2.2 info_cs rfl (cl_one _) ?_
        refine hK.out _ _ ?_ (fun hHeld3 => ?_)
        · trivial
        clear hK K
        (try simp only [Act.put, List.getElem_toArray, List.getElem_cons_succ, List.getElem_cons_zero])
        refine wpAnyH_done (by kernel_rfl) ?_ _
        go_wp2
        go_roundw
        case rel =>
          refine ⟨x.extract 2 x.size, fun c => p c || between a b c, k - 1, rfl, ?_, ?_, ?_, HU4.out.set _⟩
          · rw [HZx.out]; omega
          · show _ = _
            rw [HZx.out, HK.out]; omega
          · show ∀ c, _
            intro c
            rw [HDx.out, ← HP.out c, HC.out c, Bool.or_assoc]
        case measure =>
          have := HZx.out
          simp only [this]
          omega
    · have hx0 : x.size = 0 := by omega
      have ex := isEmpty_yes x hx0
      have hlx : x.data.toList = [] := List.eq_nil_of_length_eq_zero (by rw [size_data]; exact hx0)
      have hpR : p = R := by
        funext c
        have := HP.out c
        rw [hlx] at this
        rw [← this]
        show p c = (p c || false)
        rw [Bool.or_false]
      subst hpR
      have HU1 := Lib.hid HU.out
      obtain ⟨⟨c0, c1⟩, ⟨c2, c3⟩, hf⟩ := HU.out.2.2.words
      obtain ⟨⟨d0, d1⟩, ⟨d2, d3⟩, hg⟩ := HU.out.2.1.words
      clear hx0 hlx hx
      go_wp2
      exact bodyPost_ret (v := cs p) (ret_cs (q := p) Tryz.results158 _ _ w.heap.size (by simp) (HU1.out.2.1.put4 _)) rfl ⟨rfl, below_put4 HU1.out.1 _ (Nat.le_refl _) _⟩
end Go.Proofs.YtphiaagppcbefaaGreatDoor
set_option linter.unusedVariables false
set_option maxRecDepth 100000
namespace Go.Proofs.YtphiaagppcbefaaGreatDoor
open Go.RowKit
theorem run_loadVar_cells {P : Program} (w : World) (g : Nat) (ty : TypeId) (cs : Array Value) (d : TypeDesc) (hg : ∀ (j : Nat) v, cs[j]? = some v → w.cell? ⟨g, j, none⟩ = some v)
    (hu : P.underlying ty = some d) (hd : (match d with | .struct _ | .array _ _ => true | _ => false) = true) (hi : (P.info? ty).map (·.size) = some cs.size) :
    (loadVar ty ⟨g, 0, none⟩).run P w = .ok (.agg cs) w := by
  have hl : (loadCells ⟨g, 0, none⟩ cs.toList.length).run P w = .ok cs.toList.toArray w :=
    run_loadCells_list (P := P) w ⟨g, 0, none⟩ cs.toList (fun j v hv => by
      rw [add_at]
      exact hg j v (by simpa using hv))
  cases hq : P.info? ty with
  | none => simp [hq] at hi
  | some i =>
    have hs : i.size = cs.size := by simpa [hq] using hi
    have hagg : (isAgg ty).run P w = .ok true w := by
      unfold isAgg
      rw [Sem.run_bind, run_underlying hu w]
      cases d <;> simp_all
    simp only [Array.length_toList, Array.toArray_toList] at hl
    simp [loadVar, Sem.run_bind, hagg, sizeOf, typeInfo, hq, hs, hl]
theorem wpList_load_cells {P : Program} {ops : Array Oper} {rest : List Oper} {o : Oper} {a : Act} {w : World} {Q : Exit → Act → World → Prop} (hgd : o.guard = none) (ty : TypeId) (x : Operand) (ho : o.op = .load ty x)
    (g : Nat) (hx : a.eval x = .pointer (some ⟨g, 0, none⟩)) (cs : Array Value) (d : TypeDesc) (hg : ∀ (j : Nat) v, cs[j]? = some v → w.cell? ⟨g, j, none⟩ = some v)
    (hu : P.underlying ty = some d) (hd : (match d with | .struct _ | .array _ _ => true | _ => false) = true) (hi : (P.info? ty).map (·.size) = some cs.size)
    (h : wpList P ops Q rest (a.put o.dst (.agg cs)) w) : wpList P ops Q (o :: rest) a w :=
  wpList_plain hgd fun _ hK => by
    unfold Oper.wp execOp
    simp only [ho, hx, Instr.loadAt, Instr.sureAddr, Sem.run_bind, Sem.run_pure, Result.andThen_ok, run_loadVar_cells w g ty cs d hg hu hd hi]
    exact hK _ _ h
def tabS : List (List UInt8) := [[97, 108, 112, 104, 97], [65, 90, 97, 122], [100, 105, 103, 105, 116], [48, 57], [97, 108, 110, 117, 109], [48, 57, 65, 90, 97, 122], [117, 112, 112, 101, 114], [65, 90], [108, 111, 119, 101, 114], [97, 122], [120, 100, 105, 103, 105, 116], [48, 57, 65, 70, 97, 102],
  [98, 108, 97, 110, 107], [9, 9, 32, 32], [115, 112, 97, 99, 101], [9, 13, 32, 32], [99, 110, 116, 114, 108], [0, 31, 127, 127], [103, 114, 97, 112, 104], [33, 126], [112, 114, 105, 110, 116], [32, 126], [112, 117, 110, 99, 116], [33, 47, 58, 64, 91, 96, 123, 126]]
def nmL2 (k : Nat) : List UInt8 := tabS.getD (2 * k) []
def rgL (k : Nat) : List UInt8 := tabS.getD (2 * k + 1) []
def tabCells : Array Value := (tabS.map fun l => Value.string (mkS l)).toArray
def ltabAt (w : World) : Prop := ∀ (j : Nat) v, tabCells[j]? = some v → w.cell? ⟨1, j, none⟩ = some v
theorem ltab_keep {w w' : World} (h : ltabAt w) (hb : Below w.heap.size w w') : ltabAt w' := fun j v hj => keep_words hb (h j v hj)
theorem tab_index (k : Nat) (hk : k < 12) : ∀ w, (Instr.index 143 (.agg tabCells) (.int .i64 (k : Int))).run Tryz.prog w = .ok (.agg #[.string (mkS (nmL2 k)), .string (mkS (rgL k))]) w := by
  have : k = 0 ∨ k = 1 ∨ k = 2 ∨ k = 3 ∨ k = 4 ∨ k = 5 ∨ k = 6 ∨ k = 7 ∨ k = 8 ∨ k = 9 ∨ k = 10 ∨ k = 11 := by omega
  rcases this with rfl | rfl | rfl | rfl | rfl | rfl | rfl | rfl | rfl | rfl | rfl | rfl <;> exact fun w => by kernel_rfl
theorem rgL_even (k : Nat) (hk : k < 12) : ∃ m, (mkS (rgL k)).size = 2 * m ∧ (mkS (rgL k)).size ≤ 8 := by
  have : k = 0 ∨ k = 1 ∨ k = 2 ∨ k = 3 ∨ k = 4 ∨ k = 5 ∨ k = 6 ∨ k = 7 ∨ k = 8 ∨ k = 9 ∨ k = 10 ∨ k = 11 := by omega
  rcases this with rfl | rfl | rfl | rfl | rfl | rfl | rfl | rfl | rfl | rfl | rfl | rfl
  · exact ⟨2, rfl, by decide⟩
  · exact ⟨1, rfl, by decide⟩
  · exact ⟨3, rfl, by decide⟩
  · exact ⟨1, rfl, by decide⟩
  · exact ⟨1, rfl, by decide⟩
  · exact ⟨3, rfl, by decide⟩
  · exact ⟨2, rfl, by decide⟩
  · exact ⟨2, rfl, by decide⟩
  · exact ⟨2, rfl, by decide⟩
  · exact ⟨1, rfl, by decide⟩
  · exact ⟨1, rfl, by decide⟩
  · exact ⟨4, rfl, by decide⟩
def stdR (n : ByteArray) : (Nat → Bool) × Bool := match (List.range 12).find? fun j => eqS (mkS (nmL2 j)) n with
  | some j => (uniL (rgL j), true)
  | none => (fun _ => false, false)
def clsR (V : Loc) (n : ByteArray) : (Nat → Bool) × Bool := match (List.range V.nc).find? fun j => eqS (V.cn j) n with
  | some j => (V.cset j, true)
  | none => stdR n
theorem find_first (p : Nat → Bool) (n k : Nat) (hk : k < n) (h : p k = true) (hb : ∀ q, q < k → p q = false) : (List.range n).find? p = some k := by
  rw [List.find?_range_eq_some]
  exact ⟨h, by simpa using hk, fun j hj => by simp [hb j hj]⟩
theorem find_no (p : Nat → Bool) (n : Nat) (hb : ∀ q, q < n → p q = false) : (List.range n).find? p = none := by
  rw [List.find?_eq_none]
  intro x hx
  simp [hb x (by simpa using hx)]
theorem stdR_at (n : ByteArray) (k : Nat) (hk : k < 12) (h : eqS (mkS (nmL2 k)) n = true) (hb : ∀ q, q < k → eqS (mkS (nmL2 q)) n = false) : stdR n = (uniL (rgL k), true) := by
  unfold stdR
  rw [find_first _ 12 k hk h hb]
theorem stdR_no (n : ByteArray) (hb : ∀ q, q < 12 → eqS (mkS (nmL2 q)) n = false) : stdR n = (fun _ => false, false) := by
  unfold stdR
  rw [find_no _ 12 hb]
theorem clsR_at (V : Loc) (n : ByteArray) (k : Nat) (hk : k < V.nc) (h : eqS (V.cn k) n = true) (hb : ∀ q, q < k → eqS (V.cn q) n = false) : clsR V n = (V.cset k, true) := by
  unfold clsR
  rw [find_first _ V.nc k hk h hb]
theorem clsR_no (V : Loc) (n : ByteArray) (hb : ∀ q, q < V.nc → eqS (V.cn q) n = false) : clsR V n = stdR n := by
  unfold clsR
  rw [find_no _ V.nc hb]
set_option maxRecDepth 100000 in
set_option maxHeartbeats 8000000 in
theorem pClass_any (L : Loc) (W C E : Value) (n : ByteArray) (w : World) (hT : ltabAt w) (hM : LocM w L W C E) :
    Calls Tryz.prog 143 #[.agg (lcl L W C E), .string n] w fun e w' => e = .returned (.tuple #[cs (clsR (vld L) n).1, .bool (clsR (vld L) n).2]) ∧ Below w.heap.size w w' := by
  have hfd4 := fld4
  have HB : Hid (Below w.heap.size w ((w.alloc (.cells (lcl L W C E) 26)).alloc (.cells #[.int .u64 0, .int .u64 0, .int .u64 0, .int .u64 0] 32))) := ((Below.refl _ _).alloc (Nat.le_refl _) _).alloc (by simp) _
  have HA : Hid (At ((w.alloc (.cells (lcl L W C E) 26)).alloc (.cells #[.int .u64 0, .int .u64 0, .int .u64 0, .int .u64 0] 32)) (w.heap.size + 1) (fun _ => false)) := by
    show At _ _ _
    rw [cl_zero]
    have := At.new (w.alloc (.cells (lcl L W C E) 26)) (fun _ => false)
    simpa using this
  have HU := Lib.hid (usable_any L W C E _ (hM.below HB.out))
  have HV := Lib.hid (ok_vld L)
  have HT := Lib.hid hT
  generalize vld L = V at *
  obtain ⟨R, hR⟩ : ∃ R, clsR V n = R := ⟨_, rfl⟩
  rw [hR]
  have HR := Lib.hid hR
  clear hR hT
  obtain ⟨⟨aw, capw, rfl, _⟩, ⟨ac, capc, rfl, _⟩, ⟨ae, cape, rfl, _⟩⟩ := hM
  unfold lcl at HB HU HA ⊢
  have HI := Lib.hid tab_index
  have HTC := Lib.hid (show (Tryz.prog.info? 143).map (·.size) = some tabCells.size by kernel_rfl)
  have HTa := Lib.hid (fun (wx : World) (hb : Below w.heap.size w wx) => ltab_keep HT.out hb)
  unfold ltabAt at HTa
  generalize tabCells = TC at HI HTC HTa
  go_enter Tryz.func143, Tryz.ntmps143
  go_wp2_with (first
    | (go_at_call 136
       refine HU.out.mono ?_
       rintro e w1 ⟨W1, C1, E1, rfl, hm, hb⟩
       have HB1 := Lib.hid (HB.out.trans (hb.mono HB.out.size))
       have HA1 := Lib.hid (HA.out.below hb HA.out.lt)
       have hcw := hm.2.1
       obtain ⟨ac1, capc1, rfl, hcc, hc1⟩ := hcw
       have HC1 := Lib.hid hc1
       clear hb hm hc1 hcc))
  have hnc : (V.nc : Int) ≤ 24 := by have := HV.out.nc; omega
  go_loopw [14] (fun i wr => ∃ k : Nat, k ≤ V.nc ∧ i = .int .i64 k ∧ Hid (∀ q, q < k → eqS (V.cn q) n = false) ∧ Hid (Below w1.heap.size w1 wr)) (fun i _ => V.nc - (intOf i).toNat)
  case atStart => exact ⟨0, Nat.zero_le _, rfl, fun q hq => by omega, Below.refl _ _⟩
  case round =>
    obtain ⟨k, hk, rfl, HQ, HBr⟩ := hrel
    by_cases hkn : k < V.nc
    · have ki : (k : Int) < V.nc := by omega
      have ki0 : (0 : Int) ≤ k := by omega
      rcases HC1.out with h0 | ⟨b, off, rfl, hlt, hcells⟩
      · omega
      have ck0 : wr.cell? ⟨b, off + k * 5, none⟩ = some (.string (V.cn k)) := by
        rw [HBr.out.cell (by exact hlt)]
        exact hcells k 0 hkn (by decide)
      have ck1 : wr.cell? ⟨b, off + k * 5 + 1, none⟩ = some (clsF V k 1) := by
        rw [HBr.out.cell (by exact hlt)]
        exact hcells k 1 hkn (by decide)
      have ck2 : wr.cell? ⟨b, off + k * 5 + 2, none⟩ = some (clsF V k 2) := by
        rw [HBr.out.cell (by exact hlt)]
        exact hcells k 2 hkn (by decide)
      have ck3 : wr.cell? ⟨b, off + k * 5 + 3, none⟩ = some (clsF V k 3) := by
        rw [HBr.out.cell (by exact hlt)]
        exact hcells k 3 hkn (by decide)
      have ck4 : wr.cell? ⟨b, off + k * 5 + 4, none⟩ = some (clsF V k 4) := by
        rw [HBr.out.cell (by exact hlt)]
        exact hcells k 4 hkn (by decide)
      rw [clsF_word V k 0] at ck1
      rw [clsF_word V k 1] at ck2
      rw [clsF_word V k 2] at ck3
      rw [clsF_word V k 3] at ck4
      simp only [Nat.mul_zero, Nat.reduceMul] at ck1 ck2 ck3 ck4
      clear hcells hlt
      have HBn := Lib.hid (HBr.out.alloc HBr.out.size (.cells #[.string (V.cn k), .int .u64 ((wd (V.cset k) 0 64 : Nat) : Int), .int .u64 ((wd (V.cset k) 64 64 : Nat) : Int), .int .u64 ((wd (V.cset k) 128 64 : Nat) : Int), .int .u64 ((wd (V.cset k) 192 64 : Nat) : Int)] 109))
      obtain ⟨D, hD⟩ : ∃ D, ((V.cn k).toList == n.toList) = D := ⟨_, rfl⟩
      have HD : Hid (eqS (V.cn k) n = D) := hD
      rcases bool_tf D with hd | hd
      · subst hd
        have HN : Hid (R = (V.cset k, true)) := HR.out.symm.trans (clsR_at V n k hkn HD.out HQ.out)
        have hA := HA1.out.below HBn.out HA1.out.lt
        have HAr := Lib.hid hA
        obtain ⟨⟨d0, d1⟩, ⟨d2, d3⟩, hg⟩ := hA.words
        clear hA
        go_wp2
        exact bodyPost_ret (ret_cs2 Tryz.results143 _ _ (w.heap.size + 1) (V.cset k) (.bool true) (by simp) (by simp) (HAr.out.put4 _)) rfl ⟨by rw [HN.out], below_put4 (HB1.out.trans (HBn.out.mono HB1.out.size)) _ (Nat.le_succ _) _⟩
      · subst hd
        go_wp2
        go_roundw
        case rel =>
          refine ⟨k + 1, by omega, by go_num, fun q hq => ?_, HBn.out⟩
          by_cases e : q = k
          · subst e; exact HD.out
          · exact HQ.out q (by omega)
        case measure => simp [intOf]; omega
    · obtain rfl : k = V.nc := by omega
      have HSt : Hid (R = stdR n) := HR.out.symm.trans (clsR_no V n HQ.out)
      have HBw := Lib.hid (HB1.out.trans (HBr.out.mono HB1.out.size))
      have HTr := Lib.hid (HTa.out wr HBw.out)
      go_wp2_with (refine wpList_load_cells rfl 143 (.global 1) rfl 1 rfl TC _ HTr.out Tryz.underlying143 rfl HTC.out ?_)
      clear HQ HC1 HTr HTa HTC HU hfd4
      go_loopw [26] (fun i wr => ∃ k : Nat, k ≤ 12 ∧ i = .int .i64 k ∧ Hid (∀ q, q < k → eqS (mkS (nmL2 q)) n = false) ∧ Hid (Below w1.heap.size w1 wr)) (fun i _ => 12 - (intOf i).toNat)
      case atStart => exact ⟨0, Nat.zero_le _, rfl, fun q hq => by omega, HBr.out⟩
      case round =>
        clear HBr HBw
        obtain ⟨k, hk, rfl, HQ, HBr⟩ := hrel
        by_cases hkn : k < 12
        · have ki : (k : Int) < 12 := by omega
          have ki0 : (0 : Int) ≤ k := by omega
          have hix := HI.out k hkn
          obtain ⟨m, hm1, hm2⟩ := rgL_even k hkn
          have HUn := Lib.hid (punion_any (mkS (rgL k)) m hm1 (by omega))
          rw [mkS_data] at HUn
          have HQk := Lib.hid (stdR_at n k hkn)
          generalize hNk : mkS (nmL2 k) = N at hix HQk
          have HNk := Lib.hid hNk
          clear hNk
          generalize mkS (rgL k) = G at hix HUn
          clear hm1 hm2
          have HBn := Lib.hid (HBr.out.alloc HBr.out.size (.cells #[.string N, .string G] 142))
          obtain ⟨D, hD⟩ : ∃ D, (N.toList == n.toList) = D := ⟨_, rfl⟩
          have HD : Hid (eqS N n = D) := hD
          rcases bool_tf D with hd | hd
          · subst hd
            have HN : Hid (R = (uniL (rgL k), true)) := HSt.out.trans (HQk.out HD.out HQ.out)
            unfold cs at HUn
            have hA := HA1.out.below HBn.out HA1.out.lt
            have HAr := Lib.hid hA
            clear hA
            go_wp2_with (first
              | (go_at_call 158
                 refine (HUn.out _).mono ?_
                 rintro e w3 ⟨rfl, hb⟩
                 have HB3 := Lib.hid ((HB1.out.trans (HBn.out.mono HB1.out.size)).trans (hb.mono (by have h1 := HB1.out.size; have h2 := HBn.out.size; omega)))
                 have B1 := HAr.out.below hb HAr.out.lt
                 have HA3 := Lib.hid B1
                 obtain ⟨⟨d0, d1⟩, ⟨d2, d3⟩, hg⟩ := B1.words
                 clear B1 hb
                 unfold cl))
            exact bodyPost_ret (ret_cs2 Tryz.results143 _ _ (w.heap.size + 1) (uniL (rgL k)) (.bool true) (by simp) (by simp) (HA3.out.put4 _)) rfl ⟨by rw [HN.out], below_put4 HB3.out _ (Nat.le_succ _) _⟩
          · subst hd
            go_wp2
            go_roundw
            case rel =>
              refine ⟨k + 1, by omega, by go_num, fun q hq => ?_, HBn.out⟩
              by_cases e : q = k
              · subst e; rw [HNk.out]; exact HD.out
              · exact HQ.out q (by omega)
            case measure => simp [intOf]; omega
        · obtain rfl : k = 12 := by omega
          have HN : Hid (R = (fun _ => false, false)) := HSt.out.trans (stdR_no n HQ.out)
          have hA := HA1.out.below HBr.out HA1.out.lt
          have HAr := Lib.hid hA
          obtain ⟨⟨d0, d1⟩, ⟨d2, d3⟩, hg⟩ := hA.words
          clear hA
          go_wp2
          rw [put4_zero]
          exact bodyPost_ret (ret_cs2 Tryz.results143 _ _ (w.heap.size + 1) (fun _ => false) (.bool false) (by simp) (by simp) (HAr.out.put4 _)) rfl ⟨by rw [HN.out], below_put4 (HB1.out.trans (HBr.out.mono HB1.out.size)) _ (Nat.le_succ _) _⟩
end Go.Proofs.YtphiaagppcbefaaGreatDoor
