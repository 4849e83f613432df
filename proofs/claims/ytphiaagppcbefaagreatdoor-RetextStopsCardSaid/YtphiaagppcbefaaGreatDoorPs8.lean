/- LpWeigh. -/
import Derived.Test.YtphiaagppcbefaaGreatDoorRows
import Derived.Test.YtphiaagppcbefaaGreatDoorPs7
set_option linter.unusedVariables false
namespace Go.Proofs.YtphiaagppcbefaaGreatDoor
open Go.RowKit
def hvy (x : Nat → Int) (lo hi : Int) : Nat → Bool := fun c => decide (lo ≤ x c) && decide (x c ≤ hi)
def bel (P : Nat → Bool) (n : Nat) : List UInt8 := (el P n).map UInt8.ofNat
theorem bel_yes (P : Nat → Bool) (n : Nat) (h : P n = true) : bel P (n + 1) = bel P n ++ [UInt8.ofNat n] := by
  unfold bel
  rw [el_succ, if_pos h, List.map_append]
  rfl
theorem bel_no (P : Nat → Bool) (n : Nat) (h : P n = false) : bel P (n + 1) = bel P n := by
  unfold bel
  rw [el_succ, if_neg (by rw [h]; decide), List.append_nil]
theorem bel_len (P : Nat → Bool) (n : Nat) : (bel P n).length ≤ n := by
  unfold bel
  rw [List.length_map]
  exact el_length_le P n
theorem setOf_bel (P : Nat → Bool) (c : Nat) (hc : c < 256) : setOf (bel P 256) c = P c := by
  unfold setOf bel
  rw [Bool.eq_iff_iff, List.any_eq_true]
  constructor
  · rintro ⟨b, hb, e⟩
    obtain ⟨n, hn, rfl⟩ := List.mem_map.1 hb
    obtain ⟨h1, h2⟩ := (mem_el P 256 n).1 hn
    rw [beq_iff_eq, UInt8.toNat_ofNat', Nat.mod_eq_of_lt (by omega)] at e
    rw [e]
    exact h2
  · intro h
    refine ⟨UInt8.ofNat c, List.mem_map.2 ⟨c, (mem_el P 256 c).2 ⟨hc, h⟩, rfl⟩, ?_⟩
    rw [beq_iff_eq, UInt8.toNat_ofNat', Nat.mod_eq_of_lt (by omega)]
theorem cs_bel (P : Nat → Bool) : cs (setOf (bel P 256)) = cs P := cs_congr _ _ (setOf_bel P)
theorem bys_ofNat (k : Nat) (h : k < 256) : bys [UInt8.ofNat k] = [.int .u8 (k : Int)] := by
  unfold bys
  rw [List.map_singleton, UInt8.toNat_ofNat', Nat.mod_eq_of_lt (by omega)]
set_option maxRecDepth 100000 in
set_option maxHeartbeats 8000000 in
theorem weighing_any (x : Nat → Int) (lo hi : Int) (sv : Value) (w : World) (hS : SL 1 256 (fun j _ => .int .i64 (x j)) w sv) :
    Calls Tryz.prog 144 #[sv, .int .i64 lo, .int .i64 hi] w fun e w' => e = .returned (cs (hvy x lo hi)) ∧ Below w.heap.size w w' := by
  have HOf := Lib.hid (of_any ⟨(bel (hvy x lo hi) 256).toArray⟩ (by rw [mkl_size]; have := bel_len (hvy x lo hi) 256; omega))
  rw [cs_bel] at HOf
  obtain ⟨P, hP⟩ : ∃ P, hvy x lo hi = P := ⟨_, rfl⟩
  rw [hP] at HOf
  have HP := Lib.hid hP
  rw [← cs_bel (hvy x lo hi), cs_bel, hP]
  clear hP
  have HA0 : Hid (At (w.alloc (.cells #[.int .u64 0, .int .u64 0, .int .u64 0, .int .u64 0] 32)) w.heap.size (fun _ => false)) := by
    show At _ _ _
    rw [cl_zero]
    exact At.new w _
  have HB0 : Hid (Below w.heap.size w (w.alloc (.cells #[.int .u64 0, .int .u64 0, .int .u64 0, .int .u64 0] 32))) := (Below.refl _ _).alloc (Nat.le_refl _) _
  have HZs : Hid (w.heap.size + 1 ≤ (w.alloc (.cells #[.int .u64 0, .int .u64 0, .int .u64 0, .int .u64 0] 32)).heap.size) := by show _ ≤ _; simp
  have HPl := Lib.hid (bel_len P)
  have HPy := Lib.hid (bel_yes P)
  have HPn := Lib.hid (bel_no P)
  unfold cs at HOf ⊢
  obtain ⟨a, cap, rfl, hcap, hcells⟩ := hS
  rcases hcells with h0 | ⟨b, off, rfl, hlt, hcells⟩
  · omega
  have HC := Lib.hid hcells
  have HLt := Lib.hid hlt
  clear hcells hlt
  go_enter Tryz.func144, Tryz.ntmps144
  go_wp2
  go_loopw [7, 12] (fun o i wr => ∃ (k : Nat) (v : Value), v = o ∧ k ≤ 256 ∧ i = .int .i64 k ∧ Hid (wr.ownsRow (w.heap.size + 1) 5 1 v (bel P k).length (bys (bel P k))) ∧ Hid (Below (w.heap.size + 1) (w.alloc (.cells #[.int .u64 0, .int .u64 0, .int .u64 0, .int .u64 0] 32)) wr)) (fun _ i _ => 256 - (intOf i).toNat)
  case atStart => exact ⟨0, _, rfl, Nat.zero_le _, rfl, World.ownsRow_nil _ _ _ _, Below.refl _ _⟩
  case round =>
    obtain ⟨k, v, rfl, hk, rfl, HOw, HBr⟩ := hrel
    by_cases hlt : k < 256
    · have ki : (k : Int) < 256 := by omega
      have ki0 : (0 : Int) ≤ k := by omega
      have hw : IntKind.u8.wrap (k : Int) = (k : Int) := IntWalk.u8_in _ (by omega)
      have ck : wr.cell? ⟨b, off + k, none⟩ = some (.int .i64 (x k)) := by
        have h1 := (HB0.out.trans (HBr.out.mono (Nat.le_succ _))).cell (p := ⟨b, off + k, none⟩) (by exact HLt.out)
        rw [h1]
        have := HC.out k 0 hlt (by decide)
        simpa using this
      have hpk : P k = (decide (lo ≤ x k) && decide (x k ≤ hi)) := by rw [← HP.out]; rfl
      obtain ⟨X, hX⟩ : ∃ X, x k = X := ⟨_, rfl⟩
      rw [hX] at ck hpk
      clear hX
      by_cases h1 : lo ≤ X
      · by_cases h2 : X ≤ hi
        · have hp : P k = true := by rw [hpk, decide_eq_true h1, decide_eq_true h2]; rfl
          have HY := Lib.hid (HPy.out k hp)
          have HLn := HPl.out k
          clear hpk hp
          go_wp2_with (first
            | (at_builtin; refine app_row 62 5 (.int .u8 0) 1 Tryz.underlying62 infoU rfl wr rfl _ _ rfl (w.heap.size + 1) v _ _ _ _ rfl rfl HOw.out rfl rfl ?c1 ?c0 ?c2 ?c3 ?_))
          case c1 => simp [Value.oneCell']
          case c0 => exact Nat.le_trans HZs.out HBr.out.size
          case c2 => unfold maxLen; omega
          case c3 => omega
          intro v' w' hown' hb'
          have HB1 := Lib.hid (hb' _ HBr.out)
          have HO1 : Hid (w'.ownsRow (w.heap.size + 1) 5 1 v' (bel P (k + 1)).length (bys (bel P (k + 1)))) := by
            show World.ownsRow _ _ _ _ _ _ _
            rw [HY.out, bys_app, bys_ofNat k hlt, List.length_append]
            exact hown'
          clear hown' hb'
          go_wp2
          go_roundw
          case rel => exact ⟨k + 1, _, rfl, by omega, by go_num, HO1.out, HB1.out⟩
          case measure => simp [intOf]; omega
        · have hp : P k = false := by rw [hpk, decide_eq_false h2]; simp
          have HY := Lib.hid (HPn.out k hp)
          clear hpk hp
          go_wp2
          go_roundw
          case rel => exact ⟨k + 1, _, rfl, by omega, by go_num, by show World.ownsRow _ _ _ _ _ _ _; rw [HY.out]; exact HOw.out, HBr.out⟩
          case measure => simp [intOf]; omega
      · have hp : P k = false := by rw [hpk, decide_eq_false h1]; simp
        have HY := Lib.hid (HPn.out k hp)
        clear hpk hp
        go_wp2
        go_roundw
        case rel => exact ⟨k + 1, _, rfl, by omega, by go_num, by show World.ownsRow _ _ _ _ _ _ _; rw [HY.out]; exact HOw.out, HBr.out⟩
        case measure => simp [intOf]; omega
    · obtain rfl : k = 256 := by omega
      have hcv := conv_bys HOw.out rfl
      have HAr := Lib.hid (HA0.out.below HBr.out (Nat.lt_succ_self _))
      have HBw := Lib.hid (HB0.out.trans (HBr.out.mono (Nat.le_succ _)))
      go_wp2_with (first
        | (go_at_call 112
           refine (HOf.out _).mono ?_
           rintro e w1 ⟨rfl, hb⟩
           have HB1 := Lib.hid (HBw.out.trans (hb.mono HBw.out.size))
           have B1 := HAr.out.below hb HAr.out.lt
           have HA1 := Lib.hid B1
           obtain ⟨⟨d0, d1⟩, ⟨d2, d3⟩, hg⟩ := B1.words
           clear B1 hb
           unfold cl))
      exact bodyPost_ret (v := cs P) (ret_cs (q := P) Tryz.results144 _ _ w.heap.size (by simp) (HA1.out.put4 _)) rfl ⟨rfl, below_put4 HB1.out _ (Nat.le_refl _) _⟩
theorem put4_zero (w : World) (g : Nat) : (((w.setCell ⟨g, 0, none⟩ (.int .u64 0)).setCell ⟨g, 1, none⟩ (.int .u64 0)).setCell ⟨g, 2, none⟩ (.int .u64 0)).setCell ⟨g, 3, none⟩ (.int .u64 0) = put4 w g (fun _ => false) := by
  unfold put4
  simp only [wd_none]
  rfl
def SQ (w0 : World) (g : Nat) (x : Nat → Int) (sv : Value) (w : World) : Prop := SL 1 256 (fun j _ => .int .i64 (x j)) w sv ∧ AtAny w g ∧ Below w0.heap.size w0 w
theorem SQ.drew {w0 w : World} {g : Nat} {x : Nat → Int} {sv : Value} (h : SQ w0 g x sv w) : SQ w0 g x sv w.drew := ⟨h.1, h.2.1, h.2.2.drew⟩
theorem SQ.keep {w0 w w' : World} {g : Nat} {x : Nat → Int} {sv : Value} (hb : Below w.heap.size w w') (h : SQ w0 g x sv w) : SQ w0 g x sv w' := ⟨h.1.below hb, h.2.1.below hb, h.2.2.trans (hb.mono h.2.2.size)⟩
theorem at_ne {w : World} {g b o : Nat} {p : Nat → Bool} {v : Value} (hA : At w g p) (h : w.cell? ⟨b, o, none⟩ = some v) (hv : ∀ n, v ≠ .int .u64 n) : b ≠ g := by
  rintro rfl
  rw [hA.cell o] at h
  by_cases ho : o < 4
  · rw [cl_get p o ho] at h
    exact hv _ (Option.some.inj h).symm
  · rw [Array.getElem?_eq_none (by rw [cl_size]; omega)] at h
    cases h
theorem SL.set {w : World} {g : Nat} {x : Nat → Int} {sv : Value} (h : SL 1 256 (fun j _ => .int .i64 (x j)) w sv) (hA : AtAny w g) (c : Array Value) : SL 1 256 (fun j _ => .int .i64 (x j)) (w.setRow g c) sv := by
  obtain ⟨r, hA⟩ := hA
  obtain ⟨a, cap, e, hc, h⟩ := h
  rcases h with h | ⟨b, off, ha, hlt, h⟩
  · omega
  have hn : b ≠ g := at_ne hA (h 0 0 (by decide) (by decide)) (fun n e => by cases e)
  refine ⟨a, cap, e, hc, .inr ⟨b, off, ha, by rw [size_setRow]; exact hlt, fun j i hj hi => ?_⟩⟩
  rw [World.cell?_of_block (w := w) (a := ⟨b, off + j * 1 + i, none⟩) (setRow_other w g b c hn)]
  exact h j i hj hi
theorem SQ.set {w0 w : World} {g : Nat} {x : Nat → Int} {sv : Value} (hg : w0.heap.size ≤ g) (h : SQ w0 g x sv w) (q : Nat → Bool) : SQ w0 g x sv (w.setRow g (cl q)) := by
  have h2 := h.2.1
  obtain ⟨r, hr⟩ := h2
  exact ⟨h.1.set h.2.1 _, ⟨q, hr.set q⟩, below_setRow h.2.2 hg _⟩
theorem SQ.cell {w0 w : World} {g b o cap c : Nat} {x : Nat → Int} (h : SQ w0 g x (.slice (some ⟨b, o, none⟩) 256 cap) w) (hc : c < 256) : w.cell? ⟨b, o + c, none⟩ = some (.int .i64 (x c)) := by
  obtain ⟨a, cap', e, _, h⟩ := h.1
  rcases h with h | ⟨b', o', ha, _, h⟩
  · omega
  simp only [Value.slice.injEq] at e
  obtain ⟨rfl, -, -⟩ := e
  simp only [Option.some.injEq, Addr.mk.injEq] at ha
  obtain ⟨rfl, rfl, -⟩ := ha
  have := h c 0 hc (by decide)
  simpa using this
theorem ret_cs2 {fn : Func} {t0 t1 : Tmp} (hr : fn.results = #[.cell t0 32, .tmp t1]) (tmps : Array Value) (w : World) (g : Nat) (q : Nat → Bool) (v : Value) (hp : tmps.getD t0 undef = .pointer (some ⟨g, 0, none⟩)) (hv : tmps.getD t1 undef = v) (hA : At w g q) :
    (results fn tmps).run Tryz.prog w = .ok (.tuple #[cs q, v]) w := by
  have hp' : tmps[t0]?.getD undef = .pointer (some ⟨g, 0, none⟩) := by simpa using hp
  have hv' : tmps[t1]?.getD undef = v := by simpa using hv
  have hl := run_loadVar_row (P := Tryz.prog) w g 32 32 (cl q) (0, 0) _ hA Tryz.underlying32 rfl (by rw [cl_size]; exact info_cs)
  simp [results, hr, hp', hv', asAddr, hl, cs]
def eqv (V : Loc) (c : Nat) : Nat → Bool := hvy V.wt (V.wt c) (V.wt c)
def btw (V : Loc) (lo hi : Nat) : Nat → Bool := hvy V.wt (V.wt lo) (V.wt hi)
set_option maxRecDepth 100000 in
set_option maxHeartbeats 8000000 in
theorem pEquiv_any (L : Loc) (W C E : Value) (c : Nat) (hc : c < 256) (w : World) (hM : LocM w L W C E) :
    Calls Tryz.prog 130 #[.agg (lcl L W C E), .int .u8 c] w fun e w' => e = .returned (cs (eqv (vld L) c)) ∧ Below w.heap.size w w' := by
  have hfd1 := fld1
  have HB : Hid (Below w.heap.size w ((w.alloc (.cells (lcl L W C E) 26)).alloc (.cells #[.int .u64 0, .int .u64 0, .int .u64 0, .int .u64 0] 32))) := ((Below.refl _ _).alloc (Nat.le_refl _) _).alloc (by simp) _
  have HA : Hid (At ((w.alloc (.cells (lcl L W C E) 26)).alloc (.cells #[.int .u64 0, .int .u64 0, .int .u64 0, .int .u64 0] 32)) (w.heap.size + 1) (fun _ => false)) := by
    show At _ _ _
    rw [cl_zero]
    have := At.new (w.alloc (.cells (lcl L W C E) 26)) (fun _ => false)
    simpa using this
  have HU := Lib.hid (usable_any L W C E _ (hM.below HB.out))
  have HV := Lib.hid (ok_vld L)
  generalize vld L = V at *
  have HWg := Lib.hid (weighing_any V.wt (V.wt c) (V.wt c))
  unfold eqv
  generalize hvy V.wt (V.wt c) (V.wt c) = P at HWg ⊢
  have ci : (c : Int) < 256 := by omega
  have ci0 : (0 : Int) ≤ c := by omega
  obtain ⟨⟨aw, capw, rfl, _⟩, ⟨ac, capc, rfl, _⟩, ⟨ae, cape, rfl, _⟩⟩ := hM
  unfold lcl at HB HU HA ⊢
  unfold cs at HWg ⊢
  go_enter Tryz.func130, Tryz.ntmps130
  go_wp2_with (first
    | (go_at_call 136
       refine HU.out.mono ?_
       rintro e w1 ⟨W1, C1, E1, rfl, hm, hb⟩
       have HM1 := Lib.hid hm
       have HB1 := Lib.hid (HB.out.trans (hb.mono HB.out.size))
       have HA1 := Lib.hid (HA.out.below hb HA.out.lt)
       clear hb hm))
  have hcw := HM1.out.1
  obtain ⟨aw1, capw1, rfl, _, hc1⟩ := hcw
  rw [HV.out.nw] at hc1
  rcases hc1 with hc1 | ⟨bw, ow, rfl, hwl, hc1⟩
  · omega
  have hcc := hc1 c 0 hc (by decide)
  have HWc : Hid (w1.cell? ⟨bw, ow + c, none⟩ = some (.int .i64 (V.wt c))) := by
    show _ = _
    simpa [wtF] using hcc
  have hnw : V.nw = 256 := HV.out.nw
  have hsl := HM1.out.1
  rw [hnw] at hsl ⊢
  have HS0 : Hid (SQ w (w.heap.size + 1) V.wt (.slice (some ⟨bw, ow, none⟩) 256 capw1) w1) := ⟨hsl, ⟨_, HA1.out⟩, HB1.out⟩
  have HG : Hid (w.heap.size ≤ w.heap.size + 1) := Nat.le_succ _
  have Hc := Lib.hid hc
  obtain ⟨x, hx⟩ : ∃ x, V.wt = x := ⟨_, rfl⟩
  rw [hx] at HS0 HWg
  clear hsl hcc hc1 hnw HM1 hx HWc hwl hc HU hfd1 HB HA HB1 HA1 HV
  refine wp_region_held_drew (S := fun w' => SQ w (w.heap.size + 1) x (.slice (some ⟨bw, ow, none⟩) 256 capw1) w') (by kernel_rfl) ?_ (fun hHeld => ?_)
  · exact HS0.out.drew
  refine wpAnyH_take (i := 0) (v := ?av0) rfl (by kernel_rfl) (by kernel_rfl) (by kernel_rfl) (fun _ _ _ h => h) (Or.inl ⟨by rfl, ?ay0⟩) (by assumption) ?ar0
  case ay0 =>
    intro wx hSw
    clear hSw
    go_simp
    first | done | (with_reducible rfl)
  (try simp only [Act.put, List.getElem_toArray, List.getElem_cons_zero, List.setIfInBounds_toArray, List.set_cons_zero, List.set_cons_succ])
  refine wpAnyH_take (i := 1) (v := ?av1) rfl (by kernel_rfl) (by kernel_rfl) (by kernel_rfl) (fun _ _ _ h => h) (Or.inl ⟨by rfl, ?ay1⟩) (by assumption) ?ar1
  case ay1 =>
    intro wx hSw
    clear hSw
    go_simp
    first | done | (with_reducible rfl)
  (try simp only [Act.put, List.getElem_toArray, List.getElem_cons_succ, List.getElem_cons_zero, List.setIfInBounds_toArray, List.set_cons_zero, List.set_cons_succ])
  refine wpAnyH_take (i := 2) (v := ?av2) rfl (by kernel_rfl) (by kernel_rfl) (by kernel_rfl) (fun _ _ _ h => h) (Or.inl ⟨by rfl, ?ay2⟩) (by assumption) ?ar2
  case ay2 =>
    intro wx hSw
    clear hSw
    go_simp
    first | done | (with_reducible rfl)
  (try simp only [Act.put, List.getElem_toArray, List.getElem_cons_succ, List.getElem_cons_zero, List.setIfInBounds_toArray, List.set_cons_zero, List.set_cons_succ])
  refine wpAnyH_take (i := 3) (v := ?av3) rfl (by kernel_rfl) (by kernel_rfl) (by kernel_rfl) (fun _ _ _ h => h) (Or.inl ⟨by rfl, ?ay3⟩) (by assumption) ?ar3
  case ay3 =>
    intro wx hSw
    clear hSw
    go_simp
    first | done | (with_reducible rfl)
  (try simp only [Act.put, List.getElem_toArray, List.getElem_cons_succ, List.getElem_cons_zero, List.setIfInBounds_toArray, List.set_cons_zero, List.set_cons_succ])
  refine wpAnyH_take (i := 4) (v := ?av4) rfl (by kernel_rfl) (by kernel_rfl) (by kernel_rfl) (fun _ _ _ h => h) (Or.inl ⟨by rfl, ?ay4⟩) (by assumption) ?ar4
  case ay4 =>
    intro wx hSw
    have hcell := SQ.cell hSw Hc.out
    clear hSw
    go_simp
    first | done | (with_reducible rfl)
  (try simp only [Act.put, List.getElem_toArray, List.getElem_cons_succ, List.getElem_cons_zero, List.setIfInBounds_toArray, List.set_cons_zero, List.set_cons_succ])
  refine wpAnyH_take (i := 5) (v := ?av5) rfl (by kernel_rfl) (by kernel_rfl) (by kernel_rfl) (fun _ _ _ h => h) (Or.inl ⟨by rfl, ?ay5⟩) (by assumption) ?ar5
  case ay5 =>
    intro wx hSw
    clear hSw
    go_simp
    first | done | (with_reducible rfl)
  (try simp only [Act.put, List.getElem_toArray, List.getElem_cons_succ, List.getElem_cons_zero, List.setIfInBounds_toArray, List.set_cons_zero, List.set_cons_succ])
  refine wpAnyH_take (i := 6) (v := ?av6) rfl (by kernel_rfl) (by kernel_rfl) (by kernel_rfl) (fun _ _ _ h => h) (Or.inl ⟨by rfl, ?ay6⟩) (by assumption) ?ar6
  case ay6 =>
    intro wx hSw
    clear hSw
    go_simp
    first | done | (with_reducible rfl)
  (try simp only [Act.put, List.getElem_toArray, List.getElem_cons_succ, List.getElem_cons_zero, List.setIfInBounds_toArray, List.set_cons_zero, List.set_cons_succ])
  refine wpAnyH_take (i := 7) (v := ?av7) rfl (by kernel_rfl) (by kernel_rfl) (by kernel_rfl) (fun _ _ _ h => h) (Or.inl ⟨by rfl, ?ay7⟩) (by assumption) ?ar7
  case ay7 =>
    intro wx hSw
    clear hSw
    go_simp
    first | done | (with_reducible rfl)
  (try simp only [Act.put, List.getElem_toArray, List.getElem_cons_succ, List.getElem_cons_zero, List.setIfInBounds_toArray, List.set_cons_zero, List.set_cons_succ])
  refine wpAnyH_take (i := 8) (v := ?av8) rfl (by kernel_rfl) (by kernel_rfl) (by kernel_rfl) (fun _ _ _ h => h) (Or.inl ⟨by rfl, ?ay8⟩) (by assumption) ?ar8
  case ay8 =>
    intro wx hSw
    have hcell := SQ.cell hSw Hc.out
    clear hSw
    go_simp
    first | done | (with_reducible rfl)
  (try simp only [Act.put, List.getElem_toArray, List.getElem_cons_succ, List.getElem_cons_zero, List.setIfInBounds_toArray, List.set_cons_zero, List.set_cons_succ])
  refine wpAnyH_ready (rs := [9]) (by kernel_rfl) (by simp) ?_
  refine AllReadyH.cons rfl (fun K hK => ?_) AllReadyH.nil
  go_simp
  go_at_call 144
  refine (HWg.out _ _ hHeld.1).mono ?_
  rintro e w2 ⟨rfl, hb⟩
  refine hK.out _ _ ?_ (fun hHeld1 => ?_)
  · exact SQ.keep hb hHeld
  clear hK K
  (try simp only [Act.put, List.getElem_toArray, List.getElem_cons_succ, List.getElem_cons_zero, List.setIfInBounds_toArray, List.set_cons_zero, List.set_cons_succ])
  obtain ⟨r, hr⟩ := hHeld1.2.1
  refine wpAnyH_ready (rs := [10]) (by kernel_rfl) (by simp) ?_
  refine AllReadyH.cons rfl (fun K hK => ?_) AllReadyH.nil
  rw [if_pos (by rfl)]
  refine wp_store_row 32 _ _ rfl (w.heap.size + 1) (cl P) rfl rfl 32 _ hr info_cs rfl (cl_one P) ?_
  refine hK.out _ _ ?_ (fun hHeld2 => ?_)
  · exact SQ.set HG.out hHeld1 P
  clear hK K
  (try simp only [Act.put, List.getElem_toArray, List.getElem_cons_succ, List.getElem_cons_zero])
  refine wpAnyH_done (by kernel_rfl) ?_ _
  have HR := Lib.hid (And.intro (hr.set P) hHeld2.2.2)
  clear hHeld hHeld1 hHeld2 hr hb
  go_wp2
  exact bodyPost_ret (v := cs P) (ret_cs (q := P) Tryz.results130 _ _ (w.heap.size + 1) (by simp) HR.out.1) rfl ⟨rfl, HR.out.2⟩
set_option maxRecDepth 100000 in
set_option maxHeartbeats 8000000 in
theorem pBetween_any (L : Loc) (W C E : Value) (lo hi : Nat) (hlo : lo < 256) (hhi : hi < 256) (w : World) (hM : LocM w L W C E) :
    Calls Tryz.prog 133 #[.agg (lcl L W C E), .int .u8 lo, .int .u8 hi] w fun e w' => e = .returned (if (vld L).wt lo ≤ (vld L).wt hi then .tuple #[cs (btw (vld L) lo hi), .bool true] else .tuple #[cs fun _ => false, .bool false]) ∧ Below w.heap.size w w' := by
  have hfd1 := fld1
  have HB : Hid (Below w.heap.size w ((w.alloc (.cells (lcl L W C E) 26)).alloc (.cells #[.int .u64 0, .int .u64 0, .int .u64 0, .int .u64 0] 32))) := ((Below.refl _ _).alloc (Nat.le_refl _) _).alloc (by simp) _
  have HA : Hid (At ((w.alloc (.cells (lcl L W C E) 26)).alloc (.cells #[.int .u64 0, .int .u64 0, .int .u64 0, .int .u64 0] 32)) (w.heap.size + 1) (fun _ => false)) := by
    show At _ _ _
    rw [cl_zero]
    have := At.new (w.alloc (.cells (lcl L W C E) 26)) (fun _ => false)
    simpa using this
  have HU := Lib.hid (usable_any L W C E _ (hM.below HB.out))
  have HV := Lib.hid (ok_vld L)
  generalize vld L = V at *
  have HWg := Lib.hid (weighing_any V.wt (V.wt lo) (V.wt hi))
  unfold btw
  generalize hvy V.wt (V.wt lo) (V.wt hi) = P at HWg ⊢
  obtain ⟨X, hX⟩ : ∃ X, V.wt lo = X := ⟨_, rfl⟩
  obtain ⟨Y, hY⟩ : ∃ Y, V.wt hi = Y := ⟨_, rfl⟩
  rw [hX, hY] at HWg ⊢
  have ci : (lo : Int) < 256 := by omega
  have ci0 : (0 : Int) ≤ lo := by omega
  have di : (hi : Int) < 256 := by omega
  have di0 : (0 : Int) ≤ hi := by omega
  obtain ⟨⟨aw, capw, rfl, _⟩, ⟨ac, capc, rfl, _⟩, ⟨ae, cape, rfl, _⟩⟩ := hM
  unfold lcl at HB HU HA ⊢
  unfold cs at HWg ⊢
  by_cases hle : X ≤ Y
  · have hn : ¬ Y < X := by omega
    rw [if_pos hle]
    clear hle
    go_enter Tryz.func133, Tryz.ntmps133
    go_wp2_with (first
      | (go_at_call 136
         refine HU.out.mono ?_
         rintro e w1 ⟨W1, C1, E1, rfl, hm, hb⟩
         have HM1 := Lib.hid hm
         have HB1 := Lib.hid (HB.out.trans (hb.mono HB.out.size))
         have HA1 := Lib.hid (HA.out.below hb HA.out.lt)
         clear hb hm))
    have hcw := HM1.out.1
    obtain ⟨aw1, capw1, rfl, _, hc1⟩ := hcw
    rw [HV.out.nw] at hc1
    rcases hc1 with hc1 | ⟨bw, ow, rfl, hwl, hc1⟩
    · omega
    have hnw : V.nw = 256 := HV.out.nw
    have hsl := HM1.out.1
    rw [hnw] at hsl ⊢
    have HS0 : Hid (SQ w (w.heap.size + 1) V.wt (.slice (some ⟨bw, ow, none⟩) 256 capw1) w1) := ⟨hsl, ⟨_, HA1.out⟩, HB1.out⟩
    have HG : Hid (w.heap.size ≤ w.heap.size + 1) := Nat.le_succ _
    have Hlo := Lib.hid hlo
    have Hhi := Lib.hid hhi
    obtain ⟨x, hx⟩ : ∃ x, V.wt = x := ⟨_, rfl⟩
    rw [hx] at HS0 hX hY HWg
    have k1 := SQ.cell HS0.out Hlo.out
    have k2 := SQ.cell HS0.out Hhi.out
    rw [hX] at k1
    rw [hY] at k2
    have HX := Lib.hid hX
    have HY := Lib.hid hY
    clear hX hY
    clear hsl hc1 hnw HM1 hx hwl hlo hhi HU hfd1 HB HA HB1 HV
    clear HA1
    go_quiet (fail)
    go_wp2
    have HS1 : Hid (SQ w (w.heap.size + 1) x (.slice (some ⟨bw, ow, none⟩) 256 capw1) (w1.drewN nq)) := ⟨HS0.out.1, HS0.out.2.1, below_drewN HS0.out.2.2 _⟩
    clear HS0 k1 k2
    refine wp_region_held_drew (S := fun w' => SQ w (w.heap.size + 1) x (.slice (some ⟨bw, ow, none⟩) 256 capw1) w') (by kernel_rfl) ?_ (fun hHeld => ?_)
    · exact HS1.out.drew
    refine wpAnyH_take (i := 0) (v := ?bv0) rfl (by kernel_rfl) (by kernel_rfl) (by kernel_rfl) (fun _ _ _ h => h) (Or.inl ⟨by rfl, ?by0⟩) (by assumption) ?br0
    case by0 =>
      intro wx hSw
      clear hSw
      go_simp
      first | done | (with_reducible rfl)
    (try simp only [Act.put, List.getElem_toArray, List.getElem_cons_zero, List.setIfInBounds_toArray, List.set_cons_zero, List.set_cons_succ])
    refine wpAnyH_take (i := 1) (v := ?bv1) rfl (by kernel_rfl) (by kernel_rfl) (by kernel_rfl) (fun _ _ _ h => h) (Or.inl ⟨by rfl, ?by1⟩) (by assumption) ?br1
    case by1 =>
      intro wx hSw
      clear hSw
      go_simp
      first | done | (with_reducible rfl)
    (try simp only [Act.put, List.getElem_toArray, List.getElem_cons_succ, List.getElem_cons_zero, List.setIfInBounds_toArray, List.set_cons_zero, List.set_cons_succ])
    refine wpAnyH_take (i := 2) (v := ?bv2) rfl (by kernel_rfl) (by kernel_rfl) (by kernel_rfl) (fun _ _ _ h => h) (Or.inl ⟨by rfl, ?by2⟩) (by assumption) ?br2
    case by2 =>
      intro wx hSw
      clear hSw
      go_simp
      first | done | (with_reducible rfl)
    (try simp only [Act.put, List.getElem_toArray, List.getElem_cons_succ, List.getElem_cons_zero, List.setIfInBounds_toArray, List.set_cons_zero, List.set_cons_succ])
    refine wpAnyH_take (i := 3) (v := ?bv3) rfl (by kernel_rfl) (by kernel_rfl) (by kernel_rfl) (fun _ _ _ h => h) (Or.inl ⟨by rfl, ?by3⟩) (by assumption) ?br3
    case by3 =>
      intro wx hSw
      clear hSw
      go_simp
      first | done | (with_reducible rfl)
    (try simp only [Act.put, List.getElem_toArray, List.getElem_cons_succ, List.getElem_cons_zero, List.setIfInBounds_toArray, List.set_cons_zero, List.set_cons_succ])
    refine wpAnyH_take (i := 4) (v := ?bv4) rfl (by kernel_rfl) (by kernel_rfl) (by kernel_rfl) (fun _ _ _ h => h) (Or.inl ⟨by rfl, ?by4⟩) (by assumption) ?br4
    case by4 =>
      intro wx hSw
      have hcell := HX.out ▸ SQ.cell hSw Hlo.out
      clear hSw
      go_simp
      first | done | (with_reducible rfl)
    (try simp only [Act.put, List.getElem_toArray, List.getElem_cons_succ, List.getElem_cons_zero, List.setIfInBounds_toArray, List.set_cons_zero, List.set_cons_succ])
    refine wpAnyH_take (i := 5) (v := ?bv5) rfl (by kernel_rfl) (by kernel_rfl) (by kernel_rfl) (fun _ _ _ h => h) (Or.inl ⟨by rfl, ?by5⟩) (by assumption) ?br5
    case by5 =>
      intro wx hSw
      clear hSw
      go_simp
      first | done | (with_reducible rfl)
    (try simp only [Act.put, List.getElem_toArray, List.getElem_cons_succ, List.getElem_cons_zero, List.setIfInBounds_toArray, List.set_cons_zero, List.set_cons_succ])
    refine wpAnyH_take (i := 6) (v := ?bv6) rfl (by kernel_rfl) (by kernel_rfl) (by kernel_rfl) (fun _ _ _ h => h) (Or.inl ⟨by rfl, ?by6⟩) (by assumption) ?br6
    case by6 =>
      intro wx hSw
      clear hSw
      go_simp
      first | done | (with_reducible rfl)
    (try simp only [Act.put, List.getElem_toArray, List.getElem_cons_succ, List.getElem_cons_zero, List.setIfInBounds_toArray, List.set_cons_zero, List.set_cons_succ])
    refine wpAnyH_take (i := 7) (v := ?bv7) rfl (by kernel_rfl) (by kernel_rfl) (by kernel_rfl) (fun _ _ _ h => h) (Or.inl ⟨by rfl, ?by7⟩) (by assumption) ?br7
    case by7 =>
      intro wx hSw
      clear hSw
      go_simp
      first | done | (with_reducible rfl)
    (try simp only [Act.put, List.getElem_toArray, List.getElem_cons_succ, List.getElem_cons_zero, List.setIfInBounds_toArray, List.set_cons_zero, List.set_cons_succ])
    refine wpAnyH_take (i := 8) (v := ?bv8) rfl (by kernel_rfl) (by kernel_rfl) (by kernel_rfl) (fun _ _ _ h => h) (Or.inl ⟨by rfl, ?by8⟩) (by assumption) ?br8
    case by8 =>
      intro wx hSw
      have hcell := HY.out ▸ SQ.cell hSw Hhi.out
      clear hSw
      go_simp
      first | done | (with_reducible rfl)
    (try simp only [Act.put, List.getElem_toArray, List.getElem_cons_succ, List.getElem_cons_zero, List.setIfInBounds_toArray, List.set_cons_zero, List.set_cons_succ])
    refine wpAnyH_ready (rs := [9]) (by kernel_rfl) (by simp) ?_
    refine AllReadyH.cons rfl (fun K hK => ?_) AllReadyH.nil
    go_simp
    go_at_call 144
    refine (HWg.out _ _ hHeld.1).mono ?_
    rintro e w2 ⟨rfl, hb⟩
    refine hK.out _ _ ?_ (fun hHeld1 => ?_)
    · exact SQ.keep hb hHeld
    clear hK K
    (try simp only [Act.put, List.getElem_toArray, List.getElem_cons_succ, List.getElem_cons_zero, List.setIfInBounds_toArray, List.set_cons_zero, List.set_cons_succ])
    obtain ⟨r, hr⟩ := hHeld1.2.1
    refine wpAnyH_ready (rs := [10]) (by kernel_rfl) (by simp) ?_
    refine AllReadyH.cons rfl (fun K hK => ?_) AllReadyH.nil
    rw [if_pos (by rfl)]
    refine wp_store_row 32 _ _ rfl (w.heap.size + 1) (cl P) rfl rfl 32 _ hr info_cs rfl (cl_one P) ?_
    refine hK.out _ _ ?_ (fun hHeld2 => ?_)
    · exact SQ.set HG.out hHeld1 P
    clear hK K
    (try simp only [Act.put, List.getElem_toArray, List.getElem_cons_succ, List.getElem_cons_zero])
    refine wpAnyH_take (i := 11) (v := ?bv11) rfl (by kernel_rfl) (by kernel_rfl) (by kernel_rfl) (fun _ _ _ h => h) (Or.inl ⟨by rfl, ?by11⟩) (by assumption) ?br11
    case by11 =>
      intro wx hSw
      clear hSw
      go_simp
      first | done | (with_reducible rfl)
    (try simp only [Act.put, List.getElem_toArray, List.getElem_cons_succ, List.getElem_cons_zero, List.setIfInBounds_toArray, List.set_cons_zero, List.set_cons_succ])
    refine wpAnyH_done (by kernel_rfl) ?_ _
    have HR := Lib.hid (And.intro (hr.set P) hHeld2.2.2)
    clear hHeld hHeld1 hHeld2 hr hb
    go_wp2
    exact bodyPost_ret (ret_cs2 Tryz.results133 _ _ (w.heap.size + 1) P (.bool true) (by simp) (by simp) HR.out.1) rfl ⟨rfl, HR.out.2⟩
  · have hn : Y < X := by omega
    rw [if_neg hle]
    clear hle
    go_enter Tryz.func133, Tryz.ntmps133
    go_wp2_with (first
      | (go_at_call 136
         refine HU.out.mono ?_
         rintro e w1 ⟨W1, C1, E1, rfl, hm, hb⟩
         have HM1 := Lib.hid hm
         have HB1 := Lib.hid (HB.out.trans (hb.mono HB.out.size))
         have HA1 := Lib.hid (HA.out.below hb HA.out.lt)
         clear hb hm))
    have hcw := HM1.out.1
    obtain ⟨aw1, capw1, rfl, _, hc1⟩ := hcw
    rw [HV.out.nw] at hc1
    rcases hc1 with hc1 | ⟨bw, ow, rfl, hwl, hc1⟩
    · omega
    have hnw : V.nw = 256 := HV.out.nw
    have hsl := HM1.out.1
    rw [hnw] at hsl ⊢
    have HS0 : Hid (SQ w (w.heap.size + 1) V.wt (.slice (some ⟨bw, ow, none⟩) 256 capw1) w1) := ⟨hsl, ⟨_, HA1.out⟩, HB1.out⟩
    have HG : Hid (w.heap.size ≤ w.heap.size + 1) := Nat.le_succ _
    have Hlo := Lib.hid hlo
    have Hhi := Lib.hid hhi
    obtain ⟨x, hx⟩ : ∃ x, V.wt = x := ⟨_, rfl⟩
    rw [hx] at HS0 hX hY HWg
    have k1 := SQ.cell HS0.out Hlo.out
    have k2 := SQ.cell HS0.out Hhi.out
    rw [hX] at k1
    rw [hY] at k2
    have HX := Lib.hid hX
    have HY := Lib.hid hY
    clear hX hY
    clear hsl hc1 hnw HM1 hx hwl hlo hhi HU hfd1 HB HA HB1 HV
    obtain ⟨⟨d0, d1⟩, ⟨d2, d3⟩, hg⟩ := HA1.out.words
    go_quiet (fail)
    go_wp2
    rw [put4_zero]
    exact bodyPost_ret (ret_cs2 Tryz.results133 _ _ (w.heap.size + 1) (fun _ => false) (.bool false) (by simp) (by simp) (At.put4 (g := w.heap.size + 1) HA1.out _)) rfl ⟨rfl, below_put4 (below_drewN HS0.out.2.2 _) _ HG.out _⟩
end Go.Proofs.YtphiaagppcbefaaGreatDoor
