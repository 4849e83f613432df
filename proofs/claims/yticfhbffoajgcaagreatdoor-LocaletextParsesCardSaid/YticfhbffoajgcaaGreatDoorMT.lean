/- Several texts in one (a claim has at most 60 files). -/
import Derived.Test.YticfhbffoajgcaaGreatDoorMR
import Derived.Test.YticfhbffoajgcaaGreatDoorMB
import Derived.Test.YticfhbffoajgcaaGreatDoorMS
/- The reference's Parse. (Written by gen_lrp7.py.) -/
set_option linter.unusedVariables false
namespace Go.Proofs.YticfhbffoajgcaaGreatDoor
open Go.RowKit

theorem ret_loc3 {fn : Func} {t0 t1 t2 : Tmp} (hr : fn.results = #[.cell t0 26, .tmp t1, .tmp t2]) (tmps : Array Value) (w : World) (g : Nat) (c : Array Value) (v v2 : Value) (hs : c.size = 6) (hp : tmps.getD t0 undef = .pointer (some ⟨g, 0, none⟩)) (hv : tmps.getD t1 undef = v) (hv2 : tmps.getD t2 undef = v2) (hA : LAt w g c) :
    (results fn tmps).run Tryz.prog w = .ok (.tuple #[.agg c, v, v2]) w := by
  have hp' : tmps[t0]?.getD undef = .pointer (some ⟨g, 0, none⟩) := by simpa using hp
  have hv' : tmps[t1]?.getD undef = v := by simpa using hv
  have hv2' : tmps[t2]?.getD undef = v2 := by simpa using hv2
  have hl := run_loadVar_row (P := Tryz.prog) w g 26 26 c (0, 0) _ hA Tryz.underlying26 rfl (by rw [hs]; exact info_loc)
  simp [results, hr, hp', hv', hv2', asAddr, hl]
theorem LM.start {w : World} {B x y : Nat} (h : w.ownsRow B 3 1 (.slice (some ⟨x, 0, none⟩) 256 y) 256 (nums (idL 256))) : LM (fun g => g = x) w PLdef (.slice (some ⟨x, 0, none⟩) 256 y) (.slice none 0 0) (.slice none 0 0) := by
  obtain ⟨h1, h2⟩ := h
  rcases h2 with ⟨e, h0⟩ | ⟨g, cap, cur, e, _, hg, hn, _, hs, ht⟩
  · cases e
  · simp only [Value.slice.injEq, Option.some.injEq, Addr.mk.injEq, and_true, true_and] at e
    obtain ⟨rfl, rfl⟩ := e
    refine ⟨⟨x, ⟨y, _, rfl, hn, hg, fun j hj => ?_⟩, rfl, (by intro e; cases e), (by intro e; cases e)⟩, World.ownsRow_nil _ _ _ _, World.ownsRow_nil _ _ _ _, (by intro g e; cases e), (by intro g e; cases e), (by intro g e; cases e)⟩
    have h3 := idL_at j hj
    rw [← ht, List.getElem?_take, if_pos (by omega)] at h3
    have h4 : (some (Value.int .i64 (PLdef.wt j))) = some (wtF Ldef j 0) := rfl
    rw [h4, ← h3]
    simp
theorem LM.cut {S : Nat → Prop} {w : World} {L : PL} {W C E : Value} (h : LM S w L W C E) : LM (fun g => S g ∧ g < w.heap.size) w L W C E := by
  obtain ⟨⟨x, h1, h2, h3, h4⟩, h5, h6, h7, h8, h9⟩ := h
  refine ⟨⟨x, h1, ⟨h2, ?_⟩, h3, h4⟩, h5, h6, h7, fun g e => ⟨h8 g e, (h5.lt g e).2⟩, fun g e => ⟨h9 g e, (h6.lt g e).2⟩⟩
  obtain ⟨c0, cs, _, _, hh, _⟩ := h1
  exact (Array.getElem?_eq_some_iff.1 hh).1
theorem parseT_err {s : ByteArray} (hs : s.size ≤ 65536) (m : Nat) {e : Int × Nat} (h : linesT 1 ((lin s.data.toList).take m) (false, PLdef) = .error e) : parseT s.data.toList = .error e := by
  have h2 := linesT_err 1 _ ((lin s.data.toList).drop m) _ _ h
  rw [List.take_append_drop] at h2
  unfold parseT
  rw [if_neg (by rw [size_len]; omega), h2]
/-- The state behind k lines: the result's block, the locale's block, the lines. -/
def RPk (w : World) (T W1 bl ol : Nat) (xs : List (List UInt8)) (k : Nat) (st : Bool) (wr : World) : Prop :=
  ∃ S L W C E, linesT 1 (xs.take k) (false, PLdef) = .ok (st, L) ∧ Below w.heap.size w wr ∧ LAt wr w.heap.size zeroL ∧ LAt wr T #[.string (mk L.name), W, .string (mk L.lower), .string (mk L.upper), C, E] ∧ LM S wr L W C E ∧ Fit L ∧
    (∀ g, S g → W1 ≤ g ∧ g < wr.heap.size ∧ g ≠ T) ∧ (∀ (j : Nat) (h : j < xs.length), wr.cell? ⟨bl, ol + j, none⟩ = some (.string (mk xs[j]))) ∧ w.heap.size < W1 ∧ W1 ≤ T ∧ (0 < xs.length → bl < W1)
theorem RPk.next {w : World} {T W1 bl ol : Nat} {xs : List (List UInt8)} {k : Nat} {st : Bool} {wr wz : World} (h : RPk w T W1 bl ol xs k st wr) (hb : Below wr.heap.size wr wz) : RPk w T W1 bl ol xs k st wz := by
  obtain ⟨S, L, W, C, E, h1, h2, h3, h4, h5, h6, h7, h8, h9, h10, h11⟩ := h
  exact ⟨S, L, W, C, E, h1, h2.trans (hb.mono h2.size), h3.under hb h3.lt, h4.under hb h4.lt, h5.next hb, h6, fun g hg => ⟨(h7 g hg).1, Nat.lt_of_lt_of_le (h7 g hg).2.1 hb.size, (h7 g hg).2.2⟩,
    fun j hj => by rw [hb.cell (by exact lt_of_cell (h8 j hj))]; exact h8 j hj, h9, h10, h11⟩
theorem RPk.skip {w : World} {T W1 bl ol : Nat} {xs : List (List UInt8)} {k : Nat} {st : Bool} {wr : World} (h : RPk w T W1 bl ol xs k st wr) (hk : k < xs.length) (hs : skipT xs[k] = true) : RPk w T W1 bl ol xs (k + 1) st wr := by
  obtain ⟨S, L, W, C, E, h1, h2⟩ := h
  refine ⟨S, L, W, C, E, ?_, h2⟩
  have h3 := linesT_snoc 1 (xs.take k) xs[k] (false, PLdef) _ h1
  rw [← List.take_succ_eq_append_getElem hk, lineT_skip _ _ _ hs] at h3
  exact h3
set_option maxRecDepth 100000 in
set_option maxHeartbeats 8000000 in
theorem rparse_lim (s : ByteArray) (hs : 65536 < s.size) (w : World) :
    Calls Tryz.prog 10 #[.string s] w (ParseEnd w (parseT s.data.toList)) := by
  have hp : parseT s.data.toList = .error (3, 0) := by unfold parseT; rw [if_pos (by rw [size_len]; exact hs)]
  rw [hp]
  have hi : (65536 : Int) < s.size := by omega
  have hz : LAt (w.alloc (.cells zeroL 26)) w.heap.size zeroL := heap_alloc_new w _
  have hb : Below w.heap.size w (w.alloc (.cells zeroL 26)) := (Below.refl _ _).alloc (Nat.le_refl _) _
  clear hp hs
  unfold zeroL at hz hb
  go_enter Tryz.func10, Tryz.ntmps10
  go_upto_region 1 with fail
  generalize (w.alloc (.cells #[.string ⟨#[]⟩, .slice none 0 0, .string ⟨#[]⟩, .string ⟨#[]⟩, .slice none 0 0, .slice none 0 0] 26)) = w1 at hz hb ⊢
  have HZ := Lib.hid hz
  have HB := Lib.hid hb
  obtain ⟨⟨z0, z1, z2⟩, ⟨z3, z4, z5⟩, zf⟩ := LAt.six hz
  clear hz hb
  go_wp2
  exact bodyPost_ret (ret_loc3 Tryz.results10 _ _ w.heap.size _ _ _ rfl (by simp) (by simp) (by simp) (HZ.out.put6 _ _ _ _ _ _)) rfl ⟨below_put6 HB.out _ (Nat.le_refl _) _ _ _ _ _ _, rfl⟩

set_option maxRecDepth 100000 in
set_option maxHeartbeats 8000000 in
theorem rparse_go (s : ByteArray) (hs : s.size ≤ 65536) (w : World) :
    Calls Tryz.prog 10 #[.string s] w (ParseEnd w (parseT s.data.toList)) := by
  obtain ⟨Q, hQ⟩ : ∃ Q, parseT s.data.toList = Q := ⟨_, rfl⟩
  have HQ := Lib.hid hQ
  rw [hQ]
  clear hQ
  have hi : ¬ (65536 : Int) < s.size := by omega
  have Hs := Lib.hid hs
  have hz : LAt (w.alloc (.cells zeroL 26)) w.heap.size zeroL := heap_alloc_new w _
  have hb : Below w.heap.size w (w.alloc (.cells zeroL 26)) := (Below.refl _ _).alloc (Nat.le_refl _) _
  have HLn := Lib.hid (fun w => rlines_any s w (by omega))
  have HDf := Lib.hid rdefault_own
  clear hs
  unfold zeroL at hz hb
  go_enter Tryz.func10, Tryz.ntmps10
  go_upto_region 1 with fail
  generalize (w.alloc (.cells #[.string ⟨#[]⟩, .slice none 0 0, .string ⟨#[]⟩, .string ⟨#[]⟩, .slice none 0 0, .slice none 0 0] 26)) = w0 at hz hb ⊢
  have HZ0 := Lib.hid hz
  have HB0 := Lib.hid hb
  clear hz hb
  obtain ⟨Lo, hLo⟩ : ∃ Lo, mk (lowL 256) = Lo := ⟨_, rfl⟩
  obtain ⟨Up, hUp⟩ : ∃ Up, mk (upL 256) = Up := ⟨_, rfl⟩
  have hdl : ∀ W C E, lcl Ldef W C E = #[.string psx, W, .string Lo, .string Up, C, E] := fun W C E => by rw [← hLo, ← hUp]; rfl
  simp only [hdl] at HDf
  have HLo := Lib.hid hLo
  have HUp := Lib.hid hUp
  clear hdl hLo hUp
  go_upto_region 5 with (first
    | (go_at_call 31
       refine (HLn.out _).mono ?_
       rintro e w1 ⟨v, rfl, hsa, hb⟩
       have HSa := Lib.hid hsa
       have HB1 := Lib.hid (HB0.out.trans (hb.mono HB0.out.size))
       have HZ1 := Lib.hid (HZ0.out.under hb HZ0.out.lt)
       clear hsa hb)
    | (go_at_call 21
       refine (HDf.out _).mono ?_
       rintro e w2 ⟨x, y, hx, rfl, hown, hb⟩
       have HX := Lib.hid hx
       have HO := Lib.hid hown
       have HB2 := Lib.hid (HB1.out.trans (hb.mono HB1.out.size))
       have HBd := Lib.hid hb
       have HZ2 := Lib.hid (HZ1.out.under hb HZ1.out.lt)
       clear hx hown hb))
  have hb3 : Below w2.heap.size w2 (w2.alloc (.cells #[.string psx, .slice (some ⟨x, 0, none⟩) 256 y, .string Lo, .string Up, .slice none 0 0, .slice none 0 0] 26)) := (Below.refl _ _).alloc (Nat.le_refl _) _
  have ht3 : LAt (w2.alloc (.cells #[.string psx, .slice (some ⟨x, 0, none⟩) 256 y, .string Lo, .string Up, .slice none 0 0, .slice none 0 0] 26)) w2.heap.size #[.string psx, .slice (some ⟨x, 0, none⟩) 256 y, .string Lo, .string Up, .slice none 0 0, .slice none 0 0] := heap_alloc_new w2 _
  obtain ⟨av, cv, rfl, hcv, hat⟩ := HSa.out
  obtain ⟨xs, hxs⟩ : ∃ xs, lin s.data.toList = xs := ⟨_, rfl⟩
  obtain ⟨bl, ol, hbl⟩ : ∃ bl ol, (0 < xs.length → av = some ⟨bl, ol, none⟩ ∧ bl < w1.heap.size) ∧ ∀ (j : Nat) (h : j < xs.length), w1.cell? ⟨bl, ol + j, none⟩ = some (.string (mk xs[j])) := by
    rw [hxs] at hat
    rcases hat with h0 | ⟨b, o, h1, h2, h3⟩
    · refine ⟨0, 0, ⟨fun h => ?_, fun j h => ?_⟩⟩
      · rw [h0] at h; cases h
      · rw [h0] at h; cases h
    · exact ⟨b, o, ⟨fun _ => ⟨h1, h2⟩, fun j h => h3 j _ (List.getElem?_eq_getElem h)⟩⟩
  have hw1 : w.heap.size < w1.heap.size := HZ1.out.lt
  have hxl : x < w2.heap.size := (HO.out.lt x rfl).2
  have hw12 := HBd.out.size
  have H0 : Hid (RPk w w2.heap.size w1.heap.size bl ol xs 0 false (w2.alloc (.cells #[.string psx, .slice (some ⟨x, 0, none⟩) 256 y, .string Lo, .string Up, .slice none 0 0, .slice none 0 0] 26))) := by
    refine ⟨fun g => g = x, PLdef, .slice (some ⟨x, 0, none⟩) 256 y, .slice none 0 0, .slice none 0 0, rfl, HB2.out.trans (hb3.mono HB2.out.size), HZ2.out.under hb3 HZ2.out.lt, ?_, (LM.start HO.out).next hb3, Fit.def, fun g hg => ?_, fun j hj => ?_, hw1, hw12, fun h => (hbl.1 h).2⟩
    · rw [← HLo.out, ← HUp.out] at ht3 ⊢
      exact ht3
    · subst hg
      have := hb3.size
      have := HX.out
      exact ⟨by omega, by omega, by omega⟩
    · have h1 := hbl.2 j hj
      have h2 : bl < w1.heap.size := (hbl.1 (by omega)).2
      rw [hb3.cell (by show bl < w2.heap.size; omega), HBd.out.cell (by exact h2)]
      exact h1
  have HXs := Lib.hid hxs
  have HLm : Hid (∀ x ∈ xs, x.length ≤ 65536) := fun x hx => by
    rw [← hxs] at hx
    have h1 := sum_mem _ x hx
    have h2 := (lin_le s.data.toList).2
    rw [size_len] at h2
    have := Hs.out
    omega
  obtain ⟨n, hn⟩ : ∃ n, xs.length = n := ⟨_, rfl⟩
  have hn9 : n ≤ 65537 := by
    have h1 := (lin_le s.data.toList).1
    rw [size_len, hxs, hn] at h1
    have := Hs.out
    omega
  have HBl := Lib.hid hbl.1
  rw [hxs, hn] at hcv ⊢
  have HN := Lib.hid hn
  generalize (w2.alloc (.cells #[.string psx, .slice (some ⟨x, 0, none⟩) 256 y, .string Lo, .string Up, .slice none 0 0, .slice none 0 0] 26)) = w3 at H0 ⊢
  generalize w2.heap.size = T at H0 ⊢
  generalize w1.heap.size = W1 at H0 HBl
  clear hb3 ht3 hat hbl hxs hn hw1 hxl hw12 HZ2 HZ1 HB2 HB1 HBd HSa HO HX HZ0 HB0 HLo HUp
  go_wp2
  go_loopw [8, 9] (fun f i wr => ∃ (k : Nat) (st : Bool), k ≤ n ∧ f = .bool (!st) ∧ i = .int .i64 k ∧ Hid (RPk w T W1 bl ol xs k st wr)) (fun _ i _ => n - (intOf i).toNat)
  case atStart => exact ⟨0, false, Nat.zero_le _, rfl, rfl, H0.out⟩
  case round =>
    obtain ⟨k, st, hk, rfl, rfl, HR⟩ := hrel
    clear H0
    by_cases hkn : k < n
    · have ki : (k : Int) < n := by omega
      have ki0 : (0 : Int) ≤ k := by omega
      have hkx : k < xs.length := by rw [HN.out]; exact hkn
      obtain ⟨rfl, hbW⟩ := HBl.out (by omega)
      have ck : wr.cell? ⟨bl, ol + k, none⟩ = some (.string (mk xs[k])) := by
        obtain ⟨S, L, W, C, E, h1, h2, h3, h4, h5, h6, h7, h8, h9⟩ := HR.out
        exact h8 k hkx
      have hxk := HLm.out _ (List.getElem_mem hkx)
      have hkw : IntKind.i64.wrap ((k : Int) + 1) = ((k + 1 : Nat) : Int) := by rw [IntWalk.i64_in _ (by omega)]; omega
      obtain ⟨x, hx⟩ : ∃ x, xs[k] = x := ⟨_, rfl⟩
      have HXk := Lib.hid hx
      rw [hx] at ck hxk
      clear hx
      have HWd := Lib.hid (fun w => rwords_own (mk x) w (by rw [mk_size]; omega))
      rw [mk_data] at HWd
      have HWm := Lib.hid (wds_mem x)
      have hwc := wds_count x
      obtain ⟨ws, hws⟩ : ∃ ws, wds x = ws := ⟨_, rfl⟩
      rw [hws] at HWd HWm hwc
      have HWs := Lib.hid hws
      clear hws
      cases ws with
      | nil =>
        --B1(
        have hskip : skipT x = true := by unfold skipT; rw [HWs.out]; rfl
        have HSk := Lib.hid hskip
        generalize mk x = X at ck HWd
        clear hskip
        go_wp2_with (first
          | (go_at_call 32
             refine (HWd.out _).mono ?_
             rintro e w4 ⟨v, rfl, hsv, hb, hnew⟩
             have HB4 := Lib.hid hb
             obtain ⟨a4, c4, rfl, hc4, hat4⟩ := hsv
             clear hb hc4 hat4 hnew))
        go_roundw
        case rel => exact ⟨k + 1, st, by omega, rfl, by go_num, (HR.out.next HB4.out).skip hkx (by rw [HXk.out]; exact HSk.out)⟩
        case measure => simp [intOf]; omega
        --B1)
      | cons kw rs =>
        have hne : x ≠ [] := by
          intro e
          have := HWs.out
          rw [e] at this
          cases this
        have hpos : 0 < (mk x).size := by rw [mk_size]; exact List.length_pos_iff.2 hne
        obtain ⟨c, hc⟩ : ∃ c, ((mk x)[0]'hpos).toNat = c := ⟨_, rfl⟩
        have hh := head_eq x hpos c hc
        by_cases hsharp : c = 35
        · --B2(
          have hskip : skipT x = true := by unfold skipT; rw [hh, hsharp]; simp
          have HSk := Lib.hid hskip
          have hcd : ((c : Int) == 35) = true := by simp; omega
          have HCm := Lib.hid ck
          obtain ⟨m1, hm1⟩ : ∃ m1, (kw :: rs).length = m1 := ⟨_, rfl⟩
          have hm2 : ((m1 : Int) == 0) = false := by simp; rw [← hm1]; simp
          have HM1 := Lib.hid hm1
          generalize mk x = X at ck HWd hpos hc HCm
          have hpi : (0 : Int) < X.size := by omega
          clear hskip hsharp hh hne hm1
          go_wp2_with (first
            | (go_at_call 32
               refine (HWd.out _).mono ?_
               rintro e w4 ⟨v, rfl, hsv, hb, hnew⟩
               have HB4 := Lib.hid hb
               obtain ⟨a4, c4, rfl, hc4, hat4⟩ := hsv
               rw [HM1.out]
               have ck4 : w4.cell? ⟨bl, ol + k, none⟩ = some (.string X) := by rw [hb.cell (by exact lt_of_cell HCm.out)]; exact HCm.out
               clear hb hc4 hat4 hnew ck))
          go_roundw
          case rel => exact ⟨k + 1, st, by omega, rfl, by go_num, (HR.out.next HB4.out).skip hkx (by rw [HXk.out]; exact HSk.out)⟩
          case measure => simp [intOf]; omega
          --B2)
        · have hskip : skipT x = false := by
            unfold skipT
            rw [hh, HWs.out]
            simp [hsharp]
          have HLe : Hid (∀ L, linesT 1 (xs.take k) (false, PLdef) = .ok (st, L) → linesT 1 (xs.take (k + 1)) (false, PLdef) = match entryT st L kw rs with
              | .error e => .error (e, k + 1)
              | .ok L' => .ok (true, L')) := fun L h1 => by
            have h3 := linesT_snoc 1 (xs.take k) xs[k] (false, PLdef) _ h1
            rw [← List.take_succ_eq_append_getElem hkx, List.length_take, Nat.min_eq_left (Nat.le_of_lt hkx), Nat.add_comm 1 k, HXk.out, lineT_entry (k + 1) (st, L) x kw rs hskip HWs.out] at h3
            rw [h3]
            cases entryT st L kw rs <;> rfl
          have hcd : ((c : Int) == 35) = false := by simp; omega
          have HCm := Lib.hid ck
          have hrs : rs.length ≤ 900000 := by simp at hwc; omega
          have HWr : Hid (∀ y ∈ rs, 0 < y.length ∧ y.length ≤ 1000000) := fun y hy => by
            have := HWm.out y (List.mem_cons_of_mem _ hy)
            omega
          obtain ⟨m1, hm1⟩ : ∃ m1, (kw :: rs).length = m1 := ⟨_, rfl⟩
          have hm2 : ((m1 : Int) == 0) = false := by simp; rw [← hm1]; simp
          have hm3 : rs.length + 1 = m1 := by rw [← hm1]; simp
          have HM1 := Lib.hid hm1
          have HM3 := Lib.hid hm3
          generalize mk x = X at ck HWd hpos hc HCm
          have hpi : (0 : Int) < X.size := by omega
          clear hskip hsharp hh hne hm1 hm3
          obtain ⟨S, L1, W, C, E, hlin, hB, hz, ht, hM, hF, hS, hA, hw1, hwT, hbl1⟩ := HR.out
          obtain ⟨aC, capC, rfl⟩ := own_form hM.cls
          obtain ⟨aE, capE, rfl⟩ := own_form hM.els
          obtain ⟨xw, ⟨cw, cells, rfl, hcw, hxw, hxf⟩, hxS, hxC, hxE⟩ := hM.wts
          have HLi := Lib.hid (HLe.out L1 hlin)
          have HB := Lib.hid hB
          have HZ := Lib.hid hz
          have HT := Lib.hid ht
          have HM := Lib.hid hM
          have HF := Lib.hid hF
          have HS := Lib.hid hS
          have HA := Lib.hid hA
          have HWw := Lib.hid (⟨hw1, hwT, hbl1 (by omega)⟩ : w.heap.size < W1 ∧ W1 ≤ T ∧ bl < W1)
          clear HLe HR hlin hB hz ht hM hF hS hA hw1 hwT hbl1 hcw hxw hxf hxS hxC hxE
          go_upto_region 11 with (first
            | (go_at_call 32
               refine (HWd.out _).mono ?_
               rintro e w4 ⟨v, rfl, hsv, hb, hnew⟩
               have HB4 := Lib.hid hb
               obtain ⟨a4, c4, rfl, hc4, hat4⟩ := hsv
               obtain ⟨bw, ow, rfl, hbw, hcw⟩ : ∃ b o, a4 = some ⟨b, o, none⟩ ∧ b < w4.heap.size ∧ ∀ (j : Nat) (x : List UInt8), (kw :: rs)[j]? = some x → w4.cell? ⟨b, o + j, none⟩ = some (.string (mk x)) := by
                 rcases hat4 with h | h
                 · cases h
                 · exact h
               have HWR : Hid (WR w4 bw ow (kw :: rs)) := ⟨hbw, fun j hj => hcw j _ (List.getElem?_eq_getElem hj)⟩
               have HNw : Hid (wr.heap.size ≤ bw) := hnew _ _ _ rfl
               have HC5 : Hid (rs.length + 1 ≤ c4) := by show rs.length + 1 ≤ c4; simpa using hc4
               rw [HM1.out]
               have ck4 : w4.cell? ⟨bl, ol + k, none⟩ = some (.string X) := by rw [hb.cell (by exact lt_of_cell HCm.out)]; exact HCm.out
               clear hb hc4 hat4 hnew ck hbw hcw))
          clear ck4
          have ht4 := HT.out.under HB4.out HT.out.lt
          have hTl : T < w4.heap.size := ht4.lt
          have hE := rentry_any S bw ow c4 w4 L1 (.slice (some ⟨xw, 0, none⟩) 256 cw) (.slice aC L1.cls.length capC) (.slice aE L1.els.length capE) (HM.out.next HB4.out) (fun g hg => Nat.lt_of_lt_of_le (HS.out g hg).2.1 HB4.out.size) (fun e => by have h1 := (HS.out bw e).2.1; have h2 := HNw.out; omega) kw rs HWR.out HC5.out hrs HWr.out HF.out st
          rw [HM3.out] at hE
          have hb04 : Below w.heap.size w w4 := HB.out.trans (HB4.out.mono HB.out.size)
          have HB04 := Lib.hid hb04
          have HTl := Lib.hid hTl
          have HT4 := Lib.hid ht4
          have HZ4 := Lib.hid (HZ.out.under HB4.out HZ.out.lt)
          have HSz := Lib.hid HB4.out.size
          cases hq : entryT st L1 kw rs with
          | error x1 =>
            --B6(
            rw [hq] at hE
            have HE := Lib.hid hE
            have hx0 := entryT_ne hq
            have hx1 : (x1 != 0) = true := by rw [bne, hx0]; rfl
            have hli := HLi.out
            rw [hq] at hli
            have hpe : Q = .error (x1, k + 1) := by
              rw [← HQ.out]
              exact parseT_err Hs.out (k + 1) (by rw [HXs.out]; exact hli)
            have HPE := Lib.hid hpe
            obtain ⟨⟨y0, y1, y2⟩, ⟨y3, y4, y5⟩, yf⟩ := ht4.six
            clear hq hE hli hpe ht4 hTl hb04
            go_upto_region 12 with (first
              | (go_at_call 33
                 refine HE.out.mono ?_
                 rintro e w5 ⟨s0, s2, s3, W', C', E', rfl, ⟨pW, nW, cW, rfl⟩, ⟨pC, nC, cC, rfl⟩, ⟨pE, nE, cE, rfl⟩, hk5, -⟩
                 have HK5 := Lib.hid hk5
                 have ht5 : LAt w5 T #[.string (mk L1.name), .slice (some ⟨xw, 0, none⟩) 256 cw, .string (mk L1.lower), .string (mk L1.upper), .slice aC L1.cls.length capC, .slice aE L1.els.length capE] := (hk5.block T HTl.out (fun e => (HS.out T e).2.2 rfl)).trans HT4.out
                 clear y0 y1 y2 y3 y4 y5 yf
                 obtain ⟨⟨y0, y1, y2⟩, ⟨y3, y4, y5⟩, yf⟩ := ht5.six
                 simp only [codeR]
                 clear hk5 ht5))
            have hb6 : Below w.heap.size w (put6 w5 T (.string s0) (.slice pW nW cW) (.string s2) (.string s3) (.slice pC nC cC) (.slice pE nE cE)) :=
              below_put6 (HB04.out.trans (HK5.out.below HB04.out.size (fun g hg => by have := (HS.out g hg).1; have := HWw.out.1; omega))) T (by have := HWw.out; omega) _ _ _ _ _ _
            have hz6 : LAt (put6 w5 T (.string s0) (.slice pW nW cW) (.string s2) (.string s3) (.slice pC nC cC) (.slice pE nE cE)) w.heap.size zeroL :=
              (put6_far w5 T w.heap.size (by have := HWw.out; omega) _ _ _ _ _ _).trans ((HK5.out.block w.heap.size HZ4.out.lt (fun e => by have := (HS.out _ e).1; have := HWw.out.1; omega)).trans HZ4.out)
            unfold put6 at hb6 hz6
            generalize ((((((w5.setCell ⟨T, 0, none⟩ (.string s0)).setCell ⟨T, 1, none⟩ (.slice pW nW cW)).setCell ⟨T, 2, none⟩ (.string s2)).setCell ⟨T, 3, none⟩ (.string s3)).setCell ⟨T, 4, none⟩ (.slice pC nC cC)).setCell ⟨T, 5, none⟩ (.slice pE nE cE)) = w6 at hb6 hz6 ⊢
            have HB6 := Lib.hid hb6
            have HZ6 := Lib.hid hz6
            clear y0 y1 y2 y3 y4 y5 yf
            obtain ⟨⟨z0, z1, z2⟩, ⟨z3, z4, z5⟩, zf⟩ := LAt.six hz6
            clear hb6 hz6
            go_wp2
            exact bodyPost_ret (ret_loc3 Tryz.results10 _ _ w.heap.size _ (.int .i64 x1) (.int .i64 ((k + 1 : Nat) : Int)) rfl (by simp) (by simp) (by simp) (HZ6.out.put6 _ _ _ _ _ _)) rfl ⟨below_put6 HB6.out _ (Nat.le_refl _) _ _ _ _ _ _, by rw [HPE.out]; rfl⟩

            --B6)
          | ok L' =>
            --B7(
            rw [hq] at hE
            have HE := Lib.hid hE
            have hli := HLi.out
            rw [hq] at hli
            have HLi2 := Lib.hid hli
            have HF2 := Lib.hid (HF.out.entry hq)
            obtain ⟨⟨y0, y1, y2⟩, ⟨y3, y4, y5⟩, yf⟩ := ht4.six
            clear hq hE hli ht4 hTl hb04
            go_upto_region 12 with (first
              | (go_at_call 33
                 refine HE.out.mono ?_
                 rintro e w5 ⟨s0, s2, s3, W', C', E', rfl, ⟨pW, nW, cW, rfl⟩, ⟨pC, nC, cC, rfl⟩, ⟨pE, nE, cE, rfl⟩, hk5, hL5⟩
                 obtain ⟨rfl, rfl, rfl, hM5⟩ := hL5 L' rfl
                 have HM5 := Lib.hid hM5
                 have HK5 := Lib.hid hk5
                 have ht5 : LAt w5 T #[.string (mk L1.name), .slice (some ⟨xw, 0, none⟩) 256 cw, .string (mk L1.lower), .string (mk L1.upper), .slice aC L1.cls.length capC, .slice aE L1.els.length capE] := (hk5.block T HTl.out (fun e => (HS.out T e).2.2 rfl)).trans HT4.out
                 have HT5 := Lib.hid ht5
                 clear y0 y1 y2 y3 y4 y5 yf
                 obtain ⟨⟨y0, y1, y2⟩, ⟨y3, y4, y5⟩, yf⟩ := ht5.six
                 simp only [codeR]
                 clear hk5 ht5 hL5 hM5))
            have hww := HWw.out
            have hs5 := HK5.out.size
            have htl := HTl.out
            have hsz4 := HSz.out
            have hlw := HB04.out.size
            have hb5 : Below w.heap.size w w5 := HB04.out.trans (HK5.out.below hlw (fun g hg => by have := (HS.out g hg).1; omega))
            have hb6 : Below w.heap.size w (put6 w5 T (.string (mk L'.name)) (.slice pW nW cW) (.string (mk L'.lower)) (.string (mk L'.upper)) (.slice pC nC cC) (.slice pE nE cE)) := below_put6 hb5 T (by omega) _ _ _ _ _ _
            have hz5 : LAt w5 w.heap.size zeroL := (HK5.out.block w.heap.size HZ4.out.lt (fun e => by have := (HS.out _ e).1; omega)).trans HZ4.out
            have hz6 : LAt (put6 w5 T (.string (mk L'.name)) (.slice pW nW cW) (.string (mk L'.lower)) (.string (mk L'.upper)) (.slice pC nC cC) (.slice pE nE cE)) w.heap.size zeroL := (put6_far w5 T w.heap.size (by omega) _ _ _ _ _ _).trans hz5
            have ht6 : LAt (put6 w5 T (.string (mk L'.name)) (.slice pW nW cW) (.string (mk L'.lower)) (.string (mk L'.upper)) (.slice pC nC cC) (.slice pE nE cE)) T #[.string (mk L'.name), .slice pW nW cW, .string (mk L'.lower), .string (mk L'.upper), .slice pC nC cC, .slice pE nE cE] := HT5.out.put6 _ _ _ _ _ _
            have hsT : ∀ g, grow S w4 g ∧ g < w5.heap.size → W1 ≤ g ∧ g ≠ T := fun g hg => by
              rcases hg.1 with h | h
              · exact ⟨(HS.out g h).1, (HS.out g h).2.2⟩
              · exact ⟨by omega, by omega⟩
            have hm6 : LM (fun g => grow S w4 g ∧ g < w5.heap.size) (put6 w5 T (.string (mk L'.name)) (.slice pW nW cW) (.string (mk L'.lower)) (.string (mk L'.upper)) (.slice pC nC cC) (.slice pE nE cE)) L' (.slice pW nW cW) (.slice pC nC cC) (.slice pE nE cE) := HM5.out.cut.same (fun g hg _ => put6_far w5 T g (hsT g hg).2 _ _ _ _ _ _)
            have hc6 : ∀ (j : Nat) (h : j < xs.length), (World.cell? (put6 w5 T (.string (mk L'.name)) (.slice pW nW cW) (.string (mk L'.lower)) (.string (mk L'.upper)) (.slice pC nC cC) (.slice pE nE cE)) ⟨bl, ol + j, none⟩) = some (.string (mk xs[j])) := fun j hj => by
              have h1 := HA.out j hj
              have h2 : bl < wr.heap.size := lt_of_cell h1
              have h3 : w4.cell? ⟨bl, ol + j, none⟩ = some (.string (mk xs[j])) := (HB4.out.cell (p := ⟨bl, ol + j, none⟩) (by exact h2)).trans h1
              have h4 : w5.heap[bl]? = w4.heap[bl]? := HK5.out.block bl (by omega) (fun e => by have := (HS.out _ e).1; omega)
              have h5 : w5.cell? ⟨bl, ol + j, none⟩ = some (.string (mk xs[j])) := (World.cell?_of_block (w := w4) (a := ⟨bl, ol + j, none⟩) h4).trans h3
              have h6 := put6_far w5 T bl (by omega) (.string (mk L'.name)) (.slice pW nW cW) (.string (mk L'.lower)) (.string (mk L'.upper)) (.slice pC nC cC) (.slice pE nE cE)
              exact (World.cell?_of_block (w := w5) (a := ⟨bl, ol + j, none⟩) h6).trans h5
            have hli3 : linesT 1 (xs.take (k + 1)) (false, PLdef) = .ok (true, L') := HLi2.out
            have hfin : RPk w T W1 bl ol xs (k + 1) true (put6 w5 T (.string (mk L'.name)) (.slice pW nW cW) (.string (mk L'.lower)) (.string (mk L'.upper)) (.slice pC nC cC) (.slice pE nE cE)) :=
              ⟨_, L', _, _, _, hli3, hb6, hz6, ht6, hm6, HF2.out, fun g hg => ⟨(hsT g hg).1, by rw [put6_size]; exact hg.2, (hsT g hg).2⟩, hc6, hww.1, hww.2.1, fun _ => hww.2.2⟩
            clear hww hs5 htl hsz4 hlw hb5 hb6 hz5 hz6 ht6 hsT hm6 hc6 hli3
            unfold put6 at hfin
            generalize ((((((w5.setCell ⟨T, 0, none⟩ (.string (mk L'.name))).setCell ⟨T, 1, none⟩ (.slice pW nW cW)).setCell ⟨T, 2, none⟩ (.string (mk L'.lower))).setCell ⟨T, 3, none⟩ (.string (mk L'.upper))).setCell ⟨T, 4, none⟩ (.slice pC nC cC)).setCell ⟨T, 5, none⟩ (.slice pE nE cE)) = w6 at hfin ⊢
            have HFin := Lib.hid hfin
            clear y0 y1 y2 y3 y4 y5 yf hfin
            go_wp2
            go_roundw
            case rel => exact ⟨k + 1, true, by omega, rfl, by go_num, HFin.out⟩
            case measure => simp [intOf]; omega
            --B7)
    · obtain rfl : k = n := by omega
      obtain ⟨S, L1, W, C, E, hlin, hB, hz, ht, hM, hF, hS, hA, hw1, hwT, hbl1⟩ := HR.out
      rw [List.take_of_length_le (by rw [HN.out]; exact Nat.le_refl _)] at hlin
      have HB := Lib.hid hB
      have HZ := Lib.hid hz
      cases st with
      | false =>
        --B4(
        have hpe : Q = .error (1, k + 1) := by
          rw [← HQ.out]
          unfold parseT
          rw [if_neg (by have := Hs.out; rw [size_len]; omega), HXs.out, hlin]
          simp only [HN.out, Bool.false_eq_true, if_false]
        have HPE := Lib.hid hpe
        have hkw : IntKind.i64.wrap ((k : Int) + 1) = ((k + 1 : Nat) : Int) := by rw [IntWalk.i64_in _ (by omega)]; omega
        obtain ⟨⟨z0, z1, z2⟩, ⟨z3, z4, z5⟩, zf⟩ := LAt.six hz
        clear hlin hB hz ht hM hF hS hA hw1 hwT hbl1 hpe HR HBl HN
        go_wp2
        exact bodyPost_ret (ret_loc3 Tryz.results10 _ _ w.heap.size _ (.int .i64 1) (.int .i64 ((k + 1 : Nat) : Int)) rfl (by simp) (by simp) (by simp) (HZ.out.put6 _ _ _ _ _ _)) rfl ⟨below_put6 HB.out _ (Nat.le_refl _) _ _ _ _ _ _, by rw [HPE.out]; rfl⟩

        --B4)
      | true =>
        --B5(
        obtain ⟨aC, capC, rfl⟩ := own_form hM.cls
        obtain ⟨aE, capE, rfl⟩ := own_form hM.els
        obtain ⟨xw, ⟨cw, cells, rfl, hcw, hxw, hxf⟩, hxS, hxC, hxE⟩ := hM.wts
        have hpe : Q = .ok L1 := by
          rw [← HQ.out]
          unfold parseT
          rw [if_neg (by have := Hs.out; rw [size_len]; omega), HXs.out, hlin]
          simp only [if_true]
        have HPE := Lib.hid hpe
        have HM := Lib.hid hM
        have HF := Lib.hid hF
        have HSg : Hid (∀ g, S g → w.heap.size < g) := fun g hg => by have := (hS g hg).1; omega
        obtain ⟨⟨z0, z1, z2⟩, ⟨z3, z4, z5⟩, zf⟩ := LAt.six hz
        obtain ⟨⟨y0, y1, y2⟩, ⟨y3, y4, y5⟩, yf⟩ := ht.six
        clear hlin hB hz ht hM hF hS hA hw1 hwT hbl1 hpe HR HBl HN hcw hxw hxf hxS hxC hxE
        go_wp2
        exact bodyPost_ret (ret_loc3 Tryz.results10 _ _ w.heap.size _ (.int .i64 0) (.int .i64 0) rfl (by simp) (by simp) (by simp) (HZ.out.put6 _ _ _ _ _ _)) rfl ⟨below_put6 HB.out _ (Nat.le_refl _) _ _ _ _ _ _, by rw [HPE.out]; exact ⟨_, _, _, rfl, ⟨S, HM.out.same (fun g hg _ => put6_far _ _ g (by have := HSg.out g hg; omega) _ _ _ _ _ _), fun g hg => by have := HSg.out g hg; omega⟩, HF.out⟩⟩
        --B5)
theorem rParse_any (s : ByteArray) (w : World) : Calls Tryz.prog 10 #[.string s] w (ParseEnd w (parseT s.data.toList)) := by
  rcases Nat.lt_or_ge 65536 s.size with h | h
  · exact rparse_lim s h w
  · exact rparse_go s h w
end Go.Proofs.YticfhbffoajgcaaGreatDoor
/- The law on Parse of locale tables. (Written by gen_lrp8.py.) -/
set_option linter.unusedVariables false
set_option maxRecDepth 100000
namespace Go.Proofs.YticfhbffoajgcaaGreatDoor
open Go.RowKit

/-! ### What both return, in one form -/
def noLoc : Loc := { name := mk [], lower := mk [], upper := mk [], nw := 0, wt := fun _ => 0, nc := 0, cn := fun _ => mk [], cset := fun _ _ => false, ne := 0, et := fun _ => mk [], ew := fun _ => 0 }
def locOf (r : Except (Int × Nat) PL) : Loc := match r with
  | .ok L => toLoc 256 L
  | .error _ => noLoc
def erOf (r : Except (Int × Nat) PL) : Int := match r with
  | .ok _ => 0
  | .error e => e.1
def atOf (r : Except (Int × Nat) PL) : Nat := match r with
  | .ok _ => 0
  | .error e => e.2
abbrev Parsed (F : FuncId) (s : ByteArray) (P : Loc) (ev av : Int) : Prop := ∀ w, Calls Tryz.prog F #[.string s] w fun e w' => ∃ W C E, e = .returned (.tuple #[.agg #[.string P.name, W, .string P.lower, .string P.upper, C, E], .int .i64 ev, .int .i64 av]) ∧ LocM w' P W C E ∧ (P.nw < 2 ^ 62 ∧ P.nc < 2 ^ 62 ∧ P.ne < 2 ^ 62) ∧ Below w.heap.size w w'
theorem parse_uni (F : FuncId) (s : ByteArray) (r : Except (Int × Nat) PL) (hF : ∀ w, Calls Tryz.prog F #[.string s] w (ParseEnd w r)) : Parsed F s (locOf r) (erOf r) (atOf r) := by
  intro w
  refine (hF w).mono ?_
  rintro e w' ⟨hb, h⟩
  cases r with
  | ok L =>
    obtain ⟨W, C, E, rfl, ⟨S, hm, _⟩, hf⟩ := h
    have h1 := hf.cls
    have h2 := hf.els
    exact ⟨W, C, E, rfl, hm.loc, ⟨by show 256 < 2 ^ 62; omega, by show L.cls.length < 2 ^ 62; omega, by show L.els.length < 2 ^ 62; omega⟩, hb⟩
  | error x =>
    subst h
    exact ⟨.slice none 0 0, .slice none 0 0, .slice none 0 0, rfl, ⟨⟨none, 0, rfl, Nat.le_refl _, .inl rfl⟩, ⟨none, 0, rfl, Nat.le_refl _, .inl rfl⟩, ⟨none, 0, rfl, Nat.le_refl _, .inl rfl⟩⟩, ⟨by show 0 < 2 ^ 62; omega, by show 0 < 2 ^ 62; omega, by show 0 < 2 ^ 62; omega⟩, hb⟩
set_option maxHeartbeats 8000000 in
theorem pa_law (s : ByteArray) (P : Loc) (ev av : Int) (H1 : Hid (Parsed 9 s P ev av)) (H2 : Hid (Parsed 10 s P ev av)) (w : World) (HT : Hid (tabAt w)) :
    Calls Tryz.prog 3 #[.string s] w fun e w' => e = .returned (.bool true) ∧ Below w.heap.size w w' := by
  go_enter Tryz.func3, Tryz.ntmps3
  go_wp2_with (first
    | (go_at_call 9
       with_reducible refine (H1.out _).mono ?_
       rintro e w6 ⟨W1, C1, E1, rfl, hm, hP1, hb⟩
       have hm' := hm
       obtain ⟨⟨aw1, cw1, rfl, _⟩, ⟨ac1, cc1, rfl, _⟩, ⟨ae1, ce1, rfl, _⟩⟩ := hm'
       have hx : Below w6.heap.size w6 (w6.alloc (.cells #[.string P.name, .slice aw1 P.nw cw1, .string P.lower, .string P.upper, .slice ac1 P.nc cc1, .slice ae1 P.ne ce1] 26)) := (Below.refl _ _).alloc (Nat.le_refl _) _
       have HA6 : Hid (LAt (w6.alloc (.cells #[.string P.name, .slice aw1 P.nw cw1, .string P.lower, .string P.upper, .slice ac1 P.nc cc1, .slice ae1 P.ne ce1] 26)) w6.heap.size #[.string P.name, .slice aw1 P.nw cw1, .string P.lower, .string P.upper, .slice ac1 P.nc cc1, .slice ae1 P.ne ce1]) := heap_alloc_new w6 _
       have HX6 := Lib.hid hx
       have HM6 := Lib.hid (hm.below hx)
       have HB6 := Lib.hid (hb.trans (hx.mono hb.size))
       clear hx hm hb)
    | (go_at_call 10
       with_reducible refine (H2.out _).mono ?_
       rintro e w8 ⟨W2, C2, E2, rfl, hm, hP2, hb⟩
       have hm' := hm
       obtain ⟨⟨aw2, cw2, rfl, _⟩, ⟨ac2, cc2, rfl, _⟩, ⟨ae2, ce2, rfl, _⟩⟩ := hm'
       have hx : Below w8.heap.size w8 (w8.alloc (.cells #[.string P.name, .slice aw2 P.nw cw2, .string P.lower, .string P.upper, .slice ac2 P.nc cc2, .slice ae2 P.ne ce2] 26)) := (Below.refl _ _).alloc (Nat.le_refl _) _
       have HA8 : Hid (LAt (w8.alloc (.cells #[.string P.name, .slice aw2 P.nw cw2, .string P.lower, .string P.upper, .slice ac2 P.nc cc2, .slice ae2 P.ne ce2] 26)) w8.heap.size #[.string P.name, .slice aw2 P.nw cw2, .string P.lower, .string P.upper, .slice ac2 P.nc cc2, .slice ae2 P.ne ce2]) := heap_alloc_new w8 _
       have HM8 := Lib.hid (hm.below hx)
       have hl8 := Nat.lt_of_lt_of_le HA6.out.lt hb.size
       have HA8b := Lib.hid ((HA6.out.under hb HA6.out.lt).under hx hl8)
       have HM8b := Lib.hid ((HM6.out.below hb).below hx)
       have HB8 := Lib.hid ((HB6.out.trans (hb.mono HB6.out.size)).trans (hx.mono (Nat.le_trans HB6.out.size hb.size)))
       obtain ⟨⟨x0, x1, x2⟩, ⟨x3, x4, x5⟩, hf⟩ := HA8b.out.six
       obtain ⟨⟨y0, y1, y2⟩, ⟨y3, y4, y5⟩, hg⟩ := HA8.out.six
       clear hx hm hb hf hg)
    | (go_at_call 11
       refine (sl_any P hP1.1 hP1.2.1 hP1.2.2 _ _ _ _ _ _ _ HM8b.out HM8.out).mono ?_
       rintro e w9 ⟨rfl, hb⟩
       have HB9 := Lib.hid (HB8.out.trans (hb.mono HB8.out.size))
       have HT9 := Lib.hid (tab_keep HT.out HB9.out)
       clear hb)
    | (go_at_call 12
       refine (ltAwake_any _ HT9.out).mono ?_
       rintro e w10 ⟨rfl, hb⟩
       have HB10 := Lib.hid (HB9.out.trans (hb.mono HB9.out.size))
       clear hb)
    )
  go_ret
  exact ⟨rfl, HB10.out⟩
theorem parses_law (s : ByteArray) (w : World) (hT : tabAt w) :
    Calls Tryz.prog 3 #[.string s] w fun e w' => e = .returned (.bool true) ∧ Below w.heap.size w w' :=
  pa_law s _ _ _ (Lib.hid (parse_uni _ s _ (ltParse_any s))) (Lib.hid (parse_uni _ s _ (rParse_any s))) w (Lib.hid hT)
end Go.Proofs.YticfhbffoajgcaaGreatDoor
