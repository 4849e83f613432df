/- Several texts in one (a claim has at most 60 files). -/
import Derived.Test.YtblaldcioneooaaDoorMG
import Derived.Test.YtblaldcioneooaaDoorMB
/- What is read is valid: in mathematics. -/
set_option linter.unusedVariables false
namespace Go.Proofs.YtblaldcioneooaaDoor
open Go.RowKit

theorem any_not {α : Type} [BEq (List UInt8)] [LawfulBEq (List UInt8)] (l : List (List UInt8 × α)) (x : List UInt8) (h : l.any (fun c => c.1 == x) = false) : x ∉ l.map (·.1) := by
  intro hm
  obtain ⟨c, hc, e⟩ := List.mem_map.1 hm
  rw [List.any_eq_false] at h
  exact h c hc (beq_iff_eq.2 e)
theorem nodup_snoc {l : List (List UInt8)} {x : List UInt8} (h : l.Nodup) (hx : x ∉ l) : (l ++ [x]).Nodup := by
  rw [List.nodup_append]
  refine ⟨h, by simp, ?_⟩
  intro a ha b hb e
  simp at hb
  subst hb
  exact hx (e ▸ ha)
theorem VP.def : VP PLdef := ⟨(by decide), (fun j hj => (by show 0 ≤ (j : Int) ∧ (j : Int) ≤ 65535; omega)), lowL_len 256, upL_len 256, (fun c hc => (by cases hc)), (by decide), (by decide), (fun c hc => (by cases hc)), (by decide), (by decide)⟩
theorem VP.entry {st : Bool} {L L' : PL} {k : List UInt8} {r : List (List UInt8)} (hF : VP L) (h : entryT st L k r = .ok L') : VP L' := by
  rcases entryT_cases h with ⟨x, h⟩ | ⟨y, h⟩ | ⟨x, y, h⟩ | ⟨x, y, h⟩ | ⟨x, t, h⟩ | ⟨x, y, z, h⟩
  · obtain ⟨h1, rfl⟩ := beginT_ok h
    exact ⟨h1, hF.wt, hF.lo, hF.up, hF.cn, hF.cd, hF.cl, hF.et, hF.ed, hF.le⟩
  · obtain ⟨b, v, h1, h2, rfl⟩ := weighT_ok h
    refine ⟨hF.nm, fun j hj => ?_, hF.lo, hF.up, hF.cn, hF.cd, hF.cl, hF.et, hF.ed, hF.le⟩
    have h3 := numT_lt h2
    show 0 ≤ (if b.contains j then (v : Int) else L.wt j) ∧ (if b.contains j then (v : Int) else L.wt j) ≤ 65535
    split
    · omega
    · exact hF.wt j hj
  · obtain ⟨t, h1, rfl⟩ := lowT_ok h
    exact ⟨hF.nm, hF.wt, (tabT_len h1).trans hF.lo, hF.up, hF.cn, hF.cd, hF.cl, hF.et, hF.ed, hF.le⟩
  · obtain ⟨t, h1, rfl⟩ := upT_ok h
    exact ⟨hF.nm, hF.wt, hF.lo, (tabT_len h1).trans hF.up, hF.cn, hF.cd, hF.cl, hF.et, hF.ed, hF.le⟩
  · obtain ⟨h1, h2, h3, p, h4, rfl⟩ := classT_ok h
    refine ⟨hF.nm, hF.wt, hF.lo, hF.up, fun c hc => ?_, ?_, ?_, hF.et, hF.ed, hF.le⟩
    · rcases List.mem_append.1 hc with hc | hc
      · exact hF.cn c hc
      · simp at hc; subst hc; exact h1
    · show ((L.cls ++ [(x, p)]).map (·.1)).Nodup
      rw [List.map_append]
      exact nodup_snoc hF.cd (any_not L.cls x h2)
    · show (L.cls ++ [(x, p)]).length ≤ 24
      rw [List.length_append]; simp; omega
  · obtain ⟨a, b, v, h1, h2, h3, h4, h5, rfl⟩ := elemT_ok h
    refine ⟨hF.nm, hF.wt, hF.lo, hF.up, hF.cn, hF.cd, hF.cl, fun c hc => ?_, ?_, ?_⟩
    · rcases List.mem_append.1 hc with hc | hc
      · exact hF.et c hc
      · simp at hc; subst hc
        have := numT_lt h3
        exact ⟨rfl, by show (0 : Int) ≤ (v : Int); omega, by show (v : Int) ≤ 65535; omega⟩
    · show ((L.els ++ [(pairT a b, (v : Int))]).map (·.1)).Nodup
      rw [List.map_append]
      exact nodup_snoc hF.ed (any_not L.els _ h4)
    · show (L.els ++ [(pairT a b, (v : Int))]).length ≤ 64
      rw [List.length_append]; simp; omega
theorem VP.line {n : Nat} {s t : Bool × PL} {l : List UInt8} (hF : VP s.2) (h : lineT n s l = .ok t) : VP t.2 := by
  unfold lineT at h
  split at h
  · cases h; exact hF
  · split at h
    · cases h; exact hF
    · split at h
      · cases h
      · rename_i he
        cases h
        exact hF.entry he
theorem VP.lines : ∀ (a : List (List UInt8)) {n : Nat} {s t : Bool × PL}, VP s.2 → linesT n a s = .ok t → VP t.2
  | [], n, s, t, hF, h => by cases h; exact hF
  | l :: r, n, s, t, hF, h => by
    unfold linesT at h
    split at h
    · cases h
    · rename_i he
      exact VP.lines r (hF.line he) h
theorem VP.parse {l : List UInt8} {P : PL} (h : parseT l = .ok P) : VP P := by
  unfold parseT at h
  split at h
  · cases h
  · split at h
    · cases h
    · rename_i he
      split at h
      · cases h
        exact VP.lines _ VP.def he
      · cases h
/-- Where an error is. -/
theorem parse_at {l : List UInt8} {e : Int × Nat} (h : parseT l = .error e) : e.1 ≠ 0 ∧ ((1 ≤ e.2 ∧ e.2 ≤ (lin l).length + 1) ∨ (e.2 = 0 ∧ 65536 < l.length)) := by
  unfold parseT at h
  split at h
  · rename_i hl
    cases h; exact ⟨by decide, .inr ⟨rfl, hl⟩⟩
  · split at h
    · rename_i he
      cases h
      have := linesT_pos _ he
      exact ⟨this.2.2, .inl ⟨this.1, by omega⟩⟩
    · split at h
      · cases h
      · cases h
        exact ⟨(by decide : (1 : Int) ≠ 0), .inl ⟨by show 1 ≤ (lin l).length + 1; omega, Nat.le_refl _⟩⟩
end Go.Proofs.YtblaldcioneooaaDoor
/- The law on what is read. (Written by gen_ltlaw2.py.) -/
set_option linter.unusedVariables false
set_option maxRecDepth 100000
namespace Go.Proofs.YtblaldcioneooaaDoor
open Go.RowKit

set_option maxHeartbeats 8000000 in
theorem rd_at (s : ByteArray) (e1 : Int) (k : Nat) (n : Nat) (bl : Bool) (hne : e1 ≠ 0) (h1 : 1 ≤ k) (h2 : k ≤ n + 1) (hn : n ≤ 5000000000)
    (H1 : Hid (∀ w, Calls Tryd.prog 22 #[.string s] w fun e w' => e = .returned (.tuple #[.agg zeroL, .int .i64 e1, .int .i64 (k : Int)]) ∧ Below w.heap.size w w'))
    (H2 : Hid (∀ w, Calls Tryd.prog 24 #[.string s] w fun e w' => ∃ a c, e = .returned (.tuple #[.slice a n c, .bool bl]) ∧ Below w.heap.size w w')) (w : World) (hT : tabAt w) :
    Calls Tryd.prog 6 #[.string s] w fun e w' => e = .returned (.bool true) ∧ Below w.heap.size w w' := by
  have HT := Lib.hid hT
  have HAw := Lib.hid ltAwake_any
  have hn1 : (e1 != 0) = true := by simpa using hne
  unfold zeroL at H1
  have i1 : (1 : Int) ≤ (k : Int) := by omega
  have i2 : (k : Int) ≤ (n : Int) + 1 := by omega
  have i3 : (n : Int) ≤ 5000000000 := by omega
  clear h1 h2
  clear hT
  go_enter Tryd.func6, Tryd.ntmps6
  go_wp2_with (first
    | (go_at_call 22
       refine (H1.out _).mono ?_
       rintro e w1 ⟨rfl, hb⟩
       have HB1 : Hid (Below w.heap.size w (w1.alloc (.cells #[.string ⟨#[]⟩, .slice none 0 0, .string ⟨#[]⟩, .string ⟨#[]⟩, .slice none 0 0, .slice none 0 0] 26))) := hb.alloc hb.size _
       clear hb)
    | (go_at_call 24
       refine (H2.out _).mono ?_
       rintro e w2 ⟨a2, c2, rfl, hb⟩
       have HB2 := Lib.hid (HB1.out.trans (hb.mono HB1.out.size))
       clear hb)
    | (go_at_call 21
       refine (HAw.out _ (tab_keep HT.out HB2.out)).mono ?_
       rintro e w3 ⟨rfl, hb⟩
       have HB3 := Lib.hid (HB2.out.trans (hb.mono HB2.out.size))
       clear hb))
  go_ret
  exact ⟨rfl, HB3.out⟩
set_option maxHeartbeats 8000000 in
theorem rd_long (s : ByteArray) (e1 : Int) (k : Nat) (n : Nat) (bl : Bool) (hne : e1 ≠ 0) (h1 : k = 0) (h2 : 65536 < s.size) (hn : n ≤ 5000000000)
    (H1 : Hid (∀ w, Calls Tryd.prog 22 #[.string s] w fun e w' => e = .returned (.tuple #[.agg zeroL, .int .i64 e1, .int .i64 (k : Int)]) ∧ Below w.heap.size w w'))
    (H2 : Hid (∀ w, Calls Tryd.prog 24 #[.string s] w fun e w' => ∃ a c, e = .returned (.tuple #[.slice a n c, .bool bl]) ∧ Below w.heap.size w w')) (w : World) (hT : tabAt w) :
    Calls Tryd.prog 6 #[.string s] w fun e w' => e = .returned (.bool true) ∧ Below w.heap.size w w' := by
  have HT := Lib.hid hT
  have HAw := Lib.hid ltAwake_any
  have hn1 : (e1 != 0) = true := by simpa using hne
  unfold zeroL at H1
  have i2 : (65536 : Int) < (s.size : Int) := by omega
  have i3 : (n : Int) ≤ 5000000000 := by omega
  subst h1
  clear h2
  clear hT
  go_enter Tryd.func6, Tryd.ntmps6
  go_wp2_with (first
    | (go_at_call 22
       refine (H1.out _).mono ?_
       rintro e w1 ⟨rfl, hb⟩
       have HB1 : Hid (Below w.heap.size w (w1.alloc (.cells #[.string ⟨#[]⟩, .slice none 0 0, .string ⟨#[]⟩, .string ⟨#[]⟩, .slice none 0 0, .slice none 0 0] 26))) := hb.alloc hb.size _
       clear hb)
    | (go_at_call 24
       refine (H2.out _).mono ?_
       rintro e w2 ⟨a2, c2, rfl, hb⟩
       have HB2 := Lib.hid (HB1.out.trans (hb.mono HB1.out.size))
       clear hb)
    | (go_at_call 21
       refine (HAw.out _ (tab_keep HT.out HB2.out)).mono ?_
       rintro e w3 ⟨rfl, hb⟩
       have HB3 := Lib.hid (HB2.out.trans (hb.mono HB2.out.size))
       clear hb))
  go_ret
  exact ⟨rfl, HB3.out⟩
set_option maxHeartbeats 16000000 in
theorem rd_ok (s : ByteArray) (L : Loc) (hv : VL L)
    (H1 : Hid (∀ w, Calls Tryd.prog 22 #[.string s] w fun e w' => ∃ aw cw ac cc ae ce, e = .returned (.tuple #[.agg #[.string L.name, .slice aw 256 cw, .string L.lower, .string L.upper, .slice ac L.nc cc, .slice ae L.ne ce], .int .i64 0, .int .i64 0]) ∧ LocM w' L (.slice aw 256 cw) (.slice ac L.nc cc) (.slice ae L.ne ce) ∧ Below w.heap.size w w')) (w : World) (hT : tabAt w) :
    Calls Tryd.prog 6 #[.string s] w fun e w' => e = .returned (.bool true) ∧ Below w.heap.size w w' := by
  have HT := Lib.hid hT
  have hCk := pCheck_any L
  rw [(VL.iff L).2 hv] at hCk
  have HCk := Lib.hid hCk
  have HFo := Lib.hid (format_ok L hv)
  have HPb := Lib.hid (parse_back L hv)
  have HAw := Lib.hid ltAwake_any
  have HSl := Lib.hid (sl_any L (by rw [hv.nw]; decide) (by have := hv.nc; omega) (by have := hv.ne; omega))
  obtain ⟨S, hS⟩ : ∃ S, mk (fmtL (ofLoc L)) = S := ⟨_, rfl⟩
  rw [hS] at HFo HPb
  have hl : ∀ aw cw ac cc ae ce, lcl L (.slice aw 256 cw) (.slice ac L.nc cc) (.slice ae L.ne ce) = #[.string L.name, .slice aw 256 cw, .string L.lower, .string L.upper, .slice ac L.nc cc, .slice ae L.ne ce] := fun aw cw ac cc ae ce => rfl
  unfold lcl at HCk HFo HSl
  clear hT hCk hS hl
  go_enter Tryd.func6, Tryd.ntmps6
  go_wp2_with (first
    | (go_at_call 22
       with_reducible refine (H1.out _).mono ?_
       rintro e w1 ⟨aw, cw, ac, cc, ae, ce, rfl, hm1, hb⟩
       have HBx : Hid (Below w1.heap.size w1 (w1.alloc (.cells #[.string L.name, .slice aw 256 cw, .string L.lower, .string L.upper, .slice ac L.nc cc, .slice ae L.ne ce] 26))) := (Below.refl _ _).alloc (Nat.le_refl _) _
       have HB1 : Hid (Below w.heap.size w (w1.alloc (.cells #[.string L.name, .slice aw 256 cw, .string L.lower, .string L.upper, .slice ac L.nc cc, .slice ae L.ne ce] 26))) := hb.trans (HBx.out.mono hb.size)
       have HA1 : Hid (LAt (w1.alloc (.cells #[.string L.name, .slice aw 256 cw, .string L.lower, .string L.upper, .slice ac L.nc cc, .slice ae L.ne ce] 26)) w1.heap.size #[.string L.name, .slice aw 256 cw, .string L.lower, .string L.upper, .slice ac L.nc cc, .slice ae L.ne ce]) := heap_alloc_new w1 _
       have HM1 := Lib.hid (hm1.below HBx.out)
       clear hb hm1
       obtain ⟨⟨x0, x1, x2⟩, ⟨x3, x4, x5⟩, xf⟩ := HA1.out.six)
    | (go_at_call 19
       refine (HFo.out _ _ _ _ HM1.out (tab_keep HT.out HB1.out)).mono ?_
       rintro e w2 ⟨rfl, hb⟩
       have HB2 := Lib.hid (HB1.out.trans (hb.mono HB1.out.size))
       have HA2 := Lib.hid (HA1.out.under hb HA1.out.lt)
       have HM2 := Lib.hid (HM1.out.below hb)
       clear x0 x1 x2 x3 x4 x5 xf hb
       obtain ⟨⟨x0, x1, x2⟩, ⟨x3, x4, x5⟩, xf⟩ := HA2.out.six)
    | (go_at_call 22
       with_reducible refine (HPb.out _).mono ?_
       rintro e w3 ⟨aw2, cw2, ac2, cc2, ae2, ce2, rfl, hm3, hb⟩
       have HB3 := Lib.hid (HB2.out.trans (hb.mono HB2.out.size))
       have HA3 := Lib.hid (HA2.out.under hb HA2.out.lt)
       have HM3 := Lib.hid hm3
       have HBy : Hid (Below w3.heap.size w3 (w3.alloc (.cells #[.string L.name, .slice aw2 256 cw2, .string L.lower, .string L.upper, .slice ac2 L.nc cc2, .slice ae2 L.ne ce2] 26))) := (Below.refl _ _).alloc (Nat.le_refl _) _
       have HA4 : Hid (LAt (w3.alloc (.cells #[.string L.name, .slice aw2 256 cw2, .string L.lower, .string L.upper, .slice ac2 L.nc cc2, .slice ae2 L.ne ce2] 26)) w3.heap.size #[.string L.name, .slice aw2 256 cw2, .string L.lower, .string L.upper, .slice ac2 L.nc cc2, .slice ae2 L.ne ce2]) := heap_alloc_new w3 _
       have HAx := Lib.hid (HA3.out.under HBy.out HA3.out.lt)
       have HB4 := Lib.hid (HB3.out.trans (HBy.out.mono HB3.out.size))
       have HMx := Lib.hid ((HM2.out.below hb).below HBy.out)
       have HMy := Lib.hid (HM3.out.below HBy.out)
       clear x0 x1 x2 x3 x4 x5 xf hb hm3
       obtain ⟨⟨x0, x1, x2⟩, ⟨x3, x4, x5⟩, xf⟩ := HAx.out.six
       obtain ⟨⟨y0, y1, y2⟩, ⟨y3, y4, y5⟩, yf⟩ := HA4.out.six)
    | (go_at_call 20
       refine (HCk.out _ _ _ _ HMx.out).mono ?_
       rintro e w5 ⟨rfl, hb⟩
       have HB5 := Lib.hid (HB4.out.trans (hb.mono HB4.out.size))
       have HA5 := Lib.hid (HAx.out.under hb HAx.out.lt)
       have HA6 := Lib.hid (HA4.out.under hb HA4.out.lt)
       have HM5 := Lib.hid (HMx.out.below hb)
       have HM6 := Lib.hid (HMy.out.below hb)
       clear x0 x1 x2 x3 x4 x5 xf y0 y1 y2 y3 y4 y5 yf hb
       obtain ⟨⟨x0, x1, x2⟩, ⟨x3, x4, x5⟩, xf⟩ := HA5.out.six
       obtain ⟨⟨y0, y1, y2⟩, ⟨y3, y4, y5⟩, yf⟩ := HA6.out.six)
    | (go_at_call 23
       refine (HSl.out _ _ _ _ _ _ _ HM5.out HM6.out).mono ?_
       rintro e w7 ⟨rfl, hb⟩
       have HB7 := Lib.hid (HB5.out.trans (hb.mono HB5.out.size))
       clear hb)
    | (go_at_call 21
       refine (HAw.out _ (tab_keep HT.out HB7.out)).mono ?_
       rintro e w8 ⟨rfl, hb⟩
       have HB8 := Lib.hid (HB7.out.trans (hb.mono HB7.out.size))
       clear hb))
  go_ret
  exact ⟨rfl, HB8.out⟩
theorem reads_law (s : ByteArray) (hs : s.size ≤ 4294967280) (w : World) (hT : tabAt w) :
    Calls Tryd.prog 6 #[.string s] w fun e w' => e = .returned (.bool true) ∧ Below w.heap.size w w' := by
  cases hr : parseT s.data.toList with
  | ok P =>
    have hv := (VP.parse hr).vl
    refine rd_ok s (toLoc 256 P) hv (fun w => (ltParse_any s w).mono fun e w' h => ?_) w hT
    obtain ⟨hb, h⟩ := h
    rw [hr] at h
    obtain ⟨W, C, E, he, ⟨S, hm, _⟩, hf⟩ := h
    have hM := hm.loc
    obtain ⟨⟨aw, cw, rfl, -⟩, ⟨ac, cc, rfl, -⟩, ⟨ae, ce, rfl, -⟩⟩ := hM
    exact ⟨aw, cw, ac, cc, ae, ce, he, hm.loc, hb⟩
  | error x =>
    obtain ⟨h0, h1⟩ := parse_at hr
    have H1 : Hid (∀ w, Calls Tryd.prog 22 #[.string s] w fun e w' => e = .returned (.tuple #[.agg zeroL, .int .i64 x.1, .int .i64 (x.2 : Int)]) ∧ Below w.heap.size w w') := fun w => (ltParse_any s w).mono fun e w' h => by
      obtain ⟨hb, h⟩ := h
      rw [hr] at h
      exact ⟨h, hb⟩
    have H2 : Hid (∀ w, Calls Tryd.prog 24 #[.string s] w fun e w' => ∃ a c, e = .returned (.tuple #[.slice a (lin s.data.toList).length c, .bool (lend s.data.toList)]) ∧ Below w.heap.size w w') := fun w => (rlines_any s w hs).mono fun e w' h => by
      obtain ⟨v, he, ⟨a, c, rfl, _⟩, hb⟩ := h
      exact ⟨a, c, he, hb⟩
    have hll := (lin_le s.data.toList).1
    have hsz : s.data.toList.length = s.size := size_len s
    rcases h1 with ⟨h1, h2⟩ | ⟨h1, h2⟩
    · exact rd_at s x.1 x.2 (lin s.data.toList).length (lend s.data.toList) h0 h1 h2 (by omega) H1 H2 w hT
    · exact rd_long s x.1 x.2 (lin s.data.toList).length (lend s.data.toList) h0 h1 (by omega) (by omega) H1 H2 w hT
end Go.Proofs.YtblaldcioneooaaDoor
