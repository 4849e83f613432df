/- Several texts in one (a claim has at most 60 files). -/
import Derived.Test.YtblaldcioneooaaDoorMC

/- The law on skipped lines: a remark, an error before it. (Written by gen_ltsk.py.) -/
set_option linter.unusedVariables false
set_option maxRecDepth 100000
namespace Go.Proofs.YtblaldcioneooaaDoor
open Go.RowKit

set_option maxHeartbeats 8000000 in
theorem sk_hash_2 (s t J : ByteArray) (i n : Nat) (av a2 : Int) (X : List (List UInt8)) (b : Bool) (P : Loc) (ev : Int) (hev : ev ≠ 0) (hav : ¬ (i : Int) < av) (ha2 : a2 = av) (ht : t.toList.isEmpty = false) (K : ByteArray) (hK : (⟨#[35]⟩ : ByteArray) ++ t = K) (hn : X.length = n) (hi : i < n) (hn2 : n ≤ 100000) (hs : s.size ≤ 64534) (htz : t.size ≤ 1000) (hav1 : 0 ≤ av) (hav2 : av ≤ 100000)
    (H1 : Hid (Lined s X b)) (H2 : Hid (∀ w, Calls Tryd.prog 24 #[.string K] w fun e w' => ∃ b' b2 o2 c2, e = .returned (.tuple #[.slice (some ⟨b2, o2, none⟩) 1 c2, .bool b']) ∧ w'.cell? ⟨b2, o2, none⟩ = some (.string K) ∧ Below w.heap.size w w'))
    (H3 : Hid (∀ v w, SA w v (X.take i ++ (35 :: t.data.toList) :: X.drop i) → Calls Tryd.prog 25 #[v, .bool b] w fun e w' => e = .returned (.string J) ∧ Below w.heap.size w w'))
    (H4 : Hid (Parsed s P ev av)) (H5 : Hid (Parsed J P ev a2)) (w : World) (HT : Hid (tabAt w)) :
    Calls Tryd.prog 7 #[.string s, .int .i64 i, .string t] w fun e w' => e = .returned (.bool true) ∧ Below w.heap.size w w' := by
  subst ha2
  have e0 : decide (ev = 0) = false := decide_eq_false hev
  have e1 := decide_eq_false hav
  have i0 : ¬ (i : Int) < 0 := by omega
  have i1 : ¬ (n : Int) ≤ i := by omega
  have i5 : (0 : Int) ≤ i := by omega
  have i6 : (i : Int) ≤ n := by omega
  have i2 : ¬ (1000 : Int) < t.size := by omega
  have i3 : ¬ (64534 : Int) < s.size := by omega
  have i4 : ¬ (9223372036854775807 : Int) < 1 + t.size := by omega
  have d0 : decide ((i : Int) < 0) = false := decide_eq_false i0
  have d1 : decide ((n : Int) ≤ i) = false := decide_eq_false i1
  have d2 : decide ((1000 : Int) < t.size) = false := decide_eq_false i2
  have d3 : decide ((64534 : Int) < s.size) = false := decide_eq_false i3
  have HK : Hid (([.string K] : List Value) = strs3 [(35 :: t.data.toList)]) := by show _ = _; rw [show strs3 [35 :: t.data.toList] = [.string (mk (35 :: t.data.toList))] from rfl, mk_hash, hK]
  have htl : (X.take i).length = i := by rw [List.length_take]; omega
  have hdl : (X.drop i).length = n - i := by rw [List.length_drop]; omega
  go_enter Tryd.func7, Tryd.ntmps7
  go_wp2_with (first
    | (go_at_call 24
       with_reducible refine (H1.out _).mono ?_
       rintro e w1 ⟨v, rfl, hs1, hb⟩
       have HB1 := Lib.hid hb
       obtain ⟨a0, c0, hv0, hc0, hx0⟩ := hs1
       rw [hn] at hv0 hc0
       subst hv0
       have hx1 := hx0.resolve_left (by intro h; rw [h] at hn; simp at hn; omega)
       obtain ⟨b1, o1, rfl, hl1, hcl⟩ := hx1
       have HL1 := Lib.hid hl1
       have HC1 := Lib.hid hcl
       have HA1 := Lib.hid (take_cells hcl i)
       have HD1 := Lib.hid (drop_cells hcl i)
       have HO1 : Hid (w1.ownsRow w1.heap.size 9 1 (.slice none 0 0) 0 (strs3 [])) := World.ownsRow_nil _ _ _ _
       clear hx0 hl1 hcl hb)
    | (at_builtin
       refine app_sl rfl (.tmp 43) (.tmp 46) rfl w1.heap.size _ 0 [] (X.take i) b1 o1 i c0 rfl rfl HO1.out htl HA1.out (Nat.le_refl _) (by omega) ?_
       intro v2 w2 hown hb
       rw [Nat.zero_add, List.nil_append] at hown
       have HO2 := Lib.hid hown
       have HB2 := Lib.hid (hb w1 (Below.refl _ _))
       clear hown hb)
    | (go_at_call 24
       refine (H2.out _).mono ?_
       rintro e w3 ⟨b', b2, o2, c2, rfl, hk2, hb⟩
       have HB3 := Lib.hid (HB2.out.trans (hb.mono HB2.out.size))
       have HO3 := Lib.hid (own_keep HO2.out hb)
       clear hb)
    | (at_builtin
       refine app_lit 30 9 (.string ByteArray.empty) 16 Tryd.underlying30 tinfoS rfl w3 rfl (.tmp 73) (.tmp 75) rfl w1.heap.size v2 i 1 _ [.string K] rfl rfl HO3.out rfl rfl ?c1 HB3.out.size ?c2 ?c3 ?_
       case c1 => simp [Value.oneCell']
       case c2 => unfold maxLen; omega
       case c3 => omega
       intro v4 w4 hown hb
       have HO4 := Lib.hid (own_sapp (r := [(35 :: t.data.toList)]) hown HK.out)
       have HB4 := Lib.hid (hb w1 HB3.out)
       clear hown hb)
    | (at_builtin
       refine app_sl rfl (.tmp 77) (.tmp 80) rfl w1.heap.size v4 (i + 1) _ (X.drop i) b1 (o1 + i) (n - i) (c0 - i) rfl rfl HO4.out hdl (fun j x hj => (HB4.out.cell (by exact HL1.out)).trans (HD1.out j x hj)) HB4.out.size (by omega) ?_
       intro v5 w5 hown hb
       have HO5 := Lib.hid hown
       have HB5 := Lib.hid (hb w1 HB4.out)
       clear hown hb)
    | (go_at_call 22
       with_reducible refine (H4.out _).mono ?_
       rintro e w6 ⟨W1, C1, E1, rfl, hm, hP1, hb⟩
       have hm' := hm
       obtain ⟨⟨aw1, cw1, rfl, _⟩, ⟨ac1, cc1, rfl, _⟩, ⟨ae1, ce1, rfl, _⟩⟩ := hm'
       have hx : Below w6.heap.size w6 (w6.alloc (.cells #[.string P.name, .slice aw1 P.nw cw1, .string P.lower, .string P.upper, .slice ac1 P.nc cc1, .slice ae1 P.ne ce1] 26)) := (Below.refl _ _).alloc (Nat.le_refl _) _
       have HA6 : Hid (LAt (w6.alloc (.cells #[.string P.name, .slice aw1 P.nw cw1, .string P.lower, .string P.upper, .slice ac1 P.nc cc1, .slice ae1 P.ne ce1] 26)) w6.heap.size #[.string P.name, .slice aw1 P.nw cw1, .string P.lower, .string P.upper, .slice ac1 P.nc cc1, .slice ae1 P.ne ce1]) := heap_alloc_new w6 _
       have HX6 := Lib.hid hx
       have HM6 := Lib.hid (hm.below hx)
       have HB6 := Lib.hid ((HB5.out.trans (hb.mono HB5.out.size)).trans (hx.mono (Nat.le_trans HB5.out.size hb.size)))
       have HO6 := Lib.hid (own_keep (own_keep HO5.out hb) hx)
       have HS6 := Lib.hid (sa_own HO6.out)
       clear hx hm hb)
    | (go_at_call 25
       refine (H3.out v5 _ (by have := HS6.out; rwa [List.append_assoc] at this)).mono ?_
       rintro e w7 ⟨rfl, hb⟩
       have HB7 := Lib.hid (HB6.out.trans (hb.mono HB6.out.size))
       have HA7 := Lib.hid (HA6.out.under hb HA6.out.lt)
       have HM7 := Lib.hid (HM6.out.below hb)
       have HN7 := Lib.hid (Nat.lt_of_lt_of_le HA6.out.lt hb.size)
       clear hb)
    | (go_at_call 22
       with_reducible refine (H5.out _).mono ?_
       rintro e w8 ⟨W2, C2, E2, rfl, hm, hP2, hb⟩
       have hm' := hm
       obtain ⟨⟨aw2, cw2, rfl, _⟩, ⟨ac2, cc2, rfl, _⟩, ⟨ae2, ce2, rfl, _⟩⟩ := hm'
       have hx : Below w8.heap.size w8 (w8.alloc (.cells #[.string P.name, .slice aw2 P.nw cw2, .string P.lower, .string P.upper, .slice ac2 P.nc cc2, .slice ae2 P.ne ce2] 26)) := (Below.refl _ _).alloc (Nat.le_refl _) _
       have HA8 : Hid (LAt (w8.alloc (.cells #[.string P.name, .slice aw2 P.nw cw2, .string P.lower, .string P.upper, .slice ac2 P.nc cc2, .slice ae2 P.ne ce2] 26)) w8.heap.size #[.string P.name, .slice aw2 P.nw cw2, .string P.lower, .string P.upper, .slice ac2 P.nc cc2, .slice ae2 P.ne ce2]) := heap_alloc_new w8 _
       have HM8 := Lib.hid (hm.below hx)
       have hl8 := Nat.lt_of_lt_of_le HN7.out hb.size
       have HA8b := Lib.hid ((HA7.out.under hb HN7.out).under hx hl8)
       have HM8b := Lib.hid ((HM7.out.below hb).below hx)
       have HB8 := Lib.hid ((HB7.out.trans (hb.mono HB7.out.size)).trans (hx.mono (Nat.le_trans HB7.out.size hb.size)))
       obtain ⟨⟨x0, x1, x2⟩, ⟨x3, x4, x5⟩, hf⟩ := HA8b.out.six
       obtain ⟨⟨y0, y1, y2⟩, ⟨y3, y4, y5⟩, hg⟩ := HA8.out.six
       clear hx hm hb hf hg)
    | (go_at_call 23
       refine (sl_any P hP1.1 hP1.2.1 hP1.2.2 _ _ _ _ _ _ _ HM8b.out HM8.out).mono ?_
       rintro e w9 ⟨rfl, hb⟩
       have HB9 := Lib.hid (HB8.out.trans (hb.mono HB8.out.size))
       have HT9 := Lib.hid (tab_keep HT.out (HB1.out.trans (HB9.out.mono HB1.out.size)))
       clear hb)
    | (go_at_call 21
       refine (ltAwake_any _ HT9.out).mono ?_
       rintro e w10 ⟨rfl, hb⟩
       have HB10 := Lib.hid ((HB1.out.trans (HB9.out.mono HB1.out.size)).trans (hb.mono (Nat.le_trans HB1.out.size HB9.out.size)))
       clear hb)
    )
  go_ret
  exact ⟨rfl, HB10.out⟩
end Go.Proofs.YtblaldcioneooaaDoor
