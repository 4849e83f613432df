/- Several texts in one (a claim has at most 60 files). -/
import Derived.Test.YtpfbpgbgedbalaaMG
import Derived.StillTailTactics
import Derived.Deep.QuietTactic
import Derived.BigQuiet
import Derived.Deep.MidRow
/- The reference's pass over a tree: repetitions, groups, references. -/
set_option linter.unusedVariables false
set_option linter.unusedSimpArgs false
set_option maxRecDepth 100000
set_option maxHeartbeats 8000000
namespace Go.Proofs.Ytpfbpgbgedbalaa
open Go.RowKit

theorem row_st {w : World} {g : Nat} {x : FC} {T : TypeId} (h : w.heap[g]? = some (.cells (fc7 x) T (0, 0))) (p : Nat → Bool) : ((((w.setCell ⟨g, 3, none⟩ (.int .u64 (wd p 0 64 : Nat))).setCell ⟨g, 4, none⟩ (.int .u64 (wd p 64 64 : Nat))).setCell ⟨g, 5, none⟩ (.int .u64 (wd p 128 64 : Nat))).setCell ⟨g, 6, none⟩ (.int .u64 (wd p 192 64 : Nat))).heap[g]? = some (.cells (fc7 { x with st := p }) T (0, 0)) := by
  have h1 := heap_setCell_same w g 3 _ _ (.int .u64 (wd p 0 64 : Nat)) h
  have h2 := heap_setCell_same _ g 4 _ _ (.int .u64 (wd p 64 64 : Nat)) h1
  have h3 := heap_setCell_same _ g 5 _ _ (.int .u64 (wd p 128 64 : Nat)) h2
  exact heap_setCell_same _ g 6 _ _ (.int .u64 (wd p 192 64 : Nat)) h3
/-- What a repetition's facts are read from. -/
abbrev SRp (wr : World) (q B : Nat) (yn : Bool) (yl yh l h : Int) (w' : World) : Prop := (w'.cell? ⟨q, 0, none⟩ = some (.bool yn) ∧ w'.cell? ⟨q, 1, none⟩ = some (.int .i64 yl) ∧ w'.cell? ⟨q, 2, none⟩ = some (.int .i64 yh)) ∧ (w'.cell? ⟨B, 5, none⟩ = some (.int .i64 l) ∧ w'.cell? ⟨B, 6, none⟩ = some (.int .i64 h)) ∧ Below wr.heap.size wr w'
theorem SRp.below {wr w1 w2 : World} {q B : Nat} {yn : Bool} {yl yh l h : Int} (k : SRp wr q B yn yl yh l h w1) (hb : Below w1.heap.size w1 w2) : SRp wr q B yn yl yh l h w2 :=
  ⟨⟨keep_cell hb k.1.1, keep_cell hb k.1.2.1, keep_cell hb k.1.2.2⟩, ⟨keep_cell hb k.2.1.1, keep_cell hb k.2.1.2⟩, k.2.2.trans (hb.mono k.2.2.size)⟩
theorem SRp.drew {wr w1 : World} {q B : Nat} {yn : Bool} {yl yh l h : Int} (k : SRp wr q B yn yl yh l h w1) : SRp wr q B yn yl yh l h w1.drew := k.below ((Below.refl _ _).drew)
theorem SRp.alloc {wr w1 : World} {q B : Nat} {yn : Bool} {yl yh l h : Int} (k : SRp wr q B yn yl yh l h w1) (o : Obj) : SRp wr q B yn yl yh l h (w1.alloc o) := k.below ((Below.refl _ _).alloc (Nat.le_refl _) _)
theorem KN.there {w : World} {PB KB n : Nat} {K : Nat → FC} (h : KN w PB KB n K) (i : Nat) (hi : i < n) : w.there KB (i * 7) 7 := fun j hj => ⟨by
  have e : (cells_f (K i))[j]? = some ((cells_f (K i))[j]'(by exact hj)) := List.getElem?_eq_getElem _
  rw [h.ce i hi j _ e]
  rfl, h.fz _⟩
theorem put4_only (w : World) (g : Nat) (a b c d : Value) : Only g w ((((w.setCell ⟨g, 3, none⟩ a).setCell ⟨g, 4, none⟩ b).setCell ⟨g, 5, none⟩ c).setCell ⟨g, 6, none⟩ d) := ((((Only.refl g w).put 3 _).put 4 _).put 5 _).put 6 _
theorem Only.two {A B : Nat} {a b c : World} (h : Only A a b) (k : Only B b c) (hB : a.heap.size ≤ B) : Only A a c :=
  ⟨k.os.trans h.os, k.tape.trans h.tape, k.output.trans h.output, Nat.le_trans h.size k.size, fun j hj hn => (k.block j (Nat.lt_of_lt_of_le hj h.size) (by omega)).trans (h.block j hj hn)⟩
theorem KN.only {w w' : World} {PB KB n B : Nat} {K : Nat → FC} (h : KN w PB KB n K) (hb : Only B w w') (h1 : PB ≠ B) (h2 : KB ≠ B) : KN w' PB KB n K := h.keep (S := fun b => b = B) ⟨hb.os, hb.tape, hb.output, hb.size, hb.block⟩ h1 h2

theorem of_511 (n : Nat) (f : F) (hch : ∀ i, i < f.len → OfOk n (f.nth i).args) (g : Int) (st : Nat → Bool) (sv : Value) (w : World) (S : Nat → Prop) (PB KB : Nat) (K : Nat → FC) (hsv : SV w S f sv) (hS : ∀ b, S b → b ≠ KB) (hkn : KN w PB KB n K) (hfk : ∀ k, FOk (K k)) (h6 : f.len ≤ 600) (hpk : preK n f) (hone : f.len = 1) :
    Calls Try.prog 59 #[.pointer (some ⟨PB, 0, none⟩), .agg #[.int .i64 5, .int .u64 (wd st 0 64 : Nat), .int .u64 (wd st 64 64 : Nat), .int .u64 (wd st 128 64 : Nat), .int .u64 (wd st 192 64 : Nat), .int .i64 0, .int .i64 0, .int .i64 g, sv]] w fun e w' => e = .returned (.agg (fc7 (repS 0 0 ((facF f K).1.headD FC0)))) ∧ KN w' PB KB n ((facF f K).2) ∧ Only KB w w' := by
  have HSV := Lib.hid hsv
  have HCh := Lib.hid hch
  have HS := Lib.hid hS
  have HPk := Lib.hid hpk
  have hfl : (f.len : Int) ≤ 600 := by omega
  have HFl := Lib.hid h6
  obtain ⟨ad, cap, rfl⟩ := slice_form hsv
  obtain ⟨W2, hW2⟩ : ∃ W2, W2 = (w.alloc (.cells #[.int .i64 5, .int .u64 (wd st 0 64 : Nat), .int .u64 (wd st 64 64 : Nat), .int .u64 (wd st 128 64 : Nat), .int .u64 (wd st 192 64 : Nat), .int .i64 0, .int .i64 0, .int .i64 g, .slice ad f.len cap] 28)).alloc (.cells z7 59) := ⟨_, rfl⟩
  have hx : Below w.heap.size w W2 := by rw [hW2]; exact ((Below.refl _ _).alloc (Nat.le_refl _) _).alloc (by simp) _
  have hz2 : W2.heap.size = w.heap.size + 2 := by rw [hW2]; simp
  have hg0 : W2.heap[w.heap.size]? = some (.cells #[.int .i64 5, .int .u64 (wd st 0 64 : Nat), .int .u64 (wd st 64 64 : Nat), .int .u64 (wd st 128 64 : Nat), .int .u64 (wd st 192 64 : Nat), .int .i64 0, .int .i64 0, .int .i64 g, .slice ad f.len cap] 28 (0, 0)) := by
    rw [hW2, Below.heap_alloc _ _ _ (by simp)]
    exact heap_alloc_new w _
  have hg1 : W2.heap[w.heap.size + 1]? = some (.cells z7 59 (0, 0)) := by
    have := heap_alloc_new (w.alloc (.cells #[.int .i64 5, .int .u64 (wd st 0 64 : Nat), .int .u64 (wd st 64 64 : Nat), .int .u64 (wd st 128 64 : Nat), .int .u64 (wd st 192 64 : Nat), .int .i64 0, .int .i64 0, .int .i64 g, .slice ad f.len cap] 28)) (.cells z7 59)
    rw [hW2]
    simpa using this
  have HKB := Lib.hid hkn.lt
  have HPB := Lib.hid hkn.plt
  have HKn := Lib.hid (hkn.below hx)
  have HFk := Lib.hid hfk
  have HX := Lib.hid hx
  have HG0 := Lib.hid hg0
  have HG1 := Lib.hid hg1
  have HZ := Lib.hid hz2
  have HW2 := Lib.hid hW2
  clear hsv hch hS hkn hfk h6 hpk hx hz2 hg0 hg1 hW2
  have HOne := Lib.hid hone
  clear hone
  go_enter Try.func59, Try.ntmps59
  go_wp2_with fail
  go_loopw [5, 6] (fun v i wr => ∃ (k : Nat) (ys : List FC) (K' : Nat → FC), k ≤ f.len ∧ i = .int .i64 k ∧ Hid (ys.length = k ∧ PV 59 7 cells_f wr (w.heap.size + 2) ys v ∧ KN wr PB KB n K' ∧ Only KB W2 wr ∧ facF f K = (ys ++ (facF (f.drop k) K').1, (facF (f.drop k) K').2) ∧ ∀ k, FOk (K' k))) (fun _ i _ => f.len - (intOf i).toNat)
  case atStart =>
    refine ⟨0, [], K, Nat.zero_le _, rfl, ?_⟩
    rw [← HW2.out]
    exact Lib.hid ⟨rfl, PV.nil _ _ _ _ _, HKn.out, Only.refl _ _, by (have : f.drop 0 = f := by cases f <;> rfl); rw [this]; rfl, HFk.out⟩
  case round =>
    obtain ⟨k, ys, K', hk, rfl, HB⟩ := hrel
    have hkw : Only KB w wr := (Only.of_below HX.out).trans HB.out.2.2.2.1
    have hbox : wr.heap[w.heap.size]? = some (.cells #[.int .i64 5, .int .u64 (wd st 0 64 : Nat), .int .u64 (wd st 64 64 : Nat), .int .u64 (wd st 128 64 : Nat), .int .u64 (wd st 192 64 : Nat), .int .i64 0, .int .i64 0, .int .i64 g, .slice ad f.len cap] 28 (0, 0)) := (HB.out.2.2.2.1.block _ (by have := HZ.out; omega) (by have := HKB.out; omega)).trans HG0.out
    have hres : wr.heap[w.heap.size + 1]? = some (.cells z7 59 (0, 0)) := (HB.out.2.2.2.1.block _ (by have := HZ.out; omega) (by have := HKB.out; omega)).trans HG1.out
    obtain ⟨⟨⟨b0, b1, b2⟩, b3, b4, b5⟩, b6, b7, b8⟩ := nine hbox
    have hlt : w.heap.size + 1 < wr.heap.size := (Array.getElem?_eq_some_iff.1 hres).1
    have HLT := Lib.hid hlt
    have HKW := Lib.hid hkw
    have HRes := Lib.hid hres
    obtain ⟨vad, vcap, rfl⟩ := own_sl HB.out.2.1
    clear hkw hbox hlt hres
    by_cases hkn : k < f.len
    · have ki : (k : Int) < f.len := by omega
      have ki0 : (0 : Int) ≤ k := by omega
      obtain ⟨b, i0, ad2, cp2, rfl, hsv2, c0, c1, c2, c3, c4, c5, c6, c7, c8⟩ := kid HSV.out (Afar.only_ne HKW.out HS.out) k hkn
      have HS2 := Lib.hid hsv2
      have HNd := Lib.hid (NdK_nth n f k hkn HPk.out)
      have HL := Lib.hid (fun W hW hK => HCh.out k hkn (f.nth k).op (f.nth k).lo (f.nth k).hi (f.nth k).g (f.nth k).st (.slice ad2 (f.nth k).args.len cp2) W S PB KB K' hW HS.out hK HB.out.2.2.2.2.2 HNd.out)
      have HSt := Lib.hid (HB.out.2.2.2.2.1.trans (by rw [fac_step f k hkn K']))
      have eT : (⟨(f.nth k).op, (f.nth k).st, (f.nth k).lo, (f.nth k).hi, (f.nth k).g, (f.nth k).args⟩ : TN) = f.nth k := rfl
      have HOkY := Lib.hid (facN_ok n (f.nth k) K' HNd.out HB.out.2.2.2.2.2)
      rw [eT] at HL
      obtain ⟨Y, hY⟩ : ∃ Y, facN (f.nth k) K' = Y := ⟨_, rfl⟩
      rw [hY] at HL HSt HOkY
      obtain ⟨y, KY⟩ := Y
      clear hsv2 eT hY
      go_wp2_with (first
        | (go_at_call 59; (with_reducible refine (HL.out _ HS2.out HB.out.2.2.1).mono ?_); rintro e w2 ⟨rfl, hk2, ho2⟩
           have HK2 := Lib.hid hk2
           have HO2 := Lib.hid ho2
           have HPV := Lib.hid (HB.out.2.1.only (by have := HKB.out; omega) ho2)
           clear hk2 ho2 b0 b1 b2 b3 b4 b5 b6 b7 b8 c0 c1 c2 c3 c4 c5 c6 c7 c8)
        | (at_builtin; refine app1 (w.heap.size + 2) 92 59 (.agg z7) 7 56 Try.underlying92 info_f rfl (by decide) w2 rfl (.tmp 15) (.tmp 23) rfl (by have := HLT.out; have := HO2.out.size; omega) (.slice vad ys.length vcap) ys.length _ (cells_f y) rfl rfl HPV.out _ rfl rfl rfl ?d1 ?d2 ?d3 ?_))
      case d1 => simp [cells_f, Value.oneCell']
      case d2 => have := HB.out.1; unfold maxLen; omega
      case d3 => have := HB.out.1; omega
      intro g0 cap0 w8 ho8 hk8 hg8
      have hown : ∀ x, (Value.slice vad ys.length vcap).ownBlock = some x → w.heap.size + 2 ≤ x := fun x hx => (own_at HB.out.2.1 x hx).1
      have HF : Hid ((ys ++ [y]).length = k + 1 ∧ PV 59 7 cells_f w8 (w.heap.size + 2) (ys ++ [y]) (.slice (some ⟨g0, 0, none⟩) (ys.length + 1) cap0) ∧ KN w8 PB KB n KY ∧ Only KB W2 w8) := by
        refine Lib.hid ⟨by rw [List.length_append, HB.out.1]; rfl, ?_, HK2.out.keep hk8 (fun e => by have := hown _ e; have := HPB.out; omega) (fun e => by have := hown _ e; have := HKB.out; omega), ?_⟩
        · unfold PV
          rw [List.length_append, List.flatMap_append]
          have : ([y] : List FC).flatMap cells_f = cells_f y := by simp
          rw [this]
          exact ho8
        · have h1 := HB.out.2.2.2.1.trans HO2.out
          exact ⟨hk8.os.trans h1.os, hk8.tape.trans h1.tape, hk8.output.trans h1.output, Nat.le_trans h1.size hk8.size, fun b hb hne => (hk8.block b (by have := h1.size; omega) (fun e => by have := hown _ e; have := HZ.out; omega)).trans (h1.block b hb hne)⟩
      clear ho8 hk8 hg8 hown
      go_wp2_with fail
      go_roundw
      case rel => exact ⟨k + 1, ys ++ [y], KY, by omega, by go_num, Lib.hid ⟨HF.out.1, HF.out.2.1, HF.out.2.2.1, HF.out.2.2.2, by rw [HSt.out, List.append_assoc]; rfl, HOkY.out.2⟩⟩
      case measure => simp [intOf]; omega
    · obtain rfl : k = f.len := by omega
      have hend := HB.out.2.2.2.2.1
      rw [F.drop_len] at hend
      replace hend : facF f K = (ys ++ [], K') := hend
      rw [List.append_nil] at hend
      have HEnd := Lib.hid hend
      have hfo := facF_ok n f K HPk.out HFk.out
      rw [hend] at hfo
      have HFo := Lib.hid hfo
      clear hend hfo
      have hRep : ∀ x : FC, repS 0 0 x = ⟨true, rtim x.lo 0, rtim x.hi 0, noSet⟩ := fun x => by
        show FC.mk _ _ _ _ = _
        rfl
      obtain ⟨y, rfl⟩ : ∃ y, ys = [y] := by
        have hlen := HB.out.1
        rw [HOne.out] at hlen
        match ys, hlen with
        | [y], _ => exact ⟨y, rfl⟩
      have hpv : PV 59 7 cells_f wr (w.heap.size + 2) [y] (.slice vad 1 vcap) := HB.out.2.1
      obtain ⟨q, rfl, ⟨y0, y1, y2⟩, y3, y4, y5, y6⟩ := fac_at (ps := [y]) hpv (Below.refl _ _) 0 Nat.zero_lt_one
      have hqw := own_at hpv q rfl
      have HQw := Lib.hid hqw
      rw [Nat.zero_mul] at y0 y1 y2 y3 y4 y5 y6
      simp only [List.getElem_cons_zero, Nat.zero_add] at y0 y1 y2 y3 y4 y5 y6
      have hoky := HFo.out.1 y (List.mem_singleton_self _)
      have HOky := Lib.hid hoky
      obtain ⟨yn, yl, yh, ys⟩ := y
      have hoc : ¬ (vcap : Int) < 1 := by
        rcases hpv.2 with ⟨e, _⟩ | ⟨g, cap, cur, e, _, _, hle, _⟩
        · cases e
        · cases e
          simp at hle
          omega
      clear hpv hqw hoky
      have HT1 := Lib.hid (fun W => rtim_any yl 0 ⟨by have h1 := HOky.out.1.1; simp only at h1; omega, HOky.out.1.2⟩ ⟨by decide, by decide⟩ W)
      have HT2 := Lib.hid (fun W => rtim_any yh 0 HOky.out.2 ⟨by decide, by decide⟩ W)
      go_upto_region 14 with fail
      have HSW : Hid (SRp wr q w.heap.size yn yl yh 0 0 wr) := Lib.hid ⟨⟨y0, y1, y2⟩, ⟨b5, b6⟩, Below.refl _ _⟩
      have HC3 := Lib.hid y3
      have HC4 := Lib.hid y4
      have HC5 := Lib.hid y5
      have HC6 := Lib.hid y6
      clear y0 y1 y2 y3 y4 y5 y6 b0 b1 b2 b3 b4 b5 b6 b7 b8
      refine wp_region_held_drew (S := fun w' => SRp wr q w.heap.size yn yl yh 0 0 w') (by kernel_rfl) ?_ (fun hHeld => ?_)
      · exact HSW.out.drew
      refine wpAnyH_take (i := 0) (v := ?av0) rfl (by kernel_rfl) (by kernel_rfl) (by kernel_rfl) (fun _ _ _ h => h) (Or.inl ⟨by rfl, ?ay0⟩) (by assumption) ?ar0
      case ay0 =>
        intro wx hSw
        clear hSw
        go_simp
        first | done | (with_reducible rfl)
      (try simp only [Act.put, List.getElem_toArray, List.getElem_cons_zero, List.setIfInBounds_toArray, List.set_cons_zero, List.set_cons_succ])
      refine wpAnyH_take (i := 1) (v := ?av1) rfl (by kernel_rfl) (by kernel_rfl) (by kernel_rfl) (fun _ _ _ h => h) (Or.inl ⟨by rfl, ?ay1⟩) (by assumption) ?ar1
      case ay1 =>
        intro wx hSw
        have ⟨⟨y0, y1, y2⟩, ⟨b5, b6⟩, _⟩ := hSw
        clear hSw
        go_simp
        first | done | (with_reducible rfl)
      (try simp only [Act.put, List.getElem_toArray, List.getElem_cons_succ, List.getElem_cons_zero, List.setIfInBounds_toArray, List.set_cons_zero, List.set_cons_succ])
      refine wpAnyH_take (i := 2) (v := ?av2) rfl (by kernel_rfl) (by kernel_rfl) (by kernel_rfl) (fun _ _ _ h => h) (Or.inl ⟨by rfl, ?ay2⟩) (by assumption) ?ar2
      case ay2 =>
        intro wx hSw
        clear hSw
        go_simp
        first | done | (with_reducible rfl)
      (try simp only [Act.put, List.getElem_toArray, List.getElem_cons_succ, List.getElem_cons_zero, List.setIfInBounds_toArray, List.set_cons_zero, List.set_cons_succ])
      refine wpAnyH_take (i := 3) (v := ?av3) rfl (by kernel_rfl) (by kernel_rfl) (by kernel_rfl) (fun _ _ _ h => h) (Or.inl ⟨by rfl, ?ay3⟩) (by assumption) ?ar3
      case ay3 =>
        intro wx hSw
        clear hSw
        go_simp
        first | done | (with_reducible rfl)
      (try simp only [Act.put, List.getElem_toArray, List.getElem_cons_succ, List.getElem_cons_zero, List.setIfInBounds_toArray, List.set_cons_zero, List.set_cons_succ])
      refine wpAnyH_take (i := 4) (v := undef) rfl (by kernel_rfl) (by kernel_rfl) (by kernel_rfl) (fun _ _ _ h => h) (Or.inr ⟨by rfl, rfl⟩) (by assumption) ?ar4
      (try simp only [Act.put, List.getElem_toArray, List.getElem_cons_succ, List.getElem_cons_zero, List.setIfInBounds_toArray, List.set_cons_zero, List.set_cons_succ])
      refine wpAnyH_take (i := 5) (v := undef) rfl (by kernel_rfl) (by kernel_rfl) (by kernel_rfl) (fun _ _ _ h => h) (Or.inr ⟨by rfl, rfl⟩) (by assumption) ?ar5
      (try simp only [Act.put, List.getElem_toArray, List.getElem_cons_succ, List.getElem_cons_zero, List.setIfInBounds_toArray, List.set_cons_zero, List.set_cons_succ])
      refine wpAnyH_take (i := 6) (v := undef) rfl (by kernel_rfl) (by kernel_rfl) (by kernel_rfl) (fun _ _ _ h => h) (Or.inr ⟨by rfl, rfl⟩) (by assumption) ?ar6
      (try simp only [Act.put, List.getElem_toArray, List.getElem_cons_succ, List.getElem_cons_zero, List.setIfInBounds_toArray, List.set_cons_zero, List.set_cons_succ])
      refine wpAnyH_take (i := 7) (v := undef) rfl (by kernel_rfl) (by kernel_rfl) (by kernel_rfl) (fun _ _ _ h => h) (Or.inr ⟨by rfl, rfl⟩) (by assumption) ?ar7
      (try simp only [Act.put, List.getElem_toArray, List.getElem_cons_succ, List.getElem_cons_zero, List.setIfInBounds_toArray, List.set_cons_zero, List.set_cons_succ])
      refine wpAnyH_take (i := 8) (v := ?av8) rfl (by kernel_rfl) (by kernel_rfl) (by kernel_rfl) (fun _ _ _ h => h) (Or.inl ⟨by rfl, ?ay8⟩) (by assumption) ?ar8
      case ay8 =>
        intro wx hSw
        clear hSw
        go_simp
        first | done | (with_reducible rfl)
      (try simp only [Act.put, List.getElem_toArray, List.getElem_cons_succ, List.getElem_cons_zero, List.setIfInBounds_toArray, List.set_cons_zero, List.set_cons_succ])
      refine wpAnyH_take (i := 9) (v := ?av9) rfl (by kernel_rfl) (by kernel_rfl) (by kernel_rfl) (fun _ _ _ h => h) (Or.inl ⟨by rfl, ?ay9⟩) (by assumption) ?ar9
      case ay9 =>
        intro wx hSw
        clear hSw
        go_simp
        first | done | (with_reducible rfl)
      (try simp only [Act.put, List.getElem_toArray, List.getElem_cons_succ, List.getElem_cons_zero, List.setIfInBounds_toArray, List.set_cons_zero, List.set_cons_succ])
      refine wpAnyH_take (i := 10) (v := ?av10) rfl (by kernel_rfl) (by kernel_rfl) (by kernel_rfl) (fun _ _ _ h => h) (Or.inl ⟨by rfl, ?ay10⟩) (by assumption) ?ar10
      case ay10 =>
        intro wx hSw
        clear hSw
        go_simp
        first | done | (with_reducible rfl)
      (try simp only [Act.put, List.getElem_toArray, List.getElem_cons_succ, List.getElem_cons_zero, List.setIfInBounds_toArray, List.set_cons_zero, List.set_cons_succ])
      refine wpAnyH_take (i := 11) (v := ?av11) rfl (by kernel_rfl) (by kernel_rfl) (by kernel_rfl) (fun _ _ _ h => h) (Or.inl ⟨by rfl, ?ay11⟩) (by assumption) ?ar11
      case ay11 =>
        intro wx hSw
        clear hSw
        go_simp
        first | done | (with_reducible rfl)
      (try simp only [Act.put, List.getElem_toArray, List.getElem_cons_succ, List.getElem_cons_zero, List.setIfInBounds_toArray, List.set_cons_zero, List.set_cons_succ])
      refine wpAnyH_take (i := 12) (v := ?av12) rfl (by kernel_rfl) (by kernel_rfl) (by kernel_rfl) (fun _ _ _ h => h) (Or.inl ⟨by rfl, ?ay12⟩) (by assumption) ?ar12
      case ay12 =>
        intro wx hSw
        have ⟨⟨y0, y1, y2⟩, ⟨b5, b6⟩, _⟩ := hSw
        clear hSw
        go_simp
        first | done | (with_reducible rfl)
      (try simp only [Act.put, List.getElem_toArray, List.getElem_cons_succ, List.getElem_cons_zero, List.setIfInBounds_toArray, List.set_cons_zero, List.set_cons_succ])
      refine wpAnyH_take (i := 13) (v := ?av13) rfl (by kernel_rfl) (by kernel_rfl) (by kernel_rfl) (fun _ _ _ h => h) (Or.inl ⟨by rfl, ?ay13⟩) (by assumption) ?ar13
      case ay13 =>
        intro wx hSw
        clear hSw
        go_simp
        first | done | (with_reducible rfl)
      (try simp only [Act.put, List.getElem_toArray, List.getElem_cons_succ, List.getElem_cons_zero, List.setIfInBounds_toArray, List.set_cons_zero, List.set_cons_succ])
      refine wpAnyH_take (i := 14) (v := ?av14) rfl (by kernel_rfl) (by kernel_rfl) (by kernel_rfl) (fun _ _ _ h => h) (Or.inl ⟨by rfl, ?ay14⟩) (by assumption) ?ar14
      case ay14 =>
        intro wx hSw
        have ⟨⟨y0, y1, y2⟩, ⟨b5, b6⟩, _⟩ := hSw
        clear hSw
        go_simp
        first | done | (with_reducible rfl)
      (try simp only [Act.put, List.getElem_toArray, List.getElem_cons_succ, List.getElem_cons_zero, List.setIfInBounds_toArray, List.set_cons_zero, List.set_cons_succ])
      refine wpAnyH_take (i := 16) (v := ?av16) rfl (by kernel_rfl) (by kernel_rfl) (by kernel_rfl) (fun _ _ _ h => h) (Or.inl ⟨by rfl, ?ay16⟩) (by assumption) ?ar16
      case ay16 =>
        intro wx hSw
        clear hSw
        go_simp
        first | done | (with_reducible rfl)
      (try simp only [Act.put, List.getElem_toArray, List.getElem_cons_succ, List.getElem_cons_zero, List.setIfInBounds_toArray, List.set_cons_zero, List.set_cons_succ])
      refine wpAnyH_take (i := 17) (v := ?av17) rfl (by kernel_rfl) (by kernel_rfl) (by kernel_rfl) (fun _ _ _ h => h) (Or.inl ⟨by rfl, ?ay17⟩) (by assumption) ?ar17
      case ay17 =>
        intro wx hSw
        clear hSw
        go_simp
        first | done | (with_reducible rfl)
      (try simp only [Act.put, List.getElem_toArray, List.getElem_cons_succ, List.getElem_cons_zero, List.setIfInBounds_toArray, List.set_cons_zero, List.set_cons_succ])
      refine wpAnyH_take (i := 18) (v := ?av18) rfl (by kernel_rfl) (by kernel_rfl) (by kernel_rfl) (fun _ _ _ h => h) (Or.inl ⟨by rfl, ?ay18⟩) (by assumption) ?ar18
      case ay18 =>
        intro wx hSw
        clear hSw
        go_simp
        first | done | (with_reducible rfl)
      (try simp only [Act.put, List.getElem_toArray, List.getElem_cons_succ, List.getElem_cons_zero, List.setIfInBounds_toArray, List.set_cons_zero, List.set_cons_succ])
      refine wpAnyH_take (i := 19) (v := ?av19) rfl (by kernel_rfl) (by kernel_rfl) (by kernel_rfl) (fun _ _ _ h => h) (Or.inl ⟨by rfl, ?ay19⟩) (by assumption) ?ar19
      case ay19 =>
        intro wx hSw
        have ⟨⟨y0, y1, y2⟩, ⟨b5, b6⟩, _⟩ := hSw
        clear hSw
        go_simp
        first | done | (with_reducible rfl)
      (try simp only [Act.put, List.getElem_toArray, List.getElem_cons_succ, List.getElem_cons_zero, List.setIfInBounds_toArray, List.set_cons_zero, List.set_cons_succ])
      refine wpAnyH_take (i := 20) (v := ?av20) rfl (by kernel_rfl) (by kernel_rfl) (by kernel_rfl) (fun _ _ _ h => h) (Or.inl ⟨by rfl, ?ay20⟩) (by assumption) ?ar20
      case ay20 =>
        intro wx hSw
        clear hSw
        go_simp
        first | done | (with_reducible rfl)
      (try simp only [Act.put, List.getElem_toArray, List.getElem_cons_succ, List.getElem_cons_zero, List.setIfInBounds_toArray, List.set_cons_zero, List.set_cons_succ])
      refine wpAnyH_take (i := 21) (v := ?av21) rfl (by kernel_rfl) (by kernel_rfl) (by kernel_rfl) (fun _ _ _ h => h) (Or.inl ⟨by rfl, ?ay21⟩) (by assumption) ?ar21
      case ay21 =>
        intro wx hSw
        have ⟨⟨y0, y1, y2⟩, ⟨b5, b6⟩, _⟩ := hSw
        clear hSw
        go_simp
        first | done | (with_reducible rfl)
      (try simp only [Act.put, List.getElem_toArray, List.getElem_cons_succ, List.getElem_cons_zero, List.setIfInBounds_toArray, List.set_cons_zero, List.set_cons_succ])
      refine wpAnyH_ready (rs := [15, 24]) (by kernel_rfl) (by simp) ?_
      refine AllReadyH.cons rfl (fun K hK => ?_) (AllReadyH.cons rfl (fun K hK => ?_) AllReadyH.nil)
      · go_simp
        go_at_call 79
        refine (HT1.out _).mono ?_
        rintro e w9 ⟨rfl, rfl⟩
        refine hK.out _ _ (by assumption) (fun hH1 => ?_)
        clear hK K
        (try simp only [Act.put, List.getElem_toArray, List.getElem_cons_succ, List.getElem_cons_zero, List.setIfInBounds_toArray, List.set_cons_zero, List.set_cons_succ])
        refine wpAnyH_ready (rs := [22, 24]) (by kernel_rfl) (by simp) ?_
        refine AllReadyH.cons rfl (fun K hK => ?_) (AllReadyH.cons rfl (fun K hK => ?_) AllReadyH.nil)
        · go_simp
          go_at_call 79
          refine (HT2.out _).mono ?_
          rintro e w9 ⟨rfl, rfl⟩
          refine hK.out _ _ (by assumption) (fun hH2 => ?_)
          clear hK K
          (try simp only [Act.put, List.getElem_toArray, List.getElem_cons_succ, List.getElem_cons_zero, List.setIfInBounds_toArray, List.set_cons_zero, List.set_cons_succ])
          refine wpAnyH_take (i := 23) (v := ?bv23) rfl (by kernel_rfl) (by kernel_rfl) (by kernel_rfl) (fun _ _ _ h => h) (Or.inl ⟨by rfl, ?by23⟩) (by assumption) ?br23
          case by23 =>
            intro wx hSw
            clear hSw
            go_simp
            first | done | (with_reducible rfl)
          (try simp only [Act.put, List.getElem_toArray, List.getElem_cons_succ, List.getElem_cons_zero, List.setIfInBounds_toArray, List.set_cons_zero, List.set_cons_succ])
          refine wpAnyH_ready (rs := [24]) (by kernel_rfl) (by simp) ?_
          refine AllReadyH.cons rfl (fun K hK => ?_) AllReadyH.nil
          go_simp
          refine hK.out _ _ ?_ (fun hH3 => ?_)
          · first | exact HSW.out.alloc _ | exact (HSW.out.alloc _).drew | exact HSW.out.drew.alloc _
          clear hK K
          (try simp only [Act.put, List.getElem_toArray, List.getElem_cons_succ, List.getElem_cons_zero, List.setIfInBounds_toArray, List.set_cons_zero, List.set_cons_succ])
          refine wpAnyH_ready (rs := [25]) (by kernel_rfl) (by simp) ?_
          refine AllReadyH.cons rfl (fun K hK => ?_) AllReadyH.nil
          go_simp
          refine hK.out _ _ ?_ (fun hH5 => ?_)
          · first | exact HSW.out.alloc _ | exact (HSW.out.alloc _).drew | exact HSW.out.drew.alloc _
          clear hK K
          (try simp only [Act.put, List.getElem_toArray, List.getElem_cons_succ, List.getElem_cons_zero, List.setIfInBounds_toArray, List.set_cons_zero, List.set_cons_succ])
          refine wpAnyH_done (by kernel_rfl) ?_ _
          have hn2 : (wr.alloc (.cells #[.bool true, .int .i64 (rtim yl 0), .int .i64 (rtim yh 0), .int .u64 0, .int .u64 0, .int .u64 0, .int .u64 0] 59)).drew.heap[wr.heap.size]? = some (.cells #[.bool true, .int .i64 (rtim yl 0), .int .i64 (rtim yh 0), .int .u64 0, .int .u64 0, .int .u64 0, .int .u64 0] 59 (0, 0)) := heap_alloc_new wr (.cells #[.bool true, .int .i64 (rtim yl 0), .int .i64 (rtim yh 0), .int .u64 0, .int .u64 0, .int .u64 0, .int .u64 0] 59)
          have hbd : Below wr.heap.size wr (wr.alloc (.cells #[.bool true, .int .i64 (rtim yl 0), .int .i64 (rtim yh 0), .int .u64 0, .int .u64 0, .int .u64 0, .int .u64 0] 59)).drew := ((Below.refl _ _).alloc (Nat.le_refl _) _).drew
          go_upto_region 15 with fail
          have hcy0 := (hbd.cell (p := ⟨q, 3, none⟩) HQw.out.2).trans HC3.out
          have hcy1 := (hbd.cell (p := ⟨q, 4, none⟩) HQw.out.2).trans HC4.out
          have hcy2 := (hbd.cell (p := ⟨q, 5, none⟩) HQw.out.2).trans HC5.out
          have hcy3 := (hbd.cell (p := ⟨q, 6, none⟩) HQw.out.2).trans HC6.out
          have hd6 := (hbd.cell (p := ⟨w.heap.size, 6, none⟩) (by have := HLT.out; show w.heap.size < _; omega)).trans HSW.out.2.1.2
          have hres := (hbd.block _ HLT.out).trans HRes.out
          have hsz : wr.heap.size < (wr.alloc (.cells #[.bool true, .int .i64 (rtim yl 0), .int .i64 (rtim yh 0), .int .u64 0, .int .u64 0, .int .u64 0, .int .u64 0] 59)).drew.heap.size := by simp
          clear hHeld
          generalize (wr.alloc (.cells #[.bool true, .int .i64 (rtim yl 0), .int .i64 (rtim yh 0), .int .u64 0, .int .u64 0, .int .u64 0, .int .u64 0] 59)).drew = W3 at *
          have hrow : W3.heap[wr.heap.size]? = some (.cells (fc7 ⟨true, rtim yl 0, rtim yh 0, noSet⟩) 59 (0, 0)) := by
            unfold fc7
            rw [wd_noSet.1, wd_noSet.2.1, wd_noSet.2.2.1, wd_noSet.2.2.2]
            exact hn2
          have HBd := Lib.hid hbd
          have HRes3 := Lib.hid hres
          have HSz3 := Lib.hid hsz
          have HLTd := HLT
          have HBw := HB
          have HKWw := HKW
          have HBs := Lib.hid hbd.size
          clear hn2 hbd hres hsz
          generalize hp9 : wr.heap.size = p9 at *
          have HP9 := Lib.hid hp9
          clear hp9
          have HRS := HRes3.out
          have HRow := hrow
          clear hrow
          go_wp2_with (first
            | (refine wpList_load_row rfl 59 _ rfl p9 rfl 59 (fc7 ⟨true, rtim yl 0, rtim yh 0, noSet⟩) (0, 0) _ HRow Try.underlying59 rfl isz_f ?_)
            | (refine wpList_store_row rfl 59 (.tmp 4) (.tmp 74) rfl (w.heap.size + 1) (fc7 ⟨true, rtim yl 0, rtim yh 0, noSet⟩) rfl rfl 59 _ HRS isz_f rfl (by simp [Value.oneCell']) ?_))
          refine bodyPost_ret (v := .agg (fc7 ⟨true, rtim yl 0, rtim yh 0, noSet⟩)) (results_cell_row rfl _ _ (w.heap.size + 1) _ (fc7 ⟨true, rtim yl 0, rtim yh 0, noSet⟩) (0, 0) _ rfl (setRow_heap _ _ _ _ _ _ HRS) Try.underlying59 rfl isz_f) rfl ?_
          have hbd2 : Below wr.heap.size wr W3 := by rw [HP9.out]; exact HBd.out
          rw [HEnd.out]
          exact ⟨by first | rfl | (rw [hRep]; rfl), (HB.out.2.2.1.below hbd2).keep (S := fun b => b = w.heap.size + 1) ⟨rfl, rfl, rfl, by rw [setRow_size]; exact Nat.le_refl _, fun b _ hb => setRow_other _ _ b _ hb⟩ (fun e => by have := HPB.out; omega) (fun e => by have := HKB.out; omega), (HKW.out.next hbd2).rowAt (by omega) _⟩
        · go_simp
          refine hK.out _ _ ?_ (fun hH3 => ?_)
          · first | exact HSW.out.alloc _ | exact (HSW.out.alloc _).drew | exact HSW.out.drew.alloc _
          clear hK K
          (try simp only [Act.put, List.getElem_toArray, List.getElem_cons_succ, List.getElem_cons_zero, List.setIfInBounds_toArray, List.set_cons_zero, List.set_cons_succ])
          refine wpAnyH_ready (rs := [22]) (by kernel_rfl) (by simp) ?_
          refine AllReadyH.cons rfl (fun K hK => ?_) AllReadyH.nil
          go_simp
          go_at_call 79
          refine (HT2.out _).mono ?_
          rintro e w9 ⟨rfl, rfl⟩
          refine hK.out _ _ (by assumption) (fun hH4 => ?_)
          clear hK K
          (try simp only [Act.put, List.getElem_toArray, List.getElem_cons_succ, List.getElem_cons_zero, List.setIfInBounds_toArray, List.set_cons_zero, List.set_cons_succ])
          refine wpAnyH_take (i := 23) (v := ?cv23) rfl (by kernel_rfl) (by kernel_rfl) (by kernel_rfl) (fun _ _ _ h => h) (Or.inl ⟨by rfl, ?cy23⟩) (by assumption) ?cr23
          case cy23 =>
            intro wx hSw
            clear hSw
            go_simp
            first | done | (with_reducible rfl)
          (try simp only [Act.put, List.getElem_toArray, List.getElem_cons_succ, List.getElem_cons_zero, List.setIfInBounds_toArray, List.set_cons_zero, List.set_cons_succ])
          refine wpAnyH_ready (rs := [25]) (by kernel_rfl) (by simp) ?_
          refine AllReadyH.cons rfl (fun K hK => ?_) AllReadyH.nil
          go_simp
          refine hK.out _ _ ?_ (fun hH5 => ?_)
          · first | exact HSW.out.alloc _ | exact (HSW.out.alloc _).drew | exact HSW.out.drew.alloc _
          clear hK K
          (try simp only [Act.put, List.getElem_toArray, List.getElem_cons_succ, List.getElem_cons_zero, List.setIfInBounds_toArray, List.set_cons_zero, List.set_cons_succ])
          refine wpAnyH_done (by kernel_rfl) ?_ _
          have hn2 : (wr.alloc (.cells #[.bool true, .int .i64 (rtim yl 0), .int .i64 (rtim yh 0), .int .u64 0, .int .u64 0, .int .u64 0, .int .u64 0] 59)).drew.heap[wr.heap.size]? = some (.cells #[.bool true, .int .i64 (rtim yl 0), .int .i64 (rtim yh 0), .int .u64 0, .int .u64 0, .int .u64 0, .int .u64 0] 59 (0, 0)) := heap_alloc_new wr (.cells #[.bool true, .int .i64 (rtim yl 0), .int .i64 (rtim yh 0), .int .u64 0, .int .u64 0, .int .u64 0, .int .u64 0] 59)
          have hbd : Below wr.heap.size wr (wr.alloc (.cells #[.bool true, .int .i64 (rtim yl 0), .int .i64 (rtim yh 0), .int .u64 0, .int .u64 0, .int .u64 0, .int .u64 0] 59)).drew := ((Below.refl _ _).alloc (Nat.le_refl _) _).drew
          go_upto_region 15 with fail
          have hcy0 := (hbd.cell (p := ⟨q, 3, none⟩) HQw.out.2).trans HC3.out
          have hcy1 := (hbd.cell (p := ⟨q, 4, none⟩) HQw.out.2).trans HC4.out
          have hcy2 := (hbd.cell (p := ⟨q, 5, none⟩) HQw.out.2).trans HC5.out
          have hcy3 := (hbd.cell (p := ⟨q, 6, none⟩) HQw.out.2).trans HC6.out
          have hd6 := (hbd.cell (p := ⟨w.heap.size, 6, none⟩) (by have := HLT.out; show w.heap.size < _; omega)).trans HSW.out.2.1.2
          have hres := (hbd.block _ HLT.out).trans HRes.out
          have hsz : wr.heap.size < (wr.alloc (.cells #[.bool true, .int .i64 (rtim yl 0), .int .i64 (rtim yh 0), .int .u64 0, .int .u64 0, .int .u64 0, .int .u64 0] 59)).drew.heap.size := by simp
          clear hHeld
          generalize (wr.alloc (.cells #[.bool true, .int .i64 (rtim yl 0), .int .i64 (rtim yh 0), .int .u64 0, .int .u64 0, .int .u64 0, .int .u64 0] 59)).drew = W3 at *
          have hrow : W3.heap[wr.heap.size]? = some (.cells (fc7 ⟨true, rtim yl 0, rtim yh 0, noSet⟩) 59 (0, 0)) := by
            unfold fc7
            rw [wd_noSet.1, wd_noSet.2.1, wd_noSet.2.2.1, wd_noSet.2.2.2]
            exact hn2
          have HBd := Lib.hid hbd
          have HRes3 := Lib.hid hres
          have HSz3 := Lib.hid hsz
          have HLTd := HLT
          have HBw := HB
          have HKWw := HKW
          have HBs := Lib.hid hbd.size
          clear hn2 hbd hres hsz
          generalize hp9 : wr.heap.size = p9 at *
          have HP9 := Lib.hid hp9
          clear hp9
          have HRS := HRes3.out
          have HRow := hrow
          clear hrow
          go_wp2_with (first
            | (refine wpList_load_row rfl 59 _ rfl p9 rfl 59 (fc7 ⟨true, rtim yl 0, rtim yh 0, noSet⟩) (0, 0) _ HRow Try.underlying59 rfl isz_f ?_)
            | (refine wpList_store_row rfl 59 (.tmp 4) (.tmp 74) rfl (w.heap.size + 1) (fc7 ⟨true, rtim yl 0, rtim yh 0, noSet⟩) rfl rfl 59 _ HRS isz_f rfl (by simp [Value.oneCell']) ?_))
          refine bodyPost_ret (v := .agg (fc7 ⟨true, rtim yl 0, rtim yh 0, noSet⟩)) (results_cell_row rfl _ _ (w.heap.size + 1) _ (fc7 ⟨true, rtim yl 0, rtim yh 0, noSet⟩) (0, 0) _ rfl (setRow_heap _ _ _ _ _ _ HRS) Try.underlying59 rfl isz_f) rfl ?_
          have hbd2 : Below wr.heap.size wr W3 := by rw [HP9.out]; exact HBd.out
          rw [HEnd.out]
          exact ⟨by first | rfl | (rw [hRep]; rfl), (HB.out.2.2.1.below hbd2).keep (S := fun b => b = w.heap.size + 1) ⟨rfl, rfl, rfl, by rw [setRow_size]; exact Nat.le_refl _, fun b _ hb => setRow_other _ _ b _ hb⟩ (fun e => by have := HPB.out; omega) (fun e => by have := HKB.out; omega), (HKW.out.next hbd2).rowAt (by omega) _⟩
      · go_simp
        refine hK.out _ _ ?_ (fun hH3 => ?_)
        · first | exact HSW.out.alloc _ | exact (HSW.out.alloc _).drew | exact HSW.out.drew.alloc _
        clear hK K
        (try simp only [Act.put, List.getElem_toArray, List.getElem_cons_succ, List.getElem_cons_zero, List.setIfInBounds_toArray, List.set_cons_zero, List.set_cons_succ])
        refine wpAnyH_ready (rs := [15]) (by kernel_rfl) (by simp) ?_
        refine AllReadyH.cons rfl (fun K hK => ?_) AllReadyH.nil
        go_simp
        go_at_call 79
        refine (HT1.out _).mono ?_
        rintro e w9 ⟨rfl, rfl⟩
        refine hK.out _ _ (by assumption) (fun hH1 => ?_)
        clear hK K
        (try simp only [Act.put, List.getElem_toArray, List.getElem_cons_succ, List.getElem_cons_zero, List.setIfInBounds_toArray, List.set_cons_zero, List.set_cons_succ])
        refine wpAnyH_ready (rs := [22]) (by kernel_rfl) (by simp) ?_
        refine AllReadyH.cons rfl (fun K hK => ?_) AllReadyH.nil
        go_simp
        go_at_call 79
        refine (HT2.out _).mono ?_
        rintro e w9 ⟨rfl, rfl⟩
        refine hK.out _ _ (by assumption) (fun hH2 => ?_)
        clear hK K
        (try simp only [Act.put, List.getElem_toArray, List.getElem_cons_succ, List.getElem_cons_zero, List.setIfInBounds_toArray, List.set_cons_zero, List.set_cons_succ])
        refine wpAnyH_take (i := 23) (v := ?dv23) rfl (by kernel_rfl) (by kernel_rfl) (by kernel_rfl) (fun _ _ _ h => h) (Or.inl ⟨by rfl, ?dy23⟩) (by assumption) ?dr23
        case dy23 =>
          intro wx hSw
          clear hSw
          go_simp
          first | done | (with_reducible rfl)
        (try simp only [Act.put, List.getElem_toArray, List.getElem_cons_succ, List.getElem_cons_zero, List.setIfInBounds_toArray, List.set_cons_zero, List.set_cons_succ])
        refine wpAnyH_ready (rs := [25]) (by kernel_rfl) (by simp) ?_
        refine AllReadyH.cons rfl (fun K hK => ?_) AllReadyH.nil
        go_simp
        refine hK.out _ _ ?_ (fun hH5 => ?_)
        · first | exact HSW.out.alloc _ | exact (HSW.out.alloc _).drew | exact HSW.out.drew.alloc _
        clear hK K
        (try simp only [Act.put, List.getElem_toArray, List.getElem_cons_succ, List.getElem_cons_zero, List.setIfInBounds_toArray, List.set_cons_zero, List.set_cons_succ])
        refine wpAnyH_done (by kernel_rfl) ?_ _
        have hn2 : (wr.alloc (.cells #[.bool true, .int .i64 (rtim yl 0), .int .i64 (rtim yh 0), .int .u64 0, .int .u64 0, .int .u64 0, .int .u64 0] 59)).drew.heap[wr.heap.size]? = some (.cells #[.bool true, .int .i64 (rtim yl 0), .int .i64 (rtim yh 0), .int .u64 0, .int .u64 0, .int .u64 0, .int .u64 0] 59 (0, 0)) := heap_alloc_new wr (.cells #[.bool true, .int .i64 (rtim yl 0), .int .i64 (rtim yh 0), .int .u64 0, .int .u64 0, .int .u64 0, .int .u64 0] 59)
        have hbd : Below wr.heap.size wr (wr.alloc (.cells #[.bool true, .int .i64 (rtim yl 0), .int .i64 (rtim yh 0), .int .u64 0, .int .u64 0, .int .u64 0, .int .u64 0] 59)).drew := ((Below.refl _ _).alloc (Nat.le_refl _) _).drew
        go_upto_region 15 with fail
        have hcy0 := (hbd.cell (p := ⟨q, 3, none⟩) HQw.out.2).trans HC3.out
        have hcy1 := (hbd.cell (p := ⟨q, 4, none⟩) HQw.out.2).trans HC4.out
        have hcy2 := (hbd.cell (p := ⟨q, 5, none⟩) HQw.out.2).trans HC5.out
        have hcy3 := (hbd.cell (p := ⟨q, 6, none⟩) HQw.out.2).trans HC6.out
        have hd6 := (hbd.cell (p := ⟨w.heap.size, 6, none⟩) (by have := HLT.out; show w.heap.size < _; omega)).trans HSW.out.2.1.2
        have hres := (hbd.block _ HLT.out).trans HRes.out
        have hsz : wr.heap.size < (wr.alloc (.cells #[.bool true, .int .i64 (rtim yl 0), .int .i64 (rtim yh 0), .int .u64 0, .int .u64 0, .int .u64 0, .int .u64 0] 59)).drew.heap.size := by simp
        clear hHeld
        generalize (wr.alloc (.cells #[.bool true, .int .i64 (rtim yl 0), .int .i64 (rtim yh 0), .int .u64 0, .int .u64 0, .int .u64 0, .int .u64 0] 59)).drew = W3 at *
        have hrow : W3.heap[wr.heap.size]? = some (.cells (fc7 ⟨true, rtim yl 0, rtim yh 0, noSet⟩) 59 (0, 0)) := by
          unfold fc7
          rw [wd_noSet.1, wd_noSet.2.1, wd_noSet.2.2.1, wd_noSet.2.2.2]
          exact hn2
        have HBd := Lib.hid hbd
        have HRes3 := Lib.hid hres
        have HSz3 := Lib.hid hsz
        have HLTd := HLT
        have HBw := HB
        have HKWw := HKW
        have HBs := Lib.hid hbd.size
        clear hn2 hbd hres hsz
        generalize hp9 : wr.heap.size = p9 at *
        have HP9 := Lib.hid hp9
        clear hp9
        have HRS := HRes3.out
        have HRow := hrow
        clear hrow
        go_wp2_with (first
          | (refine wpList_load_row rfl 59 _ rfl p9 rfl 59 (fc7 ⟨true, rtim yl 0, rtim yh 0, noSet⟩) (0, 0) _ HRow Try.underlying59 rfl isz_f ?_)
          | (refine wpList_store_row rfl 59 (.tmp 4) (.tmp 74) rfl (w.heap.size + 1) (fc7 ⟨true, rtim yl 0, rtim yh 0, noSet⟩) rfl rfl 59 _ HRS isz_f rfl (by simp [Value.oneCell']) ?_))
        refine bodyPost_ret (v := .agg (fc7 ⟨true, rtim yl 0, rtim yh 0, noSet⟩)) (results_cell_row rfl _ _ (w.heap.size + 1) _ (fc7 ⟨true, rtim yl 0, rtim yh 0, noSet⟩) (0, 0) _ rfl (setRow_heap _ _ _ _ _ _ HRS) Try.underlying59 rfl isz_f) rfl ?_
        have hbd2 : Below wr.heap.size wr W3 := by rw [HP9.out]; exact HBd.out
        rw [HEnd.out]
        exact ⟨by first | rfl | (rw [hRep]; rfl), (HB.out.2.2.1.below hbd2).keep (S := fun b => b = w.heap.size + 1) ⟨rfl, rfl, rfl, by rw [setRow_size]; exact Nat.le_refl _, fun b _ hb => setRow_other _ _ b _ hb⟩ (fun e => by have := HPB.out; omega) (fun e => by have := HKB.out; omega), (HKW.out.next hbd2).rowAt (by omega) _⟩


theorem of_510 (n : Nat) (f : F) (hch : ∀ i, i < f.len → OfOk n (f.nth i).args) (h g : Int) (st : Nat → Bool) (sv : Value) (w : World) (S : Nat → Prop) (PB KB : Nat) (K : Nat → FC) (hsv : SV w S f sv) (hS : ∀ b, S b → b ≠ KB) (hkn : KN w PB KB n K) (hfk : ∀ k, FOk (K k)) (h6 : f.len ≤ 600) (hpk : preK n f) (hone : f.len = 1) (hz : (h == 0) = false) (hne : ¬ h = 0) (hhi : -1 ≤ h ∧ h ≤ 64) :
    Calls Try.prog 59 #[.pointer (some ⟨PB, 0, none⟩), .agg #[.int .i64 5, .int .u64 (wd st 0 64 : Nat), .int .u64 (wd st 64 64 : Nat), .int .u64 (wd st 128 64 : Nat), .int .u64 (wd st 192 64 : Nat), .int .i64 0, .int .i64 h, .int .i64 g, sv]] w fun e w' => e = .returned (.agg (fc7 (repS 0 h ((facF f K).1.headD FC0)))) ∧ KN w' PB KB n ((facF f K).2) ∧ Only KB w w' := by
  have HSV := Lib.hid hsv
  have HCh := Lib.hid hch
  have HS := Lib.hid hS
  have HPk := Lib.hid hpk
  have hfl : (f.len : Int) ≤ 600 := by omega
  have HFl := Lib.hid h6
  obtain ⟨ad, cap, rfl⟩ := slice_form hsv
  obtain ⟨W2, hW2⟩ : ∃ W2, W2 = (w.alloc (.cells #[.int .i64 5, .int .u64 (wd st 0 64 : Nat), .int .u64 (wd st 64 64 : Nat), .int .u64 (wd st 128 64 : Nat), .int .u64 (wd st 192 64 : Nat), .int .i64 0, .int .i64 h, .int .i64 g, .slice ad f.len cap] 28)).alloc (.cells z7 59) := ⟨_, rfl⟩
  have hx : Below w.heap.size w W2 := by rw [hW2]; exact ((Below.refl _ _).alloc (Nat.le_refl _) _).alloc (by simp) _
  have hz2 : W2.heap.size = w.heap.size + 2 := by rw [hW2]; simp
  have hg0 : W2.heap[w.heap.size]? = some (.cells #[.int .i64 5, .int .u64 (wd st 0 64 : Nat), .int .u64 (wd st 64 64 : Nat), .int .u64 (wd st 128 64 : Nat), .int .u64 (wd st 192 64 : Nat), .int .i64 0, .int .i64 h, .int .i64 g, .slice ad f.len cap] 28 (0, 0)) := by
    rw [hW2, Below.heap_alloc _ _ _ (by simp)]
    exact heap_alloc_new w _
  have hg1 : W2.heap[w.heap.size + 1]? = some (.cells z7 59 (0, 0)) := by
    have := heap_alloc_new (w.alloc (.cells #[.int .i64 5, .int .u64 (wd st 0 64 : Nat), .int .u64 (wd st 64 64 : Nat), .int .u64 (wd st 128 64 : Nat), .int .u64 (wd st 192 64 : Nat), .int .i64 0, .int .i64 h, .int .i64 g, .slice ad f.len cap] 28)) (.cells z7 59)
    rw [hW2]
    simpa using this
  have HKB := Lib.hid hkn.lt
  have HPB := Lib.hid hkn.plt
  have HKn := Lib.hid (hkn.below hx)
  have HFk := Lib.hid hfk
  have HX := Lib.hid hx
  have HG0 := Lib.hid hg0
  have HG1 := Lib.hid hg1
  have HZ := Lib.hid hz2
  have HW2 := Lib.hid hW2
  clear hsv hch hS hkn hfk h6 hpk hx hz2 hg0 hg1 hW2
  have HOne := Lib.hid hone
  clear hone
  have HHi := Lib.hid hhi
  clear hhi
  go_enter Try.func59, Try.ntmps59
  go_wp2_with fail
  go_loopw [5, 6] (fun v i wr => ∃ (k : Nat) (ys : List FC) (K' : Nat → FC), k ≤ f.len ∧ i = .int .i64 k ∧ Hid (ys.length = k ∧ PV 59 7 cells_f wr (w.heap.size + 2) ys v ∧ KN wr PB KB n K' ∧ Only KB W2 wr ∧ facF f K = (ys ++ (facF (f.drop k) K').1, (facF (f.drop k) K').2) ∧ ∀ k, FOk (K' k))) (fun _ i _ => f.len - (intOf i).toNat)
  case atStart =>
    refine ⟨0, [], K, Nat.zero_le _, rfl, ?_⟩
    rw [← HW2.out]
    exact Lib.hid ⟨rfl, PV.nil _ _ _ _ _, HKn.out, Only.refl _ _, by (have : f.drop 0 = f := by cases f <;> rfl); rw [this]; rfl, HFk.out⟩
  case round =>
    obtain ⟨k, ys, K', hk, rfl, HB⟩ := hrel
    have hkw : Only KB w wr := (Only.of_below HX.out).trans HB.out.2.2.2.1
    have hbox : wr.heap[w.heap.size]? = some (.cells #[.int .i64 5, .int .u64 (wd st 0 64 : Nat), .int .u64 (wd st 64 64 : Nat), .int .u64 (wd st 128 64 : Nat), .int .u64 (wd st 192 64 : Nat), .int .i64 0, .int .i64 h, .int .i64 g, .slice ad f.len cap] 28 (0, 0)) := (HB.out.2.2.2.1.block _ (by have := HZ.out; omega) (by have := HKB.out; omega)).trans HG0.out
    have hres : wr.heap[w.heap.size + 1]? = some (.cells z7 59 (0, 0)) := (HB.out.2.2.2.1.block _ (by have := HZ.out; omega) (by have := HKB.out; omega)).trans HG1.out
    obtain ⟨⟨⟨b0, b1, b2⟩, b3, b4, b5⟩, b6, b7, b8⟩ := nine hbox
    have hlt : w.heap.size + 1 < wr.heap.size := (Array.getElem?_eq_some_iff.1 hres).1
    have HLT := Lib.hid hlt
    have HKW := Lib.hid hkw
    have HRes := Lib.hid hres
    obtain ⟨vad, vcap, rfl⟩ := own_sl HB.out.2.1
    clear hkw hbox hlt hres
    by_cases hkn : k < f.len
    · have ki : (k : Int) < f.len := by omega
      have ki0 : (0 : Int) ≤ k := by omega
      obtain ⟨b, i0, ad2, cp2, rfl, hsv2, c0, c1, c2, c3, c4, c5, c6, c7, c8⟩ := kid HSV.out (Afar.only_ne HKW.out HS.out) k hkn
      have HS2 := Lib.hid hsv2
      have HNd := Lib.hid (NdK_nth n f k hkn HPk.out)
      have HL := Lib.hid (fun W hW hK => HCh.out k hkn (f.nth k).op (f.nth k).lo (f.nth k).hi (f.nth k).g (f.nth k).st (.slice ad2 (f.nth k).args.len cp2) W S PB KB K' hW HS.out hK HB.out.2.2.2.2.2 HNd.out)
      have HSt := Lib.hid (HB.out.2.2.2.2.1.trans (by rw [fac_step f k hkn K']))
      have eT : (⟨(f.nth k).op, (f.nth k).st, (f.nth k).lo, (f.nth k).hi, (f.nth k).g, (f.nth k).args⟩ : TN) = f.nth k := rfl
      have HOkY := Lib.hid (facN_ok n (f.nth k) K' HNd.out HB.out.2.2.2.2.2)
      rw [eT] at HL
      obtain ⟨Y, hY⟩ : ∃ Y, facN (f.nth k) K' = Y := ⟨_, rfl⟩
      rw [hY] at HL HSt HOkY
      obtain ⟨y, KY⟩ := Y
      clear hsv2 eT hY
      go_wp2_with (first
        | (go_at_call 59; (with_reducible refine (HL.out _ HS2.out HB.out.2.2.1).mono ?_); rintro e w2 ⟨rfl, hk2, ho2⟩
           have HK2 := Lib.hid hk2
           have HO2 := Lib.hid ho2
           have HPV := Lib.hid (HB.out.2.1.only (by have := HKB.out; omega) ho2)
           clear hk2 ho2 b0 b1 b2 b3 b4 b5 b6 b7 b8 c0 c1 c2 c3 c4 c5 c6 c7 c8)
        | (at_builtin; refine app1 (w.heap.size + 2) 92 59 (.agg z7) 7 56 Try.underlying92 info_f rfl (by decide) w2 rfl (.tmp 15) (.tmp 23) rfl (by have := HLT.out; have := HO2.out.size; omega) (.slice vad ys.length vcap) ys.length _ (cells_f y) rfl rfl HPV.out _ rfl rfl rfl ?d1 ?d2 ?d3 ?_))
      case d1 => simp [cells_f, Value.oneCell']
      case d2 => have := HB.out.1; unfold maxLen; omega
      case d3 => have := HB.out.1; omega
      intro g0 cap0 w8 ho8 hk8 hg8
      have hown : ∀ x, (Value.slice vad ys.length vcap).ownBlock = some x → w.heap.size + 2 ≤ x := fun x hx => (own_at HB.out.2.1 x hx).1
      have HF : Hid ((ys ++ [y]).length = k + 1 ∧ PV 59 7 cells_f w8 (w.heap.size + 2) (ys ++ [y]) (.slice (some ⟨g0, 0, none⟩) (ys.length + 1) cap0) ∧ KN w8 PB KB n KY ∧ Only KB W2 w8) := by
        refine Lib.hid ⟨by rw [List.length_append, HB.out.1]; rfl, ?_, HK2.out.keep hk8 (fun e => by have := hown _ e; have := HPB.out; omega) (fun e => by have := hown _ e; have := HKB.out; omega), ?_⟩
        · unfold PV
          rw [List.length_append, List.flatMap_append]
          have : ([y] : List FC).flatMap cells_f = cells_f y := by simp
          rw [this]
          exact ho8
        · have h1 := HB.out.2.2.2.1.trans HO2.out
          exact ⟨hk8.os.trans h1.os, hk8.tape.trans h1.tape, hk8.output.trans h1.output, Nat.le_trans h1.size hk8.size, fun b hb hne => (hk8.block b (by have := h1.size; omega) (fun e => by have := hown _ e; have := HZ.out; omega)).trans (h1.block b hb hne)⟩
      clear ho8 hk8 hg8 hown
      go_wp2_with fail
      go_roundw
      case rel => exact ⟨k + 1, ys ++ [y], KY, by omega, by go_num, Lib.hid ⟨HF.out.1, HF.out.2.1, HF.out.2.2.1, HF.out.2.2.2, by rw [HSt.out, List.append_assoc]; rfl, HOkY.out.2⟩⟩
      case measure => simp [intOf]; omega
    · obtain rfl : k = f.len := by omega
      have hend := HB.out.2.2.2.2.1
      rw [F.drop_len] at hend
      replace hend : facF f K = (ys ++ [], K') := hend
      rw [List.append_nil] at hend
      have HEnd := Lib.hid hend
      have hfo := facF_ok n f K HPk.out HFk.out
      rw [hend] at hfo
      have HFo := Lib.hid hfo
      clear hend hfo
      have hRep : ∀ x : FC, repS 0 h x = ⟨true, rtim x.lo 0, rtim x.hi h, x.st⟩ := fun x => by
        show FC.mk _ _ _ _ = _
        rw [if_neg hne]
        rfl
      obtain ⟨y, rfl⟩ : ∃ y, ys = [y] := by
        have hlen := HB.out.1
        rw [HOne.out] at hlen
        match ys, hlen with
        | [y], _ => exact ⟨y, rfl⟩
      have hpv : PV 59 7 cells_f wr (w.heap.size + 2) [y] (.slice vad 1 vcap) := HB.out.2.1
      obtain ⟨q, rfl, ⟨y0, y1, y2⟩, y3, y4, y5, y6⟩ := fac_at (ps := [y]) hpv (Below.refl _ _) 0 Nat.zero_lt_one
      have hqw := own_at hpv q rfl
      have HQw := Lib.hid hqw
      rw [Nat.zero_mul] at y0 y1 y2 y3 y4 y5 y6
      simp only [List.getElem_cons_zero, Nat.zero_add] at y0 y1 y2 y3 y4 y5 y6
      have hoky := HFo.out.1 y (List.mem_singleton_self _)
      have HOky := Lib.hid hoky
      obtain ⟨yn, yl, yh, ys⟩ := y
      have hoc : ¬ (vcap : Int) < 1 := by
        rcases hpv.2 with ⟨e, _⟩ | ⟨g, cap, cur, e, _, _, hle, _⟩
        · cases e
        · cases e
          simp at hle
          omega
      clear hpv hqw hoky
      have HT1 := Lib.hid (fun W => rtim_any yl 0 ⟨by have h1 := HOky.out.1.1; simp only at h1; omega, HOky.out.1.2⟩ ⟨by decide, by decide⟩ W)
      have HT2 := Lib.hid (fun W => rtim_any yh h HOky.out.2 ⟨by exact HHi.out.1, by exact HHi.out.2⟩ W)
      go_upto_region 14 with fail
      have HSW : Hid (SRp wr q w.heap.size yn yl yh 0 h wr) := Lib.hid ⟨⟨y0, y1, y2⟩, ⟨b5, b6⟩, Below.refl _ _⟩
      have HC3 := Lib.hid y3
      have HC4 := Lib.hid y4
      have HC5 := Lib.hid y5
      have HC6 := Lib.hid y6
      clear y0 y1 y2 y3 y4 y5 y6 b0 b1 b2 b3 b4 b5 b6 b7 b8
      refine wp_region_held_drew (S := fun w' => SRp wr q w.heap.size yn yl yh 0 h w') (by kernel_rfl) ?_ (fun hHeld => ?_)
      · exact HSW.out.drew
      refine wpAnyH_take (i := 0) (v := ?av0) rfl (by kernel_rfl) (by kernel_rfl) (by kernel_rfl) (fun _ _ _ h => h) (Or.inl ⟨by rfl, ?ay0⟩) (by assumption) ?ar0
      case ay0 =>
        intro wx hSw
        clear hSw
        go_simp
        first | done | (with_reducible rfl)
      (try simp only [Act.put, List.getElem_toArray, List.getElem_cons_zero, List.setIfInBounds_toArray, List.set_cons_zero, List.set_cons_succ])
      refine wpAnyH_take (i := 1) (v := ?av1) rfl (by kernel_rfl) (by kernel_rfl) (by kernel_rfl) (fun _ _ _ h => h) (Or.inl ⟨by rfl, ?ay1⟩) (by assumption) ?ar1
      case ay1 =>
        intro wx hSw
        have ⟨⟨y0, y1, y2⟩, ⟨b5, b6⟩, _⟩ := hSw
        clear hSw
        go_simp
        first | done | (with_reducible rfl)
      (try simp only [Act.put, List.getElem_toArray, List.getElem_cons_succ, List.getElem_cons_zero, List.setIfInBounds_toArray, List.set_cons_zero, List.set_cons_succ])
      refine wpAnyH_take (i := 2) (v := ?av2) rfl (by kernel_rfl) (by kernel_rfl) (by kernel_rfl) (fun _ _ _ h => h) (Or.inl ⟨by rfl, ?ay2⟩) (by assumption) ?ar2
      case ay2 =>
        intro wx hSw
        clear hSw
        go_simp
        first | done | (with_reducible rfl)
      (try simp only [Act.put, List.getElem_toArray, List.getElem_cons_succ, List.getElem_cons_zero, List.setIfInBounds_toArray, List.set_cons_zero, List.set_cons_succ])
      refine wpAnyH_take (i := 3) (v := ?av3) rfl (by kernel_rfl) (by kernel_rfl) (by kernel_rfl) (fun _ _ _ h => h) (Or.inl ⟨by rfl, ?ay3⟩) (by assumption) ?ar3
      case ay3 =>
        intro wx hSw
        clear hSw
        go_simp
        first | done | (with_reducible rfl)
      (try simp only [Act.put, List.getElem_toArray, List.getElem_cons_succ, List.getElem_cons_zero, List.setIfInBounds_toArray, List.set_cons_zero, List.set_cons_succ])
      refine wpAnyH_take (i := 4) (v := undef) rfl (by kernel_rfl) (by kernel_rfl) (by kernel_rfl) (fun _ _ _ h => h) (Or.inr ⟨by rfl, rfl⟩) (by assumption) ?ar4
      (try simp only [Act.put, List.getElem_toArray, List.getElem_cons_succ, List.getElem_cons_zero, List.setIfInBounds_toArray, List.set_cons_zero, List.set_cons_succ])
      refine wpAnyH_take (i := 5) (v := undef) rfl (by kernel_rfl) (by kernel_rfl) (by kernel_rfl) (fun _ _ _ h => h) (Or.inr ⟨by rfl, rfl⟩) (by assumption) ?ar5
      (try simp only [Act.put, List.getElem_toArray, List.getElem_cons_succ, List.getElem_cons_zero, List.setIfInBounds_toArray, List.set_cons_zero, List.set_cons_succ])
      refine wpAnyH_take (i := 6) (v := undef) rfl (by kernel_rfl) (by kernel_rfl) (by kernel_rfl) (fun _ _ _ h => h) (Or.inr ⟨by rfl, rfl⟩) (by assumption) ?ar6
      (try simp only [Act.put, List.getElem_toArray, List.getElem_cons_succ, List.getElem_cons_zero, List.setIfInBounds_toArray, List.set_cons_zero, List.set_cons_succ])
      refine wpAnyH_take (i := 7) (v := undef) rfl (by kernel_rfl) (by kernel_rfl) (by kernel_rfl) (fun _ _ _ h => h) (Or.inr ⟨by rfl, rfl⟩) (by assumption) ?ar7
      (try simp only [Act.put, List.getElem_toArray, List.getElem_cons_succ, List.getElem_cons_zero, List.setIfInBounds_toArray, List.set_cons_zero, List.set_cons_succ])
      refine wpAnyH_take (i := 8) (v := ?av8) rfl (by kernel_rfl) (by kernel_rfl) (by kernel_rfl) (fun _ _ _ h => h) (Or.inl ⟨by rfl, ?ay8⟩) (by assumption) ?ar8
      case ay8 =>
        intro wx hSw
        clear hSw
        go_simp
        first | done | (with_reducible rfl)
      (try simp only [Act.put, List.getElem_toArray, List.getElem_cons_succ, List.getElem_cons_zero, List.setIfInBounds_toArray, List.set_cons_zero, List.set_cons_succ])
      refine wpAnyH_take (i := 9) (v := ?av9) rfl (by kernel_rfl) (by kernel_rfl) (by kernel_rfl) (fun _ _ _ h => h) (Or.inl ⟨by rfl, ?ay9⟩) (by assumption) ?ar9
      case ay9 =>
        intro wx hSw
        clear hSw
        go_simp
        first | done | (with_reducible rfl)
      (try simp only [Act.put, List.getElem_toArray, List.getElem_cons_succ, List.getElem_cons_zero, List.setIfInBounds_toArray, List.set_cons_zero, List.set_cons_succ])
      refine wpAnyH_take (i := 10) (v := ?av10) rfl (by kernel_rfl) (by kernel_rfl) (by kernel_rfl) (fun _ _ _ h => h) (Or.inl ⟨by rfl, ?ay10⟩) (by assumption) ?ar10
      case ay10 =>
        intro wx hSw
        clear hSw
        go_simp
        first | done | (with_reducible rfl)
      (try simp only [Act.put, List.getElem_toArray, List.getElem_cons_succ, List.getElem_cons_zero, List.setIfInBounds_toArray, List.set_cons_zero, List.set_cons_succ])
      refine wpAnyH_take (i := 11) (v := ?av11) rfl (by kernel_rfl) (by kernel_rfl) (by kernel_rfl) (fun _ _ _ h => h) (Or.inl ⟨by rfl, ?ay11⟩) (by assumption) ?ar11
      case ay11 =>
        intro wx hSw
        clear hSw
        go_simp
        first | done | (with_reducible rfl)
      (try simp only [Act.put, List.getElem_toArray, List.getElem_cons_succ, List.getElem_cons_zero, List.setIfInBounds_toArray, List.set_cons_zero, List.set_cons_succ])
      refine wpAnyH_take (i := 12) (v := ?av12) rfl (by kernel_rfl) (by kernel_rfl) (by kernel_rfl) (fun _ _ _ h => h) (Or.inl ⟨by rfl, ?ay12⟩) (by assumption) ?ar12
      case ay12 =>
        intro wx hSw
        have ⟨⟨y0, y1, y2⟩, ⟨b5, b6⟩, _⟩ := hSw
        clear hSw
        go_simp
        first | done | (with_reducible rfl)
      (try simp only [Act.put, List.getElem_toArray, List.getElem_cons_succ, List.getElem_cons_zero, List.setIfInBounds_toArray, List.set_cons_zero, List.set_cons_succ])
      refine wpAnyH_take (i := 13) (v := ?av13) rfl (by kernel_rfl) (by kernel_rfl) (by kernel_rfl) (fun _ _ _ h => h) (Or.inl ⟨by rfl, ?ay13⟩) (by assumption) ?ar13
      case ay13 =>
        intro wx hSw
        clear hSw
        go_simp
        first | done | (with_reducible rfl)
      (try simp only [Act.put, List.getElem_toArray, List.getElem_cons_succ, List.getElem_cons_zero, List.setIfInBounds_toArray, List.set_cons_zero, List.set_cons_succ])
      refine wpAnyH_take (i := 14) (v := ?av14) rfl (by kernel_rfl) (by kernel_rfl) (by kernel_rfl) (fun _ _ _ h => h) (Or.inl ⟨by rfl, ?ay14⟩) (by assumption) ?ar14
      case ay14 =>
        intro wx hSw
        have ⟨⟨y0, y1, y2⟩, ⟨b5, b6⟩, _⟩ := hSw
        clear hSw
        go_simp
        first | done | (with_reducible rfl)
      (try simp only [Act.put, List.getElem_toArray, List.getElem_cons_succ, List.getElem_cons_zero, List.setIfInBounds_toArray, List.set_cons_zero, List.set_cons_succ])
      refine wpAnyH_take (i := 16) (v := ?av16) rfl (by kernel_rfl) (by kernel_rfl) (by kernel_rfl) (fun _ _ _ h => h) (Or.inl ⟨by rfl, ?ay16⟩) (by assumption) ?ar16
      case ay16 =>
        intro wx hSw
        clear hSw
        go_simp
        first | done | (with_reducible rfl)
      (try simp only [Act.put, List.getElem_toArray, List.getElem_cons_succ, List.getElem_cons_zero, List.setIfInBounds_toArray, List.set_cons_zero, List.set_cons_succ])
      refine wpAnyH_take (i := 17) (v := ?av17) rfl (by kernel_rfl) (by kernel_rfl) (by kernel_rfl) (fun _ _ _ h => h) (Or.inl ⟨by rfl, ?ay17⟩) (by assumption) ?ar17
      case ay17 =>
        intro wx hSw
        clear hSw
        go_simp
        first | done | (with_reducible rfl)
      (try simp only [Act.put, List.getElem_toArray, List.getElem_cons_succ, List.getElem_cons_zero, List.setIfInBounds_toArray, List.set_cons_zero, List.set_cons_succ])
      refine wpAnyH_take (i := 18) (v := ?av18) rfl (by kernel_rfl) (by kernel_rfl) (by kernel_rfl) (fun _ _ _ h => h) (Or.inl ⟨by rfl, ?ay18⟩) (by assumption) ?ar18
      case ay18 =>
        intro wx hSw
        clear hSw
        go_simp
        first | done | (with_reducible rfl)
      (try simp only [Act.put, List.getElem_toArray, List.getElem_cons_succ, List.getElem_cons_zero, List.setIfInBounds_toArray, List.set_cons_zero, List.set_cons_succ])
      refine wpAnyH_take (i := 19) (v := ?av19) rfl (by kernel_rfl) (by kernel_rfl) (by kernel_rfl) (fun _ _ _ h => h) (Or.inl ⟨by rfl, ?ay19⟩) (by assumption) ?ar19
      case ay19 =>
        intro wx hSw
        have ⟨⟨y0, y1, y2⟩, ⟨b5, b6⟩, _⟩ := hSw
        clear hSw
        go_simp
        first | done | (with_reducible rfl)
      (try simp only [Act.put, List.getElem_toArray, List.getElem_cons_succ, List.getElem_cons_zero, List.setIfInBounds_toArray, List.set_cons_zero, List.set_cons_succ])
      refine wpAnyH_take (i := 20) (v := ?av20) rfl (by kernel_rfl) (by kernel_rfl) (by kernel_rfl) (fun _ _ _ h => h) (Or.inl ⟨by rfl, ?ay20⟩) (by assumption) ?ar20
      case ay20 =>
        intro wx hSw
        clear hSw
        go_simp
        first | done | (with_reducible rfl)
      (try simp only [Act.put, List.getElem_toArray, List.getElem_cons_succ, List.getElem_cons_zero, List.setIfInBounds_toArray, List.set_cons_zero, List.set_cons_succ])
      refine wpAnyH_take (i := 21) (v := ?av21) rfl (by kernel_rfl) (by kernel_rfl) (by kernel_rfl) (fun _ _ _ h => h) (Or.inl ⟨by rfl, ?ay21⟩) (by assumption) ?ar21
      case ay21 =>
        intro wx hSw
        have ⟨⟨y0, y1, y2⟩, ⟨b5, b6⟩, _⟩ := hSw
        clear hSw
        go_simp
        first | done | (with_reducible rfl)
      (try simp only [Act.put, List.getElem_toArray, List.getElem_cons_succ, List.getElem_cons_zero, List.setIfInBounds_toArray, List.set_cons_zero, List.set_cons_succ])
      refine wpAnyH_ready (rs := [15, 24]) (by kernel_rfl) (by simp) ?_
      refine AllReadyH.cons rfl (fun K hK => ?_) (AllReadyH.cons rfl (fun K hK => ?_) AllReadyH.nil)
      · go_simp
        go_at_call 79
        refine (HT1.out _).mono ?_
        rintro e w9 ⟨rfl, rfl⟩
        refine hK.out _ _ (by assumption) (fun hH1 => ?_)
        clear hK K
        (try simp only [Act.put, List.getElem_toArray, List.getElem_cons_succ, List.getElem_cons_zero, List.setIfInBounds_toArray, List.set_cons_zero, List.set_cons_succ])
        refine wpAnyH_ready (rs := [22, 24]) (by kernel_rfl) (by simp) ?_
        refine AllReadyH.cons rfl (fun K hK => ?_) (AllReadyH.cons rfl (fun K hK => ?_) AllReadyH.nil)
        · go_simp
          go_at_call 79
          refine (HT2.out _).mono ?_
          rintro e w9 ⟨rfl, rfl⟩
          refine hK.out _ _ (by assumption) (fun hH2 => ?_)
          clear hK K
          (try simp only [Act.put, List.getElem_toArray, List.getElem_cons_succ, List.getElem_cons_zero, List.setIfInBounds_toArray, List.set_cons_zero, List.set_cons_succ])
          refine wpAnyH_take (i := 23) (v := ?bv23) rfl (by kernel_rfl) (by kernel_rfl) (by kernel_rfl) (fun _ _ _ h => h) (Or.inl ⟨by rfl, ?by23⟩) (by assumption) ?br23
          case by23 =>
            intro wx hSw
            clear hSw
            go_simp
            first | done | (with_reducible rfl)
          (try simp only [Act.put, List.getElem_toArray, List.getElem_cons_succ, List.getElem_cons_zero, List.setIfInBounds_toArray, List.set_cons_zero, List.set_cons_succ])
          refine wpAnyH_ready (rs := [24]) (by kernel_rfl) (by simp) ?_
          refine AllReadyH.cons rfl (fun K hK => ?_) AllReadyH.nil
          go_simp
          refine hK.out _ _ ?_ (fun hH3 => ?_)
          · first | exact HSW.out.alloc _ | exact (HSW.out.alloc _).drew | exact HSW.out.drew.alloc _
          clear hK K
          (try simp only [Act.put, List.getElem_toArray, List.getElem_cons_succ, List.getElem_cons_zero, List.setIfInBounds_toArray, List.set_cons_zero, List.set_cons_succ])
          refine wpAnyH_ready (rs := [25]) (by kernel_rfl) (by simp) ?_
          refine AllReadyH.cons rfl (fun K hK => ?_) AllReadyH.nil
          go_simp
          refine hK.out _ _ ?_ (fun hH5 => ?_)
          · first | exact HSW.out.alloc _ | exact (HSW.out.alloc _).drew | exact HSW.out.drew.alloc _
          clear hK K
          (try simp only [Act.put, List.getElem_toArray, List.getElem_cons_succ, List.getElem_cons_zero, List.setIfInBounds_toArray, List.set_cons_zero, List.set_cons_succ])
          refine wpAnyH_done (by kernel_rfl) ?_ _
          have hn2 : (wr.alloc (.cells #[.bool true, .int .i64 (rtim yl 0), .int .i64 (rtim yh h), .int .u64 0, .int .u64 0, .int .u64 0, .int .u64 0] 59)).drew.heap[wr.heap.size]? = some (.cells #[.bool true, .int .i64 (rtim yl 0), .int .i64 (rtim yh h), .int .u64 0, .int .u64 0, .int .u64 0, .int .u64 0] 59 (0, 0)) := heap_alloc_new wr (.cells #[.bool true, .int .i64 (rtim yl 0), .int .i64 (rtim yh h), .int .u64 0, .int .u64 0, .int .u64 0, .int .u64 0] 59)
          have hbd : Below wr.heap.size wr (wr.alloc (.cells #[.bool true, .int .i64 (rtim yl 0), .int .i64 (rtim yh h), .int .u64 0, .int .u64 0, .int .u64 0, .int .u64 0] 59)).drew := ((Below.refl _ _).alloc (Nat.le_refl _) _).drew
          go_upto_region 15 with fail
          have hcy0 := (hbd.cell (p := ⟨q, 3, none⟩) HQw.out.2).trans HC3.out
          have hcy1 := (hbd.cell (p := ⟨q, 4, none⟩) HQw.out.2).trans HC4.out
          have hcy2 := (hbd.cell (p := ⟨q, 5, none⟩) HQw.out.2).trans HC5.out
          have hcy3 := (hbd.cell (p := ⟨q, 6, none⟩) HQw.out.2).trans HC6.out
          have hd6 := (hbd.cell (p := ⟨w.heap.size, 6, none⟩) (by have := HLT.out; show w.heap.size < _; omega)).trans HSW.out.2.1.2
          have hres := (hbd.block _ HLT.out).trans HRes.out
          have hsz : wr.heap.size < (wr.alloc (.cells #[.bool true, .int .i64 (rtim yl 0), .int .i64 (rtim yh h), .int .u64 0, .int .u64 0, .int .u64 0, .int .u64 0] 59)).drew.heap.size := by simp
          clear hHeld
          generalize (wr.alloc (.cells #[.bool true, .int .i64 (rtim yl 0), .int .i64 (rtim yh h), .int .u64 0, .int .u64 0, .int .u64 0, .int .u64 0] 59)).drew = W3 at *
          have hrow : W3.heap[wr.heap.size]? = some (.cells (fc7 ⟨true, rtim yl 0, rtim yh h, noSet⟩) 59 (0, 0)) := by
            unfold fc7
            rw [wd_noSet.1, wd_noSet.2.1, wd_noSet.2.2.1, wd_noSet.2.2.2]
            exact hn2
          have HBd := Lib.hid hbd
          have HRes3 := Lib.hid hres
          have HSz3 := Lib.hid hsz
          have HLTd := HLT
          have HBw := HB
          have HKWw := HKW
          have HBs := Lib.hid hbd.size
          clear hn2 hbd hres hsz
          generalize hp9 : wr.heap.size = p9 at *
          have HP9 := Lib.hid hp9
          clear hp9
          have fz := fun j => frozen_of_row W3 p9 j _ _ hrow
          have f3 := fz 3
          have f4 := fz 4
          have f5 := fz 5
          have f6 := fz 6
          have p3 := cell_of_row W3 p9 3 _ _ _ hrow
          have p4 := cell_of_row W3 p9 4 _ _ _ hrow
          have p5 := cell_of_row W3 p9 5 _ _ _ hrow
          have p6 := cell_of_row W3 p9 6 _ _ _ hrow
          replace p3 : W3.cell? ⟨p9, 3, none⟩ = some (.int .u64 (wd noSet 0 64 : Nat)) := p3
          replace p4 : W3.cell? ⟨p9, 4, none⟩ = some (.int .u64 (wd noSet 64 64 : Nat)) := p4
          replace p5 : W3.cell? ⟨p9, 5, none⟩ = some (.int .u64 (wd noSet 128 64 : Nat)) := p5
          replace p6 : W3.cell? ⟨p9, 6, none⟩ = some (.int .u64 (wd noSet 192 64 : Nat)) := p6
          clear fz
          go_upto_region 17 with fail
          have hr4 := row_st hrow ys
          have ho4 := put4_only W3 p9 (.int .u64 (wd ys 0 64 : Nat)) (.int .u64 (wd ys 64 64 : Nat)) (.int .u64 (wd ys 128 64 : Nat)) (.int .u64 (wd ys 192 64 : Nat))
          have HRS := (ho4.block (w.heap.size + 1) (by have := HLTd.out; have := HSz3.out; omega) (by have := HLTd.out; omega)).trans HRes3.out
          clear f3 f4 f5 f6 p3 p4 p5 p6 hcy0 hcy1 hcy2 hcy3 hd6 hrow
          generalize ((((W3.setCell ⟨p9, 3, none⟩ (.int .u64 (wd ys 0 64 : Nat))).setCell ⟨p9, 4, none⟩ (.int .u64 (wd ys 64 64 : Nat))).setCell ⟨p9, 5, none⟩ (.int .u64 (wd ys 128 64 : Nat))).setCell ⟨p9, 6, none⟩ (.int .u64 (wd ys 192 64 : Nat))) = W4 at *
          have HO4 := Lib.hid ho4
          clear ho4
          go_wp2_with (first
            | (refine wpList_load_row rfl 59 _ rfl p9 rfl 59 (fc7 ⟨true, rtim yl 0, rtim yh h, ys⟩) (0, 0) _ hr4 Try.underlying59 rfl isz_f ?_)
            | (refine wpList_store_row rfl 59 (.tmp 4) (.tmp 74) rfl (w.heap.size + 1) (fc7 ⟨true, rtim yl 0, rtim yh h, ys⟩) rfl rfl 59 _ HRS isz_f rfl (by simp [Value.oneCell']) ?_))
          refine bodyPost_ret (v := .agg (fc7 ⟨true, rtim yl 0, rtim yh h, ys⟩)) (results_cell_row rfl _ _ (w.heap.size + 1) _ (fc7 ⟨true, rtim yl 0, rtim yh h, ys⟩) (0, 0) _ rfl (setRow_heap _ _ _ _ _ _ HRS) Try.underlying59 rfl isz_f) rfl ?_
          have hbd2 : Below wr.heap.size wr W3 := by rw [HP9.out]; exact HBd.out
          rw [HEnd.out]
          exact ⟨by first | rfl | (rw [hRep]; rfl), ((HB.out.2.2.1.below hbd2).only HO4.out (by have := HPB.out; have := HLTd.out; omega) (by have := HKB.out; have := HLTd.out; omega)).keep (S := fun b => b = w.heap.size + 1) ⟨rfl, rfl, rfl, by rw [setRow_size]; exact Nat.le_refl _, fun b _ hb => setRow_other _ _ b _ hb⟩ (fun e => by have := HPB.out; omega) (fun e => by have := HKB.out; omega), ((HKW.out.next hbd2).two HO4.out (by have := HLTd.out; omega)).rowAt (by omega) _⟩
        · go_simp
          refine hK.out _ _ ?_ (fun hH3 => ?_)
          · first | exact HSW.out.alloc _ | exact (HSW.out.alloc _).drew | exact HSW.out.drew.alloc _
          clear hK K
          (try simp only [Act.put, List.getElem_toArray, List.getElem_cons_succ, List.getElem_cons_zero, List.setIfInBounds_toArray, List.set_cons_zero, List.set_cons_succ])
          refine wpAnyH_ready (rs := [22]) (by kernel_rfl) (by simp) ?_
          refine AllReadyH.cons rfl (fun K hK => ?_) AllReadyH.nil
          go_simp
          go_at_call 79
          refine (HT2.out _).mono ?_
          rintro e w9 ⟨rfl, rfl⟩
          refine hK.out _ _ (by assumption) (fun hH4 => ?_)
          clear hK K
          (try simp only [Act.put, List.getElem_toArray, List.getElem_cons_succ, List.getElem_cons_zero, List.setIfInBounds_toArray, List.set_cons_zero, List.set_cons_succ])
          refine wpAnyH_take (i := 23) (v := ?cv23) rfl (by kernel_rfl) (by kernel_rfl) (by kernel_rfl) (fun _ _ _ h => h) (Or.inl ⟨by rfl, ?cy23⟩) (by assumption) ?cr23
          case cy23 =>
            intro wx hSw
            clear hSw
            go_simp
            first | done | (with_reducible rfl)
          (try simp only [Act.put, List.getElem_toArray, List.getElem_cons_succ, List.getElem_cons_zero, List.setIfInBounds_toArray, List.set_cons_zero, List.set_cons_succ])
          refine wpAnyH_ready (rs := [25]) (by kernel_rfl) (by simp) ?_
          refine AllReadyH.cons rfl (fun K hK => ?_) AllReadyH.nil
          go_simp
          refine hK.out _ _ ?_ (fun hH5 => ?_)
          · first | exact HSW.out.alloc _ | exact (HSW.out.alloc _).drew | exact HSW.out.drew.alloc _
          clear hK K
          (try simp only [Act.put, List.getElem_toArray, List.getElem_cons_succ, List.getElem_cons_zero, List.setIfInBounds_toArray, List.set_cons_zero, List.set_cons_succ])
          refine wpAnyH_done (by kernel_rfl) ?_ _
          have hn2 : (wr.alloc (.cells #[.bool true, .int .i64 (rtim yl 0), .int .i64 (rtim yh h), .int .u64 0, .int .u64 0, .int .u64 0, .int .u64 0] 59)).drew.heap[wr.heap.size]? = some (.cells #[.bool true, .int .i64 (rtim yl 0), .int .i64 (rtim yh h), .int .u64 0, .int .u64 0, .int .u64 0, .int .u64 0] 59 (0, 0)) := heap_alloc_new wr (.cells #[.bool true, .int .i64 (rtim yl 0), .int .i64 (rtim yh h), .int .u64 0, .int .u64 0, .int .u64 0, .int .u64 0] 59)
          have hbd : Below wr.heap.size wr (wr.alloc (.cells #[.bool true, .int .i64 (rtim yl 0), .int .i64 (rtim yh h), .int .u64 0, .int .u64 0, .int .u64 0, .int .u64 0] 59)).drew := ((Below.refl _ _).alloc (Nat.le_refl _) _).drew
          go_upto_region 15 with fail
          have hcy0 := (hbd.cell (p := ⟨q, 3, none⟩) HQw.out.2).trans HC3.out
          have hcy1 := (hbd.cell (p := ⟨q, 4, none⟩) HQw.out.2).trans HC4.out
          have hcy2 := (hbd.cell (p := ⟨q, 5, none⟩) HQw.out.2).trans HC5.out
          have hcy3 := (hbd.cell (p := ⟨q, 6, none⟩) HQw.out.2).trans HC6.out
          have hd6 := (hbd.cell (p := ⟨w.heap.size, 6, none⟩) (by have := HLT.out; show w.heap.size < _; omega)).trans HSW.out.2.1.2
          have hres := (hbd.block _ HLT.out).trans HRes.out
          have hsz : wr.heap.size < (wr.alloc (.cells #[.bool true, .int .i64 (rtim yl 0), .int .i64 (rtim yh h), .int .u64 0, .int .u64 0, .int .u64 0, .int .u64 0] 59)).drew.heap.size := by simp
          clear hHeld
          generalize (wr.alloc (.cells #[.bool true, .int .i64 (rtim yl 0), .int .i64 (rtim yh h), .int .u64 0, .int .u64 0, .int .u64 0, .int .u64 0] 59)).drew = W3 at *
          have hrow : W3.heap[wr.heap.size]? = some (.cells (fc7 ⟨true, rtim yl 0, rtim yh h, noSet⟩) 59 (0, 0)) := by
            unfold fc7
            rw [wd_noSet.1, wd_noSet.2.1, wd_noSet.2.2.1, wd_noSet.2.2.2]
            exact hn2
          have HBd := Lib.hid hbd
          have HRes3 := Lib.hid hres
          have HSz3 := Lib.hid hsz
          have HLTd := HLT
          have HBw := HB
          have HKWw := HKW
          have HBs := Lib.hid hbd.size
          clear hn2 hbd hres hsz
          generalize hp9 : wr.heap.size = p9 at *
          have HP9 := Lib.hid hp9
          clear hp9
          have fz := fun j => frozen_of_row W3 p9 j _ _ hrow
          have f3 := fz 3
          have f4 := fz 4
          have f5 := fz 5
          have f6 := fz 6
          have p3 := cell_of_row W3 p9 3 _ _ _ hrow
          have p4 := cell_of_row W3 p9 4 _ _ _ hrow
          have p5 := cell_of_row W3 p9 5 _ _ _ hrow
          have p6 := cell_of_row W3 p9 6 _ _ _ hrow
          replace p3 : W3.cell? ⟨p9, 3, none⟩ = some (.int .u64 (wd noSet 0 64 : Nat)) := p3
          replace p4 : W3.cell? ⟨p9, 4, none⟩ = some (.int .u64 (wd noSet 64 64 : Nat)) := p4
          replace p5 : W3.cell? ⟨p9, 5, none⟩ = some (.int .u64 (wd noSet 128 64 : Nat)) := p5
          replace p6 : W3.cell? ⟨p9, 6, none⟩ = some (.int .u64 (wd noSet 192 64 : Nat)) := p6
          clear fz
          go_upto_region 17 with fail
          have hr4 := row_st hrow ys
          have ho4 := put4_only W3 p9 (.int .u64 (wd ys 0 64 : Nat)) (.int .u64 (wd ys 64 64 : Nat)) (.int .u64 (wd ys 128 64 : Nat)) (.int .u64 (wd ys 192 64 : Nat))
          have HRS := (ho4.block (w.heap.size + 1) (by have := HLTd.out; have := HSz3.out; omega) (by have := HLTd.out; omega)).trans HRes3.out
          clear f3 f4 f5 f6 p3 p4 p5 p6 hcy0 hcy1 hcy2 hcy3 hd6 hrow
          generalize ((((W3.setCell ⟨p9, 3, none⟩ (.int .u64 (wd ys 0 64 : Nat))).setCell ⟨p9, 4, none⟩ (.int .u64 (wd ys 64 64 : Nat))).setCell ⟨p9, 5, none⟩ (.int .u64 (wd ys 128 64 : Nat))).setCell ⟨p9, 6, none⟩ (.int .u64 (wd ys 192 64 : Nat))) = W4 at *
          have HO4 := Lib.hid ho4
          clear ho4
          go_wp2_with (first
            | (refine wpList_load_row rfl 59 _ rfl p9 rfl 59 (fc7 ⟨true, rtim yl 0, rtim yh h, ys⟩) (0, 0) _ hr4 Try.underlying59 rfl isz_f ?_)
            | (refine wpList_store_row rfl 59 (.tmp 4) (.tmp 74) rfl (w.heap.size + 1) (fc7 ⟨true, rtim yl 0, rtim yh h, ys⟩) rfl rfl 59 _ HRS isz_f rfl (by simp [Value.oneCell']) ?_))
          refine bodyPost_ret (v := .agg (fc7 ⟨true, rtim yl 0, rtim yh h, ys⟩)) (results_cell_row rfl _ _ (w.heap.size + 1) _ (fc7 ⟨true, rtim yl 0, rtim yh h, ys⟩) (0, 0) _ rfl (setRow_heap _ _ _ _ _ _ HRS) Try.underlying59 rfl isz_f) rfl ?_
          have hbd2 : Below wr.heap.size wr W3 := by rw [HP9.out]; exact HBd.out
          rw [HEnd.out]
          exact ⟨by first | rfl | (rw [hRep]; rfl), ((HB.out.2.2.1.below hbd2).only HO4.out (by have := HPB.out; have := HLTd.out; omega) (by have := HKB.out; have := HLTd.out; omega)).keep (S := fun b => b = w.heap.size + 1) ⟨rfl, rfl, rfl, by rw [setRow_size]; exact Nat.le_refl _, fun b _ hb => setRow_other _ _ b _ hb⟩ (fun e => by have := HPB.out; omega) (fun e => by have := HKB.out; omega), ((HKW.out.next hbd2).two HO4.out (by have := HLTd.out; omega)).rowAt (by omega) _⟩
      · go_simp
        refine hK.out _ _ ?_ (fun hH3 => ?_)
        · first | exact HSW.out.alloc _ | exact (HSW.out.alloc _).drew | exact HSW.out.drew.alloc _
        clear hK K
        (try simp only [Act.put, List.getElem_toArray, List.getElem_cons_succ, List.getElem_cons_zero, List.setIfInBounds_toArray, List.set_cons_zero, List.set_cons_succ])
        refine wpAnyH_ready (rs := [15]) (by kernel_rfl) (by simp) ?_
        refine AllReadyH.cons rfl (fun K hK => ?_) AllReadyH.nil
        go_simp
        go_at_call 79
        refine (HT1.out _).mono ?_
        rintro e w9 ⟨rfl, rfl⟩
        refine hK.out _ _ (by assumption) (fun hH1 => ?_)
        clear hK K
        (try simp only [Act.put, List.getElem_toArray, List.getElem_cons_succ, List.getElem_cons_zero, List.setIfInBounds_toArray, List.set_cons_zero, List.set_cons_succ])
        refine wpAnyH_ready (rs := [22]) (by kernel_rfl) (by simp) ?_
        refine AllReadyH.cons rfl (fun K hK => ?_) AllReadyH.nil
        go_simp
        go_at_call 79
        refine (HT2.out _).mono ?_
        rintro e w9 ⟨rfl, rfl⟩
        refine hK.out _ _ (by assumption) (fun hH2 => ?_)
        clear hK K
        (try simp only [Act.put, List.getElem_toArray, List.getElem_cons_succ, List.getElem_cons_zero, List.setIfInBounds_toArray, List.set_cons_zero, List.set_cons_succ])
        refine wpAnyH_take (i := 23) (v := ?dv23) rfl (by kernel_rfl) (by kernel_rfl) (by kernel_rfl) (fun _ _ _ h => h) (Or.inl ⟨by rfl, ?dy23⟩) (by assumption) ?dr23
        case dy23 =>
          intro wx hSw
          clear hSw
          go_simp
          first | done | (with_reducible rfl)
        (try simp only [Act.put, List.getElem_toArray, List.getElem_cons_succ, List.getElem_cons_zero, List.setIfInBounds_toArray, List.set_cons_zero, List.set_cons_succ])
        refine wpAnyH_ready (rs := [25]) (by kernel_rfl) (by simp) ?_
        refine AllReadyH.cons rfl (fun K hK => ?_) AllReadyH.nil
        go_simp
        refine hK.out _ _ ?_ (fun hH5 => ?_)
        · first | exact HSW.out.alloc _ | exact (HSW.out.alloc _).drew | exact HSW.out.drew.alloc _
        clear hK K
        (try simp only [Act.put, List.getElem_toArray, List.getElem_cons_succ, List.getElem_cons_zero, List.setIfInBounds_toArray, List.set_cons_zero, List.set_cons_succ])
        refine wpAnyH_done (by kernel_rfl) ?_ _
        have hn2 : (wr.alloc (.cells #[.bool true, .int .i64 (rtim yl 0), .int .i64 (rtim yh h), .int .u64 0, .int .u64 0, .int .u64 0, .int .u64 0] 59)).drew.heap[wr.heap.size]? = some (.cells #[.bool true, .int .i64 (rtim yl 0), .int .i64 (rtim yh h), .int .u64 0, .int .u64 0, .int .u64 0, .int .u64 0] 59 (0, 0)) := heap_alloc_new wr (.cells #[.bool true, .int .i64 (rtim yl 0), .int .i64 (rtim yh h), .int .u64 0, .int .u64 0, .int .u64 0, .int .u64 0] 59)
        have hbd : Below wr.heap.size wr (wr.alloc (.cells #[.bool true, .int .i64 (rtim yl 0), .int .i64 (rtim yh h), .int .u64 0, .int .u64 0, .int .u64 0, .int .u64 0] 59)).drew := ((Below.refl _ _).alloc (Nat.le_refl _) _).drew
        go_upto_region 15 with fail
        have hcy0 := (hbd.cell (p := ⟨q, 3, none⟩) HQw.out.2).trans HC3.out
        have hcy1 := (hbd.cell (p := ⟨q, 4, none⟩) HQw.out.2).trans HC4.out
        have hcy2 := (hbd.cell (p := ⟨q, 5, none⟩) HQw.out.2).trans HC5.out
        have hcy3 := (hbd.cell (p := ⟨q, 6, none⟩) HQw.out.2).trans HC6.out
        have hd6 := (hbd.cell (p := ⟨w.heap.size, 6, none⟩) (by have := HLT.out; show w.heap.size < _; omega)).trans HSW.out.2.1.2
        have hres := (hbd.block _ HLT.out).trans HRes.out
        have hsz : wr.heap.size < (wr.alloc (.cells #[.bool true, .int .i64 (rtim yl 0), .int .i64 (rtim yh h), .int .u64 0, .int .u64 0, .int .u64 0, .int .u64 0] 59)).drew.heap.size := by simp
        clear hHeld
        generalize (wr.alloc (.cells #[.bool true, .int .i64 (rtim yl 0), .int .i64 (rtim yh h), .int .u64 0, .int .u64 0, .int .u64 0, .int .u64 0] 59)).drew = W3 at *
        have hrow : W3.heap[wr.heap.size]? = some (.cells (fc7 ⟨true, rtim yl 0, rtim yh h, noSet⟩) 59 (0, 0)) := by
          unfold fc7
          rw [wd_noSet.1, wd_noSet.2.1, wd_noSet.2.2.1, wd_noSet.2.2.2]
          exact hn2
        have HBd := Lib.hid hbd
        have HRes3 := Lib.hid hres
        have HSz3 := Lib.hid hsz
        have HLTd := HLT
        have HBw := HB
        have HKWw := HKW
        have HBs := Lib.hid hbd.size
        clear hn2 hbd hres hsz
        generalize hp9 : wr.heap.size = p9 at *
        have HP9 := Lib.hid hp9
        clear hp9
        have fz := fun j => frozen_of_row W3 p9 j _ _ hrow
        have f3 := fz 3
        have f4 := fz 4
        have f5 := fz 5
        have f6 := fz 6
        have p3 := cell_of_row W3 p9 3 _ _ _ hrow
        have p4 := cell_of_row W3 p9 4 _ _ _ hrow
        have p5 := cell_of_row W3 p9 5 _ _ _ hrow
        have p6 := cell_of_row W3 p9 6 _ _ _ hrow
        replace p3 : W3.cell? ⟨p9, 3, none⟩ = some (.int .u64 (wd noSet 0 64 : Nat)) := p3
        replace p4 : W3.cell? ⟨p9, 4, none⟩ = some (.int .u64 (wd noSet 64 64 : Nat)) := p4
        replace p5 : W3.cell? ⟨p9, 5, none⟩ = some (.int .u64 (wd noSet 128 64 : Nat)) := p5
        replace p6 : W3.cell? ⟨p9, 6, none⟩ = some (.int .u64 (wd noSet 192 64 : Nat)) := p6
        clear fz
        go_upto_region 17 with fail
        have hr4 := row_st hrow ys
        have ho4 := put4_only W3 p9 (.int .u64 (wd ys 0 64 : Nat)) (.int .u64 (wd ys 64 64 : Nat)) (.int .u64 (wd ys 128 64 : Nat)) (.int .u64 (wd ys 192 64 : Nat))
        have HRS := (ho4.block (w.heap.size + 1) (by have := HLTd.out; have := HSz3.out; omega) (by have := HLTd.out; omega)).trans HRes3.out
        clear f3 f4 f5 f6 p3 p4 p5 p6 hcy0 hcy1 hcy2 hcy3 hd6 hrow
        generalize ((((W3.setCell ⟨p9, 3, none⟩ (.int .u64 (wd ys 0 64 : Nat))).setCell ⟨p9, 4, none⟩ (.int .u64 (wd ys 64 64 : Nat))).setCell ⟨p9, 5, none⟩ (.int .u64 (wd ys 128 64 : Nat))).setCell ⟨p9, 6, none⟩ (.int .u64 (wd ys 192 64 : Nat))) = W4 at *
        have HO4 := Lib.hid ho4
        clear ho4
        go_wp2_with (first
          | (refine wpList_load_row rfl 59 _ rfl p9 rfl 59 (fc7 ⟨true, rtim yl 0, rtim yh h, ys⟩) (0, 0) _ hr4 Try.underlying59 rfl isz_f ?_)
          | (refine wpList_store_row rfl 59 (.tmp 4) (.tmp 74) rfl (w.heap.size + 1) (fc7 ⟨true, rtim yl 0, rtim yh h, ys⟩) rfl rfl 59 _ HRS isz_f rfl (by simp [Value.oneCell']) ?_))
        refine bodyPost_ret (v := .agg (fc7 ⟨true, rtim yl 0, rtim yh h, ys⟩)) (results_cell_row rfl _ _ (w.heap.size + 1) _ (fc7 ⟨true, rtim yl 0, rtim yh h, ys⟩) (0, 0) _ rfl (setRow_heap _ _ _ _ _ _ HRS) Try.underlying59 rfl isz_f) rfl ?_
        have hbd2 : Below wr.heap.size wr W3 := by rw [HP9.out]; exact HBd.out
        rw [HEnd.out]
        exact ⟨by first | rfl | (rw [hRep]; rfl), ((HB.out.2.2.1.below hbd2).only HO4.out (by have := HPB.out; have := HLTd.out; omega) (by have := HKB.out; have := HLTd.out; omega)).keep (S := fun b => b = w.heap.size + 1) ⟨rfl, rfl, rfl, by rw [setRow_size]; exact Nat.le_refl _, fun b _ hb => setRow_other _ _ b _ hb⟩ (fun e => by have := HPB.out; omega) (fun e => by have := HKB.out; omega), ((HKW.out.next hbd2).two HO4.out (by have := HLTd.out; omega)).rowAt (by omega) _⟩


theorem of_501 (n : Nat) (f : F) (hch : ∀ i, i < f.len → OfOk n (f.nth i).args) (l g : Int) (st : Nat → Bool) (sv : Value) (w : World) (S : Nat → Prop) (PB KB : Nat) (K : Nat → FC) (hsv : SV w S f sv) (hS : ∀ b, S b → b ≠ KB) (hkn : KN w PB KB n K) (hfk : ∀ k, FOk (K k)) (h6 : f.len ≤ 600) (hpk : preK n f) (hone : f.len = 1) (lz : (l == 0) = false) (lne : ¬ l = 0) (hlo : 0 ≤ l ∧ l ≤ 64) :
    Calls Try.prog 59 #[.pointer (some ⟨PB, 0, none⟩), .agg #[.int .i64 5, .int .u64 (wd st 0 64 : Nat), .int .u64 (wd st 64 64 : Nat), .int .u64 (wd st 128 64 : Nat), .int .u64 (wd st 192 64 : Nat), .int .i64 l, .int .i64 0, .int .i64 g, sv]] w fun e w' => e = .returned (.agg (fc7 (repS l 0 ((facF f K).1.headD FC0)))) ∧ KN w' PB KB n ((facF f K).2) ∧ Only KB w w' := by
  have HSV := Lib.hid hsv
  have HCh := Lib.hid hch
  have HS := Lib.hid hS
  have HPk := Lib.hid hpk
  have hfl : (f.len : Int) ≤ 600 := by omega
  have HFl := Lib.hid h6
  obtain ⟨ad, cap, rfl⟩ := slice_form hsv
  obtain ⟨W2, hW2⟩ : ∃ W2, W2 = (w.alloc (.cells #[.int .i64 5, .int .u64 (wd st 0 64 : Nat), .int .u64 (wd st 64 64 : Nat), .int .u64 (wd st 128 64 : Nat), .int .u64 (wd st 192 64 : Nat), .int .i64 l, .int .i64 0, .int .i64 g, .slice ad f.len cap] 28)).alloc (.cells z7 59) := ⟨_, rfl⟩
  have hx : Below w.heap.size w W2 := by rw [hW2]; exact ((Below.refl _ _).alloc (Nat.le_refl _) _).alloc (by simp) _
  have hz2 : W2.heap.size = w.heap.size + 2 := by rw [hW2]; simp
  have hg0 : W2.heap[w.heap.size]? = some (.cells #[.int .i64 5, .int .u64 (wd st 0 64 : Nat), .int .u64 (wd st 64 64 : Nat), .int .u64 (wd st 128 64 : Nat), .int .u64 (wd st 192 64 : Nat), .int .i64 l, .int .i64 0, .int .i64 g, .slice ad f.len cap] 28 (0, 0)) := by
    rw [hW2, Below.heap_alloc _ _ _ (by simp)]
    exact heap_alloc_new w _
  have hg1 : W2.heap[w.heap.size + 1]? = some (.cells z7 59 (0, 0)) := by
    have := heap_alloc_new (w.alloc (.cells #[.int .i64 5, .int .u64 (wd st 0 64 : Nat), .int .u64 (wd st 64 64 : Nat), .int .u64 (wd st 128 64 : Nat), .int .u64 (wd st 192 64 : Nat), .int .i64 l, .int .i64 0, .int .i64 g, .slice ad f.len cap] 28)) (.cells z7 59)
    rw [hW2]
    simpa using this
  have HKB := Lib.hid hkn.lt
  have HPB := Lib.hid hkn.plt
  have HKn := Lib.hid (hkn.below hx)
  have HFk := Lib.hid hfk
  have HX := Lib.hid hx
  have HG0 := Lib.hid hg0
  have HG1 := Lib.hid hg1
  have HZ := Lib.hid hz2
  have HW2 := Lib.hid hW2
  clear hsv hch hS hkn hfk h6 hpk hx hz2 hg0 hg1 hW2
  have HOne := Lib.hid hone
  clear hone
  have HLo := Lib.hid hlo
  clear hlo
  go_enter Try.func59, Try.ntmps59
  go_wp2_with fail
  go_loopw [5, 6] (fun v i wr => ∃ (k : Nat) (ys : List FC) (K' : Nat → FC), k ≤ f.len ∧ i = .int .i64 k ∧ Hid (ys.length = k ∧ PV 59 7 cells_f wr (w.heap.size + 2) ys v ∧ KN wr PB KB n K' ∧ Only KB W2 wr ∧ facF f K = (ys ++ (facF (f.drop k) K').1, (facF (f.drop k) K').2) ∧ ∀ k, FOk (K' k))) (fun _ i _ => f.len - (intOf i).toNat)
  case atStart =>
    refine ⟨0, [], K, Nat.zero_le _, rfl, ?_⟩
    rw [← HW2.out]
    exact Lib.hid ⟨rfl, PV.nil _ _ _ _ _, HKn.out, Only.refl _ _, by (have : f.drop 0 = f := by cases f <;> rfl); rw [this]; rfl, HFk.out⟩
  case round =>
    obtain ⟨k, ys, K', hk, rfl, HB⟩ := hrel
    have hkw : Only KB w wr := (Only.of_below HX.out).trans HB.out.2.2.2.1
    have hbox : wr.heap[w.heap.size]? = some (.cells #[.int .i64 5, .int .u64 (wd st 0 64 : Nat), .int .u64 (wd st 64 64 : Nat), .int .u64 (wd st 128 64 : Nat), .int .u64 (wd st 192 64 : Nat), .int .i64 l, .int .i64 0, .int .i64 g, .slice ad f.len cap] 28 (0, 0)) := (HB.out.2.2.2.1.block _ (by have := HZ.out; omega) (by have := HKB.out; omega)).trans HG0.out
    have hres : wr.heap[w.heap.size + 1]? = some (.cells z7 59 (0, 0)) := (HB.out.2.2.2.1.block _ (by have := HZ.out; omega) (by have := HKB.out; omega)).trans HG1.out
    obtain ⟨⟨⟨b0, b1, b2⟩, b3, b4, b5⟩, b6, b7, b8⟩ := nine hbox
    have hlt : w.heap.size + 1 < wr.heap.size := (Array.getElem?_eq_some_iff.1 hres).1
    have HLT := Lib.hid hlt
    have HKW := Lib.hid hkw
    have HRes := Lib.hid hres
    obtain ⟨vad, vcap, rfl⟩ := own_sl HB.out.2.1
    clear hkw hbox hlt hres
    by_cases hkn : k < f.len
    · have ki : (k : Int) < f.len := by omega
      have ki0 : (0 : Int) ≤ k := by omega
      obtain ⟨b, i0, ad2, cp2, rfl, hsv2, c0, c1, c2, c3, c4, c5, c6, c7, c8⟩ := kid HSV.out (Afar.only_ne HKW.out HS.out) k hkn
      have HS2 := Lib.hid hsv2
      have HNd := Lib.hid (NdK_nth n f k hkn HPk.out)
      have HL := Lib.hid (fun W hW hK => HCh.out k hkn (f.nth k).op (f.nth k).lo (f.nth k).hi (f.nth k).g (f.nth k).st (.slice ad2 (f.nth k).args.len cp2) W S PB KB K' hW HS.out hK HB.out.2.2.2.2.2 HNd.out)
      have HSt := Lib.hid (HB.out.2.2.2.2.1.trans (by rw [fac_step f k hkn K']))
      have eT : (⟨(f.nth k).op, (f.nth k).st, (f.nth k).lo, (f.nth k).hi, (f.nth k).g, (f.nth k).args⟩ : TN) = f.nth k := rfl
      have HOkY := Lib.hid (facN_ok n (f.nth k) K' HNd.out HB.out.2.2.2.2.2)
      rw [eT] at HL
      obtain ⟨Y, hY⟩ : ∃ Y, facN (f.nth k) K' = Y := ⟨_, rfl⟩
      rw [hY] at HL HSt HOkY
      obtain ⟨y, KY⟩ := Y
      clear hsv2 eT hY
      go_wp2_with (first
        | (go_at_call 59; (with_reducible refine (HL.out _ HS2.out HB.out.2.2.1).mono ?_); rintro e w2 ⟨rfl, hk2, ho2⟩
           have HK2 := Lib.hid hk2
           have HO2 := Lib.hid ho2
           have HPV := Lib.hid (HB.out.2.1.only (by have := HKB.out; omega) ho2)
           clear hk2 ho2 b0 b1 b2 b3 b4 b5 b6 b7 b8 c0 c1 c2 c3 c4 c5 c6 c7 c8)
        | (at_builtin; refine app1 (w.heap.size + 2) 92 59 (.agg z7) 7 56 Try.underlying92 info_f rfl (by decide) w2 rfl (.tmp 15) (.tmp 23) rfl (by have := HLT.out; have := HO2.out.size; omega) (.slice vad ys.length vcap) ys.length _ (cells_f y) rfl rfl HPV.out _ rfl rfl rfl ?d1 ?d2 ?d3 ?_))
      case d1 => simp [cells_f, Value.oneCell']
      case d2 => have := HB.out.1; unfold maxLen; omega
      case d3 => have := HB.out.1; omega
      intro g0 cap0 w8 ho8 hk8 hg8
      have hown : ∀ x, (Value.slice vad ys.length vcap).ownBlock = some x → w.heap.size + 2 ≤ x := fun x hx => (own_at HB.out.2.1 x hx).1
      have HF : Hid ((ys ++ [y]).length = k + 1 ∧ PV 59 7 cells_f w8 (w.heap.size + 2) (ys ++ [y]) (.slice (some ⟨g0, 0, none⟩) (ys.length + 1) cap0) ∧ KN w8 PB KB n KY ∧ Only KB W2 w8) := by
        refine Lib.hid ⟨by rw [List.length_append, HB.out.1]; rfl, ?_, HK2.out.keep hk8 (fun e => by have := hown _ e; have := HPB.out; omega) (fun e => by have := hown _ e; have := HKB.out; omega), ?_⟩
        · unfold PV
          rw [List.length_append, List.flatMap_append]
          have : ([y] : List FC).flatMap cells_f = cells_f y := by simp
          rw [this]
          exact ho8
        · have h1 := HB.out.2.2.2.1.trans HO2.out
          exact ⟨hk8.os.trans h1.os, hk8.tape.trans h1.tape, hk8.output.trans h1.output, Nat.le_trans h1.size hk8.size, fun b hb hne => (hk8.block b (by have := h1.size; omega) (fun e => by have := hown _ e; have := HZ.out; omega)).trans (h1.block b hb hne)⟩
      clear ho8 hk8 hg8 hown
      go_wp2_with fail
      go_roundw
      case rel => exact ⟨k + 1, ys ++ [y], KY, by omega, by go_num, Lib.hid ⟨HF.out.1, HF.out.2.1, HF.out.2.2.1, HF.out.2.2.2, by rw [HSt.out, List.append_assoc]; rfl, HOkY.out.2⟩⟩
      case measure => simp [intOf]; omega
    · obtain rfl : k = f.len := by omega
      have hend := HB.out.2.2.2.2.1
      rw [F.drop_len] at hend
      replace hend : facF f K = (ys ++ [], K') := hend
      rw [List.append_nil] at hend
      have HEnd := Lib.hid hend
      have hfo := facF_ok n f K HPk.out HFk.out
      rw [hend] at hfo
      have HFo := Lib.hid hfo
      clear hend hfo
      have hRep : ∀ x : FC, repS l 0 x = ⟨x.nul, rtim x.lo l, rtim x.hi 0, noSet⟩ := fun x => by
        show FC.mk _ _ _ _ = _
        rw [decide_eq_false lne]
        rfl
      obtain ⟨y, rfl⟩ : ∃ y, ys = [y] := by
        have hlen := HB.out.1
        rw [HOne.out] at hlen
        match ys, hlen with
        | [y], _ => exact ⟨y, rfl⟩
      have hpv : PV 59 7 cells_f wr (w.heap.size + 2) [y] (.slice vad 1 vcap) := HB.out.2.1
      obtain ⟨q, rfl, ⟨y0, y1, y2⟩, y3, y4, y5, y6⟩ := fac_at (ps := [y]) hpv (Below.refl _ _) 0 Nat.zero_lt_one
      have hqw := own_at hpv q rfl
      have HQw := Lib.hid hqw
      rw [Nat.zero_mul] at y0 y1 y2 y3 y4 y5 y6
      simp only [List.getElem_cons_zero, Nat.zero_add] at y0 y1 y2 y3 y4 y5 y6
      have hoky := HFo.out.1 y (List.mem_singleton_self _)
      have HOky := Lib.hid hoky
      obtain ⟨yn, yl, yh, ys⟩ := y
      have hoc : ¬ (vcap : Int) < 1 := by
        rcases hpv.2 with ⟨e, _⟩ | ⟨g, cap, cur, e, _, _, hle, _⟩
        · cases e
        · cases e
          simp at hle
          omega
      clear hpv hqw hoky
      have HT1 := Lib.hid (fun W => rtim_any yl l ⟨by have h1 := HOky.out.1.1; simp only at h1; omega, HOky.out.1.2⟩ ⟨by have := HLo.out.1; omega, by exact HLo.out.2⟩ W)
      have HT2 := Lib.hid (fun W => rtim_any yh 0 HOky.out.2 ⟨by decide, by decide⟩ W)
      go_upto_region 14 with fail
      have HSW : Hid (SRp wr q w.heap.size yn yl yh l 0 wr) := Lib.hid ⟨⟨y0, y1, y2⟩, ⟨b5, b6⟩, Below.refl _ _⟩
      have HC3 := Lib.hid y3
      have HC4 := Lib.hid y4
      have HC5 := Lib.hid y5
      have HC6 := Lib.hid y6
      clear y0 y1 y2 y3 y4 y5 y6 b0 b1 b2 b3 b4 b5 b6 b7 b8
      refine wp_region_held_drew (S := fun w' => SRp wr q w.heap.size yn yl yh l 0 w') (by kernel_rfl) ?_ (fun hHeld => ?_)
      · exact HSW.out.drew
      refine wpAnyH_take (i := 0) (v := ?av0) rfl (by kernel_rfl) (by kernel_rfl) (by kernel_rfl) (fun _ _ _ h => h) (Or.inl ⟨by rfl, ?ay0⟩) (by assumption) ?ar0
      case ay0 =>
        intro wx hSw
        clear hSw
        go_simp
        first | done | (with_reducible rfl)
      (try simp only [Act.put, List.getElem_toArray, List.getElem_cons_zero, List.setIfInBounds_toArray, List.set_cons_zero, List.set_cons_succ])
      refine wpAnyH_take (i := 1) (v := ?av1) rfl (by kernel_rfl) (by kernel_rfl) (by kernel_rfl) (fun _ _ _ h => h) (Or.inl ⟨by rfl, ?ay1⟩) (by assumption) ?ar1
      case ay1 =>
        intro wx hSw
        have ⟨⟨y0, y1, y2⟩, ⟨b5, b6⟩, _⟩ := hSw
        clear hSw
        go_simp
        first | done | (with_reducible rfl)
      (try simp only [Act.put, List.getElem_toArray, List.getElem_cons_succ, List.getElem_cons_zero, List.setIfInBounds_toArray, List.set_cons_zero, List.set_cons_succ])
      refine wpAnyH_take (i := 2) (v := ?av2) rfl (by kernel_rfl) (by kernel_rfl) (by kernel_rfl) (fun _ _ _ h => h) (Or.inl ⟨by rfl, ?ay2⟩) (by assumption) ?ar2
      case ay2 =>
        intro wx hSw
        clear hSw
        go_simp
        first | done | (with_reducible rfl)
      (try simp only [Act.put, List.getElem_toArray, List.getElem_cons_succ, List.getElem_cons_zero, List.setIfInBounds_toArray, List.set_cons_zero, List.set_cons_succ])
      refine wpAnyH_take (i := 3) (v := ?av3) rfl (by kernel_rfl) (by kernel_rfl) (by kernel_rfl) (fun _ _ _ h => h) (Or.inl ⟨by rfl, ?ay3⟩) (by assumption) ?ar3
      case ay3 =>
        intro wx hSw
        clear hSw
        go_simp
        first | done | (with_reducible rfl)
      (try simp only [Act.put, List.getElem_toArray, List.getElem_cons_succ, List.getElem_cons_zero, List.setIfInBounds_toArray, List.set_cons_zero, List.set_cons_succ])
      refine wpAnyH_take (i := 4) (v := ?av4) rfl (by kernel_rfl) (by kernel_rfl) (by kernel_rfl) (fun _ _ _ h => h) (Or.inl ⟨by rfl, ?ay4⟩) (by assumption) ?ar4
      case ay4 =>
        intro wx hSw
        clear hSw
        go_simp
        first | done | (with_reducible rfl)
      (try simp only [Act.put, List.getElem_toArray, List.getElem_cons_succ, List.getElem_cons_zero, List.setIfInBounds_toArray, List.set_cons_zero, List.set_cons_succ])
      refine wpAnyH_take (i := 5) (v := ?av5) rfl (by kernel_rfl) (by kernel_rfl) (by kernel_rfl) (fun _ _ _ h => h) (Or.inl ⟨by rfl, ?ay5⟩) (by assumption) ?ar5
      case ay5 =>
        intro wx hSw
        clear hSw
        go_simp
        first | done | (with_reducible rfl)
      (try simp only [Act.put, List.getElem_toArray, List.getElem_cons_succ, List.getElem_cons_zero, List.setIfInBounds_toArray, List.set_cons_zero, List.set_cons_succ])
      refine wpAnyH_take (i := 6) (v := ?av6) rfl (by kernel_rfl) (by kernel_rfl) (by kernel_rfl) (fun _ _ _ h => h) (Or.inl ⟨by rfl, ?ay6⟩) (by assumption) ?ar6
      case ay6 =>
        intro wx hSw
        clear hSw
        go_simp
        first | done | (with_reducible rfl)
      (try simp only [Act.put, List.getElem_toArray, List.getElem_cons_succ, List.getElem_cons_zero, List.setIfInBounds_toArray, List.set_cons_zero, List.set_cons_succ])
      refine wpAnyH_take (i := 7) (v := ?av7) rfl (by kernel_rfl) (by kernel_rfl) (by kernel_rfl) (fun _ _ _ h => h) (Or.inl ⟨by rfl, ?ay7⟩) (by assumption) ?ar7
      case ay7 =>
        intro wx hSw
        have ⟨⟨y0, y1, y2⟩, ⟨b5, b6⟩, _⟩ := hSw
        clear hSw
        go_simp
        first | done | (with_reducible rfl)
      (try simp only [Act.put, List.getElem_toArray, List.getElem_cons_succ, List.getElem_cons_zero, List.setIfInBounds_toArray, List.set_cons_zero, List.set_cons_succ])
      refine wpAnyH_take (i := 8) (v := ?av8) rfl (by kernel_rfl) (by kernel_rfl) (by kernel_rfl) (fun _ _ _ h => h) (Or.inl ⟨by rfl, ?ay8⟩) (by assumption) ?ar8
      case ay8 =>
        intro wx hSw
        clear hSw
        go_simp
        first | done | (with_reducible rfl)
      (try simp only [Act.put, List.getElem_toArray, List.getElem_cons_succ, List.getElem_cons_zero, List.setIfInBounds_toArray, List.set_cons_zero, List.set_cons_succ])
      refine wpAnyH_take (i := 9) (v := ?av9) rfl (by kernel_rfl) (by kernel_rfl) (by kernel_rfl) (fun _ _ _ h => h) (Or.inl ⟨by rfl, ?ay9⟩) (by assumption) ?ar9
      case ay9 =>
        intro wx hSw
        clear hSw
        go_simp
        first | done | (with_reducible rfl)
      (try simp only [Act.put, List.getElem_toArray, List.getElem_cons_succ, List.getElem_cons_zero, List.setIfInBounds_toArray, List.set_cons_zero, List.set_cons_succ])
      refine wpAnyH_take (i := 10) (v := ?av10) rfl (by kernel_rfl) (by kernel_rfl) (by kernel_rfl) (fun _ _ _ h => h) (Or.inl ⟨by rfl, ?ay10⟩) (by assumption) ?ar10
      case ay10 =>
        intro wx hSw
        clear hSw
        go_simp
        first | done | (with_reducible rfl)
      (try simp only [Act.put, List.getElem_toArray, List.getElem_cons_succ, List.getElem_cons_zero, List.setIfInBounds_toArray, List.set_cons_zero, List.set_cons_succ])
      refine wpAnyH_take (i := 11) (v := ?av11) rfl (by kernel_rfl) (by kernel_rfl) (by kernel_rfl) (fun _ _ _ h => h) (Or.inl ⟨by rfl, ?ay11⟩) (by assumption) ?ar11
      case ay11 =>
        intro wx hSw
        clear hSw
        go_simp
        first | done | (with_reducible rfl)
      (try simp only [Act.put, List.getElem_toArray, List.getElem_cons_succ, List.getElem_cons_zero, List.setIfInBounds_toArray, List.set_cons_zero, List.set_cons_succ])
      refine wpAnyH_take (i := 12) (v := ?av12) rfl (by kernel_rfl) (by kernel_rfl) (by kernel_rfl) (fun _ _ _ h => h) (Or.inl ⟨by rfl, ?ay12⟩) (by assumption) ?ar12
      case ay12 =>
        intro wx hSw
        have ⟨⟨y0, y1, y2⟩, ⟨b5, b6⟩, _⟩ := hSw
        clear hSw
        go_simp
        first | done | (with_reducible rfl)
      (try simp only [Act.put, List.getElem_toArray, List.getElem_cons_succ, List.getElem_cons_zero, List.setIfInBounds_toArray, List.set_cons_zero, List.set_cons_succ])
      refine wpAnyH_take (i := 13) (v := ?av13) rfl (by kernel_rfl) (by kernel_rfl) (by kernel_rfl) (fun _ _ _ h => h) (Or.inl ⟨by rfl, ?ay13⟩) (by assumption) ?ar13
      case ay13 =>
        intro wx hSw
        clear hSw
        go_simp
        first | done | (with_reducible rfl)
      (try simp only [Act.put, List.getElem_toArray, List.getElem_cons_succ, List.getElem_cons_zero, List.setIfInBounds_toArray, List.set_cons_zero, List.set_cons_succ])
      refine wpAnyH_take (i := 14) (v := ?av14) rfl (by kernel_rfl) (by kernel_rfl) (by kernel_rfl) (fun _ _ _ h => h) (Or.inl ⟨by rfl, ?ay14⟩) (by assumption) ?ar14
      case ay14 =>
        intro wx hSw
        have ⟨⟨y0, y1, y2⟩, ⟨b5, b6⟩, _⟩ := hSw
        clear hSw
        go_simp
        first | done | (with_reducible rfl)
      (try simp only [Act.put, List.getElem_toArray, List.getElem_cons_succ, List.getElem_cons_zero, List.setIfInBounds_toArray, List.set_cons_zero, List.set_cons_succ])
      refine wpAnyH_take (i := 16) (v := ?av16) rfl (by kernel_rfl) (by kernel_rfl) (by kernel_rfl) (fun _ _ _ h => h) (Or.inl ⟨by rfl, ?ay16⟩) (by assumption) ?ar16
      case ay16 =>
        intro wx hSw
        clear hSw
        go_simp
        first | done | (with_reducible rfl)
      (try simp only [Act.put, List.getElem_toArray, List.getElem_cons_succ, List.getElem_cons_zero, List.setIfInBounds_toArray, List.set_cons_zero, List.set_cons_succ])
      refine wpAnyH_take (i := 17) (v := ?av17) rfl (by kernel_rfl) (by kernel_rfl) (by kernel_rfl) (fun _ _ _ h => h) (Or.inl ⟨by rfl, ?ay17⟩) (by assumption) ?ar17
      case ay17 =>
        intro wx hSw
        clear hSw
        go_simp
        first | done | (with_reducible rfl)
      (try simp only [Act.put, List.getElem_toArray, List.getElem_cons_succ, List.getElem_cons_zero, List.setIfInBounds_toArray, List.set_cons_zero, List.set_cons_succ])
      refine wpAnyH_take (i := 18) (v := ?av18) rfl (by kernel_rfl) (by kernel_rfl) (by kernel_rfl) (fun _ _ _ h => h) (Or.inl ⟨by rfl, ?ay18⟩) (by assumption) ?ar18
      case ay18 =>
        intro wx hSw
        clear hSw
        go_simp
        first | done | (with_reducible rfl)
      (try simp only [Act.put, List.getElem_toArray, List.getElem_cons_succ, List.getElem_cons_zero, List.setIfInBounds_toArray, List.set_cons_zero, List.set_cons_succ])
      refine wpAnyH_take (i := 19) (v := ?av19) rfl (by kernel_rfl) (by kernel_rfl) (by kernel_rfl) (fun _ _ _ h => h) (Or.inl ⟨by rfl, ?ay19⟩) (by assumption) ?ar19
      case ay19 =>
        intro wx hSw
        have ⟨⟨y0, y1, y2⟩, ⟨b5, b6⟩, _⟩ := hSw
        clear hSw
        go_simp
        first | done | (with_reducible rfl)
      (try simp only [Act.put, List.getElem_toArray, List.getElem_cons_succ, List.getElem_cons_zero, List.setIfInBounds_toArray, List.set_cons_zero, List.set_cons_succ])
      refine wpAnyH_take (i := 20) (v := ?av20) rfl (by kernel_rfl) (by kernel_rfl) (by kernel_rfl) (fun _ _ _ h => h) (Or.inl ⟨by rfl, ?ay20⟩) (by assumption) ?ar20
      case ay20 =>
        intro wx hSw
        clear hSw
        go_simp
        first | done | (with_reducible rfl)
      (try simp only [Act.put, List.getElem_toArray, List.getElem_cons_succ, List.getElem_cons_zero, List.setIfInBounds_toArray, List.set_cons_zero, List.set_cons_succ])
      refine wpAnyH_take (i := 21) (v := ?av21) rfl (by kernel_rfl) (by kernel_rfl) (by kernel_rfl) (fun _ _ _ h => h) (Or.inl ⟨by rfl, ?ay21⟩) (by assumption) ?ar21
      case ay21 =>
        intro wx hSw
        have ⟨⟨y0, y1, y2⟩, ⟨b5, b6⟩, _⟩ := hSw
        clear hSw
        go_simp
        first | done | (with_reducible rfl)
      (try simp only [Act.put, List.getElem_toArray, List.getElem_cons_succ, List.getElem_cons_zero, List.setIfInBounds_toArray, List.set_cons_zero, List.set_cons_succ])
      refine wpAnyH_ready (rs := [15, 24]) (by kernel_rfl) (by simp) ?_
      refine AllReadyH.cons rfl (fun K hK => ?_) (AllReadyH.cons rfl (fun K hK => ?_) AllReadyH.nil)
      · go_simp
        go_at_call 79
        refine (HT1.out _).mono ?_
        rintro e w9 ⟨rfl, rfl⟩
        refine hK.out _ _ (by assumption) (fun hH1 => ?_)
        clear hK K
        (try simp only [Act.put, List.getElem_toArray, List.getElem_cons_succ, List.getElem_cons_zero, List.setIfInBounds_toArray, List.set_cons_zero, List.set_cons_succ])
        refine wpAnyH_ready (rs := [22, 24]) (by kernel_rfl) (by simp) ?_
        refine AllReadyH.cons rfl (fun K hK => ?_) (AllReadyH.cons rfl (fun K hK => ?_) AllReadyH.nil)
        · go_simp
          go_at_call 79
          refine (HT2.out _).mono ?_
          rintro e w9 ⟨rfl, rfl⟩
          refine hK.out _ _ (by assumption) (fun hH2 => ?_)
          clear hK K
          (try simp only [Act.put, List.getElem_toArray, List.getElem_cons_succ, List.getElem_cons_zero, List.setIfInBounds_toArray, List.set_cons_zero, List.set_cons_succ])
          refine wpAnyH_take (i := 23) (v := ?bv23) rfl (by kernel_rfl) (by kernel_rfl) (by kernel_rfl) (fun _ _ _ h => h) (Or.inl ⟨by rfl, ?by23⟩) (by assumption) ?br23
          case by23 =>
            intro wx hSw
            clear hSw
            go_simp
            first | done | (with_reducible rfl)
          (try simp only [Act.put, List.getElem_toArray, List.getElem_cons_succ, List.getElem_cons_zero, List.setIfInBounds_toArray, List.set_cons_zero, List.set_cons_succ])
          refine wpAnyH_ready (rs := [24]) (by kernel_rfl) (by simp) ?_
          refine AllReadyH.cons rfl (fun K hK => ?_) AllReadyH.nil
          go_simp
          refine hK.out _ _ ?_ (fun hH3 => ?_)
          · first | exact HSW.out.alloc _ | exact (HSW.out.alloc _).drew | exact HSW.out.drew.alloc _
          clear hK K
          (try simp only [Act.put, List.getElem_toArray, List.getElem_cons_succ, List.getElem_cons_zero, List.setIfInBounds_toArray, List.set_cons_zero, List.set_cons_succ])
          refine wpAnyH_ready (rs := [25]) (by kernel_rfl) (by simp) ?_
          refine AllReadyH.cons rfl (fun K hK => ?_) AllReadyH.nil
          go_simp
          refine hK.out _ _ ?_ (fun hH5 => ?_)
          · first | exact HSW.out.alloc _ | exact (HSW.out.alloc _).drew | exact HSW.out.drew.alloc _
          clear hK K
          (try simp only [Act.put, List.getElem_toArray, List.getElem_cons_succ, List.getElem_cons_zero, List.setIfInBounds_toArray, List.set_cons_zero, List.set_cons_succ])
          refine wpAnyH_done (by kernel_rfl) ?_ _
          have hn2 : (wr.alloc (.cells #[.bool yn, .int .i64 (rtim yl l), .int .i64 (rtim yh 0), .int .u64 0, .int .u64 0, .int .u64 0, .int .u64 0] 59)).drew.heap[wr.heap.size]? = some (.cells #[.bool yn, .int .i64 (rtim yl l), .int .i64 (rtim yh 0), .int .u64 0, .int .u64 0, .int .u64 0, .int .u64 0] 59 (0, 0)) := heap_alloc_new wr (.cells #[.bool yn, .int .i64 (rtim yl l), .int .i64 (rtim yh 0), .int .u64 0, .int .u64 0, .int .u64 0, .int .u64 0] 59)
          have hbd : Below wr.heap.size wr (wr.alloc (.cells #[.bool yn, .int .i64 (rtim yl l), .int .i64 (rtim yh 0), .int .u64 0, .int .u64 0, .int .u64 0, .int .u64 0] 59)).drew := ((Below.refl _ _).alloc (Nat.le_refl _) _).drew
          go_upto_region 15 with fail
          have hcy0 := (hbd.cell (p := ⟨q, 3, none⟩) HQw.out.2).trans HC3.out
          have hcy1 := (hbd.cell (p := ⟨q, 4, none⟩) HQw.out.2).trans HC4.out
          have hcy2 := (hbd.cell (p := ⟨q, 5, none⟩) HQw.out.2).trans HC5.out
          have hcy3 := (hbd.cell (p := ⟨q, 6, none⟩) HQw.out.2).trans HC6.out
          have hd6 := (hbd.cell (p := ⟨w.heap.size, 6, none⟩) (by have := HLT.out; show w.heap.size < _; omega)).trans HSW.out.2.1.2
          have hres := (hbd.block _ HLT.out).trans HRes.out
          have hsz : wr.heap.size < (wr.alloc (.cells #[.bool yn, .int .i64 (rtim yl l), .int .i64 (rtim yh 0), .int .u64 0, .int .u64 0, .int .u64 0, .int .u64 0] 59)).drew.heap.size := by simp
          clear hHeld
          generalize (wr.alloc (.cells #[.bool yn, .int .i64 (rtim yl l), .int .i64 (rtim yh 0), .int .u64 0, .int .u64 0, .int .u64 0, .int .u64 0] 59)).drew = W3 at *
          have hrow : W3.heap[wr.heap.size]? = some (.cells (fc7 ⟨yn, rtim yl l, rtim yh 0, noSet⟩) 59 (0, 0)) := by
            unfold fc7
            rw [wd_noSet.1, wd_noSet.2.1, wd_noSet.2.2.1, wd_noSet.2.2.2]
            exact hn2
          have HBd := Lib.hid hbd
          have HRes3 := Lib.hid hres
          have HSz3 := Lib.hid hsz
          have HLTd := HLT
          have HBw := HB
          have HKWw := HKW
          have HBs := Lib.hid hbd.size
          clear hn2 hbd hres hsz
          generalize hp9 : wr.heap.size = p9 at *
          have HP9 := Lib.hid hp9
          clear hp9
          have HRS := HRes3.out
          have HRow := hrow
          clear hrow
          go_wp2_with (first
            | (refine wpList_load_row rfl 59 _ rfl p9 rfl 59 (fc7 ⟨yn, rtim yl l, rtim yh 0, noSet⟩) (0, 0) _ HRow Try.underlying59 rfl isz_f ?_)
            | (refine wpList_store_row rfl 59 (.tmp 4) (.tmp 74) rfl (w.heap.size + 1) (fc7 ⟨yn, rtim yl l, rtim yh 0, noSet⟩) rfl rfl 59 _ HRS isz_f rfl (by simp [Value.oneCell']) ?_))
          refine bodyPost_ret (v := .agg (fc7 ⟨yn, rtim yl l, rtim yh 0, noSet⟩)) (results_cell_row rfl _ _ (w.heap.size + 1) _ (fc7 ⟨yn, rtim yl l, rtim yh 0, noSet⟩) (0, 0) _ rfl (setRow_heap _ _ _ _ _ _ HRS) Try.underlying59 rfl isz_f) rfl ?_
          have hbd2 : Below wr.heap.size wr W3 := by rw [HP9.out]; exact HBd.out
          rw [HEnd.out]
          exact ⟨by first | rfl | (rw [hRep]; rfl), (HB.out.2.2.1.below hbd2).keep (S := fun b => b = w.heap.size + 1) ⟨rfl, rfl, rfl, by rw [setRow_size]; exact Nat.le_refl _, fun b _ hb => setRow_other _ _ b _ hb⟩ (fun e => by have := HPB.out; omega) (fun e => by have := HKB.out; omega), (HKW.out.next hbd2).rowAt (by omega) _⟩
        · go_simp
          refine hK.out _ _ ?_ (fun hH3 => ?_)
          · first | exact HSW.out.alloc _ | exact (HSW.out.alloc _).drew | exact HSW.out.drew.alloc _
          clear hK K
          (try simp only [Act.put, List.getElem_toArray, List.getElem_cons_succ, List.getElem_cons_zero, List.setIfInBounds_toArray, List.set_cons_zero, List.set_cons_succ])
          refine wpAnyH_ready (rs := [22]) (by kernel_rfl) (by simp) ?_
          refine AllReadyH.cons rfl (fun K hK => ?_) AllReadyH.nil
          go_simp
          go_at_call 79
          refine (HT2.out _).mono ?_
          rintro e w9 ⟨rfl, rfl⟩
          refine hK.out _ _ (by assumption) (fun hH4 => ?_)
          clear hK K
          (try simp only [Act.put, List.getElem_toArray, List.getElem_cons_succ, List.getElem_cons_zero, List.setIfInBounds_toArray, List.set_cons_zero, List.set_cons_succ])
          refine wpAnyH_take (i := 23) (v := ?cv23) rfl (by kernel_rfl) (by kernel_rfl) (by kernel_rfl) (fun _ _ _ h => h) (Or.inl ⟨by rfl, ?cy23⟩) (by assumption) ?cr23
          case cy23 =>
            intro wx hSw
            clear hSw
            go_simp
            first | done | (with_reducible rfl)
          (try simp only [Act.put, List.getElem_toArray, List.getElem_cons_succ, List.getElem_cons_zero, List.setIfInBounds_toArray, List.set_cons_zero, List.set_cons_succ])
          refine wpAnyH_ready (rs := [25]) (by kernel_rfl) (by simp) ?_
          refine AllReadyH.cons rfl (fun K hK => ?_) AllReadyH.nil
          go_simp
          refine hK.out _ _ ?_ (fun hH5 => ?_)
          · first | exact HSW.out.alloc _ | exact (HSW.out.alloc _).drew | exact HSW.out.drew.alloc _
          clear hK K
          (try simp only [Act.put, List.getElem_toArray, List.getElem_cons_succ, List.getElem_cons_zero, List.setIfInBounds_toArray, List.set_cons_zero, List.set_cons_succ])
          refine wpAnyH_done (by kernel_rfl) ?_ _
          have hn2 : (wr.alloc (.cells #[.bool yn, .int .i64 (rtim yl l), .int .i64 (rtim yh 0), .int .u64 0, .int .u64 0, .int .u64 0, .int .u64 0] 59)).drew.heap[wr.heap.size]? = some (.cells #[.bool yn, .int .i64 (rtim yl l), .int .i64 (rtim yh 0), .int .u64 0, .int .u64 0, .int .u64 0, .int .u64 0] 59 (0, 0)) := heap_alloc_new wr (.cells #[.bool yn, .int .i64 (rtim yl l), .int .i64 (rtim yh 0), .int .u64 0, .int .u64 0, .int .u64 0, .int .u64 0] 59)
          have hbd : Below wr.heap.size wr (wr.alloc (.cells #[.bool yn, .int .i64 (rtim yl l), .int .i64 (rtim yh 0), .int .u64 0, .int .u64 0, .int .u64 0, .int .u64 0] 59)).drew := ((Below.refl _ _).alloc (Nat.le_refl _) _).drew
          go_upto_region 15 with fail
          have hcy0 := (hbd.cell (p := ⟨q, 3, none⟩) HQw.out.2).trans HC3.out
          have hcy1 := (hbd.cell (p := ⟨q, 4, none⟩) HQw.out.2).trans HC4.out
          have hcy2 := (hbd.cell (p := ⟨q, 5, none⟩) HQw.out.2).trans HC5.out
          have hcy3 := (hbd.cell (p := ⟨q, 6, none⟩) HQw.out.2).trans HC6.out
          have hd6 := (hbd.cell (p := ⟨w.heap.size, 6, none⟩) (by have := HLT.out; show w.heap.size < _; omega)).trans HSW.out.2.1.2
          have hres := (hbd.block _ HLT.out).trans HRes.out
          have hsz : wr.heap.size < (wr.alloc (.cells #[.bool yn, .int .i64 (rtim yl l), .int .i64 (rtim yh 0), .int .u64 0, .int .u64 0, .int .u64 0, .int .u64 0] 59)).drew.heap.size := by simp
          clear hHeld
          generalize (wr.alloc (.cells #[.bool yn, .int .i64 (rtim yl l), .int .i64 (rtim yh 0), .int .u64 0, .int .u64 0, .int .u64 0, .int .u64 0] 59)).drew = W3 at *
          have hrow : W3.heap[wr.heap.size]? = some (.cells (fc7 ⟨yn, rtim yl l, rtim yh 0, noSet⟩) 59 (0, 0)) := by
            unfold fc7
            rw [wd_noSet.1, wd_noSet.2.1, wd_noSet.2.2.1, wd_noSet.2.2.2]
            exact hn2
          have HBd := Lib.hid hbd
          have HRes3 := Lib.hid hres
          have HSz3 := Lib.hid hsz
          have HLTd := HLT
          have HBw := HB
          have HKWw := HKW
          have HBs := Lib.hid hbd.size
          clear hn2 hbd hres hsz
          generalize hp9 : wr.heap.size = p9 at *
          have HP9 := Lib.hid hp9
          clear hp9
          have HRS := HRes3.out
          have HRow := hrow
          clear hrow
          go_wp2_with (first
            | (refine wpList_load_row rfl 59 _ rfl p9 rfl 59 (fc7 ⟨yn, rtim yl l, rtim yh 0, noSet⟩) (0, 0) _ HRow Try.underlying59 rfl isz_f ?_)
            | (refine wpList_store_row rfl 59 (.tmp 4) (.tmp 74) rfl (w.heap.size + 1) (fc7 ⟨yn, rtim yl l, rtim yh 0, noSet⟩) rfl rfl 59 _ HRS isz_f rfl (by simp [Value.oneCell']) ?_))
          refine bodyPost_ret (v := .agg (fc7 ⟨yn, rtim yl l, rtim yh 0, noSet⟩)) (results_cell_row rfl _ _ (w.heap.size + 1) _ (fc7 ⟨yn, rtim yl l, rtim yh 0, noSet⟩) (0, 0) _ rfl (setRow_heap _ _ _ _ _ _ HRS) Try.underlying59 rfl isz_f) rfl ?_
          have hbd2 : Below wr.heap.size wr W3 := by rw [HP9.out]; exact HBd.out
          rw [HEnd.out]
          exact ⟨by first | rfl | (rw [hRep]; rfl), (HB.out.2.2.1.below hbd2).keep (S := fun b => b = w.heap.size + 1) ⟨rfl, rfl, rfl, by rw [setRow_size]; exact Nat.le_refl _, fun b _ hb => setRow_other _ _ b _ hb⟩ (fun e => by have := HPB.out; omega) (fun e => by have := HKB.out; omega), (HKW.out.next hbd2).rowAt (by omega) _⟩
      · go_simp
        refine hK.out _ _ ?_ (fun hH3 => ?_)
        · first | exact HSW.out.alloc _ | exact (HSW.out.alloc _).drew | exact HSW.out.drew.alloc _
        clear hK K
        (try simp only [Act.put, List.getElem_toArray, List.getElem_cons_succ, List.getElem_cons_zero, List.setIfInBounds_toArray, List.set_cons_zero, List.set_cons_succ])
        refine wpAnyH_ready (rs := [15]) (by kernel_rfl) (by simp) ?_
        refine AllReadyH.cons rfl (fun K hK => ?_) AllReadyH.nil
        go_simp
        go_at_call 79
        refine (HT1.out _).mono ?_
        rintro e w9 ⟨rfl, rfl⟩
        refine hK.out _ _ (by assumption) (fun hH1 => ?_)
        clear hK K
        (try simp only [Act.put, List.getElem_toArray, List.getElem_cons_succ, List.getElem_cons_zero, List.setIfInBounds_toArray, List.set_cons_zero, List.set_cons_succ])
        refine wpAnyH_ready (rs := [22]) (by kernel_rfl) (by simp) ?_
        refine AllReadyH.cons rfl (fun K hK => ?_) AllReadyH.nil
        go_simp
        go_at_call 79
        refine (HT2.out _).mono ?_
        rintro e w9 ⟨rfl, rfl⟩
        refine hK.out _ _ (by assumption) (fun hH2 => ?_)
        clear hK K
        (try simp only [Act.put, List.getElem_toArray, List.getElem_cons_succ, List.getElem_cons_zero, List.setIfInBounds_toArray, List.set_cons_zero, List.set_cons_succ])
        refine wpAnyH_take (i := 23) (v := ?dv23) rfl (by kernel_rfl) (by kernel_rfl) (by kernel_rfl) (fun _ _ _ h => h) (Or.inl ⟨by rfl, ?dy23⟩) (by assumption) ?dr23
        case dy23 =>
          intro wx hSw
          clear hSw
          go_simp
          first | done | (with_reducible rfl)
        (try simp only [Act.put, List.getElem_toArray, List.getElem_cons_succ, List.getElem_cons_zero, List.setIfInBounds_toArray, List.set_cons_zero, List.set_cons_succ])
        refine wpAnyH_ready (rs := [25]) (by kernel_rfl) (by simp) ?_
        refine AllReadyH.cons rfl (fun K hK => ?_) AllReadyH.nil
        go_simp
        refine hK.out _ _ ?_ (fun hH5 => ?_)
        · first | exact HSW.out.alloc _ | exact (HSW.out.alloc _).drew | exact HSW.out.drew.alloc _
        clear hK K
        (try simp only [Act.put, List.getElem_toArray, List.getElem_cons_succ, List.getElem_cons_zero, List.setIfInBounds_toArray, List.set_cons_zero, List.set_cons_succ])
        refine wpAnyH_done (by kernel_rfl) ?_ _
        have hn2 : (wr.alloc (.cells #[.bool yn, .int .i64 (rtim yl l), .int .i64 (rtim yh 0), .int .u64 0, .int .u64 0, .int .u64 0, .int .u64 0] 59)).drew.heap[wr.heap.size]? = some (.cells #[.bool yn, .int .i64 (rtim yl l), .int .i64 (rtim yh 0), .int .u64 0, .int .u64 0, .int .u64 0, .int .u64 0] 59 (0, 0)) := heap_alloc_new wr (.cells #[.bool yn, .int .i64 (rtim yl l), .int .i64 (rtim yh 0), .int .u64 0, .int .u64 0, .int .u64 0, .int .u64 0] 59)
        have hbd : Below wr.heap.size wr (wr.alloc (.cells #[.bool yn, .int .i64 (rtim yl l), .int .i64 (rtim yh 0), .int .u64 0, .int .u64 0, .int .u64 0, .int .u64 0] 59)).drew := ((Below.refl _ _).alloc (Nat.le_refl _) _).drew
        go_upto_region 15 with fail
        have hcy0 := (hbd.cell (p := ⟨q, 3, none⟩) HQw.out.2).trans HC3.out
        have hcy1 := (hbd.cell (p := ⟨q, 4, none⟩) HQw.out.2).trans HC4.out
        have hcy2 := (hbd.cell (p := ⟨q, 5, none⟩) HQw.out.2).trans HC5.out
        have hcy3 := (hbd.cell (p := ⟨q, 6, none⟩) HQw.out.2).trans HC6.out
        have hd6 := (hbd.cell (p := ⟨w.heap.size, 6, none⟩) (by have := HLT.out; show w.heap.size < _; omega)).trans HSW.out.2.1.2
        have hres := (hbd.block _ HLT.out).trans HRes.out
        have hsz : wr.heap.size < (wr.alloc (.cells #[.bool yn, .int .i64 (rtim yl l), .int .i64 (rtim yh 0), .int .u64 0, .int .u64 0, .int .u64 0, .int .u64 0] 59)).drew.heap.size := by simp
        clear hHeld
        generalize (wr.alloc (.cells #[.bool yn, .int .i64 (rtim yl l), .int .i64 (rtim yh 0), .int .u64 0, .int .u64 0, .int .u64 0, .int .u64 0] 59)).drew = W3 at *
        have hrow : W3.heap[wr.heap.size]? = some (.cells (fc7 ⟨yn, rtim yl l, rtim yh 0, noSet⟩) 59 (0, 0)) := by
          unfold fc7
          rw [wd_noSet.1, wd_noSet.2.1, wd_noSet.2.2.1, wd_noSet.2.2.2]
          exact hn2
        have HBd := Lib.hid hbd
        have HRes3 := Lib.hid hres
        have HSz3 := Lib.hid hsz
        have HLTd := HLT
        have HBw := HB
        have HKWw := HKW
        have HBs := Lib.hid hbd.size
        clear hn2 hbd hres hsz
        generalize hp9 : wr.heap.size = p9 at *
        have HP9 := Lib.hid hp9
        clear hp9
        have HRS := HRes3.out
        have HRow := hrow
        clear hrow
        go_wp2_with (first
          | (refine wpList_load_row rfl 59 _ rfl p9 rfl 59 (fc7 ⟨yn, rtim yl l, rtim yh 0, noSet⟩) (0, 0) _ HRow Try.underlying59 rfl isz_f ?_)
          | (refine wpList_store_row rfl 59 (.tmp 4) (.tmp 74) rfl (w.heap.size + 1) (fc7 ⟨yn, rtim yl l, rtim yh 0, noSet⟩) rfl rfl 59 _ HRS isz_f rfl (by simp [Value.oneCell']) ?_))
        refine bodyPost_ret (v := .agg (fc7 ⟨yn, rtim yl l, rtim yh 0, noSet⟩)) (results_cell_row rfl _ _ (w.heap.size + 1) _ (fc7 ⟨yn, rtim yl l, rtim yh 0, noSet⟩) (0, 0) _ rfl (setRow_heap _ _ _ _ _ _ HRS) Try.underlying59 rfl isz_f) rfl ?_
        have hbd2 : Below wr.heap.size wr W3 := by rw [HP9.out]; exact HBd.out
        rw [HEnd.out]
        exact ⟨by first | rfl | (rw [hRep]; rfl), (HB.out.2.2.1.below hbd2).keep (S := fun b => b = w.heap.size + 1) ⟨rfl, rfl, rfl, by rw [setRow_size]; exact Nat.le_refl _, fun b _ hb => setRow_other _ _ b _ hb⟩ (fun e => by have := HPB.out; omega) (fun e => by have := HKB.out; omega), (HKW.out.next hbd2).rowAt (by omega) _⟩


theorem of_500 (n : Nat) (f : F) (hch : ∀ i, i < f.len → OfOk n (f.nth i).args) (l h g : Int) (st : Nat → Bool) (sv : Value) (w : World) (S : Nat → Prop) (PB KB : Nat) (K : Nat → FC) (hsv : SV w S f sv) (hS : ∀ b, S b → b ≠ KB) (hkn : KN w PB KB n K) (hfk : ∀ k, FOk (K k)) (h6 : f.len ≤ 600) (hpk : preK n f) (hone : f.len = 1) (lz : (l == 0) = false) (lne : ¬ l = 0) (hlo : 0 ≤ l ∧ l ≤ 64) (hz : (h == 0) = false) (hne : ¬ h = 0) (hhi : -1 ≤ h ∧ h ≤ 64) :
    Calls Try.prog 59 #[.pointer (some ⟨PB, 0, none⟩), .agg #[.int .i64 5, .int .u64 (wd st 0 64 : Nat), .int .u64 (wd st 64 64 : Nat), .int .u64 (wd st 128 64 : Nat), .int .u64 (wd st 192 64 : Nat), .int .i64 l, .int .i64 h, .int .i64 g, sv]] w fun e w' => e = .returned (.agg (fc7 (repS l h ((facF f K).1.headD FC0)))) ∧ KN w' PB KB n ((facF f K).2) ∧ Only KB w w' := by
  have HSV := Lib.hid hsv
  have HCh := Lib.hid hch
  have HS := Lib.hid hS
  have HPk := Lib.hid hpk
  have hfl : (f.len : Int) ≤ 600 := by omega
  have HFl := Lib.hid h6
  obtain ⟨ad, cap, rfl⟩ := slice_form hsv
  obtain ⟨W2, hW2⟩ : ∃ W2, W2 = (w.alloc (.cells #[.int .i64 5, .int .u64 (wd st 0 64 : Nat), .int .u64 (wd st 64 64 : Nat), .int .u64 (wd st 128 64 : Nat), .int .u64 (wd st 192 64 : Nat), .int .i64 l, .int .i64 h, .int .i64 g, .slice ad f.len cap] 28)).alloc (.cells z7 59) := ⟨_, rfl⟩
  have hx : Below w.heap.size w W2 := by rw [hW2]; exact ((Below.refl _ _).alloc (Nat.le_refl _) _).alloc (by simp) _
  have hz2 : W2.heap.size = w.heap.size + 2 := by rw [hW2]; simp
  have hg0 : W2.heap[w.heap.size]? = some (.cells #[.int .i64 5, .int .u64 (wd st 0 64 : Nat), .int .u64 (wd st 64 64 : Nat), .int .u64 (wd st 128 64 : Nat), .int .u64 (wd st 192 64 : Nat), .int .i64 l, .int .i64 h, .int .i64 g, .slice ad f.len cap] 28 (0, 0)) := by
    rw [hW2, Below.heap_alloc _ _ _ (by simp)]
    exact heap_alloc_new w _
  have hg1 : W2.heap[w.heap.size + 1]? = some (.cells z7 59 (0, 0)) := by
    have := heap_alloc_new (w.alloc (.cells #[.int .i64 5, .int .u64 (wd st 0 64 : Nat), .int .u64 (wd st 64 64 : Nat), .int .u64 (wd st 128 64 : Nat), .int .u64 (wd st 192 64 : Nat), .int .i64 l, .int .i64 h, .int .i64 g, .slice ad f.len cap] 28)) (.cells z7 59)
    rw [hW2]
    simpa using this
  have HKB := Lib.hid hkn.lt
  have HPB := Lib.hid hkn.plt
  have HKn := Lib.hid (hkn.below hx)
  have HFk := Lib.hid hfk
  have HX := Lib.hid hx
  have HG0 := Lib.hid hg0
  have HG1 := Lib.hid hg1
  have HZ := Lib.hid hz2
  have HW2 := Lib.hid hW2
  clear hsv hch hS hkn hfk h6 hpk hx hz2 hg0 hg1 hW2
  have HOne := Lib.hid hone
  clear hone
  have HLo := Lib.hid hlo
  clear hlo
  have HHi := Lib.hid hhi
  clear hhi
  go_enter Try.func59, Try.ntmps59
  go_wp2_with fail
  go_loopw [5, 6] (fun v i wr => ∃ (k : Nat) (ys : List FC) (K' : Nat → FC), k ≤ f.len ∧ i = .int .i64 k ∧ Hid (ys.length = k ∧ PV 59 7 cells_f wr (w.heap.size + 2) ys v ∧ KN wr PB KB n K' ∧ Only KB W2 wr ∧ facF f K = (ys ++ (facF (f.drop k) K').1, (facF (f.drop k) K').2) ∧ ∀ k, FOk (K' k))) (fun _ i _ => f.len - (intOf i).toNat)
  case atStart =>
    refine ⟨0, [], K, Nat.zero_le _, rfl, ?_⟩
    rw [← HW2.out]
    exact Lib.hid ⟨rfl, PV.nil _ _ _ _ _, HKn.out, Only.refl _ _, by (have : f.drop 0 = f := by cases f <;> rfl); rw [this]; rfl, HFk.out⟩
  case round =>
    obtain ⟨k, ys, K', hk, rfl, HB⟩ := hrel
    have hkw : Only KB w wr := (Only.of_below HX.out).trans HB.out.2.2.2.1
    have hbox : wr.heap[w.heap.size]? = some (.cells #[.int .i64 5, .int .u64 (wd st 0 64 : Nat), .int .u64 (wd st 64 64 : Nat), .int .u64 (wd st 128 64 : Nat), .int .u64 (wd st 192 64 : Nat), .int .i64 l, .int .i64 h, .int .i64 g, .slice ad f.len cap] 28 (0, 0)) := (HB.out.2.2.2.1.block _ (by have := HZ.out; omega) (by have := HKB.out; omega)).trans HG0.out
    have hres : wr.heap[w.heap.size + 1]? = some (.cells z7 59 (0, 0)) := (HB.out.2.2.2.1.block _ (by have := HZ.out; omega) (by have := HKB.out; omega)).trans HG1.out
    obtain ⟨⟨⟨b0, b1, b2⟩, b3, b4, b5⟩, b6, b7, b8⟩ := nine hbox
    have hlt : w.heap.size + 1 < wr.heap.size := (Array.getElem?_eq_some_iff.1 hres).1
    have HLT := Lib.hid hlt
    have HKW := Lib.hid hkw
    have HRes := Lib.hid hres
    obtain ⟨vad, vcap, rfl⟩ := own_sl HB.out.2.1
    clear hkw hbox hlt hres
    by_cases hkn : k < f.len
    · have ki : (k : Int) < f.len := by omega
      have ki0 : (0 : Int) ≤ k := by omega
      obtain ⟨b, i0, ad2, cp2, rfl, hsv2, c0, c1, c2, c3, c4, c5, c6, c7, c8⟩ := kid HSV.out (Afar.only_ne HKW.out HS.out) k hkn
      have HS2 := Lib.hid hsv2
      have HNd := Lib.hid (NdK_nth n f k hkn HPk.out)
      have HL := Lib.hid (fun W hW hK => HCh.out k hkn (f.nth k).op (f.nth k).lo (f.nth k).hi (f.nth k).g (f.nth k).st (.slice ad2 (f.nth k).args.len cp2) W S PB KB K' hW HS.out hK HB.out.2.2.2.2.2 HNd.out)
      have HSt := Lib.hid (HB.out.2.2.2.2.1.trans (by rw [fac_step f k hkn K']))
      have eT : (⟨(f.nth k).op, (f.nth k).st, (f.nth k).lo, (f.nth k).hi, (f.nth k).g, (f.nth k).args⟩ : TN) = f.nth k := rfl
      have HOkY := Lib.hid (facN_ok n (f.nth k) K' HNd.out HB.out.2.2.2.2.2)
      rw [eT] at HL
      obtain ⟨Y, hY⟩ : ∃ Y, facN (f.nth k) K' = Y := ⟨_, rfl⟩
      rw [hY] at HL HSt HOkY
      obtain ⟨y, KY⟩ := Y
      clear hsv2 eT hY
      go_wp2_with (first
        | (go_at_call 59; (with_reducible refine (HL.out _ HS2.out HB.out.2.2.1).mono ?_); rintro e w2 ⟨rfl, hk2, ho2⟩
           have HK2 := Lib.hid hk2
           have HO2 := Lib.hid ho2
           have HPV := Lib.hid (HB.out.2.1.only (by have := HKB.out; omega) ho2)
           clear hk2 ho2 b0 b1 b2 b3 b4 b5 b6 b7 b8 c0 c1 c2 c3 c4 c5 c6 c7 c8)
        | (at_builtin; refine app1 (w.heap.size + 2) 92 59 (.agg z7) 7 56 Try.underlying92 info_f rfl (by decide) w2 rfl (.tmp 15) (.tmp 23) rfl (by have := HLT.out; have := HO2.out.size; omega) (.slice vad ys.length vcap) ys.length _ (cells_f y) rfl rfl HPV.out _ rfl rfl rfl ?d1 ?d2 ?d3 ?_))
      case d1 => simp [cells_f, Value.oneCell']
      case d2 => have := HB.out.1; unfold maxLen; omega
      case d3 => have := HB.out.1; omega
      intro g0 cap0 w8 ho8 hk8 hg8
      have hown : ∀ x, (Value.slice vad ys.length vcap).ownBlock = some x → w.heap.size + 2 ≤ x := fun x hx => (own_at HB.out.2.1 x hx).1
      have HF : Hid ((ys ++ [y]).length = k + 1 ∧ PV 59 7 cells_f w8 (w.heap.size + 2) (ys ++ [y]) (.slice (some ⟨g0, 0, none⟩) (ys.length + 1) cap0) ∧ KN w8 PB KB n KY ∧ Only KB W2 w8) := by
        refine Lib.hid ⟨by rw [List.length_append, HB.out.1]; rfl, ?_, HK2.out.keep hk8 (fun e => by have := hown _ e; have := HPB.out; omega) (fun e => by have := hown _ e; have := HKB.out; omega), ?_⟩
        · unfold PV
          rw [List.length_append, List.flatMap_append]
          have : ([y] : List FC).flatMap cells_f = cells_f y := by simp
          rw [this]
          exact ho8
        · have h1 := HB.out.2.2.2.1.trans HO2.out
          exact ⟨hk8.os.trans h1.os, hk8.tape.trans h1.tape, hk8.output.trans h1.output, Nat.le_trans h1.size hk8.size, fun b hb hne => (hk8.block b (by have := h1.size; omega) (fun e => by have := hown _ e; have := HZ.out; omega)).trans (h1.block b hb hne)⟩
      clear ho8 hk8 hg8 hown
      go_wp2_with fail
      go_roundw
      case rel => exact ⟨k + 1, ys ++ [y], KY, by omega, by go_num, Lib.hid ⟨HF.out.1, HF.out.2.1, HF.out.2.2.1, HF.out.2.2.2, by rw [HSt.out, List.append_assoc]; rfl, HOkY.out.2⟩⟩
      case measure => simp [intOf]; omega
    · obtain rfl : k = f.len := by omega
      have hend := HB.out.2.2.2.2.1
      rw [F.drop_len] at hend
      replace hend : facF f K = (ys ++ [], K') := hend
      rw [List.append_nil] at hend
      have HEnd := Lib.hid hend
      have hfo := facF_ok n f K HPk.out HFk.out
      rw [hend] at hfo
      have HFo := Lib.hid hfo
      clear hend hfo
      have hRep : ∀ x : FC, repS l h x = ⟨x.nul, rtim x.lo l, rtim x.hi h, x.st⟩ := fun x => by
        show FC.mk _ _ _ _ = _
        rw [decide_eq_false lne]
        rw [if_neg hne]
        rfl
      obtain ⟨y, rfl⟩ : ∃ y, ys = [y] := by
        have hlen := HB.out.1
        rw [HOne.out] at hlen
        match ys, hlen with
        | [y], _ => exact ⟨y, rfl⟩
      have hpv : PV 59 7 cells_f wr (w.heap.size + 2) [y] (.slice vad 1 vcap) := HB.out.2.1
      obtain ⟨q, rfl, ⟨y0, y1, y2⟩, y3, y4, y5, y6⟩ := fac_at (ps := [y]) hpv (Below.refl _ _) 0 Nat.zero_lt_one
      have hqw := own_at hpv q rfl
      have HQw := Lib.hid hqw
      rw [Nat.zero_mul] at y0 y1 y2 y3 y4 y5 y6
      simp only [List.getElem_cons_zero, Nat.zero_add] at y0 y1 y2 y3 y4 y5 y6
      have hoky := HFo.out.1 y (List.mem_singleton_self _)
      have HOky := Lib.hid hoky
      obtain ⟨yn, yl, yh, ys⟩ := y
      have hoc : ¬ (vcap : Int) < 1 := by
        rcases hpv.2 with ⟨e, _⟩ | ⟨g, cap, cur, e, _, _, hle, _⟩
        · cases e
        · cases e
          simp at hle
          omega
      clear hpv hqw hoky
      have HT1 := Lib.hid (fun W => rtim_any yl l ⟨by have h1 := HOky.out.1.1; simp only at h1; omega, HOky.out.1.2⟩ ⟨by have := HLo.out.1; omega, by exact HLo.out.2⟩ W)
      have HT2 := Lib.hid (fun W => rtim_any yh h HOky.out.2 ⟨by exact HHi.out.1, by exact HHi.out.2⟩ W)
      go_upto_region 14 with fail
      have HSW : Hid (SRp wr q w.heap.size yn yl yh l h wr) := Lib.hid ⟨⟨y0, y1, y2⟩, ⟨b5, b6⟩, Below.refl _ _⟩
      have HC3 := Lib.hid y3
      have HC4 := Lib.hid y4
      have HC5 := Lib.hid y5
      have HC6 := Lib.hid y6
      clear y0 y1 y2 y3 y4 y5 y6 b0 b1 b2 b3 b4 b5 b6 b7 b8
      refine wp_region_held_drew (S := fun w' => SRp wr q w.heap.size yn yl yh l h w') (by kernel_rfl) ?_ (fun hHeld => ?_)
      · exact HSW.out.drew
      refine wpAnyH_take (i := 0) (v := ?av0) rfl (by kernel_rfl) (by kernel_rfl) (by kernel_rfl) (fun _ _ _ h => h) (Or.inl ⟨by rfl, ?ay0⟩) (by assumption) ?ar0
      case ay0 =>
        intro wx hSw
        clear hSw
        go_simp
        first | done | (with_reducible rfl)
      (try simp only [Act.put, List.getElem_toArray, List.getElem_cons_zero, List.setIfInBounds_toArray, List.set_cons_zero, List.set_cons_succ])
      refine wpAnyH_take (i := 1) (v := ?av1) rfl (by kernel_rfl) (by kernel_rfl) (by kernel_rfl) (fun _ _ _ h => h) (Or.inl ⟨by rfl, ?ay1⟩) (by assumption) ?ar1
      case ay1 =>
        intro wx hSw
        have ⟨⟨y0, y1, y2⟩, ⟨b5, b6⟩, _⟩ := hSw
        clear hSw
        go_simp
        first | done | (with_reducible rfl)
      (try simp only [Act.put, List.getElem_toArray, List.getElem_cons_succ, List.getElem_cons_zero, List.setIfInBounds_toArray, List.set_cons_zero, List.set_cons_succ])
      refine wpAnyH_take (i := 2) (v := ?av2) rfl (by kernel_rfl) (by kernel_rfl) (by kernel_rfl) (fun _ _ _ h => h) (Or.inl ⟨by rfl, ?ay2⟩) (by assumption) ?ar2
      case ay2 =>
        intro wx hSw
        clear hSw
        go_simp
        first | done | (with_reducible rfl)
      (try simp only [Act.put, List.getElem_toArray, List.getElem_cons_succ, List.getElem_cons_zero, List.setIfInBounds_toArray, List.set_cons_zero, List.set_cons_succ])
      refine wpAnyH_take (i := 3) (v := ?av3) rfl (by kernel_rfl) (by kernel_rfl) (by kernel_rfl) (fun _ _ _ h => h) (Or.inl ⟨by rfl, ?ay3⟩) (by assumption) ?ar3
      case ay3 =>
        intro wx hSw
        clear hSw
        go_simp
        first | done | (with_reducible rfl)
      (try simp only [Act.put, List.getElem_toArray, List.getElem_cons_succ, List.getElem_cons_zero, List.setIfInBounds_toArray, List.set_cons_zero, List.set_cons_succ])
      refine wpAnyH_take (i := 4) (v := ?av4) rfl (by kernel_rfl) (by kernel_rfl) (by kernel_rfl) (fun _ _ _ h => h) (Or.inl ⟨by rfl, ?ay4⟩) (by assumption) ?ar4
      case ay4 =>
        intro wx hSw
        clear hSw
        go_simp
        first | done | (with_reducible rfl)
      (try simp only [Act.put, List.getElem_toArray, List.getElem_cons_succ, List.getElem_cons_zero, List.setIfInBounds_toArray, List.set_cons_zero, List.set_cons_succ])
      refine wpAnyH_take (i := 5) (v := ?av5) rfl (by kernel_rfl) (by kernel_rfl) (by kernel_rfl) (fun _ _ _ h => h) (Or.inl ⟨by rfl, ?ay5⟩) (by assumption) ?ar5
      case ay5 =>
        intro wx hSw
        clear hSw
        go_simp
        first | done | (with_reducible rfl)
      (try simp only [Act.put, List.getElem_toArray, List.getElem_cons_succ, List.getElem_cons_zero, List.setIfInBounds_toArray, List.set_cons_zero, List.set_cons_succ])
      refine wpAnyH_take (i := 6) (v := ?av6) rfl (by kernel_rfl) (by kernel_rfl) (by kernel_rfl) (fun _ _ _ h => h) (Or.inl ⟨by rfl, ?ay6⟩) (by assumption) ?ar6
      case ay6 =>
        intro wx hSw
        clear hSw
        go_simp
        first | done | (with_reducible rfl)
      (try simp only [Act.put, List.getElem_toArray, List.getElem_cons_succ, List.getElem_cons_zero, List.setIfInBounds_toArray, List.set_cons_zero, List.set_cons_succ])
      refine wpAnyH_take (i := 7) (v := ?av7) rfl (by kernel_rfl) (by kernel_rfl) (by kernel_rfl) (fun _ _ _ h => h) (Or.inl ⟨by rfl, ?ay7⟩) (by assumption) ?ar7
      case ay7 =>
        intro wx hSw
        have ⟨⟨y0, y1, y2⟩, ⟨b5, b6⟩, _⟩ := hSw
        clear hSw
        go_simp
        first | done | (with_reducible rfl)
      (try simp only [Act.put, List.getElem_toArray, List.getElem_cons_succ, List.getElem_cons_zero, List.setIfInBounds_toArray, List.set_cons_zero, List.set_cons_succ])
      refine wpAnyH_take (i := 8) (v := ?av8) rfl (by kernel_rfl) (by kernel_rfl) (by kernel_rfl) (fun _ _ _ h => h) (Or.inl ⟨by rfl, ?ay8⟩) (by assumption) ?ar8
      case ay8 =>
        intro wx hSw
        clear hSw
        go_simp
        first | done | (with_reducible rfl)
      (try simp only [Act.put, List.getElem_toArray, List.getElem_cons_succ, List.getElem_cons_zero, List.setIfInBounds_toArray, List.set_cons_zero, List.set_cons_succ])
      refine wpAnyH_take (i := 9) (v := ?av9) rfl (by kernel_rfl) (by kernel_rfl) (by kernel_rfl) (fun _ _ _ h => h) (Or.inl ⟨by rfl, ?ay9⟩) (by assumption) ?ar9
      case ay9 =>
        intro wx hSw
        clear hSw
        go_simp
        first | done | (with_reducible rfl)
      (try simp only [Act.put, List.getElem_toArray, List.getElem_cons_succ, List.getElem_cons_zero, List.setIfInBounds_toArray, List.set_cons_zero, List.set_cons_succ])
      refine wpAnyH_take (i := 10) (v := ?av10) rfl (by kernel_rfl) (by kernel_rfl) (by kernel_rfl) (fun _ _ _ h => h) (Or.inl ⟨by rfl, ?ay10⟩) (by assumption) ?ar10
      case ay10 =>
        intro wx hSw
        clear hSw
        go_simp
        first | done | (with_reducible rfl)
      (try simp only [Act.put, List.getElem_toArray, List.getElem_cons_succ, List.getElem_cons_zero, List.setIfInBounds_toArray, List.set_cons_zero, List.set_cons_succ])
      refine wpAnyH_take (i := 11) (v := ?av11) rfl (by kernel_rfl) (by kernel_rfl) (by kernel_rfl) (fun _ _ _ h => h) (Or.inl ⟨by rfl, ?ay11⟩) (by assumption) ?ar11
      case ay11 =>
        intro wx hSw
        clear hSw
        go_simp
        first | done | (with_reducible rfl)
      (try simp only [Act.put, List.getElem_toArray, List.getElem_cons_succ, List.getElem_cons_zero, List.setIfInBounds_toArray, List.set_cons_zero, List.set_cons_succ])
      refine wpAnyH_take (i := 12) (v := ?av12) rfl (by kernel_rfl) (by kernel_rfl) (by kernel_rfl) (fun _ _ _ h => h) (Or.inl ⟨by rfl, ?ay12⟩) (by assumption) ?ar12
      case ay12 =>
        intro wx hSw
        have ⟨⟨y0, y1, y2⟩, ⟨b5, b6⟩, _⟩ := hSw
        clear hSw
        go_simp
        first | done | (with_reducible rfl)
      (try simp only [Act.put, List.getElem_toArray, List.getElem_cons_succ, List.getElem_cons_zero, List.setIfInBounds_toArray, List.set_cons_zero, List.set_cons_succ])
      refine wpAnyH_take (i := 13) (v := ?av13) rfl (by kernel_rfl) (by kernel_rfl) (by kernel_rfl) (fun _ _ _ h => h) (Or.inl ⟨by rfl, ?ay13⟩) (by assumption) ?ar13
      case ay13 =>
        intro wx hSw
        clear hSw
        go_simp
        first | done | (with_reducible rfl)
      (try simp only [Act.put, List.getElem_toArray, List.getElem_cons_succ, List.getElem_cons_zero, List.setIfInBounds_toArray, List.set_cons_zero, List.set_cons_succ])
      refine wpAnyH_take (i := 14) (v := ?av14) rfl (by kernel_rfl) (by kernel_rfl) (by kernel_rfl) (fun _ _ _ h => h) (Or.inl ⟨by rfl, ?ay14⟩) (by assumption) ?ar14
      case ay14 =>
        intro wx hSw
        have ⟨⟨y0, y1, y2⟩, ⟨b5, b6⟩, _⟩ := hSw
        clear hSw
        go_simp
        first | done | (with_reducible rfl)
      (try simp only [Act.put, List.getElem_toArray, List.getElem_cons_succ, List.getElem_cons_zero, List.setIfInBounds_toArray, List.set_cons_zero, List.set_cons_succ])
      refine wpAnyH_take (i := 16) (v := ?av16) rfl (by kernel_rfl) (by kernel_rfl) (by kernel_rfl) (fun _ _ _ h => h) (Or.inl ⟨by rfl, ?ay16⟩) (by assumption) ?ar16
      case ay16 =>
        intro wx hSw
        clear hSw
        go_simp
        first | done | (with_reducible rfl)
      (try simp only [Act.put, List.getElem_toArray, List.getElem_cons_succ, List.getElem_cons_zero, List.setIfInBounds_toArray, List.set_cons_zero, List.set_cons_succ])
      refine wpAnyH_take (i := 17) (v := ?av17) rfl (by kernel_rfl) (by kernel_rfl) (by kernel_rfl) (fun _ _ _ h => h) (Or.inl ⟨by rfl, ?ay17⟩) (by assumption) ?ar17
      case ay17 =>
        intro wx hSw
        clear hSw
        go_simp
        first | done | (with_reducible rfl)
      (try simp only [Act.put, List.getElem_toArray, List.getElem_cons_succ, List.getElem_cons_zero, List.setIfInBounds_toArray, List.set_cons_zero, List.set_cons_succ])
      refine wpAnyH_take (i := 18) (v := ?av18) rfl (by kernel_rfl) (by kernel_rfl) (by kernel_rfl) (fun _ _ _ h => h) (Or.inl ⟨by rfl, ?ay18⟩) (by assumption) ?ar18
      case ay18 =>
        intro wx hSw
        clear hSw
        go_simp
        first | done | (with_reducible rfl)
      (try simp only [Act.put, List.getElem_toArray, List.getElem_cons_succ, List.getElem_cons_zero, List.setIfInBounds_toArray, List.set_cons_zero, List.set_cons_succ])
      refine wpAnyH_take (i := 19) (v := ?av19) rfl (by kernel_rfl) (by kernel_rfl) (by kernel_rfl) (fun _ _ _ h => h) (Or.inl ⟨by rfl, ?ay19⟩) (by assumption) ?ar19
      case ay19 =>
        intro wx hSw
        have ⟨⟨y0, y1, y2⟩, ⟨b5, b6⟩, _⟩ := hSw
        clear hSw
        go_simp
        first | done | (with_reducible rfl)
      (try simp only [Act.put, List.getElem_toArray, List.getElem_cons_succ, List.getElem_cons_zero, List.setIfInBounds_toArray, List.set_cons_zero, List.set_cons_succ])
      refine wpAnyH_take (i := 20) (v := ?av20) rfl (by kernel_rfl) (by kernel_rfl) (by kernel_rfl) (fun _ _ _ h => h) (Or.inl ⟨by rfl, ?ay20⟩) (by assumption) ?ar20
      case ay20 =>
        intro wx hSw
        clear hSw
        go_simp
        first | done | (with_reducible rfl)
      (try simp only [Act.put, List.getElem_toArray, List.getElem_cons_succ, List.getElem_cons_zero, List.setIfInBounds_toArray, List.set_cons_zero, List.set_cons_succ])
      refine wpAnyH_take (i := 21) (v := ?av21) rfl (by kernel_rfl) (by kernel_rfl) (by kernel_rfl) (fun _ _ _ h => h) (Or.inl ⟨by rfl, ?ay21⟩) (by assumption) ?ar21
      case ay21 =>
        intro wx hSw
        have ⟨⟨y0, y1, y2⟩, ⟨b5, b6⟩, _⟩ := hSw
        clear hSw
        go_simp
        first | done | (with_reducible rfl)
      (try simp only [Act.put, List.getElem_toArray, List.getElem_cons_succ, List.getElem_cons_zero, List.setIfInBounds_toArray, List.set_cons_zero, List.set_cons_succ])
      refine wpAnyH_ready (rs := [15, 24]) (by kernel_rfl) (by simp) ?_
      refine AllReadyH.cons rfl (fun K hK => ?_) (AllReadyH.cons rfl (fun K hK => ?_) AllReadyH.nil)
      · go_simp
        go_at_call 79
        refine (HT1.out _).mono ?_
        rintro e w9 ⟨rfl, rfl⟩
        refine hK.out _ _ (by assumption) (fun hH1 => ?_)
        clear hK K
        (try simp only [Act.put, List.getElem_toArray, List.getElem_cons_succ, List.getElem_cons_zero, List.setIfInBounds_toArray, List.set_cons_zero, List.set_cons_succ])
        refine wpAnyH_ready (rs := [22, 24]) (by kernel_rfl) (by simp) ?_
        refine AllReadyH.cons rfl (fun K hK => ?_) (AllReadyH.cons rfl (fun K hK => ?_) AllReadyH.nil)
        · go_simp
          go_at_call 79
          refine (HT2.out _).mono ?_
          rintro e w9 ⟨rfl, rfl⟩
          refine hK.out _ _ (by assumption) (fun hH2 => ?_)
          clear hK K
          (try simp only [Act.put, List.getElem_toArray, List.getElem_cons_succ, List.getElem_cons_zero, List.setIfInBounds_toArray, List.set_cons_zero, List.set_cons_succ])
          refine wpAnyH_take (i := 23) (v := ?bv23) rfl (by kernel_rfl) (by kernel_rfl) (by kernel_rfl) (fun _ _ _ h => h) (Or.inl ⟨by rfl, ?by23⟩) (by assumption) ?br23
          case by23 =>
            intro wx hSw
            clear hSw
            go_simp
            first | done | (with_reducible rfl)
          (try simp only [Act.put, List.getElem_toArray, List.getElem_cons_succ, List.getElem_cons_zero, List.setIfInBounds_toArray, List.set_cons_zero, List.set_cons_succ])
          refine wpAnyH_ready (rs := [24]) (by kernel_rfl) (by simp) ?_
          refine AllReadyH.cons rfl (fun K hK => ?_) AllReadyH.nil
          go_simp
          refine hK.out _ _ ?_ (fun hH3 => ?_)
          · first | exact HSW.out.alloc _ | exact (HSW.out.alloc _).drew | exact HSW.out.drew.alloc _
          clear hK K
          (try simp only [Act.put, List.getElem_toArray, List.getElem_cons_succ, List.getElem_cons_zero, List.setIfInBounds_toArray, List.set_cons_zero, List.set_cons_succ])
          refine wpAnyH_ready (rs := [25]) (by kernel_rfl) (by simp) ?_
          refine AllReadyH.cons rfl (fun K hK => ?_) AllReadyH.nil
          go_simp
          refine hK.out _ _ ?_ (fun hH5 => ?_)
          · first | exact HSW.out.alloc _ | exact (HSW.out.alloc _).drew | exact HSW.out.drew.alloc _
          clear hK K
          (try simp only [Act.put, List.getElem_toArray, List.getElem_cons_succ, List.getElem_cons_zero, List.setIfInBounds_toArray, List.set_cons_zero, List.set_cons_succ])
          refine wpAnyH_done (by kernel_rfl) ?_ _
          have hn2 : (wr.alloc (.cells #[.bool yn, .int .i64 (rtim yl l), .int .i64 (rtim yh h), .int .u64 0, .int .u64 0, .int .u64 0, .int .u64 0] 59)).drew.heap[wr.heap.size]? = some (.cells #[.bool yn, .int .i64 (rtim yl l), .int .i64 (rtim yh h), .int .u64 0, .int .u64 0, .int .u64 0, .int .u64 0] 59 (0, 0)) := heap_alloc_new wr (.cells #[.bool yn, .int .i64 (rtim yl l), .int .i64 (rtim yh h), .int .u64 0, .int .u64 0, .int .u64 0, .int .u64 0] 59)
          have hbd : Below wr.heap.size wr (wr.alloc (.cells #[.bool yn, .int .i64 (rtim yl l), .int .i64 (rtim yh h), .int .u64 0, .int .u64 0, .int .u64 0, .int .u64 0] 59)).drew := ((Below.refl _ _).alloc (Nat.le_refl _) _).drew
          go_upto_region 15 with fail
          have hcy0 := (hbd.cell (p := ⟨q, 3, none⟩) HQw.out.2).trans HC3.out
          have hcy1 := (hbd.cell (p := ⟨q, 4, none⟩) HQw.out.2).trans HC4.out
          have hcy2 := (hbd.cell (p := ⟨q, 5, none⟩) HQw.out.2).trans HC5.out
          have hcy3 := (hbd.cell (p := ⟨q, 6, none⟩) HQw.out.2).trans HC6.out
          have hd6 := (hbd.cell (p := ⟨w.heap.size, 6, none⟩) (by have := HLT.out; show w.heap.size < _; omega)).trans HSW.out.2.1.2
          have hres := (hbd.block _ HLT.out).trans HRes.out
          have hsz : wr.heap.size < (wr.alloc (.cells #[.bool yn, .int .i64 (rtim yl l), .int .i64 (rtim yh h), .int .u64 0, .int .u64 0, .int .u64 0, .int .u64 0] 59)).drew.heap.size := by simp
          clear hHeld
          generalize (wr.alloc (.cells #[.bool yn, .int .i64 (rtim yl l), .int .i64 (rtim yh h), .int .u64 0, .int .u64 0, .int .u64 0, .int .u64 0] 59)).drew = W3 at *
          have hrow : W3.heap[wr.heap.size]? = some (.cells (fc7 ⟨yn, rtim yl l, rtim yh h, noSet⟩) 59 (0, 0)) := by
            unfold fc7
            rw [wd_noSet.1, wd_noSet.2.1, wd_noSet.2.2.1, wd_noSet.2.2.2]
            exact hn2
          have HBd := Lib.hid hbd
          have HRes3 := Lib.hid hres
          have HSz3 := Lib.hid hsz
          have HLTd := HLT
          have HBw := HB
          have HKWw := HKW
          have HBs := Lib.hid hbd.size
          clear hn2 hbd hres hsz
          generalize hp9 : wr.heap.size = p9 at *
          have HP9 := Lib.hid hp9
          clear hp9
          have fz := fun j => frozen_of_row W3 p9 j _ _ hrow
          have f3 := fz 3
          have f4 := fz 4
          have f5 := fz 5
          have f6 := fz 6
          have p3 := cell_of_row W3 p9 3 _ _ _ hrow
          have p4 := cell_of_row W3 p9 4 _ _ _ hrow
          have p5 := cell_of_row W3 p9 5 _ _ _ hrow
          have p6 := cell_of_row W3 p9 6 _ _ _ hrow
          replace p3 : W3.cell? ⟨p9, 3, none⟩ = some (.int .u64 (wd noSet 0 64 : Nat)) := p3
          replace p4 : W3.cell? ⟨p9, 4, none⟩ = some (.int .u64 (wd noSet 64 64 : Nat)) := p4
          replace p5 : W3.cell? ⟨p9, 5, none⟩ = some (.int .u64 (wd noSet 128 64 : Nat)) := p5
          replace p6 : W3.cell? ⟨p9, 6, none⟩ = some (.int .u64 (wd noSet 192 64 : Nat)) := p6
          clear fz
          go_upto_region 17 with fail
          have hr4 := row_st hrow ys
          have ho4 := put4_only W3 p9 (.int .u64 (wd ys 0 64 : Nat)) (.int .u64 (wd ys 64 64 : Nat)) (.int .u64 (wd ys 128 64 : Nat)) (.int .u64 (wd ys 192 64 : Nat))
          have HRS := (ho4.block (w.heap.size + 1) (by have := HLTd.out; have := HSz3.out; omega) (by have := HLTd.out; omega)).trans HRes3.out
          clear f3 f4 f5 f6 p3 p4 p5 p6 hcy0 hcy1 hcy2 hcy3 hd6 hrow
          generalize ((((W3.setCell ⟨p9, 3, none⟩ (.int .u64 (wd ys 0 64 : Nat))).setCell ⟨p9, 4, none⟩ (.int .u64 (wd ys 64 64 : Nat))).setCell ⟨p9, 5, none⟩ (.int .u64 (wd ys 128 64 : Nat))).setCell ⟨p9, 6, none⟩ (.int .u64 (wd ys 192 64 : Nat))) = W4 at *
          have HO4 := Lib.hid ho4
          clear ho4
          go_wp2_with (first
            | (refine wpList_load_row rfl 59 _ rfl p9 rfl 59 (fc7 ⟨yn, rtim yl l, rtim yh h, ys⟩) (0, 0) _ hr4 Try.underlying59 rfl isz_f ?_)
            | (refine wpList_store_row rfl 59 (.tmp 4) (.tmp 74) rfl (w.heap.size + 1) (fc7 ⟨yn, rtim yl l, rtim yh h, ys⟩) rfl rfl 59 _ HRS isz_f rfl (by simp [Value.oneCell']) ?_))
          refine bodyPost_ret (v := .agg (fc7 ⟨yn, rtim yl l, rtim yh h, ys⟩)) (results_cell_row rfl _ _ (w.heap.size + 1) _ (fc7 ⟨yn, rtim yl l, rtim yh h, ys⟩) (0, 0) _ rfl (setRow_heap _ _ _ _ _ _ HRS) Try.underlying59 rfl isz_f) rfl ?_
          have hbd2 : Below wr.heap.size wr W3 := by rw [HP9.out]; exact HBd.out
          rw [HEnd.out]
          exact ⟨by first | rfl | (rw [hRep]; rfl), ((HB.out.2.2.1.below hbd2).only HO4.out (by have := HPB.out; have := HLTd.out; omega) (by have := HKB.out; have := HLTd.out; omega)).keep (S := fun b => b = w.heap.size + 1) ⟨rfl, rfl, rfl, by rw [setRow_size]; exact Nat.le_refl _, fun b _ hb => setRow_other _ _ b _ hb⟩ (fun e => by have := HPB.out; omega) (fun e => by have := HKB.out; omega), ((HKW.out.next hbd2).two HO4.out (by have := HLTd.out; omega)).rowAt (by omega) _⟩
        · go_simp
          refine hK.out _ _ ?_ (fun hH3 => ?_)
          · first | exact HSW.out.alloc _ | exact (HSW.out.alloc _).drew | exact HSW.out.drew.alloc _
          clear hK K
          (try simp only [Act.put, List.getElem_toArray, List.getElem_cons_succ, List.getElem_cons_zero, List.setIfInBounds_toArray, List.set_cons_zero, List.set_cons_succ])
          refine wpAnyH_ready (rs := [22]) (by kernel_rfl) (by simp) ?_
          refine AllReadyH.cons rfl (fun K hK => ?_) AllReadyH.nil
          go_simp
          go_at_call 79
          refine (HT2.out _).mono ?_
          rintro e w9 ⟨rfl, rfl⟩
          refine hK.out _ _ (by assumption) (fun hH4 => ?_)
          clear hK K
          (try simp only [Act.put, List.getElem_toArray, List.getElem_cons_succ, List.getElem_cons_zero, List.setIfInBounds_toArray, List.set_cons_zero, List.set_cons_succ])
          refine wpAnyH_take (i := 23) (v := ?cv23) rfl (by kernel_rfl) (by kernel_rfl) (by kernel_rfl) (fun _ _ _ h => h) (Or.inl ⟨by rfl, ?cy23⟩) (by assumption) ?cr23
          case cy23 =>
            intro wx hSw
            clear hSw
            go_simp
            first | done | (with_reducible rfl)
          (try simp only [Act.put, List.getElem_toArray, List.getElem_cons_succ, List.getElem_cons_zero, List.setIfInBounds_toArray, List.set_cons_zero, List.set_cons_succ])
          refine wpAnyH_ready (rs := [25]) (by kernel_rfl) (by simp) ?_
          refine AllReadyH.cons rfl (fun K hK => ?_) AllReadyH.nil
          go_simp
          refine hK.out _ _ ?_ (fun hH5 => ?_)
          · first | exact HSW.out.alloc _ | exact (HSW.out.alloc _).drew | exact HSW.out.drew.alloc _
          clear hK K
          (try simp only [Act.put, List.getElem_toArray, List.getElem_cons_succ, List.getElem_cons_zero, List.setIfInBounds_toArray, List.set_cons_zero, List.set_cons_succ])
          refine wpAnyH_done (by kernel_rfl) ?_ _
          have hn2 : (wr.alloc (.cells #[.bool yn, .int .i64 (rtim yl l), .int .i64 (rtim yh h), .int .u64 0, .int .u64 0, .int .u64 0, .int .u64 0] 59)).drew.heap[wr.heap.size]? = some (.cells #[.bool yn, .int .i64 (rtim yl l), .int .i64 (rtim yh h), .int .u64 0, .int .u64 0, .int .u64 0, .int .u64 0] 59 (0, 0)) := heap_alloc_new wr (.cells #[.bool yn, .int .i64 (rtim yl l), .int .i64 (rtim yh h), .int .u64 0, .int .u64 0, .int .u64 0, .int .u64 0] 59)
          have hbd : Below wr.heap.size wr (wr.alloc (.cells #[.bool yn, .int .i64 (rtim yl l), .int .i64 (rtim yh h), .int .u64 0, .int .u64 0, .int .u64 0, .int .u64 0] 59)).drew := ((Below.refl _ _).alloc (Nat.le_refl _) _).drew
          go_upto_region 15 with fail
          have hcy0 := (hbd.cell (p := ⟨q, 3, none⟩) HQw.out.2).trans HC3.out
          have hcy1 := (hbd.cell (p := ⟨q, 4, none⟩) HQw.out.2).trans HC4.out
          have hcy2 := (hbd.cell (p := ⟨q, 5, none⟩) HQw.out.2).trans HC5.out
          have hcy3 := (hbd.cell (p := ⟨q, 6, none⟩) HQw.out.2).trans HC6.out
          have hd6 := (hbd.cell (p := ⟨w.heap.size, 6, none⟩) (by have := HLT.out; show w.heap.size < _; omega)).trans HSW.out.2.1.2
          have hres := (hbd.block _ HLT.out).trans HRes.out
          have hsz : wr.heap.size < (wr.alloc (.cells #[.bool yn, .int .i64 (rtim yl l), .int .i64 (rtim yh h), .int .u64 0, .int .u64 0, .int .u64 0, .int .u64 0] 59)).drew.heap.size := by simp
          clear hHeld
          generalize (wr.alloc (.cells #[.bool yn, .int .i64 (rtim yl l), .int .i64 (rtim yh h), .int .u64 0, .int .u64 0, .int .u64 0, .int .u64 0] 59)).drew = W3 at *
          have hrow : W3.heap[wr.heap.size]? = some (.cells (fc7 ⟨yn, rtim yl l, rtim yh h, noSet⟩) 59 (0, 0)) := by
            unfold fc7
            rw [wd_noSet.1, wd_noSet.2.1, wd_noSet.2.2.1, wd_noSet.2.2.2]
            exact hn2
          have HBd := Lib.hid hbd
          have HRes3 := Lib.hid hres
          have HSz3 := Lib.hid hsz
          have HLTd := HLT
          have HBw := HB
          have HKWw := HKW
          have HBs := Lib.hid hbd.size
          clear hn2 hbd hres hsz
          generalize hp9 : wr.heap.size = p9 at *
          have HP9 := Lib.hid hp9
          clear hp9
          have fz := fun j => frozen_of_row W3 p9 j _ _ hrow
          have f3 := fz 3
          have f4 := fz 4
          have f5 := fz 5
          have f6 := fz 6
          have p3 := cell_of_row W3 p9 3 _ _ _ hrow
          have p4 := cell_of_row W3 p9 4 _ _ _ hrow
          have p5 := cell_of_row W3 p9 5 _ _ _ hrow
          have p6 := cell_of_row W3 p9 6 _ _ _ hrow
          replace p3 : W3.cell? ⟨p9, 3, none⟩ = some (.int .u64 (wd noSet 0 64 : Nat)) := p3
          replace p4 : W3.cell? ⟨p9, 4, none⟩ = some (.int .u64 (wd noSet 64 64 : Nat)) := p4
          replace p5 : W3.cell? ⟨p9, 5, none⟩ = some (.int .u64 (wd noSet 128 64 : Nat)) := p5
          replace p6 : W3.cell? ⟨p9, 6, none⟩ = some (.int .u64 (wd noSet 192 64 : Nat)) := p6
          clear fz
          go_upto_region 17 with fail
          have hr4 := row_st hrow ys
          have ho4 := put4_only W3 p9 (.int .u64 (wd ys 0 64 : Nat)) (.int .u64 (wd ys 64 64 : Nat)) (.int .u64 (wd ys 128 64 : Nat)) (.int .u64 (wd ys 192 64 : Nat))
          have HRS := (ho4.block (w.heap.size + 1) (by have := HLTd.out; have := HSz3.out; omega) (by have := HLTd.out; omega)).trans HRes3.out
          clear f3 f4 f5 f6 p3 p4 p5 p6 hcy0 hcy1 hcy2 hcy3 hd6 hrow
          generalize ((((W3.setCell ⟨p9, 3, none⟩ (.int .u64 (wd ys 0 64 : Nat))).setCell ⟨p9, 4, none⟩ (.int .u64 (wd ys 64 64 : Nat))).setCell ⟨p9, 5, none⟩ (.int .u64 (wd ys 128 64 : Nat))).setCell ⟨p9, 6, none⟩ (.int .u64 (wd ys 192 64 : Nat))) = W4 at *
          have HO4 := Lib.hid ho4
          clear ho4
          go_wp2_with (first
            | (refine wpList_load_row rfl 59 _ rfl p9 rfl 59 (fc7 ⟨yn, rtim yl l, rtim yh h, ys⟩) (0, 0) _ hr4 Try.underlying59 rfl isz_f ?_)
            | (refine wpList_store_row rfl 59 (.tmp 4) (.tmp 74) rfl (w.heap.size + 1) (fc7 ⟨yn, rtim yl l, rtim yh h, ys⟩) rfl rfl 59 _ HRS isz_f rfl (by simp [Value.oneCell']) ?_))
          refine bodyPost_ret (v := .agg (fc7 ⟨yn, rtim yl l, rtim yh h, ys⟩)) (results_cell_row rfl _ _ (w.heap.size + 1) _ (fc7 ⟨yn, rtim yl l, rtim yh h, ys⟩) (0, 0) _ rfl (setRow_heap _ _ _ _ _ _ HRS) Try.underlying59 rfl isz_f) rfl ?_
          have hbd2 : Below wr.heap.size wr W3 := by rw [HP9.out]; exact HBd.out
          rw [HEnd.out]
          exact ⟨by first | rfl | (rw [hRep]; rfl), ((HB.out.2.2.1.below hbd2).only HO4.out (by have := HPB.out; have := HLTd.out; omega) (by have := HKB.out; have := HLTd.out; omega)).keep (S := fun b => b = w.heap.size + 1) ⟨rfl, rfl, rfl, by rw [setRow_size]; exact Nat.le_refl _, fun b _ hb => setRow_other _ _ b _ hb⟩ (fun e => by have := HPB.out; omega) (fun e => by have := HKB.out; omega), ((HKW.out.next hbd2).two HO4.out (by have := HLTd.out; omega)).rowAt (by omega) _⟩
      · go_simp
        refine hK.out _ _ ?_ (fun hH3 => ?_)
        · first | exact HSW.out.alloc _ | exact (HSW.out.alloc _).drew | exact HSW.out.drew.alloc _
        clear hK K
        (try simp only [Act.put, List.getElem_toArray, List.getElem_cons_succ, List.getElem_cons_zero, List.setIfInBounds_toArray, List.set_cons_zero, List.set_cons_succ])
        refine wpAnyH_ready (rs := [15]) (by kernel_rfl) (by simp) ?_
        refine AllReadyH.cons rfl (fun K hK => ?_) AllReadyH.nil
        go_simp
        go_at_call 79
        refine (HT1.out _).mono ?_
        rintro e w9 ⟨rfl, rfl⟩
        refine hK.out _ _ (by assumption) (fun hH1 => ?_)
        clear hK K
        (try simp only [Act.put, List.getElem_toArray, List.getElem_cons_succ, List.getElem_cons_zero, List.setIfInBounds_toArray, List.set_cons_zero, List.set_cons_succ])
        refine wpAnyH_ready (rs := [22]) (by kernel_rfl) (by simp) ?_
        refine AllReadyH.cons rfl (fun K hK => ?_) AllReadyH.nil
        go_simp
        go_at_call 79
        refine (HT2.out _).mono ?_
        rintro e w9 ⟨rfl, rfl⟩
        refine hK.out _ _ (by assumption) (fun hH2 => ?_)
        clear hK K
        (try simp only [Act.put, List.getElem_toArray, List.getElem_cons_succ, List.getElem_cons_zero, List.setIfInBounds_toArray, List.set_cons_zero, List.set_cons_succ])
        refine wpAnyH_take (i := 23) (v := ?dv23) rfl (by kernel_rfl) (by kernel_rfl) (by kernel_rfl) (fun _ _ _ h => h) (Or.inl ⟨by rfl, ?dy23⟩) (by assumption) ?dr23
        case dy23 =>
          intro wx hSw
          clear hSw
          go_simp
          first | done | (with_reducible rfl)
        (try simp only [Act.put, List.getElem_toArray, List.getElem_cons_succ, List.getElem_cons_zero, List.setIfInBounds_toArray, List.set_cons_zero, List.set_cons_succ])
        refine wpAnyH_ready (rs := [25]) (by kernel_rfl) (by simp) ?_
        refine AllReadyH.cons rfl (fun K hK => ?_) AllReadyH.nil
        go_simp
        refine hK.out _ _ ?_ (fun hH5 => ?_)
        · first | exact HSW.out.alloc _ | exact (HSW.out.alloc _).drew | exact HSW.out.drew.alloc _
        clear hK K
        (try simp only [Act.put, List.getElem_toArray, List.getElem_cons_succ, List.getElem_cons_zero, List.setIfInBounds_toArray, List.set_cons_zero, List.set_cons_succ])
        refine wpAnyH_done (by kernel_rfl) ?_ _
        have hn2 : (wr.alloc (.cells #[.bool yn, .int .i64 (rtim yl l), .int .i64 (rtim yh h), .int .u64 0, .int .u64 0, .int .u64 0, .int .u64 0] 59)).drew.heap[wr.heap.size]? = some (.cells #[.bool yn, .int .i64 (rtim yl l), .int .i64 (rtim yh h), .int .u64 0, .int .u64 0, .int .u64 0, .int .u64 0] 59 (0, 0)) := heap_alloc_new wr (.cells #[.bool yn, .int .i64 (rtim yl l), .int .i64 (rtim yh h), .int .u64 0, .int .u64 0, .int .u64 0, .int .u64 0] 59)
        have hbd : Below wr.heap.size wr (wr.alloc (.cells #[.bool yn, .int .i64 (rtim yl l), .int .i64 (rtim yh h), .int .u64 0, .int .u64 0, .int .u64 0, .int .u64 0] 59)).drew := ((Below.refl _ _).alloc (Nat.le_refl _) _).drew
        go_upto_region 15 with fail
        have hcy0 := (hbd.cell (p := ⟨q, 3, none⟩) HQw.out.2).trans HC3.out
        have hcy1 := (hbd.cell (p := ⟨q, 4, none⟩) HQw.out.2).trans HC4.out
        have hcy2 := (hbd.cell (p := ⟨q, 5, none⟩) HQw.out.2).trans HC5.out
        have hcy3 := (hbd.cell (p := ⟨q, 6, none⟩) HQw.out.2).trans HC6.out
        have hd6 := (hbd.cell (p := ⟨w.heap.size, 6, none⟩) (by have := HLT.out; show w.heap.size < _; omega)).trans HSW.out.2.1.2
        have hres := (hbd.block _ HLT.out).trans HRes.out
        have hsz : wr.heap.size < (wr.alloc (.cells #[.bool yn, .int .i64 (rtim yl l), .int .i64 (rtim yh h), .int .u64 0, .int .u64 0, .int .u64 0, .int .u64 0] 59)).drew.heap.size := by simp
        clear hHeld
        generalize (wr.alloc (.cells #[.bool yn, .int .i64 (rtim yl l), .int .i64 (rtim yh h), .int .u64 0, .int .u64 0, .int .u64 0, .int .u64 0] 59)).drew = W3 at *
        have hrow : W3.heap[wr.heap.size]? = some (.cells (fc7 ⟨yn, rtim yl l, rtim yh h, noSet⟩) 59 (0, 0)) := by
          unfold fc7
          rw [wd_noSet.1, wd_noSet.2.1, wd_noSet.2.2.1, wd_noSet.2.2.2]
          exact hn2
        have HBd := Lib.hid hbd
        have HRes3 := Lib.hid hres
        have HSz3 := Lib.hid hsz
        have HLTd := HLT
        have HBw := HB
        have HKWw := HKW
        have HBs := Lib.hid hbd.size
        clear hn2 hbd hres hsz
        generalize hp9 : wr.heap.size = p9 at *
        have HP9 := Lib.hid hp9
        clear hp9
        have fz := fun j => frozen_of_row W3 p9 j _ _ hrow
        have f3 := fz 3
        have f4 := fz 4
        have f5 := fz 5
        have f6 := fz 6
        have p3 := cell_of_row W3 p9 3 _ _ _ hrow
        have p4 := cell_of_row W3 p9 4 _ _ _ hrow
        have p5 := cell_of_row W3 p9 5 _ _ _ hrow
        have p6 := cell_of_row W3 p9 6 _ _ _ hrow
        replace p3 : W3.cell? ⟨p9, 3, none⟩ = some (.int .u64 (wd noSet 0 64 : Nat)) := p3
        replace p4 : W3.cell? ⟨p9, 4, none⟩ = some (.int .u64 (wd noSet 64 64 : Nat)) := p4
        replace p5 : W3.cell? ⟨p9, 5, none⟩ = some (.int .u64 (wd noSet 128 64 : Nat)) := p5
        replace p6 : W3.cell? ⟨p9, 6, none⟩ = some (.int .u64 (wd noSet 192 64 : Nat)) := p6
        clear fz
        go_upto_region 17 with fail
        have hr4 := row_st hrow ys
        have ho4 := put4_only W3 p9 (.int .u64 (wd ys 0 64 : Nat)) (.int .u64 (wd ys 64 64 : Nat)) (.int .u64 (wd ys 128 64 : Nat)) (.int .u64 (wd ys 192 64 : Nat))
        have HRS := (ho4.block (w.heap.size + 1) (by have := HLTd.out; have := HSz3.out; omega) (by have := HLTd.out; omega)).trans HRes3.out
        clear f3 f4 f5 f6 p3 p4 p5 p6 hcy0 hcy1 hcy2 hcy3 hd6 hrow
        generalize ((((W3.setCell ⟨p9, 3, none⟩ (.int .u64 (wd ys 0 64 : Nat))).setCell ⟨p9, 4, none⟩ (.int .u64 (wd ys 64 64 : Nat))).setCell ⟨p9, 5, none⟩ (.int .u64 (wd ys 128 64 : Nat))).setCell ⟨p9, 6, none⟩ (.int .u64 (wd ys 192 64 : Nat))) = W4 at *
        have HO4 := Lib.hid ho4
        clear ho4
        go_wp2_with (first
          | (refine wpList_load_row rfl 59 _ rfl p9 rfl 59 (fc7 ⟨yn, rtim yl l, rtim yh h, ys⟩) (0, 0) _ hr4 Try.underlying59 rfl isz_f ?_)
          | (refine wpList_store_row rfl 59 (.tmp 4) (.tmp 74) rfl (w.heap.size + 1) (fc7 ⟨yn, rtim yl l, rtim yh h, ys⟩) rfl rfl 59 _ HRS isz_f rfl (by simp [Value.oneCell']) ?_))
        refine bodyPost_ret (v := .agg (fc7 ⟨yn, rtim yl l, rtim yh h, ys⟩)) (results_cell_row rfl _ _ (w.heap.size + 1) _ (fc7 ⟨yn, rtim yl l, rtim yh h, ys⟩) (0, 0) _ rfl (setRow_heap _ _ _ _ _ _ HRS) Try.underlying59 rfl isz_f) rfl ?_
        have hbd2 : Below wr.heap.size wr W3 := by rw [HP9.out]; exact HBd.out
        rw [HEnd.out]
        exact ⟨by first | rfl | (rw [hRep]; rfl), ((HB.out.2.2.1.below hbd2).only HO4.out (by have := HPB.out; have := HLTd.out; omega) (by have := HKB.out; have := HLTd.out; omega)).keep (S := fun b => b = w.heap.size + 1) ⟨rfl, rfl, rfl, by rw [setRow_size]; exact Nat.le_refl _, fun b _ hb => setRow_other _ _ b _ hb⟩ (fun e => by have := HPB.out; omega) (fun e => by have := HKB.out; omega), ((HKW.out.next hbd2).two HO4.out (by have := HLTd.out; omega)).rowAt (by omega) _⟩


theorem of_6 (n : Nat) (f : F) (hch : ∀ i, i < f.len → OfOk n (f.nth i).args) (l h : Int) (ig : Nat) (st : Nat → Bool) (sv : Value) (w : World) (S : Nat → Prop) (PB KB : Nat) (K : Nat → FC) (hsv : SV w S f sv) (hS : ∀ b, S b → b ≠ KB) (hkn : KN w PB KB n K) (hfk : ∀ k, FOk (K k)) (h6 : f.len ≤ 600) (hpk : preK n f) (hone : f.len = 1) (hin : ig < n) (hn9 : n ≤ 600) :
    Calls Try.prog 59 #[.pointer (some ⟨PB, 0, none⟩), .agg #[.int .i64 6, .int .u64 (wd st 0 64 : Nat), .int .u64 (wd st 64 64 : Nat), .int .u64 (wd st 128 64 : Nat), .int .u64 (wd st 192 64 : Nat), .int .i64 l, .int .i64 h, .int .i64 ((ig : Int) + 1), sv]] w fun e w' => e = .returned (.agg (fc7 ((facF f K).1.headD FC0))) ∧ KN w' PB KB n (updK (facF f K).2 ig ((facF f K).1.headD FC0)) ∧ Only KB w w' := by
  have HSV := Lib.hid hsv
  have HCh := Lib.hid hch
  have HS := Lib.hid hS
  have HPk := Lib.hid hpk
  have hfl : (f.len : Int) ≤ 600 := by omega
  have HFl := Lib.hid h6
  obtain ⟨ad, cap, rfl⟩ := slice_form hsv
  obtain ⟨W2, hW2⟩ : ∃ W2, W2 = (w.alloc (.cells #[.int .i64 6, .int .u64 (wd st 0 64 : Nat), .int .u64 (wd st 64 64 : Nat), .int .u64 (wd st 128 64 : Nat), .int .u64 (wd st 192 64 : Nat), .int .i64 l, .int .i64 h, .int .i64 ((ig : Int) + 1), .slice ad f.len cap] 28)).alloc (.cells z7 59) := ⟨_, rfl⟩
  have hx : Below w.heap.size w W2 := by rw [hW2]; exact ((Below.refl _ _).alloc (Nat.le_refl _) _).alloc (by simp) _
  have hz2 : W2.heap.size = w.heap.size + 2 := by rw [hW2]; simp
  have hg0 : W2.heap[w.heap.size]? = some (.cells #[.int .i64 6, .int .u64 (wd st 0 64 : Nat), .int .u64 (wd st 64 64 : Nat), .int .u64 (wd st 128 64 : Nat), .int .u64 (wd st 192 64 : Nat), .int .i64 l, .int .i64 h, .int .i64 ((ig : Int) + 1), .slice ad f.len cap] 28 (0, 0)) := by
    rw [hW2, Below.heap_alloc _ _ _ (by simp)]
    exact heap_alloc_new w _
  have hg1 : W2.heap[w.heap.size + 1]? = some (.cells z7 59 (0, 0)) := by
    have := heap_alloc_new (w.alloc (.cells #[.int .i64 6, .int .u64 (wd st 0 64 : Nat), .int .u64 (wd st 64 64 : Nat), .int .u64 (wd st 128 64 : Nat), .int .u64 (wd st 192 64 : Nat), .int .i64 l, .int .i64 h, .int .i64 ((ig : Int) + 1), .slice ad f.len cap] 28)) (.cells z7 59)
    rw [hW2]
    simpa using this
  have HKB := Lib.hid hkn.lt
  have HPB := Lib.hid hkn.plt
  have HKn := Lib.hid (hkn.below hx)
  have HFk := Lib.hid hfk
  have HX := Lib.hid hx
  have HG0 := Lib.hid hg0
  have HG1 := Lib.hid hg1
  have HZ := Lib.hid hz2
  have HW2 := Lib.hid hW2
  clear hsv hch hS hkn hfk h6 hpk hx hz2 hg0 hg1 hW2
  have HOne := Lib.hid hone
  have hii : (ig : Int) < (n : Int) := by omega
  have hi0 : (0 : Int) ≤ (ig : Int) := by omega
  have hiw : IntKind.i64.wrap ((ig : Int) + 1 - 1) = (ig : Int) := by rw [IntKind.wrap_i64]; omega
  have hiv : IntKind.i64.wrap (ig : Int) = (ig : Int) := by rw [IntKind.wrap_i64]; omega
  have HIn := Lib.hid hin
  clear hone hin hn9
  go_enter Try.func59, Try.ntmps59
  go_wp2_with fail
  go_loopw [5, 6] (fun v i wr => ∃ (k : Nat) (ys : List FC) (K' : Nat → FC), k ≤ f.len ∧ i = .int .i64 k ∧ Hid (ys.length = k ∧ PV 59 7 cells_f wr (w.heap.size + 2) ys v ∧ KN wr PB KB n K' ∧ Only KB W2 wr ∧ facF f K = (ys ++ (facF (f.drop k) K').1, (facF (f.drop k) K').2) ∧ ∀ k, FOk (K' k))) (fun _ i _ => f.len - (intOf i).toNat)
  case atStart =>
    refine ⟨0, [], K, Nat.zero_le _, rfl, ?_⟩
    rw [← HW2.out]
    exact Lib.hid ⟨rfl, PV.nil _ _ _ _ _, HKn.out, Only.refl _ _, by (have : f.drop 0 = f := by cases f <;> rfl); rw [this]; rfl, HFk.out⟩
  case round =>
    obtain ⟨k, ys, K', hk, rfl, HB⟩ := hrel
    have hkw : Only KB w wr := (Only.of_below HX.out).trans HB.out.2.2.2.1
    have hbox : wr.heap[w.heap.size]? = some (.cells #[.int .i64 6, .int .u64 (wd st 0 64 : Nat), .int .u64 (wd st 64 64 : Nat), .int .u64 (wd st 128 64 : Nat), .int .u64 (wd st 192 64 : Nat), .int .i64 l, .int .i64 h, .int .i64 ((ig : Int) + 1), .slice ad f.len cap] 28 (0, 0)) := (HB.out.2.2.2.1.block _ (by have := HZ.out; omega) (by have := HKB.out; omega)).trans HG0.out
    have hres : wr.heap[w.heap.size + 1]? = some (.cells z7 59 (0, 0)) := (HB.out.2.2.2.1.block _ (by have := HZ.out; omega) (by have := HKB.out; omega)).trans HG1.out
    obtain ⟨⟨⟨b0, b1, b2⟩, b3, b4, b5⟩, b6, b7, b8⟩ := nine hbox
    have hlt : w.heap.size + 1 < wr.heap.size := (Array.getElem?_eq_some_iff.1 hres).1
    have HLT := Lib.hid hlt
    have HKW := Lib.hid hkw
    have HRes := Lib.hid hres
    obtain ⟨vad, vcap, rfl⟩ := own_sl HB.out.2.1
    clear hkw hbox hlt hres
    by_cases hkn : k < f.len
    · have ki : (k : Int) < f.len := by omega
      have ki0 : (0 : Int) ≤ k := by omega
      obtain ⟨b, i0, ad2, cp2, rfl, hsv2, c0, c1, c2, c3, c4, c5, c6, c7, c8⟩ := kid HSV.out (Afar.only_ne HKW.out HS.out) k hkn
      have HS2 := Lib.hid hsv2
      have HNd := Lib.hid (NdK_nth n f k hkn HPk.out)
      have HL := Lib.hid (fun W hW hK => HCh.out k hkn (f.nth k).op (f.nth k).lo (f.nth k).hi (f.nth k).g (f.nth k).st (.slice ad2 (f.nth k).args.len cp2) W S PB KB K' hW HS.out hK HB.out.2.2.2.2.2 HNd.out)
      have HSt := Lib.hid (HB.out.2.2.2.2.1.trans (by rw [fac_step f k hkn K']))
      have eT : (⟨(f.nth k).op, (f.nth k).st, (f.nth k).lo, (f.nth k).hi, (f.nth k).g, (f.nth k).args⟩ : TN) = f.nth k := rfl
      have HOkY := Lib.hid (facN_ok n (f.nth k) K' HNd.out HB.out.2.2.2.2.2)
      rw [eT] at HL
      obtain ⟨Y, hY⟩ : ∃ Y, facN (f.nth k) K' = Y := ⟨_, rfl⟩
      rw [hY] at HL HSt HOkY
      obtain ⟨y, KY⟩ := Y
      clear hsv2 eT hY
      go_wp2_with (first
        | (go_at_call 59; (with_reducible refine (HL.out _ HS2.out HB.out.2.2.1).mono ?_); rintro e w2 ⟨rfl, hk2, ho2⟩
           have HK2 := Lib.hid hk2
           have HO2 := Lib.hid ho2
           have HPV := Lib.hid (HB.out.2.1.only (by have := HKB.out; omega) ho2)
           clear hk2 ho2 b0 b1 b2 b3 b4 b5 b6 b7 b8 c0 c1 c2 c3 c4 c5 c6 c7 c8)
        | (at_builtin; refine app1 (w.heap.size + 2) 92 59 (.agg z7) 7 56 Try.underlying92 info_f rfl (by decide) w2 rfl (.tmp 15) (.tmp 23) rfl (by have := HLT.out; have := HO2.out.size; omega) (.slice vad ys.length vcap) ys.length _ (cells_f y) rfl rfl HPV.out _ rfl rfl rfl ?d1 ?d2 ?d3 ?_))
      case d1 => simp [cells_f, Value.oneCell']
      case d2 => have := HB.out.1; unfold maxLen; omega
      case d3 => have := HB.out.1; omega
      intro g0 cap0 w8 ho8 hk8 hg8
      have hown : ∀ x, (Value.slice vad ys.length vcap).ownBlock = some x → w.heap.size + 2 ≤ x := fun x hx => (own_at HB.out.2.1 x hx).1
      have HF : Hid ((ys ++ [y]).length = k + 1 ∧ PV 59 7 cells_f w8 (w.heap.size + 2) (ys ++ [y]) (.slice (some ⟨g0, 0, none⟩) (ys.length + 1) cap0) ∧ KN w8 PB KB n KY ∧ Only KB W2 w8) := by
        refine Lib.hid ⟨by rw [List.length_append, HB.out.1]; rfl, ?_, HK2.out.keep hk8 (fun e => by have := hown _ e; have := HPB.out; omega) (fun e => by have := hown _ e; have := HKB.out; omega), ?_⟩
        · unfold PV
          rw [List.length_append, List.flatMap_append]
          have : ([y] : List FC).flatMap cells_f = cells_f y := by simp
          rw [this]
          exact ho8
        · have h1 := HB.out.2.2.2.1.trans HO2.out
          exact ⟨hk8.os.trans h1.os, hk8.tape.trans h1.tape, hk8.output.trans h1.output, Nat.le_trans h1.size hk8.size, fun b hb hne => (hk8.block b (by have := h1.size; omega) (fun e => by have := hown _ e; have := HZ.out; omega)).trans (h1.block b hb hne)⟩
      clear ho8 hk8 hg8 hown
      go_wp2_with fail
      go_roundw
      case rel => exact ⟨k + 1, ys ++ [y], KY, by omega, by go_num, Lib.hid ⟨HF.out.1, HF.out.2.1, HF.out.2.2.1, HF.out.2.2.2, by rw [HSt.out, List.append_assoc]; rfl, HOkY.out.2⟩⟩
      case measure => simp [intOf]; omega
    · obtain rfl : k = f.len := by omega
      have hend := HB.out.2.2.2.2.1
      rw [F.drop_len] at hend
      replace hend : facF f K = (ys ++ [], K') := hend
      rw [List.append_nil] at hend
      have HEnd := Lib.hid hend
      have hfo := facF_ok n f K HPk.out HFk.out
      rw [hend] at hfo
      have HFo := Lib.hid hfo
      clear hend hfo
      obtain ⟨y, rfl⟩ : ∃ y, ys = [y] := by
        have hlen := HB.out.1
        rw [HOne.out] at hlen
        match ys, hlen with
        | [y], _ => exact ⟨y, rfl⟩
      have hpv : PV 59 7 cells_f wr (w.heap.size + 2) [y] (.slice vad 1 vcap) := HB.out.2.1
      obtain ⟨q, rfl, ⟨y0, y1, y2⟩, y3, y4, y5, y6⟩ := fac_at (ps := [y]) hpv (Below.refl _ _) 0 Nat.zero_lt_one
      have hqw := own_at hpv q rfl
      have HQw := Lib.hid hqw
      rw [Nat.zero_mul] at y0 y1 y2 y3 y4 y5 y6
      simp only [List.getElem_cons_zero, Nat.zero_add] at y0 y1 y2 y3 y4 y5 y6
      have hoky := HFo.out.1 y (List.mem_singleton_self _)
      have HOky := Lib.hid hoky
      obtain ⟨yn, yl, yh, ys⟩ := y
      have hoc : ¬ (vcap : Int) < 1 := by
        rcases hpv.2 with ⟨e, _⟩ | ⟨g, cap, cur, e, _, _, hle, _⟩
        · cases e
        · cases e
          simp at hle
          omega
      clear hpv hqw hoky
      have hk := HB.out.2.2.1
      have hp := hk.ptr
      have HK := Lib.hid hk
      have HTh := Lib.hid (hk.drew.there ig HIn.out)
      clear hk
      go_upto_region 19 with fail
      go_still_tail 11, (by kernel_rfl)
      change wpList _ _ _ _ _ wr.drew
      have hkd := HK.out.drew.put ig HIn.out ⟨yn, yl, yh, ys⟩
      have hod := put7_only wr.drew KB (ig * 7) ⟨yn, yl, yh, ys⟩
      have e7 : wr.drew.setCells KB (ig * 7) (fc7 ⟨yn, yl, yh, ys⟩).toList = put7 wr.drew KB (ig * 7) ⟨yn, yl, yh, ys⟩ := rfl
      have hye : ∀ j, (put7 wr.drew KB (ig * 7) ⟨yn, yl, yh, ys⟩).cell? ⟨q, j, none⟩ = wr.cell? ⟨q, j, none⟩ := fun j => cell_same (hod.block q HQw.out.2 (by have := HQw.out.1; have := HKB.out; omega))
      rw [← hye] at y0 y1 y2 y3 y4 y5 y6
      have HRS := (hod.block (w.heap.size + 1) HLT.out (by have := HKB.out; omega)).trans (show wr.drew.heap[w.heap.size + 1]? = _ from HRes.out)
      clear hye b0 b1 b2 b3 b4 b5 b6 b7 b8 hp
      refine wpList_store_mid rfl 59 (.tmp 87) (.tmp 86) rfl KB (ig * 7) (fc7 ⟨yn, yl, yh, ys⟩) rfl rfl HTh.out isz_f (by simp [Value.oneCell']) ?_
      rw [e7]
      clear e7
      generalize put7 wr.drew KB (ig * 7) ⟨yn, yl, yh, ys⟩ = W3 at *
      have HKd := Lib.hid hkd
      have HOd := Lib.hid hod
      clear hkd hod
      go_wp2_with (first
        | (refine wpList_store_row rfl 59 (.tmp 4) (.tmp 90) rfl (w.heap.size + 1) (fc7 ⟨yn, yl, yh, ys⟩) rfl rfl 59 _ HRS isz_f rfl (by simp [Value.oneCell']) ?_))
      refine bodyPost_ret (v := .agg (fc7 ⟨yn, yl, yh, ys⟩)) (results_cell_row rfl _ _ (w.heap.size + 1) _ (fc7 ⟨yn, yl, yh, ys⟩) (0, 0) _ rfl (setRow_heap _ _ _ _ _ _ HRS) Try.underlying59 rfl isz_f) rfl ?_
      rw [HEnd.out]
      have hod2 : Only KB w W3 := (HKW.out.drew).trans HOd.out
      exact ⟨rfl, (HKd.out).keep (S := fun b => b = w.heap.size + 1) ⟨rfl, rfl, rfl, by rw [setRow_size]; exact Nat.le_refl _, fun b _ hb => setRow_other _ _ b _ hb⟩ (fun e => by have := HPB.out; omega) (fun e => by have := HKB.out; omega), (hod2).rowAt (by omega) _⟩


theorem of_9 (n : Nat) (f : F) (hch : ∀ i, i < f.len → OfOk n (f.nth i).args) (l h : Int) (ig : Nat) (st : Nat → Bool) (sv : Value) (w : World) (S : Nat → Prop) (PB KB : Nat) (K : Nat → FC) (hsv : SV w S f sv) (hS : ∀ b, S b → b ≠ KB) (hkn : KN w PB KB n K) (hfk : ∀ k, FOk (K k)) (h6 : f.len ≤ 600) (hpk : preK n f) (hin : ig < n) (hn9 : n ≤ 600) :
    Calls Try.prog 59 #[.pointer (some ⟨PB, 0, none⟩), .agg #[.int .i64 9, .int .u64 (wd st 0 64 : Nat), .int .u64 (wd st 64 64 : Nat), .int .u64 (wd st 128 64 : Nat), .int .u64 (wd st 192 64 : Nat), .int .i64 l, .int .i64 h, .int .i64 ((ig : Int) + 1), sv]] w fun e w' => e = .returned (.agg (fc7 ((facF f K).2 ig))) ∧ KN w' PB KB n ((facF f K).2) ∧ Only KB w w' := by
  have HSV := Lib.hid hsv
  have HCh := Lib.hid hch
  have HS := Lib.hid hS
  have HPk := Lib.hid hpk
  have hfl : (f.len : Int) ≤ 600 := by omega
  have HFl := Lib.hid h6
  obtain ⟨ad, cap, rfl⟩ := slice_form hsv
  obtain ⟨W2, hW2⟩ : ∃ W2, W2 = (w.alloc (.cells #[.int .i64 9, .int .u64 (wd st 0 64 : Nat), .int .u64 (wd st 64 64 : Nat), .int .u64 (wd st 128 64 : Nat), .int .u64 (wd st 192 64 : Nat), .int .i64 l, .int .i64 h, .int .i64 ((ig : Int) + 1), .slice ad f.len cap] 28)).alloc (.cells z7 59) := ⟨_, rfl⟩
  have hx : Below w.heap.size w W2 := by rw [hW2]; exact ((Below.refl _ _).alloc (Nat.le_refl _) _).alloc (by simp) _
  have hz2 : W2.heap.size = w.heap.size + 2 := by rw [hW2]; simp
  have hg0 : W2.heap[w.heap.size]? = some (.cells #[.int .i64 9, .int .u64 (wd st 0 64 : Nat), .int .u64 (wd st 64 64 : Nat), .int .u64 (wd st 128 64 : Nat), .int .u64 (wd st 192 64 : Nat), .int .i64 l, .int .i64 h, .int .i64 ((ig : Int) + 1), .slice ad f.len cap] 28 (0, 0)) := by
    rw [hW2, Below.heap_alloc _ _ _ (by simp)]
    exact heap_alloc_new w _
  have hg1 : W2.heap[w.heap.size + 1]? = some (.cells z7 59 (0, 0)) := by
    have := heap_alloc_new (w.alloc (.cells #[.int .i64 9, .int .u64 (wd st 0 64 : Nat), .int .u64 (wd st 64 64 : Nat), .int .u64 (wd st 128 64 : Nat), .int .u64 (wd st 192 64 : Nat), .int .i64 l, .int .i64 h, .int .i64 ((ig : Int) + 1), .slice ad f.len cap] 28)) (.cells z7 59)
    rw [hW2]
    simpa using this
  have HKB := Lib.hid hkn.lt
  have HPB := Lib.hid hkn.plt
  have HKn := Lib.hid (hkn.below hx)
  have HFk := Lib.hid hfk
  have HX := Lib.hid hx
  have HG0 := Lib.hid hg0
  have HG1 := Lib.hid hg1
  have HZ := Lib.hid hz2
  have HW2 := Lib.hid hW2
  clear hsv hch hS hkn hfk h6 hpk hx hz2 hg0 hg1 hW2
  have hii : (ig : Int) < (n : Int) := by omega
  have hi0 : (0 : Int) ≤ (ig : Int) := by omega
  have hiw : IntKind.i64.wrap ((ig : Int) + 1 - 1) = (ig : Int) := by rw [IntKind.wrap_i64]; omega
  have hiv : IntKind.i64.wrap (ig : Int) = (ig : Int) := by rw [IntKind.wrap_i64]; omega
  have HIn := Lib.hid hin
  clear hin hn9
  go_enter Try.func59, Try.ntmps59
  go_wp2_with fail
  go_loopw [5, 6] (fun v i wr => ∃ (k : Nat) (ys : List FC) (K' : Nat → FC), k ≤ f.len ∧ i = .int .i64 k ∧ Hid (ys.length = k ∧ PV 59 7 cells_f wr (w.heap.size + 2) ys v ∧ KN wr PB KB n K' ∧ Only KB W2 wr ∧ facF f K = (ys ++ (facF (f.drop k) K').1, (facF (f.drop k) K').2) ∧ ∀ k, FOk (K' k))) (fun _ i _ => f.len - (intOf i).toNat)
  case atStart =>
    refine ⟨0, [], K, Nat.zero_le _, rfl, ?_⟩
    rw [← HW2.out]
    exact Lib.hid ⟨rfl, PV.nil _ _ _ _ _, HKn.out, Only.refl _ _, by (have : f.drop 0 = f := by cases f <;> rfl); rw [this]; rfl, HFk.out⟩
  case round =>
    obtain ⟨k, ys, K', hk, rfl, HB⟩ := hrel
    have hkw : Only KB w wr := (Only.of_below HX.out).trans HB.out.2.2.2.1
    have hbox : wr.heap[w.heap.size]? = some (.cells #[.int .i64 9, .int .u64 (wd st 0 64 : Nat), .int .u64 (wd st 64 64 : Nat), .int .u64 (wd st 128 64 : Nat), .int .u64 (wd st 192 64 : Nat), .int .i64 l, .int .i64 h, .int .i64 ((ig : Int) + 1), .slice ad f.len cap] 28 (0, 0)) := (HB.out.2.2.2.1.block _ (by have := HZ.out; omega) (by have := HKB.out; omega)).trans HG0.out
    have hres : wr.heap[w.heap.size + 1]? = some (.cells z7 59 (0, 0)) := (HB.out.2.2.2.1.block _ (by have := HZ.out; omega) (by have := HKB.out; omega)).trans HG1.out
    obtain ⟨⟨⟨b0, b1, b2⟩, b3, b4, b5⟩, b6, b7, b8⟩ := nine hbox
    have hlt : w.heap.size + 1 < wr.heap.size := (Array.getElem?_eq_some_iff.1 hres).1
    have HLT := Lib.hid hlt
    have HKW := Lib.hid hkw
    have HRes := Lib.hid hres
    obtain ⟨vad, vcap, rfl⟩ := own_sl HB.out.2.1
    clear hkw hbox hlt hres
    by_cases hkn : k < f.len
    · have ki : (k : Int) < f.len := by omega
      have ki0 : (0 : Int) ≤ k := by omega
      obtain ⟨b, i0, ad2, cp2, rfl, hsv2, c0, c1, c2, c3, c4, c5, c6, c7, c8⟩ := kid HSV.out (Afar.only_ne HKW.out HS.out) k hkn
      have HS2 := Lib.hid hsv2
      have HNd := Lib.hid (NdK_nth n f k hkn HPk.out)
      have HL := Lib.hid (fun W hW hK => HCh.out k hkn (f.nth k).op (f.nth k).lo (f.nth k).hi (f.nth k).g (f.nth k).st (.slice ad2 (f.nth k).args.len cp2) W S PB KB K' hW HS.out hK HB.out.2.2.2.2.2 HNd.out)
      have HSt := Lib.hid (HB.out.2.2.2.2.1.trans (by rw [fac_step f k hkn K']))
      have eT : (⟨(f.nth k).op, (f.nth k).st, (f.nth k).lo, (f.nth k).hi, (f.nth k).g, (f.nth k).args⟩ : TN) = f.nth k := rfl
      have HOkY := Lib.hid (facN_ok n (f.nth k) K' HNd.out HB.out.2.2.2.2.2)
      rw [eT] at HL
      obtain ⟨Y, hY⟩ : ∃ Y, facN (f.nth k) K' = Y := ⟨_, rfl⟩
      rw [hY] at HL HSt HOkY
      obtain ⟨y, KY⟩ := Y
      clear hsv2 eT hY
      go_wp2_with (first
        | (go_at_call 59; (with_reducible refine (HL.out _ HS2.out HB.out.2.2.1).mono ?_); rintro e w2 ⟨rfl, hk2, ho2⟩
           have HK2 := Lib.hid hk2
           have HO2 := Lib.hid ho2
           have HPV := Lib.hid (HB.out.2.1.only (by have := HKB.out; omega) ho2)
           clear hk2 ho2 b0 b1 b2 b3 b4 b5 b6 b7 b8 c0 c1 c2 c3 c4 c5 c6 c7 c8)
        | (at_builtin; refine app1 (w.heap.size + 2) 92 59 (.agg z7) 7 56 Try.underlying92 info_f rfl (by decide) w2 rfl (.tmp 15) (.tmp 23) rfl (by have := HLT.out; have := HO2.out.size; omega) (.slice vad ys.length vcap) ys.length _ (cells_f y) rfl rfl HPV.out _ rfl rfl rfl ?d1 ?d2 ?d3 ?_))
      case d1 => simp [cells_f, Value.oneCell']
      case d2 => have := HB.out.1; unfold maxLen; omega
      case d3 => have := HB.out.1; omega
      intro g0 cap0 w8 ho8 hk8 hg8
      have hown : ∀ x, (Value.slice vad ys.length vcap).ownBlock = some x → w.heap.size + 2 ≤ x := fun x hx => (own_at HB.out.2.1 x hx).1
      have HF : Hid ((ys ++ [y]).length = k + 1 ∧ PV 59 7 cells_f w8 (w.heap.size + 2) (ys ++ [y]) (.slice (some ⟨g0, 0, none⟩) (ys.length + 1) cap0) ∧ KN w8 PB KB n KY ∧ Only KB W2 w8) := by
        refine Lib.hid ⟨by rw [List.length_append, HB.out.1]; rfl, ?_, HK2.out.keep hk8 (fun e => by have := hown _ e; have := HPB.out; omega) (fun e => by have := hown _ e; have := HKB.out; omega), ?_⟩
        · unfold PV
          rw [List.length_append, List.flatMap_append]
          have : ([y] : List FC).flatMap cells_f = cells_f y := by simp
          rw [this]
          exact ho8
        · have h1 := HB.out.2.2.2.1.trans HO2.out
          exact ⟨hk8.os.trans h1.os, hk8.tape.trans h1.tape, hk8.output.trans h1.output, Nat.le_trans h1.size hk8.size, fun b hb hne => (hk8.block b (by have := h1.size; omega) (fun e => by have := hown _ e; have := HZ.out; omega)).trans (h1.block b hb hne)⟩
      clear ho8 hk8 hg8 hown
      go_wp2_with fail
      go_roundw
      case rel => exact ⟨k + 1, ys ++ [y], KY, by omega, by go_num, Lib.hid ⟨HF.out.1, HF.out.2.1, HF.out.2.2.1, HF.out.2.2.2, by rw [HSt.out, List.append_assoc]; rfl, HOkY.out.2⟩⟩
      case measure => simp [intOf]; omega
    · obtain rfl : k = f.len := by omega
      have hend := HB.out.2.2.2.2.1
      rw [F.drop_len] at hend
      replace hend : facF f K = (ys ++ [], K') := hend
      rw [List.append_nil] at hend
      have HEnd := Lib.hid hend
      have hfo := facF_ok n f K HPk.out HFk.out
      rw [hend] at hfo
      have HFo := Lib.hid hfo
      clear hend hfo
      have hk := HB.out.2.2.1
      have hp := hk.ptr
      obtain ⟨⟨z0, z1, z2⟩, z3, z4, z5, z6⟩ := hk.cells ig HIn.out
      have HK := Lib.hid hk
      clear hk
      generalize hx : K' ig = x at *
      have HXe := Lib.hid hx
      clear hx
      obtain ⟨yn, yl, yh, ys⟩ := x
      go_upto_region 22 with fail
      go_still_tail 9, (by kernel_rfl)
      change wpList _ _ _ _ _ wr.drew
      have HRS : wr.drew.heap[w.heap.size + 1]? = some (.cells z7 59 (0, 0)) := HRes.out
      go_wp2_with (first
        | (refine wpList_store_row rfl 59 (.tmp 4) (.tmp 101) rfl (w.heap.size + 1) (fc7 ⟨yn, yl, yh, ys⟩) rfl rfl 59 _ HRS isz_f rfl (by simp [Value.oneCell']) ?_))
      refine bodyPost_ret (v := .agg (fc7 ⟨yn, yl, yh, ys⟩)) (results_cell_row rfl _ _ (w.heap.size + 1) _ (fc7 ⟨yn, yl, yh, ys⟩) (0, 0) _ rfl (setRow_heap _ _ _ _ _ _ HRS) Try.underlying59 rfl isz_f) rfl ?_
      rw [HEnd.out]
      exact ⟨(by show _ = Ending.returned (Value.agg (fc7 (K' ig))); rw [HXe.out]), (HK.out.drew).keep (S := fun b => b = w.heap.size + 1) ⟨rfl, rfl, rfl, by rw [setRow_size]; exact Nat.le_refl _, fun b _ hb => setRow_other _ _ b _ hb⟩ (fun e => by have := HPB.out; omega) (fun e => by have := HKB.out; omega), (HKW.out.drew).rowAt (by omega) _⟩


theorem of_node (n : Nat) (hn : n ≤ 600) (f : F) (hch : ∀ i, i < f.len → OfOk n (f.nth i).args) : OfOk n f := by
  intro o l h g st sv w S PB KB K hsv hS hkn hfk hnd
  obtain ⟨n1, n2, n3, n4, n5⟩ := hnd
  by_cases o2 : o = 2
  · subst o2
    have e : facN ⟨2, st, l, h, g, f⟩ K = (⟨false, 1, 1, st⟩, (facF f K).2) := by unfold facN facR; simp
    rw [e]
    exact of_2 n f hch l h g st sv w S PB KB K hsv hS hkn hfk n4 n5
  by_cases o3 : o = 3
  · subst o3
    have e : facN ⟨3, st, l, h, g, f⟩ K = ((facF f K).1.foldl catS FC1, (facF f K).2) := by unfold facN facR; simp
    rw [e]
    exact of_3 n f hch l h g st sv w S PB KB K hsv hS hkn hfk n4 n5
  by_cases o4 : o = 4
  · subst o4
    have e : facN ⟨4, st, l, h, g, f⟩ K = (altL (facF f K).1, (facF f K).2) := by unfold facN facR; simp
    rw [e]
    exact of_4 n f hch l h g st sv w S PB KB K hsv hS hkn hfk n4 n5 (havT_4 n2)
  by_cases o5 : o = 5
  · subst o5
    have e : facN ⟨5, st, l, h, g, f⟩ K = (repS l h ((facF f K).1.headD FC0), (facF f K).2) := by unfold facN facR; simp
    rw [e]
    have h1 := havT_5 n2
    obtain ⟨b1, b2, b3⟩ := bnd_of (n3 rfl)
    by_cases hl : l = 0
    · subst hl
      by_cases hh : h = 0
      · subst hh
        exact of_511 n f hch g st sv w S PB KB K hsv hS hkn hfk n4 n5 h1
      · exact of_510 n f hch h g st sv w S PB KB K hsv hS hkn hfk n4 n5 h1 (by simpa using hh) hh (by omega)
    · by_cases hh : h = 0
      · subst hh
        exact of_501 n f hch l g st sv w S PB KB K hsv hS hkn hfk n4 n5 h1 (by simpa using hl) hl ⟨b1, b2⟩
      · exact of_500 n f hch l h g st sv w S PB KB K hsv hS hkn hfk n4 n5 h1 (by simpa using hl) hl ⟨b1, b2⟩ (by simpa using hh) hh (by omega)
  by_cases o6 : o = 6
  · subst o6
    obtain ⟨g1, g2⟩ := n1 (.inl rfl)
    obtain ⟨ig, rfl⟩ : ∃ ig : Nat, g = (ig : Int) + 1 := ⟨(g - 1).toNat, by omega⟩
    have eg : ((ig : Int) + 1 - 1).toNat = ig := by omega
    have e : facN ⟨6, st, l, h, (ig : Int) + 1, f⟩ K = ((facF f K).1.headD FC0, updK (facF f K).2 ig ((facF f K).1.headD FC0)) := by
      unfold facN facR
      rw [eg]
      simp
    rw [e]
    exact of_6 n f hch l h ig st sv w S PB KB K hsv hS hkn hfk n4 n5 (havT_6 n2) (by omega) hn
  by_cases o9 : o = 9
  · subst o9
    obtain ⟨g1, g2⟩ := n1 (.inr rfl)
    obtain ⟨ig, rfl⟩ : ∃ ig : Nat, g = (ig : Int) + 1 := ⟨(g - 1).toNat, by omega⟩
    have eg : ((ig : Int) + 1 - 1).toNat = ig := by omega
    have e : facN ⟨9, st, l, h, (ig : Int) + 1, f⟩ K = ((facF f K).2 ig, (facF f K).2) := by
      unfold facN
      rw [eg]
      simp
    rw [e]
    exact of_9 n f hch l h ig st sv w S PB KB K hsv hS hkn hfk n4 n5 (by omega) hn
  · have hnil : f = .nil := by
      have hz : f.len = 0 := by
        unfold havT at n2
        by_cases hq : o = 1 ∨ o = 2 ∨ o = 7 ∨ o = 8 ∨ o = 9
        · rw [if_pos hq] at n2; simpa using n2
        · rw [if_neg hq, if_neg (by omega), if_neg (by omega)] at n2; cases n2
      exact len_nil hz
    have e : facN ⟨o, st, l, h, g, f⟩ K = (FC1, (facF f K).2) := by
      subst hnil
      unfold facN facR
      simp only [o2, o3, o4, o5, o6, o9, or_self, if_false]
      rfl
    rw [e]
    exact of_x n f hch o l h g st sv w S PB KB K hsv hS hkn hfk n4 n5 (by simpa using o2) (by simpa using o3) (by simpa using o4) (by simpa using o5) (by simpa using o6) (by simpa using o9)
theorem of_all (n : Nat) (hn : n ≤ 600) : ∀ (f : F) (i : Nat), i < f.len → OfOk n (f.nth i).args
  | .nil, i, h => by cases h
  | .cons o s l h g a r, 0, hi => of_node n hn a (of_all n hn a)
  | .cons o s l h g a r, i + 1, hi => of_all n hn r i (by have : i + 1 < r.len + 1 := hi; omega)
theorem of_any (n : Nat) (hn : n ≤ 600) (f : F) : OfOk n f := of_node n hn f (of_all n hn f)
end Go.Proofs.Ytpfbpgbgedbalaa
