/- RpCmpl. -/
import Derived.Test.YtbjobbkipmkndaaDoorPj21
import Derived.Test.YtbjobbkipmkndaaDoorPj16
set_option linter.unusedVariables false
set_option linter.unusedSimpArgs false
set_option maxRecDepth 100000
set_option maxHeartbeats 8000000
namespace Go.Proofs.YtbjobbkipmkndaaDoor
open Go.RowKit
theorem survT_bk {t : TN} (h : checkT t = 0) : (survT t).bk = bkF t.f := by
  have hv := (checkT_iff t).1 h
  unfold checkT errQ at h
  have hf : (survT t).Fine := by
    by_cases h1 : (survT t).wt = true
    · rw [if_pos h1] at h; cases h
    rw [if_neg h1] at h
    by_cases h2 : (survT t).wr = true
    · rw [if_pos h2] at h; cases h
    rw [if_neg h2] at h
    by_cases h3 : (survT t).wn = true
    · rw [if_pos h3] at h; cases h
    rw [if_neg h3] at h
    by_cases h4 : 600 < (survT t).n ∨ 9 < (survT t).cl.length ∨ 32 < (survT t).lv
    · rw [if_pos h4] at h; cases h
    exact ⟨by simpa using h1, by simpa using h2, by simpa using h3, by omega, by omega⟩
  have := (walkF_fine t.f 1 SQ0 rfl (by decide) hf).2.2.2.2
  show (walkF t.f 1 SQ0).bk = _
  rw [this]
  rfl
def cmpT (t : TN) : List IN × Int :=
  if checkT t = 0 then
    if (survT t).bk = true then ([], 7)
    else if 4096 < valT exsT t then ([], 3)
    else if 4096 < (prgT (expT t)).length then ([], 3) else (prgT (expT t), 0)
  else ([], checkT t)
theorem isz_rp : (Tryd.prog.info? 24).map (·.size) = some 2 := by kernel_rfl
theorem results_rp2 {fn : Func} {p u : Tmp} (h : fn.results = #[.cell p 24, .tmp u]) (tmps : Array Value) (w : World) (g : Nat) (t : TypeId) (cs : Array Value) (fr : Nat × Nat) (v : Value)
    (hp : tmps.getD p undef = .pointer (some ⟨g, 0, none⟩)) (hv : tmps.getD u undef = v) (hg : w.heap[g]? = some (.cells cs t fr)) (hi : (Tryd.prog.info? 24).map (·.size) = some cs.size) :
    (results fn tmps).run Tryd.prog w = .ok (.tuple #[.agg cs, v]) w := by
  rw [results_cell_tmp h, hp, hv]
  simp [asAddr, run_loadVar_row w g t 24 cs fr _ hg Tryd.underlying24 rfl hi]
theorem compile_ti {w : World} {t : TN} {sv : Value} (h : TI w t sv) (ln : Bool) : Calls Tryd.prog 13 #[.agg #[.int .i64 t.op, .int .u64 (wd t.st 0 64 : Nat), .int .u64 (wd t.st 64 64 : Nat), .int .u64 (wd t.st 128 64 : Nat), .int .u64 (wd t.st 192 64 : Nat), .int .i64 t.lo, .int .i64 t.hi, .int .i64 t.g, sv], .bool ln] w fun e w' => ∃ pv, e = .returned (.tuple #[.agg #[pv, .bool (ln && decide ((cmpT t).2 = 0))], .int .i64 (cmpT t).2]) ∧ PI w' w.heap.size (cmpT t).1 pv ∧ Below w.heap.size w w' := by
  obtain ⟨ad, cap, rfl⟩ := h.form
  have hb : Below w.heap.size w ((w.alloc (.cells #[.int .i64 t.op, .int .u64 (wd t.st 0 64 : Nat), .int .u64 (wd t.st 64 64 : Nat), .int .u64 (wd t.st 128 64 : Nat), .int .u64 (wd t.st 192 64 : Nat), .int .i64 t.lo, .int .i64 t.hi, .int .i64 t.g, .slice ad t.args.len cap] 34)).alloc (.cells #[.slice none 0 0, .bool false] 24)) := ((Below.refl _ _).alloc (Nat.le_refl _) _).alloc (by simp) _
  have he : ((w.alloc (.cells #[.int .i64 t.op, .int .u64 (wd t.st 0 64 : Nat), .int .u64 (wd t.st 64 64 : Nat), .int .u64 (wd t.st 128 64 : Nat), .int .u64 (wd t.st 192 64 : Nat), .int .i64 t.lo, .int .i64 t.hi, .int .i64 t.g, .slice ad t.args.len cap] 34)).alloc (.cells #[.slice none 0 0, .bool false] 24)).heap[w.heap.size]? = some (.cells #[.int .i64 t.op, .int .u64 (wd t.st 0 64 : Nat), .int .u64 (wd t.st 64 64 : Nat), .int .u64 (wd t.st 128 64 : Nat), .int .u64 (wd t.st 192 64 : Nat), .int .i64 t.lo, .int .i64 t.hi, .int .i64 t.g, .slice ad t.args.len cap] 34 (0, 0)) := by
    rw [Below.heap_alloc _ _ _ (by simp)]
    exact heap_alloc_new w _
  have hr : ((w.alloc (.cells #[.int .i64 t.op, .int .u64 (wd t.st 0 64 : Nat), .int .u64 (wd t.st 64 64 : Nat), .int .u64 (wd t.st 128 64 : Nat), .int .u64 (wd t.st 192 64 : Nat), .int .i64 t.lo, .int .i64 t.hi, .int .i64 t.g, .slice ad t.args.len cap] 34)).alloc (.cells #[.slice none 0 0, .bool false] 24)).heap[w.heap.size + 1]? = some (.cells #[.slice none 0 0, .bool false] 24 (0, 0)) := by
    have := heap_alloc_new (w.alloc (.cells #[.int .i64 t.op, .int .u64 (wd t.st 0 64 : Nat), .int .u64 (wd t.st 64 64 : Nat), .int .u64 (wd t.st 128 64 : Nat), .int .u64 (wd t.st 192 64 : Nat), .int .i64 t.lo, .int .i64 t.hi, .int .i64 t.g, .slice ad t.args.len cap] 34)) (.cells #[.slice none 0 0, .bool false] 24)
    simpa using this
  have hl : w.heap.size + 1 < ((w.alloc (.cells #[.int .i64 t.op, .int .u64 (wd t.st 0 64 : Nat), .int .u64 (wd t.st 64 64 : Nat), .int .u64 (wd t.st 128 64 : Nat), .int .u64 (wd t.st 192 64 : Nat), .int .i64 t.lo, .int .i64 t.hi, .int .i64 t.g, .slice ad t.args.len cap] 34)).alloc (.cells #[.slice none 0 0, .bool false] 24)).heap.size := by simp
  have HT := Lib.hid (h.below hb)
  have HB := Lib.hid hb
  have HE := Lib.hid he
  have HR := Lib.hid hr
  have HL := Lib.hid hl
  generalize hW : ((w.alloc (.cells #[.int .i64 t.op, .int .u64 (wd t.st 0 64 : Nat), .int .u64 (wd t.st 64 64 : Nat), .int .u64 (wd t.st 128 64 : Nat), .int .u64 (wd t.st 192 64 : Nat), .int .i64 t.lo, .int .i64 t.hi, .int .i64 t.g, .slice ad t.args.len cap] 34)).alloc (.cells #[.slice none 0 0, .bool false] 24)) = W at *
  have HW := Lib.hid hW
  have HC := Lib.hid (fun w (h : TI w t (.slice ad t.args.len cap)) => check_ti h)
  have HK := Lib.hid (fun w (h : TI w t (.slice ad t.args.len cap)) => back_ti h)
  have HX := Lib.hid (fun w (h : TI w t (.slice ad t.args.len cap)) => expand_tj h)
  obtain ⟨⟨⟨a0, a1, a2⟩, a3, a4, a5⟩, a6, a7, a8⟩ := nine he
  have hl0 : w.heap.size < W.heap.size := by omega
  clear h hb he hr hl hW
  unfold cmpT
  by_cases hc : checkT t = 0
  case neg =>
    have hc2 : (checkT t == 0) = false := by simpa using hc
    rw [if_neg hc]
    clear HX HK
    go_enter Tryd.func13, Tryd.ntmps13
    go_upto_region 1 with fail
    rw [HW.out]
    go_wp2_with (first
      | (go_at_call 27; (with_reducible refine (HC.out _ HT.out).mono ?_); rintro e w1 ⟨rfl, hb⟩; have HB1 := Lib.hid (HB.out.trans (hb.mono HB.out.size)); have HT1 := Lib.hid (HT.out.below hb); have HE1 := Lib.hid ((hb.block w.heap.size (by have := HL.out; omega)).trans HE.out); have HR1 := Lib.hid ((hb.block (w.heap.size + 1) (by have := HL.out; omega)).trans HR.out); have HL1 : Hid (w.heap.size + 1 < w1.heap.size) := Lib.hid (by have := hb.size; have := HL.out; omega); clear a0 a1 a2 a3 a4 a5 a6 a7 a8 hl0; obtain ⟨⟨⟨a0, a1, a2⟩, a3, a4, a5⟩, a6, a7, a8⟩ := nine HE1.out; have hl0 : w.heap.size < w1.heap.size := (by have := HL1.out; omega); clear hb)
      | (refine wpList_store_row rfl 24 (.tmp 4) (.tmp 14) rfl (w.heap.size + 1) #[.slice none 0 0, .bool false] rfl rfl 24 _ HR1.out isz_rp rfl (by simp [Value.oneCell']) ?_))
    have hd : decide (checkT t = 0) = false := by simpa using hc
    refine bodyPost_ret (v := .tuple #[.agg #[.slice none 0 0, .bool false], .int .i64 (checkT t)]) (results_rp2 rfl _ _ (w.heap.size + 1) _ #[.slice none 0 0, .bool false] (0, 0) (.int .i64 (checkT t)) rfl rfl (setRow_heap w1 _ _ _ _ _ HR1.out) isz_rp) rfl ?_
    exact ⟨_, by rw [hd, Bool.and_false], PI.nil _ _, below_setRow HB1.out (by omega) _⟩
  case pos =>
    have hv : Valid t := (checkT_iff t).1 hc
    have hwf := wf_expT hv
    have hok : okE t.f := okE_valid hv
    have hsh := fun (h1 : (survT t).bk = false) (h2 : valT exsT t ≤ 4096) => cod_short hok (by rw [← survT_bk hc]; exact h1) h2 0
    rw [if_pos hc]
    rw [hc] at HC
    obtain ⟨bk, hbk⟩ : ∃ bk, (survT t).bk = bk := ⟨_, rfl⟩
    rw [hbk] at HK hsh ⊢
    unfold expdT at HX
    rw [if_pos hc] at HX
    generalize expT t = Z at *
    generalize valT exsT t = Y at *
    clear hbk hok hv hc
    cases bk
    case true =>
      rw [if_pos rfl]
      clear HX
      go_enter Tryd.func13, Tryd.ntmps13
      go_upto_region 1 with fail
      rw [HW.out]
      go_wp2_with (first
        | (go_at_call 27; (with_reducible refine (HC.out _ HT.out).mono ?_); rintro e w1 ⟨rfl, hb⟩; have HB1 := Lib.hid (HB.out.trans (hb.mono HB.out.size)); have HT1 := Lib.hid (HT.out.below hb); have HE1 := Lib.hid ((hb.block w.heap.size (by have := HL.out; omega)).trans HE.out); have HR1 := Lib.hid ((hb.block (w.heap.size + 1) (by have := HL.out; omega)).trans HR.out); have HL1 : Hid (w.heap.size + 1 < w1.heap.size) := Lib.hid (by have := hb.size; have := HL.out; omega); clear a0 a1 a2 a3 a4 a5 a6 a7 a8 hl0; obtain ⟨⟨⟨a0, a1, a2⟩, a3, a4, a5⟩, a6, a7, a8⟩ := nine HE1.out; have hl0 : w.heap.size < w1.heap.size := (by have := HL1.out; omega); clear hb)
        | (go_at_call 28; (with_reducible refine (HK.out _ HT1.out).mono ?_); rintro e w2 ⟨rfl, hb⟩; have HB2 := Lib.hid (HB1.out.trans (hb.mono HB1.out.size)); have HT2 := Lib.hid (HT1.out.below hb); have HE2 := Lib.hid ((hb.block w.heap.size (by have := HL1.out; omega)).trans HE1.out); have HR2 := Lib.hid ((hb.block (w.heap.size + 1) (by have := HL1.out; omega)).trans HR1.out); have HL2 : Hid (w.heap.size + 1 < w2.heap.size) := Lib.hid (by have := hb.size; have := HL1.out; omega); clear a0 a1 a2 a3 a4 a5 a6 a7 a8 hl0; obtain ⟨⟨⟨a0, a1, a2⟩, a3, a4, a5⟩, a6, a7, a8⟩ := nine HE2.out; have hl0 : w.heap.size < w2.heap.size := (by have := HL2.out; omega); clear hb)
        | (refine wpList_store_row rfl 24 (.tmp 4) (.tmp 18) rfl (w.heap.size + 1) #[.slice none 0 0, .bool false] rfl rfl 24 _ HR2.out isz_rp rfl (by simp [Value.oneCell']) ?_))
      refine bodyPost_ret (v := .tuple #[.agg #[.slice none 0 0, .bool false], .int .i64 7]) (results_rp2 rfl _ _ (w.heap.size + 1) _ #[.slice none 0 0, .bool false] (0, 0) (.int .i64 7) rfl rfl (setRow_heap w2 _ _ _ _ _ HR2.out) isz_rp) rfl ?_
      exact ⟨_, by simp, PI.nil _ _, below_setRow HB2.out (by omega) _⟩
    case false =>
    rw [if_neg (by simp)]
    by_cases hy : 4096 < Y
    · rw [if_pos hy] at HX ⊢
      dsimp only at HX
      go_enter Tryd.func13, Tryd.ntmps13
      go_upto_region 1 with fail
      rw [HW.out]
      go_wp2_with (first
        | (go_at_call 27; (with_reducible refine (HC.out _ HT.out).mono ?_); rintro e w1 ⟨rfl, hb⟩; have HB1 := Lib.hid (HB.out.trans (hb.mono HB.out.size)); have HT1 := Lib.hid (HT.out.below hb); have HE1 := Lib.hid ((hb.block w.heap.size (by have := HL.out; omega)).trans HE.out); have HR1 := Lib.hid ((hb.block (w.heap.size + 1) (by have := HL.out; omega)).trans HR.out); have HL1 : Hid (w.heap.size + 1 < w1.heap.size) := Lib.hid (by have := hb.size; have := HL.out; omega); clear a0 a1 a2 a3 a4 a5 a6 a7 a8 hl0; obtain ⟨⟨⟨a0, a1, a2⟩, a3, a4, a5⟩, a6, a7, a8⟩ := nine HE1.out; have hl0 : w.heap.size < w1.heap.size := (by have := HL1.out; omega); clear hb)
        | (go_at_call 28; (with_reducible refine (HK.out _ HT1.out).mono ?_); rintro e w2 ⟨rfl, hb⟩; have HB2 := Lib.hid (HB1.out.trans (hb.mono HB1.out.size)); have HT2 := Lib.hid (HT1.out.below hb); have HE2 := Lib.hid ((hb.block w.heap.size (by have := HL1.out; omega)).trans HE1.out); have HR2 := Lib.hid ((hb.block (w.heap.size + 1) (by have := HL1.out; omega)).trans HR1.out); have HL2 : Hid (w.heap.size + 1 < w2.heap.size) := Lib.hid (by have := hb.size; have := HL1.out; omega); clear a0 a1 a2 a3 a4 a5 a6 a7 a8 hl0; obtain ⟨⟨⟨a0, a1, a2⟩, a3, a4, a5⟩, a6, a7, a8⟩ := nine HE2.out; have hl0 : w.heap.size < w2.heap.size := (by have := HL2.out; omega); clear hb)
        | (go_at_call 29; (with_reducible refine (HX.out _ HT2.out).mono ?_); rintro e w3 ⟨sx, rfl, hx, hb⟩; have HB3 := Lib.hid (HB2.out.trans (hb.mono HB2.out.size)); have HT3 := Lib.hid (HT2.out.below hb); have HE3 := Lib.hid ((hb.block w.heap.size (by have := HL2.out; omega)).trans HE2.out); have HR3 := Lib.hid ((hb.block (w.heap.size + 1) (by have := HL2.out; omega)).trans HR2.out); have HL3 : Hid (w.heap.size + 1 < w3.heap.size) := Lib.hid (by have := hb.size; have := HL2.out; omega); clear a0 a1 a2 a3 a4 a5 a6 a7 a8 hl0; obtain ⟨⟨⟨a0, a1, a2⟩, a3, a4, a5⟩, a6, a7, a8⟩ := nine HE3.out; have hl0 : w.heap.size < w3.heap.size := (by have := HL3.out; omega); obtain ⟨ax, cx, rfl⟩ := hx.form; have HTx := Lib.hid (fun x => hx.below ((Below.refl w3.heap.size w3).alloc (Nat.le_refl _) x)); have HRa := Lib.hid (fun x => (Below.heap_alloc w3 x (w.heap.size + 1) (by have := HL3.out; omega)).trans HR3.out); have HBa := Lib.hid (fun x => HB3.out.alloc HB3.out.size x); clear hb)
        | (refine wpList_store_row rfl 24 (.tmp 4) (.tmp 26) rfl (w.heap.size + 1) #[.slice none 0 0, .bool false] rfl rfl 24 _ (HRa.out _) isz_rp rfl (by simp [Value.oneCell']) ?_))
      refine bodyPost_ret (v := .tuple #[.agg #[.slice none 0 0, .bool false], .int .i64 3]) (results_rp2 rfl _ _ (w.heap.size + 1) _ #[.slice none 0 0, .bool false] (0, 0) (.int .i64 3) rfl rfl (setRow_heap _ _ _ _ _ _ (HRa.out _)) isz_rp) rfl ?_
      exact ⟨_, by simp, PI.nil _ _, below_setRow (HBa.out _) (by omega) _⟩
    · rw [if_neg hy] at HX ⊢
      dsimp only at HX
      have hsh := hsh rfl (by omega)
      have HCo := Lib.hid (fun W sv' (hW : TI W Z sv') => codeof_any Z sv' W hW hwf (by omega))
      obtain ⟨Lp, hLp⟩ : ∃ Lp, prgT Z = Lp := ⟨_, rfl⟩
      rw [hLp] at HCo ⊢
      have hbx : Lp.length ≤ 900000 := by rw [← hLp]; unfold prgT; rw [List.length_append]; show _ + 1 ≤ _; omega
      clear hsh hwf hLp hy
      by_cases hl4 : 4096 < Lp.length
      · rw [if_pos hl4]
        have hl4I : (4096 : Int) < (Lp.length : Int) := by omega
        go_enter Tryd.func13, Tryd.ntmps13
        go_upto_region 1 with fail
        rw [HW.out]
        go_wp2_with (first
          | (go_at_call 27; (with_reducible refine (HC.out _ HT.out).mono ?_); rintro e w1 ⟨rfl, hb⟩; have HB1 := Lib.hid (HB.out.trans (hb.mono HB.out.size)); have HT1 := Lib.hid (HT.out.below hb); have HE1 := Lib.hid ((hb.block w.heap.size (by have := HL.out; omega)).trans HE.out); have HR1 := Lib.hid ((hb.block (w.heap.size + 1) (by have := HL.out; omega)).trans HR.out); have HL1 : Hid (w.heap.size + 1 < w1.heap.size) := Lib.hid (by have := hb.size; have := HL.out; omega); clear a0 a1 a2 a3 a4 a5 a6 a7 a8 hl0; obtain ⟨⟨⟨a0, a1, a2⟩, a3, a4, a5⟩, a6, a7, a8⟩ := nine HE1.out; have hl0 : w.heap.size < w1.heap.size := (by have := HL1.out; omega); clear hb)
          | (go_at_call 28; (with_reducible refine (HK.out _ HT1.out).mono ?_); rintro e w2 ⟨rfl, hb⟩; have HB2 := Lib.hid (HB1.out.trans (hb.mono HB1.out.size)); have HT2 := Lib.hid (HT1.out.below hb); have HE2 := Lib.hid ((hb.block w.heap.size (by have := HL1.out; omega)).trans HE1.out); have HR2 := Lib.hid ((hb.block (w.heap.size + 1) (by have := HL1.out; omega)).trans HR1.out); have HL2 : Hid (w.heap.size + 1 < w2.heap.size) := Lib.hid (by have := hb.size; have := HL1.out; omega); clear a0 a1 a2 a3 a4 a5 a6 a7 a8 hl0; obtain ⟨⟨⟨a0, a1, a2⟩, a3, a4, a5⟩, a6, a7, a8⟩ := nine HE2.out; have hl0 : w.heap.size < w2.heap.size := (by have := HL2.out; omega); clear hb)
          | (go_at_call 29; (with_reducible refine (HX.out _ HT2.out).mono ?_); rintro e w3 ⟨sx, rfl, hx, hb⟩; have HB3 := Lib.hid (HB2.out.trans (hb.mono HB2.out.size)); have HT3 := Lib.hid (HT2.out.below hb); have HE3 := Lib.hid ((hb.block w.heap.size (by have := HL2.out; omega)).trans HE2.out); have HR3 := Lib.hid ((hb.block (w.heap.size + 1) (by have := HL2.out; omega)).trans HR2.out); have HL3 : Hid (w.heap.size + 1 < w3.heap.size) := Lib.hid (by have := hb.size; have := HL2.out; omega); clear a0 a1 a2 a3 a4 a5 a6 a7 a8 hl0; obtain ⟨⟨⟨a0, a1, a2⟩, a3, a4, a5⟩, a6, a7, a8⟩ := nine HE3.out; have hl0 : w.heap.size < w3.heap.size := (by have := HL3.out; omega); obtain ⟨ax, cx, rfl⟩ := hx.form; have HTx := Lib.hid (fun x => hx.below ((Below.refl w3.heap.size w3).alloc (Nat.le_refl _) x)); have HRa := Lib.hid (fun x => (Below.heap_alloc w3 x (w.heap.size + 1) (by have := HL3.out; omega)).trans HR3.out); have HBa := Lib.hid (fun x => HB3.out.alloc HB3.out.size x); clear hb)
          | (go_at_call 30; (with_reducible refine (HCo.out _ _ (HTx.out _)).mono ?_); rintro e w4 ⟨pv, rfl, hp, hb⟩; have HB4 := Lib.hid ((HBa.out _).trans (hb.mono (HBa.out _).size)); have HR4 := Lib.hid ((hb.block (w.heap.size + 1) (by have := HL3.out; simp; omega)).trans (HRa.out _)); obtain ⟨ap, cp, rfl⟩ := hp.form; have HPI := Lib.hid hp; clear a0 a1 a2 a3 a4 a5 a6 a7 a8 hl0 hb hp)
          | (refine wpList_store_row rfl 24 (.tmp 4) (.tmp 33) rfl (w.heap.size + 1) #[.slice none 0 0, .bool false] rfl rfl 24 _ HR4.out isz_rp rfl (by simp [Value.oneCell']) ?_))
        refine bodyPost_ret (v := .tuple #[.agg #[.slice none 0 0, .bool false], .int .i64 3]) (results_rp2 rfl _ _ (w.heap.size + 1) _ #[.slice none 0 0, .bool false] (0, 0) (.int .i64 3) rfl rfl (setRow_heap _ _ _ _ _ _ HR4.out) isz_rp) rfl ?_
        exact ⟨_, by simp, PI.nil _ _, below_setRow HB4.out (by omega) _⟩
      · rw [if_neg hl4]
        have hl4I : ¬ (4096 : Int) < (Lp.length : Int) := by omega
        go_enter Tryd.func13, Tryd.ntmps13
        go_upto_region 1 with fail
        rw [HW.out]
        go_wp2_with (first
          | (go_at_call 27; (with_reducible refine (HC.out _ HT.out).mono ?_); rintro e w1 ⟨rfl, hb⟩; have HB1 := Lib.hid (HB.out.trans (hb.mono HB.out.size)); have HT1 := Lib.hid (HT.out.below hb); have HE1 := Lib.hid ((hb.block w.heap.size (by have := HL.out; omega)).trans HE.out); have HR1 := Lib.hid ((hb.block (w.heap.size + 1) (by have := HL.out; omega)).trans HR.out); have HL1 : Hid (w.heap.size + 1 < w1.heap.size) := Lib.hid (by have := hb.size; have := HL.out; omega); clear a0 a1 a2 a3 a4 a5 a6 a7 a8 hl0; obtain ⟨⟨⟨a0, a1, a2⟩, a3, a4, a5⟩, a6, a7, a8⟩ := nine HE1.out; have hl0 : w.heap.size < w1.heap.size := (by have := HL1.out; omega); clear hb)
          | (go_at_call 28; (with_reducible refine (HK.out _ HT1.out).mono ?_); rintro e w2 ⟨rfl, hb⟩; have HB2 := Lib.hid (HB1.out.trans (hb.mono HB1.out.size)); have HT2 := Lib.hid (HT1.out.below hb); have HE2 := Lib.hid ((hb.block w.heap.size (by have := HL1.out; omega)).trans HE1.out); have HR2 := Lib.hid ((hb.block (w.heap.size + 1) (by have := HL1.out; omega)).trans HR1.out); have HL2 : Hid (w.heap.size + 1 < w2.heap.size) := Lib.hid (by have := hb.size; have := HL1.out; omega); clear a0 a1 a2 a3 a4 a5 a6 a7 a8 hl0; obtain ⟨⟨⟨a0, a1, a2⟩, a3, a4, a5⟩, a6, a7, a8⟩ := nine HE2.out; have hl0 : w.heap.size < w2.heap.size := (by have := HL2.out; omega); clear hb)
          | (go_at_call 29; (with_reducible refine (HX.out _ HT2.out).mono ?_); rintro e w3 ⟨sx, rfl, hx, hb⟩; have HB3 := Lib.hid (HB2.out.trans (hb.mono HB2.out.size)); have HT3 := Lib.hid (HT2.out.below hb); have HE3 := Lib.hid ((hb.block w.heap.size (by have := HL2.out; omega)).trans HE2.out); have HR3 := Lib.hid ((hb.block (w.heap.size + 1) (by have := HL2.out; omega)).trans HR2.out); have HL3 : Hid (w.heap.size + 1 < w3.heap.size) := Lib.hid (by have := hb.size; have := HL2.out; omega); clear a0 a1 a2 a3 a4 a5 a6 a7 a8 hl0; obtain ⟨⟨⟨a0, a1, a2⟩, a3, a4, a5⟩, a6, a7, a8⟩ := nine HE3.out; have hl0 : w.heap.size < w3.heap.size := (by have := HL3.out; omega); obtain ⟨ax, cx, rfl⟩ := hx.form; have HTx := Lib.hid (fun x => hx.below ((Below.refl w3.heap.size w3).alloc (Nat.le_refl _) x)); have HRa := Lib.hid (fun x => (Below.heap_alloc w3 x (w.heap.size + 1) (by have := HL3.out; omega)).trans HR3.out); have HBa := Lib.hid (fun x => HB3.out.alloc HB3.out.size x); clear hb)
          | (go_at_call 30; (with_reducible refine (HCo.out _ _ (HTx.out _)).mono ?_); rintro e w4 ⟨pv, rfl, hp, hb⟩; have HB4 := Lib.hid ((HBa.out _).trans (hb.mono (HBa.out _).size)); have HR4 := Lib.hid ((hb.block (w.heap.size + 1) (by have := HL3.out; simp; omega)).trans (HRa.out _)); obtain ⟨ap, cp, rfl⟩ := hp.form; have HPI := Lib.hid hp; clear a0 a1 a2 a3 a4 a5 a6 a7 a8 hl0 hb hp)
          | (refine wpList_store_row rfl 24 (.tmp 4) (.tmp 36) rfl (w.heap.size + 1) #[.slice ap Lp.length cp, .bool ln] rfl rfl 24 _ HR4.out isz_rp rfl (by simp [Value.oneCell']) ?_))
        refine bodyPost_ret (v := .tuple #[.agg #[.slice ap Lp.length cp, .bool ln], .int .i64 0]) (results_rp2 rfl _ _ (w.heap.size + 1) _ #[.slice ap Lp.length cp, .bool ln] (0, 0) (.int .i64 0) rfl rfl (setRow_heap _ _ _ _ _ _ HR4.out) isz_rp) rfl ?_
        exact ⟨_, by simp, (HPI.out.turn (by rw [setRow_size]; exact Nat.le_refl _) (fun b hn _ => setRow_other _ _ b _ (by have := HL3.out; simp at hn; omega))).low (by have := HL3.out; simp; omega), below_setRow HB4.out (by omega) _⟩
end Go.Proofs.YtbjobbkipmkndaaDoor
