/- RtX5. -/
import Derived.Test.YtbjobbkipmkndaaDoorPj10
import Derived.StillTailTactics
set_option linter.unusedVariables false
set_option linter.unusedSimpArgs false
set_option maxRecDepth 100000
set_option maxHeartbeats 8000000
namespace Go.Proofs.YtbjobbkipmkndaaDoor
open Go.RowKit
theorem row_noSet (lo hi : Int) (sv : Value) : rowV 5 noSet lo hi 0 sv = [.int .i64 5, .int .u64 0, .int .u64 0, .int .u64 0, .int .u64 0, .int .i64 lo, .int .i64 hi, .int .i64 0, sv] := by
  unfold rowV
  rw [wd_noSet.1, wd_noSet.2.1, wd_noSet.2.2.1, wd_noSet.2.2.2]
  rfl
theorem len0 {f : F} (h : f.len = 0) : f = .nil := by
  cases f with
  | nil => rfl
  | cons _ _ _ _ _ _ _ => cases h
theorem len1 {f : F} (h : f.len = 1) : ∃ o s l h g a, f = .cons o s l h g a .nil := by
  cases f with
  | nil => cases h
  | cons o s l h' g a r => exact ⟨o, s, l, h', g, a, by rw [len0 (f := r) (by have h : r.len + 1 = 1 := h; omega)]⟩
theorem catT_many {f : F} (h : 2 ≤ f.len) : catT f = ⟨3, noSet, 0, 0, 0, f⟩ := by
  cases f with
  | nil => cases h
  | cons o s l h' g a r => cases r with
    | nil => have h : 2 ≤ 1 := h; omega
    | cons _ _ _ _ _ _ _ => rfl
theorem sapp1 (B : Nat) (T E : TypeId) (z : Value) (k bytes : Nat) (ht : Tryd.prog.underlying T = some (.slice E)) (hif : (Tryd.prog.info? E).map (fun i => (i.zero, i.size, i.bytes)) = some (some z, k, bytes)) (hz : z.cells.size = k) (hk : 0 < k)
    {W : World} {ops : Array Oper} {o : Oper} {a : Act} {K : Act → World → Prop} {Q : Exit → Act → World → Prop} {F0 : Prop} (w : World) (hgd : o.guard = none) (s x : Operand)
    (ho : o.op = .call { callee := .builtin .append, args := #[s, x], argTypes := #[T, T] })
    (hB : B ≤ w.heap.size) (v : Value) (n : Nat) (xs vs : List Value) (hW : W = w.alloc (.cells vs.toArray E)) (hs : a.eval s = v) (hown : w.ownsRow B E k v n xs) (g0 : Nat) (hg0 : w.heap.size = g0) (hx : a.eval x = .slice (some ⟨g0, 0, none⟩) 1 1) (hl : vs.length = k) (h1 : ∀ u ∈ vs, u.oneCell' = true)
    (h63 : n + 1 ≤ maxLen) (hby : (n + 1) * bytes ≤ 140737488355328)
    (h : ∀ g cap w', w'.ownsRow B E k (.slice (some ⟨g, 0, none⟩) (n + 1) cap) (n + 1) (xs ++ vs) → Keep (fun b => v.ownBlock = some b) w w' → (v.ownBlock = some g ∨ w.heap.size ≤ g) → K (a.put o.dst (.slice (some ⟨g, 0, none⟩) (n + 1) cap)) w') :
    if Region.wanted o (yielded ops a.tmps) = true then Oper.wp Tryd.prog o a W K Q else F0 := by
  subst hg0
  subst hW
  obtain ⟨i0, hi, hz0, hz1, hz2⟩ := info_parts hif
  refine step_append_lies _ hgd s x T ho B E i0 z k bytes ht hi hz0 hz1 hz2 hz hk v n xs hs (hown.alloc _) ⟨w.heap.size, 0, none⟩ 1 1 vs hx (by omega) (fun j u hu => new_cells w vs E j u hu) h1 (by decide) h63 hby (by simp; omega) _ rfl ?_
  intro g cap w' hown' hgrow hat hlt
  refine h g cap w' hown' (((Keep.refl _ _).alloc _).grown hgrow (fun j e _ => e)) ?_
  rcases hat with hat | hat
  · exact .inl hat
  · exact .inr (by rw [hat]; simp)
theorem exp_5 (a : TN) (hch : ExpG a.args) (l h g : Int) (st : Nat → Bool) (b i0 cap : Nat) (ad2 : Option Addr) (cp2 : Nat) (w : World) (S : Nat → Prop) (hb : b < w.heap.size) (hrow : ∀ j u, (rowV a.op a.st a.lo a.hi a.g (.slice ad2 a.args.len cp2))[j]? = some u → w.cell? ⟨b, i0 + j, none⟩ = some u)
    (hsa : SV w S a.args (.slice ad2 a.args.len cp2)) (hS : ∀ b, S b → b < w.heap.size) (hok : okE (.cons a.op a.st a.lo a.hi a.g a.args .nil)) (hl : 0 ≤ l ∧ l ≤ 64) (hh : h = -1 ∨ (l ≤ h ∧ h ≤ 64)) (Xq : TN) (hXq : catT (seqF ⟨5, st, l, h, g, .nil⟩ (expT a)) = Xq) :
    Calls Tryd.prog 40 #[.agg #[.int .i64 5, .int .u64 (wd st 0 64 : Nat), .int .u64 (wd st 64 64 : Nat), .int .u64 (wd st 128 64 : Nat), .int .u64 (wd st 192 64 : Nat), .int .i64 l, .int .i64 h, .int .i64 g, .slice (some ⟨b, i0, none⟩) 1 cap]] w fun e w' => ∃ sv', e = .returned (.agg #[.int .i64 Xq.op, .int .u64 (wd Xq.st 0 64 : Nat), .int .u64 (wd Xq.st 64 64 : Nat), .int .u64 (wd Xq.st 128 64 : Nat), .int .u64 (wd Xq.st 192 64 : Nat), .int .i64 Xq.lo, .int .i64 Xq.hi, .int .i64 Xq.g, sv']) ∧ SV w' (Frm w.heap.size) Xq.args sv' ∧ Below w.heap.size w w' := by
  obtain ⟨⟨k1, k2⟩, ⟨k3, k4⟩⟩ := bounds_cr l h hl hh
  have HSq := Lib.hid (fun W => seq_any 5 l h g st (.slice (some ⟨b, i0, none⟩) 1 cap) W hl hh)
  have HEx := Lib.hid (fun W (h1 : SV W S a.args (.slice ad2 a.args.len cp2)) (h2 : w.heap.size ≤ W.heap.size) => hch a.op a.lo a.hi a.g a.st _ W S h1 (fun b hb => by have := hS b hb; omega) hok)
  have eT : (⟨a.op, a.st, a.lo, a.hi, a.g, a.args⟩ : TN) = a := rfl
  rw [eT] at HEx
  have hsq : seqF ⟨5, st, l, h, g, .nil⟩ (expT a) = timesF (rpT l h).toNat (repT (loT l h) (hiT l h) (expT a)) (timesF (cpT l h).toNat (expT a) .nil) := rfl
  rw [hsq] at hXq
  generalize expT a = X at *
  generalize cpT l h = C at *
  generalize rpT l h = R at *
  generalize loT l h = A at *
  generalize hiT l h = D at *
  obtain ⟨W2, hW2⟩ : ∃ W2, W2 = (w.alloc (.cells #[.int .i64 5, .int .u64 (wd st 0 64 : Nat), .int .u64 (wd st 64 64 : Nat), .int .u64 (wd st 128 64 : Nat), .int .u64 (wd st 192 64 : Nat), .int .i64 l, .int .i64 h, .int .i64 g, .slice (some ⟨b, i0, none⟩) 1 cap] 34)).alloc (.cells #[.int .i64 0, .int .u64 0, .int .u64 0, .int .u64 0, .int .u64 0, .int .i64 0, .int .i64 0, .int .i64 0, .slice none 0 0] 34) := ⟨_, rfl⟩
  have hbw : Below w.heap.size w W2 := by rw [hW2]; exact ((Below.refl _ _).alloc (Nat.le_refl _) _).alloc (by simp) _
  have hz : W2.heap.size = w.heap.size + 1 + 1 := by rw [hW2]; simp
  have he : W2.heap[w.heap.size]? = some (.cells #[.int .i64 5, .int .u64 (wd st 0 64 : Nat), .int .u64 (wd st 64 64 : Nat), .int .u64 (wd st 128 64 : Nat), .int .u64 (wd st 192 64 : Nat), .int .i64 l, .int .i64 h, .int .i64 g, .slice (some ⟨b, i0, none⟩) 1 cap] 34 (0, 0)) := by
    rw [hW2, Below.heap_alloc _ _ _ (by simp)]
    exact heap_alloc_new w _
  have hr : W2.heap[w.heap.size + 1]? = some (.cells #[.int .i64 0, .int .u64 0, .int .u64 0, .int .u64 0, .int .u64 0, .int .i64 0, .int .i64 0, .int .i64 0, .slice none 0 0] 34 (0, 0)) := by
    have := heap_alloc_new (w.alloc (.cells #[.int .i64 5, .int .u64 (wd st 0 64 : Nat), .int .u64 (wd st 64 64 : Nat), .int .u64 (wd st 128 64 : Nat), .int .u64 (wd st 192 64 : Nat), .int .i64 l, .int .i64 h, .int .i64 g, .slice (some ⟨b, i0, none⟩) 1 cap] 34)) (.cells #[.int .i64 0, .int .u64 0, .int .u64 0, .int .u64 0, .int .u64 0, .int .i64 0, .int .i64 0, .int .i64 0, .slice none 0 0] 34)
    rw [hW2]
    simpa using this
  have HBl := Lib.hid hb
  have HRow := Lib.hid hrow
  have HSa := Lib.hid hsa
  have HS := Lib.hid hS
  have HBw := Lib.hid hbw
  have HE := Lib.hid he
  have HR := Lib.hid hr
  have HW2 := Lib.hid hW2
  have HZ := Lib.hid hz
  have HXq := Lib.hid hXq
  clear hb hrow hsa hS hok hl hh hbw he hr hW2 hz hXq hsq hch eT
  go_enter Tryd.func40, Tryd.ntmps40
  go_upto_region 5 with (first
    | (go_at_call 50; rw [← HW2.out]; (with_reducible refine (HSq.out _).mono ?_); rintro e w1 ⟨rfl, hb1⟩
       have HB1 := Lib.hid hb1
       clear hb1)
    )
  have hs1 := HB1.out.size
  have hz := HZ.out
  have hw1b := HBw.out.trans (HB1.out.mono HBw.out.size)
  have he1 := (HB1.out.block w.heap.size (by omega)).trans HE.out
  have hr1 := (HB1.out.block (w.heap.size + 1) (by omega)).trans HR.out
  have hba : Below w1.heap.size w1 (w1.alloc (.cells #[.int .i64 C, .int .i64 R, .int .i64 A, .int .i64 D] 89)) := (Below.refl _ _).alloc (Nat.le_refl _) _
  have hq := heap_alloc_new w1 (.cells #[.int .i64 C, .int .i64 R, .int .i64 A, .int .i64 D] 89)
  have he2 := (hba.block w.heap.size (by omega)).trans he1
  have hr2 := (hba.block (w.heap.size + 1) (by omega)).trans hr1
  have hb2 := hw1b.trans (hba.mono hw1b.size)
  have hl3 : w1.heap.size < (w1.alloc (.cells #[.int .i64 C, .int .i64 R, .int .i64 A, .int .i64 D] 89)).heap.size := by simp
  have hp3 : w.heap.size + 1 < w1.heap.size := by omega
  generalize w1.alloc (.cells #[.int .i64 C, .int .i64 R, .int .i64 A, .int .i64 D] 89) = W3 at *
  clear HB1 hs1 hw1b he1 hr1 hba
  generalize w1.heap.size = P3 at *
  have HP3 := Lib.hid hp3
  have HS3 := Lib.hid (And.intro he2 (And.intro hr2 (And.intro hq (And.intro hb2 hl3))))
  have q0 := cell_of_row W3 P3 0 _ _ _ hq
  have q1 := cell_of_row W3 P3 1 _ _ _ hq
  replace q0 : W3.cell? ⟨P3, 0, none⟩ = some (.int .i64 C) := q0
  replace q1 : W3.cell? ⟨P3, 1, none⟩ = some (.int .i64 R) := q1
  clear hq he2 hr2 hb2 hl3 hp3 hz
  go_wp2_with fail
  go_loopw [4, 17] (fun v i wr => ∃ (j : Nat) (d : F), (j : Int) ≤ C ∧ i = .int .i64 j ∧ Hid (d = timesF j X .nil ∧ OF wr (P3 + 1) d v ∧  wr.heap[w.heap.size]? = some (.cells #[.int .i64 5, .int .u64 (wd st 0 64 : Nat), .int .u64 (wd st 64 64 : Nat), .int .u64 (wd st 128 64 : Nat), .int .u64 (wd st 192 64 : Nat), .int .i64 l, .int .i64 h, .int .i64 g, .slice (some ⟨b, i0, none⟩) 1 cap] 34 (0, 0)) ∧ wr.heap[w.heap.size + 1]? = some (.cells #[.int .i64 0, .int .u64 0, .int .u64 0, .int .u64 0, .int .u64 0, .int .i64 0, .int .i64 0, .int .i64 0, .slice none 0 0] 34 (0, 0)) ∧ wr.heap[P3]? = some (.cells #[.int .i64 C, .int .i64 R, .int .i64 A, .int .i64 D] 89 (0, 0)) ∧ Below w.heap.size w wr ∧ P3 < wr.heap.size)) (fun _ i _ => C.toNat - (intOf i).toNat)
  case atStart => exact ⟨0, .nil, k1, rfl, Lib.hid ⟨rfl, OF.nil _ _, HS3.out.1, HS3.out.2.1, HS3.out.2.2.1, HS3.out.2.2.2.1, HS3.out.2.2.2.2⟩⟩
  case round =>
    obtain ⟨j, d, hj, rfl, HB⟩ := hrel
    have hdl : d.len = j := by have := congrArg F.len HB.out.1; rw [timesF_len] at this; have e0 : F.nil.len = 0 := rfl; omega
    have HDl := Lib.hid hdl
    clear q0 q1
    by_cases hjn : (j : Int) < C
    · have ki0 : (0 : Int) ≤ j := by omega
      have hbel := HB.out.2.2.2.2.2.1
      have hcell : ∀ j' u, (rowV a.op a.st a.lo a.hi a.g (.slice ad2 a.args.len cp2))[j']? = some u → wr.cell? ⟨b, i0 + j', none⟩ = some u := fun j' u hu => by
        rw [hbel.cell (by exact HBl.out)]
        exact HRow.out j' u hu
      have c0 := hcell 0 _ rfl
      have c1 := hcell 1 _ rfl
      have c2 := hcell 2 _ rfl
      have c3 := hcell 3 _ rfl
      have c4 := hcell 4 _ rfl
      have c5 := hcell 5 _ rfl
      have c6 := hcell 6 _ rfl
      have c7 := hcell 7 _ rfl
      have c8 := hcell 8 _ rfl
      rw [Nat.add_zero] at c0
      obtain ⟨⟨⟨a0, a1, a2⟩, a3, a4, a5⟩, a6, a7, a8⟩ := nine HB.out.2.2.1
      obtain ⟨xs, hxs, hxf⟩ := HB.out.2.1.own
      obtain ⟨rad, rcap, rfl⟩ := own_sl hxs
      have HXs := Lib.hid hxs
      have HXf := Lib.hid hxf
      have HSr : Hid (SV wr S a.args (.slice ad2 a.args.len cp2)) := Lib.hid (HSa.out.far ⟨hbel.size, fun b h1 h2 => ⟨h1, hbel.block b (HS.out b h1)⟩⟩)
      have hl0 : w.heap.size < wr.heap.size := by have := HB.out.2.2.2.2.2.2; have := HP3.out; omega
      clear hcell hxs hxf hbel
      clear hdl
      go_wp2_with (first
        | (go_at_call 40; (with_reducible refine (HEx.out _ HSr.out (by have := HB.out.2.2.2.2.2.1.size; omega)).mono ?_); rintro e w1 ⟨sv3, rfl, hx3, hb3⟩
           have HX3 := Lib.hid hx3
           have HB3 := Lib.hid (hb3)
           clear hx3 hb3 c0 c1 c2 c3 c4 c5 c6 c7 c8 a0 a1 a2 a3 a4 a5 a6 a7 a8)
        | (at_builtin; refine app1 (P3 + 1) 32 34 (.agg #[.int .i64 0, .int .u64 0, .int .u64 0, .int .u64 0, .int .u64 0, .int .i64 0, .int .i64 0, .int .i64 0, .slice none 0 0]) 9 88 Tryd.underlying32 infoRe rfl (by decide) w1 rfl (.tmp 19) (.tmp 25) rfl (by have := HB.out.2.2.2.2.2.2; have := HB3.out.size; omega) (.slice rad d.len rcap) d.len xs (rowV X.op X.st X.lo X.hi X.g sv3) rfl rfl (own_below HXs.out HB3.out) _ rfl rfl rfl ?d1 ?d2 ?d3 ?_))
      case d1 =>
        obtain ⟨a3, c3, rfl⟩ := slice_form HX3.out
        simp [rowV, Value.oneCell']
      case d2 => have := HDl.out; unfold maxLen; omega
      case d3 => have := HDl.out; omega
      intro g0 cap0 w8 ho8 hk8 hg8
      have hown := fun g hg => own_at HXs.out g hg
      have hp3 := HP3.out
      have hfar : ∀ k, k ≤ P3 → w8.heap[k]? = wr.heap[k]? := fun k hk => by
        have h1 := HB.out.2.2.2.2.2.2
        have h2 := HB3.out.size
        exact (hk8.block k (by omega) (fun e => by have := (hown k e).1; omega)).trans (HB3.out.block k (by omega))
      have HF : Hid (d.push X = timesF (j + 1) X .nil ∧ OF w8 (P3 + 1) (d.push X) (.slice (some ⟨g0, 0, none⟩) (d.len + 1) cap0) ∧  w8.heap[w.heap.size]? = some (.cells #[.int .i64 5, .int .u64 (wd st 0 64 : Nat), .int .u64 (wd st 64 64 : Nat), .int .u64 (wd st 128 64 : Nat), .int .u64 (wd st 192 64 : Nat), .int .i64 l, .int .i64 h, .int .i64 g, .slice (some ⟨b, i0, none⟩) 1 cap] 34 (0, 0)) ∧ w8.heap[w.heap.size + 1]? = some (.cells #[.int .i64 0, .int .u64 0, .int .u64 0, .int .u64 0, .int .u64 0, .int .i64 0, .int .i64 0, .int .i64 0, .slice none 0 0] 34 (0, 0)) ∧ w8.heap[P3]? = some (.cells #[.int .i64 C, .int .i64 R, .int .i64 A, .int .i64 D] 89 (0, 0)) ∧ Below w.heap.size w w8 ∧ P3 < w8.heap.size) := by
        refine Lib.hid ⟨by rw [timesF_succ, ← HB.out.1], OF.push HB.out.2.1 HB3.out HX3.out HXs.out HXf.out ho8 hk8 hg8 (by have := HB.out.2.2.2.2.2.2; omega), ?_, ?_, ?_, ?_, ?_⟩
        · rw [hfar _ (by omega)]; exact HB.out.2.2.1
        · rw [hfar _ (by omega)]; exact HB.out.2.2.2.1
        · rw [hfar _ (Nat.le_refl _)]; exact HB.out.2.2.2.2.1
        · exact HB.out.2.2.2.2.2.1.trans ((HB3.out.mono HB.out.2.2.2.2.2.1.size).trans (hk8.below (by have := HB.out.2.2.2.2.2.1.size; have := HB3.out.size; omega) (fun g hg => by have := (hown g hg).1; omega)))
        · have := HB.out.2.2.2.2.2.2; have := HB3.out.size; have := hk8.size; omega
      clear ho8 hk8 hg8 hown hfar hp3
      go_wp2_with fail
      go_roundw
      case rel => exact ⟨j + 1, d.push X, by omega, by go_num, HF⟩
      case measure => simp [intOf]; omega
    · obtain rfl : (j : Int) = C := by omega
      obtain ⟨xs0, hxs0, hxf0⟩ := HB.out.2.1.own
      obtain ⟨rad0, rcap0, rfl⟩ := own_sl hxs0
      have q1 := cell_of_row wr P3 1 _ _ _ HB.out.2.2.2.2.1
      replace q1 : wr.cell? ⟨P3, 1, none⟩ = some (.int .i64 R) := q1
      clear hxs0 hxf0 hdl
      obtain ⟨d0, rfl⟩ : ∃ d0, d0 = d := ⟨_, rfl⟩
      have HB0 := HB
      obtain ⟨wo, rfl⟩ : ∃ wo : World, wo = wr := ⟨_, rfl⟩
      go_wp2_with fail
      go_loopw [4, 30] (fun v i wr => ∃ (m : Nat) (d : F), (m : Int) ≤ R ∧ i = .int .i64 m ∧ Hid (d = timesF m (repT A D X) d0 ∧ OF wr (P3 + 1) d v ∧  wr.heap[w.heap.size]? = some (.cells #[.int .i64 5, .int .u64 (wd st 0 64 : Nat), .int .u64 (wd st 64 64 : Nat), .int .u64 (wd st 128 64 : Nat), .int .u64 (wd st 192 64 : Nat), .int .i64 l, .int .i64 h, .int .i64 g, .slice (some ⟨b, i0, none⟩) 1 cap] 34 (0, 0)) ∧ wr.heap[w.heap.size + 1]? = some (.cells #[.int .i64 0, .int .u64 0, .int .u64 0, .int .u64 0, .int .u64 0, .int .i64 0, .int .i64 0, .int .i64 0, .slice none 0 0] 34 (0, 0)) ∧ wr.heap[P3]? = some (.cells #[.int .i64 (j : Int), .int .i64 R, .int .i64 A, .int .i64 D] 89 (0, 0)) ∧ Below w.heap.size w wr ∧ P3 < wr.heap.size)) (fun _ i _ => R.toNat - (intOf i).toNat)
      case atStart => exact ⟨0, d0, k3, rfl, Lib.hid ⟨rfl, HB0.out.2⟩⟩
      case round =>
        obtain ⟨m, d, hm, rfl, HB⟩ := hrel
        clear q1
        have hdl : d.len = j + m := by have := congrArg F.len HB.out.1; rw [timesF_len] at this; have := HDl.out; omega
        have HDm := Lib.hid hdl
        by_cases hmn : (m : Int) < R
        · have ki0 : (0 : Int) ≤ m := by omega
          have hq := HB.out.2.2.2.2.1
          have q2 := cell_of_row wr P3 2 _ _ _ hq
          have q3 := cell_of_row wr P3 3 _ _ _ hq
          replace q2 : wr.cell? ⟨P3, 2, none⟩ = some (.int .i64 A) := q2
          replace q3 : wr.cell? ⟨P3, 3, none⟩ = some (.int .i64 D) := q3
          have hbel := HB.out.2.2.2.2.2.1
          have hcell : ∀ j' u, (rowV a.op a.st a.lo a.hi a.g (.slice ad2 a.args.len cp2))[j']? = some u → wr.cell? ⟨b, i0 + j', none⟩ = some u := fun j' u hu => by
            rw [hbel.cell (by exact HBl.out)]
            exact HRow.out j' u hu
          have c0 := hcell 0 _ rfl
          have c1 := hcell 1 _ rfl
          have c2 := hcell 2 _ rfl
          have c3 := hcell 3 _ rfl
          have c4 := hcell 4 _ rfl
          have c5 := hcell 5 _ rfl
          have c6 := hcell 6 _ rfl
          have c7 := hcell 7 _ rfl
          have c8 := hcell 8 _ rfl
          rw [Nat.add_zero] at c0
          obtain ⟨⟨⟨a0, a1, a2⟩, a3, a4, a5⟩, a6, a7, a8⟩ := nine HB.out.2.2.1
          obtain ⟨xs, hxs, hxf⟩ := HB.out.2.1.own
          obtain ⟨rad, rcap, rfl⟩ := own_sl hxs
          have HXs := Lib.hid hxs
          have HXf := Lib.hid hxf
          have HSr : Hid (SV wr S a.args (.slice ad2 a.args.len cp2)) := Lib.hid (HSa.out.far ⟨hbel.size, fun b h1 h2 => ⟨h1, hbel.block b (HS.out b h1)⟩⟩)
          have hl0 : w.heap.size < wr.heap.size := by have := HB.out.2.2.2.2.2.2; have := HP3.out; omega
          clear hcell hxs hxf hbel
          have HSz : Hid (w.heap.size ≤ wr.drew.heap.size) := Lib.hid HB.out.2.2.2.2.2.1.size
          have HSd : Hid (SV wr.drew S a.args (.slice ad2 a.args.len cp2)) := Lib.hid (HSr.out.far (Afar.below (Below.refl wr.heap.size wr).drew))
          clear hdl hq
          go_upto_region 12 with fail
          have HQ2 := Lib.hid q2
          have HQ3 := Lib.hid q3
          have HA8 := Lib.hid a8
          have HC0 := Lib.hid c0
          have HC1 := Lib.hid c1
          have HC2 := Lib.hid c2
          have HC3 := Lib.hid c3
          have HC4 := Lib.hid c4
          have HC5 := Lib.hid c5
          have HC6 := Lib.hid c6
          have HC7 := Lib.hid c7
          have HC8 := Lib.hid c8
          clear q2 q3 a0 a1 a2 a3 a4 a5 a6 a7 a8 c0 c1 c2 c3 c4 c5 c6 c7 c8
          refine wp_region_held_drew (S := fun w' => Below (P3 + 1) wr w') (by kernel_rfl) ?_ (fun hHeld => ?_)
          · exact (Below.refl _ _).drew
          refine wpAnyH_take (i := 0) (v := ?cv0) rfl (by kernel_rfl) (by kernel_rfl) (by kernel_rfl) (fun _ _ _ h => h) (Or.inl ⟨by rfl, ?cy0⟩) (by assumption) ?cr0
          case cy0 =>
            intro wx hSw
            clear hSw
            go_simp
            first | done | (with_reducible rfl)
          (try simp only [Act.put, List.getElem_toArray, List.getElem_cons_zero, List.setIfInBounds_toArray, List.set_cons_zero, List.set_cons_succ])
          refine wpAnyH_take (i := 1) (v := ?cv1) rfl (by kernel_rfl) (by kernel_rfl) (by kernel_rfl) (fun _ _ _ h => h) (Or.inl ⟨by rfl, ?cy1⟩) (by assumption) ?cr1
          case cy1 =>
            intro wx hSw
            clear hSw
            go_simp
            first | done | (with_reducible rfl)
          (try simp only [Act.put, List.getElem_toArray, List.getElem_cons_succ, List.getElem_cons_zero, List.setIfInBounds_toArray, List.set_cons_zero, List.set_cons_succ])
          refine wpAnyH_take (i := 2) (v := ?cv2) rfl (by kernel_rfl) (by kernel_rfl) (by kernel_rfl) (fun _ _ _ h => h) (Or.inl ⟨by rfl, ?cy2⟩) (by assumption) ?cr2
          case cy2 =>
            intro wx hSw
            have hq2 := (hSw.cell (p := ⟨P3, 2, none⟩) (Nat.lt_succ_self _)).trans HQ2.out
            clear hSw
            go_simp
            first | done | (with_reducible rfl)
          (try simp only [Act.put, List.getElem_toArray, List.getElem_cons_succ, List.getElem_cons_zero, List.setIfInBounds_toArray, List.set_cons_zero, List.set_cons_succ])
          refine wpAnyH_take (i := 3) (v := ?cv3) rfl (by kernel_rfl) (by kernel_rfl) (by kernel_rfl) (fun _ _ _ h => h) (Or.inl ⟨by rfl, ?cy3⟩) (by assumption) ?cr3
          case cy3 =>
            intro wx hSw
            clear hSw
            go_simp
            first | done | (with_reducible rfl)
          (try simp only [Act.put, List.getElem_toArray, List.getElem_cons_succ, List.getElem_cons_zero, List.setIfInBounds_toArray, List.set_cons_zero, List.set_cons_succ])
          refine wpAnyH_take (i := 4) (v := ?cv4) rfl (by kernel_rfl) (by kernel_rfl) (by kernel_rfl) (fun _ _ _ h => h) (Or.inl ⟨by rfl, ?cy4⟩) (by assumption) ?cr4
          case cy4 =>
            intro wx hSw
            have hq3 := (hSw.cell (p := ⟨P3, 3, none⟩) (Nat.lt_succ_self _)).trans HQ3.out
            clear hSw
            go_simp
            first | done | (with_reducible rfl)
          (try simp only [Act.put, List.getElem_toArray, List.getElem_cons_succ, List.getElem_cons_zero, List.setIfInBounds_toArray, List.set_cons_zero, List.set_cons_succ])
          refine wpAnyH_take (i := 5) (v := ?cv5) rfl (by kernel_rfl) (by kernel_rfl) (by kernel_rfl) (fun _ _ _ h => h) (Or.inl ⟨by rfl, ?cy5⟩) (by assumption) ?cr5
          case cy5 =>
            intro wx hSw
            clear hSw
            go_simp
            first | done | (with_reducible rfl)
          (try simp only [Act.put, List.getElem_toArray, List.getElem_cons_succ, List.getElem_cons_zero, List.setIfInBounds_toArray, List.set_cons_zero, List.set_cons_succ])
          refine wpAnyH_take (i := 6) (v := ?cv6) rfl (by kernel_rfl) (by kernel_rfl) (by kernel_rfl) (fun _ _ _ h => h) (Or.inl ⟨by rfl, ?cy6⟩) (by assumption) ?cr6
          case cy6 =>
            intro wx hSw
            have ha8 := (hSw.cell (p := ⟨w.heap.size, 8, none⟩) (by have := HP3.out; show w.heap.size < _; omega)).trans HA8.out
            clear hSw
            go_simp
            first | done | (with_reducible rfl)
          (try simp only [Act.put, List.getElem_toArray, List.getElem_cons_succ, List.getElem_cons_zero, List.setIfInBounds_toArray, List.set_cons_zero, List.set_cons_succ])
          refine wpAnyH_take (i := 7) (v := ?cv7) rfl (by kernel_rfl) (by kernel_rfl) (by kernel_rfl) (fun _ _ _ h => h) (Or.inl ⟨by rfl, ?cy7⟩) (by assumption) ?cr7
          case cy7 =>
            intro wx hSw
            clear hSw
            go_simp
            first | done | (with_reducible rfl)
          (try simp only [Act.put, List.getElem_toArray, List.getElem_cons_succ, List.getElem_cons_zero, List.setIfInBounds_toArray, List.set_cons_zero, List.set_cons_succ])
          refine wpAnyH_take (i := 8) (v := ?cv8) rfl (by kernel_rfl) (by kernel_rfl) (by kernel_rfl) (fun _ _ _ h => h) (Or.inl ⟨by rfl, ?cy8⟩) (by assumption) ?cr8
          case cy8 =>
            intro wx hSw
            have hc0 := (hSw.cell (p := ⟨b, i0, none⟩) (by have := HP3.out; have := HBl.out; show b < _; omega)).trans HC0.out
            have hc1 := (hSw.cell (p := ⟨b, i0 + 1, none⟩) (by have := HP3.out; have := HBl.out; show b < _; omega)).trans HC1.out
            have hc2 := (hSw.cell (p := ⟨b, i0 + 2, none⟩) (by have := HP3.out; have := HBl.out; show b < _; omega)).trans HC2.out
            have hc3 := (hSw.cell (p := ⟨b, i0 + 3, none⟩) (by have := HP3.out; have := HBl.out; show b < _; omega)).trans HC3.out
            have hc4 := (hSw.cell (p := ⟨b, i0 + 4, none⟩) (by have := HP3.out; have := HBl.out; show b < _; omega)).trans HC4.out
            have hc5 := (hSw.cell (p := ⟨b, i0 + 5, none⟩) (by have := HP3.out; have := HBl.out; show b < _; omega)).trans HC5.out
            have hc6 := (hSw.cell (p := ⟨b, i0 + 6, none⟩) (by have := HP3.out; have := HBl.out; show b < _; omega)).trans HC6.out
            have hc7 := (hSw.cell (p := ⟨b, i0 + 7, none⟩) (by have := HP3.out; have := HBl.out; show b < _; omega)).trans HC7.out
            have hc8 := (hSw.cell (p := ⟨b, i0 + 8, none⟩) (by have := HP3.out; have := HBl.out; show b < _; omega)).trans HC8.out
            clear hSw
            go_simp
            first | done | (with_reducible rfl)
          (try simp only [Act.put, List.getElem_toArray, List.getElem_cons_succ, List.getElem_cons_zero, List.setIfInBounds_toArray, List.set_cons_zero, List.set_cons_succ])
          refine wpAnyH_ready (rs := [9]) (by kernel_rfl) (by simp) ?_
          refine AllReadyH.cons rfl (fun K hK => ?_) AllReadyH.nil
          go_simp
          go_at_call 40
          refine (HEx.out _ HSd.out HSz.out).mono ?_
          rintro e w1 ⟨sv3, rfl, hx3, hb3⟩
          have HX3 := Lib.hid hx3
          have HB3 := Lib.hid (((Below.refl wr.heap.size wr).drew).trans hb3)
          have HAl := Lib.hid ((Below.refl w1.heap.size w1).alloc (Nat.le_refl _) (.cells (rowV X.op X.st X.lo X.hi X.g sv3).toArray 34))
          clear hx3 hb3
          refine hK.out _ _ ?_ (fun hHeld1 => ?_)
          · exact HB3.out.mono HB.out.2.2.2.2.2.2
          clear hK K
          (try simp only [Act.put, List.getElem_toArray, List.getElem_cons_succ, List.getElem_cons_zero, List.setIfInBounds_toArray, List.set_cons_zero, List.set_cons_succ])
          refine wpAnyH_ready (rs := [10]) (by kernel_rfl) (by simp) ?_
          refine AllReadyH.cons rfl (fun K hK => ?_) AllReadyH.nil
          go_simp
          refine hK.out _ _ ?_ (fun hHeld2 => ?_)
          · exact hHeld1.alloc (by have := HB.out.2.2.2.2.2.2; have := HB3.out.size; omega) _
          clear hK K
          (try simp only [Act.put, List.getElem_toArray, List.getElem_cons_succ, List.getElem_cons_zero, List.setIfInBounds_toArray, List.set_cons_zero, List.set_cons_succ])
          refine wpAnyH_take (i := 11) (v := ?cv11) rfl (by kernel_rfl) (by kernel_rfl) (by kernel_rfl) (fun _ _ _ h => h) (Or.inl ⟨by rfl, ?cy11⟩) (by assumption) ?cr11
          case cy11 =>
            intro wx hSw
            clear hSw
            go_simp
            first | done | (with_reducible rfl)
          (try simp only [Act.put, List.getElem_toArray, List.getElem_cons_succ, List.getElem_cons_zero, List.setIfInBounds_toArray, List.set_cons_zero, List.set_cons_succ])
          refine wpAnyH_ready (rs := [12]) (by kernel_rfl) (by simp) ?_
          refine AllReadyH.cons rfl (fun K hK => ?_) AllReadyH.nil
          go_simp
          refine hK.out _ _ ?_ (fun hHeld3 => ?_)
          · exact hHeld2.alloc (by have := HB.out.2.2.2.2.2.2; have := hHeld2.size; omega) _
          clear hK K
          (try simp only [Act.put, List.getElem_toArray, List.getElem_cons_succ, List.getElem_cons_zero, List.setIfInBounds_toArray, List.set_cons_zero, List.set_cons_succ])
          refine wpAnyH_ready (rs := [13]) (by kernel_rfl) (by simp) ?_
          refine AllReadyH.cons rfl (fun K hK => ?_) AllReadyH.nil
          refine sapp1 (P3 + 1) 32 34 (.agg #[.int .i64 0, .int .u64 0, .int .u64 0, .int .u64 0, .int .u64 0, .int .i64 0, .int .i64 0, .int .i64 0, .slice none 0 0]) 9 88 Tryd.underlying32 infoRe rfl (by decide) (w1.alloc (.cells (rowV X.op X.st X.lo X.hi X.g sv3).toArray 34)) rfl (.tmp 32) (.tmp 44) rfl (by have := HB.out.2.2.2.2.2.2; have := HB3.out.size; have := HAl.out.size; omega) (.slice rad d.len rcap) d.len xs [.int .i64 5, .int .u64 0, .int .u64 0, .int .u64 0, .int .u64 0, .int .i64 A, .int .i64 D, .int .i64 0, .slice (some ⟨w1.heap.size, 0, none⟩) 1 1] rfl rfl (own_below HXs.out (HB3.out.trans (HAl.out.mono HB3.out.size))) (w1.heap.size + 1) (by simp) rfl rfl ?d4 ?d5 ?d6 ?_
          case d4 => simp [Value.oneCell']
          case d5 => have := HDm.out; unfold maxLen; omega
          case d6 => have := HDm.out; omega
          intro g0 cap0 w8 ho8 hk8 hg8
          have hown := fun g hg => own_at HXs.out g hg
          have hp3 := HP3.out
          have hbA := HB3.out.trans (HAl.out.mono HB3.out.size)
          have hfar : ∀ k, k ≤ P3 → w8.heap[k]? = wr.heap[k]? := fun k hk => by
            have h1 := HB.out.2.2.2.2.2.2
            have h2 := hbA.size
            exact (hk8.block k (by omega) (fun e => by have := (hown k e).1; omega)).trans (hbA.block k (by omega))
          have hxs1 : SV (w1.alloc (.cells (rowV X.op X.st X.lo X.hi X.g sv3).toArray 34)) (Frm wr.heap.size) (F.nil.push X) (.slice (some ⟨w1.heap.size, 0, none⟩) 1 1) := by
            have hp : FV (w1.alloc (.cells (rowV X.op X.st X.lo X.hi X.g sv3).toArray 34)) (Frm wr.heap.size) (F.nil.push X) ([] ++ rowV X.op X.st X.lo X.hi X.g sv3) := FV.push (HX3.out.far (Afar.frm HAl.out (Nat.le_refl _))) rfl
            refine ⟨_, _, 1, rfl, Nat.le_refl _, hp, .inr ⟨w1.heap.size, 0, rfl, HB3.out.size, by simp, fun j u hu => ?_⟩⟩
            have := new_cells w1 (rowV X.op X.st X.lo X.hi X.g sv3) 34 j u hu
            rw [add_at] at this
            rw [Nat.zero_add]
            exact this
          have HF : Hid (d.push (repT A D X) = timesF (m + 1) (repT A D X) d0 ∧ OF w8 (P3 + 1) (d.push (repT A D X)) (.slice (some ⟨g0, 0, none⟩) (d.len + 1) cap0) ∧  w8.heap[w.heap.size]? = some (.cells #[.int .i64 5, .int .u64 (wd st 0 64 : Nat), .int .u64 (wd st 64 64 : Nat), .int .u64 (wd st 128 64 : Nat), .int .u64 (wd st 192 64 : Nat), .int .i64 l, .int .i64 h, .int .i64 g, .slice (some ⟨b, i0, none⟩) 1 cap] 34 (0, 0)) ∧ w8.heap[w.heap.size + 1]? = some (.cells #[.int .i64 0, .int .u64 0, .int .u64 0, .int .u64 0, .int .u64 0, .int .i64 0, .int .i64 0, .int .i64 0, .slice none 0 0] 34 (0, 0)) ∧ w8.heap[P3]? = some (.cells #[.int .i64 (j : Int), .int .i64 R, .int .i64 A, .int .i64 D] 89 (0, 0)) ∧ Below w.heap.size w w8 ∧ P3 < w8.heap.size) := by
            refine Lib.hid ⟨by rw [timesF_succ, ← HB.out.1], OF.push (x := repT A D X) HB.out.2.1 hbA hxs1 HXs.out HXf.out (by show World.ownsRow _ _ _ _ _ _ (xs ++ rowV 5 noSet A D 0 _); rw [row_noSet]; exact ho8) hk8 (by rcases hg8 with h1 | h1; exact .inl h1; exact .inr (by simpa using h1)) (by have := HB.out.2.2.2.2.2.2; omega), ?_, ?_, ?_, ?_, ?_⟩
            · rw [hfar _ (by omega)]; exact HB.out.2.2.1
            · rw [hfar _ (by omega)]; exact HB.out.2.2.2.1
            · rw [hfar _ (Nat.le_refl _)]; exact HB.out.2.2.2.2.1
            · exact HB.out.2.2.2.2.2.1.trans ((hbA.mono HB.out.2.2.2.2.2.1.size).trans (hk8.below (by have := HB.out.2.2.2.2.2.1.size; have := hbA.size; omega) (fun g hg => by have := (hown g hg).1; omega)))
            · have := HB.out.2.2.2.2.2.2; have := hbA.size; have := hk8.size; omega
          refine hK.out _ _ ?_ (fun hHeld4 => ?_)
          · exact (hbA.mono HB.out.2.2.2.2.2.2).trans (hk8.below (by have := hbA.size; have := HB.out.2.2.2.2.2.2; omega) (fun g hg => by have := (hown g hg).1; omega))
          clear hK K
          clear ho8 hk8 hg8 hown hfar hp3 hbA hxs1
          (try simp only [Act.put, List.getElem_toArray, List.getElem_cons_succ, List.getElem_cons_zero, List.setIfInBounds_toArray, List.set_cons_zero, List.set_cons_succ])
          refine wpAnyH_take (i := 14) (v := ?cv14) rfl (by kernel_rfl) (by kernel_rfl) (by kernel_rfl) (fun _ _ _ h => h) (Or.inl ⟨by rfl, ?cy14⟩) (by assumption) ?cr14
          case cy14 =>
            intro wx hSw
            clear hSw
            go_simp
            first | done | (with_reducible rfl)
          (try simp only [Act.put, List.getElem_toArray, List.getElem_cons_succ, List.getElem_cons_zero, List.setIfInBounds_toArray, List.set_cons_zero, List.set_cons_succ])
          refine wpAnyH_done (by kernel_rfl) ?_ _
          go_wp2_with fail
          go_roundw
          case rel => exact ⟨m + 1, d.push (repT A D X), by omega, by go_num, HF⟩
          case measure => simp [intOf]; omega
        · obtain rfl : (m : Int) = R := by omega
          have hXe : catT d = Xq := by
            rw [← HXq.out, HB.out.1, HB0.out.1]
            rfl
          have HXe := Lib.hid hXe
          obtain ⟨xs1, hxs1, hxf1⟩ := HB.out.2.1.own
          obtain ⟨rad1, rcap1, rfl⟩ := own_sl hxs1
          have hpP := HP3.out
          have h6r := HB.out.2.2.2.1
          have HR6 := Lib.hid h6r
          have hbel := HB.out.2.2.2.2.2.1
          have HBel := Lib.hid hbel
          have HXs := Lib.hid hxs1
          clear hXe hxs1 hxf1 h6r hbel hdl
          by_cases z0 : d.len = 0
          · have kz : (d.len : Int) = 0 := by omega
            have hX : Xq = ⟨1, noSet, 0, 0, 0, .nil⟩ := by rw [← HXe.out, len0 z0]; rfl
            go_wp2_with (first
              | (refine wpList_store_row rfl 34 (.tmp 2) (.tmp 51) rfl (w.heap.size + 1) #[.int .i64 1, .int .u64 0, .int .u64 0, .int .u64 0, .int .u64 0, .int .i64 0, .int .i64 0, .int .i64 0, .slice none 0 0] rfl rfl 34 _ HR6.out isz_re rfl (by simp [Value.oneCell']) ?_))
            refine bodyPost_ret (v := .agg #[.int .i64 1, .int .u64 0, .int .u64 0, .int .u64 0, .int .u64 0, .int .i64 0, .int .i64 0, .int .i64 0, .slice none 0 0]) (results_cell_row rfl _ _ (w.heap.size + 1) _ #[.int .i64 1, .int .u64 0, .int .u64 0, .int .u64 0, .int .u64 0, .int .i64 0, .int .i64 0, .int .i64 0, .slice none 0 0] (0, 0) _ rfl (setRow_heap wr _ _ _ _ _ HR6.out) Tryd.underlying34 rfl isz_re) rfl ?_
            subst hX
            refine ⟨.slice none 0 0, ?_, .nil _ _, below_setRow HBel.out (by omega) _⟩
            simp only [wd_noSet.1, wd_noSet.2.1, wd_noSet.2.2.1, wd_noSet.2.2.2]
            rfl
          · have kz : ¬ (d.len : Int) = 0 := by omega
            by_cases z1 : d.len = 1
            · have k1 : (d.len : Int) = 1 := by omega
              obtain ⟨o1, s1, l1, h1, g1, a1, hd⟩ := len1 z1
              have hX : Xq = ⟨o1, s1, l1, h1, g1, a1⟩ := by rw [← HXe.out, hd]; rfl
              obtain ⟨zs, ad3, cap3, hs3, hc3, hf3, hr3⟩ := HB.out.2.1.sv
              rcases hr3 with hr3 | ⟨b3, i3, hr3, hb3, hlt3, hcl3⟩
              · exact absurd hr3 z0
              obtain ⟨rfl, rfl⟩ : rad1 = ad3 ∧ rcap1 = cap3 := by cases hs3; exact ⟨rfl, rfl⟩
              subst hr3
              rw [hd] at hf3
              obtain ⟨sv1, ys, rfl, hsv1, hys⟩ := FV.cons.1 hf3
              cases hys
              rw [List.append_nil] at hcl3
              have hcell : ∀ j' u, (rowV o1 s1 l1 h1 g1 sv1)[j']? = some u → wr.cell? ⟨b3, i3 + j', none⟩ = some u := hcl3
              have c0 := hcell 0 _ rfl
              have c1 := hcell 1 _ rfl
              have c2 := hcell 2 _ rfl
              have c3 := hcell 3 _ rfl
              have c4 := hcell 4 _ rfl
              have c5 := hcell 5 _ rfl
              have c6 := hcell 6 _ rfl
              have c7 := hcell 7 _ rfl
              have c8 := hcell 8 _ rfl
              rw [Nat.add_zero] at c0
              have HSv := Lib.hid hsv1
              have HB3 := Lib.hid hb3
              have HLt := Lib.hid hlt3
              clear hs3 hc3 hf3 hcl3 hcell hsv1 hb3 hlt3 hd
              go_wp2_with (first
                | (refine wpList_store_row rfl 34 (.tmp 2) (.tmp 56) rfl (w.heap.size + 1) (rowV o1 s1 l1 h1 g1 sv1).toArray rfl rfl 34 _ HR6.out isz_re rfl (by obtain ⟨ad4, cap4, rfl⟩ := slice_form HSv.out; simp [rowV, Value.oneCell']) ?_))
              refine bodyPost_ret (v := .agg (rowV o1 s1 l1 h1 g1 sv1).toArray) (results_cell_row rfl _ _ (w.heap.size + 1) _ (rowV o1 s1 l1 h1 g1 sv1).toArray (0, 0) _ rfl (setRow_heap wr _ _ _ _ _ HR6.out) Tryd.underlying34 rfl isz_re) rfl ?_
              subst hX
              refine ⟨sv1, rfl, HSv.out.far ⟨by rw [setRow_size]; exact Nat.le_refl _, fun b hb1 _ => ?_⟩, below_setRow HBel.out (by omega) _⟩
              have hb1 : P3 + 1 ≤ b := hb1
              exact ⟨by show w.heap.size ≤ b; omega, setRow_other wr _ b _ (by omega)⟩
            · have k1 : ¬ (d.len : Int) = 1 := by omega
              have hX : Xq = ⟨3, noSet, 0, 0, 0, d⟩ := by rw [← HXe.out]; exact catT_many (by omega)
              go_wp2_with (first
                | (refine wpList_store_row rfl 34 (.tmp 2) (.tmp 58) rfl (w.heap.size + 1) #[.int .i64 3, .int .u64 0, .int .u64 0, .int .u64 0, .int .u64 0, .int .i64 0, .int .i64 0, .int .i64 0, .slice rad1 d.len rcap1] rfl rfl 34 _ HR6.out isz_re rfl (by simp [Value.oneCell']) ?_))
              refine bodyPost_ret (v := .agg #[.int .i64 3, .int .u64 0, .int .u64 0, .int .u64 0, .int .u64 0, .int .i64 0, .int .i64 0, .int .i64 0, .slice rad1 d.len rcap1]) (results_cell_row rfl _ _ (w.heap.size + 1) _ #[.int .i64 3, .int .u64 0, .int .u64 0, .int .u64 0, .int .u64 0, .int .i64 0, .int .i64 0, .int .i64 0, .slice rad1 d.len rcap1] (0, 0) _ rfl (setRow_heap wr _ _ _ _ _ HR6.out) Tryd.underlying34 rfl isz_re) rfl ?_
              subst hX
              refine ⟨.slice rad1 d.len rcap1, ?_, HB.out.2.1.sv.far ⟨by rw [setRow_size]; exact Nat.le_refl _, fun b hb1 _ => ?_⟩, below_setRow HBel.out (by omega) _⟩
              · simp only [wd_noSet.1, wd_noSet.2.1, wd_noSet.2.2.1, wd_noSet.2.2.2]
                rfl
              have hb1 : P3 + 1 ≤ b := hb1
              exact ⟨by show w.heap.size ≤ b; omega, setRow_other wr _ b _ (by omega)⟩
end Go.Proofs.YtbjobbkipmkndaaDoor
