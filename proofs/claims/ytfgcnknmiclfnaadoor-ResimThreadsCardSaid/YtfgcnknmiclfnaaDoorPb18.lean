/- RsReach. -/
import Derived.Test.YtfgcnknmiclfnaaDoorPb15
import Derived.Test.YtfgcnknmiclfnaaDoorPb17
set_option linter.unusedVariables false
set_option linter.unusedSimpArgs false
set_option maxRecDepth 100000
set_option maxHeartbeats 4000000
namespace Go.Proofs.YtfgcnknmiclfnaaDoor
open Go.RowKit
theorem vR_all (n : Nat) (L : List IN) (h : vR n L = true) : ∀ k, k ≤ L.length → vR n (L.drop k) = true
  | 0, _ => by rw [List.drop_zero]; exact h
  | k + 1, hk => by
    have := vR_all n L h k (by omega)
    rw [vR_drop n L k (by omega), Bool.and_eq_true] at this
    exact this.2
theorem val_cases {L : List IN} (h : valL L = true) {k : Nat} (hk : k < L.length) : ((L[k]).op = 1 ∧ k + 1 < L.length) ∨ ((L[k]).op = 2 ∧ (∃ a, (L[k]).x = ((a : Nat) : Int) ∧ a < L.length) ∧ ∃ b, (L[k]).y = ((b : Nat) : Int) ∧ b < L.length) ∨ ((L[k]).op = 3 ∧ ∃ a, (L[k]).x = ((a : Nat) : Int) ∧ a < L.length) ∨ ((L[k]).op = 4 ∧ k + 1 < L.length) ∨ ((L[k]).op = 5 ∧ k + 1 < L.length) ∨ (L[k]).op = 6 := by
  unfold valL at h
  rw [Bool.and_eq_true, Bool.and_eq_true] at h
  have h2 := vR_all _ _ h.2.2 k (by omega)
  rw [vR_drop _ L k hk, Bool.and_eq_true] at h2
  have h3 := h2.1
  unfold vOk at h3
  rw [Bool.and_eq_true, Bool.and_eq_true] at h3
  obtain ⟨h4, h5, h6⟩ := h3
  have hin : ∀ x : Int, inR L.length x = true → ∃ a : Nat, x = (a : Int) ∧ a < L.length := fun x hx => by
    unfold inR at hx
    rw [Bool.and_eq_true] at hx
    have h1 := of_decide_eq_true hx.1
    have h2 := of_decide_eq_true hx.2
    exact ⟨x.toNat, by omega, by omega⟩
  have hgo : kgo (L[k]).op = true → k + 1 < L.length := fun e => by
    rw [e] at h5
    have : ¬ k + 1 = L.length := by simpa using h5
    omega
  unfold kok at h4
  rw [Bool.and_eq_true] at h4
  have a1 := of_decide_eq_true h4.1
  have a2 := of_decide_eq_true h4.2
  generalize hi : L[k] = i at *
  obtain ⟨o, st, x, y⟩ := i
  have ho : o = 1 ∨ o = 2 ∨ o = 3 ∨ o = 4 ∨ o = 5 ∨ o = 6 := by
    have b1 : 1 ≤ o := a1
    have b2 : o ≤ 6 := a2
    omega
  rcases ho with rfl | rfl | rfl | rfl | rfl | rfl
  · exact .inl ⟨rfl, hgo rfl⟩
  · have h7 : ([x, y].all (inR L.length)) = true := h6
    simp at h7
    exact .inr (.inl ⟨rfl, hin _ h7.1, hin _ h7.2⟩)
  · have h7 : ([x].all (inR L.length)) = true := h6
    simp at h7
    exact .inr (.inr (.inl ⟨rfl, hin _ h7⟩))
  · exact .inr (.inr (.inr (.inl ⟨rfl, hgo rfl⟩)))
  · exact .inr (.inr (.inr (.inr (.inl ⟨rfl, hgo rfl⟩))))
  · exact .inr (.inr (.inr (.inr (.inr rfl))))
def PB (w : World) (P : Nat) (L : List IN) (pv : Value) : Prop := ∃ b i cap, pv = .slice (some ⟨b, i, none⟩) L.length cap ∧ b < P ∧ ∀ (k : Nat) (hk : k < L.length) (j : Nat), j < 7 → w.cell? ⟨b, i + k * 7 + j, none⟩ = (rowI (L[k]'hk))[j]?
structure RC (L : List IN) (ln : Bool) (sv : ByteArray) (at_ : Nat) (P : Nat) (pv uv : Value) (w : World) (tv : Value) (M : Nat → Bool) (T : List (Nat × Nat)) : Prop where
  sm : SM w P pv ln sv at_ tv uv M T
  pb : PB w P L pv
  tc : T.length ≤ cntM M L.length
section
variable {L : List IN} {ln : Bool} {sv : ByteArray} {at_ P : Nat} {pv uv : Value} {w w' : World} {tv tv' : Value} {M M' : Nat → Bool} {T T' : List (Nat × Nat)}
theorem PB.keep {S : Nat → Prop} (h : PB w P L pv) (hk : Keep S w w') (hP : P ≤ w.heap.size) (hS : ∀ b, S b → P ≤ b) : PB w' P L pv := by
  obtain ⟨b, i, cap, e, hb, hc⟩ := h
  exact ⟨b, i, cap, e, hb, fun k hk2 j hj => (cell_same (hk.block b (by omega) (fun e => by have := hS b e; omega))).trans (hc k hk2 j hj)⟩
theorem PB.below (h : PB w P L pv) (hP : P ≤ w.heap.size) (hb : Below w.heap.size w w') : PB w' P L pv := h.keep (Keep.of_below (S := fun _ => False) hb) hP (fun _ e => e.elim)
theorem RC.below (h : RC L ln sv at_ P pv uv w tv M T) (hb : Below w.heap.size w w') : RC L ln sv at_ P pv uv w' tv M T := ⟨h.sm.below hb, h.pb.below (Nat.le_of_lt h.sm.lt) hb, h.tc⟩
theorem RC.hS (h : SM w P pv ln sv at_ tv uv M T) : ∀ b, (b = P ∨ tv.ownBlock = some b) → P ≤ b := fun b e => by
  rcases e with rfl | e
  · exact Nat.le_refl _
  · have := (own_at h.own b e).1; omega
theorem SM.grow (h : SM w P pv ln sv at_ tv uv M T) (hk : Keep (fun b => tv.ownBlock = some b) w w') (ho : w'.ownsRow (P + 1) 66 2 tv' T'.length (rowsT T')) (hn : ∀ g, tv'.ownBlock = some g → tv.ownBlock = some g ∨ w.heap.size ≤ g) :
    SM (w'.setCell ⟨P, 4, none⟩ tv') P pv ln sv at_ tv' uv M T' ∧ Mv P tv w tv' (w'.setCell ⟨P, 4, none⟩ tv') := by
  have hPn : ¬ tv.ownBlock = some P := fun e => by have := (own_at h.own P e).1; omega
  have hbP := hk.block P h.lt hPn
  have c := fun j => (World.cell?_of_block (a := ⟨P, j, none⟩) hbP)
  have hne : ∀ g, tv'.ownBlock = some g → ¬ uv.ownBlock = some g := fun g hg hu => by
    rcases hn g hg with e | e
    · exact h.ne g e hu
    · obtain ⟨n, xs, ho⟩ := h.spr
      have := (own_at ho g hu).2; omega
  have hspr : ∃ n xs, w'.ownsRow (P + 1) 66 2 uv n xs := h.spr.imp fun n h2 => h2.imp fun xs h2 => own_keep h2 hk (fun g hg e => h.ne g e hg)
  refine ⟨⟨by simpa [World.setCell] using Nat.lt_of_lt_of_le h.lt hk.size, setP_ne ((c 0).trans h.c0) (by decide) _, setP_ne ((c 1).trans h.c1) (by decide) _, setP_ne ((c 2).trans h.c2) (by decide) _, setP_ne ((c 3).trans h.c3) (by decide) _, setP_eq ((c 4).trans h.c4) _, fun j hj => setP_ne ((c (5 + j)).trans (h.cm j hj)) (by omega) _, setP_ne ((c 69).trans h.c5) (by decide) _, fun j => by rw [World.frozen?_setCell]; exact (World.frozen?_of_block (a := ⟨P, j, none⟩) hbP).trans (h.fz j), setP_own ho rfl, hspr.imp fun n h => h.imp fun xs h => setP_own h rfl, hne⟩, (hk.mono (fun _ e => .inr e)).put P 4 (.inl (.inl rfl)) _, hn⟩
theorem RC.mv (h : RC L ln sv at_ P pv uv w tv M T) (hs : SM w' P pv ln sv at_ tv' uv M' T') (hm : Mv P tv w tv' w') (hc : T'.length ≤ cntM M' L.length) : RC L ln sv at_ P pv uv w' tv' M' T' :=
  ⟨hs, h.pb.keep hm.keep (Nat.le_of_lt h.sm.lt) (RC.hS h.sm), hc⟩
end
theorem stp_at {L : List IN} {k : Nat} (hk : k < L.length) (ln : Bool) (s : List UInt8) (i : Nat) : stp L ln s i k = if (L[k]).op = 2 then [(L[k]).x.toNat, (L[k]).y.toNat] else if (L[k]).op = 3 then [(L[k]).x.toNat] else if (L[k]).op = 4 then (if bgB ln s i then [k + 1] else []) else if (L[k]).op = 5 then (if enB ln s i then [k + 1] else []) else [] := by
  unfold stp sucs
  rw [List.getElem?_eq_getElem hk]
theorem trm_at {L : List IN} {k : Nat} (hk : k < L.length) : trm L k = (decide ((L[k]).op = 1) || decide ((L[k]).op = 6)) := by
  unfold trm
  rw [List.getElem?_eq_getElem hk]
abbrev RPost (L : List IN) (ln : Bool) (sv : ByteArray) (at_ P : Nat) (pv uv : Value) (f : Nat) (w : World) (tv : Value) (M : Nat → Bool) (T : List (Nat × Nat)) (ks : List Nat) (w' : World) : Prop :=
  ∃ tv' M' T', RC L ln sv at_ P pv uv w' tv' M' T' ∧ RR (stp L ln sv.data.toList at_) (trm L) ks f M M' T T' ∧ Mv P tv w tv' w'
def ReachOk (L : List IN) (ln : Bool) (sv : ByteArray) (at_ P : Nat) (pv uv : Value) (f m : Nat) : Prop := ∀ (k : Nat) (w : World) (tv : Value) (M : Nat → Bool) (T : List (Nat × Nat)), L.length - cntM M L.length ≤ m → k < L.length → RC L ln sv at_ P pv uv w tv M T →
    Calls Tryd.prog 36 #[.pointer (some ⟨P, 0, none⟩), .int .i64 (k : Int), .int .i64 (f : Int)] w fun e w' => e = .returned (.tuple #[]) ∧ RPost L ln sv at_ P pv uv f w tv M T [k] w'
section
variable {L : List IN} {ln : Bool} {sv : ByteArray} {at_ P : Nat} {pv uv : Value}
theorem reach_old (hn : L.length ≤ 4096) (f k : Nat) (w : World) (tv : Value) (M : Nat → Bool) (T : List (Nat × Nat)) (hk : k < L.length) (h : RC L ln sv at_ P pv uv w tv M T) (hm : M k = true) :
    Calls Tryd.prog 36 #[.pointer (some ⟨P, 0, none⟩), .int .i64 (k : Int), .int .i64 (f : Int)] w fun e w' => e = .returned (.tuple #[]) ∧ RPost L ln sv at_ P pv uv f w tv M T [k] w' := by
  have HA := Lib.hid (add_old h.sm k (by omega) hm)
  have HE : Hid (∀ w', Below w.heap.size w w' → RPost L ln sv at_ P pv uv f w tv M T [k] w') := Lib.hid (fun w' hb => ⟨tv, M, T, h.below hb, RR.hit hm, .of_below hb⟩)
  clear h hm
  go_enter Tryd.func36, Tryd.ntmps36
  go_wp2_with (first
    | (go_at_call 57; (with_reducible refine HA.out.mono ?_); rintro e w1 ⟨rfl, hb1⟩; have HB1 := Lib.hid hb1; clear hb1))
  refine bodyPost_ret (results_none rfl _ _ _) rfl ?_
  exact ⟨rfl, HE.out _ HB1.out⟩
theorem PB.at {w : World} {b i cap n : Nat} (h : PB w P L (.slice (some ⟨b, i, none⟩) n cap)) {k : Nat} (hk : k < L.length) (j : Nat) (hj : j < 7) {u : Value} (hu : (rowI (L[k]'hk))[j]? = some u) : w.cell? ⟨b, i + k * 7 + j, none⟩ = some u := by
  obtain ⟨b', i', cap', e, _, hc⟩ := h
  injection e with e1 e2 e3
  injection e1 with e1
  injection e1 with e4 e5
  subst e4 e5
  rw [hc k hk j hj, hu]
theorem reach_leaf_1 (hn : L.length ≤ 4096) (f k : Nat) (w : World) (tv : Value) (M : Nat → Bool) (T : List (Nat × Nat)) (hk : k < L.length) (h : RC L ln sv at_ P pv uv w tv M T) (hm : M k = false) (ho : (L[k]).op = 1) :
    Calls Tryd.prog 36 #[.pointer (some ⟨P, 0, none⟩), .int .i64 (k : Int), .int .i64 (f : Int)] w fun e w' => e = .returned (.tuple #[]) ∧ RPost L ln sv at_ P pv uv f w tv M T [k] w' := by
  have HA := Lib.hid (add_new h.sm k (by omega) hm)
  obtain ⟨b, i0, cap, rfl, hb, _⟩ := h.pb
  have hcn := cntM_put hm L.length hk
  have HR : Hid (∀ w1, SM w1 P (.slice (some ⟨b, i0, none⟩) L.length cap) ln sv at_ tv uv (putM M k) T → Mv P tv w tv w1 → RC L ln sv at_ P (.slice (some ⟨b, i0, none⟩) L.length cap) uv w1 tv (putM M k) T) := Lib.hid (fun w1 s m => h.mv s m (by have := h.tc; omega))
  have HOp : Hid (∀ w1, RC L ln sv at_ P (.slice (some ⟨b, i0, none⟩) L.length cap) uv w1 tv (putM M k) T → w1.cell? ⟨b, i0 + k * 7, none⟩ = some (.int .i64 1)) := Lib.hid (fun w1 r => r.pb.at hk 0 (by decide) (by rw [← ho]; rfl))
  have htc : T.length ≤ 4096 := Nat.le_trans h.tc (Nat.le_trans (cntM_le _ _) hn)
  obtain ⟨tad, tcap, rfl⟩ := own_sl h.sm.own
  have HF : Hid (RR (stp L ln sv.data.toList at_) (trm L) [k] f M (putM M k) T (T ++ [(k, f)])) := Lib.hid (RR.leaf hm (by rw [trm_at hk, ho]; rfl) (by rw [stp_at hk, ho]; rfl))
  have HTc : Hid ((T ++ [(k, f)]).length ≤ cntM (putM M k) L.length) := Lib.hid (by rw [List.length_append, hcn]; have := h.tc; show _ + 1 ≤ _; omega)
  have HTl := Lib.hid htc
  have HL := Lib.hid h.sm.lt
  have hki : (k : Int) < (L.length : Int) := by omega
  have hk0 : (0 : Int) ≤ (k : Int) := by omega
  clear h hm hcn ho htc hn
  go_enter Tryd.func36, Tryd.ntmps36
  go_wp2_with (first
    | (go_at_call 57; (with_reducible refine HA.out.mono ?_); rintro e w1 ⟨rfl, hs1, hm1⟩
       have HS1 := Lib.hid hs1
       have HM1 := Lib.hid hm1
       have hr1 := HR.out _ hs1 hm1
       have HR1 := Lib.hid hr1
       have c0 := hs1.c0
       have c4 := hs1.c4
       have f4 := hs1.fz 4
       have cO := HOp.out _ hr1
       have hbw : b < w1.heap.size := by have := hs1.lt; omega
       clear hs1 hm1 hr1)
    | (at_builtin; refine app1 (P + 1) 60 66 (.agg #[.int .i64 0, .int .i64 0]) 2 16 Tryd.underlying60 infoT rfl (by decide) w1 rfl (.tmp 28) (.tmp 32) rfl (by have := HS1.out.lt; omega) (.slice tad T.length tcap) T.length (rowsT T) (rowT (k, f)) rfl rfl HS1.out.own _ rfl rfl rfl ?d1 ?d2 ?d3 ?_))
  case d1 => intro u hu; simp [rowT] at hu; rcases hu with rfl | rfl <;> rfl
  case d2 => have := HTl.out; unfold maxLen; omega
  case d3 => have := HTl.out; omega
  intro g cp w2 ho2 hk2 hg2
  have HG : Hid (SM (w2.setCell ⟨P, 4, none⟩ (.slice (some ⟨g, 0, none⟩) (T.length + 1) cp)) P (.slice (some ⟨b, i0, none⟩) L.length cap) ln sv at_ (.slice (some ⟨g, 0, none⟩) (T.length + 1) cp) uv (putM M k) (T ++ [(k, f)]) ∧ Mv P (.slice tad T.length tcap) w1 (.slice (some ⟨g, 0, none⟩) (T.length + 1) cp) (w2.setCell ⟨P, 4, none⟩ (.slice (some ⟨g, 0, none⟩) (T.length + 1) cp))) := Lib.hid (HS1.out.grow hk2 (by
    rw [List.length_append, rowsT_snoc]; exact ho2) (fun j e => by
      have e2 : g = j := by simpa [Value.ownBlock] using e
      subst e2; exact hg2))
  have hbP := hk2.block P HS1.out.lt (fun e => by have := (own_at HS1.out.own P e).1; omega)
  have c4b : w2.cell? ⟨P, 4, none⟩ = some (.slice tad T.length tcap) := (cell_same hbP).trans HS1.out.c4
  have f4b : w2.frozen? ⟨P, 4, none⟩ = false := (World.frozen?_of_block (a := ⟨P, 4, none⟩) hbP).trans (HS1.out.fz 4)
  clear c0 c4 f4 cO ho2 hk2 hg2 hbP hbw
  go_wp2
  go_end0
  exact ⟨rfl, _, _, _, HR1.out.mv HG.out.1 HG.out.2 HTc.out, HF.out, HM1.out.trans HG.out.2⟩
theorem reach_leaf_6 (hn : L.length ≤ 4096) (f k : Nat) (w : World) (tv : Value) (M : Nat → Bool) (T : List (Nat × Nat)) (hk : k < L.length) (h : RC L ln sv at_ P pv uv w tv M T) (hm : M k = false) (ho : (L[k]).op = 6) :
    Calls Tryd.prog 36 #[.pointer (some ⟨P, 0, none⟩), .int .i64 (k : Int), .int .i64 (f : Int)] w fun e w' => e = .returned (.tuple #[]) ∧ RPost L ln sv at_ P pv uv f w tv M T [k] w' := by
  have HA := Lib.hid (add_new h.sm k (by omega) hm)
  obtain ⟨b, i0, cap, rfl, hb, _⟩ := h.pb
  have hcn := cntM_put hm L.length hk
  have HR : Hid (∀ w1, SM w1 P (.slice (some ⟨b, i0, none⟩) L.length cap) ln sv at_ tv uv (putM M k) T → Mv P tv w tv w1 → RC L ln sv at_ P (.slice (some ⟨b, i0, none⟩) L.length cap) uv w1 tv (putM M k) T) := Lib.hid (fun w1 s m => h.mv s m (by have := h.tc; omega))
  have HOp : Hid (∀ w1, RC L ln sv at_ P (.slice (some ⟨b, i0, none⟩) L.length cap) uv w1 tv (putM M k) T → w1.cell? ⟨b, i0 + k * 7, none⟩ = some (.int .i64 6)) := Lib.hid (fun w1 r => r.pb.at hk 0 (by decide) (by rw [← ho]; rfl))
  have htc : T.length ≤ 4096 := Nat.le_trans h.tc (Nat.le_trans (cntM_le _ _) hn)
  obtain ⟨tad, tcap, rfl⟩ := own_sl h.sm.own
  have HF : Hid (RR (stp L ln sv.data.toList at_) (trm L) [k] f M (putM M k) T (T ++ [(k, f)])) := Lib.hid (RR.leaf hm (by rw [trm_at hk, ho]; rfl) (by rw [stp_at hk, ho]; rfl))
  have HTc : Hid ((T ++ [(k, f)]).length ≤ cntM (putM M k) L.length) := Lib.hid (by rw [List.length_append, hcn]; have := h.tc; show _ + 1 ≤ _; omega)
  have HTl := Lib.hid htc
  have HL := Lib.hid h.sm.lt
  have hki : (k : Int) < (L.length : Int) := by omega
  have hk0 : (0 : Int) ≤ (k : Int) := by omega
  clear h hm hcn ho htc hn
  go_enter Tryd.func36, Tryd.ntmps36
  go_wp2_with (first
    | (go_at_call 57; (with_reducible refine HA.out.mono ?_); rintro e w1 ⟨rfl, hs1, hm1⟩
       have HS1 := Lib.hid hs1
       have HM1 := Lib.hid hm1
       have hr1 := HR.out _ hs1 hm1
       have HR1 := Lib.hid hr1
       have c0 := hs1.c0
       have c4 := hs1.c4
       have f4 := hs1.fz 4
       have cO := HOp.out _ hr1
       have hbw : b < w1.heap.size := by have := hs1.lt; omega
       clear hs1 hm1 hr1)
    | (at_builtin; refine app1 (P + 1) 60 66 (.agg #[.int .i64 0, .int .i64 0]) 2 16 Tryd.underlying60 infoT rfl (by decide) w1 rfl (.tmp 28) (.tmp 32) rfl (by have := HS1.out.lt; omega) (.slice tad T.length tcap) T.length (rowsT T) (rowT (k, f)) rfl rfl HS1.out.own _ rfl rfl rfl ?d1 ?d2 ?d3 ?_))
  case d1 => intro u hu; simp [rowT] at hu; rcases hu with rfl | rfl <;> rfl
  case d2 => have := HTl.out; unfold maxLen; omega
  case d3 => have := HTl.out; omega
  intro g cp w2 ho2 hk2 hg2
  have HG : Hid (SM (w2.setCell ⟨P, 4, none⟩ (.slice (some ⟨g, 0, none⟩) (T.length + 1) cp)) P (.slice (some ⟨b, i0, none⟩) L.length cap) ln sv at_ (.slice (some ⟨g, 0, none⟩) (T.length + 1) cp) uv (putM M k) (T ++ [(k, f)]) ∧ Mv P (.slice tad T.length tcap) w1 (.slice (some ⟨g, 0, none⟩) (T.length + 1) cp) (w2.setCell ⟨P, 4, none⟩ (.slice (some ⟨g, 0, none⟩) (T.length + 1) cp))) := Lib.hid (HS1.out.grow hk2 (by
    rw [List.length_append, rowsT_snoc]; exact ho2) (fun j e => by
      have e2 : g = j := by simpa [Value.ownBlock] using e
      subst e2; exact hg2))
  have hbP := hk2.block P HS1.out.lt (fun e => by have := (own_at HS1.out.own P e).1; omega)
  have c4b : w2.cell? ⟨P, 4, none⟩ = some (.slice tad T.length tcap) := (cell_same hbP).trans HS1.out.c4
  have f4b : w2.frozen? ⟨P, 4, none⟩ = false := (World.frozen?_of_block (a := ⟨P, 4, none⟩) hbP).trans (HS1.out.fz 4)
  clear c0 c4 f4 cO ho2 hk2 hg2 hbP hbw
  go_wp2
  go_end0
  exact ⟨rfl, _, _, _, HR1.out.mv HG.out.1 HG.out.2 HTc.out, HF.out, HM1.out.trans HG.out.2⟩
end
end Go.Proofs.YtfgcnknmiclfnaaDoor
