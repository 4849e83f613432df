/- RsAdv, RsAdvB. -/
import Derived.Test.YtfgcnknmiclfnaaDoorPb19
import Derived.Deep.RegionLaw
import Derived.RegionTactic
set_option linter.unusedVariables false
set_option linter.unusedSimpArgs false
set_option maxRecDepth 100000
set_option maxHeartbeats 4000000
namespace Go.Proofs.YtfgcnknmiclfnaaDoor
open Go.RowKit
theorem Keep.puts {S : Nat → Prop} {a : World} {P : Nat} (hS : S P) : ∀ (vs : List Value) (o : Nat) (w : World), Keep S a w → Keep S a (w.setCells P o vs)
  | [], _, _, h => h
  | v :: r, o, w, h => Keep.puts hS r (o + 1) _ (h.put P o (.inl hS) v)
theorem size_puts (P : Nat) : ∀ (vs : List Value) (o : Nat) (w : World), (w.setCells P o vs).heap.size = w.heap.size
  | [], _, _ => rfl
  | v :: r, o, w => by rw [World.setCells, size_puts P r]; simp [World.setCell]
def zeros : List Value := List.replicate 64 (.int .u64 0)
section
variable {L : List IN} {w w' : World} {P : Nat} {pv : Value} {ln : Bool} {sv : ByteArray} {at_ : Nat} {tv uv : Value} {M : Nat → Bool} {T : List (Nat × Nat)}
theorem SM.there (h : SM w P pv ln sv at_ tv uv M T) : w.there P 5 zeros.toArray.size := fun j hj => by
  have hj : j < 64 := by simpa [zeros] using hj
  exact ⟨by rw [h.cm j hj]; rfl, h.fz _⟩
theorem SM.zero (h : SM w P pv ln sv at_ tv uv M T) : SM (w.setCells P 5 zeros) P pv ln sv at_ tv uv (fun _ => false) T := by
  have hk : Keep (fun b => b = P) w (w.setCells P 5 zeros) := Keep.puts (S := fun b => b = P) rfl _ _ _ (Keep.refl _ _)
  have ho : ∀ {v : Value} {n : Nat} {xs : List Value}, w.ownsRow (P + 1) 66 2 v n xs → (w.setCells P 5 zeros).ownsRow (P + 1) 66 2 v n xs := fun h => own_keep h hk (fun g hg e => by have := (own_at h g hg).1; omega)
  have hc : ∀ j x, (j < 5 ∨ 69 ≤ j) → w.cell? ⟨P, j, none⟩ = some x → (w.setCells P 5 zeros).cell? ⟨P, j, none⟩ = some x := fun j x hj hx => by
    rw [World.cell?_setCells_out P zeros 5 w ⟨P, j, none⟩ (fun _ _ => by
      rcases hj with hj | hj
      · exact .inl hj
      · exact .inr (by show 5 + 64 ≤ j; omega))]
    exact hx
  refine ⟨by rw [size_puts]; exact h.lt, hc _ _ (by omega) h.c0, hc _ _ (by omega) h.c1, hc _ _ (by omega) h.c2, hc _ _ (by omega) h.c3, hc _ _ (by omega) h.c4, fun j hj => ?_, hc _ _ (by omega) h.c5, fun j => by rw [World.frozen?_setCells]; exact h.fz j, ho h.own, h.spr.imp fun n h => h.imp fun xs h => ho h, h.ne⟩
  have := World.rangeAt_setCells_same w P 5 zeros (by simpa using h.there) j (.int .u64 0) (by
    unfold zeros; rw [List.getElem?_replicate, if_pos hj])
  rw [this, wd_none]
  rfl
theorem SM.swap (h : SM w P pv ln sv at_ tv uv M T) {u0 : Value} (hu : w.ownsRow (P + 1) 66 2 u0 0 []) (hs : ∀ g, u0.ownBlock = some g → uv.ownBlock = some g) : SM ((w.setCell ⟨P, 4, none⟩ u0).setCell ⟨P, 69, none⟩ tv) P pv ln sv at_ u0 tv M [] := by
  refine ⟨by simpa [World.setCell] using h.lt, setP_ne (setP_ne h.c0 (by decide) _) (by decide) _, setP_ne (setP_ne h.c1 (by decide) _) (by decide) _, setP_ne (setP_ne h.c2 (by decide) _) (by decide) _, setP_ne (setP_ne h.c3 (by decide) _) (by decide) _, setP_ne (setP_eq h.c4 _) (by decide) _, fun j hj => setP_ne (setP_ne (h.cm j hj) (by omega) _) (by omega) _, setP_eq (setP_ne h.c5 (by decide) _) _, fun j => by rw [World.frozen?_setCell, World.frozen?_setCell]; exact h.fz j, setP_own (setP_own hu rfl) rfl, ⟨_, _, setP_own (setP_own h.own rfl) rfl⟩, fun g hg ht => h.ne g ht (hs g hg)⟩
end
structure Fr (P : Nat) (tv uv : Value) (w : World) (tv' : Value) (w' : World) : Prop where
  keep : Keep (fun b => b = P ∨ tv.ownBlock = some b ∨ uv.ownBlock = some b) w w'
  own : ∀ g, tv'.ownBlock = some g → uv.ownBlock = some g ∨ w.heap.size ≤ g
structure Pre (L : List IN) (ln : Bool) (sv : ByteArray) (at_ P : Nat) (pv tv uv : Value) (T : List (Nat × Nat)) (w w' : World) (u0 : Value) : Prop where
  rc : RC L ln sv (at_ + 1) P pv tv w' u0 (fun _ => false) []
  fr : Fr P tv uv w u0 w'
  old : w'.ownsRow (P + 1) 66 2 tv T.length (rowsT T)
theorem zeros_one : zeros.toArray.all (·.oneCell') = true := all_oneCell_toArray (fun v hv => by rw [List.eq_of_mem_replicate hv]; rfl)
theorem pre_of {L : List IN} {w w5 w6 : World} {P : Nat} {pv : Value} {ln : Bool} {sv : ByteArray} {at_ : Nat} {tv uv : Value} {M : Nat → Bool} {T : List (Nat × Nat)} (h : RC L ln sv at_ P pv uv w tv M T) (s5 : SM w5 P pv ln sv (at_ + 1) tv uv (fun _ => false) T) (k5 : Keep (fun b => b = P) w w5) (h6 : Below w5.heap.size w5 w6) {u0 : Value} (hu : w.ownsRow (P + 1) 66 2 u0 0 []) (hs : ∀ g, u0.ownBlock = some g → uv.ownBlock = some g) :
    Pre L ln sv at_ P pv tv uv T w ((w6.setCell ⟨P, 4, none⟩ u0).setCell ⟨P, 69, none⟩ tv) u0 := by
  have s1 := s5.below h6
  have k1 : Keep (fun b => b = P) w w6 := k5.next h6
  have ho : ∀ {v : Value} {n : Nat} {xs : List Value}, w.ownsRow (P + 1) 66 2 v n xs → World.ownsRow w6 (P + 1) 66 2 v n xs := fun h => own_keep h k1 (fun g hg e => by have := (own_at h g hg).1; omega)
  have s2 := s1.swap (ho hu) hs
  have k2 : Keep (fun b => b = P ∨ tv.ownBlock = some b ∨ uv.ownBlock = some b) w _ := ((k1.mono (fun _ e => .inl e)).put P 4 (.inl (.inl rfl)) u0).put P 69 (.inl (.inl rfl)) tv
  refine ⟨⟨s2, h.pb.keep k2 (Nat.le_of_lt h.sm.lt) (fun b e => ?_), Nat.zero_le _⟩, ⟨k2, fun g e => .inl (hs g e)⟩, setP_own (setP_own (ho h.sm.own) rfl) rfl⟩
  rcases e with rfl | e | e
  · exact Nat.le_refl _
  · have := (own_at h.sm.own b e).1; omega
  · obtain ⟨_, _, h2⟩ := h.sm.spr
    have := (own_at h2 b e).1; omega
theorem adv_end {L : List IN} {w : World} {P : Nat} {pv : Value} {ln : Bool} {sv : ByteArray} {at_ : Nat} {tv uv : Value} {M : Nat → Bool} {T : List (Nat × Nat)} (h : RC L ln sv at_ P pv uv w tv M T) (ha : at_ = sv.size) :
    Calls Tryd.prog 23 #[.pointer (some ⟨P, 0, none⟩)] w fun e w' => e = .returned (.bool false) ∧ Below w.heap.size w w' := by
  have c2 := h.sm.c2
  have c3 := h.sm.c3
  have h0I : ((at_ : Int) == (sv.size : Int)) = true := by simp; omega
  clear h ha
  go_enter Tryd.func23, Tryd.ntmps23
  go_wp2
  go_quiet (fail)
  go_wp2
  go_ret
  exact ⟨rfl, (below_drewN (Below.refl _ _) _)⟩
def cut0 : Value → Value
  | .slice ad _ cap => .slice ad 0 cap
  | v => v
theorem cut0_own {w : World} {B : Nat} {t : TypeId} {k n : Nat} {v : Value} {xs : List Value} (h : w.ownsRow B t k v n xs) : w.ownsRow B t k (cut0 v) 0 [] ∧ ∀ g, (cut0 v).ownBlock = some g → v.ownBlock = some g := by
  rcases h.2 with ⟨rfl, _⟩ | ⟨g, cap, cur, rfl, h1, h2, h3, h4, h5, h6⟩
  · exact ⟨⟨by simp, .inl ⟨rfl, rfl⟩⟩, fun _ h => h⟩
  · exact ⟨⟨by simp, .inr ⟨g, cap, cur, rfl, h1, h2, Nat.zero_le _, h4, h5, by simp⟩⟩, fun _ h => h⟩
def LP (L : List IN) (ln : Bool) (sv : ByteArray) (at_ P : Nat) (pv tv uv : Value) (T : List (Nat × Nat)) (c : UInt8) (w : World) (k : Nat) (wr : World) : Prop :=
  ∃ tv' M' T', RC L ln sv (at_ + 1) P pv tv wr tv' M' T' ∧ IV (stp L ln sv.data.toList (at_ + 1)) (trm L) (nexts L c (T.take k)) M' T' ∧ Fr P tv uv w tv' wr ∧ wr.ownsRow (P + 1) 66 2 tv T.length (rowsT T)
section
variable {L : List IN} {ln : Bool} {sv : ByteArray} {at_ P : Nat} {pv tv uv : Value} {T : List (Nat × Nat)} {c : UInt8} {w wr w' : World} {k : Nat}
theorem LP.below (h : LP L ln sv at_ P pv tv uv T c w k wr) (hb : Below wr.heap.size wr w') : LP L ln sv at_ P pv tv uv T c w k w' := by
  obtain ⟨tv', M', T', h1, h2, h3, h4⟩ := h
  exact ⟨tv', M', T', h1.below hb, h2, ⟨h3.keep.next hb, h3.own⟩, own_below h4 hb⟩
theorem nexts_take (k : Nat) (hk : k < T.length) : nexts L c (T.take (k + 1)) = nexts L c (T.take k) ++ (if sel L c T[k] then [((T[k]).1 + 1, (T[k]).2)] else []) := by
  unfold nexts
  rw [List.take_succ_eq_append_getElem hk, List.filter_append, List.map_append]
  congr 1
  cases hs : sel L c T[k] <;> simp [hs]
theorem LP.skip (h : LP L ln sv at_ P pv tv uv T c w k wr) (hk : k < T.length) (hs : sel L c T[k] = false) : LP L ln sv at_ P pv tv uv T c w (k + 1) wr := by
  obtain ⟨tv', M', T', h1, h2, h3, h4⟩ := h
  exact ⟨tv', M', T', h1, by rw [nexts_take k hk, hs]; simpa using h2, h3, h4⟩
theorem LP.step {tv' : Value} {M' : Nat → Bool} {T' : List (Nat × Nat)} (h1 : RC L ln sv (at_ + 1) P pv tv wr tv' M' T') (h2 : IV (stp L ln sv.data.toList (at_ + 1)) (trm L) (nexts L c (T.take k)) M' T') (h3 : Fr P tv uv w tv' wr) (h4 : wr.ownsRow (P + 1) 66 2 tv T.length (rowsT T)) (hk : k < T.length) (hs : sel L c T[k] = true) (hsrt : T.Pairwise (fun p q => p.2 ≤ q.2)) (hr : RPost L ln sv (at_ + 1) P pv tv (T[k]).2 wr tv' M' T' [(T[k]).1 + 1] w') : LP L ln sv at_ P pv tv uv T c w (k + 1) w' := by
  obtain ⟨tv2, M2, T2, r1, r2, r3⟩ := hr
  refine ⟨tv2, M2, T2, r1, ?_, ⟨h3.keep.trans r3.keep (fun g hg e => ?_), fun g e => ?_⟩, own_keep h4 r3.keep (fun g hg e => ?_)⟩
  · rw [nexts_take k hk, hs]
    refine h2.add (fun p hp => ?_) r2
    obtain ⟨a, x, e1, e2, _⟩ := nexts_mem.1 (show (p.1, p.2) ∈ _ from hp)
    obtain ⟨j, hj⟩ := List.mem_iff_getElem?.1 e2
    rw [List.getElem?_take] at hj
    split at hj
    · rename_i hjk
      obtain ⟨j1, j2⟩ := List.getElem?_eq_some_iff.1 hj
      have := List.pairwise_iff_getElem.1 hsrt j k j1 hk hjk
      rw [j2] at this
      exact this
    · cases hj
  · rcases e with e | e
    · exact .inl e
    · rcases h3.own g e with e2 | e2
      · exact .inr (.inr e2)
      · omega
  · rcases r3.own g e with e | e
    · exact h3.own g e
    · right; have := h3.keep.size; omega
  · rcases e with e | e
    · have := (own_at h4 g hg).1; omega
    · exact h1.sm.ne g e hg
theorem Pre.lp {u0 : Value} (h : Pre L ln sv at_ P pv tv uv T w w' u0) (c : UInt8) : LP L ln sv at_ P pv tv uv T c w 0 w' := ⟨u0, _, _, h.rc, by rw [List.take_zero]; exact IV.nil _ _, h.fr, h.old⟩
end
end Go.Proofs.YtfgcnknmiclfnaaDoor
set_option linter.unusedVariables false
set_option linter.unusedSimpArgs false
set_option maxRecDepth 100000
set_option maxHeartbeats 8000000
namespace Go.Proofs.YtfgcnknmiclfnaaDoor
open Go.RowKit
theorem tv_cells {w : World} {P g cap : Nat} {T : List (Nat × Nat)} (h : w.ownsRow (P + 1) 66 2 (.slice (some ⟨g, 0, none⟩) T.length cap) T.length (rowsT T)) (k : Nat) (hk : k < T.length) : w.cell? ⟨g, k * 2, none⟩ = some (.int .i64 ((T[k]).1 : Int)) ∧ w.cell? ⟨g, k * 2 + 1, none⟩ = some (.int .i64 ((T[k]).2 : Int)) := by
  have h0 := h.cellAt (k * 2 + 0) (by omega)
  have h1 := h.cellAt (k * 2 + 1) (by omega)
  rw [rowsT_get T k hk 0 (by decide)] at h0
  rw [rowsT_get T k hk 1 (by decide)] at h1
  exact ⟨h0, h1⟩
section
variable {L : List IN} {ln : Bool} {sv : ByteArray} {at_ P : Nat} {pv uv : Value} {T : List (Nat × Nat)} {M : Nat → Bool} {w : World} {tv : Value}
theorem adv_any (hv : valL L = true) (h : RC L ln sv at_ P pv uv w tv M T) (ha : at_ < sv.size) (hs : sv.size ≤ 1000000000) (hT : ∀ p, p ∈ T → p.1 < L.length) (hsrt : T.Pairwise (fun p q => p.2 ≤ q.2)) (c : UInt8) (hc : sv.data.toList[at_]? = some c) :
    Calls Tryd.prog 23 #[.pointer (some ⟨P, 0, none⟩)] w fun e w' => e = .returned (.bool true) ∧ LP L ln sv at_ P pv tv uv T c w T.length w' := by
  have hn : L.length ≤ 4096 := by
    unfold valL at hv
    rw [Bool.and_eq_true, Bool.and_eq_true] at hv
    exact of_decide_eq_true hv.2.1
  have htl : T.length ≤ 4096 := Nat.le_trans h.tc (Nat.le_trans (cntM_le _ _) hn)
  have HReach := Lib.hid (fun (f m : Nat) (pv uv : Value) => reach_any (ln := ln) (P := P) (pv := pv) (uv := uv) hv (show at_ + 1 ≤ sv.size by omega) hs f m)
  obtain ⟨b, i0, cap, rfl, hb, _⟩ := h.pb
  have HVC := Lib.hid (fun k (hk : k < L.length) => val_cases hv hk)
  have HHas := Lib.hid (fun (p : Nat → Bool) W => has_any p c.toNat (by have := c.toNat_lt; omega) W)
  obtain ⟨tad, tcap, rfl⟩ := own_sl h.sm.own
  have c2 := h.sm.c2
  have c3 := h.sm.c3
  have f3 := h.sm.fz 3
  have h0I : ((at_ : Int) == (sv.size : Int)) = false := beq_no (by omega)
  have hp : (0 : Int) ≤ (at_ : Int) := by omega
  have hq : (at_ : Int) < (sv.size : Int) := by omega
  have hsI : (sv.size : Int) ≤ 1000000000 := by omega
  have htI : (T.length : Int) ≤ 4096 := by omega
  have ix := idx_lb sv at_ c hc (at_ : Int) rfl
  have HRC := Lib.hid h
  have HTn := Lib.hid hT
  have HSr := Lib.hid hsrt
  have HTH : Hid (∀ W, Below w.heap.size w W → Hid (World.there (W.setCell ⟨P, 3, none⟩ (.int .i64 ((at_ : Int) + 1))) P 5 zeros.toArray.size)) := Lib.hid (fun W hb => Lib.hid (((HRC.out.sm.below hb).setAt (at_ + 1)).there))
  clear h hT hsrt hc ha hs hv
  go_enter Tryd.func23, Tryd.ntmps23
  go_wp2
  go_quiet (fail)
  go_wp2
  go_quiet (fail)
  go_upto_region 6 with (first
    | (refine wpList_store_mid rfl 62 (.tmp 36) (.tmp 34) rfl P 5 zeros.toArray rfl rfl (HTH.out _ (below_drewN (Below.refl _ _) _)).out isz_mk zeros_one ?_
       generalize hW5 : World.setCells _ P 5 zeros.toArray.toList = W5
       have s5 : SM W5 P (.slice (some ⟨b, i0, none⟩) L.length cap) ln sv (at_ + 1) (.slice tad T.length tcap) uv (fun _ => false) T := by rw [← hW5]; exact ((HRC.out.sm.below (below_drewN (Below.refl _ _) _)).setAt (at_ + 1)).zero
       have k5 : Keep (fun b => b = P) w W5 := by rw [← hW5]; exact Keep.puts (S := fun b => b = P) rfl _ _ _ ((Keep.of_below (S := fun b => b = P) (below_drewN (Below.refl _ _) _)).put P 3 (.inl rfl) _)
       have HS5 := Lib.hid s5
       have HK5 := Lib.hid k5
       have d4 := s5.c4
       have d5 := s5.c5
       have e4 := s5.fz 4
       have e5 := s5.fz 69
       clear hW5 s5 k5 c2 c3 f3 HTH ix h0I))
  simp only [Act.put]
  go_cut [0, 2, 3] (fun x0 x2 x3 wx => x0 = .pointer (some ⟨P, 0, none⟩) ∧ x2 = .bool false ∧ x3 = .int .u8 (c.toNat : Int) ∧ Hid (Pre L ln sv at_ P (.slice (some ⟨b, i0, none⟩) L.length cap) (.slice tad T.length tcap) uv T w wx (cut0 uv)))
  case first =>
    obtain ⟨un, uxs, ho⟩ := HRC.out.sm.spr
    obtain ⟨ho2, ho3⟩ := cut0_own ho
    have HPre := Lib.hid (pre_of HRC.out HS5.out HK5.out ((Below.refl W5.heap.size W5).drew) ho2 ho3)
    rcases ho.2 with ⟨rfl, _⟩ | ⟨g0, cap0, cur, rfl, q1, q2, q3, q4, q5, q6⟩
    · clear ho ho2 ho3
      go_region
      all_goals go_wp2_with fail
      all_goals go_meet
      all_goals (case rel => exact ⟨rfl, rfl, rfl, HPre⟩)
    · clear ho ho2 ho3 q1 q2 q3 q4 q5 q6
      go_region
      all_goals go_wp2_with fail
      all_goals go_meet
      all_goals (case rel => exact ⟨rfl, rfl, rfl, HPre⟩)
  case rest =>
  obtain ⟨rfl, rfl, rfl, HPre⟩ := hcut
  have p5 := HPre.out.rc.sm.c5
  have HLp := Lib.hid (HPre.out.lp c)
  clear d4 d5 e4 e5 HS5 HK5
  go_wp2_with fail
  go_loopw [57] (fun i wr => ∃ (k : Nat), k ≤ T.length ∧ i = .int .i64 k ∧ Hid (LP L ln sv at_ P (.slice (some ⟨b, i0, none⟩) L.length cap) (.slice tad T.length tcap) uv T c w k wr)) (fun i _ => T.length - (intOf i).toNat)
  case atStart => exact ⟨0, Nat.zero_le _, rfl, HLp⟩
  case round =>
    obtain ⟨k, hk, rfl, HR⟩ := hrel
    by_cases hkn : k < T.length
    · have ki : (k : Int) < T.length := by omega
      have ki0 : (0 : Int) ≤ k := by omega
      obtain ⟨tvr, Mr, Tr, hrc, hiv, hfr, hold⟩ := HR.out
      obtain ⟨g1, cap1, e⟩ := own_more hold (by omega)
      injection e with e1 e2 e3
      subst e1 e3
      obtain ⟨t0, t1⟩ := tv_cells hold k hkn
      have hg1 := (own_at hold g1 rfl).2
      obtain ⟨q, hq⟩ : ∃ q, q = T[k] := ⟨_, rfl⟩
      rw [← hq] at t0 t1
      have pn : q.1 < L.length := HTn.out q (by rw [hq]; exact List.getElem_mem _)
      obtain ⟨I, hI⟩ : ∃ I, I = L[q.1] := ⟨_, rfl⟩
      have hI2 : L[q.1]? = some I := by rw [hI]; exact List.getElem?_eq_getElem pn
      have pI : (q.1 : Int) < (L.length : Int) := by omega
      have pI0 : (0 : Int) ≤ (q.1 : Int) := by omega
      have hnI : (L.length : Int) ≤ 4096 := by omega
      obtain ⟨WB, hWB⟩ : ∃ WB, WB = wr.alloc (.cells #[.int .i64 (q.1 : Int), .int .i64 (q.2 : Int)] 66) := ⟨_, rfl⟩
      have hBB : Below wr.heap.size wr WB := by rw [hWB]; exact (Below.refl _ _).alloc (Nat.le_refl _) _
      have hbx : WB.heap[wr.heap.size]? = some (.cells #[.int .i64 (q.1 : Int), .int .i64 (q.2 : Int)] 66 (0, 0)) := by rw [hWB]; exact heap_alloc_new wr _
      have b0 := cell_of_row WB wr.heap.size 0 _ _ _ hbx
      have b1 := cell_of_row WB wr.heap.size 1 _ _ _ hbx
      have hlB : wr.heap.size < WB.heap.size := (Array.getElem?_eq_some_iff.1 hbx).1
      have hrB := hrc.below hBB
      have c0 := hrB.sm.c0
      have hbw : b < WB.heap.size := by have := hrB.sm.lt; omega
      have hat := fun j hj u hu => hrB.pb.at pn j hj (u := u) hu
      rw [← hI] at hat
      have cO : WB.cell? ⟨b, i0 + q.1 * 7, none⟩ = some (.int .i64 I.op) := hat 0 (by decide) _ rfl
      have hsI := HVC.out q.1 pn
      rw [← hI] at hsI
      have HBB := Lib.hid hBB
      have HrB := Lib.hid hrB
      have HI2 := Lib.hid hI2
      have HQ := Lib.hid hq
      have HVI := Lib.hid hsI
      have HW := Lib.hid hWB
      have HIv := Lib.hid hiv
      have HFr := Lib.hid hfr
      have HOld := Lib.hid hold
      have HBx := Lib.hid hbx
      have hsl : sel L c T[k] = (decide (I.op = 1) && I.st c.toNat) := by rw [← hq]; unfold sel; rw [hI2]
      have HSl := Lib.hid hsl
      clear hsl hrc hiv hfr hold hWB hBB hI hI2 hq hrB hsI hbx p5
      by_cases hop : I.op = 1
      · rw [hop] at cO
        have s1 := hat 1 (by decide) _ rfl
        have s2 := hat 2 (by decide) _ rfl
        have s3 := hat 3 (by decide) _ rfl
        have s4 := hat 4 (by decide) _ rfl
        have HHs : Hid (∀ W, Calls Tryd.prog 37 #[.agg #[.int .u64 (wd I.st 0 64 : Nat), .int .u64 (wd I.st 64 64 : Nat), .int .u64 (wd I.st 128 64 : Nat), .int .u64 (wd I.st 192 64 : Nat)], .int .u8 (c.toNat : Int)] W fun e w' => e = .returned (.bool (I.st c.toNat)) ∧ Below W.heap.size W w') := Lib.hid (fun W => HHas.out I.st W)
        clear hat
        cases hst : I.st c.toNat with
        | true =>
          rw [hst] at HHs
          have hq1 : q.1 + 1 < L.length := by
            rcases HVI.out with ⟨_, h⟩ | ⟨h, _⟩ | ⟨h, _⟩ | ⟨h, _⟩ | ⟨h, _⟩ | h
            · exact h
            all_goals (rw [hop] at h; cases h)
          have HRe : Hid (∀ W, RC L ln sv (at_ + 1) P (.slice (some ⟨b, i0, none⟩) L.length cap) (.slice (some ⟨g1, 0, none⟩) T.length tcap) W tvr Mr Tr → Calls Tryd.prog 36 #[.pointer (some ⟨P, 0, none⟩), .int .i64 ((q.1 : Int) + 1), .int .i64 (q.2 : Int)] W fun e w' => e = .returned (.tuple #[]) ∧ RPost L ln sv (at_ + 1) P (.slice (some ⟨b, i0, none⟩) L.length cap) (.slice (some ⟨g1, 0, none⟩) T.length tcap) q.2 W tvr Mr Tr [q.1 + 1] w') := Lib.hid (fun W r => HReach.out q.2 L.length _ _ (q.1 + 1) W tvr Mr Tr (by omega) hq1 r)
          have HSt : Hid (sel L c T[k] = true) := Lib.hid (by rw [HSl.out, hop, hst]; rfl)
          clear hst hq1
          go_upto_region 10 with fail
          rw [← HW.out]
          go_quiet (fail)
          go_wp2_with (first
            | (go_at_call 37; (with_reducible refine (HHs.out _).mono ?_); rintro e w2 ⟨rfl, hb2⟩
               have HB2 : Hid (Below wr.heap.size wr w2) := Lib.hid (HBB.out.trans (((below_drewN (Below.refl _ _) _).trans hb2).mono HBB.out.size))
               have hbx2 : w2.heap[wr.heap.size]? = some (.cells #[.int .i64 (q.1 : Int), .int .i64 (q.2 : Int)] 66 (0, 0)) := (hb2.block wr.heap.size hlB).trans HBx.out
               have d0 := cell_of_row w2 wr.heap.size 0 _ _ _ hbx2
               have d1 := cell_of_row w2 wr.heap.size 1 _ _ _ hbx2
               have HrC := Lib.hid (HrB.out.below ((below_drewN (Below.refl _ _) _).trans hb2))
               clear hb2 hbx2 b0 b1 c0 cO s1 s2 s3 s4)
            | (go_at_call 36; (with_reducible refine (HRe.out _ HrC.out).mono ?_); rintro e w3 ⟨rfl, hr3⟩
               have HR3 := Lib.hid hr3
               clear hr3 d0 d1))
          go_roundw
          case rel => exact ⟨k + 1, by omega, by go_num, Lib.hid (LP.step HrC.out HIv.out ⟨HFr.out.keep.next HB2.out, HFr.out.own⟩ (own_below HOld.out HB2.out) hkn HSt.out HSr.out (by rw [← HQ.out]; exact HR3.out))⟩
          case measure => simp [intOf]; omega
        | false =>
          rw [hst] at HHs
          have HSt : Hid (sel L c T[k] = false) := Lib.hid (by rw [HSl.out, hst]; simp)
          clear hst
          go_upto_region 10 with fail
          rw [← HW.out]
          go_quiet (fail)
          go_wp2_with (first
            | (go_at_call 37; (with_reducible refine (HHs.out _).mono ?_); rintro e w2 ⟨rfl, hb2⟩
               have HB2 : Hid (Below wr.heap.size wr w2) := Lib.hid (HBB.out.trans (((below_drewN (Below.refl _ _) _).trans hb2).mono HBB.out.size))
               clear hb2 b0 b1 c0 cO s1 s2 s3 s4))
          go_roundw
          case rel => exact ⟨k + 1, by omega, by go_num, Lib.hid ((HR.out.below HB2.out).skip hkn HSt.out)⟩
          case measure => simp [intOf]; omega
      · have hop1 : (I.op == 1) = false := by simpa using hop
        have HSt : Hid (sel L c T[k] = false) := Lib.hid (by rw [HSl.out, decide_eq_false hop]; rfl)
        clear hop hat
        go_upto_region 10 with fail
        rw [← HW.out]
        go_quiet (fail)
        go_wp2_with fail
        go_roundw
        case rel => exact ⟨k + 1, by omega, by go_num, Lib.hid ((HR.out.below (HBB.out.trans ((below_drewN (Below.refl _ _) _).mono HBB.out.size))).skip hkn HSt.out)⟩
        case measure => simp [intOf]; omega
    · obtain rfl : k = T.length := by omega
      go_wp2_with fail
      go_ret
      exact ⟨rfl, HR.out⟩
end
end Go.Proofs.YtfgcnknmiclfnaaDoor
