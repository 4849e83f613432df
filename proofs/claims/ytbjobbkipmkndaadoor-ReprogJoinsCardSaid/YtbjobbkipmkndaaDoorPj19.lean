/- RpAlt. -/
import Derived.Test.YtbjobbkipmkndaaDoorPj18
import Derived.Deep.RegionHeld3
set_option linter.unusedVariables false
set_option linter.unusedSimpArgs false
set_option maxRecDepth 100000
set_option maxHeartbeats 8000000
namespace Go.Proofs.YtbjobbkipmkndaaDoor
open Go.RowKit
def setX (e : Int) (L : List IN) (j : Nat) : List IN := match L[j]? with
  | some i => L.set j ⟨i.op, i.st, e, i.y⟩
  | none => L
theorem setX_at (e : Int) (L : List IN) (j : Nat) (hj : j < L.length) : setX e L j = L.set j ⟨(L[j]).op, (L[j]).st, e, (L[j]).y⟩ := by
  unfold setX
  rw [List.getElem?_eq_getElem hj]
theorem setX_len (e : Int) (L : List IN) (j : Nat) : (setX e L j).length = L.length := by
  unfold setX
  split
  · rw [List.length_set]
  · rfl
theorem setXs_len (e : Int) : ∀ (J : List Nat) (L : List IN), (J.foldl (setX e) L).length = L.length
  | [], _ => rfl
  | j :: J, L => by rw [List.foldl_cons, setXs_len e J, setX_len]
theorem patchX (e e0 : Int) : ∀ (cs : List Cd) (b : Nat) (pre suf : List IN), pre.length = b → (posL cs b).foldl (setX e) (pre ++ (altP e0 cs b ++ suf)) = pre ++ (altP e cs b ++ suf)
  | [], _, _, _, _ => rfl
  | c :: r, b, pre, suf, h => by
    have h1 : pre ++ (altP e0 (c :: r) b ++ suf) = (pre ++ (sp ((b + 1 : Nat) : Int) ((b + (c (b + 1)).length + 2 : Nat) : Int) :: c (b + 1))) ++ (jm e0 :: (altP e0 r (b + (c (b + 1)).length + 2) ++ suf)) := by simp [altP]
    have hl : (pre ++ (sp ((b + 1 : Nat) : Int) ((b + (c (b + 1)).length + 2 : Nat) : Int) :: c (b + 1))).length = b + 1 + (c (b + 1)).length := by simp [h]; omega
    show (posL r _).foldl _ (setX e (pre ++ (altP e0 (c :: r) b ++ suf)) (b + 1 + (c (b + 1)).length)) = _
    have hget : ((pre ++ (sp ((b + 1 : Nat) : Int) ((b + (c (b + 1)).length + 2 : Nat) : Int) :: c (b + 1))) ++ (jm e0 :: (altP e0 r (b + (c (b + 1)).length + 2) ++ suf)))[b + 1 + (c (b + 1)).length]? = some (jm e0) := by
      rw [List.getElem?_append_right (by omega), hl, Nat.sub_self]
      rfl
    rw [h1]
    unfold setX
    rw [hget]
    show (posL r _).foldl _ (List.set _ _ (jm e)) = _
    rw [List.set_append_right _ _ (by omega), hl, Nat.sub_self, List.set_cons_zero]
    have := patchX e e0 r (b + (c (b + 1)).length + 2) (pre ++ (sp ((b + 1 : Nat) : Int) ((b + (c (b + 1)).length + 2 : Nat) : Int) :: (c (b + 1) ++ [jm e]))) suf (by simp [h]; omega)
    simp only [List.append_assoc, List.cons_append, List.nil_append] at this ⊢
    unfold setX at this
    rw [this]
    simp [altP]
theorem WM.kept {S : Nat → Prop} {w w' : World} {P : Nat} {v : Value} {L : List IN} (h : WM w P v L) (hk : Keep S w w') (hP : ¬ S P) (hO : ∀ g, v.ownBlock = some g → ¬ S g) : WM w' P v L := ⟨(hk.block P h.lt hP).trans h.wr, own_keep h.own hk hO⟩
theorem infoZ : (Tryd.prog.info? 3).map (fun i => (i.zero, i.size, i.bytes)) = some (some (.int .i64 0), 1, 8) := by kernel_rfl
def ints (J : List Nat) : List Value := J.map fun (j : Nat) => Value.int .i64 ((j : Nat) : Int)
theorem ints_snoc (J : List Nat) (j : Nat) : ints (J ++ [j]) = ints J ++ [.int .i64 (j : Int)] := by simp [ints]
theorem altC_eq (f : F) (h : 1 ≤ f.len) : altC (cods f) = altE ((cods f).take (f.len - 1)) (codT (f.nth (f.len - 1))) := by
  have hl : f.len - 1 < (cods f).length := by rw [cods_len]; omega
  have e : cods f = (cods f).take (f.len - 1) ++ [codT (f.nth (f.len - 1))] := by
    rw [← cods_get f (f.len - 1) (by omega), ← List.take_succ_eq_append_getElem hl, List.take_of_length_le (by rw [cods_len]; omega)]
  unfold altC
  have e1 : (cods f).dropLast = (cods f).take (f.len - 1) := by rw [List.dropLast_eq_take, cods_len]
  have e2 : (cods f).getLastD nilC = codT (f.nth (f.len - 1)) := by rw [e]; simp
  rw [e1, e2]
theorem set_split (A c : List IN) (s : Nat) (hs : s = A.length) (x y : Int) (h : s < (A ++ sp 0 0 :: c).length) : (A ++ sp 0 0 :: c).set s ⟨((A ++ sp 0 0 :: c)[s]'h).op, ((A ++ sp 0 0 :: c)[s]'h).st, x, y⟩ = A ++ sp x y :: c := by
  subst hs
  simp [sp]
structure AR (w0 : World) (P : Nat) (v0 : Value) (v1 : Value) (w : World) (L : List IN) (jv : Value) (J : List Nat) : Prop where
  mv : Mv P v0 w0 v1 w
  wm : WM w P v1 L
  own : w.ownsRow w0.heap.size 3 1 jv J.length (ints J)
  ne : ∀ g, jv.ownBlock = some g → ¬ v1.ownBlock = some g
theorem AR.step {w0 w w' : World} {P : Nat} {v0 v1 v2 jv : Value} {L L' : List IN} {J : List Nat} {L0 : List IN} (hw : WM w0 P v0 L0) (h : AR w0 P v0 v1 w L jv J) (hm : Mv P v1 w v2 w') (hl : WM w' P v2 L') : AR w0 P v0 v2 w' L' jv J := by
  have hP := hw.lt
  refine ⟨h.mv.trans hm, hl, own_keep h.own hm.keep (fun g hg e => ?_), fun g hg e => ?_⟩
  · rcases e with e | e
    · have := (own_at h.own g hg).1; omega
    · exact h.ne g hg e
  · rcases hm.own g e with e | e
    · exact h.ne g hg e
    · have := (own_at h.own g hg).2; omega
theorem AR.below {w0 w w' : World} {P : Nat} {v0 v1 jv : Value} {L : List IN} {J : List Nat} (h : AR w0 P v0 v1 w L jv J) (hb : Below w.heap.size w w') : AR w0 P v0 v1 w' L jv J := ⟨h.mv.next hb, h.wm.below hb, own_below h.own hb, h.ne⟩
theorem AR.drew {w0 w : World} {P : Nat} {v0 v1 jv : Value} {L : List IN} {J : List Nat} (h : AR w0 P v0 v1 w L jv J) : AR w0 P v0 v1 w.drew L jv J := ⟨h.mv.drew, h.wm.drew, h.own, h.ne⟩
theorem altP_ge (e : Int) : ∀ (cs : List Cd) (b : Nat), 2 * cs.length ≤ (altP e cs b).length
  | [], _ => Nat.zero_le _
  | c :: r, b => by
    have := altP_ge e r (b + (c (b + 1)).length + 2)
    simp only [altP, List.length_cons, List.length_append]
    omega
theorem posL_length : ∀ (cs : List Cd) (b : Nat), (posL cs b).length = cs.length
  | [], _ => rfl
  | c :: r, b => by show (posL r _).length + 1 = r.length + 1; rw [posL_length r]
theorem AR.app {w0 w w8 : World} {P : Nat} {v0 v1 jv : Value} {L : List IN} {J : List Nat} {L0 : List IN} (hw : WM w0 P v0 L0) (h : AR w0 P v0 v1 w L jv J) {g0 cap0 j : Nat}
    (ho : w8.ownsRow w0.heap.size 3 1 (.slice (some ⟨g0, 0, none⟩) (J.length + 1) cap0) (J.length + 1) (ints J ++ [.int .i64 (j : Int)])) (hk : Keep (fun b => jv.ownBlock = some b) w w8) (hg : jv.ownBlock = some g0 ∨ w.heap.size ≤ g0) :
    AR w0 P v0 v1 w8 L (.slice (some ⟨g0, 0, none⟩) (J.length + 1) cap0) (J ++ [j]) := by
  have hP := hw.lt
  have hlo : ∀ g, jv.ownBlock = some g → w0.heap.size ≤ g := fun g e => (own_at h.own g e).1
  refine ⟨⟨h.mv.keep.trans hk (fun g hg e => by have := hlo g e; omega), h.mv.own⟩, h.wm.kept hk (fun e => by have := hlo P e; omega) (fun g e1 e2 => h.ne g e2 e1), ?_, fun g hg2 e => ?_⟩
  · rw [List.length_append, ints_snoc]
    exact ho
  · cases hg2
    rcases hg with hg | hg
    · exact h.ne _ hg e
    · have : g0 < w.heap.size := (own_at h.wm.own g0 e).2; omega
theorem alt_any (f : F) (hch : ∀ i, i < f.len → TreeG (f.nth i).args) (sv : Value) (w : World) (S : Nat → Prop) (P : Nat) (v : Value) (L : List IN) (hsv : SV w S f sv) (hS : ∀ b, S b → b < P) (hM : WM w P v L) (hn1 : 1 ≤ f.len) (hwf : wfC f) (hlen : f.len ≤ maxLen) (hfit : f.fits) (hL : L.length + (altC (cods f) L.length).length ≤ 900000) :
    Calls Tryd.prog 52 #[.pointer (some ⟨P, 0, none⟩), sv] w fun e w' => e = .returned (.tuple #[]) ∧ ∃ v', WM w' P v' (L ++ altC (cods f) L.length) ∧ Mv P v w v' w' := by
  obtain ⟨zs, ad, cap, rfl, hcap, hfv, hcells⟩ := hsv
  have hfl : (f.len : Int) ≤ 9223372036854775807 := by unfold maxLen at hlen; omega
  obtain ⟨m, hm⟩ : ∃ m, f.len = m + 1 := ⟨f.len - 1, by omega⟩
  rw [altC_eq f hn1] at hL ⊢
  obtain ⟨ini, hini⟩ : ∃ ini, (cods f).take (f.len - 1) = ini := ⟨_, rfl⟩
  rw [hini] at hL ⊢
  have hil : ini.length = m := by rw [← hini, List.length_take, cods_len]; omega
  have hig : ∀ (k : Nat) (hk : k < ini.length), ini[k]'hk = codT (f.nth k) := fun k hk => by
    subst hini
    rw [List.getElem_take, cods_get f k (by omega)]
  have hm1 : f.len - 1 = m := by omega
  rw [hm1] at hL ⊢
  have hLa : L.length + (altP 0 ini L.length).length + (codT (f.nth m) (L.length + (altP 0 ini L.length).length)).length ≤ 900000 := by
    unfold altE at hL
    rw [List.length_append, altP_len _ 0] at hL
    omega
  have HIg := Lib.hid hig
  have HIl := Lib.hid hil
  have HM := Lib.hid hM
  have HS := Lib.hid hS
  have HCh := Lib.hid hch
  have HFV := Lib.hid hfv
  have HCe := Lib.hid hcells
  have HFt := Lib.hid hfit
  have HWf := Lib.hid hwf
  have HL := Lib.hid hLa
  have hmI : (f.len : Int) = (m : Int) + 1 := by omega
  have hcapm : (m : Int) ≤ (cap : Int) := by omega
  have hm0 : (0 : Int) ≤ (m : Int) := by omega
  have hmc : m ≤ cap := by omega
  have HmF := Lib.hid hm
  have hm9 : m ≤ 450000 := by have := altP_ge 0 ini L.length; omega
  have HA1 := Lib.hid (fun W v' (Lx : List IN) (hW : WM W P v' Lx) (hl : Lx.length < 1000000) => add_no 2 0 0 P v' Lx W hW hl)
  have HA2 := Lib.hid (fun W v' (Lx : List IN) (hW : WM W P v' Lx) (hl : Lx.length < 1000000) => add_no 3 0 0 P v' Lx W hW hl)
  clear hM hS hch hfv hcells hfit hwf hL hini hil hig hm1 hn1 hLa
  rw [hm] at hcap hlen hfl
  clear hm
  go_enter Tryd.func52, Tryd.ntmps52
  go_wp2_with fail
  go_loopw [5, 18] (fun jv i wr => ∃ (k : Nat) (C : List IN) (J : List Nat) (v1 : Value), k ≤ m ∧ i = .int .i64 k ∧ Hid (AR w P v v1 wr (L ++ C) jv J ∧ altP 0 ini L.length = C ++ altP 0 (ini.drop k) (L.length + C.length) ∧ posL ini L.length = J ++ posL (ini.drop k) (L.length + C.length))) (fun _ i _ => m - (intOf i).toNat)
  case atStart => exact ⟨0, [], [], v, Nat.zero_le _, rfl, Lib.hid ⟨⟨Mv.refl _ _ _, by rw [List.append_nil]; exact HM.out, World.ownsRow_nil _ _ _ _, fun _ h => by cases h⟩, by simp, by simp⟩⟩
  case round =>
    obtain ⟨k, C, J, v1, hk, rfl, HB⟩ := hrel
    obtain ⟨jad, jcap, rfl⟩ := own_sl HB.out.1.own
    have HLt := Lib.hid HM.out.lt
    by_cases hkn : k < m
    · have ki : (k : Int) < m := by omega
      have ki0 : (0 : Int) ≤ k := by omega
      have hst1 := HB.out.2.1
      have hst2 := HB.out.2.2
      rw [List.drop_eq_getElem_cons (by rw [HIl.out]; exact hkn), HIg.out k (by rw [HIl.out]; exact hkn)] at hst1 hst2
      obtain ⟨L0, hL0⟩ : ∃ L0, L0 = L ++ C := ⟨_, rfl⟩
      have hl0 : L0.length = L.length + C.length := by rw [hL0, List.length_append]
      rw [← hl0] at hst1 hst2
      obtain ⟨cc, hcc⟩ : ∃ cc, codT (f.nth k) (L0.length + 1) = cc := ⟨_, rfl⟩
      have hst1 : altP 0 ini L.length = C ++ (sp ((L0.length + 1 : Nat) : Int) ((L0.length + cc.length + 2 : Nat) : Int) :: (cc ++ jm 0 :: altP 0 (ini.drop (k + 1)) (L0.length + cc.length + 2))) := by rw [hst1, altP, hcc]
      have hst2 : posL ini L.length = J ++ ((L0.length + 1 + cc.length) :: posL (ini.drop (k + 1)) (L0.length + cc.length + 2)) := by rw [hst2, posL, hcc]
      have hbd : L0.length + cc.length + 2 ≤ 900000 := by
        have h1 := HL.out
        rw [hst1] at h1
        simp only [List.length_append, List.length_cons] at h1
        omega
      have hJ9 : J.length ≤ 450000 := by
        have h1 := congrArg List.length hst2
        rw [posL_length, HIl.out, List.length_append] at h1
        omega
      have HSt1 := Lib.hid hst1
      have HSt2 := Lib.hid hst2
      have HBd := Lib.hid hbd
      have HJ9 := Lib.hid hJ9
      have HCc := Lib.hid hcc
      have HL0 := Lib.hid hL0
      have HR := Lib.hid HB.out.1
      rw [← hL0] at HR
      clear hst1 hst2 hbd hJ9 hcc hL0 hl0
      obtain ⟨b, i0, rfl, hSb, hbl, hce⟩ : ∃ b i, ad = some ⟨b, i, none⟩ ∧ S b ∧ b < w.heap.size ∧ ∀ j u, zs[j]? = some u → w.cell? ⟨b, i + j, none⟩ = some u := by
        rcases HCe.out with h0 | h0
        · have := HmF.out; omega
        · exact h0
      obtain ⟨sv2, hsv2, hrow⟩ := FV.nth k HFV.out (by have := HmF.out; omega)
      obtain ⟨ad2, cp2, rfl⟩ := slice_form hsv2
      have hcell : ∀ j u, (rowV (f.nth k).op (f.nth k).st (f.nth k).lo (f.nth k).hi (f.nth k).g (.slice ad2 (f.nth k).args.len cp2))[j]? = some u → wr.cell? ⟨b, i0 + k * 9 + j, none⟩ = some u := fun j u hu => by
        rw [(HB.out.1.mv.bel HM.out).cell (by exact HS.out b hSb), Nat.add_assoc]
        exact hce _ u (hrow j u hu)
      have c0 := hcell 0 _ rfl
      have c1 := hcell 1 _ rfl
      have c2 := hcell 2 _ rfl
      have c3 := hcell 3 _ rfl
      have c4 := hcell 4 _ rfl
      have c5 := hcell 5 _ rfl
      have c6 := hcell 6 _ rfl
      have c7 := hcell 7 _ rfl
      have c8 := hcell 8 _ rfl
      rw [Nat.add_zero] at c0
      have HSV := Lib.hid (fun W (hW : Below P w W) => hsv2.far (T := S) (w' := W) ⟨hW.size, fun b h1 h2 => ⟨h1, hW.block b (HS.out b h1)⟩⟩)
      have HC := Lib.hid (fun W v' (Lx : List IN) (hN : WM W P v' Lx) (hW : Below P w W) (hlen : Lx.length + (codT (f.nth k) Lx.length).length ≤ 900000) => by
        have hw := wfC_nth f k HWf.out (by have := HmF.out; omega)
        have hf := F.fits_nth k HFt.out (by have := HmF.out; omega)
        exact HCh.out k (by have := HmF.out; omega) (f.nth k).op (f.nth k).lo (f.nth k).hi (f.nth k).g (f.nth k).st _ W S P v' Lx (HSV.out W hW) HS.out hN hw.1 hw.2 hf.1 hf.2 hlen)
      have hal := (Below.refl wr.heap.size wr).alloc (Nat.le_refl _) (.cells #[.int .i64 (f.nth k).op, .int .u64 (wd (f.nth k).st 0 64 : Nat), .int .u64 (wd (f.nth k).st 64 64 : Nat), .int .u64 (wd (f.nth k).st 128 64 : Nat), .int .u64 (wd (f.nth k).st 192 64 : Nat), .int .i64 (f.nth k).lo, .int .i64 (f.nth k).hi, .int .i64 (f.nth k).g, .slice ad2 (f.nth k).args.len cp2] 34)
      obtain ⟨W, hW⟩ : ∃ W, W = wr.alloc (.cells #[.int .i64 (f.nth k).op, .int .u64 (wd (f.nth k).st 0 64 : Nat), .int .u64 (wd (f.nth k).st 64 64 : Nat), .int .u64 (wd (f.nth k).st 128 64 : Nat), .int .u64 (wd (f.nth k).st 192 64 : Nat), .int .i64 (f.nth k).lo, .int .i64 (f.nth k).hi, .int .i64 (f.nth k).g, .slice ad2 (f.nth k).args.len cp2] 34) := ⟨_, rfl⟩
      have hWr : W.heap[wr.heap.size]? = some (.cells #[.int .i64 (f.nth k).op, .int .u64 (wd (f.nth k).st 0 64 : Nat), .int .u64 (wd (f.nth k).st 64 64 : Nat), .int .u64 (wd (f.nth k).st 128 64 : Nat), .int .u64 (wd (f.nth k).st 192 64 : Nat), .int .i64 (f.nth k).lo, .int .i64 (f.nth k).hi, .int .i64 (f.nth k).g, .slice ad2 (f.nth k).args.len cp2] 34 (0, 0)) := by rw [hW]; exact heap_alloc_new wr _
      rw [← hW] at hal
      have HR0 := Lib.hid (HR.out.below hal)
      have HWr := Lib.hid hWr
      have HW := Lib.hid hW
      obtain ⟨L2, hL2⟩ : ∃ L2, L2 = (L0 ++ [⟨2, noSet, 0, 0⟩]) ++ cc := ⟨_, rfl⟩
      have hL2n : L2.length = L0.length + 1 + cc.length := by rw [hL2]; simp; omega
      have HC1 : Hid (∀ W v', WM W P v' (L0 ++ [⟨2, noSet, 0, 0⟩]) → Below P w W → Calls Tryd.prog 41 #[.pointer (some ⟨P, 0, none⟩), .agg #[.int .i64 (f.nth k).op, .int .u64 (wd (f.nth k).st 0 64 : Nat), .int .u64 (wd (f.nth k).st 64 64 : Nat), .int .u64 (wd (f.nth k).st 128 64 : Nat), .int .u64 (wd (f.nth k).st 192 64 : Nat), .int .i64 (f.nth k).lo, .int .i64 (f.nth k).hi, .int .i64 (f.nth k).g, .slice ad2 (f.nth k).args.len cp2]] W fun e w' => e = .returned (.tuple #[]) ∧ ∃ v'', WM w' P v'' L2 ∧ Mv P v' W v'' w') := Lib.hid (fun W v' hN hW => by
        have e : (L0 ++ [(⟨2, noSet, 0, 0⟩ : IN)]).length = L0.length + 1 := by simp
        have h1 := HC.out W v' _ hN hW (by rw [e, HCc.out]; have := HBd.out; omega)
        have h2 : Calls Tryd.prog 41 #[.pointer (some ⟨P, 0, none⟩), .agg #[.int .i64 (f.nth k).op, .int .u64 (wd (f.nth k).st 0 64 : Nat), .int .u64 (wd (f.nth k).st 64 64 : Nat), .int .u64 (wd (f.nth k).st 128 64 : Nat), .int .u64 (wd (f.nth k).st 192 64 : Nat), .int .i64 (f.nth k).lo, .int .i64 (f.nth k).hi, .int .i64 (f.nth k).g, .slice ad2 (f.nth k).args.len cp2]] W fun e w' => e = .returned (.tuple #[]) ∧ ∃ v'', WM w' P v'' ((L0 ++ [⟨2, noSet, 0, 0⟩]) ++ codT (f.nth k) (L0 ++ [(⟨2, noSet, 0, 0⟩ : IN)]).length) ∧ Mv P v' W v'' w' := h1
        rw [e, HCc.out, ← hL2] at h2
        exact h2)
      have HCm : Hid (∀ W v', WM W P v' (L2 ++ [⟨3, noSet, 0, 0⟩]) → Calls Tryd.prog 59 #[.pointer (some ⟨P, 0, none⟩), .int .i64 (L0.length : Int)] W fun e w' => e = .returned (.tuple #[]) ∧ WM w' P v' (L0 ++ (sp ((L0.length + 1 : Nat) : Int) ((L0.length + cc.length + 2 : Nat) : Int) :: (cc ++ [jm 0]))) ∧ Mv P v' W v' w') := Lib.hid (fun W v' hN => by
        have e3 : L2 ++ [⟨3, noSet, 0, 0⟩] = L0 ++ sp 0 0 :: (cc ++ [jm 0]) := by rw [hL2]; simp [sp, jm]
        rw [e3] at hN
        have hs : L0.length < (L0 ++ sp 0 0 :: (cc ++ [jm 0])).length := by simp
        have hn : (L0 ++ sp 0 0 :: (cc ++ [jm 0])).length = L0.length + cc.length + 2 := by simp; omega
        have h1 := complete_any L0.length P v' _ W hN hs (by rw [hn]; have := HBd.out; omega)
        rw [set_split _ _ _ rfl, hn] at h1
        exact h1)
      have HL2n := Lib.hid hL2n
      clear hcell hce hrow hsv2 hSb hal hW hWr hL2 hL2n
      go_upto_region 5 with fail
      rw [← HW.out]
      clear c0 c1 c2 c3 c4 c5 c6 c7 c8
      go_upto_region 7 with (first
        | (go_at_call 42; (with_reducible refine (HA1.out _ _ _ HR0.out.wm (by have := HBd.out; omega)).mono ?_); rintro e w1 ⟨rfl, v2, hm, hv⟩
           have HR1 := Lib.hid (HR0.out.step HM.out hv hm)
           have hrow1 : w1.heap[wr.heap.size]? = some (.cells #[.int .i64 (f.nth k).op, .int .u64 (wd (f.nth k).st 0 64 : Nat), .int .u64 (wd (f.nth k).st 64 64 : Nat), .int .u64 (wd (f.nth k).st 128 64 : Nat), .int .u64 (wd (f.nth k).st 192 64 : Nat), .int .i64 (f.nth k).lo, .int .i64 (f.nth k).hi, .int .i64 (f.nth k).g, .slice ad2 (f.nth k).args.len cp2] 34 (0, 0)) := (hv.block HR0.out.wm (k := wr.heap.size) ((Array.getElem?_eq_some_iff.1 HWr.out).1) (by have := HLt.out; have := HR.out.mv.size; omega) (fun e => by have := (own_at HR.out.wm.own _ e).2; omega)).trans HWr.out
           obtain ⟨⟨⟨a0, a1, a2⟩, a3, a4, a5⟩, a6, a7, a8⟩ := nine hrow1
           have hlw1 : wr.heap.size < w1.heap.size := (Array.getElem?_eq_some_iff.1 hrow1).1
           clear hm hv hrow1)
        | (go_at_call 41; (with_reducible refine (HC1.out _ _ HR1.out.wm (HR1.out.mv.bel HM.out)).mono ?_); rintro e w2 ⟨rfl, v3, hm, hv⟩
           have HR2 := Lib.hid (HR1.out.step HM.out hv hm)
           clear hm hv a0 a1 a2 a3 a4 a5 a6 a7 a8 hlw1))
      go_upto_region 8 with (first
        | (go_at_call 42; (with_reducible refine (HA2.out _ _ _ HR2.out.wm (by have := HBd.out; rw [HL2n.out]; omega)).mono ?_); rintro e w3 ⟨rfl, v4, hm, hv⟩
           have HR3 := Lib.hid (HR2.out.step HM.out hv hm)
           clear hm hv)
        | (at_builtin; refine app1 w.heap.size 51 3 (.int .i64 0) 1 8 Tryd.underlying51 infoZ rfl (by decide) w3 rfl (.tmp 28) (.tmp 32) rfl HR3.out.mv.size (.slice jad J.length jcap) J.length (ints J) [.int .i64 (L2.length : Int)] rfl rfl HR3.out.own _ rfl rfl rfl ?d1 ?d2 ?d3 ?_))
      case d1 => simp [Value.oneCell']
      case d2 => have := HJ9.out; unfold maxLen; omega
      case d3 => have := HJ9.out; omega
      intro g0 cap0 w8 ho8 hk8 hg8
      have HR4 := Lib.hid (HR3.out.app HM.out ho8 hk8 hg8)
      clear ho8 hk8 hg8
      go_upto_region 8 with fail
      go_upto_region 9 with (first
        | (go_at_call 59; (with_reducible refine (HCm.out _ _ HR4.out.wm).mono ?_); rintro e w9 ⟨rfl, hm, hv⟩
           have HR5 := Lib.hid (HR4.out.step HM.out hv hm)
           clear hm hv))
      go_wp2_with fail
      go_roundw
      case rel =>
        refine ⟨k + 1, C ++ (sp ((L0.length + 1 : Nat) : Int) ((L0.length + cc.length + 2 : Nat) : Int) :: (cc ++ [jm 0])), J ++ [L2.length], v4, by omega, by go_num, Lib.hid ⟨?_, ?_, ?_⟩⟩
        · have := HR5.out
          rw [show ∀ X : List IN, L0 ++ X = L ++ (C ++ X) from fun X => by rw [HL0.out, List.append_assoc]] at this
          exact this
        · rw [HSt1.out]
          have e : L.length + (C ++ (sp ((L0.length + 1 : Nat) : Int) ((L0.length + cc.length + 2 : Nat) : Int) :: (cc ++ [jm 0]))).length = L0.length + cc.length + 2 := by rw [HL0.out]; simp; omega
          rw [e]
          simp
        · rw [HSt2.out]
          have e : L.length + (C ++ (sp ((L0.length + 1 : Nat) : Int) ((L0.length + cc.length + 2 : Nat) : Int) :: (cc ++ [jm 0]))).length = L0.length + cc.length + 2 := by rw [HL0.out]; simp; omega
          rw [e, HL2n.out]
          simp
      case measure => simp [intOf]; omega
    · obtain rfl : m = k := by omega
      have hst0a := HB.out.2.1
      have hst0b := HB.out.2.2
      rw [List.drop_eq_nil_of_le (by rw [HIl.out]; exact Nat.le_refl _)] at hst0a hst0b
      have hst1 : altP 0 ini L.length = C := by rw [hst0a]; simp [altP]
      have hst2 : posL ini L.length = J := by rw [hst0b]; simp [posL]
      obtain ⟨L0, hL0⟩ : ∃ L0, L0 = L ++ C := ⟨_, rfl⟩
      have hl0 : L0.length = L.length + C.length := by rw [hL0, List.length_append]
      obtain ⟨cc, hcc⟩ : ∃ cc, codT (f.nth m) L0.length = cc := ⟨_, rfl⟩
      have hbd : L0.length + cc.length ≤ 900000 := by
        have h1 := HL.out
        rw [hst1, ← hl0, hcc] at h1
        exact h1
      obtain ⟨L5, hL5⟩ : ∃ L5, L5 = L0 ++ cc := ⟨_, rfl⟩
      have hl5 : L5.length = L0.length + cc.length := by rw [hL5, List.length_append]
      have hJlt : ∀ j, j ∈ J → j < L5.length := fun j hj => by
        rw [← hst2] at hj
        have := posL_lt _ _ _ hj
        rw [hst1] at this
        omega
      have hJ9 : J.length ≤ 450000 := by
        rw [← hst2, posL_length, HIl.out]
        exact hm9
      have hfin : J.foldl (setX (L5.length : Int)) L5 = L ++ altE ini (codT (f.nth m)) L.length := by
        have h1 := patchX (L5.length : Int) 0 ini L.length L cc rfl
        rw [hst1, hst2] at h1
        rw [hL5] at h1 ⊢
        rw [show L0 ++ cc = L ++ (C ++ cc) by rw [hL0, List.append_assoc], ← show L0 ++ cc = L ++ (C ++ cc) by rw [hL0, List.append_assoc]] at *
        unfold altE
        rw [hst1, ← hl0, hcc, ← hl5, hL5, ← h1, hL0, List.append_assoc]
      have HFin := Lib.hid hfin
      have HJlt := Lib.hid hJlt
      have HJ9 := Lib.hid hJ9
      have HBd := Lib.hid hbd
      have HL5n := Lib.hid hl5
      have HR := Lib.hid HB.out.1
      rw [← hL0] at HR
      obtain ⟨b, i0, rfl, hSb, hbl, hce⟩ : ∃ b i, ad = some ⟨b, i, none⟩ ∧ S b ∧ b < w.heap.size ∧ ∀ j u, zs[j]? = some u → w.cell? ⟨b, i + j, none⟩ = some u := by
        rcases HCe.out with h0 | h0
        · have := HmF.out; omega
        · exact h0
      obtain ⟨sv2, hsv2, hrow⟩ := FV.nth m HFV.out (by have := HmF.out; omega)
      obtain ⟨ad2, cp2, rfl⟩ := slice_form hsv2
      have hcell : ∀ j u, (rowV (f.nth m).op (f.nth m).st (f.nth m).lo (f.nth m).hi (f.nth m).g (.slice ad2 (f.nth m).args.len cp2))[j]? = some u → wr.cell? ⟨b, i0 + m * 9 + j, none⟩ = some u := fun j u hu => by
        rw [(HB.out.1.mv.bel HM.out).cell (by exact HS.out b hSb), Nat.add_assoc]
        exact hce _ u (hrow j u hu)
      have c0 := hcell 0 _ rfl
      have c1 := hcell 1 _ rfl
      have c2 := hcell 2 _ rfl
      have c3 := hcell 3 _ rfl
      have c4 := hcell 4 _ rfl
      have c5 := hcell 5 _ rfl
      have c6 := hcell 6 _ rfl
      have c7 := hcell 7 _ rfl
      have c8 := hcell 8 _ rfl
      rw [Nat.add_zero] at c0
      have HSV := Lib.hid (fun W (hW : Below P w W) => hsv2.far (T := S) (w' := W) ⟨hW.size, fun b h1 h2 => ⟨h1, hW.block b (HS.out b h1)⟩⟩)
      have HC := Lib.hid (fun W v' (Lx : List IN) (hN : WM W P v' Lx) (hW : Below P w W) (hlen : Lx.length + (codT (f.nth m) Lx.length).length ≤ 900000) => by
        have hw := wfC_nth f m HWf.out (by have := HmF.out; omega)
        have hf := F.fits_nth m HFt.out (by have := HmF.out; omega)
        exact HCh.out m (by have := HmF.out; omega) (f.nth m).op (f.nth m).lo (f.nth m).hi (f.nth m).g (f.nth m).st _ W S P v' Lx (HSV.out W hW) HS.out hN hw.1 hw.2 hf.1 hf.2 hlen)
      have HC1 : Hid (∀ W v', WM W P v' L0 → Below P w W → Calls Tryd.prog 41 #[.pointer (some ⟨P, 0, none⟩), .agg #[.int .i64 (f.nth m).op, .int .u64 (wd (f.nth m).st 0 64 : Nat), .int .u64 (wd (f.nth m).st 64 64 : Nat), .int .u64 (wd (f.nth m).st 128 64 : Nat), .int .u64 (wd (f.nth m).st 192 64 : Nat), .int .i64 (f.nth m).lo, .int .i64 (f.nth m).hi, .int .i64 (f.nth m).g, .slice ad2 (f.nth m).args.len cp2]] W fun e w' => e = .returned (.tuple #[]) ∧ ∃ v'', WM w' P v'' L5 ∧ Mv P v' W v'' w') := Lib.hid (fun W v' hN hW => by
        have h1 := HC.out W v' _ hN hW (by rw [hcc]; exact hbd)
        have h2 : Calls Tryd.prog 41 #[.pointer (some ⟨P, 0, none⟩), .agg #[.int .i64 (f.nth m).op, .int .u64 (wd (f.nth m).st 0 64 : Nat), .int .u64 (wd (f.nth m).st 64 64 : Nat), .int .u64 (wd (f.nth m).st 128 64 : Nat), .int .u64 (wd (f.nth m).st 192 64 : Nat), .int .i64 (f.nth m).lo, .int .i64 (f.nth m).hi, .int .i64 (f.nth m).g, .slice ad2 (f.nth m).args.len cp2]] W fun e w' => e = .returned (.tuple #[]) ∧ ∃ v'', WM w' P v'' (L0 ++ codT (f.nth m) L0.length) ∧ Mv P v' W v'' w' := h1
        rw [hcc, ← hL5] at h2
        exact h2)
      have ki : (m : Int) < (m : Int) + 1 := by omega
      clear hcell hce hrow hsv2 hSb hst1 hst2 hst0a hst0b hL0 hl0 hcc hbd hL5 hl5 hJlt hJ9 hfin
      go_upto_region 11 with (first
        | (go_at_call 41; (with_reducible refine (HC1.out _ _ HR.out.wm (HR.out.mv.bel HM.out)).mono ?_); rintro e w2 ⟨rfl, v5, hm, hv⟩
           have HR5 := Lib.hid (HR.out.step HM.out hv hm)
           clear hm hv c0 c1 c2 c3 c4 c5 c6 c7 c8))
      go_wp2_with fail
      go_loopw [46] (fun i wr => ∃ (k : Nat), k ≤ J.length ∧ i = .int .i64 k ∧ Hid (AR w P v v5 wr ((J.take k).foldl (setX (L5.length : Int)) L5) (.slice jad J.length jcap) J)) (fun i _ => J.length - (intOf i).toNat)
      case atStart => exact ⟨0, Nat.zero_le _, rfl, Lib.hid (by rw [List.take_zero, List.foldl_nil]; exact HR5.out)⟩
      case round =>
        obtain ⟨q, hq, rfl, HQ⟩ := hrel
        by_cases hqn : q < J.length
        · have kq : (q : Int) < J.length := by omega
          have kq0 : (0 : Int) ≤ q := by omega
          have kq9 : (q : Int) ≤ 450000 := by have := HJ9.out; omega
          obtain ⟨gj, cj, hs⟩ := own_more HQ.out.own (by omega)
          cases hs
          have hcc0 := HQ.out.own.cellAt q (by omega)
          have hc : wr.cell? ⟨gj, q, none⟩ = some (.int .i64 ((J[q] : Nat) : Int)) := by
            rw [hcc0]
            unfold ints
            rw [List.getElem?_map, List.getElem?_eq_getElem hqn]
            rfl
          obtain ⟨Lk, hLk⟩ : ∃ Lk, Lk = (J.take q).foldl (setX (L5.length : Int)) L5 := ⟨_, rfl⟩
          have hlk : Lk.length = L5.length := by rw [hLk, setXs_len]
          have hnext : (J.take (q + 1)).foldl (setX (L5.length : Int)) L5 = setX (L5.length : Int) Lk J[q] := by
            rw [List.take_succ_eq_append_getElem hqn, List.foldl_append, ← hLk]
            rfl
          have hjl := HJlt.out _ (List.getElem_mem hqn)
          have HQ2 := Lib.hid HQ.out
          rw [← hLk] at HQ2
          generalize J[q] = j at *
          obtain ⟨g, cap2, rfl⟩ := own_more HQ2.out.wm.own (by omega)
          have hjk : j < Lk.length := by omega
          rw [setX_at _ _ _ hjk] at hnext
          have cX : wr.cell? ⟨g, j * 7 + 5, none⟩ = some (.int .i64 (Lk[j]).x) := HQ2.out.wm.at j hjk 5 (by decide)
          have fX : wr.frozen? ⟨g, j * 7 + 5, none⟩ = false := HQ2.out.wm.own.frozenAt _
          have hp := HQ2.out.wm.cell
          obtain ⟨m1, k1⟩ := HQ2.out.wm.put hjk (j := 5) (by decide) (.int .i64 (L5.length : Int)) ⟨(Lk[j]).op, (Lk[j]).st, (L5.length : Int), (Lk[j]).y⟩ rfl
          have HS1 := Lib.hid m1.cell
          have HNx : Hid (AR w P v _ _ (Lk.set j ⟨(Lk[j]).op, (Lk[j]).st, (L5.length : Int), (Lk[j]).y⟩) _ J) := Lib.hid (HQ2.out.step HM.out ⟨k1, fun _ e => .inl e⟩ m1)
          rw [← hnext] at HNx
          have HN := Lib.hid (fun W (hW : WM W P (.slice (some ⟨g, 0, none⟩) Lk.length cap2) Lk) => next_any P _ Lk W hW)
          rw [hlk] at HN HS1 hp HQ2 m1
          have HNx2 : Hid (q + 1 ≤ J.length ∧ J.length - (q + 1) < J.length - q) := Lib.hid (by omega)
          have j0 : (0 : Int) ≤ (j : Int) := by omega
          have j1 : (j : Int) < (L5.length : Int) := by omega
          generalize (Lk[j]).x = x0 at cX
          clear m1 k1 hnext hLk hjl hlk hjk hcc0
          go_upto_region 14 with fail
          refine wp_region_held_drew (S := fun w' => w'.cell? ⟨P, 0, none⟩ = some (.slice (some ⟨g, 0, none⟩) L5.length cap2)) (by kernel_rfl) ?_ (fun hHeld => ?_)
          · exact hp
          refine wpAnyH_take (i := 0) (v := ?cv0) rfl (by kernel_rfl) (by kernel_rfl) (by kernel_rfl) (fun _ _ _ h => h) (Or.inl ⟨by rfl, ?cy0⟩) (by assumption) ?cr0
          case cy0 =>
            intro wx hSw
            go_simp
            first | done | (with_reducible rfl)
          (try simp only [Act.put, List.getElem_toArray, List.getElem_cons_succ, List.getElem_cons_zero, List.setIfInBounds_toArray, List.set_cons_zero, List.set_cons_succ])
          refine wpAnyH_take (i := 1) (v := ?cv1) rfl (by kernel_rfl) (by kernel_rfl) (by kernel_rfl) (fun _ _ _ h => h) (Or.inl ⟨by rfl, ?cy1⟩) (by assumption) ?cr1
          case cy1 =>
            intro wx hSw
            go_simp
            first | done | (with_reducible rfl)
          (try simp only [Act.put, List.getElem_toArray, List.getElem_cons_succ, List.getElem_cons_zero, List.setIfInBounds_toArray, List.set_cons_zero, List.set_cons_succ])
          refine wpAnyH_take (i := 2) (v := ?cv2) rfl (by kernel_rfl) (by kernel_rfl) (by kernel_rfl) (fun _ _ _ h => h) (Or.inl ⟨by rfl, ?cy2⟩) (by assumption) ?cr2
          case cy2 =>
            intro wx hSw
            go_simp
            first | done | (with_reducible rfl)
          (try simp only [Act.put, List.getElem_toArray, List.getElem_cons_succ, List.getElem_cons_zero, List.setIfInBounds_toArray, List.set_cons_zero, List.set_cons_succ])
          refine wpAnyH_take (i := 3) (v := ?cv3) rfl (by kernel_rfl) (by kernel_rfl) (by kernel_rfl) (fun _ _ _ h => h) (Or.inl ⟨by rfl, ?cy3⟩) (by assumption) ?cr3
          case cy3 =>
            intro wx hSw
            go_simp
            first | done | (with_reducible rfl)
          (try simp only [Act.put, List.getElem_toArray, List.getElem_cons_succ, List.getElem_cons_zero, List.setIfInBounds_toArray, List.set_cons_zero, List.set_cons_succ])
          refine wpAnyH_take (i := 4) (v := ?cv4) rfl (by kernel_rfl) (by kernel_rfl) (by kernel_rfl) (fun _ _ _ h => h) (Or.inl ⟨by rfl, ?cy4⟩) (by assumption) ?cr4
          case cy4 =>
            intro wx hSw
            go_simp
            first | done | (with_reducible rfl)
          (try simp only [Act.put, List.getElem_toArray, List.getElem_cons_succ, List.getElem_cons_zero, List.setIfInBounds_toArray, List.set_cons_zero, List.set_cons_succ])
          refine wpAnyH_take (i := 5) (v := ?cv5) rfl (by kernel_rfl) (by kernel_rfl) (by kernel_rfl) (fun _ _ _ h => h) (Or.inl ⟨by rfl, ?cy5⟩) (by assumption) ?cr5
          case cy5 =>
            intro wx hSw
            go_simp
            first | done | (with_reducible rfl)
          (try simp only [Act.put, List.getElem_toArray, List.getElem_cons_succ, List.getElem_cons_zero, List.setIfInBounds_toArray, List.set_cons_zero, List.set_cons_succ])
          refine wpAnyH_ready (rs := [6]) (by kernel_rfl) (by simp) ?_
          refine AllReadyH.cons rfl (fun K hK => ?_) AllReadyH.nil
          go_simp
          go_at_call 60
          (with_reducible refine (HN.out _ HQ2.out.wm.drew).mono ?_)
          rintro e w1 ⟨rfl, rfl⟩
          refine hK.out _ _ ?_ (fun hHeld1 => ?_)
          · assumption
          clear hK K
          (try simp only [Act.put, List.getElem_toArray, List.getElem_cons_succ, List.getElem_cons_zero, List.setIfInBounds_toArray, List.set_cons_zero, List.set_cons_succ])
          refine wpAnyH_take (i := 7) (v := ?cv7) rfl (by kernel_rfl) (by kernel_rfl) (by kernel_rfl) (fun _ _ _ h => h) (Or.inl ⟨by rfl, ?cy7⟩) (by assumption) ?cr7
          case cy7 =>
            intro wx hSw
            go_simp
            first | done | (with_reducible rfl)
          (try simp only [Act.put, List.getElem_toArray, List.getElem_cons_succ, List.getElem_cons_zero, List.setIfInBounds_toArray, List.set_cons_zero, List.set_cons_succ])
          refine wpAnyH_take (i := 8) (v := ?cv8) rfl (by kernel_rfl) (by kernel_rfl) (by kernel_rfl) (fun _ _ _ h => h) (Or.inl ⟨by rfl, ?cy8⟩) (by assumption) ?cr8
          case cy8 =>
            intro wx hSw
            go_simp
            first | done | (with_reducible rfl)
          (try simp only [Act.put, List.getElem_toArray, List.getElem_cons_succ, List.getElem_cons_zero, List.setIfInBounds_toArray, List.set_cons_zero, List.set_cons_succ])
          refine wpAnyH_ready (rs := [9]) (by kernel_rfl) (by simp) ?_
          refine AllReadyH.cons rfl (fun K hK => ?_) AllReadyH.nil
          go_simp
          refine hK.out _ _ ?_ (fun hHeld2 => ?_)
          · exact HS1.out
          clear hK K
          (try simp only [Act.put, List.getElem_toArray, List.getElem_cons_succ, List.getElem_cons_zero, List.setIfInBounds_toArray, List.set_cons_zero, List.set_cons_succ])
          refine wpAnyH_done (by kernel_rfl) ?_ _
          go_wp2_with fail
          go_roundw
          case rel => exact ⟨q + 1, HNx2.out.1, by go_num, Lib.hid HNx.out.drew⟩
          case measure => have := HNx2.out; simp [intOf]; omega
        · obtain rfl : q = J.length := by omega
          have hend := HQ.out
          rw [List.take_of_length_le (Nat.le_refl _), HFin.out] at hend
          have HEnd := Lib.hid hend
          clear hend
          go_wp2_with fail
          go_end0
          exact ⟨rfl, v5, HEnd.out.wm, HEnd.out.mv⟩
end Go.Proofs.YtbjobbkipmkndaaDoor
