/- The program's union of ranges. (Written by gen_union.py.) -/
import Derived.Test.YtblaldcioneooaaDoorRows
import Derived.Test.YtblaldcioneooaaDoorLpWeigh
set_option linter.unusedVariables false
namespace Go.Proofs.YtblaldcioneooaaDoor
open Go.RowKit

/-- The bytes of all ranges. -/
def uniL : List UInt8 → Nat → Bool
  | a :: b :: r => fun c => between a.toNat b.toNat c || uniL r c
  | _ => fun _ => false
theorem uniL_two (l : List UInt8) (h : 2 ≤ l.length) (c : Nat) : uniL l c = (between (l[0]).toNat (l[1]).toNat c || uniL (l.drop 2) c) := by
  match l, h with
  | [], h => simp at h
  | [a], h => simp at h
  | a :: b :: r, _ => rfl
theorem uniL_cut (s : ByteArray) (h : 2 ≤ s.size) (c : Nat) : uniL s.data.toList c = (between s[0].toNat s[1].toNat c || uniL (s.data.toList.drop 2) c) :=
  uniL_two s.data.toList (by rw [size_data]; exact h) c
/-- The blocks of union. -/
def UN (B : Nat) (w0 w : World) (p : Nat → Bool) : Prop := Below B w0 w ∧ At w B (fun _ => false) ∧ At w (B + 1) p
theorem UN.start (w : World) : UN w.heap.size w ((w.alloc (.cells #[.int .u64 0, .int .u64 0, .int .u64 0, .int .u64 0] 38)).alloc (.cells #[.int .u64 0, .int .u64 0, .int .u64 0, .int .u64 0] 38)) (fun _ => false) := by
  rw [cl_zero]
  refine ⟨((Below.refl _ _).alloc (Nat.le_refl _) _).alloc (by simp) _, (At.new w _).alloc _, ?_⟩
  have := At.new (w.alloc (.cells (cl fun _ => false) 38)) (fun _ => false)
  simpa using this
theorem UN.keep {B : Nat} {w0 w w' : World} {p : Nat → Bool} (h : UN B w0 w p) (hB : w0.heap.size = B) (hb : Below w.heap.size w w') : UN B w0 w' p :=
  ⟨h.1.trans (hb.mono (by have := h.1.size; omega)), h.2.1.below hb h.2.1.lt, h.2.2.below hb h.2.2.lt⟩
theorem UN.set {B : Nat} {w0 w : World} {p : Nat → Bool} (h : UN B w0 w p) (q : Nat → Bool) : UN B w0 (w.setRow (B + 1) (cl q)) q :=
  ⟨below_setRow h.1 (Nat.le_succ _) _, h.2.1.other _ (by omega), h.2.2.set q⟩
theorem UN.drew {B : Nat} {w0 w : World} {p : Nat → Bool} (h : UN B w0 w p) : UN B w0 w.drew p := ⟨h.1.drew, h.2.1, h.2.2⟩

set_option maxRecDepth 100000 in
set_option maxHeartbeats 8000000 in
theorem punion_any (s : ByteArray) (m : Nat) (hs : s.size = 2 * m) (hs2 : s.size ≤ 4294967280) (w : World) :
    Calls Tryd.prog 61 #[.string s] w fun e w' => e = .returned (cs (uniL s.data.toList)) ∧ Below w.heap.size w w' := by
  have H0 := Lib.hid (UN.start w)
  obtain ⟨R, hR⟩ : ∃ R, uniL s.data.toList = R := ⟨_, rfl⟩
  rw [hR]
  have HR := Lib.hid hR
  clear hR
  have HS := Lib.hid hs
  clear hs
  unfold cs
  go_enter Tryd.func61, Tryd.ntmps61
  go_wp2
  go_loopw [0] (fun r wr => ∃ (x : ByteArray) (p : Nat → Bool) (k : Nat), r = .string x ∧ x.size ≤ 4294967280 ∧ Hid (x.size = 2 * k) ∧ Hid (∀ c, (p c || uniL x.data.toList c) = R c) ∧ Hid (UN w.heap.size w wr p)) (fun r _ => match r with | .string x => x.size | _ => 0)
  case atStart => exact ⟨s, _, m, rfl, hs2, HS.out, fun c => by rw [HR.out]; rfl, H0.out⟩
  case round =>
    obtain ⟨x, p, k, rfl, hx2, HK, HP, HU⟩ := hrel
    by_cases hx : 0 < x.size
    · have ex := lisEmpty_no x hx
      have h2 : 2 ≤ x.size := by have := HK.out; omega
      have i1 : (1 : Int) < x.size := by omega
      have i2 : (2 : Int) ≤ x.size := by omega
      have HC := Lib.hid (uniL_cut x h2)
      have HDx := Lib.hid (drop_data x 2)
      have HZx := Lib.hid (drop_size x 2)
      obtain ⟨a, ha⟩ : ∃ a, x[0].toNat = a := ⟨_, rfl⟩
      obtain ⟨b, hb⟩ : ∃ b, x[1].toNat = b := ⟨_, rfl⟩
      have a256 : a < 256 := by rw [← ha]; exact x[0].toNat_lt
      have b256 : b < 256 := by rw [← hb]; exact x[1].toNat_lt
      rw [ha, hb] at HC
      have HRg := Lib.hid (range_any a b a256 b256)
      have HUn := Lib.hid (union_any p (between a b))
      unfold cs cl at HRg HUn
      obtain ⟨⟨c0, c1⟩, ⟨c2, c3⟩, hf⟩ := HU.out.2.2.words
      have HUd := Lib.hid HU.out.drew
      clear hf a256 b256
      go_wp2
      refine wp_region_held_drew (S := fun _ => True) (by kernel_rfl) ?_ (fun hHeld => ?_)
      · trivial
      refine wpAnyH_take (i := 1) (v := ?av1) rfl (by kernel_rfl) (by kernel_rfl) (by kernel_rfl) (fun _ _ _ h => h) (Or.inl ⟨by rfl, ?ay1⟩) (by assumption) ?ar1
      case ay1 =>
        intro wx hSw
        clear hSw
        go_simp
        first | done | (with_reducible rfl)
      (try simp only [Act.put, List.getElem_toArray, List.getElem_cons_succ, List.getElem_cons_zero, List.setIfInBounds_toArray, List.set_cons_zero, List.set_cons_succ])
      refine wpAnyH_take (i := 2) (v := ?av2) rfl (by kernel_rfl) (by kernel_rfl) (by kernel_rfl) (fun _ _ _ h => h) (Or.inl ⟨by rfl, ?ay2⟩) (by assumption) ?ar2
      case ay2 =>
        intro wx hSw
        clear hSw
        go_simp
        first | done | (with_reducible rfl)
      (try simp only [Act.put, List.getElem_toArray, List.getElem_cons_succ, List.getElem_cons_zero, List.setIfInBounds_toArray, List.set_cons_zero, List.set_cons_succ])
      refine wpAnyH_take (i := 3) (v := ?av3) rfl (by kernel_rfl) (by kernel_rfl) (by kernel_rfl) (fun _ _ _ h => h) (Or.inl ⟨by rfl, ?ay3⟩) (by assumption) ?ar3
      case ay3 =>
        intro wx hSw
        clear hSw
        go_simp
        first | done | (with_reducible rfl)
      (try simp only [Act.put, List.getElem_toArray, List.getElem_cons_succ, List.getElem_cons_zero, List.setIfInBounds_toArray, List.set_cons_zero, List.set_cons_succ])
      refine wpAnyH_take (i := 4) (v := ?av4) rfl (by kernel_rfl) (by kernel_rfl) (by kernel_rfl) (fun _ _ _ h => h) (Or.inl ⟨by rfl, ?ay4⟩) (by assumption) ?ar4
      case ay4 =>
        intro wx hSw
        clear hSw
        go_simp
        first | done | (with_reducible rfl)
      (try simp only [Act.put, List.getElem_toArray, List.getElem_cons_succ, List.getElem_cons_zero, List.setIfInBounds_toArray, List.set_cons_zero, List.set_cons_succ])
      refine wpAnyH_ready (rs := [0, 5]) (by kernel_rfl) (by simp) ?_
      refine AllReadyH.cons rfl (fun K hK => ?_) (AllReadyH.cons rfl (fun K hK => ?_) AllReadyH.nil)
      · go_simp
        refine hK.out _ _ ?_ (fun hHeld1 => ?_)
        · trivial
        clear hK K
        (try simp only [Act.put, List.getElem_toArray, List.getElem_cons_zero, List.setIfInBounds_toArray, List.set_cons_zero, List.set_cons_succ])
        refine wpAnyH_ready (rs := [5]) (by kernel_rfl) (by simp) ?_
        refine AllReadyH.cons rfl (fun K hK => ?_) AllReadyH.nil
        go_simp
        go_at_call 85
        refine (HRg.out _).mono ?_
        rintro e w3 ⟨rfl, hbl⟩
        have HU3 := Lib.hid (HUd.out.keep rfl hbl)
        clear hbl
        refine hK.out _ _ ?_ (fun hHeld9 => ?_)
        · trivial
        clear hK K
        (try simp only [Act.put, List.getElem_toArray, List.getElem_cons_succ, List.getElem_cons_zero, List.setIfInBounds_toArray, List.set_cons_zero, List.set_cons_succ])
        refine wpAnyH_ready (rs := [6]) (by kernel_rfl) (by simp) ?_
        refine AllReadyH.cons rfl (fun K hK => ?_) AllReadyH.nil
        go_simp
        go_at_call 84
        refine (HUn.out _).mono ?_
        rintro e w4 ⟨rfl, hbl⟩
        have HU4 := Lib.hid (HU3.out.keep rfl hbl)
        clear hbl
        refine hK.out _ _ ?_ (fun hHeld2 => ?_)
        · trivial
        clear hK K
        (try simp only [Act.put, List.getElem_toArray, List.getElem_cons_succ, List.getElem_cons_zero, List.setIfInBounds_toArray, List.set_cons_zero, List.set_cons_succ])
        refine wpAnyH_ready (rs := [7]) (by kernel_rfl) (by simp) ?_
        refine AllReadyH.cons rfl (fun K hK => ?_) AllReadyH.nil
        rw [if_pos (by rfl)]
        refine wp_store_row 38 _ _ rfl (w.heap.size + 1) (cl fun c => p c || between a b c) rfl rfl 38 _ HU4.out.2.2 info_cs rfl (cl_one _) ?_
        refine hK.out _ _ ?_ (fun hHeld3 => ?_)
        · trivial
        clear hK K
        (try simp only [Act.put, List.getElem_toArray, List.getElem_cons_succ, List.getElem_cons_zero])
        refine wpAnyH_done (by kernel_rfl) ?_ _
        go_wp2
        go_roundw
        case rel =>
          refine ⟨x.extract 2 x.size, fun c => p c || between a b c, k - 1, rfl, ?_, ?_, ?_, HU4.out.set _⟩
          · rw [HZx.out]; omega
          · show _ = _
            rw [HZx.out, HK.out]; omega
          · show ∀ c, _
            intro c
            rw [HDx.out, ← HP.out c, HC.out c, Bool.or_assoc]
        case measure =>
          have := HZx.out
          simp only [this]
          omega
      · go_simp
        go_at_call 85
        refine (HRg.out _).mono ?_
        rintro e w3 ⟨rfl, hbl⟩
        have HU3 := Lib.hid (HUd.out.keep rfl hbl)
        clear hbl c0 c1 c2 c3
        obtain ⟨⟨c0, c1⟩, ⟨c2, c3⟩, hf⟩ := HU3.out.2.2.words
        clear hf
        refine hK.out _ _ ?_ (fun hHeld9 => ?_)
        · trivial
        clear hK K
        (try simp only [Act.put, List.getElem_toArray, List.getElem_cons_succ, List.getElem_cons_zero, List.setIfInBounds_toArray, List.set_cons_zero, List.set_cons_succ])
        refine wpAnyH_ready (rs := [0]) (by kernel_rfl) (by simp) ?_
        refine AllReadyH.cons rfl (fun K hK => ?_) AllReadyH.nil
        go_simp
        refine hK.out _ _ ?_ (fun hHeld1 => ?_)
        · trivial
        clear hK K
        (try simp only [Act.put, List.getElem_toArray, List.getElem_cons_zero, List.setIfInBounds_toArray, List.set_cons_zero, List.set_cons_succ])
        refine wpAnyH_ready (rs := [6]) (by kernel_rfl) (by simp) ?_
        refine AllReadyH.cons rfl (fun K hK => ?_) AllReadyH.nil
        go_simp
        go_at_call 84
        refine (HUn.out _).mono ?_
        rintro e w4 ⟨rfl, hbl⟩
        have HU4 := Lib.hid (HU3.out.keep rfl hbl)
        clear hbl
        refine hK.out _ _ ?_ (fun hHeld2 => ?_)
        · trivial
        clear hK K
        (try simp only [Act.put, List.getElem_toArray, List.getElem_cons_succ, List.getElem_cons_zero, List.setIfInBounds_toArray, List.set_cons_zero, List.set_cons_succ])
        refine wpAnyH_ready (rs := [7]) (by kernel_rfl) (by simp) ?_
        refine AllReadyH.cons rfl (fun K hK => ?_) AllReadyH.nil
        rw [if_pos (by rfl)]
        refine wp_store_row 38 _ _ rfl (w.heap.size + 1) (cl fun c => p c || between a b c) rfl rfl 38 _ HU4.out.2.2 info_cs rfl (cl_one _) ?_
        refine hK.out _ _ ?_ (fun hHeld3 => ?_)
        · trivial
        clear hK K
        (try simp only [Act.put, List.getElem_toArray, List.getElem_cons_succ, List.getElem_cons_zero])
        refine wpAnyH_done (by kernel_rfl) ?_ _
        go_wp2
        go_roundw
        case rel =>
          refine ⟨x.extract 2 x.size, fun c => p c || between a b c, k - 1, rfl, ?_, ?_, ?_, HU4.out.set _⟩
          · rw [HZx.out]; omega
          · show _ = _
            rw [HZx.out, HK.out]; omega
          · show ∀ c, _
            intro c
            rw [HDx.out, ← HP.out c, HC.out c, Bool.or_assoc]
        case measure =>
          have := HZx.out
          simp only [this]
          omega
    · have hx0 : x.size = 0 := by omega
      have ex := isEmpty_yes x hx0
      have hlx : x.data.toList = [] := List.eq_nil_of_length_eq_zero (by rw [size_data]; exact hx0)
      have hpR : p = R := by
        funext c
        have := HP.out c
        rw [hlx] at this
        rw [← this]
        show p c = (p c || false)
        rw [Bool.or_false]
      subst hpR
      have HU1 := Lib.hid HU.out
      obtain ⟨⟨c0, c1⟩, ⟨c2, c3⟩, hf⟩ := HU.out.2.2.words
      obtain ⟨⟨d0, d1⟩, ⟨d2, d3⟩, hg⟩ := HU.out.2.1.words
      clear hx0 hlx hx
      go_wp2
      exact bodyPost_ret (v := cs p) (ret_cs (q := p) Tryd.results61 _ _ w.heap.size (by simp) (HU1.out.2.1.put4 _)) rfl ⟨rfl, below_put4 HU1.out.1 _ (Nat.le_refl _) _⟩
end Go.Proofs.YtblaldcioneooaaDoor
