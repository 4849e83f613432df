/- RpTxS. -/
import Derived.Test.YtbjobbkipmkndaaDoorPp23
import Derived.Deep.QuietTactic
import Derived.BigQuiet
import Derived.BigGuardPart
import Derived.Lib.IndexBytes
set_option linter.unusedVariables false
set_option linter.unusedSimpArgs false
set_option maxRecDepth 100000
set_option maxHeartbeats 8000000
namespace Go.Proofs.YtbjobbkipmkndaaDoor
open Go.RowKit
theorem bsize (s : ByteArray) : s.size = s.data.toList.length := by rw [Array.length_toList]; rfl
def sub (p : Nat → Bool) (b : Nat) : List Nat := (List.range' b (256 - b)).filter p
theorem sub_all (p : Nat → Bool) : sub p 0 = el p 256 := by unfold sub el; rw [List.range_eq_range']
theorem sub_cons (b : Nat) (h : b < 256) : List.range' b (256 - b) = b :: List.range' (b + 1) (256 - (b + 1)) := by
  rw [show 256 - b = (256 - (b + 1)) + 1 by omega, List.range'_succ]
theorem sub_yes {p : Nat → Bool} {b : Nat} (h : b < 256) (hp : p b = true) : sub p b = b :: sub p (b + 1) := by
  unfold sub; rw [sub_cons b h, List.filter_cons_of_pos hp]
theorem sub_no {p : Nat → Bool} {b : Nat} (h : b < 256) (hp : p b = false) : sub p b = sub p (b + 1) := by
  unfold sub; rw [sub_cons b h, List.filter_cons_of_neg (by simp [hp])]
theorem sub_end (p : Nat → Bool) : sub p 256 = [] := rfl
theorem sub_mem {p : Nat → Bool} {b x : Nat} (h : x ∈ sub p b) : b ≤ x ∧ x < 256 ∧ p x = true := by
  unfold sub at h
  rw [List.mem_filter, List.mem_range'_1] at h
  exact ⟨h.1.1, by omega, h.2⟩
theorem sub_nxt (p : Nat → Bool) : ∀ d b, b + d = 256 → ∃ a, b ≤ a ∧ a ≤ 256 ∧ (∀ c, b ≤ c → c < a → p c = false) ∧ (a = 256 ∨ p a = true) ∧ sub p b = sub p a
  | 0, b, h => ⟨b, Nat.le_refl _, by omega, fun c h1 h2 => by omega, .inl (by omega), rfl⟩
  | d + 1, b, h => by
    by_cases hp : p b = true
    · exact ⟨b, Nat.le_refl _, by omega, fun c h1 h2 => by omega, .inr hp, rfl⟩
    · have hp : p b = false := by simpa using hp
      obtain ⟨a, h1, h2, h3, h4, h5⟩ := sub_nxt p d (b + 1) (by omega)
      refine ⟨a, by omega, h2, fun c c1 c2 => ?_, h4, by rw [sub_no (by omega) hp, h5]⟩
      by_cases hc : c = b
      · rw [hc]; exact hp
      · exact h3 c (by omega) c2
theorem sub_run {p : Nat → Bool} {a e : Nat} (h : Run p a e) : ∀ j, a + j ≤ e + 1 → sub p a = List.range' a j ++ sub p (a + j)
  | 0, _ => rfl
  | j + 1, hj => by
    have ht := h.top
    rw [sub_run h j (by omega), sub_yes (b := a + j) (by omega) (h.all (a + j) (by omega) (by omega)), List.range'_concat]
    simp [Nat.add_assoc]
theorem run_get {p : Nat → Bool} {a e : Nat} (h : Run p a e) (j : Nat) (hj : a + j ≤ e) : (sub p a)[j]? = some (a + j) := by
  have ht := h.top
  rw [sub_run h j (by omega), sub_yes (b := a + j) (by omega) (h.all (a + j) (by omega) (by omega))]
  rw [List.getElem?_append_right (by simp), List.length_range', Nat.sub_self]
  rfl
theorem run_drop {p : Nat → Bool} {a e : Nat} (h : Run p a e) : (sub p a).drop (e + 1 - a) = sub p (e + 1) := by
  have hl := h.le
  have := sub_run h (e + 1 - a) (by omega)
  rw [show a + (e + 1 - a) = e + 1 by omega] at this
  rw [this, List.drop_append_of_le_length (by simp), List.drop_of_length_le (by simp), List.nil_append]
theorem run_len {p : Nat → Bool} {a e : Nat} (h : Run p a e) : (sub p a).length = (e + 1 - a) + (sub p (e + 1)).length := by
  have hl := h.le
  have := sub_run h (e + 1 - a) (by omega)
  rw [show a + (e + 1 - a) = e + 1 by omega] at this
  rw [this, List.length_append, List.length_range']
theorem run_next {p : Nat → Bool} {a e : Nat} (h : Run p a e) (x : Nat) (hx : (sub p a)[e + 1 - a]? = some x) : e + 1 < x ∧ x < 256 := by
  have hd := run_drop h
  have h0 : (sub p (e + 1))[0]? = some x := by rw [← hd, List.getElem?_drop]; simpa using hx
  have hm := sub_mem (List.mem_of_getElem? h0)
  have ht := h.top
  by_cases he : e < 255
  · have := h.stop he
    have hne : x ≠ e + 1 := fun e2 => by rw [e2, this] at hm; exact absurd hm.2.2 (by decide)
    exact ⟨by omega, hm.2.1⟩
  · omega
theorem idx_str (s : ByteArray) (l : List Nat) (h : s.data.toList = bl l) (j x : Nat) (hj : l[j]? = some x) (hx : x < 256) (z : Int) (hz : z = (j : Int)) : ∀ w : World, (Instr.index 9 (.string s) (.int .i64 z)).run Tryd.prog w = .ok (.int .u8 (x : Int)) w := fun w => by
  subst hz
  have hjl : j < l.length := (List.getElem?_eq_some_iff.1 hj).1
  have hs : s.size = l.length := by
    have := congrArg List.length h
    rw [bl_length] at this
    rwa [← bsize] at this
  have hl : (0 : Int) ≤ (j : Int) ∧ (j : Int) < (s.size : Int) := ⟨by omega, by omega⟩
  rw [run_index_string (h := Tryd.underlying9), dif_pos hl]
  have hq : (s[(j : Int).toNat]'(by have := hl.2; omega)).toNat = x := by
    have h0 : j < s.data.toList.length := by rw [h, bl_length]; exact hjl
    show (s.data.toList[j]'h0).toNat = x
    have : s.data.toList[j]'h0 = UInt8.ofNat x := by
      have e : s.data.toList[j]? = some (UInt8.ofNat x) := by rw [h]; unfold bl; rw [List.getElem?_map, hj]; rfl
      rw [List.getElem?_eq_getElem h0] at e
      exact Option.some.inj e
    rw [this, UInt8.toNat_ofNat']
    exact Nat.mod_eq_of_lt hx
  rw [hq]
theorem tab_keepG {w w' : World} {v v' : Value} (h : tabAt w) (hg : GB w w' v v') {B : Nat} {xs : List UInt8} (ho : OB B w v xs) (hB : B ≤ w.heap.size) (hT : 1 < B) : tabAt w' := fun j hj => (cell_same ((hg.below ho hB).block _ hT)).trans (h j hj)
theorem appset_any (p : Nat → Bool) (B : Nat) (w : World) (v : Value) (xs : List UInt8) (h : OB B w v xs) (hz : xs.length ≤ 800000000) (hB : B ≤ w.heap.size) (hT : tabAt w) :
    Calls Tryd.prog 32 #[v, cs p] w fun e w' => ∃ v', e = .returned v' ∧ OB B w' v' (xs ++ rgs p 256) ∧ GB w w' v v' := by
  have HL := Lib.hid (fun W hT => list_any p W hT)
  have HT := Lib.hid hT
  have HA := Lib.hid (At.new w p)
  have HO := Lib.hid h
  have HN32 := Lib.hid (fun (n : Int) (hn : fits n) (W : World) (v : Value) (ys : List UInt8) (h : OB B W v ys) (hz : ys.length ≤ 900000000) (hB : B ≤ W.heap.size) => appnum_any 32 32 rfl n hn B W v ys h hz hB)
  have HN45 := Lib.hid (fun (n : Int) (hn : fits n) (W : World) (v : Value) (ys : List UInt8) (h : OB B W v ys) (hz : ys.length ≤ 900000000) (hB : B ≤ W.heap.size) => appnum_any 45 45 rfl n hn B W v ys h hz hB)
  have HX := Lib.hid hz
  have HBB : Hid (Below w.heap.size w (w.alloc (.cells (cl p) 31))) := (Below.refl _ _).alloc (Nat.le_refl _) _
  obtain ⟨S0, hS0⟩ : ∃ S0, S0 = (⟨(bl (el p 256)).toArray⟩ : ByteArray) := ⟨_, rfl⟩
  rw [← hS0] at HL
  have HS0 : Hid (S0.data.toList = bl (sub p 0)) := Lib.hid (by rw [hS0, sub_all])
  obtain ⟨ad, cap, rfl⟩ := h.form
  clear h hT hz hS0
  unfold cs cl at *
  go_enter Tryd.func32, Tryd.ntmps32
  obtain ⟨⟨a0, a1⟩, ⟨a2, a3⟩, af⟩ := HA.out.words
  go_wp2_with (first
    | (go_at_call 43; (with_reducible refine (HL.out _ (tab_keep HT.out HBB.out)).mono ?_); rintro e w1 ⟨rfl, hb1⟩; have HB1 := Lib.hid (HBB.out.trans (hb1.mono HBB.out.size)); clear hb1 a0 a1 a2 a3 af))
  have hB1 : B ≤ w1.heap.size := Nat.le_trans hB HB1.out.size
  go_loopw [0, 5] (fun tv lv wr => ∃ (b : Nat) (s : ByteArray) (v : Value), v = tv ∧ lv = .string s ∧ b ≤ 256 ∧ Hid (s.data.toList = bl (sub p b)) ∧ Hid (b = 0 ∨ b = 256 ∨ p b = false) ∧ Hid (OB B wr v (xs ++ rgs p b)) ∧ Hid (GB w wr (.slice ad xs.length cap) v)) (fun _ lv _ => match lv with | .string x => x.size | _ => 0)
  case atStart => exact ⟨0, S0, _, rfl, rfl, by omega, HS0, Lib.hid (.inl rfl), Lib.hid (by have := HO.out.below HB1.out; simpa [rgs] using this), Lib.hid (GB.of _ HB1.out)⟩
  case round =>
    obtain ⟨b, s, v, rfl, rfl, hb, HS, HC, HOr, HG⟩ := hrel
    obtain ⟨a, hba, ha, hnone, hat, hsub⟩ := sub_nxt p (256 - b) b (by omega)
    have hrg : rgs p a = rgs p b := rgs_skip p b a hba (fun c c1 c2 => stt_no (hnone c c1 c2))
    by_cases ha6 : a = 256
    · have hs0 : s = ⟨#[]⟩ := by
        apply ByteArray.ext
        have := HS.out
        rw [hsub, ha6, sub_end] at this
        exact Array.toList_inj.1 this
      have HF := Lib.hid HOr.out
      rw [← hrg, ha6] at HF
      subst hs0
      clear hnone hat hsub hrg
      go_wp2_with fail
      go_ret
      exact ⟨_, rfl, HF.out, HG.out⟩
    · have ha2 : a < 256 := by omega
      have hpa : p a = true := by rcases hat with h1 | h1; omega; exact h1
      obtain ⟨e, he⟩ : ∃ e, e = re p a := ⟨_, rfl⟩
      have hrun : Run p a e := by rw [he]; exact re_run p a ha2 hpa
      have hst : stt p a = true := by
        unfold stt
        rw [hpa]
        by_cases h0 : a = 0
        · simp [h0]
        · have : p (a - 1) = false := by
            by_cases hab : a = b
            · rcases HC.out with h1 | h1 | h1
              · omega
              · omega
              · rw [← hab, hpa] at h1; cases h1
            · exact hnone (a - 1) (by omega) (by omega)
          simp [this]
      have hle := hrun.le
      have htop := hrun.top
      obtain ⟨M, hM⟩ : ∃ M, M = e + 1 - a := ⟨_, rfl⟩
      have hrg2 : rgs p (e + 1) = rgs p b ++ piece a e := by
        rw [rgs_skip p (a + 1) (e + 1) (by omega) (fun c c1 c2 => stt_in (by omega) (hrun.all (c - 1) (by omega) (by omega)))]
        show rgs p a ++ _ = _
        rw [if_pos hst, hrg, ← he]
      have hsl : s.data.toList = bl (sub p a) := by rw [HS.out, hsub]
      have hss : s.size = M + (sub p (e + 1)).length := by
        have := congrArg List.length hsl
        rw [bl_length, run_len hrun, ← hM] at this
        rwa [← bsize] at this
      have hnew : (s.extract M s.size).data.toList = bl (sub p (e + 1)) := by
        rw [Lib.extract_to_end, hsl, hM]
        unfold bl
        rw [← List.map_drop, run_drop hrun]
      have hnsz : (s.extract M s.size).size < s.size := by
        have := congrArg List.length hnew
        rw [bl_length] at this
        have e2 : (s.extract M s.size).size = (sub p (e + 1)).length := by rwa [← bsize] at this
        omega
      have hcon : e + 1 = 0 ∨ e + 1 = 256 ∨ p (e + 1) = false := by
        by_cases h5 : e < 255
        · exact .inr (.inr (hrun.stop h5))
        · exact .inr (.inl (by omega))
      have ix : ∀ (j : Nat) (z : Int), a + j ≤ e → z = (j : Int) → ∀ w : World, (Instr.index 9 (.string s) (.int .i64 z)).run Tryd.prog w = .ok (.int .u8 ((a + j : Nat) : Int)) w := fun j z hj hz => idx_str s (sub p a) hsl j (a + j) (run_get hrun j hj) (by omega) z hz
      have ixM : ∀ x, (sub p a)[M]? = some x → x < 256 → ∀ w : World, (Instr.index 9 (.string s) (.int .i64 (M : Int))).run Tryd.prog w = .ok (.int .u8 (x : Int)) w := fun x hx h2 => idx_str s (sub p a) hsl M x hx h2 _ rfl
      have hnx : ∀ x, (sub p a)[M]? = some x → e + 1 < x ∧ x < 256 := fun x hx => run_next hrun x (by rw [← hM]; exact hx)
      have hlen2 : (sub p a).length = s.size := by rw [run_len hrun, ← hM, hss]
      have IX := Lib.hid ix
      have IXM := Lib.hid ixM
      have HNX := Lib.hid hnx
      have HL2 := Lib.hid hlen2
      have HRG := Lib.hid hrg2
      have HNW := Lib.hid hnew
      have HNZ := Lib.hid hnsz
      have HCN := Lib.hid hcon
      have HRL := Lib.hid (rgs_len p b hb)
      have HPL := Lib.hid (piece_len a e ha2 (by omega))
      have hM1 : 1 ≤ M := by omega
      have hMI : (M : Int) ≤ s.size := by omega
      have hM256 : M ≤ 256 := by omega
      have hs0 : (0 : Int) < s.size := by omega
      have hse : (s.toList == []) = false := by
        cases hq : s.toList with
        | nil =>
          exfalso
          have : s.size = 0 := by
            have h1 := congrArg List.length hq
            rw [ByteArray.toList_eq, ← bsize] at h1
            exact h1
          omega
        | cons x r => rfl
      have HE := Lib.hid (And.intro hM hle)
      clear hnone hat hsub hrg hrun hst hrg2 hsl hss hnew hnsz hcon ix ixM hnx hlen2 he HC HS hM hle
      go_wp2_with fail
      obtain ⟨wo, rfl⟩ : ∃ x, x = wr := ⟨_, rfl⟩
      have HR0 := Lib.hid (Below.refl wo.heap.size wo)
      go_loopw [6] (fun i wq => ∃ (m : Nat), 1 ≤ m ∧ m ≤ M ∧ i = .int .i64 m ∧ Hid (Below wo.heap.size wo wq)) (fun i _ => M - (intOf i).toNat)
      case atStart => exact ⟨1, Nat.le_refl _, hM1, rfl, HR0⟩
      case round =>
        obtain ⟨m, hm1, hmM, rfl, HQ⟩ := hrel
        by_cases hlt : m < M
        · obtain ⟨y, hy⟩ : ∃ y, y = a + (m - 1) := ⟨_, rfl⟩
          have hE := HE.out
          have i1 : ∀ w : World, (Instr.index 9 (.string s) (.int .i64 (m : Int))).run Tryd.prog w = .ok (.int .u8 ((y : Int) + 1)) w := by
            have := IX.out m (m : Int) (by omega) rfl
            rw [show a + m = y + 1 by omega] at this
            simpa using this
          have i0 : ∀ w : World, (Instr.index 9 (.string s) (.int .i64 ((m : Int) - 1))).run Tryd.prog w = .ok (.int .u8 (y : Int)) w := by
            have := IX.out (m - 1) ((m : Int) - 1) (by omega) (by omega)
            rw [← hy] at this
            exact this
          have hy2 : IntKind.u8.wrap ((y : Int) + 1) = (y : Int) + 1 := IntWalk.u8_in _ (by omega)
          have hml : (m : Int) < s.size := by omega
          have hm2 : (m : Int) ≤ 256 := by omega
          have hm3 : (1 : Int) ≤ m := by omega
          clear hE hy
          go_upto_region 4 with fail
          go_quiet (fail)
          go_wp2_with fail
          go_roundw
          case rel => exact ⟨m + 1, by omega, by omega, by go_num, Lib.hid (below_drewN HQ.out _)⟩
          case measure => simp [intOf]; omega
        · obtain rfl : m = M := by omega
          have hE := HE.out
          have hm2 : (m : Int) ≤ 256 := by omega
          have hm3 : (1 : Int) ≤ m := by omega
          have a256 : (a : Int) < 256 := by omega
          have e256 : (e : Int) < 256 := by omega
          have ih : ∀ w : World, (Instr.index 9 (.string s) (.int .i64 0)).run Tryd.prog w = .ok (.int .u8 (a : Int)) w := IX.out 0 0 (by omega) rfl
          have i0 : ∀ w : World, (Instr.index 9 (.string s) (.int .i64 ((m : Int) - 1))).run Tryd.prog w = .ok (.int .u8 (e : Int)) w := by
            have := IX.out (m - 1) ((m : Int) - 1) (by omega) (by omega)
            rw [show a + (m - 1) = e by omega] at this
            exact this
          have HO1 := Lib.hid (HOr.out.below HQ.out)
          have HG1 := Lib.hid (HG.out.next HQ.out)
          have hB1r : B ≤ wr.heap.size := Nat.le_trans hB HG1.out.size
          have hfa : fits (a : Int) := ⟨by omega, by omega⟩
          have hfe : fits (e : Int) := ⟨by omega, by omega⟩
          have HLa := Lib.hid (nt_len (a : Int) (by omega) (by omega))
          have hL1 : (xs ++ rgs p b).length ≤ 900000000 := by rw [List.length_append]; have := HRL.out; have := HX.out; omega
          have HL1 := Lib.hid hL1
          have HFs := Lib.hid (And.intro hfa hfe)
          have hL2 : ((xs ++ rgs p b) ++ 32 :: nt (a : Int)).length ≤ 900000000 := by rw [List.length_append, List.length_append, List.length_cons]; have := HRL.out; have := HX.out; have := HLa.out; omega
          have HL3 := Lib.hid hL2
          have hcase : (∃ x : Nat, (m : Int) < s.size ∧ (∀ w : World, (Instr.index 9 (.string s) (.int .i64 (m : Int))).run Tryd.prog w = .ok (.int .u8 (x : Int)) w) ∧ ((x : Int) == (e : Int) + 1) = false ∧ IntKind.u8.wrap ((e : Int) + 1) = (e : Int) + 1) ∨ (decide ((m : Int) < s.size) = false ∧ decide (m < s.size) = false) := by
            by_cases hq : m < s.size
            · have hq2 : m < (sub p a).length := by rw [HL2.out]; exact hq
              have hx := List.getElem?_eq_getElem hq2
              obtain ⟨h1, h2⟩ := HNX.out _ hx
              exact .inl ⟨(sub p a)[m], by omega, IXM.out _ hx h2, by simp; omega, IntWalk.u8_in _ (by omega)⟩
            · exact .inr ⟨decide_eq_false (by omega), decide_eq_false (by omega)⟩
          have hdone : ∀ (v' : Value) (w' : World), OB B w' v' ((xs ++ rgs p b) ++ piece a e) → GB wr w' v v' → ∃ (b2 : Nat) (s2 : ByteArray) (v2 : Value), v2 = v' ∧ Value.string (s.extract m s.size) = .string s2 ∧ b2 ≤ 256 ∧ Hid (s2.data.toList = bl (sub p b2)) ∧ Hid (b2 = 0 ∨ b2 = 256 ∨ p b2 = false) ∧ Hid (OB B w' v2 (xs ++ rgs p b2)) ∧ Hid (GB w w' (.slice ad xs.length cap) v2) := fun v' w' h1 h2 =>
            ⟨e + 1, s.extract m s.size, v', rfl, rfl, by omega, HNW, HCN, Lib.hid (by rw [HRG.out, ← List.append_assoc]; exact h1), Lib.hid (HG1.out.trans h2)⟩
          have HD := Lib.hid hdone
          clear hdone hL1 hL2 IX IXM HNX HL2 HRG HCN HNW hfa hfe hE HX HRL HPL HLa HQ HOr HG HR0
          have hge : (1 < m ∧ a < e) ∨ (m = 1 ∧ a = e) := by have := HE.out; omega
          rcases hcase with ⟨x, hq1, hq2, hq3, hq4⟩ | ⟨hq1, hq2⟩
          all_goals go_upto_region 4 with fail
          all_goals go_quiet (fail)
          all_goals rcases hge with ⟨hg1, hg2⟩ | ⟨hg1, hg2⟩
          all_goals first
            | (have HAE : Hid (a < e) := Lib.hid hg2
               have hg3 : (1 : Int) < (m : Int) := by omega
               clear hg1 hg2)
            | (have HAE : Hid (¬ a < e) := Lib.hid (by omega)
               have hg3 : decide ((1 : Int) < (m : Int)) = false := decide_eq_false (by omega)
               have hg4 : decide (1 < m) = false := decide_eq_false (by omega)
               clear hg1 hg2)
          all_goals
            go_wp2_with (first
              | (go_at_call 33; (with_reducible refine (HN32.out (a : Int) HFs.out.1 _ v _ (HO1.out.below (below_drewN (Below.refl _ _) _)) HL1.out (by first | exact hB1r | simpa using hB1r)).mono ?_); rintro e0 w2 ⟨v2, rfl, ho2, hg2⟩; have HO2 := Lib.hid ho2; have HG2 := Lib.hid ((GB.of v (below_drewN (Below.refl _ _) _)).trans hg2); have hB2 : B ≤ w2.heap.size := Nat.le_trans hB1r HG2.out.size; clear ho2 hg2)
              | (go_at_call 33; (with_reducible refine (HN45.out (e : Int) HFs.out.2 w2 v2 _ HO2.out HL3.out hB2).mono ?_); rintro e0 w3 ⟨v3, rfl, ho3, hg3'⟩; have HO3 := Lib.hid ho3; have HG3 := Lib.hid (HG2.out.trans hg3'); clear ho3 hg3'))
            go_roundw
          all_goals first
            | (case rel => exact HD.out _ _ (by have := HO3.out; unfold piece; rw [if_pos HAE.out]; simpa [List.append_assoc] using this) HG3.out)
            | (case rel => exact HD.out _ _ (by have := HO2.out; unfold piece; rw [if_neg HAE.out]; simpa [List.append_assoc] using this) HG2.out)
            | (case measure => exact HNZ.out)
end Go.Proofs.YtbjobbkipmkndaaDoor
