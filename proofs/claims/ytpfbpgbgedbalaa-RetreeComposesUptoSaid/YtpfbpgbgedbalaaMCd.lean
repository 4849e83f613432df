/- Several texts in one (a claim has at most 60 files). -/
import Derived.Test.YtpfbpgbgedbalaaMC
import Derived.BigRegion
import Derived.BigQuiet
import Derived.StillTailTactics
import Derived.Deep.RegionHeld3
/- RetreeComposes: the first nullable: false; the second: false. -/
set_option linter.unusedVariables false
set_option linter.unusedSimpArgs false
set_option maxRecDepth 100000
set_option maxHeartbeats 8000000
namespace Go.Proofs.Ytpfbpgbgedbalaa
open Go.RowKit

/-- The law behind the making of the two trees. -/
theorem composes_ff (a b : TN) (hxb : (knF a).nul = false) (hyb : (knF b).nul = false) (sa sb : Value) (w : World) (ha : TI w a sa) (hb : TI w b sb) (hz : szF a.f + szF b.f + 1 ≤ 1048576) (fa : F.fits (.cons a.op a.st a.lo a.hi a.g a.args .nil)) (fb : F.fits (.cons b.op b.st b.lo b.hi b.g b.args .nil)) :
    Calls Try.prog 6 #[.agg #[.int .i64 a.op, .int .u64 (wd a.st 0 64 : Nat), .int .u64 (wd a.st 64 64 : Nat), .int .u64 (wd a.st 128 64 : Nat), .int .u64 (wd a.st 192 64 : Nat), .int .i64 a.lo, .int .i64 a.hi, .int .i64 a.g, sa], .agg #[.int .i64 b.op, .int .u64 (wd b.st 0 64 : Nat), .int .u64 (wd b.st 64 64 : Nat), .int .u64 (wd b.st 128 64 : Nat), .int .u64 (wd b.st 192 64 : Nat), .int .i64 b.lo, .int .i64 b.hi, .int .i64 b.g, sb]] w fun e w' => e = .returned (.bool true) ∧ Below w.heap.size w w' := by
  obtain ⟨ada, capa, rfl⟩ := ha.form
  obtain ⟨adb, capb, rfl⟩ := hb.form
  generalize hsa : (.slice ada a.args.len capa : Value) = sa at *
  generalize hsb : (.slice adb b.args.len capb : Value) = sb at *
  have HSa := Lib.hid hsa
  have HSb := Lib.hid hsb
  clear hsa hsb
  have HA := Lib.hid aw08
  obtain ⟨W2, hW2⟩ : ∃ W2, W2 = (w.alloc (.cells #[.int .i64 a.op, .int .u64 (wd a.st 0 64 : Nat), .int .u64 (wd a.st 64 64 : Nat), .int .u64 (wd a.st 128 64 : Nat), .int .u64 (wd a.st 192 64 : Nat), .int .i64 a.lo, .int .i64 a.hi, .int .i64 a.g, sa] 28)).alloc (.cells #[.int .i64 b.op, .int .u64 (wd b.st 0 64 : Nat), .int .u64 (wd b.st 64 64 : Nat), .int .u64 (wd b.st 128 64 : Nat), .int .u64 (wd b.st 192 64 : Nat), .int .i64 b.lo, .int .i64 b.hi, .int .i64 b.g, sb] 28) := ⟨_, rfl⟩
  have hx : Below w.heap.size w W2 := by rw [hW2]; exact ((Below.refl _ _).alloc (Nat.le_refl _) _).alloc (by simp) _
  have hz2 : W2.heap.size = w.heap.size + 2 := by rw [hW2]; simp
  have ka : W2.heap[w.heap.size]? = some (.cells #[.int .i64 a.op, .int .u64 (wd a.st 0 64 : Nat), .int .u64 (wd a.st 64 64 : Nat), .int .u64 (wd a.st 128 64 : Nat), .int .u64 (wd a.st 192 64 : Nat), .int .i64 a.lo, .int .i64 a.hi, .int .i64 a.g, sa] 28 (0, 0)) := by
    rw [hW2, Below.heap_alloc _ _ _ (by simp)]
    exact heap_alloc_new w _
  have kb : W2.heap[w.heap.size + 1]? = some (.cells #[.int .i64 b.op, .int .u64 (wd b.st 0 64 : Nat), .int .u64 (wd b.st 64 64 : Nat), .int .u64 (wd b.st 128 64 : Nat), .int .u64 (wd b.st 192 64 : Nat), .int .i64 b.lo, .int .i64 b.hi, .int .i64 b.g, sb] 28 (0, 0)) := by
    have := heap_alloc_new (w.alloc (.cells #[.int .i64 a.op, .int .u64 (wd a.st 0 64 : Nat), .int .u64 (wd a.st 64 64 : Nat), .int .u64 (wd a.st 128 64 : Nat), .int .u64 (wd a.st 192 64 : Nat), .int .i64 a.lo, .int .i64 a.hi, .int .i64 a.g, sa] 28)) (.cells #[.int .i64 b.op, .int .u64 (wd b.st 0 64 : Nat), .int .u64 (wd b.st 64 64 : Nat), .int .u64 (wd b.st 128 64 : Nat), .int .u64 (wd b.st 192 64 : Nat), .int .i64 b.lo, .int .i64 b.hi, .int .i64 b.g, sb] 28)
    rw [hW2]
    simpa using this
  have HX := Lib.hid hx
  have HZ := Lib.hid hz2
  have HTa := Lib.hid (ha.below hx)
  have HTb := Lib.hid (hb.below hx)
  have HNa : Hid (N9 w.heap.size a sa W2) := Lib.hid (nine ka)
  have HNb : Hid (N9 (w.heap.size + 1) b sb W2) := Lib.hid (nine kb)
  have HW2 := Lib.hid hW2
  clear hx hz2 ka kb ha hb
  go_enter Try.func6, Try.ntmps6
  go_upto_region 1 with fail
  rw [← hW2]
  clear hW2
  go_cut [5, 6] (fun x5 x6 wx => ∃ g5 g6 s5 s6, x5 = .pointer (some ⟨g5, 0, none⟩) ∧ x6 = .pointer (some ⟨g6, 0, none⟩) ∧ Hid ((TI wx (ctT a b) s5 ∧ TI wx (alT a b) s6) ∧ (N9 g5 (ctT a b) s5 wx ∧ N9 g6 (alT a b) s6 wx) ∧ Below W2.heap.size W2 wx))
  case first =>
    have HR0 : Hid (RS W2 a b sa sb none none none none W2.drew) := Lib.hid (RS.start (Below.refl _ _).drew)
    have HSS : Hid (∀ w', Below W2.heap.size W2 w' → ((N9 w.heap.size a sa w' ∧ N9 (w.heap.size + 1) b sb w') ∧ Below W2.heap.size W2 w')) := Lib.hid fun W hb => ⟨⟨HNa.out.keep hb, HNb.out.keep hb⟩, hb⟩
    have HNode := Lib.hid (fun op ad cap W => node_any op ad 2 cap W)
    refine wp_region_held_drew (S := fun w' => (N9 w.heap.size a sa w' ∧ N9 (w.heap.size + 1) b sb w') ∧ Below W2.heap.size W2 w') (by kernel_rfl) ?_ (fun hHeld => ?_)
    · exact HSS.out _ (Below.refl _ _).drew
    refine wpAnyH_take (i := 0) (v := ?rgv0) rfl (by kernel_rfl) (by kernel_rfl) (by kernel_rfl) (fun _ _ _ h => h) (Or.inl ⟨by rfl, ?rgy0⟩) (by assumption) ?rgr0
    case rgy0 =>
      intro wx hSw
      have ⟨⟨⟨⟨⟨a0, a1, a2⟩, a3, a4, a5⟩, a6, a7, a8⟩, ⟨⟨b0, b1, b2⟩, b3, b4, b5⟩, b6, b7, b8⟩, _⟩ := hSw
      clear hSw
      go_simp
      first | done | (with_reducible rfl)
    (try simp only [Act.put, List.getElem_toArray, List.getElem_cons_zero, List.setIfInBounds_toArray, List.set_cons_zero, List.set_cons_succ])
    refine wpAnyH_take (i := 1) (v := ?rgv1) rfl (by kernel_rfl) (by kernel_rfl) (by kernel_rfl) (fun _ _ _ h => h) (Or.inl ⟨by rfl, ?rgy1⟩) (by assumption) ?rgr1
    case rgy1 =>
      intro wx hSw
      have ⟨⟨⟨⟨⟨a0, a1, a2⟩, a3, a4, a5⟩, a6, a7, a8⟩, ⟨⟨b0, b1, b2⟩, b3, b4, b5⟩, b6, b7, b8⟩, _⟩ := hSw
      clear hSw
      go_simp
      first | done | (with_reducible rfl)
    (try simp only [Act.put, List.getElem_toArray, List.getElem_cons_succ, List.getElem_cons_zero, List.setIfInBounds_toArray, List.set_cons_zero, List.set_cons_succ])
    refine wpAnyH_take (i := 4) (v := ?rgv4) rfl (by kernel_rfl) (by kernel_rfl) (by kernel_rfl) (fun _ _ _ h => h) (Or.inl ⟨by rfl, ?rgy4⟩) (by assumption) ?rgr4
    case rgy4 =>
      intro wx hSw
      have ⟨⟨⟨⟨⟨a0, a1, a2⟩, a3, a4, a5⟩, a6, a7, a8⟩, ⟨⟨b0, b1, b2⟩, b3, b4, b5⟩, b6, b7, b8⟩, _⟩ := hSw
      clear hSw
      go_simp
      first | done | (with_reducible rfl)
    (try simp only [Act.put, List.getElem_toArray, List.getElem_cons_succ, List.getElem_cons_zero, List.setIfInBounds_toArray, List.set_cons_zero, List.set_cons_succ])
    refine wpAnyH_take (i := 5) (v := ?rgv5) rfl (by kernel_rfl) (by kernel_rfl) (by kernel_rfl) (fun _ _ _ h => h) (Or.inl ⟨by rfl, ?rgy5⟩) (by assumption) ?rgr5
    case rgy5 =>
      intro wx hSw
      have ⟨⟨⟨⟨⟨a0, a1, a2⟩, a3, a4, a5⟩, a6, a7, a8⟩, ⟨⟨b0, b1, b2⟩, b3, b4, b5⟩, b6, b7, b8⟩, _⟩ := hSw
      clear hSw
      go_simp
      first | done | (with_reducible rfl)
    (try simp only [Act.put, List.getElem_toArray, List.getElem_cons_succ, List.getElem_cons_zero, List.setIfInBounds_toArray, List.set_cons_zero, List.set_cons_succ])
    clear hHeld
    refine abs_any (fun G hG1 hG2 => ?_)
    have HG1 := Lib.hid hG1
    have HG2 := Lib.hid hG2
    clear hG1 hG2
    have st236789 : Hid (∀ (u : World) (k5 k6 g5 g6 : Nat), RS W2 a b sa sb (some k5) (some k6) (some g5) (some g6) u → G 2 #[true, true, true, true, true, true, true, true, true, true, false, false] ⟨#[.agg #[.int .i64 a.op, .int .u64 (wd a.st 0 64 : Nat), .int .u64 (wd a.st 64 64 : Nat), .int .u64 (wd a.st 128 64 : Nat), .int .u64 (wd a.st 192 64 : Nat), .int .i64 a.lo, .int .i64 a.hi, .int .i64 a.g, sa], .agg #[.int .i64 b.op, .int .u64 (wd b.st 0 64 : Nat), .int .u64 (wd b.st 64 64 : Nat), .int .u64 (wd b.st 128 64 : Nat), .int .u64 (wd b.st 192 64 : Nat), .int .i64 b.lo, .int .i64 b.hi, .int .i64 b.g, sb], .pointer (some ⟨w.heap.size, 0, none⟩), .pointer (some ⟨w.heap.size + 1, 0, none⟩), .bool false, .pointer (some ⟨g5, 0, none⟩), .pointer (some ⟨g6, 0, none⟩), U, U, U, U, U, U, U, U, U, U, U, U, U, U, .agg #[.int .i64 a.op, .int .u64 (wd a.st 0 64 : Nat), .int .u64 (wd a.st 64 64 : Nat), .int .u64 (wd a.st 128 64 : Nat), .int .u64 (wd a.st 192 64 : Nat), .int .i64 a.lo, .int .i64 a.hi, .int .i64 a.g, sa], .agg #[.int .i64 b.op, .int .u64 (wd b.st 0 64 : Nat), .int .u64 (wd b.st 64 64 : Nat), .int .u64 (wd b.st 128 64 : Nat), .int .u64 (wd b.st 192 64 : Nat), .int .i64 b.lo, .int .i64 b.hi, .int .i64 b.g, sb], .slice (some ⟨k5, 0, none⟩) 2 2, .agg #[.int .i64 3, .int .u64 (wd noSet 0 64 : Nat), .int .u64 (wd noSet 64 64 : Nat), .int .u64 (wd noSet 128 64 : Nat), .int .u64 (wd noSet 192 64 : Nat), .int .i64 0, .int .i64 0, .int .i64 0, .slice (some ⟨k5, 0, none⟩) 2 2], .agg #[.int .i64 a.op, .int .u64 (wd a.st 0 64 : Nat), .int .u64 (wd a.st 64 64 : Nat), .int .u64 (wd a.st 128 64 : Nat), .int .u64 (wd a.st 192 64 : Nat), .int .i64 a.lo, .int .i64 a.hi, .int .i64 a.g, sa], .agg #[.int .i64 b.op, .int .u64 (wd b.st 0 64 : Nat), .int .u64 (wd b.st 64 64 : Nat), .int .u64 (wd b.st 128 64 : Nat), .int .u64 (wd b.st 192 64 : Nat), .int .i64 b.lo, .int .i64 b.hi, .int .i64 b.g, sb], .slice (some ⟨k6, 0, none⟩) 2 2, .agg #[.int .i64 4, .int .u64 (wd noSet 0 64 : Nat), .int .u64 (wd noSet 64 64 : Nat), .int .u64 (wd noSet 128 64 : Nat), .int .u64 (wd noSet 192 64 : Nat), .int .i64 0, .int .i64 0, .int .i64 0, .slice (some ⟨k6, 0, none⟩) 2 2], U, U, U, U, U, U, U, U, U, U, U, U, U, U, U, U, U, U, U, U, U, U, U, U, U, U, U, U, U, U, U, U, U, U, U, U, U, U, U, U, U, U, U, U, U, U, U, U, U, U, U, U, U, U, U, U, U, U, U, U, U, U, U, U, U, U, U, U, U, U, U, U, U, U, U, U, U, U, U, U, U, U, U, U, U, U, U, U, U, U, U, U, U, U, U, U, U, U, U, U, U, U, U, U, U, U, U, U, U, U, U, U, U, U, U, U, U, U, U, U, U, U, U, U, U, U, U, U, U, U, U, U, U, U, U, U, U, U, U, U, U, U, U, U, U, U, U, U, U, U, U, U, U, U], []⟩ u) := by
      refine Lib.hid fun u k5 k6 g5 g6 hR => ?_
      have HR := Lib.hid hR
      clear hR
      refine HG1.out _ _ _ _ _ rfl ?_
      obtain ⟨⟨t5, t6⟩, ⟨z6, b1⟩, ⟨q5, q6⟩, b2⟩ := HR.out.fin HTa.out HTb.out fa fb #[.int .i64 3, .int .u64 (wd noSet 0 64 : Nat), .int .u64 (wd noSet 64 64 : Nat), .int .u64 (wd noSet 128 64 : Nat), .int .u64 (wd noSet 192 64 : Nat), .int .i64 0, .int .i64 0, .int .i64 0, .slice (some ⟨k5, 0, none⟩) 2 2] #[.int .i64 4, .int .u64 (wd noSet 0 64 : Nat), .int .u64 (wd noSet 64 64 : Nat), .int .u64 (wd noSet 128 64 : Nat), .int .u64 (wd noSet 192 64 : Nat), .int .i64 0, .int .i64 0, .int .i64 0, .slice (some ⟨k6, 0, none⟩) 2 2]
      have HF := Lib.hid (And.intro (And.intro t5 t6) (And.intro (And.intro q5 q6) b2))
      have HZ6 := Lib.hid (And.intro z6 b1)
      clear t5 t6 z6 b1 q5 q6 b2
      refine wpAnyH_ready (rs := [10]) (by kernel_rfl) (by simp) ?_
      refine AllReadyH.cons rfl (fun K hK => ?_) AllReadyH.nil
      rw [if_pos (by rfl)]
      refine wp_store_row 28 _ _ rfl g5 #[.int .i64 3, .int .u64 (wd noSet 0 64 : Nat), .int .u64 (wd noSet 64 64 : Nat), .int .u64 (wd noSet 128 64 : Nat), .int .u64 (wd noSet 192 64 : Nat), .int .i64 0, .int .i64 0, .int .i64 0, .slice (some ⟨k5, 0, none⟩) 2 2] rfl rfl 28 #[.int .i64 0, .int .u64 0, .int .u64 0, .int .u64 0, .int .u64 0, .int .i64 0, .int .i64 0, .int .i64 0, .slice none 0 0] (HR.out.z5 _ rfl).2 isz_re rfl (by simp [Value.oneCell']) ?_
      refine hK.out _ _ (HSS.out _ HZ6.out.2) (fun hH => ?_)
      clear hK K hH
      (try simp only [Act.put, List.getElem_toArray, List.getElem_cons_succ, List.getElem_cons_zero])
      refine wpAnyH_ready (rs := [11]) (by kernel_rfl) (by simp) ?_
      refine AllReadyH.cons rfl (fun K hK => ?_) AllReadyH.nil
      rw [if_pos (by rfl)]
      refine wp_store_row 28 _ _ rfl g6 #[.int .i64 4, .int .u64 (wd noSet 0 64 : Nat), .int .u64 (wd noSet 64 64 : Nat), .int .u64 (wd noSet 128 64 : Nat), .int .u64 (wd noSet 192 64 : Nat), .int .i64 0, .int .i64 0, .int .i64 0, .slice (some ⟨k6, 0, none⟩) 2 2] rfl rfl 28 #[.int .i64 0, .int .u64 0, .int .u64 0, .int .u64 0, .int .u64 0, .int .i64 0, .int .i64 0, .int .i64 0, .slice none 0 0] HZ6.out.1 isz_re rfl (by simp [Value.oneCell']) ?_
      refine hK.out _ _ (HSS.out _ HF.out.2.2) (fun hH => ?_)
      clear hK K hH
      (try simp only [Act.put, List.getElem_toArray, List.getElem_cons_succ, List.getElem_cons_zero])
      refine wpAnyH_done (by kernel_rfl) ?_ _
      (try go_wp2_with fail)
      go_meet
      case rel => exact ⟨g5, g6, _, _, rfl, rfl, Lib.hid ⟨HF.out.1, ⟨nine HF.out.2.1.1, nine HF.out.2.1.2⟩, HF.out.2.2⟩⟩
    have st23678 : Hid (∀ (u : World) (k5 k6 g5 : Nat), RS W2 a b sa sb (some k5) (some k6) (some g5) none u → G 3 #[true, true, true, true, true, true, true, true, true, false, false, false] ⟨#[.agg #[.int .i64 a.op, .int .u64 (wd a.st 0 64 : Nat), .int .u64 (wd a.st 64 64 : Nat), .int .u64 (wd a.st 128 64 : Nat), .int .u64 (wd a.st 192 64 : Nat), .int .i64 a.lo, .int .i64 a.hi, .int .i64 a.g, sa], .agg #[.int .i64 b.op, .int .u64 (wd b.st 0 64 : Nat), .int .u64 (wd b.st 64 64 : Nat), .int .u64 (wd b.st 128 64 : Nat), .int .u64 (wd b.st 192 64 : Nat), .int .i64 b.lo, .int .i64 b.hi, .int .i64 b.g, sb], .pointer (some ⟨w.heap.size, 0, none⟩), .pointer (some ⟨w.heap.size + 1, 0, none⟩), .bool false, .pointer (some ⟨g5, 0, none⟩), U, U, U, U, U, U, U, U, U, U, U, U, U, U, U, .agg #[.int .i64 a.op, .int .u64 (wd a.st 0 64 : Nat), .int .u64 (wd a.st 64 64 : Nat), .int .u64 (wd a.st 128 64 : Nat), .int .u64 (wd a.st 192 64 : Nat), .int .i64 a.lo, .int .i64 a.hi, .int .i64 a.g, sa], .agg #[.int .i64 b.op, .int .u64 (wd b.st 0 64 : Nat), .int .u64 (wd b.st 64 64 : Nat), .int .u64 (wd b.st 128 64 : Nat), .int .u64 (wd b.st 192 64 : Nat), .int .i64 b.lo, .int .i64 b.hi, .int .i64 b.g, sb], .slice (some ⟨k5, 0, none⟩) 2 2, .agg #[.int .i64 3, .int .u64 (wd noSet 0 64 : Nat), .int .u64 (wd noSet 64 64 : Nat), .int .u64 (wd noSet 128 64 : Nat), .int .u64 (wd noSet 192 64 : Nat), .int .i64 0, .int .i64 0, .int .i64 0, .slice (some ⟨k5, 0, none⟩) 2 2], .agg #[.int .i64 a.op, .int .u64 (wd a.st 0 64 : Nat), .int .u64 (wd a.st 64 64 : Nat), .int .u64 (wd a.st 128 64 : Nat), .int .u64 (wd a.st 192 64 : Nat), .int .i64 a.lo, .int .i64 a.hi, .int .i64 a.g, sa], .agg #[.int .i64 b.op, .int .u64 (wd b.st 0 64 : Nat), .int .u64 (wd b.st 64 64 : Nat), .int .u64 (wd b.st 128 64 : Nat), .int .u64 (wd b.st 192 64 : Nat), .int .i64 b.lo, .int .i64 b.hi, .int .i64 b.g, sb], .slice (some ⟨k6, 0, none⟩) 2 2, .agg #[.int .i64 4, .int .u64 (wd noSet 0 64 : Nat), .int .u64 (wd noSet 64 64 : Nat), .int .u64 (wd noSet 128 64 : Nat), .int .u64 (wd noSet 192 64 : Nat), .int .i64 0, .int .i64 0, .int .i64 0, .slice (some ⟨k6, 0, none⟩) 2 2], U, U, U, U, U, U, U, U, U, U, U, U, U, U, U, U, U, U, U, U, U, U, U, U, U, U, U, U, U, U, U, U, U, U, U, U, U, U, U, U, U, U, U, U, U, U, U, U, U, U, U, U, U, U, U, U, U, U, U, U, U, U, U, U, U, U, U, U, U, U, U, U, U, U, U, U, U, U, U, U, U, U, U, U, U, U, U, U, U, U, U, U, U, U, U, U, U, U, U, U, U, U, U, U, U, U, U, U, U, U, U, U, U, U, U, U, U, U, U, U, U, U, U, U, U, U, U, U, U, U, U, U, U, U, U, U, U, U, U, U, U, U, U, U, U, U, U, U, U, U, U, U, U, U], []⟩ u) := by
      refine Lib.hid fun u k5 k6 g5 hR => ?_
      have HR := Lib.hid hR
      clear hR
      refine HG1.out _ _ _ _ _ rfl ?_
      refine wpAnyH_ready (rs := [9]) (by kernel_rfl) (by simp) ?_
      refine AllReadyH.cons rfl (fun K hK => ?_) AllReadyH.nil
      · go_simp
        refine hK.out _ _ (HSS.out _ HR.out.al6.low) (fun hH => ?_)
        clear hK K hH
        (try simp only [Act.put, List.getElem_toArray, List.getElem_cons_succ, List.getElem_cons_zero, List.setIfInBounds_toArray, List.set_cons_zero, List.set_cons_succ])
        exact HG2.out _ _ _ _ _ (by kernel_rfl) (st236789.out _ _ _ _ _ HR.out.al6)
    have st23679 : Hid (∀ (u : World) (k5 k6 g6 : Nat), RS W2 a b sa sb (some k5) (some k6) none (some g6) u → G 3 #[true, true, true, true, true, true, true, true, false, true, false, false] ⟨#[.agg #[.int .i64 a.op, .int .u64 (wd a.st 0 64 : Nat), .int .u64 (wd a.st 64 64 : Nat), .int .u64 (wd a.st 128 64 : Nat), .int .u64 (wd a.st 192 64 : Nat), .int .i64 a.lo, .int .i64 a.hi, .int .i64 a.g, sa], .agg #[.int .i64 b.op, .int .u64 (wd b.st 0 64 : Nat), .int .u64 (wd b.st 64 64 : Nat), .int .u64 (wd b.st 128 64 : Nat), .int .u64 (wd b.st 192 64 : Nat), .int .i64 b.lo, .int .i64 b.hi, .int .i64 b.g, sb], .pointer (some ⟨w.heap.size, 0, none⟩), .pointer (some ⟨w.heap.size + 1, 0, none⟩), .bool false, U, .pointer (some ⟨g6, 0, none⟩), U, U, U, U, U, U, U, U, U, U, U, U, U, U, .agg #[.int .i64 a.op, .int .u64 (wd a.st 0 64 : Nat), .int .u64 (wd a.st 64 64 : Nat), .int .u64 (wd a.st 128 64 : Nat), .int .u64 (wd a.st 192 64 : Nat), .int .i64 a.lo, .int .i64 a.hi, .int .i64 a.g, sa], .agg #[.int .i64 b.op, .int .u64 (wd b.st 0 64 : Nat), .int .u64 (wd b.st 64 64 : Nat), .int .u64 (wd b.st 128 64 : Nat), .int .u64 (wd b.st 192 64 : Nat), .int .i64 b.lo, .int .i64 b.hi, .int .i64 b.g, sb], .slice (some ⟨k5, 0, none⟩) 2 2, .agg #[.int .i64 3, .int .u64 (wd noSet 0 64 : Nat), .int .u64 (wd noSet 64 64 : Nat), .int .u64 (wd noSet 128 64 : Nat), .int .u64 (wd noSet 192 64 : Nat), .int .i64 0, .int .i64 0, .int .i64 0, .slice (some ⟨k5, 0, none⟩) 2 2], .agg #[.int .i64 a.op, .int .u64 (wd a.st 0 64 : Nat), .int .u64 (wd a.st 64 64 : Nat), .int .u64 (wd a.st 128 64 : Nat), .int .u64 (wd a.st 192 64 : Nat), .int .i64 a.lo, .int .i64 a.hi, .int .i64 a.g, sa], .agg #[.int .i64 b.op, .int .u64 (wd b.st 0 64 : Nat), .int .u64 (wd b.st 64 64 : Nat), .int .u64 (wd b.st 128 64 : Nat), .int .u64 (wd b.st 192 64 : Nat), .int .i64 b.lo, .int .i64 b.hi, .int .i64 b.g, sb], .slice (some ⟨k6, 0, none⟩) 2 2, .agg #[.int .i64 4, .int .u64 (wd noSet 0 64 : Nat), .int .u64 (wd noSet 64 64 : Nat), .int .u64 (wd noSet 128 64 : Nat), .int .u64 (wd noSet 192 64 : Nat), .int .i64 0, .int .i64 0, .int .i64 0, .slice (some ⟨k6, 0, none⟩) 2 2], U, U, U, U, U, U, U, U, U, U, U, U, U, U, U, U, U, U, U, U, U, U, U, U, U, U, U, U, U, U, U, U, U, U, U, U, U, U, U, U, U, U, U, U, U, U, U, U, U, U, U, U, U, U, U, U, U, U, U, U, U, U, U, U, U, U, U, U, U, U, U, U, U, U, U, U, U, U, U, U, U, U, U, U, U, U, U, U, U, U, U, U, U, U, U, U, U, U, U, U, U, U, U, U, U, U, U, U, U, U, U, U, U, U, U, U, U, U, U, U, U, U, U, U, U, U, U, U, U, U, U, U, U, U, U, U, U, U, U, U, U, U, U, U, U, U, U, U, U, U, U, U, U, U], []⟩ u) := by
      refine Lib.hid fun u k5 k6 g6 hR => ?_
      have HR := Lib.hid hR
      clear hR
      refine HG1.out _ _ _ _ _ rfl ?_
      refine wpAnyH_ready (rs := [8]) (by kernel_rfl) (by simp) ?_
      refine AllReadyH.cons rfl (fun K hK => ?_) AllReadyH.nil
      · go_simp
        refine hK.out _ _ (HSS.out _ HR.out.al5.low) (fun hH => ?_)
        clear hK K hH
        (try simp only [Act.put, List.getElem_toArray, List.getElem_cons_succ, List.getElem_cons_zero, List.setIfInBounds_toArray, List.set_cons_zero, List.set_cons_succ])
        exact HG2.out _ _ _ _ _ (by kernel_rfl) (st236789.out _ _ _ _ _ HR.out.al5)
    have st2367 : Hid (∀ (u : World) (k5 k6 : Nat), RS W2 a b sa sb (some k5) (some k6) none none u → G 4 #[true, true, true, true, true, true, true, true, false, false, false, false] ⟨#[.agg #[.int .i64 a.op, .int .u64 (wd a.st 0 64 : Nat), .int .u64 (wd a.st 64 64 : Nat), .int .u64 (wd a.st 128 64 : Nat), .int .u64 (wd a.st 192 64 : Nat), .int .i64 a.lo, .int .i64 a.hi, .int .i64 a.g, sa], .agg #[.int .i64 b.op, .int .u64 (wd b.st 0 64 : Nat), .int .u64 (wd b.st 64 64 : Nat), .int .u64 (wd b.st 128 64 : Nat), .int .u64 (wd b.st 192 64 : Nat), .int .i64 b.lo, .int .i64 b.hi, .int .i64 b.g, sb], .pointer (some ⟨w.heap.size, 0, none⟩), .pointer (some ⟨w.heap.size + 1, 0, none⟩), .bool false, U, U, U, U, U, U, U, U, U, U, U, U, U, U, U, U, .agg #[.int .i64 a.op, .int .u64 (wd a.st 0 64 : Nat), .int .u64 (wd a.st 64 64 : Nat), .int .u64 (wd a.st 128 64 : Nat), .int .u64 (wd a.st 192 64 : Nat), .int .i64 a.lo, .int .i64 a.hi, .int .i64 a.g, sa], .agg #[.int .i64 b.op, .int .u64 (wd b.st 0 64 : Nat), .int .u64 (wd b.st 64 64 : Nat), .int .u64 (wd b.st 128 64 : Nat), .int .u64 (wd b.st 192 64 : Nat), .int .i64 b.lo, .int .i64 b.hi, .int .i64 b.g, sb], .slice (some ⟨k5, 0, none⟩) 2 2, .agg #[.int .i64 3, .int .u64 (wd noSet 0 64 : Nat), .int .u64 (wd noSet 64 64 : Nat), .int .u64 (wd noSet 128 64 : Nat), .int .u64 (wd noSet 192 64 : Nat), .int .i64 0, .int .i64 0, .int .i64 0, .slice (some ⟨k5, 0, none⟩) 2 2], .agg #[.int .i64 a.op, .int .u64 (wd a.st 0 64 : Nat), .int .u64 (wd a.st 64 64 : Nat), .int .u64 (wd a.st 128 64 : Nat), .int .u64 (wd a.st 192 64 : Nat), .int .i64 a.lo, .int .i64 a.hi, .int .i64 a.g, sa], .agg #[.int .i64 b.op, .int .u64 (wd b.st 0 64 : Nat), .int .u64 (wd b.st 64 64 : Nat), .int .u64 (wd b.st 128 64 : Nat), .int .u64 (wd b.st 192 64 : Nat), .int .i64 b.lo, .int .i64 b.hi, .int .i64 b.g, sb], .slice (some ⟨k6, 0, none⟩) 2 2, .agg #[.int .i64 4, .int .u64 (wd noSet 0 64 : Nat), .int .u64 (wd noSet 64 64 : Nat), .int .u64 (wd noSet 128 64 : Nat), .int .u64 (wd noSet 192 64 : Nat), .int .i64 0, .int .i64 0, .int .i64 0, .slice (some ⟨k6, 0, none⟩) 2 2], U, U, U, U, U, U, U, U, U, U, U, U, U, U, U, U, U, U, U, U, U, U, U, U, U, U, U, U, U, U, U, U, U, U, U, U, U, U, U, U, U, U, U, U, U, U, U, U, U, U, U, U, U, U, U, U, U, U, U, U, U, U, U, U, U, U, U, U, U, U, U, U, U, U, U, U, U, U, U, U, U, U, U, U, U, U, U, U, U, U, U, U, U, U, U, U, U, U, U, U, U, U, U, U, U, U, U, U, U, U, U, U, U, U, U, U, U, U, U, U, U, U, U, U, U, U, U, U, U, U, U, U, U, U, U, U, U, U, U, U, U, U, U, U, U, U, U, U, U, U, U, U, U, U], []⟩ u) := by
      refine Lib.hid fun u k5 k6 hR => ?_
      have HR := Lib.hid hR
      clear hR
      refine HG1.out _ _ _ _ _ rfl ?_
      refine wpAnyH_ready (rs := [8, 9]) (by kernel_rfl) (by simp) ?_
      refine AllReadyH.cons rfl (fun K hK => ?_) (AllReadyH.cons rfl (fun K hK => ?_) AllReadyH.nil)
      · go_simp
        refine hK.out _ _ (HSS.out _ HR.out.al5.low) (fun hH => ?_)
        clear hK K hH
        (try simp only [Act.put, List.getElem_toArray, List.getElem_cons_succ, List.getElem_cons_zero, List.setIfInBounds_toArray, List.set_cons_zero, List.set_cons_succ])
        exact HG2.out _ _ _ _ _ (by kernel_rfl) (st23678.out _ _ _ _ HR.out.al5)
      · go_simp
        refine hK.out _ _ (HSS.out _ HR.out.al6.low) (fun hH => ?_)
        clear hK K hH
        (try simp only [Act.put, List.getElem_toArray, List.getElem_cons_succ, List.getElem_cons_zero, List.setIfInBounds_toArray, List.set_cons_zero, List.set_cons_succ])
        exact HG2.out _ _ _ _ _ (by kernel_rfl) (st23679.out _ _ _ _ HR.out.al6)
    have st23689 : Hid (∀ (u : World) (k5 k6 g5 g6 : Nat), RS W2 a b sa sb (some k5) (some k6) (some g5) (some g6) u → G 3 #[true, true, true, true, true, true, true, false, true, true, false, false] ⟨#[.agg #[.int .i64 a.op, .int .u64 (wd a.st 0 64 : Nat), .int .u64 (wd a.st 64 64 : Nat), .int .u64 (wd a.st 128 64 : Nat), .int .u64 (wd a.st 192 64 : Nat), .int .i64 a.lo, .int .i64 a.hi, .int .i64 a.g, sa], .agg #[.int .i64 b.op, .int .u64 (wd b.st 0 64 : Nat), .int .u64 (wd b.st 64 64 : Nat), .int .u64 (wd b.st 128 64 : Nat), .int .u64 (wd b.st 192 64 : Nat), .int .i64 b.lo, .int .i64 b.hi, .int .i64 b.g, sb], .pointer (some ⟨w.heap.size, 0, none⟩), .pointer (some ⟨w.heap.size + 1, 0, none⟩), .bool false, .pointer (some ⟨g5, 0, none⟩), .pointer (some ⟨g6, 0, none⟩), U, U, U, U, U, U, U, U, U, U, U, U, U, U, .agg #[.int .i64 a.op, .int .u64 (wd a.st 0 64 : Nat), .int .u64 (wd a.st 64 64 : Nat), .int .u64 (wd a.st 128 64 : Nat), .int .u64 (wd a.st 192 64 : Nat), .int .i64 a.lo, .int .i64 a.hi, .int .i64 a.g, sa], .agg #[.int .i64 b.op, .int .u64 (wd b.st 0 64 : Nat), .int .u64 (wd b.st 64 64 : Nat), .int .u64 (wd b.st 128 64 : Nat), .int .u64 (wd b.st 192 64 : Nat), .int .i64 b.lo, .int .i64 b.hi, .int .i64 b.g, sb], .slice (some ⟨k5, 0, none⟩) 2 2, .agg #[.int .i64 3, .int .u64 (wd noSet 0 64 : Nat), .int .u64 (wd noSet 64 64 : Nat), .int .u64 (wd noSet 128 64 : Nat), .int .u64 (wd noSet 192 64 : Nat), .int .i64 0, .int .i64 0, .int .i64 0, .slice (some ⟨k5, 0, none⟩) 2 2], .agg #[.int .i64 a.op, .int .u64 (wd a.st 0 64 : Nat), .int .u64 (wd a.st 64 64 : Nat), .int .u64 (wd a.st 128 64 : Nat), .int .u64 (wd a.st 192 64 : Nat), .int .i64 a.lo, .int .i64 a.hi, .int .i64 a.g, sa], .agg #[.int .i64 b.op, .int .u64 (wd b.st 0 64 : Nat), .int .u64 (wd b.st 64 64 : Nat), .int .u64 (wd b.st 128 64 : Nat), .int .u64 (wd b.st 192 64 : Nat), .int .i64 b.lo, .int .i64 b.hi, .int .i64 b.g, sb], .slice (some ⟨k6, 0, none⟩) 2 2, U, U, U, U, U, U, U, U, U, U, U, U, U, U, U, U, U, U, U, U, U, U, U, U, U, U, U, U, U, U, U, U, U, U, U, U, U, U, U, U, U, U, U, U, U, U, U, U, U, U, U, U, U, U, U, U, U, U, U, U, U, U, U, U, U, U, U, U, U, U, U, U, U, U, U, U, U, U, U, U, U, U, U, U, U, U, U, U, U, U, U, U, U, U, U, U, U, U, U, U, U, U, U, U, U, U, U, U, U, U, U, U, U, U, U, U, U, U, U, U, U, U, U, U, U, U, U, U, U, U, U, U, U, U, U, U, U, U, U, U, U, U, U, U, U, U, U, U, U, U, U, U, U, U, U], []⟩ u) := by
      refine Lib.hid fun u k5 k6 g5 g6 hR => ?_
      have HR := Lib.hid hR
      clear hR
      refine HG1.out _ _ _ _ _ rfl ?_
      refine wpAnyH_ready (rs := [7]) (by kernel_rfl) (by simp) ?_
      refine AllReadyH.cons rfl (fun K hK => ?_) AllReadyH.nil
      · go_simp
        go_at_call 23
        refine (HNode.out _ _ _ _).mono ?_
        rintro e u2 ⟨rfl, hb⟩
        have HQ := Lib.hid (HR.out.call hb)
        clear hb
        refine hK.out _ _ (HSS.out _ HQ.out.low) (fun hH => ?_)
        clear hK K hH
        (try simp only [Act.put, List.getElem_toArray, List.getElem_cons_succ, List.getElem_cons_zero, List.setIfInBounds_toArray, List.set_cons_zero, List.set_cons_succ])
        exact HG2.out _ _ _ _ _ (by kernel_rfl) (st236789.out _ _ _ _ _ HQ.out)
    have st2368 : Hid (∀ (u : World) (k5 k6 g5 : Nat), RS W2 a b sa sb (some k5) (some k6) (some g5) none u → G 4 #[true, true, true, true, true, true, true, false, true, false, false, false] ⟨#[.agg #[.int .i64 a.op, .int .u64 (wd a.st 0 64 : Nat), .int .u64 (wd a.st 64 64 : Nat), .int .u64 (wd a.st 128 64 : Nat), .int .u64 (wd a.st 192 64 : Nat), .int .i64 a.lo, .int .i64 a.hi, .int .i64 a.g, sa], .agg #[.int .i64 b.op, .int .u64 (wd b.st 0 64 : Nat), .int .u64 (wd b.st 64 64 : Nat), .int .u64 (wd b.st 128 64 : Nat), .int .u64 (wd b.st 192 64 : Nat), .int .i64 b.lo, .int .i64 b.hi, .int .i64 b.g, sb], .pointer (some ⟨w.heap.size, 0, none⟩), .pointer (some ⟨w.heap.size + 1, 0, none⟩), .bool false, .pointer (some ⟨g5, 0, none⟩), U, U, U, U, U, U, U, U, U, U, U, U, U, U, U, .agg #[.int .i64 a.op, .int .u64 (wd a.st 0 64 : Nat), .int .u64 (wd a.st 64 64 : Nat), .int .u64 (wd a.st 128 64 : Nat), .int .u64 (wd a.st 192 64 : Nat), .int .i64 a.lo, .int .i64 a.hi, .int .i64 a.g, sa], .agg #[.int .i64 b.op, .int .u64 (wd b.st 0 64 : Nat), .int .u64 (wd b.st 64 64 : Nat), .int .u64 (wd b.st 128 64 : Nat), .int .u64 (wd b.st 192 64 : Nat), .int .i64 b.lo, .int .i64 b.hi, .int .i64 b.g, sb], .slice (some ⟨k5, 0, none⟩) 2 2, .agg #[.int .i64 3, .int .u64 (wd noSet 0 64 : Nat), .int .u64 (wd noSet 64 64 : Nat), .int .u64 (wd noSet 128 64 : Nat), .int .u64 (wd noSet 192 64 : Nat), .int .i64 0, .int .i64 0, .int .i64 0, .slice (some ⟨k5, 0, none⟩) 2 2], .agg #[.int .i64 a.op, .int .u64 (wd a.st 0 64 : Nat), .int .u64 (wd a.st 64 64 : Nat), .int .u64 (wd a.st 128 64 : Nat), .int .u64 (wd a.st 192 64 : Nat), .int .i64 a.lo, .int .i64 a.hi, .int .i64 a.g, sa], .agg #[.int .i64 b.op, .int .u64 (wd b.st 0 64 : Nat), .int .u64 (wd b.st 64 64 : Nat), .int .u64 (wd b.st 128 64 : Nat), .int .u64 (wd b.st 192 64 : Nat), .int .i64 b.lo, .int .i64 b.hi, .int .i64 b.g, sb], .slice (some ⟨k6, 0, none⟩) 2 2, U, U, U, U, U, U, U, U, U, U, U, U, U, U, U, U, U, U, U, U, U, U, U, U, U, U, U, U, U, U, U, U, U, U, U, U, U, U, U, U, U, U, U, U, U, U, U, U, U, U, U, U, U, U, U, U, U, U, U, U, U, U, U, U, U, U, U, U, U, U, U, U, U, U, U, U, U, U, U, U, U, U, U, U, U, U, U, U, U, U, U, U, U, U, U, U, U, U, U, U, U, U, U, U, U, U, U, U, U, U, U, U, U, U, U, U, U, U, U, U, U, U, U, U, U, U, U, U, U, U, U, U, U, U, U, U, U, U, U, U, U, U, U, U, U, U, U, U, U, U, U, U, U, U, U], []⟩ u) := by
      refine Lib.hid fun u k5 k6 g5 hR => ?_
      have HR := Lib.hid hR
      clear hR
      refine HG1.out _ _ _ _ _ rfl ?_
      refine wpAnyH_ready (rs := [7, 9]) (by kernel_rfl) (by simp) ?_
      refine AllReadyH.cons rfl (fun K hK => ?_) (AllReadyH.cons rfl (fun K hK => ?_) AllReadyH.nil)
      · go_simp
        go_at_call 23
        refine (HNode.out _ _ _ _).mono ?_
        rintro e u2 ⟨rfl, hb⟩
        have HQ := Lib.hid (HR.out.call hb)
        clear hb
        refine hK.out _ _ (HSS.out _ HQ.out.low) (fun hH => ?_)
        clear hK K hH
        (try simp only [Act.put, List.getElem_toArray, List.getElem_cons_succ, List.getElem_cons_zero, List.setIfInBounds_toArray, List.set_cons_zero, List.set_cons_succ])
        exact HG2.out _ _ _ _ _ (by kernel_rfl) (st23678.out _ _ _ _ HQ.out)
      · go_simp
        refine hK.out _ _ (HSS.out _ HR.out.al6.low) (fun hH => ?_)
        clear hK K hH
        (try simp only [Act.put, List.getElem_toArray, List.getElem_cons_succ, List.getElem_cons_zero, List.setIfInBounds_toArray, List.set_cons_zero, List.set_cons_succ])
        exact HG2.out _ _ _ _ _ (by kernel_rfl) (st23689.out _ _ _ _ _ HR.out.al6)
    have st2369 : Hid (∀ (u : World) (k5 k6 g6 : Nat), RS W2 a b sa sb (some k5) (some k6) none (some g6) u → G 4 #[true, true, true, true, true, true, true, false, false, true, false, false] ⟨#[.agg #[.int .i64 a.op, .int .u64 (wd a.st 0 64 : Nat), .int .u64 (wd a.st 64 64 : Nat), .int .u64 (wd a.st 128 64 : Nat), .int .u64 (wd a.st 192 64 : Nat), .int .i64 a.lo, .int .i64 a.hi, .int .i64 a.g, sa], .agg #[.int .i64 b.op, .int .u64 (wd b.st 0 64 : Nat), .int .u64 (wd b.st 64 64 : Nat), .int .u64 (wd b.st 128 64 : Nat), .int .u64 (wd b.st 192 64 : Nat), .int .i64 b.lo, .int .i64 b.hi, .int .i64 b.g, sb], .pointer (some ⟨w.heap.size, 0, none⟩), .pointer (some ⟨w.heap.size + 1, 0, none⟩), .bool false, U, .pointer (some ⟨g6, 0, none⟩), U, U, U, U, U, U, U, U, U, U, U, U, U, U, .agg #[.int .i64 a.op, .int .u64 (wd a.st 0 64 : Nat), .int .u64 (wd a.st 64 64 : Nat), .int .u64 (wd a.st 128 64 : Nat), .int .u64 (wd a.st 192 64 : Nat), .int .i64 a.lo, .int .i64 a.hi, .int .i64 a.g, sa], .agg #[.int .i64 b.op, .int .u64 (wd b.st 0 64 : Nat), .int .u64 (wd b.st 64 64 : Nat), .int .u64 (wd b.st 128 64 : Nat), .int .u64 (wd b.st 192 64 : Nat), .int .i64 b.lo, .int .i64 b.hi, .int .i64 b.g, sb], .slice (some ⟨k5, 0, none⟩) 2 2, .agg #[.int .i64 3, .int .u64 (wd noSet 0 64 : Nat), .int .u64 (wd noSet 64 64 : Nat), .int .u64 (wd noSet 128 64 : Nat), .int .u64 (wd noSet 192 64 : Nat), .int .i64 0, .int .i64 0, .int .i64 0, .slice (some ⟨k5, 0, none⟩) 2 2], .agg #[.int .i64 a.op, .int .u64 (wd a.st 0 64 : Nat), .int .u64 (wd a.st 64 64 : Nat), .int .u64 (wd a.st 128 64 : Nat), .int .u64 (wd a.st 192 64 : Nat), .int .i64 a.lo, .int .i64 a.hi, .int .i64 a.g, sa], .agg #[.int .i64 b.op, .int .u64 (wd b.st 0 64 : Nat), .int .u64 (wd b.st 64 64 : Nat), .int .u64 (wd b.st 128 64 : Nat), .int .u64 (wd b.st 192 64 : Nat), .int .i64 b.lo, .int .i64 b.hi, .int .i64 b.g, sb], .slice (some ⟨k6, 0, none⟩) 2 2, U, U, U, U, U, U, U, U, U, U, U, U, U, U, U, U, U, U, U, U, U, U, U, U, U, U, U, U, U, U, U, U, U, U, U, U, U, U, U, U, U, U, U, U, U, U, U, U, U, U, U, U, U, U, U, U, U, U, U, U, U, U, U, U, U, U, U, U, U, U, U, U, U, U, U, U, U, U, U, U, U, U, U, U, U, U, U, U, U, U, U, U, U, U, U, U, U, U, U, U, U, U, U, U, U, U, U, U, U, U, U, U, U, U, U, U, U, U, U, U, U, U, U, U, U, U, U, U, U, U, U, U, U, U, U, U, U, U, U, U, U, U, U, U, U, U, U, U, U, U, U, U, U, U, U], []⟩ u) := by
      refine Lib.hid fun u k5 k6 g6 hR => ?_
      have HR := Lib.hid hR
      clear hR
      refine HG1.out _ _ _ _ _ rfl ?_
      refine wpAnyH_ready (rs := [7, 8]) (by kernel_rfl) (by simp) ?_
      refine AllReadyH.cons rfl (fun K hK => ?_) (AllReadyH.cons rfl (fun K hK => ?_) AllReadyH.nil)
      · go_simp
        go_at_call 23
        refine (HNode.out _ _ _ _).mono ?_
        rintro e u2 ⟨rfl, hb⟩
        have HQ := Lib.hid (HR.out.call hb)
        clear hb
        refine hK.out _ _ (HSS.out _ HQ.out.low) (fun hH => ?_)
        clear hK K hH
        (try simp only [Act.put, List.getElem_toArray, List.getElem_cons_succ, List.getElem_cons_zero, List.setIfInBounds_toArray, List.set_cons_zero, List.set_cons_succ])
        exact HG2.out _ _ _ _ _ (by kernel_rfl) (st23679.out _ _ _ _ HQ.out)
      · go_simp
        refine hK.out _ _ (HSS.out _ HR.out.al5.low) (fun hH => ?_)
        clear hK K hH
        (try simp only [Act.put, List.getElem_toArray, List.getElem_cons_succ, List.getElem_cons_zero, List.setIfInBounds_toArray, List.set_cons_zero, List.set_cons_succ])
        exact HG2.out _ _ _ _ _ (by kernel_rfl) (st23689.out _ _ _ _ _ HR.out.al5)
    have st236 : Hid (∀ (u : World) (k5 k6 : Nat), RS W2 a b sa sb (some k5) (some k6) none none u → G 5 #[true, true, true, true, true, true, true, false, false, false, false, false] ⟨#[.agg #[.int .i64 a.op, .int .u64 (wd a.st 0 64 : Nat), .int .u64 (wd a.st 64 64 : Nat), .int .u64 (wd a.st 128 64 : Nat), .int .u64 (wd a.st 192 64 : Nat), .int .i64 a.lo, .int .i64 a.hi, .int .i64 a.g, sa], .agg #[.int .i64 b.op, .int .u64 (wd b.st 0 64 : Nat), .int .u64 (wd b.st 64 64 : Nat), .int .u64 (wd b.st 128 64 : Nat), .int .u64 (wd b.st 192 64 : Nat), .int .i64 b.lo, .int .i64 b.hi, .int .i64 b.g, sb], .pointer (some ⟨w.heap.size, 0, none⟩), .pointer (some ⟨w.heap.size + 1, 0, none⟩), .bool false, U, U, U, U, U, U, U, U, U, U, U, U, U, U, U, U, .agg #[.int .i64 a.op, .int .u64 (wd a.st 0 64 : Nat), .int .u64 (wd a.st 64 64 : Nat), .int .u64 (wd a.st 128 64 : Nat), .int .u64 (wd a.st 192 64 : Nat), .int .i64 a.lo, .int .i64 a.hi, .int .i64 a.g, sa], .agg #[.int .i64 b.op, .int .u64 (wd b.st 0 64 : Nat), .int .u64 (wd b.st 64 64 : Nat), .int .u64 (wd b.st 128 64 : Nat), .int .u64 (wd b.st 192 64 : Nat), .int .i64 b.lo, .int .i64 b.hi, .int .i64 b.g, sb], .slice (some ⟨k5, 0, none⟩) 2 2, .agg #[.int .i64 3, .int .u64 (wd noSet 0 64 : Nat), .int .u64 (wd noSet 64 64 : Nat), .int .u64 (wd noSet 128 64 : Nat), .int .u64 (wd noSet 192 64 : Nat), .int .i64 0, .int .i64 0, .int .i64 0, .slice (some ⟨k5, 0, none⟩) 2 2], .agg #[.int .i64 a.op, .int .u64 (wd a.st 0 64 : Nat), .int .u64 (wd a.st 64 64 : Nat), .int .u64 (wd a.st 128 64 : Nat), .int .u64 (wd a.st 192 64 : Nat), .int .i64 a.lo, .int .i64 a.hi, .int .i64 a.g, sa], .agg #[.int .i64 b.op, .int .u64 (wd b.st 0 64 : Nat), .int .u64 (wd b.st 64 64 : Nat), .int .u64 (wd b.st 128 64 : Nat), .int .u64 (wd b.st 192 64 : Nat), .int .i64 b.lo, .int .i64 b.hi, .int .i64 b.g, sb], .slice (some ⟨k6, 0, none⟩) 2 2, U, U, U, U, U, U, U, U, U, U, U, U, U, U, U, U, U, U, U, U, U, U, U, U, U, U, U, U, U, U, U, U, U, U, U, U, U, U, U, U, U, U, U, U, U, U, U, U, U, U, U, U, U, U, U, U, U, U, U, U, U, U, U, U, U, U, U, U, U, U, U, U, U, U, U, U, U, U, U, U, U, U, U, U, U, U, U, U, U, U, U, U, U, U, U, U, U, U, U, U, U, U, U, U, U, U, U, U, U, U, U, U, U, U, U, U, U, U, U, U, U, U, U, U, U, U, U, U, U, U, U, U, U, U, U, U, U, U, U, U, U, U, U, U, U, U, U, U, U, U, U, U, U, U, U], []⟩ u) := by
      refine Lib.hid fun u k5 k6 hR => ?_
      have HR := Lib.hid hR
      clear hR
      refine HG1.out _ _ _ _ _ rfl ?_
      refine wpAnyH_ready (rs := [7, 8, 9]) (by kernel_rfl) (by simp) ?_
      refine AllReadyH.cons rfl (fun K hK => ?_) (AllReadyH.cons rfl (fun K hK => ?_) (AllReadyH.cons rfl (fun K hK => ?_) AllReadyH.nil))
      · go_simp
        go_at_call 23
        refine (HNode.out _ _ _ _).mono ?_
        rintro e u2 ⟨rfl, hb⟩
        have HQ := Lib.hid (HR.out.call hb)
        clear hb
        refine hK.out _ _ (HSS.out _ HQ.out.low) (fun hH => ?_)
        clear hK K hH
        (try simp only [Act.put, List.getElem_toArray, List.getElem_cons_succ, List.getElem_cons_zero, List.setIfInBounds_toArray, List.set_cons_zero, List.set_cons_succ])
        exact HG2.out _ _ _ _ _ (by kernel_rfl) (st2367.out _ _ _ HQ.out)
      · go_simp
        refine hK.out _ _ (HSS.out _ HR.out.al5.low) (fun hH => ?_)
        clear hK K hH
        (try simp only [Act.put, List.getElem_toArray, List.getElem_cons_succ, List.getElem_cons_zero, List.setIfInBounds_toArray, List.set_cons_zero, List.set_cons_succ])
        exact HG2.out _ _ _ _ _ (by kernel_rfl) (st2368.out _ _ _ _ HR.out.al5)
      · go_simp
        refine hK.out _ _ (HSS.out _ HR.out.al6.low) (fun hH => ?_)
        clear hK K hH
        (try simp only [Act.put, List.getElem_toArray, List.getElem_cons_succ, List.getElem_cons_zero, List.setIfInBounds_toArray, List.set_cons_zero, List.set_cons_succ])
        exact HG2.out _ _ _ _ _ (by kernel_rfl) (st2369.out _ _ _ _ HR.out.al6)
    have st2389 : Hid (∀ (u : World) (k5 g5 g6 : Nat), RS W2 a b sa sb (some k5) none (some g5) (some g6) u → G 4 #[true, true, true, true, true, true, false, false, true, true, false, false] ⟨#[.agg #[.int .i64 a.op, .int .u64 (wd a.st 0 64 : Nat), .int .u64 (wd a.st 64 64 : Nat), .int .u64 (wd a.st 128 64 : Nat), .int .u64 (wd a.st 192 64 : Nat), .int .i64 a.lo, .int .i64 a.hi, .int .i64 a.g, sa], .agg #[.int .i64 b.op, .int .u64 (wd b.st 0 64 : Nat), .int .u64 (wd b.st 64 64 : Nat), .int .u64 (wd b.st 128 64 : Nat), .int .u64 (wd b.st 192 64 : Nat), .int .i64 b.lo, .int .i64 b.hi, .int .i64 b.g, sb], .pointer (some ⟨w.heap.size, 0, none⟩), .pointer (some ⟨w.heap.size + 1, 0, none⟩), .bool false, .pointer (some ⟨g5, 0, none⟩), .pointer (some ⟨g6, 0, none⟩), U, U, U, U, U, U, U, U, U, U, U, U, U, U, .agg #[.int .i64 a.op, .int .u64 (wd a.st 0 64 : Nat), .int .u64 (wd a.st 64 64 : Nat), .int .u64 (wd a.st 128 64 : Nat), .int .u64 (wd a.st 192 64 : Nat), .int .i64 a.lo, .int .i64 a.hi, .int .i64 a.g, sa], .agg #[.int .i64 b.op, .int .u64 (wd b.st 0 64 : Nat), .int .u64 (wd b.st 64 64 : Nat), .int .u64 (wd b.st 128 64 : Nat), .int .u64 (wd b.st 192 64 : Nat), .int .i64 b.lo, .int .i64 b.hi, .int .i64 b.g, sb], .slice (some ⟨k5, 0, none⟩) 2 2, .agg #[.int .i64 3, .int .u64 (wd noSet 0 64 : Nat), .int .u64 (wd noSet 64 64 : Nat), .int .u64 (wd noSet 128 64 : Nat), .int .u64 (wd noSet 192 64 : Nat), .int .i64 0, .int .i64 0, .int .i64 0, .slice (some ⟨k5, 0, none⟩) 2 2], .agg #[.int .i64 a.op, .int .u64 (wd a.st 0 64 : Nat), .int .u64 (wd a.st 64 64 : Nat), .int .u64 (wd a.st 128 64 : Nat), .int .u64 (wd a.st 192 64 : Nat), .int .i64 a.lo, .int .i64 a.hi, .int .i64 a.g, sa], .agg #[.int .i64 b.op, .int .u64 (wd b.st 0 64 : Nat), .int .u64 (wd b.st 64 64 : Nat), .int .u64 (wd b.st 128 64 : Nat), .int .u64 (wd b.st 192 64 : Nat), .int .i64 b.lo, .int .i64 b.hi, .int .i64 b.g, sb], U, U, U, U, U, U, U, U, U, U, U, U, U, U, U, U, U, U, U, U, U, U, U, U, U, U, U, U, U, U, U, U, U, U, U, U, U, U, U, U, U, U, U, U, U, U, U, U, U, U, U, U, U, U, U, U, U, U, U, U, U, U, U, U, U, U, U, U, U, U, U, U, U, U, U, U, U, U, U, U, U, U, U, U, U, U, U, U, U, U, U, U, U, U, U, U, U, U, U, U, U, U, U, U, U, U, U, U, U, U, U, U, U, U, U, U, U, U, U, U, U, U, U, U, U, U, U, U, U, U, U, U, U, U, U, U, U, U, U, U, U, U, U, U, U, U, U, U, U, U, U, U, U, U, U, U], []⟩ u) := by
      refine Lib.hid fun u k5 g5 g6 hR => ?_
      have HR := Lib.hid hR
      clear hR
      refine HG1.out _ _ _ _ _ rfl ?_
      refine wpAnyH_ready (rs := [6]) (by kernel_rfl) (by simp) ?_
      refine AllReadyH.cons rfl (fun K hK => ?_) AllReadyH.nil
      · go_simp
        refine hK.out _ _ (HSS.out _ HR.out.bs6.low) (fun hH => ?_)
        clear hK K hH
        (try simp only [Act.put, List.getElem_toArray, List.getElem_cons_succ, List.getElem_cons_zero, List.setIfInBounds_toArray, List.set_cons_zero, List.set_cons_succ])
        exact HG2.out _ _ _ _ _ (by kernel_rfl) (st23689.out _ _ _ _ _ HR.out.bs6)
    have st238 : Hid (∀ (u : World) (k5 g5 : Nat), RS W2 a b sa sb (some k5) none (some g5) none u → G 5 #[true, true, true, true, true, true, false, false, true, false, false, false] ⟨#[.agg #[.int .i64 a.op, .int .u64 (wd a.st 0 64 : Nat), .int .u64 (wd a.st 64 64 : Nat), .int .u64 (wd a.st 128 64 : Nat), .int .u64 (wd a.st 192 64 : Nat), .int .i64 a.lo, .int .i64 a.hi, .int .i64 a.g, sa], .agg #[.int .i64 b.op, .int .u64 (wd b.st 0 64 : Nat), .int .u64 (wd b.st 64 64 : Nat), .int .u64 (wd b.st 128 64 : Nat), .int .u64 (wd b.st 192 64 : Nat), .int .i64 b.lo, .int .i64 b.hi, .int .i64 b.g, sb], .pointer (some ⟨w.heap.size, 0, none⟩), .pointer (some ⟨w.heap.size + 1, 0, none⟩), .bool false, .pointer (some ⟨g5, 0, none⟩), U, U, U, U, U, U, U, U, U, U, U, U, U, U, U, .agg #[.int .i64 a.op, .int .u64 (wd a.st 0 64 : Nat), .int .u64 (wd a.st 64 64 : Nat), .int .u64 (wd a.st 128 64 : Nat), .int .u64 (wd a.st 192 64 : Nat), .int .i64 a.lo, .int .i64 a.hi, .int .i64 a.g, sa], .agg #[.int .i64 b.op, .int .u64 (wd b.st 0 64 : Nat), .int .u64 (wd b.st 64 64 : Nat), .int .u64 (wd b.st 128 64 : Nat), .int .u64 (wd b.st 192 64 : Nat), .int .i64 b.lo, .int .i64 b.hi, .int .i64 b.g, sb], .slice (some ⟨k5, 0, none⟩) 2 2, .agg #[.int .i64 3, .int .u64 (wd noSet 0 64 : Nat), .int .u64 (wd noSet 64 64 : Nat), .int .u64 (wd noSet 128 64 : Nat), .int .u64 (wd noSet 192 64 : Nat), .int .i64 0, .int .i64 0, .int .i64 0, .slice (some ⟨k5, 0, none⟩) 2 2], .agg #[.int .i64 a.op, .int .u64 (wd a.st 0 64 : Nat), .int .u64 (wd a.st 64 64 : Nat), .int .u64 (wd a.st 128 64 : Nat), .int .u64 (wd a.st 192 64 : Nat), .int .i64 a.lo, .int .i64 a.hi, .int .i64 a.g, sa], .agg #[.int .i64 b.op, .int .u64 (wd b.st 0 64 : Nat), .int .u64 (wd b.st 64 64 : Nat), .int .u64 (wd b.st 128 64 : Nat), .int .u64 (wd b.st 192 64 : Nat), .int .i64 b.lo, .int .i64 b.hi, .int .i64 b.g, sb], U, U, U, U, U, U, U, U, U, U, U, U, U, U, U, U, U, U, U, U, U, U, U, U, U, U, U, U, U, U, U, U, U, U, U, U, U, U, U, U, U, U, U, U, U, U, U, U, U, U, U, U, U, U, U, U, U, U, U, U, U, U, U, U, U, U, U, U, U, U, U, U, U, U, U, U, U, U, U, U, U, U, U, U, U, U, U, U, U, U, U, U, U, U, U, U, U, U, U, U, U, U, U, U, U, U, U, U, U, U, U, U, U, U, U, U, U, U, U, U, U, U, U, U, U, U, U, U, U, U, U, U, U, U, U, U, U, U, U, U, U, U, U, U, U, U, U, U, U, U, U, U, U, U, U, U], []⟩ u) := by
      refine Lib.hid fun u k5 g5 hR => ?_
      have HR := Lib.hid hR
      clear hR
      refine HG1.out _ _ _ _ _ rfl ?_
      refine wpAnyH_ready (rs := [6, 9]) (by kernel_rfl) (by simp) ?_
      refine AllReadyH.cons rfl (fun K hK => ?_) (AllReadyH.cons rfl (fun K hK => ?_) AllReadyH.nil)
      · go_simp
        refine hK.out _ _ (HSS.out _ HR.out.bs6.low) (fun hH => ?_)
        clear hK K hH
        (try simp only [Act.put, List.getElem_toArray, List.getElem_cons_succ, List.getElem_cons_zero, List.setIfInBounds_toArray, List.set_cons_zero, List.set_cons_succ])
        exact HG2.out _ _ _ _ _ (by kernel_rfl) (st2368.out _ _ _ _ HR.out.bs6)
      · go_simp
        refine hK.out _ _ (HSS.out _ HR.out.al6.low) (fun hH => ?_)
        clear hK K hH
        (try simp only [Act.put, List.getElem_toArray, List.getElem_cons_succ, List.getElem_cons_zero, List.setIfInBounds_toArray, List.set_cons_zero, List.set_cons_succ])
        exact HG2.out _ _ _ _ _ (by kernel_rfl) (st2389.out _ _ _ _ HR.out.al6)
    have st239 : Hid (∀ (u : World) (k5 g6 : Nat), RS W2 a b sa sb (some k5) none none (some g6) u → G 5 #[true, true, true, true, true, true, false, false, false, true, false, false] ⟨#[.agg #[.int .i64 a.op, .int .u64 (wd a.st 0 64 : Nat), .int .u64 (wd a.st 64 64 : Nat), .int .u64 (wd a.st 128 64 : Nat), .int .u64 (wd a.st 192 64 : Nat), .int .i64 a.lo, .int .i64 a.hi, .int .i64 a.g, sa], .agg #[.int .i64 b.op, .int .u64 (wd b.st 0 64 : Nat), .int .u64 (wd b.st 64 64 : Nat), .int .u64 (wd b.st 128 64 : Nat), .int .u64 (wd b.st 192 64 : Nat), .int .i64 b.lo, .int .i64 b.hi, .int .i64 b.g, sb], .pointer (some ⟨w.heap.size, 0, none⟩), .pointer (some ⟨w.heap.size + 1, 0, none⟩), .bool false, U, .pointer (some ⟨g6, 0, none⟩), U, U, U, U, U, U, U, U, U, U, U, U, U, U, .agg #[.int .i64 a.op, .int .u64 (wd a.st 0 64 : Nat), .int .u64 (wd a.st 64 64 : Nat), .int .u64 (wd a.st 128 64 : Nat), .int .u64 (wd a.st 192 64 : Nat), .int .i64 a.lo, .int .i64 a.hi, .int .i64 a.g, sa], .agg #[.int .i64 b.op, .int .u64 (wd b.st 0 64 : Nat), .int .u64 (wd b.st 64 64 : Nat), .int .u64 (wd b.st 128 64 : Nat), .int .u64 (wd b.st 192 64 : Nat), .int .i64 b.lo, .int .i64 b.hi, .int .i64 b.g, sb], .slice (some ⟨k5, 0, none⟩) 2 2, .agg #[.int .i64 3, .int .u64 (wd noSet 0 64 : Nat), .int .u64 (wd noSet 64 64 : Nat), .int .u64 (wd noSet 128 64 : Nat), .int .u64 (wd noSet 192 64 : Nat), .int .i64 0, .int .i64 0, .int .i64 0, .slice (some ⟨k5, 0, none⟩) 2 2], .agg #[.int .i64 a.op, .int .u64 (wd a.st 0 64 : Nat), .int .u64 (wd a.st 64 64 : Nat), .int .u64 (wd a.st 128 64 : Nat), .int .u64 (wd a.st 192 64 : Nat), .int .i64 a.lo, .int .i64 a.hi, .int .i64 a.g, sa], .agg #[.int .i64 b.op, .int .u64 (wd b.st 0 64 : Nat), .int .u64 (wd b.st 64 64 : Nat), .int .u64 (wd b.st 128 64 : Nat), .int .u64 (wd b.st 192 64 : Nat), .int .i64 b.lo, .int .i64 b.hi, .int .i64 b.g, sb], U, U, U, U, U, U, U, U, U, U, U, U, U, U, U, U, U, U, U, U, U, U, U, U, U, U, U, U, U, U, U, U, U, U, U, U, U, U, U, U, U, U, U, U, U, U, U, U, U, U, U, U, U, U, U, U, U, U, U, U, U, U, U, U, U, U, U, U, U, U, U, U, U, U, U, U, U, U, U, U, U, U, U, U, U, U, U, U, U, U, U, U, U, U, U, U, U, U, U, U, U, U, U, U, U, U, U, U, U, U, U, U, U, U, U, U, U, U, U, U, U, U, U, U, U, U, U, U, U, U, U, U, U, U, U, U, U, U, U, U, U, U, U, U, U, U, U, U, U, U, U, U, U, U, U, U], []⟩ u) := by
      refine Lib.hid fun u k5 g6 hR => ?_
      have HR := Lib.hid hR
      clear hR
      refine HG1.out _ _ _ _ _ rfl ?_
      refine wpAnyH_ready (rs := [6, 8]) (by kernel_rfl) (by simp) ?_
      refine AllReadyH.cons rfl (fun K hK => ?_) (AllReadyH.cons rfl (fun K hK => ?_) AllReadyH.nil)
      · go_simp
        refine hK.out _ _ (HSS.out _ HR.out.bs6.low) (fun hH => ?_)
        clear hK K hH
        (try simp only [Act.put, List.getElem_toArray, List.getElem_cons_succ, List.getElem_cons_zero, List.setIfInBounds_toArray, List.set_cons_zero, List.set_cons_succ])
        exact HG2.out _ _ _ _ _ (by kernel_rfl) (st2369.out _ _ _ _ HR.out.bs6)
      · go_simp
        refine hK.out _ _ (HSS.out _ HR.out.al5.low) (fun hH => ?_)
        clear hK K hH
        (try simp only [Act.put, List.getElem_toArray, List.getElem_cons_succ, List.getElem_cons_zero, List.setIfInBounds_toArray, List.set_cons_zero, List.set_cons_succ])
        exact HG2.out _ _ _ _ _ (by kernel_rfl) (st2389.out _ _ _ _ HR.out.al5)
    have st23 : Hid (∀ (u : World) (k5 : Nat), RS W2 a b sa sb (some k5) none none none u → G 6 #[true, true, true, true, true, true, false, false, false, false, false, false] ⟨#[.agg #[.int .i64 a.op, .int .u64 (wd a.st 0 64 : Nat), .int .u64 (wd a.st 64 64 : Nat), .int .u64 (wd a.st 128 64 : Nat), .int .u64 (wd a.st 192 64 : Nat), .int .i64 a.lo, .int .i64 a.hi, .int .i64 a.g, sa], .agg #[.int .i64 b.op, .int .u64 (wd b.st 0 64 : Nat), .int .u64 (wd b.st 64 64 : Nat), .int .u64 (wd b.st 128 64 : Nat), .int .u64 (wd b.st 192 64 : Nat), .int .i64 b.lo, .int .i64 b.hi, .int .i64 b.g, sb], .pointer (some ⟨w.heap.size, 0, none⟩), .pointer (some ⟨w.heap.size + 1, 0, none⟩), .bool false, U, U, U, U, U, U, U, U, U, U, U, U, U, U, U, U, .agg #[.int .i64 a.op, .int .u64 (wd a.st 0 64 : Nat), .int .u64 (wd a.st 64 64 : Nat), .int .u64 (wd a.st 128 64 : Nat), .int .u64 (wd a.st 192 64 : Nat), .int .i64 a.lo, .int .i64 a.hi, .int .i64 a.g, sa], .agg #[.int .i64 b.op, .int .u64 (wd b.st 0 64 : Nat), .int .u64 (wd b.st 64 64 : Nat), .int .u64 (wd b.st 128 64 : Nat), .int .u64 (wd b.st 192 64 : Nat), .int .i64 b.lo, .int .i64 b.hi, .int .i64 b.g, sb], .slice (some ⟨k5, 0, none⟩) 2 2, .agg #[.int .i64 3, .int .u64 (wd noSet 0 64 : Nat), .int .u64 (wd noSet 64 64 : Nat), .int .u64 (wd noSet 128 64 : Nat), .int .u64 (wd noSet 192 64 : Nat), .int .i64 0, .int .i64 0, .int .i64 0, .slice (some ⟨k5, 0, none⟩) 2 2], .agg #[.int .i64 a.op, .int .u64 (wd a.st 0 64 : Nat), .int .u64 (wd a.st 64 64 : Nat), .int .u64 (wd a.st 128 64 : Nat), .int .u64 (wd a.st 192 64 : Nat), .int .i64 a.lo, .int .i64 a.hi, .int .i64 a.g, sa], .agg #[.int .i64 b.op, .int .u64 (wd b.st 0 64 : Nat), .int .u64 (wd b.st 64 64 : Nat), .int .u64 (wd b.st 128 64 : Nat), .int .u64 (wd b.st 192 64 : Nat), .int .i64 b.lo, .int .i64 b.hi, .int .i64 b.g, sb], U, U, U, U, U, U, U, U, U, U, U, U, U, U, U, U, U, U, U, U, U, U, U, U, U, U, U, U, U, U, U, U, U, U, U, U, U, U, U, U, U, U, U, U, U, U, U, U, U, U, U, U, U, U, U, U, U, U, U, U, U, U, U, U, U, U, U, U, U, U, U, U, U, U, U, U, U, U, U, U, U, U, U, U, U, U, U, U, U, U, U, U, U, U, U, U, U, U, U, U, U, U, U, U, U, U, U, U, U, U, U, U, U, U, U, U, U, U, U, U, U, U, U, U, U, U, U, U, U, U, U, U, U, U, U, U, U, U, U, U, U, U, U, U, U, U, U, U, U, U, U, U, U, U, U, U], []⟩ u) := by
      refine Lib.hid fun u k5 hR => ?_
      have HR := Lib.hid hR
      clear hR
      refine HG1.out _ _ _ _ _ rfl ?_
      refine wpAnyH_ready (rs := [6, 8, 9]) (by kernel_rfl) (by simp) ?_
      refine AllReadyH.cons rfl (fun K hK => ?_) (AllReadyH.cons rfl (fun K hK => ?_) (AllReadyH.cons rfl (fun K hK => ?_) AllReadyH.nil))
      · go_simp
        refine hK.out _ _ (HSS.out _ HR.out.bs6.low) (fun hH => ?_)
        clear hK K hH
        (try simp only [Act.put, List.getElem_toArray, List.getElem_cons_succ, List.getElem_cons_zero, List.setIfInBounds_toArray, List.set_cons_zero, List.set_cons_succ])
        exact HG2.out _ _ _ _ _ (by kernel_rfl) (st236.out _ _ _ HR.out.bs6)
      · go_simp
        refine hK.out _ _ (HSS.out _ HR.out.al5.low) (fun hH => ?_)
        clear hK K hH
        (try simp only [Act.put, List.getElem_toArray, List.getElem_cons_succ, List.getElem_cons_zero, List.setIfInBounds_toArray, List.set_cons_zero, List.set_cons_succ])
        exact HG2.out _ _ _ _ _ (by kernel_rfl) (st238.out _ _ _ HR.out.al5)
      · go_simp
        refine hK.out _ _ (HSS.out _ HR.out.al6.low) (fun hH => ?_)
        clear hK K hH
        (try simp only [Act.put, List.getElem_toArray, List.getElem_cons_succ, List.getElem_cons_zero, List.setIfInBounds_toArray, List.set_cons_zero, List.set_cons_succ])
        exact HG2.out _ _ _ _ _ (by kernel_rfl) (st239.out _ _ _ HR.out.al6)
    have st2689 : Hid (∀ (u : World) (k5 k6 g5 g6 : Nat), RS W2 a b sa sb (some k5) (some k6) (some g5) (some g6) u → G 4 #[true, true, true, false, true, true, true, false, true, true, false, false] ⟨#[.agg #[.int .i64 a.op, .int .u64 (wd a.st 0 64 : Nat), .int .u64 (wd a.st 64 64 : Nat), .int .u64 (wd a.st 128 64 : Nat), .int .u64 (wd a.st 192 64 : Nat), .int .i64 a.lo, .int .i64 a.hi, .int .i64 a.g, sa], .agg #[.int .i64 b.op, .int .u64 (wd b.st 0 64 : Nat), .int .u64 (wd b.st 64 64 : Nat), .int .u64 (wd b.st 128 64 : Nat), .int .u64 (wd b.st 192 64 : Nat), .int .i64 b.lo, .int .i64 b.hi, .int .i64 b.g, sb], .pointer (some ⟨w.heap.size, 0, none⟩), .pointer (some ⟨w.heap.size + 1, 0, none⟩), .bool false, .pointer (some ⟨g5, 0, none⟩), .pointer (some ⟨g6, 0, none⟩), U, U, U, U, U, U, U, U, U, U, U, U, U, U, .agg #[.int .i64 a.op, .int .u64 (wd a.st 0 64 : Nat), .int .u64 (wd a.st 64 64 : Nat), .int .u64 (wd a.st 128 64 : Nat), .int .u64 (wd a.st 192 64 : Nat), .int .i64 a.lo, .int .i64 a.hi, .int .i64 a.g, sa], .agg #[.int .i64 b.op, .int .u64 (wd b.st 0 64 : Nat), .int .u64 (wd b.st 64 64 : Nat), .int .u64 (wd b.st 128 64 : Nat), .int .u64 (wd b.st 192 64 : Nat), .int .i64 b.lo, .int .i64 b.hi, .int .i64 b.g, sb], .slice (some ⟨k5, 0, none⟩) 2 2, U, .agg #[.int .i64 a.op, .int .u64 (wd a.st 0 64 : Nat), .int .u64 (wd a.st 64 64 : Nat), .int .u64 (wd a.st 128 64 : Nat), .int .u64 (wd a.st 192 64 : Nat), .int .i64 a.lo, .int .i64 a.hi, .int .i64 a.g, sa], .agg #[.int .i64 b.op, .int .u64 (wd b.st 0 64 : Nat), .int .u64 (wd b.st 64 64 : Nat), .int .u64 (wd b.st 128 64 : Nat), .int .u64 (wd b.st 192 64 : Nat), .int .i64 b.lo, .int .i64 b.hi, .int .i64 b.g, sb], .slice (some ⟨k6, 0, none⟩) 2 2, U, U, U, U, U, U, U, U, U, U, U, U, U, U, U, U, U, U, U, U, U, U, U, U, U, U, U, U, U, U, U, U, U, U, U, U, U, U, U, U, U, U, U, U, U, U, U, U, U, U, U, U, U, U, U, U, U, U, U, U, U, U, U, U, U, U, U, U, U, U, U, U, U, U, U, U, U, U, U, U, U, U, U, U, U, U, U, U, U, U, U, U, U, U, U, U, U, U, U, U, U, U, U, U, U, U, U, U, U, U, U, U, U, U, U, U, U, U, U, U, U, U, U, U, U, U, U, U, U, U, U, U, U, U, U, U, U, U, U, U, U, U, U, U, U, U, U, U, U, U, U, U, U, U, U], []⟩ u) := by
      refine Lib.hid fun u k5 k6 g5 g6 hR => ?_
      have HR := Lib.hid hR
      clear hR
      refine HG1.out _ _ _ _ _ rfl ?_
      refine wpAnyH_ready (rs := [3]) (by kernel_rfl) (by simp) ?_
      refine AllReadyH.cons rfl (fun K hK => ?_) AllReadyH.nil
      · go_simp
        go_at_call 23
        refine (HNode.out _ _ _ _).mono ?_
        rintro e u2 ⟨rfl, hb⟩
        have HQ := Lib.hid (HR.out.call hb)
        clear hb
        refine hK.out _ _ (HSS.out _ HQ.out.low) (fun hH => ?_)
        clear hK K hH
        (try simp only [Act.put, List.getElem_toArray, List.getElem_cons_succ, List.getElem_cons_zero, List.setIfInBounds_toArray, List.set_cons_zero, List.set_cons_succ])
        exact HG2.out _ _ _ _ _ (by kernel_rfl) (st23689.out _ _ _ _ _ HQ.out)
    have st268 : Hid (∀ (u : World) (k5 k6 g5 : Nat), RS W2 a b sa sb (some k5) (some k6) (some g5) none u → G 5 #[true, true, true, false, true, true, true, false, true, false, false, false] ⟨#[.agg #[.int .i64 a.op, .int .u64 (wd a.st 0 64 : Nat), .int .u64 (wd a.st 64 64 : Nat), .int .u64 (wd a.st 128 64 : Nat), .int .u64 (wd a.st 192 64 : Nat), .int .i64 a.lo, .int .i64 a.hi, .int .i64 a.g, sa], .agg #[.int .i64 b.op, .int .u64 (wd b.st 0 64 : Nat), .int .u64 (wd b.st 64 64 : Nat), .int .u64 (wd b.st 128 64 : Nat), .int .u64 (wd b.st 192 64 : Nat), .int .i64 b.lo, .int .i64 b.hi, .int .i64 b.g, sb], .pointer (some ⟨w.heap.size, 0, none⟩), .pointer (some ⟨w.heap.size + 1, 0, none⟩), .bool false, .pointer (some ⟨g5, 0, none⟩), U, U, U, U, U, U, U, U, U, U, U, U, U, U, U, .agg #[.int .i64 a.op, .int .u64 (wd a.st 0 64 : Nat), .int .u64 (wd a.st 64 64 : Nat), .int .u64 (wd a.st 128 64 : Nat), .int .u64 (wd a.st 192 64 : Nat), .int .i64 a.lo, .int .i64 a.hi, .int .i64 a.g, sa], .agg #[.int .i64 b.op, .int .u64 (wd b.st 0 64 : Nat), .int .u64 (wd b.st 64 64 : Nat), .int .u64 (wd b.st 128 64 : Nat), .int .u64 (wd b.st 192 64 : Nat), .int .i64 b.lo, .int .i64 b.hi, .int .i64 b.g, sb], .slice (some ⟨k5, 0, none⟩) 2 2, U, .agg #[.int .i64 a.op, .int .u64 (wd a.st 0 64 : Nat), .int .u64 (wd a.st 64 64 : Nat), .int .u64 (wd a.st 128 64 : Nat), .int .u64 (wd a.st 192 64 : Nat), .int .i64 a.lo, .int .i64 a.hi, .int .i64 a.g, sa], .agg #[.int .i64 b.op, .int .u64 (wd b.st 0 64 : Nat), .int .u64 (wd b.st 64 64 : Nat), .int .u64 (wd b.st 128 64 : Nat), .int .u64 (wd b.st 192 64 : Nat), .int .i64 b.lo, .int .i64 b.hi, .int .i64 b.g, sb], .slice (some ⟨k6, 0, none⟩) 2 2, U, U, U, U, U, U, U, U, U, U, U, U, U, U, U, U, U, U, U, U, U, U, U, U, U, U, U, U, U, U, U, U, U, U, U, U, U, U, U, U, U, U, U, U, U, U, U, U, U, U, U, U, U, U, U, U, U, U, U, U, U, U, U, U, U, U, U, U, U, U, U, U, U, U, U, U, U, U, U, U, U, U, U, U, U, U, U, U, U, U, U, U, U, U, U, U, U, U, U, U, U, U, U, U, U, U, U, U, U, U, U, U, U, U, U, U, U, U, U, U, U, U, U, U, U, U, U, U, U, U, U, U, U, U, U, U, U, U, U, U, U, U, U, U, U, U, U, U, U, U, U, U, U, U, U], []⟩ u) := by
      refine Lib.hid fun u k5 k6 g5 hR => ?_
      have HR := Lib.hid hR
      clear hR
      refine HG1.out _ _ _ _ _ rfl ?_
      refine wpAnyH_ready (rs := [3, 9]) (by kernel_rfl) (by simp) ?_
      refine AllReadyH.cons rfl (fun K hK => ?_) (AllReadyH.cons rfl (fun K hK => ?_) AllReadyH.nil)
      · go_simp
        go_at_call 23
        refine (HNode.out _ _ _ _).mono ?_
        rintro e u2 ⟨rfl, hb⟩
        have HQ := Lib.hid (HR.out.call hb)
        clear hb
        refine hK.out _ _ (HSS.out _ HQ.out.low) (fun hH => ?_)
        clear hK K hH
        (try simp only [Act.put, List.getElem_toArray, List.getElem_cons_succ, List.getElem_cons_zero, List.setIfInBounds_toArray, List.set_cons_zero, List.set_cons_succ])
        exact HG2.out _ _ _ _ _ (by kernel_rfl) (st2368.out _ _ _ _ HQ.out)
      · go_simp
        refine hK.out _ _ (HSS.out _ HR.out.al6.low) (fun hH => ?_)
        clear hK K hH
        (try simp only [Act.put, List.getElem_toArray, List.getElem_cons_succ, List.getElem_cons_zero, List.setIfInBounds_toArray, List.set_cons_zero, List.set_cons_succ])
        exact HG2.out _ _ _ _ _ (by kernel_rfl) (st2689.out _ _ _ _ _ HR.out.al6)
    have st269 : Hid (∀ (u : World) (k5 k6 g6 : Nat), RS W2 a b sa sb (some k5) (some k6) none (some g6) u → G 5 #[true, true, true, false, true, true, true, false, false, true, false, false] ⟨#[.agg #[.int .i64 a.op, .int .u64 (wd a.st 0 64 : Nat), .int .u64 (wd a.st 64 64 : Nat), .int .u64 (wd a.st 128 64 : Nat), .int .u64 (wd a.st 192 64 : Nat), .int .i64 a.lo, .int .i64 a.hi, .int .i64 a.g, sa], .agg #[.int .i64 b.op, .int .u64 (wd b.st 0 64 : Nat), .int .u64 (wd b.st 64 64 : Nat), .int .u64 (wd b.st 128 64 : Nat), .int .u64 (wd b.st 192 64 : Nat), .int .i64 b.lo, .int .i64 b.hi, .int .i64 b.g, sb], .pointer (some ⟨w.heap.size, 0, none⟩), .pointer (some ⟨w.heap.size + 1, 0, none⟩), .bool false, U, .pointer (some ⟨g6, 0, none⟩), U, U, U, U, U, U, U, U, U, U, U, U, U, U, .agg #[.int .i64 a.op, .int .u64 (wd a.st 0 64 : Nat), .int .u64 (wd a.st 64 64 : Nat), .int .u64 (wd a.st 128 64 : Nat), .int .u64 (wd a.st 192 64 : Nat), .int .i64 a.lo, .int .i64 a.hi, .int .i64 a.g, sa], .agg #[.int .i64 b.op, .int .u64 (wd b.st 0 64 : Nat), .int .u64 (wd b.st 64 64 : Nat), .int .u64 (wd b.st 128 64 : Nat), .int .u64 (wd b.st 192 64 : Nat), .int .i64 b.lo, .int .i64 b.hi, .int .i64 b.g, sb], .slice (some ⟨k5, 0, none⟩) 2 2, U, .agg #[.int .i64 a.op, .int .u64 (wd a.st 0 64 : Nat), .int .u64 (wd a.st 64 64 : Nat), .int .u64 (wd a.st 128 64 : Nat), .int .u64 (wd a.st 192 64 : Nat), .int .i64 a.lo, .int .i64 a.hi, .int .i64 a.g, sa], .agg #[.int .i64 b.op, .int .u64 (wd b.st 0 64 : Nat), .int .u64 (wd b.st 64 64 : Nat), .int .u64 (wd b.st 128 64 : Nat), .int .u64 (wd b.st 192 64 : Nat), .int .i64 b.lo, .int .i64 b.hi, .int .i64 b.g, sb], .slice (some ⟨k6, 0, none⟩) 2 2, U, U, U, U, U, U, U, U, U, U, U, U, U, U, U, U, U, U, U, U, U, U, U, U, U, U, U, U, U, U, U, U, U, U, U, U, U, U, U, U, U, U, U, U, U, U, U, U, U, U, U, U, U, U, U, U, U, U, U, U, U, U, U, U, U, U, U, U, U, U, U, U, U, U, U, U, U, U, U, U, U, U, U, U, U, U, U, U, U, U, U, U, U, U, U, U, U, U, U, U, U, U, U, U, U, U, U, U, U, U, U, U, U, U, U, U, U, U, U, U, U, U, U, U, U, U, U, U, U, U, U, U, U, U, U, U, U, U, U, U, U, U, U, U, U, U, U, U, U, U, U, U, U, U, U], []⟩ u) := by
      refine Lib.hid fun u k5 k6 g6 hR => ?_
      have HR := Lib.hid hR
      clear hR
      refine HG1.out _ _ _ _ _ rfl ?_
      refine wpAnyH_ready (rs := [3, 8]) (by kernel_rfl) (by simp) ?_
      refine AllReadyH.cons rfl (fun K hK => ?_) (AllReadyH.cons rfl (fun K hK => ?_) AllReadyH.nil)
      · go_simp
        go_at_call 23
        refine (HNode.out _ _ _ _).mono ?_
        rintro e u2 ⟨rfl, hb⟩
        have HQ := Lib.hid (HR.out.call hb)
        clear hb
        refine hK.out _ _ (HSS.out _ HQ.out.low) (fun hH => ?_)
        clear hK K hH
        (try simp only [Act.put, List.getElem_toArray, List.getElem_cons_succ, List.getElem_cons_zero, List.setIfInBounds_toArray, List.set_cons_zero, List.set_cons_succ])
        exact HG2.out _ _ _ _ _ (by kernel_rfl) (st2369.out _ _ _ _ HQ.out)
      · go_simp
        refine hK.out _ _ (HSS.out _ HR.out.al5.low) (fun hH => ?_)
        clear hK K hH
        (try simp only [Act.put, List.getElem_toArray, List.getElem_cons_succ, List.getElem_cons_zero, List.setIfInBounds_toArray, List.set_cons_zero, List.set_cons_succ])
        exact HG2.out _ _ _ _ _ (by kernel_rfl) (st2689.out _ _ _ _ _ HR.out.al5)
    have st26 : Hid (∀ (u : World) (k5 k6 : Nat), RS W2 a b sa sb (some k5) (some k6) none none u → G 6 #[true, true, true, false, true, true, true, false, false, false, false, false] ⟨#[.agg #[.int .i64 a.op, .int .u64 (wd a.st 0 64 : Nat), .int .u64 (wd a.st 64 64 : Nat), .int .u64 (wd a.st 128 64 : Nat), .int .u64 (wd a.st 192 64 : Nat), .int .i64 a.lo, .int .i64 a.hi, .int .i64 a.g, sa], .agg #[.int .i64 b.op, .int .u64 (wd b.st 0 64 : Nat), .int .u64 (wd b.st 64 64 : Nat), .int .u64 (wd b.st 128 64 : Nat), .int .u64 (wd b.st 192 64 : Nat), .int .i64 b.lo, .int .i64 b.hi, .int .i64 b.g, sb], .pointer (some ⟨w.heap.size, 0, none⟩), .pointer (some ⟨w.heap.size + 1, 0, none⟩), .bool false, U, U, U, U, U, U, U, U, U, U, U, U, U, U, U, U, .agg #[.int .i64 a.op, .int .u64 (wd a.st 0 64 : Nat), .int .u64 (wd a.st 64 64 : Nat), .int .u64 (wd a.st 128 64 : Nat), .int .u64 (wd a.st 192 64 : Nat), .int .i64 a.lo, .int .i64 a.hi, .int .i64 a.g, sa], .agg #[.int .i64 b.op, .int .u64 (wd b.st 0 64 : Nat), .int .u64 (wd b.st 64 64 : Nat), .int .u64 (wd b.st 128 64 : Nat), .int .u64 (wd b.st 192 64 : Nat), .int .i64 b.lo, .int .i64 b.hi, .int .i64 b.g, sb], .slice (some ⟨k5, 0, none⟩) 2 2, U, .agg #[.int .i64 a.op, .int .u64 (wd a.st 0 64 : Nat), .int .u64 (wd a.st 64 64 : Nat), .int .u64 (wd a.st 128 64 : Nat), .int .u64 (wd a.st 192 64 : Nat), .int .i64 a.lo, .int .i64 a.hi, .int .i64 a.g, sa], .agg #[.int .i64 b.op, .int .u64 (wd b.st 0 64 : Nat), .int .u64 (wd b.st 64 64 : Nat), .int .u64 (wd b.st 128 64 : Nat), .int .u64 (wd b.st 192 64 : Nat), .int .i64 b.lo, .int .i64 b.hi, .int .i64 b.g, sb], .slice (some ⟨k6, 0, none⟩) 2 2, U, U, U, U, U, U, U, U, U, U, U, U, U, U, U, U, U, U, U, U, U, U, U, U, U, U, U, U, U, U, U, U, U, U, U, U, U, U, U, U, U, U, U, U, U, U, U, U, U, U, U, U, U, U, U, U, U, U, U, U, U, U, U, U, U, U, U, U, U, U, U, U, U, U, U, U, U, U, U, U, U, U, U, U, U, U, U, U, U, U, U, U, U, U, U, U, U, U, U, U, U, U, U, U, U, U, U, U, U, U, U, U, U, U, U, U, U, U, U, U, U, U, U, U, U, U, U, U, U, U, U, U, U, U, U, U, U, U, U, U, U, U, U, U, U, U, U, U, U, U, U, U, U, U, U], []⟩ u) := by
      refine Lib.hid fun u k5 k6 hR => ?_
      have HR := Lib.hid hR
      clear hR
      refine HG1.out _ _ _ _ _ rfl ?_
      refine wpAnyH_ready (rs := [3, 8, 9]) (by kernel_rfl) (by simp) ?_
      refine AllReadyH.cons rfl (fun K hK => ?_) (AllReadyH.cons rfl (fun K hK => ?_) (AllReadyH.cons rfl (fun K hK => ?_) AllReadyH.nil))
      · go_simp
        go_at_call 23
        refine (HNode.out _ _ _ _).mono ?_
        rintro e u2 ⟨rfl, hb⟩
        have HQ := Lib.hid (HR.out.call hb)
        clear hb
        refine hK.out _ _ (HSS.out _ HQ.out.low) (fun hH => ?_)
        clear hK K hH
        (try simp only [Act.put, List.getElem_toArray, List.getElem_cons_succ, List.getElem_cons_zero, List.setIfInBounds_toArray, List.set_cons_zero, List.set_cons_succ])
        exact HG2.out _ _ _ _ _ (by kernel_rfl) (st236.out _ _ _ HQ.out)
      · go_simp
        refine hK.out _ _ (HSS.out _ HR.out.al5.low) (fun hH => ?_)
        clear hK K hH
        (try simp only [Act.put, List.getElem_toArray, List.getElem_cons_succ, List.getElem_cons_zero, List.setIfInBounds_toArray, List.set_cons_zero, List.set_cons_succ])
        exact HG2.out _ _ _ _ _ (by kernel_rfl) (st268.out _ _ _ _ HR.out.al5)
      · go_simp
        refine hK.out _ _ (HSS.out _ HR.out.al6.low) (fun hH => ?_)
        clear hK K hH
        (try simp only [Act.put, List.getElem_toArray, List.getElem_cons_succ, List.getElem_cons_zero, List.setIfInBounds_toArray, List.set_cons_zero, List.set_cons_succ])
        exact HG2.out _ _ _ _ _ (by kernel_rfl) (st269.out _ _ _ _ HR.out.al6)
    have st289 : Hid (∀ (u : World) (k5 g5 g6 : Nat), RS W2 a b sa sb (some k5) none (some g5) (some g6) u → G 5 #[true, true, true, false, true, true, false, false, true, true, false, false] ⟨#[.agg #[.int .i64 a.op, .int .u64 (wd a.st 0 64 : Nat), .int .u64 (wd a.st 64 64 : Nat), .int .u64 (wd a.st 128 64 : Nat), .int .u64 (wd a.st 192 64 : Nat), .int .i64 a.lo, .int .i64 a.hi, .int .i64 a.g, sa], .agg #[.int .i64 b.op, .int .u64 (wd b.st 0 64 : Nat), .int .u64 (wd b.st 64 64 : Nat), .int .u64 (wd b.st 128 64 : Nat), .int .u64 (wd b.st 192 64 : Nat), .int .i64 b.lo, .int .i64 b.hi, .int .i64 b.g, sb], .pointer (some ⟨w.heap.size, 0, none⟩), .pointer (some ⟨w.heap.size + 1, 0, none⟩), .bool false, .pointer (some ⟨g5, 0, none⟩), .pointer (some ⟨g6, 0, none⟩), U, U, U, U, U, U, U, U, U, U, U, U, U, U, .agg #[.int .i64 a.op, .int .u64 (wd a.st 0 64 : Nat), .int .u64 (wd a.st 64 64 : Nat), .int .u64 (wd a.st 128 64 : Nat), .int .u64 (wd a.st 192 64 : Nat), .int .i64 a.lo, .int .i64 a.hi, .int .i64 a.g, sa], .agg #[.int .i64 b.op, .int .u64 (wd b.st 0 64 : Nat), .int .u64 (wd b.st 64 64 : Nat), .int .u64 (wd b.st 128 64 : Nat), .int .u64 (wd b.st 192 64 : Nat), .int .i64 b.lo, .int .i64 b.hi, .int .i64 b.g, sb], .slice (some ⟨k5, 0, none⟩) 2 2, U, .agg #[.int .i64 a.op, .int .u64 (wd a.st 0 64 : Nat), .int .u64 (wd a.st 64 64 : Nat), .int .u64 (wd a.st 128 64 : Nat), .int .u64 (wd a.st 192 64 : Nat), .int .i64 a.lo, .int .i64 a.hi, .int .i64 a.g, sa], .agg #[.int .i64 b.op, .int .u64 (wd b.st 0 64 : Nat), .int .u64 (wd b.st 64 64 : Nat), .int .u64 (wd b.st 128 64 : Nat), .int .u64 (wd b.st 192 64 : Nat), .int .i64 b.lo, .int .i64 b.hi, .int .i64 b.g, sb], U, U, U, U, U, U, U, U, U, U, U, U, U, U, U, U, U, U, U, U, U, U, U, U, U, U, U, U, U, U, U, U, U, U, U, U, U, U, U, U, U, U, U, U, U, U, U, U, U, U, U, U, U, U, U, U, U, U, U, U, U, U, U, U, U, U, U, U, U, U, U, U, U, U, U, U, U, U, U, U, U, U, U, U, U, U, U, U, U, U, U, U, U, U, U, U, U, U, U, U, U, U, U, U, U, U, U, U, U, U, U, U, U, U, U, U, U, U, U, U, U, U, U, U, U, U, U, U, U, U, U, U, U, U, U, U, U, U, U, U, U, U, U, U, U, U, U, U, U, U, U, U, U, U, U, U], []⟩ u) := by
      refine Lib.hid fun u k5 g5 g6 hR => ?_
      have HR := Lib.hid hR
      clear hR
      refine HG1.out _ _ _ _ _ rfl ?_
      refine wpAnyH_ready (rs := [3, 6]) (by kernel_rfl) (by simp) ?_
      refine AllReadyH.cons rfl (fun K hK => ?_) (AllReadyH.cons rfl (fun K hK => ?_) AllReadyH.nil)
      · go_simp
        go_at_call 23
        refine (HNode.out _ _ _ _).mono ?_
        rintro e u2 ⟨rfl, hb⟩
        have HQ := Lib.hid (HR.out.call hb)
        clear hb
        refine hK.out _ _ (HSS.out _ HQ.out.low) (fun hH => ?_)
        clear hK K hH
        (try simp only [Act.put, List.getElem_toArray, List.getElem_cons_succ, List.getElem_cons_zero, List.setIfInBounds_toArray, List.set_cons_zero, List.set_cons_succ])
        exact HG2.out _ _ _ _ _ (by kernel_rfl) (st2389.out _ _ _ _ HQ.out)
      · go_simp
        refine hK.out _ _ (HSS.out _ HR.out.bs6.low) (fun hH => ?_)
        clear hK K hH
        (try simp only [Act.put, List.getElem_toArray, List.getElem_cons_succ, List.getElem_cons_zero, List.setIfInBounds_toArray, List.set_cons_zero, List.set_cons_succ])
        exact HG2.out _ _ _ _ _ (by kernel_rfl) (st2689.out _ _ _ _ _ HR.out.bs6)
    have st28 : Hid (∀ (u : World) (k5 g5 : Nat), RS W2 a b sa sb (some k5) none (some g5) none u → G 6 #[true, true, true, false, true, true, false, false, true, false, false, false] ⟨#[.agg #[.int .i64 a.op, .int .u64 (wd a.st 0 64 : Nat), .int .u64 (wd a.st 64 64 : Nat), .int .u64 (wd a.st 128 64 : Nat), .int .u64 (wd a.st 192 64 : Nat), .int .i64 a.lo, .int .i64 a.hi, .int .i64 a.g, sa], .agg #[.int .i64 b.op, .int .u64 (wd b.st 0 64 : Nat), .int .u64 (wd b.st 64 64 : Nat), .int .u64 (wd b.st 128 64 : Nat), .int .u64 (wd b.st 192 64 : Nat), .int .i64 b.lo, .int .i64 b.hi, .int .i64 b.g, sb], .pointer (some ⟨w.heap.size, 0, none⟩), .pointer (some ⟨w.heap.size + 1, 0, none⟩), .bool false, .pointer (some ⟨g5, 0, none⟩), U, U, U, U, U, U, U, U, U, U, U, U, U, U, U, .agg #[.int .i64 a.op, .int .u64 (wd a.st 0 64 : Nat), .int .u64 (wd a.st 64 64 : Nat), .int .u64 (wd a.st 128 64 : Nat), .int .u64 (wd a.st 192 64 : Nat), .int .i64 a.lo, .int .i64 a.hi, .int .i64 a.g, sa], .agg #[.int .i64 b.op, .int .u64 (wd b.st 0 64 : Nat), .int .u64 (wd b.st 64 64 : Nat), .int .u64 (wd b.st 128 64 : Nat), .int .u64 (wd b.st 192 64 : Nat), .int .i64 b.lo, .int .i64 b.hi, .int .i64 b.g, sb], .slice (some ⟨k5, 0, none⟩) 2 2, U, .agg #[.int .i64 a.op, .int .u64 (wd a.st 0 64 : Nat), .int .u64 (wd a.st 64 64 : Nat), .int .u64 (wd a.st 128 64 : Nat), .int .u64 (wd a.st 192 64 : Nat), .int .i64 a.lo, .int .i64 a.hi, .int .i64 a.g, sa], .agg #[.int .i64 b.op, .int .u64 (wd b.st 0 64 : Nat), .int .u64 (wd b.st 64 64 : Nat), .int .u64 (wd b.st 128 64 : Nat), .int .u64 (wd b.st 192 64 : Nat), .int .i64 b.lo, .int .i64 b.hi, .int .i64 b.g, sb], U, U, U, U, U, U, U, U, U, U, U, U, U, U, U, U, U, U, U, U, U, U, U, U, U, U, U, U, U, U, U, U, U, U, U, U, U, U, U, U, U, U, U, U, U, U, U, U, U, U, U, U, U, U, U, U, U, U, U, U, U, U, U, U, U, U, U, U, U, U, U, U, U, U, U, U, U, U, U, U, U, U, U, U, U, U, U, U, U, U, U, U, U, U, U, U, U, U, U, U, U, U, U, U, U, U, U, U, U, U, U, U, U, U, U, U, U, U, U, U, U, U, U, U, U, U, U, U, U, U, U, U, U, U, U, U, U, U, U, U, U, U, U, U, U, U, U, U, U, U, U, U, U, U, U, U], []⟩ u) := by
      refine Lib.hid fun u k5 g5 hR => ?_
      have HR := Lib.hid hR
      clear hR
      refine HG1.out _ _ _ _ _ rfl ?_
      refine wpAnyH_ready (rs := [3, 6, 9]) (by kernel_rfl) (by simp) ?_
      refine AllReadyH.cons rfl (fun K hK => ?_) (AllReadyH.cons rfl (fun K hK => ?_) (AllReadyH.cons rfl (fun K hK => ?_) AllReadyH.nil))
      · go_simp
        go_at_call 23
        refine (HNode.out _ _ _ _).mono ?_
        rintro e u2 ⟨rfl, hb⟩
        have HQ := Lib.hid (HR.out.call hb)
        clear hb
        refine hK.out _ _ (HSS.out _ HQ.out.low) (fun hH => ?_)
        clear hK K hH
        (try simp only [Act.put, List.getElem_toArray, List.getElem_cons_succ, List.getElem_cons_zero, List.setIfInBounds_toArray, List.set_cons_zero, List.set_cons_succ])
        exact HG2.out _ _ _ _ _ (by kernel_rfl) (st238.out _ _ _ HQ.out)
      · go_simp
        refine hK.out _ _ (HSS.out _ HR.out.bs6.low) (fun hH => ?_)
        clear hK K hH
        (try simp only [Act.put, List.getElem_toArray, List.getElem_cons_succ, List.getElem_cons_zero, List.setIfInBounds_toArray, List.set_cons_zero, List.set_cons_succ])
        exact HG2.out _ _ _ _ _ (by kernel_rfl) (st268.out _ _ _ _ HR.out.bs6)
      · go_simp
        refine hK.out _ _ (HSS.out _ HR.out.al6.low) (fun hH => ?_)
        clear hK K hH
        (try simp only [Act.put, List.getElem_toArray, List.getElem_cons_succ, List.getElem_cons_zero, List.setIfInBounds_toArray, List.set_cons_zero, List.set_cons_succ])
        exact HG2.out _ _ _ _ _ (by kernel_rfl) (st289.out _ _ _ _ HR.out.al6)
    have st29 : Hid (∀ (u : World) (k5 g6 : Nat), RS W2 a b sa sb (some k5) none none (some g6) u → G 6 #[true, true, true, false, true, true, false, false, false, true, false, false] ⟨#[.agg #[.int .i64 a.op, .int .u64 (wd a.st 0 64 : Nat), .int .u64 (wd a.st 64 64 : Nat), .int .u64 (wd a.st 128 64 : Nat), .int .u64 (wd a.st 192 64 : Nat), .int .i64 a.lo, .int .i64 a.hi, .int .i64 a.g, sa], .agg #[.int .i64 b.op, .int .u64 (wd b.st 0 64 : Nat), .int .u64 (wd b.st 64 64 : Nat), .int .u64 (wd b.st 128 64 : Nat), .int .u64 (wd b.st 192 64 : Nat), .int .i64 b.lo, .int .i64 b.hi, .int .i64 b.g, sb], .pointer (some ⟨w.heap.size, 0, none⟩), .pointer (some ⟨w.heap.size + 1, 0, none⟩), .bool false, U, .pointer (some ⟨g6, 0, none⟩), U, U, U, U, U, U, U, U, U, U, U, U, U, U, .agg #[.int .i64 a.op, .int .u64 (wd a.st 0 64 : Nat), .int .u64 (wd a.st 64 64 : Nat), .int .u64 (wd a.st 128 64 : Nat), .int .u64 (wd a.st 192 64 : Nat), .int .i64 a.lo, .int .i64 a.hi, .int .i64 a.g, sa], .agg #[.int .i64 b.op, .int .u64 (wd b.st 0 64 : Nat), .int .u64 (wd b.st 64 64 : Nat), .int .u64 (wd b.st 128 64 : Nat), .int .u64 (wd b.st 192 64 : Nat), .int .i64 b.lo, .int .i64 b.hi, .int .i64 b.g, sb], .slice (some ⟨k5, 0, none⟩) 2 2, U, .agg #[.int .i64 a.op, .int .u64 (wd a.st 0 64 : Nat), .int .u64 (wd a.st 64 64 : Nat), .int .u64 (wd a.st 128 64 : Nat), .int .u64 (wd a.st 192 64 : Nat), .int .i64 a.lo, .int .i64 a.hi, .int .i64 a.g, sa], .agg #[.int .i64 b.op, .int .u64 (wd b.st 0 64 : Nat), .int .u64 (wd b.st 64 64 : Nat), .int .u64 (wd b.st 128 64 : Nat), .int .u64 (wd b.st 192 64 : Nat), .int .i64 b.lo, .int .i64 b.hi, .int .i64 b.g, sb], U, U, U, U, U, U, U, U, U, U, U, U, U, U, U, U, U, U, U, U, U, U, U, U, U, U, U, U, U, U, U, U, U, U, U, U, U, U, U, U, U, U, U, U, U, U, U, U, U, U, U, U, U, U, U, U, U, U, U, U, U, U, U, U, U, U, U, U, U, U, U, U, U, U, U, U, U, U, U, U, U, U, U, U, U, U, U, U, U, U, U, U, U, U, U, U, U, U, U, U, U, U, U, U, U, U, U, U, U, U, U, U, U, U, U, U, U, U, U, U, U, U, U, U, U, U, U, U, U, U, U, U, U, U, U, U, U, U, U, U, U, U, U, U, U, U, U, U, U, U, U, U, U, U, U, U], []⟩ u) := by
      refine Lib.hid fun u k5 g6 hR => ?_
      have HR := Lib.hid hR
      clear hR
      refine HG1.out _ _ _ _ _ rfl ?_
      refine wpAnyH_ready (rs := [3, 6, 8]) (by kernel_rfl) (by simp) ?_
      refine AllReadyH.cons rfl (fun K hK => ?_) (AllReadyH.cons rfl (fun K hK => ?_) (AllReadyH.cons rfl (fun K hK => ?_) AllReadyH.nil))
      · go_simp
        go_at_call 23
        refine (HNode.out _ _ _ _).mono ?_
        rintro e u2 ⟨rfl, hb⟩
        have HQ := Lib.hid (HR.out.call hb)
        clear hb
        refine hK.out _ _ (HSS.out _ HQ.out.low) (fun hH => ?_)
        clear hK K hH
        (try simp only [Act.put, List.getElem_toArray, List.getElem_cons_succ, List.getElem_cons_zero, List.setIfInBounds_toArray, List.set_cons_zero, List.set_cons_succ])
        exact HG2.out _ _ _ _ _ (by kernel_rfl) (st239.out _ _ _ HQ.out)
      · go_simp
        refine hK.out _ _ (HSS.out _ HR.out.bs6.low) (fun hH => ?_)
        clear hK K hH
        (try simp only [Act.put, List.getElem_toArray, List.getElem_cons_succ, List.getElem_cons_zero, List.setIfInBounds_toArray, List.set_cons_zero, List.set_cons_succ])
        exact HG2.out _ _ _ _ _ (by kernel_rfl) (st269.out _ _ _ _ HR.out.bs6)
      · go_simp
        refine hK.out _ _ (HSS.out _ HR.out.al5.low) (fun hH => ?_)
        clear hK K hH
        (try simp only [Act.put, List.getElem_toArray, List.getElem_cons_succ, List.getElem_cons_zero, List.setIfInBounds_toArray, List.set_cons_zero, List.set_cons_succ])
        exact HG2.out _ _ _ _ _ (by kernel_rfl) (st289.out _ _ _ _ HR.out.al5)
    have st2 : Hid (∀ (u : World) (k5 : Nat), RS W2 a b sa sb (some k5) none none none u → G 7 #[true, true, true, false, true, true, false, false, false, false, false, false] ⟨#[.agg #[.int .i64 a.op, .int .u64 (wd a.st 0 64 : Nat), .int .u64 (wd a.st 64 64 : Nat), .int .u64 (wd a.st 128 64 : Nat), .int .u64 (wd a.st 192 64 : Nat), .int .i64 a.lo, .int .i64 a.hi, .int .i64 a.g, sa], .agg #[.int .i64 b.op, .int .u64 (wd b.st 0 64 : Nat), .int .u64 (wd b.st 64 64 : Nat), .int .u64 (wd b.st 128 64 : Nat), .int .u64 (wd b.st 192 64 : Nat), .int .i64 b.lo, .int .i64 b.hi, .int .i64 b.g, sb], .pointer (some ⟨w.heap.size, 0, none⟩), .pointer (some ⟨w.heap.size + 1, 0, none⟩), .bool false, U, U, U, U, U, U, U, U, U, U, U, U, U, U, U, U, .agg #[.int .i64 a.op, .int .u64 (wd a.st 0 64 : Nat), .int .u64 (wd a.st 64 64 : Nat), .int .u64 (wd a.st 128 64 : Nat), .int .u64 (wd a.st 192 64 : Nat), .int .i64 a.lo, .int .i64 a.hi, .int .i64 a.g, sa], .agg #[.int .i64 b.op, .int .u64 (wd b.st 0 64 : Nat), .int .u64 (wd b.st 64 64 : Nat), .int .u64 (wd b.st 128 64 : Nat), .int .u64 (wd b.st 192 64 : Nat), .int .i64 b.lo, .int .i64 b.hi, .int .i64 b.g, sb], .slice (some ⟨k5, 0, none⟩) 2 2, U, .agg #[.int .i64 a.op, .int .u64 (wd a.st 0 64 : Nat), .int .u64 (wd a.st 64 64 : Nat), .int .u64 (wd a.st 128 64 : Nat), .int .u64 (wd a.st 192 64 : Nat), .int .i64 a.lo, .int .i64 a.hi, .int .i64 a.g, sa], .agg #[.int .i64 b.op, .int .u64 (wd b.st 0 64 : Nat), .int .u64 (wd b.st 64 64 : Nat), .int .u64 (wd b.st 128 64 : Nat), .int .u64 (wd b.st 192 64 : Nat), .int .i64 b.lo, .int .i64 b.hi, .int .i64 b.g, sb], U, U, U, U, U, U, U, U, U, U, U, U, U, U, U, U, U, U, U, U, U, U, U, U, U, U, U, U, U, U, U, U, U, U, U, U, U, U, U, U, U, U, U, U, U, U, U, U, U, U, U, U, U, U, U, U, U, U, U, U, U, U, U, U, U, U, U, U, U, U, U, U, U, U, U, U, U, U, U, U, U, U, U, U, U, U, U, U, U, U, U, U, U, U, U, U, U, U, U, U, U, U, U, U, U, U, U, U, U, U, U, U, U, U, U, U, U, U, U, U, U, U, U, U, U, U, U, U, U, U, U, U, U, U, U, U, U, U, U, U, U, U, U, U, U, U, U, U, U, U, U, U, U, U, U, U], []⟩ u) := by
      refine Lib.hid fun u k5 hR => ?_
      have HR := Lib.hid hR
      clear hR
      refine HG1.out _ _ _ _ _ rfl ?_
      refine wpAnyH_ready (rs := [3, 6, 8, 9]) (by kernel_rfl) (by simp) ?_
      refine AllReadyH.cons rfl (fun K hK => ?_) (AllReadyH.cons rfl (fun K hK => ?_) (AllReadyH.cons rfl (fun K hK => ?_) (AllReadyH.cons rfl (fun K hK => ?_) AllReadyH.nil)))
      · go_simp
        go_at_call 23
        refine (HNode.out _ _ _ _).mono ?_
        rintro e u2 ⟨rfl, hb⟩
        have HQ := Lib.hid (HR.out.call hb)
        clear hb
        refine hK.out _ _ (HSS.out _ HQ.out.low) (fun hH => ?_)
        clear hK K hH
        (try simp only [Act.put, List.getElem_toArray, List.getElem_cons_succ, List.getElem_cons_zero, List.setIfInBounds_toArray, List.set_cons_zero, List.set_cons_succ])
        exact HG2.out _ _ _ _ _ (by kernel_rfl) (st23.out _ _ HQ.out)
      · go_simp
        refine hK.out _ _ (HSS.out _ HR.out.bs6.low) (fun hH => ?_)
        clear hK K hH
        (try simp only [Act.put, List.getElem_toArray, List.getElem_cons_succ, List.getElem_cons_zero, List.setIfInBounds_toArray, List.set_cons_zero, List.set_cons_succ])
        exact HG2.out _ _ _ _ _ (by kernel_rfl) (st26.out _ _ _ HR.out.bs6)
      · go_simp
        refine hK.out _ _ (HSS.out _ HR.out.al5.low) (fun hH => ?_)
        clear hK K hH
        (try simp only [Act.put, List.getElem_toArray, List.getElem_cons_succ, List.getElem_cons_zero, List.setIfInBounds_toArray, List.set_cons_zero, List.set_cons_succ])
        exact HG2.out _ _ _ _ _ (by kernel_rfl) (st28.out _ _ _ HR.out.al5)
      · go_simp
        refine hK.out _ _ (HSS.out _ HR.out.al6.low) (fun hH => ?_)
        clear hK K hH
        (try simp only [Act.put, List.getElem_toArray, List.getElem_cons_succ, List.getElem_cons_zero, List.setIfInBounds_toArray, List.set_cons_zero, List.set_cons_succ])
        exact HG2.out _ _ _ _ _ (by kernel_rfl) (st29.out _ _ _ HR.out.al6)
    have st689 : Hid (∀ (u : World) (k6 g5 g6 : Nat), RS W2 a b sa sb none (some k6) (some g5) (some g6) u → G 5 #[true, true, false, false, true, true, true, false, true, true, false, false] ⟨#[.agg #[.int .i64 a.op, .int .u64 (wd a.st 0 64 : Nat), .int .u64 (wd a.st 64 64 : Nat), .int .u64 (wd a.st 128 64 : Nat), .int .u64 (wd a.st 192 64 : Nat), .int .i64 a.lo, .int .i64 a.hi, .int .i64 a.g, sa], .agg #[.int .i64 b.op, .int .u64 (wd b.st 0 64 : Nat), .int .u64 (wd b.st 64 64 : Nat), .int .u64 (wd b.st 128 64 : Nat), .int .u64 (wd b.st 192 64 : Nat), .int .i64 b.lo, .int .i64 b.hi, .int .i64 b.g, sb], .pointer (some ⟨w.heap.size, 0, none⟩), .pointer (some ⟨w.heap.size + 1, 0, none⟩), .bool false, .pointer (some ⟨g5, 0, none⟩), .pointer (some ⟨g6, 0, none⟩), U, U, U, U, U, U, U, U, U, U, U, U, U, U, .agg #[.int .i64 a.op, .int .u64 (wd a.st 0 64 : Nat), .int .u64 (wd a.st 64 64 : Nat), .int .u64 (wd a.st 128 64 : Nat), .int .u64 (wd a.st 192 64 : Nat), .int .i64 a.lo, .int .i64 a.hi, .int .i64 a.g, sa], .agg #[.int .i64 b.op, .int .u64 (wd b.st 0 64 : Nat), .int .u64 (wd b.st 64 64 : Nat), .int .u64 (wd b.st 128 64 : Nat), .int .u64 (wd b.st 192 64 : Nat), .int .i64 b.lo, .int .i64 b.hi, .int .i64 b.g, sb], U, U, .agg #[.int .i64 a.op, .int .u64 (wd a.st 0 64 : Nat), .int .u64 (wd a.st 64 64 : Nat), .int .u64 (wd a.st 128 64 : Nat), .int .u64 (wd a.st 192 64 : Nat), .int .i64 a.lo, .int .i64 a.hi, .int .i64 a.g, sa], .agg #[.int .i64 b.op, .int .u64 (wd b.st 0 64 : Nat), .int .u64 (wd b.st 64 64 : Nat), .int .u64 (wd b.st 128 64 : Nat), .int .u64 (wd b.st 192 64 : Nat), .int .i64 b.lo, .int .i64 b.hi, .int .i64 b.g, sb], .slice (some ⟨k6, 0, none⟩) 2 2, U, U, U, U, U, U, U, U, U, U, U, U, U, U, U, U, U, U, U, U, U, U, U, U, U, U, U, U, U, U, U, U, U, U, U, U, U, U, U, U, U, U, U, U, U, U, U, U, U, U, U, U, U, U, U, U, U, U, U, U, U, U, U, U, U, U, U, U, U, U, U, U, U, U, U, U, U, U, U, U, U, U, U, U, U, U, U, U, U, U, U, U, U, U, U, U, U, U, U, U, U, U, U, U, U, U, U, U, U, U, U, U, U, U, U, U, U, U, U, U, U, U, U, U, U, U, U, U, U, U, U, U, U, U, U, U, U, U, U, U, U, U, U, U, U, U, U, U, U, U, U, U, U, U, U], []⟩ u) := by
      refine Lib.hid fun u k6 g5 g6 hR => ?_
      have HR := Lib.hid hR
      clear hR
      refine HG1.out _ _ _ _ _ rfl ?_
      refine wpAnyH_ready (rs := [2]) (by kernel_rfl) (by simp) ?_
      refine AllReadyH.cons rfl (fun K hK => ?_) AllReadyH.nil
      · go_simp
        refine hK.out _ _ (HSS.out _ HR.out.bs5.low) (fun hH => ?_)
        clear hK K hH
        (try simp only [Act.put, List.getElem_toArray, List.getElem_cons_succ, List.getElem_cons_zero, List.setIfInBounds_toArray, List.set_cons_zero, List.set_cons_succ])
        exact HG2.out _ _ _ _ _ (by kernel_rfl) (st2689.out _ _ _ _ _ HR.out.bs5)
    have st68 : Hid (∀ (u : World) (k6 g5 : Nat), RS W2 a b sa sb none (some k6) (some g5) none u → G 6 #[true, true, false, false, true, true, true, false, true, false, false, false] ⟨#[.agg #[.int .i64 a.op, .int .u64 (wd a.st 0 64 : Nat), .int .u64 (wd a.st 64 64 : Nat), .int .u64 (wd a.st 128 64 : Nat), .int .u64 (wd a.st 192 64 : Nat), .int .i64 a.lo, .int .i64 a.hi, .int .i64 a.g, sa], .agg #[.int .i64 b.op, .int .u64 (wd b.st 0 64 : Nat), .int .u64 (wd b.st 64 64 : Nat), .int .u64 (wd b.st 128 64 : Nat), .int .u64 (wd b.st 192 64 : Nat), .int .i64 b.lo, .int .i64 b.hi, .int .i64 b.g, sb], .pointer (some ⟨w.heap.size, 0, none⟩), .pointer (some ⟨w.heap.size + 1, 0, none⟩), .bool false, .pointer (some ⟨g5, 0, none⟩), U, U, U, U, U, U, U, U, U, U, U, U, U, U, U, .agg #[.int .i64 a.op, .int .u64 (wd a.st 0 64 : Nat), .int .u64 (wd a.st 64 64 : Nat), .int .u64 (wd a.st 128 64 : Nat), .int .u64 (wd a.st 192 64 : Nat), .int .i64 a.lo, .int .i64 a.hi, .int .i64 a.g, sa], .agg #[.int .i64 b.op, .int .u64 (wd b.st 0 64 : Nat), .int .u64 (wd b.st 64 64 : Nat), .int .u64 (wd b.st 128 64 : Nat), .int .u64 (wd b.st 192 64 : Nat), .int .i64 b.lo, .int .i64 b.hi, .int .i64 b.g, sb], U, U, .agg #[.int .i64 a.op, .int .u64 (wd a.st 0 64 : Nat), .int .u64 (wd a.st 64 64 : Nat), .int .u64 (wd a.st 128 64 : Nat), .int .u64 (wd a.st 192 64 : Nat), .int .i64 a.lo, .int .i64 a.hi, .int .i64 a.g, sa], .agg #[.int .i64 b.op, .int .u64 (wd b.st 0 64 : Nat), .int .u64 (wd b.st 64 64 : Nat), .int .u64 (wd b.st 128 64 : Nat), .int .u64 (wd b.st 192 64 : Nat), .int .i64 b.lo, .int .i64 b.hi, .int .i64 b.g, sb], .slice (some ⟨k6, 0, none⟩) 2 2, U, U, U, U, U, U, U, U, U, U, U, U, U, U, U, U, U, U, U, U, U, U, U, U, U, U, U, U, U, U, U, U, U, U, U, U, U, U, U, U, U, U, U, U, U, U, U, U, U, U, U, U, U, U, U, U, U, U, U, U, U, U, U, U, U, U, U, U, U, U, U, U, U, U, U, U, U, U, U, U, U, U, U, U, U, U, U, U, U, U, U, U, U, U, U, U, U, U, U, U, U, U, U, U, U, U, U, U, U, U, U, U, U, U, U, U, U, U, U, U, U, U, U, U, U, U, U, U, U, U, U, U, U, U, U, U, U, U, U, U, U, U, U, U, U, U, U, U, U, U, U, U, U, U, U], []⟩ u) := by
      refine Lib.hid fun u k6 g5 hR => ?_
      have HR := Lib.hid hR
      clear hR
      refine HG1.out _ _ _ _ _ rfl ?_
      refine wpAnyH_ready (rs := [2, 9]) (by kernel_rfl) (by simp) ?_
      refine AllReadyH.cons rfl (fun K hK => ?_) (AllReadyH.cons rfl (fun K hK => ?_) AllReadyH.nil)
      · go_simp
        refine hK.out _ _ (HSS.out _ HR.out.bs5.low) (fun hH => ?_)
        clear hK K hH
        (try simp only [Act.put, List.getElem_toArray, List.getElem_cons_succ, List.getElem_cons_zero, List.setIfInBounds_toArray, List.set_cons_zero, List.set_cons_succ])
        exact HG2.out _ _ _ _ _ (by kernel_rfl) (st268.out _ _ _ _ HR.out.bs5)
      · go_simp
        refine hK.out _ _ (HSS.out _ HR.out.al6.low) (fun hH => ?_)
        clear hK K hH
        (try simp only [Act.put, List.getElem_toArray, List.getElem_cons_succ, List.getElem_cons_zero, List.setIfInBounds_toArray, List.set_cons_zero, List.set_cons_succ])
        exact HG2.out _ _ _ _ _ (by kernel_rfl) (st689.out _ _ _ _ HR.out.al6)
    have st69 : Hid (∀ (u : World) (k6 g6 : Nat), RS W2 a b sa sb none (some k6) none (some g6) u → G 6 #[true, true, false, false, true, true, true, false, false, true, false, false] ⟨#[.agg #[.int .i64 a.op, .int .u64 (wd a.st 0 64 : Nat), .int .u64 (wd a.st 64 64 : Nat), .int .u64 (wd a.st 128 64 : Nat), .int .u64 (wd a.st 192 64 : Nat), .int .i64 a.lo, .int .i64 a.hi, .int .i64 a.g, sa], .agg #[.int .i64 b.op, .int .u64 (wd b.st 0 64 : Nat), .int .u64 (wd b.st 64 64 : Nat), .int .u64 (wd b.st 128 64 : Nat), .int .u64 (wd b.st 192 64 : Nat), .int .i64 b.lo, .int .i64 b.hi, .int .i64 b.g, sb], .pointer (some ⟨w.heap.size, 0, none⟩), .pointer (some ⟨w.heap.size + 1, 0, none⟩), .bool false, U, .pointer (some ⟨g6, 0, none⟩), U, U, U, U, U, U, U, U, U, U, U, U, U, U, .agg #[.int .i64 a.op, .int .u64 (wd a.st 0 64 : Nat), .int .u64 (wd a.st 64 64 : Nat), .int .u64 (wd a.st 128 64 : Nat), .int .u64 (wd a.st 192 64 : Nat), .int .i64 a.lo, .int .i64 a.hi, .int .i64 a.g, sa], .agg #[.int .i64 b.op, .int .u64 (wd b.st 0 64 : Nat), .int .u64 (wd b.st 64 64 : Nat), .int .u64 (wd b.st 128 64 : Nat), .int .u64 (wd b.st 192 64 : Nat), .int .i64 b.lo, .int .i64 b.hi, .int .i64 b.g, sb], U, U, .agg #[.int .i64 a.op, .int .u64 (wd a.st 0 64 : Nat), .int .u64 (wd a.st 64 64 : Nat), .int .u64 (wd a.st 128 64 : Nat), .int .u64 (wd a.st 192 64 : Nat), .int .i64 a.lo, .int .i64 a.hi, .int .i64 a.g, sa], .agg #[.int .i64 b.op, .int .u64 (wd b.st 0 64 : Nat), .int .u64 (wd b.st 64 64 : Nat), .int .u64 (wd b.st 128 64 : Nat), .int .u64 (wd b.st 192 64 : Nat), .int .i64 b.lo, .int .i64 b.hi, .int .i64 b.g, sb], .slice (some ⟨k6, 0, none⟩) 2 2, U, U, U, U, U, U, U, U, U, U, U, U, U, U, U, U, U, U, U, U, U, U, U, U, U, U, U, U, U, U, U, U, U, U, U, U, U, U, U, U, U, U, U, U, U, U, U, U, U, U, U, U, U, U, U, U, U, U, U, U, U, U, U, U, U, U, U, U, U, U, U, U, U, U, U, U, U, U, U, U, U, U, U, U, U, U, U, U, U, U, U, U, U, U, U, U, U, U, U, U, U, U, U, U, U, U, U, U, U, U, U, U, U, U, U, U, U, U, U, U, U, U, U, U, U, U, U, U, U, U, U, U, U, U, U, U, U, U, U, U, U, U, U, U, U, U, U, U, U, U, U, U, U, U, U], []⟩ u) := by
      refine Lib.hid fun u k6 g6 hR => ?_
      have HR := Lib.hid hR
      clear hR
      refine HG1.out _ _ _ _ _ rfl ?_
      refine wpAnyH_ready (rs := [2, 8]) (by kernel_rfl) (by simp) ?_
      refine AllReadyH.cons rfl (fun K hK => ?_) (AllReadyH.cons rfl (fun K hK => ?_) AllReadyH.nil)
      · go_simp
        refine hK.out _ _ (HSS.out _ HR.out.bs5.low) (fun hH => ?_)
        clear hK K hH
        (try simp only [Act.put, List.getElem_toArray, List.getElem_cons_succ, List.getElem_cons_zero, List.setIfInBounds_toArray, List.set_cons_zero, List.set_cons_succ])
        exact HG2.out _ _ _ _ _ (by kernel_rfl) (st269.out _ _ _ _ HR.out.bs5)
      · go_simp
        refine hK.out _ _ (HSS.out _ HR.out.al5.low) (fun hH => ?_)
        clear hK K hH
        (try simp only [Act.put, List.getElem_toArray, List.getElem_cons_succ, List.getElem_cons_zero, List.setIfInBounds_toArray, List.set_cons_zero, List.set_cons_succ])
        exact HG2.out _ _ _ _ _ (by kernel_rfl) (st689.out _ _ _ _ HR.out.al5)
    have st6 : Hid (∀ (u : World) (k6 : Nat), RS W2 a b sa sb none (some k6) none none u → G 7 #[true, true, false, false, true, true, true, false, false, false, false, false] ⟨#[.agg #[.int .i64 a.op, .int .u64 (wd a.st 0 64 : Nat), .int .u64 (wd a.st 64 64 : Nat), .int .u64 (wd a.st 128 64 : Nat), .int .u64 (wd a.st 192 64 : Nat), .int .i64 a.lo, .int .i64 a.hi, .int .i64 a.g, sa], .agg #[.int .i64 b.op, .int .u64 (wd b.st 0 64 : Nat), .int .u64 (wd b.st 64 64 : Nat), .int .u64 (wd b.st 128 64 : Nat), .int .u64 (wd b.st 192 64 : Nat), .int .i64 b.lo, .int .i64 b.hi, .int .i64 b.g, sb], .pointer (some ⟨w.heap.size, 0, none⟩), .pointer (some ⟨w.heap.size + 1, 0, none⟩), .bool false, U, U, U, U, U, U, U, U, U, U, U, U, U, U, U, U, .agg #[.int .i64 a.op, .int .u64 (wd a.st 0 64 : Nat), .int .u64 (wd a.st 64 64 : Nat), .int .u64 (wd a.st 128 64 : Nat), .int .u64 (wd a.st 192 64 : Nat), .int .i64 a.lo, .int .i64 a.hi, .int .i64 a.g, sa], .agg #[.int .i64 b.op, .int .u64 (wd b.st 0 64 : Nat), .int .u64 (wd b.st 64 64 : Nat), .int .u64 (wd b.st 128 64 : Nat), .int .u64 (wd b.st 192 64 : Nat), .int .i64 b.lo, .int .i64 b.hi, .int .i64 b.g, sb], U, U, .agg #[.int .i64 a.op, .int .u64 (wd a.st 0 64 : Nat), .int .u64 (wd a.st 64 64 : Nat), .int .u64 (wd a.st 128 64 : Nat), .int .u64 (wd a.st 192 64 : Nat), .int .i64 a.lo, .int .i64 a.hi, .int .i64 a.g, sa], .agg #[.int .i64 b.op, .int .u64 (wd b.st 0 64 : Nat), .int .u64 (wd b.st 64 64 : Nat), .int .u64 (wd b.st 128 64 : Nat), .int .u64 (wd b.st 192 64 : Nat), .int .i64 b.lo, .int .i64 b.hi, .int .i64 b.g, sb], .slice (some ⟨k6, 0, none⟩) 2 2, U, U, U, U, U, U, U, U, U, U, U, U, U, U, U, U, U, U, U, U, U, U, U, U, U, U, U, U, U, U, U, U, U, U, U, U, U, U, U, U, U, U, U, U, U, U, U, U, U, U, U, U, U, U, U, U, U, U, U, U, U, U, U, U, U, U, U, U, U, U, U, U, U, U, U, U, U, U, U, U, U, U, U, U, U, U, U, U, U, U, U, U, U, U, U, U, U, U, U, U, U, U, U, U, U, U, U, U, U, U, U, U, U, U, U, U, U, U, U, U, U, U, U, U, U, U, U, U, U, U, U, U, U, U, U, U, U, U, U, U, U, U, U, U, U, U, U, U, U, U, U, U, U, U, U], []⟩ u) := by
      refine Lib.hid fun u k6 hR => ?_
      have HR := Lib.hid hR
      clear hR
      refine HG1.out _ _ _ _ _ rfl ?_
      refine wpAnyH_ready (rs := [2, 8, 9]) (by kernel_rfl) (by simp) ?_
      refine AllReadyH.cons rfl (fun K hK => ?_) (AllReadyH.cons rfl (fun K hK => ?_) (AllReadyH.cons rfl (fun K hK => ?_) AllReadyH.nil))
      · go_simp
        refine hK.out _ _ (HSS.out _ HR.out.bs5.low) (fun hH => ?_)
        clear hK K hH
        (try simp only [Act.put, List.getElem_toArray, List.getElem_cons_succ, List.getElem_cons_zero, List.setIfInBounds_toArray, List.set_cons_zero, List.set_cons_succ])
        exact HG2.out _ _ _ _ _ (by kernel_rfl) (st26.out _ _ _ HR.out.bs5)
      · go_simp
        refine hK.out _ _ (HSS.out _ HR.out.al5.low) (fun hH => ?_)
        clear hK K hH
        (try simp only [Act.put, List.getElem_toArray, List.getElem_cons_succ, List.getElem_cons_zero, List.setIfInBounds_toArray, List.set_cons_zero, List.set_cons_succ])
        exact HG2.out _ _ _ _ _ (by kernel_rfl) (st68.out _ _ _ HR.out.al5)
      · go_simp
        refine hK.out _ _ (HSS.out _ HR.out.al6.low) (fun hH => ?_)
        clear hK K hH
        (try simp only [Act.put, List.getElem_toArray, List.getElem_cons_succ, List.getElem_cons_zero, List.setIfInBounds_toArray, List.set_cons_zero, List.set_cons_succ])
        exact HG2.out _ _ _ _ _ (by kernel_rfl) (st69.out _ _ _ HR.out.al6)
    have st89 : Hid (∀ (u : World) (g5 g6 : Nat), RS W2 a b sa sb none none (some g5) (some g6) u → G 6 #[true, true, false, false, true, true, false, false, true, true, false, false] ⟨#[.agg #[.int .i64 a.op, .int .u64 (wd a.st 0 64 : Nat), .int .u64 (wd a.st 64 64 : Nat), .int .u64 (wd a.st 128 64 : Nat), .int .u64 (wd a.st 192 64 : Nat), .int .i64 a.lo, .int .i64 a.hi, .int .i64 a.g, sa], .agg #[.int .i64 b.op, .int .u64 (wd b.st 0 64 : Nat), .int .u64 (wd b.st 64 64 : Nat), .int .u64 (wd b.st 128 64 : Nat), .int .u64 (wd b.st 192 64 : Nat), .int .i64 b.lo, .int .i64 b.hi, .int .i64 b.g, sb], .pointer (some ⟨w.heap.size, 0, none⟩), .pointer (some ⟨w.heap.size + 1, 0, none⟩), .bool false, .pointer (some ⟨g5, 0, none⟩), .pointer (some ⟨g6, 0, none⟩), U, U, U, U, U, U, U, U, U, U, U, U, U, U, .agg #[.int .i64 a.op, .int .u64 (wd a.st 0 64 : Nat), .int .u64 (wd a.st 64 64 : Nat), .int .u64 (wd a.st 128 64 : Nat), .int .u64 (wd a.st 192 64 : Nat), .int .i64 a.lo, .int .i64 a.hi, .int .i64 a.g, sa], .agg #[.int .i64 b.op, .int .u64 (wd b.st 0 64 : Nat), .int .u64 (wd b.st 64 64 : Nat), .int .u64 (wd b.st 128 64 : Nat), .int .u64 (wd b.st 192 64 : Nat), .int .i64 b.lo, .int .i64 b.hi, .int .i64 b.g, sb], U, U, .agg #[.int .i64 a.op, .int .u64 (wd a.st 0 64 : Nat), .int .u64 (wd a.st 64 64 : Nat), .int .u64 (wd a.st 128 64 : Nat), .int .u64 (wd a.st 192 64 : Nat), .int .i64 a.lo, .int .i64 a.hi, .int .i64 a.g, sa], .agg #[.int .i64 b.op, .int .u64 (wd b.st 0 64 : Nat), .int .u64 (wd b.st 64 64 : Nat), .int .u64 (wd b.st 128 64 : Nat), .int .u64 (wd b.st 192 64 : Nat), .int .i64 b.lo, .int .i64 b.hi, .int .i64 b.g, sb], U, U, U, U, U, U, U, U, U, U, U, U, U, U, U, U, U, U, U, U, U, U, U, U, U, U, U, U, U, U, U, U, U, U, U, U, U, U, U, U, U, U, U, U, U, U, U, U, U, U, U, U, U, U, U, U, U, U, U, U, U, U, U, U, U, U, U, U, U, U, U, U, U, U, U, U, U, U, U, U, U, U, U, U, U, U, U, U, U, U, U, U, U, U, U, U, U, U, U, U, U, U, U, U, U, U, U, U, U, U, U, U, U, U, U, U, U, U, U, U, U, U, U, U, U, U, U, U, U, U, U, U, U, U, U, U, U, U, U, U, U, U, U, U, U, U, U, U, U, U, U, U, U, U, U, U], []⟩ u) := by
      refine Lib.hid fun u g5 g6 hR => ?_
      have HR := Lib.hid hR
      clear hR
      refine HG1.out _ _ _ _ _ rfl ?_
      refine wpAnyH_ready (rs := [2, 6]) (by kernel_rfl) (by simp) ?_
      refine AllReadyH.cons rfl (fun K hK => ?_) (AllReadyH.cons rfl (fun K hK => ?_) AllReadyH.nil)
      · go_simp
        refine hK.out _ _ (HSS.out _ HR.out.bs5.low) (fun hH => ?_)
        clear hK K hH
        (try simp only [Act.put, List.getElem_toArray, List.getElem_cons_succ, List.getElem_cons_zero, List.setIfInBounds_toArray, List.set_cons_zero, List.set_cons_succ])
        exact HG2.out _ _ _ _ _ (by kernel_rfl) (st289.out _ _ _ _ HR.out.bs5)
      · go_simp
        refine hK.out _ _ (HSS.out _ HR.out.bs6.low) (fun hH => ?_)
        clear hK K hH
        (try simp only [Act.put, List.getElem_toArray, List.getElem_cons_succ, List.getElem_cons_zero, List.setIfInBounds_toArray, List.set_cons_zero, List.set_cons_succ])
        exact HG2.out _ _ _ _ _ (by kernel_rfl) (st689.out _ _ _ _ HR.out.bs6)
    have st8 : Hid (∀ (u : World) (g5 : Nat), RS W2 a b sa sb none none (some g5) none u → G 7 #[true, true, false, false, true, true, false, false, true, false, false, false] ⟨#[.agg #[.int .i64 a.op, .int .u64 (wd a.st 0 64 : Nat), .int .u64 (wd a.st 64 64 : Nat), .int .u64 (wd a.st 128 64 : Nat), .int .u64 (wd a.st 192 64 : Nat), .int .i64 a.lo, .int .i64 a.hi, .int .i64 a.g, sa], .agg #[.int .i64 b.op, .int .u64 (wd b.st 0 64 : Nat), .int .u64 (wd b.st 64 64 : Nat), .int .u64 (wd b.st 128 64 : Nat), .int .u64 (wd b.st 192 64 : Nat), .int .i64 b.lo, .int .i64 b.hi, .int .i64 b.g, sb], .pointer (some ⟨w.heap.size, 0, none⟩), .pointer (some ⟨w.heap.size + 1, 0, none⟩), .bool false, .pointer (some ⟨g5, 0, none⟩), U, U, U, U, U, U, U, U, U, U, U, U, U, U, U, .agg #[.int .i64 a.op, .int .u64 (wd a.st 0 64 : Nat), .int .u64 (wd a.st 64 64 : Nat), .int .u64 (wd a.st 128 64 : Nat), .int .u64 (wd a.st 192 64 : Nat), .int .i64 a.lo, .int .i64 a.hi, .int .i64 a.g, sa], .agg #[.int .i64 b.op, .int .u64 (wd b.st 0 64 : Nat), .int .u64 (wd b.st 64 64 : Nat), .int .u64 (wd b.st 128 64 : Nat), .int .u64 (wd b.st 192 64 : Nat), .int .i64 b.lo, .int .i64 b.hi, .int .i64 b.g, sb], U, U, .agg #[.int .i64 a.op, .int .u64 (wd a.st 0 64 : Nat), .int .u64 (wd a.st 64 64 : Nat), .int .u64 (wd a.st 128 64 : Nat), .int .u64 (wd a.st 192 64 : Nat), .int .i64 a.lo, .int .i64 a.hi, .int .i64 a.g, sa], .agg #[.int .i64 b.op, .int .u64 (wd b.st 0 64 : Nat), .int .u64 (wd b.st 64 64 : Nat), .int .u64 (wd b.st 128 64 : Nat), .int .u64 (wd b.st 192 64 : Nat), .int .i64 b.lo, .int .i64 b.hi, .int .i64 b.g, sb], U, U, U, U, U, U, U, U, U, U, U, U, U, U, U, U, U, U, U, U, U, U, U, U, U, U, U, U, U, U, U, U, U, U, U, U, U, U, U, U, U, U, U, U, U, U, U, U, U, U, U, U, U, U, U, U, U, U, U, U, U, U, U, U, U, U, U, U, U, U, U, U, U, U, U, U, U, U, U, U, U, U, U, U, U, U, U, U, U, U, U, U, U, U, U, U, U, U, U, U, U, U, U, U, U, U, U, U, U, U, U, U, U, U, U, U, U, U, U, U, U, U, U, U, U, U, U, U, U, U, U, U, U, U, U, U, U, U, U, U, U, U, U, U, U, U, U, U, U, U, U, U, U, U, U, U], []⟩ u) := by
      refine Lib.hid fun u g5 hR => ?_
      have HR := Lib.hid hR
      clear hR
      refine HG1.out _ _ _ _ _ rfl ?_
      refine wpAnyH_ready (rs := [2, 6, 9]) (by kernel_rfl) (by simp) ?_
      refine AllReadyH.cons rfl (fun K hK => ?_) (AllReadyH.cons rfl (fun K hK => ?_) (AllReadyH.cons rfl (fun K hK => ?_) AllReadyH.nil))
      · go_simp
        refine hK.out _ _ (HSS.out _ HR.out.bs5.low) (fun hH => ?_)
        clear hK K hH
        (try simp only [Act.put, List.getElem_toArray, List.getElem_cons_succ, List.getElem_cons_zero, List.setIfInBounds_toArray, List.set_cons_zero, List.set_cons_succ])
        exact HG2.out _ _ _ _ _ (by kernel_rfl) (st28.out _ _ _ HR.out.bs5)
      · go_simp
        refine hK.out _ _ (HSS.out _ HR.out.bs6.low) (fun hH => ?_)
        clear hK K hH
        (try simp only [Act.put, List.getElem_toArray, List.getElem_cons_succ, List.getElem_cons_zero, List.setIfInBounds_toArray, List.set_cons_zero, List.set_cons_succ])
        exact HG2.out _ _ _ _ _ (by kernel_rfl) (st68.out _ _ _ HR.out.bs6)
      · go_simp
        refine hK.out _ _ (HSS.out _ HR.out.al6.low) (fun hH => ?_)
        clear hK K hH
        (try simp only [Act.put, List.getElem_toArray, List.getElem_cons_succ, List.getElem_cons_zero, List.setIfInBounds_toArray, List.set_cons_zero, List.set_cons_succ])
        exact HG2.out _ _ _ _ _ (by kernel_rfl) (st89.out _ _ _ HR.out.al6)
    have st9 : Hid (∀ (u : World) (g6 : Nat), RS W2 a b sa sb none none none (some g6) u → G 7 #[true, true, false, false, true, true, false, false, false, true, false, false] ⟨#[.agg #[.int .i64 a.op, .int .u64 (wd a.st 0 64 : Nat), .int .u64 (wd a.st 64 64 : Nat), .int .u64 (wd a.st 128 64 : Nat), .int .u64 (wd a.st 192 64 : Nat), .int .i64 a.lo, .int .i64 a.hi, .int .i64 a.g, sa], .agg #[.int .i64 b.op, .int .u64 (wd b.st 0 64 : Nat), .int .u64 (wd b.st 64 64 : Nat), .int .u64 (wd b.st 128 64 : Nat), .int .u64 (wd b.st 192 64 : Nat), .int .i64 b.lo, .int .i64 b.hi, .int .i64 b.g, sb], .pointer (some ⟨w.heap.size, 0, none⟩), .pointer (some ⟨w.heap.size + 1, 0, none⟩), .bool false, U, .pointer (some ⟨g6, 0, none⟩), U, U, U, U, U, U, U, U, U, U, U, U, U, U, .agg #[.int .i64 a.op, .int .u64 (wd a.st 0 64 : Nat), .int .u64 (wd a.st 64 64 : Nat), .int .u64 (wd a.st 128 64 : Nat), .int .u64 (wd a.st 192 64 : Nat), .int .i64 a.lo, .int .i64 a.hi, .int .i64 a.g, sa], .agg #[.int .i64 b.op, .int .u64 (wd b.st 0 64 : Nat), .int .u64 (wd b.st 64 64 : Nat), .int .u64 (wd b.st 128 64 : Nat), .int .u64 (wd b.st 192 64 : Nat), .int .i64 b.lo, .int .i64 b.hi, .int .i64 b.g, sb], U, U, .agg #[.int .i64 a.op, .int .u64 (wd a.st 0 64 : Nat), .int .u64 (wd a.st 64 64 : Nat), .int .u64 (wd a.st 128 64 : Nat), .int .u64 (wd a.st 192 64 : Nat), .int .i64 a.lo, .int .i64 a.hi, .int .i64 a.g, sa], .agg #[.int .i64 b.op, .int .u64 (wd b.st 0 64 : Nat), .int .u64 (wd b.st 64 64 : Nat), .int .u64 (wd b.st 128 64 : Nat), .int .u64 (wd b.st 192 64 : Nat), .int .i64 b.lo, .int .i64 b.hi, .int .i64 b.g, sb], U, U, U, U, U, U, U, U, U, U, U, U, U, U, U, U, U, U, U, U, U, U, U, U, U, U, U, U, U, U, U, U, U, U, U, U, U, U, U, U, U, U, U, U, U, U, U, U, U, U, U, U, U, U, U, U, U, U, U, U, U, U, U, U, U, U, U, U, U, U, U, U, U, U, U, U, U, U, U, U, U, U, U, U, U, U, U, U, U, U, U, U, U, U, U, U, U, U, U, U, U, U, U, U, U, U, U, U, U, U, U, U, U, U, U, U, U, U, U, U, U, U, U, U, U, U, U, U, U, U, U, U, U, U, U, U, U, U, U, U, U, U, U, U, U, U, U, U, U, U, U, U, U, U, U, U], []⟩ u) := by
      refine Lib.hid fun u g6 hR => ?_
      have HR := Lib.hid hR
      clear hR
      refine HG1.out _ _ _ _ _ rfl ?_
      refine wpAnyH_ready (rs := [2, 6, 8]) (by kernel_rfl) (by simp) ?_
      refine AllReadyH.cons rfl (fun K hK => ?_) (AllReadyH.cons rfl (fun K hK => ?_) (AllReadyH.cons rfl (fun K hK => ?_) AllReadyH.nil))
      · go_simp
        refine hK.out _ _ (HSS.out _ HR.out.bs5.low) (fun hH => ?_)
        clear hK K hH
        (try simp only [Act.put, List.getElem_toArray, List.getElem_cons_succ, List.getElem_cons_zero, List.setIfInBounds_toArray, List.set_cons_zero, List.set_cons_succ])
        exact HG2.out _ _ _ _ _ (by kernel_rfl) (st29.out _ _ _ HR.out.bs5)
      · go_simp
        refine hK.out _ _ (HSS.out _ HR.out.bs6.low) (fun hH => ?_)
        clear hK K hH
        (try simp only [Act.put, List.getElem_toArray, List.getElem_cons_succ, List.getElem_cons_zero, List.setIfInBounds_toArray, List.set_cons_zero, List.set_cons_succ])
        exact HG2.out _ _ _ _ _ (by kernel_rfl) (st69.out _ _ _ HR.out.bs6)
      · go_simp
        refine hK.out _ _ (HSS.out _ HR.out.al5.low) (fun hH => ?_)
        clear hK K hH
        (try simp only [Act.put, List.getElem_toArray, List.getElem_cons_succ, List.getElem_cons_zero, List.setIfInBounds_toArray, List.set_cons_zero, List.set_cons_succ])
        exact HG2.out _ _ _ _ _ (by kernel_rfl) (st89.out _ _ _ HR.out.al5)
    have st : Hid (∀ (u : World), RS W2 a b sa sb none none none none u → G 8 #[true, true, false, false, true, true, false, false, false, false, false, false] ⟨#[.agg #[.int .i64 a.op, .int .u64 (wd a.st 0 64 : Nat), .int .u64 (wd a.st 64 64 : Nat), .int .u64 (wd a.st 128 64 : Nat), .int .u64 (wd a.st 192 64 : Nat), .int .i64 a.lo, .int .i64 a.hi, .int .i64 a.g, sa], .agg #[.int .i64 b.op, .int .u64 (wd b.st 0 64 : Nat), .int .u64 (wd b.st 64 64 : Nat), .int .u64 (wd b.st 128 64 : Nat), .int .u64 (wd b.st 192 64 : Nat), .int .i64 b.lo, .int .i64 b.hi, .int .i64 b.g, sb], .pointer (some ⟨w.heap.size, 0, none⟩), .pointer (some ⟨w.heap.size + 1, 0, none⟩), .bool false, U, U, U, U, U, U, U, U, U, U, U, U, U, U, U, U, .agg #[.int .i64 a.op, .int .u64 (wd a.st 0 64 : Nat), .int .u64 (wd a.st 64 64 : Nat), .int .u64 (wd a.st 128 64 : Nat), .int .u64 (wd a.st 192 64 : Nat), .int .i64 a.lo, .int .i64 a.hi, .int .i64 a.g, sa], .agg #[.int .i64 b.op, .int .u64 (wd b.st 0 64 : Nat), .int .u64 (wd b.st 64 64 : Nat), .int .u64 (wd b.st 128 64 : Nat), .int .u64 (wd b.st 192 64 : Nat), .int .i64 b.lo, .int .i64 b.hi, .int .i64 b.g, sb], U, U, .agg #[.int .i64 a.op, .int .u64 (wd a.st 0 64 : Nat), .int .u64 (wd a.st 64 64 : Nat), .int .u64 (wd a.st 128 64 : Nat), .int .u64 (wd a.st 192 64 : Nat), .int .i64 a.lo, .int .i64 a.hi, .int .i64 a.g, sa], .agg #[.int .i64 b.op, .int .u64 (wd b.st 0 64 : Nat), .int .u64 (wd b.st 64 64 : Nat), .int .u64 (wd b.st 128 64 : Nat), .int .u64 (wd b.st 192 64 : Nat), .int .i64 b.lo, .int .i64 b.hi, .int .i64 b.g, sb], U, U, U, U, U, U, U, U, U, U, U, U, U, U, U, U, U, U, U, U, U, U, U, U, U, U, U, U, U, U, U, U, U, U, U, U, U, U, U, U, U, U, U, U, U, U, U, U, U, U, U, U, U, U, U, U, U, U, U, U, U, U, U, U, U, U, U, U, U, U, U, U, U, U, U, U, U, U, U, U, U, U, U, U, U, U, U, U, U, U, U, U, U, U, U, U, U, U, U, U, U, U, U, U, U, U, U, U, U, U, U, U, U, U, U, U, U, U, U, U, U, U, U, U, U, U, U, U, U, U, U, U, U, U, U, U, U, U, U, U, U, U, U, U, U, U, U, U, U, U, U, U, U, U, U, U], []⟩ u) := by
      refine Lib.hid fun u  hR => ?_
      have HR := Lib.hid hR
      clear hR
      refine HG1.out _ _ _ _ _ rfl ?_
      refine wpAnyH_ready (rs := [2, 6, 8, 9]) (by kernel_rfl) (by simp) ?_
      refine AllReadyH.cons rfl (fun K hK => ?_) (AllReadyH.cons rfl (fun K hK => ?_) (AllReadyH.cons rfl (fun K hK => ?_) (AllReadyH.cons rfl (fun K hK => ?_) AllReadyH.nil)))
      · go_simp
        refine hK.out _ _ (HSS.out _ HR.out.bs5.low) (fun hH => ?_)
        clear hK K hH
        (try simp only [Act.put, List.getElem_toArray, List.getElem_cons_succ, List.getElem_cons_zero, List.setIfInBounds_toArray, List.set_cons_zero, List.set_cons_succ])
        exact HG2.out _ _ _ _ _ (by kernel_rfl) (st2.out _ _ HR.out.bs5)
      · go_simp
        refine hK.out _ _ (HSS.out _ HR.out.bs6.low) (fun hH => ?_)
        clear hK K hH
        (try simp only [Act.put, List.getElem_toArray, List.getElem_cons_succ, List.getElem_cons_zero, List.setIfInBounds_toArray, List.set_cons_zero, List.set_cons_succ])
        exact HG2.out _ _ _ _ _ (by kernel_rfl) (st6.out _ _ HR.out.bs6)
      · go_simp
        refine hK.out _ _ (HSS.out _ HR.out.al5.low) (fun hH => ?_)
        clear hK K hH
        (try simp only [Act.put, List.getElem_toArray, List.getElem_cons_succ, List.getElem_cons_zero, List.setIfInBounds_toArray, List.set_cons_zero, List.set_cons_succ])
        exact HG2.out _ _ _ _ _ (by kernel_rfl) (st8.out _ _ HR.out.al5)
      · go_simp
        refine hK.out _ _ (HSS.out _ HR.out.al6.low) (fun hH => ?_)
        clear hK K hH
        (try simp only [Act.put, List.getElem_toArray, List.getElem_cons_succ, List.getElem_cons_zero, List.setIfInBounds_toArray, List.set_cons_zero, List.set_cons_succ])
        exact HG2.out _ _ _ _ _ (by kernel_rfl) (st9.out _ _ HR.out.al6)
    exact st.out _ HR0.out
  case rest =>
  obtain ⟨g5, g6, s5, s6, rfl, rfl, hc⟩ := hcut
  obtain ⟨⟨hT5, hT6⟩, ⟨hN5, hN6⟩, hB⟩ := hc.out
  have HTc := Lib.hid hT5
  have HTl := Lib.hid hT6
  have HA1 := Lib.hid (HTa.out.below hB)
  have HB1 := Lib.hid (HTb.out.below hB)
  have hcw : CW wc w.heap.size (w.heap.size + 1) g5 g6 a b (ctT a b) (alT a b) sa sb s5 s6 wc := ⟨⟨⟨HNa.out.keep hB, HNb.out.keep hB⟩, hN5, hN6⟩, Below.refl _ _⟩
  have HX1 := Lib.hid (HX.out.trans (hB.mono HX.out.size))
  have HCW := Lib.hid hcw
  have hsz : szF (ctT a b).f ≤ 1048576 := by
    have s0 : szF (ctT a b).f = szF a.args + 1 + (szF b.args + 1 + 0) + 1 + 0 := rfl
    have s1 : szF a.f = szF a.args + 1 + 0 := rfl
    have s2 : szF b.f = szF b.args + 1 + 0 := rfl
    omega
  clear hc hT5 hT6 hN5 hN6 hB HTa HTb HNa HNb HX HZ hcw
  have hop : (ctT a b).op = 3 := rfl
  have HC := Lib.hid (fun W (hb : Below wc.heap.size wc W) => rcheck_ti (HTc.out.below hb) hsz)
  have HGr := Lib.hid (fun W (hb : Below wc.heap.size wc W) => (by
    obtain ⟨S, k1, _, k3, _⟩ := HTc.out.below hb
    have e4 : szF (ctT a b).f = szF (ctT a b).args + 1 := rfl
    have e5 : grF (ctT a b).f = (if (ctT a b).op = 6 then 1 else 0) + grF (ctT a b).args := rfl
    rw [e5]
    exact grp_any (ctT a b).args (ctT a b).op (ctT a b).lo (ctT a b).hi (ctT a b).g (ctT a b).st s5 W S k1 k3 (by omega) : Calls Try.prog 16 #[.agg #[.int .i64 (ctT a b).op, .int .u64 (wd (ctT a b).st 0 64 : Nat), .int .u64 (wd (ctT a b).st 64 64 : Nat), .int .u64 (wd (ctT a b).st 128 64 : Nat), .int .u64 (wd (ctT a b).st 192 64 : Nat), .int .i64 (ctT a b).lo, .int .i64 (ctT a b).hi, .int .i64 (ctT a b).g, s5]] W fun e w' => e = .returned (.int .i64 ((grF (ctT a b).f : Nat) : Int)) ∧ Below W.heap.size W w'))
  by_cases hV : Valid (ctT a b)
  case neg =>
    have HV := Lib.hid hV
    clear hV
    generalize ctT a b = c at *
    generalize alT a b = l at *
    obtain ⟨⟨⟨n1, n2⟩, ⟨⟨⟨c0, c1, c2⟩, c3, c4, c5⟩, c6, c7, c8⟩, n4⟩, n5⟩ := HCW.out
    clear n1 n2 n4 n5 hop hsz
    go_upto_region 3 with (first
      | (go_at_call 14; (with_reducible refine (HC.out _ (Below.refl _ _)).mono ?_); rintro e w1 ⟨⟨k, rfl, hk⟩, hb⟩
         have HB2 := Lib.hid hb
         have k0 : ¬ k = 0 := fun e => HV.out (hk.1 e)
         have k1 : (k == 0) = false := by simpa using k0
         clear c0 c1 c2 c3 c4 c5 c6 c7 c8 hb hk))
    go_wp2_with (first
      | (go_at_call 13; (with_reducible refine (HA.out _).mono ?_); rintro e u6 ⟨rfl, hb⟩
         have HB3 := Lib.hid (HB2.out.trans (hb.mono HB2.out.size))
         clear hb))
    go_ret
    exact ⟨rfl, HX1.out.trans (HB3.out.mono HX1.out.size)⟩
  by_cases hg : grF (ctT a b).f = 0
  case neg =>
    have HV := Lib.hid hV
    have hgi : (0 : Int) < ((grF (ctT a b).f : Nat) : Int) := by omega
    clear hV hg
    generalize grF (ctT a b).f = n at *
    generalize ctT a b = c at *
    generalize alT a b = l at *
    obtain ⟨⟨⟨n1, n2⟩, ⟨⟨⟨c0, c1, c2⟩, c3, c4, c5⟩, c6, c7, c8⟩, n4⟩, n5⟩ := HCW.out
    clear n1 n2 n4 n5 hop hsz
    go_upto_region 3 with (first
      | (go_at_call 14; (with_reducible refine (HC.out _ (Below.refl _ _)).mono ?_); rintro e w1 ⟨⟨k, rfl, hk⟩, hb⟩
         have HB2 := Lib.hid hb
         obtain rfl : k = 0 := hk.2 HV.out
         have hcw2 := CW.keep hb HCW.out
         clear c0 c1 c2 c3 c4 c5 c6 c7 c8 hb hk
         obtain ⟨⟨⟨n1, n2⟩, ⟨⟨⟨c0, c1, c2⟩, c3, c4, c5⟩, c6, c7, c8⟩, n4⟩, n5⟩ := hcw2
         clear n1 n2 n4 n5)
      | (go_at_call 16; (with_reducible refine (HGr.out _ HB2.out).mono ?_); rintro e w1 ⟨rfl, hb⟩
         have HB3 := Lib.hid (HB2.out.trans (hb.mono HB2.out.size))
         clear c0 c1 c2 c3 c4 c5 c6 c7 c8 hb))
    go_wp2_with (first
      | (go_at_call 13; (with_reducible refine (HA.out _).mono ?_); rintro e u6 ⟨rfl, hb⟩
         have HB4 := Lib.hid (HB3.out.trans (hb.mono HB3.out.size))
         clear hb))
    go_ret
    exact ⟨rfl, HX1.out.trans (HB4.out.mono HX1.out.size)⟩
  obtain ⟨⟨va, vb, vl⟩, ⟨ga, gb, gl⟩, ⟨z1, z2⟩, k1, k2⟩ := comp_of a b hV hg
  obtain ⟨na, _, _, oa⟩ := sta0 a va
  obtain ⟨nb, _, _, ob⟩ := sta0 b vb
  obtain ⟨nc, gc, _, _⟩ := sta0 (ctT a b) hV
  obtain ⟨nl, _, _, _⟩ := sta0 (alT a b) vl
  have HCc : Hid (∀ W, Below wc.heap.size wc W → Calls Try.prog 20 #[.agg #[.int .i64 (ctT a b).op, .int .u64 (wd (ctT a b).st 0 64 : Nat), .int .u64 (wd (ctT a b).st 64 64 : Nat), .int .u64 (wd (ctT a b).st 128 64 : Nat), .int .u64 (wd (ctT a b).st 192 64 : Nat), .int .i64 (ctT a b).lo, .int .i64 (ctT a b).hi, .int .i64 (ctT a b).g, s5]] W fun e w' => e = .returned (.int .i64 0) ∧ Below W.heap.size W w') := Lib.hid fun W hb => by
    have := check_ti (HTc.out.below hb)
    rw [(checkT_iff _).2 hV] at this
    exact this
  have HCl : Hid (∀ W, Below wc.heap.size wc W → Calls Try.prog 20 #[.agg #[.int .i64 (alT a b).op, .int .u64 (wd (alT a b).st 0 64 : Nat), .int .u64 (wd (alT a b).st 64 64 : Nat), .int .u64 (wd (alT a b).st 128 64 : Nat), .int .u64 (wd (alT a b).st 192 64 : Nat), .int .i64 (alT a b).lo, .int .i64 (alT a b).hi, .int .i64 (alT a b).g, s6]] W fun e w' => e = .returned (.int .i64 0) ∧ Below W.heap.size W w') := Lib.hid fun W hb => by
    have := check_ti (HTl.out.below hb)
    rw [(checkT_iff _).2 vl] at this
    exact this
  have HSc : Hid (∀ W, Below wc.heap.size wc W → Calls Try.prog 24 #[.agg #[.int .i64 (ctT a b).op, .int .u64 (wd (ctT a b).st 0 64 : Nat), .int .u64 (wd (ctT a b).st 64 64 : Nat), .int .u64 (wd (ctT a b).st 128 64 : Nat), .int .u64 (wd (ctT a b).st 192 64 : Nat), .int .i64 (ctT a b).lo, .int .i64 (ctT a b).hi, .int .i64 (ctT a b).g, s5]] W fun e w' => e = .returned (.int .i64 ((szF a.f : Int) + (szF b.f : Int) + 1)) ∧ Below W.heap.size W w') := Lib.hid fun W hb => by
    have := size_ti (HTc.out.below hb)
    rw [nc, z1] at this
    simpa using this
  have HSl : Hid (∀ W, Below wc.heap.size wc W → Calls Try.prog 24 #[.agg #[.int .i64 (alT a b).op, .int .u64 (wd (alT a b).st 0 64 : Nat), .int .u64 (wd (alT a b).st 64 64 : Nat), .int .u64 (wd (alT a b).st 128 64 : Nat), .int .u64 (wd (alT a b).st 192 64 : Nat), .int .i64 (alT a b).lo, .int .i64 (alT a b).hi, .int .i64 (alT a b).g, s6]] W fun e w' => e = .returned (.int .i64 ((szF a.f : Int) + (szF b.f : Int) + 1)) ∧ Below W.heap.size W w') := Lib.hid fun W hb => by
    have := size_ti (HTl.out.below hb)
    rw [nl, z2, z1] at this
    simpa using this
  have HSa2 : Hid (∀ W, Below wc.heap.size wc W → Calls Try.prog 24 #[.agg #[.int .i64 a.op, .int .u64 (wd a.st 0 64 : Nat), .int .u64 (wd a.st 64 64 : Nat), .int .u64 (wd a.st 128 64 : Nat), .int .u64 (wd a.st 192 64 : Nat), .int .i64 a.lo, .int .i64 a.hi, .int .i64 a.g, sa]] W fun e w' => e = .returned (.int .i64 (szF a.f : Int)) ∧ Below W.heap.size W w') := Lib.hid fun W hb => by
    have := size_ti (HA1.out.below hb)
    rw [na] at this
    exact this
  have HSb2 : Hid (∀ W, Below wc.heap.size wc W → Calls Try.prog 24 #[.agg #[.int .i64 b.op, .int .u64 (wd b.st 0 64 : Nat), .int .u64 (wd b.st 64 64 : Nat), .int .u64 (wd b.st 128 64 : Nat), .int .u64 (wd b.st 192 64 : Nat), .int .i64 b.lo, .int .i64 b.hi, .int .i64 b.g, sb]] W fun e w' => e = .returned (.int .i64 (szF b.f : Int)) ∧ Below W.heap.size W w') := Lib.hid fun W hb => by
    have := size_ti (HB1.out.below hb)
    rw [nb] at this
    exact this
  have HGc : Hid (∀ W, Below wc.heap.size wc W → Calls Try.prog 15 #[.agg #[.int .i64 (ctT a b).op, .int .u64 (wd (ctT a b).st 0 64 : Nat), .int .u64 (wd (ctT a b).st 64 64 : Nat), .int .u64 (wd (ctT a b).st 128 64 : Nat), .int .u64 (wd (ctT a b).st 192 64 : Nat), .int .i64 (ctT a b).lo, .int .i64 (ctT a b).hi, .int .i64 (ctT a b).g, s5]] W fun e w' => e = .returned (.int .i64 0) ∧ Below W.heap.size W w') := Lib.hid fun W hb => by
    have := groups_ti (HTc.out.below hb)
    rw [gc, hg] at this
    exact this
  have HLa := Lib.hid (fun W (hb : Below wc.heap.size wc W) => length_ti (HA1.out.below hb))
  have HLb := Lib.hid (fun W (hb : Below wc.heap.size wc W) => length_ti (HB1.out.below hb))
  have HLc := Lib.hid (fun W (hb : Below wc.heap.size wc W) => length_ti (HTc.out.below hb))
  have HFa := Lib.hid (fun W (hb : Below wc.heap.size wc W) => first_ti (HA1.out.below hb))
  have HFb := Lib.hid (fun W (hb : Below wc.heap.size wc W) => first_ti (HB1.out.below hb))
  have HFc := Lib.hid (fun W (hb : Below wc.heap.size wc W) => first_ti (HTc.out.below hb))
  have HFl := Lib.hid (fun W (hb : Below wc.heap.size wc W) => first_ti (HTl.out.below hb))
  have HNc := Lib.hid (fun W (hb : Below wc.heap.size wc W) => nullable_ti (HTc.out.below hb))
  have HNl := Lib.hid (fun W (hb : Below wc.heap.size wc W) => nullable_ti (HTl.out.below hb))
  rw [len_kn] at HLa HLb HLc
  rw [fst_kn] at HFa HFb HFc HFl
  rw [nul_kn] at HNc HNl
  rw [k1] at HLc HFc HNc
  rw [k2] at HFl HNl
  have HV := Lib.hid hV
  have HSm : Hid (szF a.f + szF b.f + 1 ≤ 1048576) := Lib.hid (by omega)
  have HGr0 := HGr
  rw [hg] at HGr
  clear HGr0 hV hg va vb vl ga gb gl z1 z2 k1 k2 na nb nc nl gc hsz hop
  generalize knF a = X at *
  generalize knF b = Y at *
  obtain ⟨xb, xl, xh, p⟩ := X
  obtain ⟨yb, yl, yh, q⟩ := Y
  obtain rfl : xb = false := hxb
  obtain rfl : yb = false := hyb
  have HOa : Hid ((0 ≤ xl ∧ xl ≤ 2147483647) ∧ (-1 ≤ xh ∧ xh ≤ 2147483647)) := Lib.hid oa
  have HOb : Hid ((0 ≤ yl ∧ yl ≤ 2147483647) ∧ (-1 ≤ yh ∧ yh ≤ 2147483647)) := Lib.hid ob
  clear oa ob
  simp only [catS, altS] at HLa HLb HLc HFa HFb HFc HFl HNc HNl
  generalize szF a.f = na at *
  generalize szF b.f = nb at *
  generalize ctT a b = c at *
  generalize alT a b = l at *
  have HU := Lib.hid (fun W => runion_any p q W)
  have wr1 : IntKind.i64.wrap ((na : Int) + (nb : Int)) = (na : Int) + (nb : Int) := by have := HSm.out; rw [IntKind.wrap_i64]; omega
  have wr2 : IntKind.i64.wrap ((na : Int) + (nb : Int) + 1) = (na : Int) + (nb : Int) + 1 := by have := HSm.out; rw [IntKind.wrap_i64]; omega
  obtain ⟨⟨⟨⟨⟨⟨a0, a1, a2⟩, a3, a4, a5⟩, a6, a7, a8⟩, ⟨⟨⟨b0, b1, b2⟩, b3, b4, b5⟩, b6, b7, b8⟩⟩, ⟨⟨⟨c0, c1, c2⟩, c3, c4, c5⟩, c6, c7, c8⟩, ⟨⟨⟨l0, l1, l2⟩, l3, l4, l5⟩, l6, l7, l8⟩⟩, hbl⟩ := HCW.out
  go_upto_region 4 with (first
    | (go_at_call 14; (with_reducible refine (HC.out _ (Below.refl _ _)).mono ?_); rintro e w1 ⟨⟨k, rfl, hk⟩, hb⟩
       obtain rfl : k = 0 := hk.2 HV.out
       have HCW2 := Lib.hid (CW.keep hb HCW.out)
       clear a0 a1 a2 a3 a4 a5 a6 a7 a8 b0 b1 b2 b3 b4 b5 b6 b7 b8 c0 c1 c2 c3 c4 c5 c6 c7 c8 l0 l1 l2 l3 l4 l5 l6 l7 l8 hbl hb hk
       obtain ⟨⟨⟨⟨⟨⟨a0, a1, a2⟩, a3, a4, a5⟩, a6, a7, a8⟩, ⟨⟨⟨b0, b1, b2⟩, b3, b4, b5⟩, b6, b7, b8⟩⟩, ⟨⟨⟨c0, c1, c2⟩, c3, c4, c5⟩, c6, c7, c8⟩, ⟨⟨⟨l0, l1, l2⟩, l3, l4, l5⟩, l6, l7, l8⟩⟩, hbl⟩ := HCW2.out)
    | (go_at_call 16; (with_reducible refine (HGr.out _ (CW.bel HCW2.out)).mono ?_); rintro e w1 ⟨rfl, hb⟩
       have HCW3 := Lib.hid (CW.keep hb HCW2.out)
       clear a0 a1 a2 a3 a4 a5 a6 a7 a8 b0 b1 b2 b3 b4 b5 b6 b7 b8 c0 c1 c2 c3 c4 c5 c6 c7 c8 l0 l1 l2 l3 l4 l5 l6 l7 l8 hbl hb))
  go_region_held3 (fun w' => CW wc w.heap.size (w.heap.size + 1) g5 g6 a b c l sa sb s5 s6 w')
    (first | exact CW.keep (Below.drew (Below.refl _ _)) HCW3.out | exact CW.keep hb ‹_›)
    (first
      | (go_at_call 20; (with_reducible refine (HCc.out _ (CW.bel (by assumption))).mono ?_); rintro e u4 ⟨rfl, hb⟩; skip)
      | (go_at_call 20; (with_reducible refine (HCl.out _ (CW.bel (by assumption))).mono ?_); rintro e u4 ⟨rfl, hb⟩; skip)
      | (go_at_call 24; (with_reducible refine (HSc.out _ (CW.bel (by assumption))).mono ?_); rintro e u4 ⟨rfl, hb⟩; skip)
      | (go_at_call 24; (with_reducible refine (HSl.out _ (CW.bel (by assumption))).mono ?_); rintro e u4 ⟨rfl, hb⟩; skip)
      | (go_at_call 24; (with_reducible refine (HSa2.out _ (CW.bel (by assumption))).mono ?_); rintro e u4 ⟨rfl, hb⟩; skip)
      | (go_at_call 24; (with_reducible refine (HSb2.out _ (CW.bel (by assumption))).mono ?_); rintro e u4 ⟨rfl, hb⟩; skip)
      | (go_at_call 15; (with_reducible refine (HGc.out _ (CW.bel (by assumption))).mono ?_); rintro e u4 ⟨rfl, hb⟩; skip))
  rename_i hS0
  have HCW4 := Lib.hid hS0
  clear hS0 hb wr1 wr2 HSc HSl HSa2 HSb2 HGc HCc HCl
  obtain ⟨⟨⟨⟨⟨⟨a0, a1, a2⟩, a3, a4, a5⟩, a6, a7, a8⟩, ⟨⟨⟨b0, b1, b2⟩, b3, b4, b5⟩, b6, b7, b8⟩⟩, ⟨⟨⟨c0, c1, c2⟩, c3, c4, c5⟩, c6, c7, c8⟩, ⟨⟨⟨l0, l1, l2⟩, l3, l4, l5⟩, l6, l7, l8⟩⟩, hbl⟩ := HCW4.out
  go_upto_region 9 with (first
    | (go_at_call 7; (with_reducible refine (HLa.out _ (CW.bel HCW4.out)).mono ?_); rintro e v1 ⟨rfl, hb⟩
       have HCW5 := Lib.hid (CW.keep hb HCW4.out)
       clear a0 a1 a2 a3 a4 a5 a6 a7 a8 b0 b1 b2 b3 b4 b5 b6 b7 b8 c0 c1 c2 c3 c4 c5 c6 c7 c8 l0 l1 l2 l3 l4 l5 l6 l7 l8 hbl hb
       obtain ⟨⟨⟨⟨⟨⟨a0, a1, a2⟩, a3, a4, a5⟩, a6, a7, a8⟩, ⟨⟨⟨b0, b1, b2⟩, b3, b4, b5⟩, b6, b7, b8⟩⟩, ⟨⟨⟨c0, c1, c2⟩, c3, c4, c5⟩, c6, c7, c8⟩, ⟨⟨⟨l0, l1, l2⟩, l3, l4, l5⟩, l6, l7, l8⟩⟩, hbl⟩ := HCW5.out)
    | (go_at_call 7; (with_reducible refine (HLb.out _ (CW.bel HCW5.out)).mono ?_); rintro e v2 ⟨rfl, hb⟩
       have HCW6 := Lib.hid (CW.keep hb HCW5.out)
       clear a0 a1 a2 a3 a4 a5 a6 a7 a8 b0 b1 b2 b3 b4 b5 b6 b7 b8 c0 c1 c2 c3 c4 c5 c6 c7 c8 l0 l1 l2 l3 l4 l5 l6 l7 l8 hbl hb
       obtain ⟨⟨⟨⟨⟨⟨a0, a1, a2⟩, a3, a4, a5⟩, a6, a7, a8⟩, ⟨⟨⟨b0, b1, b2⟩, b3, b4, b5⟩, b6, b7, b8⟩⟩, ⟨⟨⟨c0, c1, c2⟩, c3, c4, c5⟩, c6, c7, c8⟩, ⟨⟨⟨l0, l1, l2⟩, l3, l4, l5⟩, l6, l7, l8⟩⟩, hbl⟩ := HCW6.out)
    | (go_at_call 7; (with_reducible refine (HLc.out _ (CW.bel HCW6.out)).mono ?_); rintro e v3 ⟨rfl, hb⟩
       have HCW7 := Lib.hid (CW.keep hb HCW6.out)
       clear a0 a1 a2 a3 a4 a5 a6 a7 a8 b0 b1 b2 b3 b4 b5 b6 b7 b8 c0 c1 c2 c3 c4 c5 c6 c7 c8 l0 l1 l2 l3 l4 l5 l6 l7 l8 hbl hb))
  have y0 : ¬ (xl < 0) := by have := HOa.out; omega
  have y1 : decide (xl < 0) = false := decide_eq_false y0
  have y2 : ¬ (yl < 0) := by have := HOb.out; omega
  have y3 : decide (yl < 0) = false := decide_eq_false y2
  have y4 : ¬ (xh < -1) := by have := HOa.out; omega
  have y5 : decide (xh < -1) = false := decide_eq_false y4
  have y6 : ¬ (yh < -1) := by have := HOb.out; omega
  have y7 : decide (yh < -1) = false := decide_eq_false y6
  have HS1 : Hid (∀ W, Calls Try.prog 25 #[.int .i64 xl, .int .i64 yl] W fun e w' => e = .returned (.int .i64 (rsum xl yl)) ∧ Below W.heap.size W w') := Lib.hid (fun W => lsum_any xl yl (by have := HOa.out; omega) (by have := HOb.out; omega) W)
  have HS2 : Hid (∀ W, Calls Try.prog 25 #[.int .i64 xh, .int .i64 yh] W fun e w' => e = .returned (.int .i64 (rsum xh yh)) ∧ Below W.heap.size W w') := Lib.hid (fun W => lsum_any xh yh (by have := HOa.out; omega) (by have := HOb.out; omega) W)
  generalize rsum xl yl = sl at *
  generalize rsum xh yh = sh at *
  go_cut [111] (fun x wx => x = .bool false ∧ Hid (CW wc w.heap.size (w.heap.size + 1) g5 g6 a b c l sa sb s5 s6 wx))
  case first =>
    go_wp2_with (first
      | (go_at_call 25; (with_reducible refine (HS1.out _).mono ?_); rintro e v4 ⟨rfl, hb⟩
         have HCW8 := Lib.hid (CW.keep hb HCW7.out)
         clear hb)
      | (go_at_call 25; (with_reducible refine (HS2.out _).mono ?_); rintro e v5 ⟨rfl, hb⟩
         have HCW9 := Lib.hid (CW.keep hb HCW8.out)
         clear hb))
    all_goals go_meet
    all_goals (case rel => exact ⟨rfl, Lib.hid HCW9.out⟩)
  case rest =>
  obtain ⟨rfl, hwc⟩ := hcut
  have HCW8 := Lib.hid hwc.out
  clear y0 y1 y2 y3 y4 y5 y6 y7 hwc HS1 HS2 HLa HLb HLc HCW7 HOa HOb
  have HU2 : Hid (∀ W, Calls Try.prog 26 #[.agg #[.int .u64 (wd p 0 64 : Nat), .int .u64 (wd p 64 64 : Nat), .int .u64 (wd p 128 64 : Nat), .int .u64 (wd p 192 64 : Nat)], .agg #[.int .u64 (wd q 0 64 : Nat), .int .u64 (wd q 64 64 : Nat), .int .u64 (wd q 128 64 : Nat), .int .u64 (wd q 192 64 : Nat)]] W fun e w' => e = .returned (.agg #[.int .u64 (wd (uniP p q) 0 64 : Nat), .int .u64 (wd (uniP p q) 64 64 : Nat), .int .u64 (wd (uniP p q) 128 64 : Nat), .int .u64 (wd (uniP p q) 192 64 : Nat)]) ∧ Below W.heap.size W w') := Lib.hid fun W => HU.out W
  clear HU
  have HU := HU2
  clear HU2
  obtain ⟨r, hr⟩ : ∃ r, uniP p q = r := ⟨_, rfl⟩
  rw [hr] at HU HFc HFl
  clear hr
  have hcl : ∀ z : Nat → Bool, cl z = #[.int .u64 (wd z 0 64 : Nat), .int .u64 (wd z 64 64 : Nat), .int .u64 (wd z 128 64 : Nat), .int .u64 (wd z 192 64 : Nat)] := fun z => rfl
  have hn1 : ∀ w, (binOp .neq 25 (.agg #[.int .u64 (wd r 0 64 : Nat), .int .u64 (wd r 64 64 : Nat), .int .u64 (wd r 128 64 : Nat), .int .u64 (wd r 192 64 : Nat)]) (.agg #[.int .u64 (wd r 0 64 : Nat), .int .u64 (wd r 64 64 : Nat), .int .u64 (wd r 128 64 : Nat), .int .u64 (wd r 192 64 : Nat)])).run Try.prog w = .ok (.bool false) w := fun w => by
    have := neq_cs r r w
    rw [eqc_self] at this
    exact this
  have hn2 : ∀ w, (binOp .neq 25 (.agg #[.int .u64 (wd p 0 64 : Nat), .int .u64 (wd p 64 64 : Nat), .int .u64 (wd p 128 64 : Nat), .int .u64 (wd p 192 64 : Nat)]) (.agg #[.int .u64 (wd p 0 64 : Nat), .int .u64 (wd p 64 64 : Nat), .int .u64 (wd p 128 64 : Nat), .int .u64 (wd p 192 64 : Nat)])).run Try.prog w = .ok (.bool false) w := fun w => by
    have := neq_cs p p w
    rw [eqc_self] at this
    exact this
  simp only [hcl] at HFa HFb HFc HFl
  clear hcl
  (try simp only [Bool.and_true, Bool.and_false, Bool.or_true, Bool.or_false, Bool.and_self, Bool.or_self, Bool.true_and, Bool.false_and, Bool.true_or, Bool.false_or, if_true, if_false, Bool.false_eq_true, reduceIte] at HFc)
  (try simp only [Bool.and_true, Bool.and_false, Bool.or_true, Bool.or_false, Bool.and_self, Bool.or_self, Bool.true_and, Bool.false_and, Bool.true_or, Bool.false_or, if_true, if_false, Bool.false_eq_true, reduceIte] at HFl)
  (try simp only [Bool.and_true, Bool.and_false, Bool.or_true, Bool.or_false, Bool.and_self, Bool.or_self, Bool.true_and, Bool.false_and, Bool.true_or, Bool.false_or, if_true, if_false, Bool.false_eq_true, reduceIte] at HNc)
  (try simp only [Bool.and_true, Bool.and_false, Bool.or_true, Bool.or_false, Bool.and_self, Bool.or_self, Bool.true_and, Bool.false_and, Bool.true_or, Bool.false_or, if_true, if_false, Bool.false_eq_true, reduceIte] at HNl)
  obtain ⟨⟨⟨⟨⟨⟨a0, a1, a2⟩, a3, a4, a5⟩, a6, a7, a8⟩, ⟨⟨⟨b0, b1, b2⟩, b3, b4, b5⟩, b6, b7, b8⟩⟩, ⟨⟨⟨c0, c1, c2⟩, c3, c4, c5⟩, c6, c7, c8⟩, ⟨⟨⟨l0, l1, l2⟩, l3, l4, l5⟩, l6, l7, l8⟩⟩, hbl⟩ := HCW8.out
  go_upto_region 12 with (first
    | (go_at_call 9; (with_reducible refine (HFa.out _ (CW.bel HCW8.out)).mono ?_); rintro e v6 ⟨rfl, hb8⟩
       clear a0 a1 a2 a3 a4 a5 a6 a7 a8 b0 b1 b2 b3 b4 b5 b6 b7 b8 c0 c1 c2 c3 c4 c5 c6 c7 c8 l0 l1 l2 l3 l4 l5 l6 l7 l8 hbl))
  have hbs : Below v6.heap.size v6 (v6.alloc (.cells #[.int .u64 (wd p 0 64 : Nat), .int .u64 (wd p 64 64 : Nat), .int .u64 (wd p 128 64 : Nat), .int .u64 (wd p 192 64 : Nat)] 25)) := (Below.refl _ _).alloc (Nat.le_refl _) _
  have H4s9 := Lib.hid (n4_new v6 p)
  have HCW9 := Lib.hid (CW.keep hbs (CW.keep hb8 HCW8.out))
  clear hbs hb8
  generalize v6.alloc (.cells #[.int .u64 (wd p 0 64 : Nat), .int .u64 (wd p 64 64 : Nat), .int .u64 (wd p 128 64 : Nat), .int .u64 (wd p 192 64 : Nat)] 25) = v6' at *
  generalize v6.heap.size = gs at *
  obtain ⟨⟨⟨⟨⟨⟨a0, a1, a2⟩, a3, a4, a5⟩, a6, a7, a8⟩, ⟨⟨⟨b0, b1, b2⟩, b3, b4, b5⟩, b6, b7, b8⟩⟩, ⟨⟨⟨c0, c1, c2⟩, c3, c4, c5⟩, c6, c7, c8⟩, ⟨⟨⟨l0, l1, l2⟩, l3, l4, l5⟩, l6, l7, l8⟩⟩, hbl⟩ := HCW9.out
  go_upto_region 13 with (first
    | (go_at_call 9; (with_reducible refine (HFb.out _ (CW.bel HCW9.out)).mono ?_); rintro e v7 ⟨rfl, hb9⟩
       clear a0 a1 a2 a3 a4 a5 a6 a7 a8 b0 b1 b2 b3 b4 b5 b6 b7 b8 c0 c1 c2 c3 c4 c5 c6 c7 c8 l0 l1 l2 l3 l4 l5 l6 l7 l8 hbl))
  have hbs : Below v7.heap.size v7 (v7.alloc (.cells #[.int .u64 (wd q 0 64 : Nat), .int .u64 (wd q 64 64 : Nat), .int .u64 (wd q 128 64 : Nat), .int .u64 (wd q 192 64 : Nat)] 25)) := (Below.refl _ _).alloc (Nat.le_refl _) _
  have H4t10 := Lib.hid (n4_new v7 q)
  have HCW10 := Lib.hid (CW.keep hbs (CW.keep hb9 HCW9.out))
  have H4s10 := Lib.hid ((H4s9.out.keep hb9).keep hbs)
  clear hbs hb9
  generalize v7.alloc (.cells #[.int .u64 (wd q 0 64 : Nat), .int .u64 (wd q 64 64 : Nat), .int .u64 (wd q 128 64 : Nat), .int .u64 (wd q 192 64 : Nat)] 25) = v7' at *
  generalize v7.heap.size = gt at *
  obtain ⟨⟨⟨⟨⟨⟨a0, a1, a2⟩, a3, a4, a5⟩, a6, a7, a8⟩, ⟨⟨⟨b0, b1, b2⟩, b3, b4, b5⟩, b6, b7, b8⟩⟩, ⟨⟨⟨c0, c1, c2⟩, c3, c4, c5⟩, c6, c7, c8⟩, ⟨⟨⟨l0, l1, l2⟩, l3, l4, l5⟩, l6, l7, l8⟩⟩, hbl⟩ := HCW10.out
  go_upto_region 14 with (first
    | (go_at_call 9; (with_reducible refine (HFl.out _ (CW.bel HCW10.out)).mono ?_); rintro e v8 ⟨rfl, hb10⟩
       clear a0 a1 a2 a3 a4 a5 a6 a7 a8 b0 b1 b2 b3 b4 b5 b6 b7 b8 c0 c1 c2 c3 c4 c5 c6 c7 c8 l0 l1 l2 l3 l4 l5 l6 l7 l8 hbl))
  have hbs : Below v8.heap.size v8 (v8.alloc (.cells #[.int .u64 (wd r 0 64 : Nat), .int .u64 (wd r 64 64 : Nat), .int .u64 (wd r 128 64 : Nat), .int .u64 (wd r 192 64 : Nat)] 25)) := (Below.refl _ _).alloc (Nat.le_refl _) _
  have H4u11 := Lib.hid (n4_new v8 r)
  have HCW11 := Lib.hid (CW.keep hbs (CW.keep hb10 HCW10.out))
  have H4s11 := Lib.hid ((H4s10.out.keep hb10).keep hbs)
  have H4t11 := Lib.hid ((H4t10.out.keep hb10).keep hbs)
  clear hbs hb10
  generalize v8.alloc (.cells #[.int .u64 (wd r 0 64 : Nat), .int .u64 (wd r 64 64 : Nat), .int .u64 (wd r 128 64 : Nat), .int .u64 (wd r 192 64 : Nat)] 25) = v8' at *
  generalize v8.heap.size = gu at *
  obtain ⟨⟨⟨⟨⟨⟨a0, a1, a2⟩, a3, a4, a5⟩, a6, a7, a8⟩, ⟨⟨⟨b0, b1, b2⟩, b3, b4, b5⟩, b6, b7, b8⟩⟩, ⟨⟨⟨c0, c1, c2⟩, c3, c4, c5⟩, c6, c7, c8⟩, ⟨⟨⟨l0, l1, l2⟩, l3, l4, l5⟩, l6, l7, l8⟩⟩, hbl⟩ := HCW11.out
  go_upto_region 15 with (first
    | (go_at_call 9; (with_reducible refine (HFc.out _ (CW.bel HCW11.out)).mono ?_); rintro e v9 ⟨rfl, hb11⟩
       clear a0 a1 a2 a3 a4 a5 a6 a7 a8 b0 b1 b2 b3 b4 b5 b6 b7 b8 c0 c1 c2 c3 c4 c5 c6 c7 c8 l0 l1 l2 l3 l4 l5 l6 l7 l8 hbl))
  have hbs : Below v9.heap.size v9 (v9.alloc (.cells #[.int .u64 (wd p 0 64 : Nat), .int .u64 (wd p 64 64 : Nat), .int .u64 (wd p 128 64 : Nat), .int .u64 (wd p 192 64 : Nat)] 25)) := (Below.refl _ _).alloc (Nat.le_refl _) _
  have H4v12 := Lib.hid (n4_new v9 p)
  have HCW12 := Lib.hid (CW.keep hbs (CW.keep hb11 HCW11.out))
  have H4s12 := Lib.hid ((H4s11.out.keep hb11).keep hbs)
  have H4t12 := Lib.hid ((H4t11.out.keep hb11).keep hbs)
  have H4u12 := Lib.hid ((H4u11.out.keep hb11).keep hbs)
  clear hbs hb11
  generalize v9.alloc (.cells #[.int .u64 (wd p 0 64 : Nat), .int .u64 (wd p 64 64 : Nat), .int .u64 (wd p 128 64 : Nat), .int .u64 (wd p 192 64 : Nat)] 25) = v9' at *
  generalize v9.heap.size = gv at *
  have hS15 : CS v9' gs gt gu gv p q r p v9' := ⟨⟨⟨H4s12.out, H4t12.out⟩, H4u12.out, H4v12.out⟩, Below.refl _ _⟩
  have HS15 := Lib.hid hS15
  clear hS15
  go_cut [169] (fun x wx => x = .bool false ∧ Hid (Below v9'.heap.size v9' wx))
  case first =>
    refine wp_region_held_drew (S := fun w' => CS v9' gs gt gu gv p q r p w') (by kernel_rfl) ?_ (fun hHeld => ?_)
    · exact CS.keep (Below.drew (Below.refl _ _)) HS15.out
    refine wpAnyH_take (i := 0) (v := ?ffv0) rfl (by kernel_rfl) (by kernel_rfl) (by kernel_rfl) (fun _ _ _ h => h) (Or.inl ⟨by rfl, ?ffy0⟩) (by assumption) ?ffr0
    case ffy0 =>
      intro wx hSw
      have ⟨⟨⟨⟨⟨s0, s1⟩, s2, s3⟩, ⟨⟨t0, t1⟩, t2, t3⟩⟩, ⟨⟨u0, u1⟩, u2, u3⟩, ⟨⟨v0, v1⟩, v2, v3⟩⟩, _⟩ := hSw
      clear hSw
      go_simp
      first | done | (with_reducible rfl)
    (try simp only [Act.put, List.getElem_toArray, List.getElem_cons_zero, List.setIfInBounds_toArray, List.set_cons_zero, List.set_cons_succ])
    refine wpAnyH_take (i := 1) (v := ?ffv1) rfl (by kernel_rfl) (by kernel_rfl) (by kernel_rfl) (fun _ _ _ h => h) (Or.inl ⟨by rfl, ?ffy1⟩) (by assumption) ?ffr1
    case ffy1 =>
      intro wx hSw
      have ⟨⟨⟨⟨⟨s0, s1⟩, s2, s3⟩, ⟨⟨t0, t1⟩, t2, t3⟩⟩, ⟨⟨u0, u1⟩, u2, u3⟩, ⟨⟨v0, v1⟩, v2, v3⟩⟩, _⟩ := hSw
      clear hSw
      go_simp
      first | done | (with_reducible rfl)
    (try simp only [Act.put, List.getElem_toArray, List.getElem_cons_succ, List.getElem_cons_zero, List.setIfInBounds_toArray, List.set_cons_zero, List.set_cons_succ])
    refine wpAnyH_take (i := 2) (v := ?ffv2) rfl (by kernel_rfl) (by kernel_rfl) (by kernel_rfl) (fun _ _ _ h => h) (Or.inl ⟨by rfl, ?ffy2⟩) (by assumption) ?ffr2
    case ffy2 =>
      intro wx hSw
      have ⟨⟨⟨⟨⟨s0, s1⟩, s2, s3⟩, ⟨⟨t0, t1⟩, t2, t3⟩⟩, ⟨⟨u0, u1⟩, u2, u3⟩, ⟨⟨v0, v1⟩, v2, v3⟩⟩, _⟩ := hSw
      clear hSw
      go_simp
      first | done | (with_reducible rfl)
    (try simp only [Act.put, List.getElem_toArray, List.getElem_cons_succ, List.getElem_cons_zero, List.setIfInBounds_toArray, List.set_cons_zero, List.set_cons_succ])
    refine wpAnyH_ready (rs := [3]) (by kernel_rfl) (by simp) ?_
    refine AllReadyH.cons rfl (fun K hK => ?_) AllReadyH.nil
    go_simp
    go_at_call 26
    refine (HU.out _).mono ?_
    rintro e w10 ⟨rfl, hb10⟩
    refine hK.out _ _ (CS.keep hb10 hHeld) (fun hH2 => ?_)
    clear hK K
    (try simp only [Act.put, List.getElem_toArray, List.getElem_cons_succ, List.getElem_cons_zero, List.setIfInBounds_toArray, List.set_cons_zero, List.set_cons_succ])
    refine wpAnyH_take (i := 4) (v := ?ffv4) rfl (by kernel_rfl) (by kernel_rfl) (by kernel_rfl) (fun _ _ _ h => h) (Or.inl ⟨by rfl, ?ffy4⟩) (by assumption) ?ffr4
    case ffy4 =>
      intro wx hSw
      clear hSw
      go_simp
      first | done | (with_reducible rfl)
    (try simp only [Act.put, List.getElem_toArray, List.getElem_cons_succ, List.getElem_cons_zero, List.setIfInBounds_toArray, List.set_cons_zero, List.set_cons_succ])
    refine wpAnyH_take (i := 5) (v := ?ffv5) rfl (by kernel_rfl) (by kernel_rfl) (by kernel_rfl) (fun _ _ _ h => h) (Or.inl ⟨by rfl, ?ffy5⟩) (by assumption) ?ffr5
    case ffy5 =>
      intro wx hSw
      clear hSw
      go_simp
      first | done | (with_reducible rfl)
    (try simp only [Act.put, List.getElem_toArray, List.getElem_cons_succ, List.getElem_cons_zero, List.setIfInBounds_toArray, List.set_cons_zero, List.set_cons_succ])
    refine wpAnyH_take (i := 6) (v := ?ffv6) rfl (by kernel_rfl) (by kernel_rfl) (by kernel_rfl) (fun _ _ _ h => h) (Or.inl ⟨by rfl, ?ffy6⟩) (by assumption) ?ffr6
    case ffy6 =>
      intro wx hSw
      clear hSw
      go_simp
      first | done | (with_reducible rfl)
    (try simp only [Act.put, List.getElem_toArray, List.getElem_cons_succ, List.getElem_cons_zero, List.setIfInBounds_toArray, List.set_cons_zero, List.set_cons_succ])
    refine wpAnyH_take (i := 7) (v := ?ffv7) rfl (by kernel_rfl) (by kernel_rfl) (by kernel_rfl) (fun _ _ _ h => h) (Or.inl ⟨by rfl, ?ffy7⟩) (by assumption) ?ffr7
    case ffy7 =>
      intro wx hSw
      clear hSw
      go_simp
      first | done | (with_reducible rfl)
    (try simp only [Act.put, List.getElem_toArray, List.getElem_cons_succ, List.getElem_cons_zero, List.setIfInBounds_toArray, List.set_cons_zero, List.set_cons_succ])
    refine wpAnyH_take (i := 8) (v := ?ffv8) rfl (by kernel_rfl) (by kernel_rfl) (by kernel_rfl) (fun _ _ _ h => h) (Or.inl ⟨by rfl, ?ffy8⟩) (by assumption) ?ffr8
    case ffy8 =>
      intro wx hSw
      clear hSw
      go_simp
      first | done | (with_reducible rfl)
    (try simp only [Act.put, List.getElem_toArray, List.getElem_cons_succ, List.getElem_cons_zero, List.setIfInBounds_toArray, List.set_cons_zero, List.set_cons_succ])
    refine wpAnyH_take (i := 9) (v := ?ffv9) rfl (by kernel_rfl) (by kernel_rfl) (by kernel_rfl) (fun _ _ _ h => h) (Or.inl ⟨by rfl, ?ffy9⟩) (by assumption) ?ffr9
    case ffy9 =>
      intro wx hSw
      clear hSw
      go_simp
      first | done | (with_reducible rfl)
    (try simp only [Act.put, List.getElem_toArray, List.getElem_cons_succ, List.getElem_cons_zero, List.setIfInBounds_toArray, List.set_cons_zero, List.set_cons_succ])
    refine wpAnyH_take (i := 10) (v := ?ffv10) rfl (by kernel_rfl) (by kernel_rfl) (by kernel_rfl) (fun _ _ _ h => h) (Or.inl ⟨by rfl, ?ffy10⟩) (by assumption) ?ffr10
    case ffy10 =>
      intro wx hSw
      clear hSw
      go_simp
      first | done | (with_reducible rfl)
    (try simp only [Act.put, List.getElem_toArray, List.getElem_cons_succ, List.getElem_cons_zero, List.setIfInBounds_toArray, List.set_cons_zero, List.set_cons_succ])
    refine wpAnyH_take (i := 11) (v := ?ffv11) rfl (by kernel_rfl) (by kernel_rfl) (by kernel_rfl) (fun _ _ _ h => h) (Or.inl ⟨by rfl, ?ffy11⟩) (by assumption) ?ffr11
    case ffy11 =>
      intro wx hSw
      clear hSw
      go_simp
      first | done | (with_reducible rfl)
    (try simp only [Act.put, List.getElem_toArray, List.getElem_cons_succ, List.getElem_cons_zero, List.setIfInBounds_toArray, List.set_cons_zero, List.set_cons_succ])
    refine wpAnyH_take (i := 12) (v := ?ffv12) rfl (by kernel_rfl) (by kernel_rfl) (by kernel_rfl) (fun _ _ _ h => h) (Or.inl ⟨by rfl, ?ffy12⟩) (by assumption) ?ffr12
    case ffy12 =>
      intro wx hSw
      clear hSw
      go_simp
      first | done | (with_reducible rfl)
    (try simp only [Act.put, List.getElem_toArray, List.getElem_cons_succ, List.getElem_cons_zero, List.setIfInBounds_toArray, List.set_cons_zero, List.set_cons_succ])
    refine wpAnyH_take (i := 13) (v := ?ffv13) rfl (by kernel_rfl) (by kernel_rfl) (by kernel_rfl) (fun _ _ _ h => h) (Or.inl ⟨by rfl, ?ffy13⟩) (by assumption) ?ffr13
    case ffy13 =>
      intro wx hSw
      clear hSw
      go_simp
      first | done | (with_reducible rfl)
    (try simp only [Act.put, List.getElem_toArray, List.getElem_cons_succ, List.getElem_cons_zero, List.setIfInBounds_toArray, List.set_cons_zero, List.set_cons_succ])
    refine wpAnyH_take (i := 14) (v := ?ffv14) rfl (by kernel_rfl) (by kernel_rfl) (by kernel_rfl) (fun _ _ _ h => h) (Or.inl ⟨by rfl, ?ffy14⟩) (by assumption) ?ffr14
    case ffy14 =>
      intro wx hSw
      clear hSw
      go_simp
      first | done | (with_reducible rfl)
    (try simp only [Act.put, List.getElem_toArray, List.getElem_cons_succ, List.getElem_cons_zero, List.setIfInBounds_toArray, List.set_cons_zero, List.set_cons_succ])
    refine wpAnyH_take (i := 15) (v := ?ffv15) rfl (by kernel_rfl) (by kernel_rfl) (by kernel_rfl) (fun _ _ _ h => h) (Or.inl ⟨by rfl, ?ffy15⟩) (by assumption) ?ffr15
    case ffy15 =>
      intro wx hSw
      clear hSw
      go_simp
      first | done | (with_reducible rfl)
    (try simp only [Act.put, List.getElem_toArray, List.getElem_cons_succ, List.getElem_cons_zero, List.setIfInBounds_toArray, List.set_cons_zero, List.set_cons_succ])
    refine wpAnyH_take (i := 16) (v := ?ffv16) rfl (by kernel_rfl) (by kernel_rfl) (by kernel_rfl) (fun _ _ _ h => h) (Or.inl ⟨by rfl, ?ffy16⟩) (by assumption) ?ffr16
    case ffy16 =>
      intro wx hSw
      clear hSw
      go_simp
      first | done | (with_reducible rfl)
    (try simp only [Act.put, List.getElem_toArray, List.getElem_cons_succ, List.getElem_cons_zero, List.setIfInBounds_toArray, List.set_cons_zero, List.set_cons_succ])
    refine wpAnyH_take (i := 17) (v := undef) rfl (by kernel_rfl) (by kernel_rfl) (by kernel_rfl) (fun _ _ _ h => h) (Or.inr ⟨by rfl, rfl⟩) (by assumption) ?ffr17
    (try simp only [Act.put, List.getElem_toArray, List.getElem_cons_succ, List.getElem_cons_zero, List.setIfInBounds_toArray, List.set_cons_zero, List.set_cons_succ])
    refine wpAnyH_take (i := 18) (v := ?ffv18) rfl (by kernel_rfl) (by kernel_rfl) (by kernel_rfl) (fun _ _ _ h => h) (Or.inl ⟨by rfl, ?ffy18⟩) (by assumption) ?ffr18
    case ffy18 =>
      intro wx hSw
      clear hSw
      go_simp
      first | done | (with_reducible rfl)
    (try simp only [Act.put, List.getElem_toArray, List.getElem_cons_succ, List.getElem_cons_zero, List.setIfInBounds_toArray, List.set_cons_zero, List.set_cons_succ])
    refine wpAnyH_take (i := 19) (v := ?ffv19) rfl (by kernel_rfl) (by kernel_rfl) (by kernel_rfl) (fun _ _ _ h => h) (Or.inl ⟨by rfl, ?ffy19⟩) (by assumption) ?ffr19
    case ffy19 =>
      intro wx hSw
      clear hSw
      go_simp
      first | done | (with_reducible rfl)
    (try simp only [Act.put, List.getElem_toArray, List.getElem_cons_succ, List.getElem_cons_zero, List.setIfInBounds_toArray, List.set_cons_zero, List.set_cons_succ])
    refine wpAnyH_take (i := 20) (v := ?ffv20) rfl (by kernel_rfl) (by kernel_rfl) (by kernel_rfl) (fun _ _ _ h => h) (Or.inl ⟨by rfl, ?ffy20⟩) (by assumption) ?ffr20
    case ffy20 =>
      intro wx hSw
      clear hSw
      go_simp
      first | done | (with_reducible rfl)
    (try simp only [Act.put, List.getElem_toArray, List.getElem_cons_succ, List.getElem_cons_zero, List.setIfInBounds_toArray, List.set_cons_zero, List.set_cons_succ])
    refine wpAnyH_take (i := 21) (v := ?ffv21) rfl (by kernel_rfl) (by kernel_rfl) (by kernel_rfl) (fun _ _ _ h => h) (Or.inl ⟨by rfl, ?ffy21⟩) (by assumption) ?ffr21
    case ffy21 =>
      intro wx hSw
      clear hSw
      go_simp
      first | done | (with_reducible rfl)
    (try simp only [Act.put, List.getElem_toArray, List.getElem_cons_succ, List.getElem_cons_zero, List.setIfInBounds_toArray, List.set_cons_zero, List.set_cons_succ])
    refine wpAnyH_take (i := 22) (v := ?ffv22) rfl (by kernel_rfl) (by kernel_rfl) (by kernel_rfl) (fun _ _ _ h => h) (Or.inl ⟨by rfl, ?ffy22⟩) (by assumption) ?ffr22
    case ffy22 =>
      intro wx hSw
      clear hSw
      go_simp
      first | done | (with_reducible rfl)
    (try simp only [Act.put, List.getElem_toArray, List.getElem_cons_succ, List.getElem_cons_zero, List.setIfInBounds_toArray, List.set_cons_zero, List.set_cons_succ])
    refine wpAnyH_take (i := 23) (v := ?ffv23) rfl (by kernel_rfl) (by kernel_rfl) (by kernel_rfl) (fun _ _ _ h => h) (Or.inl ⟨by rfl, ?ffy23⟩) (by assumption) ?ffr23
    case ffy23 =>
      intro wx hSw
      clear hSw
      go_simp
      first | done | (with_reducible rfl)
    (try simp only [Act.put, List.getElem_toArray, List.getElem_cons_succ, List.getElem_cons_zero, List.setIfInBounds_toArray, List.set_cons_zero, List.set_cons_succ])
    refine wpAnyH_take (i := 24) (v := ?ffv24) rfl (by kernel_rfl) (by kernel_rfl) (by kernel_rfl) (fun _ _ _ h => h) (Or.inl ⟨by rfl, ?ffy24⟩) (by assumption) ?ffr24
    case ffy24 =>
      intro wx hSw
      clear hSw
      go_simp
      first | done | (with_reducible rfl)
    (try simp only [Act.put, List.getElem_toArray, List.getElem_cons_succ, List.getElem_cons_zero, List.setIfInBounds_toArray, List.set_cons_zero, List.set_cons_succ])
    refine wpAnyH_take (i := 25) (v := ?ffv25) rfl (by kernel_rfl) (by kernel_rfl) (by kernel_rfl) (fun _ _ _ h => h) (Or.inl ⟨by rfl, ?ffy25⟩) (by assumption) ?ffr25
    case ffy25 =>
      intro wx hSw
      have ⟨⟨⟨⟨⟨s0, s1⟩, s2, s3⟩, ⟨⟨t0, t1⟩, t2, t3⟩⟩, ⟨⟨u0, u1⟩, u2, u3⟩, ⟨⟨v0, v1⟩, v2, v3⟩⟩, _⟩ := hSw
      clear hSw
      go_simp
      first | done | (with_reducible rfl)
    (try simp only [Act.put, List.getElem_toArray, List.getElem_cons_succ, List.getElem_cons_zero, List.setIfInBounds_toArray, List.set_cons_zero, List.set_cons_succ])
    refine wpAnyH_take (i := 26) (v := ?ffv26) rfl (by kernel_rfl) (by kernel_rfl) (by kernel_rfl) (fun _ _ _ h => h) (Or.inl ⟨by rfl, ?ffy26⟩) (by assumption) ?ffr26
    case ffy26 =>
      intro wx hSw
      have ⟨⟨⟨⟨⟨s0, s1⟩, s2, s3⟩, ⟨⟨t0, t1⟩, t2, t3⟩⟩, ⟨⟨u0, u1⟩, u2, u3⟩, ⟨⟨v0, v1⟩, v2, v3⟩⟩, _⟩ := hSw
      clear hSw
      go_simp
      first | done | (with_reducible rfl)
    (try simp only [Act.put, List.getElem_toArray, List.getElem_cons_succ, List.getElem_cons_zero, List.setIfInBounds_toArray, List.set_cons_zero, List.set_cons_succ])
    refine wpAnyH_take (i := 27) (v := ?ffv27) rfl (by kernel_rfl) (by kernel_rfl) (by kernel_rfl) (fun _ _ _ h => h) (Or.inl ⟨by rfl, ?ffy27⟩) (by assumption) ?ffr27
    case ffy27 =>
      intro wx hSw
      clear hSw
      go_simp
      first | done | (with_reducible rfl)
    (try simp only [Act.put, List.getElem_toArray, List.getElem_cons_succ, List.getElem_cons_zero, List.setIfInBounds_toArray, List.set_cons_zero, List.set_cons_succ])
    refine wpAnyH_take (i := 28) (v := ?ffv28) rfl (by kernel_rfl) (by kernel_rfl) (by kernel_rfl) (fun _ _ _ h => h) (Or.inl ⟨by rfl, ?ffy28⟩) (by assumption) ?ffr28
    case ffy28 =>
      intro wx hSw
      clear hSw
      go_simp
      first | done | (with_reducible rfl)
    (try simp only [Act.put, List.getElem_toArray, List.getElem_cons_succ, List.getElem_cons_zero, List.setIfInBounds_toArray, List.set_cons_zero, List.set_cons_succ])
    refine wpAnyH_take (i := 29) (v := ?ffv29) rfl (by kernel_rfl) (by kernel_rfl) (by kernel_rfl) (fun _ _ _ h => h) (Or.inl ⟨by rfl, ?ffy29⟩) (by assumption) ?ffr29
    case ffy29 =>
      intro wx hSw
      clear hSw
      go_simp
      first | done | (with_reducible rfl)
    (try simp only [Act.put, List.getElem_toArray, List.getElem_cons_succ, List.getElem_cons_zero, List.setIfInBounds_toArray, List.set_cons_zero, List.set_cons_succ])
    refine wpAnyH_take (i := 30) (v := ?ffv30) rfl (by kernel_rfl) (by kernel_rfl) (by kernel_rfl) (fun _ _ _ h => h) (Or.inl ⟨by rfl, ?ffy30⟩) (by assumption) ?ffr30
    case ffy30 =>
      intro wx hSw
      clear hSw
      go_simp
      first | done | (with_reducible rfl)
    (try simp only [Act.put, List.getElem_toArray, List.getElem_cons_succ, List.getElem_cons_zero, List.setIfInBounds_toArray, List.set_cons_zero, List.set_cons_succ])
    refine wpAnyH_take (i := 31) (v := ?ffv31) rfl (by kernel_rfl) (by kernel_rfl) (by kernel_rfl) (fun _ _ _ h => h) (Or.inl ⟨by rfl, ?ffy31⟩) (by assumption) ?ffr31
    case ffy31 =>
      intro wx hSw
      clear hSw
      go_simp
      first | done | (with_reducible rfl)
    (try simp only [Act.put, List.getElem_toArray, List.getElem_cons_succ, List.getElem_cons_zero, List.setIfInBounds_toArray, List.set_cons_zero, List.set_cons_succ])
    refine wpAnyH_take (i := 32) (v := ?ffv32) rfl (by kernel_rfl) (by kernel_rfl) (by kernel_rfl) (fun _ _ _ h => h) (Or.inl ⟨by rfl, ?ffy32⟩) (by assumption) ?ffr32
    case ffy32 =>
      intro wx hSw
      clear hSw
      go_simp
      first | done | (with_reducible rfl)
    (try simp only [Act.put, List.getElem_toArray, List.getElem_cons_succ, List.getElem_cons_zero, List.setIfInBounds_toArray, List.set_cons_zero, List.set_cons_succ])
    refine wpAnyH_take (i := 33) (v := undef) rfl (by kernel_rfl) (by kernel_rfl) (by kernel_rfl) (fun _ _ _ h => h) (Or.inr ⟨by rfl, rfl⟩) (by assumption) ?ffr33
    (try simp only [Act.put, List.getElem_toArray, List.getElem_cons_succ, List.getElem_cons_zero, List.setIfInBounds_toArray, List.set_cons_zero, List.set_cons_succ])
    refine wpAnyH_take (i := 34) (v := undef) rfl (by kernel_rfl) (by kernel_rfl) (by kernel_rfl) (fun _ _ _ h => h) (Or.inr ⟨by rfl, rfl⟩) (by assumption) ?ffr34
    (try simp only [Act.put, List.getElem_toArray, List.getElem_cons_succ, List.getElem_cons_zero, List.setIfInBounds_toArray, List.set_cons_zero, List.set_cons_succ])
    refine wpAnyH_take (i := 35) (v := undef) rfl (by kernel_rfl) (by kernel_rfl) (by kernel_rfl) (fun _ _ _ h => h) (Or.inr ⟨by rfl, rfl⟩) (by assumption) ?ffr35
    (try simp only [Act.put, List.getElem_toArray, List.getElem_cons_succ, List.getElem_cons_zero, List.setIfInBounds_toArray, List.set_cons_zero, List.set_cons_succ])
    refine wpAnyH_take (i := 36) (v := ?ffv36) rfl (by kernel_rfl) (by kernel_rfl) (by kernel_rfl) (fun _ _ _ h => h) (Or.inl ⟨by rfl, ?ffy36⟩) (by assumption) ?ffr36
    case ffy36 =>
      intro wx hSw
      clear hSw
      go_simp
      first | done | (with_reducible rfl)
    (try simp only [Act.put, List.getElem_toArray, List.getElem_cons_succ, List.getElem_cons_zero, List.setIfInBounds_toArray, List.set_cons_zero, List.set_cons_succ])
    refine wpAnyH_take (i := 37) (v := ?ffv37) rfl (by kernel_rfl) (by kernel_rfl) (by kernel_rfl) (fun _ _ _ h => h) (Or.inl ⟨by rfl, ?ffy37⟩) (by assumption) ?ffr37
    case ffy37 =>
      intro wx hSw
      clear hSw
      go_simp
      first | done | (with_reducible rfl)
    (try simp only [Act.put, List.getElem_toArray, List.getElem_cons_succ, List.getElem_cons_zero, List.setIfInBounds_toArray, List.set_cons_zero, List.set_cons_succ])
    refine wpAnyH_done (by kernel_rfl) ?_ _
    (try go_wp2_with fail)
    go_meet
    case rel => exact ⟨rfl, Lib.hid (CS.bel hH2)⟩
  case rest =>
  obtain ⟨rfl, hw15⟩ := hcut
  have HCW13 := Lib.hid (CW.keep hw15.out HCW12.out)
  clear hw15 hn1 hn2 HS15
  obtain ⟨⟨⟨⟨⟨⟨a0, a1, a2⟩, a3, a4, a5⟩, a6, a7, a8⟩, ⟨⟨⟨b0, b1, b2⟩, b3, b4, b5⟩, b6, b7, b8⟩⟩, ⟨⟨⟨c0, c1, c2⟩, c3, c4, c5⟩, c6, c7, c8⟩, ⟨⟨⟨l0, l1, l2⟩, l3, l4, l5⟩, l6, l7, l8⟩⟩, hbl⟩ := HCW13.out
  go_wp2_with (first
    | (go_at_call 11; (with_reducible refine (HNc.out _ (CW.bel HCW13.out)).mono ?_); rintro e x1 ⟨rfl, hb⟩
       have HCW14 := Lib.hid (CW.keep hb HCW13.out)
       clear a0 a1 a2 a3 a4 a5 a6 a7 a8 b0 b1 b2 b3 b4 b5 b6 b7 b8 c0 c1 c2 c3 c4 c5 c6 c7 c8 l0 l1 l2 l3 l4 l5 l6 l7 l8 hbl hb
       obtain ⟨⟨⟨⟨⟨⟨a0, a1, a2⟩, a3, a4, a5⟩, a6, a7, a8⟩, ⟨⟨⟨b0, b1, b2⟩, b3, b4, b5⟩, b6, b7, b8⟩⟩, ⟨⟨⟨c0, c1, c2⟩, c3, c4, c5⟩, c6, c7, c8⟩, ⟨⟨⟨l0, l1, l2⟩, l3, l4, l5⟩, l6, l7, l8⟩⟩, hbl⟩ := HCW14.out)
    | (go_at_call 11; (with_reducible refine (HNl.out _ (CW.bel HCW14.out)).mono ?_); rintro e x2 ⟨rfl, hb⟩
       have HCW15 := Lib.hid (CW.keep hb HCW14.out)
       clear a0 a1 a2 a3 a4 a5 a6 a7 a8 b0 b1 b2 b3 b4 b5 b6 b7 b8 c0 c1 c2 c3 c4 c5 c6 c7 c8 l0 l1 l2 l3 l4 l5 l6 l7 l8 hbl hb)
    | (go_at_call 13; (with_reducible refine (HA.out _).mono ?_); rintro e x3 ⟨rfl, hb⟩
       have HCW16 := Lib.hid (CW.keep hb HCW15.out)
       clear hb))
  go_ret
  exact ⟨rfl, HX1.out.trans ((CW.bel HCW16.out).mono HX1.out.size)⟩
end Go.Proofs.Ytpfbpgbgedbalaa
