/- RxR. -/
import Derived.Test.YtphiaagppcbefaaGreatDoorPs29
import Derived.StillTailTactics
import Derived.Deep.CutRange
import Derived.Deep.Cut
import Derived.Deep.DeepCutAuto
import Derived.Test.YtphiaagppcbefaaGreatDoorPs30
set_option linter.unusedVariables false
namespace Go.Proofs.YtphiaagppcbefaaGreatDoor
open Go.RowKit
theorem tok_pl {c : CX} {p : PS} (h : kdT c p = -2) : 0 ≤ vlT c p ∧ vlT c p < 256 := by
  unfold kdT tokT at h
  unfold vlT tokT
  by_cases e1 : pkT c.s p.at_ = -1
  · rw [if_pos e1] at h; cases h
  rw [if_neg e1] at h ⊢
  have hp := pk_ge e1
  by_cases e2 : pkT c.s p.at_ = 92
  · rw [if_pos e2] at h ⊢
    simp only at h ⊢
    unfold escT at h ⊢
    split
    · exact ⟨by decide, by decide⟩
    split
    · exact ⟨by decide, by decide⟩
    rename_i n1 n2
    rw [if_neg n1, if_neg n2] at h
    split
    · rename_i n3; rw [if_pos n3] at h; cases h
    rename_i n3
    rw [if_neg n3] at h
    split
    · exact ⟨by decide, by decide⟩
    rename_i n4
    rw [if_neg n4] at h
    split
    · show 0 ≤ _ % 256 ∧ _ % 256 < 256; omega
    rename_i n5
    rw [if_neg n5] at h
    split
    · rename_i n6; rw [if_pos n6] at h; simp only at h; omega
    · rename_i n6; rw [if_neg n6] at h; cases h
  · rw [if_neg e2] at h ⊢
    split
    · rename_i n3; rw [if_pos n3] at h; simp only at h; omega
    · exact hp
theorem tok_rf {c : CX} {p : PS} (h : kdT c p = -3) : 49 ≤ vlT c p ∧ vlT c p ≤ 57 := by
  unfold kdT tokT at h
  unfold vlT tokT
  by_cases e1 : pkT c.s p.at_ = -1
  · rw [if_pos e1] at h; cases h
  rw [if_neg e1] at h ⊢
  have hp := pk_ge e1
  by_cases e2 : pkT c.s p.at_ = 92
  · rw [if_pos e2] at h ⊢
    simp only at h ⊢
    unfold escT at h ⊢
    split
    · rename_i n1; rw [if_pos n1] at h; cases h
    rename_i n1
    rw [if_neg n1] at h
    split
    · rename_i n2; rw [if_pos n2] at h; cases h
    rename_i n2
    rw [if_neg n2] at h
    split
    · rename_i n3; exact n3
    rename_i n3
    rw [if_neg n3] at h
    split
    · rename_i n4; rw [if_pos n4] at h; cases h
    rename_i n4
    rw [if_neg n4] at h
    split
    · rename_i n5; rw [if_pos n5] at h; cases h
    rename_i n5
    rw [if_neg n5] at h
    split
    · rename_i n6; rw [if_pos n6] at h; simp only at h; omega
    · rename_i n6; rw [if_neg n6] at h; cases h
  · rw [if_neg e2] at h ⊢
    split
    · rename_i n3; rw [if_pos n3] at h; simp only at h; omega
    · rename_i n3; rw [if_neg n3] at h; cases h
set_option maxRecDepth 100000 in
set_option maxHeartbeats 8000000 in
theorem pie_7 (w : World) (B : Nat) (c : CX) (V : LV) (p : PS) (h : PM w B c V p) (hk : kdT c p = 94) :
    Calls Tryz.prog 60 #[.pointer (some ⟨B, 0, none⟩)] w (Ret w B c V (leafT 7, pastT c p)) := by
  obtain ⟨⟨K, v, z⟩, hT⟩ : ∃ T, tokT c p = T := ⟨_, rfl⟩
  have hx : Below w.heap.size w (w.alloc (.cells #[.int .i64 0, .int .u64 0, .int .u64 0, .int .u64 0, .int .u64 0, .int .i64 0, .int .i64 0, .int .i64 0, .slice none 0 0] 35)) := (Below.refl _ _).alloc (Nat.le_refl _) _
  have hS0 := Stp.of_below h hx
  have HT := Lib.hid (token_any _ B c V p hS0.1)
  have HS0 := Lib.hid hS0
  have HR0 := Lib.hid (RAt.one w #[.int .i64 0, .int .u64 0, .int .u64 0, .int .u64 0, .int .u64 0, .int .i64 0, .int .i64 0, .int .i64 0, .slice none 0 0])
  have HL := Lib.hid h.lt
  unfold tokV at HT
  rw [hT] at HT
  simp only at HT
  have hkv : K = kdT c p := by unfold kdT; rw [hT]
  have hvv : v = vlT c p := by unfold vlT; rw [hT]
  have hzz : z = szT c p := by unfold szT; rw [hT]
  have hfit := tok_fit (c := c) (p := p)
  have hsz := sz_le c p
  rw [← hkv, ← hzz] at hfit
  rw [← hzz] at hsz
  have hb1 : (p.at_ : Int) ≤ 256 := by have := h.at_; have := h.sz; omega
  have hb2 : (z : Int) ≤ 2 := by omega
  rw [hk] at hkv
  subst hkv
  have HF := Lib.hid (hfit (by decide) (by decide))
  have HZ := Lib.hid hzz
  clear h hx hS0 hfit hsz hvv hk hzz hT
  go_enter Tryz.func60, Tryz.ntmps60
  go_upto_region 4 with (first
    | (go_at_call 62; refine HT.out.mono ?_; rintro e w1 ⟨rfl, hb⟩; have HX2 := Lib.hid (show Below (w.alloc (.cells #[.int .i64 0, .int .u64 0, .int .u64 0, .int .u64 0, .int .u64 0, .int .i64 0, .int .i64 0, .int .i64 0, .slice none 0 0] 35)).heap.size (w.alloc (.cells #[.int .i64 0, .int .u64 0, .int .u64 0, .int .u64 0, .int .u64 0, .int .i64 0, .int .i64 0, .int .i64 0, .slice none 0 0] 35)) (w1.alloc (.cells #[.int .i32 94, .int .u8 v, .int .i64 (z : Int)] 88)) from hb.alloc hb.size _); have HSZ := Lib.hid hb.size; clear hb)
    )
  have q0 : (w1.alloc (.cells #[.int .i32 94, .int .u8 v, .int .i64 (z : Int)] 88)).cell? ⟨w1.heap.size, 0, none⟩ = some (.int .i32 94) := by simp
  have q1 : (w1.alloc (.cells #[.int .i32 94, .int .u8 v, .int .i64 (z : Int)] 88)).cell? ⟨w1.heap.size, 1, none⟩ = some (.int .u8 v) := by simp
  have q2 : (w1.alloc (.cells #[.int .i32 94, .int .u8 v, .int .i64 (z : Int)] 88)).cell? ⟨w1.heap.size, 2, none⟩ = some (.int .i64 (z : Int)) := by simp
  have HTK := Lib.hid (show (w1.alloc (.cells #[.int .i32 94, .int .u8 v, .int .i64 (z : Int)] 88)).heap[w1.heap.size]? = some (.cells #[.int .i32 94, .int .u8 v, .int .i64 (z : Int)] 88 (0, 0)) from heap_alloc_new w1 _)
  generalize (w1.alloc (.cells #[.int .i32 94, .int .u8 v, .int .i64 (z : Int)] 88)) = W at *
  generalize w1.heap.size = gt at *
  have HS := Lib.hid (HS0.out.next HX2.out)
  have HR := Lib.hid (HR0.out.below HX2.out)
  obtain ⟨⟨x0, x1, x2, x3, x4, x5, x6, x7⟩, xf⟩ := HS.out.1.pa.all
  have HGT : Hid (gt ≠ B) := by
    have h1 := HSZ.out
    have h2 := HL.out
    have e : (w.alloc (.cells #[.int .i64 0, .int .u64 0, .int .u64 0, .int .u64 0, .int .u64 0, .int .i64 0, .int .i64 0, .int .i64 0, .slice none 0 0] 35)).heap.size = w.heap.size + 1 := by simp
    show gt ≠ B
    omega
  have HD := Lib.hid HS.out.drew
  have HR2 : Hid (RAt W.drew w.heap.size #[.int .i64 0, .int .u64 0, .int .u64 0, .int .u64 0, .int .u64 0, .int .i64 0, .int .i64 0, .int .i64 0, .slice none 0 0]) := Lib.hid (HR.out.same rfl)
  have HTK2 := Lib.hid (show W.drew.heap[gt]? = _ from HTK.out)
  go_still_tail 9, (by kernel_rfl)
  change wpList _ _ _ _ _ W.drew
  clear x0 x1 x2 x3 x4 x5 x6 x7 xf q0 q1 q2 HS HR HTK HX2
  generalize W.drew = w3 at HD HR2 HTK2 ⊢
  obtain ⟨⟨x0, x1, x2, x3, x4, x5, x6, x7⟩, xf⟩ := HD.out.1.pa.all
  have hgb : w.heap.size ≠ B := by have := HL.out; omega
  have HM := Lib.hid (HD.out.moved (p.at_ + z) HF.out (Nat.le_add_right _ _))
  have HR3 := Lib.hid (HR2.out.same (w' := w3.setCell ⟨B, 8, none⟩ (.int .i64 ((p.at_ + z : Nat) : Int))) (Below.heap_setCell w3 _ _ _ hgb))
  have HTK3 := Lib.hid ((Below.heap_setCell w3 ⟨B, 8, none⟩ (.int .i64 ((p.at_ + z : Nat) : Int)) gt HGT.out).trans HTK2.out)
  go_upto_region 5 with fail
  have e0 : ((p.at_ + z : Nat) : Int) = (p.at_ : Int) + (z : Int) := by omega
  rw [e0] at HM HR3 HTK3
  generalize w3.setCell ⟨B, 8, none⟩ (.int .i64 ((p.at_ : Int) + (z : Int))) = w4 at HM HR3 HTK3 ⊢
  clear x0 x1 x2 x3 x4 x5 x6 x7 xf e0
  obtain ⟨⟨⟨n0, n1, n2⟩, ⟨n3, n4, n5⟩, ⟨n6, n7, n8⟩⟩, nf⟩ := HR3.out.all
  go_wp2
  refine bodyPost_ret (v := .agg #[.int .i64 7, .int .u64 0, .int .u64 0, .int .u64 0, .int .u64 0, .int .i64 0, .int .i64 0, .int .i64 0, .slice none 0 0]) (ret_re Tryz.results60 _ _ w.heap.size _ rfl (by simp) (HR3.out.put9 _ _ _ _ _ _ _ _ _)) rfl ?_
  rw [HZ.out] at HM
  refine ⟨_, rfl, TV.leaf _ _ 7 0 0 0 noSet, HM.out.put9 HL.out _ (Nat.le_refl _) _ _ _ _ _ _ _ _ _⟩
set_option maxRecDepth 100000 in
set_option maxHeartbeats 8000000 in
theorem pie_8 (w : World) (B : Nat) (c : CX) (V : LV) (p : PS) (h : PM w B c V p) (hk : kdT c p = 36) :
    Calls Tryz.prog 60 #[.pointer (some ⟨B, 0, none⟩)] w (Ret w B c V (leafT 8, pastT c p)) := by
  obtain ⟨⟨K, v, z⟩, hT⟩ : ∃ T, tokT c p = T := ⟨_, rfl⟩
  have hx : Below w.heap.size w (w.alloc (.cells #[.int .i64 0, .int .u64 0, .int .u64 0, .int .u64 0, .int .u64 0, .int .i64 0, .int .i64 0, .int .i64 0, .slice none 0 0] 35)) := (Below.refl _ _).alloc (Nat.le_refl _) _
  have hS0 := Stp.of_below h hx
  have HT := Lib.hid (token_any _ B c V p hS0.1)
  have HS0 := Lib.hid hS0
  have HR0 := Lib.hid (RAt.one w #[.int .i64 0, .int .u64 0, .int .u64 0, .int .u64 0, .int .u64 0, .int .i64 0, .int .i64 0, .int .i64 0, .slice none 0 0])
  have HL := Lib.hid h.lt
  unfold tokV at HT
  rw [hT] at HT
  simp only at HT
  have hkv : K = kdT c p := by unfold kdT; rw [hT]
  have hvv : v = vlT c p := by unfold vlT; rw [hT]
  have hzz : z = szT c p := by unfold szT; rw [hT]
  have hfit := tok_fit (c := c) (p := p)
  have hsz := sz_le c p
  rw [← hkv, ← hzz] at hfit
  rw [← hzz] at hsz
  have hb1 : (p.at_ : Int) ≤ 256 := by have := h.at_; have := h.sz; omega
  have hb2 : (z : Int) ≤ 2 := by omega
  rw [hk] at hkv
  subst hkv
  have HF := Lib.hid (hfit (by decide) (by decide))
  have HZ := Lib.hid hzz
  clear h hx hS0 hfit hsz hvv hk hzz hT
  go_enter Tryz.func60, Tryz.ntmps60
  go_upto_region 7 with (first
    | (go_at_call 62; refine HT.out.mono ?_; rintro e w1 ⟨rfl, hb⟩; have HX2 := Lib.hid (show Below (w.alloc (.cells #[.int .i64 0, .int .u64 0, .int .u64 0, .int .u64 0, .int .u64 0, .int .i64 0, .int .i64 0, .int .i64 0, .slice none 0 0] 35)).heap.size (w.alloc (.cells #[.int .i64 0, .int .u64 0, .int .u64 0, .int .u64 0, .int .u64 0, .int .i64 0, .int .i64 0, .int .i64 0, .slice none 0 0] 35)) (w1.alloc (.cells #[.int .i32 36, .int .u8 v, .int .i64 (z : Int)] 88)) from hb.alloc hb.size _); have HSZ := Lib.hid hb.size; clear hb)
    )
  have q0 : (w1.alloc (.cells #[.int .i32 36, .int .u8 v, .int .i64 (z : Int)] 88)).cell? ⟨w1.heap.size, 0, none⟩ = some (.int .i32 36) := by simp
  have q1 : (w1.alloc (.cells #[.int .i32 36, .int .u8 v, .int .i64 (z : Int)] 88)).cell? ⟨w1.heap.size, 1, none⟩ = some (.int .u8 v) := by simp
  have q2 : (w1.alloc (.cells #[.int .i32 36, .int .u8 v, .int .i64 (z : Int)] 88)).cell? ⟨w1.heap.size, 2, none⟩ = some (.int .i64 (z : Int)) := by simp
  have HTK := Lib.hid (show (w1.alloc (.cells #[.int .i32 36, .int .u8 v, .int .i64 (z : Int)] 88)).heap[w1.heap.size]? = some (.cells #[.int .i32 36, .int .u8 v, .int .i64 (z : Int)] 88 (0, 0)) from heap_alloc_new w1 _)
  generalize (w1.alloc (.cells #[.int .i32 36, .int .u8 v, .int .i64 (z : Int)] 88)) = W at *
  generalize w1.heap.size = gt at *
  have HS := Lib.hid (HS0.out.next HX2.out)
  have HR := Lib.hid (HR0.out.below HX2.out)
  obtain ⟨⟨x0, x1, x2, x3, x4, x5, x6, x7⟩, xf⟩ := HS.out.1.pa.all
  have HGT : Hid (gt ≠ B) := by
    have h1 := HSZ.out
    have h2 := HL.out
    have e : (w.alloc (.cells #[.int .i64 0, .int .u64 0, .int .u64 0, .int .u64 0, .int .u64 0, .int .i64 0, .int .i64 0, .int .i64 0, .slice none 0 0] 35)).heap.size = w.heap.size + 1 := by simp
    show gt ≠ B
    omega
  have HD := Lib.hid HS.out.drew
  have HR2 : Hid (RAt W.drew w.heap.size #[.int .i64 0, .int .u64 0, .int .u64 0, .int .u64 0, .int .u64 0, .int .i64 0, .int .i64 0, .int .i64 0, .slice none 0 0]) := Lib.hid (HR.out.same rfl)
  have HTK2 := Lib.hid (show W.drew.heap[gt]? = _ from HTK.out)
  go_still_tail 9, (by kernel_rfl)
  change wpList _ _ _ _ _ W.drew
  clear x0 x1 x2 x3 x4 x5 x6 x7 xf q0 q1 q2 HS HR HTK HX2
  generalize W.drew = w3 at HD HR2 HTK2 ⊢
  obtain ⟨⟨x0, x1, x2, x3, x4, x5, x6, x7⟩, xf⟩ := HD.out.1.pa.all
  have hgb : w.heap.size ≠ B := by have := HL.out; omega
  have HM := Lib.hid (HD.out.moved (p.at_ + z) HF.out (Nat.le_add_right _ _))
  have HR3 := Lib.hid (HR2.out.same (w' := w3.setCell ⟨B, 8, none⟩ (.int .i64 ((p.at_ + z : Nat) : Int))) (Below.heap_setCell w3 _ _ _ hgb))
  have HTK3 := Lib.hid ((Below.heap_setCell w3 ⟨B, 8, none⟩ (.int .i64 ((p.at_ + z : Nat) : Int)) gt HGT.out).trans HTK2.out)
  go_upto_region 8 with fail
  have e0 : ((p.at_ + z : Nat) : Int) = (p.at_ : Int) + (z : Int) := by omega
  rw [e0] at HM HR3 HTK3
  generalize w3.setCell ⟨B, 8, none⟩ (.int .i64 ((p.at_ : Int) + (z : Int))) = w4 at HM HR3 HTK3 ⊢
  clear x0 x1 x2 x3 x4 x5 x6 x7 xf e0
  obtain ⟨⟨⟨n0, n1, n2⟩, ⟨n3, n4, n5⟩, ⟨n6, n7, n8⟩⟩, nf⟩ := HR3.out.all
  go_wp2
  refine bodyPost_ret (v := .agg #[.int .i64 8, .int .u64 0, .int .u64 0, .int .u64 0, .int .u64 0, .int .i64 0, .int .i64 0, .int .i64 0, .slice none 0 0]) (ret_re Tryz.results60 _ _ w.heap.size _ rfl (by simp) (HR3.out.put9 _ _ _ _ _ _ _ _ _)) rfl ?_
  rw [HZ.out] at HM
  refine ⟨_, rfl, TV.leaf _ _ 8 0 0 0 noSet, HM.out.put9 HL.out _ (Nat.le_refl _) _ _ _ _ _ _ _ _ _⟩
set_option maxRecDepth 100000 in
set_option maxHeartbeats 8000000 in
theorem pie_group (w : World) (B : Nat) (c : CX) (V : LV) (p : PS) (h : PM w B c V p) (n : Nat) (grp : PS → TN × PS) (hG : Gn n p) (HGr : Hid (∀ W q, PM W B c V q → Gn n q → kdT c q = 40 → Calls Tryz.prog 83 #[.pointer (some ⟨B, 0, none⟩)] W (Ret W B c V (grp q)))) (hk : kdT c p = 40) :
    Calls Tryz.prog 60 #[.pointer (some ⟨B, 0, none⟩)] w (Ret w B c V (sufT c (grp p).1 (grp p).2)) := by
  obtain ⟨⟨K, v, z⟩, hT⟩ : ∃ T, tokT c p = T := ⟨_, rfl⟩
  have hx : Below w.heap.size w (w.alloc (.cells #[.int .i64 0, .int .u64 0, .int .u64 0, .int .u64 0, .int .u64 0, .int .i64 0, .int .i64 0, .int .i64 0, .slice none 0 0] 35)) := (Below.refl _ _).alloc (Nat.le_refl _) _
  have hS0 := Stp.of_below h hx
  have HT := Lib.hid (token_any _ B c V p hS0.1)
  have HS0 := Lib.hid hS0
  have HR0 := Lib.hid (RAt.one w #[.int .i64 0, .int .u64 0, .int .u64 0, .int .u64 0, .int .u64 0, .int .i64 0, .int .i64 0, .int .i64 0, .slice none 0 0])
  have HL := Lib.hid h.lt
  unfold tokV at HT
  rw [hT] at HT
  simp only at HT
  have hkv : K = kdT c p := by unfold kdT; rw [hT]
  have hvv : v = vlT c p := by unfold vlT; rw [hT]
  have hzz : z = szT c p := by unfold szT; rw [hT]
  have hfit := tok_fit (c := c) (p := p)
  have hsz := sz_le c p
  rw [← hkv, ← hzz] at hfit
  rw [← hzz] at hsz
  have hb1 : (p.at_ : Int) ≤ 256 := by have := h.at_; have := h.sz; omega
  have hb2 : (z : Int) ≤ 2 := by omega
  have HK0 := Lib.hid hk
  rw [hk] at hkv
  subst hkv
  have HF := Lib.hid (hfit (by decide) (by decide))
  clear h hx hS0 hfit hsz hvv hk hzz hT
  go_enter Tryz.func60, Tryz.ntmps60
  go_upto_region 10 with (first
    | (go_at_call 62; refine HT.out.mono ?_; rintro e w1 ⟨rfl, hb⟩; have HX2 := Lib.hid (show Below (w.alloc (.cells #[.int .i64 0, .int .u64 0, .int .u64 0, .int .u64 0, .int .u64 0, .int .i64 0, .int .i64 0, .int .i64 0, .slice none 0 0] 35)).heap.size (w.alloc (.cells #[.int .i64 0, .int .u64 0, .int .u64 0, .int .u64 0, .int .u64 0, .int .i64 0, .int .i64 0, .int .i64 0, .slice none 0 0] 35)) (w1.alloc (.cells #[.int .i32 40, .int .u8 v, .int .i64 (z : Int)] 88)) from hb.alloc hb.size _); have HSZ := Lib.hid hb.size; clear hb)
    )
  have q0 : (w1.alloc (.cells #[.int .i32 40, .int .u8 v, .int .i64 (z : Int)] 88)).cell? ⟨w1.heap.size, 0, none⟩ = some (.int .i32 40) := by simp
  have q1 : (w1.alloc (.cells #[.int .i32 40, .int .u8 v, .int .i64 (z : Int)] 88)).cell? ⟨w1.heap.size, 1, none⟩ = some (.int .u8 v) := by simp
  have q2 : (w1.alloc (.cells #[.int .i32 40, .int .u8 v, .int .i64 (z : Int)] 88)).cell? ⟨w1.heap.size, 2, none⟩ = some (.int .i64 (z : Int)) := by simp
  have HTK := Lib.hid (show (w1.alloc (.cells #[.int .i32 40, .int .u8 v, .int .i64 (z : Int)] 88)).heap[w1.heap.size]? = some (.cells #[.int .i32 40, .int .u8 v, .int .i64 (z : Int)] 88 (0, 0)) from heap_alloc_new w1 _)
  generalize (w1.alloc (.cells #[.int .i32 40, .int .u8 v, .int .i64 (z : Int)] 88)) = W at *
  generalize w1.heap.size = gt at *
  have HS := Lib.hid (HS0.out.next HX2.out)
  have HR := Lib.hid (HR0.out.below HX2.out)
  obtain ⟨⟨x0, x1, x2, x3, x4, x5, x6, x7⟩, xf⟩ := HS.out.1.pa.all
  have HWZ : Hid (w.heap.size + 1 ≤ W.heap.size) := by
    have h1 := HX2.out.size
    have e : (w.alloc (.cells #[.int .i64 0, .int .u64 0, .int .u64 0, .int .u64 0, .int .u64 0, .int .i64 0, .int .i64 0, .int .i64 0, .slice none 0 0] 35)).heap.size = w.heap.size + 1 := by simp
    show w.heap.size + 1 ≤ W.heap.size
    omega
  have hp := HS.out.1
  have hk := HK0.out
  go_wp2_with (first
    | (go_at_call 83; (with_reducible refine (HGr.out _ _ hp hG hk).mono ?_); rintro e w5 ⟨vv, rfl, ht, hs⟩; have TVa := ht.far (Afar.frm (m := w.heap.size + 1) (Below.refl _ _) HWZ.out); have HR := Lib.hid (HR.out.only hs.2 (by have := HL.out; omega)); have HS := Lib.hid (HS.out.trans hs); have HWZ := Lib.hid (Nat.le_trans HWZ.out hs.2.size); clear x0 x1 x2 x3 x4 x5 x6 x7 xf; clear ht hs)
    | (go_at_call 82; refine (suffixed_any _ B c V _ HS.out.1 (w.heap.size + 1) HWZ.out (by have := HL.out; omega) _ _ TVa).mono ?_; rintro e w6 ⟨vv, rfl, ht, hs⟩; obtain ⟨sv, rfl, hsv⟩ := ht; obtain ⟨ad, cp, rfl⟩ := slice_form hsv; unfold rowV; have HSV := Lib.hid hsv; have HR := Lib.hid (HR.out.only hs.2 (by have := HL.out; omega)); have HS := Lib.hid (HS.out.trans hs); obtain ⟨⟨⟨n0, n1, n2⟩, ⟨n3, n4, n5⟩, ⟨n6, n7, n8⟩⟩, nf⟩ := HR.out.all; clear hsv hs)
    )
  refine bodyPost_ret (v := .agg #[.int .i64 (sufT c (grp p).1 (grp p).2).1.op, .int .u64 (wd (sufT c (grp p).1 (grp p).2).1.st 0 64 : Nat), .int .u64 (wd (sufT c (grp p).1 (grp p).2).1.st 64 64 : Nat), .int .u64 (wd (sufT c (grp p).1 (grp p).2).1.st 128 64 : Nat), .int .u64 (wd (sufT c (grp p).1 (grp p).2).1.st 192 64 : Nat), .int .i64 (sufT c (grp p).1 (grp p).2).1.lo, .int .i64 (sufT c (grp p).1 (grp p).2).1.hi, .int .i64 (sufT c (grp p).1 (grp p).2).1.g, .slice ad (sufT c (grp p).1 (grp p).2).1.args.len cp]) (ret_re Tryz.results60 _ _ w.heap.size _ rfl (by simp) (HR.out.put9 _ _ _ _ _ _ _ _ _)) rfl ?_
  refine ⟨_, rfl, ⟨_, rfl, HSV.out.far (Afar.put9 _ _ _ _ _ _ _ _ _ fun b hb => ?_)⟩, HS.out.put9 HL.out _ (Nat.le_refl _) _ _ _ _ _ _ _ _ _⟩
  have hb2 : w.heap.size + 1 ≤ b := hb
  exact ⟨by show w.heap.size ≤ b; omega, by omega⟩
set_option maxRecDepth 100000 in
set_option maxHeartbeats 8000000 in
theorem pie_bracket (w : World) (B : Nat) (c : CX) (V : LV) (p : PS) (h : PM w B c V p) (HBr : Hid (∀ W q, PM W B c V q → kdT c q = 91 → Calls Tryz.prog 84 #[.pointer (some ⟨B, 0, none⟩)] W (Ret W B c V (brkT c q)))) (hk : kdT c p = 91) :
    Calls Tryz.prog 60 #[.pointer (some ⟨B, 0, none⟩)] w (Ret w B c V (sufT c (brkT c p).1 (brkT c p).2)) := by
  obtain ⟨⟨K, v, z⟩, hT⟩ : ∃ T, tokT c p = T := ⟨_, rfl⟩
  have hx : Below w.heap.size w (w.alloc (.cells #[.int .i64 0, .int .u64 0, .int .u64 0, .int .u64 0, .int .u64 0, .int .i64 0, .int .i64 0, .int .i64 0, .slice none 0 0] 35)) := (Below.refl _ _).alloc (Nat.le_refl _) _
  have hS0 := Stp.of_below h hx
  have HT := Lib.hid (token_any _ B c V p hS0.1)
  have HS0 := Lib.hid hS0
  have HR0 := Lib.hid (RAt.one w #[.int .i64 0, .int .u64 0, .int .u64 0, .int .u64 0, .int .u64 0, .int .i64 0, .int .i64 0, .int .i64 0, .slice none 0 0])
  have HL := Lib.hid h.lt
  unfold tokV at HT
  rw [hT] at HT
  simp only at HT
  have hkv : K = kdT c p := by unfold kdT; rw [hT]
  have hvv : v = vlT c p := by unfold vlT; rw [hT]
  have hzz : z = szT c p := by unfold szT; rw [hT]
  have hfit := tok_fit (c := c) (p := p)
  have hsz := sz_le c p
  rw [← hkv, ← hzz] at hfit
  rw [← hzz] at hsz
  have hb1 : (p.at_ : Int) ≤ 256 := by have := h.at_; have := h.sz; omega
  have hb2 : (z : Int) ≤ 2 := by omega
  have HK0 := Lib.hid hk
  rw [hk] at hkv
  subst hkv
  have HF := Lib.hid (hfit (by decide) (by decide))
  clear h hx hS0 hfit hsz hvv hk hzz hT
  go_enter Tryz.func60, Tryz.ntmps60
  go_upto_region 12 with (first
    | (go_at_call 62; refine HT.out.mono ?_; rintro e w1 ⟨rfl, hb⟩; have HX2 := Lib.hid (show Below (w.alloc (.cells #[.int .i64 0, .int .u64 0, .int .u64 0, .int .u64 0, .int .u64 0, .int .i64 0, .int .i64 0, .int .i64 0, .slice none 0 0] 35)).heap.size (w.alloc (.cells #[.int .i64 0, .int .u64 0, .int .u64 0, .int .u64 0, .int .u64 0, .int .i64 0, .int .i64 0, .int .i64 0, .slice none 0 0] 35)) (w1.alloc (.cells #[.int .i32 91, .int .u8 v, .int .i64 (z : Int)] 88)) from hb.alloc hb.size _); have HSZ := Lib.hid hb.size; clear hb)
    )
  have q0 : (w1.alloc (.cells #[.int .i32 91, .int .u8 v, .int .i64 (z : Int)] 88)).cell? ⟨w1.heap.size, 0, none⟩ = some (.int .i32 91) := by simp
  have q1 : (w1.alloc (.cells #[.int .i32 91, .int .u8 v, .int .i64 (z : Int)] 88)).cell? ⟨w1.heap.size, 1, none⟩ = some (.int .u8 v) := by simp
  have q2 : (w1.alloc (.cells #[.int .i32 91, .int .u8 v, .int .i64 (z : Int)] 88)).cell? ⟨w1.heap.size, 2, none⟩ = some (.int .i64 (z : Int)) := by simp
  have HTK := Lib.hid (show (w1.alloc (.cells #[.int .i32 91, .int .u8 v, .int .i64 (z : Int)] 88)).heap[w1.heap.size]? = some (.cells #[.int .i32 91, .int .u8 v, .int .i64 (z : Int)] 88 (0, 0)) from heap_alloc_new w1 _)
  generalize (w1.alloc (.cells #[.int .i32 91, .int .u8 v, .int .i64 (z : Int)] 88)) = W at *
  generalize w1.heap.size = gt at *
  have HS := Lib.hid (HS0.out.next HX2.out)
  have HR := Lib.hid (HR0.out.below HX2.out)
  obtain ⟨⟨x0, x1, x2, x3, x4, x5, x6, x7⟩, xf⟩ := HS.out.1.pa.all
  have HWZ : Hid (w.heap.size + 1 ≤ W.heap.size) := by
    have h1 := HX2.out.size
    have e : (w.alloc (.cells #[.int .i64 0, .int .u64 0, .int .u64 0, .int .u64 0, .int .u64 0, .int .i64 0, .int .i64 0, .int .i64 0, .slice none 0 0] 35)).heap.size = w.heap.size + 1 := by simp
    show w.heap.size + 1 ≤ W.heap.size
    omega
  have hp := HS.out.1
  have hk := HK0.out
  go_wp2_with (first
    | (go_at_call 84; (with_reducible refine (HBr.out _ _ hp hk).mono ?_); rintro e w5 ⟨vv, rfl, ht, hs⟩; have TVa := ht.far (Afar.frm (m := w.heap.size + 1) (Below.refl _ _) HWZ.out); have HR := Lib.hid (HR.out.only hs.2 (by have := HL.out; omega)); have HS := Lib.hid (HS.out.trans hs); have HWZ := Lib.hid (Nat.le_trans HWZ.out hs.2.size); clear x0 x1 x2 x3 x4 x5 x6 x7 xf; clear ht hs)
    | (go_at_call 82; refine (suffixed_any _ B c V _ HS.out.1 (w.heap.size + 1) HWZ.out (by have := HL.out; omega) _ _ TVa).mono ?_; rintro e w6 ⟨vv, rfl, ht, hs⟩; obtain ⟨sv, rfl, hsv⟩ := ht; obtain ⟨ad, cp, rfl⟩ := slice_form hsv; unfold rowV; have HSV := Lib.hid hsv; have HR := Lib.hid (HR.out.only hs.2 (by have := HL.out; omega)); have HS := Lib.hid (HS.out.trans hs); obtain ⟨⟨⟨n0, n1, n2⟩, ⟨n3, n4, n5⟩, ⟨n6, n7, n8⟩⟩, nf⟩ := HR.out.all; clear hsv hs)
    )
  refine bodyPost_ret (v := .agg #[.int .i64 (sufT c (brkT c p).1 (brkT c p).2).1.op, .int .u64 (wd (sufT c (brkT c p).1 (brkT c p).2).1.st 0 64 : Nat), .int .u64 (wd (sufT c (brkT c p).1 (brkT c p).2).1.st 64 64 : Nat), .int .u64 (wd (sufT c (brkT c p).1 (brkT c p).2).1.st 128 64 : Nat), .int .u64 (wd (sufT c (brkT c p).1 (brkT c p).2).1.st 192 64 : Nat), .int .i64 (sufT c (brkT c p).1 (brkT c p).2).1.lo, .int .i64 (sufT c (brkT c p).1 (brkT c p).2).1.hi, .int .i64 (sufT c (brkT c p).1 (brkT c p).2).1.g, .slice ad (sufT c (brkT c p).1 (brkT c p).2).1.args.len cp]) (ret_re Tryz.results60 _ _ w.heap.size _ rfl (by simp) (HR.out.put9 _ _ _ _ _ _ _ _ _)) rfl ?_
  refine ⟨_, rfl, ⟨_, rfl, HSV.out.far (Afar.put9 _ _ _ _ _ _ _ _ _ fun b hb => ?_)⟩, HS.out.put9 HL.out _ (Nat.le_refl _) _ _ _ _ _ _ _ _ _⟩
  have hb2 : w.heap.size + 1 ≤ b := hb
  exact ⟨by show w.heap.size ≤ b; omega, by omega⟩
set_option maxRecDepth 100000 in
set_option maxHeartbeats 8000000 in
theorem pie_dot (w : World) (B : Nat) (c : CX) (V : LV) (p : PS) (h : PM w B c V p) (hk : kdT c p = 46) :
    Calls Tryz.prog 60 #[.pointer (some ⟨B, 0, none⟩)] w (Ret w B c V (sufT c (setR (linT c fun x => !noSet x)) (pastT c p))) := by
  obtain ⟨⟨K, v, z⟩, hT⟩ : ∃ T, tokT c p = T := ⟨_, rfl⟩
  have hx : Below w.heap.size w (w.alloc (.cells #[.int .i64 0, .int .u64 0, .int .u64 0, .int .u64 0, .int .u64 0, .int .i64 0, .int .i64 0, .int .i64 0, .slice none 0 0] 35)) := (Below.refl _ _).alloc (Nat.le_refl _) _
  have hS0 := Stp.of_below h hx
  have HT := Lib.hid (token_any _ B c V p hS0.1)
  have HS0 := Lib.hid hS0
  have HR0 := Lib.hid (RAt.one w #[.int .i64 0, .int .u64 0, .int .u64 0, .int .u64 0, .int .u64 0, .int .i64 0, .int .i64 0, .int .i64 0, .slice none 0 0])
  have HL := Lib.hid h.lt
  unfold tokV at HT
  rw [hT] at HT
  simp only at HT
  have hkv : K = kdT c p := by unfold kdT; rw [hT]
  have hvv : v = vlT c p := by unfold vlT; rw [hT]
  have hzz : z = szT c p := by unfold szT; rw [hT]
  have hfit := tok_fit (c := c) (p := p)
  have hsz := sz_le c p
  rw [← hkv, ← hzz] at hfit
  rw [← hzz] at hsz
  have hb1 : (p.at_ : Int) ≤ 256 := by have := h.at_; have := h.sz; omega
  have hb2 : (z : Int) ≤ 2 := by omega
  rw [hk] at hkv
  subst hkv
  have HF := Lib.hid (hfit (by decide) (by decide))
  have HZ := Lib.hid hzz
  clear h hx hS0 hfit hsz hk hzz hT hvv
  go_enter Tryz.func60, Tryz.ntmps60
  go_upto_region 14 with (first
    | (go_at_call 62; refine HT.out.mono ?_; rintro e w1 ⟨rfl, hb⟩; have HX2 := Lib.hid (show Below (w.alloc (.cells #[.int .i64 0, .int .u64 0, .int .u64 0, .int .u64 0, .int .u64 0, .int .i64 0, .int .i64 0, .int .i64 0, .slice none 0 0] 35)).heap.size (w.alloc (.cells #[.int .i64 0, .int .u64 0, .int .u64 0, .int .u64 0, .int .u64 0, .int .i64 0, .int .i64 0, .int .i64 0, .slice none 0 0] 35)) (w1.alloc (.cells #[.int .i32 46, .int .u8 v, .int .i64 (z : Int)] 88)) from hb.alloc hb.size _); have HSZ := Lib.hid hb.size; clear hb)
    )
  have q0 : (w1.alloc (.cells #[.int .i32 46, .int .u8 v, .int .i64 (z : Int)] 88)).cell? ⟨w1.heap.size, 0, none⟩ = some (.int .i32 46) := by simp
  have q1 : (w1.alloc (.cells #[.int .i32 46, .int .u8 v, .int .i64 (z : Int)] 88)).cell? ⟨w1.heap.size, 1, none⟩ = some (.int .u8 v) := by simp
  have q2 : (w1.alloc (.cells #[.int .i32 46, .int .u8 v, .int .i64 (z : Int)] 88)).cell? ⟨w1.heap.size, 2, none⟩ = some (.int .i64 (z : Int)) := by simp
  have HTK := Lib.hid (show (w1.alloc (.cells #[.int .i32 46, .int .u8 v, .int .i64 (z : Int)] 88)).heap[w1.heap.size]? = some (.cells #[.int .i32 46, .int .u8 v, .int .i64 (z : Int)] 88 (0, 0)) from heap_alloc_new w1 _)
  generalize (w1.alloc (.cells #[.int .i32 46, .int .u8 v, .int .i64 (z : Int)] 88)) = W at *
  generalize w1.heap.size = gt at *
  have HS := Lib.hid (HS0.out.next HX2.out)
  have HR := Lib.hid (HR0.out.below HX2.out)
  obtain ⟨⟨x0, x1, x2, x3, x4, x5, x6, x7⟩, xf⟩ := HS.out.1.pa.all
  have HGT : Hid (gt ≠ B) := by
    have h1 := HSZ.out
    have h2 := HL.out
    have e : (w.alloc (.cells #[.int .i64 0, .int .u64 0, .int .u64 0, .int .u64 0, .int .u64 0, .int .i64 0, .int .i64 0, .int .i64 0, .slice none 0 0] 35)).heap.size = w.heap.size + 1 := by simp
    show gt ≠ B
    omega
  have HWZ : Hid (w.heap.size + 1 ≤ W.heap.size) := by
    have h1 := HX2.out.size
    have e : (w.alloc (.cells #[.int .i64 0, .int .u64 0, .int .u64 0, .int .u64 0, .int .u64 0, .int .i64 0, .int .i64 0, .int .i64 0, .slice none 0 0] 35)).heap.size = w.heap.size + 1 := by simp
    show w.heap.size + 1 ≤ W.heap.size
    omega
  have HWZ2 := Lib.hid (show w.heap.size + 1 ≤ (W.drew.setCell ⟨B, 8, none⟩ (.int .i64 ((p.at_ + z : Nat) : Int))).heap.size by have := HWZ.out; simpa [World.setCell] using this)
  have HD := Lib.hid HS.out.drew
  have HR2 : Hid (RAt W.drew w.heap.size #[.int .i64 0, .int .u64 0, .int .u64 0, .int .u64 0, .int .u64 0, .int .i64 0, .int .i64 0, .int .i64 0, .slice none 0 0]) := Lib.hid (HR.out.same rfl)
  have HTK2 := Lib.hid (show W.drew.heap[gt]? = _ from HTK.out)
  go_still_tail 9, (by kernel_rfl)
  change wpList _ _ _ _ _ W.drew
  clear x0 x1 x2 x3 x4 x5 x6 x7 xf q0 q1 q2 HS HR HTK HX2
  clear HWZ
  generalize W.drew = w3 at HD HR2 HTK2 HWZ2 ⊢
  obtain ⟨⟨x0, x1, x2, x3, x4, x5, x6, x7⟩, xf⟩ := HD.out.1.pa.all
  have hgb : w.heap.size ≠ B := by have := HL.out; omega
  have HM := Lib.hid (HD.out.moved (p.at_ + z) HF.out (Nat.le_add_right _ _))
  have HR3 := Lib.hid (HR2.out.same (w' := w3.setCell ⟨B, 8, none⟩ (.int .i64 ((p.at_ + z : Nat) : Int))) (Below.heap_setCell w3 _ _ _ hgb))
  have HTK3 := Lib.hid ((Below.heap_setCell w3 ⟨B, 8, none⟩ (.int .i64 ((p.at_ + z : Nat) : Int)) gt HGT.out).trans HTK2.out)
  go_upto_region 15 with fail
  have e0 : ((p.at_ + z : Nat) : Int) = (p.at_ : Int) + (z : Int) := by omega
  rw [e0] at HM HR3 HTK3 HWZ2
  generalize w3.setCell ⟨B, 8, none⟩ (.int .i64 ((p.at_ : Int) + (z : Int))) = w4 at HM HR3 HTK3 HWZ2 ⊢
  clear x0 x1 x2 x3 x4 x5 x6 x7 xf e0
  have HS := HM
  have HR := HR3
  have HWZ := HWZ2
  clear HM HR3 HWZ2
  have HC : Hid (∀ W, Calls Tryz.prog 71 #[.agg #[.int .u64 0, .int .u64 0, .int .u64 0, .int .u64 0]] W fun e w' => e = .returned (cs fun x => !noSet x) ∧ Below W.heap.size W w') := fun W => by
    have := compl_any noSet W
    unfold cs noSet at this
    rw [← cl_zero] at this
    exact this
  go_wp2_with (first
    | (go_at_call 71; refine (HC.out _).mono ?_; rintro e wa ⟨rfl, hb⟩; have HS := Lib.hid (HS.out.next hb); have HR := Lib.hid (HR.out.below hb); have HWZ := Lib.hid (Nat.le_trans HWZ.out hb.size); clear hb)
    | (go_at_call 86; refine (lin_any _ B c V _ HS.out.1 _).mono ?_; rintro e wa ⟨rfl, hb⟩; have HS := Lib.hid (HS.out.next hb); have HR := Lib.hid (HR.out.below hb); have HWZ := Lib.hid (Nat.le_trans HWZ.out hb.size); clear hb)
    | (go_at_call 85; refine (setOf_any _ _).mono ?_; rintro e wa ⟨rfl, hb⟩; have HS := Lib.hid (HS.out.next hb); have HR := Lib.hid (HR.out.below hb); have HWZ := Lib.hid (Nat.le_trans HWZ.out hb.size); clear hb)
    | (go_at_call 82; refine (suffixed_any _ B c V _ HS.out.1 (w.heap.size + 1) HWZ.out (by have := HL.out; omega) _ _ (setV_tv _ _ (linT c fun x => !noSet x))).mono ?_; rintro e w6 ⟨vv, rfl, ht, hs⟩; obtain ⟨sv, rfl, hsv⟩ := ht; obtain ⟨ad, cp, rfl⟩ := slice_form hsv; unfold rowV; have HSV := Lib.hid hsv; have HR := Lib.hid (HR.out.only hs.2 (by have := HL.out; omega)); have HS := Lib.hid (HS.out.trans hs); obtain ⟨⟨⟨n0, n1, n2⟩, ⟨n3, n4, n5⟩, ⟨n6, n7, n8⟩⟩, nf⟩ := HR.out.all; clear hsv hs)
    )
  have hpa : pastT c p = p.to (p.at_ + z) := by unfold pastT; rw [← HZ.out]
  rw [hpa]
  refine bodyPost_ret (v := .agg #[.int .i64 (sufT c (setR (linT c fun x => !noSet x)) (p.to (p.at_ + z))).1.op, .int .u64 (wd (sufT c (setR (linT c fun x => !noSet x)) (p.to (p.at_ + z))).1.st 0 64 : Nat), .int .u64 (wd (sufT c (setR (linT c fun x => !noSet x)) (p.to (p.at_ + z))).1.st 64 64 : Nat), .int .u64 (wd (sufT c (setR (linT c fun x => !noSet x)) (p.to (p.at_ + z))).1.st 128 64 : Nat), .int .u64 (wd (sufT c (setR (linT c fun x => !noSet x)) (p.to (p.at_ + z))).1.st 192 64 : Nat), .int .i64 (sufT c (setR (linT c fun x => !noSet x)) (p.to (p.at_ + z))).1.lo, .int .i64 (sufT c (setR (linT c fun x => !noSet x)) (p.to (p.at_ + z))).1.hi, .int .i64 (sufT c (setR (linT c fun x => !noSet x)) (p.to (p.at_ + z))).1.g, .slice ad (sufT c (setR (linT c fun x => !noSet x)) (p.to (p.at_ + z))).1.args.len cp]) (ret_re Tryz.results60 _ _ w.heap.size _ rfl (by simp) (HR.out.put9 _ _ _ _ _ _ _ _ _)) rfl ?_
  refine ⟨_, rfl, ⟨_, rfl, HSV.out.far (Afar.put9 _ _ _ _ _ _ _ _ _ fun b hb => ?_)⟩, HS.out.put9 HL.out _ (Nat.le_refl _) _ _ _ _ _ _ _ _ _⟩
  have hb2 : w.heap.size + 1 ≤ b := hb
  exact ⟨by show w.heap.size ≤ b; omega, by omega⟩
set_option maxRecDepth 100000 in
set_option maxHeartbeats 8000000 in
theorem pie_plain (w : World) (B : Nat) (c : CX) (V : LV) (p : PS) (h : PM w B c V p) (hk : kdT c p = (-2)) :
    Calls Tryz.prog 60 #[.pointer (some ⟨B, 0, none⟩)] w (Ret w B c V (sufT c (setR (foldT c (between (vlT c p).toNat (vlT c p).toNat))) (pastT c p))) := by
  obtain ⟨⟨K, v, z⟩, hT⟩ : ∃ T, tokT c p = T := ⟨_, rfl⟩
  have hx : Below w.heap.size w (w.alloc (.cells #[.int .i64 0, .int .u64 0, .int .u64 0, .int .u64 0, .int .u64 0, .int .i64 0, .int .i64 0, .int .i64 0, .slice none 0 0] 35)) := (Below.refl _ _).alloc (Nat.le_refl _) _
  have hS0 := Stp.of_below h hx
  have HT := Lib.hid (token_any _ B c V p hS0.1)
  have HS0 := Lib.hid hS0
  have HR0 := Lib.hid (RAt.one w #[.int .i64 0, .int .u64 0, .int .u64 0, .int .u64 0, .int .u64 0, .int .i64 0, .int .i64 0, .int .i64 0, .slice none 0 0])
  have HL := Lib.hid h.lt
  unfold tokV at HT
  rw [hT] at HT
  simp only at HT
  have hkv : K = kdT c p := by unfold kdT; rw [hT]
  have hvv : v = vlT c p := by unfold vlT; rw [hT]
  have hzz : z = szT c p := by unfold szT; rw [hT]
  have hfit := tok_fit (c := c) (p := p)
  have hsz := sz_le c p
  rw [← hkv, ← hzz] at hfit
  rw [← hzz] at hsz
  have hb1 : (p.at_ : Int) ≤ 256 := by have := h.at_; have := h.sz; omega
  have hb2 : (z : Int) ≤ 2 := by omega
  have hpl := tok_pl hk
  have HRg : Hid (∀ W, Calls Tryz.prog 88 #[.int .u8 v, .int .u8 v] W fun e w' => e = .returned (cs (between (vlT c p).toNat (vlT c p).toNat)) ∧ Below W.heap.size W w') := fun W => by
    have := range_any (vlT c p).toNat (vlT c p).toNat (by omega) (by omega) W
    rw [show (((vlT c p).toNat : Nat) : Int) = v by rw [hvv]; omega] at this
    exact this
  clear hpl
  rw [hk] at hkv
  subst hkv
  have HF := Lib.hid (hfit (by decide) (by decide))
  have HZ := Lib.hid hzz
  clear h hx hS0 hfit hsz hk hzz hT hvv
  go_enter Tryz.func60, Tryz.ntmps60
  go_upto_region 17 with (first
    | (go_at_call 62; refine HT.out.mono ?_; rintro e w1 ⟨rfl, hb⟩; have HX2 := Lib.hid (show Below (w.alloc (.cells #[.int .i64 0, .int .u64 0, .int .u64 0, .int .u64 0, .int .u64 0, .int .i64 0, .int .i64 0, .int .i64 0, .slice none 0 0] 35)).heap.size (w.alloc (.cells #[.int .i64 0, .int .u64 0, .int .u64 0, .int .u64 0, .int .u64 0, .int .i64 0, .int .i64 0, .int .i64 0, .slice none 0 0] 35)) (w1.alloc (.cells #[.int .i32 (-2), .int .u8 v, .int .i64 (z : Int)] 88)) from hb.alloc hb.size _); have HSZ := Lib.hid hb.size; clear hb)
    )
  have q0 : (w1.alloc (.cells #[.int .i32 (-2), .int .u8 v, .int .i64 (z : Int)] 88)).cell? ⟨w1.heap.size, 0, none⟩ = some (.int .i32 (-2)) := by simp
  have q1 : (w1.alloc (.cells #[.int .i32 (-2), .int .u8 v, .int .i64 (z : Int)] 88)).cell? ⟨w1.heap.size, 1, none⟩ = some (.int .u8 v) := by simp
  have q2 : (w1.alloc (.cells #[.int .i32 (-2), .int .u8 v, .int .i64 (z : Int)] 88)).cell? ⟨w1.heap.size, 2, none⟩ = some (.int .i64 (z : Int)) := by simp
  have HTK := Lib.hid (show (w1.alloc (.cells #[.int .i32 (-2), .int .u8 v, .int .i64 (z : Int)] 88)).heap[w1.heap.size]? = some (.cells #[.int .i32 (-2), .int .u8 v, .int .i64 (z : Int)] 88 (0, 0)) from heap_alloc_new w1 _)
  generalize (w1.alloc (.cells #[.int .i32 (-2), .int .u8 v, .int .i64 (z : Int)] 88)) = W at *
  generalize w1.heap.size = gt at *
  have HS := Lib.hid (HS0.out.next HX2.out)
  have HR := Lib.hid (HR0.out.below HX2.out)
  obtain ⟨⟨x0, x1, x2, x3, x4, x5, x6, x7⟩, xf⟩ := HS.out.1.pa.all
  have HGT : Hid (gt ≠ B) := by
    have h1 := HSZ.out
    have h2 := HL.out
    have e : (w.alloc (.cells #[.int .i64 0, .int .u64 0, .int .u64 0, .int .u64 0, .int .u64 0, .int .i64 0, .int .i64 0, .int .i64 0, .slice none 0 0] 35)).heap.size = w.heap.size + 1 := by simp
    show gt ≠ B
    omega
  have HWZ : Hid (w.heap.size + 1 ≤ W.heap.size) := by
    have h1 := HX2.out.size
    have e : (w.alloc (.cells #[.int .i64 0, .int .u64 0, .int .u64 0, .int .u64 0, .int .u64 0, .int .i64 0, .int .i64 0, .int .i64 0, .slice none 0 0] 35)).heap.size = w.heap.size + 1 := by simp
    show w.heap.size + 1 ≤ W.heap.size
    omega
  have HWZ2 := Lib.hid (show w.heap.size + 1 ≤ (W.drew.setCell ⟨B, 8, none⟩ (.int .i64 ((p.at_ + z : Nat) : Int))).heap.size by have := HWZ.out; simpa [World.setCell] using this)
  have HD := Lib.hid HS.out.drew
  have HR2 : Hid (RAt W.drew w.heap.size #[.int .i64 0, .int .u64 0, .int .u64 0, .int .u64 0, .int .u64 0, .int .i64 0, .int .i64 0, .int .i64 0, .slice none 0 0]) := Lib.hid (HR.out.same rfl)
  have HTK2 := Lib.hid (show W.drew.heap[gt]? = _ from HTK.out)
  go_still_tail 9, (by kernel_rfl)
  change wpList _ _ _ _ _ W.drew
  clear x0 x1 x2 x3 x4 x5 x6 x7 xf q0 q1 q2 HS HR HTK HX2
  clear HWZ
  generalize W.drew = w3 at HD HR2 HTK2 HWZ2 ⊢
  obtain ⟨⟨x0, x1, x2, x3, x4, x5, x6, x7⟩, xf⟩ := HD.out.1.pa.all
  have hgb : w.heap.size ≠ B := by have := HL.out; omega
  have HM := Lib.hid (HD.out.moved (p.at_ + z) HF.out (Nat.le_add_right _ _))
  have HR3 := Lib.hid (HR2.out.same (w' := w3.setCell ⟨B, 8, none⟩ (.int .i64 ((p.at_ + z : Nat) : Int))) (Below.heap_setCell w3 _ _ _ hgb))
  have HTK3 := Lib.hid ((Below.heap_setCell w3 ⟨B, 8, none⟩ (.int .i64 ((p.at_ + z : Nat) : Int)) gt HGT.out).trans HTK2.out)
  go_upto_region 18 with fail
  have e0 : ((p.at_ + z : Nat) : Int) = (p.at_ : Int) + (z : Int) := by omega
  rw [e0] at HM HR3 HTK3 HWZ2
  generalize w3.setCell ⟨B, 8, none⟩ (.int .i64 ((p.at_ : Int) + (z : Int))) = w4 at HM HR3 HTK3 HWZ2 ⊢
  clear x0 x1 x2 x3 x4 x5 x6 x7 xf e0
  have HS := HM
  have HR := HR3
  have HWZ := HWZ2
  clear HM HR3 HWZ2
  have m1 : w4.cell? ⟨gt, 1, none⟩ = some (.int .u8 v) := cell_of_row w4 gt 1 _ _ _ HTK3.out
  go_wp2_with (first
    | (go_at_call 88; refine (HRg.out _).mono ?_; rintro e wa ⟨rfl, hb⟩; have HS := Lib.hid (HS.out.next hb); have HR := Lib.hid (HR.out.below hb); have HWZ := Lib.hid (Nat.le_trans HWZ.out hb.size); clear hb)
    | (go_at_call 87; refine (folded_any _ B c V _ HS.out.1 _).mono ?_; rintro e wa ⟨rfl, hb⟩; have HS := Lib.hid (HS.out.next hb); have HR := Lib.hid (HR.out.below hb); have HWZ := Lib.hid (Nat.le_trans HWZ.out hb.size); clear hb)
    | (go_at_call 85; refine (setOf_any _ _).mono ?_; rintro e wa ⟨rfl, hb⟩; have HS := Lib.hid (HS.out.next hb); have HR := Lib.hid (HR.out.below hb); have HWZ := Lib.hid (Nat.le_trans HWZ.out hb.size); clear hb)
    | (go_at_call 82; refine (suffixed_any _ B c V _ HS.out.1 (w.heap.size + 1) HWZ.out (by have := HL.out; omega) _ _ (setV_tv _ _ (foldT c (between (vlT c p).toNat (vlT c p).toNat)))).mono ?_; rintro e w6 ⟨vv, rfl, ht, hs⟩; obtain ⟨sv, rfl, hsv⟩ := ht; obtain ⟨ad, cp, rfl⟩ := slice_form hsv; unfold rowV; have HSV := Lib.hid hsv; have HR := Lib.hid (HR.out.only hs.2 (by have := HL.out; omega)); have HS := Lib.hid (HS.out.trans hs); obtain ⟨⟨⟨n0, n1, n2⟩, ⟨n3, n4, n5⟩, ⟨n6, n7, n8⟩⟩, nf⟩ := HR.out.all; clear hsv hs)
    )
  have hpa : pastT c p = p.to (p.at_ + z) := by unfold pastT; rw [← HZ.out]
  rw [hpa]
  refine bodyPost_ret (v := .agg #[.int .i64 (sufT c (setR (foldT c (between (vlT c p).toNat (vlT c p).toNat))) (p.to (p.at_ + z))).1.op, .int .u64 (wd (sufT c (setR (foldT c (between (vlT c p).toNat (vlT c p).toNat))) (p.to (p.at_ + z))).1.st 0 64 : Nat), .int .u64 (wd (sufT c (setR (foldT c (between (vlT c p).toNat (vlT c p).toNat))) (p.to (p.at_ + z))).1.st 64 64 : Nat), .int .u64 (wd (sufT c (setR (foldT c (between (vlT c p).toNat (vlT c p).toNat))) (p.to (p.at_ + z))).1.st 128 64 : Nat), .int .u64 (wd (sufT c (setR (foldT c (between (vlT c p).toNat (vlT c p).toNat))) (p.to (p.at_ + z))).1.st 192 64 : Nat), .int .i64 (sufT c (setR (foldT c (between (vlT c p).toNat (vlT c p).toNat))) (p.to (p.at_ + z))).1.lo, .int .i64 (sufT c (setR (foldT c (between (vlT c p).toNat (vlT c p).toNat))) (p.to (p.at_ + z))).1.hi, .int .i64 (sufT c (setR (foldT c (between (vlT c p).toNat (vlT c p).toNat))) (p.to (p.at_ + z))).1.g, .slice ad (sufT c (setR (foldT c (between (vlT c p).toNat (vlT c p).toNat))) (p.to (p.at_ + z))).1.args.len cp]) (ret_re Tryz.results60 _ _ w.heap.size _ rfl (by simp) (HR.out.put9 _ _ _ _ _ _ _ _ _)) rfl ?_
  refine ⟨_, rfl, ⟨_, rfl, HSV.out.far (Afar.put9 _ _ _ _ _ _ _ _ _ fun b hb => ?_)⟩, HS.out.put9 HL.out _ (Nat.le_refl _) _ _ _ _ _ _ _ _ _⟩
  have hb2 : w.heap.size + 1 ≤ b := hb
  exact ⟨by show w.heap.size ≤ b; omega, by omega⟩
set_option maxRecDepth 100000 in
set_option maxHeartbeats 8000000 in
theorem pie_ref (w : World) (B : Nat) (c : CX) (V : LV) (p : PS) (h : PM w B c V p) (hk : kdT c p = -3) :
    Calls Tryz.prog 60 #[.pointer (some ⟨B, 0, none⟩)] w (Ret w B c V (sufT c (bacT c (vlT c p) p).1 (bacT c (vlT c p) p).2)) := by
  obtain ⟨⟨K, v, z⟩, hT⟩ : ∃ T, tokT c p = T := ⟨_, rfl⟩
  have hx : Below w.heap.size w (w.alloc (.cells #[.int .i64 0, .int .u64 0, .int .u64 0, .int .u64 0, .int .u64 0, .int .i64 0, .int .i64 0, .int .i64 0, .slice none 0 0] 35)) := (Below.refl _ _).alloc (Nat.le_refl _) _
  have hS0 := Stp.of_below h hx
  have HT := Lib.hid (token_any _ B c V p hS0.1)
  have HS0 := Lib.hid hS0
  have HR0 := Lib.hid (RAt.one w #[.int .i64 0, .int .u64 0, .int .u64 0, .int .u64 0, .int .u64 0, .int .i64 0, .int .i64 0, .int .i64 0, .slice none 0 0])
  have HL := Lib.hid h.lt
  unfold tokV at HT
  rw [hT] at HT
  simp only at HT
  have hkv : K = kdT c p := by unfold kdT; rw [hT]
  have hvv : v = vlT c p := by unfold vlT; rw [hT]
  have hzz : z = szT c p := by unfold szT; rw [hT]
  have hfit := tok_fit (c := c) (p := p)
  have hsz := sz_le c p
  rw [← hkv, ← hzz] at hfit
  rw [← hzz] at hsz
  have hb1 : (p.at_ : Int) ≤ 256 := by have := h.at_; have := h.sz; omega
  have hb2 : (z : Int) ≤ 2 := by omega
  have HVR : Hid (49 ≤ v ∧ v ≤ 57) := by
    have := tok_rf hk
    rw [← hvv] at this
    exact this
  have hbc : bacT c (vlT c p) p = (if p.cl (v - 48).toNat = true then (bakR (v - 48), p.to (p.at_ + z)) else (T0, failT c p 4 p.at_)) := by
    unfold bacT
    rw [← hvv, ← hzz]
  rw [hk] at hkv
  subst hkv
  have hf := hfit (by decide) (by decide)
  obtain ⟨⟨tb, qb⟩, hr⟩ : ∃ r, bacT c (vlT c p) p = r := ⟨_, rfl⟩
  have HBk : Hid (∀ W, PM W B c V p → Calls Tryz.prog 89 #[.pointer (some ⟨B, 0, none⟩), .agg #[.int .i32 (-3), .int .u8 v, .int .i64 (z : Int)]] W (Ret W B c V (tb, qb))) := fun W hW => by
    have := back_any W B c V p hW (-3) v z HVR.out hsz.2 hf
    rw [← hbc, hr] at this
    exact this
  rw [hr]
  show Calls _ _ _ _ (Ret w B c V (sufT c tb qb))
  clear h hx hS0 hfit hsz hk hzz hT hvv hbc hr hf
  go_enter Tryz.func60, Tryz.ntmps60
  go_upto_region 20 with (first
    | (go_at_call 62; refine HT.out.mono ?_; rintro e w1 ⟨rfl, hb⟩; have HX2 := Lib.hid (show Below (w.alloc (.cells #[.int .i64 0, .int .u64 0, .int .u64 0, .int .u64 0, .int .u64 0, .int .i64 0, .int .i64 0, .int .i64 0, .slice none 0 0] 35)).heap.size (w.alloc (.cells #[.int .i64 0, .int .u64 0, .int .u64 0, .int .u64 0, .int .u64 0, .int .i64 0, .int .i64 0, .int .i64 0, .slice none 0 0] 35)) (w1.alloc (.cells #[.int .i32 (-3), .int .u8 v, .int .i64 (z : Int)] 88)) from hb.alloc hb.size _); have HSZ := Lib.hid hb.size; clear hb)
    )
  have q0 : (w1.alloc (.cells #[.int .i32 (-3), .int .u8 v, .int .i64 (z : Int)] 88)).cell? ⟨w1.heap.size, 0, none⟩ = some (.int .i32 (-3)) := by simp
  have q1 : (w1.alloc (.cells #[.int .i32 (-3), .int .u8 v, .int .i64 (z : Int)] 88)).cell? ⟨w1.heap.size, 1, none⟩ = some (.int .u8 v) := by simp
  have q2 : (w1.alloc (.cells #[.int .i32 (-3), .int .u8 v, .int .i64 (z : Int)] 88)).cell? ⟨w1.heap.size, 2, none⟩ = some (.int .i64 (z : Int)) := by simp
  have HTK := Lib.hid (show (w1.alloc (.cells #[.int .i32 (-3), .int .u8 v, .int .i64 (z : Int)] 88)).heap[w1.heap.size]? = some (.cells #[.int .i32 (-3), .int .u8 v, .int .i64 (z : Int)] 88 (0, 0)) from heap_alloc_new w1 _)
  generalize (w1.alloc (.cells #[.int .i32 (-3), .int .u8 v, .int .i64 (z : Int)] 88)) = W at *
  generalize w1.heap.size = gt at *
  have HS := Lib.hid (HS0.out.next HX2.out)
  have HR := Lib.hid (HR0.out.below HX2.out)
  obtain ⟨⟨x0, x1, x2, x3, x4, x5, x6, x7⟩, xf⟩ := HS.out.1.pa.all
  have HWZ : Hid (w.heap.size + 1 ≤ W.heap.size) := by
    have h1 := HX2.out.size
    have e : (w.alloc (.cells #[.int .i64 0, .int .u64 0, .int .u64 0, .int .u64 0, .int .u64 0, .int .i64 0, .int .i64 0, .int .i64 0, .slice none 0 0] 35)).heap.size = w.heap.size + 1 := by simp
    show w.heap.size + 1 ≤ W.heap.size
    omega
  have hp := HS.out.1
  go_wp2_with (first
    | (go_at_call 89; (with_reducible refine (HBk.out _ hp).mono ?_); rintro e w5 ⟨vv, rfl, ht, hs⟩; have TVa := ht.far (Afar.frm (m := w.heap.size + 1) (Below.refl _ _) HWZ.out); have HR := Lib.hid (HR.out.only hs.2 (by have := HL.out; omega)); have HS := Lib.hid (HS.out.trans hs); have HWZ := Lib.hid (Nat.le_trans HWZ.out hs.2.size); clear x0 x1 x2 x3 x4 x5 x6 x7 xf; clear ht hs)
    | (go_at_call 82; refine (suffixed_any _ B c V _ HS.out.1 (w.heap.size + 1) HWZ.out (by have := HL.out; omega) _ _ TVa).mono ?_; rintro e w6 ⟨vv, rfl, ht, hs⟩; obtain ⟨sv, rfl, hsv⟩ := ht; obtain ⟨ad, cp, rfl⟩ := slice_form hsv; unfold rowV; have HSV := Lib.hid hsv; have HR := Lib.hid (HR.out.only hs.2 (by have := HL.out; omega)); have HS := Lib.hid (HS.out.trans hs); obtain ⟨⟨⟨n0, n1, n2⟩, ⟨n3, n4, n5⟩, ⟨n6, n7, n8⟩⟩, nf⟩ := HR.out.all; clear hsv hs)
    )
  refine bodyPost_ret (v := .agg #[.int .i64 (sufT c tb qb).1.op, .int .u64 (wd (sufT c tb qb).1.st 0 64 : Nat), .int .u64 (wd (sufT c tb qb).1.st 64 64 : Nat), .int .u64 (wd (sufT c tb qb).1.st 128 64 : Nat), .int .u64 (wd (sufT c tb qb).1.st 192 64 : Nat), .int .i64 (sufT c tb qb).1.lo, .int .i64 (sufT c tb qb).1.hi, .int .i64 (sufT c tb qb).1.g, .slice ad (sufT c tb qb).1.args.len cp]) (ret_re Tryz.results60 _ _ w.heap.size _ rfl (by simp) (HR.out.put9 _ _ _ _ _ _ _ _ _)) rfl ?_
  refine ⟨_, rfl, ⟨_, rfl, HSV.out.far (Afar.put9 _ _ _ _ _ _ _ _ _ fun b hb => ?_)⟩, HS.out.put9 HL.out _ (Nat.le_refl _) _ _ _ _ _ _ _ _ _⟩
  have hb2 : w.heap.size + 1 ≤ b := hb
  exact ⟨by show w.heap.size ≤ b; omega, by omega⟩
set_option maxRecDepth 100000 in
set_option maxHeartbeats 8000000 in
theorem pie_other (w : World) (B : Nat) (c : CX) (V : LV) (p : PS) (h : PM w B c V p) (j0 : kdT c p ≠ 94) (j1 : kdT c p ≠ 36) (j2 : kdT c p ≠ 40) (j3 : kdT c p ≠ 91) (j4 : kdT c p ≠ 46) (j5 : kdT c p ≠ -2) (j6 : kdT c p ≠ -3) :
    Calls Tryz.prog 60 #[.pointer (some ⟨B, 0, none⟩)] w (Ret w B c V (T0, unexT c p)) := by
  obtain ⟨⟨K, v, z⟩, hT⟩ : ∃ T, tokT c p = T := ⟨_, rfl⟩
  have hx : Below w.heap.size w (w.alloc (.cells #[.int .i64 0, .int .u64 0, .int .u64 0, .int .u64 0, .int .u64 0, .int .i64 0, .int .i64 0, .int .i64 0, .slice none 0 0] 35)) := (Below.refl _ _).alloc (Nat.le_refl _) _
  have hS0 := Stp.of_below h hx
  have HT := Lib.hid (token_any _ B c V p hS0.1)
  have HS0 := Lib.hid hS0
  have HR0 := Lib.hid (RAt.one w #[.int .i64 0, .int .u64 0, .int .u64 0, .int .u64 0, .int .u64 0, .int .i64 0, .int .i64 0, .int .i64 0, .slice none 0 0])
  have HL := Lib.hid h.lt
  unfold tokV at HT
  rw [hT] at HT
  simp only at HT
  have hkv : K = kdT c p := by unfold kdT; rw [hT]
  have hvv : v = vlT c p := by unfold vlT; rw [hT]
  have hzz : z = szT c p := by unfold szT; rw [hT]
  have hfit := tok_fit (c := c) (p := p)
  have hsz := sz_le c p
  rw [← hkv, ← hzz] at hfit
  rw [← hzz] at hsz
  have hb1 : (p.at_ : Int) ≤ 256 := by have := h.at_; have := h.sz; omega
  have hb2 : (z : Int) ≤ 2 := by omega
  have r0 : (K == 94) = false := by rw [hkv]; simpa using j0
  have r1 : (K == 36) = false := by rw [hkv]; simpa using j1
  have r2 : (K == 40) = false := by rw [hkv]; simpa using j2
  have r3 : (K == 91) = false := by rw [hkv]; simpa using j3
  have r4 : (K == 46) = false := by rw [hkv]; simpa using j4
  have r5 : (K == -2) = false := by rw [hkv]; simpa using j5
  have r6 : (K == -3) = false := by rw [hkv]; simpa using j6
  clear h hx hS0 hfit hsz hkv hzz hT hvv j0 j1 j2 j3 j4 j5 j6
  go_enter Tryz.func60, Tryz.ntmps60
  go_upto_region 21 with (first
    | (go_at_call 62; refine HT.out.mono ?_; rintro e w1 ⟨rfl, hb⟩; have HX2 := Lib.hid (show Below (w.alloc (.cells #[.int .i64 0, .int .u64 0, .int .u64 0, .int .u64 0, .int .u64 0, .int .i64 0, .int .i64 0, .int .i64 0, .slice none 0 0] 35)).heap.size (w.alloc (.cells #[.int .i64 0, .int .u64 0, .int .u64 0, .int .u64 0, .int .u64 0, .int .i64 0, .int .i64 0, .int .i64 0, .slice none 0 0] 35)) (w1.alloc (.cells #[.int .i32 K, .int .u8 v, .int .i64 (z : Int)] 88)) from hb.alloc hb.size _); have HSZ := Lib.hid hb.size; clear hb)
    )
  have q0 : (w1.alloc (.cells #[.int .i32 K, .int .u8 v, .int .i64 (z : Int)] 88)).cell? ⟨w1.heap.size, 0, none⟩ = some (.int .i32 K) := by simp
  have q1 : (w1.alloc (.cells #[.int .i32 K, .int .u8 v, .int .i64 (z : Int)] 88)).cell? ⟨w1.heap.size, 1, none⟩ = some (.int .u8 v) := by simp
  have q2 : (w1.alloc (.cells #[.int .i32 K, .int .u8 v, .int .i64 (z : Int)] 88)).cell? ⟨w1.heap.size, 2, none⟩ = some (.int .i64 (z : Int)) := by simp
  have HTK := Lib.hid (show (w1.alloc (.cells #[.int .i32 K, .int .u8 v, .int .i64 (z : Int)] 88)).heap[w1.heap.size]? = some (.cells #[.int .i32 K, .int .u8 v, .int .i64 (z : Int)] 88 (0, 0)) from heap_alloc_new w1 _)
  generalize (w1.alloc (.cells #[.int .i32 K, .int .u8 v, .int .i64 (z : Int)] 88)) = W at *
  generalize w1.heap.size = gt at *
  have HS := Lib.hid (HS0.out.next HX2.out)
  have HR := Lib.hid (HR0.out.below HX2.out)
  obtain ⟨⟨x0, x1, x2, x3, x4, x5, x6, x7⟩, xf⟩ := HS.out.1.pa.all
  clear q0 q1 q2
  go_wp2_with (first
    | (go_at_call 90; refine (unexpected_any _ B c V _ HS.out.1).mono ?_; rintro e w5 ⟨rfl, hs⟩; have HR := Lib.hid (HR.out.only hs.2 (by have := HL.out; omega)); have HS := Lib.hid (HS.out.trans hs); clear x0 x1 x2 x3 x4 x5 x6 x7 xf; obtain ⟨⟨⟨n0, n1, n2⟩, ⟨n3, n4, n5⟩, ⟨n6, n7, n8⟩⟩, nf⟩ := HR.out.all; clear hs)
    )
  refine bodyPost_ret (v := .agg #[.int .i64 0, .int .u64 0, .int .u64 0, .int .u64 0, .int .u64 0, .int .i64 0, .int .i64 0, .int .i64 0, .slice none 0 0]) (ret_re Tryz.results60 _ _ w.heap.size _ rfl (by simp) (HR.out.put9 _ _ _ _ _ _ _ _ _)) rfl ?_
  refine ⟨_, rfl, TV.leaf _ _ 0 0 0 0 noSet, HS.out.put9 HL.out _ (Nat.le_refl _) _ _ _ _ _ _ _ _ _⟩
theorem piece_any (w : World) (B : Nat) (c : CX) (V : LV) (p : PS) (h : PM w B c V p) (n : Nat) (grp : PS → TN × PS) (hG : Gn n p) (HGr : Hid (∀ W q, PM W B c V q → Gn n q → kdT c q = 40 → Calls Tryz.prog 83 #[.pointer (some ⟨B, 0, none⟩)] W (Ret W B c V (grp q)))) (HBr : Hid (∀ W q, PM W B c V q → kdT c q = 91 → Calls Tryz.prog 84 #[.pointer (some ⟨B, 0, none⟩)] W (Ret W B c V (brkT c q)))) :
    Calls Tryz.prog 60 #[.pointer (some ⟨B, 0, none⟩)] w (Ret w B c V (pieW c grp p)) := by
  unfold pieW
  by_cases j0 : kdT c p = 94
  · rw [if_pos j0]; exact pie_7 w B c V p h j0
  rw [if_neg j0]
  by_cases j1 : kdT c p = 36
  · rw [if_pos j1]; exact pie_8 w B c V p h j1
  rw [if_neg j1]
  by_cases j2 : kdT c p = 40
  · rw [if_pos j2]; exact pie_group w B c V p h n grp hG HGr j2
  rw [if_neg j2]
  by_cases j3 : kdT c p = 91
  · rw [if_pos j3]; exact pie_bracket w B c V p h HBr j3
  rw [if_neg j3]
  by_cases j4 : kdT c p = 46
  · rw [if_pos j4]; exact pie_dot w B c V p h j4
  rw [if_neg j4]
  by_cases j5 : kdT c p = -2
  · rw [if_pos j5]; exact pie_plain w B c V p h j5
  rw [if_neg j5]
  by_cases j6 : kdT c p = -3
  · rw [if_pos j6]; exact pie_ref w B c V p h j6
  · rw [if_neg j6]; exact pie_other w B c V p h j0 j1 j2 j3 j4 j5 j6
end Go.Proofs.YtphiaagppcbefaaGreatDoor
