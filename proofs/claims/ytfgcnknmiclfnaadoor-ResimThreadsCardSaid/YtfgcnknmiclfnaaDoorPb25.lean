/- RsRefD, RsRefE. -/
import Derived.Test.YtfgcnknmiclfnaaDoorPb13
import Derived.Test.YtfgcnknmiclfnaaDoorPb24
import Derived.Test.YtfgcnknmiclfnaaDoorPb8
set_option linter.unusedVariables false
set_option linter.unusedSimpArgs false
set_option maxRecDepth 100000
set_option maxHeartbeats 8000000
namespace Go.Proofs.YtfgcnknmiclfnaaDoor
open Go.RowKit
theorem rowI_lit (o x y : Int) : rowI ⟨o, noSet, x, y⟩ = [.int .i64 o, .int .u64 0, .int .u64 0, .int .u64 0, .int .u64 0, .int .i64 x, .int .i64 y] := by
  unfold rowI
  simp only [wd_noSet.1, wd_noSet.2.1, wd_noSet.2.2.1, wd_noSet.2.2.2]
  rfl
theorem OI.put {w : World} {B g cap k j : Nat} {L : List IN} (h : OI w B (.slice (some ⟨g, 0, none⟩) L.length cap) L) (hk : k < L.length) (hj : j < 7) (u : Value) (i : IN) (e : (rowI (L[k]'hk)).set j u = rowI i) :
    OI (w.setCell ⟨g, k * 7 + j, none⟩ u) B (.slice (some ⟨g, 0, none⟩) L.length cap) (L.set k i) ∧ KO (.slice (some ⟨g, 0, none⟩) L.length cap) w (.slice (some ⟨g, 0, none⟩) L.length cap) (w.setCell ⟨g, k * 7 + j, none⟩ u) := by
  obtain ⟨h1, h2⟩ := World.ownsRow.stored h (k * 7 + j) u
  refine ⟨?_, (Keep.refl _ _).grown h2 (fun k e _ => e.symm ▸ rfl), fun _ e => .inl e⟩
  unfold OI
  rw [List.length_set, ← rowsI_set L k i hk j u hj e]
  exact h1
theorem OI.at {w : World} {B g cap : Nat} {L : List IN} (h : OI w B (.slice (some ⟨g, 0, none⟩) L.length cap) L) (k : Nat) (hk : k < L.length) (j : Nat) (hj : j < 7) : w.cell? ⟨g, k * 7 + j, none⟩ = (rowI (L[k]'hk))[j]? := by
  have := World.ownsRow.cellAt h (k * 7 + j) (by omega)
  rw [this, rowsI_get L k hk j hj]
structure AS (B : Nat) (v0 : Value) (w0 : World) (v j : Value) (L : List IN) (ns : List Nat) (wr : World) : Prop where
  oi : OI wr B v L
  ji : wr.ownsRow B 3 1 j ns.length (rowN ns)
  dj : ∀ g, j.ownBlock = some g → ¬ v.ownBlock = some g
  jn : ∀ g, j.ownBlock = some g → w0.heap.size ≤ g
  ko : KO v0 w0 v wr
theorem AS.ofKO {B : Nat} {v0 v j v' : Value} {w0 wr w' : World} {L L' : List IN} {ns : List Nat} (h : AS B v0 w0 v j L ns wr) (ho : OI w' B v' L') (hk : KO v wr v' w') : AS B v0 w0 v' j L' ns w' := by
  refine ⟨ho, own_keep h.ji hk.keep (fun g hg e => h.dj g hg e), fun g hg e => ?_, h.jn, h.ko.trans hk⟩
  rcases hk.own g e with e | e
  · exact h.dj g hg e
  · have := (own_at h.ji g hg).2; omega
theorem AS.jump {B : Nat} {v0 v j j' : Value} {w0 wr w' : World} {L : List IN} {ns ns' : List Nat} (h : AS B v0 w0 v j L ns wr) (ho : w'.ownsRow B 3 1 j' ns'.length (rowN ns')) (hk : Keep (fun b => j.ownBlock = some b) wr w') (hg : ∀ g, j'.ownBlock = some g → j.ownBlock = some g ∨ wr.heap.size ≤ g) : AS B v0 w0 v j' L ns' w' := by
  have hsz := h.ko.keep.size
  refine ⟨own_keep h.oi hk (fun g e1 e2 => h.dj g e2 e1), ho, fun g e1 e2 => ?_, fun g e1 => ?_, ⟨h.ko.keep.trans hk (fun g hg e => ?_), h.ko.own⟩⟩
  · rcases hg g e1 with e | e
    · exact h.dj g e e2
    · have := (own_at h.oi g e2).2; omega
  · rcases hg g e1 with e | e
    · exact h.jn g e
    · omega
  · have := h.jn g e; omega
def alt2A (c : Nat → List IN) : List IN := [(⟨2, noSet, 1, 0⟩ : IN)] ++ c 1
def alt2B (c : Nat → List IN) : List IN := (alt2A c ++ [(⟨3, noSet, 0, 0⟩ : IN)]).set 0 ⟨2, noSet, 1, (((alt2A c).length + 1 : Nat) : Int)⟩
def alt2C (c d : Nat → List IN) : List IN := alt2B c ++ d (alt2B c).length
def alt2D (c d : Nat → List IN) : List IN := (alt2C c d).set (alt2A c).length ⟨3, noSet, (((alt2C c d).length : Nat) : Int), 0⟩
theorem alt2B_len (c : Nat → List IN) : (alt2B c).length = (alt2A c).length + 1 := by unfold alt2B; simp
def AltR (B : Nat) (v0 : Value) (w0 : World) (c : Nat → List IN) (v j i : Value) (wr : World) : Prop := (i = .int .i64 0 ∧ v = v0 ∧ AS B v0 w0 v j [] [] wr ∧ wr = w0) ∨ (i = .int .i64 1 ∧ AS B v0 w0 v j (alt2B c) [(alt2A c).length] wr)
def AltQ (wa wb : World) (i : Value) (wr : World) : Prop := (i = .int .i64 0 ∧ wr = wa) ∨ (i = .int .i64 1 ∧ wr = wb)
theorem alt2_at (c d : Nat → List IN) (h : (alt2A c).length < (alt2C c d).length) : (alt2C c d)[(alt2A c).length]'h = ⟨3, noSet, 0, 0⟩ := by
  have hA : 0 < (alt2A c).length := by unfold alt2A; simp
  have e : (alt2C c d)[(alt2A c).length]? = some ⟨3, noSet, 0, 0⟩ := by
    unfold alt2C
    rw [List.getElem?_append_left (by rw [alt2B_len]; omega)]
    unfold alt2B
    rw [List.getElem?_set_ne (by omega), List.getElem?_append_right (Nat.le_refl _), Nat.sub_self]
    rfl
  rw [List.getElem?_eq_getElem h] at e
  exact Option.some.inj e
theorem alt_two (B : Nat) (c d : Nat → List IN) (x y : TN) (hx : CodeT c B x) (hy : CodeT d B y) (S : Nat → Prop) (ad : Option Addr) (cap : Nat) (w : World) (v : Value) (hsv : SV w S (twoF x y) (.slice ad 2 cap)) (hS : ∀ b, S b → b < B) (hB : B ≤ w.heap.size) (hov : OI w B v []) (hbd : (c 1).length + (d ((c 1).length + 2)).length ≤ 900) :
    Calls Tryd.prog 52 #[v, .slice ad 2 cap] w fun e w' => ∃ v', e = .returned v' ∧ OI w' B v' (alt2D c d) ∧ KO v w v' w' := by
  have HSV := Lib.hid hsv
  have HS := Lib.hid hS
  have hAl : (alt2A c).length = 1 + (c 1).length := by unfold alt2A; simp; omega
  have hBl := alt2B_len c
  have HX := Lib.hid (fun (W : World) (u svk : Value) (h1 : SV W S x.args svk) (h2 : B ≤ W.heap.size) (h3 : OI W B u [⟨2, noSet, 1, 0⟩]) => hx S svk W u [⟨2, noSet, 1, 0⟩] h1 hS h2 h3 (by show 1 + (c 1).length ≤ 1000; omega))
  have HY := Lib.hid (fun (W : World) (u svk : Value) (h1 : SV W S y.args svk) (h2 : B ≤ W.heap.size) (h3 : OI W B u (alt2B c)) => hy S svk W u (alt2B c) h1 hS h2 h3 (by rw [hBl, hAl, show 1 + (c 1).length + 1 = (c 1).length + 2 by omega]; omega))
  have HAl := Lib.hid hAl
  have HBl := Lib.hid hBl
  have hAle : (alt2A c).length ≤ 1000 := by omega
  have hdl : Hid ((alt2C c d).length ≤ 2000) := Lib.hid (by unfold alt2C; rw [List.length_append, hBl, hAl, show 1 + (c 1).length + 1 = (c 1).length + 2 by omega]; omega)
  have HAS0 : Hid (AS B v w v (.slice none 0 0) [] [] w) := Lib.hid ⟨hov, ⟨rfl, .inl ⟨rfl, rfl⟩⟩, fun g e => (by cases e), fun g e => (by cases e), KO.refl _ _⟩
  clear hsv hS hov hx hy hbd hAl hBl
  have HB := Lib.hid hB
  go_enter Tryd.func52, Tryd.ntmps52
  go_wp2_with fail
  go_loopw [0, 5, 6] (fun u j i wr => ∃ (v1 j1 : Value), v1 = u ∧ j1 = j ∧ Hid (AltR B v w c v1 j1 i wr)) (fun _ _ i _ => 1 - (intOf i).toNat)
  case atStart => exact ⟨v, _, rfl, rfl, Lib.hid (.inl ⟨rfl, rfl, HAS0.out, rfl⟩)⟩
  case round =>
    obtain ⟨v1, j1, rfl, rfl, HR⟩ := hrel
    rcases HR.out with ⟨rfl, rfl, has, rfl⟩ | ⟨rfl, has⟩
    · obtain ⟨vad, vcap, rfl⟩ := own_sl has.oi
      obtain ⟨jad, jcap, rfl⟩ := own_sl has.ji
      have HAS := Lib.hid has
      have HK9 := Lib.hid (fun (W : World) (hW : Below B wr W) => kid HSV.out (show Afar S S wr W from ⟨hW.size, fun b h1 h2 => ⟨h1, hW.block b (HS.out b h1)⟩⟩) 0 (show 0 < 2 by decide))
      clear has
      go_wp2_with (at_builtin; refine app1 B 22 43 (.agg #[.int .i64 0, .int .u64 0, .int .u64 0, .int .u64 0, .int .u64 0, .int .i64 0, .int .i64 0]) 7 56 Tryd.underlying22 infoI rfl (by decide) wr rfl (.tmp 18) (.tmp 22) rfl hB (.slice vad 0 vcap) 0 [] [.int .i64 2, .int .u64 0, .int .u64 0, .int .u64 0, .int .u64 0, .int .i64 1, .int .i64 0] rfl rfl HAS.out.oi _ rfl rfl rfl ?d1 ?d2 ?d3 ?_)
      case d1 => first | rfl | (intro u hu; simp at hu; first | (rcases hu with rfl | rfl | rfl | rfl | rfl | rfl | rfl <;> rfl) | (rcases hu with rfl | rfl | rfl | rfl <;> rfl) | (rcases hu with rfl | rfl <;> rfl) | (subst hu; rfl)) | simp [Value.oneCell']
      case d2 => first | (unfold maxLen; omega) | decide
      case d3 => first | omega | decide
      intro g3 cp3 w3 ho3 hk3 hg3
      have h3o : OI w3 B (.slice (some ⟨g3, 0, none⟩) 1 cp3) [⟨2, noSet, 1, 0⟩] := by
        unfold OI
        rw [show rowsI [(⟨2, noSet, 1, 0⟩ : IN)] = rowI ⟨2, noSet, 1, 0⟩ by simp [rowsI], rowI_lit]
        exact ho3
      have h3k : KO (.slice vad 0 vcap) wr (.slice (some ⟨g3, 0, none⟩) 1 cp3) w3 := ⟨hk3, fun j e => by
        have e2 : g3 = j := by simpa [Value.ownBlock] using e
        subst e2; exact hg3⟩
      have has3 := HAS.out.ofKO h3o h3k
      have hb3 : Below B wr w3 := has3.ko.low HAS.out.oi hB
      have hB3 : B ≤ w3.heap.size := by have := hb3.size; omega
      obtain ⟨b, i0, ad2, cp2, rfl, hsv2, e0, e1, e2, e3, e4, e5, e6, e7, e8⟩ := HK9.out w3 hb3
      have c0 : w3.cell? ⟨b, i0, none⟩ = some (.int .i64 x.op) := e0
      have c1 : w3.cell? ⟨b, i0 + 1, none⟩ = some (.int .u64 (wd x.st 0 64 : Nat)) := e1
      have c2 : w3.cell? ⟨b, i0 + 2, none⟩ = some (.int .u64 (wd x.st 64 64 : Nat)) := e2
      have c3 : w3.cell? ⟨b, i0 + 3, none⟩ = some (.int .u64 (wd x.st 128 64 : Nat)) := e3
      have c4 : w3.cell? ⟨b, i0 + 4, none⟩ = some (.int .u64 (wd x.st 192 64 : Nat)) := e4
      have c5 : w3.cell? ⟨b, i0 + 5, none⟩ = some (.int .i64 x.lo) := e5
      have c6 : w3.cell? ⟨b, i0 + 6, none⟩ = some (.int .i64 x.hi) := e6
      have c7 : w3.cell? ⟨b, i0 + 7, none⟩ = some (.int .i64 x.g) := e7
      have c8 : w3.cell? ⟨b, i0 + 8, none⟩ = some (.slice ad2 x.args.len cp2) := e8
      clear e0 e1 e2 e3 e4 e5 e6 e7 e8
      have HCode := Lib.hid (HX.out w3 (.slice (some ⟨g3, 0, none⟩) 1 cp3) (.slice ad2 x.args.len cp2) hsv2 hB3 h3o)
      have HAS3 := Lib.hid has3
      clear ho3 hk3 hg3 h3o h3k has3 hb3 hsv2
      go_wp2_with (first
        | (go_at_call 32; (with_reducible refine HCode.out.mono ?_); rintro e w4 ⟨v4, rfl, ho4, hk4⟩
           have has4 := HAS3.out.ofKO ho4 hk4
           have ho4 : OI w4 B v4 (alt2A c) := ho4
           obtain ⟨vad4, vcap4, rfl⟩ := own_sl ho4
           have HAS4 : Hid (AS B (.slice vad 0 vcap) wr (.slice vad4 (alt2A c).length vcap4) (.slice jad 0 jcap) (alt2A c) [] w4) := Lib.hid has4
           have hB4 : B ≤ w4.heap.size := by have := hk4.keep.size; omega
           clear ho4 hk4 has4 c0 c1 c2 c3 c4 c5 c6 c7 c8)
        | (at_builtin; refine app1 B 35 3 (.int .i64 0) 1 8 Tryd.underlying35 info_int rfl (by decide) w4 rfl (.tmp 30) (.tmp 33) rfl hB4 (.slice jad 0 jcap) 0 [] [.int .i64 ((alt2A c).length : Int)] rfl rfl HAS4.out.ji _ rfl rfl rfl ?d1 ?d2 ?d3 ?_))
      case d1 => first | rfl | (intro u hu; simp at hu; first | (rcases hu with rfl | rfl | rfl | rfl | rfl | rfl | rfl <;> rfl) | (rcases hu with rfl | rfl | rfl | rfl <;> rfl) | (rcases hu with rfl | rfl <;> rfl) | (subst hu; rfl)) | simp [Value.oneCell']
      case d2 => first | (unfold maxLen; omega) | decide
      case d3 => first | omega | decide
      intro g5 cp5 w5 ho5 hk5 hg5
      have has5 : AS B (.slice vad 0 vcap) wr (.slice vad4 (alt2A c).length vcap4) (.slice (some ⟨g5, 0, none⟩) 1 cp5) (alt2A c) [(alt2A c).length] w5 := HAS4.out.jump ho5 hk5 (fun j e => by
        have e2 : g5 = j := by simpa [Value.ownBlock] using e
        subst e2; exact hg5)
      have hB5 : B ≤ w5.heap.size := by have := hk5.size; omega
      have HAS5 := Lib.hid has5
      clear ho5 hk5 hg5 has5
      go_wp2_with (at_builtin; refine app1 B 22 43 (.agg #[.int .i64 0, .int .u64 0, .int .u64 0, .int .u64 0, .int .u64 0, .int .i64 0, .int .i64 0]) 7 56 Tryd.underlying22 infoI rfl (by decide) w5 rfl (.tmp 35) (.tmp 37) rfl hB5 (.slice vad4 (alt2A c).length vcap4) (alt2A c).length (rowsI (alt2A c)) [.int .i64 3, .int .u64 0, .int .u64 0, .int .u64 0, .int .u64 0, .int .i64 0, .int .i64 0] rfl rfl HAS5.out.oi _ rfl rfl rfl ?d1 ?d2 ?d3 ?_)
      case d1 => first | rfl | (intro u hu; simp at hu; first | (rcases hu with rfl | rfl | rfl | rfl | rfl | rfl | rfl <;> rfl) | (rcases hu with rfl | rfl | rfl | rfl <;> rfl) | (rcases hu with rfl | rfl <;> rfl) | (subst hu; rfl)) | simp [Value.oneCell']
      case d2 => first | (unfold maxLen; omega) | decide
      case d3 => first | omega | decide
      intro g6 cp6 w6 ho6 hk6 hg6
      have h6o : OI w6 B (.slice (some ⟨g6, 0, none⟩) (alt2A c ++ [(⟨3, noSet, 0, 0⟩ : IN)]).length cp6) (alt2A c ++ [⟨3, noSet, 0, 0⟩]) := by
        unfold OI
        rw [rowsI_snoc, rowI_lit, List.length_append]
        exact ho6
      have h6k : KO (.slice vad4 (alt2A c).length vcap4) w5 (.slice (some ⟨g6, 0, none⟩) (alt2A c ++ [(⟨3, noSet, 0, 0⟩ : IN)]).length cp6) w6 := ⟨hk6, fun j e => by
        have e2 : g6 = j := by simpa [Value.ownBlock] using e
        subst e2; exact hg6⟩
      have has6 := HAS5.out.ofKO h6o h6k
      have hl6 : 0 < (alt2A c ++ [(⟨3, noSet, 0, 0⟩ : IN)]).length := by simp
      have e06 : (alt2A c ++ [(⟨3, noSet, 0, 0⟩ : IN)])[0]'hl6 = ⟨2, noSet, 1, 0⟩ := rfl
      obtain ⟨h7o, h7k⟩ := h6o.put (k := 0) (j := 6) hl6 (by decide) (.int .i64 (((alt2A c).length + 1 : Nat) : Int)) ⟨2, noSet, 1, (((alt2A c).length + 1 : Nat) : Int)⟩ rfl
      have cY : w6.cell? ⟨g6, 6, none⟩ = some (.int .i64 0) := h6o.at 0 hl6 6 (by decide)
      have fY : w6.frozen? ⟨g6, 6, none⟩ = false := World.ownsRow.frozenAt h6o _
      have hlen7 : (alt2A c ++ [(⟨3, noSet, 0, 0⟩ : IN)]).length = (alt2B c).length := by unfold alt2B; simp
      have has7 : AS B (.slice vad 0 vcap) wr (.slice (some ⟨g6, 0, none⟩) ((alt2A c).length + 1) cp6) (.slice (some ⟨g5, 0, none⟩) 1 cp5) (alt2B c) [(alt2A c).length] (w6.setCell ⟨g6, 6, none⟩ (.int .i64 (((alt2A c).length + 1 : Nat) : Int))) := by
        have := has6.ofKO h7o h7k
        rw [show (alt2A c ++ [(⟨3, noSet, 0, 0⟩ : IN)]).length = (alt2A c).length + 1 by simp] at this
        exact this
      have HAS7 := Lib.hid has7
      have hnI : ((alt2A c).length : Int) ≤ 1000 := by omega
      have hn0 : (0 : Int) ≤ ((alt2A c).length : Int) := by omega
      clear ho6 hk6 hg6 h6o h6k has6 h7o h7k has7 e06 hlen7 hl6
      go_wp2_with fail
      go_roundw
      case rel => exact ⟨_, _, rfl, rfl, Lib.hid (.inr ⟨rfl, HAS7.out⟩)⟩
      case measure => simp [intOf]
    · obtain ⟨vad, vcap, rfl⟩ := own_sl has.oi
      obtain ⟨jg, jcap, e⟩ := own_more has.ji (by simp)
      obtain ⟨jcap', rfl⟩ : ∃ c', j1 = .slice (some ⟨jg, 0, none⟩) 1 c' := ⟨_, e⟩
      clear e
      have HAS := Lib.hid has
      have hb3 : Below B w wr := has.ko.low HAS0.out.oi hB
      have hB3 : B ≤ wr.heap.size := by have := hb3.size; omega
      obtain ⟨b, i0, ad2, cp2, rfl, hsv2, e0, e1, e2, e3, e4, e5, e6, e7, e8⟩ := kid HSV.out (show Afar S S w wr from ⟨hb3.size, fun b h1 h2 => ⟨h1, hb3.block b (HS.out b h1)⟩⟩) 1 (show 1 < 2 by decide)
      have hlt := (World.block_lt_of_cell? wr _ e0)
      have c0 : wr.cell? ⟨b, i0 + 9, none⟩ = some (.int .i64 y.op) := e0
      have c1 : wr.cell? ⟨b, i0 + 9 + 1, none⟩ = some (.int .u64 (wd y.st 0 64 : Nat)) := e1
      have c2 : wr.cell? ⟨b, i0 + 9 + 2, none⟩ = some (.int .u64 (wd y.st 64 64 : Nat)) := e2
      have c3 : wr.cell? ⟨b, i0 + 9 + 3, none⟩ = some (.int .u64 (wd y.st 128 64 : Nat)) := e3
      have c4 : wr.cell? ⟨b, i0 + 9 + 4, none⟩ = some (.int .u64 (wd y.st 192 64 : Nat)) := e4
      have c5 : wr.cell? ⟨b, i0 + 9 + 5, none⟩ = some (.int .i64 y.lo) := e5
      have c6 : wr.cell? ⟨b, i0 + 9 + 6, none⟩ = some (.int .i64 y.hi) := e6
      have c7 : wr.cell? ⟨b, i0 + 9 + 7, none⟩ = some (.int .i64 y.g) := e7
      have c8 : wr.cell? ⟨b, i0 + 9 + 8, none⟩ = some (.slice ad2 y.args.len cp2) := e8
      clear e0 e1 e2 e3 e4 e5 e6 e7 e8
      have HCode := Lib.hid (HY.out wr (.slice vad (alt2B c).length vcap) (.slice ad2 y.args.len cp2) hsv2 hB3 HAS.out.oi)
      clear has hb3 hsv2
      go_wp2_with (first
        | (go_at_call 32; (with_reducible refine HCode.out.mono ?_); rintro e w4 ⟨v4, rfl, ho4, hk4⟩
           have has4 := HAS.out.ofKO ho4 hk4
           have HAS4 : Hid (AS B v w v4 (.slice (some ⟨jg, 0, none⟩) 1 jcap') (alt2C c d) [(alt2A c).length] w4) := Lib.hid has4
           clear ho4 hk4 has4 c0 c1 c2 c3 c4 c5 c6 c7 c8))
      obtain ⟨g8, cp8, e⟩ := own_more HAS4.out.oi (by unfold alt2C; rw [List.length_append, HBl.out]; omega)
      subst e
      have hmlt : (alt2A c).length < (alt2C c d).length := by unfold alt2C; rw [List.length_append, HBl.out]; omega
      have hmI : ((alt2A c).length : Int) < ((alt2C c d).length : Int) := by omega
      have hm0 : (0 : Int) ≤ ((alt2A c).length : Int) := by omega
      have hcI : ((alt2C c d).length : Int) ≤ 2000 := by have := hdl.out; omega
      have hoi := HAS4.out.oi
      have hel : (alt2C c d)[(alt2A c).length]'hmlt = ⟨3, noSet, 0, 0⟩ := alt2_at c d hmlt
      have cj : w4.cell? ⟨jg, 0, none⟩ = some (.int .i64 ((alt2A c).length : Int)) := World.ownsRow.cellAt HAS4.out.ji 0 (by simp)
      have cX : w4.cell? ⟨g8, (alt2A c).length * 7 + 5, none⟩ = some (.int .i64 0) := by
        rw [hoi.at (alt2A c).length hmlt 5 (by decide), hel]; rfl
      have fX : w4.frozen? ⟨g8, (alt2A c).length * 7 + 5, none⟩ = false := World.ownsRow.frozenAt hoi _
      obtain ⟨h9o, h9k⟩ := hoi.put (k := (alt2A c).length) (j := 5) hmlt (by decide) (.int .i64 ((alt2C c d).length : Int)) ⟨3, noSet, ((alt2C c d).length : Int), 0⟩ (by rw [hel]; rfl)
      have HFin : Hid (OI (w4.setCell ⟨g8, (alt2A c).length * 7 + 5, none⟩ (.int .i64 ((alt2C c d).length : Int))) B (.slice (some ⟨g8, 0, none⟩) (alt2C c d).length cp8) (alt2D c d) ∧ KO v w (.slice (some ⟨g8, 0, none⟩) (alt2C c d).length cp8) (w4.setCell ⟨g8, (alt2A c).length * 7 + 5, none⟩ (.int .i64 ((alt2C c d).length : Int)))) := Lib.hid ⟨h9o, HAS4.out.ko.trans h9k⟩
      have hj8 : jg < w4.heap.size := (own_at HAS4.out.ji jg rfl).2
      have hg8 : g8 < w4.heap.size := (own_at hoi g8 rfl).2
      clear hoi hel h9o h9k hmlt
      rename World => wZ
      go_loopw [8] (fun i wr => Hid (AltQ wZ (wZ.setCell ⟨g8, (alt2A c).length * 7 + 5, none⟩ (.int .i64 ((alt2C c d).length : Int))) i wr)) (fun i _ => 1 - (intOf i).toNat)
      case atStart => exact Lib.hid (.inl ⟨rfl, rfl⟩)
      case round =>
        rcases hrel.out with ⟨rfl, rfl⟩ | ⟨rfl, rfl⟩
        · go_wp2_with fail
          go_roundw
          case rel => exact Lib.hid (.inr ⟨rfl, rfl⟩)
          case measure => simp [intOf]
        · go_wp2_with fail
          go_ret
          exact ⟨_, rfl, HFin.out.1, HFin.out.2⟩
theorem code_alt (B : Nat) (c d : Nat → List IN) (x y : TN) (l h g : Int) (st : Nat → Bool) (hx : CodeT c B x) (hy : CodeT d B y) (S : Nat → Prop) (ad : Option Addr) (cap : Nat) (w : World) (v : Value) (hsv : SV w S (twoF x y) (.slice ad 2 cap)) (hS : ∀ b, S b → b < B) (hB : B ≤ w.heap.size) (hov : OI w B v []) (hbd : (c 1).length + (d ((c 1).length + 2)).length ≤ 900) :
    Calls Tryd.prog 32 #[v, .agg #[.int .i64 4, .int .u64 (wd st 0 64 : Nat), .int .u64 (wd st 64 64 : Nat), .int .u64 (wd st 128 64 : Nat), .int .u64 (wd st 192 64 : Nat), .int .i64 l, .int .i64 h, .int .i64 g, .slice ad 2 cap]] w fun e w' => ∃ v', e = .returned v' ∧ OI w' B v' (alt2D c d) ∧ KO v w v' w' := by
  obtain ⟨W2, hW2⟩ : ∃ W2, W2 = w.alloc (.cells #[.int .i64 4, .int .u64 (wd st 0 64 : Nat), .int .u64 (wd st 64 64 : Nat), .int .u64 (wd st 128 64 : Nat), .int .u64 (wd st 192 64 : Nat), .int .i64 l, .int .i64 h, .int .i64 g, .slice ad 2 cap] 55) := ⟨_, rfl⟩
  have hxb : Below w.heap.size w W2 := by rw [hW2]; exact (Below.refl _ _).alloc (Nat.le_refl _) _
  have hg0 : W2.heap[w.heap.size]? = some (.cells #[.int .i64 4, .int .u64 (wd st 0 64 : Nat), .int .u64 (wd st 64 64 : Nat), .int .u64 (wd st 128 64 : Nat), .int .u64 (wd st 192 64 : Nat), .int .i64 l, .int .i64 h, .int .i64 g, .slice ad 2 cap] 55 (0, 0)) := by
    rw [hW2]
    exact heap_alloc_new w _
  have a0 := cell_of_row W2 w.heap.size 0 _ _ _ hg0
  have a8 := cell_of_row W2 w.heap.size 8 _ _ _ hg0
  have HAlt := Lib.hid (alt_two B c d x y hx hy S ad cap W2 v (hsv.far (Afar.below hxb)) hS (by have := hxb.size; omega) (own_below hov hxb) hbd)
  have HX := Lib.hid hxb
  have HW2 := Lib.hid hW2
  clear hsv hxb hg0 hW2 hov hx hy hS hbd
  go_enter Tryd.func32, Tryd.ntmps32
  go_upto_region 1 with fail
  rw [← HW2.out]
  go_wp2_with (first
    | (go_at_call 52; (with_reducible refine HAlt.out.mono ?_); rintro e w3 ⟨v3, rfl, ho3, hk3⟩; have HO3 := Lib.hid ho3; have HK3 := Lib.hid hk3; clear ho3 hk3 a0 a8))
  go_ret
  exact ⟨_, rfl, HO3.out, (KO.of_below HX.out).trans HK3.out⟩
end Go.Proofs.YtfgcnknmiclfnaaDoor
set_option linter.unusedVariables false
set_option linter.unusedSimpArgs false
set_option maxRecDepth 100000
set_option maxHeartbeats 8000000
namespace Go.Proofs.YtfgcnknmiclfnaaDoor
open Go.RowKit
theorem rexpand_pl {w : World} {t : TN} {ad : Option Addr} {cap : Nat} (h : TI w t (.slice ad t.args.len cap)) (hz : szF t.args + 1 ≤ 4096) (hz2 : szF t.f ≤ 1048576) (hv : Valid t) (hsp : spF t.args) (ho : t.op = 2 ∨ t.op = 3 ∨ t.op = 4) (hsh : shF t.args) (hl : t.args.len ≤ 1599289640354) :
    Calls Tryd.prog 31 #[.agg #[.int .i64 t.op, .int .u64 (wd t.st 0 64 : Nat), .int .u64 (wd t.st 64 64 : Nat), .int .u64 (wd t.st 128 64 : Nat), .int .u64 (wd t.st 192 64 : Nat), .int .i64 t.lo, .int .i64 t.hi, .int .i64 t.g, .slice ad t.args.len cap]] w fun e w' => ∃ sv', e = .returned (.tuple #[.agg #[.int .i64 t.op, .int .u64 (wd t.st 0 64 : Nat), .int .u64 (wd t.st 64 64 : Nat), .int .u64 (wd t.st 128 64 : Nat), .int .u64 (wd t.st 192 64 : Nat), .int .i64 t.lo, .int .i64 t.hi, .int .i64 t.g, sv'], .int .i64 0]) ∧ SV w' (Frm w.heap.size) t.args sv' ∧ Below w.heap.size w w' := by
  obtain ⟨R, hR⟩ : ∃ R, w.heap.size + 1 = R := ⟨_, rfl⟩
  obtain ⟨W, hW⟩ : ∃ W, W = (w.alloc (.cells #[.int .i64 t.op, .int .u64 (wd t.st 0 64 : Nat), .int .u64 (wd t.st 64 64 : Nat), .int .u64 (wd t.st 128 64 : Nat), .int .u64 (wd t.st 192 64 : Nat), .int .i64 t.lo, .int .i64 t.hi, .int .i64 t.g, .slice ad t.args.len cap] 55)).alloc (.cells #[.int .i64 0, .int .u64 0, .int .u64 0, .int .u64 0, .int .u64 0, .int .i64 0, .int .i64 0, .int .i64 0, .slice none 0 0] 55) := ⟨_, rfl⟩
  have hb : Below w.heap.size w W := by rw [hW]; exact ((Below.refl _ _).alloc (Nat.le_refl _) _).alloc (by simp) _
  have h1 : W.heap[w.heap.size]? = some (.cells #[.int .i64 t.op, .int .u64 (wd t.st 0 64 : Nat), .int .u64 (wd t.st 64 64 : Nat), .int .u64 (wd t.st 128 64 : Nat), .int .u64 (wd t.st 192 64 : Nat), .int .i64 t.lo, .int .i64 t.hi, .int .i64 t.g, .slice ad t.args.len cap] 55 (0, 0)) := by rw [hW]; exact (heap_alloc_old _ _ (by simp)).trans (heap_alloc_new w _)
  have h2 : W.heap[R]? = some (.cells #[.int .i64 0, .int .u64 0, .int .u64 0, .int .u64 0, .int .u64 0, .int .i64 0, .int .i64 0, .int .i64 0, .slice none 0 0] 55 (0, 0)) := by
    have := heap_alloc_new (w.alloc (.cells #[.int .i64 t.op, .int .u64 (wd t.st 0 64 : Nat), .int .u64 (wd t.st 64 64 : Nat), .int .u64 (wd t.st 128 64 : Nat), .int .u64 (wd t.st 192 64 : Nat), .int .i64 t.lo, .int .i64 t.hi, .int .i64 t.g, .slice ad t.args.len cap] 55)) (.cells #[.int .i64 0, .int .u64 0, .int .u64 0, .int .u64 0, .int .u64 0, .int .i64 0, .int .i64 0, .int .i64 0, .slice none 0 0] 55)
    rw [show (w.alloc (.cells #[.int .i64 t.op, .int .u64 (wd t.st 0 64 : Nat), .int .u64 (wd t.st 64 64 : Nat), .int .u64 (wd t.st 128 64 : Nat), .int .u64 (wd t.st 192 64 : Nat), .int .i64 t.lo, .int .i64 t.hi, .int .i64 t.g, .slice ad t.args.len cap] 55)).heap.size = R by simp [hR]] at this
    rw [hW]; exact this
  have HT : Hid (∀ wx, Below W.heap.size W wx → TI wx t (.slice ad t.args.len cap) ∧ wx.heap[w.heap.size]? = some (.cells #[.int .i64 t.op, .int .u64 (wd t.st 0 64 : Nat), .int .u64 (wd t.st 64 64 : Nat), .int .u64 (wd t.st 128 64 : Nat), .int .u64 (wd t.st 192 64 : Nat), .int .i64 t.lo, .int .i64 t.hi, .int .i64 t.g, .slice ad t.args.len cap] 55 (0, 0)) ∧ wx.heap[R]? = some (.cells #[.int .i64 0, .int .u64 0, .int .u64 0, .int .u64 0, .int .u64 0, .int .i64 0, .int .i64 0, .int .i64 0, .slice none 0 0] 55 (0, 0))) := Lib.hid (fun wx hx => by
    have e1 := (Array.getElem?_eq_some_iff.1 h1).1
    have e2 := (Array.getElem?_eq_some_iff.1 h2).1
    exact ⟨h.below (hb.trans (hx.mono hb.size)), (hx.block _ e1).trans h1, (hx.block _ e2).trans h2⟩)
  have HCk : Hid (∀ wx, Below W.heap.size W wx → Calls Tryd.prog 29 #[.agg #[.int .i64 t.op, .int .u64 (wd t.st 0 64 : Nat), .int .u64 (wd t.st 64 64 : Nat), .int .u64 (wd t.st 128 64 : Nat), .int .u64 (wd t.st 192 64 : Nat), .int .i64 t.lo, .int .i64 t.hi, .int .i64 t.g, .slice ad t.args.len cap]] wx fun e w' => e = .returned (.int .i64 0) ∧ Below wx.heap.size wx w') := Lib.hid (fun wx hx => (rcheck_ti (HT.out wx hx).1 hz2).mono (by
    rintro e w' ⟨⟨k, rfl, hk⟩, hb⟩
    exact ⟨by rw [hk.2 hv], hb⟩))
  have HGr : Hid (∀ wx, Below W.heap.size W wx → Calls Tryd.prog 50 #[.agg #[.int .i64 t.op, .int .u64 (wd t.st 0 64 : Nat), .int .u64 (wd t.st 64 64 : Nat), .int .u64 (wd t.st 128 64 : Nat), .int .u64 (wd t.st 192 64 : Nat), .int .i64 t.lo, .int .i64 t.hi, .int .i64 t.g, .slice ad t.args.len cap]] wx fun e w' => e = .returned (.int .i64 ((szF t.args + 1 : Nat) : Int)) ∧ Below wx.heap.size wx w') := Lib.hid (fun wx hx => by
    obtain ⟨S, s1, s2, s3, s4⟩ := (HT.out wx hx).1
    exact grown_pl t.args t.op t.lo t.hi t.g t.st _ wx S s1 s3 hsp ho hz)
  have HEx : Hid (∀ wx, Below W.heap.size W wx → Calls Tryd.prog 51 #[.agg #[.int .i64 t.op, .int .u64 (wd t.st 0 64 : Nat), .int .u64 (wd t.st 64 64 : Nat), .int .u64 (wd t.st 128 64 : Nat), .int .u64 (wd t.st 192 64 : Nat), .int .i64 t.lo, .int .i64 t.hi, .int .i64 t.g, .slice ad t.args.len cap]] wx fun e w' => ∃ sv', e = .returned (.agg #[.int .i64 t.op, .int .u64 (wd t.st 0 64 : Nat), .int .u64 (wd t.st 64 64 : Nat), .int .u64 (wd t.st 128 64 : Nat), .int .u64 (wd t.st 192 64 : Nat), .int .i64 t.lo, .int .i64 t.hi, .int .i64 t.g, sv']) ∧ SV w' (Frm wx.heap.size) t.args sv' ∧ Below wx.heap.size wx w') := Lib.hid (fun wx hx => by
    obtain ⟨S, s1, s2, s3, s4⟩ := (HT.out wx hx).1
    exact exp_pl t.args t.op t.lo t.hi t.g t.st _ wx S s1 s2 hl hsh hsp ho)
  obtain ⟨⟨⟨a0, a1, a2⟩, a3, a4, a5⟩, a6, a7, a8⟩ := nine h1
  have hlw : w.heap.size < W.heap.size := (Array.getElem?_eq_some_iff.1 h1).1
  have hRW : R < W.heap.size := (Array.getElem?_eq_some_iff.1 h2).1
  have HB := Lib.hid hb
  have HW := Lib.hid hW
  have hg : ¬ ((4096 : Int) < ((szF t.args + 1 : Nat) : Int)) := by omega
  have HR := Lib.hid hR
  generalize hZ : (((szF t.args + 1 : Nat)) : Int) = Z at *
  clear h hz hz2 hv hsp ho hsh hl h1 h2 hW hb hZ
  go_enter Tryd.func31, Tryd.ntmps31
  go_upto_region 1 with fail
  rw [← HW.out]
  go_wp2_with (first
    | (go_at_call 29; (with_reducible refine (HCk.out _ (Below.refl _ _)).mono ?_); rintro e w2 ⟨rfl, hb2⟩
       have HB2 := Lib.hid hb2
       clear a0 a1 a2 a3 a4 a5 a6 a7 a8
       obtain ⟨⟨⟨a0, a1, a2⟩, a3, a4, a5⟩, a6, a7, a8⟩ := nine (HT.out w2 hb2).2.1
       have hl2 : w.heap.size < w2.heap.size := by have := hb2.size; omega
       clear hb2)
    | (go_at_call 50; (with_reducible refine (HGr.out _ HB2.out).mono ?_); rintro e w3 ⟨rfl, hb3⟩
       have hb4 := HB2.out.trans (hb3.mono HB2.out.size)
       have HB3 := Lib.hid hb4
       clear a0 a1 a2 a3 a4 a5 a6 a7 a8
       obtain ⟨⟨⟨a0, a1, a2⟩, a3, a4, a5⟩, a6, a7, a8⟩ := nine (HT.out w3 hb4).2.1
       have hl3 : w.heap.size < w3.heap.size := by have := hb4.size; omega
       clear hb3 hb4)
    | (go_at_call 51; (with_reducible refine (HEx.out _ HB3.out).mono ?_); rintro e w5 ⟨sv', rfl, hsv5, hb5⟩
       have hb6 := HB3.out.trans (hb5.mono HB3.out.size)
       have HB5 := Lib.hid hb6
       have HSv := Lib.hid hsv5
       have HSz : Hid (W.heap.size ≤ w3.heap.size) := Lib.hid HB3.out.size
       have HRes := Lib.hid (HT.out w5 hb6).2.2
       obtain ⟨ad5, cp5, rfl⟩ := slice_form hsv5
       clear a0 a1 a2 a3 a4 a5 a6 a7 a8 hb5 hb6 hsv5)
    | (refine wpList_store_row rfl 55 (.tmp 2) (.tmp 16) rfl R #[.int .i64 t.op, .int .u64 (wd t.st 0 64 : Nat), .int .u64 (wd t.st 64 64 : Nat), .int .u64 (wd t.st 128 64 : Nat), .int .u64 (wd t.st 192 64 : Nat), .int .i64 t.lo, .int .i64 t.hi, .int .i64 t.g, .slice ad5 t.args.len cp5] rfl rfl 55 _ HRes.out isz_re rfl (by simp [Value.oneCell']) ?_))
  refine bodyPost_ret (v := .tuple #[.agg #[.int .i64 t.op, .int .u64 (wd t.st 0 64 : Nat), .int .u64 (wd t.st 64 64 : Nat), .int .u64 (wd t.st 128 64 : Nat), .int .u64 (wd t.st 192 64 : Nat), .int .i64 t.lo, .int .i64 t.hi, .int .i64 t.g, .slice ad5 t.args.len cp5], .int .i64 0]) (results_re2 rfl _ _ R _ #[.int .i64 t.op, .int .u64 (wd t.st 0 64 : Nat), .int .u64 (wd t.st 64 64 : Nat), .int .u64 (wd t.st 128 64 : Nat), .int .u64 (wd t.st 192 64 : Nat), .int .i64 t.lo, .int .i64 t.hi, .int .i64 t.g, .slice ad5 t.args.len cp5] (0, 0) (.int .i64 0) rfl rfl (setRow_heap _ _ _ _ _ _ HRes.out) isz_re) rfl ?_
  refine ⟨_, rfl, HSv.out.far ⟨by rw [setRow_size]; exact Nat.le_refl _, fun b hb hl => ⟨?_, setRow_other _ _ b _ ?_⟩⟩, below_setRow (HB.out.trans (HB5.out.mono HB.out.size)) (by have := HR.out; omega) _⟩
  · have hb : w3.heap.size ≤ b := hb
    have := HSz.out
    show w.heap.size ≤ b
    omega
  · have hb : w3.heap.size ≤ b := hb
    have := HSz.out
    omega
end Go.Proofs.YtfgcnknmiclfnaaDoor
