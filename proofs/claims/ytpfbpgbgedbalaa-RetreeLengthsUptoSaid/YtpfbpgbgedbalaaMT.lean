/- Several texts in one (a claim has at most 60 files). -/
import Derived.Test.YtpfbpgbgedbalaaRows
import Derived.Test.YtpfbpgbgedbalaaCsRefB
import Derived.Laws.OwnMore
import Derived.Laws.AppendOwnNone
import Derived.Laws.IdiomStrings
import Derived.Lib.AppendStr
import Derived.Lib.SmallJoins
import Derived.OwnWalk
import Derived.Test.YtpfbpgbgedbalaaMB
import Derived.Test.YtpfbpgbgedbalaaMD
import Derived.Test.YtpfbpgbgedbalaaMX
import Derived.Deep.QuietTactic
import Derived.BigQuiet
import Derived.StillTailTactics
import Derived.Test.YtpfbpgbgedbalaaMR
import Derived.BigRegion
import Derived.Deep.OwnRows
import Derived.ChangeSlices
import Derived.OpenShut
/- The reference's List of a set (as layer 4's text of it). -/
set_option linter.unusedVariables false
namespace Go.Proofs.Ytpfbpgbgedbalaa
open Go.RowKit
def bl (l : List Nat) : List UInt8 := l.map UInt8.ofNat
theorem bl_length (l : List Nat) : (bl l).length = l.length := by simp [bl]
theorem el_lt (p : Nat → Bool) (n x : Nat) (h : x ∈ el p n) : x < n := ((mem_el p n x).1 h).1
namespace Lst
theorem infoB : (Try.prog.info? 5).map (fun i => (i.zero, i.size, i.bytes)) = some (some (.int .u8 0), 1, 1) := by kernel_rfl
/-- Numbers as bytes in memory. -/
def lits (l : List Nat) : List Value := l.map fun n => .int .u8 ((n : Nat) : Int)
theorem lits_app (l r : List Nat) : lits (l ++ r) = lits l ++ lits r := by unfold lits; rw [List.map_append]

theorem add_j (g j : Nat) : (⟨g, 0, none⟩ : Addr).add j = ⟨g, j, none⟩ := by unfold Addr.add; split <;> simp_all
theorem lit_cells (w : World) (cs : List Value) (t : TypeId) (j : Nat) (u : Value) (h : cs[j]? = some u) : (w.alloc (.cells cs.toArray t)).cell? ((⟨w.heap.size, 0, none⟩ : Addr).add j) = some u := by
  rw [add_j, cell_of_row _ w.heap.size j cs.toArray t (0, 0) (heap_alloc_new w _)]
  simpa using h
theorem own_below {w w' : World} {B n : Nat} {t : TypeId} {v : Value} {xs : List Value} (h : w.ownsRow B t 1 v n xs) (hb : Below w.heap.size w w') : w'.ownsRow B t 1 v n xs := by
  obtain ⟨h1, h2⟩ := h
  refine ⟨h1, ?_⟩
  rcases h2 with h2 | ⟨g, cap, cur, e, hB, hg, r⟩
  · exact .inl h2
  · exact .inr ⟨g, cap, cur, e, hB, (hb.block g (Array.getElem?_eq_some_iff.1 hg).1).trans hg, r⟩

/-- 'append(v, a, b, ..)' where v is the call's own and the new block has just been made. -/
theorem app_lit (T E : TypeId) (z : Value) (bytes : Nat) (ht : Try.prog.underlying T = some (.slice E)) (hif : (Try.prog.info? E).map (fun i => (i.zero, i.size, i.bytes)) = some (some z, 1, bytes)) (hz : z.cells.size = 1)
    {W : World} {ops : Array Oper} {rest : List Oper} {o : Oper} {a : Act} {Q : Exit → Act → World → Prop} (w : World) (hgd : o.guard = none) (s x : Operand)
    (ho : o.op = .call { callee := .builtin .append, args := #[s, x], argTypes := #[T, T] })
    (B : Nat) (v : Value) (n m : Nat) (xs vs : List Value) (hW : W = w.alloc (.cells vs.toArray E)) (hs : a.eval s = v) (hown : w.ownsRow B E 1 v n xs) (hx : a.eval x = .slice (some ⟨w.heap.size, 0, none⟩) m m) (hm : vs.length = m) (h1 : ∀ u ∈ vs, u.oneCell' = true)
    (hB : B ≤ w.heap.size) (h63 : n + m ≤ maxLen) (hby : (n + m) * bytes ≤ 140737488355328)
    (h : ∀ v' w', w'.ownsRow B E 1 v' (n + m) (xs ++ vs) → (∀ A0, Below B A0 w → Below B A0 w') → wpList Try.prog ops Q rest (a.put o.dst v') w') :
    wpList Try.prog ops Q (o :: rest) a W := by
  subst hW
  obtain ⟨i0, hi, hz0, hz1, hz2⟩ := info_parts hif
  refine wpList_append_own _ hgd s x T ho B E i0 z 1 bytes ht hi hz0 hz1 hz2 hz (by decide) v n xs hs (hown.alloc _) ⟨w.heap.size, 0, none⟩ m m vs hx (by omega) (fun j u hu => lit_cells w vs E j u hu) h1 h63 hby (by simp; omega) ?_
  intro v' w' hown' hgrow _
  exact h v' w' hown' fun A0 hb => (hb.alloc hB _).grown hgrow (by simp; omega) (fun j e => (hown.lt j e).1)

/-- A slice of bytes that the call has made, as a string. -/
theorem conv_own {w : World} {B n : Nat} {v : Value} {l : List Nat} (h : w.ownsRow B 5 1 v n (lits l)) (hn : n = l.length) (hl : ∀ x ∈ l, x < 256) : (convert 106 9 v).run Try.prog w = .ok (.string ⟨(bl l).toArray⟩) w := by
  subst hn
  rcases Joins.ownsRow_forms h with ⟨rfl, h0⟩ | ⟨g, cap, rfl⟩
  · have hl : l = [] := List.eq_nil_of_length_eq_zero h0
    subst hl
    rw [run_convert_bytes_string w 106 9 5 none 0 0 Try.underlying106 Try.underlying5 Try.underlying9]
    rfl
  · have hc := run_convert_bytes_back (P := Try.prog) w 106 9 5 ⟨g, 0, none⟩ cap (bl l) Try.underlying106 Try.underlying5 Try.underlying9 (fun j hj => h.cells rfl j _ (by
      rw [bl_length] at hj
      have e2 := hl _ (List.getElem_mem hj)
      unfold lits
      rw [List.getElem?_map, List.getElem?_eq_getElem hj]
      simp [bl]
      omega))
    rw [bl_length] at hc
    exact hc

set_option maxRecDepth 100000 in
set_option maxHeartbeats 4000000 in
theorem rlist_any (p : Nat → Bool) (w : World) : Calls Try.prog 44 #[cs p] w fun e w' => e = .returned (.string ⟨(bl (el p 256)).toArray⟩) ∧ Below w.heap.size w w' := by
  have HA := Lib.hid (At.new w p)
  have HB : Hid (Below w.heap.size w (w.alloc (.cells (cl p) 25))) := (Below.refl _ _).alloc (Nat.le_refl _) _
  obtain ⟨R, hR⟩ : ∃ R, R = bl (el p 256) := ⟨_, rfl⟩
  rw [← hR]
  have HR := Lib.hid hR
  clear hR
  unfold cs cl at *
  go_enter Try.func44, Try.ntmps44
  go_wp2
  go_loopw [3, 4] (fun o i wr => ∃ (k n : Nat) (v : Value), v = o ∧ k ≤ 256 ∧ i = .int .i64 k ∧ n ≤ k ∧ Hid (n = (el p k).length) ∧ Hid (wr.ownsRow (w.heap.size + 1) 5 1 v n (lits (el p k))) ∧ Hid (Below w.heap.size w wr ∧ At wr w.heap.size p)) (fun _ i _ => 256 - (intOf i).toNat)
  case atStart => exact ⟨0, 0, _, rfl, Nat.zero_le _, rfl, Nat.le_refl _, rfl, World.ownsRow_nil _ _ _ _, HB.out, HA.out⟩
  case round =>
    obtain ⟨k, n, v, rfl, hk, rfl, hnk, HN, HO, HX⟩ := hrel
    by_cases hlt : k < 256
    · have hi : (k : Int) < 256 := by omega
      have hw : IntKind.u8.wrap (k : Int) = (k : Int) := IntWalk.u8_in _ (by omega)
      have H1 := Lib.hid (rhas_any p k hlt)
      have HS := Lib.hid (el_succ p k)
      have HL := Lib.hid (el_length_le p k)
      unfold cs cl at H1
      obtain ⟨⟨c0, c1⟩, ⟨c2, c3⟩, hf⟩ := HX.out.2.words
      by_cases hp : p k = true
      · go_wp2_with (first
          | (go_at_call 18
             refine (H1.out _).mono ?_
             rintro e w1 ⟨rfl, hb⟩
             have HO1 := Lib.hid (own_below HO.out hb)
             have HX1 := Lib.hid (And.intro (HX.out.1.trans (hb.mono HX.out.1.size)) (HX.out.2.below hb HX.out.2.lt))
             clear hb)
          | (at_builtin; refine app_lit 106 5 (.int .u8 0) 1 Try.underlying106 infoB rfl w1 rfl _ _ rfl (w.heap.size + 1) v _ _ _ _ rfl rfl HO1.out rfl rfl ?c1 ?c0 ?c2 ?c3 ?_))
        case c1 => simp [Value.oneCell']
        case c0 => have := HX1.out.1.size; have := HX1.out.2.lt; omega
        case c2 => unfold maxLen; omega
        case c3 => omega
        intro v' w' hown' hb'
        have HW := Lib.hid hown'
        have HB1 := Lib.hid (hb' w1 (Below.refl _ _))
        clear hown' hb'
        go_wp2
        go_roundw
        case rel =>
          have e : el p (k + 1) = el p k ++ [k] := by rw [HS.out, if_pos hp]
          refine ⟨k + 1, n + 1, _, rfl, by omega, by go_num, by omega, ?_, ?_, ?_⟩
          · show _ = _
            rw [e, List.length_append, ← HN.out]
            rfl
          · show World.ownsRow _ _ _ _ _ _ _
            rw [e, lits_app]
            exact HW.out
          · exact ⟨HX1.out.1.trans (HB1.out.mono (by omega)), (HB1.out.block w.heap.size (by omega)).trans HX1.out.2⟩
        case measure => simp [intOf]; omega
      · simp only [Bool.not_eq_true] at hp
        go_wp2_with (first
          | (go_at_call 18
             refine (H1.out _).mono ?_
             rintro e w1 ⟨rfl, hb⟩
             have HO1 := Lib.hid (own_below HO.out hb)
             have HX1 := Lib.hid (And.intro (HX.out.1.trans (hb.mono HX.out.1.size)) (HX.out.2.below hb HX.out.2.lt))
             clear hb))
        go_roundw
        case rel =>
          have e : el p (k + 1) = el p k := by rw [HS.out, hp]; simp
          refine ⟨k + 1, n, _, rfl, by omega, by go_num, by omega, ?_, ?_, HX1.out⟩
          · show _ = _
            rw [e]
            exact HN.out
          · show World.ownsRow _ _ _ _ _ _ _
            rw [e]
            exact HO1.out
        case measure => simp [intOf]; omega
    · obtain rfl : k = 256 := by omega
      have hcv := conv_own HO.out HN.out (fun x hx => el_lt p 256 x hx)
      rw [← HR.out] at hcv
      go_wp2
      go_ret
      exact ⟨rfl, HX.out.1⟩

end Lst
end Go.Proofs.Ytpfbpgbgedbalaa
/- The maker of strings, in memory; it chooses, and lists the operand of a repetition. -/
set_option linter.unusedVariables false
set_option linter.unusedSimpArgs false
set_option maxRecDepth 100000
set_option maxHeartbeats 8000000
namespace Go.Proofs.Ytpfbpgbgedbalaa
open Go.RowKit

/-- A maker: block MB; its texts in TB, what was given in GB, for n groups. -/
structure MS (w : World) (MB TB GB n : Nat) (cv : Value) (a left : Int) (T : Nat → ByteArray) (G : Nat → Bool) : Prop where
  row : w.heap[MB]? = some (.cells #[cv, .int .i64 a, .slice (some ⟨TB, 0, none⟩) n n, .slice (some ⟨GB, 0, none⟩) n n, .int .i64 left] 43 (0, 0))
  tx : ∀ i, i < n → w.cell? ⟨TB, i, none⟩ = some (.string (T i))
  tf : ∀ off, w.frozen? ⟨TB, off, none⟩ = false
  gv : ∀ i, i < n → w.cell? ⟨GB, i, none⟩ = some (.bool (G i))
  gf : ∀ off, w.frozen? ⟨GB, off, none⟩ = false
  ne : MB ≠ TB ∧ MB ≠ GB ∧ TB ≠ GB
  lt : TB < w.heap.size ∧ GB < w.heap.size
theorem frozen_eq {w w' : World} {b i : Nat} (h : w'.heap[b]? = w.heap[b]?) : w'.frozen? ⟨b, i, none⟩ = w.frozen? ⟨b, i, none⟩ := by
  unfold World.frozen?
  simp only [h]
theorem MS.mlt {w : World} {MB TB GB n : Nat} {cv : Value} {a left : Int} {T : Nat → ByteArray} {G : Nat → Bool} (h : MS w MB TB GB n cv a left T G) : MB < w.heap.size := (Array.getElem?_eq_some_iff.1 h.row).1
theorem MS.keep {w w' : World} {MB TB GB n : Nat} {cv : Value} {a left : Int} {T : Nat → ByteArray} {G : Nat → Bool} {S : Nat → Prop} (h : MS w MB TB GB n cv a left T G) (hb : Keep S w w') (h1 : ¬ S MB) (h2 : ¬ S TB) (h3 : ¬ S GB) : MS w' MB TB GB n cv a left T G :=
  ⟨(hb.block MB h.mlt h1).trans h.row, fun i hi => (cell_same (hb.block TB h.lt.1 h2)).trans (h.tx i hi), fun off => (frozen_eq (hb.block TB h.lt.1 h2)).trans (h.tf off), fun i hi => (cell_same (hb.block GB h.lt.2 h3)).trans (h.gv i hi), fun off => (frozen_eq (hb.block GB h.lt.2 h3)).trans (h.gf off), h.ne, ⟨Nat.lt_of_lt_of_le h.lt.1 hb.size, Nat.lt_of_lt_of_le h.lt.2 hb.size⟩⟩
theorem MS.below {w w' : World} {MB TB GB n : Nat} {cv : Value} {a left : Int} {T : Nat → ByteArray} {G : Nat → Bool} (h : MS w MB TB GB n cv a left T G) (hb : Below w.heap.size w w') : MS w' MB TB GB n cv a left T G := h.keep (Keep.of_below (S := fun _ => False) hb) id id id
theorem MS.drew {w : World} {MB TB GB n : Nat} {cv : Value} {a left : Int} {T : Nat → ByteArray} {G : Nat → Bool} (h : MS w MB TB GB n cv a left T G) : MS w.drew MB TB GB n cv a left T G := h.below (Below.refl _ _).drew
theorem MS.drewN {w : World} {MB TB GB n : Nat} {cv : Value} {a left : Int} {T : Nat → ByteArray} {G : Nat → Bool} (h : MS w MB TB GB n cv a left T G) (k : Nat) : MS (w.drewN k) MB TB GB n cv a left T G := h.below (below_drewN (Below.refl _ _) k)
theorem MS.cells {w : World} {MB TB GB n : Nat} {cv : Value} {a left : Int} {T : Nat → ByteArray} {G : Nat → Bool} (h : MS w MB TB GB n cv a left T G) : (w.cell? ⟨MB, 0, none⟩ = some cv ∧ w.cell? ⟨MB, 1, none⟩ = some (.int .i64 a)) ∧ w.cell? ⟨MB, 2, none⟩ = some (.slice (some ⟨TB, 0, none⟩) n n) ∧ w.cell? ⟨MB, 3, none⟩ = some (.slice (some ⟨GB, 0, none⟩) n n) ∧ w.cell? ⟨MB, 4, none⟩ = some (.int .i64 left) :=
  ⟨⟨cell_of_row w MB 0 _ _ _ h.row, cell_of_row w MB 1 _ _ _ h.row⟩, cell_of_row w MB 2 _ _ _ h.row, cell_of_row w MB 3 _ _ _ h.row, cell_of_row w MB 4 _ _ _ h.row⟩
theorem MS.free {w : World} {MB TB GB n : Nat} {cv : Value} {a left : Int} {T : Nat → ByteArray} {G : Nat → Bool} (h : MS w MB TB GB n cv a left T G) (j : Nat) : w.frozen? ⟨MB, j, none⟩ = false := frozen_of_row w MB j _ _ h.row
theorem MS.only {w w' : World} {MB TB GB n : Nat} {cv : Value} {a left : Int} {T : Nat → ByteArray} {G : Nat → Bool} {a' left' : Int} (h : MS w MB TB GB n cv a left T G) (hb : Only MB w w') (hm : w'.heap[MB]? = some (.cells #[cv, .int .i64 a', .slice (some ⟨TB, 0, none⟩) n n, .slice (some ⟨GB, 0, none⟩) n n, .int .i64 left'] 43 (0, 0))) : MS w' MB TB GB n cv a' left' T G :=
  ⟨hm, fun i hi => (cell_same (hb.block TB h.lt.1 (fun e => h.ne.1 e.symm))).trans (h.tx i hi), fun off => (frozen_eq (hb.block TB h.lt.1 (fun e => h.ne.1 e.symm))).trans (h.tf off), fun i hi => (cell_same (hb.block GB h.lt.2 (fun e => h.ne.2.1 e.symm))).trans (h.gv i hi), fun off => (frozen_eq (hb.block GB h.lt.2 (fun e => h.ne.2.1 e.symm))).trans (h.gf off), h.ne, ⟨Nat.lt_of_lt_of_le h.lt.1 hb.size, Nat.lt_of_lt_of_le h.lt.2 hb.size⟩⟩
theorem MS.at {w : World} {MB TB GB n : Nat} {cv : Value} {a left : Int} {T : Nat → ByteArray} {G : Nat → Bool} (h : MS w MB TB GB n cv a left T G) (a' : Int) : MS (w.setCell ⟨MB, 1, none⟩ (.int .i64 a')) MB TB GB n cv a' left T G := h.only ((Only.refl _ _).put 1 _) (heap_setCell_same w MB 1 _ _ _ h.row)
theorem MS.left {w : World} {MB TB GB n : Nat} {cv : Value} {a left : Int} {T : Nat → ByteArray} {G : Nat → Bool} (h : MS w MB TB GB n cv a left T G) (l' : Int) : MS (w.setCell ⟨MB, 4, none⟩ (.int .i64 l')) MB TB GB n cv a l' T G := h.only ((Only.refl _ _).put 4 _) (heap_setCell_same w MB 4 _ _ _ h.row)
theorem MS.text {w : World} {MB TB GB n : Nat} {cv : Value} {a left : Int} {T : Nat → ByteArray} {G : Nat → Bool} (h : MS w MB TB GB n cv a left T G) (i : Nat) (hi : i < n) (s : ByteArray) : MS (w.setCell ⟨TB, i, none⟩ (.string s)) MB TB GB n cv a left (fun k => if k = i then s else T k) G := by
  have ho : Only TB w (w.setCell ⟨TB, i, none⟩ (.string s)) := (Only.refl _ _).put i _
  refine ⟨(ho.block MB h.mlt h.ne.1).trans h.row, fun k hk => ?_, fun off => by rw [World.frozen?_setCell]; exact h.tf off, fun k hk => (cell_same (ho.block GB h.lt.2 (fun e => h.ne.2.2 e.symm))).trans (h.gv k hk), fun off => by rw [World.frozen?_setCell]; exact h.gf off, h.ne, ⟨Nat.lt_of_lt_of_le h.lt.1 ho.size, Nat.lt_of_lt_of_le h.lt.2 ho.size⟩⟩
  by_cases e : k = i
  · subst e
    rw [if_pos rfl]
    exact World.cell?_setCell_same w _ _ (h.tx k hk)
  · rw [if_neg e]
    exact (World.cell?_setCell_other w (⟨TB, i, none⟩ : Addr) (⟨TB, k, none⟩ : Addr) _ (by intro k'; cases k'; exact e rfl)).trans (h.tx k hk)
theorem MS.give {w : World} {MB TB GB n : Nat} {cv : Value} {a left : Int} {T : Nat → ByteArray} {G : Nat → Bool} (h : MS w MB TB GB n cv a left T G) (i : Nat) (hi : i < n) (b : Bool) : MS (w.setCell ⟨GB, i, none⟩ (.bool b)) MB TB GB n cv a left T (fun k => if k = i then b else G k) := by
  have ho : Only GB w (w.setCell ⟨GB, i, none⟩ (.bool b)) := (Only.refl _ _).put i _
  refine ⟨(ho.block MB h.mlt h.ne.2.1).trans h.row, fun k hk => (cell_same (ho.block TB h.lt.1 h.ne.2.2)).trans (h.tx k hk), fun off => by rw [World.frozen?_setCell]; exact h.tf off, fun k hk => ?_, fun off => by rw [World.frozen?_setCell]; exact h.gf off, h.ne, ⟨Nat.lt_of_lt_of_le h.lt.1 ho.size, Nat.lt_of_lt_of_le h.lt.2 ho.size⟩⟩
  by_cases e : k = i
  · subst e
    rw [if_pos rfl]
    exact World.cell?_setCell_same w _ _ (h.gv k hk)
  · rw [if_neg e]
    exact (World.cell?_setCell_other w (⟨GB, i, none⟩ : Addr) (⟨GB, k, none⟩ : Addr) _ (by intro k'; cases k'; exact e rfl)).trans (h.gv k hk)
/-- The choices, in a block that nothing writes to. -/
def CH (w : World) (B : Nat) (cv : Value) (c : List Int) : Prop := (∀ x, x ∈ c → -9223372036854775808 ≤ x ∧ x ≤ 9223372036854775807) ∧ c.length ≤ maxLen ∧ ∃ ad cap, cv = .slice ad c.length cap ∧ c.length ≤ cap ∧ (c.length = 0 ∨ ∃ b off, ad = some ⟨b, off, none⟩ ∧ b < B ∧ b < w.heap.size ∧ ∀ j (hj : j < c.length), w.cell? ⟨b, off + j, none⟩ = some (.int .i64 c[j]))
theorem CH.keep {w w' : World} {B : Nat} {cv : Value} {c : List Int} {S : Nat → Prop} (h : CH w B cv c) (hb : Keep S w w') (hS : ∀ b, S b → B ≤ b) : CH w' B cv c := by
  obtain ⟨h0, h1, ad, cap, h2, h3, h4⟩ := h
  refine ⟨h0, h1, ad, cap, h2, h3, ?_⟩
  rcases h4 with h4 | ⟨b, off, h5, h6, h7, h8⟩
  · exact .inl h4
  · exact .inr ⟨b, off, h5, h6, Nat.lt_of_lt_of_le h7 hb.size, fun j hj => (cell_same (hb.block b h7 (fun e => by have := hS b e; omega))).trans (h8 j hj)⟩
/-- The three blocks of a maker. -/
def K3 (MB TB GB : Nat) : Nat → Prop := fun b => b = MB ∨ b = TB ∨ b = GB
theorem K3.of_only {MB TB GB : Nat} {w w' : World} (h : Only MB w w') : Keep (K3 MB TB GB) w w' := ⟨h.os, h.tape, h.output, h.size, fun k hk hn => h.block k hk (fun e => hn (.inl e))⟩
theorem next_any (w : World) (MB TB GB n B : Nat) (cv : Value) (a left : Int) (T : Nat → ByteArray) (G : Nat → Bool) (c : List Int) (m : Nat) (h : MS w MB TB GB n cv a left T G) (hc : CH w B cv c) (hB : B ≤ MB) (ha : 0 ≤ a ∧ a ≤ (c.length : Int)) (hm : 1 ≤ m ∧ m ≤ 1000000) :
    Calls Try.prog 45 #[.pointer (some ⟨MB, 0, none⟩), .int .i64 m] w fun e w' => (∃ k : Nat, e = .returned (.int .i64 k) ∧ k < m) ∧ (∃ a' : Int, (0 ≤ a' ∧ a' ≤ (c.length : Int)) ∧ MS w' MB TB GB n cv a' left T G) ∧ Only MB w w' := by
  obtain ⟨⟨d0, d1⟩, d2, d3, d4⟩ := h.cells
  have f1 := h.free 1
  obtain ⟨h0, hl, ad, cap, rfl, hcap, hcs⟩ := hc
  have H := Lib.hid h
  have HA := Lib.hid ha
  have HM := Lib.hid hm
  have HCap := Lib.hid hcap
  by_cases hge : (c.length : Int) ≤ a
  · have hd : decide ((c.length : Int) ≤ a) = true := decide_eq_true hge
    clear h h0 hl hcs ha hm hcap hge
    go_enter Try.func45, Try.ntmps45
    go_wp2_with fail
    go_quiet (fail)
    go_wp2_with fail
    go_ret
    exact ⟨⟨0, rfl, by have := HM.out; omega⟩, ⟨a, HA.out, H.out.drewN _⟩, Only.of_below (below_drewN (Below.refl _ _) _)⟩
  obtain ⟨j, rfl⟩ : ∃ j : Nat, a = (j : Int) := ⟨a.toNat, by omega⟩
  have hj : j < c.length := by omega
  rcases hcs with hcs | ⟨b, off, rfl, hb1, hb2, hcs⟩
  · omega
  have hx := hcs j hj
  have hxr := h0 _ (List.getElem_mem hj)
  generalize c[j] = x at hx hxr
  have hd : decide ((c.length : Int) ≤ (j : Int)) = false := decide_eq_false hge
  have hdn : decide (c.length ≤ j) = false := decide_eq_false (by omega)
  have hd1 : decide ((m : Int) < 1) = false := decide_eq_false (by omega)
  have hd1n : decide (m < 1) = false := decide_eq_false (by omega)
  have hd1z : decide (m = 0) = false := decide_eq_false (by omega)
  have hji : (j : Int) < (c.length : Int) := by omega
  have hj0 : (0 : Int) ≤ (j : Int) := by omega
  have hm0 : ¬ (m : Int) = 0 := by omega
  have hm1 : ((m : Int) == 0) = false := by simpa using hm0
  have hjc : IntKind.i64.wrap ((j : Int) + 1) = (j : Int) + 1 := by rw [IntKind.wrap_i64]; unfold maxLen at hl; omega
  have hz1 : -(m : Int) < x.tmod m := Int.lt_tmod_of_pos x (by omega)
  have hz2 : x.tmod m < (m : Int) := Int.tmod_lt_of_pos x (by omega)
  have hzw : IntKind.i64.wrap (x.tmod m) = x.tmod m := by rw [IntKind.wrap_i64]; omega
  have hzn : IntKind.i64.wrap (-(x.tmod m)) = -(x.tmod m) := by rw [IntKind.wrap_i64]; omega
  have HZ := Lib.hid (And.intro hz1 hz2)
  have HJ := Lib.hid hj
  have hne : b ≠ MB := by omega
  clear h h0 hl hcs ha hm hcap hge hj hxr hz1 hz2
  obtain ⟨z, hz⟩ : ∃ z, x.tmod m = z := ⟨_, rfl⟩
  rw [hz] at hzw hzn HZ
  by_cases hneg : z < 0
  · go_enter Try.func45, Try.ntmps45
    go_wp2_with fail
    go_quiet (fail)
    go_wp2_with fail
    go_quiet (fail)
    go_wp2_with fail
    go_ret
    obtain ⟨z1, z2⟩ := HZ.out
    obtain ⟨kz, hkz⟩ : ∃ k : Nat, -z = (k : Int) := ⟨(-z).toNat, by omega⟩
    refine ⟨⟨kz, by first | rfl | (rw [← hkz]; rfl), by omega⟩, ⟨(j : Int) + 1, ⟨by omega, by have := HJ.out; omega⟩, (H.out.drewN _).at _⟩, (Only.of_below (below_drewN (Below.refl _ _) _)).put 1 _⟩
  · go_enter Try.func45, Try.ntmps45
    go_wp2_with fail
    go_quiet (fail)
    go_wp2_with fail
    go_quiet (fail)
    go_wp2_with fail
    go_ret
    obtain ⟨z1, z2⟩ := HZ.out
    obtain ⟨kz, hkz⟩ : ∃ k : Nat, z = (k : Int) := ⟨z.toNat, by omega⟩
    refine ⟨⟨kz, by first | rfl | (rw [← hkz]; rfl), by omega⟩, ⟨(j : Int) + 1, ⟨by omega, by have := HJ.out; omega⟩, (H.out.drewN _).at _⟩, (Only.of_below (below_drewN (Below.refl _ _) _)).put 1 _⟩
/-- k times the same tree. -/
def copF (x : TN) : Nat → F
  | 0 => .nil
  | k + 1 => .cons x.op x.st x.lo x.hi x.g x.args (copF x k)
theorem copF_len (x : TN) : ∀ k, (copF x k).len = k
  | 0 => rfl
  | k + 1 => by show (copF x k).len + 1 = k + 1; rw [copF_len x k]
theorem copF_nth (x : TN) : ∀ k i, i < k → (copF x k).nth i = x
  | k + 1, 0, _ => rfl
  | k + 1, i + 1, h => copF_nth x k i (by omega)
theorem copF_push (x : TN) : ∀ k, (copF x k).push x = copF x (k + 1)
  | 0 => rfl
  | k + 1 => by
    show F.cons _ _ _ _ _ _ ((copF x k).push x) = _
    rw [copF_push x k]
    rfl
end Go.Proofs.Ytpfbpgbgedbalaa
/- The maker's list of the operand of a repetition. -/
set_option linter.unusedVariables false
set_option linter.unusedSimpArgs false
set_option maxRecDepth 100000
set_option maxHeartbeats 8000000
namespace Go.Proofs.Ytpfbpgbgedbalaa
open Go.RowKit

/-- The copies in memory: a row of the call's own, over the tree's blocks. -/
theorem times_any (w : World) (MB TB GB n B : Nat) (cv : Value) (a left : Int) (T : Nat → ByteArray) (G : Nat → Bool) (c : List Int) (h : MS w MB TB GB n cv a left T G) (hc : CH w B cv c) (hB : B ≤ MB) (ha : 0 ≤ a ∧ a ≤ (c.length : Int))
    (f : F) (l h' g : Int) (st : Nat → Bool) (sv : Value) (S : Nat → Prop) (hsv : SV w S f sv) (h1 : f.len = 1) (hlo : 0 ≤ l ∧ l ≤ 64) (hhi : h' = -1 ∨ (l ≤ h' ∧ h' ≤ 64)) (hS : ∀ b, S b → b ≠ MB ∧ b < w.heap.size) :
    Calls Try.prog 47 #[.pointer (some ⟨MB, 0, none⟩), .agg #[.int .i64 5, .int .u64 (wd st 0 64 : Nat), .int .u64 (wd st 64 64 : Nat), .int .u64 (wd st 128 64 : Nat), .int .u64 (wd st 192 64 : Nat), .int .i64 l, .int .i64 h', .int .i64 g, sv]] w fun e w' => (∃ (v : Value) (k : Nat), e = .returned v ∧ SV w' (fun b => S b ∨ w.heap.size ≤ b) (copF (f.nth 0) k) v ∧ (l ≤ (k : Int) ∧ k ≤ 67) ∧ (h' < 0 ∨ (k : Int) ≤ h')) ∧ (∃ a' : Int, (0 ≤ a' ∧ a' ≤ (c.length : Int)) ∧ MS w' MB TB GB n cv a' left T G) ∧ Only MB w w' := by
  obtain ⟨ln, rfl⟩ : ∃ ln : Nat, l = (ln : Int) := ⟨l.toNat, by omega⟩
  obtain ⟨ad, cap, rfl⟩ := slice_form hsv
  obtain ⟨W2, hW2⟩ : ∃ W2, W2 = w.alloc (.cells #[.int .i64 5, .int .u64 (wd st 0 64 : Nat), .int .u64 (wd st 64 64 : Nat), .int .u64 (wd st 128 64 : Nat), .int .u64 (wd st 192 64 : Nat), .int .i64 (ln : Int), .int .i64 h', .int .i64 g, .slice ad f.len cap] 28) := ⟨_, rfl⟩
  have hx : Below w.heap.size w W2 := by rw [hW2]; exact (Below.refl _ _).alloc (Nat.le_refl _) _
  have hz2 : W2.heap.size = w.heap.size + 1 := by rw [hW2]; simp
  have hg0 : W2.heap[w.heap.size]? = some (.cells #[.int .i64 5, .int .u64 (wd st 0 64 : Nat), .int .u64 (wd st 64 64 : Nat), .int .u64 (wd st 128 64 : Nat), .int .u64 (wd st 192 64 : Nat), .int .i64 (ln : Int), .int .i64 h', .int .i64 g, .slice ad f.len cap] 28 (0, 0)) := by
    rw [hW2]
    exact heap_alloc_new w _
  have HMl := Lib.hid h.mlt
  have hxd := hx.drew
  have HNx := Lib.hid (next_any W2.drew MB TB GB n B cv a left T G c 4 (h.below hxd) (hc.keep (Keep.of_below (S := fun _ => False) hxd) (fun _ e => e.elim)) hB ha ⟨by decide, by decide⟩)
  have h4 : ((4 : Nat) : Int) = 4 := rfl
  rw [h4] at HNx
  clear h4
  have HSV := Lib.hid hsv
  have HX := Lib.hid hx
  have HG0 := Lib.hid hg0
  have HZ := Lib.hid hz2
  have HW2 := Lib.hid hW2
  have HS := Lib.hid hS
  have HLo := Lib.hid hlo
  have HHi := Lib.hid hhi
  have HF1 := Lib.hid h1
  obtain ⟨⟨⟨b0, b1, b2⟩, b3, b4, b5⟩, b6, b7, b8⟩ := nine hg0
  have HB5 := Lib.hid b5
  clear h hc hsv hS hlo hhi hx hz2 hg0 hW2 hxd h1
  obtain ⟨x, hxe⟩ : ∃ x, f.nth 0 = x := ⟨_, rfl⟩
  rw [hxe]
  have HXe := Lib.hid hxe
  clear hxe
  go_enter Try.func47, Try.ntmps47
  go_upto_region 1 with fail
  rw [← HW2.out]
  refine wp_region_held_drew (S := Only MB W2) (by kernel_rfl) ?_ (fun hHeld => ?_)
  · exact (Only.refl MB W2).drew
  refine wpAnyH_take (i := 0) (v := ?av0) rfl (by kernel_rfl) (by kernel_rfl) (by kernel_rfl) (fun _ _ _ h => h) (Or.inl ⟨by rfl, ?ay0⟩) (by assumption) ?ar0
  case ay0 =>
    intro wx hSw
    clear hSw
    go_simp
    first | done | (with_reducible rfl)
  (try simp only [Act.put, List.getElem_toArray, List.getElem_cons_zero, List.setIfInBounds_toArray, List.set_cons_zero, List.set_cons_succ])
  refine wpAnyH_take (i := 1) (v := ?av1) rfl (by kernel_rfl) (by kernel_rfl) (by kernel_rfl) (fun _ _ _ h => h) (Or.inl ⟨by rfl, ?ay1⟩) (by assumption) ?ar1
  case ay1 =>
    intro wx hSw
    have hlo' := (cell_same (hSw.block w.heap.size (by have := HZ.out; omega) (by have := HMl.out; omega))).trans HB5.out
    clear hSw
    go_simp
    first | done | (with_reducible rfl)
  (try simp only [Act.put, List.getElem_toArray, List.getElem_cons_succ, List.getElem_cons_zero, List.setIfInBounds_toArray, List.set_cons_zero, List.set_cons_succ])
  refine wpAnyH_take (i := 2) (v := ?av2) rfl (by kernel_rfl) (by kernel_rfl) (by kernel_rfl) (fun _ _ _ h => h) (Or.inl ⟨by rfl, ?ay2⟩) (by assumption) ?ar2
  case ay2 =>
    intro wx hSw
    clear hSw
    go_simp
    first | done | (with_reducible rfl)
  (try simp only [Act.put, List.getElem_toArray, List.getElem_cons_succ, List.getElem_cons_zero, List.setIfInBounds_toArray, List.set_cons_zero, List.set_cons_succ])
  refine wpAnyH_ready (rs := [3]) (by kernel_rfl) (by simp) ?_
  refine AllReadyH.cons rfl (fun K hK => ?_) AllReadyH.nil
  go_simp
  go_at_call 45
  refine HNx.out.mono ?_
  rintro e w1 ⟨⟨k0, rfl, hk0⟩, ⟨a1, ha1, hm1⟩, ho1⟩
  refine hK.out _ _ ?_ (fun hHeld1 => ?_)
  · exact (Only.refl MB W2).drew.trans ho1
  clear hK K
  (try simp only [Act.put, List.getElem_toArray, List.getElem_cons_succ, List.getElem_cons_zero, List.setIfInBounds_toArray, List.set_cons_zero, List.set_cons_succ])
  have hwr : IntKind.i64.wrap ((ln : Int) + (k0 : Int)) = ((ln + k0 : Nat) : Int) := by rw [IntKind.wrap_i64]; have := HLo.out; omega
  refine wpAnyH_take (i := 4) (v := ?bv4) rfl (by kernel_rfl) (by kernel_rfl) (by kernel_rfl) (fun _ _ _ h => h) (Or.inl ⟨by rfl, ?by4⟩) (by assumption) ?br4
  case by4 =>
    intro wx hSw
    clear hSw
    go_simp
    first | done | (with_reducible rfl)
  (try simp only [Act.put, List.getElem_toArray, List.getElem_cons_succ, List.getElem_cons_zero, List.setIfInBounds_toArray, List.set_cons_zero, List.set_cons_succ])
  refine wpAnyH_take (i := 5) (v := ?bv5) rfl (by kernel_rfl) (by kernel_rfl) (by kernel_rfl) (fun _ _ _ h => h) (Or.inl ⟨by rfl, ?by5⟩) (by assumption) ?br5
  case by5 =>
    intro wx hSw
    clear hSw
    go_simp
    first | done | (with_reducible rfl)
  (try simp only [Act.put, List.getElem_toArray, List.getElem_cons_succ, List.getElem_cons_zero, List.setIfInBounds_toArray, List.set_cons_zero, List.set_cons_succ])
  refine wpAnyH_done (by kernel_rfl) ?_ _
  have HO1 := Lib.hid ((Only.of_below HX.out).trans hHeld1)
  have HA1 := Lib.hid ha1
  have HM1 := Lib.hid hm1
  have HBox := Lib.hid ((hHeld1.block w.heap.size (by have := HZ.out; omega) (by have := HMl.out; omega)).trans HG0.out)
  have HK0 := Lib.hid hk0
  clear hHeld hHeld1 ho1 ha1 hm1 hk0 b0 b1 b2 b3 b4 b5 b6 b7 b8 hwr
  obtain ⟨⟨⟨b0, b1, b2⟩, b3, b4, b5⟩, b6, b7, b8⟩ := nine HBox.out
  obtain ⟨m, hm, hmi⟩ : ∃ m, ln + k0 = m ∧ (ln : Int) + (k0 : Int) = (m : Int) := ⟨_, rfl, by omega⟩
  first | rw [hm] | rw [hmi]
  clear hmi
  have HMm := Lib.hid hm
  clear hm
  by_cases hn1 : h' = -1
  · subst hn1
    have HNN : Hid (m ≤ 67 ∧ ln ≤ m) := Lib.hid (by have := HMm.out; have := HLo.out; have := HK0.out; omega)
    go_wp2_with fail
    clear b0 b1 b2 b3 b4 b5 b6 b7 b8
    go_loopw [6, 7] (fun v i wr => ∃ (k : Nat) (xs : List Value), k ≤ m ∧ i = .int .i64 k ∧ Hid (wr.ownsRow w1.heap.size 28 9 v k xs ∧ FV wr S (copF x k) xs ∧ Below w1.heap.size w1 wr)) (fun _ i _ => m - (intOf i).toNat)
    case atStart => exact ⟨0, [], Nat.zero_le _, rfl, Lib.hid ⟨⟨by simp, .inl ⟨rfl, rfl⟩⟩, rfl, Below.refl _ _⟩⟩
    case round =>
      obtain ⟨k, xs, hk, rfl, HB⟩ := hrel
      have hbw : Only MB w wr := HO1.out.next HB.out.2.2
      obtain ⟨⟨⟨b0, b1, b2⟩, b3, b4, b5⟩, b6, b7, b8⟩ := nine ((HB.out.2.2.block _ (Array.getElem?_eq_some_iff.1 HBox.out).1).trans HBox.out)
      obtain ⟨vad, vcap, rfl⟩ := own_sl HB.out.1
      by_cases hkn : k < m
      · have ki : (k : Int) < (m : Int) := by omega
        have ki0 : (0 : Int) ≤ k := by omega
        have kmb : (k : Int) ≤ 67 := by have := HNN.out; omega
        have hf0n : 0 < f.len := by have := HF1.out; omega
        have hf0 : (0 : Int) < (f.len : Int) := by omega
        obtain ⟨b, i0, ad2, cp2, rfl, hsv2, c0, c1, c2, c3, c4, c5, c6, c7, c8⟩ := kid HSV.out (Afar.only_ne hbw (fun b hb => (HS.out b hb).1)) 0 hf0n
        rw [HXe.out] at hsv2 c0 c1 c2 c3 c4 c5 c6 c7 c8
        rw [Nat.zero_mul, Nat.add_zero] at c0 c1 c2 c3 c4 c5 c6 c7 c8
        have HS2 := Lib.hid hsv2
        have HBW := Lib.hid hbw
        clear hsv2 hbw
        go_wp2_with (at_builtin; refine app1 w1.heap.size 26 28 (.agg #[.int .i64 0, .int .u64 0, .int .u64 0, .int .u64 0, .int .u64 0, .int .i64 0, .int .i64 0, .int .i64 0, .slice none 0 0]) 9 88 Try.underlying26 infoRe rfl (by decide) wr rfl (.tmp 29) (.tmp 34) rfl HB.out.2.2.size (.slice vad k vcap) k _ (rowV x.op x.st x.lo x.hi x.g (.slice ad2 x.args.len cp2)) rfl rfl HB.out.1 _ rfl rfl rfl ?d1 ?d2 ?d3 ?_)
        case d1 => simp [rowV, Value.oneCell']
        case d2 => have := HNN.out; unfold maxLen; omega
        case d3 => have := HNN.out; omega
        intro g0 cap0 w8 ho8 hk8 hg8
        have hown : ∀ y, (Value.slice vad k vcap).ownBlock = some y → w1.heap.size ≤ y := fun y hy => (own_at HB.out.1 y hy).1
        have hfv : FV w8 S ((copF x k).push x) (xs ++ rowV x.op x.st x.lo x.hi x.g (.slice ad2 x.args.len cp2)) := by
          have ha : Afar S S wr w8 := ⟨hk8.size, fun b hb hlt => ⟨hb, hk8.block b hlt (fun e => by have := hown b e; have := (HS.out b hb).2; have := HO1.out.size; omega)⟩⟩
          exact FV.push (HS2.out.far ha) (HB.out.2.1.far ha)
        rw [copF_push] at hfv
        have hb8 : Below w1.heap.size w1 w8 := ⟨hk8.os.trans HB.out.2.2.os, hk8.tape.trans HB.out.2.2.tape, hk8.output.trans HB.out.2.2.output, Nat.le_trans HB.out.2.2.size hk8.size, fun b hb => (hk8.block b (Nat.lt_of_lt_of_le hb HB.out.2.2.size) (fun e => by have := hown b e; omega)).trans (HB.out.2.2.block b hb)⟩
        have HF8 := Lib.hid (And.intro ho8 (And.intro hfv hb8))
        clear ho8 hk8 hg8 hown hfv hb8
        go_wp2_with fail
        go_roundw
        case rel => exact ⟨k + 1, _, by omega, by go_num, HF8⟩
        case measure => simp [intOf]; omega
      · obtain ⟨q, hq⟩ : ∃ q, q = m := ⟨_, rfl⟩
        have hkq : k = q := by omega
        subst hkq
        have ki : ¬ (k : Int) < (m : Int) := by omega
        go_wp2_with fail
        go_ret
        subst hq
        have hsv : SV wr (fun b => S b ∨ w.heap.size ≤ b) (copF x k) (.slice vad k vcap) := by
          have hfv := HB.out.2.1.far (T := fun b => S b ∨ w.heap.size ≤ b) (w' := wr) ⟨Nat.le_refl _, fun b hb _ => ⟨.inl hb, rfl⟩⟩
          have ho := HB.out.1
          have hl := copF_len x k
          rw [← hl] at ho
          have := SV.own (S := fun b => S b ∨ w.heap.size ≤ b) hfv (fun g hg => .inr (by have := (own_at ho g hg).1; have := HO1.out.size; omega)) ho
          rw [hl] at this
          exact this
        exact ⟨⟨_, rfl, _, hsv, (by have h1 := HNN.out; have h2 := HMm.out; have h3 := HLo.out; have h4 := HHi.out; omega)⟩, ⟨a1, HA1.out, HM1.out.below HB.out.2.2⟩, hbw⟩
  obtain ⟨hn, rfl⟩ : ∃ hn : Nat, h' = (hn : Int) := ⟨h'.toNat, by have := HHi.out; have := HLo.out; omega⟩
  by_cases hlt : hn < m
  · have hld : (hn : Int) < (m : Int) := by omega
    have HNN : Hid ((hn ≤ 67 ∧ ln ≤ hn)) := Lib.hid (by have := HHi.out; have := HLo.out; omega)
    go_wp2_with fail
    clear b0 b1 b2 b3 b4 b5 b6 b7 b8
    go_loopw [6, 7] (fun v i wr => ∃ (k : Nat) (xs : List Value), k ≤ hn ∧ i = .int .i64 k ∧ Hid (wr.ownsRow w1.heap.size 28 9 v k xs ∧ FV wr S (copF x k) xs ∧ Below w1.heap.size w1 wr)) (fun _ i _ => hn - (intOf i).toNat)
    case atStart => exact ⟨0, [], Nat.zero_le _, rfl, Lib.hid ⟨⟨by simp, .inl ⟨rfl, rfl⟩⟩, rfl, Below.refl _ _⟩⟩
    case round =>
      obtain ⟨k, xs, hk, rfl, HB⟩ := hrel
      have hbw : Only MB w wr := HO1.out.next HB.out.2.2
      obtain ⟨⟨⟨b0, b1, b2⟩, b3, b4, b5⟩, b6, b7, b8⟩ := nine ((HB.out.2.2.block _ (Array.getElem?_eq_some_iff.1 HBox.out).1).trans HBox.out)
      obtain ⟨vad, vcap, rfl⟩ := own_sl HB.out.1
      by_cases hkn : k < hn
      · have ki : (k : Int) < (hn : Int) := by omega
        have ki0 : (0 : Int) ≤ k := by omega
        have kmb : (k : Int) ≤ 67 := by have := HNN.out; omega
        have hf0n : 0 < f.len := by have := HF1.out; omega
        have hf0 : (0 : Int) < (f.len : Int) := by omega
        obtain ⟨b, i0, ad2, cp2, rfl, hsv2, c0, c1, c2, c3, c4, c5, c6, c7, c8⟩ := kid HSV.out (Afar.only_ne hbw (fun b hb => (HS.out b hb).1)) 0 hf0n
        rw [HXe.out] at hsv2 c0 c1 c2 c3 c4 c5 c6 c7 c8
        rw [Nat.zero_mul, Nat.add_zero] at c0 c1 c2 c3 c4 c5 c6 c7 c8
        have HS2 := Lib.hid hsv2
        have HBW := Lib.hid hbw
        clear hsv2 hbw
        go_wp2_with (at_builtin; refine app1 w1.heap.size 26 28 (.agg #[.int .i64 0, .int .u64 0, .int .u64 0, .int .u64 0, .int .u64 0, .int .i64 0, .int .i64 0, .int .i64 0, .slice none 0 0]) 9 88 Try.underlying26 infoRe rfl (by decide) wr rfl (.tmp 29) (.tmp 34) rfl HB.out.2.2.size (.slice vad k vcap) k _ (rowV x.op x.st x.lo x.hi x.g (.slice ad2 x.args.len cp2)) rfl rfl HB.out.1 _ rfl rfl rfl ?d1 ?d2 ?d3 ?_)
        case d1 => simp [rowV, Value.oneCell']
        case d2 => have := HNN.out; unfold maxLen; omega
        case d3 => have := HNN.out; omega
        intro g0 cap0 w8 ho8 hk8 hg8
        have hown : ∀ y, (Value.slice vad k vcap).ownBlock = some y → w1.heap.size ≤ y := fun y hy => (own_at HB.out.1 y hy).1
        have hfv : FV w8 S ((copF x k).push x) (xs ++ rowV x.op x.st x.lo x.hi x.g (.slice ad2 x.args.len cp2)) := by
          have ha : Afar S S wr w8 := ⟨hk8.size, fun b hb hlt => ⟨hb, hk8.block b hlt (fun e => by have := hown b e; have := (HS.out b hb).2; have := HO1.out.size; omega)⟩⟩
          exact FV.push (HS2.out.far ha) (HB.out.2.1.far ha)
        rw [copF_push] at hfv
        have hb8 : Below w1.heap.size w1 w8 := ⟨hk8.os.trans HB.out.2.2.os, hk8.tape.trans HB.out.2.2.tape, hk8.output.trans HB.out.2.2.output, Nat.le_trans HB.out.2.2.size hk8.size, fun b hb => (hk8.block b (Nat.lt_of_lt_of_le hb HB.out.2.2.size) (fun e => by have := hown b e; omega)).trans (HB.out.2.2.block b hb)⟩
        have HF8 := Lib.hid (And.intro ho8 (And.intro hfv hb8))
        clear ho8 hk8 hg8 hown hfv hb8
        go_wp2_with fail
        go_roundw
        case rel => exact ⟨k + 1, _, by omega, by go_num, HF8⟩
        case measure => simp [intOf]; omega
      · obtain ⟨q, hq⟩ : ∃ q, q = hn := ⟨_, rfl⟩
        have hkq : k = q := by omega
        subst hkq
        have ki : ¬ (k : Int) < (hn : Int) := by omega
        go_wp2_with fail
        go_ret
        subst hq
        have hsv : SV wr (fun b => S b ∨ w.heap.size ≤ b) (copF x k) (.slice vad k vcap) := by
          have hfv := HB.out.2.1.far (T := fun b => S b ∨ w.heap.size ≤ b) (w' := wr) ⟨Nat.le_refl _, fun b hb _ => ⟨.inl hb, rfl⟩⟩
          have ho := HB.out.1
          have hl := copF_len x k
          rw [← hl] at ho
          have := SV.own (S := fun b => S b ∨ w.heap.size ≤ b) hfv (fun g hg => .inr (by have := (own_at ho g hg).1; have := HO1.out.size; omega)) ho
          rw [hl] at this
          exact this
        exact ⟨⟨_, rfl, _, hsv, (by have h1 := HNN.out; have h2 := HMm.out; have h3 := HLo.out; have h4 := HHi.out; omega)⟩, ⟨a1, HA1.out, HM1.out.below HB.out.2.2⟩, hbw⟩
  · have hld : ¬ (hn : Int) < (m : Int) := by omega
    have HNN : Hid ((m ≤ 67 ∧ ln ≤ m) ∧ m ≤ hn) := Lib.hid (by have := HMm.out; have := HLo.out; have := HK0.out; omega)
    go_wp2_with fail
    clear b0 b1 b2 b3 b4 b5 b6 b7 b8
    go_loopw [6, 7] (fun v i wr => ∃ (k : Nat) (xs : List Value), k ≤ m ∧ i = .int .i64 k ∧ Hid (wr.ownsRow w1.heap.size 28 9 v k xs ∧ FV wr S (copF x k) xs ∧ Below w1.heap.size w1 wr)) (fun _ i _ => m - (intOf i).toNat)
    case atStart => exact ⟨0, [], Nat.zero_le _, rfl, Lib.hid ⟨⟨by simp, .inl ⟨rfl, rfl⟩⟩, rfl, Below.refl _ _⟩⟩
    case round =>
      obtain ⟨k, xs, hk, rfl, HB⟩ := hrel
      have hbw : Only MB w wr := HO1.out.next HB.out.2.2
      obtain ⟨⟨⟨b0, b1, b2⟩, b3, b4, b5⟩, b6, b7, b8⟩ := nine ((HB.out.2.2.block _ (Array.getElem?_eq_some_iff.1 HBox.out).1).trans HBox.out)
      obtain ⟨vad, vcap, rfl⟩ := own_sl HB.out.1
      by_cases hkn : k < m
      · have ki : (k : Int) < (m : Int) := by omega
        have ki0 : (0 : Int) ≤ k := by omega
        have kmb : (k : Int) ≤ 67 := by have := HNN.out; omega
        have hf0n : 0 < f.len := by have := HF1.out; omega
        have hf0 : (0 : Int) < (f.len : Int) := by omega
        obtain ⟨b, i0, ad2, cp2, rfl, hsv2, c0, c1, c2, c3, c4, c5, c6, c7, c8⟩ := kid HSV.out (Afar.only_ne hbw (fun b hb => (HS.out b hb).1)) 0 hf0n
        rw [HXe.out] at hsv2 c0 c1 c2 c3 c4 c5 c6 c7 c8
        rw [Nat.zero_mul, Nat.add_zero] at c0 c1 c2 c3 c4 c5 c6 c7 c8
        have HS2 := Lib.hid hsv2
        have HBW := Lib.hid hbw
        clear hsv2 hbw
        go_wp2_with (at_builtin; refine app1 w1.heap.size 26 28 (.agg #[.int .i64 0, .int .u64 0, .int .u64 0, .int .u64 0, .int .u64 0, .int .i64 0, .int .i64 0, .int .i64 0, .slice none 0 0]) 9 88 Try.underlying26 infoRe rfl (by decide) wr rfl (.tmp 29) (.tmp 34) rfl HB.out.2.2.size (.slice vad k vcap) k _ (rowV x.op x.st x.lo x.hi x.g (.slice ad2 x.args.len cp2)) rfl rfl HB.out.1 _ rfl rfl rfl ?d1 ?d2 ?d3 ?_)
        case d1 => simp [rowV, Value.oneCell']
        case d2 => have := HNN.out; unfold maxLen; omega
        case d3 => have := HNN.out; omega
        intro g0 cap0 w8 ho8 hk8 hg8
        have hown : ∀ y, (Value.slice vad k vcap).ownBlock = some y → w1.heap.size ≤ y := fun y hy => (own_at HB.out.1 y hy).1
        have hfv : FV w8 S ((copF x k).push x) (xs ++ rowV x.op x.st x.lo x.hi x.g (.slice ad2 x.args.len cp2)) := by
          have ha : Afar S S wr w8 := ⟨hk8.size, fun b hb hlt => ⟨hb, hk8.block b hlt (fun e => by have := hown b e; have := (HS.out b hb).2; have := HO1.out.size; omega)⟩⟩
          exact FV.push (HS2.out.far ha) (HB.out.2.1.far ha)
        rw [copF_push] at hfv
        have hb8 : Below w1.heap.size w1 w8 := ⟨hk8.os.trans HB.out.2.2.os, hk8.tape.trans HB.out.2.2.tape, hk8.output.trans HB.out.2.2.output, Nat.le_trans HB.out.2.2.size hk8.size, fun b hb => (hk8.block b (Nat.lt_of_lt_of_le hb HB.out.2.2.size) (fun e => by have := hown b e; omega)).trans (HB.out.2.2.block b hb)⟩
        have HF8 := Lib.hid (And.intro ho8 (And.intro hfv hb8))
        clear ho8 hk8 hg8 hown hfv hb8
        go_wp2_with fail
        go_roundw
        case rel => exact ⟨k + 1, _, by omega, by go_num, HF8⟩
        case measure => simp [intOf]; omega
      · obtain ⟨q, hq⟩ : ∃ q, q = m := ⟨_, rfl⟩
        have hkq : k = q := by omega
        subst hkq
        have ki : ¬ (k : Int) < (m : Int) := by omega
        go_wp2_with fail
        go_ret
        subst hq
        have hsv : SV wr (fun b => S b ∨ w.heap.size ≤ b) (copF x k) (.slice vad k vcap) := by
          have hfv := HB.out.2.1.far (T := fun b => S b ∨ w.heap.size ≤ b) (w' := wr) ⟨Nat.le_refl _, fun b hb _ => ⟨.inl hb, rfl⟩⟩
          have ho := HB.out.1
          have hl := copF_len x k
          rw [← hl] at ho
          have := SV.own (S := fun b => S b ∨ w.heap.size ≤ b) hfv (fun g hg => .inr (by have := (own_at ho g hg).1; have := HO1.out.size; omega)) ho
          rw [hl] at this
          exact this
        exact ⟨⟨_, rfl, _, hsv, (by have h1 := HNN.out; have h2 := HMm.out; have h3 := HLo.out; have h4 := HHi.out; omega)⟩, ⟨a1, HA1.out, HM1.out.below HB.out.2.2⟩, hbw⟩
end Go.Proofs.Ytpfbpgbgedbalaa
/- What the maker keeps; its strings of trees one after the other. -/
set_option linter.unusedVariables false
set_option linter.unusedSimpArgs false
set_option maxRecDepth 100000
set_option maxHeartbeats 8000000
namespace Go.Proofs.Ytpfbpgbgedbalaa
open Go.RowKit

/-- The maker stands: whatever a group gave has the length and the beginning that are known of it. -/
def MInv (X : Nat → FC) (w : World) (MB TB GB n : Nat) (cv : Value) (c : List Int) (left : Int) : Prop := ∃ a T G, (0 ≤ a ∧ a ≤ (c.length : Int)) ∧ MS w MB TB GB n cv a left T G ∧ (∀ i, (T i).size ≤ 100000) ∧ ∀ i, i < n → G i = true → Fit (X i) (T i).data.toList
theorem MInv.keep {X : Nat → FC} {w w' : World} {MB TB GB n : Nat} {cv : Value} {c : List Int} {left : Int} {S : Nat → Prop} (h : MInv X w MB TB GB n cv c left) (hb : Keep S w w') (h1 : ¬ S MB) (h2 : ¬ S TB) (h3 : ¬ S GB) : MInv X w' MB TB GB n cv c left := by
  obtain ⟨a, T, G, k1, k2, k3⟩ := h
  exact ⟨a, T, G, k1, k2.keep hb h1 h2 h3, k3⟩
theorem MInv.below {X : Nat → FC} {w w' : World} {MB TB GB n : Nat} {cv : Value} {c : List Int} {left : Int} (h : MInv X w MB TB GB n cv c left) (hb : Below w.heap.size w w') : MInv X w' MB TB GB n cv c left := h.keep (Keep.of_below (S := fun _ => False) hb) id id id
/-- What a call of the maker leaves; R: what is true of its string. -/
def MkQ (X : Nat → FC) (MB TB GB n : Nat) (cv : Value) (c : List Int) (left : Int) (w : World) (R : List UInt8 → Prop) (s : ByteArray) (ok : Bool) (w' : World) : Prop := s.size ≤ 100000 ∧ ∃ left', MInv X w' MB TB GB n cv c left' ∧ Keep (K3 MB TB GB) w w' ∧ left' ≤ left ∧ (ok = true → 0 ≤ left' ∧ (s.size : Int) + 100 * left' ≤ 100 * left ∧ R s.data.toList)
/-- A tree's blocks, apart from the maker's. -/
def Apt (MB TB GB : Nat) (S : Nat → Prop) (w : World) : Prop := ∀ b, S b → ¬ K3 MB TB GB b ∧ b < w.heap.size
theorem K3.afar {MB TB GB : Nat} {S : Nat → Prop} {w w0 w' : World} (h : Keep (K3 MB TB GB) w w') (hS : Apt MB TB GB S w0) : Afar S S w w' := ⟨h.size, fun b h1 h2 => ⟨h1, h.block b h2 (hS b h1).1⟩⟩
theorem Apt.more {MB TB GB : Nat} {S : Nat → Prop} {w w' : World} (h : Apt MB TB GB S w) (hs : w.heap.size ≤ w'.heap.size) : Apt MB TB GB S w' := fun b hb => ⟨(h b hb).1, Nat.lt_of_lt_of_le (h b hb).2 hs⟩
theorem Keep.k3 {MB TB GB : Nat} {a b c : World} (h : Keep (K3 MB TB GB) a b) (k : Keep (K3 MB TB GB) b c) : Keep (K3 MB TB GB) a c := h.trans k fun _ _ e => e
/-- Each set of a tree has a byte. -/
def setF : F → Prop
  | .nil => True
  | .cons o s _ _ _ a r => (o = 2 → ∃ x, x < 256 ∧ s x = true) ∧ setF a ∧ setF r
theorem setF_nth : ∀ (f : F) (k : Nat), k < f.len → setF f → ((f.nth k).op = 2 → ∃ x, x < 256 ∧ (f.nth k).st x = true) ∧ setF (f.nth k).args
  | .nil, _, h, _ => by cases h
  | .cons o s l h g a r, 0, _, hc => ⟨hc.1, hc.2.1⟩
  | .cons o s l h g a r, k + 1, hk, hc => setF_nth r k (by have : k + 1 < r.len + 1 := hk; omega) hc.2.2
theorem setF_of : ∀ (f : F) (c d : List Bool), vF f c = some d → setF f
  | .nil, _, _, _ => trivial
  | .cons o s l hh g a r, c, d, h => by
    rw [vF] at h
    by_cases hok : okN o s l hh g a.len c = true
    case neg => rw [if_neg hok] at h; cases h
    rw [if_pos hok] at h
    have hp := okN_parts hok
    cases hva : vF a (if o = 6 then c ++ [false] else c) with
    | none => rw [hva] at h; cases h
    | some e =>
      rw [hva] at h
      refine ⟨fun o2 => ?_, setF_of a _ _ hva, setF_of r _ _ h⟩
      subst o2
      have h1 := hp.1
      unfold fldT at h1
      simp only [Bool.and_eq_true] at h1
      have h2 : eqc s noSet = false := by have := h1.2.1; simpa using this
      refine Decidable.byContradiction fun hn => ?_
      have h3 : eqc s noSet = true := (eqc_iff s noSet).2 fun x hx => by
        cases hsx : s x
        · rfl
        · exact (hn ⟨x, hx, hsx⟩).elim
      rw [h2] at h3
      cases h3
theorem facS_ok (n : Nat) (X : Nat → FC) (hX : ∀ k, FOk (X k)) : ∀ f : F, preK n f → ∀ y, y ∈ facS X f → FOk y
  | .nil, _, y, hy => by cases hy
  | .cons o s l h g a r, hp, y, hy => by
    obtain ⟨p1, p2, p3, p4, p5, p6⟩ := hp
    rcases List.mem_cons.1 hy with rfl | hy
    · split
      · exact hX _
      · exact facR_ok _ _ (facS_ok n X hX a p5) p3
    · exact facS_ok n X hX r p6 y hy
/-- What make may count on at a node. -/
structure NdM (X : Nat → FC) (n : Nat) (o : Int) (st : Nat → Bool) (l h g : Int) (f : F) : Prop where
  nd : NdK n o l h g f
  con : con X f
  own : o = 6 → X (g - 1).toNat = (facS X f).headD FC0
  set : o = 2 → ∃ x, x < 256 ∧ st x = true
  sets : setF f
theorem NdM.nth {X : Nat → FC} {n : Nat} {f : F} (hk : preK n f) (hc : Go.Proofs.Ytpfbpgbgedbalaa.con X f) (hs : setF f) (k : Nat) (h : k < f.len) : NdM X n (f.nth k).op (f.nth k).st (f.nth k).lo (f.nth k).hi (f.nth k).g (f.nth k).args :=
  ⟨NdK_nth n f k h hk, (con_nth X f k h hc).2, (con_nth X f k h hc).1, (setF_nth f k h hs).1, (setF_nth f k h hs).2⟩
def MkOk (X : Nat → FC) (n : Nat) (B : Nat) (c : List Int) (f : F) : Prop := ∀ (o l h g : Int) (st : Nat → Bool) (sv : Value) (w : World) (S : Nat → Prop) (MB TB GB : Nat) (cv : Value) (left : Int), SV w S f sv → Apt MB TB GB S w → (B ≤ MB ∧ B ≤ TB ∧ B ≤ GB) → CH w B cv c → MInv X w MB TB GB n cv c left → 0 ≤ left ∧ left ≤ 600 → NdM X n o st l h g f →
  Calls Try.prog 17 #[.pointer (some ⟨MB, 0, none⟩), .agg #[.int .i64 o, .int .u64 (wd st 0 64 : Nat), .int .u64 (wd st 64 64 : Nat), .int .u64 (wd st 128 64 : Nat), .int .u64 (wd st 192 64 : Nat), .int .i64 l, .int .i64 h, .int .i64 g, sv]] w fun e w' => ∃ s ok, e = .returned (.tuple #[.string s, .bool ok]) ∧ MkQ X MB TB GB n cv c left w (Fit (facSN X ⟨o, st, l, h, g, f⟩)) s ok w'
theorem all_any (X : Nat → FC) (n B : Nat) (c : List Int) (f : F) (hch : ∀ i, i < f.len → MkOk X n B c (f.nth i).args) (hnd : ∀ i, i < f.len → NdM X n (f.nth i).op (f.nth i).st (f.nth i).lo (f.nth i).hi (f.nth i).g (f.nth i).args) (h6 : f.len ≤ 600)
    (sv : Value) (w : World) (S : Nat → Prop) (MB TB GB : Nat) (cv : Value) (left : Int) (hsv : SV w S f sv) (hS : Apt MB TB GB S w) (hB : B ≤ MB ∧ B ≤ TB ∧ B ≤ GB) (hc : CH w B cv c) (hm : MInv X w MB TB GB n cv c left) (hl : 0 ≤ left ∧ left ≤ 600)
    (P : Nat → List UInt8 → Prop) (P0 : P 0 []) (PS : ∀ k u s, k < f.len → P k u → Fit (facSN X (f.nth k)) s → (u ++ s).length ≤ 2147483647 → P (k + 1) (u ++ s)) :
    Calls Try.prog 46 #[.pointer (some ⟨MB, 0, none⟩), sv] w fun e w' => ∃ s ok, e = .returned (.tuple #[.string s, .bool ok]) ∧ MkQ X MB TB GB n cv c left w (P f.len) s ok w' := by
  have HSV := Lib.hid hsv
  have HCh := Lib.hid hch
  have HNd := Lib.hid hnd
  have HS := Lib.hid hS
  have HBb := Lib.hid hB
  have HC := Lib.hid hc
  have HM := Lib.hid hm
  have HL := Lib.hid hl
  have HP0 := Lib.hid P0
  have HPS := Lib.hid PS
  obtain ⟨ad, cap, rfl⟩ := slice_form hsv
  have hfl : (f.len : Int) ≤ 600 := by omega
  clear hsv hch hnd hS hB hc hm hl P0 PS h6
  go_enter Try.func46, Try.ntmps46
  go_wp2_with fail
  go_loopw [6, 7] (fun v i wr => ∃ (k : Nat) (u : ByteArray) (lf : Int), k ≤ f.len ∧ i = .int .i64 k ∧ v = .string u ∧ Hid (MInv X wr MB TB GB n cv c lf ∧ Keep (K3 MB TB GB) w wr ∧ (0 ≤ lf ∧ lf ≤ left) ∧ (u.size : Int) + 100 * lf ≤ 100 * left ∧ P k u.data.toList)) (fun _ i _ => f.len - (intOf i).toNat)
  case atStart => exact ⟨0, _, left, Nat.zero_le _, rfl, rfl, Lib.hid ⟨HM.out, Keep.refl _ _, ⟨HL.out.1, Int.le_refl _⟩, (by show ((0 : Nat) : Int) + 100 * left ≤ 100 * left; omega), HP0.out⟩⟩
  case round =>
    obtain ⟨k, u, lf, hk, rfl, rfl, HB⟩ := hrel
    have husz : u.size ≤ 60000 := by have := HB.out.2.2.2.1; have := HB.out.2.2.1; have := HL.out; omega
    have HUs := Lib.hid husz
    by_cases hkn : k < f.len
    · have ki : (k : Int) < f.len := by omega
      have ki0 : (0 : Int) ≤ k := by omega
      obtain ⟨b, i0, ad2, cp2, rfl, hsv2, c0, c1, c2, c3, c4, c5, c6, c7, c8⟩ := kid HSV.out (K3.afar HB.out.2.1 HS.out) k hkn
      have HS2 := Lib.hid hsv2
      have HL2 := Lib.hid (HCh.out k hkn (f.nth k).op (f.nth k).lo (f.nth k).hi (f.nth k).g (f.nth k).st (.slice ad2 (f.nth k).args.len cp2) wr S MB TB GB cv lf hsv2 (HS.out.more HB.out.2.1.size) HBb.out (HC.out.keep HB.out.2.1 (fun b hb => by rcases hb with rfl | rfl | rfl <;> (have := HBb.out; omega))) HB.out.1 ⟨HB.out.2.2.1.1, by have := HB.out.2.2.1; have := HL.out; omega⟩ (HNd.out k hkn))
      clear hsv2
      by_cases hbig : 1000 < u.size
      · have hbi : (1000 : Int) < (u.size : Int) := by omega
        have hbd : decide ((1000 : Int) < (u.size : Int)) = true := decide_eq_true hbi
        clear husz
        go_wp2_with (first
          | (go_at_call 17; (with_reducible refine HL2.out.mono ?_); rintro e w2 ⟨s, ok, rfl, hq⟩
             have HQ := Lib.hid hq
             clear c0 c1 c2 c3 c4 c5 c6 c7 c8 hq
             cases ok))
        all_goals
          (go_ret2
           obtain ⟨q1, l2, q2, q3, q4, q5⟩ := HQ.out
           exact ⟨_, false, rfl, by show (0 : Nat) ≤ 100000; omega, l2, q2, HB.out.2.1.k3 q3, by have := HB.out.2.2.1; omega, fun e => by cases e⟩)
      · have hbi : ¬ (1000 : Int) < (u.size : Int) := by omega
        have hbd : decide ((1000 : Int) < (u.size : Int)) = false := decide_eq_false hbi
        have hbn : u.size ≤ 1000 := by omega
        go_wp2_with (first
          | (go_at_call 17; (with_reducible refine HL2.out.mono ?_); rintro e w2 ⟨s, ok, rfl, hq⟩
             have HQ := Lib.hid hq
             have hss : s.size ≤ 100000 := hq.1
             clear c0 c1 c2 c3 c4 c5 c6 c7 c8 hq husz
             cases ok))
        · go_ret2
          obtain ⟨q1, l2, q2, q3, q4, q5⟩ := HQ.out
          exact ⟨_, false, rfl, by show (0 : Nat) ≤ 100000; omega, l2, q2, HB.out.2.1.k3 q3, by have := HB.out.2.2.1; omega, fun e => by cases e⟩
        · go_roundw
          case rel =>
            obtain ⟨q1, l2, q2, q3, q4, q5⟩ := HQ.out
            obtain ⟨q6, q7, q8⟩ := q5 rfl
            have hz : (u ++ s).size = u.size + s.size := by simp [ByteArray.size_append]
            have hd : (u ++ s).data.toList = u.data.toList ++ s.data.toList := by simp [ByteArray.data_append]
            refine ⟨k + 1, u ++ s, l2, by omega, by go_num, rfl, Lib.hid ⟨q2, HB.out.2.1.k3 q3, ⟨q6, by have := HB.out.2.2.1; omega⟩, by rw [hz]; have := HB.out.2.2.2.1; omega, ?_⟩⟩
            rw [hd]
            refine HPS.out k _ _ hkn HB.out.2.2.2.2 q8 ?_
            rw [← hd]
            show (u ++ s).data.toList.length ≤ _
            have : (u ++ s).data.toList.length = (u ++ s).size := Array.length_toList
            rw [this, hz]
            have := HUs.out
            omega
          case measure => simp [intOf]; omega
    · obtain rfl : k = f.len := by omega
      clear husz
      go_wp2_with fail
      go_ret2
      exact ⟨u, true, rfl, by have := HUs.out; omega, lf, HB.out.1, HB.out.2.1, HB.out.2.2.1.2, fun _ => ⟨HB.out.2.2.1.1, HB.out.2.2.2.1, HB.out.2.2.2.2⟩⟩
end Go.Proofs.Ytpfbpgbgedbalaa
/- The maker's make. -/
set_option linter.unusedVariables false
set_option linter.unusedSimpArgs false
set_option maxRecDepth 100000
set_option maxHeartbeats 8000000
namespace Go.Proofs.Ytpfbpgbgedbalaa
open Go.RowKit

theorem mk_out (X : Nat → FC) (n B : Nat) (c : List Int) (f : F) (V : FC) (hX : ∀ k, FOk (X k)) (hch : ∀ i, i < f.len → MkOk X n B c (f.nth i).args) (o l h g : Int) (st : Nat → Bool) (sv : Value) (w : World) (S : Nat → Prop) (MB TB GB : Nat) (cv : Value) (left : Int) (hsv : SV w S f sv) (hS : Apt MB TB GB S w) (hB : B ≤ MB ∧ B ≤ TB ∧ B ≤ GB) (hc : CH w B cv c) (hm : MInv X w MB TB GB n cv c left) (hl : left = 0) (h6 : f.len ≤ 600) (hpk : preK n f) (hcon : con X f) (hset : setF f) :
    Calls Try.prog 17 #[.pointer (some ⟨MB, 0, none⟩), .agg #[.int .i64 o, .int .u64 (wd st 0 64 : Nat), .int .u64 (wd st 64 64 : Nat), .int .u64 (wd st 128 64 : Nat), .int .u64 (wd st 192 64 : Nat), .int .i64 l, .int .i64 h, .int .i64 g, sv]] w fun e w' => ∃ s ok, e = .returned (.tuple #[.string s, .bool ok]) ∧ MkQ X MB TB GB n cv c left w (Fit (V)) s ok w' := by
  subst hl
  have HSV := Lib.hid hsv
  have HCh := Lib.hid hch
  have HS := Lib.hid hS
  have HBb := Lib.hid hB
  have HC := Lib.hid hc
  have HPk := Lib.hid hpk
  have HCon := Lib.hid hcon
  have HSet := Lib.hid hset
  have HX0 := Lib.hid hX
  have HFl := Lib.hid h6
  obtain ⟨ad, cap, rfl⟩ := slice_form hsv
  obtain ⟨W2, hW2⟩ : ∃ W2, W2 = w.alloc (.cells #[.int .i64 o, .int .u64 (wd st 0 64 : Nat), .int .u64 (wd st 64 64 : Nat), .int .u64 (wd st 128 64 : Nat), .int .u64 (wd st 192 64 : Nat), .int .i64 l, .int .i64 h, .int .i64 g, .slice ad f.len cap] 28) := ⟨_, rfl⟩
  have hx : Below w.heap.size w W2 := by rw [hW2]; exact (Below.refl _ _).alloc (Nat.le_refl _) _
  have hz2 : W2.heap.size = w.heap.size + 1 := by rw [hW2]; simp
  have hg0 : W2.heap[w.heap.size]? = some (.cells #[.int .i64 o, .int .u64 (wd st 0 64 : Nat), .int .u64 (wd st 64 64 : Nat), .int .u64 (wd st 128 64 : Nat), .int .u64 (wd st 192 64 : Nat), .int .i64 l, .int .i64 h, .int .i64 g, .slice ad f.len cap] 28 (0, 0)) := by
    rw [hW2]
    exact heap_alloc_new w _
  obtain ⟨a, T, G, ha, hms0, htx, hfit⟩ := hm
  have hlt : MB < w.heap.size ∧ TB < w.heap.size ∧ GB < w.heap.size := ⟨hms0.mlt, hms0.lt⟩
  have hms := hms0.below hx
  obtain ⟨⟨d0, d1⟩, d2, d3, d4⟩ := hms.cells
  have f4 := hms.free 4
  have hlw : IntKind.i64.wrap (0 - 1) = -1 := by rw [IntKind.wrap_i64]; omega
  have HX := Lib.hid hx
  have HG0 := Lib.hid hg0
  have HZ := Lib.hid hz2
  have HW2 := Lib.hid hW2
  have HLt := Lib.hid hlt
  have HMs := Lib.hid hms
  have HA := Lib.hid ha
  have HTx := Lib.hid htx
  have HFit := Lib.hid hfit
  clear hsv hch hS hB hc hx hz2 hg0 hW2 hlt hms hms0 ha htx hfit hpk hcon hset hX h6
  go_enter Try.func17, Try.ntmps17
  go_upto_region 1 with fail
  rw [← HW2.out]
  go_wp2_with fail
  go_ret2
  refine ⟨_, false, rfl, by show (0 : Nat) ≤ 100000; omega, -1, ⟨a, T, G, HA.out, HMs.out.left (-1), HTx.out, HFit.out⟩, (Keep.of_below HX.out).k3 (K3.of_only ((Only.refl _ _).put 4 _)), by omega, fun e => (by cases e)⟩
theorem el_pos {p : Nat → Bool} (h : ∃ x, x < 256 ∧ p x = true) : 0 < (el p 256).length := by
  obtain ⟨x, hx, hp⟩ := h
  exact List.length_pos_of_mem ((mem_el p 256 x).2 ⟨hx, hp⟩)
theorem sl_one {l : List UInt8} {k : Nat} (hk : k < l.length) : ((⟨l.toArray⟩ : ByteArray).extract k (k + 1)).data.toList = [l[k]] := by
  rw [ByteArray.data_extract, Array.toList_extract]
  simp only [List.extract_eq_take_drop, Nat.add_sub_cancel_left]
  rw [List.drop_eq_getElem_cons hk]
  rfl
theorem next_inv {X : Nat → FC} {n B : Nat} {c : List Int} {MB TB GB : Nat} {cv : Value} {lf : Int} {w : World} (h : MInv X w MB TB GB n cv c lf) (hc : CH w B cv c) (hB : B ≤ MB) (m : Nat) (hm : 1 ≤ m ∧ m ≤ 1000000) :
    Calls Try.prog 45 #[.pointer (some ⟨MB, 0, none⟩), .int .i64 m] w fun e w' => (∃ k : Nat, e = .returned (.int .i64 k) ∧ k < m) ∧ MInv X w' MB TB GB n cv c lf ∧ Only MB w w' := by
  obtain ⟨a, T, G, ha, hms, htx, hfit⟩ := h
  refine (next_any w MB TB GB n B cv a lf T G c m hms hc hB ha hm).mono ?_
  rintro e w' ⟨h1, ⟨a', h2, h3⟩, h4⟩
  exact ⟨h1, ⟨a', T, G, h2, h3, htx, hfit⟩, h4⟩
theorem mk_2 (X : Nat → FC) (n B : Nat) (c : List Int) (f : F) (hX : ∀ k, FOk (X k)) (hch : ∀ i, i < f.len → MkOk X n B c (f.nth i).args) (l h g : Int) (st : Nat → Bool) (sv : Value) (w : World) (S : Nat → Prop) (MB TB GB : Nat) (cv : Value) (left : Int) (hsv : SV w S f sv) (hS : Apt MB TB GB S w) (hB : B ≤ MB ∧ B ≤ TB ∧ B ≤ GB) (hc : CH w B cv c) (hm : MInv X w MB TB GB n cv c left) (hl : 1 ≤ left ∧ left ≤ 600) (h6 : f.len ≤ 600) (hpk : preK n f) (hcon : con X f) (hset : setF f) (hs2 : ∃ x, x < 256 ∧ st x = true) :
    Calls Try.prog 17 #[.pointer (some ⟨MB, 0, none⟩), .agg #[.int .i64 2, .int .u64 (wd st 0 64 : Nat), .int .u64 (wd st 64 64 : Nat), .int .u64 (wd st 128 64 : Nat), .int .u64 (wd st 192 64 : Nat), .int .i64 l, .int .i64 h, .int .i64 g, sv]] w fun e w' => ∃ s ok, e = .returned (.tuple #[.string s, .bool ok]) ∧ MkQ X MB TB GB n cv c left w (Fit (⟨false, 1, 1, st⟩)) s ok w' := by
  have HSV := Lib.hid hsv
  have HCh := Lib.hid hch
  have HS := Lib.hid hS
  have HBb := Lib.hid hB
  have HC := Lib.hid hc
  have HL := Lib.hid hl
  have HPk := Lib.hid hpk
  have HCon := Lib.hid hcon
  have HSet := Lib.hid hset
  have HX0 := Lib.hid hX
  have HFl := Lib.hid h6
  obtain ⟨ad, cap, rfl⟩ := slice_form hsv
  obtain ⟨W2, hW2⟩ : ∃ W2, W2 = w.alloc (.cells #[.int .i64 2, .int .u64 (wd st 0 64 : Nat), .int .u64 (wd st 64 64 : Nat), .int .u64 (wd st 128 64 : Nat), .int .u64 (wd st 192 64 : Nat), .int .i64 l, .int .i64 h, .int .i64 g, .slice ad f.len cap] 28) := ⟨_, rfl⟩
  have hx : Below w.heap.size w W2 := by rw [hW2]; exact (Below.refl _ _).alloc (Nat.le_refl _) _
  have hz2 : W2.heap.size = w.heap.size + 1 := by rw [hW2]; simp
  have hg0 : W2.heap[w.heap.size]? = some (.cells #[.int .i64 2, .int .u64 (wd st 0 64 : Nat), .int .u64 (wd st 64 64 : Nat), .int .u64 (wd st 128 64 : Nat), .int .u64 (wd st 192 64 : Nat), .int .i64 l, .int .i64 h, .int .i64 g, .slice ad f.len cap] 28 (0, 0)) := by
    rw [hW2]
    exact heap_alloc_new w _
  obtain ⟨a, T, G, ha, hms0, htx, hfit⟩ := hm
  have hlt : MB < w.heap.size ∧ TB < w.heap.size ∧ GB < w.heap.size := ⟨hms0.mlt, hms0.lt⟩
  have hms := hms0.below hx
  obtain ⟨⟨d0, d1⟩, d2, d3, d4⟩ := hms.cells
  have f4 := hms.free 4
  have hlw : IntKind.i64.wrap (left - 1) = left - 1 := by rw [IntKind.wrap_i64]; omega
  have HX := Lib.hid hx
  have HG0 := Lib.hid hg0
  have HZ := Lib.hid hz2
  have HW2 := Lib.hid hW2
  have HLt := Lib.hid hlt
  have HMs := Lib.hid hms
  have HA := Lib.hid ha
  have HTx := Lib.hid htx
  have HFit := Lib.hid hfit
  clear hsv hch hS hB hc hx hz2 hg0 hW2 hlt hms hms0 ha htx hfit hpk hcon hset hX h6
  have hpos := el_pos hs2
  have hle := el_length_le st 256
  have hLi := fun W => Lst.rlist_any st W
  have hsz : (⟨(bl (el st 256)).toArray⟩ : ByteArray).size = (el st 256).length := by
    show (bl (el st 256)).toArray.size = _
    rw [List.size_toArray, bl_length]
  have hone : ∀ k, k < (el st 256).length → ((⟨(bl (el st 256)).toArray⟩ : ByteArray).extract k (k + 1)).data.toList.length = 1 ∧ Fit ⟨false, 1, 1, st⟩ ((⟨(bl (el st 256)).toArray⟩ : ByteArray).extract k (k + 1)).data.toList := fun k hk => by
    have hk2 : k < (bl (el st 256)).length := by rw [bl_length]; exact hk
    rw [sl_one hk2]
    refine ⟨rfl, Fit.set ?_⟩
    have h1 : (bl (el st 256))[k] = UInt8.ofNat (el st 256)[k] := by simp [bl]
    have h2 := (mem_el st 256 _).1 (List.getElem_mem hk)
    rw [h1]
    have h3 : (UInt8.ofNat (el st 256)[k]).toNat = (el st 256)[k] := by simp [UInt8.toNat_ofNat]; omega
    rw [h3]
    exact h2.2
  unfold cs cl at hLi
  generalize (⟨(bl (el st 256)).toArray⟩ : ByteArray) = sL at *
  generalize (el st 256).length = m at *
  have HLi := Lib.hid hLi
  have HOne := Lib.hid hone
  have HPos := Lib.hid (And.intro hpos hle)
  clear hLi hone hpos hle hs2
  go_enter Try.func17, Try.ntmps17
  go_upto_region 1 with fail
  rw [← HW2.out]
  have hl1 : ¬ left - 1 < 0 := by omega
  have hl2 : decide (left - 1 < 0) = false := decide_eq_false hl1
  go_upto_region 4 with fail
  have hm3 := HMs.out.left (left - 1)
  have ho3 : Only MB W2 (W2.setCell ⟨MB, 4, none⟩ (.int .i64 (left - 1))) := (Only.refl _ _).put 4 _
  clear d0 d1 d2 d3 d4 f4 hlw hl1 hl2
  generalize W2.setCell ⟨MB, 4, none⟩ (.int .i64 (left - 1)) = W3 at *
  have HM3 : Hid (MInv X W3 MB TB GB n cv c (left - 1)) := Lib.hid ⟨a, T, G, HA.out, hm3, HTx.out, HFit.out⟩
  have HMs3 := Lib.hid hm3
  have HK3 : Hid (Keep (K3 MB TB GB) w W3) := Lib.hid ((Keep.of_below HX.out).k3 (K3.of_only ho3))
  have HBox : Hid (W3.heap[w.heap.size]? = some (.cells #[.int .i64 2, .int .u64 (wd st 0 64 : Nat), .int .u64 (wd st 64 64 : Nat), .int .u64 (wd st 128 64 : Nat), .int .u64 (wd st 192 64 : Nat), .int .i64 l, .int .i64 h, .int .i64 g, .slice ad f.len cap] 28 (0, 0))) := Lib.hid ((ho3.block _ (by have := HZ.out; omega) (by have := HLt.out; omega)).trans HG0.out)
  have HC3 : Hid (CH W3 B cv c) := Lib.hid (HC.out.keep HK3.out (fun b hb => by rcases hb with rfl | rfl | rfl <;> (have := HBb.out; omega)))
  have HL3 : Hid (0 ≤ left - 1 ∧ left - 1 ≤ 600) := Lib.hid (by omega)
  have HSV3 : Hid (SV W3 S f (.slice ad f.len cap)) := Lib.hid (HSV.out.far (K3.afar HK3.out HS.out))
  have HS3 : Hid (Apt MB TB GB S W3) := Lib.hid (HS.out.more HK3.out.size)
  obtain ⟨⟨⟨b0, b1, b2⟩, b3, b4, b5⟩, b6, b7, b8⟩ := nine HBox.out
  clear hm3 ho3
  have hsz2 : sL.size = m := hsz
  have hmi : (m : Int) ≤ 256 := by have := HPos.out; omega
  go_upto_region 8 with (first
    | (go_at_call 44; (with_reducible refine (HLi.out _).mono ?_); rintro e w4 ⟨rfl, hb⟩
       have HB4 := Lib.hid hb
       have HNx := Lib.hid (next_inv (HM3.out.below hb) (HC3.out.keep (Keep.of_below (S := fun _ => False) hb) (fun _ e => e.elim)) HBb.out.1 m (by have := HPos.out; omega))
       clear b0 b1 b2 b3 b4 b5 b6 b7 b8 hb)
    | (go_at_call 45; (with_reducible refine HNx.out.mono ?_); rintro e w5 ⟨⟨k, rfl, hk⟩, hi5, ho5⟩
       have HK5 := Lib.hid hk
       have HI5 := Lib.hid hi5
       have HO5 := Lib.hid ho5
       clear hi5 ho5))
  have hki : (k : Int) < (m : Int) := by omega
  have hk0 : (0 : Int) ≤ (k : Int) := by omega
  have hkw : IntKind.i64.wrap ((k : Int) + 1) = ((k + 1 : Nat) : Int) := by rw [IntKind.wrap_i64]; omega
  have hks : (k : Int) + 1 ≤ (sL.size : Int) := by omega
  have hks0 : (k : Int) < (sL.size : Int) := by omega
  have hksn : k + 1 ≤ sL.size := by omega
  go_wp2_with fail
  go_ret2
  obtain ⟨o1, o2⟩ := HOne.out k HK5.out
  have hss : (sL.extract k (k + 1)).size = 1 := Array.length_toList.symm.trans o1
  exact ⟨_, true, rfl, by rw [hss]; omega, left - 1, HI5.out, (HK3.out.k3 (Keep.of_below HB4.out)).k3 (K3.of_only HO5.out), by omega, fun _ => ⟨by omega, by rw [hss]; omega, o2⟩⟩
theorem mk_3 (X : Nat → FC) (n B : Nat) (c : List Int) (f : F) (hX : ∀ k, FOk (X k)) (hch : ∀ i, i < f.len → MkOk X n B c (f.nth i).args) (l h g : Int) (st : Nat → Bool) (sv : Value) (w : World) (S : Nat → Prop) (MB TB GB : Nat) (cv : Value) (left : Int) (hsv : SV w S f sv) (hS : Apt MB TB GB S w) (hB : B ≤ MB ∧ B ≤ TB ∧ B ≤ GB) (hc : CH w B cv c) (hm : MInv X w MB TB GB n cv c left) (hl : 1 ≤ left ∧ left ≤ 600) (h6 : f.len ≤ 600) (hpk : preK n f) (hcon : con X f) (hset : setF f) :
    Calls Try.prog 17 #[.pointer (some ⟨MB, 0, none⟩), .agg #[.int .i64 3, .int .u64 (wd st 0 64 : Nat), .int .u64 (wd st 64 64 : Nat), .int .u64 (wd st 128 64 : Nat), .int .u64 (wd st 192 64 : Nat), .int .i64 l, .int .i64 h, .int .i64 g, sv]] w fun e w' => ∃ s ok, e = .returned (.tuple #[.string s, .bool ok]) ∧ MkQ X MB TB GB n cv c left w (Fit ((facS X f).foldl catS FC1)) s ok w' := by
  have HSV := Lib.hid hsv
  have HCh := Lib.hid hch
  have HS := Lib.hid hS
  have HBb := Lib.hid hB
  have HC := Lib.hid hc
  have HL := Lib.hid hl
  have HPk := Lib.hid hpk
  have HCon := Lib.hid hcon
  have HSet := Lib.hid hset
  have HX0 := Lib.hid hX
  have HFl := Lib.hid h6
  obtain ⟨ad, cap, rfl⟩ := slice_form hsv
  obtain ⟨W2, hW2⟩ : ∃ W2, W2 = w.alloc (.cells #[.int .i64 3, .int .u64 (wd st 0 64 : Nat), .int .u64 (wd st 64 64 : Nat), .int .u64 (wd st 128 64 : Nat), .int .u64 (wd st 192 64 : Nat), .int .i64 l, .int .i64 h, .int .i64 g, .slice ad f.len cap] 28) := ⟨_, rfl⟩
  have hx : Below w.heap.size w W2 := by rw [hW2]; exact (Below.refl _ _).alloc (Nat.le_refl _) _
  have hz2 : W2.heap.size = w.heap.size + 1 := by rw [hW2]; simp
  have hg0 : W2.heap[w.heap.size]? = some (.cells #[.int .i64 3, .int .u64 (wd st 0 64 : Nat), .int .u64 (wd st 64 64 : Nat), .int .u64 (wd st 128 64 : Nat), .int .u64 (wd st 192 64 : Nat), .int .i64 l, .int .i64 h, .int .i64 g, .slice ad f.len cap] 28 (0, 0)) := by
    rw [hW2]
    exact heap_alloc_new w _
  obtain ⟨a, T, G, ha, hms0, htx, hfit⟩ := hm
  have hlt : MB < w.heap.size ∧ TB < w.heap.size ∧ GB < w.heap.size := ⟨hms0.mlt, hms0.lt⟩
  have hms := hms0.below hx
  obtain ⟨⟨d0, d1⟩, d2, d3, d4⟩ := hms.cells
  have f4 := hms.free 4
  have hlw : IntKind.i64.wrap (left - 1) = left - 1 := by rw [IntKind.wrap_i64]; omega
  have HX := Lib.hid hx
  have HG0 := Lib.hid hg0
  have HZ := Lib.hid hz2
  have HW2 := Lib.hid hW2
  have HLt := Lib.hid hlt
  have HMs := Lib.hid hms
  have HA := Lib.hid ha
  have HTx := Lib.hid htx
  have HFit := Lib.hid hfit
  clear hsv hch hS hB hc hx hz2 hg0 hW2 hlt hms hms0 ha htx hfit hpk hcon hset hX h6
  go_enter Try.func17, Try.ntmps17
  go_upto_region 1 with fail
  rw [← HW2.out]
  have hl1 : ¬ left - 1 < 0 := by omega
  have hl2 : decide (left - 1 < 0) = false := decide_eq_false hl1
  go_upto_region 4 with fail
  have hm3 := HMs.out.left (left - 1)
  have ho3 : Only MB W2 (W2.setCell ⟨MB, 4, none⟩ (.int .i64 (left - 1))) := (Only.refl _ _).put 4 _
  clear d0 d1 d2 d3 d4 f4 hlw hl1 hl2
  generalize W2.setCell ⟨MB, 4, none⟩ (.int .i64 (left - 1)) = W3 at *
  have HM3 : Hid (MInv X W3 MB TB GB n cv c (left - 1)) := Lib.hid ⟨a, T, G, HA.out, hm3, HTx.out, HFit.out⟩
  have HMs3 := Lib.hid hm3
  have HK3 : Hid (Keep (K3 MB TB GB) w W3) := Lib.hid ((Keep.of_below HX.out).k3 (K3.of_only ho3))
  have HBox : Hid (W3.heap[w.heap.size]? = some (.cells #[.int .i64 3, .int .u64 (wd st 0 64 : Nat), .int .u64 (wd st 64 64 : Nat), .int .u64 (wd st 128 64 : Nat), .int .u64 (wd st 192 64 : Nat), .int .i64 l, .int .i64 h, .int .i64 g, .slice ad f.len cap] 28 (0, 0))) := Lib.hid ((ho3.block _ (by have := HZ.out; omega) (by have := HLt.out; omega)).trans HG0.out)
  have HC3 : Hid (CH W3 B cv c) := Lib.hid (HC.out.keep HK3.out (fun b hb => by rcases hb with rfl | rfl | rfl <;> (have := HBb.out; omega)))
  have HL3 : Hid (0 ≤ left - 1 ∧ left - 1 ≤ 600) := Lib.hid (by omega)
  have HSV3 : Hid (SV W3 S f (.slice ad f.len cap)) := Lib.hid (HSV.out.far (K3.afar HK3.out HS.out))
  have HS3 : Hid (Apt MB TB GB S W3) := Lib.hid (HS.out.more HK3.out.size)
  obtain ⟨⟨⟨b0, b1, b2⟩, b3, b4, b5⟩, b6, b7, b8⟩ := nine HBox.out
  clear hm3 ho3
  have hln := facS_len X f
  have HAll := Lib.hid (all_any X n B c f HCh.out (fun i hi => NdM.nth HPk.out HCon.out HSet.out i hi) HFl.out (.slice ad f.len cap) W3 S MB TB GB cv (left - 1) HSV3.out HS3.out HBb.out HC3.out HM3.out HL3.out (fun k u => Fit (catK (facS X f) k) u) Fit.fc1 (fun k u s hk hu hs hl => by
    rw [catK_step (facS X f) k (by omega)]
    have := facS_nth X f k hk
    rw [List.getElem?_eq_getElem (by omega)] at this
    rw [Option.some.inj this]
    exact hu.cat hs hl))
  clear hln
  go_wp2_with (first
    | (go_at_call 46; (with_reducible refine HAll.out.mono ?_); rintro e w4 ⟨s, ok, rfl, hq⟩
       have HQ := Lib.hid hq
       clear b0 b1 b2 b3 b4 b5 b6 b7 b8 hq))
  go_ret2
  obtain ⟨q1, l2, q2, q3, q4, q5⟩ := HQ.out
  refine ⟨s, ok, rfl, q1, l2, q2, HK3.out.k3 q3, by omega, fun e => ?_⟩
  obtain ⟨q6, q7, q8⟩ := q5 e
  have e2 : catK (facS X f) f.len = (facS X f).foldl catS FC1 := by unfold catK; rw [← facS_len X f, List.take_length]
  have q9 : Fit ((facS X f).foldl catS FC1) s.data.toList := by rw [← e2]; exact q8
  exact ⟨q6, by omega, q9⟩
theorem kidS {w : World} {S : Nat → Prop} {f : F} {ad : Option Addr} {cap : Nat} (h : SV w S f (.slice ad f.len cap)) (k : Nat) (hk : k < f.len) :
    ∃ b i0 ad2 cp2, ad = some ⟨b, i0, none⟩ ∧ S b ∧ b < w.heap.size ∧ SV w S (f.nth k).args (.slice ad2 (f.nth k).args.len cp2) ∧ ∀ j u, (rowV (f.nth k).op (f.nth k).st (f.nth k).lo (f.nth k).hi (f.nth k).g (.slice ad2 (f.nth k).args.len cp2))[j]? = some u → w.cell? ⟨b, i0 + k * 9 + j, none⟩ = some u := by
  obtain ⟨zs, ad', cap', e, _, hfv, hcells⟩ := h
  cases e
  obtain ⟨b, i0, rfl, hb1, hb2, hce⟩ : ∃ b i, ad = some ⟨b, i, none⟩ ∧ S b ∧ b < w.heap.size ∧ ∀ j u, zs[j]? = some u → w.cell? ⟨b, i + j, none⟩ = some u := by
    rcases hcells with h0 | h0
    · omega
    · exact h0
  obtain ⟨sv2, hsv2, hrow⟩ := FV.nth k hfv hk
  obtain ⟨ad2, cp2, rfl⟩ := slice_form hsv2
  exact ⟨b, i0, ad2, cp2, rfl, hb1, hb2, hsv2, fun j u hu => by
    rw [Nat.add_assoc]
    exact hce _ u (hrow j u hu)⟩
theorem mk_4 (X : Nat → FC) (n B : Nat) (c : List Int) (f : F) (hX : ∀ k, FOk (X k)) (hch : ∀ i, i < f.len → MkOk X n B c (f.nth i).args) (l h g : Int) (st : Nat → Bool) (sv : Value) (w : World) (S : Nat → Prop) (MB TB GB : Nat) (cv : Value) (left : Int) (hsv : SV w S f sv) (hS : Apt MB TB GB S w) (hB : B ≤ MB ∧ B ≤ TB ∧ B ≤ GB) (hc : CH w B cv c) (hm : MInv X w MB TB GB n cv c left) (hl : 1 ≤ left ∧ left ≤ 600) (h6 : f.len ≤ 600) (hpk : preK n f) (hcon : con X f) (hset : setF f) (h2 : 2 ≤ f.len) :
    Calls Try.prog 17 #[.pointer (some ⟨MB, 0, none⟩), .agg #[.int .i64 4, .int .u64 (wd st 0 64 : Nat), .int .u64 (wd st 64 64 : Nat), .int .u64 (wd st 128 64 : Nat), .int .u64 (wd st 192 64 : Nat), .int .i64 l, .int .i64 h, .int .i64 g, sv]] w fun e w' => ∃ s ok, e = .returned (.tuple #[.string s, .bool ok]) ∧ MkQ X MB TB GB n cv c left w (Fit (altL (facS X f))) s ok w' := by
  have HSV := Lib.hid hsv
  have HCh := Lib.hid hch
  have HS := Lib.hid hS
  have HBb := Lib.hid hB
  have HC := Lib.hid hc
  have HL := Lib.hid hl
  have HPk := Lib.hid hpk
  have HCon := Lib.hid hcon
  have HSet := Lib.hid hset
  have HX0 := Lib.hid hX
  have HFl := Lib.hid h6
  obtain ⟨ad, cap, rfl⟩ := slice_form hsv
  obtain ⟨W2, hW2⟩ : ∃ W2, W2 = w.alloc (.cells #[.int .i64 4, .int .u64 (wd st 0 64 : Nat), .int .u64 (wd st 64 64 : Nat), .int .u64 (wd st 128 64 : Nat), .int .u64 (wd st 192 64 : Nat), .int .i64 l, .int .i64 h, .int .i64 g, .slice ad f.len cap] 28) := ⟨_, rfl⟩
  have hx : Below w.heap.size w W2 := by rw [hW2]; exact (Below.refl _ _).alloc (Nat.le_refl _) _
  have hz2 : W2.heap.size = w.heap.size + 1 := by rw [hW2]; simp
  have hg0 : W2.heap[w.heap.size]? = some (.cells #[.int .i64 4, .int .u64 (wd st 0 64 : Nat), .int .u64 (wd st 64 64 : Nat), .int .u64 (wd st 128 64 : Nat), .int .u64 (wd st 192 64 : Nat), .int .i64 l, .int .i64 h, .int .i64 g, .slice ad f.len cap] 28 (0, 0)) := by
    rw [hW2]
    exact heap_alloc_new w _
  obtain ⟨a, T, G, ha, hms0, htx, hfit⟩ := hm
  have hlt : MB < w.heap.size ∧ TB < w.heap.size ∧ GB < w.heap.size := ⟨hms0.mlt, hms0.lt⟩
  have hms := hms0.below hx
  obtain ⟨⟨d0, d1⟩, d2, d3, d4⟩ := hms.cells
  have f4 := hms.free 4
  have hlw : IntKind.i64.wrap (left - 1) = left - 1 := by rw [IntKind.wrap_i64]; omega
  have HX := Lib.hid hx
  have HG0 := Lib.hid hg0
  have HZ := Lib.hid hz2
  have HW2 := Lib.hid hW2
  have HLt := Lib.hid hlt
  have HMs := Lib.hid hms
  have HA := Lib.hid ha
  have HTx := Lib.hid htx
  have HFit := Lib.hid hfit
  clear hsv hch hS hB hc hx hz2 hg0 hW2 hlt hms hms0 ha htx hfit hpk hcon hset hX h6
  go_enter Try.func17, Try.ntmps17
  go_upto_region 1 with fail
  rw [← HW2.out]
  have hl1 : ¬ left - 1 < 0 := by omega
  have hl2 : decide (left - 1 < 0) = false := decide_eq_false hl1
  go_upto_region 4 with fail
  have hm3 := HMs.out.left (left - 1)
  have ho3 : Only MB W2 (W2.setCell ⟨MB, 4, none⟩ (.int .i64 (left - 1))) := (Only.refl _ _).put 4 _
  clear d0 d1 d2 d3 d4 f4 hlw hl1 hl2
  generalize W2.setCell ⟨MB, 4, none⟩ (.int .i64 (left - 1)) = W3 at *
  have HM3 : Hid (MInv X W3 MB TB GB n cv c (left - 1)) := Lib.hid ⟨a, T, G, HA.out, hm3, HTx.out, HFit.out⟩
  have HMs3 := Lib.hid hm3
  have HK3 : Hid (Keep (K3 MB TB GB) w W3) := Lib.hid ((Keep.of_below HX.out).k3 (K3.of_only ho3))
  have HBox : Hid (W3.heap[w.heap.size]? = some (.cells #[.int .i64 4, .int .u64 (wd st 0 64 : Nat), .int .u64 (wd st 64 64 : Nat), .int .u64 (wd st 128 64 : Nat), .int .u64 (wd st 192 64 : Nat), .int .i64 l, .int .i64 h, .int .i64 g, .slice ad f.len cap] 28 (0, 0))) := Lib.hid ((ho3.block _ (by have := HZ.out; omega) (by have := HLt.out; omega)).trans HG0.out)
  have HC3 : Hid (CH W3 B cv c) := Lib.hid (HC.out.keep HK3.out (fun b hb => by rcases hb with rfl | rfl | rfl <;> (have := HBb.out; omega)))
  have HL3 : Hid (0 ≤ left - 1 ∧ left - 1 ≤ 600) := Lib.hid (by omega)
  have HSV3 : Hid (SV W3 S f (.slice ad f.len cap)) := Lib.hid (HSV.out.far (K3.afar HK3.out HS.out))
  have HS3 : Hid (Apt MB TB GB S W3) := Lib.hid (HS.out.more HK3.out.size)
  obtain ⟨⟨⟨b0, b1, b2⟩, b3, b4, b5⟩, b6, b7, b8⟩ := nine HBox.out
  clear hm3 ho3
  have HNb : Hid (¬ K3 MB TB GB w.heap.size) := Lib.hid fun e => by rcases e with e | e | e <;> (have := HLt.out; omega)
  have HB8 := Lib.hid b8
  have HNx := Lib.hid (next_inv (HM3.out.below (Below.refl _ _).drew) (HC3.out.keep (Keep.of_below (S := fun _ => False) (Below.refl _ _).drew) (fun _ e => e.elim)) HBb.out.1 f.len (by have := HFl.out; omega))
  have hfi : (f.len : Int) ≤ 600 := by have := HFl.out; omega
  go_upto_region 12 with fail
  clear b0 b1 b2 b3 b4 b5 b6 b7 b8
  refine wp_region_held_drew (S := Keep (K3 MB TB GB) W3) (by kernel_rfl) ?_ (fun hHeld => ?_)
  · exact (Keep.refl _ _).drew
  refine wpAnyH_take (i := 0) (v := ?av0) rfl (by kernel_rfl) (by kernel_rfl) (by kernel_rfl) (fun _ _ _ h => h) (Or.inl ⟨by rfl, ?ay0⟩) (by assumption) ?ar0
  case ay0 =>
    intro wx hSw
    clear hSw
    go_simp
    first | done | (with_reducible rfl)
  (try simp only [Act.put, List.getElem_toArray, List.getElem_cons_zero, List.setIfInBounds_toArray, List.set_cons_zero, List.set_cons_succ])
  refine wpAnyH_take (i := 1) (v := ?av1) rfl (by kernel_rfl) (by kernel_rfl) (by kernel_rfl) (fun _ _ _ h => h) (Or.inl ⟨by rfl, ?ay1⟩) (by assumption) ?ar1
  case ay1 =>
    intro wx hSw
    clear hSw
    go_simp
    first | done | (with_reducible rfl)
  (try simp only [Act.put, List.getElem_toArray, List.getElem_cons_succ, List.getElem_cons_zero, List.setIfInBounds_toArray, List.set_cons_zero, List.set_cons_succ])
  refine wpAnyH_take (i := 2) (v := ?av2) rfl (by kernel_rfl) (by kernel_rfl) (by kernel_rfl) (fun _ _ _ h => h) (Or.inl ⟨by rfl, ?ay2⟩) (by assumption) ?ar2
  case ay2 =>
    intro wx hSw
    have hb8 := (cell_same (hSw.block w.heap.size (Array.getElem?_eq_some_iff.1 HBox.out).1 HNb.out)).trans HB8.out
    clear hSw
    go_simp
    first | done | (with_reducible rfl)
  (try simp only [Act.put, List.getElem_toArray, List.getElem_cons_succ, List.getElem_cons_zero, List.setIfInBounds_toArray, List.set_cons_zero, List.set_cons_succ])
  refine wpAnyH_take (i := 3) (v := ?av3) rfl (by kernel_rfl) (by kernel_rfl) (by kernel_rfl) (fun _ _ _ h => h) (Or.inl ⟨by rfl, ?ay3⟩) (by assumption) ?ar3
  case ay3 =>
    intro wx hSw
    clear hSw
    go_simp
    first | done | (with_reducible rfl)
  (try simp only [Act.put, List.getElem_toArray, List.getElem_cons_succ, List.getElem_cons_zero, List.setIfInBounds_toArray, List.set_cons_zero, List.set_cons_succ])
  refine wpAnyH_take (i := 4) (v := ?av4) rfl (by kernel_rfl) (by kernel_rfl) (by kernel_rfl) (fun _ _ _ h => h) (Or.inl ⟨by rfl, ?ay4⟩) (by assumption) ?ar4
  case ay4 =>
    intro wx hSw
    clear hSw
    go_simp
    first | done | (with_reducible rfl)
  (try simp only [Act.put, List.getElem_toArray, List.getElem_cons_succ, List.getElem_cons_zero, List.setIfInBounds_toArray, List.set_cons_zero, List.set_cons_succ])
  refine wpAnyH_take (i := 5) (v := ?av5) rfl (by kernel_rfl) (by kernel_rfl) (by kernel_rfl) (fun _ _ _ h => h) (Or.inl ⟨by rfl, ?ay5⟩) (by assumption) ?ar5
  case ay5 =>
    intro wx hSw
    have hb8 := (cell_same (hSw.block w.heap.size (Array.getElem?_eq_some_iff.1 HBox.out).1 HNb.out)).trans HB8.out
    clear hSw
    go_simp
    first | done | (with_reducible rfl)
  (try simp only [Act.put, List.getElem_toArray, List.getElem_cons_succ, List.getElem_cons_zero, List.setIfInBounds_toArray, List.set_cons_zero, List.set_cons_succ])
  refine wpAnyH_take (i := 6) (v := ?av6) rfl (by kernel_rfl) (by kernel_rfl) (by kernel_rfl) (fun _ _ _ h => h) (Or.inl ⟨by rfl, ?ay6⟩) (by assumption) ?ar6
  case ay6 =>
    intro wx hSw
    clear hSw
    go_simp
    first | done | (with_reducible rfl)
  (try simp only [Act.put, List.getElem_toArray, List.getElem_cons_succ, List.getElem_cons_zero, List.setIfInBounds_toArray, List.set_cons_zero, List.set_cons_succ])
  refine wpAnyH_ready (rs := [7]) (by kernel_rfl) (by simp) ?_
  refine AllReadyH.cons rfl (fun K hK => ?_) AllReadyH.nil
  go_simp
  go_at_call 45
  refine HNx.out.mono ?_
  rintro e w4 ⟨⟨k, rfl, hk⟩, hi4, ho4⟩
  refine hK.out _ _ ?_ (fun hHeld1 => ?_)
  · exact (Keep.refl (K3 MB TB GB) W3).drew.k3 (K3.of_only ho4)
  clear hK K
  (try simp only [Act.put, List.getElem_toArray, List.getElem_cons_succ, List.getElem_cons_zero, List.setIfInBounds_toArray, List.set_cons_zero, List.set_cons_succ])
  have hki : (k : Int) < (f.len : Int) := by omega
  have hk0 : (0 : Int) ≤ (k : Int) := by omega
  obtain ⟨b, i0, ad2, cp2, rfl, hb1, hb2, hsv2, hcs⟩ := kidS HSV3.out k hk
  have HKid : Hid (∀ wx, Keep (K3 MB TB GB) W3 wx → wx.cell? ⟨b, i0 + k * 9, none⟩ = some (.int .i64 (f.nth k).op) ∧ wx.cell? ⟨b, i0 + k * 9 + 1, none⟩ = some (.int .u64 (wd (f.nth k).st 0 64 : Nat)) ∧ wx.cell? ⟨b, i0 + k * 9 + 2, none⟩ = some (.int .u64 (wd (f.nth k).st 64 64 : Nat)) ∧ wx.cell? ⟨b, i0 + k * 9 + 3, none⟩ = some (.int .u64 (wd (f.nth k).st 128 64 : Nat)) ∧ wx.cell? ⟨b, i0 + k * 9 + 4, none⟩ = some (.int .u64 (wd (f.nth k).st 192 64 : Nat)) ∧ wx.cell? ⟨b, i0 + k * 9 + 5, none⟩ = some (.int .i64 (f.nth k).lo) ∧ wx.cell? ⟨b, i0 + k * 9 + 6, none⟩ = some (.int .i64 (f.nth k).hi) ∧ wx.cell? ⟨b, i0 + k * 9 + 7, none⟩ = some (.int .i64 (f.nth k).g) ∧ wx.cell? ⟨b, i0 + k * 9 + 8, none⟩ = some (.slice ad2 (f.nth k).args.len cp2)) := Lib.hid fun wx hb => by
    have e : ∀ j, wx.cell? ⟨b, j, none⟩ = W3.cell? ⟨b, j, none⟩ := fun j => cell_same (hb.block b hb2 (HS3.out b hb1).1)
    exact ⟨(e _).trans (hcs 0 _ rfl), (e _).trans (hcs 1 _ rfl), (e _).trans (hcs 2 _ rfl), (e _).trans (hcs 3 _ rfl), (e _).trans (hcs 4 _ rfl), (e _).trans (hcs 5 _ rfl), (e _).trans (hcs 6 _ rfl), (e _).trans (hcs 7 _ rfl), (e _).trans (hcs 8 _ rfl)⟩
  have HKk := Lib.hid hk
  have HHeld := Lib.hid hHeld1
  have HMk := Lib.hid (HCh.out k hk (f.nth k).op (f.nth k).lo (f.nth k).hi (f.nth k).g (f.nth k).st (.slice ad2 (f.nth k).args.len cp2) w4 S MB TB GB cv (left - 1) (hsv2.far (K3.afar hHeld1 HS3.out)) (HS3.out.more hHeld1.size) HBb.out (HC3.out.keep hHeld1 (fun b hb => by rcases hb with rfl | rfl | rfl <;> (have := HBb.out; omega))) hi4 HL3.out (NdM.nth HPk.out HCon.out HSet.out k hk))
  clear hsv2 hcs hb1 hb2 hi4 ho4
  refine wpAnyH_take (i := 8) (v := ?bv8) rfl (by kernel_rfl) (by kernel_rfl) (by kernel_rfl) (fun _ _ _ h => h) (Or.inl ⟨by rfl, ?by8⟩) (by assumption) ?br8
  case by8 =>
    intro wx hSw
    clear hSw
    go_simp
    first | done | (with_reducible rfl)
  (try simp only [Act.put, List.getElem_toArray, List.getElem_cons_succ, List.getElem_cons_zero, List.setIfInBounds_toArray, List.set_cons_zero, List.set_cons_succ])
  refine wpAnyH_take (i := 9) (v := ?bv9) rfl (by kernel_rfl) (by kernel_rfl) (by kernel_rfl) (fun _ _ _ h => h) (Or.inl ⟨by rfl, ?by9⟩) (by assumption) ?br9
  case by9 =>
    intro wx hSw
    have ⟨c0, c1, c2, c3, c4, c5, c6, c7, c8⟩ := HKid.out _ hSw
    clear hSw
    go_simp
    first | done | (with_reducible rfl)
  (try simp only [Act.put, List.getElem_toArray, List.getElem_cons_succ, List.getElem_cons_zero, List.setIfInBounds_toArray, List.set_cons_zero, List.set_cons_succ])
  refine wpAnyH_ready (rs := [10]) (by kernel_rfl) (by simp) ?_
  refine AllReadyH.cons rfl (fun K hK => ?_) AllReadyH.nil
  go_simp
  go_at_call 17
  refine HMk.out.mono ?_
  rintro e w5 ⟨s, ok, rfl, hq⟩
  have HQ := Lib.hid hq
  obtain ⟨_, l2, _, hk5, _⟩ := hq
  refine hK.out _ _ ?_ (fun hHeld2 => ?_)
  · exact HHeld.out.k3 hk5
  clear hK K
  (try simp only [Act.put, List.getElem_toArray, List.getElem_cons_succ, List.getElem_cons_zero, List.setIfInBounds_toArray, List.set_cons_zero, List.set_cons_succ])
  refine wpAnyH_take (i := 11) (v := ?cv11) rfl (by kernel_rfl) (by kernel_rfl) (by kernel_rfl) (fun _ _ _ h => h) (Or.inl ⟨by rfl, ?cy11⟩) (by assumption) ?cr11
  case cy11 =>
    intro wx hSw
    clear hSw
    go_simp
    first | done | (with_reducible rfl)
  (try simp only [Act.put, List.getElem_toArray, List.getElem_cons_succ, List.getElem_cons_zero, List.setIfInBounds_toArray, List.set_cons_zero, List.set_cons_succ])
  refine wpAnyH_take (i := 12) (v := ?cv12) rfl (by kernel_rfl) (by kernel_rfl) (by kernel_rfl) (fun _ _ _ h => h) (Or.inl ⟨by rfl, ?cy12⟩) (by assumption) ?cr12
  case cy12 =>
    intro wx hSw
    clear hSw
    go_simp
    first | done | (with_reducible rfl)
  (try simp only [Act.put, List.getElem_toArray, List.getElem_cons_succ, List.getElem_cons_zero, List.setIfInBounds_toArray, List.set_cons_zero, List.set_cons_succ])
  refine wpAnyH_take (i := 13) (v := ?cv13) rfl (by kernel_rfl) (by kernel_rfl) (by kernel_rfl) (fun _ _ _ h => h) (Or.inl ⟨by rfl, ?cy13⟩) (by assumption) ?cr13
  case cy13 =>
    intro wx hSw
    clear hSw
    go_simp
    first | done | (with_reducible rfl)
  (try simp only [Act.put, List.getElem_toArray, List.getElem_cons_succ, List.getElem_cons_zero, List.setIfInBounds_toArray, List.set_cons_zero, List.set_cons_succ])
  refine wpAnyH_take (i := 14) (v := ?cv14) rfl (by kernel_rfl) (by kernel_rfl) (by kernel_rfl) (fun _ _ _ h => h) (Or.inl ⟨by rfl, ?cy14⟩) (by assumption) ?cr14
  case cy14 =>
    intro wx hSw
    clear hSw
    go_simp
    first | done | (with_reducible rfl)
  (try simp only [Act.put, List.getElem_toArray, List.getElem_cons_succ, List.getElem_cons_zero, List.setIfInBounds_toArray, List.set_cons_zero, List.set_cons_succ])
  refine wpAnyH_done (by kernel_rfl) ?_ _
  have HH2 := Lib.hid hHeld2
  clear hHeld hHeld1 hHeld2
  go_wp2_with fail
  go_ret2
  obtain ⟨q1, l3, q2, q3, q4, q5⟩ := HQ.out
  refine ⟨s, ok, rfl, q1, l3, q2, HK3.out.k3 HH2.out, by omega, fun e => ?_⟩
  obtain ⟨q6, q7, q8⟩ := q5 e
  exact ⟨q6, by omega, Fit.alt (List.mem_of_getElem? (facS_nth X f k HKk.out)) q8⟩
theorem mk_5 (X : Nat → FC) (n B : Nat) (c : List Int) (f : F) (hX : ∀ k, FOk (X k)) (hch : ∀ i, i < f.len → MkOk X n B c (f.nth i).args) (l h g : Int) (st : Nat → Bool) (sv : Value) (w : World) (S : Nat → Prop) (MB TB GB : Nat) (cv : Value) (left : Int) (hsv : SV w S f sv) (hS : Apt MB TB GB S w) (hB : B ≤ MB ∧ B ≤ TB ∧ B ≤ GB) (hc : CH w B cv c) (hm : MInv X w MB TB GB n cv c left) (hl : 1 ≤ left ∧ left ≤ 600) (h6 : f.len ≤ 600) (hpk : preK n f) (hcon : con X f) (hset : setF f) (h1 : f.len = 1) (hlo : 0 ≤ l ∧ l ≤ 64) (hhi : h = -1 ∨ (l ≤ h ∧ h ≤ 64)) :
    Calls Try.prog 17 #[.pointer (some ⟨MB, 0, none⟩), .agg #[.int .i64 5, .int .u64 (wd st 0 64 : Nat), .int .u64 (wd st 64 64 : Nat), .int .u64 (wd st 128 64 : Nat), .int .u64 (wd st 192 64 : Nat), .int .i64 l, .int .i64 h, .int .i64 g, sv]] w fun e w' => ∃ s ok, e = .returned (.tuple #[.string s, .bool ok]) ∧ MkQ X MB TB GB n cv c left w (Fit (repS l h ((facS X f).headD FC0))) s ok w' := by
  have HSV := Lib.hid hsv
  have HCh := Lib.hid hch
  have HS := Lib.hid hS
  have HBb := Lib.hid hB
  have HC := Lib.hid hc
  have HL := Lib.hid hl
  have HPk := Lib.hid hpk
  have HCon := Lib.hid hcon
  have HSet := Lib.hid hset
  have HX0 := Lib.hid hX
  have HFl := Lib.hid h6
  obtain ⟨ad, cap, rfl⟩ := slice_form hsv
  obtain ⟨W2, hW2⟩ : ∃ W2, W2 = w.alloc (.cells #[.int .i64 5, .int .u64 (wd st 0 64 : Nat), .int .u64 (wd st 64 64 : Nat), .int .u64 (wd st 128 64 : Nat), .int .u64 (wd st 192 64 : Nat), .int .i64 l, .int .i64 h, .int .i64 g, .slice ad f.len cap] 28) := ⟨_, rfl⟩
  have hx : Below w.heap.size w W2 := by rw [hW2]; exact (Below.refl _ _).alloc (Nat.le_refl _) _
  have hz2 : W2.heap.size = w.heap.size + 1 := by rw [hW2]; simp
  have hg0 : W2.heap[w.heap.size]? = some (.cells #[.int .i64 5, .int .u64 (wd st 0 64 : Nat), .int .u64 (wd st 64 64 : Nat), .int .u64 (wd st 128 64 : Nat), .int .u64 (wd st 192 64 : Nat), .int .i64 l, .int .i64 h, .int .i64 g, .slice ad f.len cap] 28 (0, 0)) := by
    rw [hW2]
    exact heap_alloc_new w _
  obtain ⟨a, T, G, ha, hms0, htx, hfit⟩ := hm
  have hlt : MB < w.heap.size ∧ TB < w.heap.size ∧ GB < w.heap.size := ⟨hms0.mlt, hms0.lt⟩
  have hms := hms0.below hx
  obtain ⟨⟨d0, d1⟩, d2, d3, d4⟩ := hms.cells
  have f4 := hms.free 4
  have hlw : IntKind.i64.wrap (left - 1) = left - 1 := by rw [IntKind.wrap_i64]; omega
  have HX := Lib.hid hx
  have HG0 := Lib.hid hg0
  have HZ := Lib.hid hz2
  have HW2 := Lib.hid hW2
  have HLt := Lib.hid hlt
  have HMs := Lib.hid hms
  have HA := Lib.hid ha
  have HTx := Lib.hid htx
  have HFit := Lib.hid hfit
  clear hsv hch hS hB hc hx hz2 hg0 hW2 hlt hms hms0 ha htx hfit hpk hcon hset hX h6
  have HF1 := Lib.hid h1
  have HLo := Lib.hid hlo
  have HHi := Lib.hid hhi
  clear h1 hlo hhi
  have hnd0 := NdM.nth HPk.out HCon.out HSet.out 0 (by have := HF1.out; omega)
  have hmk0 := HCh.out 0 (by have := HF1.out; omega)
  have hfs0 : (facS X f).headD FC0 = facSN X (f.nth 0) := by
    have e1 := facS_nth X f 0 (by have := HF1.out; omega)
    cases hq : facS X f with
    | nil => rw [hq] at e1; cases e1
    | cons y r => rw [hq] at e1; exact Option.some.inj e1
  have hok0 : FOk (facSN X (f.nth 0)) := facS_ok n X HX0.out f HPk.out _ (List.mem_of_getElem? (facS_nth X f 0 (by have := HF1.out; omega)))
  rw [hfs0]
  clear hfs0
  obtain ⟨x, hxe⟩ : ∃ x, f.nth 0 = x := ⟨_, rfl⟩
  rw [hxe] at hnd0 hmk0 hok0 ⊢
  have HXe := Lib.hid hxe
  clear hxe
  have HNd0 := Lib.hid hnd0
  have HMk0 := Lib.hid hmk0
  have HOk0 := Lib.hid hok0
  clear hnd0 hmk0 hok0
  go_enter Try.func17, Try.ntmps17
  go_upto_region 1 with fail
  rw [← HW2.out]
  have hl1 : ¬ left - 1 < 0 := by omega
  have hl2 : decide (left - 1 < 0) = false := decide_eq_false hl1
  go_upto_region 4 with fail
  have hm3 := HMs.out.left (left - 1)
  have ho3 : Only MB W2 (W2.setCell ⟨MB, 4, none⟩ (.int .i64 (left - 1))) := (Only.refl _ _).put 4 _
  clear d0 d1 d2 d3 d4 f4 hlw hl1 hl2
  generalize W2.setCell ⟨MB, 4, none⟩ (.int .i64 (left - 1)) = W3 at *
  have HM3 : Hid (MInv X W3 MB TB GB n cv c (left - 1)) := Lib.hid ⟨a, T, G, HA.out, hm3, HTx.out, HFit.out⟩
  have HMs3 := Lib.hid hm3
  have HK3 : Hid (Keep (K3 MB TB GB) w W3) := Lib.hid ((Keep.of_below HX.out).k3 (K3.of_only ho3))
  have HBox : Hid (W3.heap[w.heap.size]? = some (.cells #[.int .i64 5, .int .u64 (wd st 0 64 : Nat), .int .u64 (wd st 64 64 : Nat), .int .u64 (wd st 128 64 : Nat), .int .u64 (wd st 192 64 : Nat), .int .i64 l, .int .i64 h, .int .i64 g, .slice ad f.len cap] 28 (0, 0))) := Lib.hid ((ho3.block _ (by have := HZ.out; omega) (by have := HLt.out; omega)).trans HG0.out)
  have HC3 : Hid (CH W3 B cv c) := Lib.hid (HC.out.keep HK3.out (fun b hb => by rcases hb with rfl | rfl | rfl <;> (have := HBb.out; omega)))
  have HL3 : Hid (0 ≤ left - 1 ∧ left - 1 ≤ 600) := Lib.hid (by omega)
  have HSV3 : Hid (SV W3 S f (.slice ad f.len cap)) := Lib.hid (HSV.out.far (K3.afar HK3.out HS.out))
  have HS3 : Hid (Apt MB TB GB S W3) := Lib.hid (HS.out.more HK3.out.size)
  obtain ⟨⟨⟨b0, b1, b2⟩, b3, b4, b5⟩, b6, b7, b8⟩ := nine HBox.out
  clear hm3 ho3
  have HTm : Hid (Calls Try.prog 47 #[.pointer (some ⟨MB, 0, none⟩), .agg #[.int .i64 5, .int .u64 (wd st 0 64 : Nat), .int .u64 (wd st 64 64 : Nat), .int .u64 (wd st 128 64 : Nat), .int .u64 (wd st 192 64 : Nat), .int .i64 l, .int .i64 h, .int .i64 g, .slice ad f.len cap]] W3 fun e w' => (∃ (v : Value) (k : Nat), e = .returned v ∧ SV w' (fun b => S b ∨ W3.heap.size ≤ b) (copF x k) v ∧ (l ≤ (k : Int) ∧ k ≤ 67) ∧ (h < 0 ∨ (k : Int) ≤ h)) ∧ MInv X w' MB TB GB n cv c (left - 1) ∧ Only MB W3 w') := by
    rw [← HXe.out]
    obtain ⟨a9, T9, G9, ha9, hm9, ht9, hf9⟩ := HM3.out
    refine Lib.hid ((times_any W3 MB TB GB n B cv a9 (left - 1) T9 G9 c hm9 HC3.out HBb.out.1 ha9 f l h g st (.slice ad f.len cap) S HSV3.out HF1.out HLo.out HHi.out (fun b hb => ⟨fun e => (HS3.out b hb).1 (.inl e), (HS3.out b hb).2⟩)).mono ?_)
    rintro e w' ⟨q1, ⟨a', q2, q3⟩, q4⟩
    exact ⟨q1, ⟨a', T9, G9, q2, q3, ht9, hf9⟩, q4⟩
  go_wp2_with (first
    | (go_at_call 47; (with_reducible refine HTm.out.mono ?_); rintro e w4 ⟨⟨v, k, rfl, hsv4, hkl, hkh⟩, hi4, ho4⟩
       have hk4 : Keep (K3 MB TB GB) W3 w4 := K3.of_only ho4
       have hcl := copF_len x k
       have HAll := Lib.hid (all_any X n B c (copF x k) (fun i hi => by rw [copF_nth x k i (by omega)]; exact HMk0.out) (fun i hi => by rw [copF_nth x k i (by omega)]; exact HNd0.out) (by omega) v w4 (fun b => (S b ∨ W3.heap.size ≤ b) ∧ b < w4.heap.size) MB TB GB cv (left - 1) (hsv4.far ⟨Nat.le_refl _, fun b h1 h2 => ⟨⟨h1, h2⟩, rfl⟩⟩) (fun b hb => by
         refine ⟨?_, hb.2⟩
         rcases hb.1 with hb | hb
         · exact (HS3.out b hb).1
         · intro e
           have h1 := HLt.out
           have h2 := HK3.out.size
           rcases e with e | e | e <;> omega) HBb.out (HC3.out.keep hk4 (fun b hb => by rcases hb with rfl | rfl | rfl <;> (have := HBb.out; omega))) hi4 HL3.out (fun j u => Rept (facSN X x) j u) (Rept.zero _) (fun j u s hj hu hs _ => by rw [copF_nth x k j (by omega)] at hs; exact hu.step hs))
       have HK4 := Lib.hid hk4
       have HKl := Lib.hid (And.intro hkl hkh)
       obtain ⟨vad, vcap, rfl⟩ := slice_form hsv4
       rw [hcl] at HAll ⊢
       clear hsv4 hkl hkh hi4 ho4 hk4 hcl b0 b1 b2 b3 b4 b5 b6 b7 b8)
    | (go_at_call 46; (with_reducible refine HAll.out.mono ?_); rintro e w5 ⟨s, ok, rfl, hq⟩
       have HQ := Lib.hid hq
       clear hq))
  go_ret2
  obtain ⟨q1, l3, q2, q3, q4, q5⟩ := HQ.out
  refine ⟨s, ok, rfl, q1, l3, q2, (HK3.out.k3 HK4.out).k3 q3, by omega, fun e => ?_⟩
  obtain ⟨q6, q7, q8⟩ := q5 e
  have e9 : s.data.toList.length = s.size := Array.length_toList
  exact ⟨q6, by omega, q8.fit HOk0.out HLo.out.1 HKl.out.1.1 HKl.out.2 (by omega)⟩
end Go.Proofs.Ytpfbpgbgedbalaa
/- The maker's make: groups, references, every tree. -/
set_option linter.unusedVariables false
set_option linter.unusedSimpArgs false
set_option maxRecDepth 100000
set_option maxHeartbeats 8000000
namespace Go.Proofs.Ytpfbpgbgedbalaa
open Go.RowKit

theorem mk_6 (X : Nat → FC) (n B : Nat) (c : List Int) (f : F) (hX : ∀ k, FOk (X k)) (hch : ∀ i, i < f.len → MkOk X n B c (f.nth i).args) (l h : Int) (ig : Nat) (st : Nat → Bool) (sv : Value) (w : World) (S : Nat → Prop) (MB TB GB : Nat) (cv : Value) (left : Int) (hsv : SV w S f sv) (hS : Apt MB TB GB S w) (hB : B ≤ MB ∧ B ≤ TB ∧ B ≤ GB) (hc : CH w B cv c) (hm : MInv X w MB TB GB n cv c left) (hl : 1 ≤ left ∧ left ≤ 600) (h6 : f.len ≤ 600) (hpk : preK n f) (hcon : con X f) (hset : setF f) (h1 : f.len = 1) (hin : ig < n) (hn6 : n ≤ 600) (hown : X ig = (facS X f).headD FC0) :
    Calls Try.prog 17 #[.pointer (some ⟨MB, 0, none⟩), .agg #[.int .i64 6, .int .u64 (wd st 0 64 : Nat), .int .u64 (wd st 64 64 : Nat), .int .u64 (wd st 128 64 : Nat), .int .u64 (wd st 192 64 : Nat), .int .i64 l, .int .i64 h, .int .i64 ((ig : Int) + 1), sv]] w fun e w' => ∃ s ok, e = .returned (.tuple #[.string s, .bool ok]) ∧ MkQ X MB TB GB n cv c left w (Fit ((facS X f).headD FC0)) s ok w' := by
  have HSV := Lib.hid hsv
  have HCh := Lib.hid hch
  have HS := Lib.hid hS
  have HBb := Lib.hid hB
  have HC := Lib.hid hc
  have HL := Lib.hid hl
  have HPk := Lib.hid hpk
  have HCon := Lib.hid hcon
  have HSet := Lib.hid hset
  have HX0 := Lib.hid hX
  have HFl := Lib.hid h6
  obtain ⟨ad, cap, rfl⟩ := slice_form hsv
  obtain ⟨W2, hW2⟩ : ∃ W2, W2 = w.alloc (.cells #[.int .i64 6, .int .u64 (wd st 0 64 : Nat), .int .u64 (wd st 64 64 : Nat), .int .u64 (wd st 128 64 : Nat), .int .u64 (wd st 192 64 : Nat), .int .i64 l, .int .i64 h, .int .i64 ((ig : Int) + 1), .slice ad f.len cap] 28) := ⟨_, rfl⟩
  have hx : Below w.heap.size w W2 := by rw [hW2]; exact (Below.refl _ _).alloc (Nat.le_refl _) _
  have hz2 : W2.heap.size = w.heap.size + 1 := by rw [hW2]; simp
  have hg0 : W2.heap[w.heap.size]? = some (.cells #[.int .i64 6, .int .u64 (wd st 0 64 : Nat), .int .u64 (wd st 64 64 : Nat), .int .u64 (wd st 128 64 : Nat), .int .u64 (wd st 192 64 : Nat), .int .i64 l, .int .i64 h, .int .i64 ((ig : Int) + 1), .slice ad f.len cap] 28 (0, 0)) := by
    rw [hW2]
    exact heap_alloc_new w _
  obtain ⟨a, T, G, ha, hms0, htx, hfit⟩ := hm
  have hlt : MB < w.heap.size ∧ TB < w.heap.size ∧ GB < w.heap.size := ⟨hms0.mlt, hms0.lt⟩
  have hms := hms0.below hx
  obtain ⟨⟨d0, d1⟩, d2, d3, d4⟩ := hms.cells
  have f4 := hms.free 4
  have hlw : IntKind.i64.wrap (left - 1) = left - 1 := by rw [IntKind.wrap_i64]; omega
  have HX := Lib.hid hx
  have HG0 := Lib.hid hg0
  have HZ := Lib.hid hz2
  have HW2 := Lib.hid hW2
  have HLt := Lib.hid hlt
  have HMs := Lib.hid hms
  have HA := Lib.hid ha
  have HTx := Lib.hid htx
  have HFit := Lib.hid hfit
  clear hsv hch hS hB hc hx hz2 hg0 hW2 hlt hms hms0 ha htx hfit hpk hcon hset hX h6
  have hii : (ig : Int) < (n : Int) := by omega
  have hi0 : (0 : Int) ≤ (ig : Int) := by omega
  have hiw : IntKind.i64.wrap ((ig : Int) + 1 - 1) = (ig : Int) := by rw [IntKind.wrap_i64]; omega
  have hiv : IntKind.i64.wrap (ig : Int) = (ig : Int) := by rw [IntKind.wrap_i64]; omega
  have HIn := Lib.hid hin
  clear hin hn6
  have HF1 := Lib.hid h1
  have hfs0 : (facS X f).headD FC0 = facSN X (f.nth 0) := by
    have e1 := facS_nth X f 0 (by omega)
    cases hq : facS X f with
    | nil => rw [hq] at e1; cases e1
    | cons y r => rw [hq] at e1; exact Option.some.inj e1
  rw [hfs0] at hown ⊢
  have HOwn := Lib.hid hown
  clear h1 hfs0 hown
  go_enter Try.func17, Try.ntmps17
  go_upto_region 1 with fail
  rw [← HW2.out]
  have hl1 : ¬ left - 1 < 0 := by omega
  have hl2 : decide (left - 1 < 0) = false := decide_eq_false hl1
  go_upto_region 4 with fail
  have hm3 := HMs.out.left (left - 1)
  have ho3 : Only MB W2 (W2.setCell ⟨MB, 4, none⟩ (.int .i64 (left - 1))) := (Only.refl _ _).put 4 _
  clear d0 d1 d2 d3 d4 f4 hlw hl1 hl2
  generalize W2.setCell ⟨MB, 4, none⟩ (.int .i64 (left - 1)) = W3 at *
  have HM3 : Hid (MInv X W3 MB TB GB n cv c (left - 1)) := Lib.hid ⟨a, T, G, HA.out, hm3, HTx.out, HFit.out⟩
  have HMs3 := Lib.hid hm3
  have HK3 : Hid (Keep (K3 MB TB GB) w W3) := Lib.hid ((Keep.of_below HX.out).k3 (K3.of_only ho3))
  have HBox : Hid (W3.heap[w.heap.size]? = some (.cells #[.int .i64 6, .int .u64 (wd st 0 64 : Nat), .int .u64 (wd st 64 64 : Nat), .int .u64 (wd st 128 64 : Nat), .int .u64 (wd st 192 64 : Nat), .int .i64 l, .int .i64 h, .int .i64 ((ig : Int) + 1), .slice ad f.len cap] 28 (0, 0))) := Lib.hid ((ho3.block _ (by have := HZ.out; omega) (by have := HLt.out; omega)).trans HG0.out)
  have HC3 : Hid (CH W3 B cv c) := Lib.hid (HC.out.keep HK3.out (fun b hb => by rcases hb with rfl | rfl | rfl <;> (have := HBb.out; omega)))
  have HL3 : Hid (0 ≤ left - 1 ∧ left - 1 ≤ 600) := Lib.hid (by omega)
  have HSV3 : Hid (SV W3 S f (.slice ad f.len cap)) := Lib.hid (HSV.out.far (K3.afar HK3.out HS.out))
  have HS3 : Hid (Apt MB TB GB S W3) := Lib.hid (HS.out.more HK3.out.size)
  obtain ⟨⟨⟨b0, b1, b2⟩, b3, b4, b5⟩, b6, b7, b8⟩ := nine HBox.out
  clear hm3 ho3
  have hf0n : 0 < f.len := by have := HF1.out; omega
  have hf0 : (0 : Int) < (f.len : Int) := by omega
  obtain ⟨b, i0, ad2, cp2, rfl, hsv2, c0, c1, c2, c3, c4, c5, c6, c7, c8⟩ := kid HSV3.out (Afar.refl _ _) 0 hf0n
  rw [Nat.zero_mul, Nat.add_zero] at c0 c1 c2 c3 c4 c5 c6 c7 c8
  have HMk := Lib.hid (HCh.out 0 hf0n (f.nth 0).op (f.nth 0).lo (f.nth 0).hi (f.nth 0).g (f.nth 0).st (.slice ad2 (f.nth 0).args.len cp2) W3 S MB TB GB cv (left - 1) hsv2 HS3.out HBb.out HC3.out HM3.out HL3.out (NdM.nth HPk.out HCon.out HSet.out 0 hf0n))
  have HNb : Hid (¬ K3 MB TB GB w.heap.size) := Lib.hid fun e => by rcases e with e | e | e <;> (have := HLt.out; omega)
  clear hsv2
  go_upto_region 17 with (first
    | (go_at_call 17; (with_reducible refine HMk.out.mono ?_); rintro e w4 ⟨s, ok, rfl, hq⟩
       have HQ := Lib.hid hq
       clear c0 c1 c2 c3 c4 c5 c6 c7 c8 b0 b1 b2 b3 b4 b5 b6 b7 b8 hq))
  obtain ⟨q1, l2, ⟨a4, T4, G4, ha4, hm4, ht4, hf4⟩, q3, q4, q5⟩ := HQ.out
  obtain ⟨⟨⟨b0, b1, b2⟩, b3, b4, b5⟩, b6, b7, b8⟩ := nine ((q3.block _ (Array.getElem?_eq_some_iff.1 HBox.out).1 HNb.out).trans HBox.out)
  obtain ⟨⟨d0, d1⟩, d2, d3, d4⟩ := hm4.cells
  have t1 := hm4.tx ig HIn.out
  have t2 := hm4.tf ig
  have HQ1 := Lib.hid q1
  have HQ3 := Lib.hid q3
  have HQ4 := Lib.hid q4
  have HQ5 := Lib.hid q5
  have HM4 := Lib.hid hm4
  have HA4 := Lib.hid (And.intro ha4 (And.intro ht4 hf4))
  clear q1 q3 q4 q5 hm4 ha4 ht4 hf4
  go_still_tail 8, (by kernel_rfl)
  change wpList _ _ _ _ _ w4.drew
  have hbd : Below w4.heap.size w4 w4.drew := (Below.refl _ _).drew
  go_upto_region 18 with fail
  have hm5 := (HM4.out.drew).text ig HIn.out s
  have ho5 : Only TB w4 (w4.drew.setCell ⟨TB, ig, none⟩ (.string s)) := (Only.refl TB w4).drew.put ig _
  clear b0 b1 b2 b3 b4 b5 b6 b7 b8 d0 d1 d2 d3 d4 t1 t2 hbd
  change Code.wp _ _ _ _ (w4.drew.setCell ⟨TB, ig, none⟩ (.string s))
  generalize w4.drew.setCell ⟨TB, ig, none⟩ (.string s) = w5 at *
  have hk5 : Keep (K3 MB TB GB) w4 w5 := ⟨ho5.os, ho5.tape, ho5.output, ho5.size, fun k hk hn => ho5.block k hk (fun e => hn (.inr (.inl e)))⟩
  obtain ⟨⟨⟨b0, b1, b2⟩, b3, b4, b5⟩, b6, b7, b8⟩ := nine (((HQ3.out.k3 hk5).block _ (Array.getElem?_eq_some_iff.1 HBox.out).1 HNb.out).trans HBox.out)
  obtain ⟨⟨d0, d1⟩, d2, d3, d4⟩ := hm5.cells
  have t1 := hm5.gv ig HIn.out
  have t2 := hm5.gf ig
  have HM5 := Lib.hid hm5
  have HK5 := Lib.hid hk5
  clear hm5 ho5 hk5
  go_still_tail 8, (by kernel_rfl)
  change wpList _ _ _ _ _ w5.drew
  go_upto_region 19 with fail
  have hm6 := (HM5.out.drew).give ig HIn.out ok
  have ho6 : Only GB w5 (w5.drew.setCell ⟨GB, ig, none⟩ (.bool ok)) := (Only.refl GB w5).drew.put ig _
  clear b0 b1 b2 b3 b4 b5 b6 b7 b8 d0 d1 d2 d3 d4 t1 t2
  change Code.wp _ _ _ _ (w5.drew.setCell ⟨GB, ig, none⟩ (.bool ok))
  generalize w5.drew.setCell ⟨GB, ig, none⟩ (.bool ok) = w6 at *
  have hk6 : Keep (K3 MB TB GB) w5 w6 := ⟨ho6.os, ho6.tape, ho6.output, ho6.size, fun k hk hn => ho6.block k hk (fun e => hn (.inr (.inr e)))⟩
  have HM6 := Lib.hid hm6
  have HK6 := Lib.hid hk6
  clear hm6 ho6 hk6
  go_wp2_with fail
  go_ret2
  refine ⟨s, ok, rfl, HQ1.out, l2, ⟨a4, _, _, HA4.out.1, HM6.out, fun i => ?_, fun i hi hg => ?_⟩, ((HK3.out.k3 HQ3.out).k3 HK5.out).k3 HK6.out, by have := HQ4.out; omega, fun e => ?_⟩
  · show (if i = ig then s else T4 i).size ≤ 100000
    split
    · exact HQ1.out
    · exact HA4.out.2.1 i
  · have hg2 : (if i = ig then ok else G4 i) = true := hg
    show Fit (X i) (if i = ig then s else T4 i).data.toList
    by_cases e : i = ig
    · subst e
      rw [if_pos rfl] at hg2 ⊢
      rw [HOwn.out]
      exact (HQ5.out hg2).2.2
    · rw [if_neg e] at hg2 ⊢
      exact HA4.out.2.2 i hi hg2
  · obtain ⟨q6, q7, q8⟩ := HQ5.out e
    exact ⟨q6, by omega, q8⟩
theorem mk_9 (X : Nat → FC) (n B : Nat) (c : List Int) (f : F) (hX : ∀ k, FOk (X k)) (hch : ∀ i, i < f.len → MkOk X n B c (f.nth i).args) (l h : Int) (ig : Nat) (st : Nat → Bool) (sv : Value) (w : World) (S : Nat → Prop) (MB TB GB : Nat) (cv : Value) (left : Int) (hsv : SV w S f sv) (hS : Apt MB TB GB S w) (hB : B ≤ MB ∧ B ≤ TB ∧ B ≤ GB) (hc : CH w B cv c) (hm : MInv X w MB TB GB n cv c left) (hl : 1 ≤ left ∧ left ≤ 600) (h6 : f.len ≤ 600) (hpk : preK n f) (hcon : con X f) (hset : setF f) (hin : ig < n) (hn6 : n ≤ 600) :
    Calls Try.prog 17 #[.pointer (some ⟨MB, 0, none⟩), .agg #[.int .i64 9, .int .u64 (wd st 0 64 : Nat), .int .u64 (wd st 64 64 : Nat), .int .u64 (wd st 128 64 : Nat), .int .u64 (wd st 192 64 : Nat), .int .i64 l, .int .i64 h, .int .i64 ((ig : Int) + 1), sv]] w fun e w' => ∃ s ok, e = .returned (.tuple #[.string s, .bool ok]) ∧ MkQ X MB TB GB n cv c left w (Fit (X ig)) s ok w' := by
  have HSV := Lib.hid hsv
  have HCh := Lib.hid hch
  have HS := Lib.hid hS
  have HBb := Lib.hid hB
  have HC := Lib.hid hc
  have HL := Lib.hid hl
  have HPk := Lib.hid hpk
  have HCon := Lib.hid hcon
  have HSet := Lib.hid hset
  have HX0 := Lib.hid hX
  have HFl := Lib.hid h6
  obtain ⟨ad, cap, rfl⟩ := slice_form hsv
  obtain ⟨W2, hW2⟩ : ∃ W2, W2 = w.alloc (.cells #[.int .i64 9, .int .u64 (wd st 0 64 : Nat), .int .u64 (wd st 64 64 : Nat), .int .u64 (wd st 128 64 : Nat), .int .u64 (wd st 192 64 : Nat), .int .i64 l, .int .i64 h, .int .i64 ((ig : Int) + 1), .slice ad f.len cap] 28) := ⟨_, rfl⟩
  have hx : Below w.heap.size w W2 := by rw [hW2]; exact (Below.refl _ _).alloc (Nat.le_refl _) _
  have hz2 : W2.heap.size = w.heap.size + 1 := by rw [hW2]; simp
  have hg0 : W2.heap[w.heap.size]? = some (.cells #[.int .i64 9, .int .u64 (wd st 0 64 : Nat), .int .u64 (wd st 64 64 : Nat), .int .u64 (wd st 128 64 : Nat), .int .u64 (wd st 192 64 : Nat), .int .i64 l, .int .i64 h, .int .i64 ((ig : Int) + 1), .slice ad f.len cap] 28 (0, 0)) := by
    rw [hW2]
    exact heap_alloc_new w _
  obtain ⟨a, T, G, ha, hms0, htx, hfit⟩ := hm
  have hlt : MB < w.heap.size ∧ TB < w.heap.size ∧ GB < w.heap.size := ⟨hms0.mlt, hms0.lt⟩
  have hms := hms0.below hx
  obtain ⟨⟨d0, d1⟩, d2, d3, d4⟩ := hms.cells
  have f4 := hms.free 4
  have hlw : IntKind.i64.wrap (left - 1) = left - 1 := by rw [IntKind.wrap_i64]; omega
  have HX := Lib.hid hx
  have HG0 := Lib.hid hg0
  have HZ := Lib.hid hz2
  have HW2 := Lib.hid hW2
  have HLt := Lib.hid hlt
  have HMs := Lib.hid hms
  have HA := Lib.hid ha
  have HTx := Lib.hid htx
  have HFit := Lib.hid hfit
  clear hsv hch hS hB hc hx hz2 hg0 hW2 hlt hms hms0 ha htx hfit hpk hcon hset hX h6
  have hii : (ig : Int) < (n : Int) := by omega
  have hi0 : (0 : Int) ≤ (ig : Int) := by omega
  have hiw : IntKind.i64.wrap ((ig : Int) + 1 - 1) = (ig : Int) := by rw [IntKind.wrap_i64]; omega
  have hiv : IntKind.i64.wrap (ig : Int) = (ig : Int) := by rw [IntKind.wrap_i64]; omega
  have HIn := Lib.hid hin
  clear hin hn6
  go_enter Try.func17, Try.ntmps17
  go_upto_region 1 with fail
  rw [← HW2.out]
  have hl1 : ¬ left - 1 < 0 := by omega
  have hl2 : decide (left - 1 < 0) = false := decide_eq_false hl1
  go_upto_region 4 with fail
  have hm3 := HMs.out.left (left - 1)
  have ho3 : Only MB W2 (W2.setCell ⟨MB, 4, none⟩ (.int .i64 (left - 1))) := (Only.refl _ _).put 4 _
  clear d0 d1 d2 d3 d4 f4 hlw hl1 hl2
  generalize W2.setCell ⟨MB, 4, none⟩ (.int .i64 (left - 1)) = W3 at *
  have HM3 : Hid (MInv X W3 MB TB GB n cv c (left - 1)) := Lib.hid ⟨a, T, G, HA.out, hm3, HTx.out, HFit.out⟩
  have HMs3 := Lib.hid hm3
  have HK3 : Hid (Keep (K3 MB TB GB) w W3) := Lib.hid ((Keep.of_below HX.out).k3 (K3.of_only ho3))
  have HBox : Hid (W3.heap[w.heap.size]? = some (.cells #[.int .i64 9, .int .u64 (wd st 0 64 : Nat), .int .u64 (wd st 64 64 : Nat), .int .u64 (wd st 128 64 : Nat), .int .u64 (wd st 192 64 : Nat), .int .i64 l, .int .i64 h, .int .i64 ((ig : Int) + 1), .slice ad f.len cap] 28 (0, 0))) := Lib.hid ((ho3.block _ (by have := HZ.out; omega) (by have := HLt.out; omega)).trans HG0.out)
  have HC3 : Hid (CH W3 B cv c) := Lib.hid (HC.out.keep HK3.out (fun b hb => by rcases hb with rfl | rfl | rfl <;> (have := HBb.out; omega)))
  have HL3 : Hid (0 ≤ left - 1 ∧ left - 1 ≤ 600) := Lib.hid (by omega)
  have HSV3 : Hid (SV W3 S f (.slice ad f.len cap)) := Lib.hid (HSV.out.far (K3.afar HK3.out HS.out))
  have HS3 : Hid (Apt MB TB GB S W3) := Lib.hid (HS.out.more HK3.out.size)
  obtain ⟨⟨⟨b0, b1, b2⟩, b3, b4, b5⟩, b6, b7, b8⟩ := nine HBox.out
  clear hm3 ho3
  obtain ⟨⟨d0, d1⟩, d2, d3, d4⟩ := HMs3.out.cells
  have t1 := HMs3.out.tx ig HIn.out
  have t2 := HMs3.out.gv ig HIn.out
  have hts := HTx.out ig
  generalize hTg : T ig = s at *
  have HTg := Lib.hid hTg
  have hfig := HFit.out ig HIn.out
  rw [hTg] at hfig
  have HFig := Lib.hid hfig
  clear hTg hfig
  go_upto_region 21 with fail
  have HTs := Lib.hid hts
  have hsi : (s.size : Int) ≤ 100000 := by omega
  cases hg : G ig with
  | false =>
    rw [hg] at t2
    have HG := Lib.hid hg
    clear hg hts
    go_quiet (fail)
    go_wp2_with fail
    go_ret2
    have HQq : MkQ X MB TB GB n cv c left w (Fit (X ig)) s false (W3.drewN nq) := ⟨HTs.out, left - 1, HM3.out.below (below_drewN (Below.refl _ _) _), HK3.out.k3 (Keep.of_below (below_drewN (Below.refl _ _) _)), by omega, fun e => by cases e⟩
    first | exact ⟨s, .inl ⟨rfl, HQq⟩⟩ | exact ⟨s, .inr ⟨rfl, HQq⟩⟩ | exact ⟨s, false, rfl, HQq⟩
  | true =>
    rw [hg] at t2
    have HG := Lib.hid hg
    clear hg hts
    by_cases hsz : s.size ≤ 100
    · have hs1 : (s.size : Int) ≤ 100 := by omega
      have hs2 : decide ((s.size : Int) ≤ 100) = true := decide_eq_true hs1
      have hs3 : decide (s.size ≤ 100) = true := decide_eq_true hsz
      go_quiet (fail)
      go_wp2_with fail
      go_ret2
      have HQq : MkQ X MB TB GB n cv c left w (Fit (X ig)) s true (W3.drewN nq) := ⟨HTs.out, left - 1, HM3.out.below (below_drewN (Below.refl _ _) _), HK3.out.k3 (Keep.of_below (below_drewN (Below.refl _ _) _)), by omega, fun _ => ⟨by omega, by omega, HFig.out HG.out⟩⟩
      first | exact ⟨s, .inl ⟨rfl, HQq⟩⟩ | exact ⟨s, .inr ⟨rfl, HQq⟩⟩ | exact ⟨s, true, rfl, HQq⟩
    · have hs1 : ¬ (s.size : Int) ≤ 100 := by omega
      have hs2 : decide ((s.size : Int) ≤ 100) = false := decide_eq_false hs1
      have hs3 : decide (s.size ≤ 100) = false := decide_eq_false hsz
      go_quiet (fail)
      go_wp2_with fail
      go_ret2
      have HQq : MkQ X MB TB GB n cv c left w (Fit (X ig)) s false (W3.drewN nq) := ⟨HTs.out, left - 1, HM3.out.below (below_drewN (Below.refl _ _) _), HK3.out.k3 (Keep.of_below (below_drewN (Below.refl _ _) _)), by omega, fun e => by cases e⟩
      first | exact ⟨s, .inl ⟨rfl, HQq⟩⟩ | exact ⟨s, .inr ⟨rfl, HQq⟩⟩ | exact ⟨s, false, rfl, HQq⟩
theorem mk_x (X : Nat → FC) (n B : Nat) (c : List Int) (f : F) (hX : ∀ k, FOk (X k)) (hch : ∀ i, i < f.len → MkOk X n B c (f.nth i).args) (o l h g : Int) (st : Nat → Bool) (sv : Value) (w : World) (S : Nat → Prop) (MB TB GB : Nat) (cv : Value) (left : Int) (hsv : SV w S f sv) (hS : Apt MB TB GB S w) (hB : B ≤ MB ∧ B ≤ TB ∧ B ≤ GB) (hc : CH w B cv c) (hm : MInv X w MB TB GB n cv c left) (hl : 1 ≤ left ∧ left ≤ 600) (h6 : f.len ≤ 600) (hpk : preK n f) (hcon : con X f) (hset : setF f) (e2 : (o == 2) = false) (e3 : (o == 3) = false) (e4 : (o == 4) = false) (e5 : (o == 5) = false) (e6 : (o == 6) = false) (e9 : (o == 9) = false) :
    Calls Try.prog 17 #[.pointer (some ⟨MB, 0, none⟩), .agg #[.int .i64 o, .int .u64 (wd st 0 64 : Nat), .int .u64 (wd st 64 64 : Nat), .int .u64 (wd st 128 64 : Nat), .int .u64 (wd st 192 64 : Nat), .int .i64 l, .int .i64 h, .int .i64 g, sv]] w fun e w' => ∃ s ok, e = .returned (.tuple #[.string s, .bool ok]) ∧ MkQ X MB TB GB n cv c left w (Fit (FC1)) s ok w' := by
  have HSV := Lib.hid hsv
  have HCh := Lib.hid hch
  have HS := Lib.hid hS
  have HBb := Lib.hid hB
  have HC := Lib.hid hc
  have HL := Lib.hid hl
  have HPk := Lib.hid hpk
  have HCon := Lib.hid hcon
  have HSet := Lib.hid hset
  have HX0 := Lib.hid hX
  have HFl := Lib.hid h6
  obtain ⟨ad, cap, rfl⟩ := slice_form hsv
  obtain ⟨W2, hW2⟩ : ∃ W2, W2 = w.alloc (.cells #[.int .i64 o, .int .u64 (wd st 0 64 : Nat), .int .u64 (wd st 64 64 : Nat), .int .u64 (wd st 128 64 : Nat), .int .u64 (wd st 192 64 : Nat), .int .i64 l, .int .i64 h, .int .i64 g, .slice ad f.len cap] 28) := ⟨_, rfl⟩
  have hx : Below w.heap.size w W2 := by rw [hW2]; exact (Below.refl _ _).alloc (Nat.le_refl _) _
  have hz2 : W2.heap.size = w.heap.size + 1 := by rw [hW2]; simp
  have hg0 : W2.heap[w.heap.size]? = some (.cells #[.int .i64 o, .int .u64 (wd st 0 64 : Nat), .int .u64 (wd st 64 64 : Nat), .int .u64 (wd st 128 64 : Nat), .int .u64 (wd st 192 64 : Nat), .int .i64 l, .int .i64 h, .int .i64 g, .slice ad f.len cap] 28 (0, 0)) := by
    rw [hW2]
    exact heap_alloc_new w _
  obtain ⟨a, T, G, ha, hms0, htx, hfit⟩ := hm
  have hlt : MB < w.heap.size ∧ TB < w.heap.size ∧ GB < w.heap.size := ⟨hms0.mlt, hms0.lt⟩
  have hms := hms0.below hx
  obtain ⟨⟨d0, d1⟩, d2, d3, d4⟩ := hms.cells
  have f4 := hms.free 4
  have hlw : IntKind.i64.wrap (left - 1) = left - 1 := by rw [IntKind.wrap_i64]; omega
  have HX := Lib.hid hx
  have HG0 := Lib.hid hg0
  have HZ := Lib.hid hz2
  have HW2 := Lib.hid hW2
  have HLt := Lib.hid hlt
  have HMs := Lib.hid hms
  have HA := Lib.hid ha
  have HTx := Lib.hid htx
  have HFit := Lib.hid hfit
  clear hsv hch hS hB hc hx hz2 hg0 hW2 hlt hms hms0 ha htx hfit hpk hcon hset hX h6
  go_enter Try.func17, Try.ntmps17
  go_upto_region 1 with fail
  rw [← HW2.out]
  have hl1 : ¬ left - 1 < 0 := by omega
  have hl2 : decide (left - 1 < 0) = false := decide_eq_false hl1
  go_upto_region 4 with fail
  have hm3 := HMs.out.left (left - 1)
  have ho3 : Only MB W2 (W2.setCell ⟨MB, 4, none⟩ (.int .i64 (left - 1))) := (Only.refl _ _).put 4 _
  clear d0 d1 d2 d3 d4 f4 hlw hl1 hl2
  generalize W2.setCell ⟨MB, 4, none⟩ (.int .i64 (left - 1)) = W3 at *
  have HM3 : Hid (MInv X W3 MB TB GB n cv c (left - 1)) := Lib.hid ⟨a, T, G, HA.out, hm3, HTx.out, HFit.out⟩
  have HMs3 := Lib.hid hm3
  have HK3 : Hid (Keep (K3 MB TB GB) w W3) := Lib.hid ((Keep.of_below HX.out).k3 (K3.of_only ho3))
  have HBox : Hid (W3.heap[w.heap.size]? = some (.cells #[.int .i64 o, .int .u64 (wd st 0 64 : Nat), .int .u64 (wd st 64 64 : Nat), .int .u64 (wd st 128 64 : Nat), .int .u64 (wd st 192 64 : Nat), .int .i64 l, .int .i64 h, .int .i64 g, .slice ad f.len cap] 28 (0, 0))) := Lib.hid ((ho3.block _ (by have := HZ.out; omega) (by have := HLt.out; omega)).trans HG0.out)
  have HC3 : Hid (CH W3 B cv c) := Lib.hid (HC.out.keep HK3.out (fun b hb => by rcases hb with rfl | rfl | rfl <;> (have := HBb.out; omega)))
  have HL3 : Hid (0 ≤ left - 1 ∧ left - 1 ≤ 600) := Lib.hid (by omega)
  have HSV3 : Hid (SV W3 S f (.slice ad f.len cap)) := Lib.hid (HSV.out.far (K3.afar HK3.out HS.out))
  have HS3 : Hid (Apt MB TB GB S W3) := Lib.hid (HS.out.more HK3.out.size)
  obtain ⟨⟨⟨b0, b1, b2⟩, b3, b4, b5⟩, b6, b7, b8⟩ := nine HBox.out
  clear hm3 ho3
  go_wp2_with fail
  go_ret2
  exact ⟨_, true, rfl, by show (0 : Nat) ≤ 100000; omega, left - 1, HM3.out, HK3.out, by omega, fun _ => ⟨by omega, (by show ((0 : Nat) : Int) + 100 * (left - 1) ≤ 100 * left; omega), Fit.fc1⟩⟩
theorem mk_node (X : Nat → FC) (n B : Nat) (c : List Int) (hX : ∀ k, FOk (X k)) (hn : n ≤ 600) (f : F) (hch : ∀ i, i < f.len → MkOk X n B c (f.nth i).args) : MkOk X n B c f := by
  intro o l h g st sv w S MB TB GB cv left hsv hS hB hc hm hl hnd
  obtain ⟨⟨n1, n2, n3, n4, n5⟩, hcon, hown, hs2, hset⟩ := hnd
  by_cases h0 : left = 0
  · exact mk_out X n B c f _ hX hch o l h g st sv w S MB TB GB cv left hsv hS hB hc hm h0 n4 n5 hcon hset
  have hl1 : 1 ≤ left ∧ left ≤ 600 := by omega
  by_cases o2 : o = 2
  · subst o2
    have e : facSN X ⟨2, st, l, h, g, f⟩ = ⟨false, 1, 1, st⟩ := by unfold facSN facR; simp
    rw [e]
    exact mk_2 X n B c f hX hch l h g st sv w S MB TB GB cv left hsv hS hB hc hm hl1 n4 n5 hcon hset (hs2 rfl)
  by_cases o3 : o = 3
  · subst o3
    have e : facSN X ⟨3, st, l, h, g, f⟩ = (facS X f).foldl catS FC1 := by unfold facSN facR; simp
    rw [e]
    exact mk_3 X n B c f hX hch l h g st sv w S MB TB GB cv left hsv hS hB hc hm hl1 n4 n5 hcon hset
  by_cases o4 : o = 4
  · subst o4
    have e : facSN X ⟨4, st, l, h, g, f⟩ = altL (facS X f) := by unfold facSN facR; simp
    rw [e]
    exact mk_4 X n B c f hX hch l h g st sv w S MB TB GB cv left hsv hS hB hc hm hl1 n4 n5 hcon hset (havT_4 n2)
  by_cases o5 : o = 5
  · subst o5
    have e : facSN X ⟨5, st, l, h, g, f⟩ = repS l h ((facS X f).headD FC0) := by unfold facSN facR; simp
    rw [e]
    obtain ⟨b1, b2, b3⟩ := bnd_of (n3 rfl)
    exact mk_5 X n B c f hX hch l h g st sv w S MB TB GB cv left hsv hS hB hc hm hl1 n4 n5 hcon hset (havT_5 n2) ⟨b1, b2⟩ b3
  by_cases o6 : o = 6
  · subst o6
    obtain ⟨g1, g2⟩ := n1 (.inl rfl)
    obtain ⟨ig, rfl⟩ : ∃ ig : Nat, g = (ig : Int) + 1 := ⟨(g - 1).toNat, by omega⟩
    have eg : ((ig : Int) + 1 - 1).toNat = ig := by omega
    have e : facSN X ⟨6, st, l, h, (ig : Int) + 1, f⟩ = (facS X f).headD FC0 := by unfold facSN facR; simp
    rw [e]
    rw [eg] at hown
    exact mk_6 X n B c f hX hch l h ig st sv w S MB TB GB cv left hsv hS hB hc hm hl1 n4 n5 hcon hset (havT_6 n2) (by omega) hn (hown rfl)
  by_cases o9 : o = 9
  · subst o9
    obtain ⟨g1, g2⟩ := n1 (.inr rfl)
    obtain ⟨ig, rfl⟩ : ∃ ig : Nat, g = (ig : Int) + 1 := ⟨(g - 1).toNat, by omega⟩
    have eg : ((ig : Int) + 1 - 1).toNat = ig := by omega
    have e : facSN X ⟨9, st, l, h, (ig : Int) + 1, f⟩ = X ig := by unfold facSN; rw [eg]; simp
    rw [e]
    exact mk_9 X n B c f hX hch l h ig st sv w S MB TB GB cv left hsv hS hB hc hm hl1 n4 n5 hcon hset (by omega) hn
  · have hnil : f = .nil := by
      have hz : f.len = 0 := by
        unfold havT at n2
        by_cases hq : o = 1 ∨ o = 2 ∨ o = 7 ∨ o = 8 ∨ o = 9
        · rw [if_pos hq] at n2; simpa using n2
        · rw [if_neg hq, if_neg (by omega), if_neg (by omega)] at n2; cases n2
      exact len_nil hz
    have e : facSN X ⟨o, st, l, h, g, f⟩ = FC1 := by
      subst hnil
      unfold facSN facR
      simp only [o2, o3, o4, o5, o6, o9, or_self, if_false]
      rfl
    rw [e]
    exact mk_x X n B c f hX hch o l h g st sv w S MB TB GB cv left hsv hS hB hc hm hl1 n4 n5 hcon hset (by simpa using o2) (by simpa using o3) (by simpa using o4) (by simpa using o5) (by simpa using o6) (by simpa using o9)
theorem mk_all (X : Nat → FC) (n B : Nat) (c : List Int) (hX : ∀ k, FOk (X k)) (hn : n ≤ 600) : ∀ (f : F) (i : Nat), i < f.len → MkOk X n B c (f.nth i).args
  | .nil, i, h => by cases h
  | .cons o s l h g a r, 0, hi => mk_node X n B c hX hn a (mk_all X n B c hX hn a)
  | .cons o s l h g a r, i + 1, hi => mk_all X n B c hX hn r i (by have : i + 1 < r.len + 1 := hi; omega)
theorem mk_any (X : Nat → FC) (n B : Nat) (c : List Int) (hX : ∀ k, FOk (X k)) (hn : n ≤ 600) (f : F) : MkOk X n B c f := mk_node X n B c hX hn f (mk_all X n B c hX hn f)
end Go.Proofs.Ytpfbpgbgedbalaa
/- RetreeLengths. -/
set_option linter.unusedVariables false
set_option linter.unusedSimpArgs false
set_option maxRecDepth 100000
set_option maxHeartbeats 8000000
namespace Go.Proofs.Ytpfbpgbgedbalaa
open Go.RowKit

theorem sta_of (t : TN) (h : Valid t) : ∃ X : Nat → FC, grF t.f ≤ 9 ∧ (survT t).cl.length = grF t.f ∧ (∀ k, FOk (X k)) ∧ NdM X (grF t.f) t.op t.st t.lo t.hi t.g t.args ∧ facSN X t = knF t := by
  have hk : knF t = valT facR t := by unfold knF; rw [if_pos ((checkT_iff t).2 h)]
  obtain ⟨c, hv, h9, hsz, hlv⟩ := h
  obtain ⟨_, i2, _⟩ := vF_ref t.f [] c [] hv Rel.nil
  have hg := rngF_gr _ _ _ i2
  simp only [List.length_nil, Nat.zero_add] at hg
  have hp := preK_of (grF t.f) t.f [] c hv (by omega) hsz
  obtain ⟨_, j2, j3⟩ := facF_stat t.f [] c (fun _ => FC0) (facF t.f (fun _ => FC0)).2 hv (fun _ _ => rfl)
  have hw := walkF_right t.f 1 SQ0 c rfl hv (by show 0 + _ ≤ 600; omega) (by omega)
  have hn := NdM.nth hp j3 (setF_of t.f [] c hv) 0 (by show 0 < 0 + 1; decide)
  refine ⟨(facF t.f (fun _ => FC0)).2, by omega, ?_, (facF_ok _ t.f _ hp (fun _ => fok0)).2, hn, ?_⟩
  · show (walkF t.f 1 SQ0).cl.length = _
    rw [hw.1]; exact hg
  · rw [hk, ← facN_val _ t hp]
    have e1 : facS (facF t.f (fun _ => FC0)).2 t.f = [facSN (facF t.f (fun _ => FC0)).2 t] := by
      generalize (facF t.f (fun _ => FC0)).2 = Z
      rfl
    have e2 : (facF t.f (fun _ => FC0)).1 = [(facN t (fun _ => FC0)).1] := by
      show (facF (.cons t.op t.st t.lo t.hi t.g t.args .nil) (fun _ => FC0)).1 = _
      rw [facF_cons]
      rfl
    rw [e1, e2] at j2
    exact (List.cons.inj j2).1
/-- What the maker's making leaves. -/
def MadeQ (W0 : World) (n : Nat) (cv x : Value) (wx : World) : Prop := ∃ MB TB GB, x = .pointer (some ⟨MB, 0, none⟩) ∧ (W0.heap.size ≤ MB ∧ W0.heap.size ≤ TB ∧ W0.heap.size ≤ GB) ∧ MS wx MB TB GB n cv 0 600 (fun _ => ⟨#[]⟩) (fun _ => false) ∧ Below W0.heap.size W0 wx
theorem one_made (z : Value) (n i : Nat) (hi : i < n) : (madeCells #[z] n)[i]? = some z := by
  unfold madeCells
  rw [Array.getElem?_map, Array.getElem?_range, if_pos hi]
  show some (#[z][i % 1]!) = _
  rw [Nat.mod_one]; rfl
theorem made_ms (W wx : World) (n : Nat) (cv : Value) (MB TB GB : Nat) (ne : MB ≠ TB ∧ MB ≠ GB ∧ TB ≠ GB)
    (h1 : wx.heap[TB]? = some (.cells (madeCells #[.string ⟨#[]⟩] n) 9 (0, 0))) (h2 : wx.heap[GB]? = some (.cells (madeCells #[.bool false] n) 4 (0, 0)))
    (h3 : wx.heap[MB]? = some (.cells #[cv, .int .i64 0, .slice (some ⟨TB, 0, none⟩) n n, .slice (some ⟨GB, 0, none⟩) n n, .int .i64 600] 43 (0, 0))) :
    MS wx MB TB GB n cv 0 600 (fun _ => ⟨#[]⟩) (fun _ => false) :=
  ⟨h3, fun i hi => (cell_of_row _ _ i _ _ _ h1).trans (one_made _ n i hi), fun off => frozen_of_row _ _ off _ _ h1, fun i hi => (cell_of_row _ _ i _ _ _ h2).trans (one_made _ n i hi), fun off => frozen_of_row _ _ off _ _ h2, ne, (Array.getElem?_eq_some_iff.1 h1).1, (Array.getElem?_eq_some_iff.1 h2).1⟩
theorem three (W : World) (a b c : Array Value) (ta tb tc : TypeId) :
    (((W.alloc (.cells a ta)).alloc (.cells b tb)).alloc (.cells c tc)).heap[W.heap.size]? = some (.cells a ta (0, 0)) ∧
    (((W.alloc (.cells a ta)).alloc (.cells b tb)).alloc (.cells c tc)).heap[W.heap.size + 1]? = some (.cells b tb (0, 0)) ∧
    (((W.alloc (.cells a ta)).alloc (.cells b tb)).alloc (.cells c tc)).heap[W.heap.size + 2]? = some (.cells c tc (0, 0)) := by
  have s1 : (W.alloc (.cells a ta)).heap.size = W.heap.size + 1 := by simp
  have s2 : ((W.alloc (.cells a ta)).alloc (.cells b tb)).heap.size = W.heap.size + 2 := by simp
  have k1 := heap_alloc_new W (.cells a ta)
  have k2 := heap_alloc_new (W.alloc (.cells a ta)) (.cells b tb)
  have k3 := heap_alloc_new ((W.alloc (.cells a ta)).alloc (.cells b tb)) (.cells c tc)
  rw [s1] at k2
  rw [s2] at k3
  refine ⟨?_, ?_, k3⟩
  · rw [Below.heap_alloc _ _ _ (by simp; omega), Below.heap_alloc _ _ _ (by simp)]
    exact k1
  · rw [Below.heap_alloc _ _ _ (by simp)]
    exact k2
theorem made_a (W0 W : World) (hb : Below W0.heap.size W0 W) (n : Nat) (cv : Value) : MadeQ W0 n cv (.pointer (some ⟨W.heap.size + 2, 0, none⟩))
    (((W.alloc (.cells (madeCells #[.string ⟨#[]⟩] n) 9)).alloc (.cells (madeCells #[.bool false] n) 4)).alloc (.cells #[cv, .int .i64 0, .slice (some ⟨W.heap.size, 0, none⟩) n n, .slice (some ⟨W.heap.size + 1, 0, none⟩) n n, .int .i64 600] 43)) := by
  obtain ⟨k1, k2, k3⟩ := three W (madeCells #[.string ⟨#[]⟩] n) (madeCells #[.bool false] n) #[cv, .int .i64 0, .slice (some ⟨W.heap.size, 0, none⟩) n n, .slice (some ⟨W.heap.size + 1, 0, none⟩) n n, .int .i64 600] 9 4 43
  have hs := hb.size
  exact ⟨_, W.heap.size, W.heap.size + 1, rfl, ⟨by omega, by omega, by omega⟩, made_ms W _ n cv _ _ _ ⟨by omega, by omega, by omega⟩ k1 k2 k3, ((hb.alloc hs _).alloc (by simp; omega) _).alloc (by simp; omega) _⟩
theorem made_b (W0 W : World) (hb : Below W0.heap.size W0 W) (n : Nat) (cv : Value) : MadeQ W0 n cv (.pointer (some ⟨W.heap.size + 2, 0, none⟩))
    (((W.alloc (.cells (madeCells #[.bool false] n) 4)).alloc (.cells (madeCells #[.string ⟨#[]⟩] n) 9)).alloc (.cells #[cv, .int .i64 0, .slice (some ⟨W.heap.size + 1, 0, none⟩) n n, .slice (some ⟨W.heap.size, 0, none⟩) n n, .int .i64 600] 43)) := by
  obtain ⟨k1, k2, k3⟩ := three W (madeCells #[.bool false] n) (madeCells #[.string ⟨#[]⟩] n) #[cv, .int .i64 0, .slice (some ⟨W.heap.size + 1, 0, none⟩) n n, .slice (some ⟨W.heap.size, 0, none⟩) n n, .int .i64 600] 4 9 43
  have hs := hb.size
  exact ⟨_, W.heap.size + 1, W.heap.size, rfl, ⟨by omega, by omega, by omega⟩, made_ms W _ n cv _ _ _ ⟨by omega, by omega, by omega⟩ k2 k1 k3, ((hb.alloc hs _).alloc (by simp; omega) _).alloc (by simp; omega) _⟩
theorem infoS : (Try.prog.info? 9).map (fun i => (i.zero, i.size, i.bytes)) = some (some (.string ⟨#[]⟩), 1, 16) := by kernel_rfl
theorem infoBo : (Try.prog.info? 4).map (fun i => (i.zero, i.size, i.bytes)) = some (some (.bool false), 1, 1) := by kernel_rfl
theorem MS.inv {X : Nat → FC} {w : World} {MB TB GB n : Nat} {cv : Value} (h : MS w MB TB GB n cv 0 600 (fun _ => ⟨#[]⟩) (fun _ => false)) (c : List Int) : MInv X w MB TB GB n cv c 600 :=
  ⟨0, _, _, ⟨Int.le_refl _, by omega⟩, h, fun _ => by show (0 : Nat) ≤ 100000; omega, fun i hi e => by cases e⟩
theorem lengths_law (t : TN) (sv : Value) (w : World) (h : TI w t sv) (hz : szF t.f ≤ 1048576) (c : List Int) (cv : Value) (hc : CH w w.heap.size cv c) :
    Calls Try.prog 4 #[.agg #[.int .i64 t.op, .int .u64 (wd t.st 0 64 : Nat), .int .u64 (wd t.st 64 64 : Nat), .int .u64 (wd t.st 128 64 : Nat), .int .u64 (wd t.st 192 64 : Nat), .int .i64 t.lo, .int .i64 t.hi, .int .i64 t.g, sv], cv] w fun e w' => e = .returned (.bool true) ∧ Below w.heap.size w w' := by
  obtain ⟨ad, cap, rfl⟩ := h.form
  obtain ⟨cad, ccap, rfl⟩ : ∃ cad ccap, cv = .slice cad c.length ccap := by obtain ⟨_, _, cad, ccap, e, _⟩ := hc; exact ⟨cad, ccap, e⟩
  have HC := Lib.hid (fun W (hb : Below w.heap.size w W) => rcheck_ti (h.below hb) hz)
  have HA := Lib.hid aw08
  have HTI := Lib.hid h
  have HLn : t.args.len ≤ maxLen ∧ t.args.fits := by obtain ⟨S, _, _, h3, _⟩ := h; exact h3
  obtain ⟨W2, hW2⟩ : ∃ W2, W2 = w.alloc (.cells #[.int .i64 t.op, .int .u64 (wd t.st 0 64 : Nat), .int .u64 (wd t.st 64 64 : Nat), .int .u64 (wd t.st 128 64 : Nat), .int .u64 (wd t.st 192 64 : Nat), .int .i64 t.lo, .int .i64 t.hi, .int .i64 t.g, .slice ad t.args.len cap] 28) := ⟨_, rfl⟩
  have hx : Below w.heap.size w W2 := by rw [hW2]; exact (Below.refl _ _).alloc (Nat.le_refl _) _
  have hz2 : W2.heap.size = w.heap.size + 1 := by rw [hW2]; simp
  have hg0 : W2.heap[w.heap.size]? = some (.cells #[.int .i64 t.op, .int .u64 (wd t.st 0 64 : Nat), .int .u64 (wd t.st 64 64 : Nat), .int .u64 (wd t.st 128 64 : Nat), .int .u64 (wd t.st 192 64 : Nat), .int .i64 t.lo, .int .i64 t.hi, .int .i64 t.g, .slice ad t.args.len cap] 28 (0, 0)) := by
    rw [hW2]
    exact heap_alloc_new w _
  have HX := Lib.hid hx
  have HZ := Lib.hid hz2
  have HW2 := Lib.hid hW2
  have HCH := Lib.hid hc
  have CF : Hid (∀ W, Below W2.heap.size W2 W → W.heap[w.heap.size]? = some (.cells #[.int .i64 t.op, .int .u64 (wd t.st 0 64 : Nat), .int .u64 (wd t.st 64 64 : Nat), .int .u64 (wd t.st 128 64 : Nat), .int .u64 (wd t.st 192 64 : Nat), .int .i64 t.lo, .int .i64 t.hi, .int .i64 t.g, .slice ad t.args.len cap] 28 (0, 0))) := Lib.hid fun W hb => (hb.block _ (by omega)).trans hg0
  have HB0 := Lib.hid (Below.refl W2.heap.size W2)
  have HSz := Lib.hid hz
  obtain ⟨⟨⟨a0, a1, a2⟩, a3, a4, a5⟩, a6, a7, a8⟩ := nine hg0
  clear h hz hx hz2 hg0 hW2 hc
  by_cases hV : Valid t
  case neg =>
    have HV := Lib.hid hV
    clear hV
    go_enter Try.func4, Try.ntmps4
    go_upto_region 2 with (first
      | (go_at_call 14; rw [← HW2.out]; (with_reducible refine (HC.out _ HX.out).mono ?_); rintro e w1 ⟨⟨k, rfl, hk⟩, hb⟩
         have HB1 := Lib.hid (HB0.out.trans (hb.mono HB0.out.size))
         have k0 : ¬ k = 0 := fun e => HV.out (hk.1 e)
         have k1 : (k == 0) = false := by simpa using k0
         clear a0 a1 a2 a3 a4 a5 a6 a7 a8 hb hk))
    go_wp2_with (first
      | (go_at_call 13; (with_reducible refine (HA.out _).mono ?_); rintro e u6 ⟨rfl, hb⟩
         have HB2 := Lib.hid (HB1.out.trans (hb.mono HB1.out.size))
         clear hb))
    go_ret
    exact ⟨rfl, HX.out.trans (HB2.out.mono HX.out.size)⟩
  obtain ⟨X, h9, hcl, hX, hnd, hfs⟩ := sta_of t hV
  have HV := Lib.hid hV
  have h10 := fun W (hb : Below w.heap.size w W) => groups_ti (HTI.out.below hb)
  have h11 : ∀ W, Below w.heap.size w W → _ := fun W (hb : Below w.heap.size w W) => (show ∃ S, SV W S t.args (.slice ad t.args.len cap) from by obtain ⟨S, k1, _⟩ := HTI.out.below hb; exact ⟨S, k1⟩)
  have h12 := fun W (hb : Below w.heap.size w W) => (by
    obtain ⟨S, k1⟩ := h11 W hb
    have := HSz.out
    have e4 : szF t.f = szF t.args + 1 := rfl
    exact grp_any t.args t.op t.lo t.hi t.g t.st (.slice ad t.args.len cap) W S k1 HLn (by omega) : Calls Try.prog 16 #[.agg #[.int .i64 t.op, .int .u64 (wd t.st 0 64 : Nat), .int .u64 (wd t.st 64 64 : Nat), .int .u64 (wd t.st 128 64 : Nat), .int .u64 (wd t.st 192 64 : Nat), .int .i64 t.lo, .int .i64 t.hi, .int .i64 t.g, .slice ad t.args.len cap]] W fun e w' => e = .returned (.int .i64 ((grF t.f : Nat) : Int)) ∧ Below W.heap.size W w')
  rw [hcl] at h10
  have HMk := Lib.hid (fun W (hb : Below w.heap.size w W) MB TB GB (hB : w.heap.size ≤ MB ∧ w.heap.size ≤ TB ∧ w.heap.size ≤ GB) (hm : MInv X W MB TB GB (grF t.f) (.slice cad c.length ccap) c 600) => (by
    obtain ⟨S, k1, k2, _⟩ := HTI.out
    rw [← hfs]
    exact mk_any X (grF t.f) w.heap.size c hX (by omega) t.args t.op t.lo t.hi t.g t.st (.slice ad t.args.len cap) W S MB TB GB (.slice cad c.length ccap) 600 (k1.far (Afar.below hb)) (fun b hS => ⟨fun e => by have := k2 b hS; rcases e with e | e | e <;> omega, by have := k2 b hS; have := hb.size; omega⟩) hB (HCH.out.keep (Keep.of_below (S := fun _ => False) hb) (fun b e => e.elim)) hm ⟨by decide, by decide⟩ hnd : Calls Try.prog 17 #[.pointer (some ⟨MB, 0, none⟩), .agg #[.int .i64 t.op, .int .u64 (wd t.st 0 64 : Nat), .int .u64 (wd t.st 64 64 : Nat), .int .u64 (wd t.st 128 64 : Nat), .int .u64 (wd t.st 192 64 : Nat), .int .i64 t.lo, .int .i64 t.hi, .int .i64 t.g, .slice ad t.args.len cap]] W fun e w' => ∃ s ok, e = .returned (.tuple #[.string s, .bool ok]) ∧ MkQ X MB TB GB (grF t.f) (.slice cad c.length ccap) c 600 W (Fit (knF t)) s ok w'))
  have hY : FOk (knF t) := by unfold knF; rw [if_pos ((checkT_iff t).2 hV)]; exact (fac_vals t hV).2.2.2
  have HG := Lib.hid h10
  have HGr := Lib.hid h12
  have HLp := Lib.hid (fun W (hb : Below w.heap.size w W) => length_ti (HTI.out.below hb))
  have HFp := Lib.hid (fun W (hb : Below w.heap.size w W) => first_ti (HTI.out.below hb))
  have HNp := Lib.hid (fun W (hb : Below w.heap.size w W) => nullable_ti (HTI.out.below hb))
  rw [len_kn] at HLp
  rw [fst_kn] at HFp
  rw [nul_kn] at HNp
  clear hV hcl hX hnd hfs h10 h11 h12 HLn
  generalize knF t = Y at *
  obtain ⟨yb, yl, yh, p⟩ := Y
  have HCl : Hid (cl p = #[.int .u64 (wd p 0 64 : Nat), .int .u64 (wd p 64 64 : Nat), .int .u64 (wd p 128 64 : Nat), .int .u64 (wd p 192 64 : Nat)]) := Lib.hid rfl
  simp only at HLp HFp HNp
  rw [HCl.out] at HFp
  generalize grF t.f = n at *
  have hmk1 : ∀ w : World, (Instr.makeSlice 40 (.int .i64 (n : Int)) (.int .i64 (n : Int))).run Try.prog w = .ok (.slice (some ⟨w.heap.size, 0, none⟩) n n) (w.alloc (.cells (madeCells #[.string ⟨#[]⟩] n) 9)) := fun w =>
    run_make_row' 40 9 (.string ⟨#[]⟩) 16 Try.underlying40 infoS rfl .i64 .i64 n (by omega) (by omega) w
  have hmk2 : ∀ w : World, (Instr.makeSlice 41 (.int .i64 (n : Int)) (.int .i64 (n : Int))).run Try.prog w = .ok (.slice (some ⟨w.heap.size, 0, none⟩) n n) (w.alloc (.cells (madeCells #[.bool false] n) 4)) := fun w =>
    run_make_row' 41 4 (.bool false) 1 Try.underlying41 infoBo rfl .i64 .i64 n (by omega) (by omega) w
  have HY : Hid ((0 ≤ yl ∧ yl ≤ 2147483647) ∧ (-1 ≤ yh ∧ yh ≤ 2147483647)) := Lib.hid hY
  clear hY
  go_enter Try.func4, Try.ntmps4
  go_upto_region 2 with (first
    | (go_at_call 14; rw [← HW2.out]; (with_reducible refine (HC.out _ HX.out).mono ?_); rintro e w1 ⟨⟨k, rfl, hk⟩, hb⟩
       have HB1 := Lib.hid (HB0.out.trans (hb.mono HB0.out.size))
       obtain rfl : k = 0 := hk.2 HV.out
       clear a0 a1 a2 a3 a4 a5 a6 a7 a8 hb hk
       obtain ⟨⟨⟨a0, a1, a2⟩, a3, a4, a5⟩, a6, a7, a8⟩ := nine (CF.out _ HB1.out)))
  go_upto_region 6 with (first
    | (go_at_call 15; (with_reducible refine (HG.out _ (HX.out.trans (HB1.out.mono HX.out.size))).mono ?_); rintro e w2 ⟨rfl, hb⟩
       have HB2 := Lib.hid (HB1.out.trans (hb.mono HB1.out.size))
       clear a0 a1 a2 a3 a4 a5 a6 a7 a8 hb
       obtain ⟨⟨⟨a0, a1, a2⟩, a3, a4, a5⟩, a6, a7, a8⟩ := nine (CF.out _ HB2.out))
    | (go_at_call 16; (with_reducible refine (HGr.out _ (HX.out.trans (HB2.out.mono HX.out.size))).mono ?_); rintro e w3 ⟨rfl, hb⟩
       have HB3 := Lib.hid (HB2.out.trans (hb.mono HB2.out.size))
       clear a0 a1 a2 a3 a4 a5 a6 a7 a8 hb))
  go_cut [6] (fun x6 wx => Hid (MadeQ w3 n (.slice cad c.length ccap) x6 wx))
  case first =>
    go_region
    all_goals (try go_wp2_with fail)
    all_goals go_meet
    all_goals (case rel => first | exact Lib.hid (made_a w3 w3.drew (Below.refl _ _).drew n _) | exact Lib.hid (made_b w3 w3.drew (Below.refl _ _).drew n _))
  case rest =>
  clear hmk1 hmk2
  obtain ⟨MB, TB, GB, rfl, hge, hms, hb4⟩ := hcut.out
  have HB4 := Lib.hid (HB3.out.trans (hb4.mono HB3.out.size))
  have HMi := Lib.hid (MS.inv (X := X) hms c)
  have HGe : Hid (W2.heap.size ≤ MB ∧ W2.heap.size ≤ TB ∧ W2.heap.size ≤ GB) := by
    have := HB3.out.size
    exact Lib.hid ⟨by omega, by omega, by omega⟩
  clear hge hms hb4 hcut
  obtain ⟨⟨⟨a0, a1, a2⟩, a3, a4, a5⟩, a6, a7, a8⟩ := nine (CF.out _ HB4.out)
  go_upto_region 8 with (first
    | (go_at_call 17; (with_reducible refine (HMk.out _ (HX.out.trans (HB4.out.mono HX.out.size)) MB TB GB ⟨by have := HGe.out; have := HZ.out; omega, by have := HGe.out; have := HZ.out; omega, by have := HGe.out; have := HZ.out; omega⟩ HMi.out).mono ?_); rintro e w4 ⟨s, ok, rfl, hq⟩
       have HQ := Lib.hid hq
       clear a0 a1 a2 a3 a4 a5 a6 a7 a8 hq))
  obtain ⟨q1, l2, hmi, hk, hl, hR⟩ := HQ.out
  have HB5 := Lib.hid (HB4.out.trans (hk.below (B := W2.heap.size) HB4.out.size (fun g e => by have := HGe.out; rcases e with e | e | e <;> omega)))
  have H5 := Lib.hid (HX.out.trans (HB5.out.mono HX.out.size))
  clear hmi hk hl HQ HMi HGe HMk HB1 HB2 HB3 HB4 HG HGr HC HTI HCH
  obtain ⟨⟨⟨a0, a1, a2⟩, a3, a4, a5⟩, a6, a7, a8⟩ := nine (CF.out _ HB5.out)
  cases ok
  case false =>
    clear hR
    go_wp2_with (first
      | (go_at_call 13; (with_reducible refine (HA.out _).mono ?_); rintro e u6 ⟨rfl, hb⟩
         have HB6 := Lib.hid (HB5.out.trans (hb.mono HB5.out.size))
         clear hb))
    go_ret
    exact ⟨rfl, HX.out.trans (HB6.out.mono HX.out.size)⟩
  have hft := (hR rfl).2.2
  clear hR
  have z1 : yl ≤ (s.size : Int) := hft.lo
  have z2 : yh < 0 ∨ (s.size : Int) ≤ yh := hft.hi
  have HF := Lib.hid hft
  have HZ2 := Lib.hid z2
  have HZ1 := Lib.hid z1
  clear hft z1 z2
  go_upto_region 12 with (first
    | (go_at_call 7; (with_reducible refine (HLp.out _ H5.out).mono ?_); rintro e w5 ⟨rfl, hb⟩
       have HB6 := Lib.hid (HB5.out.trans (hb.mono HB5.out.size))
       clear a0 a1 a2 a3 a4 a5 a6 a7 a8 hb
       obtain ⟨⟨⟨a0, a1, a2⟩, a3, a4, a5⟩, a6, a7, a8⟩ := nine (CF.out _ HB6.out))
    | (go_at_call 9; (with_reducible refine (HFp.out _ (HX.out.trans (HB6.out.mono HX.out.size))).mono ?_); rintro e w6 ⟨rfl, hb⟩
       have HB7 := Lib.hid (HB6.out.trans (hb.mono HB6.out.size))
       clear a0 a1 a2 a3 a4 a5 a6 a7 a8 hb))
  have hs := heap_alloc_new w6 (.cells #[.int .u64 (wd p 0 64 : Nat), .int .u64 (wd p 64 64 : Nat), .int .u64 (wd p 128 64 : Nat), .int .u64 (wd p 192 64 : Nat)] 25)
  have hbs : Below w6.heap.size w6 (w6.alloc (.cells #[.int .u64 (wd p 0 64 : Nat), .int .u64 (wd p 64 64 : Nat), .int .u64 (wd p 128 64 : Nat), .int .u64 (wd p 192 64 : Nat)] 25)) := (Below.refl _ _).alloc (Nat.le_refl _) _
  have HB8 := Lib.hid (HB7.out.trans (hbs.mono HB7.out.size))
  have HS := Lib.hid hs
  clear hs hbs
  generalize w6.alloc (.cells #[.int .u64 (wd p 0 64 : Nat), .int .u64 (wd p 64 64 : Nat), .int .u64 (wd p 128 64 : Nat), .int .u64 (wd p 192 64 : Nat)] 25) = w7 at *
  generalize w6.heap.size = sb at *
  obtain ⟨⟨⟨a0, a1, a2⟩, a3, a4, a5⟩, a6, a7, a8⟩ := nine (CF.out _ HB8.out)
  have y1 : ¬ ((s.size : Int) < yl) := by have := HZ1.out; omega
  have y2 : decide ((s.size : Int) < yl) = false := decide_eq_false y1
  have y3 : ¬ (yh < -1) := by have := HY.out; omega
  have y4 : decide (yh < -1) = false := decide_eq_false y3
  go_cut [66] (fun x wx => x = .bool false ∧ Hid (wx = w7))
  case first =>
    rcases HZ2.out with hy | hy
    · have y5 : ¬ (0 ≤ yh) := by omega
      have y6 : decide (0 ≤ yh) = false := decide_eq_false y5
      go_wp2_with fail
      all_goals go_meet
      all_goals (case rel => exact ⟨rfl, Lib.hid rfl⟩)
    · by_cases y7 : 0 ≤ yh
      · have y5 : decide (0 ≤ yh) = true := decide_eq_true y7
        have y8 : ¬ ((s.size : Int) > yh) := by omega
        have y9 : decide ((s.size : Int) > yh) = false := decide_eq_false y8
        go_wp2_with fail
        all_goals go_meet
        all_goals (case rel => exact ⟨rfl, Lib.hid rfl⟩)
      · exact absurd hy (by have : (0 : Int) ≤ (s.size : Int) := by omega
                            omega)
  case rest =>
  obtain ⟨rfl, hwc⟩ := hcut
  obtain rfl := hwc.out
  clear y1 y2 y3 y4 hwc
  have HCs : Hid (cs p = .agg #[.int .u64 (wd p 0 64 : Nat), .int .u64 (wd p 64 64 : Nat), .int .u64 (wd p 128 64 : Nat), .int .u64 (wd p 192 64 : Nat)]) := Lib.hid rfl
  by_cases hs0 : s.size = 0
  case pos =>
    have hsi : (s.size : Int) = 0 := by omega
    have hnb : yb = true := HF.out.nul (List.eq_nil_of_length_eq_zero hs0)
    subst hnb
    clear hs0
    go_wp2_with (first
      | (go_at_call 11; (with_reducible refine (HNp.out _ (HX.out.trans (HB8.out.mono HX.out.size))).mono ?_); rintro e w8 ⟨rfl, hb⟩
         have HB9 := Lib.hid (HB8.out.trans (hb.mono HB8.out.size))
         clear a0 a1 a2 a3 a4 a5 a6 a7 a8 hb)
      | (go_at_call 13; (with_reducible refine (HA.out _).mono ?_); rintro e u6 ⟨rfl, hb⟩
         have HBa := Lib.hid (HB9.out.trans (hb.mono HB9.out.size))
         clear hb))
    go_ret
    exact ⟨rfl, HX.out.trans (HBa.out.mono HX.out.size)⟩
  have hsi : (0 : Int) < (s.size : Int) := by omega
  have hsn : ((s.size : Int) == 0) = false := beq_eq_false_iff_ne.2 (by omega)
  obtain ⟨b, r, hbr⟩ : ∃ b r, s.data.toList = b :: r := by
    cases hq : s.data.toList with
    | nil => exact absurd (congrArg List.length hq) hs0
    | cons b r => exact ⟨b, r, rfl⟩
  have hpb : p b.toNat = true := HF.out.fst b r hbr
  have HBr := Lib.hid hbr
  have HPb := Lib.hid hpb
  have HHas : Hid (∀ w, Calls Try.prog 18 #[.agg #[.int .u64 (wd p 0 64 : Nat), .int .u64 (wd p 64 64 : Nat), .int .u64 (wd p 128 64 : Nat), .int .u64 (wd p 192 64 : Nat)], .int .u8 (b.toNat : Int)] w fun e w' => e = .returned (.bool true) ∧ Below w.heap.size w w') := Lib.hid fun w => by
    have := rhas_any p b.toNat b.toNat_lt w
    rw [HCs.out, hpb] at this
    exact this
  have hidx : ∀ w, (Instr.index 9 (.string s) (.int .i64 0)).run Try.prog w = .ok (.int .u8 (b.toNat : Int)) w := fun w => by
    have hl : (0 : Int) ≤ 0 ∧ (0 : Int) < (s.size : Int) := ⟨Int.le_refl _, hsi⟩
    rw [run_index_string (h := Try.underlying9), dif_pos hl]
    have hq : s[(0 : Int).toNat]'(by have := hl.2; show 0 < s.size; omega) = b := by
      have h0 : 0 < s.data.toList.length := by rw [hbr]; exact Nat.succ_pos _
      show s.data.toList[0]'h0 = b
      simp only [hbr, List.getElem_cons_zero]
    rw [hq]
  clear hbr hpb
  have c4 : (wc.cell? ⟨sb, 0, none⟩ = some (.int .u64 (wd p 0 64 : Nat)) ∧ wc.cell? ⟨sb, 1, none⟩ = some (.int .u64 (wd p 64 64 : Nat))) ∧ wc.cell? ⟨sb, 2, none⟩ = some (.int .u64 (wd p 128 64 : Nat)) ∧ wc.cell? ⟨sb, 3, none⟩ = some (.int .u64 (wd p 192 64 : Nat)) := ⟨⟨cell_of_row _ sb 0 _ _ _ HS.out, cell_of_row _ sb 1 _ _ _ HS.out⟩, cell_of_row _ sb 2 _ _ _ HS.out, cell_of_row _ sb 3 _ _ _ HS.out⟩
  obtain ⟨⟨c0, c1⟩, c2, c3⟩ := c4
  go_upto_region 16 with fail
  go_still_tail 3, (by kernel_rfl)
  change wpList _ _ _ _ _ wc.drew
  have HB9 := Lib.hid (HB8.out.trans (Below.refl _ _).drew)
  clear a0 a1 a2 a3 a4 a5 a6 a7 a8 c0 c1 c2 c3 hidx
  generalize wc.drew = w9 at *
  go_wp2_with (first
    | (go_at_call 18; (with_reducible refine (HHas.out _).mono ?_); rintro e w10 ⟨rfl, hb⟩
       have HBa := Lib.hid (HB9.out.trans (hb.mono HB9.out.size))
       clear hb)
    | (go_at_call 13; (with_reducible refine (HA.out _).mono ?_); rintro e w11 ⟨rfl, hb⟩
       have HBb := Lib.hid (HBa.out.trans (hb.mono HBa.out.size))
       clear hb))
  go_ret
  exact ⟨rfl, HX.out.trans (HBb.out.mono HX.out.size)⟩
end Go.Proofs.Ytpfbpgbgedbalaa
/- The choices, opened. -/
set_option linter.unusedVariables false
set_option maxRecDepth 100000
namespace Go.Proofs.Ytpfbpgbgedbalaa
open Go.RowKit Go.ChangeShapes Go.WideShapes Go.ChangeAt

variable {H : Type} {enc : TypeId × Value → H} {W : World} {base : Nat} {sp : Nat → Bool} {hd : Bool}

theorem cells_int1 : Try.prog.cellsOf 3 = 1 := by kernel_rfl
theorem open_ch {v : Value} {b0 : Nat} {d : DataW H} {p : List MemPlace} (hv : Value.okWide Try.prog W .any b0 35 v)
    (h : DataW.Trod enc Try.prog W base sp hd 35 v d p) : ∃ c : List Int, CH W W.heap.size v c := by
  obtain ⟨s, l, cc, rfl⟩ := okWide_slice Try.underlying35 hv
  obtain ⟨fuel, hf⟩ := h
  have hf' : DataW.trod enc Try.prog W base sp hd fuel 35 [.slice s l cc] = some (d, p) := hf
  rcases open_ints Try.underlying35 Try.underlying3 cells_int1 hf' with ⟨e, _⟩ | ⟨a, len, cap, zs, e, _, hl, hm, hlen, _, hc, hw⟩
  · obtain ⟨rfl, rfl, rfl⟩ : s = none ∧ l = 0 ∧ cc = 0 := by
      have := List.cons.inj e |>.1
      injection this with e1 e2 e3
      exact ⟨e1, e2, e3⟩
    exact ⟨[], show CH W W.heap.size _ [] from ⟨fun x h => absurd h (List.not_mem_nil), Nat.zero_le _, none, 0, rfl, Nat.le_refl _, Or.inl rfl⟩⟩
  · obtain ⟨rfl, rfl, rfl⟩ : s = some a ∧ l = len ∧ cc = cap := by
      have := List.cons.inj e |>.1
      injection this with e1 e2 e3
      exact ⟨e1, e2, e3⟩
    have hle : l ≤ zs.length := by rw [hlen]; split <;> omega
    have htl : (zs.take l).length = l := by rw [List.length_take]; omega
    refine ⟨zs.take l, show CH W W.heap.size _ (zs.take l) from ⟨fun x hx => ?_, by rw [htl]; omega, some a, cc, by rw [htl], by rw [htl]; exact hl, ?_⟩⟩
    · have := hw x (List.mem_of_mem_take hx)
      unfold Lit.wf at this
      simp only [Bool.and_eq_true, decide_eq_true_eq] at this
      exact ⟨this.1, this.2⟩
    · by_cases h0 : l = 0
      · exact Or.inl (htl.trans h0)
      obtain ⟨b, off, spot⟩ := a
      have hc0 := hc 0 (by omega)
      have hspot : spot = none := by simpa [Addr.add] using World.cell?_spot hc0
      subst hspot
      refine .inr ⟨b, off, rfl, World.block_lt_of_cell? W _ hc0, World.block_lt_of_cell? W _ hc0, fun j hj => ?_⟩
      have hj2 : j < l := by rw [← htl]; exact hj
      have := hc j (by omega)
      have e1 : (⟨b, off, none⟩ : Addr).add j = ⟨b, off + j, none⟩ := by
        unfold Addr.add
        split
        · rename_i h; subst h; rfl
        · rfl
      rw [e1] at this
      rw [this, List.getElem_take, List.getD, List.getElem?_eq_getElem (by omega)]
      rfl
end Go.Proofs.Ytpfbpgbgedbalaa
