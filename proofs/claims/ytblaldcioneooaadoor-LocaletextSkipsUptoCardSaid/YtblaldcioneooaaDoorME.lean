/- Several texts in one (a claim has at most 60 files). -/
import Derived.Test.YtblaldcioneooaaDoorMC
import Derived.Test.YtblaldcioneooaaDoorMD
import Derived.Test.YtblaldcioneooaaDoorCsSmall
import Derived.WalkKit
import Derived.ProofKit
import Derived.OpenShut
import Derived.Lay
import Derived.LaidMore
import Derived.LaidLaws
import Derived.SizedLaws
import Derived.Laws.IdiomArrays
import Derived.Lib.LaidTab
import Derived.Deep.DeepHandedRow

/- The law on skipped lines. (Written by gen_ltsk.py.) -/
set_option linter.unusedVariables false
set_option maxRecDepth 100000
namespace Go.Proofs.YtblaldcioneooaaDoor
open Go.RowKit

/-! ### The law -/
theorem joined (l x : List UInt8) (i : Nat) (hi : i < (lin l).length) (hl : l.length ≤ 64534) (hx : x.length ≤ 1001) (v : Value) (w : World) (hv : SA w v ((lin l).take i ++ x :: (lin l).drop i)) :
    Calls Tryd.prog 25 #[v, .bool (lend l)] w fun e w' => e = .returned (.string (mk (jn ((lin l).take i ++ x :: (lin l).drop i) (lend l)))) ∧ Below w.heap.size w w' := by
  refine rjoin_any v _ _ w hv ?_
  have h1 := jn_size ((lin l).take i ++ x :: (lin l).drop i) (lend l) (by simp)
  rw [ins_size l x i hi] at h1
  cases hl9 : lend l
  · rw [hl9] at h1
    simp only [Bool.false_eq_true, if_false] at h1
    omega
  · rw [hl9] at h1
    simp only [if_true] at h1
    omega
theorem lines_of (s : ByteArray) (hs : s.size ≤ 4294967280) : Lined s (lin s.data.toList) (lend s.data.toList) := fun w => rlines_any s w hs
theorem hash_form (l : List UInt8) : ∃ y q, lin (35 :: l) = y :: q := by
  cases h : lin (35 :: l) with
  | cons y q => exact ⟨y, q, rfl⟩
  | nil =>
    have := jn_lin (35 :: l)
    rw [h] at this
    unfold jn at this
    rw [if_pos rfl] at this
    cases this
theorem hash_lines (l : List UInt8) (h : no isL (35 :: l) = true) : lin (35 :: l) = [35 :: l] := by
  have h1 := segs_no isL (35 :: l) h
  exact ((lin_of (35 :: l) [] (35 :: l) h1).2 (by simp)).1
theorem mk_ne (a b : List UInt8) (h : a ≠ b) : ((mk a).toList == (mk b).toList) = false := by
  rw [toList_mk, toList_mk]
  exact beq_false_of_ne h
theorem skips_law (s t : ByteArray) (line : Int) (hs : s.size ≤ 4294967280) (w : World) (hT : tabAt w) :
    Calls Tryd.prog 7 #[.string s, .int .i64 line, .string t] w fun e w' => e = .returned (.bool true) ∧ Below w.heap.size w w' := by
  have HT := Lib.hid hT
  have H1 : Hid (Lined s (lin s.data.toList) (lend s.data.toList)) := lines_of s hs
  by_cases h0 : line < 0
  · exact sk_neg s t line _ _ _ rfl h0 H1 w HT
  by_cases h1 : ((lin s.data.toList).length : Int) ≤ line
  · exact sk_big s t line _ _ _ rfl h0 h1 H1 w HT
  by_cases h2 : 1000 < t.size
  · exact sk_long s t line _ _ _ rfl h0 h1 h2 H1 w HT
  by_cases h3 : 64534 < s.size
  · exact sk_lim s t line _ _ _ rfl h0 h1 h2 h3 H1 w HT
  have hsl : s.data.toList.length ≤ 64534 := by rw [size_len]; omega
  have hll := (lin_le s.data.toList).1
  have hn2 : (lin s.data.toList).length ≤ 100000 := by omega
  obtain ⟨i, rfl⟩ : ∃ i : Nat, line = (i : Int) := ⟨line.toNat, by omega⟩
  have hi : i < (lin s.data.toList).length := by omega
  have H4 := parse_uni s _ rfl
  have hP : ∀ (e : Int × Nat), parseT s.data.toList = .error e → e.1 ≠ 0 ∧ e.2 ≤ 100000 := fun e he => by
    have := parse_ne he
    exact ⟨this.1, by omega⟩
  rcases Bool.eq_false_or_eq_true t.toList.isEmpty with ht | ht
  · have H2 : Hid (∀ w, Calls Tryd.prog 24 #[.string ⟨#[]⟩] w fun e w' => ∃ b' a2 c2, e = .returned (.tuple #[.slice a2 0 c2, .bool b']) ∧ Below w.heap.size w w') := fun w =>
      (rlines_any ⟨#[]⟩ w (by decide)).mono fun e w' ⟨v, he, ⟨a, c, hv, _⟩, hb⟩ => by subst he; subst hv; exact ⟨_, a, c, rfl, hb⟩
    have H3 := Lib.hid (joined s.data.toList [] i hi hsl (by decide))
    have H5 := parse_uni (mk (jn ((lin s.data.toList).take i ++ [] :: (lin s.data.toList).drop i) (lend s.data.toList))) (skipR i (parseT s.data.toList)) (by rw [mk_data]; exact skip_math s.data.toList [] i hi skip_nil rfl hsl (by decide))
    rw [(locOf_skip i _).1, (locOf_skip i _).2] at H5
    cases hr : parseT s.data.toList with
    | ok L =>
      rw [hr] at H4 H5
      exact sk_empty_0 s t _ i _ _ _ _ _ _ _ rfl rfl ht rfl hi hn2 (by omega) (by omega) (Int.le_refl 0) (by decide) H1 H2 H3 H4 H5 w HT
    | error e =>
      obtain ⟨p1, p2⟩ := hP e hr
      rw [hr] at H4 H5
      by_cases hlt : i < e.2
      · refine sk_empty_1 s t _ i _ (e.2 : Int) _ _ _ _ e.1 p1 (by omega) ?_ ht rfl hi hn2 (by omega) (by omega) (by omega) (by omega) H1 H2 H3 H4 H5 w HT
        show ((if i < e.2 then e.2 + 1 else e.2 : Nat) : Int) = _
        rw [if_pos hlt]; rfl
      · refine sk_empty_2 s t _ i _ (e.2 : Int) _ _ _ _ e.1 p1 (by omega) ?_ ht rfl hi hn2 (by omega) (by omega) (by omega) (by omega) H1 H2 H3 H4 H5 w HT
        show ((if i < e.2 then e.2 + 1 else e.2 : Nat) : Int) = _
        rw [if_neg hlt]
  · have htl : t.data.toList.length = t.size := size_len t
    have hk2 : (mk (35 :: t.data.toList)).size ≤ 4294967280 := by rw [mk_size, List.length_cons]; omega
    have HL := fun w => rlines_any (mk (35 :: t.data.toList)) w hk2
    rw [mk_data] at HL
    rcases Bool.eq_false_or_eq_true (no isL (35 :: t.data.toList)) with hno | hno
    · rw [hash_lines _ hno] at HL
      have H2 : Hid (∀ w, Calls Tryd.prog 24 #[.string (mk (35 :: t.data.toList))] w fun e w' => ∃ b' b2 o2 c2, e = .returned (.tuple #[.slice (some ⟨b2, o2, none⟩) 1 c2, .bool b']) ∧ w'.cell? ⟨b2, o2, none⟩ = some (.string (mk (35 :: t.data.toList))) ∧ Below w.heap.size w w') := fun w =>
        (HL w).mono fun e w' ⟨v, he, ⟨a, c, hv, _, hx⟩, hb⟩ => by
          obtain ⟨b2, o2, rfl, _, hc⟩ := hx.resolve_left (by simp)
          have := hc 0 _ rfl
          rw [Nat.add_zero] at this
          subst he
          subst hv
          exact ⟨_, b2, o2, c, rfl, this, hb⟩
      have H3 := Lib.hid (joined s.data.toList (35 :: t.data.toList) i hi hsl (by rw [List.length_cons]; omega))
      have H5 := parse_uni (mk (jn ((lin s.data.toList).take i ++ (35 :: t.data.toList) :: (lin s.data.toList).drop i) (lend s.data.toList))) (skipR i (parseT s.data.toList)) (by rw [mk_data]; exact skip_math s.data.toList (35 :: t.data.toList) i hi (skip_hash _) hno hsl (by rw [List.length_cons]; omega))
      rw [(locOf_skip i _).1, (locOf_skip i _).2] at H5
      cases hr : parseT s.data.toList with
      | ok L =>
        rw [hr] at H4 H5
        exact sk_hash_0 s t _ i _ _ _ _ _ _ _ rfl rfl ht _ (mk_hash t).symm rfl hi hn2 (by omega) (by omega) (Int.le_refl 0) (by decide) H1 H2 H3 H4 H5 w HT
      | error e =>
        obtain ⟨p1, p2⟩ := hP e hr
        rw [hr] at H4 H5
        by_cases hlt : i < e.2
        · refine sk_hash_1 s t _ i _ (e.2 : Int) _ _ _ _ e.1 p1 (by omega) ?_ ht _ (mk_hash t).symm rfl hi hn2 (by omega) (by omega) (by omega) (by omega) H1 H2 H3 H4 H5 w HT
          show ((if i < e.2 then e.2 + 1 else e.2 : Nat) : Int) = _
          rw [if_pos hlt]; rfl
        · refine sk_hash_2 s t _ i _ (e.2 : Int) _ _ _ _ e.1 p1 (by omega) ?_ ht _ (mk_hash t).symm rfl hi hn2 (by omega) (by omega) (by omega) (by omega) H1 H2 H3 H4 H5 w HT
          show ((if i < e.2 then e.2 + 1 else e.2 : Nat) : Int) = _
          rw [if_neg hlt]
    · obtain ⟨y, q, hyq⟩ := hash_form t.data.toList
      have hy : no isL y = true := lin_no (35 :: t.data.toList) y (by rw [hyq]; exact List.mem_cons_self ..)
      have hne : y ≠ 35 :: t.data.toList := by intro h; rw [h, hno] at hy; cases hy
      rw [hyq] at HL
      cases q with
      | nil =>
        refine sk_nl2 s t i _ _ _ rfl h0 h1 h2 h3 hn2 ht _ (mk y) (mk_ne _ _ hne) (mk_hash t).symm (fun w => (HL w).mono fun e w' ⟨v, he, ⟨a, c, hv, _, hx⟩, hb⟩ => ?_) H1 w HT
        obtain ⟨b2, o2, rfl, _, hc⟩ := hx.resolve_left (by simp)
        have := hc 0 _ rfl
        rw [Nat.add_zero] at this
        subst he
        subst hv
        exact ⟨⟨_, b2, o2, c, rfl, this⟩, hb⟩
      | cons z q =>
        exact sk_nl1 s t i _ _ _ rfl h0 h1 h2 h3 hn2 ht _ (mk_hash t).symm (fun w => (HL w).mono fun e w' ⟨v, he, ⟨a, c, hv, _⟩, hb⟩ => by subst he; subst hv; exact ⟨⟨_, a, (y :: z :: q).length, c, rfl, by simp⟩, hb⟩) H1 w HT
end Go.Proofs.YtblaldcioneooaaDoor

/- What the frames of layer 6's proofs share: a witness, and the library's table as it is laid. -/
set_option linter.unusedVariables false
namespace Go.Proofs.YtblaldcioneooaaDoor
open Go.ChangeShapes Go.WideShapes Go.ChangeAt Go.RowKit

theorem witness_rowS {H : Type} {enc : TypeId × Value → H} {C : Checked} {os : Os} {f : FuncId} {fn : Func} {s : OpenSpec} {conds : List PathCond} {apart : Bool} {laid : List (String × DataW Unit)} (modest : Bool) (w0 : World) (args : Array Value) (hos : w0.os = os)
    (hsh : (w0.forCall (fun _ _ => 0) ⟨#[], args, []⟩).Shaped C.prog)
    (hok : Input.okWideB C.prog (w0.forCall (fun _ _ => 0) ⟨#[], args, []⟩) f ⟨#[], args, []⟩ = true)
    (hrow : s.preRow enc C.prog fn conds apart laid (w0.forCall (fun _ _ => 0) ⟨#[], args, []⟩).memory args) :
    ∃ (w : World) (tape : Tape) (i : Input), w.os = os ∧ (w.forCall tape i).Shaped C.prog ∧ i.vars = [] ∧ Input.okWide C.prog (w.forCall tape i) .any w.heap.size f i ∧
      s.preRow enc C.prog fn conds apart laid (w.forCall tape i).memory i.args ∧ ({ modest := modest } : Assume).holds C.prog (lone (Frame.enter C.prog f i.args .normal) [] (w.forCall tape i)) :=
  ⟨w0, fun _ _ => 0, ⟨#[], args, []⟩, hos, hsh, (Input.okWide_of_okWideB (base := 0) hok).1, (Input.okWide_of_okWideB hok).2, hrow, by
    simp only [Assume.holds]
    exact ⟨by simp, by simp, fun _ => Modest.zero, by simp, by simp⟩⟩

/-- The listed variable's name, and what is listed. -/
def tabName : String := "math/bits.deBruijn64tab"
def laid1 : List (String × DataW Unit) := [(tabName, Rows.laid_math_bits_deBruijn64tab), ("unicode/utf8.acceptRanges", Rows.laid_unicode_utf8_acceptRanges), ("unicode/utf8.first", Rows.laid_unicode_utf8_first)]
theorem gTab : Tryd.prog.globalNamed tabName = some 1 := by kernel_rfl
theorem tTab : (Tryd.prog.globals[1]?).map (·.type) = some 114 := by kernel_rfl
theorem tab_laid : (Rows.laid_math_bits_deBruijn64tab : DataW Unit) = Lib.tabData .u8 (Lib.deBruijn64tab.map fun n : Nat => ((n : Nat) : Int)) := by
  unfold Rows.laid_math_bits_deBruijn64tab Lib.tabData Lib.deBruijn64tab
  rfl

theorem tab_of {W : World} (h : laidMetH Tryd.prog laid1 W) : tabAt W := by
  rw [MakeChecks.laidMetH_plain _ _ _ (by kernel_rfl)] at h
  unfold laid1 at h
  rw [tab_laid] at h
  have ht := Lib.tabIs_of_head gTab tTab Tryd.underlying114 Tryd.underlying5 (by kernel_rfl) (by kernel_rfl) h
  intro j hj
  have := Lib.TabIs.cell ht gTab j (by simpa using hj)
  rw [this]
  simp [List.getD, List.getElem?_eq_getElem hj]

end Go.Proofs.YtblaldcioneooaaDoor
