/-
  NARROWER THAN 'FOR EVERY INPUT', by the rows' own cells (each row's printed sentence says how): ReprogPrints: laid · ReprogValid: loops, laid · ReprogGroups: loops, laid · ReprogJoins: loops, laid · ReprogTexts: laid.
  DERIVED. THE GIVEN ROWS OF THIS SEAT. 5 by the template 'for every input the law returns true; each argument reads behind the call as it read before'; 0 by the template 'total and deterministic' (their statements: YtbjobbkipmkndaaDoorTotals.lean).
  GIVEN WITH THE SEED: the statements are not yours to turn. If you find one false, say at which input.
  Laid BY PROGRAM, IN A SANDBOX (cutbox-rows.mjs): the forced cells as the released guide's own fill.sh prints them over the translation cbc69346edee46d1… (all of the seat's roots in one cut). By AI agents, Wed Nov 11 2026. No macro, syntax, notation, axiom, sorry.
-/
import Derived.Test.YtbjobbkipmkndaaDoorChecked
import GoSem.Claim
import GoSem.ClaimJoined
import GoSem.ClaimMapViews
import Derived.JoinedTies
import Derived.KernelRfl
namespace Go.Proofs.YtbjobbkipmkndaaDoor
/- THE CELL 'sum', in the pinned program and in every row, IS THE sha256 OF THE DUMP (.gsa) THAT YtbjobbkipmkndaaDoorProg.lean LOADS. Nothing in Lean hashes anything: it is a label: what it is worth is what the hold of that sum in a sandbox is worth. -/
noncomputable def Tryd.pinned : Pinned := { name := "ytbjobbkipmkndaadoor", sum := "cbc69346edee46d1def9c37322c0844708762b567bb3b48b5ae129075b0974a3", checked := Tryd.checked }
namespace Rows
def none {H : Type} : Left H := { results := [], args := [] }

/- WHAT THE LISTED PACKAGE-LEVEL VARIABLES READ AS WHEN THE CALL BEGINS. Each datum BY PROGRAM (the guide's laid-datum.mjs) off the statement by which the dump's own 'gosem.cut.vars' lays the variable. In a bare row this is a premise. The card (YtbjobbkipmkndaaDoorCards.lean) ties it to the program's text. -/
def laid_math_bits_deBruijn64tab {H : Type} : DataW H := .agg [.lit (.int .u8 0), .lit (.int .u8 1), .lit (.int .u8 56), .lit (.int .u8 2), .lit (.int .u8 57), .lit (.int .u8 49), .lit (.int .u8 28), .lit (.int .u8 3), .lit (.int .u8 61), .lit (.int .u8 58), .lit (.int .u8 42), .lit (.int .u8 50), .lit (.int .u8 38), .lit (.int .u8 29), .lit (.int .u8 17), .lit (.int .u8 4), .lit (.int .u8 62), .lit (.int .u8 47), .lit (.int .u8 59), .lit (.int .u8 36), .lit (.int .u8 45), .lit (.int .u8 43), .lit (.int .u8 51), .lit (.int .u8 22), .lit (.int .u8 53), .lit (.int .u8 39), .lit (.int .u8 33), .lit (.int .u8 30), .lit (.int .u8 24), .lit (.int .u8 18), .lit (.int .u8 12), .lit (.int .u8 5), .lit (.int .u8 63), .lit (.int .u8 55), .lit (.int .u8 48), .lit (.int .u8 27), .lit (.int .u8 60), .lit (.int .u8 41), .lit (.int .u8 37), .lit (.int .u8 16), .lit (.int .u8 46), .lit (.int .u8 35), .lit (.int .u8 44), .lit (.int .u8 21), .lit (.int .u8 52), .lit (.int .u8 32), .lit (.int .u8 23), .lit (.int .u8 11), .lit (.int .u8 54), .lit (.int .u8 26), .lit (.int .u8 40), .lit (.int .u8 15), .lit (.int .u8 34), .lit (.int .u8 20), .lit (.int .u8 31), .lit (.int .u8 10), .lit (.int .u8 25), .lit (.int .u8 14), .lit (.int .u8 19), .lit (.int .u8 9), .lit (.int .u8 13), .lit (.int .u8 8), .lit (.int .u8 7), .lit (.int .u8 6)]
def laid_texttools_reprog_kinds {H : Type} : DataW H := .agg [.agg [.lit (.string [115, 101, 116]), .lit (.int .i64 0), .lit (.bool true)], .agg [.lit (.string [115, 112, 108, 105, 116]), .lit (.int .i64 2), .lit (.bool false)], .agg [.lit (.string [106, 117, 109, 112]), .lit (.int .i64 1), .lit (.bool false)], .agg [.lit (.string [98, 101, 103, 105, 110]), .lit (.int .i64 0), .lit (.bool true)], .agg [.lit (.string [101, 110, 100]), .lit (.int .i64 0), .lit (.bool true)], .agg [.lit (.string [109, 97, 116, 99, 104]), .lit (.int .i64 0), .lit (.bool false)]]

/-- 'texttoolslaw10.ReprogPrints': WHATEVER THE INPUT: true; the input reads as it did. -/
def reprogPrintsSpec : ChangeSpec := { name := "reprogPrints", fn := fun _ => fun
  | [d] => { results := [.lit (.bool true)], args := [d] }
  | _ => none }
def reprogPrintsRow : OpenClaim := { program := "ytbjobbkipmkndaadoor", sum := "cbc69346edee46d1def9c37322c0844708762b567bb3b48b5ae129075b0974a3", func := "texttools/texttoolslaw10.ReprogPrints", spec := "reprogPrints", unfollowed := true, recurses := true, named := ["texttools/reprog.kinds", "math/bits.deBruijn64tab"], apart := false, laid := [("math/bits.deBruijn64tab", laid_math_bits_deBruijn64tab), ("texttools/reprog.kinds", laid_texttools_reprog_kinds)] }
def ReprogPrintsSaid : Prop := reprogPrintsRow.holds Tryd.pinned (OpenSpec.ofChange reprogPrintsSpec)

/-- ITS FALSE NEIGHBOUR: 'it returns false'. Refute it at one input. -/
def reprogPrintsWrong : ChangeSpec := { name := "reprogPrints", fn := fun _ => fun
  | [d] => { results := [.lit (.bool false)], args := [d] }
  | _ => none }
def ReprogPrintsWrongFalsely : Prop := reprogPrintsRow.holds Tryd.pinned (OpenSpec.ofChange reprogPrintsWrong)

/-- 'texttoolslaw10.ReprogValid': WHATEVER THE INPUT: true; the input reads as it did. -/
def reprogValidSpec : ChangeSpec := { name := "reprogValid", fn := fun _ => fun
  | [d1, d2] => { results := [.lit (.bool true)], args := [d1, d2] }
  | _ => none }
def reprogValidRow : OpenClaim := { program := "ytbjobbkipmkndaadoor", sum := "cbc69346edee46d1def9c37322c0844708762b567bb3b48b5ae129075b0974a3", func := "texttools/texttoolslaw10.ReprogValid", spec := "reprogValid", unfollowed := true, recurses := true, named := ["texttools/reprog.kinds"], loops := true, apart := false, laid := [("texttools/reprog.kinds", laid_texttools_reprog_kinds)] }
def ReprogValidSaid : Prop := reprogValidRow.holds Tryd.pinned (OpenSpec.ofChange reprogValidSpec)

/-- ITS FALSE NEIGHBOUR: 'it returns false'. Refute it at one input. -/
def reprogValidWrong : ChangeSpec := { name := "reprogValid", fn := fun _ => fun
  | [d1, d2] => { results := [.lit (.bool false)], args := [d1, d2] }
  | _ => none }
def ReprogValidWrongFalsely : Prop := reprogValidRow.holds Tryd.pinned (OpenSpec.ofChange reprogValidWrong)

/-- 'texttoolslaw10.ReprogGroups': WHATEVER THE INPUT: true; the input reads as it did. -/
def reprogGroupsSpec : ChangeSpec := { name := "reprogGroups", fn := fun _ => fun
  | [d1, d2] => { results := [.lit (.bool true)], args := [d1, d2] }
  | _ => none }
def reprogGroupsRow : OpenClaim := { program := "ytbjobbkipmkndaadoor", sum := "cbc69346edee46d1def9c37322c0844708762b567bb3b48b5ae129075b0974a3", func := "texttools/texttoolslaw10.ReprogGroups", spec := "reprogGroups", unfollowed := true, recurses := true, named := ["texttools/reprog.kinds"], loops := true, apart := false, laid := [("texttools/reprog.kinds", laid_texttools_reprog_kinds)] }
def ReprogGroupsSaid : Prop := reprogGroupsRow.holds Tryd.pinned (OpenSpec.ofChange reprogGroupsSpec)

/-- ITS FALSE NEIGHBOUR: 'it returns false'. Refute it at one input. -/
def reprogGroupsWrong : ChangeSpec := { name := "reprogGroups", fn := fun _ => fun
  | [d1, d2] => { results := [.lit (.bool false)], args := [d1, d2] }
  | _ => none }
def ReprogGroupsWrongFalsely : Prop := reprogGroupsRow.holds Tryd.pinned (OpenSpec.ofChange reprogGroupsWrong)

/-- 'texttoolslaw10.ReprogJoins': WHATEVER THE INPUT: true; the input reads as it did. -/
def reprogJoinsSpec : ChangeSpec := { name := "reprogJoins", fn := fun _ => fun
  | [d1, d2] => { results := [.lit (.bool true)], args := [d1, d2] }
  | _ => none }
def reprogJoinsRow : OpenClaim := { program := "ytbjobbkipmkndaadoor", sum := "cbc69346edee46d1def9c37322c0844708762b567bb3b48b5ae129075b0974a3", func := "texttools/texttoolslaw10.ReprogJoins", spec := "reprogJoins", unfollowed := true, recurses := true, named := ["texttools/reprog.kinds"], loops := true, apart := false, laid := [("texttools/reprog.kinds", laid_texttools_reprog_kinds)] }
def ReprogJoinsSaid : Prop := reprogJoinsRow.holds Tryd.pinned (OpenSpec.ofChange reprogJoinsSpec)

/-- ITS FALSE NEIGHBOUR: 'it returns false'. Refute it at one input. -/
def reprogJoinsWrong : ChangeSpec := { name := "reprogJoins", fn := fun _ => fun
  | [d1, d2] => { results := [.lit (.bool false)], args := [d1, d2] }
  | _ => none }
def ReprogJoinsWrongFalsely : Prop := reprogJoinsRow.holds Tryd.pinned (OpenSpec.ofChange reprogJoinsWrong)

/-- 'texttoolslaw10.ReprogTexts': WHATEVER THE INPUT: true; the input reads as it did. -/
def reprogTextsSpec : ChangeSpec := { name := "reprogTexts", fn := fun _ => fun
  | [d1, d2] => { results := [.lit (.bool true)], args := [d1, d2] }
  | _ => none }
def reprogTextsRow : OpenClaim := { program := "ytbjobbkipmkndaadoor", sum := "cbc69346edee46d1def9c37322c0844708762b567bb3b48b5ae129075b0974a3", func := "texttools/texttoolslaw10.ReprogTexts", spec := "reprogTexts", unfollowed := true, recurses := true, named := ["texttools/reprog.kinds", "math/bits.deBruijn64tab"], apart := false, laid := [("math/bits.deBruijn64tab", laid_math_bits_deBruijn64tab), ("texttools/reprog.kinds", laid_texttools_reprog_kinds)] }
def ReprogTextsSaid : Prop := reprogTextsRow.holds Tryd.pinned (OpenSpec.ofChange reprogTextsSpec)

/-- ITS FALSE NEIGHBOUR: 'it returns false'. Refute it at one input. -/
def reprogTextsWrong : ChangeSpec := { name := "reprogTexts", fn := fun _ => fun
  | [d1, d2] => { results := [.lit (.bool false)], args := [d1, d2] }
  | _ => none }
def ReprogTextsWrongFalsely : Prop := reprogTextsRow.holds Tryd.pinned (OpenSpec.ofChange reprogTextsWrong)

/- THE SECOND FORM. 'bulk': how many values and letters a reading holds, each counted each time it is reached (what is shared counts as often as it is met; a slice's spare places count too). A statement '..UptoSaid' is the law's where the arguments, and the package variables that the reading takes, are together of bulk at most 1048576: NARROWER than '..Said'. Prove '..Said' where nothing that the law and all that it calls make is longer than what came in: it says more and counts as full. Else prove '..UptoSaid'. A law counts once. -/
mutual
def uptoBulk {H : Type} : DataW H → Nat
  | .lit (.string bytes) => bytes.length + 1
  | .lit _ => 1
  | .nil => 1
  | .ptr d => uptoBulk d + 1
  | .slice elems spare => uptoBulkAll elems + uptoBulkAll spare + 1
  | .agg parts => uptoBulkAll parts + 1
  | .iface _ d => uptoBulk d + 1
  | .map entries => uptoBulkEntries entries + 1
  | .held _ => 1
def uptoBulkAll {H : Type} : List (DataW H) → Nat
  | [] => 0
  | d :: r => uptoBulk d + uptoBulkAll r
def uptoBulkEntries {H : Type} : List (Lit × DataW H) → Nat
  | [] => 0
  | x :: r => uptoBulkEntry x + uptoBulkEntries r
def uptoBulkEntry {H : Type} : Lit × DataW H → Nat
  | (.string bytes, d) => bytes.length + uptoBulk d + 1
  | (_, d) => uptoBulk d + 1
 end
def uptoSmall : (H : Type) → List (DataW H) → Bool := fun _ ds => decide (uptoBulkAll ds ≤ 1048576)
def OpenSpec.upto (s : _root_.Go.ChangeSpec) : _root_.Go.OpenSpec := { _root_.Go.OpenSpec.ofChange s with cond := some uptoSmall }

/-- 'texttoolslaw10.ReprogPrints', WHERE WHAT IT READS IS OF BULK AT MOST 1048576: true; the input reads as it did. -/
def reprogPrintsUptoRow : OpenClaim := { program := "ytbjobbkipmkndaadoor", sum := "cbc69346edee46d1def9c37322c0844708762b567bb3b48b5ae129075b0974a3", func := "texttools/texttoolslaw10.ReprogPrints", spec := "reprogPrints", unfollowed := true, recurses := true, named := ["texttools/reprog.kinds", "math/bits.deBruijn64tab"], apart := false, laid := [("math/bits.deBruijn64tab", laid_math_bits_deBruijn64tab), ("texttools/reprog.kinds", laid_texttools_reprog_kinds)], narrowed := true }
def ReprogPrintsUptoSaid : Prop := reprogPrintsUptoRow.holds Tryd.pinned (OpenSpec.upto reprogPrintsSpec)

/-- 'texttoolslaw10.ReprogValid', WHERE WHAT IT READS IS OF BULK AT MOST 1048576: true; the input reads as it did. -/
def reprogValidUptoRow : OpenClaim := { program := "ytbjobbkipmkndaadoor", sum := "cbc69346edee46d1def9c37322c0844708762b567bb3b48b5ae129075b0974a3", func := "texttools/texttoolslaw10.ReprogValid", spec := "reprogValid", unfollowed := true, recurses := true, named := ["texttools/reprog.kinds"], loops := true, apart := false, laid := [("texttools/reprog.kinds", laid_texttools_reprog_kinds)], narrowed := true }
def ReprogValidUptoSaid : Prop := reprogValidUptoRow.holds Tryd.pinned (OpenSpec.upto reprogValidSpec)

/-- 'texttoolslaw10.ReprogGroups', WHERE WHAT IT READS IS OF BULK AT MOST 1048576: true; the input reads as it did. -/
def reprogGroupsUptoRow : OpenClaim := { program := "ytbjobbkipmkndaadoor", sum := "cbc69346edee46d1def9c37322c0844708762b567bb3b48b5ae129075b0974a3", func := "texttools/texttoolslaw10.ReprogGroups", spec := "reprogGroups", unfollowed := true, recurses := true, named := ["texttools/reprog.kinds"], loops := true, apart := false, laid := [("texttools/reprog.kinds", laid_texttools_reprog_kinds)], narrowed := true }
def ReprogGroupsUptoSaid : Prop := reprogGroupsUptoRow.holds Tryd.pinned (OpenSpec.upto reprogGroupsSpec)

/-- 'texttoolslaw10.ReprogJoins', WHERE WHAT IT READS IS OF BULK AT MOST 1048576: true; the input reads as it did. -/
def reprogJoinsUptoRow : OpenClaim := { program := "ytbjobbkipmkndaadoor", sum := "cbc69346edee46d1def9c37322c0844708762b567bb3b48b5ae129075b0974a3", func := "texttools/texttoolslaw10.ReprogJoins", spec := "reprogJoins", unfollowed := true, recurses := true, named := ["texttools/reprog.kinds"], loops := true, apart := false, laid := [("texttools/reprog.kinds", laid_texttools_reprog_kinds)], narrowed := true }
def ReprogJoinsUptoSaid : Prop := reprogJoinsUptoRow.holds Tryd.pinned (OpenSpec.upto reprogJoinsSpec)

/-- 'texttoolslaw10.ReprogTexts', WHERE WHAT IT READS IS OF BULK AT MOST 1048576: true; the input reads as it did. -/
def reprogTextsUptoRow : OpenClaim := { program := "ytbjobbkipmkndaadoor", sum := "cbc69346edee46d1def9c37322c0844708762b567bb3b48b5ae129075b0974a3", func := "texttools/texttoolslaw10.ReprogTexts", spec := "reprogTexts", unfollowed := true, recurses := true, named := ["texttools/reprog.kinds", "math/bits.deBruijn64tab"], apart := false, laid := [("math/bits.deBruijn64tab", laid_math_bits_deBruijn64tab), ("texttools/reprog.kinds", laid_texttools_reprog_kinds)], narrowed := true }
def ReprogTextsUptoSaid : Prop := reprogTextsUptoRow.holds Tryd.pinned (OpenSpec.upto reprogTextsSpec)

end Rows
end Go.Proofs.YtbjobbkipmkndaaDoor
