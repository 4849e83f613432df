/-
  NARROWER THAN 'FOR EVERY INPUT', by the rows' own cells (each row's printed sentence says how): LocaleChecks: laid · LocaleSplits: laid · LocaleCompares: laid · LocaleSets: laid · LocaleJoins: laid · LocaleOrders: laid · LocaleRanges: laid · LocaleBytes: laid.
  DERIVED. THE GIVEN ROWS OF THIS SEAT. 8 by the template 'for every input the law returns true; each argument reads behind the call as it read before'; 0 by the template 'total and deterministic' (their statements: YtoijbjndafcedaaDoorTotals.lean).
  GIVEN WITH THE SEED: the statements are not yours to turn. If you find one false, say at which input.
  Laid BY PROGRAM, IN A SANDBOX (cutbox-rows.mjs): the forced cells as the released guide's own fill.sh prints them over the translation 3729946a6f16c2ff… (all of the seat's roots in one cut). By AI agents, Wed Nov 11 2026. No macro, syntax, notation, axiom, sorry.
-/
import Derived.Test.YtoijbjndafcedaaDoorChecked
import GoSem.Claim
import GoSem.ClaimJoined
import GoSem.ClaimMapViews
import Derived.JoinedTies
import Derived.KernelRfl
namespace Go.Proofs.YtoijbjndafcedaaDoor
/- THE CELL 'sum', in the pinned program and in every row, IS THE sha256 OF THE DUMP (.gsa) THAT YtoijbjndafcedaaDoorProg.lean LOADS. Nothing in Lean hashes anything: it is a label: what it is worth is what the hold of that sum in a sandbox is worth. -/
noncomputable def Tryd.pinned : Pinned := { name := "ytoijbjndafcedaadoor", sum := "3729946a6f16c2ff1168c12cb54b06824595fc2a890a37bb7b80c5068e270301", checked := Tryd.checked }
namespace Rows
def none {H : Type} : Left H := { results := [], args := [] }

/- WHAT THE LISTED PACKAGE-LEVEL VARIABLES READ AS WHEN THE CALL BEGINS. Each datum BY PROGRAM (the guide's laid-datum.mjs) off the statement by which the dump's own 'gosem.cut.vars' lays the variable. In a bare row this is a premise. The card (YtoijbjndafcedaaDoorCards.lean) ties it to the program's text. -/
def laid_texttools_locale_standardClasses {H : Type} : DataW H := .agg [.agg [.lit (.string [97, 108, 112, 104, 97]), .lit (.string [65, 90, 97, 122])], .agg [.lit (.string [100, 105, 103, 105, 116]), .lit (.string [48, 57])], .agg [.lit (.string [97, 108, 110, 117, 109]), .lit (.string [48, 57, 65, 90, 97, 122])], .agg [.lit (.string [117, 112, 112, 101, 114]), .lit (.string [65, 90])], .agg [.lit (.string [108, 111, 119, 101, 114]), .lit (.string [97, 122])], .agg [.lit (.string [120, 100, 105, 103, 105, 116]), .lit (.string [48, 57, 65, 70, 97, 102])], .agg [.lit (.string [98, 108, 97, 110, 107]), .lit (.string [9, 9, 32, 32])], .agg [.lit (.string [115, 112, 97, 99, 101]), .lit (.string [9, 13, 32, 32])], .agg [.lit (.string [99, 110, 116, 114, 108]), .lit (.string [0, 31, 127, 127])], .agg [.lit (.string [103, 114, 97, 112, 104]), .lit (.string [33, 126])], .agg [.lit (.string [112, 114, 105, 110, 116]), .lit (.string [32, 126])], .agg [.lit (.string [112, 117, 110, 99, 116]), .lit (.string [33, 47, 58, 64, 91, 96, 123, 126])]]

/-- 'texttoolslaw05.LocaleChecks': WHATEVER THE INPUT: true; the input reads as it did. -/
def localeChecksSpec : ChangeSpec := { name := "localeChecks", fn := fun _ => fun
  | [d] => { results := [.lit (.bool true)], args := [d] }
  | _ => none }
def localeChecksRow : OpenClaim := { program := "ytoijbjndafcedaadoor", sum := "3729946a6f16c2ff1168c12cb54b06824595fc2a890a37bb7b80c5068e270301", func := "texttools/texttoolslaw05.LocaleChecks", spec := "localeChecks", unfollowed := true, recurses := true, named := ["texttools/locale.standardClasses"], apart := false, laid := [("texttools/locale.standardClasses", laid_texttools_locale_standardClasses)] }
def LocaleChecksSaid : Prop := localeChecksRow.holds Tryd.pinned (OpenSpec.ofChange localeChecksSpec)

/-- ITS FALSE NEIGHBOUR: 'it returns false'. Refute it at one input. -/
def localeChecksWrong : ChangeSpec := { name := "localeChecks", fn := fun _ => fun
  | [d] => { results := [.lit (.bool false)], args := [d] }
  | _ => none }
def LocaleChecksWrongFalsely : Prop := localeChecksRow.holds Tryd.pinned (OpenSpec.ofChange localeChecksWrong)

/-- 'texttoolslaw05.LocaleSplits': WHATEVER THE INPUT: true; the input reads as it did. -/
def localeSplitsSpec : ChangeSpec := { name := "localeSplits", fn := fun _ => fun
  | [d1, d2] => { results := [.lit (.bool true)], args := [d1, d2] }
  | _ => none }
def localeSplitsRow : OpenClaim := { program := "ytoijbjndafcedaadoor", sum := "3729946a6f16c2ff1168c12cb54b06824595fc2a890a37bb7b80c5068e270301", func := "texttools/texttoolslaw05.LocaleSplits", spec := "localeSplits", unfollowed := true, recurses := true, named := ["texttools/locale.standardClasses"], apart := false, laid := [("texttools/locale.standardClasses", laid_texttools_locale_standardClasses)] }
def LocaleSplitsSaid : Prop := localeSplitsRow.holds Tryd.pinned (OpenSpec.ofChange localeSplitsSpec)

/-- ITS FALSE NEIGHBOUR: 'it returns false'. Refute it at one input. -/
def localeSplitsWrong : ChangeSpec := { name := "localeSplits", fn := fun _ => fun
  | [d1, d2] => { results := [.lit (.bool false)], args := [d1, d2] }
  | _ => none }
def LocaleSplitsWrongFalsely : Prop := localeSplitsRow.holds Tryd.pinned (OpenSpec.ofChange localeSplitsWrong)

/-- 'texttoolslaw05.LocaleCompares': WHATEVER THE INPUT: true; the input reads as it did. -/
def localeComparesSpec : ChangeSpec := { name := "localeCompares", fn := fun _ => fun
  | [d1, d2, d3] => { results := [.lit (.bool true)], args := [d1, d2, d3] }
  | _ => none }
def localeComparesRow : OpenClaim := { program := "ytoijbjndafcedaadoor", sum := "3729946a6f16c2ff1168c12cb54b06824595fc2a890a37bb7b80c5068e270301", func := "texttools/texttoolslaw05.LocaleCompares", spec := "localeCompares", unfollowed := true, recurses := true, named := ["texttools/locale.standardClasses"], apart := false, laid := [("texttools/locale.standardClasses", laid_texttools_locale_standardClasses)] }
def LocaleComparesSaid : Prop := localeComparesRow.holds Tryd.pinned (OpenSpec.ofChange localeComparesSpec)

/-- ITS FALSE NEIGHBOUR: 'it returns false'. Refute it at one input. -/
def localeComparesWrong : ChangeSpec := { name := "localeCompares", fn := fun _ => fun
  | [d1, d2, d3] => { results := [.lit (.bool false)], args := [d1, d2, d3] }
  | _ => none }
def LocaleComparesWrongFalsely : Prop := localeComparesRow.holds Tryd.pinned (OpenSpec.ofChange localeComparesWrong)

/-- 'texttoolslaw05.LocaleSets': WHATEVER THE INPUT: true; the input reads as it did. -/
def localeSetsSpec : ChangeSpec := { name := "localeSets", fn := fun _ => fun
  | [d1, d2] => { results := [.lit (.bool true)], args := [d1, d2] }
  | _ => none }
def localeSetsRow : OpenClaim := { program := "ytoijbjndafcedaadoor", sum := "3729946a6f16c2ff1168c12cb54b06824595fc2a890a37bb7b80c5068e270301", func := "texttools/texttoolslaw05.LocaleSets", spec := "localeSets", unfollowed := true, recurses := true, named := ["texttools/locale.standardClasses"], apart := false, laid := [("texttools/locale.standardClasses", laid_texttools_locale_standardClasses)] }
def LocaleSetsSaid : Prop := localeSetsRow.holds Tryd.pinned (OpenSpec.ofChange localeSetsSpec)

/-- ITS FALSE NEIGHBOUR: 'it returns false'. Refute it at one input. -/
def localeSetsWrong : ChangeSpec := { name := "localeSets", fn := fun _ => fun
  | [d1, d2] => { results := [.lit (.bool false)], args := [d1, d2] }
  | _ => none }
def LocaleSetsWrongFalsely : Prop := localeSetsRow.holds Tryd.pinned (OpenSpec.ofChange localeSetsWrong)

/-- 'texttoolslaw05.LocaleJoins': WHATEVER THE INPUT: true; the input reads as it did. -/
def localeJoinsSpec : ChangeSpec := { name := "localeJoins", fn := fun _ => fun
  | [d1, d2] => { results := [.lit (.bool true)], args := [d1, d2] }
  | _ => none }
def localeJoinsRow : OpenClaim := { program := "ytoijbjndafcedaadoor", sum := "3729946a6f16c2ff1168c12cb54b06824595fc2a890a37bb7b80c5068e270301", func := "texttools/texttoolslaw05.LocaleJoins", spec := "localeJoins", unfollowed := true, recurses := true, named := ["texttools/locale.standardClasses"], apart := false, laid := [("texttools/locale.standardClasses", laid_texttools_locale_standardClasses)] }
def LocaleJoinsSaid : Prop := localeJoinsRow.holds Tryd.pinned (OpenSpec.ofChange localeJoinsSpec)

/-- ITS FALSE NEIGHBOUR: 'it returns false'. Refute it at one input. -/
def localeJoinsWrong : ChangeSpec := { name := "localeJoins", fn := fun _ => fun
  | [d1, d2] => { results := [.lit (.bool false)], args := [d1, d2] }
  | _ => none }
def LocaleJoinsWrongFalsely : Prop := localeJoinsRow.holds Tryd.pinned (OpenSpec.ofChange localeJoinsWrong)

/-- 'texttoolslaw05.LocaleOrders': WHATEVER THE INPUT: true; the input reads as it did. -/
def localeOrdersSpec : ChangeSpec := { name := "localeOrders", fn := fun _ => fun
  | [d1, d2] => { results := [.lit (.bool true)], args := [d1, d2] }
  | _ => none }
def localeOrdersRow : OpenClaim := { program := "ytoijbjndafcedaadoor", sum := "3729946a6f16c2ff1168c12cb54b06824595fc2a890a37bb7b80c5068e270301", func := "texttools/texttoolslaw05.LocaleOrders", spec := "localeOrders", unfollowed := true, recurses := true, named := ["texttools/locale.standardClasses"], apart := false, laid := [("texttools/locale.standardClasses", laid_texttools_locale_standardClasses)] }
def LocaleOrdersSaid : Prop := localeOrdersRow.holds Tryd.pinned (OpenSpec.ofChange localeOrdersSpec)

/-- ITS FALSE NEIGHBOUR: 'it returns false'. Refute it at one input. -/
def localeOrdersWrong : ChangeSpec := { name := "localeOrders", fn := fun _ => fun
  | [d1, d2] => { results := [.lit (.bool false)], args := [d1, d2] }
  | _ => none }
def LocaleOrdersWrongFalsely : Prop := localeOrdersRow.holds Tryd.pinned (OpenSpec.ofChange localeOrdersWrong)

/-- 'texttoolslaw05.LocaleRanges': WHATEVER THE INPUT: true; the input reads as it did. -/
def localeRangesSpec : ChangeSpec := { name := "localeRanges", fn := fun _ => fun
  | [d1, d2, d3] => { results := [.lit (.bool true)], args := [d1, d2, d3] }
  | _ => none }
def localeRangesRow : OpenClaim := { program := "ytoijbjndafcedaadoor", sum := "3729946a6f16c2ff1168c12cb54b06824595fc2a890a37bb7b80c5068e270301", func := "texttools/texttoolslaw05.LocaleRanges", spec := "localeRanges", unfollowed := true, recurses := true, named := ["texttools/locale.standardClasses"], apart := false, laid := [("texttools/locale.standardClasses", laid_texttools_locale_standardClasses)] }
def LocaleRangesSaid : Prop := localeRangesRow.holds Tryd.pinned (OpenSpec.ofChange localeRangesSpec)

/-- ITS FALSE NEIGHBOUR: 'it returns false'. Refute it at one input. -/
def localeRangesWrong : ChangeSpec := { name := "localeRanges", fn := fun _ => fun
  | [d1, d2, d3] => { results := [.lit (.bool false)], args := [d1, d2, d3] }
  | _ => none }
def LocaleRangesWrongFalsely : Prop := localeRangesRow.holds Tryd.pinned (OpenSpec.ofChange localeRangesWrong)

/-- 'texttoolslaw05.LocaleBytes': WHATEVER THE INPUT: true; the input reads as it did. -/
def localeBytesSpec : ChangeSpec := { name := "localeBytes", fn := fun _ => fun
  | [d1, d2] => { results := [.lit (.bool true)], args := [d1, d2] }
  | _ => none }
def localeBytesRow : OpenClaim := { program := "ytoijbjndafcedaadoor", sum := "3729946a6f16c2ff1168c12cb54b06824595fc2a890a37bb7b80c5068e270301", func := "texttools/texttoolslaw05.LocaleBytes", spec := "localeBytes", unfollowed := true, recurses := true, named := ["texttools/locale.standardClasses"], apart := false, laid := [("texttools/locale.standardClasses", laid_texttools_locale_standardClasses)] }
def LocaleBytesSaid : Prop := localeBytesRow.holds Tryd.pinned (OpenSpec.ofChange localeBytesSpec)

/-- ITS FALSE NEIGHBOUR: 'it returns false'. Refute it at one input. -/
def localeBytesWrong : ChangeSpec := { name := "localeBytes", fn := fun _ => fun
  | [d1, d2] => { results := [.lit (.bool false)], args := [d1, d2] }
  | _ => none }
def LocaleBytesWrongFalsely : Prop := localeBytesRow.holds Tryd.pinned (OpenSpec.ofChange localeBytesWrong)

/- THE SECOND FORM. 'bulk': how many values and letters a reading holds, each counted each time it is reached (what is shared counts as often as it is met; a slice's spare places count too). A statement '..UptoSaid' is the law's where the arguments, and the package variables that the reading takes, are together of bulk at most 1048576: NARROWER than '..Said'. Prove '..Said' where nothing that the law and all that it calls make is longer than what came in: it says more and counts as full. Else prove '..UptoSaid'. A law counts once. -/
mutual
def uptoBulk {H : Type} : DataW H → Nat
  | .lit (.string bytes) => bytes.length + 1
  | .lit _ => 1
  | .nil => 1
  | .ptr d => uptoBulk d + 1
  | .slice elems spare => uptoBulkAll elems + uptoBulkAll spare + 1
  | .agg parts => uptoBulkAll parts + 1
  | .iface _ d => uptoBulk d + 1
  | .map entries => uptoBulkEntries entries + 1
  | .held _ => 1
def uptoBulkAll {H : Type} : List (DataW H) → Nat
  | [] => 0
  | d :: r => uptoBulk d + uptoBulkAll r
def uptoBulkEntries {H : Type} : List (Lit × DataW H) → Nat
  | [] => 0
  | x :: r => uptoBulkEntry x + uptoBulkEntries r
def uptoBulkEntry {H : Type} : Lit × DataW H → Nat
  | (.string bytes, d) => bytes.length + uptoBulk d + 1
  | (_, d) => uptoBulk d + 1
 end
def uptoSmall : (H : Type) → List (DataW H) → Bool := fun _ ds => decide (uptoBulkAll ds ≤ 1048576)
def OpenSpec.upto (s : _root_.Go.ChangeSpec) : _root_.Go.OpenSpec := { _root_.Go.OpenSpec.ofChange s with cond := some uptoSmall }

/-- 'texttoolslaw05.LocaleChecks', WHERE WHAT IT READS IS OF BULK AT MOST 1048576: true; the input reads as it did. -/
def localeChecksUptoRow : OpenClaim := { program := "ytoijbjndafcedaadoor", sum := "3729946a6f16c2ff1168c12cb54b06824595fc2a890a37bb7b80c5068e270301", func := "texttools/texttoolslaw05.LocaleChecks", spec := "localeChecks", unfollowed := true, recurses := true, named := ["texttools/locale.standardClasses"], apart := false, laid := [("texttools/locale.standardClasses", laid_texttools_locale_standardClasses)], narrowed := true }
def LocaleChecksUptoSaid : Prop := localeChecksUptoRow.holds Tryd.pinned (OpenSpec.upto localeChecksSpec)

/-- 'texttoolslaw05.LocaleSplits', WHERE WHAT IT READS IS OF BULK AT MOST 1048576: true; the input reads as it did. -/
def localeSplitsUptoRow : OpenClaim := { program := "ytoijbjndafcedaadoor", sum := "3729946a6f16c2ff1168c12cb54b06824595fc2a890a37bb7b80c5068e270301", func := "texttools/texttoolslaw05.LocaleSplits", spec := "localeSplits", unfollowed := true, recurses := true, named := ["texttools/locale.standardClasses"], apart := false, laid := [("texttools/locale.standardClasses", laid_texttools_locale_standardClasses)], narrowed := true }
def LocaleSplitsUptoSaid : Prop := localeSplitsUptoRow.holds Tryd.pinned (OpenSpec.upto localeSplitsSpec)

/-- 'texttoolslaw05.LocaleCompares', WHERE WHAT IT READS IS OF BULK AT MOST 1048576: true; the input reads as it did. -/
def localeComparesUptoRow : OpenClaim := { program := "ytoijbjndafcedaadoor", sum := "3729946a6f16c2ff1168c12cb54b06824595fc2a890a37bb7b80c5068e270301", func := "texttools/texttoolslaw05.LocaleCompares", spec := "localeCompares", unfollowed := true, recurses := true, named := ["texttools/locale.standardClasses"], apart := false, laid := [("texttools/locale.standardClasses", laid_texttools_locale_standardClasses)], narrowed := true }
def LocaleComparesUptoSaid : Prop := localeComparesUptoRow.holds Tryd.pinned (OpenSpec.upto localeComparesSpec)

/-- 'texttoolslaw05.LocaleSets', WHERE WHAT IT READS IS OF BULK AT MOST 1048576: true; the input reads as it did. -/
def localeSetsUptoRow : OpenClaim := { program := "ytoijbjndafcedaadoor", sum := "3729946a6f16c2ff1168c12cb54b06824595fc2a890a37bb7b80c5068e270301", func := "texttools/texttoolslaw05.LocaleSets", spec := "localeSets", unfollowed := true, recurses := true, named := ["texttools/locale.standardClasses"], apart := false, laid := [("texttools/locale.standardClasses", laid_texttools_locale_standardClasses)], narrowed := true }
def LocaleSetsUptoSaid : Prop := localeSetsUptoRow.holds Tryd.pinned (OpenSpec.upto localeSetsSpec)

/-- 'texttoolslaw05.LocaleJoins', WHERE WHAT IT READS IS OF BULK AT MOST 1048576: true; the input reads as it did. -/
def localeJoinsUptoRow : OpenClaim := { program := "ytoijbjndafcedaadoor", sum := "3729946a6f16c2ff1168c12cb54b06824595fc2a890a37bb7b80c5068e270301", func := "texttools/texttoolslaw05.LocaleJoins", spec := "localeJoins", unfollowed := true, recurses := true, named := ["texttools/locale.standardClasses"], apart := false, laid := [("texttools/locale.standardClasses", laid_texttools_locale_standardClasses)], narrowed := true }
def LocaleJoinsUptoSaid : Prop := localeJoinsUptoRow.holds Tryd.pinned (OpenSpec.upto localeJoinsSpec)

/-- 'texttoolslaw05.LocaleOrders', WHERE WHAT IT READS IS OF BULK AT MOST 1048576: true; the input reads as it did. -/
def localeOrdersUptoRow : OpenClaim := { program := "ytoijbjndafcedaadoor", sum := "3729946a6f16c2ff1168c12cb54b06824595fc2a890a37bb7b80c5068e270301", func := "texttools/texttoolslaw05.LocaleOrders", spec := "localeOrders", unfollowed := true, recurses := true, named := ["texttools/locale.standardClasses"], apart := false, laid := [("texttools/locale.standardClasses", laid_texttools_locale_standardClasses)], narrowed := true }
def LocaleOrdersUptoSaid : Prop := localeOrdersUptoRow.holds Tryd.pinned (OpenSpec.upto localeOrdersSpec)

/-- 'texttoolslaw05.LocaleRanges', WHERE WHAT IT READS IS OF BULK AT MOST 1048576: true; the input reads as it did. -/
def localeRangesUptoRow : OpenClaim := { program := "ytoijbjndafcedaadoor", sum := "3729946a6f16c2ff1168c12cb54b06824595fc2a890a37bb7b80c5068e270301", func := "texttools/texttoolslaw05.LocaleRanges", spec := "localeRanges", unfollowed := true, recurses := true, named := ["texttools/locale.standardClasses"], apart := false, laid := [("texttools/locale.standardClasses", laid_texttools_locale_standardClasses)], narrowed := true }
def LocaleRangesUptoSaid : Prop := localeRangesUptoRow.holds Tryd.pinned (OpenSpec.upto localeRangesSpec)

/-- 'texttoolslaw05.LocaleBytes', WHERE WHAT IT READS IS OF BULK AT MOST 1048576: true; the input reads as it did. -/
def localeBytesUptoRow : OpenClaim := { program := "ytoijbjndafcedaadoor", sum := "3729946a6f16c2ff1168c12cb54b06824595fc2a890a37bb7b80c5068e270301", func := "texttools/texttoolslaw05.LocaleBytes", spec := "localeBytes", unfollowed := true, recurses := true, named := ["texttools/locale.standardClasses"], apart := false, laid := [("texttools/locale.standardClasses", laid_texttools_locale_standardClasses)], narrowed := true }
def LocaleBytesUptoSaid : Prop := localeBytesUptoRow.holds Tryd.pinned (OpenSpec.upto localeBytesSpec)

end Rows
end Go.Proofs.YtoijbjndafcedaaDoor
