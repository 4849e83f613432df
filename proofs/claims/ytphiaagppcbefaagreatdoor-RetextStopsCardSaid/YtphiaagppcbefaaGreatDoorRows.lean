/-
  NARROWER THAN 'FOR EVERY INPUT', by the rows' own cells (each row's printed sentence says how): RetextParses: laid · RetextPrints: loops, laid · RetextRoundTrips: loops, laid · RetextPlain: laid · RetextFolds: laid · RetextStops: laid.
  DERIVED. THE GIVEN ROWS OF THIS SEAT. 6 by the template 'for every input the law returns true; each argument reads behind the call as it read before'; 0 by the template 'total and deterministic' (their statements: YtphiaagppcbefaaGreatDoorTotals.lean).
  GIVEN WITH THE SEED: the statements are not yours to turn. If you find one false, say at which input.
  Laid BY PROGRAM, IN A SANDBOX (cutbox-rows.mjs): the forced cells as the released guide's own fill.sh prints them over the translation aab4d06cfc5715c5… (all of the seat's roots in one cut). By AI agents, Wed Nov 11 2026. No macro, syntax, notation, axiom, sorry.
-/
import Derived.Test.YtphiaagppcbefaaGreatDoorChecked
import GoSem.Claim
import GoSem.ClaimJoined
import GoSem.ClaimMapViews
import Derived.JoinedTies
import Derived.KernelRfl
namespace Go.Proofs.YtphiaagppcbefaaGreatDoor
/- THE CELL 'sum', in the pinned program and in every row, IS THE sha256 OF THE DUMP (.gsa) THAT YtphiaagppcbefaaGreatDoorProg.lean LOADS. Nothing in Lean hashes anything: it is a label: what it is worth is what the hold of that sum in a sandbox is worth. -/
noncomputable def Tryz.pinned : Pinned := { name := "ytphiaagppcbefaagreatdoor", sum := "aab4d06cfc5715c5923ce2089b89bd0c68aedda1362a75e3e026cdc8ad08c252", checked := Tryz.checked }
namespace Rows
def none {H : Type} : Left H := { results := [], args := [] }

/- WHAT THE LISTED PACKAGE-LEVEL VARIABLES READ AS WHEN THE CALL BEGINS. Each datum BY PROGRAM (the guide's laid-datum.mjs) off the statement by which the dump's own 'gosem.cut.vars' lays the variable. In a bare row this is a premise. The card (YtphiaagppcbefaaGreatDoorCards.lean) ties it to the program's text. -/
def laid_math_bits_deBruijn64tab {H : Type} : DataW H := .agg [.lit (.int .u8 0), .lit (.int .u8 1), .lit (.int .u8 56), .lit (.int .u8 2), .lit (.int .u8 57), .lit (.int .u8 49), .lit (.int .u8 28), .lit (.int .u8 3), .lit (.int .u8 61), .lit (.int .u8 58), .lit (.int .u8 42), .lit (.int .u8 50), .lit (.int .u8 38), .lit (.int .u8 29), .lit (.int .u8 17), .lit (.int .u8 4), .lit (.int .u8 62), .lit (.int .u8 47), .lit (.int .u8 59), .lit (.int .u8 36), .lit (.int .u8 45), .lit (.int .u8 43), .lit (.int .u8 51), .lit (.int .u8 22), .lit (.int .u8 53), .lit (.int .u8 39), .lit (.int .u8 33), .lit (.int .u8 30), .lit (.int .u8 24), .lit (.int .u8 18), .lit (.int .u8 12), .lit (.int .u8 5), .lit (.int .u8 63), .lit (.int .u8 55), .lit (.int .u8 48), .lit (.int .u8 27), .lit (.int .u8 60), .lit (.int .u8 41), .lit (.int .u8 37), .lit (.int .u8 16), .lit (.int .u8 46), .lit (.int .u8 35), .lit (.int .u8 44), .lit (.int .u8 21), .lit (.int .u8 52), .lit (.int .u8 32), .lit (.int .u8 23), .lit (.int .u8 11), .lit (.int .u8 54), .lit (.int .u8 26), .lit (.int .u8 40), .lit (.int .u8 15), .lit (.int .u8 34), .lit (.int .u8 20), .lit (.int .u8 31), .lit (.int .u8 10), .lit (.int .u8 25), .lit (.int .u8 14), .lit (.int .u8 19), .lit (.int .u8 9), .lit (.int .u8 13), .lit (.int .u8 8), .lit (.int .u8 7), .lit (.int .u8 6)]
def laid_texttools_locale_standardClasses {H : Type} : DataW H := .agg [.agg [.lit (.string [97, 108, 112, 104, 97]), .lit (.string [65, 90, 97, 122])], .agg [.lit (.string [100, 105, 103, 105, 116]), .lit (.string [48, 57])], .agg [.lit (.string [97, 108, 110, 117, 109]), .lit (.string [48, 57, 65, 90, 97, 122])], .agg [.lit (.string [117, 112, 112, 101, 114]), .lit (.string [65, 90])], .agg [.lit (.string [108, 111, 119, 101, 114]), .lit (.string [97, 122])], .agg [.lit (.string [120, 100, 105, 103, 105, 116]), .lit (.string [48, 57, 65, 70, 97, 102])], .agg [.lit (.string [98, 108, 97, 110, 107]), .lit (.string [9, 9, 32, 32])], .agg [.lit (.string [115, 112, 97, 99, 101]), .lit (.string [9, 13, 32, 32])], .agg [.lit (.string [99, 110, 116, 114, 108]), .lit (.string [0, 31, 127, 127])], .agg [.lit (.string [103, 114, 97, 112, 104]), .lit (.string [33, 126])], .agg [.lit (.string [112, 114, 105, 110, 116]), .lit (.string [32, 126])], .agg [.lit (.string [112, 117, 110, 99, 116]), .lit (.string [33, 47, 58, 64, 91, 96, 123, 126])]]

/-- 'texttoolslaw07.RetextParses': WHATEVER THE INPUT: true; the input reads as it did. -/
def retextParsesSpec : ChangeSpec := { name := "retextParses", fn := fun _ => fun
  | [d1, d2, d3] => { results := [.lit (.bool true)], args := [d1, d2, d3] }
  | _ => none }
def retextParsesRow : OpenClaim := { program := "ytphiaagppcbefaagreatdoor", sum := "aab4d06cfc5715c5923ce2089b89bd0c68aedda1362a75e3e026cdc8ad08c252", func := "texttools/texttoolslaw07.RetextParses", spec := "retextParses", inPlace := ["internal/bytealg.IndexByteString", "internal/bytealg.IndexString"], unfollowed := true, recurses := true, named := ["internal/bytealg.MaxLen", "texttools/locale.standardClasses", "math/bits.deBruijn64tab"], apart := false, laid := [("math/bits.deBruijn64tab", laid_math_bits_deBruijn64tab), ("texttools/locale.standardClasses", laid_texttools_locale_standardClasses)] }
def RetextParsesSaid : Prop := retextParsesRow.holds Tryz.pinned (OpenSpec.ofChange retextParsesSpec)

/-- ITS FALSE NEIGHBOUR: 'it returns false'. Refute it at one input. -/
def retextParsesWrong : ChangeSpec := { name := "retextParses", fn := fun _ => fun
  | [d1, d2, d3] => { results := [.lit (.bool false)], args := [d1, d2, d3] }
  | _ => none }
def RetextParsesWrongFalsely : Prop := retextParsesRow.holds Tryz.pinned (OpenSpec.ofChange retextParsesWrong)

/-- 'texttoolslaw07.RetextPrints': WHATEVER THE INPUT: true; the input reads as it did. -/
def retextPrintsSpec : ChangeSpec := { name := "retextPrints", fn := fun _ => fun
  | [d] => { results := [.lit (.bool true)], args := [d] }
  | _ => none }
def retextPrintsRow : OpenClaim := { program := "ytphiaagppcbefaagreatdoor", sum := "aab4d06cfc5715c5923ce2089b89bd0c68aedda1362a75e3e026cdc8ad08c252", func := "texttools/texttoolslaw07.RetextPrints", spec := "retextPrints", inPlace := ["internal/bytealg.IndexByteString", "internal/bytealg.IndexString"], unfollowed := true, recurses := true, named := ["internal/bytealg.MaxLen", "texttools/locale.standardClasses", "math/bits.deBruijn64tab"], loops := true, apart := false, laid := [("math/bits.deBruijn64tab", laid_math_bits_deBruijn64tab), ("texttools/locale.standardClasses", laid_texttools_locale_standardClasses)] }
def RetextPrintsSaid : Prop := retextPrintsRow.holds Tryz.pinned (OpenSpec.ofChange retextPrintsSpec)

/-- ITS FALSE NEIGHBOUR: 'it returns false'. Refute it at one input. -/
def retextPrintsWrong : ChangeSpec := { name := "retextPrints", fn := fun _ => fun
  | [d] => { results := [.lit (.bool false)], args := [d] }
  | _ => none }
def RetextPrintsWrongFalsely : Prop := retextPrintsRow.holds Tryz.pinned (OpenSpec.ofChange retextPrintsWrong)

/-- 'texttoolslaw07.RetextRoundTrips': WHATEVER THE INPUT: true; the input reads as it did. -/
def retextRoundTripsSpec : ChangeSpec := { name := "retextRoundTrips", fn := fun _ => fun
  | [d1, d2, d3] => { results := [.lit (.bool true)], args := [d1, d2, d3] }
  | _ => none }
def retextRoundTripsRow : OpenClaim := { program := "ytphiaagppcbefaagreatdoor", sum := "aab4d06cfc5715c5923ce2089b89bd0c68aedda1362a75e3e026cdc8ad08c252", func := "texttools/texttoolslaw07.RetextRoundTrips", spec := "retextRoundTrips", inPlace := ["internal/bytealg.IndexByteString", "internal/bytealg.IndexString"], unfollowed := true, recurses := true, named := ["internal/bytealg.MaxLen", "texttools/locale.standardClasses", "math/bits.deBruijn64tab"], loops := true, apart := false, laid := [("math/bits.deBruijn64tab", laid_math_bits_deBruijn64tab), ("texttools/locale.standardClasses", laid_texttools_locale_standardClasses)] }
def RetextRoundTripsSaid : Prop := retextRoundTripsRow.holds Tryz.pinned (OpenSpec.ofChange retextRoundTripsSpec)

/-- ITS FALSE NEIGHBOUR: 'it returns false'. Refute it at one input. -/
def retextRoundTripsWrong : ChangeSpec := { name := "retextRoundTrips", fn := fun _ => fun
  | [d1, d2, d3] => { results := [.lit (.bool false)], args := [d1, d2, d3] }
  | _ => none }
def RetextRoundTripsWrongFalsely : Prop := retextRoundTripsRow.holds Tryz.pinned (OpenSpec.ofChange retextRoundTripsWrong)

/-- 'texttoolslaw07.RetextPlain': WHATEVER THE INPUT: true; the input reads as it did. -/
def retextPlainSpec : ChangeSpec := { name := "retextPlain", fn := fun _ => fun
  | [d1, d2] => { results := [.lit (.bool true)], args := [d1, d2] }
  | _ => none }
def retextPlainRow : OpenClaim := { program := "ytphiaagppcbefaagreatdoor", sum := "aab4d06cfc5715c5923ce2089b89bd0c68aedda1362a75e3e026cdc8ad08c252", func := "texttools/texttoolslaw07.RetextPlain", spec := "retextPlain", inPlace := ["internal/bytealg.IndexByteString", "internal/bytealg.IndexString"], unfollowed := true, recurses := true, named := ["internal/bytealg.MaxLen", "texttools/locale.standardClasses", "math/bits.deBruijn64tab"], apart := false, laid := [("math/bits.deBruijn64tab", laid_math_bits_deBruijn64tab), ("texttools/locale.standardClasses", laid_texttools_locale_standardClasses)] }
def RetextPlainSaid : Prop := retextPlainRow.holds Tryz.pinned (OpenSpec.ofChange retextPlainSpec)

/-- ITS FALSE NEIGHBOUR: 'it returns false'. Refute it at one input. -/
def retextPlainWrong : ChangeSpec := { name := "retextPlain", fn := fun _ => fun
  | [d1, d2] => { results := [.lit (.bool false)], args := [d1, d2] }
  | _ => none }
def RetextPlainWrongFalsely : Prop := retextPlainRow.holds Tryz.pinned (OpenSpec.ofChange retextPlainWrong)

/-- 'texttoolslaw07.RetextFolds': WHATEVER THE INPUT: true; the input reads as it did. -/
def retextFoldsSpec : ChangeSpec := { name := "retextFolds", fn := fun _ => fun
  | [d1, d2] => { results := [.lit (.bool true)], args := [d1, d2] }
  | _ => none }
def retextFoldsRow : OpenClaim := { program := "ytphiaagppcbefaagreatdoor", sum := "aab4d06cfc5715c5923ce2089b89bd0c68aedda1362a75e3e026cdc8ad08c252", func := "texttools/texttoolslaw07.RetextFolds", spec := "retextFolds", inPlace := ["internal/bytealg.IndexByteString", "internal/bytealg.IndexString"], unfollowed := true, recurses := true, named := ["internal/bytealg.MaxLen", "texttools/locale.standardClasses", "math/bits.deBruijn64tab"], apart := false, laid := [("math/bits.deBruijn64tab", laid_math_bits_deBruijn64tab), ("texttools/locale.standardClasses", laid_texttools_locale_standardClasses)] }
def RetextFoldsSaid : Prop := retextFoldsRow.holds Tryz.pinned (OpenSpec.ofChange retextFoldsSpec)

/-- ITS FALSE NEIGHBOUR: 'it returns false'. Refute it at one input. -/
def retextFoldsWrong : ChangeSpec := { name := "retextFolds", fn := fun _ => fun
  | [d1, d2] => { results := [.lit (.bool false)], args := [d1, d2] }
  | _ => none }
def RetextFoldsWrongFalsely : Prop := retextFoldsRow.holds Tryz.pinned (OpenSpec.ofChange retextFoldsWrong)

/-- 'texttoolslaw07.RetextStops': WHATEVER THE INPUT: true; the input reads as it did. -/
def retextStopsSpec : ChangeSpec := { name := "retextStops", fn := fun _ => fun
  | [d1, d2] => { results := [.lit (.bool true)], args := [d1, d2] }
  | _ => none }
def retextStopsRow : OpenClaim := { program := "ytphiaagppcbefaagreatdoor", sum := "aab4d06cfc5715c5923ce2089b89bd0c68aedda1362a75e3e026cdc8ad08c252", func := "texttools/texttoolslaw07.RetextStops", spec := "retextStops", inPlace := ["internal/bytealg.IndexByteString", "internal/bytealg.IndexString"], unfollowed := true, recurses := true, named := ["internal/bytealg.MaxLen", "texttools/locale.standardClasses", "math/bits.deBruijn64tab"], apart := false, laid := [("math/bits.deBruijn64tab", laid_math_bits_deBruijn64tab), ("texttools/locale.standardClasses", laid_texttools_locale_standardClasses)] }
def RetextStopsSaid : Prop := retextStopsRow.holds Tryz.pinned (OpenSpec.ofChange retextStopsSpec)

/-- ITS FALSE NEIGHBOUR: 'it returns false'. Refute it at one input. -/
def retextStopsWrong : ChangeSpec := { name := "retextStops", fn := fun _ => fun
  | [d1, d2] => { results := [.lit (.bool false)], args := [d1, d2] }
  | _ => none }
def RetextStopsWrongFalsely : Prop := retextStopsRow.holds Tryz.pinned (OpenSpec.ofChange retextStopsWrong)

/- THE SECOND FORM. 'bulk': how many values and letters a reading holds, each counted each time it is reached (what is shared counts as often as it is met; a slice's spare places count too). A statement '..UptoSaid' is the law's where the arguments, and the package variables that the reading takes, are together of bulk at most 1048576: NARROWER than '..Said'. Prove '..Said' where nothing that the law and all that it calls make is longer than what came in: it says more and counts as full. Else prove '..UptoSaid'. A law counts once. -/
mutual
def uptoBulk {H : Type} : DataW H → Nat
  | .lit (.string bytes) => bytes.length + 1
  | .lit _ => 1
  | .nil => 1
  | .ptr d => uptoBulk d + 1
  | .slice elems spare => uptoBulkAll elems + uptoBulkAll spare + 1
  | .agg parts => uptoBulkAll parts + 1
  | .iface _ d => uptoBulk d + 1
  | .map entries => uptoBulkEntries entries + 1
  | .held _ => 1
def uptoBulkAll {H : Type} : List (DataW H) → Nat
  | [] => 0
  | d :: r => uptoBulk d + uptoBulkAll r
def uptoBulkEntries {H : Type} : List (Lit × DataW H) → Nat
  | [] => 0
  | x :: r => uptoBulkEntry x + uptoBulkEntries r
def uptoBulkEntry {H : Type} : Lit × DataW H → Nat
  | (.string bytes, d) => bytes.length + uptoBulk d + 1
  | (_, d) => uptoBulk d + 1
 end
def uptoSmall : (H : Type) → List (DataW H) → Bool := fun _ ds => decide (uptoBulkAll ds ≤ 1048576)
def OpenSpec.upto (s : _root_.Go.ChangeSpec) : _root_.Go.OpenSpec := { _root_.Go.OpenSpec.ofChange s with cond := some uptoSmall }

/-- 'texttoolslaw07.RetextParses', WHERE WHAT IT READS IS OF BULK AT MOST 1048576: true; the input reads as it did. -/
def retextParsesUptoRow : OpenClaim := { program := "ytphiaagppcbefaagreatdoor", sum := "aab4d06cfc5715c5923ce2089b89bd0c68aedda1362a75e3e026cdc8ad08c252", func := "texttools/texttoolslaw07.RetextParses", spec := "retextParses", inPlace := ["internal/bytealg.IndexByteString", "internal/bytealg.IndexString"], unfollowed := true, recurses := true, named := ["internal/bytealg.MaxLen", "texttools/locale.standardClasses", "math/bits.deBruijn64tab"], apart := false, laid := [("math/bits.deBruijn64tab", laid_math_bits_deBruijn64tab), ("texttools/locale.standardClasses", laid_texttools_locale_standardClasses)], narrowed := true }
def RetextParsesUptoSaid : Prop := retextParsesUptoRow.holds Tryz.pinned (OpenSpec.upto retextParsesSpec)

/-- 'texttoolslaw07.RetextPrints', WHERE WHAT IT READS IS OF BULK AT MOST 1048576: true; the input reads as it did. -/
def retextPrintsUptoRow : OpenClaim := { program := "ytphiaagppcbefaagreatdoor", sum := "aab4d06cfc5715c5923ce2089b89bd0c68aedda1362a75e3e026cdc8ad08c252", func := "texttools/texttoolslaw07.RetextPrints", spec := "retextPrints", inPlace := ["internal/bytealg.IndexByteString", "internal/bytealg.IndexString"], unfollowed := true, recurses := true, named := ["internal/bytealg.MaxLen", "texttools/locale.standardClasses", "math/bits.deBruijn64tab"], loops := true, apart := false, laid := [("math/bits.deBruijn64tab", laid_math_bits_deBruijn64tab), ("texttools/locale.standardClasses", laid_texttools_locale_standardClasses)], narrowed := true }
def RetextPrintsUptoSaid : Prop := retextPrintsUptoRow.holds Tryz.pinned (OpenSpec.upto retextPrintsSpec)

/-- 'texttoolslaw07.RetextRoundTrips', WHERE WHAT IT READS IS OF BULK AT MOST 1048576: true; the input reads as it did. -/
def retextRoundTripsUptoRow : OpenClaim := { program := "ytphiaagppcbefaagreatdoor", sum := "aab4d06cfc5715c5923ce2089b89bd0c68aedda1362a75e3e026cdc8ad08c252", func := "texttools/texttoolslaw07.RetextRoundTrips", spec := "retextRoundTrips", inPlace := ["internal/bytealg.IndexByteString", "internal/bytealg.IndexString"], unfollowed := true, recurses := true, named := ["internal/bytealg.MaxLen", "texttools/locale.standardClasses", "math/bits.deBruijn64tab"], loops := true, apart := false, laid := [("math/bits.deBruijn64tab", laid_math_bits_deBruijn64tab), ("texttools/locale.standardClasses", laid_texttools_locale_standardClasses)], narrowed := true }
def RetextRoundTripsUptoSaid : Prop := retextRoundTripsUptoRow.holds Tryz.pinned (OpenSpec.upto retextRoundTripsSpec)

/-- 'texttoolslaw07.RetextPlain', WHERE WHAT IT READS IS OF BULK AT MOST 1048576: true; the input reads as it did. -/
def retextPlainUptoRow : OpenClaim := { program := "ytphiaagppcbefaagreatdoor", sum := "aab4d06cfc5715c5923ce2089b89bd0c68aedda1362a75e3e026cdc8ad08c252", func := "texttools/texttoolslaw07.RetextPlain", spec := "retextPlain", inPlace := ["internal/bytealg.IndexByteString", "internal/bytealg.IndexString"], unfollowed := true, recurses := true, named := ["internal/bytealg.MaxLen", "texttools/locale.standardClasses", "math/bits.deBruijn64tab"], apart := false, laid := [("math/bits.deBruijn64tab", laid_math_bits_deBruijn64tab), ("texttools/locale.standardClasses", laid_texttools_locale_standardClasses)], narrowed := true }
def RetextPlainUptoSaid : Prop := retextPlainUptoRow.holds Tryz.pinned (OpenSpec.upto retextPlainSpec)

/-- 'texttoolslaw07.RetextFolds', WHERE WHAT IT READS IS OF BULK AT MOST 1048576: true; the input reads as it did. -/
def retextFoldsUptoRow : OpenClaim := { program := "ytphiaagppcbefaagreatdoor", sum := "aab4d06cfc5715c5923ce2089b89bd0c68aedda1362a75e3e026cdc8ad08c252", func := "texttools/texttoolslaw07.RetextFolds", spec := "retextFolds", inPlace := ["internal/bytealg.IndexByteString", "internal/bytealg.IndexString"], unfollowed := true, recurses := true, named := ["internal/bytealg.MaxLen", "texttools/locale.standardClasses", "math/bits.deBruijn64tab"], apart := false, laid := [("math/bits.deBruijn64tab", laid_math_bits_deBruijn64tab), ("texttools/locale.standardClasses", laid_texttools_locale_standardClasses)], narrowed := true }
def RetextFoldsUptoSaid : Prop := retextFoldsUptoRow.holds Tryz.pinned (OpenSpec.upto retextFoldsSpec)

/-- 'texttoolslaw07.RetextStops', WHERE WHAT IT READS IS OF BULK AT MOST 1048576: true; the input reads as it did. -/
def retextStopsUptoRow : OpenClaim := { program := "ytphiaagppcbefaagreatdoor", sum := "aab4d06cfc5715c5923ce2089b89bd0c68aedda1362a75e3e026cdc8ad08c252", func := "texttools/texttoolslaw07.RetextStops", spec := "retextStops", inPlace := ["internal/bytealg.IndexByteString", "internal/bytealg.IndexString"], unfollowed := true, recurses := true, named := ["internal/bytealg.MaxLen", "texttools/locale.standardClasses", "math/bits.deBruijn64tab"], apart := false, laid := [("math/bits.deBruijn64tab", laid_math_bits_deBruijn64tab), ("texttools/locale.standardClasses", laid_texttools_locale_standardClasses)], narrowed := true }
def RetextStopsUptoSaid : Prop := retextStopsUptoRow.holds Tryz.pinned (OpenSpec.upto retextStopsSpec)

end Rows
end Go.Proofs.YtphiaagppcbefaaGreatDoor
