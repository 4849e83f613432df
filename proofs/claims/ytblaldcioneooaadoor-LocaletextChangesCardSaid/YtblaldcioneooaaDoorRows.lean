/-
  NARROWER THAN 'FOR EVERY INPUT', by the rows' own cells (each row's printed sentence says how): LocaleJoins: laid · LocaleRanges: laid · LocaletextRoundTrips: laid · LocaletextReads: laid · LocaletextSkips: laid · LocaletextChanges: laid.
  DERIVED. THE GIVEN ROWS OF THIS SEAT. 6 by the template 'for every input the law returns true; each argument reads behind the call as it read before'; 0 by the template 'total and deterministic' (their statements: YtblaldcioneooaaDoorTotals.lean).
  GIVEN WITH THE SEED: the statements are not yours to turn. If you find one false, say at which input.
  Laid BY PROGRAM, IN A SANDBOX (cutbox-rows.mjs): the forced cells as the released guide's own fill.sh prints them over the translation ebbfe93da2f48955… (all of the seat's roots in one cut). By AI agents, Wed Nov 11 2026. No macro, syntax, notation, axiom, sorry.
-/
import Derived.Test.YtblaldcioneooaaDoorChecked
import GoSem.PinnedTables
import GoSem.Claim
import GoSem.ClaimJoined
import GoSem.ClaimMapViews
import Derived.JoinedTies
import Derived.KernelRfl
namespace Go.Proofs.YtblaldcioneooaaDoor
/- THE CELL 'sum', in the pinned program and in every row, IS THE sha256 OF THE DUMP (.gsa) THAT YtblaldcioneooaaDoorProg.lean LOADS. Nothing in Lean hashes anything: it is a label: what it is worth is what the hold of that sum in a sandbox is worth. -/
noncomputable def Tryd.pinned : Pinned := { name := "ytblaldcioneooaadoor", sum := "ebbfe93da2f48955d1316e8f67ee8db76edca16c266690e16112dfc8bee3c3d3", checked := Tryd.checked }
namespace Rows
def none {H : Type} : Left H := { results := [], args := [] }

/- WHAT THE LISTED PACKAGE-LEVEL VARIABLES READ AS WHEN THE CALL BEGINS. Each datum BY PROGRAM (the guide's laid-datum.mjs) off the statement by which the dump's own 'gosem.cut.vars' lays the variable. In a bare row this is a premise. The card (YtblaldcioneooaaDoorCards.lean) ties it to the program's text. -/
def laid_texttools_locale_standardClasses {H : Type} : DataW H := .agg [.agg [.lit (.string [97, 108, 112, 104, 97]), .lit (.string [65, 90, 97, 122])], .agg [.lit (.string [100, 105, 103, 105, 116]), .lit (.string [48, 57])], .agg [.lit (.string [97, 108, 110, 117, 109]), .lit (.string [48, 57, 65, 90, 97, 122])], .agg [.lit (.string [117, 112, 112, 101, 114]), .lit (.string [65, 90])], .agg [.lit (.string [108, 111, 119, 101, 114]), .lit (.string [97, 122])], .agg [.lit (.string [120, 100, 105, 103, 105, 116]), .lit (.string [48, 57, 65, 70, 97, 102])], .agg [.lit (.string [98, 108, 97, 110, 107]), .lit (.string [9, 9, 32, 32])], .agg [.lit (.string [115, 112, 97, 99, 101]), .lit (.string [9, 13, 32, 32])], .agg [.lit (.string [99, 110, 116, 114, 108]), .lit (.string [0, 31, 127, 127])], .agg [.lit (.string [103, 114, 97, 112, 104]), .lit (.string [33, 126])], .agg [.lit (.string [112, 114, 105, 110, 116]), .lit (.string [32, 126])], .agg [.lit (.string [112, 117, 110, 99, 116]), .lit (.string [33, 47, 58, 64, 91, 96, 123, 126])]]
def laid_math_bits_deBruijn64tab {H : Type} : DataW H := .agg [.lit (.int .u8 0), .lit (.int .u8 1), .lit (.int .u8 56), .lit (.int .u8 2), .lit (.int .u8 57), .lit (.int .u8 49), .lit (.int .u8 28), .lit (.int .u8 3), .lit (.int .u8 61), .lit (.int .u8 58), .lit (.int .u8 42), .lit (.int .u8 50), .lit (.int .u8 38), .lit (.int .u8 29), .lit (.int .u8 17), .lit (.int .u8 4), .lit (.int .u8 62), .lit (.int .u8 47), .lit (.int .u8 59), .lit (.int .u8 36), .lit (.int .u8 45), .lit (.int .u8 43), .lit (.int .u8 51), .lit (.int .u8 22), .lit (.int .u8 53), .lit (.int .u8 39), .lit (.int .u8 33), .lit (.int .u8 30), .lit (.int .u8 24), .lit (.int .u8 18), .lit (.int .u8 12), .lit (.int .u8 5), .lit (.int .u8 63), .lit (.int .u8 55), .lit (.int .u8 48), .lit (.int .u8 27), .lit (.int .u8 60), .lit (.int .u8 41), .lit (.int .u8 37), .lit (.int .u8 16), .lit (.int .u8 46), .lit (.int .u8 35), .lit (.int .u8 44), .lit (.int .u8 21), .lit (.int .u8 52), .lit (.int .u8 32), .lit (.int .u8 23), .lit (.int .u8 11), .lit (.int .u8 54), .lit (.int .u8 26), .lit (.int .u8 40), .lit (.int .u8 15), .lit (.int .u8 34), .lit (.int .u8 20), .lit (.int .u8 31), .lit (.int .u8 10), .lit (.int .u8 25), .lit (.int .u8 14), .lit (.int .u8 19), .lit (.int .u8 9), .lit (.int .u8 13), .lit (.int .u8 8), .lit (.int .u8 7), .lit (.int .u8 6)]
def laid_unicode_utf8_acceptRanges {H : Type} : DataW H := .agg [.agg [.lit (.int .u8 128), .lit (.int .u8 191)], .agg [.lit (.int .u8 160), .lit (.int .u8 191)], .agg [.lit (.int .u8 128), .lit (.int .u8 159)], .agg [.lit (.int .u8 144), .lit (.int .u8 191)], .agg [.lit (.int .u8 128), .lit (.int .u8 143)], .agg [.lit (.int .u8 0), .lit (.int .u8 0)], .agg [.lit (.int .u8 0), .lit (.int .u8 0)], .agg [.lit (.int .u8 0), .lit (.int .u8 0)], .agg [.lit (.int .u8 0), .lit (.int .u8 0)], .agg [.lit (.int .u8 0), .lit (.int .u8 0)], .agg [.lit (.int .u8 0), .lit (.int .u8 0)], .agg [.lit (.int .u8 0), .lit (.int .u8 0)], .agg [.lit (.int .u8 0), .lit (.int .u8 0)], .agg [.lit (.int .u8 0), .lit (.int .u8 0)], .agg [.lit (.int .u8 0), .lit (.int .u8 0)], .agg [.lit (.int .u8 0), .lit (.int .u8 0)]]
/-- One of Go's own tables, pinned by name: the form's constant. -/
def laid_unicode_utf8_first : DataW Unit := Go.Pinned.utf8First

/-- 'texttoolslaw05.LocaleJoins': WHATEVER THE INPUT: true; the input reads as it did. -/
def localeJoinsSpec : ChangeSpec := { name := "localeJoins", fn := fun _ => fun
  | [d1, d2] => { results := [.lit (.bool true)], args := [d1, d2] }
  | _ => none }
def localeJoinsRow : OpenClaim := { program := "ytblaldcioneooaadoor", sum := "ebbfe93da2f48955d1316e8f67ee8db76edca16c266690e16112dfc8bee3c3d3", func := "texttools/texttoolslaw05.LocaleJoins", spec := "localeJoins", unfollowed := true, recurses := true, named := ["texttools/locale.standardClasses"], apart := false, laid := [("texttools/locale.standardClasses", laid_texttools_locale_standardClasses)] }
def LocaleJoinsSaid : Prop := localeJoinsRow.holds Tryd.pinned (OpenSpec.ofChange localeJoinsSpec)

/-- ITS FALSE NEIGHBOUR: 'it returns false'. Refute it at one input. -/
def localeJoinsWrong : ChangeSpec := { name := "localeJoins", fn := fun _ => fun
  | [d1, d2] => { results := [.lit (.bool false)], args := [d1, d2] }
  | _ => none }
def LocaleJoinsWrongFalsely : Prop := localeJoinsRow.holds Tryd.pinned (OpenSpec.ofChange localeJoinsWrong)

/-- 'texttoolslaw05.LocaleRanges': WHATEVER THE INPUT: true; the input reads as it did. -/
def localeRangesSpec : ChangeSpec := { name := "localeRanges", fn := fun _ => fun
  | [d1, d2, d3] => { results := [.lit (.bool true)], args := [d1, d2, d3] }
  | _ => none }
def localeRangesRow : OpenClaim := { program := "ytblaldcioneooaadoor", sum := "ebbfe93da2f48955d1316e8f67ee8db76edca16c266690e16112dfc8bee3c3d3", func := "texttools/texttoolslaw05.LocaleRanges", spec := "localeRanges", unfollowed := true, recurses := true, named := ["texttools/locale.standardClasses"], apart := false, laid := [("texttools/locale.standardClasses", laid_texttools_locale_standardClasses)] }
def LocaleRangesSaid : Prop := localeRangesRow.holds Tryd.pinned (OpenSpec.ofChange localeRangesSpec)

/-- ITS FALSE NEIGHBOUR: 'it returns false'. Refute it at one input. -/
def localeRangesWrong : ChangeSpec := { name := "localeRanges", fn := fun _ => fun
  | [d1, d2, d3] => { results := [.lit (.bool false)], args := [d1, d2, d3] }
  | _ => none }
def LocaleRangesWrongFalsely : Prop := localeRangesRow.holds Tryd.pinned (OpenSpec.ofChange localeRangesWrong)

/-- 'texttoolslaw06.LocaletextRoundTrips': WHATEVER THE INPUT: true; the input reads as it did. -/
def localetextRoundTripsSpec : ChangeSpec := { name := "localetextRoundTrips", fn := fun _ => fun
  | [d] => { results := [.lit (.bool true)], args := [d] }
  | _ => none }
def localetextRoundTripsRow : OpenClaim := { program := "ytblaldcioneooaadoor", sum := "ebbfe93da2f48955d1316e8f67ee8db76edca16c266690e16112dfc8bee3c3d3", func := "texttools/texttoolslaw06.LocaletextRoundTrips", spec := "localetextRoundTrips", inPlace := ["internal/abi.NoEscape", "internal/bytealg.MakeNoZero", "internal/bytealg.CountString", "internal/bytealg.IndexByteString", "internal/bytealg.IndexString"], unfollowed := true, recurses := true, named := ["math/bits.deBruijn64tab", "unicode/utf8.first", "unicode/utf8.acceptRanges", "internal/bytealg.MaxLen"], apart := false, laid := [("math/bits.deBruijn64tab", laid_math_bits_deBruijn64tab), ("unicode/utf8.acceptRanges", laid_unicode_utf8_acceptRanges), ("unicode/utf8.first", laid_unicode_utf8_first)] }
def LocaletextRoundTripsSaid : Prop := localetextRoundTripsRow.holds Tryd.pinned (OpenSpec.ofChange localetextRoundTripsSpec)

/-- ITS FALSE NEIGHBOUR: 'it returns false'. Refute it at one input. -/
def localetextRoundTripsWrong : ChangeSpec := { name := "localetextRoundTrips", fn := fun _ => fun
  | [d] => { results := [.lit (.bool false)], args := [d] }
  | _ => none }
def LocaletextRoundTripsWrongFalsely : Prop := localetextRoundTripsRow.holds Tryd.pinned (OpenSpec.ofChange localetextRoundTripsWrong)

/-- 'texttoolslaw06.LocaletextReads': WHATEVER THE INPUT: true; the input reads as it did. -/
def localetextReadsSpec : ChangeSpec := { name := "localetextReads", fn := fun _ => fun
  | [d] => { results := [.lit (.bool true)], args := [d] }
  | _ => none }
def localetextReadsRow : OpenClaim := { program := "ytblaldcioneooaadoor", sum := "ebbfe93da2f48955d1316e8f67ee8db76edca16c266690e16112dfc8bee3c3d3", func := "texttools/texttoolslaw06.LocaletextReads", spec := "localetextReads", inPlace := ["internal/bytealg.CountString", "internal/bytealg.IndexByteString", "internal/bytealg.IndexString", "internal/abi.NoEscape", "internal/bytealg.MakeNoZero"], unfollowed := true, recurses := true, named := ["unicode/utf8.first", "unicode/utf8.acceptRanges", "internal/bytealg.MaxLen", "math/bits.deBruijn64tab"], apart := false, laid := [("math/bits.deBruijn64tab", laid_math_bits_deBruijn64tab), ("unicode/utf8.acceptRanges", laid_unicode_utf8_acceptRanges), ("unicode/utf8.first", laid_unicode_utf8_first)] }
def LocaletextReadsSaid : Prop := localetextReadsRow.holds Tryd.pinned (OpenSpec.ofChange localetextReadsSpec)

/-- ITS FALSE NEIGHBOUR: 'it returns false'. Refute it at one input. -/
def localetextReadsWrong : ChangeSpec := { name := "localetextReads", fn := fun _ => fun
  | [d] => { results := [.lit (.bool false)], args := [d] }
  | _ => none }
def LocaletextReadsWrongFalsely : Prop := localetextReadsRow.holds Tryd.pinned (OpenSpec.ofChange localetextReadsWrong)

/-- 'texttoolslaw06.LocaletextSkips': WHATEVER THE INPUT: true; the input reads as it did. -/
def localetextSkipsSpec : ChangeSpec := { name := "localetextSkips", fn := fun _ => fun
  | [d1, d2, d3] => { results := [.lit (.bool true)], args := [d1, d2, d3] }
  | _ => none }
def localetextSkipsRow : OpenClaim := { program := "ytblaldcioneooaadoor", sum := "ebbfe93da2f48955d1316e8f67ee8db76edca16c266690e16112dfc8bee3c3d3", func := "texttools/texttoolslaw06.LocaletextSkips", spec := "localetextSkips", inPlace := ["internal/bytealg.CountString", "internal/bytealg.IndexByteString", "internal/bytealg.IndexString", "internal/abi.NoEscape", "internal/bytealg.MakeNoZero"], unfollowed := true, recurses := true, named := ["unicode/utf8.first", "unicode/utf8.acceptRanges", "internal/bytealg.MaxLen", "math/bits.deBruijn64tab"], apart := false, laid := [("math/bits.deBruijn64tab", laid_math_bits_deBruijn64tab), ("unicode/utf8.acceptRanges", laid_unicode_utf8_acceptRanges), ("unicode/utf8.first", laid_unicode_utf8_first)] }
def LocaletextSkipsSaid : Prop := localetextSkipsRow.holds Tryd.pinned (OpenSpec.ofChange localetextSkipsSpec)

/-- ITS FALSE NEIGHBOUR: 'it returns false'. Refute it at one input. -/
def localetextSkipsWrong : ChangeSpec := { name := "localetextSkips", fn := fun _ => fun
  | [d1, d2, d3] => { results := [.lit (.bool false)], args := [d1, d2, d3] }
  | _ => none }
def LocaletextSkipsWrongFalsely : Prop := localetextSkipsRow.holds Tryd.pinned (OpenSpec.ofChange localetextSkipsWrong)

/-- 'texttoolslaw06.LocaletextChanges': WHATEVER THE INPUT: true; the input reads as it did. -/
def localetextChangesSpec : ChangeSpec := { name := "localetextChanges", fn := fun _ => fun
  | [d1, d2, d3] => { results := [.lit (.bool true)], args := [d1, d2, d3] }
  | _ => none }
def localetextChangesRow : OpenClaim := { program := "ytblaldcioneooaadoor", sum := "ebbfe93da2f48955d1316e8f67ee8db76edca16c266690e16112dfc8bee3c3d3", func := "texttools/texttoolslaw06.LocaletextChanges", spec := "localetextChanges", inPlace := ["internal/bytealg.CountString", "internal/bytealg.IndexByteString", "internal/bytealg.IndexString", "internal/abi.NoEscape", "internal/bytealg.MakeNoZero"], unfollowed := true, recurses := true, named := ["unicode/utf8.first", "unicode/utf8.acceptRanges", "internal/bytealg.MaxLen", "math/bits.deBruijn64tab"], apart := false, laid := [("math/bits.deBruijn64tab", laid_math_bits_deBruijn64tab), ("unicode/utf8.acceptRanges", laid_unicode_utf8_acceptRanges), ("unicode/utf8.first", laid_unicode_utf8_first)] }
def LocaletextChangesSaid : Prop := localetextChangesRow.holds Tryd.pinned (OpenSpec.ofChange localetextChangesSpec)

/-- ITS FALSE NEIGHBOUR: 'it returns false'. Refute it at one input. -/
def localetextChangesWrong : ChangeSpec := { name := "localetextChanges", fn := fun _ => fun
  | [d1, d2, d3] => { results := [.lit (.bool false)], args := [d1, d2, d3] }
  | _ => none }
def LocaletextChangesWrongFalsely : Prop := localetextChangesRow.holds Tryd.pinned (OpenSpec.ofChange localetextChangesWrong)

/- THE SECOND FORM. 'bulk': how many values and letters a reading holds, each counted each time it is reached (what is shared counts as often as it is met; a slice's spare places count too). A statement '..UptoSaid' is the law's where the arguments, and the package variables that the reading takes, are together of bulk at most 1048576: NARROWER than '..Said'. Prove '..Said' where nothing that the law and all that it calls make is longer than what came in: it says more and counts as full. Else prove '..UptoSaid'. A law counts once. -/
mutual
def uptoBulk {H : Type} : DataW H → Nat
  | .lit (.string bytes) => bytes.length + 1
  | .lit _ => 1
  | .nil => 1
  | .ptr d => uptoBulk d + 1
  | .slice elems spare => uptoBulkAll elems + uptoBulkAll spare + 1
  | .agg parts => uptoBulkAll parts + 1
  | .iface _ d => uptoBulk d + 1
  | .map entries => uptoBulkEntries entries + 1
  | .held _ => 1
def uptoBulkAll {H : Type} : List (DataW H) → Nat
  | [] => 0
  | d :: r => uptoBulk d + uptoBulkAll r
def uptoBulkEntries {H : Type} : List (Lit × DataW H) → Nat
  | [] => 0
  | x :: r => uptoBulkEntry x + uptoBulkEntries r
def uptoBulkEntry {H : Type} : Lit × DataW H → Nat
  | (.string bytes, d) => bytes.length + uptoBulk d + 1
  | (_, d) => uptoBulk d + 1
 end
def uptoSmall : (H : Type) → List (DataW H) → Bool := fun _ ds => decide (uptoBulkAll ds ≤ 1048576)
def OpenSpec.upto (s : _root_.Go.ChangeSpec) : _root_.Go.OpenSpec := { _root_.Go.OpenSpec.ofChange s with cond := some uptoSmall }

/-- 'texttoolslaw05.LocaleJoins', WHERE WHAT IT READS IS OF BULK AT MOST 1048576: true; the input reads as it did. -/
def localeJoinsUptoRow : OpenClaim := { program := "ytblaldcioneooaadoor", sum := "ebbfe93da2f48955d1316e8f67ee8db76edca16c266690e16112dfc8bee3c3d3", func := "texttools/texttoolslaw05.LocaleJoins", spec := "localeJoins", unfollowed := true, recurses := true, named := ["texttools/locale.standardClasses"], apart := false, laid := [("texttools/locale.standardClasses", laid_texttools_locale_standardClasses)], narrowed := true }
def LocaleJoinsUptoSaid : Prop := localeJoinsUptoRow.holds Tryd.pinned (OpenSpec.upto localeJoinsSpec)

/-- 'texttoolslaw05.LocaleRanges', WHERE WHAT IT READS IS OF BULK AT MOST 1048576: true; the input reads as it did. -/
def localeRangesUptoRow : OpenClaim := { program := "ytblaldcioneooaadoor", sum := "ebbfe93da2f48955d1316e8f67ee8db76edca16c266690e16112dfc8bee3c3d3", func := "texttools/texttoolslaw05.LocaleRanges", spec := "localeRanges", unfollowed := true, recurses := true, named := ["texttools/locale.standardClasses"], apart := false, laid := [("texttools/locale.standardClasses", laid_texttools_locale_standardClasses)], narrowed := true }
def LocaleRangesUptoSaid : Prop := localeRangesUptoRow.holds Tryd.pinned (OpenSpec.upto localeRangesSpec)

/-- 'texttoolslaw06.LocaletextRoundTrips', WHERE WHAT IT READS IS OF BULK AT MOST 1048576: true; the input reads as it did. -/
def localetextRoundTripsUptoRow : OpenClaim := { program := "ytblaldcioneooaadoor", sum := "ebbfe93da2f48955d1316e8f67ee8db76edca16c266690e16112dfc8bee3c3d3", func := "texttools/texttoolslaw06.LocaletextRoundTrips", spec := "localetextRoundTrips", inPlace := ["internal/abi.NoEscape", "internal/bytealg.MakeNoZero", "internal/bytealg.CountString", "internal/bytealg.IndexByteString", "internal/bytealg.IndexString"], unfollowed := true, recurses := true, named := ["math/bits.deBruijn64tab", "unicode/utf8.first", "unicode/utf8.acceptRanges", "internal/bytealg.MaxLen"], apart := false, laid := [("math/bits.deBruijn64tab", laid_math_bits_deBruijn64tab), ("unicode/utf8.acceptRanges", laid_unicode_utf8_acceptRanges), ("unicode/utf8.first", laid_unicode_utf8_first)], narrowed := true }
def LocaletextRoundTripsUptoSaid : Prop := localetextRoundTripsUptoRow.holds Tryd.pinned (OpenSpec.upto localetextRoundTripsSpec)

/-- 'texttoolslaw06.LocaletextReads', WHERE WHAT IT READS IS OF BULK AT MOST 1048576: true; the input reads as it did. -/
def localetextReadsUptoRow : OpenClaim := { program := "ytblaldcioneooaadoor", sum := "ebbfe93da2f48955d1316e8f67ee8db76edca16c266690e16112dfc8bee3c3d3", func := "texttools/texttoolslaw06.LocaletextReads", spec := "localetextReads", inPlace := ["internal/bytealg.CountString", "internal/bytealg.IndexByteString", "internal/bytealg.IndexString", "internal/abi.NoEscape", "internal/bytealg.MakeNoZero"], unfollowed := true, recurses := true, named := ["unicode/utf8.first", "unicode/utf8.acceptRanges", "internal/bytealg.MaxLen", "math/bits.deBruijn64tab"], apart := false, laid := [("math/bits.deBruijn64tab", laid_math_bits_deBruijn64tab), ("unicode/utf8.acceptRanges", laid_unicode_utf8_acceptRanges), ("unicode/utf8.first", laid_unicode_utf8_first)], narrowed := true }
def LocaletextReadsUptoSaid : Prop := localetextReadsUptoRow.holds Tryd.pinned (OpenSpec.upto localetextReadsSpec)

/-- 'texttoolslaw06.LocaletextSkips', WHERE WHAT IT READS IS OF BULK AT MOST 1048576: true; the input reads as it did. -/
def localetextSkipsUptoRow : OpenClaim := { program := "ytblaldcioneooaadoor", sum := "ebbfe93da2f48955d1316e8f67ee8db76edca16c266690e16112dfc8bee3c3d3", func := "texttools/texttoolslaw06.LocaletextSkips", spec := "localetextSkips", inPlace := ["internal/bytealg.CountString", "internal/bytealg.IndexByteString", "internal/bytealg.IndexString", "internal/abi.NoEscape", "internal/bytealg.MakeNoZero"], unfollowed := true, recurses := true, named := ["unicode/utf8.first", "unicode/utf8.acceptRanges", "internal/bytealg.MaxLen", "math/bits.deBruijn64tab"], apart := false, laid := [("math/bits.deBruijn64tab", laid_math_bits_deBruijn64tab), ("unicode/utf8.acceptRanges", laid_unicode_utf8_acceptRanges), ("unicode/utf8.first", laid_unicode_utf8_first)], narrowed := true }
def LocaletextSkipsUptoSaid : Prop := localetextSkipsUptoRow.holds Tryd.pinned (OpenSpec.upto localetextSkipsSpec)

/-- 'texttoolslaw06.LocaletextChanges', WHERE WHAT IT READS IS OF BULK AT MOST 1048576: true; the input reads as it did. -/
def localetextChangesUptoRow : OpenClaim := { program := "ytblaldcioneooaadoor", sum := "ebbfe93da2f48955d1316e8f67ee8db76edca16c266690e16112dfc8bee3c3d3", func := "texttools/texttoolslaw06.LocaletextChanges", spec := "localetextChanges", inPlace := ["internal/bytealg.CountString", "internal/bytealg.IndexByteString", "internal/bytealg.IndexString", "internal/abi.NoEscape", "internal/bytealg.MakeNoZero"], unfollowed := true, recurses := true, named := ["unicode/utf8.first", "unicode/utf8.acceptRanges", "internal/bytealg.MaxLen", "math/bits.deBruijn64tab"], apart := false, laid := [("math/bits.deBruijn64tab", laid_math_bits_deBruijn64tab), ("unicode/utf8.acceptRanges", laid_unicode_utf8_acceptRanges), ("unicode/utf8.first", laid_unicode_utf8_first)], narrowed := true }
def LocaletextChangesUptoSaid : Prop := localetextChangesUptoRow.holds Tryd.pinned (OpenSpec.upto localetextChangesSpec)

end Rows
end Go.Proofs.YtblaldcioneooaaDoor
