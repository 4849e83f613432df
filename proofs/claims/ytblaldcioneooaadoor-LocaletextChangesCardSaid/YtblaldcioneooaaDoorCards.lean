/-
  DERIVED. GIVEN WITH THE SEED: THE CARDS: each row of YtblaldcioneooaaDoorRows.lean that lists a variable, with what it lists TIED to the program's text (the seventh form; the later family's looks); each row that meets fmt, with fmt's text TOLD by the authors' own Lean function (tested against real Go, not proved from fmt's source: count such statements apart). THE CARD IS WHAT COUNTS. Prove the row's statement (the work); the ties are given (YtblaldcioneooaaDoorTie.lean); close each card by the builder's one call (the guide's Derived/Test/ToyasCard.lean, 'card_holds'). Laid BY PROGRAM, IN A SANDBOX (cutbox-door.mjs). By AI agents, Wed Nov 11 2026. No macro, syntax, notation, axiom, sorry.
-/
import Derived.Test.YtblaldcioneooaaDoorRows
import GoSem.ClaimSeven
namespace Go.Proofs.YtblaldcioneooaaDoor
namespace Rows

/-- THE TIED CARD OF 'texttoolslaw05.LocaleJoins'. -/
def localeJoinsCard : Claim7 := { stood := { row := localeJoinsRow, standIns := [], harness := (true, "6785ff5631b9a380532ee8d74d666ef3c7c83bf084b1db51365284af8b8bd106"), looks := true }, kinds := [], alts := [], laidByText := true, laidKinds := [.data], laidTests := true, laidLooks := .later }
def LocaleJoinsCardSaid : Prop := Claim7.holds Tryd.pinned (.plain (OpenSpec.ofChange localeJoinsSpec)) localeJoinsCard

/-- THE TIED CARD OF 'texttoolslaw05.LocaleRanges'. -/
def localeRangesCard : Claim7 := { stood := { row := localeRangesRow, standIns := [], harness := (true, "6785ff5631b9a380532ee8d74d666ef3c7c83bf084b1db51365284af8b8bd106"), looks := true }, kinds := [], alts := [], laidByText := true, laidKinds := [.data], laidTests := true, laidLooks := .later }
def LocaleRangesCardSaid : Prop := Claim7.holds Tryd.pinned (.plain (OpenSpec.ofChange localeRangesSpec)) localeRangesCard

/-- THE TIED CARD OF 'texttoolslaw06.LocaletextRoundTrips'. -/
def localetextRoundTripsCard : Claim7 := { stood := { row := localetextRoundTripsRow, standIns := [], harness := (true, "6785ff5631b9a380532ee8d74d666ef3c7c83bf084b1db51365284af8b8bd106"), looks := true }, kinds := [], alts := [], laidByText := true, laidKinds := [.data, .data, .pinned], laidTests := true, laidLooks := .later }
def LocaletextRoundTripsCardSaid : Prop := Claim7.holds Tryd.pinned (.plain (OpenSpec.ofChange localetextRoundTripsSpec)) localetextRoundTripsCard

/-- THE TIED CARD OF 'texttoolslaw06.LocaletextReads'. -/
def localetextReadsCard : Claim7 := { stood := { row := localetextReadsRow, standIns := [], harness := (true, "6785ff5631b9a380532ee8d74d666ef3c7c83bf084b1db51365284af8b8bd106"), looks := true }, kinds := [], alts := [], laidByText := true, laidKinds := [.data, .data, .pinned], laidTests := true, laidLooks := .later }
def LocaletextReadsCardSaid : Prop := Claim7.holds Tryd.pinned (.plain (OpenSpec.ofChange localetextReadsSpec)) localetextReadsCard

/-- THE TIED CARD OF 'texttoolslaw06.LocaletextSkips'. -/
def localetextSkipsCard : Claim7 := { stood := { row := localetextSkipsRow, standIns := [], harness := (true, "6785ff5631b9a380532ee8d74d666ef3c7c83bf084b1db51365284af8b8bd106"), looks := true }, kinds := [], alts := [], laidByText := true, laidKinds := [.data, .data, .pinned], laidTests := true, laidLooks := .later }
def LocaletextSkipsCardSaid : Prop := Claim7.holds Tryd.pinned (.plain (OpenSpec.ofChange localetextSkipsSpec)) localetextSkipsCard

/-- THE TIED CARD OF 'texttoolslaw06.LocaletextChanges'. -/
def localetextChangesCard : Claim7 := { stood := { row := localetextChangesRow, standIns := [], harness := (true, "6785ff5631b9a380532ee8d74d666ef3c7c83bf084b1db51365284af8b8bd106"), looks := true }, kinds := [], alts := [], laidByText := true, laidKinds := [.data, .data, .pinned], laidTests := true, laidLooks := .later }
def LocaletextChangesCardSaid : Prop := Claim7.holds Tryd.pinned (.plain (OpenSpec.ofChange localetextChangesSpec)) localetextChangesCard

/-- THE SECOND FORM's CARD OF 'texttoolslaw05.LocaleJoins'. -/
def localeJoinsUptoCard : Claim7 := { stood := { row := localeJoinsUptoRow, standIns := [], harness := (true, "6785ff5631b9a380532ee8d74d666ef3c7c83bf084b1db51365284af8b8bd106"), looks := true }, kinds := [], alts := [], laidByText := true, laidKinds := [.data], laidTests := true, laidLooks := .later }
def LocaleJoinsUptoCardSaid : Prop := Claim7.holds Tryd.pinned (.plain (OpenSpec.upto localeJoinsSpec)) localeJoinsUptoCard

/-- THE SECOND FORM's CARD OF 'texttoolslaw05.LocaleRanges'. -/
def localeRangesUptoCard : Claim7 := { stood := { row := localeRangesUptoRow, standIns := [], harness := (true, "6785ff5631b9a380532ee8d74d666ef3c7c83bf084b1db51365284af8b8bd106"), looks := true }, kinds := [], alts := [], laidByText := true, laidKinds := [.data], laidTests := true, laidLooks := .later }
def LocaleRangesUptoCardSaid : Prop := Claim7.holds Tryd.pinned (.plain (OpenSpec.upto localeRangesSpec)) localeRangesUptoCard

/-- THE SECOND FORM's CARD OF 'texttoolslaw06.LocaletextRoundTrips'. -/
def localetextRoundTripsUptoCard : Claim7 := { stood := { row := localetextRoundTripsUptoRow, standIns := [], harness := (true, "6785ff5631b9a380532ee8d74d666ef3c7c83bf084b1db51365284af8b8bd106"), looks := true }, kinds := [], alts := [], laidByText := true, laidKinds := [.data, .data, .pinned], laidTests := true, laidLooks := .later }
def LocaletextRoundTripsUptoCardSaid : Prop := Claim7.holds Tryd.pinned (.plain (OpenSpec.upto localetextRoundTripsSpec)) localetextRoundTripsUptoCard

/-- THE SECOND FORM's CARD OF 'texttoolslaw06.LocaletextReads'. -/
def localetextReadsUptoCard : Claim7 := { stood := { row := localetextReadsUptoRow, standIns := [], harness := (true, "6785ff5631b9a380532ee8d74d666ef3c7c83bf084b1db51365284af8b8bd106"), looks := true }, kinds := [], alts := [], laidByText := true, laidKinds := [.data, .data, .pinned], laidTests := true, laidLooks := .later }
def LocaletextReadsUptoCardSaid : Prop := Claim7.holds Tryd.pinned (.plain (OpenSpec.upto localetextReadsSpec)) localetextReadsUptoCard

/-- THE SECOND FORM's CARD OF 'texttoolslaw06.LocaletextSkips'. -/
def localetextSkipsUptoCard : Claim7 := { stood := { row := localetextSkipsUptoRow, standIns := [], harness := (true, "6785ff5631b9a380532ee8d74d666ef3c7c83bf084b1db51365284af8b8bd106"), looks := true }, kinds := [], alts := [], laidByText := true, laidKinds := [.data, .data, .pinned], laidTests := true, laidLooks := .later }
def LocaletextSkipsUptoCardSaid : Prop := Claim7.holds Tryd.pinned (.plain (OpenSpec.upto localetextSkipsSpec)) localetextSkipsUptoCard

/-- THE SECOND FORM's CARD OF 'texttoolslaw06.LocaletextChanges'. -/
def localetextChangesUptoCard : Claim7 := { stood := { row := localetextChangesUptoRow, standIns := [], harness := (true, "6785ff5631b9a380532ee8d74d666ef3c7c83bf084b1db51365284af8b8bd106"), looks := true }, kinds := [], alts := [], laidByText := true, laidKinds := [.data, .data, .pinned], laidTests := true, laidLooks := .later }
def LocaletextChangesUptoCardSaid : Prop := Claim7.holds Tryd.pinned (.plain (OpenSpec.upto localetextChangesSpec)) localetextChangesUptoCard
end Rows
end Go.Proofs.YtblaldcioneooaaDoor
