/-
  DERIVED. GIVEN WITH THE SEED: THE CARDS: each row of YtphiaagppcbefaaGreatDoorRows.lean that lists a variable, with what it lists TIED to the program's text (the seventh form; the later family's looks); each row that meets fmt, with fmt's text TOLD by the authors' own Lean function (tested against real Go, not proved from fmt's source: count such statements apart). THE CARD IS WHAT COUNTS. Prove the row's statement (the work); the ties are given (YtphiaagppcbefaaGreatDoorTie.lean); close each card by the builder's one call (the guide's Derived/Test/ToyasCard.lean, 'card_holds'). Laid BY PROGRAM, IN A SANDBOX (cutbox-door.mjs). By AI agents, Wed Nov 11 2026. No macro, syntax, notation, axiom, sorry.
-/
import Derived.Test.YtphiaagppcbefaaGreatDoorRows
import GoSem.ClaimSeven
namespace Go.Proofs.YtphiaagppcbefaaGreatDoor
namespace Rows

/-- THE TIED CARD OF 'texttoolslaw07.RetextParses'. -/
def retextParsesCard : Claim7 := { stood := { row := retextParsesRow, standIns := [], harness := (true, "227fb44c206aff51904a05244af6841f5a03469809f9dec5a01d2e51d701c250"), looks := false }, kinds := [], alts := [], laidByText := true, laidKinds := [.data, .data], laidTests := true, laidLooks := .later }
def RetextParsesCardSaid : Prop := Claim7.holds Tryz.pinned (.plain (OpenSpec.ofChange retextParsesSpec)) retextParsesCard

/-- THE TIED CARD OF 'texttoolslaw07.RetextPrints'. -/
def retextPrintsCard : Claim7 := { stood := { row := retextPrintsRow, standIns := [], harness := (true, "227fb44c206aff51904a05244af6841f5a03469809f9dec5a01d2e51d701c250"), looks := false }, kinds := [], alts := [], laidByText := true, laidKinds := [.data, .data], laidTests := true, laidLooks := .later }
def RetextPrintsCardSaid : Prop := Claim7.holds Tryz.pinned (.plain (OpenSpec.ofChange retextPrintsSpec)) retextPrintsCard

/-- THE TIED CARD OF 'texttoolslaw07.RetextRoundTrips'. -/
def retextRoundTripsCard : Claim7 := { stood := { row := retextRoundTripsRow, standIns := [], harness := (true, "227fb44c206aff51904a05244af6841f5a03469809f9dec5a01d2e51d701c250"), looks := false }, kinds := [], alts := [], laidByText := true, laidKinds := [.data, .data], laidTests := true, laidLooks := .later }
def RetextRoundTripsCardSaid : Prop := Claim7.holds Tryz.pinned (.plain (OpenSpec.ofChange retextRoundTripsSpec)) retextRoundTripsCard

/-- THE TIED CARD OF 'texttoolslaw07.RetextPlain'. -/
def retextPlainCard : Claim7 := { stood := { row := retextPlainRow, standIns := [], harness := (true, "227fb44c206aff51904a05244af6841f5a03469809f9dec5a01d2e51d701c250"), looks := false }, kinds := [], alts := [], laidByText := true, laidKinds := [.data, .data], laidTests := true, laidLooks := .later }
def RetextPlainCardSaid : Prop := Claim7.holds Tryz.pinned (.plain (OpenSpec.ofChange retextPlainSpec)) retextPlainCard

/-- THE TIED CARD OF 'texttoolslaw07.RetextFolds'. -/
def retextFoldsCard : Claim7 := { stood := { row := retextFoldsRow, standIns := [], harness := (true, "227fb44c206aff51904a05244af6841f5a03469809f9dec5a01d2e51d701c250"), looks := false }, kinds := [], alts := [], laidByText := true, laidKinds := [.data, .data], laidTests := true, laidLooks := .later }
def RetextFoldsCardSaid : Prop := Claim7.holds Tryz.pinned (.plain (OpenSpec.ofChange retextFoldsSpec)) retextFoldsCard

/-- THE TIED CARD OF 'texttoolslaw07.RetextStops'. -/
def retextStopsCard : Claim7 := { stood := { row := retextStopsRow, standIns := [], harness := (true, "227fb44c206aff51904a05244af6841f5a03469809f9dec5a01d2e51d701c250"), looks := false }, kinds := [], alts := [], laidByText := true, laidKinds := [.data, .data], laidTests := true, laidLooks := .later }
def RetextStopsCardSaid : Prop := Claim7.holds Tryz.pinned (.plain (OpenSpec.ofChange retextStopsSpec)) retextStopsCard

/-- THE SECOND FORM's CARD OF 'texttoolslaw07.RetextParses'. -/
def retextParsesUptoCard : Claim7 := { stood := { row := retextParsesUptoRow, standIns := [], harness := (true, "227fb44c206aff51904a05244af6841f5a03469809f9dec5a01d2e51d701c250"), looks := false }, kinds := [], alts := [], laidByText := true, laidKinds := [.data, .data], laidTests := true, laidLooks := .later }
def RetextParsesUptoCardSaid : Prop := Claim7.holds Tryz.pinned (.plain (OpenSpec.upto retextParsesSpec)) retextParsesUptoCard

/-- THE SECOND FORM's CARD OF 'texttoolslaw07.RetextPrints'. -/
def retextPrintsUptoCard : Claim7 := { stood := { row := retextPrintsUptoRow, standIns := [], harness := (true, "227fb44c206aff51904a05244af6841f5a03469809f9dec5a01d2e51d701c250"), looks := false }, kinds := [], alts := [], laidByText := true, laidKinds := [.data, .data], laidTests := true, laidLooks := .later }
def RetextPrintsUptoCardSaid : Prop := Claim7.holds Tryz.pinned (.plain (OpenSpec.upto retextPrintsSpec)) retextPrintsUptoCard

/-- THE SECOND FORM's CARD OF 'texttoolslaw07.RetextRoundTrips'. -/
def retextRoundTripsUptoCard : Claim7 := { stood := { row := retextRoundTripsUptoRow, standIns := [], harness := (true, "227fb44c206aff51904a05244af6841f5a03469809f9dec5a01d2e51d701c250"), looks := false }, kinds := [], alts := [], laidByText := true, laidKinds := [.data, .data], laidTests := true, laidLooks := .later }
def RetextRoundTripsUptoCardSaid : Prop := Claim7.holds Tryz.pinned (.plain (OpenSpec.upto retextRoundTripsSpec)) retextRoundTripsUptoCard

/-- THE SECOND FORM's CARD OF 'texttoolslaw07.RetextPlain'. -/
def retextPlainUptoCard : Claim7 := { stood := { row := retextPlainUptoRow, standIns := [], harness := (true, "227fb44c206aff51904a05244af6841f5a03469809f9dec5a01d2e51d701c250"), looks := false }, kinds := [], alts := [], laidByText := true, laidKinds := [.data, .data], laidTests := true, laidLooks := .later }
def RetextPlainUptoCardSaid : Prop := Claim7.holds Tryz.pinned (.plain (OpenSpec.upto retextPlainSpec)) retextPlainUptoCard

/-- THE SECOND FORM's CARD OF 'texttoolslaw07.RetextFolds'. -/
def retextFoldsUptoCard : Claim7 := { stood := { row := retextFoldsUptoRow, standIns := [], harness := (true, "227fb44c206aff51904a05244af6841f5a03469809f9dec5a01d2e51d701c250"), looks := false }, kinds := [], alts := [], laidByText := true, laidKinds := [.data, .data], laidTests := true, laidLooks := .later }
def RetextFoldsUptoCardSaid : Prop := Claim7.holds Tryz.pinned (.plain (OpenSpec.upto retextFoldsSpec)) retextFoldsUptoCard

/-- THE SECOND FORM's CARD OF 'texttoolslaw07.RetextStops'. -/
def retextStopsUptoCard : Claim7 := { stood := { row := retextStopsUptoRow, standIns := [], harness := (true, "227fb44c206aff51904a05244af6841f5a03469809f9dec5a01d2e51d701c250"), looks := false }, kinds := [], alts := [], laidByText := true, laidKinds := [.data, .data], laidTests := true, laidLooks := .later }
def RetextStopsUptoCardSaid : Prop := Claim7.holds Tryz.pinned (.plain (OpenSpec.upto retextStopsSpec)) retextStopsUptoCard
end Rows
end Go.Proofs.YtphiaagppcbefaaGreatDoor
