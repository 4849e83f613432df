/-
  DERIVED. GIVEN WITH THE SEED: THE CARDS: each row of YtbjobbkipmkndaaDoorRows.lean that lists a variable, with what it lists TIED to the program's text (the seventh form; the later family's looks); each row that meets fmt, with fmt's text TOLD by the authors' own Lean function (tested against real Go, not proved from fmt's source: count such statements apart). THE CARD IS WHAT COUNTS. Prove the row's statement (the work); the ties are given (YtbjobbkipmkndaaDoorTie.lean); close each card by the builder's one call (the guide's Derived/Test/ToyasCard.lean, 'card_holds'). Laid BY PROGRAM, IN A SANDBOX (cutbox-door.mjs). By AI agents, Wed Nov 11 2026. No macro, syntax, notation, axiom, sorry.
-/
import Derived.Test.YtbjobbkipmkndaaDoorRows
import GoSem.ClaimSeven
namespace Go.Proofs.YtbjobbkipmkndaaDoor
namespace Rows

/-- THE TIED CARD OF 'texttoolslaw10.ReprogPrints'. -/
def reprogPrintsCard : Claim7 := { stood := { row := reprogPrintsRow, standIns := [], harness := (true, "9694152051124cdb95a09fb251a33a58494892da37cc4f9eff5a31b9e2f730c3"), looks := false }, kinds := [], alts := [], laidByText := true, laidKinds := [.data, .data], laidTests := true, laidLooks := .later }
def ReprogPrintsCardSaid : Prop := Claim7.holds Tryd.pinned (.plain (OpenSpec.ofChange reprogPrintsSpec)) reprogPrintsCard

/-- THE TIED CARD OF 'texttoolslaw10.ReprogValid'. -/
def reprogValidCard : Claim7 := { stood := { row := reprogValidRow, standIns := [], harness := (true, "9694152051124cdb95a09fb251a33a58494892da37cc4f9eff5a31b9e2f730c3"), looks := false }, kinds := [], alts := [], laidByText := true, laidKinds := [.data], laidTests := true, laidLooks := .later }
def ReprogValidCardSaid : Prop := Claim7.holds Tryd.pinned (.plain (OpenSpec.ofChange reprogValidSpec)) reprogValidCard

/-- THE TIED CARD OF 'texttoolslaw10.ReprogGroups'. -/
def reprogGroupsCard : Claim7 := { stood := { row := reprogGroupsRow, standIns := [], harness := (true, "9694152051124cdb95a09fb251a33a58494892da37cc4f9eff5a31b9e2f730c3"), looks := false }, kinds := [], alts := [], laidByText := true, laidKinds := [.data], laidTests := true, laidLooks := .later }
def ReprogGroupsCardSaid : Prop := Claim7.holds Tryd.pinned (.plain (OpenSpec.ofChange reprogGroupsSpec)) reprogGroupsCard

/-- THE TIED CARD OF 'texttoolslaw10.ReprogJoins'. -/
def reprogJoinsCard : Claim7 := { stood := { row := reprogJoinsRow, standIns := [], harness := (true, "9694152051124cdb95a09fb251a33a58494892da37cc4f9eff5a31b9e2f730c3"), looks := false }, kinds := [], alts := [], laidByText := true, laidKinds := [.data], laidTests := true, laidLooks := .later }
def ReprogJoinsCardSaid : Prop := Claim7.holds Tryd.pinned (.plain (OpenSpec.ofChange reprogJoinsSpec)) reprogJoinsCard

/-- THE TIED CARD OF 'texttoolslaw10.ReprogTexts'. -/
def reprogTextsCard : Claim7 := { stood := { row := reprogTextsRow, standIns := [], harness := (true, "9694152051124cdb95a09fb251a33a58494892da37cc4f9eff5a31b9e2f730c3"), looks := false }, kinds := [], alts := [], laidByText := true, laidKinds := [.data, .data], laidTests := true, laidLooks := .later }
def ReprogTextsCardSaid : Prop := Claim7.holds Tryd.pinned (.plain (OpenSpec.ofChange reprogTextsSpec)) reprogTextsCard

/-- THE SECOND FORM's CARD OF 'texttoolslaw10.ReprogPrints'. -/
def reprogPrintsUptoCard : Claim7 := { stood := { row := reprogPrintsUptoRow, standIns := [], harness := (true, "9694152051124cdb95a09fb251a33a58494892da37cc4f9eff5a31b9e2f730c3"), looks := false }, kinds := [], alts := [], laidByText := true, laidKinds := [.data, .data], laidTests := true, laidLooks := .later }
def ReprogPrintsUptoCardSaid : Prop := Claim7.holds Tryd.pinned (.plain (OpenSpec.upto reprogPrintsSpec)) reprogPrintsUptoCard

/-- THE SECOND FORM's CARD OF 'texttoolslaw10.ReprogValid'. -/
def reprogValidUptoCard : Claim7 := { stood := { row := reprogValidUptoRow, standIns := [], harness := (true, "9694152051124cdb95a09fb251a33a58494892da37cc4f9eff5a31b9e2f730c3"), looks := false }, kinds := [], alts := [], laidByText := true, laidKinds := [.data], laidTests := true, laidLooks := .later }
def ReprogValidUptoCardSaid : Prop := Claim7.holds Tryd.pinned (.plain (OpenSpec.upto reprogValidSpec)) reprogValidUptoCard

/-- THE SECOND FORM's CARD OF 'texttoolslaw10.ReprogGroups'. -/
def reprogGroupsUptoCard : Claim7 := { stood := { row := reprogGroupsUptoRow, standIns := [], harness := (true, "9694152051124cdb95a09fb251a33a58494892da37cc4f9eff5a31b9e2f730c3"), looks := false }, kinds := [], alts := [], laidByText := true, laidKinds := [.data], laidTests := true, laidLooks := .later }
def ReprogGroupsUptoCardSaid : Prop := Claim7.holds Tryd.pinned (.plain (OpenSpec.upto reprogGroupsSpec)) reprogGroupsUptoCard

/-- THE SECOND FORM's CARD OF 'texttoolslaw10.ReprogJoins'. -/
def reprogJoinsUptoCard : Claim7 := { stood := { row := reprogJoinsUptoRow, standIns := [], harness := (true, "9694152051124cdb95a09fb251a33a58494892da37cc4f9eff5a31b9e2f730c3"), looks := false }, kinds := [], alts := [], laidByText := true, laidKinds := [.data], laidTests := true, laidLooks := .later }
def ReprogJoinsUptoCardSaid : Prop := Claim7.holds Tryd.pinned (.plain (OpenSpec.upto reprogJoinsSpec)) reprogJoinsUptoCard

/-- THE SECOND FORM's CARD OF 'texttoolslaw10.ReprogTexts'. -/
def reprogTextsUptoCard : Claim7 := { stood := { row := reprogTextsUptoRow, standIns := [], harness := (true, "9694152051124cdb95a09fb251a33a58494892da37cc4f9eff5a31b9e2f730c3"), looks := false }, kinds := [], alts := [], laidByText := true, laidKinds := [.data, .data], laidTests := true, laidLooks := .later }
def ReprogTextsUptoCardSaid : Prop := Claim7.holds Tryd.pinned (.plain (OpenSpec.upto reprogTextsSpec)) reprogTextsUptoCard
end Rows
end Go.Proofs.YtbjobbkipmkndaaDoor
