/-
  DERIVED. GIVEN WITH THE SEED: THE CARDS: each row of YtblaldcioneooaaGreatDoorRows.lean that lists a variable, with what it lists TIED to the program's text (the seventh form; the later family's looks); each row that meets fmt, with fmt's text TOLD by the authors' own Lean function (tested against real Go, not proved from fmt's source: count such statements apart). THE CARD IS WHAT COUNTS. Prove the row's statement (the work); the ties are given (YtblaldcioneooaaGreatDoorTie.lean); close each card by the builder's one call (the guide's Derived/Test/ToyasCard.lean, 'card_holds'). Laid BY PROGRAM, IN A SANDBOX (cutbox-door.mjs). By AI agents, Wed Nov 11 2026. No macro, syntax, notation, axiom, sorry.
-/
import Derived.Test.YtblaldcioneooaaGreatDoorRows
import GoSem.ClaimSeven
namespace Go.Proofs.YtblaldcioneooaaGreatDoor
namespace Rows

/-- THE TIED CARD OF 'texttoolslaw06.LocaletextParses'. -/
def localetextParsesCard : Claim7 := { stood := { row := localetextParsesRow, standIns := [], harness := (true, "6e7c2d4c8fd40a48e4e9d11f01812bf64a9736c2978acd97d92c98f4ed97b881"), looks := true }, kinds := [], alts := [], laidByText := true, laidKinds := [.data, .data, .pinned], laidTests := true, laidLooks := .later }
def LocaletextParsesCardSaid : Prop := Claim7.holds Tryz.pinned (.plain (OpenSpec.ofChange localetextParsesSpec)) localetextParsesCard

/-- THE TIED CARD OF 'texttoolslaw06.LocaletextFormats'. -/
def localetextFormatsCard : Claim7 := { stood := { row := localetextFormatsRow, standIns := [], harness := (true, "6e7c2d4c8fd40a48e4e9d11f01812bf64a9736c2978acd97d92c98f4ed97b881"), looks := true }, kinds := [], alts := [], laidByText := true, laidKinds := [.data, .data, .pinned], laidTests := true, laidLooks := .later }
def LocaletextFormatsCardSaid : Prop := Claim7.holds Tryz.pinned (.plain (OpenSpec.ofChange localetextFormatsSpec)) localetextFormatsCard

/-- THE SECOND FORM's CARD OF 'texttoolslaw06.LocaletextParses'. -/
def localetextParsesUptoCard : Claim7 := { stood := { row := localetextParsesUptoRow, standIns := [], harness := (true, "6e7c2d4c8fd40a48e4e9d11f01812bf64a9736c2978acd97d92c98f4ed97b881"), looks := true }, kinds := [], alts := [], laidByText := true, laidKinds := [.data, .data, .pinned], laidTests := true, laidLooks := .later }
def LocaletextParsesUptoCardSaid : Prop := Claim7.holds Tryz.pinned (.plain (OpenSpec.upto localetextParsesSpec)) localetextParsesUptoCard

/-- THE SECOND FORM's CARD OF 'texttoolslaw06.LocaletextFormats'. -/
def localetextFormatsUptoCard : Claim7 := { stood := { row := localetextFormatsUptoRow, standIns := [], harness := (true, "6e7c2d4c8fd40a48e4e9d11f01812bf64a9736c2978acd97d92c98f4ed97b881"), looks := true }, kinds := [], alts := [], laidByText := true, laidKinds := [.data, .data, .pinned], laidTests := true, laidLooks := .later }
def LocaletextFormatsUptoCardSaid : Prop := Claim7.holds Tryz.pinned (.plain (OpenSpec.upto localetextFormatsSpec)) localetextFormatsUptoCard
end Rows
end Go.Proofs.YtblaldcioneooaaGreatDoor
