/-
  DERIVED. GIVEN WITH THE SEED: THE CARDS: each row of YtfgcnknmiclfnaaDoorRows.lean that lists a variable, with what it lists TIED to the program's text (the seventh form; the later family's looks); each row that meets fmt, with fmt's text TOLD by the authors' own Lean function (tested against real Go, not proved from fmt's source: count such statements apart). THE CARD IS WHAT COUNTS. Prove the row's statement (the work); the ties are given (YtfgcnknmiclfnaaDoorTie.lean); close each card by the builder's one call (the guide's Derived/Test/ToyasCard.lean, 'card_holds'). Laid BY PROGRAM, IN A SANDBOX (cutbox-door.mjs). By AI agents, Wed Nov 11 2026. No macro, syntax, notation, axiom, sorry.
-/
import Derived.Test.YtfgcnknmiclfnaaDoorRows
import GoSem.ClaimSeven
namespace Go.Proofs.YtfgcnknmiclfnaaDoor
namespace Rows

/-- THE TIED CARD OF 'texttoolslaw11.ResimSearches'. -/
def resimSearchesCard : Claim7 := { stood := { row := resimSearchesRow, standIns := [], harness := (true, "f82b93ee3ec1cae5e767ac038aac8f8ac2afffb98ece42b9055e026776c3e1f1"), looks := false }, kinds := [], alts := [], laidByText := true, laidKinds := [.data], laidTests := true, laidLooks := .later }
def ResimSearchesCardSaid : Prop := Claim7.holds Tryd.pinned (.plain (OpenSpec.ofChange resimSearchesSpec)) resimSearchesCard

/-- THE TIED CARD OF 'texttoolslaw11.ResimThreads'. -/
def resimThreadsCard : Claim7 := { stood := { row := resimThreadsRow, standIns := [], harness := (true, "f82b93ee3ec1cae5e767ac038aac8f8ac2afffb98ece42b9055e026776c3e1f1"), looks := false }, kinds := [], alts := [], laidByText := true, laidKinds := [.data], laidTests := true, laidLooks := .later }
def ResimThreadsCardSaid : Prop := Claim7.holds Tryd.pinned (.plain (OpenSpec.ofChange resimThreadsSpec)) resimThreadsCard

/-- THE TIED CARD OF 'texttoolslaw11.ResimEnds'. -/
def resimEndsCard : Claim7 := { stood := { row := resimEndsRow, standIns := [], harness := (true, "f82b93ee3ec1cae5e767ac038aac8f8ac2afffb98ece42b9055e026776c3e1f1"), looks := false }, kinds := [], alts := [], laidByText := true, laidKinds := [.data], laidTests := true, laidLooks := .later }
def ResimEndsCardSaid : Prop := Claim7.holds Tryd.pinned (.plain (OpenSpec.ofChange resimEndsSpec)) resimEndsCard

/-- THE TIED CARD OF 'texttoolslaw11.ResimShifts'. -/
def resimShiftsCard : Claim7 := { stood := { row := resimShiftsRow, standIns := [], harness := (true, "f82b93ee3ec1cae5e767ac038aac8f8ac2afffb98ece42b9055e026776c3e1f1"), looks := false }, kinds := [], alts := [], laidByText := true, laidKinds := [.data], laidTests := true, laidLooks := .later }
def ResimShiftsCardSaid : Prop := Claim7.holds Tryd.pinned (.plain (OpenSpec.ofChange resimShiftsSpec)) resimShiftsCard

/-- THE TIED CARD OF 'texttoolslaw11.ResimBytes'. -/
def resimBytesCard : Claim7 := { stood := { row := resimBytesRow, standIns := [], harness := (true, "f82b93ee3ec1cae5e767ac038aac8f8ac2afffb98ece42b9055e026776c3e1f1"), looks := false }, kinds := [], alts := [], laidByText := true, laidKinds := [.data], laidTests := true, laidLooks := .later }
def ResimBytesCardSaid : Prop := Claim7.holds Tryd.pinned (.plain (OpenSpec.ofChange resimBytesSpec)) resimBytesCard

/-- THE SECOND FORM's CARD OF 'texttoolslaw11.ResimSearches'. -/
def resimSearchesUptoCard : Claim7 := { stood := { row := resimSearchesUptoRow, standIns := [], harness := (true, "f82b93ee3ec1cae5e767ac038aac8f8ac2afffb98ece42b9055e026776c3e1f1"), looks := false }, kinds := [], alts := [], laidByText := true, laidKinds := [.data], laidTests := true, laidLooks := .later }
def ResimSearchesUptoCardSaid : Prop := Claim7.holds Tryd.pinned (.plain (OpenSpec.upto resimSearchesSpec)) resimSearchesUptoCard

/-- THE SECOND FORM's CARD OF 'texttoolslaw11.ResimThreads'. -/
def resimThreadsUptoCard : Claim7 := { stood := { row := resimThreadsUptoRow, standIns := [], harness := (true, "f82b93ee3ec1cae5e767ac038aac8f8ac2afffb98ece42b9055e026776c3e1f1"), looks := false }, kinds := [], alts := [], laidByText := true, laidKinds := [.data], laidTests := true, laidLooks := .later }
def ResimThreadsUptoCardSaid : Prop := Claim7.holds Tryd.pinned (.plain (OpenSpec.upto resimThreadsSpec)) resimThreadsUptoCard

/-- THE SECOND FORM's CARD OF 'texttoolslaw11.ResimEnds'. -/
def resimEndsUptoCard : Claim7 := { stood := { row := resimEndsUptoRow, standIns := [], harness := (true, "f82b93ee3ec1cae5e767ac038aac8f8ac2afffb98ece42b9055e026776c3e1f1"), looks := false }, kinds := [], alts := [], laidByText := true, laidKinds := [.data], laidTests := true, laidLooks := .later }
def ResimEndsUptoCardSaid : Prop := Claim7.holds Tryd.pinned (.plain (OpenSpec.upto resimEndsSpec)) resimEndsUptoCard

/-- THE SECOND FORM's CARD OF 'texttoolslaw11.ResimShifts'. -/
def resimShiftsUptoCard : Claim7 := { stood := { row := resimShiftsUptoRow, standIns := [], harness := (true, "f82b93ee3ec1cae5e767ac038aac8f8ac2afffb98ece42b9055e026776c3e1f1"), looks := false }, kinds := [], alts := [], laidByText := true, laidKinds := [.data], laidTests := true, laidLooks := .later }
def ResimShiftsUptoCardSaid : Prop := Claim7.holds Tryd.pinned (.plain (OpenSpec.upto resimShiftsSpec)) resimShiftsUptoCard

/-- THE SECOND FORM's CARD OF 'texttoolslaw11.ResimBytes'. -/
def resimBytesUptoCard : Claim7 := { stood := { row := resimBytesUptoRow, standIns := [], harness := (true, "f82b93ee3ec1cae5e767ac038aac8f8ac2afffb98ece42b9055e026776c3e1f1"), looks := false }, kinds := [], alts := [], laidByText := true, laidKinds := [.data], laidTests := true, laidLooks := .later }
def ResimBytesUptoCardSaid : Prop := Claim7.holds Tryd.pinned (.plain (OpenSpec.upto resimBytesSpec)) resimBytesUptoCard
end Rows
end Go.Proofs.YtfgcnknmiclfnaaDoor
