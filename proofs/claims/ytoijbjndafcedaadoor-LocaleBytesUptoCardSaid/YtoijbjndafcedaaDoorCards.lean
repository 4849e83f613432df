/-
  DERIVED. GIVEN WITH THE SEED: THE CARDS: each row of YtoijbjndafcedaaDoorRows.lean that lists a variable, with what it lists TIED to the program's text (the seventh form; the later family's looks); each row that meets fmt, with fmt's text TOLD by the authors' own Lean function (tested against real Go, not proved from fmt's source: count such statements apart). THE CARD IS WHAT COUNTS. Prove the row's statement (the work); the ties are given (YtoijbjndafcedaaDoorTie.lean); close each card by the builder's one call (the guide's Derived/Test/ToyasCard.lean, 'card_holds'). Laid BY PROGRAM, IN A SANDBOX (cutbox-door.mjs). By AI agents, Wed Nov 11 2026. No macro, syntax, notation, axiom, sorry.
-/
import Derived.Test.YtoijbjndafcedaaDoorRows
import GoSem.ClaimSeven
namespace Go.Proofs.YtoijbjndafcedaaDoor
namespace Rows

/-- THE TIED CARD OF 'texttoolslaw05.LocaleChecks'. -/
def localeChecksCard : Claim7 := { stood := { row := localeChecksRow, standIns := [], harness := (true, "77c8cbf9bc46974adde23d4bc2e87fb72d2f94d6c3a7a06f9a0eb41a0ef28f98"), looks := false }, kinds := [], alts := [], laidByText := true, laidKinds := [.data], laidTests := true, laidLooks := .later }
def LocaleChecksCardSaid : Prop := Claim7.holds Tryd.pinned (.plain (OpenSpec.ofChange localeChecksSpec)) localeChecksCard

/-- THE TIED CARD OF 'texttoolslaw05.LocaleSplits'. -/
def localeSplitsCard : Claim7 := { stood := { row := localeSplitsRow, standIns := [], harness := (true, "77c8cbf9bc46974adde23d4bc2e87fb72d2f94d6c3a7a06f9a0eb41a0ef28f98"), looks := false }, kinds := [], alts := [], laidByText := true, laidKinds := [.data], laidTests := true, laidLooks := .later }
def LocaleSplitsCardSaid : Prop := Claim7.holds Tryd.pinned (.plain (OpenSpec.ofChange localeSplitsSpec)) localeSplitsCard

/-- THE TIED CARD OF 'texttoolslaw05.LocaleCompares'. -/
def localeComparesCard : Claim7 := { stood := { row := localeComparesRow, standIns := [], harness := (true, "77c8cbf9bc46974adde23d4bc2e87fb72d2f94d6c3a7a06f9a0eb41a0ef28f98"), looks := false }, kinds := [], alts := [], laidByText := true, laidKinds := [.data], laidTests := true, laidLooks := .later }
def LocaleComparesCardSaid : Prop := Claim7.holds Tryd.pinned (.plain (OpenSpec.ofChange localeComparesSpec)) localeComparesCard

/-- THE TIED CARD OF 'texttoolslaw05.LocaleSets'. -/
def localeSetsCard : Claim7 := { stood := { row := localeSetsRow, standIns := [], harness := (true, "77c8cbf9bc46974adde23d4bc2e87fb72d2f94d6c3a7a06f9a0eb41a0ef28f98"), looks := false }, kinds := [], alts := [], laidByText := true, laidKinds := [.data], laidTests := true, laidLooks := .later }
def LocaleSetsCardSaid : Prop := Claim7.holds Tryd.pinned (.plain (OpenSpec.ofChange localeSetsSpec)) localeSetsCard

/-- THE TIED CARD OF 'texttoolslaw05.LocaleJoins'. -/
def localeJoinsCard : Claim7 := { stood := { row := localeJoinsRow, standIns := [], harness := (true, "77c8cbf9bc46974adde23d4bc2e87fb72d2f94d6c3a7a06f9a0eb41a0ef28f98"), looks := false }, kinds := [], alts := [], laidByText := true, laidKinds := [.data], laidTests := true, laidLooks := .later }
def LocaleJoinsCardSaid : Prop := Claim7.holds Tryd.pinned (.plain (OpenSpec.ofChange localeJoinsSpec)) localeJoinsCard

/-- THE TIED CARD OF 'texttoolslaw05.LocaleOrders'. -/
def localeOrdersCard : Claim7 := { stood := { row := localeOrdersRow, standIns := [], harness := (true, "77c8cbf9bc46974adde23d4bc2e87fb72d2f94d6c3a7a06f9a0eb41a0ef28f98"), looks := false }, kinds := [], alts := [], laidByText := true, laidKinds := [.data], laidTests := true, laidLooks := .later }
def LocaleOrdersCardSaid : Prop := Claim7.holds Tryd.pinned (.plain (OpenSpec.ofChange localeOrdersSpec)) localeOrdersCard

/-- THE TIED CARD OF 'texttoolslaw05.LocaleRanges'. -/
def localeRangesCard : Claim7 := { stood := { row := localeRangesRow, standIns := [], harness := (true, "77c8cbf9bc46974adde23d4bc2e87fb72d2f94d6c3a7a06f9a0eb41a0ef28f98"), looks := false }, kinds := [], alts := [], laidByText := true, laidKinds := [.data], laidTests := true, laidLooks := .later }
def LocaleRangesCardSaid : Prop := Claim7.holds Tryd.pinned (.plain (OpenSpec.ofChange localeRangesSpec)) localeRangesCard

/-- THE TIED CARD OF 'texttoolslaw05.LocaleBytes'. -/
def localeBytesCard : Claim7 := { stood := { row := localeBytesRow, standIns := [], harness := (true, "77c8cbf9bc46974adde23d4bc2e87fb72d2f94d6c3a7a06f9a0eb41a0ef28f98"), looks := false }, kinds := [], alts := [], laidByText := true, laidKinds := [.data], laidTests := true, laidLooks := .later }
def LocaleBytesCardSaid : Prop := Claim7.holds Tryd.pinned (.plain (OpenSpec.ofChange localeBytesSpec)) localeBytesCard

/-- THE SECOND FORM's CARD OF 'texttoolslaw05.LocaleChecks'. -/
def localeChecksUptoCard : Claim7 := { stood := { row := localeChecksUptoRow, standIns := [], harness := (true, "77c8cbf9bc46974adde23d4bc2e87fb72d2f94d6c3a7a06f9a0eb41a0ef28f98"), looks := false }, kinds := [], alts := [], laidByText := true, laidKinds := [.data], laidTests := true, laidLooks := .later }
def LocaleChecksUptoCardSaid : Prop := Claim7.holds Tryd.pinned (.plain (OpenSpec.upto localeChecksSpec)) localeChecksUptoCard

/-- THE SECOND FORM's CARD OF 'texttoolslaw05.LocaleSplits'. -/
def localeSplitsUptoCard : Claim7 := { stood := { row := localeSplitsUptoRow, standIns := [], harness := (true, "77c8cbf9bc46974adde23d4bc2e87fb72d2f94d6c3a7a06f9a0eb41a0ef28f98"), looks := false }, kinds := [], alts := [], laidByText := true, laidKinds := [.data], laidTests := true, laidLooks := .later }
def LocaleSplitsUptoCardSaid : Prop := Claim7.holds Tryd.pinned (.plain (OpenSpec.upto localeSplitsSpec)) localeSplitsUptoCard

/-- THE SECOND FORM's CARD OF 'texttoolslaw05.LocaleCompares'. -/
def localeComparesUptoCard : Claim7 := { stood := { row := localeComparesUptoRow, standIns := [], harness := (true, "77c8cbf9bc46974adde23d4bc2e87fb72d2f94d6c3a7a06f9a0eb41a0ef28f98"), looks := false }, kinds := [], alts := [], laidByText := true, laidKinds := [.data], laidTests := true, laidLooks := .later }
def LocaleComparesUptoCardSaid : Prop := Claim7.holds Tryd.pinned (.plain (OpenSpec.upto localeComparesSpec)) localeComparesUptoCard

/-- THE SECOND FORM's CARD OF 'texttoolslaw05.LocaleSets'. -/
def localeSetsUptoCard : Claim7 := { stood := { row := localeSetsUptoRow, standIns := [], harness := (true, "77c8cbf9bc46974adde23d4bc2e87fb72d2f94d6c3a7a06f9a0eb41a0ef28f98"), looks := false }, kinds := [], alts := [], laidByText := true, laidKinds := [.data], laidTests := true, laidLooks := .later }
def LocaleSetsUptoCardSaid : Prop := Claim7.holds Tryd.pinned (.plain (OpenSpec.upto localeSetsSpec)) localeSetsUptoCard

/-- THE SECOND FORM's CARD OF 'texttoolslaw05.LocaleJoins'. -/
def localeJoinsUptoCard : Claim7 := { stood := { row := localeJoinsUptoRow, standIns := [], harness := (true, "77c8cbf9bc46974adde23d4bc2e87fb72d2f94d6c3a7a06f9a0eb41a0ef28f98"), looks := false }, kinds := [], alts := [], laidByText := true, laidKinds := [.data], laidTests := true, laidLooks := .later }
def LocaleJoinsUptoCardSaid : Prop := Claim7.holds Tryd.pinned (.plain (OpenSpec.upto localeJoinsSpec)) localeJoinsUptoCard

/-- THE SECOND FORM's CARD OF 'texttoolslaw05.LocaleOrders'. -/
def localeOrdersUptoCard : Claim7 := { stood := { row := localeOrdersUptoRow, standIns := [], harness := (true, "77c8cbf9bc46974adde23d4bc2e87fb72d2f94d6c3a7a06f9a0eb41a0ef28f98"), looks := false }, kinds := [], alts := [], laidByText := true, laidKinds := [.data], laidTests := true, laidLooks := .later }
def LocaleOrdersUptoCardSaid : Prop := Claim7.holds Tryd.pinned (.plain (OpenSpec.upto localeOrdersSpec)) localeOrdersUptoCard

/-- THE SECOND FORM's CARD OF 'texttoolslaw05.LocaleRanges'. -/
def localeRangesUptoCard : Claim7 := { stood := { row := localeRangesUptoRow, standIns := [], harness := (true, "77c8cbf9bc46974adde23d4bc2e87fb72d2f94d6c3a7a06f9a0eb41a0ef28f98"), looks := false }, kinds := [], alts := [], laidByText := true, laidKinds := [.data], laidTests := true, laidLooks := .later }
def LocaleRangesUptoCardSaid : Prop := Claim7.holds Tryd.pinned (.plain (OpenSpec.upto localeRangesSpec)) localeRangesUptoCard

/-- THE SECOND FORM's CARD OF 'texttoolslaw05.LocaleBytes'. -/
def localeBytesUptoCard : Claim7 := { stood := { row := localeBytesUptoRow, standIns := [], harness := (true, "77c8cbf9bc46974adde23d4bc2e87fb72d2f94d6c3a7a06f9a0eb41a0ef28f98"), looks := false }, kinds := [], alts := [], laidByText := true, laidKinds := [.data], laidTests := true, laidLooks := .later }
def LocaleBytesUptoCardSaid : Prop := Claim7.holds Tryd.pinned (.plain (OpenSpec.upto localeBytesSpec)) localeBytesUptoCard
end Rows
end Go.Proofs.YtoijbjndafcedaaDoor
