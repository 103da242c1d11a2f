/-
  DERIVED. GIVEN WITH THE SEED: THE CARDS: each row of YtbbnheiibkcgiabDoorRows.lean that lists a variable, with what it lists TIED to the program's text (the seventh form; the later family's looks); each row that meets fmt, with fmt's text TOLD by the authors' own Lean function (tested against real Go, not proved from fmt's source: count such statements apart). THE CARD IS WHAT COUNTS. Prove the row's statement (the work); the ties are given (YtbbnheiibkcgiabDoorTie.lean); close each card by the builder's one call (the guide's Derived/Test/ToyasCard.lean, 'card_holds'). Laid BY PROGRAM, IN A SANDBOX (cutbox-door.mjs). By AI agents, Wed Nov 11 2026. No macro, syntax, notation, axiom, sorry.
-/
import Derived.Test.YtbbnheiibkcgiabDoorRows
import GoSem.ClaimSeven
namespace Go.Proofs.YtbbnheiibkcgiabDoor
namespace Rows

/-- THE TIED CARD OF 'laws.FnExactRepeatChart'. -/
def fnExactRepeatChartCard : Claim7 := { stood := { row := fnExactRepeatChartRow, standIns := [], harness := (true, "ee2fd4086d3fb0cdc2d0cb7a9272ab460950e39c72a6fe49687de26c9d36fc79"), looks := false }, kinds := [], alts := [], laidByText := true, laidKinds := [.wider], laidTests := true, laidLooks := .later }
def FnExactRepeatChartCardSaid : Prop := Claim7.holds Tryd.pinned (.plain (OpenSpec.ofChange fnExactRepeatChartSpec)) fnExactRepeatChartCard

/-- THE TIED CARD OF 'laws.FnExactBesideCharts'. -/
def fnExactBesideChartsCard : Claim7 := { stood := { row := fnExactBesideChartsRow, standIns := [], harness := (true, "ee2fd4086d3fb0cdc2d0cb7a9272ab460950e39c72a6fe49687de26c9d36fc79"), looks := false }, kinds := [], alts := [], laidByText := true, laidKinds := [.wider], laidTests := true, laidLooks := .later }
def FnExactBesideChartsCardSaid : Prop := Claim7.holds Tryd.pinned (.plain (OpenSpec.ofChange fnExactBesideChartsSpec)) fnExactBesideChartsCard

/-- THE SECOND FORM's CARD OF 'laws.FnExactRepeatChart'. -/
def fnExactRepeatChartUptoCard : Claim7 := { stood := { row := fnExactRepeatChartUptoRow, standIns := [], harness := (true, "ee2fd4086d3fb0cdc2d0cb7a9272ab460950e39c72a6fe49687de26c9d36fc79"), looks := false }, kinds := [], alts := [], laidByText := true, laidKinds := [.wider], laidTests := true, laidLooks := .later }
def FnExactRepeatChartUptoCardSaid : Prop := Claim7.holds Tryd.pinned (.plain (OpenSpec.upto fnExactRepeatChartSpec)) fnExactRepeatChartUptoCard

/-- THE SECOND FORM's CARD OF 'laws.FnExactBesideCharts'. -/
def fnExactBesideChartsUptoCard : Claim7 := { stood := { row := fnExactBesideChartsUptoRow, standIns := [], harness := (true, "ee2fd4086d3fb0cdc2d0cb7a9272ab460950e39c72a6fe49687de26c9d36fc79"), looks := false }, kinds := [], alts := [], laidByText := true, laidKinds := [.wider], laidTests := true, laidLooks := .later }
def FnExactBesideChartsUptoCardSaid : Prop := Claim7.holds Tryd.pinned (.plain (OpenSpec.upto fnExactBesideChartsSpec)) fnExactBesideChartsUptoCard
end Rows
end Go.Proofs.YtbbnheiibkcgiabDoor
