/-
  DERIVED. GIVEN WITH THE SEED: THE CARDS: each row of YtiacfejileeieabDoorRows.lean that lists a variable, with what it lists TIED to the program's text (the seventh form; the later family's looks); each row that meets fmt, with fmt's text TOLD by the authors' own Lean function (tested against real Go, not proved from fmt's source: count such statements apart). THE CARD IS WHAT COUNTS. Prove the row's statement (the work); the ties are given (YtiacfejileeieabDoorTie.lean); close each card by the builder's one call (the guide's Derived/Test/ToyasCard.lean, 'card_holds'). Laid BY PROGRAM, IN A SANDBOX (cutbox-door.mjs). By AI agents, Wed Nov 11 2026. No macro, syntax, notation, axiom, sorry.
-/
import Derived.Test.YtiacfejileeieabDoorRows
import GoSem.ClaimSeven
namespace Go.Proofs.YtiacfejileeieabDoor
namespace Rows

/-- THE TIED CARD OF 'laws.FnExactNeedOf'. -/
def fnExactNeedOfCard : Claim7 := { stood := { row := fnExactNeedOfRow, standIns := [], harness := (true, "0f6e2e320b73a3a02bb0fa6bb3253e3dd54101a972559f743c2c89300fde28e5"), looks := false }, kinds := [], alts := [], laidByText := true, laidKinds := [.wider], laidTests := true, laidLooks := .later }
def FnExactNeedOfCardSaid : Prop := Claim7.holds Tryd.pinned (.plain (OpenSpec.ofChange fnExactNeedOfSpec)) fnExactNeedOfCard

/-- THE TIED CARD OF 'laws.FnExactStackCharts'. -/
def fnExactStackChartsCard : Claim7 := { stood := { row := fnExactStackChartsRow, standIns := [], harness := (true, "0f6e2e320b73a3a02bb0fa6bb3253e3dd54101a972559f743c2c89300fde28e5"), looks := false }, kinds := [], alts := [], laidByText := true, laidKinds := [.wider], laidTests := true, laidLooks := .later }
def FnExactStackChartsCardSaid : Prop := Claim7.holds Tryd.pinned (.plain (OpenSpec.ofChange fnExactStackChartsSpec)) fnExactStackChartsCard

/-- THE TIED CARD OF 'laws.FnExactRepeatChart'. -/
def fnExactRepeatChartCard : Claim7 := { stood := { row := fnExactRepeatChartRow, standIns := [], harness := (true, "0f6e2e320b73a3a02bb0fa6bb3253e3dd54101a972559f743c2c89300fde28e5"), looks := false }, kinds := [], alts := [], laidByText := true, laidKinds := [.wider], laidTests := true, laidLooks := .later }
def FnExactRepeatChartCardSaid : Prop := Claim7.holds Tryd.pinned (.plain (OpenSpec.ofChange fnExactRepeatChartSpec)) fnExactRepeatChartCard

/-- THE TIED CARD OF 'laws.FnExactPiecesText'. -/
def fnExactPiecesTextCard : Claim7 := { stood := { row := fnExactPiecesTextRow, standIns := [], harness := (true, "0f6e2e320b73a3a02bb0fa6bb3253e3dd54101a972559f743c2c89300fde28e5"), looks := false }, kinds := [], alts := [], laidByText := true, laidKinds := [.data, .data, .data, .wider], laidTests := true, laidLooks := .later }
def FnExactPiecesTextCardSaid : Prop := Claim7.holds Tryd.pinned (.plain (OpenSpec.ofChange fnExactPiecesTextSpec)) fnExactPiecesTextCard

/-- THE SECOND FORM's CARD OF 'laws.FnExactNeedOf'. -/
def fnExactNeedOfUptoCard : Claim7 := { stood := { row := fnExactNeedOfUptoRow, standIns := [], harness := (true, "0f6e2e320b73a3a02bb0fa6bb3253e3dd54101a972559f743c2c89300fde28e5"), looks := false }, kinds := [], alts := [], laidByText := true, laidKinds := [.wider], laidTests := true, laidLooks := .later }
def FnExactNeedOfUptoCardSaid : Prop := Claim7.holds Tryd.pinned (.plain (OpenSpec.upto fnExactNeedOfSpec)) fnExactNeedOfUptoCard

/-- THE SECOND FORM's CARD OF 'laws.FnExactStackCharts'. -/
def fnExactStackChartsUptoCard : Claim7 := { stood := { row := fnExactStackChartsUptoRow, standIns := [], harness := (true, "0f6e2e320b73a3a02bb0fa6bb3253e3dd54101a972559f743c2c89300fde28e5"), looks := false }, kinds := [], alts := [], laidByText := true, laidKinds := [.wider], laidTests := true, laidLooks := .later }
def FnExactStackChartsUptoCardSaid : Prop := Claim7.holds Tryd.pinned (.plain (OpenSpec.upto fnExactStackChartsSpec)) fnExactStackChartsUptoCard

/-- THE SECOND FORM's CARD OF 'laws.FnExactRepeatChart'. -/
def fnExactRepeatChartUptoCard : Claim7 := { stood := { row := fnExactRepeatChartUptoRow, standIns := [], harness := (true, "0f6e2e320b73a3a02bb0fa6bb3253e3dd54101a972559f743c2c89300fde28e5"), looks := false }, kinds := [], alts := [], laidByText := true, laidKinds := [.wider], laidTests := true, laidLooks := .later }
def FnExactRepeatChartUptoCardSaid : Prop := Claim7.holds Tryd.pinned (.plain (OpenSpec.upto fnExactRepeatChartSpec)) fnExactRepeatChartUptoCard

/-- THE SECOND FORM's CARD OF 'laws.FnExactPiecesText'. -/
def fnExactPiecesTextUptoCard : Claim7 := { stood := { row := fnExactPiecesTextUptoRow, standIns := [], harness := (true, "0f6e2e320b73a3a02bb0fa6bb3253e3dd54101a972559f743c2c89300fde28e5"), looks := false }, kinds := [], alts := [], laidByText := true, laidKinds := [.data, .data, .data, .wider], laidTests := true, laidLooks := .later }
def FnExactPiecesTextUptoCardSaid : Prop := Claim7.holds Tryd.pinned (.plain (OpenSpec.upto fnExactPiecesTextSpec)) fnExactPiecesTextUptoCard
end Rows
end Go.Proofs.YtiacfejileeieabDoor
