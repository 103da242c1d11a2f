/-
  DERIVED. GIVEN WITH THE SEED: THE CARDS: each row of YtnmnikpgjglonabDoorRows.lean that lists a variable, with what it lists TIED to the program's text (the seventh form; the later family's looks); each row that meets fmt, with fmt's text TOLD by the authors' own Lean function (tested against real Go, not proved from fmt's source: count such statements apart). THE CARD IS WHAT COUNTS. Prove the row's statement (the work); the ties are given (YtnmnikpgjglonabDoorTie.lean); close each card by the builder's one call (the guide's Derived/Test/ToyasCard.lean, 'card_holds'). Laid BY PROGRAM, IN A SANDBOX (cutbox-door.mjs). By AI agents, Wed Nov 11 2026. No macro, syntax, notation, axiom, sorry.
-/
import Derived.Test.YtnmnikpgjglonabDoorRows
import GoSem.ClaimSeven
namespace Go.Proofs.YtnmnikpgjglonabDoor
namespace Rows

/-- THE TIED CARD OF 'laws.FnExactPiecesText'. -/
def fnExactPiecesTextCard : Claim7 := { stood := { row := fnExactPiecesTextRow, standIns := [], harness := (true, "a3b67cbc0b00b1e7cbb55aadf29d6a95750dfe04ae623ee75c938327f5175eda"), looks := false }, kinds := [], alts := [], laidByText := true, laidKinds := [.data, .data, .data, .wider], laidTests := true, laidLooks := .later }
def FnExactPiecesTextCardSaid : Prop := Claim7.holds Tryd.pinned (.plain (OpenSpec.ofChange fnExactPiecesTextSpec)) fnExactPiecesTextCard

/-- THE TIED CARD OF 'laws.FnExactRowText'. -/
def fnExactRowTextCard : Claim7 := { stood := { row := fnExactRowTextRow, standIns := [], harness := (true, "a3b67cbc0b00b1e7cbb55aadf29d6a95750dfe04ae623ee75c938327f5175eda"), looks := false }, kinds := [], alts := [], laidByText := true, laidKinds := [.data, .data, .data, .wider], laidTests := true, laidLooks := .later }
def FnExactRowTextCardSaid : Prop := Claim7.holds Tryd.pinned (.plain (OpenSpec.ofChange fnExactRowTextSpec)) fnExactRowTextCard

/-- THE TIED CARD OF 'laws.FnExactRepeatChart'. -/
def fnExactRepeatChartCard : Claim7 := { stood := { row := fnExactRepeatChartRow, standIns := [], harness := (true, "a3b67cbc0b00b1e7cbb55aadf29d6a95750dfe04ae623ee75c938327f5175eda"), looks := false }, kinds := [], alts := [], laidByText := true, laidKinds := [.wider], laidTests := true, laidLooks := .later }
def FnExactRepeatChartCardSaid : Prop := Claim7.holds Tryd.pinned (.plain (OpenSpec.ofChange fnExactRepeatChartSpec)) fnExactRepeatChartCard

/-- THE TIED CARD OF 'laws.FnExactStackCharts'. -/
def fnExactStackChartsCard : Claim7 := { stood := { row := fnExactStackChartsRow, standIns := [], harness := (true, "a3b67cbc0b00b1e7cbb55aadf29d6a95750dfe04ae623ee75c938327f5175eda"), looks := false }, kinds := [], alts := [], laidByText := true, laidKinds := [.wider], laidTests := true, laidLooks := .later }
def FnExactStackChartsCardSaid : Prop := Claim7.holds Tryd.pinned (.plain (OpenSpec.ofChange fnExactStackChartsSpec)) fnExactStackChartsCard

/-- THE TIED CARD OF 'laws.FnExactBesideCharts'. -/
def fnExactBesideChartsCard : Claim7 := { stood := { row := fnExactBesideChartsRow, standIns := [], harness := (true, "a3b67cbc0b00b1e7cbb55aadf29d6a95750dfe04ae623ee75c938327f5175eda"), looks := false }, kinds := [], alts := [], laidByText := true, laidKinds := [.wider], laidTests := true, laidLooks := .later }
def FnExactBesideChartsCardSaid : Prop := Claim7.holds Tryd.pinned (.plain (OpenSpec.ofChange fnExactBesideChartsSpec)) fnExactBesideChartsCard

/-- THE TIED CARD OF 'laws.FnExactRowBraid'. -/
def fnExactRowBraidCard : Claim7 := { stood := { row := fnExactRowBraidRow, standIns := [], harness := (true, "a3b67cbc0b00b1e7cbb55aadf29d6a95750dfe04ae623ee75c938327f5175eda"), looks := false }, kinds := [], alts := [], laidByText := true, laidKinds := [.wider], laidTests := true, laidLooks := .later }
def FnExactRowBraidCardSaid : Prop := Claim7.holds Tryd.pinned (.plain (OpenSpec.ofChange fnExactRowBraidSpec)) fnExactRowBraidCard

/-- THE SECOND FORM's CARD OF 'laws.FnExactPiecesText'. -/
def fnExactPiecesTextUptoCard : Claim7 := { stood := { row := fnExactPiecesTextUptoRow, standIns := [], harness := (true, "a3b67cbc0b00b1e7cbb55aadf29d6a95750dfe04ae623ee75c938327f5175eda"), looks := false }, kinds := [], alts := [], laidByText := true, laidKinds := [.data, .data, .data, .wider], laidTests := true, laidLooks := .later }
def FnExactPiecesTextUptoCardSaid : Prop := Claim7.holds Tryd.pinned (.plain (OpenSpec.upto fnExactPiecesTextSpec)) fnExactPiecesTextUptoCard

/-- THE SECOND FORM's CARD OF 'laws.FnExactRowText'. -/
def fnExactRowTextUptoCard : Claim7 := { stood := { row := fnExactRowTextUptoRow, standIns := [], harness := (true, "a3b67cbc0b00b1e7cbb55aadf29d6a95750dfe04ae623ee75c938327f5175eda"), looks := false }, kinds := [], alts := [], laidByText := true, laidKinds := [.data, .data, .data, .wider], laidTests := true, laidLooks := .later }
def FnExactRowTextUptoCardSaid : Prop := Claim7.holds Tryd.pinned (.plain (OpenSpec.upto fnExactRowTextSpec)) fnExactRowTextUptoCard

/-- THE SECOND FORM's CARD OF 'laws.FnExactRepeatChart'. -/
def fnExactRepeatChartUptoCard : Claim7 := { stood := { row := fnExactRepeatChartUptoRow, standIns := [], harness := (true, "a3b67cbc0b00b1e7cbb55aadf29d6a95750dfe04ae623ee75c938327f5175eda"), looks := false }, kinds := [], alts := [], laidByText := true, laidKinds := [.wider], laidTests := true, laidLooks := .later }
def FnExactRepeatChartUptoCardSaid : Prop := Claim7.holds Tryd.pinned (.plain (OpenSpec.upto fnExactRepeatChartSpec)) fnExactRepeatChartUptoCard

/-- THE SECOND FORM's CARD OF 'laws.FnExactStackCharts'. -/
def fnExactStackChartsUptoCard : Claim7 := { stood := { row := fnExactStackChartsUptoRow, standIns := [], harness := (true, "a3b67cbc0b00b1e7cbb55aadf29d6a95750dfe04ae623ee75c938327f5175eda"), looks := false }, kinds := [], alts := [], laidByText := true, laidKinds := [.wider], laidTests := true, laidLooks := .later }
def FnExactStackChartsUptoCardSaid : Prop := Claim7.holds Tryd.pinned (.plain (OpenSpec.upto fnExactStackChartsSpec)) fnExactStackChartsUptoCard

/-- THE SECOND FORM's CARD OF 'laws.FnExactBesideCharts'. -/
def fnExactBesideChartsUptoCard : Claim7 := { stood := { row := fnExactBesideChartsUptoRow, standIns := [], harness := (true, "a3b67cbc0b00b1e7cbb55aadf29d6a95750dfe04ae623ee75c938327f5175eda"), looks := false }, kinds := [], alts := [], laidByText := true, laidKinds := [.wider], laidTests := true, laidLooks := .later }
def FnExactBesideChartsUptoCardSaid : Prop := Claim7.holds Tryd.pinned (.plain (OpenSpec.upto fnExactBesideChartsSpec)) fnExactBesideChartsUptoCard

/-- THE SECOND FORM's CARD OF 'laws.FnExactRowBraid'. -/
def fnExactRowBraidUptoCard : Claim7 := { stood := { row := fnExactRowBraidUptoRow, standIns := [], harness := (true, "a3b67cbc0b00b1e7cbb55aadf29d6a95750dfe04ae623ee75c938327f5175eda"), looks := false }, kinds := [], alts := [], laidByText := true, laidKinds := [.wider], laidTests := true, laidLooks := .later }
def FnExactRowBraidUptoCardSaid : Prop := Claim7.holds Tryd.pinned (.plain (OpenSpec.upto fnExactRowBraidSpec)) fnExactRowBraidUptoCard
end Rows
end Go.Proofs.YtnmnikpgjglonabDoor
