/-
  DERIVED. GIVEN WITH THE SEED: THE CARDS: each row of YtalioekeinohkaaDoorRows.lean that lists a variable, with what it lists TIED to the program's text (the seventh form; the later family's looks); each row that meets fmt, with fmt's text TOLD by the authors' own Lean function (tested against real Go, not proved from fmt's source: count such statements apart). THE CARD IS WHAT COUNTS. Prove the row's statement (the work); the ties are given (YtalioekeinohkaaDoorTie.lean); close each card by the builder's one call (the guide's Derived/Test/ToyasCard.lean, 'card_holds'). Laid BY PROGRAM, IN A SANDBOX (cutbox-door.mjs). By AI agents, Wed Nov 11 2026. No macro, syntax, notation, axiom, sorry.
-/
import Derived.Test.YtalioekeinohkaaDoorRows
import GoSem.ClaimSeven
namespace Go.Proofs.YtalioekeinohkaaDoor
namespace Rows

/-- THE TIED CARD OF 'laws.FnExactNeedOf'. -/
def fnExactNeedOfCard : Claim7 := { stood := { row := fnExactNeedOfRow, standIns := [], harness := (true, "8b83b9e20a7085dbd0f8be8ffe8edcf7d45eafce6abfb121570577d0cbe104e6"), looks := false }, kinds := [], alts := [], laidByText := true, laidKinds := [.wider], laidTests := true, laidLooks := .later }
def FnExactNeedOfCardSaid : Prop := Claim7.holds Tryd.pinned (.plain (OpenSpec.ofChange fnExactNeedOfSpec)) fnExactNeedOfCard

/-- THE TIED CARD OF 'laws.FnExactExpandPieces'. -/
def fnExactExpandPiecesCard : Claim7 := { stood := { row := fnExactExpandPiecesRow, standIns := [], harness := (true, "8b83b9e20a7085dbd0f8be8ffe8edcf7d45eafce6abfb121570577d0cbe104e6"), looks := false }, kinds := [], alts := [], laidByText := true, laidKinds := [.wider], laidTests := true, laidLooks := .later }
def FnExactExpandPiecesCardSaid : Prop := Claim7.holds Tryd.pinned (.plain (OpenSpec.ofChange fnExactExpandPiecesSpec)) fnExactExpandPiecesCard

/-- THE TIED CARD OF 'laws.FnExactPiecesText'. -/
def fnExactPiecesTextCard : Claim7 := { stood := { row := fnExactPiecesTextRow, standIns := [], harness := (true, "8b83b9e20a7085dbd0f8be8ffe8edcf7d45eafce6abfb121570577d0cbe104e6"), looks := false }, kinds := [], alts := [], laidByText := true, laidKinds := [.data, .data, .data, .wider], laidTests := true, laidLooks := .later }
def FnExactPiecesTextCardSaid : Prop := Claim7.holds Tryd.pinned (.plain (OpenSpec.ofChange fnExactPiecesTextSpec)) fnExactPiecesTextCard

/-- THE TIED CARD OF 'laws.FnExactRowText'. -/
def fnExactRowTextCard : Claim7 := { stood := { row := fnExactRowTextRow, standIns := [], harness := (true, "8b83b9e20a7085dbd0f8be8ffe8edcf7d45eafce6abfb121570577d0cbe104e6"), looks := false }, kinds := [], alts := [], laidByText := true, laidKinds := [.data, .data, .data, .wider], laidTests := true, laidLooks := .later }
def FnExactRowTextCardSaid : Prop := Claim7.holds Tryd.pinned (.plain (OpenSpec.ofChange fnExactRowTextSpec)) fnExactRowTextCard

/-- THE TIED CARD OF 'laws.FnExactMirrorChart'. -/
def fnExactMirrorChartCard : Claim7 := { stood := { row := fnExactMirrorChartRow, standIns := [], harness := (true, "8b83b9e20a7085dbd0f8be8ffe8edcf7d45eafce6abfb121570577d0cbe104e6"), looks := false }, kinds := [], alts := [], laidByText := true, laidKinds := [.wider], laidTests := true, laidLooks := .later }
def FnExactMirrorChartCardSaid : Prop := Claim7.holds Tryd.pinned (.plain (OpenSpec.ofChange fnExactMirrorChartSpec)) fnExactMirrorChartCard

/-- THE TIED CARD OF 'laws.FnExactStackCharts'. -/
def fnExactStackChartsCard : Claim7 := { stood := { row := fnExactStackChartsRow, standIns := [], harness := (true, "8b83b9e20a7085dbd0f8be8ffe8edcf7d45eafce6abfb121570577d0cbe104e6"), looks := false }, kinds := [], alts := [], laidByText := true, laidKinds := [.wider], laidTests := true, laidLooks := .later }
def FnExactStackChartsCardSaid : Prop := Claim7.holds Tryd.pinned (.plain (OpenSpec.ofChange fnExactStackChartsSpec)) fnExactStackChartsCard

/-- THE TIED CARD OF 'laws.FnExactRepeatChart'. -/
def fnExactRepeatChartCard : Claim7 := { stood := { row := fnExactRepeatChartRow, standIns := [], harness := (true, "8b83b9e20a7085dbd0f8be8ffe8edcf7d45eafce6abfb121570577d0cbe104e6"), looks := false }, kinds := [], alts := [], laidByText := true, laidKinds := [.wider], laidTests := true, laidLooks := .later }
def FnExactRepeatChartCardSaid : Prop := Claim7.holds Tryd.pinned (.plain (OpenSpec.ofChange fnExactRepeatChartSpec)) fnExactRepeatChartCard

/-- THE TIED CARD OF 'laws.FnExactBesideCharts'. -/
def fnExactBesideChartsCard : Claim7 := { stood := { row := fnExactBesideChartsRow, standIns := [], harness := (true, "8b83b9e20a7085dbd0f8be8ffe8edcf7d45eafce6abfb121570577d0cbe104e6"), looks := false }, kinds := [], alts := [], laidByText := true, laidKinds := [.wider], laidTests := true, laidLooks := .later }
def FnExactBesideChartsCardSaid : Prop := Claim7.holds Tryd.pinned (.plain (OpenSpec.ofChange fnExactBesideChartsSpec)) fnExactBesideChartsCard

/-- THE TIED CARD OF 'laws.FnExactChartText'. -/
def fnExactChartTextCard : Claim7 := { stood := { row := fnExactChartTextRow, standIns := [], harness := (true, "8b83b9e20a7085dbd0f8be8ffe8edcf7d45eafce6abfb121570577d0cbe104e6"), looks := false }, kinds := [], alts := [], laidByText := true, laidKinds := [.data, .data, .data, .wider], laidTests := true, laidLooks := .later }
def FnExactChartTextCardSaid : Prop := Claim7.holds Tryd.pinned (.plain (OpenSpec.ofChange fnExactChartTextSpec)) fnExactChartTextCard

/-- THE SECOND FORM's CARD OF 'laws.FnExactNeedOf'. -/
def fnExactNeedOfUptoCard : Claim7 := { stood := { row := fnExactNeedOfUptoRow, standIns := [], harness := (true, "8b83b9e20a7085dbd0f8be8ffe8edcf7d45eafce6abfb121570577d0cbe104e6"), looks := false }, kinds := [], alts := [], laidByText := true, laidKinds := [.wider], laidTests := true, laidLooks := .later }
def FnExactNeedOfUptoCardSaid : Prop := Claim7.holds Tryd.pinned (.plain (OpenSpec.upto fnExactNeedOfSpec)) fnExactNeedOfUptoCard

/-- THE SECOND FORM's CARD OF 'laws.FnExactExpandPieces'. -/
def fnExactExpandPiecesUptoCard : Claim7 := { stood := { row := fnExactExpandPiecesUptoRow, standIns := [], harness := (true, "8b83b9e20a7085dbd0f8be8ffe8edcf7d45eafce6abfb121570577d0cbe104e6"), looks := false }, kinds := [], alts := [], laidByText := true, laidKinds := [.wider], laidTests := true, laidLooks := .later }
def FnExactExpandPiecesUptoCardSaid : Prop := Claim7.holds Tryd.pinned (.plain (OpenSpec.upto fnExactExpandPiecesSpec)) fnExactExpandPiecesUptoCard

/-- THE SECOND FORM's CARD OF 'laws.FnExactPiecesText'. -/
def fnExactPiecesTextUptoCard : Claim7 := { stood := { row := fnExactPiecesTextUptoRow, standIns := [], harness := (true, "8b83b9e20a7085dbd0f8be8ffe8edcf7d45eafce6abfb121570577d0cbe104e6"), looks := false }, kinds := [], alts := [], laidByText := true, laidKinds := [.data, .data, .data, .wider], laidTests := true, laidLooks := .later }
def FnExactPiecesTextUptoCardSaid : Prop := Claim7.holds Tryd.pinned (.plain (OpenSpec.upto fnExactPiecesTextSpec)) fnExactPiecesTextUptoCard

/-- THE SECOND FORM's CARD OF 'laws.FnExactRowText'. -/
def fnExactRowTextUptoCard : Claim7 := { stood := { row := fnExactRowTextUptoRow, standIns := [], harness := (true, "8b83b9e20a7085dbd0f8be8ffe8edcf7d45eafce6abfb121570577d0cbe104e6"), looks := false }, kinds := [], alts := [], laidByText := true, laidKinds := [.data, .data, .data, .wider], laidTests := true, laidLooks := .later }
def FnExactRowTextUptoCardSaid : Prop := Claim7.holds Tryd.pinned (.plain (OpenSpec.upto fnExactRowTextSpec)) fnExactRowTextUptoCard

/-- THE SECOND FORM's CARD OF 'laws.FnExactMirrorChart'. -/
def fnExactMirrorChartUptoCard : Claim7 := { stood := { row := fnExactMirrorChartUptoRow, standIns := [], harness := (true, "8b83b9e20a7085dbd0f8be8ffe8edcf7d45eafce6abfb121570577d0cbe104e6"), looks := false }, kinds := [], alts := [], laidByText := true, laidKinds := [.wider], laidTests := true, laidLooks := .later }
def FnExactMirrorChartUptoCardSaid : Prop := Claim7.holds Tryd.pinned (.plain (OpenSpec.upto fnExactMirrorChartSpec)) fnExactMirrorChartUptoCard

/-- THE SECOND FORM's CARD OF 'laws.FnExactStackCharts'. -/
def fnExactStackChartsUptoCard : Claim7 := { stood := { row := fnExactStackChartsUptoRow, standIns := [], harness := (true, "8b83b9e20a7085dbd0f8be8ffe8edcf7d45eafce6abfb121570577d0cbe104e6"), looks := false }, kinds := [], alts := [], laidByText := true, laidKinds := [.wider], laidTests := true, laidLooks := .later }
def FnExactStackChartsUptoCardSaid : Prop := Claim7.holds Tryd.pinned (.plain (OpenSpec.upto fnExactStackChartsSpec)) fnExactStackChartsUptoCard

/-- THE SECOND FORM's CARD OF 'laws.FnExactRepeatChart'. -/
def fnExactRepeatChartUptoCard : Claim7 := { stood := { row := fnExactRepeatChartUptoRow, standIns := [], harness := (true, "8b83b9e20a7085dbd0f8be8ffe8edcf7d45eafce6abfb121570577d0cbe104e6"), looks := false }, kinds := [], alts := [], laidByText := true, laidKinds := [.wider], laidTests := true, laidLooks := .later }
def FnExactRepeatChartUptoCardSaid : Prop := Claim7.holds Tryd.pinned (.plain (OpenSpec.upto fnExactRepeatChartSpec)) fnExactRepeatChartUptoCard

/-- THE SECOND FORM's CARD OF 'laws.FnExactBesideCharts'. -/
def fnExactBesideChartsUptoCard : Claim7 := { stood := { row := fnExactBesideChartsUptoRow, standIns := [], harness := (true, "8b83b9e20a7085dbd0f8be8ffe8edcf7d45eafce6abfb121570577d0cbe104e6"), looks := false }, kinds := [], alts := [], laidByText := true, laidKinds := [.wider], laidTests := true, laidLooks := .later }
def FnExactBesideChartsUptoCardSaid : Prop := Claim7.holds Tryd.pinned (.plain (OpenSpec.upto fnExactBesideChartsSpec)) fnExactBesideChartsUptoCard

/-- THE SECOND FORM's CARD OF 'laws.FnExactChartText'. -/
def fnExactChartTextUptoCard : Claim7 := { stood := { row := fnExactChartTextUptoRow, standIns := [], harness := (true, "8b83b9e20a7085dbd0f8be8ffe8edcf7d45eafce6abfb121570577d0cbe104e6"), looks := false }, kinds := [], alts := [], laidByText := true, laidKinds := [.data, .data, .data, .wider], laidTests := true, laidLooks := .later }
def FnExactChartTextUptoCardSaid : Prop := Claim7.holds Tryd.pinned (.plain (OpenSpec.upto fnExactChartTextSpec)) fnExactChartTextUptoCard
end Rows
end Go.Proofs.YtalioekeinohkaaDoor
