/-
  DERIVED. GIVEN WITH THE SEED: THE CARDS: each row of YtglkchcfggclaaaDoorRows.lean that lists a variable, with what it lists TIED to the program's text (the seventh form; the later family's looks); each row that meets fmt, with fmt's text TOLD by the authors' own Lean function (tested against real Go, not proved from fmt's source: count such statements apart). THE CARD IS WHAT COUNTS. Prove the row's statement (the work); the ties are given (YtglkchcfggclaaaDoorTie.lean); close each card by the builder's one call (the guide's Derived/Test/ToyasCard.lean, 'card_holds'). Laid BY PROGRAM, IN A SANDBOX (cutbox-door.mjs). By AI agents, Wed Nov 11 2026. No macro, syntax, notation, axiom, sorry.
-/
import Derived.Test.YtglkchcfggclaaaDoorRows
import GoSem.ClaimSeven
namespace Go.Proofs.YtglkchcfggclaaaDoor
namespace Rows

/-- THE TIED CARD OF 'laws.FnExactColumnsTaken'. -/
def fnExactColumnsTakenCard : Claim7 := { stood := { row := fnExactColumnsTakenRow, standIns := [], harness := (true, "33f6f3f319a9b13792ba66f581fb2bdd2297439b3a8c17e7a5ad8bc2aeba7955"), looks := false }, kinds := [], alts := [], laidByText := true, laidKinds := [.wider], laidTests := true, laidLooks := .later }
def FnExactColumnsTakenCardSaid : Prop := Claim7.holds Tryd.pinned (.plain (OpenSpec.ofChange fnExactColumnsTakenSpec)) fnExactColumnsTakenCard

/-- THE TIED CARD OF 'laws.FnExactColumnsMade'. -/
def fnExactColumnsMadeCard : Claim7 := { stood := { row := fnExactColumnsMadeRow, standIns := [], harness := (true, "33f6f3f319a9b13792ba66f581fb2bdd2297439b3a8c17e7a5ad8bc2aeba7955"), looks := false }, kinds := [], alts := [], laidByText := true, laidKinds := [.wider], laidTests := true, laidLooks := .later }
def FnExactColumnsMadeCardSaid : Prop := Claim7.holds Tryd.pinned (.plain (OpenSpec.ofChange fnExactColumnsMadeSpec)) fnExactColumnsMadeCard

/-- THE TIED CARD OF 'laws.FnExactMirrorStitch'. -/
def fnExactMirrorStitchCard : Claim7 := { stood := { row := fnExactMirrorStitchRow, standIns := [], harness := (true, "33f6f3f319a9b13792ba66f581fb2bdd2297439b3a8c17e7a5ad8bc2aeba7955"), looks := false }, kinds := [], alts := [], laidByText := true, laidKinds := [.wider], laidTests := true, laidLooks := .later }
def FnExactMirrorStitchCardSaid : Prop := Claim7.holds Tryd.pinned (.plain (OpenSpec.ofChange fnExactMirrorStitchSpec)) fnExactMirrorStitchCard

/-- THE TIED CARD OF 'laws.FnExactSymbolOf'. -/
def fnExactSymbolOfCard : Claim7 := { stood := { row := fnExactSymbolOfRow, standIns := [], harness := (true, "33f6f3f319a9b13792ba66f581fb2bdd2297439b3a8c17e7a5ad8bc2aeba7955"), looks := false }, kinds := [], alts := [], laidByText := true, laidKinds := [.wider], laidTests := true, laidLooks := .later }
def FnExactSymbolOfCardSaid : Prop := Claim7.holds Tryd.pinned (.plain (OpenSpec.ofChange fnExactSymbolOfSpec)) fnExactSymbolOfCard

/-- THE TIED CARD OF 'laws.FnExactTakenBy'. -/
def fnExactTakenByCard : Claim7 := { stood := { row := fnExactTakenByRow, standIns := [], harness := (true, "33f6f3f319a9b13792ba66f581fb2bdd2297439b3a8c17e7a5ad8bc2aeba7955"), looks := false }, kinds := [], alts := [], laidByText := true, laidKinds := [.wider], laidTests := true, laidLooks := .later }
def FnExactTakenByCardSaid : Prop := Claim7.holds Tryd.pinned (.plain (OpenSpec.ofChange fnExactTakenBySpec)) fnExactTakenByCard

/-- THE TIED CARD OF 'laws.FnExactMadeBy'. -/
def fnExactMadeByCard : Claim7 := { stood := { row := fnExactMadeByRow, standIns := [], harness := (true, "33f6f3f319a9b13792ba66f581fb2bdd2297439b3a8c17e7a5ad8bc2aeba7955"), looks := false }, kinds := [], alts := [], laidByText := true, laidKinds := [.wider], laidTests := true, laidLooks := .later }
def FnExactMadeByCardSaid : Prop := Claim7.holds Tryd.pinned (.plain (OpenSpec.ofChange fnExactMadeBySpec)) fnExactMadeByCard

/-- THE TIED CARD OF 'laws.FnExactStacksAfter'. -/
def fnExactStacksAfterCard : Claim7 := { stood := { row := fnExactStacksAfterRow, standIns := [], harness := (true, "33f6f3f319a9b13792ba66f581fb2bdd2297439b3a8c17e7a5ad8bc2aeba7955"), looks := false }, kinds := [], alts := [], laidByText := true, laidKinds := [.wider], laidTests := true, laidLooks := .later }
def FnExactStacksAfterCardSaid : Prop := Claim7.holds Tryd.pinned (.plain (OpenSpec.ofChange fnExactStacksAfterSpec)) fnExactStacksAfterCard

/-- THE TIED CARD OF 'laws.FnExactValidChart'. -/
def fnExactValidChartCard : Claim7 := { stood := { row := fnExactValidChartRow, standIns := [], harness := (true, "33f6f3f319a9b13792ba66f581fb2bdd2297439b3a8c17e7a5ad8bc2aeba7955"), looks := false }, kinds := [], alts := [], laidByText := true, laidKinds := [.wider], laidTests := true, laidLooks := .later }
def FnExactValidChartCardSaid : Prop := Claim7.holds Tryd.pinned (.plain (OpenSpec.ofChange fnExactValidChartSpec)) fnExactValidChartCard

/-- THE TIED CARD OF 'laws.FnExactStacksOf'. -/
def fnExactStacksOfCard : Claim7 := { stood := { row := fnExactStacksOfRow, standIns := [], harness := (true, "33f6f3f319a9b13792ba66f581fb2bdd2297439b3a8c17e7a5ad8bc2aeba7955"), looks := false }, kinds := [], alts := [], laidByText := true, laidKinds := [.wider], laidTests := true, laidLooks := .later }
def FnExactStacksOfCardSaid : Prop := Claim7.holds Tryd.pinned (.plain (OpenSpec.ofChange fnExactStacksOfSpec)) fnExactStacksOfCard

/-- THE TIED CARD OF 'laws.FnExactColumnsAfter'. -/
def fnExactColumnsAfterCard : Claim7 := { stood := { row := fnExactColumnsAfterRow, standIns := [], harness := (true, "33f6f3f319a9b13792ba66f581fb2bdd2297439b3a8c17e7a5ad8bc2aeba7955"), looks := false }, kinds := [], alts := [], laidByText := true, laidKinds := [.wider], laidTests := true, laidLooks := .later }
def FnExactColumnsAfterCardSaid : Prop := Claim7.holds Tryd.pinned (.plain (OpenSpec.ofChange fnExactColumnsAfterSpec)) fnExactColumnsAfterCard

/-- THE SECOND FORM's CARD OF 'laws.FnExactColumnsTaken'. -/
def fnExactColumnsTakenUptoCard : Claim7 := { stood := { row := fnExactColumnsTakenUptoRow, standIns := [], harness := (true, "33f6f3f319a9b13792ba66f581fb2bdd2297439b3a8c17e7a5ad8bc2aeba7955"), looks := false }, kinds := [], alts := [], laidByText := true, laidKinds := [.wider], laidTests := true, laidLooks := .later }
def FnExactColumnsTakenUptoCardSaid : Prop := Claim7.holds Tryd.pinned (.plain (OpenSpec.upto fnExactColumnsTakenSpec)) fnExactColumnsTakenUptoCard

/-- THE SECOND FORM's CARD OF 'laws.FnExactColumnsMade'. -/
def fnExactColumnsMadeUptoCard : Claim7 := { stood := { row := fnExactColumnsMadeUptoRow, standIns := [], harness := (true, "33f6f3f319a9b13792ba66f581fb2bdd2297439b3a8c17e7a5ad8bc2aeba7955"), looks := false }, kinds := [], alts := [], laidByText := true, laidKinds := [.wider], laidTests := true, laidLooks := .later }
def FnExactColumnsMadeUptoCardSaid : Prop := Claim7.holds Tryd.pinned (.plain (OpenSpec.upto fnExactColumnsMadeSpec)) fnExactColumnsMadeUptoCard

/-- THE SECOND FORM's CARD OF 'laws.FnExactMirrorStitch'. -/
def fnExactMirrorStitchUptoCard : Claim7 := { stood := { row := fnExactMirrorStitchUptoRow, standIns := [], harness := (true, "33f6f3f319a9b13792ba66f581fb2bdd2297439b3a8c17e7a5ad8bc2aeba7955"), looks := false }, kinds := [], alts := [], laidByText := true, laidKinds := [.wider], laidTests := true, laidLooks := .later }
def FnExactMirrorStitchUptoCardSaid : Prop := Claim7.holds Tryd.pinned (.plain (OpenSpec.upto fnExactMirrorStitchSpec)) fnExactMirrorStitchUptoCard

/-- THE SECOND FORM's CARD OF 'laws.FnExactSymbolOf'. -/
def fnExactSymbolOfUptoCard : Claim7 := { stood := { row := fnExactSymbolOfUptoRow, standIns := [], harness := (true, "33f6f3f319a9b13792ba66f581fb2bdd2297439b3a8c17e7a5ad8bc2aeba7955"), looks := false }, kinds := [], alts := [], laidByText := true, laidKinds := [.wider], laidTests := true, laidLooks := .later }
def FnExactSymbolOfUptoCardSaid : Prop := Claim7.holds Tryd.pinned (.plain (OpenSpec.upto fnExactSymbolOfSpec)) fnExactSymbolOfUptoCard

/-- THE SECOND FORM's CARD OF 'laws.FnExactTakenBy'. -/
def fnExactTakenByUptoCard : Claim7 := { stood := { row := fnExactTakenByUptoRow, standIns := [], harness := (true, "33f6f3f319a9b13792ba66f581fb2bdd2297439b3a8c17e7a5ad8bc2aeba7955"), looks := false }, kinds := [], alts := [], laidByText := true, laidKinds := [.wider], laidTests := true, laidLooks := .later }
def FnExactTakenByUptoCardSaid : Prop := Claim7.holds Tryd.pinned (.plain (OpenSpec.upto fnExactTakenBySpec)) fnExactTakenByUptoCard

/-- THE SECOND FORM's CARD OF 'laws.FnExactMadeBy'. -/
def fnExactMadeByUptoCard : Claim7 := { stood := { row := fnExactMadeByUptoRow, standIns := [], harness := (true, "33f6f3f319a9b13792ba66f581fb2bdd2297439b3a8c17e7a5ad8bc2aeba7955"), looks := false }, kinds := [], alts := [], laidByText := true, laidKinds := [.wider], laidTests := true, laidLooks := .later }
def FnExactMadeByUptoCardSaid : Prop := Claim7.holds Tryd.pinned (.plain (OpenSpec.upto fnExactMadeBySpec)) fnExactMadeByUptoCard

/-- THE SECOND FORM's CARD OF 'laws.FnExactStacksAfter'. -/
def fnExactStacksAfterUptoCard : Claim7 := { stood := { row := fnExactStacksAfterUptoRow, standIns := [], harness := (true, "33f6f3f319a9b13792ba66f581fb2bdd2297439b3a8c17e7a5ad8bc2aeba7955"), looks := false }, kinds := [], alts := [], laidByText := true, laidKinds := [.wider], laidTests := true, laidLooks := .later }
def FnExactStacksAfterUptoCardSaid : Prop := Claim7.holds Tryd.pinned (.plain (OpenSpec.upto fnExactStacksAfterSpec)) fnExactStacksAfterUptoCard

/-- THE SECOND FORM's CARD OF 'laws.FnExactValidChart'. -/
def fnExactValidChartUptoCard : Claim7 := { stood := { row := fnExactValidChartUptoRow, standIns := [], harness := (true, "33f6f3f319a9b13792ba66f581fb2bdd2297439b3a8c17e7a5ad8bc2aeba7955"), looks := false }, kinds := [], alts := [], laidByText := true, laidKinds := [.wider], laidTests := true, laidLooks := .later }
def FnExactValidChartUptoCardSaid : Prop := Claim7.holds Tryd.pinned (.plain (OpenSpec.upto fnExactValidChartSpec)) fnExactValidChartUptoCard

/-- THE SECOND FORM's CARD OF 'laws.FnExactStacksOf'. -/
def fnExactStacksOfUptoCard : Claim7 := { stood := { row := fnExactStacksOfUptoRow, standIns := [], harness := (true, "33f6f3f319a9b13792ba66f581fb2bdd2297439b3a8c17e7a5ad8bc2aeba7955"), looks := false }, kinds := [], alts := [], laidByText := true, laidKinds := [.wider], laidTests := true, laidLooks := .later }
def FnExactStacksOfUptoCardSaid : Prop := Claim7.holds Tryd.pinned (.plain (OpenSpec.upto fnExactStacksOfSpec)) fnExactStacksOfUptoCard

/-- THE SECOND FORM's CARD OF 'laws.FnExactColumnsAfter'. -/
def fnExactColumnsAfterUptoCard : Claim7 := { stood := { row := fnExactColumnsAfterUptoRow, standIns := [], harness := (true, "33f6f3f319a9b13792ba66f581fb2bdd2297439b3a8c17e7a5ad8bc2aeba7955"), looks := false }, kinds := [], alts := [], laidByText := true, laidKinds := [.wider], laidTests := true, laidLooks := .later }
def FnExactColumnsAfterUptoCardSaid : Prop := Claim7.holds Tryd.pinned (.plain (OpenSpec.upto fnExactColumnsAfterSpec)) fnExactColumnsAfterUptoCard
end Rows
end Go.Proofs.YtglkchcfggclaaaDoor
