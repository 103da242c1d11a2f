/-
  DERIVED. GIVEN WITH THE SEED: THE CARDS: each row of YtbbnheiibkcgiaaDoorRows.lean that lists a variable, with what it lists TIED to the program's text (the seventh form; the later family's looks); each row that meets fmt, with fmt's text TOLD by the authors' own Lean function (tested against real Go, not proved from fmt's source: count such statements apart). THE CARD IS WHAT COUNTS. Prove the row's statement (the work); the ties are given (YtbbnheiibkcgiaaDoorTie.lean); close each card by the builder's one call (the guide's Derived/Test/ToyasCard.lean, 'card_holds'). Laid BY PROGRAM, IN A SANDBOX (cutbox-door.mjs). By AI agents, Wed Nov 11 2026. No macro, syntax, notation, axiom, sorry.
-/
import Derived.Test.YtbbnheiibkcgiaaDoorRows
import GoSem.ClaimSeven
namespace Go.Proofs.YtbbnheiibkcgiaaDoor
namespace Rows

/-- THE TIED CARD OF 'laws.FnExactLayoutWidth'. -/
def fnExactLayoutWidthCard : Claim7 := { stood := { row := fnExactLayoutWidthRow, standIns := [], harness := (true, "d3f0ede3e4cad4a9221d4f5f1d071a21aa7bcffbb3ea3fcacc9b85568ca626ba"), looks := false }, kinds := [], alts := [], laidByText := true, laidKinds := [.wider], laidTests := true, laidLooks := .later }
def FnExactLayoutWidthCardSaid : Prop := Claim7.holds Tryd.pinned (.plain (OpenSpec.ofChange fnExactLayoutWidthSpec)) fnExactLayoutWidthCard

/-- THE TIED CARD OF 'laws.FnExactRowTargets'. -/
def fnExactRowTargetsCard : Claim7 := { stood := { row := fnExactRowTargetsRow, standIns := [], harness := (true, "d3f0ede3e4cad4a9221d4f5f1d071a21aa7bcffbb3ea3fcacc9b85568ca626ba"), looks := false }, kinds := [], alts := [], laidByText := true, laidKinds := [.wider], laidTests := true, laidLooks := .later }
def FnExactRowTargetsCardSaid : Prop := Claim7.holds Tryd.pinned (.plain (OpenSpec.ofChange fnExactRowTargetsSpec)) fnExactRowTargetsCard

/-- THE TIED CARD OF 'laws.FnExactRowSources'. -/
def fnExactRowSourcesCard : Claim7 := { stood := { row := fnExactRowSourcesRow, standIns := [], harness := (true, "d3f0ede3e4cad4a9221d4f5f1d071a21aa7bcffbb3ea3fcacc9b85568ca626ba"), looks := false }, kinds := [], alts := [], laidByText := true, laidKinds := [.wider], laidTests := true, laidLooks := .later }
def FnExactRowSourcesCardSaid : Prop := Claim7.holds Tryd.pinned (.plain (OpenSpec.ofChange fnExactRowSourcesSpec)) fnExactRowSourcesCard

/-- THE TIED CARD OF 'laws.FnExactRowResults'. -/
def fnExactRowResultsCard : Claim7 := { stood := { row := fnExactRowResultsRow, standIns := [], harness := (true, "d3f0ede3e4cad4a9221d4f5f1d071a21aa7bcffbb3ea3fcacc9b85568ca626ba"), looks := false }, kinds := [], alts := [], laidByText := true, laidKinds := [.wider], laidTests := true, laidLooks := .later }
def FnExactRowResultsCardSaid : Prop := Claim7.holds Tryd.pinned (.plain (OpenSpec.ofChange fnExactRowResultsSpec)) fnExactRowResultsCard

/-- THE TIED CARD OF 'laws.FnExactNewColumns'. -/
def fnExactNewColumnsCard : Claim7 := { stood := { row := fnExactNewColumnsRow, standIns := [], harness := (true, "d3f0ede3e4cad4a9221d4f5f1d071a21aa7bcffbb3ea3fcacc9b85568ca626ba"), looks := false }, kinds := [], alts := [], laidByText := true, laidKinds := [.wider], laidTests := true, laidLooks := .later }
def FnExactNewColumnsCardSaid : Prop := Claim7.holds Tryd.pinned (.plain (OpenSpec.ofChange fnExactNewColumnsSpec)) fnExactNewColumnsCard

/-- THE SECOND FORM's CARD OF 'laws.FnExactLayoutWidth'. -/
def fnExactLayoutWidthUptoCard : Claim7 := { stood := { row := fnExactLayoutWidthUptoRow, standIns := [], harness := (true, "d3f0ede3e4cad4a9221d4f5f1d071a21aa7bcffbb3ea3fcacc9b85568ca626ba"), looks := false }, kinds := [], alts := [], laidByText := true, laidKinds := [.wider], laidTests := true, laidLooks := .later }
def FnExactLayoutWidthUptoCardSaid : Prop := Claim7.holds Tryd.pinned (.plain (OpenSpec.upto fnExactLayoutWidthSpec)) fnExactLayoutWidthUptoCard

/-- THE SECOND FORM's CARD OF 'laws.FnExactRowTargets'. -/
def fnExactRowTargetsUptoCard : Claim7 := { stood := { row := fnExactRowTargetsUptoRow, standIns := [], harness := (true, "d3f0ede3e4cad4a9221d4f5f1d071a21aa7bcffbb3ea3fcacc9b85568ca626ba"), looks := false }, kinds := [], alts := [], laidByText := true, laidKinds := [.wider], laidTests := true, laidLooks := .later }
def FnExactRowTargetsUptoCardSaid : Prop := Claim7.holds Tryd.pinned (.plain (OpenSpec.upto fnExactRowTargetsSpec)) fnExactRowTargetsUptoCard

/-- THE SECOND FORM's CARD OF 'laws.FnExactRowSources'. -/
def fnExactRowSourcesUptoCard : Claim7 := { stood := { row := fnExactRowSourcesUptoRow, standIns := [], harness := (true, "d3f0ede3e4cad4a9221d4f5f1d071a21aa7bcffbb3ea3fcacc9b85568ca626ba"), looks := false }, kinds := [], alts := [], laidByText := true, laidKinds := [.wider], laidTests := true, laidLooks := .later }
def FnExactRowSourcesUptoCardSaid : Prop := Claim7.holds Tryd.pinned (.plain (OpenSpec.upto fnExactRowSourcesSpec)) fnExactRowSourcesUptoCard

/-- THE SECOND FORM's CARD OF 'laws.FnExactRowResults'. -/
def fnExactRowResultsUptoCard : Claim7 := { stood := { row := fnExactRowResultsUptoRow, standIns := [], harness := (true, "d3f0ede3e4cad4a9221d4f5f1d071a21aa7bcffbb3ea3fcacc9b85568ca626ba"), looks := false }, kinds := [], alts := [], laidByText := true, laidKinds := [.wider], laidTests := true, laidLooks := .later }
def FnExactRowResultsUptoCardSaid : Prop := Claim7.holds Tryd.pinned (.plain (OpenSpec.upto fnExactRowResultsSpec)) fnExactRowResultsUptoCard

/-- THE SECOND FORM's CARD OF 'laws.FnExactNewColumns'. -/
def fnExactNewColumnsUptoCard : Claim7 := { stood := { row := fnExactNewColumnsUptoRow, standIns := [], harness := (true, "d3f0ede3e4cad4a9221d4f5f1d071a21aa7bcffbb3ea3fcacc9b85568ca626ba"), looks := false }, kinds := [], alts := [], laidByText := true, laidKinds := [.wider], laidTests := true, laidLooks := .later }
def FnExactNewColumnsUptoCardSaid : Prop := Claim7.holds Tryd.pinned (.plain (OpenSpec.upto fnExactNewColumnsSpec)) fnExactNewColumnsUptoCard
end Rows
end Go.Proofs.YtbbnheiibkcgiaaDoor
