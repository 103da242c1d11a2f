/-
  DERIVED. GIVEN WITH THE SEED: THE CARDS: each row of YtlbhpndkmgchcaaDoorRows.lean that lists a variable, with what it lists TIED to the program's text (the seventh form; the later family's looks); each row that meets fmt, with fmt's text TOLD by the authors' own Lean function (tested against real Go, not proved from fmt's source: count such statements apart). THE CARD IS WHAT COUNTS. Prove the row's statement (the work); the ties are given (YtlbhpndkmgchcaaDoorTie.lean); close each card by the builder's one call (the guide's Derived/Test/ToyasCard.lean, 'card_holds'). Laid BY PROGRAM, IN A SANDBOX (cutbox-door.mjs). By AI agents, Wed Nov 11 2026. No macro, syntax, notation, axiom, sorry.
-/
import Derived.Test.YtlbhpndkmgchcaaDoorRows
import GoSem.ClaimSeven
namespace Go.Proofs.YtlbhpndkmgchcaaDoor
namespace Rows

/-- THE TIED CARD OF 'laws.FnExactNeedleText'. -/
def fnExactNeedleTextCard : Claim7 := { stood := { row := fnExactNeedleTextRow, standIns := [], harness := (true, "9bf2a69a724a47a6123f8b8675dd3d66d625a4afce61f84f34f8859a3c084b3e"), looks := true }, kinds := [], alts := [], laidByText := true, laidKinds := [.data, .data, .data], laidTests := true, laidLooks := .later }
def FnExactNeedleTextCardSaid : Prop := Claim7.holds Tryd.pinned (.plain (OpenSpec.ofChange fnExactNeedleTextSpec)) fnExactNeedleTextCard

/-- THE TIED CARD OF 'laws.FnExactReadNeedle'. -/
def fnExactReadNeedleCard : Claim7 := { stood := { row := fnExactReadNeedleRow, standIns := [], harness := (true, "9bf2a69a724a47a6123f8b8675dd3d66d625a4afce61f84f34f8859a3c084b3e"), looks := true }, kinds := [], alts := [], laidByText := true, laidKinds := [.data, .data, .data, .sentinel, .sentinel], laidTests := true, laidLooks := .later }
def FnExactReadNeedleCardSaid : Prop := Claim7.holds Tryd.pinned (.plain (OpenSpec.ofChange fnExactReadNeedleSpec)) fnExactReadNeedleCard

/-- THE SECOND FORM's CARD OF 'laws.FnExactNeedleText'. -/
def fnExactNeedleTextUptoCard : Claim7 := { stood := { row := fnExactNeedleTextUptoRow, standIns := [], harness := (true, "9bf2a69a724a47a6123f8b8675dd3d66d625a4afce61f84f34f8859a3c084b3e"), looks := true }, kinds := [], alts := [], laidByText := true, laidKinds := [.data, .data, .data], laidTests := true, laidLooks := .later }
def FnExactNeedleTextUptoCardSaid : Prop := Claim7.holds Tryd.pinned (.plain (OpenSpec.upto fnExactNeedleTextSpec)) fnExactNeedleTextUptoCard

/-- THE SECOND FORM's CARD OF 'laws.FnExactReadNeedle'. -/
def fnExactReadNeedleUptoCard : Claim7 := { stood := { row := fnExactReadNeedleUptoRow, standIns := [], harness := (true, "9bf2a69a724a47a6123f8b8675dd3d66d625a4afce61f84f34f8859a3c084b3e"), looks := true }, kinds := [], alts := [], laidByText := true, laidKinds := [.data, .data, .data, .sentinel, .sentinel], laidTests := true, laidLooks := .later }
def FnExactReadNeedleUptoCardSaid : Prop := Claim7.holds Tryd.pinned (.plain (OpenSpec.upto fnExactReadNeedleSpec)) fnExactReadNeedleUptoCard
end Rows
end Go.Proofs.YtlbhpndkmgchcaaDoor
