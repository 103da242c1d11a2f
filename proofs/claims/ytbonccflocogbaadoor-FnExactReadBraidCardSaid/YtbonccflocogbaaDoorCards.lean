/-
  DERIVED. GIVEN WITH THE SEED: THE CARDS: each row of YtbonccflocogbaaDoorRows.lean that lists a variable, with what it lists TIED to the program's text (the seventh form; the later family's looks); each row that meets fmt, with fmt's text TOLD by the authors' own Lean function (tested against real Go, not proved from fmt's source: count such statements apart). THE CARD IS WHAT COUNTS. Prove the row's statement (the work); the ties are given (YtbonccflocogbaaDoorTie.lean); close each card by the builder's one call (the guide's Derived/Test/ToyasCard.lean, 'card_holds'). Laid BY PROGRAM, IN A SANDBOX (cutbox-door.mjs). By AI agents, Wed Nov 11 2026. No macro, syntax, notation, axiom, sorry.
-/
import Derived.Test.YtbonccflocogbaaDoorRows
import GoSem.ClaimSeven
namespace Go.Proofs.YtbonccflocogbaaDoor
namespace Rows

/-- THE TIED CARD OF 'laws.FnExactReadBraid'. -/
def fnExactReadBraidCard : Claim7 := { stood := { row := fnExactReadBraidRow, standIns := [], harness := (true, "a86bab89a1989b03203f4efdf85dfd527bdf7ad802c64ea2d413c7df3381335b"), looks := true }, kinds := [], alts := [], laidByText := true, laidKinds := [.data, .data, .data, .sentinel, .sentinel], laidTests := true, laidLooks := .later }
def FnExactReadBraidCardSaid : Prop := Claim7.holds Tryd.pinned (.plain (OpenSpec.ofChange fnExactReadBraidSpec)) fnExactReadBraidCard

/-- THE SECOND FORM's CARD OF 'laws.FnExactReadBraid'. -/
def fnExactReadBraidUptoCard : Claim7 := { stood := { row := fnExactReadBraidUptoRow, standIns := [], harness := (true, "a86bab89a1989b03203f4efdf85dfd527bdf7ad802c64ea2d413c7df3381335b"), looks := true }, kinds := [], alts := [], laidByText := true, laidKinds := [.data, .data, .data, .sentinel, .sentinel], laidTests := true, laidLooks := .later }
def FnExactReadBraidUptoCardSaid : Prop := Claim7.holds Tryd.pinned (.plain (OpenSpec.upto fnExactReadBraidSpec)) fnExactReadBraidUptoCard
end Rows
end Go.Proofs.YtbonccflocogbaaDoor
