/-
  DERIVED. GIVEN WITH THE SEED: THE CARDS: each row of YtglkchcfggclaabDoorRows.lean that lists a variable, with what it lists TIED to the program's text (the seventh form; the later family's looks); each row that meets fmt, with fmt's text TOLD by the authors' own Lean function (tested against real Go, not proved from fmt's source: count such statements apart). THE CARD IS WHAT COUNTS. Prove the row's statement (the work); the ties are given (YtglkchcfggclaabDoorTie.lean); close each card by the builder's one call (the guide's Derived/Test/ToyasCard.lean, 'card_holds'). Laid BY PROGRAM, IN A SANDBOX (cutbox-door.mjs). By AI agents, Wed Nov 11 2026. No macro, syntax, notation, axiom, sorry.
-/
import Derived.Test.YtglkchcfggclaabDoorRows
import GoSem.ClaimSeven
namespace Go.Proofs.YtglkchcfggclaabDoor
namespace Rows

/-- THE TIED CARD OF 'laws.FnExactKindOf'. -/
def fnExactKindOfCard : Claim7 := { stood := { row := fnExactKindOfRow, standIns := [], harness := (true, "fe9477801556190331c6c9ed704868c07398facaf7df9346c101591d5224a61d"), looks := false }, kinds := [], alts := [], laidByText := true, laidKinds := [.wider], laidTests := true, laidLooks := .later }
def FnExactKindOfCardSaid : Prop := Claim7.holds Tryd.pinned (.plain (OpenSpec.ofChange fnExactKindOfSpec)) fnExactKindOfCard

/-- THE TIED CARD OF 'laws.FnExactReadStitches'. -/
def fnExactReadStitchesCard : Claim7 := { stood := { row := fnExactReadStitchesRow, standIns := [], harness := (true, "fe9477801556190331c6c9ed704868c07398facaf7df9346c101591d5224a61d"), looks := false }, kinds := [], alts := [], laidByText := true, laidKinds := [.wider], laidTests := true, laidLooks := .later }
def FnExactReadStitchesCardSaid : Prop := Claim7.holds Tryd.pinned (.plain (OpenSpec.ofChange fnExactReadStitchesSpec)) fnExactReadStitchesCard

/-- THE TIED CARD OF 'laws.FnExactStitchesText'. -/
def fnExactStitchesTextCard : Claim7 := { stood := { row := fnExactStitchesTextRow, standIns := [], harness := (true, "fe9477801556190331c6c9ed704868c07398facaf7df9346c101591d5224a61d"), looks := false }, kinds := [], alts := [], laidByText := true, laidKinds := [.wider], laidTests := true, laidLooks := .later }
def FnExactStitchesTextCardSaid : Prop := Claim7.holds Tryd.pinned (.plain (OpenSpec.ofChange fnExactStitchesTextSpec)) fnExactStitchesTextCard

/-- THE SECOND FORM's CARD OF 'laws.FnExactKindOf'. -/
def fnExactKindOfUptoCard : Claim7 := { stood := { row := fnExactKindOfUptoRow, standIns := [], harness := (true, "fe9477801556190331c6c9ed704868c07398facaf7df9346c101591d5224a61d"), looks := false }, kinds := [], alts := [], laidByText := true, laidKinds := [.wider], laidTests := true, laidLooks := .later }
def FnExactKindOfUptoCardSaid : Prop := Claim7.holds Tryd.pinned (.plain (OpenSpec.upto fnExactKindOfSpec)) fnExactKindOfUptoCard

/-- THE SECOND FORM's CARD OF 'laws.FnExactReadStitches'. -/
def fnExactReadStitchesUptoCard : Claim7 := { stood := { row := fnExactReadStitchesUptoRow, standIns := [], harness := (true, "fe9477801556190331c6c9ed704868c07398facaf7df9346c101591d5224a61d"), looks := false }, kinds := [], alts := [], laidByText := true, laidKinds := [.wider], laidTests := true, laidLooks := .later }
def FnExactReadStitchesUptoCardSaid : Prop := Claim7.holds Tryd.pinned (.plain (OpenSpec.upto fnExactReadStitchesSpec)) fnExactReadStitchesUptoCard

/-- THE SECOND FORM's CARD OF 'laws.FnExactStitchesText'. -/
def fnExactStitchesTextUptoCard : Claim7 := { stood := { row := fnExactStitchesTextUptoRow, standIns := [], harness := (true, "fe9477801556190331c6c9ed704868c07398facaf7df9346c101591d5224a61d"), looks := false }, kinds := [], alts := [], laidByText := true, laidKinds := [.wider], laidTests := true, laidLooks := .later }
def FnExactStitchesTextUptoCardSaid : Prop := Claim7.holds Tryd.pinned (.plain (OpenSpec.upto fnExactStitchesTextSpec)) fnExactStitchesTextUptoCard
end Rows
end Go.Proofs.YtglkchcfggclaabDoor
