/-
  DERIVED. GIVEN WITH THE SEED: THE CARDS: each row of YtalcmicfjakgpaaDoorRows.lean that lists a variable, with what it lists TIED to the program's text (the seventh form; the later family's looks); each row that meets fmt, with fmt's text TOLD by the authors' own Lean function (tested against real Go, not proved from fmt's source: count such statements apart). THE CARD IS WHAT COUNTS. Prove the row's statement (the work); the ties are given (YtalcmicfjakgpaaDoorTie.lean); close each card by the builder's one call (the guide's Derived/Test/ToyasCard.lean, 'card_holds'). Laid BY PROGRAM, IN A SANDBOX (cutbox-door.mjs). By AI agents, Wed Nov 11 2026. No macro, syntax, notation, axiom, sorry.
-/
import Derived.Test.YtalcmicfjakgpaaDoorRows
import GoSem.ClaimSeven
namespace Go.Proofs.YtalcmicfjakgpaaDoor
namespace Rows

/-- THE TIED CARD OF 'laws.FnBraids'. -/
def fnBraidsCard : Claim7 := { stood := { row := fnBraidsRow, standIns := [], harness := (true, "1fa7456a6d4a3b3c59f12fb3a08bcc32c66346c399ab22005692f2ae231a7940"), looks := true }, kinds := [], alts := [], laidByText := true, laidKinds := [.data, .data, .data, .sentinel, .sentinel], laidTests := true, laidLooks := .later }
def FnBraidsCardSaid : Prop := Claim7.holds Tryd.pinned (.plain (OpenSpec.ofChange fnBraidsSpec)) fnBraidsCard

/-- THE TIED CARD OF 'laws.FnExactDecimal'. -/
def fnExactDecimalCard : Claim7 := { stood := { row := fnExactDecimalRow, standIns := [], harness := (true, "1fa7456a6d4a3b3c59f12fb3a08bcc32c66346c399ab22005692f2ae231a7940"), looks := true }, kinds := [], alts := [], laidByText := true, laidKinds := [.data, .data, .data], laidTests := true, laidLooks := .later }
def FnExactDecimalCardSaid : Prop := Claim7.holds Tryd.pinned (.plain (OpenSpec.ofChange fnExactDecimalSpec)) fnExactDecimalCard

/-- THE TIED CARD OF 'laws.FnExactReadDecimal'. -/
def fnExactReadDecimalCard : Claim7 := { stood := { row := fnExactReadDecimalRow, standIns := [], harness := (true, "1fa7456a6d4a3b3c59f12fb3a08bcc32c66346c399ab22005692f2ae231a7940"), looks := true }, kinds := [], alts := [], laidByText := true, laidKinds := [.data, .data, .data, .sentinel, .sentinel], laidTests := true, laidLooks := .later }
def FnExactReadDecimalCardSaid : Prop := Claim7.holds Tryd.pinned (.plain (OpenSpec.ofChange fnExactReadDecimalSpec)) fnExactReadDecimalCard

/-- THE TIED CARD OF 'laws.FnExactNeedleText'. -/
def fnExactNeedleTextCard : Claim7 := { stood := { row := fnExactNeedleTextRow, standIns := [], harness := (true, "1fa7456a6d4a3b3c59f12fb3a08bcc32c66346c399ab22005692f2ae231a7940"), looks := true }, kinds := [], alts := [], laidByText := true, laidKinds := [.data, .data, .data], laidTests := true, laidLooks := .later }
def FnExactNeedleTextCardSaid : Prop := Claim7.holds Tryd.pinned (.plain (OpenSpec.ofChange fnExactNeedleTextSpec)) fnExactNeedleTextCard

/-- THE TIED CARD OF 'laws.FnExactReadNeedle'. -/
def fnExactReadNeedleCard : Claim7 := { stood := { row := fnExactReadNeedleRow, standIns := [], harness := (true, "1fa7456a6d4a3b3c59f12fb3a08bcc32c66346c399ab22005692f2ae231a7940"), looks := true }, kinds := [], alts := [], laidByText := true, laidKinds := [.data, .data, .data, .sentinel, .sentinel], laidTests := true, laidLooks := .later }
def FnExactReadNeedleCardSaid : Prop := Claim7.holds Tryd.pinned (.plain (OpenSpec.ofChange fnExactReadNeedleSpec)) fnExactReadNeedleCard

/-- THE SECOND FORM's CARD OF 'laws.FnBraids'. -/
def fnBraidsUptoCard : Claim7 := { stood := { row := fnBraidsUptoRow, standIns := [], harness := (true, "1fa7456a6d4a3b3c59f12fb3a08bcc32c66346c399ab22005692f2ae231a7940"), looks := true }, kinds := [], alts := [], laidByText := true, laidKinds := [.data, .data, .data, .sentinel, .sentinel], laidTests := true, laidLooks := .later }
def FnBraidsUptoCardSaid : Prop := Claim7.holds Tryd.pinned (.plain (OpenSpec.upto fnBraidsSpec)) fnBraidsUptoCard

/-- THE SECOND FORM's CARD OF 'laws.FnExactDecimal'. -/
def fnExactDecimalUptoCard : Claim7 := { stood := { row := fnExactDecimalUptoRow, standIns := [], harness := (true, "1fa7456a6d4a3b3c59f12fb3a08bcc32c66346c399ab22005692f2ae231a7940"), looks := true }, kinds := [], alts := [], laidByText := true, laidKinds := [.data, .data, .data], laidTests := true, laidLooks := .later }
def FnExactDecimalUptoCardSaid : Prop := Claim7.holds Tryd.pinned (.plain (OpenSpec.upto fnExactDecimalSpec)) fnExactDecimalUptoCard

/-- THE SECOND FORM's CARD OF 'laws.FnExactReadDecimal'. -/
def fnExactReadDecimalUptoCard : Claim7 := { stood := { row := fnExactReadDecimalUptoRow, standIns := [], harness := (true, "1fa7456a6d4a3b3c59f12fb3a08bcc32c66346c399ab22005692f2ae231a7940"), looks := true }, kinds := [], alts := [], laidByText := true, laidKinds := [.data, .data, .data, .sentinel, .sentinel], laidTests := true, laidLooks := .later }
def FnExactReadDecimalUptoCardSaid : Prop := Claim7.holds Tryd.pinned (.plain (OpenSpec.upto fnExactReadDecimalSpec)) fnExactReadDecimalUptoCard

/-- THE SECOND FORM's CARD OF 'laws.FnExactNeedleText'. -/
def fnExactNeedleTextUptoCard : Claim7 := { stood := { row := fnExactNeedleTextUptoRow, standIns := [], harness := (true, "1fa7456a6d4a3b3c59f12fb3a08bcc32c66346c399ab22005692f2ae231a7940"), looks := true }, kinds := [], alts := [], laidByText := true, laidKinds := [.data, .data, .data], laidTests := true, laidLooks := .later }
def FnExactNeedleTextUptoCardSaid : Prop := Claim7.holds Tryd.pinned (.plain (OpenSpec.upto fnExactNeedleTextSpec)) fnExactNeedleTextUptoCard

/-- THE SECOND FORM's CARD OF 'laws.FnExactReadNeedle'. -/
def fnExactReadNeedleUptoCard : Claim7 := { stood := { row := fnExactReadNeedleUptoRow, standIns := [], harness := (true, "1fa7456a6d4a3b3c59f12fb3a08bcc32c66346c399ab22005692f2ae231a7940"), looks := true }, kinds := [], alts := [], laidByText := true, laidKinds := [.data, .data, .data, .sentinel, .sentinel], laidTests := true, laidLooks := .later }
def FnExactReadNeedleUptoCardSaid : Prop := Claim7.holds Tryd.pinned (.plain (OpenSpec.upto fnExactReadNeedleSpec)) fnExactReadNeedleUptoCard
end Rows
end Go.Proofs.YtalcmicfjakgpaaDoor
