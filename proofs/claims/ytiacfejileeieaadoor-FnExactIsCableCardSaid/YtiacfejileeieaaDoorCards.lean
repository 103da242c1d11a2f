/-
  DERIVED. GIVEN WITH THE SEED: THE CARDS: each row of YtiacfejileeieaaDoorRows.lean that lists a variable, with what it lists TIED to the program's text (the seventh form; the later family's looks); each row that meets fmt, with fmt's text TOLD by the authors' own Lean function (tested against real Go, not proved from fmt's source: count such statements apart). THE CARD IS WHAT COUNTS. Prove the row's statement (the work); the ties are given (YtiacfejileeieaaDoorTie.lean); close each card by the builder's one call (the guide's Derived/Test/ToyasCard.lean, 'card_holds'). Laid BY PROGRAM, IN A SANDBOX (cutbox-door.mjs). By AI agents, Wed Nov 11 2026. No macro, syntax, notation, axiom, sorry.
-/
import Derived.Test.YtiacfejileeieaaDoorRows
import GoSem.ClaimSeven
namespace Go.Proofs.YtiacfejileeieaaDoor
namespace Rows

/-- THE TIED CARD OF 'laws.FnExactRowLetters'. -/
def fnExactRowLettersCard : Claim7 := { stood := { row := fnExactRowLettersRow, standIns := [], harness := (true, "ba665b04889e94bfecd6afcd138a8aa4daef3b1f2ef83d17cfd9125b2727ee40"), looks := false }, kinds := [], alts := [], laidByText := true, laidKinds := [.wider], laidTests := true, laidLooks := .later }
def FnExactRowLettersCardSaid : Prop := Claim7.holds Tryd.pinned (.plain (OpenSpec.ofChange fnExactRowLettersSpec)) fnExactRowLettersCard

/-- THE TIED CARD OF 'laws.FnExactIsCable'. -/
def fnExactIsCableCard : Claim7 := { stood := { row := fnExactIsCableRow, standIns := [], harness := (true, "ba665b04889e94bfecd6afcd138a8aa4daef3b1f2ef83d17cfd9125b2727ee40"), looks := false }, kinds := [], alts := [], laidByText := true, laidKinds := [.wider, .sentinel, .sentinel], laidTests := true, laidLooks := .later }
def FnExactIsCableCardSaid : Prop := Claim7.holds Tryd.pinned (.plain (OpenSpec.ofChange fnExactIsCableSpec)) fnExactIsCableCard

/-- THE TIED CARD OF 'laws.FnExactRowBraid'. -/
def fnExactRowBraidCard : Claim7 := { stood := { row := fnExactRowBraidRow, standIns := [], harness := (true, "ba665b04889e94bfecd6afcd138a8aa4daef3b1f2ef83d17cfd9125b2727ee40"), looks := false }, kinds := [], alts := [], laidByText := true, laidKinds := [.wider], laidTests := true, laidLooks := .later }
def FnExactRowBraidCardSaid : Prop := Claim7.holds Tryd.pinned (.plain (OpenSpec.ofChange fnExactRowBraidSpec)) fnExactRowBraidCard

/-- THE SECOND FORM's CARD OF 'laws.FnExactRowLetters'. -/
def fnExactRowLettersUptoCard : Claim7 := { stood := { row := fnExactRowLettersUptoRow, standIns := [], harness := (true, "ba665b04889e94bfecd6afcd138a8aa4daef3b1f2ef83d17cfd9125b2727ee40"), looks := false }, kinds := [], alts := [], laidByText := true, laidKinds := [.wider], laidTests := true, laidLooks := .later }
def FnExactRowLettersUptoCardSaid : Prop := Claim7.holds Tryd.pinned (.plain (OpenSpec.upto fnExactRowLettersSpec)) fnExactRowLettersUptoCard

/-- THE SECOND FORM's CARD OF 'laws.FnExactIsCable'. -/
def fnExactIsCableUptoCard : Claim7 := { stood := { row := fnExactIsCableUptoRow, standIns := [], harness := (true, "ba665b04889e94bfecd6afcd138a8aa4daef3b1f2ef83d17cfd9125b2727ee40"), looks := false }, kinds := [], alts := [], laidByText := true, laidKinds := [.wider, .sentinel, .sentinel], laidTests := true, laidLooks := .later }
def FnExactIsCableUptoCardSaid : Prop := Claim7.holds Tryd.pinned (.plain (OpenSpec.upto fnExactIsCableSpec)) fnExactIsCableUptoCard

/-- THE SECOND FORM's CARD OF 'laws.FnExactRowBraid'. -/
def fnExactRowBraidUptoCard : Claim7 := { stood := { row := fnExactRowBraidUptoRow, standIns := [], harness := (true, "ba665b04889e94bfecd6afcd138a8aa4daef3b1f2ef83d17cfd9125b2727ee40"), looks := false }, kinds := [], alts := [], laidByText := true, laidKinds := [.wider], laidTests := true, laidLooks := .later }
def FnExactRowBraidUptoCardSaid : Prop := Claim7.holds Tryd.pinned (.plain (OpenSpec.upto fnExactRowBraidSpec)) fnExactRowBraidUptoCard
end Rows
end Go.Proofs.YtiacfejileeieaaDoor
