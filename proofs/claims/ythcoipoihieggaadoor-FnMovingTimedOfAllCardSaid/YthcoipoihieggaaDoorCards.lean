/-
  DERIVED. GIVEN WITH THE SEED: THE CARDS: each row of YthcoipoihieggaaDoorRows.lean that lists a variable, with what it lists TIED to the program's text (the seventh form; the later family's looks); each row that meets fmt, with fmt's text TOLD by the authors' own Lean function (tested against real Go, not proved from fmt's source: count such statements apart). THE CARD IS WHAT COUNTS. Prove the row's statement (the work); the ties are given (YthcoipoihieggaaDoorTie.lean); close each card by the builder's one call (the guide's Derived/Test/ToyasCard.lean, 'card_holds'). Laid BY PROGRAM, IN A SANDBOX (cutbox-door.mjs). By AI agents, Wed Nov 11 2026. No macro, syntax, notation, axiom, sorry.
-/
import Derived.Test.YthcoipoihieggaaDoorRows
import GoSem.ClaimSeven
namespace Go.Proofs.YthcoipoihieggaaDoor
namespace Rows

/-- THE TIED CARD OF 'laws.FnMovingTimedOfAll'. -/
def fnMovingTimedOfAllCard : Claim7 := { stood := { row := fnMovingTimedOfAllRow, standIns := [], harness := (true, "b4cafe818179e6966fd9fa79da255e35926d2e03ccd2acc84cc478f3ec5d881a"), looks := true }, kinds := [], alts := [], laidByText := true, laidKinds := [.data, .data, .data, .data, .sentinel, .sentinel, .pinned], laidTests := true, laidLooks := .later }
def FnMovingTimedOfAllCardSaid : Prop := Claim7.holds Tryd.pinned (.plain (OpenSpec.ofChange fnMovingTimedOfAllSpec)) fnMovingTimedOfAllCard

/-- THE SECOND FORM's CARD OF 'laws.FnMovingTimedOfAll'. -/
def fnMovingTimedOfAllUptoCard : Claim7 := { stood := { row := fnMovingTimedOfAllUptoRow, standIns := [], harness := (true, "b4cafe818179e6966fd9fa79da255e35926d2e03ccd2acc84cc478f3ec5d881a"), looks := true }, kinds := [], alts := [], laidByText := true, laidKinds := [.data, .data, .data, .data, .sentinel, .sentinel, .pinned], laidTests := true, laidLooks := .later }
def FnMovingTimedOfAllUptoCardSaid : Prop := Claim7.holds Tryd.pinned (.plain (OpenSpec.upto fnMovingTimedOfAllSpec)) fnMovingTimedOfAllUptoCard
end Rows
end Go.Proofs.YthcoipoihieggaaDoor
