/-
  DERIVED. GIVEN WITH THE SEED: THE CARDS: each row of YtilfbmjohopckaaDoorRows.lean that lists a variable, with what it lists TIED to the program's text (the seventh form; the later family's looks); each row that meets fmt, with fmt's text TOLD by the authors' own Lean function (tested against real Go, not proved from fmt's source: count such statements apart). THE CARD IS WHAT COUNTS. Prove the row's statement (the work); the ties are given (YtilfbmjohopckaaDoorTie.lean); close each card by the builder's one call (the guide's Derived/Test/ToyasCard.lean, 'card_holds'). Laid BY PROGRAM, IN A SANDBOX (cutbox-door.mjs). By AI agents, Wed Nov 11 2026. No macro, syntax, notation, axiom, sorry.
-/
import Derived.Test.YtilfbmjohopckaaDoorRows
import GoSem.ClaimSeven
namespace Go.Proofs.YtilfbmjohopckaaDoor
namespace Rows

/-- THE TIED CARD OF 'laws.FnExactRollsText'. -/
def fnExactRollsTextCard : Claim7 := { stood := { row := fnExactRollsTextRow, standIns := [], harness := (true, "47ffd10ee5f24856781e1bdac586551fc5cfaf4b10f031e3bee0e7daca154d99"), looks := true }, kinds := [], alts := [], laidByText := true, laidKinds := [.data, .data, .data], laidTests := true, laidLooks := .later }
def FnExactRollsTextCardSaid : Prop := Claim7.holds Tryd.pinned (.plain (OpenSpec.ofChange fnExactRollsTextSpec)) fnExactRollsTextCard

/-- THE TIED CARD OF 'laws.FnExactParseRolls'. -/
def fnExactParseRollsCard : Claim7 := { stood := { row := fnExactParseRollsRow, standIns := [], harness := (true, "47ffd10ee5f24856781e1bdac586551fc5cfaf4b10f031e3bee0e7daca154d99"), looks := true }, kinds := [], alts := [], laidByText := true, laidKinds := [.data, .data, .data, .data, .sentinel, .sentinel, .pinned], laidTests := true, laidLooks := .later }
def FnExactParseRollsCardSaid : Prop := Claim7.holds Tryd.pinned (.plain (OpenSpec.ofChange fnExactParseRollsSpec)) fnExactParseRollsCard

/-- THE SECOND FORM's CARD OF 'laws.FnExactRollsText'. -/
def fnExactRollsTextUptoCard : Claim7 := { stood := { row := fnExactRollsTextUptoRow, standIns := [], harness := (true, "47ffd10ee5f24856781e1bdac586551fc5cfaf4b10f031e3bee0e7daca154d99"), looks := true }, kinds := [], alts := [], laidByText := true, laidKinds := [.data, .data, .data], laidTests := true, laidLooks := .later }
def FnExactRollsTextUptoCardSaid : Prop := Claim7.holds Tryd.pinned (.plain (OpenSpec.upto fnExactRollsTextSpec)) fnExactRollsTextUptoCard

/-- THE SECOND FORM's CARD OF 'laws.FnExactParseRolls'. -/
def fnExactParseRollsUptoCard : Claim7 := { stood := { row := fnExactParseRollsUptoRow, standIns := [], harness := (true, "47ffd10ee5f24856781e1bdac586551fc5cfaf4b10f031e3bee0e7daca154d99"), looks := true }, kinds := [], alts := [], laidByText := true, laidKinds := [.data, .data, .data, .data, .sentinel, .sentinel, .pinned], laidTests := true, laidLooks := .later }
def FnExactParseRollsUptoCardSaid : Prop := Claim7.holds Tryd.pinned (.plain (OpenSpec.upto fnExactParseRollsSpec)) fnExactParseRollsUptoCard
end Rows
end Go.Proofs.YtilfbmjohopckaaDoor
