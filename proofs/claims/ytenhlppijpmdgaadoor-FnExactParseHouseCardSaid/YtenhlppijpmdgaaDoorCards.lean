/-
  DERIVED. GIVEN WITH THE SEED: THE CARDS: each row of YtenhlppijpmdgaaDoorRows.lean that lists a variable, with what it lists TIED to the program's text (the seventh form; the later family's looks); each row that meets fmt, with fmt's text TOLD by the authors' own Lean function (tested against real Go, not proved from fmt's source: count such statements apart). THE CARD IS WHAT COUNTS. Prove the row's statement (the work); the ties are given (YtenhlppijpmdgaaDoorTie.lean); close each card by the builder's one call (the guide's Derived/Test/ToyasCard.lean, 'card_holds'). Laid BY PROGRAM, IN A SANDBOX (cutbox-door.mjs). By AI agents, Wed Nov 11 2026. No macro, syntax, notation, axiom, sorry.
-/
import Derived.Test.YtenhlppijpmdgaaDoorRows
import GoSem.ClaimSeven
namespace Go.Proofs.YtenhlppijpmdgaaDoor
namespace Rows

/-- THE TIED CARD OF 'laws.FnExactSpiralText'. -/
def fnExactSpiralTextCard : Claim7 := { stood := { row := fnExactSpiralTextRow, standIns := [], harness := (true, "6a94d07a13c2d8f6d929b53b7b4004f282c7935c6398145b03526489fc4e4c13"), looks := true }, kinds := [], alts := [], laidByText := true, laidKinds := [.data, .data, .data], laidTests := true, laidLooks := .later }
def FnExactSpiralTextCardSaid : Prop := Claim7.holds Tryd.pinned (.plain (OpenSpec.ofChange fnExactSpiralTextSpec)) fnExactSpiralTextCard

/-- THE TIED CARD OF 'laws.FnExactParseSpiral'. -/
def fnExactParseSpiralCard : Claim7 := { stood := { row := fnExactParseSpiralRow, standIns := [], harness := (true, "6a94d07a13c2d8f6d929b53b7b4004f282c7935c6398145b03526489fc4e4c13"), looks := true }, kinds := [], alts := [], laidByText := true, laidKinds := [.data, .data, .data, .data, .sentinel, .sentinel, .pinned], laidTests := true, laidLooks := .later }
def FnExactParseSpiralCardSaid : Prop := Claim7.holds Tryd.pinned (.plain (OpenSpec.ofChange fnExactParseSpiralSpec)) fnExactParseSpiralCard

/-- THE TIED CARD OF 'laws.FnExactHouseText'. -/
def fnExactHouseTextCard : Claim7 := { stood := { row := fnExactHouseTextRow, standIns := [], harness := (true, "6a94d07a13c2d8f6d929b53b7b4004f282c7935c6398145b03526489fc4e4c13"), looks := true }, kinds := [], alts := [], laidByText := true, laidKinds := [.data, .data, .data], laidTests := true, laidLooks := .later }
def FnExactHouseTextCardSaid : Prop := Claim7.holds Tryd.pinned (.plain (OpenSpec.ofChange fnExactHouseTextSpec)) fnExactHouseTextCard

/-- THE TIED CARD OF 'laws.FnExactParseHouse'. -/
def fnExactParseHouseCard : Claim7 := { stood := { row := fnExactParseHouseRow, standIns := [], harness := (true, "6a94d07a13c2d8f6d929b53b7b4004f282c7935c6398145b03526489fc4e4c13"), looks := true }, kinds := [], alts := [], laidByText := true, laidKinds := [.data, .data, .data, .data, .sentinel, .sentinel, .pinned], laidTests := true, laidLooks := .later }
def FnExactParseHouseCardSaid : Prop := Claim7.holds Tryd.pinned (.plain (OpenSpec.ofChange fnExactParseHouseSpec)) fnExactParseHouseCard

/-- THE SECOND FORM's CARD OF 'laws.FnExactSpiralText'. -/
def fnExactSpiralTextUptoCard : Claim7 := { stood := { row := fnExactSpiralTextUptoRow, standIns := [], harness := (true, "6a94d07a13c2d8f6d929b53b7b4004f282c7935c6398145b03526489fc4e4c13"), looks := true }, kinds := [], alts := [], laidByText := true, laidKinds := [.data, .data, .data], laidTests := true, laidLooks := .later }
def FnExactSpiralTextUptoCardSaid : Prop := Claim7.holds Tryd.pinned (.plain (OpenSpec.upto fnExactSpiralTextSpec)) fnExactSpiralTextUptoCard

/-- THE SECOND FORM's CARD OF 'laws.FnExactParseSpiral'. -/
def fnExactParseSpiralUptoCard : Claim7 := { stood := { row := fnExactParseSpiralUptoRow, standIns := [], harness := (true, "6a94d07a13c2d8f6d929b53b7b4004f282c7935c6398145b03526489fc4e4c13"), looks := true }, kinds := [], alts := [], laidByText := true, laidKinds := [.data, .data, .data, .data, .sentinel, .sentinel, .pinned], laidTests := true, laidLooks := .later }
def FnExactParseSpiralUptoCardSaid : Prop := Claim7.holds Tryd.pinned (.plain (OpenSpec.upto fnExactParseSpiralSpec)) fnExactParseSpiralUptoCard

/-- THE SECOND FORM's CARD OF 'laws.FnExactHouseText'. -/
def fnExactHouseTextUptoCard : Claim7 := { stood := { row := fnExactHouseTextUptoRow, standIns := [], harness := (true, "6a94d07a13c2d8f6d929b53b7b4004f282c7935c6398145b03526489fc4e4c13"), looks := true }, kinds := [], alts := [], laidByText := true, laidKinds := [.data, .data, .data], laidTests := true, laidLooks := .later }
def FnExactHouseTextUptoCardSaid : Prop := Claim7.holds Tryd.pinned (.plain (OpenSpec.upto fnExactHouseTextSpec)) fnExactHouseTextUptoCard

/-- THE SECOND FORM's CARD OF 'laws.FnExactParseHouse'. -/
def fnExactParseHouseUptoCard : Claim7 := { stood := { row := fnExactParseHouseUptoRow, standIns := [], harness := (true, "6a94d07a13c2d8f6d929b53b7b4004f282c7935c6398145b03526489fc4e4c13"), looks := true }, kinds := [], alts := [], laidByText := true, laidKinds := [.data, .data, .data, .data, .sentinel, .sentinel, .pinned], laidTests := true, laidLooks := .later }
def FnExactParseHouseUptoCardSaid : Prop := Claim7.holds Tryd.pinned (.plain (OpenSpec.upto fnExactParseHouseSpec)) fnExactParseHouseUptoCard
end Rows
end Go.Proofs.YtenhlppijpmdgaaDoor
