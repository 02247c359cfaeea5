/-
  DERIVED. GIVEN WITH THE SEED: THE CARDS: each row of YtfojcefbgdaelaaDoorRows.lean that lists a variable, with what it lists TIED to the program's text (the seventh form; the later family's looks); each row that meets fmt, with fmt's text TOLD by the authors' own Lean function (tested against real Go, not proved from fmt's source: count such statements apart). THE CARD IS WHAT COUNTS. Prove the row's statement (the work); the ties are given (YtfojcefbgdaelaaDoorTie.lean); close each card by the builder's one call (the guide's Derived/Test/ToyasCard.lean, 'card_holds'). Laid BY PROGRAM, IN A SANDBOX (cutbox-door.mjs). By AI agents, Wed Nov 11 2026. No macro, syntax, notation, axiom, sorry.
-/
import Derived.Test.YtfojcefbgdaelaaDoorRows
import GoSem.ClaimSeven
namespace Go.Proofs.YtfojcefbgdaelaaDoor
namespace Rows

/-- THE TIED CARD OF 'laws.FnExactMovingText'. -/
def fnExactMovingTextCard : Claim7 := { stood := { row := fnExactMovingTextRow, standIns := [], harness := (true, "9e38de808df4893b2bdfadd148ee9335fad72def05fa7328d4dc1175739fc03f"), looks := true }, kinds := [], alts := [], laidByText := true, laidKinds := [.data, .data, .data], laidTests := true, laidLooks := .later }
def FnExactMovingTextCardSaid : Prop := Claim7.holds Tryd.pinned (.plain (OpenSpec.ofChange fnExactMovingTextSpec)) fnExactMovingTextCard

/-- THE TIED CARD OF 'laws.FnExactParseMoving'. -/
def fnExactParseMovingCard : Claim7 := { stood := { row := fnExactParseMovingRow, standIns := [], harness := (true, "9e38de808df4893b2bdfadd148ee9335fad72def05fa7328d4dc1175739fc03f"), looks := true }, kinds := [], alts := [], laidByText := true, laidKinds := [.data, .data, .data, .data, .sentinel, .sentinel, .pinned], laidTests := true, laidLooks := .later }
def FnExactParseMovingCardSaid : Prop := Claim7.holds Tryd.pinned (.plain (OpenSpec.ofChange fnExactParseMovingSpec)) fnExactParseMovingCard

/-- THE TIED CARD OF 'laws.FnExactFlightText'. -/
def fnExactFlightTextCard : Claim7 := { stood := { row := fnExactFlightTextRow, standIns := [], harness := (true, "9e38de808df4893b2bdfadd148ee9335fad72def05fa7328d4dc1175739fc03f"), looks := true }, kinds := [], alts := [], laidByText := true, laidKinds := [.data, .data, .data], laidTests := true, laidLooks := .later }
def FnExactFlightTextCardSaid : Prop := Claim7.holds Tryd.pinned (.plain (OpenSpec.ofChange fnExactFlightTextSpec)) fnExactFlightTextCard

/-- THE TIED CARD OF 'laws.FnExactParseFlight'. -/
def fnExactParseFlightCard : Claim7 := { stood := { row := fnExactParseFlightRow, standIns := [], harness := (true, "9e38de808df4893b2bdfadd148ee9335fad72def05fa7328d4dc1175739fc03f"), looks := true }, kinds := [], alts := [], laidByText := true, laidKinds := [.data, .data, .data, .data, .sentinel, .sentinel, .pinned], laidTests := true, laidLooks := .later }
def FnExactParseFlightCardSaid : Prop := Claim7.holds Tryd.pinned (.plain (OpenSpec.ofChange fnExactParseFlightSpec)) fnExactParseFlightCard

/-- THE TIED CARD OF 'laws.FnExactStairsText'. -/
def fnExactStairsTextCard : Claim7 := { stood := { row := fnExactStairsTextRow, standIns := [], harness := (true, "9e38de808df4893b2bdfadd148ee9335fad72def05fa7328d4dc1175739fc03f"), looks := true }, kinds := [], alts := [], laidByText := true, laidKinds := [.data, .data, .data], laidTests := true, laidLooks := .later }
def FnExactStairsTextCardSaid : Prop := Claim7.holds Tryd.pinned (.plain (OpenSpec.ofChange fnExactStairsTextSpec)) fnExactStairsTextCard

/-- THE TIED CARD OF 'laws.FnExactParseStairs'. -/
def fnExactParseStairsCard : Claim7 := { stood := { row := fnExactParseStairsRow, standIns := [], harness := (true, "9e38de808df4893b2bdfadd148ee9335fad72def05fa7328d4dc1175739fc03f"), looks := true }, kinds := [], alts := [], laidByText := true, laidKinds := [.data, .data, .data, .data, .sentinel, .sentinel, .pinned], laidTests := true, laidLooks := .later }
def FnExactParseStairsCardSaid : Prop := Claim7.holds Tryd.pinned (.plain (OpenSpec.ofChange fnExactParseStairsSpec)) fnExactParseStairsCard

/-- THE TIED CARD OF 'laws.FnExactBearsText'. -/
def fnExactBearsTextCard : Claim7 := { stood := { row := fnExactBearsTextRow, standIns := [], harness := (true, "9e38de808df4893b2bdfadd148ee9335fad72def05fa7328d4dc1175739fc03f"), looks := true }, kinds := [], alts := [], laidByText := true, laidKinds := [.data, .data, .data], laidTests := true, laidLooks := .later }
def FnExactBearsTextCardSaid : Prop := Claim7.holds Tryd.pinned (.plain (OpenSpec.ofChange fnExactBearsTextSpec)) fnExactBearsTextCard

/-- THE TIED CARD OF 'laws.FnExactParseBears'. -/
def fnExactParseBearsCard : Claim7 := { stood := { row := fnExactParseBearsRow, standIns := [], harness := (true, "9e38de808df4893b2bdfadd148ee9335fad72def05fa7328d4dc1175739fc03f"), looks := true }, kinds := [], alts := [], laidByText := true, laidKinds := [.data, .data, .data, .data, .sentinel, .sentinel, .pinned], laidTests := true, laidLooks := .later }
def FnExactParseBearsCardSaid : Prop := Claim7.holds Tryd.pinned (.plain (OpenSpec.ofChange fnExactParseBearsSpec)) fnExactParseBearsCard

/-- THE TIED CARD OF 'laws.FnExactHouseText'. -/
def fnExactHouseTextCard : Claim7 := { stood := { row := fnExactHouseTextRow, standIns := [], harness := (true, "9e38de808df4893b2bdfadd148ee9335fad72def05fa7328d4dc1175739fc03f"), looks := true }, kinds := [], alts := [], laidByText := true, laidKinds := [.data, .data, .data], laidTests := true, laidLooks := .later }
def FnExactHouseTextCardSaid : Prop := Claim7.holds Tryd.pinned (.plain (OpenSpec.ofChange fnExactHouseTextSpec)) fnExactHouseTextCard

/-- THE TIED CARD OF 'laws.FnExactParseHouse'. -/
def fnExactParseHouseCard : Claim7 := { stood := { row := fnExactParseHouseRow, standIns := [], harness := (true, "9e38de808df4893b2bdfadd148ee9335fad72def05fa7328d4dc1175739fc03f"), looks := true }, kinds := [], alts := [], laidByText := true, laidKinds := [.data, .data, .data, .data, .sentinel, .sentinel, .pinned], laidTests := true, laidLooks := .later }
def FnExactParseHouseCardSaid : Prop := Claim7.holds Tryd.pinned (.plain (OpenSpec.ofChange fnExactParseHouseSpec)) fnExactParseHouseCard

/-- THE SECOND FORM's CARD OF 'laws.FnExactMovingText'. -/
def fnExactMovingTextUptoCard : Claim7 := { stood := { row := fnExactMovingTextUptoRow, standIns := [], harness := (true, "9e38de808df4893b2bdfadd148ee9335fad72def05fa7328d4dc1175739fc03f"), looks := true }, kinds := [], alts := [], laidByText := true, laidKinds := [.data, .data, .data], laidTests := true, laidLooks := .later }
def FnExactMovingTextUptoCardSaid : Prop := Claim7.holds Tryd.pinned (.plain (OpenSpec.upto fnExactMovingTextSpec)) fnExactMovingTextUptoCard

/-- THE SECOND FORM's CARD OF 'laws.FnExactParseMoving'. -/
def fnExactParseMovingUptoCard : Claim7 := { stood := { row := fnExactParseMovingUptoRow, standIns := [], harness := (true, "9e38de808df4893b2bdfadd148ee9335fad72def05fa7328d4dc1175739fc03f"), looks := true }, kinds := [], alts := [], laidByText := true, laidKinds := [.data, .data, .data, .data, .sentinel, .sentinel, .pinned], laidTests := true, laidLooks := .later }
def FnExactParseMovingUptoCardSaid : Prop := Claim7.holds Tryd.pinned (.plain (OpenSpec.upto fnExactParseMovingSpec)) fnExactParseMovingUptoCard

/-- THE SECOND FORM's CARD OF 'laws.FnExactFlightText'. -/
def fnExactFlightTextUptoCard : Claim7 := { stood := { row := fnExactFlightTextUptoRow, standIns := [], harness := (true, "9e38de808df4893b2bdfadd148ee9335fad72def05fa7328d4dc1175739fc03f"), looks := true }, kinds := [], alts := [], laidByText := true, laidKinds := [.data, .data, .data], laidTests := true, laidLooks := .later }
def FnExactFlightTextUptoCardSaid : Prop := Claim7.holds Tryd.pinned (.plain (OpenSpec.upto fnExactFlightTextSpec)) fnExactFlightTextUptoCard

/-- THE SECOND FORM's CARD OF 'laws.FnExactParseFlight'. -/
def fnExactParseFlightUptoCard : Claim7 := { stood := { row := fnExactParseFlightUptoRow, standIns := [], harness := (true, "9e38de808df4893b2bdfadd148ee9335fad72def05fa7328d4dc1175739fc03f"), looks := true }, kinds := [], alts := [], laidByText := true, laidKinds := [.data, .data, .data, .data, .sentinel, .sentinel, .pinned], laidTests := true, laidLooks := .later }
def FnExactParseFlightUptoCardSaid : Prop := Claim7.holds Tryd.pinned (.plain (OpenSpec.upto fnExactParseFlightSpec)) fnExactParseFlightUptoCard

/-- THE SECOND FORM's CARD OF 'laws.FnExactStairsText'. -/
def fnExactStairsTextUptoCard : Claim7 := { stood := { row := fnExactStairsTextUptoRow, standIns := [], harness := (true, "9e38de808df4893b2bdfadd148ee9335fad72def05fa7328d4dc1175739fc03f"), looks := true }, kinds := [], alts := [], laidByText := true, laidKinds := [.data, .data, .data], laidTests := true, laidLooks := .later }
def FnExactStairsTextUptoCardSaid : Prop := Claim7.holds Tryd.pinned (.plain (OpenSpec.upto fnExactStairsTextSpec)) fnExactStairsTextUptoCard

/-- THE SECOND FORM's CARD OF 'laws.FnExactParseStairs'. -/
def fnExactParseStairsUptoCard : Claim7 := { stood := { row := fnExactParseStairsUptoRow, standIns := [], harness := (true, "9e38de808df4893b2bdfadd148ee9335fad72def05fa7328d4dc1175739fc03f"), looks := true }, kinds := [], alts := [], laidByText := true, laidKinds := [.data, .data, .data, .data, .sentinel, .sentinel, .pinned], laidTests := true, laidLooks := .later }
def FnExactParseStairsUptoCardSaid : Prop := Claim7.holds Tryd.pinned (.plain (OpenSpec.upto fnExactParseStairsSpec)) fnExactParseStairsUptoCard

/-- THE SECOND FORM's CARD OF 'laws.FnExactBearsText'. -/
def fnExactBearsTextUptoCard : Claim7 := { stood := { row := fnExactBearsTextUptoRow, standIns := [], harness := (true, "9e38de808df4893b2bdfadd148ee9335fad72def05fa7328d4dc1175739fc03f"), looks := true }, kinds := [], alts := [], laidByText := true, laidKinds := [.data, .data, .data], laidTests := true, laidLooks := .later }
def FnExactBearsTextUptoCardSaid : Prop := Claim7.holds Tryd.pinned (.plain (OpenSpec.upto fnExactBearsTextSpec)) fnExactBearsTextUptoCard

/-- THE SECOND FORM's CARD OF 'laws.FnExactParseBears'. -/
def fnExactParseBearsUptoCard : Claim7 := { stood := { row := fnExactParseBearsUptoRow, standIns := [], harness := (true, "9e38de808df4893b2bdfadd148ee9335fad72def05fa7328d4dc1175739fc03f"), looks := true }, kinds := [], alts := [], laidByText := true, laidKinds := [.data, .data, .data, .data, .sentinel, .sentinel, .pinned], laidTests := true, laidLooks := .later }
def FnExactParseBearsUptoCardSaid : Prop := Claim7.holds Tryd.pinned (.plain (OpenSpec.upto fnExactParseBearsSpec)) fnExactParseBearsUptoCard

/-- THE SECOND FORM's CARD OF 'laws.FnExactHouseText'. -/
def fnExactHouseTextUptoCard : Claim7 := { stood := { row := fnExactHouseTextUptoRow, standIns := [], harness := (true, "9e38de808df4893b2bdfadd148ee9335fad72def05fa7328d4dc1175739fc03f"), looks := true }, kinds := [], alts := [], laidByText := true, laidKinds := [.data, .data, .data], laidTests := true, laidLooks := .later }
def FnExactHouseTextUptoCardSaid : Prop := Claim7.holds Tryd.pinned (.plain (OpenSpec.upto fnExactHouseTextSpec)) fnExactHouseTextUptoCard

/-- THE SECOND FORM's CARD OF 'laws.FnExactParseHouse'. -/
def fnExactParseHouseUptoCard : Claim7 := { stood := { row := fnExactParseHouseUptoRow, standIns := [], harness := (true, "9e38de808df4893b2bdfadd148ee9335fad72def05fa7328d4dc1175739fc03f"), looks := true }, kinds := [], alts := [], laidByText := true, laidKinds := [.data, .data, .data, .data, .sentinel, .sentinel, .pinned], laidTests := true, laidLooks := .later }
def FnExactParseHouseUptoCardSaid : Prop := Claim7.holds Tryd.pinned (.plain (OpenSpec.upto fnExactParseHouseSpec)) fnExactParseHouseUptoCard
end Rows
end Go.Proofs.YtfojcefbgdaelaaDoor
