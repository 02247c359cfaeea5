/-
  DERIVED. GIVEN WITH THE SEED: THE CARDS: each row of YtmnljccfcfdjmaaDoorRows.lean that lists a variable, with what it lists TIED to the program's text (the seventh form; the later family's looks); each row that meets fmt, with fmt's text TOLD by the authors' own Lean function (tested against real Go, not proved from fmt's source: count such statements apart). THE CARD IS WHAT COUNTS. Prove the row's statement (the work); the ties are given (YtmnljccfcfdjmaaDoorTie.lean); close each card by the builder's one call (the guide's Derived/Test/ToyasCard.lean, 'card_holds'). Laid BY PROGRAM, IN A SANDBOX (cutbox-door.mjs). By AI agents, Wed Nov 11 2026. No macro, syntax, notation, axiom, sorry.
-/
import Derived.Test.YtmnljccfcfdjmaaDoorRows
import GoSem.ClaimSeven
namespace Go.Proofs.YtmnljccfcfdjmaaDoor
namespace Rows

/-- THE TIED CARD OF 'laws.FnExactJumpsText'. -/
def fnExactJumpsTextCard : Claim7 := { stood := { row := fnExactJumpsTextRow, standIns := [], harness := (true, "dc6c3cbbc0587150fedcde2578847b36e993fcb0a719f73e2371877212ba1117"), looks := true }, kinds := [], alts := [], laidByText := true, laidKinds := [.data, .data, .data], laidTests := true, laidLooks := .later }
def FnExactJumpsTextCardSaid : Prop := Claim7.holds Tryd.pinned (.plain (OpenSpec.ofChange fnExactJumpsTextSpec)) fnExactJumpsTextCard

/-- THE TIED CARD OF 'laws.FnExactParseJumps'. -/
def fnExactParseJumpsCard : Claim7 := { stood := { row := fnExactParseJumpsRow, standIns := [], harness := (true, "dc6c3cbbc0587150fedcde2578847b36e993fcb0a719f73e2371877212ba1117"), looks := true }, kinds := [], alts := [], laidByText := true, laidKinds := [.data, .data, .data, .data, .sentinel, .sentinel, .pinned], laidTests := true, laidLooks := .later }
def FnExactParseJumpsCardSaid : Prop := Claim7.holds Tryd.pinned (.plain (OpenSpec.ofChange fnExactParseJumpsSpec)) fnExactParseJumpsCard

/-- THE SECOND FORM's CARD OF 'laws.FnExactJumpsText'. -/
def fnExactJumpsTextUptoCard : Claim7 := { stood := { row := fnExactJumpsTextUptoRow, standIns := [], harness := (true, "dc6c3cbbc0587150fedcde2578847b36e993fcb0a719f73e2371877212ba1117"), looks := true }, kinds := [], alts := [], laidByText := true, laidKinds := [.data, .data, .data], laidTests := true, laidLooks := .later }
def FnExactJumpsTextUptoCardSaid : Prop := Claim7.holds Tryd.pinned (.plain (OpenSpec.upto fnExactJumpsTextSpec)) fnExactJumpsTextUptoCard

/-- THE SECOND FORM's CARD OF 'laws.FnExactParseJumps'. -/
def fnExactParseJumpsUptoCard : Claim7 := { stood := { row := fnExactParseJumpsUptoRow, standIns := [], harness := (true, "dc6c3cbbc0587150fedcde2578847b36e993fcb0a719f73e2371877212ba1117"), looks := true }, kinds := [], alts := [], laidByText := true, laidKinds := [.data, .data, .data, .data, .sentinel, .sentinel, .pinned], laidTests := true, laidLooks := .later }
def FnExactParseJumpsUptoCardSaid : Prop := Claim7.holds Tryd.pinned (.plain (OpenSpec.upto fnExactParseJumpsSpec)) fnExactParseJumpsUptoCard
end Rows
end Go.Proofs.YtmnljccfcfdjmaaDoor
