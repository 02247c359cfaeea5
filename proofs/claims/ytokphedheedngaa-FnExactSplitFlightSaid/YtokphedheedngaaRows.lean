/-
  No cell of these rows narrows 'for every input' (looked for: loops, veiled, ifaces, maps, wideKeys, modest, calm, conditions, laid).
  DERIVED. THE GIVEN ROWS OF THIS SEAT. 12 by the template 'for every input the law returns true; each argument reads behind the call as it read before'; 0 by the template 'total and deterministic' (their statements: YtokphedheedngaaTotals.lean).
  GIVEN WITH THE SEED: the statements are not yours to turn. If you find one false, say at which input.
  Laid BY PROGRAM, IN A SANDBOX (cutbox-rows.mjs): the forced cells as the released guide's own fill.sh prints them over the translation d733ac5fc3e6417f… (all of the seat's roots in one cut). By AI agents, Wed Nov 11 2026. No macro, syntax, notation, axiom, sorry.
-/
import Derived.Test.YtokphedheedngaaChecked
import GoSem.Claim
import GoSem.ClaimJoined
import GoSem.ClaimMapViews
import Derived.JoinedTies
import Derived.KernelRfl
namespace Go.Proofs.Ytokphedheedngaa
/- THE CELL 'sum', in the pinned program and in every row, IS THE sha256 OF THE DUMP (.gsa) THAT YtokphedheedngaaProg.lean LOADS. Nothing in Lean hashes anything: it is a label: what it is worth is what the hold of that sum in a sandbox is worth. -/
noncomputable def Try.pinned : Pinned := { name := "ytokphedheedngaa", sum := "d733ac5fc3e6417f4270a4f55d39b95dba06250bd29c5d7d14a87e9435395179", checked := Try.checked }
namespace Rows
def none {H : Type} : Left H := { results := [], args := [] }

/-- 'laws.FnExactIsFlight': WHATEVER THE INPUT: true; the input reads as it did. -/
def fnExactIsFlightSpec : ChangeSpec := { name := "fnExactIsFlight", fn := fun _ => fun
  | [d] => { results := [.lit (.bool true)], args := [d] }
  | _ => none }
def fnExactIsFlightRow : OpenClaim := { program := "ytokphedheedngaa", sum := "d733ac5fc3e6417f4270a4f55d39b95dba06250bd29c5d7d14a87e9435395179", func := "loop.example/g01374/laws.FnExactIsFlight", spec := "fnExactIsFlight", apart := false }
def FnExactIsFlightSaid : Prop := fnExactIsFlightRow.holds Try.pinned (OpenSpec.ofChange fnExactIsFlightSpec)

/-- ITS FALSE NEIGHBOUR: 'it returns false'. Refute it at one input. -/
def fnExactIsFlightWrong : ChangeSpec := { name := "fnExactIsFlight", fn := fun _ => fun
  | [d] => { results := [.lit (.bool false)], args := [d] }
  | _ => none }
def FnExactIsFlightWrongFalsely : Prop := fnExactIsFlightRow.holds Try.pinned (OpenSpec.ofChange fnExactIsFlightWrong)

/-- 'laws.FnExactHeightOf': WHATEVER THE INPUT: true; the input reads as it did. -/
def fnExactHeightOfSpec : ChangeSpec := { name := "fnExactHeightOf", fn := fun _ => fun
  | [d] => { results := [.lit (.bool true)], args := [d] }
  | _ => none }
def fnExactHeightOfRow : OpenClaim := { program := "ytokphedheedngaa", sum := "d733ac5fc3e6417f4270a4f55d39b95dba06250bd29c5d7d14a87e9435395179", func := "loop.example/g01374/laws.FnExactHeightOf", spec := "fnExactHeightOf", apart := false }
def FnExactHeightOfSaid : Prop := fnExactHeightOfRow.holds Try.pinned (OpenSpec.ofChange fnExactHeightOfSpec)

/-- ITS FALSE NEIGHBOUR: 'it returns false'. Refute it at one input. -/
def fnExactHeightOfWrong : ChangeSpec := { name := "fnExactHeightOf", fn := fun _ => fun
  | [d] => { results := [.lit (.bool false)], args := [d] }
  | _ => none }
def FnExactHeightOfWrongFalsely : Prop := fnExactHeightOfRow.holds Try.pinned (OpenSpec.ofChange fnExactHeightOfWrong)

/-- 'laws.FnExactRunOf': WHATEVER THE INPUT: true; the input reads as it did. -/
def fnExactRunOfSpec : ChangeSpec := { name := "fnExactRunOf", fn := fun _ => fun
  | [d] => { results := [.lit (.bool true)], args := [d] }
  | _ => none }
def fnExactRunOfRow : OpenClaim := { program := "ytokphedheedngaa", sum := "d733ac5fc3e6417f4270a4f55d39b95dba06250bd29c5d7d14a87e9435395179", func := "loop.example/g01374/laws.FnExactRunOf", spec := "fnExactRunOf", apart := false }
def FnExactRunOfSaid : Prop := fnExactRunOfRow.holds Try.pinned (OpenSpec.ofChange fnExactRunOfSpec)

/-- ITS FALSE NEIGHBOUR: 'it returns false'. Refute it at one input. -/
def fnExactRunOfWrong : ChangeSpec := { name := "fnExactRunOf", fn := fun _ => fun
  | [d] => { results := [.lit (.bool false)], args := [d] }
  | _ => none }
def FnExactRunOfWrongFalsely : Prop := fnExactRunOfRow.holds Try.pinned (OpenSpec.ofChange fnExactRunOfWrong)

/-- 'laws.FnExactSlopeOf': WHATEVER THE INPUT: true; the input reads as it did. -/
def fnExactSlopeOfSpec : ChangeSpec := { name := "fnExactSlopeOf", fn := fun _ => fun
  | [d] => { results := [.lit (.bool true)], args := [d] }
  | _ => none }
def fnExactSlopeOfRow : OpenClaim := { program := "ytokphedheedngaa", sum := "d733ac5fc3e6417f4270a4f55d39b95dba06250bd29c5d7d14a87e9435395179", func := "loop.example/g01374/laws.FnExactSlopeOf", spec := "fnExactSlopeOf", apart := false }
def FnExactSlopeOfSaid : Prop := fnExactSlopeOfRow.holds Try.pinned (OpenSpec.ofChange fnExactSlopeOfSpec)

/-- ITS FALSE NEIGHBOUR: 'it returns false'. Refute it at one input. -/
def fnExactSlopeOfWrong : ChangeSpec := { name := "fnExactSlopeOf", fn := fun _ => fun
  | [d] => { results := [.lit (.bool false)], args := [d] }
  | _ => none }
def FnExactSlopeOfWrongFalsely : Prop := fnExactSlopeOfRow.holds Try.pinned (OpenSpec.ofChange fnExactSlopeOfWrong)

/-- 'laws.FnExactPaceSum': WHATEVER THE INPUT: true; the input reads as it did. -/
def fnExactPaceSumSpec : ChangeSpec := { name := "fnExactPaceSum", fn := fun _ => fun
  | [d] => { results := [.lit (.bool true)], args := [d] }
  | _ => none }
def fnExactPaceSumRow : OpenClaim := { program := "ytokphedheedngaa", sum := "d733ac5fc3e6417f4270a4f55d39b95dba06250bd29c5d7d14a87e9435395179", func := "loop.example/g01374/laws.FnExactPaceSum", spec := "fnExactPaceSum", apart := false }
def FnExactPaceSumSaid : Prop := fnExactPaceSumRow.holds Try.pinned (OpenSpec.ofChange fnExactPaceSumSpec)

/-- ITS FALSE NEIGHBOUR: 'it returns false'. Refute it at one input. -/
def fnExactPaceSumWrong : ChangeSpec := { name := "fnExactPaceSum", fn := fun _ => fun
  | [d] => { results := [.lit (.bool false)], args := [d] }
  | _ => none }
def FnExactPaceSumWrongFalsely : Prop := fnExactPaceSumRow.holds Try.pinned (OpenSpec.ofChange fnExactPaceSumWrong)

/-- 'laws.FnExactLineSquare': WHATEVER THE INPUT: true; the input reads as it did. -/
def fnExactLineSquareSpec : ChangeSpec := { name := "fnExactLineSquare", fn := fun _ => fun
  | [d] => { results := [.lit (.bool true)], args := [d] }
  | _ => none }
def fnExactLineSquareRow : OpenClaim := { program := "ytokphedheedngaa", sum := "d733ac5fc3e6417f4270a4f55d39b95dba06250bd29c5d7d14a87e9435395179", func := "loop.example/g01374/laws.FnExactLineSquare", spec := "fnExactLineSquare", apart := false }
def FnExactLineSquareSaid : Prop := fnExactLineSquareRow.holds Try.pinned (OpenSpec.ofChange fnExactLineSquareSpec)

/-- ITS FALSE NEIGHBOUR: 'it returns false'. Refute it at one input. -/
def fnExactLineSquareWrong : ChangeSpec := { name := "fnExactLineSquare", fn := fun _ => fun
  | [d] => { results := [.lit (.bool false)], args := [d] }
  | _ => none }
def FnExactLineSquareWrongFalsely : Prop := fnExactLineSquareRow.holds Try.pinned (OpenSpec.ofChange fnExactLineSquareWrong)

/-- 'laws.FnExactFewestRisers': WHATEVER THE INPUT: true; the input reads as it did. -/
def fnExactFewestRisersSpec : ChangeSpec := { name := "fnExactFewestRisers", fn := fun _ => fun
  | [d1, d2] => { results := [.lit (.bool true)], args := [d1, d2] }
  | _ => none }
def fnExactFewestRisersRow : OpenClaim := { program := "ytokphedheedngaa", sum := "d733ac5fc3e6417f4270a4f55d39b95dba06250bd29c5d7d14a87e9435395179", func := "loop.example/g01374/laws.FnExactFewestRisers", spec := "fnExactFewestRisers", apart := false }
def FnExactFewestRisersSaid : Prop := fnExactFewestRisersRow.holds Try.pinned (OpenSpec.ofChange fnExactFewestRisersSpec)

/-- ITS FALSE NEIGHBOUR: 'it returns false'. Refute it at one input. -/
def fnExactFewestRisersWrong : ChangeSpec := { name := "fnExactFewestRisers", fn := fun _ => fun
  | [d1, d2] => { results := [.lit (.bool false)], args := [d1, d2] }
  | _ => none }
def FnExactFewestRisersWrongFalsely : Prop := fnExactFewestRisersRow.holds Try.pinned (OpenSpec.ofChange fnExactFewestRisersWrong)

/-- 'laws.FnExactTreadFor': WHATEVER THE INPUT: true; the input reads as it did. -/
def fnExactTreadForSpec : ChangeSpec := { name := "fnExactTreadFor", fn := fun _ => fun
  | [d1, d2] => { results := [.lit (.bool true)], args := [d1, d2] }
  | _ => none }
def fnExactTreadForRow : OpenClaim := { program := "ytokphedheedngaa", sum := "d733ac5fc3e6417f4270a4f55d39b95dba06250bd29c5d7d14a87e9435395179", func := "loop.example/g01374/laws.FnExactTreadFor", spec := "fnExactTreadFor", apart := false }
def FnExactTreadForSaid : Prop := fnExactTreadForRow.holds Try.pinned (OpenSpec.ofChange fnExactTreadForSpec)

/-- ITS FALSE NEIGHBOUR: 'it returns false'. Refute it at one input. -/
def fnExactTreadForWrong : ChangeSpec := { name := "fnExactTreadFor", fn := fun _ => fun
  | [d1, d2] => { results := [.lit (.bool false)], args := [d1, d2] }
  | _ => none }
def FnExactTreadForWrongFalsely : Prop := fnExactTreadForRow.holds Try.pinned (OpenSpec.ofChange fnExactTreadForWrong)

/-- 'laws.FnExactMostRisers': WHATEVER THE INPUT: true; the input reads as it did. -/
def fnExactMostRisersSpec : ChangeSpec := { name := "fnExactMostRisers", fn := fun _ => fun
  | [d1, d2] => { results := [.lit (.bool true)], args := [d1, d2] }
  | _ => none }
def fnExactMostRisersRow : OpenClaim := { program := "ytokphedheedngaa", sum := "d733ac5fc3e6417f4270a4f55d39b95dba06250bd29c5d7d14a87e9435395179", func := "loop.example/g01374/laws.FnExactMostRisers", spec := "fnExactMostRisers", apart := false }
def FnExactMostRisersSaid : Prop := fnExactMostRisersRow.holds Try.pinned (OpenSpec.ofChange fnExactMostRisersSpec)

/-- ITS FALSE NEIGHBOUR: 'it returns false'. Refute it at one input. -/
def fnExactMostRisersWrong : ChangeSpec := { name := "fnExactMostRisers", fn := fun _ => fun
  | [d1, d2] => { results := [.lit (.bool false)], args := [d1, d2] }
  | _ => none }
def FnExactMostRisersWrongFalsely : Prop := fnExactMostRisersRow.holds Try.pinned (OpenSpec.ofChange fnExactMostRisersWrong)

/-- 'laws.FnExactHeightAtRun': WHATEVER THE INPUT: true; the input reads as it did. -/
def fnExactHeightAtRunSpec : ChangeSpec := { name := "fnExactHeightAtRun", fn := fun _ => fun
  | [d1, d2] => { results := [.lit (.bool true)], args := [d1, d2] }
  | _ => none }
def fnExactHeightAtRunRow : OpenClaim := { program := "ytokphedheedngaa", sum := "d733ac5fc3e6417f4270a4f55d39b95dba06250bd29c5d7d14a87e9435395179", func := "loop.example/g01374/laws.FnExactHeightAtRun", spec := "fnExactHeightAtRun", apart := false }
def FnExactHeightAtRunSaid : Prop := fnExactHeightAtRunRow.holds Try.pinned (OpenSpec.ofChange fnExactHeightAtRunSpec)

/-- ITS FALSE NEIGHBOUR: 'it returns false'. Refute it at one input. -/
def fnExactHeightAtRunWrong : ChangeSpec := { name := "fnExactHeightAtRun", fn := fun _ => fun
  | [d1, d2] => { results := [.lit (.bool false)], args := [d1, d2] }
  | _ => none }
def FnExactHeightAtRunWrongFalsely : Prop := fnExactHeightAtRunRow.holds Try.pinned (OpenSpec.ofChange fnExactHeightAtRunWrong)

/-- 'laws.FnExactHeadRoom': WHATEVER THE INPUT: true; the input reads as it did. -/
def fnExactHeadRoomSpec : ChangeSpec := { name := "fnExactHeadRoom", fn := fun _ => fun
  | [d1, d2, d3] => { results := [.lit (.bool true)], args := [d1, d2, d3] }
  | _ => none }
def fnExactHeadRoomRow : OpenClaim := { program := "ytokphedheedngaa", sum := "d733ac5fc3e6417f4270a4f55d39b95dba06250bd29c5d7d14a87e9435395179", func := "loop.example/g01374/laws.FnExactHeadRoom", spec := "fnExactHeadRoom", apart := false }
def FnExactHeadRoomSaid : Prop := fnExactHeadRoomRow.holds Try.pinned (OpenSpec.ofChange fnExactHeadRoomSpec)

/-- ITS FALSE NEIGHBOUR: 'it returns false'. Refute it at one input. -/
def fnExactHeadRoomWrong : ChangeSpec := { name := "fnExactHeadRoom", fn := fun _ => fun
  | [d1, d2, d3] => { results := [.lit (.bool false)], args := [d1, d2, d3] }
  | _ => none }
def FnExactHeadRoomWrongFalsely : Prop := fnExactHeadRoomRow.holds Try.pinned (OpenSpec.ofChange fnExactHeadRoomWrong)

/-- 'laws.FnExactSplitFlight': WHATEVER THE INPUT: true; the input reads as it did. -/
def fnExactSplitFlightSpec : ChangeSpec := { name := "fnExactSplitFlight", fn := fun _ => fun
  | [d1, d2] => { results := [.lit (.bool true)], args := [d1, d2] }
  | _ => none }
def fnExactSplitFlightRow : OpenClaim := { program := "ytokphedheedngaa", sum := "d733ac5fc3e6417f4270a4f55d39b95dba06250bd29c5d7d14a87e9435395179", func := "loop.example/g01374/laws.FnExactSplitFlight", spec := "fnExactSplitFlight", apart := false }
def FnExactSplitFlightSaid : Prop := fnExactSplitFlightRow.holds Try.pinned (OpenSpec.ofChange fnExactSplitFlightSpec)

/-- ITS FALSE NEIGHBOUR: 'it returns false'. Refute it at one input. -/
def fnExactSplitFlightWrong : ChangeSpec := { name := "fnExactSplitFlight", fn := fun _ => fun
  | [d1, d2] => { results := [.lit (.bool false)], args := [d1, d2] }
  | _ => none }
def FnExactSplitFlightWrongFalsely : Prop := fnExactSplitFlightRow.holds Try.pinned (OpenSpec.ofChange fnExactSplitFlightWrong)

/- THE SECOND FORM. 'bulk': how many values and letters a reading holds, each counted each time it is reached (what is shared counts as often as it is met; a slice's spare places count too). A statement '..UptoSaid' is the law's where the arguments, and the package variables that the reading takes, are together of bulk at most 1048576: NARROWER than '..Said'. Prove '..Said' where nothing that the law and all that it calls make is longer than what came in: it says more and counts as full. Else prove '..UptoSaid'. A law counts once. -/
mutual
def uptoBulk {H : Type} : DataW H → Nat
  | .lit (.string bytes) => bytes.length + 1
  | .lit _ => 1
  | .nil => 1
  | .ptr d => uptoBulk d + 1
  | .slice elems spare => uptoBulkAll elems + uptoBulkAll spare + 1
  | .agg parts => uptoBulkAll parts + 1
  | .iface _ d => uptoBulk d + 1
  | .map entries => uptoBulkEntries entries + 1
  | .held _ => 1
def uptoBulkAll {H : Type} : List (DataW H) → Nat
  | [] => 0
  | d :: r => uptoBulk d + uptoBulkAll r
def uptoBulkEntries {H : Type} : List (Lit × DataW H) → Nat
  | [] => 0
  | x :: r => uptoBulkEntry x + uptoBulkEntries r
def uptoBulkEntry {H : Type} : Lit × DataW H → Nat
  | (.string bytes, d) => bytes.length + uptoBulk d + 1
  | (_, d) => uptoBulk d + 1
 end
def uptoSmall : (H : Type) → List (DataW H) → Bool := fun _ ds => decide (uptoBulkAll ds ≤ 1048576)
def OpenSpec.upto (s : _root_.Go.ChangeSpec) : _root_.Go.OpenSpec := { _root_.Go.OpenSpec.ofChange s with cond := some uptoSmall }

/-- 'laws.FnExactIsFlight', WHERE WHAT IT READS IS OF BULK AT MOST 1048576: true; the input reads as it did. -/
def fnExactIsFlightUptoRow : OpenClaim := { program := "ytokphedheedngaa", sum := "d733ac5fc3e6417f4270a4f55d39b95dba06250bd29c5d7d14a87e9435395179", func := "loop.example/g01374/laws.FnExactIsFlight", spec := "fnExactIsFlight", apart := false, narrowed := true }
def FnExactIsFlightUptoSaid : Prop := fnExactIsFlightUptoRow.holds Try.pinned (OpenSpec.upto fnExactIsFlightSpec)

/-- 'laws.FnExactHeightOf', WHERE WHAT IT READS IS OF BULK AT MOST 1048576: true; the input reads as it did. -/
def fnExactHeightOfUptoRow : OpenClaim := { program := "ytokphedheedngaa", sum := "d733ac5fc3e6417f4270a4f55d39b95dba06250bd29c5d7d14a87e9435395179", func := "loop.example/g01374/laws.FnExactHeightOf", spec := "fnExactHeightOf", apart := false, narrowed := true }
def FnExactHeightOfUptoSaid : Prop := fnExactHeightOfUptoRow.holds Try.pinned (OpenSpec.upto fnExactHeightOfSpec)

/-- 'laws.FnExactRunOf', WHERE WHAT IT READS IS OF BULK AT MOST 1048576: true; the input reads as it did. -/
def fnExactRunOfUptoRow : OpenClaim := { program := "ytokphedheedngaa", sum := "d733ac5fc3e6417f4270a4f55d39b95dba06250bd29c5d7d14a87e9435395179", func := "loop.example/g01374/laws.FnExactRunOf", spec := "fnExactRunOf", apart := false, narrowed := true }
def FnExactRunOfUptoSaid : Prop := fnExactRunOfUptoRow.holds Try.pinned (OpenSpec.upto fnExactRunOfSpec)

/-- 'laws.FnExactSlopeOf', WHERE WHAT IT READS IS OF BULK AT MOST 1048576: true; the input reads as it did. -/
def fnExactSlopeOfUptoRow : OpenClaim := { program := "ytokphedheedngaa", sum := "d733ac5fc3e6417f4270a4f55d39b95dba06250bd29c5d7d14a87e9435395179", func := "loop.example/g01374/laws.FnExactSlopeOf", spec := "fnExactSlopeOf", apart := false, narrowed := true }
def FnExactSlopeOfUptoSaid : Prop := fnExactSlopeOfUptoRow.holds Try.pinned (OpenSpec.upto fnExactSlopeOfSpec)

/-- 'laws.FnExactPaceSum', WHERE WHAT IT READS IS OF BULK AT MOST 1048576: true; the input reads as it did. -/
def fnExactPaceSumUptoRow : OpenClaim := { program := "ytokphedheedngaa", sum := "d733ac5fc3e6417f4270a4f55d39b95dba06250bd29c5d7d14a87e9435395179", func := "loop.example/g01374/laws.FnExactPaceSum", spec := "fnExactPaceSum", apart := false, narrowed := true }
def FnExactPaceSumUptoSaid : Prop := fnExactPaceSumUptoRow.holds Try.pinned (OpenSpec.upto fnExactPaceSumSpec)

/-- 'laws.FnExactLineSquare', WHERE WHAT IT READS IS OF BULK AT MOST 1048576: true; the input reads as it did. -/
def fnExactLineSquareUptoRow : OpenClaim := { program := "ytokphedheedngaa", sum := "d733ac5fc3e6417f4270a4f55d39b95dba06250bd29c5d7d14a87e9435395179", func := "loop.example/g01374/laws.FnExactLineSquare", spec := "fnExactLineSquare", apart := false, narrowed := true }
def FnExactLineSquareUptoSaid : Prop := fnExactLineSquareUptoRow.holds Try.pinned (OpenSpec.upto fnExactLineSquareSpec)

/-- 'laws.FnExactFewestRisers', WHERE WHAT IT READS IS OF BULK AT MOST 1048576: true; the input reads as it did. -/
def fnExactFewestRisersUptoRow : OpenClaim := { program := "ytokphedheedngaa", sum := "d733ac5fc3e6417f4270a4f55d39b95dba06250bd29c5d7d14a87e9435395179", func := "loop.example/g01374/laws.FnExactFewestRisers", spec := "fnExactFewestRisers", apart := false, narrowed := true }
def FnExactFewestRisersUptoSaid : Prop := fnExactFewestRisersUptoRow.holds Try.pinned (OpenSpec.upto fnExactFewestRisersSpec)

/-- 'laws.FnExactTreadFor', WHERE WHAT IT READS IS OF BULK AT MOST 1048576: true; the input reads as it did. -/
def fnExactTreadForUptoRow : OpenClaim := { program := "ytokphedheedngaa", sum := "d733ac5fc3e6417f4270a4f55d39b95dba06250bd29c5d7d14a87e9435395179", func := "loop.example/g01374/laws.FnExactTreadFor", spec := "fnExactTreadFor", apart := false, narrowed := true }
def FnExactTreadForUptoSaid : Prop := fnExactTreadForUptoRow.holds Try.pinned (OpenSpec.upto fnExactTreadForSpec)

/-- 'laws.FnExactMostRisers', WHERE WHAT IT READS IS OF BULK AT MOST 1048576: true; the input reads as it did. -/
def fnExactMostRisersUptoRow : OpenClaim := { program := "ytokphedheedngaa", sum := "d733ac5fc3e6417f4270a4f55d39b95dba06250bd29c5d7d14a87e9435395179", func := "loop.example/g01374/laws.FnExactMostRisers", spec := "fnExactMostRisers", apart := false, narrowed := true }
def FnExactMostRisersUptoSaid : Prop := fnExactMostRisersUptoRow.holds Try.pinned (OpenSpec.upto fnExactMostRisersSpec)

/-- 'laws.FnExactHeightAtRun', WHERE WHAT IT READS IS OF BULK AT MOST 1048576: true; the input reads as it did. -/
def fnExactHeightAtRunUptoRow : OpenClaim := { program := "ytokphedheedngaa", sum := "d733ac5fc3e6417f4270a4f55d39b95dba06250bd29c5d7d14a87e9435395179", func := "loop.example/g01374/laws.FnExactHeightAtRun", spec := "fnExactHeightAtRun", apart := false, narrowed := true }
def FnExactHeightAtRunUptoSaid : Prop := fnExactHeightAtRunUptoRow.holds Try.pinned (OpenSpec.upto fnExactHeightAtRunSpec)

/-- 'laws.FnExactHeadRoom', WHERE WHAT IT READS IS OF BULK AT MOST 1048576: true; the input reads as it did. -/
def fnExactHeadRoomUptoRow : OpenClaim := { program := "ytokphedheedngaa", sum := "d733ac5fc3e6417f4270a4f55d39b95dba06250bd29c5d7d14a87e9435395179", func := "loop.example/g01374/laws.FnExactHeadRoom", spec := "fnExactHeadRoom", apart := false, narrowed := true }
def FnExactHeadRoomUptoSaid : Prop := fnExactHeadRoomUptoRow.holds Try.pinned (OpenSpec.upto fnExactHeadRoomSpec)

/-- 'laws.FnExactSplitFlight', WHERE WHAT IT READS IS OF BULK AT MOST 1048576: true; the input reads as it did. -/
def fnExactSplitFlightUptoRow : OpenClaim := { program := "ytokphedheedngaa", sum := "d733ac5fc3e6417f4270a4f55d39b95dba06250bd29c5d7d14a87e9435395179", func := "loop.example/g01374/laws.FnExactSplitFlight", spec := "fnExactSplitFlight", apart := false, narrowed := true }
def FnExactSplitFlightUptoSaid : Prop := fnExactSplitFlightUptoRow.holds Try.pinned (OpenSpec.upto fnExactSplitFlightSpec)

end Rows
end Go.Proofs.Ytokphedheedngaa
