/-
  No cell of these rows narrows 'for every input' (looked for: loops, veiled, ifaces, maps, wideKeys, modest, calm, conditions, laid).
  DERIVED. THE GIVEN ROWS OF THIS SEAT. 6 by the template 'for every input the law returns true; each argument reads behind the call as it read before'; 0 by the template 'total and deterministic' (their statements: YtdeckfdmhpiokaaTotals.lean).
  GIVEN WITH THE SEED: the statements are not yours to turn. If you find one false, say at which input.
  Laid BY PROGRAM, IN A SANDBOX (cutbox-rows.mjs): the forced cells as the released guide's own fill.sh prints them over the translation a616135d30cb7fb9… (all of the seat's roots in one cut). By AI agents, Wed Nov 11 2026. No macro, syntax, notation, axiom, sorry.
-/
import Derived.Test.YtdeckfdmhpiokaaChecked
import GoSem.Claim
import GoSem.ClaimJoined
import GoSem.ClaimMapViews
import Derived.JoinedTies
import Derived.KernelRfl
namespace Go.Proofs.Ytdeckfdmhpiokaa
/- THE CELL 'sum', in the pinned program and in every row, IS THE sha256 OF THE DUMP (.gsa) THAT YtdeckfdmhpiokaaProg.lean LOADS. Nothing in Lean hashes anything: it is a label: what it is worth is what the hold of that sum in a sandbox is worth. -/
noncomputable def Try.pinned : Pinned := { name := "ytdeckfdmhpiokaa", sum := "a616135d30cb7fb9390b2068276fe99e87373bb1d4a6912ce691660f203a3fd2", checked := Try.checked }
namespace Rows
def none {H : Type} : Left H := { results := [], args := [] }

/-- 'laws.FnExactTimesFlight': WHATEVER THE INPUT: true; the input reads as it did. -/
def fnExactTimesFlightSpec : ChangeSpec := { name := "fnExactTimesFlight", fn := fun _ => fun
  | [d1, d2] => { results := [.lit (.bool true)], args := [d1, d2] }
  | _ => none }
def fnExactTimesFlightRow : OpenClaim := { program := "ytdeckfdmhpiokaa", sum := "a616135d30cb7fb9390b2068276fe99e87373bb1d4a6912ce691660f203a3fd2", func := "loop.example/g01374/laws.FnExactTimesFlight", spec := "fnExactTimesFlight", apart := false }
def FnExactTimesFlightSaid : Prop := fnExactTimesFlightRow.holds Try.pinned (OpenSpec.ofChange fnExactTimesFlightSpec)

/-- ITS FALSE NEIGHBOUR: 'it returns false'. Refute it at one input. -/
def fnExactTimesFlightWrong : ChangeSpec := { name := "fnExactTimesFlight", fn := fun _ => fun
  | [d1, d2] => { results := [.lit (.bool false)], args := [d1, d2] }
  | _ => none }
def FnExactTimesFlightWrongFalsely : Prop := fnExactTimesFlightRow.holds Try.pinned (OpenSpec.ofChange fnExactTimesFlightWrong)

/-- 'laws.FnExactWholeLine': WHATEVER THE INPUT: true; the input reads as it did. -/
def fnExactWholeLineSpec : ChangeSpec := { name := "fnExactWholeLine", fn := fun _ => fun
  | [d] => { results := [.lit (.bool true)], args := [d] }
  | _ => none }
def fnExactWholeLineRow : OpenClaim := { program := "ytdeckfdmhpiokaa", sum := "a616135d30cb7fb9390b2068276fe99e87373bb1d4a6912ce691660f203a3fd2", func := "loop.example/g01374/laws.FnExactWholeLine", spec := "fnExactWholeLine", unfollowed := true, recurses := true, apart := false }
def FnExactWholeLineSaid : Prop := fnExactWholeLineRow.holds Try.pinned (OpenSpec.ofChange fnExactWholeLineSpec)

/-- ITS FALSE NEIGHBOUR: 'it returns false'. Refute it at one input. -/
def fnExactWholeLineWrong : ChangeSpec := { name := "fnExactWholeLine", fn := fun _ => fun
  | [d] => { results := [.lit (.bool false)], args := [d] }
  | _ => none }
def FnExactWholeLineWrongFalsely : Prop := fnExactWholeLineRow.holds Try.pinned (OpenSpec.ofChange fnExactWholeLineWrong)

/-- 'laws.FnExactWholeRisers': WHATEVER THE INPUT: true; the input reads as it did. -/
def fnExactWholeRisersSpec : ChangeSpec := { name := "fnExactWholeRisers", fn := fun _ => fun
  | [d1, d2, d3] => { results := [.lit (.bool true)], args := [d1, d2, d3] }
  | _ => none }
def fnExactWholeRisersRow : OpenClaim := { program := "ytdeckfdmhpiokaa", sum := "a616135d30cb7fb9390b2068276fe99e87373bb1d4a6912ce691660f203a3fd2", func := "loop.example/g01374/laws.FnExactWholeRisers", spec := "fnExactWholeRisers", unfollowed := true, recurses := true, apart := false }
def FnExactWholeRisersSaid : Prop := fnExactWholeRisersRow.holds Try.pinned (OpenSpec.ofChange fnExactWholeRisersSpec)

/-- ITS FALSE NEIGHBOUR: 'it returns false'. Refute it at one input. -/
def fnExactWholeRisersWrong : ChangeSpec := { name := "fnExactWholeRisers", fn := fun _ => fun
  | [d1, d2, d3] => { results := [.lit (.bool false)], args := [d1, d2, d3] }
  | _ => none }
def FnExactWholeRisersWrongFalsely : Prop := fnExactWholeRisersRow.holds Try.pinned (OpenSpec.ofChange fnExactWholeRisersWrong)

/-- 'laws.FnExactBestRisers': WHATEVER THE INPUT: true; the input reads as it did. -/
def fnExactBestRisersSpec : ChangeSpec := { name := "fnExactBestRisers", fn := fun _ => fun
  | [d1, d2, d3] => { results := [.lit (.bool true)], args := [d1, d2, d3] }
  | _ => none }
def fnExactBestRisersRow : OpenClaim := { program := "ytdeckfdmhpiokaa", sum := "a616135d30cb7fb9390b2068276fe99e87373bb1d4a6912ce691660f203a3fd2", func := "loop.example/g01374/laws.FnExactBestRisers", spec := "fnExactBestRisers", unfollowed := true, recurses := true, apart := false }
def FnExactBestRisersSaid : Prop := fnExactBestRisersRow.holds Try.pinned (OpenSpec.ofChange fnExactBestRisersSpec)

/-- ITS FALSE NEIGHBOUR: 'it returns false'. Refute it at one input. -/
def fnExactBestRisersWrong : ChangeSpec := { name := "fnExactBestRisers", fn := fun _ => fun
  | [d1, d2, d3] => { results := [.lit (.bool false)], args := [d1, d2, d3] }
  | _ => none }
def FnExactBestRisersWrongFalsely : Prop := fnExactBestRisersRow.holds Try.pinned (OpenSpec.ofChange fnExactBestRisersWrong)

/-- 'laws.FnExactEvenRisers': WHATEVER THE INPUT: true; the input reads as it did. -/
def fnExactEvenRisersSpec : ChangeSpec := { name := "fnExactEvenRisers", fn := fun _ => fun
  | [d1, d2] => { results := [.lit (.bool true)], args := [d1, d2] }
  | _ => none }
def fnExactEvenRisersRow : OpenClaim := { program := "ytdeckfdmhpiokaa", sum := "a616135d30cb7fb9390b2068276fe99e87373bb1d4a6912ce691660f203a3fd2", func := "loop.example/g01374/laws.FnExactEvenRisers", spec := "fnExactEvenRisers", unfollowed := true, recurses := true, apart := false }
def FnExactEvenRisersSaid : Prop := fnExactEvenRisersRow.holds Try.pinned (OpenSpec.ofChange fnExactEvenRisersSpec)

/-- ITS FALSE NEIGHBOUR: 'it returns false'. Refute it at one input. -/
def fnExactEvenRisersWrong : ChangeSpec := { name := "fnExactEvenRisers", fn := fun _ => fun
  | [d1, d2] => { results := [.lit (.bool false)], args := [d1, d2] }
  | _ => none }
def FnExactEvenRisersWrongFalsely : Prop := fnExactEvenRisersRow.holds Try.pinned (OpenSpec.ofChange fnExactEvenRisersWrong)

/-- 'laws.FnExactFlightsFor': WHATEVER THE INPUT: true; the input reads as it did. -/
def fnExactFlightsForSpec : ChangeSpec := { name := "fnExactFlightsFor", fn := fun _ => fun
  | [d1, d2, d3] => { results := [.lit (.bool true)], args := [d1, d2, d3] }
  | _ => none }
def fnExactFlightsForRow : OpenClaim := { program := "ytdeckfdmhpiokaa", sum := "a616135d30cb7fb9390b2068276fe99e87373bb1d4a6912ce691660f203a3fd2", func := "loop.example/g01374/laws.FnExactFlightsFor", spec := "fnExactFlightsFor", unfollowed := true, recurses := true, apart := false }
def FnExactFlightsForSaid : Prop := fnExactFlightsForRow.holds Try.pinned (OpenSpec.ofChange fnExactFlightsForSpec)

/-- ITS FALSE NEIGHBOUR: 'it returns false'. Refute it at one input. -/
def fnExactFlightsForWrong : ChangeSpec := { name := "fnExactFlightsFor", fn := fun _ => fun
  | [d1, d2, d3] => { results := [.lit (.bool false)], args := [d1, d2, d3] }
  | _ => none }
def FnExactFlightsForWrongFalsely : Prop := fnExactFlightsForRow.holds Try.pinned (OpenSpec.ofChange fnExactFlightsForWrong)

/- THE SECOND FORM. 'bulk': how many values and letters a reading holds, each counted each time it is reached (what is shared counts as often as it is met; a slice's spare places count too). A statement '..UptoSaid' is the law's where the arguments, and the package variables that the reading takes, are together of bulk at most 1048576: NARROWER than '..Said'. Prove '..Said' where nothing that the law and all that it calls make is longer than what came in: it says more and counts as full. Else prove '..UptoSaid'. A law counts once. -/
mutual
def uptoBulk {H : Type} : DataW H → Nat
  | .lit (.string bytes) => bytes.length + 1
  | .lit _ => 1
  | .nil => 1
  | .ptr d => uptoBulk d + 1
  | .slice elems spare => uptoBulkAll elems + uptoBulkAll spare + 1
  | .agg parts => uptoBulkAll parts + 1
  | .iface _ d => uptoBulk d + 1
  | .map entries => uptoBulkEntries entries + 1
  | .held _ => 1
def uptoBulkAll {H : Type} : List (DataW H) → Nat
  | [] => 0
  | d :: r => uptoBulk d + uptoBulkAll r
def uptoBulkEntries {H : Type} : List (Lit × DataW H) → Nat
  | [] => 0
  | x :: r => uptoBulkEntry x + uptoBulkEntries r
def uptoBulkEntry {H : Type} : Lit × DataW H → Nat
  | (.string bytes, d) => bytes.length + uptoBulk d + 1
  | (_, d) => uptoBulk d + 1
 end
def uptoSmall : (H : Type) → List (DataW H) → Bool := fun _ ds => decide (uptoBulkAll ds ≤ 1048576)
def OpenSpec.upto (s : _root_.Go.ChangeSpec) : _root_.Go.OpenSpec := { _root_.Go.OpenSpec.ofChange s with cond := some uptoSmall }

/-- 'laws.FnExactTimesFlight', WHERE WHAT IT READS IS OF BULK AT MOST 1048576: true; the input reads as it did. -/
def fnExactTimesFlightUptoRow : OpenClaim := { program := "ytdeckfdmhpiokaa", sum := "a616135d30cb7fb9390b2068276fe99e87373bb1d4a6912ce691660f203a3fd2", func := "loop.example/g01374/laws.FnExactTimesFlight", spec := "fnExactTimesFlight", apart := false, narrowed := true }
def FnExactTimesFlightUptoSaid : Prop := fnExactTimesFlightUptoRow.holds Try.pinned (OpenSpec.upto fnExactTimesFlightSpec)

/-- 'laws.FnExactWholeLine', WHERE WHAT IT READS IS OF BULK AT MOST 1048576: true; the input reads as it did. -/
def fnExactWholeLineUptoRow : OpenClaim := { program := "ytdeckfdmhpiokaa", sum := "a616135d30cb7fb9390b2068276fe99e87373bb1d4a6912ce691660f203a3fd2", func := "loop.example/g01374/laws.FnExactWholeLine", spec := "fnExactWholeLine", unfollowed := true, recurses := true, apart := false, narrowed := true }
def FnExactWholeLineUptoSaid : Prop := fnExactWholeLineUptoRow.holds Try.pinned (OpenSpec.upto fnExactWholeLineSpec)

/-- 'laws.FnExactWholeRisers', WHERE WHAT IT READS IS OF BULK AT MOST 1048576: true; the input reads as it did. -/
def fnExactWholeRisersUptoRow : OpenClaim := { program := "ytdeckfdmhpiokaa", sum := "a616135d30cb7fb9390b2068276fe99e87373bb1d4a6912ce691660f203a3fd2", func := "loop.example/g01374/laws.FnExactWholeRisers", spec := "fnExactWholeRisers", unfollowed := true, recurses := true, apart := false, narrowed := true }
def FnExactWholeRisersUptoSaid : Prop := fnExactWholeRisersUptoRow.holds Try.pinned (OpenSpec.upto fnExactWholeRisersSpec)

/-- 'laws.FnExactBestRisers', WHERE WHAT IT READS IS OF BULK AT MOST 1048576: true; the input reads as it did. -/
def fnExactBestRisersUptoRow : OpenClaim := { program := "ytdeckfdmhpiokaa", sum := "a616135d30cb7fb9390b2068276fe99e87373bb1d4a6912ce691660f203a3fd2", func := "loop.example/g01374/laws.FnExactBestRisers", spec := "fnExactBestRisers", unfollowed := true, recurses := true, apart := false, narrowed := true }
def FnExactBestRisersUptoSaid : Prop := fnExactBestRisersUptoRow.holds Try.pinned (OpenSpec.upto fnExactBestRisersSpec)

/-- 'laws.FnExactEvenRisers', WHERE WHAT IT READS IS OF BULK AT MOST 1048576: true; the input reads as it did. -/
def fnExactEvenRisersUptoRow : OpenClaim := { program := "ytdeckfdmhpiokaa", sum := "a616135d30cb7fb9390b2068276fe99e87373bb1d4a6912ce691660f203a3fd2", func := "loop.example/g01374/laws.FnExactEvenRisers", spec := "fnExactEvenRisers", unfollowed := true, recurses := true, apart := false, narrowed := true }
def FnExactEvenRisersUptoSaid : Prop := fnExactEvenRisersUptoRow.holds Try.pinned (OpenSpec.upto fnExactEvenRisersSpec)

/-- 'laws.FnExactFlightsFor', WHERE WHAT IT READS IS OF BULK AT MOST 1048576: true; the input reads as it did. -/
def fnExactFlightsForUptoRow : OpenClaim := { program := "ytdeckfdmhpiokaa", sum := "a616135d30cb7fb9390b2068276fe99e87373bb1d4a6912ce691660f203a3fd2", func := "loop.example/g01374/laws.FnExactFlightsFor", spec := "fnExactFlightsFor", unfollowed := true, recurses := true, apart := false, narrowed := true }
def FnExactFlightsForUptoSaid : Prop := fnExactFlightsForUptoRow.holds Try.pinned (OpenSpec.upto fnExactFlightsForSpec)

end Rows
end Go.Proofs.Ytdeckfdmhpiokaa
