/-
  No cell of these rows narrows 'for every input' (looked for: loops, veiled, ifaces, maps, wideKeys, modest, calm, conditions, laid).
  DERIVED. THE GIVEN ROWS OF THIS SEAT. 11 by the template 'for every input the law returns true; each argument reads behind the call as it read before'; 0 by the template 'total and deterministic' (their statements: YtimgnollnnepbaaTotals.lean).
  GIVEN WITH THE SEED: the statements are not yours to turn. If you find one false, say at which input.
  Laid BY PROGRAM, IN A SANDBOX (cutbox-rows.mjs): the forced cells as the released guide's own fill.sh prints them over the translation 757b5417bc4b72a9… (all of the seat's roots in one cut). By AI agents, Wed Nov 11 2026. No macro, syntax, notation, axiom, sorry.
-/
import Derived.Test.YtimgnollnnepbaaChecked
import GoSem.Claim
import GoSem.ClaimJoined
import GoSem.ClaimMapViews
import Derived.JoinedTies
import Derived.KernelRfl
namespace Go.Proofs.Ytimgnollnnepbaa
/- THE CELL 'sum', in the pinned program and in every row, IS THE sha256 OF THE DUMP (.gsa) THAT YtimgnollnnepbaaProg.lean LOADS. Nothing in Lean hashes anything: it is a label: what it is worth is what the hold of that sum in a sandbox is worth. -/
noncomputable def Try.pinned : Pinned := { name := "ytimgnollnnepbaa", sum := "757b5417bc4b72a9d3a10aef785f6d651313bd9726890db225caca7f6bbf793d", checked := Try.checked }
namespace Rows
def none {H : Type} : Left H := { results := [], args := [] }

/-- 'laws.FnExactRankOfClimb': WHATEVER THE INPUT: true; the input reads as it did. -/
def fnExactRankOfClimbSpec : ChangeSpec := { name := "fnExactRankOfClimb", fn := fun _ => fun
  | [d1, d2] => { results := [.lit (.bool true)], args := [d1, d2] }
  | _ => none }
def fnExactRankOfClimbRow : OpenClaim := { program := "ytimgnollnnepbaa", sum := "757b5417bc4b72a9d3a10aef785f6d651313bd9726890db225caca7f6bbf793d", func := "loop.example/g01374/laws.FnExactRankOfClimb", spec := "fnExactRankOfClimb", apart := false }
def FnExactRankOfClimbSaid : Prop := fnExactRankOfClimbRow.holds Try.pinned (OpenSpec.ofChange fnExactRankOfClimbSpec)

/-- ITS FALSE NEIGHBOUR: 'it returns false'. Refute it at one input. -/
def fnExactRankOfClimbWrong : ChangeSpec := { name := "fnExactRankOfClimb", fn := fun _ => fun
  | [d1, d2] => { results := [.lit (.bool false)], args := [d1, d2] }
  | _ => none }
def FnExactRankOfClimbWrongFalsely : Prop := fnExactRankOfClimbRow.holds Try.pinned (OpenSpec.ofChange fnExactRankOfClimbWrong)

/-- 'laws.FnExactNextClimb': WHATEVER THE INPUT: true; the input reads as it did. -/
def fnExactNextClimbSpec : ChangeSpec := { name := "fnExactNextClimb", fn := fun _ => fun
  | [d1, d2] => { results := [.lit (.bool true)], args := [d1, d2] }
  | _ => none }
def fnExactNextClimbRow : OpenClaim := { program := "ytimgnollnnepbaa", sum := "757b5417bc4b72a9d3a10aef785f6d651313bd9726890db225caca7f6bbf793d", func := "loop.example/g01374/laws.FnExactNextClimb", spec := "fnExactNextClimb", apart := false }
def FnExactNextClimbSaid : Prop := fnExactNextClimbRow.holds Try.pinned (OpenSpec.ofChange fnExactNextClimbSpec)

/-- ITS FALSE NEIGHBOUR: 'it returns false'. Refute it at one input. -/
def fnExactNextClimbWrong : ChangeSpec := { name := "fnExactNextClimb", fn := fun _ => fun
  | [d1, d2] => { results := [.lit (.bool false)], args := [d1, d2] }
  | _ => none }
def FnExactNextClimbWrongFalsely : Prop := fnExactNextClimbRow.holds Try.pinned (OpenSpec.ofChange fnExactNextClimbWrong)

/-- 'laws.FnExactClimbsThrough': WHATEVER THE INPUT: true; the input reads as it did. -/
def fnExactClimbsThroughSpec : ChangeSpec := { name := "fnExactClimbsThrough", fn := fun _ => fun
  | [d1, d2] => { results := [.lit (.bool true)], args := [d1, d2] }
  | _ => none }
def fnExactClimbsThroughRow : OpenClaim := { program := "ytimgnollnnepbaa", sum := "757b5417bc4b72a9d3a10aef785f6d651313bd9726890db225caca7f6bbf793d", func := "loop.example/g01374/laws.FnExactClimbsThrough", spec := "fnExactClimbsThrough", apart := false }
def FnExactClimbsThroughSaid : Prop := fnExactClimbsThroughRow.holds Try.pinned (OpenSpec.ofChange fnExactClimbsThroughSpec)

/-- ITS FALSE NEIGHBOUR: 'it returns false'. Refute it at one input. -/
def fnExactClimbsThroughWrong : ChangeSpec := { name := "fnExactClimbsThrough", fn := fun _ => fun
  | [d1, d2] => { results := [.lit (.bool false)], args := [d1, d2] }
  | _ => none }
def FnExactClimbsThroughWrongFalsely : Prop := fnExactClimbsThroughRow.holds Try.pinned (OpenSpec.ofChange fnExactClimbsThroughWrong)

/-- 'laws.FnExactCountByStrides': WHATEVER THE INPUT: true; the input reads as it did. -/
def fnExactCountByStridesSpec : ChangeSpec := { name := "fnExactCountByStrides", fn := fun _ => fun
  | [d1, d2] => { results := [.lit (.bool true)], args := [d1, d2] }
  | _ => none }
def fnExactCountByStridesRow : OpenClaim := { program := "ytimgnollnnepbaa", sum := "757b5417bc4b72a9d3a10aef785f6d651313bd9726890db225caca7f6bbf793d", func := "loop.example/g01374/laws.FnExactCountByStrides", spec := "fnExactCountByStrides", apart := false }
def FnExactCountByStridesSaid : Prop := fnExactCountByStridesRow.holds Try.pinned (OpenSpec.ofChange fnExactCountByStridesSpec)

/-- ITS FALSE NEIGHBOUR: 'it returns false'. Refute it at one input. -/
def fnExactCountByStridesWrong : ChangeSpec := { name := "fnExactCountByStrides", fn := fun _ => fun
  | [d1, d2] => { results := [.lit (.bool false)], args := [d1, d2] }
  | _ => none }
def FnExactCountByStridesWrongFalsely : Prop := fnExactCountByStridesRow.holds Try.pinned (OpenSpec.ofChange fnExactCountByStridesWrong)

/-- 'laws.FnExactFewestStrides': WHATEVER THE INPUT: true; the input reads as it did. -/
def fnExactFewestStridesSpec : ChangeSpec := { name := "fnExactFewestStrides", fn := fun _ => fun
  | [d] => { results := [.lit (.bool true)], args := [d] }
  | _ => none }
def fnExactFewestStridesRow : OpenClaim := { program := "ytimgnollnnepbaa", sum := "757b5417bc4b72a9d3a10aef785f6d651313bd9726890db225caca7f6bbf793d", func := "loop.example/g01374/laws.FnExactFewestStrides", spec := "fnExactFewestStrides", apart := false }
def FnExactFewestStridesSaid : Prop := fnExactFewestStridesRow.holds Try.pinned (OpenSpec.ofChange fnExactFewestStridesSpec)

/-- ITS FALSE NEIGHBOUR: 'it returns false'. Refute it at one input. -/
def fnExactFewestStridesWrong : ChangeSpec := { name := "fnExactFewestStrides", fn := fun _ => fun
  | [d] => { results := [.lit (.bool false)], args := [d] }
  | _ => none }
def FnExactFewestStridesWrongFalsely : Prop := fnExactFewestStridesRow.holds Try.pinned (OpenSpec.ofChange fnExactFewestStridesWrong)

/-- 'laws.FnExactReachedSteps': WHATEVER THE INPUT: true; the input reads as it did. -/
def fnExactReachedStepsSpec : ChangeSpec := { name := "fnExactReachedSteps", fn := fun _ => fun
  | [d] => { results := [.lit (.bool true)], args := [d] }
  | _ => none }
def fnExactReachedStepsRow : OpenClaim := { program := "ytimgnollnnepbaa", sum := "757b5417bc4b72a9d3a10aef785f6d651313bd9726890db225caca7f6bbf793d", func := "loop.example/g01374/laws.FnExactReachedSteps", spec := "fnExactReachedSteps", apart := false }
def FnExactReachedStepsSaid : Prop := fnExactReachedStepsRow.holds Try.pinned (OpenSpec.ofChange fnExactReachedStepsSpec)

/-- ITS FALSE NEIGHBOUR: 'it returns false'. Refute it at one input. -/
def fnExactReachedStepsWrong : ChangeSpec := { name := "fnExactReachedSteps", fn := fun _ => fun
  | [d] => { results := [.lit (.bool false)], args := [d] }
  | _ => none }
def FnExactReachedStepsWrongFalsely : Prop := fnExactReachedStepsRow.holds Try.pinned (OpenSpec.ofChange fnExactReachedStepsWrong)

/-- 'laws.FnExactStuckSteps': WHATEVER THE INPUT: true; the input reads as it did. -/
def fnExactStuckStepsSpec : ChangeSpec := { name := "fnExactStuckSteps", fn := fun _ => fun
  | [d] => { results := [.lit (.bool true)], args := [d] }
  | _ => none }
def fnExactStuckStepsRow : OpenClaim := { program := "ytimgnollnnepbaa", sum := "757b5417bc4b72a9d3a10aef785f6d651313bd9726890db225caca7f6bbf793d", func := "loop.example/g01374/laws.FnExactStuckSteps", spec := "fnExactStuckSteps", apart := false }
def FnExactStuckStepsSaid : Prop := fnExactStuckStepsRow.holds Try.pinned (OpenSpec.ofChange fnExactStuckStepsSpec)

/-- ITS FALSE NEIGHBOUR: 'it returns false'. Refute it at one input. -/
def fnExactStuckStepsWrong : ChangeSpec := { name := "fnExactStuckSteps", fn := fun _ => fun
  | [d] => { results := [.lit (.bool false)], args := [d] }
  | _ => none }
def FnExactStuckStepsWrongFalsely : Prop := fnExactStuckStepsRow.holds Try.pinned (OpenSpec.ofChange fnExactStuckStepsWrong)

/-- 'laws.FnExactNeededSteps': WHATEVER THE INPUT: true; the input reads as it did. -/
def fnExactNeededStepsSpec : ChangeSpec := { name := "fnExactNeededSteps", fn := fun _ => fun
  | [d] => { results := [.lit (.bool true)], args := [d] }
  | _ => none }
def fnExactNeededStepsRow : OpenClaim := { program := "ytimgnollnnepbaa", sum := "757b5417bc4b72a9d3a10aef785f6d651313bd9726890db225caca7f6bbf793d", func := "loop.example/g01374/laws.FnExactNeededSteps", spec := "fnExactNeededSteps", apart := false }
def FnExactNeededStepsSaid : Prop := fnExactNeededStepsRow.holds Try.pinned (OpenSpec.ofChange fnExactNeededStepsSpec)

/-- ITS FALSE NEIGHBOUR: 'it returns false'. Refute it at one input. -/
def fnExactNeededStepsWrong : ChangeSpec := { name := "fnExactNeededSteps", fn := fun _ => fun
  | [d] => { results := [.lit (.bool false)], args := [d] }
  | _ => none }
def FnExactNeededStepsWrongFalsely : Prop := fnExactNeededStepsRow.holds Try.pinned (OpenSpec.ofChange fnExactNeededStepsWrong)

/-- 'laws.FnExactWorstToBreak': WHATEVER THE INPUT: true; the input reads as it did. -/
def fnExactWorstToBreakSpec : ChangeSpec := { name := "fnExactWorstToBreak", fn := fun _ => fun
  | [d] => { results := [.lit (.bool true)], args := [d] }
  | _ => none }
def fnExactWorstToBreakRow : OpenClaim := { program := "ytimgnollnnepbaa", sum := "757b5417bc4b72a9d3a10aef785f6d651313bd9726890db225caca7f6bbf793d", func := "loop.example/g01374/laws.FnExactWorstToBreak", spec := "fnExactWorstToBreak", apart := false }
def FnExactWorstToBreakSaid : Prop := fnExactWorstToBreakRow.holds Try.pinned (OpenSpec.ofChange fnExactWorstToBreakSpec)

/-- ITS FALSE NEIGHBOUR: 'it returns false'. Refute it at one input. -/
def fnExactWorstToBreakWrong : ChangeSpec := { name := "fnExactWorstToBreak", fn := fun _ => fun
  | [d] => { results := [.lit (.bool false)], args := [d] }
  | _ => none }
def FnExactWorstToBreakWrongFalsely : Prop := fnExactWorstToBreakRow.holds Try.pinned (OpenSpec.ofChange fnExactWorstToBreakWrong)

/-- 'laws.FnExactMostStrides': WHATEVER THE INPUT: true; the input reads as it did. -/
def fnExactMostStridesSpec : ChangeSpec := { name := "fnExactMostStrides", fn := fun _ => fun
  | [d] => { results := [.lit (.bool true)], args := [d] }
  | _ => none }
def fnExactMostStridesRow : OpenClaim := { program := "ytimgnollnnepbaa", sum := "757b5417bc4b72a9d3a10aef785f6d651313bd9726890db225caca7f6bbf793d", func := "loop.example/g01374/laws.FnExactMostStrides", spec := "fnExactMostStrides", unfollowed := true, recurses := true, apart := false }
def FnExactMostStridesSaid : Prop := fnExactMostStridesRow.holds Try.pinned (OpenSpec.ofChange fnExactMostStridesSpec)

/-- ITS FALSE NEIGHBOUR: 'it returns false'. Refute it at one input. -/
def fnExactMostStridesWrong : ChangeSpec := { name := "fnExactMostStrides", fn := fun _ => fun
  | [d] => { results := [.lit (.bool false)], args := [d] }
  | _ => none }
def FnExactMostStridesWrongFalsely : Prop := fnExactMostStridesRow.holds Try.pinned (OpenSpec.ofChange fnExactMostStridesWrong)

/-- 'laws.FnExactFirstFewest': WHATEVER THE INPUT: true; the input reads as it did. -/
def fnExactFirstFewestSpec : ChangeSpec := { name := "fnExactFirstFewest", fn := fun _ => fun
  | [d] => { results := [.lit (.bool true)], args := [d] }
  | _ => none }
def fnExactFirstFewestRow : OpenClaim := { program := "ytimgnollnnepbaa", sum := "757b5417bc4b72a9d3a10aef785f6d651313bd9726890db225caca7f6bbf793d", func := "loop.example/g01374/laws.FnExactFirstFewest", spec := "fnExactFirstFewest", apart := false }
def FnExactFirstFewestSaid : Prop := fnExactFirstFewestRow.holds Try.pinned (OpenSpec.ofChange fnExactFirstFewestSpec)

/-- ITS FALSE NEIGHBOUR: 'it returns false'. Refute it at one input. -/
def fnExactFirstFewestWrong : ChangeSpec := { name := "fnExactFirstFewest", fn := fun _ => fun
  | [d] => { results := [.lit (.bool false)], args := [d] }
  | _ => none }
def FnExactFirstFewestWrongFalsely : Prop := fnExactFirstFewestRow.holds Try.pinned (OpenSpec.ofChange fnExactFirstFewestWrong)

/- THE SECOND FORM. 'bulk': how many values and letters a reading holds, each counted each time it is reached (what is shared counts as often as it is met; a slice's spare places count too). A statement '..UptoSaid' is the law's where the arguments, and the package variables that the reading takes, are together of bulk at most 1048576: NARROWER than '..Said'. Prove '..Said' where nothing that the law and all that it calls make is longer than what came in: it says more and counts as full. Else prove '..UptoSaid'. A law counts once. -/
mutual
def uptoBulk {H : Type} : DataW H → Nat
  | .lit (.string bytes) => bytes.length + 1
  | .lit _ => 1
  | .nil => 1
  | .ptr d => uptoBulk d + 1
  | .slice elems spare => uptoBulkAll elems + uptoBulkAll spare + 1
  | .agg parts => uptoBulkAll parts + 1
  | .iface _ d => uptoBulk d + 1
  | .map entries => uptoBulkEntries entries + 1
  | .held _ => 1
def uptoBulkAll {H : Type} : List (DataW H) → Nat
  | [] => 0
  | d :: r => uptoBulk d + uptoBulkAll r
def uptoBulkEntries {H : Type} : List (Lit × DataW H) → Nat
  | [] => 0
  | x :: r => uptoBulkEntry x + uptoBulkEntries r
def uptoBulkEntry {H : Type} : Lit × DataW H → Nat
  | (.string bytes, d) => bytes.length + uptoBulk d + 1
  | (_, d) => uptoBulk d + 1
 end
def uptoSmall : (H : Type) → List (DataW H) → Bool := fun _ ds => decide (uptoBulkAll ds ≤ 1048576)
def OpenSpec.upto (s : _root_.Go.ChangeSpec) : _root_.Go.OpenSpec := { _root_.Go.OpenSpec.ofChange s with cond := some uptoSmall }

/-- 'laws.FnExactRankOfClimb', WHERE WHAT IT READS IS OF BULK AT MOST 1048576: true; the input reads as it did. -/
def fnExactRankOfClimbUptoRow : OpenClaim := { program := "ytimgnollnnepbaa", sum := "757b5417bc4b72a9d3a10aef785f6d651313bd9726890db225caca7f6bbf793d", func := "loop.example/g01374/laws.FnExactRankOfClimb", spec := "fnExactRankOfClimb", apart := false, narrowed := true }
def FnExactRankOfClimbUptoSaid : Prop := fnExactRankOfClimbUptoRow.holds Try.pinned (OpenSpec.upto fnExactRankOfClimbSpec)

/-- 'laws.FnExactNextClimb', WHERE WHAT IT READS IS OF BULK AT MOST 1048576: true; the input reads as it did. -/
def fnExactNextClimbUptoRow : OpenClaim := { program := "ytimgnollnnepbaa", sum := "757b5417bc4b72a9d3a10aef785f6d651313bd9726890db225caca7f6bbf793d", func := "loop.example/g01374/laws.FnExactNextClimb", spec := "fnExactNextClimb", apart := false, narrowed := true }
def FnExactNextClimbUptoSaid : Prop := fnExactNextClimbUptoRow.holds Try.pinned (OpenSpec.upto fnExactNextClimbSpec)

/-- 'laws.FnExactClimbsThrough', WHERE WHAT IT READS IS OF BULK AT MOST 1048576: true; the input reads as it did. -/
def fnExactClimbsThroughUptoRow : OpenClaim := { program := "ytimgnollnnepbaa", sum := "757b5417bc4b72a9d3a10aef785f6d651313bd9726890db225caca7f6bbf793d", func := "loop.example/g01374/laws.FnExactClimbsThrough", spec := "fnExactClimbsThrough", apart := false, narrowed := true }
def FnExactClimbsThroughUptoSaid : Prop := fnExactClimbsThroughUptoRow.holds Try.pinned (OpenSpec.upto fnExactClimbsThroughSpec)

/-- 'laws.FnExactCountByStrides', WHERE WHAT IT READS IS OF BULK AT MOST 1048576: true; the input reads as it did. -/
def fnExactCountByStridesUptoRow : OpenClaim := { program := "ytimgnollnnepbaa", sum := "757b5417bc4b72a9d3a10aef785f6d651313bd9726890db225caca7f6bbf793d", func := "loop.example/g01374/laws.FnExactCountByStrides", spec := "fnExactCountByStrides", apart := false, narrowed := true }
def FnExactCountByStridesUptoSaid : Prop := fnExactCountByStridesUptoRow.holds Try.pinned (OpenSpec.upto fnExactCountByStridesSpec)

/-- 'laws.FnExactFewestStrides', WHERE WHAT IT READS IS OF BULK AT MOST 1048576: true; the input reads as it did. -/
def fnExactFewestStridesUptoRow : OpenClaim := { program := "ytimgnollnnepbaa", sum := "757b5417bc4b72a9d3a10aef785f6d651313bd9726890db225caca7f6bbf793d", func := "loop.example/g01374/laws.FnExactFewestStrides", spec := "fnExactFewestStrides", apart := false, narrowed := true }
def FnExactFewestStridesUptoSaid : Prop := fnExactFewestStridesUptoRow.holds Try.pinned (OpenSpec.upto fnExactFewestStridesSpec)

/-- 'laws.FnExactReachedSteps', WHERE WHAT IT READS IS OF BULK AT MOST 1048576: true; the input reads as it did. -/
def fnExactReachedStepsUptoRow : OpenClaim := { program := "ytimgnollnnepbaa", sum := "757b5417bc4b72a9d3a10aef785f6d651313bd9726890db225caca7f6bbf793d", func := "loop.example/g01374/laws.FnExactReachedSteps", spec := "fnExactReachedSteps", apart := false, narrowed := true }
def FnExactReachedStepsUptoSaid : Prop := fnExactReachedStepsUptoRow.holds Try.pinned (OpenSpec.upto fnExactReachedStepsSpec)

/-- 'laws.FnExactStuckSteps', WHERE WHAT IT READS IS OF BULK AT MOST 1048576: true; the input reads as it did. -/
def fnExactStuckStepsUptoRow : OpenClaim := { program := "ytimgnollnnepbaa", sum := "757b5417bc4b72a9d3a10aef785f6d651313bd9726890db225caca7f6bbf793d", func := "loop.example/g01374/laws.FnExactStuckSteps", spec := "fnExactStuckSteps", apart := false, narrowed := true }
def FnExactStuckStepsUptoSaid : Prop := fnExactStuckStepsUptoRow.holds Try.pinned (OpenSpec.upto fnExactStuckStepsSpec)

/-- 'laws.FnExactNeededSteps', WHERE WHAT IT READS IS OF BULK AT MOST 1048576: true; the input reads as it did. -/
def fnExactNeededStepsUptoRow : OpenClaim := { program := "ytimgnollnnepbaa", sum := "757b5417bc4b72a9d3a10aef785f6d651313bd9726890db225caca7f6bbf793d", func := "loop.example/g01374/laws.FnExactNeededSteps", spec := "fnExactNeededSteps", apart := false, narrowed := true }
def FnExactNeededStepsUptoSaid : Prop := fnExactNeededStepsUptoRow.holds Try.pinned (OpenSpec.upto fnExactNeededStepsSpec)

/-- 'laws.FnExactWorstToBreak', WHERE WHAT IT READS IS OF BULK AT MOST 1048576: true; the input reads as it did. -/
def fnExactWorstToBreakUptoRow : OpenClaim := { program := "ytimgnollnnepbaa", sum := "757b5417bc4b72a9d3a10aef785f6d651313bd9726890db225caca7f6bbf793d", func := "loop.example/g01374/laws.FnExactWorstToBreak", spec := "fnExactWorstToBreak", apart := false, narrowed := true }
def FnExactWorstToBreakUptoSaid : Prop := fnExactWorstToBreakUptoRow.holds Try.pinned (OpenSpec.upto fnExactWorstToBreakSpec)

/-- 'laws.FnExactMostStrides', WHERE WHAT IT READS IS OF BULK AT MOST 1048576: true; the input reads as it did. -/
def fnExactMostStridesUptoRow : OpenClaim := { program := "ytimgnollnnepbaa", sum := "757b5417bc4b72a9d3a10aef785f6d651313bd9726890db225caca7f6bbf793d", func := "loop.example/g01374/laws.FnExactMostStrides", spec := "fnExactMostStrides", unfollowed := true, recurses := true, apart := false, narrowed := true }
def FnExactMostStridesUptoSaid : Prop := fnExactMostStridesUptoRow.holds Try.pinned (OpenSpec.upto fnExactMostStridesSpec)

/-- 'laws.FnExactFirstFewest', WHERE WHAT IT READS IS OF BULK AT MOST 1048576: true; the input reads as it did. -/
def fnExactFirstFewestUptoRow : OpenClaim := { program := "ytimgnollnnepbaa", sum := "757b5417bc4b72a9d3a10aef785f6d651313bd9726890db225caca7f6bbf793d", func := "loop.example/g01374/laws.FnExactFirstFewest", spec := "fnExactFirstFewest", apart := false, narrowed := true }
def FnExactFirstFewestUptoSaid : Prop := fnExactFirstFewestUptoRow.holds Try.pinned (OpenSpec.upto fnExactFirstFewestSpec)

end Rows
end Go.Proofs.Ytimgnollnnepbaa
