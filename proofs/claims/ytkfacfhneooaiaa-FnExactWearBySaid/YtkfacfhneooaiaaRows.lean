/-
  No cell of these rows narrows 'for every input' (looked for: loops, veiled, ifaces, maps, wideKeys, modest, calm, conditions, laid).
  DERIVED. THE GIVEN ROWS OF THIS SEAT. 12 by the template 'for every input the law returns true; each argument reads behind the call as it read before'; 0 by the template 'total and deterministic' (their statements: YtkfacfhneooaiaaTotals.lean).
  GIVEN WITH THE SEED: the statements are not yours to turn. If you find one false, say at which input.
  Laid BY PROGRAM, IN A SANDBOX (cutbox-rows.mjs): the forced cells as the released guide's own fill.sh prints them over the translation d7f406b37a4d964c… (all of the seat's roots in one cut). By AI agents, Wed Nov 11 2026. No macro, syntax, notation, axiom, sorry.
-/
import Derived.Test.YtkfacfhneooaiaaChecked
import GoSem.Claim
import GoSem.ClaimJoined
import GoSem.ClaimMapViews
import Derived.JoinedTies
import Derived.KernelRfl
namespace Go.Proofs.Ytkfacfhneooaiaa
/- THE CELL 'sum', in the pinned program and in every row, IS THE sha256 OF THE DUMP (.gsa) THAT YtkfacfhneooaiaaProg.lean LOADS. Nothing in Lean hashes anything: it is a label: what it is worth is what the hold of that sum in a sandbox is worth. -/
noncomputable def Try.pinned : Pinned := { name := "ytkfacfhneooaiaa", sum := "d7f406b37a4d964cf2b442c92eecb39142052be1e72cf747a19b75e7088f9522", checked := Try.checked }
namespace Rows
def none {H : Type} : Left H := { results := [], args := [] }

/-- 'laws.FnExactPartsOfBears': WHATEVER THE INPUT: true; the input reads as it did. -/
def fnExactPartsOfBearsSpec : ChangeSpec := { name := "fnExactPartsOfBears", fn := fun _ => fun
  | [d1, d2] => { results := [.lit (.bool true)], args := [d1, d2] }
  | _ => none }
def fnExactPartsOfBearsRow : OpenClaim := { program := "ytkfacfhneooaiaa", sum := "d7f406b37a4d964cf2b442c92eecb39142052be1e72cf747a19b75e7088f9522", func := "loop.example/g01374/laws.FnExactPartsOfBears", spec := "fnExactPartsOfBears", apart := false }
def FnExactPartsOfBearsSaid : Prop := fnExactPartsOfBearsRow.holds Try.pinned (OpenSpec.ofChange fnExactPartsOfBearsSpec)

/-- ITS FALSE NEIGHBOUR: 'it returns false'. Refute it at one input. -/
def fnExactPartsOfBearsWrong : ChangeSpec := { name := "fnExactPartsOfBears", fn := fun _ => fun
  | [d1, d2] => { results := [.lit (.bool false)], args := [d1, d2] }
  | _ => none }
def FnExactPartsOfBearsWrongFalsely : Prop := fnExactPartsOfBearsRow.holds Try.pinned (OpenSpec.ofChange fnExactPartsOfBearsWrong)

/-- 'laws.FnExactWeakestPart': WHATEVER THE INPUT: true; the input reads as it did. -/
def fnExactWeakestPartSpec : ChangeSpec := { name := "fnExactWeakestPart", fn := fun _ => fun
  | [d1, d2] => { results := [.lit (.bool true)], args := [d1, d2] }
  | _ => none }
def fnExactWeakestPartRow : OpenClaim := { program := "ytkfacfhneooaiaa", sum := "d7f406b37a4d964cf2b442c92eecb39142052be1e72cf747a19b75e7088f9522", func := "loop.example/g01374/laws.FnExactWeakestPart", spec := "fnExactWeakestPart", apart := false }
def FnExactWeakestPartSaid : Prop := fnExactWeakestPartRow.holds Try.pinned (OpenSpec.ofChange fnExactWeakestPartSpec)

/-- ITS FALSE NEIGHBOUR: 'it returns false'. Refute it at one input. -/
def fnExactWeakestPartWrong : ChangeSpec := { name := "fnExactWeakestPart", fn := fun _ => fun
  | [d1, d2] => { results := [.lit (.bool false)], args := [d1, d2] }
  | _ => none }
def FnExactWeakestPartWrongFalsely : Prop := fnExactWeakestPartRow.holds Try.pinned (OpenSpec.ofChange fnExactWeakestPartWrong)

/-- 'laws.FnExactMostWears': WHATEVER THE INPUT: true; the input reads as it did. -/
def fnExactMostWearsSpec : ChangeSpec := { name := "fnExactMostWears", fn := fun _ => fun
  | [d1, d2] => { results := [.lit (.bool true)], args := [d1, d2] }
  | _ => none }
def fnExactMostWearsRow : OpenClaim := { program := "ytkfacfhneooaiaa", sum := "d7f406b37a4d964cf2b442c92eecb39142052be1e72cf747a19b75e7088f9522", func := "loop.example/g01374/laws.FnExactMostWears", spec := "fnExactMostWears", apart := false }
def FnExactMostWearsSaid : Prop := fnExactMostWearsRow.holds Try.pinned (OpenSpec.ofChange fnExactMostWearsSpec)

/-- ITS FALSE NEIGHBOUR: 'it returns false'. Refute it at one input. -/
def fnExactMostWearsWrong : ChangeSpec := { name := "fnExactMostWears", fn := fun _ => fun
  | [d1, d2] => { results := [.lit (.bool false)], args := [d1, d2] }
  | _ => none }
def FnExactMostWearsWrongFalsely : Prop := fnExactMostWearsRow.holds Try.pinned (OpenSpec.ofChange fnExactMostWearsWrong)

/-- 'laws.FnExactDaysOfWear': WHATEVER THE INPUT: true; the input reads as it did. -/
def fnExactDaysOfWearSpec : ChangeSpec := { name := "fnExactDaysOfWear", fn := fun _ => fun
  | [d1, d2, d3] => { results := [.lit (.bool true)], args := [d1, d2, d3] }
  | _ => none }
def fnExactDaysOfWearRow : OpenClaim := { program := "ytkfacfhneooaiaa", sum := "d7f406b37a4d964cf2b442c92eecb39142052be1e72cf747a19b75e7088f9522", func := "loop.example/g01374/laws.FnExactDaysOfWear", spec := "fnExactDaysOfWear", apart := false }
def FnExactDaysOfWearSaid : Prop := fnExactDaysOfWearRow.holds Try.pinned (OpenSpec.ofChange fnExactDaysOfWearSpec)

/-- ITS FALSE NEIGHBOUR: 'it returns false'. Refute it at one input. -/
def fnExactDaysOfWearWrong : ChangeSpec := { name := "fnExactDaysOfWear", fn := fun _ => fun
  | [d1, d2, d3] => { results := [.lit (.bool false)], args := [d1, d2, d3] }
  | _ => none }
def FnExactDaysOfWearWrongFalsely : Prop := fnExactDaysOfWearRow.holds Try.pinned (OpenSpec.ofChange fnExactDaysOfWearWrong)

/-- 'laws.FnExactReachForWears': WHATEVER THE INPUT: true; the input reads as it did. -/
def fnExactReachForWearsSpec : ChangeSpec := { name := "fnExactReachForWears", fn := fun _ => fun
  | [d1, d2] => { results := [.lit (.bool true)], args := [d1, d2] }
  | _ => none }
def fnExactReachForWearsRow : OpenClaim := { program := "ytkfacfhneooaiaa", sum := "d7f406b37a4d964cf2b442c92eecb39142052be1e72cf747a19b75e7088f9522", func := "loop.example/g01374/laws.FnExactReachForWears", spec := "fnExactReachForWears", apart := false }
def FnExactReachForWearsSaid : Prop := fnExactReachForWearsRow.holds Try.pinned (OpenSpec.ofChange fnExactReachForWearsSpec)

/-- ITS FALSE NEIGHBOUR: 'it returns false'. Refute it at one input. -/
def fnExactReachForWearsWrong : ChangeSpec := { name := "fnExactReachForWears", fn := fun _ => fun
  | [d1, d2] => { results := [.lit (.bool false)], args := [d1, d2] }
  | _ => none }
def FnExactReachForWearsWrongFalsely : Prop := fnExactReachForWearsRow.holds Try.pinned (OpenSpec.ofChange fnExactReachForWearsWrong)

/-- 'laws.FnExactIdleBears': WHATEVER THE INPUT: true; the input reads as it did. -/
def fnExactIdleBearsSpec : ChangeSpec := { name := "fnExactIdleBears", fn := fun _ => fun
  | [d1, d2] => { results := [.lit (.bool true)], args := [d1, d2] }
  | _ => none }
def fnExactIdleBearsRow : OpenClaim := { program := "ytkfacfhneooaiaa", sum := "d7f406b37a4d964cf2b442c92eecb39142052be1e72cf747a19b75e7088f9522", func := "loop.example/g01374/laws.FnExactIdleBears", spec := "fnExactIdleBears", apart := false }
def FnExactIdleBearsSaid : Prop := fnExactIdleBearsRow.holds Try.pinned (OpenSpec.ofChange fnExactIdleBearsSpec)

/-- ITS FALSE NEIGHBOUR: 'it returns false'. Refute it at one input. -/
def fnExactIdleBearsWrong : ChangeSpec := { name := "fnExactIdleBears", fn := fun _ => fun
  | [d1, d2] => { results := [.lit (.bool false)], args := [d1, d2] }
  | _ => none }
def FnExactIdleBearsWrongFalsely : Prop := fnExactIdleBearsRow.holds Try.pinned (OpenSpec.ofChange fnExactIdleBearsWrong)

/-- 'laws.FnExactWorstStepToLose': WHATEVER THE INPUT: true; the input reads as it did. -/
def fnExactWorstStepToLoseSpec : ChangeSpec := { name := "fnExactWorstStepToLose", fn := fun _ => fun
  | [d1, d2] => { results := [.lit (.bool true)], args := [d1, d2] }
  | _ => none }
def fnExactWorstStepToLoseRow : OpenClaim := { program := "ytkfacfhneooaiaa", sum := "d7f406b37a4d964cf2b442c92eecb39142052be1e72cf747a19b75e7088f9522", func := "loop.example/g01374/laws.FnExactWorstStepToLose", spec := "fnExactWorstStepToLose", apart := false }
def FnExactWorstStepToLoseSaid : Prop := fnExactWorstStepToLoseRow.holds Try.pinned (OpenSpec.ofChange fnExactWorstStepToLoseSpec)

/-- ITS FALSE NEIGHBOUR: 'it returns false'. Refute it at one input. -/
def fnExactWorstStepToLoseWrong : ChangeSpec := { name := "fnExactWorstStepToLose", fn := fun _ => fun
  | [d1, d2] => { results := [.lit (.bool false)], args := [d1, d2] }
  | _ => none }
def FnExactWorstStepToLoseWrongFalsely : Prop := fnExactWorstStepToLoseRow.holds Try.pinned (OpenSpec.ofChange fnExactWorstStepToLoseWrong)

/-- 'laws.FnExactMendSum': WHATEVER THE INPUT: true; the input reads as it did. -/
def fnExactMendSumSpec : ChangeSpec := { name := "fnExactMendSum", fn := fun _ => fun
  | [d1, d2, d3] => { results := [.lit (.bool true)], args := [d1, d2, d3] }
  | _ => none }
def fnExactMendSumRow : OpenClaim := { program := "ytkfacfhneooaiaa", sum := "d7f406b37a4d964cf2b442c92eecb39142052be1e72cf747a19b75e7088f9522", func := "loop.example/g01374/laws.FnExactMendSum", spec := "fnExactMendSum", apart := false }
def FnExactMendSumSaid : Prop := fnExactMendSumRow.holds Try.pinned (OpenSpec.ofChange fnExactMendSumSpec)

/-- ITS FALSE NEIGHBOUR: 'it returns false'. Refute it at one input. -/
def fnExactMendSumWrong : ChangeSpec := { name := "fnExactMendSum", fn := fun _ => fun
  | [d1, d2, d3] => { results := [.lit (.bool false)], args := [d1, d2, d3] }
  | _ => none }
def FnExactMendSumWrongFalsely : Prop := fnExactMendSumRow.holds Try.pinned (OpenSpec.ofChange fnExactMendSumWrong)

/-- 'laws.FnExactLateMend': WHATEVER THE INPUT: true; the input reads as it did. -/
def fnExactLateMendSpec : ChangeSpec := { name := "fnExactLateMend", fn := fun _ => fun
  | [d1, d2, d3] => { results := [.lit (.bool true)], args := [d1, d2, d3] }
  | _ => none }
def fnExactLateMendRow : OpenClaim := { program := "ytkfacfhneooaiaa", sum := "d7f406b37a4d964cf2b442c92eecb39142052be1e72cf747a19b75e7088f9522", func := "loop.example/g01374/laws.FnExactLateMend", spec := "fnExactLateMend", apart := false }
def FnExactLateMendSaid : Prop := fnExactLateMendRow.holds Try.pinned (OpenSpec.ofChange fnExactLateMendSpec)

/-- ITS FALSE NEIGHBOUR: 'it returns false'. Refute it at one input. -/
def fnExactLateMendWrong : ChangeSpec := { name := "fnExactLateMend", fn := fun _ => fun
  | [d1, d2, d3] => { results := [.lit (.bool false)], args := [d1, d2, d3] }
  | _ => none }
def FnExactLateMendWrongFalsely : Prop := fnExactLateMendRow.holds Try.pinned (OpenSpec.ofChange fnExactLateMendWrong)

/-- 'laws.FnExactWearBy': WHATEVER THE INPUT: true; the input reads as it did. -/
def fnExactWearBySpec : ChangeSpec := { name := "fnExactWearBy", fn := fun _ => fun
  | [d1, d2, d3] => { results := [.lit (.bool true)], args := [d1, d2, d3] }
  | _ => none }
def fnExactWearByRow : OpenClaim := { program := "ytkfacfhneooaiaa", sum := "d7f406b37a4d964cf2b442c92eecb39142052be1e72cf747a19b75e7088f9522", func := "loop.example/g01374/laws.FnExactWearBy", spec := "fnExactWearBy", apart := false }
def FnExactWearBySaid : Prop := fnExactWearByRow.holds Try.pinned (OpenSpec.ofChange fnExactWearBySpec)

/-- ITS FALSE NEIGHBOUR: 'it returns false'. Refute it at one input. -/
def fnExactWearByWrong : ChangeSpec := { name := "fnExactWearBy", fn := fun _ => fun
  | [d1, d2, d3] => { results := [.lit (.bool false)], args := [d1, d2, d3] }
  | _ => none }
def FnExactWearByWrongFalsely : Prop := fnExactWearByRow.holds Try.pinned (OpenSpec.ofChange fnExactWearByWrong)

/-- 'laws.FnExactFirstWearClimb': WHATEVER THE INPUT: true; the input reads as it did. -/
def fnExactFirstWearClimbSpec : ChangeSpec := { name := "fnExactFirstWearClimb", fn := fun _ => fun
  | [d1, d2] => { results := [.lit (.bool true)], args := [d1, d2] }
  | _ => none }
def fnExactFirstWearClimbRow : OpenClaim := { program := "ytkfacfhneooaiaa", sum := "d7f406b37a4d964cf2b442c92eecb39142052be1e72cf747a19b75e7088f9522", func := "loop.example/g01374/laws.FnExactFirstWearClimb", spec := "fnExactFirstWearClimb", apart := false }
def FnExactFirstWearClimbSaid : Prop := fnExactFirstWearClimbRow.holds Try.pinned (OpenSpec.ofChange fnExactFirstWearClimbSpec)

/-- ITS FALSE NEIGHBOUR: 'it returns false'. Refute it at one input. -/
def fnExactFirstWearClimbWrong : ChangeSpec := { name := "fnExactFirstWearClimb", fn := fun _ => fun
  | [d1, d2] => { results := [.lit (.bool false)], args := [d1, d2] }
  | _ => none }
def FnExactFirstWearClimbWrongFalsely : Prop := fnExactFirstWearClimbRow.holds Try.pinned (OpenSpec.ofChange fnExactFirstWearClimbWrong)

/-- 'laws.FnExactCountWearClimbs': WHATEVER THE INPUT: true; the input reads as it did. -/
def fnExactCountWearClimbsSpec : ChangeSpec := { name := "fnExactCountWearClimbs", fn := fun _ => fun
  | [d1, d2] => { results := [.lit (.bool true)], args := [d1, d2] }
  | _ => none }
def fnExactCountWearClimbsRow : OpenClaim := { program := "ytkfacfhneooaiaa", sum := "d7f406b37a4d964cf2b442c92eecb39142052be1e72cf747a19b75e7088f9522", func := "loop.example/g01374/laws.FnExactCountWearClimbs", spec := "fnExactCountWearClimbs", apart := false }
def FnExactCountWearClimbsSaid : Prop := fnExactCountWearClimbsRow.holds Try.pinned (OpenSpec.ofChange fnExactCountWearClimbsSpec)

/-- ITS FALSE NEIGHBOUR: 'it returns false'. Refute it at one input. -/
def fnExactCountWearClimbsWrong : ChangeSpec := { name := "fnExactCountWearClimbs", fn := fun _ => fun
  | [d1, d2] => { results := [.lit (.bool false)], args := [d1, d2] }
  | _ => none }
def FnExactCountWearClimbsWrongFalsely : Prop := fnExactCountWearClimbsRow.holds Try.pinned (OpenSpec.ofChange fnExactCountWearClimbsWrong)

/- THE SECOND FORM. 'bulk': how many values and letters a reading holds, each counted each time it is reached (what is shared counts as often as it is met; a slice's spare places count too). A statement '..UptoSaid' is the law's where the arguments, and the package variables that the reading takes, are together of bulk at most 1048576: NARROWER than '..Said'. Prove '..Said' where nothing that the law and all that it calls make is longer than what came in: it says more and counts as full. Else prove '..UptoSaid'. A law counts once. -/
mutual
def uptoBulk {H : Type} : DataW H → Nat
  | .lit (.string bytes) => bytes.length + 1
  | .lit _ => 1
  | .nil => 1
  | .ptr d => uptoBulk d + 1
  | .slice elems spare => uptoBulkAll elems + uptoBulkAll spare + 1
  | .agg parts => uptoBulkAll parts + 1
  | .iface _ d => uptoBulk d + 1
  | .map entries => uptoBulkEntries entries + 1
  | .held _ => 1
def uptoBulkAll {H : Type} : List (DataW H) → Nat
  | [] => 0
  | d :: r => uptoBulk d + uptoBulkAll r
def uptoBulkEntries {H : Type} : List (Lit × DataW H) → Nat
  | [] => 0
  | x :: r => uptoBulkEntry x + uptoBulkEntries r
def uptoBulkEntry {H : Type} : Lit × DataW H → Nat
  | (.string bytes, d) => bytes.length + uptoBulk d + 1
  | (_, d) => uptoBulk d + 1
 end
def uptoSmall : (H : Type) → List (DataW H) → Bool := fun _ ds => decide (uptoBulkAll ds ≤ 1048576)
def OpenSpec.upto (s : _root_.Go.ChangeSpec) : _root_.Go.OpenSpec := { _root_.Go.OpenSpec.ofChange s with cond := some uptoSmall }

/-- 'laws.FnExactPartsOfBears', WHERE WHAT IT READS IS OF BULK AT MOST 1048576: true; the input reads as it did. -/
def fnExactPartsOfBearsUptoRow : OpenClaim := { program := "ytkfacfhneooaiaa", sum := "d7f406b37a4d964cf2b442c92eecb39142052be1e72cf747a19b75e7088f9522", func := "loop.example/g01374/laws.FnExactPartsOfBears", spec := "fnExactPartsOfBears", apart := false, narrowed := true }
def FnExactPartsOfBearsUptoSaid : Prop := fnExactPartsOfBearsUptoRow.holds Try.pinned (OpenSpec.upto fnExactPartsOfBearsSpec)

/-- 'laws.FnExactWeakestPart', WHERE WHAT IT READS IS OF BULK AT MOST 1048576: true; the input reads as it did. -/
def fnExactWeakestPartUptoRow : OpenClaim := { program := "ytkfacfhneooaiaa", sum := "d7f406b37a4d964cf2b442c92eecb39142052be1e72cf747a19b75e7088f9522", func := "loop.example/g01374/laws.FnExactWeakestPart", spec := "fnExactWeakestPart", apart := false, narrowed := true }
def FnExactWeakestPartUptoSaid : Prop := fnExactWeakestPartUptoRow.holds Try.pinned (OpenSpec.upto fnExactWeakestPartSpec)

/-- 'laws.FnExactMostWears', WHERE WHAT IT READS IS OF BULK AT MOST 1048576: true; the input reads as it did. -/
def fnExactMostWearsUptoRow : OpenClaim := { program := "ytkfacfhneooaiaa", sum := "d7f406b37a4d964cf2b442c92eecb39142052be1e72cf747a19b75e7088f9522", func := "loop.example/g01374/laws.FnExactMostWears", spec := "fnExactMostWears", apart := false, narrowed := true }
def FnExactMostWearsUptoSaid : Prop := fnExactMostWearsUptoRow.holds Try.pinned (OpenSpec.upto fnExactMostWearsSpec)

/-- 'laws.FnExactDaysOfWear', WHERE WHAT IT READS IS OF BULK AT MOST 1048576: true; the input reads as it did. -/
def fnExactDaysOfWearUptoRow : OpenClaim := { program := "ytkfacfhneooaiaa", sum := "d7f406b37a4d964cf2b442c92eecb39142052be1e72cf747a19b75e7088f9522", func := "loop.example/g01374/laws.FnExactDaysOfWear", spec := "fnExactDaysOfWear", apart := false, narrowed := true }
def FnExactDaysOfWearUptoSaid : Prop := fnExactDaysOfWearUptoRow.holds Try.pinned (OpenSpec.upto fnExactDaysOfWearSpec)

/-- 'laws.FnExactReachForWears', WHERE WHAT IT READS IS OF BULK AT MOST 1048576: true; the input reads as it did. -/
def fnExactReachForWearsUptoRow : OpenClaim := { program := "ytkfacfhneooaiaa", sum := "d7f406b37a4d964cf2b442c92eecb39142052be1e72cf747a19b75e7088f9522", func := "loop.example/g01374/laws.FnExactReachForWears", spec := "fnExactReachForWears", apart := false, narrowed := true }
def FnExactReachForWearsUptoSaid : Prop := fnExactReachForWearsUptoRow.holds Try.pinned (OpenSpec.upto fnExactReachForWearsSpec)

/-- 'laws.FnExactIdleBears', WHERE WHAT IT READS IS OF BULK AT MOST 1048576: true; the input reads as it did. -/
def fnExactIdleBearsUptoRow : OpenClaim := { program := "ytkfacfhneooaiaa", sum := "d7f406b37a4d964cf2b442c92eecb39142052be1e72cf747a19b75e7088f9522", func := "loop.example/g01374/laws.FnExactIdleBears", spec := "fnExactIdleBears", apart := false, narrowed := true }
def FnExactIdleBearsUptoSaid : Prop := fnExactIdleBearsUptoRow.holds Try.pinned (OpenSpec.upto fnExactIdleBearsSpec)

/-- 'laws.FnExactWorstStepToLose', WHERE WHAT IT READS IS OF BULK AT MOST 1048576: true; the input reads as it did. -/
def fnExactWorstStepToLoseUptoRow : OpenClaim := { program := "ytkfacfhneooaiaa", sum := "d7f406b37a4d964cf2b442c92eecb39142052be1e72cf747a19b75e7088f9522", func := "loop.example/g01374/laws.FnExactWorstStepToLose", spec := "fnExactWorstStepToLose", apart := false, narrowed := true }
def FnExactWorstStepToLoseUptoSaid : Prop := fnExactWorstStepToLoseUptoRow.holds Try.pinned (OpenSpec.upto fnExactWorstStepToLoseSpec)

/-- 'laws.FnExactMendSum', WHERE WHAT IT READS IS OF BULK AT MOST 1048576: true; the input reads as it did. -/
def fnExactMendSumUptoRow : OpenClaim := { program := "ytkfacfhneooaiaa", sum := "d7f406b37a4d964cf2b442c92eecb39142052be1e72cf747a19b75e7088f9522", func := "loop.example/g01374/laws.FnExactMendSum", spec := "fnExactMendSum", apart := false, narrowed := true }
def FnExactMendSumUptoSaid : Prop := fnExactMendSumUptoRow.holds Try.pinned (OpenSpec.upto fnExactMendSumSpec)

/-- 'laws.FnExactLateMend', WHERE WHAT IT READS IS OF BULK AT MOST 1048576: true; the input reads as it did. -/
def fnExactLateMendUptoRow : OpenClaim := { program := "ytkfacfhneooaiaa", sum := "d7f406b37a4d964cf2b442c92eecb39142052be1e72cf747a19b75e7088f9522", func := "loop.example/g01374/laws.FnExactLateMend", spec := "fnExactLateMend", apart := false, narrowed := true }
def FnExactLateMendUptoSaid : Prop := fnExactLateMendUptoRow.holds Try.pinned (OpenSpec.upto fnExactLateMendSpec)

/-- 'laws.FnExactWearBy', WHERE WHAT IT READS IS OF BULK AT MOST 1048576: true; the input reads as it did. -/
def fnExactWearByUptoRow : OpenClaim := { program := "ytkfacfhneooaiaa", sum := "d7f406b37a4d964cf2b442c92eecb39142052be1e72cf747a19b75e7088f9522", func := "loop.example/g01374/laws.FnExactWearBy", spec := "fnExactWearBy", apart := false, narrowed := true }
def FnExactWearByUptoSaid : Prop := fnExactWearByUptoRow.holds Try.pinned (OpenSpec.upto fnExactWearBySpec)

/-- 'laws.FnExactFirstWearClimb', WHERE WHAT IT READS IS OF BULK AT MOST 1048576: true; the input reads as it did. -/
def fnExactFirstWearClimbUptoRow : OpenClaim := { program := "ytkfacfhneooaiaa", sum := "d7f406b37a4d964cf2b442c92eecb39142052be1e72cf747a19b75e7088f9522", func := "loop.example/g01374/laws.FnExactFirstWearClimb", spec := "fnExactFirstWearClimb", apart := false, narrowed := true }
def FnExactFirstWearClimbUptoSaid : Prop := fnExactFirstWearClimbUptoRow.holds Try.pinned (OpenSpec.upto fnExactFirstWearClimbSpec)

/-- 'laws.FnExactCountWearClimbs', WHERE WHAT IT READS IS OF BULK AT MOST 1048576: true; the input reads as it did. -/
def fnExactCountWearClimbsUptoRow : OpenClaim := { program := "ytkfacfhneooaiaa", sum := "d7f406b37a4d964cf2b442c92eecb39142052be1e72cf747a19b75e7088f9522", func := "loop.example/g01374/laws.FnExactCountWearClimbs", spec := "fnExactCountWearClimbs", apart := false, narrowed := true }
def FnExactCountWearClimbsUptoSaid : Prop := fnExactCountWearClimbsUptoRow.holds Try.pinned (OpenSpec.upto fnExactCountWearClimbsSpec)

end Rows
end Go.Proofs.Ytkfacfhneooaiaa
