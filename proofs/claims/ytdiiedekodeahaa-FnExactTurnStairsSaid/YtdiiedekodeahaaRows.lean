/-
  No cell of these rows narrows 'for every input' (looked for: loops, veiled, ifaces, maps, wideKeys, modest, calm, conditions, laid).
  DERIVED. THE GIVEN ROWS OF THIS SEAT. 6 by the template 'for every input the law returns true; each argument reads behind the call as it read before'; 0 by the template 'total and deterministic' (their statements: YtdiiedekodeahaaTotals.lean).
  GIVEN WITH THE SEED: the statements are not yours to turn. If you find one false, say at which input.
  Laid BY PROGRAM, IN A SANDBOX (cutbox-rows.mjs): the forced cells as the released guide's own fill.sh prints them over the translation 04905c676b9d9334… (all of the seat's roots in one cut). By AI agents, Wed Nov 11 2026. No macro, syntax, notation, axiom, sorry.
-/
import Derived.Test.YtdiiedekodeahaaChecked
import GoSem.Claim
import GoSem.ClaimJoined
import GoSem.ClaimMapViews
import Derived.JoinedTies
import Derived.KernelRfl
namespace Go.Proofs.Ytdiiedekodeahaa
/- THE CELL 'sum', in the pinned program and in every row, IS THE sha256 OF THE DUMP (.gsa) THAT YtdiiedekodeahaaProg.lean LOADS. Nothing in Lean hashes anything: it is a label: what it is worth is what the hold of that sum in a sandbox is worth. -/
noncomputable def Try.pinned : Pinned := { name := "ytdiiedekodeahaa", sum := "04905c676b9d9334d8a00b25a9c12929c2c57d0f3e0cf7ce8e0c510279b07b1a", checked := Try.checked }
namespace Rows
def none {H : Type} : Left H := { results := [], args := [] }

/-- 'laws.FnExactAreStairs': WHATEVER THE INPUT: true; the input reads as it did. -/
def fnExactAreStairsSpec : ChangeSpec := { name := "fnExactAreStairs", fn := fun _ => fun
  | [d] => { results := [.lit (.bool true)], args := [d] }
  | _ => none }
def fnExactAreStairsRow : OpenClaim := { program := "ytdiiedekodeahaa", sum := "04905c676b9d9334d8a00b25a9c12929c2c57d0f3e0cf7ce8e0c510279b07b1a", func := "loop.example/g01374/laws.FnExactAreStairs", spec := "fnExactAreStairs", apart := false }
def FnExactAreStairsSaid : Prop := fnExactAreStairsRow.holds Try.pinned (OpenSpec.ofChange fnExactAreStairsSpec)

/-- ITS FALSE NEIGHBOUR: 'it returns false'. Refute it at one input. -/
def fnExactAreStairsWrong : ChangeSpec := { name := "fnExactAreStairs", fn := fun _ => fun
  | [d] => { results := [.lit (.bool false)], args := [d] }
  | _ => none }
def FnExactAreStairsWrongFalsely : Prop := fnExactAreStairsRow.holds Try.pinned (OpenSpec.ofChange fnExactAreStairsWrong)

/-- 'laws.FnExactIsClimb': WHATEVER THE INPUT: true; the input reads as it did. -/
def fnExactIsClimbSpec : ChangeSpec := { name := "fnExactIsClimb", fn := fun _ => fun
  | [d1, d2] => { results := [.lit (.bool true)], args := [d1, d2] }
  | _ => none }
def fnExactIsClimbRow : OpenClaim := { program := "ytdiiedekodeahaa", sum := "04905c676b9d9334d8a00b25a9c12929c2c57d0f3e0cf7ce8e0c510279b07b1a", func := "loop.example/g01374/laws.FnExactIsClimb", spec := "fnExactIsClimb", apart := false }
def FnExactIsClimbSaid : Prop := fnExactIsClimbRow.holds Try.pinned (OpenSpec.ofChange fnExactIsClimbSpec)

/-- ITS FALSE NEIGHBOUR: 'it returns false'. Refute it at one input. -/
def fnExactIsClimbWrong : ChangeSpec := { name := "fnExactIsClimb", fn := fun _ => fun
  | [d1, d2] => { results := [.lit (.bool false)], args := [d1, d2] }
  | _ => none }
def FnExactIsClimbWrongFalsely : Prop := fnExactIsClimbRow.holds Try.pinned (OpenSpec.ofChange fnExactIsClimbWrong)

/-- 'laws.FnExactStepsOfClimb': WHATEVER THE INPUT: true; the input reads as it did. -/
def fnExactStepsOfClimbSpec : ChangeSpec := { name := "fnExactStepsOfClimb", fn := fun _ => fun
  | [d1, d2] => { results := [.lit (.bool true)], args := [d1, d2] }
  | _ => none }
def fnExactStepsOfClimbRow : OpenClaim := { program := "ytdiiedekodeahaa", sum := "04905c676b9d9334d8a00b25a9c12929c2c57d0f3e0cf7ce8e0c510279b07b1a", func := "loop.example/g01374/laws.FnExactStepsOfClimb", spec := "fnExactStepsOfClimb", apart := false }
def FnExactStepsOfClimbSaid : Prop := fnExactStepsOfClimbRow.holds Try.pinned (OpenSpec.ofChange fnExactStepsOfClimbSpec)

/-- ITS FALSE NEIGHBOUR: 'it returns false'. Refute it at one input. -/
def fnExactStepsOfClimbWrong : ChangeSpec := { name := "fnExactStepsOfClimb", fn := fun _ => fun
  | [d1, d2] => { results := [.lit (.bool false)], args := [d1, d2] }
  | _ => none }
def FnExactStepsOfClimbWrongFalsely : Prop := fnExactStepsOfClimbRow.holds Try.pinned (OpenSpec.ofChange fnExactStepsOfClimbWrong)

/-- 'laws.FnExactBreakStep': WHATEVER THE INPUT: true; the input reads as it did. -/
def fnExactBreakStepSpec : ChangeSpec := { name := "fnExactBreakStep", fn := fun _ => fun
  | [d1, d2] => { results := [.lit (.bool true)], args := [d1, d2] }
  | _ => none }
def fnExactBreakStepRow : OpenClaim := { program := "ytdiiedekodeahaa", sum := "04905c676b9d9334d8a00b25a9c12929c2c57d0f3e0cf7ce8e0c510279b07b1a", func := "loop.example/g01374/laws.FnExactBreakStep", spec := "fnExactBreakStep", apart := false }
def FnExactBreakStepSaid : Prop := fnExactBreakStepRow.holds Try.pinned (OpenSpec.ofChange fnExactBreakStepSpec)

/-- ITS FALSE NEIGHBOUR: 'it returns false'. Refute it at one input. -/
def fnExactBreakStepWrong : ChangeSpec := { name := "fnExactBreakStep", fn := fun _ => fun
  | [d1, d2] => { results := [.lit (.bool false)], args := [d1, d2] }
  | _ => none }
def FnExactBreakStepWrongFalsely : Prop := fnExactBreakStepRow.holds Try.pinned (OpenSpec.ofChange fnExactBreakStepWrong)

/-- 'laws.FnExactMendStep': WHATEVER THE INPUT: true; the input reads as it did. -/
def fnExactMendStepSpec : ChangeSpec := { name := "fnExactMendStep", fn := fun _ => fun
  | [d1, d2] => { results := [.lit (.bool true)], args := [d1, d2] }
  | _ => none }
def fnExactMendStepRow : OpenClaim := { program := "ytdiiedekodeahaa", sum := "04905c676b9d9334d8a00b25a9c12929c2c57d0f3e0cf7ce8e0c510279b07b1a", func := "loop.example/g01374/laws.FnExactMendStep", spec := "fnExactMendStep", apart := false }
def FnExactMendStepSaid : Prop := fnExactMendStepRow.holds Try.pinned (OpenSpec.ofChange fnExactMendStepSpec)

/-- ITS FALSE NEIGHBOUR: 'it returns false'. Refute it at one input. -/
def fnExactMendStepWrong : ChangeSpec := { name := "fnExactMendStep", fn := fun _ => fun
  | [d1, d2] => { results := [.lit (.bool false)], args := [d1, d2] }
  | _ => none }
def FnExactMendStepWrongFalsely : Prop := fnExactMendStepRow.holds Try.pinned (OpenSpec.ofChange fnExactMendStepWrong)

/-- 'laws.FnExactTurnStairs': WHATEVER THE INPUT: true; the input reads as it did. -/
def fnExactTurnStairsSpec : ChangeSpec := { name := "fnExactTurnStairs", fn := fun _ => fun
  | [d] => { results := [.lit (.bool true)], args := [d] }
  | _ => none }
def fnExactTurnStairsRow : OpenClaim := { program := "ytdiiedekodeahaa", sum := "04905c676b9d9334d8a00b25a9c12929c2c57d0f3e0cf7ce8e0c510279b07b1a", func := "loop.example/g01374/laws.FnExactTurnStairs", spec := "fnExactTurnStairs", apart := false }
def FnExactTurnStairsSaid : Prop := fnExactTurnStairsRow.holds Try.pinned (OpenSpec.ofChange fnExactTurnStairsSpec)

/-- ITS FALSE NEIGHBOUR: 'it returns false'. Refute it at one input. -/
def fnExactTurnStairsWrong : ChangeSpec := { name := "fnExactTurnStairs", fn := fun _ => fun
  | [d] => { results := [.lit (.bool false)], args := [d] }
  | _ => none }
def FnExactTurnStairsWrongFalsely : Prop := fnExactTurnStairsRow.holds Try.pinned (OpenSpec.ofChange fnExactTurnStairsWrong)

/- THE SECOND FORM. 'bulk': how many values and letters a reading holds, each counted each time it is reached (what is shared counts as often as it is met; a slice's spare places count too). A statement '..UptoSaid' is the law's where the arguments, and the package variables that the reading takes, are together of bulk at most 1048576: NARROWER than '..Said'. Prove '..Said' where nothing that the law and all that it calls make is longer than what came in: it says more and counts as full. Else prove '..UptoSaid'. A law counts once. -/
mutual
def uptoBulk {H : Type} : DataW H → Nat
  | .lit (.string bytes) => bytes.length + 1
  | .lit _ => 1
  | .nil => 1
  | .ptr d => uptoBulk d + 1
  | .slice elems spare => uptoBulkAll elems + uptoBulkAll spare + 1
  | .agg parts => uptoBulkAll parts + 1
  | .iface _ d => uptoBulk d + 1
  | .map entries => uptoBulkEntries entries + 1
  | .held _ => 1
def uptoBulkAll {H : Type} : List (DataW H) → Nat
  | [] => 0
  | d :: r => uptoBulk d + uptoBulkAll r
def uptoBulkEntries {H : Type} : List (Lit × DataW H) → Nat
  | [] => 0
  | x :: r => uptoBulkEntry x + uptoBulkEntries r
def uptoBulkEntry {H : Type} : Lit × DataW H → Nat
  | (.string bytes, d) => bytes.length + uptoBulk d + 1
  | (_, d) => uptoBulk d + 1
 end
def uptoSmall : (H : Type) → List (DataW H) → Bool := fun _ ds => decide (uptoBulkAll ds ≤ 1048576)
def OpenSpec.upto (s : _root_.Go.ChangeSpec) : _root_.Go.OpenSpec := { _root_.Go.OpenSpec.ofChange s with cond := some uptoSmall }

/-- 'laws.FnExactAreStairs', WHERE WHAT IT READS IS OF BULK AT MOST 1048576: true; the input reads as it did. -/
def fnExactAreStairsUptoRow : OpenClaim := { program := "ytdiiedekodeahaa", sum := "04905c676b9d9334d8a00b25a9c12929c2c57d0f3e0cf7ce8e0c510279b07b1a", func := "loop.example/g01374/laws.FnExactAreStairs", spec := "fnExactAreStairs", apart := false, narrowed := true }
def FnExactAreStairsUptoSaid : Prop := fnExactAreStairsUptoRow.holds Try.pinned (OpenSpec.upto fnExactAreStairsSpec)

/-- 'laws.FnExactIsClimb', WHERE WHAT IT READS IS OF BULK AT MOST 1048576: true; the input reads as it did. -/
def fnExactIsClimbUptoRow : OpenClaim := { program := "ytdiiedekodeahaa", sum := "04905c676b9d9334d8a00b25a9c12929c2c57d0f3e0cf7ce8e0c510279b07b1a", func := "loop.example/g01374/laws.FnExactIsClimb", spec := "fnExactIsClimb", apart := false, narrowed := true }
def FnExactIsClimbUptoSaid : Prop := fnExactIsClimbUptoRow.holds Try.pinned (OpenSpec.upto fnExactIsClimbSpec)

/-- 'laws.FnExactStepsOfClimb', WHERE WHAT IT READS IS OF BULK AT MOST 1048576: true; the input reads as it did. -/
def fnExactStepsOfClimbUptoRow : OpenClaim := { program := "ytdiiedekodeahaa", sum := "04905c676b9d9334d8a00b25a9c12929c2c57d0f3e0cf7ce8e0c510279b07b1a", func := "loop.example/g01374/laws.FnExactStepsOfClimb", spec := "fnExactStepsOfClimb", apart := false, narrowed := true }
def FnExactStepsOfClimbUptoSaid : Prop := fnExactStepsOfClimbUptoRow.holds Try.pinned (OpenSpec.upto fnExactStepsOfClimbSpec)

/-- 'laws.FnExactBreakStep', WHERE WHAT IT READS IS OF BULK AT MOST 1048576: true; the input reads as it did. -/
def fnExactBreakStepUptoRow : OpenClaim := { program := "ytdiiedekodeahaa", sum := "04905c676b9d9334d8a00b25a9c12929c2c57d0f3e0cf7ce8e0c510279b07b1a", func := "loop.example/g01374/laws.FnExactBreakStep", spec := "fnExactBreakStep", apart := false, narrowed := true }
def FnExactBreakStepUptoSaid : Prop := fnExactBreakStepUptoRow.holds Try.pinned (OpenSpec.upto fnExactBreakStepSpec)

/-- 'laws.FnExactMendStep', WHERE WHAT IT READS IS OF BULK AT MOST 1048576: true; the input reads as it did. -/
def fnExactMendStepUptoRow : OpenClaim := { program := "ytdiiedekodeahaa", sum := "04905c676b9d9334d8a00b25a9c12929c2c57d0f3e0cf7ce8e0c510279b07b1a", func := "loop.example/g01374/laws.FnExactMendStep", spec := "fnExactMendStep", apart := false, narrowed := true }
def FnExactMendStepUptoSaid : Prop := fnExactMendStepUptoRow.holds Try.pinned (OpenSpec.upto fnExactMendStepSpec)

/-- 'laws.FnExactTurnStairs', WHERE WHAT IT READS IS OF BULK AT MOST 1048576: true; the input reads as it did. -/
def fnExactTurnStairsUptoRow : OpenClaim := { program := "ytdiiedekodeahaa", sum := "04905c676b9d9334d8a00b25a9c12929c2c57d0f3e0cf7ce8e0c510279b07b1a", func := "loop.example/g01374/laws.FnExactTurnStairs", spec := "fnExactTurnStairs", apart := false, narrowed := true }
def FnExactTurnStairsUptoSaid : Prop := fnExactTurnStairsUptoRow.holds Try.pinned (OpenSpec.upto fnExactTurnStairsSpec)

end Rows
end Go.Proofs.Ytdiiedekodeahaa
