/-
  No cell of these rows narrows 'for every input' (looked for: loops, veiled, ifaces, maps, wideKeys, modest, calm, conditions, laid).
  DERIVED. THE GIVEN ROWS OF THIS SEAT. 10 by the template 'for every input the law returns true; each argument reads behind the call as it read before'; 0 by the template 'total and deterministic' (their statements: YtdkmpclghfkfbaaTotals.lean).
  GIVEN WITH THE SEED: the statements are not yours to turn. If you find one false, say at which input.
  Laid BY PROGRAM, IN A SANDBOX (cutbox-rows.mjs): the forced cells as the released guide's own fill.sh prints them over the translation 309bbc408ea43a75… (all of the seat's roots in one cut). By AI agents, Wed Nov 11 2026. No macro, syntax, notation, axiom, sorry.
-/
import Derived.Test.YtdkmpclghfkfbaaChecked
import GoSem.Claim
import GoSem.ClaimJoined
import GoSem.ClaimMapViews
import Derived.JoinedTies
import Derived.KernelRfl
namespace Go.Proofs.Ytdkmpclghfkfbaa
/- THE CELL 'sum', in the pinned program and in every row, IS THE sha256 OF THE DUMP (.gsa) THAT YtdkmpclghfkfbaaProg.lean LOADS. Nothing in Lean hashes anything: it is a label: what it is worth is what the hold of that sum in a sandbox is worth. -/
noncomputable def Try.pinned : Pinned := { name := "ytdkmpclghfkfbaa", sum := "309bbc408ea43a758a38426f35efb2388b4f4ec6e513e918caeb7a599fd4de56", checked := Try.checked }
namespace Rows
def none {H : Type} : Left H := { results := [], args := [] }

/-- 'laws.FnExactAreBears': WHATEVER THE INPUT: true; the input reads as it did. -/
def fnExactAreBearsSpec : ChangeSpec := { name := "fnExactAreBears", fn := fun _ => fun
  | [d] => { results := [.lit (.bool true)], args := [d] }
  | _ => none }
def fnExactAreBearsRow : OpenClaim := { program := "ytdkmpclghfkfbaa", sum := "309bbc408ea43a758a38426f35efb2388b4f4ec6e513e918caeb7a599fd4de56", func := "loop.example/g01374/laws.FnExactAreBears", spec := "fnExactAreBears", apart := false }
def FnExactAreBearsSaid : Prop := fnExactAreBearsRow.holds Try.pinned (OpenSpec.ofChange fnExactAreBearsSpec)

/-- ITS FALSE NEIGHBOUR: 'it returns false'. Refute it at one input. -/
def fnExactAreBearsWrong : ChangeSpec := { name := "fnExactAreBears", fn := fun _ => fun
  | [d] => { results := [.lit (.bool false)], args := [d] }
  | _ => none }
def FnExactAreBearsWrongFalsely : Prop := fnExactAreBearsRow.holds Try.pinned (OpenSpec.ofChange fnExactAreBearsWrong)

/-- 'laws.FnExactStrongestStep': WHATEVER THE INPUT: true; the input reads as it did. -/
def fnExactStrongestStepSpec : ChangeSpec := { name := "fnExactStrongestStep", fn := fun _ => fun
  | [d] => { results := [.lit (.bool true)], args := [d] }
  | _ => none }
def fnExactStrongestStepRow : OpenClaim := { program := "ytdkmpclghfkfbaa", sum := "309bbc408ea43a758a38426f35efb2388b4f4ec6e513e918caeb7a599fd4de56", func := "loop.example/g01374/laws.FnExactStrongestStep", spec := "fnExactStrongestStep", apart := false }
def FnExactStrongestStepSaid : Prop := fnExactStrongestStepRow.holds Try.pinned (OpenSpec.ofChange fnExactStrongestStepSpec)

/-- ITS FALSE NEIGHBOUR: 'it returns false'. Refute it at one input. -/
def fnExactStrongestStepWrong : ChangeSpec := { name := "fnExactStrongestStep", fn := fun _ => fun
  | [d] => { results := [.lit (.bool false)], args := [d] }
  | _ => none }
def FnExactStrongestStepWrongFalsely : Prop := fnExactStrongestStepRow.holds Try.pinned (OpenSpec.ofChange fnExactStrongestStepWrong)

/-- 'laws.FnExactTurnBears': WHATEVER THE INPUT: true; the input reads as it did. -/
def fnExactTurnBearsSpec : ChangeSpec := { name := "fnExactTurnBears", fn := fun _ => fun
  | [d] => { results := [.lit (.bool true)], args := [d] }
  | _ => none }
def fnExactTurnBearsRow : OpenClaim := { program := "ytdkmpclghfkfbaa", sum := "309bbc408ea43a758a38426f35efb2388b4f4ec6e513e918caeb7a599fd4de56", func := "loop.example/g01374/laws.FnExactTurnBears", spec := "fnExactTurnBears", apart := false }
def FnExactTurnBearsSaid : Prop := fnExactTurnBearsRow.holds Try.pinned (OpenSpec.ofChange fnExactTurnBearsSpec)

/-- ITS FALSE NEIGHBOUR: 'it returns false'. Refute it at one input. -/
def fnExactTurnBearsWrong : ChangeSpec := { name := "fnExactTurnBears", fn := fun _ => fun
  | [d] => { results := [.lit (.bool false)], args := [d] }
  | _ => none }
def FnExactTurnBearsWrongFalsely : Prop := fnExactTurnBearsRow.holds Try.pinned (OpenSpec.ofChange fnExactTurnBearsWrong)

/-- 'laws.FnExactDaysOfWear': WHATEVER THE INPUT: true; the input reads as it did. -/
def fnExactDaysOfWearSpec : ChangeSpec := { name := "fnExactDaysOfWear", fn := fun _ => fun
  | [d1, d2, d3] => { results := [.lit (.bool true)], args := [d1, d2, d3] }
  | _ => none }
def fnExactDaysOfWearRow : OpenClaim := { program := "ytdkmpclghfkfbaa", sum := "309bbc408ea43a758a38426f35efb2388b4f4ec6e513e918caeb7a599fd4de56", func := "loop.example/g01374/laws.FnExactDaysOfWear", spec := "fnExactDaysOfWear", apart := false }
def FnExactDaysOfWearSaid : Prop := fnExactDaysOfWearRow.holds Try.pinned (OpenSpec.ofChange fnExactDaysOfWearSpec)

/-- ITS FALSE NEIGHBOUR: 'it returns false'. Refute it at one input. -/
def fnExactDaysOfWearWrong : ChangeSpec := { name := "fnExactDaysOfWear", fn := fun _ => fun
  | [d1, d2, d3] => { results := [.lit (.bool false)], args := [d1, d2, d3] }
  | _ => none }
def FnExactDaysOfWearWrongFalsely : Prop := fnExactDaysOfWearRow.holds Try.pinned (OpenSpec.ofChange fnExactDaysOfWearWrong)

/-- 'laws.FnExactMostWears': WHATEVER THE INPUT: true; the input reads as it did. -/
def fnExactMostWearsSpec : ChangeSpec := { name := "fnExactMostWears", fn := fun _ => fun
  | [d1, d2] => { results := [.lit (.bool true)], args := [d1, d2] }
  | _ => none }
def fnExactMostWearsRow : OpenClaim := { program := "ytdkmpclghfkfbaa", sum := "309bbc408ea43a758a38426f35efb2388b4f4ec6e513e918caeb7a599fd4de56", func := "loop.example/g01374/laws.FnExactMostWears", spec := "fnExactMostWears", apart := false }
def FnExactMostWearsSaid : Prop := fnExactMostWearsRow.holds Try.pinned (OpenSpec.ofChange fnExactMostWearsSpec)

/-- ITS FALSE NEIGHBOUR: 'it returns false'. Refute it at one input. -/
def fnExactMostWearsWrong : ChangeSpec := { name := "fnExactMostWears", fn := fun _ => fun
  | [d1, d2] => { results := [.lit (.bool false)], args := [d1, d2] }
  | _ => none }
def FnExactMostWearsWrongFalsely : Prop := fnExactMostWearsRow.holds Try.pinned (OpenSpec.ofChange fnExactMostWearsWrong)

/-- 'laws.FnExactWeakestPart': WHATEVER THE INPUT: true; the input reads as it did. -/
def fnExactWeakestPartSpec : ChangeSpec := { name := "fnExactWeakestPart", fn := fun _ => fun
  | [d1, d2] => { results := [.lit (.bool true)], args := [d1, d2] }
  | _ => none }
def fnExactWeakestPartRow : OpenClaim := { program := "ytdkmpclghfkfbaa", sum := "309bbc408ea43a758a38426f35efb2388b4f4ec6e513e918caeb7a599fd4de56", func := "loop.example/g01374/laws.FnExactWeakestPart", spec := "fnExactWeakestPart", apart := false }
def FnExactWeakestPartSaid : Prop := fnExactWeakestPartRow.holds Try.pinned (OpenSpec.ofChange fnExactWeakestPartSpec)

/-- ITS FALSE NEIGHBOUR: 'it returns false'. Refute it at one input. -/
def fnExactWeakestPartWrong : ChangeSpec := { name := "fnExactWeakestPart", fn := fun _ => fun
  | [d1, d2] => { results := [.lit (.bool false)], args := [d1, d2] }
  | _ => none }
def FnExactWeakestPartWrongFalsely : Prop := fnExactWeakestPartRow.holds Try.pinned (OpenSpec.ofChange fnExactWeakestPartWrong)

/-- 'laws.FnExactPartsOfBears': WHATEVER THE INPUT: true; the input reads as it did. -/
def fnExactPartsOfBearsSpec : ChangeSpec := { name := "fnExactPartsOfBears", fn := fun _ => fun
  | [d1, d2] => { results := [.lit (.bool true)], args := [d1, d2] }
  | _ => none }
def fnExactPartsOfBearsRow : OpenClaim := { program := "ytdkmpclghfkfbaa", sum := "309bbc408ea43a758a38426f35efb2388b4f4ec6e513e918caeb7a599fd4de56", func := "loop.example/g01374/laws.FnExactPartsOfBears", spec := "fnExactPartsOfBears", apart := false }
def FnExactPartsOfBearsSaid : Prop := fnExactPartsOfBearsRow.holds Try.pinned (OpenSpec.ofChange fnExactPartsOfBearsSpec)

/-- ITS FALSE NEIGHBOUR: 'it returns false'. Refute it at one input. -/
def fnExactPartsOfBearsWrong : ChangeSpec := { name := "fnExactPartsOfBears", fn := fun _ => fun
  | [d1, d2] => { results := [.lit (.bool false)], args := [d1, d2] }
  | _ => none }
def FnExactPartsOfBearsWrongFalsely : Prop := fnExactPartsOfBearsRow.holds Try.pinned (OpenSpec.ofChange fnExactPartsOfBearsWrong)

/-- 'laws.FnExactMendSum': WHATEVER THE INPUT: true; the input reads as it did. -/
def fnExactMendSumSpec : ChangeSpec := { name := "fnExactMendSum", fn := fun _ => fun
  | [d1, d2, d3] => { results := [.lit (.bool true)], args := [d1, d2, d3] }
  | _ => none }
def fnExactMendSumRow : OpenClaim := { program := "ytdkmpclghfkfbaa", sum := "309bbc408ea43a758a38426f35efb2388b4f4ec6e513e918caeb7a599fd4de56", func := "loop.example/g01374/laws.FnExactMendSum", spec := "fnExactMendSum", apart := false }
def FnExactMendSumSaid : Prop := fnExactMendSumRow.holds Try.pinned (OpenSpec.ofChange fnExactMendSumSpec)

/-- ITS FALSE NEIGHBOUR: 'it returns false'. Refute it at one input. -/
def fnExactMendSumWrong : ChangeSpec := { name := "fnExactMendSum", fn := fun _ => fun
  | [d1, d2, d3] => { results := [.lit (.bool false)], args := [d1, d2, d3] }
  | _ => none }
def FnExactMendSumWrongFalsely : Prop := fnExactMendSumRow.holds Try.pinned (OpenSpec.ofChange fnExactMendSumWrong)

/-- 'laws.FnExactLateMend': WHATEVER THE INPUT: true; the input reads as it did. -/
def fnExactLateMendSpec : ChangeSpec := { name := "fnExactLateMend", fn := fun _ => fun
  | [d1, d2, d3] => { results := [.lit (.bool true)], args := [d1, d2, d3] }
  | _ => none }
def fnExactLateMendRow : OpenClaim := { program := "ytdkmpclghfkfbaa", sum := "309bbc408ea43a758a38426f35efb2388b4f4ec6e513e918caeb7a599fd4de56", func := "loop.example/g01374/laws.FnExactLateMend", spec := "fnExactLateMend", apart := false }
def FnExactLateMendSaid : Prop := fnExactLateMendRow.holds Try.pinned (OpenSpec.ofChange fnExactLateMendSpec)

/-- ITS FALSE NEIGHBOUR: 'it returns false'. Refute it at one input. -/
def fnExactLateMendWrong : ChangeSpec := { name := "fnExactLateMend", fn := fun _ => fun
  | [d1, d2, d3] => { results := [.lit (.bool false)], args := [d1, d2, d3] }
  | _ => none }
def FnExactLateMendWrongFalsely : Prop := fnExactLateMendRow.holds Try.pinned (OpenSpec.ofChange fnExactLateMendWrong)

/-- 'laws.FnExactIsWearClimb': WHATEVER THE INPUT: true; the input reads as it did. -/
def fnExactIsWearClimbSpec : ChangeSpec := { name := "fnExactIsWearClimb", fn := fun _ => fun
  | [d1, d2, d3] => { results := [.lit (.bool true)], args := [d1, d2, d3] }
  | _ => none }
def fnExactIsWearClimbRow : OpenClaim := { program := "ytdkmpclghfkfbaa", sum := "309bbc408ea43a758a38426f35efb2388b4f4ec6e513e918caeb7a599fd4de56", func := "loop.example/g01374/laws.FnExactIsWearClimb", spec := "fnExactIsWearClimb", apart := false }
def FnExactIsWearClimbSaid : Prop := fnExactIsWearClimbRow.holds Try.pinned (OpenSpec.ofChange fnExactIsWearClimbSpec)

/-- ITS FALSE NEIGHBOUR: 'it returns false'. Refute it at one input. -/
def fnExactIsWearClimbWrong : ChangeSpec := { name := "fnExactIsWearClimb", fn := fun _ => fun
  | [d1, d2, d3] => { results := [.lit (.bool false)], args := [d1, d2, d3] }
  | _ => none }
def FnExactIsWearClimbWrongFalsely : Prop := fnExactIsWearClimbRow.holds Try.pinned (OpenSpec.ofChange fnExactIsWearClimbWrong)

/- THE SECOND FORM. 'bulk': how many values and letters a reading holds, each counted each time it is reached (what is shared counts as often as it is met; a slice's spare places count too). A statement '..UptoSaid' is the law's where the arguments, and the package variables that the reading takes, are together of bulk at most 1048576: NARROWER than '..Said'. Prove '..Said' where nothing that the law and all that it calls make is longer than what came in: it says more and counts as full. Else prove '..UptoSaid'. A law counts once. -/
mutual
def uptoBulk {H : Type} : DataW H → Nat
  | .lit (.string bytes) => bytes.length + 1
  | .lit _ => 1
  | .nil => 1
  | .ptr d => uptoBulk d + 1
  | .slice elems spare => uptoBulkAll elems + uptoBulkAll spare + 1
  | .agg parts => uptoBulkAll parts + 1
  | .iface _ d => uptoBulk d + 1
  | .map entries => uptoBulkEntries entries + 1
  | .held _ => 1
def uptoBulkAll {H : Type} : List (DataW H) → Nat
  | [] => 0
  | d :: r => uptoBulk d + uptoBulkAll r
def uptoBulkEntries {H : Type} : List (Lit × DataW H) → Nat
  | [] => 0
  | x :: r => uptoBulkEntry x + uptoBulkEntries r
def uptoBulkEntry {H : Type} : Lit × DataW H → Nat
  | (.string bytes, d) => bytes.length + uptoBulk d + 1
  | (_, d) => uptoBulk d + 1
 end
def uptoSmall : (H : Type) → List (DataW H) → Bool := fun _ ds => decide (uptoBulkAll ds ≤ 1048576)
def OpenSpec.upto (s : _root_.Go.ChangeSpec) : _root_.Go.OpenSpec := { _root_.Go.OpenSpec.ofChange s with cond := some uptoSmall }

/-- 'laws.FnExactAreBears', WHERE WHAT IT READS IS OF BULK AT MOST 1048576: true; the input reads as it did. -/
def fnExactAreBearsUptoRow : OpenClaim := { program := "ytdkmpclghfkfbaa", sum := "309bbc408ea43a758a38426f35efb2388b4f4ec6e513e918caeb7a599fd4de56", func := "loop.example/g01374/laws.FnExactAreBears", spec := "fnExactAreBears", apart := false, narrowed := true }
def FnExactAreBearsUptoSaid : Prop := fnExactAreBearsUptoRow.holds Try.pinned (OpenSpec.upto fnExactAreBearsSpec)

/-- 'laws.FnExactStrongestStep', WHERE WHAT IT READS IS OF BULK AT MOST 1048576: true; the input reads as it did. -/
def fnExactStrongestStepUptoRow : OpenClaim := { program := "ytdkmpclghfkfbaa", sum := "309bbc408ea43a758a38426f35efb2388b4f4ec6e513e918caeb7a599fd4de56", func := "loop.example/g01374/laws.FnExactStrongestStep", spec := "fnExactStrongestStep", apart := false, narrowed := true }
def FnExactStrongestStepUptoSaid : Prop := fnExactStrongestStepUptoRow.holds Try.pinned (OpenSpec.upto fnExactStrongestStepSpec)

/-- 'laws.FnExactTurnBears', WHERE WHAT IT READS IS OF BULK AT MOST 1048576: true; the input reads as it did. -/
def fnExactTurnBearsUptoRow : OpenClaim := { program := "ytdkmpclghfkfbaa", sum := "309bbc408ea43a758a38426f35efb2388b4f4ec6e513e918caeb7a599fd4de56", func := "loop.example/g01374/laws.FnExactTurnBears", spec := "fnExactTurnBears", apart := false, narrowed := true }
def FnExactTurnBearsUptoSaid : Prop := fnExactTurnBearsUptoRow.holds Try.pinned (OpenSpec.upto fnExactTurnBearsSpec)

/-- 'laws.FnExactDaysOfWear', WHERE WHAT IT READS IS OF BULK AT MOST 1048576: true; the input reads as it did. -/
def fnExactDaysOfWearUptoRow : OpenClaim := { program := "ytdkmpclghfkfbaa", sum := "309bbc408ea43a758a38426f35efb2388b4f4ec6e513e918caeb7a599fd4de56", func := "loop.example/g01374/laws.FnExactDaysOfWear", spec := "fnExactDaysOfWear", apart := false, narrowed := true }
def FnExactDaysOfWearUptoSaid : Prop := fnExactDaysOfWearUptoRow.holds Try.pinned (OpenSpec.upto fnExactDaysOfWearSpec)

/-- 'laws.FnExactMostWears', WHERE WHAT IT READS IS OF BULK AT MOST 1048576: true; the input reads as it did. -/
def fnExactMostWearsUptoRow : OpenClaim := { program := "ytdkmpclghfkfbaa", sum := "309bbc408ea43a758a38426f35efb2388b4f4ec6e513e918caeb7a599fd4de56", func := "loop.example/g01374/laws.FnExactMostWears", spec := "fnExactMostWears", apart := false, narrowed := true }
def FnExactMostWearsUptoSaid : Prop := fnExactMostWearsUptoRow.holds Try.pinned (OpenSpec.upto fnExactMostWearsSpec)

/-- 'laws.FnExactWeakestPart', WHERE WHAT IT READS IS OF BULK AT MOST 1048576: true; the input reads as it did. -/
def fnExactWeakestPartUptoRow : OpenClaim := { program := "ytdkmpclghfkfbaa", sum := "309bbc408ea43a758a38426f35efb2388b4f4ec6e513e918caeb7a599fd4de56", func := "loop.example/g01374/laws.FnExactWeakestPart", spec := "fnExactWeakestPart", apart := false, narrowed := true }
def FnExactWeakestPartUptoSaid : Prop := fnExactWeakestPartUptoRow.holds Try.pinned (OpenSpec.upto fnExactWeakestPartSpec)

/-- 'laws.FnExactPartsOfBears', WHERE WHAT IT READS IS OF BULK AT MOST 1048576: true; the input reads as it did. -/
def fnExactPartsOfBearsUptoRow : OpenClaim := { program := "ytdkmpclghfkfbaa", sum := "309bbc408ea43a758a38426f35efb2388b4f4ec6e513e918caeb7a599fd4de56", func := "loop.example/g01374/laws.FnExactPartsOfBears", spec := "fnExactPartsOfBears", apart := false, narrowed := true }
def FnExactPartsOfBearsUptoSaid : Prop := fnExactPartsOfBearsUptoRow.holds Try.pinned (OpenSpec.upto fnExactPartsOfBearsSpec)

/-- 'laws.FnExactMendSum', WHERE WHAT IT READS IS OF BULK AT MOST 1048576: true; the input reads as it did. -/
def fnExactMendSumUptoRow : OpenClaim := { program := "ytdkmpclghfkfbaa", sum := "309bbc408ea43a758a38426f35efb2388b4f4ec6e513e918caeb7a599fd4de56", func := "loop.example/g01374/laws.FnExactMendSum", spec := "fnExactMendSum", apart := false, narrowed := true }
def FnExactMendSumUptoSaid : Prop := fnExactMendSumUptoRow.holds Try.pinned (OpenSpec.upto fnExactMendSumSpec)

/-- 'laws.FnExactLateMend', WHERE WHAT IT READS IS OF BULK AT MOST 1048576: true; the input reads as it did. -/
def fnExactLateMendUptoRow : OpenClaim := { program := "ytdkmpclghfkfbaa", sum := "309bbc408ea43a758a38426f35efb2388b4f4ec6e513e918caeb7a599fd4de56", func := "loop.example/g01374/laws.FnExactLateMend", spec := "fnExactLateMend", apart := false, narrowed := true }
def FnExactLateMendUptoSaid : Prop := fnExactLateMendUptoRow.holds Try.pinned (OpenSpec.upto fnExactLateMendSpec)

/-- 'laws.FnExactIsWearClimb', WHERE WHAT IT READS IS OF BULK AT MOST 1048576: true; the input reads as it did. -/
def fnExactIsWearClimbUptoRow : OpenClaim := { program := "ytdkmpclghfkfbaa", sum := "309bbc408ea43a758a38426f35efb2388b4f4ec6e513e918caeb7a599fd4de56", func := "loop.example/g01374/laws.FnExactIsWearClimb", spec := "fnExactIsWearClimb", apart := false, narrowed := true }
def FnExactIsWearClimbUptoSaid : Prop := fnExactIsWearClimbUptoRow.holds Try.pinned (OpenSpec.upto fnExactIsWearClimbSpec)

end Rows
end Go.Proofs.Ytdkmpclghfkfbaa
