/-
  No cell of these rows narrows 'for every input' (looked for: loops, veiled, ifaces, maps, wideKeys, modest, calm, conditions, laid).
  DERIVED. THE GIVEN ROWS OF THIS SEAT. 4 by the template 'for every input the law returns true; each argument reads behind the call as it read before'; 0 by the template 'total and deterministic' (their statements: YtkglkknccbjefaaTotals.lean).
  GIVEN WITH THE SEED: the statements are not yours to turn. If you find one false, say at which input.
  Laid BY PROGRAM, IN A SANDBOX (cutbox-rows.mjs): the forced cells as the released guide's own fill.sh prints them over the translation b7676e9140c367b6… (all of the seat's roots in one cut). By AI agents, Wed Nov 11 2026. No macro, syntax, notation, axiom, sorry.
-/
import Derived.Test.YtkglkknccbjefaaChecked
import GoSem.Claim
import GoSem.ClaimJoined
import GoSem.ClaimMapViews
import Derived.JoinedTies
import Derived.KernelRfl
namespace Go.Proofs.Ytkglkknccbjefaa
/- THE CELL 'sum', in the pinned program and in every row, IS THE sha256 OF THE DUMP (.gsa) THAT YtkglkknccbjefaaProg.lean LOADS. Nothing in Lean hashes anything: it is a label: what it is worth is what the hold of that sum in a sandbox is worth. -/
noncomputable def Try.pinned : Pinned := { name := "ytkglkknccbjefaa", sum := "b7676e9140c367b6be55c8faba3635222891f99c3a7023110259cfad9241943a", checked := Try.checked }
namespace Rows
def none {H : Type} : Left H := { results := [], args := [] }

/-- 'laws.FnExactIsStriped': WHATEVER THE INPUT: true; the input reads as it did. -/
def fnExactIsStripedSpec : ChangeSpec := { name := "fnExactIsStriped", fn := fun _ => fun
  | [d] => { results := [.lit (.bool true)], args := [d] }
  | _ => none }
def fnExactIsStripedRow : OpenClaim := { program := "ytkglkknccbjefaa", sum := "b7676e9140c367b6be55c8faba3635222891f99c3a7023110259cfad9241943a", func := "loop.example/g01374/laws.FnExactIsStriped", spec := "fnExactIsStriped", apart := false }
def FnExactIsStripedSaid : Prop := fnExactIsStripedRow.holds Try.pinned (OpenSpec.ofChange fnExactIsStripedSpec)

/-- ITS FALSE NEIGHBOUR: 'it returns false'. Refute it at one input. -/
def fnExactIsStripedWrong : ChangeSpec := { name := "fnExactIsStriped", fn := fun _ => fun
  | [d] => { results := [.lit (.bool false)], args := [d] }
  | _ => none }
def FnExactIsStripedWrongFalsely : Prop := fnExactIsStripedRow.holds Try.pinned (OpenSpec.ofChange fnExactIsStripedWrong)

/-- 'laws.FnExactColourAt': WHATEVER THE INPUT: true; the input reads as it did. -/
def fnExactColourAtSpec : ChangeSpec := { name := "fnExactColourAt", fn := fun _ => fun
  | [d1, d2, d3] => { results := [.lit (.bool true)], args := [d1, d2, d3] }
  | _ => none }
def fnExactColourAtRow : OpenClaim := { program := "ytkglkknccbjefaa", sum := "b7676e9140c367b6be55c8faba3635222891f99c3a7023110259cfad9241943a", func := "loop.example/g01374/laws.FnExactColourAt", spec := "fnExactColourAt", apart := false }
def FnExactColourAtSaid : Prop := fnExactColourAtRow.holds Try.pinned (OpenSpec.ofChange fnExactColourAtSpec)

/-- ITS FALSE NEIGHBOUR: 'it returns false'. Refute it at one input. -/
def fnExactColourAtWrong : ChangeSpec := { name := "fnExactColourAt", fn := fun _ => fun
  | [d1, d2, d3] => { results := [.lit (.bool false)], args := [d1, d2, d3] }
  | _ => none }
def FnExactColourAtWrongFalsely : Prop := fnExactColourAtRow.holds Try.pinned (OpenSpec.ofChange fnExactColourAtWrong)

/-- 'laws.FnExactColoursOfStep': WHATEVER THE INPUT: true; the input reads as it did. -/
def fnExactColoursOfStepSpec : ChangeSpec := { name := "fnExactColoursOfStep", fn := fun _ => fun
  | [d1, d2, d3, d4] => { results := [.lit (.bool true)], args := [d1, d2, d3, d4] }
  | _ => none }
def fnExactColoursOfStepRow : OpenClaim := { program := "ytkglkknccbjefaa", sum := "b7676e9140c367b6be55c8faba3635222891f99c3a7023110259cfad9241943a", func := "loop.example/g01374/laws.FnExactColoursOfStep", spec := "fnExactColoursOfStep", apart := false }
def FnExactColoursOfStepSaid : Prop := fnExactColoursOfStepRow.holds Try.pinned (OpenSpec.ofChange fnExactColoursOfStepSpec)

/-- ITS FALSE NEIGHBOUR: 'it returns false'. Refute it at one input. -/
def fnExactColoursOfStepWrong : ChangeSpec := { name := "fnExactColoursOfStep", fn := fun _ => fun
  | [d1, d2, d3, d4] => { results := [.lit (.bool false)], args := [d1, d2, d3, d4] }
  | _ => none }
def FnExactColoursOfStepWrongFalsely : Prop := fnExactColoursOfStepRow.holds Try.pinned (OpenSpec.ofChange fnExactColoursOfStepWrong)

/-- 'laws.FnExactAlikeSteps': WHATEVER THE INPUT: true; the input reads as it did. -/
def fnExactAlikeStepsSpec : ChangeSpec := { name := "fnExactAlikeSteps", fn := fun _ => fun
  | [d1, d2, d3, d4] => { results := [.lit (.bool true)], args := [d1, d2, d3, d4] }
  | _ => none }
def fnExactAlikeStepsRow : OpenClaim := { program := "ytkglkknccbjefaa", sum := "b7676e9140c367b6be55c8faba3635222891f99c3a7023110259cfad9241943a", func := "loop.example/g01374/laws.FnExactAlikeSteps", spec := "fnExactAlikeSteps", unfollowed := true, recurses := true, apart := false }
def FnExactAlikeStepsSaid : Prop := fnExactAlikeStepsRow.holds Try.pinned (OpenSpec.ofChange fnExactAlikeStepsSpec)

/-- ITS FALSE NEIGHBOUR: 'it returns false'. Refute it at one input. -/
def fnExactAlikeStepsWrong : ChangeSpec := { name := "fnExactAlikeSteps", fn := fun _ => fun
  | [d1, d2, d3, d4] => { results := [.lit (.bool false)], args := [d1, d2, d3, d4] }
  | _ => none }
def FnExactAlikeStepsWrongFalsely : Prop := fnExactAlikeStepsRow.holds Try.pinned (OpenSpec.ofChange fnExactAlikeStepsWrong)

/- THE SECOND FORM. 'bulk': how many values and letters a reading holds, each counted each time it is reached (what is shared counts as often as it is met; a slice's spare places count too). A statement '..UptoSaid' is the law's where the arguments, and the package variables that the reading takes, are together of bulk at most 1048576: NARROWER than '..Said'. Prove '..Said' where nothing that the law and all that it calls make is longer than what came in: it says more and counts as full. Else prove '..UptoSaid'. A law counts once. -/
mutual
def uptoBulk {H : Type} : DataW H → Nat
  | .lit (.string bytes) => bytes.length + 1
  | .lit _ => 1
  | .nil => 1
  | .ptr d => uptoBulk d + 1
  | .slice elems spare => uptoBulkAll elems + uptoBulkAll spare + 1
  | .agg parts => uptoBulkAll parts + 1
  | .iface _ d => uptoBulk d + 1
  | .map entries => uptoBulkEntries entries + 1
  | .held _ => 1
def uptoBulkAll {H : Type} : List (DataW H) → Nat
  | [] => 0
  | d :: r => uptoBulk d + uptoBulkAll r
def uptoBulkEntries {H : Type} : List (Lit × DataW H) → Nat
  | [] => 0
  | x :: r => uptoBulkEntry x + uptoBulkEntries r
def uptoBulkEntry {H : Type} : Lit × DataW H → Nat
  | (.string bytes, d) => bytes.length + uptoBulk d + 1
  | (_, d) => uptoBulk d + 1
 end
def uptoSmall : (H : Type) → List (DataW H) → Bool := fun _ ds => decide (uptoBulkAll ds ≤ 1048576)
def OpenSpec.upto (s : _root_.Go.ChangeSpec) : _root_.Go.OpenSpec := { _root_.Go.OpenSpec.ofChange s with cond := some uptoSmall }

/-- 'laws.FnExactIsStriped', WHERE WHAT IT READS IS OF BULK AT MOST 1048576: true; the input reads as it did. -/
def fnExactIsStripedUptoRow : OpenClaim := { program := "ytkglkknccbjefaa", sum := "b7676e9140c367b6be55c8faba3635222891f99c3a7023110259cfad9241943a", func := "loop.example/g01374/laws.FnExactIsStriped", spec := "fnExactIsStriped", apart := false, narrowed := true }
def FnExactIsStripedUptoSaid : Prop := fnExactIsStripedUptoRow.holds Try.pinned (OpenSpec.upto fnExactIsStripedSpec)

/-- 'laws.FnExactColourAt', WHERE WHAT IT READS IS OF BULK AT MOST 1048576: true; the input reads as it did. -/
def fnExactColourAtUptoRow : OpenClaim := { program := "ytkglkknccbjefaa", sum := "b7676e9140c367b6be55c8faba3635222891f99c3a7023110259cfad9241943a", func := "loop.example/g01374/laws.FnExactColourAt", spec := "fnExactColourAt", apart := false, narrowed := true }
def FnExactColourAtUptoSaid : Prop := fnExactColourAtUptoRow.holds Try.pinned (OpenSpec.upto fnExactColourAtSpec)

/-- 'laws.FnExactColoursOfStep', WHERE WHAT IT READS IS OF BULK AT MOST 1048576: true; the input reads as it did. -/
def fnExactColoursOfStepUptoRow : OpenClaim := { program := "ytkglkknccbjefaa", sum := "b7676e9140c367b6be55c8faba3635222891f99c3a7023110259cfad9241943a", func := "loop.example/g01374/laws.FnExactColoursOfStep", spec := "fnExactColoursOfStep", apart := false, narrowed := true }
def FnExactColoursOfStepUptoSaid : Prop := fnExactColoursOfStepUptoRow.holds Try.pinned (OpenSpec.upto fnExactColoursOfStepSpec)

/-- 'laws.FnExactAlikeSteps', WHERE WHAT IT READS IS OF BULK AT MOST 1048576: true; the input reads as it did. -/
def fnExactAlikeStepsUptoRow : OpenClaim := { program := "ytkglkknccbjefaa", sum := "b7676e9140c367b6be55c8faba3635222891f99c3a7023110259cfad9241943a", func := "loop.example/g01374/laws.FnExactAlikeSteps", spec := "fnExactAlikeSteps", unfollowed := true, recurses := true, apart := false, narrowed := true }
def FnExactAlikeStepsUptoSaid : Prop := fnExactAlikeStepsUptoRow.holds Try.pinned (OpenSpec.upto fnExactAlikeStepsSpec)

end Rows
end Go.Proofs.Ytkglkknccbjefaa
