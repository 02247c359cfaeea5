/-
  No cell of these rows narrows 'for every input' (looked for: loops, veiled, ifaces, maps, wideKeys, modest, calm, conditions, laid).
  DERIVED. THE GIVEN ROWS OF THIS SEAT. 7 by the template 'for every input the law returns true; each argument reads behind the call as it read before'; 0 by the template 'total and deterministic' (their statements: YtomjebelgnecfaaTotals.lean).
  GIVEN WITH THE SEED: the statements are not yours to turn. If you find one false, say at which input.
  Laid BY PROGRAM, IN A SANDBOX (cutbox-rows.mjs): the forced cells as the released guide's own fill.sh prints them over the translation 8ca5e8f8f2737d62… (all of the seat's roots in one cut). By AI agents, Wed Nov 11 2026. No macro, syntax, notation, axiom, sorry.
-/
import Derived.Test.YtomjebelgnecfaaChecked
import GoSem.Claim
import GoSem.ClaimJoined
import GoSem.ClaimMapViews
import Derived.JoinedTies
import Derived.KernelRfl
namespace Go.Proofs.Ytomjebelgnecfaa
/- THE CELL 'sum', in the pinned program and in every row, IS THE sha256 OF THE DUMP (.gsa) THAT YtomjebelgnecfaaProg.lean LOADS. Nothing in Lean hashes anything: it is a label: what it is worth is what the hold of that sum in a sandbox is worth. -/
noncomputable def Try.pinned : Pinned := { name := "ytomjebelgnecfaa", sum := "8ca5e8f8f2737d6205fbaaab3eeb9d79bbc875839a78abcc21459dee60c53262", checked := Try.checked }
namespace Rows
def none {H : Type} : Left H := { results := [], args := [] }

/-- 'laws.FnExactStepsAbove': WHATEVER THE INPUT: true; the input reads as it did. -/
def fnExactStepsAboveSpec : ChangeSpec := { name := "fnExactStepsAbove", fn := fun _ => fun
  | [d1, d2] => { results := [.lit (.bool true)], args := [d1, d2] }
  | _ => none }
def fnExactStepsAboveRow : OpenClaim := { program := "ytomjebelgnecfaa", sum := "8ca5e8f8f2737d6205fbaaab3eeb9d79bbc875839a78abcc21459dee60c53262", func := "loop.example/g01374/laws.FnExactStepsAbove", spec := "fnExactStepsAbove", unfollowed := true, recurses := true, apart := false }
def FnExactStepsAboveSaid : Prop := fnExactStepsAboveRow.holds Try.pinned (OpenSpec.ofChange fnExactStepsAboveSpec)

/-- ITS FALSE NEIGHBOUR: 'it returns false'. Refute it at one input. -/
def fnExactStepsAboveWrong : ChangeSpec := { name := "fnExactStepsAbove", fn := fun _ => fun
  | [d1, d2] => { results := [.lit (.bool false)], args := [d1, d2] }
  | _ => none }
def FnExactStepsAboveWrongFalsely : Prop := fnExactStepsAboveRow.holds Try.pinned (OpenSpec.ofChange fnExactStepsAboveWrong)

/-- 'laws.FnExactOppositeSteps': WHATEVER THE INPUT: true; the input reads as it did. -/
def fnExactOppositeStepsSpec : ChangeSpec := { name := "fnExactOppositeSteps", fn := fun _ => fun
  | [d1, d2] => { results := [.lit (.bool true)], args := [d1, d2] }
  | _ => none }
def fnExactOppositeStepsRow : OpenClaim := { program := "ytomjebelgnecfaa", sum := "8ca5e8f8f2737d6205fbaaab3eeb9d79bbc875839a78abcc21459dee60c53262", func := "loop.example/g01374/laws.FnExactOppositeSteps", spec := "fnExactOppositeSteps", unfollowed := true, recurses := true, apart := false }
def FnExactOppositeStepsSaid : Prop := fnExactOppositeStepsRow.holds Try.pinned (OpenSpec.ofChange fnExactOppositeStepsSpec)

/-- ITS FALSE NEIGHBOUR: 'it returns false'. Refute it at one input. -/
def fnExactOppositeStepsWrong : ChangeSpec := { name := "fnExactOppositeSteps", fn := fun _ => fun
  | [d1, d2] => { results := [.lit (.bool false)], args := [d1, d2] }
  | _ => none }
def FnExactOppositeStepsWrongFalsely : Prop := fnExactOppositeStepsRow.holds Try.pinned (OpenSpec.ofChange fnExactOppositeStepsWrong)

/-- 'laws.FnExactStepsAtSide': WHATEVER THE INPUT: true; the input reads as it did. -/
def fnExactStepsAtSideSpec : ChangeSpec := { name := "fnExactStepsAtSide", fn := fun _ => fun
  | [d1, d2] => { results := [.lit (.bool true)], args := [d1, d2] }
  | _ => none }
def fnExactStepsAtSideRow : OpenClaim := { program := "ytomjebelgnecfaa", sum := "8ca5e8f8f2737d6205fbaaab3eeb9d79bbc875839a78abcc21459dee60c53262", func := "loop.example/g01374/laws.FnExactStepsAtSide", spec := "fnExactStepsAtSide", inPlace := ["internal/bytealg.IndexByteString", "internal/bytealg.IndexString"], unfollowed := true, recurses := true, named := ["internal/bytealg.MaxLen"], apart := false }
def FnExactStepsAtSideSaid : Prop := fnExactStepsAtSideRow.holds Try.pinned (OpenSpec.ofChange fnExactStepsAtSideSpec)

/-- ITS FALSE NEIGHBOUR: 'it returns false'. Refute it at one input. -/
def fnExactStepsAtSideWrong : ChangeSpec := { name := "fnExactStepsAtSide", fn := fun _ => fun
  | [d1, d2] => { results := [.lit (.bool false)], args := [d1, d2] }
  | _ => none }
def FnExactStepsAtSideWrongFalsely : Prop := fnExactStepsAtSideRow.holds Try.pinned (OpenSpec.ofChange fnExactStepsAtSideWrong)

/-- 'laws.FnExactCountSides': WHATEVER THE INPUT: true; the input reads as it did. -/
def fnExactCountSidesSpec : ChangeSpec := { name := "fnExactCountSides", fn := fun _ => fun
  | [d] => { results := [.lit (.bool true)], args := [d] }
  | _ => none }
def fnExactCountSidesRow : OpenClaim := { program := "ytomjebelgnecfaa", sum := "8ca5e8f8f2737d6205fbaaab3eeb9d79bbc875839a78abcc21459dee60c53262", func := "loop.example/g01374/laws.FnExactCountSides", spec := "fnExactCountSides", inPlace := ["internal/bytealg.IndexByteString", "internal/bytealg.IndexString"], unfollowed := true, recurses := true, named := ["internal/bytealg.MaxLen"], apart := false }
def FnExactCountSidesSaid : Prop := fnExactCountSidesRow.holds Try.pinned (OpenSpec.ofChange fnExactCountSidesSpec)

/-- ITS FALSE NEIGHBOUR: 'it returns false'. Refute it at one input. -/
def fnExactCountSidesWrong : ChangeSpec := { name := "fnExactCountSides", fn := fun _ => fun
  | [d] => { results := [.lit (.bool false)], args := [d] }
  | _ => none }
def FnExactCountSidesWrongFalsely : Prop := fnExactCountSidesRow.holds Try.pinned (OpenSpec.ofChange fnExactCountSidesWrong)

/-- 'laws.FnExactLampsAndWindows': WHATEVER THE INPUT: true; the input reads as it did. -/
def fnExactLampsAndWindowsSpec : ChangeSpec := { name := "fnExactLampsAndWindows", fn := fun _ => fun
  | [d1, d2, d3] => { results := [.lit (.bool true)], args := [d1, d2, d3] }
  | _ => none }
def fnExactLampsAndWindowsRow : OpenClaim := { program := "ytomjebelgnecfaa", sum := "8ca5e8f8f2737d6205fbaaab3eeb9d79bbc875839a78abcc21459dee60c53262", func := "loop.example/g01374/laws.FnExactLampsAndWindows", spec := "fnExactLampsAndWindows", unfollowed := true, recurses := true, apart := false }
def FnExactLampsAndWindowsSaid : Prop := fnExactLampsAndWindowsRow.holds Try.pinned (OpenSpec.ofChange fnExactLampsAndWindowsSpec)

/-- ITS FALSE NEIGHBOUR: 'it returns false'. Refute it at one input. -/
def fnExactLampsAndWindowsWrong : ChangeSpec := { name := "fnExactLampsAndWindows", fn := fun _ => fun
  | [d1, d2, d3] => { results := [.lit (.bool false)], args := [d1, d2, d3] }
  | _ => none }
def FnExactLampsAndWindowsWrongFalsely : Prop := fnExactLampsAndWindowsRow.holds Try.pinned (OpenSpec.ofChange fnExactLampsAndWindowsWrong)

/-- 'laws.FnExactDarkSteps': WHATEVER THE INPUT: true; the input reads as it did. -/
def fnExactDarkStepsSpec : ChangeSpec := { name := "fnExactDarkSteps", fn := fun _ => fun
  | [d1, d2, d3] => { results := [.lit (.bool true)], args := [d1, d2, d3] }
  | _ => none }
def fnExactDarkStepsRow : OpenClaim := { program := "ytomjebelgnecfaa", sum := "8ca5e8f8f2737d6205fbaaab3eeb9d79bbc875839a78abcc21459dee60c53262", func := "loop.example/g01374/laws.FnExactDarkSteps", spec := "fnExactDarkSteps", unfollowed := true, recurses := true, apart := false }
def FnExactDarkStepsSaid : Prop := fnExactDarkStepsRow.holds Try.pinned (OpenSpec.ofChange fnExactDarkStepsSpec)

/-- ITS FALSE NEIGHBOUR: 'it returns false'. Refute it at one input. -/
def fnExactDarkStepsWrong : ChangeSpec := { name := "fnExactDarkSteps", fn := fun _ => fun
  | [d1, d2, d3] => { results := [.lit (.bool false)], args := [d1, d2, d3] }
  | _ => none }
def FnExactDarkStepsWrongFalsely : Prop := fnExactDarkStepsRow.holds Try.pinned (OpenSpec.ofChange fnExactDarkStepsWrong)

/-- 'laws.FnExactTwinMeets': WHATEVER THE INPUT: true; the input reads as it did. -/
def fnExactTwinMeetsSpec : ChangeSpec := { name := "fnExactTwinMeets", fn := fun _ => fun
  | [d1, d2] => { results := [.lit (.bool true)], args := [d1, d2] }
  | _ => none }
def fnExactTwinMeetsRow : OpenClaim := { program := "ytomjebelgnecfaa", sum := "8ca5e8f8f2737d6205fbaaab3eeb9d79bbc875839a78abcc21459dee60c53262", func := "loop.example/g01374/laws.FnExactTwinMeets", spec := "fnExactTwinMeets", unfollowed := true, recurses := true, apart := false }
def FnExactTwinMeetsSaid : Prop := fnExactTwinMeetsRow.holds Try.pinned (OpenSpec.ofChange fnExactTwinMeetsSpec)

/-- ITS FALSE NEIGHBOUR: 'it returns false'. Refute it at one input. -/
def fnExactTwinMeetsWrong : ChangeSpec := { name := "fnExactTwinMeets", fn := fun _ => fun
  | [d1, d2] => { results := [.lit (.bool false)], args := [d1, d2] }
  | _ => none }
def FnExactTwinMeetsWrongFalsely : Prop := fnExactTwinMeetsRow.holds Try.pinned (OpenSpec.ofChange fnExactTwinMeetsWrong)

/- THE SECOND FORM. 'bulk': how many values and letters a reading holds, each counted each time it is reached (what is shared counts as often as it is met; a slice's spare places count too). A statement '..UptoSaid' is the law's where the arguments, and the package variables that the reading takes, are together of bulk at most 1048576: NARROWER than '..Said'. Prove '..Said' where nothing that the law and all that it calls make is longer than what came in: it says more and counts as full. Else prove '..UptoSaid'. A law counts once. -/
mutual
def uptoBulk {H : Type} : DataW H → Nat
  | .lit (.string bytes) => bytes.length + 1
  | .lit _ => 1
  | .nil => 1
  | .ptr d => uptoBulk d + 1
  | .slice elems spare => uptoBulkAll elems + uptoBulkAll spare + 1
  | .agg parts => uptoBulkAll parts + 1
  | .iface _ d => uptoBulk d + 1
  | .map entries => uptoBulkEntries entries + 1
  | .held _ => 1
def uptoBulkAll {H : Type} : List (DataW H) → Nat
  | [] => 0
  | d :: r => uptoBulk d + uptoBulkAll r
def uptoBulkEntries {H : Type} : List (Lit × DataW H) → Nat
  | [] => 0
  | x :: r => uptoBulkEntry x + uptoBulkEntries r
def uptoBulkEntry {H : Type} : Lit × DataW H → Nat
  | (.string bytes, d) => bytes.length + uptoBulk d + 1
  | (_, d) => uptoBulk d + 1
 end
def uptoSmall : (H : Type) → List (DataW H) → Bool := fun _ ds => decide (uptoBulkAll ds ≤ 1048576)
def OpenSpec.upto (s : _root_.Go.ChangeSpec) : _root_.Go.OpenSpec := { _root_.Go.OpenSpec.ofChange s with cond := some uptoSmall }

/-- 'laws.FnExactStepsAbove', WHERE WHAT IT READS IS OF BULK AT MOST 1048576: true; the input reads as it did. -/
def fnExactStepsAboveUptoRow : OpenClaim := { program := "ytomjebelgnecfaa", sum := "8ca5e8f8f2737d6205fbaaab3eeb9d79bbc875839a78abcc21459dee60c53262", func := "loop.example/g01374/laws.FnExactStepsAbove", spec := "fnExactStepsAbove", unfollowed := true, recurses := true, apart := false, narrowed := true }
def FnExactStepsAboveUptoSaid : Prop := fnExactStepsAboveUptoRow.holds Try.pinned (OpenSpec.upto fnExactStepsAboveSpec)

/-- 'laws.FnExactOppositeSteps', WHERE WHAT IT READS IS OF BULK AT MOST 1048576: true; the input reads as it did. -/
def fnExactOppositeStepsUptoRow : OpenClaim := { program := "ytomjebelgnecfaa", sum := "8ca5e8f8f2737d6205fbaaab3eeb9d79bbc875839a78abcc21459dee60c53262", func := "loop.example/g01374/laws.FnExactOppositeSteps", spec := "fnExactOppositeSteps", unfollowed := true, recurses := true, apart := false, narrowed := true }
def FnExactOppositeStepsUptoSaid : Prop := fnExactOppositeStepsUptoRow.holds Try.pinned (OpenSpec.upto fnExactOppositeStepsSpec)

/-- 'laws.FnExactStepsAtSide', WHERE WHAT IT READS IS OF BULK AT MOST 1048576: true; the input reads as it did. -/
def fnExactStepsAtSideUptoRow : OpenClaim := { program := "ytomjebelgnecfaa", sum := "8ca5e8f8f2737d6205fbaaab3eeb9d79bbc875839a78abcc21459dee60c53262", func := "loop.example/g01374/laws.FnExactStepsAtSide", spec := "fnExactStepsAtSide", inPlace := ["internal/bytealg.IndexByteString", "internal/bytealg.IndexString"], unfollowed := true, recurses := true, named := ["internal/bytealg.MaxLen"], apart := false, narrowed := true }
def FnExactStepsAtSideUptoSaid : Prop := fnExactStepsAtSideUptoRow.holds Try.pinned (OpenSpec.upto fnExactStepsAtSideSpec)

/-- 'laws.FnExactCountSides', WHERE WHAT IT READS IS OF BULK AT MOST 1048576: true; the input reads as it did. -/
def fnExactCountSidesUptoRow : OpenClaim := { program := "ytomjebelgnecfaa", sum := "8ca5e8f8f2737d6205fbaaab3eeb9d79bbc875839a78abcc21459dee60c53262", func := "loop.example/g01374/laws.FnExactCountSides", spec := "fnExactCountSides", inPlace := ["internal/bytealg.IndexByteString", "internal/bytealg.IndexString"], unfollowed := true, recurses := true, named := ["internal/bytealg.MaxLen"], apart := false, narrowed := true }
def FnExactCountSidesUptoSaid : Prop := fnExactCountSidesUptoRow.holds Try.pinned (OpenSpec.upto fnExactCountSidesSpec)

/-- 'laws.FnExactLampsAndWindows', WHERE WHAT IT READS IS OF BULK AT MOST 1048576: true; the input reads as it did. -/
def fnExactLampsAndWindowsUptoRow : OpenClaim := { program := "ytomjebelgnecfaa", sum := "8ca5e8f8f2737d6205fbaaab3eeb9d79bbc875839a78abcc21459dee60c53262", func := "loop.example/g01374/laws.FnExactLampsAndWindows", spec := "fnExactLampsAndWindows", unfollowed := true, recurses := true, apart := false, narrowed := true }
def FnExactLampsAndWindowsUptoSaid : Prop := fnExactLampsAndWindowsUptoRow.holds Try.pinned (OpenSpec.upto fnExactLampsAndWindowsSpec)

/-- 'laws.FnExactDarkSteps', WHERE WHAT IT READS IS OF BULK AT MOST 1048576: true; the input reads as it did. -/
def fnExactDarkStepsUptoRow : OpenClaim := { program := "ytomjebelgnecfaa", sum := "8ca5e8f8f2737d6205fbaaab3eeb9d79bbc875839a78abcc21459dee60c53262", func := "loop.example/g01374/laws.FnExactDarkSteps", spec := "fnExactDarkSteps", unfollowed := true, recurses := true, apart := false, narrowed := true }
def FnExactDarkStepsUptoSaid : Prop := fnExactDarkStepsUptoRow.holds Try.pinned (OpenSpec.upto fnExactDarkStepsSpec)

/-- 'laws.FnExactTwinMeets', WHERE WHAT IT READS IS OF BULK AT MOST 1048576: true; the input reads as it did. -/
def fnExactTwinMeetsUptoRow : OpenClaim := { program := "ytomjebelgnecfaa", sum := "8ca5e8f8f2737d6205fbaaab3eeb9d79bbc875839a78abcc21459dee60c53262", func := "loop.example/g01374/laws.FnExactTwinMeets", spec := "fnExactTwinMeets", unfollowed := true, recurses := true, apart := false, narrowed := true }
def FnExactTwinMeetsUptoSaid : Prop := fnExactTwinMeetsUptoRow.holds Try.pinned (OpenSpec.upto fnExactTwinMeetsSpec)

end Rows
end Go.Proofs.Ytomjebelgnecfaa
