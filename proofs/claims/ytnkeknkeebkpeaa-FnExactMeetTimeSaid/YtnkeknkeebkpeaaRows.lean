/-
  No cell of these rows narrows 'for every input' (looked for: loops, veiled, ifaces, maps, wideKeys, modest, calm, conditions, laid).
  DERIVED. THE GIVEN ROWS OF THIS SEAT. 10 by the template 'for every input the law returns true; each argument reads behind the call as it read before'; 0 by the template 'total and deterministic' (their statements: YtnkeknkeebkpeaaTotals.lean).
  GIVEN WITH THE SEED: the statements are not yours to turn. If you find one false, say at which input.
  Laid BY PROGRAM, IN A SANDBOX (cutbox-rows.mjs): the forced cells as the released guide's own fill.sh prints them over the translation 9f01cdb890135326… (all of the seat's roots in one cut). By AI agents, Wed Nov 11 2026. No macro, syntax, notation, axiom, sorry.
-/
import Derived.Test.YtnkeknkeebkpeaaChecked
import GoSem.Claim
import GoSem.ClaimJoined
import GoSem.ClaimMapViews
import Derived.JoinedTies
import Derived.KernelRfl
namespace Go.Proofs.Ytnkeknkeebkpeaa
/- THE CELL 'sum', in the pinned program and in every row, IS THE sha256 OF THE DUMP (.gsa) THAT YtnkeknkeebkpeaaProg.lean LOADS. Nothing in Lean hashes anything: it is a label: what it is worth is what the hold of that sum in a sandbox is worth. -/
noncomputable def Try.pinned : Pinned := { name := "ytnkeknkeebkpeaa", sum := "9f01cdb890135326159d3b1faebf23a2b730cf7489b6714f45f95dc3e65d8a36", checked := Try.checked }
namespace Rows
def none {H : Type} : Left H := { results := [], args := [] }

/-- 'laws.FnExactIsMoving': WHATEVER THE INPUT: true; the input reads as it did. -/
def fnExactIsMovingSpec : ChangeSpec := { name := "fnExactIsMoving", fn := fun _ => fun
  | [d] => { results := [.lit (.bool true)], args := [d] }
  | _ => none }
def fnExactIsMovingRow : OpenClaim := { program := "ytnkeknkeebkpeaa", sum := "9f01cdb890135326159d3b1faebf23a2b730cf7489b6714f45f95dc3e65d8a36", func := "loop.example/g01374/laws.FnExactIsMoving", spec := "fnExactIsMoving", apart := false }
def FnExactIsMovingSaid : Prop := fnExactIsMovingRow.holds Try.pinned (OpenSpec.ofChange fnExactIsMovingSpec)

/-- ITS FALSE NEIGHBOUR: 'it returns false'. Refute it at one input. -/
def fnExactIsMovingWrong : ChangeSpec := { name := "fnExactIsMoving", fn := fun _ => fun
  | [d] => { results := [.lit (.bool false)], args := [d] }
  | _ => none }
def FnExactIsMovingWrongFalsely : Prop := fnExactIsMovingRow.holds Try.pinned (OpenSpec.ofChange fnExactIsMovingWrong)

/-- 'laws.FnExactTimeWith': WHATEVER THE INPUT: true; the input reads as it did. -/
def fnExactTimeWithSpec : ChangeSpec := { name := "fnExactTimeWith", fn := fun _ => fun
  | [d1, d2] => { results := [.lit (.bool true)], args := [d1, d2] }
  | _ => none }
def fnExactTimeWithRow : OpenClaim := { program := "ytnkeknkeebkpeaa", sum := "9f01cdb890135326159d3b1faebf23a2b730cf7489b6714f45f95dc3e65d8a36", func := "loop.example/g01374/laws.FnExactTimeWith", spec := "fnExactTimeWith", unfollowed := true, recurses := true, apart := false }
def FnExactTimeWithSaid : Prop := fnExactTimeWithRow.holds Try.pinned (OpenSpec.ofChange fnExactTimeWithSpec)

/-- ITS FALSE NEIGHBOUR: 'it returns false'. Refute it at one input. -/
def fnExactTimeWithWrong : ChangeSpec := { name := "fnExactTimeWith", fn := fun _ => fun
  | [d1, d2] => { results := [.lit (.bool false)], args := [d1, d2] }
  | _ => none }
def FnExactTimeWithWrongFalsely : Prop := fnExactTimeWithRow.holds Try.pinned (OpenSpec.ofChange fnExactTimeWithWrong)

/-- 'laws.FnExactStepsWith': WHATEVER THE INPUT: true; the input reads as it did. -/
def fnExactStepsWithSpec : ChangeSpec := { name := "fnExactStepsWith", fn := fun _ => fun
  | [d1, d2] => { results := [.lit (.bool true)], args := [d1, d2] }
  | _ => none }
def fnExactStepsWithRow : OpenClaim := { program := "ytnkeknkeebkpeaa", sum := "9f01cdb890135326159d3b1faebf23a2b730cf7489b6714f45f95dc3e65d8a36", func := "loop.example/g01374/laws.FnExactStepsWith", spec := "fnExactStepsWith", unfollowed := true, recurses := true, apart := false }
def FnExactStepsWithSaid : Prop := fnExactStepsWithRow.holds Try.pinned (OpenSpec.ofChange fnExactStepsWithSpec)

/-- ITS FALSE NEIGHBOUR: 'it returns false'. Refute it at one input. -/
def fnExactStepsWithWrong : ChangeSpec := { name := "fnExactStepsWith", fn := fun _ => fun
  | [d1, d2] => { results := [.lit (.bool false)], args := [d1, d2] }
  | _ => none }
def FnExactStepsWithWrongFalsely : Prop := fnExactStepsWithRow.holds Try.pinned (OpenSpec.ofChange fnExactStepsWithWrong)

/-- 'laws.FnExactTimeAgainst': WHATEVER THE INPUT: true; the input reads as it did. -/
def fnExactTimeAgainstSpec : ChangeSpec := { name := "fnExactTimeAgainst", fn := fun _ => fun
  | [d1, d2] => { results := [.lit (.bool true)], args := [d1, d2] }
  | _ => none }
def fnExactTimeAgainstRow : OpenClaim := { program := "ytnkeknkeebkpeaa", sum := "9f01cdb890135326159d3b1faebf23a2b730cf7489b6714f45f95dc3e65d8a36", func := "loop.example/g01374/laws.FnExactTimeAgainst", spec := "fnExactTimeAgainst", unfollowed := true, recurses := true, apart := false }
def FnExactTimeAgainstSaid : Prop := fnExactTimeAgainstRow.holds Try.pinned (OpenSpec.ofChange fnExactTimeAgainstSpec)

/-- ITS FALSE NEIGHBOUR: 'it returns false'. Refute it at one input. -/
def fnExactTimeAgainstWrong : ChangeSpec := { name := "fnExactTimeAgainst", fn := fun _ => fun
  | [d1, d2] => { results := [.lit (.bool false)], args := [d1, d2] }
  | _ => none }
def FnExactTimeAgainstWrongFalsely : Prop := fnExactTimeAgainstRow.holds Try.pinned (OpenSpec.ofChange fnExactTimeAgainstWrong)

/-- 'laws.FnExactStepsAgainst': WHATEVER THE INPUT: true; the input reads as it did. -/
def fnExactStepsAgainstSpec : ChangeSpec := { name := "fnExactStepsAgainst", fn := fun _ => fun
  | [d1, d2] => { results := [.lit (.bool true)], args := [d1, d2] }
  | _ => none }
def fnExactStepsAgainstRow : OpenClaim := { program := "ytnkeknkeebkpeaa", sum := "9f01cdb890135326159d3b1faebf23a2b730cf7489b6714f45f95dc3e65d8a36", func := "loop.example/g01374/laws.FnExactStepsAgainst", spec := "fnExactStepsAgainst", unfollowed := true, recurses := true, apart := false }
def FnExactStepsAgainstSaid : Prop := fnExactStepsAgainstRow.holds Try.pinned (OpenSpec.ofChange fnExactStepsAgainstSpec)

/-- ITS FALSE NEIGHBOUR: 'it returns false'. Refute it at one input. -/
def fnExactStepsAgainstWrong : ChangeSpec := { name := "fnExactStepsAgainst", fn := fun _ => fun
  | [d1, d2] => { results := [.lit (.bool false)], args := [d1, d2] }
  | _ => none }
def FnExactStepsAgainstWrongFalsely : Prop := fnExactStepsAgainstRow.holds Try.pinned (OpenSpec.ofChange fnExactStepsAgainstWrong)

/-- 'laws.FnExactVisibleFromTwo': WHATEVER THE INPUT: true; the input reads as it did. -/
def fnExactVisibleFromTwoSpec : ChangeSpec := { name := "fnExactVisibleFromTwo", fn := fun _ => fun
  | [d1, d2, d3, d4] => { results := [.lit (.bool true)], args := [d1, d2, d3, d4] }
  | _ => none }
def fnExactVisibleFromTwoRow : OpenClaim := { program := "ytnkeknkeebkpeaa", sum := "9f01cdb890135326159d3b1faebf23a2b730cf7489b6714f45f95dc3e65d8a36", func := "loop.example/g01374/laws.FnExactVisibleFromTwo", spec := "fnExactVisibleFromTwo", apart := false }
def FnExactVisibleFromTwoSaid : Prop := fnExactVisibleFromTwoRow.holds Try.pinned (OpenSpec.ofChange fnExactVisibleFromTwoSpec)

/-- ITS FALSE NEIGHBOUR: 'it returns false'. Refute it at one input. -/
def fnExactVisibleFromTwoWrong : ChangeSpec := { name := "fnExactVisibleFromTwo", fn := fun _ => fun
  | [d1, d2, d3, d4] => { results := [.lit (.bool false)], args := [d1, d2, d3, d4] }
  | _ => none }
def FnExactVisibleFromTwoWrongFalsely : Prop := fnExactVisibleFromTwoRow.holds Try.pinned (OpenSpec.ofChange fnExactVisibleFromTwoWrong)

/-- 'laws.FnExactSpeedFromTwo': WHATEVER THE INPUT: true; the input reads as it did. -/
def fnExactSpeedFromTwoSpec : ChangeSpec := { name := "fnExactSpeedFromTwo", fn := fun _ => fun
  | [d1, d2, d3, d4] => { results := [.lit (.bool true)], args := [d1, d2, d3, d4] }
  | _ => none }
def fnExactSpeedFromTwoRow : OpenClaim := { program := "ytnkeknkeebkpeaa", sum := "9f01cdb890135326159d3b1faebf23a2b730cf7489b6714f45f95dc3e65d8a36", func := "loop.example/g01374/laws.FnExactSpeedFromTwo", spec := "fnExactSpeedFromTwo", apart := false }
def FnExactSpeedFromTwoSaid : Prop := fnExactSpeedFromTwoRow.holds Try.pinned (OpenSpec.ofChange fnExactSpeedFromTwoSpec)

/-- ITS FALSE NEIGHBOUR: 'it returns false'. Refute it at one input. -/
def fnExactSpeedFromTwoWrong : ChangeSpec := { name := "fnExactSpeedFromTwo", fn := fun _ => fun
  | [d1, d2, d3, d4] => { results := [.lit (.bool false)], args := [d1, d2, d3, d4] }
  | _ => none }
def FnExactSpeedFromTwoWrongFalsely : Prop := fnExactSpeedFromTwoRow.holds Try.pinned (OpenSpec.ofChange fnExactSpeedFromTwoWrong)

/-- 'laws.FnExactVisibleFromBoth': WHATEVER THE INPUT: true; the input reads as it did. -/
def fnExactVisibleFromBothSpec : ChangeSpec := { name := "fnExactVisibleFromBoth", fn := fun _ => fun
  | [d1, d2, d3] => { results := [.lit (.bool true)], args := [d1, d2, d3] }
  | _ => none }
def fnExactVisibleFromBothRow : OpenClaim := { program := "ytnkeknkeebkpeaa", sum := "9f01cdb890135326159d3b1faebf23a2b730cf7489b6714f45f95dc3e65d8a36", func := "loop.example/g01374/laws.FnExactVisibleFromBoth", spec := "fnExactVisibleFromBoth", apart := false }
def FnExactVisibleFromBothSaid : Prop := fnExactVisibleFromBothRow.holds Try.pinned (OpenSpec.ofChange fnExactVisibleFromBothSpec)

/-- ITS FALSE NEIGHBOUR: 'it returns false'. Refute it at one input. -/
def fnExactVisibleFromBothWrong : ChangeSpec := { name := "fnExactVisibleFromBoth", fn := fun _ => fun
  | [d1, d2, d3] => { results := [.lit (.bool false)], args := [d1, d2, d3] }
  | _ => none }
def FnExactVisibleFromBothWrongFalsely : Prop := fnExactVisibleFromBothRow.holds Try.pinned (OpenSpec.ofChange fnExactVisibleFromBothWrong)

/-- 'laws.FnExactPaceForSteps': WHATEVER THE INPUT: true; the input reads as it did. -/
def fnExactPaceForStepsSpec : ChangeSpec := { name := "fnExactPaceForSteps", fn := fun _ => fun
  | [d1, d2] => { results := [.lit (.bool true)], args := [d1, d2] }
  | _ => none }
def fnExactPaceForStepsRow : OpenClaim := { program := "ytnkeknkeebkpeaa", sum := "9f01cdb890135326159d3b1faebf23a2b730cf7489b6714f45f95dc3e65d8a36", func := "loop.example/g01374/laws.FnExactPaceForSteps", spec := "fnExactPaceForSteps", apart := false }
def FnExactPaceForStepsSaid : Prop := fnExactPaceForStepsRow.holds Try.pinned (OpenSpec.ofChange fnExactPaceForStepsSpec)

/-- ITS FALSE NEIGHBOUR: 'it returns false'. Refute it at one input. -/
def fnExactPaceForStepsWrong : ChangeSpec := { name := "fnExactPaceForSteps", fn := fun _ => fun
  | [d1, d2] => { results := [.lit (.bool false)], args := [d1, d2] }
  | _ => none }
def FnExactPaceForStepsWrongFalsely : Prop := fnExactPaceForStepsRow.holds Try.pinned (OpenSpec.ofChange fnExactPaceForStepsWrong)

/-- 'laws.FnExactMeetTime': WHATEVER THE INPUT: true; the input reads as it did. -/
def fnExactMeetTimeSpec : ChangeSpec := { name := "fnExactMeetTime", fn := fun _ => fun
  | [d1, d2, d3] => { results := [.lit (.bool true)], args := [d1, d2, d3] }
  | _ => none }
def fnExactMeetTimeRow : OpenClaim := { program := "ytnkeknkeebkpeaa", sum := "9f01cdb890135326159d3b1faebf23a2b730cf7489b6714f45f95dc3e65d8a36", func := "loop.example/g01374/laws.FnExactMeetTime", spec := "fnExactMeetTime", apart := false }
def FnExactMeetTimeSaid : Prop := fnExactMeetTimeRow.holds Try.pinned (OpenSpec.ofChange fnExactMeetTimeSpec)

/-- ITS FALSE NEIGHBOUR: 'it returns false'. Refute it at one input. -/
def fnExactMeetTimeWrong : ChangeSpec := { name := "fnExactMeetTime", fn := fun _ => fun
  | [d1, d2, d3] => { results := [.lit (.bool false)], args := [d1, d2, d3] }
  | _ => none }
def FnExactMeetTimeWrongFalsely : Prop := fnExactMeetTimeRow.holds Try.pinned (OpenSpec.ofChange fnExactMeetTimeWrong)

/- THE SECOND FORM. 'bulk': how many values and letters a reading holds, each counted each time it is reached (what is shared counts as often as it is met; a slice's spare places count too). A statement '..UptoSaid' is the law's where the arguments, and the package variables that the reading takes, are together of bulk at most 1048576: NARROWER than '..Said'. Prove '..Said' where nothing that the law and all that it calls make is longer than what came in: it says more and counts as full. Else prove '..UptoSaid'. A law counts once. -/
mutual
def uptoBulk {H : Type} : DataW H → Nat
  | .lit (.string bytes) => bytes.length + 1
  | .lit _ => 1
  | .nil => 1
  | .ptr d => uptoBulk d + 1
  | .slice elems spare => uptoBulkAll elems + uptoBulkAll spare + 1
  | .agg parts => uptoBulkAll parts + 1
  | .iface _ d => uptoBulk d + 1
  | .map entries => uptoBulkEntries entries + 1
  | .held _ => 1
def uptoBulkAll {H : Type} : List (DataW H) → Nat
  | [] => 0
  | d :: r => uptoBulk d + uptoBulkAll r
def uptoBulkEntries {H : Type} : List (Lit × DataW H) → Nat
  | [] => 0
  | x :: r => uptoBulkEntry x + uptoBulkEntries r
def uptoBulkEntry {H : Type} : Lit × DataW H → Nat
  | (.string bytes, d) => bytes.length + uptoBulk d + 1
  | (_, d) => uptoBulk d + 1
 end
def uptoSmall : (H : Type) → List (DataW H) → Bool := fun _ ds => decide (uptoBulkAll ds ≤ 1048576)
def OpenSpec.upto (s : _root_.Go.ChangeSpec) : _root_.Go.OpenSpec := { _root_.Go.OpenSpec.ofChange s with cond := some uptoSmall }

/-- 'laws.FnExactIsMoving', WHERE WHAT IT READS IS OF BULK AT MOST 1048576: true; the input reads as it did. -/
def fnExactIsMovingUptoRow : OpenClaim := { program := "ytnkeknkeebkpeaa", sum := "9f01cdb890135326159d3b1faebf23a2b730cf7489b6714f45f95dc3e65d8a36", func := "loop.example/g01374/laws.FnExactIsMoving", spec := "fnExactIsMoving", apart := false, narrowed := true }
def FnExactIsMovingUptoSaid : Prop := fnExactIsMovingUptoRow.holds Try.pinned (OpenSpec.upto fnExactIsMovingSpec)

/-- 'laws.FnExactTimeWith', WHERE WHAT IT READS IS OF BULK AT MOST 1048576: true; the input reads as it did. -/
def fnExactTimeWithUptoRow : OpenClaim := { program := "ytnkeknkeebkpeaa", sum := "9f01cdb890135326159d3b1faebf23a2b730cf7489b6714f45f95dc3e65d8a36", func := "loop.example/g01374/laws.FnExactTimeWith", spec := "fnExactTimeWith", unfollowed := true, recurses := true, apart := false, narrowed := true }
def FnExactTimeWithUptoSaid : Prop := fnExactTimeWithUptoRow.holds Try.pinned (OpenSpec.upto fnExactTimeWithSpec)

/-- 'laws.FnExactStepsWith', WHERE WHAT IT READS IS OF BULK AT MOST 1048576: true; the input reads as it did. -/
def fnExactStepsWithUptoRow : OpenClaim := { program := "ytnkeknkeebkpeaa", sum := "9f01cdb890135326159d3b1faebf23a2b730cf7489b6714f45f95dc3e65d8a36", func := "loop.example/g01374/laws.FnExactStepsWith", spec := "fnExactStepsWith", unfollowed := true, recurses := true, apart := false, narrowed := true }
def FnExactStepsWithUptoSaid : Prop := fnExactStepsWithUptoRow.holds Try.pinned (OpenSpec.upto fnExactStepsWithSpec)

/-- 'laws.FnExactTimeAgainst', WHERE WHAT IT READS IS OF BULK AT MOST 1048576: true; the input reads as it did. -/
def fnExactTimeAgainstUptoRow : OpenClaim := { program := "ytnkeknkeebkpeaa", sum := "9f01cdb890135326159d3b1faebf23a2b730cf7489b6714f45f95dc3e65d8a36", func := "loop.example/g01374/laws.FnExactTimeAgainst", spec := "fnExactTimeAgainst", unfollowed := true, recurses := true, apart := false, narrowed := true }
def FnExactTimeAgainstUptoSaid : Prop := fnExactTimeAgainstUptoRow.holds Try.pinned (OpenSpec.upto fnExactTimeAgainstSpec)

/-- 'laws.FnExactStepsAgainst', WHERE WHAT IT READS IS OF BULK AT MOST 1048576: true; the input reads as it did. -/
def fnExactStepsAgainstUptoRow : OpenClaim := { program := "ytnkeknkeebkpeaa", sum := "9f01cdb890135326159d3b1faebf23a2b730cf7489b6714f45f95dc3e65d8a36", func := "loop.example/g01374/laws.FnExactStepsAgainst", spec := "fnExactStepsAgainst", unfollowed := true, recurses := true, apart := false, narrowed := true }
def FnExactStepsAgainstUptoSaid : Prop := fnExactStepsAgainstUptoRow.holds Try.pinned (OpenSpec.upto fnExactStepsAgainstSpec)

/-- 'laws.FnExactVisibleFromTwo', WHERE WHAT IT READS IS OF BULK AT MOST 1048576: true; the input reads as it did. -/
def fnExactVisibleFromTwoUptoRow : OpenClaim := { program := "ytnkeknkeebkpeaa", sum := "9f01cdb890135326159d3b1faebf23a2b730cf7489b6714f45f95dc3e65d8a36", func := "loop.example/g01374/laws.FnExactVisibleFromTwo", spec := "fnExactVisibleFromTwo", apart := false, narrowed := true }
def FnExactVisibleFromTwoUptoSaid : Prop := fnExactVisibleFromTwoUptoRow.holds Try.pinned (OpenSpec.upto fnExactVisibleFromTwoSpec)

/-- 'laws.FnExactSpeedFromTwo', WHERE WHAT IT READS IS OF BULK AT MOST 1048576: true; the input reads as it did. -/
def fnExactSpeedFromTwoUptoRow : OpenClaim := { program := "ytnkeknkeebkpeaa", sum := "9f01cdb890135326159d3b1faebf23a2b730cf7489b6714f45f95dc3e65d8a36", func := "loop.example/g01374/laws.FnExactSpeedFromTwo", spec := "fnExactSpeedFromTwo", apart := false, narrowed := true }
def FnExactSpeedFromTwoUptoSaid : Prop := fnExactSpeedFromTwoUptoRow.holds Try.pinned (OpenSpec.upto fnExactSpeedFromTwoSpec)

/-- 'laws.FnExactVisibleFromBoth', WHERE WHAT IT READS IS OF BULK AT MOST 1048576: true; the input reads as it did. -/
def fnExactVisibleFromBothUptoRow : OpenClaim := { program := "ytnkeknkeebkpeaa", sum := "9f01cdb890135326159d3b1faebf23a2b730cf7489b6714f45f95dc3e65d8a36", func := "loop.example/g01374/laws.FnExactVisibleFromBoth", spec := "fnExactVisibleFromBoth", apart := false, narrowed := true }
def FnExactVisibleFromBothUptoSaid : Prop := fnExactVisibleFromBothUptoRow.holds Try.pinned (OpenSpec.upto fnExactVisibleFromBothSpec)

/-- 'laws.FnExactPaceForSteps', WHERE WHAT IT READS IS OF BULK AT MOST 1048576: true; the input reads as it did. -/
def fnExactPaceForStepsUptoRow : OpenClaim := { program := "ytnkeknkeebkpeaa", sum := "9f01cdb890135326159d3b1faebf23a2b730cf7489b6714f45f95dc3e65d8a36", func := "loop.example/g01374/laws.FnExactPaceForSteps", spec := "fnExactPaceForSteps", apart := false, narrowed := true }
def FnExactPaceForStepsUptoSaid : Prop := fnExactPaceForStepsUptoRow.holds Try.pinned (OpenSpec.upto fnExactPaceForStepsSpec)

/-- 'laws.FnExactMeetTime', WHERE WHAT IT READS IS OF BULK AT MOST 1048576: true; the input reads as it did. -/
def fnExactMeetTimeUptoRow : OpenClaim := { program := "ytnkeknkeebkpeaa", sum := "9f01cdb890135326159d3b1faebf23a2b730cf7489b6714f45f95dc3e65d8a36", func := "loop.example/g01374/laws.FnExactMeetTime", spec := "fnExactMeetTime", apart := false, narrowed := true }
def FnExactMeetTimeUptoSaid : Prop := fnExactMeetTimeUptoRow.holds Try.pinned (OpenSpec.upto fnExactMeetTimeSpec)

end Rows
end Go.Proofs.Ytnkeknkeebkpeaa
