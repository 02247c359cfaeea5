/-
  No cell of these rows narrows 'for every input' (looked for: loops, veiled, ifaces, maps, wideKeys, modest, calm, conditions, laid).
  DERIVED. THE GIVEN ROWS OF THIS SEAT. 8 by the template 'for every input the law returns true; each argument reads behind the call as it read before'; 0 by the template 'total and deterministic' (their statements: YtmolfeckeoimbaaTotals.lean).
  GIVEN WITH THE SEED: the statements are not yours to turn. If you find one false, say at which input.
  Laid BY PROGRAM, IN A SANDBOX (cutbox-rows.mjs): the forced cells as the released guide's own fill.sh prints them over the translation 190c2bd0876d0866… (all of the seat's roots in one cut). By AI agents, Wed Nov 11 2026. No macro, syntax, notation, axiom, sorry.
-/
import Derived.Test.YtmolfeckeoimbaaChecked
import GoSem.Claim
import GoSem.ClaimJoined
import GoSem.ClaimMapViews
import Derived.JoinedTies
import Derived.KernelRfl
namespace Go.Proofs.Ytmolfeckeoimbaa
/- THE CELL 'sum', in the pinned program and in every row, IS THE sha256 OF THE DUMP (.gsa) THAT YtmolfeckeoimbaaProg.lean LOADS. Nothing in Lean hashes anything: it is a label: what it is worth is what the hold of that sum in a sandbox is worth. -/
noncomputable def Try.pinned : Pinned := { name := "ytmolfeckeoimbaa", sum := "190c2bd0876d0866ca35e4cfabaea9422f2a2f19a2632342eec82e3996d15c39", checked := Try.checked }
namespace Rows
def none {H : Type} : Left H := { results := [], args := [] }

/-- 'laws.FnExactAreJumps': WHATEVER THE INPUT: true; the input reads as it did. -/
def fnExactAreJumpsSpec : ChangeSpec := { name := "fnExactAreJumps", fn := fun _ => fun
  | [d] => { results := [.lit (.bool true)], args := [d] }
  | _ => none }
def fnExactAreJumpsRow : OpenClaim := { program := "ytmolfeckeoimbaa", sum := "190c2bd0876d0866ca35e4cfabaea9422f2a2f19a2632342eec82e3996d15c39", func := "loop.example/g01374/laws.FnExactAreJumps", spec := "fnExactAreJumps", apart := false }
def FnExactAreJumpsSaid : Prop := fnExactAreJumpsRow.holds Try.pinned (OpenSpec.ofChange fnExactAreJumpsSpec)

/-- ITS FALSE NEIGHBOUR: 'it returns false'. Refute it at one input. -/
def fnExactAreJumpsWrong : ChangeSpec := { name := "fnExactAreJumps", fn := fun _ => fun
  | [d] => { results := [.lit (.bool false)], args := [d] }
  | _ => none }
def FnExactAreJumpsWrongFalsely : Prop := fnExactAreJumpsRow.holds Try.pinned (OpenSpec.ofChange fnExactAreJumpsWrong)

/-- 'laws.FnExactNextPlace': WHATEVER THE INPUT: true; the input reads as it did. -/
def fnExactNextPlaceSpec : ChangeSpec := { name := "fnExactNextPlace", fn := fun _ => fun
  | [d1, d2] => { results := [.lit (.bool true)], args := [d1, d2] }
  | _ => none }
def fnExactNextPlaceRow : OpenClaim := { program := "ytmolfeckeoimbaa", sum := "190c2bd0876d0866ca35e4cfabaea9422f2a2f19a2632342eec82e3996d15c39", func := "loop.example/g01374/laws.FnExactNextPlace", spec := "fnExactNextPlace", apart := false }
def FnExactNextPlaceSaid : Prop := fnExactNextPlaceRow.holds Try.pinned (OpenSpec.ofChange fnExactNextPlaceSpec)

/-- ITS FALSE NEIGHBOUR: 'it returns false'. Refute it at one input. -/
def fnExactNextPlaceWrong : ChangeSpec := { name := "fnExactNextPlace", fn := fun _ => fun
  | [d1, d2] => { results := [.lit (.bool false)], args := [d1, d2] }
  | _ => none }
def FnExactNextPlaceWrongFalsely : Prop := fnExactNextPlaceRow.holds Try.pinned (OpenSpec.ofChange fnExactNextPlaceWrong)

/-- 'laws.FnExactComingTo': WHATEVER THE INPUT: true; the input reads as it did. -/
def fnExactComingToSpec : ChangeSpec := { name := "fnExactComingTo", fn := fun _ => fun
  | [d1, d2] => { results := [.lit (.bool true)], args := [d1, d2] }
  | _ => none }
def fnExactComingToRow : OpenClaim := { program := "ytmolfeckeoimbaa", sum := "190c2bd0876d0866ca35e4cfabaea9422f2a2f19a2632342eec82e3996d15c39", func := "loop.example/g01374/laws.FnExactComingTo", spec := "fnExactComingTo", unfollowed := true, recurses := true, apart := false }
def FnExactComingToSaid : Prop := fnExactComingToRow.holds Try.pinned (OpenSpec.ofChange fnExactComingToSpec)

/-- ITS FALSE NEIGHBOUR: 'it returns false'. Refute it at one input. -/
def fnExactComingToWrong : ChangeSpec := { name := "fnExactComingTo", fn := fun _ => fun
  | [d1, d2] => { results := [.lit (.bool false)], args := [d1, d2] }
  | _ => none }
def FnExactComingToWrongFalsely : Prop := fnExactComingToRow.holds Try.pinned (OpenSpec.ofChange fnExactComingToWrong)

/-- 'laws.FnExactNoneComes': WHATEVER THE INPUT: true; the input reads as it did. -/
def fnExactNoneComesSpec : ChangeSpec := { name := "fnExactNoneComes", fn := fun _ => fun
  | [d] => { results := [.lit (.bool true)], args := [d] }
  | _ => none }
def fnExactNoneComesRow : OpenClaim := { program := "ytmolfeckeoimbaa", sum := "190c2bd0876d0866ca35e4cfabaea9422f2a2f19a2632342eec82e3996d15c39", func := "loop.example/g01374/laws.FnExactNoneComes", spec := "fnExactNoneComes", unfollowed := true, recurses := true, apart := false }
def FnExactNoneComesSaid : Prop := fnExactNoneComesRow.holds Try.pinned (OpenSpec.ofChange fnExactNoneComesSpec)

/-- ITS FALSE NEIGHBOUR: 'it returns false'. Refute it at one input. -/
def fnExactNoneComesWrong : ChangeSpec := { name := "fnExactNoneComes", fn := fun _ => fun
  | [d] => { results := [.lit (.bool false)], args := [d] }
  | _ => none }
def FnExactNoneComesWrongFalsely : Prop := fnExactNoneComesRow.holds Try.pinned (OpenSpec.ofChange fnExactNoneComesWrong)

/-- 'laws.FnExactBallsMeet': WHATEVER THE INPUT: true; the input reads as it did. -/
def fnExactBallsMeetSpec : ChangeSpec := { name := "fnExactBallsMeet", fn := fun _ => fun
  | [d1, d2, d3] => { results := [.lit (.bool true)], args := [d1, d2, d3] }
  | _ => none }
def fnExactBallsMeetRow : OpenClaim := { program := "ytmolfeckeoimbaa", sum := "190c2bd0876d0866ca35e4cfabaea9422f2a2f19a2632342eec82e3996d15c39", func := "loop.example/g01374/laws.FnExactBallsMeet", spec := "fnExactBallsMeet", apart := false }
def FnExactBallsMeetSaid : Prop := fnExactBallsMeetRow.holds Try.pinned (OpenSpec.ofChange fnExactBallsMeetSpec)

/-- ITS FALSE NEIGHBOUR: 'it returns false'. Refute it at one input. -/
def fnExactBallsMeetWrong : ChangeSpec := { name := "fnExactBallsMeet", fn := fun _ => fun
  | [d1, d2, d3] => { results := [.lit (.bool false)], args := [d1, d2, d3] }
  | _ => none }
def FnExactBallsMeetWrongFalsely : Prop := fnExactBallsMeetRow.holds Try.pinned (OpenSpec.ofChange fnExactBallsMeetWrong)

/-- 'laws.FnExactFewestChanges': WHATEVER THE INPUT: true; the input reads as it did. -/
def fnExactFewestChangesSpec : ChangeSpec := { name := "fnExactFewestChanges", fn := fun _ => fun
  | [d1, d2] => { results := [.lit (.bool true)], args := [d1, d2] }
  | _ => none }
def fnExactFewestChangesRow : OpenClaim := { program := "ytmolfeckeoimbaa", sum := "190c2bd0876d0866ca35e4cfabaea9422f2a2f19a2632342eec82e3996d15c39", func := "loop.example/g01374/laws.FnExactFewestChanges", spec := "fnExactFewestChanges", apart := false }
def FnExactFewestChangesSaid : Prop := fnExactFewestChangesRow.holds Try.pinned (OpenSpec.ofChange fnExactFewestChangesSpec)

/-- ITS FALSE NEIGHBOUR: 'it returns false'. Refute it at one input. -/
def fnExactFewestChangesWrong : ChangeSpec := { name := "fnExactFewestChanges", fn := fun _ => fun
  | [d1, d2] => { results := [.lit (.bool false)], args := [d1, d2] }
  | _ => none }
def FnExactFewestChangesWrongFalsely : Prop := fnExactFewestChangesRow.holds Try.pinned (OpenSpec.ofChange fnExactFewestChangesWrong)

/-- 'laws.FnExactChangeJump': WHATEVER THE INPUT: true; the input reads as it did. -/
def fnExactChangeJumpSpec : ChangeSpec := { name := "fnExactChangeJump", fn := fun _ => fun
  | [d1, d2, d3] => { results := [.lit (.bool true)], args := [d1, d2, d3] }
  | _ => none }
def fnExactChangeJumpRow : OpenClaim := { program := "ytmolfeckeoimbaa", sum := "190c2bd0876d0866ca35e4cfabaea9422f2a2f19a2632342eec82e3996d15c39", func := "loop.example/g01374/laws.FnExactChangeJump", spec := "fnExactChangeJump", apart := false }
def FnExactChangeJumpSaid : Prop := fnExactChangeJumpRow.holds Try.pinned (OpenSpec.ofChange fnExactChangeJumpSpec)

/-- ITS FALSE NEIGHBOUR: 'it returns false'. Refute it at one input. -/
def fnExactChangeJumpWrong : ChangeSpec := { name := "fnExactChangeJump", fn := fun _ => fun
  | [d1, d2, d3] => { results := [.lit (.bool false)], args := [d1, d2, d3] }
  | _ => none }
def FnExactChangeJumpWrongFalsely : Prop := fnExactChangeJumpRow.holds Try.pinned (OpenSpec.ofChange fnExactChangeJumpWrong)

/-- 'laws.FnExactTurnJumps': WHATEVER THE INPUT: true; the input reads as it did. -/
def fnExactTurnJumpsSpec : ChangeSpec := { name := "fnExactTurnJumps", fn := fun _ => fun
  | [d] => { results := [.lit (.bool true)], args := [d] }
  | _ => none }
def fnExactTurnJumpsRow : OpenClaim := { program := "ytmolfeckeoimbaa", sum := "190c2bd0876d0866ca35e4cfabaea9422f2a2f19a2632342eec82e3996d15c39", func := "loop.example/g01374/laws.FnExactTurnJumps", spec := "fnExactTurnJumps", unfollowed := true, recurses := true, apart := false }
def FnExactTurnJumpsSaid : Prop := fnExactTurnJumpsRow.holds Try.pinned (OpenSpec.ofChange fnExactTurnJumpsSpec)

/-- ITS FALSE NEIGHBOUR: 'it returns false'. Refute it at one input. -/
def fnExactTurnJumpsWrong : ChangeSpec := { name := "fnExactTurnJumps", fn := fun _ => fun
  | [d] => { results := [.lit (.bool false)], args := [d] }
  | _ => none }
def FnExactTurnJumpsWrongFalsely : Prop := fnExactTurnJumpsRow.holds Try.pinned (OpenSpec.ofChange fnExactTurnJumpsWrong)

/- THE SECOND FORM. 'bulk': how many values and letters a reading holds, each counted each time it is reached (what is shared counts as often as it is met; a slice's spare places count too). A statement '..UptoSaid' is the law's where the arguments, and the package variables that the reading takes, are together of bulk at most 1048576: NARROWER than '..Said'. Prove '..Said' where nothing that the law and all that it calls make is longer than what came in: it says more and counts as full. Else prove '..UptoSaid'. A law counts once. -/
mutual
def uptoBulk {H : Type} : DataW H → Nat
  | .lit (.string bytes) => bytes.length + 1
  | .lit _ => 1
  | .nil => 1
  | .ptr d => uptoBulk d + 1
  | .slice elems spare => uptoBulkAll elems + uptoBulkAll spare + 1
  | .agg parts => uptoBulkAll parts + 1
  | .iface _ d => uptoBulk d + 1
  | .map entries => uptoBulkEntries entries + 1
  | .held _ => 1
def uptoBulkAll {H : Type} : List (DataW H) → Nat
  | [] => 0
  | d :: r => uptoBulk d + uptoBulkAll r
def uptoBulkEntries {H : Type} : List (Lit × DataW H) → Nat
  | [] => 0
  | x :: r => uptoBulkEntry x + uptoBulkEntries r
def uptoBulkEntry {H : Type} : Lit × DataW H → Nat
  | (.string bytes, d) => bytes.length + uptoBulk d + 1
  | (_, d) => uptoBulk d + 1
 end
def uptoSmall : (H : Type) → List (DataW H) → Bool := fun _ ds => decide (uptoBulkAll ds ≤ 1048576)
def OpenSpec.upto (s : _root_.Go.ChangeSpec) : _root_.Go.OpenSpec := { _root_.Go.OpenSpec.ofChange s with cond := some uptoSmall }

/-- 'laws.FnExactAreJumps', WHERE WHAT IT READS IS OF BULK AT MOST 1048576: true; the input reads as it did. -/
def fnExactAreJumpsUptoRow : OpenClaim := { program := "ytmolfeckeoimbaa", sum := "190c2bd0876d0866ca35e4cfabaea9422f2a2f19a2632342eec82e3996d15c39", func := "loop.example/g01374/laws.FnExactAreJumps", spec := "fnExactAreJumps", apart := false, narrowed := true }
def FnExactAreJumpsUptoSaid : Prop := fnExactAreJumpsUptoRow.holds Try.pinned (OpenSpec.upto fnExactAreJumpsSpec)

/-- 'laws.FnExactNextPlace', WHERE WHAT IT READS IS OF BULK AT MOST 1048576: true; the input reads as it did. -/
def fnExactNextPlaceUptoRow : OpenClaim := { program := "ytmolfeckeoimbaa", sum := "190c2bd0876d0866ca35e4cfabaea9422f2a2f19a2632342eec82e3996d15c39", func := "loop.example/g01374/laws.FnExactNextPlace", spec := "fnExactNextPlace", apart := false, narrowed := true }
def FnExactNextPlaceUptoSaid : Prop := fnExactNextPlaceUptoRow.holds Try.pinned (OpenSpec.upto fnExactNextPlaceSpec)

/-- 'laws.FnExactComingTo', WHERE WHAT IT READS IS OF BULK AT MOST 1048576: true; the input reads as it did. -/
def fnExactComingToUptoRow : OpenClaim := { program := "ytmolfeckeoimbaa", sum := "190c2bd0876d0866ca35e4cfabaea9422f2a2f19a2632342eec82e3996d15c39", func := "loop.example/g01374/laws.FnExactComingTo", spec := "fnExactComingTo", unfollowed := true, recurses := true, apart := false, narrowed := true }
def FnExactComingToUptoSaid : Prop := fnExactComingToUptoRow.holds Try.pinned (OpenSpec.upto fnExactComingToSpec)

/-- 'laws.FnExactNoneComes', WHERE WHAT IT READS IS OF BULK AT MOST 1048576: true; the input reads as it did. -/
def fnExactNoneComesUptoRow : OpenClaim := { program := "ytmolfeckeoimbaa", sum := "190c2bd0876d0866ca35e4cfabaea9422f2a2f19a2632342eec82e3996d15c39", func := "loop.example/g01374/laws.FnExactNoneComes", spec := "fnExactNoneComes", unfollowed := true, recurses := true, apart := false, narrowed := true }
def FnExactNoneComesUptoSaid : Prop := fnExactNoneComesUptoRow.holds Try.pinned (OpenSpec.upto fnExactNoneComesSpec)

/-- 'laws.FnExactBallsMeet', WHERE WHAT IT READS IS OF BULK AT MOST 1048576: true; the input reads as it did. -/
def fnExactBallsMeetUptoRow : OpenClaim := { program := "ytmolfeckeoimbaa", sum := "190c2bd0876d0866ca35e4cfabaea9422f2a2f19a2632342eec82e3996d15c39", func := "loop.example/g01374/laws.FnExactBallsMeet", spec := "fnExactBallsMeet", apart := false, narrowed := true }
def FnExactBallsMeetUptoSaid : Prop := fnExactBallsMeetUptoRow.holds Try.pinned (OpenSpec.upto fnExactBallsMeetSpec)

/-- 'laws.FnExactFewestChanges', WHERE WHAT IT READS IS OF BULK AT MOST 1048576: true; the input reads as it did. -/
def fnExactFewestChangesUptoRow : OpenClaim := { program := "ytmolfeckeoimbaa", sum := "190c2bd0876d0866ca35e4cfabaea9422f2a2f19a2632342eec82e3996d15c39", func := "loop.example/g01374/laws.FnExactFewestChanges", spec := "fnExactFewestChanges", apart := false, narrowed := true }
def FnExactFewestChangesUptoSaid : Prop := fnExactFewestChangesUptoRow.holds Try.pinned (OpenSpec.upto fnExactFewestChangesSpec)

/-- 'laws.FnExactChangeJump', WHERE WHAT IT READS IS OF BULK AT MOST 1048576: true; the input reads as it did. -/
def fnExactChangeJumpUptoRow : OpenClaim := { program := "ytmolfeckeoimbaa", sum := "190c2bd0876d0866ca35e4cfabaea9422f2a2f19a2632342eec82e3996d15c39", func := "loop.example/g01374/laws.FnExactChangeJump", spec := "fnExactChangeJump", apart := false, narrowed := true }
def FnExactChangeJumpUptoSaid : Prop := fnExactChangeJumpUptoRow.holds Try.pinned (OpenSpec.upto fnExactChangeJumpSpec)

/-- 'laws.FnExactTurnJumps', WHERE WHAT IT READS IS OF BULK AT MOST 1048576: true; the input reads as it did. -/
def fnExactTurnJumpsUptoRow : OpenClaim := { program := "ytmolfeckeoimbaa", sum := "190c2bd0876d0866ca35e4cfabaea9422f2a2f19a2632342eec82e3996d15c39", func := "loop.example/g01374/laws.FnExactTurnJumps", spec := "fnExactTurnJumps", unfollowed := true, recurses := true, apart := false, narrowed := true }
def FnExactTurnJumpsUptoSaid : Prop := fnExactTurnJumpsUptoRow.holds Try.pinned (OpenSpec.upto fnExactTurnJumpsSpec)

end Rows
end Go.Proofs.Ytmolfeckeoimbaa
