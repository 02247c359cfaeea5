/-
  No cell of these rows narrows 'for every input' (looked for: loops, veiled, ifaces, maps, wideKeys, modest, calm, conditions, laid).
  DERIVED. THE GIVEN ROWS OF THIS SEAT. 12 by the template 'for every input the law returns true; each argument reads behind the call as it read before'; 0 by the template 'total and deterministic' (their statements: YtlhafgepalbehaaTotals.lean).
  GIVEN WITH THE SEED: the statements are not yours to turn. If you find one false, say at which input.
  Laid BY PROGRAM, IN A SANDBOX (cutbox-rows.mjs): the forced cells as the released guide's own fill.sh prints them over the translation 24bda2d22b90d544… (all of the seat's roots in one cut). By AI agents, Wed Nov 11 2026. No macro, syntax, notation, axiom, sorry.
-/
import Derived.Test.YtlhafgepalbehaaChecked
import GoSem.Claim
import GoSem.ClaimJoined
import GoSem.ClaimMapViews
import Derived.JoinedTies
import Derived.KernelRfl
namespace Go.Proofs.Ytlhafgepalbehaa
/- THE CELL 'sum', in the pinned program and in every row, IS THE sha256 OF THE DUMP (.gsa) THAT YtlhafgepalbehaaProg.lean LOADS. Nothing in Lean hashes anything: it is a label: what it is worth is what the hold of that sum in a sandbox is worth. -/
noncomputable def Try.pinned : Pinned := { name := "ytlhafgepalbehaa", sum := "24bda2d22b90d544c7ce079f4a22d618b7f94e972da47de9f607adbc0570ea71", checked := Try.checked }
namespace Rows
def none {H : Type} : Left H := { results := [], args := [] }

/-- 'laws.FnExactIsSpiral': WHATEVER THE INPUT: true; the input reads as it did. -/
def fnExactIsSpiralSpec : ChangeSpec := { name := "fnExactIsSpiral", fn := fun _ => fun
  | [d] => { results := [.lit (.bool true)], args := [d] }
  | _ => none }
def fnExactIsSpiralRow : OpenClaim := { program := "ytlhafgepalbehaa", sum := "24bda2d22b90d544c7ce079f4a22d618b7f94e972da47de9f607adbc0570ea71", func := "loop.example/g01374/laws.FnExactIsSpiral", spec := "fnExactIsSpiral", apart := false }
def FnExactIsSpiralSaid : Prop := fnExactIsSpiralRow.holds Try.pinned (OpenSpec.ofChange fnExactIsSpiralSpec)

/-- ITS FALSE NEIGHBOUR: 'it returns false'. Refute it at one input. -/
def fnExactIsSpiralWrong : ChangeSpec := { name := "fnExactIsSpiral", fn := fun _ => fun
  | [d] => { results := [.lit (.bool false)], args := [d] }
  | _ => none }
def FnExactIsSpiralWrongFalsely : Prop := fnExactIsSpiralRow.holds Try.pinned (OpenSpec.ofChange fnExactIsSpiralWrong)

/-- 'laws.FnExactAngleOf': WHATEVER THE INPUT: true; the input reads as it did. -/
def fnExactAngleOfSpec : ChangeSpec := { name := "fnExactAngleOf", fn := fun _ => fun
  | [d1, d2] => { results := [.lit (.bool true)], args := [d1, d2] }
  | _ => none }
def fnExactAngleOfRow : OpenClaim := { program := "ytlhafgepalbehaa", sum := "24bda2d22b90d544c7ce079f4a22d618b7f94e972da47de9f607adbc0570ea71", func := "loop.example/g01374/laws.FnExactAngleOf", spec := "fnExactAngleOf", apart := false }
def FnExactAngleOfSaid : Prop := fnExactAngleOfRow.holds Try.pinned (OpenSpec.ofChange fnExactAngleOfSpec)

/-- ITS FALSE NEIGHBOUR: 'it returns false'. Refute it at one input. -/
def fnExactAngleOfWrong : ChangeSpec := { name := "fnExactAngleOf", fn := fun _ => fun
  | [d1, d2] => { results := [.lit (.bool false)], args := [d1, d2] }
  | _ => none }
def FnExactAngleOfWrongFalsely : Prop := fnExactAngleOfRow.holds Try.pinned (OpenSpec.ofChange fnExactAngleOfWrong)

/-- 'laws.FnExactTurnsOf': WHATEVER THE INPUT: true; the input reads as it did. -/
def fnExactTurnsOfSpec : ChangeSpec := { name := "fnExactTurnsOf", fn := fun _ => fun
  | [d] => { results := [.lit (.bool true)], args := [d] }
  | _ => none }
def fnExactTurnsOfRow : OpenClaim := { program := "ytlhafgepalbehaa", sum := "24bda2d22b90d544c7ce079f4a22d618b7f94e972da47de9f607adbc0570ea71", func := "loop.example/g01374/laws.FnExactTurnsOf", spec := "fnExactTurnsOf", apart := false }
def FnExactTurnsOfSaid : Prop := fnExactTurnsOfRow.holds Try.pinned (OpenSpec.ofChange fnExactTurnsOfSpec)

/-- ITS FALSE NEIGHBOUR: 'it returns false'. Refute it at one input. -/
def fnExactTurnsOfWrong : ChangeSpec := { name := "fnExactTurnsOf", fn := fun _ => fun
  | [d] => { results := [.lit (.bool false)], args := [d] }
  | _ => none }
def FnExactTurnsOfWrongFalsely : Prop := fnExactTurnsOfRow.holds Try.pinned (OpenSpec.ofChange fnExactTurnsOfWrong)

/-- 'laws.FnExactHeadOver': WHATEVER THE INPUT: true; the input reads as it did. -/
def fnExactHeadOverSpec : ChangeSpec := { name := "fnExactHeadOver", fn := fun _ => fun
  | [d1, d2] => { results := [.lit (.bool true)], args := [d1, d2] }
  | _ => none }
def fnExactHeadOverRow : OpenClaim := { program := "ytlhafgepalbehaa", sum := "24bda2d22b90d544c7ce079f4a22d618b7f94e972da47de9f607adbc0570ea71", func := "loop.example/g01374/laws.FnExactHeadOver", spec := "fnExactHeadOver", unfollowed := true, recurses := true, apart := false }
def FnExactHeadOverSaid : Prop := fnExactHeadOverRow.holds Try.pinned (OpenSpec.ofChange fnExactHeadOverSpec)

/-- ITS FALSE NEIGHBOUR: 'it returns false'. Refute it at one input. -/
def fnExactHeadOverWrong : ChangeSpec := { name := "fnExactHeadOver", fn := fun _ => fun
  | [d1, d2] => { results := [.lit (.bool false)], args := [d1, d2] }
  | _ => none }
def FnExactHeadOverWrongFalsely : Prop := fnExactHeadOverRow.holds Try.pinned (OpenSpec.ofChange fnExactHeadOverWrong)

/-- 'laws.FnExactLeastRound': WHATEVER THE INPUT: true; the input reads as it did. -/
def fnExactLeastRoundSpec : ChangeSpec := { name := "fnExactLeastRound", fn := fun _ => fun
  | [d1, d2] => { results := [.lit (.bool true)], args := [d1, d2] }
  | _ => none }
def fnExactLeastRoundRow : OpenClaim := { program := "ytlhafgepalbehaa", sum := "24bda2d22b90d544c7ce079f4a22d618b7f94e972da47de9f607adbc0570ea71", func := "loop.example/g01374/laws.FnExactLeastRound", spec := "fnExactLeastRound", apart := false }
def FnExactLeastRoundSaid : Prop := fnExactLeastRoundRow.holds Try.pinned (OpenSpec.ofChange fnExactLeastRoundSpec)

/-- ITS FALSE NEIGHBOUR: 'it returns false'. Refute it at one input. -/
def fnExactLeastRoundWrong : ChangeSpec := { name := "fnExactLeastRound", fn := fun _ => fun
  | [d1, d2] => { results := [.lit (.bool false)], args := [d1, d2] }
  | _ => none }
def FnExactLeastRoundWrongFalsely : Prop := fnExactLeastRoundRow.holds Try.pinned (OpenSpec.ofChange fnExactLeastRoundWrong)

/-- 'laws.FnExactAreOpposite': WHATEVER THE INPUT: true; the input reads as it did. -/
def fnExactAreOppositeSpec : ChangeSpec := { name := "fnExactAreOpposite", fn := fun _ => fun
  | [d1, d2, d3] => { results := [.lit (.bool true)], args := [d1, d2, d3] }
  | _ => none }
def fnExactAreOppositeRow : OpenClaim := { program := "ytlhafgepalbehaa", sum := "24bda2d22b90d544c7ce079f4a22d618b7f94e972da47de9f607adbc0570ea71", func := "loop.example/g01374/laws.FnExactAreOpposite", spec := "fnExactAreOpposite", apart := false }
def FnExactAreOppositeSaid : Prop := fnExactAreOppositeRow.holds Try.pinned (OpenSpec.ofChange fnExactAreOppositeSpec)

/-- ITS FALSE NEIGHBOUR: 'it returns false'. Refute it at one input. -/
def fnExactAreOppositeWrong : ChangeSpec := { name := "fnExactAreOpposite", fn := fun _ => fun
  | [d1, d2, d3] => { results := [.lit (.bool false)], args := [d1, d2, d3] }
  | _ => none }
def FnExactAreOppositeWrongFalsely : Prop := fnExactAreOppositeRow.holds Try.pinned (OpenSpec.ofChange fnExactAreOppositeWrong)

/-- 'laws.FnExactApartAround': WHATEVER THE INPUT: true; the input reads as it did. -/
def fnExactApartAroundSpec : ChangeSpec := { name := "fnExactApartAround", fn := fun _ => fun
  | [d1, d2, d3] => { results := [.lit (.bool true)], args := [d1, d2, d3] }
  | _ => none }
def fnExactApartAroundRow : OpenClaim := { program := "ytlhafgepalbehaa", sum := "24bda2d22b90d544c7ce079f4a22d618b7f94e972da47de9f607adbc0570ea71", func := "loop.example/g01374/laws.FnExactApartAround", spec := "fnExactApartAround", apart := false }
def FnExactApartAroundSaid : Prop := fnExactApartAroundRow.holds Try.pinned (OpenSpec.ofChange fnExactApartAroundSpec)

/-- ITS FALSE NEIGHBOUR: 'it returns false'. Refute it at one input. -/
def fnExactApartAroundWrong : ChangeSpec := { name := "fnExactApartAround", fn := fun _ => fun
  | [d1, d2, d3] => { results := [.lit (.bool false)], args := [d1, d2, d3] }
  | _ => none }
def FnExactApartAroundWrongFalsely : Prop := fnExactApartAroundRow.holds Try.pinned (OpenSpec.ofChange fnExactApartAroundWrong)

/-- 'laws.FnExactFewestLamps': WHATEVER THE INPUT: true; the input reads as it did. -/
def fnExactFewestLampsSpec : ChangeSpec := { name := "fnExactFewestLamps", fn := fun _ => fun
  | [d1, d2] => { results := [.lit (.bool true)], args := [d1, d2] }
  | _ => none }
def fnExactFewestLampsRow : OpenClaim := { program := "ytlhafgepalbehaa", sum := "24bda2d22b90d544c7ce079f4a22d618b7f94e972da47de9f607adbc0570ea71", func := "loop.example/g01374/laws.FnExactFewestLamps", spec := "fnExactFewestLamps", apart := false }
def FnExactFewestLampsSaid : Prop := fnExactFewestLampsRow.holds Try.pinned (OpenSpec.ofChange fnExactFewestLampsSpec)

/-- ITS FALSE NEIGHBOUR: 'it returns false'. Refute it at one input. -/
def fnExactFewestLampsWrong : ChangeSpec := { name := "fnExactFewestLamps", fn := fun _ => fun
  | [d1, d2] => { results := [.lit (.bool false)], args := [d1, d2] }
  | _ => none }
def FnExactFewestLampsWrongFalsely : Prop := fnExactFewestLampsRow.holds Try.pinned (OpenSpec.ofChange fnExactFewestLampsWrong)

/-- 'laws.FnExactCountAngles': WHATEVER THE INPUT: true; the input reads as it did. -/
def fnExactCountAnglesSpec : ChangeSpec := { name := "fnExactCountAngles", fn := fun _ => fun
  | [d1, d2] => { results := [.lit (.bool true)], args := [d1, d2] }
  | _ => none }
def fnExactCountAnglesRow : OpenClaim := { program := "ytlhafgepalbehaa", sum := "24bda2d22b90d544c7ce079f4a22d618b7f94e972da47de9f607adbc0570ea71", func := "loop.example/g01374/laws.FnExactCountAngles", spec := "fnExactCountAngles", apart := false }
def FnExactCountAnglesSaid : Prop := fnExactCountAnglesRow.holds Try.pinned (OpenSpec.ofChange fnExactCountAnglesSpec)

/-- ITS FALSE NEIGHBOUR: 'it returns false'. Refute it at one input. -/
def fnExactCountAnglesWrong : ChangeSpec := { name := "fnExactCountAngles", fn := fun _ => fun
  | [d1, d2] => { results := [.lit (.bool false)], args := [d1, d2] }
  | _ => none }
def FnExactCountAnglesWrongFalsely : Prop := fnExactCountAnglesRow.holds Try.pinned (OpenSpec.ofChange fnExactCountAnglesWrong)

/-- 'laws.FnExactHeightSpiral': WHATEVER THE INPUT: true; the input reads as it did. -/
def fnExactHeightSpiralSpec : ChangeSpec := { name := "fnExactHeightSpiral", fn := fun _ => fun
  | [d1, d2] => { results := [.lit (.bool true)], args := [d1, d2] }
  | _ => none }
def fnExactHeightSpiralRow : OpenClaim := { program := "ytlhafgepalbehaa", sum := "24bda2d22b90d544c7ce079f4a22d618b7f94e972da47de9f607adbc0570ea71", func := "loop.example/g01374/laws.FnExactHeightSpiral", spec := "fnExactHeightSpiral", apart := false }
def FnExactHeightSpiralSaid : Prop := fnExactHeightSpiralRow.holds Try.pinned (OpenSpec.ofChange fnExactHeightSpiralSpec)

/-- ITS FALSE NEIGHBOUR: 'it returns false'. Refute it at one input. -/
def fnExactHeightSpiralWrong : ChangeSpec := { name := "fnExactHeightSpiral", fn := fun _ => fun
  | [d1, d2] => { results := [.lit (.bool false)], args := [d1, d2] }
  | _ => none }
def FnExactHeightSpiralWrongFalsely : Prop := fnExactHeightSpiralRow.holds Try.pinned (OpenSpec.ofChange fnExactHeightSpiralWrong)

/-- 'laws.FnExactCutSpiral': WHATEVER THE INPUT: true; the input reads as it did. -/
def fnExactCutSpiralSpec : ChangeSpec := { name := "fnExactCutSpiral", fn := fun _ => fun
  | [d1, d2] => { results := [.lit (.bool true)], args := [d1, d2] }
  | _ => none }
def fnExactCutSpiralRow : OpenClaim := { program := "ytlhafgepalbehaa", sum := "24bda2d22b90d544c7ce079f4a22d618b7f94e972da47de9f607adbc0570ea71", func := "loop.example/g01374/laws.FnExactCutSpiral", spec := "fnExactCutSpiral", apart := false }
def FnExactCutSpiralSaid : Prop := fnExactCutSpiralRow.holds Try.pinned (OpenSpec.ofChange fnExactCutSpiralSpec)

/-- ITS FALSE NEIGHBOUR: 'it returns false'. Refute it at one input. -/
def fnExactCutSpiralWrong : ChangeSpec := { name := "fnExactCutSpiral", fn := fun _ => fun
  | [d1, d2] => { results := [.lit (.bool false)], args := [d1, d2] }
  | _ => none }
def FnExactCutSpiralWrongFalsely : Prop := fnExactCutSpiralRow.holds Try.pinned (OpenSpec.ofChange fnExactCutSpiralWrong)

/-- 'laws.FnExactSideOf': WHATEVER THE INPUT: true; the input reads as it did. -/
def fnExactSideOfSpec : ChangeSpec := { name := "fnExactSideOf", fn := fun _ => fun
  | [d1, d2] => { results := [.lit (.bool true)], args := [d1, d2] }
  | _ => none }
def fnExactSideOfRow : OpenClaim := { program := "ytlhafgepalbehaa", sum := "24bda2d22b90d544c7ce079f4a22d618b7f94e972da47de9f607adbc0570ea71", func := "loop.example/g01374/laws.FnExactSideOf", spec := "fnExactSideOf", apart := false }
def FnExactSideOfSaid : Prop := fnExactSideOfRow.holds Try.pinned (OpenSpec.ofChange fnExactSideOfSpec)

/-- ITS FALSE NEIGHBOUR: 'it returns false'. Refute it at one input. -/
def fnExactSideOfWrong : ChangeSpec := { name := "fnExactSideOf", fn := fun _ => fun
  | [d1, d2] => { results := [.lit (.bool false)], args := [d1, d2] }
  | _ => none }
def FnExactSideOfWrongFalsely : Prop := fnExactSideOfRow.holds Try.pinned (OpenSpec.ofChange fnExactSideOfWrong)

/- THE SECOND FORM. 'bulk': how many values and letters a reading holds, each counted each time it is reached (what is shared counts as often as it is met; a slice's spare places count too). A statement '..UptoSaid' is the law's where the arguments, and the package variables that the reading takes, are together of bulk at most 1048576: NARROWER than '..Said'. Prove '..Said' where nothing that the law and all that it calls make is longer than what came in: it says more and counts as full. Else prove '..UptoSaid'. A law counts once. -/
mutual
def uptoBulk {H : Type} : DataW H → Nat
  | .lit (.string bytes) => bytes.length + 1
  | .lit _ => 1
  | .nil => 1
  | .ptr d => uptoBulk d + 1
  | .slice elems spare => uptoBulkAll elems + uptoBulkAll spare + 1
  | .agg parts => uptoBulkAll parts + 1
  | .iface _ d => uptoBulk d + 1
  | .map entries => uptoBulkEntries entries + 1
  | .held _ => 1
def uptoBulkAll {H : Type} : List (DataW H) → Nat
  | [] => 0
  | d :: r => uptoBulk d + uptoBulkAll r
def uptoBulkEntries {H : Type} : List (Lit × DataW H) → Nat
  | [] => 0
  | x :: r => uptoBulkEntry x + uptoBulkEntries r
def uptoBulkEntry {H : Type} : Lit × DataW H → Nat
  | (.string bytes, d) => bytes.length + uptoBulk d + 1
  | (_, d) => uptoBulk d + 1
 end
def uptoSmall : (H : Type) → List (DataW H) → Bool := fun _ ds => decide (uptoBulkAll ds ≤ 1048576)
def OpenSpec.upto (s : _root_.Go.ChangeSpec) : _root_.Go.OpenSpec := { _root_.Go.OpenSpec.ofChange s with cond := some uptoSmall }

/-- 'laws.FnExactIsSpiral', WHERE WHAT IT READS IS OF BULK AT MOST 1048576: true; the input reads as it did. -/
def fnExactIsSpiralUptoRow : OpenClaim := { program := "ytlhafgepalbehaa", sum := "24bda2d22b90d544c7ce079f4a22d618b7f94e972da47de9f607adbc0570ea71", func := "loop.example/g01374/laws.FnExactIsSpiral", spec := "fnExactIsSpiral", apart := false, narrowed := true }
def FnExactIsSpiralUptoSaid : Prop := fnExactIsSpiralUptoRow.holds Try.pinned (OpenSpec.upto fnExactIsSpiralSpec)

/-- 'laws.FnExactAngleOf', WHERE WHAT IT READS IS OF BULK AT MOST 1048576: true; the input reads as it did. -/
def fnExactAngleOfUptoRow : OpenClaim := { program := "ytlhafgepalbehaa", sum := "24bda2d22b90d544c7ce079f4a22d618b7f94e972da47de9f607adbc0570ea71", func := "loop.example/g01374/laws.FnExactAngleOf", spec := "fnExactAngleOf", apart := false, narrowed := true }
def FnExactAngleOfUptoSaid : Prop := fnExactAngleOfUptoRow.holds Try.pinned (OpenSpec.upto fnExactAngleOfSpec)

/-- 'laws.FnExactTurnsOf', WHERE WHAT IT READS IS OF BULK AT MOST 1048576: true; the input reads as it did. -/
def fnExactTurnsOfUptoRow : OpenClaim := { program := "ytlhafgepalbehaa", sum := "24bda2d22b90d544c7ce079f4a22d618b7f94e972da47de9f607adbc0570ea71", func := "loop.example/g01374/laws.FnExactTurnsOf", spec := "fnExactTurnsOf", apart := false, narrowed := true }
def FnExactTurnsOfUptoSaid : Prop := fnExactTurnsOfUptoRow.holds Try.pinned (OpenSpec.upto fnExactTurnsOfSpec)

/-- 'laws.FnExactHeadOver', WHERE WHAT IT READS IS OF BULK AT MOST 1048576: true; the input reads as it did. -/
def fnExactHeadOverUptoRow : OpenClaim := { program := "ytlhafgepalbehaa", sum := "24bda2d22b90d544c7ce079f4a22d618b7f94e972da47de9f607adbc0570ea71", func := "loop.example/g01374/laws.FnExactHeadOver", spec := "fnExactHeadOver", unfollowed := true, recurses := true, apart := false, narrowed := true }
def FnExactHeadOverUptoSaid : Prop := fnExactHeadOverUptoRow.holds Try.pinned (OpenSpec.upto fnExactHeadOverSpec)

/-- 'laws.FnExactLeastRound', WHERE WHAT IT READS IS OF BULK AT MOST 1048576: true; the input reads as it did. -/
def fnExactLeastRoundUptoRow : OpenClaim := { program := "ytlhafgepalbehaa", sum := "24bda2d22b90d544c7ce079f4a22d618b7f94e972da47de9f607adbc0570ea71", func := "loop.example/g01374/laws.FnExactLeastRound", spec := "fnExactLeastRound", apart := false, narrowed := true }
def FnExactLeastRoundUptoSaid : Prop := fnExactLeastRoundUptoRow.holds Try.pinned (OpenSpec.upto fnExactLeastRoundSpec)

/-- 'laws.FnExactAreOpposite', WHERE WHAT IT READS IS OF BULK AT MOST 1048576: true; the input reads as it did. -/
def fnExactAreOppositeUptoRow : OpenClaim := { program := "ytlhafgepalbehaa", sum := "24bda2d22b90d544c7ce079f4a22d618b7f94e972da47de9f607adbc0570ea71", func := "loop.example/g01374/laws.FnExactAreOpposite", spec := "fnExactAreOpposite", apart := false, narrowed := true }
def FnExactAreOppositeUptoSaid : Prop := fnExactAreOppositeUptoRow.holds Try.pinned (OpenSpec.upto fnExactAreOppositeSpec)

/-- 'laws.FnExactApartAround', WHERE WHAT IT READS IS OF BULK AT MOST 1048576: true; the input reads as it did. -/
def fnExactApartAroundUptoRow : OpenClaim := { program := "ytlhafgepalbehaa", sum := "24bda2d22b90d544c7ce079f4a22d618b7f94e972da47de9f607adbc0570ea71", func := "loop.example/g01374/laws.FnExactApartAround", spec := "fnExactApartAround", apart := false, narrowed := true }
def FnExactApartAroundUptoSaid : Prop := fnExactApartAroundUptoRow.holds Try.pinned (OpenSpec.upto fnExactApartAroundSpec)

/-- 'laws.FnExactFewestLamps', WHERE WHAT IT READS IS OF BULK AT MOST 1048576: true; the input reads as it did. -/
def fnExactFewestLampsUptoRow : OpenClaim := { program := "ytlhafgepalbehaa", sum := "24bda2d22b90d544c7ce079f4a22d618b7f94e972da47de9f607adbc0570ea71", func := "loop.example/g01374/laws.FnExactFewestLamps", spec := "fnExactFewestLamps", apart := false, narrowed := true }
def FnExactFewestLampsUptoSaid : Prop := fnExactFewestLampsUptoRow.holds Try.pinned (OpenSpec.upto fnExactFewestLampsSpec)

/-- 'laws.FnExactCountAngles', WHERE WHAT IT READS IS OF BULK AT MOST 1048576: true; the input reads as it did. -/
def fnExactCountAnglesUptoRow : OpenClaim := { program := "ytlhafgepalbehaa", sum := "24bda2d22b90d544c7ce079f4a22d618b7f94e972da47de9f607adbc0570ea71", func := "loop.example/g01374/laws.FnExactCountAngles", spec := "fnExactCountAngles", apart := false, narrowed := true }
def FnExactCountAnglesUptoSaid : Prop := fnExactCountAnglesUptoRow.holds Try.pinned (OpenSpec.upto fnExactCountAnglesSpec)

/-- 'laws.FnExactHeightSpiral', WHERE WHAT IT READS IS OF BULK AT MOST 1048576: true; the input reads as it did. -/
def fnExactHeightSpiralUptoRow : OpenClaim := { program := "ytlhafgepalbehaa", sum := "24bda2d22b90d544c7ce079f4a22d618b7f94e972da47de9f607adbc0570ea71", func := "loop.example/g01374/laws.FnExactHeightSpiral", spec := "fnExactHeightSpiral", apart := false, narrowed := true }
def FnExactHeightSpiralUptoSaid : Prop := fnExactHeightSpiralUptoRow.holds Try.pinned (OpenSpec.upto fnExactHeightSpiralSpec)

/-- 'laws.FnExactCutSpiral', WHERE WHAT IT READS IS OF BULK AT MOST 1048576: true; the input reads as it did. -/
def fnExactCutSpiralUptoRow : OpenClaim := { program := "ytlhafgepalbehaa", sum := "24bda2d22b90d544c7ce079f4a22d618b7f94e972da47de9f607adbc0570ea71", func := "loop.example/g01374/laws.FnExactCutSpiral", spec := "fnExactCutSpiral", apart := false, narrowed := true }
def FnExactCutSpiralUptoSaid : Prop := fnExactCutSpiralUptoRow.holds Try.pinned (OpenSpec.upto fnExactCutSpiralSpec)

/-- 'laws.FnExactSideOf', WHERE WHAT IT READS IS OF BULK AT MOST 1048576: true; the input reads as it did. -/
def fnExactSideOfUptoRow : OpenClaim := { program := "ytlhafgepalbehaa", sum := "24bda2d22b90d544c7ce079f4a22d618b7f94e972da47de9f607adbc0570ea71", func := "loop.example/g01374/laws.FnExactSideOf", spec := "fnExactSideOf", apart := false, narrowed := true }
def FnExactSideOfUptoSaid : Prop := fnExactSideOfUptoRow.holds Try.pinned (OpenSpec.upto fnExactSideOfSpec)

end Rows
end Go.Proofs.Ytlhafgepalbehaa
