/-
  No cell of these rows narrows 'for every input' (looked for: loops, veiled, ifaces, maps, wideKeys, modest, calm, conditions, laid).
  DERIVED. THE GIVEN ROWS OF THIS SEAT. 11 by the template 'for every input the law returns true; each argument reads behind the call as it read before'; 0 by the template 'total and deterministic' (their statements: YtcidehjamkebiaaTotals.lean).
  GIVEN WITH THE SEED: the statements are not yours to turn. If you find one false, say at which input.
  Laid BY PROGRAM, IN A SANDBOX (cutbox-rows.mjs): the forced cells as the released guide's own fill.sh prints them over the translation 56c5c3419fb8d3b7… (all of the seat's roots in one cut). By AI agents, Wed Nov 11 2026. No macro, syntax, notation, axiom, sorry.
-/
import Derived.Test.YtcidehjamkebiaaChecked
import GoSem.Claim
import GoSem.ClaimJoined
import GoSem.ClaimMapViews
import Derived.JoinedTies
import Derived.KernelRfl
namespace Go.Proofs.Ytcidehjamkebiaa
/- THE CELL 'sum', in the pinned program and in every row, IS THE sha256 OF THE DUMP (.gsa) THAT YtcidehjamkebiaaProg.lean LOADS. Nothing in Lean hashes anything: it is a label: what it is worth is what the hold of that sum in a sandbox is worth. -/
noncomputable def Try.pinned : Pinned := { name := "ytcidehjamkebiaa", sum := "56c5c3419fb8d3b7555fe49f9a50b0e1071f12697fb059d3e1df3c2054433ca2", checked := Try.checked }
namespace Rows
def none {H : Type} : Left H := { results := [], args := [] }

/-- 'laws.FnExactAreRolls': WHATEVER THE INPUT: true; the input reads as it did. -/
def fnExactAreRollsSpec : ChangeSpec := { name := "fnExactAreRolls", fn := fun _ => fun
  | [d] => { results := [.lit (.bool true)], args := [d] }
  | _ => none }
def fnExactAreRollsRow : OpenClaim := { program := "ytcidehjamkebiaa", sum := "56c5c3419fb8d3b7555fe49f9a50b0e1071f12697fb059d3e1df3c2054433ca2", func := "loop.example/g01374/laws.FnExactAreRolls", spec := "fnExactAreRolls", apart := false }
def FnExactAreRollsSaid : Prop := fnExactAreRollsRow.holds Try.pinned (OpenSpec.ofChange fnExactAreRollsSpec)

/-- ITS FALSE NEIGHBOUR: 'it returns false'. Refute it at one input. -/
def fnExactAreRollsWrong : ChangeSpec := { name := "fnExactAreRolls", fn := fun _ => fun
  | [d] => { results := [.lit (.bool false)], args := [d] }
  | _ => none }
def FnExactAreRollsWrongFalsely : Prop := fnExactAreRollsRow.holds Try.pinned (OpenSpec.ofChange fnExactAreRollsWrong)

/-- 'laws.FnExactStepsOfRoll': WHATEVER THE INPUT: true; the input reads as it did. -/
def fnExactStepsOfRollSpec : ChangeSpec := { name := "fnExactStepsOfRoll", fn := fun _ => fun
  | [d1, d2] => { results := [.lit (.bool true)], args := [d1, d2] }
  | _ => none }
def fnExactStepsOfRollRow : OpenClaim := { program := "ytcidehjamkebiaa", sum := "56c5c3419fb8d3b7555fe49f9a50b0e1071f12697fb059d3e1df3c2054433ca2", func := "loop.example/g01374/laws.FnExactStepsOfRoll", spec := "fnExactStepsOfRoll", apart := false }
def FnExactStepsOfRollSaid : Prop := fnExactStepsOfRollRow.holds Try.pinned (OpenSpec.ofChange fnExactStepsOfRollSpec)

/-- ITS FALSE NEIGHBOUR: 'it returns false'. Refute it at one input. -/
def fnExactStepsOfRollWrong : ChangeSpec := { name := "fnExactStepsOfRoll", fn := fun _ => fun
  | [d1, d2] => { results := [.lit (.bool false)], args := [d1, d2] }
  | _ => none }
def FnExactStepsOfRollWrongFalsely : Prop := fnExactStepsOfRollRow.holds Try.pinned (OpenSpec.ofChange fnExactStepsOfRollWrong)

/-- 'laws.FnExactStepsOfRolls': WHATEVER THE INPUT: true; the input reads as it did. -/
def fnExactStepsOfRollsSpec : ChangeSpec := { name := "fnExactStepsOfRolls", fn := fun _ => fun
  | [d1, d2] => { results := [.lit (.bool true)], args := [d1, d2] }
  | _ => none }
def fnExactStepsOfRollsRow : OpenClaim := { program := "ytcidehjamkebiaa", sum := "56c5c3419fb8d3b7555fe49f9a50b0e1071f12697fb059d3e1df3c2054433ca2", func := "loop.example/g01374/laws.FnExactStepsOfRolls", spec := "fnExactStepsOfRolls", unfollowed := true, recurses := true, apart := false }
def FnExactStepsOfRollsSaid : Prop := fnExactStepsOfRollsRow.holds Try.pinned (OpenSpec.ofChange fnExactStepsOfRollsSpec)

/-- ITS FALSE NEIGHBOUR: 'it returns false'. Refute it at one input. -/
def fnExactStepsOfRollsWrong : ChangeSpec := { name := "fnExactStepsOfRolls", fn := fun _ => fun
  | [d1, d2] => { results := [.lit (.bool false)], args := [d1, d2] }
  | _ => none }
def FnExactStepsOfRollsWrongFalsely : Prop := fnExactStepsOfRollsRow.holds Try.pinned (OpenSpec.ofChange fnExactStepsOfRollsWrong)

/-- 'laws.FnExactRestOfRolls': WHATEVER THE INPUT: true; the input reads as it did. -/
def fnExactRestOfRollsSpec : ChangeSpec := { name := "fnExactRestOfRolls", fn := fun _ => fun
  | [d1, d2] => { results := [.lit (.bool true)], args := [d1, d2] }
  | _ => none }
def fnExactRestOfRollsRow : OpenClaim := { program := "ytcidehjamkebiaa", sum := "56c5c3419fb8d3b7555fe49f9a50b0e1071f12697fb059d3e1df3c2054433ca2", func := "loop.example/g01374/laws.FnExactRestOfRolls", spec := "fnExactRestOfRolls", unfollowed := true, recurses := true, apart := false }
def FnExactRestOfRollsSaid : Prop := fnExactRestOfRollsRow.holds Try.pinned (OpenSpec.ofChange fnExactRestOfRollsSpec)

/-- ITS FALSE NEIGHBOUR: 'it returns false'. Refute it at one input. -/
def fnExactRestOfRollsWrong : ChangeSpec := { name := "fnExactRestOfRolls", fn := fun _ => fun
  | [d1, d2] => { results := [.lit (.bool false)], args := [d1, d2] }
  | _ => none }
def FnExactRestOfRollsWrongFalsely : Prop := fnExactRestOfRollsRow.holds Try.pinned (OpenSpec.ofChange fnExactRestOfRollsWrong)

/-- 'laws.FnExactCoverPlan': WHATEVER THE INPUT: true; the input reads as it did. -/
def fnExactCoverPlanSpec : ChangeSpec := { name := "fnExactCoverPlan", fn := fun _ => fun
  | [d1, d2, d3] => { results := [.lit (.bool true)], args := [d1, d2, d3] }
  | _ => none }
def fnExactCoverPlanRow : OpenClaim := { program := "ytcidehjamkebiaa", sum := "56c5c3419fb8d3b7555fe49f9a50b0e1071f12697fb059d3e1df3c2054433ca2", func := "loop.example/g01374/laws.FnExactCoverPlan", spec := "fnExactCoverPlan", unfollowed := true, recurses := true, apart := false }
def FnExactCoverPlanSaid : Prop := fnExactCoverPlanRow.holds Try.pinned (OpenSpec.ofChange fnExactCoverPlanSpec)

/-- ITS FALSE NEIGHBOUR: 'it returns false'. Refute it at one input. -/
def fnExactCoverPlanWrong : ChangeSpec := { name := "fnExactCoverPlan", fn := fun _ => fun
  | [d1, d2, d3] => { results := [.lit (.bool false)], args := [d1, d2, d3] }
  | _ => none }
def FnExactCoverPlanWrongFalsely : Prop := fnExactCoverPlanRow.holds Try.pinned (OpenSpec.ofChange fnExactCoverPlanWrong)

/-- 'laws.FnExactJoinsOfPlan': WHATEVER THE INPUT: true; the input reads as it did. -/
def fnExactJoinsOfPlanSpec : ChangeSpec := { name := "fnExactJoinsOfPlan", fn := fun _ => fun
  | [d] => { results := [.lit (.bool true)], args := [d] }
  | _ => none }
def fnExactJoinsOfPlanRow : OpenClaim := { program := "ytcidehjamkebiaa", sum := "56c5c3419fb8d3b7555fe49f9a50b0e1071f12697fb059d3e1df3c2054433ca2", func := "loop.example/g01374/laws.FnExactJoinsOfPlan", spec := "fnExactJoinsOfPlan", unfollowed := true, recurses := true, apart := false }
def FnExactJoinsOfPlanSaid : Prop := fnExactJoinsOfPlanRow.holds Try.pinned (OpenSpec.ofChange fnExactJoinsOfPlanSpec)

/-- ITS FALSE NEIGHBOUR: 'it returns false'. Refute it at one input. -/
def fnExactJoinsOfPlanWrong : ChangeSpec := { name := "fnExactJoinsOfPlan", fn := fun _ => fun
  | [d] => { results := [.lit (.bool false)], args := [d] }
  | _ => none }
def FnExactJoinsOfPlanWrongFalsely : Prop := fnExactJoinsOfPlanRow.holds Try.pinned (OpenSpec.ofChange fnExactJoinsOfPlanWrong)

/-- 'laws.FnExactGreatestNeed': WHATEVER THE INPUT: true; the input reads as it did. -/
def fnExactGreatestNeedSpec : ChangeSpec := { name := "fnExactGreatestNeed", fn := fun _ => fun
  | [d1, d2] => { results := [.lit (.bool true)], args := [d1, d2] }
  | _ => none }
def fnExactGreatestNeedRow : OpenClaim := { program := "ytcidehjamkebiaa", sum := "56c5c3419fb8d3b7555fe49f9a50b0e1071f12697fb059d3e1df3c2054433ca2", func := "loop.example/g01374/laws.FnExactGreatestNeed", spec := "fnExactGreatestNeed", unfollowed := true, recurses := true, apart := false }
def FnExactGreatestNeedSaid : Prop := fnExactGreatestNeedRow.holds Try.pinned (OpenSpec.ofChange fnExactGreatestNeedSpec)

/-- ITS FALSE NEIGHBOUR: 'it returns false'. Refute it at one input. -/
def fnExactGreatestNeedWrong : ChangeSpec := { name := "fnExactGreatestNeed", fn := fun _ => fun
  | [d1, d2] => { results := [.lit (.bool false)], args := [d1, d2] }
  | _ => none }
def FnExactGreatestNeedWrongFalsely : Prop := fnExactGreatestNeedRow.holds Try.pinned (OpenSpec.ofChange fnExactGreatestNeedWrong)

/-- 'laws.FnExactWithPattern': WHATEVER THE INPUT: true; the input reads as it did. -/
def fnExactWithPatternSpec : ChangeSpec := { name := "fnExactWithPattern", fn := fun _ => fun
  | [d1, d2] => { results := [.lit (.bool true)], args := [d1, d2] }
  | _ => none }
def fnExactWithPatternRow : OpenClaim := { program := "ytcidehjamkebiaa", sum := "56c5c3419fb8d3b7555fe49f9a50b0e1071f12697fb059d3e1df3c2054433ca2", func := "loop.example/g01374/laws.FnExactWithPattern", spec := "fnExactWithPattern", apart := false }
def FnExactWithPatternSaid : Prop := fnExactWithPatternRow.holds Try.pinned (OpenSpec.ofChange fnExactWithPatternSpec)

/-- ITS FALSE NEIGHBOUR: 'it returns false'. Refute it at one input. -/
def fnExactWithPatternWrong : ChangeSpec := { name := "fnExactWithPattern", fn := fun _ => fun
  | [d1, d2] => { results := [.lit (.bool false)], args := [d1, d2] }
  | _ => none }
def FnExactWithPatternWrongFalsely : Prop := fnExactWithPatternRow.holds Try.pinned (OpenSpec.ofChange fnExactWithPatternWrong)

/-- 'laws.FnExactPatternStarts': WHATEVER THE INPUT: true; the input reads as it did. -/
def fnExactPatternStartsSpec : ChangeSpec := { name := "fnExactPatternStarts", fn := fun _ => fun
  | [d1, d2, d3] => { results := [.lit (.bool true)], args := [d1, d2, d3] }
  | _ => none }
def fnExactPatternStartsRow : OpenClaim := { program := "ytcidehjamkebiaa", sum := "56c5c3419fb8d3b7555fe49f9a50b0e1071f12697fb059d3e1df3c2054433ca2", func := "loop.example/g01374/laws.FnExactPatternStarts", spec := "fnExactPatternStarts", apart := false }
def FnExactPatternStartsSaid : Prop := fnExactPatternStartsRow.holds Try.pinned (OpenSpec.ofChange fnExactPatternStartsSpec)

/-- ITS FALSE NEIGHBOUR: 'it returns false'. Refute it at one input. -/
def fnExactPatternStartsWrong : ChangeSpec := { name := "fnExactPatternStarts", fn := fun _ => fun
  | [d1, d2, d3] => { results := [.lit (.bool false)], args := [d1, d2, d3] }
  | _ => none }
def FnExactPatternStartsWrongFalsely : Prop := fnExactPatternStartsRow.holds Try.pinned (OpenSpec.ofChange fnExactPatternStartsWrong)

/-- 'laws.FnExactPatternPeriod': WHATEVER THE INPUT: true; the input reads as it did. -/
def fnExactPatternPeriodSpec : ChangeSpec := { name := "fnExactPatternPeriod", fn := fun _ => fun
  | [d1, d2] => { results := [.lit (.bool true)], args := [d1, d2] }
  | _ => none }
def fnExactPatternPeriodRow : OpenClaim := { program := "ytcidehjamkebiaa", sum := "56c5c3419fb8d3b7555fe49f9a50b0e1071f12697fb059d3e1df3c2054433ca2", func := "loop.example/g01374/laws.FnExactPatternPeriod", spec := "fnExactPatternPeriod", apart := false }
def FnExactPatternPeriodSaid : Prop := fnExactPatternPeriodRow.holds Try.pinned (OpenSpec.ofChange fnExactPatternPeriodSpec)

/-- ITS FALSE NEIGHBOUR: 'it returns false'. Refute it at one input. -/
def fnExactPatternPeriodWrong : ChangeSpec := { name := "fnExactPatternPeriod", fn := fun _ => fun
  | [d1, d2] => { results := [.lit (.bool false)], args := [d1, d2] }
  | _ => none }
def FnExactPatternPeriodWrongFalsely : Prop := fnExactPatternPeriodRow.holds Try.pinned (OpenSpec.ofChange fnExactPatternPeriodWrong)

/-- 'laws.FnExactWholeStarts': WHATEVER THE INPUT: true; the input reads as it did. -/
def fnExactWholeStartsSpec : ChangeSpec := { name := "fnExactWholeStarts", fn := fun _ => fun
  | [d1, d2, d3] => { results := [.lit (.bool true)], args := [d1, d2, d3] }
  | _ => none }
def fnExactWholeStartsRow : OpenClaim := { program := "ytcidehjamkebiaa", sum := "56c5c3419fb8d3b7555fe49f9a50b0e1071f12697fb059d3e1df3c2054433ca2", func := "loop.example/g01374/laws.FnExactWholeStarts", spec := "fnExactWholeStarts", unfollowed := true, recurses := true, apart := false }
def FnExactWholeStartsSaid : Prop := fnExactWholeStartsRow.holds Try.pinned (OpenSpec.ofChange fnExactWholeStartsSpec)

/-- ITS FALSE NEIGHBOUR: 'it returns false'. Refute it at one input. -/
def fnExactWholeStartsWrong : ChangeSpec := { name := "fnExactWholeStarts", fn := fun _ => fun
  | [d1, d2, d3] => { results := [.lit (.bool false)], args := [d1, d2, d3] }
  | _ => none }
def FnExactWholeStartsWrongFalsely : Prop := fnExactWholeStartsRow.holds Try.pinned (OpenSpec.ofChange fnExactWholeStartsWrong)

/- THE SECOND FORM. 'bulk': how many values and letters a reading holds, each counted each time it is reached (what is shared counts as often as it is met; a slice's spare places count too). A statement '..UptoSaid' is the law's where the arguments, and the package variables that the reading takes, are together of bulk at most 1048576: NARROWER than '..Said'. Prove '..Said' where nothing that the law and all that it calls make is longer than what came in: it says more and counts as full. Else prove '..UptoSaid'. A law counts once. -/
mutual
def uptoBulk {H : Type} : DataW H → Nat
  | .lit (.string bytes) => bytes.length + 1
  | .lit _ => 1
  | .nil => 1
  | .ptr d => uptoBulk d + 1
  | .slice elems spare => uptoBulkAll elems + uptoBulkAll spare + 1
  | .agg parts => uptoBulkAll parts + 1
  | .iface _ d => uptoBulk d + 1
  | .map entries => uptoBulkEntries entries + 1
  | .held _ => 1
def uptoBulkAll {H : Type} : List (DataW H) → Nat
  | [] => 0
  | d :: r => uptoBulk d + uptoBulkAll r
def uptoBulkEntries {H : Type} : List (Lit × DataW H) → Nat
  | [] => 0
  | x :: r => uptoBulkEntry x + uptoBulkEntries r
def uptoBulkEntry {H : Type} : Lit × DataW H → Nat
  | (.string bytes, d) => bytes.length + uptoBulk d + 1
  | (_, d) => uptoBulk d + 1
 end
def uptoSmall : (H : Type) → List (DataW H) → Bool := fun _ ds => decide (uptoBulkAll ds ≤ 1048576)
def OpenSpec.upto (s : _root_.Go.ChangeSpec) : _root_.Go.OpenSpec := { _root_.Go.OpenSpec.ofChange s with cond := some uptoSmall }

/-- 'laws.FnExactAreRolls', WHERE WHAT IT READS IS OF BULK AT MOST 1048576: true; the input reads as it did. -/
def fnExactAreRollsUptoRow : OpenClaim := { program := "ytcidehjamkebiaa", sum := "56c5c3419fb8d3b7555fe49f9a50b0e1071f12697fb059d3e1df3c2054433ca2", func := "loop.example/g01374/laws.FnExactAreRolls", spec := "fnExactAreRolls", apart := false, narrowed := true }
def FnExactAreRollsUptoSaid : Prop := fnExactAreRollsUptoRow.holds Try.pinned (OpenSpec.upto fnExactAreRollsSpec)

/-- 'laws.FnExactStepsOfRoll', WHERE WHAT IT READS IS OF BULK AT MOST 1048576: true; the input reads as it did. -/
def fnExactStepsOfRollUptoRow : OpenClaim := { program := "ytcidehjamkebiaa", sum := "56c5c3419fb8d3b7555fe49f9a50b0e1071f12697fb059d3e1df3c2054433ca2", func := "loop.example/g01374/laws.FnExactStepsOfRoll", spec := "fnExactStepsOfRoll", apart := false, narrowed := true }
def FnExactStepsOfRollUptoSaid : Prop := fnExactStepsOfRollUptoRow.holds Try.pinned (OpenSpec.upto fnExactStepsOfRollSpec)

/-- 'laws.FnExactStepsOfRolls', WHERE WHAT IT READS IS OF BULK AT MOST 1048576: true; the input reads as it did. -/
def fnExactStepsOfRollsUptoRow : OpenClaim := { program := "ytcidehjamkebiaa", sum := "56c5c3419fb8d3b7555fe49f9a50b0e1071f12697fb059d3e1df3c2054433ca2", func := "loop.example/g01374/laws.FnExactStepsOfRolls", spec := "fnExactStepsOfRolls", unfollowed := true, recurses := true, apart := false, narrowed := true }
def FnExactStepsOfRollsUptoSaid : Prop := fnExactStepsOfRollsUptoRow.holds Try.pinned (OpenSpec.upto fnExactStepsOfRollsSpec)

/-- 'laws.FnExactRestOfRolls', WHERE WHAT IT READS IS OF BULK AT MOST 1048576: true; the input reads as it did. -/
def fnExactRestOfRollsUptoRow : OpenClaim := { program := "ytcidehjamkebiaa", sum := "56c5c3419fb8d3b7555fe49f9a50b0e1071f12697fb059d3e1df3c2054433ca2", func := "loop.example/g01374/laws.FnExactRestOfRolls", spec := "fnExactRestOfRolls", unfollowed := true, recurses := true, apart := false, narrowed := true }
def FnExactRestOfRollsUptoSaid : Prop := fnExactRestOfRollsUptoRow.holds Try.pinned (OpenSpec.upto fnExactRestOfRollsSpec)

/-- 'laws.FnExactCoverPlan', WHERE WHAT IT READS IS OF BULK AT MOST 1048576: true; the input reads as it did. -/
def fnExactCoverPlanUptoRow : OpenClaim := { program := "ytcidehjamkebiaa", sum := "56c5c3419fb8d3b7555fe49f9a50b0e1071f12697fb059d3e1df3c2054433ca2", func := "loop.example/g01374/laws.FnExactCoverPlan", spec := "fnExactCoverPlan", unfollowed := true, recurses := true, apart := false, narrowed := true }
def FnExactCoverPlanUptoSaid : Prop := fnExactCoverPlanUptoRow.holds Try.pinned (OpenSpec.upto fnExactCoverPlanSpec)

/-- 'laws.FnExactJoinsOfPlan', WHERE WHAT IT READS IS OF BULK AT MOST 1048576: true; the input reads as it did. -/
def fnExactJoinsOfPlanUptoRow : OpenClaim := { program := "ytcidehjamkebiaa", sum := "56c5c3419fb8d3b7555fe49f9a50b0e1071f12697fb059d3e1df3c2054433ca2", func := "loop.example/g01374/laws.FnExactJoinsOfPlan", spec := "fnExactJoinsOfPlan", unfollowed := true, recurses := true, apart := false, narrowed := true }
def FnExactJoinsOfPlanUptoSaid : Prop := fnExactJoinsOfPlanUptoRow.holds Try.pinned (OpenSpec.upto fnExactJoinsOfPlanSpec)

/-- 'laws.FnExactGreatestNeed', WHERE WHAT IT READS IS OF BULK AT MOST 1048576: true; the input reads as it did. -/
def fnExactGreatestNeedUptoRow : OpenClaim := { program := "ytcidehjamkebiaa", sum := "56c5c3419fb8d3b7555fe49f9a50b0e1071f12697fb059d3e1df3c2054433ca2", func := "loop.example/g01374/laws.FnExactGreatestNeed", spec := "fnExactGreatestNeed", unfollowed := true, recurses := true, apart := false, narrowed := true }
def FnExactGreatestNeedUptoSaid : Prop := fnExactGreatestNeedUptoRow.holds Try.pinned (OpenSpec.upto fnExactGreatestNeedSpec)

/-- 'laws.FnExactWithPattern', WHERE WHAT IT READS IS OF BULK AT MOST 1048576: true; the input reads as it did. -/
def fnExactWithPatternUptoRow : OpenClaim := { program := "ytcidehjamkebiaa", sum := "56c5c3419fb8d3b7555fe49f9a50b0e1071f12697fb059d3e1df3c2054433ca2", func := "loop.example/g01374/laws.FnExactWithPattern", spec := "fnExactWithPattern", apart := false, narrowed := true }
def FnExactWithPatternUptoSaid : Prop := fnExactWithPatternUptoRow.holds Try.pinned (OpenSpec.upto fnExactWithPatternSpec)

/-- 'laws.FnExactPatternStarts', WHERE WHAT IT READS IS OF BULK AT MOST 1048576: true; the input reads as it did. -/
def fnExactPatternStartsUptoRow : OpenClaim := { program := "ytcidehjamkebiaa", sum := "56c5c3419fb8d3b7555fe49f9a50b0e1071f12697fb059d3e1df3c2054433ca2", func := "loop.example/g01374/laws.FnExactPatternStarts", spec := "fnExactPatternStarts", apart := false, narrowed := true }
def FnExactPatternStartsUptoSaid : Prop := fnExactPatternStartsUptoRow.holds Try.pinned (OpenSpec.upto fnExactPatternStartsSpec)

/-- 'laws.FnExactPatternPeriod', WHERE WHAT IT READS IS OF BULK AT MOST 1048576: true; the input reads as it did. -/
def fnExactPatternPeriodUptoRow : OpenClaim := { program := "ytcidehjamkebiaa", sum := "56c5c3419fb8d3b7555fe49f9a50b0e1071f12697fb059d3e1df3c2054433ca2", func := "loop.example/g01374/laws.FnExactPatternPeriod", spec := "fnExactPatternPeriod", apart := false, narrowed := true }
def FnExactPatternPeriodUptoSaid : Prop := fnExactPatternPeriodUptoRow.holds Try.pinned (OpenSpec.upto fnExactPatternPeriodSpec)

/-- 'laws.FnExactWholeStarts', WHERE WHAT IT READS IS OF BULK AT MOST 1048576: true; the input reads as it did. -/
def fnExactWholeStartsUptoRow : OpenClaim := { program := "ytcidehjamkebiaa", sum := "56c5c3419fb8d3b7555fe49f9a50b0e1071f12697fb059d3e1df3c2054433ca2", func := "loop.example/g01374/laws.FnExactWholeStarts", spec := "fnExactWholeStarts", unfollowed := true, recurses := true, apart := false, narrowed := true }
def FnExactWholeStartsUptoSaid : Prop := fnExactWholeStartsUptoRow.holds Try.pinned (OpenSpec.upto fnExactWholeStartsSpec)

end Rows
end Go.Proofs.Ytcidehjamkebiaa
