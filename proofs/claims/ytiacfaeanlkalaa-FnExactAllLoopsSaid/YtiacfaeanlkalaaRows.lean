/-
  No cell of these rows narrows 'for every input' (looked for: loops, veiled, ifaces, maps, wideKeys, modest, calm, conditions, laid).
  DERIVED. THE GIVEN ROWS OF THIS SEAT. 10 by the template 'for every input the law returns true; each argument reads behind the call as it read before'; 0 by the template 'total and deterministic' (their statements: YtiacfaeanlkalaaTotals.lean).
  GIVEN WITH THE SEED: the statements are not yours to turn. If you find one false, say at which input.
  Laid BY PROGRAM, IN A SANDBOX (cutbox-rows.mjs): the forced cells as the released guide's own fill.sh prints them over the translation e9a00e2056516a9f… (all of the seat's roots in one cut). By AI agents, Wed Nov 11 2026. No macro, syntax, notation, axiom, sorry.
-/
import Derived.Test.YtiacfaeanlkalaaChecked
import GoSem.Claim
import GoSem.ClaimJoined
import GoSem.ClaimMapViews
import Derived.JoinedTies
import Derived.KernelRfl
namespace Go.Proofs.Ytiacfaeanlkalaa
/- THE CELL 'sum', in the pinned program and in every row, IS THE sha256 OF THE DUMP (.gsa) THAT YtiacfaeanlkalaaProg.lean LOADS. Nothing in Lean hashes anything: it is a label: what it is worth is what the hold of that sum in a sandbox is worth. -/
noncomputable def Try.pinned : Pinned := { name := "ytiacfaeanlkalaa", sum := "e9a00e2056516a9f4abd25104d03029c4c06eda78fc5713f7de878ba700bd57c", checked := Try.checked }
namespace Rows
def none {H : Type} : Left H := { results := [], args := [] }

/-- 'laws.FnExactEndOfBall': WHATEVER THE INPUT: true; the input reads as it did. -/
def fnExactEndOfBallSpec : ChangeSpec := { name := "fnExactEndOfBall", fn := fun _ => fun
  | [d1, d2] => { results := [.lit (.bool true)], args := [d1, d2] }
  | _ => none }
def fnExactEndOfBallRow : OpenClaim := { program := "ytiacfaeanlkalaa", sum := "e9a00e2056516a9f4abd25104d03029c4c06eda78fc5713f7de878ba700bd57c", func := "loop.example/g01374/laws.FnExactEndOfBall", spec := "fnExactEndOfBall", leaving := true, apart := false }
def FnExactEndOfBallSaid : Prop := fnExactEndOfBallRow.holds Try.pinned (OpenSpec.ofChange fnExactEndOfBallSpec)

/-- ITS FALSE NEIGHBOUR: 'it returns false'. Refute it at one input. -/
def fnExactEndOfBallWrong : ChangeSpec := { name := "fnExactEndOfBall", fn := fun _ => fun
  | [d1, d2] => { results := [.lit (.bool false)], args := [d1, d2] }
  | _ => none }
def FnExactEndOfBallWrongFalsely : Prop := fnExactEndOfBallRow.holds Try.pinned (OpenSpec.ofChange fnExactEndOfBallWrong)

/-- 'laws.FnExactPlaceAfter': WHATEVER THE INPUT: true; the input reads as it did. -/
def fnExactPlaceAfterSpec : ChangeSpec := { name := "fnExactPlaceAfter", fn := fun _ => fun
  | [d1, d2, d3] => { results := [.lit (.bool true)], args := [d1, d2, d3] }
  | _ => none }
def fnExactPlaceAfterRow : OpenClaim := { program := "ytiacfaeanlkalaa", sum := "e9a00e2056516a9f4abd25104d03029c4c06eda78fc5713f7de878ba700bd57c", func := "loop.example/g01374/laws.FnExactPlaceAfter", spec := "fnExactPlaceAfter", leaving := true, apart := false }
def FnExactPlaceAfterSaid : Prop := fnExactPlaceAfterRow.holds Try.pinned (OpenSpec.ofChange fnExactPlaceAfterSpec)

/-- ITS FALSE NEIGHBOUR: 'it returns false'. Refute it at one input. -/
def fnExactPlaceAfterWrong : ChangeSpec := { name := "fnExactPlaceAfter", fn := fun _ => fun
  | [d1, d2, d3] => { results := [.lit (.bool false)], args := [d1, d2, d3] }
  | _ => none }
def FnExactPlaceAfterWrongFalsely : Prop := fnExactPlaceAfterRow.holds Try.pinned (OpenSpec.ofChange fnExactPlaceAfterWrong)

/-- 'laws.FnExactTimeToLoop': WHATEVER THE INPUT: true; the input reads as it did. -/
def fnExactTimeToLoopSpec : ChangeSpec := { name := "fnExactTimeToLoop", fn := fun _ => fun
  | [d1, d2] => { results := [.lit (.bool true)], args := [d1, d2] }
  | _ => none }
def fnExactTimeToLoopRow : OpenClaim := { program := "ytiacfaeanlkalaa", sum := "e9a00e2056516a9f4abd25104d03029c4c06eda78fc5713f7de878ba700bd57c", func := "loop.example/g01374/laws.FnExactTimeToLoop", spec := "fnExactTimeToLoop", leaving := true, apart := false }
def FnExactTimeToLoopSaid : Prop := fnExactTimeToLoopRow.holds Try.pinned (OpenSpec.ofChange fnExactTimeToLoopSpec)

/-- ITS FALSE NEIGHBOUR: 'it returns false'. Refute it at one input. -/
def fnExactTimeToLoopWrong : ChangeSpec := { name := "fnExactTimeToLoop", fn := fun _ => fun
  | [d1, d2] => { results := [.lit (.bool false)], args := [d1, d2] }
  | _ => none }
def FnExactTimeToLoopWrongFalsely : Prop := fnExactTimeToLoopRow.holds Try.pinned (OpenSpec.ofChange fnExactTimeToLoopWrong)

/-- 'laws.FnExactFirstSame': WHATEVER THE INPUT: true; the input reads as it did. -/
def fnExactFirstSameSpec : ChangeSpec := { name := "fnExactFirstSame", fn := fun _ => fun
  | [d1, d2, d3] => { results := [.lit (.bool true)], args := [d1, d2, d3] }
  | _ => none }
def fnExactFirstSameRow : OpenClaim := { program := "ytiacfaeanlkalaa", sum := "e9a00e2056516a9f4abd25104d03029c4c06eda78fc5713f7de878ba700bd57c", func := "loop.example/g01374/laws.FnExactFirstSame", spec := "fnExactFirstSame", leaving := true, apart := false }
def FnExactFirstSameSaid : Prop := fnExactFirstSameRow.holds Try.pinned (OpenSpec.ofChange fnExactFirstSameSpec)

/-- ITS FALSE NEIGHBOUR: 'it returns false'. Refute it at one input. -/
def fnExactFirstSameWrong : ChangeSpec := { name := "fnExactFirstSame", fn := fun _ => fun
  | [d1, d2, d3] => { results := [.lit (.bool false)], args := [d1, d2, d3] }
  | _ => none }
def FnExactFirstSameWrongFalsely : Prop := fnExactFirstSameRow.holds Try.pinned (OpenSpec.ofChange fnExactFirstSameWrong)

/-- 'laws.FnExactLongestToEnd': WHATEVER THE INPUT: true; the input reads as it did. -/
def fnExactLongestToEndSpec : ChangeSpec := { name := "fnExactLongestToEnd", fn := fun _ => fun
  | [d] => { results := [.lit (.bool true)], args := [d] }
  | _ => none }
def fnExactLongestToEndRow : OpenClaim := { program := "ytiacfaeanlkalaa", sum := "e9a00e2056516a9f4abd25104d03029c4c06eda78fc5713f7de878ba700bd57c", func := "loop.example/g01374/laws.FnExactLongestToEnd", spec := "fnExactLongestToEnd", leaving := true, apart := false }
def FnExactLongestToEndSaid : Prop := fnExactLongestToEndRow.holds Try.pinned (OpenSpec.ofChange fnExactLongestToEndSpec)

/-- ITS FALSE NEIGHBOUR: 'it returns false'. Refute it at one input. -/
def fnExactLongestToEndWrong : ChangeSpec := { name := "fnExactLongestToEnd", fn := fun _ => fun
  | [d] => { results := [.lit (.bool false)], args := [d] }
  | _ => none }
def FnExactLongestToEndWrongFalsely : Prop := fnExactLongestToEndRow.holds Try.pinned (OpenSpec.ofChange fnExactLongestToEndWrong)

/-- 'laws.FnExactPathOfBall': WHATEVER THE INPUT: true; the input reads as it did. -/
def fnExactPathOfBallSpec : ChangeSpec := { name := "fnExactPathOfBall", fn := fun _ => fun
  | [d1, d2] => { results := [.lit (.bool true)], args := [d1, d2] }
  | _ => none }
def fnExactPathOfBallRow : OpenClaim := { program := "ytiacfaeanlkalaa", sum := "e9a00e2056516a9f4abd25104d03029c4c06eda78fc5713f7de878ba700bd57c", func := "loop.example/g01374/laws.FnExactPathOfBall", spec := "fnExactPathOfBall", leaving := true, apart := false }
def FnExactPathOfBallSaid : Prop := fnExactPathOfBallRow.holds Try.pinned (OpenSpec.ofChange fnExactPathOfBallSpec)

/-- ITS FALSE NEIGHBOUR: 'it returns false'. Refute it at one input. -/
def fnExactPathOfBallWrong : ChangeSpec := { name := "fnExactPathOfBall", fn := fun _ => fun
  | [d1, d2] => { results := [.lit (.bool false)], args := [d1, d2] }
  | _ => none }
def FnExactPathOfBallWrongFalsely : Prop := fnExactPathOfBallRow.holds Try.pinned (OpenSpec.ofChange fnExactPathOfBallWrong)

/-- 'laws.FnExactLoopOfBall': WHATEVER THE INPUT: true; the input reads as it did. -/
def fnExactLoopOfBallSpec : ChangeSpec := { name := "fnExactLoopOfBall", fn := fun _ => fun
  | [d1, d2] => { results := [.lit (.bool true)], args := [d1, d2] }
  | _ => none }
def fnExactLoopOfBallRow : OpenClaim := { program := "ytiacfaeanlkalaa", sum := "e9a00e2056516a9f4abd25104d03029c4c06eda78fc5713f7de878ba700bd57c", func := "loop.example/g01374/laws.FnExactLoopOfBall", spec := "fnExactLoopOfBall", leaving := true, apart := false }
def FnExactLoopOfBallSaid : Prop := fnExactLoopOfBallRow.holds Try.pinned (OpenSpec.ofChange fnExactLoopOfBallSpec)

/-- ITS FALSE NEIGHBOUR: 'it returns false'. Refute it at one input. -/
def fnExactLoopOfBallWrong : ChangeSpec := { name := "fnExactLoopOfBall", fn := fun _ => fun
  | [d1, d2] => { results := [.lit (.bool false)], args := [d1, d2] }
  | _ => none }
def FnExactLoopOfBallWrongFalsely : Prop := fnExactLoopOfBallRow.holds Try.pinned (OpenSpec.ofChange fnExactLoopOfBallWrong)

/-- 'laws.FnExactCountByEnd': WHATEVER THE INPUT: true; the input reads as it did. -/
def fnExactCountByEndSpec : ChangeSpec := { name := "fnExactCountByEnd", fn := fun _ => fun
  | [d] => { results := [.lit (.bool true)], args := [d] }
  | _ => none }
def fnExactCountByEndRow : OpenClaim := { program := "ytiacfaeanlkalaa", sum := "e9a00e2056516a9f4abd25104d03029c4c06eda78fc5713f7de878ba700bd57c", func := "loop.example/g01374/laws.FnExactCountByEnd", spec := "fnExactCountByEnd", unfollowed := true, recurses := true, leaving := true, apart := false }
def FnExactCountByEndSaid : Prop := fnExactCountByEndRow.holds Try.pinned (OpenSpec.ofChange fnExactCountByEndSpec)

/-- ITS FALSE NEIGHBOUR: 'it returns false'. Refute it at one input. -/
def fnExactCountByEndWrong : ChangeSpec := { name := "fnExactCountByEnd", fn := fun _ => fun
  | [d] => { results := [.lit (.bool false)], args := [d] }
  | _ => none }
def FnExactCountByEndWrongFalsely : Prop := fnExactCountByEndRow.holds Try.pinned (OpenSpec.ofChange fnExactCountByEndWrong)

/-- 'laws.FnExactStepsByEnd': WHATEVER THE INPUT: true; the input reads as it did. -/
def fnExactStepsByEndSpec : ChangeSpec := { name := "fnExactStepsByEnd", fn := fun _ => fun
  | [d1, d2] => { results := [.lit (.bool true)], args := [d1, d2] }
  | _ => none }
def fnExactStepsByEndRow : OpenClaim := { program := "ytiacfaeanlkalaa", sum := "e9a00e2056516a9f4abd25104d03029c4c06eda78fc5713f7de878ba700bd57c", func := "loop.example/g01374/laws.FnExactStepsByEnd", spec := "fnExactStepsByEnd", unfollowed := true, recurses := true, leaving := true, apart := false }
def FnExactStepsByEndSaid : Prop := fnExactStepsByEndRow.holds Try.pinned (OpenSpec.ofChange fnExactStepsByEndSpec)

/-- ITS FALSE NEIGHBOUR: 'it returns false'. Refute it at one input. -/
def fnExactStepsByEndWrong : ChangeSpec := { name := "fnExactStepsByEnd", fn := fun _ => fun
  | [d1, d2] => { results := [.lit (.bool false)], args := [d1, d2] }
  | _ => none }
def FnExactStepsByEndWrongFalsely : Prop := fnExactStepsByEndRow.holds Try.pinned (OpenSpec.ofChange fnExactStepsByEndWrong)

/-- 'laws.FnExactAllLoops': WHATEVER THE INPUT: true; the input reads as it did. -/
def fnExactAllLoopsSpec : ChangeSpec := { name := "fnExactAllLoops", fn := fun _ => fun
  | [d] => { results := [.lit (.bool true)], args := [d] }
  | _ => none }
def fnExactAllLoopsRow : OpenClaim := { program := "ytiacfaeanlkalaa", sum := "e9a00e2056516a9f4abd25104d03029c4c06eda78fc5713f7de878ba700bd57c", func := "loop.example/g01374/laws.FnExactAllLoops", spec := "fnExactAllLoops", leaving := true, apart := false }
def FnExactAllLoopsSaid : Prop := fnExactAllLoopsRow.holds Try.pinned (OpenSpec.ofChange fnExactAllLoopsSpec)

/-- ITS FALSE NEIGHBOUR: 'it returns false'. Refute it at one input. -/
def fnExactAllLoopsWrong : ChangeSpec := { name := "fnExactAllLoops", fn := fun _ => fun
  | [d] => { results := [.lit (.bool false)], args := [d] }
  | _ => none }
def FnExactAllLoopsWrongFalsely : Prop := fnExactAllLoopsRow.holds Try.pinned (OpenSpec.ofChange fnExactAllLoopsWrong)

/- THE SECOND FORM. 'bulk': how many values and letters a reading holds, each counted each time it is reached (what is shared counts as often as it is met; a slice's spare places count too). A statement '..UptoSaid' is the law's where the arguments, and the package variables that the reading takes, are together of bulk at most 1048576: NARROWER than '..Said'. Prove '..Said' where nothing that the law and all that it calls make is longer than what came in: it says more and counts as full. Else prove '..UptoSaid'. A law counts once. -/
mutual
def uptoBulk {H : Type} : DataW H → Nat
  | .lit (.string bytes) => bytes.length + 1
  | .lit _ => 1
  | .nil => 1
  | .ptr d => uptoBulk d + 1
  | .slice elems spare => uptoBulkAll elems + uptoBulkAll spare + 1
  | .agg parts => uptoBulkAll parts + 1
  | .iface _ d => uptoBulk d + 1
  | .map entries => uptoBulkEntries entries + 1
  | .held _ => 1
def uptoBulkAll {H : Type} : List (DataW H) → Nat
  | [] => 0
  | d :: r => uptoBulk d + uptoBulkAll r
def uptoBulkEntries {H : Type} : List (Lit × DataW H) → Nat
  | [] => 0
  | x :: r => uptoBulkEntry x + uptoBulkEntries r
def uptoBulkEntry {H : Type} : Lit × DataW H → Nat
  | (.string bytes, d) => bytes.length + uptoBulk d + 1
  | (_, d) => uptoBulk d + 1
 end
def uptoSmall : (H : Type) → List (DataW H) → Bool := fun _ ds => decide (uptoBulkAll ds ≤ 1048576)
def OpenSpec.upto (s : _root_.Go.ChangeSpec) : _root_.Go.OpenSpec := { _root_.Go.OpenSpec.ofChange s with cond := some uptoSmall }

/-- 'laws.FnExactEndOfBall', WHERE WHAT IT READS IS OF BULK AT MOST 1048576: true; the input reads as it did. -/
def fnExactEndOfBallUptoRow : OpenClaim := { program := "ytiacfaeanlkalaa", sum := "e9a00e2056516a9f4abd25104d03029c4c06eda78fc5713f7de878ba700bd57c", func := "loop.example/g01374/laws.FnExactEndOfBall", spec := "fnExactEndOfBall", leaving := true, apart := false, narrowed := true }
def FnExactEndOfBallUptoSaid : Prop := fnExactEndOfBallUptoRow.holds Try.pinned (OpenSpec.upto fnExactEndOfBallSpec)

/-- 'laws.FnExactPlaceAfter', WHERE WHAT IT READS IS OF BULK AT MOST 1048576: true; the input reads as it did. -/
def fnExactPlaceAfterUptoRow : OpenClaim := { program := "ytiacfaeanlkalaa", sum := "e9a00e2056516a9f4abd25104d03029c4c06eda78fc5713f7de878ba700bd57c", func := "loop.example/g01374/laws.FnExactPlaceAfter", spec := "fnExactPlaceAfter", leaving := true, apart := false, narrowed := true }
def FnExactPlaceAfterUptoSaid : Prop := fnExactPlaceAfterUptoRow.holds Try.pinned (OpenSpec.upto fnExactPlaceAfterSpec)

/-- 'laws.FnExactTimeToLoop', WHERE WHAT IT READS IS OF BULK AT MOST 1048576: true; the input reads as it did. -/
def fnExactTimeToLoopUptoRow : OpenClaim := { program := "ytiacfaeanlkalaa", sum := "e9a00e2056516a9f4abd25104d03029c4c06eda78fc5713f7de878ba700bd57c", func := "loop.example/g01374/laws.FnExactTimeToLoop", spec := "fnExactTimeToLoop", leaving := true, apart := false, narrowed := true }
def FnExactTimeToLoopUptoSaid : Prop := fnExactTimeToLoopUptoRow.holds Try.pinned (OpenSpec.upto fnExactTimeToLoopSpec)

/-- 'laws.FnExactFirstSame', WHERE WHAT IT READS IS OF BULK AT MOST 1048576: true; the input reads as it did. -/
def fnExactFirstSameUptoRow : OpenClaim := { program := "ytiacfaeanlkalaa", sum := "e9a00e2056516a9f4abd25104d03029c4c06eda78fc5713f7de878ba700bd57c", func := "loop.example/g01374/laws.FnExactFirstSame", spec := "fnExactFirstSame", leaving := true, apart := false, narrowed := true }
def FnExactFirstSameUptoSaid : Prop := fnExactFirstSameUptoRow.holds Try.pinned (OpenSpec.upto fnExactFirstSameSpec)

/-- 'laws.FnExactLongestToEnd', WHERE WHAT IT READS IS OF BULK AT MOST 1048576: true; the input reads as it did. -/
def fnExactLongestToEndUptoRow : OpenClaim := { program := "ytiacfaeanlkalaa", sum := "e9a00e2056516a9f4abd25104d03029c4c06eda78fc5713f7de878ba700bd57c", func := "loop.example/g01374/laws.FnExactLongestToEnd", spec := "fnExactLongestToEnd", leaving := true, apart := false, narrowed := true }
def FnExactLongestToEndUptoSaid : Prop := fnExactLongestToEndUptoRow.holds Try.pinned (OpenSpec.upto fnExactLongestToEndSpec)

/-- 'laws.FnExactPathOfBall', WHERE WHAT IT READS IS OF BULK AT MOST 1048576: true; the input reads as it did. -/
def fnExactPathOfBallUptoRow : OpenClaim := { program := "ytiacfaeanlkalaa", sum := "e9a00e2056516a9f4abd25104d03029c4c06eda78fc5713f7de878ba700bd57c", func := "loop.example/g01374/laws.FnExactPathOfBall", spec := "fnExactPathOfBall", leaving := true, apart := false, narrowed := true }
def FnExactPathOfBallUptoSaid : Prop := fnExactPathOfBallUptoRow.holds Try.pinned (OpenSpec.upto fnExactPathOfBallSpec)

/-- 'laws.FnExactLoopOfBall', WHERE WHAT IT READS IS OF BULK AT MOST 1048576: true; the input reads as it did. -/
def fnExactLoopOfBallUptoRow : OpenClaim := { program := "ytiacfaeanlkalaa", sum := "e9a00e2056516a9f4abd25104d03029c4c06eda78fc5713f7de878ba700bd57c", func := "loop.example/g01374/laws.FnExactLoopOfBall", spec := "fnExactLoopOfBall", leaving := true, apart := false, narrowed := true }
def FnExactLoopOfBallUptoSaid : Prop := fnExactLoopOfBallUptoRow.holds Try.pinned (OpenSpec.upto fnExactLoopOfBallSpec)

/-- 'laws.FnExactCountByEnd', WHERE WHAT IT READS IS OF BULK AT MOST 1048576: true; the input reads as it did. -/
def fnExactCountByEndUptoRow : OpenClaim := { program := "ytiacfaeanlkalaa", sum := "e9a00e2056516a9f4abd25104d03029c4c06eda78fc5713f7de878ba700bd57c", func := "loop.example/g01374/laws.FnExactCountByEnd", spec := "fnExactCountByEnd", unfollowed := true, recurses := true, leaving := true, apart := false, narrowed := true }
def FnExactCountByEndUptoSaid : Prop := fnExactCountByEndUptoRow.holds Try.pinned (OpenSpec.upto fnExactCountByEndSpec)

/-- 'laws.FnExactStepsByEnd', WHERE WHAT IT READS IS OF BULK AT MOST 1048576: true; the input reads as it did. -/
def fnExactStepsByEndUptoRow : OpenClaim := { program := "ytiacfaeanlkalaa", sum := "e9a00e2056516a9f4abd25104d03029c4c06eda78fc5713f7de878ba700bd57c", func := "loop.example/g01374/laws.FnExactStepsByEnd", spec := "fnExactStepsByEnd", unfollowed := true, recurses := true, leaving := true, apart := false, narrowed := true }
def FnExactStepsByEndUptoSaid : Prop := fnExactStepsByEndUptoRow.holds Try.pinned (OpenSpec.upto fnExactStepsByEndSpec)

/-- 'laws.FnExactAllLoops', WHERE WHAT IT READS IS OF BULK AT MOST 1048576: true; the input reads as it did. -/
def fnExactAllLoopsUptoRow : OpenClaim := { program := "ytiacfaeanlkalaa", sum := "e9a00e2056516a9f4abd25104d03029c4c06eda78fc5713f7de878ba700bd57c", func := "loop.example/g01374/laws.FnExactAllLoops", spec := "fnExactAllLoops", leaving := true, apart := false, narrowed := true }
def FnExactAllLoopsUptoSaid : Prop := fnExactAllLoopsUptoRow.holds Try.pinned (OpenSpec.upto fnExactAllLoopsSpec)

end Rows
end Go.Proofs.Ytiacfaeanlkalaa
