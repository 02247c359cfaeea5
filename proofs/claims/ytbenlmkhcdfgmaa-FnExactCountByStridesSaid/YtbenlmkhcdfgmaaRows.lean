/-
  No cell of these rows narrows 'for every input' (looked for: loops, veiled, ifaces, maps, wideKeys, modest, calm, conditions, laid).
  DERIVED. THE GIVEN ROWS OF THIS SEAT. 4 by the template 'for every input the law returns true; each argument reads behind the call as it read before'; 0 by the template 'total and deterministic' (their statements: YtbenlmkhcdfgmaaTotals.lean).
  GIVEN WITH THE SEED: the statements are not yours to turn. If you find one false, say at which input.
  Laid BY PROGRAM, IN A SANDBOX (cutbox-rows.mjs): the forced cells as the released guide's own fill.sh prints them over the translation 608ea8148b32f5eb… (all of the seat's roots in one cut). By AI agents, Wed Nov 11 2026. No macro, syntax, notation, axiom, sorry.
-/
import Derived.Test.YtbenlmkhcdfgmaaChecked
import GoSem.Claim
import GoSem.ClaimJoined
import GoSem.ClaimMapViews
import Derived.JoinedTies
import Derived.KernelRfl
namespace Go.Proofs.Ytbenlmkhcdfgmaa
/- THE CELL 'sum', in the pinned program and in every row, IS THE sha256 OF THE DUMP (.gsa) THAT YtbenlmkhcdfgmaaProg.lean LOADS. Nothing in Lean hashes anything: it is a label: what it is worth is what the hold of that sum in a sandbox is worth. -/
noncomputable def Try.pinned : Pinned := { name := "ytbenlmkhcdfgmaa", sum := "608ea8148b32f5eb8195c9e1e02d8312ed6e174623a903739feddcc293e17571", checked := Try.checked }
namespace Rows
def none {H : Type} : Left H := { results := [], args := [] }

/-- 'laws.FnExactFirstFewest': WHATEVER THE INPUT: true; the input reads as it did. -/
def fnExactFirstFewestSpec : ChangeSpec := { name := "fnExactFirstFewest", fn := fun _ => fun
  | [d] => { results := [.lit (.bool true)], args := [d] }
  | _ => none }
def fnExactFirstFewestRow : OpenClaim := { program := "ytbenlmkhcdfgmaa", sum := "608ea8148b32f5eb8195c9e1e02d8312ed6e174623a903739feddcc293e17571", func := "loop.example/g01374/laws.FnExactFirstFewest", spec := "fnExactFirstFewest", apart := false }
def FnExactFirstFewestSaid : Prop := fnExactFirstFewestRow.holds Try.pinned (OpenSpec.ofChange fnExactFirstFewestSpec)

/-- ITS FALSE NEIGHBOUR: 'it returns false'. Refute it at one input. -/
def fnExactFirstFewestWrong : ChangeSpec := { name := "fnExactFirstFewest", fn := fun _ => fun
  | [d] => { results := [.lit (.bool false)], args := [d] }
  | _ => none }
def FnExactFirstFewestWrongFalsely : Prop := fnExactFirstFewestRow.holds Try.pinned (OpenSpec.ofChange fnExactFirstFewestWrong)

/-- 'laws.FnExactMostStrides': WHATEVER THE INPUT: true; the input reads as it did. -/
def fnExactMostStridesSpec : ChangeSpec := { name := "fnExactMostStrides", fn := fun _ => fun
  | [d] => { results := [.lit (.bool true)], args := [d] }
  | _ => none }
def fnExactMostStridesRow : OpenClaim := { program := "ytbenlmkhcdfgmaa", sum := "608ea8148b32f5eb8195c9e1e02d8312ed6e174623a903739feddcc293e17571", func := "loop.example/g01374/laws.FnExactMostStrides", spec := "fnExactMostStrides", unfollowed := true, recurses := true, apart := false }
def FnExactMostStridesSaid : Prop := fnExactMostStridesRow.holds Try.pinned (OpenSpec.ofChange fnExactMostStridesSpec)

/-- ITS FALSE NEIGHBOUR: 'it returns false'. Refute it at one input. -/
def fnExactMostStridesWrong : ChangeSpec := { name := "fnExactMostStrides", fn := fun _ => fun
  | [d] => { results := [.lit (.bool false)], args := [d] }
  | _ => none }
def FnExactMostStridesWrongFalsely : Prop := fnExactMostStridesRow.holds Try.pinned (OpenSpec.ofChange fnExactMostStridesWrong)

/-- 'laws.FnExactCountByStrides': WHATEVER THE INPUT: true; the input reads as it did. -/
def fnExactCountByStridesSpec : ChangeSpec := { name := "fnExactCountByStrides", fn := fun _ => fun
  | [d1, d2] => { results := [.lit (.bool true)], args := [d1, d2] }
  | _ => none }
def fnExactCountByStridesRow : OpenClaim := { program := "ytbenlmkhcdfgmaa", sum := "608ea8148b32f5eb8195c9e1e02d8312ed6e174623a903739feddcc293e17571", func := "loop.example/g01374/laws.FnExactCountByStrides", spec := "fnExactCountByStrides", apart := false }
def FnExactCountByStridesSaid : Prop := fnExactCountByStridesRow.holds Try.pinned (OpenSpec.ofChange fnExactCountByStridesSpec)

/-- ITS FALSE NEIGHBOUR: 'it returns false'. Refute it at one input. -/
def fnExactCountByStridesWrong : ChangeSpec := { name := "fnExactCountByStrides", fn := fun _ => fun
  | [d1, d2] => { results := [.lit (.bool false)], args := [d1, d2] }
  | _ => none }
def FnExactCountByStridesWrongFalsely : Prop := fnExactCountByStridesRow.holds Try.pinned (OpenSpec.ofChange fnExactCountByStridesWrong)

/-- 'laws.FnExactFewestStrides': WHATEVER THE INPUT: true; the input reads as it did. -/
def fnExactFewestStridesSpec : ChangeSpec := { name := "fnExactFewestStrides", fn := fun _ => fun
  | [d] => { results := [.lit (.bool true)], args := [d] }
  | _ => none }
def fnExactFewestStridesRow : OpenClaim := { program := "ytbenlmkhcdfgmaa", sum := "608ea8148b32f5eb8195c9e1e02d8312ed6e174623a903739feddcc293e17571", func := "loop.example/g01374/laws.FnExactFewestStrides", spec := "fnExactFewestStrides", apart := false }
def FnExactFewestStridesSaid : Prop := fnExactFewestStridesRow.holds Try.pinned (OpenSpec.ofChange fnExactFewestStridesSpec)

/-- ITS FALSE NEIGHBOUR: 'it returns false'. Refute it at one input. -/
def fnExactFewestStridesWrong : ChangeSpec := { name := "fnExactFewestStrides", fn := fun _ => fun
  | [d] => { results := [.lit (.bool false)], args := [d] }
  | _ => none }
def FnExactFewestStridesWrongFalsely : Prop := fnExactFewestStridesRow.holds Try.pinned (OpenSpec.ofChange fnExactFewestStridesWrong)

/- THE SECOND FORM. 'bulk': how many values and letters a reading holds, each counted each time it is reached (what is shared counts as often as it is met; a slice's spare places count too). A statement '..UptoSaid' is the law's where the arguments, and the package variables that the reading takes, are together of bulk at most 1048576: NARROWER than '..Said'. Prove '..Said' where nothing that the law and all that it calls make is longer than what came in: it says more and counts as full. Else prove '..UptoSaid'. A law counts once. -/
mutual
def uptoBulk {H : Type} : DataW H → Nat
  | .lit (.string bytes) => bytes.length + 1
  | .lit _ => 1
  | .nil => 1
  | .ptr d => uptoBulk d + 1
  | .slice elems spare => uptoBulkAll elems + uptoBulkAll spare + 1
  | .agg parts => uptoBulkAll parts + 1
  | .iface _ d => uptoBulk d + 1
  | .map entries => uptoBulkEntries entries + 1
  | .held _ => 1
def uptoBulkAll {H : Type} : List (DataW H) → Nat
  | [] => 0
  | d :: r => uptoBulk d + uptoBulkAll r
def uptoBulkEntries {H : Type} : List (Lit × DataW H) → Nat
  | [] => 0
  | x :: r => uptoBulkEntry x + uptoBulkEntries r
def uptoBulkEntry {H : Type} : Lit × DataW H → Nat
  | (.string bytes, d) => bytes.length + uptoBulk d + 1
  | (_, d) => uptoBulk d + 1
 end
def uptoSmall : (H : Type) → List (DataW H) → Bool := fun _ ds => decide (uptoBulkAll ds ≤ 1048576)
def OpenSpec.upto (s : _root_.Go.ChangeSpec) : _root_.Go.OpenSpec := { _root_.Go.OpenSpec.ofChange s with cond := some uptoSmall }

/-- 'laws.FnExactFirstFewest', WHERE WHAT IT READS IS OF BULK AT MOST 1048576: true; the input reads as it did. -/
def fnExactFirstFewestUptoRow : OpenClaim := { program := "ytbenlmkhcdfgmaa", sum := "608ea8148b32f5eb8195c9e1e02d8312ed6e174623a903739feddcc293e17571", func := "loop.example/g01374/laws.FnExactFirstFewest", spec := "fnExactFirstFewest", apart := false, narrowed := true }
def FnExactFirstFewestUptoSaid : Prop := fnExactFirstFewestUptoRow.holds Try.pinned (OpenSpec.upto fnExactFirstFewestSpec)

/-- 'laws.FnExactMostStrides', WHERE WHAT IT READS IS OF BULK AT MOST 1048576: true; the input reads as it did. -/
def fnExactMostStridesUptoRow : OpenClaim := { program := "ytbenlmkhcdfgmaa", sum := "608ea8148b32f5eb8195c9e1e02d8312ed6e174623a903739feddcc293e17571", func := "loop.example/g01374/laws.FnExactMostStrides", spec := "fnExactMostStrides", unfollowed := true, recurses := true, apart := false, narrowed := true }
def FnExactMostStridesUptoSaid : Prop := fnExactMostStridesUptoRow.holds Try.pinned (OpenSpec.upto fnExactMostStridesSpec)

/-- 'laws.FnExactCountByStrides', WHERE WHAT IT READS IS OF BULK AT MOST 1048576: true; the input reads as it did. -/
def fnExactCountByStridesUptoRow : OpenClaim := { program := "ytbenlmkhcdfgmaa", sum := "608ea8148b32f5eb8195c9e1e02d8312ed6e174623a903739feddcc293e17571", func := "loop.example/g01374/laws.FnExactCountByStrides", spec := "fnExactCountByStrides", apart := false, narrowed := true }
def FnExactCountByStridesUptoSaid : Prop := fnExactCountByStridesUptoRow.holds Try.pinned (OpenSpec.upto fnExactCountByStridesSpec)

/-- 'laws.FnExactFewestStrides', WHERE WHAT IT READS IS OF BULK AT MOST 1048576: true; the input reads as it did. -/
def fnExactFewestStridesUptoRow : OpenClaim := { program := "ytbenlmkhcdfgmaa", sum := "608ea8148b32f5eb8195c9e1e02d8312ed6e174623a903739feddcc293e17571", func := "loop.example/g01374/laws.FnExactFewestStrides", spec := "fnExactFewestStrides", apart := false, narrowed := true }
def FnExactFewestStridesUptoSaid : Prop := fnExactFewestStridesUptoRow.holds Try.pinned (OpenSpec.upto fnExactFewestStridesSpec)

end Rows
end Go.Proofs.Ytbenlmkhcdfgmaa
