/-
  No cell of these rows narrows 'for every input' (looked for: loops, veiled, ifaces, maps, wideKeys, modest, calm, conditions, laid).
  DERIVED. THE GIVEN ROWS OF THIS SEAT. 7 by the template 'for every input the law returns true; each argument reads behind the call as it read before'; 0 by the template 'total and deterministic' (their statements: YtkeejocbpiipjaaTotals.lean).
  GIVEN WITH THE SEED: the statements are not yours to turn. If you find one false, say at which input.
  Laid BY PROGRAM, IN A SANDBOX (cutbox-rows.mjs): the forced cells as the released guide's own fill.sh prints them over the translation 75f7ee3af854f90b… (all of the seat's roots in one cut). By AI agents, Wed Nov 11 2026. No macro, syntax, notation, axiom, sorry.
-/
import Derived.Test.YtkeejocbpiipjaaChecked
import GoSem.Claim
import GoSem.ClaimJoined
import GoSem.ClaimMapViews
import Derived.JoinedTies
import Derived.KernelRfl
namespace Go.Proofs.Ytkeejocbpiipjaa
/- THE CELL 'sum', in the pinned program and in every row, IS THE sha256 OF THE DUMP (.gsa) THAT YtkeejocbpiipjaaProg.lean LOADS. Nothing in Lean hashes anything: it is a label: what it is worth is what the hold of that sum in a sandbox is worth. -/
noncomputable def Try.pinned : Pinned := { name := "ytkeejocbpiipjaa", sum := "75f7ee3af854f90b0ad8f5a8f60702e4a68c50b0afb386988351c52d4e5580c6", checked := Try.checked }
namespace Rows
def none {H : Type} : Left H := { results := [], args := [] }

/-- 'laws.FnExactMeetStep': WHATEVER THE INPUT: true; the input reads as it did. -/
def fnExactMeetStepSpec : ChangeSpec := { name := "fnExactMeetStep", fn := fun _ => fun
  | [d1, d2, d3] => { results := [.lit (.bool true)], args := [d1, d2, d3] }
  | _ => none }
def fnExactMeetStepRow : OpenClaim := { program := "ytkeejocbpiipjaa", sum := "75f7ee3af854f90b0ad8f5a8f60702e4a68c50b0afb386988351c52d4e5580c6", func := "loop.example/g01374/laws.FnExactMeetStep", spec := "fnExactMeetStep", apart := false }
def FnExactMeetStepSaid : Prop := fnExactMeetStepRow.holds Try.pinned (OpenSpec.ofChange fnExactMeetStepSpec)

/-- ITS FALSE NEIGHBOUR: 'it returns false'. Refute it at one input. -/
def fnExactMeetStepWrong : ChangeSpec := { name := "fnExactMeetStep", fn := fun _ => fun
  | [d1, d2, d3] => { results := [.lit (.bool false)], args := [d1, d2, d3] }
  | _ => none }
def FnExactMeetStepWrongFalsely : Prop := fnExactMeetStepRow.holds Try.pinned (OpenSpec.ofChange fnExactMeetStepWrong)

/-- 'laws.FnExactCatchUp': WHATEVER THE INPUT: true; the input reads as it did. -/
def fnExactCatchUpSpec : ChangeSpec := { name := "fnExactCatchUp", fn := fun _ => fun
  | [d1, d2, d3, d4] => { results := [.lit (.bool true)], args := [d1, d2, d3, d4] }
  | _ => none }
def fnExactCatchUpRow : OpenClaim := { program := "ytkeejocbpiipjaa", sum := "75f7ee3af854f90b0ad8f5a8f60702e4a68c50b0afb386988351c52d4e5580c6", func := "loop.example/g01374/laws.FnExactCatchUp", spec := "fnExactCatchUp", apart := false }
def FnExactCatchUpSaid : Prop := fnExactCatchUpRow.holds Try.pinned (OpenSpec.ofChange fnExactCatchUpSpec)

/-- ITS FALSE NEIGHBOUR: 'it returns false'. Refute it at one input. -/
def fnExactCatchUpWrong : ChangeSpec := { name := "fnExactCatchUp", fn := fun _ => fun
  | [d1, d2, d3, d4] => { results := [.lit (.bool false)], args := [d1, d2, d3, d4] }
  | _ => none }
def FnExactCatchUpWrongFalsely : Prop := fnExactCatchUpRow.holds Try.pinned (OpenSpec.ofChange fnExactCatchUpWrong)

/-- 'laws.FnExactRoundTrip': WHATEVER THE INPUT: true; the input reads as it did. -/
def fnExactRoundTripSpec : ChangeSpec := { name := "fnExactRoundTrip", fn := fun _ => fun
  | [d1, d2] => { results := [.lit (.bool true)], args := [d1, d2] }
  | _ => none }
def fnExactRoundTripRow : OpenClaim := { program := "ytkeejocbpiipjaa", sum := "75f7ee3af854f90b0ad8f5a8f60702e4a68c50b0afb386988351c52d4e5580c6", func := "loop.example/g01374/laws.FnExactRoundTrip", spec := "fnExactRoundTrip", unfollowed := true, recurses := true, apart := false }
def FnExactRoundTripSaid : Prop := fnExactRoundTripRow.holds Try.pinned (OpenSpec.ofChange fnExactRoundTripSpec)

/-- ITS FALSE NEIGHBOUR: 'it returns false'. Refute it at one input. -/
def fnExactRoundTripWrong : ChangeSpec := { name := "fnExactRoundTrip", fn := fun _ => fun
  | [d1, d2] => { results := [.lit (.bool false)], args := [d1, d2] }
  | _ => none }
def FnExactRoundTripWrongFalsely : Prop := fnExactRoundTripRow.holds Try.pinned (OpenSpec.ofChange fnExactRoundTripWrong)

/-- 'laws.FnExactRailLead': WHATEVER THE INPUT: true; the input reads as it did. -/
def fnExactRailLeadSpec : ChangeSpec := { name := "fnExactRailLead", fn := fun _ => fun
  | [d1, d2, d3] => { results := [.lit (.bool true)], args := [d1, d2, d3] }
  | _ => none }
def fnExactRailLeadRow : OpenClaim := { program := "ytkeejocbpiipjaa", sum := "75f7ee3af854f90b0ad8f5a8f60702e4a68c50b0afb386988351c52d4e5580c6", func := "loop.example/g01374/laws.FnExactRailLead", spec := "fnExactRailLead", unfollowed := true, recurses := true, apart := false }
def FnExactRailLeadSaid : Prop := fnExactRailLeadRow.holds Try.pinned (OpenSpec.ofChange fnExactRailLeadSpec)

/-- ITS FALSE NEIGHBOUR: 'it returns false'. Refute it at one input. -/
def fnExactRailLeadWrong : ChangeSpec := { name := "fnExactRailLead", fn := fun _ => fun
  | [d1, d2, d3] => { results := [.lit (.bool false)], args := [d1, d2, d3] }
  | _ => none }
def FnExactRailLeadWrongFalsely : Prop := fnExactRailLeadRow.holds Try.pinned (OpenSpec.ofChange fnExactRailLeadWrong)

/-- 'laws.FnExactWholeTimes': WHATEVER THE INPUT: true; the input reads as it did. -/
def fnExactWholeTimesSpec : ChangeSpec := { name := "fnExactWholeTimes", fn := fun _ => fun
  | [d] => { results := [.lit (.bool true)], args := [d] }
  | _ => none }
def fnExactWholeTimesRow : OpenClaim := { program := "ytkeejocbpiipjaa", sum := "75f7ee3af854f90b0ad8f5a8f60702e4a68c50b0afb386988351c52d4e5580c6", func := "loop.example/g01374/laws.FnExactWholeTimes", spec := "fnExactWholeTimes", unfollowed := true, recurses := true, apart := false }
def FnExactWholeTimesSaid : Prop := fnExactWholeTimesRow.holds Try.pinned (OpenSpec.ofChange fnExactWholeTimesSpec)

/-- ITS FALSE NEIGHBOUR: 'it returns false'. Refute it at one input. -/
def fnExactWholeTimesWrong : ChangeSpec := { name := "fnExactWholeTimes", fn := fun _ => fun
  | [d] => { results := [.lit (.bool false)], args := [d] }
  | _ => none }
def FnExactWholeTimesWrongFalsely : Prop := fnExactWholeTimesRow.holds Try.pinned (OpenSpec.ofChange fnExactWholeTimesWrong)

/-- 'laws.FnExactFullHouse': WHATEVER THE INPUT: true; the input reads as it did. -/
def fnExactFullHouseSpec : ChangeSpec := { name := "fnExactFullHouse", fn := fun _ => fun
  | [d1, d2] => { results := [.lit (.bool true)], args := [d1, d2] }
  | _ => none }
def fnExactFullHouseRow : OpenClaim := { program := "ytkeejocbpiipjaa", sum := "75f7ee3af854f90b0ad8f5a8f60702e4a68c50b0afb386988351c52d4e5580c6", func := "loop.example/g01374/laws.FnExactFullHouse", spec := "fnExactFullHouse", apart := false }
def FnExactFullHouseSaid : Prop := fnExactFullHouseRow.holds Try.pinned (OpenSpec.ofChange fnExactFullHouseSpec)

/-- ITS FALSE NEIGHBOUR: 'it returns false'. Refute it at one input. -/
def fnExactFullHouseWrong : ChangeSpec := { name := "fnExactFullHouse", fn := fun _ => fun
  | [d1, d2] => { results := [.lit (.bool false)], args := [d1, d2] }
  | _ => none }
def FnExactFullHouseWrongFalsely : Prop := fnExactFullHouseRow.holds Try.pinned (OpenSpec.ofChange fnExactFullHouseWrong)

/-- 'laws.FnExactPlaceAt': WHATEVER THE INPUT: true; the input reads as it did. -/
def fnExactPlaceAtSpec : ChangeSpec := { name := "fnExactPlaceAt", fn := fun _ => fun
  | [d1, d2, d3] => { results := [.lit (.bool true)], args := [d1, d2, d3] }
  | _ => none }
def fnExactPlaceAtRow : OpenClaim := { program := "ytkeejocbpiipjaa", sum := "75f7ee3af854f90b0ad8f5a8f60702e4a68c50b0afb386988351c52d4e5580c6", func := "loop.example/g01374/laws.FnExactPlaceAt", spec := "fnExactPlaceAt", apart := false }
def FnExactPlaceAtSaid : Prop := fnExactPlaceAtRow.holds Try.pinned (OpenSpec.ofChange fnExactPlaceAtSpec)

/-- ITS FALSE NEIGHBOUR: 'it returns false'. Refute it at one input. -/
def fnExactPlaceAtWrong : ChangeSpec := { name := "fnExactPlaceAt", fn := fun _ => fun
  | [d1, d2, d3] => { results := [.lit (.bool false)], args := [d1, d2, d3] }
  | _ => none }
def FnExactPlaceAtWrongFalsely : Prop := fnExactPlaceAtRow.holds Try.pinned (OpenSpec.ofChange fnExactPlaceAtWrong)

/- THE SECOND FORM. 'bulk': how many values and letters a reading holds, each counted each time it is reached (what is shared counts as often as it is met; a slice's spare places count too). A statement '..UptoSaid' is the law's where the arguments, and the package variables that the reading takes, are together of bulk at most 1048576: NARROWER than '..Said'. Prove '..Said' where nothing that the law and all that it calls make is longer than what came in: it says more and counts as full. Else prove '..UptoSaid'. A law counts once. -/
mutual
def uptoBulk {H : Type} : DataW H → Nat
  | .lit (.string bytes) => bytes.length + 1
  | .lit _ => 1
  | .nil => 1
  | .ptr d => uptoBulk d + 1
  | .slice elems spare => uptoBulkAll elems + uptoBulkAll spare + 1
  | .agg parts => uptoBulkAll parts + 1
  | .iface _ d => uptoBulk d + 1
  | .map entries => uptoBulkEntries entries + 1
  | .held _ => 1
def uptoBulkAll {H : Type} : List (DataW H) → Nat
  | [] => 0
  | d :: r => uptoBulk d + uptoBulkAll r
def uptoBulkEntries {H : Type} : List (Lit × DataW H) → Nat
  | [] => 0
  | x :: r => uptoBulkEntry x + uptoBulkEntries r
def uptoBulkEntry {H : Type} : Lit × DataW H → Nat
  | (.string bytes, d) => bytes.length + uptoBulk d + 1
  | (_, d) => uptoBulk d + 1
 end
def uptoSmall : (H : Type) → List (DataW H) → Bool := fun _ ds => decide (uptoBulkAll ds ≤ 1048576)
def OpenSpec.upto (s : _root_.Go.ChangeSpec) : _root_.Go.OpenSpec := { _root_.Go.OpenSpec.ofChange s with cond := some uptoSmall }

/-- 'laws.FnExactMeetStep', WHERE WHAT IT READS IS OF BULK AT MOST 1048576: true; the input reads as it did. -/
def fnExactMeetStepUptoRow : OpenClaim := { program := "ytkeejocbpiipjaa", sum := "75f7ee3af854f90b0ad8f5a8f60702e4a68c50b0afb386988351c52d4e5580c6", func := "loop.example/g01374/laws.FnExactMeetStep", spec := "fnExactMeetStep", apart := false, narrowed := true }
def FnExactMeetStepUptoSaid : Prop := fnExactMeetStepUptoRow.holds Try.pinned (OpenSpec.upto fnExactMeetStepSpec)

/-- 'laws.FnExactCatchUp', WHERE WHAT IT READS IS OF BULK AT MOST 1048576: true; the input reads as it did. -/
def fnExactCatchUpUptoRow : OpenClaim := { program := "ytkeejocbpiipjaa", sum := "75f7ee3af854f90b0ad8f5a8f60702e4a68c50b0afb386988351c52d4e5580c6", func := "loop.example/g01374/laws.FnExactCatchUp", spec := "fnExactCatchUp", apart := false, narrowed := true }
def FnExactCatchUpUptoSaid : Prop := fnExactCatchUpUptoRow.holds Try.pinned (OpenSpec.upto fnExactCatchUpSpec)

/-- 'laws.FnExactRoundTrip', WHERE WHAT IT READS IS OF BULK AT MOST 1048576: true; the input reads as it did. -/
def fnExactRoundTripUptoRow : OpenClaim := { program := "ytkeejocbpiipjaa", sum := "75f7ee3af854f90b0ad8f5a8f60702e4a68c50b0afb386988351c52d4e5580c6", func := "loop.example/g01374/laws.FnExactRoundTrip", spec := "fnExactRoundTrip", unfollowed := true, recurses := true, apart := false, narrowed := true }
def FnExactRoundTripUptoSaid : Prop := fnExactRoundTripUptoRow.holds Try.pinned (OpenSpec.upto fnExactRoundTripSpec)

/-- 'laws.FnExactRailLead', WHERE WHAT IT READS IS OF BULK AT MOST 1048576: true; the input reads as it did. -/
def fnExactRailLeadUptoRow : OpenClaim := { program := "ytkeejocbpiipjaa", sum := "75f7ee3af854f90b0ad8f5a8f60702e4a68c50b0afb386988351c52d4e5580c6", func := "loop.example/g01374/laws.FnExactRailLead", spec := "fnExactRailLead", unfollowed := true, recurses := true, apart := false, narrowed := true }
def FnExactRailLeadUptoSaid : Prop := fnExactRailLeadUptoRow.holds Try.pinned (OpenSpec.upto fnExactRailLeadSpec)

/-- 'laws.FnExactWholeTimes', WHERE WHAT IT READS IS OF BULK AT MOST 1048576: true; the input reads as it did. -/
def fnExactWholeTimesUptoRow : OpenClaim := { program := "ytkeejocbpiipjaa", sum := "75f7ee3af854f90b0ad8f5a8f60702e4a68c50b0afb386988351c52d4e5580c6", func := "loop.example/g01374/laws.FnExactWholeTimes", spec := "fnExactWholeTimes", unfollowed := true, recurses := true, apart := false, narrowed := true }
def FnExactWholeTimesUptoSaid : Prop := fnExactWholeTimesUptoRow.holds Try.pinned (OpenSpec.upto fnExactWholeTimesSpec)

/-- 'laws.FnExactFullHouse', WHERE WHAT IT READS IS OF BULK AT MOST 1048576: true; the input reads as it did. -/
def fnExactFullHouseUptoRow : OpenClaim := { program := "ytkeejocbpiipjaa", sum := "75f7ee3af854f90b0ad8f5a8f60702e4a68c50b0afb386988351c52d4e5580c6", func := "loop.example/g01374/laws.FnExactFullHouse", spec := "fnExactFullHouse", apart := false, narrowed := true }
def FnExactFullHouseUptoSaid : Prop := fnExactFullHouseUptoRow.holds Try.pinned (OpenSpec.upto fnExactFullHouseSpec)

/-- 'laws.FnExactPlaceAt', WHERE WHAT IT READS IS OF BULK AT MOST 1048576: true; the input reads as it did. -/
def fnExactPlaceAtUptoRow : OpenClaim := { program := "ytkeejocbpiipjaa", sum := "75f7ee3af854f90b0ad8f5a8f60702e4a68c50b0afb386988351c52d4e5580c6", func := "loop.example/g01374/laws.FnExactPlaceAt", spec := "fnExactPlaceAt", apart := false, narrowed := true }
def FnExactPlaceAtUptoSaid : Prop := fnExactPlaceAtUptoRow.holds Try.pinned (OpenSpec.upto fnExactPlaceAtSpec)

end Rows
end Go.Proofs.Ytkeejocbpiipjaa
