/- Contracts: copies and comparisons of stairs. -/
import Derived.Test.YtohimcljobpkjaaDoorGood
namespace Go.Proofs.YtohimcljobpkjaaDoor
set_option maxRecDepth 100000
open Go.RowKit

/-- WHAT A COPY OF STAIRS LEAVES: a value over two new blocks of its own, known whole. -/
def Copied (w : World) (st : Int) (ss bs : List Int) (e : Ending) (w' : World) : Prop :=
  ∃ g g', e = .returned (stv st (some ⟨g, 0, none⟩) (some ⟨g', 0, none⟩) ss.length bs.length ss bs) ∧ w.heap.size ≤ g ∧ g < g' ∧ Blk w' g 3 (ints ss) ∧ Blk w' g' 3 (ints bs) ∧ Below w.heap.size w w'

/-- two stairs are the same, as the law's own comparison decides it -/
def eqSt (st : Int) (ss bs : List Int) (st' : Int) (ss' bs' : List Int) : Bool := decide (st = st') && (eqB ss ss' && eqB bs bs')
theorem eqSt_self (st : Int) (ss bs : List Int) : eqSt st ss bs st ss bs = true := by simp [eqSt, eqB_self]

theorem Below.drewN' {B : Nat} {a w : World} (h : Below B a w) (n : Nat) : Below B a (w.drewN n) := ⟨h.os, h.tape, h.output, h.size, h.block⟩

end Go.Proofs.YtohimcljobpkjaaDoor
