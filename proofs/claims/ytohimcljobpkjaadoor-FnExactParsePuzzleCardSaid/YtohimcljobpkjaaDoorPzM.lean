/- What calls over puzzles leave; small facts for the laws' walks. -/
import Derived.Test.YtohimcljobpkjaaDoorPzH
namespace Go.Proofs.YtohimcljobpkjaaDoor
open Go.RowKit
set_option maxRecDepth 100000

theorem RdF.drew {w : World} {B : Nat} {A : Option Addr} {c : Nat} {ps : List Tri} (h : RdF w B A c ps) : RdF w.drew B A c ps := h
theorem blk_rd {w : World} {g : Nat} {ps : List Tri} (h : Blk w g 44 (cellsF ps).toArray) (hn : ps.length ≤ 1048576) : RdF w w.heap.size (some ⟨g, 0, none⟩) ps.length ps := (blk_own h hn).rd
/-- A CALL ANSWERS A PUZZLE OF ITS OWN MEMORY AND A BOOL -/
def NewP (w : World) (qs : List Tri) (ok : Bool) (e : Ending) (w' : World) : Prop :=
  ∃ v, e = .returned (.tuple #[.agg #[v], .bool ok]) ∧ OwnF w' w.heap.size v qs ∧ Below w.heap.size w w'
/-- .. two lists of its own memory and a bool -/
def Lists2 (w : World) (xs ys : List Int) (ok : Bool) (e : Ending) (w' : World) : Prop :=
  ∃ v v', e = .returned (.tuple #[v, v', .bool ok]) ∧ OwnI w' w.heap.size v xs ∧ OwnI w' w.heap.size v' ys ∧ Apart v v' ∧ Below w.heap.size w w'

end Go.Proofs.YtohimcljobpkjaaDoor
