/- Contracts: one can stand on a step; a list is a climb; the steps of a climb; the set of broken steps. -/
import Derived.Test.YtohimcljobpkjaaDoorClimb
namespace Go.Proofs.YtohimcljobpkjaaDoor
set_option maxRecDepth 100000
open Go.RowKit

theorem below_alloc (w : World) (o : Obj) : Below w.heap.size w (w.alloc o) := (Below.refl _ _).alloc (Nat.le_refl _) _

theorem climb_step {st : Int} {ss bs : List Int} {v x : Int} {C L : Bool} {xs : List Int} {k : Nat} (H : C = climbB st ss bs v (xs.drop k)) (E : climbB st ss bs v (xs.drop k) = (hasB ss x && (standB st bs (v + x) && L))) (h1 : hasB ss x = true) (h2 : standB st bs (v + x) = true) : C = L := by
  rw [H, E]; simp [h1, h2]
theorem climb_no1 {st : Int} {ss bs : List Int} {v x : Int} {C L : Bool} {xs : List Int} {k : Nat} (H : C = climbB st ss bs v (xs.drop k)) (E : climbB st ss bs v (xs.drop k) = (hasB ss x && (standB st bs (v + x) && L))) (h1 : hasB ss x = false) : false = C := by
  rw [H, E]; simp [h1]
theorem climb_no2 {st : Int} {ss bs : List Int} {v x : Int} {C L : Bool} {xs : List Int} {k : Nat} (H : C = climbB st ss bs v (xs.drop k)) (E : climbB st ss bs v (xs.drop k) = (hasB ss x && (standB st bs (v + x) && L))) (h2 : standB st bs (v + x) = false) : false = C := by
  rw [H, E]; simp [h2]
theorem stand_le {st k : Int} {bs : List Int} (h : standB st bs k = true) : 0 ≤ k ∧ k ≤ st := by
  simp only [standB, Bool.and_eq_true] at h
  exact inB_le h.1

end Go.Proofs.YtohimcljobpkjaaDoor
