/- Contracts: stairs and a climb of them, on the model's side; how long a climb is. -/
import Derived.Test.YtohimcljobpkjaaDoorPush
namespace Go.Proofs.YtohimcljobpkjaaDoor
set_option maxRecDepth 100000
open Go.RowKit

/-- the steps, if b holds -/
def stepsF (b : Bool) (xs : List Int) : List Int := if b = true then sumsL 0 xs else []
theorem stepsF_true (xs : List Int) : stepsF true xs = sumsL 0 xs := rfl
theorem stepsF_false (xs : List Int) : stepsF false xs = [] := rfl

/-- a climb has at most as many strides as there are steps -/
theorem climb_len (st : Int) (ss bs : List Int) (hs : ∀ x ∈ ss, 1 ≤ x ∧ x ≤ 9) : ∀ (v : Int) (xs : List Int), climbB st ss bs v xs = true → v ≤ st → (xs.length : Int) ≤ st - v
  | v, [], _, h => by simp; omega
  | v, x :: r, h, _ => by
    simp only [climbB, Bool.and_eq_true] at h
    have h2 := stand_le h.2.1
    have := climb_len st ss bs hs (v + x) r h.2.2 h2.2
    have := hs x (mem_of_hasB h.1)
    simp; omega

end Go.Proofs.YtohimcljobpkjaaDoor
