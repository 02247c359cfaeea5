/- Sums of lists of ints, and the program's sum of a list. -/
import Derived.Test.YtilfbmjohopckaaDoorGSpec
import Derived.Test.YtilfbmjohopckaaDoorWK
namespace Go.Proofs.YtilfbmjohopckaaDoor
open Go.RowKit

/-- the sum of a list -/
def sumH : List Int → Int
  | [] => 0
  | x :: r => x + sumH r
theorem sumH_snoc (x : Int) : ∀ (xs : List Int), sumH (xs ++ [x]) = sumH xs + x
  | [] => by simp [sumH]
  | y :: r => by simp [sumH, sumH_snoc x r]; omega
theorem take_snoc (xs : List Int) (k : Nat) (h : k < xs.length) : xs.take (k + 1) = xs.take k ++ [xs.getD k 0] := by
  rw [List.take_add_one]; simp [List.getD_eq_getElem?_getD, h]
theorem sumH_take (xs : List Int) (k : Nat) (h : k < xs.length) : sumH (xs.take (k + 1)) = sumH (xs.take k) + xs.getD k 0 := by
  rw [take_snoc xs k h, sumH_snoc]
theorem sumH_bd {m : Int} (hm : 0 ≤ m) {xs : List Int} (hx : ∀ k, k < xs.length → 0 ≤ xs.getD k 0 ∧ xs.getD k 0 ≤ m) : ∀ (k : Nat), k ≤ xs.length → 0 ≤ sumH (xs.take k) ∧ sumH (xs.take k) ≤ m * k
  | 0, _ => by simp [sumH]
  | k + 1, h => by
    have := sumH_bd hm hx k (by omega)
    have h2 := hx k (by omega)
    rw [sumH_take xs k (by omega), Int.natCast_succ, Int.mul_add]
    omega

end Go.Proofs.YtilfbmjohopckaaDoor
