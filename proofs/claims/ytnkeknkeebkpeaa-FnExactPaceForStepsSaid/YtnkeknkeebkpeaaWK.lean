/- Small words for walks that are written by program. -/
import Derived.Test.YtnkeknkeebkpeaaGInts
namespace Go.Proofs.Ytnkeknkeebkpeaa
open Go.RowKit

theorem drew_below {w w' : World} {k : Nat} (h : w' = w.drewN k) : Below w.heap.size w w' := by
  rw [h]; exact Below.drewN' (Below.refl _ _) _
theorem mul_bd {a b A B : Int} (h0 : 0 ≤ a) (h1 : a ≤ A) (k0 : 0 ≤ b) (k1 : b ≤ B) : 0 ≤ a * b ∧ a * b ≤ A * B :=
  ⟨Int.mul_nonneg h0 k0, Int.mul_le_mul h1 k1 k0 (by omega)⟩

end Go.Proofs.Ytnkeknkeebkpeaa
