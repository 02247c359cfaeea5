/- Contracts: how many climbs over bears there are, on both sides. -/
import Derived.Test.YtopcpejbjjjmdaaWearWays
namespace Go.Proofs.Ytopcpejbjjjmdaa
open Go.RowKit

def orI (v : Bool) (a : Int) : Int := if v then a else 0
theorem orI_no (a : Int) : orI false a = 0 := rfl
theorem orI_yes (a : Int) : orI true a = a := rfl
def wGround (xs : List Int) (r : Int) : Int := wX xs r.toNat (xs.length + 1)
theorem onL_zero (xs : List Int) (r : Nat) : (onL xs r).getD 0 0 = wX xs r (xs.length + 1) := by
  unfold onL; rw [tell_getD _ _ _ (by omega)]; rfl
theorem outL_zero {xs : List Int} {r : Nat} : (outL xs r).getD 0 0 = wX xs r (xs.length + 1) := by
  unfold outL; rw [tell_getD _ _ _ (by omega), if_neg (by omega), wX_ground]; rfl
theorem allB_at {lo hi : Int} : ∀ {xs : List Int}, allB lo hi xs = true → ∀ b, b < xs.length → lo ≤ xs.getD b 0 ∧ xs.getD b 0 ≤ hi
  | [], _, b, h => by simp at h
  | x :: xs, ha, 0, _ => by
    simp only [allB, Bool.and_eq_true] at ha
    simpa using inB_le ha.1
  | x :: xs, ha, b + 1, h => by
    simp only [allB, Bool.and_eq_true] at ha
    simpa using allB_at ha.2 b (by simpa using h)
theorem bears_at {xs : List Int} (h : bearsB xs = true) (b : Nat) (hb : b < xs.length) : 0 ≤ xs.getD b 0 ∧ xs.getD b 0 ≤ 100 := by
  simp only [bearsB, Bool.and_eq_true] at h
  exact allB_at h.2 b hb



end Go.Proofs.Ytopcpejbjjjmdaa
