/- The lesser of two numbers. -/
import Derived.Test.YtmolfeckeoimbaaGSpec
namespace Go.Proofs.Ytmolfeckeoimbaa
open Go.RowKit

/-- the lesser of two numbers -/
def leastI (a b : Int) : Int := if a < b then a else b
theorem l1Least_any (a b : Int) (w : World) :
    Calls Try.prog 43 #[.int .i64 a, .int .i64 b] w fun e w' => e = .returned (.int .i64 (leastI a b)) ∧ w = w' := by
  by_cases h : a < b
  · rw [show leastI a b = a from if_pos h]
    go_enter Try.func43, Try.ntmps43
    go_wp2
    go_ret
    exact ⟨rfl, rfl⟩
  · rw [show leastI a b = b from if_neg h]
    go_enter Try.func43, Try.ntmps43
    go_wp2
    go_ret
    exact ⟨rfl, rfl⟩

end Go.Proofs.Ytmolfeckeoimbaa
