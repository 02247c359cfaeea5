/- Contracts: what is a clue, by the model's own function. -/
import Derived.Test.YtmiojofeoaocfaaPzK
namespace Go.Proofs.Ytmiojofeoaocfaa
open Go.RowKit
set_option maxRecDepth 100000

set_option maxHeartbeats 400000 in
theorem specIsClue_any (k a b : Int) (w : World) :
    Calls Try.prog 15 #[.agg #[.int .i64 k, .int .i64 a, .int .i64 b]] w (Plain (.bool (clueB k a b)) w) := by
  go_enter Try.func15, Try.ntmps15
  go_wp2_with fail
  refine (pzClue_any _ _ _ _).mono ?_
  rintro e w1 ⟨rfl, hb⟩
  go_wp2_with fail
  go_ret
  exact ⟨rfl, (below_alloc _ _).trans (hb.mono (by simp))⟩

end Go.Proofs.Ytmiojofeoaocfaa
