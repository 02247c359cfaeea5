/- Contracts: the first climb, on the model's side. -/
import Derived.Test.YtimgnollnnepbaaStClimb
namespace Go.Proofs.Ytimgnollnnepbaa
open Go.RowKit

theorem caL_up {n : Nat} {ss bs : List Int} {m a s : Nat} (h : a + (m + 1) = n) (hs : 1 ≤ s) (hn : a + s ≤ n) : (caL n ss bs).getD (a + s) 0 = capI (sS n ss bs m (s : Int)) := by
  unfold caL
  rw [tell_getD _ _ _ (by omega)]
  unfold caS onS sS
  rw [Int.toNat_natCast, if_pos (by omega), if_pos (by omega)]
  congr 2; omega
theorem cap_pos {v : Int} : 0 < capI v ↔ 0 < v := by unfold capI leastI; split <;> omega
theorem sS_over {n : Nat} {ss bs : List Int} {m a s : Nat} (h : a + (m + 1) = n) (hn : n < a + s) : sS n ss bs m (s : Int) = 0 := by
  unfold sS; rw [Int.toNat_natCast, if_neg (by omega)]


end Go.Proofs.Ytimgnollnnepbaa
