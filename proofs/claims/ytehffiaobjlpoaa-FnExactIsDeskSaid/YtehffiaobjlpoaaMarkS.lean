/- Contract: the laws' marks in stairs, read back. -/
import Derived.Test.YtehffiaobjlpoaaMark
namespace Go.Proofs.Ytehffiaobjlpoaa
set_option maxRecDepth 100000
open Go.RowKit

set_option maxHeartbeats 1000000 in
theorem heldStairs_any (st : Int) (v v' : Value) (n n' : Nat) (k : Int) (B B' : Nat) (w : World) (ho : OwnI w B v (marksL k n)) (ho' : OwnI w B' v' (marksL (k + n) n')) (hn : n ≤ 1048576) (hn' : n' ≤ 1048576) (hk0 : 0 ≤ k) (hk1 : k ≤ 1048576) :
    Calls Try.prog 34 #[.agg #[.int .i64 st, v, v'], .int .i64 k] w fun e w' => e = .returned (.int .i64 (k + n + n')) ∧ Below w.heap.size w w' := by
  have o1 := ho.alloc (.cells #[.int .i64 st, v, v'] 24)
  have o2 := ho'.alloc (.cells #[.int .i64 st, v, v'] 24)
  obtain ⟨A, c, hv, _⟩ := ho.form
  obtain ⟨A', c', hv', _⟩ := ho'.form
  subst hv
  subst hv'
  clear ho ho'
  go_enter Try.func34, Try.ntmps34
  go_wp2_with fail
  refine (heldIntS_any _ n k B _ o1 hn hk0 (by omega)).mono ?_
  rintro e w1 ⟨rfl, rfl⟩
  go_wp2_with fail
  refine (heldIntS_any _ n' (k + n) B' _ o2 hn' (by omega) (by omega)).mono ?_
  rintro e w1 ⟨rfl, rfl⟩
  go_wp2_with fail
  go_ret
  exact ⟨rfl, below_alloc _ _⟩

end Go.Proofs.Ytehffiaobjlpoaa
