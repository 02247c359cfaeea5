/- The law FnExactWithPattern: its walk, given what the two functions leave. -/
import Derived.Test.YtcidehjamkebiaaGInts
namespace Go.Proofs.Ytcidehjamkebiaa
open Go.RowKit

set_option maxHeartbeats 2000000 in
set_option maxRecDepth 100000 in
theorem withPattern_walk (n0 : Int) (n1 : Int) (r0 : Int) (r1 : Int) (r2 : Bool) (w0 : World)
    (hf : ∀ (w : World), Calls Try.prog 32 #[.int .i64 n0, .int .i64 n1] w ((Plain (.tuple #[.int .i64 r0, .int .i64 r1, .bool r2])) w))
    (hg : ∀ (w : World), Calls Try.prog 33 #[.int .i64 n0, .int .i64 n1] w ((Plain (.tuple #[.int .i64 r0, .int .i64 r1, .bool r2])) w)) :
    Calls Try.prog 10 #[.int .i64 n0, .int .i64 n1] w0 fun e w' => e = .returned (.bool true) ∧ Below w0.heap.size w0 w' := by
  have Bt : Below w0.heap.size w0 w0 := Below.refl _ _
  go_enter Try.func10, Try.ntmps10
  go_wp2_with fail
  refine (hf w0).mono ?_
  rintro e w1 ⟨rfl, hb0⟩
  have hb : Below w0.heap.size w0 w1 := hb0
  have z1 : w0.heap.size ≤ w1.heap.size := hb.size
  replace Bt := Bt.trans (hb.mono (by omega))
  clear hb hb0
  go_wp2_with fail
  refine (hg w1).mono ?_
  rintro e w2 ⟨rfl, hb0⟩
  have hb : Below w1.heap.size w1 w2 := hb0
  have z2 : w1.heap.size ≤ w2.heap.size := hb.size
  replace Bt := Bt.trans (hb.mono (by omega))
  clear hb hb0
  go_wp2_with fail
  go_ret
  exact ⟨rfl, Bt⟩

end Go.Proofs.Ytcidehjamkebiaa
