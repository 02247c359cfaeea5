/- The law FnExactColourAt: its walk, given what the two functions leave. -/
import Derived.Test.YtkglkknccbjefaaGInts
namespace Go.Proofs.Ytkglkknccbjefaa
open Go.RowKit

set_option maxHeartbeats 2000000 in
set_option maxRecDepth 100000 in
theorem colourAt_walk (s0 : ByteArray) (n1 : Int) (n2 : Int) (r0 : ByteArray) (r1 : Bool) (w0 : World) (hn0 : s0.size ≤ 1048576)
    (hf : ∀ (w : World), Calls Try.prog 9 #[.string s0, .int .i64 n1, .int .i64 n2] w ((Plain (.tuple #[.string r0, .bool r1])) w))
    (hg : ∀ (w : World), Calls Try.prog 10 #[.string s0, .int .i64 n1, .int .i64 n2] w ((Plain (.tuple #[.string r0, .bool r1])) w)) :
    Calls Try.prog 4 #[.string s0, .int .i64 n1, .int .i64 n2] w0 fun e w' => e = .returned (.bool true) ∧ Below w0.heap.size w0 w' := by
  have Bt : Below w0.heap.size w0 w0 := Below.refl _ _
  go_enter Try.func4, Try.ntmps4
  go_wp2_with fail
  refine (hf w0).mono ?_
  rintro e w1 ⟨rfl, hb0⟩
  have hb : Below w0.heap.size w0 w1 := hb0
  have z1 : w0.heap.size ≤ w1.heap.size := hb.size
  replace Bt := Bt.trans (hb.mono (by omega))
  clear hb hb0
  go_wp2_with fail
  refine (hg w1).mono ?_
  rintro e w2 ⟨rfl, hb0⟩
  have hb : Below w1.heap.size w1 w2 := hb0
  have z2 : w1.heap.size ≤ w2.heap.size := hb.size
  replace Bt := Bt.trans (hb.mono (by omega))
  clear hb hb0
  go_wp2_with fail
  go_ret
  exact ⟨rfl, Bt⟩

end Go.Proofs.Ytkglkknccbjefaa
