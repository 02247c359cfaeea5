/- The law FnExactIsClue: its walk, given what the two functions leave. -/
import Derived.Test.YtmiojofeoaocfaaPzC
namespace Go.Proofs.Ytmiojofeoaocfaa
set_option maxRecDepth 100000
open Go.RowKit

set_option maxHeartbeats 2000000 in
set_option maxRecDepth 100000 in
theorem isClue_walk (a0_0 a0_1 a0_2 : Int) (r0 : Bool) (w0 : World)
    (hf : ∀ (w : World), Calls Try.prog 15 #[.agg #[.int .i64 a0_0, .int .i64 a0_1, .int .i64 a0_2]] w ((Plain (.bool r0)) w))
    (hg : ∀ (w : World), Calls Try.prog 17 #[.agg #[.int .i64 a0_0, .int .i64 a0_1, .int .i64 a0_2]] w ((Plain (.bool r0)) w)) :
    Calls Try.prog 3 #[.agg #[.int .i64 a0_0, .int .i64 a0_1, .int .i64 a0_2]] w0 fun e w' => e = .returned (.bool true) ∧ Below w0.heap.size w0 w' := by
  have X0 : Blk (w0.alloc (.cells #[.int .i64 a0_0, .int .i64 a0_1, .int .i64 a0_2] 23)) (w0.heap.size) 23 #[.int .i64 a0_0, .int .i64 a0_1, .int .i64 a0_2] := (Blk.new' (by simp))
  have hbe : Below w0.heap.size w0 (w0.alloc (.cells #[.int .i64 a0_0, .int .i64 a0_1, .int .i64 a0_2] 23)) := (below_alloc _ _)
  have Bt : Below w0.heap.size w0 w0 := Below.refl _ _
  go_enter Try.func3, Try.ntmps3
  go_wp2_with fail
  generalize hWe : (w0.alloc (.cells #[.int .i64 a0_0, .int .i64 a0_1, .int .i64 a0_2] 23)) = w1 at *
  replace hWe := trivial
  have z1 : w0.heap.size + 1 ≤ w1.heap.size := by have := X0.lt; omega
  replace Bt := Bt.trans hbe
  clear hbe hWe
  obtain ⟨pX0_0, pX0_1, pX0_2⟩ := X0.three
  go_wp2_with fail
  refine (toClue_any a0_0 a0_1 a0_2 w1).mono ?_
  rintro e w2 ⟨rfl, hb0⟩
  have hb : Below w1.heap.size w1 w2 := hb0
  have z2 : w1.heap.size ≤ w2.heap.size := hb.size
  replace X0 := X0.below hb (by omega)
  replace Bt := Bt.trans (hb.mono (by omega))
  clear hb hb0
  clear pX0_0 pX0_1 pX0_2
  obtain ⟨pX0_0, pX0_1, pX0_2⟩ := X0.three
  go_wp2_with fail
  refine (hf w2).mono ?_
  rintro e w3 ⟨rfl, hb0⟩
  have hb : Below w2.heap.size w2 w3 := hb0
  have z3 : w2.heap.size ≤ w3.heap.size := hb.size
  replace X0 := X0.below hb (by omega)
  replace Bt := Bt.trans (hb.mono (by omega))
  clear hb hb0
  clear pX0_0 pX0_1 pX0_2
  obtain ⟨pX0_0, pX0_1, pX0_2⟩ := X0.three
  go_wp2_with fail
  refine (toClue_any a0_0 a0_1 a0_2 w3).mono ?_
  rintro e w4 ⟨rfl, hb0⟩
  have hb : Below w3.heap.size w3 w4 := hb0
  have z4 : w3.heap.size ≤ w4.heap.size := hb.size
  replace X0 := X0.below hb (by omega)
  replace Bt := Bt.trans (hb.mono (by omega))
  clear hb hb0
  clear pX0_0 pX0_1 pX0_2
  obtain ⟨pX0_0, pX0_1, pX0_2⟩ := X0.three
  go_wp2_with fail
  refine (hg w4).mono ?_
  rintro e w5 ⟨rfl, hb0⟩
  have hb : Below w4.heap.size w4 w5 := hb0
  have z5 : w4.heap.size ≤ w5.heap.size := hb.size
  replace X0 := X0.below hb (by omega)
  replace Bt := Bt.trans (hb.mono (by omega))
  clear hb hb0
  clear pX0_0 pX0_1 pX0_2
  obtain ⟨pX0_0, pX0_1, pX0_2⟩ := X0.three
  go_wp2_with fail
  go_ret
  exact ⟨rfl, Bt⟩

end Go.Proofs.Ytmiojofeoaocfaa
