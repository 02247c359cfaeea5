/- The law FnExactCutSpiral: its walk, given what the two functions leave. -/
import Derived.Test.YtlhafgepalbehaaGInts
import Derived.Test.YtlhafgepalbehaaGStruct
namespace Go.Proofs.Ytlhafgepalbehaa
open Go.RowKit

set_option maxHeartbeats 2000000 in
set_option maxRecDepth 100000 in
theorem cutSpiral_walk (a0_0 a0_1 a0_2 : Int) (n1 : Int) (r0_0 r0_1 r0_2 : Int) (r1_0 r1_1 r1_2 : Int) (r2 : Bool) (w0 : World)
    (hf : ∀ (w : World), Calls Try.prog 36 #[.agg #[.int .i64 a0_0, .int .i64 a0_1, .int .i64 a0_2], .int .i64 n1] w ((Plain (.tuple #[.agg #[.int .i64 r0_0, .int .i64 r0_1, .int .i64 r0_2], .agg #[.int .i64 r1_0, .int .i64 r1_1, .int .i64 r1_2], .bool r2])) w))
    (hg : ∀ (w : World), Calls Try.prog 37 #[.agg #[.int .i64 a0_0, .int .i64 a0_1, .int .i64 a0_2], .int .i64 n1] w ((Plain (.tuple #[.agg #[.int .i64 r0_0, .int .i64 r0_1, .int .i64 r0_2], .agg #[.int .i64 r1_0, .int .i64 r1_1, .int .i64 r1_2], .bool r2])) w)) :
    Calls Try.prog 13 #[.agg #[.int .i64 a0_0, .int .i64 a0_1, .int .i64 a0_2], .int .i64 n1] w0 fun e w' => e = .returned (.bool true) ∧ Below w0.heap.size w0 w' := by
  have X0 : Blk (w0.alloc (.cells #[.int .i64 a0_0, .int .i64 a0_1, .int .i64 a0_2] 23)) (w0.heap.size) 23 #[.int .i64 a0_0, .int .i64 a0_1, .int .i64 a0_2] := (Blk.new' (by simp))
  have hbe : Below w0.heap.size w0 (w0.alloc (.cells #[.int .i64 a0_0, .int .i64 a0_1, .int .i64 a0_2] 23)) := (below_alloc _ _)
  have Bt : Below w0.heap.size w0 w0 := Below.refl _ _
  go_enter Try.func13, Try.ntmps13
  go_wp2_with fail
  generalize hWe : (w0.alloc (.cells #[.int .i64 a0_0, .int .i64 a0_1, .int .i64 a0_2] 23)) = w1 at *
  replace hWe := trivial
  have z1 : w0.heap.size + 1 ≤ w1.heap.size := by have := X0.lt; omega
  replace Bt := Bt.trans hbe
  clear hbe hWe
  obtain ⟨pX0_0, pX0_1, pX0_2⟩ := X0.three
  go_wp2_with fail
  refine (toSpiral_any a0_0 a0_1 a0_2 w1).mono ?_
  rintro e w2 ⟨rfl, hb0⟩
  have hb : Below w1.heap.size w1 w2 := hb0
  have z2 : w1.heap.size ≤ w2.heap.size := hb.size
  replace X0 := X0.below hb (by omega)
  replace Bt := Bt.trans (hb.mono (by omega))
  clear hb hb0
  clear pX0_0 pX0_1 pX0_2
  obtain ⟨pX0_0, pX0_1, pX0_2⟩ := X0.three
  go_wp2_with fail
  refine (hf w2).mono ?_
  rintro e w3 ⟨rfl, hb0⟩
  have hb : Below w2.heap.size w2 w3 := hb0
  have z3 : w2.heap.size ≤ w3.heap.size := hb.size
  replace X0 := X0.below hb (by omega)
  replace Bt := Bt.trans (hb.mono (by omega))
  clear hb hb0
  clear pX0_0 pX0_1 pX0_2
  obtain ⟨pX0_0, pX0_1, pX0_2⟩ := X0.three
  have Y00 : Blk ((w3.alloc (.cells #[.int .i64 r0_0, .int .i64 r0_1, .int .i64 r0_2] 25)).alloc (.cells #[.int .i64 r1_0, .int .i64 r1_1, .int .i64 r1_2] 25)) (w3.heap.size) 25 #[.int .i64 r0_0, .int .i64 r0_1, .int .i64 r0_2] := ((Blk.new' (by simp)).alloc _)
  have Y01 : Blk ((w3.alloc (.cells #[.int .i64 r0_0, .int .i64 r0_1, .int .i64 r0_2] 25)).alloc (.cells #[.int .i64 r1_0, .int .i64 r1_1, .int .i64 r1_2] 25)) (w3.heap.size + 1) 25 #[.int .i64 r1_0, .int .i64 r1_1, .int .i64 r1_2] := (Blk.new' (by simp))
  have hb : Below w3.heap.size w3 ((w3.alloc (.cells #[.int .i64 r0_0, .int .i64 r0_1, .int .i64 r0_2] 25)).alloc (.cells #[.int .i64 r1_0, .int .i64 r1_1, .int .i64 r1_2] 25)) := ((below_alloc _ _).alloc (by simp) _)
  replace X0 := X0.below hb (by omega)
  replace Bt := Bt.trans (hb.mono (by omega))
  clear pX0_0 pX0_1 pX0_2
  obtain ⟨pX0_0, pX0_1, pX0_2⟩ := X0.three
  go_wp2_with fail
  generalize hWe : ((w3.alloc (.cells #[.int .i64 r0_0, .int .i64 r0_1, .int .i64 r0_2] 25)).alloc (.cells #[.int .i64 r1_0, .int .i64 r1_1, .int .i64 r1_2] 25)) = w4 at *
  replace hWe := trivial
  clear hWe
  have z4 : w3.heap.size + 2 ≤ w4.heap.size := by have := Y01.lt; omega
  clear hb
  clear pX0_0 pX0_1 pX0_2
  obtain ⟨pX0_0, pX0_1, pX0_2⟩ := X0.three
  obtain ⟨pY00_0, pY00_1, pY00_2⟩ := Y00.three
  obtain ⟨pY01_0, pY01_1, pY01_2⟩ := Y01.three
  go_wp2_with fail
  refine (toSpiral_any a0_0 a0_1 a0_2 w4).mono ?_
  rintro e w5 ⟨rfl, hb0⟩
  have hb : Below w4.heap.size w4 w5 := hb0
  have z5 : w4.heap.size ≤ w5.heap.size := hb.size
  replace X0 := X0.below hb (by omega)
  replace Y00 := Y00.below hb (by omega)
  replace Y01 := Y01.below hb (by omega)
  replace Bt := Bt.trans (hb.mono (by omega))
  clear hb hb0
  clear pX0_0 pX0_1 pX0_2
  obtain ⟨pX0_0, pX0_1, pX0_2⟩ := X0.three
  clear pY00_0 pY00_1 pY00_2
  obtain ⟨pY00_0, pY00_1, pY00_2⟩ := Y00.three
  clear pY01_0 pY01_1 pY01_2
  obtain ⟨pY01_0, pY01_1, pY01_2⟩ := Y01.three
  go_wp2_with fail
  refine (hg w5).mono ?_
  rintro e w6 ⟨rfl, hb0⟩
  have hb : Below w5.heap.size w5 w6 := hb0
  have z6 : w5.heap.size ≤ w6.heap.size := hb.size
  replace X0 := X0.below hb (by omega)
  replace Y00 := Y00.below hb (by omega)
  replace Y01 := Y01.below hb (by omega)
  replace Bt := Bt.trans (hb.mono (by omega))
  clear hb hb0
  clear pX0_0 pX0_1 pX0_2
  obtain ⟨pX0_0, pX0_1, pX0_2⟩ := X0.three
  clear pY00_0 pY00_1 pY00_2
  obtain ⟨pY00_0, pY00_1, pY00_2⟩ := Y00.three
  clear pY01_0 pY01_1 pY01_2
  obtain ⟨pY01_0, pY01_1, pY01_2⟩ := Y01.three
  have Y10 : Blk ((w6.alloc (.cells #[.int .i64 r0_0, .int .i64 r0_1, .int .i64 r0_2] 25)).alloc (.cells #[.int .i64 r1_0, .int .i64 r1_1, .int .i64 r1_2] 25)) (w6.heap.size) 25 #[.int .i64 r0_0, .int .i64 r0_1, .int .i64 r0_2] := ((Blk.new' (by simp)).alloc _)
  have Y11 : Blk ((w6.alloc (.cells #[.int .i64 r0_0, .int .i64 r0_1, .int .i64 r0_2] 25)).alloc (.cells #[.int .i64 r1_0, .int .i64 r1_1, .int .i64 r1_2] 25)) (w6.heap.size + 1) 25 #[.int .i64 r1_0, .int .i64 r1_1, .int .i64 r1_2] := (Blk.new' (by simp))
  have hb : Below w6.heap.size w6 ((w6.alloc (.cells #[.int .i64 r0_0, .int .i64 r0_1, .int .i64 r0_2] 25)).alloc (.cells #[.int .i64 r1_0, .int .i64 r1_1, .int .i64 r1_2] 25)) := ((below_alloc _ _).alloc (by simp) _)
  replace X0 := X0.below hb (by omega)
  replace Y00 := Y00.below hb (by omega)
  replace Y01 := Y01.below hb (by omega)
  replace Bt := Bt.trans (hb.mono (by omega))
  clear pX0_0 pX0_1 pX0_2
  obtain ⟨pX0_0, pX0_1, pX0_2⟩ := X0.three
  clear pY00_0 pY00_1 pY00_2
  obtain ⟨pY00_0, pY00_1, pY00_2⟩ := Y00.three
  clear pY01_0 pY01_1 pY01_2
  obtain ⟨pY01_0, pY01_1, pY01_2⟩ := Y01.three
  go_wp2_with fail
  generalize hWe : ((w6.alloc (.cells #[.int .i64 r0_0, .int .i64 r0_1, .int .i64 r0_2] 25)).alloc (.cells #[.int .i64 r1_0, .int .i64 r1_1, .int .i64 r1_2] 25)) = w7 at *
  replace hWe := trivial
  clear hWe
  have z7 : w6.heap.size + 2 ≤ w7.heap.size := by have := Y11.lt; omega
  clear hb
  clear pX0_0 pX0_1 pX0_2
  obtain ⟨pX0_0, pX0_1, pX0_2⟩ := X0.three
  clear pY00_0 pY00_1 pY00_2
  obtain ⟨pY00_0, pY00_1, pY00_2⟩ := Y00.three
  clear pY01_0 pY01_1 pY01_2
  obtain ⟨pY01_0, pY01_1, pY01_2⟩ := Y01.three
  obtain ⟨pY10_0, pY10_1, pY10_2⟩ := Y10.three
  obtain ⟨pY11_0, pY11_1, pY11_2⟩ := Y11.three
  go_wp2_with fail
  refine (eqSpiral_same r0_0 r0_1 r0_2 w7).mono ?_
  rintro e w8 ⟨rfl, hb0⟩
  have hb : Below w7.heap.size w7 w8 := hb0
  have z8 : w7.heap.size ≤ w8.heap.size := hb.size
  replace X0 := X0.below hb (by omega)
  replace Y00 := Y00.below hb (by omega)
  replace Y01 := Y01.below hb (by omega)
  replace Y10 := Y10.below hb (by omega)
  replace Y11 := Y11.below hb (by omega)
  replace Bt := Bt.trans (hb.mono (by omega))
  clear hb hb0
  clear pX0_0 pX0_1 pX0_2
  obtain ⟨pX0_0, pX0_1, pX0_2⟩ := X0.three
  clear pY00_0 pY00_1 pY00_2
  obtain ⟨pY00_0, pY00_1, pY00_2⟩ := Y00.three
  clear pY01_0 pY01_1 pY01_2
  obtain ⟨pY01_0, pY01_1, pY01_2⟩ := Y01.three
  clear pY10_0 pY10_1 pY10_2
  obtain ⟨pY10_0, pY10_1, pY10_2⟩ := Y10.three
  clear pY11_0 pY11_1 pY11_2
  obtain ⟨pY11_0, pY11_1, pY11_2⟩ := Y11.three
  go_wp2_with fail
  refine (eqSpiral_same r1_0 r1_1 r1_2 w8).mono ?_
  rintro e w9 ⟨rfl, hb0⟩
  have hb : Below w8.heap.size w8 w9 := hb0
  have z9 : w8.heap.size ≤ w9.heap.size := hb.size
  replace X0 := X0.below hb (by omega)
  replace Y00 := Y00.below hb (by omega)
  replace Y01 := Y01.below hb (by omega)
  replace Y10 := Y10.below hb (by omega)
  replace Y11 := Y11.below hb (by omega)
  replace Bt := Bt.trans (hb.mono (by omega))
  clear hb hb0
  clear pX0_0 pX0_1 pX0_2
  obtain ⟨pX0_0, pX0_1, pX0_2⟩ := X0.three
  clear pY00_0 pY00_1 pY00_2
  obtain ⟨pY00_0, pY00_1, pY00_2⟩ := Y00.three
  clear pY01_0 pY01_1 pY01_2
  obtain ⟨pY01_0, pY01_1, pY01_2⟩ := Y01.three
  clear pY10_0 pY10_1 pY10_2
  obtain ⟨pY10_0, pY10_1, pY10_2⟩ := Y10.three
  clear pY11_0 pY11_1 pY11_2
  obtain ⟨pY11_0, pY11_1, pY11_2⟩ := Y11.three
  go_wp2_with fail
  go_ret
  exact ⟨rfl, Bt⟩

end Go.Proofs.Ytlhafgepalbehaa
