/- The law FnExactParseSpiral: its walk, given what the two functions leave. -/
import Derived.Test.YtenhlppijpmdgaaDoorGInts
import Derived.Test.YtenhlppijpmdgaaDoorTxNin
import Derived.Test.YtenhlppijpmdgaaDoorGStruct
namespace Go.Proofs.YtenhlppijpmdgaaDoor
open Go.RowKit

set_option maxHeartbeats 2000000 in
set_option maxRecDepth 100000 in
theorem parseSpiral_walk (s0 : ByteArray) (r0_0 r0_1 r0_2 : Int) (r1 : Bool) (w0 : World) (hn0 : s0.size ≤ 1048576)
    (hf : ∀ (w : World), Calls Tryd.prog 10 #[.string s0] w ((Plain (.tuple #[.agg #[.int .i64 r0_0, .int .i64 r0_1, .int .i64 r0_2], .bool r1])) w))
    (hT : TabI w0) (hE : ErrI w0) (hg : ∀ (w : World), TabI w → ErrI w → Calls Tryd.prog 11 #[.string s0] w ((Plain (.tuple #[.agg #[.int .i64 r0_0, .int .i64 r0_1, .int .i64 r0_2], .bool r1])) w)) :
    Calls Tryd.prog 4 #[.string s0] w0 fun e w' => e = .returned (.bool true) ∧ Below w0.heap.size w0 w' := by
  have Bt : Below w0.heap.size w0 w0 := Below.refl _ _
  go_enter Tryd.func4, Tryd.ntmps4
  go_wp2_with fail
  refine (hf w0).mono ?_
  rintro e w1 ⟨rfl, hb0⟩
  have hb : Below w0.heap.size w0 w1 := hb0
  have z1 : w0.heap.size ≤ w1.heap.size := hb.size
  replace Bt := Bt.trans (hb.mono (by omega))
  clear hb hb0
  have Y00 : Blk (w1.alloc (.cells #[.int .i64 r0_0, .int .i64 r0_1, .int .i64 r0_2] 26)) (w1.heap.size) 26 #[.int .i64 r0_0, .int .i64 r0_1, .int .i64 r0_2] := (Blk.new' (by simp))
  have hb : Below w1.heap.size w1 (w1.alloc (.cells #[.int .i64 r0_0, .int .i64 r0_1, .int .i64 r0_2] 26)) := (below_alloc _ _)
  replace Bt := Bt.trans (hb.mono (by omega))
  go_wp2_with fail
  generalize hWe : (w1.alloc (.cells #[.int .i64 r0_0, .int .i64 r0_1, .int .i64 r0_2] 26)) = w2 at *
  replace hWe := trivial
  clear hWe
  have z2 : w1.heap.size + 1 ≤ w2.heap.size := by have := Y00.lt; omega
  clear hb
  obtain ⟨pY00_0, pY00_1, pY00_2⟩ := Y00.three
  go_wp2_with fail
  refine (hg w2 (hT.below Bt) (hE.below Bt (Nat.le_refl _))).mono ?_
  rintro e w3 ⟨rfl, hb0⟩
  have hb : Below w2.heap.size w2 w3 := hb0
  have z3 : w2.heap.size ≤ w3.heap.size := hb.size
  replace Y00 := Y00.below hb (by omega)
  replace Bt := Bt.trans (hb.mono (by omega))
  clear hb hb0
  clear pY00_0 pY00_1 pY00_2
  obtain ⟨pY00_0, pY00_1, pY00_2⟩ := Y00.three
  have Y10 : Blk (w3.alloc (.cells #[.int .i64 r0_0, .int .i64 r0_1, .int .i64 r0_2] 26)) (w3.heap.size) 26 #[.int .i64 r0_0, .int .i64 r0_1, .int .i64 r0_2] := (Blk.new' (by simp))
  have hb : Below w3.heap.size w3 (w3.alloc (.cells #[.int .i64 r0_0, .int .i64 r0_1, .int .i64 r0_2] 26)) := (below_alloc _ _)
  replace Y00 := Y00.below hb (by omega)
  replace Bt := Bt.trans (hb.mono (by omega))
  clear pY00_0 pY00_1 pY00_2
  obtain ⟨pY00_0, pY00_1, pY00_2⟩ := Y00.three
  go_wp2_with fail
  generalize hWe : (w3.alloc (.cells #[.int .i64 r0_0, .int .i64 r0_1, .int .i64 r0_2] 26)) = w4 at *
  replace hWe := trivial
  clear hWe
  have z4 : w3.heap.size + 1 ≤ w4.heap.size := by have := Y10.lt; omega
  clear hb
  clear pY00_0 pY00_1 pY00_2
  obtain ⟨pY00_0, pY00_1, pY00_2⟩ := Y00.three
  obtain ⟨pY10_0, pY10_1, pY10_2⟩ := Y10.three
  go_wp2_with fail
  refine (eqSpiral_same r0_0 r0_1 r0_2 w4).mono ?_
  rintro e w5 ⟨rfl, hb0⟩
  have hb : Below w4.heap.size w4 w5 := hb0
  have z5 : w4.heap.size ≤ w5.heap.size := hb.size
  replace Y00 := Y00.below hb (by omega)
  replace Y10 := Y10.below hb (by omega)
  replace Bt := Bt.trans (hb.mono (by omega))
  clear hb hb0
  clear pY00_0 pY00_1 pY00_2
  obtain ⟨pY00_0, pY00_1, pY00_2⟩ := Y00.three
  clear pY10_0 pY10_1 pY10_2
  obtain ⟨pY10_0, pY10_1, pY10_2⟩ := Y10.three
  go_wp2_with fail
  go_ret
  exact ⟨rfl, Bt⟩

end Go.Proofs.YtenhlppijpmdgaaDoor
