/- The law FnExactPuzzleText: its walk, given what the two functions leave. -/
import Derived.Test.YtohimcljobpkjaaDoorPzM
import Derived.Test.YtohimcljobpkjaaDoorOTxNum
import Derived.Deep.RegionHeld3
namespace Go.Proofs.YtohimcljobpkjaaDoor
open Go.RowKit
set_option maxRecDepth 100000

set_option maxHeartbeats 4000000 in
theorem puzzleText_walk (Z0 : Option Addr) (d0 : Nat) (ps0 : List Tri) (r0 : ByteArray) (r1 : Bool) (w0 : World) (R0 : RdF w0 w0.heap.size Z0 d0 ps0) (hn0 : ps0.length ≤ 1048576)
    (hf : ∀ (A : Option Addr) (c B : Nat) (w : World), RdF w B A c ps0 → B ≤ w.heap.size → Calls Tryd.prog 6 #[pzv A ps0.length c] w ((Plain (.tuple #[.string r0, .bool r1])) w))
    (hT : TabI w0) (hg : ∀ (A : Option Addr) (c B : Nat) (w : World), RdF w B A c ps0 → B ≤ w.heap.size → TabI w → Calls Tryd.prog 8 #[pzv A ps0.length c] w ((Plain (.tuple #[.string r0, .bool r1])) w)) :
    Calls Tryd.prog 3 #[pzv Z0 ps0.length d0] w0 fun e w' => e = .returned (.bool true) ∧ Below w0.heap.size w0 w' := by
  have X0 : Blk (w0.alloc (.cells #[.slice Z0 ps0.length d0] 24)) w0.heap.size 24 #[.slice Z0 ps0.length d0] := Blk.new _ _ _
  have Bt : Below w0.heap.size w0 w0 := Below.refl _ _
  go_enter Tryd.func3, Tryd.ntmps3
  go_wp2_with fail
  refine (szPuzzle_yes _ _ _ _ hn0).mono ?_
  rintro e w1 ⟨rfl, hb0⟩
  have hb : Below w0.heap.size w0 w1 := (below_alloc _ _).trans (hb0.mono (by simp))
  replace X0 := X0.below hb0 (by simp)
  have z1 : w0.heap.size + 1 ≤ w1.heap.size := by have := X0.lt; omega
  replace R0 := R0.below hb (Nat.le_refl _)
  replace Bt := Bt.trans hb
  clear hb hb0
  have pX0 := X0.cell 0
  go_wp2_with fail
  refine (toPuzzle_any Z0 d0 ps0 w0.heap.size w1 R0 (by omega) hn0).mono ?_
  rintro e w2 ⟨a0, rfl, a0g, Ha0, hb0⟩
  have hb : Below w1.heap.size w1 w2 := hb0
  have z2 : w1.heap.size ≤ w2.heap.size := hb.size
  replace R0 := R0.below hb (by omega)
  replace X0 := X0.below hb (by omega)
  replace Bt := Bt.trans (hb.mono (by omega))
  have a0l := Ha0.lt
  clear hb hb0
  clear pX0
  have pX0 := X0.cell 0
  go_wp2_with fail
  refine (hf _ _ w2.heap.size w2 (blk_rd Ha0 hn0) (Nat.le_refl _)).mono ?_
  rintro e w3 ⟨rfl, hb0⟩
  have hb : Below w2.heap.size w2 w3 := hb0
  have z3 : w2.heap.size ≤ w3.heap.size := hb.size
  replace R0 := R0.below hb (by omega)
  replace X0 := X0.below hb (by omega)
  replace Ha0 := Ha0.below hb (by omega)
  replace Bt := Bt.trans (hb.mono (by omega))
  clear hb hb0
  clear pX0
  have pX0 := X0.cell 0
  clear Ha0
  go_wp2_with fail
  refine (toPuzzle_any Z0 d0 ps0 w0.heap.size w3 R0 (by omega) hn0).mono ?_
  rintro e w4 ⟨b0, rfl, b0g, Hb0, hb0⟩
  have hb : Below w3.heap.size w3 w4 := hb0
  have z4 : w3.heap.size ≤ w4.heap.size := hb.size
  replace R0 := R0.below hb (by omega)
  replace X0 := X0.below hb (by omega)
  replace Bt := Bt.trans (hb.mono (by omega))
  have b0l := Hb0.lt
  clear hb hb0
  clear pX0
  have pX0 := X0.cell 0
  have X1 : Blk (w4.alloc (.cells #[.slice (some ⟨b0, 0, none⟩) ps0.length ps0.length] 30)) w4.heap.size 30 #[.slice (some ⟨b0, 0, none⟩) ps0.length ps0.length] := Blk.new _ _ _
  have hb : Below w4.heap.size w4 (w4.alloc (.cells #[.slice (some ⟨b0, 0, none⟩) ps0.length ps0.length] 30)) := below_alloc _ _
  replace R0 := R0.below hb (by omega)
  replace X0 := X0.below hb (by omega)
  replace Hb0 := Hb0.below hb (by omega)
  replace Bt := Bt.trans (hb.mono (by omega))
  clear pX0
  have pX0 := X0.cell 0
  go_wp2_with fail
  generalize hWe : (w4.alloc (.cells #[.slice (some ⟨b0, 0, none⟩) ps0.length ps0.length] 30)) = w5 at *
  replace hWe := trivial
  clear hWe
  have z5 : w4.heap.size + 1 ≤ w5.heap.size := by have := X1.lt; omega
  clear hb
  clear pX0
  have pX0 := X0.cell 0
  have pX1 := X1.cell 0
  refine (hg _ _ w5.heap.size w5 (blk_rd Hb0 hn0) (Nat.le_refl _) (hT.below Bt)).mono ?_
  rintro e w6 ⟨rfl, hb0⟩
  have hb : Below w5.heap.size w5 w6 := hb0
  have z6 : w5.heap.size ≤ w6.heap.size := hb.size
  replace R0 := R0.below hb (by omega)
  replace X0 := X0.below hb (by omega)
  replace Hb0 := Hb0.below hb (by omega)
  replace X1 := X1.below hb (by omega)
  replace Bt := Bt.trans (hb.mono (by omega))
  clear hb hb0
  clear pX0
  have pX0 := X0.cell 0
  clear pX1
  have pX1 := X1.cell 0
  go_wp2_with fail
  go_region_held3 (fun u => u.cell? ⟨w4.heap.size, 0, none⟩ = some (.slice (some ⟨b0, 0, none⟩) ps0.length ps0.length) ∧ u.cell? ⟨w0.heap.size, 0, none⟩ = some (.slice Z0 ps0.length d0)) (first | exact ⟨pX1, pX0⟩ | exact ⟨q1, q0⟩ | exact ⟨r1, r0⟩)
    (first
    | (go_at_call 7; (refine (toPuzzle_any Z0 d0 ps0 w0.heap.size w6.drew R0.drew (by show _ ≤ w6.heap.size; omega) hn0).mono ?_); rintro e u1 ⟨m, rfl, mg, Hm, k1⟩; have h1 : Below w6.heap.size w6 u1 := below_undrew k1; have q1 := (X1.below h1 X1.lt).cell 0; have q0 := (X0.below h1 X0.lt).cell 0)
    | (go_at_call 9; (refine (eqPuzzle_rd _ _ _ _ ps0 _ _ u1 (blk_rd (Hb0.below h1 Hb0.lt) hn0) (blk_rd Hm hn0) (Nat.le_refl _) (Nat.le_refl _) hn0).mono ?_); rintro e w7 ⟨rfl, k2⟩; have hb0 := h1.trans (k2.mono h1.size); have r1 := (X1.below hb0 X1.lt).cell 0; have r0 := (X0.below hb0 X0.lt).cell 0)
    | fail)
  have hb : Below w6.heap.size w6 w7 := hb0
  have z7 : w6.heap.size ≤ w7.heap.size := hb.size
  clear q1 q0 r1 r0 mg Hm k1 k2 h1
  replace R0 := R0.below hb (by omega)
  replace X0 := X0.below hb (by omega)
  replace Hb0 := Hb0.below hb (by omega)
  replace X1 := X1.below hb (by omega)
  replace Bt := Bt.trans (hb.mono (by omega))
  clear hb hb0
  clear pX0
  have pX0 := X0.cell 0
  clear pX1
  have pX1 := X1.cell 0
  go_wp2_with fail
  go_ret
  exact ⟨rfl, Bt⟩

end Go.Proofs.YtohimcljobpkjaaDoor
