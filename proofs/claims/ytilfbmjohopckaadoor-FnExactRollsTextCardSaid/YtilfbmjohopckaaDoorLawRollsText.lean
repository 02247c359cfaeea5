/- The law FnExactRollsText: its walk, given what the two functions leave. -/
import Derived.Test.YtilfbmjohopckaaDoorGInts
import Derived.Test.YtilfbmjohopckaaDoorTxNum
namespace Go.Proofs.YtilfbmjohopckaaDoor
open Go.RowKit

set_option maxHeartbeats 2000000 in
set_option maxRecDepth 100000 in
theorem rollsText_walk (Z0 : Option Addr) (d0 : Nat) (xs0 : List Int) (r0 : ByteArray) (r1 : Bool) (w0 : World) (R0 : Rd w0 w0.heap.size Z0 d0 xs0) (hn0 : xs0.length ≤ 1048576)
    (hf : ∀ (Z0 : Option Addr) (d0 : Nat) (B : Nat) (w : World), Rd w B Z0 d0 xs0 → B ≤ w.heap.size → Calls Tryd.prog 5 #[.slice Z0 xs0.length d0] w ((Plain (.tuple #[.string r0, .bool r1])) w))
    (hT : TabI w0) (hg : ∀ (Z0 : Option Addr) (d0 : Nat) (B : Nat) (w : World), Rd w B Z0 d0 xs0 → B ≤ w.heap.size → TabI w → Calls Tryd.prog 7 #[.slice Z0 xs0.length d0] w ((Plain (.tuple #[.string r0, .bool r1])) w)) :
    Calls Tryd.prog 3 #[.slice Z0 xs0.length d0] w0 fun e w' => e = .returned (.bool true) ∧ Below w0.heap.size w0 w' := by
  have Bt : Below w0.heap.size w0 w0 := Below.refl _ _
  go_enter Tryd.func3, Tryd.ntmps3
  go_wp2_with fail
  refine (toIntS_new Z0 d0 xs0 w0.heap.size w0 R0 (by omega) hn0).mono ?_
  rintro e w1 ⟨a0, rfl, a0g, Ha0, hb0⟩
  have hb : Below w0.heap.size w0 w1 := hb0
  have z1 : w0.heap.size ≤ w1.heap.size := hb.size
  replace R0 := R0.below hb (by omega)
  replace Bt := Bt.trans (hb.mono (by omega))
  have a0l := Ha0.lt
  clear hb hb0
  go_wp2_with fail
  refine (hf _ _ w1.heap.size w1 (Ha0.rd (B := w1.heap.size) (c := xs0.length) Ha0.lt (Nat.le_refl _)) (Nat.le_refl _)).mono ?_
  rintro e w2 ⟨rfl, hb0⟩
  have hb : Below w1.heap.size w1 w2 := hb0
  have z2 : w1.heap.size ≤ w2.heap.size := hb.size
  replace R0 := R0.below hb (by omega)
  replace Ha0 := Ha0.below hb (by omega)
  replace Bt := Bt.trans (hb.mono (by omega))
  clear hb hb0
  clear Ha0
  go_wp2_with fail
  refine (toIntS_new Z0 d0 xs0 w0.heap.size w2 R0 (by omega) hn0).mono ?_
  rintro e w3 ⟨b0, rfl, b0g, Hb0, hb0⟩
  have hb : Below w2.heap.size w2 w3 := hb0
  have z3 : w2.heap.size ≤ w3.heap.size := hb.size
  replace R0 := R0.below hb (by omega)
  replace Bt := Bt.trans (hb.mono (by omega))
  have b0l := Hb0.lt
  clear hb hb0
  go_wp2_with fail
  refine (hg _ _ w3.heap.size w3 (Hb0.rd (B := w3.heap.size) (c := xs0.length) Hb0.lt (Nat.le_refl _)) (Nat.le_refl _) (hT.below Bt)).mono ?_
  rintro e w4 ⟨rfl, hb0⟩
  have hb : Below w3.heap.size w3 w4 := hb0
  have z4 : w3.heap.size ≤ w4.heap.size := hb.size
  replace R0 := R0.below hb (by omega)
  replace Hb0 := Hb0.below hb (by omega)
  replace Bt := Bt.trans (hb.mono (by omega))
  clear hb hb0
  go_wp2_with fail
  refine (toIntS_new Z0 d0 xs0 w0.heap.size w4 R0 (by omega) hn0).mono ?_
  rintro e w5 ⟨c0, rfl, c0g, Hc0, hb0⟩
  have hb : Below w4.heap.size w4 w5 := hb0
  have z5 : w4.heap.size ≤ w5.heap.size := hb.size
  replace R0 := R0.below hb (by omega)
  replace Hb0 := Hb0.below hb (by omega)
  replace Bt := Bt.trans (hb.mono (by omega))
  have c0l := Hc0.lt
  clear hb hb0
  go_wp2_with fail
  refine (eqIntS_new _ _ _ _ xs0 xs0 _ _ w5 (Hb0.rd (c := xs0.length) Hb0.lt (Nat.le_refl _)) (Hc0.rd (c := xs0.length) Hc0.lt (Nat.le_refl _)) hn0).mono ?_
  rintro e w6 ⟨rfl, hb0⟩
  have hb : Below w5.heap.size w5 w6 := hb0
  have z6 : w5.heap.size ≤ w6.heap.size := hb.size
  replace R0 := R0.below hb (by omega)
  replace Hb0 := Hb0.below hb (by omega)
  replace Hc0 := Hc0.below hb (by omega)
  replace Bt := Bt.trans (hb.mono (by omega))
  rw [eqB_self]
  clear hb hb0
  clear Hc0
  go_wp2_with fail
  go_ret
  exact ⟨rfl, Bt⟩

end Go.Proofs.YtilfbmjohopckaaDoor
