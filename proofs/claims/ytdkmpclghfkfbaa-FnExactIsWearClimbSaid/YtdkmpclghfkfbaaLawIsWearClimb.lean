/- The law FnExactIsWearClimb: its walk, given what the two functions leave. -/
import Derived.Test.YtdkmpclghfkfbaaGInts
namespace Go.Proofs.Ytdkmpclghfkfbaa
open Go.RowKit

set_option maxHeartbeats 2000000 in
set_option maxRecDepth 100000 in
theorem isWearClimb_walk (Z0 : Option Addr) (d0 : Nat) (xs0 : List Int) (n1 : Int) (Z2 : Option Addr) (d2 : Nat) (xs2 : List Int) (r0 : Bool) (r1 : Bool) (w0 : World) (R0 : Rd w0 w0.heap.size Z0 d0 xs0) (hn0 : xs0.length ≤ 1048576) (R2 : Rd w0 w0.heap.size Z2 d2 xs2) (hn2 : xs2.length ≤ 1048576)
    (hf : ∀ (Z0 : Option Addr) (d0 : Nat) (Z2 : Option Addr) (d2 : Nat) (B : Nat) (w : World), Rd w B Z0 d0 xs0 → Rd w B Z2 d2 xs2 → B ≤ w.heap.size → Calls Try.prog 35 #[.slice Z0 xs0.length d0, .int .i64 n1, .slice Z2 xs2.length d2] w ((Plain (.tuple #[.bool r0, .bool r1])) w))
    (hg : ∀ (Z0 : Option Addr) (d0 : Nat) (Z2 : Option Addr) (d2 : Nat) (B : Nat) (w : World), Rd w B Z0 d0 xs0 → Rd w B Z2 d2 xs2 → B ≤ w.heap.size → Calls Try.prog 36 #[.slice Z0 xs0.length d0, .int .i64 n1, .slice Z2 xs2.length d2] w ((Plain (.tuple #[.bool r0, .bool r1])) w)) :
    Calls Try.prog 12 #[.slice Z0 xs0.length d0, .int .i64 n1, .slice Z2 xs2.length d2] w0 fun e w' => e = .returned (.bool true) ∧ Below w0.heap.size w0 w' := by
  have Bt : Below w0.heap.size w0 w0 := Below.refl _ _
  go_enter Try.func12, Try.ntmps12
  go_wp2_with fail
  refine (toIntS_new Z0 d0 xs0 w0.heap.size w0 R0 (by omega) hn0).mono ?_
  rintro e w1 ⟨a0, rfl, a0g, Ha0, hb0⟩
  have hb : Below w0.heap.size w0 w1 := hb0
  have z1 : w0.heap.size ≤ w1.heap.size := hb.size
  replace R0 := R0.below hb (by omega)
  replace R2 := R2.below hb (by omega)
  replace Bt := Bt.trans (hb.mono (by omega))
  have a0l := Ha0.lt
  clear hb hb0
  go_wp2_with fail
  refine (toIntS_new Z2 d2 xs2 w0.heap.size w1 R2 (by omega) hn2).mono ?_
  rintro e w2 ⟨a2, rfl, a2g, Ha2, hb0⟩
  have hb : Below w1.heap.size w1 w2 := hb0
  have z2 : w1.heap.size ≤ w2.heap.size := hb.size
  replace R0 := R0.below hb (by omega)
  replace R2 := R2.below hb (by omega)
  replace Ha0 := Ha0.below hb (by omega)
  replace Bt := Bt.trans (hb.mono (by omega))
  have a2l := Ha2.lt
  clear hb hb0
  go_wp2_with fail
  refine (hf _ _ _ _ w2.heap.size w2 (Ha0.rd (B := w2.heap.size) (c := xs0.length) Ha0.lt (Nat.le_refl _)) (Ha2.rd (B := w2.heap.size) (c := xs2.length) Ha2.lt (Nat.le_refl _)) (Nat.le_refl _)).mono ?_
  rintro e w3 ⟨rfl, hb0⟩
  have hb : Below w2.heap.size w2 w3 := hb0
  have z3 : w2.heap.size ≤ w3.heap.size := hb.size
  replace R0 := R0.below hb (by omega)
  replace R2 := R2.below hb (by omega)
  replace Ha0 := Ha0.below hb (by omega)
  replace Ha2 := Ha2.below hb (by omega)
  replace Bt := Bt.trans (hb.mono (by omega))
  clear hb hb0
  clear Ha0
  clear Ha2
  go_wp2_with fail
  refine (toIntS_new Z0 d0 xs0 w0.heap.size w3 R0 (by omega) hn0).mono ?_
  rintro e w4 ⟨b0, rfl, b0g, Hb0, hb0⟩
  have hb : Below w3.heap.size w3 w4 := hb0
  have z4 : w3.heap.size ≤ w4.heap.size := hb.size
  replace R0 := R0.below hb (by omega)
  replace R2 := R2.below hb (by omega)
  replace Bt := Bt.trans (hb.mono (by omega))
  have b0l := Hb0.lt
  clear hb hb0
  go_wp2_with fail
  refine (toIntS_new Z2 d2 xs2 w0.heap.size w4 R2 (by omega) hn2).mono ?_
  rintro e w5 ⟨b2, rfl, b2g, Hb2, hb0⟩
  have hb : Below w4.heap.size w4 w5 := hb0
  have z5 : w4.heap.size ≤ w5.heap.size := hb.size
  replace R0 := R0.below hb (by omega)
  replace R2 := R2.below hb (by omega)
  replace Hb0 := Hb0.below hb (by omega)
  replace Bt := Bt.trans (hb.mono (by omega))
  have b2l := Hb2.lt
  clear hb hb0
  go_wp2_with fail
  refine (hg _ _ _ _ w5.heap.size w5 (Hb0.rd (B := w5.heap.size) (c := xs0.length) Hb0.lt (Nat.le_refl _)) (Hb2.rd (B := w5.heap.size) (c := xs2.length) Hb2.lt (Nat.le_refl _)) (Nat.le_refl _)).mono ?_
  rintro e w6 ⟨rfl, hb0⟩
  have hb : Below w5.heap.size w5 w6 := hb0
  have z6 : w5.heap.size ≤ w6.heap.size := hb.size
  replace R0 := R0.below hb (by omega)
  replace R2 := R2.below hb (by omega)
  replace Hb0 := Hb0.below hb (by omega)
  replace Hb2 := Hb2.below hb (by omega)
  replace Bt := Bt.trans (hb.mono (by omega))
  clear hb hb0
  go_wp2_with fail
  refine (toIntS_new Z0 d0 xs0 w0.heap.size w6 R0 (by omega) hn0).mono ?_
  rintro e w7 ⟨c0, rfl, c0g, Hc0, hb0⟩
  have hb : Below w6.heap.size w6 w7 := hb0
  have z7 : w6.heap.size ≤ w7.heap.size := hb.size
  replace R0 := R0.below hb (by omega)
  replace R2 := R2.below hb (by omega)
  replace Hb0 := Hb0.below hb (by omega)
  replace Hb2 := Hb2.below hb (by omega)
  replace Bt := Bt.trans (hb.mono (by omega))
  have c0l := Hc0.lt
  clear hb hb0
  go_wp2_with fail
  refine (eqIntS_new _ _ _ _ xs0 xs0 _ _ w7 (Hb0.rd (c := xs0.length) Hb0.lt (Nat.le_refl _)) (Hc0.rd (c := xs0.length) Hc0.lt (Nat.le_refl _)) hn0).mono ?_
  rintro e w8 ⟨rfl, hb0⟩
  have hb : Below w7.heap.size w7 w8 := hb0
  have z8 : w7.heap.size ≤ w8.heap.size := hb.size
  replace R0 := R0.below hb (by omega)
  replace R2 := R2.below hb (by omega)
  replace Hb0 := Hb0.below hb (by omega)
  replace Hb2 := Hb2.below hb (by omega)
  replace Hc0 := Hc0.below hb (by omega)
  replace Bt := Bt.trans (hb.mono (by omega))
  rw [eqB_self]
  clear hb hb0
  clear Hc0
  go_wp2_with fail
  refine (toIntS_new Z2 d2 xs2 w0.heap.size w8 R2 (by omega) hn2).mono ?_
  rintro e w9 ⟨c2, rfl, c2g, Hc2, hb0⟩
  have hb : Below w8.heap.size w8 w9 := hb0
  have z9 : w8.heap.size ≤ w9.heap.size := hb.size
  replace R0 := R0.below hb (by omega)
  replace R2 := R2.below hb (by omega)
  replace Hb0 := Hb0.below hb (by omega)
  replace Hb2 := Hb2.below hb (by omega)
  replace Bt := Bt.trans (hb.mono (by omega))
  have c2l := Hc2.lt
  clear hb hb0
  go_wp2_with fail
  refine (eqIntS_new _ _ _ _ xs2 xs2 _ _ w9 (Hb2.rd (c := xs2.length) Hb2.lt (Nat.le_refl _)) (Hc2.rd (c := xs2.length) Hc2.lt (Nat.le_refl _)) hn2).mono ?_
  rintro e w10 ⟨rfl, hb0⟩
  have hb : Below w9.heap.size w9 w10 := hb0
  have z10 : w9.heap.size ≤ w10.heap.size := hb.size
  replace R0 := R0.below hb (by omega)
  replace R2 := R2.below hb (by omega)
  replace Hb0 := Hb0.below hb (by omega)
  replace Hb2 := Hb2.below hb (by omega)
  replace Hc2 := Hc2.below hb (by omega)
  replace Bt := Bt.trans (hb.mono (by omega))
  rw [eqB_self]
  clear hb hb0
  clear Hc2
  go_wp2_with fail
  go_ret
  exact ⟨rfl, Bt⟩

end Go.Proofs.Ytdkmpclghfkfbaa
