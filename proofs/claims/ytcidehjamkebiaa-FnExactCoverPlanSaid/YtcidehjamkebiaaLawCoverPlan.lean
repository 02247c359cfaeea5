/- The law FnExactCoverPlan: its walk, given what the two functions leave. -/
import Derived.Test.YtcidehjamkebiaaGInts
namespace Go.Proofs.Ytcidehjamkebiaa
open Go.RowKit

set_option maxHeartbeats 2000000 in
set_option maxRecDepth 100000 in
theorem coverPlan_walk (Z0 : Option Addr) (d0 : Nat) (xs0 : List Int) (n1 : Int) (n2 : Int) (zs0 : List Int) (r1 : Bool) (hz0 : zs0.length ≤ 1048576) (w0 : World) (R0 : Rd w0 w0.heap.size Z0 d0 xs0) (hn0 : xs0.length ≤ 1048576)
    (hf : ∀ (Z0 : Option Addr) (d0 : Nat) (B : Nat) (w : World), Rd w B Z0 d0 xs0 → B ≤ w.heap.size → Calls Try.prog 24 #[.slice Z0 xs0.length d0, .int .i64 n1, .int .i64 n2] w ((fun w => Lists w zs0 r1) w))
    (hg : ∀ (Z0 : Option Addr) (d0 : Nat) (B : Nat) (w : World), Rd w B Z0 d0 xs0 → B ≤ w.heap.size → Calls Try.prog 25 #[.slice Z0 xs0.length d0, .int .i64 n1, .int .i64 n2] w ((fun w => Lists w zs0 r1) w)) :
    Calls Try.prog 7 #[.slice Z0 xs0.length d0, .int .i64 n1, .int .i64 n2] w0 fun e w' => e = .returned (.bool true) ∧ Below w0.heap.size w0 w' := by
  have Bt : Below w0.heap.size w0 w0 := Below.refl _ _
  go_enter Try.func7, Try.ntmps7
  go_wp2_with fail
  refine (toIntS_new Z0 d0 xs0 w0.heap.size w0 R0 (by omega) hn0).mono ?_
  rintro e w1 ⟨a0, rfl, a0g, Ha0, hb0⟩
  have hb : Below w0.heap.size w0 w1 := hb0
  have z1 : w0.heap.size ≤ w1.heap.size := hb.size
  replace R0 := R0.below hb (by omega)
  replace Bt := Bt.trans (hb.mono (by omega))
  have a0l := Ha0.lt
  clear hb hb0
  go_wp2_with fail
  refine (hf _ _ w1.heap.size w1 (Ha0.rd (B := w1.heap.size) (c := xs0.length) Ha0.lt (Nat.le_refl _)) (Nat.le_refl _)).mono ?_
  rintro e w2 ⟨v0, he, O0, hb0⟩
  obtain ⟨A0, c0, hv, _⟩ := O0.form
  subst hv
  subst he
  have og0 := fun k h => (O0.lt k h).1
  have ol0 := fun k h => (O0.lt k h).2
  have hb : Below w1.heap.size w1 w2 := hb0
  have z2 : w1.heap.size ≤ w2.heap.size := hb.size
  replace R0 := R0.below hb (by omega)
  replace Ha0 := Ha0.below hb (by omega)
  replace Bt := Bt.trans (hb.mono (by omega))
  clear hb hb0
  clear Ha0
  go_wp2_with fail
  refine (toIntS_new Z0 d0 xs0 w0.heap.size w2 R0 (by omega) hn0).mono ?_
  rintro e w3 ⟨b0, rfl, b0g, Hb0, hb0⟩
  have hb : Below w2.heap.size w2 w3 := hb0
  have z3 : w2.heap.size ≤ w3.heap.size := hb.size
  replace R0 := R0.below hb (by omega)
  replace O0 := O0.below hb (Nat.le_refl _)
  replace Bt := Bt.trans (hb.mono (by omega))
  have b0l := Hb0.lt
  clear hb hb0
  go_wp2_with fail
  refine (hg _ _ w3.heap.size w3 (Hb0.rd (B := w3.heap.size) (c := xs0.length) Hb0.lt (Nat.le_refl _)) (Nat.le_refl _)).mono ?_
  rintro e w4 ⟨v1, he, O1, hb0⟩
  obtain ⟨A1, c1, hv, _⟩ := O1.form
  subst hv
  subst he
  have og1 := fun k h => (O1.lt k h).1
  have ol1 := fun k h => (O1.lt k h).2
  have hb : Below w3.heap.size w3 w4 := hb0
  have z4 : w3.heap.size ≤ w4.heap.size := hb.size
  replace R0 := R0.below hb (by omega)
  replace O0 := O0.below hb (Nat.le_refl _)
  replace Hb0 := Hb0.below hb (by omega)
  replace Bt := Bt.trans (hb.mono (by omega))
  clear hb hb0
  go_wp2_with fail
  refine (eqIntS_new _ _ _ _ zs0 zs0 _ _ w4 O1.rd O0.rd hz0).mono ?_
  rintro e w5 ⟨rfl, hb0⟩
  have hb : Below w4.heap.size w4 w5 := hb0
  have z5 : w4.heap.size ≤ w5.heap.size := hb.size
  replace R0 := R0.below hb (by omega)
  replace O0 := O0.below hb (Nat.le_refl _)
  replace Hb0 := Hb0.below hb (by omega)
  replace O1 := O1.below hb (Nat.le_refl _)
  replace Bt := Bt.trans (hb.mono (by omega))
  rw [eqB_self]
  clear hb hb0
  go_wp2_with fail
  refine (toIntS_new Z0 d0 xs0 w0.heap.size w5 R0 (by omega) hn0).mono ?_
  rintro e w6 ⟨c0, rfl, c0g, Hc0, hb0⟩
  have hb : Below w5.heap.size w5 w6 := hb0
  have z6 : w5.heap.size ≤ w6.heap.size := hb.size
  replace R0 := R0.below hb (by omega)
  replace O0 := O0.below hb (Nat.le_refl _)
  replace Hb0 := Hb0.below hb (by omega)
  replace O1 := O1.below hb (Nat.le_refl _)
  replace Bt := Bt.trans (hb.mono (by omega))
  have c0l := Hc0.lt
  clear hb hb0
  go_wp2_with fail
  refine (eqIntS_new _ _ _ _ xs0 xs0 _ _ w6 (Hb0.rd (c := xs0.length) Hb0.lt (Nat.le_refl _)) (Hc0.rd (c := xs0.length) Hc0.lt (Nat.le_refl _)) hn0).mono ?_
  rintro e w7 ⟨rfl, hb0⟩
  have hb : Below w6.heap.size w6 w7 := hb0
  have z7 : w6.heap.size ≤ w7.heap.size := hb.size
  replace R0 := R0.below hb (by omega)
  replace O0 := O0.below hb (Nat.le_refl _)
  replace Hb0 := Hb0.below hb (by omega)
  replace O1 := O1.below hb (Nat.le_refl _)
  replace Hc0 := Hc0.below hb (by omega)
  replace Bt := Bt.trans (hb.mono (by omega))
  rw [eqB_self]
  clear hb hb0
  clear Hc0
  go_wp2_with fail
  refine (markI_new _ xs0 (1) b0 w7 (Hb0.own hn0) hn0 (by omega) (by omega)).mono ?_
  rintro e w8 ⟨rfl, _, ht⟩
  have hge : ∀ k ∈ rowL (.slice (some ⟨b0, 0, none⟩) xs0.length xs0.length), k = b0 := fun k hk => by simpa [rowL_some] using hk
  clear Hb0
  have z8 : w7.heap.size ≤ w8.heap.size := ht.size
  replace R0 := R0.turned ht (by omega) (fun k hk => by have := hge k hk; omega)
  replace O0 := O0.turned ht (fun k hv hk => by have := hge k hk; have := ol0 k hv; omega)
  replace O1 := O1.turned ht (fun k hv hk => by have := hge k hk; have := og1 k hv; omega)
  replace Bt := Bt.trans (ht.below (by omega) (fun k hk => by have := hge k hk; omega))
  clear ht hge
  go_wp2_with fail
  refine (eqIntS_new _ _ _ _ zs0 zs0 _ _ w8 O1.rd O0.rd hz0).mono ?_
  rintro e w9 ⟨rfl, hb0⟩
  have hb : Below w8.heap.size w8 w9 := hb0
  have z9 : w8.heap.size ≤ w9.heap.size := hb.size
  replace R0 := R0.below hb (by omega)
  replace O0 := O0.below hb (Nat.le_refl _)
  replace O1 := O1.below hb (Nat.le_refl _)
  replace Bt := Bt.trans (hb.mono (by omega))
  rw [eqB_self]
  clear hb hb0
  go_wp2_with fail
  refine (markI_new _ _ 1 _ w9 O1 hz0 (by omega) (by omega)).mono ?_
  rintro e w10 ⟨rfl, M1, ht⟩
  have hge := fun k hk => og1 k (mem_rowL.1 hk)
  clear O1
  have z10 : w9.heap.size ≤ w10.heap.size := ht.size
  replace R0 := R0.turned ht (by omega) (fun k hk => by have := hge k hk; omega)
  replace O0 := O0.turned ht (fun k hv hk => by have := hge k hk; have := ol0 k hv; omega)
  replace Bt := Bt.trans (ht.below (by omega) (fun k hk => by have := hge k hk; omega))
  clear ht hge
  go_wp2_with fail
  refine (heldIntS_any _ _ 1 _ w10 M1 hz0 (by omega) (by omega)).mono ?_
  rintro e wh ⟨rfl, rfl⟩
  go_wp2_with fail
  refine (toIntS_new Z0 d0 xs0 w0.heap.size w10 R0 (by omega) hn0).mono ?_
  rintro e w11 ⟨d0, rfl, d0g, Hd0, hb0⟩
  have hb : Below w10.heap.size w10 w11 := hb0
  have z11 : w10.heap.size ≤ w11.heap.size := hb.size
  replace R0 := R0.below hb (by omega)
  replace O0 := O0.below hb (Nat.le_refl _)
  replace M1 := M1.below hb (Nat.le_refl _)
  replace Bt := Bt.trans (hb.mono (by omega))
  have d0l := Hd0.lt
  clear hb hb0
  go_wp2_with fail
  refine (hg _ _ w11.heap.size w11 (Hd0.rd (B := w11.heap.size) (c := xs0.length) Hd0.lt (Nat.le_refl _)) (Nat.le_refl _)).mono ?_
  rintro e w12 ⟨v2, he, O2, hb0⟩
  obtain ⟨A2, c2, hv, _⟩ := O2.form
  subst hv
  subst he
  have og2 := fun k h => (O2.lt k h).1
  have ol2 := fun k h => (O2.lt k h).2
  have hb : Below w11.heap.size w11 w12 := hb0
  have z12 : w11.heap.size ≤ w12.heap.size := hb.size
  replace R0 := R0.below hb (by omega)
  replace O0 := O0.below hb (Nat.le_refl _)
  replace M1 := M1.below hb (Nat.le_refl _)
  replace Hd0 := Hd0.below hb (by omega)
  replace Bt := Bt.trans (hb.mono (by omega))
  clear hb hb0
  go_wp2_with fail
  refine (eqIntS_new _ _ _ _ zs0 zs0 _ _ w12 O2.rd O0.rd hz0).mono ?_
  rintro e w13 ⟨rfl, hb0⟩
  have hb : Below w12.heap.size w12 w13 := hb0
  have z13 : w12.heap.size ≤ w13.heap.size := hb.size
  replace R0 := R0.below hb (by omega)
  replace O0 := O0.below hb (Nat.le_refl _)
  replace M1 := M1.below hb (Nat.le_refl _)
  replace Hd0 := Hd0.below hb (by omega)
  replace O2 := O2.below hb (Nat.le_refl _)
  replace Bt := Bt.trans (hb.mono (by omega))
  rw [eqB_self]
  clear hb hb0
  go_wp2_with fail
  refine (heldIntS_any _ _ 1 _ w13 M1 hz0 (by omega) (by omega)).mono ?_
  rintro e wh ⟨rfl, rfl⟩
  go_wp2_with fail
  go_ret
  exact ⟨rfl, Bt⟩

end Go.Proofs.Ytcidehjamkebiaa
