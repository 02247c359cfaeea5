/- The law FnExactCountSides: its walk, given what the two functions leave. -/
import Derived.Test.YtomjebelgnecfaaGInts
import Derived.Test.YtomjebelgnecfaaGStruct
namespace Go.Proofs.Ytomjebelgnecfaa
open Go.RowKit

set_option maxHeartbeats 2000000 in
set_option maxRecDepth 100000 in
theorem countSides_walk (a0_0 a0_1 a0_2 : Int) (zs0 : List Int) (r1 : Bool) (hz0 : zs0.length ≤ 1048576) (w0 : World)
    (hf : ∀ (w : World), Calls Try.prog 20 #[.agg #[.int .i64 a0_0, .int .i64 a0_1, .int .i64 a0_2]] w ((fun w => Lists w zs0 r1) w))
    (hg : ∀ (w : World), Calls Try.prog 21 #[.agg #[.int .i64 a0_0, .int .i64 a0_1, .int .i64 a0_2]] w ((fun w => Lists w zs0 r1) w)) :
    Calls Try.prog 6 #[.agg #[.int .i64 a0_0, .int .i64 a0_1, .int .i64 a0_2]] w0 fun e w' => e = .returned (.bool true) ∧ Below w0.heap.size w0 w' := by
  have X0 : Blk (w0.alloc (.cells #[.int .i64 a0_0, .int .i64 a0_1, .int .i64 a0_2] 23)) (w0.heap.size) 23 #[.int .i64 a0_0, .int .i64 a0_1, .int .i64 a0_2] := (Blk.new' (by simp))
  have hbe : Below w0.heap.size w0 (w0.alloc (.cells #[.int .i64 a0_0, .int .i64 a0_1, .int .i64 a0_2] 23)) := (below_alloc _ _)
  have Bt : Below w0.heap.size w0 w0 := Below.refl _ _
  go_enter Try.func6, Try.ntmps6
  go_wp2_with fail
  generalize hWe : (w0.alloc (.cells #[.int .i64 a0_0, .int .i64 a0_1, .int .i64 a0_2] 23)) = w1 at *
  replace hWe := trivial
  have z1 : w0.heap.size + 1 ≤ w1.heap.size := by have := X0.lt; omega
  replace Bt := Bt.trans hbe
  clear hbe hWe
  obtain ⟨pX0_0, pX0_1, pX0_2⟩ := X0.three
  go_wp2_with fail
  refine (toSpiral_any a0_0 a0_1 a0_2 w1).mono ?_
  rintro e w2 ⟨rfl, hb0⟩
  have hb : Below w1.heap.size w1 w2 := hb0
  have z2 : w1.heap.size ≤ w2.heap.size := hb.size
  replace X0 := X0.below hb (by omega)
  replace Bt := Bt.trans (hb.mono (by omega))
  clear hb hb0
  clear pX0_0 pX0_1 pX0_2
  obtain ⟨pX0_0, pX0_1, pX0_2⟩ := X0.three
  go_wp2_with fail
  refine (hf w2).mono ?_
  rintro e w3 ⟨v0, he, O0, hb0⟩
  obtain ⟨A0, c0, hv, _⟩ := O0.form
  subst hv
  subst he
  have og0 := fun k h => (O0.lt k h).1
  have ol0 := fun k h => (O0.lt k h).2
  have hb : Below w2.heap.size w2 w3 := hb0
  have z3 : w2.heap.size ≤ w3.heap.size := hb.size
  replace X0 := X0.below hb (by omega)
  replace Bt := Bt.trans (hb.mono (by omega))
  clear hb hb0
  clear pX0_0 pX0_1 pX0_2
  obtain ⟨pX0_0, pX0_1, pX0_2⟩ := X0.three
  go_wp2_with fail
  refine (toSpiral_any a0_0 a0_1 a0_2 w3).mono ?_
  rintro e w4 ⟨rfl, hb0⟩
  have hb : Below w3.heap.size w3 w4 := hb0
  have z4 : w3.heap.size ≤ w4.heap.size := hb.size
  replace X0 := X0.below hb (by omega)
  replace O0 := O0.below hb (Nat.le_refl _)
  replace Bt := Bt.trans (hb.mono (by omega))
  clear hb hb0
  clear pX0_0 pX0_1 pX0_2
  obtain ⟨pX0_0, pX0_1, pX0_2⟩ := X0.three
  go_wp2_with fail
  refine (hg w4).mono ?_
  rintro e w5 ⟨v1, he, O1, hb0⟩
  obtain ⟨A1, c1, hv, _⟩ := O1.form
  subst hv
  subst he
  have og1 := fun k h => (O1.lt k h).1
  have ol1 := fun k h => (O1.lt k h).2
  have hb : Below w4.heap.size w4 w5 := hb0
  have z5 : w4.heap.size ≤ w5.heap.size := hb.size
  replace X0 := X0.below hb (by omega)
  replace O0 := O0.below hb (Nat.le_refl _)
  replace Bt := Bt.trans (hb.mono (by omega))
  clear hb hb0
  clear pX0_0 pX0_1 pX0_2
  obtain ⟨pX0_0, pX0_1, pX0_2⟩ := X0.three
  go_wp2_with fail
  refine (eqIntS_new _ _ _ _ zs0 zs0 _ _ w5 O1.rd O0.rd hz0).mono ?_
  rintro e w6 ⟨rfl, hb0⟩
  have hb : Below w5.heap.size w5 w6 := hb0
  have z6 : w5.heap.size ≤ w6.heap.size := hb.size
  replace X0 := X0.below hb (by omega)
  replace O0 := O0.below hb (Nat.le_refl _)
  replace O1 := O1.below hb (Nat.le_refl _)
  replace Bt := Bt.trans (hb.mono (by omega))
  rw [eqB_self]
  clear hb hb0
  clear pX0_0 pX0_1 pX0_2
  obtain ⟨pX0_0, pX0_1, pX0_2⟩ := X0.three
  go_wp2_with fail
  refine (markI_new _ _ 1 _ w6 O1 hz0 (by omega) (by omega)).mono ?_
  rintro e w7 ⟨rfl, M1, ht⟩
  have hge := fun k hk => og1 k (mem_rowL.1 hk)
  clear O1
  have z7 : w6.heap.size ≤ w7.heap.size := ht.size
  replace X0 := X0.turned ht (fun hk => by have := hge _ hk; omega)
  replace O0 := O0.turned ht (fun k hv hk => by have := hge k hk; have := ol0 k hv; omega)
  replace Bt := Bt.trans (ht.below (by omega) (fun k hk => by have := hge k hk; omega))
  clear ht hge
  clear pX0_0 pX0_1 pX0_2
  obtain ⟨pX0_0, pX0_1, pX0_2⟩ := X0.three
  go_wp2_with fail
  refine (heldIntS_any _ _ 1 _ w7 M1 hz0 (by omega) (by omega)).mono ?_
  rintro e wh ⟨rfl, rfl⟩
  go_wp2_with fail
  refine (toSpiral_any a0_0 a0_1 a0_2 w7).mono ?_
  rintro e w8 ⟨rfl, hb0⟩
  have hb : Below w7.heap.size w7 w8 := hb0
  have z8 : w7.heap.size ≤ w8.heap.size := hb.size
  replace X0 := X0.below hb (by omega)
  replace O0 := O0.below hb (Nat.le_refl _)
  replace M1 := M1.below hb (Nat.le_refl _)
  replace Bt := Bt.trans (hb.mono (by omega))
  clear hb hb0
  clear pX0_0 pX0_1 pX0_2
  obtain ⟨pX0_0, pX0_1, pX0_2⟩ := X0.three
  go_wp2_with fail
  refine (hg w8).mono ?_
  rintro e w9 ⟨v2, he, O2, hb0⟩
  obtain ⟨A2, c2, hv, _⟩ := O2.form
  subst hv
  subst he
  have og2 := fun k h => (O2.lt k h).1
  have ol2 := fun k h => (O2.lt k h).2
  have hb : Below w8.heap.size w8 w9 := hb0
  have z9 : w8.heap.size ≤ w9.heap.size := hb.size
  replace X0 := X0.below hb (by omega)
  replace O0 := O0.below hb (Nat.le_refl _)
  replace M1 := M1.below hb (Nat.le_refl _)
  replace Bt := Bt.trans (hb.mono (by omega))
  clear hb hb0
  clear pX0_0 pX0_1 pX0_2
  obtain ⟨pX0_0, pX0_1, pX0_2⟩ := X0.three
  go_wp2_with fail
  refine (eqIntS_new _ _ _ _ zs0 zs0 _ _ w9 O2.rd O0.rd hz0).mono ?_
  rintro e w10 ⟨rfl, hb0⟩
  have hb : Below w9.heap.size w9 w10 := hb0
  have z10 : w9.heap.size ≤ w10.heap.size := hb.size
  replace X0 := X0.below hb (by omega)
  replace O0 := O0.below hb (Nat.le_refl _)
  replace M1 := M1.below hb (Nat.le_refl _)
  replace O2 := O2.below hb (Nat.le_refl _)
  replace Bt := Bt.trans (hb.mono (by omega))
  rw [eqB_self]
  clear hb hb0
  clear pX0_0 pX0_1 pX0_2
  obtain ⟨pX0_0, pX0_1, pX0_2⟩ := X0.three
  go_wp2_with fail
  refine (heldIntS_any _ _ 1 _ w10 M1 hz0 (by omega) (by omega)).mono ?_
  rintro e wh ⟨rfl, rfl⟩
  go_wp2_with fail
  go_ret
  exact ⟨rfl, Bt⟩

end Go.Proofs.Ytomjebelgnecfaa
