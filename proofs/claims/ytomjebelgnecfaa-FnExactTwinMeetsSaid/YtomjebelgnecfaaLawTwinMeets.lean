/- The law FnExactTwinMeets: its walk, given what the two functions leave. -/
import Derived.Test.YtomjebelgnecfaaGInts
import Derived.Test.YtomjebelgnecfaaGStruct
import Derived.Deep.RegionHeld3
namespace Go.Proofs.Ytomjebelgnecfaa
open Go.RowKit

set_option maxHeartbeats 2000000 in
set_option maxRecDepth 100000 in
theorem twinMeets_walk (a0_0 a0_1 a0_2 : Int) (a1_0 a1_1 a1_2 : Int) (zs0 : List Int) (r1 : Bool) (hz0 : zs0.length ≤ 1048576) (w0 : World)
    (hf : ∀ (w : World), Calls Try.prog 26 #[.agg #[.int .i64 a0_0, .int .i64 a0_1, .int .i64 a0_2], .agg #[.int .i64 a1_0, .int .i64 a1_1, .int .i64 a1_2]] w ((fun w => Lists w zs0 r1) w))
    (hg : ∀ (w : World), Calls Try.prog 27 #[.agg #[.int .i64 a0_0, .int .i64 a0_1, .int .i64 a0_2], .agg #[.int .i64 a1_0, .int .i64 a1_1, .int .i64 a1_2]] w ((fun w => Lists w zs0 r1) w)) :
    Calls Try.prog 9 #[.agg #[.int .i64 a0_0, .int .i64 a0_1, .int .i64 a0_2], .agg #[.int .i64 a1_0, .int .i64 a1_1, .int .i64 a1_2]] w0 fun e w' => e = .returned (.bool true) ∧ Below w0.heap.size w0 w' := by
  have X0 : Blk ((w0.alloc (.cells #[.int .i64 a0_0, .int .i64 a0_1, .int .i64 a0_2] 23)).alloc (.cells #[.int .i64 a1_0, .int .i64 a1_1, .int .i64 a1_2] 23)) (w0.heap.size) 23 #[.int .i64 a0_0, .int .i64 a0_1, .int .i64 a0_2] := ((Blk.new' (by simp)).alloc _)
  have X1 : Blk ((w0.alloc (.cells #[.int .i64 a0_0, .int .i64 a0_1, .int .i64 a0_2] 23)).alloc (.cells #[.int .i64 a1_0, .int .i64 a1_1, .int .i64 a1_2] 23)) (w0.heap.size + 1) 23 #[.int .i64 a1_0, .int .i64 a1_1, .int .i64 a1_2] := (Blk.new' (by simp))
  have hbe : Below w0.heap.size w0 ((w0.alloc (.cells #[.int .i64 a0_0, .int .i64 a0_1, .int .i64 a0_2] 23)).alloc (.cells #[.int .i64 a1_0, .int .i64 a1_1, .int .i64 a1_2] 23)) := ((below_alloc _ _).alloc (by simp) _)
  have Bt : Below w0.heap.size w0 w0 := Below.refl _ _
  go_enter Try.func9, Try.ntmps9
  go_wp2_with fail
  generalize hWe : ((w0.alloc (.cells #[.int .i64 a0_0, .int .i64 a0_1, .int .i64 a0_2] 23)).alloc (.cells #[.int .i64 a1_0, .int .i64 a1_1, .int .i64 a1_2] 23)) = w1 at *
  replace hWe := trivial
  have z1 : w0.heap.size + 2 ≤ w1.heap.size := by have := X1.lt; omega
  replace Bt := Bt.trans hbe
  clear hbe hWe
  obtain ⟨pX0_0, pX0_1, pX0_2⟩ := X0.three
  obtain ⟨pX1_0, pX1_1, pX1_2⟩ := X1.three
  go_wp2_with fail
  go_region_held3 (fun u => u.cell? ⟨w0.heap.size, 0, none⟩ = some (.int .i64 a0_0) ∧ u.cell? ⟨w0.heap.size, 1, none⟩ = some (.int .i64 a0_1) ∧ u.cell? ⟨w0.heap.size, 2, none⟩ = some (.int .i64 a0_2) ∧ u.cell? ⟨w0.heap.size + 1, 0, none⟩ = some (.int .i64 a1_0) ∧ u.cell? ⟨w0.heap.size + 1, 1, none⟩ = some (.int .i64 a1_1) ∧ u.cell? ⟨w0.heap.size + 1, 2, none⟩ = some (.int .i64 a1_2)) (first | exact ⟨pX0_0, pX0_1, pX0_2, pX1_0, pX1_1, pX1_2⟩ | exact ⟨ca0_0, ca0_1, ca0_2, ca1_0, ca1_1, ca1_2⟩ | exact ⟨cb0_0, cb0_1, cb0_2, cb1_0, cb1_1, cb1_2⟩ | exact ⟨cc0_0, cc0_1, cc0_2, cc1_0, cc1_1, cc1_2⟩)
    (first
      | (go_at_call_of 11 (Value.agg #[Value.int .i64 a0_0, Value.int .i64 a0_1, Value.int .i64 a0_2]); (refine (toSpiral_any a0_0 a0_1 a0_2 w1.drew).mono ?_); rintro e u1 ⟨rfl, k1⟩; have h1 : Below w1.heap.size w1 u1 := below_undrew k1; have caX0 := X0.below h1 X0.lt; obtain ⟨ca0_0, ca0_1, ca0_2⟩ := caX0.three; have caX1 := X1.below h1 X1.lt; obtain ⟨ca1_0, ca1_1, ca1_2⟩ := caX1.three)
      | (go_at_call_of 11 (Value.agg #[Value.int .i64 a1_0, Value.int .i64 a1_1, Value.int .i64 a1_2]); (refine (toSpiral_any a1_0 a1_1 a1_2 u1).mono ?_); rintro e u2 ⟨rfl, k2⟩; have h2 := h1.trans (k2.mono h1.size); have cbX0 := X0.below h2 X0.lt; obtain ⟨cb0_0, cb0_1, cb0_2⟩ := cbX0.three; have cbX1 := X1.below h2 X1.lt; obtain ⟨cb1_0, cb1_1, cb1_2⟩ := cbX1.three)
      | (go_at_call 26; (refine (hf u2).mono ?_); rintro e w2 ⟨v0, he, O0, k3⟩; obtain ⟨A0, c0, hv, _⟩ := O0.form; subst hv; subst he; have og0 := fun k h => (O0.lt k h).1; have ol0 := fun k h => (O0.lt k h).2; have hb0 : Below w1.heap.size w1 w2 := h2.trans (k3.mono h2.size); have ccX0 := X0.below hb0 X0.lt; obtain ⟨cc0_0, cc0_1, cc0_2⟩ := ccX0.three; have ccX1 := X1.below hb0 X1.lt; obtain ⟨cc1_0, cc1_1, cc1_2⟩ := ccX1.three)
    )
  have hb : Below w1.heap.size w1 w2 := hb0
  have z2 : w1.heap.size ≤ w2.heap.size := hb.size
  replace O0 := O0.mono (show w1.heap.size ≤ u2.heap.size from h2.size)
  have zu2 : w1.heap.size ≤ u2.heap.size := h2.size
  clear ca0_0 ca0_1 ca0_2 ca1_0 ca1_1 ca1_2 cb0_0 cb0_1 cb0_2 cb1_0 cb1_1 cb1_2 cc0_0 cc0_1 cc0_2 cc1_0 cc1_1 cc1_2 caX0 caX1 cbX0 cbX1 ccX0 ccX1 h1 h2 k1 k2 k3
  replace X0 := X0.below hb (by omega)
  replace X1 := X1.below hb (by omega)
  replace Bt := Bt.trans (hb.mono (by omega))
  clear hb hb0
  clear pX0_0 pX0_1 pX0_2
  obtain ⟨pX0_0, pX0_1, pX0_2⟩ := X0.three
  clear pX1_0 pX1_1 pX1_2
  obtain ⟨pX1_0, pX1_1, pX1_2⟩ := X1.three
  go_wp2_with fail
  go_region_held3 (fun u => u.cell? ⟨w0.heap.size, 0, none⟩ = some (.int .i64 a0_0) ∧ u.cell? ⟨w0.heap.size, 1, none⟩ = some (.int .i64 a0_1) ∧ u.cell? ⟨w0.heap.size, 2, none⟩ = some (.int .i64 a0_2) ∧ u.cell? ⟨w0.heap.size + 1, 0, none⟩ = some (.int .i64 a1_0) ∧ u.cell? ⟨w0.heap.size + 1, 1, none⟩ = some (.int .i64 a1_1) ∧ u.cell? ⟨w0.heap.size + 1, 2, none⟩ = some (.int .i64 a1_2)) (first | exact ⟨pX0_0, pX0_1, pX0_2, pX1_0, pX1_1, pX1_2⟩ | exact ⟨ca0_0, ca0_1, ca0_2, ca1_0, ca1_1, ca1_2⟩ | exact ⟨cb0_0, cb0_1, cb0_2, cb1_0, cb1_1, cb1_2⟩ | exact ⟨cc0_0, cc0_1, cc0_2, cc1_0, cc1_1, cc1_2⟩)
    (first
      | (go_at_call_of 11 (Value.agg #[Value.int .i64 a0_0, Value.int .i64 a0_1, Value.int .i64 a0_2]); (refine (toSpiral_any a0_0 a0_1 a0_2 w2.drew).mono ?_); rintro e u1 ⟨rfl, k1⟩; have h1 : Below w2.heap.size w2 u1 := below_undrew k1; have caX0 := X0.below h1 X0.lt; obtain ⟨ca0_0, ca0_1, ca0_2⟩ := caX0.three; have caX1 := X1.below h1 X1.lt; obtain ⟨ca1_0, ca1_1, ca1_2⟩ := caX1.three)
      | (go_at_call_of 11 (Value.agg #[Value.int .i64 a1_0, Value.int .i64 a1_1, Value.int .i64 a1_2]); (refine (toSpiral_any a1_0 a1_1 a1_2 u1).mono ?_); rintro e u2 ⟨rfl, k2⟩; have h2 := h1.trans (k2.mono h1.size); have cbX0 := X0.below h2 X0.lt; obtain ⟨cb0_0, cb0_1, cb0_2⟩ := cbX0.three; have cbX1 := X1.below h2 X1.lt; obtain ⟨cb1_0, cb1_1, cb1_2⟩ := cbX1.three)
      | (go_at_call 27; (refine (hg u2).mono ?_); rintro e w3 ⟨v1, he, O1, k3⟩; obtain ⟨A1, c1, hv, _⟩ := O1.form; subst hv; subst he; have og1 := fun k h => (O1.lt k h).1; have ol1 := fun k h => (O1.lt k h).2; have hb0 : Below w2.heap.size w2 w3 := h2.trans (k3.mono h2.size); have ccX0 := X0.below hb0 X0.lt; obtain ⟨cc0_0, cc0_1, cc0_2⟩ := ccX0.three; have ccX1 := X1.below hb0 X1.lt; obtain ⟨cc1_0, cc1_1, cc1_2⟩ := ccX1.three)
    )
  have hb : Below w2.heap.size w2 w3 := hb0
  have z3 : w2.heap.size ≤ w3.heap.size := hb.size
  replace O1 := O1.mono (show w2.heap.size ≤ u2.heap.size from h2.size)
  have zu3 : w2.heap.size ≤ u2.heap.size := h2.size
  clear ca0_0 ca0_1 ca0_2 ca1_0 ca1_1 ca1_2 cb0_0 cb0_1 cb0_2 cb1_0 cb1_1 cb1_2 cc0_0 cc0_1 cc0_2 cc1_0 cc1_1 cc1_2 caX0 caX1 cbX0 cbX1 ccX0 ccX1 h1 h2 k1 k2 k3
  replace X0 := X0.below hb (by omega)
  replace X1 := X1.below hb (by omega)
  replace O0 := O0.below hb (Nat.le_refl _)
  replace Bt := Bt.trans (hb.mono (by omega))
  clear hb hb0
  clear pX0_0 pX0_1 pX0_2
  obtain ⟨pX0_0, pX0_1, pX0_2⟩ := X0.three
  clear pX1_0 pX1_1 pX1_2
  obtain ⟨pX1_0, pX1_1, pX1_2⟩ := X1.three
  go_wp2_with fail
  refine (eqIntS_new _ _ _ _ zs0 zs0 _ _ w3 O1.rd O0.rd hz0).mono ?_
  rintro e w4 ⟨rfl, hb0⟩
  have hb : Below w3.heap.size w3 w4 := hb0
  have z4 : w3.heap.size ≤ w4.heap.size := hb.size
  replace X0 := X0.below hb (by omega)
  replace X1 := X1.below hb (by omega)
  replace O0 := O0.below hb (Nat.le_refl _)
  replace O1 := O1.below hb (Nat.le_refl _)
  replace Bt := Bt.trans (hb.mono (by omega))
  rw [eqB_self]
  clear hb hb0
  clear pX0_0 pX0_1 pX0_2
  obtain ⟨pX0_0, pX0_1, pX0_2⟩ := X0.three
  clear pX1_0 pX1_1 pX1_2
  obtain ⟨pX1_0, pX1_1, pX1_2⟩ := X1.three
  go_wp2_with fail
  refine (markI_new _ _ 1 _ w4 O1 hz0 (by omega) (by omega)).mono ?_
  rintro e w5 ⟨rfl, M1, ht⟩
  have hge := fun k hk => og1 k (mem_rowL.1 hk)
  clear O1
  have z5 : w4.heap.size ≤ w5.heap.size := ht.size
  replace X0 := X0.turned ht (fun hk => by have := hge _ hk; omega)
  replace X1 := X1.turned ht (fun hk => by have := hge _ hk; omega)
  replace O0 := O0.turned ht (fun k hv hk => by have := hge k hk; have := ol0 k hv; omega)
  replace Bt := Bt.trans (ht.below (by omega) (fun k hk => by have := hge k hk; omega))
  clear ht hge
  clear pX0_0 pX0_1 pX0_2
  obtain ⟨pX0_0, pX0_1, pX0_2⟩ := X0.three
  clear pX1_0 pX1_1 pX1_2
  obtain ⟨pX1_0, pX1_1, pX1_2⟩ := X1.three
  go_wp2_with fail
  refine (heldIntS_any _ _ 1 _ w5 M1 hz0 (by omega) (by omega)).mono ?_
  rintro e wh ⟨rfl, rfl⟩
  go_wp2_with fail
  go_region_held3 (fun u => u.cell? ⟨w0.heap.size, 0, none⟩ = some (.int .i64 a0_0) ∧ u.cell? ⟨w0.heap.size, 1, none⟩ = some (.int .i64 a0_1) ∧ u.cell? ⟨w0.heap.size, 2, none⟩ = some (.int .i64 a0_2) ∧ u.cell? ⟨w0.heap.size + 1, 0, none⟩ = some (.int .i64 a1_0) ∧ u.cell? ⟨w0.heap.size + 1, 1, none⟩ = some (.int .i64 a1_1) ∧ u.cell? ⟨w0.heap.size + 1, 2, none⟩ = some (.int .i64 a1_2)) (first | exact ⟨pX0_0, pX0_1, pX0_2, pX1_0, pX1_1, pX1_2⟩ | exact ⟨ca0_0, ca0_1, ca0_2, ca1_0, ca1_1, ca1_2⟩ | exact ⟨cb0_0, cb0_1, cb0_2, cb1_0, cb1_1, cb1_2⟩ | exact ⟨cc0_0, cc0_1, cc0_2, cc1_0, cc1_1, cc1_2⟩)
    (first
      | (go_at_call_of 11 (Value.agg #[Value.int .i64 a0_0, Value.int .i64 a0_1, Value.int .i64 a0_2]); (refine (toSpiral_any a0_0 a0_1 a0_2 w5.drew).mono ?_); rintro e u1 ⟨rfl, k1⟩; have h1 : Below w5.heap.size w5 u1 := below_undrew k1; have caX0 := X0.below h1 X0.lt; obtain ⟨ca0_0, ca0_1, ca0_2⟩ := caX0.three; have caX1 := X1.below h1 X1.lt; obtain ⟨ca1_0, ca1_1, ca1_2⟩ := caX1.three)
      | (go_at_call_of 11 (Value.agg #[Value.int .i64 a1_0, Value.int .i64 a1_1, Value.int .i64 a1_2]); (refine (toSpiral_any a1_0 a1_1 a1_2 u1).mono ?_); rintro e u2 ⟨rfl, k2⟩; have h2 := h1.trans (k2.mono h1.size); have cbX0 := X0.below h2 X0.lt; obtain ⟨cb0_0, cb0_1, cb0_2⟩ := cbX0.three; have cbX1 := X1.below h2 X1.lt; obtain ⟨cb1_0, cb1_1, cb1_2⟩ := cbX1.three)
      | (go_at_call 27; (refine (hg u2).mono ?_); rintro e w6 ⟨v2, he, O2, k3⟩; obtain ⟨A2, c2, hv, _⟩ := O2.form; subst hv; subst he; have og2 := fun k h => (O2.lt k h).1; have ol2 := fun k h => (O2.lt k h).2; have hb0 : Below w5.heap.size w5 w6 := h2.trans (k3.mono h2.size); have ccX0 := X0.below hb0 X0.lt; obtain ⟨cc0_0, cc0_1, cc0_2⟩ := ccX0.three; have ccX1 := X1.below hb0 X1.lt; obtain ⟨cc1_0, cc1_1, cc1_2⟩ := ccX1.three)
    )
  have hb : Below w5.heap.size w5 w6 := hb0
  have z6 : w5.heap.size ≤ w6.heap.size := hb.size
  replace O2 := O2.mono (show w5.heap.size ≤ u2.heap.size from h2.size)
  have zu6 : w5.heap.size ≤ u2.heap.size := h2.size
  clear ca0_0 ca0_1 ca0_2 ca1_0 ca1_1 ca1_2 cb0_0 cb0_1 cb0_2 cb1_0 cb1_1 cb1_2 cc0_0 cc0_1 cc0_2 cc1_0 cc1_1 cc1_2 caX0 caX1 cbX0 cbX1 ccX0 ccX1 h1 h2 k1 k2 k3
  replace X0 := X0.below hb (by omega)
  replace X1 := X1.below hb (by omega)
  replace O0 := O0.below hb (Nat.le_refl _)
  replace M1 := M1.below hb (Nat.le_refl _)
  replace Bt := Bt.trans (hb.mono (by omega))
  clear hb hb0
  clear pX0_0 pX0_1 pX0_2
  obtain ⟨pX0_0, pX0_1, pX0_2⟩ := X0.three
  clear pX1_0 pX1_1 pX1_2
  obtain ⟨pX1_0, pX1_1, pX1_2⟩ := X1.three
  go_wp2_with fail
  refine (eqIntS_new _ _ _ _ zs0 zs0 _ _ w6 O2.rd O0.rd hz0).mono ?_
  rintro e w7 ⟨rfl, hb0⟩
  have hb : Below w6.heap.size w6 w7 := hb0
  have z7 : w6.heap.size ≤ w7.heap.size := hb.size
  replace X0 := X0.below hb (by omega)
  replace X1 := X1.below hb (by omega)
  replace O0 := O0.below hb (Nat.le_refl _)
  replace M1 := M1.below hb (Nat.le_refl _)
  replace O2 := O2.below hb (Nat.le_refl _)
  replace Bt := Bt.trans (hb.mono (by omega))
  rw [eqB_self]
  clear hb hb0
  clear pX0_0 pX0_1 pX0_2
  obtain ⟨pX0_0, pX0_1, pX0_2⟩ := X0.three
  clear pX1_0 pX1_1 pX1_2
  obtain ⟨pX1_0, pX1_1, pX1_2⟩ := X1.three
  go_wp2_with fail
  refine (heldIntS_any _ _ 1 _ w7 M1 hz0 (by omega) (by omega)).mono ?_
  rintro e wh ⟨rfl, rfl⟩
  go_wp2_with fail
  go_ret
  exact ⟨rfl, Bt⟩

end Go.Proofs.Ytomjebelgnecfaa
