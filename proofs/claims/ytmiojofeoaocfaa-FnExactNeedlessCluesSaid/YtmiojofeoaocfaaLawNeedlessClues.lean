/- The law FnExactNeedlessClues: its walk, given what the two functions leave. -/
import Derived.Test.YtmiojofeoaocfaaPzM
import Derived.Deep.RegionHeld3
namespace Go.Proofs.Ytmiojofeoaocfaa
open Go.RowKit
set_option maxRecDepth 100000

set_option maxHeartbeats 4000000 in
theorem needlessClues_walk (Z0 : Option Addr) (d0 : Nat) (ps0 : List Tri) (zs0 : List Int) (r1 : Bool) (hz0 : zs0.length ≤ 1048576) (w0 : World) (R0 : RdF w0 w0.heap.size Z0 d0 ps0) (hn0 : ps0.length ≤ 1048576)
    (hf : ∀ (A : Option Addr) (c B : Nat) (w : World), RdF w B A c ps0 → B ≤ w.heap.size → Calls Try.prog 47 #[pzv A ps0.length c] w ((fun w => Lists w zs0 r1) w))
    (hg : ∀ (A : Option Addr) (c B : Nat) (w : World), RdF w B A c ps0 → B ≤ w.heap.size → Calls Try.prog 48 #[pzv A ps0.length c] w ((fun w => Lists w zs0 r1) w)) :
    Calls Try.prog 11 #[pzv Z0 ps0.length d0] w0 fun e w' => e = .returned (.bool true) ∧ Below w0.heap.size w0 w' := by
  have X0 : Blk (w0.alloc (.cells #[.slice Z0 ps0.length d0] 30)) w0.heap.size 30 #[.slice Z0 ps0.length d0] := Blk.new _ _ _
  have Bt : Below w0.heap.size w0 w0 := Below.refl _ _
  go_enter Try.func11, Try.ntmps11
  go_wp2_with fail
  refine (szPuzzle_yes _ _ _ _ hn0).mono ?_
  rintro e w1 ⟨rfl, hb0⟩
  have hb : Below w0.heap.size w0 w1 := (below_alloc _ _).trans (hb0.mono (by simp))
  replace X0 := X0.below hb0 (by simp)
  have z1 : w0.heap.size + 1 ≤ w1.heap.size := by have := X0.lt; omega
  replace R0 := R0.below hb (Nat.le_refl _)
  replace Bt := Bt.trans hb
  clear hb hb0
  have pX0 := X0.cell 0
  go_wp2_with fail
  refine (toPuzzle_any Z0 d0 ps0 w0.heap.size w1 R0 (by omega) hn0).mono ?_
  rintro e w2 ⟨a0, rfl, a0g, Ha0, hb0⟩
  have hb : Below w1.heap.size w1 w2 := hb0
  have z2 : w1.heap.size ≤ w2.heap.size := hb.size
  replace R0 := R0.below hb (by omega)
  replace X0 := X0.below hb (by omega)
  replace Bt := Bt.trans (hb.mono (by omega))
  have a0l := Ha0.lt
  clear hb hb0
  clear pX0
  have pX0 := X0.cell 0
  go_wp2_with fail
  refine (hf _ _ w2.heap.size w2 (blk_rd Ha0 hn0) (Nat.le_refl _)).mono ?_
  rintro e w3 ⟨v0, he, O0, hb0⟩
  obtain ⟨A0, c0, hv, _⟩ := O0.form
  subst hv
  subst he
  have og0 := fun k h => (O0.lt k h).1
  have ol0 := fun k h => (O0.lt k h).2
  have hb : Below w2.heap.size w2 w3 := hb0
  have z3 : w2.heap.size ≤ w3.heap.size := hb.size
  replace R0 := R0.below hb (by omega)
  replace X0 := X0.below hb (by omega)
  replace Ha0 := Ha0.below hb (by omega)
  replace Bt := Bt.trans (hb.mono (by omega))
  clear hb hb0
  clear pX0
  have pX0 := X0.cell 0
  clear Ha0
  go_wp2_with fail
  refine (toPuzzle_any Z0 d0 ps0 w0.heap.size w3 R0 (by omega) hn0).mono ?_
  rintro e w4 ⟨b0, rfl, b0g, Hb0, hb0⟩
  have hb : Below w3.heap.size w3 w4 := hb0
  have z4 : w3.heap.size ≤ w4.heap.size := hb.size
  replace R0 := R0.below hb (by omega)
  replace X0 := X0.below hb (by omega)
  replace O0 := O0.below hb (Nat.le_refl _)
  replace Bt := Bt.trans (hb.mono (by omega))
  have b0l := Hb0.lt
  clear hb hb0
  clear pX0
  have pX0 := X0.cell 0
  have X1 : Blk (w4.alloc (.cells #[.slice (some ⟨b0, 0, none⟩) ps0.length ps0.length] 35)) w4.heap.size 35 #[.slice (some ⟨b0, 0, none⟩) ps0.length ps0.length] := Blk.new _ _ _
  have hb : Below w4.heap.size w4 (w4.alloc (.cells #[.slice (some ⟨b0, 0, none⟩) ps0.length ps0.length] 35)) := below_alloc _ _
  replace R0 := R0.below hb (by omega)
  replace X0 := X0.below hb (by omega)
  replace O0 := O0.below hb (Nat.le_refl _)
  replace Hb0 := Hb0.below hb (by omega)
  replace Bt := Bt.trans (hb.mono (by omega))
  clear pX0
  have pX0 := X0.cell 0
  go_wp2_with fail
  generalize hWe : (w4.alloc (.cells #[.slice (some ⟨b0, 0, none⟩) ps0.length ps0.length] 35)) = w5 at *
  replace hWe := trivial
  clear hWe
  have z5 : w4.heap.size + 1 ≤ w5.heap.size := by have := X1.lt; omega
  clear hb
  clear pX0
  have pX0 := X0.cell 0
  have pX1 := X1.cell 0
  refine (hg _ _ w5.heap.size w5 (blk_rd Hb0 hn0) (Nat.le_refl _)).mono ?_
  rintro e w6 ⟨v1, he, O1, hb0⟩
  obtain ⟨A1, c1, hv, _⟩ := O1.form
  subst hv
  subst he
  have og1 := fun k h => (O1.lt k h).1
  have ol1 := fun k h => (O1.lt k h).2
  have hb : Below w5.heap.size w5 w6 := hb0
  have z6 : w5.heap.size ≤ w6.heap.size := hb.size
  replace R0 := R0.below hb (by omega)
  replace X0 := X0.below hb (by omega)
  replace O0 := O0.below hb (Nat.le_refl _)
  replace Hb0 := Hb0.below hb (by omega)
  replace X1 := X1.below hb (by omega)
  replace Bt := Bt.trans (hb.mono (by omega))
  clear hb hb0
  clear pX0
  have pX0 := X0.cell 0
  clear pX1
  have pX1 := X1.cell 0
  go_wp2_with fail
  refine (eqIntS_new _ _ _ _ zs0 zs0 _ _ w6 O1.rd O0.rd hz0).mono ?_
  rintro e w7 ⟨rfl, hb0⟩
  have hb : Below w6.heap.size w6 w7 := hb0
  have z7 : w6.heap.size ≤ w7.heap.size := hb.size
  replace R0 := R0.below hb (by omega)
  replace X0 := X0.below hb (by omega)
  replace O0 := O0.below hb (Nat.le_refl _)
  replace Hb0 := Hb0.below hb (by omega)
  replace X1 := X1.below hb (by omega)
  replace O1 := O1.below hb (Nat.le_refl _)
  replace Bt := Bt.trans (hb.mono (by omega))
  rw [eqB_self]
  clear hb hb0
  clear pX0
  have pX0 := X0.cell 0
  clear pX1
  have pX1 := X1.cell 0
  go_wp2_with fail
  go_region_held3 (fun u => u.cell? ⟨w4.heap.size, 0, none⟩ = some (.slice (some ⟨b0, 0, none⟩) ps0.length ps0.length) ∧ u.cell? ⟨w0.heap.size, 0, none⟩ = some (.slice Z0 ps0.length d0)) (first | exact ⟨pX1, pX0⟩ | exact ⟨q1, q0⟩ | exact ⟨r1, r0⟩)
    (first
    | (go_at_call 20; (refine (toPuzzle_any Z0 d0 ps0 w0.heap.size w7.drew R0.drew (by show _ ≤ w7.heap.size; omega) hn0).mono ?_); rintro e u1 ⟨m, rfl, mg, Hm, k1⟩; have h1 : Below w7.heap.size w7 u1 := below_undrew k1; have q1 := (X1.below h1 X1.lt).cell 0; have q0 := (X0.below h1 X0.lt).cell 0)
    | (go_at_call 22; (refine (eqPuzzle_rd _ _ _ _ ps0 _ _ u1 (blk_rd (Hb0.below h1 Hb0.lt) hn0) (blk_rd Hm hn0) (Nat.le_refl _) (Nat.le_refl _) hn0).mono ?_); rintro e w8 ⟨rfl, k2⟩; have hb0 := h1.trans (k2.mono h1.size); have r1 := (X1.below hb0 X1.lt).cell 0; have r0 := (X0.below hb0 X0.lt).cell 0)
    | fail)
  have hb : Below w7.heap.size w7 w8 := hb0
  have z8 : w7.heap.size ≤ w8.heap.size := hb.size
  clear q1 q0 r1 r0 mg Hm k1 k2 h1
  replace R0 := R0.below hb (by omega)
  replace X0 := X0.below hb (by omega)
  replace O0 := O0.below hb (Nat.le_refl _)
  replace Hb0 := Hb0.below hb (by omega)
  replace X1 := X1.below hb (by omega)
  replace O1 := O1.below hb (Nat.le_refl _)
  replace Bt := Bt.trans (hb.mono (by omega))
  clear hb hb0
  clear pX0
  have pX0 := X0.cell 0
  clear pX1
  have pX1 := X1.cell 0
  go_wp2_with fail
  refine (markPz_new _ ps0 1 b0 w8 (blk_own Hb0 hn0) hn0 (by omega) (by omega)).mono ?_
  rintro e w9 ⟨rfl, _, ht⟩
  have hge : ∀ k ∈ rowL (.slice (some ⟨b0, 0, none⟩) ps0.length ps0.length), k = b0 := fun k hk => by simpa [rowL_some] using hk
  clear Hb0
  clear pX1
  clear X1
  have z9 : w8.heap.size ≤ w9.heap.size := ht.size
  replace R0 := R0.turned ht (by omega) (fun k hk => by have := hge k hk; omega)
  replace X0 := X0.turned ht (fun hk => by have := hge _ hk; omega)
  replace O0 := O0.turned ht (fun k hv hk => by have := hge k hk; have := ol0 k hv; omega)
  replace O1 := O1.turned ht (fun k hv hk => by have := hge k hk; have := og1 k hv; omega)
  replace Bt := Bt.trans (ht.below (by omega) (fun k hk => by have := hge k hk; omega))
  clear ht hge
  clear pX0
  have pX0 := X0.cell 0
  go_wp2_with fail
  refine (eqIntS_new _ _ _ _ zs0 zs0 _ _ w9 O1.rd O0.rd hz0).mono ?_
  rintro e w10 ⟨rfl, hb0⟩
  have hb : Below w9.heap.size w9 w10 := hb0
  have z10 : w9.heap.size ≤ w10.heap.size := hb.size
  replace R0 := R0.below hb (by omega)
  replace X0 := X0.below hb (by omega)
  replace O0 := O0.below hb (Nat.le_refl _)
  replace O1 := O1.below hb (Nat.le_refl _)
  replace Bt := Bt.trans (hb.mono (by omega))
  rw [eqB_self]
  clear hb hb0
  clear pX0
  have pX0 := X0.cell 0
  go_wp2_with fail
  refine (markI_new _ _ (1) _ w10 O1 hz0 (by omega) (by omega)).mono ?_
  rintro e w11 ⟨rfl, M1, ht⟩
  have hge := fun k hk => og1 k (mem_rowL.1 hk)
  clear O1
  have z11 : w10.heap.size ≤ w11.heap.size := ht.size
  replace R0 := R0.turned ht (by omega) (fun k hk => by have := hge k hk; omega)
  replace X0 := X0.turned ht (fun hk => by have := hge _ hk; omega)
  replace O0 := O0.turned ht (fun k hv hk => by have := hge k hk; have := ol0 k hv; omega)
  replace Bt := Bt.trans (ht.below (by omega) (fun k hk => by have := hge k hk; omega))
  clear ht hge
  clear pX0
  have pX0 := X0.cell 0
  go_wp2_with fail
  refine (heldIntS_any _ _ (1) _ w11 M1 hz0 (by omega) (by omega)).mono ?_
  rintro e wh ⟨rfl, rfl⟩
  go_wp2_with fail
  refine (toPuzzle_any Z0 d0 ps0 w0.heap.size w11 R0 (by omega) hn0).mono ?_
  rintro e w12 ⟨d0, rfl, d0g, Hd0, hb0⟩
  have hb : Below w11.heap.size w11 w12 := hb0
  have z12 : w11.heap.size ≤ w12.heap.size := hb.size
  replace R0 := R0.below hb (by omega)
  replace X0 := X0.below hb (by omega)
  replace O0 := O0.below hb (Nat.le_refl _)
  replace M1 := M1.below hb (Nat.le_refl _)
  replace Bt := Bt.trans (hb.mono (by omega))
  have d0l := Hd0.lt
  clear hb hb0
  clear pX0
  have pX0 := X0.cell 0
  go_wp2_with fail
  refine (hg _ _ w12.heap.size w12 (blk_rd Hd0 hn0) (Nat.le_refl _)).mono ?_
  rintro e w13 ⟨v2, he, O2, hb0⟩
  obtain ⟨A2, c2, hv, _⟩ := O2.form
  subst hv
  subst he
  have og2 := fun k h => (O2.lt k h).1
  have ol2 := fun k h => (O2.lt k h).2
  have hb : Below w12.heap.size w12 w13 := hb0
  have z13 : w12.heap.size ≤ w13.heap.size := hb.size
  replace R0 := R0.below hb (by omega)
  replace X0 := X0.below hb (by omega)
  replace O0 := O0.below hb (Nat.le_refl _)
  replace M1 := M1.below hb (Nat.le_refl _)
  replace Hd0 := Hd0.below hb (by omega)
  replace Bt := Bt.trans (hb.mono (by omega))
  clear hb hb0
  clear pX0
  have pX0 := X0.cell 0
  go_wp2_with fail
  refine (eqIntS_new _ _ _ _ zs0 zs0 _ _ w13 O2.rd O0.rd hz0).mono ?_
  rintro e w14 ⟨rfl, hb0⟩
  have hb : Below w13.heap.size w13 w14 := hb0
  have z14 : w13.heap.size ≤ w14.heap.size := hb.size
  replace R0 := R0.below hb (by omega)
  replace X0 := X0.below hb (by omega)
  replace O0 := O0.below hb (Nat.le_refl _)
  replace M1 := M1.below hb (Nat.le_refl _)
  replace Hd0 := Hd0.below hb (by omega)
  replace O2 := O2.below hb (Nat.le_refl _)
  replace Bt := Bt.trans (hb.mono (by omega))
  rw [eqB_self]
  clear hb hb0
  clear pX0
  have pX0 := X0.cell 0
  go_wp2_with fail
  refine (heldIntS_any _ _ (1) _ w14 M1 hz0 (by omega) (by omega)).mono ?_
  rintro e wh ⟨rfl, rfl⟩
  go_wp2_with fail
  go_ret
  exact ⟨rfl, Bt⟩

end Go.Proofs.Ytmiojofeoaocfaa
