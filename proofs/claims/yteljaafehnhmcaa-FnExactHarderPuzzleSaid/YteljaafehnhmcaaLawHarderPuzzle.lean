/- The law FnExactHarderPuzzle: its walk, given what the two functions leave. -/
import Derived.Test.YteljaafehnhmcaaPzM
import Derived.Deep.RegionHeld3
namespace Go.Proofs.Yteljaafehnhmcaa
open Go.RowKit
set_option maxRecDepth 100000

set_option maxHeartbeats 4000000 in
theorem harderPuzzle_walk (Z0 : Option Addr) (d0 : Nat) (ps0 : List Tri) (qs : List Tri) (r1 : Bool) (hz0 : qs.length ≤ 1048576) (w0 : World) (R0 : RdF w0 w0.heap.size Z0 d0 ps0) (hn0 : ps0.length ≤ 1048576)
    (hf : ∀ (A : Option Addr) (c B : Nat) (w : World), RdF w B A c ps0 → B ≤ w.heap.size → Calls Try.prog 11 #[pzv A ps0.length c] w ((fun w => NewP w qs r1) w))
    (hg : ∀ (A : Option Addr) (c B : Nat) (w : World), RdF w B A c ps0 → B ≤ w.heap.size → Calls Try.prog 12 #[pzv A ps0.length c] w ((fun w => NewP w qs r1) w)) :
    Calls Try.prog 4 #[pzv Z0 ps0.length d0] w0 fun e w' => e = .returned (.bool true) ∧ Below w0.heap.size w0 w' := by
  have X0 : Blk (w0.alloc (.cells #[.slice Z0 ps0.length d0] 24)) w0.heap.size 24 #[.slice Z0 ps0.length d0] := Blk.new _ _ _
  have Bt : Below w0.heap.size w0 w0 := Below.refl _ _
  go_enter Try.func4, Try.ntmps4
  go_wp2_with fail
  refine (szPuzzle_yes _ _ _ _ hn0).mono ?_
  rintro e w1 ⟨rfl, hb0⟩
  have hb : Below w0.heap.size w0 w1 := (below_alloc _ _).trans (hb0.mono (by simp))
  replace X0 := X0.below hb0 (by simp)
  have z1 : w0.heap.size + 1 ≤ w1.heap.size := by have := X0.lt; omega
  replace R0 := R0.below hb (Nat.le_refl _)
  replace Bt := Bt.trans hb
  clear hb hb0
  have pX0 := X0.cell 0
  go_wp2_with fail
  refine (toPuzzle_any Z0 d0 ps0 w0.heap.size w1 R0 (by omega) hn0).mono ?_
  rintro e w2 ⟨a0, rfl, a0g, Ha0, hb0⟩
  have hb : Below w1.heap.size w1 w2 := hb0
  have z2 : w1.heap.size ≤ w2.heap.size := hb.size
  replace R0 := R0.below hb (by omega)
  replace X0 := X0.below hb (by omega)
  replace Bt := Bt.trans (hb.mono (by omega))
  have a0l := Ha0.lt
  clear hb hb0
  clear pX0
  have pX0 := X0.cell 0
  go_wp2_with fail
  refine (hf _ _ w2.heap.size w2 (blk_rd Ha0 hn0) (Nat.le_refl _)).mono ?_
  rintro e w3 ⟨v0, he, O0, hb0⟩
  obtain ⟨A0, c0, hv⟩ := O0.form
  subst hv
  subst he
  have og0 := fun k h => (O0.lt k h).1
  have ol0 := fun k h => (O0.lt k h).2
  have hb : Below w2.heap.size w2 w3 := hb0
  have z3 : w2.heap.size ≤ w3.heap.size := hb.size
  replace R0 := R0.below hb (by omega)
  replace X0 := X0.below hb (by omega)
  replace Ha0 := Ha0.below hb (by omega)
  replace Bt := Bt.trans (hb.mono (by omega))
  clear hb hb0
  clear pX0
  have pX0 := X0.cell 0
  clear Ha0
  have XW : Blk (w3.alloc (.cells #[.slice A0 qs.length c0] 30)) w3.heap.size 30 #[.slice A0 qs.length c0] := Blk.new _ _ _
  have hb : Below w3.heap.size w3 (w3.alloc (.cells #[.slice A0 qs.length c0] 30)) := below_alloc _ _
  replace R0 := R0.below hb (by omega)
  replace X0 := X0.below hb (by omega)
  replace O0 := O0.below hb (Nat.le_refl _)
  replace Bt := Bt.trans (hb.mono (by omega))
  clear pX0
  have pX0 := X0.cell 0
  go_wp2_with fail
  generalize hWe : (w3.alloc (.cells #[.slice A0 qs.length c0] 30)) = w4 at *
  replace hWe := trivial
  clear hWe
  have z4 : w3.heap.size + 1 ≤ w4.heap.size := by have := XW.lt; omega
  clear hb
  clear pX0
  have pX0 := X0.cell 0
  have pXW := XW.cell 0
  refine (toPuzzle_any Z0 d0 ps0 w0.heap.size w4 R0 (by omega) hn0).mono ?_
  rintro e w5 ⟨b0, rfl, b0g, Hb0, hb0⟩
  have hb : Below w4.heap.size w4 w5 := hb0
  have z5 : w4.heap.size ≤ w5.heap.size := hb.size
  replace R0 := R0.below hb (by omega)
  replace X0 := X0.below hb (by omega)
  replace O0 := O0.below hb (Nat.le_refl _)
  replace XW := XW.below hb (by omega)
  replace Bt := Bt.trans (hb.mono (by omega))
  have b0l := Hb0.lt
  clear hb hb0
  clear pX0
  have pX0 := X0.cell 0
  clear pXW
  have pXW := XW.cell 0
  have X1 : Blk (w5.alloc (.cells #[.slice (some ⟨b0, 0, none⟩) ps0.length ps0.length] 30)) w5.heap.size 30 #[.slice (some ⟨b0, 0, none⟩) ps0.length ps0.length] := Blk.new _ _ _
  have hb : Below w5.heap.size w5 (w5.alloc (.cells #[.slice (some ⟨b0, 0, none⟩) ps0.length ps0.length] 30)) := below_alloc _ _
  replace R0 := R0.below hb (by omega)
  replace X0 := X0.below hb (by omega)
  replace O0 := O0.below hb (Nat.le_refl _)
  replace XW := XW.below hb (by omega)
  replace Hb0 := Hb0.below hb (by omega)
  replace Bt := Bt.trans (hb.mono (by omega))
  clear pX0
  have pX0 := X0.cell 0
  clear pXW
  have pXW := XW.cell 0
  go_wp2_with fail
  generalize hWe : (w5.alloc (.cells #[.slice (some ⟨b0, 0, none⟩) ps0.length ps0.length] 30)) = w6 at *
  replace hWe := trivial
  clear hWe
  have z6 : w5.heap.size + 1 ≤ w6.heap.size := by have := X1.lt; omega
  clear hb
  clear pX0
  have pX0 := X0.cell 0
  clear pXW
  have pXW := XW.cell 0
  have pX1 := X1.cell 0
  refine (hg _ _ w6.heap.size w6 (blk_rd Hb0 hn0) (Nat.le_refl _)).mono ?_
  rintro e w7 ⟨v1, he, O1, hb0⟩
  obtain ⟨A1, c1, hv⟩ := O1.form
  subst hv
  subst he
  have og1 := fun k h => (O1.lt k h).1
  have ol1 := fun k h => (O1.lt k h).2
  have hb : Below w6.heap.size w6 w7 := hb0
  have z7 : w6.heap.size ≤ w7.heap.size := hb.size
  replace R0 := R0.below hb (by omega)
  replace X0 := X0.below hb (by omega)
  replace O0 := O0.below hb (Nat.le_refl _)
  replace XW := XW.below hb (by omega)
  replace Hb0 := Hb0.below hb (by omega)
  replace X1 := X1.below hb (by omega)
  replace Bt := Bt.trans (hb.mono (by omega))
  clear hb hb0
  clear pX0
  have pX0 := X0.cell 0
  clear pXW
  have pXW := XW.cell 0
  clear pX1
  have pX1 := X1.cell 0
  have XG : Blk (w7.alloc (.cells #[.slice A1 qs.length c1] 30)) w7.heap.size 30 #[.slice A1 qs.length c1] := Blk.new _ _ _
  have hb : Below w7.heap.size w7 (w7.alloc (.cells #[.slice A1 qs.length c1] 30)) := below_alloc _ _
  replace R0 := R0.below hb (by omega)
  replace X0 := X0.below hb (by omega)
  replace O0 := O0.below hb (Nat.le_refl _)
  replace XW := XW.below hb (by omega)
  replace Hb0 := Hb0.below hb (by omega)
  replace X1 := X1.below hb (by omega)
  replace O1 := O1.below hb (Nat.le_refl _)
  replace Bt := Bt.trans (hb.mono (by omega))
  clear pX0
  have pX0 := X0.cell 0
  clear pXW
  have pXW := XW.cell 0
  clear pX1
  have pX1 := X1.cell 0
  go_wp2_with fail
  generalize hWe : (w7.alloc (.cells #[.slice A1 qs.length c1] 30)) = w8 at *
  replace hWe := trivial
  clear hWe
  have z8 : w7.heap.size + 1 ≤ w8.heap.size := by have := XG.lt; omega
  clear hb
  clear pX0
  have pX0 := X0.cell 0
  clear pXW
  have pXW := XW.cell 0
  clear pX1
  have pX1 := X1.cell 0
  have pXG := XG.cell 0
  refine (eqPuzzle_rd _ _ _ _ qs _ _ w8 O1.rd O0.rd (Nat.le_refl _) (Nat.le_refl _) hz0).mono ?_
  rintro e w9 ⟨rfl, hb0⟩
  have hb : Below w8.heap.size w8 w9 := hb0
  have z9 : w8.heap.size ≤ w9.heap.size := hb.size
  replace R0 := R0.below hb (by omega)
  replace X0 := X0.below hb (by omega)
  replace O0 := O0.below hb (Nat.le_refl _)
  replace XW := XW.below hb (by omega)
  replace Hb0 := Hb0.below hb (by omega)
  replace X1 := X1.below hb (by omega)
  replace O1 := O1.below hb (Nat.le_refl _)
  replace XG := XG.below hb (by omega)
  replace Bt := Bt.trans (hb.mono (by omega))
  clear hb hb0
  clear pX0
  have pX0 := X0.cell 0
  clear pXW
  have pXW := XW.cell 0
  clear pX1
  have pX1 := X1.cell 0
  clear pXG
  have pXG := XG.cell 0
  go_wp2_with fail
  go_region_held3 (fun u => u.cell? ⟨w5.heap.size, 0, none⟩ = some (.slice (some ⟨b0, 0, none⟩) ps0.length ps0.length) ∧ u.cell? ⟨w0.heap.size, 0, none⟩ = some (.slice Z0 ps0.length d0)) (first | exact ⟨pX1, pX0⟩ | exact ⟨q1, q0⟩ | exact ⟨r1, r0⟩)
    (first
    | (go_at_call 8; (refine (toPuzzle_any Z0 d0 ps0 w0.heap.size w9.drew R0.drew (by show _ ≤ w9.heap.size; omega) hn0).mono ?_); rintro e u1 ⟨m, rfl, mg, Hm, k1⟩; have h1 : Below w9.heap.size w9 u1 := below_undrew k1; have q1 := (X1.below h1 X1.lt).cell 0; have q0 := (X0.below h1 X0.lt).cell 0)
    | (go_at_call 10; (refine (eqPuzzle_rd _ _ _ _ ps0 _ _ u1 (blk_rd (Hb0.below h1 Hb0.lt) hn0) (blk_rd Hm hn0) (Nat.le_refl _) (Nat.le_refl _) hn0).mono ?_); rintro e w10 ⟨rfl, k2⟩; have hb0 := h1.trans (k2.mono h1.size); have r1 := (X1.below hb0 X1.lt).cell 0; have r0 := (X0.below hb0 X0.lt).cell 0)
    | fail)
  have hb : Below w9.heap.size w9 w10 := hb0
  have z10 : w9.heap.size ≤ w10.heap.size := hb.size
  clear q1 q0 r1 r0 mg Hm k1 k2 h1
  replace R0 := R0.below hb (by omega)
  replace X0 := X0.below hb (by omega)
  replace O0 := O0.below hb (Nat.le_refl _)
  replace XW := XW.below hb (by omega)
  replace Hb0 := Hb0.below hb (by omega)
  replace X1 := X1.below hb (by omega)
  replace O1 := O1.below hb (Nat.le_refl _)
  replace XG := XG.below hb (by omega)
  replace Bt := Bt.trans (hb.mono (by omega))
  clear hb hb0
  clear pX0
  have pX0 := X0.cell 0
  clear pXW
  have pXW := XW.cell 0
  clear pX1
  have pX1 := X1.cell 0
  clear pXG
  have pXG := XG.cell 0
  go_wp2_with fail
  refine (markPz_new _ ps0 1 b0 w10 (blk_own Hb0 hn0) hn0 (by omega) (by omega)).mono ?_
  rintro e w11 ⟨rfl, _, ht⟩
  have hge : ∀ k ∈ rowL (.slice (some ⟨b0, 0, none⟩) ps0.length ps0.length), k = b0 := fun k hk => by simpa [rowL_some] using hk
  clear Hb0
  clear pX1
  clear X1
  have z11 : w10.heap.size ≤ w11.heap.size := ht.size
  replace R0 := R0.turned ht (by omega) (fun k hk => by have := hge k hk; omega)
  replace X0 := X0.turned ht (fun hk => by have := hge _ hk; omega)
  replace O0 := O0.turned ht (fun k hv hk => by have := hge k hk; have := ol0 k hv; omega)
  replace XW := XW.turned ht (fun hk => by have := hge _ hk; omega)
  replace O1 := O1.turned ht (fun k hv hk => by have := hge k hk; have := og1 k hv; omega)
  replace XG := XG.turned ht (fun hk => by have := hge _ hk; omega)
  replace Bt := Bt.trans (ht.below (by omega) (fun k hk => by have := hge k hk; omega))
  clear ht hge
  clear pX0
  have pX0 := X0.cell 0
  clear pXW
  have pXW := XW.cell 0
  clear pXG
  have pXG := XG.cell 0
  go_wp2_with fail
  refine (eqPuzzle_rd _ _ _ _ qs _ _ w11 O1.rd O0.rd (Nat.le_refl _) (Nat.le_refl _) hz0).mono ?_
  rintro e w12 ⟨rfl, hb0⟩
  have hb : Below w11.heap.size w11 w12 := hb0
  have z12 : w11.heap.size ≤ w12.heap.size := hb.size
  replace R0 := R0.below hb (by omega)
  replace X0 := X0.below hb (by omega)
  replace O0 := O0.below hb (Nat.le_refl _)
  replace XW := XW.below hb (by omega)
  replace O1 := O1.below hb (Nat.le_refl _)
  replace XG := XG.below hb (by omega)
  replace Bt := Bt.trans (hb.mono (by omega))
  clear hb hb0
  clear pX0
  have pX0 := X0.cell 0
  clear pXW
  have pXW := XW.cell 0
  clear pXG
  have pXG := XG.cell 0
  go_wp2_with fail
  refine (markPz_new _ qs 1 _ w12 O1 hz0 (by omega) (by omega)).mono ?_
  rintro e w13 ⟨rfl, M1, ht⟩
  have hge := fun k hk => og1 k (mem_rowL.1 hk)
  have hlt := fun k hk => ol1 k (mem_rowL.1 hk)
  clear O1
  have z13 : w12.heap.size ≤ w13.heap.size := ht.size
  replace R0 := R0.turned ht (by omega) (fun k hk => by have := hge k hk; omega)
  replace X0 := X0.turned ht (fun hk => by have := hge _ hk; have := hlt _ hk; omega)
  replace O0 := O0.turned ht (fun k hv hk => by have := hge k hk; have := ol0 k hv; omega)
  replace XW := XW.turned ht (fun hk => by have := hge _ hk; have := hlt _ hk; omega)
  replace XG := XG.turned ht (fun hk => by have := hge _ hk; have := hlt _ hk; omega)
  replace Bt := Bt.trans (ht.below (by omega) (fun k hk => by have := hge k hk; omega))
  clear ht hge
  clear pX0
  have pX0 := X0.cell 0
  clear pXW
  have pXW := XW.cell 0
  clear pXG
  have pXG := XG.cell 0
  clear hlt
  go_wp2_with fail
  refine (heldPz_any _ _ 1 _ w13 M1 hz0 (by omega) (by omega)).mono ?_
  rintro e w14 ⟨rfl, hb0⟩
  have hb : Below w13.heap.size w13 w14 := hb0
  have z14 : w13.heap.size ≤ w14.heap.size := hb.size
  replace R0 := R0.below hb (by omega)
  replace X0 := X0.below hb (by omega)
  replace O0 := O0.below hb (Nat.le_refl _)
  replace XW := XW.below hb (by omega)
  replace XG := XG.below hb (by omega)
  replace M1 := M1.below hb (Nat.le_refl _)
  replace Bt := Bt.trans (hb.mono (by omega))
  clear hb hb0
  clear pX0
  have pX0 := X0.cell 0
  clear pXW
  have pXW := XW.cell 0
  clear pXG
  have pXG := XG.cell 0
  go_wp2_with fail
  refine (toPuzzle_any Z0 d0 ps0 w0.heap.size w14 R0 (by omega) hn0).mono ?_
  rintro e w15 ⟨d0, rfl, d0g, Hd0, hb0⟩
  have hb : Below w14.heap.size w14 w15 := hb0
  have z15 : w14.heap.size ≤ w15.heap.size := hb.size
  replace R0 := R0.below hb (by omega)
  replace X0 := X0.below hb (by omega)
  replace O0 := O0.below hb (Nat.le_refl _)
  replace XW := XW.below hb (by omega)
  replace XG := XG.below hb (by omega)
  replace M1 := M1.below hb (Nat.le_refl _)
  replace Bt := Bt.trans (hb.mono (by omega))
  have d0l := Hd0.lt
  clear hb hb0
  clear pX0
  have pX0 := X0.cell 0
  clear pXW
  have pXW := XW.cell 0
  clear pXG
  have pXG := XG.cell 0
  go_wp2_with fail
  refine (hg _ _ w15.heap.size w15 (blk_rd Hd0 hn0) (Nat.le_refl _)).mono ?_
  rintro e w16 ⟨v2, he, O2, hb0⟩
  obtain ⟨A2, c2, hv⟩ := O2.form
  subst hv
  subst he
  have og2 := fun k h => (O2.lt k h).1
  have ol2 := fun k h => (O2.lt k h).2
  have hb : Below w15.heap.size w15 w16 := hb0
  have z16 : w15.heap.size ≤ w16.heap.size := hb.size
  replace R0 := R0.below hb (by omega)
  replace X0 := X0.below hb (by omega)
  replace O0 := O0.below hb (Nat.le_refl _)
  replace XW := XW.below hb (by omega)
  replace XG := XG.below hb (by omega)
  replace M1 := M1.below hb (Nat.le_refl _)
  replace Hd0 := Hd0.below hb (by omega)
  replace Bt := Bt.trans (hb.mono (by omega))
  clear hb hb0
  clear pX0
  have pX0 := X0.cell 0
  clear pXW
  have pXW := XW.cell 0
  clear pXG
  have pXG := XG.cell 0
  have XH : Blk (w16.alloc (.cells #[.slice A2 qs.length c2] 30)) w16.heap.size 30 #[.slice A2 qs.length c2] := Blk.new _ _ _
  have hb : Below w16.heap.size w16 (w16.alloc (.cells #[.slice A2 qs.length c2] 30)) := below_alloc _ _
  replace R0 := R0.below hb (by omega)
  replace X0 := X0.below hb (by omega)
  replace O0 := O0.below hb (Nat.le_refl _)
  replace XW := XW.below hb (by omega)
  replace XG := XG.below hb (by omega)
  replace M1 := M1.below hb (Nat.le_refl _)
  replace Hd0 := Hd0.below hb (by omega)
  replace O2 := O2.below hb (Nat.le_refl _)
  replace Bt := Bt.trans (hb.mono (by omega))
  clear pX0
  have pX0 := X0.cell 0
  clear pXW
  have pXW := XW.cell 0
  clear pXG
  have pXG := XG.cell 0
  go_wp2_with fail
  generalize hWe : (w16.alloc (.cells #[.slice A2 qs.length c2] 30)) = w17 at *
  replace hWe := trivial
  clear hWe
  have z17 : w16.heap.size + 1 ≤ w17.heap.size := by have := XH.lt; omega
  clear hb
  clear pX0
  have pX0 := X0.cell 0
  clear pXW
  have pXW := XW.cell 0
  clear pXG
  have pXG := XG.cell 0
  have pXH := XH.cell 0
  refine (eqPuzzle_rd _ _ _ _ qs _ _ w17 O2.rd O0.rd (Nat.le_refl _) (Nat.le_refl _) hz0).mono ?_
  rintro e w18 ⟨rfl, hb0⟩
  have hb : Below w17.heap.size w17 w18 := hb0
  have z18 : w17.heap.size ≤ w18.heap.size := hb.size
  replace R0 := R0.below hb (by omega)
  replace X0 := X0.below hb (by omega)
  replace O0 := O0.below hb (Nat.le_refl _)
  replace XW := XW.below hb (by omega)
  replace XG := XG.below hb (by omega)
  replace M1 := M1.below hb (Nat.le_refl _)
  replace Hd0 := Hd0.below hb (by omega)
  replace O2 := O2.below hb (Nat.le_refl _)
  replace XH := XH.below hb (by omega)
  replace Bt := Bt.trans (hb.mono (by omega))
  clear hb hb0
  clear pX0
  have pX0 := X0.cell 0
  clear pXW
  have pXW := XW.cell 0
  clear pXG
  have pXG := XG.cell 0
  clear pXH
  have pXH := XH.cell 0
  go_wp2_with fail
  refine (heldPz_any _ _ 1 _ w18 M1 hz0 (by omega) (by omega)).mono ?_
  rintro e w19 ⟨rfl, hb0⟩
  have hb : Below w18.heap.size w18 w19 := hb0
  have z19 : w18.heap.size ≤ w19.heap.size := hb.size
  replace R0 := R0.below hb (by omega)
  replace X0 := X0.below hb (by omega)
  replace O0 := O0.below hb (Nat.le_refl _)
  replace XW := XW.below hb (by omega)
  replace XG := XG.below hb (by omega)
  replace M1 := M1.below hb (Nat.le_refl _)
  replace Hd0 := Hd0.below hb (by omega)
  replace O2 := O2.below hb (Nat.le_refl _)
  replace XH := XH.below hb (by omega)
  replace Bt := Bt.trans (hb.mono (by omega))
  clear hb hb0
  clear pX0
  have pX0 := X0.cell 0
  clear pXW
  have pXW := XW.cell 0
  clear pXG
  have pXG := XG.cell 0
  clear pXH
  have pXH := XH.cell 0
  go_wp2_with fail
  go_ret
  exact ⟨rfl, Bt⟩

end Go.Proofs.Yteljaafehnhmcaa
