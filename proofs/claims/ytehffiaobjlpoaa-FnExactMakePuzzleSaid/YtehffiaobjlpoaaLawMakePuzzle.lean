/- The law FnExactMakePuzzle: its walk, given what the two functions leave. -/
import Derived.Test.YtehffiaobjlpoaaPzM
import Derived.Test.YtehffiaobjlpoaaMarkS
import Derived.Deep.RegionHeld3
namespace Go.Proofs.Ytehffiaobjlpoaa
open Go.RowKit
set_option maxRecDepth 100000

set_option maxHeartbeats 4000000 in
theorem makePuzzle_walk (st : Int) (A A' : Option Addr) (c c' : Nat) (ss bs : List Int) (n1 : Int) (n2 : Int) (qs : List Tri) (r1 : Bool) (hz0 : qs.length ≤ 1048576) (w0 : World) (R0 : St w0 w0.heap.size st A A' c c' ss bs) (hn0 : ss.length + bs.length ≤ 1048576)
    (hf : ∀ (A A' : Option Addr) (c c' B : Nat) (w : World), St w B st A A' c c' ss bs → B ≤ w.heap.size → Calls Try.prog 25 #[stv st A A' c c' ss bs, .int .i64 n1, .int .i64 n2] w ((fun w => NewP w qs r1) w))
    (hg : ∀ (A A' : Option Addr) (c c' B : Nat) (w : World), St w B st A A' c c' ss bs → B ≤ w.heap.size → Calls Try.prog 27 #[stv st A A' c c' ss bs, .int .i64 n1, .int .i64 n2] w ((fun w => NewP w qs r1) w)) :
    Calls Try.prog 6 #[stv st A A' c c' ss bs, .int .i64 n1, .int .i64 n2] w0 fun e w' => e = .returned (.bool true) ∧ Below w0.heap.size w0 w' := by
  have X0 : Blk (w0.alloc (.cells #[.int .i64 st, .slice A ss.length c, .slice A' bs.length c'] 35)) w0.heap.size 35 #[.int .i64 st, .slice A ss.length c, .slice A' bs.length c'] := Blk.new _ _ _
  have Bt : Below w0.heap.size w0 w0 := Below.refl _ _
  have hns := R0.ns
  have hnb := R0.nb
  go_enter Try.func6, Try.ntmps6
  go_wp2_with fail
  refine (szStairs_yes _ _ _ _ _ _ _ _ hn0).mono ?_
  rintro e w1 ⟨rfl, hb0⟩
  have hb : Below w0.heap.size w0 w1 := (below_alloc _ _).trans (hb0.mono (by simp))
  replace X0 := X0.below hb0 (by simp)
  have z1 : w0.heap.size + 1 ≤ w1.heap.size := by have := X0.lt; omega
  replace R0 := R0.below hb (Nat.le_refl _)
  replace Bt := Bt.trans hb
  clear hb hb0
  obtain ⟨pX00, pX01, pX02⟩ := X0.three
  have lX0 := X0.lt
  go_wp2_with fail
  refine (toStairs_any st A A' c c' ss bs w0.heap.size w1 R0 (by omega)).mono ?_
  rintro e w2 ⟨a0, a0', rfl, a0g, a0gg, Ha0, Ha0', hb0⟩
  have hb : Below w1.heap.size w1 w2 := hb0
  have z2 : w1.heap.size ≤ w2.heap.size := hb.size
  replace R0 := R0.below hb (by omega)
  replace X0 := X0.below hb (by omega)
  replace Bt := Bt.trans (hb.mono (by omega))
  have a0l := Ha0.lt
  have a0l' := Ha0'.lt
  clear hb hb0
  clear pX00 pX01 pX02 lX0
  obtain ⟨pX00, pX01, pX02⟩ := X0.three
  have lX0 := X0.lt
  go_wp2_with fail
  refine (hf _ _ _ _ w2.heap.size w2 (st_of_blks (st := st) Ha0 Ha0' hns hnb) (Nat.le_refl _)).mono ?_
  rintro e w3 ⟨v0, he, O0, hb0⟩
  obtain ⟨A0, c0, hv⟩ := O0.form
  subst hv
  subst he
  have og0 := fun k h => (O0.lt k h).1
  have ol0 := fun k h => (O0.lt k h).2
  have hb : Below w2.heap.size w2 w3 := hb0
  have z3 : w2.heap.size ≤ w3.heap.size := hb.size
  replace R0 := R0.below hb (by omega)
  replace X0 := X0.below hb (by omega)
  replace Ha0 := Ha0.below hb (by omega)
  replace Ha0' := Ha0'.below hb (by omega)
  replace Bt := Bt.trans (hb.mono (by omega))
  clear hb hb0
  clear pX00 pX01 pX02 lX0
  obtain ⟨pX00, pX01, pX02⟩ := X0.three
  have lX0 := X0.lt
  clear Ha0
  clear Ha0'
  have XW : Blk (w3.alloc (.cells #[.slice A0 qs.length c0] 52)) w3.heap.size 52 #[.slice A0 qs.length c0] := Blk.new _ _ _
  have hb : Below w3.heap.size w3 (w3.alloc (.cells #[.slice A0 qs.length c0] 52)) := below_alloc _ _
  replace R0 := R0.below hb (by omega)
  replace X0 := X0.below hb (by omega)
  replace O0 := O0.below hb (Nat.le_refl _)
  replace Bt := Bt.trans (hb.mono (by omega))
  clear pX00 pX01 pX02 lX0
  obtain ⟨pX00, pX01, pX02⟩ := X0.three
  have lX0 := X0.lt
  go_wp2_with fail
  generalize hWe : (w3.alloc (.cells #[.slice A0 qs.length c0] 52)) = w4 at *
  replace hWe := trivial
  clear hWe
  have z4 : w3.heap.size + 1 ≤ w4.heap.size := by have := XW.lt; omega
  clear hb
  clear pX00 pX01 pX02 lX0
  obtain ⟨pX00, pX01, pX02⟩ := X0.three
  have lX0 := X0.lt
  have pXW := XW.cell 0
  have lXW := XW.lt
  refine (toStairs_any st A A' c c' ss bs w0.heap.size w4 R0 (by omega)).mono ?_
  rintro e w5 ⟨b0, b0', rfl, b0g, b0gg, Hb0, Hb0', hb0⟩
  have hb : Below w4.heap.size w4 w5 := hb0
  have z5 : w4.heap.size ≤ w5.heap.size := hb.size
  replace R0 := R0.below hb (by omega)
  replace X0 := X0.below hb (by omega)
  replace O0 := O0.below hb (Nat.le_refl _)
  replace XW := XW.below hb (by omega)
  replace Bt := Bt.trans (hb.mono (by omega))
  have b0l := Hb0.lt
  have b0l' := Hb0'.lt
  clear hb hb0
  clear pX00 pX01 pX02 lX0
  obtain ⟨pX00, pX01, pX02⟩ := X0.three
  have lX0 := X0.lt
  clear pXW lXW
  have pXW := XW.cell 0
  have lXW := XW.lt
  have X1 : Blk (w5.alloc (.cells #[.int .i64 st, .slice (some ⟨b0, 0, none⟩) ss.length ss.length, .slice (some ⟨b0', 0, none⟩) bs.length bs.length] 24)) w5.heap.size 24 #[.int .i64 st, .slice (some ⟨b0, 0, none⟩) ss.length ss.length, .slice (some ⟨b0', 0, none⟩) bs.length bs.length] := Blk.new _ _ _
  have hb : Below w5.heap.size w5 (w5.alloc (.cells #[.int .i64 st, .slice (some ⟨b0, 0, none⟩) ss.length ss.length, .slice (some ⟨b0', 0, none⟩) bs.length bs.length] 24)) := below_alloc _ _
  replace R0 := R0.below hb (by omega)
  replace X0 := X0.below hb (by omega)
  replace O0 := O0.below hb (Nat.le_refl _)
  replace XW := XW.below hb (by omega)
  replace Hb0 := Hb0.below hb (by omega)
  replace Hb0' := Hb0'.below hb (by omega)
  replace Bt := Bt.trans (hb.mono (by omega))
  clear pX00 pX01 pX02 lX0
  obtain ⟨pX00, pX01, pX02⟩ := X0.three
  have lX0 := X0.lt
  clear pXW lXW
  have pXW := XW.cell 0
  have lXW := XW.lt
  go_wp2_with fail
  generalize hWe : (w5.alloc (.cells #[.int .i64 st, .slice (some ⟨b0, 0, none⟩) ss.length ss.length, .slice (some ⟨b0', 0, none⟩) bs.length bs.length] 24)) = w6 at *
  replace hWe := trivial
  clear hWe
  have z6 : w5.heap.size + 1 ≤ w6.heap.size := by have := X1.lt; omega
  clear hb
  clear pX00 pX01 pX02 lX0
  obtain ⟨pX00, pX01, pX02⟩ := X0.three
  have lX0 := X0.lt
  clear pXW lXW
  have pXW := XW.cell 0
  have lXW := XW.lt
  obtain ⟨pX10, pX11, pX12⟩ := X1.three
  have lX1 := X1.lt
  refine (hg _ _ _ _ w6.heap.size w6 (st_of_blks (st := st) Hb0 Hb0' hns hnb) (Nat.le_refl _)).mono ?_
  rintro e w7 ⟨v1, he, O1, hb0⟩
  obtain ⟨A1, c1, hv⟩ := O1.form
  subst hv
  subst he
  have og1 := fun k h => (O1.lt k h).1
  have ol1 := fun k h => (O1.lt k h).2
  have hb : Below w6.heap.size w6 w7 := hb0
  have z7 : w6.heap.size ≤ w7.heap.size := hb.size
  replace R0 := R0.below hb (by omega)
  replace X0 := X0.below hb (by omega)
  replace O0 := O0.below hb (Nat.le_refl _)
  replace XW := XW.below hb (by omega)
  replace Hb0 := Hb0.below hb (by omega)
  replace Hb0' := Hb0'.below hb (by omega)
  replace X1 := X1.below hb (by omega)
  replace Bt := Bt.trans (hb.mono (by omega))
  clear hb hb0
  clear pX00 pX01 pX02 lX0
  obtain ⟨pX00, pX01, pX02⟩ := X0.three
  have lX0 := X0.lt
  clear pXW lXW
  have pXW := XW.cell 0
  have lXW := XW.lt
  clear pX10 pX11 pX12 lX1
  obtain ⟨pX10, pX11, pX12⟩ := X1.three
  have lX1 := X1.lt
  have XG : Blk (w7.alloc (.cells #[.slice A1 qs.length c1] 52)) w7.heap.size 52 #[.slice A1 qs.length c1] := Blk.new _ _ _
  have hb : Below w7.heap.size w7 (w7.alloc (.cells #[.slice A1 qs.length c1] 52)) := below_alloc _ _
  replace R0 := R0.below hb (by omega)
  replace X0 := X0.below hb (by omega)
  replace O0 := O0.below hb (Nat.le_refl _)
  replace XW := XW.below hb (by omega)
  replace Hb0 := Hb0.below hb (by omega)
  replace Hb0' := Hb0'.below hb (by omega)
  replace X1 := X1.below hb (by omega)
  replace O1 := O1.below hb (Nat.le_refl _)
  replace Bt := Bt.trans (hb.mono (by omega))
  clear pX00 pX01 pX02 lX0
  obtain ⟨pX00, pX01, pX02⟩ := X0.three
  have lX0 := X0.lt
  clear pXW lXW
  have pXW := XW.cell 0
  have lXW := XW.lt
  clear pX10 pX11 pX12 lX1
  obtain ⟨pX10, pX11, pX12⟩ := X1.three
  have lX1 := X1.lt
  go_wp2_with fail
  generalize hWe : (w7.alloc (.cells #[.slice A1 qs.length c1] 52)) = w8 at *
  replace hWe := trivial
  clear hWe
  have z8 : w7.heap.size + 1 ≤ w8.heap.size := by have := XG.lt; omega
  clear hb
  clear pX00 pX01 pX02 lX0
  obtain ⟨pX00, pX01, pX02⟩ := X0.three
  have lX0 := X0.lt
  clear pXW lXW
  have pXW := XW.cell 0
  have lXW := XW.lt
  clear pX10 pX11 pX12 lX1
  obtain ⟨pX10, pX11, pX12⟩ := X1.three
  have lX1 := X1.lt
  have pXG := XG.cell 0
  have lXG := XG.lt
  refine (eqPuzzle_rd _ _ _ _ qs _ _ w8 O1.rd O0.rd (Nat.le_refl _) (Nat.le_refl _) hz0).mono ?_
  rintro e w9 ⟨rfl, hb0⟩
  have hb : Below w8.heap.size w8 w9 := hb0
  have z9 : w8.heap.size ≤ w9.heap.size := hb.size
  replace R0 := R0.below hb (by omega)
  replace X0 := X0.below hb (by omega)
  replace O0 := O0.below hb (Nat.le_refl _)
  replace XW := XW.below hb (by omega)
  replace Hb0 := Hb0.below hb (by omega)
  replace Hb0' := Hb0'.below hb (by omega)
  replace X1 := X1.below hb (by omega)
  replace O1 := O1.below hb (Nat.le_refl _)
  replace XG := XG.below hb (by omega)
  replace Bt := Bt.trans (hb.mono (by omega))
  clear hb hb0
  clear pX00 pX01 pX02 lX0
  obtain ⟨pX00, pX01, pX02⟩ := X0.three
  have lX0 := X0.lt
  clear pXW lXW
  have pXW := XW.cell 0
  have lXW := XW.lt
  clear pX10 pX11 pX12 lX1
  obtain ⟨pX10, pX11, pX12⟩ := X1.three
  have lX1 := X1.lt
  clear pXG lXG
  have pXG := XG.cell 0
  have lXG := XG.lt
  go_wp2_with fail
  go_region_held3 (fun u => u.cell? ⟨w5.heap.size, 0, none⟩ = some (.int .i64 st) ∧ u.cell? ⟨w5.heap.size, 1, none⟩ = some (.slice (some ⟨b0, 0, none⟩) ss.length ss.length) ∧ u.cell? ⟨w5.heap.size, 2, none⟩ = some (.slice (some ⟨b0', 0, none⟩) bs.length bs.length) ∧ u.cell? ⟨w0.heap.size, 0, none⟩ = some (.int .i64 st) ∧ u.cell? ⟨w0.heap.size, 1, none⟩ = some (.slice A ss.length c) ∧ u.cell? ⟨w0.heap.size, 2, none⟩ = some (.slice A' bs.length c')) (first | exact ⟨pX10, pX11, pX12, pX00, pX01, pX02⟩ | exact ⟨q10, q11, q12, q00, q01, q02⟩ | exact ⟨r10, r11, r12, r00, r01, r02⟩)
    (first
    | (go_at_call 26; (refine (toStairs_any st A A' c c' ss bs w0.heap.size w9.drew R0.drew (by show _ ≤ w9.heap.size; omega)).mono ?_); rintro e u1 ⟨m, m', rfl, mg, mgg, Hm, Hm', k1⟩; have h1 : Below w9.heap.size w9 u1 := below_undrew k1; obtain ⟨q10, q11, q12⟩ := (X1.below h1 X1.lt).three; obtain ⟨q00, q01, q02⟩ := (X0.below h1 X0.lt).three)
    | (go_at_call 28; (refine (eqStairs_any _ _ _ _ _ _ _ _ _ _ _ _ _ _ u1.heap.size _ (st_of_blks (Hb0.below h1 (by omega)) (Hb0'.below h1 (by omega)) hns hnb) (st_of_blks Hm Hm' hns hnb) (Nat.le_refl _)).mono ?_); rintro e w10 ⟨rfl, k2⟩; rw [eqSt_self]; have hb0 := h1.trans (k2.mono h1.size); obtain ⟨r10, r11, r12⟩ := (X1.below hb0 X1.lt).three; obtain ⟨r00, r01, r02⟩ := (X0.below hb0 X0.lt).three)
    | fail)
  have hb : Below w9.heap.size w9 w10 := hb0
  have z10 : w9.heap.size ≤ w10.heap.size := hb.size
  clear q10 q11 q12 q00 q01 q02 r10 r11 r12 r00 r01 r02 mg mgg Hm Hm' k1 k2 h1
  replace R0 := R0.below hb (by omega)
  replace X0 := X0.below hb (by omega)
  replace O0 := O0.below hb (Nat.le_refl _)
  replace XW := XW.below hb (by omega)
  replace Hb0 := Hb0.below hb (by omega)
  replace Hb0' := Hb0'.below hb (by omega)
  replace X1 := X1.below hb (by omega)
  replace O1 := O1.below hb (Nat.le_refl _)
  replace XG := XG.below hb (by omega)
  replace Bt := Bt.trans (hb.mono (by omega))
  clear hb hb0
  clear pX00 pX01 pX02 lX0
  obtain ⟨pX00, pX01, pX02⟩ := X0.three
  have lX0 := X0.lt
  clear pXW lXW
  have pXW := XW.cell 0
  have lXW := XW.lt
  clear pX10 pX11 pX12 lX1
  obtain ⟨pX10, pX11, pX12⟩ := X1.three
  have lX1 := X1.lt
  clear pXG lXG
  have pXG := XG.cell 0
  have lXG := XG.lt
  go_wp2_with fail
  refine (markStairs_any st _ _ ss bs 1 b0 b0' w10 (Hb0.own hns) (Hb0'.own hnb) (fun k h1 h2 => by simp [Value.ownBlock] at h1 h2; omega) hns hnb (by omega) (by omega)).mono ?_
  rintro e w11 ⟨rfl, _, _, ht⟩
  have hge : ∀ k ∈ rowL (.slice (some ⟨b0, 0, none⟩) ss.length ss.length) ++ rowL (.slice (some ⟨b0', 0, none⟩) bs.length bs.length), k = b0 ∨ k = b0' := fun k hk => by simpa [rowL_some] using hk
  clear Hb0
  clear Hb0'
  clear pX10 pX11 pX12 lX1
  clear X1
  have z11 : w10.heap.size ≤ w11.heap.size := ht.size
  replace R0 := R0.turned ht (by omega) (fun k hk => by have := hge k hk; omega)
  replace X0 := X0.turned ht (fun hk => by have := hge _ hk; omega)
  replace O0 := O0.turned ht (fun k hv hk => by have := hge k hk; have := ol0 k hv; omega)
  replace XW := XW.turned ht (fun hk => by have := hge _ hk; omega)
  replace O1 := O1.turned ht (fun k hv hk => by have := hge k hk; have := og1 k hv; omega)
  replace XG := XG.turned ht (fun hk => by have := hge _ hk; omega)
  replace Bt := Bt.trans (ht.below (by omega) (fun k hk => by have := hge k hk; omega))
  clear ht hge
  clear pX00 pX01 pX02 lX0
  obtain ⟨pX00, pX01, pX02⟩ := X0.three
  have lX0 := X0.lt
  clear pXW lXW
  have pXW := XW.cell 0
  have lXW := XW.lt
  clear pXG lXG
  have pXG := XG.cell 0
  have lXG := XG.lt
  go_wp2_with fail
  refine (eqPuzzle_rd _ _ _ _ qs _ _ w11 O1.rd O0.rd (Nat.le_refl _) (Nat.le_refl _) hz0).mono ?_
  rintro e w12 ⟨rfl, hb0⟩
  have hb : Below w11.heap.size w11 w12 := hb0
  have z12 : w11.heap.size ≤ w12.heap.size := hb.size
  replace R0 := R0.below hb (by omega)
  replace X0 := X0.below hb (by omega)
  replace O0 := O0.below hb (Nat.le_refl _)
  replace XW := XW.below hb (by omega)
  replace O1 := O1.below hb (Nat.le_refl _)
  replace XG := XG.below hb (by omega)
  replace Bt := Bt.trans (hb.mono (by omega))
  clear hb hb0
  clear pX00 pX01 pX02 lX0
  obtain ⟨pX00, pX01, pX02⟩ := X0.three
  have lX0 := X0.lt
  clear pXW lXW
  have pXW := XW.cell 0
  have lXW := XW.lt
  clear pXG lXG
  have pXG := XG.cell 0
  have lXG := XG.lt
  go_wp2_with fail
  refine (markPz_new _ qs 1 _ w12 O1 hz0 (by omega) (by omega)).mono ?_
  rintro e w13 ⟨rfl, M1, ht⟩
  have hge := fun k hk => og1 k (mem_rowL.1 hk)
  have hlt := fun k hk => ol1 k (mem_rowL.1 hk)
  clear O1
  have z13 : w12.heap.size ≤ w13.heap.size := ht.size
  replace R0 := R0.turned ht (by omega) (fun k hk => by have := hge k hk; omega)
  replace X0 := X0.turned ht (fun hk => by have := hge _ hk; have := hlt _ hk; omega)
  replace O0 := O0.turned ht (fun k hv hk => by have := hge k hk; have := ol0 k hv; omega)
  replace XW := XW.turned ht (fun hk => by have := hge _ hk; have := hlt _ hk; omega)
  replace XG := XG.turned ht (fun hk => by have := hge _ hk; have := hlt _ hk; omega)
  replace Bt := Bt.trans (ht.below (by omega) (fun k hk => by have := hge k hk; omega))
  clear ht hge
  clear pX00 pX01 pX02 lX0
  obtain ⟨pX00, pX01, pX02⟩ := X0.three
  have lX0 := X0.lt
  clear pXW lXW
  have pXW := XW.cell 0
  have lXW := XW.lt
  clear pXG lXG
  have pXG := XG.cell 0
  have lXG := XG.lt
  clear hlt
  go_wp2_with fail
  refine (heldPz_any _ _ 1 _ w13 M1 hz0 (by omega) (by omega)).mono ?_
  rintro e w14 ⟨rfl, hb0⟩
  have hb : Below w13.heap.size w13 w14 := hb0
  have z14 : w13.heap.size ≤ w14.heap.size := hb.size
  replace R0 := R0.below hb (by omega)
  replace X0 := X0.below hb (by omega)
  replace O0 := O0.below hb (Nat.le_refl _)
  replace XW := XW.below hb (by omega)
  replace XG := XG.below hb (by omega)
  replace M1 := M1.below hb (Nat.le_refl _)
  replace Bt := Bt.trans (hb.mono (by omega))
  clear hb hb0
  clear pX00 pX01 pX02 lX0
  obtain ⟨pX00, pX01, pX02⟩ := X0.three
  have lX0 := X0.lt
  clear pXW lXW
  have pXW := XW.cell 0
  have lXW := XW.lt
  clear pXG lXG
  have pXG := XG.cell 0
  have lXG := XG.lt
  go_wp2_with fail
  refine (toStairs_any st A A' c c' ss bs w0.heap.size w14 R0 (by omega)).mono ?_
  rintro e w15 ⟨d0, d0', rfl, d0g, d0gg, Hd0, Hd0', hb0⟩
  have hb : Below w14.heap.size w14 w15 := hb0
  have z15 : w14.heap.size ≤ w15.heap.size := hb.size
  replace R0 := R0.below hb (by omega)
  replace X0 := X0.below hb (by omega)
  replace O0 := O0.below hb (Nat.le_refl _)
  replace XW := XW.below hb (by omega)
  replace XG := XG.below hb (by omega)
  replace M1 := M1.below hb (Nat.le_refl _)
  replace Bt := Bt.trans (hb.mono (by omega))
  have d0l := Hd0.lt
  have d0l' := Hd0'.lt
  clear hb hb0
  clear pX00 pX01 pX02 lX0
  obtain ⟨pX00, pX01, pX02⟩ := X0.three
  have lX0 := X0.lt
  clear pXW lXW
  have pXW := XW.cell 0
  have lXW := XW.lt
  clear pXG lXG
  have pXG := XG.cell 0
  have lXG := XG.lt
  go_wp2_with fail
  refine (hg _ _ _ _ w15.heap.size w15 (st_of_blks (st := st) Hd0 Hd0' hns hnb) (Nat.le_refl _)).mono ?_
  rintro e w16 ⟨v2, he, O2, hb0⟩
  obtain ⟨A2, c2, hv⟩ := O2.form
  subst hv
  subst he
  have og2 := fun k h => (O2.lt k h).1
  have ol2 := fun k h => (O2.lt k h).2
  have hb : Below w15.heap.size w15 w16 := hb0
  have z16 : w15.heap.size ≤ w16.heap.size := hb.size
  replace R0 := R0.below hb (by omega)
  replace X0 := X0.below hb (by omega)
  replace O0 := O0.below hb (Nat.le_refl _)
  replace XW := XW.below hb (by omega)
  replace XG := XG.below hb (by omega)
  replace M1 := M1.below hb (Nat.le_refl _)
  replace Hd0 := Hd0.below hb (by omega)
  replace Hd0' := Hd0'.below hb (by omega)
  replace Bt := Bt.trans (hb.mono (by omega))
  clear hb hb0
  clear pX00 pX01 pX02 lX0
  obtain ⟨pX00, pX01, pX02⟩ := X0.three
  have lX0 := X0.lt
  clear pXW lXW
  have pXW := XW.cell 0
  have lXW := XW.lt
  clear pXG lXG
  have pXG := XG.cell 0
  have lXG := XG.lt
  have XH : Blk (w16.alloc (.cells #[.slice A2 qs.length c2] 52)) w16.heap.size 52 #[.slice A2 qs.length c2] := Blk.new _ _ _
  have hb : Below w16.heap.size w16 (w16.alloc (.cells #[.slice A2 qs.length c2] 52)) := below_alloc _ _
  replace R0 := R0.below hb (by omega)
  replace X0 := X0.below hb (by omega)
  replace O0 := O0.below hb (Nat.le_refl _)
  replace XW := XW.below hb (by omega)
  replace XG := XG.below hb (by omega)
  replace M1 := M1.below hb (Nat.le_refl _)
  replace Hd0 := Hd0.below hb (by omega)
  replace Hd0' := Hd0'.below hb (by omega)
  replace O2 := O2.below hb (Nat.le_refl _)
  replace Bt := Bt.trans (hb.mono (by omega))
  clear pX00 pX01 pX02 lX0
  obtain ⟨pX00, pX01, pX02⟩ := X0.three
  have lX0 := X0.lt
  clear pXW lXW
  have pXW := XW.cell 0
  have lXW := XW.lt
  clear pXG lXG
  have pXG := XG.cell 0
  have lXG := XG.lt
  go_wp2_with fail
  generalize hWe : (w16.alloc (.cells #[.slice A2 qs.length c2] 52)) = w17 at *
  replace hWe := trivial
  clear hWe
  have z17 : w16.heap.size + 1 ≤ w17.heap.size := by have := XH.lt; omega
  clear hb
  clear pX00 pX01 pX02 lX0
  obtain ⟨pX00, pX01, pX02⟩ := X0.three
  have lX0 := X0.lt
  clear pXW lXW
  have pXW := XW.cell 0
  have lXW := XW.lt
  clear pXG lXG
  have pXG := XG.cell 0
  have lXG := XG.lt
  have pXH := XH.cell 0
  have lXH := XH.lt
  refine (eqPuzzle_rd _ _ _ _ qs _ _ w17 O2.rd O0.rd (Nat.le_refl _) (Nat.le_refl _) hz0).mono ?_
  rintro e w18 ⟨rfl, hb0⟩
  have hb : Below w17.heap.size w17 w18 := hb0
  have z18 : w17.heap.size ≤ w18.heap.size := hb.size
  replace R0 := R0.below hb (by omega)
  replace X0 := X0.below hb (by omega)
  replace O0 := O0.below hb (Nat.le_refl _)
  replace XW := XW.below hb (by omega)
  replace XG := XG.below hb (by omega)
  replace M1 := M1.below hb (Nat.le_refl _)
  replace Hd0 := Hd0.below hb (by omega)
  replace Hd0' := Hd0'.below hb (by omega)
  replace O2 := O2.below hb (Nat.le_refl _)
  replace XH := XH.below hb (by omega)
  replace Bt := Bt.trans (hb.mono (by omega))
  clear hb hb0
  clear pX00 pX01 pX02 lX0
  obtain ⟨pX00, pX01, pX02⟩ := X0.three
  have lX0 := X0.lt
  clear pXW lXW
  have pXW := XW.cell 0
  have lXW := XW.lt
  clear pXG lXG
  have pXG := XG.cell 0
  have lXG := XG.lt
  clear pXH lXH
  have pXH := XH.cell 0
  have lXH := XH.lt
  go_wp2_with fail
  refine (heldPz_any _ _ 1 _ w18 M1 hz0 (by omega) (by omega)).mono ?_
  rintro e w19 ⟨rfl, hb0⟩
  have hb : Below w18.heap.size w18 w19 := hb0
  have z19 : w18.heap.size ≤ w19.heap.size := hb.size
  replace R0 := R0.below hb (by omega)
  replace X0 := X0.below hb (by omega)
  replace O0 := O0.below hb (Nat.le_refl _)
  replace XW := XW.below hb (by omega)
  replace XG := XG.below hb (by omega)
  replace M1 := M1.below hb (Nat.le_refl _)
  replace Hd0 := Hd0.below hb (by omega)
  replace Hd0' := Hd0'.below hb (by omega)
  replace O2 := O2.below hb (Nat.le_refl _)
  replace XH := XH.below hb (by omega)
  replace Bt := Bt.trans (hb.mono (by omega))
  clear hb hb0
  clear pX00 pX01 pX02 lX0
  obtain ⟨pX00, pX01, pX02⟩ := X0.three
  have lX0 := X0.lt
  clear pXW lXW
  have pXW := XW.cell 0
  have lXW := XW.lt
  clear pXG lXG
  have pXG := XG.cell 0
  have lXG := XG.lt
  clear pXH lXH
  have pXH := XH.cell 0
  have lXH := XH.lt
  go_wp2_with fail
  go_ret
  exact ⟨rfl, Bt⟩

end Go.Proofs.Ytehffiaobjlpoaa
