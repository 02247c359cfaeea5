/- The law FnExactAddFloor: its walk, given what the two functions leave. -/
import Derived.Test.YtmamcjnehnknmaaHoNew
import Derived.Deep.RegionHeld3
namespace Go.Proofs.Ytmamcjnehnknmaa
open Go.RowKit

set_option maxHeartbeats 2000000 in
set_option maxRecDepth 100000 in
theorem addFloor_walk (A A' : Option Addr) (c c' : Nat) (ss bs : List Int) (nx ny : Int) (us vs : List Int) (ok : Bool) (hul : us.length ≤ 1048576) (hvl : vs.length ≤ 1048576) (w0 : World) (S : Ho w0 w0.heap.size A A' c c' ss bs) (hs : ss.length + bs.length ≤ 1048576)
    (hf : FHII 11 ss bs nx ny (SomeHo us vs ok)) (hg : FHII 13 ss bs nx ny (NewHo us vs ok)) :
    Calls Try.prog 3 #[.agg #[.slice A ss.length c, .slice A' bs.length c'], .int .i64 nx, .int .i64 ny] w0 fun e w' => e = .returned (.bool true) ∧ Below w0.heap.size w0 w' := by
  have X0 : Blk (w0.alloc (.cells #[.slice A ss.length c, .slice A' bs.length c'] 24)) w0.heap.size 24 #[.slice A ss.length c, .slice A' bs.length c'] := Blk.new _ _ _
  have Bt : Below w0.heap.size w0 w0 := Below.refl _ _
  have hns := S.ns
  have hnb := S.nb
  go_enter Try.func3, Try.ntmps3
  go_wp2_with fail
  refine (szHouse_yes _ _ _ _ _ _ _ hs).mono ?_
  rintro e w1 ⟨rfl, hb0⟩
  have hb : Below w0.heap.size w0 w1 := (below_alloc _ _).trans (hb0.mono (by simp))
  have z1 : w0.heap.size < w1.heap.size := by have := hb0.size; simp at this; omega
  replace S := S.below hb (Nat.le_refl _)
  replace Bt := Bt.trans hb
  replace X0 := X0.below hb0 (by simp)
  clear hb hb0
  obtain ⟨pX00, pX01⟩ := X0.two
  have lX0 := X0.lt
  go_wp2_with fail
  refine (toHouse_any A A' c c' ss bs w0.heap.size w1 S (by first | omega | (simp; omega))).mono ?_
  rintro e w2 ⟨a, a', rfl, ag0, agg, Ha, Ha', hb0⟩
  have ag : w1.heap.size ≤ a := by first | exact ag0 | (simp at ag0; omega)
  have hb : Below w1.heap.size w1 w2 := hb0
  have z2 : w1.heap.size ≤ w2.heap.size := hb.size
  replace S := S.below hb (by omega)
  replace X0 := X0.below hb (by omega)
  replace Bt := Bt.trans (hb.mono (by omega))
  clear ag0
  have al := Ha.lt
  have al' := Ha'.lt
  clear hb hb0
  clear pX00 pX01 lX0
  obtain ⟨pX00, pX01⟩ := X0.two
  have lX0 := X0.lt
  go_wp2_with fail
  refine (hf _ _ _ _ w2.heap.size w2 (ho_of_blks Ha Ha' hns hnb) (by first | exact Nat.le_refl _ | (simp; try omega))).mono ?_
  rintro e w3 ⟨E0, E0', e0, e0', rfl, T0, hb0⟩
  have hb : Below w2.heap.size w2 w3 := hb0
  have z3 : w2.heap.size ≤ w3.heap.size := hb.size
  replace S := S.below hb (by omega)
  replace X0 := X0.below hb (by omega)
  replace Ha := Ha.below hb (by omega)
  replace Ha' := Ha'.below hb (by omega)
  replace Bt := Bt.trans (hb.mono (by omega))
  clear hb hb0
  clear pX00 pX01 lX0
  obtain ⟨pX00, pX01⟩ := X0.two
  have lX0 := X0.lt
  clear Ha
  clear Ha'
  go_wp2_with fail
  refine (toHouse_any A A' c c' ss bs w0.heap.size (w3.alloc (.cells #[.slice E0 us.length e0, .slice E0' vs.length e0'] 26)) (S.below ((below_alloc _ _)) (by omega)) (by first | omega | (simp; omega))).mono ?_
  rintro e w4 ⟨b, b', rfl, bg0, bgg, Hb, Hb', hb0⟩
  have bg : w3.heap.size + 1 ≤ b := by simp at bg0; omega
  have hb : Below w3.heap.size w3 w4 := (below_alloc _ _).trans (hb0.mono (by simp; try omega))
  have z4 : w3.heap.size ≤ w4.heap.size := hb.size
  have za4 : w3.heap.size + 1 ≤ w4.heap.size := by have := hb0.size; simp at this; omega
  replace S := S.below hb (by omega)
  replace X0 := X0.below hb (by omega)
  replace T0 := T0.below hb (by omega)
  replace Bt := Bt.trans (hb.mono (by omega))
  have XW : Blk w4 (w3.heap.size) 26 #[.slice E0 us.length e0, .slice E0' vs.length e0'] := (Blk.new' (by simp)).below hb0 (by simp)
  clear bg0
  have bl := Hb.lt
  have bl' := Hb'.lt
  clear hb hb0
  clear pX00 pX01 lX0
  obtain ⟨pX00, pX01⟩ := X0.two
  have lX0 := X0.lt
  obtain ⟨pXW0, pXW1⟩ := XW.two
  have lXW := XW.lt
  go_wp2_with fail
  refine (hg _ _ _ _ w4.heap.size (w4.alloc (.cells #[.slice (some ⟨b, 0, none⟩) ss.length ss.length, .slice (some ⟨b', 0, none⟩) bs.length bs.length] 26)) ((ho_of_blks Hb Hb' hns hnb).below (below_alloc _ _) (Nat.le_refl _)) (by first | exact Nat.le_refl _ | (simp; try omega))).mono ?_
  rintro e w5 ⟨v1, v1', he, O1, O1', ap1, hb0⟩
  obtain ⟨A1, c1, hv, _⟩ := O1.form
  subst hv
  obtain ⟨A1', c1', hv, _⟩ := O1'.form
  subst hv
  subst he
  replace O1 := O1.mono (B' := w4.heap.size + 1) (by simp)
  replace O1' := O1'.mono (B' := w4.heap.size + 1) (by simp)
  have og1 := fun k h => (O1.lt k h).1
  have ol1 := fun k h => (O1.lt k h).2
  have og1' := fun k h => (O1'.lt k h).1
  have ol1' := fun k h => (O1'.lt k h).2
  have hb : Below w4.heap.size w4 w5 := (below_alloc _ _).trans (hb0.mono (by simp; try omega))
  have z5 : w4.heap.size ≤ w5.heap.size := hb.size
  have za5 : w4.heap.size + 1 ≤ w5.heap.size := by have := hb0.size; simp at this; omega
  replace S := S.below hb (by omega)
  replace X0 := X0.below hb (by omega)
  replace T0 := T0.below hb (by omega)
  replace XW := XW.below hb (by omega)
  replace Hb := Hb.below hb (by omega)
  replace Hb' := Hb'.below hb (by omega)
  replace Bt := Bt.trans (hb.mono (by omega))
  have X1 : Blk w5 (w4.heap.size) 26 #[.slice (some ⟨b, 0, none⟩) ss.length ss.length, .slice (some ⟨b', 0, none⟩) bs.length bs.length] := (Blk.new' (by simp)).below hb0 (by simp)
  clear hb hb0
  clear pX00 pX01 lX0
  obtain ⟨pX00, pX01⟩ := X0.two
  have lX0 := X0.lt
  clear pXW0 pXW1 lXW
  obtain ⟨pXW0, pXW1⟩ := XW.two
  have lXW := XW.lt
  obtain ⟨pX10, pX11⟩ := X1.two
  have lX1 := X1.lt
  go_wp2_with fail
  refine (eqHouse_any _ _ _ _ _ _ _ _ us vs us vs w5.heap.size (w5.alloc (.cells #[.slice A1 us.length c1, .slice A1' vs.length c1'] 26)) ((Ho.mk (O1.rd) (O1'.rd) hul hvl : Ho w5 w5.heap.size A1 A1' c1 c1' us vs).below (below_alloc _ _) (Nat.le_refl _)) ((T0.more (B' := w5.heap.size) (by omega)).below (below_alloc _ _) (Nat.le_refl _)) (by first | exact Nat.le_refl _ | simp)).mono ?_
  rintro e w6 ⟨rfl, hb0⟩
  have hb : Below w5.heap.size w5 w6 := (below_alloc _ _).trans (hb0.mono (by simp; try omega))
  have z6 : w5.heap.size ≤ w6.heap.size := hb.size
  have za6 : w5.heap.size + 1 ≤ w6.heap.size := by have := hb0.size; simp at this; omega
  replace S := S.below hb (by omega)
  replace X0 := X0.below hb (by omega)
  replace T0 := T0.below hb (by omega)
  replace XW := XW.below hb (by omega)
  replace Hb := Hb.below hb (by omega)
  replace Hb' := Hb'.below hb (by omega)
  replace X1 := X1.below hb (by omega)
  replace O1 := O1.below hb (Nat.le_refl _)
  replace O1' := O1'.below hb (Nat.le_refl _)
  replace Bt := Bt.trans (hb.mono (by omega))
  have XG : Blk w6 (w5.heap.size) 26 #[.slice A1 us.length c1, .slice A1' vs.length c1'] := (Blk.new' (by simp)).below hb0 (by simp)
  rw [eqHo_self]
  clear hb hb0
  clear pX00 pX01 lX0
  obtain ⟨pX00, pX01⟩ := X0.two
  have lX0 := X0.lt
  clear pXW0 pXW1 lXW
  obtain ⟨pXW0, pXW1⟩ := XW.two
  have lXW := XW.lt
  clear pX10 pX11 lX1
  obtain ⟨pX10, pX11⟩ := X1.two
  have lX1 := X1.lt
  obtain ⟨pXG0, pXG1⟩ := XG.two
  have lXG := XG.lt
  go_wp2_with fail
  go_region_held3 (fun w' => w'.cell? ⟨w4.heap.size, 0, none⟩ = some (.slice (some ⟨b, 0, none⟩) ss.length ss.length) ∧ w'.cell? ⟨w4.heap.size, 1, none⟩ = some (.slice (some ⟨b', 0, none⟩) bs.length bs.length) ∧
      w'.cell? ⟨w0.heap.size, 0, none⟩ = some (.slice A ss.length c) ∧ w'.cell? ⟨w0.heap.size, 1, none⟩ = some (.slice A' bs.length c'))
    (first | exact ⟨pX10, pX11, pX00, pX01⟩ | exact ⟨q0', q1', p0', p1'⟩ | exact ⟨q0'', q1'', p0'', p1''⟩)
    (first
      | (go_at_call 12
         go_must (refine (toHouse_any A A' c c' ss bs w0.heap.size w6.drew S.drew (by show _ ≤ w6.heap.size; omega)).mono ?_; rintro e w7 ⟨m, m', rfl, hm, hmm, hx6, hy6, hb6'⟩; have hb6 : Below w6.heap.size w6 w7 := below_undrew hb6'; have hz6 : w6.heap.size ≤ w7.heap.size := hb6.size; obtain ⟨p0', p1'⟩ := (X0.below hb6 (by omega)).two; obtain ⟨q0', q1'⟩ := (X1.below hb6 (by omega)).two))
      | (go_at_call 14
         go_must (refine (eqHouse_any _ _ _ _ _ _ _ _ _ _ _ _ w7.heap.size _ (ho_of_blks (Hb.below hb6 (by omega)) (Hb'.below hb6 (by omega)) hns hnb) (ho_of_blks hx6 hy6 hns hnb) (Nat.le_refl _)).mono ?_; rintro e w8 ⟨rfl, hb7⟩; rw [eqHo_self]; have hb : Below w6.heap.size w6 w8 := hb6.trans (hb7.mono (by omega)); obtain ⟨p0'', p1''⟩ := (X0.below hb (by omega)).two; obtain ⟨q0'', q1''⟩ := (X1.below hb (by omega)).two)))
  clear p0' p1' q0' q1' p0'' p1'' q0'' q1'' hx6 hy6 hm hmm hb6' hb6 hb7 hz6
  have z8 : w6.heap.size ≤ w8.heap.size := hb.size
  replace S := S.below hb (by omega)
  replace X0 := X0.below hb (by omega)
  replace T0 := T0.below hb (by omega)
  replace XW := XW.below hb (by omega)
  replace Hb := Hb.below hb (by omega)
  replace Hb' := Hb'.below hb (by omega)
  replace X1 := X1.below hb (by omega)
  replace O1 := O1.below hb (Nat.le_refl _)
  replace O1' := O1'.below hb (Nat.le_refl _)
  replace XG := XG.below hb (by omega)
  replace Bt := Bt.trans (hb.mono (by omega))
  clear hb
  clear pX00 pX01 lX0
  obtain ⟨pX00, pX01⟩ := X0.two
  have lX0 := X0.lt
  clear pXW0 pXW1 lXW
  obtain ⟨pXW0, pXW1⟩ := XW.two
  have lXW := XW.lt
  clear pX10 pX11 lX1
  obtain ⟨pX10, pX11⟩ := X1.two
  have lX1 := X1.lt
  clear pXG0 pXG1 lXG
  obtain ⟨pXG0, pXG1⟩ := XG.two
  have lXG := XG.lt
  go_wp2_with fail
  refine (markHouse_any _ _ ss bs 1 b b' w8 (Hb.own hns) (Hb'.own hnb) (fun k h1 h2 => by simp [Value.ownBlock] at h1 h2; omega) hns hnb (by omega) (by omega)).mono ?_
  rintro e w9 ⟨rfl, _, _, ht⟩
  have hge : ∀ k ∈ rowL (.slice (some ⟨b, 0, none⟩) ss.length ss.length) ++ rowL (.slice (some ⟨b', 0, none⟩) bs.length bs.length), k = b ∨ k = b' := fun k hk => by simpa [rowL_some] using hk
  clear Hb
  clear Hb'
  clear pX10 pX11 lX1
  clear X1
  have z9 : w8.heap.size ≤ w9.heap.size := ht.size
  replace S := S.turned ht (by omega) (fun k hk => by have := hge k hk; omega)
  replace X0 := X0.turned ht (fun hk => by have := hge _ hk; omega)
  replace T0 := T0.turned ht (by omega) (fun k hk => by have := hge k hk; omega)
  replace XW := XW.turned ht (fun hk => by have := hge _ hk; omega)
  replace O1 := O1.turned ht (fun k hv hk => by have := hge k hk; have := og1 k hv; omega)
  replace O1' := O1'.turned ht (fun k hv hk => by have := hge k hk; have := og1' k hv; omega)
  replace XG := XG.turned ht (fun hk => by have := hge _ hk; omega)
  replace Bt := Bt.trans (ht.below (by omega) (fun k hk => by have := hge k hk; omega))
  clear ht hge
  clear pX00 pX01 lX0
  obtain ⟨pX00, pX01⟩ := X0.two
  have lX0 := X0.lt
  clear pXW0 pXW1 lXW
  obtain ⟨pXW0, pXW1⟩ := XW.two
  have lXW := XW.lt
  clear pXG0 pXG1 lXG
  obtain ⟨pXG0, pXG1⟩ := XG.two
  have lXG := XG.lt
  go_wp2_with fail
  refine (eqHouse_any _ _ _ _ _ _ _ _ us vs us vs w9.heap.size w9 (Ho.mk (O1.rd) (O1'.rd) hul hvl : Ho w9 w9.heap.size A1 A1' c1 c1' us vs) (T0.more (B' := w9.heap.size) (by omega)) (by first | exact Nat.le_refl _ | simp)).mono ?_
  rintro e w10 ⟨rfl, hb0⟩
  have hb : Below w9.heap.size w9 w10 := hb0
  have z10 : w9.heap.size ≤ w10.heap.size := hb.size
  replace S := S.below hb (by omega)
  replace X0 := X0.below hb (by omega)
  replace T0 := T0.below hb (by omega)
  replace XW := XW.below hb (by omega)
  replace O1 := O1.below hb (Nat.le_refl _)
  replace O1' := O1'.below hb (Nat.le_refl _)
  replace XG := XG.below hb (by omega)
  replace Bt := Bt.trans (hb.mono (by omega))
  rw [eqHo_self]
  clear hb hb0
  clear pX00 pX01 lX0
  obtain ⟨pX00, pX01⟩ := X0.two
  have lX0 := X0.lt
  clear pXW0 pXW1 lXW
  obtain ⟨pXW0, pXW1⟩ := XW.two
  have lXW := XW.lt
  clear pXG0 pXG1 lXG
  obtain ⟨pXG0, pXG1⟩ := XG.two
  have lXG := XG.lt
  go_wp2_with fail
  refine (markHouse_any _ _ us vs 1 _ _ w10 O1 O1' ap1 hul hvl (by omega) (by omega)).mono ?_
  rintro e w11 ⟨rfl, M1, M1', ht⟩
  have hge : ∀ k ∈ rowL (.slice A1 us.length c1) ++ rowL (.slice A1' vs.length c1'), w4.heap.size + 1 ≤ k := fun k hk => (List.mem_append.1 hk).elim (fun h => og1 k (mem_rowL.1 h)) (fun h => og1' k (mem_rowL.1 h))
  clear O1
  clear O1'
  have xgn : ∀ k ∈ rowL (.slice A1 us.length c1) ++ rowL (.slice A1' vs.length c1'), k < w5.heap.size := fun k hk => (List.mem_append.1 hk).elim (fun h => ol1 k (mem_rowL.1 h)) (fun h => ol1' k (mem_rowL.1 h))
  have XG2 := XG.turned ht (fun hk => by have := xgn _ hk; omega)
  clear pXG0 pXG1 lXG
  clear XG
  have z11 : w10.heap.size ≤ w11.heap.size := ht.size
  replace S := S.turned ht (by omega) (fun k hk => by have := hge k hk; omega)
  replace X0 := X0.turned ht (fun hk => by have := hge _ hk; omega)
  replace T0 := T0.turned ht (by omega) (fun k hk => by have := hge k hk; omega)
  replace XW := XW.turned ht (fun hk => by have := hge _ hk; omega)
  replace Bt := Bt.trans (ht.below (by omega) (fun k hk => by have := hge k hk; omega))
  clear ht hge
  clear pX00 pX01 lX0
  obtain ⟨pX00, pX01⟩ := X0.two
  have lX0 := X0.lt
  clear pXW0 pXW1 lXW
  obtain ⟨pXW0, pXW1⟩ := XW.two
  have lXW := XW.lt
  have XG := XG2
  clear XG2 xgn
  clear pX00 pX01 lX0
  obtain ⟨pX00, pX01⟩ := X0.two
  have lX0 := X0.lt
  clear pXW0 pXW1 lXW
  obtain ⟨pXW0, pXW1⟩ := XW.two
  have lXW := XW.lt
  obtain ⟨pXG0, pXG1⟩ := XG.two
  have lXG := XG.lt
  go_wp2_with fail
  refine (heldHouse_any _ _ us.length vs.length 1 _ _ w11 M1 M1' hul hvl (by omega) (by omega)).mono ?_
  rintro e w12 ⟨rfl, hb0⟩
  have hb : Below w11.heap.size w11 w12 := hb0
  have z12 : w11.heap.size ≤ w12.heap.size := hb.size
  replace S := S.below hb (by omega)
  replace X0 := X0.below hb (by omega)
  replace T0 := T0.below hb (by omega)
  replace XW := XW.below hb (by omega)
  replace XG := XG.below hb (by omega)
  replace M1 := M1.below hb (Nat.le_refl _)
  replace M1' := M1'.below hb (Nat.le_refl _)
  replace Bt := Bt.trans (hb.mono (by omega))
  clear hb hb0
  clear pX00 pX01 lX0
  obtain ⟨pX00, pX01⟩ := X0.two
  have lX0 := X0.lt
  clear pXW0 pXW1 lXW
  obtain ⟨pXW0, pXW1⟩ := XW.two
  have lXW := XW.lt
  clear pXG0 pXG1 lXG
  obtain ⟨pXG0, pXG1⟩ := XG.two
  have lXG := XG.lt
  go_wp2_with fail
  refine (toHouse_any A A' c c' ss bs w0.heap.size w12 S (by first | omega | (simp; omega))).mono ?_
  rintro e w13 ⟨d, d', rfl, dg0, dgg, Hd, Hd', hb0⟩
  have dg : w12.heap.size ≤ d := by first | exact dg0 | (simp at dg0; omega)
  have hb : Below w12.heap.size w12 w13 := hb0
  have z13 : w12.heap.size ≤ w13.heap.size := hb.size
  replace S := S.below hb (by omega)
  replace X0 := X0.below hb (by omega)
  replace T0 := T0.below hb (by omega)
  replace XW := XW.below hb (by omega)
  replace XG := XG.below hb (by omega)
  replace M1 := M1.below hb (Nat.le_refl _)
  replace M1' := M1'.below hb (Nat.le_refl _)
  replace Bt := Bt.trans (hb.mono (by omega))
  clear dg0
  have dl := Hd.lt
  have dl' := Hd'.lt
  clear hb hb0
  clear pX00 pX01 lX0
  obtain ⟨pX00, pX01⟩ := X0.two
  have lX0 := X0.lt
  clear pXW0 pXW1 lXW
  obtain ⟨pXW0, pXW1⟩ := XW.two
  have lXW := XW.lt
  clear pXG0 pXG1 lXG
  obtain ⟨pXG0, pXG1⟩ := XG.two
  have lXG := XG.lt
  go_wp2_with fail
  refine (hg _ _ _ _ w13.heap.size w13 (ho_of_blks Hd Hd' hns hnb) (by first | exact Nat.le_refl _ | (simp; try omega))).mono ?_
  rintro e w14 ⟨v2, v2', he, O2, O2', ap2, hb0⟩
  obtain ⟨A2, c2, hv, _⟩ := O2.form
  subst hv
  obtain ⟨A2', c2', hv, _⟩ := O2'.form
  subst hv
  subst he
  have og2 := fun k h => (O2.lt k h).1
  have ol2 := fun k h => (O2.lt k h).2
  have og2' := fun k h => (O2'.lt k h).1
  have ol2' := fun k h => (O2'.lt k h).2
  have hb : Below w13.heap.size w13 w14 := hb0
  have z14 : w13.heap.size ≤ w14.heap.size := hb.size
  replace S := S.below hb (by omega)
  replace X0 := X0.below hb (by omega)
  replace T0 := T0.below hb (by omega)
  replace XW := XW.below hb (by omega)
  replace XG := XG.below hb (by omega)
  replace M1 := M1.below hb (Nat.le_refl _)
  replace M1' := M1'.below hb (Nat.le_refl _)
  replace Hd := Hd.below hb (by omega)
  replace Hd' := Hd'.below hb (by omega)
  replace Bt := Bt.trans (hb.mono (by omega))
  clear hb hb0
  clear pX00 pX01 lX0
  obtain ⟨pX00, pX01⟩ := X0.two
  have lX0 := X0.lt
  clear pXW0 pXW1 lXW
  obtain ⟨pXW0, pXW1⟩ := XW.two
  have lXW := XW.lt
  clear pXG0 pXG1 lXG
  obtain ⟨pXG0, pXG1⟩ := XG.two
  have lXG := XG.lt
  go_wp2_with fail
  refine (eqHouse_any _ _ _ _ _ _ _ _ us vs us vs w14.heap.size (w14.alloc (.cells #[.slice A2 us.length c2, .slice A2' vs.length c2'] 26)) ((Ho.mk (O2.rd) (O2'.rd) hul hvl : Ho w14 w14.heap.size A2 A2' c2 c2' us vs).below (below_alloc _ _) (Nat.le_refl _)) ((T0.more (B' := w14.heap.size) (by omega)).below (below_alloc _ _) (Nat.le_refl _)) (by first | exact Nat.le_refl _ | simp)).mono ?_
  rintro e w15 ⟨rfl, hb0⟩
  have hb : Below w14.heap.size w14 w15 := (below_alloc _ _).trans (hb0.mono (by simp; try omega))
  have z15 : w14.heap.size ≤ w15.heap.size := hb.size
  have za15 : w14.heap.size + 1 ≤ w15.heap.size := by have := hb0.size; simp at this; omega
  replace S := S.below hb (by omega)
  replace X0 := X0.below hb (by omega)
  replace T0 := T0.below hb (by omega)
  replace XW := XW.below hb (by omega)
  replace XG := XG.below hb (by omega)
  replace M1 := M1.below hb (Nat.le_refl _)
  replace M1' := M1'.below hb (Nat.le_refl _)
  replace Hd := Hd.below hb (by omega)
  replace Hd' := Hd'.below hb (by omega)
  replace O2 := O2.below hb (Nat.le_refl _)
  replace O2' := O2'.below hb (Nat.le_refl _)
  replace Bt := Bt.trans (hb.mono (by omega))
  have XH : Blk w15 (w14.heap.size) 26 #[.slice A2 us.length c2, .slice A2' vs.length c2'] := (Blk.new' (by simp)).below hb0 (by simp)
  rw [eqHo_self]
  clear hb hb0
  clear pX00 pX01 lX0
  obtain ⟨pX00, pX01⟩ := X0.two
  have lX0 := X0.lt
  clear pXW0 pXW1 lXW
  obtain ⟨pXW0, pXW1⟩ := XW.two
  have lXW := XW.lt
  clear pXG0 pXG1 lXG
  obtain ⟨pXG0, pXG1⟩ := XG.two
  have lXG := XG.lt
  obtain ⟨pXH0, pXH1⟩ := XH.two
  have lXH := XH.lt
  go_wp2_with fail
  refine (heldHouse_any _ _ us.length vs.length 1 _ _ w15 M1 M1' hul hvl (by omega) (by omega)).mono ?_
  rintro e w16 ⟨rfl, hb0⟩
  have hb : Below w15.heap.size w15 w16 := hb0
  have z16 : w15.heap.size ≤ w16.heap.size := hb.size
  replace S := S.below hb (by omega)
  replace X0 := X0.below hb (by omega)
  replace T0 := T0.below hb (by omega)
  replace XW := XW.below hb (by omega)
  replace XG := XG.below hb (by omega)
  replace M1 := M1.below hb (Nat.le_refl _)
  replace M1' := M1'.below hb (Nat.le_refl _)
  replace Hd := Hd.below hb (by omega)
  replace Hd' := Hd'.below hb (by omega)
  replace O2 := O2.below hb (Nat.le_refl _)
  replace O2' := O2'.below hb (Nat.le_refl _)
  replace XH := XH.below hb (by omega)
  replace Bt := Bt.trans (hb.mono (by omega))
  clear hb hb0
  clear pX00 pX01 lX0
  obtain ⟨pX00, pX01⟩ := X0.two
  have lX0 := X0.lt
  clear pXW0 pXW1 lXW
  obtain ⟨pXW0, pXW1⟩ := XW.two
  have lXW := XW.lt
  clear pXG0 pXG1 lXG
  obtain ⟨pXG0, pXG1⟩ := XG.two
  have lXG := XG.lt
  clear pXH0 pXH1 lXH
  obtain ⟨pXH0, pXH1⟩ := XH.two
  have lXH := XH.lt
  go_wp2_with fail
  go_ret
  exact ⟨rfl, Bt⟩

end Go.Proofs.Ytmamcjnehnknmaa
