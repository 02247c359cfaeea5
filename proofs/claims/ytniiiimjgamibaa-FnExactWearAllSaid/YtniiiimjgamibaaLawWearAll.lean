/- The law FnExactWearAll: its walk, given what the two functions leave. -/
import Derived.Test.YtniiiimjgamibaaGSS
namespace Go.Proofs.Ytniiiimjgamibaa
open Go.RowKit

set_option maxHeartbeats 4000000 in
set_option maxRecDepth 100000 in
theorem wearAll_walk (Z0 : Option Addr) (d0 : Nat) (xs0 : List Int) (n1 : Int) (Z2 : Option Addr) (d2 n2 : Nat) (F2 : Nat → Option Addr) (C2 : Nat → Nat) (xf : Nat → List Int) (zs0 : List Int) (r1 : Bool) (hz0 : zs0.length ≤ 1048576) (w0 : World) (R0 : Rd w0 w0.heap.size Z0 d0 xs0) (hn0 : xs0.length ≤ 1048576) (RS : RdSS w0 w0.heap.size Z2 d2 n2 F2 C2 xf) (hn2 : n2 + lenK xf n2 ≤ 1048576)
    (hf : ∀ (Z0 : Option Addr) (d0 : Nat) (Z2 : Option Addr) (d2 : Nat) (F2 : Nat → Option Addr) (C2 : Nat → Nat) (B : Nat) (w : World), Rd w B Z0 d0 xs0 → RdSS w B Z2 d2 n2 F2 C2 xf → B ≤ w.heap.size → Calls Try.prog 5 #[.slice Z0 xs0.length d0, .int .i64 n1, .slice Z2 n2 d2] w (Lists w zs0 r1))
    (hg : ∀ (Z0 : Option Addr) (d0 : Nat) (Z2 : Option Addr) (d2 : Nat) (F2 : Nat → Option Addr) (C2 : Nat → Nat) (B : Nat) (w : World), Rd w B Z0 d0 xs0 → RdSS w B Z2 d2 n2 F2 C2 xf → B ≤ w.heap.size → Calls Try.prog 8 #[.slice Z0 xs0.length d0, .int .i64 n1, .slice Z2 n2 d2] w (Lists w zs0 r1)) :
    Calls Try.prog 3 #[.slice Z0 xs0.length d0, .int .i64 n1, .slice Z2 n2 d2] w0 fun e w' => e = .returned (.bool true) ∧ Below w0.heap.size w0 w' := by
  have HXF := Lib.hid (fun i (h : i < n2) => Nat.le_trans (lenK_row xf h) (show lenK xf n2 ≤ 1048576 by omega))
  have HSZ := Lib.hid (show szGG xf n2 1048576 = 1048576 - (n2 : Int) - (lenK xf n2 : Int) from if_neg (by omega))
  have hlk0 : (0 : Int) ≤ (lenK xf n2 : Int) := Int.natCast_nonneg _
  have Bt : Below w0.heap.size w0 w0 := Below.refl _ _
  go_enter Try.func3, Try.ntmps3
  go_wp2_with fail
  refine (szSS_any Z2 d2 n2 F2 C2 xf w0.heap.size w0 RS 1048576 (by omega) (by omega) (by omega) (fun i h => Nat.le_trans (HXF.out i h) (by omega))).mono ?_
  rintro e w' ⟨rfl, rfl⟩
  rw [HSZ.out]
  go_wp2_with fail
  refine (toIntS_new Z0 d0 xs0 w0.heap.size w0 R0 (by omega) hn0).mono ?_
  rintro e w1 ⟨a0, rfl, a0g, Ha0, hb0⟩
  have hb : Below w0.heap.size w0 w1 := hb0
  have z1 : w0.heap.size ≤ w1.heap.size := hb.size
  replace R0 := R0.below hb (by omega)
  replace RS := RS.below hb (by omega)
  replace Bt := Bt.trans (hb.mono (by omega))
  have a0l := Ha0.lt
  clear hb hb0
  go_wp2_with fail
  refine (toSS_any Z2 d2 n2 F2 C2 xf w0.heap.size w1 RS (by omega) (by omega) HXF.out).mono ?_
  rintro e w2 ⟨ga, gsa, rfl, hga, Qa, hb0⟩
  have hb : Below w1.heap.size w1 w2 := hb0
  have z2 : w1.heap.size ≤ w2.heap.size := hb.size
  replace R0 := R0.below hb (by omega)
  replace RS := RS.below hb (by omega)
  replace Ha0 := Ha0.below hb (by omega)
  replace Bt := Bt.trans (hb.mono (by omega))
  have gla := Qa.o.lt
  clear hb hb0
  go_wp2_with fail
  refine (hf _ _ _ _ _ _ w2.heap.size w2 (Ha0.rd (B := w2.heap.size) (c := xs0.length) Ha0.lt (Nat.le_refl _)) Qa.rd (Nat.le_refl _)).mono ?_
  rintro e w3 ⟨v0, he, O0, hb0⟩
  obtain ⟨A0, c0, hv, _⟩ := O0.form
  subst hv
  subst he
  have og0 := fun k h => (O0.lt k h).1
  have ol0 := fun k h => (O0.lt k h).2
  have hb : Below w2.heap.size w2 w3 := hb0
  have z3 : w2.heap.size ≤ w3.heap.size := hb.size
  replace R0 := R0.below hb (by omega)
  replace RS := RS.below hb (by omega)
  replace Ha0 := Ha0.below hb (by omega)
  replace Qa := Qa.below hb (Nat.le_refl _)
  replace Bt := Bt.trans (hb.mono (by omega))
  clear hb hb0
  clear Ha0
  clear Qa
  go_wp2_with fail
  refine (toIntS_new Z0 d0 xs0 w0.heap.size w3 R0 (by omega) hn0).mono ?_
  rintro e w4 ⟨b0, rfl, b0g, Hb0, hb0⟩
  have hb : Below w3.heap.size w3 w4 := hb0
  have z4 : w3.heap.size ≤ w4.heap.size := hb.size
  replace R0 := R0.below hb (by omega)
  replace RS := RS.below hb (by omega)
  replace O0 := O0.below hb (Nat.le_refl _)
  replace Bt := Bt.trans (hb.mono (by omega))
  have b0l := Hb0.lt
  clear hb hb0
  go_wp2_with fail
  refine (toSS_any Z2 d2 n2 F2 C2 xf w0.heap.size w4 RS (by omega) (by omega) HXF.out).mono ?_
  rintro e w5 ⟨gb, gsb, rfl, hgb, Qb, hb0⟩
  have hb : Below w4.heap.size w4 w5 := hb0
  have z5 : w4.heap.size ≤ w5.heap.size := hb.size
  replace R0 := R0.below hb (by omega)
  replace RS := RS.below hb (by omega)
  replace O0 := O0.below hb (Nat.le_refl _)
  replace Hb0 := Hb0.below hb (by omega)
  replace Bt := Bt.trans (hb.mono (by omega))
  have glb := Qb.o.lt
  clear hb hb0
  have hubb := rowsL_lt Qb
  go_wp2_with fail
  refine (hg _ _ _ _ _ _ w5.heap.size w5 (Hb0.rd (B := w5.heap.size) (c := xs0.length) Hb0.lt (Nat.le_refl _)) Qb.rd (Nat.le_refl _)).mono ?_
  rintro e w6 ⟨v1, he, O1, hb0⟩
  obtain ⟨A1, c1, hv, _⟩ := O1.form
  subst hv
  subst he
  have og1 := fun k h => (O1.lt k h).1
  have ol1 := fun k h => (O1.lt k h).2
  have hb : Below w5.heap.size w5 w6 := hb0
  have z6 : w5.heap.size ≤ w6.heap.size := hb.size
  replace R0 := R0.below hb (by omega)
  replace RS := RS.below hb (by omega)
  replace O0 := O0.below hb (Nat.le_refl _)
  replace Hb0 := Hb0.below hb (by omega)
  replace Qb := Qb.below hb (Nat.le_refl _)
  replace Bt := Bt.trans (hb.mono (by omega))
  clear hb hb0
  go_wp2_with fail
  refine (eqIntS_new _ _ _ _ zs0 zs0 _ _ w6 O1.rd O0.rd hz0).mono ?_
  rintro e w7 ⟨rfl, hb0⟩
  have hb : Below w6.heap.size w6 w7 := hb0
  have z7 : w6.heap.size ≤ w7.heap.size := hb.size
  replace R0 := R0.below hb (by omega)
  replace RS := RS.below hb (by omega)
  replace O0 := O0.below hb (Nat.le_refl _)
  replace Hb0 := Hb0.below hb (by omega)
  replace Qb := Qb.below hb (Nat.le_refl _)
  replace O1 := O1.below hb (Nat.le_refl _)
  replace Bt := Bt.trans (hb.mono (by omega))
  rw [eqB_self]
  clear hb hb0
  go_wp2_with fail
  refine (toIntS_new Z0 d0 xs0 w0.heap.size w7 R0 (by omega) hn0).mono ?_
  rintro e w8 ⟨c0, rfl, c0g, Hc0, hb0⟩
  have hb : Below w7.heap.size w7 w8 := hb0
  have z8 : w7.heap.size ≤ w8.heap.size := hb.size
  replace R0 := R0.below hb (by omega)
  replace RS := RS.below hb (by omega)
  replace O0 := O0.below hb (Nat.le_refl _)
  replace Hb0 := Hb0.below hb (by omega)
  replace Qb := Qb.below hb (Nat.le_refl _)
  replace O1 := O1.below hb (Nat.le_refl _)
  replace Bt := Bt.trans (hb.mono (by omega))
  have c0l := Hc0.lt
  clear hb hb0
  go_wp2_with fail
  refine (eqIntS_new _ _ _ _ xs0 xs0 _ _ w8 (Hb0.rd (c := xs0.length) Hb0.lt (Nat.le_refl _)) (Hc0.rd (c := xs0.length) Hc0.lt (Nat.le_refl _)) hn0).mono ?_
  rintro e w9 ⟨rfl, hb0⟩
  have hb : Below w8.heap.size w8 w9 := hb0
  have z9 : w8.heap.size ≤ w9.heap.size := hb.size
  replace R0 := R0.below hb (by omega)
  replace RS := RS.below hb (by omega)
  replace O0 := O0.below hb (Nat.le_refl _)
  replace Hb0 := Hb0.below hb (by omega)
  replace Qb := Qb.below hb (Nat.le_refl _)
  replace O1 := O1.below hb (Nat.le_refl _)
  replace Hc0 := Hc0.below hb (by omega)
  replace Bt := Bt.trans (hb.mono (by omega))
  rw [eqB_self]
  clear hb hb0
  clear Hc0
  go_wp2_with fail
  refine (toSS_any Z2 d2 n2 F2 C2 xf w0.heap.size w9 RS (by omega) (by omega) HXF.out).mono ?_
  rintro e w10 ⟨gc, gsc, rfl, hgc, Qc, hb0⟩
  have hb : Below w9.heap.size w9 w10 := hb0
  have z10 : w9.heap.size ≤ w10.heap.size := hb.size
  replace R0 := R0.below hb (by omega)
  replace RS := RS.below hb (by omega)
  replace O0 := O0.below hb (Nat.le_refl _)
  replace Hb0 := Hb0.below hb (by omega)
  replace Qb := Qb.below hb (Nat.le_refl _)
  replace O1 := O1.below hb (Nat.le_refl _)
  replace Bt := Bt.trans (hb.mono (by omega))
  have glc := Qc.o.lt
  clear hb hb0
  go_wp2_with fail
  refine (eqSS_same _ _ _ _ n2 _ _ _ _ xf _ _ w10 Qb.rd Qc.rd (Nat.le_refl _) (Nat.le_refl _) HXF.out (by omega)).mono ?_
  rintro e w11 ⟨rfl, hb0⟩
  have hb : Below w10.heap.size w10 w11 := hb0
  have z11 : w10.heap.size ≤ w11.heap.size := hb.size
  replace R0 := R0.below hb (by omega)
  replace RS := RS.below hb (by omega)
  replace O0 := O0.below hb (Nat.le_refl _)
  replace Hb0 := Hb0.below hb (by omega)
  replace Qb := Qb.below hb (Nat.le_refl _)
  replace O1 := O1.below hb (Nat.le_refl _)
  replace Qc := Qc.below hb (Nat.le_refl _)
  replace Bt := Bt.trans (hb.mono (by omega))
  clear hb hb0
  clear Qc
  go_wp2_with fail
  refine (markI_new _ xs0 1 b0 w11 (Hb0.own hn0) hn0 (by omega) (by omega)).mono ?_
  rintro e w12 ⟨rfl, _, ht⟩
  have hge : ∀ k ∈ rowL (.slice (some ⟨b0, 0, none⟩) xs0.length xs0.length), k = b0 := fun k hk => by simpa [rowL_some] using hk
  have hup : ∀ k ∈ rowL (.slice (some ⟨b0, 0, none⟩) xs0.length xs0.length), k < w5.heap.size := fun k hk => by rw [hge k hk]; omega
  clear Hb0
  have z12 : w11.heap.size ≤ w12.heap.size := ht.size
  replace R0 := R0.turned ht (by omega) (fun k hk => by have := hge k hk; omega)
  replace RS := RS.turned ht (by omega) (fun k hk => by have := hge k hk; omega)
  replace O0 := O0.turned ht (fun k hv hk => by have := hge k hk; have := hup k hk; have := ol0 k hv; omega)
  replace Qb := Qb.turned ht (fun k hk => by have := hge k hk; omega)
  replace O1 := O1.turned ht (fun k hv hk => by have := hge k hk; have := hup k hk; have := og1 k hv; omega)
  replace Bt := Bt.trans (ht.below (by omega) (fun k hk => by have := hge k hk; omega))
  clear ht hge hup
  go_wp2_with fail
  refine (markSS_new n2 gb gsb xf (1 + xs0.length) w12 Qb (by omega) (by omega) (by omega) (by omega)).mono ?_
  rintro e w13 ⟨rfl, ht⟩
  have hge := rowsL_ge Qb
  have hup := hubb
  clear Qb
  have z13 : w12.heap.size ≤ w13.heap.size := ht.size
  replace R0 := R0.turned ht (by omega) (fun k hk => by have := hge k hk; omega)
  replace RS := RS.turned ht (by omega) (fun k hk => by have := hge k hk; omega)
  replace O0 := O0.turned ht (fun k hv hk => by have := hge k hk; have := hup k hk; have := ol0 k hv; omega)
  replace O1 := O1.turned ht (fun k hv hk => by have := hge k hk; have := hup k hk; have := og1 k hv; omega)
  replace Bt := Bt.trans (ht.below (by omega) (fun k hk => by have := hge k hk; omega))
  clear ht hge hup
  go_wp2_with fail
  refine (eqIntS_new _ _ _ _ zs0 zs0 _ _ w13 O1.rd O0.rd hz0).mono ?_
  rintro e w14 ⟨rfl, hb0⟩
  have hb : Below w13.heap.size w13 w14 := hb0
  have z14 : w13.heap.size ≤ w14.heap.size := hb.size
  replace R0 := R0.below hb (by omega)
  replace RS := RS.below hb (by omega)
  replace O0 := O0.below hb (Nat.le_refl _)
  replace O1 := O1.below hb (Nat.le_refl _)
  replace Bt := Bt.trans (hb.mono (by omega))
  rw [eqB_self]
  clear hb hb0
  go_wp2_with fail
  refine (markI_new _ _ 1 _ w14 O1 hz0 (by omega) (by omega)).mono ?_
  rintro e w15 ⟨rfl, M1, ht⟩
  have hge := fun k hk => og1 k (mem_rowL.1 hk)
  have hup := hge
  clear O1
  have z15 : w14.heap.size ≤ w15.heap.size := ht.size
  replace R0 := R0.turned ht (by omega) (fun k hk => by have := hge k hk; omega)
  replace RS := RS.turned ht (by omega) (fun k hk => by have := hge k hk; omega)
  replace O0 := O0.turned ht (fun k hv hk => by have := hge k hk; have := hup k hk; have := ol0 k hv; omega)
  replace Bt := Bt.trans (ht.below (by omega) (fun k hk => by have := hge k hk; omega))
  clear ht hge hup
  go_wp2_with fail
  refine (heldIntS_any _ _ 1 _ w15 M1 hz0 (by omega) (by omega)).mono ?_
  rintro e wh ⟨rfl, rfl⟩
  go_wp2_with fail
  refine (toIntS_new Z0 d0 xs0 w0.heap.size w15 R0 (by omega) hn0).mono ?_
  rintro e w16 ⟨d0, rfl, d0g, Hd0, hb0⟩
  have hb : Below w15.heap.size w15 w16 := hb0
  have z16 : w15.heap.size ≤ w16.heap.size := hb.size
  replace R0 := R0.below hb (by omega)
  replace RS := RS.below hb (by omega)
  replace O0 := O0.below hb (Nat.le_refl _)
  replace M1 := M1.below hb (Nat.le_refl _)
  replace Bt := Bt.trans (hb.mono (by omega))
  have d0l := Hd0.lt
  clear hb hb0
  go_wp2_with fail
  refine (toSS_any Z2 d2 n2 F2 C2 xf w0.heap.size w16 RS (by omega) (by omega) HXF.out).mono ?_
  rintro e w17 ⟨gd, gsd, rfl, hgd, Qd, hb0⟩
  have hb : Below w16.heap.size w16 w17 := hb0
  have z17 : w16.heap.size ≤ w17.heap.size := hb.size
  replace R0 := R0.below hb (by omega)
  replace RS := RS.below hb (by omega)
  replace O0 := O0.below hb (Nat.le_refl _)
  replace M1 := M1.below hb (Nat.le_refl _)
  replace Hd0 := Hd0.below hb (by omega)
  replace Bt := Bt.trans (hb.mono (by omega))
  have gld := Qd.o.lt
  clear hb hb0
  go_wp2_with fail
  refine (hg _ _ _ _ _ _ w17.heap.size w17 (Hd0.rd (B := w17.heap.size) (c := xs0.length) Hd0.lt (Nat.le_refl _)) Qd.rd (Nat.le_refl _)).mono ?_
  rintro e w18 ⟨v2, he, O2, hb0⟩
  obtain ⟨A2, c2, hv, _⟩ := O2.form
  subst hv
  subst he
  have og2 := fun k h => (O2.lt k h).1
  have ol2 := fun k h => (O2.lt k h).2
  have hb : Below w17.heap.size w17 w18 := hb0
  have z18 : w17.heap.size ≤ w18.heap.size := hb.size
  replace R0 := R0.below hb (by omega)
  replace RS := RS.below hb (by omega)
  replace O0 := O0.below hb (Nat.le_refl _)
  replace M1 := M1.below hb (Nat.le_refl _)
  replace Hd0 := Hd0.below hb (by omega)
  replace Qd := Qd.below hb (Nat.le_refl _)
  replace Bt := Bt.trans (hb.mono (by omega))
  clear hb hb0
  go_wp2_with fail
  refine (eqIntS_new _ _ _ _ zs0 zs0 _ _ w18 O2.rd O0.rd hz0).mono ?_
  rintro e w19 ⟨rfl, hb0⟩
  have hb : Below w18.heap.size w18 w19 := hb0
  have z19 : w18.heap.size ≤ w19.heap.size := hb.size
  replace R0 := R0.below hb (by omega)
  replace RS := RS.below hb (by omega)
  replace O0 := O0.below hb (Nat.le_refl _)
  replace M1 := M1.below hb (Nat.le_refl _)
  replace Hd0 := Hd0.below hb (by omega)
  replace Qd := Qd.below hb (Nat.le_refl _)
  replace O2 := O2.below hb (Nat.le_refl _)
  replace Bt := Bt.trans (hb.mono (by omega))
  rw [eqB_self]
  clear hb hb0
  go_wp2_with fail
  refine (heldIntS_any _ _ 1 _ w19 M1 hz0 (by omega) (by omega)).mono ?_
  rintro e wh ⟨rfl, rfl⟩
  go_wp2_with fail
  go_ret
  exact ⟨rfl, Bt⟩

end Go.Proofs.Ytniiiimjgamibaa
