/- The law FnExactLeastWalk: its walk, given what the two functions leave. -/
import Derived.Test.YtmamcjnehnknmaaGHouse
import Derived.Deep.RegionHeld3
namespace Go.Proofs.Ytmamcjnehnknmaa
open Go.RowKit

set_option maxHeartbeats 2000000 in
set_option maxRecDepth 100000 in
theorem leastWalk_walk (A A' : Option Addr) (c c' : Nat) (ss bs : List Int) (Z : Option Addr) (dz : Nat) (xs : List Int) (ra : Int) (ok : Bool) (w0 : World) (S : Ho w0 w0.heap.size A A' c c' ss bs) (hs : ss.length + bs.length ≤ 1048576) (R : Rd w0 w0.heap.size Z dz xs) (hn : xs.length ≤ 1048576)
    (hf : FHL 21 ss bs xs (Plain (.tuple #[.int .i64 ra, .bool ok]))) (hg : FHL 22 ss bs xs (Plain (.tuple #[.int .i64 ra, .bool ok]))) :
    Calls Try.prog 5 #[.agg #[.slice A ss.length c, .slice A' bs.length c'], .slice Z xs.length dz] w0 fun e w' => e = .returned (.bool true) ∧ Below w0.heap.size w0 w' := by
  have X0 : Blk (w0.alloc (.cells #[.slice A ss.length c, .slice A' bs.length c'] 24)) w0.heap.size 24 #[.slice A ss.length c, .slice A' bs.length c'] := Blk.new _ _ _
  have Bt : Below w0.heap.size w0 w0 := Below.refl _ _
  have hns := S.ns
  have hnb := S.nb
  go_enter Try.func5, Try.ntmps5
  go_wp2_with fail
  refine (szHouse_yes _ _ _ _ _ _ _ hs).mono ?_
  rintro e w1 ⟨rfl, hb0⟩
  have hb : Below w0.heap.size w0 w1 := (below_alloc _ _).trans (hb0.mono (by simp))
  have z1 : w0.heap.size < w1.heap.size := by have := hb0.size; simp at this; omega
  replace S := S.below hb (Nat.le_refl _)
  replace R := R.below hb (Nat.le_refl _)
  replace Bt := Bt.trans hb
  replace X0 := X0.below hb0 (by simp)
  clear hb hb0
  obtain ⟨pX00, pX01⟩ := X0.two
  go_wp2_with fail
  refine (toHouse_any A A' c c' ss bs w0.heap.size w1 S (by first | omega | (simp; omega))).mono ?_
  rintro e w2 ⟨a, a', rfl, ag0, agg, Ha, Ha', hb0⟩
  have ag : w1.heap.size ≤ a := by first | exact ag0 | (simp at ag0; omega)
  have hb : Below w1.heap.size w1 w2 := hb0
  have z2 : w1.heap.size ≤ w2.heap.size := hb.size
  replace S := S.below hb (by omega)
  replace X0 := X0.below hb (by omega)
  replace R := R.below hb (by omega)
  replace Bt := Bt.trans (hb.mono (by omega))
  clear ag0
  have al := Ha.lt
  have al' := Ha'.lt
  clear hb hb0
  clear pX00 pX01
  obtain ⟨pX00, pX01⟩ := X0.two
  go_wp2_with fail
  refine (toIntS_new Z dz xs w0.heap.size w2 R (by first | omega | (simp; omega)) hn).mono ?_
  rintro e w3 ⟨ai, rfl, aig0, Hai, hb0⟩
  have aig : w2.heap.size + 0 ≤ ai := by first | exact aig0 | (simp at aig0; omega)
  have hb : Below w2.heap.size w2 w3 := hb0
  have z3 : w2.heap.size ≤ w3.heap.size := hb.size
  replace S := S.below hb (by omega)
  replace X0 := X0.below hb (by omega)
  replace R := R.below hb (by omega)
  replace Ha := Ha.below hb (by omega)
  replace Ha' := Ha'.below hb (by omega)
  replace Bt := Bt.trans (hb.mono (by omega))
  clear aig0
  have ail := Hai.lt
  clear hb hb0
  clear pX00 pX01
  obtain ⟨pX00, pX01⟩ := X0.two
  go_wp2_with fail
  refine (hf _ _ _ _ _ _ w3.heap.size w3 (ho_of_blks Ha Ha' hns hnb) (by first | exact Nat.le_refl _ | (simp; try omega)) (Hai.rd (B := w3.heap.size) (c := xs.length) Hai.lt (Nat.le_refl _))).mono ?_
  rintro e w4 ⟨rfl, hb0⟩
  have hb : Below w3.heap.size w3 w4 := hb0
  have z4 : w3.heap.size ≤ w4.heap.size := hb.size
  replace S := S.below hb (by omega)
  replace X0 := X0.below hb (by omega)
  replace R := R.below hb (by omega)
  replace Ha := Ha.below hb (by omega)
  replace Ha' := Ha'.below hb (by omega)
  replace Hai := Hai.below hb (by omega)
  replace Bt := Bt.trans (hb.mono (by omega))
  clear hb hb0
  clear pX00 pX01
  obtain ⟨pX00, pX01⟩ := X0.two
  clear Ha
  clear Ha'
  clear Hai
  go_wp2_with fail
  refine (toHouse_any A A' c c' ss bs w0.heap.size w4 S (by first | omega | (simp; omega))).mono ?_
  rintro e w5 ⟨b, b', rfl, bg0, bgg, Hb, Hb', hb0⟩
  have bg : w4.heap.size ≤ b := by first | exact bg0 | (simp at bg0; omega)
  have hb : Below w4.heap.size w4 w5 := hb0
  have z5 : w4.heap.size ≤ w5.heap.size := hb.size
  replace S := S.below hb (by omega)
  replace X0 := X0.below hb (by omega)
  replace R := R.below hb (by omega)
  replace Bt := Bt.trans (hb.mono (by omega))
  clear bg0
  have bl := Hb.lt
  have bl' := Hb'.lt
  clear hb hb0
  clear pX00 pX01
  obtain ⟨pX00, pX01⟩ := X0.two
  go_wp2_with fail
  refine (toIntS_new Z dz xs w0.heap.size (w5.alloc (.cells #[.slice (some ⟨b, 0, none⟩) ss.length ss.length, .slice (some ⟨b', 0, none⟩) bs.length bs.length] 26)) (R.below ((below_alloc _ _)) (by omega)) (by first | omega | (simp; omega)) hn).mono ?_
  rintro e w6 ⟨bi, rfl, big0, Hbi, hb0⟩
  have big : w5.heap.size + 1 ≤ bi := by first | exact big0 | (simp at big0; omega)
  have hb : Below w5.heap.size w5 w6 := (below_alloc _ _).trans (hb0.mono (by simp; try omega))
  have z6 : w5.heap.size ≤ w6.heap.size := hb.size
  have za6 : w5.heap.size + 1 ≤ w6.heap.size := by have := hb0.size; simp at this; omega
  replace S := S.below hb (by omega)
  replace X0 := X0.below hb (by omega)
  replace R := R.below hb (by omega)
  replace Hb := Hb.below hb (by omega)
  replace Hb' := Hb'.below hb (by omega)
  replace Bt := Bt.trans (hb.mono (by omega))
  have X1 : Blk w6 (w5.heap.size) 26 #[.slice (some ⟨b, 0, none⟩) ss.length ss.length, .slice (some ⟨b', 0, none⟩) bs.length bs.length] := (Blk.new' (by simp)).below hb0 (by simp)
  clear big0
  have bil := Hbi.lt
  clear hb hb0
  clear pX00 pX01
  obtain ⟨pX00, pX01⟩ := X0.two
  obtain ⟨pX10, pX11⟩ := X1.two
  go_wp2_with fail
  refine (hg _ _ _ _ _ _ w6.heap.size w6 (ho_of_blks Hb Hb' hns hnb) (by first | exact Nat.le_refl _ | (simp; try omega)) (Hbi.rd (B := w6.heap.size) (c := xs.length) Hbi.lt (Nat.le_refl _))).mono ?_
  rintro e w7 ⟨rfl, hb0⟩
  have hb : Below w6.heap.size w6 w7 := hb0
  have z7 : w6.heap.size ≤ w7.heap.size := hb.size
  replace S := S.below hb (by omega)
  replace X0 := X0.below hb (by omega)
  replace R := R.below hb (by omega)
  replace Hb := Hb.below hb (by omega)
  replace Hb' := Hb'.below hb (by omega)
  replace X1 := X1.below hb (by omega)
  replace Hbi := Hbi.below hb (by omega)
  replace Bt := Bt.trans (hb.mono (by omega))
  clear hb hb0
  clear pX00 pX01
  obtain ⟨pX00, pX01⟩ := X0.two
  clear pX10 pX11
  obtain ⟨pX10, pX11⟩ := X1.two
  go_wp2_with fail
  go_region_held3 (fun w' => w'.cell? ⟨w5.heap.size, 0, none⟩ = some (.slice (some ⟨b, 0, none⟩) ss.length ss.length) ∧ w'.cell? ⟨w5.heap.size, 1, none⟩ = some (.slice (some ⟨b', 0, none⟩) bs.length bs.length) ∧
      w'.cell? ⟨w0.heap.size, 0, none⟩ = some (.slice A ss.length c) ∧ w'.cell? ⟨w0.heap.size, 1, none⟩ = some (.slice A' bs.length c'))
    (first | exact ⟨pX10, pX11, pX00, pX01⟩ | exact ⟨q0', q1', p0', p1'⟩ | exact ⟨q0'', q1'', p0'', p1''⟩)
    (first
      | (go_at_call 12
         go_must (refine (toHouse_any A A' c c' ss bs w0.heap.size w7.drew S.drew (by show _ ≤ w7.heap.size; omega)).mono ?_; rintro e w8 ⟨m, m', rfl, hm, hmm, hx6, hy6, hb6'⟩; have hb6 : Below w7.heap.size w7 w8 := below_undrew hb6'; have hz6 : w7.heap.size ≤ w8.heap.size := hb6.size; obtain ⟨p0', p1'⟩ := (X0.below hb6 (by omega)).two; obtain ⟨q0', q1'⟩ := (X1.below hb6 (by omega)).two))
      | (go_at_call 14
         go_must (refine (eqHouse_any _ _ _ _ _ _ _ _ _ _ _ _ w8.heap.size _ (ho_of_blks (Hb.below hb6 (by omega)) (Hb'.below hb6 (by omega)) hns hnb) (ho_of_blks hx6 hy6 hns hnb) (Nat.le_refl _)).mono ?_; rintro e w9 ⟨rfl, hb7⟩; rw [eqHo_self]; have hb : Below w7.heap.size w7 w9 := hb6.trans (hb7.mono (by omega)); obtain ⟨p0'', p1''⟩ := (X0.below hb (by omega)).two; obtain ⟨q0'', q1''⟩ := (X1.below hb (by omega)).two)))
  clear p0' p1' q0' q1' p0'' p1'' q0'' q1'' hx6 hy6 hm hmm hb6' hb6 hb7 hz6
  have z9 : w7.heap.size ≤ w9.heap.size := hb.size
  replace S := S.below hb (by omega)
  replace X0 := X0.below hb (by omega)
  replace R := R.below hb (by omega)
  replace Hb := Hb.below hb (by omega)
  replace Hb' := Hb'.below hb (by omega)
  replace X1 := X1.below hb (by omega)
  replace Hbi := Hbi.below hb (by omega)
  replace Bt := Bt.trans (hb.mono (by omega))
  clear hb
  clear pX00 pX01
  obtain ⟨pX00, pX01⟩ := X0.two
  clear pX10 pX11
  obtain ⟨pX10, pX11⟩ := X1.two
  go_wp2_with fail
  refine (toIntS_new Z dz xs w0.heap.size w9 R (by first | omega | (simp; omega)) hn).mono ?_
  rintro e w10 ⟨ci, rfl, cig0, Hci, hb0⟩
  have cig : w9.heap.size + 0 ≤ ci := by first | exact cig0 | (simp at cig0; omega)
  have hb : Below w9.heap.size w9 w10 := hb0
  have z10 : w9.heap.size ≤ w10.heap.size := hb.size
  replace S := S.below hb (by omega)
  replace X0 := X0.below hb (by omega)
  replace R := R.below hb (by omega)
  replace Hb := Hb.below hb (by omega)
  replace Hb' := Hb'.below hb (by omega)
  replace X1 := X1.below hb (by omega)
  replace Hbi := Hbi.below hb (by omega)
  replace Bt := Bt.trans (hb.mono (by omega))
  clear cig0
  have cil := Hci.lt
  clear hb hb0
  clear pX00 pX01
  obtain ⟨pX00, pX01⟩ := X0.two
  clear pX10 pX11
  obtain ⟨pX10, pX11⟩ := X1.two
  go_wp2_with fail
  refine (eqIntS_new _ _ _ _ xs xs _ _ w10 (Hbi.rd (c := xs.length) Hbi.lt (Nat.le_refl _)) (Hci.rd (c := xs.length) Hci.lt (Nat.le_refl _)) hn).mono ?_
  rintro e w11 ⟨rfl, hb0⟩
  have hb : Below w10.heap.size w10 w11 := hb0
  have z11 : w10.heap.size ≤ w11.heap.size := hb.size
  replace S := S.below hb (by omega)
  replace X0 := X0.below hb (by omega)
  replace R := R.below hb (by omega)
  replace Hb := Hb.below hb (by omega)
  replace Hb' := Hb'.below hb (by omega)
  replace X1 := X1.below hb (by omega)
  replace Hbi := Hbi.below hb (by omega)
  replace Hci := Hci.below hb (by omega)
  replace Bt := Bt.trans (hb.mono (by omega))
  rw [eqB_self]
  clear hb hb0
  clear pX00 pX01
  obtain ⟨pX00, pX01⟩ := X0.two
  clear pX10 pX11
  obtain ⟨pX10, pX11⟩ := X1.two
  clear Hci
  go_wp2_with fail
  go_ret
  exact ⟨rfl, Bt⟩

end Go.Proofs.Ytmamcjnehnknmaa
