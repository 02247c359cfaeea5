/- The law FnExactCountByStrides: its walk, given what the two functions leave. -/
import Derived.Test.YtbenlmkhcdfgmaaKit
import Derived.Deep.RegionHeld3
namespace Go.Proofs.Ytbenlmkhcdfgmaa
open Go.RowKit

set_option maxHeartbeats 2000000 in
set_option maxRecDepth 100000 in
theorem countByStrides_walk (st : Int) (A A' : Option Addr) (c c' : Nat) (ss bs : List Int) (nx : Int) (ra : Int) (ok : Bool) (w0 : World) (S : St w0 w0.heap.size st A A' c c' ss bs) (hs : ss.length + bs.length ≤ 1048576)
    (hf : FnI 18 st ss bs nx (Plain (.tuple #[.int .i64 ra, .bool ok]))) (hg : FnI 19 st ss bs nx (Plain (.tuple #[.int .i64 ra, .bool ok]))) :
    Calls Try.prog 5 #[stv st A A' c c' ss bs, .int .i64 nx] w0 fun e w' => e = .returned (.bool true) ∧ Below w0.heap.size w0 w' := by
  have X0 : Blk (w0.alloc (.cells #[.int .i64 st, .slice A ss.length c, .slice A' bs.length c'] 24)) w0.heap.size 24 #[.int .i64 st, .slice A ss.length c, .slice A' bs.length c'] := Blk.new _ _ _
  have Bt : Below w0.heap.size w0 w0 := Below.refl _ _
  have hns := S.ns
  have hnb := S.nb
  go_enter Try.func5, Try.ntmps5
  go_wp2_with fail
  refine (szStairs_yes _ _ _ _ _ _ _ _ hs).mono ?_
  rintro e w1 ⟨rfl, hb0⟩
  have hb : Below w0.heap.size w0 w1 := (below_alloc _ _).trans (hb0.mono (by simp))
  have z1 : w0.heap.size < w1.heap.size := by have := hb0.size; simp at this; omega
  replace S := S.below hb (Nat.le_refl _)
  replace Bt := Bt.trans hb
  replace X0 := X0.below hb0 (by simp)
  clear hb hb0
  obtain ⟨pX00, pX01, pX02⟩ := X0.three
  go_wp2_with fail
  refine (toStairs_any st A A' c c' ss bs w0.heap.size w1 S (by first | omega | (simp; omega))).mono ?_
  rintro e w2 ⟨a, a', rfl, ag0, agg, Ha, Ha', hb0⟩
  have ag : w1.heap.size ≤ a := by first | exact ag0 | (simp at ag0; omega)
  have hb : Below w1.heap.size w1 w2 := hb0
  have z2 : w1.heap.size ≤ w2.heap.size := hb.size
  replace S := S.below hb (by omega)
  replace X0 := X0.below hb (by omega)
  replace Bt := Bt.trans (hb.mono (by omega))
  clear ag0
  have al := Ha.lt
  have al' := Ha'.lt
  clear hb hb0
  clear pX00 pX01 pX02
  obtain ⟨pX00, pX01, pX02⟩ := X0.three
  go_wp2_with fail
  refine (hf _ _ _ _ w2.heap.size w2 (st_of_blks (st := st) Ha Ha' hns hnb) (by first | exact Nat.le_refl _ | (simp; try omega))).mono ?_
  rintro e w3 ⟨rfl, hb0⟩
  have hb : Below w2.heap.size w2 w3 := hb0
  have z3 : w2.heap.size ≤ w3.heap.size := hb.size
  replace S := S.below hb (by omega)
  replace X0 := X0.below hb (by omega)
  replace Ha := Ha.below hb (by omega)
  replace Ha' := Ha'.below hb (by omega)
  replace Bt := Bt.trans (hb.mono (by omega))
  clear hb hb0
  clear pX00 pX01 pX02
  obtain ⟨pX00, pX01, pX02⟩ := X0.three
  clear Ha
  clear Ha'
  go_wp2_with fail
  refine (toStairs_any st A A' c c' ss bs w0.heap.size w3 S (by first | omega | (simp; omega))).mono ?_
  rintro e w4 ⟨b, b', rfl, bg0, bgg, Hb, Hb', hb0⟩
  have bg : w3.heap.size ≤ b := by first | exact bg0 | (simp at bg0; omega)
  have hb : Below w3.heap.size w3 w4 := hb0
  have z4 : w3.heap.size ≤ w4.heap.size := hb.size
  replace S := S.below hb (by omega)
  replace X0 := X0.below hb (by omega)
  replace Bt := Bt.trans (hb.mono (by omega))
  clear bg0
  have bl := Hb.lt
  have bl' := Hb'.lt
  clear hb hb0
  clear pX00 pX01 pX02
  obtain ⟨pX00, pX01, pX02⟩ := X0.three
  go_wp2_with fail
  refine (hg _ _ _ _ w4.heap.size (w4.alloc (.cells #[.int .i64 st, .slice (some ⟨b, 0, none⟩) ss.length ss.length, .slice (some ⟨b', 0, none⟩) bs.length bs.length] 28)) ((st_of_blks (st := st) Hb Hb' hns hnb).below (below_alloc _ _) (Nat.le_refl _)) (by first | exact Nat.le_refl _ | (simp; try omega))).mono ?_
  rintro e w5 ⟨rfl, hb0⟩
  have hb : Below w4.heap.size w4 w5 := (below_alloc _ _).trans (hb0.mono (by simp; try omega))
  have z5 : w4.heap.size ≤ w5.heap.size := hb.size
  have za5 : w4.heap.size + 1 ≤ w5.heap.size := by have := hb0.size; simp at this; omega
  replace S := S.below hb (by omega)
  replace X0 := X0.below hb (by omega)
  replace Hb := Hb.below hb (by omega)
  replace Hb' := Hb'.below hb (by omega)
  replace Bt := Bt.trans (hb.mono (by omega))
  have X1 : Blk w5 (w4.heap.size) 28 #[.int .i64 st, .slice (some ⟨b, 0, none⟩) ss.length ss.length, .slice (some ⟨b', 0, none⟩) bs.length bs.length] := (Blk.new' (by simp)).below hb0 (by simp)
  clear hb hb0
  clear pX00 pX01 pX02
  obtain ⟨pX00, pX01, pX02⟩ := X0.three
  obtain ⟨pX10, pX11, pX12⟩ := X1.three
  go_wp2_with fail
  go_region_held3 (fun w' => w'.cell? ⟨w4.heap.size, 0, none⟩ = some (.int .i64 st) ∧ w'.cell? ⟨w4.heap.size, 1, none⟩ = some (.slice (some ⟨b, 0, none⟩) ss.length ss.length) ∧ w'.cell? ⟨w4.heap.size, 2, none⟩ = some (.slice (some ⟨b', 0, none⟩) bs.length bs.length) ∧
      w'.cell? ⟨w0.heap.size, 0, none⟩ = some (.int .i64 st) ∧ w'.cell? ⟨w0.heap.size, 1, none⟩ = some (.slice A ss.length c) ∧ w'.cell? ⟨w0.heap.size, 2, none⟩ = some (.slice A' bs.length c'))
    (first | exact ⟨pX10, pX11, pX12, pX00, pX01, pX02⟩ | exact ⟨q0', q1', q2', p0', p1', p2'⟩ | exact ⟨q0'', q1'', q2'', p0'', p1'', p2''⟩)
    (first
      | (go_at_call 9
         go_must (refine (toStairs_any st A A' c c' ss bs w0.heap.size w5.drew S.drew (by show _ ≤ w5.heap.size; omega)).mono ?_; rintro e w6 ⟨m, m', rfl, hm, hmm, hx6, hy6, hb6'⟩; have hb6 : Below w5.heap.size w5 w6 := below_undrew hb6'; have hz6 : w5.heap.size ≤ w6.heap.size := hb6.size; obtain ⟨p0', p1', p2'⟩ := (X0.below hb6 (by omega)).three; obtain ⟨q0', q1', q2'⟩ := (X1.below hb6 (by omega)).three))
      | (go_at_call 12
         go_must (refine (eqStairs_any _ _ _ _ _ _ _ _ _ _ _ _ _ _ w6.heap.size _ (st_of_blks (Hb.below hb6 (by omega)) (Hb'.below hb6 (by omega)) hns hnb) (st_of_blks hx6 hy6 hns hnb) (Nat.le_refl _)).mono ?_; rintro e w7 ⟨rfl, hb7⟩; rw [eqSt_self]; have hb : Below w5.heap.size w5 w7 := hb6.trans (hb7.mono (by omega)); obtain ⟨p0'', p1'', p2''⟩ := (X0.below hb (by omega)).three; obtain ⟨q0'', q1'', q2''⟩ := (X1.below hb (by omega)).three)))
  clear p0' p1' p2' q0' q1' q2' p0'' p1'' p2'' q0'' q1'' q2'' hx6 hy6 hm hmm hb6' hb6 hb7 hz6
  have z7 : w5.heap.size ≤ w7.heap.size := hb.size
  replace S := S.below hb (by omega)
  replace X0 := X0.below hb (by omega)
  replace Hb := Hb.below hb (by omega)
  replace Hb' := Hb'.below hb (by omega)
  replace X1 := X1.below hb (by omega)
  replace Bt := Bt.trans (hb.mono (by omega))
  clear hb
  clear pX00 pX01 pX02
  obtain ⟨pX00, pX01, pX02⟩ := X0.three
  clear pX10 pX11 pX12
  obtain ⟨pX10, pX11, pX12⟩ := X1.three
  go_wp2_with fail
  go_ret
  exact ⟨rfl, Bt⟩


end Go.Proofs.Ytbenlmkhcdfgmaa
