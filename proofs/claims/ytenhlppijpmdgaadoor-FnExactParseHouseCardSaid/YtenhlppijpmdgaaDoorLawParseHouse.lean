/- The law FnExactParseHouse: its walk, given what the two functions leave. -/
import Derived.Test.YtenhlppijpmdgaaDoorHoNew
import Derived.Test.YtenhlppijpmdgaaDoorTxNin
import Derived.Deep.RegionHeld3
namespace Go.Proofs.YtenhlppijpmdgaaDoor
open Go.RowKit

set_option maxHeartbeats 2000000 in
set_option maxRecDepth 100000 in
theorem parseHouse_walk (s0 : ByteArray) (us vs : List Int) (ok : Bool) (hul : us.length ≤ 1048576) (hvl : vs.length ≤ 1048576) (w0 : World) (hn0 : s0.size ≤ 1048576)
    (hf : ∀ (w : World), Calls Tryd.prog 18 #[.string s0] w (SomeHo us vs ok w))
    (hT : TabI w0) (hE : ErrI w0) (hg : ∀ (w : World), TabI w → ErrI w → Calls Tryd.prog 19 #[.string s0] w (NewHo us vs ok w)) :
    Calls Tryd.prog 6 #[.string s0] w0 fun e w' => e = .returned (.bool true) ∧ Below w0.heap.size w0 w' := by
  have Bt : Below w0.heap.size w0 w0 := Below.refl _ _
  go_enter Tryd.func6, Tryd.ntmps6
  go_wp2_with fail
  refine (hf w0).mono ?_
  rintro e w1 ⟨E0, E0', e0, e0', rfl, T0, hb0⟩
  have hb : Below w0.heap.size w0 w1 := hb0
  have z1 : w0.heap.size ≤ w1.heap.size := hb.size
  replace Bt := Bt.trans (hb.mono (by omega))
  clear hb hb0
  go_wp2_with fail
  refine (hg (w1.alloc (.cells #[.slice E0 us.length e0, .slice E0' vs.length e0'] 38)) (hT.below (Bt.alloc (by omega) _)) (hE.below (Bt.alloc (by omega) _) (Nat.le_refl _))).mono ?_
  rintro e w2 ⟨v1, v1', he, O1, O1', ap1, hb0⟩
  obtain ⟨A1, c1, hv, _⟩ := O1.form
  subst hv
  obtain ⟨A1', c1', hv, _⟩ := O1'.form
  subst hv
  subst he
  replace O1 := O1.mono (B' := w1.heap.size + 1) (by simp)
  replace O1' := O1'.mono (B' := w1.heap.size + 1) (by simp)
  have og1 := fun k h => (O1.lt k h).1
  have ol1 := fun k h => (O1.lt k h).2
  have og1' := fun k h => (O1'.lt k h).1
  have ol1' := fun k h => (O1'.lt k h).2
  have hb : Below w1.heap.size w1 w2 := (below_alloc _ _).trans (hb0.mono (by simp; try omega))
  have z2 : w1.heap.size ≤ w2.heap.size := hb.size
  have za2 : w1.heap.size + 1 ≤ w2.heap.size := by have := hb0.size; simp at this; omega
  replace T0 := T0.below hb (by omega)
  replace Bt := Bt.trans (hb.mono (by omega))
  have XW : Blk w2 (w1.heap.size) 38 #[.slice E0 us.length e0, .slice E0' vs.length e0'] := (Blk.new' (by simp)).below hb0 (by simp)
  clear hb hb0
  obtain ⟨pXW0, pXW1⟩ := XW.two
  have lXW := XW.lt
  go_wp2_with fail
  refine (eqHouse_any _ _ _ _ _ _ _ _ us vs us vs w2.heap.size (w2.alloc (.cells #[.slice A1 us.length c1, .slice A1' vs.length c1'] 38)) ((Ho.mk (O1.rd) (O1'.rd) hul hvl : Ho w2 w2.heap.size A1 A1' c1 c1' us vs).below (below_alloc _ _) (Nat.le_refl _)) ((T0.more (B' := w2.heap.size) (by omega)).below (below_alloc _ _) (Nat.le_refl _)) (by first | exact Nat.le_refl _ | simp)).mono ?_
  rintro e w3 ⟨rfl, hb0⟩
  have hb : Below w2.heap.size w2 w3 := (below_alloc _ _).trans (hb0.mono (by simp; try omega))
  have z3 : w2.heap.size ≤ w3.heap.size := hb.size
  have za3 : w2.heap.size + 1 ≤ w3.heap.size := by have := hb0.size; simp at this; omega
  replace T0 := T0.below hb (by omega)
  replace XW := XW.below hb (by omega)
  replace O1 := O1.below hb (Nat.le_refl _)
  replace O1' := O1'.below hb (Nat.le_refl _)
  replace Bt := Bt.trans (hb.mono (by omega))
  have XG : Blk w3 (w2.heap.size) 38 #[.slice A1 us.length c1, .slice A1' vs.length c1'] := (Blk.new' (by simp)).below hb0 (by simp)
  rw [eqHo_self]
  clear hb hb0
  clear pXW0 pXW1 lXW
  obtain ⟨pXW0, pXW1⟩ := XW.two
  have lXW := XW.lt
  obtain ⟨pXG0, pXG1⟩ := XG.two
  have lXG := XG.lt
  go_wp2_with fail
  refine (markHouse_any _ _ us vs 1 _ _ w3 O1 O1' ap1 hul hvl (by omega) (by omega)).mono ?_
  rintro e w4 ⟨rfl, M1, M1', ht⟩
  have hge : ∀ k ∈ rowL (.slice A1 us.length c1) ++ rowL (.slice A1' vs.length c1'), w1.heap.size + 1 ≤ k := fun k hk => (List.mem_append.1 hk).elim (fun h => og1 k (mem_rowL.1 h)) (fun h => og1' k (mem_rowL.1 h))
  clear O1
  clear O1'
  have xgn : ∀ k ∈ rowL (.slice A1 us.length c1) ++ rowL (.slice A1' vs.length c1'), k < w2.heap.size := fun k hk => (List.mem_append.1 hk).elim (fun h => ol1 k (mem_rowL.1 h)) (fun h => ol1' k (mem_rowL.1 h))
  have XG2 := XG.turned ht (fun hk => by have := xgn _ hk; omega)
  clear pXG0 pXG1 lXG
  clear XG
  have z4 : w3.heap.size ≤ w4.heap.size := ht.size
  replace T0 := T0.turned ht (by omega) (fun k hk => by have := hge k hk; omega)
  replace XW := XW.turned ht (fun hk => by have := hge _ hk; omega)
  replace Bt := Bt.trans (ht.below (by omega) (fun k hk => by have := hge k hk; omega))
  clear ht hge
  clear pXW0 pXW1 lXW
  obtain ⟨pXW0, pXW1⟩ := XW.two
  have lXW := XW.lt
  have XG := XG2
  clear XG2 xgn
  clear pXW0 pXW1 lXW
  obtain ⟨pXW0, pXW1⟩ := XW.two
  have lXW := XW.lt
  obtain ⟨pXG0, pXG1⟩ := XG.two
  have lXG := XG.lt
  go_wp2_with fail
  refine (heldHouse_any _ _ us.length vs.length 1 _ _ w4 M1 M1' hul hvl (by omega) (by omega)).mono ?_
  rintro e w5 ⟨rfl, hb0⟩
  have hb : Below w4.heap.size w4 w5 := hb0
  have z5 : w4.heap.size ≤ w5.heap.size := hb.size
  replace T0 := T0.below hb (by omega)
  replace XW := XW.below hb (by omega)
  replace XG := XG.below hb (by omega)
  replace M1 := M1.below hb (Nat.le_refl _)
  replace M1' := M1'.below hb (Nat.le_refl _)
  replace Bt := Bt.trans (hb.mono (by omega))
  clear hb hb0
  clear pXW0 pXW1 lXW
  obtain ⟨pXW0, pXW1⟩ := XW.two
  have lXW := XW.lt
  clear pXG0 pXG1 lXG
  obtain ⟨pXG0, pXG1⟩ := XG.two
  have lXG := XG.lt
  go_wp2_with fail
  refine (hg w5 (hT.below Bt) (hE.below Bt (Nat.le_refl _))).mono ?_
  rintro e w6 ⟨v2, v2', he, O2, O2', ap2, hb0⟩
  obtain ⟨A2, c2, hv, _⟩ := O2.form
  subst hv
  obtain ⟨A2', c2', hv, _⟩ := O2'.form
  subst hv
  subst he
  have og2 := fun k h => (O2.lt k h).1
  have ol2 := fun k h => (O2.lt k h).2
  have og2' := fun k h => (O2'.lt k h).1
  have ol2' := fun k h => (O2'.lt k h).2
  have hb : Below w5.heap.size w5 w6 := hb0
  have z6 : w5.heap.size ≤ w6.heap.size := hb.size
  replace T0 := T0.below hb (by omega)
  replace XW := XW.below hb (by omega)
  replace XG := XG.below hb (by omega)
  replace M1 := M1.below hb (Nat.le_refl _)
  replace M1' := M1'.below hb (Nat.le_refl _)
  replace Bt := Bt.trans (hb.mono (by omega))
  clear hb hb0
  clear pXW0 pXW1 lXW
  obtain ⟨pXW0, pXW1⟩ := XW.two
  have lXW := XW.lt
  clear pXG0 pXG1 lXG
  obtain ⟨pXG0, pXG1⟩ := XG.two
  have lXG := XG.lt
  go_wp2_with fail
  refine (eqHouse_any _ _ _ _ _ _ _ _ us vs us vs w6.heap.size (w6.alloc (.cells #[.slice A2 us.length c2, .slice A2' vs.length c2'] 38)) ((Ho.mk (O2.rd) (O2'.rd) hul hvl : Ho w6 w6.heap.size A2 A2' c2 c2' us vs).below (below_alloc _ _) (Nat.le_refl _)) ((T0.more (B' := w6.heap.size) (by omega)).below (below_alloc _ _) (Nat.le_refl _)) (by first | exact Nat.le_refl _ | simp)).mono ?_
  rintro e w7 ⟨rfl, hb0⟩
  have hb : Below w6.heap.size w6 w7 := (below_alloc _ _).trans (hb0.mono (by simp; try omega))
  have z7 : w6.heap.size ≤ w7.heap.size := hb.size
  have za7 : w6.heap.size + 1 ≤ w7.heap.size := by have := hb0.size; simp at this; omega
  replace T0 := T0.below hb (by omega)
  replace XW := XW.below hb (by omega)
  replace XG := XG.below hb (by omega)
  replace M1 := M1.below hb (Nat.le_refl _)
  replace M1' := M1'.below hb (Nat.le_refl _)
  replace O2 := O2.below hb (Nat.le_refl _)
  replace O2' := O2'.below hb (Nat.le_refl _)
  replace Bt := Bt.trans (hb.mono (by omega))
  have XH : Blk w7 (w6.heap.size) 38 #[.slice A2 us.length c2, .slice A2' vs.length c2'] := (Blk.new' (by simp)).below hb0 (by simp)
  rw [eqHo_self]
  clear hb hb0
  clear pXW0 pXW1 lXW
  obtain ⟨pXW0, pXW1⟩ := XW.two
  have lXW := XW.lt
  clear pXG0 pXG1 lXG
  obtain ⟨pXG0, pXG1⟩ := XG.two
  have lXG := XG.lt
  obtain ⟨pXH0, pXH1⟩ := XH.two
  have lXH := XH.lt
  go_wp2_with fail
  refine (heldHouse_any _ _ us.length vs.length 1 _ _ w7 M1 M1' hul hvl (by omega) (by omega)).mono ?_
  rintro e w8 ⟨rfl, hb0⟩
  have hb : Below w7.heap.size w7 w8 := hb0
  have z8 : w7.heap.size ≤ w8.heap.size := hb.size
  replace T0 := T0.below hb (by omega)
  replace XW := XW.below hb (by omega)
  replace XG := XG.below hb (by omega)
  replace M1 := M1.below hb (Nat.le_refl _)
  replace M1' := M1'.below hb (Nat.le_refl _)
  replace O2 := O2.below hb (Nat.le_refl _)
  replace O2' := O2'.below hb (Nat.le_refl _)
  replace XH := XH.below hb (by omega)
  replace Bt := Bt.trans (hb.mono (by omega))
  clear hb hb0
  clear pXW0 pXW1 lXW
  obtain ⟨pXW0, pXW1⟩ := XW.two
  have lXW := XW.lt
  clear pXG0 pXG1 lXG
  obtain ⟨pXG0, pXG1⟩ := XG.two
  have lXG := XG.lt
  clear pXH0 pXH1 lXH
  obtain ⟨pXH0, pXH1⟩ := XH.two
  have lXH := XH.lt
  go_wp2_with fail
  go_ret
  exact ⟨rfl, Bt⟩

end Go.Proofs.YtenhlppijpmdgaaDoor
