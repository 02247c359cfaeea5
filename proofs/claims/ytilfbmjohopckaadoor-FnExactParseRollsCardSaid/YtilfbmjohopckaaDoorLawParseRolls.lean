/- The law FnExactParseRolls: its walk, given what the two functions leave. -/
import Derived.Test.YtilfbmjohopckaaDoorGInts
import Derived.Test.YtilfbmjohopckaaDoorTxNin
namespace Go.Proofs.YtilfbmjohopckaaDoor
open Go.RowKit

set_option maxHeartbeats 2000000 in
set_option maxRecDepth 100000 in
theorem parseRolls_walk (s0 : ByteArray) (zs0 : List Int) (r1 : Bool) (hz0 : zs0.length ≤ 1048576) (w0 : World) (hn0 : s0.size ≤ 1048576)
    (hf : ∀ (w : World), Calls Tryd.prog 9 #[.string s0] w ((fun w => Lists w zs0 r1) w))
    (hT : TabI w0) (hE : ErrI w0) (hg : ∀ (w : World), TabI w → ErrI w → Calls Tryd.prog 10 #[.string s0] w ((fun w => Lists w zs0 r1) w)) :
    Calls Tryd.prog 4 #[.string s0] w0 fun e w' => e = .returned (.bool true) ∧ Below w0.heap.size w0 w' := by
  have Bt : Below w0.heap.size w0 w0 := Below.refl _ _
  go_enter Tryd.func4, Tryd.ntmps4
  go_wp2_with fail
  refine (hf w0).mono ?_
  rintro e w1 ⟨v0, he, O0, hb0⟩
  obtain ⟨A0, c0, hv, _⟩ := O0.form
  subst hv
  subst he
  have og0 := fun k h => (O0.lt k h).1
  have ol0 := fun k h => (O0.lt k h).2
  have hb : Below w0.heap.size w0 w1 := hb0
  have z1 : w0.heap.size ≤ w1.heap.size := hb.size
  replace Bt := Bt.trans (hb.mono (by omega))
  clear hb hb0
  go_wp2_with fail
  refine (hg w1 (hT.below Bt) (hE.below Bt (Nat.le_refl _))).mono ?_
  rintro e w2 ⟨v1, he, O1, hb0⟩
  obtain ⟨A1, c1, hv, _⟩ := O1.form
  subst hv
  subst he
  have og1 := fun k h => (O1.lt k h).1
  have ol1 := fun k h => (O1.lt k h).2
  have hb : Below w1.heap.size w1 w2 := hb0
  have z2 : w1.heap.size ≤ w2.heap.size := hb.size
  replace O0 := O0.below hb (Nat.le_refl _)
  replace Bt := Bt.trans (hb.mono (by omega))
  clear hb hb0
  go_wp2_with fail
  refine (eqIntS_new _ _ _ _ zs0 zs0 _ _ w2 O1.rd O0.rd hz0).mono ?_
  rintro e w3 ⟨rfl, hb0⟩
  have hb : Below w2.heap.size w2 w3 := hb0
  have z3 : w2.heap.size ≤ w3.heap.size := hb.size
  replace O0 := O0.below hb (Nat.le_refl _)
  replace O1 := O1.below hb (Nat.le_refl _)
  replace Bt := Bt.trans (hb.mono (by omega))
  rw [eqB_self]
  clear hb hb0
  go_wp2_with fail
  refine (markI_new _ _ 1 _ w3 O1 hz0 (by omega) (by omega)).mono ?_
  rintro e w4 ⟨rfl, M1, ht⟩
  have hge := fun k hk => og1 k (mem_rowL.1 hk)
  clear O1
  have z4 : w3.heap.size ≤ w4.heap.size := ht.size
  replace O0 := O0.turned ht (fun k hv hk => by have := hge k hk; have := ol0 k hv; omega)
  replace Bt := Bt.trans (ht.below (by omega) (fun k hk => by have := hge k hk; omega))
  clear ht hge
  go_wp2_with fail
  refine (heldIntS_any _ _ 1 _ w4 M1 hz0 (by omega) (by omega)).mono ?_
  rintro e wh ⟨rfl, rfl⟩
  go_wp2_with fail
  refine (hg w4 (hT.below Bt) (hE.below Bt (Nat.le_refl _))).mono ?_
  rintro e w5 ⟨v2, he, O2, hb0⟩
  obtain ⟨A2, c2, hv, _⟩ := O2.form
  subst hv
  subst he
  have og2 := fun k h => (O2.lt k h).1
  have ol2 := fun k h => (O2.lt k h).2
  have hb : Below w4.heap.size w4 w5 := hb0
  have z5 : w4.heap.size ≤ w5.heap.size := hb.size
  replace O0 := O0.below hb (Nat.le_refl _)
  replace M1 := M1.below hb (Nat.le_refl _)
  replace Bt := Bt.trans (hb.mono (by omega))
  clear hb hb0
  go_wp2_with fail
  refine (eqIntS_new _ _ _ _ zs0 zs0 _ _ w5 O2.rd O0.rd hz0).mono ?_
  rintro e w6 ⟨rfl, hb0⟩
  have hb : Below w5.heap.size w5 w6 := hb0
  have z6 : w5.heap.size ≤ w6.heap.size := hb.size
  replace O0 := O0.below hb (Nat.le_refl _)
  replace M1 := M1.below hb (Nat.le_refl _)
  replace O2 := O2.below hb (Nat.le_refl _)
  replace Bt := Bt.trans (hb.mono (by omega))
  rw [eqB_self]
  clear hb hb0
  go_wp2_with fail
  refine (heldIntS_any _ _ 1 _ w6 M1 hz0 (by omega) (by omega)).mono ?_
  rintro e wh ⟨rfl, rfl⟩
  go_wp2_with fail
  go_ret
  exact ⟨rfl, Bt⟩

end Go.Proofs.YtilfbmjohopckaaDoor
