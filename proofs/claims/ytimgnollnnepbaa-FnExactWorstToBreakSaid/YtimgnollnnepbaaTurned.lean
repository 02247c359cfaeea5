/- Contracts: the program's turned. -/
import Derived.Test.YtimgnollnnepbaaWith
import Derived.Test.YtimgnollnnepbaaSorted
namespace Go.Proofs.Ytimgnollnnepbaa
open Go.RowKit

/-- WHAT A CALL LEAVES THAT ANSWERS STAIRS ALONE, in memory of its own -/
def OnlySt (st : Int) (us vs : List Int) (w : World) (e : Ending) (w' : World) : Prop :=
  ∃ v v', e = .returned (.agg #[.int .i64 st, v, v']) ∧ OwnI w' w.heap.size v us ∧ OwnI w' w.heap.size v' vs ∧ Apart v v' ∧ Below w.heap.size w w'

set_option maxHeartbeats 2000000 in
theorem turned_any (st : Int) (A A' : Option Addr) (c c' : Nat) (ss bs : List Int) (B : Nat) (w : World) (h : St w B st A A' c c' ss bs) (hB : B ≤ w.heap.size) (G : Good st ss bs) :
    Calls Try.prog 74 #[stv st A A' c c' ss bs] w (OnlySt st ss (turnL st bs) w) := by
  have g1 := G.st1
  have g2 := G.st2
  have hnb := G.nb
  have HG := Lib.hid G
  have HE := Lib.hid (els_turn G)
  have hmm := @run_makeMap Try.prog
  clear G
  obtain ⟨W2, hW⟩ : ∃ W, W = (w.alloc (.cells #[.int .i64 st, .slice A ss.length c, .slice A' bs.length c'] 28)).alloc (.cells #[.int .i64 0, .slice none 0 0, .slice none 0 0] 28) := ⟨_, rfl⟩
  have hWs : W2.heap.size = w.heap.size + 2 := by rw [hW]; simp
  have XB : Blk W2 w.heap.size 28 #[.int .i64 st, .slice A ss.length c, .slice A' bs.length c'] := by rw [hW]; exact (Blk.new _ _ _).alloc _
  have XR : Blk W2 (w.heap.size + 1) 28 #[.int .i64 0, .slice none 0 0, .slice none 0 0] := by rw [hW]; exact Blk.new' (by simp)
  have h2 : St W2 B st A A' c c' ss bs := by rw [hW]; exact (h.alloc (by omega) _).alloc (by simp; omega) _
  have B2 : Below w.heap.size w W2 := by rw [hW]; exact (below_alloc _ _).trans ((Below.refl _ _).alloc (by simp) _)
  have hWl : w.heap.size + 2 ≤ W2.heap.size := by omega
  have hWg : W2.heap.size ≤ w.heap.size + 2 := by omega
  have HW := Lib.hid hW
  clear hW hWs
  go_enter Try.func74, Try.ntmps74
  go_wp2_with fail
  have S1 : IsSet (W2.alloc (.map #[] 0)) W2.heap.size 0 (hasB ((bs.take 0).map (st - ·))) := by
    simpa using (IsSet.made W2).congr (S' := hasB []) (fun i => by simp [hasB])
  have XB1 := XB.alloc (.map #[] 0)
  have XR1 := XR.alloc (.map #[] 0)
  have B1 : Below w.heap.size w (W2.alloc (.map #[] 0)) := B2.alloc (by omega) _
  have h1 := h2.alloc (by omega) (.map #[] 0)
  have WS : w.heap.size + 1 + 1 = W2.heap.size := by omega
  rw [← HW.out, WS]
  have WH := Lib.hid WS
  clear XB XR B2 h2 HW WS
  obtain ⟨w1, hw1⟩ : ∃ w1, w1 = W2.alloc (.map #[] 0) := ⟨_, rfl⟩
  rw [← hw1] at S1 XB1 XR1 B1 h1 ⊢
  have z1 : W2.heap.size < w1.heap.size := by rw [hw1]; simp
  clear hw1
  go_loopw [10] (fun i wr => ∃ (k : Nat), k ≤ bs.length ∧ i = .int .i64 k ∧ IsSet wr W2.heap.size k (hasB ((bs.take k).map (st - ·))) ∧ Below W2.heap.size w1 wr) (fun i _ => bs.length - (intOf i).toNat)
  case atStart => exact ⟨0, Nat.zero_le _, rfl, S1, Below.refl _ _⟩
  case round =>
    obtain ⟨k, hk, rfl, hset, hbw⟩ := hrel
    have zr := hbw.size
    obtain ⟨p0, p1, p2⟩ := (XB1.below hbw (by omega)).three
    by_cases hlt : k < bs.length
    · obtain ⟨b, o, rfl, hb, hcell⟩ := (h1.below hbw (by omega)).rb.at_ hlt
      have hx := HG.out.hb _ (getD_mem hlt)
      have E := Lib.hid (take_succ_getD hlt)
      generalize bs.getD k 0 = x at *
      have hx1 : 1 ≤ x := hx.1
      have hx2 : x ≤ st - 1 := hx.2
      obtain ⟨D, ho, hs⟩ := hset
      have HS := Lib.hid hs
      have HB := Lib.hid hbw
      clear hs hx hbw
      go_wp2_with (at_mapUpdate; refine wpList_mapUpdate_own _ rfl _ _ _ 61 rfl 3 4 setKey Try.underlying61 _ W2.heap.size k _ rfl ho (by unfold maxLen; omega) _ _ (.int .i64 (st - x)) rfl rfl (Maps.keyOf_int_mk Try.underlying3 (wf64 (by omega) (by omega))) (.lit (.bool true)) [] (plainElem_bool Try.underlying4 true) ?_; intro w2 ho2 hg2)
      go_roundw
      case rel =>
        refine ⟨k + 1, by omega, by go_num, ?_, HB.out.grown hg2 (by omega) (fun j hj => by injection hj with hj; omega)⟩
        rw [E.out, List.map_append]
        exact (IsSet.put HS.out ho.isMap (st - x) ho2).congr fun i => (hasB_snoc _ _ _).symm
      case measure => simp [intOf]; omega
    · obtain rfl : k = bs.length := by omega
      rw [List.take_length] at hset
      go_wp2_with fail
      refine (withBroken_any st A A' c c' ss bs W2.heap.size bs.length _ B wr (h1.below hbw (by omega)) (by omega) hset ?_).mono ?_
      · intro i hi
        obtain ⟨y, hy, rfl⟩ := List.mem_map.1 (mem_of_hasB hi)
        have := HG.out.hb y hy
        omega
      rintro e w4 ⟨v1, v2, he, hv1, hv2, hap, ht4⟩
      obtain ⟨w3, rfl⟩ : ∃ w3, w3 = wr := ⟨_, rfl⟩
      have XR3 := XR1.below hbw (by omega)
      have B3 := (Turned.of_below (B1.trans (hbw.mono (by omega))) [W2.heap.size])
      have z4 : w3.heap.size ≤ w4.heap.size := ht4.size
      obtain ⟨A1, c1, hvv, _⟩ := hv1.form
      subst hvv
      obtain ⟨A2, c2, hvv, _⟩ := hv2.form
      subst hvv
      subst he
      have XR4 := XR3.turned ht4 (by simp; omega)
      obtain ⟨s0, s1, s2, f0, f1, f2⟩ := XR4.six
      go_wp2_with fail
      have XF := XR4.full (.int .i64 st) (.slice A1 ss.length c1) (.slice A2 (els (hasB (bs.map (st - ·))) 60).length c2)
      obtain ⟨t0, t1, t2⟩ := XF.three
      have g1 := fun k h => (hv1.lt k h).1
      have g2 := fun k h => (hv2.lt k h).1
      refine bodyPost_ret (v := .agg #[.int .i64 st, .slice A1 ss.length c1, .slice A2 (els (hasB (bs.map (st - ·))) 60).length c2]) (by simp [results, Try.results74, go_sem, t0, t1, t2]) rfl ?_
      have o1 := (own_full hv1 (g := w.heap.size + 1) (fun k hk e => by have := g1 k hk; omega) (.int .i64 st) (.slice A1 ss.length c1) (.slice A2 (els (hasB (bs.map (st - ·))) 60).length c2)).mono (B' := w.heap.size) (by omega)
      have o2 := (own_full hv2 (g := w.heap.size + 1) (fun k hk e => by have := g2 k hk; omega) (.int .i64 st) (.slice A1 ss.length c1) (.slice A2 (els (hasB (bs.map (st - ·))) 60).length c2)).mono (B' := w.heap.size) (by omega)
      have bt := (turned_full (B3.trans' ht4) (g := w.heap.size + 1) (by omega) (.int .i64 st) (.slice A1 ss.length c1) (.slice A2 (els (hasB (bs.map (st - ·))) 60).length c2)).below (B := w.heap.size) (Nat.le_refl _) (fun k hk => by simp at hk; omega)
      refine ⟨_, _, rfl, o1, ?_, hap, bt⟩
      rw [← HE.out]
      exact o2

end Go.Proofs.Ytimgnollnnepbaa
