/- Contracts: the program's own search in a list, its set of broken steps, its walk. -/
import Derived.Test.YtbenlmkhcdfgmaaSteps
namespace Go.Proofs.Ytbenlmkhcdfgmaa
open Go.RowKit

theorem has_drop (xs : List Int) (x : Int) (k : Nat) (h : k < xs.length) : hasB (xs.drop k) x = (decide (x = xs.getD k 0) || hasB (xs.drop (k + 1)) x) := by
  rw [drop_at xs k h]; simp [hasB]

/-- WHAT A CALL LEAVES THAT MAKES A SET -/
def Makes (w : World) (n : Nat) (S : Int → Bool) (e : Ending) (w' : World) : Prop :=
  ∃ b, e = .returned (.map (some b)) ∧ w.heap.size ≤ b ∧ IsSet w' b n S ∧ Below w.heap.size w w'

set_option maxHeartbeats 1000000 in
theorem brokenSet_any (st : Int) (A A' : Option Addr) (c c' : Nat) (ss bs : List Int) (B : Nat) (w : World) (h : St w B st A A' c c' ss bs) (hB : B ≤ w.heap.size) (hw : ∀ x ∈ bs, 1 ≤ x ∧ x ≤ 60) :
    Calls Try.prog 33 #[stv st A A' c c' ss bs] w (Makes w bs.length (hasB bs)) := by
  have hmm := @run_makeMap Try.prog
  have S0 := IsSet.made (w.alloc (.cells #[.int .i64 st, .slice A ss.length c, .slice A' bs.length c'] 28))
  have S1 : IsSet ((w.alloc (.cells #[.int .i64 st, .slice A ss.length c, .slice A' bs.length c'] 28)).alloc (.map #[] 0)) (w.heap.size + 1) 0 (hasB (bs.take 0)) := by
    simpa using S0.congr (S' := hasB []) (fun i => by simp [hasB])
  clear S0
  have hnb := h.nb
  go_enter Try.func33, Try.ntmps33
  go_wp2_with fail
  go_loopw [10] (fun i wr => ∃ (k : Nat), k ≤ bs.length ∧ i = .int .i64 k ∧ IsSet wr (w.heap.size + 1) k (hasB (bs.take k)) ∧ Below (w.heap.size + 1) (w.alloc (.cells #[.int .i64 st, .slice A ss.length c, .slice A' bs.length c'] 28)) wr) (fun i _ => bs.length - (intOf i).toNat)
  case atStart => exact ⟨0, Nat.zero_le _, rfl, S1, (Below.refl _ _).alloc (by simp) _⟩
  case round =>
    obtain ⟨k, hk, rfl, hset, hbw⟩ := hrel
    have B1 : Below w.heap.size w wr := (below_alloc _ _).trans (hbw.mono (by omega))
    by_cases hlt : k < bs.length
    · obtain ⟨b, o, rfl, hb, hcell⟩ := (h.rb.below B1 hB).at_ hlt
      have hx := hw _ (getD_mem hlt)
      have E := Lib.hid (take_succ_getD hlt)
      generalize bs.getD k 0 = x at *
      have hx1 : 1 ≤ x := hx.1
      have hx2 : x ≤ 60 := hx.2
      obtain ⟨D, ho, hs⟩ := hset
      have HS := Lib.hid hs
      have HB := Lib.hid hbw
      clear hs hx hbw B1 hw
      go_wp2_with (at_mapUpdate; refine wpList_mapUpdate_own _ rfl _ _ _ 48 rfl 3 4 setKey Try.underlying48 _ (w.heap.size + 1) k _ rfl ho (by unfold maxLen; omega) _ _ (.int .i64 x) rfl rfl (Maps.keyOf_int_mk Try.underlying3 (wf64 (by omega) (by omega))) (.lit (.bool true)) [] (plainElem_bool Try.underlying4 true) ?_; intro w2 ho2 hg2)
      go_roundw
      case rel =>
        refine ⟨k + 1, by omega, by go_num, ?_, HB.out.grown hg2 (by have := HB.out.size; simp at this; omega) (fun j hj => by injection hj with hj; omega)⟩
        rw [E.out]
        exact (IsSet.put HS.out ho.isMap x ho2).congr fun i => (hasB_snoc _ _ _).symm
      case measure => simp [intOf]; omega
    · obtain rfl : k = bs.length := by omega
      go_wp2_with fail
      go_ret
      exact ⟨_, rfl, by omega, by simpa using hset, B1⟩

end Go.Proofs.Ytbenlmkhcdfgmaa
