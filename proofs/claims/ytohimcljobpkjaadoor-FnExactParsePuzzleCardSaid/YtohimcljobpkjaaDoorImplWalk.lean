/- Contracts: the program's own search in a list, its set of broken steps, its walk. -/
import Derived.Test.YtohimcljobpkjaaDoorSteps
namespace Go.Proofs.YtohimcljobpkjaaDoor
set_option maxRecDepth 100000
open Go.RowKit

theorem has_drop (xs : List Int) (x : Int) (k : Nat) (h : k < xs.length) : hasB (xs.drop k) x = (decide (x = xs.getD k 0) || hasB (xs.drop (k + 1)) x) := by
  rw [drop_at xs k h]; simp [hasB]

set_option maxHeartbeats 400000 in
theorem index_any (A : Option Addr) (c : Nat) (xs : List Int) (x : Int) (B : Nat) (w : World) (hr : Rd w B A c xs) (hn : xs.length ≤ 1048576) :
    Calls Tryd.prog 84 #[.slice A xs.length c, .int .i64 x] w fun e w' => (∃ n : Int, -1 ≤ n ∧ n ≤ 1048576 ∧ e = .returned (.int .i64 n) ∧ Hid (decide (0 ≤ n) = hasB xs x)) ∧ w = w' := by
  go_enter Tryd.func84, Tryd.ntmps84
  go_wp2
  go_loop [8] (fun i => ∃ (k : Nat), k ≤ xs.length ∧ i = .int .i64 k ∧ Hid (hasB xs x = hasB (xs.drop k) x)) (fun i => xs.length - (intOf i).toNat)
  case atStart => exact ⟨0, Nat.zero_le _, rfl, by simp [Hid]⟩
  case round =>
    obtain ⟨k, hk, rfl, H⟩ := hrel
    by_cases hlt : k < xs.length
    · obtain ⟨b, o, rfl, hb, hcell⟩ := hr.at_ hlt
      have E := Lib.hid (has_drop xs x k hlt)
      generalize xs.getD k 0 = y at *
      by_cases he : x = y
      · have HE := Lib.hid he
        subst he
        go_wp2
        go_ret
        exact ⟨⟨(k : Int), by omega, by omega, rfl, by rw [Hid, H.out, E.out]; simp⟩, rfl⟩
      · have HE := Lib.hid he
        go_wp2
        go_round
        case rel => exact ⟨k + 1, by omega, by go_num, by rw [Hid, H.out, E.out]; simp [HE.out]⟩
        case measure => simp [intOf]; omega
    · go_wp2
      go_ret
      exact ⟨⟨-1, by omega, by omega, rfl, by rw [Hid, H.out, List.drop_eq_nil_of_le (by omega)]; simp [hasB]⟩, rfl⟩

set_option maxHeartbeats 400000 in
theorem contains_any (A : Option Addr) (c : Nat) (xs : List Int) (x : Int) (B : Nat) (w : World) (hr : Rd w B A c xs) (hn : xs.length ≤ 1048576) :
    Calls Tryd.prog 68 #[.slice A xs.length c, .int .i64 x] w fun e w' => e = .returned (.bool (hasB xs x)) ∧ w = w' := by
  go_enter Tryd.func68, Tryd.ntmps68
  go_wp2_with fail
  refine (index_any _ _ _ _ _ _ hr hn).mono ?_
  rintro e w1 ⟨⟨n, h1, h2, rfl, H⟩, rfl⟩
  by_cases h0 : 0 ≤ n
  · go_wp2_with fail
    go_ret
    exact ⟨ret_bool (by first | exact H.out | (rw [← H.out]; simp [h0])), rfl⟩
  · go_wp2_with fail
    go_ret
    exact ⟨ret_bool (by first | exact H.out | (rw [← H.out]; simp [h0])), rfl⟩

/-- WHAT A CALL LEAVES THAT MAKES A SET -/
def Makes (w : World) (n : Nat) (S : Int → Bool) (e : Ending) (w' : World) : Prop :=
  ∃ b, e = .returned (.map (some b)) ∧ w.heap.size ≤ b ∧ IsSet w' b n S ∧ Below w.heap.size w w'

set_option maxHeartbeats 1000000 in
theorem brokenSet_any (st : Int) (A A' : Option Addr) (c c' : Nat) (ss bs : List Int) (B : Nat) (w : World) (h : St w B st A A' c c' ss bs) (hB : B ≤ w.heap.size) (hw : ∀ x ∈ bs, 1 ≤ x ∧ x ≤ 60) :
    Calls Tryd.prog 96 #[stv st A A' c c' ss bs] w (Makes w bs.length (hasB bs)) := by
  have hmm := @run_makeMap Tryd.prog
  have S0 := IsSet.made (w.alloc (.cells #[.int .i64 st, .slice A ss.length c, .slice A' bs.length c'] 84))
  have S1 : IsSet ((w.alloc (.cells #[.int .i64 st, .slice A ss.length c, .slice A' bs.length c'] 84)).alloc (.map #[] 0)) (w.heap.size + 1) 0 (hasB (bs.take 0)) := by
    simpa using S0.congr (S' := hasB []) (fun i => by simp [hasB])
  clear S0
  have hnb := h.nb
  go_enter Tryd.func96, Tryd.ntmps96
  go_wp2_with fail
  go_loopw [10] (fun i wr => ∃ (k : Nat), k ≤ bs.length ∧ i = .int .i64 k ∧ IsSet wr (w.heap.size + 1) k (hasB (bs.take k)) ∧ Below (w.heap.size + 1) (w.alloc (.cells #[.int .i64 st, .slice A ss.length c, .slice A' bs.length c'] 84)) wr) (fun i _ => bs.length - (intOf i).toNat)
  case atStart => exact ⟨0, Nat.zero_le _, rfl, S1, (Below.refl _ _).alloc (by simp) _⟩
  case round =>
    obtain ⟨k, hk, rfl, hset, hbw⟩ := hrel
    have B1 : Below w.heap.size w wr := (below_alloc _ _).trans (hbw.mono (by omega))
    by_cases hlt : k < bs.length
    · obtain ⟨b, o, rfl, hb, hcell⟩ := (h.rb.below B1 hB).at_ hlt
      have hx := hw _ (getD_mem hlt)
      have E := Lib.hid (take_succ_getD hlt)
      generalize bs.getD k 0 = x at *
      have hx1 : 1 ≤ x := hx.1
      have hx2 : x ≤ 60 := hx.2
      obtain ⟨D, ho, hs⟩ := hset
      have HS := Lib.hid hs
      have HB := Lib.hid hbw
      clear hs hx hbw B1 hw
      go_wp2_with (at_mapUpdate; refine wpList_mapUpdate_own _ rfl _ _ _ 140 rfl 3 4 setKey Tryd.underlying140 _ (w.heap.size + 1) k _ rfl ho (by unfold maxLen; omega) _ _ (.int .i64 x) rfl rfl (Maps.keyOf_int_mk Tryd.underlying3 (wf64 (by omega) (by omega))) (.lit (.bool true)) [] (plainElem_bool Tryd.underlying4 true) ?_; intro w2 ho2 hg2)
      go_roundw
      case rel =>
        refine ⟨k + 1, by omega, by go_num, ?_, HB.out.grown hg2 (by have := HB.out.size; simp at this; omega) (fun j hj => by injection hj with hj; omega)⟩
        rw [E.out]
        exact (IsSet.put HS.out ho.isMap x ho2).congr fun i => (hasB_snoc _ _ _).symm
      case measure => simp [intOf]; omega
    · obtain rfl : k = bs.length := by omega
      go_wp2_with fail
      go_ret
      exact ⟨_, rfl, by omega, by simpa using hset, B1⟩

end Go.Proofs.YtohimcljobpkjaaDoor
