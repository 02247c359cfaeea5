/- Contracts: the weakest part, and how many climbs can be made, on both sides. -/
import Derived.Test.YtkfacfhneooaiaaWearParts
import Derived.Test.YtkfacfhneooaiaaGSlices
namespace Go.Proofs.Ytkfacfhneooaiaa
open Go.RowKit

def mostX (xs : List Int) (r : Nat) : Int := minL (partsX xs r)
def weakX (xs : List Int) (r : Nat) : Int := idxF (mostX xs r) (partsX xs r) 0 + 1
theorem partsX_length (xs : List Int) (r : Nat) : (partsX xs r).length = xs.length - r + 1 := by unfold partsX; rw [tell_length]
theorem partsX_at {xs : List Int} {r k : Nat} (h : k < xs.length - r + 1) : (partsX xs r).getD k 0 = partS xs r k := by unfold partsX; rw [tell_getD _ _ _ h]
theorem minF_mem : ∀ (ys : List Int) (m : Int), minF m ys = m ∨ minF m ys ∈ ys
  | [], m => .inl rfl
  | y :: ys, m => by
    rw [minF]
    rcases minF_mem ys (if y < m then y else m) with h | h
    · rw [h]
      split
      · exact .inr (by simp)
      · exact .inl rfl
    · exact .inr (by simp [h])
theorem minL_at {xs : List Int} (h : 1 ≤ xs.length) : ∃ k, k < xs.length ∧ xs.getD k 0 = minL xs := by
  unfold minL
  rcases minF_mem (xs.drop 1) (xs.getD 0 0) with e | e
  · exact ⟨0, by omega, e.symm⟩
  · obtain ⟨j, hj, e2⟩ := List.getElem_of_mem (List.mem_of_mem_drop e)
    exact ⟨j, hj, by simpa [List.getD_eq_getElem?_getD, hj] using e2⟩
theorem minL_all {xs : List Int} : minF (xs.getD 0 0) xs = minL xs := by
  cases xs with
  | nil => rfl
  | cons x r => simp [minL, minF]
theorem mostX_bd {xs : List Int} (h : bearsB xs = true) {r : Nat} (hr : r ≤ 20) : 0 ≤ mostX xs r ∧ mostX xs r ≤ 2000 := by
  obtain ⟨k, hk, e⟩ := minL_at (xs := partsX xs r) (by rw [partsX_length]; omega)
  unfold mostX
  rw [← e, partsX_at (by rw [partsX_length] at hk; exact hk)]
  exact partS_bd h k r hr
theorem leastI_min (m x : Int) : leastI m x = if x < m then x else m := by unfold leastI; split <;> split <;> omega

set_option maxHeartbeats 2000000 in
theorem weParts_any (A : Option Addr) (c : Nat) (xs : List Int) (r : Nat) (B : Nat) (w : World) (hr : Rd w B A c xs) (hB : B ≤ w.heap.size) (hl : xs.length ≤ 20) (hr1 : 1 ≤ r) (hr2 : r ≤ xs.length) (hbe : bearsB xs = true) :
    Calls Try.prog 44 #[.slice A xs.length c, .int .i64 (r : Int)] w (ListP w (partsX xs r)) := by
  have HBe := Lib.hid hbe
  obtain ⟨b, o, hA, hb, _⟩ := hr.at_ (k := 0) (by omega)
  subst hA
  have hc := hr.1
  obtain ⟨n, hn⟩ : ∃ n, n = xs.length := ⟨_, rfl⟩
  have HN := Lib.hid hn
  rw [← hn] at hl hr2 hc
  rw [← hn]
  clear hbe hn
  go_enter Try.func44, Try.ntmps44
  go_wp2_with fail
  go_loopw [5, 6] (fun v i wr => ∃ k : Nat, k + r ≤ n + 1 ∧ i = .int .i64 k ∧ OwnI wr w.heap.size v (tell k (partS xs r)) ∧ Below w.heap.size w wr) (fun _ i _ => (22 - intOf i).toNat)
  case atStart => exact ⟨0, by omega, rfl, OwnI.nil _ _, Below.refl _ _⟩
  case round =>
    obtain ⟨k, hk, rfl, hown, hbw⟩ := hrel
    by_cases hlt : k + r ≤ n
    · have q1 : (k : Int) + (r : Int) ≤ (c : Int) := by omega
      have q2 : ¬ c = k := by omega
      have q3 : (k : Int) + (r : Int) ≤ (n : Int) := by omega
      have hz : w.heap.size ≤ wr.heap.size := hbw.size
      have HR := Lib.hid (hr.below hbw hB)
      go_wp2_with fail
      go_loop [7, 25] (fun s i => ∃ j : Nat, j ≤ r ∧ i = .int .i64 j ∧ s = .int .i64 (total ((xs.drop k).take j))) (fun _ i => (20 - intOf i).toNat)
      case atStart => exact ⟨0, by omega, rfl, by simp [total]⟩
      case round =>
        obtain ⟨j, hj, rfl, rfl⟩ := hrel
        by_cases hjr : j < r
        · obtain ⟨b', o', e, hb', hcell⟩ := HR.out.at_ (k := k + j) (by rw [← HN.out]; omega)
          obtain ⟨rfl, rfl⟩ : b' = b ∧ o' = o := by injection e with e; injection e with e1 e2; exact ⟨e1.symm, e2.symm⟩
          have bd := sub_bd HBe.out k j (by omega)
          have bd2 := sub_bd HBe.out k (j + 1) (by omega)
          have TS : total ((xs.drop k).take (j + 1)) = total ((xs.drop k).take j) + xs.getD (k + j) 0 := by
            rw [total_take_succ (by rw [List.length_drop, ← HN.out]; omega)]
            simp [List.getD_eq_getElem?_getD]
          have HT := Lib.hid TS
          rw [TS] at bd2
          rw [← Nat.add_assoc] at hcell
          clear TS e
          generalize total ((xs.drop k).take j) = u at *
          generalize xs.getD (k + j) 0 = x at *
          go_wp2
          go_round
          case rel => exact ⟨j + 1, by omega, by go_num, by rw [HT.out]⟩
          case measure => simp [intOf]; omega
        · obtain rfl : j = r := by omega
          have HS := Lib.hid (show tell (k + 1) (partS xs j) = tell k (partS xs j) ++ [total ((xs.drop k).take j)] by simp [tell, List.range_succ, partS])
          have hlen : (tell k (partS xs j)).length ≤ 1048576 := by rw [tell_length]; omega
          generalize tell k (partS xs j) = zs at *
          generalize total ((xs.drop k).take j) = u at *
          go_wp2_with (at_builtin; refine wpList_pushI _ rfl _ _ rfl w.heap.size _ zs rfl (hown.alloc _) wr.heap.size u rfl (by simp) hlen (by simp; omega) ?_; intro A1 c1 w2 hown1 hg1)
          go_roundw
          case rel => exact ⟨k + 1, by omega, by go_num, by rw [HS.out]; exact hown1, (hbw.alloc hz _).trans hg1⟩
          case measure => simp [intOf]; omega
    · obtain rfl : k = n - r + 1 := by omega
      have q3 : (n : Int) < ((n - r + 1 : Nat) : Int) + (r : Int) := by omega
      have HP := Lib.hid (show tell (n - r + 1) (partS xs r) = partsX xs r by unfold partsX; rw [← HN.out])
      rw [HP.out] at hown
      go_wp2_with fail
      go_ret
      exact ⟨_, rfl, hown, hbw⟩

end Go.Proofs.Ytkfacfhneooaiaa
