/- Plain facts on the counting of ways over bears. No program. -/
import Derived.Test.YtopcpejbjjjmdaaCount
namespace Go.Proofs.Ytopcpejbjjjmdaa

theorem sumS_append (a b r : List Int) : sumS (a ++ b) r = sumS a r + sumS b r := by
  induction a with
  | nil => simp [sumS]
  | cons s a ih => simp only [List.cons_append, sumS, ih]; omega
/-- the strides 1..r -/
def sdL (r : Nat) : List Int := (List.range r).map fun (j : Nat) => (j : Int) + 1
theorem sdL_succ (r : Nat) : sdL (r + 1) = sdL r ++ [(r : Int) + 1] := by simp [sdL, List.range_succ]
theorem sumS_sd_zero (l : List Int) : sumS (sdL 0) l = 0 := rfl
theorem sumS_sd_succ (r : Nat) (l : List Int) : sumS (sdL (r + 1)) l = sumS (sdL r) l + l.getD r 0 := by
  rw [sdL_succ, sumS_append]
  simp only [sumS, Int.add_zero]
  congr 2
theorem sdL_pos (r : Nat) : ∀ s ∈ sdL r, 1 ≤ s := by
  intro s hs
  simp only [sdL, List.mem_map, List.mem_range] at hs
  obtain ⟨j, _, rfl⟩ := hs
  omega
theorem sdL_sorted : ∀ r : Nat, (sdL r).Pairwise (· < ·)
  | 0 => List.Pairwise.nil
  | r + 1 => by
    rw [sdL_succ, List.pairwise_append]
    refine ⟨sdL_sorted r, by simp, ?_⟩
    intro a ha b hb
    simp only [sdL, List.mem_map, List.mem_range] at ha
    obtain ⟨j, hj, rfl⟩ := ha
    simp at hb
    omega
theorem sumS_long (l : List Int) : ∀ r : Nat, l.length ≤ r → sumS (sdL r) l = sumS (sdL l.length) l := by
  intro r h
  induction r with
  | zero => rw [show l.length = 0 by omega]
  | succ r ih =>
    by_cases e : l.length = r + 1
    · rw [e]
    · rw [sumS_sd_succ, ih (by omega), List.getD_eq_getElem?_getD, List.getElem?_eq_none (by omega)]; simp
/-- the step at distance d from the top bears no foot -/
def brkX (xs : List Int) (d : Nat) : Bool := decide (d ≤ xs.length) && decide (xs.getD (xs.length - d) 0 = 0)
/-- in how many ways one comes on to the top from distance d, where one can stand -/
def wX (xs : List Int) (r : Nat) (d : Nat) : Int := W (brkX xs) (sdL r) d
/-- the same from distance d + 1, also where one can't stand -/
def vX (xs : List Int) (r : Nat) (d : Nat) : Int := sumS (sdL r) (wy (brkX xs) (sdL r) d)
theorem wX_zero (xs : List Int) (r : Nat) : wX xs r 0 = 1 := rfl
theorem wX_dead {xs : List Int} {r d : Nat} (h : d + 1 ≤ xs.length) (h0 : xs.getD (xs.length - (d + 1)) 0 = 0) : wX xs r (d + 1) = 0 := by
  unfold wX; rw [W_succ, if_pos (by simp [brkX, h]; simpa using h0)]
theorem wX_alive {xs : List Int} {r d : Nat} (h : d + 1 ≤ xs.length → ¬ xs.getD (xs.length - (d + 1)) 0 = 0) : wX xs r (d + 1) = vX xs r d := by
  unfold wX vX; rw [W_succ, if_neg]
  simp only [brkX, Bool.and_eq_true, decide_eq_true_eq, not_and]
  exact h
theorem wX_ground (xs : List Int) (r : Nat) : wX xs r (xs.length + 1) = vX xs r xs.length := wX_alive (by omega)
theorem wX_nonneg (xs : List Int) (r d : Nat) : 0 ≤ wX xs r d := W_nonneg _ _ _
theorem vX_bd (xs : List Int) (r d j : Nat) : 0 ≤ sumS (sdL j) (wy (brkX xs) (sdL r) d) ∧ sumS (sdL j) (wy (brkX xs) (sdL r) d) ≤ 2 ^ d := by
  refine ⟨sumS_nonneg (fun j => wy_nonneg _ _ _ _) _, ?_⟩
  exact Int.le_trans (sumS_le_total _ _ (wy_mem_nonneg _ _ _) (sdL_pos j) (sdL_sorted j)) (total_le _ _ (sdL_pos r) (sdL_sorted r) d)
theorem wX_le (xs : List Int) (r d : Nat) : wX xs r d ≤ 2 ^ d := W_le _ _ (sdL_pos r) (sdL_sorted r) d
theorem wyX_getD (xs : List Int) (r d j : Nat) (h : j ≤ d) : (wy (brkX xs) (sdL r) d).getD j 0 = wX xs r (d - j) := by
  rw [wy_getD, if_pos h]; rfl
theorem wyX_none (xs : List Int) (r d j : Nat) (h : d < j) : (wy (brkX xs) (sdL r) d).getD j 0 = 0 := by
  rw [wy_getD, if_neg (by omega)]
/-- the sum of the first j of the places above distance d + 1 -/
def aX (xs : List Int) (r d j : Nat) : Int := sumS (sdL j) (wy (brkX xs) (sdL r) d)
theorem aX_zero (xs : List Int) (r d : Nat) : aX xs r d 0 = 0 := rfl
theorem aX_succ {xs : List Int} {r d j : Nat} (h : j ≤ d) : aX xs r d (j + 1) = aX xs r d j + wX xs r (d - j) := by
  unfold aX; rw [sumS_sd_succ, wyX_getD _ _ _ _ h]
theorem aX_end (xs : List Int) (r d : Nat) : aX xs r d r = vX xs r d := rfl
theorem aX_top {xs : List Int} {r d : Nat} (h : d + 1 ≤ r) : aX xs r d (d + 1) = vX xs r d := by
  unfold aX vX
  have := sumS_long (wy (brkX xs) (sdL r) d) r (by rw [wy_length]; omega)
  rw [wy_length] at this
  exact this.symm
theorem aX_bd (xs : List Int) {r d j : Nat} (hd : d ≤ 21) : 0 ≤ aX xs r d j ∧ aX xs r d j ≤ 2097152 := by
  have := vX_bd xs r d j
  have h2 : (2 : Int) ^ d ≤ 2 ^ 21 := by
    have : (2 : Nat) ^ d ≤ 2 ^ 21 := Nat.pow_le_pow_right (by omega) hd
    exact_mod_cast this
  exact ⟨this.1, Int.le_trans this.2 (by simpa using h2)⟩
theorem wX_bd (xs : List Int) (r : Nat) {d : Nat} (hd : d ≤ 21) : 0 ≤ wX xs r d ∧ wX xs r d ≤ 2097152 := by
  have := wX_le xs r d
  have h2 : (2 : Int) ^ d ≤ 2 ^ 21 := by
    have : (2 : Nat) ^ d ≤ 2 ^ 21 := Nat.pow_le_pow_right (by omega) hd
    exact_mod_cast this
  exact ⟨wX_nonneg _ _ _, Int.le_trans this (by simpa using h2)⟩

end Go.Proofs.Ytopcpejbjjjmdaa
