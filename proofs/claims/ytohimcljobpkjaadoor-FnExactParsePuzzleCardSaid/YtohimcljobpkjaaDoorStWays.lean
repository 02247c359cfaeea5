/- Plain facts on the counting of ways up stairs. No program. -/
import Derived.Test.YtohimcljobpkjaaDoorCount
import Derived.Test.YtohimcljobpkjaaDoorStMake
namespace Go.Proofs.YtohimcljobpkjaaDoor
set_option maxRecDepth 100000

theorem sumS_append (a b r : List Int) : sumS (a ++ b) r = sumS a r + sumS b r := by
  induction a with
  | nil => simp [sumS]
  | cons s a ih => simp only [List.cons_append, sumS, ih]; omega
theorem sumS_le_of_take {ss r : List Int} (hr : ∀ y ∈ r, 0 ≤ y) (hs : ∀ s ∈ ss, 1 ≤ s) (hp : ss.Pairwise (· < ·)) (k : Nat) : sumS (ss.take k) r ≤ total r :=
  sumS_le_total r _ hr (fun s h => hs s (List.mem_of_mem_take h)) (hp.sublist (List.take_sublist k ss))
/-- the place at distance d from the top is broken -/
def brkS (st : Int) (bs : List Int) (d : Nat) : Bool := hasB bs (st - d)
/-- in how many ways one comes on to the top from distance d -/
def wS (st : Int) (ss bs : List Int) (d : Nat) : Int := W (brkS st bs) ss d
/-- the sum over the first k strides at distance d + 1 -/
def pS (st : Int) (ss bs : List Int) (d k : Nat) : Int := sumS (ss.take k) (wy (brkS st bs) ss d)
/-- the ways on behind a stride of s from distance d + 1 -/
def sS (st : Int) (ss bs : List Int) (d : Nat) (s : Int) : Int := if s.toNat ≤ d + 1 then wS st ss bs (d + 1 - s.toNat) else 0
theorem wS_zero (st : Int) (ss bs : List Int) : wS st ss bs 0 = 1 := rfl
theorem pS_zero (st : Int) (ss bs : List Int) (d : Nat) : pS st ss bs d 0 = 0 := rfl
theorem pS_succ {st : Int} {ss bs : List Int} {d k : Nat} (hk : k < ss.length) (h1 : 1 ≤ ss.getD k 0) : pS st ss bs d (k + 1) = pS st ss bs d k + sS st ss bs d (ss.getD k 0) := by
  unfold pS sS wS
  rw [take_succ_getD hk, sumS_append]
  simp only [sumS, Int.add_zero]
  rw [wy_getD]
  congr 1
  by_cases h : (ss.getD k 0).toNat ≤ d + 1
  · rw [if_pos h, if_pos (by omega)]; congr 1; omega
  · rw [if_neg h, if_neg (by omega)]
theorem wS_dead {st : Int} {ss bs : List Int} {d : Nat} (h : hasB bs (st - (d + 1 : Nat)) = true) : wS st ss bs (d + 1) = 0 := by
  unfold wS; rw [W_succ, if_pos (show brkS st bs (d + 1) = true from h)]
theorem wS_alive {st : Int} {ss bs : List Int} {d : Nat} (h : hasB bs (st - (d + 1 : Nat)) = false) : wS st ss bs (d + 1) = pS st ss bs d ss.length := by
  unfold wS pS; rw [W_succ, if_neg (by unfold brkS; rw [h]; decide), List.take_length]
theorem pow60 : (2 : Int) ^ 60 = 1152921504606846976 := by decide
theorem pow_le60 {d : Nat} (h : d ≤ 60) : (2 : Int) ^ d ≤ 1152921504606846976 := by
  have : (2 : Nat) ^ d ≤ 2 ^ 60 := Nat.pow_le_pow_right (by omega) h
  have h2 : (2 : Int) ^ d ≤ 2 ^ 60 := by exact_mod_cast this
  rw [pow60] at h2; exact h2
theorem wS_nonneg (st : Int) (ss bs : List Int) (d : Nat) : 0 ≤ wS st ss bs d := W_nonneg _ _ _
theorem wS_bd {st : Int} {ss bs : List Int} (G : Good st ss bs) {d : Nat} (h : d ≤ 60) : 0 ≤ wS st ss bs d ∧ wS st ss bs d ≤ 1152921504606846976 :=
  ⟨wS_nonneg _ _ _ _, Int.le_trans (W_le _ _ (fun s hs => (G.hs s hs).1) G.ps d) (pow_le60 h)⟩
theorem sS_bd {st : Int} {ss bs : List Int} (G : Good st ss bs) {d : Nat} (h : d ≤ 59) (s : Int) : 0 ≤ sS st ss bs d s ∧ sS st ss bs d s ≤ 1152921504606846976 := by
  unfold sS
  split
  · exact wS_bd G (by omega)
  · omega
theorem pS_bd {st : Int} {ss bs : List Int} (G : Good st ss bs) {d : Nat} (h : d ≤ 60) (k : Nat) : 0 ≤ pS st ss bs d k ∧ pS st ss bs d k ≤ 1152921504606846976 := by
  refine ⟨sumS_nonneg (fun j => wy_nonneg _ _ _ _) _, ?_⟩
  exact Int.le_trans (sumS_le_of_take (wy_mem_nonneg _ _ _) (fun s hs => (G.hs s hs).1) G.ps k) (Int.le_trans (total_le _ _ (fun s hs => (G.hs s hs).1) G.ps d) (pow_le60 h))

/-! ### the program's row: n steps, m distances done -/
def onS (n : Nat) (ss bs : List Int) (m p : Nat) : Int := if p ≤ n ∧ n ≤ p + m then wS n ss bs (n - p) else 0
/-- the same while the place at distance m + 1 is being summed, k strides done -/
def onT (n : Nat) (ss bs : List Int) (m k p : Nat) : Int := if p + (m + 1) = n then pS n ss bs m k else onS n ss bs m p
theorem onS_first (n : Nat) (ss bs : List Int) : onS n ss bs 0 n = 1 := by
  unfold onS; rw [if_pos (by omega), Nat.sub_self]; rfl
theorem onS_rest {n : Nat} {ss bs : List Int} {p : Nat} (h : p ≠ n) : onS n ss bs 0 p = 0 := by
  unfold onS; rw [if_neg (by omega)]
theorem onT_zero {n : Nat} {ss bs : List Int} {m p : Nat} : onT n ss bs m 0 p = onS n ss bs m p := by
  unfold onT
  split
  · next h => unfold onS; rw [if_neg (by omega)]; rfl
  · rfl
theorem onS_dead {n : Nat} {ss bs : List Int} {m p : Nat} (h : hasB bs ((n : Int) - (m + 1 : Nat)) = true) : onS n ss bs m p = onS n ss bs (m + 1) p := by
  unfold onS
  by_cases h1 : p ≤ n ∧ n ≤ p + m
  · rw [if_pos h1, if_pos (by omega)]
  · rw [if_neg h1]
    by_cases h2 : p ≤ n ∧ n ≤ p + (m + 1)
    · rw [if_pos h2, show n - p = m + 1 by omega, wS_dead h]
    · rw [if_neg h2]
theorem onT_end {n : Nat} {ss bs : List Int} {m p : Nat} (h : hasB bs ((n : Int) - (m + 1 : Nat)) = false) : onT n ss bs m ss.length p = onS n ss bs (m + 1) p := by
  unfold onT
  by_cases h0 : p + (m + 1) = n
  · rw [if_pos h0]; unfold onS; rw [if_pos (by omega), show n - p = m + 1 by omega, wS_alive h]
  · rw [if_neg h0]; unfold onS
    by_cases h1 : p ≤ n ∧ n ≤ p + m
    · rw [if_pos h1, if_pos (by omega)]
    · rw [if_neg h1, if_neg (by omega)]
theorem onT_at {n : Nat} {ss bs : List Int} {m k a : Nat} (h : a + (m + 1) = n) : onT n ss bs m k a = pS n ss bs m k := by unfold onT; rw [if_pos h]
theorem onT_up {n : Nat} {ss bs : List Int} {m k a s : Nat} (h : a + (m + 1) = n) (hs : 1 ≤ s) : onT n ss bs m k (a + s) = sS n ss bs m (s : Int) := by
  unfold onT; rw [if_neg (by omega)]
  unfold onS sS
  rw [Int.toNat_natCast]
  by_cases h1 : s ≤ m + 1
  · rw [if_pos (by omega), if_pos h1]; congr 1; omega
  · rw [if_neg (by omega), if_neg h1]
theorem onT_else {n : Nat} {ss bs : List Int} {m k a p : Nat} (h : a + (m + 1) = n) (hp : p ≠ a) : onT n ss bs m k p = onT n ss bs m (k + 1) p := by
  unfold onT; rw [if_neg (by omega), if_neg (by omega)]
def onL (n : Nat) (ss bs : List Int) : List Int := tell (n + 10) (onS n ss bs n)
theorem onL_zero (n : Nat) (ss bs : List Int) : (onL n ss bs).getD 0 0 = wS n ss bs n := by
  unfold onL; rw [tell_getD _ _ _ (by omega)]; unfold onS; rw [if_pos (by omega), Nat.sub_zero]

/-! ### the model's row: capped at one more than a number -/
def capI (v : Int) : Int := leastI v 1000000000000001
def caS (n : Nat) (ss bs : List Int) (m p : Nat) : Int := capI (onS n ss bs m p)
def caT (n : Nat) (ss bs : List Int) (m k p : Nat) : Int := capI (onT n ss bs m k p)
theorem cap_add {a b : Int} (ha : 0 ≤ a) (hb : 0 ≤ b) : leastI (capI a + capI b) 1000000000000001 = capI (a + b) := by
  unfold capI leastI
  repeat' split
  all_goals omega
theorem cap_bd {a : Int} (ha : 0 ≤ a) : 0 ≤ capI a ∧ capI a ≤ 1000000000000001 := by
  unfold capI leastI; split <;> omega
theorem cap_le {a : Int} : (capI a ≤ 1000000000000000) ↔ a ≤ 1000000000000000 := by
  unfold capI leastI; split <;> omega
theorem cap_same {a : Int} (h : a ≤ 1000000000000000) : capI a = a := by
  unfold capI leastI; rw [if_pos (by omega)]
def caL (n : Nat) (ss bs : List Int) : List Int := tell (n + 1) (caS n ss bs n)
theorem caL_zero (n : Nat) (ss bs : List Int) : (caL n ss bs).getD 0 0 = capI (wS n ss bs n) := by
  unfold caL; rw [tell_getD _ _ _ (by omega)]; unfold caS onS; rw [if_pos (by omega), Nat.sub_zero]

end Go.Proofs.YtohimcljobpkjaaDoor
