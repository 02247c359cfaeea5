/- Plain facts on the climbs through a step. -/
import Derived.Test.YtimgnollnnepbaaStTo
import Derived.Test.YtimgnollnnepbaaSorted
namespace Go.Proofs.Ytimgnollnnepbaa
open Go.RowKit

theorem hasB_put (bs : List Int) (x y : Int) : hasB (putL bs x) y = (hasB bs y || y == x) := by
  rw [Bool.eq_iff_iff]
  simp only [hasB, List.contains_iff_mem, mem_putL, Bool.or_eq_true, beq_iff_eq]
theorem Good.put {st : Int} {ss bs : List Int} (G : Good st ss bs) {x : Int} (h1 : 1 ≤ x) (h2 : x < st) : Good st ss (putL bs x) :=
  ⟨G.st1, G.st2, G.l1, G.l2, G.hs, fun y hy => by
    rcases (mem_putL x y bs).1 hy with h | h
    · exact G.hb y h
    · omega, G.ps, putL_sorted x G.pb⟩
theorem Good.no {st : Int} {ss bs : List Int} (G : Good st ss bs) {x : Int} (h : x < 1 ∨ st ≤ x) : hasB bs x = false := by
  cases hx : hasB bs x
  · rfl
  · simp only [hasB, List.contains_iff_mem] at hx
    have := G.hb x hx
    omega
theorem tS_up (n : Nat) (ss bs : List Int) (k : Nat) : tS n ss bs k = W (fun j => hasB bs (j : Int)) ss k := by
  unfold tS wS
  congr 1
  funext d
  show hasB (turnL n bs) ((n : Int) - d) = _
  rw [hasB_turn]
  congr 1
  omega
theorem wS_up {n d : Nat} {ss bs : List Int} (h : d ≤ n) : wS n ss bs d = W (fun j => hasB bs ((n - j : Nat) : Int)) ss d := by
  unfold wS W
  rw [wy_congr (brk' := fun j => hasB bs ((n - j : Nat) : Int)) ss d (fun e h1 h2 => by
    show hasB bs ((n : Int) - e) = hasB bs ((n - e : Nat) : Int)
    congr 1
    omega)]
/-- in how many climbs one stands on a step -/
def th (n : Nat) (ss bs : List Int) (k : Nat) : Int := tS n ss bs k * wS n ss bs (n - k)
theorem th_cut {n k : Nat} {ss bs : List Int} (G : Good n ss bs) (h1 : 1 ≤ k) (h2 : k < n) (hb : hasB bs (k : Int) = false) : wS n ss bs n = th n ss bs k + wS n ss (putL bs k) n := by
  have h := through (fun j => hasB bs (j : Int)) ss (fun s hs => (G.hs s hs).1) n k h1 h2 (G.no (by simp)) hb
  unfold th
  rw [wS_up (Nat.le_refl n), tS_up, wS_up (Nat.sub_le n k), wS_up (bs := putL bs k) (Nat.le_refl n), h]
  congr 2
  funext d
  rw [hasB_put]
  congr 1
  rw [Bool.eq_iff_iff]
  simp only [beq_iff_eq]
  omega
theorem th_top {n : Nat} {ss bs : List Int} (G : Good n ss bs) : th n ss bs n = wS n ss bs n := by
  unfold th
  rw [Nat.sub_self, wS_zero, Int.mul_one, tS_up, wS_up (Nat.le_refl n)]
  exact to_top (fun j => hasB bs (j : Int)) ss (fun s hs => (G.hs s hs).1) n (by have := G.st1; omega) (G.no (by simp)) (G.no (by simp))
theorem th_zero (n : Nat) (ss bs : List Int) : th n ss bs 0 = wS n ss bs n := by
  unfold th
  rw [tS_zero, Int.one_mul, Nat.sub_zero]
theorem th_dead {n k : Nat} {ss bs : List Int} (h1 : 1 ≤ k) (hb : hasB bs (k : Int) = true) : th n ss bs k = 0 := by
  obtain ⟨d, rfl⟩ : ∃ d, k = d + 1 := ⟨k - 1, by omega⟩
  unfold th
  rw [tS_dead hb, Int.zero_mul]
theorem th_nonneg (n : Nat) (ss bs : List Int) (k : Nat) : 0 ≤ th n ss bs k := Int.mul_nonneg (wS_nonneg _ _ _ _) (wS_nonneg _ _ _ _)
theorem th_le {n k : Nat} {ss bs : List Int} (G : Good n ss bs) (h : k ≤ n) : th n ss bs k ≤ wS n ss bs n := by
  by_cases h0 : k = 0
  · rw [h0, th_zero]; exact Int.le_refl _
  · by_cases h1 : k = n
    · rw [h1, th_top G]; exact Int.le_refl _
    · cases hb : hasB bs (k : Int)
      · have := th_cut G (k := k) (by omega) (by omega) hb
        have := wS_nonneg n ss (putL bs k) n
        omega
      · rw [th_dead (by omega) hb]; exact wS_nonneg _ _ _ _
/-- the row of products, the first m of them made -/
def mulT (xs ys : List Int) (m : Nat) : List Int := tell xs.length fun j => if j < m then xs.getD j 0 * ys.getD j 0 else xs.getD j 0
theorem mulT_length (xs ys : List Int) (m : Nat) : (mulT xs ys m).length = xs.length := tell_length _ _
theorem mulT_get {xs ys : List Int} {m j : Nat} (h : j < xs.length) : (mulT xs ys m).getD j 0 = if j < m then xs.getD j 0 * ys.getD j 0 else xs.getD j 0 := tell_getD _ _ _ h
theorem mulT_zero (xs ys : List Int) : mulT xs ys 0 = xs := by
  refine list_ext_getD' (mulT_length _ _ _) fun j hj => ?_
  rw [mulT_length] at hj
  rw [mulT_get hj, if_neg (by omega)]
theorem mulT_set {xs ys : List Int} {m : Nat} (h : m < xs.length) : (mulT xs ys m).set m (xs.getD m 0 * ys.getD m 0) = mulT xs ys (m + 1) :=
  tell_set (g := fun j => if j < m + 1 then xs.getD j 0 * ys.getD j 0 else xs.getD j 0) h (by rw [if_pos (by omega)]) fun j _ h2 => by
    by_cases h3 : j < m
    · rw [if_pos h3, if_pos (by omega)]
    · rw [if_neg h3, if_neg (by omega)]
/-- the steps up to k that every climb stands on -/
def needL (n : Nat) (ss bs : List Int) : Nat → List Int
  | 0 => []
  | k + 1 => if th n ss bs (k + 1) = wS n ss bs n then needL n ss bs k ++ [(k : Int) + 1] else needL n ss bs k
theorem needL_yes {n : Nat} {ss bs : List Int} {k : Nat} (h : th n ss bs (k + 1) = wS n ss bs n) : needL n ss bs (k + 1) = needL n ss bs k ++ [(k : Int) + 1] := by rw [needL, if_pos h]
theorem needL_no {n : Nat} {ss bs : List Int} {k : Nat} (h : ¬ th n ss bs (k + 1) = wS n ss bs n) : needL n ss bs (k + 1) = needL n ss bs k := by rw [needL, if_neg h]
theorem needL_length (n : Nat) (ss bs : List Int) : ∀ k, (needL n ss bs k).length ≤ k
  | 0 => Nat.le_refl _
  | k + 1 => by
    have := needL_length n ss bs k
    unfold needL
    split
    · simp; omega
    · omega
def needB (st : Int) (ss bs : List Int) : Bool := goodB st ss bs && !decide (wS st ss bs st.toNat = 0)
def needR (st : Int) (ss bs : List Int) : List Int := if needB st ss bs then needL st.toNat ss bs st.toNat else []
theorem needR_length (st : Int) (ss bs : List Int) : (needR st ss bs).length ≤ 1048576 := by
  unfold needR
  split
  · next h =>
    simp only [needB, Bool.and_eq_true] at h
    have := (good_of h.1).st2
    have := needL_length st.toNat ss bs st.toNat
    omega
  · simp
/-- ClimbsThrough -/
def throughB (st : Int) (ss bs : List Int) (x : Int) : Bool := countB st ss bs && inB x 1 st
def throughV (st : Int) (ss bs : List Int) (x : Int) : Int := if throughB st ss bs x then th st.toNat ss bs x.toNat else 0
/-- the step in most climbs, of the first k + 1 steps -/
def topN (n : Nat) (ss bs : List Int) : Nat → Nat
  | 0 => 1
  | k + 1 => if th n ss bs (topN n ss bs k) < th n ss bs (k + 2) then k + 2 else topN n ss bs k
theorem topN_in (n : Nat) (ss bs : List Int) : ∀ k, 1 ≤ topN n ss bs k ∧ topN n ss bs k ≤ k + 1
  | 0 => ⟨Nat.le_refl _, Nat.le_refl _⟩
  | k + 1 => by
    have := topN_in n ss bs k
    unfold topN
    split <;> omega
theorem topN_yes {n : Nat} {ss bs : List Int} {k : Nat} (h : th n ss bs (topN n ss bs k) < th n ss bs (k + 2)) : topN n ss bs (k + 1) = k + 2 := by rw [topN, if_pos h]
theorem topN_no {n : Nat} {ss bs : List Int} {k : Nat} (h : ¬ th n ss bs (topN n ss bs k) < th n ss bs (k + 2)) : topN n ss bs (k + 1) = topN n ss bs k := by rw [topN, if_neg h]
def worstB (st : Int) (ss bs : List Int) : Bool := countB st ss bs && (!decide (wS st ss bs st.toNat = 0) && !decide (st = 1))
def worstN (st : Int) (ss bs : List Int) : Int := if worstB st ss bs then topN st.toNat ss bs (st.toNat - 2) else 0
def worstV (st : Int) (ss bs : List Int) : Int := if worstB st ss bs then th st.toNat ss bs (topN st.toNat ss bs (st.toNat - 2)) else 0

end Go.Proofs.Ytimgnollnnepbaa
