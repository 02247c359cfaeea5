/- Floors to meet: plain mathematics. -/
import Derived.Test.YtmamcjnehnknmaaHoDoors
namespace Go.Proofs.Ytmamcjnehnknmaa
open Go.RowKit

def sumT (n : Nat) (F : Nat → Int) : Int := sumH (tell n F)
theorem tell_succ (n : Nat) (F : Nat → Int) : tell (n + 1) F = tell n F ++ [F n] := by simp [tell, List.range_succ]
theorem sumT_zero (F : Nat → Int) : sumT 0 F = 0 := rfl
theorem sumT_succ (n : Nat) (F : Nat → Int) : sumT (n + 1) F = sumT n F + F n := by unfold sumT; rw [tell_succ, sumH_snoc]
theorem sumT_add (F G : Nat → Int) : ∀ n, sumT n (fun j => F j + G j) = sumT n F + sumT n G
  | 0 => rfl
  | n + 1 => by rw [sumT_succ, sumT_succ, sumT_succ, sumT_add F G n]; omega
theorem sumT_ext {F G : Nat → Int} {n : Nat} (h : ∀ j, j < n → F j = G j) : sumT n F = sumT n G := by unfold sumT; rw [tell_ext h]
theorem sumT_none (F : Nat → Int) : ∀ n, (∀ j, j < n → F j = 0) → sumT n F = 0
  | 0, _ => rfl
  | n + 1, h => by rw [sumT_succ, sumT_none F n (fun j hj => h j (by omega)), h n (by omega)]; rfl
theorem sumT_one (G : Nat → Int) (f : Nat) : ∀ n, f < n → sumT n (fun j => if j = f then G j else 0) = G f
  | 0, h => absurd h (by omega)
  | n + 1, h => by
    rw [sumT_succ]
    by_cases hf : f = n
    · subst hf
      rw [sumT_none _ _ (fun j hj => if_neg (by omega)), if_pos rfl, Int.zero_add]
    · rw [sumT_one G f n (by omega), if_neg (by omega), Int.add_zero]
/-- a sum over a list by how often each number is in it -/
theorem sum_cnt (G : Nat → Int) (n : Nat) : ∀ fs : List Nat, (∀ f ∈ fs, f < n) → sumH (fs.map G) = sumT n (fun j => (fs.count j : Int) * G j)
  | [], _ => by rw [sumT_none _ _ (fun j _ => by simp)]; rfl
  | f :: r, h => by
    have h0 := sum_cnt G n r (fun x hx => h x (by simp [hx]))
    have h1 := sumT_one G f n (h f (by simp))
    simp only [List.map_cons, sumH]
    rw [h0, ← h1, ← sumT_add]
    refine sumT_ext fun j _ => ?_
    rw [List.count_cons]
    by_cases hj : f = j
    · subst hj
      simp only [beq_self_eq_true, if_true, Int.natCast_add, Int.add_mul]
      simp; omega
    · have hb : (f == j) = false := by simpa using hj
      rw [hb, if_neg (by omega)]
      simp
/-- the first least one of the first k -/
def mF (g : Nat → Int) : Nat → Nat
  | 0 => 0
  | k + 1 => if g k < g (mF g k) then k else mF g k
theorem mF_yes {g : Nat → Int} {k : Nat} (h : g k < g (mF g k)) : mF g (k + 1) = k := by rw [mF, if_pos h]
theorem mF_no {g : Nat → Int} {k : Nat} (h : ¬ g k < g (mF g k)) : mF g (k + 1) = mF g k := by rw [mF, if_neg h]
theorem mF_le (g : Nat → Int) : ∀ k, mF g k ≤ k - 1
  | 0 => Nat.le_refl _
  | k + 1 => by
    have := mF_le g k
    rw [mF]
    split <;> omega
theorem mF_ext {g g' : Nat → Int} : ∀ (n : Nat), (∀ k, k < n → g k = g' k) → mF g n = mF g' n
  | 0, _ => rfl
  | k + 1, h => by
    have e := mF_ext k (fun j hj => h j (by omega))
    have hl := mF_le g' k
    by_cases hk : k = 0
    · subst hk
      simp [mF]
    · rw [mF, mF, e, h k (by omega), h (mF g' k) (by omega)]
theorem btw_comm (ss : List Int) (a b : Nat) : btw ss a b = btw ss b a := by
  by_cases h : a ≤ b
  · by_cases h2 : b ≤ a
    · obtain rfl : a = b := by omega
      rfl
    · rw [btw_le h, btw_ge h2]
  · rw [btw_ge h, btw_le (by omega)]
/-- steps from floors to one -/
def totL (ss : List Int) (fs : List Nat) (to : Nat) : Int := sumH (fs.map fun f => btw ss f to)
/-- steps from so many on each floor to one -/
def mS (ss cs : List Int) (to : Nat) : Int := sumH (tell cs.length fun j => cs.getD j 0 * btw ss to j)
/-- how many are on each floor -/
def cntL (n : Nat) (fs : List Nat) : List Int := tell n fun j => (fs.count j : Int)
theorem cntL_length (n : Nat) (fs : List Nat) : (cntL n fs).length = n := tell_length _ _
theorem mS_cnt (ss : List Int) (n : Nat) (fs : List Nat) (h : ∀ f ∈ fs, f < n) (to : Nat) : mS ss (cntL n fs) to = totL ss fs to := by
  unfold mS totL
  rw [cntL_length, sum_cnt _ n fs h]
  unfold sumT
  congr 1
  refine tell_ext fun j hj => ?_
  unfold cntL
  rw [tell_getD _ _ _ hj, btw_comm ss to j]
theorem cntL_bd (n : Nat) (fs : List Nat) : ∀ j, j < (cntL n fs).length → 0 ≤ (cntL n fs).getD j 0 ∧ (cntL n fs).getD j 0 ≤ fs.length := fun j hj => by
  rw [cntL_length] at hj
  unfold cntL
  rw [tell_getD _ _ _ hj]
  have := List.count_le_length (a := j) (l := fs)
  omega
theorem totL_bd {ss bs : List Int} (G : GoodH ss bs) {to : Nat} (ht : to ≤ ss.length) : ∀ {fs : List Nat}, (∀ f ∈ fs, f ≤ ss.length) → 0 ≤ totL ss fs to ∧ totL ss fs to ≤ 440 * fs.length
  | [], _ => by simp [totL, sumH]
  | f :: r, h => by
    have h0 := totL_bd G ht (fs := r) (fun x hx => h x (by simp [hx]))
    have h1 := btw_bd G (h f (by simp)) ht
    unfold totL at h0 ⊢
    simp only [List.map_cons, sumH, List.length_cons]
    omega
/-- what is told so far -/
def leastX (g : Nat → Int) (k : Nat) : Int := if k = 0 then -1 else g (mF g k)

end Go.Proofs.Ytmamcjnehnknmaa
