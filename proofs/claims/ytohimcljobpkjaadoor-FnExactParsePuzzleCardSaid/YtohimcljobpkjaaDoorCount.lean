/- Plain facts on the counting of ways: from the top down, from the ground up, and the cut identity between them. No program. -/
import Derived.WalkKit
namespace Go.Proofs.YtohimcljobpkjaaDoor
set_option maxRecDepth 100000

/-- the sum of a list at the strides: r tells the counts of the next places, the next one first -/
def sumS : List Int → List Int → Int
  | [], _ => 0
  | s :: ss, r => r.getD (s.toNat - 1) 0 + sumS ss r
/-- the counts at distances d, d-1, .., 0 from the end; 'brk d': the place at distance d is broken -/
def wy (brk : Nat → Bool) (ss : List Int) : Nat → List Int
  | 0 => [1]
  | d + 1 => (if brk (d + 1) then 0 else sumS ss (wy brk ss d)) :: wy brk ss d
/-- the count at distance d -/
def W (brk : Nat → Bool) (ss : List Int) (d : Nat) : Int := (wy brk ss d).headD 0

theorem wy_length (brk : Nat → Bool) (ss : List Int) : ∀ d, (wy brk ss d).length = d + 1
  | 0 => rfl
  | d + 1 => by simp [wy, wy_length brk ss d]
theorem wy_cons (brk : Nat → Bool) (ss : List Int) (d : Nat) : wy brk ss (d + 1) = W brk ss (d + 1) :: wy brk ss d := rfl
theorem W_succ (brk : Nat → Bool) (ss : List Int) (d : Nat) : W brk ss (d + 1) = if brk (d + 1) then 0 else sumS ss (wy brk ss d) := rfl
theorem W_zero (brk : Nat → Bool) (ss : List Int) : W brk ss 0 = 1 := rfl
theorem wy_getD (brk : Nat → Bool) (ss : List Int) : ∀ d j, (wy brk ss d).getD j 0 = if j ≤ d then W brk ss (d - j) else 0
  | 0, 0 => rfl
  | 0, j + 1 => by simp [wy]
  | d + 1, 0 => by simp [wy_cons]
  | d + 1, j + 1 => by
    rw [wy_cons, List.getD_cons_succ, wy_getD brk ss d j]
    by_cases h : j ≤ d
    · rw [if_pos h, if_pos (by omega)]; congr 1; omega
    · rw [if_neg h, if_neg (by omega)]

theorem wy_congr {brk brk' : Nat → Bool} (ss : List Int) : ∀ d, (∀ e, 1 ≤ e → e ≤ d → brk e = brk' e) → wy brk ss d = wy brk' ss d
  | 0, _ => rfl
  | d + 1, h => by
    have e := wy_congr ss d (fun e h1 h2 => h e h1 (by omega))
    simp only [wy, e, h (d + 1) (by omega) (Nat.le_refl _)]

theorem sumS_nonneg {r : List Int} (hr : ∀ j, 0 ≤ r.getD j 0) : ∀ ss, 0 ≤ sumS ss r
  | [] => Int.le_refl _
  | s :: ss => by
    have h1 := sumS_nonneg hr ss
    have h2 := hr (s.toNat - 1)
    simp only [sumS]
    omega
theorem W_nonneg (brk : Nat → Bool) (ss : List Int) : ∀ d, 0 ≤ W brk ss d
  | 0 => by simp [W_zero]
  | d + 1 => by
    rw [W_succ]
    split
    · exact Int.le_refl _
    · refine sumS_nonneg (fun j => ?_) ss
      rw [wy_getD]
      split
      · exact W_nonneg brk ss _
      · exact Int.le_refl _
  termination_by d => d
  decreasing_by omega
theorem wy_nonneg (brk : Nat → Bool) (ss : List Int) (d j : Nat) : 0 ≤ (wy brk ss d).getD j 0 := by
  rw [wy_getD]
  split
  · exact W_nonneg brk ss _
  · exact Int.le_refl _

/-! ### no count is greater than 2^d -/
def total : List Int → Int
  | [] => 0
  | y :: r => y + total r
theorem sumS_shift (y : Int) (r : List Int) : ∀ ss : List Int, (∀ s ∈ ss, 2 ≤ s) → sumS ss (y :: r) = sumS (ss.map (· - 1)) r
  | [], _ => rfl
  | s :: ss, h => by
    have h1 := h s (by simp)
    obtain ⟨k, hk⟩ : ∃ k : Nat, s.toNat - 1 = k + 1 := ⟨s.toNat - 2, by omega⟩
    simp only [sumS, List.map_cons, sumS_shift y r ss (fun t ht => h t (by simp [ht]))]
    rw [hk, List.getD_cons_succ]
    congr 2
    omega
theorem sumS_nil : ∀ ss : List Int, sumS ss [] = 0
  | [] => rfl
  | s :: ss => by simp [sumS, sumS_nil ss]
theorem sumS_le_total : ∀ (r : List Int) (ss : List Int), (∀ y ∈ r, 0 ≤ y) → (∀ s ∈ ss, 1 ≤ s) → ss.Pairwise (· < ·) → sumS ss r ≤ total r
  | [], ss, _, _, _ => by rw [sumS_nil]; exact Int.le_refl _
  | y :: r, [], hr, _, _ => by
    have := sumS_le_total r [] (fun z hz => hr z (by simp [hz])) (by simp) List.Pairwise.nil
    have := hr y (by simp)
    simp only [sumS, total] at *
    omega
  | y :: r, s :: ss, hr, hs, hp => by
    obtain ⟨h1, h2⟩ := List.pairwise_cons.1 hp
    have hy := hr y (by simp)
    have hs1 := hs s (by simp)
    by_cases e : s = 1
    · subst e
      have hrest : sumS ss (y :: r) = sumS (ss.map (· - 1)) r := sumS_shift y r ss (fun t ht => by have := h1 t ht; omega)
      have := sumS_le_total r (ss.map (· - 1)) (fun z hz => hr z (by simp [hz])) (fun t ht => by
        obtain ⟨u, hu, rfl⟩ := List.mem_map.1 ht
        have := h1 u hu; omega) (List.pairwise_map.2 (h2.imp (fun {a b} h => by omega)))
      simp only [sumS, total, hrest]
      simp
      omega
    · have hrest : sumS (s :: ss) (y :: r) = sumS ((s :: ss).map (· - 1)) r := sumS_shift y r (s :: ss) (fun t ht => by
        rcases List.mem_cons.1 ht with rfl | ht
        · omega
        · have := h1 t ht; omega)
      have := sumS_le_total r ((s :: ss).map (· - 1)) (fun z hz => hr z (by simp [hz])) (fun t ht => by
        obtain ⟨u, hu, rfl⟩ := List.mem_map.1 ht
        rcases List.mem_cons.1 hu with rfl | hu
        · omega
        · have := h1 u hu; omega) (List.pairwise_map.2 (hp.imp (fun {a b} h => by omega)))
      rw [hrest]
      simp only [total]
      omega

theorem wy_mem_nonneg (brk : Nat → Bool) (ss : List Int) (d : Nat) : ∀ y ∈ wy brk ss d, 0 ≤ y := by
  intro y hy
  obtain ⟨j, hj, rfl⟩ := List.getElem_of_mem hy
  have := wy_nonneg brk ss d j
  simpa [List.getD_eq_getElem?_getD, hj] using this
theorem total_le (brk : Nat → Bool) (ss : List Int) (hs : ∀ s ∈ ss, 1 ≤ s) (hp : ss.Pairwise (· < ·)) : ∀ d, total (wy brk ss d) ≤ 2 ^ d
  | 0 => by simp [wy, total]
  | d + 1 => by
    have ih := total_le brk ss hs hp d
    have h1 := sumS_le_total (wy brk ss d) ss (wy_mem_nonneg brk ss d) hs hp
    have h0 : 0 ≤ total (wy brk ss d) := by
      have := sumS_le_total (wy brk ss d) [] (wy_mem_nonneg brk ss d) (by simp) List.Pairwise.nil
      simpa [sumS] using this
    rw [wy_cons]
    simp only [total, W_succ]
    rw [Int.pow_succ]
    split <;> omega
theorem total_nonneg {r : List Int} (hr : ∀ y ∈ r, 0 ≤ y) : 0 ≤ total r := by
  have := sumS_le_total r [] hr (by simp) List.Pairwise.nil
  simpa [sumS] using this
theorem W_le (brk : Nat → Bool) (ss : List Int) (hs : ∀ s ∈ ss, 1 ≤ s) (hp : ss.Pairwise (· < ·)) : ∀ d, W brk ss d ≤ 2 ^ d
  | 0 => by simp [W_zero]
  | d + 1 => by
    have h := total_le brk ss hs hp (d + 1)
    have h0 := total_nonneg (wy_mem_nonneg brk ss d)
    rw [wy_cons] at h
    simp only [total] at h
    omega

/-! ### the cut identity -/
/-- the ways that cross a cut by a stride of s: t tells the counts below the cut, the nearest first; r those above -/
def conv : Nat → List Int → List Int → Int
  | 0, _, _ => 0
  | _ + 1, _, [] => 0
  | s + 1, t, y :: r => t.getD s 0 * y + conv s t r
theorem conv_left : ∀ (s : Nat) (x : Int) (t r : List Int), conv (s + 1) (x :: t) r = x * r.getD s 0 + conv s t r
  | 0, x, t, [] => by simp [conv]
  | 0, x, t, y :: r => by simp [conv]
  | s + 1, x, t, [] => by simp [conv]
  | s + 1, x, t, y :: r => by
    rw [conv, conv_left s x t r, List.getD_cons_succ, List.getD_cons_succ, conv]
    omega
theorem conv_nil : ∀ (s : Nat) (r : List Int), conv s [] r = 0
  | 0, _ => rfl
  | s + 1, [] => rfl
  | s + 1, y :: r => by simp [conv, conv_nil s r]
def cut : List Int → List Int → List Int → Int
  | [], _, _ => 0
  | s :: ss, t, r => conv s.toNat t r + cut ss t r
/-- what crosses the cut and neither begins nor ends next to it -/
def cutK : List Int → List Int → List Int → Int
  | [], _, _ => 0
  | s :: ss, t, r => conv (s.toNat - 1) t r + cutK ss t r
theorem cut_right (t r : List Int) (y : Int) : ∀ ss : List Int, (∀ s ∈ ss, 1 ≤ s) → cut ss t (y :: r) = sumS ss t * y + cutK ss t r
  | [], _ => by simp [cut, sumS, cutK]
  | s :: ss, h => by
    have h1 := h s (by simp)
    obtain ⟨k, hk⟩ : ∃ k : Nat, s.toNat = k + 1 := ⟨s.toNat - 1, by omega⟩
    simp only [cut, sumS, cutK, cut_right t r y ss (fun u hu => h u (by simp [hu])), hk, conv, Nat.add_sub_cancel]
    rw [Int.add_mul]
    omega
theorem cut_left (t r : List Int) (x : Int) : ∀ ss : List Int, (∀ s ∈ ss, 1 ≤ s) → cut ss (x :: t) r = x * sumS ss r + cutK ss t r
  | [], _ => by simp [cut, sumS, cutK]
  | s :: ss, h => by
    have h1 := h s (by simp)
    obtain ⟨k, hk⟩ : ∃ k : Nat, s.toNat = k + 1 := ⟨s.toNat - 1, by omega⟩
    simp only [cut, sumS, cutK, cut_left t r x ss (fun u hu => h u (by simp [hu])), hk, conv_left, Nat.add_sub_cancel]
    rw [Int.mul_add]
    omega
theorem cutK_nil (r : List Int) : ∀ ss, cutK ss [] r = 0
  | [] => rfl
  | s :: ss => by simp [cutK, conv_nil, cutK_nil r ss]

/-- Of n steps: 'up k': step k is broken, told from the ground; the same told from the top is 'fun d => up (n - d)'. At every cut as many ways cross. -/
theorem cut_same (up : Nat → Bool) (ss : List Int) (hs : ∀ s ∈ ss, 1 ≤ s) (n : Nat) (h0 : up 0 = false) : ∀ m, m < n →
    cut ss (wy up ss m) (wy (fun d => up (n - d)) ss (n - 1 - m)) = W (fun d => up (n - d)) ss n
  | 0, hm => by
    obtain ⟨k, rfl⟩ : ∃ k, n = k + 1 := ⟨n - 1, by omega⟩
    show cut ss [1] (wy _ ss k) = _
    rw [cut_left _ _ _ ss hs, cutK_nil, W_succ]
    simp [h0]
  | m + 1, hm => by
    have ih := cut_same up ss hs n h0 m (by omega)
    obtain ⟨k, hk⟩ : ∃ k, n - 1 - m = k + 1 := ⟨n - 2 - m, by omega⟩
    rw [hk, wy_cons, cut_right _ _ _ ss hs] at ih
    have e : n - 1 - (m + 1) = k := by omega
    have eb : n - (k + 1) = m + 1 := by omega
    rw [e, wy_cons up, cut_left _ _ _ ss hs, ← ih, W_succ, W_succ, eb]
    cases up (m + 1) <;> simp

/-- as many ways lead to the top as on from the ground -/
theorem to_top (up : Nat → Bool) (ss : List Int) (hs : ∀ s ∈ ss, 1 ≤ s) (n : Nat) (hn : 1 ≤ n) (h0 : up 0 = false) (h1 : up n = false) : W up ss n = W (fun d => up (n - d)) ss n := by
  obtain ⟨k, rfl⟩ : ∃ k, n = k + 1 := ⟨n - 1, by omega⟩
  rw [← cut_same up ss hs (k + 1) h0 k (by omega), W_succ, h1]
  have e : k + 1 - 1 - k = 0 := by omega
  rw [e]
  show _ = cut ss (wy up ss k) [1]
  rw [cut_right _ _ _ ss hs]
  have hK : ∀ ss : List Int, cutK ss (wy up ss k) [] = 0 → True := fun _ _ => trivial
  have hk : ∀ (us t : List Int), cutK us t [] = 0 := by
    intro us t
    induction us with
    | nil => rfl
    | cons u us ih =>
      simp only [cutK, ih]
      cases u.toNat - 1 <;> simp [conv]
  rw [hk]
  simp

/-- A BREAK TAKES AWAY the ways through the step. -/
theorem through (up : Nat → Bool) (ss : List Int) (hs : ∀ s ∈ ss, 1 ≤ s) (n k : Nat) (hk : 1 ≤ k) (hkn : k < n) (h0 : up 0 = false) (hb : up k = false) :
    W (fun d => up (n - d)) ss n = W up ss k * W (fun d => up (n - d)) ss (n - k) + W (fun d => (up (n - d) || n - d == k)) ss n := by
  obtain ⟨m, rfl⟩ : ∃ m, k = m + 1 := ⟨k - 1, by omega⟩
  have a := cut_same up ss hs n h0 m (by omega)
  have b := cut_same (fun j => (up j || j == m + 1)) ss hs n (by simp [h0]) m (by omega)
  obtain ⟨d, hd⟩ : ∃ d, n - 1 - m = d + 1 := ⟨n - 2 - m, by omega⟩
  have hnk : n - (m + 1) = d + 1 := by omega
  have eb : n - (d + 1) = m + 1 := by omega
  have e1 : wy (fun j => (up j || j == m + 1)) ss m = wy up ss m := wy_congr ss m (fun e h1 h2 => by
    have : (e == m + 1) = false := by simp; omega
    simp [this])
  have e2 : wy (fun d => (up (n - d) || n - d == m + 1)) ss d = wy (fun d => up (n - d)) ss d := wy_congr ss d (fun e h1 h2 => by
    have : (n - e == m + 1) = false := by simp; omega
    simp [this])
  rw [hd, wy_cons, cut_right _ _ _ ss hs] at a b
  rw [e1, e2, W_succ, eb] at b
  rw [← a, ← b, hnk, W_succ up, hb]
  simp

end Go.Proofs.YtohimcljobpkjaaDoor
