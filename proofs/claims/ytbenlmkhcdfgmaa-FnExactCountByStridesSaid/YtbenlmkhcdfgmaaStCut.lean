/- Plain facts: climbs with just so many strides, counted from the ground. No program. -/
import Derived.Test.YtbenlmkhcdfgmaaStBy
import Derived.Test.YtbenlmkhcdfgmaaStCl
namespace Go.Proofs.Ytbenlmkhcdfgmaa

/-- the sum of f at 0 .. k - 1 -/
def sumN (f : Nat → Int) : Nat → Int
  | 0 => 0
  | k + 1 => sumN f k + f k
theorem sumN_congr {f g : Nat → Int} : ∀ {k}, (∀ a, a < k → f a = g a) → sumN f k = sumN g k
  | 0, _ => rfl
  | k + 1, h => by rw [sumN, sumN, sumN_congr (fun a ha => h a (by omega)), h k (by omega)]
theorem sumN_add (f g : Nat → Int) : ∀ k, sumN (fun a => f a + g a) k = sumN f k + sumN g k
  | 0 => rfl
  | k + 1 => by rw [sumN, sumN, sumN, sumN_add f g k]; omega
theorem sumN_zero {f : Nat → Int} : ∀ {k}, (∀ a, a < k → f a = 0) → sumN f k = 0
  | 0, _ => rfl
  | k + 1, h => by rw [sumN, sumN_zero (fun a ha => h a (by omega)), h k (by omega)]; rfl
theorem sumN_one {f : Nat → Int} {j : Nat} : ∀ {k}, j < k → (∀ a, a < k → a ≠ j → f a = 0) → sumN f k = f j
  | 0, h, _ => absurd h (by omega)
  | k + 1, h, h0 => by
    rw [sumN]
    by_cases e : j = k
    · subst e
      rw [sumN_zero (fun a ha => h0 a (by omega) (by omega))]; omega
    · rw [sumN_one (k := k) (by omega) (fun a ha => h0 a (by omega)), h0 k (by omega) (by omega)]; omega
theorem sumN_up (h : Nat → Int) (n s : Nat) : ∀ k, k ≤ n + 1 → sumN (fun a => if a + s ≤ n then h a else 0) k = sumN h (if k + s ≤ n + 1 then k else n + 1 - s)
  | 0, _ => by
    split
    · rfl
    · rw [show n + 1 - s = 0 by omega]; rfl
  | k + 1, hk => by
    rw [sumN, sumN_up h n s k (by omega)]
    by_cases h1 : k + s ≤ n
    · rw [if_pos (by omega), if_pos h1, if_pos (by omega)]; rfl
    · rw [if_neg h1, if_neg (by omega : ¬ k + 1 + s ≤ n + 1)]
      by_cases h2 : k + s ≤ n + 1
      · rw [if_pos h2, show n + 1 - s = k by omega]; omega
      · rw [if_neg h2]; omega
theorem sumN_down (h : Nat → Int) (s : Nat) : ∀ k, sumN (fun b => if s ≤ b then h (b - s) else 0) k = sumN h (k - s)
  | 0 => by rw [show 0 - s = 0 by omega]; rfl
  | k + 1 => by
    rw [sumN, sumN_down h s k]
    by_cases h1 : s ≤ k
    · rw [if_pos h1, show k + 1 - s = (k - s) + 1 by omega]; rfl
    · rw [if_neg h1, show k + 1 - s = 0 by omega, show k - s = 0 by omega]; simp [sumN]
theorem sumN_shift (h : Nat → Int) (n s : Nat) : sumN (fun a => if a + s ≤ n then h a else 0) (n + 1) = sumN (fun b => if s ≤ b then h (b - s) else 0) (n + 1) := by
  rw [sumN_up h n s _ (Nat.le_refl _), sumN_down]
  by_cases h0 : s = 0
  · subst h0; simp
  · rw [if_neg (by omega)]

theorem bsum_mul (f : Nat → Int) (d : Nat) (c : Int) : ∀ ss, bsum f ss d * c = bsum (fun e => f e * c) ss d
  | [] => by simp [bsum]
  | s :: r => by
    simp only [bsum, Int.add_mul, bsum_mul f d c r]
    split <;> simp
theorem mul_ite (c x : Int) (p : Prop) [Decidable p] : c * (if p then x else 0) = if p then c * x else 0 := by split <;> simp
theorem ite_mul (c x : Int) (p : Prop) [Decidable p] : (if p then x else 0) * c = if p then x * c else 0 := by split <;> simp
/-- the exchange: forward at the place times backward behind the stride, told at either end of the stride -/
theorem cut_exch (n : Nat) (F B : Nat → Int) : ∀ ss : List Int,
    sumN (fun a => F a * bsum B ss (n - a)) (n + 1) = sumN (fun b => bsum F ss b * B (n - b)) (n + 1)
  | [] => by
    rw [sumN_zero (fun a _ => by simp [bsum]), sumN_zero (fun a _ => by simp [bsum])]
  | s :: r => by
    have h1 : sumN (fun a => F a * bsum B (s :: r) (n - a)) (n + 1) = sumN (fun a => (if a + s.toNat ≤ n then F a * B (n - (a + s.toNat)) else 0) + F a * bsum B r (n - a)) (n + 1) := by
      refine sumN_congr fun a ha => ?_
      simp only [bsum, Int.mul_add]
      congr 1
      by_cases h : a + s.toNat ≤ n
      · rw [if_pos h, if_pos (by omega), show n - a - s.toNat = n - (a + s.toNat) by omega]
      · rw [if_neg h, if_neg (by omega)]; simp
    have h2 : sumN (fun b => bsum F (s :: r) b * B (n - b)) (n + 1) = sumN (fun b => (if s.toNat ≤ b then F (b - s.toNat) * B (n - (b - s.toNat + s.toNat)) else 0) + bsum F r b * B (n - b)) (n + 1) := by
      refine sumN_congr fun b hb => ?_
      simp only [bsum, Int.add_mul]
      congr 1
      by_cases h : s.toNat ≤ b
      · rw [if_pos h, if_pos h, show b - s.toNat + s.toNat = b by omega]
      · rw [if_neg h, if_neg h]; simp
    rw [h1, h2, sumN_add, sumN_add, cut_exch n F B r]
    congr 1
    exact sumN_shift (fun a => F a * B (n - (a + s.toNat))) n s.toNat
/-- what place a gives to place p, by the strides of a list -/
def hit (F : Nat → Int) (a p : Nat) : List Int → Int
  | [] => 0
  | s :: r => (if a + s.toNat = p then F a else 0) + hit F a p r
theorem hit_append (F : Nat → Int) (a p : Nat) : ∀ x y : List Int, hit F a p (x ++ y) = hit F a p x + hit F a p y
  | [], y => by simp [hit]
  | s :: x, y => by simp only [List.cons_append, hit, hit_append F a p x y]; omega
theorem hit_nonneg {F : Nat → Int} (h : ∀ a, 0 ≤ F a) (a p : Nat) : ∀ x, 0 ≤ hit F a p x
  | [] => Int.le_refl _
  | s :: r => by
    have h1 := hit_nonneg h a p r
    have h2 := h a
    simp only [hit]
    split <;> omega
theorem hit_zero {F : Nat → Int} {a : Nat} (h : F a = 0) (p : Nat) : ∀ x, hit F a p x = 0
  | [] => rfl
  | s :: r => by simp only [hit, hit_zero h p r, h]; simp
theorem sumN_nonneg {f : Nat → Int} (h : ∀ a, 0 ≤ f a) : ∀ k, 0 ≤ sumN f k
  | 0 => Int.le_refl _
  | k + 1 => by have := sumN_nonneg h k; have := h k; rw [sumN]; omega
/-- row p while place a is at work, k strides done -/
def push (F : Nat → Int) (ss : List Int) (a k p : Nat) : Int := sumN (fun i => hit F i p ss) a + hit F a p (ss.take k)
theorem push_nonneg {F : Nat → Int} (h : ∀ a, 0 ≤ F a) (ss : List Int) (a k p : Nat) : 0 ≤ push F ss a k p := by
  have h1 := sumN_nonneg (fun i => hit_nonneg h i p ss) a
  have h2 := hit_nonneg h a p (ss.take k)
  unfold push; omega
theorem push_next (F : Nat → Int) (ss : List Int) (a p : Nat) : push F ss a ss.length p = push F ss (a + 1) 0 p := by
  unfold push
  rw [List.take_length, List.take_zero, sumN]; simp [hit]
theorem push_skip {F : Nat → Int} {a : Nat} (h : F a = 0) (ss : List Int) (p : Nat) : push F ss a 0 p = push F ss (a + 1) 0 p := by
  rw [← push_next]; unfold push; rw [hit_zero h, hit_zero h]
theorem sum_ext (F : Nat → Int) {n p : Nat} (hp : p ≤ n) : ∀ ss : List Int, sumN (fun i => hit F i p ss) (n + 1) = bsum F ss p
  | [] => sumN_zero (fun _ _ => rfl)
  | s :: r => by
    have : sumN (fun i => hit F i p (s :: r)) (n + 1) = sumN (fun i => (if i + s.toNat = p then F i else 0) + hit F i p r) (n + 1) := rfl
    rw [this, sumN_add, sum_ext F hp r]
    simp only [bsum]
    congr 1
    by_cases h : s.toNat ≤ p
    · rw [if_pos h, sumN_one (j := p - s.toNat) (by omega) (fun a _ ha => if_neg (by omega)), if_pos (by omega)]
    · rw [if_neg h, sumN_zero (fun a _ => if_neg (by omega))]
theorem push_all (F : Nat → Int) (ss : List Int) {n p : Nat} (hp : p ≤ n) : push F ss (n + 1) 0 p = bsum F ss p := by
  unfold push
  rw [sum_ext F hp, List.take_zero]; simp [hit]

theorem push_succ (F : Nat → Int) {ss : List Int} {a k s : Nat} (hk : k < ss.length) (hs : ss.getD k 0 = (s : Int)) (p : Nat) : push F ss a (k + 1) p = push F ss a k p + (if a + s = p then F a else 0) := by
  unfold push
  rw [take_succ_getD hk, hit_append, hs]
  simp only [hit, Int.toNat_natCast]
  omega

/-- in how many ways one comes from the ground to step a with just m strides -/
def fS (n : Nat) (ss bs : List Int) : Nat → Nat → Int
  | 0, a => if a = 0 then 1 else 0
  | m + 1, a => if hasB bs (a : Int) then 0 else bsum (fS n ss bs m) ss a
theorem fS_nonneg (n : Nat) (ss bs : List Int) : ∀ m a, 0 ≤ fS n ss bs m a
  | 0, a => by rw [fS]; split <;> omega
  | m + 1, a => by
    rw [fS]
    split
    · exact Int.le_refl _
    · exact bsum_nonneg (fS_nonneg n ss bs m) _ _
theorem hasB_good {n : Nat} {ss bs : List Int} (G : Good n ss bs) {a : Int} (h : hasB bs a = true) : 1 ≤ a ∧ a ≤ (n : Int) - 1 := G.hb a (by simpa [hasB] using h)
theorem fS_dead {n : Nat} {ss bs : List Int} (G : Good n ss bs) {a : Nat} (h : hasB bs (a : Int) = true) : ∀ m, fS n ss bs m a = 0
  | 0 => by
    have := hasB_good G h
    rw [fS, if_neg (by omega)]
  | m + 1 => by rw [fS, if_pos h]
theorem bsum_zero {f : Nat → Int} : ∀ {ss : List Int}, (∀ s ∈ ss, 1 ≤ s) → bsum f ss 0 = 0
  | [], _ => rfl
  | s :: r, h => by
    have := h s (by simp)
    rw [bsum, bsum_zero (fun t ht => h t (by simp [ht])), if_neg (by omega)]; rfl
theorem bS_gone {n : Nat} {ss bs : List Int} (G : Good n ss bs) {b : Nat} (h : hasB bs (b : Int) = true) : ∀ j, bS n ss bs j (n - b) = 0 := by
  have h1 := hasB_good G h
  obtain ⟨d, hd⟩ : ∃ d, n - b = d + 1 := ⟨n - b - 1, by omega⟩
  intro j
  rw [hd]
  cases j with
  | zero => rw [bS, if_neg (by omega)]
  | succ j => exact bS_dead (by rw [show (n : Int) - (d + 1 : Nat) = (b : Int) by omega]; exact h)
theorem cut_one {n : Nat} {ss bs : List Int} (G : Good n ss bs) (i j : Nat) :
    sumN (fun a => fS n ss bs i a * bS n ss bs (j + 1) (n - a)) (n + 1) = sumN (fun b => fS n ss bs (i + 1) b * bS n ss bs j (n - b)) (n + 1) := by
  have e1 : sumN (fun a => fS n ss bs i a * bS n ss bs (j + 1) (n - a)) (n + 1) = sumN (fun a => fS n ss bs i a * bsum (bS n ss bs j) ss (n - a)) (n + 1) := sumN_congr fun a ha => by
    by_cases h : a = n
    · subst h
      rw [Nat.sub_self, bsum_zero (fun s hs => (G.hs s hs).1)]; rfl
    · obtain ⟨d, hd⟩ : ∃ d, n - a = d + 1 := ⟨n - a - 1, by omega⟩
      cases hb : hasB bs (a : Int)
      · rw [hd, bS_alive (by rw [show (n : Int) - (d + 1 : Nat) = (a : Int) by omega]; exact hb)]
      · rw [fS_dead G hb]; simp
  have e2 : sumN (fun b => fS n ss bs (i + 1) b * bS n ss bs j (n - b)) (n + 1) = sumN (fun b => bsum (fS n ss bs i) ss b * bS n ss bs j (n - b)) (n + 1) := sumN_congr fun b hb' => by
    cases hb : hasB bs (b : Int)
    · rw [fS, if_neg (by rw [hb]; decide)]
    · rw [bS_gone G hb]; simp
  rw [e1, e2]
  exact cut_exch n _ _ ss
theorem cut_all {n : Nat} {ss bs : List Int} (G : Good n ss bs) : ∀ i j, sumN (fun a => fS n ss bs i a * bS n ss bs j (n - a)) (n + 1) = bS n ss bs (i + j) n
  | 0, j => by
    rw [sumN_one (j := 0) (by omega) (fun a _ ha => by rw [fS, if_neg ha]; simp), fS, if_pos rfl, Nat.zero_add, Int.one_mul]; rfl
  | i + 1, j => by rw [← cut_one G i j, cut_all G i (j + 1), show i + (j + 1) = i + 1 + j by omega]
/-- counted from the ground and counted from the top it is the same -/
theorem fS_bS {n : Nat} {ss bs : List Int} (G : Good n ss bs) (m : Nat) : fS n ss bs m n = bS n ss bs m n := by
  have h := cut_all G m 0
  rw [sumN_one (j := n) (by omega) (fun a ha hne => by rw [show bS n ss bs 0 (n - a) = if n - a = 0 then 1 else 0 from rfl, if_neg (by omega)]; simp), Nat.sub_self, show bS n ss bs 0 0 = 1 from rfl, Int.mul_one] at h
  exact h

/-- a row of the model, whole -/
def fC (n : Nat) (ss bs : List Int) (m p : Nat) : Int := capI (fS n ss bs m p)
/-- the next row of the model, while place a is at work and k strides are done -/
def nC (n : Nat) (ss bs : List Int) (m a k p : Nat) : Int := if hasB bs (p : Int) then 0 else capI (push (fS n ss bs m) ss a k p)
theorem cap_zero : capI 0 = 0 := by decide
theorem cap_pos {x : Int} : 0 < capI x ↔ 0 < x := by unfold capI leastI; split <;> omega
theorem fC_first (n : Nat) (ss bs : List Int) (p : Nat) : fC n ss bs 0 p = if p = 0 then 1 else 0 := by
  unfold fC
  rw [fS]
  split <;> decide
theorem nC_first (n : Nat) (ss bs : List Int) (m p : Nat) : nC n ss bs m 0 0 p = 0 := by
  unfold nC push
  rw [List.take_zero]
  simp [sumN, hit, cap_zero]
theorem nC_next (n : Nat) (ss bs : List Int) (m a p : Nat) : nC n ss bs m a ss.length p = nC n ss bs m (a + 1) 0 p := by unfold nC; rw [push_next]
theorem nC_end {n : Nat} {ss bs : List Int} {m p : Nat} (hp : p ≤ n) : nC n ss bs m (n + 1) 0 p = fC n ss bs (m + 1) p := by
  unfold nC fC
  rw [push_all _ _ hp, fS]
  split
  · rw [cap_zero]
  · rfl
theorem nC_none {n : Nat} {ss bs : List Int} {m a k s : Nat} (hk : k < ss.length) (hs : ss.getD k 0 = (s : Int)) (h : ¬ 0 < fC n ss bs m a) (p : Nat) : nC n ss bs m a k p = nC n ss bs m a (k + 1) p := by
  have h0 := fS_nonneg n ss bs m a
  have h1 : fS n ss bs m a = 0 := by
    unfold fC at h
    rw [cap_pos] at h; omega
  unfold nC
  rw [push_succ _ hk hs, h1]; simp
theorem nC_dead {n : Nat} {ss bs : List Int} {m a k s : Nat} (hk : k < ss.length) (hs : ss.getD k 0 = (s : Int)) (h : standB n bs ((a : Int) + s) = false) {p : Nat} (hp : p ≤ n) : nC n ss bs m a k p = nC n ss bs m a (k + 1) p := by
  unfold nC
  rw [push_succ _ hk hs]
  by_cases e : a + s = p
  · have : hasB bs (p : Int) = true := by
      subst e
      simp only [standB] at h
      rw [inB_yes (by omega) (by omega)] at h
      simpa using h
    rw [if_pos this, if_pos this]
  · rw [if_neg e]; simp
theorem nC_else {n : Nat} {ss bs : List Int} {m a k s : Nat} (hk : k < ss.length) (hs : ss.getD k 0 = (s : Int)) {p : Nat} (hp : p ≠ a + s) : nC n ss bs m a k p = nC n ss bs m a (k + 1) p := by
  unfold nC
  rw [push_succ _ hk hs, show (if a + s = p then fS n ss bs m a else 0) = 0 from if_neg (fun e => hp e.symm), Int.add_zero]
theorem nC_here {n : Nat} {ss bs : List Int} {m a k s : Nat} (hk : k < ss.length) (hs : ss.getD k 0 = (s : Int)) (h : standB n bs ((a : Int) + s) = true) :
    nC n ss bs m a (k + 1) (a + s) = leastI (nC n ss bs m a k (a + s) + fC n ss bs m a) 1000000000000001 := by
  have h1 : ¬ hasB bs ((a + s : Nat) : Int) = true := by
    simp only [standB, Bool.and_eq_true, Bool.not_eq_true'] at h
    rw [show ((a + s : Nat) : Int) = (a : Int) + s by omega, h.2]; decide
  unfold nC fC
  rw [if_neg h1, if_neg h1, push_succ _ hk hs, if_pos rfl, cap_add (push_nonneg (fS_nonneg n ss bs m) _ _ _ _) (fS_nonneg n ss bs m a)]
theorem nC_bd (n : Nat) (ss bs : List Int) (m a k p : Nat) : 0 ≤ nC n ss bs m a k p ∧ nC n ss bs m a k p ≤ 1000000000000001 := by
  unfold nC
  split
  · omega
  · exact cap_bd (push_nonneg (fS_nonneg n ss bs m) _ _ _ _)
theorem fC_bd (n : Nat) (ss bs : List Int) (m p : Nat) : 0 ≤ fC n ss bs m p ∧ fC n ss bs m p ≤ 1000000000000001 := cap_bd (fS_nonneg n ss bs m p)
/-- where climbs can be counted, the last row's top is the number of climbs with so many strides -/
theorem fC_top {n : Nat} {ss bs : List Int} (G : Good n ss bs) (hw : wS n ss bs n ≤ 1000000000000000) (m : Nat) : fC n ss bs m n = bS n ss bs m n := by
  unfold fC
  rw [fS_bS G, cap_same (Int.le_trans (bS_le G m n) hw)]
/-- CountByStrides -/
def cbB (st : Int) (ss bs : List Int) (m : Int) : Bool := countB st ss bs && decide (0 ≤ m)
def cbN (st : Int) (ss bs : List Int) (m : Int) : Int := if cbB st ss bs m && decide (m ≤ st) then bS st.toNat ss bs m.toNat st.toNat else 0

end Go.Proofs.Ytbenlmkhcdfgmaa
