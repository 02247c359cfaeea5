/- FnMovingTimedOfAll: plain mathematics of what it asks. No program. -/
import Derived.Test.YthcoipoihieggaaDoorMovT
import Derived.Test.YthcoipoihieggaaDoorMovTwo
import Derived.Test.YthcoipoihieggaaDoorMovP
import Derived.Test.YthcoipoihieggaaDoorMovC
import Derived.Test.YthcoipoihieggaaDoorMovL
namespace Go.Proofs.YthcoipoihieggaaDoor
set_option maxRecDepth 100000
open Go.RowKit

/-- a fraction is in lowest terms -/
def lowB (n d : Int) : Bool := decide (0 ≤ n) && (decide (1 ≤ d) && decide (gI n d = 1))
theorem gI_low {a b : Int} (hb : 0 < b) : gI (lowN a b) (lowD a b) = 1 := by
  have hg := gI_pos (a := a) hb
  have h := gI_mul (a := lowN a b) (b := lowD a b) hg
  rw [gI_dvd_l, gI_dvd_r] at h
  refine Int.eq_of_mul_eq_mul_left (by omega : gI a b ≠ 0) ?_
  rw [← h, Int.mul_one]
theorem lowB_low {a b : Int} (ha : 0 ≤ a) (hb : 0 < b) : lowB (lowN a b) (lowD a b) = true := by
  have h1 := lowN_nonneg ha hb
  have h2 := lowD_pos (a := a) hb
  have h3 : 1 ≤ lowD a b := h2
  simp [lowB, h1, h3, gI_low hb]
theorem low_cross (a b : Int) : lowN a b * b = a * lowD a b := by
  have h1 := gI_dvd_l a b
  have h2 := gI_dvd_r a b
  generalize gI a b = g at *
  generalize lowN a b = n at *
  generalize lowD a b = d at *
  subst h1 h2
  ac_rfl
/-- lowest terms of a way that is walked at this pace -/
theorem low_way {x p s : Int} (hs : 0 < s) : lowN (x * p) s * lowD x s = p * lowN x s * lowD (x * p) s := by
  obtain ⟨e1, e2⟩ := low_times (a := x) (b := s) (c := p) hs
  have h := low_cross (lowN x s * p) (lowD x s)
  rw [e1, e2] at h
  rw [h, Int.mul_comm p]
theorem low_twice {x s : Int} (hs : 0 < s) : lowN (2 * x) s * lowD x s = 2 * lowN x s * lowD (2 * x) s := by
  have := low_way (x := x) (p := 2) hs
  rw [Int.mul_comm x 2] at this
  exact this
theorem mem_wholeL {x y n : Int} : ∀ k : Nat, n ∈ wholeL x y k ↔ ∃ j : Nat, j < k ∧ n = (j : Int) ∧ wholeB x y j = true
  | 0 => by simp [wholeL]
  | k + 1 => by
    have ih := mem_wholeL (x := x) (y := y) (n := n) k
    cases hb : wholeB x y k
    · rw [wholeL_no hb, ih]
      constructor
      · rintro ⟨j, hj, e, h⟩; exact ⟨j, by omega, e, h⟩
      · rintro ⟨j, hj, e, h⟩
        refine ⟨j, ?_, e, h⟩
        by_cases hjk : j = k
        · subst hjk; rw [hb] at h; cases h
        · omega
    · rw [wholeL_yes hb, List.mem_append, ih, List.mem_singleton]
      constructor
      · rintro (⟨j, hj, e, h⟩ | e)
        · exact ⟨j, by omega, e, h⟩
        · exact ⟨k, by omega, e, hb⟩
      · rintro ⟨j, hj, e, h⟩
        by_cases hjk : j = k
        · subst hjk; exact .inr e
        · exact .inl ⟨j, by omega, e, h⟩
theorem has_whole {x y p : Int} (hm : movB x y = true) (hp : 0 ≤ p ∧ p ≤ 20) (hs : 0 < p + y) : decide (p ∈ wholeR x y) = decide (lowD x (p + y) = 1) := by
  refine decide_eq_decide.2 ?_
  rw [show wholeR x y = wholeL x y 21 by simp [wholeR, hm], mem_wholeL, lowD_one_iff hs]
  constructor
  · rintro ⟨j, _, rfl, h⟩
    have : x % (y + (j : Int)) = 0 := by
      simp only [wholeB, Bool.and_eq_true, decide_eq_true_eq] at h
      exact h.2
    rw [Int.add_comm] at this; exact this
  · intro h
    refine ⟨p.toNat, by omega, by omega, ?_⟩
    have e : ((p.toNat : Nat) : Int) = p := by omega
    rw [Int.add_comm] at h
    simp only [wholeB, e, h, Bool.and_eq_true, decide_eq_true_eq, and_true]
    omega
/-- a strictly increasing list -/
def Rising : List Int → Prop := List.Pairwise (· < ·)
theorem whole_rises (x y : Int) : ∀ k : Nat, Rising (wholeL x y k) ∧ ∀ n ∈ wholeL x y k, n < (k : Int)
  | 0 => by simp [wholeL, Rising]
  | k + 1 => by
    obtain ⟨h1, h2⟩ := whole_rises x y k
    cases hb : wholeB x y k
    · rw [wholeL_no hb]
      exact ⟨h1, fun n hn => by have := h2 n hn; omega⟩
    · rw [wholeL_yes hb]
      refine ⟨List.pairwise_append.2 ⟨h1, by simp, fun a ha b hb => ?_⟩, fun n hn => ?_⟩
      · rw [List.mem_singleton.1 hb]; exact h2 a ha
      · rcases List.mem_append.1 hn with hn | hn
        · have := h2 n hn; omega
        · rw [List.mem_singleton.1 hn]; omega
theorem rises_R (x y : Int) : Rising (wholeR x y) := by
  unfold wholeR
  split
  · exact (whole_rises x y 21).1
  · exact List.Pairwise.nil
theorem wholeR_21 (x y : Int) : (wholeR x y).length ≤ 21 := by
  unfold wholeR
  split
  · exact wholeL_length x y 21
  · simp
theorem tell_ask {x y p c : Int} (h : tellB x y p c = true) : askB x y p = true ∧ 0 < p + c := by simpa [tellB] using h
/-- what is known of a ride -/
theorem tell_bd {x y p : Int} (h : tellB x y p y = true) : movB x y = true ∧ (1 ≤ x ∧ x ≤ 500 ∧ 0 ≤ y ∧ y ≤ 20 ∧ 0 ≤ p ∧ p ≤ 20) ∧ 0 < p + y := by
  obtain ⟨h1, h2⟩ := tell_ask h
  exact ⟨(ask_two h1).1, askB_le h1, h2⟩
theorem against_tell {x y p : Int} (h : tellB x y p (-y) = true) : tellB x y p y = true ∧ 0 < p + (-y) := by
  obtain ⟨h1, h2⟩ := tell_ask h
  have := askB_le h1
  exact ⟨tellB_yes h1 (by omega), h2⟩
/-- bounds of the fractions of a ride -/
theorem low_bd {a b M : Int} (ha : 0 ≤ a) (haM : a ≤ M) (hb : 0 < b) (hbM : b ≤ M) : (0 ≤ lowN a b ∧ lowN a b ≤ M) ∧ (1 ≤ lowD a b ∧ lowD a b ≤ M) := by
  have h1 := lowN_nonneg ha hb
  have h2 := lowN_le (b := b) ha
  have h3 := lowD_pos (a := a) hb
  have h4 := lowD_le (a := a) hb
  exact ⟨⟨h1, by omega⟩, by omega, by omega⟩
/-- whole steps: the pace that takes them -/
theorem pace_of {x y p : Int} (h1 : lowD (x * p) (p + y) = 1) (hlt : lowN (x * p) (p + y) < x) :
    lowN (lowN (x * p) (p + y) * y) (x - lowN (x * p) (p + y)) = p * lowD (lowN (x * p) (p + y) * y) (x - lowN (x * p) (p + y)) := by
  have hc := low_cross (x * p) (p + y)
  rw [h1, Int.mul_one] at hc
  generalize lowN (x * p) (p + y) = n at *
  have hA : n * y = p * (x - n) := by
    rw [Int.mul_add] at hc
    rw [Int.mul_sub, Int.mul_comm p x, ← hc, Int.mul_comm p n]
    omega
  have h := low_cross (n * y) (x - n)
  have hB : 0 < x - n := by omega
  refine Int.eq_of_mul_eq_mul_right (by omega : x - n ≠ 0) ?_
  rw [h, hA]
  ac_rfl
/-- the last place -/
theorem last_place {x y p : Int} (hs : 0 < p + y) : x ≤ (y + p) * ((lowN x (p + y) + lowD x (p + y) - 1) / lowD x (p + y)) := by
  have h1 := gI_dvd_l x (p + y)
  have h2 := gI_dvd_r x (p + y)
  have hd := lowD_pos (a := x) hs
  have hg := gI_pos (a := x) hs
  generalize gI x (p + y) = g at *
  generalize lowN x (p + y) = n at *
  generalize lowD x (p + y) = d at *
  have e := Int.mul_ediv_add_emod (n + d - 1) d
  have m1 := Int.emod_lt_of_pos (n + d - 1) hd
  generalize (n + d - 1) / d = t at *
  generalize (n + d - 1) % d = r at *
  have k : n ≤ d * t := by omega
  have k2 := Int.mul_le_mul_of_nonneg_left k (by omega : 0 ≤ g)
  rw [h1, ← Int.mul_assoc, h2, Int.add_comm p y] at k2
  exact k2
theorem place_bd {x y p : Int} (hs : 0 < p + y) (hx : 0 ≤ x ∧ x ≤ 500) (hs2 : p + y ≤ 40) : 0 ≤ (lowN x (p + y) + lowD x (p + y) - 1) / lowD x (p + y) ∧ (lowN x (p + y) + lowD x (p + y) - 1) / lowD x (p + y) ≤ 1000 := by
  obtain ⟨h1, h2⟩ := low_bd (M := 500) hx.1 hx.2 hs (by omega)
  have h3 := lowD_le (a := x) hs
  exact ⟨Int.ediv_nonneg (by omega) (by omega), Int.le_trans (Int.ediv_le_self _ (by omega)) (by omega)⟩
/-- against the stair it takes longer -/
theorem longer {x y p : Int} (hy : 0 ≤ y) (hx : 0 ≤ x) (hq : 0 < p + (-y)) : lowN x (p + y) * lowD x (p + (-y)) ≤ lowN x (p + (-y)) * lowD x (p + y) := by
  have hs : 0 < p + y := by omega
  have a1 := gI_dvd_l x (p + y)
  have a2 := gI_dvd_r x (p + y)
  have b1 := gI_dvd_l x (p + (-y))
  have b2 := gI_dvd_r x (p + (-y))
  have ga := gI_pos (a := x) hs
  have gb := gI_pos (a := x) hq
  have hle : x * (p + (-y)) ≤ x * (p + y) := Int.mul_le_mul_of_nonneg_left (by omega) hx
  generalize gI x (p + y) = g at *
  generalize gI x (p + (-y)) = h at *
  generalize lowN x (p + y) = n at *
  generalize lowD x (p + y) = d at *
  generalize lowN x (p + (-y)) = m at *
  generalize lowD x (p + (-y)) = e at *
  have hgh : 0 < g * h := Int.mul_pos ga gb
  refine Int.le_of_mul_le_mul_left ?_ hgh
  have e1 : g * h * (n * e) = x * (p + (-y)) := by rw [← b2, ← a1]; ac_rfl
  have e2 : g * h * (m * d) = x * (p + y) := by rw [← a2, ← b1]; ac_rfl
  rw [e1, e2]
  exact hle
/-- with and against: what is visible is told by both -/
theorem both_of {x y p : Int} (hp : 0 < p) (h1 : lowD (x * p) (p + y) = 1) (h2 : lowD (x * p) (p + (-y)) = 1) (hpos : 0 < lowN (x * p) (p + y) + lowN (x * p) (p + (-y))) :
    lowN (2 * lowN (x * p) (p + y) * lowN (x * p) (p + (-y))) (lowN (x * p) (p + y) + lowN (x * p) (p + (-y))) = x * lowD (2 * lowN (x * p) (p + y) * lowN (x * p) (p + (-y))) (lowN (x * p) (p + y) + lowN (x * p) (p + (-y))) := by
  have c1 := low_cross (x * p) (p + y)
  have c2 := low_cross (x * p) (p + (-y))
  rw [h1, Int.mul_one] at c1
  rw [h2, Int.mul_one] at c2
  generalize lowN (x * p) (p + y) = t at *
  generalize lowN (x * p) (p + (-y)) = s at *
  have key : 2 * t * s = x * (t + s) := by
    refine Int.eq_of_mul_eq_mul_right (by omega : p ≠ 0) ?_
    have e1 : t * s * (p + y) = s * (x * p) := by rw [← c1]; ac_rfl
    have e2 : t * s * (p + (-y)) = t * (x * p) := by rw [← c2]; ac_rfl
    have e3 : t * s * (p + y) + t * s * (p + (-y)) = 2 * t * s * p := by
      rw [← Int.mul_add, show (p + y) + (p + (-y)) = 2 * p by omega]; ac_rfl
    have e4 : x * (t + s) * p = s * (x * p) + t * (x * p) := by
      rw [← Int.add_mul, Int.add_comm s t]; ac_rfl
    rw [← e3, e1, e2, e4]
  have h := low_cross (2 * t * s) (t + s)
  refine Int.eq_of_mul_eq_mul_right (by omega : t + s ≠ 0) ?_
  rw [h, key]
  ac_rfl
theorem steps_more {x y p : Int} (hx : 0 ≤ x) (hp : 0 ≤ p) (hy : 0 ≤ y) (hs : 0 < p + y) (hq : 0 < p + (-y)) (h1 : lowD (x * p) (p + y) = 1) (h2 : lowD (x * p) (p + (-y)) = 1) : lowN (x * p) (p + y) ≤ lowN (x * p) (p + (-y)) := by
  have c1 := low_cross (x * p) (p + y)
  have c2 := low_cross (x * p) (p + (-y))
  rw [h1, Int.mul_one] at c1
  rw [h2, Int.mul_one] at c2
  have n1 := lowN_nonneg (a := x * p) (b := p + (-y)) (Int.mul_nonneg hx hp) hq
  generalize lowN (x * p) (p + y) = t at *
  generalize lowN (x * p) (p + (-y)) = s at *
  refine Int.le_of_mul_le_mul_right ?_ hs
  rw [c1, ← c2]
  exact Int.mul_le_mul_of_nonneg_left (by omega) n1
/-- two counts tell the stair and its speed -/
theorem two_tell {p s o m : Int} (hd : 0 < s * o - m * p) :
    lowN (s * m * (o - p)) (s * o - m * p) * p * lowD ((m - s) * p * o) (s * o - m * p) = s * (p * lowD ((m - s) * p * o) (s * o - m * p) + lowN ((m - s) * p * o) (s * o - m * p)) * lowD (s * m * (o - p)) (s * o - m * p) ∧
    lowN (s * m * (o - p)) (s * o - m * p) * o * lowD ((m - s) * p * o) (s * o - m * p) = m * (o * lowD ((m - s) * p * o) (s * o - m * p) + lowN ((m - s) * p * o) (s * o - m * p)) * lowD (s * m * (o - p)) (s * o - m * p) := by
  have a1 := gI_dvd_l (s * m * (o - p)) (s * o - m * p)
  have a2 := gI_dvd_r (s * m * (o - p)) (s * o - m * p)
  have b1 := gI_dvd_l ((m - s) * p * o) (s * o - m * p)
  have b2 := gI_dvd_r ((m - s) * p * o) (s * o - m * p)
  have ga := gI_pos (a := s * m * (o - p)) hd
  have gb := gI_pos (a := (m - s) * p * o) hd
  generalize gI (s * m * (o - p)) (s * o - m * p) = g at *
  generalize gI ((m - s) * p * o) (s * o - m * p) = h at *
  generalize lowN (s * m * (o - p)) (s * o - m * p) = n at *
  generalize lowD (s * m * (o - p)) (s * o - m * p) = k at *
  generalize lowN ((m - s) * p * o) (s * o - m * p) = v at *
  generalize lowD ((m - s) * p * o) (s * o - m * p) = f at *
  have hgh : g * h ≠ 0 := by have := Int.mul_pos ga gb; omega
  have q1 : p * (s * o - m * p) + (m - s) * p * o = m * p * (o - p) := by
    simp only [Int.mul_sub, Int.sub_mul]
    have e1 : p * (s * o) = s * p * o := by ac_rfl
    have e2 : p * (m * p) = m * p * p := by ac_rfl
    rw [e1, e2]
    omega
  have q2 : o * (s * o - m * p) + (m - s) * p * o = s * o * (o - p) := by
    simp only [Int.mul_sub, Int.sub_mul]
    have e1 : o * (s * o) = s * o * o := by ac_rfl
    have e2 : o * (m * p) = m * p * o := by ac_rfl
    have e3 : s * o * p = s * p * o := by ac_rfl
    rw [e1, e2, e3]
    omega
  constructor
  · refine Int.eq_of_mul_eq_mul_left hgh ?_
    have e1 : g * h * (n * p * f) = s * m * (o - p) * p * (s * o - m * p) := by
      have : g * h * (n * p * f) = (g * n) * p * (h * f) := by ac_rfl
      rw [this, a1, b2]
    have e2 : g * h * (s * (p * f + v) * k) = s * (p * (h * f) + h * v) * (g * k) := by
      have x1 : s * (p * f + v) * k = s * (p * f) * k + s * v * k := by rw [Int.mul_add, Int.add_mul]
      have x2 : s * (p * (h * f) + h * v) * (g * k) = s * (p * (h * f)) * (g * k) + s * (h * v) * (g * k) := by rw [Int.mul_add, Int.add_mul]
      rw [x1, x2, Int.mul_add]
      congr 1 <;> ac_rfl
    rw [e1, e2, b2, b1, a2, q1]
    ac_rfl
  · refine Int.eq_of_mul_eq_mul_left hgh ?_
    have e1 : g * h * (n * o * f) = s * m * (o - p) * o * (s * o - m * p) := by
      have : g * h * (n * o * f) = (g * n) * o * (h * f) := by ac_rfl
      rw [this, a1, b2]
    have e2 : g * h * (m * (o * f + v) * k) = m * (o * (h * f) + h * v) * (g * k) := by
      have x1 : m * (o * f + v) * k = m * (o * f) * k + m * v * k := by rw [Int.mul_add, Int.add_mul]
      have x2 : m * (o * (h * f) + h * v) * (g * k) = m * (o * (h * f)) * (g * k) + m * (h * v) * (g * k) := by rw [Int.mul_add, Int.add_mul]
      rw [x1, x2, Int.mul_add]
      congr 1 <;> ac_rfl
    rw [e1, e2, b2, b1, a2, q2]
    ac_rfl
/-- the mean lies between -/
theorem mean_low {a b : Int} (ha : 0 ≤ a) (hab : a ≤ b) (hs : 0 < a + b) : a * lowD (2 * a * b) (a + b) ≤ lowN (2 * a * b) (a + b) ∧ lowN (2 * a * b) (a + b) ≤ b * lowD (2 * a * b) (a + b) := by
  have h := low_cross (2 * a * b) (a + b)
  have hd := lowD_pos (a := 2 * a * b) hs
  generalize lowN (2 * a * b) (a + b) = n at *
  generalize lowD (2 * a * b) (a + b) = d at *
  have k1 : a * (a + b) ≤ 2 * a * b := by
    have := Int.mul_le_mul_of_nonneg_left hab ha
    rw [Int.mul_add, Int.mul_assoc]; omega
  have k2 : 2 * a * b ≤ b * (a + b) := by
    have := Int.mul_le_mul_of_nonneg_right hab (by omega : 0 ≤ b)
    rw [Int.mul_add, Int.mul_assoc, Int.mul_comm b a]; omega
  constructor
  · refine Int.le_of_mul_le_mul_right ?_ hs
    rw [h]
    have := Int.mul_le_mul_of_nonneg_right k1 (by omega : 0 ≤ d)
    have e : a * d * (a + b) = a * (a + b) * d := by ac_rfl
    rw [e]; exact this
  · refine Int.le_of_mul_le_mul_right ?_ hs
    rw [h]
    have := Int.mul_le_mul_of_nonneg_right k2 (by omega : 0 ≤ d)
    have e : b * d * (a + b) = b * (a + b) * d := by ac_rfl
    rw [e]; exact this
/-- the pace for steps -/
theorem pace_tell (x y s : Int) : lowN (s * y) (x - s) * x = s * (y * lowD (s * y) (x - s) + lowN (s * y) (x - s)) := by
  have h := low_cross (s * y) (x - s)
  generalize lowN (s * y) (x - s) = n at *
  generalize lowD (s * y) (x - s) = d at *
  rw [Int.mul_sub] at h
  rw [Int.mul_add, ← Int.mul_assoc s y d, ← h, Int.mul_comm s n]
  omega

end Go.Proofs.YthcoipoihieggaaDoor
