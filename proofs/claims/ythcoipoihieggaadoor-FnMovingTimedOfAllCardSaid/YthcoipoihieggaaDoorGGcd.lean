/- Fractions in lowest terms: plain mathematics, no program. -/
import Derived.Test.YthcoipoihieggaaDoorGMem
namespace Go.Proofs.YthcoipoihieggaaDoor
set_option maxRecDepth 100000
open Go.RowKit

def gI (a b : Int) : Int := (Int.gcd a b : Int)
def lowN (a b : Int) : Int := a / gI a b
def lowD (a b : Int) : Int := b / gI a b
theorem gI_step {a b : Int} (ha : 0 ≤ a) (hb : 0 ≤ b) : gI b (a % b) = gI a b := by
  obtain ⟨m, rfl⟩ := Int.eq_ofNat_of_zero_le ha
  obtain ⟨n, rfl⟩ := Int.eq_ofNat_of_zero_le hb
  unfold gI
  rw [← Int.natCast_emod, Int.gcd_natCast_natCast, Int.gcd_natCast_natCast, Nat.gcd_comm n, ← Nat.gcd_rec, Nat.gcd_comm]
theorem gI_zero {a : Int} (ha : 0 ≤ a) : gI a 0 = a := by
  unfold gI; rw [Int.gcd_zero]; omega
theorem gI_one {a : Int} : gI a 1 = 1 := by
  unfold gI; rw [Int.gcd_one]; rfl
theorem gI_pos {a b : Int} (hb : 0 < b) : 0 < gI a b := by
  unfold gI
  have : 0 < Int.gcd a b := Int.gcd_pos_of_ne_zero_right _ (by omega)
  omega
theorem gI_dvd_l (a b : Int) : gI a b * lowN a b = a := Int.mul_ediv_cancel' (Int.gcd_dvd_left _ _)
theorem gI_dvd_r (a b : Int) : gI a b * lowD a b = b := Int.mul_ediv_cancel' (Int.gcd_dvd_right _ _)
theorem gI_mul {k a b : Int} (hk : 0 < k) : gI (k * a) (k * b) = k * gI a b := by
  unfold gI
  rw [Int.gcd_mul_left]
  have : (k.natAbs : Int) = k := by omega
  rw [Int.natCast_mul, this]
theorem lowN_mul {k a b : Int} (hk : 0 < k) : lowN (k * a) (k * b) = lowN a b := by
  unfold lowN; rw [gI_mul hk, Int.mul_ediv_mul_of_pos _ _ hk]
theorem lowD_mul {k a b : Int} (hk : 0 < k) : lowD (k * a) (k * b) = lowD a b := by
  unfold lowD; rw [gI_mul hk, Int.mul_ediv_mul_of_pos _ _ hk]
/-- equal fractions have the same lowest terms -/
theorem low_same {a b c d : Int} (hb : 0 < b) (hd : 0 < d) (h : a * d = c * b) : lowN a b = lowN c d ∧ lowD a b = lowD c d := by
  have e1 : d * a = b * c := by rw [Int.mul_comm d, h, Int.mul_comm]
  have e2 : d * b = b * d := Int.mul_comm _ _
  exact ⟨by rw [← lowN_mul hd, e1, e2, lowN_mul hb], by rw [← lowD_mul hd, e1, e2, lowD_mul hb]⟩
theorem lowD_pos {a b : Int} (hb : 0 < b) : 0 < lowD a b := by
  have h1 := gI_dvd_r a b
  have h2 := gI_pos (a := a) hb
  refine Int.pos_of_mul_pos_right (a := gI a b) ?_ (by omega)
  rw [h1]; exact hb
theorem lowD_le {a b : Int} (hb : 0 < b) : lowD a b ≤ b := Int.ediv_le_self _ (by omega)
theorem lowN_nonneg {a b : Int} (ha : 0 ≤ a) (hb : 0 < b) : 0 ≤ lowN a b := Int.ediv_nonneg ha (by have := gI_pos (a := a) hb; omega)
theorem lowN_le {a b : Int} (ha : 0 ≤ a) : lowN a b ≤ a := Int.ediv_le_self _ ha
/-- lowest terms multiplied -/
theorem low_times {a b c : Int} (hb : 0 < b) : lowN (lowN a b * c) (lowD a b) = lowN (a * c) b ∧ lowD (lowN a b * c) (lowD a b) = lowD (a * c) b := by
  refine low_same (lowD_pos hb) hb ?_
  have h1 := gI_dvd_l a b
  have h2 := gI_dvd_r a b
  generalize gI a b = g at *
  generalize lowN a b = x at *
  generalize lowD a b = y at *
  subst h1 h2
  ac_rfl
/-- numerator and denominator of a result that may fail -/
def frN (v : Bool) (a b : Int) : Int := if v then lowN a b else 0
def frD (v : Bool) (a b : Int) : Int := if v then lowD a b else 0
theorem frN_no (a b : Int) : frN false a b = 0 := rfl
theorem frD_no (a b : Int) : frD false a b = 0 := rfl
theorem frN_yes (a b : Int) : frN true a b = lowN a b := rfl
theorem frD_yes (a b : Int) : frD true a b = lowD a b := rfl

end Go.Proofs.YthcoipoihieggaaDoor
