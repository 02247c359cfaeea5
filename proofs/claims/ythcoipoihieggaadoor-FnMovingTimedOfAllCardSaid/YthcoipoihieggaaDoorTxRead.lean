/- Contracts: the model's reading of a number. -/
import Derived.Test.YthcoipoihieggaaDoorTxSplit
namespace Go.Proofs.YthcoipoihieggaaDoor
open Go.RowKit
set_option maxRecDepth 100000

/-- a byte of a text as a number -/
def btS (s : ByteArray) (k : Nat) : Nat := (s.data.getD k 0).toNat
theorem btS_lt (s : ByteArray) (k : Nat) : btS s k < 256 := UInt8.toNat_lt _
theorem btS_at {s : ByteArray} {k : Nat} (h : k < s.size) : (s[k]'h).toNat = btS s k := by
  have : s.data.getD k 0 = s[k]'h := by simp [ByteArray.getElem_eq_getElem_data, Array.getD, h]
  unfold btS; rw [this]
/-- what the first k bytes tell -/
def rdN (s : ByteArray) : Nat → Int
  | 0 => 0
  | k + 1 => 10 * rdN s k + ((btS s k : Int) - 48)
def dgB (s : ByteArray) : Nat → Bool
  | 0 => true
  | k + 1 => dgB s k && (decide (48 ≤ btS s k) && decide (btS s k ≤ 57))
theorem dgB_mono {s : ByteArray} {k : Nat} (h : dgB s k = false) : ∀ n, k ≤ n → dgB s n = false
  | 0, hn => by obtain rfl : k = 0 := by omega
                exact h
  | n + 1, hn => by
    by_cases e : k = n + 1
    · subst e; exact h
    · simp [dgB, dgB_mono h n (by omega)]
theorem rdN_in {s : ByteArray} : ∀ k, dgB s k = true → 0 ≤ rdN s k ∧ rdN s k < 10 ^ k
  | 0, _ => by simp [rdN]
  | k + 1, h => by
    simp only [dgB, Bool.and_eq_true, decide_eq_true_eq] at h
    have := rdN_in k h.1
    unfold rdN
    rw [Int.pow_succ]
    omega
def rdB (s : ByteArray) : Bool := inB (s.size : Int) 1 6 && (!(decide (btS s 0 = 48) && decide (1 < s.size)) && dgB s s.size)
/-- what the model reads -/
def rdI (s : ByteArray) : Int := if rdB s then rdN s s.size else -1
theorem rdI_no {s : ByteArray} (h : rdB s = false) : rdI s = -1 := by unfold rdI; rw [h]; rfl


end Go.Proofs.YthcoipoihieggaaDoor
