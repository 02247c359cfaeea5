/- Spirals: lists of steps that suit, sides, lamps, twins: plain mathematics, no program. -/
import Derived.Test.YtomjebelgnecfaaSpH
namespace Go.Proofs.Ytomjebelgnecfaa
open Go.RowKit

def evB2 (a b c l m : Int) : Bool := spiB a b c && (inB l 1 400 && inB m 1 400)
def evB3 (a b c l m : Int) : Bool := spiB a b c && (inB l 1 400 && inB m 0 400)
theorem evB2_le {a b c l m : Int} (h : evB2 a b c l m = true) : 1 ≤ a ∧ a ≤ 400 := by
  simp only [evB2, Bool.and_eq_true] at h
  have := spiB_le h.1
  omega
theorem evB3_le {a b c l m : Int} (h : evB3 a b c l m = true) : 1 ≤ a ∧ a ≤ 400 := by
  simp only [evB3, Bool.and_eq_true] at h
  have := spiB_le h.1
  omega
/-- the steps 1..n that suit -/
def selL (p : Int → Bool) : Nat → List Int
  | 0 => []
  | k + 1 => if p ((k : Int) + 1) then selL p k ++ [(k : Int) + 1] else selL p k
theorem selL_yes {p : Int → Bool} {k : Nat} (h : p ((k : Int) + 1) = true) : selL p (k + 1) = selL p k ++ [(k : Int) + 1] := by rw [selL, if_pos h]
theorem selL_no {p : Int → Bool} {k : Nat} (h : p ((k : Int) + 1) = false) : selL p (k + 1) = selL p k := by rw [selL, if_neg (by simp [h])]
theorem selL_length (p : Int → Bool) : ∀ k : Nat, (selL p k).length ≤ k
  | 0 => Nat.le_refl _
  | k + 1 => by
    have := selL_length p k
    unfold selL
    split <;> simp <;> omega
theorem selL_congr {p q : Int → Bool} : ∀ {n : Nat}, (∀ k : Int, 1 ≤ k → k ≤ n → p k = q k) → selL p n = selL q n
  | 0, _ => rfl
  | n + 1, h => by
    have h1 := h ((n : Int) + 1) (by omega) (by omega)
    have h2 := selL_congr (p := p) (q := q) (n := n) (fun k hk hk' => h k hk (by omega))
    unfold selL
    rw [h1, h2]
theorem selL_skip {p : Int → Bool} {i : Nat} : ∀ {j : Nat}, i ≤ j → (∀ k : Int, (i : Int) < k → k ≤ j → p k = false) → selL p j = selL p i
  | 0, h, _ => by rw [show i = 0 by omega]
  | j + 1, h, hn => by
    by_cases e : i = j + 1
    · rw [e]
    · rw [selL_no (hn ((j : Int) + 1) (by omega) (by omega))]
      exact selL_skip (by omega) (fun k hk hk' => hn k hk (by omega))
theorem selL_grow (p : Int → Bool) {i : Nat} : ∀ {j : Nat}, i ≤ j → ∃ t, selL p j = selL p i ++ t
  | 0, h => ⟨[], by rw [show i = 0 by omega]; simp⟩
  | j + 1, h => by
    by_cases e : i = j + 1
    · exact ⟨[], by rw [e]; simp⟩
    · obtain ⟨t, ht⟩ := selL_grow p (i := i) (j := j) (by omega)
      cases hp : p ((j : Int) + 1)
      · rw [selL_no hp]; exact ⟨t, ht⟩
      · rw [selL_yes hp]; exact ⟨t ++ [(j : Int) + 1], by rw [ht, List.append_assoc]⟩
/-- the steps that suit, or none -/
def selR (v : Bool) (p : Int → Bool) (n : Int) : List Int := if v then selL p n.toNat else []
theorem selR_no (p : Int → Bool) (n : Int) : selR false p n = [] := rfl
theorem selR_yes (p : Int → Bool) (n : Int) : selR true p n = selL p n.toNat := rfl
theorem selR_length (v : Bool) (p : Int → Bool) {n : Int} (h : v = true → n ≤ 1000000) : (selR v p n).length ≤ 1048576 := by
  cases v
  · simp [selR]
  · have := selL_length p n.toNat
    have := h rfl
    rw [selR_yes]; omega

theorem mod_no {x b : Int} (h0 : 0 < x) (h1 : x < b) : ¬ x % b = 0 := by rw [Int.emod_eq_of_lt (by omega) h1]; omega
/-- the steps above n -/
def aboveP (b n k : Int) : Bool := decide (n < k) && decide ((k - n) % b = 0)
theorem aboveP_lt {b n k : Int} (h : k ≤ n) : aboveP b n k = false := by simp [aboveP]; omega
theorem aboveP_mid {b n k m : Int} (hm : (m - n) % b = 0) (h0 : m - b < k) (h1 : k < m) : aboveP b n k = false := by
  have h2 : ¬ (k - n) % b = 0 := by
    intro h
    have h3 : (m - k) % b = 0 := by
      rw [show m - k = (m - n) - (k - n) by omega, Int.sub_emod, hm, h]; simp
    exact mod_no (b := b) (x := m - k) (by omega) (by omega) h3
  simp [aboveP, h2]
theorem aboveP_at {b n m : Int} (h : (m - n) % b = 0) (h0 : n < m) : aboveP b n m = true := by simp [aboveP, h, h0]
theorem above_next {b n m : Int} (h : (m - n) % b = 0) : (m + b - n) % b = 0 := by
  rw [show m + b - n = (m - n) + b by omega, Int.add_emod_right]; exact h
theorem aro_bd {b n m : Int} (hb : 0 < b) : 0 ≤ aroI b n m ∧ aroI b n m ≤ b := by
  unfold aroI leastI
  have h0 : 0 ≤ absI (n - m) % b := Int.emod_nonneg _ (by omega)
  have h1 : absI (n - m) % b < b := Int.emod_lt_of_pos _ hb
  split <;> omega
theorem aro_zero {b n k : Int} (hb : 0 < b) (h : n < k) : (aroI b n k = 0) ↔ (k - n) % b = 0 := by
  have e : absI (n - k) = k - n := by unfold absI; split <;> omega
  unfold aroI leastI
  rw [e]
  have h0 : 0 ≤ (k - n) % b := Int.emod_nonneg _ (by omega)
  have h1 : (k - n) % b < b := Int.emod_lt_of_pos _ hb
  generalize (k - n) % b = r at *
  split <;> omega
theorem above_head {a b n : Int} (hb : 3 ≤ b) (h1 : 1 ≤ n) (hle : n + b ≤ a) : ∃ t, selL (aboveP b n) a.toNat = (n + b) :: t := by
  have e0 : selL (aboveP b n) (n + b - 1).toNat = selL (aboveP b n) 0 :=
    selL_skip (by omega) (fun k hk hk' => by
      by_cases hkn : k ≤ n
      · exact aboveP_lt hkn
      · exact aboveP_mid (m := n + b) (by rw [show n + b - n = b by omega]; exact Int.emod_self) (by omega) (by omega))
  have e1 : selL (aboveP b n) (n + b).toNat = [n + b] := by
    have e2 : ((n + b - 1).toNat : Int) + 1 = n + b := by omega
    rw [show (n + b).toNat = (n + b - 1).toNat + 1 by omega, selL_yes (by rw [e2]; exact aboveP_at (by rw [show n + b - n = b by omega]; exact Int.emod_self) (by omega)), e0, e2]
    rfl
  obtain ⟨t, ht⟩ := selL_grow (aboveP b n) (i := (n + b).toNat) (j := a.toNat) (by omega)
  exact ⟨t, by rw [ht, e1]; rfl⟩
theorem above_none {a b n : Int} (hb : 3 ≤ b) (h1 : 1 ≤ n) (hle : ¬ n + b ≤ a) : selL (aboveP b n) a.toNat = [] :=
  selL_skip (i := 0) (by omega) (fun k hk hk' => by
    by_cases hkn : k ≤ n
    · exact aboveP_lt hkn
    · exact aboveP_mid (m := n + b) (by rw [show n + b - n = b by omega]; exact Int.emod_self) (by omega) (by omega))

theorem above_start {b n : Int} (h1 : 1 ≤ n) (hb : 3 ≤ b) : selL (aboveP b n) (n + b - 1).toNat = [] :=
  above_none (a := n + b - 1) hb h1 (by omega)
theorem above_step {b n m : Int} (hm : (m - n) % b = 0) (h0 : n < m) (h1 : 1 ≤ n) (hb : 3 ≤ b) : selL (aboveP b n) (m + b - 1).toNat = selL (aboveP b n) (m - 1).toNat ++ [m] := by
  have e2 : ((m - 1).toNat : Int) + 1 = m := by omega
  rw [selL_skip (i := m.toNat) (j := (m + b - 1).toNat) (by omega) (fun k hk hk' => aboveP_mid (m := m + b) (above_next hm) (by omega) (by omega)),
    show m.toNat = (m - 1).toNat + 1 by omega, selL_yes (by rw [e2]; exact aboveP_at hm h0), e2]
theorem above_stop {a b n m : Int} (hm : (m - n) % b = 0) (h0 : m ≤ a + b) (h1 : a < m) (h2 : 1 ≤ a) : selL (aboveP b n) (m - 1).toNat = selL (aboveP b n) a.toNat :=
  selL_skip (by omega) (fun k hk hk' => aboveP_mid (m := m) hm (by omega) (by omega))

/-- opposite steps: twice the shorter way is a turn, twice the one way is -/
theorem opp_aro {b n m : Int} (hb : 0 < b) : decide (2 * aroI b n m = b) = oppB b n m := by
  unfold aroI leastI oppB
  have h0 : 0 ≤ absI (n - m) % b := Int.emod_nonneg _ (by omega)
  have h1 : absI (n - m) % b < b := Int.emod_lt_of_pos _ hb
  generalize absI (n - m) % b = r at *
  apply decide_eq_decide.2
  split <;> omega

/-- the number of the side to which a step looks -/
def sideI (b n : Int) : Int := (8 * ((n - 1) % b) + b - 1) / (2 * b) % 4
theorem div_is {m d k : Int} (hd : 0 < d) (h0 : k * d ≤ m) (h1 : m < (k + 1) * d) : m / d = k := by
  have a1 : k ≤ m / d := (Int.le_ediv_iff_mul_le hd).2 h0
  have a2 : m / d < k + 1 := (Int.ediv_lt_iff_lt_mul hd).2 h1
  omega
theorem side_is {b x k : Int} (hb : 3 ≤ b) (hx : 0 ≤ x) (hk : 0 ≤ k) (hk4 : k ≤ 4) (hlow : k = 0 ∨ b * (2 * (k - 1) + 1) < 8 * x) (hup : 8 * x ≤ b * (2 * k + 1)) : (8 * x + b - 1) / (2 * b) = k := by
  refine div_is (by omega) ?_ ?_
  all_goals (obtain rfl | rfl | rfl | rfl | rfl : k = 0 ∨ k = 1 ∨ k = 2 ∨ k = 3 ∨ k = 4 := by omega)
  all_goals (simp at hlow hup ⊢; omega)
/-- the side's letter -/
def sideS (k : Int) : ByteArray := if k = 0 then ⟨#[110]⟩ else if k = 1 then ⟨#[101]⟩ else if k = 2 then ⟨#[115]⟩ else ⟨#[119]⟩
theorem side_bd {b n : Int} : 0 ≤ sideI b n ∧ sideI b n < 4 := ⟨Int.emod_nonneg _ (by omega), Int.emod_lt_of_pos _ (by omega)⟩

/-- no lamp at t, t + l, .. up to a shines on the step k -/
def darkF (a l s k : Int) : Nat → Int → Bool
  | 0, _ => true
  | f + 1, t => if t ≤ a then decide (s < absI (t - k)) && darkF a l s k f (t + l) else true
theorem darkF_in {a l s k : Int} {f : Nat} {t : Int} (h : t ≤ a) : darkF a l s k (f + 1) t = (decide (s < absI (t - k)) && darkF a l s k f (t + l)) := by rw [darkF, if_pos h]
theorem darkF_end {a l s k : Int} {f : Nat} {t : Int} (h : a < t) : darkF a l s k f t = true := by
  cases f
  · rfl
  · rw [darkF, if_neg (by omega)]
def darkP (a l s k : Int) : Bool := darkF a l s k 401 l
/-- lamps and windows -/
def lampP (l w k : Int) : Bool := decide (k % l = 0) && decide (k % w = 0)

theorem lampP_mid {l w k m : Int} (hm : m % l = 0) (h0 : m - l < k) (h1 : k < m) : lampP l w k = false := by
  have h2 : ¬ k % l = 0 := by
    intro h
    have h3 : (m - k) % l = 0 := by rw [Int.sub_emod, hm, h]; simp
    exact mod_no (b := l) (x := m - k) (by omega) (by omega) h3
  simp [lampP, h2]
theorem lamp_start {l w : Int} (h1 : 1 ≤ l) : selL (lampP l w) (l - 1).toNat = [] :=
  selL_skip (i := 0) (by omega) (fun k hk hk' => lampP_mid (m := l) (by rw [Int.emod_self]) (by omega) (by omega))
theorem lamp_next {l m : Int} (hm : m % l = 0) : (m + l) % l = 0 := by rw [Int.add_emod_right]; exact hm
theorem lamp_yes {l w m : Int} (hm : m % l = 0) (h0 : 1 ≤ m) (h1 : 1 ≤ l) (hw : m % w = 0) : selL (lampP l w) (m + l - 1).toNat = selL (lampP l w) (m - 1).toNat ++ [m] := by
  have e2 : ((m - 1).toNat : Int) + 1 = m := by omega
  rw [selL_skip (i := m.toNat) (j := (m + l - 1).toNat) (by omega) (fun k hk hk' => lampP_mid (m := m + l) (lamp_next hm) (by omega) (by omega)),
    show m.toNat = (m - 1).toNat + 1 by omega, selL_yes (by rw [e2]; simp [lampP, hm, hw]), e2]
theorem lamp_no {l w m : Int} (hm : m % l = 0) (h0 : 1 ≤ m) (h1 : 1 ≤ l) (hw : ¬ m % w = 0) : selL (lampP l w) (m + l - 1).toNat = selL (lampP l w) (m - 1).toNat := by
  have e2 : ((m - 1).toNat : Int) + 1 = m := by omega
  rw [selL_skip (i := m.toNat) (j := (m + l - 1).toNat) (by omega) (fun k hk hk' => lampP_mid (m := m + l) (lamp_next hm) (by omega) (by omega)),
    show m.toNat = (m - 1).toNat + 1 by omega, selL_no (by rw [e2]; simp [lampP, hw])]
theorem lamp_stop {a l w m : Int} (hm : m % l = 0) (h0 : m ≤ a + l) (h1 : a < m) (h2 : 1 ≤ a) : selL (lampP l w) (m - 1).toNat = selL (lampP l w) a.toNat :=
  selL_skip (by omega) (fun k hk hk' => lampP_mid (m := m) hm (by omega) (by omega))

end Go.Proofs.Ytomjebelgnecfaa
