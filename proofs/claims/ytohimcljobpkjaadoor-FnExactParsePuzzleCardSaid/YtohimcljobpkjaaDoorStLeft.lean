/- Contracts: the fewest and the most strides to the top, on the model's side. -/
import Derived.Test.YtohimcljobpkjaaDoorStLeftP
import Derived.Test.YtohimcljobpkjaaDoorStCl
namespace Go.Proofs.YtohimcljobpkjaaDoor
set_option maxRecDepth 100000
open Go.RowKit

/-- the model's row: m distances done -/
def leS (most : Bool) (n : Nat) (ss bs : List Int) (m p : Nat) : Int := if p ≤ n ∧ n ≤ p + m then lv most n ss bs (n - p) else 0
/-- the same while the place at distance m + 1 is being told, k strides done -/
def leT (most : Bool) (n : Nat) (ss bs : List Int) (m k p : Nat) : Int := if p + (m + 1) = n then lP most n ss bs m k else leS most n ss bs m p
theorem leS_first (most : Bool) (n : Nat) (ss bs : List Int) (p : Nat) : leS most n ss bs 0 p = 0 := by
  unfold leS
  split
  · rw [show n - p = 0 by omega]; rfl
  · rfl
theorem leT_at {most : Bool} {n : Nat} {ss bs : List Int} {m k a : Nat} (h : a + (m + 1) = n) : leT most n ss bs m k a = lP most n ss bs m k := by unfold leT; rw [if_pos h]
theorem leT_else {most : Bool} {n : Nat} {ss bs : List Int} {m k a p : Nat} (h : a + (m + 1) = n) (hp : p ≠ a) : leT most n ss bs m k p = leT most n ss bs m (k + 1) p := by unfold leT; rw [if_neg (by omega), if_neg (by omega)]
theorem leT_else0 {most : Bool} {n : Nat} {ss bs : List Int} {m a p : Nat} (h : a + (m + 1) = n) (hp : p ≠ a) : leS most n ss bs m p = leT most n ss bs m 0 p := by unfold leT; rw [if_neg (by omega)]
theorem leT_up {most : Bool} {n : Nat} {ss bs : List Int} {m k a s : Nat} (h : a + (m + 1) = n) (hs : 1 ≤ s) (h2 : a + s ≤ n) : leT most n ss bs m k (a + s) = lT most n ss bs m (s : Int) := by
  unfold leT leS lT
  rw [if_neg (by omega), if_pos (by omega), Int.toNat_natCast, if_pos (by omega)]
  congr 1
  omega
theorem leT_same {most : Bool} {n : Nat} {ss bs : List Int} {m k a p : Nat} (h : a + (m + 1) = n) (e : lP most n ss bs m (k + 1) = lP most n ss bs m k) : leT most n ss bs m k p = leT most n ss bs m (k + 1) p := by
  by_cases hp : p = a
  · subst hp; rw [leT_at h, leT_at h, e]
  · exact leT_else h hp
theorem leT_end {most : Bool} {n : Nat} {ss bs : List Int} {m p : Nat} (h : hasB bs ((n : Int) - (m + 1 : Nat)) = false) : leT most n ss bs m ss.length p = leS most n ss bs (m + 1) p := by
  unfold leT
  by_cases h0 : p + (m + 1) = n
  · rw [if_pos h0]; unfold leS; rw [if_pos (by omega), show n - p = m + 1 by omega, lv_alive h]
  · rw [if_neg h0]; unfold leS
    by_cases h1 : p ≤ n ∧ n ≤ p + m
    · rw [if_pos h1, if_pos (by omega)]
    · rw [if_neg h1, if_neg (by omega)]
theorem leT_dead {most : Bool} {n : Nat} {ss bs : List Int} {m p : Nat} (h : hasB bs ((n : Int) - (m + 1 : Nat)) = true) : leT most n ss bs m 0 p = leS most n ss bs (m + 1) p := by
  unfold leT
  by_cases h0 : p + (m + 1) = n
  · rw [if_pos h0]; unfold leS; rw [if_pos (by omega), show n - p = m + 1 by omega, lv_dead h]; rfl
  · rw [if_neg h0]; unfold leS
    by_cases h1 : p ≤ n ∧ n ≤ p + m
    · rw [if_pos h1, if_pos (by omega)]
    · rw [if_neg h1, if_neg (by omega)]
theorem lP_bd {most : Bool} {n : Nat} {ss bs : List Int} (hs : ∀ s ∈ ss, 1 ≤ s) (d : Nat) : ∀ k, k ≤ ss.length → -1 ≤ lP most n ss bs d k ∧ lP most n ss bs d k ≤ (d : Int) + 1
  | 0, _ => by rw [lP_zero]; omega
  | k + 1, hk => by
    have ih := lP_bd (most := most) (n := n) (bs := bs) hs d k (by omega)
    have h1 := hs _ (getD_mem (xs := ss) (k := k) (by omega))
    rw [lP_succ (by omega) h1]
    have ht : -1 ≤ lT most n ss bs d (ss.getD k 0) ∧ lT most n ss bs d (ss.getD k 0) ≤ d := by
      unfold lT
      split
      · have := lv_bd (most := most) (n := n) (bs := bs) hs (d + 1 - (ss.getD k 0).toNat)
        omega
      · omega
    unfold fewer
    split
    · exact ih
    · split <;> omega
def leL (most : Bool) (n : Nat) (ss bs : List Int) : List Int := tell (n + 1) (leS most n ss bs n)
theorem leL_zero (most : Bool) (n : Nat) (ss bs : List Int) : (leL most n ss bs).getD 0 0 = lv most n ss bs n := by
  unfold leL; rw [tell_getD _ _ _ (by omega)]; unfold leS; rw [if_pos (by omega), Nat.sub_zero]
theorem fewer_no {most : Bool} {v t : Int} (h : t < 0) : fewer most v t = v := by unfold fewer; rw [if_pos h]
theorem fewer_neg {most : Bool} {v t : Int} (h : ¬ t < 0) (h2 : v < 0) : fewer most v t = t + 1 := by unfold fewer; rw [if_neg h, if_pos (.inl h2)]
theorem fewer_lt {v t : Int} (h : ¬ t < 0) (h2 : t + 1 < v) : fewer false v t = t + 1 := by unfold fewer; rw [if_neg h, if_pos (.inr (.inl ⟨rfl, h2⟩))]
theorem fewer_ge {v t : Int} (h2 : ¬ v < 0) (h3 : ¬ t + 1 < v) : fewer false v t = v := by
  unfold fewer
  split
  · rfl
  · rw [if_neg]
    rintro (h | h | h)
    · exact h2 h
    · exact h3 h.2
    · cases h.1
theorem fewer_gt {v t : Int} (h : ¬ t < 0) (h2 : v < t + 1) : fewer true v t = t + 1 := by unfold fewer; rw [if_neg h, if_pos (.inr (.inr ⟨rfl, h2⟩))]
theorem fewer_le {v t : Int} (h2 : ¬ v < 0) (h3 : ¬ v < t + 1) : fewer true v t = v := by
  unfold fewer
  split
  · rfl
  · rw [if_neg]
    rintro (h | h | h)
    · exact h2 h
    · cases h.1
    · exact h3 h.2
/-- WHAT THE MODEL's clLeft LEAVES -/
def LePost (most : Bool) (n : Nat) (ss bs : List Int) (T : TypeId) (w : World) (e : Ending) (w' : World) : Prop :=
  ∃ g, e = .returned (.slice (some ⟨g, 0, none⟩) (n + 1) (n + 1)) ∧ w.heap.size ≤ g ∧ Blk w' g T (ints (leL most n ss bs)) ∧ Below w.heap.size w w'

end Go.Proofs.YtohimcljobpkjaaDoor
