/- Plain facts on the fewest and the most strides to the top. No program. -/
import Derived.Test.YtohimcljobpkjaaDoorStBy
namespace Go.Proofs.YtohimcljobpkjaaDoor
set_option maxRecDepth 100000

/-- the fewest or the most strides to the top at distances d, d-1, .., 0, or -1 -/
def lw (most : Bool) (brk : Nat → Bool) (ss : List Int) : Nat → List Int
  | 0 => [0]
  | d + 1 => (if brk (d + 1) then -1 else ss.foldl (fun v s => fewer most v ((lw most brk ss d).getD (s.toNat - 1) (-1))) (-1)) :: lw most brk ss d
def lvW (most : Bool) (brk : Nat → Bool) (ss : List Int) (d : Nat) : Int := (lw most brk ss d).headD 0
theorem lw_cons (most : Bool) (brk : Nat → Bool) (ss : List Int) (d : Nat) : lw most brk ss (d + 1) = lvW most brk ss (d + 1) :: lw most brk ss d := rfl
theorem lw_getD (most : Bool) (brk : Nat → Bool) (ss : List Int) : ∀ d j, (lw most brk ss d).getD j (-1) = if j ≤ d then lvW most brk ss (d - j) else -1
  | 0, 0 => rfl
  | 0, j + 1 => by simp [lw]
  | d + 1, 0 => by simp [lw_cons]
  | d + 1, j + 1 => by
    rw [lw_cons, List.getD_cons_succ, lw_getD most brk ss d j]
    by_cases h : j ≤ d
    · rw [if_pos h, if_pos (by omega)]; congr 1; omega
    · rw [if_neg h, if_neg (by omega)]
/-- at distance d of n steps -/
def lv (most : Bool) (n : Nat) (ss bs : List Int) (d : Nat) : Int := lvW most (brkS n bs) ss d
/-- behind the first k strides at distance d + 1 -/
def lP (most : Bool) (n : Nat) (ss bs : List Int) (d k : Nat) : Int := (ss.take k).foldl (fun v s => fewer most v ((lw most (brkS n bs) ss d).getD (s.toNat - 1) (-1))) (-1)
/-- the value a stride of s leads to from distance d + 1 -/
def lT (most : Bool) (n : Nat) (ss bs : List Int) (d : Nat) (s : Int) : Int := if s.toNat ≤ d + 1 then lv most n ss bs (d + 1 - s.toNat) else -1
theorem lv_zero (most : Bool) (n : Nat) (ss bs : List Int) : lv most n ss bs 0 = 0 := rfl
theorem lP_zero (most : Bool) (n : Nat) (ss bs : List Int) (d : Nat) : lP most n ss bs d 0 = -1 := rfl
theorem lP_succ {most : Bool} {n : Nat} {ss bs : List Int} {d k : Nat} (hk : k < ss.length) (h1 : 1 ≤ ss.getD k 0) : lP most n ss bs d (k + 1) = fewer most (lP most n ss bs d k) (lT most n ss bs d (ss.getD k 0)) := by
  unfold lP lT lv
  rw [take_succ_getD hk, List.foldl_append]
  simp only [List.foldl_cons, List.foldl_nil, lw_getD]
  congr 1
  by_cases h : (ss.getD k 0).toNat ≤ d + 1
  · rw [if_pos h, if_pos (by omega)]; congr 1; omega
  · rw [if_neg h, if_neg (by omega)]
theorem lv_dead {most : Bool} {n : Nat} {ss bs : List Int} {d : Nat} (h : hasB bs ((n : Int) - (d + 1 : Nat)) = true) : lv most n ss bs (d + 1) = -1 := by
  show (if brkS n bs (d + 1) then (-1 : Int) else _) = -1
  rw [if_pos (show brkS n bs (d + 1) = true from h)]
theorem lv_alive {most : Bool} {n : Nat} {ss bs : List Int} {d : Nat} (h : hasB bs ((n : Int) - (d + 1 : Nat)) = false) : lv most n ss bs (d + 1) = lP most n ss bs d ss.length := by
  show (if brkS n bs (d + 1) then (-1 : Int) else _) = _
  rw [if_neg (by rw [show brkS n bs (d + 1) = false from h]; decide)]
  unfold lP
  rw [List.take_length]
theorem by_step {n : Nat} {ss bs : List Int} {d k : Nat} (hk : k < ss.length) (m : Nat) :
    ((∃ j, m = j + 1 ∧ 0 < bsum (bS n ss bs j) (ss.take k) (d + 1)) ∨ ∃ j, m = j + 1 ∧ ((ss.getD k 0).toNat ≤ d + 1 ∧ 0 < bS n ss bs j (d + 1 - (ss.getD k 0).toNat))) ↔ ∃ j, m = j + 1 ∧ 0 < bsum (bS n ss bs j) (ss.take (k + 1)) (d + 1) := by
  constructor
  · rintro (⟨j, e, h⟩ | ⟨j, e, h1, h2⟩)
    · refine ⟨j, e, ?_⟩
      have := bS_nonneg n ss bs j (d + 1 - (ss.getD k 0).toNat)
      rw [bsum_take hk]
      split <;> omega
    · refine ⟨j, e, ?_⟩
      have := bsum_nonneg (bS_nonneg n ss bs j) (d + 1) (ss.take k)
      rw [bsum_take hk, if_pos h1]
      omega
  · rintro ⟨j, e, h⟩
    rw [bsum_take hk] at h
    by_cases h0 : 0 < bsum (bS n ss bs j) (ss.take k) (d + 1)
    · exact .inl ⟨j, e, h0⟩
    · refine .inr ⟨j, e, ?_⟩
      by_cases h1 : (ss.getD k 0).toNat ≤ d + 1
      · rw [if_pos h1] at h
        exact ⟨h1, by omega⟩
      · rw [if_neg h1] at h
        omega
theorem by_end {n : Nat} {ss bs : List Int} {d : Nat} (h : hasB bs ((n : Int) - (d + 1 : Nat)) = false) (m : Nat) : (∃ j, m = j + 1 ∧ 0 < bsum (bS n ss bs j) (ss.take ss.length) (d + 1)) ↔ 0 < bS n ss bs m (d + 1) := by
  rw [List.take_length]
  cases m with
  | zero => simp [bS]
  | succ m =>
    rw [bS_alive h]
    constructor
    · rintro ⟨j, e, hj⟩
      obtain rfl : m = j := by omega
      exact hj
    · exact fun hj => ⟨m, rfl, hj⟩
theorem lv_few {n : Nat} {ss bs : List Int} (hs : ∀ s ∈ ss, 1 ≤ s) : ∀ d, IsFew (fun m => 0 < bS n ss bs m d) (lv false n ss bs d)
  | 0 => .inr ⟨0, rfl, by simp [bS], fun i hi => by omega⟩
  | d + 1 => by
    cases h : hasB bs ((n : Int) - (d + 1 : Nat))
    · rw [lv_alive h]
      refine IsFew.congr ?_ (by_end h)
      have step : ∀ k, k ≤ ss.length → IsFew (fun m => ∃ j, m = j + 1 ∧ 0 < bsum (bS n ss bs j) (ss.take k) (d + 1)) (lP false n ss bs d k) := by
        intro k
        induction k with
        | zero => exact fun _ => .inl ⟨rfl, by rintro m ⟨j, _, hj⟩; simp [bsum] at hj⟩
        | succ k ih =>
          intro hk
          have h1 := hs _ (getD_mem (xs := ss) (k := k) (by omega))
          rw [lP_succ (by omega) h1]
          refine IsFew.congr (IsFew.or (ih (by omega)) (Q := fun j => (ss.getD k 0).toNat ≤ d + 1 ∧ 0 < bS n ss bs j (d + 1 - (ss.getD k 0).toNat)) ?_) (by_step (by omega))
          unfold lT
          by_cases h2 : (ss.getD k 0).toNat ≤ d + 1
          · rw [if_pos h2]
            exact (lv_few hs (d + 1 - (ss.getD k 0).toNat)).congr fun m => ⟨fun h => ⟨h2, h⟩, fun h => h.2⟩
          · rw [if_neg h2]
            exact .inl ⟨rfl, fun m hm => h2 hm.1⟩
      exact step ss.length (Nat.le_refl _)
    · rw [lv_dead h]
      refine .inl ⟨rfl, fun m hm => ?_⟩
      cases m with
      | zero => simp [bS] at hm
      | succ m => rw [bS_dead h] at hm; omega
  termination_by d => d
  decreasing_by omega
theorem lv_most {n : Nat} {ss bs : List Int} (hs : ∀ s ∈ ss, 1 ≤ s) : ∀ d, IsMost (fun m => 0 < bS n ss bs m d) (lv true n ss bs d)
  | 0 => .inr ⟨0, rfl, by simp [bS], fun i hi => by obtain ⟨j, rfl⟩ : ∃ j, i = j + 1 := ⟨i - 1, by omega⟩; simp [bS]⟩
  | d + 1 => by
    cases h : hasB bs ((n : Int) - (d + 1 : Nat))
    · rw [lv_alive h]
      refine IsMost.congr ?_ (by_end h)
      have step : ∀ k, k ≤ ss.length → IsMost (fun m => ∃ j, m = j + 1 ∧ 0 < bsum (bS n ss bs j) (ss.take k) (d + 1)) (lP true n ss bs d k) := by
        intro k
        induction k with
        | zero => exact fun _ => .inl ⟨rfl, by rintro m ⟨j, _, hj⟩; simp [bsum] at hj⟩
        | succ k ih =>
          intro hk
          have h1 := hs _ (getD_mem (xs := ss) (k := k) (by omega))
          rw [lP_succ (by omega) h1]
          refine IsMost.congr (IsMost.or (ih (by omega)) (Q := fun j => (ss.getD k 0).toNat ≤ d + 1 ∧ 0 < bS n ss bs j (d + 1 - (ss.getD k 0).toNat)) ?_) (by_step (by omega))
          unfold lT
          by_cases h2 : (ss.getD k 0).toNat ≤ d + 1
          · rw [if_pos h2]
            exact (lv_most hs (d + 1 - (ss.getD k 0).toNat)).congr fun m => ⟨fun h => ⟨h2, h⟩, fun h => h.2⟩
          · rw [if_neg h2]
            exact .inl ⟨rfl, fun m hm => h2 hm.1⟩
      exact step ss.length (Nat.le_refl _)
    · rw [lv_dead h]
      refine .inl ⟨rfl, fun m hm => ?_⟩
      cases m with
      | zero => simp [bS] at hm
      | succ m => rw [bS_dead h] at hm; omega
  termination_by d => d
  decreasing_by omega
theorem lv_bd {most : Bool} {n : Nat} {ss bs : List Int} (hs : ∀ s ∈ ss, 1 ≤ s) (d : Nat) : -1 ≤ lv most n ss bs d ∧ lv most n ss bs d ≤ d := by
  have key : ∀ m, 0 < bS n ss bs m d → m ≤ d := fun m hm => by
    rcases Nat.lt_or_ge d m with h | h
    · rw [bS_far hs m d h] at hm; omega
    · exact h
  cases most
  · rcases lv_few (n := n) (bs := bs) hs d with ⟨h, _⟩ | ⟨m, h, h1, _⟩
    · rw [h]; omega
    · rw [h]; have := key m h1; omega
  · rcases lv_most (n := n) (bs := bs) hs d with ⟨h, _⟩ | ⟨m, h, h1, _⟩
    · rw [h]; omega
    · rw [h]; have := key m h1; omega

end Go.Proofs.YtohimcljobpkjaaDoor
