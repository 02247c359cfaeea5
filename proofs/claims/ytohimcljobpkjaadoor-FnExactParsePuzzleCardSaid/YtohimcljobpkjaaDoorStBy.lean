/- Plain facts on climbs with just so many strides. No program. -/
import Derived.Test.YtohimcljobpkjaaDoorStWays
namespace Go.Proofs.YtohimcljobpkjaaDoor
set_option maxRecDepth 100000

/-- the sum over the strides of a count at the places they lead to, told by distances from the top -/
def bsum (f : Nat → Int) : List Int → Nat → Int
  | [], _ => 0
  | s :: r, d => (if s.toNat ≤ d then f (d - s.toNat) else 0) + bsum f r d
theorem bsum_append (f : Nat → Int) (d : Nat) : ∀ a b : List Int, bsum f (a ++ b) d = bsum f a d + bsum f b d
  | [], b => by simp [bsum]
  | s :: a, b => by simp only [List.cons_append, bsum, bsum_append f d a b]; omega
theorem bsum_take {f : Nat → Int} {ss : List Int} {d k : Nat} (hk : k < ss.length) : bsum f (ss.take (k + 1)) d = bsum f (ss.take k) d + (if (ss.getD k 0).toNat ≤ d then f (d - (ss.getD k 0).toNat) else 0) := by
  rw [take_succ_getD hk, bsum_append]
  simp [bsum]
theorem bsum_nonneg {f : Nat → Int} (h : ∀ e, 0 ≤ f e) (d : Nat) : ∀ ss, 0 ≤ bsum f ss d
  | [] => Int.le_refl _
  | s :: r => by
    have h1 := bsum_nonneg h d r
    have h2 := h (d - s.toNat)
    simp only [bsum]
    split <;> omega
theorem bsum_mono {f g : Nat → Int} (h : ∀ e, f e ≤ g e) (d : Nat) : ∀ ss, bsum f ss d ≤ bsum g ss d
  | [] => Int.le_refl _
  | s :: r => by
    have h1 := bsum_mono h d r
    have h2 := h (d - s.toNat)
    simp only [bsum]
    split <;> omega
theorem bsum_pos {f : Nat → Int} (h : ∀ e, 0 ≤ f e) (d : Nat) : ∀ ss : List Int, (0 < bsum f ss d ↔ ∃ s, s ∈ ss ∧ s.toNat ≤ d ∧ 0 < f (d - s.toNat))
  | [] => by simp [bsum]
  | s :: r => by
    have h1 := bsum_nonneg h d r
    have h2 := h (d - s.toNat)
    have ih := bsum_pos h d r
    simp only [bsum]
    constructor
    · intro hp
      by_cases hs : s.toNat ≤ d
      · rw [if_pos hs] at hp
        by_cases h0 : 0 < f (d - s.toNat)
        · exact ⟨s, by simp, hs, h0⟩
        · obtain ⟨t, ht, h3⟩ := ih.1 (by omega)
          exact ⟨t, by simp [ht], h3⟩
      · rw [if_neg hs] at hp
        obtain ⟨t, ht, h3⟩ := ih.1 (by omega)
        exact ⟨t, by simp [ht], h3⟩
    · rintro ⟨t, ht, h3, h4⟩
      rcases List.mem_cons.1 ht with rfl | ht
      · rw [if_pos h3]; omega
      · have := ih.2 ⟨t, ht, h3, h4⟩
        split <;> omega
theorem sumS_bsum (brk : Nat → Bool) (s0 : List Int) (d : Nat) : ∀ ss : List Int, (∀ s ∈ ss, 1 ≤ s) → sumS ss (wy brk s0 d) = bsum (W brk s0) ss (d + 1)
  | [], _ => rfl
  | s :: r, h => by
    have h1 := h s (by simp)
    simp only [sumS, bsum, sumS_bsum brk s0 d r (fun t ht => h t (by simp [ht])), wy_getD]
    congr 1
    by_cases h2 : s.toNat ≤ d + 1
    · rw [if_pos h2, if_pos (by omega)]; congr 1; omega
    · rw [if_neg h2, if_neg (by omega)]
theorem pS_bsum {st : Int} {ss bs : List Int} (G : Good st ss bs) (d k : Nat) : pS st ss bs d k = bsum (wS st ss bs) (ss.take k) (d + 1) :=
  sumS_bsum (brkS st bs) ss d (ss.take k) (fun s hs => (G.hs s (List.mem_of_mem_take hs)).1)

/-- in how many ways one comes on to the top from distance d with just m strides -/
def bS (n : Nat) (ss bs : List Int) : Nat → Nat → Int
  | 0, d => if d = 0 then 1 else 0
  | _ + 1, 0 => 0
  | m + 1, d + 1 => if hasB bs ((n : Int) - (d + 1 : Nat)) then 0 else bsum (bS n ss bs m) ss (d + 1)
theorem bS_dead {n : Nat} {ss bs : List Int} {m d : Nat} (h : hasB bs ((n : Int) - (d + 1 : Nat)) = true) : bS n ss bs (m + 1) (d + 1) = 0 := by rw [bS, if_pos h]
theorem bS_alive {n : Nat} {ss bs : List Int} {m d : Nat} (h : hasB bs ((n : Int) - (d + 1 : Nat)) = false) : bS n ss bs (m + 1) (d + 1) = bsum (bS n ss bs m) ss (d + 1) := by rw [bS, if_neg (by rw [h]; decide)]
theorem bS_nonneg (n : Nat) (ss bs : List Int) : ∀ m d, 0 ≤ bS n ss bs m d
  | 0, d => by rw [bS]; split <;> omega
  | m + 1, 0 => Int.le_refl _
  | m + 1, d + 1 => by
    rw [bS]
    split
    · exact Int.le_refl _
    · exact bsum_nonneg (bS_nonneg n ss bs m) _ _
theorem bS_le {n : Nat} {ss bs : List Int} (G : Good n ss bs) : ∀ m d, bS n ss bs m d ≤ wS n ss bs d
  | 0, d => by
    rw [bS]
    split
    · next h => subst h; exact Int.le_refl _
    · exact wS_nonneg _ _ _ _
  | m + 1, 0 => wS_nonneg _ _ _ _
  | m + 1, d + 1 => by
    cases h : hasB bs ((n : Int) - (d + 1 : Nat))
    · rw [bS_alive h, wS_alive h, pS_bsum G, List.take_length]
      exact bsum_mono (bS_le G m) _ _
    · rw [bS_dead h]; exact wS_nonneg _ _ _ _
theorem bS_bd {n : Nat} {ss bs : List Int} (G : Good n ss bs) (m : Nat) {d : Nat} (h : d ≤ 60) : 0 ≤ bS n ss bs m d ∧ bS n ss bs m d ≤ 1152921504606846976 :=
  ⟨bS_nonneg _ _ _ _ _, Int.le_trans (bS_le G m d) (wS_bd G h).2⟩
theorem bP_bd {n : Nat} {ss bs : List Int} (G : Good n ss bs) (m : Nat) {d : Nat} (h : d ≤ 60) (k : Nat) : 0 ≤ bsum (bS n ss bs m) (ss.take k) (d + 1) ∧ bsum (bS n ss bs m) (ss.take k) (d + 1) ≤ 1152921504606846976 :=
  ⟨bsum_nonneg (bS_nonneg n ss bs m) _ _, Int.le_trans (bsum_mono (bS_le G m) _ _) (by rw [← pS_bsum G]; exact (pS_bd G h k).2)⟩
/-- with more strides than feet one comes nowhere -/
theorem bS_far {n : Nat} {ss bs : List Int} (hs : ∀ s ∈ ss, 1 ≤ s) : ∀ m d, d < m → bS n ss bs m d = 0
  | 0, d, h => absurd h (by omega)
  | m + 1, 0, _ => rfl
  | m + 1, d + 1, h => by
    cases hb : hasB bs ((n : Int) - (d + 1 : Nat))
    · rw [bS_alive hb]
      have h0 := bsum_nonneg (bS_nonneg n ss bs m) (d + 1) ss
      have h1 : ¬ 0 < bsum (bS n ss bs m) ss (d + 1) := by
        rw [bsum_pos (bS_nonneg n ss bs m)]
        rintro ⟨s, hm, h2, h3⟩
        have := hs s hm
        rw [bS_far hs m (d + 1 - s.toNat) (by omega)] at h3
        omega
      omega
    · exact bS_dead hb

/-- v is the least number with P, or -1 -/
def IsFew (P : Nat → Prop) (v : Int) : Prop := (v = -1 ∧ ∀ m, ¬ P m) ∨ ∃ m : Nat, v = m ∧ P m ∧ ∀ i, i < m → ¬ P i
theorem IsFew.uniq {P : Nat → Prop} {u v : Int} (h : IsFew P u) (k : IsFew P v) : u = v := by
  rcases h with ⟨rfl, h⟩ | ⟨m, rfl, h1, h2⟩
  · rcases k with ⟨rfl, _⟩ | ⟨m, _, k1, _⟩
    · rfl
    · exact absurd k1 (h m)
  · rcases k with ⟨_, k⟩ | ⟨j, rfl, k1, k2⟩
    · exact absurd h1 (k m)
    · have a : ¬ m < j := fun hlt => k2 m hlt h1
      have b : ¬ j < m := fun hlt => h2 j hlt k1
      omega
theorem IsFew.congr {P Q : Nat → Prop} {v : Int} (h : IsFew P v) (e : ∀ m, P m ↔ Q m) : IsFew Q v := by
  have : P = Q := funext fun m => propext (e m)
  exact this ▸ h
/-- v is the greatest number with P, or -1 -/
def IsMost (P : Nat → Prop) (v : Int) : Prop := (v = -1 ∧ ∀ m, ¬ P m) ∨ ∃ m : Nat, v = m ∧ P m ∧ ∀ i, m < i → ¬ P i
theorem IsMost.uniq {P : Nat → Prop} {u v : Int} (h : IsMost P u) (k : IsMost P v) : u = v := by
  rcases h with ⟨rfl, h⟩ | ⟨m, rfl, h1, h2⟩
  · rcases k with ⟨rfl, _⟩ | ⟨m, _, k1, _⟩
    · rfl
    · exact absurd k1 (h m)
  · rcases k with ⟨_, k⟩ | ⟨j, rfl, k1, k2⟩
    · exact absurd h1 (k m)
    · have a : ¬ m < j := fun hlt => h2 j hlt k1
      have b : ¬ j < m := fun hlt => k2 m hlt h1
      omega
theorem IsMost.congr {P Q : Nat → Prop} {v : Int} (h : IsMost P v) (e : ∀ m, P m ↔ Q m) : IsMost Q v := by
  have : P = Q := funext fun m => propext (e m)
  exact this ▸ h
/-- one choice more: through a place with the value t one needs one stride more -/
def fewer (most : Bool) (v t : Int) : Int := if t < 0 then v else if v < 0 ∨ (most = false ∧ t + 1 < v) ∨ (most = true ∧ v < t + 1) then t + 1 else v
theorem IsFew.or {P Q : Nat → Prop} {v t : Int} (h : IsFew P v) (k : IsFew Q t) : IsFew (fun m => P m ∨ ∃ j, m = j + 1 ∧ Q j) (fewer false v t) := by
  unfold fewer
  rcases k with ⟨rfl, k⟩ | ⟨j, rfl, k1, k2⟩
  · rw [if_pos (by omega)]
    exact h.congr fun m => ⟨.inl, fun h => h.elim id fun ⟨j, _, hj⟩ => absurd hj (k j)⟩
  · rw [if_neg (by omega)]
    rcases h with ⟨rfl, h⟩ | ⟨m, rfl, h1, h2⟩
    · rw [if_pos (.inl (by omega))]
      refine .inr ⟨j + 1, rfl, .inr ⟨j, rfl, k1⟩, fun i hi => ?_⟩
      rintro (h3 | ⟨a, rfl, ha⟩)
      · exact h i h3
      · exact k2 a (by omega) ha
    · by_cases hlt : j + 1 < m
      · rw [if_pos (.inr (.inl ⟨rfl, by omega⟩))]
        refine .inr ⟨j + 1, rfl, .inr ⟨j, rfl, k1⟩, fun i hi => ?_⟩
        rintro (h3 | ⟨a, rfl, ha⟩)
        · exact h2 i (by omega) h3
        · exact k2 a (by omega) ha
      · rw [if_neg (by rintro (h | h | h); · omega
                       · omega
                       · cases h.1)]
        refine .inr ⟨m, rfl, .inl h1, fun i hi => ?_⟩
        rintro (h3 | ⟨a, rfl, ha⟩)
        · exact h2 i hi h3
        · exact k2 a (by omega) ha
theorem IsMost.or {P Q : Nat → Prop} {v t : Int} (h : IsMost P v) (k : IsMost Q t) : IsMost (fun m => P m ∨ ∃ j, m = j + 1 ∧ Q j) (fewer true v t) := by
  unfold fewer
  rcases k with ⟨rfl, k⟩ | ⟨j, rfl, k1, k2⟩
  · rw [if_pos (by omega)]
    exact h.congr fun m => ⟨.inl, fun h => h.elim id fun ⟨j, _, hj⟩ => absurd hj (k j)⟩
  · rw [if_neg (by omega)]
    rcases h with ⟨rfl, h⟩ | ⟨m, rfl, h1, h2⟩
    · rw [if_pos (.inl (by omega))]
      refine .inr ⟨j + 1, rfl, .inr ⟨j, rfl, k1⟩, fun i hi => ?_⟩
      rintro (h3 | ⟨a, rfl, ha⟩)
      · exact h i h3
      · exact k2 a (by omega) ha
    · by_cases hlt : m < j + 1
      · rw [if_pos (.inr (.inr ⟨rfl, by omega⟩))]
        refine .inr ⟨j + 1, rfl, .inr ⟨j, rfl, k1⟩, fun i hi => ?_⟩
        rintro (h3 | ⟨a, rfl, ha⟩)
        · exact h2 i (by omega) h3
        · exact k2 a (by omega) ha
      · rw [if_neg (by rintro (h | h | h); · omega
                       · cases h.1
                       · omega)]
        refine .inr ⟨m, rfl, .inl h1, fun i hi => ?_⟩
        rintro (h3 | ⟨a, rfl, ha⟩)
        · exact h2 i hi h3
        · exact k2 a (by omega) ha

end Go.Proofs.YtohimcljobpkjaaDoor
