/- Plain facts: a rising list is told by its members. -/
import Derived.Test.YtimgnollnnepbaaDrain
namespace Go.Proofs.Ytimgnollnnepbaa
open Go.RowKit

theorem sorted_ext : ∀ {xs ys : List Int}, xs.Pairwise (· < ·) → ys.Pairwise (· < ·) → (∀ i, i ∈ xs ↔ i ∈ ys) → xs = ys
  | [], [], _, _, _ => rfl
  | [], y :: r, _, _, h => by have := (h y).2 (by simp); simp at this
  | x :: r, [], _, _, h => by have := (h x).1 (by simp); simp at this
  | x :: r, y :: s, hx, hy, h => by
    obtain ⟨h1, h2⟩ := List.pairwise_cons.1 hx
    obtain ⟨k1, k2⟩ := List.pairwise_cons.1 hy
    have e : x = y := by
      have a1 := (h x).1 (by simp)
      have a2 := (h y).2 (by simp)
      rcases List.mem_cons.1 a1 with e | m1
      · exact e
      · rcases List.mem_cons.1 a2 with e | m2
        · exact e.symm
        · have := h1 y m2; have := k1 x m1; omega
    subst e
    congr 1
    refine sorted_ext h2 k2 fun i => ⟨fun hi => ?_, fun hi => ?_⟩
    · rcases List.mem_cons.1 ((h i).1 (by simp [hi])) with e | m
      · subst e; have := h1 i hi; omega
      · exact m
    · rcases List.mem_cons.1 ((h i).2 (by simp [hi])) with e | m
      · subst e; have := k1 i hi; omega
      · exact m

theorem mem_els (S : Int → Bool) : ∀ (m : Nat) (i : Int), i ∈ els S m ↔ (S i = true ∧ 1 ≤ i ∧ i ≤ m)
  | 0, i => by simp [els]; intro _ _; omega
  | m + 1, i => by
    simp only [els, List.mem_append, mem_els S m i]
    constructor
    · rintro (⟨a, b, c⟩ | h)
      · exact ⟨a, b, by omega⟩
      · by_cases hS : S ((m : Int) + 1) = true
        · rw [if_pos hS] at h
          have : i = (m : Int) + 1 := by simpa using h
          subst this
          exact ⟨hS, by omega, by omega⟩
        · rw [if_neg hS] at h; simp at h
    · rintro ⟨a, b, c⟩
      by_cases e : i = (m : Int) + 1
      · subst e
        rw [if_pos a]
        exact .inr (by simp)
      · exact .inl ⟨a, b, by omega⟩
theorem els_sorted (S : Int → Bool) : ∀ m, (els S m).Pairwise (· < ·)
  | 0 => List.Pairwise.nil
  | m + 1 => by
    simp only [els]
    rw [List.pairwise_append]
    refine ⟨els_sorted S m, by split <;> simp, fun a ha b hb => ?_⟩
    have h1 := (mem_els S m a).1 ha
    split at hb
    · have : b = (m : Int) + 1 := by simpa using hb
      omega
    · simp at hb
theorem els_eq {S : Int → Bool} {ys : List Int} (hs : ys.Pairwise (· < ·)) (hm : ∀ i, i ∈ ys ↔ (S i = true ∧ 1 ≤ i ∧ i ≤ 60)) : els S 60 = ys :=
  sorted_ext (els_sorted S 60) hs fun i => by rw [mem_els, hm]; rfl

/-- x put into a rising list -/
def putL : List Int → Int → List Int
  | [], x => [x]
  | y :: r, x => if y < x then y :: putL r x else if y = x then y :: r else x :: y :: r
theorem mem_putL (x i : Int) : ∀ xs : List Int, i ∈ putL xs x ↔ (i ∈ xs ∨ i = x)
  | [] => by simp [putL]
  | y :: r => by
    simp only [putL]
    split
    · simp only [List.mem_cons, mem_putL x i r]
      constructor
      · rintro (h | h | h) <;> simp [h]
      · rintro ((h | h) | h) <;> simp [h]
    · split
      · rename_i h
        subst h
        simp only [List.mem_cons]
        constructor
        · intro h; exact .inl h
        · rintro (h | h)
          · exact h
          · exact .inl h
      · simp only [List.mem_cons]
        constructor
        · rintro (h | h | h) <;> simp [h]
        · rintro ((h | h) | h) <;> simp [h]
theorem putL_sorted (x : Int) : ∀ {xs : List Int}, xs.Pairwise (· < ·) → (putL xs x).Pairwise (· < ·)
  | [], _ => by simp [putL]
  | y :: r, h => by
    obtain ⟨h1, h2⟩ := List.pairwise_cons.1 h
    simp only [putL]
    split
    · refine List.pairwise_cons.2 ⟨fun i hi => ?_, putL_sorted x h2⟩
      rcases (mem_putL x i r).1 hi with h3 | h3
      · exact h1 i h3
      · omega
    · split
      · exact h
      · refine List.pairwise_cons.2 ⟨fun i hi => ?_, h⟩
        rcases List.mem_cons.1 hi with h3 | h3
        · omega
        · have := h1 i h3; omega

theorem hasB_iff {xs : List Int} {x : Int} : hasB xs x = true ↔ x ∈ xs := by simp [hasB]
theorem els_put {st x : Int} {ss bs : List Int} (G : Good st ss bs) (h1 : 1 ≤ x) (h2 : x < st) : els (fun i => hasB bs i || i == x) 60 = putL bs x := by
  refine els_eq (putL_sorted x G.pb) fun i => ?_
  rw [mem_putL, Bool.or_eq_true, hasB_iff, beq_iff_eq]
  constructor
  · rintro (h | h)
    · have := G.hb i h; have := G.st2; exact ⟨.inl h, by omega, by omega⟩
    · have := G.st2; exact ⟨.inr h, by omega, by omega⟩
  · rintro ⟨h, _⟩; exact h
theorem els_drop {st x : Int} {ss bs : List Int} (G : Good st ss bs) : els (fun i => hasB bs i && !(i == x)) 60 = bs.filter (fun k => k != x) := by
  refine els_eq (G.pb.filter _) fun i => ?_
  simp only [List.mem_filter, Bool.and_eq_true, hasB_iff, Bool.not_eq_true', bne_iff_ne, ne_eq, beq_eq_false_iff_ne]
  constructor
  · rintro ⟨h, h'⟩
    have := G.hb i h; have := G.st2; exact ⟨⟨h, h'⟩, by omega, by omega⟩
  · rintro ⟨h, _⟩; exact h

/-- the broken steps told from the top -/
def turnL (st : Int) (bs : List Int) : List Int := (bs.map (st - ·)).reverse
theorem turn_sorted (st : Int) : ∀ {bs : List Int}, bs.Pairwise (· < ·) → (turnL st bs).Pairwise (· < ·) := by
  intro bs h
  unfold turnL
  rw [List.pairwise_reverse, List.pairwise_map]
  exact h.imp (fun {a b} h => by omega)
theorem els_turn {st : Int} {ss bs : List Int} (G : Good st ss bs) : els (hasB (bs.map (st - ·))) 60 = turnL st bs := by
  refine els_eq (turn_sorted st G.pb) fun i => ?_
  rw [hasB_iff, turnL, List.mem_reverse]
  constructor
  · intro h
    obtain ⟨b, hb, rfl⟩ := List.mem_map.1 h
    have := G.hb b hb; have := G.st2
    exact ⟨h, by omega, by omega⟩
  · rintro ⟨h, _⟩; exact h

end Go.Proofs.Ytimgnollnnepbaa
