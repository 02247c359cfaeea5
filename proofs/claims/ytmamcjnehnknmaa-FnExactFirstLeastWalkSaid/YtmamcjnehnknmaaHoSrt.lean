/- Sorted lists: plain mathematics. -/
import Derived.Test.YtmamcjnehnknmaaHoWalk
namespace Go.Proofs.Ytmamcjnehnknmaa
open Go.RowKit

def srt (xs : List Int) : List Int := xs.mergeSort fun x y => decide (x ≤ y)
theorem srt_perm (xs : List Int) : (srt xs).Perm xs := List.mergeSort_perm _ _
theorem srt_length (xs : List Int) : (srt xs).length = xs.length := (srt_perm xs).length_eq
theorem srt_sorted (xs : List Int) : (srt xs).Pairwise (· ≤ ·) := by
  have := List.pairwise_mergeSort (le := fun x y : Int => decide (x ≤ y)) (fun a b c h1 h2 => by simp at *; omega) (fun a b => by simp; omega) xs
  exact this.imp (fun h => by simpa using h)
theorem sorted_eq {xs ys : List Int} (hp : xs.Perm ys) (h1 : xs.Pairwise (· ≤ ·)) (h2 : ys.Pairwise (· ≤ ·)) : xs = ys :=
  List.Perm.eq_of_pairwise (fun a b _ _ h1 h2 => by omega) h1 h2 hp
theorem allB_iff {lo hi : Int} : ∀ {xs : List Int}, allB lo hi xs = true ↔ ∀ x ∈ xs, lo ≤ x ∧ x ≤ hi
  | [] => by simp [allB]
  | x :: r => by
    simp only [allB, Bool.and_eq_true, allB_iff (xs := r), List.forall_mem_cons]
    simp [inB]
theorem allB_perm {lo hi : Int} {xs ys : List Int} (h : xs.Perm ys) : allB lo hi xs = allB lo hi ys := by
  have e : allB lo hi xs = true ↔ allB lo hi ys = true := by
    rw [allB_iff, allB_iff]
    exact ⟨fun k x hx => k x (h.mem_iff.2 hx), fun k x hx => k x (h.mem_iff.1 hx)⟩
  cases h1 : allB lo hi xs <;> cases h2 : allB lo hi ys <;> simp_all
theorem listB_srt (ss bs ds : List Int) : listB ss bs (srt ds) = listB ss bs ds := by
  unfold listB
  rw [srt_length, allB_perm (srt_perm ds)]

/-- where a number goes in: the search comes down from the end -/
def insAt (xs : List Int) (n : Int) : Nat → Nat
  | 0 => 0
  | j + 1 => if n < xs.getD j 0 then insAt xs n j else j + 1
theorem insAt_le (xs : List Int) (n : Int) : ∀ j, insAt xs n j ≤ j
  | 0 => Nat.le_refl _
  | j + 1 => by
    have := insAt_le xs n j
    unfold insAt
    split <;> omega
theorem insAt_go {xs : List Int} {n : Int} {j : Nat} (h : n < xs.getD j 0) : insAt xs n (j + 1) = insAt xs n j := by rw [insAt, if_pos h]
theorem insAt_stop {xs : List Int} {n : Int} {j : Nat} (h : ¬ n < xs.getD j 0) : insAt xs n (j + 1) = j + 1 := by rw [insAt, if_neg h]
def insK (xs : List Int) (n : Int) : List Int := (xs.take (insAt xs n xs.length) ++ [n]) ++ xs.drop (insAt xs n xs.length)
theorem insK_perm (xs : List Int) (n : Int) : (insK xs n).Perm (n :: xs) := by
  unfold insK
  rw [List.append_assoc]
  have := List.perm_middle (l₁ := xs.take (insAt xs n xs.length)) (l₂ := xs.drop (insAt xs n xs.length)) (a := n)
  rw [List.take_append_drop] at this
  exact this
theorem getD_of_mem_drop {xs : List Int} {k : Nat} {x : Int} (h : x ∈ xs.drop k) : ∃ j, k ≤ j ∧ j < xs.length ∧ xs.getD j 0 = x := by
  obtain ⟨i, hi, e⟩ := List.getElem_of_mem h
  simp at hi
  refine ⟨k + i, by omega, by omega, ?_⟩
  rw [← e]
  simp [List.getD_eq_getElem?_getD, show k + i < xs.length by omega]
theorem getD_of_mem_take {xs : List Int} {k : Nat} {x : Int} (h : x ∈ xs.take k) : ∃ j, j < k ∧ j < xs.length ∧ xs.getD j 0 = x := by
  obtain ⟨i, hi, e⟩ := List.getElem_of_mem h
  simp at hi
  refine ⟨i, by omega, by omega, ?_⟩
  rw [← e]
  simp [List.getD_eq_getElem?_getD, show i < xs.length by omega]
theorem sorted_getD {xs : List Int} (h : xs.Pairwise (· ≤ ·)) {i j : Nat} (hij : i < j) (hj : j < xs.length) : xs.getD i 0 ≤ xs.getD j 0 := by
  have := List.pairwise_iff_getElem.1 h i j (by omega) hj hij
  simpa [List.getD_eq_getElem?_getD, hj, show i < xs.length by omega] using this
theorem insAt_above (xs : List Int) (n : Int) : ∀ m j, insAt xs n m ≤ j → j < m → n < xs.getD j 0
  | 0, j, _, h => absurd h (by omega)
  | m + 1, j, h1, h2 => by
    by_cases hc : n < xs.getD m 0
    · rw [insAt_go hc] at h1
      by_cases hj : j = m
      · rw [hj]; exact hc
      · exact insAt_above xs n m j h1 (by omega)
    · rw [insAt_stop hc] at h1
      omega
theorem insAt_below (xs : List Int) (n : Int) : ∀ m, insAt xs n m = 0 ∨ xs.getD (insAt xs n m - 1) 0 ≤ n
  | 0 => .inl rfl
  | m + 1 => by
    by_cases hc : n < xs.getD m 0
    · rw [insAt_go hc]; exact insAt_below xs n m
    · rw [insAt_stop hc]; right; simp only [Nat.add_sub_cancel]; omega
theorem insK_sorted {xs : List Int} (n : Int) (h : xs.Pairwise (· ≤ ·)) : (insK xs n).Pairwise (· ≤ ·) := by
  unfold insK
  have hab := insAt_above xs n xs.length
  have hbe := insAt_below xs n xs.length
  have hle := insAt_le xs n xs.length
  generalize insAt xs n xs.length = k at *
  have ht : ∀ x ∈ xs.take k, x ≤ n := fun x hx => by
    obtain ⟨j, hj, hjl, rfl⟩ := getD_of_mem_take hx
    rcases hbe with h0 | h0
    · omega
    · by_cases hjk : j = k - 1
      · rw [hjk]; exact h0
      · have := sorted_getD h (i := j) (j := k - 1) (by omega) (by omega); omega
  have hd : ∀ x ∈ xs.drop k, n ≤ x := fun x hx => by
    obtain ⟨j, hj, hjl, rfl⟩ := getD_of_mem_drop hx
    have := hab j hj hjl
    omega
  rw [List.pairwise_append, List.pairwise_append]
  refine ⟨⟨h.sublist (List.take_sublist _ _), by simp, fun a ha b hb => ?_⟩, h.sublist (List.drop_sublist _ _), fun a ha b hb => ?_⟩
  · simp at hb; subst hb; exact ht a ha
  · rcases List.mem_append.1 ha with ha | ha
    · have := ht a ha; have := hd b hb; omega
    · simp at ha; subst ha; exact hd b hb
/-- the numbers put in one by one -/
def insAll : List Int → List Int → List Int
  | acc, [] => acc
  | acc, x :: r => insAll (insK acc x) r
theorem insAll_perm : ∀ (xs acc : List Int), (insAll acc xs).Perm (acc ++ xs)
  | [], _ => by simp [insAll]
  | x :: r, acc => by
    refine (insAll_perm r (insK acc x)).trans ?_
    refine ((insK_perm acc x).append_right r).trans ?_
    exact (List.perm_middle (l₁ := acc) (l₂ := r) (a := x)).symm
theorem insAll_sorted : ∀ (xs acc : List Int), acc.Pairwise (· ≤ ·) → (insAll acc xs).Pairwise (· ≤ ·)
  | [], _, h => h
  | x :: r, _, h => insAll_sorted r _ (insK_sorted x h)
theorem insAll_srt (xs : List Int) : insAll [] xs = srt xs :=
  sorted_eq ((insAll_perm xs []).trans (srt_perm xs).symm) (insAll_sorted xs [] List.Pairwise.nil) (srt_sorted xs)
theorem insAll_go {xs acc : List Int} {k : Nat} (h : k < xs.length) : insAll acc (xs.drop k) = insAll (insK acc (xs.getD k 0)) (xs.drop (k + 1)) := by rw [drop_at xs k h, insAll]

end Go.Proofs.Ytmamcjnehnknmaa
