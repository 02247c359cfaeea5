/- Ranks of climbs: plain mathematics. -/
import Derived.Test.YtimgnollnnepbaaStRank
namespace Go.Proofs.Ytimgnollnnepbaa
open Go.RowKit

/-- the ways on by lower strides, among the first k -/
def qS (st : Int) (ss bs : List Int) (d : Nat) (own : Int) : Nat → Int
  | 0 => 0
  | k + 1 => if ss.getD k 0 < own then qS st ss bs d own k + sS st ss bs d (ss.getD k 0) else qS st ss bs d own k
theorem qS_yes {st : Int} {ss bs : List Int} {d k : Nat} {own : Int} (h : ss.getD k 0 < own) : qS st ss bs d own (k + 1) = qS st ss bs d own k + sS st ss bs d (ss.getD k 0) := by rw [qS, if_pos h]
theorem qS_no {st : Int} {ss bs : List Int} {d k : Nat} {own : Int} (h : ¬ ss.getD k 0 < own) : qS st ss bs d own (k + 1) = qS st ss bs d own k := by rw [qS, if_neg h]
theorem sS_nn (st : Int) (ss bs : List Int) (d : Nat) (s : Int) : 0 ≤ sS st ss bs d s := by
  unfold sS
  split
  · exact wS_nonneg _ _ _ _
  · omega
theorem Good.sat {st : Int} {ss bs : List Int} (G : Good st ss bs) {k : Nat} (h : k < ss.length) : 1 ≤ ss.getD k 0 ∧ ss.getD k 0 ≤ 9 := G.hs _ (getD_mem h)
theorem qS_le {st : Int} {ss bs : List Int} (G : Good st ss bs) (d : Nat) (own : Int) : ∀ k, k ≤ ss.length → 0 ≤ qS st ss bs d own k ∧ qS st ss bs d own k ≤ pS st ss bs d k
  | 0, _ => by simp [qS, pS_zero]
  | k + 1, h => by
    have h0 := qS_le G d own k (by omega)
    have h1 := pS_succ (st := st) (bs := bs) (d := d) (k := k) (by omega) (G.sat (show k < ss.length by omega)).1
    have h2 := sS_nn st ss bs d (ss.getD k 0)
    by_cases hc : ss.getD k 0 < own
    · rw [qS_yes hc]; omega
    · rw [qS_no hc]; omega
theorem qS_own {st : Int} {ss bs : List Int} (G : Good st ss bs) (d : Nat) (own : Int) : ∀ k, k ≤ ss.length → (∃ j, j < k ∧ ss.getD j 0 = own) → qS st ss bs d own k + sS st ss bs d own ≤ pS st ss bs d k
  | 0, _, h => by obtain ⟨j, hj, _⟩ := h; omega
  | k + 1, h, hj => by
    have h1 := pS_succ (st := st) (bs := bs) (d := d) (k := k) (by omega) (G.sat (show k < ss.length by omega)).1
    have h2 := sS_nn st ss bs d (ss.getD k 0)
    by_cases hk : ss.getD k 0 = own
    · have h0 := qS_le G d own k (by omega)
      rw [qS_no (by omega), ← hk]
      rw [← hk] at h0
      omega
    · obtain ⟨j, hj1, hj2⟩ := hj
      have h0 := qS_own G d own k (by omega) ⟨j, by
        by_cases hjk : j = k
        · subst hjk; exact absurd hj2 hk
        · omega, hj2⟩
      by_cases hc : ss.getD k 0 < own
      · rw [qS_yes hc]; omega
      · rw [qS_no hc]; omega
theorem has_at {xs : List Int} {x : Int} (h : hasB xs x = true) : ∃ j, j < xs.length ∧ xs.getD j 0 = x := by
  obtain ⟨j, hj, e⟩ := List.getElem_of_mem (mem_of_hasB h)
  exact ⟨j, hj, by simp [List.getD_eq_getElem?_getD, hj, e]⟩
/-- the rank of a climb from a step on -/
def rkS (n : Nat) (ss bs : List Int) : Nat → List Int → Int
  | _, [] => 0
  | a, x :: r => qS n ss bs (n - a - 1) x ss.length + rkS n ss bs (a + x.toNat) r
/-- where the rank stands: k strides told, at the step a -/
structure RAt (n : Nat) (ss bs xs : List Int) (k a : Nat) (v : Int) : Prop where
  an : a ≤ n
  cl : climbB n ss bs a (xs.drop k) = true
  sm : (sumsL 0 xs).drop k = sumsL a (xs.drop k)
  e : rkS n ss bs 0 xs = v + rkS n ss bs a (xs.drop k)
  v0 : 0 ≤ v
  v1 : v + wS n ss bs (n - a) ≤ wS n ss bs n
  al : hasB bs a = false
theorem not_hasB {bs : List Int} {x : Int} (h : ∀ y ∈ bs, y ≠ x) : hasB bs x = false := by
  cases hc : hasB bs x
  · rfl
  · exact absurd rfl (h x (mem_of_hasB hc))
theorem RAt.first {n : Nat} {ss bs xs : List Int} (G : Good n ss bs) (h : climbB n ss bs 0 xs = true) : RAt n ss bs xs 0 0 0 :=
  ⟨by omega, by simpa using h, by simp, by simp, by omega, by simp, not_hasB fun y hy => by have := G.hb y hy; show y ≠ ((0 : Nat) : Int); omega⟩
/-- what the next stride is -/
structure RNext (n : Nat) (ss bs xs : List Int) (k a m : Nat) (x : Int) (v : Int) : Prop where
  hm : a + (m + 1) = n
  x1 : 1 ≤ x
  x9 : x ≤ 9
  sk : (sumsL 0 xs).getD k 0 = a + x
  q : ∀ j, j ≤ ss.length → 0 ≤ qS n ss bs m x j ∧ qS n ss bs m x j ≤ wS n ss bs (n - a)
  s : ∀ j, j < ss.length → ss.getD j 0 < x → sS n ss bs m (ss.getD j 0) ≤ wS n ss bs (n - a)
  nx : RAt n ss bs xs (k + 1) (a + x.toNat) (v + qS n ss bs m x ss.length)
theorem pS_mono {st : Int} {ss bs : List Int} (G : Good st ss bs) (d : Nat) : ∀ j k, j ≤ k → k ≤ ss.length → pS st ss bs d j ≤ pS st ss bs d k
  | j, 0, h, _ => by obtain rfl : j = 0 := by omega
                     exact Int.le_refl _
  | j, k + 1, h, hk => by
    by_cases hj : j = k + 1
    · rw [hj]; exact Int.le_refl _
    · have h0 := pS_mono G d j k (by omega) (by omega)
      have h1 := pS_succ (st := st) (bs := bs) (d := d) (k := k) (by omega) (G.sat (show k < ss.length by omega)).1
      have h2 := sS_nn st ss bs d (ss.getD k 0)
      omega
theorem RAt.next {n : Nat} {ss bs xs : List Int} {k a : Nat} {v : Int} (G : Good n ss bs) (h : RAt n ss bs xs k a v) (hk : k < xs.length) : ∃ m, RNext n ss bs xs k a m (xs.getD k 0) v := by
  have hc := h.cl
  rw [climbB_go _ _ _ _ _ _ hk, Bool.and_eq_true, Bool.and_eq_true] at hc
  obtain ⟨c1, c2, c3⟩ := hc
  have hx := G.hs _ (mem_of_hasB c1)
  have hst := stand_le c2
  have hnb : hasB bs ((a : Int) + xs.getD k 0) = false := by
    simp only [standB, Bool.and_eq_true, Bool.not_eq_true'] at c2
    exact c2.2
  have hs := h.sm
  rw [drop_at _ k (by rw [sumsL_length]; exact hk), sumsL_go _ _ _ hk] at hs
  injection hs with hs1 hs2
  obtain ⟨j, hj, hjx⟩ := has_at c1
  have he := h.e
  rw [drop_at xs k hk, rkS] at he
  generalize hxx : xs.getD k 0 = x at *
  obtain ⟨s, rfl⟩ : ∃ s : Nat, x = (s : Int) := ⟨x.toNat, by omega⟩
  obtain ⟨m, hm⟩ : ∃ m, a + (m + 1) = n := ⟨n - a - 1, by omega⟩
  have hm1 : n - a - 1 = m := by omega
  have hm2 : n - a = m + 1 := by omega
  rw [hm1] at he
  have hw : wS n ss bs (n - a) = pS n ss bs m ss.length := by
    rw [hm2]
    exact wS_alive (by rw [show ((n : Int) - (m + 1 : Nat)) = (a : Int) by omega]; exact h.al)
  have hq := qS_own G m s ss.length (Nat.le_refl _) ⟨j, hj, hjx⟩
  have hsS : sS n ss bs m (s : Int) = wS n ss bs (n - (a + s)) := by
    unfold sS
    rw [if_pos (by simp; omega)]
    congr 1
    simp
    omega
  have hv1 := h.v1
  have hq0 := qS_le G m s ss.length (Nat.le_refl _)
  have hv0 := h.v0
  refine ⟨m, hm, hx.1, hx.2, hs1, fun i hi => ?_, fun i hi _ => ?_, ?_⟩
  · have h0 := qS_le G m s i hi
    have h1 := pS_mono G m i ss.length hi (Nat.le_refl _)
    rw [hw]
    omega
  · have h1 := pS_succ (st := n) (bs := bs) (d := m) (k := i) hi (G.sat hi).1
    have h2 := pS_mono G m (i + 1) ss.length hi (Nat.le_refl _)
    have h3 := (qS_le G m (0 : Int) i (by omega))
    rw [hw]
    omega
  · refine ⟨by simp; omega, ?_, ?_, ?_, by omega, ?_, ?_⟩
    · have : (((a + (s : Int).toNat : Nat)) : Int) = (a : Int) + (s : Int) := by simp
      rw [this]
      exact c3
    · have : (((a + (s : Int).toNat : Nat)) : Int) = (a : Int) + (s : Int) := by simp
      rw [this]
      exact hs2
    · rw [he]; omega
    · simp only [Int.toNat_natCast]
      rw [← hsS]
      rw [hw] at hv1
      omega
    · have : (((a + (s : Int).toNat : Nat)) : Int) = (a : Int) + (s : Int) := by simp
      rw [this]
      exact hnb
theorem RAt.done {n : Nat} {ss bs xs : List Int} {k a : Nat} {v : Int} (h : RAt n ss bs xs k a v) (hk : ¬ k < xs.length) : v = rkS n ss bs 0 xs := by
  rw [h.e, List.drop_eq_nil_of_le (by omega)]; simp [rkS]
theorem RAt.le {n : Nat} {ss bs xs : List Int} {k a : Nat} {v : Int} (h : RAt n ss bs xs k a v) : v ≤ wS n ss bs n := by
  have := h.v1
  have := wS_nonneg n ss bs (n - a)
  omega
theorem RAt.wle {n : Nat} {ss bs xs : List Int} {k a : Nat} {v : Int} (h : RAt n ss bs xs k a v) : wS n ss bs (n - a) ≤ wS n ss bs n := by
  have := h.v1
  have := h.v0
  omega
def rkB (st : Int) (ss bs xs : List Int) : Bool := countB st ss bs && climbB st ss bs 0 xs
def rkV (st : Int) (ss bs xs : List Int) : Int := if rkB st ss bs xs then rkS st.toNat ss bs 0 xs else 0

end Go.Proofs.Ytimgnollnnepbaa
