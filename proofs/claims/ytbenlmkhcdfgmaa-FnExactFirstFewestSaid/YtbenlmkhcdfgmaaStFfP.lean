/- Plain facts on the first climb with the fewest strides. No program. -/
import Derived.Test.YtbenlmkhcdfgmaaStLeftP
namespace Go.Proofs.Ytbenlmkhcdfgmaa

/-- does a stride lead, from distance d, to a place from which m strides lead to the top -/
def ffP (n : Nat) (ss bs : List Int) (m d : Nat) (s : Int) : Bool := decide (s.toNat ≤ d) && decide (0 < bS n ss bs m (d - s.toNat))
/-- the first climb of m strides from distance d -/
def ffR (n : Nat) (ss bs : List Int) : Nat → Nat → List Int
  | 0, _ => []
  | m + 1, d => match ss.find? (ffP n ss bs m d) with
    | none => []
    | some s => s :: ffR n ss bs m (d - s.toNat)
theorem ffR_step {n : Nat} {ss bs : List Int} {m d : Nat} {s : Int} (h : ss.find? (ffP n ss bs m d) = some s) : ffR n ss bs (m + 1) d = s :: ffR n ss bs m (d - s.toNat) := by
  simp only [ffR, h]
theorem ffR_length {n : Nat} {ss bs : List Int} : ∀ m d, (ffR n ss bs m d).length ≤ m
  | 0, _ => by simp [ffR]
  | m + 1, d => by
    unfold ffR
    split
    · simp
    · have := ffR_length (n := n) (ss := ss) (bs := bs) m (d - (by assumption : Int).toNat)
      simp; omega
theorem find_yes {p : Int → Bool} {xs : List Int} {k : Nat} (h : k < xs.length) (h2 : p (xs.getD k 0) = true) : (xs.drop k).find? p = some (xs.getD k 0) := by
  rw [drop_at xs k h, List.find?_cons_of_pos h2]
theorem find_no {p : Int → Bool} {xs : List Int} {k : Nat} (h : k < xs.length) (h2 : p (xs.getD k 0) = false) : (xs.drop k).find? p = (xs.drop (k + 1)).find? p := by
  rw [drop_at xs k h, List.find?_cons_of_neg (by rw [h2]; decide)]
/-- there is one -/
theorem ff_some {n : Nat} {ss bs : List Int} {m d : Nat} (h : 0 < bS n ss bs (m + 1) d) : ss.find? (ffP n ss bs m d) ≠ none := by
  cases d with
  | zero => simp [bS] at h
  | succ d =>
    cases hb : hasB bs ((n : Int) - (d + 1 : Nat))
    · rw [bS_alive hb, bsum_pos (bS_nonneg n ss bs m)] at h
      obtain ⟨s, hm, h1, h2⟩ := h
      intro e
      have := List.find?_eq_none.1 e s hm
      simp [ffP, h1, h2] at this
    · rw [bS_dead hb] at h; omega
theorem ff_yes {n : Nat} {ss bs : List Int} {m d s : Nat} (h1 : s ≤ d) (h2 : 0 < bS n ss bs m (d - s)) : ffP n ss bs m d (s : Int) = true := by simp [ffP, h1, h2]
theorem ff_over {n : Nat} {ss bs : List Int} {m d s : Nat} (h1 : d < s) : ffP n ss bs m d (s : Int) = false := by simp [ffP]; omega
theorem ff_no {n : Nat} {ss bs : List Int} {m d s : Nat} (h2 : ¬ 0 < bS n ss bs m (d - s)) : ffP n ss bs m d (s : Int) = false := by simp [ffP]; omega
/-- from a place with the least m + 1, a stride leads on iff it leads to one with the least m -/
theorem ff_least {n : Nat} {ss bs : List Int} (hs : ∀ s ∈ ss, 1 ≤ s) {m d s : Nat} (hm : (s : Int) ∈ ss) (hd : lv false n ss bs d = ((m + 1 : Nat) : Int)) (h1 : s ≤ d) :
    0 < bS n ss bs m (d - s) ↔ lv false n ss bs (d - s) = m := by
  have hs1 := hs _ hm
  obtain ⟨d, rfl⟩ : ∃ d', d = d' + 1 := ⟨d - 1, by omega⟩
  have hL : ∀ i, i < m + 1 → ¬ 0 < bS n ss bs i (d + 1) := by
    rcases lv_few (n := n) (bs := bs) hs (d + 1) with ⟨h, _⟩ | ⟨j, h, _, h3⟩
    · rw [hd] at h; omega
    · rw [hd] at h
      obtain rfl : j = m + 1 := by omega
      exact h3
  constructor
  · intro h
    refine (lv_few (n := n) (bs := bs) hs (d + 1 - s)).uniq (.inr ⟨m, rfl, h, fun i hi h3 => hL (i + 1) (by omega) ?_⟩)
    cases hb : hasB bs ((n : Int) - (d + 1 : Nat))
    · rw [bS_alive hb, bsum_pos (bS_nonneg n ss bs i)]
      exact ⟨s, hm, by rw [Int.toNat_natCast]; exact h1, by rw [Int.toNat_natCast]; exact h3⟩
    · rw [lv_dead hb] at hd; omega
  · intro h
    rcases lv_few (n := n) (bs := bs) hs (d + 1 - s) with ⟨h4, _⟩ | ⟨j, h4, h5, _⟩
    · rw [h] at h4; omega
    · rw [h] at h4
      obtain rfl : j = m := by omega
      exact h5
theorem lv_pos {n : Nat} {ss bs : List Int} (hs : ∀ s ∈ ss, 1 ≤ s) {m d : Nat} (h : lv false n ss bs d = (m : Int)) : 0 < bS n ss bs m d := by
  rcases lv_few (n := n) (bs := bs) hs d with ⟨h4, _⟩ | ⟨j, h4, h5, _⟩
  · rw [h] at h4; omega
  · rw [h] at h4
    obtain rfl : j = m := by omega
    exact h5
theorem bS_one {n : Nat} {ss bs : List Int} {d : Nat} (h : 0 < bS n ss bs 0 d) : d = 0 := by
  rw [bS] at h
  split at h
  · assumption
  · omega
theorem lv_one {n : Nat} {ss bs : List Int} (hs : ∀ s ∈ ss, 1 ≤ s) {d : Nat} (h : lv false n ss bs (d + 1) = 0) : False := by
  have := bS_one (lv_pos (m := 0) hs h)
  omega

end Go.Proofs.Ytbenlmkhcdfgmaa
