/- The program's rows of climbs by strides, as it fills them; a slice of slices. No walk. -/
import Derived.Test.YtohimcljobpkjaaDoorStBy
import Derived.Test.YtohimcljobpkjaaDoorStOn
namespace Go.Proofs.YtohimcljobpkjaaDoor
set_option maxRecDepth 100000
open Go.RowKit

/-- row m at step p -/
def bY (n : Nat) (ss bs : List Int) (m p : Nat) : Int := if p ≤ n then bS n ss bs m (n - p) else 0
theorem bY_in (n : Nat) (ss bs : List Int) (m : Nat) {p : Nat} (h : p ≤ n) : bY n ss bs m p = bS n ss bs m (n - p) := by unfold bY; rw [if_pos h]
theorem bY_out (n : Nat) (ss bs : List Int) (m : Nat) {p : Nat} (h : n < p) : bY n ss bs m p = 0 := by unfold bY; rw [if_neg (by omega)]
/-- row m + 1 while step p is being summed, k strides done -/
def bR (n : Nat) (ss bs : List Int) (m p k q : Nat) : Int := if q < p then bY n ss bs (m + 1) q else if q = p then bsum (bS n ss bs m) (ss.take k) (n - p) else 0
/-- all rows: those up to m are whole -/
def bF (n : Nat) (ss bs : List Int) (m p k j q : Nat) : Int := if j ≤ m then bY n ss bs j q else if j = m + 1 then bR n ss bs m p k q else 0
theorem bR_start (n : Nat) (ss bs : List Int) (m p q : Nat) (h : p ≤ q) : bR n ss bs m p 0 q = 0 := by
  unfold bR
  rw [if_neg (by omega)]
  split <;> rfl
theorem bY_zero (n : Nat) (ss bs : List Int) (q : Nat) : bY n ss bs 0 q = if q = n then 1 else 0 := by
  unfold bY
  by_cases h : q ≤ n
  · rw [if_pos h, bS]
    by_cases h2 : q = n
    · rw [if_pos (by omega), if_pos h2]
    · rw [if_neg (by omega), if_neg h2]
  · rw [if_neg h, if_neg (by omega)]
theorem bF_first (n : Nat) (ss bs : List Int) (j q : Nat) : bF n ss bs 0 0 0 j q = if j = 0 ∧ q = n then 1 else 0 := by
  unfold bF
  by_cases h : j = 0
  · subst h
    rw [if_pos (Nat.le_refl _), bY_zero]
    by_cases h2 : q = n
    · rw [if_pos h2, if_pos ⟨rfl, h2⟩]
    · rw [if_neg h2, if_neg (fun e => h2 e.2)]
  · rw [if_neg (show ¬ j ≤ 0 by omega), if_neg (show ¬ (j = 0 ∧ q = n) from fun e => h e.1)]
    split
    · exact bR_start _ _ _ _ _ _ (Nat.zero_le _)
    · rfl
theorem bF_alive {n : Nat} {ss bs : List Int} {m p j q : Nat} (hp : p < n) (h : hasB bs (p : Int) = false) : bF n ss bs m p ss.length j q = bF n ss bs m (p + 1) 0 j q := by
  unfold bF
  split
  · rfl
  · split
    · unfold bR
      by_cases h1 : q < p
      · rw [if_pos h1, if_pos (by omega)]
      · rw [if_neg h1]
        by_cases h2 : q = p
        · obtain ⟨d, hd⟩ : ∃ d, n - p = d + 1 := ⟨n - p - 1, by omega⟩
          rw [if_pos h2, if_pos (by omega), h2, bY, if_pos (by omega), List.take_length, hd, bS_alive (by rw [show (n : Int) - (d + 1 : Nat) = (p : Int) by omega]; exact h)]
        · rw [if_neg h2, if_neg (by omega)]
          split <;> rfl
    · rfl
theorem bF_dead {n : Nat} {ss bs : List Int} {m p j q : Nat} (hp : p < n) (h : hasB bs (p : Int) = true) : bF n ss bs m p 0 j q = bF n ss bs m (p + 1) 0 j q := by
  unfold bF
  split
  · rfl
  · split
    · unfold bR
      by_cases h1 : q < p
      · rw [if_pos h1, if_pos (by omega)]
      · rw [if_neg h1]
        by_cases h2 : q = p
        · obtain ⟨d, hd⟩ : ∃ d, n - p = d + 1 := ⟨n - p - 1, by omega⟩
          rw [if_pos h2, if_pos (by omega), h2, bY, if_pos (by omega), hd, bS_dead (by rw [show (n : Int) - (d + 1 : Nat) = (p : Int) by omega]; exact h)]
          rfl
        · rw [if_neg h2, if_neg (by omega)]
          split <;> rfl
    · rfl
theorem bF_next {n : Nat} {ss bs : List Int} {m j q : Nat} : bF n ss bs m n 0 j q = bF n ss bs (m + 1) 0 0 j q := by
  unfold bF
  by_cases h1 : j ≤ m
  · rw [if_pos h1, if_pos (by omega)]
  · rw [if_neg h1]
    by_cases h2 : j = m + 1
    · rw [if_pos h2, if_pos (by omega), h2]
      by_cases h3 : q < n
      · unfold bR; rw [if_pos h3]
      · rw [bR_start _ _ _ _ _ _ (by omega)]
        unfold bY
        by_cases h4 : q ≤ n
        · rw [if_pos h4, show n - q = 0 by omega]; rfl
        · rw [if_neg h4]
    · rw [if_neg h2, if_neg (by omega)]
      by_cases h3 : j = m + 1 + 1
      · rw [if_pos h3, bR_start _ _ _ _ _ _ (Nat.zero_le _)]
      · rw [if_neg h3]
theorem bF_else {n : Nat} {ss bs : List Int} {m p k j q : Nat} (h : ¬ (j = m + 1 ∧ q = p)) : bF n ss bs m p k j q = bF n ss bs m p (k + 1) j q := by
  unfold bF
  split
  · rfl
  · split
    · next h2 =>
      unfold bR
      split
      · rfl
      · rw [if_neg (fun e => h ⟨h2, e⟩), if_neg (fun e => h ⟨h2, e⟩)]
    · rfl
theorem bF_here (n : Nat) (ss bs : List Int) (m p k : Nat) : bF n ss bs m p k (m + 1) p = bsum (bS n ss bs m) (ss.take k) (n - p) := by
  unfold bF bR
  rw [if_neg (by omega), if_pos rfl, if_neg (by omega), if_pos rfl]
theorem bF_below (n : Nat) (ss bs : List Int) (m p k q : Nat) : bF n ss bs m p k m q = bY n ss bs m q := by unfold bF; rw [if_pos (Nat.le_refl _)]
/-- one stride more -/
theorem bF_step {n : Nat} {ss bs : List Int} {m p k s : Nat} (hk : k < ss.length) (hs : ss.getD k 0 = (s : Int)) (hp : p < n) :
    bF n ss bs m p (k + 1) (m + 1) p = bF n ss bs m p k (m + 1) p + bF n ss bs m p k m (p + s) := by
  rw [bF_here, bF_here, bF_below, bsum_take hk, hs, Int.toNat_natCast]
  congr 1
  unfold bY
  by_cases h : s ≤ n - p
  · rw [if_pos h, if_pos (by omega), show n - p - s = n - (p + s) by omega]
  · rw [if_neg h, if_neg (by omega)]
theorem bF_end {n : Nat} {ss bs : List Int} {j q : Nat} (hj : j ≤ n) (hq : q ≤ n) : bF n ss bs n 0 0 j q = bS n ss bs j (n - q) := by
  unfold bF bY
  rw [if_pos hj, if_pos hq]

/-- a slice of rows, the first k of them made -/
def rowV (n : Nat) (gs : Nat → Nat) (k j : Nat) : Value := if j < k then .slice (some ⟨gs j, 0, none⟩) (n + 10) (n + 10) else .slice none 0 0
def rowsA (n : Nat) (gs : Nat → Nat) (k : Nat) : Array Value := ((List.range (n + 1)).map (rowV n gs k)).toArray
theorem rowsA_get {n : Nat} {gs : Nat → Nat} {k j : Nat} (h : j < n + 1) : (rowsA n gs k)[j]? = some (rowV n gs k j) := by simp [rowsA, h]
theorem rowsA_set {n : Nat} {gs gs' : Nat → Nat} {k : Nat} (_hk : k < n + 1) (h : ∀ j, j < k → gs' j = gs j) :
    (rowsA n gs k).setIfInBounds k (.slice (some ⟨gs' k, 0, none⟩) (n + 10) (n + 10)) = rowsA n gs' (k + 1) := by
  apply Array.ext_getElem?
  intro i
  simp only [rowsA, Array.getElem?_setIfInBounds, List.getElem?_toArray, List.getElem?_map, List.size_toArray, List.length_map, List.length_range]
  by_cases hi : i < n + 1
  · rw [List.getElem?_range hi]
    by_cases hki : k = i
    · subst hki
      simp [hi, rowV]
    · rw [if_neg hki]
      simp only [Option.map_some, rowV]
      by_cases h2 : i < k
      · rw [if_pos h2, if_pos (by omega), h i h2]
      · rw [if_neg h2, if_neg (by omega)]
  · have e : (List.range (n + 1))[i]? = none := by simp; omega
    rw [e]
    by_cases hki : k = i
    · rw [if_pos hki, if_neg (by omega)]; rfl
    · rw [if_neg hki]; rfl
theorem rows_info : (Tryd.prog.info? 46).map (fun i => (i.zero, i.size, i.bytes)) = some (some (.slice none 0 0), 1, 24) := by kernel_rfl
theorem made_rows (n : Nat) (gs : Nat → Nat) : madeCells (Value.slice none 0 0).cells ((n + 1) * 1) = rowsA n gs 0 := by
  apply Array.ext_getElem?
  intro i
  simp only [rowsA, madeCells, Value.cells]
  by_cases h : i < n + 1 <;> simp [h, rowV, Nat.mod_one]
theorem makeR_run (n : Nat) (gs : Nat → Nat) (hn : n ≤ 1000) (u : World) : (Instr.makeSlice 122 (.int .i64 ((n : Int) + 1)) (.int .i64 ((n : Int) + 1))).run Tryd.prog u = .ok (.slice (some ⟨u.heap.size, 0, none⟩) (n + 1) (n + 1)) (u.alloc (.cells (rowsA n gs 0) 46)) := by
  obtain ⟨i0, hi, hz, hs, hby⟩ := info_parts rows_info
  have := run_make (P := Tryd.prog) u 122 46 i0 (.slice none 0 0) Tryd.underlying122 hi hz .i64 .i64 ((n : Int) + 1) ((n : Int) + 1) (by omega) (Int.le_refl _) (by rw [hby]; omega) (by omega)
  rw [show ((n : Int) + 1).toNat = n + 1 by omega, hs, made_rows n gs] at this
  exact this

end Go.Proofs.YtohimcljobpkjaaDoor
