/- Words for rows of ints that the call makes with a length and fills by index. -/
import Derived.Test.YthcoipoihieggaaDoorGSpec
import Derived.Test.YthcoipoihieggaaDoorWK
import Derived.RegionTactic
import Derived.BigRegion
import Derived.ChangeAlike
namespace Go.Proofs.YthcoipoihieggaaDoor
set_option maxRecDepth 100000
open Go.RowKit

theorem made_ints (n : Nat) : madeCells (Value.int .i64 0).cells (n * 1) = ints (List.replicate n 0) := by
  have := fill_zero (List.replicate n 0)
  rw [List.length_replicate] at this
  rw [this]
  simp [fill]
theorem make_run (n : Nat) (hn : n ≤ 1048576) (u : World) : (Instr.makeSlice 26 (.int .i64 (n : Int)) (.int .i64 (n : Int))).run Tryd.prog u = .ok (.slice (some ⟨u.heap.size, 0, none⟩) n n) (u.alloc (.cells (ints (List.replicate n 0)) 3)) := by
  obtain ⟨i0, hi, hz, hs, hby⟩ := info_parts int_info
  have := run_make (P := Tryd.prog) u 26 3 i0 (.int .i64 0) Tryd.underlying26 hi hz .i64 .i64 n n (by omega) (Int.le_refl _) (by rw [hby]; omega) (by omega)
  rw [Int.toNat_natCast, hs, made_ints] at this
  exact this
theorem ints_at (ys : List Int) (k : Nat) (h : k < ys.length) : (ints ys)[k]? = some (.int .i64 (ys.getD k 0)) := ints_get ys k h
theorem ints_set (ys : List Int) (k : Nat) (v : Int) : (ints ys).setIfInBounds k (.int .i64 v) = ints (ys.set k v) := by
  apply Array.ext_getElem?
  intro i
  simp only [ints, Array.getElem?_setIfInBounds, List.getElem?_toArray, List.getElem?_map, List.getElem?_set, List.size_toArray, List.length_map]
  by_cases h : k = i
  · subst h; by_cases h2 : k < ys.length <;> simp [h2]
  · simp [h]
theorem Blk.int_at {w : World} {g : Nat} {t : TypeId} {ys : List Int} (h : Blk w g t (ints ys)) {k : Nat} (hk : k < ys.length) : w.cell? ⟨g, k, none⟩ = some (.int .i64 (ys.getD k 0)) := by
  rw [h.cell, ints_get _ _ hk]
theorem Blk.int_set {w : World} {g : Nat} {t : TypeId} {ys : List Int} (h : Blk w g t (ints ys)) (k : Nat) (v : Int) : Blk (w.setCell ⟨g, k, none⟩ (.int .i64 v)) g t (ints (ys.set k v)) := by
  rw [← ints_set]; exact h.set_ _ _
theorem Blk.drew' {w : World} {g : Nat} {t : TypeId} {cs : Array Value} (h : Blk w g t cs) : Blk w.drew g t cs := h
theorem Blk.drewN' {w : World} {g : Nat} {t : TypeId} {cs : Array Value} {n : Nat} (h : Blk w g t cs) : Blk (w.drewN n) g t cs := h
theorem list_ext_getD' {xs ys : List Int} (hl : xs.length = ys.length) (h : ∀ j, j < xs.length → xs.getD j 0 = ys.getD j 0) : xs = ys := by
  apply List.ext_getElem hl
  intro i h1 h2
  have := h i h1
  simpa [List.getD_eq_getElem?_getD, h1, h2] using this
theorem getD_set (ys : List Int) (k j : Nat) (v : Int) (hk : k < ys.length) : (ys.set k v).getD j 0 = if j = k then v else ys.getD j 0 := by
  simp only [List.getD_eq_getElem?_getD, List.getElem?_set]
  by_cases h : k = j
  · subst h; simp [hk]
  · rw [if_neg h, if_neg (by omega)]
/-- a list told by its places -/
def tell (n : Nat) (f : Nat → Int) : List Int := (List.range n).map f
theorem tell_length (n : Nat) (f : Nat → Int) : (tell n f).length = n := by simp [tell]
theorem tell_getD (n : Nat) (f : Nat → Int) (k : Nat) (h : k < n) : (tell n f).getD k 0 = f k := by simp [tell, List.getD_eq_getElem?_getD, h]
theorem tell_ext {n : Nat} {f g : Nat → Int} (h : ∀ k, k < n → f k = g k) : tell n f = tell n g :=
  list_ext_getD' (by simp [tell_length]) fun j hj => by
    rw [tell_length] at hj
    rw [tell_getD _ _ _ hj, tell_getD _ _ _ hj, h j hj]
theorem tell_set {n : Nat} {f g : Nat → Int} {k : Nat} {v : Int} (hk : k < n) (hv : g k = v) (h : ∀ j, j < n → j ≠ k → f j = g j) : (tell n f).set k v = tell n g :=
  list_ext_getD' (by simp [tell_length]) fun j hj => by
    rw [List.length_set, tell_length] at hj
    rw [getD_set _ _ _ _ (by rw [tell_length]; exact hk), tell_getD _ _ _ hj]
    split
    · next e => rw [tell_getD _ _ _ hj, e, hv]
    · next e => rw [tell_getD _ _ _ hj]; exact h j hj e
theorem tell_zero {n : Nat} {f : Nat → Int} (h : ∀ k, k < n → f k = 0) : List.replicate n 0 = tell n f :=
  list_ext_getD' (by simp [tell_length]) fun j hj => by
    rw [List.length_replicate] at hj
    rw [tell_getD _ _ _ hj, h j hj]
    simp [List.getD_eq_getElem?_getD, hj]

end Go.Proofs.YthcoipoihieggaaDoor
