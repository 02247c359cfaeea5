/- Texts of lists of numbers: there is one way to read them. No program. -/
import Derived.Test.YtilfbmjohopckaaDoorTxList
import Derived.Test.YtilfbmjohopckaaDoorTxParM
import Derived.Test.YtilfbmjohopckaaDoorTxAtN
namespace Go.Proofs.YtilfbmjohopckaaDoor
open Go.RowKit
set_option maxRecDepth 100000

theorem dg_none {s : ByteArray} {b : UInt8} (hb : b.toNat < 48 ∨ 57 < b.toNat) : ∀ k, k ≤ s.size → dgB s k = true → b ∉ s.data.toList.take k
  | 0, _, _ => by simp
  | k + 1, hk, hd => by
    have hd' : (dgB s k && (decide (48 ≤ btS s k) && decide (btS s k ≤ 57))) = true := hd
    rw [Bool.and_eq_true, Bool.and_eq_true, decide_eq_true_eq, decide_eq_true_eq] at hd'
    have ih := dg_none hb k (by omega) hd'.1
    have h2 : k < s.data.size := hk
    have h' : k < s.data.toList.length := by simpa using h2
    rw [List.take_succ_eq_append_getElem h']
    intro hm
    rcases List.mem_append.1 hm with hm | hm
    · exact ih hm
    · have e : b = s.data.toList[k] := List.mem_singleton.1 hm
      have e2 : btS s k = b.toNat := by
        unfold btS
        rw [e]
        simp only [Array.getElem_toList, Array.getD_eq_getD_getElem?]
        rw [Array.getElem?_eq_getElem h2]; rfl
      omega
theorem num_none (n : Int) (h0 : 0 ≤ n) {b : UInt8} (hb : b.toNat < 48 ∨ 57 < b.toNat) : b ∉ (numS n).data.toList := by
  have h := (numS_tells (n.toNat + 1) n h0 (by omega)).1
  have := dg_none hb _ (Nat.le_refl _) h
  rwa [List.take_of_length_le (by simp)] at this
theorem texts_inj : ∀ (a c : List ByteArray), a.map (·.data.toList) = c.map (·.data.toList) → a = c
  | [], [], _ => rfl
  | [], _ :: _, h => by simp at h
  | _ :: _, [], h => by simp at h
  | x :: a, y :: c, h => by
    simp only [List.map_cons, List.cons.injEq] at h
    rw [bytes_inj h.1, texts_inj a c h.2]
theorem wdL_succ (xs : List Int) (k : Nat) : wdL xs (k + 1) = wdL xs k ++ [(numS (xs.getD k 0)).data.toList] := by simp [wdL, List.range_succ]
theorem wdL_all (xs : List Int) : wdL xs xs.length = (xs.map numS).map (·.data.toList) := by
  apply List.ext_getElem
  · simp [wdL]
  · intro i h1 h2
    have h3 : i < xs.length := by simpa [wdL] using h1
    simp [wdL, List.getD_eq_getElem?_getD, h3]
theorem lsS_cat (b : UInt8) (xs : List Int) : ∀ k, (lsS b xs (k + 1)).data.toList = catL b (wdL xs k) (numS (xs.getD k 0)).data.toList
  | 0 => by rw [lsS_one]; rfl
  | k + 1 => by rw [lsS_more b xs (by omega), toList_snoc, lsS_cat b xs k, wdL_succ, cat_snoc, cat_app]
theorem at_of_mem {xs : List Int} {P : Int → Prop} (h : ∀ n ∈ xs, P n) {k : Nat} (hk : k < xs.length) : P (xs.getD k 0) := by
  refine h _ ?_
  rw [List.getD_eq_getElem?_getD, List.getElem?_eq_getElem hk]
  exact List.getElem_mem hk
theorem mem_of_at {xs : List Int} {P : Int → Prop} (h : ∀ k, k < xs.length → P (xs.getD k 0)) : ∀ n ∈ xs, P n := by
  intro n hn
  obtain ⟨k, hk, e⟩ := List.mem_iff_getElem.1 hn
  have := h k hk
  rwa [List.getD_eq_getElem?_getD, List.getElem?_eq_getElem hk, Option.getD_some, e] at this
/-- what is written is parted so -/
theorem ls_split {b : UInt8} (hb : b.toNat < 48 ∨ 57 < b.toNat) {xs : List Int} (hl : 1 ≤ xs.length) (hx : ∀ n ∈ xs, 0 ≤ n) : splitS (lsS b xs xs.length) b = xs.map numS := by
  obtain ⟨k, hk⟩ : ∃ k, xs.length = k + 1 := ⟨xs.length - 1, by omega⟩
  have h := split_is (s := lsS b xs xs.length) (b := b) (ws := wdL xs k) (l := (numS (xs.getD k 0)).data.toList) (fun w hw => by
    obtain ⟨j, hj, rfl⟩ := List.mem_map.1 hw
    have := List.mem_range.1 hj
    exact num_none _ (at_of_mem hx (by omega)) hb) (num_none _ (at_of_mem hx (by omega)) hb) (by rw [hk]; exact (lsS_cat b xs k).symm)
  rw [← wdL_succ, ← hk, wdL_all] at h
  exact texts_inj _ _ h
/-- the numbers of the words, as the model reads them -/
def rdL (s : ByteArray) (b : UInt8) : List Int := (splitS s b).map rdI
theorem rdL_ls {b : UInt8} (hb : b.toNat < 48 ∨ 57 < b.toNat) {xs : List Int} (hl : 1 ≤ xs.length) (hx : ∀ n ∈ xs, 0 ≤ n ∧ n < 1000000) : rdL (lsS b xs xs.length) b = xs := by
  unfold rdL
  rw [ls_split hb hl (fun n hn => (hx n hn).1), List.map_map]
  conv => rhs; rw [← List.map_id xs]
  exact List.map_congr_left fun n hm => rdI_numS (hx n hm).1 (num_len (k := 5) (by have := hx n hm; omega))
theorem ninR_ls {b : UInt8} (hb : b.toNat < 48 ∨ 57 < b.toNat) {xs : List Int} (hl : 1 ≤ xs.length) (hx : ∀ n ∈ xs, 0 ≤ n ∧ n < 1000000) : ninR (lsS b xs xs.length) b = xs :=
  nin_nums (ls_split hb hl (fun n hn => (hx n hn).1)) (fun n hn => by have := hx n hn; omega)
theorem rdL_length (s : ByteArray) (b : UInt8) : (rdL s b).length ≤ s.size + 1 := by
  have := (spW_le s b s.size).2
  simp only [rdL, splitS, List.map_append, List.map_cons, List.map_nil, List.length_append, List.length_map, List.length_singleton]
  omega
theorem cat_len {b : UInt8} {l : List UInt8} (hl : l ≠ []) : ∀ {ws : List (List UInt8)}, (∀ w ∈ ws, w ≠ []) → 2 * ws.length + 1 ≤ (catL b ws l).length
  | [], _ => by
    have := List.length_pos_iff.2 hl
    simp only [catL, List.length_nil]; omega
  | w :: r, h => by
    have h1 := List.length_pos_iff.2 (h w (by simp))
    have h2 := cat_len (b := b) hl (ws := r) (fun x hx => h x (by simp [hx]))
    simp only [catL, List.length_append, List.length_cons]; omega
theorem atI_ne {x : ByteArray} (h : (atI x).isSome = true) : x.data.toList ≠ [] := by
  intro e
  unfold atI at h
  rw [e] at h
  simp [Lib.atoiAll] at h
theorem ninR_length (s : ByteArray) (b : UInt8) : (ninR s b).length ≤ s.size := by
  unfold ninR
  split
  · next h =>
    rw [List.all_eq_true] at h
    obtain ⟨ws, l, e1, e2⟩ := split_cat s b
    rw [e1] at h ⊢
    have := cat_len (b := b) (atI_ne (h l (by simp))) (ws := ws.map (·.data.toList)) (fun w hw => by
      obtain ⟨x, hx, rfl⟩ := List.mem_map.1 hw
      exact atI_ne (h x (by simp [hx])))
    rw [e2] at this
    simp only [List.length_map, List.length_append, List.length_singleton, Array.length_toList] at this ⊢
    have : s.data.size = s.size := rfl
    omega
  · simp
theorem lsS_len (b : UInt8) {xs : List Int} {m : Nat} (hx : ∀ n ∈ xs, (numS n).size ≤ m) : ∀ k, k ≤ xs.length → (lsS b xs k).size ≤ (m + 1) * k
  | 0, _ => by simp [lsS, ByteArray.size]
  | k + 1, h => by
    have h1 := lsS_len b hx k (by omega)
    have h2 := at_of_mem (P := fun n => (numS n).size ≤ m) hx (k := k) (by omega)
    have h3 : (m + 1) * (k + 1) = (m + 1) * k + (m + 1) := Nat.mul_succ _ _
    unfold lsS
    split
    · simp only [ByteArray.size_append]
      have : (⟨#[]⟩ : ByteArray).size = 0 := rfl
      omega
    · simp only [ByteArray.size_append, one_size]
      omega

end Go.Proofs.YtilfbmjohopckaaDoor
