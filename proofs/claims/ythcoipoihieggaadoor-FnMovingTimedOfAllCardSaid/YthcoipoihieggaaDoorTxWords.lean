/- The words of a text: the one way to part it at a byte. -/
import Derived.Test.YthcoipoihieggaaDoorTxCanon
namespace Go.Proofs.YthcoipoihieggaaDoor
open Go.RowKit
set_option maxRecDepth 100000

/-- words, each with the byte behind it, and the last one -/
def catL (b : UInt8) : List (List UInt8) → List UInt8 → List UInt8
  | [], l => l
  | w :: r, l => w ++ b :: catL b r l
theorem cut_uniq {b : UInt8} : ∀ {w w' r r' : List UInt8}, b ∉ w → b ∉ w' → w ++ b :: r = w' ++ b :: r' → w = w' ∧ r = r'
  | [], [], r, r', _, _, h => by simpa using h
  | [], x :: w', r, r', _, h2, h => by
    simp only [List.nil_append, List.cons_append, List.cons.injEq] at h
    exact absurd (by simp [h.1]) h2
  | x :: w, [], r, r', h1, _, h => by
    simp only [List.nil_append, List.cons_append, List.cons.injEq] at h
    exact absurd (by simp [h.1]) h1
  | x :: w, y :: w', r, r', h1, h2, h => by
    simp only [List.cons_append, List.cons.injEq] at h
    have := cut_uniq (w := w) (w' := w') (fun q => h1 (by simp [q])) (fun q => h2 (by simp [q])) h.2
    exact ⟨by rw [h.1, this.1], this.2⟩
theorem cat_uniq {b : UInt8} : ∀ {ws ws' : List (List UInt8)} {l l' : List UInt8}, (∀ w ∈ ws, b ∉ w) → b ∉ l → (∀ w ∈ ws', b ∉ w) → b ∉ l' → catL b ws l = catL b ws' l' → ws = ws' ∧ l = l'
  | [], [], l, l', _, _, _, _, h => ⟨rfl, h⟩
  | [], w' :: r', l, l', _, hl, _, _, h => absurd (by rw [show l = w' ++ b :: catL b r' l' from h]; simp) hl
  | w :: r, [], l, l', _, _, _, hl', h => absurd (by rw [show l' = w ++ b :: catL b r l from h.symm]; simp) hl'
  | w :: r, w' :: r', l, l', h1, hl, h2, hl', h => by
    obtain ⟨e1, e2⟩ := cut_uniq (h1 w (by simp)) (h2 w' (by simp)) h
    obtain ⟨e3, e4⟩ := cat_uniq (fun x hx => h1 x (by simp [hx])) hl (fun x hx => h2 x (by simp [hx])) hl' e2
    exact ⟨by rw [e1, e3], e4⟩
theorem cat_snoc (b : UInt8) (w l : List UInt8) : ∀ ws, catL b (ws ++ [w]) l = catL b ws (w ++ b :: l)
  | [] => rfl
  | x :: r => by simp [catL, cat_snoc b w l r]
theorem cat_app (b : UInt8) (l m : List UInt8) : ∀ ws, catL b ws (l ++ m) = catL b ws l ++ m
  | [] => rfl
  | x :: r => by simp [catL, cat_app b l m r]
/-- a piece of a text as a list -/
def pieL (s : ByteArray) (f i : Nat) : List UInt8 := (s.data.toList.take i).drop f
theorem pieL_ext (s : ByteArray) (f i : Nat) (_hi : i ≤ s.size) : (s.extract f i).data.toList = pieL s f i := by
  rw [ByteArray.data_extract]
  simp [pieL, List.drop_take]
theorem pieL_succ (s : ByteArray) {f i : Nat} (hf : f ≤ i) (hi : i < s.size) : pieL s f (i + 1) = pieL s f i ++ [s.data.getD i 0] := by
  have h' : i < s.data.toList.length := by simpa using hi
  unfold pieL
  rw [List.take_succ_eq_append_getElem h', List.drop_append_of_le_length (by simp; omega)]
  congr 1
  have h2 : i < s.data.size := hi
  simp only [Array.getElem_toList, Array.getD_eq_getD_getElem?]
  rw [Array.getElem?_eq_getElem h2]; rfl
theorem pieL_nil (s : ByteArray) (i : Nat) : pieL s i i = [] := by simp [pieL]
theorem spW_cat (s : ByteArray) (b : UInt8) : ∀ i, i ≤ s.size → catL b ((spW s b i).1.map (·.data.toList)) (pieL s (spW s b i).2 i) = s.data.toList.take i ∧ (∀ w ∈ (spW s b i).1.map (·.data.toList), b ∉ w) ∧ b ∉ pieL s (spW s b i).2 i
  | 0, _ => by simp [spW, catL, pieL]
  | i + 1, h => by
    obtain ⟨c1, c2, c3⟩ := spW_cat s b i (by omega)
    have hle := spW_le s b i
    have h2 : i < s.data.size := h
    have ht : s.data.toList.take (i + 1) = s.data.toList.take i ++ [s.data.getD i 0] := by
      have h' : i < s.data.toList.length := by simpa using h2
      rw [List.take_succ_eq_append_getElem h']
      congr 1
      simp only [Array.getElem_toList, Array.getD_eq_getD_getElem?]
      rw [Array.getElem?_eq_getElem h2]; rfl
    by_cases e : s.data.getD i 0 = b
    · obtain ⟨e1, e2⟩ := spW_yes e
      rw [e1, e2, List.map_append, List.map_singleton, cat_snoc, pieL_nil, pieL_ext s _ i (by omega), ht, e]
      refine ⟨?_, ?_, by simp⟩
      · rw [cat_app, c1]
      · intro w hw
        rcases List.mem_append.1 hw with hw | hw
        · exact c2 w hw
        · obtain rfl : w = _ := by simpa using hw
          exact c3
    · rw [spW_no e, pieL_succ s hle.1 (by omega), cat_app, c1, ht]
      refine ⟨rfl, c2, ?_⟩
      intro hm
      rcases List.mem_append.1 hm with hm | hm
      · exact c3 hm
      · exact e (List.mem_singleton.1 hm).symm
/-- the words that the model finds are the only ones -/
theorem split_is {s : ByteArray} {b : UInt8} {ws : List (List UInt8)} {l : List UInt8} (h1 : ∀ w ∈ ws, b ∉ w) (h2 : b ∉ l) (h : catL b ws l = s.data.toList) : (splitS s b).map (·.data.toList) = ws ++ [l] := by
  obtain ⟨c1, c2, c3⟩ := spW_cat s b s.size (Nat.le_refl _)
  have e : s.data.toList.take s.size = s.data.toList := List.take_of_length_le (by simp)
  rw [e, ← h] at c1
  obtain ⟨e1, e2⟩ := cat_uniq c2 c3 h1 h2 c1
  unfold splitS
  rw [List.map_append, List.map_singleton, e1, pieL_ext s _ _ (Nat.le_refl _), e2]
theorem split_cat (s : ByteArray) (b : UInt8) : ∃ ws l, splitS s b = ws ++ [l] ∧ catL b (ws.map (·.data.toList)) l.data.toList = s.data.toList := by
  obtain ⟨c1, _, _⟩ := spW_cat s b s.size (Nat.le_refl _)
  have e : s.data.toList.take s.size = s.data.toList := List.take_of_length_le (by simp)
  rw [e] at c1
  exact ⟨_, _, rfl, by rw [pieL_ext s _ _ (Nat.le_refl _)]; exact c1⟩

end Go.Proofs.YthcoipoihieggaaDoor
