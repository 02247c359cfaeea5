/- Contract: all hidden stairs in order, none sharing memory (the program). -/
import Derived.Test.YtehffiaobjlpoaaPzX
namespace Go.Proofs.Ytehffiaobjlpoaa
open Go.RowKit
set_option maxRecDepth 100000

theorem preL_len : ∀ n : Nat, n < 8 → ∀ j : Nat, j < 8 → ∀ b : Nat, b < 9 → (preL n j b).length ≤ 1048575 := by decide +kernel
theorem str_len : ∀ j : Nat, j < 7 → 1 ≤ (strL.getD j []).length ∧ (strL.getD j []).length ≤ 3 := by decide +kernel
theorem len_of_rec {L : Lr} {rs : List Rc} (h : recL L = rs) (h2 : rs.length ≤ 1048575) : (elsL L).length ≤ 1048576 := by
  have := recL_len L
  rw [h] at this
  rw [elsL_len]
  omega
theorem rec_snoc {L : Lr} {rs rs' : List Rc} {e : El} {r : Rc} (h : recL L = rs) (h2 : rs' = rs ++ [r]) : recL (L ++ [(e, r)]) = rs' := by
  rw [h2, ← h]; simp [recL]

theorem Strd.grown {w w' : World} {N : Nat} {T : TypeId} {o : Option Nat} (h : Strd w N T) (hg : w.grownBy w' o) (hv : ∀ j', j' < 8 → o ≠ some (N + j')) : Strd w' N T :=
  ⟨(hg.block _ h.row.lt (fun e => hv 7 (by omega) e.symm)).trans h.row, fun j hj => (hg.block _ (h.each j hj).lt (fun e => hv j (by omega) e.symm)).trans (h.each j hj)⟩
theorem own_new {o o' : Option Nat} {N z : Nat} (hv : ∀ j', j' < 8 → o ≠ some (N + j')) (h : o' = o ∨ o' = some z) (hz : N + 8 ≤ z) : ∀ j', j' < 8 → o' ≠ some (N + j') := by
  intro j' hj e
  rcases h with h | h
  · exact hv j' hj (h ▸ e)
  · rw [h] at e; injection e with e; omega

end Go.Proofs.Ytehffiaobjlpoaa
