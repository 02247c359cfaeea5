/- Contracts: the model's parting of a text at a byte, and its reading of a number. -/
import Derived.Test.YthcoipoihieggaaDoorTxList
import Derived.Laws.DeepStrings4
import Derived.WalkSpells
namespace Go.Proofs.YthcoipoihieggaaDoor
open Go.RowKit
set_option maxRecDepth 100000

/-- the words ahead of the first i bytes' last one, and where that begins -/
def spW (s : ByteArray) (b : UInt8) : Nat → List ByteArray × Nat
  | 0 => ([], 0)
  | i + 1 => if s.data.getD i 0 = b then ((spW s b i).1 ++ [s.extract (spW s b i).2 i], i + 1) else spW s b i
theorem spW_yes {s : ByteArray} {b : UInt8} {i : Nat} (h : s.data.getD i 0 = b) : (spW s b (i + 1)).1 = (spW s b i).1 ++ [s.extract (spW s b i).2 i] ∧ (spW s b (i + 1)).2 = i + 1 := by
  rw [spW, if_pos h]; exact ⟨rfl, rfl⟩
theorem spW_no {s : ByteArray} {b : UInt8} {i : Nat} (h : ¬ s.data.getD i 0 = b) : spW s b (i + 1) = spW s b i := by rw [spW, if_neg h]
theorem spW_le (s : ByteArray) (b : UInt8) : ∀ i, (spW s b i).2 ≤ i ∧ (spW s b i).1.length ≤ i
  | 0 => ⟨Nat.le_refl _, Nat.le_refl _⟩
  | i + 1 => by
    have := spW_le s b i
    unfold spW
    split
    · simp; omega
    · omega
/-- the words of a text -/
def splitS (s : ByteArray) (b : UInt8) : List ByteArray := (spW s b s.size).1 ++ [s.extract (spW s b s.size).2 s.size]


end Go.Proofs.YthcoipoihieggaaDoor
