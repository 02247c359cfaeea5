/- Contracts: the lists of strides, stairs made of their parts (the model). -/
import Derived.Test.YtehffiaobjlpoaaPzX
namespace Go.Proofs.Ytehffiaobjlpoaa
open Go.RowKit
set_option maxRecDepth 100000

/-- three cells of a block written -/
abbrev set3 (w : World) (g : Nat) (x y z : Value) : World := ((w.setCell ⟨g, 0, none⟩ x).setCell ⟨g, 1, none⟩ y).setCell ⟨g, 2, none⟩ z
theorem set3_blk {w : World} {g : Nat} {T : TypeId} {a b c x y z : Value} (h : Blk w g T #[a, b, c]) : Blk (set3 w g x y z) g T #[x, y, z] := ((h.set_ 0 x).set_ 1 y).set_ 2 z
theorem set3_heap {w : World} {g : Nat} {x y z : Value} {k : Nat} (hk : k ≠ g) : (set3 w g x y z).heap[k]? = w.heap[k]? :=
  (Below.heap_setCell _ ⟨g, 2, none⟩ z k hk).trans ((Below.heap_setCell _ ⟨g, 1, none⟩ y k hk).trans (Below.heap_setCell _ ⟨g, 0, none⟩ x k hk))
theorem set3_below {B g : Nat} {w0 w : World} {x y z : Value} (h : Below B w0 w) (hg : B ≤ g) : Below B w0 (set3 w g x y z) :=
  ((h.setCell (p := ⟨g, 0, none⟩) hg x).setCell (p := ⟨g, 1, none⟩) hg y).setCell (p := ⟨g, 2, none⟩) hg z
theorem set3_mid {w : World} {g : Nat} {T : TypeId} {a b c : Value} (x y : Value) (h : Blk w g T #[a, b, c]) :
    w.cell? ⟨g, 0, none⟩ = some a ∧ w.frozen? ⟨g, 0, none⟩ = false ∧ (w.setCell ⟨g, 0, none⟩ x).cell? ⟨g, 1, none⟩ = some b ∧ (w.setCell ⟨g, 0, none⟩ x).frozen? ⟨g, 1, none⟩ = false ∧ ((w.setCell ⟨g, 0, none⟩ x).setCell ⟨g, 1, none⟩ y).cell? ⟨g, 2, none⟩ = some c ∧ ((w.setCell ⟨g, 0, none⟩ x).setCell ⟨g, 1, none⟩ y).frozen? ⟨g, 2, none⟩ = false :=
  ⟨h.cell 0, h.frozen 0, (h.set_ 0 x).cell 1, (h.set_ 0 x).frozen 1, ((h.set_ 0 x).set_ 1 y).cell 2, ((h.set_ 0 x).set_ 1 y).frozen 2⟩

end Go.Proofs.Ytehffiaobjlpoaa
