/- A region that draws its order, whose operations read and whose calls make new memory alone: walked once, in the order of the text (the kit's quiet walk, at the class of the worlds that keep all that was there). No program. -/
import Derived.Test.YthcoipoihieggaaDoorGInts
import Derived.BigQuiet
import Derived.Deep.QuietTactic
namespace Go.Proofs.YthcoipoihieggaaDoor
set_option maxRecDepth 100000
open Go.RowKit

/-- a world that keeps all of wb -/
structure Bw (wb : World) where
  u : World
  h : Below wb.heap.size wb u
instance Bw.here (wb : World) : Nonempty (Bw wb) := ⟨⟨wb, Below.refl _ _⟩⟩
theorem wp_region_bw {P : Program} {id : Nat} {Q : Exit → Act → World → Prop} {a : Act} {w : World} {l : List Oper} (wb : World) (hb : Below wb.heap.size wb w) (hm : P.follows .mixedOrders = true) (hB : Region.lexB .any l.toArray = true)
    (h : wpQuiet P l.toArray (fun w' => ∃ n : Bw wb, w' = n.u) (fun a' => ∀ w', (∃ n : Bw wb, w' = n.u) → Q .normal a' w') l a) : (Code.region id l.toArray true).wp P Q a w :=
  wp_region_quiet (C := fun w' => ∃ n : Bw wb, w' = n.u) hm hB ⟨(⟨{ w with drawn := w.drawn + 1 }, ⟨hb.os, hb.tape, hb.output, hb.size, hb.block⟩⟩ : Bw wb), rfl⟩ (by simpa using h)
/-- a call whose answer is known, in such a world -/
theorem Bw.call {P : Program} {f : FuncId} {args : Array Value} {wb : World} (n : Bw wb) {V : Value} (c : Calls P f args n.u (Plain V n.u)) : Calls P f args n.u fun e w'' => e = .returned V ∧ ∃ m : Bw wb, w'' = m.u :=
  c.mono fun _ w' ⟨he, hb⟩ => ⟨he, ⟨w', n.h.trans (hb.mono n.h.size)⟩, rfl⟩
theorem Bw.call_same {P : Program} {f : FuncId} {args : Array Value} {wb : World} (n : Bw wb) {V : Value} (c : Calls P f args n.u fun e w' => e = .returned V ∧ n.u = w') : Calls P f args n.u fun e w'' => e = .returned V ∧ ∃ m : Bw wb, w'' = m.u :=
  c.mono fun _ _ ⟨he, hw⟩ => ⟨he, n, hw.symm⟩
theorem Bw.cell {wb : World} (n : Bw wb) {g i : Nat} {v : Value} (h : wb.cell? ⟨g, i, none⟩ = some v) (hg : g < wb.heap.size) : n.u.cell? ⟨g, i, none⟩ = some v :=
  (n.h.cell (p := ⟨g, i, none⟩) hg).trans h

end Go.Proofs.YthcoipoihieggaaDoor
