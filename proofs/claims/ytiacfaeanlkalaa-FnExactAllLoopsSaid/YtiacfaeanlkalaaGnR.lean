/- A goroutine that sends numbers at a select until it is stopped, and who takes them, part R. No program. -/
import Derived.Test.YtiacfaeanlkalaaGnQ
set_option linter.unusedSimpArgs false
namespace Go.Proofs.Ytiacfaeanlkalaa
set_option maxRecDepth 100000
open Go.Conc

section
variable {P : Program} {L : FuncId → Bool} {fn : FuncId} {a : Act} {w : World} {Q : Exit → Mode P → Act → World → Prop}
/-- beside leavers, a whole piece of calm code by the walk for one goroutine alone -/
theorem WpM.of_wp (hL : ∀ f, L f = true → fnOk P L f = true) (hE : NoEarly P) (hfn : FnGood P fn) {c : Code} (hc : codeOk (opOk P L) c = true) (ha : a.defers = [])
    (h : ∀ τ δ, c.wp P (PieceQ w.tape (fun a' w' => Q .normal .aside a' w') (fun a' w' => Q .ret .aside a' w')) a (re w τ δ)) : WpM fn .aside (.code c) Q a w := by
  intro b k cs S hb hbf k1 k2 k3
  subst hbf
  have := WpR.of_wp (Q := fun e a' w' => Q e .aside a' w') hL hE hc ha h
  exact this b k cs S hb hfn (fun a' w' _ q => k1 .aside a' w' q) (fun a' w' t _ q => k2 .aside a' w' t q) (fun id a' w' _ q => k3 id .aside a' w' q)
end
end Go.Proofs.Ytiacfaeanlkalaa
