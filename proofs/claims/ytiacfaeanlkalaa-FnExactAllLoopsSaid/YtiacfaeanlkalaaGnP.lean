/- A goroutine that sends numbers at a select until it is stopped, and who takes them, part P. No program. -/
import Derived.Test.YtiacfaeanlkalaaGnO
set_option linter.unusedSimpArgs false
namespace Go.Proofs.Ytiacfaeanlkalaa
set_option maxRecDepth 100000
open Go.Conc

theorem stepOf_none {P : Program} (h : P.funcs.all (fun f => (f.body.map readies).all (·.isEmpty)) = true) (g : Nat) : P.stepOf g = none := by
  unfold Program.stepOf
  rw [Array.findIdx?_eq_none_iff]
  intro f hf
  have := Array.all_eq_true'.1 h f hf
  cases hb : f.body with
  | none => rfl
  | some c =>
    rw [hb] at this
    simp only [Option.map_some, Option.all_some] at this
    simp only [Option.map_some, Option.any_some]
    cases hr : readies c with
    | nil => rfl
    | cons a l => rw [hr] at this; simp at this
theorem noEarly_of {P : Program} (h1 : P.follows .staticDataAhead = true) (h : P.funcs.all (fun f => (f.body.map readies).all (·.isEmpty)) = true) : NoEarly P := by
  intro fr cs g w
  unfold early
  simp only [h1, stepOf_none h g, Bool.not_true, Bool.false_eq_true, if_false]
  exact isEnd _ _ _

section
variable {P : Program} {f : FuncId} {vs : Array Value} {w : World} {V : Value}
theorem re_at (w : World) (τ : Nat → Question → Nat) (δ d : Nat) : re (re w τ δ) w.tape d = w.at d := rfl
theorem lone_same (h : ∀ τ δ, Calls P f vs (re w τ δ) fun e w' => e = .returned V ∧ re w τ δ = w') (τ : Nat → Question → Nat) (δ : Nat) : Calls P f vs (re w τ δ) fun e w' => ∃ v, e = .returned v ∧ ∀ d, (v = V ∧ RW w (re w' w.tape d)) :=
  (h τ δ).mono fun e w' ⟨he, hw⟩ => ⟨V, he, fun d => ⟨rfl, d, by rw [← hw]; rfl⟩⟩
end
end Go.Proofs.Ytiacfaeanlkalaa
