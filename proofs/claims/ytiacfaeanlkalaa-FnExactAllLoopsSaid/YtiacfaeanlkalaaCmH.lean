/- A walk made for one goroutine alone is carried over to a machine of many, part H. No program. -/
import Derived.Test.YtiacfaeanlkalaaCmG
namespace Go.Proofs.Ytiacfaeanlkalaa
set_option maxRecDepth 100000
open Go.Conc

section
variable {P : Program} {L : FuncId → Bool}

/-- a piece comes to its end as Rn says, or to a return as Rr says -/
def PieceQ (t : Nat → Question → Nat) (Rn Rr : Act → World → Prop) : Exit → Act → World → Prop
  | .normal, a, w => ∀ d, Rn a (re w t d)
  | .ret, a, w => ∀ d, Rr a (re w t d)
  | _, _, _ => False

/-- where a piece has come -/
def PieceS (b : Frame) (k : List Item) (cs : List Frame) (Rn Rr : Act → World → Prop) (g : Goroutine) (w : World) : Prop :=
  (∃ a, a.defers = [] ∧ Rn a w ∧ g = G (b.at a k) cs) ∨ ∃ a todo, a.defers = [] ∧ Rr a w ∧ g = G { b.at a todo with mode := .returning } cs

theorem runs_of_item (hL : ∀ f, L f = true → fnOk P L f = true) (hE : NoEarly P) {it : Item} (hit : itemOk (opOk P L) it = true) {b : Frame} {a : Act} {k : List Item} {cs : List Frame} {w : World}
    (hb : b.kind = .normal) (hfn : ∃ fn, P.funcs[b.fn]? = some fn ∧ resFn fn = true) (ha : a.defers = []) {Rn Rr : Act → World → Prop}
    (h : ∀ τ δ (b : Frame) (k : List Item) (cs : List Frame), b.kind = .normal → ∃ e a' w', PieceQ w.tape Rn Rr e a' w' ∧ Arrives P (lone (b.at a (it :: k)) cs (re w τ δ)) b k cs e a' w') :
    Runs P Hush (PieceS b k cs Rn Rr) (G (b.at a (it :: k)) cs) w := by
  have hfr : FrOk P L (b.at a [it]) := ⟨hfn, hb, rfl, ha, fun x hx => by simp only [Frame.at, List.mem_singleton] at hx; exact hx ▸ hit⟩
  refine runs_of_lone (fr := b.at a [it]) (Y := []) hL hE ⟨hfr, by simp⟩ w k cs
    (fun _ _ fr' w' => (∃ a', (∀ d, Rn a' (re w' w.tape d)) ∧ fr' = b.at a' [stopItem]) ∨ ∃ a' todo, (∀ d, Rr a' (re w' w.tape d)) ∧ fr' = { b.at a' todo with mode := .returning }) _ (fun τ δ => ?_) (fun τ δ fr' w' δ' hok ht htape => ?_)
  · obtain ⟨e, a', w', hq, harr⟩ := h τ δ b [stopItem] [door P] hb
    cases e with
    | normal =>
      obtain ⟨N, hN⟩ := harr
      exact ⟨N, _, w', hN, .inl ⟨a', hq, rfl⟩⟩
    | ret =>
      obtain ⟨todo, N, hN⟩ := harr
      exact ⟨N, _, w', hN, .inr ⟨a', todo, hq, rfl⟩⟩
    | _ => exact hq.elim
  · have hre : ∀ d, re (re w' τ δ') w.tape d = re w' w.tape d := fun _ => rfl
    have hself : re w' w.tape w'.drawn = w' := by rw [← htape]; rfl
    have hd := hok.defers
    obtain ⟨fn, tmps, todo, defers, mode, kind, ro⟩ := fr'
    simp only at hd
    subst hd
    rcases ht with ⟨a', hq, e⟩ | ⟨a', todo', hq, e⟩
    · have hq' := hq w'.drawn
      rw [hre, hself] at hq'
      simp only [plus, Frame.at, Frame.mk.injEq] at e
      obtain ⟨rfl, rfl, e3, e4, rfl, rfl, rfl⟩ := e
      have ht : todo = [] := by
        have := congrArg List.length e3
        simp at this
        exact this
      subst ht
      exact .inl ⟨a', e4.symm, hq', by simp [lay, plus, Frame.at, ← e4]⟩
    · have hq' := hq w'.drawn
      rw [hre, hself] at hq'
      simp only [plus, Frame.at, Frame.mk.injEq] at e
      obtain ⟨rfl, rfl, e3, e4, rfl, rfl, rfl⟩ := e
      exact .inr ⟨a', todo ++ k, e4.symm, hq', by simp [lay, plus, Frame.at, ← e4]⟩

theorem runs_of_wp (hL : ∀ f, L f = true → fnOk P L f = true) (hE : NoEarly P) {c : Code} (hc : codeOk (opOk P L) c = true) {b : Frame} {a : Act} {k : List Item} {cs : List Frame} {w : World}
    (hb : b.kind = .normal) (hfn : ∃ fn, P.funcs[b.fn]? = some fn ∧ resFn fn = true) (ha : a.defers = []) {Rn Rr : Act → World → Prop} (h : ∀ τ δ, c.wp P (PieceQ w.tape Rn Rr) a (re w τ δ)) :
    Runs P Hush (PieceS b k cs Rn Rr) (G (b.at a (.code c :: k)) cs) w :=
  runs_of_item hL hE (it := .code c) hc hb hfn ha fun τ δ b k cs _ => h τ δ b k cs

theorem runs_of_ops (hL : ∀ f, L f = true → fnOk P L f = true) (hE : NoEarly P) {ops : Array Oper} {l : List Nat} (hc : ops.all (opOk P L) = true) {b : Frame} {a : Act} {k : List Item} {cs : List Frame} {w : World}
    (hb : b.kind = .normal) (hfn : ∃ fn, P.funcs[b.fn]? = some fn ∧ resFn fn = true) (ha : a.defers = []) {Rn Rr : Act → World → Prop} (h : ∀ τ δ, wpOps P ops (PieceQ w.tape Rn Rr) l a (re w τ δ)) :
    Runs P Hush (PieceS b k cs Rn Rr) (G (b.at a (.inRegion ops l :: k)) cs) w :=
  runs_of_item hL hE (it := .inRegion ops l) (itemOk_region l hc) hb hfn ha fun τ δ b k cs _ => wp_ops l a _ (h τ δ) b k cs
end
end Go.Proofs.Ytiacfaeanlkalaa
