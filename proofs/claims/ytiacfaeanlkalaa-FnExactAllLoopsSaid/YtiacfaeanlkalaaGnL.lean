/- A goroutine that sends numbers at a select until it is stopped, and who takes them, part L. No program. -/
import Derived.Test.YtiacfaeanlkalaaGnK
import Derived.Conc.CompanyCalls
import Derived.Conc.CompanyDraw
set_option linter.unusedSimpArgs false
namespace Go.Proofs.Ytiacfaeanlkalaa
set_option maxRecDepth 100000
open Go.Conc

section
variable {P : Program} {m : Mode P} {w : World} {fn : FuncId} {a : Act} {Q : Exit → Mode P → Act → World → Prop} {ops : Array Oper} {i : Nat} {rest : List Nat} {o : Oper}

/-- what a step may list in whatever company, if it turns nothing: reads -/
def Looks (es : Array Event) : Prop := ∀ e ∈ es, Ev0 e ∧ ∀ t, (MemAct.ofEvent e).touch? = some t → t.write = false
theorem Mode.look (m : Mode P) (w : World) {es : Array Event} (h : Looks es) : m.C.D w w es := by
  cases m with
  | aside => exact fun e he => (h e he).1
  | gen X x => exact ⟨id, rfl, rfl, fun e he => ⟨(h e he).1, fun t ht _ => (h e he).2 t ht⟩⟩
theorem looks_none : Looks #[] := fun e he => by simp at he
theorem looks_cell (a : Addr) : Looks #[⟨.cell a, false, false⟩] := by
  intro e he
  simp only [List.mem_toArray, List.mem_cons, List.not_mem_nil, or_false] at he
  subst he
  exact ⟨⟨by simp, by simp⟩, fun t ht => by simp only [ofEvent_cell0, MemAct.touch?, Option.some.injEq] at ht; subst ht; rfl⟩
theorem looks_cells {es : Array Event} (h : ∀ e ∈ es, ∃ a, e = ⟨.cell a, false, false⟩) : Looks es := by
  intro e he
  obtain ⟨a, rfl⟩ := h e he
  exact looks_cell a _ (by simp)

/-- an operation that looks at nothing -/
theorem WpM.val {v : Value} (ho : ops[i]? = some o) (hw : Region.wanted o (yielded ops a.tmps) = true) (hr : ∀ u, (execOp a.eval o).run P u = .ok (.value v) u) (he : ∀ u, (execOp a.eval o).events P u #[] = #[])
    (h : ∀ d, WpM fn m (.inRegion ops rest) Q (a.put o.dst v) (w.at d)) : WpM fn m (.inRegion ops (i :: rest)) Q a w :=
  .op ho hw fun u hu => by
    obtain ⟨d, rfl⟩ := hu
    exact ⟨v, _, hr _, by unfold listed; rw [he, seen_none]; exact m.idle _, h d⟩
theorem WpM.unwanted (ho : ops[i]? = some o) (hw : Region.wanted o (yielded ops a.tmps) = false) (h : WpM fn m (.inRegion ops rest) Q (a.put o.dst undef) w) : WpM fn m (.inRegion ops (i :: rest)) Q a w :=
  fun b k cs S hb hf k1 k2 k3 => .ctl rfl (fun _ => stepG_unwanted ho hw) (h b k cs S hb hf k1 k2 k3)

/-- a call, by a contract in company -/
theorem WpM.callC {f : FuncId} {args : Array Operand} {ats : Array TypeId} {nf : Nat} {v : Value} (ho : ops[i]? = some o) (hw : Region.wanted o (yielded ops a.tmps) = true) (hop : o.op = .call { callee := .value (.func f), args, argTypes := ats })
    (hc : CallsC P true RW m.C.D f (args.map a.eval) nf w fun v' w' => v' = v ∧ Since RW w w') (h : ∀ d, WpM fn m (.inRegion ops rest) Q (a.put o.dst v) (w.at d)) : WpM fn m (.inRegion ops (i :: rest)) Q a w := by
  intro b k cs S hb hf k1 k2 k3
  refine .of_goes (S₁ := fun g u => Reach m S g u) (Goes.call (m := 0) m.terms ho hw (by rw [hb]; decide) hop hc ?_) (fun _ _ h => h)
  rintro v' w' ⟨rfl, hs⟩ u hu
  have hwu : RW w u := hs.elim (fun e => e ▸ hu) (fun r => r.trans hu)
  obtain ⟨d, rfl⟩ := hwu
  exact h d b k cs S hb hf k1 k2 k3

/-- a region that draws its order -/
theorem letsDraw (m : Mode P) : LetsDraw m.C.D := fun w => by
  cases m with
  | aside => exact fun e he => by simp at he
  | gen X x => exact ⟨X.Kat w _, rfl, rfl, by simp⟩
end
end Go.Proofs.Ytiacfaeanlkalaa
