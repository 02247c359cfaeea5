/- A goroutine that sends numbers at a select until it is stopped, and who takes them, part M. No program. -/
import Derived.Test.YtiacfaeanlkalaaGnL
import Derived.Conc.CompanyMem
set_option linter.unusedSimpArgs false
namespace Go.Proofs.Ytiacfaeanlkalaa
set_option maxRecDepth 100000
open Go.Conc

section
variable {P : Program} {m : Mode P} {w : World} {fn : FuncId} {a : Act} {Q : Exit → Mode P → Act → World → Prop} {ops : Array Oper} {i : Nat} {rest : List Nat} {o : Oper}

/-- one operation, what follows behind a variable -/
theorem WpM.op_k (ho : ops[i]? = some o) (hw : Region.wanted o (yielded ops a.tmps) = true)
    (h : ∀ u, RW w u → ∀ K : Act → World → Prop, (∀ a' u', m.C.D u u' (listed P fn a o u) ∧ WpM fn m (.inRegion ops rest) Q a' u' → K a' u') → uponK o a K ((execOp a.eval o).run P u)) : WpM fn m (.inRegion ops (i :: rest)) Q a w := by
  intro b k cs S hb hf k1 k2 k3
  refine .of_goes (n := 1) (S₁ := fun g u => Reach m S g u) (Goes.step rfl fun u hu => goes_oper ho hw (by rw [hb]; decide) ?_) (fun _ _ h => h)
  have := h u hu (fun a' u' => m.C.D u u' (listed P fn a o u) ∧ WpM fn m (.inRegion ops rest) Q a' u') (fun _ _ h => h)
  revert this
  cases (execOp a.eval o).run P u with
  | ok x w' => cases x <;> first | exact fun ⟨d, g⟩ => ⟨hf ▸ d, fun u2 h2 => (g b k cs S hb hf k1 k2 k3).rely h2⟩ | exact id
  | halt _ _ => exact id
theorem opC_k {R : World → World → Prop} {D : World → World → Array Event → Prop} {K : Act → World → Prop} (ho : ops[i]? = some o) (hw : Region.wanted o (yielded ops a.tmps) = true)
    (h : ∀ u, R w u → ∀ K' : Act → World → Prop, (∀ a' u', D u u' (listed P fn a o u) ∧ K a' u' → K' a' u') → uponK o a K' ((execOp a.eval o).run P u)) : OpC P R D fn ops i K a w := by
  unfold OpC
  rw [ho]
  simp only [hw, if_true]
  exact fun u hu => h u hu _ fun _ _ h => h
theorem m_idle (h : (execOp a.eval o).events P w #[] = #[]) : m.C.D w w (listed P fn a o w) := by rw [listed_nil h]; exact m.idle _
theorem WpM.held {id : Nat} {M : Act → World → Prop} (hm : P.follows .mixedOrders = true) (h : ∀ d, AnyCH P RW m.C.D fn .any ops (fun e a' w' => e = .normal ∧ M a' w') (fun _ => True) ops.size (Array.replicate ops.size false) a (w.at d))
    (hM : ∀ a' w', M a' w' → Q .normal m a' w') : WpM fn m (.code (.region id ops true)) Q a w :=
  WpM.of_code (wpC_region_held m.terms (letsDraw m) hm fun w1 ⟨d, e⟩ => by subst e; exact h (d + 1)) hM

/-- three blocks are laid -/
theorem made3 {w W : World} {o0 o1 o2 : Obj} (h1 : W.os = w.os) (h2 : W.tape = w.tape) (h3 : W.output = w.output) (h : W.heap = ((w.heap.push o0).push o1).push o2) :
    (∀ k, k < w.heap.size → W.heap[k]? = w.heap[k]?) ∧ W.heap[w.heap.size]? = some o0 ∧ W.heap[w.heap.size + 1]? = some o1 ∧ W.heap[w.heap.size + 2]? = some o2 ∧ W.heap.size = w.heap.size + 3 ∧ W.os = w.os ∧ W.tape = w.tape ∧ W.output = w.output := by
  rw [h]
  refine ⟨fun k hk => ?_, ?_, ?_, ?_, by simp, h1, h2, h3⟩
  · rw [Array.getElem?_push_lt (by simp; omega), Array.getElem_push_lt (by simp; omega), Array.getElem_push_lt hk, Array.getElem?_eq_getElem hk]
  · rw [Array.getElem?_push_lt (by simp; omega), Array.getElem_push_lt (by simp), Array.getElem_push_eq]
  · have := Array.getElem?_push_size (xs := w.heap.push o0) (x := o1)
    rw [Array.size_push] at this
    rw [Array.getElem?_push_lt (by simp), ← Array.getElem?_eq_getElem]
    exact this
  · rw [show w.heap.size + 2 = ((w.heap.push o0).push o1).size by simp, Array.getElem?_push_size]
end

end Go.Proofs.Ytiacfaeanlkalaa
