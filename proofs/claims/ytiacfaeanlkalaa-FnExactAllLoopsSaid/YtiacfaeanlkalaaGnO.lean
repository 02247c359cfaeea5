/- A goroutine that sends numbers at a select until it is stopped, and who takes them, part O. No program. -/
import Derived.Test.YtiacfaeanlkalaaGnN
set_option linter.unusedSimpArgs false
namespace Go.Proofs.Ytiacfaeanlkalaa
set_option maxRecDepth 100000
open Go.Conc

section
variable {P : Program} {L : FuncId → Bool}

/-- a call whose contract is of one goroutine alone, in company -/
theorem runs_of_call (hL : ∀ f, L f = true → fnOk P L f = true) (hE : NoEarly P) {ops : Array Oper} {i : Nat} {rest : List Nat} {o : Oper} {f : FuncId} {fn : Func} {args : Array Operand} {ats : Array TypeId} {vs : Array Value} {b : Frame} {a : Act} {k : List Item} {cs : List Frame} {w : World}
    (hit : itemOk (opOk P L) (.inRegion ops (i :: rest)) = true) (hb : b.kind = .normal) (hfn : ∃ fn, P.funcs[b.fn]? = some fn ∧ resFn fn = true) (ha : a.defers = [])
    (ho : ops[i]? = some o) (hw : Region.wanted o (yielded ops a.tmps) = true) (hop : o.op = .call { callee := .value (.func f), args, argTypes := ats }) (hf : P.funcs[f]? = some fn) (hname : (fn.name == "runtime.NumGoroutine") = false) (hbody : fn.body.isSome = true)
    (hvs : args.map a.eval = vs) {Rn : Value → World → Prop} (h : ∀ τ δ, Calls P f vs (re w τ δ) fun e w' => ∃ v, e = .returned v ∧ ∀ d, Rn v (re w' w.tape d)) :
    Runs P Hush (fun g u => ∃ v, Rn v u ∧ g = G (b.at (a.put o.dst v) (.inRegion ops rest :: k)) cs) (G (b.at a (.inRegion ops (i :: rest) :: k)) cs) w := by
  have hfr : FrOk P L (b.at a [.inRegion ops (i :: rest)]) := ⟨hfn, hb, rfl, ha, fun x hx => by simp only [Frame.at, List.mem_singleton] at hx; exact hx ▸ hit⟩
  refine runs_of_lone (fr := b.at a [.inRegion ops (i :: rest)]) (Y := []) hL hE ⟨hfr, by simp⟩ w k cs
    (fun _ _ fr' w' => ∃ v, (∀ d, Rn v (re w' w.tape d)) ∧ fr' = b.at (a.put o.dst v) [.inRegion ops rest, stopItem]) _ (fun τ δ => ?_) (fun τ δ fr' w' δ' hok ht htape => ?_)
  · obtain ⟨e, w', fr', ⟨v, rfl, hv⟩, hn, _, hleave⟩ := h τ δ [b.at a [.inRegion ops (i :: rest), stopItem], door P]
    have hst := stepG_enter (main := true) (b := b) (a := a) (k := [stopItem]) (cs := [door P]) (w := re w τ δ) (rest := rest) ho hw (by rw [hb]; decide) (call_run (a := a) hop rfl hf hbody hname (re w τ δ))
    rw [hvs] at hst
    have h1 := solo1_go (P := P) rfl rfl hst
    have h2 := step_leave_returned (P := P) (fr := fr') (c := b.at a [.inRegion ops (i :: rest), stopItem]) (cs := [door P]) hleave
    have hfin : (b.at a [.inRegion ops (i :: rest), stopItem]).finish v = b.at (a.put o.dst v) [.inRegion ops rest, stopItem] := by rw [Frame.finish_at, ho]; rfl
    rw [hfin] at h2
    obtain ⟨N, hN⟩ := Steps.trans (Steps.head h1 hn) (Steps.one h2)
    exact ⟨N, _, w', hN, v, hv, rfl⟩
  · have hself : re w' w.tape w'.drawn = w' := by rw [← htape]; rfl
    have hd := hok.defers
    obtain ⟨fn', tmps, todo, defers, mode, kind, ro⟩ := fr'
    simp only at hd
    subst hd
    obtain ⟨v, hq, e⟩ := ht
    have hq' : Rn v w' := by
      have := hq w'.drawn
      rw [show re (re w' τ δ') w.tape w'.drawn = re w' w.tape w'.drawn from rfl, hself] at this
      exact this
    simp only [plus, Frame.at, Frame.mk.injEq] at e
    obtain ⟨rfl, rfl, e3, e4, rfl, rfl, rfl⟩ := e
    have ht : todo = [.inRegion ops rest] := by
      rcases todo with _ | ⟨x, _ | ⟨y, t⟩⟩
      · simp at e3
      · simp at e3; rw [e3]
      · have := congrArg List.length e3
        simp at this
    subst ht
    exact ⟨v, hq', by simp [lay, plus, Frame.at, ← e4]⟩

variable {fn : FuncId} {a : Act} {w : World} {Q : Exit → Mode P → Act → World → Prop}
/-- THE RULE: beside leavers, a call by a contract of one goroutine alone. -/
theorem WpM.callL (hL : ∀ f, L f = true → fnOk P L f = true) (hE : NoEarly P) (hfn : ∃ fn', P.funcs[fn]? = some fn' ∧ resFn fn' = true) {ops : Array Oper} {i : Nat} {rest : List Nat} {o : Oper} {f : FuncId} {fn' : Func} {args : Array Operand} {ats : Array TypeId} {vs : Array Value}
    (hit : itemOk (opOk P L) (.inRegion ops (i :: rest)) = true) (ha : a.defers = []) (ho : ops[i]? = some o) (hw : Region.wanted o (yielded ops a.tmps) = true) (hop : o.op = .call { callee := .value (.func f), args, argTypes := ats })
    (hf : P.funcs[f]? = some fn') (hname : (fn'.name == "runtime.NumGoroutine") = false) (hbody : fn'.body.isSome = true) (hvs : args.map a.eval = vs) (Rn : Value → World → Prop) (h : ∀ τ δ, Calls P f vs (re w τ δ) fun e w' => ∃ v, e = .returned v ∧ ∀ d, Rn v (re w' w.tape d))
    (hk : ∀ v w', Rn v w' → WpM fn .aside (.inRegion ops rest) Q (a.put o.dst v) w') : WpM fn .aside (.inRegion ops (i :: rest)) Q a w := by
  intro b k cs S hb hbf k1 k2 k3
  subst hbf
  refine .of_runs (m := .aside) (fun d => runs_of_call (w := w.at d) hL hE hit hb hfn ha ho hw hop hf hname hbody hvs (fun τ δ => h τ δ)) ?_
  rintro g u ⟨v, hv, rfl⟩
  exact hk v u hv b k cs S hb rfl k1 k2 k3
/-- .. by a contract in company -/
theorem callsM_of_R {f : FuncId} {args : Array Value} {R : Value → World → Prop} (h : CallsR P f args w R) : CallsM P .aside f args w R := h
theorem callsR_of_M {f : FuncId} {args : Array Value} {R : Value → World → Prop} (h : CallsM P .aside f args w R) : CallsR P f args w R := h
theorem CallsM.mono {m : Mode P} {f : FuncId} {args : Array Value} {R R' : Value → World → Prop} (h : CallsM P m f args w R) (hr : ∀ v w', R v w' → R' v w') : CallsM P m f args w R' := fun c cs S k => h c cs S fun v w' hv => k v w' (hr v w' hv)
end
end Go.Proofs.Ytiacfaeanlkalaa
