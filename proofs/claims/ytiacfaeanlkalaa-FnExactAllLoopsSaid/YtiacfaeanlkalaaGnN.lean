/- A goroutine that sends numbers at a select until it is stopped, and who takes them, part N. No program. -/
import Derived.Test.YtiacfaeanlkalaaGnM
set_option linter.unusedSimpArgs false
namespace Go.Proofs.Ytiacfaeanlkalaa
set_option maxRecDepth 100000
open Go.Conc

/-- A call in whatever company: it lays its value down in the frame behind it, the company as it was. -/
def CallsM (P : Program) (m : Mode P) (f : FuncId) (args : Array Value) (w : World) (R : Value → World → Prop) : Prop :=
  ∀ (c : Frame) (cs : List Frame) (S : Goroutine → World → Prop), (∀ v w', R v w' → Reach m S (G (c.finish v) cs) w') → Reach m S (G (Frame.enter P f args .normal) (c :: cs)) w

section
variable {P : Program} {m : Mode P} {w : World} {fn : FuncId} {a : Act} {Q : Exit → Mode P → Act → World → Prop} {ops : Array Oper} {i : Nat} {rest : List Nat} {o : Oper}

theorem callsM_of {f : FuncId} {fn : Func} {c : Code} {args : Array Value} {R : Value → World → Prop} (hf : P.funcs[f]? = some fn) (hb : fn.body = some c)
    (h : WpM (P := P) f m (.code c) (fun e m' a' w' => e = .ret ∧ m' = m ∧ a'.defers = [] ∧ ∃ v, ResultsC P fn a'.tmps v ∧ R v w') { tmps := args ++ Array.replicate (fn.ntmps - args.size) undef, defers := [] } w) : CallsM P m f args w R := by
  intro c0 cs S k
  have henter : Frame.enter P f args .normal = (base f).at { tmps := args ++ Array.replicate (fn.ntmps - args.size) undef, defers := [] } [.code c] := by
    simp [Frame.enter, Frame.at, hf, hb, base]
  rw [henter]
  refine h (base f) [] (c0 :: cs) S rfl rfl (fun m' a' w' hq => by cases hq.1) (fun m' a' w' todo hq => ?_) (fun id m' a' w' hq => by cases hq.1)
  obtain ⟨_, rfl, hd, v, hv, hR⟩ := hq
  exact .ctl rfl (fun u => stepG_leave (b := base f) rfl hd hf (hv u).1 (hv u).2) (k v w' hR)

theorem WpM.callM {vs : Array Value} {f : FuncId} {args : Array Operand} {ats : Array TypeId} {fn' : Func} {R : Value → World → Prop} (ho : ops[i]? = some o) (hw : Region.wanted o (yielded ops a.tmps) = true) (hop : o.op = .call { callee := .value (.func f), args, argTypes := ats })
    (hf : P.funcs[f]? = some fn') (hname : (fn'.name == "runtime.NumGoroutine") = false) (hb : fn'.body.isSome = true)
    (hvs : args.map a.eval = vs) (hc : CallsM P m f vs w R) (h : ∀ v w', R v w' → WpM fn m (.inRegion ops rest) Q (a.put o.dst v) w') : WpM fn m (.inRegion ops (i :: rest)) Q a w := by
  subst hvs
  intro b k cs S hk hfn k1 k2 k3
  have hst : ∀ u, stepG P true (G (b.at a (.inRegion ops (i :: rest) :: k)) cs) u = .go (G (Frame.enter P f (args.map a.eval) .normal) (b.at a (.inRegion ops (i :: rest) :: k) :: cs)) u #[] := by
    intro u
    have hrun := call_run (a := a) hop rfl hf hb hname u
    rw [stepG_enter ho hw (by rw [hk]; decide) hrun]
    congr 1
    obtain ⟨c, hc'⟩ := Option.isSome_iff_exists.1 hb
    have h1 : ¬ fn'.name = "runtime.NumGoroutine" := by simpa using hname
    unfold listed
    rw [show (execOp a.eval o).events P u #[] = #[] by unfold execOp; simp [hop, resolve, Act.eval, Deferred.ofValue, invoke, callFunc, hf, h1, hc'], seen_none]
  refine .ctl rfl hst (hc _ cs S fun v w' hv => ?_)
  have hfin : (b.at a (.inRegion ops (i :: rest) :: k)).finish v = b.at (a.put o.dst v) (.inRegion ops rest :: k) := by rw [Frame.finish_at, ho]; rfl
  rw [hfin]
  exact h v w' hv b k cs S hk hfn k1 k2 k3
end
end Go.Proofs.Ytiacfaeanlkalaa
