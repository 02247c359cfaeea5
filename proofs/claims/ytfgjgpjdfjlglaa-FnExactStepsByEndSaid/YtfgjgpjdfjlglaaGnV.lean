/- A call of a function value in whatever company; a region that asks the tape, with calls in company in it. No program. -/
import Derived.Test.YtfgjgpjdfjlglaaGnN
import Derived.Test.YtfgjgpjdfjlglaaGnR
import Derived.Orders
set_option linter.unusedSimpArgs false
namespace Go.Proofs.Ytfgjgpjdfjlglaa
open Go.Conc

section
variable {P : Program} {m : Mode P} {w : World} {fn : FuncId} {a : Act} {Q : Exit → Mode P → Act → World → Prop} {ops : Array Oper} {i : Nat} {rest : List Nat} {o : Oper}

/-- what a call of a function's value asks for -/
theorem call_run_v {c : Call} {f : FuncId} {x : Operand} {caps : Array Value} {fn' : Func} (hc : o.op = .call c) (hcal : c.callee = .value x) (hx : a.eval x = .func (.func f) #[] caps) (hfn : P.funcs[f]? = some fn') (hb : fn'.body.isSome = true) (hname : (fn'.name == "runtime.NumGoroutine") = false) (u : World) :
    (execOp a.eval o).run P u = .ok (.enter f (c.args.map a.eval ++ caps)) u := by
  have hb' : fn'.body ≠ none := by intro h; simp [h] at hb
  have hn' : fn'.name ≠ "runtime.NumGoroutine" := by simpa using hname
  simp [execOp, hc, resolve, hcal, hx, Deferred.ofValue, invoke, callFunc, program, bind, Sem.bind, pure, Sem.run, hfn, hn', hb']

/-- a call of a function's value in whatever company -/
theorem WpM.callV {vs : Array Value} {f : FuncId} {x : Operand} {caps : Array Value} {args : Array Operand} {ats : Array TypeId} {fn' : Func} {R : Value → World → Prop} (ho : ops[i]? = some o) (hw : Region.wanted o (yielded ops a.tmps) = true) (hop : o.op = .call { callee := .value x, args, argTypes := ats })
    (hx : a.eval x = .func (.func f) #[] caps)
    (hf : P.funcs[f]? = some fn') (hname : (fn'.name == "runtime.NumGoroutine") = false) (hb : fn'.body.isSome = true)
    (hvs : args.map a.eval ++ caps = vs) (hc : CallsM P m f vs w R) (h : ∀ v w', R v w' → WpM fn m (.inRegion ops rest) Q (a.put o.dst v) w') : WpM fn m (.inRegion ops (i :: rest)) Q a w := by
  subst hvs
  intro b k cs S hk hfn k1 k2 k3
  have hst : ∀ u, stepG P true (G (b.at a (.inRegion ops (i :: rest) :: k)) cs) u = .go (G (Frame.enter P f (args.map a.eval ++ caps) .normal) (b.at a (.inRegion ops (i :: rest) :: k) :: cs)) u #[] := by
    intro u
    have hrun := call_run_v (a := a) hop rfl hx hf hb hname u
    rw [stepG_enter ho hw (by rw [hk]; decide) hrun]
    congr 1
    obtain ⟨c, hc'⟩ := Option.isSome_iff_exists.1 hb
    have h1 : ¬ fn'.name = "runtime.NumGoroutine" := by simpa using hname
    unfold listed
    rw [show (execOp a.eval o).events P u #[] = #[] by unfold execOp; simp [hop, resolve, hx, Deferred.ofValue, invoke, callFunc, hf, h1, hc'], seen_none]
  refine .ctl rfl hst (hc _ cs S fun v w' hv => ?_)
  have hfin : (b.at a (.inRegion ops (i :: rest) :: k)).finish v = b.at (a.put o.dst v) (.inRegion ops rest :: k) := by rw [Frame.finish_at, ho]; rfl
  rw [hfin]
  exact h v w' hv b k cs S hk hfn k1 k2 k3

/-- a region that asks the tape: every order that it can give -/
theorem WpM.drawn {id : Nat} (hm : P.follows .mixedOrders = true) (h : ∀ t, WpM fn m (.inRegion ops (Region.schedule true ops t)) Q a w) : WpM fn m (.code (.region id ops true)) Q a w := by
  intro b k cs S hb hf k1 k2 k3
  refine Reach.of_goes (n := 1) (S₁ := fun x u => ∃ t, x = G (b.at a (.inRegion ops (Region.schedule true ops t) :: k)) cs ∧ RW w u) (Goes.step rfl fun u hu => by
    rw [stepG_region_draw, goes_go, hm]
    exact ⟨letsDraw m u, fun u' hu' => ⟨_, rfl, hu.trans ((show RW u { u with drawn := u.drawn + 1 } from ⟨u.drawn + 1, rfl⟩).trans hu')⟩⟩) ?_
  rintro x u ⟨t, rfl, hu⟩
  exact (h t b k cs S hb hf k1 k2 k3).rely hu

/-- operation number i, whatever follows it -/
def OpM (fn : FuncId) (ops : Array Oper) (i : Nat) (K : Mode P → Act → World → Prop) (m : Mode P) (a : Act) (w : World) : Prop :=
  ∀ (rest : List Nat) (Q : Exit → Mode P → Act → World → Prop), (∀ m' a' w', K m' a' w' → WpM fn m' (.inRegion ops rest) Q a' w') → WpM fn m (.inRegion ops (i :: rest)) Q a w
/-- whatever order is picked from here on -/
def AnyM (fn : FuncId) (ops : Array Oper) (K : Mode P → Act → World → Prop) : Nat → Array Bool → Mode P → Act → World → Prop
  | 0, _, m, a, w => K m a w
  | fuel + 1, listed, m, a, w => (Region.ready .any ops listed = [] → K m a w) ∧ ∀ i ∈ Region.ready .any ops listed, OpM fn ops i (AnyM fn ops K fuel (listed.setIfInBounds i true)) m a w

theorem anyM_sound {K : Mode P → Act → World → Prop} (hK : ∀ m a w, K m a w → Q .normal m a w) : ∀ (fuel t : Nat) (listed : Array Bool) (m : Mode P) (a : Act) (w : World), AnyM fn ops K fuel listed m a w →
    WpM fn m (.inRegion ops (Region.linearise.go .any ops fuel t listed [])) Q a w := by
  intro fuel
  induction fuel with
  | zero =>
    intro t listed m a w h
    simp only [Region.linearise.go, List.reverse_nil]
    exact WpM.region_end (hK _ _ _ h)
  | succ fuel ih =>
    intro t listed m a w h
    obtain ⟨h₀, h₁⟩ := h
    simp only [Region.linearise.go]
    change WpM fn m (.inRegion ops (match (Region.ready .any ops listed)[t % (Region.ready .any ops listed).length]? with
      | some i => Region.linearise.go .any ops fuel (t / (Region.ready .any ops listed).length) (listed.setIfInBounds i true) [i]
      | none => [].reverse)) Q a w
    cases hi : (Region.ready .any ops listed)[t % (Region.ready .any ops listed).length]? with
    | none =>
      have hnil : Region.ready .any ops listed = [] := by
        cases hr : Region.ready .any ops listed with
        | nil => rfl
        | cons x xs =>
          rw [hr] at hi
          have hlt : t % (x :: xs).length < (x :: xs).length := Nat.mod_lt _ (by simp)
          simp at hi
          simp at hlt
          omega
      simp only [List.reverse_nil]
      exact WpM.region_end (hK _ _ _ (h₀ hnil))
    | some i =>
      simp only []
      rw [linearise_go_acc, List.reverse_singleton, List.singleton_append]
      exact h₁ i (List.mem_of_getElem? hi) _ _ (fun m' a' w' x => ih _ _ m' a' w' x)

/-- ████ a region that asks the tape, whatever its operations: calls in company too ████ -/
theorem WpM.region_any {id : Nat} {K : Mode P → Act → World → Prop} (hm : P.follows .mixedOrders = true) (h : AnyM fn ops K ops.size (Array.replicate ops.size false) m a w) (hK : ∀ m a w, K m a w → Q .normal m a w) : WpM fn m (.code (.region id ops true)) Q a w :=
  WpM.drawn hm fun t => by
    simp only [Region.schedule, Bool.true_or, if_true]
    exact anyM_sound hK ops.size t _ m a w h
/-- whichever of those that may come up comes up -/
theorem anyM_all {K : Mode P → Act → World → Prop} {rs : List Nat} {fuel : Nat} {listed : Array Bool} (hr : Region.ready .any ops listed = rs) (hne : rs ≠ [])
    (h : ∀ i ∈ rs, OpM fn ops i (AnyM fn ops K fuel (listed.setIfInBounds i true)) m a w) : AnyM fn ops K (fuel + 1) listed m a w :=
  ⟨fun h0 => absurd (hr ▸ h0) hne, hr ▸ h⟩
theorem anyM_done {K : Mode P → Act → World → Prop} {listed : Array Bool} (h : K m a w) : AnyM fn ops K 0 listed m a w := h
end
end Go.Proofs.Ytfgjgpjdfjlglaa
