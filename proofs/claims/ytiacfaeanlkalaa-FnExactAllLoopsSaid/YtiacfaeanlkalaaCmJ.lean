/- A walk made for one goroutine alone is carried over to a machine of many, part J. No program. -/
import Derived.Test.YtiacfaeanlkalaaCmI
import Derived.WalkKit
namespace Go.Proofs.Ytiacfaeanlkalaa
set_option maxRecDepth 100000
open Go.Conc

/-- beside leavers, however the count of draws stands, the machine comes to where goroutine 0 stands so -/
def ReachR (P : Program) (S : Goroutine → World → Prop) (g : Goroutine) (w : World) : Prop :=
  ∀ (d : Nat) (μ : Nat) (T : Trace) (gs : Array Goroutine) (sl : Option (Nat × Nat)), AsideIn P μ T gs (w.at d) → gs[0]? = some g → Comes' (Aside' P) S gs (w.at d) sl T

/-- a function that is good to return from -/
def FnGood (P : Program) (f : FuncId) : Prop := ∃ fn, P.funcs[f]? = some fn ∧ resFn fn = true

section
variable {P : Program} {S S' : Goroutine → World → Prop} {g : Goroutine} {w : World}

theorem comes_trans {C : Comp P} {gs : Array Goroutine} {sl : Option (Nat × Nat)} {T : Trace} (h : Comes' C S gs w sl T)
    (k : ∀ g' w', S g' w' → ∀ (μ : Nat) (T : Trace) (gs : Array Goroutine) (sl : Option (Nat × Nat)), C.In μ T gs w' → gs[0]? = some g' → Comes' C S' gs w' sl T) : Comes' C S' gs w sl T := by
  obtain ⟨N, gs1, g1, w1, sl1, T1, μ1, h1, h2, h3, h4⟩ := h
  obtain ⟨N2, gs2, g2, w2, sl2, T2, μ2, h5, h6, h7, h8⟩ := k g1 w1 h4 μ1 T1 gs1 sl1 h3 h2
  exact ⟨N + N2, gs2, g2, w2, sl2, T2, μ2, by rw [runNT_add, h1]; exact h5, h6, h7, h8⟩

theorem ReachR.here (h : ∀ d, S g (w.at d)) : ReachR P S g w := fun d μ T gs sl hI hg => ⟨0, gs, g, w.at d, sl, T, μ, rfl, hg, hI, h d⟩
theorem ReachR.of_runs (h : ∀ d, Runs P Hush S g (w.at d)) : ReachR P S g w := fun d _ _ _ _ hI hg => (Aside' P).walk (h d) hI hg
theorem ReachR.trans (h : ReachR P S g w) (k : ∀ g' w', S g' w' → ReachR P S' g' w') : ReachR P S' g w := fun d μ T gs sl hI hg =>
  comes_trans (h d μ T gs sl hI hg) fun g' w' hs μ' T' gs' sl' hI' hg' => by
    have := k g' w' hs w'.drawn μ' T' gs' sl' (by rw [at_self]; exact hI') hg'
    rw [at_self] at this
    exact this
theorem ReachR.at (h : ReachR P S g w) (d : Nat) : ReachR P S g (w.at d) := fun d' => h d'
/-- a step whose entries are hushed, the world as it was -/
theorem ReachR.still {g' : Goroutine} (hr : g.status = .running) (h : ∀ u : World, ∃ es, (∀ e ∈ es, Ev0 e) ∧ stepG P true g u = .go g' u es) (k : ReachR P S g' w) : ReachR P S g w :=
  ReachR.trans (S := fun x u => x = g' ∧ ∃ d, u = w.at d) (.of_runs fun d => .step hr (fun d' => (g', w.at d', Classical.choose (h (w.at d')))) (fun d' => ⟨(Classical.choose_spec (h (w.at d'))).2, (Classical.choose_spec (h (w.at d'))).1⟩) (fun d' => .stop ⟨rfl, d', rfl⟩)) (by
    rintro x u ⟨rfl, d, rfl⟩
    exact k.at d)
/-- one step of control -/
theorem ReachR.ctl {g' : Goroutine} (hr : g.status = .running) (h : ∀ u, stepG P true g u = .go g' u #[]) (k : ReachR P S g' w) : ReachR P S g w :=
  .still hr (fun u => ⟨#[], by simp, h u⟩) k

/-- A CALL IN COMPANY: it lays its value down in the frame behind it. -/
def CallsR (P : Program) (f : FuncId) (args : Array Value) (w : World) (R : Value → World → Prop) : Prop :=
  ∀ (c : Frame) (cs : List Frame) (S : Goroutine → World → Prop), (∀ v w', R v w' → ReachR P S (G (c.finish v) cs) w') → ReachR P S (G (Frame.enter P f args .normal) (c :: cs)) w
theorem CallsR.mono {f : FuncId} {args : Array Value} {R R' : Value → World → Prop} (h : CallsR P f args w R) (hr : ∀ v w', R v w' → R' v w') : CallsR P f args w R' :=
  fun c cs S k => h c cs S fun v w' hv => k v w' (hr v w' hv)

/-- a piece of code in company -/
def WpR (P : Program) (it : Item) (Q : Exit → Act → World → Prop) (a : Act) (w : World) : Prop :=
  ∀ (b : Frame) (k : List Item) (cs : List Frame) (S : Goroutine → World → Prop), b.kind = .normal → FnGood P b.fn →
    (∀ a' w', a'.defers = [] → Q .normal a' w' → ReachR P S (G (b.at a' k) cs) w') →
    (∀ a' w' todo, a'.defers = [] → Q .ret a' w' → ReachR P S (G { b.at a' todo with mode := .returning } cs) w') →
    (∀ id a' w', a'.defers = [] → Q (.exit id) a' w' → ∃ k', exitTo id k = some k' ∧ ReachR P S (G (b.at a' k') cs) w') → ReachR P S (G (b.at a (it :: k)) cs) w

variable {L : FuncId → Bool} {a : Act} {Q Q' : Exit → Act → World → Prop}

theorem WpR.mono {it : Item} (h : WpR P it Q a w) (hq : ∀ e a w, Q e a w → Q' e a w) : WpR P it Q' a w :=
  fun b k cs S hb hf k1 k2 k3 => h b k cs S hb hf (fun a' w' hd q => k1 a' w' hd (hq _ _ _ q)) (fun a' w' t hd q => k2 a' w' t hd (hq _ _ _ q)) (fun id a' w' hd q => k3 id a' w' hd (hq _ _ _ q))

/-- what the walk for one goroutine gives, in company -/
theorem WpR.of_item (hL : ∀ f, L f = true → fnOk P L f = true) (hE : NoEarly P) {it : Item} (hit : itemOk (opOk P L) it = true) (ha : a.defers = [])
    (h : ∀ τ δ (b : Frame) (k : List Item) (cs : List Frame), b.kind = .normal → ∃ e a' w', PieceQ w.tape (Q .normal) (Q .ret) e a' w' ∧ Arrives P (lone (b.at a (it :: k)) cs (re w τ δ)) b k cs e a' w') : WpR P it Q a w := by
  intro b k cs S hb hf k1 k2 _
  refine (ReachR.of_runs (S := PieceS b k cs (Q .normal) (Q .ret)) fun d => runs_of_item (w := w.at d) hL hE hit hb hf ha fun τ δ b k cs hk => h τ δ b k cs hk).trans ?_
  rintro g' w' (⟨a', hd, hq, rfl⟩ | ⟨a', todo, hd, hq, rfl⟩)
  · exact k1 a' w' hd hq
  · exact k2 a' w' todo hd hq
theorem WpR.of_wp (hL : ∀ f, L f = true → fnOk P L f = true) (hE : NoEarly P) {c : Code} (hc : codeOk (opOk P L) c = true) (ha : a.defers = []) (h : ∀ τ δ, c.wp P (PieceQ w.tape (Q .normal) (Q .ret)) a (re w τ δ)) : WpR P (.code c) Q a w :=
  .of_item hL hE (it := .code c) hc ha fun τ δ b k cs _ => h τ δ b k cs
theorem WpR.of_ops (hL : ∀ f, L f = true → fnOk P L f = true) (hE : NoEarly P) {ops : Array Oper} {l : List Nat} (hc : ops.all (opOk P L) = true) (ha : a.defers = []) (h : ∀ τ δ, wpOps P ops (PieceQ w.tape (Q .normal) (Q .ret)) l a (re w τ δ)) : WpR P (.inRegion ops l) Q a w :=
  .of_item hL hE (it := .inRegion ops l) (itemOk_region l hc) ha fun τ δ b k cs _ => wp_ops l a _ (h τ δ) b k cs

theorem WpR.seq {x y : Code} (h : WpR P (.code x) (Exit.then (fun a' w' => a'.defers = [] → WpR P (.code y) Q a' w') Q) a w) : WpR P (.code (.seq x y)) Q a w := by
  intro b k cs S hb hf k1 k2 k3
  refine .ctl rfl (fun _ => stepG_seq) (h b (.code y :: k) cs S hb hf (fun a' w' hd hq => hq hd b k cs S hb hf k1 k2 k3) (fun a' w' todo hd hq => k2 a' w' todo hd hq) (fun id a' w' hd hq => k3 id a' w' hd hq))
theorem WpR.cond {c : Operand} {x y : Code} {t : Bool} (hc : a.eval c = .bool t) (h : WpR P (.code (if t then x else y)) Q a w) : WpR P (.code (.cond c x y)) Q a w :=
  fun b k cs S hb hf k1 k2 k3 => .ctl rfl (fun _ => stepG_cond hc) (h b k cs S hb hf k1 k2 k3)
theorem WpR.skip (h : Q .normal a w) (ha : a.defers = []) : WpR P (.code .skip) Q a w :=
  fun _ _ _ _ _ _ k1 _ _ => .ctl rfl (fun _ => stepG_skip) (k1 a w ha h)
theorem WpR.exit {id : Nat} (h : Q (.exit id) a w) (ha : a.defers = []) : WpR P (.code (.exit id)) Q a w := by
  intro b k cs S _ _ _ _ k3
  obtain ⟨k', he, hk⟩ := k3 id a w ha h
  exact .ctl rfl (fun _ => stepG_exit he) hk
theorem WpR.block {id : Nat} {c : Code} (h : WpR P (.code c) (Exit.inBlock id Q) a w) : WpR P (.code (.block id c)) Q a w := by
  intro b k cs S hb hf k1 k2 k3
  refine .ctl rfl (fun _ => stepG_block) (h b (.inBlock id :: k) cs S hb hf (fun a' w' hd hq => .ctl rfl (fun _ => stepG_inBlock) (k1 a' w' hd hq)) (fun a' w' todo hd hq => k2 a' w' todo hd hq) (fun j a' w' hd hq => ?_))
  by_cases hj : j = id
  · subst hj
    rw [show Exit.inBlock j Q (.exit j) a' w' = Q .normal a' w' by simp [Exit.inBlock]] at hq
    exact ⟨k, by simp [exitTo], k1 a' w' hd hq⟩
  · rw [show Exit.inBlock id Q (.exit j) a' w' = Q (.exit j) a' w' by simp [Exit.inBlock, hj]] at hq
    obtain ⟨k', he, hk⟩ := k3 j a' w' hd hq
    exact ⟨k', by simp [exitTo, Ne.symm hj, he], hk⟩
/-- a loop: I n with n rounds at most to go -/
theorem WpR.loop {c : Code} (I : Nat → Act → World → Prop) (round : ∀ n a w, a.defers = [] → I n a w → WpR P (.code c) (Exit.then (fun a' w' => ∃ m, m < n ∧ I m a' w') Q) a w) (n : Nat) (hI : I n a w) (ha : a.defers = []) : WpR P (.code (.loop c)) Q a w := by
  intro b k cs S hb hf k1 k2 k3
  refine .ctl rfl (fun _ => stepG_loop) ?_
  induction n using Nat.strongRecOn generalizing a w with
  | _ n ih =>
    refine round n a w ha hI b (.inLoop c :: k) cs S hb hf (fun a' w' hd hq => ?_) (fun a' w' todo hd hq => k2 a' w' todo hd hq) (fun id a' w' hd hq => k3 id a' w' hd hq)
    obtain ⟨m, hm, hI'⟩ := hq
    exact .ctl rfl (fun _ => stepG_inLoop) (ih m hm hI' hd)
theorem WpR.ret (h : Q .ret a w) (ha : a.defers = []) : WpR P (.code .ret) Q a w :=
  fun b k cs _ _ _ _ k2 _ => .ctl (g' := G { b.at a (.code .ret :: k) with mode := .returning } cs) rfl (fun u => by simp [G, stepG, stepG.exec, Frame.at]) (k2 a w _ ha h)
theorem WpR.region {id : Nat} {ops : Array Oper} (h : WpR P (.inRegion ops (List.range ops.size)) Q a w) : WpR P (.code (.region id ops false)) Q a w :=
  fun b k cs S hb hf k1 k2 k3 => .ctl rfl (fun _ => stepG_region) (h b k cs S hb hf k1 k2 k3)
theorem WpR.region_end {ops : Array Oper} (h : Q .normal a w) (ha : a.defers = []) : WpR P (.inRegion ops []) Q a w :=
  fun _ _ _ _ _ _ k1 _ _ => .ctl rfl (fun _ => stepG_region_end) (k1 a w ha h)

/-- an operation that yields a value and lets memory be -/
theorem WpR.value {ops : Array Oper} {i : Nat} {rest : List Nat} {o : Oper} {v : Value} (ho : ops[i]? = some o) (hw : Region.wanted o (yielded ops a.tmps) = true) (hop : opOk P (fun _ => true) o = true)
    (hr : ∀ u, (execOp a.eval o).run P u = .ok (.value v) u) (h : WpR P (.inRegion ops rest) Q (a.put o.dst v) w) : WpR P (.inRegion ops (i :: rest)) Q a w := by
  intro b k cs S hb hf k1 k2 k3
  refine .still rfl (fun u => ⟨_, ?_, stepG_value ho hw (by rw [hb]; decide) (hr u)⟩) (h b k cs S hb hf k1 k2 k3)
  exact hush_seen (calm_evs (opOk_calm hop (fun _ => rfl)) u #[] (by simp))

/-- what a call of a function asks for -/
theorem call_run {o : Oper} {c : Call} {f : FuncId} {fn : Func} (hc : o.op = .call c) (hcal : c.callee = .value (.func f)) (hfn : P.funcs[f]? = some fn) (hb : fn.body.isSome = true) (hname : (fn.name == "runtime.NumGoroutine") = false) (u : World) :
    (execOp a.eval o).run P u = .ok (.enter f (c.args.map a.eval)) u := by
  have hb' : fn.body ≠ none := by intro h; simp [h] at hb
  have hn' : fn.name ≠ "runtime.NumGoroutine" := by simpa using hname
  simp [execOp, hc, resolve, hcal, Act.eval, Deferred.ofValue, invoke, callFunc, program, bind, Sem.bind, pure, Sem.run, hfn, hn', hb']

/-- ████ A CALL WHOSE CONTRACT IS IN COMPANY. ████ -/
theorem WpR.call {ops : Array Oper} {i : Nat} {rest : List Nat} {o : Oper} {c : Call} {f : FuncId} {fn : Func} {R : Value → World → Prop} (ho : ops[i]? = some o) (hw : Region.wanted o (yielded ops a.tmps) = true)
    (hc : o.op = .call c) (hcal : c.callee = .value (.func f)) (hfn : P.funcs[f]? = some fn) (hb : fn.body.isSome = true) (hname : (fn.name == "runtime.NumGoroutine") = false)
    (hcall : CallsR P f (c.args.map a.eval) w R) (h : ∀ v w', R v w' → WpR P (.inRegion ops rest) Q (a.put o.dst v) w') : WpR P (.inRegion ops (i :: rest)) Q a w := by
  intro b k cs S hk hf k1 k2 k3
  have hst : ∀ u, ∃ es, (∀ e ∈ es, Ev0 e) ∧ stepG P true (G (b.at a (.inRegion ops (i :: rest) :: k)) cs) u = .go (G (Frame.enter P f (c.args.map a.eval) .normal) (b.at a (.inRegion ops (i :: rest) :: k) :: cs)) u es := by
    intro u
    have hrun := call_run (a := a) hc hcal hfn hb hname u
    have hop : opOk P (fun _ => true) o = true := by
      simp only [opOk, hc, callOk, hcal, hfn, hb, hname, Bool.not_false, Bool.and_self]
    have hev := calm_evs (opOk_calm (L := fun _ => true) hop (ρ := a.eval) (fun _ => rfl)) u #[] (by simp)
    refine ⟨_, hush_seen (P := P) (fn := b.fn) hev, ?_⟩
    have hk' : (b.kind == CallKind.early) = false := by rw [hk]; decide
    rw [stepG_oper ho hw]
    simp [stepG.apply, hrun, G, Frame.at, hk', GStep.after]
  refine .still rfl hst (hcall _ cs S fun v w' hv => ?_)
  have hfin : (b.at a (.inRegion ops (i :: rest) :: k)).finish v = b.at (a.put o.dst v) (.inRegion ops rest :: k) := by rw [Frame.finish_at, ho]; rfl
  rw [hfin]
  exact h v w' hv b k cs S hk hf k1 k2 k3

/-- A function's contract in company, from its body. -/
theorem callsR_of {f : FuncId} {fn : Func} {c : Code} {args : Array Value} {R : Value → World → Prop} (hf : P.funcs[f]? = some fn) (hb : fn.body = some c) (hres : resFn fn = true)
    (h : WpR P (.code c) (fun e a' w' => (e = .ret ∨ e = .normal) ∧ ∃ v, (∀ u, (results fn a'.tmps).run P u = .ok v u) ∧ R v w') { tmps := args ++ Array.replicate (fn.ntmps - args.size) undef, defers := [] } w) : CallsR P f args w R := by
  intro c0 cs S k
  have henter : Frame.enter P f args .normal = (base f).at { tmps := args ++ Array.replicate (fn.ntmps - args.size) undef, defers := [] } [.code c] := by
    simp [Frame.enter, Frame.at, hf, hb, base]
  rw [henter]
  have leave : ∀ a' w' todo v, a'.defers = [] → (∀ u, (results fn a'.tmps).run P u = .ok v u) → R v w' → ReachR P S (G { (base f).at a' todo with mode := .returning } (c0 :: cs)) w' := by
    intro a' w' todo v hd hv hR
    obtain ⟨v', hv'⟩ := res_pure hres a'.tmps
    have e : v' = v := by
      have := hv w'
      rw [hv'] at this
      simp only [Sem.run, Result.ok.injEq] at this
      exact this.1
    subst e
    refine .ctl (g' := G (c0.finish v') cs) rfl (fun u => ?_) (k v' w' hR)
    simp [G, stepG, unwind, Frame.at, base, hd, hf, hv', Sem.run, doReturn, seen, GStep.after]
  refine h (base f) [] (c0 :: cs) S rfl ⟨fn, hf, hres⟩ (fun a' w' hd hq => ?_) (fun a' w' todo hd hq => ?_) (fun id a' w' hd hq => ?_)
  · obtain ⟨_, v, hv, hR⟩ := hq
    exact .ctl (g' := G { (base f).at a' [] with mode := .returning } (c0 :: cs)) rfl (fun u => by simp [G, stepG, stepG.exec, Frame.at, base]) (leave a' w' [] v hd hv hR)
  · obtain ⟨_, v, hv, hR⟩ := hq
    exact leave a' w' todo v hd hv hR
  · rcases hq.1 with h | h <;> cases h
end
end Go.Proofs.Ytiacfaeanlkalaa
