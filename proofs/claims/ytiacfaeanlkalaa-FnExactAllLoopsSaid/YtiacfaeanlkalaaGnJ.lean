/- A goroutine that sends numbers at a select until it is stopped, and who takes them, part J. No program. -/
import Derived.Test.YtiacfaeanlkalaaGnI
import Derived.Conc.DeferLaws
set_option linter.unusedSimpArgs false
namespace Go.Proofs.Ytiacfaeanlkalaa
set_option maxRecDepth 100000
open Go.Conc
open Go.ConcN (sumTo upd sumTo_upd upd_ne upd_same)

section
variable {P : Program} {K : World → Prop} {D : World → World → Array Event → Prop} {Stop : Goroutine → World → Prop} {g g' : Goroutine}

/-- the others' doing is no more than K says: it comes to a stop -/
def GoK (P : Program) (K : World → Prop) (D : World → World → Array Event → Prop) (Stop : Goroutine → World → Prop) (g : Goroutine) : Prop := ∃ n, ∀ w, K w → Goes P false (RK K) D Stop n g w

theorem GoK.start (h : GoK P K D Stop g) : ∃ k w0, Goes P false (RK K) D Stop k g w0 := by
  obtain ⟨n, h⟩ := h
  by_cases hw : ∃ w, K w
  · obtain ⟨w, hw⟩ := hw
    exact ⟨n, w, h w hw⟩
  · exact ⟨0, default, fun w₁ h₁ => absurd ⟨w₁, h₁⟩ hw⟩
theorem GoK.stop (h : ∀ w, K w → Stop g w) : GoK P K D Stop g := ⟨0, fun _ _ w₁ h₁ => h w₁ h₁⟩
theorem GoK.step (hr : g.status = .running) (hD : ∀ w, D w w #[]) (hs : ∀ w, K w → stepG P false g w = .go g' w #[]) (h : GoK P K D Stop g') : GoK P K D Stop g := by
  obtain ⟨n, h⟩ := h
  exact ⟨n + 1, fun w _ => Goes.step hr fun u hu => by rw [hs u hu, goes_go]; exact ⟨hD u, h u hu⟩⟩

variable {fn : FuncId} {b : Frame} {k : List Item} {cs : List Frame} {a : Act}
theorem GoK.code_n {c : Code} {a1 : Act} (hb : b.fn = fn) (hk : b.kind ≠ .early) (h : ∃ n, ∀ w, K w → c.wpC P false (RK K) D fn n (fun e a' w' => e = .normal ∧ a' = a1 ∧ K w') a w) (hn : GoK P K D Stop (G (b.at a1 k) cs)) : GoK P K D Stop (G (b.at a (.code c :: k)) cs) := by
  obtain ⟨n, h⟩ := h
  obtain ⟨m, hn⟩ := hn
  refine ⟨m + n, fun w hw => wpC_goes (h w hw) hb hk ?_⟩
  rintro e a' w' ⟨rfl, rfl, hw'⟩
  exact hn w' hw'
theorem GoK.code_r {c : Code} {a1 : Act} (hb : b.fn = fn) (hk : b.kind ≠ .early) (h : ∃ n, ∀ w, K w → c.wpC P false (RK K) D fn n (fun e a' w' => e = .ret ∧ a' = a1 ∧ K w') a w) (hn : ∀ todo w, K w → Stop (G { b.at a1 todo with mode := .returning } cs) w) : GoK P K D Stop (G (b.at a (.code c :: k)) cs) := by
  obtain ⟨n, h⟩ := h
  refine ⟨0 + n, fun w hw => wpC_goes (h w hw) hb hk ?_⟩
  rintro e a' w' ⟨rfl, rfl, hw'⟩
  exact fun todo u hu => hn todo u hu
theorem GoK.ops_n {ops : Array Oper} {l : List Nat} {a1 : Act} (hb : b.fn = fn) (hk : b.kind ≠ .early) (h : ∃ n, ∀ w, K w → OpsC P false (RK K) D fn ops l n (fun e a' w' => e = .normal ∧ a' = a1 ∧ K w') a w) (hn : GoK P K D Stop (G (b.at a1 k) cs)) : GoK P K D Stop (G (b.at a (.inRegion ops l :: k)) cs) := by
  obtain ⟨n, h⟩ := h
  obtain ⟨m, hn⟩ := hn
  refine ⟨m + n, fun w hw => h w hw b k cs _ _ hb hk ?_⟩
  rintro e a' w' ⟨rfl, rfl, hw'⟩
  exact hn w' hw'

/-! ### birth, the deferred close, the grave -/
def grave (P : Program) : Frame := { (default : Frame) with fn := P.funcs.size, defers := [], mode := .panicking [goexitEntry] }

theorem stepG_birth {f : FuncId} {fn : Func} {c : Code} {args : Array Value} (hf : P.funcs[f]? = some fn) (hname : (fn.name == "runtime.NumGoroutine") = false) (hb : fn.body = some c) (w : World) :
    stepG P false (born P (dcall f args)) w = .go (G ((baseD f).at { tmps := args ++ Array.replicate (fn.ntmps - args.size) undef, defers := [] } [.code c]) [grave P]) w #[] := by
  have h1 : ¬ fn.name = "runtime.NumGoroutine" := by simpa using hname
  rw [← enter_atD args hf hb]
  simp [born, G, stepG, unwind, callDeferred, dcall, invoke, callFunc, hf, h1, hb, GStep.after, seen_none, grave]

/-- the deferred call of the builtin close -/
def dclose (ats : Array TypeId) (ty : TypeId) (v : Value) : Deferred := { target := .builtin .close ats ty #[false], args := #[v] }

theorem stepG_defer_close {ops : Array Oper} {i : Nat} {rest : List Nat} {o : Oper} {t : Tmp} {ats : Array TypeId} {main : Bool} {w : World} (ho : ops[i]? = some o) (hw : Region.wanted o (yielded ops a.tmps) = true) (hk : b.kind ≠ .early)
    (hop : o.op = .defer { callee := .builtin .close, args := #[.tmp t], argTypes := ats }) :
    stepG P main (G (b.at a (.inRegion ops (i :: rest) :: k)) cs) w = .go (G (b.at (Act.put ⟨a.tmps, dclose ats o.type (a.eval (.tmp t)) :: a.defers⟩ o.dst undef) (.inRegion ops rest :: k)) cs) w #[] := by
  have hr : (execOp a.eval o).run P w = .ok (.defer (dclose ats o.type (a.eval (.tmp t)))) w := by
    unfold execOp
    simp [hop, resolve, dclose, Act.eval]
  have he : (execOp a.eval o).events P w #[] = #[] := by
    unfold execOp
    simp [hop, resolve]
  have hfin : (b.at ⟨a.tmps, dclose ats o.type (a.eval (.tmp t)) :: a.defers⟩ (.inRegion ops (i :: rest) :: k)).finish undef = b.at (Act.put ⟨a.tmps, dclose ats o.type (a.eval (.tmp t)) :: a.defers⟩ o.dst undef) (.inRegion ops rest :: k) := by rw [Frame.finish_at, ho]; rfl
  have hk' : (b.kind == CallKind.early) = false := by simpa using hk
  rw [stepG_oper ho hw, ← hfin]
  simp [stepG.apply, hr, he, G, Frame.at, hk', GStep.after, seen_none]

theorem stepG_unwind_close {todo : List Item} {ds : List Deferred} {ats : Array TypeId} {ty : TypeId} {c x y : Nat} {main : Bool} {w : World} (hd : a.defers = dclose ats ty (.chan (some c)) :: ds) (hc : w.heap[c]? = some (.chan 0 #[] false x y false)) (hq : (P.funcs[b.fn]?).any (·.norace) = false) :
    stepG P main (G { b.at a todo with mode := .returning } cs) w = .go (G { b.at ⟨a.tmps, ds⟩ todo with mode := .returning } cs) (w.setChan c 0 #[] true x y false) (closeEvents c) := by
  have hr : (builtin .close ats ty #[false] #[.chan (some c)]).run P w = .ok (.value (.tuple #[])) (w.setChan c 0 #[] true x y false) := by
    simp [go_sem, run_close_open _ _ hc, World.setChan]
  have he : (builtin .close ats ty #[false] #[.chan (some c)]).events P w #[] = closeEvents c := by
    simp [go_sem, events_close_open _ _ hc, closeEvents]
  have hs : seen P b.fn (closeEvents c) = closeEvents c := seen_eq hq (by intro e he f; simp only [closeEvents, List.mem_toArray, List.mem_cons, List.not_mem_nil, or_false] at he; rcases he with rfl | rfl <;> simp)
  simp [G, stepG, unwind, callDeferred, Frame.at, hd, dclose, invoke, hr, he, hs, GStep.after]

theorem quits_grave : QuitsD P 1 0 (G (grave P) []) := by
  refine .inr ⟨rfl, { G (grave P) [] with status := .finished }, #[], by simp, fun w => ?_, rfl, rfl⟩
  have h : (default : Frame).todo = [] := rfl
  simp [G, grave, stepG, unwind, goexitEntry, Frame.catches, h]

theorem quits_deferred {fn : Func} {tmps : Array Value} {todo : List Item} (hn : b.kind = .deferred) (hf : P.funcs[b.fn]? = some fn) (hr : fn.results = #[]) :
    QuitsD P 2 0 (G { b.at ⟨tmps, []⟩ todo with mode := .returning } [grave P]) := by
  refine .ctl rfl (fun w => ?_) quits_grave
  have hv : results fn tmps = Sem.pure (.tuple #[]) := by simp [results, hr]; rfl
  simp [G, stepG, unwind, doReturn, Frame.at, hn, hf, hv, Sem.run, grave, goexitEntry, seen, GStep.after]
end
end Go.Proofs.Ytiacfaeanlkalaa
