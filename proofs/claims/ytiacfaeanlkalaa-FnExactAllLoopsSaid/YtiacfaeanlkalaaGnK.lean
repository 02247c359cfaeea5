/- A goroutine that sends numbers at a select until it is stopped, and who takes them, part K. No program. -/
import Derived.Test.YtiacfaeanlkalaaGnJ
import Derived.WalkKit
set_option linter.unusedSimpArgs false
namespace Go.Proofs.Ytiacfaeanlkalaa
set_option maxRecDepth 100000
open Go.Conc
open Go.ConcN (sumTo upd sumTo_upd upd_ne upd_same)

theorem commResult_go {c1 c2 : Nat} {v z1 zb : Value} : commResult #[scase c1 v z1, rcase c2 zb] .select ((0 : Nat) : Int) undef false = .tuple #[.int .i64 0, .bool false, zb] := by
  simp [commResult, scase, rcase, List.zipIdx_cons, goInt]
theorem commResult_stop {c1 c2 : Nat} {v z1 zb : Value} : commResult #[scase c1 v z1, rcase c2 zb] .select ((1 : Nat) : Int) (.bool true) true = .tuple #[.int .i64 1, .bool true, .bool true] := by
  simp [commResult, scase, rcase, List.zipIdx_cons, goInt]

/-! ### the operations that communicate -/
section
variable {P : Program} {ρ : Operand → Value} {o : Oper}
theorem run_select2 {x1 y1 x2 : Operand} {t1 t2 : TypeId} {c1 c2 : Nat} {v z1 z2 : Value} (hop : o.op = .select #[{ chan := x1, send := some y1, elem := t1 }, { chan := x2, send := none, elem := t2 }] true)
    (h1 : ρ x1 = .chan (some c1)) (hy : ρ y1 = v) (h2 : ρ x2 = .chan (some c2)) (hz1 : ∀ w, (zeroValue t1).run P w = .ok z1 w) (hz2 : ∀ w, (zeroValue t2).run P w = .ok z2 w) (w : World) :
    (execOp ρ o).run P w = .ok (.comm #[scase c1 v z1, rcase c2 z2] true .select) w := by
  unfold execOp
  simp [hop, go_sem, h1, hy, h2, scase, rcase, hz1, hz2]
theorem events_select2 {x1 y1 x2 : Operand} {t1 t2 : TypeId} {z1 : Value} (hop : o.op = .select #[{ chan := x1, send := some y1, elem := t1 }, { chan := x2, send := none, elem := t2 }] true)
    (hz1 : ∀ w, (zeroValue t1).run P w = .ok z1 w) (w : World) : (execOp ρ o).events P w #[] = #[] := by
  unfold execOp
  simp [hop, go_sem, hz1]
theorem run_recv1 {x : Operand} {t e : TypeId} {d : ChanDir} {c : Nat} {z : Value} (hop : o.op = .recv t x false) (h1 : ρ x = .chan (some c)) (ht : ∀ w, (underlying t).run P w = .ok (.chan d e) w) (hz : ∀ w, (zeroValue e).run P w = .ok z w) (w : World) :
    (execOp ρ o).run P w = .ok (.comm #[rcase c z] true (.recv false)) w := by
  unfold execOp
  simp [hop, go_sem, h1, rcase, ht, hz]
theorem events_recv1 {x : Operand} {t e : TypeId} {d : ChanDir} (hop : o.op = .recv t x false) (ht : ∀ w, (underlying t).run P w = .ok (.chan d e) w) (w : World) : (execOp ρ o).events P w #[] = #[] := by
  unfold execOp
  simp [hop, go_sem, ht]
theorem run_send1 {x y : Operand} {c : Nat} {v : Value} (hop : o.op = .send x y) (h1 : ρ x = .chan (some c)) (h2 : ρ y = v) (w : World) : (execOp ρ o).run P w = .ok (.comm #[scase c v (.tuple #[])] true .send) w := by
  unfold execOp
  simp [hop, go_sem, h1, h2, scase]
theorem events_send1 {x y : Operand} (hop : o.op = .send x y) (w : World) : (execOp ρ o).events P w #[] = #[] := by
  unfold execOp
  simp [hop, go_sem]
end

/-- it comes to its end normally, with these slots -/
def Norm (P : Program) (K : World → Prop) (D : World → World → Array Event → Prop) (f : FuncId) (c : Code) (a a1 : Act) : Prop := ∃ n, ∀ w, K w → c.wpC P false (RK K) D f n (fun e a' w' => e = .normal ∧ a' = a1 ∧ K w') a w

/-- a sender's text, piece by piece -/
structure Sends (P : Program) (f : FuncId) (c1 c2 N : Nat) (K : World → Prop) (z1 zb : Value) (nx : Int → Int) (x0 : Int) where
  i0 : Nat
  i1 : Nat
  i6 : Nat
  iA : Nat
  oA : Oper
  oD : Oper
  B : Code
  X0 : Code
  ops6 : Array Oper
  o6 : Oper
  B2 : Code
  R2 : Code
  args : Array Value
  fn : Func
  t : Tmp
  ats : Array TypeId
  vA : Value
  aA : Act
  TA : Int → Act → Prop
  TS : Int → Act → Prop
  hf : P.funcs[f]? = some fn
  hname : (fn.name == "runtime.NumGoroutine") = false
  hres : fn.results = #[]
  hrace : (P.funcs[f]?).any (·.norace) = false
  hb : fn.body = some (.seq (.region iA #[oA, oD] false) (.seq B (.block i0 (.loop (.seq (.block i1 (.seq X0 (.seq (.region i6 ops6 false) B2))) R2)))))
  hsz : ops6.size = 4
  ho6 : ops6[0]? = some o6
  wA : Region.wanted oA (yielded #[oA, oD] (args ++ Array.replicate (fn.ntmps - args.size) undef)) = true
  rA : ∀ u, (execOp (Act.eval { tmps := args ++ Array.replicate (fn.ntmps - args.size) undef, defers := [] }) oA).run P u = .ok (.value vA) u
  eA : ∀ u, (execOp (Act.eval { tmps := args ++ Array.replicate (fn.ntmps - args.size) undef, defers := [] }) oA).events P u #[] = #[]
  haA : aA = Act.put { tmps := args ++ Array.replicate (fn.ntmps - args.size) undef, defers := [] } oA.dst vA
  wD : Region.wanted oD (yielded #[oA, oD] aA.tmps) = true
  hD : oD.op = .defer { callee := .builtin .close, args := #[.tmp t], argTypes := ats }
  vD : aA.eval (.tmp t) = .chan (some c1)
  hB : ∃ a1, TA x0 a1 ∧ Norm P K (DS (StillG c1 N) N) f B (Act.put ⟨aA.tmps, dclose ats oD.type (.chan (some c1)) :: aA.defers⟩ oD.dst undef) a1
  hX0 : ∀ x a, TA x a → ∃ a1, TS x a1 ∧ Norm P K (DS (StillG c1 N) N) f X0 a a1
  wS : ∀ x a, TS x a → Region.wanted o6 (yielded ops6 a.tmps) = true
  rS : ∀ x a, TS x a → ∀ u, (execOp a.eval o6).run P u = .ok (.comm #[scase c1 (.int .i64 x) z1, rcase c2 zb] true .select) u
  eS : ∀ x a, TS x a → ∀ u, (execOp a.eval o6).events P u #[] = #[]
  hgo : ∀ x a, TS x a → ∃ a1 a2 a3, TA (nx x) a3 ∧ (∃ n, ∀ w, K w → OpsC P false (RK K) (DS (StillG c1 N) N) f ops6 [1, 2, 3] n (fun e a' w' => e = .normal ∧ a' = a1 ∧ K w') (a.put o6.dst (.tuple #[.int .i64 0, .bool false, zb])) w) ∧
    Norm P K (DS (StillG c1 N) N) f B2 a1 a2 ∧ Norm P K (DS (StillG c1 N) N) f R2 a2 a3
  hstop : ∀ x a, TS x a → ∃ a1 a2, a2.defers = [dclose ats oD.type (.chan (some c1))] ∧ (∃ n, ∀ w, K w → OpsC P false (RK K) (DS (StillG c1 N) N) f ops6 [1, 2, 3] n (fun e a' w' => e = .normal ∧ a' = a1 ∧ K w') (a.put o6.dst (.tuple #[.int .i64 1, .bool true, .bool true])) w) ∧
    (∃ n, ∀ w, K w → B2.wpC P false (RK K) (DS (StillG c1 N) N) f n (fun e a' w' => e = .ret ∧ a' = a2 ∧ K w') a1 w)

section
variable {P : Program} {f : FuncId} {c1 c2 N : Nat} {K : World → Prop} {z1 zb : Value} {nx : Int → Int} {x0 : Int} (Z : Sends P f c1 c2 N K z1 zb nx x0)

def Sends.LB : Code := .seq (.block Z.i1 (.seq Z.X0 (.seq (.region Z.i6 Z.ops6 false) Z.B2))) Z.R2
def Sends.rest : List Item := [.code Z.B2, .inBlock Z.i1, .code Z.R2, .inLoop Z.LB, .inBlock Z.i0]
def Sends.home (x : Int) (g : Goroutine) : Prop := ∃ a, Z.TS x a ∧ g = G ((baseD f).at a (.inRegion Z.ops6 [0, 1, 2, 3] :: Z.rest)) [grave P]

theorem Sends.top {x : Int} {a : Act} (h : Z.TA x a) : GoK P K (DS (StillG c1 N) N) (fun g _ => Z.home x g) (G ((baseD f).at a [.code Z.LB, .inLoop Z.LB, .inBlock Z.i0]) [grave P]) := by
  obtain ⟨a1, hS, hX⟩ := Z.hX0 x a h
  refine .step rfl ds_none (fun _ _ => stepG_seq) (.step rfl ds_none (fun _ _ => stepG_block) (.step rfl ds_none (fun _ _ => stepG_seq) ?_))
  refine .code_n (fn := f) rfl (by simp [baseD]) hX (.step rfl ds_none (fun _ _ => stepG_seq) (.step rfl ds_none (fun _ _ => stepG_region) (.stop fun w _ => ⟨a1, hS, ?_⟩)))
  rw [Z.hsz]
  rfl

theorem Sends.nexts {x : Int} {g : Goroutine} (h : Z.home x g) : GoK P K (DS (StillG c1 N) N) (fun g _ => Z.home (nx x) g) (g.finishComm P #[scase c1 (.int .i64 x) z1, rcase c2 zb] .select ((0 : Nat) : Int) undef false) := by
  obtain ⟨a, hS, rfl⟩ := h
  obtain ⟨a1, a2, a3, hT, h1, h2, h3⟩ := Z.hgo x a hS
  rw [finishComm_served, commResult_go, served_G, Z.ho6]
  refine .ops_n (fn := f) rfl (by simp [baseD]) h1 (.code_n (fn := f) rfl (by simp [baseD]) h2 (.step rfl ds_none (fun _ _ => stepG_inBlock) (.code_n (fn := f) rfl (by simp [baseD]) h3 (.step rfl ds_none (fun _ _ => stepG_inLoop) (Z.top hT)))))

theorem Sends.stops {x : Int} {g : Goroutine} (h : Z.home x g) : GoK P K (DS (StillG c1 N) N) (fun g' _ => g'.status = .running ∧ mayWake P g' = true ∧ ∃ g'' n, QuitsD P n 0 g'' ∧
      ∀ (w : World) a b, w.heap[c1]? = some (.chan 0 #[] false a b false) → stepG P false g' w = .go g'' (w.setChan c1 0 #[] true a b false) (closeEvents c1)) (g.finishComm P #[scase c1 (.int .i64 x) z1, rcase c2 zb] .select ((1 : Nat) : Int) (.bool true) true) := by
  obtain ⟨a, hS, rfl⟩ := h
  obtain ⟨a1, a2, hd, h1, h2⟩ := Z.hstop x a hS
  rw [finishComm_served, commResult_stop, served_G, Z.ho6]
  refine .ops_n (fn := f) rfl (by simp [baseD]) h1 (.code_r (fn := f) rfl (by simp [baseD]) h2 fun todo w _ => ⟨rfl, rfl, _, 2, quits_deferred (b := baseD f) (tmps := a2.tmps) (todo := todo) rfl Z.hf Z.hres, fun w a b hc => ?_⟩)
  exact stepG_unwind_close hd hc Z.hrace

theorem Sends.born : GoK P K (DS (StillG c1 N) N) (fun g _ => Z.home x0 g) (born P (dcall f Z.args)) := by
  obtain ⟨a1, hT, hB⟩ := Z.hB
  have hk : (baseD f).kind ≠ .early := by simp [baseD]
  refine .step rfl ds_none (fun w _ => stepG_birth Z.hf Z.hname Z.hb w) ?_
  refine .step rfl ds_none (fun _ _ => stepG_seq) ?_
  refine .step rfl ds_none (fun _ _ => stepG_region) ?_
  refine .step (g' := G ((baseD f).at Z.aA (.inRegion #[Z.oA, Z.oD] [1] :: .code (.seq Z.B (.block Z.i0 (.loop Z.LB))) :: [])) [grave P]) rfl ds_none (fun w _ => ?_) ?_
  · have := stepG_value (main := false) (a := { tmps := Z.args ++ Array.replicate (Z.fn.ntmps - Z.args.size) undef, defers := [] }) (b := baseD f) (k := [.code (.seq Z.B (.block Z.i0 (.loop Z.LB)))]) (cs := [grave P]) (w := w) (ops := #[Z.oA, Z.oD]) (o := Z.oA) (i := 0) (rest := [1]) rfl Z.wA hk (Z.rA w)
    rw [listed_none (Z.eA w), ← Z.haA] at this
    exact this
  refine .step rfl ds_none (fun w _ => stepG_defer_close (ops := #[Z.oA, Z.oD]) (o := Z.oD) (i := 1) (rest := []) rfl Z.wD hk Z.hD) ?_
  rw [Z.vD]
  refine .step rfl ds_none (fun _ _ => stepG_region_end) ?_
  refine .step rfl ds_none (fun _ _ => stepG_seq) ?_
  refine .code_n (fn := f) rfl hk hB ?_
  refine .step rfl ds_none (fun _ _ => stepG_block) ?_
  refine .step rfl ds_none (fun _ _ => stepG_loop) ?_
  exact Z.top hT

/-- ████ A SENDER'S TEXT MAKES A SENDER. ████ -/
def Sends.gen (m : Nat) (hm : 0 < m) (h1 : c1 < N) (h2 : c2 < N) (h12 : c1 ≠ c2) (hat : ∀ w d, K w → K (w.at d)) (hch : ∀ w c cap buf cl a b tm, c = c1 ∨ c = c2 → K w → K (w.setChan c cap buf cl a b tm)) : Gen P where
  c1 := c1
  c2 := c2
  m := m
  N := N
  K := K
  z1 := z1
  zb := zb
  home := Z.home
  nx := nx
  c1N := h1
  c2N := h2
  c12 := h12
  mpos := hm
  Kat := hat
  Kch := hch
  at_ := by
    rintro x g ⟨a, hS, rfl⟩
    refine ⟨rfl, fun w => ?_⟩
    rw [stepG_comm Z.ho6 (Z.wS x a hS) (by simp [baseD]) (Z.rS x a hS w), listed_none (Z.eS x a hS w)]
  next x g h := (Z.nexts h).start
  stop x g h := (Z.stops h).start
end
end Go.Proofs.Ytiacfaeanlkalaa
