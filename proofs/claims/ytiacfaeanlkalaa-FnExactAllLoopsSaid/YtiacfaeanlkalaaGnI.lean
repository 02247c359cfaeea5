/- A goroutine that sends numbers at a select until it is stopped, and who takes them, part I. No program. -/
import Derived.Test.YtiacfaeanlkalaaGnH
set_option linter.unusedSimpArgs false
namespace Go.Proofs.Ytiacfaeanlkalaa
set_option maxRecDepth 100000
open Go.Conc
open Go.ConcN (sumTo upd sumTo_upd upd_ne upd_same)

section
variable {P : Program} {S : Goroutine → World → Prop} {w : World} {fn : FuncId} {a : Act} {Q : Exit → Mode P → Act → World → Prop}

theorem comes_head {C : Comp P} {gs gs' : Array Goroutine} {w' : World} {sl sl' : Option (Nat × Nat)} {T T' : Trace} {N : Nat} (h : runNT P N (crowd gs w sl) T = (.next (crowd gs' w' sl'), T')) (k : Comes' C S gs' w' sl' T') : Comes' C S gs w sl T := by
  obtain ⟨N2, gs2, g2, w2, sl2, T2, μ2, h5, h6, h7, h8⟩ := k
  exact ⟨N + N2, gs2, g2, w2, sl2, T2, μ2, by rw [runNT_add, h]; exact h5, h6, h7, h8⟩

/-- the world behind a meeting at c -/
def metW (w : World) (d c k : Nat) (closed : Bool) : World := (w.at d).setChan c 0 #[] closed k k false

/-- goroutine 0 receives the sender's next number -/
theorem WpM.recv {X : Gen P} {x : Int} {ops : Array Oper} {i : Nat} {rest : List Nat} {o : Oper} {z : Value} (ho : ops[i]? = some o) (hw : Region.wanted o (yielded ops a.tmps) = true)
    (hr : ∀ u, (execOp a.eval o).run P u = .ok (.comm #[rcase X.c1 z] true (.recv false)) u) (he : ∀ u, (execOp a.eval o).events P u #[] = #[])
    (h : ∀ d k, WpM fn (.gen X (X.nx x)) (.inRegion ops rest) Q (a.put o.dst (.int .i64 x)) (metW w d X.c1 k false)) : WpM fn (.gen X x) (.inRegion ops (i :: rest)) Q a w := by
  intro b k cs S hb hf k1 k2 k3 d μ T gs sl hI h0
  obtain ⟨N, gs', d', j, μ', sl', T', hrun, h0', hG'⟩ := take (sl := sl) hI h0 rfl (fun u => by rw [stepG_comm ho hw (by rw [hb]; decide) (hr u), listed_none (he u)])
  refine comes_head hrun ?_
  rw [served_G, ho] at h0'
  exact (h d' j b k cs S hb hf k1 k2 k3).self (m := .gen X (X.nx x)) hG' h0'

/-- goroutine 0 starts the sender -/
theorem WpM.go {ops : Array Oper} {i : Nat} {rest : List Nat} {o : Oper} {dd : Deferred} {f : Fn} {c : Array Value} {x : Int} (XF : ∀ m, 0 < m → Gen P) (N : Nat) (hXm : ∀ m h, (XF m h).m = m) (hXN : ∀ m h, (XF m h).N = N)
    (ho : ops[i]? = some o) (hw : Region.wanted o (yielded ops a.tmps) = true) (hr : ∀ u, (execOp a.eval o).run P u = .ok (.spawn dd) u) (he : ∀ u, (execOp a.eval o).events P u #[] = #[]) (hd : dd.target = .fn f c)
    (hK : ∀ m h, (XF m h).K w) (o1 : ∀ m h, OpenC (XF m h).c1 w) (o2 : ∀ m h, OpenC (XF m h).c2 w) (hch : ∀ m h, ∃ k, (XF m h).Way ((XF m h).home x) k (born P dd))
    (h : ∀ m hm d, WpM fn (.gen (XF m hm) x) (.inRegion ops rest) Q (a.put o.dst undef) (w.at d)) : WpM fn .aside (.inRegion ops (i :: rest)) Q a w := by
  intro b k cs S hb hf k1 k2 k3 d μ T gs sl hI h0
  obtain ⟨n, gs', d', m, hm, μ', sl', T', hrun, h0', hG'⟩ := hire (w := w.at d) (sl := sl) (x := x) XF N hXm hXN hI h0 rfl
    (fun u => by rw [stepG_spawn ho hw (by rw [hb]; decide) (hr u) hd, listed_none (he u)]) (fun m h => (XF m h).Kat _ _ (hK m h)) o1 o2 hch
  exact comes_head hrun ((h m hm d' b k cs S hb hf k1 k2 k3).self (m := .gen (XF m hm) x) hG' h0')

/-- goroutine 0 tells the sender to stop, and waits for its close -/
theorem WpM.part {X : Gen P} {x : Int} {i7 i8 : Nat} {o1 o2 o3 o4 : Oper} {y : Code} {v1 v3 z2 z4 : Value} {a1 a2 a3 : Act}
    (hw1 : Region.wanted o1 (yielded #[o1, o2] a.tmps) = true) (hr1 : ∀ u, (execOp a.eval o1).run P u = .ok (.value v1) u) (he1 : ∀ u, (execOp a.eval o1).events P u #[] = #[]) (e1 : a1 = a.put o1.dst v1)
    (hw2 : Region.wanted o2 (yielded #[o1, o2] a1.tmps) = true) (hr2 : ∀ u, (execOp a1.eval o2).run P u = .ok (.comm #[scase X.c2 (.bool true) z2] true .send) u) (he2 : ∀ u, (execOp a1.eval o2).events P u #[] = #[]) (e2 : a2 = a1.put o2.dst undef)
    (hw3 : Region.wanted o3 (yielded #[o3, o4] a2.tmps) = true) (hr3 : ∀ u, (execOp a2.eval o3).run P u = .ok (.value v3) u) (he3 : ∀ u, (execOp a2.eval o3).events P u #[] = #[]) (e3 : a3 = a2.put o3.dst v3)
    (hw4 : Region.wanted o4 (yielded #[o3, o4] a3.tmps) = true) (hr4 : ∀ u, (execOp a3.eval o4).run P u = .ok (.comm #[rcase X.c1 z4] true (.recv false)) u) (he4 : ∀ u, (execOp a3.eval o4).events P u #[] = #[])
    (h : ∀ d d' k k', WpM fn .aside (.code y) Q (a3.put o4.dst z4) (metW (metW w d X.c2 k false) d' X.c1 k' true)) : WpM fn (.gen X x) (.code (.seq (.region i7 #[o1, o2] false) (.seq (.region i8 #[o3, o4] false) y))) Q a w := by
  intro b k cs S hb hf k1 k2 k3
  have hk : b.kind ≠ .early := by rw [hb]; decide
  refine .ctl rfl (fun _ => stepG_seq) (.ctl rfl (fun _ => stepG_region) ?_)
  refine .ctl (g' := G (b.at a1 (.inRegion #[o1, o2] [1] :: .code (.seq (.region i8 #[o3, o4] false) y) :: k)) cs) rfl (fun u => ?_) ?_
  · subst e1
    have := stepG_value (main := true) (b := b) (k := .code (.seq (.region i8 #[o3, o4] false) y) :: k) (cs := cs) (w := u) (ops := #[o1, o2]) (o := o1) (i := 0) (rest := [1]) rfl hw1 hk (hr1 u)
    rw [listed_none (he1 u)] at this
    exact this
  intro d μ T gs sl hI h0
  obtain ⟨N, gs', d', j, μ', sl', T', hrun, h0', hC⟩ := halted (sl := sl) hI h0 rfl (fun u => by
    have := stepG_comm (main := true) (b := b) (k := .code (.seq (.region i8 #[o3, o4] false) y) :: k) (cs := cs) (w := u) (ops := #[o1, o2]) (o := o2) (i := 1) (rest := []) rfl hw2 hk (hr2 u)
    rw [listed_none (he2 u)] at this
    exact this)
  refine comes_head hrun ?_
  rw [served_G] at h0'
  replace h0' : gs'[0]? = some (G (b.at a2 (.inRegion #[o1, o2] [] :: .code (.seq (.region i8 #[o3, o4] false) y) :: k)) cs) := by rw [h0', e2]; rfl
  have hst : ∀ u, stepG P true (G (b.at a3 (.inRegion #[o3, o4] [1] :: .code y :: k)) cs) u = .comm (G (b.at a3 (.inRegion #[o3, o4] [1] :: .code y :: k)) cs) #[rcase X.c1 z4] true (.recv false) u #[] := by
    intro u
    have := stepG_comm (main := true) (b := b) (k := .code y :: k) (cs := cs) (w := u) (ops := #[o3, o4]) (o := o4) (i := 1) (rest := []) rfl hw4 hk (hr4 u)
    rw [listed_none (he4 u)] at this
    exact this
  have hs : SilTo P X.c1 (G (b.at a3 (.inRegion #[o3, o4] [1] :: .code y :: k)) cs) z4 false 4 (G (b.at a2 (.inRegion #[o1, o2] [] :: .code (.seq (.region i8 #[o3, o4] false) y) :: k)) cs) := by
    refine ⟨rfl, _, fun _ => stepG_region_end, rfl, _, fun _ => stepG_seq, rfl, _, fun _ => stepG_region, rfl, G (b.at a3 (.inRegion #[o3, o4] [1] :: .code y :: k)) cs, fun u => ?_, ?_⟩
    · have := stepG_value (main := true) (b := b) (k := .code y :: k) (cs := cs) (w := u) (ops := #[o3, o4]) (o := o3) (i := 0) (rest := [1]) rfl hw3 hk (hr3 u)
      rw [listed_none (he3 u), ← e3] at this
      exact this
    · exact ⟨rfl, hst⟩
  obtain ⟨N2, gs2, d2, j2, μ2, sl2, T2, hrun2, h02, hA⟩ := last (sl := sl') hC h0' hs rfl hst
  refine comes_head hrun2 ?_
  rw [served_G] at h02
  refine Reach.self (m := .aside) (g := G (b.at (a3.put o4.dst z4) (.inRegion #[o3, o4] [] :: .code y :: k)) cs) (.ctl rfl (fun _ => stepG_region_end) (h d' d2 j j2 b k cs S hb hf k1 k2 k3)) hA ?_
  rw [h02]; rfl

/-- A function's contract in company, from its body: its results may lie in cells. -/
theorem callsR_of_wpM {f : FuncId} {fn : Func} {c : Code} {args : Array Value} {R : Value → World → Prop} (hf : P.funcs[f]? = some fn) (hb : fn.body = some c)
    (h : WpM (P := P) f .aside (.code c) (fun e m a' w' => e = .ret ∧ m = .aside ∧ a'.defers = [] ∧ ∃ v, (∀ u, RW w' u → (results fn a'.tmps).run P u = .ok v u ∧ ∀ e ∈ seen P f ((results fn a'.tmps).events P u #[]), Ev0 e) ∧ R v w') { tmps := args ++ Array.replicate (fn.ntmps - args.size) undef, defers := [] } w) : CallsR P f args w R := by
  intro c0 cs S k
  have henter : Frame.enter P f args .normal = (base f).at { tmps := args ++ Array.replicate (fn.ntmps - args.size) undef, defers := [] } [.code c] := by
    simp [Frame.enter, Frame.at, hf, hb, base]
  rw [henter, ← reach_aside]
  refine h (base f) [] (c0 :: cs) S rfl rfl (fun m' a' w' hq => by cases hq.1) (fun m' a' w' todo hq => ?_) (fun id m' a' w' hq => by cases hq.1)
  obtain ⟨_, rfl, hd, v, hv, hR⟩ := hq
  refine .of_goes (n := 1) (S₁ := fun x u => x = G (c0.finish v) cs ∧ RW w' u) (Goes.step rfl fun u hu => ?_) ?_
  · obtain ⟨hr, hes⟩ := hv u hu
    have hst : stepG P true (G { (base f).at a' todo with mode := .returning } (c0 :: cs)) u = .go (G (c0.finish v) cs) u (seen P f ((results fn a'.tmps).events P u #[])) := by
      simp [G, stepG, unwind, Frame.at, base, hd, hf, hr, doReturn, GStep.after]
    rw [hst, goes_go]
    exact ⟨hes, fun u' hu' => ⟨rfl, hu.trans hu'⟩⟩
  · rintro x u ⟨rfl, hu⟩
    have := k v w' hR
    rw [← reach_aside] at this
    exact this.rely hu
end
end Go.Proofs.Ytiacfaeanlkalaa
