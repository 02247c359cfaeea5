/- A goroutine that sends numbers at a select until it is stopped, and who takes them, part H. No program. -/
import Derived.Test.YtiacfaeanlkalaaGnG
import Derived.Conc.CompanyWords
import Derived.Conc.Listed
set_option linter.unusedSimpArgs false
namespace Go.Proofs.Ytiacfaeanlkalaa
set_option maxRecDepth 100000
open Go.Conc
open Go.ConcN (sumTo upd sumTo_upd upd_ne upd_same)

/-! ### a function whose company changes: beside leavers, beside its sender -/
/-- the others turn nothing of the world but the count of draws -/
def RW (w w' : World) : Prop := ∃ d, w' = w.at d
theorem RW.refl (w : World) : RW w w := ⟨w.drawn, rfl⟩
theorem RW.trans {a b c : World} (h : RW a b) (k : RW b c) : RW a c := by
  obtain ⟨d, rfl⟩ := h
  obtain ⟨e, rfl⟩ := k
  exact ⟨e, rfl⟩

inductive Mode (P : Program)
  | aside
  | gen (X : Gen P) (x : Int)

def Mode.C {P : Program} : Mode P → Comp P
  | .aside => Aside' P
  | .gen X x => GenC X x

section
variable {P : Program} {S S' S₁ : Goroutine → World → Prop} {g g' : Goroutine} {w : World} {m : Mode P}

theorem Mode.idle (m : Mode P) (w : World) : m.C.D w w #[] := by
  cases m with
  | aside => exact fun e he => by simp at he
  | gen X x => exact dg_idle w
theorem Mode.terms (m : Mode P) : Terms RW m.C.D := ⟨fun _ _ _ r s => RW.trans r s, m.idle⟩

theorem runs_of_goes {D : World → World → Array Event → Prop} : ∀ {n : Nat} {g : Goroutine} {w : World}, Goes P true RW D S n g w → Runs P D S g w := by
  intro n
  induction n with
  | zero => exact fun {g w} h => .stop (h w (RW.refl w))
  | succ n ih =>
    intro g w h
    rcases h with h | ⟨hr, hs⟩
    · exact .stop (h w (RW.refl w))
    · have key : ∀ d, ∃ x : Goroutine × World × Array Event, (stepG P true g (w.at d) = .go x.1 x.2.1 x.2.2 ∧ D (w.at d) x.2.1 x.2.2) ∧ Goes P true RW D S n x.1 x.2.1 := by
        intro d
        have := hs (w.at d) ⟨d, rfl⟩
        cases hst : stepG P true g (w.at d) with
        | go g' w' es => rw [hst, goes_go] at this; exact ⟨(g', w', es), ⟨rfl, this.1⟩, this.2⟩
        | _ => rw [hst] at this; exact this.elim
      exact .step hr (fun d => Classical.choose (key d)) (fun d => (Classical.choose_spec (key d)).1) (fun d => ih (Classical.choose_spec (key d)).2)

/-- however the count of draws stands: from this company the machine comes beside leavers, to where goroutine 0 stands so -/
def Reach (m : Mode P) (S : Goroutine → World → Prop) (g : Goroutine) (w : World) : Prop :=
  ∀ (d : Nat) (μ : Nat) (T : Trace) (gs : Array Goroutine) (sl : Option (Nat × Nat)), m.C.In μ T gs (w.at d) → gs[0]? = some g → Comes' (Aside' P) S gs (w.at d) sl T

theorem reach_aside : Reach (Mode.aside (P := P)) S g w = ReachR P S g w := rfl

theorem comes_chain {C C' : Comp P} {gs : Array Goroutine} {sl : Option (Nat × Nat)} {T : Trace} (h : Comes' C S gs w sl T)
    (k : ∀ g' w', S g' w' → ∀ (μ : Nat) (T : Trace) (gs : Array Goroutine) (sl : Option (Nat × Nat)), C.In μ T gs w' → gs[0]? = some g' → Comes' C' S' gs w' sl T) : Comes' C' S' gs w sl T := by
  obtain ⟨N, gs1, g1, w1, sl1, T1, μ1, h1, h2, h3, h4⟩ := h
  obtain ⟨N2, gs2, g2, w2, sl2, T2, μ2, h5, h6, h7, h8⟩ := k g1 w1 h4 μ1 T1 gs1 sl1 h3 h2
  exact ⟨N + N2, gs2, g2, w2, sl2, T2, μ2, by rw [runNT_add, h1]; exact h5, h6, h7, h8⟩

theorem Reach.at (h : Reach m S g w) (d : Nat) : Reach m S g (w.at d) := fun d' => h d'
theorem Reach.rely {w' : World} (h : Reach m S g w) (r : RW w w') : Reach m S g w' := by obtain ⟨d, rfl⟩ := r; exact h.at d
theorem Reach.self (h : Reach m S g w) {μ : Nat} {T : Trace} {gs : Array Goroutine} {sl : Option (Nat × Nat)} (hI : m.C.In μ T gs w) (hg : gs[0]? = some g) : Comes' (Aside' P) S gs w sl T := by
  have := h w.drawn μ T gs sl (by rw [at_self]; exact hI) hg
  rwa [at_self] at this

theorem Reach.of_runs (h : ∀ d, Runs P m.C.D S₁ g (w.at d)) (k : ∀ g' w', S₁ g' w' → Reach m S g' w') : Reach m S g w := fun d _ _ _ _ hI hg =>
  comes_chain (m.C.walk (h d) hI hg) fun g' w' hs _ _ _ _ hI' hg' => (k g' w' hs).self hI' hg'

theorem Reach.of_goes {n : Nat} (h : Goes P true RW m.C.D S₁ n g w) (k : ∀ g' w', S₁ g' w' → Reach m S g' w') : Reach m S g w :=
  .of_runs (fun d => runs_of_goes (Goes.rely (R := RW) (fun _ _ _ r s => RW.trans r s) h (show RW w (w.at d) from ⟨d, rfl⟩))) k

/-- one step of control -/
theorem Reach.ctl (hr : g.status = .running) (h : ∀ u, stepG P true g u = .go g' u #[]) (k : Reach m S g' w) : Reach m S g w :=
  .of_goes (n := 1) (S₁ := fun x u => x = g' ∧ RW w u) (Goes.step hr fun u hu => by rw [h u, goes_go]; exact ⟨m.idle u, fun u' hu' => ⟨rfl, hu.trans hu'⟩⟩) (by
    rintro x u ⟨rfl, hu⟩
    exact k.rely hu)

/-- ████ a piece of code of a function whose company changes ████ -/
def WpM (fn : FuncId) (m : Mode P) (it : Item) (Q : Exit → Mode P → Act → World → Prop) (a : Act) (w : World) : Prop :=
  ∀ (b : Frame) (k : List Item) (cs : List Frame) (S : Goroutine → World → Prop), b.kind = .normal → b.fn = fn →
    (∀ m' a' w', Q .normal m' a' w' → Reach m' S (G (b.at a' k) cs) w') →
    (∀ m' a' w' todo, Q .ret m' a' w' → Reach m' S (G { b.at a' todo with mode := .returning } cs) w') →
    (∀ id m' a' w', Q (.exit id) m' a' w' → ∃ k', exitTo id k = some k' ∧ Reach m' S (G (b.at a' k') cs) w') → Reach m S (G (b.at a (it :: k)) cs) w

variable {fn : FuncId} {a : Act} {Q Q' : Exit → Mode P → Act → World → Prop}

theorem WpM.mono {it : Item} (h : WpM fn m it Q a w) (hq : ∀ e m a w, Q e m a w → Q' e m a w) : WpM fn m it Q' a w :=
  fun b k cs S hb hf k1 k2 k3 => h b k cs S hb hf (fun m' a' w' q => k1 m' a' w' (hq _ _ _ _ q)) (fun m' a' w' t q => k2 m' a' w' t (hq _ _ _ _ q)) (fun id m' a' w' q => k3 id m' a' w' (hq _ _ _ _ q))

/-- what is asked behind the first of two -/
def thenM (M : Mode P → Act → World → Prop) (Q : Exit → Mode P → Act → World → Prop) : Exit → Mode P → Act → World → Prop
  | .normal => M
  | e => Q e
def inBlockM (id : Nat) (Q : Exit → Mode P → Act → World → Prop) : Exit → Mode P → Act → World → Prop
  | .exit j => if j = id then Q .normal else Q (.exit j)
  | e => Q e

theorem WpM.seq {x y : Code} (h : WpM fn m (.code x) (thenM (fun m' a' w' => WpM fn m' (.code y) Q a' w') Q) a w) : WpM fn m (.code (.seq x y)) Q a w := by
  intro b k cs S hb hf k1 k2 k3
  exact .ctl rfl (fun _ => stepG_seq) (h b (.code y :: k) cs S hb hf (fun m' a' w' hq => hq b k cs S hb hf k1 k2 k3) (fun m' a' w' todo hq => k2 m' a' w' todo hq) (fun id m' a' w' hq => k3 id m' a' w' hq))
theorem WpM.cond {c : Operand} {x y : Code} {t : Bool} (hc : a.eval c = .bool t) (h : WpM fn m (.code (if t then x else y)) Q a w) : WpM fn m (.code (.cond c x y)) Q a w :=
  fun b k cs S hb hf k1 k2 k3 => .ctl rfl (fun _ => stepG_cond hc) (h b k cs S hb hf k1 k2 k3)
theorem WpM.skip (h : Q .normal m a w) : WpM fn m (.code .skip) Q a w :=
  fun _ _ _ _ _ _ k1 _ _ => .ctl rfl (fun _ => stepG_skip) (k1 m a w h)
theorem WpM.exit {id : Nat} (h : Q (.exit id) m a w) : WpM fn m (.code (.exit id)) Q a w := by
  intro b k cs S _ _ _ _ k3
  obtain ⟨k', he, hk⟩ := k3 id m a w h
  exact .ctl rfl (fun _ => stepG_exit he) hk
theorem WpM.block {id : Nat} {c : Code} (h : WpM fn m (.code c) (inBlockM id Q) a w) : WpM fn m (.code (.block id c)) Q a w := by
  intro b k cs S hb hf k1 k2 k3
  refine .ctl rfl (fun _ => stepG_block) (h b (.inBlock id :: k) cs S hb hf (fun m' a' w' hq => .ctl rfl (fun _ => stepG_inBlock) (k1 m' a' w' hq)) (fun m' a' w' todo hq => k2 m' a' w' todo hq) (fun j m' a' w' hq => ?_))
  by_cases hj : j = id
  · subst hj
    rw [show inBlockM j Q (.exit j) m' a' w' = Q .normal m' a' w' by simp [inBlockM]] at hq
    exact ⟨k, by simp [exitTo], k1 m' a' w' hq⟩
  · rw [show inBlockM id Q (.exit j) m' a' w' = Q (.exit j) m' a' w' by simp [inBlockM, hj]] at hq
    obtain ⟨k', he, hk⟩ := k3 j m' a' w' hq
    exact ⟨k', by simp [exitTo, Ne.symm hj, he], hk⟩
/-- a loop: I n with n rounds at most to go -/
theorem WpM.loop {c : Code} (I : Nat → Mode P → Act → World → Prop) (round : ∀ n m a w, I n m a w → WpM fn m (.code c) (thenM (fun m' a' w' => ∃ j, j < n ∧ I j m' a' w') Q) a w) (n : Nat) (hI : I n m a w) : WpM fn m (.code (.loop c)) Q a w := by
  intro b k cs S hb hf k1 k2 k3
  refine .ctl rfl (fun _ => stepG_loop) ?_
  induction n using Nat.strongRecOn generalizing m a w with
  | _ n ih =>
    refine round n m a w hI b (.inLoop c :: k) cs S hb hf (fun m' a' w' hq => ?_) (fun m' a' w' todo hq => k2 m' a' w' todo hq) (fun id m' a' w' hq => k3 id m' a' w' hq)
    obtain ⟨j, hj, hI'⟩ := hq
    exact .ctl rfl (fun _ => stepG_inLoop) (ih j hj hI')
theorem WpM.ret (h : Q .ret m a w) : WpM fn m (.code .ret) Q a w :=
  fun b k cs _ _ _ _ k2 _ => .ctl (g' := G { b.at a (.code .ret :: k) with mode := .returning } cs) rfl (fun u => by simp [G, stepG, stepG.exec, Frame.at]) (k2 m a w _ h)
theorem WpM.region {id : Nat} {ops : Array Oper} (h : WpM fn m (.inRegion ops (List.range ops.size)) Q a w) : WpM fn m (.code (.region id ops false)) Q a w :=
  fun b k cs S hb hf k1 k2 k3 => .ctl rfl (fun _ => stepG_region) (h b k cs S hb hf k1 k2 k3)
theorem WpM.region_end {ops : Array Oper} (h : Q .normal m a w) : WpM fn m (.inRegion ops []) Q a w :=
  fun _ _ _ _ _ _ k1 _ _ => .ctl rfl (fun _ => stepG_region_end) (k1 m a w h)

/-- where a walk in one company has come -/
def CameS (m : Mode P) (Q : Exit → Mode P → Act → World → Prop) (b : Frame) (k : List Item) (cs : List Frame) (g : Goroutine) (u : World) : Prop :=
  ∃ a w, RW w u ∧ ((Q .normal m a w ∧ g = G (b.at a k) cs) ∨ (∃ todo, Q .ret m a w ∧ g = G { b.at a todo with mode := .returning } cs) ∨ ∃ id k', exitTo id k = some k' ∧ Q (.exit id) m a w ∧ g = G (b.at a k') cs)

theorem after_came {b : Frame} {k : List Item} {cs : List Frame} {M : Exit → Act → World → Prop} (hM : ∀ e a w, M e a w → (e = .normal ∨ e = .ret ∨ ∃ id, e = .exit id) ∧ Q e m a w) (hx : ∀ id a w, M (.exit id) a w → ∃ k', exitTo id k = some k') :
    ∀ e a' w', M e a' w' → After P true RW m.C.D (CameS m Q b k cs) 0 b k cs e a' w' := by
  intro e a' w' h
  obtain ⟨he, hq⟩ := hM e a' w' h
  rcases he with rfl | rfl | ⟨id, rfl⟩
  · exact fun u hu => ⟨a', w', hu, .inl ⟨hq, rfl⟩⟩
  · exact fun todo u hu => ⟨a', w', hu, .inr (.inl ⟨todo, hq, rfl⟩)⟩
  · obtain ⟨k', hk⟩ := hx id a' w' h
    exact ⟨k', hk, fun u hu => ⟨a', w', hu, .inr (.inr ⟨id, k', hk, hq, rfl⟩)⟩⟩

/-- operations that are walked in one company (the kit's judgement), to the region's end or on to where another takes over -/
theorem WpM.of_ops {ops : Array Oper} {l : List Nat} {n : Nat} {M : Act → World → Prop} (h : OpsC P true RW m.C.D fn ops l n (fun e a' w' => e = .normal ∧ M a' w') a w) (hM : ∀ a' w', M a' w' → Q .normal m a' w') : WpM fn m (.inRegion ops l) Q a w := by
  intro b k cs S hb hf k1 k2 k3
  refine .of_goes (h b k cs (CameS m Q b k cs) 0 hf (by rw [hb]; decide) (after_came (fun e a w hq => ⟨.inl hq.1, hq.1 ▸ hM _ _ hq.2⟩) (fun id a w hq => by cases hq.1))) ?_
  rintro g u ⟨a', w', hu, ⟨hq, rfl⟩ | ⟨todo, hq, rfl⟩ | ⟨id, k', hk, hq, rfl⟩⟩
  · exact (k1 m a' w' hq).rely hu
  · exact (k2 m a' w' todo hq).rely hu
  · obtain ⟨k'', hk', hr⟩ := k3 id m a' w' hq
    rw [hk] at hk'; cases hk'
    exact hr.rely hu
theorem WpM.of_code {c : Code} {n : Nat} {M : Act → World → Prop} (h : c.wpC P true RW m.C.D fn n (fun e a' w' => e = .normal ∧ M a' w') a w) (hM : ∀ a' w', M a' w' → Q .normal m a' w') : WpM fn m (.code c) Q a w := by
  intro b k cs S hb hf k1 k2 k3
  refine .of_goes (h b k cs (CameS m Q b k cs) 0 hf (by rw [hb]; decide) (after_came (fun e a w hq => ⟨.inl hq.1, hq.1 ▸ hM _ _ hq.2⟩) (fun id a w hq => by cases hq.1))) ?_
  rintro g u ⟨a', w', hu, ⟨hq, rfl⟩ | ⟨todo, hq, rfl⟩ | ⟨id, k', hk, hq, rfl⟩⟩
  · exact (k1 m a' w' hq).rely hu
  · exact (k2 m a' w' todo hq).rely hu
  · obtain ⟨k'', hk', hr⟩ := k3 id m a' w' hq
    rw [hk] at hk'; cases hk'
    exact hr.rely hu

/-- ONE OPERATION that yields a value. -/
theorem WpM.op {ops : Array Oper} {i : Nat} {rest : List Nat} {o : Oper} (ho : ops[i]? = some o) (hw : Region.wanted o (yielded ops a.tmps) = true)
    (h : ∀ u, RW w u → ∃ v u', (execOp a.eval o).run P u = .ok (.value v) u' ∧ m.C.D u u' (listed P fn a o u) ∧ WpM fn m (.inRegion ops rest) Q (a.put o.dst v) u') : WpM fn m (.inRegion ops (i :: rest)) Q a w := by
  intro b k cs S hb hf k1 k2 k3
  refine .of_goes (n := 1) (S₁ := fun g u => Reach m S g u) (Goes.step rfl fun u hu => ?_) (fun _ _ h => h)
  obtain ⟨v, u', hr, hD, hk⟩ := h u hu
  rw [stepG_value ho hw (by rw [hb]; decide) hr, goes_go, hf]
  exact ⟨hD, fun u2 h2 => (hk b k cs S hb hf k1 k2 k3).rely h2⟩
/-- .. or nothing -/
theorem WpM.op0 {ops : Array Oper} {i : Nat} {rest : List Nat} {o : Oper} (ho : ops[i]? = some o) (hw : Region.wanted o (yielded ops a.tmps) = true)
    (h : ∀ u, RW w u → ∃ u', (execOp a.eval o).run P u = .ok .skip u' ∧ m.C.D u u' (listed P fn a o u) ∧ WpM fn m (.inRegion ops rest) Q (a.put o.dst undef) u') : WpM fn m (.inRegion ops (i :: rest)) Q a w := by
  intro b k cs S hb hf k1 k2 k3
  refine .of_goes (n := 1) (S₁ := fun g u => Reach m S g u) (Goes.step rfl fun u hu => ?_) (fun _ _ h => h)
  obtain ⟨u', hr, hD, hk⟩ := h u hu
  rw [stepG_none ho hw (by rw [hb]; decide) hr, goes_go, hf]
  exact ⟨hD, fun u2 h2 => (hk b k cs S hb hf k1 k2 k3).rely h2⟩
end
end Go.Proofs.Ytiacfaeanlkalaa
