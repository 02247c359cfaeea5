/- A walk made for one goroutine alone is carried over to a machine of many, part D. No program. -/
import Derived.Test.YtiacfaeanlkalaaCmC
namespace Go.Proofs.Ytiacfaeanlkalaa
set_option maxRecDepth 100000
open Go.Conc

/-- a program's early initialisation stops the run -/
def IsEnd (s : GStep) : Prop := ∃ o w es, s = .ended o w es
theorem isEnd (o : Outcome) (w : World) (es : Array Event) : IsEnd (.ended o w es) := ⟨o, w, es, rfl⟩
def NoEarly (P : Program) : Prop := ∀ fr cs g w, IsEnd (early P fr cs none g w)

structure FrOk (P : Program) (L : FuncId → Bool) (fr : Frame) : Prop where
  fnok : ∃ fn, P.funcs[fr.fn]? = some fn ∧ resFn fn = true
  kind : fr.kind = .normal
  round : fr.roundOf = none
  defers : fr.defers = []
  items : ∀ it ∈ fr.todo, itemOk (opOk P L) it = true

def plus (fr : Frame) (kk : List Item) : Frame := { fr with todo := fr.todo ++ kk }
theorem plus_nil (fr : Frame) : plus fr [] = fr := by simp [plus]
def Closed (kk : List Item) : Prop := (∀ id, exitTo id kk = none) ∧ ∀ l, gotoIn l kk = none
theorem closed_nil : Closed [] := ⟨fun _ => rfl, fun _ => rfl⟩

/-- what is known of w₂, the end of a stretch from w -/
def Moves (P : Program) (w w' : World) (A B : List Item → List Frame → Goroutine) : Prop :=
  Trk w w' ∧ ∀ kk cs τ δ, Agree w w' τ δ → ∃ es, (∀ e ∈ es, Ev0 e) ∧ stepG P true (A kk cs) (re w τ δ) = .go (B kk cs) (re w' τ (δ + (w'.drawn - w.drawn))) es
def Ends (P : Program) (w : World) (A : List Item → List Frame → Goroutine) : Prop :=
  ∃ w', Trk w w' ∧ ∀ kk cs τ δ, Closed kk → Agree w w' τ δ → IsEnd (stepG P true (A kk cs) (re w τ δ))

theorem agree_self (w : World) : Agree w w w.tape w.drawn := fun i _ h1 h2 => by omega
theorem re_add_self (w : World) (τ : Nat → Question → Nat) (δ : Nat) : re w τ (δ + (w.drawn - w.drawn)) = re w τ δ := by simp

theorem seen_mem {P : Program} {fn : FuncId} {es : Array Event} : ∀ e ∈ seen P fn es, e ∈ es := by
  unfold seen
  have : ∀ (s : Bool × Array Event), (∀ e ∈ s.2, e ∈ es) → ∀ (l : List Event), (∀ e ∈ l, e ∈ es) → ∀ e ∈ (l.foldl (fun (x : Bool × Array Event) e => match e.loc with
      | .mark (.extern f) => ((P.funcs[f]?).any (·.norace), x.2)
      | _ => (x.1, if x.1 && !e.sync then x.2 else x.2.push e)) s).2, e ∈ es := by
    intro s hs l
    induction l generalizing s with
    | nil => exact fun _ => hs
    | cons a l ih =>
      intro hl
      rw [List.foldl_cons]
      refine ih _ ?_ fun e he => hl e (by simp [he])
      split
      · exact hs
      · simp only
        split
        · exact hs
        · intro e he
          rcases Array.mem_push.1 he with h | h
          · exact hs e h
          · exact h ▸ hl a (by simp)
  intro e he
  simp only [← Array.foldl_toList] at he
  exact this _ (by simp) es.toList (fun e h => by simpa using h) e he

theorem hush_seen {P : Program} {fn : FuncId} {es : Array Event} (h : ∀ e ∈ es, Ev0 e) : ∀ e ∈ seen P fn es, Ev0 e := fun e he => h e (seen_mem e he)

section
variable {P : Program} {L : FuncId → Bool} {fn : FuncId} {tmps : Array Value} {ops : Array Oper} {i : Nat} {rest : List Nat} {items : List Item} {s : Sem Next}

/-- the frame of an ordinary call that stands at an operation -/
abbrev atOp (fn : FuncId) (tmps : Array Value) (ops : Array Oper) (l : List Nat) (items : List Item) : Frame := { fn, tmps, todo := .inRegion ops l :: items, defers := [], mode := .run, kind := .normal }

theorem apply_calm (hs : Calm P (NextOk L) s) (w : World) :
    (∃ v w', True ∧ Trk w w' ∧ ∀ kk cs τ δ, Agree w w' τ δ → ∃ es, (∀ e ∈ es, Ev0 e) ∧ stepG.apply P true (atOp fn tmps ops (i :: rest) (items ++ kk)) cs none s (re w τ δ) = .go (G ((atOp fn tmps ops (i :: rest) (items ++ kk)).finish v) cs) (re w' τ (δ + (w'.drawn - w.drawn))) es) ∨
    (∃ f args w', L f = true ∧ Trk w w' ∧ ∀ kk cs τ δ, Agree w w' τ δ → ∃ es, (∀ e ∈ es, Ev0 e) ∧ stepG.apply P true (atOp fn tmps ops (i :: rest) (items ++ kk)) cs none s (re w τ δ) = .go (G (Frame.enter P f args .normal) (atOp fn tmps ops (i :: rest) (items ++ kk) :: cs)) (re w' τ (δ + (w'.drawn - w.drawn))) es) ∨
    (∃ ch w', Trk w w' ∧ ∀ kk cs τ δ, Agree w w' τ δ → ∃ es, (∀ e ∈ es, Ev0 e) ∧ stepG.apply P true (atOp fn tmps ops (i :: rest) (items ++ kk)) cs none s (re w τ δ) = .go (G { atOp fn tmps ops (i :: rest) (items ++ kk) with mode := .panicking ch } cs) (re w' τ (δ + (w'.drawn - w.drawn))) es) ∨
    (NoEarly P → ∃ w', Trk w w' ∧ ∀ kk cs τ δ, Agree w w' τ δ → IsEnd (stepG.apply P true (atOp fn tmps ops (i :: rest) (items ++ kk)) cs none s (re w τ δ))) := by
  obtain ⟨h1, h2, h3⟩ := calm_run hs w
  have hev := fun τ δ => calm_evs hs (re w τ δ) #[] (by simp)
  cases hr : s.run P w with
  | ok n w' =>
    rw [hr] at h1 h2 h3
    have key : ∀ τ δ, Agree w w' τ δ → s.run P (re w τ δ) = .ok n (re w' τ (δ + (w'.drawn - w.drawn))) := fun τ δ hA => h3 τ δ hA
    cases n with
    | value v =>
      refine .inl ⟨v, w', trivial, h2, fun kk cs τ δ hA => ?_⟩
      have hk := key τ δ hA
      exact ⟨seen P fn (s.runT P (re w τ δ) #[]).2, hush_seen (hev τ δ), by simp [stepG.apply, hk, GStep.after, G]⟩
    | skip =>
      refine .inl ⟨undef, w', ?_, h2, fun kk cs τ δ hA => ?_⟩
      · exact trivial
      have hk := key τ δ hA
      exact ⟨seen P fn (s.runT P (re w τ δ) #[]).2, hush_seen (hev τ δ), by simp [stepG.apply, hk, GStep.after, G]⟩
    | enter f args =>
      refine .inr (.inl ⟨f, args, w', h1, h2, fun kk cs τ δ hA => ?_⟩)
      have hk := key τ δ hA
      exact ⟨seen P fn (s.runT P (re w τ δ) #[]).2, hush_seen (hev τ δ), by simp [stepG.apply, hk, GStep.after, G]⟩
    | _ => exact h1.elim
  | halt h w' =>
    rw [hr] at h1 h2 h3
    have key : ∀ τ δ, Agree w w' τ δ → s.run P (re w τ δ) = .halt h (re w' τ (δ + (w'.drawn - w.drawn))) := fun τ δ hA => h3 τ δ hA
    cases h with
    | panic v =>
      refine .inr (.inr (.inl ⟨[{ v, recovered := false }], w', h2, fun kk cs τ δ hA => ?_⟩))
      have hk := key τ δ hA
      exact ⟨seen P fn (s.runT P (re w τ δ) #[]).2, hush_seen (hev τ δ), by simp [stepG.apply, hk, GStep.after, G, Frame.raise]⟩
    | stuck m =>
      refine .inr (.inr (.inr fun _ => ⟨w', h2, fun kk cs τ δ hA => ?_⟩))
      have hk := key τ δ hA
      simp only [stepG.apply, if_true, Sem.runT_fst, hk, GStep.after]; exact isEnd _ _ _
    | unsupported u =>
      refine .inr (.inr (.inr fun hE => ⟨w', h2, fun kk cs τ δ hA => ?_⟩))
      have hk := key τ δ hA
      cases u with
      | initOrder g =>
        obtain ⟨o, w'', es', h⟩ := hE (atOp fn tmps ops (i :: rest) (items ++ kk)) cs g (re w' τ (δ + (w'.drawn - w.drawn)))
        simp only [stepG.apply, if_true, Sem.runT_fst, hk, h, GStep.after]; exact isEnd _ _ _
      | _ => simp only [stepG.apply, if_true, Sem.runT_fst, hk, GStep.after]; exact isEnd _ _ _
    | _ => exact h1.elim
end
end Go.Proofs.Ytiacfaeanlkalaa
