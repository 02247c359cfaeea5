/- A walk made for one goroutine alone is carried over to a machine of many, part F. No program. -/
import Derived.Test.YtiacfaeanlkalaaCmE
namespace Go.Proofs.Ytiacfaeanlkalaa
set_option maxRecDepth 100000
open Go.Conc

section
variable {P : Program} {L : FuncId → Bool}

/-- the frames behind the one on top: the last one, the piece's own, has more to do behind the piece -/
def layY (kk : List Item) (cs : List Frame) : List Frame → List Frame
  | [] => cs
  | [b] => plus b kk :: cs
  | c :: Y => c :: layY kk cs Y
def lay (fr : Frame) (Y : List Frame) (kk : List Item) (cs : List Frame) : Goroutine := match Y with
  | [] => G (plus fr kk) cs
  | _ :: _ => G fr (layY kk cs Y)
theorem lay_cons (fr c : Frame) (Y : List Frame) (kk : List Item) (cs : List Frame) : lay fr (c :: Y) kk cs = G fr (layY kk cs (c :: Y)) := rfl

structure StOk (P : Program) (L : FuncId → Bool) (fr : Frame) (Y : List Frame) : Prop where
  top : FrOk P L fr
  below : ∀ c ∈ Y, FrOk P L c ∧ Wait c

/-- a call that has come to its end lays its value down in the frame behind it -/
theorem finish_wait {c : Frame} (h : FrOk P L c) (hw : Wait c) (v : Value) : ∃ c', FrOk P L c' ∧ c'.mode = .run ∧ ∀ kk, (plus c kk).finish v = plus c' kk := by
  obtain ⟨hm, ops, i, rest, k, ht⟩ := hw
  have hset := fun tmps todo mode hi => h.set tmps todo mode hi
  obtain ⟨hfn, hk, hr, hd, hi⟩ := h
  obtain ⟨fn, tmps, todo, defers, mode, kind, ro⟩ := c
  simp only at hm hk hr hd hi ht hset
  subst hm hk hr hd ht
  refine ⟨_, hset (putS tmps ops i v) (.inRegion ops rest :: k) .run (fun it hit => ?_), rfl, fun kk => ?_⟩
  · simp only [List.mem_cons] at hit
    rcases hit with rfl | hit
    · exact itemOk_tail (hi (.inRegion ops (i :: rest)) (by simp))
    · exact hi it (by simp [hit])
  · exact finish_atOp fn tmps ops i rest (k ++ kk) v

theorem raise_wait {c : Frame} (h : FrOk P L c) (hw : Wait c) (ch : List PanicEntry) : ∃ c', FrOk P L c' ∧ ∀ kk, (plus c kk).raise ch = plus c' kk := by
  obtain ⟨hm, _⟩ := hw
  refine ⟨{ c with mode := .panicking ch }, ⟨h.fnok, h.kind, h.round, h.defers, h.items⟩, fun kk => ?_⟩
  simp [Frame.raise, plus, hm]

theorem enter_ok (hL : ∀ f, L f = true → fnOk P L f = true) {f : FuncId} (hf : L f = true) (args : Array Value) : FrOk P L (Frame.enter P f args .normal) := by
  have h := hL f hf
  unfold fnOk at h
  cases hfn : P.funcs[f]? with
  | none => rw [hfn] at h; cases h
  | some fn =>
    rw [hfn] at h
    simp only [Bool.and_eq_true] at h
    cases hb : fn.body with
    | none => rw [hb] at h; exact absurd h.2 (by simp)
    | some c =>
      rw [hb] at h
      exact ⟨⟨fn, hfn, h.1⟩, rfl, rfl, rfl, fun it hit => by
        simp only [Frame.enter, hfn, hb, Option.bind_some, Option.getD_some, List.mem_singleton] at hit
        subst hit
        exact h.2⟩

/-- ████ A STEP OF A CALM STACK. ████ -/
theorem st_step (hL : ∀ f, L f = true → fnOk P L f = true) (hE : NoEarly P) {fr : Frame} {Y : List Frame} (ho : StOk P L fr Y) (hn : ¬ (Y = [] ∧ (fr.mode ≠ .run ∨ fr.todo = []))) (w : World) :
    (∃ fr' Y' w', StOk P L fr' Y' ∧ Moves P w w' (lay fr Y) (lay fr' Y')) ∨ Ends P w (lay fr Y) := by
  rcases Y with _ | ⟨c, Y⟩
  · -- the piece's own frame
    have hm : fr.mode = .run := Classical.byContradiction fun h => hn ⟨rfl, .inl h⟩
    have hne : fr.todo ≠ [] := fun h => hn ⟨rfl, .inr h⟩
    cases top_step hE ho.top hm hne w with
    | stay fr' w' hf h => exact .inl ⟨fr', [], w', ⟨hf, by simp⟩, h⟩
    | call f args w' hf hw h => exact .inl ⟨Frame.enter P f args .normal, [fr], w', ⟨enter_ok hL hf args, fun c hc => by simp at hc; subst hc; exact ⟨ho.top, hw⟩⟩, h⟩
    | ends h => exact .inr h
  · -- a frame above it
    have hb := ho.below c (by simp)
    have hY : ∀ x ∈ Y, FrOk P L x ∧ Wait x := fun x hx => ho.below x (by simp [hx])

    -- the frame behind, whatever is below it
    have hlay : ∀ c' : Frame, ∀ kk cs, ∃ k2, (∀ (T : Frame → List Frame → Goroutine), True) ∧ layY kk cs (c :: Y) = plus c k2 :: (match Y with | [] => cs | _ :: _ => layY kk cs Y) ∧ lay c' Y kk cs = G (plus c' k2) (match Y with | [] => cs | _ :: _ => layY kk cs Y) := by
      intro c' kk cs
      cases Y with
      | nil => exact ⟨kk, fun _ => trivial, rfl, rfl⟩
      | cons d Y => exact ⟨[], fun _ => trivial, by rw [plus_nil]; rfl, by rw [plus_nil]; rfl⟩
    by_cases hm : fr.mode = .run
    · by_cases hne : fr.todo = []
      · -- it has come to its end
        refine .inl ⟨{ fr with mode := .returning }, c :: Y, w, ⟨⟨ho.top.fnok, ho.top.kind, ho.top.round, ho.top.defers, ho.top.items⟩, ho.below⟩, moves_same fun kk cs w => ?_⟩
        have hr := ho.top.round
        have hd := ho.top.defers
        obtain ⟨fn, tmps, todo, defers, mode, kind, ro⟩ := fr
        simp only at hm hne hr hd
        subst hm hne hr hd
        simp [lay, G, stepG, stepG.exec]
      · have ht := top_step hE ho.top hm hne w
        have hp : ∀ kk cs, lay fr (c :: Y) kk cs = G (plus fr []) (layY kk cs (c :: Y)) := fun kk cs => by rw [plus_nil]; rfl
        cases ht with
        | stay fr' w' hf h =>
          refine .inl ⟨fr', c :: Y, w', ⟨hf, ho.below⟩, h.1, fun kk cs τ δ hA => ?_⟩
          obtain ⟨es, he, hs⟩ := h.2 [] (layY kk cs (c :: Y)) τ δ hA
          exact ⟨es, he, by rw [hp]; simp only at hs; rw [hs, plus_nil]; rfl⟩
        | call f args w' hf hw h =>
          refine .inl ⟨Frame.enter P f args .normal, fr :: c :: Y, w', ⟨enter_ok hL hf args, fun x hx => by
            simp only [List.mem_cons] at hx
            rcases hx with rfl | hx
            · exact ⟨ho.top, hw⟩
            · exact ho.below x (by simpa using hx)⟩, h.1, fun kk cs τ δ hA => ?_⟩
          obtain ⟨es, he, hs⟩ := h.2 [] (layY kk cs (c :: Y)) τ δ hA
          exact ⟨es, he, by rw [hp]; simp only at hs; rw [hs, plus_nil]; rfl⟩
        | ends h =>
          obtain ⟨w', ht, h⟩ := h
          exact .inr ⟨w', ht, fun kk cs τ δ _ hA => by rw [hp]; exact h [] (layY kk cs (c :: Y)) τ δ closed_nil hA⟩
    · have hr := ho.top.round
      have hd := ho.top.defers
      have hk := ho.top.kind
      obtain ⟨fn0, hfn, hres⟩ := ho.top.fnok
      cases hmode : fr.mode with
      | run => exact absurd hmode hm
      | returning =>
        obtain ⟨v, hv⟩ := res_pure hres fr.tmps
        obtain ⟨c', hc', _, hfin⟩ := finish_wait hb.1 hb.2 v
        refine .inl ⟨c', Y, w, ⟨hc', hY⟩, moves_same fun kk cs w => ?_⟩
        obtain ⟨k2, _, e1, e2⟩ := hlay c' kk cs
        rw [lay_cons, e1, e2, ← hfin]
        simp [G, stepG, unwind, hmode, hd, hfn, hv, Sem.run, doReturn, hk, seen, GStep.after]
      | panicking ch =>
        obtain ⟨c', hc', hfin⟩ := raise_wait hb.1 hb.2 ch
        refine .inl ⟨c', Y, w, ⟨hc', hY⟩, moves_same fun kk cs w => ?_⟩
        obtain ⟨k2, _, e1, e2⟩ := hlay c' kk cs
        rw [lay_cons, e1, e2, ← hfin]
        simp [G, stepG, unwind, hmode, hd, hfn, Frame.catches]
end
end Go.Proofs.Ytiacfaeanlkalaa
