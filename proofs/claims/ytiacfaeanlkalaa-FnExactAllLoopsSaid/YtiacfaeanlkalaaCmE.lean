/- A walk made for one goroutine alone is carried over to a machine of many, part E. No program. -/
import Derived.Test.YtiacfaeanlkalaaCmD
namespace Go.Proofs.Ytiacfaeanlkalaa
set_option maxRecDepth 100000
open Go.Conc

section
variable {P : Program} {L : FuncId → Bool}

/-- a frame that waits for a call -/
def Wait (fr : Frame) : Prop := fr.mode = .run ∧ ∃ ops i rest k, fr.todo = .inRegion ops (i :: rest) :: k

theorem moves_same {w : World} {A B : List Item → List Frame → Goroutine} (h : ∀ kk cs w, stepG P true (A kk cs) w = .go (B kk cs) w #[]) : Moves P w w A B :=
  ⟨Trk.refl w, fun kk cs τ δ _ => ⟨#[], by simp, by rw [h, re_add_self]⟩⟩

def putS (tmps : Array Value) (ops : Array Oper) (i : Nat) (v : Value) : Array Value := match (ops[i]?).bind (·.dst) with | some d => tmps.setIfInBounds d v | none => tmps
theorem finish_atOp (fn : FuncId) (tmps : Array Value) (ops : Array Oper) (i : Nat) (rest : List Nat) (k : List Item) (v : Value) : (atOp fn tmps ops (i :: rest) k).finish v = atOp fn (putS tmps ops i v) ops rest k := by
  unfold putS
  cases h : (ops[i]?).bind (·.dst) <;> simp [Frame.finish, h]

/-- the outcomes of a step of the frame on top -/
inductive Top (P : Program) (L : FuncId → Bool) (fr : Frame) (w : World) : Prop
  | stay (fr' : Frame) (w' : World) (hf : FrOk P L fr') (h : Moves P w w' (fun kk cs => G (plus fr kk) cs) (fun kk cs => G (plus fr' kk) cs))
  | call (f : FuncId) (args : Array Value) (w' : World) (hf : L f = true) (hw : Wait fr) (h : Moves P w w' (fun kk cs => G (plus fr kk) cs) (fun kk cs => G (Frame.enter P f args .normal) (plus fr kk :: cs)))
  | ends (h : Ends P w (fun kk cs => G (plus fr kk) cs))

theorem FrOk.set {fr : Frame} (h : FrOk P L fr) (tmps : Array Value) (todo : List Item) (mode : FrameMode) (hi : ∀ it ∈ todo, itemOk (opOk P L) it = true) : FrOk P L { fr with tmps, todo, mode } :=
  ⟨h.fnok, h.kind, h.round, h.defers, hi⟩

theorem top_step (hE : NoEarly P) {fr : Frame} (ho : FrOk P L fr) (hm : fr.mode = .run) (hne : fr.todo ≠ []) (w : World) : Top P L fr w := by
  have hset := fun tmps todo mode hi => ho.set tmps todo mode hi
  obtain ⟨hfn, hk, hr, hd, hi⟩ := ho
  obtain ⟨fn, tmps, todo, defers, mode, kind, ro⟩ := fr
  simp only at hm hne hk hr hd hi hfn hset
  subst hm hk hr hd
  rcases todo with _ | ⟨it, items⟩
  · exact absurd rfl hne
  have hit : itemOk (opOk P L) it = true := hi it (by simp)
  have hits : ∀ x ∈ items, itemOk (opOk P L) x = true := fun x hx => hi x (by simp [hx])
  have stay : ∀ todo', (∀ x ∈ todo', itemOk (opOk P L) x = true) →
      (∀ kk cs w, stepG P true (G (plus ⟨fn, tmps, it :: items, [], .run, .normal, none⟩ kk) cs) w = .go (G (plus ⟨fn, tmps, todo', [], .run, .normal, none⟩ kk) cs) w #[]) → Top P L ⟨fn, tmps, it :: items, [], .run, .normal, none⟩ w :=
    fun todo' h1 h2 => .stay _ w (hset tmps todo' .run h1) (moves_same h2)
  have ends : (∀ kk cs w, Closed kk → IsEnd (stepG P true (G (plus ⟨fn, tmps, it :: items, [], .run, .normal, none⟩ kk) cs) w)) → Top P L ⟨fn, tmps, it :: items, [], .run, .normal, none⟩ w :=
    fun h => .ends ⟨w, Trk.refl w, fun kk cs τ δ hc _ => h kk cs _ hc⟩
  have h2 : ∀ {x y : Item}, itemOk (opOk P L) x = true → itemOk (opOk P L) y = true → ∀ z ∈ x :: y :: items, itemOk (opOk P L) z = true := fun hx hy z hz => by
    simp only [List.mem_cons] at hz
    rcases hz with rfl | rfl | hz
    · exact hx
    · exact hy
    · exact hits z hz
  have h1 : ∀ {x : Item}, itemOk (opOk P L) x = true → ∀ z ∈ x :: items, itemOk (opOk P L) z = true := fun hx z hz => by
    simp only [List.mem_cons] at hz
    rcases hz with rfl | hz
    · exact hx
    · exact hits z hz
  cases it with
  | inBlock id => exact stay items hits fun kk cs w => by simp [G, plus, stepG, stepG.exec]
  | inScope c => exact stay items hits fun kk cs w => by simp [G, plus, stepG, stepG.exec]
  | inLoop c => exact stay (.code c :: .inLoop c :: items) (h2 hit hit) fun kk cs w => by simp [G, plus, stepG, stepG.exec]
  | inRegion ops l =>
    rcases l with _ | ⟨i, rest⟩
    · exact stay items hits fun kk cs w => by simp [G, plus, stepG, stepG.exec]
    · by_cases hw : ((ops[i]?).map (Region.wanted · (yielded ops tmps))).getD false = true
      · cases ho : ops[i]? with
        | none => rw [ho] at hw; cases hw
        | some o =>
          have hop : opOk P L o = true := itemOk_head hit ho
          have hstep : ∀ kk cs w, stepG P true (G (plus ⟨fn, tmps, .inRegion ops (i :: rest) :: items, [], .run, .normal, none⟩ kk) cs) w =
              stepG.apply P true (atOp fn tmps ops (i :: rest) (items ++ kk)) cs none (execOp (atOp fn tmps ops (i :: rest) []).eval o) w := by
            intro kk cs w
            have hw' := hw
            rw [ho] at hw'
            have he : (Frame.eval ⟨fn, tmps, .inRegion ops (i :: rest) :: (items ++ kk), [], .run, .normal, none⟩) = (atOp fn tmps ops (i :: rest) []).eval := by funext x; cases x <;> rfl
            simp [G, plus, stepG, stepG.exec, stepG.oper, Frame.oper?, ho] at hw' ⊢
            simp [hw', he]
          have hc := opOk_calm hop (ρ := (atOp fn tmps ops (i :: rest) []).eval) (fun f => rfl)
          rcases apply_calm (fn := fn) (tmps := tmps) (ops := ops) (i := i) (rest := rest) (items := items) hc w with ⟨v, w', _, ht, h⟩ | ⟨f, args, w', hf, ht, h⟩ | ⟨ch, w', ht, h⟩ | h
          · refine .stay ⟨fn, putS tmps ops i v, .inRegion ops rest :: items, [], .run, .normal, none⟩ w' (hset _ _ _ (h1 (itemOk_tail hit))) ⟨ht, fun kk cs τ δ hA => ?_⟩
            obtain ⟨es, he, hst⟩ := h kk cs τ δ hA
            exact ⟨es, he, by rw [hstep, hst, finish_atOp]; rfl⟩
          · refine .call f args w' hf ⟨rfl, ops, i, rest, items, rfl⟩ ⟨ht, fun kk cs τ δ hA => ?_⟩
            obtain ⟨es, he, hst⟩ := h kk cs τ δ hA
            exact ⟨es, he, by rw [hstep, hst]; rfl⟩
          · refine .stay ⟨fn, tmps, .inRegion ops (i :: rest) :: items, [], .panicking ch, .normal, none⟩ w' (hset _ _ _ (h1 hit)) ⟨ht, fun kk cs τ δ hA => ?_⟩
            obtain ⟨es, he, hst⟩ := h kk cs τ δ hA
            exact ⟨es, he, by rw [hstep, hst]; rfl⟩
          · obtain ⟨w', ht, h⟩ := h hE
            exact .ends ⟨w', ht, fun kk cs τ δ _ hA => by rw [hstep]; exact h kk cs τ δ hA⟩
      · refine .stay ⟨fn, putS tmps ops i undef, .inRegion ops rest :: items, [], .run, .normal, none⟩ w (hset _ _ _ (h1 (itemOk_tail hit))) (moves_same fun kk cs w => ?_)
        have hw' : (((ops[i]?).map (Region.wanted · (yielded ops tmps))).getD false) = false := by simpa using hw
        have hf := finish_atOp fn tmps ops i rest (items ++ kk) undef
        simp only [G, plus, stepG, stepG.exec, List.cons_append, hw', Bool.false_eq_true, if_false]
        rw [hf]
  | code c =>
    have hcc : codeOk (opOk P L) c = true := hit
    cases c with
    | skip => exact stay items hits fun kk cs w => by simp [G, plus, stepG, stepG.exec]
    | label l => exact stay items hits fun kk cs w => by simp [G, plus, stepG, stepG.exec]
    | ret => exact .stay ⟨fn, tmps, .code .ret :: items, [], .returning, .normal, none⟩ w (hset _ _ _ (h1 hit)) (moves_same fun kk cs w => by simp [G, plus, stepG, stepG.exec])
    | seq a b =>
      simp only [codeOk, Bool.and_eq_true] at hcc
      exact stay (.code a :: .code b :: items) (h2 hcc.1 hcc.2) fun kk cs w => by simp [G, plus, stepG, stepG.exec]
    | block id b => exact stay (.code b :: .inBlock id :: items) (h2 hcc rfl) fun kk cs w => by simp [G, plus, stepG, stepG.exec]
    | loop b => exact stay (.code b :: .inLoop b :: items) (h2 hcc hcc) fun kk cs w => by simp [G, plus, stepG, stepG.exec]
    | scope b => exact stay (.code b :: .inScope b :: items) (h2 hcc hcc) fun kk cs w => by simp [G, plus, stepG, stepG.exec]
    | cond x a b =>
      simp only [codeOk, Bool.and_eq_true] at hcc
      have he : ∀ l : List Item, (Frame.eval ⟨fn, tmps, l, [], .run, .normal, none⟩ x) = (Frame.eval ⟨fn, tmps, [], [], .run, .normal, none⟩ x) := fun l => by cases x <;> rfl
      cases hv : Frame.eval ⟨fn, tmps, [], [], .run, .normal, none⟩ x with
      | bool t =>
        refine stay (.code (if t then a else b) :: items) (h1 (by cases t <;> simp [itemOk, hcc])) fun kk cs w => ?_
        simp [G, plus, stepG, stepG.exec, he, hv]
      | _ => refine ends fun kk cs w _ => ?_; simp [G, plus, stepG, stepG.exec, he, hv]; exact isEnd _ _ _
    | exit id =>
      cases he : exitTo id items with
      | some k' => exact stay k' (fun x hx => hits x (exitTo_mem he x hx)) fun kk cs w => by simp [G, plus, stepG, stepG.exec, exitTo_app kk he]
      | none => refine ends fun kk cs w hc => ?_; simp [G, plus, stepG, stepG.exec, exitTo_none he (hc.1 id)]; exact isEnd _ _ _
    | goto l =>
      cases he : gotoIn l items with
      | some k' => exact stay k' (gotoIn_ok hits he) fun kk cs w => by simp [G, plus, stepG, stepG.exec, gotoIn_app kk he]
      | none => refine ends fun kk cs w hc => ?_; simp [G, plus, stepG, stepG.exec, gotoIn_none he (hc.2 l)]; exact isEnd _ _ _
    | region id ops draw =>
      cases draw with
      | false => exact stay (.inRegion ops (List.range ops.size) :: items) (h1 (itemOk_region _ hit)) fun kk cs w => by simp [G, plus, stepG, stepG.exec]
      | true =>
        refine .stay ⟨fn, tmps, .inRegion ops (Region.schedule (P.follows .mixedOrders) ops (w.tape w.drawn (.order fn id))) :: items, [], .run, .normal, none⟩ { w with drawn := w.drawn + 1 } (hset _ _ _ (h1 (itemOk_region _ hit))) ⟨⟨rfl, Nat.le_succ _⟩, fun kk cs τ δ hA => ⟨#[], by simp, ?_⟩⟩
        have h0 : τ δ (.order fn id) = w.tape w.drawn (.order fn id) := by simpa using hA w.drawn (.order fn id) (Nat.le_refl _) (Nat.lt_succ_self _)
        simp [G, plus, stepG, stepG.exec, choose, Sem.run, Question.forced, Question.cut, re, h0]
    | rangeFunc _ _ _ _ => cases hcc
    | refuse _ => cases hcc
  | _ => cases hit

/-- a function's results, taken from its slots -/
theorem res_pure {fn : Func} (h : resFn fn = true) (tmps : Array Value) : ∃ v, results fn tmps = Sem.pure v := by
  unfold resFn at h
  have hl : fn.results = fn.results.toList.toArray := by simp
  split at h
  all_goals first | (cases h; done) | skip
  all_goals
    rename_i hx
    rw [hx] at hl
    unfold results
    rw [hl]
    simp
    first | exact ⟨_, rfl⟩ | skip
end
end Go.Proofs.Ytiacfaeanlkalaa
