/- A walk made for one goroutine alone is carried over to a machine of many, part G. No program. -/
import Derived.Test.YtiacfaeanlkalaaCmF
import Derived.KernelRfl
namespace Go.Proofs.Ytiacfaeanlkalaa
set_option maxRecDepth 100000
open Go.Conc

/-- A goroutine's own run, the tape's count turned ahead of each step: to a stop. -/
inductive Runs (P : Program) (D : World → World → Array Event → Prop) (Stop : Goroutine → World → Prop) : Goroutine → World → Prop
  | stop {g : Goroutine} {w : World} (h : Stop g w) : Runs P D Stop g w
  | step {g : Goroutine} {w : World} (hr : g.status = .running) (f : Nat → Goroutine × World × Array Event)
      (h : ∀ d, stepG P true g (w.at d) = .go (f d).1 (f d).2.1 (f d).2.2 ∧ D (w.at d) (f d).2.1 (f d).2.2) (k : ∀ d, Runs P D Stop (f d).1 (f d).2.1) : Runs P D Stop g w

def Hush (_ _ : World) (es : Array Event) : Prop := ∀ e ∈ es, Ev0 e

theorem Runs.mono {P : Program} {D : World → World → Array Event → Prop} {S S' : Goroutine → World → Prop} {g : Goroutine} {w : World} (h : Runs P D S g w) (hs : ∀ g w, S g w → S' g w) : Runs P D S' g w := by
  induction h with
  | stop h => exact .stop (hs _ _ h)
  | step hr f h _ ih => exact .step hr f h ih
theorem Runs.trans {P : Program} {D : World → World → Array Event → Prop} {S S' : Goroutine → World → Prop} {g : Goroutine} {w : World} (h : Runs P D S g w) (hs : ∀ g w, S g w → Runs P D S' g w) : Runs P D S' g w := by
  induction h with
  | stop h => exact hs _ _ h
  | step hr f h _ ih => exact .step hr f h ih

/-! ### the lone run that goes with it -/
def stopItem : Item := .extern "!" #[]
def door (P : Program) : Frame := { fn := P.funcs.size, tmps := #[], todo := [.call default false "fmt's door" #[]], defers := [], mode := .run, kind := .normal }
theorem closed_stop : Closed [stopItem] := ⟨fun _ => rfl, fun _ => rfl⟩

/-- the machine of one goroutine -/
def solo1 (g : Goroutine) (w : World) : Machine := lone g.frame g.callers w

section
variable {P : Program}
theorem solo1_go {g g' : Goroutine} {w w' : World} {es : Array Event} (hg : g = G g.frame g.callers) (hg' : g' = G g'.frame g'.callers) (h : stepG P true g w = .go g' w' es) : step P (solo1 g w) = .next (solo1 g' w') := by
  refine step_lone_go ?_
  rw [hg] at h
  rw [hg'] at h
  show (stepG P true (G g.frame g.callers) w).bare = .go (G g'.frame g'.callers) w'
  rw [h]; rfl
theorem solo1_end {g : Goroutine} {w : World} (hg : g = G g.frame g.callers) (h : IsEnd (stepG P true g w)) : ∀ m, step P (solo1 g w) ≠ .next m := by
  intro m hm
  obtain ⟨o, w', es, h⟩ := h
  rw [hg] at h
  have := step_lone_ended (P := P) (fr := g.frame) (cs := g.callers) (w := w) (o := o) (w' := w') (by show (stepG P true (G g.frame g.callers) w).bare = _; rw [h]; rfl)
  unfold solo1 at hm
  rw [this] at hm
  cases hm
theorem lay_G (fr : Frame) (Y : List Frame) (kk : List Item) (cs : List Frame) : lay fr Y kk cs = G (lay fr Y kk cs).frame (lay fr Y kk cs).callers := by cases Y <;> rfl

theorem runN_behind {n : Nat} {m m1 : Machine} (h : runN P n m = .next m1) (k : Nat) : runN P (n + k) m = runN P k m1 := by rw [runN_add, h]
end

/-- what a run to N has at n < N: a next machine -/
theorem runN_step {P : Program} {n N : Nat} {m m1 m2 : Machine} (h : runN P n m = .next m1) (hN : runN P N m = .next m2) (hlt : n < N) : ∃ m', step P m1 = .next m' ∧ runN P (n + 1) m = .next m' := by
  have e : runN P N m = runN P (N - n) m1 := by rw [← runN_behind h]; congr 1; omega
  obtain ⟨k, hk⟩ : ∃ k, N - n = k + 1 := ⟨N - n - 1, by omega⟩
  rw [e, hk] at hN
  unfold runN at hN
  cases hs : step P m1 with
  | next m' => exact ⟨m', rfl, by rw [runN_behind h]; simp [runN, hs]⟩
  | ended o w => rw [hs] at hN; cases hN

section
variable {P : Program} {L : FuncId → Bool}

/-- behind a final state the lone run has no lone machine with the door behind it any more -/
theorem final_lost {fr : Frame} {w : World} (ho : FrOk P L fr) (hf : fr.mode ≠ .run ∨ fr.todo = []) {k : Nat} {fr' : Frame} {w' : World} (hk : runN P (k + 1) (solo1 (lay fr [] [stopItem] [door P]) w) = .next (lone fr' [door P] w')) : False := by
  obtain ⟨fn0, hfn, hres⟩ := ho.fnok
  have hd := ho.defers
  have hr := ho.round
  have hkd := ho.kind
  have two : ∀ (g : Goroutine), g = G g.frame g.callers → g.callers = [] → IsEnd (stepG P true g w) → stepG P true (lay fr [] [stopItem] [door P]) w = .go g w #[] → False := by
    intro g hg hc he hs
    have h1 := solo1_go (lay_G _ _ _ _) hg hs
    unfold runN at hk
    rw [h1] at hk
    simp only at hk
    cases k with
    | zero =>
      simp only [runN, Stepped.next.injEq, solo1, lone, Machine.mk.injEq] at hk
      have := hk.2.1
      simp only [Array.mk.injEq, List.cons.injEq, Goroutine.mk.injEq] at this
      rw [hc] at this
      exact absurd this.1.2.1 (by simp)
    | succ k =>
      unfold runN at hk
      have := solo1_end hg he
      cases hs2 : step P (solo1 g w) with
      | next m => exact this m hs2
      | ended o w2 => rw [hs2] at hk; cases hk
  cases hm : fr.mode with
  | run =>
    have ht : fr.todo = [] := hf.resolve_left (fun h => h hm)
    have he : IsEnd (stepG P true (lay fr [] [stopItem] [door P]) w) := by
      have hx : Extern.next "!" = none := by kernel_rfl
      obtain ⟨fn, tmps, todo, defers, mode, kind, ro⟩ := fr
      simp only at hm ht hr hd
      subst hm ht hr hd
      simp [lay, plus, G, stepG, stepG.exec, stopItem, hx]
      exact isEnd _ _ _
    unfold runN at hk
    have := solo1_end (lay_G _ _ _ _) he
    cases hs2 : step P (solo1 (lay fr [] [stopItem] [door P]) w) with
    | next m => exact this m hs2
    | ended o w2 => rw [hs2] at hk; cases hk
  | returning =>
    obtain ⟨v, hv⟩ := res_pure hres fr.tmps
    refine two (G ((door P).finish v) []) rfl rfl ?_ ?_
    · have hx : Extern.next "fmt's door" = none := by kernel_rfl
      simp [door, Frame.finish, G, stepG, stepG.exec, hx]
      exact isEnd _ _ _
    · simp [lay, plus, G, stepG, unwind, hm, hd, hfn, hv, Sem.run, doReturn, hkd, seen, GStep.after]
  | panicking ch =>
    refine two (G ((door P).raise ch) []) rfl rfl ?_ ?_
    · have hx : ("fmt's door".startsWith "fmt's door") = true := by kernel_rfl
      simp [door, Frame.raise, G, stepG, unwind, Frame.catches, hx]
      exact isEnd _ _ _
    · simp [lay, plus, G, stepG, unwind, hm, hd, hfn, Frame.catches]

theorem agree_self' {w w' : World} (_ : Trk w w') : Agree w w' w.tape w.drawn := fun i q h1 _ => by rw [show w.drawn + (i - w.drawn) = i by omega]

/-- a piece's state: its frames, the world -/
structure St where
  fr : Frame
  Y : List Frame
  w : World

/-- ████ THE BRIDGE: a calm stack that comes lone, on whatever tape, to a target, comes there in company. ████ -/
theorem runs_of_lone (hL : ∀ f, L f = true → fnOk P L f = true) (hE : NoEarly P) {fr : Frame} {Y : List Frame} (ho : StOk P L fr Y) (w : World) (kk : List Item) (cs : List Frame)
    (Tgt : (Nat → Question → Nat) → Nat → Frame → World → Prop) (Stop : Goroutine → World → Prop)
    (hlone : ∀ τ δ, ∃ N fr' w', runN P N (solo1 (lay fr Y [stopItem] [door P]) (re w τ δ)) = .next (lone fr' [door P] w') ∧ Tgt τ δ fr' w')
    (htgt : ∀ τ δ fr' w' δ', FrOk P L fr' → Tgt τ δ (plus fr' [stopItem]) (re w' τ δ') → w'.tape = w.tape → Stop (lay fr' [] kk cs) w') :
    Runs P Hush Stop (lay fr Y kk cs) w := by
  apply Classical.byContradiction
  intro hneg
  let Inv : St → Prop := fun s => StOk P L s.fr s.Y ∧ ¬ Runs P Hush Stop (lay s.fr s.Y kk cs) s.w
  let Fin : St → Prop := fun s => s.Y = [] ∧ (s.fr.mode ≠ .run ∨ s.fr.todo = [])
  let A : St → Nat × St → Prop := fun s x => Moves P (s.w.at x.1) x.2.w (lay s.fr s.Y) (lay x.2.fr x.2.Y) ∧ Inv x.2
  let B : St → Nat × St → Prop := fun s x => Trk (s.w.at x.1) x.2.w ∧ ∀ kk cs τ δ, Closed kk → Agree (s.w.at x.1) x.2.w τ δ → IsEnd (stepG P true (lay s.fr s.Y kk cs) (re (s.w.at x.1) τ δ))
  have next : ∀ s, Inv s → ¬ Fin s → ∃ x, A s x ∨ B s x := by
    intro s hs hf
    apply Classical.byContradiction
    intro hno
    refine hs.2 ?_
    have key : ∀ d, ∃ x : Goroutine × World × Array Event, (stepG P true (lay s.fr s.Y kk cs) (s.w.at d) = .go x.1 x.2.1 x.2.2 ∧ Hush (s.w.at d) x.2.1 x.2.2) ∧ Runs P Hush Stop x.1 x.2.1 := by
      intro d
      rcases st_step hL hE hs.1 hf (s.w.at d) with ⟨fr', Y', w', hok, hmv⟩ | ⟨w', ht, he⟩
      · have hr : Runs P Hush Stop (lay fr' Y' kk cs) w' := Classical.byContradiction fun hn => hno ⟨(d, ⟨fr', Y', w'⟩), .inl ⟨hmv, hok, hn⟩⟩
        obtain ⟨es, hes, hst⟩ := hmv.2 kk cs (s.w.at d).tape (s.w.at d).drawn (agree_self' hmv.1)
        refine ⟨(lay fr' Y' kk cs, w', es), ⟨?_, hes⟩, hr⟩
        have e : re w' (s.w.at d).tape ((s.w.at d).drawn + (w'.drawn - (s.w.at d).drawn)) = w' := by
          have h1 := hmv.1.1
          have h2 := hmv.1.2
          rw [← h1, show (s.w.at d).drawn + (w'.drawn - (s.w.at d).drawn) = w'.drawn by omega]
          rfl
        rw [e] at hst
        exact hst
      · exact absurd ⟨(d, ⟨s.fr, s.Y, w'⟩), .inr ⟨ht, he⟩⟩ hno
    refine .step ?_ (fun d => Classical.choose (key d)) (fun d => (Classical.choose_spec (key d)).1) (fun d => (Classical.choose_spec (key d)).2)
    cases s.Y <;> rfl
  classical
  -- the company's own sequence
  let nxt : St → Nat × St := fun s => if h : ∃ x, A s x ∨ B s x then Classical.choose h else (s.w.drawn, s)
  have nxt_trk : ∀ s, Trk (s.w.at (nxt s).1) (nxt s).2.w := by
    intro s
    show Trk (s.w.at (if h : ∃ x, A s x ∨ B s x then Classical.choose h else (s.w.drawn, s)).1) (if h : ∃ x, A s x ∨ B s x then Classical.choose h else (s.w.drawn, s)).2.w
    split
    · rename_i h
      rcases Classical.choose_spec h with ⟨hm, _⟩ | hb
      · exact hm.1
      · exact hb.1
    · exact Trk.refl _
  have nxt_ok : ∀ s, Inv s → ¬ Fin s → A s (nxt s) ∨ B s (nxt s) := by
    intro s hi hf
    have h := next s hi hf
    show A s (if h : ∃ x, A s x ∨ B s x then Classical.choose h else (s.w.drawn, s)) ∨ B s (if h : ∃ x, A s x ∨ B s x then Classical.choose h else (s.w.drawn, s))
    rw [dif_pos h]
    exact Classical.choose_spec h
  clear_value nxt
  let sq : Nat → St := fun n => Nat.rec ⟨fr, Y, w⟩ (fun _ s => (nxt s).2) n
  have sq0 : sq 0 = ⟨fr, Y, w⟩ := rfl
  have sqs : ∀ n, sq (n + 1) = (nxt (sq n)).2 := fun _ => rfl
  clear_value sq
  let dd : Nat → Nat := fun n => (nxt (sq n)).1
  have trk : ∀ n, Trk ((sq n).w.at (dd n)) (sq (n + 1)).w := fun n => by rw [sqs]; exact nxt_trk (sq n)
  have tape : ∀ n, (sq n).w.tape = w.tape := by
    intro n
    induction n with
    | zero => rw [sq0]
    | succ n ih => rw [(trk n).1]; exact ih
  let δ : Nat → Nat := fun n => Nat.rec 0 (fun n x => x + ((sq (n + 1)).w.drawn - dd n)) n
  have δ0 : δ 0 = 0 := rfl
  have δs : ∀ n, δ (n + 1) = δ n + ((sq (n + 1)).w.drawn - dd n) := fun _ => rfl
  clear_value δ
  have mono : ∀ n m, n ≤ m → δ n ≤ δ m := by
    intro n m h
    induction h with
    | refl => exact Nat.le_refl _
    | step _ ih => exact Nat.le_trans ih (by rw [δs]; omega)
  have uniq : ∀ i n m, δ n ≤ i → i < δ (n + 1) → δ m ≤ i → i < δ (m + 1) → n = m := by
    intro i n m h1 h2 h3 h4
    rcases Nat.lt_trichotomy n m with h | h | h
    · have := mono (n + 1) m h; omega
    · exact h
    · have := mono (m + 1) n h; omega
  let τ : Nat → Question → Nat := fun i q => if h : ∃ n, δ n ≤ i ∧ i < δ (n + 1) then w.tape (dd (Classical.choose h) + (i - δ (Classical.choose h))) q else 0
  have τeq : ∀ n i q, δ n ≤ i → i < δ (n + 1) → τ i q = w.tape (dd n + (i - δ n)) q := by
    intro n i q h1 h2
    have h : ∃ n, δ n ≤ i ∧ i < δ (n + 1) := ⟨n, h1, h2⟩
    show (if h : ∃ n, δ n ≤ i ∧ i < δ (n + 1) then w.tape (dd (Classical.choose h) + (i - δ (Classical.choose h))) q else 0) = _
    rw [dif_pos h]
    have hc := Classical.choose_spec h
    rw [uniq i _ n hc.1 hc.2 h1 h2]
  clear_value τ
  have agree : ∀ n, Agree ((sq n).w.at (dd n)) (sq (n + 1)).w τ (δ n) := by
    intro n i q h1 h2
    have h1' : dd n ≤ i := h1
    show τ (δ n + (i - dd n)) q = (sq n).w.tape i q
    rw [τeq n _ q (by omega) (by rw [δs]; omega), tape n]
    congr 1; omega
  obtain ⟨N, frN, wN, hN, hT⟩ := hlone τ 0
  have walk : ∀ n, n ≤ N → Inv (sq n) ∧ runN P n (solo1 (lay fr Y [stopItem] [door P]) (re w τ 0)) = .next (solo1 (lay (sq n).fr (sq n).Y [stopItem] [door P]) (re (sq n).w τ (δ n))) := by
    intro n
    induction n with
    | zero => exact fun _ => ⟨by rw [sq0]; exact ⟨ho, hneg⟩, by rw [sq0, δ0]; rfl⟩
    | succ n ih =>
      intro hn
      obtain ⟨hI, hr⟩ := ih (by omega)
      obtain ⟨m', hs, hr'⟩ := runN_step hr hN (by omega)
      by_cases hf : Fin (sq n)
      · exfalso
        have e : runN P N (solo1 (lay fr Y [stopItem] [door P]) (re w τ 0)) = runN P (N - n) (solo1 (lay (sq n).fr (sq n).Y [stopItem] [door P]) (re (sq n).w τ (δ n))) := by rw [← runN_behind hr]; congr 1; omega
        rw [e, show N - n = (N - n - 1) + 1 by omega, hf.1] at hN
        exact final_lost hI.1.top hf.2 hN
      · rcases nxt_ok (sq n) hI hf with hA | hB
        · obtain ⟨hm, hi⟩ := hA
          rw [← sqs] at hm hi
          refine ⟨hi, ?_⟩
          obtain ⟨es, _, hst⟩ := hm.2 [stopItem] [door P] τ (δ n) (agree n)
          have h1 := solo1_go (lay_G _ _ _ _) (lay_G _ _ _ _) hst
          have e : δ n + ((sq (n + 1)).w.drawn - ((sq n).w.at (nxt (sq n)).1).drawn) = δ (n + 1) := by rw [δs]; rfl
          rw [e] at h1
          have h2 : step P (solo1 (lay (sq n).fr (sq n).Y [stopItem] [door P]) (re (sq n).w τ (δ n))) = .next (solo1 (lay (sq (n + 1)).fr (sq (n + 1)).Y [stopItem] [door P]) (re (sq (n + 1)).w τ (δ (n + 1)))) := h1
          rw [hs] at h2
          rw [hr', h2]
        · exfalso
          have hag := agree n
          have := hB.2 [stopItem] [door P] τ (δ n) closed_stop (by rw [← sqs]; exact hag)
          exact solo1_end (lay_G _ _ _ _) this m' hs
  obtain ⟨hI, hr⟩ := walk N (Nat.le_refl _)
  rw [hr] at hN
  simp only [Stepped.next.injEq, solo1, lone, Machine.mk.injEq, Array.mk.injEq, List.cons.injEq, Goroutine.mk.injEq] at hN
  obtain ⟨hw, ⟨⟨hfr, hcs, -⟩, -⟩, -⟩ := hN
  have hY : (sq N).Y = [] := by
    cases hY : (sq N).Y with
    | nil => rfl
    | cons c Y' =>
      rw [hY] at hcs
      have hl : ∀ (Y : List Frame) (c : Frame), 2 ≤ (layY [stopItem] [door P] (c :: Y)).length := by
        intro Y
        induction Y with
        | nil => intro c; simp [layY]
        | cons d Y ih => intro c; have := ih d; simp only [layY, List.length_cons] at this ⊢; omega
      have := hl Y' c
      rw [lay_cons] at hcs
      simp only [G] at hcs
      rw [hcs] at this
      simp at this
  rw [hY] at hfr
  refine hI.2 (.stop ?_)
  rw [hY]
  refine htgt τ 0 (sq N).fr (sq N).w (δ N) hI.1.top ?_ (tape N)
  rw [hw]
  have : plus (sq N).fr [stopItem] = frN := hfr
  rw [this]
  exact hT
end
end Go.Proofs.Ytiacfaeanlkalaa
