/- A goroutine that sends numbers at a select until it is stopped, and who takes them, part C. No program. -/
import Derived.Test.YtiacfaeanlkalaaGnB
set_option linter.unusedSimpArgs false
namespace Go.Proofs.Ytiacfaeanlkalaa
set_option maxRecDepth 100000
open Go.Conc
open Go.ConcN (sumTo upd sumTo_upd upd_ne upd_same)

section
variable {P : Program} {X : Gen P} {T : Trace} {gs : Array Goroutine} {w : World} {q : Nat → Nat} {E : Goroutine → Prop} {x : Int} {h : Goroutine}

theorem offers_sel_s : offersAt (parked h (X.sel x) .select) X.c1 true = [0] := by
  have := X.c12
  simp [offersAt, parked, Gen.sel, scase, rcase, List.zipIdx_cons]
theorem offers_sel_r : offersAt (parked h (X.sel x) .select) X.c2 false = [1] := by
  have := X.c12
  simp [offersAt, parked, Gen.sel, scase, rcase, List.zipIdx_cons]
theorem offers_sel_1 : offersAt (parked h (X.sel x) .select) X.c1 false = [] := by
  have := X.c12
  simp [offersAt, parked, Gen.sel, scase, rcase, List.zipIdx_cons, this.symm]
theorem offers_sel_2 : offersAt (parked h (X.sel x) .select) X.c2 true = [] := by
  have := X.c12
  simp [offersAt, parked, Gen.sel, scase, rcase, List.zipIdx_cons, this]
theorem again_sel (h1 : OpenC X.c1 w) (h2 : OpenC X.c2 w) : (parked h (X.sel x) .select).again w = parked h (X.sel x) .select := by
  obtain ⟨k1, h1⟩ := h1
  obtain ⟨k2, h2⟩ := h2
  simp [Goroutine.again, parked, Gen.sel, scase, rcase, h1, h2]

theorem OpenC.at {c : Nat} (h : OpenC c w) (d : Nat) : OpenC c (w.at d) := h
theorem OpenC.set {c c' k : Nat} (h : OpenC c w) : OpenC c (w.setChan c' 0 #[] false k k false) := by
  obtain ⟨j, hj⟩ := h
  by_cases e : c' = c
  · subst e
    refine ⟨k, ?_⟩
    show (w.heap.setIfInBounds c' _)[c']? = _
    have hlt : c' < w.heap.size := (Array.getElem?_eq_some_iff.1 hj).1
    rw [Array.getElem?_setIfInBounds_self_of_lt hlt]
  · refine ⟨j, ?_⟩
    show (w.heap.setIfInBounds c' _)[c]? = _
    rw [Array.getElem?_setIfInBounds_ne e]; exact hj

/-- the child sits at its select, or is on its way there -/
def Gen.Sits (X : Gen P) (x : Int) (n : Nat) (g : Goroutine) : Prop := (∃ k, n = k + 1 ∧ X.Way (X.home x) k g) ∨ (n = 0 ∧ ∃ h, X.home x h ∧ g = parked h (X.sel x) .select)

/-- THE COMPANY OF THE SENDER, which offers x next -/
def GenIn (X : Gen P) (x : Int) (μ : Nat) (T : Trace) (gs : Array Goroutine) (w : World) : Prop :=
  ∃ q gm, Fx X T gs w q ∧ gs[X.m]? = some gm ∧ X.Sits x (q X.m) gm ∧ OpenC X.c1 w ∧ OpenC X.c2 w ∧ μ = sumTo gs.size q

theorem Sits.again {n : Nat} {g : Goroutine} (hs : X.Sits x n g) (hK : X.K w) (h1 : OpenC X.c1 w) (h2 : OpenC X.c2 w) : g.again w = g := by
  rcases hs with ⟨k, _, hw⟩ | ⟨_, h, _, rfl⟩
  · exact again_running w (.inl (Way.status (fun g hg => (X.at_ x g hg).1) hw hK))
  · exact again_sel h1 h2
theorem Sits.awake {n : Nat} {g : Goroutine} (hs : X.Sits x n g) (hK : X.K w) : awake g := by
  rcases hs with ⟨k, _, hw⟩ | ⟨_, h, _, rfl⟩
  · exact awake_of (.inl (Way.status (fun g hg => (X.at_ x g hg).1) hw hK))
  · exact awake_of (.inr (.inl rfl))

theorem Fx.fix (F : Fx X T gs w q) (h0 : ∀ a, gs[0]? = some a → a.again w = a) (hm : ∀ a, gs[X.m]? = some a → a.again w = a) : ∀ (i : Nat) (y : Goroutine), gs[i]? = some y → y.again w = y := by
  intro i y hy
  by_cases e0 : i = 0
  · subst e0; exact h0 y hy
  by_cases em : i = X.m
  · subst em; exact hm y hy
  exact again_running w (F.bg i y e0 em hy).status

/-- who offers something at a channel, seen while goroutine i takes its step: nobody but 0 and the child -/
theorem Fx.partners_nil (F : Fx X T gs w q) {i c : Nat} {b : Bool} (h0 : ∀ a, i ≠ 0 → gs[0]? = some a → offersAt a c b = []) (hm : ∀ a, i ≠ X.m → gs[X.m]? = some a → offersAt a c b = []) : partners (gs.setIfInBounds i ph) c b = [] :=
  Go.Conc.partners_nil fun j g hg => by
    rcases getElem?_stand gs i j g hg with ⟨_, rfl⟩ | ⟨hne, hg'⟩
    · exact offersAt_ph _ _
    · by_cases e0 : j = 0
      · subst e0; exact h0 g (Ne.symm hne) hg'
      by_cases em : j = X.m
      · subst em; exact hm g (Ne.symm hne) hg'
      exact F.quiet e0 em hg' c b
theorem Fx.partners_one (F : Fx X T gs w q) {i c j : Nat} {b : Bool} {g : Goroutine} {k : Nat} (hij : j ≠ i) (hg : gs[j]? = some g) (ho : offersAt g c b = [k]) (hoth : ∀ j', j' ≠ i → j' ≠ j → (j' = 0 ∨ j' = X.m) → False) : partners (gs.setIfInBounds i ph) c b = [(j, k)] := by
  rw [Go.Conc.partners_one (stand_get hij hg) fun j' g' hne hg' => ?_, ho]
  · rfl
  · rcases getElem?_stand gs i j' g' hg' with ⟨_, rfl⟩ | ⟨hne', hg''⟩
    · exact offersAt_ph _ _
    · by_cases e0 : j' = 0
      · exact (hoth j' hne' hne (.inl e0)).elim
      by_cases em : j' = X.m
      · exact (hoth j' hne' hne (.inr em)).elim
      exact F.quiet e0 em hg'' c b

theorem le_sum {m i : Nat} {q : Nat → Nat} (h : i < m) : q i ≤ sumTo m q := Go.ConcN.le_sumTo h

/-- the trace takes in what nobody touches anything by -/
theorem past_met {B : Nat} {Still : Loc → Prop} {Mem Loose : Nat → Prop} {t u : Trace} (H : PastH Still Mem Loose B 0 t) (hn : ∀ op ∈ u, op.act.touch? = none) (hq : ∀ g, ∀ op ∈ u, ∀ d, deafStep g d op = d) (hl : ∀ op ∈ u, op.act.low B) : PastH Still Mem Loose B 0 (t ++ u) := by
  refine ⟨fun said => noRace_appendMute (H.clean said) hn, fun i a ha hm => ?_, fun i a ha hw hS g hg => ?_, fun g hg => (Deaf_quiet (hq g)).trans (H.hears g hg), seen_app H.seen hl⟩
  · obtain ⟨y, hy, hya⟩ := touch_of ha
    rcases getElem?_append_cases hy with ⟨_, hy'⟩ | ⟨_, hyu⟩
    · exact PastG.old_known H (fun i => Knows.app u) hy' hya hm
    · rw [hn y hyu] at hya; cases hya
  · obtain ⟨y, hy, hya⟩ := touch_of ha
    rcases getElem?_append_cases hy with ⟨_, hy'⟩ | ⟨_, hyu⟩
    · exact (H.wrote i a (by rw [touchAt_of hy']; exact hya) hw hS g hg).app u
    · rw [hn y hyu] at hya; cases hya
theorem met_low {B c : Nat} (hc : c < B) (h j : Nat) (fh : FuncId) (ph : String) (fj : FuncId) (pj : String) (k cap : Nat) : ∀ op ∈ met h j fh ph fj pj c k cap, op.act.low B := by
  intro op hop
  simp only [met, List.mem_toArray, List.mem_cons, List.not_mem_nil, or_false] at hop
  rcases hop with rfl | rfl | rfl | rfl <;> exact hc

theorem ofEvents_nil (i : Nat) (fn : FuncId) (pos : String) : MemOp.ofEvents i fn pos #[] = #[] := by simp [MemOp.ofEvents]

/-- both have met: what is new of the company -/
theorem Fx.meet (F : Fx X T gs w q) {a g : Goroutine} {c k n : Nat} (hc : c = X.c1 ∨ c = X.c2) (h j : Nat) (fh : FuncId) (ph : String) (fj : FuncId) (pj : String) :
    Fx X (T ++ met h j fh ph fj pj c k 0) ((gs.setIfInBounds X.m g).setIfInBounds 0 a) (w.setChan c 0 #[] false (k + 1) (k + 1) false) (upd q X.m n) := by
  obtain ⟨B, hB, hP⟩ := F.past
  have hcB : c < B := by have := X.c1N; have := X.c2N; rcases hc with rfl | rfl <;> omega
  refine F.both (by simp) (fun i h0 hm => ?_) (fun i _ hm => upd_ne q _ hm) (fun j _ _ => Deaf_quiet (met_quiet _ _ _ _ _ _ _ _ _ _)) (X.Kch _ _ _ _ _ _ _ _ hc F.keep) ⟨B, hB, past_met hP (met_mute _ _ _ _ _ _ _ _ _) (fun g => met_quiet _ _ _ _ _ _ _ _ _ g) (met_low hcB _ _ _ _ _ _ _ _)⟩
  rw [Array.getElem?_setIfInBounds_ne (Ne.symm h0), Array.getElem?_setIfInBounds_ne (Ne.symm hm)]
end
end Go.Proofs.Ytiacfaeanlkalaa
