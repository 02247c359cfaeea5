/- A walk made for one goroutine alone is carried over to a machine of many, part I. No program. -/
import Derived.Test.YtiacfaeanlkalaaCmH
import Derived.Conc.Beside
namespace Go.Proofs.Ytiacfaeanlkalaa
set_option maxRecDepth 100000
open Go.Conc
open Go.ConcN (sumTo upd sumTo_upd upd_ne upd_same)

/-- COMPANY: others beside goroutine 0; ahead of each of its steps they may go some of theirs, and what they have left to go grows less. -/
structure Comp (P : Program) where
  In : Nat → Trace → Array Goroutine → World → Prop
  D : World → World → Array Event → Prop
  pick : ∀ {μ T gs w sl g}, In μ T gs w → gs[0]? = some g → g.status = .running → ∃ d sl',
    (stepT P (crowd gs w sl) = runT P (crowd gs (w.at d) sl') 0 ∧ In μ T gs (w.at d)) ∨
    (∃ gs' ops μ', stepT P (crowd gs w sl) = (.next (crowd gs' (w.at d) sl'), ops) ∧ μ' < μ ∧ gs'[0]? = some g ∧ In μ' (T ++ ops) gs' (w.at d))
  own : ∀ {μ T gs w g g' w' es}, In μ T gs w → gs[0]? = some g → g.status = .running → stepG P true g w = .go g' w' es → D w w' es →
    ∃ μ', In μ' (T ++ MemOp.ofEvents 0 g.frame.fn g.frame.place es) ((gs.map (woken P g g' w')).setIfInBounds 0 g') w'

/-- the machine comes to a state of the company in which goroutine 0 stands so -/
def Comes' {P : Program} (C : Comp P) (S : Goroutine → World → Prop) (gs : Array Goroutine) (w : World) (sl : Option (Nat × Nat)) (T : Trace) : Prop :=
  ∃ N gs' g' w' sl' T' μ', runNT P N (crowd gs w sl) T = (.next (crowd gs' w' sl'), T') ∧ gs'[0]? = some g' ∧ C.In μ' T' gs' w' ∧ S g' w'

section
variable {P : Program}

theorem runNT_one {m m' : Machine} {ops : Array MemOp} {T T' : Trace} {N : Nat} {r : Stepped} (h : stepT P m = (.next m', ops)) (h' : runNT P N m' (T ++ ops) = (r, T')) : runNT P (N + 1) m T = (r, T') := by
  simp only [runNT, h]; exact h'

theorem at_at' (w : World) (d d' : Nat) : (w.at d).at d' = w.at d' := rfl
theorem at_self (w : World) : w.at w.drawn = w := rfl

theorem Comp.walk (C : Comp P) {S : Goroutine → World → Prop} {g : Goroutine} {w : World} (h : Runs P C.D S g w) : ∀ {μ : Nat} {T : Trace} {gs : Array Goroutine} {sl : Option (Nat × Nat)}, C.In μ T gs w → gs[0]? = some g → Comes' C S gs w sl T := by
  induction h with
  | stop hs => exact fun {μ T gs sl} hI hg => ⟨0, gs, _, _, sl, T, μ, rfl, hg, hI, hs⟩
  | @step g w hr f hf _ ih =>
    have key : ∀ (μ : Nat) (d0 : Nat) (T : Trace) (gs : Array Goroutine) (sl : Option (Nat × Nat)), C.In μ T gs (w.at d0) → gs[0]? = some g → Comes' C S gs (w.at d0) sl T := by
      intro μ
      induction μ using Nat.strongRecOn with
      | _ μ ihμ =>
        intro d0 T gs sl hI hg
        obtain ⟨d, sl', hp | ⟨gs', ops, μ', hst, hlt, hg', hI'⟩⟩ := C.pick (sl := sl) hI hg hr
        · obtain ⟨hst, hI'⟩ := hp
          rw [at_at'] at hst hI'
          obtain ⟨hgo, hD⟩ := hf d
          obtain ⟨μ', hI2⟩ := C.own hI' hg hr hgo hD
          have hrun := runT_crowd_go (P := P) (sl := sl') (i := 0) hg (show stepG P (0 == 0) g (w.at d) = _ from hgo)
          have hlt : 0 < gs.size := (Array.getElem?_eq_some_iff.1 hg).1
          obtain ⟨N, gs2, g2, w2, sl2, T2, μ2, h1, h2, h3, h4⟩ := ih d (sl := sl') hI2 (Array.getElem?_setIfInBounds_self_of_lt (by simpa using hlt))
          exact ⟨N + 1, gs2, g2, w2, sl2, T2, μ2, runNT_one (hst.trans hrun) h1, h2, h3, h4⟩
        · rw [at_at'] at hst hI'
          obtain ⟨N, gs2, g2, w2, sl2, T2, μ2, h1, h2, h3, h4⟩ := ihμ μ' hlt d (T ++ ops) gs' sl' hI' hg'
          exact ⟨N + 1, gs2, g2, w2, sl2, T2, μ2, runNT_one hst h1, h2, h3, h4⟩
    intro μ T gs sl hI hg
    have := key μ w.drawn T gs sl (by rw [at_self]; exact hI) hg
    rwa [at_self] at this

/-! ### beside leavers -/
theorem low_some (x : MemAct) : ∃ B, x.low B := by
  cases x with
  | access e =>
    cases hl : e.loc with
    | cell a => exact ⟨a.block + 1, by simp [MemAct.low, hl, Loc.low]⟩
    | obj r => exact ⟨r + 1, by simp [MemAct.low, hl, Loc.low]⟩
    | output | goroutines | mark _ => exact ⟨0, by simp [MemAct.low, hl, Loc.low]⟩
  | mark m =>
    cases m with
    | acquire a => exact ⟨a.block + 1, Nat.lt_succ_self _⟩
    | release a => exact ⟨a.block + 1, Nat.lt_succ_self _⟩
    | releaseMerge a => exact ⟨a.block + 1, Nat.lt_succ_self _⟩
    | read a => exact ⟨a.block + 1, Nat.lt_succ_self _⟩
    | write a => exact ⟨a.block + 1, Nat.lt_succ_self _⟩
    | _ => exact ⟨0, trivial⟩
  | send c _ => exact ⟨c + 1, Nat.lt_succ_self _⟩
  | sendDone c _ => exact ⟨c + 1, Nat.lt_succ_self _⟩
  | recv c _ _ => exact ⟨c + 1, Nat.lt_succ_self _⟩
  | recvDone c _ => exact ⟨c + 1, Nat.lt_succ_self _⟩
  | close c => exact ⟨c + 1, Nat.lt_succ_self _⟩
  | recvClosed c => exact ⟨c + 1, Nat.lt_succ_self _⟩
  | _ => exact ⟨0, trivial⟩
theorem low_all (es : Array Event) : ∃ B, ∀ e ∈ es, (MemAct.ofEvent e).low B := by
  obtain ⟨l⟩ := es
  induction l with
  | nil => exact ⟨0, by simp⟩
  | cons e l ih =>
    obtain ⟨B, h⟩ := ih
    obtain ⟨B', h'⟩ := low_some (MemAct.ofEvent e)
    refine ⟨max B B', fun x hx => ?_⟩
    simp only [List.mem_toArray, List.mem_cons] at hx
    rcases hx with rfl | hx
    · exact MemAct.low_mono (Nat.le_max_right _ _) h'
    · exact MemAct.low_mono (Nat.le_max_left _ _) (h x (by simpa using hx))

/-- all but goroutine 0 only leave; all that was done is known to it -/
def AsideIn (P : Program) (μ : Nat) (T : Trace) (gs : Array Goroutine) (_ : World) : Prop := ∃ q B, Leavers P T gs q ∧ Past (fun _ => False) B T ∧ μ = sumTo gs.size q

theorem ops_of (i : Nat) (fn : FuncId) (pos : String) (es : Array Event) : ∀ op ∈ MemOp.ofEvents i fn pos es, op.g = i := fun op hop => by rw [ofEvents_eq] at hop; obtain ⟨e, _, rfl⟩ := Array.mem_map.1 hop; rfl

theorem leavers_set {T : Trace} {gs : Array Goroutine} {q : Nat → Nat} (hL : Leavers P T gs q) {i : Nat} {g g' : Goroutine} {w' : World} {fn : FuncId} {pos : String} {es : Array Event} {n : Nat} (hlt : i < gs.size) (hi : i ≠ 0 → QuitsD P n (Deaf (T ++ MemOp.ofEvents i fn pos es) i) g') :
    Leavers P (T ++ MemOp.ofEvents i fn pos es) ((gs.map (woken P g g' w')).setIfInBounds i g') (upd q i n) := by
  have hops := ops_of i fn pos es
  refine ⟨fun j x hj hx => ?_, fun j hj => ?_⟩
  · by_cases hji : j = i
    · subst hji
      rw [Array.getElem?_setIfInBounds_self_of_lt (by simpa using hlt)] at hx
      obtain rfl := Option.some.inj hx
      rw [upd_same]
      exact hi (by omega)
    · rw [Array.getElem?_setIfInBounds_ne (Ne.symm hji), Array.getElem?_map] at hx
      obtain ⟨y, hy, rfl⟩ := Option.map_eq_some_iff.1 hx
      have hq := hL.old j y hj hy
      rw [woken_quitsD hq, upd_ne q n hji, Deaf_other T (Ne.symm hji) _ hops]
      exact hq
  · rw [Deaf_other T (g' := i) (by simp at hj; omega) _ hops]
    exact hL.above j (by simpa using hj)

theorem sum_less {q : Nat → Nat} {m i k : Nat} (hlt : i < m) (hq : q i = k + 1) : sumTo m (upd q i k) < sumTo m q := by
  have := sumTo_upd q k id hlt
  simp only [id] at this
  rw [hq] at this
  have e : sumTo m (fun a => upd q i k a) = sumTo m (upd q i k) := rfl
  have e2 : sumTo m (fun a => q a) = sumTo m q := rfl
  omega

theorem leaver_slips {T : Trace} {gs : Array Goroutine} {q : Nat → Nat} (hL : Leavers P T gs q) {i : Nat} {g : Goroutine} (hpos : 0 < i) (hi : gs[i]? = some g) (hg : g.status = .running) :
    ∃ k g' es, q i = k + 1 ∧ (∀ e ∈ es, Event.mute e = true) ∧ (∀ w, stepG P (i == 0) g w = .go g' w es) ∧ QuitsD P k (deafBehind (Deaf T i) es) g' := by
  have hq := hL.old i g hpos hi
  have hi0 : (i == 0) = false := by simp; omega
  cases hk : q i with
  | zero => rw [hk] at hq; rw [hq.1] at hg; cases hg
  | succ k =>
    rw [hk] at hq
    rcases hq with ⟨hf, _⟩ | ⟨_, g', es, hm, hs, hq'⟩
    · rw [hf] at hg; cases hg
    · exact ⟨k, g', es, rfl, hm, fun w => by rw [hi0]; exact hs w, hq'⟩

/-- ████ BESIDE LEAVERS. ████ -/
def Aside' (P : Program) : Comp P where
  In := AsideIn P
  D := Hush
  pick := by
    rintro μ T gs w sl g ⟨q, B, hL, hP, rfl⟩ h0 hr
    have haw : ∀ x ∈ gs, awake x := by
      intro x hx
      obtain ⟨i, hi, rfl⟩ := Array.mem_iff_getElem.1 hx
      rcases Nat.eq_zero_or_pos i with rfl | hpos
      · have : gs[0] = g := by simpa [Array.getElem?_eq_getElem hi] using h0
        rw [this]; exact awake_of (.inl hr)
      · exact awake_of ((hL.old i _ hpos (Array.getElem?_eq_getElem hi)).status.elim .inl fun x => .inr (.inr x))
    obtain ⟨i, x, d, sl', hi, hx, hst⟩ := crowd_pick (P := P) (w := w) (sl := sl) haw ⟨0, g, h0, hr⟩
    refine ⟨d, sl', ?_⟩
    rcases Nat.eq_zero_or_pos i with rfl | hpos
    · exact .inl ⟨hst, q, B, hL, hP, rfl⟩
    · obtain ⟨k, g', es, hk, hm, hs, hq'⟩ := leaver_slips hL hpos hi hx
      have hlt : i < gs.size := (Array.getElem?_eq_some_iff.1 hi).1
      have hrun := runT_crowd_go (P := P) (sl := sl') hi (hs (w.at d))
      refine .inr ⟨_, _, sumTo gs.size (upd q i k), hst.trans hrun, sum_less hlt hk, ?_, upd q i k, B, leavers_set hL hlt (fun _ => by rw [Deaf_own]; exact hq'), hP.mute (by omega) hm, by simp⟩
      rw [Array.getElem?_setIfInBounds_ne (by omega), Array.getElem?_map, h0]
      simp [woken_run hr]
  own := by
    rintro μ T gs w g g' w' es ⟨q, B, hL, hP, rfl⟩ h0 _ _ hD
    obtain ⟨B', hB'⟩ := low_all es
    have hlt : 0 < gs.size := (Array.getElem?_eq_some_iff.1 h0).1
    refine ⟨_, upd q 0 0, max B B', leavers_set hL hlt (fun h => absurd rfl h), (hP.mono (Nat.le_max_left B B')).own fun e he => ⟨fun _ _ h => h.elim, (hD e he).1, (hD e he).2, MemAct.low_mono (Nat.le_max_right _ _) (hB' e he)⟩, rfl⟩
end
end Go.Proofs.Ytiacfaeanlkalaa
