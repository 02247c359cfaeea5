/- A goroutine that sends numbers at a select until it is stopped, and who takes them, part G. No program. -/
import Derived.Test.YtiacfaeanlkalaaGnF
set_option linter.unusedSimpArgs false
namespace Go.Proofs.Ytiacfaeanlkalaa
set_option maxRecDepth 100000
open Go.Conc
open Go.ConcN (sumTo upd sumTo_upd upd_ne upd_same)

/-- what goroutine 0 may do while the sender is about: what the sender leans on is kept, the channels stand, nothing still is written -/
def DG {P : Program} (X : Gen P) (w w' : World) (es : Array Event) : Prop :=
  (X.K w → X.K w') ∧ w'.heap[X.c1]? = w.heap[X.c1]? ∧ w'.heap[X.c2]? = w.heap[X.c2]? ∧ ∀ e ∈ es, Ev0 e ∧ ∀ t, (MemAct.ofEvent e).touch? = some t → X.Still t.loc → t.write = false

section
variable {P : Program} {X : Gen P} {T : Trace} {gs : Array Goroutine} {w : World} {q : Nat → Nat} {x : Int}

theorem dg_idle (w : World) : DG X w w #[] := ⟨id, rfl, rfl, by simp⟩

theorem GenIn.own {μ : Nat} {g g' : Goroutine} {w' : World} {es : Array Event} (hG : GenIn X x μ T gs w) (h0 : gs[0]? = some g) (hr : g.status = .running) (hD : DG X w w' es) :
    ∃ μ', GenIn X x μ' (T ++ MemOp.ofEvents 0 g.frame.fn g.frame.place es) ((gs.map (woken P g g' w')).setIfInBounds 0 g') w' := by
  have hm0 : X.m ≠ 0 := by have := X.mpos; omega
  obtain ⟨q, gm, F, hm, hs, o1, o2, hμ⟩ := hG
  obtain ⟨hK, e1, e2, hes⟩ := hD
  have o1' : OpenC X.c1 w' := by obtain ⟨k, h⟩ := o1; exact ⟨k, by rw [e1]; exact h⟩
  have o2' : OpenC X.c2 w' := by obtain ⟨k, h⟩ := o2; exact ⟨k, by rw [e2]; exact h⟩
  have hfix := F.fix (w := w) (fun b hb => by rw [h0] at hb; cases hb; exact again_running w (.inl hr)) (fun b hb => by rw [hm] at hb; cases hb; exact Sits.again hs F.keep o1 o2)
  have hfix' : ∀ (i : Nat) (y : Goroutine), i ≠ 0 → gs[i]? = some y → y.again w' = y := by
    intro i y hi hy
    by_cases em : i = X.m
    · subst em
      rw [hm] at hy; cases hy
      exact Sits.again hs (hK F.keep) o1' o2'
    · exact again_running w' (F.bg i y hi em hy).status
  have hset := set_keep (P := P) (i := 0) (g := g) (g' := g') (w' := w') (gs := gs) hfix'
  obtain ⟨B, hB, hP⟩ := F.past
  obtain ⟨B', hB'⟩ := low_all es
  have hops := ops_of 0 g.frame.fn g.frame.place es
  refine ⟨sumTo gs.size q, q, gm, ?_, by rw [hset _ hm0]; exact hm, hs, o1', o2', by simp⟩
  refine F.both (by simp) (fun i hi _ => hset i hi) (fun i _ _ => rfl) (fun j hj _ => Deaf_other T (Ne.symm hj) _ hops) (hK F.keep) ⟨max B B', Nat.le_trans hB (Nat.le_max_left _ _), ?_⟩
  refine PastH.appH (PastG.mono hP (Nat.le_max_left _ _)) hops (fun op hop b hb hS => ?_) ?_ (fun op hop => ?_)
  · rw [ofEvents_eq] at hop
    obtain ⟨e, he, rfl⟩ := Array.mem_map.1 hop
    exact (hes e he).2 b hb hS
  · rw [Deaf_own]
    exact deafBehind_still (fun e he => (hes e he).1) _
  · rw [ofEvents_eq] at hop
    obtain ⟨e, he, rfl⟩ := Array.mem_map.1 hop
    exact MemAct.low_mono (Nat.le_max_right _ _) (hB' e he)

/-- ████ THE COMPANY OF THE SENDER ████ -/
def GenC (X : Gen P) (x : Int) : Comp P where
  In μ T gs w := GenIn X x μ T gs w
  D w w' es := DG X w w' es
  pick := by
    rintro μ T gs w sl g ⟨q, gm, F, hm, hs, o1, o2, hμ⟩ h0 hr
    have haw := F.awake (fun b hb => by rw [h0] at hb; cases hb; exact awake_of (.inl hr)) (fun b hb => by rw [hm] at hb; cases hb; exact Sits.awake hs F.keep)
    obtain ⟨i, y, d, sl', hi, hy, hpick⟩ := crowd_pick (P := P) (w := w) (sl := sl) haw ⟨0, g, h0, hr⟩
    refine ⟨d, sl', ?_⟩
    by_cases h : i = 0
    · subst h
      exact .inl ⟨hpick, q, gm, F.at d, hm, hs, o1, o2, hμ⟩
    · obtain ⟨gs', ops, μ2, hrt, h0', hG', hlt⟩ := GenIn.by (sl := sl') (F.at d) hm hs o1 o2 h0 hr h hi hy
      exact .inr ⟨gs', ops, μ2, hpick.trans hrt, by omega, h0', hG'⟩
  own := by
    rintro μ T gs w g g' w' es hG h0 hr _ hD
    exact hG.own h0 hr hD

theorem X_at {XF : ∀ m, 0 < m → Gen P} (hK : ∀ m h, (XF m h).K w) {m : Nat} (h : 0 < m) (d : Nat) : (XF m h).K (w.at d) := (XF m h).Kat _ _ (hK m h)

/-- ████ A SENDER IS STARTED: goroutine 0 stands at the go statement, beside leavers. ████ -/
theorem hire {a a' child : Goroutine} {μ : Nat} {sl : Option (Nat × Nat)} (XF : ∀ m, 0 < m → Gen P) (N : Nat) (hXm : ∀ m h, (XF m h).m = m) (hXN : ∀ m h, (XF m h).N = N) (hI : AsideIn P μ T gs w) (h0 : gs[0]? = some a) (hr : a.status = .running)
    (hst : ∀ u, stepG P true a u = .spawn a' child u #[]) (hK : ∀ m h, (XF m h).K w) (o1 : ∀ m h, OpenC (XF m h).c1 w) (o2 : ∀ m h, OpenC (XF m h).c2 w) (hch : ∀ m h, ∃ k, (XF m h).Way ((XF m h).home x) k child) :
    ∃ n gs' d m hm μ' sl' T', runNT P n (crowd gs w sl) T = (.next (crowd gs' (w.at d) sl'), T') ∧ gs'[0]? = some a' ∧ GenIn (XF m hm) x μ' T' gs' (w.at d) := by
  have key : ∀ (μ d0 : Nat) (T : Trace) (gs : Array Goroutine) (sl : Option (Nat × Nat)), AsideIn P μ T gs (w.at d0) → gs[0]? = some a →
      ∃ n gs' d m hm μ' sl' T', runNT P n (crowd gs (w.at d0) sl) T = (.next (crowd gs' (w.at d) sl'), T') ∧ gs'[0]? = some a' ∧ GenIn (XF m hm) x μ' T' gs' (w.at d) := by
    intro μ
    induction μ using Nat.strongRecOn with
    | _ μ ih =>
      intro d0 T gs sl hI h0
      obtain ⟨d, sl', hp | ⟨gs', ops, μ', hstp, hlt, hg', hI'⟩⟩ := (Aside' P).pick (w := w.at d0) (sl := sl) hI h0 hr
      · obtain ⟨hstp, q, B, hL, hP, hμ⟩ := hp
        rw [at_at'] at hstp
        have hlt : 0 < gs.size := (Array.getElem?_eq_some_iff.1 h0).1
        have hrt := runT_crowd_spawn (P := P) (sl := sl') (i := 0) h0 (show stepG P (0 == 0) a (w.at d) = _ from hst _)
        rw [ofEvents_nil] at hrt
        replace hrt : runT P (crowd gs (w.at d) sl') 0 = (.next (crowd ((gs.setIfInBounds 0 a').push child) (w.at d) sl'), #[{ g := 0, fn := a.frame.fn, pos := a.frame.place, act := .go gs.size }, { g := gs.size, fn := child.frame.fn, pos := a.frame.place, act := .start }]) := hrt
        obtain ⟨k, hw⟩ := hch gs.size hlt
        have hm := hXm gs.size hlt
        have hn := hXN gs.size hlt
        refine ⟨1, _, d, gs.size, hlt, _, sl', _, runNT_one (hstp.trans hrt) rfl, ?_, upd q gs.size (k + 1), child, ?_, ?_, ?_, o1 _ hlt, o2 _ hlt, rfl⟩
        · rw [Array.getElem?_push_lt (by simpa using hlt)]
          simp [hlt]
        · have hPN : Past (fun _ => False) (max B N) T := hP.mono (Nat.le_max_left _ _)
          have h1 := (PastH.ofPast (Still := (XF gs.size hlt).Still) hPN (fun l hl => still_mem hl)).hire rfl (hL.above gs.size (Nat.le_refl _)) a.frame.fn a.frame.place child.frame.fn
          have hquiet : ∀ g, ∀ op ∈ (#[{ g := 0, fn := a.frame.fn, pos := a.frame.place, act := .go gs.size }, { g := gs.size, fn := child.frame.fn, pos := a.frame.place, act := .start }] : Trace), ∀ d, deafStep g d op = d := by
            intro g op hop d
            simp only [List.mem_toArray, List.mem_cons, List.not_mem_nil, or_false] at hop
            rcases hop with rfl | rfl <;> rfl
          refine ⟨by rw [hm]; simp, fun i g hi him hg => ?_, fun j hj => ?_, X_at hK hlt d, max B N, by rw [hn]; exact Nat.le_max_right _ _, ?_⟩
          · rw [hm] at him
            have hi' : i < gs.size := by
              have := (Array.getElem?_eq_some_iff.1 hg).1
              simp at this
              omega
            rw [Array.getElem?_push_lt (by simpa using hi'), Array.getElem_setIfInBounds_ne (by simpa using hi') (Ne.symm hi)] at hg
            have hg' : gs[i]? = some g := by rw [Array.getElem?_eq_getElem hi']; exact hg
            rw [upd_ne q _ him]
            have := hL.old i g (by omega) hg'
            rw [show Deaf (T ++ _) i = Deaf T i from Deaf_quiet (hquiet i)]
            exact this
          · rw [show Deaf (T ++ _) j = Deaf T j from Deaf_quiet (hquiet j)]
            exact hL.above j (by simp at hj; omega)
          · exact PastG.loosen (PastG.fewer h1 (fun g hg => by rcases hg with h | h; exact .inl h; exact .inr (h.trans hm))) (fun g hg => by rcases hg with h | h; exact h.elim; exact h.trans hm.symm)
        · have hsz : gs.size = (gs.setIfInBounds 0 a').size := by simp
          rw [hm, hsz, Array.getElem?_push_size]
        · rw [hm, upd_same]; exact .inl ⟨k, rfl, hw⟩
      · rw [at_at'] at hstp hI'
        obtain ⟨n, gs2, d2, m, hm, μ2, sl2, T2, h1, h2, h3⟩ := ih μ' hlt d (T ++ ops) gs' sl' hI' hg'
        exact ⟨n + 1, gs2, d2, m, hm, μ2, sl2, T2, runNT_one hstp h1, h2, h3⟩
  have := key μ w.drawn T gs sl (by rw [at_self]; exact hI) h0
  rwa [at_self] at this
end
end Go.Proofs.Ytiacfaeanlkalaa
