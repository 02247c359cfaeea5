/- A goroutine that sends numbers at a select until it is stopped, and who takes them, part Q. No program. -/
import Derived.Test.YtiacfaeanlkalaaGnP
set_option linter.unusedSimpArgs false
namespace Go.Proofs.Ytiacfaeanlkalaa
set_option maxRecDepth 100000
open Go.Conc
open Go.ConcN (sumTo upd sumTo_upd upd_ne upd_same)

section
variable {P : Program}

theorem aside_first (P : Program) (g : Goroutine) (w : World) : AsideIn P (sumTo 1 fun _ => 0) #[] #[g] w := ⟨fun _ => 0, 0, leavers_one P g, past_nil, rfl⟩

/-- THE RUN'S END: the outermost function comes back beside leavers. -/
theorem law_ends {f : FuncId} {fn : Func} {c : Code} {args : Array Value} {w : World} {Post : Value → World → Prop} (hf : P.funcs[f]? = some fn) (hb : fn.body = some c) (hi : P.inits.idxOf? f = none)
    (h : WpM (P := P) f .aside (.code c) (fun e m' a' w' => e = .ret ∧ m' = .aside ∧ a'.defers = [] ∧ ∃ v, ResultsC P fn a'.tmps v ∧ ∀ d, Post v (w'.at d)) { tmps := args ++ Array.replicate (fn.ntmps - args.size) undef, defers := [] } w) :
    ∃ M last o w' t', runNT P (M + 1) (solo (G (Frame.enter P f args .normal) []) w) #[] = (.ended o w', t') ∧ runN P M (solo (G (Frame.enter P f args .normal) []) w) = .next last ∧ step P last = .ended o w' ∧ Go.Conc.Good P Post last o w' t' := by
  have henter : Frame.enter P f args .normal = (base f).at { tmps := args ++ Array.replicate (fn.ntmps - args.size) undef, defers := [] } [.code c] := by
    simp [Frame.enter, Frame.at, hf, hb, base]
  have hR : Reach (Mode.aside (P := P)) (fun g u => ∀ d, g.status = .running ∧ ∃ v, stepG P true g (u.at d) = .ended (.done v) (u.at d) #[] ∧ Post v (u.at d)) (G (Frame.enter P f args .normal) []) w := by
    rw [henter]
    refine h (base f) [] [] _ rfl rfl (fun m' a' w' hq => by cases hq.1) (fun m' a' w' todo hq => ?_) (fun id m' a' w' hq => by cases hq.1)
    obtain ⟨_, rfl, hd, v, hv, hp⟩ := hq
    refine .of_goes (n := 0) (S₁ := fun g u => g = G { (base f).at a' todo with mode := .returning } [] ∧ RW w' u) (fun u hu => ⟨rfl, hu⟩) ?_
    rintro g u ⟨rfl, hu⟩
    refine fun d μ T gs sl hI hg => ⟨0, gs, _, _, sl, T, μ, rfl, hg, hI, fun d' => ⟨rfl, v, ?_, ?_⟩⟩
    · have h1 := hv ((u.at d).at d')
      simp [G, stepG, unwind, doReturn, Frame.at, base, hd, hf, h1.1, h1.2, hi, seen_none, GStep.after]
    · obtain ⟨e, rfl⟩ := hu
      exact hp d'
  obtain ⟨N, gs, g, u, sl, T, μ, hrun, hg, ⟨q, B, hL, hP, _⟩, hend⟩ := hR.self (m := Mode.aside (P := P)) (μ := _) (T := #[]) (gs := #[G (Frame.enter P f args .normal) []]) (sl := none) (aside_first P _ w) rfl
  obtain ⟨N2, last, o, w', t', r1, r2, r3, r4⟩ := beside_ends (D := fun _ _ es => ∀ e ∈ es, EvL (fun _ => False) B e) (Post := Post) (Shun := fun _ => False) (B := B) (n := 0) (fun _ _ _ h => h) (sl := sl) hg hL hP (fun u1 hu1 => by
    obtain ⟨d, rfl⟩ := hu1
    obtain ⟨x1, v, x2, x4⟩ := hend d
    exact ⟨x1, v, #[], x2, by simp, x4⟩)
  have e0 : solo (G (Frame.enter P f args .normal) []) w = crowd #[G (Frame.enter P f args .normal) []] w none := solo_eq_crowd _ _
  have hrun' : runN P N (crowd #[G (Frame.enter P f args .normal) []] w none) = .next (crowd gs u sl) := by rw [← runNT_fst P N _ #[], hrun]
  refine ⟨N + N2, last, o, w', t', ?_, ?_, r3, r4⟩
  · rw [e0, show N + N2 + 1 = N + (N2 + 1) by omega, runNT_add, hrun]
    exact r1
  · rw [e0, runN_add, hrun']
    exact r2
end
end Go.Proofs.Ytiacfaeanlkalaa
