/- A goroutine that sends numbers at a select until it is stopped, and who takes them, part E. No program. -/
import Derived.Test.YtiacfaeanlkalaaGnD
set_option linter.unusedSimpArgs false
namespace Go.Proofs.Ytiacfaeanlkalaa
set_option maxRecDepth 100000
open Go.Conc
open Go.ConcN (sumTo upd sumTo_upd upd_ne upd_same)

section
variable {P : Program} {X : Gen P} {T : Trace} {gs : Array Goroutine} {w : World} {q : Nat → Nat} {x : Int}

/-- THE COMPANY OF THE SENDER, which has been told to stop and is on its way to its close -/
def ClIn (X : Gen P) (μ : Nat) (T : Trace) (gs : Array Goroutine) (w : World) : Prop :=
  ∃ q gm k, Fx X T gs w q ∧ gs[X.m]? = some gm ∧ X.Way X.AtCl k gm ∧ q X.m = k + 1 ∧ OpenC X.c1 w ∧ μ = sumTo gs.size q

/-- ████ STOPPED: goroutine 0 sends on the stop channel. ████ -/
theorem halted {a : Goroutine} {z : Value} {μ : Nat} {sl : Option (Nat × Nat)} (hG : GenIn X x μ T gs w) (h0 : gs[0]? = some a) (hr : a.status = .running) (hst : ∀ u, stepG P true a u = .comm a #[scase X.c2 (.bool true) z] true .send u #[]) :
    ∃ N gs' d k μ' sl' T', runNT P N (crowd gs w sl) T = (.next (crowd gs' ((w.at d).setChan X.c2 0 #[] false k k false) sl'), T') ∧ gs'[0]? = some (Go.Conc.served a undef) ∧ ClIn X μ' T' gs' ((w.at d).setChan X.c2 0 #[] false k k false) := by
  have hm0 : X.m ≠ 0 := by have := X.mpos; omega
  have hmb : (X.m == 0) = false := by simpa using hm0
  let Done : Machine → Trace → Prop := fun mm t => ∃ gs' d k μ' sl', mm = crowd gs' ((w.at d).setChan X.c2 0 #[] false k k false) sl' ∧ gs'[0]? = some (Go.Conc.served a undef) ∧ ClIn X μ' t gs' ((w.at d).setChan X.c2 0 #[] false k k false)
  let InvA : Nat → Machine → Trace → Prop := fun ν mm t => ∃ gs1 d sl1 μ1, mm = crowd gs1 (w.at d) sl1 ∧ gs1[0]? = some a ∧ GenIn X x μ1 t gs1 (w.at d) ∧ ν = 2 * μ1 + 1
  let InvB : Nat → Machine → Trace → Prop := fun ν mm t => ∃ gs1 d sl1 q1 gm k, mm = crowd gs1 (w.at d) sl1 ∧ gs1[0]? = some (parked a #[scase X.c2 (.bool true) z] .send) ∧ Fx X t gs1 (w.at d) q1 ∧ gs1[X.m]? = some gm ∧ X.Way (X.home x) k gm ∧ q1 X.m = k + 1 ∧ OpenC X.c1 (w.at d) ∧ OpenC X.c2 (w.at d) ∧ ν = 2 * sumTo gs1.size q1
  obtain ⟨N, m', T', hrun, gs', d, k, μ', sl', rfl, h2, h3⟩ := runs_until (P := P) (Done := Done) (Inv := fun ν mm t => Done mm t ∨ InvA ν mm t ∨ InvB ν mm t) (fun ν mm t hInv => by
    rcases hInv with hd | ⟨gs1, d, sl1, μ1, rfl, ha, ⟨q1, gm, F, hm, hs, o1, o2, hμ⟩, hν⟩ | ⟨gs1, d, sl1, q1, gm, k, rfl, ha, F, hm, hw, hk, o1, o2, hν⟩
    · exact .inl hd
    · -- goroutine 0 stands at its send
      refine .inr ?_
      have haw := F.awake (fun b hb => by rw [ha] at hb; cases hb; exact awake_of (.inl hr)) (fun b hb => by rw [hm] at hb; cases hb; exact Sits.awake hs F.keep)
      obtain ⟨i, g, d', sl', hi, hg, hpick⟩ := crowd_pick (P := P) (w := w.at d) (sl := sl1) haw ⟨0, a, ha, hr⟩
      rw [at_at'] at hpick
      have F' : Fx X t gs1 (w.at d') q1 := F.at d'
      by_cases h : i = 0
      · subst h
        rcases hs with ⟨k, hk, hw⟩ | ⟨hq0, h, hh, rfl⟩
        · -- it waits
          have hnw : ∀ cc ∈ (#[scase X.c2 (.bool true) z] : Array CommCase), NoWays (w.at d') (gs1.setIfInBounds 0 ph) cc := by
            intro cc hcc
            simp only [List.mem_toArray, List.mem_cons, List.not_mem_nil, or_false] at hcc
            subst hcc
            obtain ⟨k2, o2⟩ := o2
            exact ways_send_none (w₁ := w.at d') o2 (by simp) (F'.partners_nil (fun a' hne _ => absurd rfl hne) (fun a' _ ha' => by
              rw [hm] at ha'; cases ha'
              exact offersAt_of_not_blocked (by rw [Way.status (fun g hg => (X.at_ x g hg).1) hw F.keep]; simp) _ _))
          have hrt := crowd_waits (sl := sl') ha (show stepG P (0 == 0) a (w.at d') = _ from hst _) hnw
          rw [ofEvents_nil] at hrt
          refine ⟨_, _, 2 * sumTo gs1.size q1, hpick.trans hrt, by omega, .inr (.inr ⟨_, d', sl', q1, gm, k, rfl, Array.getElem?_setIfInBounds_self_of_lt F.lt0, ?_, by rw [Array.getElem?_setIfInBounds_ne (Ne.symm hm0)]; exact hm, hw, hk, o1, o2, by simp⟩)⟩
          have hp := F.past
          exact F'.both (ops := #[]) (by simp) (fun j hj _ => Array.getElem?_setIfInBounds_ne (Ne.symm hj)) (fun j _ _ => rfl) (fun j _ _ => by simp) F'.keep (by simpa using hp)
        · -- it meets the child
          obtain ⟨k2, ho2⟩ := id o2
          have hp := F'.partners_one (i := 0) (b := false) hm0 hm (offers_sel_r (h := h) (x := x)) (fun j' h0' hm' ho => by rcases ho with e | e; exact h0' e; exact hm' e)
          have hrt := crowd_send_meets_sel (sl := sl') (k := 1) ha (show stepG P (0 == 0) a (w.at d') = _ from hst _) ho2 hm0 hm rfl hp
          rw [ofEvents_nil, Array.empty_append] at hrt
          obtain ⟨kn, wn, hkn⟩ := X.stop x h hh
          refine ⟨_, _, 0, hpick.trans hrt, by omega, .inl ⟨_, d', k2 + 1, _, sl', rfl, ?_, upd q1 X.m (kn + 1), _, kn, F'.meet (.inr rfl) _ _ _ _ _ _, ?_, ⟨wn, hkn⟩, upd_same _ _ _, o1.set, rfl⟩⟩
          · rw [Array.getElem?_setIfInBounds_self_of_lt (by simpa using F.lt0)]; rfl
          · rw [Array.getElem?_setIfInBounds_ne (Ne.symm hm0), Array.getElem?_setIfInBounds_self_of_lt F.lt]; rfl
      · obtain ⟨gs', ops, μ2, hrt, h0', hG', hlt⟩ := GenIn.by (sl := sl') F' hm hs o1 o2 ha hr h hi hg
        exact ⟨_, _, 2 * μ2 + 1, hpick.trans hrt, by omega, .inr (.inl ⟨gs', d', sl', μ2, rfl, h0', hG', rfl⟩)⟩
    · -- goroutine 0 waits at its send
      refine .inr ?_
      have hgr := Way.status (fun g hg => (X.at_ x g hg).1) hw F.keep
      have haw := F.awake (fun b hb => by rw [ha] at hb; cases hb; exact awake_of (.inr (.inl rfl))) (fun b hb => by rw [hm] at hb; cases hb; exact awake_of (.inl hgr))
      obtain ⟨i, g, d', sl', hi, hg, hpick⟩ := crowd_pick (P := P) (w := w.at d) (sl := sl1) haw ⟨X.m, gm, hm, hgr⟩
      rw [at_at'] at hpick
      have F' : Fx X t gs1 (w.at d') q1 := F.at d'
      obtain ⟨k2, ho2⟩ := id o2
      have hfix := F'.fix (fun b hb => by rw [ha] at hb; cases hb; exact again_send_open (w := w.at d') ho2) (fun b hb => by rw [hm] at hb; cases hb; exact again_running _ (.inl hgr))
      have hi0 : i ≠ 0 := by
        rintro rfl
        rw [ha] at hi; cases hi; cases hg
      by_cases em : i = X.m
      · subst em
        rw [hm] at hi
        obtain rfl := Option.some.inj hi
        rcases F'.child (sl := sl') hm hw hk (fun y z _ hz => hfix y z hz) with hE | ⟨gs', ops, g', k', hrt, hsz, hoth, hg', hw', hlt', F2⟩
        · -- the child meets it
          have hcst := (X.at_ x gm hE).2
          have hp := F'.partners_one (i := X.m) (b := true) (c := X.c2) (k := 0) (Ne.symm hm0) ha (by rw [offersAt_parked_send]; simp) (fun j' hm' h0' ho => by rcases ho with e | e; exact h0' e; exact hm' e)
          have hoth : ∀ (m : Nat) (c' : CommCase), m ≠ 1 → (#[scase X.c1 (.int .i64 x) X.z1, rcase X.c2 X.zb] : Array CommCase)[m]? = some c' → NoWays (w.at d') (gs1.setIfInBounds X.m ph) c' := by
            intro m c' hne hc'
            rcases m with _ | _ | m
            · simp only [List.getElem?_toArray, List.getElem?_cons_zero, Option.some.injEq] at hc'
              subst hc'
              obtain ⟨k1, ho1⟩ := id o1
              exact ways_send_none (w₁ := w.at d') ho1 (by simp) (F'.partners_nil (fun a' _ ha' => by rw [ha] at ha'; cases ha'; exact offersAt_parked_send' _ _ _ _ _ _) (fun a' hne' _ => absurd rfl hne'))
            · exact absurd rfl hne
            · simp at hc'
          have hrt := crowd_sel_recv_meets (sl := sl') (k := 1) hm (show stepG P (X.m == 0) gm (w.at d') = _ by rw [hmb]; exact hcst _) rfl hoth ho2 (Ne.symm hm0) ha hp
          rw [ofEvents_nil, Array.empty_append] at hrt
          obtain ⟨kn, wn, hkn⟩ := X.stop x gm hE
          rw [Array.setIfInBounds_comm _ _ (Ne.symm hm0)] at hrt
          refine ⟨_, _, 0, hpick.trans hrt, ?_, .inl ⟨_, d', k2 + 1, _, sl', rfl, ?_, upd q1 X.m (kn + 1), _, kn, F'.meet (.inr rfl) _ _ _ _ _ _, ?_, ⟨wn, hkn⟩, upd_same _ _ _, o1.set, rfl⟩⟩
          · have : q1 X.m ≤ sumTo gs1.size q1 := le_sum F.lt
            omega
          · rw [Array.getElem?_setIfInBounds_self_of_lt (by simpa using F.lt0)]; rfl
          · rw [Array.getElem?_setIfInBounds_ne (Ne.symm hm0), Array.getElem?_setIfInBounds_self_of_lt F.lt]
        · refine ⟨_, _, 2 * sumTo gs'.size (upd q1 X.m (k' + 1)), hpick.trans hrt, ?_, .inr (.inr ⟨gs', d', sl', _, g', k', rfl, by rw [hoth 0 (Ne.symm hm0)]; exact ha, F2, hg', hw', upd_same _ _ _, o1, o2, rfl⟩)⟩
          rw [hsz]
          have := sum_upd (n := k' + 1) (q := q1) F.lt
          omega
      · obtain ⟨gs', ops, q', hrt, hsz, hoth, hq', F2, hlt⟩ := F'.slip (sl := sl') hi0 em hi hg (fun y z _ hz => hfix y z hz)
        exact ⟨_, _, 2 * sumTo gs'.size q', hpick.trans hrt, by omega, .inr (.inr ⟨gs', d', sl', q', gm, k, rfl, by rw [hoth 0 (Ne.symm hi0)]; exact ha, F2, by rw [hoth _ (Ne.symm em)]; exact hm, hw, by rw [hq' _ (Ne.symm em)]; exact hk, o1, o2, rfl⟩)⟩)
    _ _ T (.inr (.inl ⟨gs, w.drawn, sl, μ, rfl, h0, hG, rfl⟩))
  exact ⟨N, gs', d, k, μ', sl', T', hrun, h2, h3⟩
end
end Go.Proofs.Ytiacfaeanlkalaa
