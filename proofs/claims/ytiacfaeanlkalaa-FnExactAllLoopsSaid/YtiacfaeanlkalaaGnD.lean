/- A goroutine that sends numbers at a select until it is stopped, and who takes them, part D. No program. -/
import Derived.Test.YtiacfaeanlkalaaGnC
set_option linter.unusedSimpArgs false
namespace Go.Proofs.Ytiacfaeanlkalaa
set_option maxRecDepth 100000
open Go.Conc
open Go.ConcN (sumTo upd sumTo_upd upd_ne upd_same)

section
variable {P : Program} {X : Gen P} {T : Trace} {gs : Array Goroutine} {w : World} {q : Nat → Nat} {x : Int}

theorem served_eq (g : Goroutine) (cs : Array CommCase) (ok : Bool) (k : Int) (v : Value) (b : Bool) : g.finishComm P cs (.recv ok) k v b = Go.Conc.served g (recvd ok v b) := finishComm_recv P g cs ok k v b

/-- a bystander's step, while goroutine 0 runs and the child sits or is on its way: it stands so again, with less to go -/
theorem GenIn.by (F : Fx X T gs w q) {gm : Goroutine} (hm : gs[X.m]? = some gm) (hs : X.Sits x (q X.m) gm) (h1 : OpenC X.c1 w) (h2 : OpenC X.c2 w) {a : Goroutine} (h0 : gs[0]? = some a) (hr : a.status = .running) {i : Nat} {g : Goroutine} {sl : Option (Nat × Nat)} (hi : i ≠ 0) (hg : gs[i]? = some g) (hrun : g.status = .running) :
    ∃ gs' ops μ', runT P (crowd gs w sl) i = (.next (crowd gs' w sl), ops) ∧ gs'[0]? = some a ∧ GenIn X x μ' (T ++ ops) gs' w ∧ μ' < sumTo gs.size q := by
  have hm0 : X.m ≠ 0 := by have := X.mpos; omega
  have hfix := F.fix (fun b hb => by rw [h0] at hb; cases hb; exact again_running w (.inl hr)) (fun b hb => by rw [hm] at hb; cases hb; exact Sits.again hs F.keep h1 h2)
  by_cases em : i = X.m
  · subst em
    rw [hm] at hg
    obtain rfl := Option.some.inj hg
    rcases hs with ⟨k, hk, hw⟩ | ⟨_, h, _, rfl⟩
    · have hlt : q X.m ≤ sumTo gs.size q := le_sum F.lt
      rcases F.child (sl := sl) hm hw hk (fun y z _ hz => hfix y z hz) with hE | ⟨gs', ops, g', k', hrt, hsz, hoth, hg', hw', hlt', F'⟩
      · -- it comes to its select: nobody meets it
        have hst := (X.at_ x gm hE).2
        have hmb : (X.m == 0) = false := by simpa using hm0
        have hnw : ∀ cc ∈ (#[scase X.c1 (.int .i64 x) X.z1, rcase X.c2 X.zb] : Array CommCase), NoWays w (gs.setIfInBounds X.m ph) cc := by
          intro cc hcc
          simp only [List.mem_toArray, List.mem_cons, List.not_mem_nil, or_false] at hcc
          have hq0 : ∀ c b a', X.m ≠ 0 → gs[0]? = some a' → offersAt a' c b = [] := fun c b a' _ ha' => by rw [h0] at ha'; cases ha'; exact offersAt_of_not_blocked (by rw [hr]; simp) c b
          rcases hcc with rfl | rfl
          · obtain ⟨k1, h1⟩ := h1
            exact ways_send_none h1 (by simp) (F.partners_nil (hq0 _ _) (fun a' hne _ => absurd rfl hne))
          · obtain ⟨k2, h2⟩ := h2
            exact ways_recv_none h2 (F.partners_nil (hq0 _ _) (fun a' hne _ => absurd rfl hne))
        have hrt := crowd_waits (sl := sl) hm (show stepG P (X.m == 0) gm w = _ by rw [hmb]; exact hst w) hnw
        rw [ofEvents_nil] at hrt
        refine ⟨_, _, sumTo gs.size (upd q X.m 0), hrt, by rw [Array.getElem?_setIfInBounds_ne hm0]; exact h0, ⟨upd q X.m 0, _, ?_, Array.getElem?_setIfInBounds_self_of_lt F.lt, .inr ⟨upd_same _ _ _, gm, hE, rfl⟩, h1, h2, by simp⟩, ?_⟩
        · have hp := F.past
          exact F.both (ops := #[]) (by simp) (fun j _ hj => Array.getElem?_setIfInBounds_ne (Ne.symm hj)) (fun j _ hj => upd_ne q _ hj) (fun j _ _ => by simp) F.keep (by simpa using hp)
        · have := sum_upd (n := 0) (q := q) F.lt
          omega
      · refine ⟨gs', ops, sumTo gs'.size (upd q X.m (k' + 1)), hrt, by rw [hoth 0 (Ne.symm hm0)]; exact h0, ⟨_, g', F', hg', .inl ⟨k', upd_same _ _ _, hw'⟩, h1, h2, rfl⟩, ?_⟩
        rw [hsz]
        have := sum_upd (n := k' + 1) (q := q) F.lt
        omega
    · cases hrun
  · obtain ⟨gs', ops, q', hrt, hsz, hoth, hq', F', hlt⟩ := F.slip (sl := sl) hi em hg hrun (fun y z _ hz => hfix y z hz)
    exact ⟨gs', ops, sumTo gs'.size q', hrt, by rw [hoth 0 (Ne.symm hi)]; exact h0, ⟨q', gm, F', by rw [hoth _ (Ne.symm em)]; exact hm, by rw [hq' _ (Ne.symm em)]; exact hs, h1, h2, rfl⟩, by rw [hsz] at hlt ⊢; exact hlt⟩

/-- ████ TAKEN: goroutine 0 receives what the child offers. ████ -/
theorem take {a : Goroutine} {z : Value} {ok : Bool} {μ : Nat} {sl : Option (Nat × Nat)} (hG : GenIn X x μ T gs w) (h0 : gs[0]? = some a) (hr : a.status = .running) (hst : ∀ u, stepG P true a u = .comm a #[rcase X.c1 z] true (.recv ok) u #[]) :
    ∃ N gs' d k μ' sl' T', runNT P N (crowd gs w sl) T = (.next (crowd gs' ((w.at d).setChan X.c1 0 #[] false k k false) sl'), T') ∧ gs'[0]? = some (Go.Conc.served a (recvd ok (.int .i64 x) true)) ∧ GenIn X (X.nx x) μ' T' gs' ((w.at d).setChan X.c1 0 #[] false k k false) := by
  have hm0 : X.m ≠ 0 := by have := X.mpos; omega
  have hmb : (X.m == 0) = false := by simpa using hm0
  let Done : Machine → Trace → Prop := fun mm t => ∃ gs' d k μ' sl', mm = crowd gs' ((w.at d).setChan X.c1 0 #[] false k k false) sl' ∧ gs'[0]? = some (Go.Conc.served a (recvd ok (.int .i64 x) true)) ∧ GenIn X (X.nx x) μ' t gs' ((w.at d).setChan X.c1 0 #[] false k k false)
  let InvA : Nat → Machine → Trace → Prop := fun ν mm t => ∃ gs1 d sl1 μ1, mm = crowd gs1 (w.at d) sl1 ∧ gs1[0]? = some a ∧ GenIn X x μ1 t gs1 (w.at d) ∧ ν = 2 * μ1 + 1
  let InvB : Nat → Machine → Trace → Prop := fun ν mm t => ∃ gs1 d sl1 q1 gm k, mm = crowd gs1 (w.at d) sl1 ∧ gs1[0]? = some (parked a #[rcase X.c1 z] (.recv ok)) ∧ Fx X t gs1 (w.at d) q1 ∧ gs1[X.m]? = some gm ∧ X.Way (X.home x) k gm ∧ q1 X.m = k + 1 ∧ OpenC X.c1 (w.at d) ∧ OpenC X.c2 (w.at d) ∧ ν = 2 * sumTo gs1.size q1
  obtain ⟨N, m', T', hrun, gs', d, k, μ', sl', rfl, h2, h3⟩ := runs_until (P := P) (Done := Done) (Inv := fun ν mm t => Done mm t ∨ InvA ν mm t ∨ InvB ν mm t) (fun ν mm t hInv => by
    rcases hInv with hd | ⟨gs1, d, sl1, μ1, rfl, ha, ⟨q1, gm, F, hm, hs, o1, o2, hμ⟩, hν⟩ | ⟨gs1, d, sl1, q1, gm, k, rfl, ha, F, hm, hw, hk, o1, o2, hν⟩
    · exact .inl hd
    · -- goroutine 0 stands at its receive
      refine .inr ?_
      have haw := F.awake (fun b hb => by rw [ha] at hb; cases hb; exact awake_of (.inl hr)) (fun b hb => by rw [hm] at hb; cases hb; exact Sits.awake hs F.keep)
      obtain ⟨i, g, d', sl', hi, hg, hpick⟩ := crowd_pick (P := P) (w := w.at d) (sl := sl1) haw ⟨0, a, ha, hr⟩
      rw [at_at'] at hpick
      have F' : Fx X t gs1 (w.at d') q1 := F.at d'
      by_cases h : i = 0
      · subst h
        rcases hs with ⟨k, hk, hw⟩ | ⟨hq0, h, hh, rfl⟩
        · -- it waits
          have hnw : ∀ cc ∈ (#[rcase X.c1 z] : Array CommCase), NoWays (w.at d') (gs1.setIfInBounds 0 ph) cc := by
            intro cc hcc
            simp only [List.mem_toArray, List.mem_cons, List.not_mem_nil, or_false] at hcc
            subst hcc
            obtain ⟨k1, o1⟩ := o1
            exact ways_recv_none (w₁ := w.at d') o1 (F'.partners_nil (fun a' hne _ => absurd rfl hne) (fun a' _ ha' => by
              rw [hm] at ha'; cases ha'
              exact offersAt_of_not_blocked (by rw [Way.status (fun g hg => (X.at_ x g hg).1) hw F.keep]; simp) _ _))
          have hrt := crowd_waits (sl := sl') ha (show stepG P (0 == 0) a (w.at d') = _ from hst _) hnw
          rw [ofEvents_nil] at hrt
          refine ⟨_, _, 2 * sumTo gs1.size q1, hpick.trans hrt, by omega, .inr (.inr ⟨_, d', sl', q1, gm, k, rfl, Array.getElem?_setIfInBounds_self_of_lt F.lt0, ?_, by rw [Array.getElem?_setIfInBounds_ne (Ne.symm hm0)]; exact hm, hw, hk, o1, o2, by simp⟩)⟩
          have hp := F.past
          exact F'.both (ops := #[]) (by simp) (fun j hj _ => Array.getElem?_setIfInBounds_ne (Ne.symm hj)) (fun j _ _ => rfl) (fun j _ _ => by simp) F'.keep (by simpa using hp)
        · -- it meets the child
          obtain ⟨k1, ho1⟩ := id o1
          have hp := F'.partners_one (i := 0) (b := true) hm0 hm (offers_sel_s (h := h) (x := x)) (fun j' h0' hm' ho => by rcases ho with e | e; exact h0' e; exact hm' e)
          rcases recv_meets_sel (sl := sl') ha (show stepG P (0 == 0) a (w.at d') = _ from hst _) ho1 hm0 hm rfl hp with hrt | hne
          · rw [ofEvents_nil, Array.empty_append] at hrt
            obtain ⟨kn, wn, hkn⟩ := X.next x h hh
            refine ⟨_, _, 0, hpick.trans hrt, by omega, .inl ⟨_, d', k1 + 1, _, sl', rfl, ?_, upd q1 X.m (kn + 1), _, F'.meet (.inl rfl) _ _ _ _ _ _, ?_, .inl ⟨kn, upd_same _ _ _, wn, hkn⟩, ⟨k1 + 1, ?_⟩, o2.set, rfl⟩⟩
            · rw [Array.getElem?_setIfInBounds_self_of_lt (by simpa using F.lt0), served_eq]
            · rw [Array.getElem?_setIfInBounds_ne (Ne.symm hm0), Array.getElem?_setIfInBounds_self_of_lt F.lt]; rfl
            · have hlt : X.c1 < (w.at d').heap.size := (Array.getElem?_eq_some_iff.1 ho1).1
              exact Array.getElem?_setIfInBounds_self_of_lt hlt
          · exact absurd rfl hne
      · obtain ⟨gs', ops, μ2, hrt, h0', hG', hlt⟩ := GenIn.by (sl := sl') F' hm hs o1 o2 ha hr h hi hg
        exact ⟨_, _, 2 * μ2 + 1, hpick.trans hrt, by omega, .inr (.inl ⟨gs', d', sl', μ2, rfl, h0', hG', rfl⟩)⟩
    · -- goroutine 0 waits at its receive
      refine .inr ?_
      have hgr := Way.status (fun g hg => (X.at_ x g hg).1) hw F.keep
      have haw := F.awake (fun b hb => by rw [ha] at hb; cases hb; exact awake_of (.inr (.inl rfl))) (fun b hb => by rw [hm] at hb; cases hb; exact awake_of (.inl hgr))
      obtain ⟨i, g, d', sl', hi, hg, hpick⟩ := crowd_pick (P := P) (w := w.at d) (sl := sl1) haw ⟨X.m, gm, hm, hgr⟩
      rw [at_at'] at hpick
      have F' : Fx X t gs1 (w.at d') q1 := F.at d'
      obtain ⟨k1, ho1⟩ := id o1
      have hfix := F'.fix (fun b hb => by rw [ha] at hb; cases hb; exact again_recv_open (w := w.at d') ho1) (fun b hb => by rw [hm] at hb; cases hb; exact again_running _ (.inl hgr))
      have hi0 : i ≠ 0 := by
        rintro rfl
        rw [ha] at hi; cases hi; cases hg
      by_cases em : i = X.m
      · subst em
        rw [hm] at hi
        obtain rfl := Option.some.inj hi
        rcases F'.child (sl := sl') hm hw hk (fun y z _ hz => hfix y z hz) with hE | ⟨gs', ops, g', k', hrt, hsz, hoth, hg', hw', hlt', F2⟩
        · -- the child meets it
          have hcst := (X.at_ x gm hE).2
          have hp := F'.partners_one (i := X.m) (b := false) (c := X.c1) (k := 0) (Ne.symm hm0) ha (by rw [offersAt_parked_recv]; simp) (fun j' hm' h0' ho => by rcases ho with e | e; exact h0' e; exact hm' e)
          have hoth : ∀ (m : Nat) (c' : CommCase), m ≠ 0 → (#[scase X.c1 (.int .i64 x) X.z1, rcase X.c2 X.zb] : Array CommCase)[m]? = some c' → NoWays (w.at d') (gs1.setIfInBounds X.m ph) c' := by
            intro m c' hne hc'
            rcases m with _ | _ | m
            · exact absurd rfl hne
            · simp only [List.getElem?_toArray, List.getElem?_cons_succ, List.getElem?_cons_zero, Option.some.injEq] at hc'
              subst hc'
              obtain ⟨k2, ho2⟩ := id o2
              exact ways_recv_none (w₁ := w.at d') ho2 (F'.partners_nil (fun a' _ ha' => by rw [ha] at ha'; cases ha'; exact offersAt_parked_recv' _ _ _ _ _) (fun a' hne' _ => absurd rfl hne'))
            · simp at hc'
          have hrt := sel_send_meets (sl := sl') (k := 0) hm (show stepG P (X.m == 0) gm (w.at d') = _ by rw [hmb]; exact hcst _) rfl hoth ho1 (Ne.symm hm0) ha hp
          rw [ofEvents_nil, Array.empty_append] at hrt
          obtain ⟨kn, wn, hkn⟩ := X.next x gm hE
          have hcomm : ((gs1.setIfInBounds 0 (a.finishComm P #[rcase X.c1 z] (.recv ok) 0 (.int .i64 x) true)).setIfInBounds X.m (gm.finishComm P #[scase X.c1 (.int .i64 x) X.z1, rcase X.c2 X.zb] .select ((0 : Nat) : Int) undef false)) =
              ((gs1.setIfInBounds X.m (gm.finishComm P #[scase X.c1 (.int .i64 x) X.z1, rcase X.c2 X.zb] .select ((0 : Nat) : Int) undef false)).setIfInBounds 0 (a.finishComm P #[rcase X.c1 z] (.recv ok) 0 (.int .i64 x) true)) := Array.setIfInBounds_comm _ _ (Ne.symm hm0)
          rw [hcomm] at hrt
          refine ⟨_, _, 0, hpick.trans hrt, ?_, .inl ⟨_, d', k1 + 1, _, sl', rfl, ?_, upd q1 X.m (kn + 1), _, F'.meet (.inl rfl) _ _ _ _ _ _, ?_, .inl ⟨kn, upd_same _ _ _, wn, hkn⟩, ⟨k1 + 1, ?_⟩, o2.set, rfl⟩⟩
          · have : q1 X.m ≤ sumTo gs1.size q1 := le_sum F.lt
            omega
          · rw [Array.getElem?_setIfInBounds_self_of_lt (by simpa using F.lt0), served_eq]
          · rw [Array.getElem?_setIfInBounds_ne (Ne.symm hm0), Array.getElem?_setIfInBounds_self_of_lt F.lt]
          · have hlt : X.c1 < (w.at d').heap.size := (Array.getElem?_eq_some_iff.1 ho1).1
            exact Array.getElem?_setIfInBounds_self_of_lt hlt
        · refine ⟨_, _, 2 * sumTo gs'.size (upd q1 X.m (k' + 1)), hpick.trans hrt, ?_, .inr (.inr ⟨gs', d', sl', _, g', k', rfl, by rw [hoth 0 (Ne.symm hm0)]; exact ha, F2, hg', hw', upd_same _ _ _, o1, o2, rfl⟩)⟩
          rw [hsz]
          have := sum_upd (n := k' + 1) (q := q1) F.lt
          omega
      · obtain ⟨gs', ops, q', hrt, hsz, hoth, hq', F2, hlt⟩ := F'.slip (sl := sl') hi0 em hi hg (fun y z _ hz => hfix y z hz)
        exact ⟨_, _, 2 * sumTo gs'.size q', hpick.trans hrt, by omega, .inr (.inr ⟨gs', d', sl', q', gm, k, rfl, by rw [hoth 0 (Ne.symm hi0)]; exact ha, F2, by rw [hoth _ (Ne.symm em)]; exact hm, hw, by rw [hq' _ (Ne.symm em)]; exact hk, o1, o2, rfl⟩)⟩)
    _ _ T (.inr (.inl ⟨gs, w.drawn, sl, μ, rfl, h0, hG, rfl⟩))
  exact ⟨N, gs', d, k, μ', sl', T', hrun, h2, h3⟩
end
end Go.Proofs.Ytiacfaeanlkalaa
