/- A goroutine that sends numbers at a select until it is stopped, and who takes them, part F. No program. -/
import Derived.Test.YtiacfaeanlkalaaGnE
set_option linter.unusedSimpArgs false
namespace Go.Proofs.Ytiacfaeanlkalaa
set_option maxRecDepth 100000
open Go.Conc
open Go.ConcN (sumTo upd sumTo_upd upd_ne upd_same)

/-- within j silent steps of a receive -/
def SilTo (P : Program) (c1 : Nat) (a' : Goroutine) (z : Value) (ok : Bool) : Nat → Goroutine → Prop
  | 0, a => a.status = .running ∧ ∀ u, stepG P true a u = .comm a' #[rcase c1 z] true (.recv ok) u #[]
  | j + 1, a => a.status = .running ∧ ∃ b, (∀ u, stepG P true a u = .go b u #[]) ∧ SilTo P c1 a' z ok j b
theorem SilTo.running {P : Program} {c1 : Nat} {a' : Goroutine} {z : Value} {ok : Bool} : ∀ {j : Nat} {a : Goroutine}, SilTo P c1 a' z ok j a → a.status = .running
  | 0, _, h => h.1
  | _ + 1, _, h => h.1

/-- the close stands in the trace; all that anybody touched is known to goroutine 0, or is the closer's, ahead of it -/
structure PC {P : Program} (X : Gen P) (T : Trace) : Prop where
  past : ∃ B, X.N ≤ B ∧ PastH X.Still (fun g => g = 0) X.Loose B 0 T
  shut : ∃ p op, T[p]? = some op ∧ op.g = X.m ∧ op.act = .close X.c1 ∧ T.deaf X.m p = 0 ∧ ∀ i a, touchAt T i = some a → a.loc.isMemory = true → Knows T 0 i ∨ (i < p ∧ T.g? i = some X.m)

section
variable {P : Program} {X : Gen P} {T : Trace} {gs : Array Goroutine} {w : World} {q : Nat → Nat}

theorem PC.app {u : Trace} {i : Nat} (h : PC X T) (hi : i ≠ 0) (hu : ∀ op ∈ u, op.g = i) (hn : ∀ op ∈ u, op.act.touch? = none) (hl : ∀ B, ∀ op ∈ u, op.act.low B) : PC X (T ++ u) := by
  obtain ⟨⟨B, hB, hP⟩, p, op, hop, hg, ha, hd, hk⟩ := h
  have hlt := lt_size_of_getElem? hop
  refine ⟨⟨B, hB, hP.appMute hu hn (fun h => absurd h hi) (hl B)⟩, p, op, by rw [getElem?_append_old hlt]; exact hop, hg, ha, by rw [deaf_old (Nat.le_of_lt hlt)]; exact hd, fun j a ht hm => ?_⟩
  obtain ⟨y, hy, hya⟩ := touch_of ht
  rcases getElem?_append_cases hy with ⟨hj, hy'⟩ | ⟨_, hyu⟩
  · rcases hk j a (by rw [touchAt_of hy']; exact hya) hm with h | ⟨h1, h2⟩
    · exact .inl (h.app u)
    · exact .inr ⟨h1, by rw [g?_old hj]; exact h2⟩
  · rw [hn y hyu] at hya; cases hya

/-- the receive that finds it closed: all is known to goroutine 0 -/
theorem PC.take (h : PC X T) (fn : FuncId) (pos : String) : ∃ B, Past (fun _ => False) B (T ++ #[{ g := 0, fn := fn, pos := pos, act := .recvClosed X.c1 }]) := by
  obtain ⟨⟨B, hB, hP⟩, p, op, hop, hg, ha, hd, hk⟩ := h
  have hlt := lt_size_of_getElem? hop
  generalize hu : (#[{ g := 0, fn := fn, pos := pos, act := .recvClosed X.c1 }] : Trace) = u
  have hn : ∀ op ∈ u, op.act.touch? = none := by
    intro op hop
    subst hu
    simp only [List.mem_toArray, List.mem_cons, List.not_mem_nil, or_false] at hop
    subst hop; rfl
  have hq : ∀ g, ∀ op ∈ u, ∀ d, deafStep g d op = d := by
    intro g op hop d
    subst hu
    simp only [List.mem_toArray, List.mem_cons, List.not_mem_nil, or_false] at hop
    subst hop; rfl
  have e0 : (T ++ u)[T.size]? = some { g := 0, fn := fn, pos := pos, act := .recvClosed X.c1 } := by subst hu; simp
  have hop' : (T ++ u)[p]? = some op := by rw [getElem?_append_old hlt]; exact hop
  have edge : HappensBefore (T ++ u) p T.size :=
    Relation.TransGen.single (.inr ⟨.closed (by rw [act?_of hop', ha]) (act?_of e0), ⟨X.m, by rw [g?_of hop', hg], by rw [deaf_old (Nat.le_of_lt hlt)]; exact hd⟩, ⟨0, g?_of e0, by rw [deaf_old (Nat.le_refl _)]; exact hP.hears 0 rfl⟩⟩)
  have key : PastH X.Still (fun g => g = 0) (fun _ => False) B 0 (T ++ u) := by
    refine ⟨fun said => noRace_appendMute (hP.clean said) hn, fun i a hi hm => .inl ?_, fun i a hi hw hS g hg => ?_, fun g hg => (Deaf_quiet (hq g)).trans (hP.hears g hg), seen_app hP.seen fun op hop => ?_⟩
    · obtain ⟨y, hy, hya⟩ := touch_of hi
      rcases getElem?_append_cases hy with ⟨hil, hy'⟩ | ⟨_, hyu⟩
      · rcases hk i a (by rw [touchAt_of hy']; exact hya) hm with h | ⟨h1, h2⟩
        · exact h.app u
        · have hym : y.g = X.m := by have := g?_of hy'; rw [h2] at this; exact (Option.some.inj this).symm
          exact ⟨T.size, _, e0, rfl, .inr ((hb_po h1 hy hop' (hym.trans hg.symm)).trans edge)⟩
      · rw [hn y hyu] at hya; cases hya
    · obtain ⟨y, hy, hya⟩ := touch_of hi
      rcases getElem?_append_cases hy with ⟨_, hy'⟩ | ⟨_, hyu⟩
      · exact (hP.wrote i a (by rw [touchAt_of hy']; exact hya) hw hS g hg).app u
      · rw [hn y hyu] at hya; cases hya
    · subst hu
      simp only [List.mem_toArray, List.mem_cons, List.not_mem_nil, or_false] at hop
      subst hop
      have := X.c1N
      show X.c1 < B
      omega
  exact ⟨B, key.toPast rfl (fun _ h => h)⟩

/-- its close, in the trace -/
theorem pc_close {B : Nat} (hB : X.N ≤ B) (hP : PastH X.Still X.Mem X.Loose B 0 T) (fn : FuncId) (pos : String) : PC X (T ++ MemOp.ofEvents X.m fn pos (closeEvents X.c1)) := by
  rw [closeOps]
  generalize hu : (#[{ g := X.m, fn := fn, pos := pos, act := .access ⟨.obj X.c1, false, true⟩ }, { g := X.m, fn := fn, pos := pos, act := .close X.c1 }] : Trace) = u
  have hops : ∀ op ∈ u, op.g = X.m := by
    intro op hop
    subst hu
    simp only [List.mem_toArray, List.mem_cons, List.not_mem_nil, or_false] at hop
    rcases hop with rfl | rfl <;> rfl
  have hr : ∀ op ∈ u, ∀ b, op.act.touch? = some b → b.write = false ∧ X.Still b.loc := by
    intro op hop b hb
    subst hu
    simp only [List.mem_toArray, List.mem_cons, List.not_mem_nil, or_false] at hop
    rcases hop with rfl | rfl
    · simp only [MemAct.touch?, Option.some.injEq] at hb
      subst hb
      exact ⟨rfl, .inr rfl⟩
    · cases hb
  have hq : ∀ g, ∀ op ∈ u, ∀ d, deafStep g d op = d := by
    intro g op hop d
    subst hu
    simp only [List.mem_toArray, List.mem_cons, List.not_mem_nil, or_false] at hop
    rcases hop with rfl | rfl <;> rfl
  have hl : ∀ op ∈ u, op.act.low B := by
    intro op hop
    have := X.c1N
    subst hu
    simp only [List.mem_toArray, List.mem_cons, List.not_mem_nil, or_false] at hop
    rcases hop with rfl | rfl
    · show X.c1 < B; omega
    · show X.c1 < B; omega
  have hP' : PastH X.Still X.Mem X.Loose B 0 (T ++ u) := hP.appRead (.inr rfl) rfl hops hr (Deaf_quiet (hq _)) hl
  have e1 : (T ++ u)[T.size + 1]? = some { g := X.m, fn := fn, pos := pos, act := .close X.c1 } := by subst hu; simp
  refine ⟨⟨B, hB, PastG.fewer hP' fun g hg => .inl hg⟩, T.size + 1, _, e1, rfl, rfl, ?_, fun i a ht hm => ?_⟩
  · rw [deaf_quiet (hq _) 1 (by subst hu; simp)]
    exact hP.hears X.m (.inr rfl)
  · rcases hP'.known i a ht hm with h | ⟨_, _, g, hg, hL⟩
    · exact .inl h
    · obtain rfl : g = X.m := hL
      refine .inr ⟨?_, hg⟩
      obtain ⟨y, hy, hya⟩ := touch_of ht
      have hi := lt_size_of_getElem? hy
      have hsz : (T ++ u).size = T.size + 2 := by subst hu; simp
      rw [hsz] at hi
      rcases Nat.lt_or_ge i (T.size + 1) with h | h
      · exact h
      · obtain rfl : i = T.size + 1 := by omega
        rw [e1] at hy
        cases hy
        cases hya

/-- ████ THE LAST WORD: the child closes its channel, goroutine 0 finds it closed: beside leavers again. ████ -/
theorem last {a a' : Goroutine} {z : Value} {ok : Bool} {j μ : Nat} {sl : Option (Nat × Nat)} (hG : ClIn X μ T gs w) (h0 : gs[0]? = some a) (hs : SilTo P X.c1 a' z ok j a) (hr' : a'.status = .running) (hst : ∀ u, stepG P true a' u = .comm a' #[rcase X.c1 z] true (.recv ok) u #[]) :
    ∃ N gs' d k μ' sl' T', runNT P N (crowd gs w sl) T = (.next (crowd gs' ((w.at d).setChan X.c1 0 #[] true k k false) sl'), T') ∧ gs'[0]? = some (Go.Conc.served a' (recvd ok z false)) ∧ AsideIn P μ' T' gs' ((w.at d).setChan X.c1 0 #[] true k k false) := by
  have hm0 : X.m ≠ 0 := by have := X.mpos; omega
  have hmb : (X.m == 0) = false := by simpa using hm0
  obtain ⟨q, gm, k, F, hm, hw, hk, o1, hμ⟩ := hG
  -- to the close
  let Done : Machine → Trace → Prop := fun mm t => ∃ gs1 d sl1 q1 j a1 k, mm = crowd gs1 ((w.at d).setChan X.c1 0 #[] true k k false) sl1 ∧ gs1[0]? = some a1 ∧ SilTo P X.c1 a' z ok j a1 ∧ Leavers P t gs1 q1 ∧ PC X t ∧ X.c1 < w.heap.size
  let InvA : Nat → Machine → Trace → Prop := fun ν mm t => ∃ gs1 d sl1 q1 gm k j a1, mm = crowd gs1 (w.at d) sl1 ∧ gs1[0]? = some a1 ∧ SilTo P X.c1 a' z ok j a1 ∧ Fx X t gs1 (w.at d) q1 ∧ gs1[X.m]? = some gm ∧ X.Way X.AtCl k gm ∧ q1 X.m = k + 1 ∧ OpenC X.c1 (w.at d) ∧ ν = sumTo gs1.size q1 + (j + 2)
  let InvB : Nat → Machine → Trace → Prop := fun ν mm t => ∃ gs1 d sl1 q1 gm k, mm = crowd gs1 (w.at d) sl1 ∧ gs1[0]? = some (parked a' #[rcase X.c1 z] (.recv ok)) ∧ Fx X t gs1 (w.at d) q1 ∧ gs1[X.m]? = some gm ∧ X.Way X.AtCl k gm ∧ q1 X.m = k + 1 ∧ OpenC X.c1 (w.at d) ∧ ν = sumTo gs1.size q1 + 1
  -- the child's close
  have shut : ∀ {gs1 : Array Goroutine} {d : Nat} {sl1 : Option (Nat × Nat)} {q1 : Nat → Nat} {gm : Goroutine} {t : Trace} {a1 a2 : Goroutine} {j : Nat}, Fx X t gs1 (w.at d) q1 → gs1[X.m]? = some gm → X.AtCl gm → OpenC X.c1 (w.at d) → gs1[0]? = some a1 →
      (∀ (k : Nat) (a b : Goroutine), mayWake P a = true → b.status ≠ .blocked → b.status ≠ .waiting → woken P a b ((w.at d).setChan X.c1 0 #[] true k k false) a1 = a2) → SilTo P X.c1 a' z ok j a2 → ∃ mm ops, runT P (crowd gs1 (w.at d) sl1) X.m = (.next mm, ops) ∧ Done mm (t ++ ops) := by
    intro gs1 d sl1 q1 gm t a1 a2 j F hm hE ho ha hwk hsil
    obtain ⟨hgr, hmw, g'', n, hq, hcl⟩ := hE
    obtain ⟨k, ho⟩ := ho
    have hrt := runT_crowd_go (P := P) (sl := sl1) hm (show stepG P (X.m == 0) gm (w.at d) = _ by rw [hmb]; exact hcl _ _ _ ho)
    obtain ⟨B, hB, hP⟩ := F.past
    have hb1 : g''.status ≠ .blocked ∧ g''.status ≠ .waiting := by
      have hst := hq.status
      constructor <;> (intro h; rw [h] at hst; rcases hst with h | h <;> cases h)
    refine ⟨_, _, hrt, _, d, sl1, upd q1 X.m n, j, a2, k, rfl, ?_, hsil, ⟨fun i g hi hg => ?_, fun i hi => ?_⟩, pc_close hB hP _ _, (Array.getElem?_eq_some_iff.1 ho).1⟩
    · rw [Array.getElem?_setIfInBounds_ne hm0, Array.getElem?_map, ha]
      simp only [Option.map_some, Option.some.injEq]
      exact hwk k gm g'' hmw hb1.1 hb1.2
    · by_cases em : i = X.m
      · subst em
        rw [Array.getElem?_setIfInBounds_self_of_lt (by simpa using F.lt)] at hg
        obtain rfl := Option.some.inj hg
        rw [upd_same, Deaf_own]
        have h1 : Deaf t X.m = 0 := hP.hears X.m (.inr rfl)
        rw [h1, deafBehind_still]
        · exact hq
        · intro e he
          simp only [closeEvents, List.mem_toArray, List.mem_cons, List.not_mem_nil, or_false] at he
          rcases he with rfl | rfl <;> exact ⟨by simp, by simp⟩
      · rw [Array.getElem?_setIfInBounds_ne (Ne.symm em), Array.getElem?_map] at hg
        obtain ⟨y, hy, rfl⟩ := Option.map_eq_some_iff.1 hg
        have hqy := F.bg i y (by omega) em hy
        rw [woken_quitsD hqy, upd_ne q1 n em, Deaf_other t (Ne.symm em) _ (ops_of _ _ _ _)]
        exact hqy
    · simp only [Array.size_setIfInBounds, Array.size_map] at hi
      have := F.lt
      rw [Deaf_other t (g' := X.m) (by omega) _ (ops_of _ _ _ _)]
      exact F.above i hi
  obtain ⟨N1, m1, T1, hrun1, gs1, d1, sl1, q1, j1, a1, k1, rfl, ha1, hsil1, hL1, hPC1, hcl1⟩ := runs_until (P := P) (Done := Done) (Inv := fun ν mm t => Done mm t ∨ InvA ν mm t ∨ InvB ν mm t) (fun ν mm t hInv => by
    rcases hInv with hd | ⟨gs1, d, sl1, q1, gm, k, j, a1, rfl, ha, hsil, F, hm, hw, hk, o1, hν⟩ | ⟨gs1, d, sl1, q1, gm, k, rfl, ha, F, hm, hw, hk, o1, hν⟩
    · exact .inl hd
    · refine .inr ?_
      have hr := hsil.running
      have hgr := Way.status (fun g hg => hg.1) hw F.keep
      have haw := F.awake (fun b hb => by rw [ha] at hb; cases hb; exact awake_of (.inl hr)) (fun b hb => by rw [hm] at hb; cases hb; exact awake_of (.inl hgr))
      obtain ⟨i, g, d', sl', hi, hg, hpick⟩ := crowd_pick (P := P) (w := w.at d) (sl := sl1) haw ⟨0, a1, ha, hr⟩
      rw [at_at'] at hpick
      have F' : Fx X t gs1 (w.at d') q1 := F.at d'
      have hfix := F'.fix (fun b hb => by rw [ha] at hb; cases hb; exact again_running _ (.inl hr)) (fun b hb => by rw [hm] at hb; cases hb; exact again_running _ (.inl hgr))
      by_cases h : i = 0
      · subst h
        cases j with
        | zero =>
          have hnw : ∀ cc ∈ (#[rcase X.c1 z] : Array CommCase), NoWays (w.at d') (gs1.setIfInBounds 0 ph) cc := by
            intro cc hcc
            simp only [List.mem_toArray, List.mem_cons, List.not_mem_nil, or_false] at hcc
            subst hcc
            obtain ⟨k1, o1⟩ := o1
            exact ways_recv_none (w₁ := w.at d') o1 (F'.partners_nil (fun a' hne _ => absurd rfl hne) (fun a' _ ha' => by
              rw [hm] at ha'; cases ha'
              exact offersAt_of_not_blocked (by rw [hgr]; simp) _ _))
          have hrt := crowd_waits (sl := sl') ha (show stepG P (0 == 0) a1 (w.at d') = _ from hsil.2 _) hnw
          rw [ofEvents_nil] at hrt
          refine ⟨_, _, sumTo gs1.size q1 + 1, hpick.trans hrt, by omega, .inr (.inr ⟨_, d', sl', q1, gm, k, rfl, Array.getElem?_setIfInBounds_self_of_lt F.lt0, ?_, by rw [Array.getElem?_setIfInBounds_ne (Ne.symm hm0)]; exact hm, hw, hk, o1, by simp⟩)⟩
          have hp := F.past
          exact F'.both (ops := #[]) (by simp) (fun j hj _ => Array.getElem?_setIfInBounds_ne (Ne.symm hj)) (fun j _ _ => rfl) (fun j _ _ => by simp) F'.keep (by simpa using hp)
        | succ j =>
          obtain ⟨_, b, hb, hsil'⟩ := hsil
          have hrt := runT_crowd_go (P := P) (sl := sl') (i := 0) ha (show stepG P (0 == 0) a1 (w.at d') = _ from hb _)
          rw [ofEvents_nil] at hrt
          have hset := set_keep (P := P) (i := 0) (g := a1) (g' := b) (w' := w.at d') (gs := gs1) (fun y z _ hz => hfix y z hz)
          refine ⟨_, _, sumTo gs1.size q1 + (j + 2), hpick.trans hrt, by omega, .inr (.inl ⟨_, d', sl', q1, gm, k, j, b, rfl, Array.getElem?_setIfInBounds_self_of_lt (by simpa using F.lt0), hsil', ?_, by rw [hset _ hm0]; exact hm, hw, hk, o1, by simp⟩)⟩
          have hp := F.past
          exact F'.both (ops := #[]) (by simp) (fun j hj _ => hset j hj) (fun j _ _ => rfl) (fun j _ _ => by simp) F'.keep (by simpa using hp)
      · by_cases em : i = X.m
        · subst em
          rw [hm] at hi
          obtain rfl := Option.some.inj hi
          rcases F'.child (sl := sl') hm hw hk (fun y z _ hz => hfix y z hz) with hE | ⟨gs', ops, g', k', hrt, hsz, hoth, hg', hw', hlt', F2⟩
          · obtain ⟨mm, ops, hrt, hd⟩ := shut (sl1 := sl') F' hm hE o1 ha (fun k a b _ _ _ => woken_run hr) hsil
            exact ⟨_, _, 0, hpick.trans hrt, by omega, .inl hd⟩
          · refine ⟨_, _, sumTo gs'.size (upd q1 X.m (k' + 1)) + (j + 2), hpick.trans hrt, ?_, .inr (.inl ⟨gs', d', sl', _, g', k', j, a1, rfl, by rw [hoth 0 (Ne.symm hm0)]; exact ha, hsil, F2, hg', hw', upd_same _ _ _, o1, rfl⟩)⟩
            rw [hsz]
            have := sum_upd (n := k' + 1) (q := q1) F.lt
            omega
        · obtain ⟨gs', ops, q', hrt, hsz, hoth, hq', F2, hlt⟩ := F'.slip (sl := sl') h em hi hg (fun y z _ hz => hfix y z hz)
          exact ⟨_, _, sumTo gs'.size q' + (j + 2), hpick.trans hrt, by omega, .inr (.inl ⟨gs', d', sl', q', gm, k, j, a1, rfl, by rw [hoth 0 (Ne.symm h)]; exact ha, hsil, F2, by rw [hoth _ (Ne.symm em)]; exact hm, hw, by rw [hq' _ (Ne.symm em)]; exact hk, o1, rfl⟩)⟩
    · refine .inr ?_
      have hgr := Way.status (fun g hg => hg.1) hw F.keep
      have haw := F.awake (fun b hb => by rw [ha] at hb; cases hb; exact awake_of (.inr (.inl rfl))) (fun b hb => by rw [hm] at hb; cases hb; exact awake_of (.inl hgr))
      obtain ⟨i, g, d', sl', hi, hg, hpick⟩ := crowd_pick (P := P) (w := w.at d) (sl := sl1) haw ⟨X.m, gm, hm, hgr⟩
      rw [at_at'] at hpick
      have F' : Fx X t gs1 (w.at d') q1 := F.at d'
      obtain ⟨k1, ho1⟩ := id o1
      have hfix := F'.fix (fun b hb => by rw [ha] at hb; cases hb; exact again_recv_open (w := w.at d') ho1) (fun b hb => by rw [hm] at hb; cases hb; exact again_running _ (.inl hgr))
      have hi0 : i ≠ 0 := by
        rintro rfl
        rw [ha] at hi; cases hi; cases hg
      by_cases em : i = X.m
      · subst em
        rw [hm] at hi
        obtain rfl := Option.some.inj hi
        rcases F'.child (sl := sl') hm hw hk (fun y z _ hz => hfix y z hz) with hE | ⟨gs', ops, g', k', hrt, hsz, hoth, hg', hw', hlt', F2⟩
        · obtain ⟨mm, ops, hrt, hd⟩ := shut (sl1 := sl') (j := 0) (a2 := { parked a' #[rcase X.c1 z] (.recv ok) with status := .running }) F' hm hE o1 ha (fun k a b h1 h2 h3 => by
            unfold woken
            have e1 : (b.status != .blocked) = true := by simpa using h2
            have e2 : (b.status != .waiting) = true := by simpa using h3
            simp only [h1, e1, e2, Bool.and_self, if_true]
            have hlt : X.c1 < (w.at d').heap.size := (Array.getElem?_eq_some_iff.1 ho1).1
            exact again_recv_closed (cap := 0) (buf := #[]) (s := k) (r := k) (tm := false) (show ((w.at d').setChan X.c1 0 #[] true k k false).heap[X.c1]? = _ from Array.getElem?_setIfInBounds_self_of_lt hlt)) ⟨rfl, fun u => by
              rw [stepG_tries]
              have : { a' with status := .running } = a' := by rw [← hr']
              rw [this]; exact hst u⟩
          exact ⟨_, _, 0, hpick.trans hrt, by omega, .inl hd⟩
        · refine ⟨_, _, sumTo gs'.size (upd q1 X.m (k' + 1)) + 1, hpick.trans hrt, ?_, .inr (.inr ⟨gs', d', sl', _, g', k', rfl, by rw [hoth 0 (Ne.symm hm0)]; exact ha, F2, hg', hw', upd_same _ _ _, o1, rfl⟩)⟩
          rw [hsz]
          have := sum_upd (n := k' + 1) (q := q1) F.lt
          omega
      · obtain ⟨gs', ops, q', hrt, hsz, hoth, hq', F2, hlt⟩ := F'.slip (sl := sl') hi0 em hi hg (fun y z _ hz => hfix y z hz)
        exact ⟨_, _, sumTo gs'.size q' + 1, hpick.trans hrt, by omega, .inr (.inr ⟨gs', d', sl', q', gm, k, rfl, by rw [hoth 0 (Ne.symm hi0)]; exact ha, F2, by rw [hoth _ (Ne.symm em)]; exact hm, hw, by rw [hq' _ (Ne.symm em)]; exact hk, o1, rfl⟩)⟩)
    (sumTo gs.size q + (j + 2)) _ T (.inr (.inl ⟨gs, w.drawn, sl, q, gm, k, j, a, rfl, h0, hs, F, hm, hw, hk, o1, rfl⟩))
  -- to the receive
  let W : Nat → World := fun d => (w.at d).setChan X.c1 0 #[] true k1 k1 false
  have hWe : ∀ d, W d = (w.at d).setChan X.c1 0 #[] true k1 k1 false := fun _ => rfl
  have hW : ∀ d d', (W d).at d' = W d' := fun _ _ => rfl
  have hWc : ∀ d, (W d).heap[X.c1]? = some (.chan 0 #[] true k1 k1 false) := fun d => Array.getElem?_setIfInBounds_self_of_lt hcl1
  let Done2 : Machine → Trace → Prop := fun mm t => ∃ gs1 d μ' sl', mm = crowd gs1 (W d) sl' ∧ gs1[0]? = some (Go.Conc.served a' (recvd ok z false)) ∧ AsideIn P μ' t gs1 (W d)
  let InvC : Nat → Machine → Trace → Prop := fun ν mm t => ∃ gs1 d sl1 q1 j a1, mm = crowd gs1 (W d) sl1 ∧ gs1[0]? = some a1 ∧ SilTo P X.c1 a' z ok j a1 ∧ Leavers P t gs1 q1 ∧ PC X t ∧ ν = sumTo gs1.size q1 + (j + 1)
  clear_value W
  obtain ⟨N2, m2, T2, hrun2, gs2, d2, μ2, sl2, rfl, h2, h3⟩ := runs_until (P := P) (Done := Done2) (Inv := fun ν mm t => Done2 mm t ∨ InvC ν mm t) (fun ν mm t hInv => by
    rcases hInv with hd | ⟨gs1, d, sl1, q1, j, a1, rfl, ha, hsil, hL, hPC, hν⟩
    · exact .inl hd
    · refine .inr ?_
      have hr := hsil.running
      have hlt0 : 0 < gs1.size := (Array.getElem?_eq_some_iff.1 ha).1
      have haw : ∀ y ∈ gs1, awake y := by
        intro y hy
        obtain ⟨i, hi, rfl⟩ := Array.mem_iff_getElem.1 hy
        rcases Nat.eq_zero_or_pos i with rfl | hpos
        · have : gs1[0] = a1 := by simpa [Array.getElem?_eq_getElem hi] using ha
          rw [this]; exact awake_of (.inl hr)
        · exact awake_of ((hL.old i _ hpos (Array.getElem?_eq_getElem hi)).status.elim .inl fun x => .inr (.inr x))
      obtain ⟨i, g, d', sl', hi, hg, hpick⟩ := crowd_pick (P := P) (w := W d) (sl := sl1) haw ⟨0, a1, ha, hr⟩
      rw [hW] at hpick
      rcases Nat.eq_zero_or_pos i with rfl | hpos
      · cases j with
        | zero =>
          have hp : partners (gs1.setIfInBounds 0 ph) X.c1 true = [] := Go.Conc.partners_nil fun j' g' hg' => by
            rcases getElem?_stand gs1 0 j' g' hg' with ⟨_, rfl⟩ | ⟨hne, hg''⟩
            · exact offersAt_ph _ _
            · exact offersAt_of_not_blocked (fun hb => by rcases (hL.old j' g' (by omega) hg'').status with e | e <;> rw [e] at hb <;> cases hb) _ _
          have hrt := crowd_recv_closed (sl := sl') ha (show stepG P (0 == 0) a1 (W d') = _ from hsil.2 _) (hWc d') hp
          rw [ofEvents_nil, Array.empty_append] at hrt
          obtain ⟨B, hB⟩ := hPC.take a'.frame.fn a'.frame.place
          refine ⟨_, _, 0, hpick.trans hrt, by omega, .inl ⟨_, d', _, sl', rfl, ?_, q1, B, ⟨fun i' y hi' hy => ?_, fun i' hi' => ?_⟩, hB, rfl⟩⟩
          · rw [Array.getElem?_setIfInBounds_self_of_lt hlt0, served_eq]
          · rw [Array.getElem?_setIfInBounds_ne (by omega)] at hy
            rw [Deaf_other t (g' := 0) (by omega) _ (fun op hop => by simp only [List.mem_toArray, List.mem_cons, List.not_mem_nil, or_false] at hop; subst hop; rfl)]
            exact hL.old i' y hi' hy
          · simp only [Array.size_setIfInBounds] at hi'
            rw [Deaf_other t (g' := 0) (by omega) _ (fun op hop => by simp only [List.mem_toArray, List.mem_cons, List.not_mem_nil, or_false] at hop; subst hop; rfl)]
            exact hL.above i' hi'
        | succ j =>
          obtain ⟨_, b, hb, hsil'⟩ := hsil
          have hrt := runT_crowd_go (P := P) (sl := sl') (i := 0) ha (show stepG P (0 == 0) a1 (W d') = _ from hb _)
          have hL' := leavers_set (g := a1) (g' := b) (w' := W d') (fn := a1.frame.fn) (pos := a1.frame.place) (es := #[]) (n := q1 0) hL hlt0 (fun h => absurd rfl h)
          have hu : upd q1 0 (q1 0) = q1 := by funext y; unfold upd; split <;> simp_all
          rw [hu, ofEvents_nil, Array.append_empty] at hL'
          rw [ofEvents_nil] at hrt
          refine ⟨_, _, sumTo gs1.size q1 + (j + 1), hpick.trans hrt, by omega, .inr ⟨_, d', sl', q1, j, b, rfl, Array.getElem?_setIfInBounds_self_of_lt (by simpa using hlt0), hsil', by rw [Array.append_empty]; exact hL', by rw [Array.append_empty]; exact hPC, by simp⟩⟩
      · obtain ⟨kq, g', es, hk, hmu, hs', hq'⟩ := leaver_slips hL hpos hi hg
        have hlt : i < gs1.size := (Array.getElem?_eq_some_iff.1 hi).1
        have hrt := runT_crowd_go (P := P) (sl := sl') hi (hs' (W d'))
        have hL' := leavers_set (g := g) (g' := g') (w' := W d') (fn := g.frame.fn) (pos := g.frame.place) (es := es) (n := kq) hL hlt (fun _ => by rw [Deaf_own]; exact hq')
        have hsum := sum_less (m := gs1.size) hlt hk
        refine ⟨_, _, sumTo gs1.size (upd q1 i kq) + (j + 1), hpick.trans hrt, by omega, .inr ⟨_, d', sl', upd q1 i kq, j, a1, rfl, ?_, hsil, hL', hPC.app (i := i) (by omega) (ops_of _ _ _ _) (fun op hop => ?_) (fun B op hop => ?_), by simp⟩⟩
        · rw [Array.getElem?_setIfInBounds_ne (by omega), Array.getElem?_map, ha]
          simp [woken_run hr]
        · rw [ofEvents_eq] at hop
          obtain ⟨e, he, rfl⟩ := Array.mem_map.1 hop
          exact touch_mute (hmu e he)
        · rw [ofEvents_eq] at hop
          obtain ⟨e, he, rfl⟩ := Array.mem_map.1 hop
          exact low_mute (hmu e he) B)
    (sumTo gs1.size q1 + (j1 + 1)) (crowd gs1 (W d1) sl1) T1 (.inr ⟨gs1, d1, sl1, q1, j1, a1, rfl, ha1, hsil1, hL1, hPC1, rfl⟩)
  refine ⟨N1 + N2, gs2, d2, k1, μ2, sl2, T2, ?_, h2, by rw [← hWe]; exact h3⟩
  rw [at_self] at hrun1
  rw [runNT_add, hrun1, ← hWe, ← hWe]
  exact hrun2
end
end Go.Proofs.Ytiacfaeanlkalaa
