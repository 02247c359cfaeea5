/- A goroutine that sends numbers at a select until it is stopped, and who takes them, part B. No program. -/
import Derived.Test.YtiacfaeanlkalaaGnA
import Derived.Conc.TokenWalk
set_option linter.unusedSimpArgs false
namespace Go.Proofs.Ytiacfaeanlkalaa
set_option maxRecDepth 100000
open Go.Conc
open Go.ConcN (sumTo upd sumTo_upd upd_ne upd_same)

/-! ### a goroutine that sends, number by number, at a select over its channel and a stop channel -/

/-- the still places: all that was there when it was started; its channel's own block -/
def StillG (c1 N : Nat) (l : Loc) : Prop := (∃ a, l = .cell a ∧ a.block < N) ∨ l = .obj c1

structure Gen (P : Program) where
  c1 : Nat
  c2 : Nat
  m : Nat
  N : Nat
  K : World → Prop
  z1 : Value
  zb : Value
  home : Int → Goroutine → Prop
  nx : Int → Int
  c1N : c1 < N
  c2N : c2 < N
  c12 : c1 ≠ c2
  mpos : 0 < m
  Kat : ∀ w d, K w → K (w.at d)
  Kch : ∀ w c cap buf cl a b tm, c = c1 ∨ c = c2 → K w → K (w.setChan c cap buf cl a b tm)
  at_ : ∀ x g, home x g → g.status = .running ∧ ∀ w, stepG P false g w = .comm g #[scase c1 (.int .i64 x) z1, rcase c2 zb] true .select w #[]
  next : ∀ x g, home x g → ∃ k w0, Goes P false (RK K) (DS (StillG c1 N) N) (fun g' _ => home (nx x) g') k (g.finishComm P #[scase c1 (.int .i64 x) z1, rcase c2 zb] .select ((0 : Nat) : Int) undef false) w0
  stop : ∀ x g, home x g → ∃ k w0, Goes P false (RK K) (DS (StillG c1 N) N) (fun g' _ => g'.status = .running ∧ mayWake P g' = true ∧ ∃ g'' n, QuitsD P n 0 g'' ∧
      ∀ (w : World) a b, w.heap[c1]? = some (.chan 0 #[] false a b false) → stepG P false g' w = .go g'' (w.setChan c1 0 #[] true a b false) (closeEvents c1)) k (g.finishComm P #[scase c1 (.int .i64 x) z1, rcase c2 zb] .select ((1 : Nat) : Int) (.bool true) true) w0

section
variable {P : Program} (X : Gen P)
def Gen.sel (x : Int) : Array CommCase := #[scase X.c1 (.int .i64 x) X.z1, rcase X.c2 X.zb]
def Gen.AtCl (g' : Goroutine) : Prop := g'.status = .running ∧ mayWake P g' = true ∧ ∃ g'' n, QuitsD P n 0 g'' ∧
      ∀ (w : World) a b, w.heap[X.c1]? = some (.chan 0 #[] false a b false) → stepG P false g' w = .go g'' (w.setChan X.c1 0 #[] true a b false) (closeEvents X.c1)
def Gen.Still : Loc → Prop := StillG X.c1 X.N
def Gen.Mem (g : Nat) : Prop := g = 0 ∨ g = X.m
def Gen.Loose (g : Nat) : Prop := g = X.m
/-- a channel of theirs, open, nothing under way -/
def OpenC (c : Nat) (w : World) : Prop := ∃ k, w.heap[c]? = some (.chan 0 #[] false k k false)

structure Fx (T : Trace) (gs : Array Goroutine) (w : World) (q : Nat → Nat) : Prop where
  lt : X.m < gs.size
  bg : ∀ i g, i ≠ 0 → i ≠ X.m → gs[i]? = some g → QuitsD P (q i) (Deaf T i) g
  above : ∀ j, gs.size ≤ j → Deaf T j = 0
  keep : X.K w
  past : ∃ B, X.N ≤ B ∧ PastH X.Still X.Mem X.Loose B 0 T

/-- the child is within k steps of E -/
def Gen.Way (E : Goroutine → Prop) (k : Nat) (g : Goroutine) : Prop := ∃ w0, Goes P false (RK X.K) (DS X.Still X.N) (fun g' _ => E g') k g w0
end

section
variable {P : Program} {X : Gen P} {T : Trace} {gs : Array Goroutine} {w : World} {q : Nat → Nat} {E : Goroutine → Prop}

theorem Fx.at (F : Fx X T gs w q) (d : Nat) : Fx X T gs (w.at d) q := ⟨F.lt, F.bg, F.above, X.Kat _ _ F.keep, F.past⟩
theorem Fx.lt0 (F : Fx X T gs w q) : 0 < gs.size := by have := F.lt; omega

/-- operations of 0 and m alone, or that touch nobody's hearing -/
theorem Fx.both (F : Fx X T gs w q) {gs' : Array Goroutine} {w' : World} {ops : Trace} {q' : Nat → Nat} (hsz : gs'.size = gs.size) (hoth : ∀ i, i ≠ 0 → i ≠ X.m → gs'[i]? = gs[i]?) (hq : ∀ i, i ≠ 0 → i ≠ X.m → q' i = q i)
    (hd : ∀ j, j ≠ 0 → j ≠ X.m → Deaf (T ++ ops) j = Deaf T j) (hk : X.K w') (hp : ∃ B, X.N ≤ B ∧ PastH X.Still X.Mem X.Loose B 0 (T ++ ops)) : Fx X (T ++ ops) gs' w' q' := by
  refine ⟨by rw [hsz]; exact F.lt, fun i g h0 hm hg => ?_, fun j hj => ?_, hk, hp⟩
  · rw [hoth i h0 hm] at hg
    rw [hq i h0 hm, hd i h0 hm]
    exact F.bg i g h0 hm hg
  · have hl := F.lt
    rw [hd j (by omega) (by omega)]
    exact F.above j (by omega)

theorem Fx.awake (F : Fx X T gs w q) (h0 : ∀ a, gs[0]? = some a → awake a) (hm : ∀ a, gs[X.m]? = some a → Go.Conc.awake a) : ∀ g ∈ gs, Go.Conc.awake g := by
  intro g hg
  obtain ⟨i, hi, rfl⟩ := Array.mem_iff_getElem.1 hg
  by_cases e0 : i = 0
  · subst e0; exact h0 _ (Array.getElem?_eq_getElem hi)
  by_cases em : i = X.m
  · subst em; exact hm _ (Array.getElem?_eq_getElem hi)
  exact awake_of ((F.bg i _ e0 em (Array.getElem?_eq_getElem hi)).status.elim .inl fun x => .inr (.inr x))

theorem Fx.quiet (F : Fx X T gs w q) {i : Nat} {g : Goroutine} (h0 : i ≠ 0) (hm : i ≠ X.m) (hg : gs[i]? = some g) (c : Nat) (b : Bool) : offersAt g c b = [] :=
  offersAt_of_not_blocked (fun hb => by rcases (F.bg i g h0 hm hg).status with z | z <;> rw [z] at hb <;> cases hb) c b

theorem set_keep {i : Nat} {g g' : Goroutine} {w' : World} (hfix : ∀ x y, x ≠ i → gs[x]? = some y → y.again w' = y) : ∀ x, x ≠ i → ((gs.map (woken P g g' w')).setIfInBounds i g')[x]? = gs[x]? := by
  intro x hx
  rw [Array.getElem?_setIfInBounds_ne (Ne.symm hx), Array.getElem?_map]
  cases e : gs[x]? with
  | none => rfl
  | some y =>
    have := hfix x y hx e
    simp only [Option.map_some, Option.some.injEq]
    unfold woken
    split
    · exact this
    · rfl

theorem sum_upd {m i n : Nat} {q : Nat → Nat} (hlt : i < m) : sumTo m (upd q i n) + q i = sumTo m q + n := sumTo_upd q n id hlt

/-- a leaver slips -/
theorem Fx.slip (F : Fx X T gs w q) {i : Nat} {g : Goroutine} {sl : Option (Nat × Nat)} (h0 : i ≠ 0) (hm : i ≠ X.m) (hg : gs[i]? = some g) (hr : g.status = .running)
    (hfix : ∀ x y, x ≠ i → gs[x]? = some y → y.again w = y) :
    ∃ gs' ops q', runT P (crowd gs w sl) i = (.next (crowd gs' w sl), ops) ∧ gs'.size = gs.size ∧ (∀ x, x ≠ i → gs'[x]? = gs[x]?) ∧ (∀ x, x ≠ i → q' x = q x) ∧ Fx X (T ++ ops) gs' w q' ∧ sumTo gs'.size q' < sumTo gs.size q := by
  have hlt : i < gs.size := (Array.getElem?_eq_some_iff.1 hg).1
  have hq := F.bg i g h0 hm hg
  have hi0 : (i == 0) = false := by simpa using h0
  obtain ⟨k, g', es, hk, hmu, hs, hq'⟩ : ∃ k g' es, q i = k + 1 ∧ (∀ e ∈ es, Event.mute e = true) ∧ (∀ w, stepG P (i == 0) g w = .go g' w es) ∧ QuitsD P k (deafBehind (Deaf T i) es) g' := by
    cases hk : q i with
    | zero => rw [hk] at hq; rw [hq.1] at hr; cases hr
    | succ k =>
      rw [hk] at hq
      rcases hq with ⟨hf, _⟩ | ⟨_, g', es, hmu, hs, hq'⟩
      · rw [hf] at hr; cases hr
      · exact ⟨k, g', es, rfl, hmu, fun w => by rw [hi0]; exact hs w, hq'⟩
  have hops := ops_of i g.frame.fn g.frame.place es
  have hset := set_keep (P := P) (g := g) (g' := g') hfix
  obtain ⟨B, hB, hP⟩ := F.past
  refine ⟨_, _, upd q i k, runT_crowd_go hg (hs w), by simp, hset, fun x hx => upd_ne q k hx, ?_, by simp only [Array.size_setIfInBounds, Array.size_map]; exact sum_less hlt hk⟩
  refine ⟨by simpa using F.lt, fun x y hx0 hxm hy => ?_, fun j hj => ?_, F.keep, B, hB, ?_⟩
  · by_cases e : x = i
    · subst e
      rw [Array.getElem?_setIfInBounds_self_of_lt (by simpa using hlt)] at hy
      obtain rfl := Option.some.inj hy
      rw [upd_same, Deaf_own]
      exact hq'
    · rw [hset x e] at hy
      rw [upd_ne q k e, Deaf_other T (Ne.symm e) _ hops]
      exact F.bg x y hx0 hxm hy
  · simp only [Array.size_setIfInBounds, Array.size_map] at hj
    rw [Deaf_other T (g' := i) (by omega) _ hops]
    exact F.above j hj
  · refine PastH.appMute hP hops (fun op hop => ?_) (fun hM => by rcases hM with h | h; exact absurd h h0; exact absurd h hm) (fun op hop => ?_)
    · rw [ofEvents_eq] at hop
      obtain ⟨e, he, rfl⟩ := Array.mem_map.1 hop
      exact touch_mute (hmu e he)
    · rw [ofEvents_eq] at hop
      obtain ⟨e, he, rfl⟩ := Array.mem_map.1 hop
      exact low_mute (hmu e he) B

theorem still_mem {l : Loc} (h : X.Still l) : l.isMemory = true := by
  rcases h with ⟨a, rfl, _⟩ | rfl <;> rfl

theorem Way.status {k : Nat} {g : Goroutine} (hE : ∀ g, E g → g.status = .running) (hw : X.Way E k g) (hK : X.K w) : g.status = .running := by
  obtain ⟨w0, hg⟩ := hw
  cases k with
  | zero => exact hE g (hg w hK)
  | succ k => exact hg.elim (fun x => hE g (x w hK)) (·.1)

/-- the child goes a step of its way, or stands at its end -/
theorem Fx.child (F : Fx X T gs w q) {k : Nat} {g : Goroutine} {sl : Option (Nat × Nat)} (hg : gs[X.m]? = some g) (hw : X.Way E k g) (hq : q X.m = k + 1)
    (hfix : ∀ x y, x ≠ X.m → gs[x]? = some y → y.again w = y) :
    E g ∨ ∃ gs' ops g' k', runT P (crowd gs w sl) X.m = (.next (crowd gs' w sl), ops) ∧ gs'.size = gs.size ∧ (∀ x, x ≠ X.m → gs'[x]? = gs[x]?) ∧ gs'[X.m]? = some g' ∧ X.Way E k' g' ∧ k' < k ∧ Fx X (T ++ ops) gs' w (upd q X.m (k' + 1)) := by
  have hm0 : (X.m == 0) = false := by have := X.mpos; simp; omega
  obtain ⟨w0, hgo⟩ := hw
  cases k with
  | zero => exact .inl (hgo w F.keep)
  | succ k =>
    rcases hgo with hs | ⟨_, hstep⟩
    · exact .inl (hs w F.keep)
    · have hs := hstep w F.keep
      cases hst : stepG P false g w with
      | go g' w' es =>
        rw [hst, goes_go] at hs
        obtain ⟨⟨rfl, hes⟩, hG⟩ := hs
        right
        have hset := set_keep (P := P) (g := g) (g' := g') hfix
        obtain ⟨hops, hr, hl, hd⟩ := evC_ops (i := X.m) (fn := g.frame.fn) (pos := g.frame.place) hes
        obtain ⟨B, hB, hP⟩ := F.past
        refine ⟨_, _, g', k, runT_crowd_go hg (by rw [hm0]; exact hst), by simp, hset, Array.getElem?_setIfInBounds_self_of_lt (by simpa using F.lt), ⟨w', hG⟩, Nat.lt_succ_self _, ?_⟩
        refine F.both (by simp) (fun i _ hm => hset i hm) (fun i _ hm => upd_ne q _ hm) (fun j _ hm => Deaf_other T (Ne.symm hm) _ hops) F.keep ⟨B, hB, ?_⟩
        exact hP.appRead (.inr rfl) rfl hops hr (hd T) (fun op hop => MemAct.low_mono hB (hl op hop))
      | _ => rw [hst] at hs; exact hs.elim
end
end Go.Proofs.Ytiacfaeanlkalaa
