/- A walk made for one goroutine alone is carried over to a machine of many, part A. No program. -/
import Derived.Calls
import Derived.Conc.Own
import Derived.Conc.Beside
import Derived.RunT
import Derived.Laws.Sem
namespace Go.Proofs.Ytiacfaeanlkalaa
set_option maxRecDepth 100000
open Go.Conc

/-- the same world with another tape, so many answers taken -/
def re (w : World) (τ : Nat → Question → Nat) (δ : Nat) : World := { w with tape := τ, drawn := δ }
theorem re_self (w : World) : re w w.tape w.drawn = w := rfl
theorem re_re (w : World) (τ τ' : Nat → Question → Nat) (δ δ' : Nat) : re (re w τ δ) τ' δ' = re w τ' δ' := rfl

def hushed : Halt → Prop
  | .panic _ | .stuck _ | .unsupported _ => True
  | _ => False

/-- what is said of an entry: it is no word of deafness -/
def Ev0 (e : Event) : Prop := e.loc ≠ .mark .disable ∧ e.loc ≠ .mark .enable

/-- CALM: it asks nothing of the outside but the environment, says no word of deafness, and ends in ok or in a plain halt. -/
def Calm (P : Program) {α : Type} (ok : α → Prop) : Sem α → Prop
  | .pure a => ok a
  | .load _ _ k => ∀ v, Calm P ok (k v)
  | .store _ _ _ k => Calm P ok k
  | .new _ k => ∀ r, Calm P ok (k r)
  | .shape _ k => ∀ s, Calm P ok (k s)
  | .freeze _ _ k => Calm P ok k
  | .frozen _ k => ∀ b, Calm P ok (k b)
  | .getObj _ k => ∀ o, Calm P ok (k o)
  | .setObj _ _ k => Calm P ok k
  | .choose _ k => ∀ n, Calm P ok (k n)
  | .sys c k => c = .env ∧ ∀ r, Calm P ok (k r)
  | .program k => Calm P ok (k P)
  | .mark m k => m ≠ .disable ∧ m ≠ .enable ∧ Calm P ok k
  | .halt h => hushed h

theorem calm_bind {P : Program} {α β : Type} {ok : α → Prop} {ok' : β → Prop} {s : Sem α} {f : α → Sem β} (h : Calm P ok s) (hf : ∀ a, ok a → Calm P ok' (f a)) : Calm P ok' (s >>= f) := by
  show Calm P ok' (s.bind f)
  induction s with
  | pure a => exact hf a h
  | load m a k ih => exact fun v => ih v (h v)
  | store m a v k ih => exact ih h
  | new o k ih => exact fun r => ih r (h r)
  | shape r k ih => exact fun s => ih s (h s)
  | freeze a n k ih => exact ih h
  | frozen a k ih => exact fun b => ih b (h b)
  | getObj r k ih => exact fun o => ih o (h o)
  | setObj r o k ih => exact ih h
  | choose q k ih => exact fun n => ih n (h n)
  | sys c k ih => exact ⟨h.1, fun r => ih r (h.2 r)⟩
  | program k ih => exact ih P h
  | mark m k ih => exact ⟨h.1, h.2.1, ih h.2.2⟩
  | halt hh => exact h

theorem calm_mono {P : Program} {α : Type} {ok ok' : α → Prop} {s : Sem α} (h : Calm P ok s) (hf : ∀ a, ok a → ok' a) : Calm P ok' s := by
  induction s with
  | pure a => exact hf a h
  | load m a k ih => exact fun v => ih v (h v)
  | store m a v k ih => exact ih h
  | new o k ih => exact fun r => ih r (h r)
  | shape r k ih => exact fun s => ih s (h s)
  | freeze a n k ih => exact ih h
  | frozen a k ih => exact fun b => ih b (h b)
  | getObj r k ih => exact fun o => ih o (h o)
  | setObj r o k ih => exact ih h
  | choose q k ih => exact fun n => ih n (h n)
  | sys c k ih => exact ⟨h.1, fun r => ih r (h.2 r)⟩
  | program k ih => exact ih P h
  | mark m k ih => exact ⟨h.1, h.2.1, ih h.2.2⟩
  | halt hh => exact h

/-- the tape τ from δ on answers as w's does from where it stands up to w' -/
def Agree (w w' : World) (τ : Nat → Question → Nat) (δ : Nat) : Prop := ∀ i q, w.drawn ≤ i → i < w'.drawn → τ (δ + (i - w.drawn)) q = w.tape i q
/-- w' is behind w: its tape, further on -/
def Trk (w w' : World) : Prop := w'.tape = w.tape ∧ w.drawn ≤ w'.drawn
theorem Trk.refl (w : World) : Trk w w := ⟨rfl, Nat.le_refl _⟩
theorem Trk.trans {a b c : World} (h : Trk a b) (k : Trk b c) : Trk a c := ⟨k.1.trans h.1, Nat.le_trans h.2 k.2⟩

def mapW {α : Type} (f : World → World) : Result α → Result α
  | .ok a w => .ok a (f w)
  | .halt h w => .halt h (f w)
def resW {α : Type} : Result α → World
  | .ok _ w => w
  | .halt _ w => w
def resOk {α : Type} (ok : α → Prop) : Result α → Prop
  | .ok a _ => ok a
  | .halt h _ => hushed h

theorem farLoad_re (P : Program) (w : World) (τ : Nat → Question → Nat) (δ : Nat) (a : Addr) (b : Bool) : (re w τ δ).farLoad P a b = w.farLoad P a b := rfl
theorem seen_re (P : Program) (w : World) (τ : Nat → Question → Nat) (δ : Nat) (a : Addr) (u : TypeId) (k : Addr) (b : Bool) : (re w τ δ).seen P a u k b = w.seen P a u k b := rfl

theorem viewStore_re (P : Program) (w : World) (τ : Nat → Question → Nat) (δ : Nat) (a : Addr) (u : TypeId) (k : Addr) (v : Value) (b : Bool) :
    (re w τ δ).viewStore P a u k v b = (w.viewStore P a u k v b).map fun x => (re x.1 τ δ, x.2) := by
  unfold World.viewStore
  rw [seen_re]
  simp only [bind, Except.bind, pure, Except.pure]
  repeat' split
  all_goals first | rfl | (simp_all [Except.map]; done)

theorem farStore_re (P : Program) (w : World) (τ : Nat → Question → Nat) (δ : Nat) (a : Addr) (v : Value) (b : Bool) :
    (re w τ δ).farStore P a v b = (w.farStore P a v b).map fun x => (re x.1 τ δ, x.2) := by
  have e : (re w τ δ).heap[a.block]? = w.heap[a.block]? := rfl
  have e2 : (re w τ δ).noCell a "store: no such cell" = w.noCell a "store: no such cell" := rfl
  unfold World.farStore
  rw [e]
  cases w.heap[a.block]? with
  | none => simp only [e2, Except.map]
  | some o =>
    cases o with
    | view at_ u =>
      simp only [viewStore_re]
      cases w.viewStore P at_ u a v b <;> rfl
    | _ => simp only [e2, Except.map]

theorem viewStore_trk {P : Program} {w w' : World} {a : Addr} {u : TypeId} {k : Addr} {v : Value} {b : Bool} {l : List Addr} (h : w.viewStore P a u k v b = .ok (w', l)) : w'.tape = w.tape ∧ w'.drawn = w.drawn := by
  unfold World.viewStore at h
  simp only [bind, Except.bind, pure, Except.pure] at h
  repeat' split at h
  all_goals first | (cases h; done) | (cases h; exact ⟨rfl, rfl⟩)
theorem farStore_trk {P : Program} {w w' : World} {a : Addr} {v : Value} {b : Bool} {l : List Addr} (h : w.farStore P a v b = .ok (w', l)) : w'.tape = w.tape ∧ w'.drawn = w.drawn := by
  unfold World.farStore at h
  split at h
  · split at h
    · rename_i r hr
      cases h
      exact viewStore_trk hr
    · cases h
  · cases h
theorem farStore_hush {P : Program} {w : World} {a : Addr} {v : Value} {b : Bool} {e : Halt} (h : w.farStore P a v b = .error e) : hushed e := by
  unfold World.farStore at h
  split at h
  · split at h
    · cases h
    · cases h; trivial
  · cases h
    unfold World.noCell
    split <;> trivial
theorem farLoad_hush {P : Program} {w : World} {a : Addr} {b : Bool} {e : Halt} (h : w.farLoad P a b = .error e) : hushed e := by
  unfold World.farLoad at h
  split at h
  · split at h
    · cases h
    · cases h; trivial
  · cases h
    unfold World.noCell
    split <;> trivial

theorem performEnv (os : Os) : ∃ r, r ≠ .wouldBlock ∧ Kernel.perform .env os = .done (r, os) := by
  refine ⟨_, ?_, rfl⟩
  simp
theorem sysEnv (w : World) : ∃ r, ∀ τ δ, (re w τ δ).sys .env = (r, re w τ δ) := by
  obtain ⟨r, hr, h⟩ := performEnv w.os
  refine ⟨r, fun τ δ => ?_⟩
  have h' : Kernel.perform .env (re w τ δ).os = .done (r, w.os) := h
  unfold World.sys
  rw [h']
  simp only [World.ask]
  cases r <;> first | rfl | exact absurd rfl hr

/-- ████ A calm computation: its end is ok or hushed; it takes answers from w's tape alone; with the same answers on another tape it does the same. ████ -/
theorem calm_run {P : Program} {α : Type} {ok : α → Prop} {s : Sem α} (h : Calm P ok s) : ∀ (w : World), resOk ok (s.run P w) ∧ Trk w (resW (s.run P w)) ∧
    ∀ τ δ, Agree w (resW (s.run P w)) τ δ → s.run P (re w τ δ) = mapW (fun w' => re w' τ (δ + (w'.drawn - w.drawn))) (s.run P w) := by
  induction s with
  | pure a => exact fun w => ⟨h, Trk.refl w, fun τ δ _ => by simp [Sem.run, mapW, re]⟩
  | load m a k ih =>
    intro w
    have e : ∀ τ δ, (re w τ δ).cell? a = w.cell? a := fun _ _ => rfl
    unfold Sem.run
    simp only [e, farLoad_re]
    cases w.cell? a with
    | some v => exact ih v (h v) w
    | none =>
      simp only
      cases hf : w.farLoad P a (m == .atomic) with
      | ok r => exact ih r.1 (h r.1) w
      | error e => exact ⟨farLoad_hush hf, Trk.refl w, fun τ δ _ => by simp [mapW]⟩
  | store m a v k ih =>
    intro w
    by_cases hv : (∃ x, v = .agg x) ∨ ∃ x, v = .tuple x
    · rcases hv with ⟨x, rfl⟩ | ⟨x, rfl⟩
      all_goals exact ⟨trivial, Trk.refl w, fun τ δ _ => by simp [Sem.run, mapW, re]⟩
    · have hrun : ∀ w : World, Sem.run P (.store m a v k) w = (match w.cell? a with
        | some _ => if w.frozen? a then .halt (.unsupported (.unsafePointer "a write to bytes that a string shares")) w else k.run P (w.setCell a v)
        | none => match w.farStore P a v (m == .atomic) with
          | .ok (w, _) => k.run P w
          | .error h => .halt h w) := by
        intro w
        cases v <;> first | rfl | exact absurd (.inl ⟨_, rfl⟩) hv | exact absurd (.inr ⟨_, rfl⟩) hv
      simp only [hrun]
      have e : ∀ τ δ, (re w τ δ).cell? a = w.cell? a := fun _ _ => rfl
      have e2 : ∀ τ δ, (re w τ δ).frozen? a = w.frozen? a := fun _ _ => rfl
      have e3 : ∀ τ δ, (re w τ δ).setCell a v = re (w.setCell a v) τ δ := fun _ _ => rfl
      simp only [e, e2, e3, farStore_re]
      cases w.cell? a with
      | some x =>
        simp only
        cases w.frozen? a with
        | true => exact ⟨trivial, Trk.refl w, fun τ δ _ => by simp [mapW]⟩
        | false => exact ih h (w.setCell a v)
      | none =>
        simp only
        cases hf : w.farStore P a v (m == .atomic) with
        | ok r =>
          obtain ⟨t1, t2⟩ := farStore_trk (l := r.2) hf
          obtain ⟨i1, i2, i3⟩ := ih h r.1
          refine ⟨i1, ⟨i2.1.trans t1, t2 ▸ i2.2⟩, fun τ δ hA => ?_⟩
          simp only [Except.map]
          have hA' : Agree r.1 (resW (k.run P r.1)) τ δ := fun i q h1 h2 => by rw [t1, t2]; exact hA i q (t2 ▸ h1) h2
          rw [i3 τ δ hA', t2]
        | error e => exact ⟨farStore_hush hf, Trk.refl w, fun τ δ _ => by simp [mapW, Except.map]⟩
  | new o k ih => exact fun w => ih w.heap.size (h _) { w with heap := w.heap.push o }
  | shape r k ih => exact fun w => ih _ (h _) w
  | freeze a n k ih =>
    intro w
    have t : (w.freeze a n).tape = w.tape ∧ (w.freeze a n).drawn = w.drawn := by unfold World.freeze; split <;> exact ⟨rfl, rfl⟩
    have e : ∀ τ δ, (re w τ δ).freeze a n = re (w.freeze a n) τ δ := fun τ δ => by unfold World.freeze; split <;> rfl
    obtain ⟨i1, i2, i3⟩ := ih h (w.freeze a n)
    refine ⟨i1, ⟨i2.1.trans t.1, by have := i2.2; rw [t.2] at this; exact this⟩, fun τ δ hA => ?_⟩
    show k.run P ((re w τ δ).freeze a n) = _
    rw [e, i3 τ δ (fun i q h1 h2 => by rw [t.1, t.2]; exact hA i q (by rw [← t.2]; exact h1) h2), t.2]
    rfl
  | frozen a k ih => exact fun w => ih _ (h _) w
  | getObj r k ih =>
    intro w
    unfold Sem.run
    have e : ∀ τ δ, (re w τ δ).heap[r]? = w.heap[r]? := fun _ _ => rfl
    simp only [e]
    cases w.heap[r]? with
    | none => exact ⟨trivial, Trk.refl w, fun τ δ _ => by simp [mapW]⟩
    | some o => cases o <;> first | exact ⟨trivial, Trk.refl w, fun τ δ _ => by simp [mapW]⟩ | exact ih _ (h _) w
  | setObj r o k ih =>
    intro w
    unfold Sem.run
    have e : ∀ τ δ, (re w τ δ).heap[r]? = w.heap[r]? := fun _ _ => rfl
    simp only [e]
    cases w.heap[r]? with
    | none => exact ⟨trivial, Trk.refl w, fun τ δ _ => by simp [mapW]⟩
    | some o' => cases o' <;> first | exact ⟨trivial, Trk.refl w, fun τ δ _ => by simp [mapW]⟩ | exact ih h { w with heap := w.heap.setIfInBounds r o }
  | choose q k ih =>
    intro w
    unfold Sem.run
    by_cases hq : q.forced = true
    · simp only [hq, if_true]
      exact ih 0 (h 0) w
    · simp only [hq]
      obtain ⟨i1, i2, i3⟩ := ih (q.cut (w.tape w.drawn q)) (h _) { w with drawn := w.drawn + 1 }
      refine ⟨i1, ⟨i2.1, Nat.le_of_succ_le i2.2⟩, fun τ δ hA => ?_⟩
      have h0 : τ δ q = w.tape w.drawn q := by
        have := hA w.drawn q (Nat.le_refl _) i2.2
        simpa using this
      show (if false = true then _ else (k (q.cut (τ δ q))).run P (re { w with drawn := w.drawn + 1 } τ (δ + 1))) = _
      rw [h0]
      simp only [Bool.false_eq_true, if_false]
      rw [i3 τ (δ + 1) (fun i q' h1 h2 => by
        have h1' : w.drawn + 1 ≤ i := h1
        have := hA i q' (by omega) h2
        show τ (δ + 1 + (i - (w.drawn + 1))) q' = w.tape i q'
        rw [← this]; congr 1; omega)]
      have hd : w.drawn + 1 ≤ (resW ((k (q.cut (w.tape w.drawn q))).run P { w with drawn := w.drawn + 1 })).drawn := i2.2
      revert hd
      cases (k (q.cut (w.tape w.drawn q))).run P { w with drawn := w.drawn + 1 } with
      | ok a w' => intro hd; simp only [mapW, resW] at hd ⊢; rw [show δ + 1 + (w'.drawn - (w.drawn + 1)) = δ + (w'.drawn - w.drawn) by omega]
      | halt a w' => intro hd; simp only [mapW, resW] at hd ⊢; rw [show δ + 1 + (w'.drawn - (w.drawn + 1)) = δ + (w'.drawn - w.drawn) by omega]
  | sys c k ih =>
    intro w
    obtain ⟨rfl, hk⟩ := h
    obtain ⟨r, hr⟩ := sysEnv w
    have h0 := hr w.tape w.drawn
    rw [re_self] at h0
    unfold Sem.run
    simp only [h0, hr]
    exact ih r (hk r) w
  | program k ih => exact fun w => ih P h w
  | mark m k ih => exact fun w => ih h.2.2 w
  | halt hh => exact fun w => ⟨h, Trk.refl w, fun τ δ _ => by simp [Sem.run, mapW, re]⟩

/-- what a calm computation lists says no word of deafness -/
theorem calm_evs {P : Program} {α : Type} {ok : α → Prop} {s : Sem α} (h : Calm P ok s) : ∀ (w : World) (es : Array Event), (∀ e ∈ es, Ev0 e) → ∀ e ∈ (s.runT P w es).2, Ev0 e := by
  have hp : ∀ {es : Array Event} {x : Event}, (∀ e ∈ es, Ev0 e) → Ev0 x → ∀ e ∈ es.push x, Ev0 e := fun hes hx e he => (Array.mem_push.1 he).elim (hes e) fun q => q ▸ hx
  have ha : ∀ {es : Array Event} (l : List Addr) (b c : Bool), (∀ e ∈ es, Ev0 e) → ∀ e ∈ es ++ l.toArray.map (fun a => (⟨.cell a, b, c⟩ : Event)), Ev0 e := fun l b c hes e he => (Array.mem_append.1 he).elim (hes e) fun q => by
    obtain ⟨x, _, rfl⟩ := Array.mem_map.1 q
    exact ⟨by simp, by simp⟩
  induction s with
  | pure a => exact fun w es hes => hes
  | load m a k ih =>
    intro w es hes
    unfold Sem.runT
    split
    · exact ih _ (h _) w _ (hp hes ⟨by simp, by simp⟩)
    · split
      · exact ih _ (h _) w _ (ha _ _ _ hes)
      · exact hes
  | store m a v k ih =>
    intro w es hes
    cases v
    case agg => exact hes
    case tuple => exact hes
    all_goals
      unfold Sem.runT
      split
      · split
        · exact hes
        · exact ih h _ _ (hp hes ⟨by simp, by simp⟩)
      · split
        · exact ih h _ _ (ha _ _ _ hes)
        · exact hes
  | new o k ih => exact fun w es hes => ih _ (h _) _ es hes
  | shape r k ih => exact fun w es hes => ih _ (h _) _ es hes
  | freeze a n k ih => exact fun w es hes => ih h _ es hes
  | frozen a k ih => exact fun w es hes => ih _ (h _) _ es hes
  | getObj r k ih =>
    intro w es hes
    unfold Sem.runT
    split
    · exact hes
    · exact ih _ (h _) w _ (hp hes ⟨by simp, by simp⟩)
    · exact hes
  | setObj r o k ih =>
    intro w es hes
    unfold Sem.runT
    split
    · exact hes
    · exact ih h _ _ (hp hes ⟨by simp, by simp⟩)
    · exact hes
  | choose q k ih =>
    intro w es hes
    unfold Sem.runT
    split
    · exact ih _ (h _) w es hes
    · exact ih _ (h _) _ es hes
  | sys c k ih => exact fun w es hes => ih _ (h.2 _) _ _ (hp hes ⟨by simp, by simp⟩)
  | program k ih => exact fun w es hes => ih P h w es hes
  | mark m k ih => exact fun w es hes => ih h.2.2 w _ (hp hes ⟨by simpa using h.1, by simpa using h.2.1⟩)
  | halt hh => exact fun w es hes => hes

section
variable {P : Program}
abbrev CT (P : Program) {α : Type} (s : Sem α) : Prop := Calm P (fun _ => True) s
theorem calm_stuck {α : Type} {ok : α → Prop} (m : String) : Calm P ok (stuck m : Sem α) := trivial
theorem calm_unsup {α : Type} {ok : α → Prop} (m : Unsupported) : Calm P ok (unsupported m : Sem α) := trivial
theorem calm_goPanic {α : Type} {ok : α → Prop} (v : Value) : Calm P ok (goPanic v : Sem α) := trivial
theorem calm_pureT {α : Type} (a : α) : Calm P (fun _ => True) (pure a : Sem α) := trivial
theorem calm_pureA {α : Type} (a : α) : Calm P (fun _ => True) (Sem.pure a : Sem α) := trivial
theorem calm_env : Calm P (fun _ => True) (sys .env) := ⟨rfl, fun _ => trivial⟩
theorem calm_program : Calm P (fun _ => True) program := trivial
theorem calm_choose (q : Question) : Calm P (fun _ => True) (choose q) := fun _ => trivial
theorem calm_getObj (q : Nat) : Calm P (fun _ => True) (getObj q) := fun _ => trivial
theorem calm_shape (q : Nat) : Calm P (fun _ => True) (shape q) := fun _ => trivial
theorem calm_frozen (q : Addr) : Calm P (fun _ => True) (frozen q) := fun _ => trivial
theorem calm_load (a : Addr) (m : Mode) : Calm P (fun _ => True) (load a m) := fun _ => trivial
theorem calm_store (a : Addr) (v : Value) (m : Mode) : Calm P (fun _ => True) (store a v m) := trivial
theorem calm_newObj (o : Obj) : Calm P (fun _ => True) (newObj o) := fun _ => trivial
theorem calm_noRoom : Calm P (fun _ => True) (mark .noRoom) := ⟨by simp, by simp, trivial⟩
theorem calm_askRoom (n : Nat) : Calm P (fun _ => True) (askRoom n) := by unfold askRoom; split; exact calm_noRoom; exact trivial
theorem calm_tyInfo (t : TypeId) : Calm P (fun _ => True) (typeInfo t) := by
  unfold typeInfo; refine calm_bind (ok := fun _ => True) trivial (fun _ _ => ?_); split <;> trivial
theorem calm_under (t : TypeId) : Calm P (fun _ => True) (underlying t) := by
  unfold underlying; refine calm_bind (ok := fun _ => True) trivial (fun _ _ => ?_); split <;> trivial
theorem calm_sizeOf (t : TypeId) : Calm P (fun _ => True) (sizeOf t) := calm_bind (calm_tyInfo t) fun _ _ => trivial
theorem calm_zero (t : TypeId) : Calm P (fun _ => True) (zeroValue t) := calm_bind (calm_tyInfo t) fun _ _ => by split <;> trivial
theorem calm_isAgg (t : TypeId) : Calm P (fun _ => True) (isAgg t) := calm_bind (calm_under t) fun _ _ => by split <;> trivial
theorem calm_loadCellsFrom (a : Addr) : ∀ (n i : Nat) (acc : Array Value), Calm P (fun _ => True) (loadCellsFrom a i n acc)
  | 0, _, _ => trivial
  | n + 1, _, _ => calm_bind (calm_load _ _) fun _ _ => calm_loadCellsFrom a n _ _
theorem calm_loadCells (a : Addr) (n : Nat) : Calm P (fun _ => True) (loadCells a n) := calm_loadCellsFrom a n 0 _
theorem calm_storeCells (a : Addr) : ∀ (vs : List Value) (i : Nat), Calm P (fun _ => True) (storeCells a vs i)
  | [], _ => trivial
  | _ :: vs, _ => calm_bind (calm_store _ _ _) fun _ _ => calm_storeCells a vs _
theorem calm_loadVar (t : TypeId) (a : Addr) : Calm P (fun _ => True) (loadVar t a) := calm_bind (calm_isAgg t) fun _ _ => by
  split
  · exact calm_bind (calm_sizeOf t) fun _ _ => calm_bind (calm_loadCells _ _) fun _ _ => trivial
  · exact calm_load _ _
theorem calm_storeVar (t : TypeId) (a : Addr) (v : Value) : Calm P (fun _ => True) (storeVar t a v) := calm_bind (calm_sizeOf t) fun _ _ => by
  split
  · exact calm_bind (ok := fun _ => True) (calm_stuck _) fun _ _ => calm_storeCells _ _ _
  · exact calm_storeCells _ _ _
theorem calm_newRow (t : TypeId) (c : Array Value) : Calm P (fun _ => True) (newRow t c) := calm_bind (calm_newObj _) fun _ _ => trivial
theorem calm_newVar (t : TypeId) (v : Value) : Calm P (fun _ => True) (newVar t v) := calm_newRow _ _
theorem calm_part (t : TypeId) (cs : Array Value) (o : Nat) : Calm P (fun _ => True) (part t cs o) := calm_bind (calm_isAgg t) fun _ _ => by
  split
  · exact calm_bind (calm_sizeOf t) fun _ _ => trivial
  · split <;> trivial
theorem calm_elemOf (t : TypeId) : Calm P (fun _ => True) (elemOf t) := calm_bind (calm_under t) fun _ _ => by split <;> trivial
theorem calm_rtPanic {α : Type} {ok : α → Prop} (e : RuntimeError) : Calm P ok (runtimePanic e : Sem α) := by
  unfold runtimePanic
  refine calm_bind (ok := fun _ => True) trivial (fun _ _ => ?_)
  cases e <;> first | exact trivial | exact calm_bind (calm_elemOf _) fun _ _ => calm_bind (calm_newVar _ _) fun _ _ => trivial
theorem calm_bounds {α : Type} {ok : α → Prop} (k : IntKind) (x y : Int) (c : BoundsCode) : Calm P ok (boundsPanic k x y c : Sem α) := by
  unfold boundsPanic
  dsimp only
  split
  · refine calm_bind (ok := fun _ => True) ?_ (fun _ _ => calm_rtPanic _)
    exact fun _ => trivial
  · refine calm_bind (ok := fun _ => True) ?_ (fun _ _ => calm_rtPanic _)
    exact trivial
theorem calm_asIntOf (v : Value) : Calm P (fun _ => True) (asIntOf v) := by unfold asIntOf; split <;> trivial
theorem calm_asInt (v : Value) : Calm P (fun _ => True) (asInt v) := calm_bind (calm_asIntOf v) fun _ _ => trivial
theorem calm_asBool (v : Value) : Calm P (fun _ => True) (asBool v) := by unfold asBool; split <;> trivial
theorem calm_asAgg (v : Value) : Calm P (fun _ => True) (asAgg v) := by unfold asAgg; split <;> trivial
theorem calm_asAddr (v : Value) : Calm P (fun _ => True) (asAddr v) := by unfold asAddr; split; exact trivial; exact calm_rtPanic _; exact trivial
theorem calm_sureAddr (v : Value) : Calm P (fun _ => True) (Instr.sureAddr v) := by unfold Instr.sureAddr; split <;> trivial

theorem calm_forInList {α β : Type} {f : α → β → Sem (ForInStep β)} (h : ∀ a b, Calm P (fun _ => True) (f a b)) : ∀ (l : List α) (b : β), Calm P (fun _ => True) (forIn l b f)
  | [], _ => trivial
  | a :: l, b => by
    rw [List.forIn_cons]
    refine calm_bind (ok := fun _ => True) (h a b) fun r _ => ?_
    cases r with
    | done b => exact trivial
    | yield b => exact calm_forInList h l b
theorem calm_forInArr {α β : Type} {f : α → β → Sem (ForInStep β)} (h : ∀ a b, Calm P (fun _ => True) (f a b)) (l : Array α) (b : β) : Calm P (fun _ => True) (forIn l b f) := by
  rw [← Array.forIn_toList]
  exact calm_forInList h _ _
theorem calm_forInRange {β : Type} {f : Nat → β → Sem (ForInStep β)} (h : ∀ a b, Calm P (fun _ => True) (f a b)) (l : Std.Legacy.Range) (b : β) : Calm P (fun _ => True) (forIn l b f) := by
  rw [Std.Legacy.Range.forIn_eq_forIn_range']
  exact calm_forInList h _ _

theorem calm_alloc (t : TypeId) (b : Bool) (v : Value) : Calm P (fun _ => True) (Instr.alloc t b v) := by
  unfold Instr.alloc
  repeat' first
    | with_reducible first | apply calm_stuck | apply calm_unsup | apply calm_goPanic | apply calm_rtPanic | apply calm_bounds | apply calm_under | apply calm_tyInfo | apply calm_sizeOf | apply calm_zero | apply calm_isAgg | apply calm_loadVar | apply calm_storeVar | apply calm_loadCells | apply calm_storeCells | apply calm_newRow | apply calm_newVar | apply calm_part | apply calm_asIntOf | apply calm_asInt | apply calm_asBool | apply calm_asAgg | apply calm_asAddr | apply calm_sureAddr | apply calm_choose | apply calm_getObj | apply calm_shape | apply calm_frozen | apply calm_askRoom | apply calm_noRoom | apply calm_env | apply calm_program | apply calm_pureT | apply calm_pureA | apply calm_newObj | apply calm_elemOf
    | with_reducible first | (refine calm_forInArr (fun _ _ => ?_) _ _) | (refine calm_forInRange (fun _ _ => ?_) _ _) | (refine calm_bind (ok := fun _ => True) ?_ (fun _ _ => ?_))
    | split
    | dsimp only

theorem calm_loadAt (t : TypeId) (v : Value) : Calm P (fun _ => True) (Instr.loadAt t v) := by
  unfold Instr.loadAt
  repeat' first
    | with_reducible first | apply calm_stuck | apply calm_unsup | apply calm_goPanic | apply calm_rtPanic | apply calm_bounds | apply calm_under | apply calm_tyInfo | apply calm_sizeOf | apply calm_zero | apply calm_isAgg | apply calm_loadVar | apply calm_storeVar | apply calm_loadCells | apply calm_storeCells | apply calm_newRow | apply calm_newVar | apply calm_part | apply calm_asIntOf | apply calm_asInt | apply calm_asBool | apply calm_asAgg | apply calm_asAddr | apply calm_sureAddr | apply calm_choose | apply calm_getObj | apply calm_shape | apply calm_frozen | apply calm_askRoom | apply calm_noRoom | apply calm_env | apply calm_program | apply calm_pureT | apply calm_pureA | apply calm_newObj | apply calm_elemOf
    | with_reducible first | (refine calm_forInArr (fun _ _ => ?_) _ _) | (refine calm_forInRange (fun _ _ => ?_) _ _) | (refine calm_bind (ok := fun _ => True) ?_ (fun _ _ => ?_))
    | split
    | dsimp only

theorem calm_storeAt (t : TypeId) (a v : Value) : Calm P (fun _ => True) (Instr.storeAt t a v) := by
  unfold Instr.storeAt
  repeat' first
    | with_reducible first | apply calm_stuck | apply calm_unsup | apply calm_goPanic | apply calm_rtPanic | apply calm_bounds | apply calm_under | apply calm_tyInfo | apply calm_sizeOf | apply calm_zero | apply calm_isAgg | apply calm_loadVar | apply calm_storeVar | apply calm_loadCells | apply calm_storeCells | apply calm_newRow | apply calm_newVar | apply calm_part | apply calm_asIntOf | apply calm_asInt | apply calm_asBool | apply calm_asAgg | apply calm_asAddr | apply calm_sureAddr | apply calm_choose | apply calm_getObj | apply calm_shape | apply calm_frozen | apply calm_askRoom | apply calm_noRoom | apply calm_env | apply calm_program | apply calm_pureT | apply calm_pureA | apply calm_newObj | apply calm_elemOf
    | with_reducible first | (refine calm_forInArr (fun _ _ => ?_) _ _) | (refine calm_forInRange (fun _ _ => ?_) _ _) | (refine calm_bind (ok := fun _ => True) ?_ (fun _ _ => ?_))
    | split
    | dsimp only

theorem calm_box (t : TypeId) (v : Value) : Calm P (fun _ => True) (Instr.box t v) := by
  unfold Instr.box
  repeat' first
    | with_reducible first | apply calm_stuck | apply calm_unsup | apply calm_goPanic | apply calm_rtPanic | apply calm_bounds | apply calm_under | apply calm_tyInfo | apply calm_sizeOf | apply calm_zero | apply calm_isAgg | apply calm_loadVar | apply calm_storeVar | apply calm_loadCells | apply calm_storeCells | apply calm_newRow | apply calm_newVar | apply calm_part | apply calm_asIntOf | apply calm_asInt | apply calm_asBool | apply calm_asAgg | apply calm_asAddr | apply calm_sureAddr | apply calm_choose | apply calm_getObj | apply calm_shape | apply calm_frozen | apply calm_askRoom | apply calm_noRoom | apply calm_env | apply calm_program | apply calm_pureT | apply calm_pureA | apply calm_newObj | apply calm_elemOf
    | with_reducible first | (refine calm_forInArr (fun _ _ => ?_) _ _) | (refine calm_forInRange (fun _ _ => ?_) _ _) | (refine calm_bind (ok := fun _ => True) ?_ (fun _ _ => ?_))
    | split
    | dsimp only

theorem calm_extract (t : Value) (i : Nat) : Calm P (fun _ => True) (Instr.extract t i) := by
  unfold Instr.extract
  repeat' first
    | with_reducible first | apply calm_stuck | apply calm_unsup | apply calm_goPanic | apply calm_rtPanic | apply calm_bounds | apply calm_under | apply calm_tyInfo | apply calm_sizeOf | apply calm_zero | apply calm_isAgg | apply calm_loadVar | apply calm_storeVar | apply calm_loadCells | apply calm_storeCells | apply calm_newRow | apply calm_newVar | apply calm_part | apply calm_asIntOf | apply calm_asInt | apply calm_asBool | apply calm_asAgg | apply calm_asAddr | apply calm_sureAddr | apply calm_choose | apply calm_getObj | apply calm_shape | apply calm_frozen | apply calm_askRoom | apply calm_noRoom | apply calm_env | apply calm_program | apply calm_pureT | apply calm_pureA | apply calm_newObj | apply calm_elemOf
    | with_reducible first | (refine calm_forInArr (fun _ _ => ?_) _ _) | (refine calm_forInRange (fun _ _ => ?_) _ _) | (refine calm_bind (ok := fun _ => True) ?_ (fun _ _ => ?_))
    | split
    | dsimp only

theorem calm_field (t : TypeId) (x : Value) (i : Nat) : Calm P (fun _ => True) (Instr.field t x i) := by
  unfold Instr.field
  repeat' first
    | with_reducible first | apply calm_stuck | apply calm_unsup | apply calm_goPanic | apply calm_rtPanic | apply calm_bounds | apply calm_under | apply calm_tyInfo | apply calm_sizeOf | apply calm_zero | apply calm_isAgg | apply calm_loadVar | apply calm_storeVar | apply calm_loadCells | apply calm_storeCells | apply calm_newRow | apply calm_newVar | apply calm_part | apply calm_asIntOf | apply calm_asInt | apply calm_asBool | apply calm_asAgg | apply calm_asAddr | apply calm_sureAddr | apply calm_choose | apply calm_getObj | apply calm_shape | apply calm_frozen | apply calm_askRoom | apply calm_noRoom | apply calm_env | apply calm_program | apply calm_pureT | apply calm_pureA | apply calm_newObj | apply calm_elemOf
    | with_reducible first | (refine calm_forInArr (fun _ _ => ?_) _ _) | (refine calm_forInRange (fun _ _ => ?_) _ _) | (refine calm_bind (ok := fun _ => True) ?_ (fun _ _ => ?_))
    | split
    | dsimp only

theorem calm_makeIface (t : TypeId) (x : Value) : Calm P (fun _ => True) (Instr.makeInterface t x) := by
  unfold Instr.makeInterface
  repeat' first
    | with_reducible first | apply calm_stuck | apply calm_unsup | apply calm_goPanic | apply calm_rtPanic | apply calm_bounds | apply calm_under | apply calm_tyInfo | apply calm_sizeOf | apply calm_zero | apply calm_isAgg | apply calm_loadVar | apply calm_storeVar | apply calm_loadCells | apply calm_storeCells | apply calm_newRow | apply calm_newVar | apply calm_part | apply calm_asIntOf | apply calm_asInt | apply calm_asBool | apply calm_asAgg | apply calm_asAddr | apply calm_sureAddr | apply calm_choose | apply calm_getObj | apply calm_shape | apply calm_frozen | apply calm_askRoom | apply calm_noRoom | apply calm_env | apply calm_program | apply calm_pureT | apply calm_pureA | apply calm_newObj | apply calm_elemOf
    | with_reducible first | (refine calm_forInArr (fun _ _ => ?_) _ _) | (refine calm_forInRange (fun _ _ => ?_) _ _) | (refine calm_bind (ok := fun _ => True) ?_ (fun _ _ => ?_))
    | split
    | dsimp only

theorem calm_makeSlice (t : TypeId) (x y : Value) : Calm P (fun _ => True) (Instr.makeSlice t x y) := by
  unfold Instr.makeSlice
  repeat' first
    | with_reducible first | apply calm_stuck | apply calm_unsup | apply calm_goPanic | apply calm_rtPanic | apply calm_bounds | apply calm_under | apply calm_tyInfo | apply calm_sizeOf | apply calm_zero | apply calm_isAgg | apply calm_loadVar | apply calm_storeVar | apply calm_loadCells | apply calm_storeCells | apply calm_newRow | apply calm_newVar | apply calm_part | apply calm_asIntOf | apply calm_asInt | apply calm_asBool | apply calm_asAgg | apply calm_asAddr | apply calm_sureAddr | apply calm_choose | apply calm_getObj | apply calm_shape | apply calm_frozen | apply calm_askRoom | apply calm_noRoom | apply calm_env | apply calm_program | apply calm_pureT | apply calm_pureA | apply calm_newObj | apply calm_elemOf
    | with_reducible first | (refine calm_forInArr (fun _ _ => ?_) _ _) | (refine calm_forInRange (fun _ _ => ?_) _ _) | (refine calm_bind (ok := fun _ => True) ?_ (fun _ _ => ?_))
    | split
    | dsimp only

theorem calm_indexAt (t : TypeId) (x y : Value) : Calm P (fun _ => True) (Instr.indexAt t x y) := by
  unfold Instr.indexAt
  repeat' first
    | with_reducible first | apply calm_stuck | apply calm_unsup | apply calm_goPanic | apply calm_rtPanic | apply calm_bounds | apply calm_under | apply calm_tyInfo | apply calm_sizeOf | apply calm_zero | apply calm_isAgg | apply calm_loadVar | apply calm_storeVar | apply calm_loadCells | apply calm_storeCells | apply calm_newRow | apply calm_newVar | apply calm_part | apply calm_asIntOf | apply calm_asInt | apply calm_asBool | apply calm_asAgg | apply calm_asAddr | apply calm_sureAddr | apply calm_choose | apply calm_getObj | apply calm_shape | apply calm_frozen | apply calm_askRoom | apply calm_noRoom | apply calm_env | apply calm_program | apply calm_pureT | apply calm_pureA | apply calm_newObj | apply calm_elemOf
    | with_reducible first | (refine calm_forInArr (fun _ _ => ?_) _ _) | (refine calm_forInRange (fun _ _ => ?_) _ _) | (refine calm_bind (ok := fun _ => True) ?_ (fun _ _ => ?_))
    | split
    | dsimp only

theorem calm_index (t : TypeId) (x y : Value) : Calm P (fun _ => True) (Instr.index t x y) := by
  unfold Instr.index
  repeat' first
    | with_reducible first | apply calm_stuck | apply calm_unsup | apply calm_goPanic | apply calm_rtPanic | apply calm_bounds | apply calm_under | apply calm_tyInfo | apply calm_sizeOf | apply calm_zero | apply calm_isAgg | apply calm_loadVar | apply calm_storeVar | apply calm_loadCells | apply calm_storeCells | apply calm_newRow | apply calm_newVar | apply calm_part | apply calm_asIntOf | apply calm_asInt | apply calm_asBool | apply calm_asAgg | apply calm_asAddr | apply calm_sureAddr | apply calm_choose | apply calm_getObj | apply calm_shape | apply calm_frozen | apply calm_askRoom | apply calm_noRoom | apply calm_env | apply calm_program | apply calm_pureT | apply calm_pureA | apply calm_newObj | apply calm_elemOf
    | with_reducible first | (refine calm_forInArr (fun _ _ => ?_) _ _) | (refine calm_forInRange (fun _ _ => ?_) _ _) | (refine calm_bind (ok := fun _ => True) ?_ (fun _ _ => ?_))
    | split
    | dsimp only

theorem calm_sliceBound (x : Value) (y : Nat) (c : BoundsCode) : Calm P (fun _ => True) (Instr.sliceBound x y c) := by
  unfold Instr.sliceBound
  repeat' first
    | with_reducible first | apply calm_stuck | apply calm_unsup | apply calm_goPanic | apply calm_rtPanic | apply calm_bounds | apply calm_under | apply calm_tyInfo | apply calm_sizeOf | apply calm_zero | apply calm_isAgg | apply calm_loadVar | apply calm_storeVar | apply calm_loadCells | apply calm_storeCells | apply calm_newRow | apply calm_newVar | apply calm_part | apply calm_asIntOf | apply calm_asInt | apply calm_asBool | apply calm_asAgg | apply calm_asAddr | apply calm_sureAddr | apply calm_choose | apply calm_getObj | apply calm_shape | apply calm_frozen | apply calm_askRoom | apply calm_noRoom | apply calm_env | apply calm_program | apply calm_pureT | apply calm_pureA | apply calm_newObj | apply calm_elemOf
    | with_reducible first | (refine calm_forInArr (fun _ _ => ?_) _ _) | (refine calm_forInRange (fun _ _ => ?_) _ _) | (refine calm_bind (ok := fun _ => True) ?_ (fun _ _ => ?_))
    | split
    | dsimp only

theorem calm_sliceBounds (b : Bool) (x y : Nat) (l h m : Option Value) : Calm P (fun _ => True) (Instr.sliceBounds b x y l h m) := by
  unfold Instr.sliceBounds
  repeat' first
    | with_reducible first | apply calm_stuck | apply calm_unsup | apply calm_goPanic | apply calm_rtPanic | apply calm_bounds | apply calm_under | apply calm_tyInfo | apply calm_sizeOf | apply calm_zero | apply calm_isAgg | apply calm_loadVar | apply calm_storeVar | apply calm_loadCells | apply calm_storeCells | apply calm_newRow | apply calm_newVar | apply calm_part | apply calm_asIntOf | apply calm_asInt | apply calm_asBool | apply calm_asAgg | apply calm_asAddr | apply calm_sureAddr | apply calm_choose | apply calm_getObj | apply calm_shape | apply calm_frozen | apply calm_askRoom | apply calm_noRoom | apply calm_env | apply calm_program | apply calm_pureT | apply calm_pureA | apply calm_newObj | apply calm_elemOf | apply calm_sliceBound
    | with_reducible first | (refine calm_forInArr (fun _ _ => ?_) _ _) | (refine calm_forInRange (fun _ _ => ?_) _ _) | (refine calm_bind (ok := fun _ => True) ?_ (fun _ _ => ?_))
    | split
    | dsimp only

theorem calm_slice (t : TypeId) (x : Value) (l h m : Option Value) : Calm P (fun _ => True) (Instr.slice t x l h m) := by
  unfold Instr.slice
  repeat' first
    | with_reducible first | apply calm_stuck | apply calm_unsup | apply calm_goPanic | apply calm_rtPanic | apply calm_bounds | apply calm_under | apply calm_tyInfo | apply calm_sizeOf | apply calm_zero | apply calm_isAgg | apply calm_loadVar | apply calm_storeVar | apply calm_loadCells | apply calm_storeCells | apply calm_newRow | apply calm_newVar | apply calm_part | apply calm_asIntOf | apply calm_asInt | apply calm_asBool | apply calm_asAgg | apply calm_asAddr | apply calm_sureAddr | apply calm_choose | apply calm_getObj | apply calm_shape | apply calm_frozen | apply calm_askRoom | apply calm_noRoom | apply calm_env | apply calm_program | apply calm_pureT | apply calm_pureA | apply calm_newObj | apply calm_elemOf | apply calm_sliceBound | apply calm_sliceBounds
    | with_reducible first | (refine calm_forInArr (fun _ _ => ?_) _ _) | (refine calm_forInRange (fun _ _ => ?_) _ _) | (refine calm_bind (ok := fun _ => True) ?_ (fun _ _ => ?_))
    | split
    | dsimp only

theorem calm_sliceAt (t : TypeId) (x : Value) (l h m : Option Value) : Calm P (fun _ => True) (Instr.sliceAt t x l h m) := by
  unfold Instr.sliceAt
  repeat' first
    | with_reducible first | apply calm_stuck | apply calm_unsup | apply calm_goPanic | apply calm_rtPanic | apply calm_bounds | apply calm_under | apply calm_tyInfo | apply calm_sizeOf | apply calm_zero | apply calm_isAgg | apply calm_loadVar | apply calm_storeVar | apply calm_loadCells | apply calm_storeCells | apply calm_newRow | apply calm_newVar | apply calm_part | apply calm_asIntOf | apply calm_asInt | apply calm_asBool | apply calm_asAgg | apply calm_asAddr | apply calm_sureAddr | apply calm_choose | apply calm_getObj | apply calm_shape | apply calm_frozen | apply calm_askRoom | apply calm_noRoom | apply calm_env | apply calm_program | apply calm_pureT | apply calm_pureA | apply calm_newObj | apply calm_elemOf | apply calm_sliceBound | apply calm_sliceBounds | apply calm_slice
    | with_reducible first | (refine calm_forInArr (fun _ _ => ?_) _ _) | (refine calm_forInRange (fun _ _ => ?_) _ _) | (refine calm_bind (ok := fun _ => True) ?_ (fun _ _ => ?_))
    | split
    | dsimp only

theorem calm_buildSlice (t : TypeId) (n : Nat) (l : Array (Nat × Value)) : Calm P (fun _ => True) (Instr.buildSlice t n l) := by
  unfold Instr.buildSlice
  repeat' first
    | with_reducible first | apply calm_stuck | apply calm_unsup | apply calm_goPanic | apply calm_rtPanic | apply calm_bounds | apply calm_under | apply calm_tyInfo | apply calm_sizeOf | apply calm_zero | apply calm_isAgg | apply calm_loadVar | apply calm_storeVar | apply calm_loadCells | apply calm_storeCells | apply calm_newRow | apply calm_newVar | apply calm_part | apply calm_asIntOf | apply calm_asInt | apply calm_asBool | apply calm_asAgg | apply calm_asAddr | apply calm_sureAddr | apply calm_choose | apply calm_getObj | apply calm_shape | apply calm_frozen | apply calm_askRoom | apply calm_noRoom | apply calm_env | apply calm_program | apply calm_pureT | apply calm_pureA | apply calm_newObj | apply calm_elemOf | apply calm_sliceBound | apply calm_sliceBounds | apply calm_slice
    | with_reducible first | (refine calm_forInArr (fun _ _ => ?_) _ _) | (refine calm_forInRange (fun _ _ => ?_) _ _) | (refine calm_bind (ok := fun _ => True) ?_ (fun _ _ => ?_))
    | split
    | dsimp only

theorem calm_panicnil  : Calm P (fun _ => True) (Instr.panicnil) := by
  unfold Instr.panicnil
  repeat' first
    | with_reducible first | apply calm_stuck | apply calm_unsup | apply calm_goPanic | apply calm_rtPanic | apply calm_bounds | apply calm_under | apply calm_tyInfo | apply calm_sizeOf | apply calm_zero | apply calm_isAgg | apply calm_loadVar | apply calm_storeVar | apply calm_loadCells | apply calm_storeCells | apply calm_newRow | apply calm_newVar | apply calm_part | apply calm_asIntOf | apply calm_asInt | apply calm_asBool | apply calm_asAgg | apply calm_asAddr | apply calm_sureAddr | apply calm_choose | apply calm_getObj | apply calm_shape | apply calm_frozen | apply calm_askRoom | apply calm_noRoom | apply calm_env | apply calm_program | apply calm_pureT | apply calm_pureA | apply calm_newObj | apply calm_elemOf | apply calm_sliceBound | apply calm_sliceBounds | apply calm_slice
    | with_reducible first | (refine calm_forInArr (fun _ _ => ?_) _ _) | (refine calm_forInRange (fun _ _ => ?_) _ _) | (refine calm_bind (ok := fun _ => True) ?_ (fun _ _ => ?_))
    | split
    | dsimp only

theorem calm_panic (v : Value) : Calm P (fun _ => True) (Instr.panic v) := by
  unfold Instr.panic
  repeat' first
    | with_reducible first | apply calm_stuck | apply calm_unsup | apply calm_goPanic | apply calm_rtPanic | apply calm_bounds | apply calm_under | apply calm_tyInfo | apply calm_sizeOf | apply calm_zero | apply calm_isAgg | apply calm_loadVar | apply calm_storeVar | apply calm_loadCells | apply calm_storeCells | apply calm_newRow | apply calm_newVar | apply calm_part | apply calm_asIntOf | apply calm_asInt | apply calm_asBool | apply calm_asAgg | apply calm_asAddr | apply calm_sureAddr | apply calm_choose | apply calm_getObj | apply calm_shape | apply calm_frozen | apply calm_askRoom | apply calm_noRoom | apply calm_env | apply calm_program | apply calm_pureT | apply calm_pureA | apply calm_newObj | apply calm_elemOf | apply calm_sliceBound | apply calm_sliceBounds | apply calm_slice | apply calm_panicnil
    | with_reducible first | (refine calm_forInArr (fun _ _ => ?_) _ _) | (refine calm_forInRange (fun _ _ => ?_) _ _) | (refine calm_bind (ok := fun _ => True) ?_ (fun _ _ => ?_))
    | split
    | dsimp only

theorem calm_intArith (o : BinOp) (k : IntKind) (x y : Int) : Calm P (fun _ => True) (Op.intArith o k x y) := by
  unfold Op.intArith
  repeat' first
    | with_reducible first | apply calm_stuck | apply calm_unsup | apply calm_goPanic | apply calm_rtPanic | apply calm_bounds | apply calm_under | apply calm_tyInfo | apply calm_sizeOf | apply calm_zero | apply calm_isAgg | apply calm_loadVar | apply calm_storeVar | apply calm_loadCells | apply calm_storeCells | apply calm_newRow | apply calm_newVar | apply calm_part | apply calm_asIntOf | apply calm_asInt | apply calm_asBool | apply calm_asAgg | apply calm_asAddr | apply calm_sureAddr | apply calm_choose | apply calm_getObj | apply calm_shape | apply calm_frozen | apply calm_askRoom | apply calm_noRoom | apply calm_env | apply calm_program | apply calm_pureT | apply calm_pureA | apply calm_newObj | apply calm_elemOf | apply calm_sliceBound | apply calm_sliceBounds | apply calm_slice | apply calm_panicnil
    | with_reducible first | (refine calm_forInArr (fun _ _ => ?_) _ _) | (refine calm_forInRange (fun _ _ => ?_) _ _) | (refine calm_bind (ok := fun _ => True) ?_ (fun _ _ => ?_))
    | split
    | dsimp only

theorem calm_intDiv (o : BinOp) (k : IntKind) (x y : Int) : Calm P (fun _ => True) (Op.intDiv o k x y) := by
  unfold Op.intDiv
  repeat' first
    | with_reducible first | apply calm_stuck | apply calm_unsup | apply calm_goPanic | apply calm_rtPanic | apply calm_bounds | apply calm_under | apply calm_tyInfo | apply calm_sizeOf | apply calm_zero | apply calm_isAgg | apply calm_loadVar | apply calm_storeVar | apply calm_loadCells | apply calm_storeCells | apply calm_newRow | apply calm_newVar | apply calm_part | apply calm_asIntOf | apply calm_asInt | apply calm_asBool | apply calm_asAgg | apply calm_asAddr | apply calm_sureAddr | apply calm_choose | apply calm_getObj | apply calm_shape | apply calm_frozen | apply calm_askRoom | apply calm_noRoom | apply calm_env | apply calm_program | apply calm_pureT | apply calm_pureA | apply calm_newObj | apply calm_elemOf | apply calm_sliceBound | apply calm_sliceBounds | apply calm_slice | apply calm_panicnil
    | with_reducible first | (refine calm_forInArr (fun _ _ => ?_) _ _) | (refine calm_forInRange (fun _ _ => ?_) _ _) | (refine calm_bind (ok := fun _ => True) ?_ (fun _ _ => ?_))
    | split
    | dsimp only

theorem calm_intBits (o : BinOp) (k : IntKind) (x y : Int) : Calm P (fun _ => True) (Op.intBits o k x y) := by
  unfold Op.intBits
  repeat' first
    | with_reducible first | apply calm_stuck | apply calm_unsup | apply calm_goPanic | apply calm_rtPanic | apply calm_bounds | apply calm_under | apply calm_tyInfo | apply calm_sizeOf | apply calm_zero | apply calm_isAgg | apply calm_loadVar | apply calm_storeVar | apply calm_loadCells | apply calm_storeCells | apply calm_newRow | apply calm_newVar | apply calm_part | apply calm_asIntOf | apply calm_asInt | apply calm_asBool | apply calm_asAgg | apply calm_asAddr | apply calm_sureAddr | apply calm_choose | apply calm_getObj | apply calm_shape | apply calm_frozen | apply calm_askRoom | apply calm_noRoom | apply calm_env | apply calm_program | apply calm_pureT | apply calm_pureA | apply calm_newObj | apply calm_elemOf | apply calm_sliceBound | apply calm_sliceBounds | apply calm_slice | apply calm_panicnil
    | with_reducible first | (refine calm_forInArr (fun _ _ => ?_) _ _) | (refine calm_forInRange (fun _ _ => ?_) _ _) | (refine calm_bind (ok := fun _ => True) ?_ (fun _ _ => ?_))
    | split
    | dsimp only

theorem calm_intCmp (o : BinOp) (x y : Int) : Calm P (fun _ => True) (Op.intCmp o x y) := by
  unfold Op.intCmp
  repeat' first
    | with_reducible first | apply calm_stuck | apply calm_unsup | apply calm_goPanic | apply calm_rtPanic | apply calm_bounds | apply calm_under | apply calm_tyInfo | apply calm_sizeOf | apply calm_zero | apply calm_isAgg | apply calm_loadVar | apply calm_storeVar | apply calm_loadCells | apply calm_storeCells | apply calm_newRow | apply calm_newVar | apply calm_part | apply calm_asIntOf | apply calm_asInt | apply calm_asBool | apply calm_asAgg | apply calm_asAddr | apply calm_sureAddr | apply calm_choose | apply calm_getObj | apply calm_shape | apply calm_frozen | apply calm_askRoom | apply calm_noRoom | apply calm_env | apply calm_program | apply calm_pureT | apply calm_pureA | apply calm_newObj | apply calm_elemOf | apply calm_sliceBound | apply calm_sliceBounds | apply calm_slice | apply calm_panicnil
    | with_reducible first | (refine calm_forInArr (fun _ _ => ?_) _ _) | (refine calm_forInRange (fun _ _ => ?_) _ _) | (refine calm_bind (ok := fun _ => True) ?_ (fun _ _ => ?_))
    | split
    | dsimp only

theorem calm_shift (o : BinOp) (k : IntKind) (x : Int) (k' : IntKind) (y : Int) : Calm P (fun _ => True) (Op.shift o k x k' y) := by
  unfold Op.shift
  repeat' first
    | with_reducible first | apply calm_stuck | apply calm_unsup | apply calm_goPanic | apply calm_rtPanic | apply calm_bounds | apply calm_under | apply calm_tyInfo | apply calm_sizeOf | apply calm_zero | apply calm_isAgg | apply calm_loadVar | apply calm_storeVar | apply calm_loadCells | apply calm_storeCells | apply calm_newRow | apply calm_newVar | apply calm_part | apply calm_asIntOf | apply calm_asInt | apply calm_asBool | apply calm_asAgg | apply calm_asAddr | apply calm_sureAddr | apply calm_choose | apply calm_getObj | apply calm_shape | apply calm_frozen | apply calm_askRoom | apply calm_noRoom | apply calm_env | apply calm_program | apply calm_pureT | apply calm_pureA | apply calm_newObj | apply calm_elemOf | apply calm_sliceBound | apply calm_sliceBounds | apply calm_slice | apply calm_panicnil
    | with_reducible first | (refine calm_forInArr (fun _ _ => ?_) _ _) | (refine calm_forInRange (fun _ _ => ?_) _ _) | (refine calm_bind (ok := fun _ => True) ?_ (fun _ _ => ?_))
    | split
    | dsimp only

theorem calm_stringOp (o : BinOp) (x y : ByteArray) : Calm P (fun _ => True) (Op.stringOp o x y) := by
  unfold Op.stringOp
  repeat' first
    | with_reducible first | apply calm_stuck | apply calm_unsup | apply calm_goPanic | apply calm_rtPanic | apply calm_bounds | apply calm_under | apply calm_tyInfo | apply calm_sizeOf | apply calm_zero | apply calm_isAgg | apply calm_loadVar | apply calm_storeVar | apply calm_loadCells | apply calm_storeCells | apply calm_newRow | apply calm_newVar | apply calm_part | apply calm_asIntOf | apply calm_asInt | apply calm_asBool | apply calm_asAgg | apply calm_asAddr | apply calm_sureAddr | apply calm_choose | apply calm_getObj | apply calm_shape | apply calm_frozen | apply calm_askRoom | apply calm_noRoom | apply calm_env | apply calm_program | apply calm_pureT | apply calm_pureA | apply calm_newObj | apply calm_elemOf | apply calm_sliceBound | apply calm_sliceBounds | apply calm_slice | apply calm_panicnil
    | with_reducible first | (refine calm_forInArr (fun _ _ => ?_) _ _) | (refine calm_forInRange (fun _ _ => ?_) _ _) | (refine calm_bind (ok := fun _ => True) ?_ (fun _ _ => ?_))
    | split
    | dsimp only

theorem calm_floatArith (o : BinOp) (k : FloatKind) (x y : Nat) : Calm P (fun _ => True) (Op.floatArith o k x y) := by
  unfold Op.floatArith
  repeat' first
    | with_reducible first | apply calm_stuck | apply calm_unsup | apply calm_goPanic | apply calm_rtPanic | apply calm_bounds | apply calm_under | apply calm_tyInfo | apply calm_sizeOf | apply calm_zero | apply calm_isAgg | apply calm_loadVar | apply calm_storeVar | apply calm_loadCells | apply calm_storeCells | apply calm_newRow | apply calm_newVar | apply calm_part | apply calm_asIntOf | apply calm_asInt | apply calm_asBool | apply calm_asAgg | apply calm_asAddr | apply calm_sureAddr | apply calm_choose | apply calm_getObj | apply calm_shape | apply calm_frozen | apply calm_askRoom | apply calm_noRoom | apply calm_env | apply calm_program | apply calm_pureT | apply calm_pureA | apply calm_newObj | apply calm_elemOf | apply calm_sliceBound | apply calm_sliceBounds | apply calm_slice | apply calm_panicnil
    | with_reducible first | (refine calm_forInArr (fun _ _ => ?_) _ _) | (refine calm_forInRange (fun _ _ => ?_) _ _) | (refine calm_bind (ok := fun _ => True) ?_ (fun _ _ => ?_))
    | split
    | dsimp only

theorem calm_floatCmp (o : BinOp) (k : FloatKind) (x y : Nat) : Calm P (fun _ => True) (Op.floatCmp o k x y) := by
  unfold Op.floatCmp
  repeat' first
    | with_reducible first | apply calm_stuck | apply calm_unsup | apply calm_goPanic | apply calm_rtPanic | apply calm_bounds | apply calm_under | apply calm_tyInfo | apply calm_sizeOf | apply calm_zero | apply calm_isAgg | apply calm_loadVar | apply calm_storeVar | apply calm_loadCells | apply calm_storeCells | apply calm_newRow | apply calm_newVar | apply calm_part | apply calm_asIntOf | apply calm_asInt | apply calm_asBool | apply calm_asAgg | apply calm_asAddr | apply calm_sureAddr | apply calm_choose | apply calm_getObj | apply calm_shape | apply calm_frozen | apply calm_askRoom | apply calm_noRoom | apply calm_env | apply calm_program | apply calm_pureT | apply calm_pureA | apply calm_newObj | apply calm_elemOf | apply calm_sliceBound | apply calm_sliceBounds | apply calm_slice | apply calm_panicnil
    | with_reducible first | (refine calm_forInArr (fun _ _ => ?_) _ _) | (refine calm_forInRange (fun _ _ => ?_) _ _) | (refine calm_bind (ok := fun _ => True) ?_ (fun _ _ => ?_))
    | split
    | dsimp only

theorem calm_floatToFloat (k : FloatKind) (b : Nat) (k' : FloatKind) : Calm P (fun _ => True) (Conv.floatToFloat k b k') := by
  unfold Conv.floatToFloat
  repeat' first
    | with_reducible first | apply calm_stuck | apply calm_unsup | apply calm_goPanic | apply calm_rtPanic | apply calm_bounds | apply calm_under | apply calm_tyInfo | apply calm_sizeOf | apply calm_zero | apply calm_isAgg | apply calm_loadVar | apply calm_storeVar | apply calm_loadCells | apply calm_storeCells | apply calm_newRow | apply calm_newVar | apply calm_part | apply calm_asIntOf | apply calm_asInt | apply calm_asBool | apply calm_asAgg | apply calm_asAddr | apply calm_sureAddr | apply calm_choose | apply calm_getObj | apply calm_shape | apply calm_frozen | apply calm_askRoom | apply calm_noRoom | apply calm_env | apply calm_program | apply calm_pureT | apply calm_pureA | apply calm_newObj | apply calm_elemOf | apply calm_sliceBound | apply calm_sliceBounds | apply calm_slice | apply calm_panicnil | apply calm_floatArith | apply calm_floatCmp
    | with_reducible first | (refine calm_forInArr (fun _ _ => ?_) _ _) | (refine calm_forInRange (fun _ _ => ?_) _ _) | (refine calm_bind (ok := fun _ => True) ?_ (fun _ _ => ?_))
    | split
    | dsimp only

theorem calm_cArith (o : BinOp) (k : FloatKind) (x y : Nat) : Calm P (fun _ => True) (Op.Complex.arith o k x y) := by
  unfold Op.Complex.arith
  repeat' first
    | with_reducible first | apply calm_stuck | apply calm_unsup | apply calm_goPanic | apply calm_rtPanic | apply calm_bounds | apply calm_under | apply calm_tyInfo | apply calm_sizeOf | apply calm_zero | apply calm_isAgg | apply calm_loadVar | apply calm_storeVar | apply calm_loadCells | apply calm_storeCells | apply calm_newRow | apply calm_newVar | apply calm_part | apply calm_asIntOf | apply calm_asInt | apply calm_asBool | apply calm_asAgg | apply calm_asAddr | apply calm_sureAddr | apply calm_choose | apply calm_getObj | apply calm_shape | apply calm_frozen | apply calm_askRoom | apply calm_noRoom | apply calm_env | apply calm_program | apply calm_pureT | apply calm_pureA | apply calm_newObj | apply calm_elemOf | apply calm_sliceBound | apply calm_sliceBounds | apply calm_slice | apply calm_panicnil | apply calm_floatArith | apply calm_floatCmp | apply calm_floatToFloat
    | with_reducible first | (refine calm_forInArr (fun _ _ => ?_) _ _) | (refine calm_forInRange (fun _ _ => ?_) _ _) | (refine calm_bind (ok := fun _ => True) ?_ (fun _ _ => ?_))
    | split
    | dsimp only

theorem calm_cCmp (o : BinOp) (k : FloatKind) (x y : Nat) : Calm P (fun _ => True) (Op.Complex.cmp o k x y) := by
  unfold Op.Complex.cmp
  repeat' first
    | with_reducible first | apply calm_stuck | apply calm_unsup | apply calm_goPanic | apply calm_rtPanic | apply calm_bounds | apply calm_under | apply calm_tyInfo | apply calm_sizeOf | apply calm_zero | apply calm_isAgg | apply calm_loadVar | apply calm_storeVar | apply calm_loadCells | apply calm_storeCells | apply calm_newRow | apply calm_newVar | apply calm_part | apply calm_asIntOf | apply calm_asInt | apply calm_asBool | apply calm_asAgg | apply calm_asAddr | apply calm_sureAddr | apply calm_choose | apply calm_getObj | apply calm_shape | apply calm_frozen | apply calm_askRoom | apply calm_noRoom | apply calm_env | apply calm_program | apply calm_pureT | apply calm_pureA | apply calm_newObj | apply calm_elemOf | apply calm_sliceBound | apply calm_sliceBounds | apply calm_slice | apply calm_panicnil | apply calm_floatArith | apply calm_floatCmp | apply calm_floatToFloat
    | with_reducible first | (refine calm_forInArr (fun _ _ => ?_) _ _) | (refine calm_forInRange (fun _ _ => ?_) _ _) | (refine calm_bind (ok := fun _ => True) ?_ (fun _ _ => ?_))
    | split
    | dsimp only

theorem calm_cConv (k : FloatKind) (x : Nat) (k' : FloatKind) : Calm P (fun _ => True) (Op.Complex.conv k x k') := by
  unfold Op.Complex.conv
  repeat' first
    | with_reducible first | apply calm_stuck | apply calm_unsup | apply calm_goPanic | apply calm_rtPanic | apply calm_bounds | apply calm_under | apply calm_tyInfo | apply calm_sizeOf | apply calm_zero | apply calm_isAgg | apply calm_loadVar | apply calm_storeVar | apply calm_loadCells | apply calm_storeCells | apply calm_newRow | apply calm_newVar | apply calm_part | apply calm_asIntOf | apply calm_asInt | apply calm_asBool | apply calm_asAgg | apply calm_asAddr | apply calm_sureAddr | apply calm_choose | apply calm_getObj | apply calm_shape | apply calm_frozen | apply calm_askRoom | apply calm_noRoom | apply calm_env | apply calm_program | apply calm_pureT | apply calm_pureA | apply calm_newObj | apply calm_elemOf | apply calm_sliceBound | apply calm_sliceBounds | apply calm_slice | apply calm_panicnil | apply calm_floatArith | apply calm_floatCmp | apply calm_floatToFloat
    | with_reducible first | (refine calm_forInArr (fun _ _ => ?_) _ _) | (refine calm_forInRange (fun _ _ => ?_) _ _) | (refine calm_bind (ok := fun _ => True) ?_ (fun _ _ => ?_))
    | split
    | dsimp only

theorem calm_cadd (x y : Nat) : Calm P (fun _ => True) (Op.Complex.add x y) := calm_cArith _ _ x y

theorem calm_csub (x y : Nat) : Calm P (fun _ => True) (Op.Complex.sub x y) := calm_cArith _ _ x y

theorem calm_cmul (x y : Nat) : Calm P (fun _ => True) (Op.Complex.mul x y) := calm_cArith _ _ x y

theorem calm_cquo (x y : Nat) : Calm P (fun _ => True) (Op.Complex.quo x y) := calm_cArith _ _ x y

theorem calm_cProduct (a b c d : Nat) : Calm P (fun _ => True) (Op.Complex.product a b c d) := by
  unfold Op.Complex.product
  repeat' first
    | with_reducible first | apply calm_stuck | apply calm_unsup | apply calm_goPanic | apply calm_rtPanic | apply calm_bounds | apply calm_under | apply calm_tyInfo | apply calm_sizeOf | apply calm_zero | apply calm_isAgg | apply calm_loadVar | apply calm_storeVar | apply calm_loadCells | apply calm_storeCells | apply calm_newRow | apply calm_newVar | apply calm_part | apply calm_asIntOf | apply calm_asInt | apply calm_asBool | apply calm_asAgg | apply calm_asAddr | apply calm_sureAddr | apply calm_choose | apply calm_getObj | apply calm_shape | apply calm_frozen | apply calm_askRoom | apply calm_noRoom | apply calm_env | apply calm_program | apply calm_pureT | apply calm_pureA | apply calm_newObj | apply calm_elemOf | apply calm_sliceBound | apply calm_sliceBounds | apply calm_slice | apply calm_panicnil | apply calm_floatArith | apply calm_floatCmp | apply calm_floatToFloat | apply calm_cArith | apply calm_cCmp | apply calm_cConv | apply calm_cadd | apply calm_csub | apply calm_cmul | apply calm_cquo
    | with_reducible first | (refine calm_forInArr (fun _ _ => ?_) _ _) | (refine calm_forInRange (fun _ _ => ?_) _ _) | (refine calm_bind (ok := fun _ => True) ?_ (fun _ _ => ?_))
    | split
    | dsimp only

theorem calm_cCorrected (s a b c d : Nat) : Calm P (fun _ => True) (Op.Complex.corrected s a b c d) := by
  unfold Op.Complex.corrected
  repeat' first
    | with_reducible first | apply calm_stuck | apply calm_unsup | apply calm_goPanic | apply calm_rtPanic | apply calm_bounds | apply calm_under | apply calm_tyInfo | apply calm_sizeOf | apply calm_zero | apply calm_isAgg | apply calm_loadVar | apply calm_storeVar | apply calm_loadCells | apply calm_storeCells | apply calm_newRow | apply calm_newVar | apply calm_part | apply calm_asIntOf | apply calm_asInt | apply calm_asBool | apply calm_asAgg | apply calm_asAddr | apply calm_sureAddr | apply calm_choose | apply calm_getObj | apply calm_shape | apply calm_frozen | apply calm_askRoom | apply calm_noRoom | apply calm_env | apply calm_program | apply calm_pureT | apply calm_pureA | apply calm_newObj | apply calm_elemOf | apply calm_sliceBound | apply calm_sliceBounds | apply calm_slice | apply calm_panicnil | apply calm_floatArith | apply calm_floatCmp | apply calm_floatToFloat | apply calm_cArith | apply calm_cCmp | apply calm_cConv | apply calm_cadd | apply calm_csub | apply calm_cmul | apply calm_cquo
    | with_reducible first | (refine calm_forInArr (fun _ _ => ?_) _ _) | (refine calm_forInRange (fun _ _ => ?_) _ _) | (refine calm_bind (ok := fun _ => True) ?_ (fun _ _ => ?_))
    | split
    | dsimp only

set_option maxHeartbeats 4000000 in
theorem calm_cQuotient (a b c d : Nat) : Calm P (fun _ => True) (Op.Complex.quotient a b c d) := by
  unfold Op.Complex.quotient
  repeat' first
    | with_reducible first | apply calm_stuck | apply calm_unsup | apply calm_goPanic | apply calm_rtPanic | apply calm_bounds | apply calm_under | apply calm_tyInfo | apply calm_sizeOf | apply calm_zero | apply calm_isAgg | apply calm_loadVar | apply calm_storeVar | apply calm_loadCells | apply calm_storeCells | apply calm_newRow | apply calm_newVar | apply calm_part | apply calm_asIntOf | apply calm_asInt | apply calm_asBool | apply calm_asAgg | apply calm_asAddr | apply calm_sureAddr | apply calm_choose | apply calm_getObj | apply calm_shape | apply calm_frozen | apply calm_askRoom | apply calm_noRoom | apply calm_env | apply calm_program | apply calm_pureT | apply calm_pureA | apply calm_newObj | apply calm_elemOf | apply calm_sliceBound | apply calm_sliceBounds | apply calm_slice | apply calm_panicnil | apply calm_floatArith | apply calm_floatCmp | apply calm_floatToFloat | apply calm_cArith | apply calm_cCmp | apply calm_cConv | apply calm_cadd | apply calm_csub | apply calm_cmul | apply calm_cquo | apply calm_cCorrected
    | with_reducible first | (refine calm_forInArr (fun _ _ => ?_) _ _) | (refine calm_forInRange (fun _ _ => ?_) _ _) | (refine calm_bind (ok := fun _ => True) ?_ (fun _ _ => ?_))
    | split
    | dsimp only

theorem calm_complexOp (o : BinOp) (k : FloatKind) (a b c d : Nat) : Calm P (fun _ => True) (Op.complexOp o k a b c d) := by
  unfold Op.complexOp
  repeat' first
    | with_reducible first | apply calm_stuck | apply calm_unsup | apply calm_goPanic | apply calm_rtPanic | apply calm_bounds | apply calm_under | apply calm_tyInfo | apply calm_sizeOf | apply calm_zero | apply calm_isAgg | apply calm_loadVar | apply calm_storeVar | apply calm_loadCells | apply calm_storeCells | apply calm_newRow | apply calm_newVar | apply calm_part | apply calm_asIntOf | apply calm_asInt | apply calm_asBool | apply calm_asAgg | apply calm_asAddr | apply calm_sureAddr | apply calm_choose | apply calm_getObj | apply calm_shape | apply calm_frozen | apply calm_askRoom | apply calm_noRoom | apply calm_env | apply calm_program | apply calm_pureT | apply calm_pureA | apply calm_newObj | apply calm_elemOf | apply calm_sliceBound | apply calm_sliceBounds | apply calm_slice | apply calm_panicnil | apply calm_floatArith | apply calm_floatCmp | apply calm_floatToFloat | apply calm_cArith | apply calm_cCmp | apply calm_cConv | apply calm_cadd | apply calm_csub | apply calm_cmul | apply calm_cquo | apply calm_cCorrected | apply calm_cProduct | apply calm_cQuotient
    | with_reducible first | (refine calm_forInArr (fun _ _ => ?_) _ _) | (refine calm_forInRange (fun _ _ => ?_) _ _) | (refine calm_bind (ok := fun _ => True) ?_ (fun _ _ => ?_))
    | split
    | dsimp only

theorem calm_viewAt (r : Nat) : Calm P (fun _ => True) (viewAt r) := by
  unfold viewAt
  repeat' first
    | with_reducible first | apply calm_stuck | apply calm_unsup | apply calm_goPanic | apply calm_rtPanic | apply calm_bounds | apply calm_under | apply calm_tyInfo | apply calm_sizeOf | apply calm_zero | apply calm_isAgg | apply calm_loadVar | apply calm_storeVar | apply calm_loadCells | apply calm_storeCells | apply calm_newRow | apply calm_newVar | apply calm_part | apply calm_asIntOf | apply calm_asInt | apply calm_asBool | apply calm_asAgg | apply calm_asAddr | apply calm_sureAddr | apply calm_choose | apply calm_getObj | apply calm_shape | apply calm_frozen | apply calm_askRoom | apply calm_noRoom | apply calm_env | apply calm_program | apply calm_pureT | apply calm_pureA | apply calm_newObj | apply calm_elemOf | apply calm_sliceBound | apply calm_sliceBounds | apply calm_slice | apply calm_panicnil | apply calm_floatArith | apply calm_floatCmp | apply calm_floatToFloat | apply calm_cArith | apply calm_cCmp | apply calm_cConv | apply calm_cadd | apply calm_csub | apply calm_cmul | apply calm_cquo | apply calm_cCorrected | apply calm_cProduct | apply calm_cQuotient | apply calm_complexOp
    | with_reducible first | (refine calm_forInArr (fun _ _ => ?_) _ _) | (refine calm_forInRange (fun _ _ => ?_) _ _) | (refine calm_bind (ok := fun _ => True) ?_ (fun _ _ => ?_))
    | split
    | dsimp only

theorem calm_numberAt (r : Nat) : Calm P (fun _ => True) (numberAt r) := by
  unfold numberAt
  repeat' first
    | with_reducible first | apply calm_stuck | apply calm_unsup | apply calm_goPanic | apply calm_rtPanic | apply calm_bounds | apply calm_under | apply calm_tyInfo | apply calm_sizeOf | apply calm_zero | apply calm_isAgg | apply calm_loadVar | apply calm_storeVar | apply calm_loadCells | apply calm_storeCells | apply calm_newRow | apply calm_newVar | apply calm_part | apply calm_asIntOf | apply calm_asInt | apply calm_asBool | apply calm_asAgg | apply calm_asAddr | apply calm_sureAddr | apply calm_choose | apply calm_getObj | apply calm_shape | apply calm_frozen | apply calm_askRoom | apply calm_noRoom | apply calm_env | apply calm_program | apply calm_pureT | apply calm_pureA | apply calm_newObj | apply calm_elemOf | apply calm_sliceBound | apply calm_sliceBounds | apply calm_slice | apply calm_panicnil | apply calm_floatArith | apply calm_floatCmp | apply calm_floatToFloat | apply calm_cArith | apply calm_cCmp | apply calm_cConv | apply calm_cadd | apply calm_csub | apply calm_cmul | apply calm_cquo | apply calm_cCorrected | apply calm_cProduct | apply calm_cQuotient | apply calm_complexOp
    | with_reducible first | (refine calm_forInArr (fun _ _ => ?_) _ _) | (refine calm_forInRange (fun _ _ => ?_) _ _) | (refine calm_bind (ok := fun _ => True) ?_ (fun _ _ => ?_))
    | split
    | dsimp only

theorem calm_asNumber (a : Addr) (b : Bool) : Calm P (fun _ => True) (asNumber a b) := by
  unfold asNumber
  repeat' first
    | with_reducible first | apply calm_stuck | apply calm_unsup | apply calm_goPanic | apply calm_rtPanic | apply calm_bounds | apply calm_under | apply calm_tyInfo | apply calm_sizeOf | apply calm_zero | apply calm_isAgg | apply calm_loadVar | apply calm_storeVar | apply calm_loadCells | apply calm_storeCells | apply calm_newRow | apply calm_newVar | apply calm_part | apply calm_asIntOf | apply calm_asInt | apply calm_asBool | apply calm_asAgg | apply calm_asAddr | apply calm_sureAddr | apply calm_choose | apply calm_getObj | apply calm_shape | apply calm_frozen | apply calm_askRoom | apply calm_noRoom | apply calm_env | apply calm_program | apply calm_pureT | apply calm_pureA | apply calm_newObj | apply calm_elemOf | apply calm_sliceBound | apply calm_sliceBounds | apply calm_slice | apply calm_panicnil | apply calm_floatArith | apply calm_floatCmp | apply calm_floatToFloat | apply calm_cArith | apply calm_cCmp | apply calm_cConv | apply calm_cadd | apply calm_csub | apply calm_cmul | apply calm_cquo | apply calm_cCorrected | apply calm_cProduct | apply calm_cQuotient | apply calm_complexOp | apply calm_viewAt | apply calm_numberAt
    | with_reducible first | (refine calm_forInArr (fun _ _ => ?_) _ _) | (refine calm_forInRange (fun _ _ => ?_) _ _) | (refine calm_bind (ok := fun _ => True) ?_ (fun _ _ => ?_))
    | split
    | dsimp only

theorem calm_behind (a : Addr) : Calm P (fun _ => True) (behindNumber a) := by
  unfold behindNumber
  repeat' first
    | with_reducible first | apply calm_stuck | apply calm_unsup | apply calm_goPanic | apply calm_rtPanic | apply calm_bounds | apply calm_under | apply calm_tyInfo | apply calm_sizeOf | apply calm_zero | apply calm_isAgg | apply calm_loadVar | apply calm_storeVar | apply calm_loadCells | apply calm_storeCells | apply calm_newRow | apply calm_newVar | apply calm_part | apply calm_asIntOf | apply calm_asInt | apply calm_asBool | apply calm_asAgg | apply calm_asAddr | apply calm_sureAddr | apply calm_choose | apply calm_getObj | apply calm_shape | apply calm_frozen | apply calm_askRoom | apply calm_noRoom | apply calm_env | apply calm_program | apply calm_pureT | apply calm_pureA | apply calm_newObj | apply calm_elemOf | apply calm_sliceBound | apply calm_sliceBounds | apply calm_slice | apply calm_panicnil | apply calm_floatArith | apply calm_floatCmp | apply calm_floatToFloat | apply calm_cArith | apply calm_cCmp | apply calm_cConv | apply calm_cadd | apply calm_csub | apply calm_cmul | apply calm_cquo | apply calm_cCorrected | apply calm_cProduct | apply calm_cQuotient | apply calm_complexOp | apply calm_viewAt | apply calm_numberAt
    | with_reducible first | (refine calm_forInArr (fun _ _ => ?_) _ _) | (refine calm_forInRange (fun _ _ => ?_) _ _) | (refine calm_bind (ok := fun _ => True) ?_ (fun _ _ => ?_))
    | split
    | dsimp only

theorem calm_noView (a : Addr) : Calm P (fun _ => True) (noView a) := by
  unfold noView
  repeat' first
    | with_reducible first | apply calm_stuck | apply calm_unsup | apply calm_goPanic | apply calm_rtPanic | apply calm_bounds | apply calm_under | apply calm_tyInfo | apply calm_sizeOf | apply calm_zero | apply calm_isAgg | apply calm_loadVar | apply calm_storeVar | apply calm_loadCells | apply calm_storeCells | apply calm_newRow | apply calm_newVar | apply calm_part | apply calm_asIntOf | apply calm_asInt | apply calm_asBool | apply calm_asAgg | apply calm_asAddr | apply calm_sureAddr | apply calm_choose | apply calm_getObj | apply calm_shape | apply calm_frozen | apply calm_askRoom | apply calm_noRoom | apply calm_env | apply calm_program | apply calm_pureT | apply calm_pureA | apply calm_newObj | apply calm_elemOf | apply calm_sliceBound | apply calm_sliceBounds | apply calm_slice | apply calm_panicnil | apply calm_floatArith | apply calm_floatCmp | apply calm_floatToFloat | apply calm_cArith | apply calm_cCmp | apply calm_cConv | apply calm_cadd | apply calm_csub | apply calm_cmul | apply calm_cquo | apply calm_cCorrected | apply calm_cProduct | apply calm_cQuotient | apply calm_complexOp | apply calm_viewAt | apply calm_numberAt
    | with_reducible first | (refine calm_forInArr (fun _ _ => ?_) _ _) | (refine calm_forInRange (fun _ _ => ?_) _ _) | (refine calm_bind (ok := fun _ => True) ?_ (fun _ _ => ?_))
    | split
    | dsimp only

theorem calm_stringish (a : Addr) : Calm P (fun _ => True) (stringish a) := by
  unfold stringish
  repeat' first
    | with_reducible first | apply calm_stuck | apply calm_unsup | apply calm_goPanic | apply calm_rtPanic | apply calm_bounds | apply calm_under | apply calm_tyInfo | apply calm_sizeOf | apply calm_zero | apply calm_isAgg | apply calm_loadVar | apply calm_storeVar | apply calm_loadCells | apply calm_storeCells | apply calm_newRow | apply calm_newVar | apply calm_part | apply calm_asIntOf | apply calm_asInt | apply calm_asBool | apply calm_asAgg | apply calm_asAddr | apply calm_sureAddr | apply calm_choose | apply calm_getObj | apply calm_shape | apply calm_frozen | apply calm_askRoom | apply calm_noRoom | apply calm_env | apply calm_program | apply calm_pureT | apply calm_pureA | apply calm_newObj | apply calm_elemOf | apply calm_sliceBound | apply calm_sliceBounds | apply calm_slice | apply calm_panicnil | apply calm_floatArith | apply calm_floatCmp | apply calm_floatToFloat | apply calm_cArith | apply calm_cCmp | apply calm_cConv | apply calm_cadd | apply calm_csub | apply calm_cmul | apply calm_cquo | apply calm_cCorrected | apply calm_cProduct | apply calm_cQuotient | apply calm_complexOp | apply calm_viewAt | apply calm_numberAt
    | with_reducible first | (refine calm_forInArr (fun _ _ => ?_) _ _) | (refine calm_forInRange (fun _ _ => ?_) _ _) | (refine calm_bind (ok := fun _ => True) ?_ (fun _ _ => ?_))
    | split
    | dsimp only

theorem calm_mayBeOne (a b : Addr) : Calm P (fun _ => True) (mayBeOne a b) := by
  unfold mayBeOne
  repeat' first
    | with_reducible first | apply calm_stuck | apply calm_unsup | apply calm_goPanic | apply calm_rtPanic | apply calm_bounds | apply calm_under | apply calm_tyInfo | apply calm_sizeOf | apply calm_zero | apply calm_isAgg | apply calm_loadVar | apply calm_storeVar | apply calm_loadCells | apply calm_storeCells | apply calm_newRow | apply calm_newVar | apply calm_part | apply calm_asIntOf | apply calm_asInt | apply calm_asBool | apply calm_asAgg | apply calm_asAddr | apply calm_sureAddr | apply calm_choose | apply calm_getObj | apply calm_shape | apply calm_frozen | apply calm_askRoom | apply calm_noRoom | apply calm_env | apply calm_program | apply calm_pureT | apply calm_pureA | apply calm_newObj | apply calm_elemOf | apply calm_sliceBound | apply calm_sliceBounds | apply calm_slice | apply calm_panicnil | apply calm_floatArith | apply calm_floatCmp | apply calm_floatToFloat | apply calm_cArith | apply calm_cCmp | apply calm_cConv | apply calm_cadd | apply calm_csub | apply calm_cmul | apply calm_cquo | apply calm_cCorrected | apply calm_cProduct | apply calm_cQuotient | apply calm_complexOp | apply calm_viewAt | apply calm_numberAt | apply calm_asNumber | apply calm_behind | apply calm_noView | apply calm_stringish
    | with_reducible first | (refine calm_forInArr (fun _ _ => ?_) _ _) | (refine calm_forInRange (fun _ _ => ?_) _ _) | (refine calm_bind (ok := fun _ => True) ?_ (fun _ _ => ?_))
    | split
    | dsimp only

theorem calm_sameAddr (a b : Addr) : Calm P (fun _ => True) (sameAddr a b) := by
  unfold sameAddr
  repeat' first
    | with_reducible first | apply calm_stuck | apply calm_unsup | apply calm_goPanic | apply calm_rtPanic | apply calm_bounds | apply calm_under | apply calm_tyInfo | apply calm_sizeOf | apply calm_zero | apply calm_isAgg | apply calm_loadVar | apply calm_storeVar | apply calm_loadCells | apply calm_storeCells | apply calm_newRow | apply calm_newVar | apply calm_part | apply calm_asIntOf | apply calm_asInt | apply calm_asBool | apply calm_asAgg | apply calm_asAddr | apply calm_sureAddr | apply calm_choose | apply calm_getObj | apply calm_shape | apply calm_frozen | apply calm_askRoom | apply calm_noRoom | apply calm_env | apply calm_program | apply calm_pureT | apply calm_pureA | apply calm_newObj | apply calm_elemOf | apply calm_sliceBound | apply calm_sliceBounds | apply calm_slice | apply calm_panicnil | apply calm_floatArith | apply calm_floatCmp | apply calm_floatToFloat | apply calm_cArith | apply calm_cCmp | apply calm_cConv | apply calm_cadd | apply calm_csub | apply calm_cmul | apply calm_cquo | apply calm_cCorrected | apply calm_cProduct | apply calm_cQuotient | apply calm_complexOp | apply calm_viewAt | apply calm_numberAt | apply calm_asNumber | apply calm_behind | apply calm_noView | apply calm_stringish | apply calm_mayBeOne
    | with_reducible first | (refine calm_forInArr (fun _ _ => ?_) _ _) | (refine calm_forInRange (fun _ _ => ?_) _ _) | (refine calm_bind (ok := fun _ => True) ?_ (fun _ _ => ?_))
    | split
    | dsimp only

theorem calm_samePointer (a b : Option Addr) : Calm P (fun _ => True) (samePointer a b) := by
  unfold samePointer
  repeat' first
    | with_reducible first | apply calm_stuck | apply calm_unsup | apply calm_goPanic | apply calm_rtPanic | apply calm_bounds | apply calm_under | apply calm_tyInfo | apply calm_sizeOf | apply calm_zero | apply calm_isAgg | apply calm_loadVar | apply calm_storeVar | apply calm_loadCells | apply calm_storeCells | apply calm_newRow | apply calm_newVar | apply calm_part | apply calm_asIntOf | apply calm_asInt | apply calm_asBool | apply calm_asAgg | apply calm_asAddr | apply calm_sureAddr | apply calm_choose | apply calm_getObj | apply calm_shape | apply calm_frozen | apply calm_askRoom | apply calm_noRoom | apply calm_env | apply calm_program | apply calm_pureT | apply calm_pureA | apply calm_newObj | apply calm_elemOf | apply calm_sliceBound | apply calm_sliceBounds | apply calm_slice | apply calm_panicnil | apply calm_floatArith | apply calm_floatCmp | apply calm_floatToFloat | apply calm_cArith | apply calm_cCmp | apply calm_cConv | apply calm_cadd | apply calm_csub | apply calm_cmul | apply calm_cquo | apply calm_cCorrected | apply calm_cProduct | apply calm_cQuotient | apply calm_complexOp | apply calm_viewAt | apply calm_numberAt | apply calm_asNumber | apply calm_behind | apply calm_noView | apply calm_stringish | apply calm_mayBeOne | apply calm_sameAddr
    | with_reducible first | (refine calm_forInArr (fun _ _ => ?_) _ _) | (refine calm_forInRange (fun _ _ => ?_) _ _) | (refine calm_bind (ok := fun _ => True) ?_ (fun _ _ => ?_))
    | split
    | dsimp only

theorem calm_typeStr (t : TypeId) : Calm P (fun _ => True) (typeStr t) := by
  unfold typeStr
  repeat' first
    | with_reducible first | apply calm_stuck | apply calm_unsup | apply calm_goPanic | apply calm_rtPanic | apply calm_bounds | apply calm_under | apply calm_tyInfo | apply calm_sizeOf | apply calm_zero | apply calm_isAgg | apply calm_loadVar | apply calm_storeVar | apply calm_loadCells | apply calm_storeCells | apply calm_newRow | apply calm_newVar | apply calm_part | apply calm_asIntOf | apply calm_asInt | apply calm_asBool | apply calm_asAgg | apply calm_asAddr | apply calm_sureAddr | apply calm_choose | apply calm_getObj | apply calm_shape | apply calm_frozen | apply calm_askRoom | apply calm_noRoom | apply calm_env | apply calm_program | apply calm_pureT | apply calm_pureA | apply calm_newObj | apply calm_elemOf | apply calm_sliceBound | apply calm_sliceBounds | apply calm_slice | apply calm_panicnil | apply calm_floatArith | apply calm_floatCmp | apply calm_floatToFloat | apply calm_cArith | apply calm_cCmp | apply calm_cConv | apply calm_cadd | apply calm_csub | apply calm_cmul | apply calm_cquo | apply calm_cCorrected | apply calm_cProduct | apply calm_cQuotient | apply calm_complexOp | apply calm_viewAt | apply calm_numberAt | apply calm_asNumber | apply calm_behind | apply calm_noView | apply calm_stringish | apply calm_mayBeOne | apply calm_sameAddr
    | with_reducible first | (refine calm_forInArr (fun _ _ => ?_) _ _) | (refine calm_forInRange (fun _ _ => ?_) _ _) | (refine calm_bind (ok := fun _ => True) ?_ (fun _ _ => ?_))
    | split
    | dsimp only

theorem calm_byteOf (a : Addr) : Calm P (fun _ => True) (byteOf a) := by
  unfold byteOf
  repeat' first
    | with_reducible first | apply calm_stuck | apply calm_unsup | apply calm_goPanic | apply calm_rtPanic | apply calm_bounds | apply calm_under | apply calm_tyInfo | apply calm_sizeOf | apply calm_zero | apply calm_isAgg | apply calm_loadVar | apply calm_storeVar | apply calm_loadCells | apply calm_storeCells | apply calm_newRow | apply calm_newVar | apply calm_part | apply calm_asIntOf | apply calm_asInt | apply calm_asBool | apply calm_asAgg | apply calm_asAddr | apply calm_sureAddr | apply calm_choose | apply calm_getObj | apply calm_shape | apply calm_frozen | apply calm_askRoom | apply calm_noRoom | apply calm_env | apply calm_program | apply calm_pureT | apply calm_pureA | apply calm_newObj | apply calm_elemOf | apply calm_sliceBound | apply calm_sliceBounds | apply calm_slice | apply calm_panicnil | apply calm_floatArith | apply calm_floatCmp | apply calm_floatToFloat | apply calm_cArith | apply calm_cCmp | apply calm_cConv | apply calm_cadd | apply calm_csub | apply calm_cmul | apply calm_cquo | apply calm_cCorrected | apply calm_cProduct | apply calm_cQuotient | apply calm_complexOp | apply calm_viewAt | apply calm_numberAt | apply calm_asNumber | apply calm_behind | apply calm_noView | apply calm_stringish | apply calm_mayBeOne | apply calm_sameAddr
    | with_reducible first | (refine calm_forInArr (fun _ _ => ?_) _ _) | (refine calm_forInRange (fun _ _ => ?_) _ _) | (refine calm_bind (ok := fun _ => True) ?_ (fun _ _ => ?_))
    | split
    | dsimp only

theorem calm_unsafeAdd (ts : Array TypeId) (t : TypeId) (vs : Array Value) : Calm P (fun _ => True) (Builtin.unsafeAdd_ ts t vs) := by
  unfold Builtin.unsafeAdd_
  obtain ⟨l⟩ := vs
  rcases l with _ | ⟨a, _ | ⟨b, _ | ⟨c, l⟩⟩⟩
  · exact trivial
  · cases a <;> exact trivial
  · cases a
    case pointer ptr =>
      refine calm_bind (ok := fun _ => True) (calm_asInt b) (fun n _ => ?_)
      repeat' first
        | with_reducible first | apply calm_stuck | apply calm_unsup | apply calm_goPanic | apply calm_rtPanic | apply calm_bounds | apply calm_under | apply calm_tyInfo | apply calm_sizeOf | apply calm_zero | apply calm_isAgg | apply calm_loadVar | apply calm_storeVar | apply calm_loadCells | apply calm_storeCells | apply calm_newRow | apply calm_newVar | apply calm_part | apply calm_asIntOf | apply calm_asInt | apply calm_asBool | apply calm_asAgg | apply calm_asAddr | apply calm_sureAddr | apply calm_choose | apply calm_getObj | apply calm_shape | apply calm_frozen | apply calm_askRoom | apply calm_noRoom | apply calm_env | apply calm_program | apply calm_pureT | apply calm_pureA | apply calm_newObj | apply calm_elemOf | apply calm_sliceBound | apply calm_sliceBounds | apply calm_slice | apply calm_panicnil | apply calm_floatArith | apply calm_floatCmp | apply calm_floatToFloat | apply calm_cArith | apply calm_cCmp | apply calm_cConv | apply calm_cadd | apply calm_csub | apply calm_cmul | apply calm_cquo | apply calm_cCorrected | apply calm_cProduct | apply calm_cQuotient | apply calm_complexOp | apply calm_viewAt | apply calm_numberAt | apply calm_asNumber | apply calm_behind | apply calm_noView | apply calm_stringish | apply calm_mayBeOne | apply calm_sameAddr | apply calm_samePointer | apply calm_typeStr | apply calm_byteOf
        | with_reducible first | (refine calm_forInArr (fun _ _ => ?_) _ _) | (refine calm_forInRange (fun _ _ => ?_) _ _) | (refine calm_bind (ok := fun _ => True) ?_ (fun _ _ => ?_))
        | split
        | dsimp only
    all_goals exact trivial
  · cases a <;> exact trivial

theorem calm_twoPlaces (a b : Addr) : Calm P (fun _ => True) (Op.twoPlaces a b) := by
  unfold Op.twoPlaces
  repeat' first
    | with_reducible first | apply calm_stuck | apply calm_unsup | apply calm_goPanic | apply calm_rtPanic | apply calm_bounds | apply calm_under | apply calm_tyInfo | apply calm_sizeOf | apply calm_zero | apply calm_isAgg | apply calm_loadVar | apply calm_storeVar | apply calm_loadCells | apply calm_storeCells | apply calm_newRow | apply calm_newVar | apply calm_part | apply calm_asIntOf | apply calm_asInt | apply calm_asBool | apply calm_asAgg | apply calm_asAddr | apply calm_sureAddr | apply calm_choose | apply calm_getObj | apply calm_shape | apply calm_frozen | apply calm_askRoom | apply calm_noRoom | apply calm_env | apply calm_program | apply calm_pureT | apply calm_pureA | apply calm_newObj | apply calm_elemOf | apply calm_sliceBound | apply calm_sliceBounds | apply calm_slice | apply calm_panicnil | apply calm_floatArith | apply calm_floatCmp | apply calm_floatToFloat | apply calm_cArith | apply calm_cCmp | apply calm_cConv | apply calm_cadd | apply calm_csub | apply calm_cmul | apply calm_cquo | apply calm_cCorrected | apply calm_cProduct | apply calm_cQuotient | apply calm_complexOp | apply calm_viewAt | apply calm_numberAt | apply calm_asNumber | apply calm_behind | apply calm_noView | apply calm_stringish | apply calm_mayBeOne | apply calm_sameAddr | apply calm_samePointer | apply calm_typeStr | apply calm_byteOf
    | with_reducible first | (refine calm_forInArr (fun _ _ => ?_) _ _) | (refine calm_forInRange (fun _ _ => ?_) _ _) | (refine calm_bind (ok := fun _ => True) ?_ (fun _ _ => ?_))
    | split
    | dsimp only

theorem calm_addrSub (k : IntKind) (a b : Addr) : Calm P (fun _ => True) (Op.addrSub k a b) := by
  unfold Op.addrSub
  repeat' first
    | with_reducible first | apply calm_stuck | apply calm_unsup | apply calm_goPanic | apply calm_rtPanic | apply calm_bounds | apply calm_under | apply calm_tyInfo | apply calm_sizeOf | apply calm_zero | apply calm_isAgg | apply calm_loadVar | apply calm_storeVar | apply calm_loadCells | apply calm_storeCells | apply calm_newRow | apply calm_newVar | apply calm_part | apply calm_asIntOf | apply calm_asInt | apply calm_asBool | apply calm_asAgg | apply calm_asAddr | apply calm_sureAddr | apply calm_choose | apply calm_getObj | apply calm_shape | apply calm_frozen | apply calm_askRoom | apply calm_noRoom | apply calm_env | apply calm_program | apply calm_pureT | apply calm_pureA | apply calm_newObj | apply calm_elemOf | apply calm_sliceBound | apply calm_sliceBounds | apply calm_slice | apply calm_panicnil | apply calm_floatArith | apply calm_floatCmp | apply calm_floatToFloat | apply calm_cArith | apply calm_cCmp | apply calm_cConv | apply calm_cadd | apply calm_csub | apply calm_cmul | apply calm_cquo | apply calm_cCorrected | apply calm_cProduct | apply calm_cQuotient | apply calm_complexOp | apply calm_viewAt | apply calm_numberAt | apply calm_asNumber | apply calm_behind | apply calm_noView | apply calm_stringish | apply calm_mayBeOne | apply calm_sameAddr | apply calm_samePointer | apply calm_typeStr | apply calm_byteOf | apply calm_unsafeAdd | apply calm_twoPlaces
    | with_reducible first | (refine calm_forInArr (fun _ _ => ?_) _ _) | (refine calm_forInRange (fun _ _ => ?_) _ _) | (refine calm_bind (ok := fun _ => True) ?_ (fun _ _ => ?_))
    | split
    | dsimp only

theorem calm_addrCmp (o : BinOp) (a b : Addr) : Calm P (fun _ => True) (Op.addrCmp o a b) := by
  unfold Op.addrCmp
  repeat' first
    | with_reducible first | apply calm_stuck | apply calm_unsup | apply calm_goPanic | apply calm_rtPanic | apply calm_bounds | apply calm_under | apply calm_tyInfo | apply calm_sizeOf | apply calm_zero | apply calm_isAgg | apply calm_loadVar | apply calm_storeVar | apply calm_loadCells | apply calm_storeCells | apply calm_newRow | apply calm_newVar | apply calm_part | apply calm_asIntOf | apply calm_asInt | apply calm_asBool | apply calm_asAgg | apply calm_asAddr | apply calm_sureAddr | apply calm_choose | apply calm_getObj | apply calm_shape | apply calm_frozen | apply calm_askRoom | apply calm_noRoom | apply calm_env | apply calm_program | apply calm_pureT | apply calm_pureA | apply calm_newObj | apply calm_elemOf | apply calm_sliceBound | apply calm_sliceBounds | apply calm_slice | apply calm_panicnil | apply calm_floatArith | apply calm_floatCmp | apply calm_floatToFloat | apply calm_cArith | apply calm_cCmp | apply calm_cConv | apply calm_cadd | apply calm_csub | apply calm_cmul | apply calm_cquo | apply calm_cCorrected | apply calm_cProduct | apply calm_cQuotient | apply calm_complexOp | apply calm_viewAt | apply calm_numberAt | apply calm_asNumber | apply calm_behind | apply calm_noView | apply calm_stringish | apply calm_mayBeOne | apply calm_sameAddr | apply calm_samePointer | apply calm_typeStr | apply calm_byteOf | apply calm_unsafeAdd | apply calm_twoPlaces
    | with_reducible first | (refine calm_forInArr (fun _ _ => ?_) _ _) | (refine calm_forInRange (fun _ _ => ?_) _ _) | (refine calm_bind (ok := fun _ => True) ?_ (fun _ _ => ?_))
    | split
    | dsimp only

theorem calm_addrMod (k : IntKind) (a : Addr) (n : Int) : Calm P (fun _ => True) (Op.addrMod k a n) := by
  unfold Op.addrMod
  repeat' first
    | with_reducible first | apply calm_stuck | apply calm_unsup | apply calm_goPanic | apply calm_rtPanic | apply calm_bounds | apply calm_under | apply calm_tyInfo | apply calm_sizeOf | apply calm_zero | apply calm_isAgg | apply calm_loadVar | apply calm_storeVar | apply calm_loadCells | apply calm_storeCells | apply calm_newRow | apply calm_newVar | apply calm_part | apply calm_asIntOf | apply calm_asInt | apply calm_asBool | apply calm_asAgg | apply calm_asAddr | apply calm_sureAddr | apply calm_choose | apply calm_getObj | apply calm_shape | apply calm_frozen | apply calm_askRoom | apply calm_noRoom | apply calm_env | apply calm_program | apply calm_pureT | apply calm_pureA | apply calm_newObj | apply calm_elemOf | apply calm_sliceBound | apply calm_sliceBounds | apply calm_slice | apply calm_panicnil | apply calm_floatArith | apply calm_floatCmp | apply calm_floatToFloat | apply calm_cArith | apply calm_cCmp | apply calm_cConv | apply calm_cadd | apply calm_csub | apply calm_cmul | apply calm_cquo | apply calm_cCorrected | apply calm_cProduct | apply calm_cQuotient | apply calm_complexOp | apply calm_viewAt | apply calm_numberAt | apply calm_asNumber | apply calm_behind | apply calm_noView | apply calm_stringish | apply calm_mayBeOne | apply calm_sameAddr | apply calm_samePointer | apply calm_typeStr | apply calm_byteOf | apply calm_unsafeAdd | apply calm_twoPlaces
    | with_reducible first | (refine calm_forInArr (fun _ _ => ?_) _ _) | (refine calm_forInRange (fun _ _ => ?_) _ _) | (refine calm_bind (ok := fun _ => True) ?_ (fun _ _ => ?_))
    | split
    | dsimp only

theorem calm_movedNumber (t : TypeId) (x y : Value) : Calm P (fun _ => True) (movedNumber t x y) := by
  unfold movedNumber
  repeat' first
    | with_reducible first | apply calm_stuck | apply calm_unsup | apply calm_goPanic | apply calm_rtPanic | apply calm_bounds | apply calm_under | apply calm_tyInfo | apply calm_sizeOf | apply calm_zero | apply calm_isAgg | apply calm_loadVar | apply calm_storeVar | apply calm_loadCells | apply calm_storeCells | apply calm_newRow | apply calm_newVar | apply calm_part | apply calm_asIntOf | apply calm_asInt | apply calm_asBool | apply calm_asAgg | apply calm_asAddr | apply calm_sureAddr | apply calm_choose | apply calm_getObj | apply calm_shape | apply calm_frozen | apply calm_askRoom | apply calm_noRoom | apply calm_env | apply calm_program | apply calm_pureT | apply calm_pureA | apply calm_newObj | apply calm_elemOf | apply calm_sliceBound | apply calm_sliceBounds | apply calm_slice | apply calm_panicnil | apply calm_floatArith | apply calm_floatCmp | apply calm_floatToFloat | apply calm_cArith | apply calm_cCmp | apply calm_cConv | apply calm_cadd | apply calm_csub | apply calm_cmul | apply calm_cquo | apply calm_cCorrected | apply calm_cProduct | apply calm_cQuotient | apply calm_complexOp | apply calm_viewAt | apply calm_numberAt | apply calm_asNumber | apply calm_behind | apply calm_noView | apply calm_stringish | apply calm_mayBeOne | apply calm_sameAddr | apply calm_samePointer | apply calm_typeStr | apply calm_byteOf | apply calm_unsafeAdd | apply calm_twoPlaces
    | with_reducible first | (refine calm_forInArr (fun _ _ => ?_) _ _) | (refine calm_forInRange (fun _ _ => ?_) _ _) | (refine calm_bind (ok := fun _ => True) ?_ (fun _ _ => ?_))
    | split
    | dsimp only

theorem calm_movedPointer (t : TypeId) (x y : Value) : Calm P (fun _ => True) (movedPointer t x y) := by
  unfold movedPointer
  repeat' first
    | with_reducible first | apply calm_stuck | apply calm_unsup | apply calm_goPanic | apply calm_rtPanic | apply calm_bounds | apply calm_under | apply calm_tyInfo | apply calm_sizeOf | apply calm_zero | apply calm_isAgg | apply calm_loadVar | apply calm_storeVar | apply calm_loadCells | apply calm_storeCells | apply calm_newRow | apply calm_newVar | apply calm_part | apply calm_asIntOf | apply calm_asInt | apply calm_asBool | apply calm_asAgg | apply calm_asAddr | apply calm_sureAddr | apply calm_choose | apply calm_getObj | apply calm_shape | apply calm_frozen | apply calm_askRoom | apply calm_noRoom | apply calm_env | apply calm_program | apply calm_pureT | apply calm_pureA | apply calm_newObj | apply calm_elemOf | apply calm_sliceBound | apply calm_sliceBounds | apply calm_slice | apply calm_panicnil | apply calm_floatArith | apply calm_floatCmp | apply calm_floatToFloat | apply calm_cArith | apply calm_cCmp | apply calm_cConv | apply calm_cadd | apply calm_csub | apply calm_cmul | apply calm_cquo | apply calm_cCorrected | apply calm_cProduct | apply calm_cQuotient | apply calm_complexOp | apply calm_viewAt | apply calm_numberAt | apply calm_asNumber | apply calm_behind | apply calm_noView | apply calm_stringish | apply calm_mayBeOne | apply calm_sameAddr | apply calm_samePointer | apply calm_typeStr | apply calm_byteOf | apply calm_unsafeAdd | apply calm_twoPlaces
    | with_reducible first | (refine calm_forInArr (fun _ _ => ?_) _ _) | (refine calm_forInRange (fun _ _ => ?_) _ _) | (refine calm_bind (ok := fun _ => True) ?_ (fun _ _ => ?_))
    | split
    | dsimp only

theorem calm_unary (o : UnOp) (x : Value) : Calm P (fun _ => True) (Op.unary o x) := by
  unfold Op.unary
  repeat' first
    | with_reducible first | apply calm_stuck | apply calm_unsup | apply calm_goPanic | apply calm_rtPanic | apply calm_bounds | apply calm_under | apply calm_tyInfo | apply calm_sizeOf | apply calm_zero | apply calm_isAgg | apply calm_loadVar | apply calm_storeVar | apply calm_loadCells | apply calm_storeCells | apply calm_newRow | apply calm_newVar | apply calm_part | apply calm_asIntOf | apply calm_asInt | apply calm_asBool | apply calm_asAgg | apply calm_asAddr | apply calm_sureAddr | apply calm_choose | apply calm_getObj | apply calm_shape | apply calm_frozen | apply calm_askRoom | apply calm_noRoom | apply calm_env | apply calm_program | apply calm_pureT | apply calm_pureA | apply calm_newObj | apply calm_elemOf | apply calm_sliceBound | apply calm_sliceBounds | apply calm_slice | apply calm_panicnil | apply calm_floatArith | apply calm_floatCmp | apply calm_floatToFloat | apply calm_cArith | apply calm_cCmp | apply calm_cConv | apply calm_cadd | apply calm_csub | apply calm_cmul | apply calm_cquo | apply calm_cCorrected | apply calm_cProduct | apply calm_cQuotient | apply calm_complexOp | apply calm_viewAt | apply calm_numberAt | apply calm_asNumber | apply calm_behind | apply calm_noView | apply calm_stringish | apply calm_mayBeOne | apply calm_sameAddr | apply calm_samePointer | apply calm_typeStr | apply calm_byteOf | apply calm_unsafeAdd | apply calm_twoPlaces | apply calm_addrSub | apply calm_addrCmp | apply calm_addrMod | apply calm_movedNumber | apply calm_movedPointer | apply calm_intArith | apply calm_intDiv | apply calm_intBits | apply calm_intCmp | apply calm_shift | apply calm_stringOp | apply calm_floatArith | apply calm_floatCmp | apply calm_intArith | apply calm_intDiv | apply calm_intBits | apply calm_intCmp | apply calm_shift | apply calm_stringOp | apply calm_floatArith | apply calm_floatCmp
    | with_reducible first | (refine calm_forInArr (fun _ _ => ?_) _ _) | (refine calm_forInRange (fun _ _ => ?_) _ _) | (refine calm_bind (ok := fun _ => True) ?_ (fun _ _ => ?_))
    | split
    | dsimp only

set_option maxHeartbeats 4000000 in
theorem calm_eqGuardIn : ∀ (d : Nat) (t : TypeId) (x y : Value), Calm P (fun _ => True) (Op.eqGuardIn d t x y)
  | 0, _, _, _ => trivial
  | d + 1, t, x, y => by
    have ih := calm_eqGuardIn d
    unfold Op.eqGuardIn
    repeat' first
      | with_reducible first | apply calm_stuck | apply calm_unsup | apply calm_goPanic | apply calm_rtPanic | apply calm_bounds | apply calm_under | apply calm_tyInfo | apply calm_sizeOf | apply calm_zero | apply calm_isAgg | apply calm_loadVar | apply calm_storeVar | apply calm_loadCells | apply calm_storeCells | apply calm_newRow | apply calm_newVar | apply calm_part | apply calm_asIntOf | apply calm_asInt | apply calm_asBool | apply calm_asAgg | apply calm_asAddr | apply calm_sureAddr | apply calm_choose | apply calm_getObj | apply calm_shape | apply calm_frozen | apply calm_askRoom | apply calm_noRoom | apply calm_env | apply calm_program | apply calm_pureT | apply calm_pureA | apply calm_newObj | apply calm_elemOf | apply calm_sliceBound | apply calm_sliceBounds | apply calm_slice | apply calm_panicnil | apply calm_floatArith | apply calm_floatCmp | apply calm_floatToFloat | apply calm_cArith | apply calm_cCmp | apply calm_cConv | apply calm_cadd | apply calm_csub | apply calm_cmul | apply calm_cquo | apply calm_cCorrected | apply calm_cProduct | apply calm_cQuotient | apply calm_complexOp | apply calm_viewAt | apply calm_numberAt | apply calm_asNumber | apply calm_behind | apply calm_noView | apply calm_stringish | apply calm_mayBeOne | apply calm_sameAddr | apply calm_samePointer | apply calm_typeStr | apply calm_byteOf | apply calm_unsafeAdd | apply calm_twoPlaces | apply calm_addrSub | apply calm_addrCmp | apply calm_addrMod | apply calm_movedNumber | apply calm_movedPointer | apply calm_intArith | apply calm_intDiv | apply calm_intBits | apply calm_intCmp | apply calm_shift | apply calm_stringOp | apply calm_floatArith | apply calm_floatCmp | apply calm_intArith | apply calm_intDiv | apply calm_intBits | apply calm_intCmp | apply calm_shift | apply calm_stringOp | apply calm_floatArith | apply calm_floatCmp | apply ih
      | with_reducible first | (refine calm_forInArr (fun _ _ => ?_) _ _) | (refine calm_forInRange (fun _ _ => ?_) _ _) | (refine calm_bind (ok := fun _ => True) ?_ (fun _ _ => ?_))
      | split
      | dsimp only

set_option maxHeartbeats 4000000 in
theorem calm_equalIn : ∀ (d : Nat) (t : TypeId) (x y : Value), Calm P (fun _ => True) (Op.equalIn d t x y)
  | 0, _, _, _ => trivial
  | d + 1, t, x, y => by
    have ih := calm_equalIn d
    unfold Op.equalIn
    repeat' first
      | with_reducible first | apply calm_stuck | apply calm_unsup | apply calm_goPanic | apply calm_rtPanic | apply calm_bounds | apply calm_under | apply calm_tyInfo | apply calm_sizeOf | apply calm_zero | apply calm_isAgg | apply calm_loadVar | apply calm_storeVar | apply calm_loadCells | apply calm_storeCells | apply calm_newRow | apply calm_newVar | apply calm_part | apply calm_asIntOf | apply calm_asInt | apply calm_asBool | apply calm_asAgg | apply calm_asAddr | apply calm_sureAddr | apply calm_choose | apply calm_getObj | apply calm_shape | apply calm_frozen | apply calm_askRoom | apply calm_noRoom | apply calm_env | apply calm_program | apply calm_pureT | apply calm_pureA | apply calm_newObj | apply calm_elemOf | apply calm_sliceBound | apply calm_sliceBounds | apply calm_slice | apply calm_panicnil | apply calm_floatArith | apply calm_floatCmp | apply calm_floatToFloat | apply calm_cArith | apply calm_cCmp | apply calm_cConv | apply calm_cadd | apply calm_csub | apply calm_cmul | apply calm_cquo | apply calm_cCorrected | apply calm_cProduct | apply calm_cQuotient | apply calm_complexOp | apply calm_viewAt | apply calm_numberAt | apply calm_asNumber | apply calm_behind | apply calm_noView | apply calm_stringish | apply calm_mayBeOne | apply calm_sameAddr | apply calm_samePointer | apply calm_typeStr | apply calm_byteOf | apply calm_unsafeAdd | apply calm_twoPlaces | apply calm_addrSub | apply calm_addrCmp | apply calm_addrMod | apply calm_movedNumber | apply calm_movedPointer | apply calm_intArith | apply calm_intDiv | apply calm_intBits | apply calm_intCmp | apply calm_shift | apply calm_stringOp | apply calm_floatArith | apply calm_floatCmp | apply calm_intArith | apply calm_intDiv | apply calm_intBits | apply calm_intCmp | apply calm_shift | apply calm_stringOp | apply calm_floatArith | apply calm_floatCmp | apply ih
      | with_reducible first | (refine calm_forInArr (fun _ _ => ?_) _ _) | (refine calm_forInRange (fun _ _ => ?_) _ _) | (refine calm_bind (ok := fun _ => True) ?_ (fun _ _ => ?_))
      | split
      | dsimp only

theorem calm_equal (t : TypeId) (x y : Value) : Calm P (fun _ => True) (Op.equal t x y) := calm_equalIn _ t x y

set_option maxHeartbeats 8000000 in
theorem calm_eqGuard (o : BinOp) (t : TypeId) (x y : Operand) (a b : Value) : Calm P (fun _ => True) (eqGuard o t x y a b) := by
  unfold eqGuard
  repeat' first
    | with_reducible first | apply calm_stuck | apply calm_unsup | apply calm_goPanic | apply calm_rtPanic | apply calm_bounds | apply calm_under | apply calm_tyInfo | apply calm_sizeOf | apply calm_zero | apply calm_isAgg | apply calm_loadVar | apply calm_storeVar | apply calm_loadCells | apply calm_storeCells | apply calm_newRow | apply calm_newVar | apply calm_part | apply calm_asIntOf | apply calm_asInt | apply calm_asBool | apply calm_asAgg | apply calm_asAddr | apply calm_sureAddr | apply calm_choose | apply calm_getObj | apply calm_shape | apply calm_frozen | apply calm_askRoom | apply calm_noRoom | apply calm_env | apply calm_program | apply calm_pureT | apply calm_pureA | apply calm_newObj | apply calm_elemOf | apply calm_sliceBound | apply calm_sliceBounds | apply calm_slice | apply calm_panicnil | apply calm_floatArith | apply calm_floatCmp | apply calm_floatToFloat | apply calm_cArith | apply calm_cCmp | apply calm_cConv | apply calm_cadd | apply calm_csub | apply calm_cmul | apply calm_cquo | apply calm_cCorrected | apply calm_cProduct | apply calm_cQuotient | apply calm_complexOp | apply calm_viewAt | apply calm_numberAt | apply calm_asNumber | apply calm_behind | apply calm_noView | apply calm_stringish | apply calm_mayBeOne | apply calm_sameAddr | apply calm_samePointer | apply calm_typeStr | apply calm_byteOf | apply calm_unsafeAdd | apply calm_twoPlaces | apply calm_addrSub | apply calm_addrCmp | apply calm_addrMod | apply calm_movedNumber | apply calm_movedPointer | apply calm_intArith | apply calm_intDiv | apply calm_intBits | apply calm_intCmp | apply calm_shift | apply calm_stringOp | apply calm_floatArith | apply calm_floatCmp | apply calm_intArith | apply calm_intDiv | apply calm_intBits | apply calm_intCmp | apply calm_shift | apply calm_stringOp | apply calm_floatArith | apply calm_floatCmp | apply calm_eqGuardIn | apply calm_equal
    | with_reducible first | (refine calm_forInArr (fun _ _ => ?_) _ _) | (refine calm_forInRange (fun _ _ => ?_) _ _) | (refine calm_bind (ok := fun _ => True) ?_ (fun _ _ => ?_))
    | split
    | dsimp only

set_option maxHeartbeats 8000000 in
theorem calm_binOp (o : BinOp) (t : TypeId) (x y : Value) : Calm P (fun _ => True) (binOp o t x y) := by
  unfold binOp
  repeat' first
    | with_reducible first | apply calm_stuck | apply calm_unsup | apply calm_goPanic | apply calm_rtPanic | apply calm_bounds | apply calm_under | apply calm_tyInfo | apply calm_sizeOf | apply calm_zero | apply calm_isAgg | apply calm_loadVar | apply calm_storeVar | apply calm_loadCells | apply calm_storeCells | apply calm_newRow | apply calm_newVar | apply calm_part | apply calm_asIntOf | apply calm_asInt | apply calm_asBool | apply calm_asAgg | apply calm_asAddr | apply calm_sureAddr | apply calm_choose | apply calm_getObj | apply calm_shape | apply calm_frozen | apply calm_askRoom | apply calm_noRoom | apply calm_env | apply calm_program | apply calm_pureT | apply calm_pureA | apply calm_newObj | apply calm_elemOf | apply calm_sliceBound | apply calm_sliceBounds | apply calm_slice | apply calm_panicnil | apply calm_floatArith | apply calm_floatCmp | apply calm_floatToFloat | apply calm_cArith | apply calm_cCmp | apply calm_cConv | apply calm_cadd | apply calm_csub | apply calm_cmul | apply calm_cquo | apply calm_cCorrected | apply calm_cProduct | apply calm_cQuotient | apply calm_complexOp | apply calm_viewAt | apply calm_numberAt | apply calm_asNumber | apply calm_behind | apply calm_noView | apply calm_stringish | apply calm_mayBeOne | apply calm_sameAddr | apply calm_samePointer | apply calm_typeStr | apply calm_byteOf | apply calm_unsafeAdd | apply calm_twoPlaces | apply calm_addrSub | apply calm_addrCmp | apply calm_addrMod | apply calm_movedNumber | apply calm_movedPointer | apply calm_intArith | apply calm_intDiv | apply calm_intBits | apply calm_intCmp | apply calm_shift | apply calm_stringOp | apply calm_floatArith | apply calm_floatCmp | apply calm_intArith | apply calm_intDiv | apply calm_intBits | apply calm_intCmp | apply calm_shift | apply calm_stringOp | apply calm_floatArith | apply calm_floatCmp | apply calm_eqGuardIn | apply calm_equal
    | with_reducible first | (refine calm_forInArr (fun _ _ => ?_) _ _) | (refine calm_forInRange (fun _ _ => ?_) _ _) | (refine calm_bind (ok := fun _ => True) ?_ (fun _ _ => ?_))
    | split
    | dsimp only

theorem calm_len (ts : Array TypeId) (t : TypeId) (vs : Array Value) : Calm P (fun _ => True) (Builtin.len_ ts t vs) := by
  unfold Builtin.len_
  repeat' first
    | with_reducible first | apply calm_stuck | apply calm_unsup | apply calm_goPanic | apply calm_rtPanic | apply calm_bounds | apply calm_under | apply calm_tyInfo | apply calm_sizeOf | apply calm_zero | apply calm_isAgg | apply calm_loadVar | apply calm_storeVar | apply calm_loadCells | apply calm_storeCells | apply calm_newRow | apply calm_newVar | apply calm_part | apply calm_asIntOf | apply calm_asInt | apply calm_asBool | apply calm_asAgg | apply calm_asAddr | apply calm_sureAddr | apply calm_choose | apply calm_getObj | apply calm_shape | apply calm_frozen | apply calm_askRoom | apply calm_noRoom | apply calm_env | apply calm_program | apply calm_pureT | apply calm_pureA | apply calm_newObj | apply calm_elemOf | apply calm_sliceBound | apply calm_sliceBounds | apply calm_slice | apply calm_panicnil | apply calm_floatArith | apply calm_floatCmp | apply calm_floatToFloat | apply calm_cArith | apply calm_cCmp | apply calm_cConv | apply calm_cadd | apply calm_csub | apply calm_cmul | apply calm_cquo | apply calm_cCorrected | apply calm_cProduct | apply calm_cQuotient | apply calm_complexOp | apply calm_viewAt | apply calm_numberAt | apply calm_asNumber | apply calm_behind | apply calm_noView | apply calm_stringish | apply calm_mayBeOne | apply calm_sameAddr | apply calm_samePointer | apply calm_typeStr | apply calm_byteOf | apply calm_unsafeAdd | apply calm_twoPlaces | apply calm_addrSub | apply calm_addrCmp | apply calm_addrMod | apply calm_movedNumber | apply calm_movedPointer | apply calm_intArith | apply calm_intDiv | apply calm_intBits | apply calm_intCmp | apply calm_shift | apply calm_stringOp | apply calm_floatArith | apply calm_floatCmp | apply calm_intArith | apply calm_intDiv | apply calm_intBits | apply calm_intCmp | apply calm_shift | apply calm_stringOp | apply calm_floatArith | apply calm_floatCmp | apply calm_eqGuardIn | apply calm_equal | apply calm_eqGuard | apply calm_binOp
    | with_reducible first | (refine calm_forInArr (fun _ _ => ?_) _ _) | (refine calm_forInRange (fun _ _ => ?_) _ _) | (refine calm_bind (ok := fun _ => True) ?_ (fun _ _ => ?_))
    | split
    | dsimp only

theorem calm_cap (ts : Array TypeId) (t : TypeId) (vs : Array Value) : Calm P (fun _ => True) (Builtin.cap_ ts t vs) := by
  unfold Builtin.cap_
  repeat' first
    | with_reducible first | apply calm_stuck | apply calm_unsup | apply calm_goPanic | apply calm_rtPanic | apply calm_bounds | apply calm_under | apply calm_tyInfo | apply calm_sizeOf | apply calm_zero | apply calm_isAgg | apply calm_loadVar | apply calm_storeVar | apply calm_loadCells | apply calm_storeCells | apply calm_newRow | apply calm_newVar | apply calm_part | apply calm_asIntOf | apply calm_asInt | apply calm_asBool | apply calm_asAgg | apply calm_asAddr | apply calm_sureAddr | apply calm_choose | apply calm_getObj | apply calm_shape | apply calm_frozen | apply calm_askRoom | apply calm_noRoom | apply calm_env | apply calm_program | apply calm_pureT | apply calm_pureA | apply calm_newObj | apply calm_elemOf | apply calm_sliceBound | apply calm_sliceBounds | apply calm_slice | apply calm_panicnil | apply calm_floatArith | apply calm_floatCmp | apply calm_floatToFloat | apply calm_cArith | apply calm_cCmp | apply calm_cConv | apply calm_cadd | apply calm_csub | apply calm_cmul | apply calm_cquo | apply calm_cCorrected | apply calm_cProduct | apply calm_cQuotient | apply calm_complexOp | apply calm_viewAt | apply calm_numberAt | apply calm_asNumber | apply calm_behind | apply calm_noView | apply calm_stringish | apply calm_mayBeOne | apply calm_sameAddr | apply calm_samePointer | apply calm_typeStr | apply calm_byteOf | apply calm_unsafeAdd | apply calm_twoPlaces | apply calm_addrSub | apply calm_addrCmp | apply calm_addrMod | apply calm_movedNumber | apply calm_movedPointer | apply calm_intArith | apply calm_intDiv | apply calm_intBits | apply calm_intCmp | apply calm_shift | apply calm_stringOp | apply calm_floatArith | apply calm_floatCmp | apply calm_intArith | apply calm_intDiv | apply calm_intBits | apply calm_intCmp | apply calm_shift | apply calm_stringOp | apply calm_floatArith | apply calm_floatCmp | apply calm_eqGuardIn | apply calm_equal | apply calm_eqGuard | apply calm_binOp
    | with_reducible first | (refine calm_forInArr (fun _ _ => ?_) _ _) | (refine calm_forInRange (fun _ _ => ?_) _ _) | (refine calm_bind (ok := fun _ => True) ?_ (fun _ _ => ?_))
    | split
    | dsimp only

theorem calm_max2 (x y : Value) : Calm P (fun _ => True) (Builtin.max2 x y) := by
  unfold Builtin.max2
  repeat' first
    | with_reducible first | apply calm_stuck | apply calm_unsup | apply calm_goPanic | apply calm_rtPanic | apply calm_bounds | apply calm_under | apply calm_tyInfo | apply calm_sizeOf | apply calm_zero | apply calm_isAgg | apply calm_loadVar | apply calm_storeVar | apply calm_loadCells | apply calm_storeCells | apply calm_newRow | apply calm_newVar | apply calm_part | apply calm_asIntOf | apply calm_asInt | apply calm_asBool | apply calm_asAgg | apply calm_asAddr | apply calm_sureAddr | apply calm_choose | apply calm_getObj | apply calm_shape | apply calm_frozen | apply calm_askRoom | apply calm_noRoom | apply calm_env | apply calm_program | apply calm_pureT | apply calm_pureA | apply calm_newObj | apply calm_elemOf | apply calm_sliceBound | apply calm_sliceBounds | apply calm_slice | apply calm_panicnil | apply calm_floatArith | apply calm_floatCmp | apply calm_floatToFloat | apply calm_cArith | apply calm_cCmp | apply calm_cConv | apply calm_cadd | apply calm_csub | apply calm_cmul | apply calm_cquo | apply calm_cCorrected | apply calm_cProduct | apply calm_cQuotient | apply calm_complexOp | apply calm_viewAt | apply calm_numberAt | apply calm_asNumber | apply calm_behind | apply calm_noView | apply calm_stringish | apply calm_mayBeOne | apply calm_sameAddr | apply calm_samePointer | apply calm_typeStr | apply calm_byteOf | apply calm_unsafeAdd | apply calm_twoPlaces | apply calm_addrSub | apply calm_addrCmp | apply calm_addrMod | apply calm_movedNumber | apply calm_movedPointer | apply calm_intArith | apply calm_intDiv | apply calm_intBits | apply calm_intCmp | apply calm_shift | apply calm_stringOp | apply calm_floatArith | apply calm_floatCmp | apply calm_intArith | apply calm_intDiv | apply calm_intBits | apply calm_intCmp | apply calm_shift | apply calm_stringOp | apply calm_floatArith | apply calm_floatCmp | apply calm_eqGuardIn | apply calm_equal | apply calm_eqGuard | apply calm_binOp
    | with_reducible first | (refine calm_forInArr (fun _ _ => ?_) _ _) | (refine calm_forInRange (fun _ _ => ?_) _ _) | (refine calm_bind (ok := fun _ => True) ?_ (fun _ _ => ?_))
    | split
    | dsimp only

theorem calm_min2 (x y : Value) : Calm P (fun _ => True) (Builtin.min2 x y) := by
  unfold Builtin.min2
  repeat' first
    | with_reducible first | apply calm_stuck | apply calm_unsup | apply calm_goPanic | apply calm_rtPanic | apply calm_bounds | apply calm_under | apply calm_tyInfo | apply calm_sizeOf | apply calm_zero | apply calm_isAgg | apply calm_loadVar | apply calm_storeVar | apply calm_loadCells | apply calm_storeCells | apply calm_newRow | apply calm_newVar | apply calm_part | apply calm_asIntOf | apply calm_asInt | apply calm_asBool | apply calm_asAgg | apply calm_asAddr | apply calm_sureAddr | apply calm_choose | apply calm_getObj | apply calm_shape | apply calm_frozen | apply calm_askRoom | apply calm_noRoom | apply calm_env | apply calm_program | apply calm_pureT | apply calm_pureA | apply calm_newObj | apply calm_elemOf | apply calm_sliceBound | apply calm_sliceBounds | apply calm_slice | apply calm_panicnil | apply calm_floatArith | apply calm_floatCmp | apply calm_floatToFloat | apply calm_cArith | apply calm_cCmp | apply calm_cConv | apply calm_cadd | apply calm_csub | apply calm_cmul | apply calm_cquo | apply calm_cCorrected | apply calm_cProduct | apply calm_cQuotient | apply calm_complexOp | apply calm_viewAt | apply calm_numberAt | apply calm_asNumber | apply calm_behind | apply calm_noView | apply calm_stringish | apply calm_mayBeOne | apply calm_sameAddr | apply calm_samePointer | apply calm_typeStr | apply calm_byteOf | apply calm_unsafeAdd | apply calm_twoPlaces | apply calm_addrSub | apply calm_addrCmp | apply calm_addrMod | apply calm_movedNumber | apply calm_movedPointer | apply calm_intArith | apply calm_intDiv | apply calm_intBits | apply calm_intCmp | apply calm_shift | apply calm_stringOp | apply calm_floatArith | apply calm_floatCmp | apply calm_intArith | apply calm_intDiv | apply calm_intBits | apply calm_intCmp | apply calm_shift | apply calm_stringOp | apply calm_floatArith | apply calm_floatCmp | apply calm_eqGuardIn | apply calm_equal | apply calm_eqGuard | apply calm_binOp
    | with_reducible first | (refine calm_forInArr (fun _ _ => ?_) _ _) | (refine calm_forInRange (fun _ _ => ?_) _ _) | (refine calm_bind (ok := fun _ => True) ?_ (fun _ _ => ?_))
    | split
    | dsimp only

theorem calm_foldlM {α β : Type} {f : β → α → Sem β} (h : ∀ a b, Calm P (fun _ => True) (f b a)) : ∀ (l : List α) (b : β), Calm P (fun _ => True) (l.foldlM f b)
  | [], _ => trivial
  | a :: l, b => by rw [List.foldlM_cons]; exact calm_bind (ok := fun _ => True) (h a b) fun r _ => calm_foldlM h l r
theorem calm_max (ts : Array TypeId) (t : TypeId) (vs : Array Value) : Calm P (fun _ => True) (Builtin.max_ ts t vs) := by
  unfold Builtin.max_; split
  · exact trivial
  · exact calm_foldlM (fun _ _ => calm_max2 _ _) _ _
theorem calm_min (ts : Array TypeId) (t : TypeId) (vs : Array Value) : Calm P (fun _ => True) (Builtin.min_ ts t vs) := by
  unfold Builtin.min_; split
  · exact trivial
  · exact calm_foldlM (fun _ _ => calm_min2 _ _) _ _
theorem calm_mapMList {α β : Type} {f : α → Sem β} (h : ∀ a, Calm P (fun _ => True) (f a)) : ∀ (l : List α), Calm P (fun _ => True) (l.mapM f)
  | [] => trivial
  | a :: l => by rw [List.mapM_cons]; exact calm_bind (ok := fun _ => True) (h a) fun r _ => calm_bind (ok := fun _ => True) (calm_mapMList h l) fun _ _ => trivial

theorem calm_holdsCells (a : Addr) (n : Nat) : Calm P (fun _ => True) (Builtin.holdsCells a n) := by
  unfold Builtin.holdsCells
  repeat' first
    | with_reducible first | apply calm_stuck | apply calm_unsup | apply calm_goPanic | apply calm_rtPanic | apply calm_bounds | apply calm_under | apply calm_tyInfo | apply calm_sizeOf | apply calm_zero | apply calm_isAgg | apply calm_loadVar | apply calm_storeVar | apply calm_loadCells | apply calm_storeCells | apply calm_newRow | apply calm_newVar | apply calm_part | apply calm_asIntOf | apply calm_asInt | apply calm_asBool | apply calm_asAgg | apply calm_asAddr | apply calm_sureAddr | apply calm_choose | apply calm_getObj | apply calm_shape | apply calm_frozen | apply calm_askRoom | apply calm_noRoom | apply calm_env | apply calm_program | apply calm_pureT | apply calm_pureA | apply calm_newObj | apply calm_elemOf | apply calm_sliceBound | apply calm_sliceBounds | apply calm_slice | apply calm_panicnil | apply calm_floatArith | apply calm_floatCmp | apply calm_floatToFloat | apply calm_cArith | apply calm_cCmp | apply calm_cConv | apply calm_cadd | apply calm_csub | apply calm_cmul | apply calm_cquo | apply calm_cCorrected | apply calm_cProduct | apply calm_cQuotient | apply calm_complexOp | apply calm_viewAt | apply calm_numberAt | apply calm_asNumber | apply calm_behind | apply calm_noView | apply calm_stringish | apply calm_mayBeOne | apply calm_sameAddr | apply calm_samePointer | apply calm_typeStr | apply calm_byteOf | apply calm_unsafeAdd | apply calm_twoPlaces | apply calm_addrSub | apply calm_addrCmp | apply calm_addrMod | apply calm_movedNumber | apply calm_movedPointer | apply calm_intArith | apply calm_intDiv | apply calm_intBits | apply calm_intCmp | apply calm_shift | apply calm_stringOp | apply calm_floatArith | apply calm_floatCmp | apply calm_intArith | apply calm_intDiv | apply calm_intBits | apply calm_intCmp | apply calm_shift | apply calm_stringOp | apply calm_floatArith | apply calm_floatCmp | apply calm_eqGuardIn | apply calm_equal | apply calm_eqGuard | apply calm_binOp
    | with_reducible first | (refine calm_forInArr (fun _ _ => ?_) _ _) | (refine calm_forInRange (fun _ _ => ?_) _ _) | (refine calm_bind (ok := fun _ => True) ?_ (fun _ _ => ?_))
    | split
    | dsimp only

theorem calm_mayShare (a b c : Nat) (o : Option Addr) (v : Value) : Calm P (fun _ => True) (Builtin.mayShare a b c o v) := by
  unfold Builtin.mayShare
  repeat' first
    | with_reducible first | apply calm_stuck | apply calm_unsup | apply calm_goPanic | apply calm_rtPanic | apply calm_bounds | apply calm_under | apply calm_tyInfo | apply calm_sizeOf | apply calm_zero | apply calm_isAgg | apply calm_loadVar | apply calm_storeVar | apply calm_loadCells | apply calm_storeCells | apply calm_newRow | apply calm_newVar | apply calm_part | apply calm_asIntOf | apply calm_asInt | apply calm_asBool | apply calm_asAgg | apply calm_asAddr | apply calm_sureAddr | apply calm_choose | apply calm_getObj | apply calm_shape | apply calm_frozen | apply calm_askRoom | apply calm_noRoom | apply calm_env | apply calm_program | apply calm_pureT | apply calm_pureA | apply calm_newObj | apply calm_elemOf | apply calm_sliceBound | apply calm_sliceBounds | apply calm_slice | apply calm_panicnil | apply calm_floatArith | apply calm_floatCmp | apply calm_floatToFloat | apply calm_cArith | apply calm_cCmp | apply calm_cConv | apply calm_cadd | apply calm_csub | apply calm_cmul | apply calm_cquo | apply calm_cCorrected | apply calm_cProduct | apply calm_cQuotient | apply calm_complexOp | apply calm_viewAt | apply calm_numberAt | apply calm_asNumber | apply calm_behind | apply calm_noView | apply calm_stringish | apply calm_mayBeOne | apply calm_sameAddr | apply calm_samePointer | apply calm_typeStr | apply calm_byteOf | apply calm_unsafeAdd | apply calm_twoPlaces | apply calm_addrSub | apply calm_addrCmp | apply calm_addrMod | apply calm_movedNumber | apply calm_movedPointer | apply calm_intArith | apply calm_intDiv | apply calm_intBits | apply calm_intCmp | apply calm_shift | apply calm_stringOp | apply calm_floatArith | apply calm_floatCmp | apply calm_intArith | apply calm_intDiv | apply calm_intBits | apply calm_intCmp | apply calm_shift | apply calm_stringOp | apply calm_floatArith | apply calm_floatCmp | apply calm_eqGuardIn | apply calm_equal | apply calm_eqGuard | apply calm_binOp | apply calm_holdsCells
    | with_reducible first | (refine calm_forInArr (fun _ _ => ?_) _ _) | (refine calm_forInRange (fun _ _ => ?_) _ _) | (refine calm_bind (ok := fun _ => True) ?_ (fun _ _ => ?_))
    | split
    | dsimp only

theorem calm_lenOf (v : Value) : Calm P (fun _ => True) (Builtin.lenOf v) := by
  unfold Builtin.lenOf
  repeat' first
    | with_reducible first | apply calm_stuck | apply calm_unsup | apply calm_goPanic | apply calm_rtPanic | apply calm_bounds | apply calm_under | apply calm_tyInfo | apply calm_sizeOf | apply calm_zero | apply calm_isAgg | apply calm_loadVar | apply calm_storeVar | apply calm_loadCells | apply calm_storeCells | apply calm_newRow | apply calm_newVar | apply calm_part | apply calm_asIntOf | apply calm_asInt | apply calm_asBool | apply calm_asAgg | apply calm_asAddr | apply calm_sureAddr | apply calm_choose | apply calm_getObj | apply calm_shape | apply calm_frozen | apply calm_askRoom | apply calm_noRoom | apply calm_env | apply calm_program | apply calm_pureT | apply calm_pureA | apply calm_newObj | apply calm_elemOf | apply calm_sliceBound | apply calm_sliceBounds | apply calm_slice | apply calm_panicnil | apply calm_floatArith | apply calm_floatCmp | apply calm_floatToFloat | apply calm_cArith | apply calm_cCmp | apply calm_cConv | apply calm_cadd | apply calm_csub | apply calm_cmul | apply calm_cquo | apply calm_cCorrected | apply calm_cProduct | apply calm_cQuotient | apply calm_complexOp | apply calm_viewAt | apply calm_numberAt | apply calm_asNumber | apply calm_behind | apply calm_noView | apply calm_stringish | apply calm_mayBeOne | apply calm_sameAddr | apply calm_samePointer | apply calm_typeStr | apply calm_byteOf | apply calm_unsafeAdd | apply calm_twoPlaces | apply calm_addrSub | apply calm_addrCmp | apply calm_addrMod | apply calm_movedNumber | apply calm_movedPointer | apply calm_intArith | apply calm_intDiv | apply calm_intBits | apply calm_intCmp | apply calm_shift | apply calm_stringOp | apply calm_floatArith | apply calm_floatCmp | apply calm_intArith | apply calm_intDiv | apply calm_intBits | apply calm_intCmp | apply calm_shift | apply calm_stringOp | apply calm_floatArith | apply calm_floatCmp | apply calm_eqGuardIn | apply calm_equal | apply calm_eqGuard | apply calm_binOp | apply calm_holdsCells
    | with_reducible first | (refine calm_forInArr (fun _ _ => ?_) _ _) | (refine calm_forInRange (fun _ _ => ?_) _ _) | (refine calm_bind (ok := fun _ => True) ?_ (fun _ _ => ?_))
    | split
    | dsimp only

theorem calm_firstCells (a b : Nat) (v : Value) : Calm P (fun _ => True) (Builtin.firstCells a b v) := by
  unfold Builtin.firstCells
  repeat' first
    | with_reducible first | apply calm_stuck | apply calm_unsup | apply calm_goPanic | apply calm_rtPanic | apply calm_bounds | apply calm_under | apply calm_tyInfo | apply calm_sizeOf | apply calm_zero | apply calm_isAgg | apply calm_loadVar | apply calm_storeVar | apply calm_loadCells | apply calm_storeCells | apply calm_newRow | apply calm_newVar | apply calm_part | apply calm_asIntOf | apply calm_asInt | apply calm_asBool | apply calm_asAgg | apply calm_asAddr | apply calm_sureAddr | apply calm_choose | apply calm_getObj | apply calm_shape | apply calm_frozen | apply calm_askRoom | apply calm_noRoom | apply calm_env | apply calm_program | apply calm_pureT | apply calm_pureA | apply calm_newObj | apply calm_elemOf | apply calm_sliceBound | apply calm_sliceBounds | apply calm_slice | apply calm_panicnil | apply calm_floatArith | apply calm_floatCmp | apply calm_floatToFloat | apply calm_cArith | apply calm_cCmp | apply calm_cConv | apply calm_cadd | apply calm_csub | apply calm_cmul | apply calm_cquo | apply calm_cCorrected | apply calm_cProduct | apply calm_cQuotient | apply calm_complexOp | apply calm_viewAt | apply calm_numberAt | apply calm_asNumber | apply calm_behind | apply calm_noView | apply calm_stringish | apply calm_mayBeOne | apply calm_sameAddr | apply calm_samePointer | apply calm_typeStr | apply calm_byteOf | apply calm_unsafeAdd | apply calm_twoPlaces | apply calm_addrSub | apply calm_addrCmp | apply calm_addrMod | apply calm_movedNumber | apply calm_movedPointer | apply calm_intArith | apply calm_intDiv | apply calm_intBits | apply calm_intCmp | apply calm_shift | apply calm_stringOp | apply calm_floatArith | apply calm_floatCmp | apply calm_intArith | apply calm_intDiv | apply calm_intBits | apply calm_intCmp | apply calm_shift | apply calm_stringOp | apply calm_floatArith | apply calm_floatCmp | apply calm_eqGuardIn | apply calm_equal | apply calm_eqGuard | apply calm_binOp | apply calm_holdsCells
    | with_reducible first | (refine calm_forInArr (fun _ _ => ?_) _ _) | (refine calm_forInRange (fun _ _ => ?_) _ _) | (refine calm_bind (ok := fun _ => True) ?_ (fun _ _ => ?_))
    | split
    | dsimp only

end
end Go.Proofs.Ytiacfaeanlkalaa
