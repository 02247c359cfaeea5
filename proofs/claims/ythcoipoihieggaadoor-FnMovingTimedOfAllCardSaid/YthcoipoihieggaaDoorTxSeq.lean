/- A range over an iterator that keeps its state in a captured variable: what the iterator owes, and the statement's law. No program. -/
import Derived.RangeFuncNested
import Derived.RangeFuncBound
import Derived.RangeFuncCalls
import Derived.RangeFuncLeaves
import Derived.RangeFuncBox
import Derived.Shelf.Abstract
import Derived.Shelf.RegionOpen
import Derived.WalkKit
import Derived.OwnWalkIn
import Derived.TacticsInMore
import Derived.LoopNIn
import Derived.LoopIn
namespace Go.Proofs.YthcoipoihieggaaDoor
set_option maxRecDepth 100000
open Go.RowKit Go.Shelf

/-- blocks that lie as they lay -/
def Lay (L : List Nat) (W W' : World) : Prop := ∀ k ∈ L, W'.heap[k]? = W.heap[k]?
theorem Lay.refl (L : List Nat) (W : World) : Lay L W W := fun _ _ => rfl
theorem Lay.trans {L : List Nat} {A B C : World} (h : Lay L A B) (k : Lay L B C) : Lay L A C := fun i hi => (k i hi).trans (h i hi)
theorem Lay.put {L : List Nat} (W : World) {l : Nat} (o : Obj) (h : ∀ k ∈ L, k ≠ l) : Lay L W (W.putObj l o) := fun k hk => World.putObj_heap_other (h k hk)
theorem Lay.below {L : List Nat} {W W' : World} {B : Nat} (h : Below B W W') (hB : ∀ k ∈ L, k < B) : Lay L W W' := fun k hk => h.block k (hB k hk)
/-- an invariant that minds no new block and nothing that the block c holds -/
def MindsC {β : Type} (c : Nat) (J : β → World → Prop) : Prop :=
  ∀ s W W' row, J s W → W.grownBy W' row → (∀ r, row = some r → r = c) → J s W'
/-- the same of one that minds no turn of a block beyond B that is no cells, either -/
def MindsB {β : Type} (B c : Nat) (I : β → World → Prop) : Prop :=
  ∀ s W W' row, I s W → W.grownBy W' row → (∀ r, row = some r → r = c ∨ (B ≤ r ∧ ∃ o : Obj, W.heap[r]? = some o ∧ o.isCells = false)) → I s W'
theorem MindsB.putObj {β : Type} {B c : Nat} {I : β → World → Prop} (h : MindsB B c I) {s : β} {W : World} {l : Nat} {o : Obj} (o' : Obj) (hs : I s W) (hB : B ≤ l) (hl : W.heap[l]? = some o) (ho : o.isCells = false) : I s (W.putObj l o') :=
  h s W _ (some l) hs (grownBy_putObj' W l o') (fun r e => by cases e; exact .inr ⟨hB, o, hl, ho⟩)
theorem MindsB.alloc {β : Type} {B c : Nat} {I : β → World → Prop} (h : MindsB B c I) {s : β} {W : World} (o : Obj) (hs : I s W) : I s (W.alloc o) :=
  h s W _ none hs (World.grownBy_alloc W o none) (fun r e => by cases e)
theorem MindsB.and {β : Type} {B c : Nat} {I I' : β → World → Prop} (h : MindsB B c I) (h' : MindsB B c I') : MindsB B c (fun s W => I s W ∧ I' s W) := fun s W W' row hs hg hr => ⟨h s W W' row hs.1 hg hr, h' s W W' row hs.2 hg hr⟩
theorem mindsB_below {β : Type} {n₀ B c : Nat} {w₀ : World} (hn : n₀ ≤ w₀.heap.size) (hB : n₀ ≤ B) (hc : n₀ ≤ c) : MindsB B c (fun (_ : β) W => Below n₀ w₀ W) :=
  fun _ _ _ _ hs hg hr => hs.grown hg (Nat.le_trans hn hs.size) (fun k e => (hr k e).elim (fun h => by omega) (fun h => Nat.le_trans hB h.1))
theorem mindsB_boxed {β : Type} {B c : Nat} (b : Nat) (t : TypeId) (f : β → Value) (hbc : b ≠ c) : MindsB B c (fun s W => Boxed W b t (f s)) := fun s X Y row hs hg hrow =>
  hs.kept hg (fun e' => by
    rcases hrow b e'.symm with h | ⟨_, o, ho, hc⟩
    · exact hbc h
    · rw [show X.heap[b]? = _ from hs] at ho; cases ho; cases hc)

/-- what an iterator owes whose one captured block c turns between two rounds -/
def SeqC {α : Type} (n : Nat) (P : Program) (g : Nat) (lb : Array Value) (encs : α → Array Value) (L : List Nat) (S Sp : List α → Prop) (N c : Nat) (w : World) : Prop :=
  ∀ (l : Nat) (J Jx : List α → World → Prop) (W : World), Below w.heap.size w W → MindsC c J → MindsC c Jx →
    (∀ pre x W1, J pre W1 → pre.length < N → YieldAt Fence.wide (n - 1) P l (encs x) W1 fun e W' =>
      (e = .returned (.bool true) ∧ J (pre ++ [x]) W' ∧ Lay L W1 W') ∨ (e = .returned (.bool false) ∧ Jx (pre ++ [x]) W')) →
    J [] W →
    CallsIn Fence.wide n P g (#[.func (.yield l) #[] #[]] ++ lb) W fun e W' => (∃ v, e = .returned v) ∧ ((∃ xs, S xs ∧ J xs W') ∨ (∃ pre, Sp pre ∧ Jx pre W'))

/-- the ways out of a round's body -/
def outC {α : Type} (B : Nat) (L : List Nat) (I : List α → World → Prop) (Ix : Code → List α → World → Prop) (xs : List α) (W : World) : Exit → Act → World → Prop
  | .normal, _, W' => KeepsFrom B W W' ∧ Lay L W W' ∧ I xs W'
  | .ret, _, W' => KeepsFrom B W W' ∧ Ix .ret xs W'
  | _, _, _ => False

theorem wpIn_rangeC {α : Type} {n : Nat} {P : Program} {g : Operand} {ps : Array Tmp} {assign body : Code} {Q : Exit → Act → World → Prop} {a : Act} {w : World}
    {gf : Nat} {lb : Array Value} (hg : a.eval g = .func (.func gf) #[] lb) (eg : ∀ args w, (callFunc gf args).run P w = .ok (.enter gf args) w)
    {encs : α → Array Value} {L : List Nat} {S Sp : List α → Prop} {N c : Nat} (hseq : SeqC (n - 1) P gf lb encs L S Sp N c w) (hL : ∀ k ∈ L, k < w.heap.size) (hc : c < w.heap.size)
    (hps : ∀ x, (encs x).size = ps.size)
    (I : List α → World → Prop) (Ix : Code → List α → World → Prop) (hI : MindsB w.heap.size c I) (hIx : ∀ j, MindsB w.heap.size c (Ix j)) (h0 : I [] w) (a₁ : α → Act)
    (hassign : ∀ (l : Nat) (x : α) (W : World) (K : Act → World → Prop), K (a₁ x) W →
      assign.wpIn (Fence.wide.inRound l) (n - 1 - 1) P (Exit.then K (fun _ _ _ => False)) { tmps := (ps.zip (encs x)).foldl (fun t (p, v) => t.setIfInBounds p v) a.tmps, defers := [] } W)
    (hbody : ∀ (l : Nat) (pre : List α) (x : α) (W : World), I pre W → pre.length < N → body.wpIn (Fence.wide.inRound l) (n - 1 - 1) P (outC w.heap.size L I Ix (pre ++ [x]) W) (a₁ x) W)
    (hdone : ∀ (D : Nat) (xs : List α) (W : World), w.heap.size ≤ D → S xs → I xs W → W.heap[D]? = some (.deferred (some [])) → Q .normal { a with defers := { target := .collected D, args := #[] } :: a.defers } W)
    (hstop : ∀ (D : Nat) (j : Code) (pre : List α) (W : World), w.heap.size ≤ D → Sp pre → Ix j pre W → W.heap[D]? = some (.deferred (some [])) → j.wpIn Fence.wide n P Q { a with defers := { target := .collected D, args := #[] } :: a.defers } W) :
    (Code.rangeFunc g ps assign body).wpIn Fence.wide n P Q a w := by
  refine wpIn_rangeFunc fun fn hfn => ?_
  -- the record and the block for deferred calls that the statement lays
  obtain ⟨R, hR⟩ : ∃ R : LoopState → Option Code → Loop, R = fun st pe => { state := st, pending := pe, fn, tmps := a.tmps, params := ps, assign, body, defers := w.heap.size } := ⟨_, rfl⟩
  obtain ⟨W0, hW0⟩ : ∃ W0, (w.alloc (.deferred (some []))).alloc (.loop (R .ready none)) = W0 := ⟨_, rfl⟩
  have rec0 : W0.heap[w.heap.size + 1]? = some (.loop (R .ready none)) := by
    have := World.alloc_heap_new (w.alloc (.deferred (some []))) (.loop (R .ready none))
    rw [World.size_alloc, hW0] at this; exact this
  have def0 : W0.heap[w.heap.size]? = some (.deferred (some [])) := by
    rw [← hW0]; exact (Below.heap_alloc _ _ _ (by simp)).trans (World.alloc_heap_new w _)
  have i0 : I [] W0 := by rw [← hW0]; exact hI.alloc _ (hI.alloc _ h0)
  have b0 : Below w.heap.size w W0 := by rw [← hW0]; exact ((Below.refl _ w).alloc (Nat.le_refl _) _).alloc (by simp) _
  have keepC : ∀ {A B : World} {row : Option Nat} {k : Nat} {o : Obj}, A.grownBy B row → (∀ r, row = some r → r = c) → w.heap.size ≤ k → A.heap[k]? = some o → B.heap[k]? = some o := fun hgr hrow hk ho =>
    (hgr.block _ (Array.getElem?_eq_some_iff.1 ho).1 (fun e => by have := hrow _ e.symm; omega)).trans ho
  have keepI : ∀ {row : Option Nat} {A : World}, (∀ r, row = some r → r = c) → (∀ r, row = some r → r = c ∨ (w.heap.size ≤ r ∧ ∃ o : Obj, A.heap[r]? = some o ∧ o.isCells = false)) := fun h r e => .inl (h r e)
  refine ⟨w.heap.size + 1, [{ target := .collected w.heap.size, args := #[] }], W0, { target := .fn (.func gf) lb, args := #[.func (.yield (w.heap.size + 1)) #[] #[]] }, W0, gf,
    #[.func (.yield (w.heap.size + 1)) #[] #[]] ++ lb, W0, ?_, ?_, fun _ _ => trivial, ?_, fun h => absurd h (by simp [Fence.wide]), ?_⟩
  · rw [← hW0, hR]; exact run_enterLoop_outer _ _ _ _ _
  · simp only [resolve, hg]
    simp [go_sem]
  · simp [invoke, go_sem, eg]
  refine (hseq (w.heap.size + 1)
    (fun pre W => I pre W ∧ W.heap[w.heap.size + 1]? = some (.loop (R .ready none)) ∧ W.heap[w.heap.size]? = some (.deferred (some [])))
    (fun pre W => ∃ j, Ix j pre W ∧ W.heap[w.heap.size + 1]? = some (.loop (R .done (some j))) ∧ W.heap[w.heap.size]? = some (.deferred (some [])))
    W0 b0
    (fun s A B row hs hg' hr => ⟨hI s A B row hs.1 hg' (keepI hr), keepC hg' hr (by omega) hs.2.1, keepC hg' hr (by omega) hs.2.2⟩)
    (fun s A B row ⟨j, hj, hl, hd⟩ hg' hr => ⟨j, hIx j s A B row hj hg' (keepI hr), keepC hg' hr (by omega) hl, keepC hg' hr (by omega) hd⟩)
    ?_ ⟨i0, rec0, def0⟩).mono ?_
  · -- one round
    rintro pre x W ⟨hi, hl, hd⟩ hlen
    have hlt : w.heap.size + 1 < W.heap.size := (Array.getElem?_eq_some_iff.1 hl).1
    have hy := run_yield (P := P) (args := encs x) hl (by rw [hR]; exact hps x)
    obtain ⟨Wb, hWb⟩ : ∃ Wb, W.putObj (w.heap.size + 1) (.loop (R .busy none)) = Wb := ⟨_, rfl⟩
    have hbeg : (Instr.beginRound (w.heap.size + 1)).run P W = .ok () Wb := by
      have := run_beginRound (P := P) hl (by rw [hR])
      rw [hR] at this; rw [← hWb, hR]; exact this
    have recb : Wb.heap[w.heap.size + 1]? = some (.loop (R .busy none)) := by rw [← hWb]; exact World.putObj_heap_same hlt
    have defb : Wb.heap[w.heap.size]? = some (.deferred (some [])) := by rw [← hWb]; exact (World.putObj_heap_other (by omega)).trans hd
    have ib : I pre Wb := by rw [← hWb]; exact hI.putObj _ hi (by omega) hl rfl
    have layb : Lay L W Wb := by rw [← hWb]; exact Lay.put W _ (fun k hk => by have := hL k hk; omega)
    rw [hR] at hy
    refine ⟨fn, _, assign, body, hy, roundIn_of_wpIn hfn (hassign _ x W _ ⟨Wb, hbeg, wpIn_mono (hbody _ pre x Wb ib hlen) ?_⟩)⟩
    rintro e a3 W3 hp
    cases e with
    | normal =>
      obtain ⟨hk, hly, hi3⟩ := hp
      have rec3 := hk.same _ _ (by omega) recb rfl
      have def3 := hk.same _ _ (Nat.le_refl _) defb rfl
      refine ⟨.bool true, W3.putObj (w.heap.size + 1) (.loop (R .ready none)), ?_, .inl ⟨rfl, ⟨hI.putObj _ hi3 (by omega) rec3 rfl, World.putObj_heap_same (Array.getElem?_eq_some_iff.1 rec3).1, (World.putObj_heap_other (by omega)).trans def3⟩, (layb.trans hly).trans (Lay.put W3 _ (fun k hk => by have := hL k hk; omega))⟩⟩
      have := run_endRound (P := P) none rec3
      rw [hR] at this ⊢; exact this
    | ret =>
      obtain ⟨hk, hi3⟩ := hp
      have rec3 := hk.same _ _ (by omega) recb rfl
      have def3 := hk.same _ _ (Nat.le_refl _) defb rfl
      refine ⟨.bool false, W3.putObj (w.heap.size + 1) (.loop (R .done (some .ret))), ?_, .inr ⟨rfl, .ret, (hIx _).putObj _ hi3 (by omega) rec3 rfl, World.putObj_heap_same (Array.getElem?_eq_some_iff.1 rec3).1, (World.putObj_heap_other (by omega)).trans def3⟩⟩
      have := run_endRound (P := P) (some .ret) rec3
      rw [hR] at this ⊢; exact this
    | exit id => exact hp.elim
    | goto t => exact hp.elim
    | panic ch => exact hp.elim
    | outgrown => exact hp.elim
  · -- behind the iterator
    rintro e W2 ⟨⟨v, rfl⟩, (⟨xs, hS, hi, hl, hd⟩ | ⟨pre, hSp, j, hi, hl, hd⟩)⟩
    · have := run_endLoop (P := P) hl (by rw [hR]; simp)
      rw [hR] at this
      exact ⟨none, _, this, hdone _ xs _ (Nat.le_refl _) hS (hI.putObj _ hi (by omega) hl rfl) ((World.putObj_heap_other (by omega)).trans hd)⟩
    · have := run_endLoop (P := P) hl (by rw [hR]; simp)
      rw [hR] at this
      exact ⟨some j, _, this, hstop _ j pre _ (Nat.le_refl _) hSp ((hIx j).putObj _ hi (by omega) hl rfl) ((World.putObj_heap_other (by omega)).trans hd)⟩

end Go.Proofs.YthcoipoihieggaaDoor
