/- A stock of stairs: a row of the call's own whose elements have rows of their own, none shared. -/
import Derived.Test.YtehffiaobjlpoaaPzE
import Derived.Test.YtehffiaobjlpoaaApp
namespace Go.Proofs.Ytehffiaobjlpoaa
open Go.RowKit
set_option maxRecDepth 100000

theorem OwnI.keep {w w' : World} {B : Nat} {v : Value} {xs : List Int} (h : OwnI w B v xs) (hk : ∀ k, v.ownBlock = some k → w'.heap[k]? = w.heap[k]?) : OwnI w' B v xs := by
  refine ⟨h.1, ?_⟩
  rcases h.2 with h0 | ⟨g, cap, cur, rfl, hg, hh, r⟩
  · exact .inl h0
  · exact .inr ⟨g, cap, cur, rfl, hg, by rw [hk g rfl]; exact hh, r⟩
/-- the block of no row of a stock -/
def NotIn (v : Value) (L : Lr) (k : Nat) : Prop := v.ownBlock ≠ some k ∧ ∀ x ∈ L, x.1.2.1.ownBlock ≠ some k ∧ x.1.2.2.ownBlock ≠ some k
structure Stock (w : World) (B : Nat) (v : Value) (L : Lr) : Prop where
  row : OwnE w B v (elsL L)
  own : ∀ x ∈ L, x.1.1 = x.2.1 ∧ OwnI w B x.1.2.1 x.2.2.1 ∧ OwnI w B x.1.2.2 x.2.2.2 ∧ Apart x.1.2.1 x.1.2.2
  out : ∀ x ∈ L, Apart v x.1.2.1 ∧ Apart v x.1.2.2
  pair : L.Pairwise fun x y => Apart x.1.2.1 y.1.2.1 ∧ Apart x.1.2.1 y.1.2.2 ∧ Apart x.1.2.2 y.1.2.1 ∧ Apart x.1.2.2 y.1.2.2
theorem Stock.nil (w : World) (B : Nat) : Stock w B (.slice none 0 0) [] := ⟨OwnE.nil _ _, by simp, by simp, List.Pairwise.nil⟩
theorem Stock.keep {w w' : World} {B : Nat} {v : Value} {L : Lr} (h : Stock w B v L) (hk : ∀ k, B ≤ k → k < w.heap.size → w'.heap[k]? = w.heap[k]?) : Stock w' B v L :=
  ⟨h.row.keep fun k e => hk k (h.row.lt k e).1 (h.row.lt k e).2, fun x hx => by
    obtain ⟨h0, h1, h2, h3⟩ := h.own x hx
    exact ⟨h0, h1.keep fun k e => hk k (h1.lt k e).1 (h1.lt k e).2, h2.keep fun k e => hk k (h2.lt k e).1 (h2.lt k e).2, h3⟩, h.out, h.pair⟩
theorem Stock.below {w w' : World} {B B' : Nat} {v : Value} {L : Lr} (h : Stock w B v L) (hb : Below B' w w') (hB : w.heap.size ≤ B') : Stock w' B v L :=
  h.keep fun k _ hk => hb.block k (Nat.lt_of_lt_of_le hk hB)
theorem Stock.mono {w : World} {B B' : Nat} {v : Value} {L : Lr} (h : Stock w B v L) (hB : B' ≤ B) : Stock w B' v L :=
  ⟨h.row.mono hB, fun x hx => by
    obtain ⟨h0, h1, h2, h3⟩ := h.own x hx
    exact ⟨h0, h1.mono hB, h2.mono hB, h3⟩, h.out, h.pair⟩
theorem Stock.notIn {w : World} {B : Nat} {v : Value} {L : Lr} (h : Stock w B v L) {k : Nat} (hk : w.heap.size ≤ k) : NotIn v L k :=
  ⟨fun e => by have := (h.row.lt k e).2; omega, fun x hx => by
    obtain ⟨_, h1, h2, _⟩ := h.own x hx
    exact ⟨fun e => by have := (h1.lt k e).2; omega, fun e => by have := (h2.lt k e).2; omega⟩⟩
/-- one element more -/
theorem Stock.push {w w' : World} {B : Nat} {v v' : Value} {L : Lr} {e : El} {r : Rc} (h : Stock w B v L) (h0 : e.1 = r.1) (h1 : OwnI w B e.2.1 r.2.1) (h2 : OwnI w B e.2.2 r.2.2) (ha : Apart e.2.1 e.2.2)
    (n1 : ∀ k, e.2.1.ownBlock = some k → NotIn v L k) (n2 : ∀ k, e.2.2.ownBlock = some k → NotIn v L k)
    (ho : OwnE w' B v' (elsL L ++ [e])) (hg : w.grownBy w' v.ownBlock) (hv : v'.ownBlock = v.ownBlock ∨ v'.ownBlock = some w.heap.size) : Stock w' B v' (L ++ [(e, r)]) := by
  have keepI : ∀ {u : Value} {xs : List Int}, OwnI w B u xs → Apart v u → OwnI w' B u xs := fun hu hap => hu.keep fun k hk => hg.block k (hu.lt k hk).2 (fun ek => hap k ek.symm hk)
  have apE1 : Apart v e.2.1 := fun k e1 e2 => (n1 k e2).1 e1
  have apE2 : Apart v e.2.2 := fun k e1 e2 => (n2 k e2).1 e1
  have apN : ∀ {u : Value} {xs : List Int}, OwnI w B u xs → Apart v u → Apart v' u := fun hu hap k e1 e2 => by
    rcases hv with hv | hv
    · exact hap k (hv ▸ e1) e2
    · rw [hv] at e1
      have := (hu.lt k e2).2
      injection e1 with e1
      omega
  refine ⟨?_, ?_, ?_, ?_⟩
  · simpa [elsL] using ho
  · intro x hx
    rcases List.mem_append.1 hx with hx | hx
    · obtain ⟨a0, a1, a2, a3⟩ := h.own x hx
      exact ⟨a0, keepI a1 (h.out x hx).1, keepI a2 (h.out x hx).2, a3⟩
    · obtain rfl : x = (e, r) := by simpa using hx
      exact ⟨h0, keepI h1 apE1, keepI h2 apE2, ha⟩
  · intro x hx
    rcases List.mem_append.1 hx with hx | hx
    · obtain ⟨_, a1, a2, _⟩ := h.own x hx
      exact ⟨apN a1 (h.out x hx).1, apN a2 (h.out x hx).2⟩
    · obtain rfl : x = (e, r) := by simpa using hx
      exact ⟨apN h1 apE1, apN h2 apE2⟩
  · rw [List.pairwise_append]
    refine ⟨h.pair, by simp, ?_⟩
    intro x hx y hy
    obtain rfl : y = (e, r) := by simpa using hy
    exact ⟨fun k e1 e2 => ((n1 k e2).2 x hx).1 e1, fun k e1 e2 => ((n2 k e2).2 x hx).1 e1, fun k e1 e2 => ((n1 k e2).2 x hx).2 e1, fun k e1 e2 => ((n2 k e2).2 x hx).2 e1⟩
theorem NotIn.push {w : World} {v v' : Value} {L : Lr} {e : El} {r : Rc} {k : Nat} (h : NotIn v L k) (hk : k ≠ w.heap.size) (hv : v'.ownBlock = v.ownBlock ∨ v'.ownBlock = some w.heap.size) (h1 : e.2.1.ownBlock ≠ some k) (h2 : e.2.2.ownBlock ≠ some k) : NotIn v' (L ++ [(e, r)]) k := by
  refine ⟨fun e1 => ?_, fun x hx => ?_⟩
  · rcases hv with hv | hv
    · exact h.1 (hv ▸ e1)
    · rw [hv] at e1; injection e1 with e1; omega
  · rcases List.mem_append.1 hx with hx | hx
    · exact h.2 x hx
    · obtain rfl : x = (e, r) := by simpa using hx
      exact ⟨h1, h2⟩
/-- a stock reads -/
theorem Stock.read {w : World} {B : Nat} {v : Value} {L : Lr} (h : Stock w B v L) (hs : ∀ x ∈ L, x.2.2.1.length ≤ 1048576 ∧ x.2.2.2.length ≤ 1048576) :
    ∃ A c, v = .slice A L.length c ∧ RdE w w.heap.size A c (elsL L) ∧ ∀ x ∈ L, StE w w.heap.size x.1 x.2 := by
  obtain ⟨A, c, rfl⟩ := h.row.form
  refine ⟨A, c, by rw [elsL_len], h.row.rd, fun x hx => ?_⟩
  obtain ⟨h0, h1, h2, _⟩ := h.own x hx
  obtain ⟨A1, c1, e1, r1⟩ := h1.form
  obtain ⟨A2, c2, e2, r2⟩ := h2.form
  exact ⟨h0, A1, A2, c1, c2, e1, e2, r1, r2, (hs x hx).1, (hs x hx).2⟩
/-- some elements of a stock in a new row -/
theorem Stock.filter {w w' : World} {B : Nat} {v v' : Value} {L : Lr} (p : El × Rc → Bool) (h : Stock w B v L) (ho : OwnE w' w.heap.size v' (elsL (L.filter p))) (hB : B ≤ w.heap.size) (hb : Below w.heap.size w w') : Stock w' B v' (L.filter p) := by
  have hk := h.below hb (Nat.le_refl _)
  refine ⟨ho.mono hB, fun x hx => hk.own x (List.mem_filter.1 hx).1, fun x hx => ?_, List.Pairwise.filter _ h.pair⟩
  obtain ⟨_, h1, h2, _⟩ := h.own x (List.mem_filter.1 hx).1
  exact ⟨fun k e1 e2 => by have := (ho.lt k e1).1; have := (h1.lt k e2).2; omega, fun k e1 e2 => by have := (ho.lt k e1).1; have := (h2.lt k e2).2; omega⟩
theorem hid_lens {L : Lr} {rs : List Rc} (hL : recL L = rs) (h : ∀ r ∈ rs, hidB r.1 r.2.1 r.2.2 = true) : ∀ x ∈ L, x.2.2.1.length ≤ 1048576 ∧ x.2.2.2.length ≤ 1048576 := by
  intro x hx
  have h1 := h x.2 (by rw [← hL]; exact List.mem_map.2 ⟨x, hx, rfl⟩)
  simp only [hidB, goodB, Bool.and_eq_true, decide_eq_true_eq] at h1
  have h2 := inB_le h1.1.2.1
  omega

/-- the lists of strides as a literal's row: seven blocks, then their row -/
def stV (N j : Nat) : Value := .slice (some ⟨N + j, 0, none⟩) (strL.getD j []).length (strL.getD j []).length
def stRow (N : Nat) : Array Value := ((List.range 7).map (stV N)).toArray
theorem stRow_at {N j : Nat} (h : j < 7) : (stRow N)[j]? = some (stV N j) := by simp [stRow, h]
theorem stRow_eq (N : Nat) : (#[.slice (some ⟨N, 0, none⟩) 1 1, .slice (some ⟨N + 1, 0, none⟩) 2 2, .slice (some ⟨N + 1 + 1, 0, none⟩) 3 3, .slice (some ⟨N + 1 + 1 + 1, 0, none⟩) 2 2, .slice (some ⟨N + 1 + 1 + 1 + 1, 0, none⟩) 1 1, .slice (some ⟨N + 1 + 1 + 1 + 1 + 1, 0, none⟩) 2 2, .slice (some ⟨N + 1 + 1 + 1 + 1 + 1 + 1, 0, none⟩) 1 1] : Array Value) = stRow N := rfl
structure Strd (w : World) (N : Nat) (T : TypeId) : Prop where
  row : Blk w (N + 7) T (stRow N)
  each : ∀ j, j < 7 → Blk w (N + j) 3 (ints (strL.getD j []))
theorem Strd.below {w w' : World} {N B : Nat} {T : TypeId} (h : Strd w N T) (hb : Below B w w') (hB : N + 8 ≤ B) : Strd w' N T :=
  ⟨h.row.below hb (by omega), fun j hj => (h.each j hj).below hb (by omega)⟩
theorem Strd.size {w : World} {N : Nat} {T : TypeId} (h : Strd w N T) : N + 8 ≤ w.heap.size := h.row.lt
def strW (w : World) (T : TypeId) : World :=
  (((((((w.alloc (.cells #[.int .i64 1] 3)).alloc (.cells #[.int .i64 1, .int .i64 2] 3)).alloc (.cells #[.int .i64 1, .int .i64 2, .int .i64 3] 3)).alloc (.cells #[.int .i64 1, .int .i64 3] 3)).alloc (.cells #[.int .i64 2] 3)).alloc (.cells #[.int .i64 2, .int .i64 3] 3)).alloc (.cells #[.int .i64 3] 3)).alloc (.cells (stRow w.heap.size) T)
theorem strW_below (w : World) (T : TypeId) : Below w.heap.size w (strW w T) :=
  (((((((below_alloc _ _).alloc (by simp) _).alloc (by simp; omega) _).alloc (by simp; omega) _).alloc (by simp; omega) _).alloc (by simp; omega) _).alloc (by simp; omega) _).alloc (by simp; omega) _
theorem strW_size (w : World) (T : TypeId) : (strW w T).heap.size = w.heap.size + 8 := by simp [strW]
theorem strW_strd (w : World) (T : TypeId) : Strd (strW w T) w.heap.size T := by
  refine ⟨Blk.new' (by simp), ?_⟩
  intro j hj
  match j, hj with
  | 0, _ => exact (((((((Blk.new' (by simp)).alloc _).alloc _).alloc _).alloc _).alloc _).alloc _).alloc _
  | 1, _ => exact ((((((Blk.new' (by simp)).alloc _).alloc _).alloc _).alloc _).alloc _).alloc _
  | 2, _ => exact (((((Blk.new' (by simp)).alloc _).alloc _).alloc _).alloc _).alloc _
  | 3, _ => exact ((((Blk.new' (by simp)).alloc _).alloc _).alloc _).alloc _
  | 4, _ => exact (((Blk.new' (by simp)).alloc _).alloc _).alloc _
  | 5, _ => exact ((Blk.new' (by simp)).alloc _).alloc _
  | 6, _ => exact (Blk.new' (by simp)).alloc _

end Go.Proofs.Ytehffiaobjlpoaa
