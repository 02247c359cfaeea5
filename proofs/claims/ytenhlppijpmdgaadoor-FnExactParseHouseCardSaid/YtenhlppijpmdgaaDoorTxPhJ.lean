/- ParseHouse, the program's side: the house under way, as a loop's body that an iterator calls keeps it. No walk. -/
import Derived.Test.YtenhlppijpmdgaaDoorTxPhS
import Derived.Test.YtenhlppijpmdgaaDoorTxNin
import Derived.Test.YtenhlppijpmdgaaDoorGAppIn
namespace Go.Proofs.YtenhlppijpmdgaaDoor
open Go.RowKit Go.Shelf
set_option maxRecDepth 100000

/-- the house under way: its box b, behind it the iterator's three, its two rows elsewhere -/
structure Hq (b n₀ : Nat) (W : World) (xs ys : List Int) (v1 v2 : Value) : Prop where
  m : Blk W b 38 #[v1, v2]
  o1 : OwnI W n₀ v1 xs
  o2 : OwnI W n₀ v2 ys
  ap : Apart v1 v2
  f1 : ∀ k, v1.ownBlock = some k → k < b ∨ b + 4 ≤ k
  f2 : ∀ k, v2.ownBlock = some k → k < b ∨ b + 4 ≤ k
  hz : b + 4 ≤ W.heap.size
theorem Hq.below {b n₀ : Nat} {W W' : World} {xs ys : List Int} {v1 v2 : Value} (H : Hq b n₀ W xs ys v1 v2) (hb : Below W.heap.size W W') : Hq b n₀ W' xs ys v1 v2 :=
  ⟨H.m.below hb H.m.lt, H.o1.below hb (Nat.le_refl _), H.o2.below hb (Nat.le_refl _), H.ap, H.f1, H.f2, by have := H.hz; have := hb.size; omega⟩
theorem Hq.n1 {b n₀ : Nat} {W : World} {xs ys : List Int} {v1 v2 : Value} (H : Hq b n₀ W xs ys v1 v2) : ∀ j, j < 4 → b + j ∉ rowL v1 := fun j hj hm => by have := H.f1 _ (mem_rowL.1 hm); omega
theorem Hq.n2 {b n₀ : Nat} {W : World} {xs ys : List Int} {v1 v2 : Value} (H : Hq b n₀ W xs ys v1 v2) : ∀ j, j < 4 → b + j ∉ rowL v2 := fun j hj hm => by have := H.f2 _ (mem_rowL.1 hm); omega
theorem Hq.push1 {b n₀ : Nat} {W w9 : World} {xs ys : List Int} {v1 v2 v9 : Value} {z : Int} (H : Hq b n₀ W xs ys v1 v2) (ho : OwnI w9 n₀ v9 (xs ++ [z]))
    (T : Turned (W.alloc (.cells #[.int .i64 z] 3)) w9 (rowL v1)) (hob : v9.ownBlock = v1.ownBlock ∨ v9.ownBlock = some (W.heap.size + 1)) : Hq b n₀ (w9.setCell ⟨b, 0, none⟩ v9) (xs ++ [z]) ys v9 v2 := by
  have hz := H.hz
  have hf : ∀ k, v9.ownBlock = some k → k < b ∨ b + 4 ≤ k := fun k h1 => by
    rcases hob with e | e
    · rw [e] at h1; exact H.f1 k h1
    · rw [e] at h1; injection h1 with h1; omega
  refine ⟨((H.m.alloc _).turned T (H.n1 0 (by omega))).set_ 0 v9, ho.turned (turned_setH _ _ _ _) (fun k hk hm => by have := hf k hk; have := List.mem_singleton.1 hm; omega), ((H.o2.alloc _).turned T (fun k h2 hm => H.ap k (mem_rowL.1 hm) h2)).turned (turned_setH _ _ _ _) (fun k hk hm => by have := H.f2 k hk; have := List.mem_singleton.1 hm; omega), ?_, hf, H.f2, by have := T.size; simp at this ⊢; omega⟩
  intro k h1 h2
  rcases hob with e | e
  · rw [e] at h1; exact H.ap k h1 h2
  · rw [e] at h1; injection h1 with h1; have := (H.o2.lt k h2).2; omega
theorem Hq.push2 {b n₀ : Nat} {W w9 : World} {xs ys : List Int} {v1 v2 v9 : Value} {z : Int} (H : Hq b n₀ W xs ys v1 v2) (ho : OwnI w9 n₀ v9 (ys ++ [z]))
    (T : Turned (W.alloc (.cells #[.int .i64 z] 3)) w9 (rowL v2)) (hob : v9.ownBlock = v2.ownBlock ∨ v9.ownBlock = some (W.heap.size + 1)) : Hq b n₀ (w9.setCell ⟨b, 1, none⟩ v9) xs (ys ++ [z]) v1 v9 := by
  have hz := H.hz
  have hf : ∀ k, v9.ownBlock = some k → k < b ∨ b + 4 ≤ k := fun k h1 => by
    rcases hob with e | e
    · rw [e] at h1; exact H.f2 k h1
    · rw [e] at h1; injection h1 with h1; omega
  refine ⟨((H.m.alloc _).turned T (H.n2 0 (by omega))).set_ 1 v9, ((H.o1.alloc _).turned T (fun k h2 hm => H.ap k h2 (mem_rowL.1 hm))).turned (turned_setH _ _ _ _) (fun k hk hm => by have := H.f1 k hk; have := List.mem_singleton.1 hm; omega), ho.turned (turned_setH _ _ _ _) (fun k hk hm => by have := hf k hk; have := List.mem_singleton.1 hm; omega), ?_, H.f1, hf, by have := T.size; simp at this ⊢; omega⟩
  intro k h1 h2
  rcases hob with e | e
  · rw [e] at h2; exact H.ap k h1 h2
  · rw [e] at h2; injection h2 with h2; have := (H.o1.lt k h1).2; omega
/-- a block that no row is minds an iterator's rounds as a box does -/
theorem mindsB_blk {β : Type} {B c : Nat} (b : Nat) (t : TypeId) (f : β → Array Value) (hbc : b ≠ c) : MindsB B c (fun s W => Blk W b t (f s)) := fun s X Y row hs hg hrow => by
  have hs' : X.heap[b]? = some (.cells (f s) t (0, 0)) := hs
  refine (hg.block b (Array.getElem?_eq_some_iff.1 hs').1 ?_).trans hs'
  intro e
  rcases hrow b e.symm with h | ⟨_, o, ho, hc⟩
  · exact hbc h
  · rw [hs'] at ho; cases ho; cases hc
theorem keptI {W W' : World} {B : Nat} {v : Value} {xs : List Int} {row : Option Nat} (h : OwnI W B v xs) (hg : W.grownBy W' row) (hr : ∀ r, row = some r → v.ownBlock ≠ some r ∨ ∃ o : Obj, W.heap[r]? = some o ∧ o.isCells = false) : OwnI W' B v xs := by
  refine World.ownsRow.kept h hg ?_
  rcases h.2 with ⟨rfl, _⟩ | ⟨g, cap, cur, rfl, hB, hgb, _⟩
  · exact .inl rfl
  · refine .inr fun e' => ?_
    rcases hr g (by simpa [Value.ownBlock] using e'.symm) with h | ⟨o, ho, hc⟩
    · exact h rfl
    · rw [hgb] at ho; cases ho; cases hc
/-- the house so far, for an invariant -/
def HoldsH (n₀ b : Nat) (xs ys : List Int) (W : World) : Prop := ∃ v1 v2, Hq b n₀ W xs ys v1 v2
theorem holdsH_minds {β : Type} {B n₀ b : Nat} (f g : β → List Int) : MindsB B (b + 1) (fun s W => HoldsH n₀ b (f s) (g s) W) := by
  rintro s X Y row ⟨v1, v2, H⟩ hg hrow
  have hr : ∀ v : Value, (∀ k, v.ownBlock = some k → k < b ∨ b + 4 ≤ k) → ∀ r, row = some r → v.ownBlock ≠ some r ∨ ∃ o : Obj, X.heap[r]? = some o ∧ o.isCells = false := fun v hf r e => by
    rcases hrow r e with h | ⟨_, h⟩
    · left; intro e2; have := hf r e2; omega
    · exact .inr h
  exact ⟨v1, v2, mindsB_blk b _ (fun _ : Unit => #[v1, v2]) (by omega) () X Y row H.m hg hrow, keptI H.o1 hg (hr v1 H.f1), keptI H.o2 hg (hr v2 H.f2), H.ap, H.f1, H.f2, Nat.le_trans H.hz hg.size⟩
/-- what is no cells, behind a row's growth -/
theorem keepsO_turned {W W' : World} {B : Nat} {v : Value} {xs : List Int} (T : Turned W W' (rowL v)) (ho : OwnI W B v xs) : KeepsOthers W W' :=
  ⟨T.size, fun k o hk hc => by
    refine (T.block k (Array.getElem?_eq_some_iff.1 hk).1 ?_).trans hk
    intro hm
    rcases ho.2 with ⟨rfl, _⟩ | ⟨g, cap, cur, rfl, _, hg, _⟩
    · simp [rowL, Value.ownBlock] at hm
    · have e : g = k := by simpa [Value.ownBlock] using mem_rowL.1 hm
      subst e
      rw [hg] at hk; cases hk; cases hc⟩
/-- one of the two rows grown and stored: what lies as it lay -/
theorem keeps_pushH {W w9 : World} {b i n₀ : Nat} {v v9 : Value} {xs : List Int} {z : Int} (ho : OwnI W n₀ v xs) (T : Turned (W.alloc (.cells #[.int .i64 z] 3)) w9 (rowL v)) : KeepsOthers W (w9.setCell ⟨b, i, none⟩ v9) :=
  ((KeepsOthers.alloc W _).trans (keepsO_turned T (ho.alloc _))).trans (KeepsOthers.setCell _ _ _)
theorem heap_pushH {W w9 : World} {b i k : Nat} {v v9 : Value} {z : Int} (T : Turned (W.alloc (.cells #[.int .i64 z] 3)) w9 (rowL v)) (h1 : k ∉ rowL v) (h2 : k < W.heap.size) (h3 : k ≠ b) : (w9.setCell ⟨b, i, none⟩ v9).heap[k]? = W.heap[k]? :=
  (Below.heap_setCell _ _ _ k h3).trans ((T.block k (by simp; omega) h1).trans (Below.heap_alloc W _ k h2))
theorem below_pushH {W w9 : World} {b i n₀ B : Nat} {v v9 : Value} {xs : List Int} {z : Int} (ho : OwnI W n₀ v xs) (T : Turned (W.alloc (.cells #[.int .i64 z] 3)) w9 (rowL v)) (hB : B ≤ W.heap.size) (hn : B ≤ n₀) (hb : B ≤ b) : Below B W (w9.setCell ⟨b, i, none⟩ v9) :=
  (((below_alloc W _).mono hB).trans (T.below (by simp; omega) (fun k hk => by have := (ho.lt k (mem_rowL.1 hk)).1; omega))).setCell hb _
/-- the two stores of a round together -/
structure Rn (b n₀ : Nat) (W W' : World) : Prop where
  ko : KeepsOthers W W'
  ly : Lay [b + 1 + 1, b + 1, b + 1 + 1 + 1] W W'
  be : ∀ B, B ≤ n₀ → B ≤ b → B ≤ W.heap.size → Below B W W'
theorem rn_push1 {b n₀ : Nat} {W w9 : World} {xs ys : List Int} {v1 v2 v9 : Value} {z : Int} (H : Hq b n₀ W xs ys v1 v2) (T : Turned (W.alloc (.cells #[.int .i64 z] 3)) w9 (rowL v1)) : Rn b n₀ W (w9.setCell ⟨b, 0, none⟩ v9) :=
  ⟨keeps_pushH H.o1 T, fun k hk => by
    have hz := H.hz
    simp only [List.mem_cons, List.not_mem_nil, or_false] at hk
    rcases hk with rfl | rfl | rfl
    · exact heap_pushH T (H.n1 2 (by omega)) (by omega) (by omega)
    · exact heap_pushH T (H.n1 1 (by omega)) (by omega) (by omega)
    · exact heap_pushH T (H.n1 3 (by omega)) (by omega) (by omega), fun B h1 h2 h3 => below_pushH H.o1 T h3 h1 h2⟩
theorem rn_push2 {b n₀ : Nat} {W w9 : World} {xs ys : List Int} {v1 v2 v9 : Value} {z : Int} (H : Hq b n₀ W xs ys v1 v2) (T : Turned (W.alloc (.cells #[.int .i64 z] 3)) w9 (rowL v2)) : Rn b n₀ W (w9.setCell ⟨b, 1, none⟩ v9) :=
  ⟨keeps_pushH H.o2 T, fun k hk => by
    have hz := H.hz
    simp only [List.mem_cons, List.not_mem_nil, or_false] at hk
    rcases hk with rfl | rfl | rfl
    · exact heap_pushH T (H.n2 2 (by omega)) (by omega) (by omega)
    · exact heap_pushH T (H.n2 1 (by omega)) (by omega) (by omega)
    · exact heap_pushH T (H.n2 3 (by omega)) (by omega) (by omega), fun B h1 h2 h3 => below_pushH H.o2 T h3 h1 h2⟩
theorem Rn.trans {b n₀ : Nat} {A B C : World} (h : Rn b n₀ A B) (k : Rn b n₀ B C) : Rn b n₀ A C :=
  ⟨h.ko.trans k.ko, h.ly.trans k.ly, fun D h1 h2 h3 => (h.be D h1 h2 h3).trans (k.be D h1 h2 (Nat.le_trans h3 h.ko.size))⟩

def hpA (ws : List Wd) : List Int := ws.map fun x => (ninR x.1 58).getD 0 0
def hpD (ws : List Wd) : List Int := ws.map fun x => (ninR x.1 58).getD 1 0
theorem hpA_snoc (ws : List Wd) (x : Wd) : hpA (ws ++ [x]) = hpA ws ++ [(ninR x.1 58).getD 0 0] := by simp [hpA]
theorem hpD_snoc (ws : List Wd) (x : Wd) : hpD (ws ++ [x]) = hpD ws ++ [(ninR x.1 58).getD 1 0] := by simp [hpD]
theorem hp_all {s : ByteArray} {ys : List Wd} (h : ys.map Subtype.val = splitS (cutZ s 94) 94) (ha : ∀ x ∈ ys, (ninR x.1 58).length = 2) : pgT s = true ∧ pgA s = hpA ys ∧ pgD s = ninR (cutA s 94) 58 ++ hpD ys := by
  unfold pgT pgA pgD hpA hpD
  rw [← h]
  refine ⟨?_, by rw [List.map_map]; rfl, by rw [List.map_map]; rfl⟩
  simp only [List.all_eq_true, List.mem_map, decide_eq_true_eq]
  rintro _ ⟨y, hy, rfl⟩
  exact ha y hy
theorem hp_none {s : ByteArray} {x : ByteArray} (h : x ∈ splitS (cutZ s 94) 94) (ha : (ninR x 58).length ≠ 2) : phB s = false := by
  cases hb : phB s
  · rfl
  · have h1 := (ph_find hb).1
    unfold pgT at h1
    have := List.all_eq_true.1 h1 x h
    exact absurd (of_decide_eq_true this) ha
theorem pg_size {s : ByteArray} {ys : List Wd} (hn : s.size ≤ 1048576) (h : ys.map Subtype.val = splitS (cutZ s 94) 94) (ha : ∀ x ∈ ys, (ninR x.1 58).length = 2) : ys.length ≤ 1048576 ∧ (ninR (cutA s 94) 58).length + ys.length ≤ 1048576 := by
  have hl : ys.length = (splitS (cutZ s 94) 94).length := by rw [← h, List.length_map]
  have hw : (splitS (cutZ s 94) 94).length ≤ (cutZ s 94).size + 1 := by have := (spW_le (cutZ s 94) 94 (cutZ s 94).size).2; unfold splitS; simp; omega
  have hp : 0 < (splitS (cutZ s 94) 94).length := by unfold splitS; simp
  have hz : (cutZ s 94).size ≠ 0 := by
    intro e
    match ys, hl, h, ha with
    | y :: r, _, h, ha =>
      have h1 := word_le (cutZ s 94) 94 y.1 (by rw [← h]; simp)
      have h2 := ninR_length y.1 58
      have h3 := ha y (by simp)
      omega
    | [], hl, _, _ => simp at hl; omega
  have hA := ninR_length (cutA s 94) 58
  have hs : (cutA s 94).size + (cutZ s 94).size + 1 ≤ s.size := by
    unfold cutZ at hz ⊢
    unfold cutA
    split
    · rename_i hneg; rw [if_pos hneg] at hz; exact absurd rfl hz
    · rename_i hneg
      rw [if_neg hneg] at hz
      simp at hz ⊢
      omega
  omega

end Go.Proofs.YtenhlppijpmdgaaDoor
