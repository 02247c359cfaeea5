/- Contracts: the laws' own marks: numbers written into a slice, and read back. -/
import Derived.Test.YtohimcljobpkjaaDoorPush
namespace Go.Proofs.YtohimcljobpkjaaDoor
set_option maxRecDepth 100000
open Go.RowKit

/-- w' is w but for the blocks of L, and what is new. -/
structure Turned (w w' : World) (L : List Nat) : Prop where
  os : w'.os = w.os
  tape : w'.tape = w.tape
  output : w'.output = w.output
  size : w.heap.size ≤ w'.heap.size
  block : ∀ k, k < w.heap.size → k ∉ L → w'.heap[k]? = w.heap[k]?

theorem Turned.refl (w : World) (L : List Nat) : Turned w w L := ⟨rfl, rfl, rfl, Nat.le_refl _, fun _ _ _ => rfl⟩
theorem Turned.trans {a b c : World} {L : List Nat} (h : Turned a b L) (k : Turned b c L) : Turned a c L :=
  ⟨k.os.trans h.os, k.tape.trans h.tape, k.output.trans h.output, Nat.le_trans h.size k.size, fun i hi hn => (k.block i (Nat.lt_of_lt_of_le hi h.size) hn).trans (h.block i hi hn)⟩
theorem Turned.of_below {a b : World} (h : Below a.heap.size a b) (L : List Nat) : Turned a b L := ⟨h.os, h.tape, h.output, h.size, fun i hi _ => h.block i hi⟩
theorem Turned.of_grown {a b : World} {row : Option Nat} (h : a.grownBy b row) {L : List Nat} (hL : ∀ k, row = some k → k ∈ L) : Turned a b L :=
  ⟨h.os, h.tape, h.output, h.size, fun i hi hn => h.block i hi (fun e => hn (hL i e.symm))⟩
theorem Turned.more {a b : World} {L L' : List Nat} (h : Turned a b L) (hL : ∀ k ∈ L, k ∈ L') : Turned a b L' := ⟨h.os, h.tape, h.output, h.size, fun i hi hn => h.block i hi (fun e => hn (hL i e))⟩
theorem Turned.below {a b : World} {L : List Nat} (h : Turned a b L) {B : Nat} (hB : B ≤ a.heap.size) (hL : ∀ k ∈ L, B ≤ k) : Below B a b :=
  ⟨h.os, h.tape, h.output, h.size, fun i hi => h.block i (by omega) (fun e => by have := hL i e; omega)⟩
theorem Blk.turned {w w' : World} {g : Nat} {t : TypeId} {cs : Array Value} {L : List Nat} (h : Blk w g t cs) (hb : Turned w w' L) (hg : g ∉ L) : Blk w' g t cs := (hb.block g h.lt hg).trans h
theorem Rd.turned {w w' : World} {B : Nat} {A : Option Addr} {c : Nat} {xs : List Int} {L : List Nat} (h : Rd w B A c xs) (hb : Turned w w' L) (hB : B ≤ w.heap.size) (hL : ∀ k ∈ L, B ≤ k) : Rd w' B A c xs :=
  h.below (hb.below hB hL) (Nat.le_refl _)
theorem St.turned {w w' : World} {B : Nat} {st : Int} {A A' : Option Addr} {c c' : Nat} {ss bs : List Int} {L : List Nat} (h : St w B st A A' c c' ss bs) (hb : Turned w w' L) (hB : B ≤ w.heap.size) (hL : ∀ k ∈ L, B ≤ k) : St w' B st A A' c c' ss bs :=
  h.below (hb.below hB hL) (Nat.le_refl _)
theorem OwnI.turned {w w' : World} {B : Nat} {v : Value} {xs : List Int} {L : List Nat} (h : OwnI w B v xs) (hb : Turned w w' L) (hL : ∀ k, v.ownBlock = some k → k ∉ L) : OwnI w' B v xs := by
  refine ⟨h.1, ?_⟩
  rcases h.2 with h0 | ⟨g, cap, cur, rfl, hg, hh, r⟩
  · exact .inl h0
  · exact .inr ⟨g, cap, cur, rfl, hg, by rw [hb.block g (Array.getElem?_eq_some_iff.1 hh).1 (hL g rfl)]; exact hh, r⟩
theorem Blk.own {w : World} {g : Nat} {xs : List Int} (h : Blk w g 3 (ints xs)) (hn : xs.length ≤ 1048576) : OwnI w g (.slice (some ⟨g, 0, none⟩) xs.length xs.length) xs :=
  ⟨by simp, .inr ⟨g, xs.length, ints xs, rfl, Nat.le_refl _, h, Nat.le_refl _, by simp only [maxLen]; omega, by simp [ints], by simp [ints, List.take_of_length_le]⟩⟩

/-- k, k+1, .. : n numbers -/
def marksL (k : Int) : Nat → List Int
  | 0 => []
  | n + 1 => k :: marksL (k + 1) n
theorem marksL_length : ∀ (k : Int) (n : Nat), (marksL k n).length = n
  | _, 0 => rfl
  | k, n + 1 => by simp [marksL, marksL_length (k + 1) n]
theorem marksL_get : ∀ (k : Int) (n j : Nat), j < n → (marksL k n).getD j 0 = k + j
  | _, 0, j, h => by omega
  | k, n + 1, 0, _ => by simp [marksL]
  | k, n + 1, j + 1, h => by
    have := marksL_get (k + 1) n j (by omega)
    simp only [marksL, List.getD_cons_succ, this]
    omega
theorem marksL_snoc : ∀ (k : Int) (n : Nat), marksL k (n + 1) = marksL k n ++ [k + n]
  | k, 0 => by simp [marksL]
  | k, n + 1 => by
    rw [marksL, marksL_snoc (k + 1) n, marksL]
    simp
    omega
/-- the row while it is being marked -/
def marking (k : Int) (j : Nat) (xs : List Int) : List Int := marksL k j ++ xs.drop j
theorem marking_length {k : Int} {j : Nat} {xs : List Int} (h : j ≤ xs.length) : (marking k j xs).length = xs.length := by
  simp [marking, marksL_length]; omega
theorem marking_set {k : Int} {j : Nat} {xs : List Int} (h : j < xs.length) : (marking k j xs).set j (k + j) = marking k (j + 1) xs := by
  unfold marking
  rw [List.set_append, if_neg (by rw [marksL_length]; omega), marksL_length, Nat.sub_self, drop_at xs j h, marksL_snoc]
  simp

theorem OwnI.cell {w : World} {B g n cap : Nat} {xs : List Int} (h : OwnI w B (.slice (some ⟨g, 0, none⟩) n cap) xs) (hn : n = xs.length) {j : Nat} (hj : j < xs.length) : w.cell? ⟨g, j, none⟩ = some (.int .i64 (xs.getD j 0)) := by
  subst hn
  rw [World.ownsRow.cellAt h j (by omega)]
  simp [hj, List.getD_eq_getElem?_getD]
theorem OwnI.frozen {w : World} {B g n cap : Nat} {xs : List Int} (h : OwnI w B (.slice (some ⟨g, 0, none⟩) n cap) xs) (hn : n = xs.length) (j : Nat) : w.frozen? ⟨g, j, none⟩ = false := by
  subst hn
  exact World.ownsRow.frozenAt h j
theorem OwnI.set {w : World} {B g n cap : Nat} {xs : List Int} (h : OwnI w B (.slice (some ⟨g, 0, none⟩) n cap) xs) (hn : n = xs.length) (j : Nat) (y : Int) :
    OwnI (w.setCell ⟨g, j, none⟩ (.int .i64 y)) B (.slice (some ⟨g, 0, none⟩) n cap) (xs.set j y) ∧ w.grownBy (w.setCell ⟨g, j, none⟩ (.int .i64 y)) (some g) := by
  subst hn
  obtain ⟨h1, h2⟩ := World.ownsRow.stored h j (.int .i64 y)
  refine ⟨?_, h2⟩
  unfold OwnI
  rw [List.length_set, List.map_set]
  exact h1

/-- no block in common -/
def Apart (v v' : Value) : Prop := ∀ k, v.ownBlock = some k → v'.ownBlock = some k → False

/-- the blocks of a value's row -/
def rowL (v : Value) : List Nat := v.ownBlock.toList
theorem mem_rowL {v : Value} {k : Nat} : k ∈ rowL v ↔ v.ownBlock = some k := by simp [rowL]

end Go.Proofs.YtohimcljobpkjaaDoor
