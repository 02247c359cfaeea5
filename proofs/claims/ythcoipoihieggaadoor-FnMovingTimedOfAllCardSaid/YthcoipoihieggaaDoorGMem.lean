/- Words for memory: a slice of ints that reads as a list of numbers; rows of the call's own. Plain lemmas, no program. -/
import Derived.WalkKit
import Derived.WalkSpells
import Derived.WalkLawsBesides
import Derived.Lib.Hide
namespace Go.Proofs.YthcoipoihieggaaDoor
set_option maxRecDepth 100000
open Go.RowKit

theorem ret_int {k : IntKind} {a b : Int} (h : a = b) : Ending.returned (.int k a) = .returned (.int k b) := by rw [h]
theorem ret_bool {a b : Bool} (h : a = b) : Ending.returned (.bool a) = .returned (.bool b) := by rw [h]

/-- The value v is a slice of ints that reads in w as xs; its cells lie below block B. -/
def Rd (w : World) (B : Nat) (A : Option Addr) (c : Nat) (xs : List Int) : Prop :=
  xs.length ≤ c ∧ ∀ k, k < xs.length → ∃ b o, A = some ⟨b, o, none⟩ ∧ b < B ∧ w.cell? ⟨b, o + k, none⟩ = some (.int .i64 (xs.getD k 0))

theorem Rd.at_ {w : World} {B : Nat} {A : Option Addr} {c : Nat} {xs : List Int} (h : Rd w B A c xs) {k : Nat} (hk : k < xs.length) :
    ∃ b o, A = some ⟨b, o, none⟩ ∧ b < B ∧ w.cell? ⟨b, o + k, none⟩ = some (.int .i64 (xs.getD k 0)) := h.2 k hk
theorem Rd.nil {w : World} {B : Nat} {A : Option Addr} {c : Nat} : Rd w B A c [] := ⟨by simp, fun k hk => absurd hk (by simp)⟩
theorem Rd.keep {w w' : World} {B : Nat} {A : Option Addr} {c : Nat} {xs : List Int} (h : Rd w B A c xs) (hk : ∀ b o, b < B → w'.cell? ⟨b, o, none⟩ = w.cell? ⟨b, o, none⟩) : Rd w' B A c xs :=
  ⟨h.1, fun k hx => by
    obtain ⟨b, o, e, hb, hc⟩ := h.2 k hx
    exact ⟨b, o, e, hb, (hk _ _ hb).trans hc⟩⟩
theorem Rd.more {w : World} {B B' : Nat} {A : Option Addr} {c : Nat} {xs : List Int} (h : Rd w B A c xs) (hB : B ≤ B') : Rd w B' A c xs :=
  ⟨h.1, fun k hx => by
    obtain ⟨b, o, e, hb, hc⟩ := h.2 k hx
    exact ⟨b, o, e, by omega, hc⟩⟩
theorem Rd.below {w w' : World} {B B' : Nat} {A : Option Addr} {c : Nat} {xs : List Int} (h : Rd w B A c xs) (hb : Below B' w w') (hB : B ≤ B') : Rd w' B A c xs :=
  h.keep fun _ _ hp => hb.cell (Nat.lt_of_lt_of_le hp hB)

theorem bcell {B : Nat} {W w1 : World} (hb : Below B W w1) : (∀ b o, b < B → w1.cell? ⟨b, o, none⟩ = W.cell? ⟨b, o, none⟩) ∧ (∀ b o, b < B → w1.frozen? ⟨b, o, none⟩ = W.frozen? ⟨b, o, none⟩) :=
  ⟨fun b o h => hb.cell (p := ⟨b, o, none⟩) h, fun b o h => hb.frozen (p := ⟨b, o, none⟩) h⟩

/-- The cells of a block that holds the numbers xs. -/
def ints (xs : List Int) : Array Value := (xs.map (Value.int .i64)).toArray
theorem ints_size (xs : List Int) : (ints xs).size = xs.length := by simp [ints]
theorem ints_get (xs : List Int) (k : Nat) (h : k < xs.length) : (ints xs)[k]? = some (.int .i64 (xs.getD k 0)) := by
  simp [ints, h, List.getD_eq_getElem?_getD]

/-- A block whose cells are known whole, none frozen. -/
def Blk (w : World) (g : Nat) (t : TypeId) (cs : Array Value) : Prop := w.heap[g]? = some (.cells cs t (0, 0))
theorem Blk.lt {w : World} {g : Nat} {t : TypeId} {cs : Array Value} (h : Blk w g t cs) : g < w.heap.size := (Array.getElem?_eq_some_iff.1 h).1
theorem Blk.cell {w : World} {g : Nat} {t : TypeId} {cs : Array Value} (h : Blk w g t cs) (i : Nat) : w.cell? ⟨g, i, none⟩ = cs[i]? := cell_of_row w g i cs t (0, 0) h
theorem Blk.frozen {w : World} {g : Nat} {t : TypeId} {cs : Array Value} (h : Blk w g t cs) (i : Nat) : w.frozen? ⟨g, i, none⟩ = false := by
  unfold Blk at h
  simp [World.frozen?, h]
theorem Blk.new (w : World) (t : TypeId) (cs : Array Value) : Blk (w.alloc (.cells cs t)) w.heap.size t cs := heap_alloc_new w _
theorem Blk.new' {w : World} {g : Nat} {t : TypeId} {cs : Array Value} (hg : g = w.heap.size) : Blk (w.alloc (.cells cs t)) g t cs := by subst hg; exact Blk.new _ _ _
theorem Blk.alloc {w : World} {g : Nat} {t : TypeId} {cs : Array Value} (h : Blk w g t cs) (o : Obj) : Blk (w.alloc o) g t cs := (Below.heap_alloc w o g h.lt).trans h
theorem Blk.below {w w' : World} {g : Nat} {t : TypeId} {cs : Array Value} {B : Nat} (h : Blk w g t cs) (hb : Below B w w') (hg : g < B) : Blk w' g t cs := (hb.block g hg).trans h
theorem Blk.set_ {w : World} {g : Nat} {t : TypeId} {cs : Array Value} (h : Blk w g t cs) (i : Nat) (u : Value) : Blk (w.setCell ⟨g, i, none⟩ u) g t (cs.setIfInBounds i u) := by
  unfold Blk at h ⊢
  simp [World.setCell, Array.getElem?_modify, h]
theorem Blk.far {w : World} {g : Nat} {t : TypeId} {cs : Array Value} (h : Blk w g t cs) {p : Addr} (hp : g ≠ p.block) (u : Value) : Blk (w.setCell p u) g t cs := (Below.heap_setCell w p u g hp).trans h
theorem Blk.three {w : World} {g : Nat} {t : TypeId} {v0 v1 v2 : Value} (h : Blk w g t #[v0, v1, v2]) : w.cell? ⟨g, 0, none⟩ = some v0 ∧ w.cell? ⟨g, 1, none⟩ = some v1 ∧ w.cell? ⟨g, 2, none⟩ = some v2 :=
  ⟨h.cell 0, h.cell 1, h.cell 2⟩
theorem Blk.rd {w : World} {g : Nat} {t : TypeId} {xs : List Int} (h : Blk w g t (ints xs)) {B c : Nat} (hB : g < B) (hc : xs.length ≤ c) : Rd w B (some ⟨g, 0, none⟩) c xs :=
  ⟨hc, fun k hk => ⟨g, 0, rfl, hB, by rw [Nat.zero_add, h.cell, ints_get _ _ hk]⟩⟩

/-- A made row that is being filled: the first k numbers of xs, then zeros. -/
def fill (xs : List Int) (k : Nat) : Array Value := ints (xs.take k ++ List.replicate (xs.length - k) 0)
theorem fill_zero (xs : List Int) : madeCells (Value.int .i64 0).cells (xs.length * 1) = fill xs 0 := by
  apply Array.ext_getElem?
  intro i
  simp only [fill, madeCells, ints, Value.cells]
  by_cases h : i < xs.length <;> simp [h, Nat.mod_one]
theorem fill_end (xs : List Int) : fill xs xs.length = ints xs := by simp [fill]
theorem fill_at (xs : List Int) (k : Nat) (h : k < xs.length) : (fill xs k)[k]? = some (.int .i64 0) := by
  simp [fill, ints, List.getElem?_append, List.getElem?_replicate, Nat.min_eq_left (Nat.le_of_lt h)]
  omega
theorem fill_set (xs : List Int) (k : Nat) (h : k < xs.length) : (fill xs k).setIfInBounds k (.int .i64 (xs.getD k 0)) = fill xs (k + 1) := by
  apply Array.ext_getElem?
  intro i
  simp only [fill, ints, Array.getElem?_setIfInBounds, List.getElem?_toArray, List.getElem?_map, List.getElem?_append, List.getElem?_replicate, List.length_take, List.getElem?_take, Nat.min_eq_left (Nat.le_of_lt h), Nat.min_eq_left (show k + 1 ≤ xs.length from h)]
  by_cases h1 : k = i
  · subst h1
    simp [h, List.getD_eq_getElem?_getD]
    omega
  · rw [if_neg h1]
    by_cases h2 : i < k
    · simp [h2, show i < k + 1 by omega]
    · have h3 : ¬ i < k + 1 := by omega
      simp only [h2, h3, if_false]
      by_cases h4 : i < xs.length
      · rw [if_pos (by omega), if_pos (by omega)]
      · rw [if_neg (by omega), if_neg (by omega)]

end Go.Proofs.YthcoipoihieggaaDoor
