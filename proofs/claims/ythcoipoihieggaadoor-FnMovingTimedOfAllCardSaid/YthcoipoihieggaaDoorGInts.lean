/- Generic contracts of the laws own helpers over lists of ints. -/
import Derived.Test.YthcoipoihieggaaDoorRows
import Derived.Test.YthcoipoihieggaaDoorGMem
import Derived.BigQuiet
import Derived.Deep.QuietTactic
namespace Go.Proofs.YthcoipoihieggaaDoor
set_option maxRecDepth 100000
open Go.RowKit

theorem int_info : (Tryd.prog.info? 3).map (fun i => (i.zero, i.size, i.bytes)) = some (some (.int .i64 0), 1, 8) := by kernel_rfl

theorem drop_at (xs : List Int) (k : Nat) (h : k < xs.length) : xs.drop k = xs.getD k 0 :: xs.drop (k + 1) := by
  rw [List.drop_eq_getElem_cons h]; simp [List.getD_eq_getElem?_getD, h]

theorem below_alloc (w : World) (o : Obj) : Below w.heap.size w (w.alloc o) := (Below.refl _ _).alloc (Nat.le_refl _) _

theorem Below.drewN' {B : Nat} {a w : World} (h : Below B a w) (n : Nat) : Below B a (w.drewN n) := ⟨h.os, h.tape, h.output, h.size, h.block⟩

theorem below_undrew {B : Nat} {a w : World} (h : Below B a.drew w) : Below B a w := ⟨h.os, h.tape, h.output, h.size, h.block⟩

/-- the two lists are the same, as the law's own loop decides it -/
def eqB (xs ys : List Int) : Bool := decide (xs = ys)
theorem eqB_self (xs : List Int) : eqB xs xs = true := by simp [eqB]
theorem eqB_at {xs ys : List Int} {k : Nat} (h : ¬ xs.getD k 0 = ys.getD k 0) : false = eqB xs ys := by
  symm
  simp only [eqB, decide_eq_false_iff_not]
  rintro rfl
  exact h rfl
theorem eqB_all {xs ys : List Int} (hl : xs.length = ys.length) (h : ∀ j, j < xs.length → xs.getD j 0 = ys.getD j 0) : true = eqB xs ys := by
  symm
  simp only [eqB, decide_eq_true_eq]
  apply List.ext_getElem hl
  intro i h1 h2
  have := h i h1
  simpa [List.getD_eq_getElem?_getD, h1, h2] using this

/-- The value v is a row of the call's own, from block B on, that reads as xs. -/
def OwnI (w : World) (B : Nat) (v : Value) (xs : List Int) : Prop := w.ownsRow B 3 1 v xs.length (xs.map (Value.int .i64))
theorem OwnI.nil (w : World) (B : Nat) : OwnI w B (.slice none 0 0) [] := World.ownsRow_nil _ _ _ _
theorem OwnI.alloc {w : World} {B : Nat} {v : Value} {xs : List Int} (h : OwnI w B v xs) (o : Obj) : OwnI (w.alloc o) B v xs := World.ownsRow.alloc h o
theorem OwnI.lt {w : World} {B : Nat} {v : Value} {xs : List Int} (h : OwnI w B v xs) : ∀ k, v.ownBlock = some k → B ≤ k ∧ k < w.heap.size := World.ownsRow.lt h
theorem OwnI.form {w : World} {B : Nat} {v : Value} {xs : List Int} (h : OwnI w B v xs) : ∃ A c, v = .slice A xs.length c ∧ Rd w w.heap.size A c xs := by
  rcases h.2 with ⟨rfl, h0⟩ | ⟨g, cap, cur, rfl, hg, hh, hc, _⟩
  · have : xs = [] := List.eq_nil_of_length_eq_zero h0
    subst this
    exact ⟨none, 0, rfl, Rd.nil⟩
  · refine ⟨_, _, rfl, hc, fun k hk => ⟨g, 0, rfl, (Array.getElem?_eq_some_iff.1 hh).1, ?_⟩⟩
    have := World.ownsRow.cells (g := g) h rfl k (.int .i64 (xs.getD k 0)) (by simp [hk, List.getD_eq_getElem?_getD])
    rw [Addr.add_lit] at this
    exact this
theorem OwnI.below {w w' : World} {B B' : Nat} {v : Value} {xs : List Int} (h : OwnI w B v xs) (hb : Below B' w w') (hB : w.heap.size ≤ B') : OwnI w' B v xs := by
  refine ⟨h.1, ?_⟩
  rcases h.2 with h0 | ⟨g, cap, cur, rfl, hg, hh, r⟩
  · exact .inl h0
  · exact .inr ⟨g, cap, cur, rfl, hg, by rw [hb.block g (Nat.lt_of_lt_of_le (Array.getElem?_eq_some_iff.1 hh).1 hB)]; exact hh, r⟩
theorem OwnI.mono {w : World} {B B' : Nat} {v : Value} {xs : List Int} (h : OwnI w B v xs) (hB : B' ≤ B) : OwnI w B' v xs := by
  refine ⟨h.1, ?_⟩
  rcases h.2 with h0 | ⟨g, cap, cur, rfl, hg, r⟩
  · exact .inl h0
  · exact .inr ⟨g, cap, cur, rfl, by omega, r⟩

theorem wpList_push (w : World) {ops : Array Oper} {rest : List Oper} {o : Oper} {a : Act} {Q : Exit → Act → World → Prop} (hgd : o.guard = none) (s x : Operand)
    (ho : o.op = .call { callee := .builtin .append, args := #[s, x], argTypes := #[26, 26] }) (B : Nat) (v : Value) (xs : List Int) (hs : a.eval s = v) (hown : OwnI w B v xs)
    (g : Nat) (y : Int) (hx : a.eval x = .slice (some ⟨g, 0, none⟩) 1 1) (hc : w.cell? ⟨g, 0, none⟩ = some (.int .i64 y)) (hn : xs.length ≤ 1048576) (hB : B ≤ w.heap.size)
    (h : ∀ v' w', OwnI w' B v' (xs ++ [y]) → Below B w w' → wpList Tryd.prog ops Q rest (a.put o.dst v') w') : wpList Tryd.prog ops Q (o :: rest) a w := by
  obtain ⟨i0, hi, hz, hsz, hby⟩ := info_parts int_info
  refine wpList_append_own w hgd s x 26 ho B 3 i0 (.int .i64 0) 1 8 Tryd.underlying26 hi hz hsz hby rfl (by decide) v xs.length _ hs hown ⟨g, 0, none⟩ 1 1 [.int .i64 y] hx rfl ?_ ?_ ?_ ?_ hB ?_
  · intro j u hu
    cases j with
    | zero => simp at hu; subst hu; exact hc
    | succ j => simp at hu
  · simp [Value.oneCell']
  · simp only [maxLen]; omega
  · omega
  · intro v' w' h1 h2 _
    refine h v' w' ?_ ((Below.refl _ _).grown h2 hB (fun k hk => (hown.lt k hk).1))
    unfold OwnI
    simpa using h1

theorem wpList_pushI (w : World) {ops : Array Oper} {rest : List Oper} {o : Oper} {a : Act} {Q : Exit → Act → World → Prop} (hgd : o.guard = none) (s x : Operand)
    (ho : o.op = .call { callee := .builtin .append, args := #[s, x], argTypes := #[26, 26] }) (B : Nat) (v : Value) (xs : List Int) (hs : a.eval s = v) (hown : OwnI w B v xs)
    (g : Nat) (y : Int) (hx : a.eval x = .slice (some ⟨g, 0, none⟩) 1 1) (hc : w.cell? ⟨g, 0, none⟩ = some (.int .i64 y)) (hn : xs.length ≤ 1048576) (hB : B ≤ w.heap.size)
    (h : ∀ A c w', OwnI w' B (.slice A (xs.length + 1) c) (xs ++ [y]) → Below B w w' → wpList Tryd.prog ops Q rest (a.put o.dst (.slice A (xs.length + 1) c)) w') : wpList Tryd.prog ops Q (o :: rest) a w :=
  wpList_push w hgd s x ho B v xs hs hown g y hx hc hn hB fun v' w' h1 h2 => by
    obtain ⟨A, c, rfl, _⟩ := h1.form
    rw [show (xs ++ [y]).length = xs.length + 1 by simp] at h1
    rw [show (xs ++ [y]).length = xs.length + 1 by simp]
    exact h A c w' h1 h2

/-- WHAT A CALL LEAVES THAT ANSWERS A LIST AND A BOOL: the list in memory that was not there before. -/
def Lists (w : World) (xs : List Int) (ok : Bool) (e : Ending) (w' : World) : Prop :=
  ∃ v, e = .returned (.tuple #[v, .bool ok]) ∧ OwnI w' w.heap.size v xs ∧ Below w.heap.size w w'

/-- w' is w but for the blocks of L, and what is new. -/
structure Turned (w w' : World) (L : List Nat) : Prop where
  os : w'.os = w.os
  tape : w'.tape = w.tape
  output : w'.output = w.output
  size : w.heap.size ≤ w'.heap.size
  block : ∀ k, k < w.heap.size → k ∉ L → w'.heap[k]? = w.heap[k]?

theorem Turned.refl (w : World) (L : List Nat) : Turned w w L := ⟨rfl, rfl, rfl, Nat.le_refl _, fun _ _ _ => rfl⟩
theorem Turned.trans {a b c : World} {L : List Nat} (h : Turned a b L) (k : Turned b c L) : Turned a c L :=
  ⟨k.os.trans h.os, k.tape.trans h.tape, k.output.trans h.output, Nat.le_trans h.size k.size, fun i hi hn => (k.block i (Nat.lt_of_lt_of_le hi h.size) hn).trans (h.block i hi hn)⟩
theorem Turned.of_below {a b : World} (h : Below a.heap.size a b) (L : List Nat) : Turned a b L := ⟨h.os, h.tape, h.output, h.size, fun i hi _ => h.block i hi⟩
theorem Turned.of_grown {a b : World} {row : Option Nat} (h : a.grownBy b row) {L : List Nat} (hL : ∀ k, row = some k → k ∈ L) : Turned a b L :=
  ⟨h.os, h.tape, h.output, h.size, fun i hi hn => h.block i hi (fun e => hn (hL i e.symm))⟩
theorem Turned.more {a b : World} {L L' : List Nat} (h : Turned a b L) (hL : ∀ k ∈ L, k ∈ L') : Turned a b L' := ⟨h.os, h.tape, h.output, h.size, fun i hi hn => h.block i hi (fun e => hn (hL i e))⟩
theorem Turned.below {a b : World} {L : List Nat} (h : Turned a b L) {B : Nat} (hB : B ≤ a.heap.size) (hL : ∀ k ∈ L, B ≤ k) : Below B a b :=
  ⟨h.os, h.tape, h.output, h.size, fun i hi => h.block i (by omega) (fun e => by have := hL i e; omega)⟩
theorem Blk.turned {w w' : World} {g : Nat} {t : TypeId} {cs : Array Value} {L : List Nat} (h : Blk w g t cs) (hb : Turned w w' L) (hg : g ∉ L) : Blk w' g t cs := (hb.block g h.lt hg).trans h
theorem Rd.turned {w w' : World} {B : Nat} {A : Option Addr} {c : Nat} {xs : List Int} {L : List Nat} (h : Rd w B A c xs) (hb : Turned w w' L) (hB : B ≤ w.heap.size) (hL : ∀ k ∈ L, B ≤ k) : Rd w' B A c xs :=
  h.below (hb.below hB hL) (Nat.le_refl _)

theorem OwnI.turned {w w' : World} {B : Nat} {v : Value} {xs : List Int} {L : List Nat} (h : OwnI w B v xs) (hb : Turned w w' L) (hL : ∀ k, v.ownBlock = some k → k ∉ L) : OwnI w' B v xs := by
  refine ⟨h.1, ?_⟩
  rcases h.2 with h0 | ⟨g, cap, cur, rfl, hg, hh, r⟩
  · exact .inl h0
  · exact .inr ⟨g, cap, cur, rfl, hg, by rw [hb.block g (Array.getElem?_eq_some_iff.1 hh).1 (hL g rfl)]; exact hh, r⟩
theorem Blk.own {w : World} {g : Nat} {xs : List Int} (h : Blk w g 3 (ints xs)) (hn : xs.length ≤ 1048576) : OwnI w g (.slice (some ⟨g, 0, none⟩) xs.length xs.length) xs :=
  ⟨by simp, .inr ⟨g, xs.length, ints xs, rfl, Nat.le_refl _, h, Nat.le_refl _, by simp only [maxLen]; omega, by simp [ints], by simp [ints, List.take_of_length_le]⟩⟩

/-- k, k+1, .. : n numbers -/
def marksL (k : Int) : Nat → List Int
  | 0 => []
  | n + 1 => k :: marksL (k + 1) n
theorem marksL_length : ∀ (k : Int) (n : Nat), (marksL k n).length = n
  | _, 0 => rfl
  | k, n + 1 => by simp [marksL, marksL_length (k + 1) n]
theorem marksL_get : ∀ (k : Int) (n j : Nat), j < n → (marksL k n).getD j 0 = k + j
  | _, 0, j, h => by omega
  | k, n + 1, 0, _ => by simp [marksL]
  | k, n + 1, j + 1, h => by
    have := marksL_get (k + 1) n j (by omega)
    simp only [marksL, List.getD_cons_succ, this]
    omega
theorem marksL_snoc : ∀ (k : Int) (n : Nat), marksL k (n + 1) = marksL k n ++ [k + n]
  | k, 0 => by simp [marksL]
  | k, n + 1 => by
    rw [marksL, marksL_snoc (k + 1) n, marksL]
    simp
    omega
/-- the row while it is being marked -/
def marking (k : Int) (j : Nat) (xs : List Int) : List Int := marksL k j ++ xs.drop j
theorem marking_length {k : Int} {j : Nat} {xs : List Int} (h : j ≤ xs.length) : (marking k j xs).length = xs.length := by
  simp [marking, marksL_length]; omega
theorem marking_set {k : Int} {j : Nat} {xs : List Int} (h : j < xs.length) : (marking k j xs).set j (k + j) = marking k (j + 1) xs := by
  unfold marking
  rw [List.set_append, if_neg (by rw [marksL_length]; omega), marksL_length, Nat.sub_self, drop_at xs j h, marksL_snoc]
  simp

theorem OwnI.cell {w : World} {B g n cap : Nat} {xs : List Int} (h : OwnI w B (.slice (some ⟨g, 0, none⟩) n cap) xs) (hn : n = xs.length) {j : Nat} (hj : j < xs.length) : w.cell? ⟨g, j, none⟩ = some (.int .i64 (xs.getD j 0)) := by
  subst hn
  rw [World.ownsRow.cellAt h j (by omega)]
  simp [hj, List.getD_eq_getElem?_getD]
theorem OwnI.frozen {w : World} {B g n cap : Nat} {xs : List Int} (h : OwnI w B (.slice (some ⟨g, 0, none⟩) n cap) xs) (hn : n = xs.length) (j : Nat) : w.frozen? ⟨g, j, none⟩ = false := by
  subst hn
  exact World.ownsRow.frozenAt h j
theorem OwnI.set {w : World} {B g n cap : Nat} {xs : List Int} (h : OwnI w B (.slice (some ⟨g, 0, none⟩) n cap) xs) (hn : n = xs.length) (j : Nat) (y : Int) :
    OwnI (w.setCell ⟨g, j, none⟩ (.int .i64 y)) B (.slice (some ⟨g, 0, none⟩) n cap) (xs.set j y) ∧ w.grownBy (w.setCell ⟨g, j, none⟩ (.int .i64 y)) (some g) := by
  subst hn
  obtain ⟨h1, h2⟩ := World.ownsRow.stored h j (.int .i64 y)
  refine ⟨?_, h2⟩
  unfold OwnI
  rw [List.length_set, List.map_set]
  exact h1

/-- no block in common -/
def Apart (v v' : Value) : Prop := ∀ k, v.ownBlock = some k → v'.ownBlock = some k → False

/-- the blocks of a value's row -/
def rowL (v : Value) : List Nat := v.ownBlock.toList
theorem mem_rowL {v : Value} {k : Nat} : k ∈ rowL v ↔ v.ownBlock = some k := by simp [rowL]

theorem rowL_some (g o n c : Nat) : rowL (.slice (some ⟨g, o, none⟩) n c) = [g] := rfl
theorem rowL_ge {w : World} {B : Nat} {v : Value} {xs : List Int} (h : OwnI w B v xs) : ∀ k ∈ rowL v, B ≤ k := fun k hk => (h.lt k (mem_rowL.1 hk)).1

/-- WHAT A CALL LEAVES THAT ANSWERS PLAIN VALUES -/
def Plain (V : Value) (w : World) (e : Ending) (w' : World) : Prop := e = .returned V ∧ Below w.heap.size w w'

theorem OwnI.rd {w : World} {B n c : Nat} {A : Option Addr} {xs : List Int} (h : OwnI w B (.slice A n c) xs) : Rd w w.heap.size A c xs := by
  obtain ⟨A', c', he, hr⟩ := h.form
  injection he with h1 h2 h3
  subst h1 h3
  exact hr

end Go.Proofs.YthcoipoihieggaaDoor
