/- Contracts: the laws' own marks: numbers written into a slice, and read back. -/
import Derived.Test.YtehffiaobjlpoaaPush
namespace Go.Proofs.Ytehffiaobjlpoaa
set_option maxRecDepth 100000
open Go.RowKit

/-- w' is w but for the blocks of L, and what is new. -/
structure Turned (w w' : World) (L : List Nat) : Prop where
  os : w'.os = w.os
  tape : w'.tape = w.tape
  output : w'.output = w.output
  size : w.heap.size ≤ w'.heap.size
  block : ∀ k, k < w.heap.size → k ∉ L → w'.heap[k]? = w.heap[k]?

theorem Turned.refl (w : World) (L : List Nat) : Turned w w L := ⟨rfl, rfl, rfl, Nat.le_refl _, fun _ _ _ => rfl⟩
theorem Turned.trans {a b c : World} {L : List Nat} (h : Turned a b L) (k : Turned b c L) : Turned a c L :=
  ⟨k.os.trans h.os, k.tape.trans h.tape, k.output.trans h.output, Nat.le_trans h.size k.size, fun i hi hn => (k.block i (Nat.lt_of_lt_of_le hi h.size) hn).trans (h.block i hi hn)⟩
theorem Turned.of_below {a b : World} (h : Below a.heap.size a b) (L : List Nat) : Turned a b L := ⟨h.os, h.tape, h.output, h.size, fun i hi _ => h.block i hi⟩
theorem Turned.of_grown {a b : World} {row : Option Nat} (h : a.grownBy b row) {L : List Nat} (hL : ∀ k, row = some k → k ∈ L) : Turned a b L :=
  ⟨h.os, h.tape, h.output, h.size, fun i hi hn => h.block i hi (fun e => hn (hL i e.symm))⟩
theorem Turned.more {a b : World} {L L' : List Nat} (h : Turned a b L) (hL : ∀ k ∈ L, k ∈ L') : Turned a b L' := ⟨h.os, h.tape, h.output, h.size, fun i hi hn => h.block i hi (fun e => hn (hL i e))⟩
theorem Turned.below {a b : World} {L : List Nat} (h : Turned a b L) {B : Nat} (hB : B ≤ a.heap.size) (hL : ∀ k ∈ L, B ≤ k) : Below B a b :=
  ⟨h.os, h.tape, h.output, h.size, fun i hi => h.block i (by omega) (fun e => by have := hL i e; omega)⟩
theorem Blk.turned {w w' : World} {g : Nat} {t : TypeId} {cs : Array Value} {L : List Nat} (h : Blk w g t cs) (hb : Turned w w' L) (hg : g ∉ L) : Blk w' g t cs := (hb.block g h.lt hg).trans h
theorem Rd.turned {w w' : World} {B : Nat} {A : Option Addr} {c : Nat} {xs : List Int} {L : List Nat} (h : Rd w B A c xs) (hb : Turned w w' L) (hB : B ≤ w.heap.size) (hL : ∀ k ∈ L, B ≤ k) : Rd w' B A c xs :=
  h.below (hb.below hB hL) (Nat.le_refl _)
theorem St.turned {w w' : World} {B : Nat} {st : Int} {A A' : Option Addr} {c c' : Nat} {ss bs : List Int} {L : List Nat} (h : St w B st A A' c c' ss bs) (hb : Turned w w' L) (hB : B ≤ w.heap.size) (hL : ∀ k ∈ L, B ≤ k) : St w' B st A A' c c' ss bs :=
  h.below (hb.below hB hL) (Nat.le_refl _)
theorem OwnI.turned {w w' : World} {B : Nat} {v : Value} {xs : List Int} {L : List Nat} (h : OwnI w B v xs) (hb : Turned w w' L) (hL : ∀ k, v.ownBlock = some k → k ∉ L) : OwnI w' B v xs := by
  refine ⟨h.1, ?_⟩
  rcases h.2 with h0 | ⟨g, cap, cur, rfl, hg, hh, r⟩
  · exact .inl h0
  · exact .inr ⟨g, cap, cur, rfl, hg, by rw [hb.block g (Array.getElem?_eq_some_iff.1 hh).1 (hL g rfl)]; exact hh, r⟩
theorem Blk.own {w : World} {g : Nat} {xs : List Int} (h : Blk w g 3 (ints xs)) (hn : xs.length ≤ 1048576) : OwnI w g (.slice (some ⟨g, 0, none⟩) xs.length xs.length) xs :=
  ⟨by simp, .inr ⟨g, xs.length, ints xs, rfl, Nat.le_refl _, h, Nat.le_refl _, by simp only [maxLen]; omega, by simp [ints], by simp [ints, List.take_of_length_le]⟩⟩

/-- k, k+1, .. : n numbers -/
def marksL (k : Int) : Nat → List Int
  | 0 => []
  | n + 1 => k :: marksL (k + 1) n
theorem marksL_length : ∀ (k : Int) (n : Nat), (marksL k n).length = n
  | _, 0 => rfl
  | k, n + 1 => by simp [marksL, marksL_length (k + 1) n]
theorem marksL_get : ∀ (k : Int) (n j : Nat), j < n → (marksL k n).getD j 0 = k + j
  | _, 0, j, h => by omega
  | k, n + 1, 0, _ => by simp [marksL]
  | k, n + 1, j + 1, h => by
    have := marksL_get (k + 1) n j (by omega)
    simp only [marksL, List.getD_cons_succ, this]
    omega
theorem marksL_snoc : ∀ (k : Int) (n : Nat), marksL k (n + 1) = marksL k n ++ [k + n]
  | k, 0 => by simp [marksL]
  | k, n + 1 => by
    rw [marksL, marksL_snoc (k + 1) n, marksL]
    simp
    omega
/-- the row while it is being marked -/
def marking (k : Int) (j : Nat) (xs : List Int) : List Int := marksL k j ++ xs.drop j
theorem marking_length {k : Int} {j : Nat} {xs : List Int} (h : j ≤ xs.length) : (marking k j xs).length = xs.length := by
  simp [marking, marksL_length]; omega
theorem marking_set {k : Int} {j : Nat} {xs : List Int} (h : j < xs.length) : (marking k j xs).set j (k + j) = marking k (j + 1) xs := by
  unfold marking
  rw [List.set_append, if_neg (by rw [marksL_length]; omega), marksL_length, Nat.sub_self, drop_at xs j h, marksL_snoc]
  simp

theorem OwnI.cell {w : World} {B g n cap : Nat} {xs : List Int} (h : OwnI w B (.slice (some ⟨g, 0, none⟩) n cap) xs) (hn : n = xs.length) {j : Nat} (hj : j < xs.length) : w.cell? ⟨g, j, none⟩ = some (.int .i64 (xs.getD j 0)) := by
  subst hn
  rw [World.ownsRow.cellAt h j (by omega)]
  simp [hj, List.getD_eq_getElem?_getD]
theorem OwnI.frozen {w : World} {B g n cap : Nat} {xs : List Int} (h : OwnI w B (.slice (some ⟨g, 0, none⟩) n cap) xs) (hn : n = xs.length) (j : Nat) : w.frozen? ⟨g, j, none⟩ = false := by
  subst hn
  exact World.ownsRow.frozenAt h j
theorem OwnI.set {w : World} {B g n cap : Nat} {xs : List Int} (h : OwnI w B (.slice (some ⟨g, 0, none⟩) n cap) xs) (hn : n = xs.length) (j : Nat) (y : Int) :
    OwnI (w.setCell ⟨g, j, none⟩ (.int .i64 y)) B (.slice (some ⟨g, 0, none⟩) n cap) (xs.set j y) ∧ w.grownBy (w.setCell ⟨g, j, none⟩ (.int .i64 y)) (some g) := by
  subst hn
  obtain ⟨h1, h2⟩ := World.ownsRow.stored h j (.int .i64 y)
  refine ⟨?_, h2⟩
  unfold OwnI
  rw [List.length_set, List.map_set]
  exact h1

set_option maxHeartbeats 1000000 in
theorem markIntS_any (v : Value) (xs : List Int) (k : Int) (B : Nat) (w : World) (ho : OwnI w B v xs) (hn : xs.length ≤ 1048576) (hk0 : 0 ≤ k) (hk1 : k ≤ 4194304) :
    Calls Try.prog 33 #[v, .int .i64 k] w fun e w' => e = .returned (.int .i64 (k + xs.length)) ∧ OwnI w' B v (marksL k xs.length) ∧ w.grownBy w' v.ownBlock := by
  rcases ho.2 with ⟨rfl, h0⟩ | ⟨g, cap, cur, rfl, hg, hh, _⟩
  · have : xs = [] := List.eq_nil_of_length_eq_zero h0
    subst this
    go_enter Try.func33, Try.ntmps33
    go_wp2
    go_loop [1, 5] (fun m i => i = .int .i64 0 ∧ m = .int .i64 k) (fun _ _ => 0)
    case atStart => exact ⟨rfl, rfl⟩
    case round =>
      obtain ⟨rfl, rfl⟩ := hrel
      go_wp2
      go_ret
      exact ⟨rfl, OwnI.nil _ _, World.grownBy.refl _ _⟩
  · clear hh
    go_enter Try.func33, Try.ntmps33
    go_wp2
    go_loopw [1, 5] (fun m i wr => ∃ (j : Nat), j ≤ xs.length ∧ i = .int .i64 j ∧ m = .int .i64 (k + j) ∧ OwnI wr B (.slice (some ⟨g, 0, none⟩) xs.length cap) (marking k j xs) ∧ w.grownBy wr (some g)) (fun _ i _ => xs.length - (intOf i).toNat)
    case atStart => exact ⟨0, Nat.zero_le _, rfl, by simp, ho, World.grownBy.refl _ _⟩
    case round =>
      obtain ⟨j, hj, rfl, rfl, hown, hgr⟩ := hrel
      have hl := marking_length (k := k) hj
      by_cases hlt : j < xs.length
      · have hc := hown.cell hl.symm (j := j) (by omega)
        have hf := hown.frozen hl.symm j
        obtain ⟨ho2, hg2⟩ := hown.set hl.symm j (k + j)
        have hg3 : w.grownBy (wr.setCell ⟨g, j, none⟩ (.int .i64 (k + j))) (some g) :=
          ⟨hg2.os.trans hgr.os, hg2.tape.trans hgr.tape, hg2.output.trans hgr.output, Nat.le_trans hgr.size hg2.size, fun i hi hne => (hg2.block i (Nat.lt_of_lt_of_le hi hgr.size) hne).trans (hgr.block i hi hne)⟩
        rw [marking_set hlt] at ho2
        generalize (marking k j xs).getD j 0 = y at *
        have HL := Lib.hid hl
        clear hl hown hgr hg2
        go_wp2
        go_roundw
        case rel => exact ⟨j + 1, by omega, by go_num, by go_num, ho2, hg3⟩
        case measure => simp [intOf]; omega
      · obtain rfl : j = xs.length := by omega
        have HL := Lib.hid hl
        clear hl
        go_wp2
        go_ret
        exact ⟨rfl, by simpa [marking] using hown, hgr⟩

set_option maxHeartbeats 1000000 in
theorem heldIntS_any (v : Value) (n : Nat) (k : Int) (B : Nat) (w : World) (ho : OwnI w B v (marksL k n)) (hn : n ≤ 1048576) (hk0 : 0 ≤ k) (hk1 : k ≤ 4194304) :
    Calls Try.prog 35 #[v, .int .i64 k] w fun e w' => e = .returned (.int .i64 (k + n)) ∧ w = w' := by
  obtain ⟨A, c, rfl, hr⟩ := ho.form
  rw [marksL_length]
  clear ho
  go_enter Try.func35, Try.ntmps35
  go_wp2
  go_loop [1, 5] (fun m i => ∃ (j : Nat), j ≤ n ∧ i = .int .i64 j ∧ m = .int .i64 (k + j)) (fun _ i => n - (intOf i).toNat)
  case atStart => exact ⟨0, Nat.zero_le _, rfl, by simp⟩
  case round =>
    obtain ⟨j, hj, rfl, rfl⟩ := hrel
    by_cases hlt : j < n
    · obtain ⟨b, o, rfl, hb, hcell⟩ := hr.at_ (k := j) (by rw [marksL_length]; exact hlt)
      rw [marksL_get _ _ _ hlt] at hcell
      go_wp2
      go_round
      case rel => exact ⟨j + 1, by omega, by go_num, by go_num⟩
      case measure => simp [intOf]; omega
    · obtain rfl : j = n := by omega
      go_wp2
      go_ret
      exact ⟨rfl, rfl⟩

/-- no block in common -/
def Apart (v v' : Value) : Prop := ∀ k, v.ownBlock = some k → v'.ownBlock = some k → False

/-- the blocks of a value's row -/
def rowL (v : Value) : List Nat := v.ownBlock.toList
theorem mem_rowL {v : Value} {k : Nat} : k ∈ rowL v ↔ v.ownBlock = some k := by simp [rowL]

set_option maxHeartbeats 1000000 in
theorem markStairs_any (st : Int) (v v' : Value) (xs ys : List Int) (k : Int) (B B' : Nat) (w : World) (ho : OwnI w B v xs) (ho' : OwnI w B' v' ys) (ha : Apart v v') (hn : xs.length ≤ 1048576) (hn' : ys.length ≤ 1048576) (hk0 : 0 ≤ k) (hk1 : k ≤ 1048576) :
    Calls Try.prog 29 #[.agg #[.int .i64 st, v, v'], .int .i64 k] w fun e w' => e = .returned (.int .i64 (k + xs.length + ys.length)) ∧ OwnI w' B v (marksL k xs.length) ∧ OwnI w' B' v' (marksL (k + xs.length) ys.length) ∧ Turned w w' (rowL v ++ rowL v') := by
  have X0 : Blk (w.alloc (.cells #[.int .i64 st, v, v'] 24)) w.heap.size 24 #[.int .i64 st, v, v'] := Blk.new _ _ _
  have hb1 := fun k h => (ho.lt k h).2
  have hb2 := fun k h => (ho'.lt k h).2
  obtain ⟨A, c, hv, _⟩ := ho.form
  obtain ⟨A', c', hv', _⟩ := ho'.form
  subst hv
  subst hv'
  go_enter Try.func29, Try.ntmps29
  go_wp2_with fail
  refine (markIntS_any _ xs k B _ (ho.alloc _) hn hk0 (by omega)).mono ?_
  rintro e w1 ⟨rfl, h1, hg1⟩
  have t1 : Turned (w.alloc (.cells #[.int .i64 st, .slice A xs.length c, .slice A' ys.length c'] 24)) w1 (rowL (.slice A xs.length c) ++ rowL (.slice A' ys.length c')) :=
    Turned.of_grown hg1 (fun j hj => List.mem_append.2 (.inl (mem_rowL.2 hj)))
  have X1 := X0.turned (Turned.of_grown hg1 (L := rowL (.slice A xs.length c)) (fun j hj => mem_rowL.2 hj)) (fun hm => by have := hb1 _ (mem_rowL.1 hm); omega)
  have h2 := (ho'.alloc (.cells #[.int .i64 st, .slice A xs.length c, .slice A' ys.length c'] 24)).turned (Turned.of_grown hg1 (L := rowL (.slice A xs.length c)) (fun j hj => mem_rowL.2 hj)) (fun j hj hm => ha j (mem_rowL.1 hm) hj)
  obtain ⟨p0, p1, p2⟩ := X1.three
  clear hg1 X0 ho ho'
  go_wp2_with fail
  refine (markIntS_any _ ys (k + xs.length) B' _ h2 hn' (by omega) (by omega)).mono ?_
  rintro e w2 ⟨rfl, h3, hg2⟩
  have t2 : Turned w1 w2 (rowL (.slice A xs.length c) ++ rowL (.slice A' ys.length c')) := Turned.of_grown hg2 (fun j hj => List.mem_append.2 (.inr (mem_rowL.2 hj)))
  have h4 := h1.turned (Turned.of_grown hg2 (L := rowL (.slice A' ys.length c')) (fun j hj => mem_rowL.2 hj)) (fun j hj hm => ha j hj (mem_rowL.1 hm))
  go_wp2_with fail
  go_ret
  exact ⟨rfl, h4, h3, ((Turned.of_below (below_alloc _ _) _).trans t1).trans t2⟩

end Go.Proofs.Ytehffiaobjlpoaa
