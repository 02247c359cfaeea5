/- Generic contracts of the laws own helpers over lists of ints. -/
import Derived.Test.YtiacfaeanlkalaaRows
import Derived.Test.YtiacfaeanlkalaaGMem
import Derived.BigQuiet
import Derived.Deep.QuietTactic
namespace Go.Proofs.Ytiacfaeanlkalaa
set_option maxRecDepth 100000
open Go.RowKit

theorem int_info : (Try.prog.info? 3).map (fun i => (i.zero, i.size, i.bytes)) = some (some (.int .i64 0), 1, 8) := by kernel_rfl

theorem drop_at (xs : List Int) (k : Nat) (h : k < xs.length) : xs.drop k = xs.getD k 0 :: xs.drop (k + 1) := by
  rw [List.drop_eq_getElem_cons h]; simp [List.getD_eq_getElem?_getD, h]

theorem below_alloc (w : World) (o : Obj) : Below w.heap.size w (w.alloc o) := (Below.refl _ _).alloc (Nat.le_refl _) _

theorem Below.drewN' {B : Nat} {a w : World} (h : Below B a w) (n : Nat) : Below B a (w.drewN n) := ⟨h.os, h.tape, h.output, h.size, h.block⟩

theorem below_undrew {B : Nat} {a w : World} (h : Below B a.drew w) : Below B a w := ⟨h.os, h.tape, h.output, h.size, h.block⟩

set_option maxHeartbeats 400000 in
theorem toIntS_any (A : Option Addr) (c : Nat) (xs : List Int) (B : Nat) (w : World) (hr : Rd w B A c xs) (hB : B ≤ w.heap.size) (hn : xs.length ≤ 1048576) :
    Calls Try.prog 14 #[.slice A xs.length c] w fun e w' => e = .returned (.slice (some ⟨w.heap.size, 0, none⟩) xs.length xs.length) ∧ w.alloc (.cells (ints xs) 3) = w' := by
  obtain ⟨i0, hi, hz, hs, hby⟩ := info_parts int_info
  have hmk : ∀ u : World, (Instr.makeSlice 22 (.int .i64 (xs.length : Int)) (.int .i64 (xs.length : Int))).run Try.prog u = .ok (.slice (some ⟨u.heap.size, 0, none⟩) xs.length xs.length) (u.alloc (.cells (fill xs 0) 3)) := fun u => by
    have := run_make (P := Try.prog) u 22 3 i0 (.int .i64 0) Try.underlying22 hi hz .i64 .i64 xs.length xs.length (by omega) (Int.le_refl _) (by rw [hby]; omega) (by omega)
    rw [Int.toNat_natCast, hs, fill_zero] at this
    exact this
  clear hi hz hs hby
  go_enter Try.func14, Try.ntmps14
  go_wp2
  go_loopw [4] (fun i wr => ∃ k : Nat, k ≤ xs.length ∧ i = .int .i64 k ∧ wr = w.alloc (.cells (fill xs k) 3)) (fun i _ => xs.length - (intOf i).toNat)
  case atStart => exact ⟨0, Nat.zero_le _, rfl, rfl⟩
  case round =>
    obtain ⟨k, hk, rfl, rfl⟩ := hrel
    by_cases hlt : k < xs.length
    · obtain ⟨b, o, rfl, hb, hcell⟩ := hr.at_ hlt
      have hb' : b < w.heap.size := by omega
      have hf := fill_at xs k hlt
      have hg := fill_set xs k hlt
      generalize xs.getD k 0 = x at *
      go_wp2
      go_roundw
      case rel => exact ⟨k + 1, by omega, by go_num, rfl⟩
      case measure => simp [intOf]; omega
    · have hf := fill_end xs
      obtain rfl : k = xs.length := by omega
      go_wp2
      go_ret
      exact ⟨rfl, rfl⟩

theorem toIntS_new (A : Option Addr) (c : Nat) (xs : List Int) (B : Nat) (w : World) (hr : Rd w B A c xs) (hB : B ≤ w.heap.size) (hn : xs.length ≤ 1048576) :
    Calls Try.prog 14 #[.slice A xs.length c] w fun e w' => ∃ g, e = .returned (.slice (some ⟨g, 0, none⟩) xs.length xs.length) ∧ w.heap.size ≤ g ∧ Blk w' g 3 (ints xs) ∧ Below w.heap.size w w' :=
  (toIntS_any A c xs B w hr hB hn).mono fun _ _ ⟨he, hw⟩ => ⟨w.heap.size, he, Nat.le_refl _, by rw [← hw]; exact Blk.new _ _ _, by rw [← hw]; exact below_alloc _ _⟩

/-- the two lists are the same, as the law's own loop decides it -/
def eqB (xs ys : List Int) : Bool := decide (xs = ys)
theorem eqB_self (xs : List Int) : eqB xs xs = true := by simp [eqB]
theorem eqB_at {xs ys : List Int} {k : Nat} (h : ¬ xs.getD k 0 = ys.getD k 0) : false = eqB xs ys := by
  symm
  simp only [eqB, decide_eq_false_iff_not]
  rintro rfl
  exact h rfl
theorem eqB_all {xs ys : List Int} (hl : xs.length = ys.length) (h : ∀ j, j < xs.length → xs.getD j 0 = ys.getD j 0) : true = eqB xs ys := by
  symm
  simp only [eqB, decide_eq_true_eq]
  apply List.ext_getElem hl
  intro i h1 h2
  have := h i h1
  simpa [List.getD_eq_getElem?_getD, h1, h2] using this

set_option maxHeartbeats 400000 in
theorem eqIntS_any (A A' : Option Addr) (c c' : Nat) (xs ys : List Int) (B : Nat) (w : World) (hx : Rd w B A c xs) (hy : Rd w B A' c' ys) (hn : xs.length ≤ 1048576) :
    Calls Try.prog 16 #[.slice A xs.length c, .slice A' ys.length c'] w fun e w' => e = .returned (.bool (eqB xs ys)) ∧ ∃ n, w' = w.drewN n := by
  by_cases hl : xs.length = ys.length
  · have Hl := Lib.hid hl
    rw [← hl]
    clear hl
    go_enter Try.func16, Try.ntmps16
    go_wp2
    go_loopw [5] (fun i wr => ∃ k : Nat, k ≤ xs.length ∧ i = .int .i64 k ∧ (∃ n, wr = w.drewN n) ∧ Hid (∀ j, j < k → xs.getD j 0 = ys.getD j 0)) (fun i _ => xs.length - (intOf i).toNat)
    case atStart => exact ⟨0, Nat.zero_le _, rfl, ⟨0, rfl⟩, fun j hj => absurd hj (by omega)⟩
    case round =>
      obtain ⟨k, hk, rfl, ⟨n, rfl⟩, H⟩ := hrel
      by_cases hlt : k < xs.length
      · obtain ⟨b, o, rfl, hb, hcell⟩ := hx.at_ hlt
        obtain ⟨b', o', rfl, hb', hcell'⟩ := hy.at_ (k := k) (by rw [← Hl.out]; exact hlt)
        have H1 := Lib.hid (eqB_at (xs := xs) (ys := ys) (k := k))
        generalize hX : xs.getD k 0 = x at *
        generalize hY : ys.getD k 0 = y at *
        have HX := Lib.hid hX
        have HY := Lib.hid hY
        clear hX hY
        by_cases he : x = y
        · subst he
          have H2 : Hid (∀ j, j < k + 1 → xs.getD j 0 = ys.getD j 0) := fun j hj => by
            rcases Nat.lt_succ_iff_lt_or_eq.1 hj with h | rfl
            · exact H.out j h
            · rw [HX.out, HY.out]
          go_wp2
          go_quiet (fail)
          go_wp2
          go_roundw
          case rel => exact ⟨k + 1, by omega, by go_num, ⟨_, rfl⟩, H2⟩
          case measure => simp [intOf]; omega
        · have H2 := Lib.hid (H1.out he)
          go_wp2
          go_quiet (fail)
          go_wp2
          go_ret
          exact ⟨ret_bool H2.out, _, World.drewN_drewN _ _ _⟩
      · have H2 := Lib.hid (eqB_all Hl.out fun j hj => H.out j (by omega))
        go_wp2
        go_ret
        exact ⟨ret_bool H2.out, _, rfl⟩
  · go_enter Try.func16, Try.ntmps16
    go_wp2
    go_ret
    exact ⟨ret_bool (by simp [eqB]; rintro rfl; exact hl rfl), 0, rfl⟩

theorem eqIntS_new (A A' : Option Addr) (c c' : Nat) (xs ys : List Int) (B B' : Nat) (w : World) (hx : Rd w B A c xs) (hy : Rd w B' A' c' ys) (hn : xs.length ≤ 1048576) :
    Calls Try.prog 16 #[.slice A xs.length c, .slice A' ys.length c'] w fun e w' => e = .returned (.bool (eqB xs ys)) ∧ Below w.heap.size w w' :=
  (eqIntS_any A A' c c' xs ys (max B B') w (hx.more (Nat.le_max_left _ _)) (hy.more (Nat.le_max_right _ _)) hn).mono fun _ _ ⟨he, n, hw⟩ => ⟨he, by rw [hw]; exact Below.drewN' (Below.refl _ _) _⟩

/-- The value v is a row of the call's own, from block B on, that reads as xs. -/
def OwnI (w : World) (B : Nat) (v : Value) (xs : List Int) : Prop := w.ownsRow B 3 1 v xs.length (xs.map (Value.int .i64))
theorem OwnI.nil (w : World) (B : Nat) : OwnI w B (.slice none 0 0) [] := World.ownsRow_nil _ _ _ _
theorem OwnI.alloc {w : World} {B : Nat} {v : Value} {xs : List Int} (h : OwnI w B v xs) (o : Obj) : OwnI (w.alloc o) B v xs := World.ownsRow.alloc h o
theorem OwnI.lt {w : World} {B : Nat} {v : Value} {xs : List Int} (h : OwnI w B v xs) : ∀ k, v.ownBlock = some k → B ≤ k ∧ k < w.heap.size := World.ownsRow.lt h
theorem OwnI.form {w : World} {B : Nat} {v : Value} {xs : List Int} (h : OwnI w B v xs) : ∃ A c, v = .slice A xs.length c ∧ Rd w w.heap.size A c xs := by
  rcases h.2 with ⟨rfl, h0⟩ | ⟨g, cap, cur, rfl, hg, hh, hc, _⟩
  · have : xs = [] := List.eq_nil_of_length_eq_zero h0
    subst this
    exact ⟨none, 0, rfl, Rd.nil⟩
  · refine ⟨_, _, rfl, hc, fun k hk => ⟨g, 0, rfl, (Array.getElem?_eq_some_iff.1 hh).1, ?_⟩⟩
    have := World.ownsRow.cells (g := g) h rfl k (.int .i64 (xs.getD k 0)) (by simp [hk, List.getD_eq_getElem?_getD])
    rw [Addr.add_lit] at this
    exact this
theorem OwnI.below {w w' : World} {B B' : Nat} {v : Value} {xs : List Int} (h : OwnI w B v xs) (hb : Below B' w w') (hB : w.heap.size ≤ B') : OwnI w' B v xs := by
  refine ⟨h.1, ?_⟩
  rcases h.2 with h0 | ⟨g, cap, cur, rfl, hg, hh, r⟩
  · exact .inl h0
  · exact .inr ⟨g, cap, cur, rfl, hg, by rw [hb.block g (Nat.lt_of_lt_of_le (Array.getElem?_eq_some_iff.1 hh).1 hB)]; exact hh, r⟩
theorem OwnI.mono {w : World} {B B' : Nat} {v : Value} {xs : List Int} (h : OwnI w B v xs) (hB : B' ≤ B) : OwnI w B' v xs := by
  refine ⟨h.1, ?_⟩
  rcases h.2 with h0 | ⟨g, cap, cur, rfl, hg, r⟩
  · exact .inl h0
  · exact .inr ⟨g, cap, cur, rfl, by omega, r⟩

theorem wpList_push (w : World) {ops : Array Oper} {rest : List Oper} {o : Oper} {a : Act} {Q : Exit → Act → World → Prop} (hgd : o.guard = none) (s x : Operand)
    (ho : o.op = .call { callee := .builtin .append, args := #[s, x], argTypes := #[22, 22] }) (B : Nat) (v : Value) (xs : List Int) (hs : a.eval s = v) (hown : OwnI w B v xs)
    (g : Nat) (y : Int) (hx : a.eval x = .slice (some ⟨g, 0, none⟩) 1 1) (hc : w.cell? ⟨g, 0, none⟩ = some (.int .i64 y)) (hn : xs.length ≤ 1048576) (hB : B ≤ w.heap.size)
    (h : ∀ v' w', OwnI w' B v' (xs ++ [y]) → Below B w w' → wpList Try.prog ops Q rest (a.put o.dst v') w') : wpList Try.prog ops Q (o :: rest) a w := by
  obtain ⟨i0, hi, hz, hsz, hby⟩ := info_parts int_info
  refine wpList_append_own w hgd s x 22 ho B 3 i0 (.int .i64 0) 1 8 Try.underlying22 hi hz hsz hby rfl (by decide) v xs.length _ hs hown ⟨g, 0, none⟩ 1 1 [.int .i64 y] hx rfl ?_ ?_ ?_ ?_ hB ?_
  · intro j u hu
    cases j with
    | zero => simp at hu; subst hu; exact hc
    | succ j => simp at hu
  · simp [Value.oneCell']
  · simp only [maxLen]; omega
  · omega
  · intro v' w' h1 h2 _
    refine h v' w' ?_ ((Below.refl _ _).grown h2 hB (fun k hk => (hown.lt k hk).1))
    unfold OwnI
    simpa using h1

theorem wpList_pushI (w : World) {ops : Array Oper} {rest : List Oper} {o : Oper} {a : Act} {Q : Exit → Act → World → Prop} (hgd : o.guard = none) (s x : Operand)
    (ho : o.op = .call { callee := .builtin .append, args := #[s, x], argTypes := #[22, 22] }) (B : Nat) (v : Value) (xs : List Int) (hs : a.eval s = v) (hown : OwnI w B v xs)
    (g : Nat) (y : Int) (hx : a.eval x = .slice (some ⟨g, 0, none⟩) 1 1) (hc : w.cell? ⟨g, 0, none⟩ = some (.int .i64 y)) (hn : xs.length ≤ 1048576) (hB : B ≤ w.heap.size)
    (h : ∀ A c w', OwnI w' B (.slice A (xs.length + 1) c) (xs ++ [y]) → Below B w w' → wpList Try.prog ops Q rest (a.put o.dst (.slice A (xs.length + 1) c)) w') : wpList Try.prog ops Q (o :: rest) a w :=
  wpList_push w hgd s x ho B v xs hs hown g y hx hc hn hB fun v' w' h1 h2 => by
    obtain ⟨A, c, rfl, _⟩ := h1.form
    rw [show (xs ++ [y]).length = xs.length + 1 by simp] at h1
    rw [show (xs ++ [y]).length = xs.length + 1 by simp]
    exact h A c w' h1 h2

/-- WHAT A CALL LEAVES THAT ANSWERS A LIST AND A BOOL: the list in memory that was not there before. -/
def Lists (w : World) (xs : List Int) (ok : Bool) (e : Ending) (w' : World) : Prop :=
  ∃ v, e = .returned (.tuple #[v, .bool ok]) ∧ OwnI w' w.heap.size v xs ∧ Below w.heap.size w w'

/-- w' is w but for the blocks of L, and what is new. -/
structure Turned (w w' : World) (L : List Nat) : Prop where
  os : w'.os = w.os
  tape : w'.tape = w.tape
  output : w'.output = w.output
  size : w.heap.size ≤ w'.heap.size
  block : ∀ k, k < w.heap.size → k ∉ L → w'.heap[k]? = w.heap[k]?

theorem Turned.refl (w : World) (L : List Nat) : Turned w w L := ⟨rfl, rfl, rfl, Nat.le_refl _, fun _ _ _ => rfl⟩
theorem Turned.trans {a b c : World} {L : List Nat} (h : Turned a b L) (k : Turned b c L) : Turned a c L :=
  ⟨k.os.trans h.os, k.tape.trans h.tape, k.output.trans h.output, Nat.le_trans h.size k.size, fun i hi hn => (k.block i (Nat.lt_of_lt_of_le hi h.size) hn).trans (h.block i hi hn)⟩
theorem Turned.of_below {a b : World} (h : Below a.heap.size a b) (L : List Nat) : Turned a b L := ⟨h.os, h.tape, h.output, h.size, fun i hi _ => h.block i hi⟩
theorem Turned.of_grown {a b : World} {row : Option Nat} (h : a.grownBy b row) {L : List Nat} (hL : ∀ k, row = some k → k ∈ L) : Turned a b L :=
  ⟨h.os, h.tape, h.output, h.size, fun i hi hn => h.block i hi (fun e => hn (hL i e.symm))⟩
theorem Turned.more {a b : World} {L L' : List Nat} (h : Turned a b L) (hL : ∀ k ∈ L, k ∈ L') : Turned a b L' := ⟨h.os, h.tape, h.output, h.size, fun i hi hn => h.block i hi (fun e => hn (hL i e))⟩
theorem Turned.below {a b : World} {L : List Nat} (h : Turned a b L) {B : Nat} (hB : B ≤ a.heap.size) (hL : ∀ k ∈ L, B ≤ k) : Below B a b :=
  ⟨h.os, h.tape, h.output, h.size, fun i hi => h.block i (by omega) (fun e => by have := hL i e; omega)⟩
theorem Blk.turned {w w' : World} {g : Nat} {t : TypeId} {cs : Array Value} {L : List Nat} (h : Blk w g t cs) (hb : Turned w w' L) (hg : g ∉ L) : Blk w' g t cs := (hb.block g h.lt hg).trans h
theorem Rd.turned {w w' : World} {B : Nat} {A : Option Addr} {c : Nat} {xs : List Int} {L : List Nat} (h : Rd w B A c xs) (hb : Turned w w' L) (hB : B ≤ w.heap.size) (hL : ∀ k ∈ L, B ≤ k) : Rd w' B A c xs :=
  h.below (hb.below hB hL) (Nat.le_refl _)

theorem OwnI.turned {w w' : World} {B : Nat} {v : Value} {xs : List Int} {L : List Nat} (h : OwnI w B v xs) (hb : Turned w w' L) (hL : ∀ k, v.ownBlock = some k → k ∉ L) : OwnI w' B v xs := by
  refine ⟨h.1, ?_⟩
  rcases h.2 with h0 | ⟨g, cap, cur, rfl, hg, hh, r⟩
  · exact .inl h0
  · exact .inr ⟨g, cap, cur, rfl, hg, by rw [hb.block g (Array.getElem?_eq_some_iff.1 hh).1 (hL g rfl)]; exact hh, r⟩
theorem Blk.own {w : World} {g : Nat} {xs : List Int} (h : Blk w g 3 (ints xs)) (hn : xs.length ≤ 1048576) : OwnI w g (.slice (some ⟨g, 0, none⟩) xs.length xs.length) xs :=
  ⟨by simp, .inr ⟨g, xs.length, ints xs, rfl, Nat.le_refl _, h, Nat.le_refl _, by simp only [maxLen]; omega, by simp [ints], by simp [ints, List.take_of_length_le]⟩⟩

/-- k, k+1, .. : n numbers -/
def marksL (k : Int) : Nat → List Int
  | 0 => []
  | n + 1 => k :: marksL (k + 1) n
theorem marksL_length : ∀ (k : Int) (n : Nat), (marksL k n).length = n
  | _, 0 => rfl
  | k, n + 1 => by simp [marksL, marksL_length (k + 1) n]
theorem marksL_get : ∀ (k : Int) (n j : Nat), j < n → (marksL k n).getD j 0 = k + j
  | _, 0, j, h => by omega
  | k, n + 1, 0, _ => by simp [marksL]
  | k, n + 1, j + 1, h => by
    have := marksL_get (k + 1) n j (by omega)
    simp only [marksL, List.getD_cons_succ, this]
    omega
theorem marksL_snoc : ∀ (k : Int) (n : Nat), marksL k (n + 1) = marksL k n ++ [k + n]
  | k, 0 => by simp [marksL]
  | k, n + 1 => by
    rw [marksL, marksL_snoc (k + 1) n, marksL]
    simp
    omega
/-- the row while it is being marked -/
def marking (k : Int) (j : Nat) (xs : List Int) : List Int := marksL k j ++ xs.drop j
theorem marking_length {k : Int} {j : Nat} {xs : List Int} (h : j ≤ xs.length) : (marking k j xs).length = xs.length := by
  simp [marking, marksL_length]; omega
theorem marking_set {k : Int} {j : Nat} {xs : List Int} (h : j < xs.length) : (marking k j xs).set j (k + j) = marking k (j + 1) xs := by
  unfold marking
  rw [List.set_append, if_neg (by rw [marksL_length]; omega), marksL_length, Nat.sub_self, drop_at xs j h, marksL_snoc]
  simp

theorem OwnI.cell {w : World} {B g n cap : Nat} {xs : List Int} (h : OwnI w B (.slice (some ⟨g, 0, none⟩) n cap) xs) (hn : n = xs.length) {j : Nat} (hj : j < xs.length) : w.cell? ⟨g, j, none⟩ = some (.int .i64 (xs.getD j 0)) := by
  subst hn
  rw [World.ownsRow.cellAt h j (by omega)]
  simp [hj, List.getD_eq_getElem?_getD]
theorem OwnI.frozen {w : World} {B g n cap : Nat} {xs : List Int} (h : OwnI w B (.slice (some ⟨g, 0, none⟩) n cap) xs) (hn : n = xs.length) (j : Nat) : w.frozen? ⟨g, j, none⟩ = false := by
  subst hn
  exact World.ownsRow.frozenAt h j
theorem OwnI.set {w : World} {B g n cap : Nat} {xs : List Int} (h : OwnI w B (.slice (some ⟨g, 0, none⟩) n cap) xs) (hn : n = xs.length) (j : Nat) (y : Int) :
    OwnI (w.setCell ⟨g, j, none⟩ (.int .i64 y)) B (.slice (some ⟨g, 0, none⟩) n cap) (xs.set j y) ∧ w.grownBy (w.setCell ⟨g, j, none⟩ (.int .i64 y)) (some g) := by
  subst hn
  obtain ⟨h1, h2⟩ := World.ownsRow.stored h j (.int .i64 y)
  refine ⟨?_, h2⟩
  unfold OwnI
  rw [List.length_set, List.map_set]
  exact h1

/-- no block in common -/
def Apart (v v' : Value) : Prop := ∀ k, v.ownBlock = some k → v'.ownBlock = some k → False

/-- the blocks of a value's row -/
def rowL (v : Value) : List Nat := v.ownBlock.toList
theorem mem_rowL {v : Value} {k : Nat} : k ∈ rowL v ↔ v.ownBlock = some k := by simp [rowL]

set_option maxHeartbeats 1000000 in
theorem markIntS_any (v : Value) (xs : List Int) (k : Int) (B : Nat) (w : World) (ho : OwnI w B v xs) (hn : xs.length ≤ 1048576) (hk0 : 0 ≤ k) (hk1 : k ≤ 4194304) :
    Calls Try.prog 27 #[v, .int .i64 k] w fun e w' => e = .returned (.int .i64 (k + xs.length)) ∧ OwnI w' B v (marksL k xs.length) ∧ w.grownBy w' v.ownBlock := by
  rcases ho.2 with ⟨rfl, h0⟩ | ⟨g, cap, cur, rfl, hg, hh, _⟩
  · have : xs = [] := List.eq_nil_of_length_eq_zero h0
    subst this
    go_enter Try.func27, Try.ntmps27
    go_wp2
    go_loop [1, 5] (fun m i => i = .int .i64 0 ∧ m = .int .i64 k) (fun _ _ => 0)
    case atStart => exact ⟨rfl, rfl⟩
    case round =>
      obtain ⟨rfl, rfl⟩ := hrel
      go_wp2
      go_ret
      exact ⟨rfl, OwnI.nil _ _, World.grownBy.refl _ _⟩
  · clear hh
    go_enter Try.func27, Try.ntmps27
    go_wp2
    go_loopw [1, 5] (fun m i wr => ∃ (j : Nat), j ≤ xs.length ∧ i = .int .i64 j ∧ m = .int .i64 (k + j) ∧ OwnI wr B (.slice (some ⟨g, 0, none⟩) xs.length cap) (marking k j xs) ∧ w.grownBy wr (some g)) (fun _ i _ => xs.length - (intOf i).toNat)
    case atStart => exact ⟨0, Nat.zero_le _, rfl, by simp, ho, World.grownBy.refl _ _⟩
    case round =>
      obtain ⟨j, hj, rfl, rfl, hown, hgr⟩ := hrel
      have hl := marking_length (k := k) hj
      by_cases hlt : j < xs.length
      · have hc := hown.cell hl.symm (j := j) (by omega)
        have hf := hown.frozen hl.symm j
        obtain ⟨ho2, hg2⟩ := hown.set hl.symm j (k + j)
        have hg3 : w.grownBy (wr.setCell ⟨g, j, none⟩ (.int .i64 (k + j))) (some g) :=
          ⟨hg2.os.trans hgr.os, hg2.tape.trans hgr.tape, hg2.output.trans hgr.output, Nat.le_trans hgr.size hg2.size, fun i hi hne => (hg2.block i (Nat.lt_of_lt_of_le hi hgr.size) hne).trans (hgr.block i hi hne)⟩
        rw [marking_set hlt] at ho2
        generalize (marking k j xs).getD j 0 = y at *
        have HL := Lib.hid hl
        clear hl hown hgr hg2
        go_wp2
        go_roundw
        case rel => exact ⟨j + 1, by omega, by go_num, by go_num, ho2, hg3⟩
        case measure => simp [intOf]; omega
      · obtain rfl : j = xs.length := by omega
        have HL := Lib.hid hl
        clear hl
        go_wp2
        go_ret
        exact ⟨rfl, by simpa [marking] using hown, hgr⟩

theorem markI_new (v : Value) (xs : List Int) (k : Int) (B : Nat) (w : World) (ho : OwnI w B v xs) (hn : xs.length ≤ 1048576) (hk0 : 0 ≤ k) (hk1 : k ≤ 4194304) :
    Calls Try.prog 27 #[v, .int .i64 k] w fun e w' => e = .returned (.int .i64 (k + xs.length)) ∧ OwnI w' B v (marksL k xs.length) ∧ Turned w w' (rowL v) :=
  (markIntS_any v xs k B w ho hn hk0 hk1).mono fun _ _ ⟨he, ho', hg⟩ => ⟨he, ho', Turned.of_grown hg fun _ hk => mem_rowL.2 hk⟩

set_option maxHeartbeats 1000000 in
theorem heldIntS_any (v : Value) (n : Nat) (k : Int) (B : Nat) (w : World) (ho : OwnI w B v (marksL k n)) (hn : n ≤ 1048576) (hk0 : 0 ≤ k) (hk1 : k ≤ 4194304) :
    Calls Try.prog 28 #[v, .int .i64 k] w fun e w' => e = .returned (.int .i64 (k + n)) ∧ w = w' := by
  obtain ⟨A, c, rfl, hr⟩ := ho.form
  rw [marksL_length]
  clear ho
  go_enter Try.func28, Try.ntmps28
  go_wp2
  go_loop [1, 5] (fun m i => ∃ (j : Nat), j ≤ n ∧ i = .int .i64 j ∧ m = .int .i64 (k + j)) (fun _ i => n - (intOf i).toNat)
  case atStart => exact ⟨0, Nat.zero_le _, rfl, by simp⟩
  case round =>
    obtain ⟨j, hj, rfl, rfl⟩ := hrel
    by_cases hlt : j < n
    · obtain ⟨b, o, rfl, hb, hcell⟩ := hr.at_ (k := j) (by rw [marksL_length]; exact hlt)
      rw [marksL_get _ _ _ hlt] at hcell
      go_wp2
      go_round
      case rel => exact ⟨j + 1, by omega, by go_num, by go_num⟩
      case measure => simp [intOf]; omega
    · obtain rfl : j = n := by omega
      go_wp2
      go_ret
      exact ⟨rfl, rfl⟩

theorem rowL_some (g o n c : Nat) : rowL (.slice (some ⟨g, o, none⟩) n c) = [g] := rfl
theorem rowL_ge {w : World} {B : Nat} {v : Value} {xs : List Int} (h : OwnI w B v xs) : ∀ k ∈ rowL v, B ≤ k := fun k hk => (h.lt k (mem_rowL.1 hk)).1

/-- WHAT A CALL LEAVES THAT ANSWERS PLAIN VALUES -/
def Plain (V : Value) (w : World) (e : Ending) (w' : World) : Prop := e = .returned V ∧ Below w.heap.size w w'

theorem OwnI.rd {w : World} {B n c : Nat} {A : Option Addr} {xs : List Int} (h : OwnI w B (.slice A n c) xs) : Rd w w.heap.size A c xs := by
  obtain ⟨A', c', he, hr⟩ := h.form
  injection he with h1 h2 h3
  subst h1 h3
  exact hr

end Go.Proofs.Ytiacfaeanlkalaa
