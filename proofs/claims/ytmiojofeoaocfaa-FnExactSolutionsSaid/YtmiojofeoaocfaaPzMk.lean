/- Marks in a stock of stairs, whether they are held, two stocks of the same stairs. -/
import Derived.Test.YtmiojofeoaocfaaPzX
import Derived.Test.YtmiojofeoaocfaaMarkS
import Derived.Test.YtmiojofeoaocfaaKit
namespace Go.Proofs.Ytmiojofeoaocfaa
open Go.RowKit
set_option maxRecDepth 100000

theorem cellsE_set0 : ∀ (ps : List El) (k : Nat) (v : Int), k < ps.length → (cellsE ps).set (k * 3) (.int .i64 v) = cellsE (ps.set k (v, (ps.getD k e0).2))
  | [], k, v, h => absurd h (by simp)
  | p :: r, 0, v, _ => by simp [cellsE]
  | p :: r, k + 1, v, h => by
    have := cellsE_set0 r k v (by simpa using h)
    rw [show (k + 1) * 3 = ((k * 3 + 1) + 1) + 1 by omega]
    simp only [cellsE, List.set_cons_succ, List.getD_cons_succ, this]
theorem OwnE.set0 {w : World} {B g n cap : Nat} {ps : List El} (h : OwnE w B (.slice (some ⟨g, 0, none⟩) n cap) ps) (hn : n = ps.length) {k : Nat} (hk : k < ps.length) (v : Int) :
    OwnE (w.setCell ⟨g, k * 3, none⟩ (.int .i64 v)) B (.slice (some ⟨g, 0, none⟩) n cap) (ps.set k (v, (ps.getD k e0).2)) := by
  subst hn
  unfold OwnE
  rw [← cellsE_set0 ps k v hk, List.length_set]
  exact (World.ownsRow.stored h _ _).1

def mk1 (k : Int) (x : El × Rc) : El × Rc := ((k, x.1.2), (k, marksL (k + 1) x.2.2.1.length, marksL (k + 1 + x.2.2.1.length) x.2.2.2.length))
def kS (k : Int) : Lr → Int
  | [] => k
  | x :: r => kS (k + 1 + x.2.2.1.length + x.2.2.2.length) r
def mkS (k : Int) : Lr → Lr
  | [] => []
  | x :: r => mk1 k x :: mkS (k + 1 + x.2.2.1.length + x.2.2.2.length) r
theorem mkS_len : ∀ (k : Int) (L : Lr), (mkS k L).length = L.length
  | _, [] => rfl
  | k, x :: r => by simp [mkS, mkS_len _ r]
theorem kS_snoc : ∀ (k : Int) (L : Lr) (x : El × Rc), kS k (L ++ [x]) = kS k L + 1 + x.2.2.1.length + x.2.2.2.length
  | _, [], _ => rfl
  | k, y :: r, x => by simp only [List.cons_append, kS]; exact kS_snoc _ r x
theorem mkS_snoc : ∀ (k : Int) (L : Lr) (x : El × Rc), mkS k (L ++ [x]) = mkS k L ++ [mk1 (kS k L) x]
  | _, [], _ => rfl
  | k, y :: r, x => by simp only [List.cons_append, mkS, kS]; rw [mkS_snoc _ r x]
theorem kS_le : ∀ (k : Int) (L : Lr), (∀ x ∈ L, x.2.2.1.length ≤ 64 ∧ x.2.2.2.length ≤ 64) → k ≤ kS k L ∧ kS k L ≤ k + 129 * (L.length : Int)
  | k, [], _ => by simp [kS]
  | k, x :: r, h => by
    have h1 := h x (by simp)
    have h2 := kS_le (k + 1 + x.2.2.1.length + x.2.2.2.length) r (fun y hy => h y (by simp [hy]))
    simp only [kS, List.length_cons]
    push_cast
    omega
theorem take_get {L : Lr} {j : Nat} {x : El × Rc} (hx : L[j]? = some x) : L.take (j + 1) = L.take j ++ [x] := by rw [List.take_add_one, hx]; rfl
theorem drop_get {L : Lr} {j : Nat} {x : El × Rc} (hx : L[j]? = some x) : L.drop j = x :: L.drop (j + 1) := by
  obtain ⟨h, rfl⟩ := List.getElem?_eq_some_iff.1 hx
  exact List.drop_eq_getElem_cons h
theorem mkS_get (k : Int) {L : Lr} {j : Nat} {x : El × Rc} (hx : L[j]? = some x) : (mkS k L)[j]? = some (mk1 (kS k (L.take j)) x) := by
  have hl : (L.take j).length = j := by
    obtain ⟨h, _⟩ := List.getElem?_eq_some_iff.1 hx
    simp; omega
  have : ∀ (P S : Lr) (k : Int), (mkS k (P ++ x :: S))[P.length]? = some (mk1 (kS k P) x) := by
    intro P
    induction P with
    | nil => intro S k; simp [mkS, kS]
    | cons y r ih => intro S k; simp only [List.cons_append, mkS, kS, List.length_cons, List.getElem?_cons_succ]; exact ih S _
  have h2 := this (L.take j) (L.drop (j + 1)) k
  rw [hl, ← drop_get hx, List.take_append_drop] at h2
  exact h2
/-- the blocks of a stock -/
def stkL (v : Value) (L : Lr) : List Nat := rowL v ++ L.flatMap fun x => rowL x.1.2.1 ++ rowL x.1.2.2
theorem stkL_v {v : Value} {L : Lr} {k : Nat} (h : k ∈ rowL v) : k ∈ stkL v L := List.mem_append.2 (.inl h)
theorem stkL_1 {v : Value} {L : Lr} {x : El × Rc} (hx : x ∈ L) {k : Nat} (h : k ∈ rowL x.1.2.1) : k ∈ stkL v L := List.mem_append.2 (.inr (List.mem_flatMap.2 ⟨x, hx, List.mem_append.2 (.inl h)⟩))
theorem stkL_2 {v : Value} {L : Lr} {x : El × Rc} (hx : x ∈ L) {k : Nat} (h : k ∈ rowL x.1.2.2) : k ∈ stkL v L := List.mem_append.2 (.inr (List.mem_flatMap.2 ⟨x, hx, List.mem_append.2 (.inr h)⟩))
theorem Stock.lt {w : World} {B : Nat} {v : Value} {L : Lr} (h : Stock w B v L) : ∀ k ∈ stkL v L, B ≤ k ∧ k < w.heap.size := by
  intro k hk
  rcases List.mem_append.1 hk with hk | hk
  · exact h.row.lt k (mem_rowL.1 hk)
  · obtain ⟨x, hx, hk⟩ := List.mem_flatMap.1 hk
    obtain ⟨_, h1, h2, _⟩ := h.own x hx
    rcases List.mem_append.1 hk with hk | hk
    · exact h1.lt k (mem_rowL.1 hk)
    · exact h2.lt k (mem_rowL.1 hk)
theorem Stock.turned {w w' : World} {B : Nat} {v : Value} {L : Lr} {T : List Nat} (h : Stock w B v L) (ht : Turned w w' T) (hT : ∀ k, B ≤ k → k < w.heap.size → k ∉ T) : Stock w' B v L :=
  h.keep fun k h1 h2 => ht.block k h2 (hT k h1 h2)
theorem Stock.turn {w w' : World} {B : Nat} {v : Value} {L : Lr} {T : List Nat} (h : Stock w B v L) (ht : Turned w w' T) (hT : ∀ k ∈ stkL v L, k ∉ T) : Stock w' B v L :=
  ⟨h.row.turned ht (fun k e => hT k (stkL_v (mem_rowL.2 e))), fun x hx => by
    obtain ⟨a0, a1, a2, a3⟩ := h.own x hx
    exact ⟨a0, a1.turned ht fun k e => hT k (stkL_1 hx (mem_rowL.2 e)), a2.turned ht fun k e => hT k (stkL_2 hx (mem_rowL.2 e)), a3⟩, h.out, h.pair⟩
theorem Stock.all {w : World} {B : Nat} {v : Value} {L : Lr} (h : Stock w B v L) (hs : ∀ x ∈ L, x.2.2.1.length ≤ 1048576 ∧ x.2.2.2.length ≤ 1048576) : ∀ x ∈ L, StE w w.heap.size x.1 x.2 := by
  obtain ⟨_, _, _, _, h2⟩ := h.read hs
  exact h2
theorem stk_64 {L : Lr} {rs : List Rc} (hL : recL L = rs) (h : ∀ r ∈ rs, r.2.1.length ≤ 64 ∧ r.2.2.length ≤ 64) : ∀ x ∈ L, x.2.2.1.length ≤ 64 ∧ x.2.2.2.length ≤ 64 := fun x hx => h x.2 (by rw [← hL]; exact List.mem_map.2 ⟨x, hx, rfl⟩)
theorem stk_lens {L : Lr} {rs : List Rc} (hL : recL L = rs) (h : ∀ r ∈ rs, r.2.1.length ≤ 64 ∧ r.2.2.length ≤ 64) : ∀ x ∈ L, x.2.2.1.length ≤ 1048576 ∧ x.2.2.2.length ≤ 1048576 := fun x hx => by
  have := stk_64 hL h x hx
  omega
theorem stk_len {L : Lr} {rs : List Rc} (hL : recL L = rs) (h : rs.length ≤ 196) : L.length ≤ 196 := by rw [← recL_len, hL]; exact h
/-- A CALL ANSWERS A STOCK OF ITS OWN MEMORY AND A BOOL -/
def NewS (w : World) (rs : List Rc) (ok : Bool) (e : Ending) (w' : World) : Prop :=
  ∃ v L, e = .returned (.tuple #[v, .bool ok]) ∧ recL L = rs ∧ Stock w' w.heap.size v L ∧ Below w.heap.size w w'
/-- one element anew, its slices the same -/
theorem Stock.upd {w w' : World} {B : Nat} {v : Value} {P S : Lr} {x : El × Rc} (h : Stock w B v (P ++ x :: S)) (y : El × Rc) (he : y.1.2 = x.1.2) (ho : OwnE w' B v (elsL (P ++ y :: S)))
    (hy : y.1.1 = y.2.1 ∧ OwnI w' B y.1.2.1 y.2.2.1 ∧ OwnI w' B y.1.2.2 y.2.2.2) (hk : ∀ z ∈ P ++ S, ∀ k, z.1.2.1.ownBlock = some k ∨ z.1.2.2.ownBlock = some k → w'.heap[k]? = w.heap[k]?) : Stock w' B v (P ++ y :: S) := by
  have hin : ∀ z ∈ P ++ y :: S, z = y ∨ z ∈ P ++ S := by
    intro z hz
    simp only [List.mem_append, List.mem_cons] at hz ⊢
    rcases hz with hz | hz | hz
    · exact .inr (.inl hz)
    · exact .inl hz
    · exact .inr (.inr hz)
  have hin2 : ∀ z ∈ P ++ S, z ∈ P ++ x :: S := by
    intro z hz
    simp only [List.mem_append, List.mem_cons] at hz ⊢
    rcases hz with hz | hz
    · exact .inl hz
    · exact .inr (.inr hz)
  have hx : x ∈ P ++ x :: S := by simp
  refine ⟨ho, ?_, ?_, ?_⟩
  · intro z hz
    rcases hin z hz with rfl | hz
    · exact ⟨hy.1, hy.2.1, hy.2.2, by rw [he]; exact (h.own x hx).2.2.2⟩
    · obtain ⟨a0, a1, a2, a3⟩ := h.own z (hin2 z hz)
      exact ⟨a0, a1.keep fun k e => hk z hz k (.inl e), a2.keep fun k e => hk z hz k (.inr e), a3⟩
  · intro z hz
    rcases hin z hz with rfl | hz
    · rw [he]; exact h.out x hx
    · exact h.out z (hin2 z hz)
  · have hp := h.pair
    rw [List.pairwise_append, List.pairwise_cons] at hp ⊢
    rw [he]
    refine ⟨hp.1, hp.2.1, ?_⟩
    intro a ha b hb
    rcases List.mem_cons.1 hb with rfl | hb
    · rw [he]; exact hp.2.2 a ha x (by simp)
    · exact hp.2.2 a ha b (by simp [hb])
theorem Stock.sep {w : World} {B : Nat} {v : Value} {P S : Lr} {x : El × Rc} (h : Stock w B v (P ++ x :: S)) : ∀ z ∈ P ++ S, Apart x.1.2.1 z.1.2.1 ∧ Apart x.1.2.1 z.1.2.2 ∧ Apart x.1.2.2 z.1.2.1 ∧ Apart x.1.2.2 z.1.2.2 := by
  intro z hz
  have hp := h.pair
  rw [List.pairwise_append, List.pairwise_cons] at hp
  rcases List.mem_append.1 hz with hz | hz
  · obtain ⟨a, b, c, d⟩ := hp.2.2 z hz x (by simp)
    exact ⟨fun k e1 e2 => a k e2 e1, fun k e1 e2 => c k e2 e1, fun k e1 e2 => b k e2 e1, fun k e1 e2 => d k e2 e1⟩
  · exact hp.2.1.1 z hz
theorem elsL_mid (P S : Lr) (x : El × Rc) : elsL (P ++ x :: S) = elsL P ++ x.1 :: elsL S := by simp [elsL]
theorem elsL_getmid (P S : Lr) (x : El × Rc) : (elsL (P ++ x :: S)).getD P.length e0 = x.1 := by
  rw [elsL_mid, List.getD_eq_getElem?_getD, List.getElem?_append_right (by rw [elsL_len]; exact Nat.le_refl _), elsL_len]
  simp
theorem Stock.set0 {w : World} {B g n cap : Nat} {P S : Lr} {x : El × Rc} (h : Stock w B (.slice (some ⟨g, 0, none⟩) n cap) (P ++ x :: S)) (hn : n = (P ++ x :: S).length) {j : Nat} (hj : j = P.length) (k : Int) :
    Stock (w.setCell ⟨g, j * 3, none⟩ (.int .i64 k)) B (.slice (some ⟨g, 0, none⟩) n cap) (P ++ ((k, x.1.2), (k, x.2.2)) :: S) := by
  subst hj
  have hlen : P.length < (elsL (P ++ x :: S)).length := by rw [elsL_len]; simp
  have ho := h.row.set0 (by rw [elsL_len]; exact hn) hlen k
  rw [elsL_getmid, elsL_mid, List.set_append, if_neg (by rw [elsL_len]; omega), elsL_len, Nat.sub_self, List.set_cons_zero] at ho
  have hx : x ∈ P ++ x :: S := by simp
  have oth : ∀ i, i ≠ g → (w.setCell ⟨g, P.length * 3, none⟩ (.int .i64 k)).heap[i]? = w.heap[i]? := fun i hi => Below.heap_setCell w _ _ i (by simpa using hi)
  obtain ⟨_, a1, a2, _⟩ := h.own x hx
  refine h.upd _ rfl (by rw [elsL_mid]; exact ho) ⟨rfl, a1.keep fun i e => oth i ?_, a2.keep fun i e => oth i ?_⟩ ?_
  · rintro rfl; exact (h.out x hx).1 _ rfl e
  · rintro rfl; exact (h.out x hx).2 _ rfl e
  · intro z hz i e
    have hz2 : z ∈ P ++ x :: S := by
      rcases List.mem_append.1 hz with hz | hz <;> simp [hz]
    refine oth i ?_
    rintro rfl
    rcases e with e | e
    · exact (h.out z hz2).1 _ rfl e
    · exact (h.out z hz2).2 _ rfl e
theorem Stock.mark1 {w w' : World} {B : Nat} {v : Value} {P S : Lr} {e : El} {r : Rc} (h : Stock w B v (P ++ (e, r) :: S)) {xs : List Int} (ho : OwnI w' B e.2.1 xs) (ht : Turned w w' (rowL e.2.1)) : Stock w' B v (P ++ (e, (r.1, xs, r.2.2)) :: S) := by
  have hx : (e, r) ∈ P ++ (e, r) :: S := by simp
  have hr := (h.row.turned ht fun k e1 e2 => (h.out _ hx).1 k e1 (mem_rowL.1 e2))
  obtain ⟨a0, a1, a2, a3⟩ := h.own _ hx
  refine h.upd (e, (r.1, xs, r.2.2)) rfl (by rw [elsL_mid] at hr ⊢; exact hr) ⟨a0, ho, a2.turned ht fun k e1 e2 => a3 k (mem_rowL.1 e2) e1⟩ ?_
  intro z hz i ei
  obtain ⟨s1, s2, _, _⟩ := h.sep z hz
  have hz2 : z ∈ P ++ (e, r) :: S := by
    rcases List.mem_append.1 hz with hz | hz <;> simp [hz]
  obtain ⟨_, b1, b2, _⟩ := h.own z hz2
  rcases ei with ei | ei
  · exact ht.block i (b1.lt i ei).2 fun e2 => s1 i (mem_rowL.1 e2) ei
  · exact ht.block i (b2.lt i ei).2 fun e2 => s2 i (mem_rowL.1 e2) ei
theorem Stock.mark2 {w w' : World} {B : Nat} {v : Value} {P S : Lr} {e : El} {r : Rc} (h : Stock w B v (P ++ (e, r) :: S)) {xs : List Int} (ho : OwnI w' B e.2.2 xs) (ht : Turned w w' (rowL e.2.2)) : Stock w' B v (P ++ (e, (r.1, r.2.1, xs)) :: S) := by
  have hx : (e, r) ∈ P ++ (e, r) :: S := by simp
  have hr := (h.row.turned ht fun k e1 e2 => (h.out _ hx).2 k e1 (mem_rowL.1 e2))
  obtain ⟨a0, a1, a2, a3⟩ := h.own _ hx
  refine h.upd (e, (r.1, r.2.1, xs)) rfl (by rw [elsL_mid] at hr ⊢; exact hr) ⟨a0, a1.turned ht fun k e1 e2 => a3 k e1 (mem_rowL.1 e2), ho⟩ ?_
  intro z hz i ei
  obtain ⟨_, _, s1, s2⟩ := h.sep z hz
  have hz2 : z ∈ P ++ (e, r) :: S := by
    rcases List.mem_append.1 hz with hz | hz <;> simp [hz]
  obtain ⟨_, b1, b2, _⟩ := h.own z hz2
  rcases ei with ei | ei
  · exact ht.block i (b1.lt i ei).2 fun e2 => s1 i (mem_rowL.1 e2) ei
  · exact ht.block i (b2.lt i ei).2 fun e2 => s2 i (mem_rowL.1 e2) ei
theorem turned_set9 (w : World) (g j : Nat) (v : Value) : Turned w (w.setCell ⟨g, j, none⟩ v) [g] := by
  have hbs : Below g w (w.setCell ⟨g, j, none⟩ v) := (Below.refl g w).setCell (p := ⟨g, j, none⟩) (Nat.le_refl g) _
  exact ⟨hbs.os, hbs.tape, hbs.output, hbs.size, fun i _ hi => Below.heap_setCell w _ _ i (by simpa using hi)⟩

set_option maxHeartbeats 1000000 in
theorem markStk_any (v : Value) (L : Lr) (k : Int) (B : Nat) (w : World) (h : Stock w B v L) (hn : L.length ≤ 196) (hs : ∀ x ∈ L, x.2.2.1.length ≤ 64 ∧ x.2.2.2.length ≤ 64) (hk0 : 0 ≤ k) (hk1 : k ≤ 1048576) :
    Calls Try.prog 32 #[v, .int .i64 k] w fun e w' => e = .returned (.int .i64 (kS k L)) ∧ Stock w' B v (mkS k L) ∧ Turned w w' (stkL v L) := by
  by_cases h0 : L = []
  · subst h0
    obtain ⟨A, c, rfl⟩ := h.row.form
    go_enter Try.func32, Try.ntmps32
    go_wp2
    go_loop [1, 5] (fun m i => i = .int .i64 0 ∧ m = .int .i64 k) (fun _ _ => 0)
    case atStart => exact ⟨rfl, rfl⟩
    case round =>
      obtain ⟨rfl, rfl⟩ := hrel
      go_wp2
      go_ret
      exact ⟨rfl, h, Turned.refl _ _⟩
  · have hl0 : 0 < L.length := List.length_pos_iff.2 h0
    obtain ⟨A, c, rfl⟩ := h.row.form
    obtain ⟨g, rfl, _⟩ := h.row.at_ (k := 0) (by rw [elsL_len]; exact hl0)
    have hel := elsL_len L
    rw [hel] at h ⊢
    clear hel
    have HS := Lib.hid hs
    clear hs
    go_enter Try.func32, Try.ntmps32
    go_wp2
    go_loopw [1, 5] (fun m i wr => ∃ (j : Nat), j ≤ L.length ∧ i = .int .i64 j ∧ m = .int .i64 (kS k (L.take j)) ∧ Stock wr B (.slice (some ⟨g, 0, none⟩) L.length c) (mkS k (L.take j) ++ L.drop j) ∧ Turned w wr (stkL (.slice (some ⟨g, 0, none⟩) L.length c) L)) (fun _ i _ => L.length - (intOf i).toNat)
    case atStart => exact ⟨0, Nat.zero_le _, rfl, by simp [kS], by simpa [mkS] using h, Turned.refl _ _⟩
    case round =>
      obtain ⟨j, hj, rfl, rfl, hown, hgr⟩ := hrel
      by_cases hlt : j < L.length
      · obtain ⟨x, hx, hmem⟩ := lr_get hlt
        obtain ⟨b1, b2⟩ := HS.out x hmem
        have hkl := kS_le k (L.take j) (fun y hy => HS.out y (List.mem_of_mem_take hy))
        have htl : (L.take j).length ≤ 196 := by simp; omega
        have hlen : (mkS k (L.take j) ++ L.drop j).length = L.length := by simp [mkS_len]; omega
        have hpl : j = (mkS k (L.take j)).length := by simp [mkS_len]; omega
        have hts := take_get hx
        have hkn := kS_snoc k (L.take j) x
        have hmn := mkS_snoc k (L.take j) x
        rw [← hts] at hkn hmn
        rw [drop_get hx] at hown hlen
        obtain ⟨_, e, _, ⟨a0, _, _⟩, fz⟩ := hown.row.at_ (k := j) (by rw [elsL_len]; omega)
        obtain rfl : g = _ := by injection e with e; injection e
        have gm := elsL_getmid (mkS k (L.take j)) (L.drop (j + 1)) x
        rw [← hpl] at gm
        rw [gm] at a0
        have f0 := fz (j * 3)
        have o1 := hown.set0 hlen.symm hpl (kS k (L.take j))
        have t1 := turned_set9 wr g (j * 3) (.int .i64 (kS k (L.take j)))
        obtain ⟨_, e, _, ⟨_, c1, c2⟩, _⟩ := o1.row.at_ (k := j) (by rw [elsL_len]; simp at hlen ⊢; omega)
        obtain rfl : g = _ := by injection e with e; injection e
        have gm1 := elsL_getmid (mkS k (L.take j)) (L.drop (j + 1)) ((kS k (L.take j), x.1.2), (kS k (L.take j), x.2.2))
        rw [← hpl] at gm1
        rw [gm1] at c1 c2
        dsimp only at c1 c2
        obtain ⟨⟨sx, v1, v2⟩, ⟨rx, us, vs⟩⟩ := x
        dsimp only at *
        generalize hkk : kS k (L.take j) = kk at *
        have hPl : (mkS k (L.take j)).length = j := hpl.symm
        generalize mkS k (L.take j) = Pm at *
        obtain ⟨_, y1, y2, y3⟩ := o1.own ((kk, v1, v2), (kk, us, vs)) (by simp)
        dsimp only at y1 y2 y3
        obtain ⟨A1, d1, e1, _⟩ := y1.form
        obtain ⟨A2, d2, e2, _⟩ := y2.form
        subst e1 e2
        have t2 := hgr.trans (t1.more (fun i hi => stkL_v (L := L) (v := .slice (some ⟨g, 0, none⟩) L.length c) (by obtain rfl := List.mem_singleton.1 hi; exact mem_rowL.2 rfl)))
        have D1 := Lib.hid (fun (w1 : World) (ht : Turned (wr.setCell ⟨g, j * 3, none⟩ (.int .i64 kk)) w1 (rowL (.slice A1 us.length d1))) => t2.trans (ht.more (fun i hi => stkL_1 (v := .slice (some ⟨g, 0, none⟩) L.length c) hmem hi)))
        have D2 := Lib.hid (fun (w1 w2 : World) (ht : Turned w w1 (stkL (.slice (some ⟨g, 0, none⟩) L.length c) L)) (h2 : Turned w1 w2 (rowL (.slice A2 vs.length d2))) => ht.trans (h2.more (fun i hi => stkL_2 (v := .slice (some ⟨g, 0, none⟩) L.length c) hmem hi)))
        have HO1 := Lib.hid o1
        have HR := Lib.hid (And.intro hkn hmn)
        have HK := Lib.hid (And.intro hkl htl)
        clear t1 t2 hgr hown hkn hmn hts hx gm gm1 fz hlen o1 hmem hpl
        have hb64 : us.length ≤ 64 ∧ vs.length ≤ 64 := ⟨b1, b2⟩
        have hkr : 0 ≤ kk ∧ kk ≤ 1100000 := by have := HK.out; omega
        clear b1 b2
        go_wp2_with fail
        refine (markI_new _ us (kk + 1) B _ y1 (by omega) (by omega) (by omega)).mono ?_
        rintro e w1 ⟨rfl, m1, tt1⟩
        have s1 := HO1.out.mark1 (P := Pm) m1 tt1
        obtain ⟨_, e, _, ⟨_, _, c22⟩, _⟩ := s1.row.at_ (k := j) (by rw [elsL_len]; simp; omega)
        obtain rfl : g = _ := by injection e with e; injection e
        have gm2 := elsL_getmid Pm (L.drop (j + 1)) ((kk, .slice A1 us.length d1, .slice A2 vs.length d2), (kk, marksL (kk + 1) us.length, vs))
        rw [hPl] at gm2
        rw [gm2] at c22
        dsimp only at c22
        obtain ⟨_, _, y22, _⟩ := s1.own ((kk, .slice A1 us.length d1, .slice A2 vs.length d2), (kk, marksL (kk + 1) us.length, vs)) (by simp)
        dsimp only at y22
        have HS1 := Lib.hid s1
        have tt := D1.out w1 tt1
        clear s1 c1 c2 tt1 m1 gm2 y1 y2 a0 f0
        go_wp2_with fail
        refine (markI_new _ vs (kk + 1 + us.length) B _ y22 (by omega) (by omega) (by omega)).mono ?_
        rintro e w2 ⟨rfl, m2, tt2⟩
        have s2 := HS1.out.mark2 (P := Pm) m2 tt2
        have ht := D2.out w1 w2 tt tt2
        go_wp2_with fail
        go_roundw
        case rel => exact ⟨j + 1, by omega, by go_num, by rw [HR.out.1], by rw [HR.out.2, List.append_assoc]; exact s2, ht⟩
        case measure => simp [intOf]; omega
      · obtain rfl : j = L.length := by omega
        rw [List.take_length, List.drop_length, List.append_nil] at hown
        rw [List.take_length]
        go_wp2
        go_ret
        exact ⟨rfl, hown, hgr⟩

set_option maxHeartbeats 1000000 in
theorem heldStk_any (v : Value) (L : Lr) (k : Int) (B : Nat) (w : World) (h : Stock w B v (mkS k L)) (hn : L.length ≤ 196) (hs : ∀ x ∈ L, x.2.2.1.length ≤ 64 ∧ x.2.2.2.length ≤ 64) (hk0 : 0 ≤ k) (hk1 : k ≤ 1048576) :
    Calls Try.prog 33 #[v, .int .i64 k] w fun e w' => e = .returned (.int .i64 (kS k L)) ∧ w = w' := by
  obtain ⟨A, c, rfl⟩ := h.row.form
  rw [elsL_len, mkS_len] at h ⊢
  have HO := Lib.hid h
  have HS := Lib.hid hs
  clear hs h
  go_enter Try.func33, Try.ntmps33
  go_wp2
  go_loop [1, 5] (fun m i => ∃ (j : Nat), j ≤ L.length ∧ i = .int .i64 j ∧ m = .int .i64 (kS k (L.take j))) (fun _ i => L.length - (intOf i).toNat)
  case atStart => exact ⟨0, Nat.zero_le _, rfl, by simp [kS]⟩
  case round =>
    obtain ⟨j, hj, rfl, rfl⟩ := hrel
    by_cases hlt : j < L.length
    · obtain ⟨x, hx, hmem⟩ := lr_get hlt
      obtain ⟨b1, b2⟩ := HS.out x hmem
      have hkl := kS_le k (L.take j) (fun y hy => HS.out y (List.mem_of_mem_take hy))
      have htl : (L.take j).length ≤ 196 := by simp; omega
      have hkn := kS_snoc k (L.take j) x
      rw [← take_get hx] at hkn
      have hg := mkS_get k hx
      obtain ⟨g, rfl, _, ⟨a0, a1, a2⟩, _⟩ := HO.out.row.at_ (k := j) (by rw [elsL_len, mkS_len]; exact hlt)
      rw [elsL_get hg] at a0 a1 a2
      obtain ⟨_, y1, y2, _⟩ := HO.out.own _ (List.mem_of_getElem? hg)
      obtain ⟨⟨sx, v1, v2⟩, ⟨rx, us, vs⟩⟩ := x
      dsimp only [mk1] at *
      generalize hkk : kS k (L.take j) = kk at *
      have hkr : 0 ≤ kk ∧ kk ≤ 1100000 := by omega
      have HR := Lib.hid hkn
      clear hkn hg hx hmem hkl htl hkk
      obtain ⟨A1, d1, e1, _⟩ := y1.form
      obtain ⟨A2, d2, e2, _⟩ := y2.form
      rw [marksL_length] at e1 e2
      subst e1 e2
      go_wp2_with fail
      refine (heldIntS_any _ us.length (kk + 1) B _ y1 (by omega) (by omega) (by omega)).mono ?_
      rintro e w1 ⟨rfl, rfl⟩
      go_wp2_with fail
      refine (heldIntS_any _ vs.length (kk + 1 + us.length) B _ y2 (by omega) (by omega) (by omega)).mono ?_
      rintro e w1 ⟨rfl, rfl⟩
      go_wp2_with fail
      go_round
      case rel => exact ⟨j + 1, by omega, by go_num, by rw [HR.out]⟩
      case measure => simp [intOf]; omega
    · obtain rfl : j = L.length := by omega
      rw [List.take_length]
      go_wp2
      go_ret
      exact ⟨rfl, rfl⟩

set_option maxHeartbeats 1000000 in
theorem eqStk_any (A A' : Option Addr) (c c' : Nat) (L L' : Lr) (w : World) (h : RdE w w.heap.size A c (elsL L)) (h' : RdE w w.heap.size A' c' (elsL L')) (hall : ∀ x ∈ L, StE w w.heap.size x.1 x.2) (hall' : ∀ x ∈ L', StE w w.heap.size x.1 x.2) (he : recL L = recL L') (hn : L.length ≤ 1048576) :
    Calls Try.prog 30 #[.slice A L.length c, .slice A' L'.length c'] w fun e w' => e = .returned (.bool true) ∧ Below w.heap.size w w' := by
  have hl : L'.length = L.length := by rw [← recL_len, ← recL_len, he]
  rw [hl]
  have HO := Lib.hid h
  have HO' := Lib.hid h'
  have HA := Lib.hid hall
  have HA' := Lib.hid hall'
  clear h h' hall hall'
  go_enter Try.func30, Try.ntmps30
  go_wp2_with fail
  go_loopw [5] (fun i wr => ∃ k : Nat, k ≤ L.length ∧ i = .int .i64 k ∧ Below w.heap.size w wr) (fun i _ => L.length - (intOf i).toNat)
  case atStart => exact ⟨0, Nat.zero_le _, rfl, Below.refl _ _⟩
  case round =>
    obtain ⟨k, hk, rfl, hbw⟩ := hrel
    have hz : w.heap.size ≤ wr.heap.size := hbw.size
    by_cases hlt : k < L.length
    · obtain ⟨x, hx, hmem⟩ := lr_get hlt
      obtain ⟨x', hx', hmem'⟩ := lr_get (hl ▸ hlt)
      have hxx : x.2 = x'.2 := by
        have e1 : (recL L)[k]? = some x.2 := by simp [recL, hx]
        have e2 : (recL L')[k]? = some x'.2 := by simp [recL, hx']
        rw [he, e2] at e1
        exact (Option.some.inj e1).symm
      obtain ⟨g, o, rfl, hg, a0, a1, a2⟩ := (HO.out.below hbw (Nat.le_refl _)).2 k (by rw [elsL_len]; exact hlt)
      obtain ⟨g', o', rfl, hg', d0, d1, d2⟩ := (HO'.out.below hbw (Nat.le_refl _)).2 k (by rw [elsL_len, hl]; exact hlt)
      rw [elsL_get hx] at a0 a1 a2
      rw [elsL_get hx'] at d0 d1 d2
      obtain ⟨z0, A1, A2, c1, c2, q1, q2, S1⟩ := (HA.out x hmem).below hbw (Nat.le_refl _)
      obtain ⟨z0', D1, D2, f1, f2, q1', q2', S2⟩ := (HA'.out x' hmem').below hbw (Nat.le_refl _)
      rw [z0] at a0
      rw [q1] at a1
      rw [q2] at a2
      rw [z0', ← hxx] at d0
      rw [q1', ← hxx] at d1
      rw [q2', ← hxx] at d2
      rw [← hxx] at S2
      obtain ⟨_, ⟨st, us, vs⟩⟩ := x
      dsimp only at *
      clear q1 q2 q1' q2' z0 z0' hx hx' hmem hmem' hxx
      have T1 := Lib.hid S1
      have T2 := Lib.hid S2
      clear S1 S2
      go_wp2_with fail
      go_region_with (refine (eqStairs_any st st _ _ _ _ _ _ _ _ us vs us vs w.heap.size wr.drew T1.out.drew T2.out.drew hz).mono ?_; rintro e w1 ⟨rfl, hb1⟩; rw [eqSt_self])
      all_goals
        go_wp2_with fail
        go_roundw
        case rel => exact ⟨k + 1, by omega, by go_num, hbw.trans ((below_undrew hb1).mono hz)⟩
        case measure => simp [intOf]; omega
    · obtain rfl : k = L.length := by omega
      go_wp2
      go_ret
      exact ⟨rfl, hbw⟩

end Go.Proofs.Ytmiojofeoaocfaa
