/- Lists of clues (structs of three numbers) as a call's own rows; the laws' own helpers over them. -/
import Derived.Test.YtohimcljobpkjaaDoorKit
import Derived.Deep.RegionHeld3
import Derived.Deep.RegionWith
import Derived.Deep.Slices
import Derived.Deep.Strs
namespace Go.Proofs.YtohimcljobpkjaaDoor
open Go.RowKit
set_option maxRecDepth 100000

set_option maxHeartbeats 400000 in
theorem toClue_any (x y z : Int) (w : World) :
    Calls Tryd.prog 29 #[.agg #[.int .i64 x, .int .i64 y, .int .i64 z]] w fun e w' => e = .returned (.agg #[.int .i64 x, .int .i64 y, .int .i64 z]) ∧ Below w.heap.size w w' := by
  go_enter Tryd.func29, Tryd.ntmps29
  go_wp2_with fail
  refine bodyPost_ret (v := .agg #[.int .i64 x, .int .i64 y, .int .i64 z]) (by simp [results, Tryd.results29, go_sem]) rfl ⟨rfl, ?_⟩
  exact (((Below.refl _ _).alloc (Nat.le_refl _) _).alloc (by simp) _).alloc (by simp; omega) _
set_option maxHeartbeats 400000 in
theorem eqClue_same (x y z : Int) (w : World) :
    Calls Tryd.prog 35 #[.agg #[.int .i64 x, .int .i64 y, .int .i64 z], .agg #[.int .i64 x, .int .i64 y, .int .i64 z]] w fun e w' => e = .returned (.bool true) ∧ Below w.heap.size w w' := by
  go_enter Tryd.func35, Tryd.ntmps35
  go_wp2_with fail
  go_ret
  exact ⟨rfl, (below_alloc _ _).alloc (by simp) _⟩
/-- The value is a slice of clues that reads as ps; its cells lie below block B. -/
def RdF (w : World) (B : Nat) (A : Option Addr) (c : Nat) (ps : List (Int × Int × Int)) : Prop :=
  ps.length ≤ c ∧ ∀ k, k < ps.length → ∃ b o, A = some ⟨b, o, none⟩ ∧ b < B ∧ w.cell? ⟨b, o + k * 3, none⟩ = some (.int .i64 (ps.getD k (0, 0, 0)).1) ∧ w.cell? ⟨b, o + k * 3 + 1, none⟩ = some (.int .i64 (ps.getD k (0, 0, 0)).2.1) ∧ w.cell? ⟨b, o + k * 3 + 2, none⟩ = some (.int .i64 (ps.getD k (0, 0, 0)).2.2)
theorem RdF.below {w w' : World} {B B' : Nat} {A : Option Addr} {c : Nat} {xs : List (Int × Int × Int)} (h : RdF w B A c xs) (hb : Below B' w w') (hB : B ≤ B') : RdF w' B A c xs :=
  ⟨h.1, fun k hx => by
    obtain ⟨b, o, e, hlt, h0, h1, h2⟩ := h.2 k hx
    have hk := fun i => hb.cell (p := ⟨b, i, none⟩) (Nat.lt_of_lt_of_le hlt hB)
    exact ⟨b, o, e, hlt, (hk _).trans h0, (hk _).trans h1, (hk _).trans h2⟩⟩
theorem RdF.more {w : World} {B B' : Nat} {A : Option Addr} {c : Nat} {xs : List (Int × Int × Int)} (h : RdF w B A c xs) (hB : B ≤ B') : RdF w B' A c xs :=
  ⟨h.1, fun k hx => by
    obtain ⟨b, o, e, hlt, r⟩ := h.2 k hx
    exact ⟨b, o, e, by omega, r⟩⟩
theorem RdF.nil {w : World} {B : Nat} {A : Option Addr} {c : Nat} : RdF w B A c [] := ⟨by simp, fun k hk => absurd hk (by simp)⟩
theorem RdF.turned {w w' : World} {B : Nat} {A : Option Addr} {c : Nat} {xs : List (Int × Int × Int)} {L : List Nat} (h : RdF w B A c xs) (hb : Turned w w' L) (hB : B ≤ w.heap.size) (hL : ∀ k ∈ L, B ≤ k) : RdF w' B A c xs :=
  h.below (hb.below hB hL) (Nat.le_refl _)
abbrev pzv (A : Option Addr) (n c : Nat) : Value := .agg #[.slice A n c]

abbrev Tri := Int × Int × Int
def z3 : Tri := (0, 0, 0)
def cellsF : List Tri → List Value
  | [] => []
  | p :: r => .int .i64 p.1 :: .int .i64 p.2.1 :: .int .i64 p.2.2 :: cellsF r
theorem cellsF_app : ∀ ps qs, cellsF (ps ++ qs) = cellsF ps ++ cellsF qs
  | [], _ => rfl
  | p :: r, qs => by simp [cellsF, cellsF_app r qs]
theorem cellsF_at : ∀ (ps : List Tri) (k : Nat), k < ps.length → (cellsF ps)[k * 3]? = some (.int .i64 (ps.getD k z3).1) ∧ (cellsF ps)[k * 3 + 1]? = some (.int .i64 (ps.getD k z3).2.1) ∧ (cellsF ps)[k * 3 + 2]? = some (.int .i64 (ps.getD k z3).2.2)
  | [], k, h => absurd h (by simp)
  | p :: r, 0, _ => by simp [cellsF]
  | p :: r, k + 1, h => by
    have := cellsF_at r k (by simpa using h)
    rw [show (k + 1) * 3 = ((k * 3 + 1) + 1) + 1 by omega]
    simp only [cellsF, List.getElem?_cons_succ, List.getD_cons_succ]
    exact ⟨this.1, this.2.1, this.2.2⟩
theorem cellsF_len : ∀ ps : List Tri, (cellsF ps).length = ps.length * 3
  | [] => rfl
  | p :: r => by simp [cellsF, cellsF_len r]; omega
theorem fl_info : (Tryd.prog.info? 44).map (fun i => (i.zero, i.size, i.bytes)) = some (some (.agg #[.int .i64 0, .int .i64 0, .int .i64 0]), 3, 24) := by kernel_rfl
/-- a row of clues of the call's own -/
def OwnF (w : World) (B : Nat) (v : Value) (ps : List Tri) : Prop := w.ownsRow B 44 3 v ps.length (cellsF ps)
theorem OwnF.nil (w : World) (B : Nat) : OwnF w B (.slice none 0 0) [] := World.ownsRow_nil _ _ _ _
theorem OwnF.alloc {w : World} {B : Nat} {v : Value} {ps : List Tri} (h : OwnF w B v ps) (o : Obj) : OwnF (w.alloc o) B v ps := World.ownsRow.alloc h o
theorem OwnF.drew1 {w : World} {B : Nat} {v : Value} {ps : List Tri} (h : OwnF w B v ps) : OwnF w.drew B v ps := h
theorem OwnF.lt {w : World} {B : Nat} {v : Value} {ps : List Tri} (h : OwnF w B v ps) : ∀ k, v.ownBlock = some k → B ≤ k ∧ k < w.heap.size := World.ownsRow.lt h
theorem OwnF.below {w w' : World} {B B' : Nat} {v : Value} {xs : List Tri} (h : OwnF w B v xs) (hb : Below B' w w') (hB : w.heap.size ≤ B') : OwnF w' B v xs := by
  refine ⟨h.1, ?_⟩
  rcases h.2 with h0 | ⟨g, cap, cur, rfl, hg, hh, r⟩
  · exact .inl h0
  · exact .inr ⟨g, cap, cur, rfl, hg, by rw [hb.block g (Nat.lt_of_lt_of_le (Array.getElem?_eq_some_iff.1 hh).1 hB)]; exact hh, r⟩
theorem OwnF.mono {w : World} {B B' : Nat} {v : Value} {xs : List Tri} (h : OwnF w B v xs) (hB : B' ≤ B) : OwnF w B' v xs := by
  refine ⟨h.1, ?_⟩
  rcases h.2 with h0 | ⟨g, cap, cur, rfl, hg, r⟩
  · exact .inl h0
  · exact .inr ⟨g, cap, cur, rfl, by omega, r⟩
theorem OwnF.turned {w w' : World} {B : Nat} {v : Value} {xs : List Tri} {L : List Nat} (h : OwnF w B v xs) (hb : Turned w w' L) (hL : ∀ k, v.ownBlock = some k → k ∉ L) : OwnF w' B v xs := by
  refine ⟨h.1, ?_⟩
  rcases h.2 with h0 | ⟨g, cap, cur, rfl, hg, hh, r⟩
  · exact .inl h0
  · exact .inr ⟨g, cap, cur, rfl, hg, by rw [hb.block g (Array.getElem?_eq_some_iff.1 hh).1 (hL g rfl)]; exact hh, r⟩
theorem OwnF.form {w : World} {B : Nat} {v : Value} {xs : List Tri} (h : OwnF w B v xs) : ∃ A c, v = .slice A xs.length c := by
  rcases h.2 with ⟨rfl, h0⟩ | ⟨g, cap, cur, rfl, _⟩
  · exact ⟨none, 0, by rw [h0]⟩
  · exact ⟨_, _, rfl⟩
/-- what a place of the row holds -/
theorem OwnF.at_ {w : World} {B n c : Nat} {A : Option Addr} {ps : List Tri} (h : OwnF w B (.slice A n c) ps) {k : Nat} (hk : k < ps.length) :
    ∃ g, A = some ⟨g, 0, none⟩ ∧ g < w.heap.size ∧ (w.cell? ⟨g, k * 3, none⟩ = some (.int .i64 (ps.getD k z3).1) ∧ w.cell? ⟨g, k * 3 + 1, none⟩ = some (.int .i64 (ps.getD k z3).2.1) ∧ w.cell? ⟨g, k * 3 + 2, none⟩ = some (.int .i64 (ps.getD k z3).2.2)) ∧ (∀ j, w.frozen? ⟨g, j, none⟩ = false) := by
  rcases h.2 with ⟨hv, h0⟩ | ⟨g, cap, cur, hv, hg, hh, hc⟩
  · omega
  · injection hv with e1 e2 e3
    subst e1 e2 e3
    have e := cellsF_at ps k hk
    have l := cellsF_len ps
    refine ⟨g, rfl, (Array.getElem?_eq_some_iff.1 hh).1, ?_, fun j => World.ownsRow.frozenAt h j⟩
    rw [World.ownsRow.cellAt h (k * 3) (by omega), World.ownsRow.cellAt h (k * 3 + 1) (by omega), World.ownsRow.cellAt h (k * 3 + 2) (by omega)]
    exact e
def ListsF (w : World) (xs : List Tri) (ok : Bool) (e : Ending) (w' : World) : Prop :=
  ∃ v, e = .returned (.tuple #[v, .bool ok]) ∧ OwnF w' w.heap.size v xs ∧ Below w.heap.size w w'
theorem wpList_pushF (w : World) {ops : Array Oper} {rest : List Oper} {o : Oper} {a : Act} {Q : Exit → Act → World → Prop} (hgd : o.guard = none) (s x : Operand)
    (ho : o.op = .call { callee := .builtin .append, args := #[s, x], argTypes := #[28, 28] }) (B : Nat) (v : Value) (ps : List Tri) (hs : a.eval s = v) (hown : OwnF w B v ps)
    (g : Nat) (p : Tri) (hx : a.eval x = .slice (some ⟨g, 0, none⟩) 1 1) (hc : w.cell? ⟨g, 0, none⟩ = some (.int .i64 p.1)) (hc2 : w.cell? ⟨g, 1, none⟩ = some (.int .i64 p.2.1)) (hc3 : w.cell? ⟨g, 2, none⟩ = some (.int .i64 p.2.2)) (hn : ps.length ≤ 1048576) (hB : B ≤ w.heap.size)
    (h : ∀ v' w', OwnF w' B v' (ps ++ [p]) → Below B w w' → wpList Tryd.prog ops Q rest (a.put o.dst v') w') : wpList Tryd.prog ops Q (o :: rest) a w := by
  obtain ⟨i0, hi, hz, hsz, hby⟩ := info_parts fl_info
  refine wpList_append_own w hgd s x 28 ho B 44 i0 (.agg #[.int .i64 0, .int .i64 0, .int .i64 0]) 3 24 Tryd.underlying28 hi hz hsz hby rfl (by decide) v ps.length _ hs hown ⟨g, 0, none⟩ 1 1 [.int .i64 p.1, .int .i64 p.2.1, .int .i64 p.2.2] hx rfl ?_ ?_ ?_ ?_ hB ?_
  · intro j u hu
    match j with
    | 0 => simp at hu; subst hu; exact hc
    | 1 => simp at hu; subst hu; exact hc2
    | 2 => simp at hu; subst hu; exact hc3
    | j + 3 => simp at hu
  · simp [Value.oneCell']
  · simp only [maxLen]; omega
  · omega
  · intro v' w' h1 h2 _
    refine h v' w' ?_ ((Below.refl _ _).grown h2 hB (fun k hk => (hown.lt k hk).1))
    unfold OwnF
    rw [cellsF_app, List.length_append]
    simpa [cellsF] using h1

theorem OwnF.rd {w : World} {B n c : Nat} {A : Option Addr} {ps : List Tri} (h : OwnF w B (.slice A n c) ps) : RdF w w.heap.size A c ps := by
  refine ⟨?_, fun k hk => ?_⟩
  · rcases h.2 with ⟨hv, h0⟩ | ⟨g, cap, cur, hv, hg, hh, hc, _⟩
    · omega
    · injection hv with _ _ e; omega
  · obtain ⟨g, e, hg, ⟨h0, h1, h2⟩, _⟩ := h.at_ hk
    exact ⟨g, 0, e, hg, by rw [Nat.zero_add]; exact h0, by rw [Nat.zero_add]; exact h1, by rw [Nat.zero_add]; exact h2⟩
theorem blk_own {w : World} {g : Nat} {ps : List Tri} (h : Blk w g 44 (cellsF ps).toArray) (hn : ps.length ≤ 1048576) : OwnF w g (.slice (some ⟨g, 0, none⟩) ps.length ps.length) ps := by
  refine ⟨cellsF_len ps, .inr ⟨g, ps.length, (cellsF ps).toArray, rfl, Nat.le_refl _, h, Nat.le_refl _, by simp only [maxLen]; omega, by simp [cellsF_len], ?_⟩⟩
  simp [← cellsF_len]

set_option maxHeartbeats 1000000 in
theorem eqClueS_rd (A A' : Option Addr) (c c' : Nat) (ps : List Tri) (B B' : Nat) (w : World) (ho : RdF w B A c ps) (ho' : RdF w B' A' c' ps) (hB : B ≤ w.heap.size) (hB' : B' ≤ w.heap.size) (hn : ps.length ≤ 1048576) :
    Calls Tryd.prog 21 #[.slice A ps.length c, .slice A' ps.length c'] w fun e w' => e = .returned (.bool true) ∧ Below w.heap.size w w' := by
  have HO := Lib.hid ho
  have HO' := Lib.hid ho'
  clear ho ho'
  go_enter Tryd.func21, Tryd.ntmps21
  go_wp2_with fail
  go_loopw [5] (fun i wr => ∃ k : Nat, k ≤ ps.length ∧ i = .int .i64 k ∧ Below w.heap.size w wr) (fun i _ => ps.length - (intOf i).toNat)
  case atStart => exact ⟨0, Nat.zero_le _, rfl, Below.refl _ _⟩
  case round =>
    obtain ⟨k, hk, rfl, hbw⟩ := hrel
    have hz : w.heap.size ≤ wr.heap.size := hbw.size
    by_cases hlt : k < ps.length
    · obtain ⟨g, o, rfl, hg, a0, a1, a2⟩ := (HO.out.below hbw hB).2 k hlt
      obtain ⟨g', o', rfl, hg', d0, d1, d2⟩ := (HO'.out.below hbw hB').2 k hlt
      generalize (ps.getD k (0, 0, 0)).1 = x at *
      generalize (ps.getD k (0, 0, 0)).2.1 = y at *
      generalize (ps.getD k (0, 0, 0)).2.2 = z at *
      go_wp2_with fail
      go_region_with (refine (eqClue_same x y z _).mono ?_; rintro e w1 ⟨rfl, hb1⟩)
      all_goals
        go_wp2_with fail
        go_roundw
        case rel => exact ⟨k + 1, by omega, by go_num, hbw.trans ((below_undrew hb1).mono hz)⟩
        case measure => simp [intOf]; omega
    · obtain rfl : k = ps.length := by omega
      go_wp2
      go_ret
      exact ⟨rfl, hbw⟩

theorem cellsF_set : ∀ (ps : List Tri) (k : Nat) (v : Int), k < ps.length →
    (cellsF ps).set (k * 3) (.int .i64 v) = cellsF (ps.set k (v, (ps.getD k z3).2.1, (ps.getD k z3).2.2)) ∧ (cellsF ps).set (k * 3 + 1) (.int .i64 v) = cellsF (ps.set k ((ps.getD k z3).1, v, (ps.getD k z3).2.2)) ∧ (cellsF ps).set (k * 3 + 2) (.int .i64 v) = cellsF (ps.set k ((ps.getD k z3).1, (ps.getD k z3).2.1, v))
  | [], k, v, h => absurd h (by simp)
  | p :: r, 0, v, _ => by simp [cellsF]
  | p :: r, k + 1, v, h => by
    have := cellsF_set r k v (by simpa using h)
    rw [show (k + 1) * 3 = ((k * 3 + 1) + 1) + 1 by omega]
    simp only [cellsF, List.set_cons_succ, List.getD_cons_succ, this.1, this.2.1, this.2.2]
    simp
theorem OwnF.set {w : World} {B g n cap : Nat} {ps : List Tri} (h : OwnF w B (.slice (some ⟨g, 0, none⟩) n cap) ps) (hn : n = ps.length) {k : Nat} (hk : k < ps.length) (v : Int) :
    OwnF (w.setCell ⟨g, k * 3, none⟩ (.int .i64 v)) B (.slice (some ⟨g, 0, none⟩) n cap) (ps.set k (v, (ps.getD k z3).2.1, (ps.getD k z3).2.2)) ∧ OwnF (w.setCell ⟨g, k * 3 + 1, none⟩ (.int .i64 v)) B (.slice (some ⟨g, 0, none⟩) n cap) (ps.set k ((ps.getD k z3).1, v, (ps.getD k z3).2.2)) ∧ OwnF (w.setCell ⟨g, k * 3 + 2, none⟩ (.int .i64 v)) B (.slice (some ⟨g, 0, none⟩) n cap) (ps.set k ((ps.getD k z3).1, (ps.getD k z3).2.1, v)) := by
  subst hn
  obtain ⟨e0, e1, e2⟩ := cellsF_set ps k v hk
  refine ⟨?_, ?_, ?_⟩
  · unfold OwnF; rw [← e0, List.length_set]; exact (World.ownsRow.stored h _ _).1
  · unfold OwnF; rw [← e1, List.length_set]; exact (World.ownsRow.stored h _ _).1
  · unfold OwnF; rw [← e2, List.length_set]; exact (World.ownsRow.stored h _ _).1
def marksT (k : Int) : Nat → List Tri
  | 0 => []
  | n + 1 => (k, k + 1, k + 2) :: marksT (k + 3) n
theorem marksT_length : ∀ (k : Int) (n : Nat), (marksT k n).length = n
  | _, 0 => rfl
  | k, n + 1 => by simp [marksT, marksT_length (k + 3) n]
theorem marksT_get : ∀ (k : Int) (n j : Nat), j < n → (marksT k n).getD j z3 = (k + 3 * j, k + 3 * j + 1, k + 3 * j + 2)
  | _, 0, j, h => by omega
  | k, n + 1, 0, _ => by simp [marksT]
  | k, n + 1, j + 1, h => by
    have := marksT_get (k + 3) n j (by omega)
    simp only [marksT, List.getD_cons_succ, this]
    congr 1
    · push_cast; omega
    · congr 1 <;> (push_cast; omega)
theorem marksT_snoc : ∀ (k : Int) (n : Nat), marksT k (n + 1) = marksT k n ++ [(k + 3 * n, k + 3 * n + 1, k + 3 * n + 2)]
  | k, 0 => by simp [marksT]
  | k, n + 1 => by
    rw [marksT, marksT_snoc (k + 3) n, marksT]
    simp only [List.cons_append]
    congr 3
    congr 1
    · push_cast; omega
    · congr 1 <;> (push_cast; omega)
def markT (k : Int) (j : Nat) (xs : List Tri) : List Tri := marksT k j ++ xs.drop j
theorem markT_length {k : Int} {j : Nat} {xs : List Tri} (h : j ≤ xs.length) : (markT k j xs).length = xs.length := by
  simp [markT, marksT_length]; omega
theorem markT_set {k : Int} {j : Nat} {xs : List Tri} (h : j < xs.length) : (markT k j xs).set j (k + 3 * j, k + 3 * j + 1, k + 3 * j + 2) = markT k (j + 1) xs := by
  unfold markT
  rw [List.set_append, if_neg (by rw [marksT_length]; omega), marksT_length, Nat.sub_self, List.drop_eq_getElem_cons h, marksT_snoc, List.set_cons_zero, List.append_assoc]
  rfl
theorem markT_set' {k : Int} {j : Nat} {xs : List Tri} (h : j < xs.length) : (markT k j xs).set j (k + 3 * j, k + 3 * j + 1, k + 3 * j + 1 + 1) = markT k (j + 1) xs := by
  rw [show k + 3 * (j : Int) + 1 + 1 = k + 3 * j + 2 by omega]; exact markT_set h
theorem turned_set1 (w : World) (g j : Nat) (v : Value) : Turned w (w.setCell ⟨g, j, none⟩ v) [g] := by
  have hbs : Below g w (w.setCell ⟨g, j, none⟩ v) := (Below.refl g w).setCell (p := ⟨g, j, none⟩) (Nat.le_refl g) _
  exact ⟨hbs.os, hbs.tape, hbs.output, hbs.size, fun i _ hi => Below.heap_setCell w _ _ i (by simpa using hi)⟩
theorem set_set {xs : List Tri} {k : Nat} (hk : k < xs.length) (a b : Tri) : (xs.set k a).set k b = xs.set k b ∧ (xs.set k a).getD k z3 = a := by
  simp [List.getD_eq_getElem?_getD, hk]

set_option maxHeartbeats 1000000 in
theorem markFl_new (v : Value) (xs : List Tri) (k : Int) (B : Nat) (w : World) (ho : OwnF w B v xs) (hn : xs.length ≤ 1048576) (hk0 : 0 ≤ k) (hk1 : k ≤ 4194304) :
    Calls Tryd.prog 25 #[v, .int .i64 k] w fun e w' => e = .returned (.int .i64 (k + 3 * (xs.length : Int))) ∧ OwnF w' B v (marksT k xs.length) ∧ Turned w w' (rowL v) := by
  by_cases h0 : xs.length = 0
  · have : xs = [] := List.eq_nil_of_length_eq_zero h0
    subst this
    obtain ⟨A, c, rfl⟩ := ho.form
    go_enter Tryd.func25, Tryd.ntmps25
    go_wp2
    go_loop [1, 5] (fun m i => i = .int .i64 0 ∧ m = .int .i64 k) (fun _ _ => 0)
    case atStart => exact ⟨rfl, rfl⟩
    case round =>
      obtain ⟨rfl, rfl⟩ := hrel
      go_wp2
      go_ret
      exact ⟨by simp, ho, Turned.refl _ _⟩
  · obtain ⟨A, c, rfl⟩ := ho.form
    obtain ⟨g, rfl, _⟩ := ho.at_ (k := 0) (by omega)
    go_enter Tryd.func25, Tryd.ntmps25
    go_wp2
    go_loopw [1, 5] (fun m i wr => ∃ (j : Nat), j ≤ xs.length ∧ i = .int .i64 j ∧ m = .int .i64 (k + 3 * (j : Int)) ∧ OwnF wr B (.slice (some ⟨g, 0, none⟩) xs.length c) (markT k j xs) ∧ Turned w wr [g]) (fun _ i _ => xs.length - (intOf i).toNat)
    case atStart => exact ⟨0, Nat.zero_le _, rfl, by simp, ho, Turned.refl _ _⟩
    case round =>
      obtain ⟨j, hj, rfl, rfl, hown, hgr⟩ := hrel
      have hl := markT_length (k := k) hj
      by_cases hlt : j < xs.length
      · obtain ⟨_, e, _, ⟨a0, _, _⟩, fz0⟩ := hown.at_ (k := j) (by omega)
        obtain rfl : g = _ := by injection e with e; injection e
        obtain ⟨o1, _, _⟩ := hown.set hl.symm (k := j) (by omega) (k + 3 * j)
        have E1 := fun b => set_set (xs := markT k j xs) (k := j) (by omega) ((k + 3 * j), ((markT k j xs).getD j z3).2.1, ((markT k j xs).getD j z3).2.2) b
        obtain ⟨_, e, _, ⟨_, a1, _⟩, fz1⟩ := o1.at_ (k := j) (by simp; omega)
        obtain rfl : g = _ := by injection e with e; injection e
        obtain ⟨_, o2, _⟩ := o1.set (by simp; omega) (k := j) (by simp; omega) (k + 3 * j + 1)
        rw [(E1 z3).2, (E1 _).1] at o2
        rw [(E1 z3).2] at a1
        have E2 := fun b => set_set (xs := markT k j xs) (k := j) (by omega) ((k + 3 * j), (k + 3 * j + 1), ((markT k j xs).getD j z3).2.2) b
        obtain ⟨_, e, _, ⟨_, _, a2⟩, fz2⟩ := o2.at_ (k := j) (by simp; omega)
        obtain rfl : g = _ := by injection e with e; injection e
        obtain ⟨_, _, o3⟩ := o2.set (by simp; omega) (k := j) (by simp; omega) (k + 3 * j + 1 + 1)
        rw [(E2 z3).2, (E2 _).1] at o3
        rw [(E2 z3).2] at a2
        dsimp only at o3 a1 a2
        rw [markT_set' hlt] at o3
        have f0 := fz0 (j * 3)
        have f1 := fz1 (j * 3 + 1)
        have f2 := fz2 (j * 3 + 2)
        have ht3 := ((hgr.trans (turned_set1 wr g (j * 3) (.int .i64 (k + 3 * j)))).trans (turned_set1 _ g (j * 3 + 1) (.int .i64 (k + 3 * j + 1)))).trans (turned_set1 _ g (j * 3 + 2) (.int .i64 (k + 3 * j + 1 + 1)))
        have HL := Lib.hid hl
        clear E1 E2 o1 o2 hl hown hgr fz0 fz1 fz2
        generalize ((markT k j xs).getD j z3).1 = x at *
        generalize ((markT k j xs).getD j z3).2.1 = y at *
        generalize ((markT k j xs).getD j z3).2.2 = z at *
        go_wp2
        go_roundw
        case rel => exact ⟨j + 1, by omega, by go_num, by go_num, o3, ht3⟩
        case measure => simp [intOf]; omega
      · obtain rfl : j = xs.length := by omega
        go_wp2
        go_ret
        exact ⟨rfl, by simpa [markT] using hown, hgr⟩

set_option maxHeartbeats 1000000 in
theorem heldFl_any (v : Value) (n : Nat) (k : Int) (B : Nat) (w : World) (ho : OwnF w B v (marksT k n)) (hn : n ≤ 1048576) (hk0 : 0 ≤ k) (hk1 : k ≤ 4194304) :
    Calls Tryd.prog 26 #[v, .int .i64 k] w fun e w' => e = .returned (.int .i64 (k + 3 * (n : Int))) ∧ w = w' := by
  obtain ⟨A, c, rfl⟩ := ho.form
  rw [marksT_length] at ho ⊢
  have HO := Lib.hid ho
  clear ho
  go_enter Tryd.func26, Tryd.ntmps26
  go_wp2
  go_loop [1, 5] (fun m i => ∃ (j : Nat), j ≤ n ∧ i = .int .i64 j ∧ m = .int .i64 (k + 3 * (j : Int))) (fun _ i => n - (intOf i).toNat)
  case atStart => exact ⟨0, Nat.zero_le _, rfl, by simp⟩
  case round =>
    obtain ⟨j, hj, rfl, rfl⟩ := hrel
    by_cases hlt : j < n
    · obtain ⟨g, rfl, _, ⟨a0, a1, a2⟩, _⟩ := HO.out.at_ (k := j) (by rw [marksT_length]; exact hlt)
      rw [marksT_get _ _ _ hlt] at a0 a1 a2
      dsimp only at a0 a1 a2
      go_wp2
      go_round
      case rel => exact ⟨j + 1, by omega, by go_num, by go_num⟩
      case measure => simp [intOf]; omega
    · obtain rfl : j = n := by omega
      go_wp2
      go_ret
      exact ⟨rfl, rfl⟩

/-- a made row of clues that is being filled -/
def fillF (ps : List Tri) (k : Nat) : Array Value := (cellsF (ps.take k ++ List.replicate (ps.length - k) z3)).toArray
theorem cellsF_rep : ∀ n : Nat, cellsF (List.replicate n z3) = List.replicate (n * 3) (.int .i64 0)
  | 0 => rfl
  | n + 1 => by
    rw [List.replicate_succ, cellsF, cellsF_rep n, show (n + 1) * 3 = ((n * 3 + 1) + 1) + 1 by omega, List.replicate_succ, List.replicate_succ, List.replicate_succ]
    rfl
theorem fillF_zero (ps : List Tri) : madeCells (Value.agg #[.int .i64 0, .int .i64 0, .int .i64 0]).cells (ps.length * 3) = fillF ps 0 := by
  unfold fillF
  rw [List.take_zero, List.nil_append, Nat.sub_zero, cellsF_rep]
  apply Array.ext_getElem?
  intro i
  simp only [madeCells, Value.cells]
  by_cases h : i < ps.length * 3
  · have h3 : i % 3 < 3 := Nat.mod_lt _ (by omega)
    simp [h]
    match hm : i % 3, h3 with
    | 0, _ => rfl
    | 1, _ => rfl
    | 2, _ => rfl
  · simp [h]
theorem fillF_end (ps : List Tri) : fillF ps ps.length = (cellsF ps).toArray := by simp [fillF]
theorem fillF_set (ps : List Tri) (k : Nat) (h : k < ps.length) :
    (((fillF ps k).setIfInBounds (k * 3) (.int .i64 (ps.getD k z3).1)).setIfInBounds (k * 3 + 1) (.int .i64 (ps.getD k z3).2.1)).setIfInBounds (k * 3 + 2) (.int .i64 (ps.getD k z3).2.2) = fillF ps (k + 1) := by
  have hk : k < (ps.take k ++ List.replicate (ps.length - k) z3).length := by simp; omega
  have hL : (ps.take k ++ List.replicate (ps.length - k) z3).set k (ps.getD k z3) = ps.take (k + 1) ++ List.replicate (ps.length - (k + 1)) z3 := by
    rw [List.set_append_right _ _ (by simp; omega), List.length_take, Nat.min_eq_left (Nat.le_of_lt h), Nat.sub_self, show ps.length - k = (ps.length - (k + 1)) + 1 by omega, List.replicate_succ, List.set_cons_zero, List.take_succ_eq_append_getElem h, List.append_assoc, show ps.getD k z3 = ps[k] by simp [List.getD_eq_getElem?_getD, h]]
    rfl
  unfold fillF
  rw [← hL]
  generalize ps.take k ++ List.replicate (ps.length - k) z3 = qs at *
  generalize ps.getD k z3 = p at *
  have s1 := (cellsF_set qs k p.1 hk).1
  have s2 := (cellsF_set (qs.set k (p.1, (qs.getD k z3).2.1, (qs.getD k z3).2.2)) k p.2.1 (by simpa using hk)).2.1
  have g1 := set_set hk (p.1, (qs.getD k z3).2.1, (qs.getD k z3).2.2)
  rw [(g1 z3).2, (g1 _).1] at s2
  have s3 := (cellsF_set (qs.set k (p.1, p.2.1, (qs.getD k z3).2.2)) k p.2.2 (by simpa using hk)).2.2
  have g2 := set_set hk (p.1, p.2.1, (qs.getD k z3).2.2)
  rw [(g2 z3).2, (g2 _).1] at s3
  rw [List.setIfInBounds_toArray, List.setIfInBounds_toArray, List.setIfInBounds_toArray, s1, s2, s3]

end Go.Proofs.YtohimcljobpkjaaDoor
