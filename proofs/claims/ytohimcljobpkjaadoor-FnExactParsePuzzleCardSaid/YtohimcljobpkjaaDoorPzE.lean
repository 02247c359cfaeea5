/- Rows of stairs: cells, rows of the call's own, rows that read; what an element's memory holds. -/
import Derived.Test.YtohimcljobpkjaaDoorPzP
import Derived.Maps.AppendAt
namespace Go.Proofs.YtohimcljobpkjaaDoor
open Go.RowKit
set_option maxRecDepth 100000

/-- an element: its steps, the values of its two slices -/
abbrev El := Int × Value × Value
def e0 : El := (0, .slice none 0 0, .slice none 0 0)
def cellsE : List El → List Value
  | [] => []
  | p :: r => .int .i64 p.1 :: p.2.1 :: p.2.2 :: cellsE r
theorem cellsE_app : ∀ ps qs, cellsE (ps ++ qs) = cellsE ps ++ cellsE qs
  | [], _ => rfl
  | p :: r, qs => by simp [cellsE, cellsE_app r qs]
theorem cellsE_at : ∀ (ps : List El) (k : Nat), k < ps.length → (cellsE ps)[k * 3]? = some (.int .i64 (ps.getD k e0).1) ∧ (cellsE ps)[k * 3 + 1]? = some (ps.getD k e0).2.1 ∧ (cellsE ps)[k * 3 + 2]? = some (ps.getD k e0).2.2
  | [], k, h => absurd h (by simp)
  | p :: r, 0, _ => by simp [cellsE]
  | p :: r, k + 1, h => by
    have := cellsE_at r k (by simpa using h)
    rw [show (k + 1) * 3 = ((k * 3 + 1) + 1) + 1 by omega]
    simp only [cellsE, List.getElem?_cons_succ, List.getD_cons_succ]
    exact ⟨this.1, this.2.1, this.2.2⟩
theorem cellsE_len : ∀ ps : List El, (cellsE ps).length = ps.length * 3
  | [] => rfl
  | p :: r => by simp [cellsE, cellsE_len r]; omega
theorem st_info : (Tryd.prog.info? 84).map (fun i => (i.zero, i.size, i.bytes)) = some (some (.agg #[.int .i64 0, .slice none 0 0, .slice none 0 0]), 3, 56) := by kernel_rfl
/-- a row of stairs of the call's own -/
def OwnE (w : World) (B : Nat) (v : Value) (ps : List El) : Prop := w.ownsRow B 84 3 v ps.length (cellsE ps)
theorem OwnE.nil (w : World) (B : Nat) : OwnE w B (.slice none 0 0) [] := World.ownsRow_nil _ _ _ _
theorem OwnE.alloc {w : World} {B : Nat} {v : Value} {ps : List El} (h : OwnE w B v ps) (o : Obj) : OwnE (w.alloc o) B v ps := World.ownsRow.alloc h o
theorem OwnE.drew {w : World} {B : Nat} {v : Value} {ps : List El} (h : OwnE w B v ps) : OwnE w.drew B v ps := h
theorem OwnE.lt {w : World} {B : Nat} {v : Value} {ps : List El} (h : OwnE w B v ps) : ∀ k, v.ownBlock = some k → B ≤ k ∧ k < w.heap.size := World.ownsRow.lt h
theorem OwnE.keep {w w' : World} {B : Nat} {v : Value} {xs : List El} (h : OwnE w B v xs) (hk : ∀ k, v.ownBlock = some k → w'.heap[k]? = w.heap[k]?) : OwnE w' B v xs := by
  refine ⟨h.1, ?_⟩
  rcases h.2 with h0 | ⟨g, cap, cur, rfl, hg, hh, r⟩
  · exact .inl h0
  · exact .inr ⟨g, cap, cur, rfl, hg, by rw [hk g rfl]; exact hh, r⟩
theorem OwnE.below {w w' : World} {B B' : Nat} {v : Value} {xs : List El} (h : OwnE w B v xs) (hb : Below B' w w') (hB : w.heap.size ≤ B') : OwnE w' B v xs :=
  h.keep fun k hk => hb.block k (Nat.lt_of_lt_of_le (h.lt k hk).2 hB)
theorem OwnE.turned {w w' : World} {B : Nat} {v : Value} {xs : List El} {L : List Nat} (h : OwnE w B v xs) (hb : Turned w w' L) (hL : ∀ k, v.ownBlock = some k → k ∉ L) : OwnE w' B v xs :=
  h.keep fun k hk => hb.block k (h.lt k hk).2 (hL k hk)
theorem OwnE.mono {w : World} {B B' : Nat} {v : Value} {xs : List El} (h : OwnE w B v xs) (hB : B' ≤ B) : OwnE w B' v xs := by
  refine ⟨h.1, ?_⟩
  rcases h.2 with h0 | ⟨g, cap, cur, rfl, hg, r⟩
  · exact .inl h0
  · exact .inr ⟨g, cap, cur, rfl, by omega, r⟩
theorem OwnE.form {w : World} {B : Nat} {v : Value} {xs : List El} (h : OwnE w B v xs) : ∃ A c, v = .slice A xs.length c := by
  rcases h.2 with ⟨rfl, h0⟩ | ⟨g, cap, cur, rfl, _⟩
  · exact ⟨none, 0, by rw [h0]⟩
  · exact ⟨_, _, rfl⟩
/-- a row that reads as these elements -/
def RdE (w : World) (B : Nat) (A : Option Addr) (c : Nat) (ps : List El) : Prop :=
  ps.length ≤ c ∧ ∀ k, k < ps.length → ∃ b o, A = some ⟨b, o, none⟩ ∧ b < B ∧ w.cell? ⟨b, o + k * 3, none⟩ = some (.int .i64 (ps.getD k e0).1) ∧ w.cell? ⟨b, o + k * 3 + 1, none⟩ = some (ps.getD k e0).2.1 ∧ w.cell? ⟨b, o + k * 3 + 2, none⟩ = some (ps.getD k e0).2.2
theorem RdE.nil {w : World} {B : Nat} {A : Option Addr} {c : Nat} : RdE w B A c [] := ⟨by simp, fun k hk => absurd hk (by simp)⟩
theorem RdE.below {w w' : World} {B B' : Nat} {A : Option Addr} {c : Nat} {xs : List El} (h : RdE w B A c xs) (hb : Below B' w w') (hB : B ≤ B') : RdE w' B A c xs :=
  ⟨h.1, fun k hx => by
    obtain ⟨b, o, e, hlt, h0, h1, h2⟩ := h.2 k hx
    have hk := fun i => hb.cell (p := ⟨b, i, none⟩) (Nat.lt_of_lt_of_le hlt hB)
    exact ⟨b, o, e, hlt, (hk _).trans h0, (hk _).trans h1, (hk _).trans h2⟩⟩
theorem RdE.more {w : World} {B B' : Nat} {A : Option Addr} {c : Nat} {xs : List El} (h : RdE w B A c xs) (hB : B ≤ B') : RdE w B' A c xs :=
  ⟨h.1, fun k hx => by
    obtain ⟨b, o, e, hlt, r⟩ := h.2 k hx
    exact ⟨b, o, e, by omega, r⟩⟩
theorem OwnE.at_ {w : World} {B n c : Nat} {A : Option Addr} {ps : List El} (h : OwnE w B (.slice A n c) ps) {k : Nat} (hk : k < ps.length) :
    ∃ g, A = some ⟨g, 0, none⟩ ∧ g < w.heap.size ∧ (w.cell? ⟨g, k * 3, none⟩ = some (.int .i64 (ps.getD k e0).1) ∧ w.cell? ⟨g, k * 3 + 1, none⟩ = some (ps.getD k e0).2.1 ∧ w.cell? ⟨g, k * 3 + 2, none⟩ = some (ps.getD k e0).2.2) ∧ (∀ j, w.frozen? ⟨g, j, none⟩ = false) := by
  rcases h.2 with ⟨hv, h0⟩ | ⟨g, cap, cur, hv, hg, hh, hc⟩
  · omega
  · injection hv with e1 e2 e3
    subst e1 e2 e3
    have e := cellsE_at ps k hk
    have l := cellsE_len ps
    refine ⟨g, rfl, (Array.getElem?_eq_some_iff.1 hh).1, ?_, fun j => World.ownsRow.frozenAt h j⟩
    rw [World.ownsRow.cellAt h (k * 3) (by omega), World.ownsRow.cellAt h (k * 3 + 1) (by omega), World.ownsRow.cellAt h (k * 3 + 2) (by omega)]
    exact e
theorem OwnE.rd {w : World} {B n c : Nat} {A : Option Addr} {ps : List El} (h : OwnE w B (.slice A n c) ps) : RdE w w.heap.size A c ps := by
  refine ⟨?_, fun k hk => ?_⟩
  · rcases h.2 with ⟨hv, h0⟩ | ⟨g, cap, cur, hv, hg, hh, hc, _⟩
    · omega
    · injection hv with _ _ e; omega
  · obtain ⟨g, e, hg, ⟨h0, h1, h2⟩, _⟩ := h.at_ hk
    exact ⟨g, 0, e, hg, by rw [Nat.zero_add]; exact h0, by rw [Nat.zero_add]; exact h1, by rw [Nat.zero_add]; exact h2⟩

theorem wpList_pushE (w : World) {ops : Array Oper} {rest : List Oper} {o : Oper} {a : Act} {Q : Exit → Act → World → Prop} (hgd : o.guard = none) (s x : Operand)
    (ho : o.op = .call { callee := .builtin .append, args := #[s, x], argTypes := #[58, 58] }) (B : Nat) (v : Value) (ps : List El) (hs : a.eval s = v) (hown : OwnE w B v ps)
    (g : Nat) (p : El) (hx : a.eval x = .slice (some ⟨g, 0, none⟩) 1 1) (hc : w.cell? ⟨g, 0, none⟩ = some (.int .i64 p.1)) (hc2 : w.cell? ⟨g, 1, none⟩ = some p.2.1) (hc3 : w.cell? ⟨g, 2, none⟩ = some p.2.2) (h1 : p.2.1.oneCell' = true) (h2 : p.2.2.oneCell' = true) (hn : ps.length ≤ 1048576) (hB : B ≤ w.heap.size)
    (h : ∀ v' w', OwnE w' B v' (ps ++ [p]) → w.grownBy w' v.ownBlock → (v'.ownBlock = v.ownBlock ∨ v'.ownBlock = some w.heap.size) → wpList Tryd.prog ops Q rest (a.put o.dst v') w') : wpList Tryd.prog ops Q (o :: rest) a w := by
  obtain ⟨i0, hi, hz, hsz, hby⟩ := info_parts st_info
  refine wpList_append_own_at w hgd s x 58 ho B 84 i0 (.agg #[.int .i64 0, .slice none 0 0, .slice none 0 0]) 3 56 Tryd.underlying58 hi hz hsz hby rfl (by decide) v ps.length _ hs hown ⟨g, 0, none⟩ 1 1 [.int .i64 p.1, p.2.1, p.2.2] hx rfl ?_ ?_ ?_ ?_ hB ?_
  · intro j u hu
    match j with
    | 0 => simp at hu; subst hu; exact hc
    | 1 => simp at hu; subst hu; exact hc2
    | 2 => simp at hu; subst hu; exact hc3
    | j + 3 => simp at hu
  · intro u hu
    simp at hu
    rcases hu with rfl | rfl | rfl
    · rfl
    · exact h1
    · exact h2
  · simp only [maxLen]; omega
  · omega
  · intro v' w' k1 k2 _ k4
    refine h v' w' ?_ k2 k4
    unfold OwnE
    rw [cellsE_app, List.length_append]
    simpa [cellsE] using k1

/-- AN ELEMENT READS AS THESE STAIRS -/
def StE (w : World) (B : Nat) (e : El) (r : Rc) : Prop :=
  e.1 = r.1 ∧ ∃ A A' c c', e.2.1 = .slice A r.2.1.length c ∧ e.2.2 = .slice A' r.2.2.length c' ∧ St w B r.1 A A' c c' r.2.1 r.2.2
theorem StE.below {w w' : World} {B B' : Nat} {e : El} {r : Rc} (h : StE w B e r) (hb : Below B' w w') (hB : B ≤ B') : StE w' B e r := by
  obtain ⟨h0, A, A', c, c', h1, h2, h3⟩ := h
  exact ⟨h0, A, A', c, c', h1, h2, h3.below hb hB⟩
theorem StE.more {w : World} {B B' : Nat} {e : El} {r : Rc} (h : StE w B e r) (hB : B ≤ B') : StE w B' e r := by
  obtain ⟨h0, A, A', c, c', h1, h2, h3⟩ := h
  exact ⟨h0, A, A', c, c', h1, h2, h3.more hB⟩
abbrev Lr := List (El × Rc)
def elsL (L : Lr) : List El := L.map Prod.fst
def recL (L : Lr) : List Rc := L.map Prod.snd
theorem elsL_len (L : Lr) : (elsL L).length = L.length := by simp [elsL]
theorem recL_len (L : Lr) : (recL L).length = L.length := by simp [recL]
def fitL (p : Tri) (L : Lr) : Lr := L.filter fun x => fitB p x.2
def fitsL (ps : List Tri) (L : Lr) : Lr := L.filter fun x => fitsB ps x.2
theorem fitsL_nil (L : Lr) : fitsL [] L = L := by simp [fitsL, fitsB_nil]
theorem fitsL_snoc (ps : List Tri) (p : Tri) (L : Lr) : fitsL (ps ++ [p]) L = fitL p (fitsL ps L) := by
  unfold fitL fitsL
  rw [List.filter_filter]
  congr 1
  funext x
  rw [fitsB_snoc, Bool.and_comm]
theorem fitsL_take {ps : List Tri} {k : Nat} (hk : k < ps.length) (L : Lr) : fitsL (ps.take (k + 1)) L = fitL (ps.getD k z3) (fitsL (ps.take k) L) := by
  rw [← fitsL_snoc, List.take_add_one, List.getElem?_eq_getElem hk]
  simp [List.getD_eq_getElem?_getD, hk]
theorem fitL_take_yes {p : Tri} {L : Lr} {k : Nat} {x : El × Rc} (hx : L[k]? = some x) (h : fitB p x.2 = true) : fitL p (L.take (k + 1)) = fitL p (L.take k) ++ [x] := by
  unfold fitL
  rw [List.take_add_one, hx, List.filter_append]
  simp [h]
theorem fitL_take_no {p : Tri} {L : Lr} {k : Nat} {x : El × Rc} (hx : L[k]? = some x) (h : fitB p x.2 = false) : fitL p (L.take (k + 1)) = fitL p (L.take k) := by
  unfold fitL
  rw [List.take_add_one, hx, List.filter_append]
  simp [h]
theorem fitL_len (p : Tri) (L : Lr) (k : Nat) : (fitL p (L.take k)).length ≤ L.length := by
  have h1 := List.length_filter_le (fun x : El × Rc => fitB p x.2) (L.take k)
  have h2 : (L.take k).length ≤ L.length := by simp; omega
  unfold fitL
  omega
theorem recL_fits (ps : List Tri) (L : Lr) : recL (fitsL ps L) = (recL L).filter (fitsB ps) := by
  unfold recL fitsL
  rw [List.filter_map]
  rfl
theorem elsL_get {L : Lr} {k : Nat} {x : El × Rc} (hx : L[k]? = some x) : (elsL L).getD k e0 = x.1 := by
  simp [elsL, List.getD_eq_getElem?_getD, hx]
theorem lr_get {L : Lr} {k : Nat} (hk : k < L.length) : ∃ x, L[k]? = some x ∧ x ∈ L := ⟨L[k], List.getElem?_eq_getElem hk, List.getElem_mem hk⟩

end Go.Proofs.YtohimcljobpkjaaDoor
