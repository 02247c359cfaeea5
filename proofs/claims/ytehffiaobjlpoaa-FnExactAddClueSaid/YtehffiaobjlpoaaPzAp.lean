/- append of a list of clues onto a row of the call's own; the model's list without a clue. -/
import Derived.Test.YtehffiaobjlpoaaPzK
import Derived.Test.YtehffiaobjlpoaaPzLb
import Derived.Maps.AppendAt
import Derived.Deep.RegionLaw
namespace Go.Proofs.Ytehffiaobjlpoaa
open Go.RowKit
set_option maxRecDepth 100000

theorem run_append_rdF (w : World) (ty : TypeId) (B0 B : Nat) (v : Value) (xs ys : List Tri) (hown : OwnF w B0 v xs) (A : Option Addr) (c : Nat) (hr : RdF w B A c ys) (hn : xs.length + ys.length ≤ 4194304) (hB : B0 ≤ w.heap.size) :
    ∃ v' w', (Builtin.append_ #[50, 50] ty #[v, .slice A ys.length c]).run Try.prog w = .ok v' w' ∧ OwnF w' B0 v' (xs ++ ys) ∧ Below B0 w w' := by
  obtain ⟨i0, hi, hz, hsz, hby⟩ := info_parts fl_info
  rcases A with _ | ad
  · have hy : ys = [] := by
      cases ys with
      | nil => rfl
      | cons y r =>
        obtain ⟨b, o, e, _⟩ := hr.2 0 (by simp)
        cases e
    subst hy
    refine ⟨v, w, ?_, by simpa using hown, Below.refl _ _⟩
    rcases hown.2 with ⟨rfl, h0⟩ | ⟨g, cap, cur, rfl, _, _, hnc, _⟩
    · simp [Builtin.append_, run_underlying Try.underlying50, sizeOf, typeInfo, hi, Builtin.lenOf, Builtin.firstCells]
    · simp [Builtin.append_, run_underlying Try.underlying50, sizeOf, typeInfo, hi, Builtin.lenOf, Builtin.firstCells, hnc, storeCells]
  · have hnews : ∀ j u, (cellsF ys)[j]? = some u → w.cell? (ad.add j) = some u := by
      intro j u hu
      have hj : j < ys.length * 3 := by
        have := (List.getElem?_eq_some_iff.1 hu).1
        rwa [cellsF_len] at this
      obtain ⟨b, o, e, _, h0, h1, h2⟩ := hr.2 (j / 3) (by omega)
      obtain ⟨c0, c1, c2⟩ := cellsF_at ys (j / 3) (by omega)
      injection e with e
      subst e
      rw [Addr.add_lit]
      have hm : j % 3 = 0 ∨ j % 3 = 1 ∨ j % 3 = 2 := by omega
      rcases hm with hm | hm | hm
      · rw [show j = j / 3 * 3 by omega] at hu ⊢
        rw [c0] at hu
        rw [h0]; exact hu
      · rw [show j = j / 3 * 3 + 1 by omega] at hu ⊢
        rw [c1] at hu
        rw [← Nat.add_assoc, h1]; exact hu
      · rw [show j = j / 3 * 3 + 2 by omega] at hu ⊢
        rw [c2] at hu
        rw [← Nat.add_assoc, h2]; exact hu
    have hone : ∀ (zs : List Tri), ∀ u ∈ cellsF zs, u.oneCell' = true := by
      intro zs
      induction zs with
      | nil => simp [cellsF]
      | cons z r ih =>
        intro u hu
        simp only [cellsF, List.mem_cons] at hu
        rcases hu with rfl | rfl | rfl | hu
        · rfl
        · rfl
        · rfl
        · exact ih u hu
    obtain ⟨v', w', hrun, h1, h2, _, h4⟩ := run_append_own_at (P := Try.prog) w B0 50 ty 56 i0 (.agg #[.int .i64 0, .int .i64 0, .int .i64 0]) 3 24 Try.underlying50 hi hz hsz hby rfl (by decide) v xs.length _ hown ad ys.length c (cellsF ys) (cellsF_len ys) hnews (hone ys) (by simp only [maxLen]; omega) (by omega) hB
    refine ⟨v', w', hrun, ?_, (Below.refl _ _).grown h2 hB (fun k hk => (hown.lt k hk).1)⟩
    unfold OwnF
    rw [cellsF_app, List.length_append]
    exact h1
theorem wp_append_rdF (w : World) {o : Oper} {a : Act} {K : Act → World → Prop} {Q : Exit → Act → World → Prop} (s x : Operand)
    (ho : o.op = .call { callee := .builtin .append, args := #[s, x], argTypes := #[50, 50] }) (B0 B : Nat) (v : Value) (xs ys : List Tri) (hs : a.eval s = v) (hown : OwnF w B0 v xs) (A : Option Addr) (c : Nat) (hx : a.eval x = .slice A ys.length c)
    (hr : RdF w B A c ys) (hn : xs.length + ys.length ≤ 4194304) (hB : B0 ≤ w.heap.size)
    (h : ∀ v' w', OwnF w' B0 v' (xs ++ ys) → Below B0 w w' → K (a.put o.dst v') w') : o.wp Try.prog a w K Q := by
  obtain ⟨v', w', hrun, h2, h3⟩ := run_append_rdF w o.type B0 B v xs ys hown A c hr hn hB
  unfold Oper.wp execOp
  simp only [ho, resolve, invoke, builtin, Sem.run_bind, Sem.run_pure, Result.andThen_ok, List.map_toArray, List.map_cons, List.map_nil, hs, hx, hrun]
  exact h v' w' h2 h3
theorem wpList_append_rdF (w : World) {ops : Array Oper} {rest : List Oper} {o : Oper} {a : Act} {Q : Exit → Act → World → Prop} (hgd : o.guard = none) (s x : Operand)
    (ho : o.op = .call { callee := .builtin .append, args := #[s, x], argTypes := #[50, 50] }) (B0 B : Nat) (v : Value) (xs ys : List Tri) (hs : a.eval s = v) (hown : OwnF w B0 v xs) (A : Option Addr) (n c : Nat) (hx : a.eval x = .slice A n c) (hlen : n = ys.length)
    (hr : RdF w B A c ys) (hn : xs.length + ys.length ≤ 4194304) (hB : B0 ≤ w.heap.size)
    (h : ∀ v' w', OwnF w' B0 v' (xs ++ ys) → Below B0 w w' → wpList Try.prog ops Q rest (a.put o.dst v') w') : wpList Try.prog ops Q (o :: rest) a w := by
  subst hlen
  exact wpList_plain hgd fun _ hK => wp_append_rdF w s x ho B0 B v xs ys hs hown A c hx hr hn hB fun v' w' h2 h3 => hK _ _ (h v' w' h2 h3)
theorem OwnF.empty {w : World} {g : Nat} (hg : g = w.heap.size) : OwnF (w.alloc (.cells #[] 56)) g (.slice (some ⟨g, 0, none⟩) 0 0) [] := by
  subst hg
  exact World.ownsRow_made w #[] 0 (Nat.le_refl _) (by simp [maxLen]) (by simp)
theorem RdF.dropAt {w : World} {B c k : Nat} {A : Option Addr} {ps : List Tri} (h : RdF w B A c ps) (hk : k ≤ ps.length) : RdF w B (if c = k then A else A.map (·.add (k * 3))) (c - k) (ps.drop k) := by
  have := h.1
  refine ⟨by simp; omega, fun j hj => ?_⟩
  simp at hj
  obtain ⟨b, o, e, hb, h0, h1, h2⟩ := h.2 (k + j) (by omega)
  rw [if_neg (by omega), e]
  have hg : (ps.drop k).getD j (0, 0, 0) = ps.getD (k + j) (0, 0, 0) := by simp [List.getD_eq_getElem?_getD]
  rw [hg]
  rw [show o + (k + j) * 3 = o + k * 3 + j * 3 by omega] at h0 h1 h2
  exact ⟨b, o + k * 3, by simp [Addr.add_lit], hb, h0, h1, h2⟩
/-- the clues without one -/
def wo (ps : List Tri) (k : Nat) : List Tri := ps.take k ++ ps.drop (k + 1)
theorem wo_len {ps : List Tri} {k : Nat} (hk : k < ps.length) : (wo ps k).length = ps.length - 1 := by simp [wo]; omega

/-- append in a region that draws its order -/
theorem step_appF (w : World) {ops : Array Oper} {o : Oper} {a : Act} {K : Act → World → Prop} {Q : Exit → Act → World → Prop} {E : Prop} (hgd : o.guard = none) (s x : Operand)
    (ho : o.op = .call { callee := .builtin .append, args := #[s, x], argTypes := #[50, 50] }) (B0 B : Nat) (v : Value) (xs ys : List Tri) (hs : a.eval s = v) (hown : OwnF w B0 v xs) (A : Option Addr) (n c : Nat) (hl : n = ys.length) (hx : a.eval x = .slice A n c)
    (hr : RdF w B A c ys) (hn : xs.length + ys.length ≤ 4194304) (hB : B0 ≤ w.heap.size)
    (h : ∀ v' w', OwnF w' B0 v' (xs ++ ys) → Below B0 w w' → K (a.put o.dst v') w') :
    if Region.wanted o (yielded ops a.tmps) = true then Oper.wp Try.prog o a w K Q else E := by
  subst hl
  have hw : Region.wanted o (yielded ops a.tmps) = true := by simp [Region.wanted, hgd]
  rw [if_pos hw]
  exact wp_append_rdF w s x ho B0 B v xs ys hs hown A c hx hr hn hB h

end Go.Proofs.Ytehffiaobjlpoaa
