/- append of a whole list onto a row of the call's own, whatever the list's memory. -/
import Derived.Test.YtiacfaeanlkalaaGInts
import Derived.Maps.AppendAt
namespace Go.Proofs.Ytiacfaeanlkalaa
open Go.RowKit
set_option maxRecDepth 100000

theorem run_append_rd (w : World) (ty : TypeId) (B0 B : Nat) (v : Value) (xs ys : List Int) (hown : OwnI w B0 v xs) (A : Option Addr) (c : Nat) (hr : Rd w B A c ys) (hn : xs.length + ys.length ≤ 4194304) (hB : B0 ≤ w.heap.size) :
    ∃ v' w', (Builtin.append_ #[22, 22] ty #[v, .slice A ys.length c]).run Try.prog w = .ok v' w' ∧ OwnI w' B0 v' (xs ++ ys) ∧ Below B0 w w' ∧ w.grownBy w' v.ownBlock ∧ (v'.ownBlock = v.ownBlock ∨ v'.ownBlock = some w.heap.size) := by
  obtain ⟨i0, hi, hz, hsz, hby⟩ := info_parts int_info
  rcases A with _ | ad
  · have hy : ys = [] := by
      cases ys with
      | nil => rfl
      | cons y r =>
        obtain ⟨b, o, e, _⟩ := hr.2 0 (by simp)
        cases e
    subst hy
    refine ⟨v, w, ?_, by simpa using hown, Below.refl _ _, World.grownBy.refl _ _, .inl rfl⟩
    rcases hown.2 with ⟨rfl, h0⟩ | ⟨g, cap, cur, rfl, _, _, hnc, _⟩
    · simp [Builtin.append_, run_underlying Try.underlying22, sizeOf, typeInfo, hi, Builtin.lenOf, Builtin.firstCells]
    · simp [Builtin.append_, run_underlying Try.underlying22, sizeOf, typeInfo, hi, Builtin.lenOf, Builtin.firstCells, hnc, storeCells]
  · have hnews : ∀ j u, (ys.map (Value.int .i64))[j]? = some u → w.cell? (ad.add j) = some u := by
      intro j u hu
      have hj : j < ys.length := by
        have := (List.getElem?_eq_some_iff.1 hu).1
        simpa using this
      obtain ⟨b, o, e, _, hc⟩ := hr.2 j hj
      injection e with e
      subst e
      rw [Addr.add_lit, hc]
      rw [← hu]
      simp [hj, List.getD_eq_getElem?_getD]
    obtain ⟨v', w', hrun, h1, h2, _, h4⟩ := run_append_own_at (P := Try.prog) w B0 22 ty 3 i0 (.int .i64 0) 1 8 Try.underlying22 hi hz hsz hby rfl (by decide) v xs.length _ hown ad ys.length c (ys.map (Value.int .i64)) (by simp) hnews (by simp [Value.oneCell']) (by simp only [maxLen]; omega) (by omega) hB
    refine ⟨v', w', hrun, ?_, (Below.refl _ _).grown h2 hB (fun k hk => (hown.lt k hk).1), h2, h4⟩
    unfold OwnI
    simpa using h1

theorem wp_append_rd (w : World) {o : Oper} {a : Act} {K : Act → World → Prop} {Q : Exit → Act → World → Prop} (s x : Operand)
    (ho : o.op = .call { callee := .builtin .append, args := #[s, x], argTypes := #[22, 22] }) (B0 B : Nat) (v : Value) (xs ys : List Int) (hs : a.eval s = v) (hown : OwnI w B0 v xs) (A : Option Addr) (c : Nat) (hx : a.eval x = .slice A ys.length c)
    (hr : Rd w B A c ys) (hn : xs.length + ys.length ≤ 4194304) (hB : B0 ≤ w.heap.size)
    (h : ∀ v' w', OwnI w' B0 v' (xs ++ ys) → Below B0 w w' → w.grownBy w' v.ownBlock → (v'.ownBlock = v.ownBlock ∨ v'.ownBlock = some w.heap.size) → K (a.put o.dst v') w') : o.wp Try.prog a w K Q := by
  obtain ⟨v', w', hrun, h2, h3, h4, h5⟩ := run_append_rd w o.type B0 B v xs ys hown A c hr hn hB
  unfold Oper.wp execOp
  simp only [ho, resolve, invoke, builtin, Sem.run_bind, Sem.run_pure, Result.andThen_ok, List.map_toArray, List.map_cons, List.map_nil, hs, hx, hrun]
  exact h v' w' h2 h3 h4 h5

/-- in a plain region -/
theorem wpList_append_rd (w : World) {ops : Array Oper} {rest : List Oper} {o : Oper} {a : Act} {Q : Exit → Act → World → Prop} (hgd : o.guard = none) (s x : Operand)
    (ho : o.op = .call { callee := .builtin .append, args := #[s, x], argTypes := #[22, 22] }) (B0 B : Nat) (v : Value) (xs ys : List Int) (hs : a.eval s = v) (hown : OwnI w B0 v xs) (A : Option Addr) (c : Nat) (hx : a.eval x = .slice A ys.length c)
    (hr : Rd w B A c ys) (hn : xs.length + ys.length ≤ 4194304) (hB : B0 ≤ w.heap.size)
    (h : ∀ v' w', OwnI w' B0 v' (xs ++ ys) → Below B0 w w' → w.grownBy w' v.ownBlock → (v'.ownBlock = v.ownBlock ∨ v'.ownBlock = some w.heap.size) → wpList Try.prog ops Q rest (a.put o.dst v') w') : wpList Try.prog ops Q (o :: rest) a w :=
  wpList_plain hgd fun _ hK => wp_append_rd w s x ho B0 B v xs ys hs hown A c hx hr hn hB fun v' w' h2 h3 h4 h5 => hK _ _ (h v' w' h2 h3 h4 h5)

/-- .. the length given apart -/
theorem wpList_append_rd' (w : World) {ops : Array Oper} {rest : List Oper} {o : Oper} {a : Act} {Q : Exit → Act → World → Prop} (hgd : o.guard = none) (s x : Operand)
    (ho : o.op = .call { callee := .builtin .append, args := #[s, x], argTypes := #[22, 22] }) (B0 B : Nat) (v : Value) (xs ys : List Int) (hs : a.eval s = v) (hown : OwnI w B0 v xs) (A : Option Addr) (n c : Nat) (hx : a.eval x = .slice A n c) (hlen : n = ys.length)
    (hr : Rd w B A c ys) (hn : xs.length + ys.length ≤ 4194304) (hB : B0 ≤ w.heap.size)
    (h : ∀ v' w', OwnI w' B0 v' (xs ++ ys) → Below B0 w w' → wpList Try.prog ops Q rest (a.put o.dst v') w') : wpList Try.prog ops Q (o :: rest) a w := by
  subst hlen
  exact wpList_append_rd w hgd s x ho B0 B v xs ys hs hown A c hx hr hn hB fun v' w' h1 h2 _ _ => h v' w' h1 h2

theorem OwnI.empty {w : World} {g : Nat} (hg : g = w.heap.size) : OwnI (w.alloc (.cells #[] 3)) g (.slice (some ⟨g, 0, none⟩) 0 0) [] := by
  subst hg
  exact World.ownsRow_made w #[] 0 (Nat.le_refl _) (by simp [maxLen]) (by simp)
theorem add_zero (a : Addr) : a.add 0 = a := by unfold Addr.add; simp
theorem Rd.take {w : World} {B c k : Nat} {A : Option Addr} {xs : List Int} (h : Rd w B A c xs) (hk : k ≤ xs.length) : Rd w B A c (xs.take k) := by
  have := h.1
  have hl : (xs.take k).length = k := by simp; omega
  refine ⟨by omega, fun j hj => ?_⟩
  rw [hl] at hj
  obtain ⟨b, o, e, hb, hc⟩ := h.2 j (by omega)
  exact ⟨b, o, e, hb, by rw [hc]; simp [List.getD_eq_getElem?_getD, hj]⟩
theorem Rd.drop {w : World} {B c k : Nat} {A : Option Addr} {xs : List Int} (h : Rd w B A c xs) (hk : k ≤ xs.length) : Rd w B (if c = k then A else A.map (·.add k)) (c - k) (xs.drop k) := by
  have := h.1
  refine ⟨by simp; omega, fun j hj => ?_⟩
  simp at hj
  obtain ⟨b, o, e, hb, hc⟩ := h.2 (k + j) (by omega)
  rw [if_neg (by omega), e]
  refine ⟨b, o + k, by simp [Addr.add_lit], hb, ?_⟩
  rw [Nat.add_assoc, hc]
  simp [List.getD_eq_getElem?_getD]

/-- in a region that draws its order -/
theorem step_append_rd (w : World) {ops : Array Oper} {o : Oper} {a : Act} {K : Act → World → Prop} {Q : Exit → Act → World → Prop} {E : Prop} (hgd : o.guard = none) (s x : Operand)
    (ho : o.op = .call { callee := .builtin .append, args := #[s, x], argTypes := #[22, 22] }) (B0 B : Nat) (v : Value) (xs ys : List Int) (hs : a.eval s = v) (hown : OwnI w B0 v xs) (A : Option Addr) (c : Nat) (hx : a.eval x = .slice A ys.length c)
    (hr : Rd w B A c ys) (hn : xs.length + ys.length ≤ 4194304) (hB : B0 ≤ w.heap.size)
    (h : ∀ v' w', OwnI w' B0 v' (xs ++ ys) → Below B0 w w' → w.grownBy w' v.ownBlock → (v'.ownBlock = v.ownBlock ∨ v'.ownBlock = some w.heap.size) → K (a.put o.dst v') w') :
    if Region.wanted o (yielded ops a.tmps) = true then Oper.wp Try.prog o a w K Q else E := by
  have hw : Region.wanted o (yielded ops a.tmps) = true := by simp [Region.wanted, hgd]
  rw [if_pos hw]
  exact wp_append_rd w s x ho B0 B v xs ys hs hown A c hx hr hn hB h

end Go.Proofs.Ytiacfaeanlkalaa
