/- append of a whole list onto a row of the call's own, inside a fence: at the operation, in a plain region, in a region that draws its order. -/
import Derived.Test.YtenhlppijpmdgaaDoorGApp
import Derived.Maps.OwnIn
namespace Go.Proofs.YtenhlppijpmdgaaDoor
open Go.RowKit
set_option maxRecDepth 100000

theorem wpIn_append_rd {F : Fence} {nF : Nat} (w : World) {o : Oper} {a : Act} {K : Act → World → Prop} {Q : Exit → Act → World → Prop} (s x : Operand)
    (ho : o.op = .call { callee := .builtin .append, args := #[s, x], argTypes := #[33, 33] }) (B0 B : Nat) (v : Value) (xs ys : List Int) (hs : a.eval s = v) (hown : OwnI w B0 v xs) (A : Option Addr) (c : Nat) (hx : a.eval x = .slice A ys.length c)
    (hr : Rd w B A c ys) (hn : xs.length + ys.length ≤ 4194304) (hB : B0 ≤ w.heap.size)
    (h : ∀ v' w', OwnI w' B0 v' (xs ++ ys) → Below B0 w w' → w.grownBy w' v.ownBlock → (v'.ownBlock = v.ownBlock ∨ v'.ownBlock = some w.heap.size) → K (a.put o.dst v') w') : Oper.wpIn F nF Tryd.prog o a w K Q := by
  obtain ⟨v', w', hrun, h2, h3, h4, h5⟩ := run_append_rd w o.type B0 B v xs ys hown A c hr hn hB
  unfold Oper.wpIn
  refine ⟨by simp [Oper.about, ho, resolve, Target.leads, Sem.run_pure], ?_⟩
  rw [Oper.semAt_plain F _ _ (by rw [ho]; intro c hc'; cases hc')]
  simp [execOp, ho, resolve, invoke, builtin, hs, hx, hrun, Result.andThen]
  exact h v' w' h2 h3 h4 h5

/-- in a plain region -/
theorem wpListIn_append_rd {F : Fence} {nF : Nat} (w : World) {ops : Array Oper} {rest : List Oper} {o : Oper} {a : Act} {Q : Exit → Act → World → Prop} (hgd : o.guard = none) (s x : Operand)
    (ho : o.op = .call { callee := .builtin .append, args := #[s, x], argTypes := #[33, 33] }) (B0 B : Nat) (v : Value) (xs ys : List Int) (hs : a.eval s = v) (hown : OwnI w B0 v xs) (A : Option Addr) (c : Nat) (hx : a.eval x = .slice A ys.length c)
    (hr : Rd w B A c ys) (hn : xs.length + ys.length ≤ 4194304) (hB : B0 ≤ w.heap.size)
    (h : ∀ v' w', OwnI w' B0 v' (xs ++ ys) → Below B0 w w' → w.grownBy w' v.ownBlock → (v'.ownBlock = v.ownBlock ∨ v'.ownBlock = some w.heap.size) → wpListIn F nF Tryd.prog ops Q rest (a.put o.dst v') w') : wpListIn F nF Tryd.prog ops Q (o :: rest) a w :=
  wpListIn_plain hgd fun _ hK => wpIn_append_rd w s x ho B0 B v xs ys hs hown A c hx hr hn hB fun v' w' h2 h3 h4 h5 => hK _ _ (h v' w' h2 h3 h4 h5)

/-- in a region that draws its order -/
theorem step_append_rd_in {F : Fence} {nF : Nat} (w : World) {ops : Array Oper} {o : Oper} {a : Act} {K : Act → World → Prop} {Q : Exit → Act → World → Prop} {E : Prop} (hgd : o.guard = none) (s x : Operand)
    (ho : o.op = .call { callee := .builtin .append, args := #[s, x], argTypes := #[33, 33] }) (B0 B : Nat) (v : Value) (xs ys : List Int) (hs : a.eval s = v) (hown : OwnI w B0 v xs) (A : Option Addr) (c : Nat) (hx : a.eval x = .slice A ys.length c)
    (hr : Rd w B A c ys) (hn : xs.length + ys.length ≤ 4194304) (hB : B0 ≤ w.heap.size)
    (h : ∀ v' w', OwnI w' B0 v' (xs ++ ys) → Below B0 w w' → w.grownBy w' v.ownBlock → (v'.ownBlock = v.ownBlock ∨ v'.ownBlock = some w.heap.size) → K (a.put o.dst v') w') :
    if Region.wanted o (yielded ops a.tmps) = true then Oper.wpIn F nF Tryd.prog o a w K Q else E := by
  have hw : Region.wanted o (yielded ops a.tmps) = true := by simp [Region.wanted, hgd]
  rw [if_pos hw]
  exact wpIn_append_rd w s x ho B0 B v xs ys hs hown A c hx hr hn hB h

end Go.Proofs.YtenhlppijpmdgaaDoor
