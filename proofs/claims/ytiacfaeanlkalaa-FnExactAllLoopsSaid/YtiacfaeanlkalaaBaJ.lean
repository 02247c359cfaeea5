/- append beside a sender: goroutine 0's own row grows. -/
import Derived.Test.YtiacfaeanlkalaaBaS
import Derived.Test.YtiacfaeanlkalaaGnN
import Derived.Test.YtiacfaeanlkalaaGApp
import Derived.Conc.AppendWalk
import Derived.Conc.Script
set_option linter.unusedSimpArgs false
namespace Go.Proofs.Ytiacfaeanlkalaa
set_option maxRecDepth 100000
open Go.Conc Go.RowKit

theorem jm_turned {b o : Nat} {xs : List Int} {w w' : World} {L : List Nat} (h : Jm b o xs w) (hT : Turned w w' L) (hb : b < w.heap.size) (hL : b ∉ L) : Jm b o xs w' := by
  intro k hk
  rw [← h k hk]
  simp [World.cell?, hT.block b hb hL]

/-- an entry of goroutine 0's while the sender is about: an access to a cell, a write only from block N on; or a neutral mark -/
def Does (N : Nat) (e : Event) : Prop := (∃ ad, e.loc = .cell ad ∧ (e.write = true → N ≤ ad.block)) ∨ ∃ m, e = ⟨.mark m, false, true⟩ ∧ Neutral m
theorem d_turn {P : Program} {X : Gen P} {u u' : World} {es : Array Event} {L : List Nat} {b o N : Nat} {xs : List Int} (hXK : X.K = Jm b o xs) (hXN : X.N = N) (hb : b < N) (hN : N ≤ u.heap.size) (hT : Turned u u' L) (hL : ∀ k ∈ L, N ≤ k)
    (hes : ∀ e ∈ es, Does N e) : DG X u u' es := by
  have h1 := X.c1N
  have h2 := X.c2N
  rw [hXN] at h1 h2
  have far : ∀ k, k < N → k ∉ L := fun k hk hm => by have := hL k hm; omega
  refine ⟨fun h => ?_, hT.block _ (by omega) (far _ h1), hT.block _ (by omega) (far _ h2), fun e he => ?_⟩
  · rw [hXK] at h ⊢
    exact jm_turned h hT (by omega) (far _ hb)
  · rcases hes e he with ⟨ad, hl, hw⟩ | ⟨m, rfl, hm⟩
    · refine ⟨⟨by rw [hl]; simp, by rw [hl]; simp⟩, fun t ht hS => ?_⟩
      obtain ⟨t1, t2⟩ := ofEvent_touch (fun m hm => by rw [hl] at hm; cases hm) ht
      rw [t1, hl] at hS
      rw [t2]
      rcases hS with ⟨a, ha, hlt⟩ | hS
      · simp only [Loc.cell.injEq] at ha
        subst ha
        rw [hXN] at hlt
        cases hwr : e.write with
        | false => rfl
        | true => have := hw hwr; omega
      · cases hS
    · exact ⟨⟨fun h => hm.ne_disable (by simpa using h), fun h => hm.ne_enable (by simpa using h)⟩, fun t ht _ => by rw [show MemAct.ofEvent ⟨.mark m, false, true⟩ = .mark m from rfl, hm.touch] at ht; cases ht⟩
theorem does_cell {N : Nat} {ad : Addr} {wr sy : Bool} (h : wr = true → N ≤ ad.block) : Does N ⟨.cell ad, wr, sy⟩ := .inl ⟨ad, rfl, h⟩

/-- the blocks that a row owns -/
def ownL (v : Value) : List Nat := match v.ownBlock with | some g => [g] | none => []
theorem ownL_mem {v : Value} {k : Nat} (h : k ∈ ownL v) : v.ownBlock = some k := by
  unfold ownL at h
  cases hv : v.ownBlock with
  | none => rw [hv] at h; cases h
  | some g => rw [hv] at h; simp at h; rw [h]
theorem ownL_of {v : Value} {k : Nat} (h : v.ownBlock = some k) : k ∈ ownL v := by unfold ownL; rw [h]; simp

theorem run_append_op {P : Program} {o : Oper} {ρ : Operand → Value} {w w' : World} {v xv v' : Value} {s x : Operand} {t : TypeId} (ho : o.op = .call { callee := .builtin .append, args := #[s, x], argTypes := #[t, t] }) (hs : ρ s = v) (hx : ρ x = xv)
    (hr : (Builtin.append_ #[t, t] o.type #[v, xv]).run P w = .ok v' w') : (execOp ρ o).run P w = .ok (.value v') w' := by
  unfold execOp
  simp only [ho, resolve, invoke, builtin, Sem.run_bind, Sem.run_pure, Result.andThen_ok, List.map_toArray, List.map_cons, List.map_nil, hs, hx, hr]

/-- APPEND ONE NUMBER beside the sender. -/
theorem wpm_append {X : Gen Try.prog} {x : Int} {fn : FuncId} {a : Act} {u : World} {Q : Exit → Mode Try.prog → Act → World → Prop} {ops : Array Oper} {i : Nat} {rest : List Nat} {o : Oper} {b o' N B0 g : Nat} {xs l : List Int} {v : Value} {y : Int} {s z : Operand}
    (hXK : X.K = Jm b o' xs) (hXN : X.N = N) (hb : b < N) (hN : N ≤ B0) (hB0 : B0 ≤ u.heap.size)
    (ho : ops[i]? = some o) (hw : Region.wanted o (yielded ops a.tmps) = true) (hop : o.op = .call { callee := .builtin .append, args := #[s, z], argTypes := #[22, 22] }) (hs : a.eval s = v) (hz : a.eval z = .slice (some ⟨g, 0, none⟩) 1 1)
    (hown : OwnI u B0 v l) (hc : u.cell? ⟨g, 0, none⟩ = some (.int .i64 y)) (hn : l.length ≤ 1000)
    (h : ∀ d v' u', OwnI u' B0 v' (l ++ [y]) → Turned (u.at d) u' (ownL v) → WpM fn (.gen X x) (.inRegion ops rest) Q (a.put o.dst v') u') : WpM fn (.gen X x) (.inRegion ops (i :: rest)) Q a u := by
  refine .op ho hw fun u1 hu => ?_
  obtain ⟨d, rfl⟩ := hu
  have hown' : OwnI (u.at d) B0 v l := hown
  have hr : Rd (u.at d) (g + 1) (some ⟨g, 0, none⟩) 1 [y] := ⟨by simp, fun k hk => ⟨g, 0, rfl, by omega, by
    have : k = 0 := by simp at hk; exact hk
    subst this
    exact hc⟩⟩
  obtain ⟨v', u', hrun, h1, h2, h3, h4⟩ := run_append_rd (u.at d) o.type B0 (g + 1) v l [y] hown' _ 1 hr (by simp; omega) hB0
  have hT : Turned (u.at d) u' (ownL v) := Turned.of_grown h3 (fun k hk => ownL_of hk)
  refine ⟨v', u', run_append_op hop hs hz hrun, ?_, h d v' u' h1 hT⟩
  change DG _ _ _ _
  refine d_turn hXK hXN hb (Nat.le_trans hN hB0) hT (fun k hk => Nat.le_trans hN ((hown.lt k (ownL_mem hk)).1)) (fun e he => ?_)
  have hm := mem_listed he
  rw [events_append_op s z 22 hop hs hz] at hm
  obtain ⟨i0, hi, hz0, hsz, hby⟩ := info_parts int_info
  rcases events_append_where (P := Try.prog) (u.at d) B0 22 o.type 3 i0 (.int .i64 0) 1 8 Try.underlying22 hi hz0 hsz hby v l.length _ hown' ⟨g, 0, none⟩ 1 1 [.int .i64 y] rfl (by
      intro j w hw
      cases j with
      | zero => simp at hw; subst hw; exact hc
      | succ j => simp at hw) (by simp [Value.oneCell']) (by simp only [maxLen]; omega) (by omega) e hm with ⟨ad, h5, h6⟩ | h5
  · refine .inl ⟨ad, h5, fun hwr => ?_⟩
    rcases h6 with ⟨h7, _⟩ | h7
    · rw [h7] at hwr; cases hwr
    · exact Nat.le_trans hN ((hown.lt _ h7.symm).1)
  · exact .inr h5
end Go.Proofs.Ytiacfaeanlkalaa
