/- FnExactIsClue returns true for every input and leaves its arguments as they were.  No conditions. -/
import Derived.Test.YtmiojofeoaocfaaPzRow
import Derived.Test.YtmiojofeoaocfaaLawIsClue
import Derived.Test.YtmiojofeoaocfaaPzI
namespace Go.Proofs.Ytmiojofeoaocfaa
set_option maxRecDepth 100000
open Go.ChangeShapes Go.WideShapes Go.ChangeAt Go.RowKit

theorem isClue_all (a0_0 a0_1 a0_2 : Int) (w : World) (_lo0_0 : -9223372036854775808 ≤ a0_0) (_hi0_0 : a0_0 ≤ 9223372036854775807) (_lo0_1 : -9223372036854775808 ≤ a0_1) (_hi0_1 : a0_1 ≤ 9223372036854775807) (_lo0_2 : -9223372036854775808 ≤ a0_2) (_hi0_2 : a0_2 ≤ 9223372036854775807) :
    Calls Try.prog 3 #[.agg #[.int .i64 a0_0, .int .i64 a0_1, .int .i64 a0_2]] w fun e w' => e = .returned (.bool true) ∧ Below w.heap.size w w' := by
  exact isClue_walk a0_0 a0_1 a0_2 (clueB a0_0 a0_1 a0_2) w (fun w => specIsClue_any a0_0 a0_1 a0_2 w) (fun w => implClue_any a0_0 a0_1 a0_2 w)

set_option maxRecDepth 100000 in
theorem isClue_lifted (os : Os) (started : os.Started) (H : Type) (enc : TypeId × Value → H) :
    ReturnsInHanded {} Try.checked os 3 .any (Rows.fnExactIsClueSpec.pre6 enc Try.prog Try.f3 Rows.fnExactIsClueRow.domain false) (Rows.fnExactIsClueSpec.post enc Try.prog Try.f3 false true false false) := by
  refine returnsInHanded_of_change (C := Try.checked) own started (by kernel_rfl) Try.func3
    (ChangeSpec.witness6 (enc := enc) (C := Try.checked) false ⟨#[], #[.agg #[.int .i64 0, .int .i64 0, .int .i64 0]], []⟩ 8 (by kernel_rfl) (by kernel_rfl) (by kernel_rfl) (by kernel_rfl)) ?_
  intro W base args ds gs before hval0 hW _ _
  have hval : ∀ (j : Nat) t v, Try.f3.params[j]? = some t → args[j]? = some v → Value.okWide Try.prog W .any base t v := hval0
  have hW' := hW
  obtain ⟨p, q, hA0, hV, rfl, _, _⟩ := hW
  have hA : DataW.TrodAll enc Try.prog W 0 (fun _ => true) true Try.f3.params.toList args.toList ds p := hA0
  rw [Try.params3] at hA hval
  obtain ⟨v0, vs0, d0, ds0, p0, q0, hargs, rfl, rfl, h0, r0⟩ := trodAll_cons hA
  obtain ⟨rfl, rfl, rfl⟩ := trodAll_nil r0
  obtain rfl : args = #[v0] := by cases args; simp_all
  obtain ⟨rfl, rfl⟩ := trodVars_none hV
  have k0 := h0
  have lt0 : ∀ x ∈ p0, x.block < W.heap.size := by obtain ⟨m, hm⟩ := k0; exact DataW.trod_lt m _ _ _ hm
  obtain ⟨a0_0, a0_1, a0_2, e0, wb0_0, wb0_1, wb0_2⟩ := inClue_of (hval 0 23 v0 rfl rfl) h0
  subst e0
  clear hA0 hval0
  refine (isClue_all a0_0 a0_1 a0_2 W wb0_0.1 wb0_0.2 wb0_1.1 wb0_1.2 wb0_2.1 wb0_2.2).mono fun e W' ⟨he, bel⟩ => ?_
  subst he
  exact ⟨_, rfl, _, _, _, [], _, [], hW', trodAll_mk1 (shut_bool Try.underlying4 _), (trodAll_cons_mk (Below.trod laidOut (by kernel_rfl) (of_decide_eq_true (by kernel_rfl)) k0 bel lt0) trodAll_mk0), rfl, bel.frame _, fun h => by cases h⟩

theorem isClue_holds : Rows.FnExactIsClueSaid :=
  OpenClaim.holds_of_wide 3 Try.f3 rfl rfl rfl rfl rfl rfl rfl ⟨rfl, rfl, rfl, rfl, rfl⟩ rfl rfl rfl rfl rfl (by kernel_rfl) Try.func3 (by kernel_rfl)
    (of_decide_eq_true (by kernel_rfl)) (by unfold Func.isWrapper; first | (rw [if_pos (by decide +kernel)]; kernel_rfl) | (rw [if_neg (by decide +kernel)]; exact ⟨rfl, rfl⟩))
    (fun os started H enc _ => isClue_lifted os started H enc)
#print axioms isClue_holds

end Go.Proofs.Ytmiojofeoaocfaa
