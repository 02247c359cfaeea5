/- FnExactStepsOfRoll returns true for every input and leaves its arguments as they were.  No conditions. -/
import Derived.Test.YtcidehjamkebiaaGRow
import Derived.Test.YtcidehjamkebiaaLawStepsOfRoll
import Derived.Test.YtcidehjamkebiaaCaB
namespace Go.Proofs.Ytcidehjamkebiaa
open Go.ChangeShapes Go.WideShapes Go.ChangeAt Go.RowKit

theorem stepsOfRoll_all (n0 : Int) (n1 : Int) (w : World) (_lo0 : -9223372036854775808 ≤ n0) (_hi0 : n0 ≤ 9223372036854775807) (_lo1 : -9223372036854775808 ≤ n1) (_hi1 : n1 ≤ 9223372036854775807) :
    Calls Try.prog 4 #[.int .i64 n0, .int .i64 n1] w fun e w' => e = .returned (.bool true) ∧ Below w.heap.size w w' := by
  exact stepsOfRoll_walk n0 n1 (orI (srB n0 n1) (n0 / n1)) (orI (srB n0 n1) (n0 % n1)) (srB n0 n1) w (fun w => specStepsOfRoll_any n0 n1 w) (fun w => implStepsOfRoll_any n0 n1 w)

set_option maxRecDepth 100000 in
theorem stepsOfRoll_lifted (os : Os) (started : os.Started) (H : Type) (enc : TypeId × Value → H) :
    ReturnsInHanded {} Try.checked os 4 .any (Rows.fnExactStepsOfRollSpec.pre6 enc Try.prog Try.f4 Rows.fnExactStepsOfRollRow.domain false) (Rows.fnExactStepsOfRollSpec.post enc Try.prog Try.f4 false true false false) := by
  refine returnsInHanded_of_change (C := Try.checked) own started (by kernel_rfl) Try.func4
    (ChangeSpec.witness6 (enc := enc) (C := Try.checked) false ⟨#[], #[.int .i64 0, .int .i64 0], []⟩ 8 (by kernel_rfl) (by kernel_rfl) (by kernel_rfl) (by kernel_rfl)) ?_
  intro W base args ds gs before hval0 hW _ _
  have hval : ∀ (j : Nat) t v, Try.f4.params[j]? = some t → args[j]? = some v → Value.okWide Try.prog W .any base t v := hval0
  have hW' := hW
  obtain ⟨p, q, hA0, hV, rfl, _, _⟩ := hW
  have hA : DataW.TrodAll enc Try.prog W 0 (fun _ => true) true Try.f4.params.toList args.toList ds p := hA0
  rw [Try.params4] at hA hval
  obtain ⟨v0, vs0, d0, ds0, p0, q0, hargs, rfl, rfl, h0, r0⟩ := trodAll_cons hA
  obtain ⟨v1, vs1, d1, ds1, p1, q1, rfl, rfl, rfl, h1, r1⟩ := trodAll_cons r0
  obtain ⟨rfl, rfl, rfl⟩ := trodAll_nil r1
  obtain rfl : args = #[v0, v1] := by cases args; simp_all
  obtain ⟨rfl, rfl⟩ := trodVars_none hV
  have k0 := h0
  have lt0 : ∀ x ∈ p0, x.block < W.heap.size := by obtain ⟨m, hm⟩ := k0; exact DataW.trod_lt m _ _ _ hm
  obtain ⟨n0, e0, wb0⟩ := inI_of (hval 0 3 v0 rfl rfl) h0
  subst e0
  have k1 := h1
  have lt1 : ∀ x ∈ p1, x.block < W.heap.size := by obtain ⟨m, hm⟩ := k1; exact DataW.trod_lt m _ _ _ hm
  obtain ⟨n1, e1, wb1⟩ := inI_of (hval 1 3 v1 rfl rfl) h1
  subst e1
  clear hA0 hval0
  refine (stepsOfRoll_all n0 n1 W wb0.1 wb0.2 wb1.1 wb1.2).mono fun e W' ⟨he, bel⟩ => ?_
  subst he
  exact ⟨_, rfl, _, _, _, [], _, [], hW', trodAll_mk1 (shut_bool Try.underlying4 _), (trodAll_cons_mk (Below.trod laidOut (by kernel_rfl) (of_decide_eq_true (by kernel_rfl)) k0 bel lt0) (trodAll_cons_mk (Below.trod laidOut (by kernel_rfl) (of_decide_eq_true (by kernel_rfl)) k1 bel lt1) trodAll_mk0)), rfl, bel.frame _, fun h => by cases h⟩

theorem stepsOfRoll_holds : Rows.FnExactStepsOfRollSaid :=
  OpenClaim.holds_of_wide 4 Try.f4 rfl rfl rfl rfl rfl rfl rfl ⟨rfl, rfl, rfl, rfl, rfl⟩ rfl rfl rfl rfl rfl (by kernel_rfl) Try.func4 (by kernel_rfl)
    (of_decide_eq_true (by kernel_rfl)) (by unfold Func.isWrapper; first | (rw [if_pos (by decide +kernel)]; kernel_rfl) | (rw [if_neg (by decide +kernel)]; exact ⟨rfl, rfl⟩))
    (fun os started H enc _ => stepsOfRoll_lifted os started H enc)
#print axioms stepsOfRoll_holds

end Go.Proofs.Ytcidehjamkebiaa
