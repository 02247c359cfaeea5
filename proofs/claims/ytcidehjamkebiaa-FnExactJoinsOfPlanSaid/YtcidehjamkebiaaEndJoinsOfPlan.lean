/- FnExactJoinsOfPlan returns true for every input and leaves its arguments as they were.  No conditions. -/
import Derived.Test.YtcidehjamkebiaaGRow
import Derived.Test.YtcidehjamkebiaaLawJoinsOfPlan
import Derived.Test.YtcidehjamkebiaaCaM
namespace Go.Proofs.Ytcidehjamkebiaa
open Go.ChangeShapes Go.WideShapes Go.ChangeAt Go.RowKit

theorem joinsOfPlan_long0 (Z0 : Option Addr) (d0 : Nat) (xs0 : List Int) (w : World) (hn0 : 1048576 < xs0.length) (hm0 : xs0.length ≤ 9223372036854775807) :
    Calls Try.prog 8 #[.slice Z0 xs0.length d0] w fun e w' => e = .returned (.bool true) ∧ Below w.heap.size w w' := by
  go_enter Try.func8, Try.ntmps8
  go_wp2_with fail
  go_ret
  exact ⟨rfl, Below.refl _ _⟩

theorem joinsOfPlan_all (Z0 : Option Addr) (d0 : Nat) (xs0 : List Int) (w : World) (r0 : Rd w w.heap.size Z0 d0 xs0) (hm0 : xs0.length ≤ 9223372036854775807) :
    Calls Try.prog 8 #[.slice Z0 xs0.length d0] w fun e w' => e = .returned (.bool true) ∧ Below w.heap.size w w' := by
  by_cases hn0 : 1048576 < xs0.length
  · exact joinsOfPlan_long0 Z0 d0 xs0 w hn0 hm0
  replace hn0 : xs0.length ≤ 1048576 := by omega
  exact joinsOfPlan_walk Z0 d0 xs0 (orL (planB xs0) (selL (joinP xs0) xs0.length)) (planB xs0) (orL_length _ (Nat.le_trans (selL_length _ _) hn0)) w r0 hn0 (fun Z0 d0 B w h0 hB => specJoins_any Z0 d0 xs0 B w h0 hB hn0) (fun Z0 d0 B w h0 hB => implJoins_any Z0 d0 xs0 B w h0 hB hn0)

set_option maxRecDepth 100000 in
theorem joinsOfPlan_lifted (os : Os) (started : os.Started) (H : Type) (enc : TypeId × Value → H) :
    ReturnsInHanded {} Try.checked os 8 .any (Rows.fnExactJoinsOfPlanSpec.pre6 enc Try.prog Try.f8 Rows.fnExactJoinsOfPlanRow.domain false) (Rows.fnExactJoinsOfPlanSpec.post enc Try.prog Try.f8 false true false false) := by
  refine returnsInHanded_of_change (C := Try.checked) own started (by kernel_rfl) Try.func8
    (ChangeSpec.witness6 (enc := enc) (C := Try.checked) false ⟨#[], #[.slice none 0 0], []⟩ 8 (by kernel_rfl) (by kernel_rfl) (by kernel_rfl) (by kernel_rfl)) ?_
  intro W base args ds gs before hval0 hW _ _
  have hval : ∀ (j : Nat) t v, Try.f8.params[j]? = some t → args[j]? = some v → Value.okWide Try.prog W .any base t v := hval0
  have hW' := hW
  obtain ⟨p, q, hA0, hV, rfl, _, _⟩ := hW
  have hA : DataW.TrodAll enc Try.prog W 0 (fun _ => true) true Try.f8.params.toList args.toList ds p := hA0
  rw [Try.params8] at hA hval
  obtain ⟨v0, vs0, d0, ds0, p0, q0, hargs, rfl, rfl, h0, r0⟩ := trodAll_cons hA
  obtain ⟨rfl, rfl, rfl⟩ := trodAll_nil r0
  obtain rfl : args = #[v0] := by cases args; simp_all
  obtain ⟨rfl, rfl⟩ := trodVars_none hV
  have k0 := h0
  have lt0 : ∀ x ∈ p0, x.block < W.heap.size := by obtain ⟨m, hm⟩ := k0; exact DataW.trod_lt m _ _ _ hm
  obtain ⟨Z0, dz0, xs0, e0, rx0, nx0⟩ := inL_of (hval 0 22 v0 rfl rfl) h0
  subst e0
  clear hA0 hval0
  refine (joinsOfPlan_all Z0 dz0 xs0 W rx0 nx0).mono fun e W' ⟨he, bel⟩ => ?_
  subst he
  exact ⟨_, rfl, _, _, _, [], _, [], hW', trodAll_mk1 (shut_bool Try.underlying4 _), (trodAll_cons_mk (Below.trod laidOut (by kernel_rfl) (of_decide_eq_true (by kernel_rfl)) k0 bel lt0) trodAll_mk0), rfl, bel.frame _, fun h => by cases h⟩

theorem joinsOfPlan_holds : Rows.FnExactJoinsOfPlanSaid :=
  OpenClaim.holds_of_wide 8 Try.f8 rfl rfl rfl rfl rfl rfl rfl ⟨rfl, rfl, rfl, rfl, rfl⟩ rfl rfl rfl rfl rfl (by kernel_rfl) Try.func8 (by kernel_rfl)
    (of_decide_eq_true (by kernel_rfl)) (by unfold Func.isWrapper; first | (rw [if_pos (by decide +kernel)]; kernel_rfl) | (rw [if_neg (by decide +kernel)]; exact ⟨rfl, rfl⟩))
    (fun os started H enc _ => joinsOfPlan_lifted os started H enc)
#print axioms joinsOfPlan_holds

end Go.Proofs.Ytcidehjamkebiaa
