/- FnExactStepsAtSide returns true for every input and leaves its arguments as they were.  No conditions. -/
import Derived.Test.YtomjebelgnecfaaGRow
import Derived.Test.YtomjebelgnecfaaLawStepsAtSide
import Derived.Test.YtomjebelgnecfaaSpN
import Derived.Test.YtomjebelgnecfaaGStr
namespace Go.Proofs.Ytomjebelgnecfaa
open Go.ChangeShapes Go.WideShapes Go.ChangeAt Go.RowKit

theorem stepsAtSide_slong1 (a0_0 a0_1 a0_2 : Int) (s1 : ByteArray) (w : World) (hn1 : 1048576 < s1.size) (hs1 : s1.size ≤ 9223372036854775807) :
    Calls Try.prog 5 #[.agg #[.int .i64 a0_0, .int .i64 a0_1, .int .i64 a0_2], .string s1] w fun e w' => e = .returned (.bool true) ∧ Below w.heap.size w w' := by
  go_enter Try.func5, Try.ntmps5
  go_wp2_with fail
  go_ret
  exact ⟨rfl, below_alloc _ _⟩

theorem stepsAtSide_all (a0_0 a0_1 a0_2 : Int) (s1 : ByteArray) (w : World) (_lo0_0 : -9223372036854775808 ≤ a0_0) (_hi0_0 : a0_0 ≤ 9223372036854775807) (_lo0_1 : -9223372036854775808 ≤ a0_1) (_hi0_1 : a0_1 ≤ 9223372036854775807) (_lo0_2 : -9223372036854775808 ≤ a0_2) (_hi0_2 : a0_2 ≤ 9223372036854775807) (hs1 : s1.size ≤ 9223372036854775807) :
    Calls Try.prog 5 #[.agg #[.int .i64 a0_0, .int .i64 a0_1, .int .i64 a0_2], .string s1] w fun e w' => e = .returned (.bool true) ∧ Below w.heap.size w w' := by
  by_cases hn1 : 1048576 < s1.size
  · exact stepsAtSide_slong1 a0_0 a0_1 a0_2 s1 w hn1 hs1
  replace hn1 : s1.size ≤ 1048576 := by omega
  exact stepsAtSide_walk a0_0 a0_1 a0_2 s1 (selR (sdB a0_0 a0_1 a0_2 s1) (sideP a0_1 (sdI s1)) a0_0) (sdB a0_0 a0_1 a0_2 s1) (selR_length _ _ (fun h => by have := sdB_le h; omega)) w hn1 (fun w => specStepsAtSide_any a0_0 a0_1 a0_2 s1 w) (fun w => implStepsAtSide_any a0_0 a0_1 a0_2 s1 w)

set_option maxRecDepth 100000 in
theorem stepsAtSide_lifted (os : Os) (started : os.Started) (H : Type) (enc : TypeId × Value → H) :
    ReturnsInHanded {} Try.checked os 5 .any (Rows.fnExactStepsAtSideSpec.pre6 enc Try.prog Try.f5 Rows.fnExactStepsAtSideRow.domain false) (Rows.fnExactStepsAtSideSpec.post enc Try.prog Try.f5 false true false false) := by
  refine returnsInHanded_of_change (C := Try.checked) own started (by kernel_rfl) Try.func5
    (ChangeSpec.witness6 (enc := enc) (C := Try.checked) false ⟨#[], #[.agg #[.int .i64 0, .int .i64 0, .int .i64 0], .string ⟨#[]⟩], []⟩ 8 (by kernel_rfl) (by kernel_rfl) (by kernel_rfl) (by kernel_rfl)) ?_
  intro W base args ds gs before hval0 hW _ _
  have hval : ∀ (j : Nat) t v, Try.f5.params[j]? = some t → args[j]? = some v → Value.okWide Try.prog W .any base t v := hval0
  have hW' := hW
  obtain ⟨p, q, hA0, hV, rfl, _, _⟩ := hW
  have hA : DataW.TrodAll enc Try.prog W 0 (fun _ => true) true Try.f5.params.toList args.toList ds p := hA0
  rw [Try.params5] at hA hval
  obtain ⟨v0, vs0, d0, ds0, p0, q0, hargs, rfl, rfl, h0, r0⟩ := trodAll_cons hA
  obtain ⟨v1, vs1, d1, ds1, p1, q1, rfl, rfl, rfl, h1, r1⟩ := trodAll_cons r0
  obtain ⟨rfl, rfl, rfl⟩ := trodAll_nil r1
  obtain rfl : args = #[v0, v1] := by cases args; simp_all
  obtain ⟨rfl, rfl⟩ := trodVars_none hV
  have k0 := h0
  have lt0 : ∀ x ∈ p0, x.block < W.heap.size := by obtain ⟨m, hm⟩ := k0; exact DataW.trod_lt m _ _ _ hm
  obtain ⟨a0_0, a0_1, a0_2, e0, wb0_0, wb0_1, wb0_2⟩ := inSpiral_of (hval 0 23 v0 rfl rfl) h0
  subst e0
  have k1 := h1
  have lt1 : ∀ x ∈ p1, x.block < W.heap.size := by obtain ⟨m, hm⟩ := k1; exact DataW.trod_lt m _ _ _ hm
  obtain ⟨s1, e1, ns1⟩ := inS_of (hval 1 9 v1 rfl rfl) h1
  subst e1
  clear hA0 hval0
  refine (stepsAtSide_all a0_0 a0_1 a0_2 s1 W wb0_0.1 wb0_0.2 wb0_1.1 wb0_1.2 wb0_2.1 wb0_2.2 ns1).mono fun e W' ⟨he, bel⟩ => ?_
  subst he
  exact ⟨_, rfl, _, _, _, [], _, [], hW', trodAll_mk1 (shut_bool Try.underlying4 _), (trodAll_cons_mk (Below.trod laidOut (by kernel_rfl) (of_decide_eq_true (by kernel_rfl)) k0 bel lt0) (trodAll_cons_mk (Below.trod laidOut (by kernel_rfl) (of_decide_eq_true (by kernel_rfl)) k1 bel lt1) trodAll_mk0)), rfl, bel.frame _, fun h => by cases h⟩

theorem stepsAtSide_holds : Rows.FnExactStepsAtSideSaid :=
  OpenClaim.holds_of_wide 5 Try.f5 rfl rfl rfl rfl rfl rfl rfl ⟨rfl, rfl, rfl, rfl, rfl⟩ rfl rfl rfl rfl rfl (by kernel_rfl) Try.func5 (by kernel_rfl)
    (of_decide_eq_true (by kernel_rfl)) (by unfold Func.isWrapper; first | (rw [if_pos (by decide +kernel)]; kernel_rfl) | (rw [if_neg (by decide +kernel)]; exact ⟨rfl, rfl⟩))
    (fun os started H enc _ => stepsAtSide_lifted os started H enc)
#print axioms stepsAtSide_holds

end Go.Proofs.Ytomjebelgnecfaa
