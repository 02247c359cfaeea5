/- FnExactCoverPlan returns true for every input and leaves its arguments as they were.  No conditions. -/
import Derived.Test.YtcidehjamkebiaaGRow
import Derived.Test.YtcidehjamkebiaaLawCoverPlan
import Derived.Test.YtcidehjamkebiaaCaC
namespace Go.Proofs.Ytcidehjamkebiaa
open Go.ChangeShapes Go.WideShapes Go.ChangeAt Go.RowKit

theorem coverPlan_long0 (Z0 : Option Addr) (d0 : Nat) (xs0 : List Int) (n1 : Int) (n2 : Int) (w : World) (hn0 : 1048576 < xs0.length) (hm0 : xs0.length ≤ 9223372036854775807) :
    Calls Try.prog 7 #[.slice Z0 xs0.length d0, .int .i64 n1, .int .i64 n2] w fun e w' => e = .returned (.bool true) ∧ Below w.heap.size w w' := by
  go_enter Try.func7, Try.ntmps7
  go_wp2_with fail
  go_ret
  exact ⟨rfl, Below.refl _ _⟩

theorem coverPlan_all (Z0 : Option Addr) (d0 : Nat) (xs0 : List Int) (n1 : Int) (n2 : Int) (w : World) (r0 : Rd w w.heap.size Z0 d0 xs0) (hm0 : xs0.length ≤ 9223372036854775807) (_lo1 : -9223372036854775808 ≤ n1) (_hi1 : n1 ≤ 9223372036854775807) (_lo2 : -9223372036854775808 ≤ n2) (_hi2 : n2 ≤ 9223372036854775807) :
    Calls Try.prog 7 #[.slice Z0 xs0.length d0, .int .i64 n1, .int .i64 n2] w fun e w' => e = .returned (.bool true) ∧ Below w.heap.size w w' := by
  by_cases hn0 : 1048576 < xs0.length
  · exact coverPlan_long0 Z0 d0 xs0 n1 n2 w hn0 hm0
  replace hn0 : xs0.length ≤ 1048576 := by omega
  exact coverPlan_walk Z0 d0 xs0 n1 n2 (orL (covB xs0 n1 n2) (covR xs0 n1 n2)) (covB xs0 n1 n2) covR_length w r0 hn0 (fun Z0 d0 B w h0 hB => specCoverPlan_any Z0 d0 xs0 n1 n2 B w h0 hB hn0) (fun Z0 d0 B w h0 hB => implCoverPlan_any Z0 d0 xs0 n1 n2 B w h0 hB hn0)

set_option maxRecDepth 100000 in
theorem coverPlan_lifted (os : Os) (started : os.Started) (H : Type) (enc : TypeId × Value → H) :
    ReturnsInHanded {} Try.checked os 7 .any (Rows.fnExactCoverPlanSpec.pre6 enc Try.prog Try.f7 Rows.fnExactCoverPlanRow.domain false) (Rows.fnExactCoverPlanSpec.post enc Try.prog Try.f7 false true false false) := by
  refine returnsInHanded_of_change (C := Try.checked) own started (by kernel_rfl) Try.func7
    (ChangeSpec.witness6 (enc := enc) (C := Try.checked) false ⟨#[], #[.slice none 0 0, .int .i64 0, .int .i64 0], []⟩ 8 (by kernel_rfl) (by kernel_rfl) (by kernel_rfl) (by kernel_rfl)) ?_
  intro W base args ds gs before hval0 hW _ _
  have hval : ∀ (j : Nat) t v, Try.f7.params[j]? = some t → args[j]? = some v → Value.okWide Try.prog W .any base t v := hval0
  have hW' := hW
  obtain ⟨p, q, hA0, hV, rfl, _, _⟩ := hW
  have hA : DataW.TrodAll enc Try.prog W 0 (fun _ => true) true Try.f7.params.toList args.toList ds p := hA0
  rw [Try.params7] at hA hval
  obtain ⟨v0, vs0, d0, ds0, p0, q0, hargs, rfl, rfl, h0, r0⟩ := trodAll_cons hA
  obtain ⟨v1, vs1, d1, ds1, p1, q1, rfl, rfl, rfl, h1, r1⟩ := trodAll_cons r0
  obtain ⟨v2, vs2, d2, ds2, p2, q2, rfl, rfl, rfl, h2, r2⟩ := trodAll_cons r1
  obtain ⟨rfl, rfl, rfl⟩ := trodAll_nil r2
  obtain rfl : args = #[v0, v1, v2] := by cases args; simp_all
  obtain ⟨rfl, rfl⟩ := trodVars_none hV
  have k0 := h0
  have lt0 : ∀ x ∈ p0, x.block < W.heap.size := by obtain ⟨m, hm⟩ := k0; exact DataW.trod_lt m _ _ _ hm
  obtain ⟨Z0, dz0, xs0, e0, rx0, nx0⟩ := inL_of (hval 0 22 v0 rfl rfl) h0
  subst e0
  have k1 := h1
  have lt1 : ∀ x ∈ p1, x.block < W.heap.size := by obtain ⟨m, hm⟩ := k1; exact DataW.trod_lt m _ _ _ hm
  obtain ⟨n1, e1, wb1⟩ := inI_of (hval 1 3 v1 rfl rfl) h1
  subst e1
  have k2 := h2
  have lt2 : ∀ x ∈ p2, x.block < W.heap.size := by obtain ⟨m, hm⟩ := k2; exact DataW.trod_lt m _ _ _ hm
  obtain ⟨n2, e2, wb2⟩ := inI_of (hval 2 3 v2 rfl rfl) h2
  subst e2
  clear hA0 hval0
  refine (coverPlan_all Z0 dz0 xs0 n1 n2 W rx0 nx0 wb1.1 wb1.2 wb2.1 wb2.2).mono fun e W' ⟨he, bel⟩ => ?_
  subst he
  exact ⟨_, rfl, _, _, _, [], _, [], hW', trodAll_mk1 (shut_bool Try.underlying4 _), (trodAll_cons_mk (Below.trod laidOut (by kernel_rfl) (of_decide_eq_true (by kernel_rfl)) k0 bel lt0) (trodAll_cons_mk (Below.trod laidOut (by kernel_rfl) (of_decide_eq_true (by kernel_rfl)) k1 bel lt1) (trodAll_cons_mk (Below.trod laidOut (by kernel_rfl) (of_decide_eq_true (by kernel_rfl)) k2 bel lt2) trodAll_mk0))), rfl, bel.frame _, fun h => by cases h⟩

theorem coverPlan_holds : Rows.FnExactCoverPlanSaid :=
  OpenClaim.holds_of_wide 7 Try.f7 rfl rfl rfl rfl rfl rfl rfl ⟨rfl, rfl, rfl, rfl, rfl⟩ rfl rfl rfl rfl rfl (by kernel_rfl) Try.func7 (by kernel_rfl)
    (of_decide_eq_true (by kernel_rfl)) (by unfold Func.isWrapper; first | (rw [if_pos (by decide +kernel)]; kernel_rfl) | (rw [if_neg (by decide +kernel)]; exact ⟨rfl, rfl⟩))
    (fun os started H enc _ => coverPlan_lifted os started H enc)
#print axioms coverPlan_holds

end Go.Proofs.Ytcidehjamkebiaa
