/- FnExactMostStrides returns true for every input and leaves its arguments as they were. No conditions. -/
import Derived.Test.YtbenlmkhcdfgmaaLawMostStrides
import Derived.Test.YtbenlmkhcdfgmaaStMost
namespace Go.Proofs.Ytbenlmkhcdfgmaa
open Go.ChangeShapes Go.WideShapes Go.ChangeAt Go.RowKit

theorem mostStrides_big (st : Int) (A A' : Option Addr) (n n' c c' : Nat) (w : World) (hn0 : n ≤ 9223372036854775807) (hn1 : n' ≤ 9223372036854775807) (hs : 1048576 < n + n') :
    Calls Try.prog 4 #[.agg #[.int .i64 st, .slice A n c, .slice A' n' c']] w fun e w' => e = .returned (.bool true) ∧ Below w.heap.size w w' := by
  go_enter Try.func4, Try.ntmps4
  go_wp2_with fail
  refine (szStairs_no _ _ _ _ _ _ _ _ hn0 hn1 hs).mono ?_
  rintro e w1 ⟨rfl, hb1⟩
  go_wp2_with fail
  go_ret
  exact ⟨rfl, ((Below.refl _ _).alloc (Nat.le_refl _) _).trans (hb1.mono (by simp))⟩

theorem mostStrides_all (v : Value) (w : World) (h : InSt w v) :
    Calls Try.prog 4 #[v] w fun e w' => e = .returned (.bool true) ∧ Below w.heap.size w w' := by
  obtain ⟨st, A, A', c, c', ss, bs, rfl, r1, r2, n1, n2, b1, b2⟩ := h
  by_cases hs : ss.length + bs.length ≤ 1048576
  · exact mostStrides_walk st A A' c c' ss bs (strV true st ss bs) (strB true st ss bs) w ⟨r1, r2, by omega, by omega⟩ hs (fun A A' c c' B w h hB => specMost_any st A A' c c' ss bs B w h hB) (fun A A' c c' B w h hB => implMost_any st A A' c c' ss bs B w h hB)
  · exact mostStrides_big st A A' ss.length bs.length c c' w n1 n2 (by omega)

set_option maxRecDepth 100000 in
theorem mostStrides_lifted (os : Os) (started : os.Started) (H : Type) (enc : TypeId × Value → H) :
    ReturnsInHanded {} Try.checked os 4 .any (Rows.fnExactMostStridesSpec.pre6 enc Try.prog Try.f4 Rows.fnExactMostStridesRow.domain false) (Rows.fnExactMostStridesSpec.post enc Try.prog Try.f4 false true false false) := by
  refine returnsInHanded_of_change (C := Try.checked) own started (by kernel_rfl) Try.func4
    (ChangeSpec.witness6 (enc := enc) (C := Try.checked) false ⟨#[], #[.agg #[.int .i64 0, .slice none 0 0, .slice none 0 0]], []⟩ 8 (by kernel_rfl) (by kernel_rfl) (by kernel_rfl) (by kernel_rfl)) ?_
  intro W base args ds gs before hval0 hW _ _
  have hval : ∀ (j : Nat) t v, Try.f4.params[j]? = some t → args[j]? = some v → Value.okWide Try.prog W .any base t v := hval0
  have hW' := hW
  obtain ⟨p, q, hA0, hV, rfl, _, _⟩ := hW
  have hA : DataW.TrodAll enc Try.prog W 0 (fun _ => true) true Try.f4.params.toList args.toList ds p := hA0
  rw [Try.params4] at hA hval
  obtain ⟨v0, vs0, d0, ds0, p0, q0, hargs, rfl, rfl, h0, r0⟩ := trodAll_cons hA
  obtain ⟨rfl, rfl, rfl⟩ := trodAll_nil r0
  obtain rfl : args = #[v0] := by cases args; simp_all
  obtain ⟨rfl, rfl⟩ := trodVars_none hV
  have k0 := h0
  have lt0 : ∀ x ∈ p0, x.block < W.heap.size := by obtain ⟨m, hm⟩ := k0; exact DataW.trod_lt m _ _ _ hm
  have hin := inSt_of (hval 0 24 v0 rfl rfl) h0
  clear hA0 hval0
  refine (mostStrides_all v0 W hin).mono fun e W' ⟨he, bel⟩ => ?_
  subst he
  exact ⟨_, rfl, _, _, _, [], _, [], hW', trodAll_mk1 (shut_bool Try.underlying4 _), (trodAll_cons_mk (Below.trod laidOut (by kernel_rfl) (of_decide_eq_true (by kernel_rfl)) k0 bel lt0) trodAll_mk0), rfl, bel.frame _, fun h => by cases h⟩

theorem mostStrides_holds : Rows.FnExactMostStridesSaid :=
  OpenClaim.holds_of_wide 4 Try.f4 rfl rfl rfl rfl rfl rfl rfl ⟨rfl, rfl, rfl, rfl, rfl⟩ rfl rfl rfl rfl rfl (by kernel_rfl) Try.func4 (by kernel_rfl)
    (of_decide_eq_true (by kernel_rfl)) (by unfold Func.isWrapper; first | (rw [if_pos (by decide +kernel)]; kernel_rfl) | (rw [if_neg (by decide +kernel)]; exact ⟨rfl, rfl⟩))
    (fun os started H enc _ => mostStrides_lifted os started H enc)
#print axioms mostStrides_holds


end Go.Proofs.Ytbenlmkhcdfgmaa
