/- FnExactDoesFit returns true for every input and leaves its arguments as they were. No conditions. -/
import Derived.Test.YtmiojofeoaocfaaPzRow
import Derived.Test.YtmiojofeoaocfaaLawDoesFit
import Derived.Test.YtmiojofeoaocfaaPzDf
namespace Go.Proofs.Ytmiojofeoaocfaa
set_option maxRecDepth 100000
open Go.ChangeShapes Go.WideShapes Go.ChangeAt Go.RowKit

theorem doesFit_big (k a b st : Int) (A A' : Option Addr) (n n' c c' : Nat) (w : World) (hn0 : n ≤ 9223372036854775807) (hn1 : n' ≤ 9223372036854775807) (hs : 1048576 < n + n') :
    Calls Try.prog 5 #[.agg #[.int .i64 k, .int .i64 a, .int .i64 b], .agg #[.int .i64 st, .slice A n c, .slice A' n' c']] w fun e w' => e = .returned (.bool true) ∧ Below w.heap.size w w' := by
  go_enter Try.func5, Try.ntmps5
  go_wp2_with fail
  refine (szStairs_no _ _ _ _ _ _ _ _ hn0 hn1 hs).mono ?_
  rintro e w1 ⟨rfl, hb1⟩
  go_wp2_with fail
  go_ret
  exact ⟨rfl, ((below_alloc _ _).alloc (by simp) _).trans (hb1.mono (by simp; omega))⟩

theorem doesFit_all (k a b : Int) (v : Value) (w : World) (h : InSt w v) :
    Calls Try.prog 5 #[.agg #[.int .i64 k, .int .i64 a, .int .i64 b], v] w fun e w' => e = .returned (.bool true) ∧ Below w.heap.size w w' := by
  obtain ⟨st, A, A', c, c', ss, bs, rfl, r1, r2, n1, n2, b1, b2⟩ := h
  by_cases hs : ss.length + bs.length ≤ 1048576
  · exact doesFit_walk k a b st A A' c c' ss bs (dfR k a b st ss bs) (dfB k a b st ss bs) w ⟨r1, r2, by omega, by omega⟩ hs (fun A A' c c' B w h hB => specDoesFit_any k a b st A A' c c' ss bs B w h hB) (fun A A' c c' B w h hB => implDoesFit_any k a b st A A' c c' ss bs B w h hB)
  · exact doesFit_big k a b st A A' ss.length bs.length c c' w n1 n2 (by omega)

theorem doesFit_lifted (os : Os) (started : os.Started) (H : Type) (enc : TypeId × Value → H) :
    ReturnsInHanded {} Try.checked os 5 .any (Rows.fnExactDoesFitSpec.pre6 enc Try.prog Try.f5 Rows.fnExactDoesFitRow.domain false) (Rows.fnExactDoesFitSpec.post enc Try.prog Try.f5 false true false false) := by
  refine returnsInHanded_of_change (C := Try.checked) own started (by kernel_rfl) Try.func5
    (ChangeSpec.witness6 (enc := enc) (C := Try.checked) false ⟨#[], #[.agg #[.int .i64 0, .int .i64 0, .int .i64 0], .agg #[.int .i64 0, .slice none 0 0, .slice none 0 0]], []⟩ 8 (by kernel_rfl) (by kernel_rfl) (by kernel_rfl) (by kernel_rfl)) ?_
  intro W base args ds gs before hval0 hW _ _
  have hval : ∀ (j : Nat) t v, Try.f5.params[j]? = some t → args[j]? = some v → Value.okWide Try.prog W .any base t v := hval0
  have hW' := hW
  obtain ⟨p, q, hA0, hV, rfl, _, _⟩ := hW
  have hA : DataW.TrodAll enc Try.prog W 0 (fun _ => true) true Try.f5.params.toList args.toList ds p := hA0
  rw [Try.params5] at hA hval
  obtain ⟨v0, vs0, d0, ds0, p0, q0, hargs, rfl, rfl, h0, r0⟩ := trodAll_cons hA
  obtain ⟨v1, vs1, d1, ds1, p1, q1, rfl, rfl, rfl, h1, r1⟩ := trodAll_cons r0
  obtain ⟨rfl, rfl, rfl⟩ := trodAll_nil r1
  obtain rfl : args = #[v0, v1] := by cases args; simp_all
  obtain ⟨rfl, rfl⟩ := trodVars_none hV
  have k0 := h0
  have lt0 : ∀ x ∈ p0, x.block < W.heap.size := by obtain ⟨m, hm⟩ := k0; exact DataW.trod_lt m _ _ _ hm
  have k1 := h1
  have lt1 : ∀ x ∈ p1, x.block < W.heap.size := by obtain ⟨m, hm⟩ := k1; exact DataW.trod_lt m _ _ _ hm
  obtain ⟨a0_0, a0_1, a0_2, e0, _, _, _⟩ := inClue_of (hval 0 23 v0 rfl rfl) h0
  subst e0
  have hin := inSt_of (hval 1 41 v1 rfl rfl) h1
  clear hA0 hval0
  refine (doesFit_all a0_0 a0_1 a0_2 v1 W hin).mono fun e W' ⟨he, bel⟩ => ?_
  subst he
  exact ⟨_, rfl, _, _, _, [], _, [], hW', trodAll_mk1 (shut_bool Try.underlying4 _), (trodAll_cons_mk (Below.trod laidOut (by kernel_rfl) (of_decide_eq_true (by kernel_rfl)) k0 bel lt0) (trodAll_cons_mk (Below.trod laidOut (by kernel_rfl) (of_decide_eq_true (by kernel_rfl)) k1 bel lt1) trodAll_mk0)), rfl, bel.frame _, fun h => by cases h⟩

theorem doesFit_holds : Rows.FnExactDoesFitSaid :=
  OpenClaim.holds_of_wide 5 Try.f5 rfl rfl rfl rfl rfl rfl rfl ⟨rfl, rfl, rfl, rfl, rfl⟩ rfl rfl rfl rfl rfl (by kernel_rfl) Try.func5 (by kernel_rfl)
    (of_decide_eq_true (by kernel_rfl)) (by unfold Func.isWrapper; first | (rw [if_pos (by decide +kernel)]; kernel_rfl) | (rw [if_neg (by decide +kernel)]; exact ⟨rfl, rfl⟩))
    (fun os started H enc _ => doesFit_lifted os started H enc)
#print axioms doesFit_holds

end Go.Proofs.Ytmiojofeoaocfaa
