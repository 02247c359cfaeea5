/- FnExactMakePuzzle returns true for every input and leaves its arguments as they were. No conditions. -/
import Derived.Test.YtehffiaobjlpoaaPzRow
import Derived.Test.YtehffiaobjlpoaaLawMakePuzzle
import Derived.Test.YtehffiaobjlpoaaPzMi
namespace Go.Proofs.Ytehffiaobjlpoaa
set_option maxRecDepth 100000
open Go.ChangeShapes Go.WideShapes Go.ChangeAt Go.RowKit

theorem makePuzzle_big (st : Int) (A A' : Option Addr) (n n' c c' : Nat) (n1 : Int) (n2 : Int) (w : World) (hn0 : n ≤ 9223372036854775807) (hn1 : n' ≤ 9223372036854775807) (hs : 1048576 < n + n') :
    Calls Try.prog 6 #[.agg #[.int .i64 st, .slice A n c, .slice A' n' c'], .int .i64 n1, .int .i64 n2] w fun e w' => e = .returned (.bool true) ∧ Below w.heap.size w w' := by
  go_enter Try.func6, Try.ntmps6
  go_wp2_with fail
  refine (szStairs_no _ _ _ _ _ _ _ _ hn0 hn1 hs).mono ?_
  rintro e w1 ⟨rfl, hb1⟩
  go_wp2_with fail
  go_ret
  exact ⟨rfl, (below_alloc _ _).trans (hb1.mono (by simp))⟩

theorem makePuzzle_all (v : Value) (n1 : Int) (n2 : Int) (w : World) (h : InSt w v) :
    Calls Try.prog 6 #[v, .int .i64 n1, .int .i64 n2] w fun e w' => e = .returned (.bool true) ∧ Below w.heap.size w w' := by
  obtain ⟨st, A, A', c, c', ss, bs, rfl, r1, r2, m1, m2, b1, b2⟩ := h
  by_cases hs : ss.length + bs.length ≤ 1048576
  · exact makePuzzle_walk st A A' c c' ss bs n1 n2 (mpL st ss bs n1 n2) (mpB st ss bs n1 n2) (mpL_len st ss bs n1 n2) w ⟨r1, r2, by omega, by omega⟩ hs (fun A A' c c' B w h hB => specMake9_any st A A' c c' ss bs n1 n2 B w h hB) (fun A A' c c' B w h hB => implMake9_any st A A' c c' ss bs n1 n2 B w h hB)
  · exact makePuzzle_big st A A' ss.length bs.length c c' n1 n2 w m1 m2 (by omega)

theorem makePuzzle_lifted (os : Os) (started : os.Started) (H : Type) (enc : TypeId × Value → H) :
    ReturnsInHanded {} Try.checked os 6 .any (Rows.fnExactMakePuzzleSpec.pre6 enc Try.prog Try.f6 Rows.fnExactMakePuzzleRow.domain false) (Rows.fnExactMakePuzzleSpec.post enc Try.prog Try.f6 false true false false) := by
  refine returnsInHanded_of_change (C := Try.checked) own started (by kernel_rfl) Try.func6
    (ChangeSpec.witness6 (enc := enc) (C := Try.checked) false ⟨#[], #[.agg #[.int .i64 0, .slice none 0 0, .slice none 0 0], .int .i64 0, .int .i64 0], []⟩ 8 (by kernel_rfl) (by kernel_rfl) (by kernel_rfl) (by kernel_rfl)) ?_
  intro W base args ds gs before hval0 hW _ _
  have hval : ∀ (j : Nat) t v, Try.f6.params[j]? = some t → args[j]? = some v → Value.okWide Try.prog W .any base t v := hval0
  have hW' := hW
  obtain ⟨p, q, hA0, hV, rfl, _, _⟩ := hW
  have hA : DataW.TrodAll enc Try.prog W 0 (fun _ => true) true Try.f6.params.toList args.toList ds p := hA0
  rw [Try.params6] at hA hval
  obtain ⟨v0, vs0, d0, ds0, p0, q0, hargs, rfl, rfl, h0, r0⟩ := trodAll_cons hA
  obtain ⟨v1, vs1, d1, ds1, p1, q1, rfl, rfl, rfl, h1, r1⟩ := trodAll_cons r0
  obtain ⟨v2, vs2, d2, ds2, p2, q2, rfl, rfl, rfl, h2, r2⟩ := trodAll_cons r1
  obtain ⟨rfl, rfl, rfl⟩ := trodAll_nil r2
  obtain rfl : args = #[v0, v1, v2] := by cases args; simp_all
  obtain ⟨rfl, rfl⟩ := trodVars_none hV
  have k0 := h0
  have lt0 : ∀ x ∈ p0, x.block < W.heap.size := by obtain ⟨m, hm⟩ := k0; exact DataW.trod_lt m _ _ _ hm
  have hin := inSt_of (hval 0 35 v0 rfl rfl) h0
  have k1 := h1
  have lt1 : ∀ x ∈ p1, x.block < W.heap.size := by obtain ⟨m, hm⟩ := k1; exact DataW.trod_lt m _ _ _ hm
  obtain ⟨n1, e1, _⟩ := inI_of (hval 1 3 v1 rfl rfl) h1
  subst e1
  have k2 := h2
  have lt2 : ∀ x ∈ p2, x.block < W.heap.size := by obtain ⟨m, hm⟩ := k2; exact DataW.trod_lt m _ _ _ hm
  obtain ⟨n2, e2, _⟩ := inI_of (hval 2 3 v2 rfl rfl) h2
  subst e2
  clear hA0 hval0
  refine (makePuzzle_all v0 n1 n2 W hin).mono fun e W' ⟨he, bel⟩ => ?_
  subst he
  exact ⟨_, rfl, _, _, _, [], _, [], hW', trodAll_mk1 (shut_bool Try.underlying4 _), (trodAll_cons_mk (Below.trod laidOut (by kernel_rfl) (of_decide_eq_true (by kernel_rfl)) k0 bel lt0) (trodAll_cons_mk (Below.trod laidOut (by kernel_rfl) (of_decide_eq_true (by kernel_rfl)) k1 bel lt1) (trodAll_cons_mk (Below.trod laidOut (by kernel_rfl) (of_decide_eq_true (by kernel_rfl)) k2 bel lt2) trodAll_mk0))), rfl, bel.frame _, fun h => by cases h⟩

theorem makePuzzle_holds : Rows.FnExactMakePuzzleSaid :=
  OpenClaim.holds_of_wide 6 Try.f6 rfl rfl rfl rfl rfl rfl rfl ⟨rfl, rfl, rfl, rfl, rfl⟩ rfl rfl rfl rfl rfl (by kernel_rfl) Try.func6 (by kernel_rfl)
    (of_decide_eq_true (by kernel_rfl)) (by unfold Func.isWrapper; first | (rw [if_pos (by decide +kernel)]; kernel_rfl) | (rw [if_neg (by decide +kernel)]; exact ⟨rfl, rfl⟩))
    (fun os started H enc _ => makePuzzle_lifted os started H enc)
#print axioms makePuzzle_holds

end Go.Proofs.Ytehffiaobjlpoaa
