/- FnExactDropClue returns true for every input and leaves its arguments as they were.  No conditions. -/
import Derived.Test.YtmiojofeoaocfaaPzRow
import Derived.Test.YtmiojofeoaocfaaLawDropClue
import Derived.Test.YtmiojofeoaocfaaPzDc
namespace Go.Proofs.Ytmiojofeoaocfaa
set_option maxRecDepth 100000
open Go.ChangeShapes Go.WideShapes Go.ChangeAt Go.RowKit

theorem dropClue_long (Z0 : Option Addr) (d0 : Nat) (ps0 : List Tri) (n1 : Int) (w : World) (hn0 : 1048576 < ps0.length) (hm0 : ps0.length ≤ 9223372036854775807) :
    Calls Try.prog 12 #[pzv Z0 ps0.length d0, .int .i64 n1] w fun e w' => e = .returned (.bool true) ∧ Below w.heap.size w w' := by
  go_enter Try.func12, Try.ntmps12
  go_wp2_with fail
  refine (szPuzzle_no _ _ _ _ hm0 hn0).mono ?_
  rintro e w1 ⟨rfl, hb1⟩
  go_wp2_with fail
  go_ret
  exact ⟨rfl, (below_alloc _ _).trans (hb1.mono (by simp))⟩

theorem dropClue_all (Z0 : Option Addr) (d0 : Nat) (ps0 : List Tri) (n1 : Int) (w : World) (r0 : RdF w w.heap.size Z0 d0 ps0) (hm0 : ps0.length ≤ 9223372036854775807) (lo1 : -9223372036854775808 ≤ n1) (hi1 : n1 ≤ 9223372036854775807) :
    Calls Try.prog 12 #[pzv Z0 ps0.length d0, .int .i64 n1] w fun e w' => e = .returned (.bool true) ∧ Below w.heap.size w w' := by
  by_cases hn0 : 1048576 < ps0.length
  · exact dropClue_long Z0 d0 ps0 n1 w hn0 hm0
  replace hn0 : ps0.length ≤ 1048576 := by omega
  exact dropClue_walk Z0 d0 ps0 n1 (dcL ps0 n1) (dcB ps0 n1) (dcL_len ps0 n1 hn0) w r0 hn0 (fun A c B w h hB => specDrop9_any A c ps0 n1 B w h hB hn0 lo1 hi1) (fun A c B w h hB => implDrop9_any A c ps0 n1 B w h hB hn0 lo1 hi1)

theorem dropClue_lifted (os : Os) (started : os.Started) (H : Type) (enc : TypeId × Value → H) :
    ReturnsInHanded {} Try.checked os 12 .any (Rows.fnExactDropClueSpec.pre6 enc Try.prog Try.f12 Rows.fnExactDropClueRow.domain false) (Rows.fnExactDropClueSpec.post enc Try.prog Try.f12 false true false false) := by
  refine returnsInHanded_of_change (C := Try.checked) own started (by kernel_rfl) Try.func12
    (ChangeSpec.witness6 (enc := enc) (C := Try.checked) false ⟨#[], #[.agg #[.slice none 0 0], .int .i64 0], []⟩ 8 (by kernel_rfl) (by kernel_rfl) (by kernel_rfl) (by kernel_rfl)) ?_
  intro W base args ds gs before hval0 hW _ _
  have hval : ∀ (j : Nat) t v, Try.f12.params[j]? = some t → args[j]? = some v → Value.okWide Try.prog W .any base t v := hval0
  have hW' := hW
  obtain ⟨p, q, hA0, hV, rfl, _, _⟩ := hW
  have hA : DataW.TrodAll enc Try.prog W 0 (fun _ => true) true Try.f12.params.toList args.toList ds p := hA0
  rw [Try.params12] at hA hval
  obtain ⟨v0, vs0, d0, ds0, p0, q0, hargs, rfl, rfl, h0, r0⟩ := trodAll_cons hA
  obtain ⟨v1, vs1, d1, ds1, p1, q1, rfl, rfl, rfl, h1, r1⟩ := trodAll_cons r0
  obtain ⟨rfl, rfl, rfl⟩ := trodAll_nil r1
  obtain rfl : args = #[v0, v1] := by cases args; simp_all
  obtain ⟨rfl, rfl⟩ := trodVars_none hV
  have k0 := h0
  have lt0 : ∀ x ∈ p0, x.block < W.heap.size := by obtain ⟨m, hm⟩ := k0; exact DataW.trod_lt m _ _ _ hm
  obtain ⟨Z0, dz0, ps0, e0, rx, nx⟩ := inPuzzle_of (hval 0 30 v0 rfl rfl) h0
  subst e0
  have k1 := h1
  have lt1 : ∀ x ∈ p1, x.block < W.heap.size := by obtain ⟨m, hm⟩ := k1; exact DataW.trod_lt m _ _ _ hm
  obtain ⟨n1, e1, wb1⟩ := inI_of (hval 1 3 v1 rfl rfl) h1
  subst e1
  clear hA0 hval0
  refine (dropClue_all Z0 dz0 ps0 n1 W rx nx wb1.1 wb1.2).mono fun e W' ⟨he, bel⟩ => ?_
  subst he
  exact ⟨_, rfl, _, _, _, [], _, [], hW', trodAll_mk1 (shut_bool Try.underlying4 _), (trodAll_cons_mk (Below.trod laidOut (by kernel_rfl) (of_decide_eq_true (by kernel_rfl)) k0 bel lt0) (trodAll_cons_mk (Below.trod laidOut (by kernel_rfl) (of_decide_eq_true (by kernel_rfl)) k1 bel lt1) trodAll_mk0)), rfl, bel.frame _, fun h => by cases h⟩

theorem dropClue_holds : Rows.FnExactDropClueSaid :=
  OpenClaim.holds_of_wide 12 Try.f12 rfl rfl rfl rfl rfl rfl rfl ⟨rfl, rfl, rfl, rfl, rfl⟩ rfl rfl rfl rfl rfl (by kernel_rfl) Try.func12 (by kernel_rfl)
    (of_decide_eq_true (by kernel_rfl)) (by unfold Func.isWrapper; first | (rw [if_pos (by decide +kernel)]; kernel_rfl) | (rw [if_neg (by decide +kernel)]; exact ⟨rfl, rfl⟩))
    (fun os started H enc _ => dropClue_lifted os started H enc)
#print axioms dropClue_holds

end Go.Proofs.Ytmiojofeoaocfaa
