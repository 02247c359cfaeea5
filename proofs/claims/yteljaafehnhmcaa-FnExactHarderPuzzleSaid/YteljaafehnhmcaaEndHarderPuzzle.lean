/- FnExactHarderPuzzle returns true for every input and leaves its arguments as they were.  No conditions. -/
import Derived.Test.YteljaafehnhmcaaPzRow
import Derived.Test.YteljaafehnhmcaaLawHarderPuzzle
import Derived.Test.YteljaafehnhmcaaPzHp
namespace Go.Proofs.Yteljaafehnhmcaa
set_option maxRecDepth 100000
open Go.ChangeShapes Go.WideShapes Go.ChangeAt Go.RowKit

theorem harderPuzzle_long (Z0 : Option Addr) (d0 : Nat) (ps0 : List Tri) (w : World) (hn0 : 1048576 < ps0.length) (hm0 : ps0.length ≤ 9223372036854775807) :
    Calls Try.prog 4 #[pzv Z0 ps0.length d0] w fun e w' => e = .returned (.bool true) ∧ Below w.heap.size w w' := by
  go_enter Try.func4, Try.ntmps4
  go_wp2_with fail
  refine (szPuzzle_no _ _ _ _ hm0 hn0).mono ?_
  rintro e w1 ⟨rfl, hb1⟩
  go_wp2_with fail
  go_ret
  exact ⟨rfl, (below_alloc _ _).trans (hb1.mono (by simp))⟩

theorem harderPuzzle_all (Z0 : Option Addr) (d0 : Nat) (ps0 : List Tri) (w : World) (r0 : RdF w w.heap.size Z0 d0 ps0) (hm0 : ps0.length ≤ 9223372036854775807) :
    Calls Try.prog 4 #[pzv Z0 ps0.length d0] w fun e w' => e = .returned (.bool true) ∧ Below w.heap.size w w' := by
  by_cases hn0 : 1048576 < ps0.length
  · exact harderPuzzle_long Z0 d0 ps0 w hn0 hm0
  replace hn0 : ps0.length ≤ 1048576 := by omega
  exact harderPuzzle_walk Z0 d0 ps0 (hpR ps0) (solvedB ps0) (hpR_len ps0 hn0) w r0 hn0 (fun A c B w h hB => specHarder_any A c ps0 B w h hB hn0) (fun A c B w h hB => implHarder_any A c ps0 B w h hB hn0)

theorem harderPuzzle_lifted (os : Os) (started : os.Started) (H : Type) (enc : TypeId × Value → H) :
    ReturnsInHanded {} Try.checked os 4 .any (Rows.fnExactHarderPuzzleSpec.pre6 enc Try.prog Try.f4 Rows.fnExactHarderPuzzleRow.domain false) (Rows.fnExactHarderPuzzleSpec.post enc Try.prog Try.f4 false true false false) := by
  refine returnsInHanded_of_change (C := Try.checked) own started (by kernel_rfl) Try.func4
    (ChangeSpec.witness6 (enc := enc) (C := Try.checked) false ⟨#[], #[.agg #[.slice none 0 0]], []⟩ 8 (by kernel_rfl) (by kernel_rfl) (by kernel_rfl) (by kernel_rfl)) ?_
  intro W base args ds gs before hval0 hW _ _
  have hval : ∀ (j : Nat) t v, Try.f4.params[j]? = some t → args[j]? = some v → Value.okWide Try.prog W .any base t v := hval0
  have hW' := hW
  obtain ⟨p, q, hA0, hV, rfl, _, _⟩ := hW
  have hA : DataW.TrodAll enc Try.prog W 0 (fun _ => true) true Try.f4.params.toList args.toList ds p := hA0
  rw [Try.params4] at hA hval
  obtain ⟨v0, vs0, d0, ds0, p0, q0, hargs, rfl, rfl, h0, r0⟩ := trodAll_cons hA
  obtain ⟨rfl, rfl, rfl⟩ := trodAll_nil r0
  obtain rfl : args = #[v0] := by cases args; simp_all
  obtain ⟨rfl, rfl⟩ := trodVars_none hV
  have k0 := h0
  have lt0 : ∀ x ∈ p0, x.block < W.heap.size := by obtain ⟨m, hm⟩ := k0; exact DataW.trod_lt m _ _ _ hm
  obtain ⟨Z0, dz0, ps0, e0, rx, nx⟩ := inPuzzle_of (hval 0 24 v0 rfl rfl) h0
  subst e0
  clear hA0 hval0
  refine (harderPuzzle_all Z0 dz0 ps0 W rx nx).mono fun e W' ⟨he, bel⟩ => ?_
  subst he
  exact ⟨_, rfl, _, _, _, [], _, [], hW', trodAll_mk1 (shut_bool Try.underlying4 _), (trodAll_cons_mk (Below.trod laidOut (by kernel_rfl) (of_decide_eq_true (by kernel_rfl)) k0 bel lt0) trodAll_mk0), rfl, bel.frame _, fun h => by cases h⟩

theorem harderPuzzle_holds : Rows.FnExactHarderPuzzleSaid :=
  OpenClaim.holds_of_wide 4 Try.f4 rfl rfl rfl rfl rfl rfl rfl ⟨rfl, rfl, rfl, rfl, rfl⟩ rfl rfl rfl rfl rfl (by kernel_rfl) Try.func4 (by kernel_rfl)
    (of_decide_eq_true (by kernel_rfl)) (by unfold Func.isWrapper; first | (rw [if_pos (by decide +kernel)]; kernel_rfl) | (rw [if_neg (by decide +kernel)]; exact ⟨rfl, rfl⟩))
    (fun os started H enc _ => harderPuzzle_lifted os started H enc)
#print axioms harderPuzzle_holds

end Go.Proofs.Yteljaafehnhmcaa
