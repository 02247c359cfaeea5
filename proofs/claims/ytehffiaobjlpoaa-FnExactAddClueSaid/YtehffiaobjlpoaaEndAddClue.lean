/- FnExactAddClue returns true for every input and leaves its arguments as they were. No conditions. -/
import Derived.Test.YtehffiaobjlpoaaPzRow
import Derived.Test.YtehffiaobjlpoaaLawAddClue
import Derived.Test.YtehffiaobjlpoaaPzAi
namespace Go.Proofs.Ytehffiaobjlpoaa
set_option maxRecDepth 100000
open Go.ChangeShapes Go.WideShapes Go.ChangeAt Go.RowKit

theorem addClue_long (Z0 : Option Addr) (d0 : Nat) (ps0 : List Tri) (ka aa ba : Int) (w : World) (hn0 : 1048576 < ps0.length) (hm0 : ps0.length ≤ 9223372036854775807) :
    Calls Try.prog 5 #[pzv Z0 ps0.length d0, .agg #[.int .i64 ka, .int .i64 aa, .int .i64 ba]] w fun e w' => e = .returned (.bool true) ∧ Below w.heap.size w w' := by
  go_enter Try.func5, Try.ntmps5
  go_wp2_with fail
  refine (szPuzzle_no _ _ _ _ hm0 hn0).mono ?_
  rintro e w1 ⟨rfl, hb1⟩
  go_wp2_with fail
  go_ret
  exact ⟨rfl, ((below_alloc _ _).alloc (by simp) _).trans (hb1.mono (by simp; omega))⟩

/-- whatever the length: a list longer than six is no puzzle -/
theorem ac_len (ps : List Tri) (k a b : Int) (h : ps.length ≤ 1048576) : (acL ps k a b).length ≤ 1048576 := by
  unfold acL
  split
  · rename_i h1
    simp only [acB, Bool.and_eq_true] at h1
    have := puzB_len h1.1
    simp; omega
  · simp

theorem addClue_all (Z0 : Option Addr) (d0 : Nat) (ps0 : List Tri) (ka aa ba : Int) (w : World) (r0 : RdF w w.heap.size Z0 d0 ps0) (hm0 : ps0.length ≤ 9223372036854775807) :
    Calls Try.prog 5 #[pzv Z0 ps0.length d0, .agg #[.int .i64 ka, .int .i64 aa, .int .i64 ba]] w fun e w' => e = .returned (.bool true) ∧ Below w.heap.size w w' := by
  by_cases hn0 : 1048576 < ps0.length
  · exact addClue_long Z0 d0 ps0 ka aa ba w hn0 hm0
  replace hn0 : ps0.length ≤ 1048576 := by omega
  exact addClue_walk Z0 d0 ps0 ka aa ba (acL ps0 ka aa ba) (acB ps0 ka aa ba) (ac_len ps0 ka aa ba hn0) w r0 hn0 (fun A c B w h hB => specAdd9_any A c ps0 ka aa ba B w h hB hn0) (fun A c B w h hB => implAdd9_any A c ps0 ka aa ba B w h hB hn0)

theorem addClue_lifted (os : Os) (started : os.Started) (H : Type) (enc : TypeId × Value → H) :
    ReturnsInHanded {} Try.checked os 5 .any (Rows.fnExactAddClueSpec.pre6 enc Try.prog Try.f5 Rows.fnExactAddClueRow.domain false) (Rows.fnExactAddClueSpec.post enc Try.prog Try.f5 false true false false) := by
  refine returnsInHanded_of_change (C := Try.checked) own started (by kernel_rfl) Try.func5
    (ChangeSpec.witness6 (enc := enc) (C := Try.checked) false ⟨#[], #[.agg #[.slice none 0 0], .agg #[.int .i64 0, .int .i64 0, .int .i64 0]], []⟩ 8 (by kernel_rfl) (by kernel_rfl) (by kernel_rfl) (by kernel_rfl)) ?_
  intro W base args ds gs before hval0 hW _ _
  have hval : ∀ (j : Nat) t v, Try.f5.params[j]? = some t → args[j]? = some v → Value.okWide Try.prog W .any base t v := hval0
  have hW' := hW
  obtain ⟨p, q, hA0, hV, rfl, _, _⟩ := hW
  have hA : DataW.TrodAll enc Try.prog W 0 (fun _ => true) true Try.f5.params.toList args.toList ds p := hA0
  rw [Try.params5] at hA hval
  obtain ⟨v0, vs0, d0, ds0, p0, q0, hargs, rfl, rfl, h0, r0⟩ := trodAll_cons hA
  obtain ⟨v1, vs1, d1, ds1, p1, q1, rfl, rfl, rfl, h1, r1⟩ := trodAll_cons r0
  obtain ⟨rfl, rfl, rfl⟩ := trodAll_nil r1
  obtain rfl : args = #[v0, v1] := by cases args; simp_all
  obtain ⟨rfl, rfl⟩ := trodVars_none hV
  have k0 := h0
  have lt0 : ∀ x ∈ p0, x.block < W.heap.size := by obtain ⟨m, hm⟩ := k0; exact DataW.trod_lt m _ _ _ hm
  obtain ⟨Z0, dz0, ps0, e0, rx, nx⟩ := inPuzzle_of (hval 0 46 v0 rfl rfl) h0
  subst e0
  have k1 := h1
  have lt1 : ∀ x ∈ p1, x.block < W.heap.size := by obtain ⟨m, hm⟩ := k1; exact DataW.trod_lt m _ _ _ hm
  obtain ⟨a0_0, a0_1, a0_2, e0, _, _, _⟩ := inClue_of (hval 1 48 v1 rfl rfl) h1
  subst e0
  clear hA0 hval0
  refine (addClue_all Z0 dz0 ps0 a0_0 a0_1 a0_2 W rx nx).mono fun e W' ⟨he, bel⟩ => ?_
  subst he
  exact ⟨_, rfl, _, _, _, [], _, [], hW', trodAll_mk1 (shut_bool Try.underlying4 _), (trodAll_cons_mk (Below.trod laidOut (by kernel_rfl) (of_decide_eq_true (by kernel_rfl)) k0 bel lt0) (trodAll_cons_mk (Below.trod laidOut (by kernel_rfl) (of_decide_eq_true (by kernel_rfl)) k1 bel lt1) trodAll_mk0)), rfl, bel.frame _, fun h => by cases h⟩

theorem addClue_holds : Rows.FnExactAddClueSaid :=
  OpenClaim.holds_of_wide 5 Try.f5 rfl rfl rfl rfl rfl rfl rfl ⟨rfl, rfl, rfl, rfl, rfl⟩ rfl rfl rfl rfl rfl (by kernel_rfl) Try.func5 (by kernel_rfl)
    (of_decide_eq_true (by kernel_rfl)) (by unfold Func.isWrapper; first | (rw [if_pos (by decide +kernel)]; kernel_rfl) | (rw [if_neg (by decide +kernel)]; exact ⟨rfl, rfl⟩))
    (fun os started H enc _ => addClue_lifted os started H enc)
#print axioms addClue_holds

end Go.Proofs.Ytehffiaobjlpoaa
