/- FnExactAddFloor returns true for every input and leaves its arguments as they were.  No conditions. -/
import Derived.Test.YtmamcjnehnknmaaGHRow
import Derived.Test.YtmamcjnehnknmaaLawAddFloor
import Derived.Test.YtmamcjnehnknmaaHoAdd
import Derived.Test.YtmamcjnehnknmaaHoAddS
namespace Go.Proofs.Ytmamcjnehnknmaa
open Go.ChangeShapes Go.WideShapes Go.ChangeAt Go.RowKit

theorem addFloor_big (A A' : Option Addr) (n n' c c' : Nat) (nx ny : Int) (w : World) (hn0 : n ≤ 9223372036854775807) (hn1 : n' ≤ 9223372036854775807) (hs : 1048576 < n + n') :
    Calls Try.prog 3 #[.agg #[.slice A n c, .slice A' n' c'], .int .i64 nx, .int .i64 ny] w fun e w' => e = .returned (.bool true) ∧ Below w.heap.size w w' := by
  go_enter Try.func3, Try.ntmps3
  go_wp2_with fail
  refine (szHouse_no _ _ _ _ _ _ _ hn0 hn1 hs).mono ?_
  rintro e w1 ⟨rfl, hb1⟩
  go_wp2_with fail
  go_ret
  exact ⟨rfl, ((Below.refl _ _).alloc (Nat.le_refl _) _).trans (hb1.mono (by simp))⟩

theorem addFloor_all (v : Value) (nx ny : Int) (w : World) (h : InHo w v) (_hx0 : -9223372036854775808 ≤ nx) (_hx1 : nx ≤ 9223372036854775807) (_hy0 : -9223372036854775808 ≤ ny) (_hy1 : ny ≤ 9223372036854775807) :
    Calls Try.prog 3 #[v, .int .i64 nx, .int .i64 ny] w fun e w' => e = .returned (.bool true) ∧ Below w.heap.size w w' := by
  obtain ⟨A, A', c, c', ss, bs, rfl, r1, r2, n1, n2⟩ := h
  by_cases hs : ss.length + bs.length ≤ 1048576
  · exact addFloor_walk A A' c c' ss bs nx ny (addU ss bs nx ny) (addV ss bs nx ny) (addB ss bs nx ny) (addU_length ss bs nx ny) (addV_length ss bs nx ny) w ⟨r1, r2, by omega, by omega⟩ hs (fun A A' c c' B w h hB => specAdd_any A A' c c' ss bs nx ny B w h hB) (fun A A' c c' B w h hB => implAdd_any A A' c c' ss bs nx ny B w h hB)
  · exact addFloor_big A A' ss.length bs.length c c' nx ny w n1 n2 (by omega)

set_option maxRecDepth 100000 in
theorem addFloor_lifted (os : Os) (started : os.Started) (H : Type) (enc : TypeId × Value → H) :
    ReturnsInHanded {} Try.checked os 3 .any (Rows.fnExactAddFloorSpec.pre6 enc Try.prog Try.f3 Rows.fnExactAddFloorRow.domain false) (Rows.fnExactAddFloorSpec.post enc Try.prog Try.f3 false true false false) := by
  refine returnsInHanded_of_change (C := Try.checked) own started (by kernel_rfl) Try.func3
    (ChangeSpec.witness6 (enc := enc) (C := Try.checked) false ⟨#[], #[.agg #[.slice none 0 0, .slice none 0 0], .int .i64 0, .int .i64 0], []⟩ 8 (by kernel_rfl) (by kernel_rfl) (by kernel_rfl) (by kernel_rfl)) ?_
  intro W base args ds gs before hval0 hW _ _
  have hval : ∀ (j : Nat) t v, Try.f3.params[j]? = some t → args[j]? = some v → Value.okWide Try.prog W .any base t v := hval0
  have hW' := hW
  obtain ⟨p, q, hA0, hV, rfl, _, _⟩ := hW
  have hA : DataW.TrodAll enc Try.prog W 0 (fun _ => true) true Try.f3.params.toList args.toList ds p := hA0
  rw [Try.params3] at hA hval
  obtain ⟨v0, vs0, d0, ds0, p0, q0, hargs, rfl, rfl, h0, r0⟩ := trodAll_cons hA
  obtain ⟨v1, vs1, d1, ds1, p1, q1, rfl, rfl, rfl, h1, r1⟩ := trodAll_cons r0
  obtain ⟨v2, vs2, d2, ds2, p2, q2, rfl, rfl, rfl, h2, r2⟩ := trodAll_cons r1
  obtain ⟨rfl, rfl, rfl⟩ := trodAll_nil r2
  obtain rfl : args = #[v0, v1, v2] := by cases args; simp_all
  obtain ⟨rfl, rfl⟩ := trodVars_none hV
  have k0 := h0
  have lt0 : ∀ x ∈ p0, x.block < W.heap.size := by obtain ⟨m, hm⟩ := k0; exact DataW.trod_lt m _ _ _ hm
  have hin := inHo_of (hval 0 24 v0 rfl rfl) h0
  obtain ⟨nx, rfl, rfl, rfl, wx⟩ := open_int Try.underlying3 (hval 1 3 v1 rfl rfl) h1
  obtain ⟨ny, rfl, rfl, rfl, wy⟩ := open_int Try.underlying3 (hval 2 3 v2 rfl rfl) h2
  have wb := bounds_i64 wx
  have wc := bounds_i64 wy
  clear hA0 hval0
  refine (addFloor_all v0 nx ny W hin wb.1 wb.2 wc.1 wc.2).mono fun e W' ⟨he, bel⟩ => ?_
  subst he
  exact ⟨_, rfl, _, _, _, [], _, [], hW', trodAll_mk1 (shut_bool Try.underlying4 _), (trodAll_cons_mk (Below.trod laidOut (by kernel_rfl) (of_decide_eq_true (by kernel_rfl)) k0 bel lt0) (trodAll_cons_mk (shut_int Try.underlying3 wx) (trodAll_cons_mk (shut_int Try.underlying3 wy) trodAll_mk0))), rfl, bel.frame _, fun h => by cases h⟩

theorem addFloor_holds : Rows.FnExactAddFloorSaid :=
  OpenClaim.holds_of_wide 3 Try.f3 rfl rfl rfl rfl rfl rfl rfl ⟨rfl, rfl, rfl, rfl, rfl⟩ rfl rfl rfl rfl rfl (by kernel_rfl) Try.func3 (by kernel_rfl)
    (of_decide_eq_true (by kernel_rfl)) (by unfold Func.isWrapper; first | (rw [if_pos (by decide +kernel)]; kernel_rfl) | (rw [if_neg (by decide +kernel)]; exact ⟨rfl, rfl⟩))
    (fun os started H enc _ => addFloor_lifted os started H enc)
#print axioms addFloor_holds

end Go.Proofs.Ytmamcjnehnknmaa
