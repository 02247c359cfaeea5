/- FnExactMeetFloor returns true for every input and leaves its arguments as they were.  No conditions. -/
import Derived.Test.YtmamcjnehnknmaaGHRow
import Derived.Test.YtmamcjnehnknmaaLawMeetFloor
import Derived.Test.YtmamcjnehnknmaaHoMeet
namespace Go.Proofs.Ytmamcjnehnknmaa
open Go.ChangeShapes Go.WideShapes Go.ChangeAt Go.RowKit

theorem meetFloor_big (A A' : Option Addr) (n n' c c' : Nat) (Z : Option Addr) (dz : Nat) (xs : List Int) (hn : xs.length ≤ 1048576) (w : World) (hn0 : n ≤ 9223372036854775807) (hn1 : n' ≤ 9223372036854775807) (hs : 1048576 < n + n') :
    Calls Try.prog 7 #[.agg #[.slice A n c, .slice A' n' c'], .slice Z xs.length dz] w fun e w' => e = .returned (.bool true) ∧ Below w.heap.size w w' := by
  go_enter Try.func7, Try.ntmps7
  go_wp2_with fail
  refine (szHouse_no _ _ _ _ _ _ _ hn0 hn1 hs).mono ?_
  rintro e w1 ⟨rfl, hb1⟩
  go_wp2_with fail
  go_ret
  exact ⟨rfl, ((Below.refl _ _).alloc (Nat.le_refl _) _).trans (hb1.mono (by simp))⟩

theorem meetFloor_long_at (v : Value) (n c : Nat) (Z : Option Addr) (w : World) (h : InHo w v) (hn0 : n ≤ 9223372036854775807) (hs : 1048576 < n) :
    Calls Try.prog 7 #[v, .slice Z n c] w fun e w' => e = .returned (.bool true) ∧ Below w.heap.size w w' := by
  obtain ⟨A, A', c1, c', ss, bs, rfl, _⟩ := h
  go_enter Try.func7, Try.ntmps7
  go_wp2_with fail
  go_ret
  exact ⟨rfl, below_alloc _ _⟩

theorem meetFloor_all (v v1 : Value) (w : World) (h : InHo w v) (h1 : InL w v1) :
    Calls Try.prog 7 #[v, v1] w fun e w' => e = .returned (.bool true) ∧ Below w.heap.size w w' := by
  obtain ⟨Z, dz, xs, rfl, rx, nxl⟩ := h1
  by_cases hn : 1048576 < xs.length
  · exact meetFloor_long_at v xs.length dz Z w h nxl hn
  replace hn : xs.length ≤ 1048576 := by omega
  obtain ⟨A, A', c, c', ss, bs, rfl, r1, r2, n1, n2⟩ := h
  by_cases hs : ss.length + bs.length ≤ 1048576
  · exact meetFloor_walk A A' c c' ss bs Z dz xs (orI (listB ss bs xs) (meetN ss bs (dfN bs xs) : Nat)) (orI (listB ss bs xs) (totL ss (dfN bs xs) (meetN ss bs (dfN bs xs)))) (listB ss bs xs) w ⟨r1, r2, by omega, by omega⟩ hs rx hn (fun A A' Z c c' d B w h hB hz => specMeet_any A A' c c' ss bs Z d xs B w h hB hz hn) (fun A A' Z c c' d B w h hB hz => implMeet_any A A' c c' ss bs Z d xs B w h hB hz hn)
  · exact meetFloor_big A A' ss.length bs.length c c' Z dz xs hn w n1 n2 (by omega)

set_option maxRecDepth 100000 in
theorem meetFloor_lifted (os : Os) (started : os.Started) (H : Type) (enc : TypeId × Value → H) :
    ReturnsInHanded {} Try.checked os 7 .any (Rows.fnExactMeetFloorSpec.pre6 enc Try.prog Try.f7 Rows.fnExactMeetFloorRow.domain false) (Rows.fnExactMeetFloorSpec.post enc Try.prog Try.f7 false true false false) := by
  refine returnsInHanded_of_change (C := Try.checked) own started (by kernel_rfl) Try.func7
    (ChangeSpec.witness6 (enc := enc) (C := Try.checked) false ⟨#[], #[.agg #[.slice none 0 0, .slice none 0 0], .slice none 0 0], []⟩ 8 (by kernel_rfl) (by kernel_rfl) (by kernel_rfl) (by kernel_rfl)) ?_
  intro W base args ds gs before hval0 hW _ _
  have hval : ∀ (j : Nat) t v, Try.f7.params[j]? = some t → args[j]? = some v → Value.okWide Try.prog W .any base t v := hval0
  have hW' := hW
  obtain ⟨p, q, hA0, hV, rfl, _, _⟩ := hW
  have hA : DataW.TrodAll enc Try.prog W 0 (fun _ => true) true Try.f7.params.toList args.toList ds p := hA0
  rw [Try.params7] at hA hval
  obtain ⟨v0, vs0, d0, ds0, p0, q0, hargs, rfl, rfl, h0, r0⟩ := trodAll_cons hA
  obtain ⟨v1, vs1, d1, ds1, p1, q1, rfl, rfl, rfl, h1, r1⟩ := trodAll_cons r0
  obtain ⟨rfl, rfl, rfl⟩ := trodAll_nil r1
  obtain rfl : args = #[v0, v1] := by cases args; simp_all
  obtain ⟨rfl, rfl⟩ := trodVars_none hV
  have k0 := h0
  have lt0 : ∀ x ∈ p0, x.block < W.heap.size := by obtain ⟨m, hm⟩ := k0; exact DataW.trod_lt m _ _ _ hm
  have hin := inHo_of (hval 0 24 v0 rfl rfl) h0
  have k1 := h1
  have lt1 : ∀ x ∈ p1, x.block < W.heap.size := by obtain ⟨m, hm⟩ := k1; exact DataW.trod_lt m _ _ _ hm
  have hin1 := inL_of (hval 1 22 v1 rfl rfl) h1
  clear hA0 hval0
  refine (meetFloor_all v0 v1 W hin hin1).mono fun e W' ⟨he, bel⟩ => ?_
  subst he
  exact ⟨_, rfl, _, _, _, [], _, [], hW', trodAll_mk1 (shut_bool Try.underlying4 _), (trodAll_cons_mk (Below.trod laidOut (by kernel_rfl) (of_decide_eq_true (by kernel_rfl)) k0 bel lt0) (trodAll_cons_mk (Below.trod laidOut (by kernel_rfl) (of_decide_eq_true (by kernel_rfl)) k1 bel lt1) trodAll_mk0)), rfl, bel.frame _, fun h => by cases h⟩

theorem meetFloor_holds : Rows.FnExactMeetFloorSaid :=
  OpenClaim.holds_of_wide 7 Try.f7 rfl rfl rfl rfl rfl rfl rfl ⟨rfl, rfl, rfl, rfl, rfl⟩ rfl rfl rfl rfl rfl (by kernel_rfl) Try.func7 (by kernel_rfl)
    (of_decide_eq_true (by kernel_rfl)) (by unfold Func.isWrapper; first | (rw [if_pos (by decide +kernel)]; kernel_rfl) | (rw [if_neg (by decide +kernel)]; exact ⟨rfl, rfl⟩))
    (fun os started H enc _ => meetFloor_lifted os started H enc)
#print axioms meetFloor_holds

end Go.Proofs.Ytmamcjnehnknmaa
