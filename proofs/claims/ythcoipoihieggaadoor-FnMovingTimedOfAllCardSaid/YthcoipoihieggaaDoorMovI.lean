/- Contracts: times and steps of those who walk with it and against it, on both sides. -/
import Derived.Test.YthcoipoihieggaaDoorMovT
namespace Go.Proofs.YthcoipoihieggaaDoor
set_option maxRecDepth 100000
open Go.RowKit

theorem wrap_neg {y : Int} (h1 : 0 ≤ y) (h2 : y ≤ 20) : wrap64 (-y) = -y := IntWalk.wrap64_in _ ⟨by omega, by omega⟩
theorem tellB_wrap (x y p : Int) : tellB x y p (wrap64 (-y)) = tellB x y p (-y) := by
  cases h : askB x y p
  · rw [tellB_no h, tellB_no h]
  · have := askB_le h
    rw [wrap_neg (by omega) (by omega)]
theorem frN_wrap (x y p n : Int) : frN (tellB x y p (wrap64 (-y))) n (p + wrap64 (-y)) = frN (tellB x y p (wrap64 (-y))) n (p + -y) := by
  cases h : askB x y p
  · rw [tellB_no h, frN_no, frN_no]
  · have := askB_le h
    rw [wrap_neg (by omega) (by omega)]
theorem frD_wrap (x y p n : Int) : frD (tellB x y p (wrap64 (-y))) n (p + wrap64 (-y)) = frD (tellB x y p (wrap64 (-y))) n (p + -y) := by
  cases h : askB x y p
  · rw [tellB_no h, frD_no, frD_no]
  · have := askB_le h
    rw [wrap_neg (by omega) (by omega)]


set_option maxHeartbeats 400000 in
theorem impTimeWith_any (x y p : Int) (w : World) :
    Calls Tryd.prog 4 #[.agg #[.int .i64 x, .int .i64 y], .int .i64 p] w fun e w' => e = .returned (.tuple #[.int .i64 (frN (tellB x y p y) (x) (p + y)), .int .i64 (frD (tellB x y p y) (x) (p + y)), .bool (tellB x y p y)]) ∧ Below w.heap.size w w' := by
  go_enter Tryd.func4, Tryd.ntmps4
  go_wp2_with fail
  go_region_held3 (fun w' => w'.cell? ⟨w.heap.size, 0, none⟩ = some (.int .i64 x) ∧ w'.cell? ⟨w.heap.size, 1, none⟩ = some (.int .i64 y)) (first | exact ⟨r0, r1⟩ | exact ⟨q0, q1⟩ | go_keep)
    (first
      | (go_at_call 36; refine (walkerWith_any _ _ _ _).mono ?_; rintro e w1 ⟨rfl, hb⟩; have q0 : w1.cell? ⟨w.heap.size, 0, none⟩ = some (.int .i64 x) := (hb.cell (by simp)).trans (by simp); have q1 : w1.cell? ⟨w.heap.size, 1, none⟩ = some (.int .i64 y) := (hb.cell (by simp)).trans (by simp))
      | (go_at_call 35; refine (tell_time_any x y p y w1 (fun h => by have := askB_le h; omega)).mono ?_; rintro e w2 ⟨rfl, hb2⟩; have zz := hb.size; simp at zz; have r0 := (hb2.cell (p := ⟨w.heap.size, 0, none⟩) (by show w.heap.size < w1.heap.size; omega)).trans q0; have r1 := (hb2.cell (p := ⟨w.heap.size, 1, none⟩) (by show w.heap.size < w1.heap.size; omega)).trans q1))
  go_wp2
  go_ret3
  exact ⟨rfl, ((below_alloc _ _).trans (below_undrew (hb.mono (by simp)))).trans (hb2.mono (by omega))⟩

set_option maxHeartbeats 400000 in
theorem impStepsWith_any (x y p : Int) (w : World) :
    Calls Tryd.prog 6 #[.agg #[.int .i64 x, .int .i64 y], .int .i64 p] w fun e w' => e = .returned (.tuple #[.int .i64 (frN (tellB x y p y) (x * p) (p + y)), .int .i64 (frD (tellB x y p y) (x * p) (p + y)), .bool (tellB x y p y)]) ∧ Below w.heap.size w w' := by
  go_enter Tryd.func6, Tryd.ntmps6
  go_wp2_with fail
  go_region_held3 (fun w' => w'.cell? ⟨w.heap.size, 0, none⟩ = some (.int .i64 x) ∧ w'.cell? ⟨w.heap.size, 1, none⟩ = some (.int .i64 y)) (first | exact ⟨r0, r1⟩ | exact ⟨q0, q1⟩ | go_keep)
    (first
      | (go_at_call 36; refine (walkerWith_any _ _ _ _).mono ?_; rintro e w1 ⟨rfl, hb⟩; have q0 : w1.cell? ⟨w.heap.size, 0, none⟩ = some (.int .i64 x) := (hb.cell (by simp)).trans (by simp); have q1 : w1.cell? ⟨w.heap.size, 1, none⟩ = some (.int .i64 y) := (hb.cell (by simp)).trans (by simp))
      | (go_at_call 35; refine (tell_steps_any x y p y w1 (fun h => by have := askB_le h; omega)).mono ?_; rintro e w2 ⟨rfl, hb2⟩; have zz := hb.size; simp at zz; have r0 := (hb2.cell (p := ⟨w.heap.size, 0, none⟩) (by show w.heap.size < w1.heap.size; omega)).trans q0; have r1 := (hb2.cell (p := ⟨w.heap.size, 1, none⟩) (by show w.heap.size < w1.heap.size; omega)).trans q1))
  go_wp2
  go_ret3
  exact ⟨rfl, ((below_alloc _ _).trans (below_undrew (hb.mono (by simp)))).trans (hb2.mono (by omega))⟩

set_option maxHeartbeats 400000 in
theorem impTimeAgainst_any (x y p : Int) (w : World) :
    Calls Tryd.prog 8 #[.agg #[.int .i64 x, .int .i64 y], .int .i64 p] w fun e w' => e = .returned (.tuple #[.int .i64 (frN (tellB x y p (-y)) (x) (p + (-y))), .int .i64 (frD (tellB x y p (-y)) (x) (p + (-y))), .bool (tellB x y p (-y))]) ∧ Below w.heap.size w w' := by
  rw [← tellB_wrap x y p, ← frN_wrap x y p (x), ← frD_wrap x y p (x)]
  go_enter Tryd.func8, Tryd.ntmps8
  go_wp2_with fail
  go_region_held3 (fun w' => w'.cell? ⟨w.heap.size, 0, none⟩ = some (.int .i64 x) ∧ w'.cell? ⟨w.heap.size, 1, none⟩ = some (.int .i64 y)) (first | exact ⟨r0, r1⟩ | exact ⟨q0, q1⟩ | go_keep)
    (first
      | (go_at_call 41; refine (walkerAgainst_any _ _ _ _).mono ?_; rintro e w1 ⟨rfl, hb⟩; have q0 : w1.cell? ⟨w.heap.size, 0, none⟩ = some (.int .i64 x) := (hb.cell (by simp)).trans (by simp); have q1 : w1.cell? ⟨w.heap.size, 1, none⟩ = some (.int .i64 y) := (hb.cell (by simp)).trans (by simp))
      | (go_at_call 35; refine (tell_time_any x y p (wrap64 (-y)) w1 (fun h => by have := askB_le h; rw [wrap_neg (by omega) (by omega)]; omega)).mono ?_; rintro e w2 ⟨rfl, hb2⟩; have zz := hb.size; simp at zz; have r0 := (hb2.cell (p := ⟨w.heap.size, 0, none⟩) (by show w.heap.size < w1.heap.size; omega)).trans q0; have r1 := (hb2.cell (p := ⟨w.heap.size, 1, none⟩) (by show w.heap.size < w1.heap.size; omega)).trans q1))
  go_wp2
  go_ret3
  exact ⟨rfl, ((below_alloc _ _).trans (below_undrew (hb.mono (by simp)))).trans (hb2.mono (by omega))⟩

set_option maxHeartbeats 400000 in
theorem impStepsAgainst_any (x y p : Int) (w : World) :
    Calls Tryd.prog 10 #[.agg #[.int .i64 x, .int .i64 y], .int .i64 p] w fun e w' => e = .returned (.tuple #[.int .i64 (frN (tellB x y p (-y)) (x * p) (p + (-y))), .int .i64 (frD (tellB x y p (-y)) (x * p) (p + (-y))), .bool (tellB x y p (-y))]) ∧ Below w.heap.size w w' := by
  rw [← tellB_wrap x y p, ← frN_wrap x y p (x * p), ← frD_wrap x y p (x * p)]
  go_enter Tryd.func10, Tryd.ntmps10
  go_wp2_with fail
  go_region_held3 (fun w' => w'.cell? ⟨w.heap.size, 0, none⟩ = some (.int .i64 x) ∧ w'.cell? ⟨w.heap.size, 1, none⟩ = some (.int .i64 y)) (first | exact ⟨r0, r1⟩ | exact ⟨q0, q1⟩ | go_keep)
    (first
      | (go_at_call 41; refine (walkerAgainst_any _ _ _ _).mono ?_; rintro e w1 ⟨rfl, hb⟩; have q0 : w1.cell? ⟨w.heap.size, 0, none⟩ = some (.int .i64 x) := (hb.cell (by simp)).trans (by simp); have q1 : w1.cell? ⟨w.heap.size, 1, none⟩ = some (.int .i64 y) := (hb.cell (by simp)).trans (by simp))
      | (go_at_call 35; refine (tell_steps_any x y p (wrap64 (-y)) w1 (fun h => by have := askB_le h; rw [wrap_neg (by omega) (by omega)]; omega)).mono ?_; rintro e w2 ⟨rfl, hb2⟩; have zz := hb.size; simp at zz; have r0 := (hb2.cell (p := ⟨w.heap.size, 0, none⟩) (by show w.heap.size < w1.heap.size; omega)).trans q0; have r1 := (hb2.cell (p := ⟨w.heap.size, 1, none⟩) (by show w.heap.size < w1.heap.size; omega)).trans q1))
  go_wp2
  go_ret3
  exact ⟨rfl, ((below_alloc _ _).trans (below_undrew (hb.mono (by simp)))).trans (hb2.mono (by omega))⟩

set_option maxHeartbeats 400000 in
theorem impRoundTrip_any (x y p : Int) (w : World) :
    Calls Tryd.prog 12 #[.agg #[.int .i64 x, .int .i64 y], .int .i64 p] w fun e w' => e = .returned (.tuple #[.int .i64 (frN (tellB x y p y) (2 * x) (p + y)), .int .i64 (frD (tellB x y p y) (2 * x) (p + y)), .bool (tellB x y p y)]) ∧ Below w.heap.size w w' := by
  go_enter Tryd.func12, Tryd.ntmps12
  go_wp2_with fail
  go_region_held3 (fun w' => w'.cell? ⟨w.heap.size, 0, none⟩ = some (.int .i64 x) ∧ w'.cell? ⟨w.heap.size, 1, none⟩ = some (.int .i64 y)) (first | exact ⟨r0, r1⟩ | exact ⟨q0, q1⟩ | go_keep)
    (first
      | (go_at_call 36; refine (walkerWith_any _ _ _ _).mono ?_; rintro e w1 ⟨rfl, hb⟩; have q0 : w1.cell? ⟨w.heap.size, 0, none⟩ = some (.int .i64 x) := (hb.cell (by simp)).trans (by simp); have q1 : w1.cell? ⟨w.heap.size, 1, none⟩ = some (.int .i64 y) := (hb.cell (by simp)).trans (by simp))
      | (go_at_call 35; refine (tell_andBack_any x y p y w1 (fun h => by have := askB_le h; omega)).mono ?_; rintro e w2 ⟨rfl, hb2⟩; have zz := hb.size; simp at zz; have r0 := (hb2.cell (p := ⟨w.heap.size, 0, none⟩) (by show w.heap.size < w1.heap.size; omega)).trans q0; have r1 := (hb2.cell (p := ⟨w.heap.size, 1, none⟩) (by show w.heap.size < w1.heap.size; omega)).trans q1))
  go_wp2
  go_ret3
  exact ⟨rfl, ((below_alloc _ _).trans (below_undrew (hb.mono (by simp)))).trans (hb2.mono (by omega))⟩

end Go.Proofs.YthcoipoihieggaaDoor
