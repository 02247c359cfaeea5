/- Contracts: walkers, rides and what is told of them (the program). -/
import Derived.Test.YthcoipoihieggaaDoorMovB
import Derived.WalkLawsBesides
namespace Go.Proofs.YthcoipoihieggaaDoor
set_option maxRecDepth 100000
open Go.RowKit

theorem ret_ii {k : IntKind} {a b a' b' : Int} (h : a = b) (h' : a' = b') : Ending.returned (.tuple #[.int k a, .int k a']) = .returned (.tuple #[.int k b, .int k b']) := by rw [h, h']

set_option maxHeartbeats 400000 in
theorem walkerWith_any (x y p : Int) (w : World) :
    Calls Tryd.prog 36 #[.agg #[.int .i64 x, .int .i64 y], .int .i64 p] w fun e w' => e = .returned (.agg #[.int .i64 p, .int .i64 y]) ∧ Below w.heap.size w w' := by
  go_enter Tryd.func36, Tryd.ntmps36
  go_wp2_with fail
  refine bodyPost_ret (v := .agg #[.int .i64 p, .int .i64 y]) (by simp [results, Tryd.results36, go_sem]) rfl ⟨rfl, ?_⟩
  exact ((Below.refl _ _).alloc (Nat.le_refl _) _).alloc (by simp) _

set_option maxHeartbeats 400000 in
theorem walkerAgainst_any (x y p : Int) (w : World) :
    Calls Tryd.prog 41 #[.agg #[.int .i64 x, .int .i64 y], .int .i64 p] w fun e w' => e = .returned (.agg #[.int .i64 p, .int .i64 (wrap64 (-y))]) ∧ Below w.heap.size w w' := by
  go_enter Tryd.func41, Tryd.ntmps41
  go_wp2_with fail
  refine bodyPost_ret (v := .agg #[.int .i64 p, .int .i64 (wrap64 (-y))]) (by simp [results, Tryd.results41, go_sem]) rfl ⟨rfl, ?_⟩
  exact ((Below.refl _ _).alloc (Nat.le_refl _) _).alloc (by simp) _

set_option maxHeartbeats 400000 in
theorem speed_any (p c : Int) (w : World) (h1 : -9223372036854775808 ≤ p + c) (h2 : p + c ≤ 9223372036854775807) :
    Calls Tryd.prog 49 #[.agg #[.int .i64 p, .int .i64 c]] w fun e w' => e = .returned (.int .i64 (p + c)) ∧ Below w.heap.size w w' := by
  go_enter Tryd.func49, Tryd.ntmps49
  go_wp2_with fail
  go_ret
  exact ⟨rfl, below_alloc _ _⟩

set_option maxHeartbeats 400000 in
theorem ride_time_any (p c v : Int) (w : World) (h1 : -9223372036854775808 ≤ p + c) (h2 : p + c ≤ 9223372036854775807) (h3 : 0 ≤ v) (h4 : v ≤ 9223372036854775807) :
    Calls Tryd.prog 37 #[.agg #[.int .i64 p, .int .i64 c, .int .i64 v]] w fun e w' => e = .returned (.tuple #[.int .i64 (v), .int .i64 (p + c)]) ∧ Below w.heap.size w w' := by
  have E : Hid (IntKind.i64.wrap (v) = v) := Lib.hid (IntWalk.i64_in _ (by omega))
  go_enter Tryd.func37, Tryd.ntmps37
  go_wp2_with fail
  go_region_held3 (fun w' => w'.cell? ⟨w.heap.size, 0, none⟩ = some (.int .i64 p) ∧ w'.cell? ⟨w.heap.size, 1, none⟩ = some (.int .i64 c) ∧ w'.cell? ⟨w.heap.size, 2, none⟩ = some (.int .i64 v)) (first | exact ⟨q0, q1, q2⟩ | go_keep)
    (first | (go_at_call 49; refine (speed_any _ _ _ h1 h2).mono ?_; rintro e w1 ⟨rfl, hb⟩; have q0 : w1.cell? ⟨w.heap.size, 0, none⟩ = some (.int .i64 p) := (hb.cell (by simp)).trans (by simp); have q1 : w1.cell? ⟨w.heap.size, 1, none⟩ = some (.int .i64 c) := (hb.cell (by simp)).trans (by simp); have q2 : w1.cell? ⟨w.heap.size, 2, none⟩ = some (.int .i64 v) := (hb.cell (by simp)).trans (by simp)))
  go_wp2
  go_ret2
  exact ⟨ret_ii (by first | rfl | exact E.out) rfl, (below_alloc _ _).trans (below_undrew (hb.mono (by simp)))⟩

set_option maxHeartbeats 400000 in
theorem ride_steps_any (p c v : Int) (w : World) (h1 : -9223372036854775808 ≤ p + c) (h2 : p + c ≤ 9223372036854775807) (h3 : 0 ≤ v * p) (h4 : v * p ≤ 9223372036854775807) :
    Calls Tryd.prog 40 #[.agg #[.int .i64 p, .int .i64 c, .int .i64 v]] w fun e w' => e = .returned (.tuple #[.int .i64 (v * p), .int .i64 (p + c)]) ∧ Below w.heap.size w w' := by
  have E : Hid (IntKind.i64.wrap (v * p) = v * p) := Lib.hid (IntWalk.i64_in _ (by omega))
  go_enter Tryd.func40, Tryd.ntmps40
  go_wp2_with fail
  go_region_held3 (fun w' => w'.cell? ⟨w.heap.size, 0, none⟩ = some (.int .i64 p) ∧ w'.cell? ⟨w.heap.size, 1, none⟩ = some (.int .i64 c) ∧ w'.cell? ⟨w.heap.size, 2, none⟩ = some (.int .i64 v)) (first | exact ⟨q0, q1, q2⟩ | go_keep)
    (first | (go_at_call 49; refine (speed_any _ _ _ h1 h2).mono ?_; rintro e w1 ⟨rfl, hb⟩; have q0 : w1.cell? ⟨w.heap.size, 0, none⟩ = some (.int .i64 p) := (hb.cell (by simp)).trans (by simp); have q1 : w1.cell? ⟨w.heap.size, 1, none⟩ = some (.int .i64 c) := (hb.cell (by simp)).trans (by simp); have q2 : w1.cell? ⟨w.heap.size, 2, none⟩ = some (.int .i64 v) := (hb.cell (by simp)).trans (by simp)))
  go_wp2
  go_ret2
  exact ⟨ret_ii (by first | rfl | exact E.out) rfl, (below_alloc _ _).trans (below_undrew (hb.mono (by simp)))⟩

set_option maxHeartbeats 400000 in
theorem ride_andBack_any (p c v : Int) (w : World) (h1 : -9223372036854775808 ≤ p + c) (h2 : p + c ≤ 9223372036854775807) (h3 : 0 ≤ 2 * v) (h4 : 2 * v ≤ 9223372036854775807) :
    Calls Tryd.prog 42 #[.agg #[.int .i64 p, .int .i64 c, .int .i64 v]] w fun e w' => e = .returned (.tuple #[.int .i64 (2 * v), .int .i64 (p + c)]) ∧ Below w.heap.size w w' := by
  have E : Hid (IntKind.i64.wrap (2 * v) = 2 * v) := Lib.hid (IntWalk.i64_in _ (by omega))
  go_enter Tryd.func42, Tryd.ntmps42
  go_wp2_with fail
  go_region_held3 (fun w' => w'.cell? ⟨w.heap.size, 0, none⟩ = some (.int .i64 p) ∧ w'.cell? ⟨w.heap.size, 1, none⟩ = some (.int .i64 c) ∧ w'.cell? ⟨w.heap.size, 2, none⟩ = some (.int .i64 v)) (first | exact ⟨q0, q1, q2⟩ | go_keep)
    (first | (go_at_call 49; refine (speed_any _ _ _ h1 h2).mono ?_; rintro e w1 ⟨rfl, hb⟩; have q0 : w1.cell? ⟨w.heap.size, 0, none⟩ = some (.int .i64 p) := (hb.cell (by simp)).trans (by simp); have q1 : w1.cell? ⟨w.heap.size, 1, none⟩ = some (.int .i64 c) := (hb.cell (by simp)).trans (by simp); have q2 : w1.cell? ⟨w.heap.size, 2, none⟩ = some (.int .i64 v) := (hb.cell (by simp)).trans (by simp)))
  go_wp2
  go_ret2
  exact ⟨ret_ii (by first | rfl | exact E.out) rfl, (below_alloc _ _).trans (below_undrew (hb.mono (by simp)))⟩

end Go.Proofs.YthcoipoihieggaaDoor
