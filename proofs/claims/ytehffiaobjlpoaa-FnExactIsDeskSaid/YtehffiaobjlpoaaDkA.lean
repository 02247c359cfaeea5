/- Contracts: the first desk, both sides. -/
import Derived.Test.YtehffiaobjlpoaaKit
namespace Go.Proofs.Ytehffiaobjlpoaa
open Go.RowKit
set_option maxRecDepth 100000

abbrev dkc (st : Int) (v v' : Value) (x y r s t : Int) (v'' : Value) : Array Value := #[.int .i64 st, v, v', .int .i64 x, .int .i64 y, .int .i64 r, .int .i64 s, .int .i64 t, v'']
abbrev dkv (st : Int) (v v' : Value) (x y r s t : Int) (v'' : Value) : Value := .agg (dkc st v v' x y r s t v'')
def fdJ : List Int := [2, -1, 2, 1, -3, 0]
/-- the first desk, in rows of the call's own -/
def FirstD (w : World) (e : Ending) (w' : World) : Prop :=
  ∃ g g' g'', e = .returned (dkv 5 (.slice (some ⟨g, 0, none⟩) 2 2) (.slice (some ⟨g', 0, none⟩) 1 1) 60 2 4 3 4 (.slice (some ⟨g'', 0, none⟩) 6 6)) ∧ Blk w' g 3 (ints [1, 2]) ∧ Blk w' g' 3 (ints [3]) ∧ Blk w' g'' 3 (ints fdJ) ∧
    w.heap.size ≤ g ∧ g < g' ∧ g' < g'' ∧ Below w.heap.size w w'

set_option maxHeartbeats 1000000 in
theorem firstDesk_left (w : World) (o : Obj) : FirstD w (.returned (dkv 5 (.slice (some ⟨w.heap.size + 1, 0, none⟩) 2 2) (.slice (some ⟨w.heap.size + 2, 0, none⟩) 1 1) 60 2 4 3 4 (.slice (some ⟨w.heap.size + 3, 0, none⟩) 6 6)))
    ((((w.alloc o).alloc (.cells #[.int .i64 1, .int .i64 2] 3)).alloc (.cells #[.int .i64 3] 3)).alloc (.cells #[.int .i64 2, .int .i64 (-1), .int .i64 2, .int .i64 1, .int .i64 (-3), .int .i64 0] 3)) :=
  ⟨_, _, _, rfl, ((Blk.new' (by simp)).alloc _).alloc _, (Blk.new' (by simp)).alloc _, Blk.new' (by simp), by omega, by omega, by omega, (((below_alloc _ _).alloc (by simp) _).alloc (by simp; omega) _).alloc (by simp; omega) _⟩

set_option maxHeartbeats 1000000 in
theorem specFirstDesk_any (w : World) : Calls Try.prog 7 #[] w (FirstD w) := by
  go_enter Try.func7, Try.ntmps7
  go_wp2_with fail
  refine bodyPost_ret (v := dkv 5 (.slice (some ⟨w.heap.size + 1, 0, none⟩) 2 2) (.slice (some ⟨w.heap.size + 2, 0, none⟩) 1 1) 60 2 4 3 4 (.slice (some ⟨w.heap.size + 3, 0, none⟩) 6 6)) (by simp [results, Try.results7, go_sem]) rfl ?_
  exact firstDesk_left w _

set_option maxHeartbeats 1000000 in
theorem implFirstDesk_any (w : World) : Calls Try.prog 8 #[] w (FirstD w) := by
  go_enter Try.func8, Try.ntmps8
  go_wp2_with fail
  refine bodyPost_ret (v := dkv 5 (.slice (some ⟨w.heap.size + 1, 0, none⟩) 2 2) (.slice (some ⟨w.heap.size + 2, 0, none⟩) 1 1) 60 2 4 3 4 (.slice (some ⟨w.heap.size + 3, 0, none⟩) 6 6)) (by simp [results, Try.results8, go_sem]) rfl ?_
  exact firstDesk_left w _

end Go.Proofs.Ytehffiaobjlpoaa
