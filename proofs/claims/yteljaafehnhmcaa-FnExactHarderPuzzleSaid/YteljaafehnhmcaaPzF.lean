/- Contracts: one clue fits stairs (the model); the stairs of a row that fit a clue (the program). -/
import Derived.Test.YteljaafehnhmcaaPzT
import Derived.Test.YteljaafehnhmcaaPzE
namespace Go.Proofs.Yteljaafehnhmcaa
open Go.RowKit
set_option maxRecDepth 100000

set_option maxHeartbeats 1000000 in
theorem pzFits_any (k a b st : Int) (A A' : Option Addr) (c c' : Nat) (ss bs : List Int) (B : Nat) (w : World) (h : St w B st A A' c c' ss bs) (hB : B ≤ w.heap.size) (hh : hidB st ss bs = true) (hk0 : 0 ≤ k) (hk1 : k ≤ 5) :
    Calls Try.prog 52 #[.agg #[.int .i64 k, .int .i64 a, .int .i64 b], stv st A A' c c' ss bs] w (Plain (.bool (decide (toldV k a st ss bs = b))) w) := by
  have HV := Lib.hid (fun u (hu : St u B st A A' c c' ss bs) (hBu : B ≤ u.heap.size) => pzValue_any k a st A A' c c' ss bs B u hu hBu hh hk0 hk1)
  have X0 : Blk (w.alloc (.cells #[.int .i64 k, .int .i64 a, .int .i64 b] 54)) w.heap.size 54 #[.int .i64 k, .int .i64 a, .int .i64 b] := Blk.new _ _ _
  have X1 := X0.alloc (.cells #[.int .i64 st, .slice A ss.length c, .slice A' bs.length c'] 42)
  have Y1 : Blk ((w.alloc (.cells #[.int .i64 k, .int .i64 a, .int .i64 b] 54)).alloc (.cells #[.int .i64 st, .slice A ss.length c, .slice A' bs.length c'] 42)) (w.heap.size + 1) 42 #[.int .i64 st, .slice A ss.length c, .slice A' bs.length c'] := Blk.new' (by simp)
  have hs := (h.alloc hB (.cells #[.int .i64 k, .int .i64 a, .int .i64 b] 54)).alloc (by simp; omega) (.cells #[.int .i64 st, .slice A ss.length c, .slice A' bs.length c'] 42)
  have b0 : Below w.heap.size w ((w.alloc (.cells #[.int .i64 k, .int .i64 a, .int .i64 b] 54)).alloc (.cells #[.int .i64 st, .slice A ss.length c, .slice A' bs.length c'] 42)) := (below_alloc _ _).alloc (by simp) _
  have z0 : B ≤ ((w.alloc (.cells #[.int .i64 k, .int .i64 a, .int .i64 b] 54)).alloc (.cells #[.int .i64 st, .slice A ss.length c, .slice A' bs.length c'] 42)).heap.size := by simp; omega
  have HH := Lib.hid hh
  clear X0 h hh
  go_enter Try.func52, Try.ntmps52
  generalize toldV k a st ss bs = v at *
  go_wp2_with fail
  generalize ((w.alloc (.cells #[.int .i64 k, .int .i64 a, .int .i64 b] 54)).alloc (.cells #[.int .i64 st, .slice A ss.length c, .slice A' bs.length c'] 42)) = u at *
  obtain ⟨p0, p1, p2⟩ := X1.three
  obtain ⟨q0, q1, q2⟩ := Y1.three
  go_region_held3 (fun u => u.cell? ⟨w.heap.size, 0, none⟩ = some (.int .i64 k) ∧ u.cell? ⟨w.heap.size, 1, none⟩ = some (.int .i64 a) ∧ u.cell? ⟨w.heap.size, 2, none⟩ = some (.int .i64 b) ∧ u.cell? ⟨w.heap.size + 1, 0, none⟩ = some (.int .i64 st) ∧ u.cell? ⟨w.heap.size + 1, 1, none⟩ = some (.slice A ss.length c) ∧ u.cell? ⟨w.heap.size + 1, 2, none⟩ = some (.slice A' bs.length c')) (first | exact ⟨p0, p1, p2, q0, q1, q2⟩ | exact ⟨r0, r1, r2, s0, s1, s2⟩)
    (first
    | (go_at_call 61; (refine (HV.out u.drew hs.drew z0).mono ?_); rintro e w1 ⟨rfl, k1⟩; have hb1 : Below u.heap.size u w1 := below_undrew k1; have X2 := X1.below hb1 X1.lt; have Y2 := Y1.below hb1 Y1.lt; obtain ⟨r0, r1, r2⟩ := X2.three; obtain ⟨s0, s1, s2⟩ := Y2.three)
    | fail
    )
  go_wp2_with fail
  go_ret
  exact ⟨rfl, b0.trans (hb1.mono b0.size)⟩

end Go.Proofs.Yteljaafehnhmcaa
