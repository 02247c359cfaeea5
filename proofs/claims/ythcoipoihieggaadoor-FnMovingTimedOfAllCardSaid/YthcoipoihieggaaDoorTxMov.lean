/- Contracts: the text of Moving, on both sides. -/
import Derived.Test.YthcoipoihieggaaDoorTxNum
import Derived.Test.YthcoipoihieggaaDoorMovB
import Derived.Deep.RegionHeld3
namespace Go.Proofs.YthcoipoihieggaaDoor
open Go.RowKit
set_option maxRecDepth 100000

def moS (x y : Int) : ByteArray := numS x ++ ⟨#[118]⟩ ++ numS y
set_option maxHeartbeats 4000000 in
theorem moText_any (x y : Int) (w : World) (h0 : 0 ≤ x ∧ x ≤ 1000) (h1 : 0 ≤ y ∧ y ≤ 1000) :
    Calls Tryd.prog 45 #[.agg #[.int .i64 x, .int .i64 y]] w fun e w' => e = .returned (.string (moS x y)) ∧ Below w.heap.size w w' := by
  have H0 := Lib.hid (fun w => l1Num_any 1001 x w (by omega) (by omega) (by omega))
  have H1 := Lib.hid (fun w => l1Num_any 1001 y w (by omega) (by omega) (by omega))
  have z0 := numS_size (n := x) (by omega)
  have z1 := numS_size (n := y) (by omega)
  unfold moS
  generalize numS x = s0 at *
  generalize numS y = s1 at *
  have A0 := fun u => run_string_add_sum (P := Tryd.prog) u (s0) (⟨#[118]⟩ : ByteArray) (by simp only [one_size]; omega)
  have A1 := fun u => run_string_add_sum (P := Tryd.prog) u (s0 ++ ⟨#[118]⟩) (s1 : ByteArray) (by simp only [ByteArray.size_append, one_size]; omega)
  go_enter Tryd.func45, Tryd.ntmps45
  go_wp2_with fail
  have S0 : (w.alloc (.cells #[.int .i64 x, .int .i64 y] 23)).cell? ⟨w.heap.size, 0, none⟩ = some (.int .i64 x) := by simp
  have S1 : (w.alloc (.cells #[.int .i64 x, .int .i64 y] 23)).cell? ⟨w.heap.size, 1, none⟩ = some (.int .i64 y) := by simp
  have SB : Below w.heap.size w (w.alloc (.cells #[.int .i64 x, .int .i64 y] 23)) := below_alloc _ _
  have SZ : w.heap.size + 1 ≤ (w.alloc (.cells #[.int .i64 x, .int .i64 y] 23)).heap.size := by simp
  generalize (w.alloc (.cells #[.int .i64 x, .int .i64 y] 23)) = u at *
  go_region_held3 (fun u => u.cell? ⟨w.heap.size, 0, none⟩ = some (.int .i64 x) ∧ u.cell? ⟨w.heap.size, 1, none⟩ = some (.int .i64 y) ∧ Below w.heap.size w u ∧ w.heap.size + 1 ≤ u.heap.size) (first | exact ⟨S0, S1, SB.drew, SZ⟩ | exact ⟨T0_0, T0_1, TB0, TZ0⟩ | exact ⟨T1_0, T1_1, TB1, TZ1⟩)
    (first
      | (go_at_call_of 55 (Value.int .i64 x); refine (H0.out _).mono ?_; rintro e v1 ⟨rfl, hb0⟩; have T0_0 := (hb0.cell (p := ⟨w.heap.size, 0, none⟩) (by show w.heap.size < u.heap.size; omega)).trans S0; have T0_1 := (hb0.cell (p := ⟨w.heap.size, 1, none⟩) (by show w.heap.size < u.heap.size; omega)).trans S1; have TB0 := SB.drew.trans (hb0.mono (by show w.heap.size ≤ u.heap.size; omega)); have TZ0 : w.heap.size + 1 ≤ v1.heap.size := Nat.le_trans (show w.heap.size + 1 ≤ u.heap.size by omega) hb0.size)
      | (go_at_call_of 55 (Value.int .i64 y); refine (H1.out _).mono ?_; rintro e v2 ⟨rfl, hb1⟩; have T1_0 := (hb1.cell (p := ⟨w.heap.size, 0, none⟩) (by show w.heap.size < v1.heap.size; omega)).trans T0_0; have T1_1 := (hb1.cell (p := ⟨w.heap.size, 1, none⟩) (by show w.heap.size < v1.heap.size; omega)).trans T0_1; have TB1 := TB0.trans (hb1.mono (by show w.heap.size ≤ v1.heap.size; omega)); have TZ1 : w.heap.size + 1 ≤ v2.heap.size := Nat.le_trans (show w.heap.size + 1 ≤ v1.heap.size by omega) hb1.size)
    )
  all_goals go_wp2_with fail
  all_goals go_ret
  all_goals exact ⟨rfl, TB1⟩
set_option maxHeartbeats 4000000 in
theorem specMovingText_any (x y : Int) (w : World) :
    Calls Tryd.prog 17 #[.agg #[.int .i64 x, .int .i64 y]] w fun e w' => e = .returned (.tuple #[.string (orS (movB x y) (moS x y)), .bool (movB x y)]) ∧ Below w.heap.size w w' := by
  cases g0 : movB x y
  · rw [orS_no]
    have H := Lib.hid g0
    clear g0
    go_enter Tryd.func17, Tryd.ntmps17
    go_wp2_with fail
    refine (moGood_any _ _ _).mono ?_
    rintro e w1 ⟨rfl, hb⟩
    rw [H.out]
    have Bt : Below w.heap.size w w1 := (below_alloc _ _).trans (hb.mono (by simp))
    clear hb
    go_wp2_with fail
    go_ret2
    exact ⟨rfl, Bt⟩
  · rw [orS_yes]
    have b0 := movB_le g0
    have H := Lib.hid g0
    clear g0
    have HM := Lib.hid (fun w => moText_any x y w (by omega) (by omega))
    generalize moS x y = s at *
    go_enter Tryd.func17, Tryd.ntmps17
    go_wp2_with fail
    refine (moGood_any _ _ _).mono ?_
    rintro e w1 ⟨rfl, hb⟩
    rw [H.out]
    have hs : w.heap.size + 1 ≤ w1.heap.size := by have := hb.size; simp at this; omega
    have c0 : w1.cell? ⟨w.heap.size, 0, none⟩ = some (.int .i64 x) := (hb.cell (by simp)).trans (by simp)
    have c1 : w1.cell? ⟨w.heap.size, 1, none⟩ = some (.int .i64 y) := (hb.cell (by simp)).trans (by simp)
    have Bt : Below w.heap.size w w1 := (below_alloc _ _).trans (hb.mono (by simp))
    clear hb
    go_wp2_with fail
    refine (HM.out _).mono ?_
    rintro e w2 ⟨rfl, hb⟩
    go_wp2_with fail
    go_ret2
    exact ⟨rfl, Bt.trans (hb.mono (by omega))⟩
set_option maxHeartbeats 4000000 in
theorem implMovingText_any (x y : Int) (w : World) (ht : TabI w) :
    Calls Tryd.prog 16 #[.agg #[.int .i64 x, .int .i64 y]] w fun e w' => e = .returned (.tuple #[.string (orS (movB x y) (moS x y)), .bool (movB x y)]) ∧ Below w.heap.size w w' := by
  cases g0 : movB x y
  · rw [orS_no]
    have H := Lib.hid g0
    clear g0
    go_enter Tryd.func16, Tryd.ntmps16
    go_wp2_with fail
    refine (impMov_any _ _ _).mono ?_
    rintro e w1 ⟨rfl, hb⟩
    rw [H.out]
    have Bt : Below w.heap.size w w1 := (below_alloc _ _).trans (hb.mono (by simp))
    clear hb
    go_wp2_with fail
    go_ret2
    exact ⟨rfl, Bt⟩
  · rw [orS_yes]
    have b0 := movB_le g0
    have H := Lib.hid g0
    clear g0
    have H0 := Lib.hid (fun u hu => itoa_any x u (by omega) (by omega) (ht.below hu))
    have H1 := Lib.hid (fun u hu => itoa_any y u (by omega) (by omega) (ht.below hu))
    have z0 := numS_size (n := x) (by omega)
    have z1 := numS_size (n := y) (by omega)
    unfold moS
    generalize numS x = s0 at *
    generalize numS y = s1 at *
    have A0 := fun u => run_string_add_sum (P := Tryd.prog) u (s0) (⟨#[118]⟩ : ByteArray) (by simp only [one_size]; omega)
    have A1 := fun u => run_string_add_sum (P := Tryd.prog) u (s0 ++ ⟨#[118]⟩) (s1 : ByteArray) (by simp only [ByteArray.size_append, one_size]; omega)
    go_enter Tryd.func16, Tryd.ntmps16
    go_wp2_with fail
    refine (impMov_any _ _ _).mono ?_
    rintro e w1 ⟨rfl, hb⟩
    rw [H.out]
    have hs : w.heap.size + 1 ≤ w1.heap.size := by have := hb.size; simp at this; omega
    have c0 : w1.cell? ⟨w.heap.size, 0, none⟩ = some (.int .i64 x) := (hb.cell (by simp)).trans (by simp)
    have c1 : w1.cell? ⟨w.heap.size, 1, none⟩ = some (.int .i64 y) := (hb.cell (by simp)).trans (by simp)
    have Bt : Below w.heap.size w w1 := (below_alloc _ _).trans (hb.mono (by simp))
    clear hb
    go_wp2_with fail
    have S0 := c0
    have S1 := c1
    have SB := Bt
    have SZ := hs
    generalize w1 = u at *
    go_region_held3 (fun u => u.cell? ⟨w.heap.size, 0, none⟩ = some (.int .i64 x) ∧ u.cell? ⟨w.heap.size, 1, none⟩ = some (.int .i64 y) ∧ Below w.heap.size w u ∧ w.heap.size + 1 ≤ u.heap.size) (first | exact ⟨S0, S1, SB.drew, SZ⟩ | exact ⟨T0_0, T0_1, TB0, TZ0⟩ | exact ⟨T1_0, T1_1, TB1, TZ1⟩)
      (first
        | (go_at_call_of 44 (Value.int .i64 x); refine (H0.out _ SB.drew).mono ?_; rintro e v1 ⟨rfl, hb0⟩; have T0_0 := (hb0.cell (p := ⟨w.heap.size, 0, none⟩) (by show w.heap.size < u.heap.size; omega)).trans S0; have T0_1 := (hb0.cell (p := ⟨w.heap.size, 1, none⟩) (by show w.heap.size < u.heap.size; omega)).trans S1; have TB0 := SB.drew.trans (hb0.mono (by show w.heap.size ≤ u.heap.size; omega)); have TZ0 : w.heap.size + 1 ≤ v1.heap.size := Nat.le_trans (show w.heap.size + 1 ≤ u.heap.size by omega) hb0.size)
        | (go_at_call_of 44 (Value.int .i64 y); refine (H1.out _ TB0).mono ?_; rintro e v2 ⟨rfl, hb1⟩; have T1_0 := (hb1.cell (p := ⟨w.heap.size, 0, none⟩) (by show w.heap.size < v1.heap.size; omega)).trans T0_0; have T1_1 := (hb1.cell (p := ⟨w.heap.size, 1, none⟩) (by show w.heap.size < v1.heap.size; omega)).trans T0_1; have TB1 := TB0.trans (hb1.mono (by show w.heap.size ≤ v1.heap.size; omega)); have TZ1 : w.heap.size + 1 ≤ v2.heap.size := Nat.le_trans (show w.heap.size + 1 ≤ v1.heap.size by omega) hb1.size)
      )
    all_goals go_wp2_with fail
    all_goals go_ret2
    all_goals exact ⟨rfl, TB1⟩

end Go.Proofs.YthcoipoihieggaaDoor
