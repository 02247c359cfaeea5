/- Contracts: the text of Spiral, on both sides. -/
import Derived.Test.YtenhlppijpmdgaaDoorTxNum
import Derived.Test.YtenhlppijpmdgaaDoorSpB
import Derived.Deep.RegionHeld3
namespace Go.Proofs.YtenhlppijpmdgaaDoor
open Go.RowKit
set_option maxRecDepth 100000

def spS (a b c : Int) : ByteArray := numS a ++ ⟨#[64]⟩ ++ numS b ++ ⟨#[42]⟩ ++ numS c
set_option maxHeartbeats 4000000 in
theorem spText_any (a b c : Int) (w : World) (h0 : 0 ≤ a ∧ a ≤ 1000) (h1 : 0 ≤ b ∧ b ≤ 1000) (h2 : 0 ≤ c ∧ c ≤ 1000) :
    Calls Tryd.prog 23 #[.agg #[.int .i64 a, .int .i64 b, .int .i64 c]] w fun e w' => e = .returned (.string (spS a b c)) ∧ Below w.heap.size w w' := by
  have H0 := Lib.hid (fun w => l1Num_any 1001 a w (by omega) (by omega) (by omega))
  have H1 := Lib.hid (fun w => l1Num_any 1001 b w (by omega) (by omega) (by omega))
  have H2 := Lib.hid (fun w => l1Num_any 1001 c w (by omega) (by omega) (by omega))
  have z0 := numS_size (n := a) (by omega)
  have z1 := numS_size (n := b) (by omega)
  have z2 := numS_size (n := c) (by omega)
  unfold spS
  generalize numS a = s0 at *
  generalize numS b = s1 at *
  generalize numS c = s2 at *
  have A0 := fun u => run_string_add_sum (P := Tryd.prog) u (s0) (⟨#[64]⟩ : ByteArray) (by simp only [one_size]; omega)
  have A1 := fun u => run_string_add_sum (P := Tryd.prog) u (s0 ++ ⟨#[64]⟩) (s1 : ByteArray) (by simp only [ByteArray.size_append, one_size]; omega)
  have A2 := fun u => run_string_add_sum (P := Tryd.prog) u (s0 ++ ⟨#[64]⟩ ++ s1) (⟨#[42]⟩ : ByteArray) (by simp only [ByteArray.size_append, one_size]; omega)
  have A3 := fun u => run_string_add_sum (P := Tryd.prog) u (s0 ++ ⟨#[64]⟩ ++ s1 ++ ⟨#[42]⟩) (s2 : ByteArray) (by simp only [ByteArray.size_append, one_size]; omega)
  go_enter Tryd.func23, Tryd.ntmps23
  go_wp2_with fail
  have S0 : (w.alloc (.cells #[.int .i64 a, .int .i64 b, .int .i64 c] 26)).cell? ⟨w.heap.size, 0, none⟩ = some (.int .i64 a) := by simp
  have S1 : (w.alloc (.cells #[.int .i64 a, .int .i64 b, .int .i64 c] 26)).cell? ⟨w.heap.size, 1, none⟩ = some (.int .i64 b) := by simp
  have S2 : (w.alloc (.cells #[.int .i64 a, .int .i64 b, .int .i64 c] 26)).cell? ⟨w.heap.size, 2, none⟩ = some (.int .i64 c) := by simp
  have SB : Below w.heap.size w (w.alloc (.cells #[.int .i64 a, .int .i64 b, .int .i64 c] 26)) := below_alloc _ _
  have SZ : w.heap.size + 1 ≤ (w.alloc (.cells #[.int .i64 a, .int .i64 b, .int .i64 c] 26)).heap.size := by simp
  generalize (w.alloc (.cells #[.int .i64 a, .int .i64 b, .int .i64 c] 26)) = u at *
  go_region_held3 (fun u => u.cell? ⟨w.heap.size, 0, none⟩ = some (.int .i64 a) ∧ u.cell? ⟨w.heap.size, 1, none⟩ = some (.int .i64 b) ∧ u.cell? ⟨w.heap.size, 2, none⟩ = some (.int .i64 c) ∧ Below w.heap.size w u ∧ w.heap.size + 1 ≤ u.heap.size) (first | exact ⟨S0, S1, S2, SB.drew, SZ⟩ | exact ⟨T0_0, T0_1, T0_2, TB0, TZ0⟩ | exact ⟨T1_0, T1_1, T1_2, TB1, TZ1⟩ | exact ⟨T2_0, T2_1, T2_2, TB2, TZ2⟩)
    (first
      | (go_at_call_of 40 (Value.int .i64 a); refine (H0.out _).mono ?_; rintro e v1 ⟨rfl, hb0⟩; have T0_0 := (hb0.cell (p := ⟨w.heap.size, 0, none⟩) (by show w.heap.size < u.heap.size; omega)).trans S0; have T0_1 := (hb0.cell (p := ⟨w.heap.size, 1, none⟩) (by show w.heap.size < u.heap.size; omega)).trans S1; have T0_2 := (hb0.cell (p := ⟨w.heap.size, 2, none⟩) (by show w.heap.size < u.heap.size; omega)).trans S2; have TB0 := SB.drew.trans (hb0.mono (by show w.heap.size ≤ u.heap.size; omega)); have TZ0 : w.heap.size + 1 ≤ v1.heap.size := Nat.le_trans (show w.heap.size + 1 ≤ u.heap.size by omega) hb0.size)
      | (go_at_call_of 40 (Value.int .i64 b); refine (H1.out _).mono ?_; rintro e v2 ⟨rfl, hb1⟩; have T1_0 := (hb1.cell (p := ⟨w.heap.size, 0, none⟩) (by show w.heap.size < v1.heap.size; omega)).trans T0_0; have T1_1 := (hb1.cell (p := ⟨w.heap.size, 1, none⟩) (by show w.heap.size < v1.heap.size; omega)).trans T0_1; have T1_2 := (hb1.cell (p := ⟨w.heap.size, 2, none⟩) (by show w.heap.size < v1.heap.size; omega)).trans T0_2; have TB1 := TB0.trans (hb1.mono (by show w.heap.size ≤ v1.heap.size; omega)); have TZ1 : w.heap.size + 1 ≤ v2.heap.size := Nat.le_trans (show w.heap.size + 1 ≤ v1.heap.size by omega) hb1.size)
      | (go_at_call_of 40 (Value.int .i64 c); refine (H2.out _).mono ?_; rintro e v3 ⟨rfl, hb2⟩; have T2_0 := (hb2.cell (p := ⟨w.heap.size, 0, none⟩) (by show w.heap.size < v2.heap.size; omega)).trans T1_0; have T2_1 := (hb2.cell (p := ⟨w.heap.size, 1, none⟩) (by show w.heap.size < v2.heap.size; omega)).trans T1_1; have T2_2 := (hb2.cell (p := ⟨w.heap.size, 2, none⟩) (by show w.heap.size < v2.heap.size; omega)).trans T1_2; have TB2 := TB1.trans (hb2.mono (by show w.heap.size ≤ v2.heap.size; omega)); have TZ2 : w.heap.size + 1 ≤ v3.heap.size := Nat.le_trans (show w.heap.size + 1 ≤ v2.heap.size by omega) hb2.size)
    )
  all_goals go_wp2_with fail
  all_goals go_ret
  all_goals exact ⟨rfl, TB2⟩
set_option maxHeartbeats 4000000 in
theorem specSpiralText_any (a b c : Int) (w : World) :
    Calls Tryd.prog 7 #[.agg #[.int .i64 a, .int .i64 b, .int .i64 c]] w fun e w' => e = .returned (.tuple #[.string (orS (spiB a b c) (spS a b c)), .bool (spiB a b c)]) ∧ Below w.heap.size w w' := by
  cases g0 : spiB a b c
  · rw [orS_no]
    have H := Lib.hid g0
    clear g0
    go_enter Tryd.func7, Tryd.ntmps7
    go_wp2_with fail
    refine (spGood_any _ _ _ _).mono ?_
    rintro e w1 ⟨rfl, hb⟩
    rw [H.out]
    have Bt : Below w.heap.size w w1 := (below_alloc _ _).trans (hb.mono (by simp))
    clear hb
    go_wp2_with fail
    go_ret2
    exact ⟨rfl, Bt⟩
  · rw [orS_yes]
    have b0 := spiB_le g0
    have H := Lib.hid g0
    clear g0
    have HM := Lib.hid (fun w => spText_any a b c w (by omega) (by omega) (by omega))
    generalize spS a b c = s at *
    go_enter Tryd.func7, Tryd.ntmps7
    go_wp2_with fail
    refine (spGood_any _ _ _ _).mono ?_
    rintro e w1 ⟨rfl, hb⟩
    rw [H.out]
    have hs : w.heap.size + 1 ≤ w1.heap.size := by have := hb.size; simp at this; omega
    have c0 : w1.cell? ⟨w.heap.size, 0, none⟩ = some (.int .i64 a) := (hb.cell (by simp)).trans (by simp)
    have c1 : w1.cell? ⟨w.heap.size, 1, none⟩ = some (.int .i64 b) := (hb.cell (by simp)).trans (by simp)
    have c2 : w1.cell? ⟨w.heap.size, 2, none⟩ = some (.int .i64 c) := (hb.cell (by simp)).trans (by simp)
    have Bt : Below w.heap.size w w1 := (below_alloc _ _).trans (hb.mono (by simp))
    clear hb
    go_wp2_with fail
    refine (HM.out _).mono ?_
    rintro e w2 ⟨rfl, hb⟩
    go_wp2_with fail
    go_ret2
    exact ⟨rfl, Bt.trans (hb.mono (by omega))⟩
set_option maxHeartbeats 4000000 in
theorem implSpiralText_any (a b c : Int) (w : World) (ht : TabI w) :
    Calls Tryd.prog 9 #[.agg #[.int .i64 a, .int .i64 b, .int .i64 c]] w fun e w' => e = .returned (.tuple #[.string (orS (spiB a b c) (spS a b c)), .bool (spiB a b c)]) ∧ Below w.heap.size w w' := by
  cases g0 : spiB a b c
  · rw [orS_no]
    have H := Lib.hid g0
    clear g0
    go_enter Tryd.func9, Tryd.ntmps9
    go_wp2_with fail
    refine (impSpi_any _ _ _ _).mono ?_
    rintro e w1 ⟨rfl, hb⟩
    rw [H.out]
    have Bt : Below w.heap.size w w1 := (below_alloc _ _).trans (hb.mono (by simp))
    clear hb
    go_wp2_with fail
    go_ret2
    exact ⟨rfl, Bt⟩
  · rw [orS_yes]
    have b0 := spiB_le g0
    have H := Lib.hid g0
    clear g0
    have H0 := Lib.hid (fun u hu => itoa_any a u (by omega) (by omega) (ht.below hu))
    have H1 := Lib.hid (fun u hu => itoa_any b u (by omega) (by omega) (ht.below hu))
    have H2 := Lib.hid (fun u hu => itoa_any c u (by omega) (by omega) (ht.below hu))
    have z0 := numS_size (n := a) (by omega)
    have z1 := numS_size (n := b) (by omega)
    have z2 := numS_size (n := c) (by omega)
    unfold spS
    generalize numS a = s0 at *
    generalize numS b = s1 at *
    generalize numS c = s2 at *
    have A0 := fun u => run_string_add_sum (P := Tryd.prog) u (s0) (⟨#[64]⟩ : ByteArray) (by simp only [one_size]; omega)
    have A1 := fun u => run_string_add_sum (P := Tryd.prog) u (s0 ++ ⟨#[64]⟩) (s1 : ByteArray) (by simp only [ByteArray.size_append, one_size]; omega)
    have A2 := fun u => run_string_add_sum (P := Tryd.prog) u (s0 ++ ⟨#[64]⟩ ++ s1) (⟨#[42]⟩ : ByteArray) (by simp only [ByteArray.size_append, one_size]; omega)
    have A3 := fun u => run_string_add_sum (P := Tryd.prog) u (s0 ++ ⟨#[64]⟩ ++ s1 ++ ⟨#[42]⟩) (s2 : ByteArray) (by simp only [ByteArray.size_append, one_size]; omega)
    go_enter Tryd.func9, Tryd.ntmps9
    go_wp2_with fail
    refine (impSpi_any _ _ _ _).mono ?_
    rintro e w1 ⟨rfl, hb⟩
    rw [H.out]
    have hs : w.heap.size + 1 ≤ w1.heap.size := by have := hb.size; simp at this; omega
    have c0 : w1.cell? ⟨w.heap.size, 0, none⟩ = some (.int .i64 a) := (hb.cell (by simp)).trans (by simp)
    have c1 : w1.cell? ⟨w.heap.size, 1, none⟩ = some (.int .i64 b) := (hb.cell (by simp)).trans (by simp)
    have c2 : w1.cell? ⟨w.heap.size, 2, none⟩ = some (.int .i64 c) := (hb.cell (by simp)).trans (by simp)
    have Bt : Below w.heap.size w w1 := (below_alloc _ _).trans (hb.mono (by simp))
    clear hb
    go_wp2_with fail
    have S0 := c0
    have S1 := c1
    have S2 := c2
    have SB := Bt
    have SZ := hs
    generalize w1 = u at *
    go_region_held3 (fun u => u.cell? ⟨w.heap.size, 0, none⟩ = some (.int .i64 a) ∧ u.cell? ⟨w.heap.size, 1, none⟩ = some (.int .i64 b) ∧ u.cell? ⟨w.heap.size, 2, none⟩ = some (.int .i64 c) ∧ Below w.heap.size w u ∧ w.heap.size + 1 ≤ u.heap.size) (first | exact ⟨S0, S1, S2, SB.drew, SZ⟩ | exact ⟨T0_0, T0_1, T0_2, TB0, TZ0⟩ | exact ⟨T1_0, T1_1, T1_2, TB1, TZ1⟩ | exact ⟨T2_0, T2_1, T2_2, TB2, TZ2⟩)
      (first
        | (go_at_call_of 25 (Value.int .i64 a); refine (H0.out _ SB.drew).mono ?_; rintro e v1 ⟨rfl, hb0⟩; have T0_0 := (hb0.cell (p := ⟨w.heap.size, 0, none⟩) (by show w.heap.size < u.heap.size; omega)).trans S0; have T0_1 := (hb0.cell (p := ⟨w.heap.size, 1, none⟩) (by show w.heap.size < u.heap.size; omega)).trans S1; have T0_2 := (hb0.cell (p := ⟨w.heap.size, 2, none⟩) (by show w.heap.size < u.heap.size; omega)).trans S2; have TB0 := SB.drew.trans (hb0.mono (by show w.heap.size ≤ u.heap.size; omega)); have TZ0 : w.heap.size + 1 ≤ v1.heap.size := Nat.le_trans (show w.heap.size + 1 ≤ u.heap.size by omega) hb0.size)
        | (go_at_call_of 25 (Value.int .i64 b); refine (H1.out _ TB0).mono ?_; rintro e v2 ⟨rfl, hb1⟩; have T1_0 := (hb1.cell (p := ⟨w.heap.size, 0, none⟩) (by show w.heap.size < v1.heap.size; omega)).trans T0_0; have T1_1 := (hb1.cell (p := ⟨w.heap.size, 1, none⟩) (by show w.heap.size < v1.heap.size; omega)).trans T0_1; have T1_2 := (hb1.cell (p := ⟨w.heap.size, 2, none⟩) (by show w.heap.size < v1.heap.size; omega)).trans T0_2; have TB1 := TB0.trans (hb1.mono (by show w.heap.size ≤ v1.heap.size; omega)); have TZ1 : w.heap.size + 1 ≤ v2.heap.size := Nat.le_trans (show w.heap.size + 1 ≤ v1.heap.size by omega) hb1.size)
        | (go_at_call_of 25 (Value.int .i64 c); refine (H2.out _ TB1).mono ?_; rintro e v3 ⟨rfl, hb2⟩; have T2_0 := (hb2.cell (p := ⟨w.heap.size, 0, none⟩) (by show w.heap.size < v2.heap.size; omega)).trans T1_0; have T2_1 := (hb2.cell (p := ⟨w.heap.size, 1, none⟩) (by show w.heap.size < v2.heap.size; omega)).trans T1_1; have T2_2 := (hb2.cell (p := ⟨w.heap.size, 2, none⟩) (by show w.heap.size < v2.heap.size; omega)).trans T1_2; have TB2 := TB1.trans (hb2.mono (by show w.heap.size ≤ v2.heap.size; omega)); have TZ2 : w.heap.size + 1 ≤ v3.heap.size := Nat.le_trans (show w.heap.size + 1 ≤ v2.heap.size by omega) hb2.size)
      )
    all_goals go_wp2_with fail
    all_goals go_ret2
    all_goals exact ⟨rfl, TB2⟩

end Go.Proofs.YtenhlppijpmdgaaDoor
