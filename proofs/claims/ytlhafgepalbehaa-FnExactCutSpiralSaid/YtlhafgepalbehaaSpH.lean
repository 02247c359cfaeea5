/- Contracts: spirals: angles, turns, heads, opposite steps, lamps; the model. -/
import Derived.Test.YtlhafgepalbehaaSpB
namespace Go.Proofs.Ytlhafgepalbehaa
open Go.RowKit

theorem emod_bd {x b : Int} (hb : 0 < b) : 0 ≤ x % b ∧ x % b < b := ⟨Int.emod_nonneg _ (by omega), Int.emod_lt_of_pos _ hb⟩
def headB (a b c n : Int) : Bool := stepB a b c n && !decide (a < n + b)
def lrN (n m : Int) : Int := mostI 3 ((m + n - 1) / n)
def lrB (n m : Int) : Bool := inB n 1 300 && (inB m 0 20000 && !decide (60 < lrN n m))
def twoB (a b c n m : Int) : Bool := stepB a b c n && stepB a b c m
def oppB (b n m : Int) : Bool := decide (2 * (absI (n - m) % b) = b)
def aroI (b n m : Int) : Int := leastI (absI (n - m) % b) (b - absI (n - m) % b)
def lampB (a b c m : Int) : Bool := spiB a b c && inB m 0 400
theorem abs_bd {n m A : Int} (h0 : 1 ≤ n) (h1 : n ≤ A) (h2 : 1 ≤ m) (h3 : m ≤ A) : 0 ≤ absI (n - m) ∧ absI (n - m) ≤ A := by
  unfold absI; split <;> omega

set_option maxHeartbeats 400000 in
theorem pastTurns_any (a b c n : Int) (h1 : 1 ≤ n) (h2 : n ≤ 400) (h3 : 3 ≤ b) (h4 : b ≤ 60) (w : World) :
    Calls Try.prog 49 #[.agg #[.int .i64 a, .int .i64 b, .int .i64 c], .int .i64 n] w fun e w' => e = .returned (.int .i64 ((n - 1) % b)) ∧ Below w.heap.size w w' := by
  have ht : (n - 1).tmod b = (n - 1) % b := Int.tmod_eq_emod_of_nonneg (by omega)
  have hz : ¬ b = 0 := by omega
  go_enter Try.func49, Try.ntmps49
  go_wp2_with fail
  go_wp2_with fail
  go_ret
  exact ⟨rfl, (Below.refl _ _).alloc (Nat.le_refl _) _⟩

set_option maxHeartbeats 1000000 in
theorem specTurnsOf_any (a b c : Int) (w : World) :
    Calls Try.prog 20 #[.agg #[.int .i64 a, .int .i64 b, .int .i64 c]] w fun e w' => e = .returned (.tuple #[.int .i64 (frN (spiB a b c) (a - 1) (b)), .int .i64 (frD (spiB a b c) (a - 1) (b)), .bool (spiB a b c)]) ∧ Below w.heap.size w w' := by
  cases g0 : spiB a b c
  · have hV : spiB a b c = false := g0
    rw [frN_no, frD_no]
    clear hV
    have H0 := Lib.hid g0
    clear g0
    go_enter Try.func20, Try.ntmps20
    go_wp2_with fail
    refine (spGood_any _ _ _ _).mono ?_
    rintro e w1 ⟨rfl, hb⟩
    have hs : w.heap.size + 1 ≤ w1.heap.size := by have := hb.size; (try simp at this); omega
    have c0_0 : w1.cell? ⟨w.heap.size, 0, none⟩ = some (.int .i64 a) := (hb.cell (by simp; try omega)).trans (by simp)
    have c0_1 : w1.cell? ⟨w.heap.size, 1, none⟩ = some (.int .i64 b) := (hb.cell (by simp; try omega)).trans (by simp)
    have c0_2 : w1.cell? ⟨w.heap.size, 2, none⟩ = some (.int .i64 c) := (hb.cell (by simp; try omega)).trans (by simp)
    have Bt : Below w.heap.size w w1 := ((Below.refl _ _).alloc (Nat.le_refl _) _).trans (hb.mono (by simp; try omega))
    clear hb
    rw [H0.out]
    go_wp2_with fail
    go_ret3
    exact ⟨rfl, Bt⟩
  · have b0 := spiB_le g0
    rw [frN_yes, frD_yes]
    have H0 := Lib.hid g0
    clear g0
    go_enter Try.func20, Try.ntmps20
    go_wp2_with fail
    refine (spGood_any _ _ _ _).mono ?_
    rintro e w1 ⟨rfl, hb⟩
    have hs : w.heap.size + 1 ≤ w1.heap.size := by have := hb.size; (try simp at this); omega
    have c0_0 : w1.cell? ⟨w.heap.size, 0, none⟩ = some (.int .i64 a) := (hb.cell (by simp; try omega)).trans (by simp)
    have c0_1 : w1.cell? ⟨w.heap.size, 1, none⟩ = some (.int .i64 b) := (hb.cell (by simp; try omega)).trans (by simp)
    have c0_2 : w1.cell? ⟨w.heap.size, 2, none⟩ = some (.int .i64 c) := (hb.cell (by simp; try omega)).trans (by simp)
    have Bt : Below w.heap.size w w1 := ((Below.refl _ _).alloc (Nat.le_refl _) _).trans (hb.mono (by simp; try omega))
    clear hb
    rw [H0.out]
    go_wp2_with fail
    refine (spLow_any (a - 1) b _ (by omega) (by omega) (by omega) (by omega)).mono ?_
    rintro e w2 ⟨rfl, kk, hw⟩
    have hb := drew_below hw
    clear hw kk
    replace c0_0 := (hb.cell (p := ⟨w.heap.size, 0, none⟩) (by show w.heap.size < w1.heap.size; omega)).trans c0_0
    replace c0_1 := (hb.cell (p := ⟨w.heap.size, 1, none⟩) (by show w.heap.size < w1.heap.size; omega)).trans c0_1
    replace c0_2 := (hb.cell (p := ⟨w.heap.size, 2, none⟩) (by show w.heap.size < w1.heap.size; omega)).trans c0_2
    replace Bt := Bt.trans (hb.mono (by omega))
    replace hs : w.heap.size + 1 ≤ w2.heap.size := by have := hb.size; omega
    clear hb
    go_wp2_with fail
    go_ret3
    exact ⟨rfl, Bt⟩

set_option maxHeartbeats 1000000 in
theorem specHeightSpiral_any (a b c n : Int) (w : World) :
    Calls Try.prog 34 #[.agg #[.int .i64 a, .int .i64 b, .int .i64 c], .int .i64 n] w fun e w' => e = .returned (.tuple #[.int .i64 (orP (stepB a b c n) (n * c)), .bool (stepB a b c n)]) ∧ Below w.heap.size w w' := by
  cases g0 : stepB a b c n
  · have hV : stepB a b c n = false := g0
    rw [orP_no]
    clear hV
    have H0 := Lib.hid g0
    clear g0
    go_enter Try.func34, Try.ntmps34
    go_wp2_with fail
    refine (spStep_any _ _ _ _ _).mono ?_
    rintro e w1 ⟨rfl, hb⟩
    have hs : w.heap.size + 1 ≤ w1.heap.size := by have := hb.size; (try simp at this); omega
    have c0_0 : w1.cell? ⟨w.heap.size, 0, none⟩ = some (.int .i64 a) := (hb.cell (by simp; try omega)).trans (by simp)
    have c0_1 : w1.cell? ⟨w.heap.size, 1, none⟩ = some (.int .i64 b) := (hb.cell (by simp; try omega)).trans (by simp)
    have c0_2 : w1.cell? ⟨w.heap.size, 2, none⟩ = some (.int .i64 c) := (hb.cell (by simp; try omega)).trans (by simp)
    have Bt : Below w.heap.size w w1 := ((Below.refl _ _).alloc (Nat.le_refl _) _).trans (hb.mono (by simp; try omega))
    clear hb
    rw [H0.out]
    go_wp2_with fail
    go_ret2
    exact ⟨rfl, Bt⟩
  · have b0 := stepB_le g0
    rw [orP_yes]
    obtain ⟨e0, e1⟩ := mul_bd (a := n) (A := 400) (b := c) (B := 300) (by omega) (by omega) (by omega) (by omega)
    have H0 := Lib.hid g0
    clear g0
    go_enter Try.func34, Try.ntmps34
    go_wp2_with fail
    refine (spStep_any _ _ _ _ _).mono ?_
    rintro e w1 ⟨rfl, hb⟩
    have hs : w.heap.size + 1 ≤ w1.heap.size := by have := hb.size; (try simp at this); omega
    have c0_0 : w1.cell? ⟨w.heap.size, 0, none⟩ = some (.int .i64 a) := (hb.cell (by simp; try omega)).trans (by simp)
    have c0_1 : w1.cell? ⟨w.heap.size, 1, none⟩ = some (.int .i64 b) := (hb.cell (by simp; try omega)).trans (by simp)
    have c0_2 : w1.cell? ⟨w.heap.size, 2, none⟩ = some (.int .i64 c) := (hb.cell (by simp; try omega)).trans (by simp)
    have Bt : Below w.heap.size w w1 := ((Below.refl _ _).alloc (Nat.le_refl _) _).trans (hb.mono (by simp; try omega))
    clear hb
    rw [H0.out]
    go_wp2_with fail
    go_ret2
    exact ⟨rfl, Bt⟩

set_option maxHeartbeats 1000000 in
theorem implTurnsOf_any (a b c : Int) (w : World) :
    Calls Try.prog 21 #[.agg #[.int .i64 a, .int .i64 b, .int .i64 c]] w fun e w' => e = .returned (.tuple #[.int .i64 (frN (spiB a b c) (a - 1) (b)), .int .i64 (frD (spiB a b c) (a - 1) (b)), .bool (spiB a b c)]) ∧ Below w.heap.size w w' := by
  cases g0 : spiB a b c
  · have hV : spiB a b c = false := g0
    rw [frN_no, frD_no]
    clear hV
    have H0 := Lib.hid g0
    clear g0
    go_enter Try.func21, Try.ntmps21
    go_wp2_with fail
    refine (impSpi_any _ _ _ _).mono ?_
    rintro e w1 ⟨rfl, hb⟩
    have hs : w.heap.size + 1 ≤ w1.heap.size := by have := hb.size; (try simp at this); omega
    have c0_0 : w1.cell? ⟨w.heap.size, 0, none⟩ = some (.int .i64 a) := (hb.cell (by simp; try omega)).trans (by simp)
    have c0_1 : w1.cell? ⟨w.heap.size, 1, none⟩ = some (.int .i64 b) := (hb.cell (by simp; try omega)).trans (by simp)
    have c0_2 : w1.cell? ⟨w.heap.size, 2, none⟩ = some (.int .i64 c) := (hb.cell (by simp; try omega)).trans (by simp)
    have Bt : Below w.heap.size w w1 := ((Below.refl _ _).alloc (Nat.le_refl _) _).trans (hb.mono (by simp; try omega))
    clear hb
    rw [H0.out]
    go_wp2_with fail
    go_ret3
    exact ⟨rfl, Bt⟩
  · have b0 := spiB_le g0
    rw [frN_yes, frD_yes]
    have H0 := Lib.hid g0
    clear g0
    go_enter Try.func21, Try.ntmps21
    go_wp2_with fail
    refine (impSpi_any _ _ _ _).mono ?_
    rintro e w1 ⟨rfl, hb⟩
    have hs : w.heap.size + 1 ≤ w1.heap.size := by have := hb.size; (try simp at this); omega
    have c0_0 : w1.cell? ⟨w.heap.size, 0, none⟩ = some (.int .i64 a) := (hb.cell (by simp; try omega)).trans (by simp)
    have c0_1 : w1.cell? ⟨w.heap.size, 1, none⟩ = some (.int .i64 b) := (hb.cell (by simp; try omega)).trans (by simp)
    have c0_2 : w1.cell? ⟨w.heap.size, 2, none⟩ = some (.int .i64 c) := (hb.cell (by simp; try omega)).trans (by simp)
    have Bt : Below w.heap.size w w1 := ((Below.refl _ _).alloc (Nat.le_refl _) _).trans (hb.mono (by simp; try omega))
    clear hb
    rw [H0.out]
    go_wp2_with fail
    refine (lowest_any (a - 1) b _ (by omega) (by omega) (by omega) (by omega)).mono ?_
    rintro e w2 ⟨rfl, kk, hw⟩
    have hb := drew_below hw
    clear hw kk
    replace c0_0 := (hb.cell (p := ⟨w.heap.size, 0, none⟩) (by show w.heap.size < w1.heap.size; omega)).trans c0_0
    replace c0_1 := (hb.cell (p := ⟨w.heap.size, 1, none⟩) (by show w.heap.size < w1.heap.size; omega)).trans c0_1
    replace c0_2 := (hb.cell (p := ⟨w.heap.size, 2, none⟩) (by show w.heap.size < w1.heap.size; omega)).trans c0_2
    replace Bt := Bt.trans (hb.mono (by omega))
    replace hs : w.heap.size + 1 ≤ w2.heap.size := by have := hb.size; omega
    clear hb
    go_wp2_with fail
    go_ret3
    exact ⟨rfl, Bt⟩

set_option maxHeartbeats 1000000 in
theorem implHeightSpiral_any (a b c n : Int) (w : World) :
    Calls Try.prog 35 #[.agg #[.int .i64 a, .int .i64 b, .int .i64 c], .int .i64 n] w fun e w' => e = .returned (.tuple #[.int .i64 (orP (stepB a b c n) (n * c)), .bool (stepB a b c n)]) ∧ Below w.heap.size w w' := by
  cases g0 : stepB a b c n
  · have hV : stepB a b c n = false := g0
    rw [orP_no]
    clear hV
    have H0 := Lib.hid g0
    clear g0
    go_enter Try.func35, Try.ntmps35
    go_wp2_with fail
    refine (hasStep_any _ _ _ _ _).mono ?_
    rintro e w1 ⟨rfl, hb⟩
    have hs : w.heap.size + 1 ≤ w1.heap.size := by have := hb.size; (try simp at this); omega
    have c0_0 : w1.cell? ⟨w.heap.size, 0, none⟩ = some (.int .i64 a) := (hb.cell (by simp; try omega)).trans (by simp)
    have c0_1 : w1.cell? ⟨w.heap.size, 1, none⟩ = some (.int .i64 b) := (hb.cell (by simp; try omega)).trans (by simp)
    have c0_2 : w1.cell? ⟨w.heap.size, 2, none⟩ = some (.int .i64 c) := (hb.cell (by simp; try omega)).trans (by simp)
    have Bt : Below w.heap.size w w1 := ((Below.refl _ _).alloc (Nat.le_refl _) _).trans (hb.mono (by simp; try omega))
    clear hb
    rw [H0.out]
    go_wp2_with fail
    go_ret2
    exact ⟨rfl, Bt⟩
  · have b0 := stepB_le g0
    rw [orP_yes]
    obtain ⟨e0, e1⟩ := mul_bd (a := n) (A := 400) (b := c) (B := 300) (by omega) (by omega) (by omega) (by omega)
    have H0 := Lib.hid g0
    clear g0
    go_enter Try.func35, Try.ntmps35
    go_wp2_with fail
    refine (hasStep_any _ _ _ _ _).mono ?_
    rintro e w1 ⟨rfl, hb⟩
    have hs : w.heap.size + 1 ≤ w1.heap.size := by have := hb.size; (try simp at this); omega
    have c0_0 : w1.cell? ⟨w.heap.size, 0, none⟩ = some (.int .i64 a) := (hb.cell (by simp; try omega)).trans (by simp)
    have c0_1 : w1.cell? ⟨w.heap.size, 1, none⟩ = some (.int .i64 b) := (hb.cell (by simp; try omega)).trans (by simp)
    have c0_2 : w1.cell? ⟨w.heap.size, 2, none⟩ = some (.int .i64 c) := (hb.cell (by simp; try omega)).trans (by simp)
    have Bt : Below w.heap.size w w1 := ((Below.refl _ _).alloc (Nat.le_refl _) _).trans (hb.mono (by simp; try omega))
    clear hb
    rw [H0.out]
    go_wp2_with fail
    go_ret2
    exact ⟨rfl, Bt⟩

set_option maxHeartbeats 1000000 in
theorem specHeadOver_any (a b c n : Int) (w : World) :
    Calls Try.prog 22 #[.agg #[.int .i64 a, .int .i64 b, .int .i64 c], .int .i64 n] w fun e w' => e = .returned (.tuple #[.int .i64 (orP (headB a b c n) (b * c)), .bool (headB a b c n)]) ∧ Below w.heap.size w w' := by
  cases g0 : stepB a b c n
  · have hV : headB a b c n = false := by simp [headB, g0]
    rw [hV, orP_no]
    clear hV
    have H0 := Lib.hid g0
    clear g0
    go_enter Try.func22, Try.ntmps22
    go_wp2_with fail
    refine (spStep_any _ _ _ _ _).mono ?_
    rintro e w1 ⟨rfl, hb⟩
    have hs : w.heap.size + 1 ≤ w1.heap.size := by have := hb.size; (try simp at this); omega
    have c0_0 : w1.cell? ⟨w.heap.size, 0, none⟩ = some (.int .i64 a) := (hb.cell (by simp; try omega)).trans (by simp)
    have c0_1 : w1.cell? ⟨w.heap.size, 1, none⟩ = some (.int .i64 b) := (hb.cell (by simp; try omega)).trans (by simp)
    have c0_2 : w1.cell? ⟨w.heap.size, 2, none⟩ = some (.int .i64 c) := (hb.cell (by simp; try omega)).trans (by simp)
    have Bt : Below w.heap.size w w1 := ((Below.refl _ _).alloc (Nat.le_refl _) _).trans (hb.mono (by simp; try omega))
    clear hb
    rw [H0.out]
    go_wp2_with fail
    go_ret2
    exact ⟨rfl, Bt⟩
  · have b0 := stepB_le g0
    by_cases g1 : a < n + b
    · have hV : headB a b c n = false := by simp [headB, g1]
      rw [hV, orP_no]
      clear hV
      have H0 := Lib.hid g0
      clear g0
      go_enter Try.func22, Try.ntmps22
      go_wp2_with fail
      refine (spStep_any _ _ _ _ _).mono ?_
      rintro e w1 ⟨rfl, hb⟩
      have hs : w.heap.size + 1 ≤ w1.heap.size := by have := hb.size; (try simp at this); omega
      have c0_0 : w1.cell? ⟨w.heap.size, 0, none⟩ = some (.int .i64 a) := (hb.cell (by simp; try omega)).trans (by simp)
      have c0_1 : w1.cell? ⟨w.heap.size, 1, none⟩ = some (.int .i64 b) := (hb.cell (by simp; try omega)).trans (by simp)
      have c0_2 : w1.cell? ⟨w.heap.size, 2, none⟩ = some (.int .i64 c) := (hb.cell (by simp; try omega)).trans (by simp)
      have Bt : Below w.heap.size w w1 := ((Below.refl _ _).alloc (Nat.le_refl _) _).trans (hb.mono (by simp; try omega))
      clear hb
      rw [H0.out]
      go_wp2_with fail
      go_ret2
      exact ⟨rfl, Bt⟩
    · rw [show headB a b c n = true by simp [headB, g0, g1], orP_yes]
      obtain ⟨e0, e1⟩ := mul_bd (a := b) (A := 60) (b := c) (B := 300) (by omega) (by omega) (by omega) (by omega)
      have H0 := Lib.hid g0
      clear g0
      go_enter Try.func22, Try.ntmps22
      go_wp2_with fail
      refine (spStep_any _ _ _ _ _).mono ?_
      rintro e w1 ⟨rfl, hb⟩
      have hs : w.heap.size + 1 ≤ w1.heap.size := by have := hb.size; (try simp at this); omega
      have c0_0 : w1.cell? ⟨w.heap.size, 0, none⟩ = some (.int .i64 a) := (hb.cell (by simp; try omega)).trans (by simp)
      have c0_1 : w1.cell? ⟨w.heap.size, 1, none⟩ = some (.int .i64 b) := (hb.cell (by simp; try omega)).trans (by simp)
      have c0_2 : w1.cell? ⟨w.heap.size, 2, none⟩ = some (.int .i64 c) := (hb.cell (by simp; try omega)).trans (by simp)
      have Bt : Below w.heap.size w w1 := ((Below.refl _ _).alloc (Nat.le_refl _) _).trans (hb.mono (by simp; try omega))
      clear hb
      rw [H0.out]
      go_wp2_with fail
      go_ret2
      exact ⟨rfl, Bt⟩

set_option maxHeartbeats 1000000 in
theorem specFewestLamps_any (a b c m : Int) (w : World) :
    Calls Try.prog 30 #[.agg #[.int .i64 a, .int .i64 b, .int .i64 c], .int .i64 m] w fun e w' => e = .returned (.tuple #[.int .i64 (orP (lampB a b c m) ((a + 2 * m) / (2 * m + 1))), .bool (lampB a b c m)]) ∧ Below w.heap.size w w' := by
  cases g0 : spiB a b c
  · have hV : lampB a b c m = false := by simp [lampB, g0]
    rw [hV, orP_no]
    clear hV
    have H0 := Lib.hid g0
    clear g0
    go_enter Try.func30, Try.ntmps30
    go_wp2_with fail
    refine (spGood_any _ _ _ _).mono ?_
    rintro e w1 ⟨rfl, hb⟩
    have hs : w.heap.size + 1 ≤ w1.heap.size := by have := hb.size; (try simp at this); omega
    have c0_0 : w1.cell? ⟨w.heap.size, 0, none⟩ = some (.int .i64 a) := (hb.cell (by simp; try omega)).trans (by simp)
    have c0_1 : w1.cell? ⟨w.heap.size, 1, none⟩ = some (.int .i64 b) := (hb.cell (by simp; try omega)).trans (by simp)
    have c0_2 : w1.cell? ⟨w.heap.size, 2, none⟩ = some (.int .i64 c) := (hb.cell (by simp; try omega)).trans (by simp)
    have Bt : Below w.heap.size w w1 := ((Below.refl _ _).alloc (Nat.le_refl _) _).trans (hb.mono (by simp; try omega))
    clear hb
    rw [H0.out]
    go_wp2_with fail
    go_ret2
    exact ⟨rfl, Bt⟩
  · have b0 := spiB_le g0
    cases g1 : inB m 0 400
    · have hV : lampB a b c m = false := by simp [lampB, g1]
      rw [hV, orP_no]
      clear hV
      have H0 := Lib.hid g0
      clear g0
      have H1 := Lib.hid g1
      clear g1
      go_enter Try.func30, Try.ntmps30
      go_wp2_with fail
      refine (spGood_any _ _ _ _).mono ?_
      rintro e w1 ⟨rfl, hb⟩
      have hs : w.heap.size + 1 ≤ w1.heap.size := by have := hb.size; (try simp at this); omega
      have c0_0 : w1.cell? ⟨w.heap.size, 0, none⟩ = some (.int .i64 a) := (hb.cell (by simp; try omega)).trans (by simp)
      have c0_1 : w1.cell? ⟨w.heap.size, 1, none⟩ = some (.int .i64 b) := (hb.cell (by simp; try omega)).trans (by simp)
      have c0_2 : w1.cell? ⟨w.heap.size, 2, none⟩ = some (.int .i64 c) := (hb.cell (by simp; try omega)).trans (by simp)
      have Bt : Below w.heap.size w w1 := ((Below.refl _ _).alloc (Nat.le_refl _) _).trans (hb.mono (by simp; try omega))
      clear hb
      rw [H0.out]
      go_wp2_with fail
      refine (l1In_any _ _ _ _).mono ?_
      rintro e w' ⟨rfl, rfl⟩
      rw [H1.out]
      go_wp2_with fail
      go_ret2
      exact ⟨rfl, Bt⟩
    · have b1 := inB_le g1
      rw [show lampB a b c m = true by simp [lampB, g0, g1], orP_yes]
      have ht : (a + 2 * m).tdiv (2 * m + 1) = (a + 2 * m) / (2 * m + 1) := Int.tdiv_eq_ediv_of_nonneg (by omega)
      have hz : ¬ 2 * m + 1 = 0 := by omega
      have q0 : 0 ≤ (a + 2 * m) / (2 * m + 1) := Int.ediv_nonneg (by omega) (by omega)
      have q1 : (a + 2 * m) / (2 * m + 1) ≤ a + 2 * m := Int.ediv_le_self _ (by omega)
      have H0 := Lib.hid g0
      clear g0
      have H1 := Lib.hid g1
      clear g1
      go_enter Try.func30, Try.ntmps30
      go_wp2_with fail
      refine (spGood_any _ _ _ _).mono ?_
      rintro e w1 ⟨rfl, hb⟩
      have hs : w.heap.size + 1 ≤ w1.heap.size := by have := hb.size; (try simp at this); omega
      have c0_0 : w1.cell? ⟨w.heap.size, 0, none⟩ = some (.int .i64 a) := (hb.cell (by simp; try omega)).trans (by simp)
      have c0_1 : w1.cell? ⟨w.heap.size, 1, none⟩ = some (.int .i64 b) := (hb.cell (by simp; try omega)).trans (by simp)
      have c0_2 : w1.cell? ⟨w.heap.size, 2, none⟩ = some (.int .i64 c) := (hb.cell (by simp; try omega)).trans (by simp)
      have Bt : Below w.heap.size w w1 := ((Below.refl _ _).alloc (Nat.le_refl _) _).trans (hb.mono (by simp; try omega))
      clear hb
      rw [H0.out]
      go_wp2_with fail
      refine (l1In_any _ _ _ _).mono ?_
      rintro e w' ⟨rfl, rfl⟩
      rw [H1.out]
      go_wp2_with fail
      go_ret2
      exact ⟨rfl, Bt⟩

set_option maxHeartbeats 1000000 in
theorem implFewestLamps_any (a b c m : Int) (w : World) :
    Calls Try.prog 31 #[.agg #[.int .i64 a, .int .i64 b, .int .i64 c], .int .i64 m] w fun e w' => e = .returned (.tuple #[.int .i64 (orP (lampB a b c m) ((a + 2 * m) / (2 * m + 1))), .bool (lampB a b c m)]) ∧ Below w.heap.size w w' := by
  cases g0 : spiB a b c
  · have hV : lampB a b c m = false := by simp [lampB, g0]
    rw [hV, orP_no]
    clear hV
    have H0 := Lib.hid g0
    clear g0
    go_enter Try.func31, Try.ntmps31
    go_wp2_with fail
    refine (impSpi_any _ _ _ _).mono ?_
    rintro e w1 ⟨rfl, hb⟩
    have hs : w.heap.size + 1 ≤ w1.heap.size := by have := hb.size; (try simp at this); omega
    have c0_0 : w1.cell? ⟨w.heap.size, 0, none⟩ = some (.int .i64 a) := (hb.cell (by simp; try omega)).trans (by simp)
    have c0_1 : w1.cell? ⟨w.heap.size, 1, none⟩ = some (.int .i64 b) := (hb.cell (by simp; try omega)).trans (by simp)
    have c0_2 : w1.cell? ⟨w.heap.size, 2, none⟩ = some (.int .i64 c) := (hb.cell (by simp; try omega)).trans (by simp)
    have Bt : Below w.heap.size w w1 := ((Below.refl _ _).alloc (Nat.le_refl _) _).trans (hb.mono (by simp; try omega))
    clear hb
    rw [H0.out]
    go_wp2_with fail
    go_ret2
    exact ⟨rfl, Bt⟩
  · have b0 := spiB_le g0
    cases g1 : inB m 0 400
    · have hV : lampB a b c m = false := by simp [lampB, g1]
      rw [hV, orP_no]
      clear hV
      have H0 := Lib.hid g0
      clear g0
      have H1 := Lib.hid g1
      clear g1
      go_enter Try.func31, Try.ntmps31
      go_wp2_with fail
      refine (impSpi_any _ _ _ _).mono ?_
      rintro e w1 ⟨rfl, hb⟩
      have hs : w.heap.size + 1 ≤ w1.heap.size := by have := hb.size; (try simp at this); omega
      have c0_0 : w1.cell? ⟨w.heap.size, 0, none⟩ = some (.int .i64 a) := (hb.cell (by simp; try omega)).trans (by simp)
      have c0_1 : w1.cell? ⟨w.heap.size, 1, none⟩ = some (.int .i64 b) := (hb.cell (by simp; try omega)).trans (by simp)
      have c0_2 : w1.cell? ⟨w.heap.size, 2, none⟩ = some (.int .i64 c) := (hb.cell (by simp; try omega)).trans (by simp)
      have Bt : Below w.heap.size w w1 := ((Below.refl _ _).alloc (Nat.le_refl _) _).trans (hb.mono (by simp; try omega))
      clear hb
      rw [H0.out]
      go_wp2_with fail
      refine (isShine_any _ _).mono ?_
      rintro e w' ⟨rfl, rfl⟩
      rw [H1.out]
      go_wp2_with fail
      go_ret2
      exact ⟨rfl, Bt⟩
    · have b1 := inB_le g1
      rw [show lampB a b c m = true by simp [lampB, g0, g1], orP_yes]
      have hx : a + (2 * m + 1) - 1 = a + 2 * m := by omega
      have hx2 : m + 1 + m = 2 * m + 1 := by omega
      have ht : (a + 2 * m).tdiv (2 * m + 1) = (a + 2 * m) / (2 * m + 1) := Int.tdiv_eq_ediv_of_nonneg (by omega)
      have hz : ¬ 2 * m + 1 = 0 := by omega
      have q0 : 0 ≤ (a + 2 * m) / (2 * m + 1) := Int.ediv_nonneg (by omega) (by omega)
      have q1 : (a + 2 * m) / (2 * m + 1) ≤ a + 2 * m := Int.ediv_le_self _ (by omega)
      have H0 := Lib.hid g0
      clear g0
      have H1 := Lib.hid g1
      clear g1
      go_enter Try.func31, Try.ntmps31
      go_wp2_with fail
      refine (impSpi_any _ _ _ _).mono ?_
      rintro e w1 ⟨rfl, hb⟩
      have hs : w.heap.size + 1 ≤ w1.heap.size := by have := hb.size; (try simp at this); omega
      have c0_0 : w1.cell? ⟨w.heap.size, 0, none⟩ = some (.int .i64 a) := (hb.cell (by simp; try omega)).trans (by simp)
      have c0_1 : w1.cell? ⟨w.heap.size, 1, none⟩ = some (.int .i64 b) := (hb.cell (by simp; try omega)).trans (by simp)
      have c0_2 : w1.cell? ⟨w.heap.size, 2, none⟩ = some (.int .i64 c) := (hb.cell (by simp; try omega)).trans (by simp)
      have Bt : Below w.heap.size w w1 := ((Below.refl _ _).alloc (Nat.le_refl _) _).trans (hb.mono (by simp; try omega))
      clear hb
      rw [H0.out]
      go_wp2_with fail
      refine (isShine_any _ _).mono ?_
      rintro e w' ⟨rfl, rfl⟩
      rw [H1.out]
      go_wp2_with fail
      go_ret2
      exact ⟨rfl, Bt⟩


end Go.Proofs.Ytlhafgepalbehaa
