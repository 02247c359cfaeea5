/- Contracts: spirals: angles, opposite steps, ways around, sides, on both sides. -/
import Derived.Test.YtlhafgepalbehaaSpH
import Derived.Test.YtlhafgepalbehaaSpP
import Derived.IntWalk
namespace Go.Proofs.Ytlhafgepalbehaa
open Go.RowKit

set_option maxHeartbeats 2000000 in
theorem specAngleOf_any (a b c n : Int) (w : World) :
    Calls Try.prog 18 #[.agg #[.int .i64 a, .int .i64 b, .int .i64 c], .int .i64 n] w fun e w' => e = .returned (.tuple #[.int .i64 (frN (stepB a b c n) ((n - 1) % b) (b)), .int .i64 (frD (stepB a b c n) ((n - 1) % b) (b)), .bool (stepB a b c n)]) ∧ Below w.heap.size w w' := by
  cases g0 : stepB a b c n
  · have hV : stepB a b c n = false := g0
    rw [frN_no, frD_no]
    clear hV
    have H0 := Lib.hid g0
    clear g0
    go_enter Try.func18, Try.ntmps18
    go_wp2_with fail
    refine (spStep_any _ _ _ _ _).mono ?_
    rintro e w1 ⟨rfl, hb⟩
    have hs : w.heap.size + 1 ≤ w1.heap.size := by have := hb.size; (try simp at this); omega
    have c0_0 : w1.cell? ⟨w.heap.size, 0, none⟩ = some (.int .i64 a) := (hb.cell (by simp; try omega)).trans (by simp)
    have c0_1 : w1.cell? ⟨w.heap.size, 1, none⟩ = some (.int .i64 b) := (hb.cell (by simp; try omega)).trans (by simp)
    have c0_2 : w1.cell? ⟨w.heap.size, 2, none⟩ = some (.int .i64 c) := (hb.cell (by simp; try omega)).trans (by simp)
    have Bt : Below w.heap.size w w1 := ((Below.refl _ _).alloc (Nat.le_refl _) _).trans (hb.mono (by simp; try omega))
    clear hb
    rw [H0.out]
    go_wp2_with fail
    go_ret3
    exact ⟨rfl, Bt⟩
  · have b0 := stepB_le g0
    have ht : (n - 1).tmod b = (n - 1) % b := Int.tmod_eq_emod_of_nonneg (by omega)
    have hz : ¬ b = 0 := by omega
    have hw0 : IntKind.i64.wrap (n - 1) = n - 1 := IntWalk.i64_in _ (by omega)
    obtain ⟨q0, q1⟩ := emod_bd (x := n - 1) (b := b) (by omega)
    rw [frN_yes, frD_yes]
    have H0 := Lib.hid g0
    clear g0
    go_enter Try.func18, Try.ntmps18
    go_wp2_with fail
    refine (spStep_any _ _ _ _ _).mono ?_
    rintro e w1 ⟨rfl, hb⟩
    have hs : w.heap.size + 1 ≤ w1.heap.size := by have := hb.size; (try simp at this); omega
    have c0_0 : w1.cell? ⟨w.heap.size, 0, none⟩ = some (.int .i64 a) := (hb.cell (by simp; try omega)).trans (by simp)
    have c0_1 : w1.cell? ⟨w.heap.size, 1, none⟩ = some (.int .i64 b) := (hb.cell (by simp; try omega)).trans (by simp)
    have c0_2 : w1.cell? ⟨w.heap.size, 2, none⟩ = some (.int .i64 c) := (hb.cell (by simp; try omega)).trans (by simp)
    have Bt : Below w.heap.size w w1 := ((Below.refl _ _).alloc (Nat.le_refl _) _).trans (hb.mono (by simp; try omega))
    clear hb
    rw [H0.out]
    go_wp2_with fail
    have S0_0 := c0_0
    have S0_1 := c0_1
    have S0_2 := c0_2
    have SB := Bt
    have SZ := hs
    clear Bt hs c0_0 c0_1 c0_2
    go_region_held3 (fun u => u.cell? ⟨w.heap.size, 0, none⟩ = some (.int .i64 a) ∧ u.cell? ⟨w.heap.size, 1, none⟩ = some (.int .i64 b) ∧ u.cell? ⟨w.heap.size, 2, none⟩ = some (.int .i64 c) ∧ Below w.heap.size w u ∧ w.heap.size + 1 ≤ u.heap.size) (first | exact ⟨S0_0, S0_1, S0_2, SB.drew, SZ⟩ | exact ⟨S0_0, S0_1, S0_2, SB, SZ⟩ | exact ⟨T0_0_0, T0_0_1, T0_0_2, TB0, TZ0⟩)
      (first
        | (go_at_call 46; refine (spLow_any _ _ _ q0 (by omega) (by omega) (by omega)).mono ?_; rintro e v1 ⟨rfl, kk0, hv0⟩; have hb0 := drew_below hv0; clear hv0 kk0; have T0_0_0 := (hb0.cell (p := ⟨w.heap.size, 0, none⟩) (by show w.heap.size < w1.heap.size; omega)).trans S0_0; have T0_0_1 := (hb0.cell (p := ⟨w.heap.size, 1, none⟩) (by show w.heap.size < w1.heap.size; omega)).trans S0_1; have T0_0_2 := (hb0.cell (p := ⟨w.heap.size, 2, none⟩) (by show w.heap.size < w1.heap.size; omega)).trans S0_2; have TB0 := SB.drew.trans (hb0.mono (by show w.heap.size ≤ w1.heap.size; omega)); have TZ0 : w.heap.size + 1 ≤ v1.heap.size := Nat.le_trans (show w.heap.size + 1 ≤ w1.heap.size by omega) hb0.size)
      )
    all_goals go_wp2_with fail
    all_goals go_ret3
    all_goals (first | exact ⟨rfl, TB0⟩ | exact ⟨rfl, SB⟩ | exact ⟨rfl, SB.drew⟩)

set_option maxHeartbeats 2000000 in
theorem implAngleOf_any (a b c n : Int) (w : World) :
    Calls Try.prog 19 #[.agg #[.int .i64 a, .int .i64 b, .int .i64 c], .int .i64 n] w fun e w' => e = .returned (.tuple #[.int .i64 (frN (stepB a b c n) ((n - 1) % b) (b)), .int .i64 (frD (stepB a b c n) ((n - 1) % b) (b)), .bool (stepB a b c n)]) ∧ Below w.heap.size w w' := by
  cases g0 : stepB a b c n
  · have hV : stepB a b c n = false := g0
    rw [frN_no, frD_no]
    clear hV
    have H0 := Lib.hid g0
    clear g0
    go_enter Try.func19, Try.ntmps19
    go_wp2_with fail
    refine (hasStep_any _ _ _ _ _).mono ?_
    rintro e w1 ⟨rfl, hb⟩
    have hs : w.heap.size + 1 ≤ w1.heap.size := by have := hb.size; (try simp at this); omega
    have c0_0 : w1.cell? ⟨w.heap.size, 0, none⟩ = some (.int .i64 a) := (hb.cell (by simp; try omega)).trans (by simp)
    have c0_1 : w1.cell? ⟨w.heap.size, 1, none⟩ = some (.int .i64 b) := (hb.cell (by simp; try omega)).trans (by simp)
    have c0_2 : w1.cell? ⟨w.heap.size, 2, none⟩ = some (.int .i64 c) := (hb.cell (by simp; try omega)).trans (by simp)
    have Bt : Below w.heap.size w w1 := ((Below.refl _ _).alloc (Nat.le_refl _) _).trans (hb.mono (by simp; try omega))
    clear hb
    rw [H0.out]
    go_wp2_with fail
    go_ret3
    exact ⟨rfl, Bt⟩
  · have b0 := stepB_le g0
    obtain ⟨q0, q1⟩ := emod_bd (x := n - 1) (b := b) (by omega)
    rw [frN_yes, frD_yes]
    have H0 := Lib.hid g0
    clear g0
    go_enter Try.func19, Try.ntmps19
    go_wp2_with fail
    refine (hasStep_any _ _ _ _ _).mono ?_
    rintro e w1 ⟨rfl, hb⟩
    have hs : w.heap.size + 1 ≤ w1.heap.size := by have := hb.size; (try simp at this); omega
    have c0_0 : w1.cell? ⟨w.heap.size, 0, none⟩ = some (.int .i64 a) := (hb.cell (by simp; try omega)).trans (by simp)
    have c0_1 : w1.cell? ⟨w.heap.size, 1, none⟩ = some (.int .i64 b) := (hb.cell (by simp; try omega)).trans (by simp)
    have c0_2 : w1.cell? ⟨w.heap.size, 2, none⟩ = some (.int .i64 c) := (hb.cell (by simp; try omega)).trans (by simp)
    have Bt : Below w.heap.size w w1 := ((Below.refl _ _).alloc (Nat.le_refl _) _).trans (hb.mono (by simp; try omega))
    clear hb
    rw [H0.out]
    go_wp2_with fail
    have S0_0 := c0_0
    have S0_1 := c0_1
    have S0_2 := c0_2
    have SB := Bt
    have SZ := hs
    clear Bt hs c0_0 c0_1 c0_2
    go_region_held3 (fun u => u.cell? ⟨w.heap.size, 0, none⟩ = some (.int .i64 a) ∧ u.cell? ⟨w.heap.size, 1, none⟩ = some (.int .i64 b) ∧ u.cell? ⟨w.heap.size, 2, none⟩ = some (.int .i64 c) ∧ Below w.heap.size w u ∧ w.heap.size + 1 ≤ u.heap.size) (first | exact ⟨S0_0, S0_1, S0_2, SB.drew, SZ⟩ | exact ⟨S0_0, S0_1, S0_2, SB, SZ⟩ | exact ⟨T0_0_0, T0_0_1, T0_0_2, TB0, TZ0⟩ | exact ⟨T1_0_0, T1_0_1, T1_0_2, TB1, TZ1⟩)
      (first
        | (go_at_call 49; refine (pastTurns_any a b c n (by omega) (by omega) (by omega) (by omega) _).mono ?_; rintro e v1 ⟨rfl, hb0⟩; have T0_0_0 := (hb0.cell (p := ⟨w.heap.size, 0, none⟩) (by show w.heap.size < w1.heap.size; omega)).trans S0_0; have T0_0_1 := (hb0.cell (p := ⟨w.heap.size, 1, none⟩) (by show w.heap.size < w1.heap.size; omega)).trans S0_1; have T0_0_2 := (hb0.cell (p := ⟨w.heap.size, 2, none⟩) (by show w.heap.size < w1.heap.size; omega)).trans S0_2; have TB0 := SB.drew.trans (hb0.mono (by show w.heap.size ≤ w1.heap.size; omega)); have TZ0 : w.heap.size + 1 ≤ v1.heap.size := Nat.le_trans (show w.heap.size + 1 ≤ w1.heap.size by omega) hb0.size)
        | (go_at_call 48; refine (lowest_any _ _ _ q0 (by omega) (by omega) (by omega)).mono ?_; rintro e v2 ⟨rfl, kk1, hv1⟩; have hb1 := drew_below hv1; clear hv1 kk1; have T1_0_0 := (hb1.cell (p := ⟨w.heap.size, 0, none⟩) (by show w.heap.size < v1.heap.size; omega)).trans T0_0_0; have T1_0_1 := (hb1.cell (p := ⟨w.heap.size, 1, none⟩) (by show w.heap.size < v1.heap.size; omega)).trans T0_0_1; have T1_0_2 := (hb1.cell (p := ⟨w.heap.size, 2, none⟩) (by show w.heap.size < v1.heap.size; omega)).trans T0_0_2; have TB1 := TB0.trans (hb1.mono (by show w.heap.size ≤ v1.heap.size; omega)); have TZ1 : w.heap.size + 1 ≤ v2.heap.size := Nat.le_trans (show w.heap.size + 1 ≤ v1.heap.size by omega) hb1.size)
      )
    all_goals go_wp2_with fail
    all_goals go_ret3
    all_goals (first | exact ⟨rfl, TB1⟩ | exact ⟨rfl, SB⟩ | exact ⟨rfl, SB.drew⟩)

set_option maxHeartbeats 1000000 in
theorem apart_any (a b c n m : Int) (h1 : 1 ≤ n) (h2 : n ≤ 400) (h3 : 1 ≤ m) (h4 : m ≤ 400) (h5 : 3 ≤ b) (h6 : b ≤ 60) (w : World) :
    Calls Try.prog 58 #[.agg #[.int .i64 a, .int .i64 b, .int .i64 c], .int .i64 n, .int .i64 m] w fun e w' => e = .returned (.int .i64 (aroI b n m)) ∧ Below w.heap.size w w' := by
  by_cases g : n < m
  · have g1 : ¬ m < n := by omega
    have e1 : absI (n - m) = m - n := by unfold absI; split <;> omega
    have ht : (m - n).tmod b = (m - n) % b := Int.tmod_eq_emod_of_nonneg (by omega)
    have hz : ¬ b = 0 := by omega
    obtain ⟨q0, q1⟩ := emod_bd (x := m - n) (b := b) (by omega)
    have E : aroI b n m = leastI ((m - n) % b) (b - (m - n) % b) := by unfold aroI; rw [e1]
    obtain ⟨r, hr0⟩ : ∃ r, (m - n) % b = r := ⟨_, rfl⟩
    rw [hr0] at q0 q1 E
    rw [E]
    clear e1 E
    have hw2 : wrap64 (b - r) = b - r := IntWalk.wrap64_in _ (by omega)
    go_enter Try.func58, Try.ntmps58
    go_wp2_with fail
    go_wp2_with fail
    all_goals go_ret
    all_goals (clear hw2 ht hr0)
    all_goals exact ⟨ret_int (by unfold leastI; split <;> omega), below_alloc _ _⟩
  · by_cases g1 : m < n
    · have e1 : absI (n - m) = n - m := by unfold absI; split <;> omega
      have ht : (n - m).tmod b = (n - m) % b := Int.tmod_eq_emod_of_nonneg (by omega)
      have hz : ¬ b = 0 := by omega
      obtain ⟨q0, q1⟩ := emod_bd (x := n - m) (b := b) (by omega)
      have E : aroI b n m = leastI ((n - m) % b) (b - (n - m) % b) := by unfold aroI; rw [e1]
      obtain ⟨r, hr0⟩ : ∃ r, (n - m) % b = r := ⟨_, rfl⟩
      rw [hr0] at q0 q1 E
      rw [E]
      clear e1 E
      have hw2 : wrap64 (b - r) = b - r := IntWalk.wrap64_in _ (by omega)
      go_enter Try.func58, Try.ntmps58
      go_wp2_with fail
      go_wp2_with fail
      all_goals go_ret
      all_goals (clear hw2 ht hr0)
      all_goals exact ⟨ret_int (by unfold leastI; split <;> omega), below_alloc _ _⟩
    · obtain rfl : n = m := by omega
      rw [show aroI b n n = 0 by unfold aroI; rw [Int.sub_self, show absI 0 = 0 from rfl, Int.zero_emod]; unfold leastI; split <;> omega]
      have hz : ¬ b = 0 := by omega
      go_enter Try.func58, Try.ntmps58
      go_wp2_with fail
      go_wp2_with fail
      all_goals go_ret
      all_goals exact ⟨ret_int (by first | rfl | omega), below_alloc _ _⟩

set_option maxHeartbeats 2000000 in
theorem areOpp_any (a b c n m : Int) (h1 : 1 ≤ n) (h2 : n ≤ 400) (h3 : 1 ≤ m) (h4 : m ≤ 400) (h5 : 3 ≤ b) (h6 : b ≤ 60) (w : World) :
    Calls Try.prog 55 #[.agg #[.int .i64 a, .int .i64 b, .int .i64 c], .int .i64 n, .int .i64 m] w fun e w' => e = .returned (.bool (oppB b n m)) ∧ Below w.heap.size w w' := by
  obtain ⟨q0, q1⟩ := aro_bd (n := n) (m := m) (b := b) (by omega)
  have HR0 := opp_aro (b := b) (n := n) (m := m) (by omega)
  obtain ⟨r, hr⟩ : ∃ r, aroI b n m = r := ⟨_, rfl⟩
  rw [hr] at q0 q1 HR0
  have HA := Lib.hid hr
  have HR := Lib.hid HR0
  clear hr HR0
  have hw0 : IntKind.i64.wrap (2 * r) = 2 * r := IntWalk.i64_in _ (by omega)
  go_enter Try.func55, Try.ntmps55
  go_wp2_with fail
  have S0_0 : (w.alloc (.cells #[.int .i64 a, .int .i64 b, .int .i64 c] 25)).cell? ⟨w.heap.size, 0, none⟩ = some (.int .i64 a) := by simp
  have S0_1 : (w.alloc (.cells #[.int .i64 a, .int .i64 b, .int .i64 c] 25)).cell? ⟨w.heap.size, 1, none⟩ = some (.int .i64 b) := by simp
  have S0_2 : (w.alloc (.cells #[.int .i64 a, .int .i64 b, .int .i64 c] 25)).cell? ⟨w.heap.size, 2, none⟩ = some (.int .i64 c) := by simp
  have SB : Below w.heap.size w (w.alloc (.cells #[.int .i64 a, .int .i64 b, .int .i64 c] 25)) := below_alloc _ _
  have SZ : w.heap.size + 1 ≤ (w.alloc (.cells #[.int .i64 a, .int .i64 b, .int .i64 c] 25)).heap.size := by simp
  generalize (w.alloc (.cells #[.int .i64 a, .int .i64 b, .int .i64 c] 25)) = u at *
  go_region_held3 (fun u => u.cell? ⟨w.heap.size, 0, none⟩ = some (.int .i64 a) ∧ u.cell? ⟨w.heap.size, 1, none⟩ = some (.int .i64 b) ∧ u.cell? ⟨w.heap.size, 2, none⟩ = some (.int .i64 c) ∧ Below w.heap.size w u ∧ w.heap.size + 1 ≤ u.heap.size) (first | exact ⟨S0_0, S0_1, S0_2, SB.drew, SZ⟩ | exact ⟨S0_0, S0_1, S0_2, SB, SZ⟩ | exact ⟨T0_0_0, T0_0_1, T0_0_2, TB0, TZ0⟩)
    (first
      | (go_at_call 58; refine (apart_any a b c n m h1 h2 h3 h4 h5 h6 _).mono ?_; rintro e v1 ⟨rfl, hb0⟩; have T0_0_0 := (hb0.cell (p := ⟨w.heap.size, 0, none⟩) (by show w.heap.size < u.heap.size; omega)).trans S0_0; have T0_0_1 := (hb0.cell (p := ⟨w.heap.size, 1, none⟩) (by show w.heap.size < u.heap.size; omega)).trans S0_1; have T0_0_2 := (hb0.cell (p := ⟨w.heap.size, 2, none⟩) (by show w.heap.size < u.heap.size; omega)).trans S0_2; have TB0 := SB.drew.trans (hb0.mono (by show w.heap.size ≤ u.heap.size; omega)); have TZ0 : w.heap.size + 1 ≤ v1.heap.size := Nat.le_trans (show w.heap.size + 1 ≤ u.heap.size by omega) hb0.size; rw [HA.out])
    )
  all_goals go_wp2_with fail
  all_goals go_ret
  all_goals (first | exact ⟨ret_bool HR.out, TB0⟩ | exact ⟨ret_bool HR.out, SB⟩ | exact ⟨ret_bool HR.out, SB.drew⟩)

set_option maxHeartbeats 2000000 in
theorem spOpp_any (a b c n m : Int) (h1 : 1 ≤ n) (h2 : n ≤ 400) (h3 : 1 ≤ m) (h4 : m ≤ 400) (h5 : 3 ≤ b) (h6 : b ≤ 60) (w : World) :
    Calls Try.prog 54 #[.agg #[.int .i64 a, .int .i64 b, .int .i64 c], .int .i64 n, .int .i64 m] w fun e w' => e = .returned (.bool (oppB b n m)) ∧ Below w.heap.size w w' := by
  obtain ⟨q0, q1⟩ := emod_bd (x := absI (n - m)) (b := b) (by omega)
  have q2 : 0 ≤ absI (n - m) := by unfold absI; split <;> omega
  have ht := Int.tmod_eq_emod_of_nonneg (a := absI (n - m)) (b := b) q2
  obtain ⟨x, hx⟩ : ∃ x, absI (n - m) = x := ⟨_, rfl⟩
  rw [hx] at q0 q1 q2 ht
  obtain ⟨y, hy⟩ : ∃ y, x % b = y := ⟨_, rfl⟩
  rw [hy] at q0 q1 ht
  have HR := Lib.hid (show decide (2 * y = b) = oppB b n m by unfold oppB; rw [hx, hy])
  have HA := Lib.hid hx
  clear hx hy
  have hw0 : IntKind.i64.wrap (2 * y) = 2 * y := IntWalk.i64_in _ (by omega)
  have hw1 : IntKind.i64.wrap (n - m) = n - m := IntWalk.i64_in _ (by omega)
  have hz : ¬ b = 0 := by omega
  go_enter Try.func54, Try.ntmps54
  go_wp2_with fail
  have S0_0 : (w.alloc (.cells #[.int .i64 a, .int .i64 b, .int .i64 c] 25)).cell? ⟨w.heap.size, 0, none⟩ = some (.int .i64 a) := by simp
  have S0_1 : (w.alloc (.cells #[.int .i64 a, .int .i64 b, .int .i64 c] 25)).cell? ⟨w.heap.size, 1, none⟩ = some (.int .i64 b) := by simp
  have S0_2 : (w.alloc (.cells #[.int .i64 a, .int .i64 b, .int .i64 c] 25)).cell? ⟨w.heap.size, 2, none⟩ = some (.int .i64 c) := by simp
  have SB : Below w.heap.size w (w.alloc (.cells #[.int .i64 a, .int .i64 b, .int .i64 c] 25)) := below_alloc _ _
  have SZ : w.heap.size + 1 ≤ (w.alloc (.cells #[.int .i64 a, .int .i64 b, .int .i64 c] 25)).heap.size := by simp
  generalize (w.alloc (.cells #[.int .i64 a, .int .i64 b, .int .i64 c] 25)) = u at *
  go_region_held3 (fun u => u.cell? ⟨w.heap.size, 0, none⟩ = some (.int .i64 a) ∧ u.cell? ⟨w.heap.size, 1, none⟩ = some (.int .i64 b) ∧ u.cell? ⟨w.heap.size, 2, none⟩ = some (.int .i64 c) ∧ Below w.heap.size w u ∧ w.heap.size + 1 ≤ u.heap.size) (first | exact ⟨S0_0, S0_1, S0_2, SB.drew, SZ⟩ | exact ⟨S0_0, S0_1, S0_2, SB, SZ⟩)
    (first
      | (go_at_call 56; refine (l1Abs_any _ _ (by omega) (by omega)).mono ?_; rintro e v ⟨rfl, rfl⟩; rw [HA.out])
    )
  all_goals go_wp2_with fail
  all_goals go_ret
  all_goals (first | exact ⟨ret_bool HR.out, SB.drew⟩ | exact ⟨ret_bool HR.out, SB⟩ | exact ⟨ret_bool HR.out, SB.drew⟩)

set_option maxHeartbeats 1000000 in
theorem specAreOpposite_any (a b c n m : Int) (w : World) :
    Calls Try.prog 26 #[.agg #[.int .i64 a, .int .i64 b, .int .i64 c], .int .i64 n, .int .i64 m] w fun e w' => e = .returned (.tuple #[.bool (twoB a b c n m && oppB b n m), .bool (twoB a b c n m)]) ∧ Below w.heap.size w w' := by
  cases g0 : stepB a b c n
  · have hV : twoB a b c n m = false := by simp [twoB, g0]
    rw [hV, Bool.false_and]
    clear hV
    have H0 := Lib.hid g0
    clear g0
    go_enter Try.func26, Try.ntmps26
    go_wp2_with fail
    refine (spStep_any _ _ _ _ _).mono ?_
    rintro e w1 ⟨rfl, hb⟩
    have hs : w.heap.size + 1 ≤ w1.heap.size := by have := hb.size; (try simp at this); omega
    have c0_0 : w1.cell? ⟨w.heap.size, 0, none⟩ = some (.int .i64 a) := (hb.cell (by simp; try omega)).trans (by simp)
    have c0_1 : w1.cell? ⟨w.heap.size, 1, none⟩ = some (.int .i64 b) := (hb.cell (by simp; try omega)).trans (by simp)
    have c0_2 : w1.cell? ⟨w.heap.size, 2, none⟩ = some (.int .i64 c) := (hb.cell (by simp; try omega)).trans (by simp)
    have Bt : Below w.heap.size w w1 := ((Below.refl _ _).alloc (Nat.le_refl _) _).trans (hb.mono (by simp; try omega))
    clear hb
    rw [H0.out]
    go_wp2_with fail
    go_ret2
    exact ⟨rfl, Bt⟩
  · have b0 := stepB_le g0
    cases g1 : stepB a b c m
    · have hV : twoB a b c n m = false := by simp [twoB, g1]
      rw [hV, Bool.false_and]
      clear hV
      have H0 := Lib.hid g0
      clear g0
      have H1 := Lib.hid g1
      clear g1
      go_enter Try.func26, Try.ntmps26
      go_wp2_with fail
      refine (spStep_any _ _ _ _ _).mono ?_
      rintro e w1 ⟨rfl, hb⟩
      have hs : w.heap.size + 1 ≤ w1.heap.size := by have := hb.size; (try simp at this); omega
      have c0_0 : w1.cell? ⟨w.heap.size, 0, none⟩ = some (.int .i64 a) := (hb.cell (by simp; try omega)).trans (by simp)
      have c0_1 : w1.cell? ⟨w.heap.size, 1, none⟩ = some (.int .i64 b) := (hb.cell (by simp; try omega)).trans (by simp)
      have c0_2 : w1.cell? ⟨w.heap.size, 2, none⟩ = some (.int .i64 c) := (hb.cell (by simp; try omega)).trans (by simp)
      have Bt : Below w.heap.size w w1 := ((Below.refl _ _).alloc (Nat.le_refl _) _).trans (hb.mono (by simp; try omega))
      clear hb
      rw [H0.out]
      go_wp2_with fail
      refine (spStep_any _ _ _ _ _).mono ?_
      rintro e w2 ⟨rfl, hb⟩
      replace c0_0 := (hb.cell (p := ⟨w.heap.size, 0, none⟩) (by show w.heap.size < w1.heap.size; omega)).trans c0_0
      replace c0_1 := (hb.cell (p := ⟨w.heap.size, 1, none⟩) (by show w.heap.size < w1.heap.size; omega)).trans c0_1
      replace c0_2 := (hb.cell (p := ⟨w.heap.size, 2, none⟩) (by show w.heap.size < w1.heap.size; omega)).trans c0_2
      replace Bt := Bt.trans (hb.mono (by omega))
      replace hs : w.heap.size + 1 ≤ w2.heap.size := by have := hb.size; omega
      clear hb
      rw [H1.out]
      go_wp2_with fail
      go_ret2
      exact ⟨rfl, Bt⟩
    · have b1 := stepB_le g1
      rw [show twoB a b c n m = true by simp [twoB, g0, g1], Bool.true_and]
      have H0 := Lib.hid g0
      clear g0
      have H1 := Lib.hid g1
      clear g1
      go_enter Try.func26, Try.ntmps26
      go_wp2_with fail
      refine (spStep_any _ _ _ _ _).mono ?_
      rintro e w1 ⟨rfl, hb⟩
      have hs : w.heap.size + 1 ≤ w1.heap.size := by have := hb.size; (try simp at this); omega
      have c0_0 : w1.cell? ⟨w.heap.size, 0, none⟩ = some (.int .i64 a) := (hb.cell (by simp; try omega)).trans (by simp)
      have c0_1 : w1.cell? ⟨w.heap.size, 1, none⟩ = some (.int .i64 b) := (hb.cell (by simp; try omega)).trans (by simp)
      have c0_2 : w1.cell? ⟨w.heap.size, 2, none⟩ = some (.int .i64 c) := (hb.cell (by simp; try omega)).trans (by simp)
      have Bt : Below w.heap.size w w1 := ((Below.refl _ _).alloc (Nat.le_refl _) _).trans (hb.mono (by simp; try omega))
      clear hb
      rw [H0.out]
      go_wp2_with fail
      refine (spStep_any _ _ _ _ _).mono ?_
      rintro e w2 ⟨rfl, hb⟩
      replace c0_0 := (hb.cell (p := ⟨w.heap.size, 0, none⟩) (by show w.heap.size < w1.heap.size; omega)).trans c0_0
      replace c0_1 := (hb.cell (p := ⟨w.heap.size, 1, none⟩) (by show w.heap.size < w1.heap.size; omega)).trans c0_1
      replace c0_2 := (hb.cell (p := ⟨w.heap.size, 2, none⟩) (by show w.heap.size < w1.heap.size; omega)).trans c0_2
      replace Bt := Bt.trans (hb.mono (by omega))
      replace hs : w.heap.size + 1 ≤ w2.heap.size := by have := hb.size; omega
      clear hb
      rw [H1.out]
      go_wp2_with fail
      refine (spOpp_any a b c n m (by omega) (by omega) (by omega) (by omega) (by omega) (by omega) _).mono ?_
      rintro e w3 ⟨rfl, hb⟩
      replace c0_0 := (hb.cell (p := ⟨w.heap.size, 0, none⟩) (by show w.heap.size < w2.heap.size; omega)).trans c0_0
      replace c0_1 := (hb.cell (p := ⟨w.heap.size, 1, none⟩) (by show w.heap.size < w2.heap.size; omega)).trans c0_1
      replace c0_2 := (hb.cell (p := ⟨w.heap.size, 2, none⟩) (by show w.heap.size < w2.heap.size; omega)).trans c0_2
      replace Bt := Bt.trans (hb.mono (by omega))
      replace hs : w.heap.size + 1 ≤ w3.heap.size := by have := hb.size; omega
      clear hb
      go_wp2_with fail
      go_ret2
      exact ⟨rfl, Bt⟩

set_option maxHeartbeats 1000000 in
theorem implAreOpposite_any (a b c n m : Int) (w : World) :
    Calls Try.prog 27 #[.agg #[.int .i64 a, .int .i64 b, .int .i64 c], .int .i64 n, .int .i64 m] w fun e w' => e = .returned (.tuple #[.bool (twoB a b c n m && oppB b n m), .bool (twoB a b c n m)]) ∧ Below w.heap.size w w' := by
  cases g0 : stepB a b c n
  · have hV : twoB a b c n m = false := by simp [twoB, g0]
    rw [hV, Bool.false_and]
    clear hV
    have H0 := Lib.hid g0
    clear g0
    go_enter Try.func27, Try.ntmps27
    go_wp2_with fail
    refine (hasStep_any _ _ _ _ _).mono ?_
    rintro e w1 ⟨rfl, hb⟩
    have hs : w.heap.size + 1 ≤ w1.heap.size := by have := hb.size; (try simp at this); omega
    have c0_0 : w1.cell? ⟨w.heap.size, 0, none⟩ = some (.int .i64 a) := (hb.cell (by simp; try omega)).trans (by simp)
    have c0_1 : w1.cell? ⟨w.heap.size, 1, none⟩ = some (.int .i64 b) := (hb.cell (by simp; try omega)).trans (by simp)
    have c0_2 : w1.cell? ⟨w.heap.size, 2, none⟩ = some (.int .i64 c) := (hb.cell (by simp; try omega)).trans (by simp)
    have Bt : Below w.heap.size w w1 := ((Below.refl _ _).alloc (Nat.le_refl _) _).trans (hb.mono (by simp; try omega))
    clear hb
    rw [H0.out]
    go_wp2_with fail
    go_ret2
    exact ⟨rfl, Bt⟩
  · have b0 := stepB_le g0
    cases g1 : stepB a b c m
    · have hV : twoB a b c n m = false := by simp [twoB, g1]
      rw [hV, Bool.false_and]
      clear hV
      have H0 := Lib.hid g0
      clear g0
      have H1 := Lib.hid g1
      clear g1
      go_enter Try.func27, Try.ntmps27
      go_wp2_with fail
      refine (hasStep_any _ _ _ _ _).mono ?_
      rintro e w1 ⟨rfl, hb⟩
      have hs : w.heap.size + 1 ≤ w1.heap.size := by have := hb.size; (try simp at this); omega
      have c0_0 : w1.cell? ⟨w.heap.size, 0, none⟩ = some (.int .i64 a) := (hb.cell (by simp; try omega)).trans (by simp)
      have c0_1 : w1.cell? ⟨w.heap.size, 1, none⟩ = some (.int .i64 b) := (hb.cell (by simp; try omega)).trans (by simp)
      have c0_2 : w1.cell? ⟨w.heap.size, 2, none⟩ = some (.int .i64 c) := (hb.cell (by simp; try omega)).trans (by simp)
      have Bt : Below w.heap.size w w1 := ((Below.refl _ _).alloc (Nat.le_refl _) _).trans (hb.mono (by simp; try omega))
      clear hb
      rw [H0.out]
      go_wp2_with fail
      refine (hasStep_any _ _ _ _ _).mono ?_
      rintro e w2 ⟨rfl, hb⟩
      replace c0_0 := (hb.cell (p := ⟨w.heap.size, 0, none⟩) (by show w.heap.size < w1.heap.size; omega)).trans c0_0
      replace c0_1 := (hb.cell (p := ⟨w.heap.size, 1, none⟩) (by show w.heap.size < w1.heap.size; omega)).trans c0_1
      replace c0_2 := (hb.cell (p := ⟨w.heap.size, 2, none⟩) (by show w.heap.size < w1.heap.size; omega)).trans c0_2
      replace Bt := Bt.trans (hb.mono (by omega))
      replace hs : w.heap.size + 1 ≤ w2.heap.size := by have := hb.size; omega
      clear hb
      rw [H1.out]
      go_wp2_with fail
      go_ret2
      exact ⟨rfl, Bt⟩
    · have b1 := stepB_le g1
      rw [show twoB a b c n m = true by simp [twoB, g0, g1], Bool.true_and]
      have H0 := Lib.hid g0
      clear g0
      have H1 := Lib.hid g1
      clear g1
      go_enter Try.func27, Try.ntmps27
      go_wp2_with fail
      refine (hasStep_any _ _ _ _ _).mono ?_
      rintro e w1 ⟨rfl, hb⟩
      have hs : w.heap.size + 1 ≤ w1.heap.size := by have := hb.size; (try simp at this); omega
      have c0_0 : w1.cell? ⟨w.heap.size, 0, none⟩ = some (.int .i64 a) := (hb.cell (by simp; try omega)).trans (by simp)
      have c0_1 : w1.cell? ⟨w.heap.size, 1, none⟩ = some (.int .i64 b) := (hb.cell (by simp; try omega)).trans (by simp)
      have c0_2 : w1.cell? ⟨w.heap.size, 2, none⟩ = some (.int .i64 c) := (hb.cell (by simp; try omega)).trans (by simp)
      have Bt : Below w.heap.size w w1 := ((Below.refl _ _).alloc (Nat.le_refl _) _).trans (hb.mono (by simp; try omega))
      clear hb
      rw [H0.out]
      go_wp2_with fail
      refine (hasStep_any _ _ _ _ _).mono ?_
      rintro e w2 ⟨rfl, hb⟩
      replace c0_0 := (hb.cell (p := ⟨w.heap.size, 0, none⟩) (by show w.heap.size < w1.heap.size; omega)).trans c0_0
      replace c0_1 := (hb.cell (p := ⟨w.heap.size, 1, none⟩) (by show w.heap.size < w1.heap.size; omega)).trans c0_1
      replace c0_2 := (hb.cell (p := ⟨w.heap.size, 2, none⟩) (by show w.heap.size < w1.heap.size; omega)).trans c0_2
      replace Bt := Bt.trans (hb.mono (by omega))
      replace hs : w.heap.size + 1 ≤ w2.heap.size := by have := hb.size; omega
      clear hb
      rw [H1.out]
      go_wp2_with fail
      refine (areOpp_any a b c n m (by omega) (by omega) (by omega) (by omega) (by omega) (by omega) _).mono ?_
      rintro e w3 ⟨rfl, hb⟩
      replace c0_0 := (hb.cell (p := ⟨w.heap.size, 0, none⟩) (by show w.heap.size < w2.heap.size; omega)).trans c0_0
      replace c0_1 := (hb.cell (p := ⟨w.heap.size, 1, none⟩) (by show w.heap.size < w2.heap.size; omega)).trans c0_1
      replace c0_2 := (hb.cell (p := ⟨w.heap.size, 2, none⟩) (by show w.heap.size < w2.heap.size; omega)).trans c0_2
      replace Bt := Bt.trans (hb.mono (by omega))
      replace hs : w.heap.size + 1 ≤ w3.heap.size := by have := hb.size; omega
      clear hb
      go_wp2_with fail
      go_ret2
      exact ⟨rfl, Bt⟩

set_option maxHeartbeats 2000000 in
theorem implApartAround_any (a b c n m : Int) (w : World) :
    Calls Try.prog 29 #[.agg #[.int .i64 a, .int .i64 b, .int .i64 c], .int .i64 n, .int .i64 m] w fun e w' => e = .returned (.tuple #[.int .i64 (frN (twoB a b c n m) (aroI b n m) (b)), .int .i64 (frD (twoB a b c n m) (aroI b n m) (b)), .bool (twoB a b c n m)]) ∧ Below w.heap.size w w' := by
  cases g0 : stepB a b c n
  · have hV : twoB a b c n m = false := by simp [twoB, g0]
    rw [hV, frN_no, frD_no]
    clear hV
    have H0 := Lib.hid g0
    clear g0
    go_enter Try.func29, Try.ntmps29
    go_wp2_with fail
    refine (hasStep_any _ _ _ _ _).mono ?_
    rintro e w1 ⟨rfl, hb⟩
    have hs : w.heap.size + 1 ≤ w1.heap.size := by have := hb.size; (try simp at this); omega
    have c0_0 : w1.cell? ⟨w.heap.size, 0, none⟩ = some (.int .i64 a) := (hb.cell (by simp; try omega)).trans (by simp)
    have c0_1 : w1.cell? ⟨w.heap.size, 1, none⟩ = some (.int .i64 b) := (hb.cell (by simp; try omega)).trans (by simp)
    have c0_2 : w1.cell? ⟨w.heap.size, 2, none⟩ = some (.int .i64 c) := (hb.cell (by simp; try omega)).trans (by simp)
    have Bt : Below w.heap.size w w1 := ((Below.refl _ _).alloc (Nat.le_refl _) _).trans (hb.mono (by simp; try omega))
    clear hb
    rw [H0.out]
    go_wp2_with fail
    go_ret3
    exact ⟨rfl, Bt⟩
  · have b0 := stepB_le g0
    cases g1 : stepB a b c m
    · have hV : twoB a b c n m = false := by simp [twoB, g1]
      rw [hV, frN_no, frD_no]
      clear hV
      have H0 := Lib.hid g0
      clear g0
      have H1 := Lib.hid g1
      clear g1
      go_enter Try.func29, Try.ntmps29
      go_wp2_with fail
      refine (hasStep_any _ _ _ _ _).mono ?_
      rintro e w1 ⟨rfl, hb⟩
      have hs : w.heap.size + 1 ≤ w1.heap.size := by have := hb.size; (try simp at this); omega
      have c0_0 : w1.cell? ⟨w.heap.size, 0, none⟩ = some (.int .i64 a) := (hb.cell (by simp; try omega)).trans (by simp)
      have c0_1 : w1.cell? ⟨w.heap.size, 1, none⟩ = some (.int .i64 b) := (hb.cell (by simp; try omega)).trans (by simp)
      have c0_2 : w1.cell? ⟨w.heap.size, 2, none⟩ = some (.int .i64 c) := (hb.cell (by simp; try omega)).trans (by simp)
      have Bt : Below w.heap.size w w1 := ((Below.refl _ _).alloc (Nat.le_refl _) _).trans (hb.mono (by simp; try omega))
      clear hb
      rw [H0.out]
      go_wp2_with fail
      refine (hasStep_any _ _ _ _ _).mono ?_
      rintro e w2 ⟨rfl, hb⟩
      replace c0_0 := (hb.cell (p := ⟨w.heap.size, 0, none⟩) (by show w.heap.size < w1.heap.size; omega)).trans c0_0
      replace c0_1 := (hb.cell (p := ⟨w.heap.size, 1, none⟩) (by show w.heap.size < w1.heap.size; omega)).trans c0_1
      replace c0_2 := (hb.cell (p := ⟨w.heap.size, 2, none⟩) (by show w.heap.size < w1.heap.size; omega)).trans c0_2
      replace Bt := Bt.trans (hb.mono (by omega))
      replace hs : w.heap.size + 1 ≤ w2.heap.size := by have := hb.size; omega
      clear hb
      rw [H1.out]
      go_wp2_with fail
      go_ret3
      exact ⟨rfl, Bt⟩
    · have b1 := stepB_le g1
      obtain ⟨q0, q1⟩ := aro_bd (n := n) (m := m) (b := b) (by omega)
      rw [show twoB a b c n m = true by simp [twoB, g0, g1], frN_yes, frD_yes]
      have H0 := Lib.hid g0
      clear g0
      have H1 := Lib.hid g1
      clear g1
      go_enter Try.func29, Try.ntmps29
      go_wp2_with fail
      refine (hasStep_any _ _ _ _ _).mono ?_
      rintro e w1 ⟨rfl, hb⟩
      have hs : w.heap.size + 1 ≤ w1.heap.size := by have := hb.size; (try simp at this); omega
      have c0_0 : w1.cell? ⟨w.heap.size, 0, none⟩ = some (.int .i64 a) := (hb.cell (by simp; try omega)).trans (by simp)
      have c0_1 : w1.cell? ⟨w.heap.size, 1, none⟩ = some (.int .i64 b) := (hb.cell (by simp; try omega)).trans (by simp)
      have c0_2 : w1.cell? ⟨w.heap.size, 2, none⟩ = some (.int .i64 c) := (hb.cell (by simp; try omega)).trans (by simp)
      have Bt : Below w.heap.size w w1 := ((Below.refl _ _).alloc (Nat.le_refl _) _).trans (hb.mono (by simp; try omega))
      clear hb
      rw [H0.out]
      go_wp2_with fail
      refine (hasStep_any _ _ _ _ _).mono ?_
      rintro e w2 ⟨rfl, hb⟩
      replace c0_0 := (hb.cell (p := ⟨w.heap.size, 0, none⟩) (by show w.heap.size < w1.heap.size; omega)).trans c0_0
      replace c0_1 := (hb.cell (p := ⟨w.heap.size, 1, none⟩) (by show w.heap.size < w1.heap.size; omega)).trans c0_1
      replace c0_2 := (hb.cell (p := ⟨w.heap.size, 2, none⟩) (by show w.heap.size < w1.heap.size; omega)).trans c0_2
      replace Bt := Bt.trans (hb.mono (by omega))
      replace hs : w.heap.size + 1 ≤ w2.heap.size := by have := hb.size; omega
      clear hb
      rw [H1.out]
      go_wp2_with fail
      have S0_0 := c0_0
      have S0_1 := c0_1
      have S0_2 := c0_2
      have SB := Bt
      have SZ := hs
      clear Bt hs c0_0 c0_1 c0_2
      go_region_held3 (fun u => u.cell? ⟨w.heap.size, 0, none⟩ = some (.int .i64 a) ∧ u.cell? ⟨w.heap.size, 1, none⟩ = some (.int .i64 b) ∧ u.cell? ⟨w.heap.size, 2, none⟩ = some (.int .i64 c) ∧ Below w.heap.size w u ∧ w.heap.size + 1 ≤ u.heap.size) (first | exact ⟨S0_0, S0_1, S0_2, SB.drew, SZ⟩ | exact ⟨S0_0, S0_1, S0_2, SB, SZ⟩ | exact ⟨T0_0_0, T0_0_1, T0_0_2, TB0, TZ0⟩ | exact ⟨T1_0_0, T1_0_1, T1_0_2, TB1, TZ1⟩)
        (first
          | (go_at_call 58; refine (apart_any a b c n m (by omega) (by omega) (by omega) (by omega) (by omega) (by omega) _).mono ?_; rintro e v1 ⟨rfl, hb0⟩; have T0_0_0 := (hb0.cell (p := ⟨w.heap.size, 0, none⟩) (by show w.heap.size < w2.heap.size; omega)).trans S0_0; have T0_0_1 := (hb0.cell (p := ⟨w.heap.size, 1, none⟩) (by show w.heap.size < w2.heap.size; omega)).trans S0_1; have T0_0_2 := (hb0.cell (p := ⟨w.heap.size, 2, none⟩) (by show w.heap.size < w2.heap.size; omega)).trans S0_2; have TB0 := SB.drew.trans (hb0.mono (by show w.heap.size ≤ w2.heap.size; omega)); have TZ0 : w.heap.size + 1 ≤ v1.heap.size := Nat.le_trans (show w.heap.size + 1 ≤ w2.heap.size by omega) hb0.size)
          | (go_at_call 48; refine (lowest_any _ _ _ q0 (by omega) (by omega) (by omega)).mono ?_; rintro e v2 ⟨rfl, kk1, hv1⟩; have hb1 := drew_below hv1; clear hv1 kk1; have T1_0_0 := (hb1.cell (p := ⟨w.heap.size, 0, none⟩) (by show w.heap.size < v1.heap.size; omega)).trans T0_0_0; have T1_0_1 := (hb1.cell (p := ⟨w.heap.size, 1, none⟩) (by show w.heap.size < v1.heap.size; omega)).trans T0_0_1; have T1_0_2 := (hb1.cell (p := ⟨w.heap.size, 2, none⟩) (by show w.heap.size < v1.heap.size; omega)).trans T0_0_2; have TB1 := TB0.trans (hb1.mono (by show w.heap.size ≤ v1.heap.size; omega)); have TZ1 : w.heap.size + 1 ≤ v2.heap.size := Nat.le_trans (show w.heap.size + 1 ≤ v1.heap.size by omega) hb1.size)
        )
      all_goals go_wp2_with fail
      all_goals go_ret3
      all_goals (first | exact ⟨rfl, TB1⟩ | exact ⟨rfl, SB⟩ | exact ⟨rfl, SB.drew⟩)

set_option maxHeartbeats 1000000 in
theorem specLeastRound_any (n m : Int) (w : World) :
    Calls Try.prog 24 #[.int .i64 n, .int .i64 m] w fun e w' => e = .returned (.tuple #[.int .i64 (orP (lrB n m) (lrN n m)), .bool (lrB n m)]) ∧ Below w.heap.size w w' := by
  cases g0 : inB n 1 300
  · have hV : lrB n m = false := by simp [lrB, g0]
    rw [hV, orP_no]
    clear hV
    have H0 := Lib.hid g0
    clear g0
    go_enter Try.func24, Try.ntmps24
    go_wp2_with fail
    refine (l1In_any _ _ _ _).mono ?_
    rintro e w' ⟨rfl, rfl⟩
    rw [H0.out]
    go_wp2_with fail
    go_ret2
    exact ⟨rfl, Below.refl _ _⟩
  · have b0 := inB_le g0
    cases g1 : inB m 0 20000
    · have hV : lrB n m = false := by simp [lrB, g1]
      rw [hV, orP_no]
      clear hV
      have H0 := Lib.hid g0
      clear g0
      have H1 := Lib.hid g1
      clear g1
      go_enter Try.func24, Try.ntmps24
      go_wp2_with fail
      refine (l1In_any _ _ _ _).mono ?_
      rintro e w' ⟨rfl, rfl⟩
      rw [H0.out]
      go_wp2_with fail
      refine (l1In_any _ _ _ _).mono ?_
      rintro e w' ⟨rfl, rfl⟩
      rw [H1.out]
      go_wp2_with fail
      go_ret2
      exact ⟨rfl, Below.refl _ _⟩
    · have b1 := inB_le g1
      have ht : (m + n - 1).tdiv n = (m + n - 1) / n := Int.tdiv_eq_ediv_of_nonneg (by omega)
      have hz : ¬ n = 0 := by omega
      have q0 : 0 ≤ (m + n - 1) / n := Int.ediv_nonneg (by omega) (by omega)
      have q1 : (m + n - 1) / n ≤ m + n - 1 := Int.ediv_le_self _ (by omega)
      have hL : lrN n m = mostI 3 ((m + n - 1) / n) := rfl
      obtain ⟨x, hx⟩ : ∃ x, (m + n - 1) / n = x := ⟨_, rfl⟩
      rw [hx] at q0 q1 hL
      by_cases h3 : x < 3
      · have hM : mostI 3 x = 3 := by unfold mostI; split <;> omega
        rw [hM] at hL
        have HM := Lib.hid hM
        clear hM
        have hV : lrB n m = true := by simp [lrB, hL, g0, g1]
        rw [hV, hL, orP_yes]
        clear hV
        have H0 := Lib.hid g0
        clear g0
        have H1 := Lib.hid g1
        clear g1
        go_enter Try.func24, Try.ntmps24
        go_wp2_with fail
        refine (l1In_any _ _ _ _).mono ?_
        rintro e w' ⟨rfl, rfl⟩
        rw [H0.out]
        go_wp2_with fail
        refine (l1In_any _ _ _ _).mono ?_
        rintro e w' ⟨rfl, rfl⟩
        rw [H1.out]
        go_wp2_with fail
        refine (l1Most_any _ _ _).mono ?_
        rintro e w' ⟨rfl, rfl⟩
        rw [HM.out]
        go_wp2_with fail
        go_ret2
        exact ⟨rfl, Below.refl _ _⟩
      · by_cases h6 : 60 < x
        · have hM : mostI 3 x = x := by unfold mostI; split <;> omega
          rw [hM] at hL
          have HM := Lib.hid hM
          clear hM
          have hV : lrB n m = false := by simp [lrB, hL, g0, g1]; omega
          rw [hV, orP_no]
          clear hV
          have H0 := Lib.hid g0
          clear g0
          have H1 := Lib.hid g1
          clear g1
          go_enter Try.func24, Try.ntmps24
          go_wp2_with fail
          refine (l1In_any _ _ _ _).mono ?_
          rintro e w' ⟨rfl, rfl⟩
          rw [H0.out]
          go_wp2_with fail
          refine (l1In_any _ _ _ _).mono ?_
          rintro e w' ⟨rfl, rfl⟩
          rw [H1.out]
          go_wp2_with fail
          refine (l1Most_any _ _ _).mono ?_
          rintro e w' ⟨rfl, rfl⟩
          rw [HM.out]
          go_wp2_with fail
          go_ret2
          exact ⟨rfl, Below.refl _ _⟩
        · have hM : mostI 3 x = x := by unfold mostI; split <;> omega
          rw [hM] at hL
          have HM := Lib.hid hM
          clear hM
          have hV : lrB n m = true := by simp [lrB, hL, g0, g1]; omega
          rw [hV, hL, orP_yes]
          clear hV
          have H0 := Lib.hid g0
          clear g0
          have H1 := Lib.hid g1
          clear g1
          go_enter Try.func24, Try.ntmps24
          go_wp2_with fail
          refine (l1In_any _ _ _ _).mono ?_
          rintro e w' ⟨rfl, rfl⟩
          rw [H0.out]
          go_wp2_with fail
          refine (l1In_any _ _ _ _).mono ?_
          rintro e w' ⟨rfl, rfl⟩
          rw [H1.out]
          go_wp2_with fail
          refine (l1Most_any _ _ _).mono ?_
          rintro e w' ⟨rfl, rfl⟩
          rw [HM.out]
          go_wp2_with fail
          go_ret2
          exact ⟨rfl, Below.refl _ _⟩

set_option maxHeartbeats 1000000 in
theorem implLeastRound_any (n m : Int) (w : World) :
    Calls Try.prog 25 #[.int .i64 n, .int .i64 m] w fun e w' => e = .returned (.tuple #[.int .i64 (orP (lrB n m) (lrN n m)), .bool (lrB n m)]) ∧ Below w.heap.size w w' := by
  cases g0 : inB n 1 300
  · have hV : lrB n m = false := by simp [lrB, g0]
    rw [hV, orP_no]
    clear hV
    have H0 := Lib.hid g0
    clear g0
    go_enter Try.func25, Try.ntmps25
    go_wp2_with fail
    refine (isSpiralRise_any _ _).mono ?_
    rintro e w' ⟨rfl, rfl⟩
    rw [H0.out]
    go_wp2_with fail
    go_ret2
    exact ⟨rfl, Below.refl _ _⟩
  · have b0 := inB_le g0
    cases g1 : inB m 0 20000
    · have hV : lrB n m = false := by simp [lrB, g1]
      rw [hV, orP_no]
      clear hV
      have H0 := Lib.hid g0
      clear g0
      have H1 := Lib.hid g1
      clear g1
      go_enter Try.func25, Try.ntmps25
      go_wp2_with fail
      refine (isSpiralRise_any _ _).mono ?_
      rintro e w' ⟨rfl, rfl⟩
      rw [H0.out]
      go_wp2_with fail
      refine (isWithin_any _ _ _ _).mono ?_
      rintro e w' ⟨rfl, rfl⟩
      rw [H1.out]
      go_wp2_with fail
      go_ret2
      exact ⟨rfl, Below.refl _ _⟩
    · have b1 := inB_le g1
      have ht : (m + n - 1).tdiv n = (m + n - 1) / n := Int.tdiv_eq_ediv_of_nonneg (by omega)
      have hz : ¬ n = 0 := by omega
      have q0 : 0 ≤ (m + n - 1) / n := Int.ediv_nonneg (by omega) (by omega)
      have q1 : (m + n - 1) / n ≤ m + n - 1 := Int.ediv_le_self _ (by omega)
      have hL : lrN n m = mostI 3 ((m + n - 1) / n) := rfl
      obtain ⟨x, hx⟩ : ∃ x, (m + n - 1) / n = x := ⟨_, rfl⟩
      rw [hx] at q0 q1 hL
      by_cases h3 : ¬ 3 < x
      · have hM : mostI 3 x = 3 := by unfold mostI; split <;> omega
        rw [hM] at hL
        clear hM
        have HM := Lib.hid (show inB 3 3 60 = true by exact inB_yes (by omega) (by omega))
        have hV : lrB n m = true := by simp [lrB, hL, g0, g1]
        rw [hV, hL, orP_yes]
        clear hV
        have H0 := Lib.hid g0
        clear g0
        have H1 := Lib.hid g1
        clear g1
        go_enter Try.func25, Try.ntmps25
        go_wp2_with fail
        refine (isSpiralRise_any _ _).mono ?_
        rintro e w' ⟨rfl, rfl⟩
        rw [H0.out]
        go_wp2_with fail
        refine (isWithin_any _ _ _ _).mono ?_
        rintro e w' ⟨rfl, rfl⟩
        rw [H1.out]
        go_wp2_with fail
        refine (isRound_any _ _).mono ?_
        rintro e w' ⟨rfl, rfl⟩
        rw [HM.out]
        go_wp2_with fail
        go_ret2
        exact ⟨rfl, Below.refl _ _⟩
      · by_cases h6 : 60 < x
        · have hM : mostI 3 x = x := by unfold mostI; split <;> omega
          rw [hM] at hL
          clear hM
          have HM := Lib.hid (show inB x 3 60 = false by exact inB_no (.inr (by omega)))
          have hV : lrB n m = false := by simp [lrB, hL, g0, g1]; omega
          rw [hV, orP_no]
          clear hV
          have H0 := Lib.hid g0
          clear g0
          have H1 := Lib.hid g1
          clear g1
          go_enter Try.func25, Try.ntmps25
          go_wp2_with fail
          refine (isSpiralRise_any _ _).mono ?_
          rintro e w' ⟨rfl, rfl⟩
          rw [H0.out]
          go_wp2_with fail
          refine (isWithin_any _ _ _ _).mono ?_
          rintro e w' ⟨rfl, rfl⟩
          rw [H1.out]
          go_wp2_with fail
          refine (isRound_any _ _).mono ?_
          rintro e w' ⟨rfl, rfl⟩
          rw [HM.out]
          go_wp2_with fail
          go_ret2
          exact ⟨rfl, Below.refl _ _⟩
        · have hM : mostI 3 x = x := by unfold mostI; split <;> omega
          rw [hM] at hL
          clear hM
          have HM := Lib.hid (show inB x 3 60 = true by exact inB_yes (by omega) (by omega))
          have hV : lrB n m = true := by simp [lrB, hL, g0, g1]; omega
          rw [hV, hL, orP_yes]
          clear hV
          have H0 := Lib.hid g0
          clear g0
          have H1 := Lib.hid g1
          clear g1
          go_enter Try.func25, Try.ntmps25
          go_wp2_with fail
          refine (isSpiralRise_any _ _).mono ?_
          rintro e w' ⟨rfl, rfl⟩
          rw [H0.out]
          go_wp2_with fail
          refine (isWithin_any _ _ _ _).mono ?_
          rintro e w' ⟨rfl, rfl⟩
          rw [H1.out]
          go_wp2_with fail
          refine (isRound_any _ _).mono ?_
          rintro e w' ⟨rfl, rfl⟩
          rw [HM.out]
          go_wp2_with fail
          go_ret2
          exact ⟨rfl, Below.refl _ _⟩

set_option maxHeartbeats 2000000 in
theorem specApartAround_any (a b c n m : Int) (w : World) :
    Calls Try.prog 28 #[.agg #[.int .i64 a, .int .i64 b, .int .i64 c], .int .i64 n, .int .i64 m] w fun e w' => e = .returned (.tuple #[.int .i64 (frN (twoB a b c n m) (aroI b n m) (b)), .int .i64 (frD (twoB a b c n m) (aroI b n m) (b)), .bool (twoB a b c n m)]) ∧ Below w.heap.size w w' := by
  cases g0 : stepB a b c n
  · have hV : twoB a b c n m = false := by simp [twoB, g0]
    rw [hV, frN_no, frD_no]
    clear hV
    have H0 := Lib.hid g0
    clear g0
    go_enter Try.func28, Try.ntmps28
    go_wp2_with fail
    refine (spStep_any _ _ _ _ _).mono ?_
    rintro e w1 ⟨rfl, hb⟩
    have hs : w.heap.size + 1 ≤ w1.heap.size := by have := hb.size; (try simp at this); omega
    have c0_0 : w1.cell? ⟨w.heap.size, 0, none⟩ = some (.int .i64 a) := (hb.cell (by simp; try omega)).trans (by simp)
    have c0_1 : w1.cell? ⟨w.heap.size, 1, none⟩ = some (.int .i64 b) := (hb.cell (by simp; try omega)).trans (by simp)
    have c0_2 : w1.cell? ⟨w.heap.size, 2, none⟩ = some (.int .i64 c) := (hb.cell (by simp; try omega)).trans (by simp)
    have Bt : Below w.heap.size w w1 := ((Below.refl _ _).alloc (Nat.le_refl _) _).trans (hb.mono (by simp; try omega))
    clear hb
    rw [H0.out]
    go_wp2_with fail
    go_ret3
    exact ⟨rfl, Bt⟩
  · have b0 := stepB_le g0
    cases g1 : stepB a b c m
    · have hV : twoB a b c n m = false := by simp [twoB, g1]
      rw [hV, frN_no, frD_no]
      clear hV
      have H0 := Lib.hid g0
      clear g0
      have H1 := Lib.hid g1
      clear g1
      go_enter Try.func28, Try.ntmps28
      go_wp2_with fail
      refine (spStep_any _ _ _ _ _).mono ?_
      rintro e w1 ⟨rfl, hb⟩
      have hs : w.heap.size + 1 ≤ w1.heap.size := by have := hb.size; (try simp at this); omega
      have c0_0 : w1.cell? ⟨w.heap.size, 0, none⟩ = some (.int .i64 a) := (hb.cell (by simp; try omega)).trans (by simp)
      have c0_1 : w1.cell? ⟨w.heap.size, 1, none⟩ = some (.int .i64 b) := (hb.cell (by simp; try omega)).trans (by simp)
      have c0_2 : w1.cell? ⟨w.heap.size, 2, none⟩ = some (.int .i64 c) := (hb.cell (by simp; try omega)).trans (by simp)
      have Bt : Below w.heap.size w w1 := ((Below.refl _ _).alloc (Nat.le_refl _) _).trans (hb.mono (by simp; try omega))
      clear hb
      rw [H0.out]
      go_wp2_with fail
      refine (spStep_any _ _ _ _ _).mono ?_
      rintro e w2 ⟨rfl, hb⟩
      replace c0_0 := (hb.cell (p := ⟨w.heap.size, 0, none⟩) (by show w.heap.size < w1.heap.size; omega)).trans c0_0
      replace c0_1 := (hb.cell (p := ⟨w.heap.size, 1, none⟩) (by show w.heap.size < w1.heap.size; omega)).trans c0_1
      replace c0_2 := (hb.cell (p := ⟨w.heap.size, 2, none⟩) (by show w.heap.size < w1.heap.size; omega)).trans c0_2
      replace Bt := Bt.trans (hb.mono (by omega))
      replace hs : w.heap.size + 1 ≤ w2.heap.size := by have := hb.size; omega
      clear hb
      rw [H1.out]
      go_wp2_with fail
      go_ret3
      exact ⟨rfl, Bt⟩
    · have b1 := stepB_le g1
      rw [show twoB a b c n m = true by simp [twoB, g0, g1], frN_yes, frD_yes]
      obtain ⟨q0, q1⟩ := emod_bd (x := absI (n - m)) (b := b) (by omega)
      have q2 : 0 ≤ absI (n - m) := by unfold absI; split <;> omega
      have ht := Int.tmod_eq_emod_of_nonneg (a := absI (n - m)) (b := b) q2
      obtain ⟨q3, q4⟩ := aro_bd (n := n) (m := m) (b := b) (by omega)
      have HL0 : leastI (absI (n - m) % b) (b - absI (n - m) % b) = aroI b n m := rfl
      obtain ⟨x, hx⟩ : ∃ x, absI (n - m) = x := ⟨_, rfl⟩
      rw [hx] at q0 q1 q2 ht HL0
      obtain ⟨y, hy⟩ : ∃ y, x % b = y := ⟨_, rfl⟩
      rw [hy] at q0 q1 ht HL0
      obtain ⟨r, hr⟩ : ∃ r, aroI b n m = r := ⟨_, rfl⟩
      rw [hr] at q3 q4 HL0
      have HA := Lib.hid hx
      have HL := Lib.hid HL0
      rw [hr]
      clear hx hy hr HL0
      have hz : ¬ b = 0 := by omega
      have hw0 : IntKind.i64.wrap (n - m) = n - m := IntWalk.i64_in _ (by omega)
      have hw1 : IntKind.i64.wrap (b - y) = b - y := IntWalk.i64_in _ (by omega)
      have H0 := Lib.hid g0
      clear g0
      have H1 := Lib.hid g1
      clear g1
      go_enter Try.func28, Try.ntmps28
      go_wp2_with fail
      refine (spStep_any _ _ _ _ _).mono ?_
      rintro e w1 ⟨rfl, hb⟩
      have hs : w.heap.size + 1 ≤ w1.heap.size := by have := hb.size; (try simp at this); omega
      have c0_0 : w1.cell? ⟨w.heap.size, 0, none⟩ = some (.int .i64 a) := (hb.cell (by simp; try omega)).trans (by simp)
      have c0_1 : w1.cell? ⟨w.heap.size, 1, none⟩ = some (.int .i64 b) := (hb.cell (by simp; try omega)).trans (by simp)
      have c0_2 : w1.cell? ⟨w.heap.size, 2, none⟩ = some (.int .i64 c) := (hb.cell (by simp; try omega)).trans (by simp)
      have Bt : Below w.heap.size w w1 := ((Below.refl _ _).alloc (Nat.le_refl _) _).trans (hb.mono (by simp; try omega))
      clear hb
      rw [H0.out]
      go_wp2_with fail
      refine (spStep_any _ _ _ _ _).mono ?_
      rintro e w2 ⟨rfl, hb⟩
      replace c0_0 := (hb.cell (p := ⟨w.heap.size, 0, none⟩) (by show w.heap.size < w1.heap.size; omega)).trans c0_0
      replace c0_1 := (hb.cell (p := ⟨w.heap.size, 1, none⟩) (by show w.heap.size < w1.heap.size; omega)).trans c0_1
      replace c0_2 := (hb.cell (p := ⟨w.heap.size, 2, none⟩) (by show w.heap.size < w1.heap.size; omega)).trans c0_2
      replace Bt := Bt.trans (hb.mono (by omega))
      replace hs : w.heap.size + 1 ≤ w2.heap.size := by have := hb.size; omega
      clear hb
      rw [H1.out]
      go_wp2_with fail
      have B1 := Bt.drew
      have B2 := B1.drew
      go_region_held3 (fun u => u.cell? ⟨w.heap.size, 0, none⟩ = some (.int .i64 a) ∧ u.cell? ⟨w.heap.size, 1, none⟩ = some (.int .i64 b) ∧ u.cell? ⟨w.heap.size, 2, none⟩ = some (.int .i64 c) ∧ Below w.heap.size w u ∧ w.heap.size + 1 ≤ u.heap.size) (first | exact ⟨c0_0, c0_1, c0_2, Bt, hs⟩ | exact ⟨c0_0, c0_1, c0_2, B1, hs⟩ | exact ⟨c0_0, c0_1, c0_2, B2, hs⟩)
        (first
          | (go_at_call 56; refine (l1Abs_any _ _ (by omega) (by omega)).mono ?_; rintro e v ⟨rfl, rfl⟩; rw [HA.out])
        )
      all_goals go_wp2_with fail
      go_region_held3 (fun u => u.cell? ⟨w.heap.size, 0, none⟩ = some (.int .i64 a) ∧ u.cell? ⟨w.heap.size, 1, none⟩ = some (.int .i64 b) ∧ u.cell? ⟨w.heap.size, 2, none⟩ = some (.int .i64 c) ∧ Below w.heap.size w u ∧ w.heap.size + 1 ≤ u.heap.size) (first | exact ⟨c0_0, c0_1, c0_2, Bt, hs⟩ | exact ⟨c0_0, c0_1, c0_2, B1, hs⟩ | exact ⟨c0_0, c0_1, c0_2, B2, hs⟩ | exact ⟨T0, T1, T2, TB, TZ⟩)
        (first
          | (go_at_call 57; refine (l1Least_any _ _ _).mono ?_; rintro e v ⟨rfl, rfl⟩; rw [HL.out])
          | (go_at_call 46; refine (spLow_any _ _ _ q3 (by omega) (by omega) (by omega)).mono ?_; rintro e v ⟨rfl, kk, hv⟩; have hb := drew_below hv; clear hv kk; have T0 := (hb.cell (p := ⟨w.heap.size, 0, none⟩) (by show w.heap.size < w2.heap.size; omega)).trans c0_0; have T1 := (hb.cell (p := ⟨w.heap.size, 1, none⟩) (by show w.heap.size < w2.heap.size; omega)).trans c0_1; have T2 := (hb.cell (p := ⟨w.heap.size, 2, none⟩) (by show w.heap.size < w2.heap.size; omega)).trans c0_2; have TB := B2.trans (hb.mono (by show w.heap.size ≤ w2.heap.size; omega)); have TZ : w.heap.size + 1 ≤ v.heap.size := Nat.le_trans hs hb.size)
        )
      all_goals go_wp2_with fail
      all_goals go_ret3
      all_goals exact ⟨rfl, TB⟩

theorem gI_comm (a b : Int) : gI a b = gI b a := by unfold gI; rw [Int.gcd_comm]

set_option maxHeartbeats 1000000 in
theorem specCountAngles_any (a b c n : Int) (w : World) :
    Calls Try.prog 32 #[.agg #[.int .i64 a, .int .i64 b, .int .i64 c], .int .i64 n] w fun e w' => e = .returned (.tuple #[.int .i64 (orP (everyB a b c n) (lowD n b)), .bool (everyB a b c n)]) ∧ Below w.heap.size w w' := by
  cases g0 : everyB a b c n
  · have hV : everyB a b c n = false := g0
    rw [orP_no]
    clear hV
    have H0 := Lib.hid g0
    clear g0
    go_enter Try.func32, Try.ntmps32
    go_wp2_with fail
    refine (spEvery_any _ _ _ _ _).mono ?_
    rintro e w1 ⟨rfl, hb⟩
    have hs : w.heap.size + 1 ≤ w1.heap.size := by have := hb.size; (try simp at this); omega
    have c0_0 : w1.cell? ⟨w.heap.size, 0, none⟩ = some (.int .i64 a) := (hb.cell (by simp; try omega)).trans (by simp)
    have c0_1 : w1.cell? ⟨w.heap.size, 1, none⟩ = some (.int .i64 b) := (hb.cell (by simp; try omega)).trans (by simp)
    have c0_2 : w1.cell? ⟨w.heap.size, 2, none⟩ = some (.int .i64 c) := (hb.cell (by simp; try omega)).trans (by simp)
    have Bt : Below w.heap.size w w1 := ((Below.refl _ _).alloc (Nat.le_refl _) _).trans (hb.mono (by simp; try omega))
    clear hb
    rw [H0.out]
    go_wp2_with fail
    go_ret2
    exact ⟨rfl, Bt⟩
  · have b0 := everyB_le g0
    rw [orP_yes]
    have H0 := Lib.hid g0
    clear g0
    go_enter Try.func32, Try.ntmps32
    go_wp2_with fail
    refine (spEvery_any _ _ _ _ _).mono ?_
    rintro e w1 ⟨rfl, hb⟩
    have hs : w.heap.size + 1 ≤ w1.heap.size := by have := hb.size; (try simp at this); omega
    have c0_0 : w1.cell? ⟨w.heap.size, 0, none⟩ = some (.int .i64 a) := (hb.cell (by simp; try omega)).trans (by simp)
    have c0_1 : w1.cell? ⟨w.heap.size, 1, none⟩ = some (.int .i64 b) := (hb.cell (by simp; try omega)).trans (by simp)
    have c0_2 : w1.cell? ⟨w.heap.size, 2, none⟩ = some (.int .i64 c) := (hb.cell (by simp; try omega)).trans (by simp)
    have Bt : Below w.heap.size w w1 := ((Below.refl _ _).alloc (Nat.le_refl _) _).trans (hb.mono (by simp; try omega))
    clear hb
    rw [H0.out]
    go_wp2_with fail
    refine (spLow_any n b _ (by omega) (by omega) (by omega) (by omega)).mono ?_
    rintro e w2 ⟨rfl, kk, hw⟩
    have hb := drew_below hw
    clear hw kk
    replace c0_0 := (hb.cell (p := ⟨w.heap.size, 0, none⟩) (by show w.heap.size < w1.heap.size; omega)).trans c0_0
    replace c0_1 := (hb.cell (p := ⟨w.heap.size, 1, none⟩) (by show w.heap.size < w1.heap.size; omega)).trans c0_1
    replace c0_2 := (hb.cell (p := ⟨w.heap.size, 2, none⟩) (by show w.heap.size < w1.heap.size; omega)).trans c0_2
    replace Bt := Bt.trans (hb.mono (by omega))
    replace hs : w.heap.size + 1 ≤ w2.heap.size := by have := hb.size; omega
    clear hb
    go_wp2_with fail
    go_ret2
    exact ⟨rfl, Bt⟩

set_option maxHeartbeats 2000000 in
theorem implCountAngles_any (a b c n : Int) (w : World) :
    Calls Try.prog 33 #[.agg #[.int .i64 a, .int .i64 b, .int .i64 c], .int .i64 n] w fun e w' => e = .returned (.tuple #[.int .i64 (orP (everyB a b c n) (lowD n b)), .bool (everyB a b c n)]) ∧ Below w.heap.size w w' := by
  cases g0 : spiB a b c
  · have hV : everyB a b c n = false := by simp [everyB, g0]
    rw [hV, orP_no]
    clear hV
    have H0 := Lib.hid g0
    clear g0
    go_enter Try.func33, Try.ntmps33
    go_wp2_with fail
    refine (impSpi_any _ _ _ _).mono ?_
    rintro e w1 ⟨rfl, hb⟩
    have hs : w.heap.size + 1 ≤ w1.heap.size := by have := hb.size; (try simp at this); omega
    have c0_0 : w1.cell? ⟨w.heap.size, 0, none⟩ = some (.int .i64 a) := (hb.cell (by simp; try omega)).trans (by simp)
    have c0_1 : w1.cell? ⟨w.heap.size, 1, none⟩ = some (.int .i64 b) := (hb.cell (by simp; try omega)).trans (by simp)
    have c0_2 : w1.cell? ⟨w.heap.size, 2, none⟩ = some (.int .i64 c) := (hb.cell (by simp; try omega)).trans (by simp)
    have Bt : Below w.heap.size w w1 := ((Below.refl _ _).alloc (Nat.le_refl _) _).trans (hb.mono (by simp; try omega))
    clear hb
    rw [H0.out]
    go_wp2_with fail
    go_ret2
    exact ⟨rfl, Bt⟩
  · have b0 := spiB_le g0
    cases g1 : inB n 1 400
    · have hV : everyB a b c n = false := by simp [everyB, g1]
      rw [hV, orP_no]
      clear hV
      have H0 := Lib.hid g0
      clear g0
      have H1 := Lib.hid g1
      clear g1
      go_enter Try.func33, Try.ntmps33
      go_wp2_with fail
      refine (impSpi_any _ _ _ _).mono ?_
      rintro e w1 ⟨rfl, hb⟩
      have hs : w.heap.size + 1 ≤ w1.heap.size := by have := hb.size; (try simp at this); omega
      have c0_0 : w1.cell? ⟨w.heap.size, 0, none⟩ = some (.int .i64 a) := (hb.cell (by simp; try omega)).trans (by simp)
      have c0_1 : w1.cell? ⟨w.heap.size, 1, none⟩ = some (.int .i64 b) := (hb.cell (by simp; try omega)).trans (by simp)
      have c0_2 : w1.cell? ⟨w.heap.size, 2, none⟩ = some (.int .i64 c) := (hb.cell (by simp; try omega)).trans (by simp)
      have Bt : Below w.heap.size w w1 := ((Below.refl _ _).alloc (Nat.le_refl _) _).trans (hb.mono (by simp; try omega))
      clear hb
      rw [H0.out]
      go_wp2_with fail
      refine (isSpiralStep_any _ _).mono ?_
      rintro e w' ⟨rfl, rfl⟩
      rw [H1.out]
      go_wp2_with fail
      go_ret2
      exact ⟨rfl, Bt⟩
    · have b1 := inB_le g1
      rw [show everyB a b c n = true by simp [everyB, g0, g1], orP_yes]
      have p0 := gI_pos (a := b) (b := n) (by omega)
      have HR0 : b / gI b n = lowD n b := by unfold lowD; rw [gI_comm]
      have ht := Int.tdiv_eq_ediv_of_nonneg (a := b) (b := gI b n) (by omega)
      obtain ⟨r, hr⟩ : ∃ r, gI b n = r := ⟨_, rfl⟩
      rw [hr] at p0 HR0 ht
      obtain ⟨q, hq⟩ : ∃ q, lowD n b = q := ⟨_, rfl⟩
      rw [hq] at HR0 ⊢
      rw [HR0] at ht
      have q0 : 0 ≤ q := by rw [← HR0]; exact Int.ediv_nonneg (by omega) (by omega)
      have q1 : q ≤ b := by rw [← HR0]; exact Int.ediv_le_self _ (by omega)
      have HA := Lib.hid hr
      clear HR0 hr hq
      have hz : ¬ r = 0 := by omega
      have hw0 : IntKind.i64.wrap q = q := IntWalk.i64_in _ (by omega)
      have H0 := Lib.hid g0
      clear g0
      have H1 := Lib.hid g1
      clear g1
      go_enter Try.func33, Try.ntmps33
      go_wp2_with fail
      refine (impSpi_any _ _ _ _).mono ?_
      rintro e w1 ⟨rfl, hb⟩
      have hs : w.heap.size + 1 ≤ w1.heap.size := by have := hb.size; (try simp at this); omega
      have c0_0 : w1.cell? ⟨w.heap.size, 0, none⟩ = some (.int .i64 a) := (hb.cell (by simp; try omega)).trans (by simp)
      have c0_1 : w1.cell? ⟨w.heap.size, 1, none⟩ = some (.int .i64 b) := (hb.cell (by simp; try omega)).trans (by simp)
      have c0_2 : w1.cell? ⟨w.heap.size, 2, none⟩ = some (.int .i64 c) := (hb.cell (by simp; try omega)).trans (by simp)
      have Bt : Below w.heap.size w w1 := ((Below.refl _ _).alloc (Nat.le_refl _) _).trans (hb.mono (by simp; try omega))
      clear hb
      rw [H0.out]
      go_wp2_with fail
      refine (isSpiralStep_any _ _).mono ?_
      rintro e w' ⟨rfl, rfl⟩
      rw [H1.out]
      go_wp2_with fail
      have S0_0 := c0_0
      have S0_1 := c0_1
      have S0_2 := c0_2
      have SB := Bt
      have SZ := hs
      clear Bt hs c0_0 c0_1 c0_2
      go_region_held3 (fun u => u.cell? ⟨w.heap.size, 0, none⟩ = some (.int .i64 a) ∧ u.cell? ⟨w.heap.size, 1, none⟩ = some (.int .i64 b) ∧ u.cell? ⟨w.heap.size, 2, none⟩ = some (.int .i64 c) ∧ Below w.heap.size w u ∧ w.heap.size + 1 ≤ u.heap.size) (first | exact ⟨S0_0, S0_1, S0_2, SB.drew, SZ⟩ | exact ⟨S0_0, S0_1, S0_2, SB, SZ⟩ | exact ⟨T0_0_0, T0_0_1, T0_0_2, TB0, TZ0⟩)
        (first
          | (go_at_call 61; refine (greatest_any _ _ _ (by omega) (by omega) (by omega) (by omega)).mono ?_; rintro e v1 ⟨rfl, kk0, hv0⟩; have hb0 := drew_below hv0; clear hv0 kk0; have T0_0_0 := (hb0.cell (p := ⟨w.heap.size, 0, none⟩) (by show w.heap.size < w1.heap.size; omega)).trans S0_0; have T0_0_1 := (hb0.cell (p := ⟨w.heap.size, 1, none⟩) (by show w.heap.size < w1.heap.size; omega)).trans S0_1; have T0_0_2 := (hb0.cell (p := ⟨w.heap.size, 2, none⟩) (by show w.heap.size < w1.heap.size; omega)).trans S0_2; have TB0 := SB.drew.trans (hb0.mono (by show w.heap.size ≤ w1.heap.size; omega)); have TZ0 : w.heap.size + 1 ≤ v1.heap.size := Nat.le_trans (show w.heap.size + 1 ≤ w1.heap.size by omega) hb0.size; rw [HA.out])
        )
      all_goals go_wp2_with fail
      all_goals go_ret2
      all_goals (first | exact ⟨rfl, TB0⟩ | exact ⟨rfl, SB⟩ | exact ⟨rfl, SB.drew⟩)


end Go.Proofs.Ytlhafgepalbehaa
