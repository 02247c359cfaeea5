/- Contracts: spirals: angles, opposite steps, ways around, sides, on both sides. -/
import Derived.Test.YtomjebelgnecfaaSpH
import Derived.Test.YtomjebelgnecfaaSpP
import Derived.IntWalk
namespace Go.Proofs.Ytomjebelgnecfaa
open Go.RowKit


set_option maxHeartbeats 2000000 in
theorem implAngleOf_any (a b c n : Int) (w : World) :
    Calls Try.prog 58 #[.agg #[.int .i64 a, .int .i64 b, .int .i64 c], .int .i64 n] w fun e w' => e = .returned (.tuple #[.int .i64 (frN (stepB a b c n) ((n - 1) % b) (b)), .int .i64 (frD (stepB a b c n) ((n - 1) % b) (b)), .bool (stepB a b c n)]) ∧ Below w.heap.size w w' := by
  cases g0 : stepB a b c n
  · have hV : stepB a b c n = false := g0
    rw [frN_no, frD_no]
    clear hV
    have H0 := Lib.hid g0
    clear g0
    go_enter Try.func58, Try.ntmps58
    go_wp2_with fail
    refine (hasStep_any _ _ _ _ _).mono ?_
    rintro e w1 ⟨rfl, hb⟩
    have hs : w.heap.size + 1 ≤ w1.heap.size := by have := hb.size; (try simp at this); omega
    have c0_0 : w1.cell? ⟨w.heap.size, 0, none⟩ = some (.int .i64 a) := (hb.cell (by simp; try omega)).trans (by simp)
    have c0_1 : w1.cell? ⟨w.heap.size, 1, none⟩ = some (.int .i64 b) := (hb.cell (by simp; try omega)).trans (by simp)
    have c0_2 : w1.cell? ⟨w.heap.size, 2, none⟩ = some (.int .i64 c) := (hb.cell (by simp; try omega)).trans (by simp)
    have Bt : Below w.heap.size w w1 := ((Below.refl _ _).alloc (Nat.le_refl _) _).trans (hb.mono (by simp; try omega))
    clear hb
    rw [H0.out]
    go_wp2_with fail
    go_ret3
    exact ⟨rfl, Bt⟩
  · have b0 := stepB_le g0
    obtain ⟨q0, q1⟩ := emod_bd (x := n - 1) (b := b) (by omega)
    rw [frN_yes, frD_yes]
    have H0 := Lib.hid g0
    clear g0
    go_enter Try.func58, Try.ntmps58
    go_wp2_with fail
    refine (hasStep_any _ _ _ _ _).mono ?_
    rintro e w1 ⟨rfl, hb⟩
    have hs : w.heap.size + 1 ≤ w1.heap.size := by have := hb.size; (try simp at this); omega
    have c0_0 : w1.cell? ⟨w.heap.size, 0, none⟩ = some (.int .i64 a) := (hb.cell (by simp; try omega)).trans (by simp)
    have c0_1 : w1.cell? ⟨w.heap.size, 1, none⟩ = some (.int .i64 b) := (hb.cell (by simp; try omega)).trans (by simp)
    have c0_2 : w1.cell? ⟨w.heap.size, 2, none⟩ = some (.int .i64 c) := (hb.cell (by simp; try omega)).trans (by simp)
    have Bt : Below w.heap.size w w1 := ((Below.refl _ _).alloc (Nat.le_refl _) _).trans (hb.mono (by simp; try omega))
    clear hb
    rw [H0.out]
    go_wp2_with fail
    have S0_0 := c0_0
    have S0_1 := c0_1
    have S0_2 := c0_2
    have SB := Bt
    have SZ := hs
    clear Bt hs c0_0 c0_1 c0_2
    go_region_held3 (fun u => u.cell? ⟨w.heap.size, 0, none⟩ = some (.int .i64 a) ∧ u.cell? ⟨w.heap.size, 1, none⟩ = some (.int .i64 b) ∧ u.cell? ⟨w.heap.size, 2, none⟩ = some (.int .i64 c) ∧ Below w.heap.size w u ∧ w.heap.size + 1 ≤ u.heap.size) (first | exact ⟨S0_0, S0_1, S0_2, SB.drew, SZ⟩ | exact ⟨S0_0, S0_1, S0_2, SB, SZ⟩ | exact ⟨T0_0_0, T0_0_1, T0_0_2, TB0, TZ0⟩ | exact ⟨T1_0_0, T1_0_1, T1_0_2, TB1, TZ1⟩)
      (first
        | (go_at_call 56; refine (pastTurns_any a b c n (by omega) (by omega) (by omega) (by omega) _).mono ?_; rintro e v1 ⟨rfl, hb0⟩; have T0_0_0 := (hb0.cell (p := ⟨w.heap.size, 0, none⟩) (by show w.heap.size < w1.heap.size; omega)).trans S0_0; have T0_0_1 := (hb0.cell (p := ⟨w.heap.size, 1, none⟩) (by show w.heap.size < w1.heap.size; omega)).trans S0_1; have T0_0_2 := (hb0.cell (p := ⟨w.heap.size, 2, none⟩) (by show w.heap.size < w1.heap.size; omega)).trans S0_2; have TB0 := SB.drew.trans (hb0.mono (by show w.heap.size ≤ w1.heap.size; omega)); have TZ0 : w.heap.size + 1 ≤ v1.heap.size := Nat.le_trans (show w.heap.size + 1 ≤ w1.heap.size by omega) hb0.size)
        | (go_at_call 61; refine (lowest_any _ _ _ q0 (by omega) (by omega) (by omega)).mono ?_; rintro e v2 ⟨rfl, kk1, hv1⟩; have hb1 := drew_below hv1; clear hv1 kk1; have T1_0_0 := (hb1.cell (p := ⟨w.heap.size, 0, none⟩) (by show w.heap.size < v1.heap.size; omega)).trans T0_0_0; have T1_0_1 := (hb1.cell (p := ⟨w.heap.size, 1, none⟩) (by show w.heap.size < v1.heap.size; omega)).trans T0_0_1; have T1_0_2 := (hb1.cell (p := ⟨w.heap.size, 2, none⟩) (by show w.heap.size < v1.heap.size; omega)).trans T0_0_2; have TB1 := TB0.trans (hb1.mono (by show w.heap.size ≤ v1.heap.size; omega)); have TZ1 : w.heap.size + 1 ≤ v2.heap.size := Nat.le_trans (show w.heap.size + 1 ≤ v1.heap.size by omega) hb1.size)
      )
    all_goals go_wp2_with fail
    all_goals go_ret3
    all_goals (first | exact ⟨rfl, TB1⟩ | exact ⟨rfl, SB⟩ | exact ⟨rfl, SB.drew⟩)

set_option maxHeartbeats 1000000 in
theorem apart_any (a b c n m : Int) (h1 : 1 ≤ n) (h2 : n ≤ 400) (h3 : 1 ≤ m) (h4 : m ≤ 400) (h5 : 3 ≤ b) (h6 : b ≤ 60) (w : World) :
    Calls Try.prog 32 #[.agg #[.int .i64 a, .int .i64 b, .int .i64 c], .int .i64 n, .int .i64 m] w fun e w' => e = .returned (.int .i64 (aroI b n m)) ∧ Below w.heap.size w w' := by
  by_cases g : n < m
  · have g1 : ¬ m < n := by omega
    have e1 : absI (n - m) = m - n := by unfold absI; split <;> omega
    have ht : (m - n).tmod b = (m - n) % b := Int.tmod_eq_emod_of_nonneg (by omega)
    have hz : ¬ b = 0 := by omega
    obtain ⟨q0, q1⟩ := emod_bd (x := m - n) (b := b) (by omega)
    have E : aroI b n m = leastI ((m - n) % b) (b - (m - n) % b) := by unfold aroI; rw [e1]
    obtain ⟨r, hr0⟩ : ∃ r, (m - n) % b = r := ⟨_, rfl⟩
    rw [hr0] at q0 q1 E
    rw [E]
    clear e1 E
    have hw2 : wrap64 (b - r) = b - r := IntWalk.wrap64_in _ (by omega)
    go_enter Try.func32, Try.ntmps32
    go_wp2_with fail
    go_wp2_with fail
    all_goals go_ret
    all_goals (clear hw2 ht hr0)
    all_goals exact ⟨ret_int (by unfold leastI; split <;> omega), below_alloc _ _⟩
  · by_cases g1 : m < n
    · have e1 : absI (n - m) = n - m := by unfold absI; split <;> omega
      have ht : (n - m).tmod b = (n - m) % b := Int.tmod_eq_emod_of_nonneg (by omega)
      have hz : ¬ b = 0 := by omega
      obtain ⟨q0, q1⟩ := emod_bd (x := n - m) (b := b) (by omega)
      have E : aroI b n m = leastI ((n - m) % b) (b - (n - m) % b) := by unfold aroI; rw [e1]
      obtain ⟨r, hr0⟩ : ∃ r, (n - m) % b = r := ⟨_, rfl⟩
      rw [hr0] at q0 q1 E
      rw [E]
      clear e1 E
      have hw2 : wrap64 (b - r) = b - r := IntWalk.wrap64_in _ (by omega)
      go_enter Try.func32, Try.ntmps32
      go_wp2_with fail
      go_wp2_with fail
      all_goals go_ret
      all_goals (clear hw2 ht hr0)
      all_goals exact ⟨ret_int (by unfold leastI; split <;> omega), below_alloc _ _⟩
    · obtain rfl : n = m := by omega
      rw [show aroI b n n = 0 by unfold aroI; rw [Int.sub_self, show absI 0 = 0 from rfl, Int.zero_emod]; unfold leastI; split <;> omega]
      have hz : ¬ b = 0 := by omega
      go_enter Try.func32, Try.ntmps32
      go_wp2_with fail
      go_wp2_with fail
      all_goals go_ret
      all_goals exact ⟨ret_int (by first | rfl | omega), below_alloc _ _⟩

set_option maxHeartbeats 2000000 in
theorem areOpp_any (a b c n m : Int) (h1 : 1 ≤ n) (h2 : n ≤ 400) (h3 : 1 ≤ m) (h4 : m ≤ 400) (h5 : 3 ≤ b) (h6 : b ≤ 60) (w : World) :
    Calls Try.prog 35 #[.agg #[.int .i64 a, .int .i64 b, .int .i64 c], .int .i64 n, .int .i64 m] w fun e w' => e = .returned (.bool (oppB b n m)) ∧ Below w.heap.size w w' := by
  obtain ⟨q0, q1⟩ := aro_bd (n := n) (m := m) (b := b) (by omega)
  have HR0 := opp_aro (b := b) (n := n) (m := m) (by omega)
  obtain ⟨r, hr⟩ : ∃ r, aroI b n m = r := ⟨_, rfl⟩
  rw [hr] at q0 q1 HR0
  have HA := Lib.hid hr
  have HR := Lib.hid HR0
  clear hr HR0
  have hw0 : IntKind.i64.wrap (2 * r) = 2 * r := IntWalk.i64_in _ (by omega)
  go_enter Try.func35, Try.ntmps35
  go_wp2_with fail
  have S0_0 : (w.alloc (.cells #[.int .i64 a, .int .i64 b, .int .i64 c] 27)).cell? ⟨w.heap.size, 0, none⟩ = some (.int .i64 a) := by simp
  have S0_1 : (w.alloc (.cells #[.int .i64 a, .int .i64 b, .int .i64 c] 27)).cell? ⟨w.heap.size, 1, none⟩ = some (.int .i64 b) := by simp
  have S0_2 : (w.alloc (.cells #[.int .i64 a, .int .i64 b, .int .i64 c] 27)).cell? ⟨w.heap.size, 2, none⟩ = some (.int .i64 c) := by simp
  have SB : Below w.heap.size w (w.alloc (.cells #[.int .i64 a, .int .i64 b, .int .i64 c] 27)) := below_alloc _ _
  have SZ : w.heap.size + 1 ≤ (w.alloc (.cells #[.int .i64 a, .int .i64 b, .int .i64 c] 27)).heap.size := by simp
  generalize (w.alloc (.cells #[.int .i64 a, .int .i64 b, .int .i64 c] 27)) = u at *
  go_region_held3 (fun u => u.cell? ⟨w.heap.size, 0, none⟩ = some (.int .i64 a) ∧ u.cell? ⟨w.heap.size, 1, none⟩ = some (.int .i64 b) ∧ u.cell? ⟨w.heap.size, 2, none⟩ = some (.int .i64 c) ∧ Below w.heap.size w u ∧ w.heap.size + 1 ≤ u.heap.size) (first | exact ⟨S0_0, S0_1, S0_2, SB.drew, SZ⟩ | exact ⟨S0_0, S0_1, S0_2, SB, SZ⟩ | exact ⟨T0_0_0, T0_0_1, T0_0_2, TB0, TZ0⟩)
    (first
      | (go_at_call 32; refine (apart_any a b c n m h1 h2 h3 h4 h5 h6 _).mono ?_; rintro e v1 ⟨rfl, hb0⟩; have T0_0_0 := (hb0.cell (p := ⟨w.heap.size, 0, none⟩) (by show w.heap.size < u.heap.size; omega)).trans S0_0; have T0_0_1 := (hb0.cell (p := ⟨w.heap.size, 1, none⟩) (by show w.heap.size < u.heap.size; omega)).trans S0_1; have T0_0_2 := (hb0.cell (p := ⟨w.heap.size, 2, none⟩) (by show w.heap.size < u.heap.size; omega)).trans S0_2; have TB0 := SB.drew.trans (hb0.mono (by show w.heap.size ≤ u.heap.size; omega)); have TZ0 : w.heap.size + 1 ≤ v1.heap.size := Nat.le_trans (show w.heap.size + 1 ≤ u.heap.size by omega) hb0.size; rw [HA.out])
    )
  all_goals go_wp2_with fail
  all_goals go_ret
  all_goals (first | exact ⟨ret_bool HR.out, TB0⟩ | exact ⟨ret_bool HR.out, SB⟩ | exact ⟨ret_bool HR.out, SB.drew⟩)

set_option maxHeartbeats 2000000 in
theorem spOpp_any (a b c n m : Int) (h1 : 1 ≤ n) (h2 : n ≤ 400) (h3 : 1 ≤ m) (h4 : m ≤ 400) (h5 : 3 ≤ b) (h6 : b ≤ 60) (w : World) :
    Calls Try.prog 33 #[.agg #[.int .i64 a, .int .i64 b, .int .i64 c], .int .i64 n, .int .i64 m] w fun e w' => e = .returned (.bool (oppB b n m)) ∧ Below w.heap.size w w' := by
  obtain ⟨q0, q1⟩ := emod_bd (x := absI (n - m)) (b := b) (by omega)
  have q2 : 0 ≤ absI (n - m) := by unfold absI; split <;> omega
  have ht := Int.tmod_eq_emod_of_nonneg (a := absI (n - m)) (b := b) q2
  obtain ⟨x, hx⟩ : ∃ x, absI (n - m) = x := ⟨_, rfl⟩
  rw [hx] at q0 q1 q2 ht
  obtain ⟨y, hy⟩ : ∃ y, x % b = y := ⟨_, rfl⟩
  rw [hy] at q0 q1 ht
  have HR := Lib.hid (show decide (2 * y = b) = oppB b n m by unfold oppB; rw [hx, hy])
  have HA := Lib.hid hx
  clear hx hy
  have hw0 : IntKind.i64.wrap (2 * y) = 2 * y := IntWalk.i64_in _ (by omega)
  have hw1 : IntKind.i64.wrap (n - m) = n - m := IntWalk.i64_in _ (by omega)
  have hz : ¬ b = 0 := by omega
  go_enter Try.func33, Try.ntmps33
  go_wp2_with fail
  have S0_0 : (w.alloc (.cells #[.int .i64 a, .int .i64 b, .int .i64 c] 27)).cell? ⟨w.heap.size, 0, none⟩ = some (.int .i64 a) := by simp
  have S0_1 : (w.alloc (.cells #[.int .i64 a, .int .i64 b, .int .i64 c] 27)).cell? ⟨w.heap.size, 1, none⟩ = some (.int .i64 b) := by simp
  have S0_2 : (w.alloc (.cells #[.int .i64 a, .int .i64 b, .int .i64 c] 27)).cell? ⟨w.heap.size, 2, none⟩ = some (.int .i64 c) := by simp
  have SB : Below w.heap.size w (w.alloc (.cells #[.int .i64 a, .int .i64 b, .int .i64 c] 27)) := below_alloc _ _
  have SZ : w.heap.size + 1 ≤ (w.alloc (.cells #[.int .i64 a, .int .i64 b, .int .i64 c] 27)).heap.size := by simp
  generalize (w.alloc (.cells #[.int .i64 a, .int .i64 b, .int .i64 c] 27)) = u at *
  go_region_held3 (fun u => u.cell? ⟨w.heap.size, 0, none⟩ = some (.int .i64 a) ∧ u.cell? ⟨w.heap.size, 1, none⟩ = some (.int .i64 b) ∧ u.cell? ⟨w.heap.size, 2, none⟩ = some (.int .i64 c) ∧ Below w.heap.size w u ∧ w.heap.size + 1 ≤ u.heap.size) (first | exact ⟨S0_0, S0_1, S0_2, SB.drew, SZ⟩ | exact ⟨S0_0, S0_1, S0_2, SB, SZ⟩)
    (first
      | (go_at_call 46; refine (l1Abs_any _ _ (by omega) (by omega)).mono ?_; rintro e v ⟨rfl, rfl⟩; rw [HA.out])
    )
  all_goals go_wp2_with fail
  all_goals go_ret
  all_goals (first | exact ⟨ret_bool HR.out, SB.drew⟩ | exact ⟨ret_bool HR.out, SB⟩ | exact ⟨ret_bool HR.out, SB.drew⟩)







theorem gI_comm (a b : Int) : gI a b = gI b a := by unfold gI; rw [Int.gcd_comm]




end Go.Proofs.Ytomjebelgnecfaa
