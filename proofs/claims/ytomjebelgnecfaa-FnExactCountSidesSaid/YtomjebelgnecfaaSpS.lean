/- Contracts: spirals: sides, on both sides. -/
import Derived.Test.YtomjebelgnecfaaSpL
import Derived.Laws.DeepStrings4
namespace Go.Proofs.Ytomjebelgnecfaa
open Go.RowKit

theorem side_lt {b x k : Int} (hb : 3 ≤ b) (hx : x < b) (hk : k ≤ 4) (h : b * (2 * k + 1) < 8 * x) : k ≤ 3 := by
  by_cases e : k = 4
  · subst e; omega
  · omega
/-- the side's letter, or none -/
def sidR (v : Bool) (k : Int) : ByteArray := if v then sideS k else ⟨#[]⟩
theorem sidR_no (k : Int) : sidR false k = ⟨#[]⟩ := rfl
theorem sidR_yes (k : Int) : sidR true k = sideS k := rfl
theorem side_four (b n : Int) : sideI b n = 0 ∨ sideI b n = 1 ∨ sideI b n = 2 ∨ sideI b n = 3 := by
  have := side_bd (b := b) (n := n)
  omega

set_option maxHeartbeats 2000000 in
theorem spSide_any (a b c n : Int) (h1 : 1 ≤ n) (h2 : n ≤ 400) (h3 : 3 ≤ b) (h4 : b ≤ 60) (w : World) :
    Calls Try.prog 37 #[.agg #[.int .i64 a, .int .i64 b, .int .i64 c], .int .i64 n] w fun e w' => e = .returned (.int .i64 (sideI b n)) ∧ Below w.heap.size w w' := by
  have ht : (n - 1).tmod b = (n - 1) % b := Int.tmod_eq_emod_of_nonneg (by omega)
  have hz : ¬ b = 0 := by omega
  obtain ⟨q0, q1⟩ := emod_bd (x := n - 1) (b := b) (by omega)
  obtain ⟨s, hs⟩ : ∃ s, sideI b n = s := ⟨_, rfl⟩
  have HS0 : (8 * ((n - 1) % b) + b - 1) / (2 * b) % 4 = s := hs
  rw [hs]
  obtain ⟨x, hx⟩ : ∃ x, (n - 1) % b = x := ⟨_, rfl⟩
  rw [hx] at q0 q1 HS0
  have HS := Lib.hid HS0
  clear HS0 hs
  go_enter Try.func37, Try.ntmps37
  go_wp2
  clear ht hx
  go_loop [6] (fun u => ∃ (k : Nat), u = .int .i64 k ∧ k ≤ 4 ∧ Hid ((k : Int) = 0 ∨ b * (2 * ((k : Int) - 1) + 1) < 8 * x)) (fun u => (10 - intOf u).toNat)
  case atStart => exact ⟨0, rfl, by omega, Lib.hid (.inl rfl)⟩
  case round =>
    obtain ⟨k, rfl, hk, HL⟩ := hrel
    obtain ⟨e0, e1⟩ := mul_bd (a := b) (A := 60) (b := 2 * (k : Int) + 1) (B := 9) (by omega) (by omega) (by omega) (by omega)
    by_cases hlt : b * (2 * (k : Int) + 1) < 8 * x
    · have h3' := side_lt h3 q1 (by omega) hlt
      have HN := Lib.hid (show ((k + 1 : Nat) : Int) = 0 ∨ b * (2 * (((k + 1 : Nat) : Int) - 1) + 1) < 8 * x from .inr (by rw [show (((k + 1 : Nat) : Int) - 1) = (k : Int) by omega]; exact hlt))
      go_wp2
      go_round
      case rel => exact ⟨k + 1, by go_num, by omega, HN⟩
      case measure => simp [intOf]; omega
    · have HK := side_is h3 q0 (by omega) (by omega) HL.out (by omega)
      have HR := Lib.hid (show (k : Int) % 4 = s by rw [← HS.out, HK])
      clear HK
      have hm : (k : Int).tmod 4 = (k : Int) % 4 := Int.tmod_eq_emod_of_nonneg (by omega)
      go_wp2
      go_ret
      exact ⟨ret_int HR.out, below_alloc _ _⟩

set_option maxHeartbeats 2000000 in
theorem sideOf_any (a b c n : Int) (h1 : 1 ≤ n) (h2 : n ≤ 400) (h3 : 3 ≤ b) (h4 : b ≤ 60) (w : World) :
    Calls Try.prog 41 #[.agg #[.int .i64 a, .int .i64 b, .int .i64 c], .int .i64 n] w fun e w' => e = .returned (.string (sideS (sideI b n))) ∧ Below w.heap.size w w' := by
  have hz : ¬ 2 * b = 0 := by omega
  obtain ⟨q0, q1⟩ := emod_bd (x := n - 1) (b := b) (by omega)
  obtain ⟨x, hx⟩ : ∃ x, (n - 1) % b = x := ⟨_, rfl⟩
  have hS : sideI b n = (8 * x + b - 1) / (2 * b) % 4 := by unfold sideI; rw [hx]
  rw [hx] at q0 q1
  have HA := Lib.hid hx
  clear hx
  have ht0 : (8 * x + b - 1).tdiv (2 * b) = (8 * x + b - 1) / (2 * b) := Int.tdiv_eq_ediv_of_nonneg (by omega)
  have p0 : 0 ≤ (8 * x + b - 1) / (2 * b) := Int.ediv_nonneg (by omega) (by omega)
  have p1 : (8 * x + b - 1) / (2 * b) ≤ 8 * x + b - 1 := Int.ediv_le_self _ (by omega)
  obtain ⟨q, hq⟩ : ∃ q, (8 * x + b - 1) / (2 * b) = q := ⟨_, rfl⟩
  rw [hq] at ht0 p0 p1 hS
  clear hq
  have ht1 : q.tmod 4 = q % 4 := Int.tmod_eq_emod_of_nonneg p0
  rw [← hS] at ht1
  clear hS
  have hw0 : IntKind.i64.wrap (8 * x) = 8 * x := IntWalk.i64_in _ (by omega)
  have hw1 : IntKind.i64.wrap (8 * x + b) = 8 * x + b := IntWalk.i64_in _ (by omega)
  have hw2 : IntKind.i64.wrap (8 * x + b - 1) = 8 * x + b - 1 := IntWalk.i64_in _ (by omega)
  have hw3 : IntKind.i64.wrap (2 * b) = 2 * b := IntWalk.i64_in _ (by omega)
  have hw4 : IntKind.i64.wrap q = q := IntWalk.i64_in _ (by omega)
  rcases side_four b n with hk | hk | hk | hk
  · rw [hk] at ht1 ⊢
    clear hk
    go_enter Try.func41, Try.ntmps41
    go_wp2_with fail
    have S0_0 : (w.alloc (.cells #[.int .i64 a, .int .i64 b, .int .i64 c] 27)).cell? ⟨w.heap.size, 0, none⟩ = some (.int .i64 a) := by simp
    have S0_1 : (w.alloc (.cells #[.int .i64 a, .int .i64 b, .int .i64 c] 27)).cell? ⟨w.heap.size, 1, none⟩ = some (.int .i64 b) := by simp
    have S0_2 : (w.alloc (.cells #[.int .i64 a, .int .i64 b, .int .i64 c] 27)).cell? ⟨w.heap.size, 2, none⟩ = some (.int .i64 c) := by simp
    have SB : Below w.heap.size w (w.alloc (.cells #[.int .i64 a, .int .i64 b, .int .i64 c] 27)) := below_alloc _ _
    have SZ : w.heap.size + 1 ≤ (w.alloc (.cells #[.int .i64 a, .int .i64 b, .int .i64 c] 27)).heap.size := by simp
    generalize (w.alloc (.cells #[.int .i64 a, .int .i64 b, .int .i64 c] 27)) = u at *
    go_region_held3 (fun u => u.cell? ⟨w.heap.size, 0, none⟩ = some (.int .i64 a) ∧ u.cell? ⟨w.heap.size, 1, none⟩ = some (.int .i64 b) ∧ u.cell? ⟨w.heap.size, 2, none⟩ = some (.int .i64 c) ∧ Below w.heap.size w u ∧ w.heap.size + 1 ≤ u.heap.size) (first | exact ⟨S0_0, S0_1, S0_2, SB.drew, SZ⟩ | exact ⟨S0_0, S0_1, S0_2, SB, SZ⟩ | exact ⟨T0_0_0, T0_0_1, T0_0_2, TB0, TZ0⟩)
      (first
        | (go_at_call 56; refine (pastTurns_any a b c n (by omega) (by omega) (by omega) (by omega) _).mono ?_; rintro e v1 ⟨rfl, hb0⟩; have T0_0_0 := (hb0.cell (p := ⟨w.heap.size, 0, none⟩) (by show w.heap.size < u.heap.size; omega)).trans S0_0; have T0_0_1 := (hb0.cell (p := ⟨w.heap.size, 1, none⟩) (by show w.heap.size < u.heap.size; omega)).trans S0_1; have T0_0_2 := (hb0.cell (p := ⟨w.heap.size, 2, none⟩) (by show w.heap.size < u.heap.size; omega)).trans S0_2; have TB0 := SB.drew.trans (hb0.mono (by show w.heap.size ≤ u.heap.size; omega)); have TZ0 : w.heap.size + 1 ≤ v1.heap.size := Nat.le_trans (show w.heap.size + 1 ≤ u.heap.size by omega) hb0.size; rw [HA.out])
      )
    all_goals go_wp2_with fail
    all_goals go_ret
    all_goals (first | exact ⟨rfl, TB0⟩ | exact ⟨rfl, SB⟩ | exact ⟨rfl, SB.drew⟩)
  · rw [hk] at ht1 ⊢
    clear hk
    go_enter Try.func41, Try.ntmps41
    go_wp2_with fail
    have S0_0 : (w.alloc (.cells #[.int .i64 a, .int .i64 b, .int .i64 c] 27)).cell? ⟨w.heap.size, 0, none⟩ = some (.int .i64 a) := by simp
    have S0_1 : (w.alloc (.cells #[.int .i64 a, .int .i64 b, .int .i64 c] 27)).cell? ⟨w.heap.size, 1, none⟩ = some (.int .i64 b) := by simp
    have S0_2 : (w.alloc (.cells #[.int .i64 a, .int .i64 b, .int .i64 c] 27)).cell? ⟨w.heap.size, 2, none⟩ = some (.int .i64 c) := by simp
    have SB : Below w.heap.size w (w.alloc (.cells #[.int .i64 a, .int .i64 b, .int .i64 c] 27)) := below_alloc _ _
    have SZ : w.heap.size + 1 ≤ (w.alloc (.cells #[.int .i64 a, .int .i64 b, .int .i64 c] 27)).heap.size := by simp
    generalize (w.alloc (.cells #[.int .i64 a, .int .i64 b, .int .i64 c] 27)) = u at *
    go_region_held3 (fun u => u.cell? ⟨w.heap.size, 0, none⟩ = some (.int .i64 a) ∧ u.cell? ⟨w.heap.size, 1, none⟩ = some (.int .i64 b) ∧ u.cell? ⟨w.heap.size, 2, none⟩ = some (.int .i64 c) ∧ Below w.heap.size w u ∧ w.heap.size + 1 ≤ u.heap.size) (first | exact ⟨S0_0, S0_1, S0_2, SB.drew, SZ⟩ | exact ⟨S0_0, S0_1, S0_2, SB, SZ⟩ | exact ⟨T0_0_0, T0_0_1, T0_0_2, TB0, TZ0⟩)
      (first
        | (go_at_call 56; refine (pastTurns_any a b c n (by omega) (by omega) (by omega) (by omega) _).mono ?_; rintro e v1 ⟨rfl, hb0⟩; have T0_0_0 := (hb0.cell (p := ⟨w.heap.size, 0, none⟩) (by show w.heap.size < u.heap.size; omega)).trans S0_0; have T0_0_1 := (hb0.cell (p := ⟨w.heap.size, 1, none⟩) (by show w.heap.size < u.heap.size; omega)).trans S0_1; have T0_0_2 := (hb0.cell (p := ⟨w.heap.size, 2, none⟩) (by show w.heap.size < u.heap.size; omega)).trans S0_2; have TB0 := SB.drew.trans (hb0.mono (by show w.heap.size ≤ u.heap.size; omega)); have TZ0 : w.heap.size + 1 ≤ v1.heap.size := Nat.le_trans (show w.heap.size + 1 ≤ u.heap.size by omega) hb0.size; rw [HA.out])
      )
    all_goals go_wp2_with fail
    all_goals go_ret
    all_goals (first | exact ⟨rfl, TB0⟩ | exact ⟨rfl, SB⟩ | exact ⟨rfl, SB.drew⟩)
  · rw [hk] at ht1 ⊢
    clear hk
    go_enter Try.func41, Try.ntmps41
    go_wp2_with fail
    have S0_0 : (w.alloc (.cells #[.int .i64 a, .int .i64 b, .int .i64 c] 27)).cell? ⟨w.heap.size, 0, none⟩ = some (.int .i64 a) := by simp
    have S0_1 : (w.alloc (.cells #[.int .i64 a, .int .i64 b, .int .i64 c] 27)).cell? ⟨w.heap.size, 1, none⟩ = some (.int .i64 b) := by simp
    have S0_2 : (w.alloc (.cells #[.int .i64 a, .int .i64 b, .int .i64 c] 27)).cell? ⟨w.heap.size, 2, none⟩ = some (.int .i64 c) := by simp
    have SB : Below w.heap.size w (w.alloc (.cells #[.int .i64 a, .int .i64 b, .int .i64 c] 27)) := below_alloc _ _
    have SZ : w.heap.size + 1 ≤ (w.alloc (.cells #[.int .i64 a, .int .i64 b, .int .i64 c] 27)).heap.size := by simp
    generalize (w.alloc (.cells #[.int .i64 a, .int .i64 b, .int .i64 c] 27)) = u at *
    go_region_held3 (fun u => u.cell? ⟨w.heap.size, 0, none⟩ = some (.int .i64 a) ∧ u.cell? ⟨w.heap.size, 1, none⟩ = some (.int .i64 b) ∧ u.cell? ⟨w.heap.size, 2, none⟩ = some (.int .i64 c) ∧ Below w.heap.size w u ∧ w.heap.size + 1 ≤ u.heap.size) (first | exact ⟨S0_0, S0_1, S0_2, SB.drew, SZ⟩ | exact ⟨S0_0, S0_1, S0_2, SB, SZ⟩ | exact ⟨T0_0_0, T0_0_1, T0_0_2, TB0, TZ0⟩)
      (first
        | (go_at_call 56; refine (pastTurns_any a b c n (by omega) (by omega) (by omega) (by omega) _).mono ?_; rintro e v1 ⟨rfl, hb0⟩; have T0_0_0 := (hb0.cell (p := ⟨w.heap.size, 0, none⟩) (by show w.heap.size < u.heap.size; omega)).trans S0_0; have T0_0_1 := (hb0.cell (p := ⟨w.heap.size, 1, none⟩) (by show w.heap.size < u.heap.size; omega)).trans S0_1; have T0_0_2 := (hb0.cell (p := ⟨w.heap.size, 2, none⟩) (by show w.heap.size < u.heap.size; omega)).trans S0_2; have TB0 := SB.drew.trans (hb0.mono (by show w.heap.size ≤ u.heap.size; omega)); have TZ0 : w.heap.size + 1 ≤ v1.heap.size := Nat.le_trans (show w.heap.size + 1 ≤ u.heap.size by omega) hb0.size; rw [HA.out])
      )
    all_goals go_wp2_with fail
    all_goals go_ret
    all_goals (first | exact ⟨rfl, TB0⟩ | exact ⟨rfl, SB⟩ | exact ⟨rfl, SB.drew⟩)
  · rw [hk] at ht1 ⊢
    clear hk
    go_enter Try.func41, Try.ntmps41
    go_wp2_with fail
    have S0_0 : (w.alloc (.cells #[.int .i64 a, .int .i64 b, .int .i64 c] 27)).cell? ⟨w.heap.size, 0, none⟩ = some (.int .i64 a) := by simp
    have S0_1 : (w.alloc (.cells #[.int .i64 a, .int .i64 b, .int .i64 c] 27)).cell? ⟨w.heap.size, 1, none⟩ = some (.int .i64 b) := by simp
    have S0_2 : (w.alloc (.cells #[.int .i64 a, .int .i64 b, .int .i64 c] 27)).cell? ⟨w.heap.size, 2, none⟩ = some (.int .i64 c) := by simp
    have SB : Below w.heap.size w (w.alloc (.cells #[.int .i64 a, .int .i64 b, .int .i64 c] 27)) := below_alloc _ _
    have SZ : w.heap.size + 1 ≤ (w.alloc (.cells #[.int .i64 a, .int .i64 b, .int .i64 c] 27)).heap.size := by simp
    generalize (w.alloc (.cells #[.int .i64 a, .int .i64 b, .int .i64 c] 27)) = u at *
    go_region_held3 (fun u => u.cell? ⟨w.heap.size, 0, none⟩ = some (.int .i64 a) ∧ u.cell? ⟨w.heap.size, 1, none⟩ = some (.int .i64 b) ∧ u.cell? ⟨w.heap.size, 2, none⟩ = some (.int .i64 c) ∧ Below w.heap.size w u ∧ w.heap.size + 1 ≤ u.heap.size) (first | exact ⟨S0_0, S0_1, S0_2, SB.drew, SZ⟩ | exact ⟨S0_0, S0_1, S0_2, SB, SZ⟩ | exact ⟨T0_0_0, T0_0_1, T0_0_2, TB0, TZ0⟩)
      (first
        | (go_at_call 56; refine (pastTurns_any a b c n (by omega) (by omega) (by omega) (by omega) _).mono ?_; rintro e v1 ⟨rfl, hb0⟩; have T0_0_0 := (hb0.cell (p := ⟨w.heap.size, 0, none⟩) (by show w.heap.size < u.heap.size; omega)).trans S0_0; have T0_0_1 := (hb0.cell (p := ⟨w.heap.size, 1, none⟩) (by show w.heap.size < u.heap.size; omega)).trans S0_1; have T0_0_2 := (hb0.cell (p := ⟨w.heap.size, 2, none⟩) (by show w.heap.size < u.heap.size; omega)).trans S0_2; have TB0 := SB.drew.trans (hb0.mono (by show w.heap.size ≤ u.heap.size; omega)); have TZ0 : w.heap.size + 1 ≤ v1.heap.size := Nat.le_trans (show w.heap.size + 1 ≤ u.heap.size by omega) hb0.size; rw [HA.out])
      )
    all_goals go_wp2_with fail
    all_goals go_ret
    all_goals (first | exact ⟨rfl, TB0⟩ | exact ⟨rfl, SB⟩ | exact ⟨rfl, SB.drew⟩)




end Go.Proofs.Ytomjebelgnecfaa
