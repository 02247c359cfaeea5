/- Contracts: spirals: angles, turns, heads, opposite steps, lamps; the model. -/
import Derived.Test.YtomjebelgnecfaaSpB
namespace Go.Proofs.Ytomjebelgnecfaa
open Go.RowKit

theorem emod_bd {x b : Int} (hb : 0 < b) : 0 ≤ x % b ∧ x % b < b := ⟨Int.emod_nonneg _ (by omega), Int.emod_lt_of_pos _ hb⟩
def headB (a b c n : Int) : Bool := stepB a b c n && !decide (a < n + b)
def lrN (n m : Int) : Int := mostI 3 ((m + n - 1) / n)
def lrB (n m : Int) : Bool := inB n 1 300 && (inB m 0 20000 && !decide (60 < lrN n m))
def twoB (a b c n m : Int) : Bool := stepB a b c n && stepB a b c m
def oppB (b n m : Int) : Bool := decide (2 * (absI (n - m) % b) = b)
def aroI (b n m : Int) : Int := leastI (absI (n - m) % b) (b - absI (n - m) % b)
def lampB (a b c m : Int) : Bool := spiB a b c && inB m 0 400
theorem abs_bd {n m A : Int} (h0 : 1 ≤ n) (h1 : n ≤ A) (h2 : 1 ≤ m) (h3 : m ≤ A) : 0 ≤ absI (n - m) ∧ absI (n - m) ≤ A := by
  unfold absI; split <;> omega

set_option maxHeartbeats 400000 in
theorem pastTurns_any (a b c n : Int) (h1 : 1 ≤ n) (h2 : n ≤ 400) (h3 : 3 ≤ b) (h4 : b ≤ 60) (w : World) :
    Calls Try.prog 56 #[.agg #[.int .i64 a, .int .i64 b, .int .i64 c], .int .i64 n] w fun e w' => e = .returned (.int .i64 ((n - 1) % b)) ∧ Below w.heap.size w w' := by
  have ht : (n - 1).tmod b = (n - 1) % b := Int.tmod_eq_emod_of_nonneg (by omega)
  have hz : ¬ b = 0 := by omega
  go_enter Try.func56, Try.ntmps56
  go_wp2_with fail
  go_wp2_with fail
  go_ret
  exact ⟨rfl, (Below.refl _ _).alloc (Nat.le_refl _) _⟩




set_option maxHeartbeats 1000000 in
theorem implHeightSpiral_any (a b c n : Int) (w : World) :
    Calls Try.prog 59 #[.agg #[.int .i64 a, .int .i64 b, .int .i64 c], .int .i64 n] w fun e w' => e = .returned (.tuple #[.int .i64 (orP (stepB a b c n) (n * c)), .bool (stepB a b c n)]) ∧ Below w.heap.size w w' := by
  cases g0 : stepB a b c n
  · have hV : stepB a b c n = false := g0
    rw [orP_no]
    clear hV
    have H0 := Lib.hid g0
    clear g0
    go_enter Try.func59, Try.ntmps59
    go_wp2_with fail
    refine (hasStep_any _ _ _ _ _).mono ?_
    rintro e w1 ⟨rfl, hb⟩
    have hs : w.heap.size + 1 ≤ w1.heap.size := by have := hb.size; (try simp at this); omega
    have c0_0 : w1.cell? ⟨w.heap.size, 0, none⟩ = some (.int .i64 a) := (hb.cell (by simp; try omega)).trans (by simp)
    have c0_1 : w1.cell? ⟨w.heap.size, 1, none⟩ = some (.int .i64 b) := (hb.cell (by simp; try omega)).trans (by simp)
    have c0_2 : w1.cell? ⟨w.heap.size, 2, none⟩ = some (.int .i64 c) := (hb.cell (by simp; try omega)).trans (by simp)
    have Bt : Below w.heap.size w w1 := ((Below.refl _ _).alloc (Nat.le_refl _) _).trans (hb.mono (by simp; try omega))
    clear hb
    rw [H0.out]
    go_wp2_with fail
    go_ret2
    exact ⟨rfl, Bt⟩
  · have b0 := stepB_le g0
    rw [orP_yes]
    obtain ⟨e0, e1⟩ := mul_bd (a := n) (A := 400) (b := c) (B := 300) (by omega) (by omega) (by omega) (by omega)
    have H0 := Lib.hid g0
    clear g0
    go_enter Try.func59, Try.ntmps59
    go_wp2_with fail
    refine (hasStep_any _ _ _ _ _).mono ?_
    rintro e w1 ⟨rfl, hb⟩
    have hs : w.heap.size + 1 ≤ w1.heap.size := by have := hb.size; (try simp at this); omega
    have c0_0 : w1.cell? ⟨w.heap.size, 0, none⟩ = some (.int .i64 a) := (hb.cell (by simp; try omega)).trans (by simp)
    have c0_1 : w1.cell? ⟨w.heap.size, 1, none⟩ = some (.int .i64 b) := (hb.cell (by simp; try omega)).trans (by simp)
    have c0_2 : w1.cell? ⟨w.heap.size, 2, none⟩ = some (.int .i64 c) := (hb.cell (by simp; try omega)).trans (by simp)
    have Bt : Below w.heap.size w w1 := ((Below.refl _ _).alloc (Nat.le_refl _) _).trans (hb.mono (by simp; try omega))
    clear hb
    rw [H0.out]
    go_wp2_with fail
    go_ret2
    exact ⟨rfl, Bt⟩





end Go.Proofs.Ytomjebelgnecfaa
