/- Sums of lists of ints, and the program's sum of a list. -/
import Derived.Test.YtcidehjamkebiaaGSpec
import Derived.Test.YtcidehjamkebiaaWK
namespace Go.Proofs.Ytcidehjamkebiaa
open Go.RowKit

/-- the sum of a list -/
def sumH : List Int → Int
  | [] => 0
  | x :: r => x + sumH r
theorem sumH_snoc (x : Int) : ∀ (xs : List Int), sumH (xs ++ [x]) = sumH xs + x
  | [] => by simp [sumH]
  | y :: r => by simp [sumH, sumH_snoc x r]; omega
theorem take_snoc (xs : List Int) (k : Nat) (h : k < xs.length) : xs.take (k + 1) = xs.take k ++ [xs.getD k 0] := by
  rw [List.take_add_one]; simp [List.getD_eq_getElem?_getD, h]
theorem sumH_take (xs : List Int) (k : Nat) (h : k < xs.length) : sumH (xs.take (k + 1)) = sumH (xs.take k) + xs.getD k 0 := by
  rw [take_snoc xs k h, sumH_snoc]
theorem sumH_bd {m : Int} (hm : 0 ≤ m) {xs : List Int} (hx : ∀ k, k < xs.length → 0 ≤ xs.getD k 0 ∧ xs.getD k 0 ≤ m) : ∀ (k : Nat), k ≤ xs.length → 0 ≤ sumH (xs.take k) ∧ sumH (xs.take k) ≤ m * k
  | 0, _ => by simp [sumH]
  | k + 1, h => by
    have := sumH_bd hm hx k (by omega)
    have h2 := hx k (by omega)
    rw [sumH_take xs k (by omega), Int.natCast_succ, Int.mul_add]
    omega

set_option maxHeartbeats 400000 in
theorem sumW_any (x : Int) (w : World) :
    Calls Try.prog 64 #[.int .i64 x] w fun e w' => e = .returned (.int .i64 x) ∧ w = w' := by
  go_enter Try.func64, Try.ntmps64
  go_wp2
  go_ret
  exact ⟨rfl, rfl⟩

set_option maxHeartbeats 400000 in
theorem sumOf_any (A : Option Addr) (n c : Nat) (xs : List Int) (B : Nat) (w : World) (hl : n = xs.length) (hr : Rd w B A c xs) (hn : xs.length ≤ 1000) (hx : ∀ k, k < xs.length → 0 ≤ xs.getD k 0 ∧ xs.getD k 0 ≤ 1000000) :
    Calls Try.prog 62 #[.slice A n c, .func (.func 64) #[] #[]] w fun e w' => e = .returned (.int .i64 (sumH xs)) ∧ w = w' := by
  subst hl
  go_enter Try.func62, Try.ntmps62
  go_wp2
  go_loop [5, 10] (fun s i => ∃ (k : Nat), k ≤ xs.length ∧ i = .int .i64 k ∧ s = .int .i64 (sumH (xs.take k))) (fun _ i => xs.length - (intOf i).toNat)
  case atStart => exact ⟨0, Nat.zero_le _, rfl, rfl⟩
  case round =>
    obtain ⟨k, hk, rfl, rfl⟩ := hrel
    have hb := sumH_bd (m := 1000000) (by omega) hx k hk
    by_cases hlt : k < xs.length
    · obtain ⟨b, o, rfl, hb0, hcell⟩ := hr.at_ hlt
      have hx1 := hx k hlt
      have E := Lib.hid (sumH_take xs k hlt)
      generalize xs.getD k 0 = x at *
      generalize sumH (xs.take k) = s at *
      go_wp2_with (go_at_call 64; refine (sumW_any _ _).mono ?_; rintro e w' ⟨rfl, rfl⟩)
      go_round
      case rel => exact ⟨k + 1, by omega, by go_num, by rw [E.out]⟩
      case measure => simp [intOf]; omega
    · obtain rfl : k = xs.length := by omega
      go_wp2
      go_ret
      exact ⟨rfl, rfl⟩

set_option maxHeartbeats 400000 in
theorem sum_any (A : Option Addr) (n c : Nat) (xs : List Int) (B : Nat) (w : World) (hl : n = xs.length) (hr : Rd w B A c xs) (hn : xs.length ≤ 1000) (hx : ∀ k, k < xs.length → 0 ≤ xs.getD k 0 ∧ xs.getD k 0 ≤ 1000000) :
    Calls Try.prog 49 #[.slice A n c] w fun e w' => e = .returned (.int .i64 (sumH xs)) ∧ w = w' := by
  subst hl
  go_enter Try.func49, Try.ntmps49
  go_wp2_with fail
  refine (sumOf_any _ _ _ xs B _ rfl hr hn hx).mono ?_
  rintro e w' ⟨rfl, rfl⟩
  go_wp2_with fail
  go_ret
  exact ⟨rfl, rfl⟩

end Go.Proofs.Ytcidehjamkebiaa
