/- Contracts: sums of steps, and floors between, on both sides. -/
import Derived.Test.YtmamcjnehnknmaaHoGood
import Derived.Test.YtmamcjnehnknmaaGApp
namespace Go.Proofs.Ytmamcjnehnknmaa
open Go.RowKit

/-- the sum of a list -/
def sumH : List Int → Int
  | [] => 0
  | x :: r => x + sumH r
theorem sumH_snoc (x : Int) : ∀ (xs : List Int), sumH (xs ++ [x]) = sumH xs + x
  | [] => by simp [sumH]
  | y :: r => by simp [sumH, sumH_snoc x r]; omega
theorem sumH_app : ∀ (xs ys : List Int), sumH (xs ++ ys) = sumH xs + sumH ys
  | [], ys => by simp [sumH]
  | y :: r, ys => by simp [sumH, sumH_app r ys]; omega
theorem take_snoc (xs : List Int) (k : Nat) (h : k < xs.length) : xs.take (k + 1) = xs.take k ++ [xs.getD k 0] := by
  rw [List.take_add_one]; simp [List.getD_eq_getElem?_getD, h]
theorem sumH_take (xs : List Int) (k : Nat) (h : k < xs.length) : sumH (xs.take (k + 1)) = sumH (xs.take k) + xs.getD k 0 := by
  rw [take_snoc xs k h, sumH_snoc]
theorem sumH_bd {m : Int} (hm : 0 ≤ m) {xs : List Int} (hx : ∀ k, k < xs.length → 0 ≤ xs.getD k 0 ∧ xs.getD k 0 ≤ m) : ∀ (k : Nat), k ≤ xs.length → 0 ≤ sumH (xs.take k) ∧ sumH (xs.take k) ≤ m * k
  | 0, _ => by simp [sumH]
  | k + 1, h => by
    have := sumH_bd hm hx k (by omega)
    have h2 := hx k (by omega)
    rw [sumH_take xs k (by omega), Int.natCast_succ, Int.mul_add]
    omega
theorem sumH_part (xs : List Int) {a b : Nat} (h : a ≤ b) : sumH ((xs.take b).drop a) = sumH (xs.take b) - sumH (xs.take a) := by
  have e : xs.take b = xs.take a ++ (xs.take b).drop a := by
    conv => lhs; rw [← List.take_append_drop a (xs.take b)]
    rw [List.take_take, Nat.min_eq_left h]
  have := sumH_app (xs.take a) ((xs.take b).drop a)
  rw [← e] at this
  omega

set_option maxHeartbeats 400000 in
theorem ldSum_any (A : Option Addr) (n c : Nat) (xs : List Int) (B : Nat) (w : World) (hl : n = xs.length) (hr : Rd w B A c xs) (hn : xs.length ≤ 1000) (hx : ∀ k, k < xs.length → 0 ≤ xs.getD k 0 ∧ xs.getD k 0 ≤ 1000) :
    Calls Try.prog 63 #[.slice A n c] w fun e w' => e = .returned (.int .i64 (sumH xs)) ∧ w = w' := by
  subst hl
  go_enter Try.func63, Try.ntmps63
  go_wp2
  go_loop [3, 8] (fun s i => ∃ (k : Nat), k ≤ xs.length ∧ i = .int .i64 k ∧ s = .int .i64 (sumH (xs.take k))) (fun _ i => xs.length - (intOf i).toNat)
  case atStart => exact ⟨0, Nat.zero_le _, rfl, rfl⟩
  case round =>
    obtain ⟨k, hk, rfl, rfl⟩ := hrel
    have hb := sumH_bd (m := 1000) (by omega) hx k hk
    by_cases hlt : k < xs.length
    · obtain ⟨b, o, rfl, hb0, hcell⟩ := hr.at_ hlt
      have hx1 := hx k hlt
      have E := Lib.hid (sumH_take xs k hlt)
      generalize xs.getD k 0 = x at *
      generalize sumH (xs.take k) = s at *
      go_wp2
      go_round
      case rel => exact ⟨k + 1, by omega, by go_num, by rw [E.out]⟩
      case measure => simp [intOf]; omega
    · obtain rfl : k = xs.length := by omega
      go_wp2
      go_ret
      exact ⟨rfl, rfl⟩

set_option maxHeartbeats 400000 in
theorem sumW_any (x : Int) (w : World) :
    Calls Try.prog 80 #[.int .i64 x] w fun e w' => e = .returned (.int .i64 x) ∧ w = w' := by
  go_enter Try.func80, Try.ntmps80
  go_wp2
  go_ret
  exact ⟨rfl, rfl⟩

set_option maxHeartbeats 400000 in
theorem sumOf_any (A : Option Addr) (n c : Nat) (xs : List Int) (B : Nat) (w : World) (hl : n = xs.length) (hr : Rd w B A c xs) (hn : xs.length ≤ 1000) (hx : ∀ k, k < xs.length → 0 ≤ xs.getD k 0 ∧ xs.getD k 0 ≤ 1000) :
    Calls Try.prog 71 #[.slice A n c, .func (.func 80) #[] #[]] w fun e w' => e = .returned (.int .i64 (sumH xs)) ∧ w = w' := by
  subst hl
  go_enter Try.func71, Try.ntmps71
  go_wp2
  go_loop [5, 10] (fun s i => ∃ (k : Nat), k ≤ xs.length ∧ i = .int .i64 k ∧ s = .int .i64 (sumH (xs.take k))) (fun _ i => xs.length - (intOf i).toNat)
  case atStart => exact ⟨0, Nat.zero_le _, rfl, rfl⟩
  case round =>
    obtain ⟨k, hk, rfl, rfl⟩ := hrel
    have hb := sumH_bd (m := 1000) (by omega) hx k hk
    by_cases hlt : k < xs.length
    · obtain ⟨b, o, rfl, hb0, hcell⟩ := hr.at_ hlt
      have hx1 := hx k hlt
      have E := Lib.hid (sumH_take xs k hlt)
      generalize xs.getD k 0 = x at *
      generalize sumH (xs.take k) = s at *
      go_wp2_with (go_at_call 80; refine (sumW_any _ _).mono ?_; rintro e w' ⟨rfl, rfl⟩)
      go_round
      case rel => exact ⟨k + 1, by omega, by go_num, by rw [E.out]⟩
      case measure => simp [intOf]; omega
    · obtain rfl : k = xs.length := by omega
      go_wp2
      go_ret
      exact ⟨rfl, rfl⟩

set_option maxHeartbeats 400000 in
theorem sum_any (A : Option Addr) (n c : Nat) (xs : List Int) (B : Nat) (w : World) (hl : n = xs.length) (hr : Rd w B A c xs) (hn : xs.length ≤ 1000) (hx : ∀ k, k < xs.length → 0 ≤ xs.getD k 0 ∧ xs.getD k 0 ≤ 1000) :
    Calls Try.prog 67 #[.slice A n c] w fun e w' => e = .returned (.int .i64 (sumH xs)) ∧ w = w' := by
  subst hl
  go_enter Try.func67, Try.ntmps67
  go_wp2_with fail
  refine (sumOf_any _ _ _ xs B _ rfl hr hn hx).mono ?_
  rintro e w' ⟨rfl, rfl⟩
  go_wp2_with fail
  go_ret
  exact ⟨rfl, rfl⟩

theorem GoodH.s {ss bs : List Int} (G : GoodH ss bs) : ∀ k, k < ss.length → 0 ≤ ss.getD k 0 ∧ ss.getD k 0 ≤ 1000 := fun k hk => by have := G.hs k hk; omega
theorem GoodH.d {ss bs : List Int} (G : GoodH ss bs) : ∀ k, k < bs.length → 0 ≤ bs.getD k 0 ∧ bs.getD k 0 ≤ 1000 := fun k hk => by have := G.hb k hk; omega
theorem getD_take {xs : List Int} {j k : Nat} (h : k < j) : (xs.take j).getD k 0 = xs.getD k 0 := by simp [List.getD_eq_getElem?_getD, h]
theorem take_bd {xs : List Int} {m : Int} (h : ∀ k, k < xs.length → 0 ≤ xs.getD k 0 ∧ xs.getD k 0 ≤ m) (j : Nat) : ∀ k, k < (xs.take j).length → 0 ≤ (xs.take j).getD k 0 ∧ (xs.take j).getD k 0 ≤ m := fun k hk => by
  simp at hk
  rw [getD_take (by omega)]
  exact h k (by omega)
theorem part_bd {xs : List Int} {m : Int} (h : ∀ k, k < xs.length → 0 ≤ xs.getD k 0 ∧ xs.getD k 0 ≤ m) (j i : Nat) : ∀ k, k < ((xs.take j).drop i).length → 0 ≤ ((xs.take j).drop i).getD k 0 ∧ ((xs.take j).drop i).getD k 0 ≤ m := fun k hk => by
  simp at hk
  have := take_bd h j (i + k) (by simp; omega)
  simpa [List.getD_eq_getElem?_getD] using this

/-- steps up to a floor -/
def upTo (ss : List Int) (k : Nat) : Int := sumH (ss.take k)
theorem GoodH.up {ss bs : List Int} (G : GoodH ss bs) {k : Nat} (h : k ≤ ss.length) : 0 ≤ upTo ss k ∧ upTo ss k ≤ 440 := by
  have := sumH_bd (m := 40) (by omega) (fun k hk => by have := G.hs k hk; omega) k h
  have := G.n1
  unfold upTo
  omega

set_option maxHeartbeats 400000 in
theorem ldTo_any (A A' : Option Addr) (c c' : Nat) (ss bs : List Int) (k : Nat) (B : Nat) (w : World) (h : Ho w B A A' c c' ss bs) (hB : B ≤ w.heap.size) (G : GoodH ss bs) (hk : k ≤ ss.length) :
    Calls Try.prog 65 #[.agg #[.slice A ss.length c, .slice A' bs.length c'], .int .i64 k] w (Plain (.int .i64 (upTo ss k)) w) := by
  have h1 := h.alloc hB (.cells #[.slice A ss.length c, .slice A' bs.length c'] 26)
  have hc := h.rs.1
  have hns := h.ns
  have hn1 := G.n1
  go_enter Try.func65, Try.ntmps65
  go_wp2_with fail
  refine (ldSum_any _ _ _ (ss.take k) B _ (by simp; omega) (h1.rs.take hk) (by simp; omega) (take_bd G.s k)).mono ?_
  rintro e w' ⟨rfl, rfl⟩
  go_wp2_with fail
  go_ret
  exact ⟨rfl, below_alloc _ _⟩

end Go.Proofs.Ytmamcjnehnknmaa
