/- Contracts: bears that are valid, on both sides. -/
import Derived.Test.YtniiiimjgamibaaGSpec
namespace Go.Proofs.Ytniiiimjgamibaa
open Go.RowKit

/-- all numbers of a list are within bounds -/
def allB (lo hi : Int) : List Int → Bool
  | [] => true
  | x :: r => inB x lo hi && allB lo hi r
theorem allB_go (lo hi : Int) (xs : List Int) (k : Nat) (h : k < xs.length) : allB lo hi (xs.drop k) = (inB (xs.getD k 0) lo hi && allB lo hi (xs.drop (k + 1))) := by
  rw [drop_at xs k h]; rfl
theorem allB_end (lo hi : Int) (xs : List Int) (k : Nat) (h : ¬ k < xs.length) : allB lo hi (xs.drop k) = true := by
  rw [List.drop_eq_nil_of_le (by omega)]; rfl
theorem all_step {C L : Bool} {a : Bool} {b : Bool} (H : C = a) (E : a = (b && L)) (h : b = true) : C = L := by rw [H, E, h]; rfl
theorem all_no {C L : Bool} {a : Bool} {b : Bool} (H : C = a) (E : a = (b && L)) (h : b = false) : false = C := by rw [H, E, h]; rfl

set_option maxHeartbeats 400000 in
theorem l1All_any (A : Option Addr) (c : Nat) (xs : List Int) (lo hi : Int) (B : Nat) (w : World) (hr : Rd w B A c xs) (hn : xs.length ≤ 1048576) :
    Calls Try.prog 26 #[.slice A xs.length c, .int .i64 lo, .int .i64 hi] w fun e w' => e = .returned (.bool (allB lo hi xs)) ∧ w = w' := by
  go_enter Try.func26, Try.ntmps26
  go_wp2
  go_loop [11] (fun i => ∃ (k : Nat), k ≤ xs.length ∧ i = .int .i64 k ∧ Hid (allB lo hi xs = allB lo hi (xs.drop k))) (fun i => xs.length - (intOf i).toNat)
  case atStart => exact ⟨0, Nat.zero_le _, rfl, by simp [Hid]⟩
  case round =>
    obtain ⟨k, hk, rfl, H⟩ := hrel
    by_cases hlt : k < xs.length
    · obtain ⟨b, o, rfl, hb, hcell⟩ := hr.at_ hlt
      have E := Lib.hid (allB_go lo hi xs k hlt)
      generalize xs.getD k 0 = x at *
      cases h1 : inB x lo hi
      · have H1 := Lib.hid h1
        go_wp2_with (go_at_call 22; refine (l1In_any _ _ _ _).mono ?_; rintro e w' ⟨rfl, rfl⟩)
        go_ret
        exact ⟨ret_bool (all_no H.out E.out H1.out), rfl⟩
      · have H1 := Lib.hid h1
        go_wp2_with (go_at_call 22; refine (l1In_any _ _ _ _).mono ?_; rintro e w' ⟨rfl, rfl⟩)
        go_round
        case rel => exact ⟨k + 1, by omega, by go_num, all_step H.out E.out H1.out⟩
        case measure => simp [intOf]; omega
    · go_wp2
      go_ret
      exact ⟨ret_bool (by rw [H.out, allB_end _ _ _ _ hlt]), rfl⟩

def bearsB (xs : List Int) : Bool := inB xs.length 1 20 && allB 0 100 xs
theorem bearsB_no {xs : List Int} (h : inB xs.length 1 20 = false) : bearsB xs = false := by simp [bearsB, h]
theorem bearsB_yes {xs : List Int} (h : inB xs.length 1 20 = true) : bearsB xs = allB 0 100 xs := by simp [bearsB, h]

set_option maxHeartbeats 400000 in
theorem weGood_any (A : Option Addr) (c : Nat) (xs : List Int) (B : Nat) (w : World) (hr : Rd w B A c xs) (hn : xs.length ≤ 1048576) :
    Calls Try.prog 21 #[.slice A xs.length c] w fun e w' => e = .returned (.bool (bearsB xs)) ∧ w = w' := by
  cases h : inB xs.length 1 20
  · rw [bearsB_no h]
    go_enter Try.func21, Try.ntmps21
    go_wp2_with fail
    refine (l1In_any _ _ _ _).mono ?_
    rintro e w' ⟨rfl, rfl⟩
    go_wp2_with fail
    go_ret
    exact ⟨rfl, rfl⟩
  · rw [bearsB_yes h]
    go_enter Try.func21, Try.ntmps21
    go_wp2_with fail
    refine (l1In_any _ _ _ _).mono ?_
    rintro e w' ⟨rfl, rfl⟩
    go_wp2_with fail
    refine (l1All_any _ _ _ _ _ _ _ hr hn).mono ?_
    rintro e w' ⟨rfl, rfl⟩
    go_wp2_with fail
    go_ret
    exact ⟨rfl, rfl⟩

set_option maxHeartbeats 400000 in
theorem impBears_any (A : Option Addr) (c : Nat) (xs : List Int) (B : Nat) (w : World) (hr : Rd w B A c xs) (hn : xs.length ≤ 1048576) :
    Calls Try.prog 24 #[.slice A xs.length c] w fun e w' => e = .returned (.bool (bearsB xs)) ∧ w = w' := by
  by_cases h1 : 1 ≤ xs.length
  · by_cases h2 : xs.length ≤ 20
    · rw [bearsB_yes (inB_yes (by omega) (by omega))]
      go_enter Try.func24, Try.ntmps24
      go_wp2
      go_loop [15] (fun i => ∃ (k : Nat), k ≤ xs.length ∧ i = .int .i64 k ∧ Hid (allB 0 100 xs = allB 0 100 (xs.drop k))) (fun i => xs.length - (intOf i).toNat)
      case atStart => exact ⟨0, Nat.zero_le _, rfl, by simp [Hid]⟩
      case round =>
        obtain ⟨k, hk, rfl, H⟩ := hrel
        by_cases hlt : k < xs.length
        · obtain ⟨b, o, rfl, hb, hcell⟩ := hr.at_ hlt
          have E := Lib.hid (allB_go 0 100 xs k hlt)
          generalize xs.getD k 0 = x at *
          by_cases g1 : 0 ≤ x
          · by_cases g2 : x ≤ 100
            · go_wp2
              go_round
              case rel => exact ⟨k + 1, by omega, by go_num, all_step H.out E.out (inB_yes g1 g2)⟩
              case measure => simp [intOf]; omega
            · go_wp2
              go_ret
              exact ⟨ret_bool (all_no H.out E.out (inB_no (by omega))), rfl⟩
          · go_wp2
            go_ret
            exact ⟨ret_bool (all_no H.out E.out (inB_no (by omega))), rfl⟩
        · go_wp2
          go_ret
          exact ⟨ret_bool (by rw [H.out, allB_end _ _ _ _ hlt]), rfl⟩
    · rw [bearsB_no (inB_no (by omega))]
      go_enter Try.func24, Try.ntmps24
      go_wp2
      go_ret
      exact ⟨rfl, rfl⟩
  · rw [bearsB_no (inB_no (by omega))]
    go_enter Try.func24, Try.ntmps24
    go_wp2
    go_ret
    exact ⟨rfl, rfl⟩


theorem plain_same {f : FuncId} {args : Array Value} {w : World} {V : Value} (h : Calls Try.prog f args w fun e w' => e = .returned V ∧ w = w') : Calls Try.prog f args w (Plain V w) :=
  h.mono fun _ _ ⟨he, hw⟩ => ⟨he, by subst hw; exact Below.refl _ _⟩

end Go.Proofs.Ytniiiimjgamibaa
