/- Contracts: numbers within bounds, on both sides. -/
import Derived.Test.YtiacfaeanlkalaaGSpec
namespace Go.Proofs.Ytiacfaeanlkalaa
set_option maxRecDepth 100000
open Go.RowKit

set_option maxHeartbeats 400000 in
theorem isWithin_any (n lo hi : Int) (w : World) :
    Calls Try.prog 48 #[.int .i64 n, .int .i64 lo, .int .i64 hi] w fun e w' => e = .returned (.bool (inB n lo hi)) ∧ w = w' := by
  by_cases h1 : lo ≤ n
  · by_cases h2 : n ≤ hi
    · rw [inB_yes h1 h2]
      go_enter Try.func48, Try.ntmps48
      go_wp2
      go_ret
      exact ⟨rfl, rfl⟩
    · rw [inB_no (.inr (by omega))]
      go_enter Try.func48, Try.ntmps48
      go_wp2
      go_ret
      exact ⟨rfl, rfl⟩
  · rw [inB_no (.inl (by omega))]
    go_enter Try.func48, Try.ntmps48
    go_wp2
    go_ret
    exact ⟨rfl, rfl⟩

/-- all numbers of a list are within bounds -/
def allB (lo hi : Int) : List Int → Bool
  | [] => true
  | x :: r => inB x lo hi && allB lo hi r
theorem allB_go (lo hi : Int) (xs : List Int) (k : Nat) (h : k < xs.length) : allB lo hi (xs.drop k) = (inB (xs.getD k 0) lo hi && allB lo hi (xs.drop (k + 1))) := by
  rw [drop_at xs k h]; rfl
theorem allB_end (lo hi : Int) (xs : List Int) (k : Nat) (h : ¬ k < xs.length) : allB lo hi (xs.drop k) = true := by
  rw [List.drop_eq_nil_of_le (by omega)]; rfl
theorem all_step {C L : Bool} {a : Bool} {b : Bool} (H : C = a) (E : a = (b && L)) (h : b = true) : C = L := by rw [H, E, h]; rfl
theorem all_no {C L : Bool} {a : Bool} {b : Bool} (H : C = a) (E : a = (b && L)) (h : b = false) : false = C := by rw [H, E, h]; rfl
theorem allB_at {lo hi : Int} : ∀ {xs : List Int} {k : Nat}, allB lo hi xs = true → k < xs.length → lo ≤ xs.getD k 0 ∧ xs.getD k 0 ≤ hi
  | [], k, _, hk => absurd hk (by simp)
  | x :: r, 0, h, _ => by
    simp only [allB, Bool.and_eq_true] at h
    exact inB_le h.1
  | x :: r, k + 1, h, hk => by
    simp only [allB, Bool.and_eq_true] at h
    simpa using allB_at h.2 (by simpa using hk)

set_option maxHeartbeats 400000 in
theorem l1All_any (A : Option Addr) (c : Nat) (xs : List Int) (lo hi : Int) (B : Nat) (w : World) (hr : Rd w B A c xs) (hn : xs.length ≤ 1048576) :
    Calls Try.prog 64 #[.slice A xs.length c, .int .i64 lo, .int .i64 hi] w fun e w' => e = .returned (.bool (allB lo hi xs)) ∧ w = w' := by
  go_enter Try.func64, Try.ntmps64
  go_wp2
  go_loop [11] (fun i => ∃ (k : Nat), k ≤ xs.length ∧ i = .int .i64 k ∧ Hid (allB lo hi xs = allB lo hi (xs.drop k))) (fun i => xs.length - (intOf i).toNat)
  case atStart => exact ⟨0, Nat.zero_le _, rfl, by simp [Hid]⟩
  case round =>
    obtain ⟨k, hk, rfl, H⟩ := hrel
    by_cases hlt : k < xs.length
    · obtain ⟨b, o, rfl, hb, hcell⟩ := hr.at_ hlt
      have E := Lib.hid (allB_go lo hi xs k hlt)
      generalize xs.getD k 0 = x at *
      cases h1 : inB x lo hi
      · have H1 := Lib.hid h1
        go_wp2_with (go_at_call 45; refine (l1In_any _ _ _ _).mono ?_; rintro e w' ⟨rfl, rfl⟩)
        go_ret
        exact ⟨ret_bool (all_no H.out E.out H1.out), rfl⟩
      · have H1 := Lib.hid h1
        go_wp2_with (go_at_call 45; refine (l1In_any _ _ _ _).mono ?_; rintro e w' ⟨rfl, rfl⟩)
        go_round
        case rel => exact ⟨k + 1, by omega, by go_num, all_step H.out E.out H1.out⟩
        case measure => simp [intOf]; omega
    · go_wp2
      go_ret
      exact ⟨ret_bool (by rw [H.out, allB_end _ _ _ _ hlt]), rfl⟩

set_option maxHeartbeats 400000 in
theorem allWithin_any (A : Option Addr) (c : Nat) (xs : List Int) (lo hi : Int) (B : Nat) (w : World) (hr : Rd w B A c xs) (hn : xs.length ≤ 1048576) :
    Calls Try.prog 65 #[.slice A xs.length c, .int .i64 lo, .int .i64 hi] w fun e w' => e = .returned (.bool (allB lo hi xs)) ∧ w = w' := by
  go_enter Try.func65, Try.ntmps65
  go_wp2
  go_loop [11] (fun i => ∃ (k : Nat), k ≤ xs.length ∧ i = .int .i64 k ∧ Hid (allB lo hi xs = allB lo hi (xs.drop k))) (fun i => xs.length - (intOf i).toNat)
  case atStart => exact ⟨0, Nat.zero_le _, rfl, by simp [Hid]⟩
  case round =>
    obtain ⟨k, hk, rfl, H⟩ := hrel
    by_cases hlt : k < xs.length
    · obtain ⟨b, o, rfl, hb, hcell⟩ := hr.at_ hlt
      have E := Lib.hid (allB_go lo hi xs k hlt)
      generalize xs.getD k 0 = x at *
      cases h1 : inB x lo hi
      · have H1 := Lib.hid h1
        go_wp2_with (go_at_call 48; refine (isWithin_any _ _ _ _).mono ?_; rintro e w' ⟨rfl, rfl⟩)
        go_ret
        exact ⟨ret_bool (all_no H.out E.out H1.out), rfl⟩
      · have H1 := Lib.hid h1
        go_wp2_with (go_at_call 48; refine (isWithin_any _ _ _ _).mono ?_; rintro e w' ⟨rfl, rfl⟩)
        go_round
        case rel => exact ⟨k + 1, by omega, by go_num, all_step H.out E.out H1.out⟩
        case measure => simp [intOf]; omega
    · go_wp2
      go_ret
      exact ⟨ret_bool (by rw [H.out, allB_end _ _ _ _ hlt]), rfl⟩

end Go.Proofs.Ytiacfaeanlkalaa
