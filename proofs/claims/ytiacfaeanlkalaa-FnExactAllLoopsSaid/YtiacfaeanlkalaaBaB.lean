/- Contracts: balls: what are jumps, steps of them, places a second later, on both sides. -/
import Derived.Test.YtiacfaeanlkalaaGAll
import Derived.Test.YtiacfaeanlkalaaGLeast
import Derived.IntWalk
namespace Go.Proofs.Ytiacfaeanlkalaa
set_option maxRecDepth 100000
open Go.RowKit

/-- these are jumps -/
def jumpsB (xs : List Int) : Bool := inB xs.length 1 30 && allB (-30) 30 xs
theorem jumpsB_no {xs : List Int} (h : inB xs.length 1 30 = false) : jumpsB xs = false := by simp [jumpsB, h]
theorem jumpsB_yes {xs : List Int} (h : inB xs.length 1 30 = true) : jumpsB xs = allB (-30) 30 xs := by simp [jumpsB, h]
theorem jumpsB_le {xs : List Int} (h : jumpsB xs = true) : 1 ≤ xs.length ∧ xs.length ≤ 30 := by
  simp only [jumpsB, Bool.and_eq_true] at h
  have := inB_le h.1
  omega
theorem jumpsB_at {xs : List Int} (h : jumpsB xs = true) (k : Nat) (hk : k < xs.length) : -30 ≤ xs.getD k 0 ∧ xs.getD k 0 ≤ 30 := by
  simp only [jumpsB, Bool.and_eq_true] at h
  exact allB_at h.2 hk
/-- these are jumps with this step -/
def ballB (xs : List Int) (s : Int) : Bool := jumpsB xs && inB s 0 ((xs.length : Int) - 1)
theorem ballB_le {xs : List Int} {s : Int} (h : ballB xs s = true) : jumpsB xs = true ∧ 0 ≤ s ∧ s < xs.length := by
  simp only [ballB, Bool.and_eq_true] at h
  have := inB_le h.2
  exact ⟨h.1, by omega, by omega⟩
/-- a place that is out is told by one number above, by one below -/
def clampI (n q : Int) : Int := if q < 0 then -1 else if n < q then n else q
/-- where a ball is a second later -/
def nextI (xs : List Int) (p : Int) : Int := if 0 ≤ p ∧ p < xs.length then clampI xs.length (p + xs.getD p.toNat 0) else p
theorem nextI_out {xs : List Int} {p : Int} (h : p < 0 ∨ (xs.length : Int) ≤ p) : nextI xs p = p := by rw [nextI, if_neg (by omega)]
theorem nextI_on {xs : List Int} {k : Nat} (h : k < xs.length) : nextI xs (k : Int) = clampI xs.length ((k : Int) + xs.getD k 0) := by rw [nextI, if_pos (by omega), Int.toNat_natCast]
theorem clampI_bd {n q : Int} (h : 0 ≤ n) : -1 ≤ clampI n q ∧ clampI n q ≤ n := by unfold clampI; split <;> (try split) <;> omega
theorem nextI_bd {xs : List Int} {p : Int} (h : -1 ≤ p) (h' : p ≤ xs.length) : -1 ≤ nextI xs p ∧ nextI xs p ≤ xs.length := by
  unfold nextI
  split
  · exact clampI_bd (by omega)
  · omega

set_option maxHeartbeats 400000 in
theorem baGood_any (A : Option Addr) (c : Nat) (xs : List Int) (B : Nat) (w : World) (hr : Rd w B A c xs) (hn : xs.length ≤ 1048576) :
    Calls Try.prog 54 #[.slice A xs.length c] w fun e w' => e = .returned (.bool (jumpsB xs)) ∧ w = w' := by
  cases h : inB xs.length 1 30
  · rw [jumpsB_no h]
    go_enter Try.func54, Try.ntmps54
    go_wp2_with fail
    refine (l1In_any _ _ _ _).mono ?_
    rintro e w' ⟨rfl, rfl⟩
    rw [h]
    clear h
    go_wp2_with fail
    go_ret
    exact ⟨rfl, rfl⟩
  · rw [jumpsB_yes h]
    go_enter Try.func54, Try.ntmps54
    go_wp2_with fail
    refine (l1In_any _ _ _ _).mono ?_
    rintro e w' ⟨rfl, rfl⟩
    rw [h]
    clear h
    go_wp2_with fail
    refine (l1All_any _ _ _ _ _ _ _ hr hn).mono ?_
    rintro e w' ⟨rfl, rfl⟩
    go_wp2_with fail
    go_ret
    exact ⟨rfl, rfl⟩

set_option maxHeartbeats 400000 in
theorem impJumps_any (A : Option Addr) (c : Nat) (xs : List Int) (B : Nat) (w : World) (hr : Rd w B A c xs) (hn : xs.length ≤ 1048576) :
    Calls Try.prog 55 #[.slice A xs.length c] w fun e w' => e = .returned (.bool (jumpsB xs)) ∧ w = w' := by
  cases h : inB xs.length 1 30
  · rw [jumpsB_no h]
    go_enter Try.func55, Try.ntmps55
    go_wp2_with fail
    refine (isWithin_any _ _ _ _).mono ?_
    rintro e w' ⟨rfl, rfl⟩
    rw [h]
    clear h
    go_wp2_with fail
    go_ret
    exact ⟨rfl, rfl⟩
  · rw [jumpsB_yes h]
    go_enter Try.func55, Try.ntmps55
    go_wp2_with fail
    refine (isWithin_any _ _ _ _).mono ?_
    rintro e w' ⟨rfl, rfl⟩
    rw [h]
    clear h
    go_wp2_with fail
    refine (allWithin_any _ _ _ _ _ _ _ hr hn).mono ?_
    rintro e w' ⟨rfl, rfl⟩
    go_wp2_with fail
    go_ret
    exact ⟨rfl, rfl⟩


set_option maxHeartbeats 400000 in
theorem baStep_any (A : Option Addr) (c : Nat) (xs : List Int) (s : Int) (B : Nat) (w : World) (hr : Rd w B A c xs) (hn : xs.length ≤ 1048576) :
    Calls Try.prog 40 #[.slice A xs.length c, .int .i64 s] w fun e w' => e = .returned (.bool (ballB xs s)) ∧ w = w' := by
  cases h : jumpsB xs
  · rw [show ballB xs s = false by simp [ballB, h]]
    go_enter Try.func40, Try.ntmps40
    go_wp2_with fail
    refine (baGood_any _ _ _ _ _ hr hn).mono ?_
    rintro e w' ⟨rfl, rfl⟩
    rw [h]
    clear h
    go_wp2_with fail
    go_ret
    exact ⟨rfl, rfl⟩
  · have hb := jumpsB_le h
    have hw : IntKind.i64.wrap ((xs.length : Int) - 1) = (xs.length : Int) - 1 := IntWalk.i64_in _ (by omega)
    rw [show ballB xs s = inB s 0 ((xs.length : Int) - 1) by simp [ballB, h]]
    have H := Lib.hid h
    clear h
    go_enter Try.func40, Try.ntmps40
    go_wp2_with fail
    refine (baGood_any _ _ _ _ _ hr hn).mono ?_
    rintro e w' ⟨rfl, rfl⟩
    rw [H.out]
    go_wp2_with fail
    refine (l1In_any _ _ _ _).mono ?_
    rintro e w' ⟨rfl, rfl⟩
    go_wp2_with fail
    go_ret
    exact ⟨rfl, rfl⟩

set_option maxHeartbeats 400000 in
theorem isOn_any (A : Option Addr) (c : Nat) (n : Nat) (s : Int) (w : World) (h1 : n ≤ 1048576) :
    Calls Try.prog 52 #[.slice A n c, .int .i64 s] w fun e w' => e = .returned (.bool (inB s 0 ((n : Int) - 1))) ∧ w = w' := by
  have hw : IntKind.i64.wrap ((n : Int) - 1) = (n : Int) - 1 := IntWalk.i64_in _ (by omega)
  go_enter Try.func52, Try.ntmps52
  go_wp2_with fail
  refine (isWithin_any _ _ _ _).mono ?_
  rintro e w' ⟨rfl, rfl⟩
  go_wp2_with fail
  go_ret
  exact ⟨rfl, rfl⟩

set_option maxHeartbeats 400000 in
theorem hasBall_any (A : Option Addr) (c : Nat) (xs : List Int) (s : Int) (B : Nat) (w : World) (hr : Rd w B A c xs) (hn : xs.length ≤ 1048576) :
    Calls Try.prog 42 #[.slice A xs.length c, .int .i64 s] w fun e w' => e = .returned (.bool (ballB xs s)) ∧ w = w' := by
  cases h : jumpsB xs
  · rw [show ballB xs s = false by simp [ballB, h]]
    go_enter Try.func42, Try.ntmps42
    go_wp2_with fail
    refine (impJumps_any _ _ _ _ _ hr hn).mono ?_
    rintro e w' ⟨rfl, rfl⟩
    rw [h]
    clear h
    go_wp2_with fail
    go_ret
    exact ⟨rfl, rfl⟩
  · rw [show ballB xs s = inB s 0 ((xs.length : Int) - 1) by simp [ballB, h]]
    have H := Lib.hid h
    clear h
    go_enter Try.func42, Try.ntmps42
    go_wp2_with fail
    refine (impJumps_any _ _ _ _ _ hr hn).mono ?_
    rintro e w' ⟨rfl, rfl⟩
    rw [H.out]
    go_wp2_with fail
    refine (isOn_any _ _ _ _ _ hn).mono ?_
    rintro e w' ⟨rfl, rfl⟩
    go_wp2_with fail
    go_ret
    exact ⟨rfl, rfl⟩

/-- the two ways to tell a place that is out -/
theorem clamp_max {n q : Int} (h : 0 ≤ n) : max (-1) (min q n) = clampI n q := by unfold clampI; split <;> (try split) <;> omega

set_option maxHeartbeats 400000 in
theorem placeBy_any (A : Option Addr) (c n : Nat) (s j : Int) (w : World) (h1 : n ≤ 1048576) (hs : -1000 ≤ s) (hs' : s ≤ 1000000000) (hj : -1000 ≤ j) (hj' : j ≤ 1000) :
    Calls Try.prog 70 #[.slice A n c, .int .i64 s, .int .i64 j] w fun e w' => e = .returned (.int .i64 (clampI n (s + j))) ∧ w = w' := by
  have hw : IntKind.i64.wrap (s + j) = s + j := IntWalk.i64_in _ (by omega)
  by_cases g1 : s + j < 0
  · have g2 : ¬ (n : Int) < s + j := by omega
    have g3 : ¬ (n : Int) ≤ s + j := by omega
    have g5 : s + j ≤ -1 := by omega
    have g6 : s + j ≤ (n : Int) := by omega
    have g8 : s + j < (n : Int) := by omega
    rw [show clampI n (s + j) = -1 by rw [clampI, if_pos g1]]
    go_enter Try.func70, Try.ntmps70
    go_wp2_with fail
    all_goals (go_ret; exact ⟨by first | rfl | (exact ret_int (by omega)), rfl⟩)
  · by_cases g2 : (n : Int) < s + j
    · rw [show clampI n (s + j) = n by rw [clampI, if_neg g1, if_pos g2]]
      have g3 : ¬ s + j < (n : Int) := by omega
      have g4 : ¬ s + j ≤ (n : Int) := by omega
      have g5 : (-1 : Int) < n := by omega
      have g6 : (-1 : Int) ≤ n := by omega
      go_enter Try.func70, Try.ntmps70
      go_wp2_with fail
      all_goals (go_ret; exact ⟨by first | rfl | (exact ret_int (by omega)), rfl⟩)
    · rw [show clampI n (s + j) = s + j by rw [clampI, if_neg g1, if_neg g2]]
      have g4 : s + j ≤ (n : Int) := by omega
      have g5 : (-1 : Int) < s + j := by omega
      have g6 : (-1 : Int) ≤ s + j := by omega
      go_enter Try.func70, Try.ntmps70
      go_wp2_with fail
      all_goals (go_ret; exact ⟨by first | rfl | (exact ret_int (by omega)), rfl⟩)

set_option maxHeartbeats 400000 in
theorem nextPlace_any (A : Option Addr) (c : Nat) (xs : List Int) (p : Int) (B : Nat) (w : World) (hr : Rd w B A c xs) (hJ : jumpsB xs = true) :
    Calls Try.prog 69 #[.slice A xs.length c, .int .i64 p] w fun e w' => e = .returned (.int .i64 (nextI xs p)) ∧ w = w' := by
  have hl := jumpsB_le hJ
  by_cases h : 0 ≤ p ∧ p < xs.length
  · obtain ⟨k, rfl⟩ := Int.eq_ofNat_of_zero_le h.1
    have hk : k < xs.length := by omega
    have hat := jumpsB_at hJ k hk
    obtain ⟨b, o, rfl, hb, hcell⟩ := hr.at_ hk
    have HI := Lib.hid (inB_yes (n := (k : Int)) (lo := 0) (hi := (xs.length : Int) - 1) (by omega) (by omega))
    have HE := Lib.hid (nextI_on hk)
    generalize xs.getD k 0 = x at *
    go_enter Try.func69, Try.ntmps69
    go_wp2_with fail
    refine (isOn_any _ _ _ _ _ (by omega)).mono ?_
    rintro e w' ⟨rfl, rfl⟩
    rw [HI.out]
    go_wp2_with fail
    refine (placeBy_any _ _ _ _ _ _ (by omega) (by omega) (by omega) (by omega) (by omega)).mono ?_
    rintro e w' ⟨rfl, rfl⟩
    go_wp2_with fail
    go_ret
    exact ⟨ret_int HE.out.symm, rfl⟩
  · have HI := Lib.hid (inB_no (n := p) (lo := 0) (hi := (xs.length : Int) - 1) (by omega))
    rw [nextI_out (by omega)]
    go_enter Try.func69, Try.ntmps69
    go_wp2_with fail
    refine (isOn_any _ _ _ _ _ (by omega)).mono ?_
    rintro e w' ⟨rfl, rfl⟩
    rw [HI.out]
    go_wp2_with fail
    go_ret
    exact ⟨rfl, rfl⟩

set_option maxHeartbeats 1000000 in
theorem baNext_any (A : Option Addr) (c : Nat) (xs : List Int) (p : Int) (B : Nat) (w : World) (hr : Rd w B A c xs) (hJ : jumpsB xs = true) :
    Calls Try.prog 62 #[.slice A xs.length c, .int .i64 p] w fun e w' => e = .returned (.int .i64 (nextI xs p)) ∧ w = w' := by
  have hl := jumpsB_le hJ
  by_cases g0 : p < 0
  · rw [nextI_out (by omega)]
    go_enter Try.func62, Try.ntmps62
    go_wp2_with fail
    all_goals (go_ret; exact ⟨rfl, rfl⟩)
  · by_cases g1 : (xs.length : Int) ≤ p
    · rw [nextI_out (by omega)]
      go_enter Try.func62, Try.ntmps62
      go_wp2_with fail
      all_goals (go_ret; exact ⟨rfl, rfl⟩)
    · obtain ⟨k, rfl⟩ := Int.eq_ofNat_of_zero_le (show 0 ≤ p by omega)
      have hk : k < xs.length := by omega
      have hat := jumpsB_at hJ k hk
      obtain ⟨b, o, rfl, hb, hcell⟩ := hr.at_ hk
      rw [nextI_on hk]
      generalize xs.getD k 0 = x at *
      have hw : IntKind.i64.wrap ((k : Int) + x) = (k : Int) + x := IntWalk.i64_in _ (by omega)
      by_cases h1 : (k : Int) + x < 0
      · rw [show clampI xs.length ((k : Int) + x) = -1 by rw [clampI, if_pos h1]]
        go_enter Try.func62, Try.ntmps62
        go_wp2_with fail
        all_goals (go_ret; exact ⟨rfl, rfl⟩)
      · by_cases h2 : (xs.length : Int) < (k : Int) + x
        · rw [show clampI xs.length ((k : Int) + x) = xs.length by rw [clampI, if_neg h1, if_pos h2]]
          go_enter Try.func62, Try.ntmps62
          go_wp2_with fail
          all_goals (go_ret; exact ⟨rfl, rfl⟩)
        · rw [show clampI xs.length ((k : Int) + x) = (k : Int) + x by rw [clampI, if_neg h1, if_neg h2]]
          go_enter Try.func62, Try.ntmps62
          go_wp2_with fail
          all_goals (go_ret; exact ⟨rfl, rfl⟩)



theorem plain_same {f : FuncId} {args : Array Value} {w : World} {V : Value} (h : Calls Try.prog f args w fun e w' => e = .returned V ∧ w = w') : Calls Try.prog f args w (Plain V w) :=
  h.mono fun _ _ ⟨he, hw⟩ => ⟨he, by subst hw; exact Below.refl _ _⟩

end Go.Proofs.Ytiacfaeanlkalaa
