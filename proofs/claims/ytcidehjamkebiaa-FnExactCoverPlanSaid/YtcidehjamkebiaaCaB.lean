/- Contracts: carpets: what are rolls, needs, steps and patterns; both sides. -/
import Derived.Test.YtcidehjamkebiaaGAll
import Derived.Test.YtcidehjamkebiaaGLeast
import Derived.Test.YtcidehjamkebiaaGGcd
import Derived.Test.YtcidehjamkebiaaMovB
import Derived.Test.YtcidehjamkebiaaWK
import Derived.Test.YtcidehjamkebiaaGSum
import Derived.IntWalk
namespace Go.Proofs.Ytcidehjamkebiaa
open Go.RowKit

def orI (v : Bool) (a : Int) : Int := if v then a else 0
theorem orI_no (a : Int) : orI false a = 0 := rfl
theorem orI_yes (a : Int) : orI true a = a := rfl
/-- these are rolls -/
def rollsB (xs : List Int) : Bool := inB xs.length 1 8 && allB 1 2000 xs
theorem rollsB_le {xs : List Int} (h : rollsB xs = true) : 1 ≤ xs.length ∧ xs.length ≤ 8 := by
  simp only [rollsB, Bool.and_eq_true] at h
  have := inB_le h.1
  omega
theorem rollsB_at {xs : List Int} (h : rollsB xs = true) (k : Nat) (hk : k < xs.length) : 1 ≤ xs.getD k 0 ∧ xs.getD k 0 ≤ 2000 := by
  simp only [rollsB, Bool.and_eq_true] at h
  exact allB_at h.2 hk
/-- steps with a need -/
def stepsB (s m : Int) : Bool := inB s 1 100 && inB m 1 100
def patB (m p : Int) : Bool := inB m 1 100 && inB p 1 2000
def canB (xs : List Int) (s m : Int) : Bool := rollsB xs && (inB s 1 100 && inB m 1 100)
def srB (a m : Int) : Bool := inB a 1 2000 && inB m 1 100

set_option maxHeartbeats 400000 in
theorem cpRolls_any (A : Option Addr) (c : Nat) (xs : List Int) (B : Nat) (w : World) (hr : Rd w B A c xs) (hn : xs.length ≤ 1048576) :
    Calls Try.prog 40 #[.slice A xs.length c] w fun e w' => e = .returned (.bool (rollsB xs)) ∧ w = w' := by
  cases g0 : inB xs.length 1 8
  · rw [show rollsB xs = false by simp [rollsB, g0]]
    have H0 := Lib.hid g0
    clear g0
    go_enter Try.func40, Try.ntmps40
    go_wp2_with fail
    refine (l1In_any _ _ _ _).mono ?_
    rintro e w' ⟨rfl, rfl⟩
    rw [H0.out]
    go_wp2_with fail
    go_ret
    exact ⟨rfl, rfl⟩
  · have _hk := True.intro
    rw [show rollsB xs = allB 1 2000 xs by simp [rollsB, g0]]
    have H0 := Lib.hid g0
    clear g0
    go_enter Try.func40, Try.ntmps40
    go_wp2_with fail
    refine (l1In_any _ _ _ _).mono ?_
    rintro e w' ⟨rfl, rfl⟩
    rw [H0.out]
    go_wp2_with fail
    refine (l1All_any _ _ _ _ _ _ _ hr hn).mono ?_
    rintro e w' ⟨rfl, rfl⟩
    go_wp2_with fail
    go_ret
    exact ⟨rfl, rfl⟩

set_option maxHeartbeats 400000 in
theorem impRolls_any (A : Option Addr) (c : Nat) (xs : List Int) (B : Nat) (w : World) (hr : Rd w B A c xs) (hn : xs.length ≤ 1048576) :
    Calls Try.prog 16 #[.slice A xs.length c] w fun e w' => e = .returned (.bool (rollsB xs)) ∧ w = w' := by
  cases g0 : inB xs.length 1 8
  · rw [show rollsB xs = false by simp [rollsB, g0]]
    have H0 := Lib.hid g0
    clear g0
    go_enter Try.func16, Try.ntmps16
    go_wp2_with fail
    refine (isWithin_any _ _ _ _).mono ?_
    rintro e w' ⟨rfl, rfl⟩
    rw [H0.out]
    go_wp2_with fail
    go_ret
    exact ⟨rfl, rfl⟩
  · have _hk := True.intro
    rw [show rollsB xs = allB 1 2000 xs by simp [rollsB, g0]]
    have H0 := Lib.hid g0
    clear g0
    go_enter Try.func16, Try.ntmps16
    go_wp2_with fail
    refine (isWithin_any _ _ _ _).mono ?_
    rintro e w' ⟨rfl, rfl⟩
    rw [H0.out]
    go_wp2_with fail
    refine (allWithin_any _ _ _ _ _ _ _ hr hn).mono ?_
    rintro e w' ⟨rfl, rfl⟩
    go_wp2_with fail
    go_ret
    exact ⟨rfl, rfl⟩

set_option maxHeartbeats 400000 in
theorem specAreRolls_any (A : Option Addr) (c : Nat) (xs : List Int) (B : Nat) (w : World) (hr : Rd w B A c xs) (hn : xs.length ≤ 1048576) :
    Calls Try.prog 14 #[.slice A xs.length c] w fun e w' => e = .returned (.bool (rollsB xs)) ∧ w = w' := by
  skip
  go_enter Try.func14, Try.ntmps14
  go_wp2_with fail
  refine (cpRolls_any _ _ _ _ _ hr hn).mono ?_
  rintro e w' ⟨rfl, rfl⟩
  go_wp2_with fail
  go_ret
  exact ⟨rfl, rfl⟩

set_option maxHeartbeats 400000 in
theorem cpNeed_any (m : Int) (w : World) :
    Calls Try.prog 44 #[.int .i64 m] w fun e w' => e = .returned (.bool (inB m 1 100)) ∧ w = w' := by
  skip
  go_enter Try.func44, Try.ntmps44
  go_wp2_with fail
  refine (l1In_any _ _ _ _).mono ?_
  rintro e w' ⟨rfl, rfl⟩
  go_wp2_with fail
  go_ret
  exact ⟨rfl, rfl⟩

set_option maxHeartbeats 400000 in
theorem isNeed_any (m : Int) (w : World) :
    Calls Try.prog 46 #[.int .i64 m] w fun e w' => e = .returned (.bool (inB m 1 100)) ∧ w = w' := by
  skip
  go_enter Try.func46, Try.ntmps46
  go_wp2_with fail
  refine (isWithin_any _ _ _ _).mono ?_
  rintro e w' ⟨rfl, rfl⟩
  go_wp2_with fail
  go_ret
  exact ⟨rfl, rfl⟩

set_option maxHeartbeats 400000 in
theorem isLength_any (m : Int) (w : World) :
    Calls Try.prog 45 #[.int .i64 m] w fun e w' => e = .returned (.bool (inB m 1 2000)) ∧ w = w' := by
  skip
  go_enter Try.func45, Try.ntmps45
  go_wp2_with fail
  refine (isWithin_any _ _ _ _).mono ?_
  rintro e w' ⟨rfl, rfl⟩
  go_wp2_with fail
  go_ret
  exact ⟨rfl, rfl⟩

set_option maxHeartbeats 400000 in
theorem isCover_any (m : Int) (w : World) :
    Calls Try.prog 54 #[.int .i64 m] w fun e w' => e = .returned (.bool (inB m 1 100)) ∧ w = w' := by
  skip
  go_enter Try.func54, Try.ntmps54
  go_wp2_with fail
  refine (isWithin_any _ _ _ _).mono ?_
  rintro e w' ⟨rfl, rfl⟩
  go_wp2_with fail
  go_ret
  exact ⟨rfl, rfl⟩

set_option maxHeartbeats 400000 in
theorem cpSteps_any (s m : Int) (w : World) :
    Calls Try.prog 58 #[.int .i64 s, .int .i64 m] w fun e w' => e = .returned (.bool (stepsB s m)) ∧ w = w' := by
  cases g0 : inB s 1 100
  · rw [show stepsB s m = false by simp [stepsB, g0]]
    have H0 := Lib.hid g0
    clear g0
    go_enter Try.func58, Try.ntmps58
    go_wp2_with fail
    refine (l1In_any _ _ _ _).mono ?_
    rintro e w' ⟨rfl, rfl⟩
    rw [H0.out]
    go_wp2_with fail
    go_ret
    exact ⟨rfl, rfl⟩
  · have _hk := True.intro
    rw [show stepsB s m = inB m 1 100 by simp [stepsB, g0]]
    have H0 := Lib.hid g0
    clear g0
    go_enter Try.func58, Try.ntmps58
    go_wp2_with fail
    refine (l1In_any _ _ _ _).mono ?_
    rintro e w' ⟨rfl, rfl⟩
    rw [H0.out]
    go_wp2_with fail
    refine (cpNeed_any _ _).mono ?_
    rintro e w' ⟨rfl, rfl⟩
    go_wp2_with fail
    go_ret
    exact ⟨rfl, rfl⟩

set_option maxHeartbeats 400000 in
theorem cpPattern_any (m p : Int) (w : World) :
    Calls Try.prog 57 #[.int .i64 m, .int .i64 p] w fun e w' => e = .returned (.bool (patB m p)) ∧ w = w' := by
  cases g0 : inB m 1 100
  · rw [show patB m p = false by simp [patB, g0]]
    have H0 := Lib.hid g0
    clear g0
    go_enter Try.func57, Try.ntmps57
    go_wp2_with fail
    refine (cpNeed_any _ _).mono ?_
    rintro e w' ⟨rfl, rfl⟩
    rw [H0.out]
    go_wp2_with fail
    go_ret
    exact ⟨rfl, rfl⟩
  · have _hk := True.intro
    rw [show patB m p = inB p 1 2000 by simp [patB, g0]]
    have H0 := Lib.hid g0
    clear g0
    go_enter Try.func57, Try.ntmps57
    go_wp2_with fail
    refine (cpNeed_any _ _).mono ?_
    rintro e w' ⟨rfl, rfl⟩
    rw [H0.out]
    go_wp2_with fail
    refine (l1In_any _ _ _ _).mono ?_
    rintro e w' ⟨rfl, rfl⟩
    go_wp2_with fail
    go_ret
    exact ⟨rfl, rfl⟩

set_option maxHeartbeats 400000 in
theorem canCover_any (A : Option Addr) (c : Nat) (xs : List Int) (B : Nat) (s m : Int) (w : World) (hr : Rd w B A c xs) (hn : xs.length ≤ 1048576) :
    Calls Try.prog 51 #[.slice A xs.length c, .int .i64 s, .int .i64 m] w fun e w' => e = .returned (.bool (canB xs s m)) ∧ w = w' := by
  cases g0 : rollsB xs
  · rw [show canB xs s m = false by simp [canB, g0]]
    have H0 := Lib.hid g0
    clear g0
    go_enter Try.func51, Try.ntmps51
    go_wp2_with fail
    refine (impRolls_any _ _ _ _ _ hr hn).mono ?_
    rintro e w' ⟨rfl, rfl⟩
    rw [H0.out]
    go_wp2_with fail
    go_ret
    exact ⟨rfl, rfl⟩
  · have _hk := True.intro
    cases g1 : inB s 1 100
    · rw [show canB xs s m = false by simp [canB, g0, g1]]
      have H0 := Lib.hid g0
      clear g0
      have H1 := Lib.hid g1
      clear g1
      go_enter Try.func51, Try.ntmps51
      go_wp2_with fail
      refine (impRolls_any _ _ _ _ _ hr hn).mono ?_
      rintro e w' ⟨rfl, rfl⟩
      rw [H0.out]
      go_wp2_with fail
      refine (isCover_any _ _).mono ?_
      rintro e w' ⟨rfl, rfl⟩
      rw [H1.out]
      go_wp2_with fail
      go_ret
      exact ⟨rfl, rfl⟩
    · have _hk := True.intro
      rw [show canB xs s m = inB m 1 100 by simp [canB, g0, g1]]
      have H0 := Lib.hid g0
      clear g0
      have H1 := Lib.hid g1
      clear g1
      go_enter Try.func51, Try.ntmps51
      go_wp2_with fail
      refine (impRolls_any _ _ _ _ _ hr hn).mono ?_
      rintro e w' ⟨rfl, rfl⟩
      rw [H0.out]
      go_wp2_with fail
      refine (isCover_any _ _).mono ?_
      rintro e w' ⟨rfl, rfl⟩
      rw [H1.out]
      go_wp2_with fail
      refine (isNeed_any _ _).mono ?_
      rintro e w' ⟨rfl, rfl⟩
      go_wp2_with fail
      go_ret
      exact ⟨rfl, rfl⟩

set_option maxHeartbeats 1000000 in
theorem specStepsOfRoll_any (a m : Int) (w : World) :
    Calls Try.prog 18 #[.int .i64 a, .int .i64 m] w fun e w' => e = .returned (.tuple #[.int .i64 (orI (srB a m) (a / m)), .int .i64 (orI (srB a m) (a % m)), .bool (srB a m)]) ∧ Below w.heap.size w w' := by
  cases g0 : inB a 1 2000
  · have hV : srB a m = false := by simp [srB, g0]
    simp only [hV, orI_no]
    clear hV
    have H0 := Lib.hid g0
    clear g0
    go_enter Try.func18, Try.ntmps18
    go_wp2_with fail
    refine (l1In_any _ _ _ _).mono ?_
    rintro e w' ⟨rfl, rfl⟩
    rw [H0.out]
    go_wp2_with fail
    go_ret3
    exact ⟨rfl, Below.refl _ _⟩
  · cases g1 : inB m 1 100
    · have hV : srB a m = false := by simp [srB, g1]
      simp only [hV, orI_no]
      clear hV
      have H0 := Lib.hid g0
      clear g0
      have H1 := Lib.hid g1
      clear g1
      go_enter Try.func18, Try.ntmps18
      go_wp2_with fail
      refine (l1In_any _ _ _ _).mono ?_
      rintro e w' ⟨rfl, rfl⟩
      rw [H0.out]
      go_wp2_with fail
      refine (cpNeed_any _ _).mono ?_
      rintro e w' ⟨rfl, rfl⟩
      rw [H1.out]
      go_wp2_with fail
      go_ret3
      exact ⟨rfl, Below.refl _ _⟩
    · obtain ⟨l0, m0⟩ := inB_le g0
      obtain ⟨l1, m1⟩ := inB_le g1
      rw [show srB a m = true by simp [srB, g0, g1]]
      simp only [orI_yes]
      have ht : a.tdiv m = a / m := Int.tdiv_eq_ediv_of_nonneg (by omega)
      have hu : a.tmod m = a % m := Int.tmod_eq_emod_of_nonneg (by omega)
      have hz : ¬ m = 0 := by omega
      have q0 : 0 ≤ a / m := Int.ediv_nonneg (by omega) (by omega)
      have q1 : a / m ≤ a := Int.ediv_le_self _ (by omega)
      have r0 : 0 ≤ a % m := Int.emod_nonneg _ (by omega)
      have r1 : a % m < m := Int.emod_lt_of_pos _ (by omega)
      have H0 := Lib.hid g0
      clear g0
      have H1 := Lib.hid g1
      clear g1
      go_enter Try.func18, Try.ntmps18
      go_wp2_with fail
      refine (l1In_any _ _ _ _).mono ?_
      rintro e w' ⟨rfl, rfl⟩
      rw [H0.out]
      go_wp2_with fail
      refine (cpNeed_any _ _).mono ?_
      rintro e w' ⟨rfl, rfl⟩
      rw [H1.out]
      go_wp2_with fail
      go_quiet (fail)
      go_wp2_with fail
      go_ret3
      exact ⟨rfl, drew_below rfl⟩

set_option maxHeartbeats 1000000 in
theorem implStepsOfRoll_any (a m : Int) (w : World) :
    Calls Try.prog 19 #[.int .i64 a, .int .i64 m] w fun e w' => e = .returned (.tuple #[.int .i64 (orI (srB a m) (a / m)), .int .i64 (orI (srB a m) (a % m)), .bool (srB a m)]) ∧ Below w.heap.size w w' := by
  cases g0 : inB a 1 2000
  · have hV : srB a m = false := by simp [srB, g0]
    simp only [hV, orI_no]
    clear hV
    have H0 := Lib.hid g0
    clear g0
    go_enter Try.func19, Try.ntmps19
    go_wp2_with fail
    refine (isLength_any _ _).mono ?_
    rintro e w' ⟨rfl, rfl⟩
    rw [H0.out]
    go_wp2_with fail
    go_ret3
    exact ⟨rfl, Below.refl _ _⟩
  · cases g1 : inB m 1 100
    · have hV : srB a m = false := by simp [srB, g1]
      simp only [hV, orI_no]
      clear hV
      have H0 := Lib.hid g0
      clear g0
      have H1 := Lib.hid g1
      clear g1
      go_enter Try.func19, Try.ntmps19
      go_wp2_with fail
      refine (isLength_any _ _).mono ?_
      rintro e w' ⟨rfl, rfl⟩
      rw [H0.out]
      go_wp2_with fail
      refine (isNeed_any _ _).mono ?_
      rintro e w' ⟨rfl, rfl⟩
      rw [H1.out]
      go_wp2_with fail
      go_ret3
      exact ⟨rfl, Below.refl _ _⟩
    · obtain ⟨l0, m0⟩ := inB_le g0
      obtain ⟨l1, m1⟩ := inB_le g1
      rw [show srB a m = true by simp [srB, g0, g1]]
      simp only [orI_yes]
      have ht : a.tdiv m = a / m := Int.tdiv_eq_ediv_of_nonneg (by omega)
      have hu : a.tmod m = a % m := Int.tmod_eq_emod_of_nonneg (by omega)
      have hz : ¬ m = 0 := by omega
      have q0 : 0 ≤ a / m := Int.ediv_nonneg (by omega) (by omega)
      have q1 : a / m ≤ a := Int.ediv_le_self _ (by omega)
      have r0 : 0 ≤ a % m := Int.emod_nonneg _ (by omega)
      have r1 : a % m < m := Int.emod_lt_of_pos _ (by omega)
      have H0 := Lib.hid g0
      clear g0
      have H1 := Lib.hid g1
      clear g1
      go_enter Try.func19, Try.ntmps19
      go_wp2_with fail
      refine (isLength_any _ _).mono ?_
      rintro e w' ⟨rfl, rfl⟩
      rw [H0.out]
      go_wp2_with fail
      refine (isNeed_any _ _).mono ?_
      rintro e w' ⟨rfl, rfl⟩
      rw [H1.out]
      go_wp2_with fail
      go_quiet (fail)
      go_wp2_with fail
      go_ret3
      exact ⟨rfl, drew_below rfl⟩

def patQ (m p : Int) : Int := (m + p - 1) / p * p

set_option maxHeartbeats 1000000 in
theorem implWithPattern_any (m p : Int) (w : World) :
    Calls Try.prog 33 #[.int .i64 m, .int .i64 p] w fun e w' => e = .returned (.tuple #[.int .i64 (orI (patB m p) (patQ m p)), .int .i64 (orI (patB m p) (patQ m p - m)), .bool (patB m p)]) ∧ Below w.heap.size w w' := by
  cases g0 : inB m 1 100
  · have hV : patB m p = false := by simp [patB, g0]
    simp only [hV, orI_no]
    clear hV
    have H0 := Lib.hid g0
    clear g0
    go_enter Try.func33, Try.ntmps33
    go_wp2_with fail
    refine (isNeed_any _ _).mono ?_
    rintro e w' ⟨rfl, rfl⟩
    rw [H0.out]
    go_wp2_with fail
    go_ret3
    exact ⟨rfl, Below.refl _ _⟩
  · cases g1 : inB p 1 2000
    · have hV : patB m p = false := by simp [patB, g1]
      simp only [hV, orI_no]
      clear hV
      have H0 := Lib.hid g0
      clear g0
      have H1 := Lib.hid g1
      clear g1
      go_enter Try.func33, Try.ntmps33
      go_wp2_with fail
      refine (isNeed_any _ _).mono ?_
      rintro e w' ⟨rfl, rfl⟩
      rw [H0.out]
      go_wp2_with fail
      refine (isLength_any _ _).mono ?_
      rintro e w' ⟨rfl, rfl⟩
      rw [H1.out]
      go_wp2_with fail
      go_ret3
      exact ⟨rfl, Below.refl _ _⟩
    · obtain ⟨l0, m0⟩ := inB_le g0
      obtain ⟨l1, m1⟩ := inB_le g1
      rw [show patB m p = true by simp [patB, g0, g1]]
      simp only [orI_yes]
      simp only [patQ]
      have hz : ¬ p = 0 := by omega
      have hx : IntKind.i64.wrap (m + p) = m + p := IntWalk.i64_in _ (by omega)
      have hx2 : IntKind.i64.wrap (m + p - 1) = m + p - 1 := IntWalk.i64_in _ (by omega)
      have ht : (m + p - 1).tdiv p = (m + p - 1) / p := Int.tdiv_eq_ediv_of_nonneg (by omega)
      have q2 : (m + p - 1) / p * p ≤ m + p - 1 := Int.ediv_mul_le _ (by omega)
      have q0 : 0 ≤ (m + p - 1) / p := Int.ediv_nonneg (by omega) (by omega)
      have q1 : (m + p - 1) / p ≤ m + p - 1 := Int.ediv_le_self _ (by omega)
      have q3 : 0 ≤ (m + p - 1) / p * p := Int.mul_nonneg q0 (by omega)
      have ht2 := ht
      generalize (m + p - 1) / p = q at *
      generalize hqp : q * p = e at *
      have HQ := Lib.hid hqp
      have hw1 : IntKind.i64.wrap q = q := IntWalk.i64_in _ (by omega)
      have hw2 : IntKind.i64.wrap (q * p) = e := by rw [hqp]; exact IntWalk.i64_in _ (by omega)
      have hw3 : IntKind.i64.wrap (e - m) = e - m := IntWalk.i64_in _ (by omega)
      clear hqp ht2
      have H0 := Lib.hid g0
      clear g0
      have H1 := Lib.hid g1
      clear g1
      go_enter Try.func33, Try.ntmps33
      go_wp2_with fail
      refine (isNeed_any _ _).mono ?_
      rintro e w' ⟨rfl, rfl⟩
      rw [H0.out]
      go_wp2_with fail
      refine (isLength_any _ _).mono ?_
      rintro e w' ⟨rfl, rfl⟩
      rw [H1.out]
      go_wp2_with fail
      go_ret3
      exact ⟨rfl, Below.refl _ _⟩

set_option maxHeartbeats 1000000 in
theorem specWithPattern_any (m p : Int) (w : World) :
    Calls Try.prog 32 #[.int .i64 m, .int .i64 p] w fun e w' => e = .returned (.tuple #[.int .i64 (orI (patB m p) (patQ m p)), .int .i64 (orI (patB m p) (patQ m p - m)), .bool (patB m p)]) ∧ Below w.heap.size w w' := by
  cases g0 : patB m p
  · have hV : patB m p = false := g0
    simp only [orI_no]
    clear hV
    have H0 := Lib.hid g0
    clear g0
    go_enter Try.func32, Try.ntmps32
    go_wp2_with fail
    refine (cpPattern_any _ _ _).mono ?_
    rintro e w' ⟨rfl, rfl⟩
    rw [H0.out]
    go_wp2_with fail
    go_ret3
    exact ⟨rfl, Below.refl _ _⟩
  · obtain ⟨⟨l0, m0⟩, l1, m1⟩ : (1 ≤ m ∧ m ≤ 100) ∧ 1 ≤ p ∧ p ≤ 2000 := by
      have h := g0
      simp only [patB, Bool.and_eq_true] at h
      exact ⟨inB_le h.1, inB_le h.2⟩
    simp only [orI_yes, patQ]
    have hz : ¬ p = 0 := by omega
    have hx : IntKind.i64.wrap (m + p) = m + p := IntWalk.i64_in _ (by omega)
    have hx2 : IntKind.i64.wrap (m + p - 1) = m + p - 1 := IntWalk.i64_in _ (by omega)
    have ht : (m + p - 1).tdiv p = (m + p - 1) / p := Int.tdiv_eq_ediv_of_nonneg (by omega)
    have q2 : (m + p - 1) / p * p ≤ m + p - 1 := Int.ediv_mul_le _ (by omega)
    have q0 : 0 ≤ (m + p - 1) / p := Int.ediv_nonneg (by omega) (by omega)
    have q1 : (m + p - 1) / p ≤ m + p - 1 := Int.ediv_le_self _ (by omega)
    have q3 : 0 ≤ (m + p - 1) / p * p := Int.mul_nonneg q0 (by omega)
    have ht2 := ht
    generalize (m + p - 1) / p = q at *
    generalize hqp : q * p = e at *
    have HQ := Lib.hid hqp
    have hw1 : IntKind.i64.wrap q = q := IntWalk.i64_in _ (by omega)
    have hw2 : IntKind.i64.wrap (q * p) = e := by rw [hqp]; exact IntWalk.i64_in _ (by omega)
    have hw3 : IntKind.i64.wrap (e - m) = e - m := IntWalk.i64_in _ (by omega)
    clear hqp ht2
    have H0 := Lib.hid g0
    clear g0
    go_enter Try.func32, Try.ntmps32
    go_wp2_with fail
    refine (cpPattern_any _ _ _).mono ?_
    rintro e w' ⟨rfl, rfl⟩
    rw [H0.out]
    go_wp2_with fail
    go_ret3
    exact ⟨rfl, Below.refl _ _⟩

theorem plain_same {f : FuncId} {args : Array Value} {w : World} {V : Value} (h : Calls Try.prog f args w fun e w' => e = .returned V ∧ w = w') : Calls Try.prog f args w (Plain V w) :=
  h.mono fun _ _ ⟨he, hw⟩ => ⟨he, by subst hw; exact Below.refl _ _⟩

end Go.Proofs.Ytcidehjamkebiaa
