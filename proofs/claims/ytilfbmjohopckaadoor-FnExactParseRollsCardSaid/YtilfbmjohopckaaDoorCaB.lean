/- Contracts: carpets: what are rolls, needs, steps and patterns; both sides. -/
import Derived.Test.YtilfbmjohopckaaDoorGAll
import Derived.Test.YtilfbmjohopckaaDoorGLeast
import Derived.Test.YtilfbmjohopckaaDoorGGcd
import Derived.Test.YtilfbmjohopckaaDoorMovB
import Derived.Test.YtilfbmjohopckaaDoorWK
import Derived.Test.YtilfbmjohopckaaDoorGSum
import Derived.IntWalk
namespace Go.Proofs.YtilfbmjohopckaaDoor
open Go.RowKit

def orI (v : Bool) (a : Int) : Int := if v then a else 0
theorem orI_no (a : Int) : orI false a = 0 := rfl
theorem orI_yes (a : Int) : orI true a = a := rfl
/-- these are rolls -/
def rollsB (xs : List Int) : Bool := inB xs.length 1 8 && allB 1 2000 xs
theorem rollsB_le {xs : List Int} (h : rollsB xs = true) : 1 ≤ xs.length ∧ xs.length ≤ 8 := by
  simp only [rollsB, Bool.and_eq_true] at h
  have := inB_le h.1
  omega
theorem rollsB_at {xs : List Int} (h : rollsB xs = true) (k : Nat) (hk : k < xs.length) : 1 ≤ xs.getD k 0 ∧ xs.getD k 0 ≤ 2000 := by
  simp only [rollsB, Bool.and_eq_true] at h
  exact allB_at h.2 hk
/-- steps with a need -/
def stepsB (s m : Int) : Bool := inB s 1 100 && inB m 1 100
def patB (m p : Int) : Bool := inB m 1 100 && inB p 1 2000
def canB (xs : List Int) (s m : Int) : Bool := rollsB xs && (inB s 1 100 && inB m 1 100)
def srB (a m : Int) : Bool := inB a 1 2000 && inB m 1 100

set_option maxHeartbeats 400000 in
theorem cpRolls_any (A : Option Addr) (c : Nat) (xs : List Int) (B : Nat) (w : World) (hr : Rd w B A c xs) (hn : xs.length ≤ 1048576) :
    Calls Tryd.prog 13 #[.slice A xs.length c] w fun e w' => e = .returned (.bool (rollsB xs)) ∧ w = w' := by
  cases g0 : inB xs.length 1 8
  · rw [show rollsB xs = false by simp [rollsB, g0]]
    have H0 := Lib.hid g0
    clear g0
    go_enter Tryd.func13, Tryd.ntmps13
    go_wp2_with fail
    refine (l1In_any _ _ _ _).mono ?_
    rintro e w' ⟨rfl, rfl⟩
    rw [H0.out]
    go_wp2_with fail
    go_ret
    exact ⟨rfl, rfl⟩
  · have _hk := True.intro
    rw [show rollsB xs = allB 1 2000 xs by simp [rollsB, g0]]
    have H0 := Lib.hid g0
    clear g0
    go_enter Tryd.func13, Tryd.ntmps13
    go_wp2_with fail
    refine (l1In_any _ _ _ _).mono ?_
    rintro e w' ⟨rfl, rfl⟩
    rw [H0.out]
    go_wp2_with fail
    refine (l1All_any _ _ _ _ _ _ _ hr hn).mono ?_
    rintro e w' ⟨rfl, rfl⟩
    go_wp2_with fail
    go_ret
    exact ⟨rfl, rfl⟩

set_option maxHeartbeats 400000 in
theorem impRolls_any (A : Option Addr) (c : Nat) (xs : List Int) (B : Nat) (w : World) (hr : Rd w B A c xs) (hn : xs.length ≤ 1048576) :
    Calls Tryd.prog 15 #[.slice A xs.length c] w fun e w' => e = .returned (.bool (rollsB xs)) ∧ w = w' := by
  cases g0 : inB xs.length 1 8
  · rw [show rollsB xs = false by simp [rollsB, g0]]
    have H0 := Lib.hid g0
    clear g0
    go_enter Tryd.func15, Tryd.ntmps15
    go_wp2_with fail
    refine (isWithin_any _ _ _ _).mono ?_
    rintro e w' ⟨rfl, rfl⟩
    rw [H0.out]
    go_wp2_with fail
    go_ret
    exact ⟨rfl, rfl⟩
  · have _hk := True.intro
    rw [show rollsB xs = allB 1 2000 xs by simp [rollsB, g0]]
    have H0 := Lib.hid g0
    clear g0
    go_enter Tryd.func15, Tryd.ntmps15
    go_wp2_with fail
    refine (isWithin_any _ _ _ _).mono ?_
    rintro e w' ⟨rfl, rfl⟩
    rw [H0.out]
    go_wp2_with fail
    refine (allWithin_any _ _ _ _ _ _ _ hr hn).mono ?_
    rintro e w' ⟨rfl, rfl⟩
    go_wp2_with fail
    go_ret
    exact ⟨rfl, rfl⟩











def patQ (m p : Int) : Int := (m + p - 1) / p * p



theorem plain_same {f : FuncId} {args : Array Value} {w : World} {V : Value} (h : Calls Tryd.prog f args w fun e w' => e = .returned V ∧ w = w') : Calls Tryd.prog f args w (Plain V w) :=
  h.mono fun _ _ ⟨he, hw⟩ => ⟨he, by subst hw; exact Below.refl _ _⟩

end Go.Proofs.YtilfbmjohopckaaDoor
