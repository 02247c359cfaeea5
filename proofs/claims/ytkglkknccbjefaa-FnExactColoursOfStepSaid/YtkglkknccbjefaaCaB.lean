/- Contracts: carpets: what are rolls, needs, steps and patterns; both sides. -/
import Derived.Test.YtkglkknccbjefaaGAll
import Derived.Test.YtkglkknccbjefaaGLeast
import Derived.Test.YtkglkknccbjefaaGGcd
import Derived.Test.YtkglkknccbjefaaMovB
import Derived.Test.YtkglkknccbjefaaWK
import Derived.Test.YtkglkknccbjefaaGSum
import Derived.IntWalk
namespace Go.Proofs.Ytkglkknccbjefaa
open Go.RowKit

def orI (v : Bool) (a : Int) : Int := if v then a else 0
theorem orI_no (a : Int) : orI false a = 0 := rfl
theorem orI_yes (a : Int) : orI true a = a := rfl
/-- these are rolls -/
def rollsB (xs : List Int) : Bool := inB xs.length 1 8 && allB 1 2000 xs
theorem rollsB_le {xs : List Int} (h : rollsB xs = true) : 1 ≤ xs.length ∧ xs.length ≤ 8 := by
  simp only [rollsB, Bool.and_eq_true] at h
  have := inB_le h.1
  omega
theorem rollsB_at {xs : List Int} (h : rollsB xs = true) (k : Nat) (hk : k < xs.length) : 1 ≤ xs.getD k 0 ∧ xs.getD k 0 ≤ 2000 := by
  simp only [rollsB, Bool.and_eq_true] at h
  exact allB_at h.2 hk
/-- steps with a need -/
def stepsB (s m : Int) : Bool := inB s 1 100 && inB m 1 100
def patB (m p : Int) : Bool := inB m 1 100 && inB p 1 2000
def canB (xs : List Int) (s m : Int) : Bool := rollsB xs && (inB s 1 100 && inB m 1 100)
def srB (a m : Int) : Bool := inB a 1 2000 && inB m 1 100




set_option maxHeartbeats 400000 in
theorem cpNeed_any (m : Int) (w : World) :
    Calls Try.prog 30 #[.int .i64 m] w fun e w' => e = .returned (.bool (inB m 1 100)) ∧ w = w' := by
  skip
  go_enter Try.func30, Try.ntmps30
  go_wp2_with fail
  refine (l1In_any _ _ _ _).mono ?_
  rintro e w' ⟨rfl, rfl⟩
  go_wp2_with fail
  go_ret
  exact ⟨rfl, rfl⟩

set_option maxHeartbeats 400000 in
theorem isNeed_any (m : Int) (w : World) :
    Calls Try.prog 31 #[.int .i64 m] w fun e w' => e = .returned (.bool (inB m 1 100)) ∧ w = w' := by
  skip
  go_enter Try.func31, Try.ntmps31
  go_wp2_with fail
  refine (isWithin_any _ _ _ _).mono ?_
  rintro e w' ⟨rfl, rfl⟩
  go_wp2_with fail
  go_ret
  exact ⟨rfl, rfl⟩


set_option maxHeartbeats 400000 in
theorem isCover_any (m : Int) (w : World) :
    Calls Try.prog 32 #[.int .i64 m] w fun e w' => e = .returned (.bool (inB m 1 100)) ∧ w = w' := by
  skip
  go_enter Try.func32, Try.ntmps32
  go_wp2_with fail
  refine (isWithin_any _ _ _ _).mono ?_
  rintro e w' ⟨rfl, rfl⟩
  go_wp2_with fail
  go_ret
  exact ⟨rfl, rfl⟩

set_option maxHeartbeats 400000 in
theorem cpSteps_any (s m : Int) (w : World) :
    Calls Try.prog 24 #[.int .i64 s, .int .i64 m] w fun e w' => e = .returned (.bool (stepsB s m)) ∧ w = w' := by
  cases g0 : inB s 1 100
  · rw [show stepsB s m = false by simp [stepsB, g0]]
    have H0 := Lib.hid g0
    clear g0
    go_enter Try.func24, Try.ntmps24
    go_wp2_with fail
    refine (l1In_any _ _ _ _).mono ?_
    rintro e w' ⟨rfl, rfl⟩
    rw [H0.out]
    go_wp2_with fail
    go_ret
    exact ⟨rfl, rfl⟩
  · have _hk := True.intro
    rw [show stepsB s m = inB m 1 100 by simp [stepsB, g0]]
    have H0 := Lib.hid g0
    clear g0
    go_enter Try.func24, Try.ntmps24
    go_wp2_with fail
    refine (l1In_any _ _ _ _).mono ?_
    rintro e w' ⟨rfl, rfl⟩
    rw [H0.out]
    go_wp2_with fail
    refine (cpNeed_any _ _).mono ?_
    rintro e w' ⟨rfl, rfl⟩
    go_wp2_with fail
    go_ret
    exact ⟨rfl, rfl⟩





def patQ (m p : Int) : Int := (m + p - 1) / p * p



theorem plain_same {f : FuncId} {args : Array Value} {w : World} {V : Value} (h : Calls Try.prog f args w fun e w' => e = .returned V ∧ w = w') : Calls Try.prog f args w (Plain V w) :=
  h.mono fun _ _ ⟨he, hw⟩ => ⟨he, by subst hw; exact Below.refl _ _⟩

end Go.Proofs.Ytkglkknccbjefaa
