/- Contracts: balls: what are jumps, steps of them, places a second later, on both sides. -/
import Derived.Test.YtmnljccfcfdjmaaDoorGAll
import Derived.Test.YtmnljccfcfdjmaaDoorGLeast
import Derived.IntWalk
namespace Go.Proofs.YtmnljccfcfdjmaaDoor
open Go.RowKit

/-- these are jumps -/
def jumpsB (xs : List Int) : Bool := inB xs.length 1 30 && allB (-30) 30 xs
theorem jumpsB_no {xs : List Int} (h : inB xs.length 1 30 = false) : jumpsB xs = false := by simp [jumpsB, h]
theorem jumpsB_yes {xs : List Int} (h : inB xs.length 1 30 = true) : jumpsB xs = allB (-30) 30 xs := by simp [jumpsB, h]
theorem jumpsB_le {xs : List Int} (h : jumpsB xs = true) : 1 ≤ xs.length ∧ xs.length ≤ 30 := by
  simp only [jumpsB, Bool.and_eq_true] at h
  have := inB_le h.1
  omega
theorem jumpsB_at {xs : List Int} (h : jumpsB xs = true) (k : Nat) (hk : k < xs.length) : -30 ≤ xs.getD k 0 ∧ xs.getD k 0 ≤ 30 := by
  simp only [jumpsB, Bool.and_eq_true] at h
  exact allB_at h.2 hk
/-- these are jumps with this step -/
def ballB (xs : List Int) (s : Int) : Bool := jumpsB xs && inB s 0 ((xs.length : Int) - 1)
theorem ballB_le {xs : List Int} {s : Int} (h : ballB xs s = true) : jumpsB xs = true ∧ 0 ≤ s ∧ s < xs.length := by
  simp only [ballB, Bool.and_eq_true] at h
  have := inB_le h.2
  exact ⟨h.1, by omega, by omega⟩
/-- a place that is out is told by one number above, by one below -/
def clampI (n q : Int) : Int := if q < 0 then -1 else if n < q then n else q
/-- where a ball is a second later -/
def nextI (xs : List Int) (p : Int) : Int := if 0 ≤ p ∧ p < xs.length then clampI xs.length (p + xs.getD p.toNat 0) else p
theorem nextI_out {xs : List Int} {p : Int} (h : p < 0 ∨ (xs.length : Int) ≤ p) : nextI xs p = p := by rw [nextI, if_neg (by omega)]
theorem nextI_on {xs : List Int} {k : Nat} (h : k < xs.length) : nextI xs (k : Int) = clampI xs.length ((k : Int) + xs.getD k 0) := by rw [nextI, if_pos (by omega), Int.toNat_natCast]
theorem clampI_bd {n q : Int} (h : 0 ≤ n) : -1 ≤ clampI n q ∧ clampI n q ≤ n := by unfold clampI; split <;> (try split) <;> omega
theorem nextI_bd {xs : List Int} {p : Int} (h : -1 ≤ p) (h' : p ≤ xs.length) : -1 ≤ nextI xs p ∧ nextI xs p ≤ xs.length := by
  unfold nextI
  split
  · exact clampI_bd (by omega)
  · omega

set_option maxHeartbeats 400000 in
theorem baGood_any (A : Option Addr) (c : Nat) (xs : List Int) (B : Nat) (w : World) (hr : Rd w B A c xs) (hn : xs.length ≤ 1048576) :
    Calls Tryd.prog 13 #[.slice A xs.length c] w fun e w' => e = .returned (.bool (jumpsB xs)) ∧ w = w' := by
  cases h : inB xs.length 1 30
  · rw [jumpsB_no h]
    go_enter Tryd.func13, Tryd.ntmps13
    go_wp2_with fail
    refine (l1In_any _ _ _ _).mono ?_
    rintro e w' ⟨rfl, rfl⟩
    rw [h]
    clear h
    go_wp2_with fail
    go_ret
    exact ⟨rfl, rfl⟩
  · rw [jumpsB_yes h]
    go_enter Tryd.func13, Tryd.ntmps13
    go_wp2_with fail
    refine (l1In_any _ _ _ _).mono ?_
    rintro e w' ⟨rfl, rfl⟩
    rw [h]
    clear h
    go_wp2_with fail
    refine (l1All_any _ _ _ _ _ _ _ hr hn).mono ?_
    rintro e w' ⟨rfl, rfl⟩
    go_wp2_with fail
    go_ret
    exact ⟨rfl, rfl⟩

set_option maxHeartbeats 400000 in
theorem impJumps_any (A : Option Addr) (c : Nat) (xs : List Int) (B : Nat) (w : World) (hr : Rd w B A c xs) (hn : xs.length ≤ 1048576) :
    Calls Tryd.prog 15 #[.slice A xs.length c] w fun e w' => e = .returned (.bool (jumpsB xs)) ∧ w = w' := by
  cases h : inB xs.length 1 30
  · rw [jumpsB_no h]
    go_enter Tryd.func15, Tryd.ntmps15
    go_wp2_with fail
    refine (isWithin_any _ _ _ _).mono ?_
    rintro e w' ⟨rfl, rfl⟩
    rw [h]
    clear h
    go_wp2_with fail
    go_ret
    exact ⟨rfl, rfl⟩
  · rw [jumpsB_yes h]
    go_enter Tryd.func15, Tryd.ntmps15
    go_wp2_with fail
    refine (isWithin_any _ _ _ _).mono ?_
    rintro e w' ⟨rfl, rfl⟩
    rw [h]
    clear h
    go_wp2_with fail
    refine (allWithin_any _ _ _ _ _ _ _ hr hn).mono ?_
    rintro e w' ⟨rfl, rfl⟩
    go_wp2_with fail
    go_ret
    exact ⟨rfl, rfl⟩





/-- the two ways to tell a place that is out -/
theorem clamp_max {n q : Int} (h : 0 ≤ n) : max (-1) (min q n) = clampI n q := by unfold clampI; split <;> (try split) <;> omega






theorem plain_same {f : FuncId} {args : Array Value} {w : World} {V : Value} (h : Calls Tryd.prog f args w fun e w' => e = .returned V ∧ w = w') : Calls Tryd.prog f args w (Plain V w) :=
  h.mono fun _ _ ⟨he, hw⟩ => ⟨he, by subst hw; exact Below.refl _ _⟩

end Go.Proofs.YtmnljccfcfdjmaaDoor
