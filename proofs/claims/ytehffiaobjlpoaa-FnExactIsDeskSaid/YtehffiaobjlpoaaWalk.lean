/- Contracts: one can stand on a step; a list is a climb; the steps of a climb; the set of broken steps. -/
import Derived.Test.YtehffiaobjlpoaaClimb
namespace Go.Proofs.Ytehffiaobjlpoaa
set_option maxRecDepth 100000
open Go.RowKit

theorem below_alloc (w : World) (o : Obj) : Below w.heap.size w (w.alloc o) := (Below.refl _ _).alloc (Nat.le_refl _) _

set_option maxHeartbeats 400000 in
theorem clStands_any (st : Int) (A A' : Option Addr) (c c' : Nat) (ss bs : List Int) (k : Int) (B : Nat) (w : World) (h : St w B st A A' c c' ss bs) (hB : B ≤ w.heap.size) :
    Calls Try.prog 93 #[stv st A A' c c' ss bs, .int .i64 k] w fun e w' => e = .returned (.bool (standB st bs k)) ∧ Below w.heap.size w w' := by
  have h1 := h.alloc hB
  cases g1 : inB k 0 st
  · rw [show standB st bs k = false by simp [standB, g1]]
    go_enter Try.func93, Try.ntmps93
    go_wp2_with fail
    refine (l1In_any _ _ _ _).mono ?_
    rintro e w1 ⟨rfl, rfl⟩
    go_wp2_with fail
    go_ret
    exact ⟨rfl, below_alloc _ _⟩
  · rw [show standB st bs k = !hasB bs k by simp [standB, g1]]
    go_enter Try.func93, Try.ntmps93
    go_wp2_with fail
    refine (l1In_any _ _ _ _).mono ?_
    rintro e w1 ⟨rfl, rfl⟩
    go_wp2_with fail
    refine (l1Has_any _ _ _ _ _ _ (h1 _).rb h.nb).mono ?_
    rintro e w1 ⟨rfl, rfl⟩
    go_wp2_with fail
    go_ret
    exact ⟨rfl, below_alloc _ _⟩

theorem climb_step {st : Int} {ss bs : List Int} {v x : Int} {C L : Bool} {xs : List Int} {k : Nat} (H : C = climbB st ss bs v (xs.drop k)) (E : climbB st ss bs v (xs.drop k) = (hasB ss x && (standB st bs (v + x) && L))) (h1 : hasB ss x = true) (h2 : standB st bs (v + x) = true) : C = L := by
  rw [H, E]; simp [h1, h2]
theorem climb_no1 {st : Int} {ss bs : List Int} {v x : Int} {C L : Bool} {xs : List Int} {k : Nat} (H : C = climbB st ss bs v (xs.drop k)) (E : climbB st ss bs v (xs.drop k) = (hasB ss x && (standB st bs (v + x) && L))) (h1 : hasB ss x = false) : false = C := by
  rw [H, E]; simp [h1]
theorem climb_no2 {st : Int} {ss bs : List Int} {v x : Int} {C L : Bool} {xs : List Int} {k : Nat} (H : C = climbB st ss bs v (xs.drop k)) (E : climbB st ss bs v (xs.drop k) = (hasB ss x && (standB st bs (v + x) && L))) (h2 : standB st bs (v + x) = false) : false = C := by
  rw [H, E]; simp [h2]
theorem stand_le {st k : Int} {bs : List Int} (h : standB st bs k = true) : 0 ≤ k ∧ k ≤ st := by
  simp only [standB, Bool.and_eq_true] at h
  exact inB_le h.1

end Go.Proofs.Ytehffiaobjlpoaa
