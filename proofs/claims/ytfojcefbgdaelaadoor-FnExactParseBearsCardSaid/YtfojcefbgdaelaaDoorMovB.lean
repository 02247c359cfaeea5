/- Contracts: moving stairs that are valid, lowest terms, on both sides. -/
import Derived.Test.YtfojcefbgdaelaaDoorGSpec
import Derived.Test.YtfojcefbgdaelaaDoorGStruct
import Derived.Test.YtfojcefbgdaelaaDoorGGcd
import Derived.Deep.RegionHeld3
namespace Go.Proofs.YtfojcefbgdaelaaDoor
open Go.RowKit

def movB (x y : Int) : Bool := inB x 1 500 && inB y 0 20
theorem movB_le {x y : Int} (h : movB x y = true) : 1 ≤ x ∧ x ≤ 500 ∧ 0 ≤ y ∧ y ≤ 20 := by
  simp only [movB, Bool.and_eq_true] at h
  have h1 := inB_le h.1
  have h2 := inB_le h.2
  omega
def askB (x y p : Int) : Bool := movB x y && inB p 0 20
theorem askB_le {x y p : Int} (h : askB x y p = true) : 1 ≤ x ∧ x ≤ 500 ∧ 0 ≤ y ∧ y ≤ 20 ∧ 0 ≤ p ∧ p ≤ 20 := by
  simp only [askB, Bool.and_eq_true] at h
  have h1 := movB_le h.1
  have h2 := inB_le h.2
  omega


set_option maxHeartbeats 400000 in
theorem isWithin_any (n lo hi : Int) (w : World) :
    Calls Tryd.prog 81 #[.int .i64 n, .int .i64 lo, .int .i64 hi] w fun e w' => e = .returned (.bool (inB n lo hi)) ∧ w = w' := by
  by_cases h1 : lo ≤ n
  · by_cases h2 : n ≤ hi
    · rw [inB_yes h1 h2]
      go_enter Tryd.func81, Tryd.ntmps81
      go_wp2
      go_ret
      exact ⟨rfl, rfl⟩
    · rw [inB_no (.inr (by omega))]
      go_enter Tryd.func81, Tryd.ntmps81
      go_wp2
      go_ret
      exact ⟨rfl, rfl⟩
  · rw [inB_no (.inl (by omega))]
    go_enter Tryd.func81, Tryd.ntmps81
    go_wp2
    go_ret
    exact ⟨rfl, rfl⟩


set_option maxHeartbeats 400000 in
theorem moGood_any (x y : Int) (w : World) :
    Calls Tryd.prog 51 #[.agg #[.int .i64 x, .int .i64 y]] w fun e w' => e = .returned (.bool (movB x y)) ∧ Below w.heap.size w w' := by
  cases h1 : inB x 1 500
  · rw [show movB x y = false by simp [movB, h1]]
    have H := Lib.hid h1
    clear h1
    go_enter Tryd.func51, Tryd.ntmps51
    go_wp2_with fail
    refine (l1In_any _ _ _ _).mono ?_
    rintro e w' ⟨rfl, rfl⟩
    rw [H.out]
    go_wp2_with fail
    go_ret
    exact ⟨rfl, below_alloc _ _⟩
  · rw [show movB x y = inB y 0 20 by simp [movB, h1]]
    have H := Lib.hid h1
    clear h1
    go_enter Tryd.func51, Tryd.ntmps51
    go_wp2_with fail
    refine (l1In_any _ _ _ _).mono ?_
    rintro e w' ⟨rfl, rfl⟩
    rw [H.out]
    go_wp2_with fail
    refine (l1In_any _ _ _ _).mono ?_
    rintro e w' ⟨rfl, rfl⟩
    go_wp2_with fail
    go_ret
    exact ⟨rfl, below_alloc _ _⟩

set_option maxHeartbeats 400000 in
theorem impMov_any (x y : Int) (w : World) :
    Calls Tryd.prog 53 #[.agg #[.int .i64 x, .int .i64 y]] w fun e w' => e = .returned (.bool (movB x y)) ∧ Below w.heap.size w w' := by
  cases h1 : inB x 1 500
  · rw [show movB x y = false by simp [movB, h1]]
    have H := Lib.hid h1
    clear h1
    go_enter Tryd.func53, Tryd.ntmps53
    go_wp2_with fail
    refine (isWithin_any _ _ _ _).mono ?_
    rintro e w' ⟨rfl, rfl⟩
    rw [H.out]
    go_wp2_with fail
    go_ret
    exact ⟨rfl, below_alloc _ _⟩
  · rw [show movB x y = inB y 0 20 by simp [movB, h1]]
    have H := Lib.hid h1
    clear h1
    go_enter Tryd.func53, Tryd.ntmps53
    go_wp2_with fail
    refine (isWithin_any _ _ _ _).mono ?_
    rintro e w' ⟨rfl, rfl⟩
    rw [H.out]
    go_wp2_with fail
    refine (isWithin_any _ _ _ _).mono ?_
    rintro e w' ⟨rfl, rfl⟩
    go_wp2_with fail
    go_ret
    exact ⟨rfl, below_alloc _ _⟩



end Go.Proofs.YtfojcefbgdaelaaDoor
