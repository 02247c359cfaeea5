/- Contracts: moving stairs that are valid, lowest terms, on both sides. -/
import Derived.Test.YtilfbmjohopckaaDoorGSpec
import Derived.Test.YtilfbmjohopckaaDoorGStruct
import Derived.Test.YtilfbmjohopckaaDoorGGcd
import Derived.Deep.RegionHeld3
namespace Go.Proofs.YtilfbmjohopckaaDoor
open Go.RowKit

def movB (x y : Int) : Bool := inB x 1 500 && inB y 0 20
theorem movB_le {x y : Int} (h : movB x y = true) : 1 ≤ x ∧ x ≤ 500 ∧ 0 ≤ y ∧ y ≤ 20 := by
  simp only [movB, Bool.and_eq_true] at h
  have h1 := inB_le h.1
  have h2 := inB_le h.2
  omega
def askB (x y p : Int) : Bool := movB x y && inB p 0 20
theorem askB_le {x y p : Int} (h : askB x y p = true) : 1 ≤ x ∧ x ≤ 500 ∧ 0 ≤ y ∧ y ≤ 20 ∧ 0 ≤ p ∧ p ≤ 20 := by
  simp only [askB, Bool.and_eq_true] at h
  have h1 := movB_le h.1
  have h2 := inB_le h.2
  omega


set_option maxHeartbeats 400000 in
theorem isWithin_any (n lo hi : Int) (w : World) :
    Calls Tryd.prog 23 #[.int .i64 n, .int .i64 lo, .int .i64 hi] w fun e w' => e = .returned (.bool (inB n lo hi)) ∧ w = w' := by
  by_cases h1 : lo ≤ n
  · by_cases h2 : n ≤ hi
    · rw [inB_yes h1 h2]
      go_enter Tryd.func23, Tryd.ntmps23
      go_wp2
      go_ret
      exact ⟨rfl, rfl⟩
    · rw [inB_no (.inr (by omega))]
      go_enter Tryd.func23, Tryd.ntmps23
      go_wp2
      go_ret
      exact ⟨rfl, rfl⟩
  · rw [inB_no (.inl (by omega))]
    go_enter Tryd.func23, Tryd.ntmps23
    go_wp2
    go_ret
    exact ⟨rfl, rfl⟩






end Go.Proofs.YtilfbmjohopckaaDoor
